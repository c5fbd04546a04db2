/-
  The cursor's small functions, each by what it answers and what it leaves: clone, New, Good, Left, Fail.
-/
import Derived.Test.YtdlpladdofjcfaaRows
import Derived.Test.YtdlpladdofjcfaaMem
import Derived.Outline
import Derived.BigQuiet
import Derived.Deep.QuietTactic
namespace Go.Proofs.Ytdlpladdofjcfaa
set_option linter.unusedSimpArgs false
set_option linter.unusedVariables false
open Go.RowKit

theorem Try.infoU8 : (Try.prog.info? 5).map (fun i => (i.zero, i.size, i.bytes)) = some (some (.int .u8 0), 1, 1) := by kernel_rfl

/-- append of bytes onto bytes of the call's own, in this program -/
theorem append_bytes (w : World) (base : Nat) (v : Value) (ys bs : List UInt8) (hown : w.ownsRow base 5 1 v ys.length (bv ys)) {lo h' : Nat} {A : Option Addr} {c : Nat} (hr : Rd w lo h' A c (bv bs))
    (hb : ys.length + bs.length ≤ 140737488355328) (hbase : base ≤ w.heap.size) :
    ∃ A' c' w', (Builtin.append_ #[24, 24] 24 #[v, .slice A bs.length c]).run Try.prog w = .ok (.slice A' (ys.length + bs.length) c') w' ∧
      w'.ownsRow base 5 1 (.slice A' (ys.length + bs.length) c') (ys.length + bs.length) (bv (ys ++ bs)) ∧ w.grownBy w' v.ownBlock := by
  obtain ⟨i0, hi0, hz0, hz1, hz2⟩ := info_parts Try.infoU8
  have hl := bv_length bs
  obtain ⟨A', c', w', hrun, h2, h3, _⟩ := run_append_rd (P := Try.prog) w base 24 24 5 i0 _ 1 Try.underlying24 hi0 hz0 hz1 hz2 rfl v ys.length (bv ys) hown lo h' A c (bv bs) hr (bv_one _)
    (by rw [hl]; simp only [maxLen]; omega) (by rw [hl]; omega) hbase
  rw [hl] at hrun h2
  exact ⟨A', c', w', hrun, by rw [bv_append]; exact h2, h3⟩

/-- the same, what comes of it under a name of its own -/
theorem append_named (w : World) (base : Nat) (v : Value) (ys bs cs : List UInt8) (hcs : ys ++ bs = cs) (hown : w.ownsRow base 5 1 v ys.length (bv ys)) {lo h' : Nat} {A : Option Addr} {c : Nat} (hr : Rd w lo h' A c (bv bs))
    (hb : ys.length + bs.length ≤ 140737488355328) (hbase : base ≤ w.heap.size) :
    ∃ A' c' w', (Builtin.append_ #[24, 24] 24 #[v, .slice A bs.length c]).run Try.prog w = .ok (.slice A' cs.length c') w' ∧
      w'.ownsRow base 5 1 (.slice A' cs.length c') cs.length (bv cs) ∧ w.grownBy w' v.ownBlock := by
  subst hcs
  rw [List.length_append]
  exact append_bytes w base v ys bs hown hr hb hbase

/-- append of one byte that a new block holds -/
theorem wpList_push {ops : Array Oper} {rest : List Oper} {o : Oper} {a : Act} {Q : Exit → Act → World → Prop} {w : World} {v : Value} {g : Nat} (base : Nat) (ys : List UInt8) (b : UInt8) (hgd : o.guard = none) (s x : Operand)
    (ho : o.op = .call { callee := .builtin .append, args := #[s, x], argTypes := #[24, 24] }) (hty : o.type = 24)
    (hs : a.eval s = v) (hx : a.eval x = .slice (some ⟨g, 0, none⟩) 1 1) (hcell : w.cell? ⟨g, 0, none⟩ = some (.int .u8 (b.toNat : Int)))
    (hown : w.ownsRow base 5 1 v ys.length (bv ys)) (hb : ys.length + 1 ≤ 140737488355328) (hbase : base ≤ w.heap.size)
    (h : ∀ A' c' w', w'.ownsRow base 5 1 (.slice A' (ys ++ [b]).length c') (ys ++ [b]).length (bv (ys ++ [b])) → w.grownBy w' v.ownBlock → wpList Try.prog ops Q rest (a.put o.dst (.slice A' (ys.length + 1) c')) w') :
    wpList Try.prog ops Q (o :: rest) a w := by
  have hr : Rd w 0 w.heap.size (some ⟨g, 0, none⟩) 1 (bv [b]) := ⟨by simp [bv], by simp [maxLen], fun _ => ⟨g, 0, rfl, Nat.zero_le _, World.block_lt_of_cell? w _ hcell, fun j u hu => by
    match j, hu with
    | 0, hu =>
      simp [bv] at hu
      subst hu
      exact hcell
    | j + 1, hu => simp [bv] at hu⟩⟩
  obtain ⟨A', c', w', hrun, h2, h3⟩ := append_bytes w base v ys [b] hown hr (by simpa using hb) hbase
  refine wpList_append_run hgd s x _ _ ho hs hx (by rw [hty]; exact hrun) (h A' c' w' (by simpa using h2) h3)

theorem clone_any (bs : List UInt8) (w : World) {lo h' : Nat} {A : Option Addr} {c : Nat} (h : Rd w lo h' A c (bv bs)) (hb : bs.length ≤ 140737488355328) :
    Calls Try.prog 24 #[.slice A bs.length c] w fun e w' => ∃ A' c', e = .returned (.slice A' bs.length c') ∧
      w'.ownsRow w.heap.size 5 1 (.slice A' bs.length c') bs.length (bv bs) ∧ Below w.heap.size w w' := by
  obtain ⟨A', c', w', hrun, hown, hg⟩ := append_bytes w w.heap.size (.slice none 0 0) [] bs (World.ownsRow_nil ..) h (by simpa using hb) (Nat.le_refl _)
  simp only [List.length_nil, Nat.zero_add, List.nil_append] at hrun hown
  go_enter Try.func24, Try.ntmps24
  go_wp2_with (at_builtin; refine wpList_append_run rfl _ _ _ _ rfl rfl rfl hrun ?_)
  go_ret
  exact ⟨A', c', rfl, hown, below_of_gb (Nat.le_refl _) hg (by simp [Value.ownBlock])⟩

/-- At block g lies a cursor over bs, at place k, with the error e; its bytes lie in a block from lo on, ahead of g. -/
def Cur (w : World) (lo g : Nat) (bs : List UInt8) (k : Nat) (e : Int) : Prop :=
  ∃ A c, Blk w g 47 #[.slice A bs.length c, .int .i64 (k : Int), .int .i64 e] ∧ Rd w lo g A c (bv bs) ∧ k ≤ bs.length ∧ lo ≤ g
def cp (g : Nat) : Value := .pointer (some ⟨g, 0, none⟩)
section
variable {w w' : World} {lo g k : Nat} {bs : List UInt8} {e : Int}
theorem Cur.grown {row : Option Nat} (h : Cur w lo g bs k e) (hg : w.grownBy w' row) (hr : ∀ x, row = some x → x < lo ∨ g < x) : Cur w' lo g bs k e := by
  obtain ⟨A, c, hb, hrd, hk, hl⟩ := h
  exact ⟨A, c, hb.grown hg (fun e => by have := hr _ e.symm; omega), hrd.grown hg (by have := hb.lt; omega) (fun x hx => by have := hr x hx; omega), hk, hl⟩
theorem Cur.drewN (h : Cur w lo g bs k e) (n : Nat) : Cur (w.drewN n) lo g bs k e := by
  obtain ⟨A, c, hb, hrd, hk, hl⟩ := h
  exact ⟨A, c, hb.drewN n, hrd.drewN n, hk, hl⟩
theorem Cur.base (h : Cur w lo g bs k e) : lo ≤ g := by obtain ⟨_, _, _, _, _, hl⟩ := h; exact hl
theorem Cur.lt (h : Cur w lo g bs k e) : g < w.heap.size := by obtain ⟨_, _, hb, _⟩ := h; exact hb.lt
end

theorem new_any (bs : List UInt8) (w : World) {lo h' : Nat} {A : Option Addr} {c : Nat} (h : Rd w lo h' A c (bv bs)) (hb : bs.length ≤ 140737488355328) :
    Calls Try.prog 13 #[.slice A bs.length c] w fun e w' => ∃ g, e = .returned (.pointer (some ⟨g, 0, none⟩)) ∧ Cur w' w.heap.size g bs 0 0 ∧ Below w.heap.size w w' := by
  go_enter Try.func13, Try.ntmps13
  go_wp2_with fail
  refine (clone_any bs _ h hb).mono ?_
  rintro e w1 ⟨A', c', rfl, hown, hbel⟩
  go_wp2_with fail
  go_ret
  refine ⟨_, rfl, ⟨A', c', Blk.new _ _ _, (Rd.of_own hown).alloc (Nat.le_refl _) _, Nat.zero_le _, hbel.size⟩, hbel.alloc hbel.size _⟩

theorem good_any {w : World} {lo g k : Nat} {bs : List UInt8} {e : Int} (h : Cur w lo g bs k e) :
    Calls Try.prog 22 #[cp g] w fun x w' => x = .returned (.bool (e == 0)) ∧ w = w' := by
  obtain ⟨A, c, hb, -, -, -⟩ := h
  have h2 := hb.cell 2
  simp at h2
  clear hb
  unfold cp
  go_enter Try.func22, Try.ntmps22
  go_wp2
  go_ret
  exact ⟨rfl, rfl⟩

theorem left_any {w : World} {lo g k : Nat} {bs : List UInt8} {e : Int} (h : Cur w lo g bs k e) :
    Calls Try.prog 21 #[cp g] w fun x w' => x = .returned (.int .i64 ((bs.length - k : Nat) : Int)) ∧ ∃ n, w' = w.drewN n := by
  obtain ⟨A, c, hb, hrd, hk, -⟩ := h
  have h0 := hb.cell 0
  have h1 := hb.cell 1
  simp at h0 h1
  have hm := hrd.len
  have hm' := hrd.cap
  rw [bv_length] at hm
  unfold maxLen at hm'
  clear hb hrd
  unfold cp
  rw [Int.ofNat_sub hk]
  go_enter Try.func21, Try.ntmps21
  go_wp2
  go_quiet (fail)
  go_wp2
  go_ret
  exact ⟨rfl, _, rfl⟩
end Go.Proofs.Ytdlpladdofjcfaa
