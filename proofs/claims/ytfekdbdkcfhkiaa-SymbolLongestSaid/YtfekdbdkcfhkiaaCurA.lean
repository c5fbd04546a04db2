/-
  The cursor's small functions, each by what it answers and what it leaves: clone, New, Good, Left, Fail.
-/
import Derived.Test.YtfekdbdkcfhkiaaRows
import Derived.Test.YtfekdbdkcfhkiaaMem
import Derived.Test.YtfekdbdkcfhkiaaByt
import Derived.Outline
import Derived.BigQuiet
import Derived.Deep.QuietTactic
namespace Go.Proofs.Ytfekdbdkcfhkiaa
set_option linter.unusedSimpArgs false
set_option linter.unusedVariables false
open Go.RowKit

theorem clone_any (bs : List UInt8) (w : World) {lo h' : Nat} {A : Option Addr} {c : Nat} (h : Rd w lo h' A c (bv bs)) (hb : bs.length ≤ 140737488355328) :
    Calls Try.prog 27 #[.slice A bs.length c] w fun e w' => ∃ A' c', e = .returned (.slice A' bs.length c') ∧
      w'.ownsRow w.heap.size 5 1 (.slice A' bs.length c') bs.length (bv bs) ∧ Below w.heap.size w w' := by
  obtain ⟨A', c', w', hrun, hown, hg⟩ := append_bytes w w.heap.size (.slice none 0 0) [] bs (World.ownsRow_nil ..) h (by simpa using hb) (Nat.le_refl _)
  simp only [List.length_nil, Nat.zero_add, List.nil_append] at hrun hown
  go_enter Try.func27, Try.ntmps27
  go_wp2_with (at_builtin; refine wpList_append_run rfl _ _ _ _ rfl rfl rfl hrun ?_)
  go_ret
  exact ⟨A', c', rfl, hown, below_of_gb (Nat.le_refl _) hg (by simp [Value.ownBlock])⟩

/-- At block g lies a cursor over bs, at place k, with the error e; its bytes lie in a block from lo on, ahead of g. -/
def Cur (w : World) (lo g : Nat) (bs : List UInt8) (k : Nat) (e : Int) : Prop :=
  ∃ A c, Blk w g 48 #[.slice A bs.length c, .int .i64 (k : Int), .int .i64 e] ∧ Rd w lo g A c (bv bs) ∧ k ≤ bs.length ∧ lo ≤ g
def cp (g : Nat) : Value := .pointer (some ⟨g, 0, none⟩)
section
variable {w w' : World} {lo g k : Nat} {bs : List UInt8} {e : Int}
theorem Cur.grown {row : Option Nat} (h : Cur w lo g bs k e) (hg : w.grownBy w' row) (hr : ∀ x, row = some x → x < lo ∨ g < x) : Cur w' lo g bs k e := by
  obtain ⟨A, c, hb, hrd, hk, hl⟩ := h
  exact ⟨A, c, hb.grown hg (fun e => by have := hr _ e.symm; omega), hrd.grown hg (by have := hb.lt; omega) (fun x hx => by have := hr x hx; omega), hk, hl⟩
theorem Cur.drewN (h : Cur w lo g bs k e) (n : Nat) : Cur (w.drewN n) lo g bs k e := by
  obtain ⟨A, c, hb, hrd, hk, hl⟩ := h
  exact ⟨A, c, hb.drewN n, hrd.drewN n, hk, hl⟩
theorem Cur.base (h : Cur w lo g bs k e) : lo ≤ g := by obtain ⟨_, _, _, _, _, hl⟩ := h; exact hl
theorem Cur.lt (h : Cur w lo g bs k e) : g < w.heap.size := by obtain ⟨_, _, hb, _⟩ := h; exact hb.lt
end

theorem new_any (bs : List UInt8) (w : World) {lo h' : Nat} {A : Option Addr} {c : Nat} (h : Rd w lo h' A c (bv bs)) (hb : bs.length ≤ 140737488355328) :
    Calls Try.prog 16 #[.slice A bs.length c] w fun e w' => ∃ g, e = .returned (.pointer (some ⟨g, 0, none⟩)) ∧ Cur w' w.heap.size g bs 0 0 ∧ Below w.heap.size w w' := by
  go_enter Try.func16, Try.ntmps16
  go_wp2_with fail
  refine (clone_any bs _ h hb).mono ?_
  rintro e w1 ⟨A', c', rfl, hown, hbel⟩
  go_wp2_with fail
  go_ret
  refine ⟨_, rfl, ⟨A', c', Blk.new _ _ _, (Rd.of_own hown).alloc (Nat.le_refl _) _, Nat.zero_le _, hbel.size⟩, hbel.alloc hbel.size _⟩

theorem good_any {w : World} {lo g k : Nat} {bs : List UInt8} {e : Int} (h : Cur w lo g bs k e) :
    Calls Try.prog 32 #[cp g] w fun x w' => x = .returned (.bool (e == 0)) ∧ w = w' := by
  obtain ⟨A, c, hb, -, -, -⟩ := h
  have h2 := hb.cell 2
  simp at h2
  clear hb
  unfold cp
  go_enter Try.func32, Try.ntmps32
  go_wp2
  go_ret
  exact ⟨rfl, rfl⟩

theorem left_any {w : World} {lo g k : Nat} {bs : List UInt8} {e : Int} (h : Cur w lo g bs k e) :
    Calls Try.prog 19 #[cp g] w fun x w' => x = .returned (.int .i64 ((bs.length - k : Nat) : Int)) ∧ ∃ n, w' = w.drewN n := by
  obtain ⟨A, c, hb, hrd, hk, -⟩ := h
  have h0 := hb.cell 0
  have h1 := hb.cell 1
  simp at h0 h1
  have hm := hrd.len
  have hm' := hrd.cap
  rw [bv_length] at hm
  unfold maxLen at hm'
  clear hb hrd
  unfold cp
  rw [Int.ofNat_sub hk]
  go_enter Try.func19, Try.ntmps19
  go_wp2
  go_quiet (fail)
  go_wp2
  go_ret
  exact ⟨rfl, _, rfl⟩
end Go.Proofs.Ytfekdbdkcfhkiaa
