/-
  Rows of slices of bytes: appended to, made anew.
  bytes.Join without a separator, laid at this program's numbers.
  The pack's small functions, and the document's: right, fit, size, Width; Power, May, Width, Ints.
  The pack's Put.
-/
import Derived.Test.YtmffpbhiehjlpaaGreatZ17
import Derived.Test.YtmffpbhiehjlpaaGreatZ06
import Derived.Test.YtmffpbhiehjlpaaGreatZ13
import Derived.Test.YtmffpbhiehjlpaaGreatZ01
import Derived.Shelf.Bytes.SlJoin
import Derived.Test.YtmffpbhiehjlpaaGreatRows
import Derived.Test.YtmffpbhiehjlpaaGreatZ02
import Derived.Test.YtmffpbhiehjlpaaGreatZ05
import Derived.Test.YtmffpbhiehjlpaaGreatZ04
import Derived.Laws.MakeOwn
import Derived.Laws.BitsAll
namespace Go.Proofs.YtmffpbhiehjlpaaGreat
set_option linter.unusedSimpArgs false
set_option linter.unusedVariables false
open Go.RowKit
theorem Tryz.infoBs : (Tryz.prog.info? 28).map (fun i => (i.zero, i.size, i.bytes)) = some (some (.slice none 0 0), 1, 24) := by kernel_rfl
def pv (ps : List Part) : List Value := ps.map Part.val
theorem pv_length (ps : List Part) : (pv ps).length = ps.length := by simp [pv]
theorem pv_append (a b : List Part) : pv (a ++ b) = pv a ++ pv b := by simp [pv]
theorem pv_get (ps : List Part) (k : Nat) (h : k < ps.length) : (pv ps)[k]? = some (.slice ps[k].A ps[k].bs.length ps[k].c) := by
  simp [pv, List.getElem?_eq_getElem h, Part.val]
theorem pv_one (ps : List Part) : ∀ u ∈ pv ps, u.oneCell' = true := by
  intro u hu
  obtain ⟨p, _, rfl⟩ := List.mem_map.1 hu
  rfl
def bsL (ps : List Part) : List (List UInt8) := ps.map (·.bs)
theorem bsL_length (ps : List Part) : (bsL ps).length = ps.length := by simp [bsL]
def Prt (w : World) (lo hi : Nat) (ps : List Part) : Prop := ∀ p ∈ ps, Rd w lo hi p.A p.c (bv p.bs)
section
variable {w w' : World} {lo hi lo' hi' B : Nat} {ps : List Part}
theorem Prt.nil (w : World) (lo hi : Nat) : Prt w lo hi [] := fun p hp => (by cases hp)
theorem Prt.below (h : Prt w lo hi ps) (hb : Below B w w') (hB : hi ≤ B) : Prt w' lo hi ps := fun p hp => (h p hp).below hb hB
theorem Prt.wide (h : Prt w lo hi ps) (h1 : lo' ≤ lo) (h2 : hi ≤ hi') : Prt w lo' hi' ps := fun p hp => (h p hp).wide h1 h2
theorem Prt.grown {row : Option Nat} (h : Prt w lo hi ps) (hg : w.grownBy w' row) (hB : hi ≤ w.heap.size) (hr : ∀ g, row = some g → g < lo ∨ hi ≤ g) : Prt w' lo hi ps := fun p hp => (h p hp).grown hg hB hr
theorem Prt.push (h : Prt w lo hi ps) {p : Part} (hp : Rd w lo hi p.A p.c (bv p.bs)) : Prt w lo hi (ps ++ [p]) := fun q hq => by
  rcases List.mem_append.1 hq with hq | hq
  · exact h q hq
  · rw [List.mem_singleton.1 hq]; exact hp
theorem Prt.keep (h : Prt w lo hi ps) (hk : ∀ p : Addr, lo ≤ p.block → p.block < hi → w'.cell? p = w.cell? p) : Prt w' lo hi ps := fun p hp => (h p hp).keep hk
end
structure PR (w : World) (base : Nat) (v : Value) (n : Nat) (ps : List Part) : Prop where
  len : ps.length = n
  own : w.ownsRow base 28 1 v n (pv ps)
  rd : Prt w base w.heap.size ps
  apart : ∀ p ∈ ps, 0 < p.bs.length → ∀ b off, p.A = some ⟨b, off, none⟩ → v.ownBlock ≠ some b
section
variable {w w' : World} {base n : Nat} {v : Value} {ps : List Part}
theorem PR.nil (w : World) (base : Nat) : PR w base (.slice none 0 0) 0 [] := ⟨rfl, ⟨rfl, .inl ⟨rfl, rfl⟩⟩, Prt.nil _ _ _, fun p hp => (by cases hp)⟩
theorem PR.below {B : Nat} (h : PR w base v n ps) (hb : Below B w w') (hB : w.heap.size ≤ B) : PR w' base v n ps :=
  ⟨h.len, own_below h.own hb hB, (h.rd.below hb hB).wide (Nat.le_refl _) hb.size, h.apart⟩
theorem PR.alloc (h : PR w base v n ps) (o : Obj) : PR (w.alloc o) base v n ps := h.below ((Below.refl _ _).alloc (Nat.le_refl _) o) (Nat.le_refl _)
theorem PR.drewN (h : PR w base v n ps) (m : Nat) : PR (w.drewN m) base v n ps := h.below (below_drewN' (Below.refl _ _) m) (Nat.le_refl _)
theorem PR.cur {g : Nat} (h : PR w base v n ps) (hg : w.grownBy w' (some g)) (hgb : g < base) : PR w' base v n ps :=
  ⟨h.len, own_keep h.own fun k hk => hg.block k (own_lt h.own hk).2 (fun e => by injection e with e; have := (own_lt h.own hk).1; omega),
    (h.rd.grown hg (Nat.le_refl _) fun k hk => by cases hk; exact .inl hgb).wide (Nat.le_refl _) hg.size, h.apart⟩
end
theorem PR.read {w : World} {base n c : Nat} {A : Option Addr} {ps : List Part} (h : PR w base (.slice A n c) n ps) : Rd w base w.heap.size A c (pv ps) := Rd.of_own h.own
theorem PR.fresh {w w5 : World} {base n hi c : Nat} {v : Value} {A : Option Addr} {ps : List Part} {bs : List UInt8} (h : PR w base v n ps) (hr : Rd w5 w.heap.size hi A c (bv bs)) :
    0 < bs.length → ∀ b off, A = some ⟨b, off, none⟩ → v.ownBlock ≠ some b := fun h0 b off e e2 => by
  obtain ⟨b', off', e', h1, _⟩ := hr.at_ (by rw [bv_length]; exact h0)
  rw [e] at e'
  cases e'
  have := (own_lt h.own e2).2
  omega
theorem wpList_push_part {ops : Array Oper} {rest : List Oper} {o : Oper} {a : Act} {Q : Exit → Act → World → Prop} {w : World} {v : Value} {g n : Nat} (base : Nat) (ys : List Part) (z : Part) (hgd : o.guard = none) (s x : Operand)
    (ho : o.op = .call { callee := .builtin .append, args := #[s, x], argTypes := #[87, 87] }) (hty : o.type = 87)
    (hs : a.eval s = v) (hx : a.eval x = .slice (some ⟨g, 0, none⟩) 1 1) (hcell : w.cell? ⟨g, 0, none⟩ = some (.slice z.A z.bs.length z.c))
    (hown : PR w base v n ys) (hz : Rd w base w.heap.size z.A z.c (bv z.bs)) (hza : 0 < z.bs.length → ∀ b off, z.A = some ⟨b, off, none⟩ → v.ownBlock ≠ some b) (hb : n + 1 ≤ 1099511627776) (hbase : base ≤ w.heap.size)
    (h : ∀ A' c' w', PR w' base (.slice A' (n + 1) c') (n + 1) (ys ++ [z]) → w.grownBy w' v.ownBlock → wpList Tryz.prog ops Q rest (a.put o.dst (.slice A' (n + 1) c')) w') :
    wpList Tryz.prog ops Q (o :: rest) a w := by
  obtain ⟨hlen, hw, hrd, hap⟩ := hown
  subst hlen
  have hr : Rd w 0 w.heap.size (some ⟨g, 0, none⟩) 1 (pv [z]) := ⟨by simp [pv], by simp [maxLen], fun _ => ⟨g, 0, rfl, Nat.zero_le _, World.block_lt_of_cell? w _ hcell, fun j u hu => by
    match j, hu with
    | 0, hu =>
      simp [pv, Part.val] at hu
      subst hu
      exact hcell
    | j + 1, hu => simp [pv] at hu⟩⟩
  obtain ⟨i0, hi0, hz0, hz1, hz2⟩ := info_parts Tryz.infoBs
  obtain ⟨A', c', w', hrun, h2, h3, h4⟩ := run_append_rd (P := Tryz.prog) w base 87 87 28 i0 _ 24 Tryz.underlying87 hi0 hz0 hz1 hz2 rfl v ys.length (pv ys) hw 0 w.heap.size _ 1 (pv [z]) hr (pv_one _)
    (by simp [pv, maxLen]; omega) (by simp [pv]; omega) hbase
  have hl : (pv [z]).length = 1 := rfl
  rw [hl] at hrun h2 h4
  have hkeep : ∀ p ∈ ys ++ [z], Rd w' base w.heap.size p.A p.c (bv p.bs) ∧ (0 < p.bs.length → ∀ b off, p.A = some ⟨b, off, none⟩ → v.ownBlock ≠ some b) ∧ (0 < p.bs.length → ∀ b off, p.A = some ⟨b, off, none⟩ → b < w.heap.size) := fun p hp => by
    have hpr : Rd w base w.heap.size p.A p.c (bv p.bs) ∧ (0 < p.bs.length → ∀ b off, p.A = some ⟨b, off, none⟩ → v.ownBlock ≠ some b) := by
      rcases List.mem_append.1 hp with hp | hp
      · exact ⟨hrd p hp, hap p hp⟩
      · rw [List.mem_singleton.1 hp]; exact ⟨hz, hza⟩
    refine ⟨⟨hpr.1.len, hpr.1.cap, fun h0 => ?_⟩, hpr.2, fun h0 b off e => ?_⟩
    · obtain ⟨b, off, e, h5, h6, h7⟩ := hpr.1.at_ h0
      rw [bv_length] at h0
      exact ⟨b, off, e, h5, h6, fun j u hu => (World.cell?_of_block (h3.block b h6 (fun e2 => hpr.2 h0 b off e e2.symm))).trans (h7 j u hu)⟩
    · obtain ⟨b', off', e', h5, h6, h7⟩ := hpr.1.at_ (by rw [bv_length]; exact h0)
      rw [e] at e'
      cases e'
      exact h6
  refine wpList_append_run hgd s x _ _ ho hs hx (by rw [hty]; exact hrun) (h A' c' w' ⟨by simp, by rw [pv_append]; exact h2, fun p hp => (hkeep p hp).1.wide (Nat.le_refl _) h3.size, fun p hp h0 b off e => ?_⟩ h3)
  rcases h4 with h4 | h4
  · rw [h4]; exact (hkeep p hp).2.1 h0 b off e
  · rw [h4]
    intro e2
    injection e2 with e2
    have := (hkeep p hp).2.2 h0 b off e
    omega
theorem make_parts (w : World) (n : Nat) (h : n ≤ 4294967295) : ∃ w1, (Instr.makeSlice 87 (.int .i64 (n : Int)) (.int .i64 (n : Int))).run Tryz.prog w = .ok (.slice (some ⟨w.heap.size, 0, none⟩) n n) w1 ∧
    w1.ownsRow w.heap.size 28 1 (.slice (some ⟨w.heap.size, 0, none⟩) n n) n (List.replicate n (.slice none 0 0)) ∧ w.grownBy w1 none := by
  obtain ⟨i0, hi0, hz0, hz1, hz2⟩ := info_parts Tryz.infoBs
  have := run_make_full (P := Tryz.prog) w w.heap.size 87 28 i0 _ 1 Tryz.underlying87 hi0 hz0 hz1 .i64 .i64 n (by rw [hz2]; omega) (by simp only [maxLen]; omega) (Nat.le_refl _)
  rw [Nat.mul_one, show (Value.slice none 0 0).cells = #[.slice none 0 0] from rfl, toList_madeCells_one] at this
  exact this
theorem Rd.part {w : World} {lo hi c : Nat} {A : Option Addr} {ps : List Part} (h : Rd w lo hi A c (pv ps)) {k : Nat} (hk : k < ps.length) :
    ∃ b off, A = some ⟨b, off, none⟩ ∧ lo ≤ b ∧ b < hi ∧ w.cell? ⟨b, off + k, none⟩ = some (.slice ps[k].A ps[k].bs.length ps[k].c) := by
  obtain ⟨b, off, e, h1, h2, h3⟩ := h.at_ (by rw [pv_length]; omega)
  exact ⟨b, off, e, h1, h2, h3 k _ (pv_get ps k hk)⟩
end Go.Proofs.YtmffpbhiehjlpaaGreat
namespace Go.Proofs.YtmffpbhiehjlpaaGreat
set_option maxRecDepth 100000
set_option linter.unusedSimpArgs false
set_option linter.unusedVariables false
open Go.RowKit
def renJ : Go.Shelf.Ren := ⟨fun | 14 => 129 | 15 => 140 | n => n, fun | 0 => 0 | 3 => 3 | 4 => 4 | 5 => 5 | 9 => 9 | 20 => 20 | 22 => 28 | 26 => 87 | n => n, fun n => n⟩
theorem laysJ14 : Go.Proofs.SlLaysJ.n14 Tryz.prog renJ := {
  mixed := by kernel_rfl
  f14 := Tryz.func129.trans (congrArg some (by kernel_rfl))
  f15 := Tryz.func140.trans (congrArg some (by kernel_rfl))
  t0 := Tryz.underlying0
  a0 := Tryz.isAgg0
  z0 := Tryz.sizeOf0
  v0 := Tryz.zeroValue0
  t3 := Tryz.underlying3
  a3 := Tryz.isAgg3
  z3 := Tryz.sizeOf3
  v3 := Tryz.zeroValue3
  t4 := Tryz.underlying4
  a4 := Tryz.isAgg4
  z4 := Tryz.sizeOf4
  v4 := Tryz.zeroValue4
  t9 := Tryz.underlying9
  a9 := Tryz.isAgg9
  z9 := Tryz.sizeOf9
  v9 := Tryz.zeroValue9
  t20 := Tryz.underlying20
  a20 := Tryz.isAgg20
  z20 := Tryz.sizeOf20
  v20 := Tryz.zeroValue20
  t22 := Tryz.underlying28
  a22 := Tryz.isAgg28
  z22 := Tryz.sizeOf28
  v22 := Tryz.zeroValue28
  t26 := Tryz.underlying87
  a26 := Tryz.isAgg87
  z26 := Tryz.sizeOf87
  v26 := Tryz.zeroValue87
  t5 := Tryz.underlying5
  z5 := Tryz.sizeOf5
  i5 := Tryz.infoU8 }
theorem join_flat (xs : List (List UInt8)) : Lib.join xs [] = xs.flatten := by
  cases xs with
  | nil => rfl
  | cons x r => rw [Lib.join_cons, Lib.joinTail]; simp
theorem lens_flat (xs : List (List UInt8)) : Lib.lens xs = xs.flatten.length := by simp [Lib.lens, List.length_flatten]
theorem partsL_bsL (ps : List Part) : (bsL ps).flatten = partsL ps := by simp [bsL, partsL, List.flatMap]
theorem fresh_rd {B : Nat} {w' : World} {v : Value} {l : List UInt8} (h : Lib.FreshBytes B w' v l) : ∃ A' c', v = .slice A' l.length c' ∧ Rd w' B w'.heap.size A' c' (bv l) := by
  obtain ⟨g, cap, zs, rfl, hB, hl, hc, hz, h256, hb, hcell, _⟩ := h
  refine ⟨_, cap, rfl, ⟨by rw [bv_length]; exact hl, hc, fun hp => ?_⟩⟩
  rw [bv_length] at hp
  have h0 := hcell 0 (by omega)
  refine ⟨g, 0, rfl, hB, World.block_lt_of_cell? w' _ h0, fun j u hu => ?_⟩
  have hj : j < l.length := by
    have := (List.getElem?_eq_some_iff.1 hu).1
    rwa [bv_length] at this
  rw [bv_get l j hj] at hu
  cases hu
  have h1 := hcell j (by omega)
  rw [Nat.zero_add, h1]
  have hzj : j < zs.length := by omega
  have e1 : l[j]? = some (UInt8.ofNat zs[j].toNat) := by
    rw [← hb, Lib.bytesOf, List.getElem?_map, List.getElem?_take, if_pos hj, List.getElem?_eq_getElem hzj]
    rfl
  rw [List.getElem?_eq_getElem hj] at e1
  have e2 := Option.some.inj e1
  have h2 := h256 zs[j] (List.getElem_mem hzj)
  rw [List.getD_eq_getElem?_getD, List.getElem?_eq_getElem hzj, e2]
  congr 2
  simp
  omega
theorem bjoin_any {w : World} (ps : List Part) {lo hi c : Nat} {A : Option Addr} (h : Rd w lo hi A c (pv ps)) (hp : Prt w lo hi ps) (hn : ps.length ≤ 1000000) (hb : (partsL ps).length ≤ 100000000000) :
    Calls Tryz.prog 129 #[.slice A ps.length c, .slice none 0 0] w fun r w' => ∃ A' c', r = .returned (.slice A' (partsL ps).length c') ∧ Rd w' w.heap.size w'.heap.size A' c' (bv (partsL ps)) ∧ Below w.heap.size w w' := by
  have hl := h.len
  rw [pv_length] at hl
  match ps, h, hp, hn, hb, hl with
  | [], h, hp, hn, hb, hl =>
    refine (Any.bytes_Join_none laysJ14 A c (.slice none 0 0) w).mono ?_
    rintro r w' ⟨rfl, rfl⟩
    exact ⟨_, 0, rfl, Rd.empty _ _ _ _ _ (by simp [maxLen]), (Below.refl _ _).alloc (Nat.le_refl _) _⟩
  | [p], h, hp, hn, hb, hl =>
    obtain ⟨b, off, rfl, _, _, hcell⟩ := h.part (k := 0) (by simp)
    rw [Nat.add_zero] at hcell
    have hr := hp p List.mem_cons_self
    have e : partsL [p] = p.bs := by simp [partsL]
    rw [e] at hb ⊢
    rcases Nat.eq_zero_or_pos p.bs.length with h0 | h0
    · have hcell' : w.cell? ⟨b, off, none⟩ = some (.slice p.A 0 p.c) := by rw [← h0]; exact hcell
      refine (Any.bytes_Join_one_empty laysJ14 b off c p.A p.c (.slice none 0 0) w hcell').mono ?_
      rintro r w' ⟨rfl, rfl⟩
      have e0 : p.bs = [] := List.eq_nil_of_length_eq_zero h0
      rw [e0]
      exact ⟨none, 0, rfl, Rd.nil _ _ _, Below.refl _ _⟩
    · obtain ⟨g, o2, hA, _, _, hc⟩ := hr.at_ (by rw [bv_length]; exact h0)
      have hcell' : w.cell? ⟨b, off, none⟩ = some (.slice (some ⟨g, o2, none⟩) p.bs.length p.c) := by rw [← hA]; exact hcell
      refine (Any.bytes_Join_one laysJ14 b off c ⟨g, o2, none⟩ p.c p.bs (.slice none 0 0) w hcell' (fun i x hx => ?_) h0 (by omega)).mono ?_
      · have hi := (List.getElem?_eq_some_iff.1 hx).1
        have hxe := (List.getElem?_eq_some_iff.1 hx).2
        rw [show (⟨g, o2, none⟩ : Addr).add i = ⟨g, o2 + i, none⟩ from Lib.add_plain2 g o2 i]
        have := hc i _ (bv_get p.bs i hi)
        rw [hxe] at this
        exact this
      · rintro r w' ⟨v', rfl, hf, hbl⟩
        obtain ⟨A', c', rfl, hrd⟩ := fresh_rd hf
        exact ⟨A', c', rfl, hrd, hbl⟩
  | p :: q :: ps, h, hp, hn, hb, hl =>
    obtain ⟨b, off, rfl, _, _, hcell⟩ := h.part (k := 0) (by simp)
    obtain ⟨b', off', hA, _, _, hall⟩ := h.at_ (by rw [pv_length]; simp)
    cases hA
    have hP : Lib.PartsAt w ⟨b, off, none⟩ (pv (p :: q :: ps)) (bsL (p :: q :: ps)) := by
      refine ⟨by rw [pv_length, bsL_length], fun i v hv => ?_, fun i v l hv hl2 => ?_⟩
      · rw [Lib.add_plain2]
        exact hall i v hv
      · have hi : i < (p :: q :: ps).length := by
          have := (List.getElem?_eq_some_iff.1 hv).1
          rwa [pv_length] at this
        rw [pv_get _ i hi] at hv
        cases hv
        have hle : l = (p :: q :: ps)[i].bs := by
          have : (bsL (p :: q :: ps))[i]? = some (p :: q :: ps)[i].bs := by rw [bsL, List.getElem?_map, List.getElem?_eq_getElem hi]; rfl
          rw [this] at hl2
          exact (Option.some.inj hl2).symm
        subst hle
        have hr := hp _ (List.getElem_mem hi)
        refine ⟨_, _, rfl, fun hn => ?_, fun a ha j x hx => ?_⟩
        · rcases Nat.eq_zero_or_pos ((p :: q :: ps)[i].bs).length with h0 | h0
          · exact List.eq_nil_of_length_eq_zero h0
          · obtain ⟨g, o2, hA, _⟩ := hr.at_ (by rw [bv_length]; exact h0)
            rw [hn] at hA
            cases hA
        · have hj := (List.getElem?_eq_some_iff.1 hx).1
          have hxe := (List.getElem?_eq_some_iff.1 hx).2
          obtain ⟨g, o2, hA, _, _, hc⟩ := hr.at_ (by rw [bv_length]; omega)
          rw [hA] at ha
          cases ha
          rw [Lib.add_plain2]
          have := hc j _ (bv_get _ j hj)
          rw [hxe] at this
          exact this
    have h2 := Any.bytes_Join_many laysJ14 b off (p :: q :: ps).length c (pv (p :: q :: ps)) (bsL (p :: q :: ps)) (.slice none 0 0) [] w (bsL_length _) (by simp) hP hl ⟨none, 0, rfl, fun _ => rfl, fun a ha => (by cases ha)⟩ (by omega)
      (by rw [lens_flat, partsL_bsL]; simp; omega)
    refine h2.mono ?_
    rintro r w' ⟨v', rfl, hf, hbl⟩
    rw [join_flat, partsL_bsL] at hf
    obtain ⟨A', c', rfl, hrd⟩ := fresh_rd hf
    exact ⟨A', c', rfl, hrd, hbl⟩
end Go.Proofs.YtmffpbhiehjlpaaGreat
namespace Go.Proofs.YtmffpbhiehjlpaaGreat
set_option linter.unusedSimpArgs false
set_option linter.unusedVariables false
open Go.RowKit
theorem shr_no {z : Int} {n : Nat} (h : (z / 2 ^ n != 0) = true) : ¬ (0 ≤ z ∧ z < 2 ^ n) := by
  rintro ⟨h0, h1⟩
  rw [Int.ediv_eq_zero_of_lt h0 h1] at h
  cases h
theorem shr_yes {z : Int} {n : Nat} (h : (z / 2 ^ n != 0) = false) : 0 ≤ z ∧ z < 2 ^ n := by
  have hp : (0 : Int) < 2 ^ n := Int.pow_pos (by omega)
  have h0 : z / 2 ^ n = 0 := by simpa using h
  have h1 := Int.mul_ediv_add_emod z (2 ^ n)
  rw [h0, Int.mul_zero] at h1
  have h2 := Int.emod_nonneg z (show (2 : Int) ^ n ≠ 0 by omega)
  have h3 := Int.emod_lt_of_pos z hp
  omega
theorem fit_any {w : World} (zs : List Int) (wd : Int) {lo h' : Nat} {A : Option Addr} {c : Nat} (h : Rd w lo h' A c (iv zs)) :
    Calls Tryz.prog 162 #[.slice A zs.length c, .int .i64 wd] w fun r w' => r = .returned (.bool (fitB zs wd)) ∧ w = w' := by
  have hl := h.len
  have hc := h.cap
  rw [iv_length] at hl
  unfold maxLen at hc
  have H := Lib.hid h
  clear h
  by_cases hr : 0 ≤ wd ∧ wd ≤ 32
  · have hr' : rightB wd = true := decide_eq_true hr
    have HR := Lib.hid hr'
    obtain ⟨hr0, hr1⟩ := hr
    clear hr'
    go_enter Tryz.func162, Tryz.ntmps162
    go_wp2_with fail
    refine (right_is wd true HR.out).mono ?_
    rintro r w' ⟨rfl, rfl⟩
    go_wp2_with fail
    go_loop [12] (fun i => ∃ k : Nat, k ≤ zs.length ∧ i = .int .i64 (k : Int) ∧ ∀ z ∈ zs.take k, 0 ≤ z ∧ z < 2 ^ wd.toNat) (fun i => zs.length - (intOf i).toNat)
    case atStart => exact ⟨0, Nat.zero_le _, rfl, by simp⟩
    case round =>
      obtain ⟨k, hk, rfl, hf⟩ := hrel
      have HF := Lib.hid hf
      clear hf
      by_cases hlt : k < zs.length
      · obtain ⟨b, off, rfl, _, _, hcell⟩ := H.out.num hlt
        have hts : Hid (zs.take (k + 1) = zs.take k ++ [zs[k]]) := by unfold Hid; exact List.take_succ_eq_append_getElem hlt
        have hmem : Hid (zs[k] ∈ zs) := List.getElem_mem hlt
        generalize zs[k] = z at *
        go_wp2
        case roundEnd =>
          have hz := shr_yes (by assumption)
          refine ⟨⟨k + 1, by omega, by go_num, ?_⟩, by simp [intOf]; omega⟩
          intro y hy
          rw [hts.out] at hy
          rcases List.mem_append.1 hy with hy | hy
          · exact HF.out y hy
          · rw [List.mem_singleton.1 hy]; exact hz
        all_goals
          have hz := shr_no (by assumption)
          go_ret
          exact ⟨ret_bool (decide_eq_false fun hf => hz (hf.2.2 _ hmem)).symm, rfl⟩
      · obtain rfl : k = zs.length := by omega
        go_wp2
        go_ret
        exact ⟨ret_bool (decide_eq_true ⟨hr0, hr1, by rw [← List.take_length (l := zs)]; exact HF.out⟩).symm, rfl⟩
  · have hr' : rightB wd = false := decide_eq_false hr
    have HR := Lib.hid hr'
    have hn : Hid (fitB zs wd = false) := decide_eq_false fun hf => hr ⟨hf.1, hf.2.1⟩
    clear hr' hr
    go_enter Tryz.func162, Tryz.ntmps162
    go_wp2_with fail
    refine (right_is wd false HR.out).mono ?_
    rintro r w' ⟨rfl, rfl⟩
    go_wp2
    go_ret
    exact ⟨ret_bool hn.out.symm, rfl⟩
end Go.Proofs.YtmffpbhiehjlpaaGreat
namespace Go.Proofs.YtmffpbhiehjlpaaGreat
set_option linter.unusedSimpArgs false
set_option linter.unusedVariables false
open Go.RowKit
theorem put_step (S n x m : Nat) (hx : x < 2 ^ m) (hS : S < 2 ^ n) (T : Nat) (hT : T = S / 256 ^ (n / 8) + 2 ^ (n % 8) * x) :
    S / 256 ^ (n / 8) < 2 ^ (n % 8) ∧ bytesN ((n + m) / 8) (S + 2 ^ n * x) = bytesN (n / 8) S ++ bytesN ((n % 8 + m) / 8) T ∧ (S + 2 ^ n * x) / 256 ^ ((n + m) / 8) = T / 256 ^ ((n % 8 + m) / 8) := by
  have e2 : 2 ^ n = 256 ^ (n / 8) * 2 ^ (n % 8) := by
    rw [pow256, ← Nat.pow_add]
    congr 1
    omega
  have hp : 0 < 256 ^ (n / 8) := Nat.pow_pos (by omega)
  have hd : (S + 2 ^ n * x) / 256 ^ (n / 8) = T := by
    rw [e2, Nat.mul_assoc, Nat.add_mul_div_left _ _ hp, hT]
  have hq : (n + m) / 8 = n / 8 + (n % 8 + m) / 8 := by omega
  refine ⟨?_, ?_, ?_⟩
  · rw [e2] at hS
    exact Nat.div_lt_of_lt_mul hS
  · rw [hq, bytesN_add, hd, e2, Nat.mul_assoc, bytesN_plus]
  · rw [hq, Nat.pow_add, ← Nat.div_div_eq_div_mul, hd]
def PutAt (m : Nat) (ns : List Nat) (k : Nat) (ys : List UInt8) (x hd : Nat) : Prop :=
  ys = bytesN (k * m / 8) (vsum m (ns.take k)) ∧ x = vsum m (ns.take k) / 256 ^ (k * m / 8) ∧ hd = k * m % 8
theorem putAt_zero (m : Nat) (ns : List Nat) : PutAt m ns 0 [] 0 0 := by simp [PutAt, bytesN, vsum]
theorem putAt_len {m k : Nat} {ns : List Nat} {ys : List UInt8} {x hd : Nat} (h : PutAt m ns k ys x hd) : ys.length = k * m / 8 := by rw [h.1, bytesN_length]
theorem vsum_take {m : Nat} {ns : List Nat} (hf : ∀ x ∈ ns, x < 2 ^ m) {k : Nat} (hk : k ≤ ns.length) : vsum m (ns.take k) < 2 ^ (k * m) := by
  have := vsum_lt m (ns.take k) fun x hx => hf x (List.mem_of_mem_take hx)
  rwa [List.length_take, Nat.min_eq_left hk, Nat.mul_comm] at this
theorem putAt_step {m k : Nat} {ns : List Nat} {ys : List UInt8} {x hd : Nat} (hf : ∀ x ∈ ns, x < 2 ^ m) (h : PutAt m ns k ys x hd) (hk : k < ns.length) (z : Nat) (hz : ns[k] = z) :
    x < 2 ^ hd ∧ z < 2 ^ m ∧ PutAt m ns (k + 1) (ys ++ bytesN ((hd + m) / 8) (x + 2 ^ hd * z)) ((x + 2 ^ hd * z) / 256 ^ ((hd + m) / 8)) ((hd + m) % 8) := by
  obtain ⟨rfl, rfl, rfl⟩ := h
  have hzm : z < 2 ^ m := by rw [← hz]; exact hf _ (List.getElem_mem hk)
  have hS := vsum_take hf (Nat.le_of_lt hk)
  obtain ⟨h1, h2, h3⟩ := put_step (vsum m (ns.take k)) (k * m) z m hzm hS _ rfl
  have e : vsum m (ns.take (k + 1)) = vsum m (ns.take k) + 2 ^ (k * m) * z := by
    rw [List.take_succ_eq_append_getElem hk, vsum_snoc, List.length_take, Nat.min_eq_left (Nat.le_of_lt hk), hz, Nat.mul_comm m]
  have e2 : (k + 1) * m = k * m + m := by rw [Nat.add_mul, Nat.one_mul]
  refine ⟨h1, hzm, ?_, ?_, ?_⟩
  · rw [e2, e, h2]
  · rw [e2, e, h3]
  · rw [e2]; omega
theorem putAt_full {m : Nat} {ns : List Nat} {ys : List UInt8} {x : Nat} (h : PutAt m ns ns.length ys x 0) : ys = packL m ns := by
  obtain ⟨rfl, -, h3⟩ := h
  unfold packL
  rw [List.take_length, show (ns.length * m + 7) / 8 = ns.length * m / 8 from by omega]
theorem putAt_rest {m : Nat} {ns : List Nat} {ys : List UInt8} {x hd : Nat} (h : PutAt m ns ns.length ys x hd) (hd0 : 0 < hd) : ys ++ [UInt8.ofNat (x % 256)] = packL m ns := by
  obtain ⟨rfl, rfl, h3⟩ := h
  unfold packL
  rw [List.take_length, show (ns.length * m + 7) / 8 = ns.length * m / 8 + 1 from by omega, bytesN_snoc]
def InAt (ys : List UInt8) (T j : Nat) (us : List UInt8) (y : Nat) : Prop := us = ys ++ bytesN j T ∧ y = T / 256 ^ j
theorem inAt_zero (ys : List UInt8) (T : Nat) : InAt ys T 0 ys T := by simp [InAt, bytesN]
theorem inAt_len {ys us : List UInt8} {T j y : Nat} (h : InAt ys T j us y) : us.length = ys.length + j := by rw [h.1, List.length_append, bytesN_length]
theorem inAt_le {ys us : List UInt8} {T j y : Nat} (h : InAt ys T j us y) : y ≤ T := by rw [h.2]; exact Nat.div_le_self _ _
theorem inAt_step {ys us : List UInt8} {T j y : Nat} (h : InAt ys T j us y) : InAt ys T (j + 1) (us ++ [UInt8.ofNat (y % 256)]) (y / 256) := by
  obtain ⟨rfl, rfl⟩ := h
  refine ⟨?_, ?_⟩
  · rw [bytesN_snoc, List.append_assoc]
  · rw [Nat.pow_succ, Nat.div_div_eq_div_mul]
theorem or_add (X z D : Nat) (hX : X < 2 ^ D) (hD : D < 8) (hz : z < 2 ^ 32) :
    bits .or .u64 (X : Int) (IntKind.u64.wrap (IntKind.u64.wrap (z : Int) * 2 ^ D)) = ((X + 2 ^ D * z : Nat) : Int) ∧ X + 2 ^ D * z < 1099511627776 := by
  have hp : 2 ^ D ≤ 2 ^ 7 := Nat.pow_le_pow_right (by omega) (by omega)
  have hb : 2 ^ D * z ≤ 2 ^ 7 * (2 ^ 32 - 1) := Nat.mul_le_mul hp (by omega)
  have e1 : IntKind.u64.wrap (z : Int) = (z : Int) := by rw [IntKind.wrap_u64]; omega
  have e2 : (2 : Int) ^ D = ((2 ^ D : Nat) : Int) := by norm_cast
  have e3 : IntKind.u64.wrap ((2 ^ D * z : Nat) : Int) = ((2 ^ D * z : Nat) : Int) := by rw [IntKind.wrap_u64]; omega
  refine ⟨?_, by omega⟩
  rw [e1, e2, Int.mul_comm, ← Int.natCast_mul, e3, u64_or_nat _ _ (by omega) (by omega)]
  congr 1
  rw [Nat.or_comm, Nat.mul_comm, ← Nat.shiftLeft_eq, ← Nat.shiftLeft_add_eq_or_of_lt hX, Nat.add_comm]
theorem make_bytes (w : World) (n : Nat) (h : n ≤ 100000000000000) : ∃ w1, (Instr.makeSlice 28 (.int .i64 0) (.int .i64 (n : Int))).run Tryz.prog w = .ok (.slice (some ⟨w.heap.size, 0, none⟩) 0 n) w1 ∧
    w1.ownsRow w.heap.size 5 1 (.slice (some ⟨w.heap.size, 0, none⟩) 0 n) 0 [] ∧ w.grownBy w1 none := by
  obtain ⟨i0, hi0, hz0, hz1, hz2⟩ := info_parts Tryz.infoU8
  have := run_make_own (P := Tryz.prog) w w.heap.size 28 5 i0 _ 1 Tryz.underlying28 hi0 hz0 hz1 .i64 .i64 n (by rw [hz2]; omega) (by simp only [maxLen]; omega) (Nat.le_refl _)
  simpa using this
theorem fit_is {w : World} (zs : List Int) (wd : Int) (b : Bool) (hb : fitB zs wd = b) {lo h' : Nat} {A : Option Addr} {c : Nat} (h : Rd w lo h' A c (iv zs)) :
    Calls Tryz.prog 162 #[.slice A zs.length c, .int .i64 wd] w fun r w' => r = .returned (.bool b) ∧ w = w' := by
  subst hb
  exact fit_any zs wd h
set_option maxRecDepth 20000 in
set_option maxHeartbeats 1000000 in
theorem pput_yes {w : World} (zs : List Int) (m : Nat) (hf : Fits zs (m : Int)) {h' : Nat} {A : Option Addr} {c : Nat} (h : Rd w 0 h' A c (iv zs)) (hh : h' ≤ w.heap.size) (hlen : zs.length ≤ 4294967295) :
    Calls Tryz.prog 153 #[.slice A zs.length c, .int .i64 (m : Int)] w fun r w' => ∃ A' c', r = .returned (.tuple #[.slice A' (packL m (nats zs)).length c', .int .i64 0]) ∧
      w'.ownsRow w.heap.size 5 1 (.slice A' (packL m (nats zs)).length c') (packL m (nats zs)).length (bv (packL m (nats zs))) ∧ Below w.heap.size w w' := by
  have hm : m ≤ 32 := by have := hf.2.1; omega
  have hnm : zs.length * m ≤ 4294967295 * 32 := Nat.mul_le_mul hlen hm
  generalize hs : (zs.length * m + 7) / 8 = s
  obtain ⟨w1, hmake, hown1, hg1⟩ := make_bytes w s (by omega)
  have k1 : Below w.heap.size w w1 := (Below.refl _ _).grown hg1 (Nat.le_refl _) (by simp)
  have hl := h.len
  have hc := h.cap
  rw [iv_length] at hl
  unfold maxLen at hc
  have H := Lib.hid h
  have H1 := Lib.hid (h.below k1 hh)
  have HS := Lib.hid hs
  have HF := Lib.hid hf
  have HO := Lib.hid hown1
  have K1 := Lib.hid k1
  clear h hs hf hown1 hg1 k1
  go_enter Tryz.func153, Tryz.ntmps153
  go_wp2_with fail
  refine (fit_is zs m true (decide_eq_true HF.out) H.out).mono ?_
  rintro r w' ⟨rfl, rfl⟩
  go_wp2_with fail
  refine (size_is zs.length m s (by omega) HS.out).mono ?_
  rintro r w' ⟨rfl, rfl⟩
  go_wp2_with fail
  have hK := Lib.hid HF.out.nats_lt
  have hN := nats_length zs
  have HN := Lib.hid hN
  clear hN
  go_loopw [6, 7, 8, 22] (fun b x hd i wr => ∃ (k : Nat) (ys : List UInt8) (A' : Option Addr) (c' X D : Nat), k ≤ zs.length ∧ i = .int .i64 (k : Int) ∧ b = .slice A' ys.length c' ∧ x = .int .u64 (X : Int) ∧ hd = .int .i64 (D : Int) ∧
      PutAt m (nats zs) k ys X D ∧ wr.ownsRow w.heap.size 5 1 (.slice A' ys.length c') ys.length (bv ys) ∧ Below w.heap.size w wr) (fun _ _ _ i _ => zs.length - (intOf i).toNat)
  case atStart => exact ⟨0, [], _, _, 0, 0, Nat.zero_le _, rfl, rfl, rfl, rfl, putAt_zero _ _, HO.out, K1.out⟩
  case round =>
    obtain ⟨k, ys, A', c', X, D, hk, rfl, rfl, rfl, rfl, hat, hown, hbel⟩ := hrel
    have HAT := Lib.hid hat
    have HOW := Lib.hid hown
    have HBL := Lib.hid hbel
    have hD : D < 8 := by have := hat.2.2; omega
    by_cases hlt : k < zs.length
    · obtain ⟨b, off, rfl, _, _, hcell⟩ := (H.out.below hbel hh).num hlt
      have hkn : k < (nats zs).length := by rw [nats_length]; exact hlt
      have hzk : (nats zs)[k] = zs[k].toNat := by simp [nats]
      have hz0 := (HF.out.2.2 _ (List.getElem_mem hlt)).1
      obtain ⟨hX, hZ, hnext⟩ := putAt_step HF.out.nats_lt hat hkn _ hzk
      have HX := Lib.hid hnext
      generalize zs[k] = z0 at *
      obtain ⟨z, rfl⟩ := Int.eq_ofNat_of_zero_le hz0
      simp only [Int.toNat_natCast] at HX hZ
      have hz32 : z < 2 ^ 32 := Nat.lt_of_lt_of_le hZ (Nat.pow_le_pow_right (by omega) hm)
      obtain ⟨hor, hT⟩ := or_add X z D hX hD hz32
      have hlen : ys.length ≤ k * m / 8 := Nat.le_of_eq (putAt_len hat)
      have hkm : k * m ≤ zs.length * m := Nat.mul_le_mul_right _ hk
      have hq : (((D : Int) + (m : Int)) / 8) ≤ (((D + m) / 8 : Nat) : Int) := by omega
      have hq' : (((D + m) / 8 : Nat) : Int) ≤ (((D : Int) + (m : Int)) / 8) := by omega
      have hN4 : (D + m) / 8 ≤ 4 := by omega
      have HM : Hid ((((D : Int) + (m : Int)) % 8) = (((D + m) % 8 : Nat) : Int)) := by unfold Hid; omega
      clear hat hown hbel hzk hnext hz0 hX hZ hz32
      generalize X + 2 ^ D * z = T at *
      generalize (D + m) / 8 = N at *
      generalize (D + m) % 8 = D' at *
      obtain ⟨wo, rfl⟩ : ∃ wo : World, wo = wr := ⟨_, rfl⟩
      go_wp2_with fail
      go_loopw [6, 7, 37] (fun b x i wr => ∃ (j : Nat) (us : List UInt8) (A' : Option Addr) (c' y : Nat), j ≤ N ∧ i = .int .i64 (j : Int) ∧ b = .slice A' us.length c' ∧ x = .int .u64 (y : Int) ∧
          InAt ys T j us y ∧ wr.ownsRow w.heap.size 5 1 (.slice A' us.length c') us.length (bv us) ∧ Below w.heap.size w wr) (fun _ _ i _ => N - (intOf i).toNat)
      case atStart => exact ⟨0, ys, _, _, T, Nat.zero_le _, rfl, rfl, rfl, inAt_zero _ _, HOW.out, HBL.out⟩
      case round =>
        obtain ⟨j, us, A2, c2, y, hj, rfl, rfl, rfl, hin, hown, hbel⟩ := hrel
        have HIN := Lib.hid hin
        have HO2 := Lib.hid hown
        have HB2 := Lib.hid hbel
        have hsz := hbel.size
        have hul : us.length ≤ ys.length + j := Nat.le_of_eq (inAt_len hin)
        have hyT := inAt_le hin
        clear hin hown hbel
        by_cases hlj : j < N
        · have HA : Hid ((UInt8.ofNat (y % 256)).toNat = y % 256) := byte_toNat y
          clear hor
          go_wp2_with (at_builtin; refine wpList_push (v := .slice A2 us.length c2) w.heap.size us (UInt8.ofNat (y % 256)) rfl _ _ rfl rfl rfl rfl (by rw [HA.out, World.cell?_alloc_at _ _ _ _ rfl]; rfl) (HO2.out.alloc _) (by omega) (by simp; omega) ?_; intro A3 c3 w3 hown3 hgr3)
          have HO3 := Lib.hid hown3
          have HG3 := Lib.hid hgr3
          clear hown3 hgr3
          go_wp2
          go_roundw
          case rel =>
            refine ⟨j + 1, us ++ [UInt8.ofNat (y % 256)], A3, c3, y / 256, by omega, by go_num, by simp, by go_num, inAt_step HIN.out, HO3.out, ?_⟩
            exact (HB2.out.alloc hsz _).grown HG3.out (by simp; omega) (fun k hk => own_row HO2.out k hk)
          case measure => simp [intOf]; omega
        · obtain rfl : j = N := by omega
          go_wp2
          go_roundw
          case rel =>
            refine ⟨k + 1, us, A2, c2, y, D', by omega, by go_num, rfl, rfl, by rw [HM.out], ?_, HO2.out, HB2.out⟩
            rw [HIN.out.1, HIN.out.2]
            exact HX.out
          case measure => simp [intOf]; omega
    · obtain rfl : k = zs.length := by omega
      have hlen : ys.length ≤ zs.length * m / 8 := Nat.le_of_eq (putAt_len hat)
      have hX := (HF.out.nats_lt)
      have hXD : X < 2 ^ D := by
        have h1 := vsum_take (m := m) (ns := nats zs) (by simpa using HF.out.nats_lt) (k := zs.length) (by rw [HN.out]; exact Nat.le_refl _)
        have h2 := (put_step _ _ 0 0 (by simp) h1 _ rfl).1
        rw [← hat.2.1, ← hat.2.2] at h2
        exact h2
      have hX128 : X < 128 := Nat.lt_of_lt_of_le hXD (Nat.pow_le_pow_right (by omega) (show D ≤ 7 by omega))
      have hsz := hbel.size
      have hat' : PutAt m (nats zs) (nats zs).length ys X D := by rw [HN.out]; exact hat
      by_cases hD0 : D = 0
      · subst hD0
        have HE := Lib.hid (putAt_full hat')
        clear hat hat' hown hbel hX
        go_wp2
        go_ret2
        exact ⟨A', c', by rw [← HE.out]; rfl, by rw [← HE.out]; exact HOW.out, HBL.out⟩
      · have hrest := putAt_rest hat' (by omega)
        rw [Nat.mod_eq_of_lt (show X < 256 by omega)] at hrest
        have HE := Lib.hid hrest
        have hDp : 0 < D := by omega
        have HA : Hid ((UInt8.ofNat X).toNat = X) := by unfold Hid; rw [UInt8.toNat_ofNat']; omega
        clear hat hat' hown hbel hX hrest
        go_wp2_with (at_builtin; refine wpList_push (v := .slice A' ys.length c') w.heap.size ys (UInt8.ofNat X) rfl _ _ rfl rfl rfl rfl (by rw [HA.out, World.cell?_alloc_at _ _ _ _ rfl]; rfl) (HOW.out.alloc _) (by omega) (by simp; omega) ?_; intro A3 c3 w3 hown3 hgr3)
        have HO3 := Lib.hid hown3
        have HG3 := Lib.hid hgr3
        clear hown3 hgr3
        go_wp2
        go_ret2
        refine ⟨A3, c3, by rw [← HE.out, List.length_append]; rfl, by rw [← HE.out]; exact HO3.out, ?_⟩
        exact (HBL.out.alloc hsz _).grown HG3.out (by simp; omega) (fun k hk => own_row HOW.out k hk)
end Go.Proofs.YtmffpbhiehjlpaaGreat
