/-
  What a call may touch: blocks that it is told, and new ones. Rows of a call's own: cut, kept, appended to, and where they lie behind it. No program is named here.
-/
import Derived.Test.YtjffbjlniieciaaDoorMem
namespace Go.Proofs.YtjffbjlniieciaaDoor
set_option linter.unusedSimpArgs false
set_option linter.unusedVariables false
open Go.RowKit

/-- behind w all is as it was, but for the blocks X and new ones -/
structure Out (w w' : World) (X : Nat → Prop) : Prop where
  os : w'.os = w.os
  tape : w'.tape = w.tape
  output : w'.output = w.output
  size : w.heap.size ≤ w'.heap.size
  block : ∀ k, k < w.heap.size → ¬ X k → w'.heap[k]? = w.heap[k]?
section
variable {w w' w2 : World} {X Y : Nat → Prop} {B : Nat}
theorem Out.refl (w : World) (X : Nat → Prop) : Out w w X := ⟨rfl, rfl, rfl, Nat.le_refl _, fun _ _ _ => rfl⟩
theorem Out.trans (h : Out w w' X) (k : Out w' w2 Y) (hY : ∀ i, i < w.heap.size → Y i → X i) : Out w w2 X :=
  ⟨k.os.trans h.os, k.tape.trans h.tape, k.output.trans h.output, Nat.le_trans h.size k.size, fun i hi hx => (k.block i (Nat.lt_of_lt_of_le hi h.size) (fun hy => hx (hY i hi hy))).trans (h.block i hi hx)⟩
theorem Out.of_gb {row : Option Nat} (h : w.grownBy w' row) (hr : ∀ k, row = some k → X k) : Out w w' X :=
  ⟨h.os, h.tape, h.output, h.size, fun i hi hx => h.block i hi (fun e => hx (hr i e.symm))⟩
theorem Out.of_below (h : Below w.heap.size w w') : Out w w' X := ⟨h.os, h.tape, h.output, h.size, fun i hi _ => h.block i hi⟩
theorem Out.below (h : Out w w' X) (hB : B ≤ w.heap.size) (hX : ∀ k, X k → B ≤ k) : Below B w w' :=
  ⟨h.os, h.tape, h.output, h.size, fun i hi => h.block i (by omega) (fun hx => by have := hX i hx; omega)⟩
theorem Out.drewN (h : Out w w' X) (n : Nat) : Out w (w'.drewN n) X := ⟨h.os, h.tape, h.output, h.size, h.block⟩
theorem Out.drew (h : Out w w' X) : Out w w'.drew X := ⟨h.os, h.tape, h.output, h.size, h.block⟩
theorem Out.alloc (h : Out w w' X) (o : Obj) : Out w (w'.alloc o) X := h.trans (Y := fun _ => False) (Out.of_below ((Below.refl _ _).alloc (Nat.le_refl _) o)) (fun _ _ h => h.elim)
theorem Out.setCell (h : Out w w' X) {p : Addr} (hp : X p.block ∨ w.heap.size ≤ p.block) (u : Value) : Out w (w'.setCell p u) X :=
  ⟨h.os, h.tape, h.output, by simpa [World.setCell] using h.size, fun i hi hx => (Below.heap_setCell w' p u i (by
    rintro rfl
    rcases hp with hp | hp
    · exact hx hp
    · omega)).trans (h.block i hi hx)⟩
theorem Out.setRow (h : Out w w' X) {g : Nat} (hp : X g ∨ w.heap.size ≤ g) (cs : Array Value) : Out w (w'.setRow g cs) X :=
  ⟨h.os, h.tape, h.output, by simpa using h.size, fun i hi hx => (setRow_other w' g i cs (fun e => by
    subst e
    rcases hp with hp | hp
    · exact hx hp
    · omega)).trans (h.block i hi hx)⟩
theorem Blk.out {g : Nat} {t : TypeId} {cs : Array Value} (h : Blk w g t cs) (ho : Out w w' X) (hg : ¬ X g) : Blk w' g t cs := (ho.block g h.lt hg).trans h
theorem Rd.out {lo hi c : Nat} {A : Option Addr} {xs : List Value} (h : Rd w lo hi A c xs) (ho : Out w w' X) (hh : hi ≤ w.heap.size) (hX : ∀ k, lo ≤ k → k < hi → ¬ X k) : Rd w' lo hi A c xs :=
  h.keep fun p h1 h2 => World.cell?_of_block (ho.block p.block (by omega) (hX _ h1 h2))

variable {base n : Nat} {e : TypeId} {size : Nat} {v : Value} {xs : List Value}
theorem own_keep (h : w.ownsRow base e size v n xs) (hk : ∀ k, v.ownBlock = some k → w'.heap[k]? = w.heap[k]?) : w'.ownsRow base e size v n xs := by
  obtain ⟨hl, hr⟩ := h
  refine ⟨hl, ?_⟩
  rcases hr with h0 | ⟨g, cap, cur, hv, hg, hb, hrest⟩
  · exact .inl h0
  · exact .inr ⟨g, cap, cur, hv, hg, (hk g (by rw [hv]; rfl)).trans hb, hrest⟩
theorem own_lt (h : w.ownsRow base e size v n xs) {k : Nat} (hk : v.ownBlock = some k) : base ≤ k ∧ k < w.heap.size := h.lt k hk
theorem own_out (h : w.ownsRow base e size v n xs) (ho : Out w w' X) (hX : ∀ k, v.ownBlock = some k → ¬ X k) : w'.ownsRow base e size v n xs :=
  own_keep h fun k hk => ho.block k (own_lt h hk).2 (hX k hk)
/-- a row cut at its end -/
theorem own_cut {A : Option Addr} {c k : Nat} (h : w.ownsRow base e 1 (.slice A n c) n xs) (hk : k ≤ n) : w.ownsRow base e 1 (.slice A k c) k (xs.take k) := by
  obtain ⟨hl, hr⟩ := h
  refine ⟨by rw [List.length_take]; omega, ?_⟩
  rcases hr with ⟨hv, h0⟩ | ⟨g, cap, cur, hv, hg, hb, hn, hm, hs, ht⟩
  · injection hv with h1 h2 h3
    subst h1 h2 h3
    left
    obtain rfl : k = 0 := by omega
    exact ⟨rfl, rfl⟩
  · injection hv with h1 h2 h3
    subst h1 h3
    refine .inr ⟨g, c, cur, rfl, hg, hb, by omega, hm, hs, ?_⟩
    rw [← ht, List.take_take]
    congr 1
    omega
end

section
variable {P : Program} (w : World)
/-- append of a string's bytes onto bytes of the call's own, and where they lie then -/
theorem run_append_str (base : Nat) (t u ty e : TypeId) (i : TypeInfo) (ht : P.underlying t = some (.slice e)) (hu : P.underlying u = some .string) (hi : P.info? e = some i) (hz : i.zero = some (.int .u8 0))
    (hsize : i.size = 1) (hby : i.bytes = 1)
    (v : Value) (n : Nat) (xs : List Value) (hown : w.ownsRow base e 1 v n xs) (s : ByteArray)
    (hbytes : n + s.size ≤ 140737488355328) (hbase : base ≤ w.heap.size) :
    ∃ A' c' w', (Builtin.append_ #[t, u] ty #[v, .string s]).run P w = .ok (.slice A' (n + s.size) c') w' ∧ w'.ownsRow base e 1 (.slice A' (n + s.size) c') (n + s.size) (xs ++ bv s.data.toList) ∧ w.grownBy w' v.ownBlock ∧
      (∀ k, (Value.slice A' (n + s.size) c').ownBlock = some k → v.ownBlock = some k ∨ w.heap.size ≤ k) := by
  obtain ⟨v', w', hrun, ho, hg, _⟩ := Lib.run_append_own_string (P := P) w base t u ty e i ht hu hi hz hsize hby v n xs hown s (by simp only [maxLen]; omega) hbytes hbase
  obtain ⟨A', c', rfl, _⟩ := own_form w' ho
  refine ⟨A', c', w', hrun, by rw [← Lib.strCells_length] at *; exact ho, hg, fun k hk => ?_⟩
  have hxl : xs.length = n := by simpa using hown.1
  rcases hown.2 with ⟨rfl, rfl⟩ | ⟨g, cap, cur, rfl, hb, hgb, hnc, hcm, hcs, htk⟩
  · obtain ⟨v2, w2, hrun2, ho2, _, _⟩ := Lib.run_append_own_string (P := P) w w.heap.size t u ty e i ht hu hi hz hsize hby (.slice none 0 0) 0 xs (by
      have : xs = [] := List.eq_nil_of_length_eq_zero hxl
      subst this
      exact World.ownsRow_nil _ _ _ _) s (by simp only [maxLen]; omega) hbytes (Nat.le_refl _)
    rw [hrun] at hrun2
    injection hrun2 with h1 h2
    subst h1 h2
    exact .inr (own_lt ho2 hk).1
  · by_cases hroom : n + s.size ≤ cap
    · have hr := Lib.run_append_room_string (P := P) w t u ty e i ht hu hi hsize g n cap cur hgb s hroom (by omega)
      rw [hrun] at hr
      injection hr with h1 h2
      injection h1 with h3 h4 h5
      subst h3
      exact .inl hk
    · have hr := Lib.run_append_grow_string (P := P) w t u ty e i _ ht hu hi hz ⟨g, 0, none⟩ n cap xs (by rw [hsize, Nat.mul_one]; exact hxl) (by
        intro j y hj
        have := hown.cells (g := g) (by simp [Value.ownBlock]) j y hj
        exact this) s (by omega) (by simp only [maxLen] at hcm; omega) (by
        rw [hby]
        exact growslice_fits (by omega) (by omega))
      rw [hrun] at hr
      injection hr with h1 h2
      injection h1 with h3 h4 h5
      subst h3
      injection hk with hk
      right
      rw [← hk]
      exact Nat.le_refl _
end
end Go.Proofs.YtjffbjlniieciaaDoor
