/-
  Slices of structs that came in: what lies in memory, element by element, cell by cell. No program is named here.
-/
import Derived.Test.YtjffbjlniieciaaDoorMem
import Derived.ChangeShapes
import Derived.SizedLaws
import Derived.WideShapes
namespace Go.Proofs.YtjffbjlniieciaaDoor
set_option linter.unusedSimpArgs false
set_option linter.unusedVariables false
open Go.RowKit Go.ChangeShapes Go.WideShapes Go.ChangeAt

theorem list_of {α : Type} {n : Nat} {Q : Nat → α → Prop} (h : ∀ i, i < n → ∃ x, Q i x) : ∃ l : List α, l.length = n ∧ ∀ i (hi : i < l.length), Q i l[i] := by
  induction n with
  | zero => exact ⟨[], rfl, fun i hi => absurd hi (Nat.not_lt_zero i)⟩
  | succ n ih =>
    obtain ⟨l, hl, hq⟩ := ih fun i hi => h i (by omega)
    obtain ⟨x, hx⟩ := h n (by omega)
    refine ⟨l ++ [x], by simp [hl], fun i hi => ?_⟩
    rw [List.length_append, List.length_singleton] at hi
    by_cases e : i < l.length
    · rw [List.getElem_append_left e]; exact hq i e
    · have : i = n := by omega
      subst this
      rw [List.getElem_append_right (by omega)]
      simpa [hl] using hx

/-- n elements of k cells each lie at A -/
structure Els (w : World) (lo hi : Nat) (A : Option Addr) (c k n : Nat) (cell : Nat → Nat → Option Value) : Prop where
  len : n ≤ c
  cap : c ≤ maxLen
  lies : 0 < n → ∃ b off, A = some ⟨b, off, none⟩ ∧ lo ≤ b ∧ b < hi ∧ ∀ j, j < n → ∀ i, i < k → w.cell? ⟨b, off + j * k + i, none⟩ = cell j i
theorem Els.keep {w w' : World} {lo hi c k n : Nat} {A : Option Addr} {cell : Nat → Nat → Option Value} (h : Els w lo hi A c k n cell) (hk : ∀ p : Addr, lo ≤ p.block → p.block < hi → w'.cell? p = w.cell? p) : Els w' lo hi A c k n cell :=
  ⟨h.len, h.cap, fun h0 => by
    obtain ⟨b, off, e, h1, h2, h3⟩ := h.lies h0
    exact ⟨b, off, e, h1, h2, fun j hj i hi => (hk ⟨b, off + j * k + i, none⟩ h1 h2).trans (h3 j hj i hi)⟩⟩
theorem Els.below {w w' : World} {lo hi c k n B : Nat} {A : Option Addr} {cell : Nat → Nat → Option Value} (h : Els w lo hi A c k n cell) (hb : Below B w w') (hB : hi ≤ B) : Els w' lo hi A c k n cell :=
  h.keep fun _ _ hp => hb.cell (by omega)
theorem Els.wide {w : World} {lo hi lo' hi' c k n : Nat} {A : Option Addr} {cell : Nat → Nat → Option Value} (h : Els w lo hi A c k n cell) (h1 : lo' ≤ lo) (h2 : hi ≤ hi') : Els w lo' hi' A c k n cell :=
  ⟨h.len, h.cap, fun h0 => by
    obtain ⟨b, off, e, h3, h4, h5⟩ := h.lies h0
    exact ⟨b, off, e, by omega, by omega, h5⟩⟩
theorem Els.nil (w : World) (lo hi k : Nat) (cell : Nat → Nat → Option Value) : Els w lo hi none 0 k 0 cell := ⟨Nat.le_refl _, by simp [maxLen], fun h => absurd h (Nat.lt_irrefl 0)⟩

variable {H : Type} {enc : TypeId × Value → H} {P : Program} {W : World}
/-- a slice that came in: each element's cells, and that they are read -/
theorem open_els {t e : TypeId} {fuel k : Nat} {cs : List Value} {x : DataW H × List MemPlace} (ht : P.underlying t = some (.slice e)) (hk : P.cellsOf e = k) (h0 : 0 < k)
    (h : DataW.trod enc P W 0 (fun _ => true) true fuel t cs = some x) :
    ∃ (A : Option Addr) (c : Nat) (css : List (List Value)) (m : Nat), m < fuel ∧ cs = [.slice A css.length c] ∧ Els W 0 W.heap.size A c k css.length (fun j i => (css[j]?).bind (·[i]?)) ∧
      ∀ j (hj : j < css.length), css[j].length = k ∧ ∃ y, DataW.trod enc P W 0 (fun _ => true) true m e css[j] = some y := by
  rcases DataW.trod_slice ht h with ⟨rfl, _⟩ | ⟨a, len, cap, elems, rest, n, rfl, rfl, _, hb, hl, hm, hlen, hel, _, _⟩
  · refine ⟨none, 0, [], 0, ?_, rfl, Els.nil _ _ _ _ _, fun j hj => absurd hj (Nat.not_lt_zero j)⟩
    cases fuel with
    | zero => simp [DataW.trod] at h
    | succ n => omega
  · have hex : ∀ i, i < len → ∃ cs', W.cells? 0 (a.add (i * k)) k = some cs' ∧ ∃ y, DataW.trod enc P W 0 (fun _ => true) true n e cs' = some y := fun i hi => by
      have h1 := hel i hi
      rw [hk] at h1
      have h2 : elems[i]? = some elems[i] := List.getElem?_eq_getElem (by omega)
      rw [h2, Option.bind_eq_some_iff] at h1
      obtain ⟨cs', h3, h4⟩ := h1
      exact ⟨cs', h3, _, h4⟩
    obtain ⟨css, hcl, hcs⟩ := list_of hex
    subst hcl
    refine ⟨some a, cap, css, n, Nat.lt_succ_self n, rfl, ⟨hl, hm, fun hp => ?_⟩, fun j hj => ⟨(World.cells?_some (hcs j hj).1).2.1, (hcs j hj).2⟩⟩
    have hfirst : ∃ u, W.cell? a = some u := by
      obtain ⟨_, h2, h3⟩ := World.cells?_some (hcs 0 hp).1
      have h4 := h3 0 h0
      rw [Nat.zero_mul, show (a.add 0).add 0 = a from rfl, List.getElem?_eq_getElem (by omega)] at h4
      exact ⟨_, h4⟩
    obtain ⟨u, hu⟩ := hfirst
    obtain ⟨b, off, spot⟩ := a
    have hspot : spot = none := World.cell?_spot hu
    subst hspot
    have hlt : b < W.heap.size := World.block_lt_of_cell? W _ hu
    have hadd : ∀ d, (⟨b, off, none⟩ : Addr).add d = ⟨b, off + d, none⟩ := fun d => by unfold Addr.add; by_cases h : d = 0 <;> simp [h]
    have hadd2 : ∀ o d, (⟨b, o, none⟩ : Addr).add d = ⟨b, o + d, none⟩ := fun o d => by unfold Addr.add; by_cases h : d = 0 <;> simp [h]
    refine ⟨b, off, rfl, Nat.zero_le _, hlt, fun j hj i hi => ?_⟩
    obtain ⟨_, h2, h3⟩ := World.cells?_some (hcs j hj).1
    have h4 := h3 i hi
    rw [hadd2, hadd2] at h4
    rw [h4, List.getElem?_eq_getElem hj]
    rfl
end Go.Proofs.YtjffbjlniieciaaDoor
