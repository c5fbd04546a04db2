/-
  Acts that came in, opened.
-/
import Derived.Test.YtdlpladdofjcfaaShell
import Derived.Deep.SlicePairs
namespace Go.Proofs.Ytdlpladdofjcfaa
set_option linter.unusedSimpArgs false
set_option linter.unusedVariables false
open Go.ChangeShapes Go.WideShapes Go.ChangeAt Go.RowKit Go.Deep

/-- The slice '.slice A n c' has n pairs of numbers. -/
structure RdP (w : World) (lo hi : Nat) (A : Option Addr) (n c : Nat) (d m : Nat → Int) : Prop where
  len : n ≤ c
  cap : c ≤ maxLen
  at_ : 0 < n → ∃ b off, A = some ⟨b, off, none⟩ ∧ lo ≤ b ∧ b < hi ∧ ∀ i, i < n → w.cell? ⟨b, off + i * 2, none⟩ = some (.int .i64 (d i)) ∧ w.cell? ⟨b, off + i * 2 + 1, none⟩ = some (.int .i64 (m i))
theorem RdP.below {w w' : World} {lo hi B n c : Nat} {A : Option Addr} {d m : Nat → Int} (h : RdP w lo hi A n c d m) (hb : Below B w w') (hB : hi ≤ B) : RdP w' lo hi A n c d m :=
  ⟨h.len, h.cap, fun hn => by
    obtain ⟨b, off, e, h1, h2, h3⟩ := h.at_ hn
    exact ⟨b, off, e, h1, h2, fun i hi => ⟨(hb.cell (p := ⟨b, off + i * 2, none⟩) (by simp; omega)).trans (h3 i hi).1, (hb.cell (p := ⟨b, off + i * 2 + 1, none⟩) (by simp; omega)).trans (h3 i hi).2⟩⟩⟩

theorem open_acts {H : Type} {enc : TypeId × Value → H} {W : World} {b0 : Nat} {v : Value} {dd : DataW H} {p : List MemPlace}
    (hok : Value.okWide Try.prog W .any b0 28 v) (h : DataW.Trod enc Try.prog W 0 (fun _ => true) true 28 v dd p) :
    ∃ (A : Option Addr) (dm : Nat × (Nat → Int) × (Nat → Int)) (c : Nat), v = .slice A dm.1 c ∧ RdP W 0 W.heap.size A dm.1 c dm.2.1 dm.2.2 := by
  obtain ⟨a0, len0, cap0, rfl⟩ := okWide_slice Try.underlying28 hok
  obtain ⟨fuel, hf⟩ := h
  rcases open_slice_pairs Try.underlying28 Try.underlying33 (by kernel_rfl) rfl rfl (by kernel_rfl) (by kernel_rfl) hf with ⟨hcs, _⟩ | ⟨a, len, cap, m, n, V0, V1, D0, D1, P0, P1, hcs, _, hl, hm, hmm, _, hi⟩
  · simp [Value.cells] at hcs
    obtain ⟨rfl, rfl, rfl⟩ := hcs
    exact ⟨none, (0, fun _ => 0, fun _ => 0), 0, rfl, Nat.le_refl _, by simp [maxLen], fun h => absurd h (by simp)⟩
  · simp [Value.cells] at hcs
    obtain ⟨rfl, rfl, rfl⟩ := hcs
    have hml : len0 ≤ m := by rw [hmm]; split <;> omega
    have hv : ∀ i, i < len0 → ∃ x y : Int, W.cell? (a.add (i * 2)) = some (.int .i64 x) ∧ W.cell? (a.add (i * 2 + 1)) = some (.int .i64 y) := by
      intro i hi'
      obtain ⟨h1, h2, h3, h4⟩ := hi i (by omega)
      obtain ⟨x, e0, _, _⟩ := DataW.trod_int Try.underlying3 h3
      obtain ⟨y, e1, _, _⟩ := DataW.trod_int Try.underlying3 h4
      simp at e0 e1
      exact ⟨x, y, by rw [h1, e0], by rw [h2, e1]⟩
    let d : Nat → Int := fun i => if h : i < len0 then Classical.choose (hv i h) else 0
    let q : Nat → Int := fun i => if h : i < len0 then Classical.choose (Classical.choose_spec (hv i h)) else 0
    have hdq : ∀ i, i < len0 → W.cell? (a.add (i * 2)) = some (.int .i64 (d i)) ∧ W.cell? (a.add (i * 2 + 1)) = some (.int .i64 (q i)) := by
      intro i hi'
      have := Classical.choose_spec (Classical.choose_spec (hv i hi'))
      simp only [d, q, dif_pos hi']
      exact this
    refine ⟨some a, (len0, d, q), cap0, rfl, hl, hm, fun hp => ?_⟩
    have h0 := (hdq 0 hp).1
    obtain ⟨b, off, spot⟩ := a
    have hspot : spot = none := by simpa [Addr.add] using World.cell?_spot h0
    subst hspot
    have e1 : ∀ j, (⟨b, off, none⟩ : Addr).add j = ⟨b, off + j, none⟩ := fun j => by unfold Addr.add; by_cases h0 : j = 0 <;> simp [h0]
    refine ⟨b, off, rfl, Nat.zero_le _, ?_, fun i hi' => ?_⟩
    · have := World.block_lt_of_cell? W _ h0
      simpa [Addr.add] using this
    · have := hdq i hi'
      rw [e1, e1] at this
      exact this
end Go.Proofs.Ytdlpladdofjcfaa
