/-
  Arguments opened: slices of whole numbers, and of words of 32 bits.
-/
import Derived.Test.YtcpllbfpbhnjeaaShell
import Derived.Test.YtcpllbfpbhnjeaaIvM
namespace Go.Proofs.Ytcpllbfpbhnjeaa
set_option linter.unusedSimpArgs false
set_option linter.unusedVariables false
open Go.ChangeShapes Go.WideShapes Go.ChangeAt Go.RowKit

/-- a slice of numbers of one kind that came in -/
theorem open_nums {H : Type} {enc : TypeId × Value → H} {P : Program} {W : World} {b0 : Nat} {t e : TypeId} {v : Value} {d : DataW H} {p : List MemPlace} {k : IntKind} (ht : P.underlying t = some (.slice e)) (he : P.underlying e = some (.int k)) (hc : P.cellsOf e = 1)
    (hok : Value.okWide P W .any b0 t v) (h : DataW.Trod enc P W 0 (fun _ => true) true t v d p) : ∃ (A : Option Addr) (zs : List Int) (c : Nat), v = .slice A zs.length c ∧ Rd W 0 W.heap.size A c (zs.map fun z => .int k z) ∧ ∀ z ∈ zs, (Lit.int k z).wf = true := by
  obtain ⟨a0, len0, cap0, rfl⟩ := okWide_slice ht hok
  obtain ⟨fuel, hf⟩ := h
  rcases open_ints ht he hc hf with ⟨hcs, _⟩ | ⟨x, l, c, zs, hcs, _, hl, hm, hz, _, hcell, hwz⟩
  · simp [Value.cells] at hcs
    obtain ⟨rfl, rfl, rfl⟩ := hcs
    exact ⟨none, [], 0, rfl, Rd.nil _ _ _, by simp⟩
  · simp [Value.cells] at hcs
    obtain ⟨rfl, rfl, rfl⟩ := hcs
    have hz' : zs.length = cap0 := by simpa using hz
    refine ⟨some x, zs.take len0, cap0, ?_, ⟨?_, hm, ?_⟩, fun z hz => hwz z (List.mem_of_mem_take hz)⟩
    · simp; omega
    · simp; omega
    · intro hp
      have hp' : 0 < len0 := by simp at hp; omega
      have h0 := hcell 0 (by omega)
      obtain ⟨b, off, spot⟩ := x
      have hspot : spot = none := by simpa [Addr.add] using World.cell?_spot h0
      subst hspot
      refine ⟨b, off, rfl, Nat.zero_le _, ?_, fun j u hu => ?_⟩
      · have := World.block_lt_of_cell? W _ h0
        simpa [Addr.add] using this
      · have hj : j < len0 := by
          rcases Nat.lt_or_ge j len0 with h1 | h1
          · exact h1
          · rw [List.getElem?_eq_none (by simp; omega)] at hu; cases hu
        have hjz : j < zs.length := by omega
        have h1 := hcell j hjz
        have e1 : (⟨b, off, none⟩ : Addr).add j = ⟨b, off + j, none⟩ := by unfold Addr.add; by_cases h0 : j = 0 <;> simp [h0]
        rw [e1] at h1
        rw [h1]
        simp only [List.getElem?_map, List.getElem?_take, if_pos hj, List.getElem?_eq_getElem hjz, Option.map_some] at hu
        rw [← hu, List.getD, List.getElem?_eq_getElem hjz, Option.getD_some]
/-- a slice of whole numbers that came in -/
theorem open_i64s {H : Type} {enc : TypeId × Value → H} {P : Program} {W : World} {b0 : Nat} {t e : TypeId} {v : Value} {d : DataW H} {p : List MemPlace} (ht : P.underlying t = some (.slice e)) (he : P.underlying e = some (.int .i64)) (hc : P.cellsOf e = 1)
    (hok : Value.okWide P W .any b0 t v) (h : DataW.Trod enc P W 0 (fun _ => true) true t v d p) : ∃ (A : Option Addr) (zs : List Int) (c : Nat), v = .slice A zs.length c ∧ (Rd W 0 W.heap.size A c (iv zs) ∧ Word zs) := by
  obtain ⟨A, zs, c, h1, h2, h3⟩ := open_nums ht he hc hok h
  exact ⟨A, zs, c, h1, h2, fun z hz => by have := bounds_i64 (h3 z hz); omega⟩
/-- words of 32 bits as the values of their cells -/
def uv (l : List Nat) : List Value := l.map fun n : Nat => .int .u32 (n : Int)
/-- a slice of words of 32 bits that came in -/
theorem open_u32s {H : Type} {enc : TypeId × Value → H} {P : Program} {W : World} {b0 : Nat} {t e : TypeId} {v : Value} {d : DataW H} {p : List MemPlace} (ht : P.underlying t = some (.slice e)) (he : P.underlying e = some (.int .u32)) (hc : P.cellsOf e = 1)
    (hok : Value.okWide P W .any b0 t v) (h : DataW.Trod enc P W 0 (fun _ => true) true t v d p) : ∃ (A : Option Addr) (ns : List Nat) (c : Nat), v = .slice A ns.length c ∧ (Rd W 0 W.heap.size A c (uv ns) ∧ ∀ n ∈ ns, n ≤ 4294967295) := by
  obtain ⟨A, zs, c, h1, h2, h3⟩ := open_nums ht he hc hok h
  refine ⟨A, zs.map Int.toNat, c, by rw [h1, List.length_map], ?_, ?_⟩
  · have e : uv (zs.map Int.toNat) = zs.map fun z => .int .u32 z := by
      unfold uv
      rw [List.map_map]
      refine List.map_congr_left fun z hz => ?_
      have := bounds_u32 (h3 z hz)
      simp
      omega
    rw [e]
    exact h2
  · intro n hn
    obtain ⟨z, hz, rfl⟩ := List.mem_map.1 hn
    have := bounds_u32 (h3 z hz)
    omega
end Go.Proofs.Ytcpllbfpbhnjeaa
