/-
  train in plain: samples; what is counted.
-/
import Derived.Test.YtpollebfehdnjaaMgS
namespace Go.Proofs.Ytpollebfehdnjaa
set_option linter.unusedSimpArgs false
set_option linter.unusedVariables false

/-- a sample by draws -/
def sampleL (l : List ByteArray) (ds : List Int) : List ByteArray := if l = [] then [] else ds.map fun d => l.getD (d.natAbs % l.length) ⟨#[]⟩
theorem sample_length {l : List ByteArray} (h : l ≠ []) (ds : List Int) : (sampleL l ds).length = ds.length := by rw [sampleL, if_neg h, List.length_map]
theorem tmod_neg (e n : Nat) : (-(e : Int)).tmod (n : Int) = -((e % n : Nat) : Int) := by rw [Int.neg_tmod]; rfl

/-- counted: the names are those that stand in the bag, each once, the counts how often -/
structure Cnt (P ns : List (List UInt8)) (cs : List Nat) : Prop where
  len : ns.length = cs.length
  once : ns.Nodup
  cnt : ∀ i (h : i < ns.length), cs[i]'(by omega) = P.count ns[i]
  mem : ∀ x, x ∈ ns ↔ x ∈ P
theorem Cnt.nil : Cnt [] [] [] := ⟨rfl, List.nodup_nil, fun i h => absurd h (Nat.not_lt_zero i), fun _ => Iff.rfl⟩
theorem Cnt.old {P ns : List (List UInt8)} {cs : List Nat} (h : Cnt P ns cs) {i : Nat} (hi : i < ns.length) (hc : i < cs.length) : Cnt (P ++ [ns[i]]) ns (cs.set i (cs[i] + 1)) := by
  refine ⟨by rw [List.length_set]; exact h.len, h.once, fun j hj => ?_, fun x => ?_⟩
  · rw [List.getElem_set, List.count_append, List.count_singleton]
    by_cases hij : i = j
    · subst hij
      rw [if_pos rfl, h.cnt i hi]
      simp
    · rw [if_neg hij, h.cnt j hj]
      have : ns[i] ≠ ns[j] := fun e => hij ((List.getElem_inj h.once).1 e)
      simp [this]
  · rw [List.mem_append, h.mem, List.mem_singleton]
    refine ⟨Or.inl, fun hx => ?_⟩
    rcases hx with hx | rfl
    · exact hx
    · exact (h.mem _).1 (List.getElem_mem hi)
theorem Cnt.new {P ns : List (List UInt8)} {cs : List Nat} (h : Cnt P ns cs) {s : List UInt8} (hs : s ∉ ns) : Cnt (P ++ [s]) (ns ++ [s]) (cs ++ [1]) := by
  have hl := h.len
  refine ⟨by simp [hl], ?_, fun j hj => ?_, fun x => ?_⟩
  · rw [List.nodup_append]
    exact ⟨h.once, by simp, fun a ha b hb => by
      rw [List.mem_singleton] at hb
      subst hb
      exact fun e => hs (e ▸ ha)⟩
  · rw [List.count_append, List.count_singleton]
    have hs0 : P.count s = 0 := List.count_eq_zero.2 fun hx => hs ((h.mem s).2 hx)
    by_cases hjl : j < ns.length
    · rw [List.getElem_append_left (by omega), List.getElem_append_left hjl, h.cnt j hjl]
      have : s ≠ ns[j] := fun e => hs (e ▸ List.getElem_mem hjl)
      simp [this]
    · have hj2 : j = ns.length := by rw [List.length_append, List.length_singleton] at hj; omega
      subst hj2
      rw [List.getElem_append_right (by omega), List.getElem_append_right (by omega)]
      simp [hs0, hl]
  · rw [List.mem_append, List.mem_append, h.mem]
theorem Cnt.few {P ns : List (List UInt8)} {cs : List Nat} (h : Cnt P ns cs) : ns.length ≤ P.length := h.once.length_le_of_subset fun x hx => (h.mem x).1 hx
theorem Cnt.low {P ns : List (List UInt8)} {cs : List Nat} (h : Cnt P ns cs) {i : Nat} (hi : i < cs.length) : cs[i] ≤ P.length := by
  rw [h.cnt i (by rw [h.len]; exact hi)]
  exact List.count_le_length
end Go.Proofs.Ytpollebfehdnjaa
