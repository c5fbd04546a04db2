/-
  A dictionary's own strings in plain: their codes are their places; rows that stay.
-/
import Derived.Test.YtihlbcnoficpgaaSkD
namespace Go.Proofs.Ytihlbcnoficpgaa
open Go.RowKit

def idL (n : Nat) : List Int := (List.range n).map fun i : Nat => (i : Int)
theorem idL_len (n : Nat) : (idL n).length = n := by simp [idL]
theorem idL_get (n k : Nat) (h : k < (idL n).length) : (idL n)[k] = (k : Int) := by simp [idL]
theorem code_self {t : List ByteArray} (h : risesL (bytL2 t) = true) {i : Nat} (hi : i < t.length) : codeN (bytL2 t) t[i].data.toList = i ∧ isN (bytL2 t) t[i].data.toList = true ∧ mapN (bytL2 t) t[i].data.toList = (i : Int) := by
  have h1 := (there_iff h t[i].data.toList (i := i) (by rw [bytL2_length]; exact hi)).1 (bytL2_get t i hi)
  refine ⟨?_, decide_eq_true h1.2, ?_⟩
  · unfold codeN
    rw [if_pos h1.2]
    exact h1.1.symm
  · unfold mapN
    rw [if_pos h1.2]
    exact congrArg Int.ofNat h1.1.symm
theorem map_self {t : List ByteArray} (h : risesL (bytL2 t) = true) : (bytL2 t).map (mapN (bytL2 t)) = idL t.length := by
  refine List.ext_getElem (by rw [List.length_map, bytL2_length, idL_len]) fun i h1 h2 => ?_
  rw [idL_len] at h2
  rw [List.getElem_map, idL_get, bytL2_get t i h2]
  exact (code_self h h2).2.2
theorem own_under {w w' : World} {base n B : Nat} {e : TypeId} {v : Value} {xs : List Value} (h : w.ownsRow base e 1 v n xs) (hb : Below B w w') (hB : w.heap.size ≤ B) : w'.ownsRow base e 1 v n xs :=
  own_keep h fun k hk => hb.block k (by have := (own_lt h hk).2; omega)
theorem own_drewN {w : World} {base n : Nat} {e : TypeId} {v : Value} {xs : List Value} (h : w.ownsRow base e 1 v n xs) (m : Nat) : (w.drewN m).ownsRow base e 1 v n xs := own_keep h fun _ _ => rfl
/-- two dictionaries' strings in order are both lists' in order -/
theorem merge_sort {a b x y v : List ByteArray} (ha : SortOf (bytL2 a) (bytL2 x)) (hb : SortOf (bytL2 b) (bytL2 y)) (hv : SortOf (bytL2 x ++ bytL2 y) (bytL2 v)) : SortOf (bytL2 (a ++ b)) (bytL2 v) := by
  refine ⟨hv.1, fun q => ?_⟩
  have e : bytL2 (a ++ b) = bytL2 a ++ bytL2 b := by simp [bytL2]
  rw [hv.2, e, List.mem_append, List.mem_append, ha.2, hb.2]
/-- a string of a dictionary among another's -/
theorem map_there {u : List ByteArray} (h : risesL (bytL2 u) = true) (s : ByteArray) (hs : lowN (bytL2 u) s.data.toList < upN (bytL2 u) s.data.toList) :
    ∃ lo, ∃ hl : lo < u.length, u[lo] = s ∧ mapN (bytL2 u) s.data.toList = (lo : Int) ∧ ∀ k (hk : k < u.length), u[k] = s → k = lo := by
  have h1 := upN_le (bytL2 u) s.data.toList
  rw [bytL2_length] at h1
  have hl : lowN (bytL2 u) s.data.toList < u.length := by omega
  refine ⟨_, hl, ?_, by unfold mapN; rw [if_pos hs], fun k hk e => ?_⟩
  · have h2 := (there_iff h s.data.toList (i := lowN (bytL2 u) s.data.toList) (by rw [bytL2_length]; exact hl)).2 ⟨rfl, hs⟩
    rw [bytL2_get u _ hl] at h2
    exact ByteArray.ext (Array.ext' h2)
  · exact ((there_iff h s.data.toList (i := k) (by rw [bytL2_length]; exact hk)).1 (by rw [bytL2_get u k hk, e])).1
theorem map_not {u : List ByteArray} (h : risesL (bytL2 u) = true) (s : ByteArray) (hs : ¬ lowN (bytL2 u) s.data.toList < upN (bytL2 u) s.data.toList) :
    mapN (bytL2 u) s.data.toList = -1 ∧ ∀ k (hk : k < u.length), ¬ u[k] = s :=
  ⟨by unfold mapN; rw [if_neg hs], fun k hk e => hs ((there_iff h s.data.toList (i := k) (by rw [bytL2_length]; exact hk)).1 (by rw [bytL2_get u k hk, e])).2⟩
end Go.Proofs.Ytihlbcnoficpgaa
