/-
  Strings as lists of bytes; rows that rise, one more, side by side. No program is named here.
-/
import Derived.Test.YtihlbcnoficpgaaSymM
import Derived.Test.YtihlbcnoficpgaaStrM
namespace Go.Proofs.Ytihlbcnoficpgaa
set_option linter.unusedSimpArgs false
set_option linter.unusedVariables false

/-- strings as lists of bytes -/
def bytL2 (l : List ByteArray) : List (List UInt8) := l.map fun s => s.data.toList
theorem rises_snoc : ∀ (t : List (List UInt8)) (a b : List UInt8), risesL (t ++ [a, b]) = (risesL (t ++ [a]) && decide (cmpL a b < 0))
  | [], a, b => by simp [risesL]
  | [c], a, b => by simp [risesL, Bool.and_assoc]
  | c :: d :: t, a, b => by
    have := rises_snoc (d :: t) a b
    simp only [List.cons_append] at this ⊢
    rw [risesL, risesL, this, Bool.and_assoc]
theorem rises_adj : ∀ {t : List (List UInt8)} {k : Nat} (h : risesL t = true) (hk : k + 1 < t.length), cmpL t[k] t[k + 1] < 0
  | [], k, _, hk => by simp at hk
  | [_], k, _, hk => by simp at hk
  | a :: b :: t, 0, h, _ => (rises_cons.1 h).1
  | a :: b :: t, k + 1, h, hk => by
    have := rises_adj (rises_cons.1 h).2 (k := k) (by simpa using hk)
    exact this
theorem rises_take_succ {t : List (List UInt8)} {k : Nat} (hk : k + 1 < t.length) : risesL (t.take (k + 2)) = (risesL (t.take (k + 1)) && decide (cmpL t[k] t[k + 1] < 0)) := by
  rw [List.take_succ_eq_append_getElem (i := k + 1) (by omega), List.take_succ_eq_append_getElem (i := k) (by omega), List.append_assoc]
  exact rises_snoc _ _ _
theorem bytL2_length (l : List ByteArray) : (bytL2 l).length = l.length := by simp [bytL2]
theorem bytL2_get (l : List ByteArray) (k : Nat) (h : k < l.length) : (bytL2 l)[k]'(by rw [bytL2_length]; exact h) = l[k].data.toList := by simp [bytL2]
theorem rises_at : ∀ {T : List (List UInt8)} {i j : Nat} (h : risesL T = true) (hij : i < j) (hj : j < T.length), cmpL T[i] T[j] < 0
  | [], i, j, _, _, hj => by simp at hj
  | a :: t, 0, j + 1, h, _, hj => by
    have hj' : j < t.length := by simpa using hj
    exact rises_head h _ (List.getElem_mem hj')
  | a :: t, i + 1, j + 1, h, hij, hj => by
    have hj' : j < t.length := by simpa using hj
    exact rises_at (T := t) (rises_tail h) (by omega) hj'
theorem rises_inj {T : List (List UInt8)} {i j : Nat} (h : risesL T = true) (hi : i < T.length) (hj : j < T.length) (e : T[i] = T[j]) : i = j := by
  rcases Nat.lt_trichotomy i j with h1 | h1 | h1
  · have := rises_at h h1 hj
    rw [e, cmpL_same] at this
    omega
  · exact h1
  · have := rises_at h h1 hi
    rw [e, cmpL_same] at this
    omega
end Go.Proofs.Ytihlbcnoficpgaa
