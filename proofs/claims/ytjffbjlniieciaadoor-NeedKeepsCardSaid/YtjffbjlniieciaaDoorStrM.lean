/-
  Strings as cells.
-/
import Derived.Test.YtjffbjlniieciaaDoorMem
namespace Go.Proofs.YtjffbjlniieciaaDoor
set_option linter.unusedSimpArgs false
set_option linter.unusedVariables false

/-- strings as the values of their cells -/
def sv (l : List ByteArray) : List Value := l.map .string
theorem sv_length (l : List ByteArray) : (sv l).length = l.length := by simp [sv]
theorem sv_append (a b : List ByteArray) : sv (a ++ b) = sv a ++ sv b := by simp [sv]
theorem sv_drop (l : List ByteArray) (k : Nat) : sv (l.drop k) = (sv l).drop k := by simp [sv, List.map_drop]
theorem sv_take (l : List ByteArray) (k : Nat) : sv (l.take k) = (sv l).take k := by simp [sv, List.map_take]
theorem sv_get (l : List ByteArray) (k : Nat) (h : k < l.length) : (sv l)[k]? = some (.string l[k]) := by simp [sv, List.getElem?_eq_getElem h]
theorem sv_one (l : List ByteArray) : ∀ u ∈ sv l, u.oneCell' = true := by
  intro u hu
  obtain ⟨c, _, rfl⟩ := List.mem_map.1 hu
  rfl
/-- the cell of a string that is read -/
theorem Rd.str {w : World} {lo hi c : Nat} {A : Option Addr} {l : List ByteArray} (h : Rd w lo hi A c (sv l)) {k : Nat} (hk : k < l.length) :
    ∃ b off, A = some ⟨b, off, none⟩ ∧ lo ≤ b ∧ b < hi ∧ w.cell? ⟨b, off + k, none⟩ = some (.string l[k]) := by
  obtain ⟨b, off, e, h1, h2, h3⟩ := h.at_ (by rw [sv_length]; omega)
  exact ⟨b, off, e, h1, h2, h3 k _ (sv_get l k hk)⟩
/-- lists of bytes as strings -/
def strsL (ls : List (List UInt8)) : List ByteArray := ls.map fun l => ⟨l.toArray⟩
theorem strsL_length (ls : List (List UInt8)) : (strsL ls).length = ls.length := by simp [strsL]
theorem strsL_append (a b : List (List UInt8)) : strsL (a ++ b) = strsL a ++ strsL b := by simp [strsL]
end Go.Proofs.YtjffbjlniieciaaDoor
