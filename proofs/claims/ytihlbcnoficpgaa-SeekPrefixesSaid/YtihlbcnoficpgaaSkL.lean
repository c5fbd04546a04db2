/-
  The laws of layer 14: contracts at known answers.
-/
import Derived.Test.YtihlbcnoficpgaaSkG
namespace Go.Proofs.Ytihlbcnoficpgaa
set_option linter.unusedSimpArgs false
set_option linter.unusedVariables false
open Go.RowKit

theorem slow_is {w : World} {d : Nat} {t : List ByteArray} (h : Dk w d t) (s : ByteArray) (n : Nat) (hs : s.size ≤ 1000000) (hn : lowN (bytL2 t) s.data.toList = n) :
    Calls Try.prog 12 #[.pointer (some ⟨d, 0, none⟩), .string s] w fun r w' => r = .returned (.int .i64 (n : Int)) ∧ Below w.heap.size w w' := hn ▸ slow_any h s hs
theorem sup_is {w : World} {d : Nat} {t : List ByteArray} (h : Dk w d t) (s : ByteArray) (n : Nat) (hs : s.size ≤ 1000000) (hn : upN (bytL2 t) s.data.toList = n) :
    Calls Try.prog 13 #[.pointer (some ⟨d, 0, none⟩), .string s] w fun r w' => r = .returned (.int .i64 (n : Int)) ∧ Below w.heap.size w w' := hn ▸ sup_any h s hs
theorem scode_is {w : World} {d : Nat} {t : List ByteArray} (h : Dk w d t) (s : ByteArray) (n : Nat) (b : Bool) (hs : s.size ≤ 1000000) (hn : codeN (bytL2 t) s.data.toList = n) (hb : isN (bytL2 t) s.data.toList = b) :
    Calls Try.prog 11 #[.pointer (some ⟨d, 0, none⟩), .string s] w fun r w' => r = .returned (.tuple #[.int .i64 (n : Int), .bool b]) ∧ Below w.heap.size w w' := by
  subst hn; subst hb
  exact scode_any h s hs
theorem spre_is {w : World} {d : Nat} {t : List ByteArray} (h : Dk w d t) (s : ByteArray) (n m : Nat) (hs : s.size ≤ 1000000) (hn : lowN (bytL2 t) s.data.toList = n) (hm : preN (bytL2 t) s.data.toList = m) :
    Calls Try.prog 14 #[.pointer (some ⟨d, 0, none⟩), .string s] w fun r w' => r = .returned (.tuple #[.int .i64 (n : Int), .int .i64 (m : Int)]) ∧ Below w.heap.size w w' := by
  subst hn; subst hm
  exact spre_any h s hs
theorem smap_is {w : World} {d e n : Nat} {t u : List ByteArray} (h : Dk w d t) (k : Dk w e u) (M : List Int) (hM : (bytL2 t).map (mapN (bytL2 u)) = M) (hn : t.length = n) :
    Calls Try.prog 16 #[.pointer (some ⟨d, 0, none⟩), .pointer (some ⟨e, 0, none⟩)] w fun r w' => ∃ A c, r = .returned (.slice A n c) ∧ w'.ownsRow w.heap.size 3 1 (.slice A n c) n (iv M) ∧ Below w.heap.size w w' := by
  subst hn; subst hM
  exact smap_any h k
theorem smerge_is {w : World} {d e n : Nat} {t u : List ByteArray} (h : Dk w d t) (k : Dk w e u) (v : List ByteArray) (hv : SortOf (bytL2 t ++ bytL2 u) (bytL2 v)) (hn : v.length = n) :
    Calls Try.prog 18 #[.pointer (some ⟨d, 0, none⟩), .pointer (some ⟨e, 0, none⟩)] w fun r w' => ∃ A c, r = .returned (.slice A n c) ∧ w'.ownsRow w.heap.size 9 1 (.slice A n c) n (sv v) ∧ Below w.heap.size w w' := by
  refine (smerge_any h k).mono ?_
  rintro r w' ⟨x, A, c, rfl, hx, ho, hb⟩
  have hxv : x = v := by rw [← strsL_bytL2' x, ← strsL_bytL2' v, hx.one hv]
  subst hxv; subst hn
  exact ⟨A, c, rfl, ho, hb⟩
end Go.Proofs.Ytihlbcnoficpgaa
