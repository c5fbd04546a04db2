/-
  The document's own Same: whether two lists of bytes are alike.
-/
import Derived.Test.YtepgkdmfoojppaaRows
import Derived.Test.YtepgkdmfoojppaaMem
import Derived.Outline
import Derived.BigQuiet
import Derived.Deep.QuietTactic
namespace Go.Proofs.Ytepgkdmfoojppaa
set_option linter.unusedSimpArgs false
set_option linter.unusedVariables false
open Go.RowKit

theorem same_any {w : World} {lo h' lo2 h2 : Nat} {A B : Option Addr} {c d : Nat} (xs ys : List UInt8) (hx : Rd w lo h' A c (bv xs)) (hy : Rd w lo2 h2 B d (bv ys)) :
    Calls Try.prog 23 #[.slice A xs.length c, .slice B ys.length d] w fun r w' => r = .returned (.bool (decide (xs = ys))) ∧ w = w' := by
  have h1 := run_string_rd (P := Try.prog) w 45 9 5 Try.underlying45 Try.underlying5 Try.underlying9 lo h' A c xs hx
  have h2 := run_string_rd (P := Try.prog) w 45 9 5 Try.underlying45 Try.underlying5 Try.underlying9 lo2 h2 B d ys hy
  clear hx hy
  go_enter Try.func23, Try.ntmps23
  go_wp2
  go_ret
  refine ⟨ret_bool ?_, rfl⟩
  by_cases h : xs = ys
  · simp [h]
  · simp [h]

theorem same_take {w : World} {lo h' lo2 h2 : Nat} {A B : Option Addr} {c d : Nat} (xs ys : List UInt8) (k : Nat) (hk : k ≤ ys.length) (hx : Rd w lo h' A c (bv xs)) (hy : Rd w lo2 h2 B d (bv ys)) (he : xs = ys.take k) :
    Calls Try.prog 23 #[.slice A xs.length c, .slice B k d] w fun r w' => r = .returned (.bool true) ∧ w = w' := by
  have h := same_any xs (ys.take k) hx (by rw [bv_take]; exact hy.take_ k)
  rw [List.length_take, Nat.min_eq_left hk, decide_eq_true he] at h
  exact h


theorem same_len {w : World} {lo h' lo2 h2 n m : Nat} {A B : Option Addr} {c d : Nat} (xs ys : List UInt8) (b : Bool) (hx : Rd w lo h' A c (bv xs)) (hy : Rd w lo2 h2 B d (bv ys)) (hn : xs.length = n) (hm : ys.length = m) (he : decide (xs = ys) = b) :
    Calls Try.prog 23 #[.slice A n c, .slice B m d] w fun r w' => r = .returned (.bool b) ∧ w = w' := by
  subst hn hm he
  exact same_any xs ys hx hy
end Go.Proofs.Ytepgkdmfoojppaa
