/-
  append(b, s...) of a string's bytes.
-/
import Derived.Test.YtfekdbdkcfhkiaaByt
import Derived.Test.YtfekdbdkcfhkiaaOutM
namespace Go.Proofs.Ytfekdbdkcfhkiaa
set_option linter.unusedSimpArgs false
set_option linter.unusedVariables false
open Go.RowKit

theorem append_str_named (w : World) (base : Nat) (v : Value) (ys cs : List UInt8) (s : ByteArray) (hcs : ys ++ s.data.toList = cs) (hown : w.ownsRow base 5 1 v ys.length (bv ys))
    (hb : ys.length + s.size ≤ 140737488355328) (hbase : base ≤ w.heap.size) :
    ∃ A' c' w', (Builtin.append_ #[25, 9] 25 #[v, .string s]).run Try.prog w = .ok (.slice A' cs.length c') w' ∧
      w'.ownsRow base 5 1 (.slice A' cs.length c') cs.length (bv cs) ∧ w.grownBy w' v.ownBlock := by
  subst hcs
  obtain ⟨i0, hi0, hi1⟩ := Option.map_eq_some_iff.1 Try.infoU8
  injection hi1 with hz0 hz1
  injection hz1 with hz1 hz2
  obtain ⟨A1, c1, w1, hrun, ho1, hg1, -⟩ := run_append_str (P := Try.prog) w base 25 9 25 5 i0 Try.underlying25 Try.underlying9 hi0 hz0 hz1 hz2 _ ys.length (bv ys) hown s hb hbase
  have hl : (ys ++ s.data.toList).length = ys.length + s.size := by rw [List.length_append, Array.length_toList]; rfl
  rw [hl, bv_append]
  exact ⟨A1, c1, w1, hrun, ho1, hg1⟩
end Go.Proofs.Ytfekdbdkcfhkiaa
