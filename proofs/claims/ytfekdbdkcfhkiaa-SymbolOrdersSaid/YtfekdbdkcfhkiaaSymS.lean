/-
  The document's Right of layer 10.
-/
import Derived.Test.YtfekdbdkcfhkiaaSymR
import Derived.Test.YtfekdbdkcfhkiaaRefW
namespace Go.Proofs.Ytfekdbdkcfhkiaa
set_option linter.unusedSimpArgs false
set_option linter.unusedVariables false
open Go.RowKit

theorem ok_size (s : ByteArray) : okS s.data.toList = (decide (1 ≤ s.size) && decide (s.size ≤ 8)) := by
  unfold okS
  rw [Array.length_toList]
  rfl
end Go.Proofs.Ytfekdbdkcfhkiaa
