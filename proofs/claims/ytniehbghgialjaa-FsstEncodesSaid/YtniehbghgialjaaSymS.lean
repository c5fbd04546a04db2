/-
  The document's Right of layer 10.
-/
import Derived.Test.YtniehbghgialjaaSymR
import Derived.Test.YtniehbghgialjaaRefW
namespace Go.Proofs.Ytniehbghgialjaa
set_option linter.unusedSimpArgs false
set_option linter.unusedVariables false
open Go.RowKit

theorem ok_size (s : ByteArray) : okS s.data.toList = (decide (1 ≤ s.size) && decide (s.size ≤ 8)) := by
  unfold okS
  rw [Array.length_toList]
  rfl
end Go.Proofs.Ytniehbghgialjaa
