/-
  The walk of TextSubs.
-/
import Derived.Test.YtbbpfehfceapbaaDoorLawT
import Derived.Test.YtbbpfehfceapbaaDoorRefU
namespace Go.Proofs.YtbbpfehfceapbaaDoor
set_option linter.unusedSimpArgs false
set_option linter.unusedVariables false
open Go.RowKit

set_option maxRecDepth 20000 in
set_option maxHeartbeats 1000000 in
theorem textSubs_walk {w : World} (s : ByteArray) (F : Int) (hF : (Lit.int .i64 F).wf) (N : Int) (hN : (Lit.int .i64 N).wf) (hT : Tabs w) :
    Calls Tryd.prog 4 #[.string s, .int .i64 F, .int .i64 N] w fun r w' => r = .returned (.bool true) ∧ Below w.heap.size w w' := by
  have HT := Lib.hid hT
  clear hT
  have hF' : -9223372036854775808 ≤ F ∧ F ≤ 9223372036854775807 := by simpa [Lit.wf, IntKind.min, IntKind.max, IntKind.signed, IntKind.bits] using hF
  have hN' : -9223372036854775808 ≤ N ∧ N ≤ 9223372036854775807 := by simpa [Lit.wf, IntKind.min, IntKind.max, IntKind.signed, IntKind.bits] using hN
  clear hF hN
  by_cases hs : 2000 < s.size
  · have is : (2000 : Int) < (s.size : Int) := by omega
    go_enter Tryd.func4, Tryd.ntmps4
    go_wp2_with fail
    refine (awake8_any HT.out).mono ?_
    rintro r w1 ⟨rfl, b1⟩
    have HB1 := Lib.hid b1
    clear b1
    go_wp2_with fail
    refine (awake8_any (HT.out.on HB1.out)).mono ?_
    rintro r w2 ⟨rfl, b2⟩
    go_wp2_with fail
    go_ret
    exact ⟨rfl, below_on HB1.out b2⟩
  · have is : ¬ (2000 : Int) < (s.size : Int) := by omega
    have hs6 : s.size ≤ 1000000 := by omega
    go_enter Tryd.func4, Tryd.ntmps4
    go_wp2_with fail
    refine (awake8_any HT.out).mono ?_
    rintro r w1 ⟨rfl, b1⟩
    have HB1 := Lib.hid b1
    clear b1
    go_wp2_with fail
    refine (tsub_any s F N hs6 hF'.1 hF'.2 hN'.1 hN'.2).mono ?_
    rintro r w2 ⟨rfl, b2⟩
    have HB2 := Lib.hid (below_on HB1.out b2)
    clear b2
    go_wp2_with fail
    refine (refSub_any s F N hs6 hF'.1 hF'.2 hN'.1 hN'.2).mono ?_
    rintro r w3 ⟨rfl, m, rfl⟩
    go_wp2_with fail
    go_ret
    exact ⟨by first | rfl | simp, below_drewN' HB2.out m⟩
end Go.Proofs.YtbbpfehfceapbaaDoor
