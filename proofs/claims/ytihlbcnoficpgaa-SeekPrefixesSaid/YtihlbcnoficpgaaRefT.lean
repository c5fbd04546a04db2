/-
  The document's own Text.
-/
import Derived.Test.YtihlbcnoficpgaaRefE
import Derived.Test.YtihlbcnoficpgaaMgC
namespace Go.Proofs.Ytihlbcnoficpgaa
set_option linter.unusedSimpArgs false
set_option linter.unusedVariables false
open Go.RowKit

theorem refText_any {w : World} (s : ByteArray) (hs : s.size ≤ 100000) :
    Calls Try.prog 42 #[.string s] w fun r w' => ∃ A c, r = .returned (.slice A (textL s.data.toList).length c) ∧ w'.ownsRow w.heap.size 5 1 (.slice A (textL s.data.toList).length c) (textL s.data.toList).length (bv (textL s.data.toList)) ∧ Below w.heap.size w w' := by
  have h9 := putL_nine s.size (by omega)
  go_enter Try.func42, Try.ntmps42
  go_wp2_with fail
  refine (refPut_any s.size (by omega)).mono ?_
  rintro r w1 ⟨A, c, rfl, hown, hbel⟩
  have hcv := Lib.run_convert_string_bytes (P := Try.prog) w1 9 46 5 s Try.underlying9 Try.underlying46 Try.underlying5
  have hcap := grownCap_le_maxLen w1 s.size 0 5 (by simp only [maxLen]; omega)
  have hrd := bytesWorld_rd w1 5 s hcap
  have hb2 := bytesWorld_below w1 5 s (Nat.le_refl _)
  have hsz := hb2.size
  obtain ⟨A', c', w2, hrun, hown2, hg2⟩ := append_bytes (Lib.bytesWorld w1 5 s) w.heap.size _ _ s.data.toList (own_below hown hb2 (Nat.le_refl _)) hrd (by have : s.data.toList.length = s.size := rfl; omega) (by have := hbel.size; omega)
  have HO := Lib.hid hown
  have HO2 := Lib.hid hown2
  have HG2 := Lib.hid hg2
  have HB := Lib.hid hbel
  have HB2 := Lib.hid hb2
  clear hown hown2 hg2 hbel hb2 hrd
  go_wp2_with (at_builtin; refine wpList_append_run rfl _ _ _ _ rfl rfl rfl hrun ?_)
  go_ret
  have e : (textL s.data.toList).length = (putL s.size).length + s.data.toList.length := by simp [textL]
  refine ⟨A', c', by rw [e]; rfl, by rw [e]; exact HO2.out, ?_⟩
  refine (HB.out.trans (HB2.out.mono HB.out.size)).grown HG2.out (Nat.le_trans HB.out.size HB2.out.size) (fun k hk => (HO.out.lt k hk).1)
end Go.Proofs.Ytihlbcnoficpgaa
