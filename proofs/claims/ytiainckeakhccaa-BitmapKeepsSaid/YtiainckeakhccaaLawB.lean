/-
  Layer 4's awake: the answers that the document fixes stand.
-/
import Derived.Test.YtiainckeakhccaaBmC
namespace Go.Proofs.Ytiainckeakhccaa
set_option linter.unusedSimpArgs false
set_option linter.unusedVariables false
open Go.RowKit

theorem rd_bools (w : World) (t : TypeId) (l : List Bool) (cs : Array Value) (h : cs.toList = lv l) (hm : l.length ≤ 1000) :
    Rd (w.alloc (.cells cs t)) 0 (w.heap.size + 1) (some ⟨w.heap.size, 0, none⟩) l.length (lv l) := by
  refine ⟨by rw [lv_length]; exact Nat.le_refl _, by simp only [maxLen]; omega, fun _ => ⟨w.heap.size, 0, rfl, Nat.zero_le _, by omega, fun j u hu => ?_⟩⟩
  rw [Nat.zero_add, (Blk.new w t cs).cell]
  rw [← h] at hu
  simpa using hu

def awl : List Bool := [true, false, true]
theorem aw4_put : packB awl = [5] := by decide +kernel
theorem aw4_write : writeB awl = [3, 5] := by
  unfold writeB
  rw [aw4_put, show awl.length = 3 from rfl, putL_small (by omega)]
  rfl

set_option maxRecDepth 20000 in
set_option maxHeartbeats 1000000 in
theorem awake4_any (w : World) : Calls Try.prog 8 #[] w fun r w' => r = .returned (.bool true) ∧ Below w.heap.size w w' := by
  have H0 := Lib.hid (rd_bools w 4 awl #[.bool true, .bool false, .bool true] rfl (by decide))
  have K0 := Lib.hid ((Below.refl w.heap.size w).alloc (Nat.le_refl _) (.cells #[.bool true, .bool false, .bool true] 4))
  have s0 : (w.alloc (.cells #[.bool true, .bool false, .bool true] 4)).heap.size = w.heap.size + 1 := by simp
  go_enter Try.func8, Try.ntmps8
  go_wp2_with fail
  generalize w.alloc (.cells #[.bool true, .bool false, .bool true] 4) = w0 at *
  have h1 := bput_any awl H0.out (by omega) (by decide)
  rw [aw4_put] at h1
  refine h1.mono ?_
  rintro r w1 ⟨A1, c1, rfl, ho1, hb1⟩
  have k1 := below_below K0.out hb1 (by omega)
  obtain ⟨b, off, rfl, _, _, hcell⟩ := (Rd.own ho1).byte (k := 0) (by simp)
  have hcell0 : w1.cell? ⟨b, off, none⟩ = some (.int .u8 5) := hcell
  have H1 := Lib.hid (H0.out.below hb1 (by omega))
  have K1 := Lib.hid k1
  have s1 := hb1.size
  clear ho1 hb1 h1 k1 hcell
  go_wp2_with fail
  refine (count_len awl 3 2 rfl (by decide) H1.out).mono ?_
  rintro r w' ⟨rfl, rfl⟩
  go_wp2_with fail
  refine (rank_any awl 2 1 (by decide) H1.out).mono ?_
  rintro r w' ⟨rfl, rfl⟩
  go_wp2_with fail
  refine (and_any awl awl H1.out H1.out (by omega) (by omega) rfl (by decide)).mono ?_
  rintro r w2 ⟨A2, c2, rfl, ho2, hb2⟩
  have H2 := Lib.hid (H1.out.below hb2 (by omega))
  have K2 := Lib.hid (below_below K1.out hb2 (by omega))
  have s2 := hb2.size
  clear ho2 hb2
  go_wp2_with fail
  have h3 := bwrite_any awl H2.out (by omega) (by decide)
  rw [aw4_write] at h3
  refine h3.mono ?_
  rintro r w3 ⟨A3, c3, rfl, ho3, hb3⟩
  have H3 := Lib.hid (H2.out.below hb3 (by omega))
  have K3 := Lib.hid (below_below K2.out hb3 (by omega))
  have s3 := hb3.size
  clear ho3 hb3 h3
  go_wp2_with fail
  refine (not_any awl H3.out (by omega) (by decide)).mono ?_
  rintro r w4 ⟨A4, c4, rfl, ho4, hb4⟩
  have H4 := Lib.hid (H3.out.below hb4 (by omega))
  have K4 := Lib.hid (below_below K3.out hb4 (by omega))
  have s4 := hb4.size
  clear ho4 hb4
  go_wp2_with fail
  refine (not_any awl H4.out (by omega) (by decide)).mono ?_
  rintro r w5 ⟨A5, c5, rfl, ho5, hb5⟩
  obtain ⟨b5, off5, rfl, _, _, hcell5⟩ := (Rd.own ho5).row (k := 1) (by decide)
  have hcell5' : w5.cell? ⟨b5, off5 + 1, none⟩ = some (.bool true) := hcell5
  have K5 := Lib.hid (below_below K4.out hb5 (by omega))
  clear ho5 hb5 hcell5
  go_wp2
  go_ret
  exact ⟨rfl, K5.out⟩
end Go.Proofs.Ytiainckeakhccaa
