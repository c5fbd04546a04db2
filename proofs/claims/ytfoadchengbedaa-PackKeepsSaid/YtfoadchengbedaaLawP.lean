/-
  Layer 3's awake: the answers that the document fixes stand.
-/
import Derived.Test.YtfoadchengbedaaPakC
import Derived.Test.YtfoadchengbedaaPakD
import Derived.Test.YtfoadchengbedaaRefQ
namespace Go.Proofs.Ytfoadchengbedaa
set_option linter.unusedSimpArgs false
set_option linter.unusedVariables false
open Go.RowKit

theorem rd_ints (w : World) (t : TypeId) (zs : List Int) (cs : Array Value) (h : cs.toList = iv zs) (hm : zs.length ≤ 1000) :
    Rd (w.alloc (.cells cs t)) 0 (w.heap.size + 1) (some ⟨w.heap.size, 0, none⟩) zs.length (iv zs) := by
  refine ⟨by rw [iv_length]; exact Nat.le_refl _, by simp only [maxLen]; omega, fun _ => ⟨w.heap.size, 0, rfl, Nat.zero_le _, by omega, fun j u hu => ?_⟩⟩
  rw [Nat.zero_add, (Blk.new w t cs).cell]
  rw [← h] at hu
  simpa using hu

theorem aw3_put : packL 2 (nats [1, 2, 3]) = [57] := by decide +kernel
theorem aw3_wide : wide [1, 2, 3] = 2 := by decide +kernel
theorem aw3_write : writeL [1, 2, 3] = [3, 2, 57] := by
  unfold writeL
  rw [aw3_wide, aw3_put, show ([1, 2, 3] : List Int).length = 3 from rfl, putL_small (by omega)]
  rfl
theorem aw3_get : getN [57] 2 1 = 2 := by decide +kernel
theorem aw3_wide2 : wide [4, 1] = 3 := by decide +kernel
theorem aw3_fits : Fits [1, 2, 3] ((2 : Nat) : Int) := by decide
theorem aw3_may : May [1, 2, 3] := by decide
theorem aw3_word : Word [4, 1] := by unfold Word; simp

set_option maxRecDepth 20000 in
set_option maxHeartbeats 400000 in
theorem awake3_any (w : World) : Calls Try.prog 9 #[] w fun r w' => r = .returned (.bool true) ∧ Below w.heap.size w w' := by
  go_enter Try.func9, Try.ntmps9
  go_wp2_with fail
  have h1 := pput_yes [1, 2, 3] 2 aw3_fits (rd_ints w 3 [1, 2, 3] #[.int .i64 1, .int .i64 2, .int .i64 3] rfl (by simp)) (by simp) (by simp)
  rw [aw3_put] at h1
  refine h1.mono ?_
  rintro r w1 ⟨A1, c1, rfl, hown1, hb1⟩
  have k1 := below_below ((Below.refl w.heap.size w).alloc (Nat.le_refl _) (.cells #[.int .i64 1, .int .i64 2, .int .i64 3] 3)) hb1 (by simp)
  have HO1 := Lib.hid hown1
  have K1 := Lib.hid k1
  have s1 := k1.size
  clear hown1 hb1 h1 k1
  go_wp2_with fail
  have h2 := pwrite_yes [1, 2, 3] aw3_may (rd_ints w1 3 [1, 2, 3] #[.int .i64 1, .int .i64 2, .int .i64 3] rfl (by simp)) (by simp) (by simp)
  rw [aw3_write] at h2
  refine h2.mono ?_
  rintro r w2 ⟨A2, c2, rfl, hown2, hb2⟩
  have k2 := below_below ((Below.refl w1.heap.size w1).alloc (Nat.le_refl _) (.cells #[.int .i64 1, .int .i64 2, .int .i64 3] 3)) hb2 (by simp)
  have hr2 := ((Rd.own HO1.out).below k2 (Nat.le_refl _))
  obtain ⟨b, off, rfl, _, _, hcell⟩ := hr2.byte (k := 0) (by simp)
  have hcell0 : w2.cell? ⟨b, off, none⟩ = some (.int .u8 57) := hcell
  have HR2 := Lib.hid (hr2.wide (Nat.zero_le _) (Nat.le_refl _))
  have K2 := Lib.hid (below_below K1.out k2 s1)
  have s2 := k2.size
  clear hown2 hb2 h2 k2 hr2 hcell
  have HG := fun q : Nat => Lib.hid (pget_any (w := w2.drewN q) [57] 2 1 (by omega) (by omega) (by simp) (HR2.out.drewN q))
  rw [aw3_get] at HG
  go_wp2_with (first
    | (go_at_call 16; refine (HG 0).out.mono ?_; rintro r w' ⟨rfl, q, rfl⟩)
    | fail)
  have h4 := width_any (w := (w2.drewN q).alloc (.cells #[.int .i64 4, .int .i64 1] 3)) [4, 1] aw3_word (rd_ints (w2.drewN q) 3 [4, 1] #[.int .i64 4, .int .i64 1] rfl (by simp))
  rw [aw3_wide2] at h4
  refine h4.mono ?_
  rintro r w' ⟨rfl, rfl⟩
  go_wp2
  go_ret
  exact ⟨rfl, (below_drewN' K2.out q).alloc (Nat.le_trans s1 s2) _⟩
end Go.Proofs.Ytfoadchengbedaa
