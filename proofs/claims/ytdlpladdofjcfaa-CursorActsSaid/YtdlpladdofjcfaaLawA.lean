/-
  awake: the answers that the document fixes stand.
-/
import Derived.Test.YtdlpladdofjcfaaCurD
import Derived.Test.YtdlpladdofjcfaaRefE
namespace Go.Proofs.Ytdlpladdofjcfaa
set_option linter.unusedSimpArgs false
set_option linter.unusedVariables false
open Go.RowKit

theorem aw1 : mostR [172, 2, 1, 120] 0 0 9223372036854775807 = (300, 2, 0) := by decide +kernel
theorem aw2 : textR [172, 2, 1, 120] 2 0 = ([120], 4, 0) := by decide +kernel
theorem aw3 : putL 300 = [172, 2] := by rw [putL_big (by omega), putL_small (by omega)]; rfl
theorem aw4 : textL [120] = [1, 120] := by
  unfold textL
  rw [show [(120 : UInt8)].length = 1 from rfl, putL_small (by omega)]
  rfl

theorem takeR_all (bs : List UInt8) : takeR bs 0 0 0 (bs.length : Int) = (bs, bs.length, 0) := by
  have h : ¬ ((bs.length : Int) < 0) := by omega
  simp [takeR, h]
theorem own_lit (w : World) (l : List UInt8) (cs : Array Value) (h : cs.toList = bv l) (hm : l.length ≤ 1000) : (w.alloc (.cells cs 5)).ownsRow w.heap.size 5 1 (.slice (some ⟨w.heap.size, 0, none⟩) l.length l.length) l.length (bv l) := by
  have := World.ownsRow_lit (e := 5) (size := 1) (base := w.heap.size) w cs l.length (Nat.le_refl _) (by simp only [maxLen]; omega) (by rw [← Array.length_toList, h, bv_length, Nat.mul_one])
  rwa [h] at this

set_option maxRecDepth 20000 in
theorem awake_any (w : World) : Calls Try.prog 7 #[] w fun r w' => r = .returned (.bool true) ∧ Below w.heap.size w w' := by
  go_enter Try.func7, Try.ntmps7
  go_wp2_with fail
  have h1 := own_lit w [172, 2, 1, 120] #[.int .u8 172, .int .u8 2, .int .u8 1, .int .u8 120] rfl (by simp)
  refine (new_any [172, 2, 1, 120] _ (Rd.own h1) (by simp)).mono ?_
  rintro r w1 ⟨g, rfl, hc1, hb1⟩
  have HC1 := Lib.hid hc1
  have HB1 := Lib.hid hb1
  clear hc1 hb1 h1
  go_wp2_with fail
  refine (number_any HC1.out).mono ?_
  rintro r w2 ⟨rfl, hc2, hg2⟩
  rw [aw1] at hc2 ⊢
  have HC2 := Lib.hid hc2
  have HG2 := Lib.hid hg2
  clear hc2 hg2
  go_wp2_with fail
  refine (text_any HC2.out).mono ?_
  rintro r w3 ⟨rfl, hc3, hg3⟩
  rw [aw2] at hc3 ⊢
  have HC3 := Lib.hid hc3
  have HG3 := Lib.hid hg3
  clear hc3 hg3
  go_wp2_with fail
  refine (left_any HC3.out).mono ?_
  rintro r w4 ⟨rfl, m, rfl⟩
  go_wp2_with fail
  refine (end_any (HC3.out.drewN m)).mono ?_
  rintro r w5 ⟨rfl, m', rfl⟩
  rw [show endR [172, 2, 1, 120] 4 0 = 0 from rfl]
  go_wp2_with fail
  refine (put_any 300 (by omega)).mono ?_
  rintro r w6 ⟨A, c, rfl, hown, hb6⟩
  rw [aw3] at hown ⊢
  have HO := Lib.hid hown
  have HB6 := Lib.hid hb6
  clear hown hb6
  go_wp2_with fail
  refine (same_any [172, 2] [172, 2] (Rd.own (HO.out.alloc _)) (Rd.own (own_lit w6 [172, 2] #[.int .u8 172, .int .u8 2] rfl (by simp)))).mono ?_
  rintro r w7 ⟨rfl, rfl⟩
  rw [show decide (([172, 2] : List UInt8) = [172, 2]) = true from rfl]
  go_wp2_with fail
  refine (putText_any ⟨#[120]⟩ (by decide)).mono ?_
  rintro r w8 ⟨A2, c2, rfl, hown2, hb8⟩
  rw [aw4] at hown2 ⊢
  have HO2 := Lib.hid hown2
  have HB8 := Lib.hid hb8
  clear hown2 hb8
  go_wp2_with fail
  refine (same_any [1, 120] [1, 120] (Rd.own (HO2.out.alloc _)) (Rd.own (own_lit w8 [1, 120] #[.int .u8 1, .int .u8 120] rfl (by simp)))).mono ?_
  rintro r w9 ⟨rfl, rfl⟩
  rw [show decide (([1, 120] : List UInt8) = [1, 120]) = true from rfl]
  go_wp2
  go_ret
  have k1 : Below w.heap.size w w1 := below_below ((Below.refl _ _).alloc (Nat.le_refl _) _) HB1.out (by simp)
  have l1 := HC1.out.base
  simp only [World.size_alloc] at l1
  have s1 := k1.size
  have k2 := below_some k1 HG2.out k1.size (by omega)
  have k3 := below_some k2 HG3.out k2.size (by omega)
  have k6 := below_below (below_drewN' k3 (m + m')) HB6.out k3.size
  have k8 := below_below (k6.alloc k6.size _) HB8.out (Nat.le_trans k6.size (by simp))
  exact ⟨rfl, k8.alloc k8.size _⟩
end Go.Proofs.Ytdlpladdofjcfaa
