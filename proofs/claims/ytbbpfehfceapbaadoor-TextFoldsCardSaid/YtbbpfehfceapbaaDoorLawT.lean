/-
  Layer 8's awake: the answers that the document fixes stand.
-/
import Derived.Test.YtbbpfehfceapbaaDoorTxG
import Derived.Test.YtbbpfehfceapbaaDoorRefI
namespace Go.Proofs.YtbbpfehfceapbaaDoor
set_option linter.unusedSimpArgs false
set_option linter.unusedVariables false
open Go.RowKit

theorem aw8_pts : ptsL [195, 164, 255] = [228, 1114367] := by decide +kernel
theorem aw8_byt : bytL [228, 1114367] = [195, 164, 255] := by decide +kernel
theorem aw8_sub : subL [97, 98, 99] 1 1 = [98] := by decide +kernel
theorem aw8_fold : foldL [97, 66, 99] = [97, 98, 99] := by decide +kernel
theorem aw8_byf : cmpL (foldL [65]) (foldL [97]) = 0 := by decide +kernel
theorem aw8_byp : cmpP (ptsL [97]) (ptsL [98]) = -1 := by decide +kernel

theorem aw8_points (w : World) : Calls Tryd.prog 10 #[.string ⟨#[195, 164, 255]⟩] w fun r w' => ∃ A c, r = .returned (.slice A 2 c) ∧ Rd w' 0 w'.heap.size A c (iv [228, 1114367]) ∧ Below w.heap.size w w' := by
  refine (points_any ⟨#[195, 164, 255]⟩ (by decide)).mono ?_
  rintro r w' ⟨A, c, rfl, ho, hb⟩
  have he : ptsL (⟨#[195, 164, 255]⟩ : ByteArray).data.toList = [228, 1114367] := aw8_pts
  rw [he] at ho ⊢
  exact ⟨A, c, rfl, (Rd.of_own ho).wide (Nat.zero_le _) (Nat.le_refl _), hb⟩
theorem aw8_len (w : World) : Calls Tryd.prog 13 #[.string ⟨#[195, 164, 255]⟩] w fun r w' => r = .returned (.int .i64 2) ∧ Below w.heap.size w w' := by
  refine (len_any ⟨#[195, 164, 255]⟩ (by decide)).mono ?_
  rintro r w' ⟨rfl, hb⟩
  have he : ptsL (⟨#[195, 164, 255]⟩ : ByteArray).data.toList = [228, 1114367] := aw8_pts
  rw [he]
  exact ⟨rfl, hb⟩
theorem aw8_bytes {w : World} {A : Option Addr} {c : Nat} (h : Rd w 0 w.heap.size A c (iv [228, 1114367])) : Calls Tryd.prog 14 #[.slice A 2 c] w fun r w' => r = .returned (.string ⟨#[195, 164, 255]⟩) ∧ Below w.heap.size w w' := by
  have := bytes_any [228, 1114367] (w := w) (A := A) (c := c) (hi := w.heap.size) h (Nat.le_refl _) (by simp) (by intro p hp; rw [← aw8_pts] at hp; exact pts_ok _ p hp)
  rw [aw8_byt] at this
  exact this
theorem aw8_subs (w : World) : Calls Tryd.prog 15 #[.string ⟨#[97, 98, 99]⟩, .int .i64 1, .int .i64 1] w fun r w' => r = .returned (.string ⟨#[98]⟩) ∧ Below w.heap.size w w' := by
  have := tsub_any (w := w) ⟨#[97, 98, 99]⟩ 1 1 (by decide) (by decide) (by decide) (by decide) (by decide)
  rw [show subL (⟨#[97, 98, 99]⟩ : ByteArray).data.toList (1 : Int).toNat (1 : Int).toNat = [98] from aw8_sub] at this
  exact this
theorem aw8_folds (w : World) : Calls Tryd.prog 17 #[.string ⟨#[97, 66, 99]⟩] w fun r w' => r = .returned (.string ⟨#[97, 98, 99]⟩) ∧ Below w.heap.size w w' := by
  have := tfold_any (w := w) ⟨#[97, 66, 99]⟩ (by decide)
  rw [show foldL (⟨#[97, 66, 99]⟩ : ByteArray).data.toList = [97, 98, 99] from aw8_fold] at this
  exact this
theorem aw8_byFold (w : World) : Calls Tryd.prog 19 #[.string ⟨#[65]⟩, .string ⟨#[97]⟩] w fun r w' => r = .returned (.int .i64 0) ∧ Below w.heap.size w w' := by
  have := byFold_any (w := w) ⟨#[65]⟩ ⟨#[97]⟩ (by decide) (by decide)
  rw [show cmpL (foldL (⟨#[65]⟩ : ByteArray).data.toList) (foldL (⟨#[97]⟩ : ByteArray).data.toList) = 0 from aw8_byf] at this
  exact this
theorem aw8_byPoints {w : World} (hT : Tabs w) : Calls Tryd.prog 21 #[.string ⟨#[97]⟩, .string ⟨#[98]⟩] w fun r w' => r = .returned (.int .i64 (-1)) ∧ Below w.heap.size w w' := by
  have := byPoints_any (w := w) ⟨#[97]⟩ ⟨#[98]⟩ (by decide) (by decide) hT
  rw [show cmpP (ptsL (⟨#[97]⟩ : ByteArray).data.toList) (ptsL (⟨#[98]⟩ : ByteArray).data.toList) = -1 from aw8_byp] at this
  exact this

set_option maxRecDepth 20000 in
set_option maxHeartbeats 1000000 in
theorem awake8_any {w : World} (hT : Tabs w) : Calls Tryd.prog 9 #[] w fun r w' => r = .returned (.bool true) ∧ Below w.heap.size w w' := by
  have HT := Lib.hid hT
  clear hT
  go_enter Tryd.func9, Tryd.ntmps9
  go_wp2_with fail
  refine (aw8_points _).mono ?_
  rintro r w1 ⟨A, c, rfl, hr, b1⟩
  have H1 := Lib.hid (hr.alloc (Nat.le_refl _) (.cells #[.int .i64 228, .int .i64 1114367] 3))
  have H2 := Lib.hid (rd_ints w1 3 [228, 1114367] #[.int .i64 228, .int .i64 1114367] rfl (by simp))
  have K2 := Lib.hid (b1.alloc b1.size (.cells #[.int .i64 228, .int .i64 1114367] 3))
  clear hr b1
  go_wp2_with fail
  refine (ints_len [228, 1114367] [228, 1114367] true H1.out H2.out rfl rfl (decide_eq_true rfl)).mono ?_
  rintro r w' ⟨rfl, q, rfl⟩
  have H3 : Hid (Rd ((w1.alloc (.cells #[.int .i64 228, .int .i64 1114367] 3)).drewN q) 0 w1.heap.size A c (iv [228, 1114367])) := H1.out.drewN q
  have K3 := Lib.hid (below_drewN' K2.out q)
  have s3 : w1.heap.size ≤ ((w1.alloc (.cells #[.int .i64 228, .int .i64 1114367] 3)).drewN q).heap.size := by show _ ≤ (w1.alloc _).heap.size; simp
  clear H1 H2 K2
  generalize (w1.alloc (.cells #[.int .i64 228, .int .i64 1114367] 3)).drewN q = w3 at *
  have H3' := Lib.hid (H3.out.wide (Nat.le_refl _) s3)
  clear H3
  go_wp2_with fail
  refine (aw8_len _).mono ?_
  rintro r w4 ⟨rfl, b4⟩
  have H4 := Lib.hid ((H3'.out.below b4 (Nat.le_refl _)).wide (Nat.le_refl _) b4.size)
  have K4 := Lib.hid (K3.out.trans (b4.mono K3.out.size))
  clear H3' K3 b4
  go_wp2_with fail
  refine (aw8_bytes H4.out).mono ?_
  rintro r w5 ⟨rfl, b5⟩
  have K5 := Lib.hid (below_on K4.out b5)
  clear K4 b5 H4
  go_wp2_with fail
  refine (aw8_subs _).mono ?_
  rintro r w6 ⟨rfl, b6⟩
  have K6 := Lib.hid (below_on K5.out b6)
  clear K5 b6
  go_wp2_with fail
  refine (aw8_folds _).mono ?_
  rintro r w7 ⟨rfl, b7⟩
  have K7 := Lib.hid (below_on K6.out b7)
  clear K6 b7
  go_wp2_with fail
  refine (aw8_byFold _).mono ?_
  rintro r w8 ⟨rfl, b8⟩
  have K8 := Lib.hid (below_on K7.out b8)
  clear K7 b8
  go_wp2_with fail
  refine (aw8_byPoints (HT.out.on K8.out)).mono ?_
  rintro r w9 ⟨rfl, b9⟩
  have K9 := Lib.hid (below_on K8.out b9)
  clear K8 b9
  go_wp2_with fail
  go_ret
  exact ⟨rfl, K9.out⟩
end Go.Proofs.YtbbpfehfceapbaaDoor
