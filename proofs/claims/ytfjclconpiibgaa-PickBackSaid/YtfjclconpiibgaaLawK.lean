/-
  Layer 5's awake: the answers that the document fixes stand.
-/
import Derived.Test.YtfjclconpiibgaaPikD
import Derived.Test.YtfjclconpiibgaaPikE
import Derived.Test.YtfjclconpiibgaaRefI
namespace Go.Proofs.Ytfjclconpiibgaa
set_option linter.unusedSimpArgs false
set_option linter.unusedVariables false
open Go.RowKit

/-- numbers that are owned, as numbers that are read -/
theorem rd_nums {w : World} {base n c : Nat} {A : Option Addr} {e : TypeId} {xs : List Value} (h : w.ownsRow base e 1 (.slice A n c) n xs) : Rd w 0 w.heap.size A c xs := (Rd.own h).wide (Nat.zero_le _) (Nat.le_refl _)
theorem aw5_thr : thrL [3, 5, 9] [0, 2] = [3, 9] := by decide +kernel
theorem aw5_yes : rightL 10 (-1) [3, 9] = true := by decide +kernel
theorem aw5_no : rightL 9 (-1) [3, 9] = false := by decide +kernel
theorem aw5_not : notL 0 10 [3, 9] = [0, 1, 2, 4, 5, 6, 7, 8] := by decide +kernel
theorem aw5_of : plc [false, true] = [1] := by decide +kernel

set_option maxRecDepth 20000 in
set_option maxHeartbeats 1000000 in
theorem awake5_any (w : World) : Calls Try.prog 8 #[] w fun r w' => r = .returned (.bool true) ∧ Below w.heap.size w w' := by
  have H0 := rd_ints w 3 [3, 5, 9] #[.int .i64 3, .int .i64 5, .int .i64 9] rfl (by simp)
  have s0 : (w.alloc (.cells #[.int .i64 3, .int .i64 5, .int .i64 9] 3)).heap.size = w.heap.size + 1 := by simp
  have K0 := (Below.refl w.heap.size w).alloc (Nat.le_refl _) (.cells #[.int .i64 3, .int .i64 5, .int .i64 9] 3)
  have h1 := rd_ints (w.alloc (.cells #[.int .i64 3, .int .i64 5, .int .i64 9] 3)) 3 [0, 2] #[.int .i64 0, .int .i64 2] rfl (by simp)
  rw [s0] at h1
  have H1 := Lib.hid h1
  have H0' := Lib.hid (H0.alloc (by omega) (.cells #[.int .i64 0, .int .i64 2] 3))
  have K1 := Lib.hid (K0.alloc (by omega) (.cells #[.int .i64 0, .int .i64 2] 3))
  clear H0 K0 s0 h1
  go_enter Try.func8, Try.ntmps8
  go_wp2_with fail
  refine (through_any [3, 5, 9] [0, 2] [3, 9] aw5_thr H0'.out H1.out (by simp) (by simp) (by simp)).mono ?_
  rintro r w2 ⟨A2, c2, rfl, ho2, hb2⟩
  have H2 := Lib.hid (rd_nums ho2)
  have K2 := Lib.hid (below_below K1.out hb2 (by simp; omega))
  have s2 : w.heap.size ≤ w2.heap.size := K2.out.size
  clear ho2 hb2 H0' H1 K1
  have H3 := Lib.hid (rd_ints w2 3 [3, 9] #[.int .i64 3, .int .i64 9] rfl (by simp))
  have H2' := Lib.hid (H2.out.alloc (Nat.le_refl _) (.cells #[.int .i64 3, .int .i64 9] 3))
  have K3 := Lib.hid (K2.out.alloc (by omega) (.cells #[.int .i64 3, .int .i64 9] 3))
  have s3 : w2.heap.size ≤ (w2.alloc (.cells #[.int .i64 3, .int .i64 9] 3)).heap.size := by simp
  clear H2 K2
  go_wp2_with fail
  refine (ints_len [3, 9] [3, 9] true H2'.out H3.out rfl rfl (decide_eq_true rfl)).mono ?_
  rintro r w' ⟨rfl, q, rfl⟩
  have H4 : Hid (Rd ((w2.alloc (.cells #[.int .i64 3, .int .i64 9] 3)).drewN q) 0 w2.heap.size A2 c2 (iv [3, 9])) := H2'.out.drewN q
  have K4 := Lib.hid (below_drewN' K3.out q)
  have s4 : w2.heap.size ≤ ((w2.alloc (.cells #[.int .i64 3, .int .i64 9] 3)).drewN q).heap.size := s3
  clear H3 H2' K3 s3
  generalize (w2.alloc (.cells #[.int .i64 3, .int .i64 9] 3)).drewN q = w4 at *
  go_wp2_with fail
  refine (right_any [3, 9] 10 true aw5_yes H4.out).mono ?_
  rintro r w' ⟨rfl, rfl⟩
  go_wp2_with fail
  refine (right_any [3, 9] 9 false aw5_no H4.out).mono ?_
  rintro r w' ⟨rfl, rfl⟩
  go_wp2_with fail
  refine (pnot_any [3, 9] [0, 1, 2, 4, 5, 6, 7, 8] 10 aw5_not H4.out (by omega) (by omega)).mono ?_
  rintro r w5 ⟨A5, c5, rfl, ho5, hb5⟩
  have K5 := Lib.hid (below_below K4.out hb5 (by omega))
  have s5 := hb5.size
  clear ho5 hb5 H4 K4
  have H6 := Lib.hid (rd_bools w5 4 [false, true] #[.bool false, .bool true] rfl (by simp))
  have K6 := Lib.hid (K5.out.alloc (by omega) (.cells #[.bool false, .bool true] 4))
  go_wp2_with fail
  refine (of_any [false, true] [1] aw5_of H6.out (by simp) (by simp)).mono ?_
  rintro r w7 ⟨A7, c7, rfl, ho7, hb7⟩
  have K7 := Lib.hid (below_below K6.out hb7 (by simp; omega))
  clear ho7 hb7 K6 H6
  go_wp2
  go_ret
  exact ⟨rfl, K7.out⟩
end Go.Proofs.Ytfjclconpiibgaa
