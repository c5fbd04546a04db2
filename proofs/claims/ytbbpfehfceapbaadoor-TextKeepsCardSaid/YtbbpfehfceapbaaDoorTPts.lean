/-
  The walks of TextPoints and TextKeeps.
-/
import Derived.Test.YtbbpfehfceapbaaDoorLawT
import Derived.Test.YtbbpfehfceapbaaDoorRefY
namespace Go.Proofs.YtbbpfehfceapbaaDoor
set_option linter.unusedSimpArgs false
set_option linter.unusedVariables false
open Go.RowKit

/-- a string's points, as numbers that are read -/
theorem points_rd {w : World} (s : ByteArray) (hs : s.size ≤ 1000000) :
    Calls Tryd.prog 10 #[.string s] w fun r w' => ∃ A c, r = .returned (.slice A (ptsL s.data.toList).length c) ∧ Rd w' 0 w'.heap.size A c (iv (ints (ptsL s.data.toList))) ∧ Below w.heap.size w w' := by
  refine (points_any s hs).mono ?_
  rintro r w' ⟨A, c, rfl, ho, hb⟩
  exact ⟨A, c, rfl, (Rd.of_own ho).wide (Nat.zero_le _) (Nat.le_refl _), hb⟩
theorem refPoints_rd {w : World} (s : ByteArray) (hs : s.size ≤ 1000000) :
    Calls Tryd.prog 12 #[.string s] w fun r w' => ∃ A c, r = .returned (.slice A (ptsL s.data.toList).length c) ∧ Rd w' 0 w'.heap.size A c (iv (ints (ptsL s.data.toList))) ∧ Below w.heap.size w w' := by
  refine (refPoints_any s hs).mono ?_
  rintro r w' ⟨A, c, rfl, ho, hb⟩
  exact ⟨A, c, rfl, (Rd.of_own ho).wide (Nat.zero_le _) (Nat.le_refl _), hb⟩
theorem bytes_back {w : World} (s : ByteArray) {A : Option Addr} {c : Nat} (hs : s.size ≤ 1000000) (h : Rd w 0 w.heap.size A c (iv (ints (ptsL s.data.toList)))) :
    Calls Tryd.prog 14 #[.slice A (ptsL s.data.toList).length c] w fun r w' => r = .returned (.string s) ∧ Below w.heap.size w w' := by
  have hle := pts_le s.data.toList
  rw [size_toL] at hle
  have := bytes_any (w := w) (ptsL s.data.toList) h (Nat.le_refl _) (by omega) (pts_ok _)
  rw [byt_pts, ← str_eq (t := s) rfl] at this
  exact this
theorem rd_on {w w' : World} {A : Option Addr} {c : Nat} {xs : List Value} (h : Rd w 0 w.heap.size A c xs) (hb : Below w.heap.size w w') : Rd w' 0 w'.heap.size A c xs := (h.below hb (Nat.le_refl _)).wide (Nat.le_refl _) hb.size
theorem rd_draw {w : World} {A : Option Addr} {c : Nat} {xs : List Value} (h : Rd w 0 w.heap.size A c xs) (n : Nat) : Rd (w.drewN n) 0 (w.drewN n).heap.size A c xs := h.drewN n

set_option maxRecDepth 20000 in
set_option maxHeartbeats 1000000 in
theorem textPoints_walk {w : World} (s : ByteArray) (hT : Tabs w) :
    Calls Tryd.prog 3 #[.string s] w fun r w' => r = .returned (.bool true) ∧ Below w.heap.size w w' := by
  have HT := Lib.hid hT
  clear hT
  by_cases hs : 2000 < s.size
  · have is : (2000 : Int) < (s.size : Int) := by omega
    go_enter Tryd.func3, Tryd.ntmps3
    go_wp2_with fail
    refine (awake8_any HT.out).mono ?_
    rintro r w1 ⟨rfl, b1⟩
    have HB1 := Lib.hid b1
    clear b1
    go_wp2_with fail
    refine (awake8_any (HT.out.on HB1.out)).mono ?_
    rintro r w2 ⟨rfl, b2⟩
    go_wp2_with fail
    go_ret
    exact ⟨rfl, below_on HB1.out b2⟩
  · have is : ¬ (2000 : Int) < (s.size : Int) := by omega
    have hs6 : s.size ≤ 1000000 := by omega
    go_enter Tryd.func3, Tryd.ntmps3
    go_wp2_with fail
    refine (awake8_any HT.out).mono ?_
    rintro r w1 ⟨rfl, b1⟩
    have HB1 := Lib.hid b1
    clear b1
    go_wp2_with fail
    refine (points_rd s hs6).mono ?_
    rintro r w2 ⟨A, c, rfl, hr2, b2⟩
    have HR2 := Lib.hid hr2
    have HB2 := Lib.hid (below_on HB1.out b2)
    clear b2 hr2
    go_wp2_with fail
    refine (refPoints_rd s hs6).mono ?_
    rintro r w3 ⟨A3, c3, rfl, hr3, b3⟩
    have HR3 := Lib.hid hr3
    have HR2' := Lib.hid (rd_on HR2.out b3)
    have HB3 := Lib.hid (below_on HB2.out b3)
    clear b3 hr3
    go_wp2_with fail
    refine (ints_len _ _ true HR2'.out HR3.out (ints_length _) (ints_length _) (decide_eq_true rfl)).mono ?_
    rintro r w' ⟨rfl, q, rfl⟩
    have HR4 := Lib.hid (rd_draw HR2'.out q)
    have HB4 := Lib.hid (below_drewN' HB3.out q)
    clear HR2 HR3 HR2' HB2 HB3
    generalize w3.drewN q = w4 at *
    go_wp2_with fail
    refine (len_any s hs6).mono ?_
    rintro r w5 ⟨rfl, b5⟩
    have HR5 := Lib.hid (rd_on HR4.out b5)
    have HB5 := Lib.hid (below_on HB4.out b5)
    clear b5 HR4
    go_wp2_with fail
    refine (bytes_back s hs6 HR5.out).mono ?_
    rintro r w6 ⟨rfl, b6⟩
    have HB6 := Lib.hid (below_on HB5.out b6)
    clear b6
    go_wp2_with fail
    go_ret
    exact ⟨rfl, HB6.out⟩
end Go.Proofs.YtbbpfehfceapbaaDoor
