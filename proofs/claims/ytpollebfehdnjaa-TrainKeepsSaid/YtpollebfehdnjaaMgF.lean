/-
  Strings cut: what is left of one behind a place.
  The longest symbol at a string's beginning, as callers ask for it.
  The program's fsst: Encode.
-/
import Derived.Test.YtpollebfehdnjaaMgS
import Derived.Test.YtpollebfehdnjaaSyD
import Derived.Test.YtpollebfehdnjaaFsM
import Derived.Test.YtpollebfehdnjaaByt
namespace Go.Proofs.Ytpollebfehdnjaa
set_option linter.unusedSimpArgs false
set_option linter.unusedVariables false

theorem tailS (s : ByteArray) (k : Nat) : (s.extract k s.size).data.toList = s.data.toList.drop k := by
  rw [ByteArray.data_extract, Array.toList_extract]
  rw [List.extract_eq_take_drop, List.take_of_length_le (by rw [List.length_drop, lenS]; omega)]
theorem dropS {s : ByteArray} {k : Nat} (h : k < s.size) : s.data.toList.drop k = s[k] :: s.data.toList.drop (k + 1) := by
  rw [List.drop_eq_getElem_cons (by rw [lenS]; exact h)]
  rfl
theorem str_etaU (u : ByteArray) : (⟨u.data.toList.toArray⟩ : ByteArray) = u := by
  rcases u with ⟨d⟩
  rfl
end Go.Proofs.Ytpollebfehdnjaa
namespace Go.Proofs.Ytpollebfehdnjaa
set_option linter.unusedSimpArgs false
set_option linter.unusedVariables false
open Go.RowKit

theorem fslong_any {w2 : World} (l : List ByteArray) (u : ByteArray) {lo hi c : Nat} {A : Option Addr} (h : Rd w2 lo hi A c (sv l)) (hr : rightT (bytL2 l) = true) (hs : u.size ≤ 9223372036854775807) (v : Int × Nat) (hv : longP (bytL2 l) u.data.toList = v) :
    Calls Try.prog 31 #[.slice A l.length c, .string u] w2 fun r w' => r = .returned (.tuple #[.int .i64 v.1, .int .i64 (v.2 : Int)]) ∧ ∃ m, w' = w2.drewN m := by
  rw [← hv]
  exact slongest_any l u h hr hs
end Go.Proofs.Ytpollebfehdnjaa
namespace Go.Proofs.Ytpollebfehdnjaa
set_option linter.unusedSimpArgs false
set_option linter.unusedVariables false
open Go.RowKit

set_option maxRecDepth 20000 in
set_option maxHeartbeats 2000000 in
theorem fencode_any {w : World} (l : List ByteArray) (s : ByteArray) {c : Nat} {A : Option Addr} (h : Rd w 0 w.heap.size A c (sv l)) (hr : rightT (bytL2 l) = true) (hs : s.size ≤ 100000000) :
    Calls Try.prog 22 #[.slice A l.length c, .string s] w fun r w' => ∃ A' c', r = .returned (.slice A' (encL (bytL2 l) s.data.toList).length c') ∧
      w'.ownsRow w.heap.size 5 1 (.slice A' (encL (bytL2 l) s.data.toList).length c') (encL (bytL2 l) s.data.toList).length (bv (encL (bytL2 l) s.data.toList)) ∧ Below w.heap.size w w' := by
  have hln := (rightT_iff.1 hr).1
  rw [bytL2_length] at hln
  have H := Lib.hid h
  have HR := Lib.hid hr
  clear h hr
  obtain ⟨v, hv⟩ : ∃ v, encL (bytL2 l) s.data.toList = v := ⟨_, rfl⟩
  rw [hv]
  have HV := Lib.hid hv
  clear hv
  have HSL := Lib.hid (lenS s)
  go_enter Try.func22, Try.ntmps22
  go_wp2_with fail
  go_loopw [1, 5] (fun x1 x5 wr => ∃ (k : Nat) (u : ByteArray) (ys : List UInt8) (A' : Option Addr) (c' : Nat), k ≤ s.size ∧ u.size = s.size - k ∧ u.data.toList = s.data.toList.drop k ∧ x1 = .string u ∧ x5 = .slice A' ys.length c' ∧ ys.length ≤ 2 * k ∧ ys ++ encL (bytL2 l) u.data.toList = v ∧
    wr.ownsRow w.heap.size 5 1 (.slice A' ys.length c') ys.length (bv ys) ∧ Below w.heap.size w wr) (fun x1 _ _ => match x1 with | .string u => u.size | _ => 0)
  case atStart => exact ⟨0, s, [], none, 0, Nat.zero_le _, rfl, by rw [List.drop_zero], rfl, rfl, Nat.zero_le _, by rw [HV.out]; rfl, World.ownsRow_nil _ _ _ _, Below.refl _ _⟩
  case round =>
    obtain ⟨k, u, ys, A', c', hk, hus, hud, rfl, rfl, hyl, hys, hown, hb⟩ := hrel
    have HYS := Lib.hid hys
    have HO := Lib.hid hown
    have HB := Lib.hid hb
    have HUD := Lib.hid hud
    have hsz := hb.size
    have huL : u.size ≤ s.size - k := by omega
    have huG : s.size - k ≤ u.size := by omega
    clear hys hown hb hud hus
    by_cases hu0 : u.size = 0
    · have hue : u = ⟨#[]⟩ := by
        have : u.data.toList = [] := List.eq_nil_of_length_eq_zero (by rw [lenS]; exact hu0)
        rw [← str_etaU u, this]
      have hfin : ys = v := by
        rw [← HYS.out, hue]
        exact (List.append_nil _).symm
      have HF := Lib.hid hfin
      clear hfin hu0 huL huG HUD
      subst hue
      go_wp2_with fail
      go_ret
      exact ⟨A', c', by rw [← HF.out]; rfl, by rw [← HF.out]; exact HO.out, HB.out⟩
    · have hup : 0 < u.size := by omega
      have hne : u.toList ≠ [] := fun e => by
        rw [Lib.toList_data] at e
        have h1 := congrArg List.length e
        rw [Array.length_toList] at h1
        exact hu0 h1
      have hne2 : u.toList.isEmpty = false := by
        rw [List.isEmpty_eq_false_iff]
        exact hne
      clear hne
      have HDR := Lib.hid (dropS hup)
      rw [List.drop_zero] at HDR
      rcases longP_spec (bytL2 l) u.data.toList with hp | ⟨j, t, hj, hp, hn0, hpre⟩
      · have HLG := Lib.hid (fun w2 (hb2 : Below w.heap.size w w2) => fslong_any (w2 := w2) l u (H.out.below hb2 (Nat.le_refl _)) HR.out (by omega) _ hp)
        have HEQ : Hid (encL (bytL2 l) u.data.toList = (255 : UInt8) :: u[0] :: encL (bytL2 l) (u.extract 1 u.size).data.toList) := by
          unfold Hid
          have hp2 := hp
          rw [HDR.out] at hp2
          rw [tailS, HDR.out, enc_esc hp2]
          rfl
        have HU1 : Hid ((u.extract 1 u.size).data.toList = s.data.toList.drop (k + 1)) := by
          unfold Hid
          rw [tailS, HUD.out, List.drop_drop]
        have hu1 : (u.extract 1 u.size).size = s.size - (k + 1) := by rw [ByteArray.size_extract]; omega
        have HUS := Lib.hid hu1
        clear hp hu1
        have lx : u[0].toNat < 256 := UInt8.toNat_lt _
        go_wp2_with fail
        refine (HLG.out _ (by first | exact HB.out | exact below_drewN' HB.out _)).mono ?_
        rintro r w1 ⟨rfl, m, rfl⟩
        have hb1 : Below w.heap.size w (wr.drewN m) := below_drewN' HB.out m
        have ho1 : (wr.drewN m).ownsRow w.heap.size 5 1 (.slice A' ys.length c') ys.length (bv ys) := own_keep HO.out (fun _ _ => rfl)
        have hz1 : w.heap.size ≤ (wr.drewN m).heap.size := hb1.size
        generalize wr.drewN m = w1 at *
        have hlit : (w1.alloc (.cells #[.int .u8 255, .int .u8 (u[0].toNat : Int)] 5)).ownsRow w1.heap.size 5 1 (.slice (some ⟨w1.heap.size, 0, none⟩) 2 2) 2 (bv [(255 : UInt8), u[0]]) := own_lit w1 [(255 : UInt8), u[0]] #[.int .u8 255, .int .u8 (u[0].toNat : Int)] rfl (by simp)
        obtain ⟨A3, c3, w3, hrun, hown3, hg3⟩ := append_named _ w.heap.size _ ys [(255 : UInt8), u[0]] (ys ++ [(255 : UInt8), u[0]]) rfl (ho1.alloc _) (Rd.own hlit) (by simp; omega) (by simp; omega)
        have hb3 : Below w.heap.size w w3 := (hb1.alloc hz1 _).grown hg3 (by simp; omega) (fun q hq => (own_lt ho1 hq).1)
        have hrun2 : (Builtin.append_ #[34, 34] 34 #[.slice A' ys.length c', .slice (some ⟨w1.heap.size, 0, none⟩) 2 2]).run Try.prog (w1.alloc (.cells #[.int .u8 255, .int .u8 (u[0].toNat : Int)] 5)) = .ok (.slice A3 (ys ++ [(255 : UInt8), u[0]]).length c3) w3 := hrun
        have HRUN := Lib.hid hrun2
        have HO3 := Lib.hid hown3
        have HB3 := Lib.hid hb3
        clear hrun hrun2 hown3 hb3 hg3 hb1 ho1 hlit
        go_wp2_with (at_builtin; refine wpList_append_run rfl _ _ _ _ rfl rfl rfl HRUN.out ?_)
        go_roundw
        case rel =>
          refine ⟨k + 1, u.extract 1 u.size, ys ++ [(255 : UInt8), u[0]], A3, c3, by omega, HUS.out, HU1.out, rfl, by first | rfl | (rw [List.length_append]; rfl), by rw [List.length_append, List.length_cons, List.length_cons, List.length_nil]; omega, ?_, HO3.out, HB3.out⟩
          rw [List.append_assoc, ← HYS.out, HEQ.out]
          rfl
        case measure =>
          have := HUS.out
          simp only [this]
          omega
      · have HLG := Lib.hid (fun w2 (hb2 : Below w.heap.size w w2) => fslong_any (w2 := w2) l u (H.out.below hb2 (Nat.le_refl _)) HR.out (by omega) _ hp)
        have hjl : j < l.length := by
          have := (List.getElem?_eq_some_iff.1 hj).1
          rwa [bytL2_length] at this
        have hnl := hpre.length_le
        rw [lenS] at hnl
        have HEQ : Hid (encL (bytL2 l) u.data.toList = UInt8.ofNat j :: encL (bytL2 l) (u.extract t.length u.size).data.toList) := by
          unfold Hid
          rw [enc_code hp hn0, tailS]
        have HU1 : Hid ((u.extract t.length u.size).data.toList = s.data.toList.drop (k + t.length)) := by
          unfold Hid
          rw [tailS, HUD.out, List.drop_drop]
        have hu1 : (u.extract t.length u.size).size = s.size - (k + t.length) := by rw [ByteArray.size_extract]; omega
        have HUS := Lib.hid hu1
        clear hp hj hpre hu1 HDR
        generalize t.length = n at *
        have j0 : (0 : Int) ≤ (j : Int) := by omega
        have j1 : (j : Int) < 256 := by omega
        have hbs : (UInt8.ofNat j).toNat = j := by simp; omega
        have n1 : ((n : Int) == 0) = false := by rw [beq_eq_false_iff_ne]; omega
        have n2 : ¬ (n : Int) = 0 := by omega
        go_wp2_with fail
        refine (HLG.out _ (by first | exact HB.out | exact below_drewN' HB.out _)).mono ?_
        rintro r w1 ⟨rfl, m, rfl⟩
        have hb1 : Below w.heap.size w (wr.drewN m) := below_drewN' HB.out m
        have ho1 : (wr.drewN m).ownsRow w.heap.size 5 1 (.slice A' ys.length c') ys.length (bv ys) := own_keep HO.out (fun _ _ => rfl)
        have hz1 : w.heap.size ≤ (wr.drewN m).heap.size := hb1.size
        generalize wr.drewN m = w1 at *
        have HO1 := Lib.hid ho1
        have HB1 := Lib.hid hb1
        clear ho1 hb1
        go_wp2_with (at_builtin; refine wpList_push (v := .slice A' ys.length c') w.heap.size ys (UInt8.ofNat j) rfl _ _ rfl rfl rfl rfl (by rw [hbs, World.cell?_alloc_at _ _ _ _ rfl]; rfl) (HO1.out.alloc _) (by omega) (by simp; omega) ?_; intro A2 c2 w2 ho2 hg2)
        go_roundw
        case rel =>
          refine ⟨k + n, u.extract n u.size, ys ++ [UInt8.ofNat j], A2, c2, by omega, HUS.out, HU1.out, rfl, by rw [List.length_append]; rfl, by rw [List.length_append, List.length_cons, List.length_nil]; omega, ?_, ho2, (HB1.out.alloc hz1 _).grown hg2 (by simp; omega) (fun q hq => (own_lt HO1.out hq).1)⟩
          rw [List.append_assoc, ← HYS.out, HEQ.out]
          rfl
        case measure =>
          have := HUS.out
          simp only [this]
          omega
end Go.Proofs.Ytpollebfehdnjaa
