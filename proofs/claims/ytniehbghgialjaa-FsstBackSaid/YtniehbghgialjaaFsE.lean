/-
  The document's Encode of layer 11.
-/
import Derived.Test.YtniehbghgialjaaFsM
import Derived.Test.YtniehbghgialjaaByt
namespace Go.Proofs.Ytniehbghgialjaa
set_option linter.unusedSimpArgs false
set_option linter.unusedVariables false
open Go.RowKit

theorem tailS (s : ByteArray) (k : Nat) : (s.extract k s.size).data.toList = s.data.toList.drop k := by
  rw [ByteArray.data_extract, Array.toList_extract]
  rw [List.extract_eq_take_drop, List.take_of_length_le (by rw [List.length_drop, lenS]; omega)]
theorem dropS {s : ByteArray} {k : Nat} (h : k < s.size) : s.data.toList.drop k = s[k] :: s.data.toList.drop (k + 1) := by
  rw [List.drop_eq_getElem_cons (by rw [lenS]; exact h)]
  rfl
theorem refLongP_any {w2 : World} (l : List ByteArray) (s : ByteArray) (k : Nat) {lo hi c : Nat} {A : Option Addr} (h : Rd w2 lo hi A c (sv l)) (h8 : ∀ t ∈ l, t.size ≤ 8) (hs : s.size ≤ 100000) (hln : l.length ≤ 255) (v : Int × Nat) (hv : longP (bytL2 l) (s.data.toList.drop k) = v) :
    Calls Try.prog 19 #[.slice A l.length c, .string (s.extract k s.size)] w2 fun r w' => r = .returned (.tuple #[.int .i64 v.1, .int .i64 (v.2 : Int)]) ∧ ∃ m, w' = w2.drewN m := by
  have h1 := refLongest_any (w := w2) l (s.extract k s.size) h (fun t ht => Nat.le_trans (h8 t ht) (by omega)) (by rw [ByteArray.size_extract]; omega) (by omega)
  rw [tailS] at h1
  rw [← hv]
  exact h1

set_option maxRecDepth 20000 in
set_option maxHeartbeats 2000000 in
theorem refEncode_any {w : World} (l : List ByteArray) (s : ByteArray) {c : Nat} {A : Option Addr} (h : Rd w 0 w.heap.size A c (sv l)) (h8 : ∀ t ∈ l, t.size ≤ 8) (hln : l.length ≤ 255) (hs : s.size ≤ 100000) :
    Calls Try.prog 13 #[.slice A l.length c, .string s] w fun r w' => ∃ A' c', r = .returned (.slice A' (encL (bytL2 l) s.data.toList).length c') ∧
      w'.ownsRow w.heap.size 5 1 (.slice A' (encL (bytL2 l) s.data.toList).length c') (encL (bytL2 l) s.data.toList).length (bv (encL (bytL2 l) s.data.toList)) ∧ Below w.heap.size w w' := by
  have H := Lib.hid h
  have H8 := Lib.hid h8
  clear h h8
  obtain ⟨v, hv⟩ : ∃ v, encL (bytL2 l) s.data.toList = v := ⟨_, rfl⟩
  rw [hv]
  have HV := Lib.hid hv
  clear hv
  have HSL := Lib.hid (lenS s)
  have HTL : Hid ((bytL2 l).length = l.length) := bytL2_length l
  go_enter Try.func13, Try.ntmps13
  go_wp2_with fail
  go_loopw [5, 6] (fun x5 x6 wr => ∃ (k : Nat) (ys : List UInt8) (A' : Option Addr) (c' : Nat), k ≤ s.size ∧ x6 = .int .i64 (k : Int) ∧ x5 = .slice A' ys.length c' ∧ ys.length ≤ 2 * k ∧ ys ++ encL (bytL2 l) (s.data.toList.drop k) = v ∧
    wr.ownsRow w.heap.size 5 1 (.slice A' ys.length c') ys.length (bv ys) ∧ Below w.heap.size w wr) (fun _ i _ => s.size - (intOf i).toNat)
  case atStart => exact ⟨0, [], none, 0, Nat.zero_le _, rfl, rfl, Nat.zero_le _, by rw [List.drop_zero, HV.out]; rfl, World.ownsRow_nil _ _ _ _, Below.refl _ _⟩
  case round =>
    obtain ⟨k, ys, A', c', hk, rfl, rfl, hyl, hys, hown, hb⟩ := hrel
    have HYS := Lib.hid hys
    have HO := Lib.hid hown
    have HB := Lib.hid hb
    have hsz := hb.size
    clear hys hown hb
    by_cases hlt : k < s.size
    · have ik : (k : Int) < (s.size : Int) := by omega
      have HDR := Lib.hid (dropS hlt)
      rcases longP_spec (bytL2 l) (s.data.toList.drop k) with hp | ⟨j, t, hj, hp, hn0, hpre⟩
      · have HLG := Lib.hid (fun w2 (hb2 : Below w.heap.size w w2) => refLongP_any (w2 := w2) l s k (H.out.below hb2 (Nat.le_refl _)) H8.out hs hln _ hp)
        have HEQ : Hid (encL (bytL2 l) (s.data.toList.drop k) = 255 :: s[k] :: encL (bytL2 l) (s.data.toList.drop (k + 1))) := by
          unfold Hid
          have hp2 := hp
          rw [HDR.out] at hp2
          rw [HDR.out, enc_esc hp2]
        clear hp
        have lx : s[k].toNat < 256 := UInt8.toNat_lt _
        go_wp2_with fail
        refine (HLG.out _ (by first | exact HB.out | exact below_drewN' HB.out _)).mono ?_
        rintro r w1 ⟨rfl, m, rfl⟩
        have hb1 : Below w.heap.size w (wr.drewN m) := below_drewN' HB.out m
        have ho1 : (wr.drewN m).ownsRow w.heap.size 5 1 (.slice A' ys.length c') ys.length (bv ys) := own_keep HO.out (fun _ _ => rfl)
        have hz1 : w.heap.size ≤ (wr.drewN m).heap.size := hb1.size
        generalize wr.drewN m = w1 at *
        have hlit : (w1.alloc (.cells #[.int .u8 255, .int .u8 (s[k].toNat : Int)] 5)).ownsRow w1.heap.size 5 1 (.slice (some ⟨w1.heap.size, 0, none⟩) 2 2) 2 (bv [255, s[k]]) := own_lit w1 [255, s[k]] #[.int .u8 255, .int .u8 (s[k].toNat : Int)] rfl (by simp)
        obtain ⟨A3, c3, w3, hrun, hown3, hg3⟩ := append_named _ w.heap.size _ ys [255, s[k]] (ys ++ [255, s[k]]) rfl (ho1.alloc _) (Rd.own hlit) (by simp; omega) (by simp; omega)
        have hb3 : Below w.heap.size w w3 := (hb1.alloc hz1 _).grown hg3 (by simp; omega) (fun q hq => (own_lt ho1 hq).1)
        have hrun2 : (Builtin.append_ #[27, 27] 27 #[.slice A' ys.length c', .slice (some ⟨w1.heap.size, 0, none⟩) 2 2]).run Try.prog (w1.alloc (.cells #[.int .u8 255, .int .u8 (s[k].toNat : Int)] 5)) = .ok (.slice A3 (ys ++ [255, s[k]]).length c3) w3 := hrun
        have HRUN := Lib.hid hrun2
        have HO3 := Lib.hid hown3
        have HB3 := Lib.hid hb3
        clear hrun hrun2 hown3 hb3 hg3 hb1 ho1 hlit
        go_wp2_with (at_builtin; refine wpList_append_run rfl _ _ _ _ rfl rfl rfl HRUN.out ?_)
        go_roundw
        case rel =>
          refine ⟨k + 1, ys ++ [255, s[k]], A3, c3, by omega, by go_num, by first | rfl | (rw [List.length_append]; rfl), by rw [List.length_append, List.length_cons, List.length_cons, List.length_nil]; omega, ?_, HO3.out, HB3.out⟩
          rw [List.append_assoc, ← HYS.out, HEQ.out]
          rfl
        case measure => simp [intOf] <;> omega
      · have HLG := Lib.hid (fun w2 (hb2 : Below w.heap.size w w2) => refLongP_any (w2 := w2) l s k (H.out.below hb2 (Nat.le_refl _)) H8.out hs hln _ hp)
        have hjl : j < l.length := by
          have := (List.getElem?_eq_some_iff.1 hj).1
          rwa [bytL2_length] at this
        have hnl := hpre.length_le
        rw [List.length_drop, HSL.out] at hnl
        have HEQ : Hid (encL (bytL2 l) (s.data.toList.drop k) = UInt8.ofNat j :: encL (bytL2 l) (s.data.toList.drop (k + t.length))) := by
          unfold Hid
          rw [enc_code hp hn0, List.drop_drop]
        clear hp hj hpre HTL HDR
        generalize t.length = n at *
        have j0 : (0 : Int) ≤ (j : Int) := by omega
        have j1 : (j : Int) < 256 := by omega
        have hbs : (UInt8.ofNat j).toNat = j := by simp; omega
        go_wp2_with fail
        refine (HLG.out _ (by first | exact HB.out | exact below_drewN' HB.out _)).mono ?_
        rintro r w1 ⟨rfl, m, rfl⟩
        have hb1 : Below w.heap.size w (wr.drewN m) := below_drewN' HB.out m
        have ho1 : (wr.drewN m).ownsRow w.heap.size 5 1 (.slice A' ys.length c') ys.length (bv ys) := own_keep HO.out (fun _ _ => rfl)
        have hz1 : w.heap.size ≤ (wr.drewN m).heap.size := hb1.size
        generalize wr.drewN m = w1 at *
        have HO1 := Lib.hid ho1
        have HB1 := Lib.hid hb1
        clear ho1 hb1
        go_wp2_with (at_builtin; refine wpList_push (v := .slice A' ys.length c') w.heap.size ys (UInt8.ofNat j) rfl _ _ rfl rfl rfl rfl (by rw [hbs, World.cell?_alloc_at _ _ _ _ rfl]; rfl) (HO1.out.alloc _) (by omega) (by simp; omega) ?_; intro A2 c2 w2 ho2 hg2)
        go_roundw
        case rel =>
          refine ⟨k + n, ys ++ [UInt8.ofNat j], A2, c2, by omega, by go_num, by rw [List.length_append]; rfl, by rw [List.length_append, List.length_cons, List.length_nil]; omega, ?_, ho2, (HB1.out.alloc hz1 _).grown hg2 (by simp; omega) (fun q hq => (own_lt HO1.out hq).1)⟩
          rw [List.append_assoc, ← HYS.out, HEQ.out]
          rfl
        case measure => simp [intOf] <;> omega
    · have ik : ¬ (k : Int) < (s.size : Int) := by omega
      have hfin : ys = v := by
        rw [← HYS.out, List.drop_of_length_le (by rw [HSL.out]; omega), enc_nil, List.append_nil]
      have HF := Lib.hid hfin
      clear hfin
      go_wp2_with fail
      go_ret
      exact ⟨A', c', by rw [← HF.out]; rfl, by rw [← HF.out]; exact HO.out, HB.out⟩
end Go.Proofs.Ytniehbghgialjaa
