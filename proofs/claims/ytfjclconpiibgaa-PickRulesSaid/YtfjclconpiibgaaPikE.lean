/-
  The pick's Bits and Through.
-/
import Derived.Test.YtfjclconpiibgaaPikA
namespace Go.Proofs.Ytfjclconpiibgaa
set_option linter.unusedSimpArgs false
set_option linter.unusedVariables false
open Go.RowKit

/-- Bits, of n rows -/
theorem bits_any {w : World} (zs : List Int) (n : Nat) {h' : Nat} {A : Option Addr} {c : Nat} (h : Rd w 0 h' A c (iv zs)) (hh : h' ≤ w.heap.size) (hn : n ≤ 2147483647) :
    Calls Try.prog 14 #[.slice A zs.length c, .int .i64 (n : Int)] w fun r w' => ∃ A' c', r = .returned (.slice A' n c') ∧
      w'.ownsRow w.heap.size 4 1 (.slice A' n c') n (lv (bitsL n zs)) ∧ Below w.heap.size w w' := by
  have hl := h.len
  have hc := h.cap
  rw [iv_length] at hl
  unfold maxLen at hc
  obtain ⟨w1, hmake, ho1, hg1⟩ := make_bools w n (by omega)
  have hb1 : Below w.heap.size w w1 := (Below.refl _ _).grown hg1 (Nat.le_refl _) (by simp)
  have HO1 := Lib.hid ho1
  have HB1 := Lib.hid hb1
  have H := Lib.hid h
  clear h ho1 hg1 hb1
  go_enter Try.func14, Try.ntmps14
  go_wp2_with fail
  go_loopw [18] (fun i wr => ∃ (k : Nat) (bs : List Bool), k ≤ zs.length ∧ i = .int .i64 (k : Int) ∧ bs = bitsL n (zs.take k) ∧
      wr.ownsRow w.heap.size 4 1 (.slice (some ⟨w.heap.size, 0, none⟩) n n) n (lv bs) ∧ Below w.heap.size w wr) (fun i _ => zs.length - (intOf i).toNat)
  case atStart => exact ⟨0, _, Nat.zero_le _, rfl, rfl, by simpa [bitsL, lv] using HO1.out, HB1.out⟩
  case round =>
    clear HO1 HB1
    obtain ⟨k, bs, hk, rfl, hbs, ho, hb⟩ := hrel
    have hbl : bs.length = n := by rw [hbs]; exact bits_len _ _
    have HBS := Lib.hid hbs
    have HO := Lib.hid ho
    have HB := Lib.hid hb
    clear hbs ho hb
    by_cases hlt : k < zs.length
    · obtain ⟨b, off, rfl, _, _, hcell⟩ := (H.out.below HB.out hh).num hlt
      have HT := Lib.hid (bits_take n zs k hlt)
      generalize zs[k] = z at *
      by_cases hz : 0 ≤ z ∧ z < (n : Int)
      · obtain ⟨j, rfl⟩ := Int.eq_ofNat_of_zero_le hz.1
        have hj : j < n := by omega
        have hfr := HO.out.frozenAt j
        have hxk : j < (lv bs).length := by rw [lv_length]; omega
        have hcx : wr.cell? ⟨w.heap.size, j, none⟩ = some (lv bs)[j] := by
          rw [HO.out.cellAt j (by omega), List.getElem?_eq_getElem hxk]
        have HST := Lib.hid (HO.out.stored j (.bool true))
        have HN : Hid (bs.set j true = bitsL n (zs.take (k + 1))) := by
          unfold Hid
          rw [HT.out, ← HBS.out, bitSet, if_pos hz, Int.toNat_natCast]
        have HL : Hid ((lv bs).set j (.bool true) = lv (bs.set j true)) := (lv_set bs j true).symm
        clear hz hbl
        generalize (lv bs)[j] = x0 at *
        go_wp2_with fail
        refine (within_yes (w := wr) (j : Int) (n : Int) (by omega) (by omega)).mono ?_
        rintro r w' ⟨rfl, rfl⟩
        go_wp2
        go_roundw
        case rel =>
          refine ⟨k + 1, bs.set j true, by omega, by go_num, HN.out, ?_, ?_⟩
          · rw [← HL.out]
            exact HST.out.1
          · exact below_some HB.out HST.out.2 HB.out.size (Nat.le_refl _)
        case measure => simp [intOf]; omega
      · have HN : Hid (bs = bitsL n (zs.take (k + 1))) := by
          unfold Hid
          rw [HT.out, ← HBS.out, bitSet, if_neg hz]
        have HW := Lib.hid (within_no (w := wr) z (n : Int) hz)
        clear hz
        go_wp2_with fail
        refine HW.out.mono ?_
        rintro r w' ⟨rfl, rfl⟩
        go_wp2
        go_roundw
        case rel => exact ⟨k + 1, bs, by omega, by go_num, HN.out, HO.out, HB.out⟩
        case measure => simp [intOf]; omega
    · obtain rfl : k = zs.length := by omega
      have hbs := HBS.out
      rw [List.take_length] at hbs
      subst hbs
      clear HBS
      go_wp2
      go_ret
      exact ⟨_, _, rfl, HO.out, HB.out⟩

/-- Through -/
theorem through_any {w : World} (xs ys us : List Int) (hus : thrL xs ys = us) {ha hb : Nat} {A B : Option Addr} {c d : Nat} (h : Rd w 0 ha A c (iv xs)) (h2 : Rd w 0 hb B d (iv ys)) (hh : ha ≤ w.heap.size) (hh2 : hb ≤ w.heap.size) (hlen2 : ys.length ≤ 1000000000000) :
    Calls Try.prog 18 #[.slice A xs.length c, .slice B ys.length d] w fun r w' => ∃ A' c', r = .returned (.slice A' us.length c') ∧
      w'.ownsRow w.heap.size 3 1 (.slice A' us.length c') us.length (iv us) ∧ Below w.heap.size w w' := by
  have hl := h.len
  have hc := h.cap
  rw [iv_length] at hl
  unfold maxLen at hc
  have hl2 := h2.len
  have hc2 := h2.cap
  rw [iv_length] at hl2
  unfold maxLen at hc2
  have H := Lib.hid h
  have H2 := Lib.hid h2
  have HUS := Lib.hid hus
  clear h h2 hus
  obtain ⟨w1, hmake, ho1, hg1⟩ := make_room w ys.length (by omega)
  have HB1 := Lib.hid ((Below.refl _ _).grown hg1 (Nat.le_refl _) (by simp) : Below w.heap.size w w1)
  have HO1 := Lib.hid ho1
  clear ho1 hg1
  go_enter Try.func18, Try.ntmps18
  go_wp2_with fail
  clear hmake
  go_loopw [5, 13] (fun v i wr => ∃ (k : Nat) (zs : List Int) (A' : Option Addr) (c' : Nat), k ≤ ys.length ∧ i = .int .i64 (k : Int) ∧ v = .slice A' zs.length c' ∧ zs = thrL xs (ys.take k) ∧
      wr.ownsRow w.heap.size 3 1 (.slice A' zs.length c') zs.length (iv zs) ∧ Below w.heap.size w wr) (fun _ i _ => ys.length - (intOf i).toNat)
  case atStart => exact ⟨0, [], _, _, Nat.zero_le _, rfl, rfl, rfl, HO1.out, HB1.out⟩
  case round =>
    clear HO1 HB1
    obtain ⟨k, zs, A', c', hk, rfl, rfl, hzs, hown, hbel⟩ := hrel
    have hzl : zs.length ≤ k := by
      rw [hzs]
      exact Nat.le_trans (thrL_len _ _) (by rw [List.length_take]; omega)
    have HZ := Lib.hid hzs
    have HO := Lib.hid hown
    have HB := Lib.hid hbel
    have hsz := hbel.size
    clear hzs hown hbel
    by_cases hlt : k < ys.length
    · obtain ⟨b, off, rfl, _, _, hcell⟩ := (H2.out.below HB.out hh2).num hlt
      have HT := Lib.hid (thrL_take xs ys k hlt)
      generalize ys[k] = z at *
      by_cases hz : 0 ≤ z ∧ z < (xs.length : Int)
      · obtain ⟨j, rfl⟩ := Int.eq_ofNat_of_zero_le hz.1
        have hj : j < xs.length := by omega
        obtain ⟨b1, off1, rfl, _, _, hcell1⟩ := (H.out.below HB.out hh).num hj
        have HN : Hid (zs ++ [xs[j]] = thrL xs (ys.take (k + 1))) := by
          unfold Hid
          rw [HT.out, ← HZ.out, thrO_some xs j hz.1 hz.2]
          rfl
        clear hz
        generalize xs[j] = x at *
        go_wp2_with fail
        refine (within_yes (w := wr) (j : Int) (xs.length : Int) (by omega) (by omega)).mono ?_
        rintro r w' ⟨rfl, rfl⟩
        go_wp2_with (at_builtin; refine wpList_push_num (v := .slice A' zs.length c') w.heap.size zs x rfl _ _ rfl rfl rfl rfl (by rw [World.cell?_alloc_at _ _ _ _ rfl]; rfl) (HO.out.alloc _) (by omega) (by simp; omega) ?_; intro A2 c2 w2 hown2 hgr2)
        have HO2 := Lib.hid hown2
        have HG2 := Lib.hid hgr2
        clear hown2 hgr2
        go_wp2
        go_roundw
        case rel =>
          refine ⟨k + 1, zs ++ [x], A2, c2, by omega, by go_num, by simp, HN.out, HO2.out, ?_⟩
          exact (HB.out.alloc hsz _).grown HG2.out (by simp; omega) (fun j hj => own_row HO.out j hj)
        case measure => simp [intOf]; omega
      · have HN : Hid (zs = thrL xs (ys.take (k + 1))) := by
          unfold Hid
          rw [HT.out, ← HZ.out, thrO_none xs z hz]
          simp
        have HW := Lib.hid (within_no (w := wr) z (xs.length : Int) hz)
        clear hz
        go_wp2_with fail
        refine HW.out.mono ?_
        rintro r w' ⟨rfl, rfl⟩
        go_wp2
        go_roundw
        case rel => exact ⟨k + 1, zs, A', c', by omega, by go_num, rfl, HN.out, HO.out, HB.out⟩
        case measure => simp [intOf]; omega
    · obtain rfl : k = ys.length := by omega
      have hz : zs = us := by rw [HZ.out, List.take_length, HUS.out]
      subst hz
      clear HZ HUS
      go_wp2
      go_ret
      exact ⟨_, _, rfl, HO.out, HB.out⟩
end Go.Proofs.Ytfjclconpiibgaa
