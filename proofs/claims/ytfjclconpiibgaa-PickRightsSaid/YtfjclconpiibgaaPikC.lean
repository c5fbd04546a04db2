/-
  The pick's Or.
-/
import Derived.Test.YtfjclconpiibgaaPikB
namespace Go.Proofs.Ytfjclconpiibgaa
set_option linter.unusedSimpArgs false
set_option linter.unusedVariables false
open Go.RowKit

theorem Rd.dropped {w : World} {lo hi b off c k : Nat} {l : List Int} (h : Rd w lo hi (some ⟨b, off, none⟩) c (iv l)) (hk : k < l.length) : Rd w lo hi (some ⟨b, off + k, none⟩) (c - k) (iv (l.drop k)) := by
  have hl := h.len
  rw [iv_length] at hl
  have hcut := h.cut (k := k) (n := l.length) (by omega) (by rw [iv_length]; exact Nat.le_refl _)
  rw [List.take_of_length_le (by simp [iv_length]), ← iv_drop, if_neg (by omega)] at hcut
  have e : Option.map (fun x : Addr => x.add k) (some ⟨b, off, none⟩) = some ⟨b, off + k, none⟩ := by
    unfold Addr.add
    by_cases h0 : k = 0 <;> simp [h0]
  rw [e] at hcut
  exact hcut

set_option maxHeartbeats 400000 in
/-- Or -/
theorem or_any {w : World} (xs ys us : List Int) (hus : orL xs ys = us) {ha hb : Nat} {A B : Option Addr} {c d : Nat} (h : Rd w 0 ha A c (iv xs)) (h2 : Rd w 0 hb B d (iv ys)) (hh : ha ≤ w.heap.size) (hh2 : hb ≤ w.heap.size) (hlen : xs.length ≤ 100000000000) (hlen2 : ys.length ≤ 100000000000) :
    Calls Try.prog 16 #[.slice A xs.length c, .slice B ys.length d] w fun r w' => ∃ A' c', r = .returned (.slice A' us.length c') ∧
      w'.ownsRow w.heap.size 3 1 (.slice A' us.length c') us.length (iv us) ∧ Below w.heap.size w w' := by
  have hl := h.len
  have hc := h.cap
  rw [iv_length] at hl
  unfold maxLen at hc
  have hl2 := h2.len
  have hc2 := h2.cap
  rw [iv_length] at hl2
  unfold maxLen at hc2
  have hul : us.length ≤ xs.length + ys.length := by rw [← hus]; exact orL_len xs ys
  have H := Lib.hid h
  have H2 := Lib.hid h2
  have HUS := Lib.hid hus
  clear h h2 hus
  obtain ⟨w1, hmake, ho1, hg1⟩ := make_room w (xs.length + ys.length) (by omega)
  rw [show ((xs.length + ys.length : Nat) : Int) = (xs.length : Int) + (ys.length : Int) from by omega] at hmake
  have HB1 := Lib.hid ((Below.refl _ _).grown hg1 (Nat.le_refl _) (by simp) : Below w.heap.size w w1)
  have HO1 := Lib.hid ho1
  clear ho1 hg1
  go_enter Try.func16, Try.ntmps16
  go_wp2_with fail
  go_step3
  go_wp2_with fail
  go_step3
  go_wp2_with fail
  clear hmake
  go_loopg [5, 6, 18] xs.length (fun g v kk ii wr => ∃ (i k : Nat) (zs : List Int) (A' : Option Addr) (c' : Nat), i + g = xs.length ∧ k ≤ ys.length ∧ ii = .int .i64 (i : Int) ∧ kk = .int .i64 (k : Int) ∧ v = .slice A' zs.length c' ∧ zs ++ orL (xs.drop i) (ys.drop k) = us ∧
    wr.ownsRow w.heap.size 3 1 (.slice A' zs.length c') zs.length (iv zs) ∧ Below w.heap.size w wr)
  case atStart => exact ⟨0, 0, [], _, _, by omega, Nat.zero_le _, rfl, rfl, rfl, by simpa using HUS.out, HO1.out, HB1.out⟩
  case round =>
    clear HB1 HO1
    obtain ⟨i, k, zs, A', c', hig, hk, rfl, rfl, rfl, hzs, hown, hbel⟩ := hrel
    have hzl : zs.length ≤ us.length := by rw [← hzs, List.length_append]; omega
    have HZ := Lib.hid hzs
    have HO := Lib.hid hown
    have HB := Lib.hid hbel
    have hsz := hbel.size
    clear hzs hown hbel
    cases gk with
    | zero =>
      have hnlt : ¬(i : Int) < (xs.length : Int) := by omega
      have hz : zs ++ ys.drop k = us := by
        have := HZ.out
        rw [List.drop_eq_nil_of_le (by omega), orL] at this
        exact this
      rcases Nat.lt_or_ge k ys.length with hky | hky
      · have hdk : ¬d = k := by omega
        obtain ⟨b1, off1, rfl, _, _, hcell1⟩ := (H2.out.below HB.out hh2).num (k := k) hky
        obtain ⟨A2, c2, w2, hrun, ho2, hg2⟩ := append_nums wr w.heap.size (.slice A' zs.length c') zs (ys.drop k) us hz HO.out ((H2.out.below HB.out hh2).dropped hky) (by rw [List.length_drop]; omega) hsz
        rw [List.length_drop] at hrun
        have HO2 := Lib.hid ho2
        have HB2 := Lib.hid (HB.out.grown hg2 (by omega) (fun j hj => own_row HO.out j hj))
        clear hcell1 hz ho2 hg2
        go_wp2_with (at_builtin; refine wpList_append_run rfl _ _ _ _ rfl rfl rfl hrun ?_)
        try rw [Exit.noGoto_ret]
        go_ret
        exact ⟨_, _, rfl, HO2.out, HB2.out⟩
      · obtain rfl : k = ys.length := by omega
        rw [List.drop_length, List.append_nil] at hz
        subst hz
        clear HZ
        have hmx : d - ys.length ≤ maxLen := by simp only [maxLen]; omega
        go_wp2_with (at_builtin; refine wpList_append_zero (v := .slice A' zs.length c') w.heap.size zs rfl _ _ rfl rfl rfl rfl (by first | exact hmx | exact Nat.zero_le _) HO.out (by omega) hsz ?_; intro A2 c2 w2 hown2 hgr2)
        all_goals
          have HO2 := Lib.hid hown2
          have HB2 := Lib.hid (HB.out.grown hgr2 (by omega) (fun j hj => own_row HO.out j hj))
          try rw [Exit.noGoto_ret]
          go_ret
          exact ⟨_, _, rfl, HO2.out, HB2.out⟩
    | succ g =>
      have hilt : (i : Int) < (xs.length : Int) := by omega
      obtain ⟨b0, off, rfl, _, _, hcell⟩ := (H.out.below HB.out hh).num (k := i) (by omega)
      have HD : Hid (xs.drop i = xs[i] :: xs.drop (i + 1)) := List.drop_eq_getElem_cons (by omega)
      generalize xs[i] = x at *
      go_wp2_with fail
      go_loopg [5, 6] (ys.length - k) (fun g2 v kk wx => ∃ (k2 : Nat) (zs2 : List Int) (A2 : Option Addr) (c2 : Nat), k2 + g2 = ys.length ∧ kk = .int .i64 (k2 : Int) ∧ v = .slice A2 zs2.length c2 ∧
        zs2 ++ orL (xs.drop i) (ys.drop k2) = us ∧ wx.ownsRow w.heap.size 3 1 (.slice A2 zs2.length c2) zs2.length (iv zs2) ∧ Below w.heap.size w wx)
      case atStart => exact ⟨k, zs, A', c', by omega, rfl, rfl, HZ.out, HO.out, HB.out⟩
      case round =>
        clear HZ HO HB hsz hzl hcell hk
        obtain ⟨k2, zs2, A2, c2, hjg, rfl, rfl, hzs2, hown2, hbel2⟩ := hrel
        have hzl2 : zs2.length ≤ us.length := by rw [← hzs2, List.length_append]; omega
        have HZ2 := Lib.hid hzs2
        have HO2 := Lib.hid hown2
        have HB2 := Lib.hid hbel2
        have hsz2 := hbel2.size
        clear hzs2 hown2 hbel2
        cases gk with
        | zero =>
          have hjl : ¬(k2 : Int) < (ys.length : Int) := by omega
          have HN : Hid ((zs2 ++ [x]) ++ orL (xs.drop (i + 1)) (ys.drop k2) = us) := by
            have := HZ2.out
            rw [show ys.drop k2 = [] from List.drop_eq_nil_of_le (by omega), HD.out, orL] at this
            rw [show ys.drop k2 = [] from List.drop_eq_nil_of_le (by omega), List.append_assoc]
            exact this
          go_wp2_with (at_builtin; refine wpList_push_num (v := .slice A2 zs2.length c2) w.heap.size zs2 x rfl _ _ rfl rfl rfl rfl (by rw [World.cell?_alloc_at _ _ _ _ rfl]; rfl) (HO2.out.alloc _) (by omega) (by simp; omega) ?_; intro A3 c3 w3 hown3 hgr3)
          have HO3 := Lib.hid hown3
          have HG3 := Lib.hid hgr3
          clear hown3 hgr3
          go_wp2
          go_roundg g
          case measure => omega
          case rel =>
            refine ⟨i + 1, k2, zs2 ++ [x], A3, c3, by omega, by omega, by go_num, rfl, by simp, HN.out, HO3.out, ?_⟩
            exact (HB2.out.alloc hsz2 _).grown HG3.out (by simp; omega) (fun j hj => own_row HO2.out j hj)
        | succ g2 =>
          have hjl : (k2 : Int) < (ys.length : Int) := by omega
          obtain ⟨b1, off1, rfl, _, _, hcell2⟩ := (H2.out.below HB2.out hh2).num (k := k2) (by omega)
          have HY : Hid (ys.drop k2 = ys[k2] :: ys.drop (k2 + 1)) := List.drop_eq_getElem_cons (by omega)
          generalize ys[k2] = y at *
          have HS : Hid (zs2 ++ orL (x :: xs.drop (i + 1)) (y :: ys.drop (k2 + 1)) = us) := by
            unfold Hid
            rw [← HD.out, ← HY.out]
            exact HZ2.out
          by_cases hyx : y ≤ x
          · by_cases he : y = x
            · subst he
              have HN : Hid ((zs2 ++ [y]) ++ orL (xs.drop (i + 1)) (ys.drop (k2 + 1)) = us) := by
                have := HS.out
                rw [orL, if_pos hyx, if_pos rfl] at this
                rw [List.append_assoc]
                exact this
              go_wp2_with (at_builtin; refine wpList_push_num (v := .slice A2 zs2.length c2) w.heap.size zs2 y rfl _ _ rfl rfl rfl rfl (by rw [World.cell?_alloc_at _ _ _ _ rfl]; rfl) (HO2.out.alloc _) (by omega) (by simp; omega) ?_; intro A3 c3 w3 hown3 hgr3)
              have HO3 := Lib.hid hown3
              have HG3 := Lib.hid hgr3
              clear hown3 hgr3
              go_wp2
              go_roundg g
              case measure => omega
              case rel =>
                refine ⟨i + 1, k2 + 1, zs2 ++ [y], A3, c3, by omega, by omega, by go_num, by go_num, by simp, HN.out, HO3.out, ?_⟩
                exact (HB2.out.alloc hsz2 _).grown HG3.out (by simp; omega) (fun j hj => own_row HO2.out j hj)
            · have hne : (y == x) = false := by simpa using he
              have HN : Hid ((zs2 ++ [y]) ++ orL (xs.drop i) (ys.drop (k2 + 1)) = us) := by
                have := HS.out
                rw [orL, if_pos hyx, if_neg he, ← HD.out] at this
                rw [List.append_assoc]
                exact this
              go_wp2_with (at_builtin; refine wpList_push_num (v := .slice A2 zs2.length c2) w.heap.size zs2 y rfl _ _ rfl rfl rfl rfl (by rw [World.cell?_alloc_at _ _ _ _ rfl]; rfl) (HO2.out.alloc _) (by omega) (by simp; omega) ?_; intro A3 c3 w3 hown3 hgr3)
              have HO3 := Lib.hid hown3
              have HG3 := Lib.hid hgr3
              clear hown3 hgr3
              go_wp2
              go_roundg g2
              case measure => omega
              case rel =>
                refine ⟨k2 + 1, zs2 ++ [y], A3, c3, by omega, by go_num, by simp, HN.out, HO3.out, ?_⟩
                exact (HB2.out.alloc hsz2 _).grown HG3.out (by simp; omega) (fun j hj => own_row HO2.out j hj)
          · have HN : Hid ((zs2 ++ [x]) ++ orL (xs.drop (i + 1)) (ys.drop k2) = us) := by
              have := HS.out
              rw [orL, if_neg hyx, ← HY.out] at this
              rw [List.append_assoc]
              exact this
            go_wp2_with (at_builtin; refine wpList_push_num (v := .slice A2 zs2.length c2) w.heap.size zs2 x rfl _ _ rfl rfl rfl rfl (by rw [World.cell?_alloc_at _ _ _ _ rfl]; rfl) (HO2.out.alloc _) (by omega) (by simp; omega) ?_; intro A3 c3 w3 hown3 hgr3)
            have HO3 := Lib.hid hown3
            have HG3 := Lib.hid hgr3
            clear hown3 hgr3
            go_wp2
            go_roundg g
            case measure => omega
            case rel =>
              refine ⟨i + 1, k2, zs2 ++ [x], A3, c3, by omega, by omega, by go_num, rfl, by simp, HN.out, HO3.out, ?_⟩
              exact (HB2.out.alloc hsz2 _).grown HG3.out (by simp; omega) (fun j hj => own_row HO2.out j hj)
end Go.Proofs.Ytfjclconpiibgaa
