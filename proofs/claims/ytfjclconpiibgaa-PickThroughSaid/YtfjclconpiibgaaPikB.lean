/-
  The pick's And, Or, Not: two lists gone through side by side.
-/
import Derived.Test.YtfjclconpiibgaaPikA
import Derived.Deep.LoopGhost
import Derived.WalkMore
import Derived.Lib.SliceRun
namespace Go.Proofs.Ytfjclconpiibgaa
set_option linter.unusedSimpArgs false
set_option linter.unusedVariables false
open Go.RowKit

theorem iv_drop (l : List Int) (k : Nat) : iv (l.drop k) = (iv l).drop k := by simp [iv, List.map_drop]

/-- And -/
theorem and_any {w : World} (xs ys us : List Int) (hus : andL xs ys = us) {ha hb : Nat} {A B : Option Addr} {c d : Nat} (h : Rd w 0 ha A c (iv xs)) (h2 : Rd w 0 hb B d (iv ys)) (hh : ha ≤ w.heap.size) (hh2 : hb ≤ w.heap.size) (hlen : xs.length ≤ 1000000000000) (hlen2 : ys.length ≤ 1000000000000) :
    Calls Try.prog 15 #[.slice A xs.length c, .slice B ys.length d] w fun r w' => ∃ A' c', r = .returned (.slice A' us.length c') ∧
      w'.ownsRow w.heap.size 3 1 (.slice A' us.length c') us.length (iv us) ∧ Below w.heap.size w w' := by
  have hl := h.len
  have hc := h.cap
  rw [iv_length] at hl
  unfold maxLen at hc
  have hl2 := h2.len
  have hc2 := h2.cap
  rw [iv_length] at hl2
  unfold maxLen at hc2
  have hul : us.length ≤ ys.length := by rw [← hus]; exact andL_len xs ys
  have H := Lib.hid h
  have H2 := Lib.hid h2
  have HUS := Lib.hid hus
  clear h h2 hus
  obtain ⟨m, hm⟩ : ∃ m : Nat, (m = ys.length ∧ ys.length < xs.length) ∨ (m = xs.length ∧ ¬ys.length < xs.length) := by
    by_cases hlt : ys.length < xs.length
    · exact ⟨_, .inl ⟨rfl, hlt⟩⟩
    · exact ⟨_, .inr ⟨rfl, hlt⟩⟩
  obtain ⟨w1, hmake, ho1, hg1⟩ := make_room w m (by omega)
  have HB1 := Lib.hid ((Below.refl _ _).grown hg1 (Nat.le_refl _) (by simp) : Below w.heap.size w w1)
  have HO1 := Lib.hid ho1
  clear ho1 hg1
  rcases hm with ⟨rfl, hlt⟩ | ⟨rfl, hlt⟩
  all_goals
    go_enter Try.func15, Try.ntmps15
    go_wp2_with fail
    go_step3
    go_wp2_with fail
    go_step3
    go_wp2_with fail
    clear hlt hmake
    go_loopg [5, 6, 19] xs.length (fun g v kk ii wr => ∃ (i k : Nat) (zs : List Int) (A' : Option Addr) (c' : Nat), i + g = xs.length ∧ k ≤ ys.length ∧ ii = .int .i64 (i : Int) ∧ kk = .int .i64 (k : Int) ∧ v = .slice A' zs.length c' ∧ zs ++ andL (xs.drop i) (ys.drop k) = us ∧
      wr.ownsRow w.heap.size 3 1 (.slice A' zs.length c') zs.length (iv zs) ∧ Below w.heap.size w wr)
    case atStart => exact ⟨0, 0, [], _, _, by omega, Nat.zero_le _, rfl, rfl, rfl, by simpa using HUS.out, HO1.out, HB1.out⟩
    case round =>
      clear HB1 HO1
      obtain ⟨i, k, zs, A', c', hig, hk, rfl, rfl, rfl, hzs, hown, hbel⟩ := hrel
      have hzl : zs.length ≤ us.length := by rw [← hzs, List.length_append]; omega
      have HZ := Lib.hid hzs
      have HO := Lib.hid hown
      have HB := Lib.hid hbel
      have hsz := hbel.size
      clear hzs hown hbel
      cases gk with
      | zero =>
        have hnlt : ¬(i : Int) < (xs.length : Int) := by omega
        have hz : zs = us := by
          have := HZ.out
          rw [List.drop_eq_nil_of_le (by omega), andL, List.append_nil] at this
          exact this
        subst hz
        go_wp2
        try rw [Exit.noGoto_ret]
        go_ret
        exact ⟨_, _, rfl, HO.out, HB.out⟩
      | succ g =>
        have hilt : (i : Int) < (xs.length : Int) := by omega
        obtain ⟨b0, off, rfl, _, _, hcell⟩ := (H.out.below HB.out hh).num (k := i) (by omega)
        have HD : Hid (xs.drop i = xs[i] :: xs.drop (i + 1)) := List.drop_eq_getElem_cons (by omega)
        generalize xs[i] = x at *
        rcases Nat.lt_or_ge k ys.length with hky | hky
        · have hdk : ¬d = k := by omega
          obtain ⟨b1, off1, rfl, _, _, hcell1⟩ := (H2.out.below HB.out hh2).num (k := k) hky
          clear hcell1
          go_wp2_with fail
          go_loopg [5, 6, 27] (ys.length - k) (fun g2 v kk jj wx => ∃ (j : Nat) (zs2 : List Int) (A2 : Option Addr) (c2 : Nat), j + g2 = ys.length - k ∧ jj = .int .i64 (j : Int) ∧ kk = .int .i64 ((k + j : Nat) : Int) ∧ v = .slice A2 zs2.length c2 ∧
            zs2 ++ andL (xs.drop i) (ys.drop (k + j)) = us ∧ wx.ownsRow w.heap.size 3 1 (.slice A2 zs2.length c2) zs2.length (iv zs2) ∧ Below w.heap.size w wx)
          case atStart => exact ⟨0, zs, A', c', by omega, rfl, rfl, rfl, HZ.out, HO.out, HB.out⟩
          case round =>
            clear HZ HO HB hsz hzl hcell
            obtain ⟨j, zs2, A2, c2, hjg, rfl, rfl, rfl, hzs2, hown2, hbel2⟩ := hrel
            have hzl2 : zs2.length ≤ us.length := by rw [← hzs2, List.length_append]; omega
            have HZ2 := Lib.hid hzs2
            have HO2 := Lib.hid hown2
            have HB2 := Lib.hid hbel2
            have hsz2 := hbel2.size
            clear hzs2 hown2 hbel2
            cases gk with
            | zero =>
              have hjl : ¬(j : Int) < ((ys.length - k : Nat) : Int) := by omega
              have hz : zs2 = us := by
                have := HZ2.out
                rw [show ys.drop (k + j) = [] from List.drop_eq_nil_of_le (by omega), HD.out, andL, List.append_nil] at this
                exact this
              subst hz
              go_wp2
              try rw [Exit.noGoto_ret]
              go_ret
              exact ⟨_, _, rfl, HO2.out, HB2.out⟩
            | succ g2 =>
              have hjl : (j : Int) < ((ys.length - k : Nat) : Int) := by omega
              obtain ⟨_, _, e, _, _, hcell2⟩ := (H2.out.below HB2.out hh2).num (k := k + j) (by omega)
              cases e
              rw [← Nat.add_assoc] at hcell2
              have HY : Hid (ys.drop (k + j) = ys[k + j] :: ys.drop (k + (j + 1))) := List.drop_eq_getElem_cons (by omega)
              generalize ys[k + j] = y at *
              have HS : Hid (zs2 ++ andL (x :: xs.drop (i + 1)) (y :: ys.drop (k + (j + 1))) = us) := by
                unfold Hid
                rw [← HD.out, ← HY.out]
                exact HZ2.out
              by_cases hxy : x < y
              · have HN : Hid (zs2 ++ andL (xs.drop (i + 1)) (ys.drop (k + j)) = us) := by
                  have := HS.out
                  rw [andL, if_pos hxy, ← HY.out] at this
                  exact this
                go_wp2
                go_roundg g
                case measure => omega
                case rel => exact ⟨i + 1, k + j, zs2, A2, c2, by omega, by omega, by go_num, rfl, rfl, HN.out, HO2.out, HB2.out⟩
              · by_cases hyx : y = x
                · have HN : Hid ((zs2 ++ [x]) ++ andL (xs.drop i) (ys.drop (k + (j + 1))) = us) := by
                    have := HS.out
                    rw [andL, if_neg hxy, if_pos hyx, ← HD.out] at this
                    rw [List.append_assoc]
                    exact this
                  go_wp2_with (at_builtin; refine wpList_push_num (v := .slice A2 zs2.length c2) w.heap.size zs2 x rfl _ _ rfl rfl rfl rfl (by rw [World.cell?_alloc_at _ _ _ _ rfl]; rfl) (HO2.out.alloc _) (by omega) (by simp; omega) ?_; intro A3 c3 w3 hown3 hgr3)
                  have HO3 := Lib.hid hown3
                  have HG3 := Lib.hid hgr3
                  clear hown3 hgr3
                  go_wp2
                  go_roundg g2
                  case measure => omega
                  case rel =>
                    refine ⟨j + 1, zs2 ++ [x], A3, c3, by omega, by go_num, by go_num, by simp, HN.out, HO3.out, ?_⟩
                    exact (HB2.out.alloc hsz2 _).grown HG3.out (by simp; omega) (fun j hj => own_row HO2.out j hj)
                · have hne : (y == x) = false := by simpa using hyx
                  have HN : Hid (zs2 ++ andL (xs.drop i) (ys.drop (k + (j + 1))) = us) := by
                    have := HS.out
                    rw [andL, if_neg hxy, if_neg hyx, ← HD.out] at this
                    exact this
                  go_wp2
                  go_roundg g2
                  case measure => omega
                  case rel => exact ⟨j + 1, zs2, A2, c2, by omega, by go_num, by go_num, rfl, HN.out, HO2.out, HB2.out⟩
        · obtain rfl : k = ys.length := by omega
          have hz : zs = us := by
            have := HZ.out
            rw [HD.out, List.drop_length, andL, List.append_nil] at this
            exact this
          subst hz
          go_wp2
          all_goals
            go_loopg [5, 6, 27] 0 (fun g2 v kk jj wx => jj = .int .i64 0 ∧ kk = .int .i64 (ys.length : Int) ∧ v = .slice A' zs.length c' ∧ wr = wx)
            case atStart => exact ⟨rfl, rfl, rfl, rfl⟩
            case round =>
              obtain ⟨rfl, rfl, rfl, rfl⟩ := hrel
              go_wp2
              try rw [Exit.noGoto_ret]
              go_ret
              exact ⟨_, _, rfl, HO.out, HB.out⟩
end Go.Proofs.Ytfjclconpiibgaa
