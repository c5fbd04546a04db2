/-
  The pick's Not.
-/
import Derived.Test.YtfjclconpiibgaaPikC
namespace Go.Proofs.Ytfjclconpiibgaa
set_option linter.unusedSimpArgs false
set_option linter.unusedVariables false
open Go.RowKit

set_option maxHeartbeats 400000 in
/-- Not, of n rows -/
theorem pnot_any {w : World} (ys us : List Int) (n : Nat) (hus : notL 0 n ys = us) {hb : Nat} {B : Option Addr} {d : Nat} (h2 : Rd w 0 hb B d (iv ys)) (hh2 : hb ≤ w.heap.size) (hn : n ≤ 1000000000) :
    Calls Try.prog 17 #[.slice B ys.length d, .int .i64 (n : Int)] w fun r w' => ∃ A' c', r = .returned (.slice A' us.length c') ∧
      w'.ownsRow w.heap.size 3 1 (.slice A' us.length c') us.length (iv us) ∧ Below w.heap.size w w' := by
  have hl2 := h2.len
  have hc2 := h2.cap
  rw [iv_length] at hl2
  unfold maxLen at hc2
  have hul : us.length ≤ n := by rw [← hus]; exact notL_len 0 n ys
  have H2 := Lib.hid h2
  have HUS := Lib.hid hus
  clear h2 hus
  obtain ⟨m, hm⟩ : ∃ m : Nat, (m = n - ys.length ∧ ys.length ≤ n) ∨ (m = 0 ∧ ¬ys.length ≤ n) := by
    by_cases hlt : ys.length ≤ n
    · exact ⟨_, .inl ⟨rfl, hlt⟩⟩
    · exact ⟨_, .inr ⟨rfl, hlt⟩⟩
  obtain ⟨w1, hmake, ho1, hg1⟩ := make_room w m (by omega)
  have HB1 := Lib.hid ((Below.refl _ _).grown hg1 (Nat.le_refl _) (by simp) : Below w.heap.size w w1)
  have HO1 := Lib.hid ho1
  clear ho1 hg1
  rcases hm with ⟨rfl, hlt⟩ | ⟨rfl, hlt⟩
  all_goals
    first
    | rw [Int.ofNat_sub hlt] at hmake
    | rw [show ((0 : Nat) : Int) = 0 from rfl] at hmake
    go_enter Try.func17, Try.ntmps17
    go_wp2_with fail
    go_step3
    go_wp2_with fail
    go_step3
    go_wp2_with fail
    clear hlt hmake
    go_loopg [6, 7, 21] n (fun g v kk ii wr => ∃ (i k : Nat) (zs : List Int) (A' : Option Addr) (c' : Nat), i + g = n ∧ k ≤ ys.length ∧ ii = .int .i64 (i : Int) ∧ kk = .int .i64 (k : Int) ∧ v = .slice A' zs.length c' ∧ zs ++ notL i g (ys.drop k) = us ∧
      wr.ownsRow w.heap.size 3 1 (.slice A' zs.length c') zs.length (iv zs) ∧ Below w.heap.size w wr)
    case atStart => exact ⟨0, 0, [], _, _, by omega, Nat.zero_le _, rfl, rfl, rfl, by simpa using HUS.out, HO1.out, HB1.out⟩
    case round =>
      clear HB1 HO1
      obtain ⟨i, k, zs, A', c', hig, hk, rfl, rfl, rfl, hzs, hown, hbel⟩ := hrel
      have hzl : zs.length ≤ us.length := by rw [← hzs, List.length_append]; omega
      have HZ := Lib.hid hzs
      have HO := Lib.hid hown
      have HB := Lib.hid hbel
      have hsz := hbel.size
      clear hzs hown hbel
      cases gk with
      | zero =>
        have hnlt : ¬(i : Int) < (n : Int) := by omega
        have hz : zs = us := by
          have := HZ.out
          rw [notL, List.append_nil] at this
          exact this
        subst hz
        go_wp2
        try rw [Exit.noGoto_ret]
        go_ret
        exact ⟨_, _, rfl, HO.out, HB.out⟩
      | succ g =>
        have hilt : (i : Int) < (n : Int) := by omega
        go_wp2_with fail
        go_loopg [7] (ys.length - k) (fun g2 kk wx => ∃ (k2 : Nat), k2 + g2 = ys.length ∧ kk = .int .i64 (k2 : Int) ∧ zs ++ notL i (g + 1) (ys.drop k2) = us ∧ wr = wx)
        case atStart => exact ⟨k, by omega, rfl, HZ.out, rfl⟩
        case round =>
          clear HZ hk
          obtain ⟨k2, hjg, rfl, hzs2, rfl⟩ := hrel
          have HZ2 := Lib.hid hzs2
          clear hzs2
          cases gk with
          | zero =>
            have hjl : ¬(k2 : Int) < (ys.length : Int) := by omega
            have HN : Hid ((zs ++ [(i : Int)]) ++ notL ((i + 1 : Nat) : Int) g (ys.drop k2) = us) := by
              have := HZ2.out
              rw [show ys.drop k2 = [] from List.drop_eq_nil_of_le (by omega), notL] at this
              rw [show ys.drop k2 = [] from List.drop_eq_nil_of_le (by omega), List.append_assoc]
              exact this
            go_wp2_with (at_builtin; refine wpList_push_num (v := .slice A' zs.length c') w.heap.size zs (i : Int) rfl _ _ rfl rfl rfl rfl (by rw [World.cell?_alloc_at _ _ _ _ rfl]; rfl) (HO.out.alloc _) (by omega) (by simp; omega) ?_; intro A3 c3 w3 hown3 hgr3)
            have HO3 := Lib.hid hown3
            have HG3 := Lib.hid hgr3
            clear hown3 hgr3
            go_wp2
            go_roundg g
            case measure => omega
            case rel =>
              refine ⟨i + 1, k2, zs ++ [(i : Int)], A3, c3, by omega, by omega, by go_num, rfl, by simp, HN.out, HO3.out, ?_⟩
              exact (HB.out.alloc hsz _).grown HG3.out (by simp; omega) (fun j hj => own_row HO.out j hj)
          | succ g2 =>
            have hjl : (k2 : Int) < (ys.length : Int) := by omega
            obtain ⟨b1, off1, rfl, _, _, hcell2⟩ := (H2.out.below HB.out hh2).num (k := k2) (by omega)
            have HY : Hid (ys.drop k2 = ys[k2] :: ys.drop (k2 + 1)) := List.drop_eq_getElem_cons (by omega)
            generalize ys[k2] = y at *
            have HS : Hid (zs ++ notL i (g + 1) (y :: ys.drop (k2 + 1)) = us) := by
              unfold Hid
              rw [← HY.out]
              exact HZ2.out
            by_cases hyx : y ≤ (i : Int)
            · by_cases he : y = (i : Int)
              · subst he
                have HN : Hid (zs ++ notL ((i + 1 : Nat) : Int) g (ys.drop (k2 + 1)) = us) := by
                  have := HS.out
                  rw [notL, if_pos hyx, if_pos rfl] at this
                  exact this
                go_wp2
                go_roundg g
                case measure => omega
                case rel => exact ⟨i + 1, k2 + 1, zs, A', c', by omega, by omega, by go_num, by go_num, rfl, HN.out, HO.out, HB.out⟩
              · have hne : (y == (i : Int)) = false := by simpa using he
                have HN : Hid (zs ++ notL i (g + 1) (ys.drop (k2 + 1)) = us) := by
                  have := HS.out
                  rw [notL, if_pos hyx, if_neg he] at this
                  exact this
                go_wp2
                go_roundg g2
                case measure => omega
                case rel => exact ⟨k2 + 1, by omega, by go_num, HN.out, rfl⟩
            · have HN : Hid ((zs ++ [(i : Int)]) ++ notL ((i + 1 : Nat) : Int) g (ys.drop k2) = us) := by
                have := HS.out
                rw [notL, if_neg hyx, ← HY.out] at this
                rw [List.append_assoc]
                exact this
              go_wp2_with (at_builtin; refine wpList_push_num (v := .slice A' zs.length c') w.heap.size zs (i : Int) rfl _ _ rfl rfl rfl rfl (by rw [World.cell?_alloc_at _ _ _ _ rfl]; rfl) (HO.out.alloc _) (by omega) (by simp; omega) ?_; intro A3 c3 w3 hown3 hgr3)
              have HO3 := Lib.hid hown3
              have HG3 := Lib.hid hgr3
              clear hown3 hgr3
              go_wp2
              go_roundg g
              case measure => omega
              case rel =>
                refine ⟨i + 1, k2, zs ++ [(i : Int)], A3, c3, by omega, by omega, by go_num, rfl, by simp, HN.out, HO3.out, ?_⟩
                exact (HB.out.alloc hsz _).grown HG3.out (by simp; omega) (fun j hj => own_row HO.out j hj)
end Go.Proofs.Ytfjclconpiibgaa
