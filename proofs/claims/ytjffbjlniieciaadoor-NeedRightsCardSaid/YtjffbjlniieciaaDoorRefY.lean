/-
  The document's Points and Fold of layer 8.
-/
import Derived.Test.YtjffbjlniieciaaDoorRefX
import Derived.Test.YtjffbjlniieciaaDoorOutM
import Derived.Test.YtjffbjlniieciaaDoorIvM
import Derived.Test.YtjffbjlniieciaaDoorIntA
import Derived.Test.YtjffbjlniieciaaDoorByt
import Derived.Lib.Strings
namespace Go.Proofs.YtjffbjlniieciaaDoor
set_option linter.unusedSimpArgs false
set_option linter.unusedVariables false
open Go.RowKit

theorem size_toL (s : ByteArray) : s.data.toList.length = s.size := by rw [Array.length_toList]; rfl
theorem ext_toL (s : ByteArray) (k : Nat) : (s.extract k s.size).data.toList = s.data.toList.drop k := by
  rw [Lib.extract_data, List.take_of_length_le]
  rw [List.length_drop, size_toL]
  exact Nat.le_refl _
theorem ext_head (s : ByteArray) (k : Nat) : (s.extract 0 k).data.toList = s.data.toList.take k := by
  rw [Lib.extract_data, List.drop_zero, Nat.sub_zero]
theorem size_ne {s : ByteArray} (h : 0 < s.size) : s.data.toList ≠ [] := fun e => by
  have := size_toL s
  rw [e] at this
  simp at this
  omega

set_option maxRecDepth 20000 in
set_option maxHeartbeats 1000000 in
theorem refPoints_any {w : World} (s : ByteArray) (hs : s.size ≤ 1000000) :
    Calls Tryd.prog 62 #[.string s] w fun r w' => ∃ A c, r = .returned (.slice A (ptsL s.data.toList).length c) ∧ w'.ownsRow w.heap.size 3 1 (.slice A (ptsL s.data.toList).length c) (ptsL s.data.toList).length (iv (ints (ptsL s.data.toList))) ∧ Below w.heap.size w w' := by
  go_enter Tryd.func62, Tryd.ntmps62
  go_wp2_with fail
  go_loopw [0, 3] (fun x0 x3 wr => ∃ (t : ByteArray) (ys : List Int) (A : Option Addr) (c : Nat), t.size ≤ s.size ∧ x0 = .string t ∧ x3 = .slice A ys.length c ∧ ys.length + t.size ≤ s.size ∧ ys ++ ints (ptsL t.data.toList) = ints (ptsL s.data.toList) ∧
    wr.ownsRow w.heap.size 3 1 (.slice A ys.length c) ys.length (iv ys) ∧ Below w.heap.size w wr) (fun x0 _ _ => (match x0 with | .string t => t.size | _ => 0))
  case atStart => exact ⟨s, [], none, 0, Nat.le_refl _, rfl, rfl, by simp, by simp, World.ownsRow_nil _ _ _ _, Below.refl _ _⟩
  case round =>
    obtain ⟨t, ys, A, c, ht, rfl, rfl, hyt, hys, hown, hb⟩ := hrel
    have HYS := Lib.hid hys
    have HOW := Lib.hid hown
    have HB := Lib.hid hb
    have hsz := hb.size
    clear hys hown hb
    by_cases h0 : 0 < t.size
    · have hne := size_ne h0
      have hk1 := ptL_pos t.data.toList
      have hk2 := ptL_le hne
      rw [size_toL] at hk2
      have HPC := Lib.hid (ptsL_cons hne)
      have HEX := Lib.hid (ext_toL t (ptL t.data.toList).2)
      have hpt := fun w0 => point_any (w := w0) t h0 (by omega)
      have HPT := Lib.hid hpt
      clear hpt hne
      generalize (ptL t.data.toList).1 = p at *
      generalize (ptL t.data.toList).2 = k at *
      go_wp2_with fail
      refine (HPT.out _).mono ?_
      rintro r w1 ⟨rfl, m, rfl⟩
      have ho1 : (wr.drewN m).ownsRow w.heap.size 3 1 (.slice A ys.length c) ys.length (iv ys) := own_keep HOW.out (fun _ _ => rfl)
      have hb1 := below_drewN' HB.out m
      have hz1 : wr.heap.size ≤ (wr.drewN m).heap.size := Nat.le_refl _
      generalize wr.drewN m = w1 at *
      have HO1 := Lib.hid ho1
      have HB1 := Lib.hid hb1
      have ik : (k : Int) ≤ (t.size : Int) := by omega
      have hxs : (t.extract k t.size).size = t.size - k := by rw [← size_toL, HEX.out, List.length_drop, size_toL]
      have HXS := Lib.hid hxs
      clear ho1 hb1 hxs
      go_wp2_with (at_builtin; refine wpList_push_num (v := .slice A ys.length c) w.heap.size ys (p : Int) rfl _ _ rfl rfl rfl rfl (by rw [World.cell?_alloc_at _ _ _ _ rfl]; rfl) (HO1.out.alloc _) (by omega) (by simp; omega) ?_; intro A' c' w2 ho2 hg2)
      go_roundw
      case rel =>
        refine ⟨t.extract k t.size, ys ++ [(p : Int)], A', c', by rw [HXS.out]; omega, rfl, by rw [List.length_append]; rfl, ?_, ?_, ho2, ?_⟩
        · rw [List.length_append, HXS.out, List.length_cons, List.length_nil]; omega
        · rw [HEX.out, List.append_assoc, ← HYS.out, HPC.out]; rfl
        · exact (HB1.out.alloc (by omega) _).grown hg2 (by simp; omega) (fun i hi => (own_lt HO1.out hi).1)
      case measure =>
        show (t.extract k t.size).size < t.size
        rw [HXS.out]; omega
    · have ht0 : t.data.toList = [] := List.eq_nil_of_length_eq_zero (by rw [size_toL]; omega)
      have hy : ys = ints (ptsL s.data.toList) := by
        have := HYS.out
        rw [ht0, ptsL_nil] at this
        simpa [ints] using this
      have hyl : ys.length = (ptsL s.data.toList).length := by rw [hy, ints_length]
      have HY := Lib.hid hy
      have HYL := Lib.hid hyl
      clear hy hyl
      go_wp2_with fail
      go_ret
      exact ⟨A, c, by rw [← HYL.out]; rfl, by rw [← HYL.out, ← HY.out]; exact HOW.out, HB.out⟩

/-- folded, as far as k -/
theorem fold_take {l : List UInt8} {k : Nat} (hk : k < l.length) : foldL (l.take (k + 1)) = foldL (l.take k) ++ [foldB l[k]] := by
  rw [List.take_succ_eq_append_getElem hk]
  unfold foldL
  rw [List.map_append]
  rfl
set_option maxRecDepth 20000 in
set_option maxHeartbeats 1000000 in
theorem refFold_any {w : World} (s : ByteArray) (hs : s.size ≤ 1000000) :
    Calls Tryd.prog 61 #[.string s] w fun r w' => r = .returned (.string ⟨(foldL s.data.toList).toArray⟩) ∧ Below w.heap.size w w' := by
  have hsl := size_toL s
  have HSL := Lib.hid hsl
  clear hsl
  go_enter Tryd.func61, Tryd.ntmps61
  go_wp2_with fail
  go_loopw [3, 4] (fun x3 x4 wr => ∃ (k : Nat) (ys : List UInt8) (A : Option Addr) (c : Nat), k ≤ s.size ∧ x4 = .int .i64 (k : Int) ∧ x3 = .slice A ys.length c ∧ ys.length = k ∧ ys = foldL (s.data.toList.take k) ∧
    wr.ownsRow w.heap.size 5 1 (.slice A ys.length c) ys.length (bv ys) ∧ Below w.heap.size w wr) (fun _ i _ => s.size - (intOf i).toNat)
  case atStart => exact ⟨0, [], none, 0, Nat.zero_le _, rfl, rfl, rfl, by simp [foldL], World.ownsRow_nil _ _ _ _, Below.refl _ _⟩
  case round =>
    obtain ⟨k, ys, A, c, hk, rfl, rfl, hyl, hys, hown, hb⟩ := hrel
    have HYS := Lib.hid hys
    have HOW := Lib.hid hown
    have HB := Lib.hid hb
    have hsz := hb.size
    have HYL := Lib.hid hyl
    have hyle : ys.length ≤ s.size := by omega
    clear hys hown hb hyl
    by_cases hlt : k < s.size
    · have ik : (k : Int) < (s.size : Int) := by omega
      have HFT : Hid (foldL (s.data.toList.take (k + 1)) = foldL (s.data.toList.take k) ++ [foldB s[k]]) := fold_take (by rw [HSL.out]; exact hlt)
      have hfb := foldB_nat s[k]
      have lk : s[k].toNat < 256 := UInt8.toNat_lt _
      obtain ⟨x, hx⟩ : ∃ x : UInt8, s[k] = x := ⟨_, rfl⟩
      by_cases h1 : 65 ≤ s[k].toNat ∧ s[k].toNat ≤ 90
      · rw [if_pos h1] at hfb
        obtain ⟨h65, h90⟩ := h1
        have HFB := Lib.hid hfb
        clear hfb hx
        go_wp2_with (at_builtin; refine wpList_push (v := .slice A ys.length c) w.heap.size ys (foldB s[k]) rfl _ _ rfl rfl rfl rfl (by rw [HFB.out, World.cell?_alloc_at _ _ _ _ rfl]; first | rfl | (simp; omega)) (HOW.out.alloc _) (by omega) (by simp; omega) ?_; intro A' c' w2 ho2 hg2)
        go_roundw
        case rel =>
          refine ⟨k + 1, ys ++ [foldB s[k]], A', c', by omega, by go_num, by rw [List.length_append]; rfl, by rw [List.length_append, HYL.out]; rfl, by rw [HFT.out, ← HYS.out], ho2, ?_⟩
          exact (HB.out.alloc (by omega) _).grown hg2 (by simp; omega) (fun i hi => (own_lt HOW.out hi).1)
        case measure => simp [intOf]; omega
      · rw [if_neg h1] at hfb
        have HFB := Lib.hid hfb
        clear hfb hx
        rcases Nat.lt_or_ge s[k].toNat 65 with h65 | h65
        all_goals
          try (have h90 : 90 < s[k].toNat := by omega)
          go_wp2_with (at_builtin; refine wpList_push (v := .slice A ys.length c) w.heap.size ys (foldB s[k]) rfl _ _ rfl rfl rfl rfl (by rw [HFB.out, World.cell?_alloc_at _ _ _ _ rfl]; first | rfl | (simp; omega)) (HOW.out.alloc _) (by omega) (by simp; omega) ?_; intro A' c' w2 ho2 hg2)
          go_roundw
          case rel =>
            refine ⟨k + 1, ys ++ [foldB s[k]], A', c', by omega, by go_num, by rw [List.length_append]; rfl, by rw [List.length_append, HYL.out]; rfl, by rw [HFT.out, ← HYS.out], ho2, ?_⟩
            exact (HB.out.alloc (by omega) _).grown hg2 (by simp; omega) (fun i hi => (own_lt HOW.out hi).1)
          case measure => simp [intOf]; omega
    · obtain rfl : k = s.size := by omega
      have hst := run_string_rd (P := Tryd.prog) wr 71 9 5 Tryd.underlying71 Tryd.underlying5 Tryd.underlying9 _ _ _ _ ys (Rd.of_own HOW.out)
      have hfull : ys = foldL s.data.toList := by rw [HYS.out, List.take_of_length_le (by rw [HSL.out]; exact Nat.le_refl _)]
      have HFU := Lib.hid hfull
      clear hfull
      go_wp2_with fail
      go_ret
      exact ⟨by rw [← HFU.out]; rfl, HB.out⟩
end Go.Proofs.YtjffbjlniieciaaDoor
