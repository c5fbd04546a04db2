/-
  The program's train: how two that are gained compare.
-/
import Derived.Test.YtpollebfehdnjaaTnS
import Derived.Test.YtpollebfehdnjaaCmpB
import Derived.Test.YtpollebfehdnjaaMgM
import Derived.Deep.RegionHeld3
import Derived.Shelf.SlSortCmp.NoneTotal
namespace Go.Proofs.Ytpollebfehdnjaa
set_option linter.unusedSimpArgs false
set_option linter.unusedVariables false
open Go.RowKit

/-- how numbers compare -/
def cmpI (x y : Int) : Int := if x < y then -1 else if y < x then 1 else 0
theorem nan_int (x : Int) (w : World) : Calls Try.prog 62 #[.int .i64 x] w fun e w' => e = .returned (.bool false) ∧ w = w' := by
  go_enter Try.func62, Try.ntmps62
  go_wp2
  go_ret
  exact ⟨by simp, rfl⟩
theorem nan_str (x : ByteArray) (w : World) : Calls Try.prog 63 #[.string x] w fun e w' => e = .returned (.bool false) ∧ w = w' := by
  go_enter Try.func63, Try.ntmps63
  go_wp2
  go_ret
  exact ⟨by simp, rfl⟩
theorem cmpint_any (x y : Int) (w : World) : Calls Try.prog 41 #[.int .i64 x, .int .i64 y] w fun e w' => e = .returned (.int .i64 (cmpI x y)) ∧ w = w' := by
  unfold cmpI
  by_cases h1 : x < y
  · rw [if_pos h1]
    go_enter Try.func41, Try.ntmps41
    go_wp2_with (go_at_call 62; refine (nan_int _ _).mono ?_; rintro e w' ⟨rfl, rfl⟩)
    go_ret
    exact ⟨rfl, rfl⟩
  · rw [if_neg h1]
    by_cases h2 : y < x
    · rw [if_pos h2]
      go_enter Try.func41, Try.ntmps41
      go_wp2_with (go_at_call 62; refine (nan_int _ _).mono ?_; rintro e w' ⟨rfl, rfl⟩)
      go_ret
      exact ⟨rfl, rfl⟩
    · rw [if_neg h2]
      go_enter Try.func41, Try.ntmps41
      go_wp2_with (go_at_call 62; refine (nan_int _ _).mono ?_; rintro e w' ⟨rfl, rfl⟩)
      go_ret
      exact ⟨rfl, rfl⟩
theorem cmpstr_any (x y : ByteArray) (w : World) : Calls Try.prog 42 #[.string x, .string y] w fun e w' => e = .returned (.int .i64 (cmpL x.data.toList y.data.toList)) ∧ w = w' := by
  have h1 := less_str x y
  have h2 := less_str y x
  have h3 := cmpL_turn x.data.toList y.data.toList
  have h4 := cmpL_three x.data.toList y.data.toList
  obtain ⟨v, h5⟩ : ∃ v, cmpL x.data.toList y.data.toList = v := ⟨_, rfl⟩
  rw [h5] at h1 h3 h4 ⊢
  rw [h3] at h2
  clear h3
  rcases h4 with rfl | rfl | rfl
  · have e1 : Op.bytesLess x.toList y.toList = true := by rw [h1]; rfl
    clear h1 h2 h5
    go_enter Try.func42, Try.ntmps42
    go_wp2_with (go_at_call 63; refine (nan_str _ _).mono ?_; rintro e w' ⟨rfl, rfl⟩)
    go_ret
    exact ⟨rfl, rfl⟩
  · have e1 : Op.bytesLess x.toList y.toList = false := by rw [h1]; rfl
    have e2 : Op.bytesLess y.toList x.toList = false := by rw [h2]; rfl
    have e3 : (x.toList == y.toList) = true := by rw [Lib.toList_data, Lib.toList_data, cmpL_zero h5]; exact beq_self_eq_true _
    have e4 : x.toList = y.toList := eq_of_beq e3
    have E4 := Lib.hid e4
    clear h1 h2 h5 e4
    go_enter Try.func42, Try.ntmps42
    go_wp2_with (go_at_call 63; refine (nan_str _ _).mono ?_; rintro e w' ⟨rfl, rfl⟩)
    go_ret
    exact ⟨rfl, rfl⟩
  · have e1 : Op.bytesLess x.toList y.toList = false := by rw [h1]; rfl
    have e2 : Op.bytesLess y.toList x.toList = true := by rw [h2]; rfl
    have e3 : (x.toList == y.toList) = false := by
      rw [beq_eq_false_iff_ne, Lib.toList_data, Lib.toList_data]
      intro e
      rw [e, cmpL_same] at h5
      cases h5
    have e4 : ¬ x.toList = y.toList := beq_eq_false_iff_ne.1 e3
    clear h1 h2 h5
    go_enter Try.func42, Try.ntmps42
    go_wp2_with (go_at_call 63; refine (nan_str _ _).mono ?_; rintro e w' ⟨rfl, rfl⟩)
    go_ret
    exact ⟨rfl, rfl⟩
/-- the first that isn't 0, of two -/
def or2 (x y : Int) : Int := if x = 0 then y else x
theorem or2_any {w : World} (x y : Int) {b c : Nat} (h0 : w.cell? ⟨b, 0, none⟩ = some (.int .i64 x)) (h1 : w.cell? ⟨b, 1, none⟩ = some (.int .i64 y)) :
    Calls Try.prog 40 #[.slice (some ⟨b, 0, none⟩) 2 c] w fun e w' => e = .returned (.int .i64 (or2 x y)) ∧ w = w' := by
  unfold or2
  by_cases hx : x = 0
  · subst hx
    rw [if_pos rfl]
    by_cases hy : y = 0
    · subst hy
      go_enter Try.func40, Try.ntmps40
      go_wp2
      refine wp_loop_rounds 3 ?_
      rw [rounds_succ]
      go_wp2
      rw [rounds_succ]
      go_wp2
      rw [rounds_succ]
      go_wp2
      go_ret
      exact ⟨rfl, rfl⟩
    · go_enter Try.func40, Try.ntmps40
      go_wp2
      refine wp_loop_rounds 2 ?_
      rw [rounds_succ]
      go_wp2
      rw [rounds_succ]
      go_wp2
      go_ret
      exact ⟨rfl, rfl⟩
  · rw [if_neg hx]
    go_enter Try.func40, Try.ntmps40
    go_wp2
    refine wp_loop_rounds 1 ?_
    rw [rounds_succ]
    go_wp2
    go_ret
    exact ⟨rfl, rfl⟩
/-- what is gained: a string, and its gain; as its cells; how two compare -/
def gv (x : ByteArray × Int) : List Value := [.string x.1, .int .i64 x.2]
def aheadF (x y : ByteArray × Int) : Int := or2 (cmpI y.2 x.2) (cmpL x.1.data.toList y.1.data.toList)

open Go.Sort Go.Shelf in
set_option maxRecDepth 20000 in
set_option maxHeartbeats 2000000 in
theorem ahead_any (x y : ByteArray × Int) (W : World) : Calls Try.prog 34 #[.agg #[.string x.1, .int .i64 x.2], .agg #[.string y.1, .int .i64 y.2]] W fun e w' => e = .returned (.int .i64 (aheadF x y)) ∧ ∃ q os', w' = grow (W.drewN q) os' := by
  obtain ⟨s, g⟩ := x
  obtain ⟨u, k⟩ := y
  unfold aheadF
  simp only []
  have h1 := fun w => cmpint_any k g w
  have h2 := fun w => cmpstr_any s u w
  generalize cmpI k g = a at *
  generalize cmpL s.data.toList u.data.toList = b at *
  have h3 := fun (w : World) (bb c : Nat) (h0 : w.cell? ⟨bb, 0, none⟩ = some (.int .i64 a)) (h1 : w.cell? ⟨bb, 1, none⟩ = some (.int .i64 b)) => or2_any (w := w) a b (c := c) h0 h1
  generalize or2 a b = r at *
  have H1 := Lib.hid h1
  have H2 := Lib.hid h2
  have H3 := Lib.hid h3
  clear h1 h2 h3
  go_enter Try.func34, Try.ntmps34
  go_wp2_with fail
  go_region_held3 (fun w' => w'.cell? ⟨W.heap.size, 0, none⟩ = some (.string s) ∧ w'.cell? ⟨W.heap.size, 1, none⟩ = some (.int .i64 g) ∧ w'.cell? ⟨W.heap.size + 1, 0, none⟩ = some (.string u) ∧ w'.cell? ⟨W.heap.size + 1, 1, none⟩ = some (.int .i64 k)) (go_keep) (first
    | (go_at_call 41; refine (H1.out _).mono ?_; rintro e w' ⟨rfl, rfl⟩)
    | (go_at_call 42; refine (H2.out _).mono ?_; rintro e w' ⟨rfl, rfl⟩)
    | (go_at_call 40; refine (H3.out _ _ _ ?_ ?_).mono ?_; (go_simp); (go_simp); rintro e w' ⟨rfl, rfl⟩))
  go_wp2
  go_ret
  refine ⟨rfl, ?_⟩
  simp only [alloc_eq_grow, grow_grow]
  exact ⟨1, _, rfl⟩
end Go.Proofs.Ytpollebfehdnjaa
