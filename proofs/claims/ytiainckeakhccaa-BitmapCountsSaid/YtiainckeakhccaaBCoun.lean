/-
  Proved: BitmapCounts returns true for every list of rows and every place, and leaves what was there as it was. No condition.
-/
import Derived.Test.YtiainckeakhccaaLawB
import Derived.Test.YtiainckeakhccaaShellB
namespace Go.Proofs.Ytiainckeakhccaa
set_option linter.unusedSimpArgs false
set_option linter.unusedVariables false
open Go.ChangeShapes Go.WideShapes Go.ChangeAt Go.RowKit

set_option maxRecDepth 20000 in
set_option maxHeartbeats 400000 in
theorem bitmapCounts_walk {w : World} {A : Option Addr} {l : List Bool} {c : Nat} (h : Rd w 0 w.heap.size A c (lv l)) (i : Int) (hi : (Lit.int .i64 i).wf = true) :
    Calls Try.prog 5 #[.slice A l.length c, .int .i64 i] w fun e w' => e = .returned (.bool true) ∧ Below w.heap.size w w' := by
  have hl := h.len
  have hc := h.cap
  rw [lv_length] at hl
  unfold maxLen at hc
  have H := Lib.hid h
  clear h hi
  by_cases h300 : l.length ≤ 300
  · go_enter Try.func5, Try.ntmps5
    go_wp2_with fail
    refine (awake4_any _).mono ?_
    rintro r w1 ⟨rfl, hb1⟩
    have H1 := Lib.hid (H.out.below hb1 (Nat.le_refl _))
    have K1 := Lib.hid hb1
    have s1 := hb1.size
    clear hb1 H
    go_wp2_with fail
    go_loop [5, 6] (fun n x => ∃ k : Nat, k ≤ l.length ∧ x = .int .i64 (k : Int) ∧ n = .int .i64 (cnt (l.take k) : Int)) (fun _ x => l.length - (intOf x).toNat)
    case atStart => exact ⟨0, Nat.zero_le _, rfl, rfl⟩
    case round =>
      obtain ⟨k, hk, rfl, rfl⟩ := hrel
      by_cases hlt : k < l.length
      · obtain ⟨b, off, rfl, _, _, hcell⟩ := H1.out.row hlt
        have hts := Lib.hid (cnt_take l k hlt)
        have hle := cnt_take_le l k
        have HR := Lib.hid (rank_any (w := w1) l (k : Int) (cnt (l.take k)) (by rw [Int.toNat_natCast]) H1.out)
        generalize cnt (l.take k) = m at *
        cases hx : l[k]
        · rw [hx] at hcell hts
          go_wp2_with fail
          refine HR.out.mono ?_
          rintro r w' ⟨rfl, rfl⟩
          go_wp2
          go_round
          case rel => exact ⟨k + 1, by omega, by go_num, by rw [hts.out]; rfl⟩
          case measure => simp [intOf]; omega
        · rw [hx] at hcell hts
          go_wp2_with fail
          refine HR.out.mono ?_
          rintro r w' ⟨rfl, rfl⟩
          go_wp2
          go_round
          case rel => exact ⟨k + 1, by omega, by go_num, by rw [hts.out]; go_num⟩
          case measure => simp [intOf]; omega
      · obtain rfl : k = l.length := by omega
        rw [List.take_length]
        have HC := Lib.hid (count_any (w := w1) l H1.out)
        have HR := Lib.hid (rank_any (w := w1) l (l.length : Int) (cnt l) (by rw [Int.toNat_natCast, List.take_length]) H1.out)
        have HI := Lib.hid (rank_any (w := w1) l i _ rfl H1.out)
        have HJ := Lib.hid (rrank_any (w := w1) l i _ rfl H1.out)
        have hnot := cnt_not l
        have hcl := cnt_le l
        have HN := Lib.hid (not_any (w := w1) l H1.out s1 (by omega))
        have HCN := fun (w2 : World) (A' : Option Addr) (c' lo hi : Nat) (h : Rd w2 lo hi A' c' (lv (l.map not))) => Lib.hid (count_len (w := w2) (l.map not) l.length _ (by simp) rfl h)
        generalize cnt (l.take i.toNat) = ci at *
        generalize cnt (l.map not) = cn at *
        generalize cnt l = m at *
        have hci : ci = ci := rfl
        go_wp2_with fail
        refine HC.out.mono ?_
        rintro r w' ⟨rfl, rfl⟩
        go_wp2_with fail
        refine HR.out.mono ?_
        rintro r w' ⟨rfl, rfl⟩
        go_wp2_with fail
        refine HI.out.mono ?_
        rintro r w' ⟨rfl, rfl⟩
        go_wp2_with fail
        refine HJ.out.mono ?_
        rintro r w' ⟨rfl, rfl⟩
        go_wp2_with fail
        refine HN.out.mono ?_
        rintro r w2 ⟨A2, c2, rfl, ho2, hb2⟩
        have HO2 := Lib.hid ho2
        have K2 := Lib.hid (below_below K1.out hb2 s1)
        clear ho2 hb2
        go_wp2_with fail
        refine (HCN _ _ _ _ _ (Rd.own HO2.out)).out.mono ?_
        rintro r w' ⟨rfl, rfl⟩
        have hq : ((cn : Int) == (l.length : Int) - (m : Int)) = true := by rw [beq_iff_eq]; omega
        go_wp2
        go_ret
        exact ⟨rfl, K2.out⟩
  · go_enter Try.func5, Try.ntmps5
    go_wp2_with fail
    refine (awake4_any _).mono ?_
    rintro r w1 ⟨rfl, hb1⟩
    have HB1 := Lib.hid hb1
    clear hb1
    go_wp2_with fail
    refine (awake4_any _).mono ?_
    rintro r w2 ⟨rfl, hb2⟩
    have HB2 := Lib.hid hb2
    clear hb2
    go_wp2
    go_ret
    exact ⟨rfl, below_below HB1.out HB2.out HB1.out.size⟩

set_option maxRecDepth 100000 in
theorem bitmapCounts_lifted (os : Os) (started : os.Started) (H : Type) (enc : TypeId × Value → H) :
    ReturnsInHanded {} Try.checked os 5 .any (Rows.bitmapCountsSpec.pre6 enc Try.prog Try.f5 Rows.bitmapCountsRow.domain false) (Rows.bitmapCountsSpec.post enc Try.prog Try.f5 false true false false) := by
  refine returnsInHanded_of_change (C := Try.checked) own started (by kernel_rfl) Try.func5
    (ChangeSpec.witness6 (enc := enc) (C := Try.checked) false ⟨#[], #[.slice none 0 0, .int .i64 0], []⟩ 8 (by kernel_rfl) (by kernel_rfl) (by kernel_rfl) (by kernel_rfl)) ?_
  intro W base args ds gs before hval0 hW hcnd _
  have hval : ∀ (j : Nat) t v, Try.f5.params[j]? = some t → args[j]? = some v → Value.okWide Try.prog W .any base t v := hval0
  have hW' := hW
  obtain ⟨p, q, hA0, hV, rfl, hfz, hnd⟩ := hW
  have hA : DataW.TrodAll enc Try.prog W 0 (fun _ => true) true Try.f5.params.toList args.toList ds p := hA0
  have hA1 : DataW.TrodAll enc Try.prog W 0 (fun _ => true) true Try.f5.params.toList args.toList ds p := hA0
  rw [Try.params5] at hA hval
  obtain ⟨v0, vs0, d0, ds0, p0, q0, hargs, rfl, rfl, h0, r0⟩ := trodAll_cons hA
  obtain ⟨v1, vs1, d1, ds1, p1, q1, rfl, rfl, rfl, h1, r1⟩ := trodAll_cons r0
  obtain ⟨rfl, rfl, rfl⟩ := trodAll_nil r1
  obtain rfl : args = #[v0, v1] := by cases args; simp_all
  obtain ⟨rfl, rfl⟩ := trodVars_none hV
  obtain ⟨A0, a0, c0, rfl, w0⟩ := open_bools' Try.underlying22 Try.underlying4 (by kernel_rfl) (hval 0 22 v0 rfl rfl) h0
  obtain ⟨a1, rfl, rfl, rfl, w1⟩ := open_int Try.underlying3 (hval 1 3 v1 rfl rfl) h1
  clear hA0 hval0
  refine (bitmapCounts_walk (w := W) w0 a1 w1).mono fun e W' ⟨he, bel⟩ => ?_
  subst he
  exact ⟨_, rfl, _, _, _, [], _, [], hW', trodAll_mk1 (shut_bool Try.underlying4 _), trodAll_below laidOut bel _ _ _ _ (by kernel_rfl) hA1, rfl, bel.frame _, fun h => by cases h⟩

theorem bitmapCounts_over : Rows.bitmapCountsRow.holds Try.pinned (OpenSpec.ofChange Rows.bitmapCountsSpec) :=
  OpenClaim.holds_of_wide 5 Try.f5 rfl rfl rfl rfl rfl rfl rfl ⟨rfl, rfl, rfl, rfl, rfl⟩ rfl rfl rfl rfl rfl (by kernel_rfl) Try.func5 (by kernel_rfl)
    (of_decide_eq_true (by kernel_rfl)) (by unfold Func.isWrapper; first | (rw [if_pos (by decide +kernel)]; kernel_rfl) | (rw [if_neg (by decide +kernel)]; exact ⟨rfl, rfl⟩))
    (fun os started H enc _ => bitmapCounts_lifted os started H enc)

/-- The statement. -/
theorem bitmapCounts_proved : Rows.BitmapCountsSaid := bitmapCounts_over


end Go.Proofs.Ytiainckeakhccaa
