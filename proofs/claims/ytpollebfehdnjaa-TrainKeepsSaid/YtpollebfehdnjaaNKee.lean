/-
  Proved: TrainKeeps of layer 12: of whatever sample, what Train and Sample are handed stays, and what they answer may be written into; what came in reads as it did. Conditions: none of our own.
-/
import Derived.Test.YtpollebfehdnjaaTnL
import Derived.Test.YtpollebfehdnjaaMgH
namespace Go.Proofs.Ytpollebfehdnjaa
set_option linter.unusedSimpArgs false
set_option linter.unusedVariables false
open Go.ChangeShapes Go.WideShapes Go.ChangeAt Go.RowKit
open Go.ChangeMaps (open_string shut_string)

set_option maxRecDepth 20000 in
set_option maxHeartbeats 4000000 in
theorem trainKeeps_walk {w : World} {B : Option Addr} {S : List ByteArray} {d : Nat} (hS : Rd w 0 w.heap.size B d (sv S) ∧ (∀ s ∈ S, s.size ≤ 140737488351232) ∧ S.length ≤ 8796093021952) :
    Calls Try.prog 8 #[.slice B S.length d] w fun e w' => e = .returned (.bool true) ∧ Below w.heap.size w w' := by
  obtain ⟨hS, hSz, hSn⟩ := hS
  have HS_w := Lib.hid hS
  have hSl := hS.len
  have hSm := hS.cap
  rw [sv_length] at hSl
  unfold maxLen at hSm
  have HZS := Lib.hid hSz
  clear hS hSz
  by_cases ht : FewT S
  · obtain ⟨hs60, hsb, hbag⟩ := fewT_facts ht
    have HFT : Hid (decide (FewT S) = true) := decide_eq_true ht
    have HSB := Lib.hid hsb
    have HBG := Lib.hid hbag
    clear ht hsb hbag
    have HK : Hid (roundsN 2 = 2) := rfl
    obtain ⟨X, hX⟩ : ∃ X, sampleL S [0, 1, 2] = X := ⟨_, rfl⟩
    have hXl : X.length ≤ 3 := by
      rw [← hX]
      unfold sampleL
      split <;> simp
    have HX := Lib.hid hX
    clear hX
    go_enter Try.func8, Try.ntmps8
    go_wp2_with fail
    refine (awake12_any (w := _)).mono ?_
    rintro r w1 ⟨rfl, b_w1⟩
    have HS_w1 := Lib.hid ((HS_w.out.below b_w1 (Nat.le_refl _)).wide (Nat.zero_le _) b_w1.size)
    have HB_w1 := Lib.hid b_w1
    have S_w1 := HB_w1.out.size
    clear b_w1 HS_w 
    go_wp2_with fail
    refine (fewT_is S true HS_w1.out HZS.out HFT.out).mono ?_
    rintro r w2 ⟨rfl, m_w2, rfl⟩
    obtain ⟨w2, hw_w2⟩ : ∃ q, w1.drewN m_w2 = q := ⟨_, rfl⟩
    have HS_w2 : Hid (Rd w2 0 w2.heap.size B d (sv S)) := by unfold Hid; rw [← hw_w2]; exact HS_w1.out.drewN m_w2
    have HB_w2 : Hid (Below w.heap.size w w2) := by unfold Hid; rw [← hw_w2]; exact below_drewN' HB_w1.out m_w2
    have S_w2 := HB_w2.out.size
    rw [hw_w2]
    clear hw_w2 HS_w1 HB_w1
    obtain ⟨A3, c3, w3, hrun3, ho_w3, hg3⟩ := append_strs (w2.alloc (.cells #[] 9)) w2.heap.size (.slice (some ⟨w2.heap.size, 0, none⟩) 0 0) [] S S (List.nil_append _) (own_empty w2) (HS_w2.out.alloc (Nat.le_refl _) _) (by simp; omega) (by simp)
    have b_w3 : Below w2.heap.size w2 w3 := ((Below.refl _ w2).alloc (Nat.le_refl _) _).grown hg3 (by simp) (by simp [Value.ownBlock])
    have HRUN3 := Lib.hid hrun3
    clear hrun3 hg3
    have HS_w3 := Lib.hid ((HS_w2.out.below b_w3 (Nat.le_refl _)).wide (Nat.zero_le _) b_w3.size)
    have HB_w3 := Lib.hid (below_below HB_w2.out b_w3 S_w2)
    have S_w3 := HB_w3.out.size
    have Hv_w3 := Lib.hid ((Rd.of_own ho_w3).wide (Nat.zero_le _) (Nat.le_refl _))
    clear b_w3 HS_w2 HB_w2 ho_w3 
    go_wp2_with (at_builtin; refine wpList_append_run rfl _ _ _ _ rfl rfl rfl HRUN3.out ?_)
    clear HRUN3
    go_wp2_with fail
    refine (train_some S 2 HS_w3.out (by omega) HSB.out (by decide) HK.out rfl).mono ?_
    rintro r w4 ⟨t, A4, c4, rfl, ht, ho4, b4⟩
    have HT := Lib.hid ht
    have HO4 := Lib.hid ho4
    have B4 := Lib.hid b4
    have ht255 := ht.ok.2
    clear ht ho4 b4
    go_wp2_with fail
    go_loopw [5] (fun i wq => ∃ (k : Nat) (xs : List Value), k ≤ t.length ∧ i = .int .i64 (k : Int) ∧ wq.ownsRow w3.heap.size 9 1 (.slice A4 t.length c4) t.length xs ∧ Below w3.heap.size w3 wq) (fun i _ => t.length - (intOf i).toNat)
    case atStart => exact ⟨0, _, Nat.zero_le _, rfl, HO4.out, B4.out⟩
    case round =>
      obtain ⟨k, xs, hk, rfl, hown, hbl⟩ := hrel
      have HBL := Lib.hid hbl
      clear hbl
      by_cases hlt : k < t.length
      · obtain ⟨go, rfl, hgo, hgo2⟩ := own_spot hown (by omega)
        have hxl : xs.length = t.length := by simpa using hown.1
        obtain ⟨u0, hu0⟩ : ∃ u0, xs[k]? = some u0 := ⟨_, List.getElem?_eq_getElem (by omega)⟩
        have hcell : wr.cell? ⟨go, k, none⟩ = some u0 := by rw [hown.cellAt k (by omega), hu0]
        have hfr := hown.frozenAt k
        have HS := fun u => Lib.hid (hown.stored k u)
        have hsb := HBL.out.size
        clear hown hxl hu0
        go_wp2
        go_roundw
        case rel => exact ⟨k + 1, _, by omega, by go_num, (HS _).out.1, HBL.out.grown (HS _).out.2 hsb (fun j hj => by cases hj; exact hgo)⟩
        case measure => simp [intOf]; omega
      · obtain rfl : k = t.length := by omega
        clear hown
        obtain ⟨w5, hwq⟩ : ∃ q, q = wr := ⟨_, rfl⟩
        subst hwq
        have b_w5 := HBL.out
        have HS_w5 := Lib.hid ((HS_w3.out.below b_w5 (Nat.le_refl _)).wide (Nat.zero_le _) b_w5.size)
        have Hv_w5 := Lib.hid ((Hv_w3.out.below b_w5 (Nat.le_refl _)).wide (Nat.zero_le _) b_w5.size)
        have HB_w5 := Lib.hid (below_below HB_w3.out b_w5 S_w3)
        have S_w5 := HB_w5.out.size
        clear b_w5 HS_w3 Hv_w3 HB_w3 
        clear HBL
        obtain ⟨w6, hw_w6⟩ : ∃ q, w5.alloc (.cells #[.int .i64 0, .int .i64 1, .int .i64 2] 3) = q := ⟨_, rfl⟩
        have HS_w6 : Hid (Rd w6 0 w6.heap.size B d (sv S)) := by unfold Hid; rw [← hw_w6]; exact (HS_w5.out.alloc (Nat.le_refl _) _).wide (Nat.le_refl _) (by simp)
        have Hv_w6 : Hid (Rd w6 0 w6.heap.size A3 c3 (sv S)) := by unfold Hid; rw [← hw_w6]; exact (Hv_w5.out.alloc (Nat.le_refl _) _).wide (Nat.le_refl _) (by simp)
        have Hd_w6 : Hid (Rd w6 0 w6.heap.size (some ⟨w5.heap.size, 0, none⟩) 3 (iv [0, 1, 2])) := by unfold Hid; rw [← hw_w6]; exact (rd_ints w5 3 [0, 1, 2] _ rfl (by decide)).wide (Nat.le_refl _) (by simp)
        have HB_w6 : Hid (Below w.heap.size w w6) := by unfold Hid; rw [← hw_w6]; exact HB_w5.out.alloc S_w5 _
        have S_w6 := HB_w6.out.size
        clear HS_w5 Hv_w5 HB_w5
        go_wp2_with fail
        refine (tsample_is S [0, 1, 2] X HS_w6.out Hd_w6.out (by omega) (by decide) HSB.out (by unfold Word; decide) HX.out rfl rfl).mono ?_
        rintro r w7 ⟨A7, c7, rfl, ho7, b7⟩
        have HO7 := Lib.hid ho7
        have B7 := Lib.hid b7
        clear ho7 b7 hw_w6 Hd_w6
        go_wp2_with fail
        go_loopw [7] (fun i wq => ∃ (k : Nat) (xs : List Value), k ≤ X.length ∧ i = .int .i64 (k : Int) ∧ wq.ownsRow w6.heap.size 9 1 (.slice A7 X.length c7) X.length xs ∧ Below w6.heap.size w6 wq) (fun i _ => X.length - (intOf i).toNat)
        case atStart => exact ⟨0, _, Nat.zero_le _, rfl, HO7.out, B7.out⟩
        case round =>
          obtain ⟨k, xs, hk, rfl, hown, hbl⟩ := hrel
          have HBL := Lib.hid hbl
          clear hbl
          by_cases hlt : k < X.length
          · obtain ⟨go, rfl, hgo, hgo2⟩ := own_spot hown (by omega)
            have hxl : xs.length = X.length := by simpa using hown.1
            obtain ⟨u0, hu0⟩ : ∃ u0, xs[k]? = some u0 := ⟨_, List.getElem?_eq_getElem (by omega)⟩
            have hcell : wr.cell? ⟨go, k, none⟩ = some u0 := by rw [hown.cellAt k (by omega), hu0]
            have hfr := hown.frozenAt k
            have HS := fun u => Lib.hid (hown.stored k u)
            have hsb := HBL.out.size
            clear hown hxl hu0
            go_wp2
            go_roundw
            case rel => exact ⟨k + 1, _, by omega, by go_num, (HS _).out.1, HBL.out.grown (HS _).out.2 hsb (fun j hj => by cases hj; exact hgo)⟩
            case measure => simp [intOf]; omega
          · obtain rfl : k = X.length := by omega
            clear hown
            obtain ⟨w8, hwq⟩ : ∃ q, q = wr := ⟨_, rfl⟩
            subst hwq
            have b_w8 := HBL.out
            have HS_w8 := Lib.hid ((HS_w6.out.below b_w8 (Nat.le_refl _)).wide (Nat.zero_le _) b_w8.size)
            have Hv_w8 := Lib.hid ((Hv_w6.out.below b_w8 (Nat.le_refl _)).wide (Nat.zero_le _) b_w8.size)
            have HB_w8 := Lib.hid (below_below HB_w6.out b_w8 S_w6)
            have S_w8 := HB_w8.out.size
            clear b_w8 HS_w6 Hv_w6 HB_w6 
            clear HBL
            go_wp2_with fail
            refine (nsame_is S S true HS_w8.out Hv_w8.out rfl rfl (decide_eq_true rfl)).mono ?_
            rintro r w9 ⟨rfl, m_w9, rfl⟩
            obtain ⟨w9, hw_w9⟩ : ∃ q, w8.drewN m_w9 = q := ⟨_, rfl⟩
            have HS_w9 : Hid (Rd w9 0 w9.heap.size B d (sv S)) := by unfold Hid; rw [← hw_w9]; exact HS_w8.out.drewN m_w9
            have Hv_w9 : Hid (Rd w9 0 w9.heap.size A3 c3 (sv S)) := by unfold Hid; rw [← hw_w9]; exact Hv_w8.out.drewN m_w9
            have HB_w9 : Hid (Below w.heap.size w w9) := by unfold Hid; rw [← hw_w9]; exact below_drewN' HB_w8.out m_w9
            have S_w9 := HB_w9.out.size
            rw [hw_w9]
            clear hw_w9 HS_w8 Hv_w8 HB_w8
            go_wp2_with fail
            refine (train_is S 2 t HS_w9.out (by omega) HSB.out (by decide) HK.out HT.out rfl).mono ?_
            rintro r wa ⟨Aa, ca, rfl, ho_wa, b_wa⟩
            have HS_wa := Lib.hid ((HS_w9.out.below b_wa (Nat.le_refl _)).wide (Nat.zero_le _) b_wa.size)
            have Hv_wa := Lib.hid ((Hv_w9.out.below b_wa (Nat.le_refl _)).wide (Nat.zero_le _) b_wa.size)
            have HB_wa := Lib.hid (below_below HB_w9.out b_wa S_w9)
            have S_wa := HB_wa.out.size
            have Hx_wa := Lib.hid ((Rd.of_own ho_wa).wide (Nat.zero_le _) (Nat.le_refl _))
            clear b_wa HS_w9 Hv_w9 HB_w9 ho_wa 
            go_wp2_with fail
            refine (reftrain_is S 2 t Hv_wa.out (by omega) HSB.out HBG.out HK.out HT.out rfl).mono ?_
            rintro r wb ⟨Ab, cb, rfl, ho_wb, b_wb⟩
            have HS_wb := Lib.hid ((HS_wa.out.below b_wb (Nat.le_refl _)).wide (Nat.zero_le _) b_wb.size)
            have Hv_wb := Lib.hid ((Hv_wa.out.below b_wb (Nat.le_refl _)).wide (Nat.zero_le _) b_wb.size)
            have Hx_wb := Lib.hid ((Hx_wa.out.below b_wb (Nat.le_refl _)).wide (Nat.zero_le _) b_wb.size)
            have HB_wb := Lib.hid (below_below HB_wa.out b_wb S_wa)
            have S_wb := HB_wb.out.size
            have Hy_wb := Lib.hid ((Rd.of_own ho_wb).wide (Nat.zero_le _) (Nat.le_refl _))
            clear b_wb HS_wa Hv_wa Hx_wa HB_wa ho_wb 
            go_wp2_with fail
            refine (nsame_is (strsL t) (strsL t) true Hx_wb.out Hy_wb.out (strsL_length t) (strsL_length t) (decide_eq_true rfl)).mono ?_
            rintro r wc ⟨rfl, m_wc, rfl⟩
            obtain ⟨wc, hw_wc⟩ : ∃ q, wb.drewN m_wc = q := ⟨_, rfl⟩
            have HS_wc : Hid (Rd wc 0 wc.heap.size B d (sv S)) := by unfold Hid; rw [← hw_wc]; exact HS_wb.out.drewN m_wc
            have Hv_wc : Hid (Rd wc 0 wc.heap.size A3 c3 (sv S)) := by unfold Hid; rw [← hw_wc]; exact Hv_wb.out.drewN m_wc
            have Hx_wc : Hid (Rd wc 0 wc.heap.size Aa ca (sv (strsL t))) := by unfold Hid; rw [← hw_wc]; exact Hx_wb.out.drewN m_wc
            have Hy_wc : Hid (Rd wc 0 wc.heap.size Ab cb (sv (strsL t))) := by unfold Hid; rw [← hw_wc]; exact Hy_wb.out.drewN m_wc
            have HB_wc : Hid (Below w.heap.size w wc) := by unfold Hid; rw [← hw_wc]; exact below_drewN' HB_wb.out m_wc
            have S_wc := HB_wc.out.size
            rw [hw_wc]
            clear hw_wc HS_wb Hv_wb Hx_wb Hy_wb HB_wb
            go_wp2_with fail
            go_ret
            exact ⟨rfl, HB_wc.out⟩
  · have HNT : Hid (decide (FewT S) = false) := decide_eq_false ht
    clear ht
    go_enter Try.func8, Try.ntmps8
    go_wp2_with fail
    refine (awake12_any (w := _)).mono ?_
    rintro r w1 ⟨rfl, b_w1⟩
    have HS_w1 := Lib.hid ((HS_w.out.below b_w1 (Nat.le_refl _)).wide (Nat.zero_le _) b_w1.size)
    have HB_w1 := Lib.hid b_w1
    have S_w1 := HB_w1.out.size
    clear b_w1 HS_w 
    go_wp2_with fail
    refine (fewT_is S false HS_w1.out HZS.out HNT.out).mono ?_
    rintro r w2 ⟨rfl, m_w2, rfl⟩
    obtain ⟨w2, hw_w2⟩ : ∃ q, w1.drewN m_w2 = q := ⟨_, rfl⟩
    have HS_w2 : Hid (Rd w2 0 w2.heap.size B d (sv S)) := by unfold Hid; rw [← hw_w2]; exact HS_w1.out.drewN m_w2
    have HB_w2 : Hid (Below w.heap.size w w2) := by unfold Hid; rw [← hw_w2]; exact below_drewN' HB_w1.out m_w2
    have S_w2 := HB_w2.out.size
    rw [hw_w2]
    clear hw_w2 HS_w1 HB_w1
    go_wp2_with fail
    refine (awake12_any (w := _)).mono ?_
    rintro r w3 ⟨rfl, b_w3⟩
    have HS_w3 := Lib.hid ((HS_w2.out.below b_w3 (Nat.le_refl _)).wide (Nat.zero_le _) b_w3.size)
    have HB_w3 := Lib.hid (below_below HB_w2.out b_w3 S_w2)
    have S_w3 := HB_w3.out.size
    clear b_w3 HS_w2 HB_w2 
    go_wp2_with fail
    go_ret
    exact ⟨rfl, HB_w3.out⟩

set_option maxRecDepth 100000 in
theorem trainKeeps_lifted (os : Os) (started : os.Started) (H : Type) (enc : TypeId × Value → H) :
    ReturnsInHanded {} Try.checked os 8 .any (Rows.trainKeepsSpec.pre6 enc Try.prog Try.f8 Rows.trainKeepsRow.domain false) (Rows.trainKeepsSpec.post enc Try.prog Try.f8 false true false false) := by
  refine returnsInHanded_of_change_sized (C := Try.checked) own started (by kernel_rfl) Try.func8
    (ChangeSpec.witness6 (enc := enc) (C := Try.checked) false ⟨#[], #[.slice none 0 0], []⟩ 8 (by kernel_rfl) (by kernel_rfl) (by kernel_rfl) (by kernel_rfl)) ?_
  intro W base args ds gs before hval0 hW hcnd hsz0 _
  have hsz : (DataW.weightsEach Try.prog (Try.f8.params.toList ++ Rows.trainKeepsSpec.plain.varTypes Try.prog) (ds ++ gs)).all (· ≤ reachBytes) = true := hsz0
  have hval : ∀ (j : Nat) t v, Try.f8.params[j]? = some t → args[j]? = some v → Value.okWide Try.prog W .any base t v := hval0
  have hW' := hW
  obtain ⟨p, q, hA0, hV, rfl, hfz, hnd⟩ := hW
  have hA : DataW.TrodAll enc Try.prog W 0 (fun _ => true) true Try.f8.params.toList args.toList ds p := hA0
  have hA1 : DataW.TrodAll enc Try.prog W 0 (fun _ => true) true Try.f8.params.toList args.toList ds p := hA0
  rw [Try.params8] at hA hval hsz
  obtain ⟨v0, vs0, d0, ds0, p0, q0, hargs, rfl, rfl, h0, r0⟩ := trodAll_cons hA
  obtain ⟨rfl, rfl, rfl⟩ := trodAll_nil r0
  obtain rfl : args = #[v0] := by cases args; simp_all
  obtain ⟨rfl, rfl⟩ := trodVars_none hV
  obtain ⟨A0, a0, c0, rfl, w0⟩ := open_strs_sized Try.underlying22 Try.underlying9 (by kernel_rfl) (by kernel_rfl) (hval 0 22 v0 rfl rfl) h0 (fun n hn => by have := List.all_eq_true.1 hsz n (DataW.weights_mem_each (j := 0) (t := 22) rfl rfl n hn); simpa using this)
  clear hA0 hval0
  refine (trainKeeps_walk (w := W) w0).mono fun e W' ⟨he, bel⟩ => ?_
  subst he
  exact ⟨_, rfl, _, _, _, [], _, [], hW', trodAll_mk1 (shut_bool Try.underlying4 _), trodAll_below laidOut bel _ _ _ _ (by kernel_rfl) hA1, rfl, bel.frame _, fun h => by cases h⟩

theorem trainKeeps_over : Rows.trainKeepsRow.holds Try.pinned (OpenSpec.ofChange Rows.trainKeepsSpec) :=
  OpenClaim.holds_of_wide 8 Try.f8 rfl rfl rfl rfl rfl rfl rfl ⟨rfl, rfl, rfl, rfl, rfl⟩ rfl rfl rfl rfl rfl (by kernel_rfl) Try.func8 (by kernel_rfl)
    (of_decide_eq_true (by kernel_rfl)) (by unfold Func.isWrapper; first | (rw [if_pos (by decide +kernel)]; kernel_rfl) | (rw [if_neg (by decide +kernel)]; exact ⟨rfl, rfl⟩))
    (fun os started H enc _ => trainKeeps_lifted os started H enc)

/-- The statement. -/
theorem trainKeeps_proved : Rows.TrainKeepsSaid := trainKeeps_over


end Go.Proofs.Ytpollebfehdnjaa
