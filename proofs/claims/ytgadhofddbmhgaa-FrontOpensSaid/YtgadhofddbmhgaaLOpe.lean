/-
  Proved: FrontOpens of layer 13: whatever bytes are opened: a dictionary that is built as it stood, or one without strings and an error; what came in reads as it did. Conditions: none of our own.
-/
import Derived.Test.YtgadhofddbmhgaaFtW
import Derived.Test.YtgadhofddbmhgaaShellT
import Derived.Test.YtgadhofddbmhgaaShell
import Derived.Deep.RegionHeld3
namespace Go.Proofs.Ytgadhofddbmhgaa
set_option linter.unusedSimpArgs false
set_option linter.unusedVariables false
open Go.ChangeShapes Go.WideShapes Go.ChangeAt Go.RowKit
open Go.ChangeMaps (open_string shut_string)

set_option maxRecDepth 20000 in
set_option maxHeartbeats 4000000 in
theorem frontOpens_walk {w : World} {B : Option Addr} {bs : List UInt8} {c : Nat} (hb : Rd w 0 w.heap.size B c (bv bs)) :
    Calls Try.prog 4 #[.slice B bs.length c] w fun e w' => e = .returned (.bool true) ∧ Below w.heap.size w w' := by
  have Hb_w := Lib.hid hb
  have hbl := hb.len
  have hbm := hb.cap
  rw [bv_length] at hbl
  unfold maxLen at hbm
  clear hb
  by_cases hs1 : bs.length ≤ 3000
  · have i10 : ¬ (3000 : Int) < (bs.length : Int) := by omega
    obtain ⟨R, hR⟩ : ∃ R, openR bs 0 0 = R := ⟨_, rfl⟩
    obtain ⟨L, k, e⟩ := R
    have HO := Lib.hid hR
    by_cases he : e = 0
    · subst he
      obtain ⟨K0, hK1, hK2, hdic, hbs, hk1, hk2⟩ := openR_good (Nat.zero_le _) hR
      have htk : frontL K0 L = bs.take k := by
        rw [List.drop_zero] at hbs
        have := congrArg (List.take k) hbs
        rw [this, hk1, Nat.zero_add, List.take_left]
      obtain ⟨hdl, hds⟩ := dic_sizes hdic
      obtain ⟨n, hn⟩ : ∃ n, (strsL L).length = n := ⟨_, rfl⟩
      obtain ⟨px, hpx⟩ : ∃ px, bs.take k = px := ⟨_, rfl⟩
      have hpl : px.length = k := by rw [← hpx, List.length_take]; omega
      have hn4 : n ≤ 4096 := by omega
      obtain ⟨lf, hlf⟩ : ∃ lf, bs.length - k = lf := ⟨_, rfl⟩
      have hw1 : IntKind.i64.wrap ((bs.length : Int) - (lf : Int)) = (k : Int) := (IntWalk.i64_in _ (by omega)).trans (by omega)
      have hw2 : (bs.length : Int) - (lf : Int) = (k : Int) := by omega
      have hkb : k ≤ bs.length := hk2
      rw [hpx] at htk
      have HTK := Lib.hid htk
      have HPX := Lib.hid hpx
      have HPL := Lib.hid hpl
      have HN := Lib.hid hn
      have HDS := Lib.hid hds
      have HDL := Lib.hid hdl
      have HLF := Lib.hid hlf
      have HDI := Lib.hid hdic
      clear hR hbs htk hpx hpl hn hds hdl hlf hdic hk1 hk2
      go_enter Try.func4, Try.ntmps4
      go_wp2_with fail
      refine (awake13_any (w := _)).mono ?_
      rintro r w1 ⟨rfl, b_w1⟩
      have Hb_w1 := Lib.hid ((Hb_w.out.below b_w1 (Nat.le_refl _)).wide (Nat.zero_le _) b_w1.size)
      have HB_w1 := Lib.hid b_w1
      have S_w1 := HB_w1.out.size
      clear b_w1 Hb_w  
      go_wp2_with fail
      refine (fnew_is bs Hb_w1.out (by omega) rfl).mono ?_
      rintro r wn ⟨g, rfl, hcn, hbn⟩
      have HCN := Lib.hid hcn
      have HBN := Lib.hid hbn
      clear hcn hbn
      go_wp2_with fail
      refine (fopen_is (wo := w1) HCN.out (by omega) HBN.out L k 0 HO.out).mono ?_
      rintro r w3 ⟨d, rfl, hdc, hcu, b_w3⟩
      clear HCN HBN
      have Hb_w3 := Lib.hid ((Hb_w1.out.below b_w3 (Nat.le_refl _)).wide (Nat.zero_le _) b_w3.size)
      have HB_w3 := Lib.hid (below_below HB_w1.out b_w3 S_w1)
      have S_w3 := HB_w3.out.size
      clear b_w3 Hb_w1 HB_w1  
      have HC_w3 := Lib.hid hcu
      have HD_w3 := Lib.hid hdc
      clear hcu hdc
      go_wp2_with fail
      refine (fgood_is true HC_w3.out rfl).mono ?_
      rintro r wq ⟨rfl, rfl⟩
      go_wp2_with fail
      refine (fleft_is HC_w3.out HLF.out).mono ?_
      rintro r w4 ⟨rfl, m_w4, rfl⟩
      have HC_w4 : Hid (Cur (w3.drewN m_w4) w1.heap.size g bs k 0) := HC_w3.out.drewN m_w4
      have HD_w4 : Hid (Dc (w3.drewN m_w4) d (strsL L)) := HD_w3.out.drewN m_w4
      obtain ⟨w4, hw_w4⟩ : ∃ q, w3.drewN m_w4 = q := ⟨_, rfl⟩
      have Hb_w4 : Hid (Rd w4 0 w4.heap.size B c (bv bs)) := by unfold Hid; rw [← hw_w4]; exact Hb_w3.out.drewN m_w4
      have HB_w4 : Hid (Below w.heap.size w w4) := by unfold Hid; rw [← hw_w4]; exact below_drewN' HB_w3.out m_w4
      have S_w4 := HB_w4.out.size
      rw [hw_w4] at HC_w4 HD_w4
      rw [hw_w4]
      clear hw_w4 Hb_w3 HB_w3
      clear HC_w3 HD_w3
      go_wp2_with fail
      refine (fall_is HD_w4.out (n := n) (by have := HDL.out; omega) (fun s hs => by have := HDS.out s hs; omega) HN.out).mono ?_
      rintro r w5 ⟨A5, c5, rfl, ho_w5, b_w5⟩
      have HC_w5 := Lib.hid (HC_w4.out.behind b_w5 HC_w4.out.lt)
      have HD_w5 := Lib.hid (HD_w4.out.below b_w5 (Nat.le_refl _))
      have Hb_w5 := Lib.hid ((Hb_w4.out.below b_w5 (Nat.le_refl _)).wide (Nat.zero_le _) b_w5.size)
      have HB_w5 := Lib.hid (below_below HB_w4.out b_w5 S_w4)
      have S_w5 := HB_w5.out.size
      have Hx_w5 := Lib.hid ((Rd.of_own ho_w5).wide (Nat.zero_le _) (Nat.le_refl _))
      clear b_w5 Hb_w4 HB_w4 ho_w5  HC_w4 HD_w4
      have hxl := Hx_w5.out.len
      rw [sv_length, HN.out] at hxl
      clear hw1 hw2
      go_wp2_with fail
      go_loopw [7] (fun x7 wr => ∃ j : Nat, 1 ≤ j ∧ j ≤ K0 ∧ x7 = .int .i64 (j : Int) ∧ Below w5.heap.size w5 wr) (fun x7 _ => 65 - (intOf x7).toNat)
      case atStart => exact ⟨1, Nat.le_refl _, hK1, rfl, Below.refl _ _⟩
      case round =>
        obtain ⟨j, hj1, hjK, rfl, hbr⟩ := hrel
        have HBR := Lib.hid hbr
        have ij : (j : Int) ≤ 64 := by omega
        have Hx_r := Lib.hid ((Hx_w5.out.below hbr (Nat.le_refl _)).wide (Nat.le_refl _) hbr.size)
        have Hb_r := Lib.hid ((Hb_w5.out.below hbr (Nat.le_refl _)).wide (Nat.le_refl _) hbr.size)
        have HD_r := Lib.hid (HD_w5.out.below hbr (Nat.le_refl _))
        have hrt : rightD (bytL2 (strsL L)) (j : Int) = true := by rw [bytL2_strsL']; exact rightD_iff.2 ⟨by omega, HDI.out⟩
        have HRT := Lib.hid hrt
        obtain ⟨F, hF⟩ : ∃ F, frontL j L = F := ⟨_, rfl⟩
        have hF2 : frontL j (bytL2 (strsL L)) = F := by rw [bytL2_strsL', hF]
        have hjv : decide (F = px) = false → j < K0 := fun h => by
          have h1 := of_decide_eq_false h
          rcases Nat.lt_or_ge j K0 with h2 | h2
          · exact h2
          · exact absurd (by rw [← hF, show j = K0 by omega]; exact HTK.out) h1
        have HJV := Lib.hid hjv
        have HF := Lib.hid hF2
        have hszr := hbr.size
        have HPB : Hid (Rd wr 0 wr.heap.size B c (bv px)) := by unfold Hid; rw [← HPX.out, bv_take]; exact Hb_r.out.take_ k
        obtain ⟨v, hv⟩ : ∃ v, decide (F = px) = v := ⟨_, rfl⟩
        have HV := Lib.hid hv
        rw [hv] at HJV
        clear hbr hrt hF hF2 hjv hv
        have i0k : (0 : Int) ≤ (k : Int) := by omega
        have ikc : (k : Int) ≤ (c : Int) := by omega
        cases v with
        | true =>
          go_wp2_with fail
          go_region_held3 (fun _ => True) (trivial) (first
            | (go_at_call 11; refine (rightd_is (strsL L) (j : Int) true (Hx_r.out.drewN _) (fun s hs => by have := HDS.out s hs; omega) HRT.out HN.out).mono ?_; rintro r wb ⟨rfl, mb, rfl⟩)
            | (go_at_call 13; refine (refbuild_is (strsL L) (j : Int) j F (Hx_r.out.drewN _) HRT.out rfl HF.out HN.out).mono ?_; rintro r wc ⟨Ac, cc, rfl, hoc, hbc⟩; have HOC := Lib.hid (Rd.of_own hoc); have HBC : Hid (Below wr.heap.size wr wc) := (below_drewN' (Below.refl _ wr) _).trans hbc; have HPC := Lib.hid (HPB.out.below HBC.out (Nat.le_refl _)); clear hoc hbc)
            | (go_at_call 12; refine (same_len F px true HOC.out HPC.out rfl HPL.out HV.out).mono ?_; rintro r wd ⟨rfl, rfl⟩))
          have HBE := Lib.hid (HBR.out.trans (HBC.out.mono hszr))
          have HD_c := Lib.hid (HD_r.out.below HBC.out (Nat.le_refl _))
          go_wp2_with fail
          refine (flen_is HD_c.out HN.out).mono ?_
          rintro r wd ⟨rfl, rfl⟩
          go_wp2_with fail
          go_ret
          exact ⟨rfl, below_below HB_w5.out HBE.out S_w5⟩
        | false =>
          have HJ2 := Lib.hid (HJV.out rfl)
          go_wp2_with fail
          go_region_held3 (fun _ => True) (trivial) (first
            | (go_at_call 11; refine (rightd_is (strsL L) (j : Int) true (Hx_r.out.drewN _) (fun s hs => by have := HDS.out s hs; omega) HRT.out HN.out).mono ?_; rintro r wb ⟨rfl, mb, rfl⟩)
            | (go_at_call 13; refine (refbuild_is (strsL L) (j : Int) j F (Hx_r.out.drewN _) HRT.out rfl HF.out HN.out).mono ?_; rintro r wc ⟨Ac, cc, rfl, hoc, hbc⟩; have HOC := Lib.hid (Rd.of_own hoc); have HBC : Hid (Below wr.heap.size wr wc) := (below_drewN' (Below.refl _ wr) _).trans hbc; have HPC := Lib.hid (HPB.out.below HBC.out (Nat.le_refl _)); clear hoc hbc)
            | (go_at_call 12; refine (same_len F px false HOC.out HPC.out rfl HPL.out HV.out).mono ?_; rintro r wd ⟨rfl, rfl⟩))
          have HBE := Lib.hid (HBR.out.trans (HBC.out.mono hszr))
          have hj2 := HJ2.out
          go_wp2_with fail
          go_roundw
          case rel => exact ⟨j + 1, by omega, by omega, by go_num, HBE.out⟩
          case measure => simp [intOf] <;> omega
    · have hL := openR_bad hR he
      subst hL
      have b0 : (e == 0) = false := beq_eq_false_iff_ne.2 he
      have bn : (e != 0) = true := by rw [bne, b0]; rfl
      have HE0 := Lib.hid b0
      have hen : endR bs k e = e := by simp [endR, he]
      have HEN := Lib.hid hen
      clear hR b0 hen
      go_enter Try.func4, Try.ntmps4
      go_wp2_with fail
      refine (awake13_any (w := _)).mono ?_
      rintro r w1 ⟨rfl, b_w1⟩
      have Hb_w1 := Lib.hid ((Hb_w.out.below b_w1 (Nat.le_refl _)).wide (Nat.zero_le _) b_w1.size)
      have HB_w1 := Lib.hid b_w1
      have S_w1 := HB_w1.out.size
      clear b_w1 Hb_w  
      go_wp2_with fail
      refine (fnew_is bs Hb_w1.out (by omega) rfl).mono ?_
      rintro r wn ⟨g, rfl, hcn, hbn⟩
      have HCN := Lib.hid hcn
      have HBN := Lib.hid hbn
      clear hcn hbn
      go_wp2_with fail
      refine (fopen_is (wo := w1) HCN.out (by omega) HBN.out [] k e HO.out).mono ?_
      rintro r w3 ⟨d, rfl, hdc, hcu, b_w3⟩
      clear HCN HBN
      have Hb_w3 := Lib.hid ((Hb_w1.out.below b_w3 (Nat.le_refl _)).wide (Nat.zero_le _) b_w3.size)
      have HB_w3 := Lib.hid (below_below HB_w1.out b_w3 S_w1)
      have S_w3 := HB_w3.out.size
      clear b_w3 Hb_w1 HB_w1  
      have HC_w3 := Lib.hid hcu
      have HD_w3 := Lib.hid hdc
      clear hcu hdc
      go_wp2_with fail
      refine (fgood_is false HC_w3.out HE0.out).mono ?_
      rintro r wq ⟨rfl, rfl⟩
      go_wp2_with fail
      refine (flen_is HD_w3.out (n := 0) rfl).mono ?_
      rintro r wq ⟨rfl, rfl⟩
      go_wp2_with fail
      refine (fall_is HD_w3.out (n := 0) (by decide) (fun s hs => by cases hs) rfl).mono ?_
      rintro r w5 ⟨A5, c5, rfl, ho_w5, b_w5⟩
      have HC_w5 := Lib.hid (HC_w3.out.behind b_w5 HC_w3.out.lt)
      have HD_w5 := Lib.hid (HD_w3.out.below b_w5 (Nat.le_refl _))
      have Hb_w5 := Lib.hid ((Hb_w3.out.below b_w5 (Nat.le_refl _)).wide (Nat.zero_le _) b_w5.size)
      have HB_w5 := Lib.hid (below_below HB_w3.out b_w5 S_w3)
      have S_w5 := HB_w5.out.size
      clear b_w5 Hb_w3 HB_w3  HC_w3 HD_w3
      clear ho_w5
      go_wp2_with fail
      refine (fend_is HC_w5.out HEN.out).mono ?_
      rintro r w6 ⟨rfl, m_w6, rfl⟩
      have HC_w6 : Hid (Cur (w5.drewN m_w6) w1.heap.size g bs k e) := HC_w5.out.drewN m_w6
      have HD_w6 : Hid (Dc (w5.drewN m_w6) d (strsL [])) := HD_w5.out.drewN m_w6
      obtain ⟨w6, hw_w6⟩ : ∃ q, w5.drewN m_w6 = q := ⟨_, rfl⟩
      have Hb_w6 : Hid (Rd w6 0 w6.heap.size B c (bv bs)) := by unfold Hid; rw [← hw_w6]; exact Hb_w5.out.drewN m_w6
      have HB_w6 : Hid (Below w.heap.size w w6) := by unfold Hid; rw [← hw_w6]; exact below_drewN' HB_w5.out m_w6
      have S_w6 := HB_w6.out.size
      rw [hw_w6] at HC_w6 HD_w6
      rw [hw_w6]
      clear hw_w6 Hb_w5 HB_w5
      clear HC_w5 HD_w5
      go_wp2_with fail
      go_ret
      exact ⟨rfl, HB_w6.out⟩
  · have i10 : (3000 : Int) < (bs.length : Int) := by omega
    go_enter Try.func4, Try.ntmps4
    go_wp2_with fail
    refine (awake13_any (w := _)).mono ?_
    rintro r w1 ⟨rfl, b_w1⟩
    have Hb_w1 := Lib.hid ((Hb_w.out.below b_w1 (Nat.le_refl _)).wide (Nat.zero_le _) b_w1.size)
    have HB_w1 := Lib.hid b_w1
    have S_w1 := HB_w1.out.size
    clear b_w1 Hb_w  
    go_wp2_with fail
    refine (awake13_any (w := _)).mono ?_
    rintro r w2 ⟨rfl, b_w2⟩
    have Hb_w2 := Lib.hid ((Hb_w1.out.below b_w2 (Nat.le_refl _)).wide (Nat.zero_le _) b_w2.size)
    have HB_w2 := Lib.hid (below_below HB_w1.out b_w2 S_w1)
    have S_w2 := HB_w2.out.size
    clear b_w2 Hb_w1 HB_w1  
    go_wp2_with fail
    go_ret
    exact ⟨rfl, HB_w2.out⟩

set_option maxRecDepth 100000 in
theorem frontOpens_lifted (os : Os) (started : os.Started) (H : Type) (enc : TypeId × Value → H) :
    ReturnsInHanded {} Try.checked os 4 .any (Rows.frontOpensSpec.pre6 enc Try.prog Try.f4 Rows.frontOpensRow.domain false) (Rows.frontOpensSpec.post enc Try.prog Try.f4 false true false false) := by
  refine returnsInHanded_of_change (C := Try.checked) own started (by kernel_rfl) Try.func4
    (ChangeSpec.witness6 (enc := enc) (C := Try.checked) false ⟨#[], #[.slice none 0 0], []⟩ 8 (by kernel_rfl) (by kernel_rfl) (by kernel_rfl) (by kernel_rfl)) ?_
  intro W base args ds gs before hval0 hW hcnd _
  have hval : ∀ (j : Nat) t v, Try.f4.params[j]? = some t → args[j]? = some v → Value.okWide Try.prog W .any base t v := hval0
  have hW' := hW
  obtain ⟨p, q, hA0, hV, rfl, hfz, hnd⟩ := hW
  have hA : DataW.TrodAll enc Try.prog W 0 (fun _ => true) true Try.f4.params.toList args.toList ds p := hA0
  have hA1 : DataW.TrodAll enc Try.prog W 0 (fun _ => true) true Try.f4.params.toList args.toList ds p := hA0
  rw [Try.params4] at hA hval
  obtain ⟨v0, vs0, d0, ds0, p0, q0, hargs, rfl, rfl, h0, r0⟩ := trodAll_cons hA
  obtain ⟨rfl, rfl, rfl⟩ := trodAll_nil r0
  obtain rfl : args = #[v0] := by cases args; simp_all
  obtain ⟨rfl, rfl⟩ := trodVars_none hV
  obtain ⟨A0, a0, c0, rfl, w0⟩ := open_bytes Try.underlying25 Try.underlying5 (by kernel_rfl) (hval 0 25 v0 rfl rfl) h0
  clear hA0 hval0
  refine (frontOpens_walk (w := W) w0).mono fun e W' ⟨he, bel⟩ => ?_
  subst he
  exact ⟨_, rfl, _, _, _, [], _, [], hW', trodAll_mk1 (shut_bool Try.underlying4 _), trodAll_below laidOut bel _ _ _ _ (by kernel_rfl) hA1, rfl, bel.frame _, fun h => by cases h⟩

theorem frontOpens_over : Rows.frontOpensRow.holds Try.pinned (OpenSpec.ofChange Rows.frontOpensSpec) :=
  OpenClaim.holds_of_wide 4 Try.f4 rfl rfl rfl rfl rfl rfl rfl ⟨rfl, rfl, rfl, rfl, rfl⟩ rfl rfl rfl rfl rfl (by kernel_rfl) Try.func4 (by kernel_rfl)
    (of_decide_eq_true (by kernel_rfl)) (by unfold Func.isWrapper; first | (rw [if_pos (by decide +kernel)]; kernel_rfl) | (rw [if_neg (by decide +kernel)]; exact ⟨rfl, rfl⟩))
    (fun os started H enc _ => frontOpens_lifted os started H enc)

/-- The statement. -/
theorem frontOpens_proved : Rows.FrontOpensSaid := frontOpens_over


end Go.Proofs.Ytgadhofddbmhgaa
