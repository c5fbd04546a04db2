/-
  Proved: FrontCut of layer 13: no beginning of a dictionary's bytes is opened as one; what came in reads as it did. Conditions: none of our own.
-/
import Derived.Test.YtgadhofddbmhgaaFtW
import Derived.Test.YtgadhofddbmhgaaShellT
import Derived.Test.YtgadhofddbmhgaaShell
namespace Go.Proofs.Ytgadhofddbmhgaa
set_option linter.unusedSimpArgs false
set_option linter.unusedVariables false
open Go.ChangeShapes Go.WideShapes Go.ChangeAt Go.RowKit
open Go.ChangeMaps (open_string shut_string)

theorem total_few {t : List ByteArray} {m : Nat} (h : ∀ s ∈ t, s.size ≤ m) : total t ≤ m * t.length := by
  induction t with
  | nil => simp [total]
  | cons s t ih =>
    have h1 := h s List.mem_cons_self
    have h2 := ih fun x hx => h x (List.mem_cons_of_mem _ hx)
    rw [total, List.length_cons, Nat.mul_add]
    omega

set_option maxRecDepth 20000 in
set_option maxHeartbeats 4000000 in
theorem frontCut_walk {w : World} {A : Option Addr} {l : List ByteArray} {c : Nat} (h : Rd w 0 w.heap.size A c (sv l) ∧ ∀ s ∈ l, s.size ≤ maxLen) (b : UInt8) (cut : Nat) (hcut : cut < 65536) :
    Calls Try.prog 6 #[.slice A l.length c, .int .u8 (b.toNat : Int), .int .u16 (cut : Int)] w fun e w' => e = .returned (.bool true) ∧ Below w.heap.size w w' := by
  obtain ⟨h, hz⟩ := h
  have Hl_w := Lib.hid h
  have HZ := Lib.hid hz
  have hl := h.len
  have hm := h.cap
  rw [sv_length] at hl
  unfold maxLen at hm
  clear h hz
  by_cases hf : FewD l
  · obtain ⟨hl150, hs5⟩ := few_facts hf
    have HFW : Hid (decide (FewD l) = true) := decide_eq_true hf
    have HS5 := Lib.hid hs5
    clear hf hs5
    obtain ⟨K, hKb⟩ : ∃ K, 1 + b.toNat % 64 = K := ⟨_, rfl⟩
    have hK1 : 1 ≤ K ∧ K ≤ 64 := by omega
    have HKB := Lib.hid hKb
    clear hKb
    go_enter Try.func6, Try.ntmps6
    go_wp2_with fail
    refine (awake13_any (w := _)).mono ?_
    rintro r w1 ⟨rfl, b_w1⟩
    have Hl_w1 := Lib.hid ((Hl_w.out.below b_w1 (Nat.le_refl _)).wide (Nat.zero_le _) b_w1.size)
    have HB_w1 := Lib.hid b_w1
    have S_w1 := HB_w1.out.size
    clear b_w1 Hl_w  
    go_wp2_with fail
    refine (fewd_is l true Hl_w1.out HFW.out).mono ?_
    rintro r wq ⟨rfl, rfl⟩
    go_wp2_with fail
    refine (refsorted_is l Hl_w1.out HS5.out (by decide) (by omega) rfl).mono ?_
    rintro r w2 ⟨t, A_w2, c_w2, rfl, hts, ho_w2, b_w2⟩
    have Hl_w2 := Lib.hid ((Hl_w1.out.below b_w2 (Nat.le_refl _)).wide (Nat.zero_le _) b_w2.size)
    have HB_w2 := Lib.hid (below_below HB_w1.out b_w2 S_w1)
    have S_w2 := HB_w2.out.size
    have Ht_w2 := Lib.hid ((Rd.of_own ho_w2).wide (Nat.zero_le _) (Nat.le_refl _))
    clear b_w2 Hl_w1 HB_w1 ho_w2  
    obtain ⟨htr, ht5, htl⟩ := hts
    have HT5 := Lib.hid ht5
    have HTR := Lib.hid htr
    have ht150 : t.length ≤ 150 := by omega
    clear ht5 htr htl
    obtain ⟨dv, hdv⟩ : ∃ v, dicL (bytL2 t) = v := ⟨_, rfl⟩
    have HDV := Lib.hid hdv
    clear hdv
    cases dv with
    | true =>
      obtain ⟨F, hF⟩ : ∃ F, frontL K (bytL2 t) = F := ⟨_, rfl⟩
      have HF := Lib.hid hF
      have hFp : 0 < F.length := by rw [← hF]; exact front_pos
      have hFl : F.length ≤ 10000000 := by
        have h1 := front_len (K := K) (by omega) HDV.out
        rw [hF, sum_total, bytL2_length] at h1
        have h2 := total_few HT5.out
        have h3 := Nat.mul_le_mul_left 5000 ht150
        omega
      clear hF
      go_wp2_with fail
      refine (fbuildK_is t _ K F Ht_w2.out HDV.out hK1 HF.out rfl (by have := HKB.out; omega)).mono ?_
      rintro r w3 ⟨A_w3, c_w3, rfl, ho_w3, b_w3⟩
      have Hl_w3 := Lib.hid ((Hl_w2.out.below b_w3 (Nat.le_refl _)).wide (Nat.zero_le _) b_w3.size)
      have Ht_w3 := Lib.hid ((Ht_w2.out.below b_w3 (Nat.le_refl _)).wide (Nat.zero_le _) b_w3.size)
      have HB_w3 := Lib.hid (below_below HB_w2.out b_w3 S_w2)
      have S_w3 := HB_w3.out.size
      have Hb_w3 := Lib.hid ((Rd.of_own ho_w3).wide (Nat.zero_le _) (Nat.le_refl _))
      clear b_w3 Hl_w2 Ht_w2 HB_w2 ho_w3  
      obtain ⟨mm, hmm⟩ : ∃ mm, cut % F.length = mm := ⟨_, rfl⟩
      have hml : mm < F.length := by rw [← hmm]; exact Nat.mod_lt _ hFp
      have hmi : (cut : Int) % (F.length : Int) = (mm : Int) := by rw [← hmm]; rfl
      have hmt : (cut : Int).tmod (F.length : Int) = (mm : Int) := by rw [← hmm]; exact (Int.ofNat_tmod _ _).symm
      have hF0 : ¬ (F.length : Int) = 0 := by omega
      have hbl := Hb_w3.out.len
      have hbm := Hb_w3.out.cap
      rw [bv_length] at hbl
      unfold maxLen at hbm
      have im0 : (0 : Int) ≤ (mm : Int) := by omega
      have imc : (mm : Int) ≤ (c_w3 : Int) := by omega
      obtain ⟨px, hpx⟩ : ∃ px, F.take mm = px := ⟨_, rfl⟩
      have hpl : px.length = mm := by rw [← hpx, List.length_take]; omega
      have HPL := Lib.hid hpl
      have Hp_w3 : Hid (Rd w3 0 w3.heap.size A_w3 c_w3 (bv px)) := by unfold Hid; rw [← hpx, bv_take]; exact Hb_w3.out.take_ mm
      obtain ⟨R, hR⟩ : ∃ R, openR px 0 0 = R := ⟨_, rfl⟩
      obtain ⟨L, k, e⟩ := R
      have he : e ≠ 0 := by
        have h1 := openR_cut (K := K) (l := bytL2 t) (m := mm) hK1.1 hK1.2 HDV.out (by rw [HF.out]; exact hml)
        rw [HF.out, hpx, hR] at h1
        exact h1
      have hL := openR_bad hR he
      subst hL
      have HO := Lib.hid hR
      have b0 : (e == 0) = false := beq_eq_false_iff_ne.2 he
      have HE0 := Lib.hid b0
      clear hR he b0 hpx hmm hpl
      go_wp2_with fail
      refine (fnew_is px Hp_w3.out (by have := HPL.out; omega) HPL.out).mono ?_
      rintro r wn ⟨g, rfl, hcn, hbn⟩
      have HCN := Lib.hid hcn
      have HBN := Lib.hid hbn
      clear hcn hbn
      go_wp2_with fail
      refine (fopen_is (wo := w3) HCN.out (by have := HPL.out; omega) HBN.out [] k e HO.out).mono ?_
      rintro r w5 ⟨d, rfl, hdc, hcu, b_w5⟩
      clear HCN HBN
      have Hl_w5 := Lib.hid ((Hl_w3.out.below b_w5 (Nat.le_refl _)).wide (Nat.zero_le _) b_w5.size)
      have Ht_w5 := Lib.hid ((Ht_w3.out.below b_w5 (Nat.le_refl _)).wide (Nat.zero_le _) b_w5.size)
      have Hb_w5 := Lib.hid ((Hb_w3.out.below b_w5 (Nat.le_refl _)).wide (Nat.zero_le _) b_w5.size)
      have Hp_w5 := Lib.hid ((Hp_w3.out.below b_w5 (Nat.le_refl _)).wide (Nat.zero_le _) b_w5.size)
      have HB_w5 := Lib.hid (below_below HB_w3.out b_w5 S_w3)
      have S_w5 := HB_w5.out.size
      clear b_w5 Hl_w3 Ht_w3 Hb_w3 Hp_w3 HB_w3  
      have HC_w5 := Lib.hid hcu
      have HD_w5 := Lib.hid hdc
      clear hcu hdc
      go_wp2_with fail
      refine (fgood_is false HC_w5.out HE0.out).mono ?_
      rintro r wq ⟨rfl, rfl⟩
      go_wp2_with fail
      refine (flen_is HD_w5.out (n := 0) rfl).mono ?_
      rintro r wq ⟨rfl, rfl⟩
      go_wp2_with fail
      go_ret
      exact ⟨rfl, HB_w5.out⟩
    | false =>
      go_wp2_with fail
      refine (fbuildK_not t _ Ht_w2.out (fun s hs => by have := HT5.out s hs; omega) HDV.out rfl).mono ?_
      rintro r wq ⟨rfl, rfl⟩
      go_wp2_with fail
      go_ret
      exact ⟨rfl, HB_w2.out⟩
  · have HNF : Hid (decide (FewD l) = false) := decide_eq_false hf
    clear hf
    go_enter Try.func6, Try.ntmps6
    go_wp2_with fail
    refine (awake13_any (w := _)).mono ?_
    rintro r w1 ⟨rfl, b_w1⟩
    have Hl_w1 := Lib.hid ((Hl_w.out.below b_w1 (Nat.le_refl _)).wide (Nat.zero_le _) b_w1.size)
    have HB_w1 := Lib.hid b_w1
    have S_w1 := HB_w1.out.size
    clear b_w1 Hl_w  
    go_wp2_with fail
    refine (fewd_is l false Hl_w1.out HNF.out).mono ?_
    rintro r wq ⟨rfl, rfl⟩
    go_wp2_with fail
    refine (awake13_any (w := _)).mono ?_
    rintro r w2 ⟨rfl, b_w2⟩
    have Hl_w2 := Lib.hid ((Hl_w1.out.below b_w2 (Nat.le_refl _)).wide (Nat.zero_le _) b_w2.size)
    have HB_w2 := Lib.hid (below_below HB_w1.out b_w2 S_w1)
    have S_w2 := HB_w2.out.size
    clear b_w2 Hl_w1 HB_w1  
    go_wp2_with fail
    go_ret
    exact ⟨rfl, HB_w2.out⟩

set_option maxRecDepth 100000 in
theorem frontCut_lifted (os : Os) (started : os.Started) (H : Type) (enc : TypeId × Value → H) :
    ReturnsInHanded {} Try.checked os 6 .any (Rows.frontCutSpec.pre6 enc Try.prog Try.f6 Rows.frontCutRow.domain false) (Rows.frontCutSpec.post enc Try.prog Try.f6 false true false false) := by
  refine returnsInHanded_of_change (C := Try.checked) own started (by kernel_rfl) Try.func6
    (ChangeSpec.witness6 (enc := enc) (C := Try.checked) false ⟨#[], #[.slice none 0 0, .int .u8 0, .int .u16 0], []⟩ 8 (by kernel_rfl) (by kernel_rfl) (by kernel_rfl) (by kernel_rfl)) ?_
  intro W base args ds gs before hval0 hW hcnd _
  have hval : ∀ (j : Nat) t v, Try.f6.params[j]? = some t → args[j]? = some v → Value.okWide Try.prog W .any base t v := hval0
  have hW' := hW
  obtain ⟨p, q, hA0, hV, rfl, hfz, hnd⟩ := hW
  have hA : DataW.TrodAll enc Try.prog W 0 (fun _ => true) true Try.f6.params.toList args.toList ds p := hA0
  have hA1 : DataW.TrodAll enc Try.prog W 0 (fun _ => true) true Try.f6.params.toList args.toList ds p := hA0
  rw [Try.params6] at hA hval
  obtain ⟨v0, vs0, d0, ds0, p0, q0, hargs, rfl, rfl, h0, r0⟩ := trodAll_cons hA
  obtain ⟨v1, vs1, d1, ds1, p1, q1, rfl, rfl, rfl, h1, r1⟩ := trodAll_cons r0
  obtain ⟨v2, vs2, d2, ds2, p2, q2, rfl, rfl, rfl, h2, r2⟩ := trodAll_cons r1
  obtain ⟨rfl, rfl, rfl⟩ := trodAll_nil r2
  obtain rfl : args = #[v0, v1, v2] := by cases args; simp_all
  obtain ⟨rfl, rfl⟩ := trodVars_none hV
  obtain ⟨A0, a0, c0, rfl, w0⟩ := open_strs Try.underlying22 Try.underlying9 (by kernel_rfl) (hval 0 22 v0 rfl rfl) h0
  obtain ⟨a1, rfl, rfl, rfl, w1⟩ := open_int Try.underlying5 (hval 1 5 v1 rfl rfl) h1
  obtain ⟨b1, rfl⟩ := u8_of_wf w1
  obtain ⟨a2, rfl, rfl, rfl, w2⟩ := open_int Try.underlying44 (hval 2 44 v2 rfl rfl) h2
  obtain ⟨b2, rfl, l2⟩ := u16_of_wf w2
  clear hA0 hval0
  refine (frontCut_walk (w := W) w0 b1 b2 l2).mono fun e W' ⟨he, bel⟩ => ?_
  subst he
  exact ⟨_, rfl, _, _, _, [], _, [], hW', trodAll_mk1 (shut_bool Try.underlying4 _), trodAll_below laidOut bel _ _ _ _ (by kernel_rfl) hA1, rfl, bel.frame _, fun h => by cases h⟩

theorem frontCut_over : Rows.frontCutRow.holds Try.pinned (OpenSpec.ofChange Rows.frontCutSpec) :=
  OpenClaim.holds_of_wide 6 Try.f6 rfl rfl rfl rfl rfl rfl rfl ⟨rfl, rfl, rfl, rfl, rfl⟩ rfl rfl rfl rfl rfl (by kernel_rfl) Try.func6 (by kernel_rfl)
    (of_decide_eq_true (by kernel_rfl)) (by unfold Func.isWrapper; first | (rw [if_pos (by decide +kernel)]; kernel_rfl) | (rw [if_neg (by decide +kernel)]; exact ⟨rfl, rfl⟩))
    (fun os started H enc _ => frontCut_lifted os started H enc)

/-- The statement. -/
theorem frontCut_proved : Rows.FrontCutSaid := frontCut_over


end Go.Proofs.Ytgadhofddbmhgaa
