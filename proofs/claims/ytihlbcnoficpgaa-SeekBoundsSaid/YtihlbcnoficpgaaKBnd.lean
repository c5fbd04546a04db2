/-
  Proved: SeekBounds of layer 14: bounds part a dictionary into what is less and what isn't; a string is there just if its bounds are unlike; what came in reads as it did. Conditions: none of our own.
-/
import Derived.Test.YtihlbcnoficpgaaSkW
import Derived.Test.YtihlbcnoficpgaaShellT
import Derived.Test.YtihlbcnoficpgaaShell
namespace Go.Proofs.Ytihlbcnoficpgaa
set_option linter.unusedSimpArgs false
set_option linter.unusedVariables false
open Go.ChangeShapes Go.WideShapes Go.ChangeAt Go.RowKit
open Go.ChangeMaps (open_string shut_string)

set_option maxRecDepth 20000 in
set_option maxHeartbeats 4000000 in
theorem seekBounds_walk {w : World} {A : Option Addr} {l : List ByteArray} {c : Nat} (h : Rd w 0 w.heap.size A c (sv l) ∧ ∀ s ∈ l, s.size ≤ maxLen) (s : ByteArray) (hs : s.size ≤ 9223372036854775807) :
    Calls Try.prog 6 #[.slice A l.length c, .string s] w fun e w' => e = .returned (.bool true) ∧ Below w.heap.size w w' := by
  obtain ⟨h, -⟩ := h
  have Hl_w := Lib.hid h
  have hl := h.len
  have hm := h.cap
  rw [sv_length] at hl
  unfold maxLen at hm
  clear h
  go_enter Try.func6, Try.ntmps6
  go_wp2_with fail
  refine (dict_any l Hl_w.out).mono ?_
  rintro r w1 ⟨b_w1, (⟨rfl, hno⟩ | ⟨dm, tm, Am, cm, rfl, hM⟩)⟩
  · have HNO := Lib.hid hno
    clear hno
    have Hl_w1 := Lib.hid ((Hl_w.out.below b_w1 (Nat.le_refl _)).wide (Nat.zero_le _) b_w1.size)
    have HB_w1 := Lib.hid b_w1
    have S_w1 := HB_w1.out.size
    clear b_w1 Hl_w   
    go_wp2_with fail
    refine (awake14_any (w := _)).mono ?_
    rintro r w2 ⟨rfl, b_w2⟩
    have Hl_w2 := Lib.hid ((Hl_w1.out.below b_w2 (Nat.le_refl _)).wide (Nat.zero_le _) b_w2.size)
    have HB_w2 := Lib.hid (below_below HB_w1.out b_w2 S_w1)
    have S_w2 := HB_w2.out.size
    clear b_w2 Hl_w1 HB_w1   
    go_wp2_with fail
    refine (awake14_any (w := _)).mono ?_
    rintro r w3 ⟨rfl, b_w3⟩
    have Hl_w3 := Lib.hid ((Hl_w2.out.below b_w3 (Nat.le_refl _)).wide (Nat.zero_le _) b_w3.size)
    have HB_w3 := Lib.hid (below_below HB_w2.out b_w3 S_w2)
    have S_w3 := HB_w3.out.size
    clear b_w3 Hl_w2 HB_w2   
    go_wp2_with fail
    go_ret
    exact ⟨rfl, HB_w3.out⟩
  · have HMN := Lib.hid hM
    clear hM
    have Hl_w1 := Lib.hid ((Hl_w.out.below b_w1 (Nat.le_refl _)).wide (Nat.zero_le _) b_w1.size)
    have HB_w1 := Lib.hid b_w1
    have S_w1 := HB_w1.out.size
    clear b_w1 Hl_w   
    have HMm_w1 := Lib.hid HMN.out
    clear HMN
    have hlenm := HMm_w1.out.len
    have hrlm := HMm_w1.out.rd.len
    have hrcm := HMm_w1.out.rd.cap
    rw [sv_length] at hrlm
    unfold maxLen at hrcm
    have HRIm := Lib.hid (HMm_w1.out.dk.rises)
    have HSIm := Lib.hid (HMm_w1.out.size)
    go_wp2_with fail
    by_cases hs5 : s.size ≤ 5000
    · have i5 : ¬ (5000 : Int) < (s.size : Int) := by omega
      refine (awake14_any (w := _)).mono ?_
      rintro r w2 ⟨rfl, b_w2⟩
      have HMm_w2 := Lib.hid (HMm_w1.out.below b_w2)
      have Hl_w2 := Lib.hid ((Hl_w1.out.below b_w2 (Nat.le_refl _)).wide (Nat.zero_le _) b_w2.size)
      have HB_w2 := Lib.hid (below_below HB_w1.out b_w2 S_w1)
      have S_w2 := HB_w2.out.size
      clear b_w2 Hl_w1 HB_w1  HMm_w1 
      go_wp2_with fail
      obtain ⟨lo, hlo⟩ : ∃ n, lowN (bytL2 tm) s.data.toList = n := ⟨_, rfl⟩
      obtain ⟨up, hup⟩ : ∃ n, upN (bytL2 tm) s.data.toList = n := ⟨_, rfl⟩
      have hlu := low_up HRIm.out s.data.toList
      have hule := upN_le (bytL2 tm) s.data.toList
      rw [hlo, hup] at hlu
      rw [hup, bytL2_length] at hule
      obtain ⟨co, hco⟩ : ∃ n, codeN (bytL2 tm) s.data.toList = n := ⟨_, rfl⟩
      have HCO := Lib.hid hco
      have HLO := Lib.hid hlo
      have HUP := Lib.hid hup
      have HIS : Hid (isN (bytL2 tm) s.data.toList = decide (lo < up)) := by unfold Hid isN; rw [hlo, hup]
      have HTH : Hid (∀ i (hi : i < tm.length), (cmpL tm[i].data.toList s.data.toList < 0 ↔ i < lo) ∧ (cmpL tm[i].data.toList s.data.toList ≤ 0 ↔ i < up)) := fun i hi => by
        have h1 := lowN_iff HRIm.out s.data.toList (i := i) (by rw [bytL2_length]; exact hi)
        have h2 := upN_iff HRIm.out s.data.toList (i := i) (by rw [bytL2_length]; exact hi)
        rw [bytL2_get tm i hi, hlo] at h1
        rw [bytL2_get tm i hi, hup] at h2
        exact ⟨h1, h2⟩
      clear hlo hup hco
      refine (slow_is HMm_w2.out.dk s lo (by omega) HLO.out).mono ?_
      rintro r w3 ⟨rfl, b_w3⟩
      have HMm_w3 := Lib.hid (HMm_w2.out.below b_w3)
      have Hl_w3 := Lib.hid ((Hl_w2.out.below b_w3 (Nat.le_refl _)).wide (Nat.zero_le _) b_w3.size)
      have HB_w3 := Lib.hid (below_below HB_w2.out b_w3 S_w2)
      have S_w3 := HB_w3.out.size
      clear b_w3 Hl_w2 HB_w2  HMm_w2 
      go_wp2_with fail
      refine (sup_is HMm_w3.out.dk s up (by omega) HUP.out).mono ?_
      rintro r w4 ⟨rfl, b_w4⟩
      have HMm_w4 := Lib.hid (HMm_w3.out.below b_w4)
      have Hl_w4 := Lib.hid ((Hl_w3.out.below b_w4 (Nat.le_refl _)).wide (Nat.zero_le _) b_w4.size)
      have HB_w4 := Lib.hid (below_below HB_w3.out b_w4 S_w3)
      have S_w4 := HB_w4.out.size
      clear b_w4 Hl_w3 HB_w3  HMm_w3 
      go_wp2_with fail
      refine (scode_is HMm_w4.out.dk s co (decide (lo < up)) (by omega) HCO.out HIS.out).mono ?_
      rintro r w5 ⟨rfl, b_w5⟩
      have HMm_w5 := Lib.hid (HMm_w4.out.below b_w5)
      have Hl_w5 := Lib.hid ((Hl_w4.out.below b_w5 (Nat.le_refl _)).wide (Nat.zero_le _) b_w5.size)
      have HB_w5 := Lib.hid (below_below HB_w4.out b_w5 S_w4)
      have S_w5 := HB_w5.out.size
      clear b_w5 Hl_w4 HB_w4  HMm_w4 
      have bq : ((lo : Int) != (up : Int)) = decide (lo < up) := by
        by_cases h : lo < up
        · rw [decide_eq_true h, bne_iff_ne]; omega
        · rw [decide_eq_false h, bne_eq_false_iff_eq]; omega
      have i1 : ¬ (lo : Int) + 1 < (up : Int) := by omega
      have d1 : decide ((lo : Int) + 1 < (up : Int)) = false := decide_eq_false i1
      have i2 : ¬ (lo : Int) < 0 := by omega
      have i3 : ¬ (tm.length : Int) < (up : Int) := by omega
      have d3 : decide (tm.length < up) = false := decide_eq_false (by omega)
      generalize decide (lo < up) = bv at *
      go_wp2_with fail
      clear bq
      go_loopw [12] (fun x12 wr => ∃ i m : Nat, i ≤ tm.length ∧ x12 = .int .i64 (i : Int) ∧ wr = w5.drewN m) (fun i _ => tm.length - (intOf i).toNat)
      case atStart => exact ⟨0, 0, Nat.zero_le _, rfl, rfl⟩
      case round =>
        obtain ⟨i, m, hi, rfl, rfl⟩ := hrel
        by_cases hlt : i < tm.length
        · have ii : (i : Int) < (tm.length : Int) := by omega
          have hts := HSIm.out tm[i] (List.getElem_mem hlt)
          obtain ⟨hc1, hc2⟩ := HTH.out i hlt
          obtain ⟨bt, off, hA2, _, hbt, hcell⟩ := HMm_w5.out.rd.str hlt
          have HCM := Lib.hid (fun w => refCompare_any (w := w) tm[i] s (by omega) (by omega))
          generalize cmpL tm[i].data.toList s.data.toList = z at *
          generalize tm[i] = x at *
          subst hA2
          have ea : decide (z < 0) = decide (i < lo) := by rw [decide_eq_decide]; omega
          have eb : decide (0 < z) = decide (up ≤ i) := by rw [decide_eq_decide]; omega
          obtain ⟨va, hva⟩ : ∃ v, decide (i < lo) = v := ⟨_, rfl⟩
          obtain ⟨vb, hvb⟩ : ∃ v, decide (up ≤ i) = v := ⟨_, rfl⟩
          rw [hva] at ea
          rw [hvb] at eb
          have na : (va != va) = false := by simp
          have nb : (vb != vb) = false := by simp
          clear hc1 hc2
          go_wp2_with fail
          refine (HCM.out _).mono ?_
          rintro r wq ⟨rfl, m2, rfl⟩
          go_wp2_with fail
          refine (HCM.out _).mono ?_
          rintro r wq ⟨rfl, m3, rfl⟩
          go_wp2_with fail
          go_roundw
          case rel => exact ⟨i + 1, _, by omega, by go_num, by first | rfl | (rw [World.drewN_drewN]) | (rw [World.drewN_drewN, World.drewN_drewN])⟩
          case measure => simp [intOf] <;> omega
        · have ii : ¬ (i : Int) < (tm.length : Int) := by omega
          go_wp2_with fail
          go_ret
          exact ⟨rfl, below_drewN' HB_w5.out _⟩
    · have i5 : (5000 : Int) < (s.size : Int) := by omega
      refine (awake14_any (w := _)).mono ?_
      rintro r w2 ⟨rfl, b_w2⟩
      have HMm_w2 := Lib.hid (HMm_w1.out.below b_w2)
      have Hl_w2 := Lib.hid ((Hl_w1.out.below b_w2 (Nat.le_refl _)).wide (Nat.zero_le _) b_w2.size)
      have HB_w2 := Lib.hid (below_below HB_w1.out b_w2 S_w1)
      have S_w2 := HB_w2.out.size
      clear b_w2 Hl_w1 HB_w1  HMm_w1 
      go_wp2_with fail
      refine (awake14_any (w := _)).mono ?_
      rintro r w3 ⟨rfl, b_w3⟩
      have HMm_w3 := Lib.hid (HMm_w2.out.below b_w3)
      have Hl_w3 := Lib.hid ((Hl_w2.out.below b_w3 (Nat.le_refl _)).wide (Nat.zero_le _) b_w3.size)
      have HB_w3 := Lib.hid (below_below HB_w2.out b_w3 S_w2)
      have S_w3 := HB_w3.out.size
      clear b_w3 Hl_w2 HB_w2  HMm_w2 
      go_wp2_with fail
      go_ret
      exact ⟨rfl, HB_w3.out⟩

set_option maxRecDepth 100000 in
theorem seekBounds_lifted (os : Os) (started : os.Started) (H : Type) (enc : TypeId × Value → H) :
    ReturnsInHanded {} Try.checked os 6 .any (Rows.seekBoundsSpec.pre6 enc Try.prog Try.f6 Rows.seekBoundsRow.domain false) (Rows.seekBoundsSpec.post enc Try.prog Try.f6 false true false false) := by
  refine returnsInHanded_of_change (C := Try.checked) own started (by kernel_rfl) Try.func6
    (ChangeSpec.witness6 (enc := enc) (C := Try.checked) false ⟨#[], #[.slice none 0 0, .string ByteArray.empty], []⟩ 8 (by kernel_rfl) (by kernel_rfl) (by kernel_rfl) (by kernel_rfl)) ?_
  intro W base args ds gs before hval0 hW hcnd _
  have hval : ∀ (j : Nat) t v, Try.f6.params[j]? = some t → args[j]? = some v → Value.okWide Try.prog W .any base t v := hval0
  have hW' := hW
  obtain ⟨p, q, hA0, hV, rfl, hfz, hnd⟩ := hW
  have hA : DataW.TrodAll enc Try.prog W 0 (fun _ => true) true Try.f6.params.toList args.toList ds p := hA0
  have hA1 : DataW.TrodAll enc Try.prog W 0 (fun _ => true) true Try.f6.params.toList args.toList ds p := hA0
  rw [Try.params6] at hA hval
  obtain ⟨v0, vs0, d0, ds0, p0, q0, hargs, rfl, rfl, h0, r0⟩ := trodAll_cons hA
  obtain ⟨v1, vs1, d1, ds1, p1, q1, rfl, rfl, rfl, h1, r1⟩ := trodAll_cons r0
  obtain ⟨rfl, rfl, rfl⟩ := trodAll_nil r1
  obtain rfl : args = #[v0, v1] := by cases args; simp_all
  obtain ⟨rfl, rfl⟩ := trodVars_none hV
  obtain ⟨A0, a0, c0, rfl, w0⟩ := open_strs Try.underlying22 Try.underlying9 (by kernel_rfl) (hval 0 22 v0 rfl rfl) h0
  obtain ⟨a1, rfl, rfl, rfl, w1⟩ := open_string Try.underlying9 (hval 1 9 v1 rfl rfl) h1
  clear hA0 hval0
  refine (seekBounds_walk (w := W) w0 a1 w1).mono fun e W' ⟨he, bel⟩ => ?_
  subst he
  exact ⟨_, rfl, _, _, _, [], _, [], hW', trodAll_mk1 (shut_bool Try.underlying4 _), trodAll_below laidOut bel _ _ _ _ (by kernel_rfl) hA1, rfl, bel.frame _, fun h => by cases h⟩

theorem seekBounds_over : Rows.seekBoundsRow.holds Try.pinned (OpenSpec.ofChange Rows.seekBoundsSpec) :=
  OpenClaim.holds_of_wide 6 Try.f6 rfl rfl rfl rfl rfl rfl rfl ⟨rfl, rfl, rfl, rfl, rfl⟩ rfl rfl rfl rfl rfl (by kernel_rfl) Try.func6 (by kernel_rfl)
    (of_decide_eq_true (by kernel_rfl)) (by unfold Func.isWrapper; first | (rw [if_pos (by decide +kernel)]; kernel_rfl) | (rw [if_neg (by decide +kernel)]; exact ⟨rfl, rfl⟩))
    (fun os started H enc _ => seekBounds_lifted os started H enc)

/-- The statement. -/
theorem seekBounds_proved : Rows.SeekBoundsSaid := seekBounds_over


end Go.Proofs.Ytihlbcnoficpgaa
