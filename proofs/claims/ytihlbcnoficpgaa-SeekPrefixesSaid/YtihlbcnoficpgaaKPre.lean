/-
  Proved: SeekPrefixes of layer 14: of whatever dictionary and string: the range of what begins with it; what came in reads as it did. Conditions: none of our own.
-/
import Derived.Test.YtihlbcnoficpgaaSkW
import Derived.Test.YtihlbcnoficpgaaShellT
import Derived.Test.YtihlbcnoficpgaaShell
import Derived.Test.YtihlbcnoficpgaaShPre
namespace Go.Proofs.Ytihlbcnoficpgaa
set_option linter.unusedSimpArgs false
set_option linter.unusedVariables false
open Go.ChangeShapes Go.WideShapes Go.ChangeAt Go.RowKit
open Go.ChangeMaps (open_string shut_string)

set_option maxRecDepth 20000 in
set_option maxHeartbeats 4000000 in
theorem seekPrefixes_walk {w : World} {A : Option Addr} {l : List ByteArray} {c : Nat} (h : Rd w 0 w.heap.size A c (sv l) ∧ ∀ s ∈ l, s.size ≤ maxLen) (s : ByteArray) (hs : s.size ≤ 9223372036854775807) :
    Calls Try.prog 4 #[.slice A l.length c, .string s] w fun e w' => e = .returned (.bool true) ∧ Below w.heap.size w w' := by
  obtain ⟨h, -⟩ := h
  have Hl_w := Lib.hid h
  have hl := h.len
  have hm := h.cap
  rw [sv_length] at hl
  unfold maxLen at hm
  clear h
  go_enter Try.func4, Try.ntmps4
  go_wp2_with fail
  refine (dict_any l Hl_w.out).mono ?_
  rintro r w1 ⟨b_w1, (⟨rfl, hno⟩ | ⟨dm, tm, Am, cm, rfl, hM⟩)⟩
  · have HNO := Lib.hid hno
    clear hno
    have Hl_w1 := Lib.hid ((Hl_w.out.below b_w1 (Nat.le_refl _)).wide (Nat.zero_le _) b_w1.size)
    have HB_w1 := Lib.hid b_w1
    have S_w1 := HB_w1.out.size
    clear b_w1 Hl_w   
    go_wp2_with fail
    refine (awake14_any (w := _)).mono ?_
    rintro r w2 ⟨rfl, b_w2⟩
    have Hl_w2 := Lib.hid ((Hl_w1.out.below b_w2 (Nat.le_refl _)).wide (Nat.zero_le _) b_w2.size)
    have HB_w2 := Lib.hid (below_below HB_w1.out b_w2 S_w1)
    have S_w2 := HB_w2.out.size
    clear b_w2 Hl_w1 HB_w1   
    go_wp2_with fail
    refine (awake14_any (w := _)).mono ?_
    rintro r w3 ⟨rfl, b_w3⟩
    have Hl_w3 := Lib.hid ((Hl_w2.out.below b_w3 (Nat.le_refl _)).wide (Nat.zero_le _) b_w3.size)
    have HB_w3 := Lib.hid (below_below HB_w2.out b_w3 S_w2)
    have S_w3 := HB_w3.out.size
    clear b_w3 Hl_w2 HB_w2   
    go_wp2_with fail
    go_ret
    exact ⟨rfl, HB_w3.out⟩
  · have HMN := Lib.hid hM
    clear hM
    have Hl_w1 := Lib.hid ((Hl_w.out.below b_w1 (Nat.le_refl _)).wide (Nat.zero_le _) b_w1.size)
    have HB_w1 := Lib.hid b_w1
    have S_w1 := HB_w1.out.size
    clear b_w1 Hl_w   
    have HMm_w1 := Lib.hid HMN.out
    clear HMN
    have hlenm := HMm_w1.out.len
    have hrlm := HMm_w1.out.rd.len
    have hrcm := HMm_w1.out.rd.cap
    rw [sv_length] at hrlm
    unfold maxLen at hrcm
    have HRIm := Lib.hid (HMm_w1.out.dk.rises)
    have HSIm := Lib.hid (HMm_w1.out.size)
    go_wp2_with fail
    by_cases hs5 : s.size ≤ 5000
    · have i5 : ¬ (5000 : Int) < (s.size : Int) := by omega
      refine (awake14_any (w := _)).mono ?_
      rintro r w2 ⟨rfl, b_w2⟩
      have HMm_w2 := Lib.hid (HMm_w1.out.below b_w2)
      have Hl_w2 := Lib.hid ((Hl_w1.out.below b_w2 (Nat.le_refl _)).wide (Nat.zero_le _) b_w2.size)
      have HB_w2 := Lib.hid (below_below HB_w1.out b_w2 S_w1)
      have S_w2 := HB_w2.out.size
      clear b_w2 Hl_w1 HB_w1  HMm_w1 
      go_wp2_with fail
      obtain ⟨lo, hlo⟩ : ∃ n, lowN (bytL2 tm) s.data.toList = n := ⟨_, rfl⟩
      obtain ⟨pe, hpe⟩ : ∃ n, preN (bytL2 tm) s.data.toList = n := ⟨_, rfl⟩
      have hlp := low_pre HRIm.out s.data.toList
      have hple := preN_le (bytL2 tm) s.data.toList
      rw [hlo, hpe] at hlp
      rw [hpe, bytL2_length] at hple
      have HLO := Lib.hid hlo
      have HPE := Lib.hid hpe
      have HTH : Hid (∀ i (hi : i < tm.length), begL s.data.toList tm[i].data.toList = decide (lo ≤ i ∧ i < pe)) := fun i hi => by
        have h1 := pre_iff HRIm.out s.data.toList (i := i) (by rw [bytL2_length]; exact hi)
        rw [bytL2_get tm i hi, hlo, hpe] at h1
        rw [Bool.eq_iff_iff, decide_eq_true_eq]
        exact h1
      clear hlo hpe
      refine (spre_is HMm_w2.out.dk s lo pe (by omega) HLO.out HPE.out).mono ?_
      rintro r w3 ⟨rfl, b_w3⟩
      have HMm_w3 := Lib.hid (HMm_w2.out.below b_w3)
      have Hl_w3 := Lib.hid ((Hl_w2.out.below b_w3 (Nat.le_refl _)).wide (Nat.zero_le _) b_w3.size)
      have HB_w3 := Lib.hid (below_below HB_w2.out b_w3 S_w2)
      have S_w3 := HB_w3.out.size
      clear b_w3 Hl_w2 HB_w2  HMm_w2 
      go_wp2_with fail
      refine (slow_is HMm_w3.out.dk s lo (by omega) HLO.out).mono ?_
      rintro r w4 ⟨rfl, b_w4⟩
      have HMm_w4 := Lib.hid (HMm_w3.out.below b_w4)
      have Hl_w4 := Lib.hid ((Hl_w3.out.below b_w4 (Nat.le_refl _)).wide (Nat.zero_le _) b_w4.size)
      have HB_w4 := Lib.hid (below_below HB_w3.out b_w4 S_w3)
      have S_w4 := HB_w4.out.size
      clear b_w4 Hl_w3 HB_w3  HMm_w3 
      have i1 : ¬ (pe : Int) < (lo : Int) := by omega
      have d1 : decide (pe < lo) = false := decide_eq_false (by omega)
      have i2 : ¬ (tm.length : Int) < (pe : Int) := by omega
      have d2 : decide (tm.length < pe) = false := decide_eq_false (by omega)
      go_wp2_with fail
      go_loopw [4, 10] (fun x4 x10 wr => ∃ i : Nat, ∃ e : Bool, i ≤ tm.length ∧ x4 = .bool e ∧ x10 = .int .i64 (i : Int) ∧ wr = w4) (fun _ i _ => tm.length - (intOf i).toNat)
      case atStart => exact ⟨0, _, Nat.zero_le _, rfl, rfl, rfl⟩
      case round =>
        obtain ⟨i, e, hi, rfl, rfl, rfl⟩ := hrel
        by_cases hlt : i < tm.length
        · have ii : (i : Int) < (tm.length : Int) := by omega
          have hbe := HTH.out i hlt
          obtain ⟨bt, off, hA2, _, hbt, hcell⟩ := HMm_w4.out.rd.str hlt
          have HPR := Lib.hid (fun w => hpre_any (w := w) tm[i] s)
          rw [hbe] at HPR
          generalize tm[i] = x at *
          subst hA2
          clear hbe
          by_cases hklt : i < lo
          · have f : decide (lo ≤ i ∧ i < pe) = false := decide_eq_false (by omega)
            have j1 : ¬ (lo : Int) ≤ (i : Int) := by omega
            have e1 : decide (lo ≤ i) = false := decide_eq_false (by omega)
            rw [f] at HPR
            clear f
            go_wp2_with fail
            refine (HPR.out _).mono ?_
            rintro r wq ⟨rfl, rfl⟩
            go_wp2_with fail
            go_roundw
            case rel => exact ⟨i + 1, _, by omega, rfl, by go_num, trivial⟩
            case measure => simp [intOf] <;> omega
          · skip
            by_cases hkin : i < pe
            · have f : decide (lo ≤ i ∧ i < pe) = true := decide_eq_true (by omega)
              have j1 : (lo : Int) ≤ (i : Int) := by omega
              have e1 : decide (lo ≤ i) = true := decide_eq_true (by omega)
              have j2 : (i : Int) < (pe : Int) := by omega
              have e2 : decide (i < pe) = true := decide_eq_true (by omega)
              rw [f] at HPR
              clear f
              go_wp2_with fail
              refine (HPR.out _).mono ?_
              rintro r wq ⟨rfl, rfl⟩
              go_wp2_with fail
              go_roundw
              case rel => exact ⟨i + 1, _, by omega, rfl, by go_num, trivial⟩
              case measure => simp [intOf] <;> omega
            · have f : decide (lo ≤ i ∧ i < pe) = false := decide_eq_false (by omega)
              have j1 : (lo : Int) ≤ (i : Int) := by omega
              have e1 : decide (lo ≤ i) = true := decide_eq_true (by omega)
              have j2 : ¬ (i : Int) < (pe : Int) := by omega
              have e2 : decide (i < pe) = false := decide_eq_false (by omega)
              rw [f] at HPR
              clear f
              go_wp2_with fail
              refine (HPR.out _).mono ?_
              rintro r wq ⟨rfl, rfl⟩
              go_wp2_with fail
              go_roundw
              case rel => exact ⟨i + 1, _, by omega, rfl, by go_num, trivial⟩
              case measure => simp [intOf] <;> omega
        · have ii : ¬ (i : Int) < (tm.length : Int) := by omega
          go_wp2_with fail
          go_ret
          exact ⟨rfl, HB_w4.out⟩
    · have i5 : (5000 : Int) < (s.size : Int) := by omega
      refine (awake14_any (w := _)).mono ?_
      rintro r w2 ⟨rfl, b_w2⟩
      have HMm_w2 := Lib.hid (HMm_w1.out.below b_w2)
      have Hl_w2 := Lib.hid ((Hl_w1.out.below b_w2 (Nat.le_refl _)).wide (Nat.zero_le _) b_w2.size)
      have HB_w2 := Lib.hid (below_below HB_w1.out b_w2 S_w1)
      have S_w2 := HB_w2.out.size
      clear b_w2 Hl_w1 HB_w1  HMm_w1 
      go_wp2_with fail
      refine (awake14_any (w := _)).mono ?_
      rintro r w3 ⟨rfl, b_w3⟩
      have HMm_w3 := Lib.hid (HMm_w2.out.below b_w3)
      have Hl_w3 := Lib.hid ((Hl_w2.out.below b_w3 (Nat.le_refl _)).wide (Nat.zero_le _) b_w3.size)
      have HB_w3 := Lib.hid (below_below HB_w2.out b_w3 S_w2)
      have S_w3 := HB_w3.out.size
      clear b_w3 Hl_w2 HB_w2  HMm_w2 
      go_wp2_with fail
      go_ret
      exact ⟨rfl, HB_w3.out⟩

set_option maxRecDepth 100000 in
theorem seekPrefixes_lifted (os : Os) (started : os.Started) (H : Type) (enc : TypeId × Value → H) :
    ReturnsInHanded {} Try.checked os 4 .any (Rows.seekPrefixesSpec.pre6 enc Try.prog Try.f4 Rows.seekPrefixesRow.domain false) (Rows.seekPrefixesSpec.post enc Try.prog Try.f4 false true false false) := by
  refine returnsInHanded_of_change (C := Try.checked) own started (by kernel_rfl) Try.func4
    (ChangeSpec.witness6 (enc := enc) (C := Try.checked) false ⟨#[], #[.slice none 0 0, .string ByteArray.empty], []⟩ 8 (by kernel_rfl) (by kernel_rfl) (by kernel_rfl) (by kernel_rfl)) ?_
  intro W base args ds gs before hval0 hW hcnd _
  have hval : ∀ (j : Nat) t v, Try.f4.params[j]? = some t → args[j]? = some v → Value.okWide Try.prog W .any base t v := hval0
  have hW' := hW
  obtain ⟨p, q, hA0, hV, rfl, hfz, hnd⟩ := hW
  have hA : DataW.TrodAll enc Try.prog W 0 (fun _ => true) true Try.f4.params.toList args.toList ds p := hA0
  have hA1 : DataW.TrodAll enc Try.prog W 0 (fun _ => true) true Try.f4.params.toList args.toList ds p := hA0
  rw [Try.params4] at hA hval
  obtain ⟨v0, vs0, d0, ds0, p0, q0, hargs, rfl, rfl, h0, r0⟩ := trodAll_cons hA
  obtain ⟨v1, vs1, d1, ds1, p1, q1, rfl, rfl, rfl, h1, r1⟩ := trodAll_cons r0
  obtain ⟨rfl, rfl, rfl⟩ := trodAll_nil r1
  obtain rfl : args = #[v0, v1] := by cases args; simp_all
  obtain ⟨rfl, rfl⟩ := trodVars_none hV
  obtain ⟨A0, a0, c0, rfl, w0⟩ := open_strs Try.underlying22 Try.underlying9 (by kernel_rfl) (hval 0 22 v0 rfl rfl) h0
  obtain ⟨a1, rfl, rfl, rfl, w1⟩ := open_string Try.underlying9 (hval 1 9 v1 rfl rfl) h1
  clear hA0 hval0
  refine (seekPrefixes_walk (w := W) w0 a1 w1).mono fun e W' ⟨he, bel⟩ => ?_
  subst he
  exact ⟨_, rfl, _, _, _, [], _, [], hW', trodAll_mk1 (shut_bool Try.underlying4 _), trodAll_below laidOut bel _ _ _ _ (by kernel_rfl) hA1, rfl, bel.frame _, fun h => by cases h⟩

theorem seekPrefixes_over : Rows.seekPrefixesRow.holds Try.pinned (OpenSpec.ofChange Rows.seekPrefixesSpec) :=
  OpenClaim.holds_of_wide 4 Try.f4 rfl rfl rfl rfl rfl rfl rfl ⟨rfl, rfl, rfl, rfl, rfl⟩ rfl rfl rfl rfl rfl (by kernel_rfl) Try.func4 (by kernel_rfl)
    (of_decide_eq_true (by kernel_rfl)) (by unfold Func.isWrapper; first | (rw [if_pos (by decide +kernel)]; kernel_rfl) | (rw [if_neg (by decide +kernel)]; exact ⟨rfl, rfl⟩))
    (fun os started H enc _ => seekPrefixes_lifted os started H enc)

/-- The statement. -/
theorem seekPrefixes_proved : Rows.SeekPrefixesSaid := seekPrefixes_over


end Go.Proofs.Ytihlbcnoficpgaa
