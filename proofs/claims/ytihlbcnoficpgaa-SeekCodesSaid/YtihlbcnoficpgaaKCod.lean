/-
  Proved: SeekCodes of layer 14: of whatever dictionary and string: its code, and bounds; what came in reads as it did. Conditions: none of our own.
-/
import Derived.Test.YtihlbcnoficpgaaSkW
import Derived.Test.YtihlbcnoficpgaaShellT
import Derived.Test.YtihlbcnoficpgaaShell
namespace Go.Proofs.Ytihlbcnoficpgaa
set_option linter.unusedSimpArgs false
set_option linter.unusedVariables false
open Go.ChangeShapes Go.WideShapes Go.ChangeAt Go.RowKit
open Go.ChangeMaps (open_string shut_string)

set_option maxRecDepth 20000 in
set_option maxHeartbeats 4000000 in
theorem seekCodes_walk {w : World} {A : Option Addr} {l : List ByteArray} {c : Nat} (h : Rd w 0 w.heap.size A c (sv l) ∧ ∀ s ∈ l, s.size ≤ maxLen) (s : ByteArray) (hs : s.size ≤ 9223372036854775807) :
    Calls Try.prog 3 #[.slice A l.length c, .string s] w fun e w' => e = .returned (.bool true) ∧ Below w.heap.size w w' := by
  obtain ⟨h, -⟩ := h
  have Hl_w := Lib.hid h
  have hl := h.len
  have hm := h.cap
  rw [sv_length] at hl
  unfold maxLen at hm
  clear h
  go_enter Try.func3, Try.ntmps3
  go_wp2_with fail
  refine (dict_any l Hl_w.out).mono ?_
  rintro r w1 ⟨b_w1, (⟨rfl, hno⟩ | ⟨dm, tm, Am, cm, rfl, hM⟩)⟩
  · have HNO := Lib.hid hno
    clear hno
    have Hl_w1 := Lib.hid ((Hl_w.out.below b_w1 (Nat.le_refl _)).wide (Nat.zero_le _) b_w1.size)
    have HB_w1 := Lib.hid b_w1
    have S_w1 := HB_w1.out.size
    clear b_w1 Hl_w   
    go_wp2_with fail
    refine (awake14_any (w := _)).mono ?_
    rintro r w2 ⟨rfl, b_w2⟩
    have Hl_w2 := Lib.hid ((Hl_w1.out.below b_w2 (Nat.le_refl _)).wide (Nat.zero_le _) b_w2.size)
    have HB_w2 := Lib.hid (below_below HB_w1.out b_w2 S_w1)
    have S_w2 := HB_w2.out.size
    clear b_w2 Hl_w1 HB_w1   
    go_wp2_with fail
    refine (awake14_any (w := _)).mono ?_
    rintro r w3 ⟨rfl, b_w3⟩
    have Hl_w3 := Lib.hid ((Hl_w2.out.below b_w3 (Nat.le_refl _)).wide (Nat.zero_le _) b_w3.size)
    have HB_w3 := Lib.hid (below_below HB_w2.out b_w3 S_w2)
    have S_w3 := HB_w3.out.size
    clear b_w3 Hl_w2 HB_w2   
    go_wp2_with fail
    go_ret
    exact ⟨rfl, HB_w3.out⟩
  · have HMN := Lib.hid hM
    clear hM
    have Hl_w1 := Lib.hid ((Hl_w.out.below b_w1 (Nat.le_refl _)).wide (Nat.zero_le _) b_w1.size)
    have HB_w1 := Lib.hid b_w1
    have S_w1 := HB_w1.out.size
    clear b_w1 Hl_w   
    have HMm_w1 := Lib.hid HMN.out
    clear HMN
    have hlenm := HMm_w1.out.len
    have hrlm := HMm_w1.out.rd.len
    have hrcm := HMm_w1.out.rd.cap
    rw [sv_length] at hrlm
    unfold maxLen at hrcm
    have HRIm := Lib.hid (HMm_w1.out.dk.rises)
    have HSIm := Lib.hid (HMm_w1.out.size)
    go_wp2_with fail
    by_cases hs5 : s.size ≤ 5000
    · have i5 : ¬ (5000 : Int) < (s.size : Int) := by omega
      refine (awake14_any (w := _)).mono ?_
      rintro r w2 ⟨rfl, b_w2⟩
      have HMm_w2 := Lib.hid (HMm_w1.out.below b_w2)
      have Hl_w2 := Lib.hid ((Hl_w1.out.below b_w2 (Nat.le_refl _)).wide (Nat.zero_le _) b_w2.size)
      have HB_w2 := Lib.hid (below_below HB_w1.out b_w2 S_w1)
      have S_w2 := HB_w2.out.size
      clear b_w2 Hl_w1 HB_w1  HMm_w1 
      go_wp2_with fail
      obtain ⟨lo, hlo⟩ : ∃ n, lowN (bytL2 tm) s.data.toList = n := ⟨_, rfl⟩
      obtain ⟨up, hup⟩ : ∃ n, upN (bytL2 tm) s.data.toList = n := ⟨_, rfl⟩
      have hlu := low_up HRIm.out s.data.toList
      have hule := upN_le (bytL2 tm) s.data.toList
      rw [hlo, hup] at hlu
      rw [hup, bytL2_length] at hule
      have HLO := Lib.hid hlo
      have HUP := Lib.hid hup
      have HTH : Hid (∀ i (hi : i < tm.length), (cmpL tm[i].data.toList s.data.toList < 0 ↔ i < lo) ∧ (cmpL tm[i].data.toList s.data.toList ≤ 0 ↔ i < up)) := fun i hi => by
        have h1 := lowN_iff HRIm.out s.data.toList (i := i) (by rw [bytL2_length]; exact hi)
        have h2 := upN_iff HRIm.out s.data.toList (i := i) (by rw [bytL2_length]; exact hi)
        rw [bytL2_get tm i hi, hlo] at h1
        rw [bytL2_get tm i hi, hup] at h2
        exact ⟨h1, h2⟩
      clear hlo hup
      go_loopw [8, 9, 10, 11] (fun x8 x9 x10 x11 wr => ∃ i m : Nat, ∃ a : Int, i ≤ tm.length ∧ x11 = .int .i64 (i : Int) ∧ x8 = .int .i64 ((min i lo : Nat) : Int) ∧ x9 = .int .i64 ((min i up : Nat) : Int) ∧ x10 = .int .i64 a ∧ a = (if lo < up ∧ lo < i then (lo : Int) else -1) ∧ wr = w2.drewN m) (fun _ _ _ i _ => tm.length - (intOf i).toNat)
      case atStart => exact ⟨0, 0, -1, Nat.zero_le _, rfl, by simp, by simp, rfl, by rw [if_neg (by omega)], rfl⟩
      case round =>
        obtain ⟨i, m, a, hi, rfl, rfl, rfl, rfl, ha, rfl⟩ := hrel
        have HA := Lib.hid ha
        by_cases hlt : i < tm.length
        · have ii : (i : Int) < (tm.length : Int) := by omega
          have hab : -1 ≤ a ∧ a ≤ 200 := by rw [ha]; split <;> omega
          have hts := HSIm.out tm[i] (List.getElem_mem hlt)
          obtain ⟨hc1, hc2⟩ := HTH.out i hlt
          obtain ⟨bt, off, hA2, _, hbt, hcell⟩ := HMm_w2.out.rd.str hlt
          have HCM := Lib.hid (fun w => refCompare_any (w := w) tm[i] s (by omega) (by omega))
          generalize cmpL tm[i].data.toList s.data.toList = z at *
          generalize tm[i] = x at *
          subst hA2
          clear ha
          rcases Int.lt_trichotomy z 0 with hz | hz | hz
          · have hil := hc1.1 hz
            have hiu := hc2.1 (by omega)
            have d1 : decide (z < 0) = true := decide_eq_true hz
            have i2 : z ≤ 0 := by omega
            have d2 : decide (z ≤ 0) = true := decide_eq_true i2
            have i3 : ¬ z = 0 := by omega
            have b3 : (z == 0) = false := beq_eq_false_iff_ne.2 i3
            have e1 : (min i lo : Nat) + 1 = min (i + 1) lo := by omega
            have e2 : (min i up : Nat) + 1 = min (i + 1) up := by omega
            have hn : a = if lo < up ∧ lo < i + 1 then (lo : Int) else -1 := by rw [HA.out, if_neg (by omega), if_neg (by omega)]
            have E1 := Lib.hid e1
            have E2 := Lib.hid e2
            have HN := Lib.hid hn
            have hmi : (min i lo : Nat) ≤ 200 := by omega
            have hmu : (min i up : Nat) ≤ 200 := by omega
            clear e1 e2 hn hc1 hc2 hil hiu
            generalize (min i lo : Nat) = p at *
            generalize (min i up : Nat) = q at *
            go_wp2_with fail
            refine (HCM.out _).mono ?_
            rintro r wq ⟨rfl, m2, rfl⟩
            go_wp2_with fail
            go_roundw
            case rel => exact ⟨i + 1, m + m2, a, by omega, by go_num, by rw [← E1.out] <;> go_num, by rw [← E2.out] <;> go_num, rfl, HN.out, by first | rfl | (rw [World.drewN_drewN])⟩
            case measure => simp [intOf] <;> omega
          · have hil : ¬ i < lo := fun h => by have := hc1.2 h; omega
            have hiu := hc2.1 (by omega)
            have i1 : ¬ z < 0 := by omega
            have d1 : decide (z < 0) = false := decide_eq_false i1
            have i2 : z ≤ 0 := by omega
            have d2 : decide (z ≤ 0) = true := decide_eq_true i2
            have b3 : (z == 0) = true := beq_iff_eq.2 hz
            have e1 : (min i lo : Nat) = min (i + 1) lo := by omega
            have e2 : (min i up : Nat) + 1 = min (i + 1) up := by omega
            have hn : (i : Int) = if lo < up ∧ lo < i + 1 then (lo : Int) else -1 := by rw [if_pos (by omega)]; omega
            have E1 := Lib.hid e1
            have E2 := Lib.hid e2
            have HN := Lib.hid hn
            have hmi : (min i lo : Nat) ≤ 200 := by omega
            have hmu : (min i up : Nat) ≤ 200 := by omega
            clear e1 e2 hn hc1 hc2 hil hiu hz
            generalize (min i lo : Nat) = p at *
            generalize (min i up : Nat) = q at *
            go_wp2_with fail
            refine (HCM.out _).mono ?_
            rintro r wq ⟨rfl, m2, rfl⟩
            go_wp2_with fail
            go_roundw
            case rel => exact ⟨i + 1, m + m2, (i : Int), by omega, by go_num, by rw [← E1.out] <;> go_num, by rw [← E2.out] <;> go_num, rfl, HN.out, by first | rfl | (rw [World.drewN_drewN])⟩
            case measure => simp [intOf] <;> omega
          · have hil : ¬ i < lo := fun h => by have := hc1.2 h; omega
            have hiu : ¬ i < up := fun h => by have := hc2.2 h; omega
            have i1 : ¬ z < 0 := by omega
            have d1 : decide (z < 0) = false := decide_eq_false i1
            have i2 : ¬ z ≤ 0 := by omega
            have d2 : decide (z ≤ 0) = false := decide_eq_false i2
            have i3 : ¬ z = 0 := by omega
            have b3 : (z == 0) = false := beq_eq_false_iff_ne.2 i3
            have e1 : (min i lo : Nat) = min (i + 1) lo := by omega
            have e2 : (min i up : Nat) = min (i + 1) up := by omega
            have hn : a = if lo < up ∧ lo < i + 1 then (lo : Int) else -1 := by rw [HA.out]; split <;> split <;> omega
            have E1 := Lib.hid e1
            have E2 := Lib.hid e2
            have HN := Lib.hid hn
            have hmi : (min i lo : Nat) ≤ 200 := by omega
            have hmu : (min i up : Nat) ≤ 200 := by omega
            clear e1 e2 hn hc1 hc2 hil hiu
            generalize (min i lo : Nat) = p at *
            generalize (min i up : Nat) = q at *
            go_wp2_with fail
            refine (HCM.out _).mono ?_
            rintro r wq ⟨rfl, m2, rfl⟩
            go_wp2_with fail
            go_roundw
            case rel => exact ⟨i + 1, m + m2, a, by omega, by go_num, by rw [← E1.out] <;> go_num, by rw [← E2.out] <;> go_num, rfl, HN.out, by first | rfl | (rw [World.drewN_drewN])⟩
            case measure => simp [intOf] <;> omega
        · have ii : ¬ (i : Int) < (tm.length : Int) := by omega
          have hie : i = tm.length := by omega
          have e1 : (min i lo : Nat) = lo := by omega
          have e2 : (min i up : Nat) = up := by omega
          rw [e1, e2]
          have ha2 : a = if lo < up then (lo : Int) else -1 := by
            rw [ha]
            by_cases h1 : lo < up
            · rw [if_pos h1, if_pos (by omega)]
            · rw [if_neg h1, if_neg (by omega)]
          clear ha e1 e2 hie HA
          have HM3 := Lib.hid (HMm_w2.out.drewN m)
          by_cases hin : lo < up
          · rw [if_pos hin] at ha2
            subst ha2
            have HIS : Hid (isN (bytL2 tm) s.data.toList = true) := by unfold Hid isN; rw [HLO.out, HUP.out]; exact decide_eq_true hin
            have HCO : Hid (codeN (bytL2 tm) s.data.toList = lo) := by unfold Hid codeN; rw [HLO.out, HUP.out, if_pos hin]
            go_wp2_with fail
            refine (scode_is HM3.out.dk s lo true (by omega) HCO.out HIS.out).mono ?_
            rintro r w4 ⟨rfl, b4⟩
            have HM4 := Lib.hid (HM3.out.below b4)
            have HB4 : Hid (Below w2.heap.size w2 w4) := (below_drewN' (Below.refl _ w2) m).trans b4
            clear b4
            go_wp2_with fail
            refine (slow_is HM4.out.dk s lo (by omega) HLO.out).mono ?_
            rintro r w5 ⟨rfl, b5⟩
            have HM5 := Lib.hid (HM4.out.below b5)
            have HB5 := Lib.hid (HB4.out.trans (b5.mono HB4.out.size))
            clear b5
            go_wp2_with fail
            refine (sup_is HM5.out.dk s up (by omega) HUP.out).mono ?_
            rintro r w6 ⟨rfl, b6⟩
            have HB6 := Lib.hid (HB5.out.trans (b6.mono HB5.out.size))
            clear b6
            go_wp2_with fail
            go_ret
            exact ⟨rfl, below_below HB_w2.out HB6.out S_w2⟩
          · rw [if_neg hin] at ha2
            subst ha2
            have HIS : Hid (isN (bytL2 tm) s.data.toList = false) := by unfold Hid isN; rw [HLO.out, HUP.out]; exact decide_eq_false hin
            have HCO : Hid (codeN (bytL2 tm) s.data.toList = 0) := by unfold Hid codeN; rw [HLO.out, HUP.out, if_neg hin]
            go_wp2_with fail
            refine (scode_is HM3.out.dk s 0 false (by omega) HCO.out HIS.out).mono ?_
            rintro r w4 ⟨rfl, b4⟩
            have HM4 := Lib.hid (HM3.out.below b4)
            have HB4 : Hid (Below w2.heap.size w2 w4) := (below_drewN' (Below.refl _ w2) m).trans b4
            clear b4
            go_wp2_with fail
            refine (slow_is HM4.out.dk s lo (by omega) HLO.out).mono ?_
            rintro r w5 ⟨rfl, b5⟩
            have HM5 := Lib.hid (HM4.out.below b5)
            have HB5 := Lib.hid (HB4.out.trans (b5.mono HB4.out.size))
            clear b5
            go_wp2_with fail
            refine (sup_is HM5.out.dk s up (by omega) HUP.out).mono ?_
            rintro r w6 ⟨rfl, b6⟩
            have HB6 := Lib.hid (HB5.out.trans (b6.mono HB5.out.size))
            clear b6
            go_wp2_with fail
            go_ret
            exact ⟨rfl, below_below HB_w2.out HB6.out S_w2⟩
    · have i5 : (5000 : Int) < (s.size : Int) := by omega
      refine (awake14_any (w := _)).mono ?_
      rintro r w2 ⟨rfl, b_w2⟩
      have HMm_w2 := Lib.hid (HMm_w1.out.below b_w2)
      have Hl_w2 := Lib.hid ((Hl_w1.out.below b_w2 (Nat.le_refl _)).wide (Nat.zero_le _) b_w2.size)
      have HB_w2 := Lib.hid (below_below HB_w1.out b_w2 S_w1)
      have S_w2 := HB_w2.out.size
      clear b_w2 Hl_w1 HB_w1  HMm_w1 
      go_wp2_with fail
      refine (awake14_any (w := _)).mono ?_
      rintro r w3 ⟨rfl, b_w3⟩
      have HMm_w3 := Lib.hid (HMm_w2.out.below b_w3)
      have Hl_w3 := Lib.hid ((Hl_w2.out.below b_w3 (Nat.le_refl _)).wide (Nat.zero_le _) b_w3.size)
      have HB_w3 := Lib.hid (below_below HB_w2.out b_w3 S_w2)
      have S_w3 := HB_w3.out.size
      clear b_w3 Hl_w2 HB_w2  HMm_w2 
      go_wp2_with fail
      go_ret
      exact ⟨rfl, HB_w3.out⟩

set_option maxRecDepth 100000 in
theorem seekCodes_lifted (os : Os) (started : os.Started) (H : Type) (enc : TypeId × Value → H) :
    ReturnsInHanded {} Try.checked os 3 .any (Rows.seekCodesSpec.pre6 enc Try.prog Try.f3 Rows.seekCodesRow.domain false) (Rows.seekCodesSpec.post enc Try.prog Try.f3 false true false false) := by
  refine returnsInHanded_of_change (C := Try.checked) own started (by kernel_rfl) Try.func3
    (ChangeSpec.witness6 (enc := enc) (C := Try.checked) false ⟨#[], #[.slice none 0 0, .string ByteArray.empty], []⟩ 8 (by kernel_rfl) (by kernel_rfl) (by kernel_rfl) (by kernel_rfl)) ?_
  intro W base args ds gs before hval0 hW hcnd _
  have hval : ∀ (j : Nat) t v, Try.f3.params[j]? = some t → args[j]? = some v → Value.okWide Try.prog W .any base t v := hval0
  have hW' := hW
  obtain ⟨p, q, hA0, hV, rfl, hfz, hnd⟩ := hW
  have hA : DataW.TrodAll enc Try.prog W 0 (fun _ => true) true Try.f3.params.toList args.toList ds p := hA0
  have hA1 : DataW.TrodAll enc Try.prog W 0 (fun _ => true) true Try.f3.params.toList args.toList ds p := hA0
  rw [Try.params3] at hA hval
  obtain ⟨v0, vs0, d0, ds0, p0, q0, hargs, rfl, rfl, h0, r0⟩ := trodAll_cons hA
  obtain ⟨v1, vs1, d1, ds1, p1, q1, rfl, rfl, rfl, h1, r1⟩ := trodAll_cons r0
  obtain ⟨rfl, rfl, rfl⟩ := trodAll_nil r1
  obtain rfl : args = #[v0, v1] := by cases args; simp_all
  obtain ⟨rfl, rfl⟩ := trodVars_none hV
  obtain ⟨A0, a0, c0, rfl, w0⟩ := open_strs Try.underlying22 Try.underlying9 (by kernel_rfl) (hval 0 22 v0 rfl rfl) h0
  obtain ⟨a1, rfl, rfl, rfl, w1⟩ := open_string Try.underlying9 (hval 1 9 v1 rfl rfl) h1
  clear hA0 hval0
  refine (seekCodes_walk (w := W) w0 a1 w1).mono fun e W' ⟨he, bel⟩ => ?_
  subst he
  exact ⟨_, rfl, _, _, _, [], _, [], hW', trodAll_mk1 (shut_bool Try.underlying4 _), trodAll_below laidOut bel _ _ _ _ (by kernel_rfl) hA1, rfl, bel.frame _, fun h => by cases h⟩

theorem seekCodes_over : Rows.seekCodesRow.holds Try.pinned (OpenSpec.ofChange Rows.seekCodesSpec) :=
  OpenClaim.holds_of_wide 3 Try.f3 rfl rfl rfl rfl rfl rfl rfl ⟨rfl, rfl, rfl, rfl, rfl⟩ rfl rfl rfl rfl rfl (by kernel_rfl) Try.func3 (by kernel_rfl)
    (of_decide_eq_true (by kernel_rfl)) (by unfold Func.isWrapper; first | (rw [if_pos (by decide +kernel)]; kernel_rfl) | (rw [if_neg (by decide +kernel)]; exact ⟨rfl, rfl⟩))
    (fun os started H enc _ => seekCodes_lifted os started H enc)

/-- The statement. -/
theorem seekCodes_proved : Rows.SeekCodesSaid := seekCodes_over


end Go.Proofs.Ytihlbcnoficpgaa
