/-
  Proved: SeekMaps of layer 14: of whatever two dictionaries: codes of the one in the other; both, put together; what came in reads as it did. Conditions: none of our own.
-/
import Derived.Test.YtihlbcnoficpgaaSkW
import Derived.Test.YtihlbcnoficpgaaShellT
import Derived.Test.YtihlbcnoficpgaaShell
import Derived.Test.YtihlbcnoficpgaaSkK
import Derived.BigQuiet
namespace Go.Proofs.Ytihlbcnoficpgaa
set_option linter.unusedSimpArgs false
set_option linter.unusedVariables false
open Go.ChangeShapes Go.WideShapes Go.ChangeAt Go.RowKit
open Go.ChangeMaps (open_string shut_string)

set_option maxRecDepth 20000 in
set_option maxHeartbeats 4000000 in
theorem seekMaps_walk {w : World} {A : Option Addr} {a : List ByteArray} {c : Nat} (h : Rd w 0 w.heap.size A c (sv a) ∧ ∀ s ∈ a, s.size ≤ maxLen) {B : Option Addr} {b : List ByteArray} {d : Nat} (h2 : Rd w 0 w.heap.size B d (sv b) ∧ ∀ s ∈ b, s.size ≤ maxLen) :
    Calls Try.prog 5 #[.slice A a.length c, .slice B b.length d] w fun e w' => e = .returned (.bool true) ∧ Below w.heap.size w w' := by
  obtain ⟨h, -⟩ := h
  have Ha_w := Lib.hid h
  have hl := h.len
  have hm := h.cap
  rw [sv_length] at hl
  unfold maxLen at hm
  clear h
  obtain ⟨h2, -⟩ := h2
  have Hb_w := Lib.hid h2
  have hl2 := h2.len
  have hm2 := h2.cap
  rw [sv_length] at hl2
  unfold maxLen at hm2
  clear h2
  go_enter Try.func5, Try.ntmps5
  go_wp2_with fail
  refine (dict_any a Ha_w.out).mono ?_
  rintro r w1 ⟨b_w1, (⟨rfl, hno⟩ | ⟨dx, tx, Ax, cx, rfl, hM⟩)⟩
  · have HNO := Lib.hid hno
    clear hno
    have Ha_w1 := Lib.hid ((Ha_w.out.below b_w1 (Nat.le_refl _)).wide (Nat.zero_le _) b_w1.size)
    have Hb_w1 := Lib.hid ((Hb_w.out.below b_w1 (Nat.le_refl _)).wide (Nat.zero_le _) b_w1.size)
    have HB_w1 := Lib.hid b_w1
    have S_w1 := HB_w1.out.size
    clear b_w1 Ha_w Hb_w   
    go_wp2_with fail
    refine (dict_any b Hb_w1.out).mono ?_
    rintro r w2 ⟨b_w2, (⟨rfl, hno⟩ | ⟨dy, ty, Ay, cy, rfl, hM⟩)⟩
    · have HNO := Lib.hid hno
      clear hno
      have Ha_w2 := Lib.hid ((Ha_w1.out.below b_w2 (Nat.le_refl _)).wide (Nat.zero_le _) b_w2.size)
      have Hb_w2 := Lib.hid ((Hb_w1.out.below b_w2 (Nat.le_refl _)).wide (Nat.zero_le _) b_w2.size)
      have HB_w2 := Lib.hid (below_below HB_w1.out b_w2 S_w1)
      have S_w2 := HB_w2.out.size
      clear b_w2 Ha_w1 Hb_w1 HB_w1   
      go_wp2_with fail
      refine (awake14_any (w := _)).mono ?_
      rintro r w3 ⟨rfl, b_w3⟩
      have Ha_w3 := Lib.hid ((Ha_w2.out.below b_w3 (Nat.le_refl _)).wide (Nat.zero_le _) b_w3.size)
      have Hb_w3 := Lib.hid ((Hb_w2.out.below b_w3 (Nat.le_refl _)).wide (Nat.zero_le _) b_w3.size)
      have HB_w3 := Lib.hid (below_below HB_w2.out b_w3 S_w2)
      have S_w3 := HB_w3.out.size
      clear b_w3 Ha_w2 Hb_w2 HB_w2   
      go_wp2_with fail
      refine (awake14_any (w := _)).mono ?_
      rintro r w4 ⟨rfl, b_w4⟩
      have Ha_w4 := Lib.hid ((Ha_w3.out.below b_w4 (Nat.le_refl _)).wide (Nat.zero_le _) b_w4.size)
      have Hb_w4 := Lib.hid ((Hb_w3.out.below b_w4 (Nat.le_refl _)).wide (Nat.zero_le _) b_w4.size)
      have HB_w4 := Lib.hid (below_below HB_w3.out b_w4 S_w3)
      have S_w4 := HB_w4.out.size
      clear b_w4 Ha_w3 Hb_w3 HB_w3   
      go_wp2_with fail
      go_ret
      exact ⟨rfl, HB_w4.out⟩
    · have HMN := Lib.hid hM
      clear hM
      have Ha_w2 := Lib.hid ((Ha_w1.out.below b_w2 (Nat.le_refl _)).wide (Nat.zero_le _) b_w2.size)
      have Hb_w2 := Lib.hid ((Hb_w1.out.below b_w2 (Nat.le_refl _)).wide (Nat.zero_le _) b_w2.size)
      have HB_w2 := Lib.hid (below_below HB_w1.out b_w2 S_w1)
      have S_w2 := HB_w2.out.size
      clear b_w2 Ha_w1 Hb_w1 HB_w1   
      have HMy_w2 := Lib.hid HMN.out
      clear HMN
      have hleny := HMy_w2.out.len
      have hrly := HMy_w2.out.rd.len
      have hrcy := HMy_w2.out.rd.cap
      rw [sv_length] at hrly
      unfold maxLen at hrcy
      have HRIy := Lib.hid (HMy_w2.out.dk.rises)
      have HSIy := Lib.hid (HMy_w2.out.size)
      go_wp2_with fail
      refine (awake14_any (w := _)).mono ?_
      rintro r w3 ⟨rfl, b_w3⟩
      have HMy_w3 := Lib.hid (HMy_w2.out.below b_w3)
      have Ha_w3 := Lib.hid ((Ha_w2.out.below b_w3 (Nat.le_refl _)).wide (Nat.zero_le _) b_w3.size)
      have Hb_w3 := Lib.hid ((Hb_w2.out.below b_w3 (Nat.le_refl _)).wide (Nat.zero_le _) b_w3.size)
      have HB_w3 := Lib.hid (below_below HB_w2.out b_w3 S_w2)
      have S_w3 := HB_w3.out.size
      clear b_w3 Ha_w2 Hb_w2 HB_w2  HMy_w2 
      go_wp2_with fail
      refine (awake14_any (w := _)).mono ?_
      rintro r w4 ⟨rfl, b_w4⟩
      have HMy_w4 := Lib.hid (HMy_w3.out.below b_w4)
      have Ha_w4 := Lib.hid ((Ha_w3.out.below b_w4 (Nat.le_refl _)).wide (Nat.zero_le _) b_w4.size)
      have Hb_w4 := Lib.hid ((Hb_w3.out.below b_w4 (Nat.le_refl _)).wide (Nat.zero_le _) b_w4.size)
      have HB_w4 := Lib.hid (below_below HB_w3.out b_w4 S_w3)
      have S_w4 := HB_w4.out.size
      clear b_w4 Ha_w3 Hb_w3 HB_w3  HMy_w3 
      go_wp2_with fail
      go_ret
      exact ⟨rfl, HB_w4.out⟩
  · have HMN := Lib.hid hM
    clear hM
    have Ha_w1 := Lib.hid ((Ha_w.out.below b_w1 (Nat.le_refl _)).wide (Nat.zero_le _) b_w1.size)
    have Hb_w1 := Lib.hid ((Hb_w.out.below b_w1 (Nat.le_refl _)).wide (Nat.zero_le _) b_w1.size)
    have HB_w1 := Lib.hid b_w1
    have S_w1 := HB_w1.out.size
    clear b_w1 Ha_w Hb_w   
    have HMx_w1 := Lib.hid HMN.out
    clear HMN
    have hlenx := HMx_w1.out.len
    have hrlx := HMx_w1.out.rd.len
    have hrcx := HMx_w1.out.rd.cap
    rw [sv_length] at hrlx
    unfold maxLen at hrcx
    have HRIx := Lib.hid (HMx_w1.out.dk.rises)
    have HSIx := Lib.hid (HMx_w1.out.size)
    go_wp2_with fail
    refine (dict_any b Hb_w1.out).mono ?_
    rintro r w2 ⟨b_w2, (⟨rfl, hno⟩ | ⟨dy, ty, Ay, cy, rfl, hM⟩)⟩
    · have HNO := Lib.hid hno
      clear hno
      have HMx_w2 := Lib.hid (HMx_w1.out.below b_w2)
      have Ha_w2 := Lib.hid ((Ha_w1.out.below b_w2 (Nat.le_refl _)).wide (Nat.zero_le _) b_w2.size)
      have Hb_w2 := Lib.hid ((Hb_w1.out.below b_w2 (Nat.le_refl _)).wide (Nat.zero_le _) b_w2.size)
      have HB_w2 := Lib.hid (below_below HB_w1.out b_w2 S_w1)
      have S_w2 := HB_w2.out.size
      clear b_w2 Ha_w1 Hb_w1 HB_w1  HMx_w1 
      go_wp2_with fail
      refine (awake14_any (w := _)).mono ?_
      rintro r w3 ⟨rfl, b_w3⟩
      have HMx_w3 := Lib.hid (HMx_w2.out.below b_w3)
      have Ha_w3 := Lib.hid ((Ha_w2.out.below b_w3 (Nat.le_refl _)).wide (Nat.zero_le _) b_w3.size)
      have Hb_w3 := Lib.hid ((Hb_w2.out.below b_w3 (Nat.le_refl _)).wide (Nat.zero_le _) b_w3.size)
      have HB_w3 := Lib.hid (below_below HB_w2.out b_w3 S_w2)
      have S_w3 := HB_w3.out.size
      clear b_w3 Ha_w2 Hb_w2 HB_w2  HMx_w2 
      go_wp2_with fail
      refine (awake14_any (w := _)).mono ?_
      rintro r w4 ⟨rfl, b_w4⟩
      have HMx_w4 := Lib.hid (HMx_w3.out.below b_w4)
      have Ha_w4 := Lib.hid ((Ha_w3.out.below b_w4 (Nat.le_refl _)).wide (Nat.zero_le _) b_w4.size)
      have Hb_w4 := Lib.hid ((Hb_w3.out.below b_w4 (Nat.le_refl _)).wide (Nat.zero_le _) b_w4.size)
      have HB_w4 := Lib.hid (below_below HB_w3.out b_w4 S_w3)
      have S_w4 := HB_w4.out.size
      clear b_w4 Ha_w3 Hb_w3 HB_w3  HMx_w3 
      go_wp2_with fail
      go_ret
      exact ⟨rfl, HB_w4.out⟩
    · have HMN := Lib.hid hM
      clear hM
      have HMx_w2 := Lib.hid (HMx_w1.out.below b_w2)
      have Ha_w2 := Lib.hid ((Ha_w1.out.below b_w2 (Nat.le_refl _)).wide (Nat.zero_le _) b_w2.size)
      have Hb_w2 := Lib.hid ((Hb_w1.out.below b_w2 (Nat.le_refl _)).wide (Nat.zero_le _) b_w2.size)
      have HB_w2 := Lib.hid (below_below HB_w1.out b_w2 S_w1)
      have S_w2 := HB_w2.out.size
      clear b_w2 Ha_w1 Hb_w1 HB_w1  HMx_w1 
      have HMy_w2 := Lib.hid HMN.out
      clear HMN
      have hleny := HMy_w2.out.len
      have hrly := HMy_w2.out.rd.len
      have hrcy := HMy_w2.out.rd.cap
      rw [sv_length] at hrly
      unfold maxLen at hrcy
      have HRIy := Lib.hid (HMy_w2.out.dk.rises)
      have HSIy := Lib.hid (HMy_w2.out.size)
      go_wp2_with fail
      refine (awake14_any (w := _)).mono ?_
      rintro r w3 ⟨rfl, b_w3⟩
      have HMx_w3 := Lib.hid (HMx_w2.out.below b_w3)
      have HMy_w3 := Lib.hid (HMy_w2.out.below b_w3)
      have Ha_w3 := Lib.hid ((Ha_w2.out.below b_w3 (Nat.le_refl _)).wide (Nat.zero_le _) b_w3.size)
      have Hb_w3 := Lib.hid ((Hb_w2.out.below b_w3 (Nat.le_refl _)).wide (Nat.zero_le _) b_w3.size)
      have HB_w3 := Lib.hid (below_below HB_w2.out b_w3 S_w2)
      have S_w3 := HB_w3.out.size
      clear b_w3 Ha_w2 Hb_w2 HB_w2  HMx_w2 HMy_w2 
      go_wp2_with fail
      refine (smap_is HMx_w3.out.dk HMy_w3.out.dk ((bytL2 tx).map (mapN (bytL2 ty))) rfl rfl).mono ?_
      rintro r w4 ⟨A4, c4, rfl, ho4, b_w4⟩
      have HMx_w4 := Lib.hid (HMx_w3.out.below b_w4)
      have HMy_w4 := Lib.hid (HMy_w3.out.below b_w4)
      have Ha_w4 := Lib.hid ((Ha_w3.out.below b_w4 (Nat.le_refl _)).wide (Nat.zero_le _) b_w4.size)
      have Hb_w4 := Lib.hid ((Hb_w3.out.below b_w4 (Nat.le_refl _)).wide (Nat.zero_le _) b_w4.size)
      have HB_w4 := Lib.hid (below_below HB_w3.out b_w4 S_w3)
      have S_w4 := HB_w4.out.size
      have Hi_w4 := Lib.hid ((Rd.of_own ho4).wide (Nat.zero_le _) (Nat.le_refl _))
      clear b_w4 Ha_w3 Hb_w3 HB_w3 ho4  HMx_w3 HMy_w3 
      go_wp2_with fail
      go_loopw [12] (fun x12 wr => ∃ i m : Nat, i ≤ tx.length ∧ x12 = .int .i64 (i : Int) ∧ wr = w4.drewN m) (fun i _ => tx.length - (intOf i).toNat)
      case atStart => exact ⟨0, 0, Nat.zero_le _, rfl, rfl⟩
      case round =>
        obtain ⟨i, m, hi, rfl, rfl⟩ := hrel
        by_cases hlt : i < tx.length
        · have ii : (i : Int) < (tx.length : Int) := by omega
          have hM : ((bytL2 tx).map (mapN (bytL2 ty)))[i]? = some (mapN (bytL2 ty) tx[i].data.toList) := by rw [List.getElem?_map, List.getElem?_eq_getElem (by rw [bytL2_length]; exact hlt), bytL2_get tx i hlt]; rfl
          obtain ⟨bi, oi, hAi, _, hbi, hcm⟩ := Hi_w4.out.num (k := i) (by rw [List.length_map, bytL2_length]; exact hlt)
          rw [List.getElem?_eq_getElem (by rw [List.length_map, bytL2_length]; exact hlt)] at hM
          injection hM with hM
          rw [hM] at hcm
          obtain ⟨bx, ox, hAx, _, hbx, hcx⟩ := HMx_w4.out.rd.str hlt
          have hts := HSIx.out tx[i] (List.getElem_mem hlt)
          clear hM
          generalize tx[i] = x at *
          subst hAi
          subst hAx
          by_cases hin : lowN (bytL2 ty) x.data.toList < upN (bytL2 ty) x.data.toList
          · obtain ⟨lo, hlo, hys, hz, hone⟩ := map_there HRIy.out x hin
            rw [hz] at hcm
            have HONE := Lib.hid hone
            obtain ⟨by_, oy, hAy, _, hby, hcy⟩ := HMy_w4.out.rd.str hlo
            subst hAy
            rw [hys] at hcy
            have HYS : Hid (∃ h : lo < ty.length, ty[lo] = x) := ⟨hlo, hys⟩
            clear hone hz hin hys
            have i3 : (lo : Int) < (ty.length : Int) := by omega
            have d1 : decide (ty.length ≤ lo) = false := decide_eq_false (by omega)
            have d1b : decide ((ty.length : Int) ≤ (lo : Int)) = false := decide_eq_false (by omega)
            have q0 : (x.toList != x.toList) = false := by simp
            have i2 : (0 : Int) ≤ (lo : Int) := by omega
            have d2 : decide ((0 : Int) ≤ (lo : Int)) = true := decide_eq_true i2
            go_wp2_with fail
            go_quiet (fail)
            go_wp2_with fail
            go_loopw [13, 14] (fun x13 x14 wq => ∃ k q : Nat, ∃ e : Bool, k ≤ ty.length ∧ x13 = .bool e ∧ e = decide (lo < k) ∧ x14 = .int .i64 (k : Int) ∧ wq = w4.drewN q) (fun _ k _ => ty.length - (intOf k).toNat)
            case atStart => exact ⟨0, _, false, Nat.zero_le _, rfl, (decide_eq_false (by omega)).symm, rfl, by first | rfl | (rw [World.drewN_drewN])⟩
            case round =>
              obtain ⟨k, q, e, hk, rfl, he, rfl, rfl⟩ := hrel
              by_cases hkl : k < ty.length
              · have kk : (k : Int) < (ty.length : Int) := by omega
                cases e with
                | true =>
                  have hlk : lo < k := of_decide_eq_true he.symm
                  clear he
                  go_wp2_with fail
                  go_quiet (fail)
                  go_wp2_with fail
                  go_roundw
                  case rel => exact ⟨k + 1, _, true, by omega, rfl, (decide_eq_true (by omega)).symm, by go_num, by first | rfl | (rw [World.drewN_drewN])⟩
                  case measure => simp [intOf] <;> omega
                | false =>
                  have hlk : ¬ lo < k := of_decide_eq_false he.symm
                  clear he
                  obtain ⟨bk, ok, hAk, _, hbk, hck⟩ := HMy_w4.out.rd.str hkl
                  by_cases hq : lo = k
                  · have hq2 : ty[k] = x := by obtain ⟨_, h1⟩ := HYS.out; subst hq; exact h1
                    rw [hq2] at hck
                    obtain ⟨rfl, rfl⟩ : by_ = bk ∧ oy = ok := by injection hAk with hAk; injection hAk with h1 h2; exact ⟨h1, h2⟩
                    clear hAk hq2
                    go_wp2_with fail
                    go_quiet (fail)
                    go_wp2_with fail
                    go_roundw
                    case rel => exact ⟨k + 1, _, true, by omega, rfl, (decide_eq_true (by omega)).symm, by go_num, by first | rfl | (rw [World.drewN_drewN])⟩
                    case measure => simp [intOf] <;> omega
                  · have hq2 : ¬ ty[k] = x := fun e => hq (HONE.out k hkl e).symm
                    obtain ⟨rfl, rfl⟩ : by_ = bk ∧ oy = ok := by injection hAk with hAk; injection hAk with h1 h2; exact ⟨h1, h2⟩
                    clear hAk
                    generalize ty[k] = y at *
                    have q1 : (y.toList == x.toList) = false := beq_eq_false_iff_ne.2 fun e => hq2 (by rw [Lib.toList_data, Lib.toList_data] at e; exact ByteArray.ext (Array.ext' e))
                    go_wp2_with fail
                    go_quiet (fail)
                    go_wp2_with fail
                    go_roundw
                    case rel => exact ⟨k + 1, _, false, by omega, rfl, (decide_eq_false (by omega)).symm, by go_num, by first | rfl | (rw [World.drewN_drewN])⟩
                    case measure => simp [intOf] <;> omega
              · have kk : ¬ (k : Int) < (ty.length : Int) := by omega
                have he2 : e = true := by rw [he]; exact decide_eq_true (by omega)
                clear he
                subst he2
                have d3 : decide ((lo : Int) < -1) = false := decide_eq_false (by omega)
                go_wp2_with fail
                go_roundw
                case rel => exact ⟨i + 1, _, by omega, by go_num, by first | rfl | (rw [World.drewN_drewN])⟩
                case measure => simp [intOf] <;> omega
          · obtain ⟨hz, hone⟩ := map_not HRIy.out x hin
            rw [hz] at hcm
            have HONE := Lib.hid hone
            clear hone hz hin
            have i1 : ¬ (ty.length : Int) ≤ -1 := by omega
            have d1 : decide ((ty.length : Int) ≤ -1) = false := decide_eq_false i1
            go_wp2_with fail
            go_quiet (fail)
            go_wp2_with fail
            go_loopw [13, 14] (fun x13 x14 wq => ∃ k q : Nat, ∃ e : Bool, k ≤ ty.length ∧ x13 = .bool e ∧ e = false ∧ x14 = .int .i64 (k : Int) ∧ wq = w4.drewN q) (fun _ k _ => ty.length - (intOf k).toNat)
            case atStart => exact ⟨0, _, false, Nat.zero_le _, rfl, rfl, rfl, by first | rfl | (rw [World.drewN_drewN])⟩
            case round =>
              obtain ⟨k, q, e, hk, rfl, he, rfl, rfl⟩ := hrel
              by_cases hkl : k < ty.length
              · have kk : (k : Int) < (ty.length : Int) := by omega
                subst he
                obtain ⟨bk, ok, hAk, _, hbk, hck⟩ := HMy_w4.out.rd.str hkl
                have hq2 : ¬ ty[k] = x := HONE.out k hkl
                subst hAk
                generalize ty[k] = y at *
                have q1 : (y.toList == x.toList) = false := beq_eq_false_iff_ne.2 fun e => hq2 (by rw [Lib.toList_data, Lib.toList_data] at e; exact ByteArray.ext (Array.ext' e))
                go_wp2_with fail
                go_quiet (fail)
                go_wp2_with fail
                go_roundw
                case rel => exact ⟨k + 1, _, false, by omega, rfl, rfl, by go_num, by first | rfl | (rw [World.drewN_drewN])⟩
                case measure => simp [intOf] <;> omega
              · have kk : ¬ (k : Int) < (ty.length : Int) := by omega
                subst he
                go_wp2_with fail
                go_roundw
                case rel => exact ⟨i + 1, _, by omega, by go_num, by first | rfl | (rw [World.drewN_drewN])⟩
                case measure => simp [intOf] <;> omega
        · have ii : ¬ (i : Int) < (tx.length : Int) := by omega
          have HMx_w5 : Hid (Dic14 a tx (w4.drewN m) dx Ax cx) := HMx_w4.out.drewN m
          have HMy_w5 : Hid (Dic14 b ty (w4.drewN m) dy Ay cy) := HMy_w4.out.drewN m
          obtain ⟨w5, hw_w5⟩ : ∃ q, w4.drewN m = q := ⟨_, rfl⟩
          have Ha_w5 : Hid (Rd w5 0 w5.heap.size A c (sv a)) := by unfold Hid; rw [← hw_w5]; exact Ha_w4.out.drewN m
          have Hb_w5 : Hid (Rd w5 0 w5.heap.size B d (sv b)) := by unfold Hid; rw [← hw_w5]; exact Hb_w4.out.drewN m
          have Hi_w5 : Hid (Rd w5 0 w5.heap.size A4 c4 (iv ((bytL2 tx).map (mapN (bytL2 ty))))) := by unfold Hid; rw [← hw_w5]; exact Hi_w4.out.drewN m
          have HB_w5 : Hid (Below w.heap.size w w5) := by unfold Hid; rw [← hw_w5]; exact below_drewN' HB_w4.out m
          have S_w5 := HB_w5.out.size
          rw [hw_w5] at HMx_w5 HMy_w5
          rw [hw_w5]
          clear hw_w5 Ha_w4 Hb_w4 Hi_w4 HB_w4
          clear HMx_w4 HMy_w4
          go_wp2_with fail
          refine (smerge_any HMx_w5.out.dk HMy_w5.out.dk).mono ?_
          rintro r w6 ⟨v, A6, c6, rfl, hsv, ho6, b_w6⟩
          have HSV := Lib.hid (merge_sort HMx_w5.out.sort HMy_w5.out.sort hsv)
          clear hsv
          obtain ⟨hna, hsa⟩ := few_facts HMx_w5.out.few
          obtain ⟨hnb, hsb⟩ := few_facts HMy_w5.out.few
          have HSA := Lib.hid hsa
          have HSB := Lib.hid hsb
          clear hsa hsb
          obtain ⟨V, hV⟩ : ∃ V, a ++ b = V := ⟨_, rfl⟩
          have HVL : Hid (V.length = a.length + b.length) := by unfold Hid; rw [← hV, List.length_append]
          have HV := Lib.hid hV
          clear hV
          have HMx_w6 := Lib.hid (HMx_w5.out.below b_w6)
          have HMy_w6 := Lib.hid (HMy_w5.out.below b_w6)
          have Ha_w6 := Lib.hid ((Ha_w5.out.below b_w6 (Nat.le_refl _)).wide (Nat.zero_le _) b_w6.size)
          have Hb_w6 := Lib.hid ((Hb_w5.out.below b_w6 (Nat.le_refl _)).wide (Nat.zero_le _) b_w6.size)
          have Hi_w6 := Lib.hid ((Hi_w5.out.below b_w6 (Nat.le_refl _)).wide (Nat.zero_le _) b_w6.size)
          have HB_w6 := Lib.hid (below_below HB_w5.out b_w6 S_w5)
          have S_w6 := HB_w6.out.size
          have Hv_w6 := Lib.hid ((Rd.of_own ho6).wide (Nat.zero_le _) (Nat.le_refl _))
          clear b_w6 Ha_w5 Hb_w5 Hi_w5 HB_w5 ho6  HMx_w5 HMy_w5 
          obtain ⟨A9, c9, w9, hrun9, ho9, hg9⟩ := append_strs (w6.alloc (.cells #[] 9)) w6.heap.size (.slice (some ⟨w6.heap.size, 0, none⟩) 0 0) [] a a (List.nil_append _) (own_none' w6 _) (Ha_w6.out.alloc (Nat.le_refl _) _) (by simp; omega) (by simp)
          have b9 : Below w6.heap.size w6 w9 := ((Below.refl _ _).alloc (Nat.le_refl _) _).grown hg9 (by simp) (by simp [Value.ownBlock])
          obtain ⟨Aa, ca, wa, hruna, ho_wa, hga⟩ := append_strs w9 w6.heap.size _ a b V HV.out ho9 (Hb_w6.out.below b9 (Nat.le_refl _)) (by omega) b9.size
          have b_wa : Below w6.heap.size w6 wa := b9.grown hga b9.size (fun q hq => (own_lt ho9 hq).1)
          have HRUN9 := Lib.hid hrun9
          have HRUNA := Lib.hid hruna
          clear hrun9 hruna ho9 hg9 hga b9
          have HMx_wa := Lib.hid (HMx_w6.out.below b_wa)
          have HMy_wa := Lib.hid (HMy_w6.out.below b_wa)
          have Ha_wa := Lib.hid ((Ha_w6.out.below b_wa (Nat.le_refl _)).wide (Nat.zero_le _) b_wa.size)
          have Hb_wa := Lib.hid ((Hb_w6.out.below b_wa (Nat.le_refl _)).wide (Nat.zero_le _) b_wa.size)
          have Hi_wa := Lib.hid ((Hi_w6.out.below b_wa (Nat.le_refl _)).wide (Nat.zero_le _) b_wa.size)
          have Hv_wa := Lib.hid ((Hv_w6.out.below b_wa (Nat.le_refl _)).wide (Nat.zero_le _) b_wa.size)
          have HB_wa := Lib.hid (below_below HB_w6.out b_wa S_w6)
          have S_wa := HB_wa.out.size
          have HV_wa := Lib.hid ((Rd.of_own ho_wa).wide (Nat.zero_le _) (Nat.le_refl _))
          clear b_wa Ha_w6 Hb_w6 Hi_w6 Hv_w6 HB_w6 ho_wa  HMx_w6 HMy_w6 
          go_wp2_with (at_builtin; refine wpList_append_run rfl _ _ _ _ rfl rfl rfl HRUN9.out ?_; refine held ?_)
          refine ⟨?_⟩
          go_wp2_with (at_builtin; refine wpList_append_run rfl _ _ _ _ rfl rfl rfl HRUNA.out ?_)
          clear HRUN9 HRUNA
          refine (refSorted_any V HV_wa.out (fun s hs => by rw [← HV.out] at hs; exact (List.mem_append.1 hs).elim (fun h => by have := HSA.out s h; omega) (fun h => by have := HSB.out s h; omega)) (by have := HVL.out; omega)).mono ?_
          rintro r wb ⟨u, Ab, cb, rfl, hu, -, ho_wb, b_wb⟩
          have huv : v = u := by rw [← strsL_bytL2' v, ← strsL_bytL2' u]; rw [← HV.out] at hu; rw [HSV.out.one hu]
          subst huv
          clear hu
          have HMx_wb := Lib.hid (HMx_wa.out.below b_wb)
          have HMy_wb := Lib.hid (HMy_wa.out.below b_wb)
          have Ha_wb := Lib.hid ((Ha_wa.out.below b_wb (Nat.le_refl _)).wide (Nat.zero_le _) b_wb.size)
          have Hb_wb := Lib.hid ((Hb_wa.out.below b_wb (Nat.le_refl _)).wide (Nat.zero_le _) b_wb.size)
          have Hi_wb := Lib.hid ((Hi_wa.out.below b_wb (Nat.le_refl _)).wide (Nat.zero_le _) b_wb.size)
          have Hv_wb := Lib.hid ((Hv_wa.out.below b_wb (Nat.le_refl _)).wide (Nat.zero_le _) b_wb.size)
          have HV_wb := Lib.hid ((HV_wa.out.below b_wb (Nat.le_refl _)).wide (Nat.zero_le _) b_wb.size)
          have HB_wb := Lib.hid (below_below HB_wa.out b_wb S_wa)
          have S_wb := HB_wb.out.size
          have Hu_wb := Lib.hid ((Rd.of_own ho_wb).wide (Nat.zero_le _) (Nat.le_refl _))
          clear b_wb Ha_wa Hb_wa Hi_wa Hv_wa HV_wa HB_wa ho_wb  HMx_wa HMy_wa 
          go_wp2_with fail
          refine (fsame_is v v true Hv_wb.out Hu_wb.out rfl rfl (decide_eq_true rfl)).mono ?_
          rintro r wc ⟨rfl, m_wc, rfl⟩
          have HMx_wc : Hid (Dic14 a tx (wb.drewN m_wc) dx Ax cx) := HMx_wb.out.drewN m_wc
          have HMy_wc : Hid (Dic14 b ty (wb.drewN m_wc) dy Ay cy) := HMy_wb.out.drewN m_wc
          obtain ⟨wc, hw_wc⟩ : ∃ q, wb.drewN m_wc = q := ⟨_, rfl⟩
          have Ha_wc : Hid (Rd wc 0 wc.heap.size A c (sv a)) := by unfold Hid; rw [← hw_wc]; exact Ha_wb.out.drewN m_wc
          have Hb_wc : Hid (Rd wc 0 wc.heap.size B d (sv b)) := by unfold Hid; rw [← hw_wc]; exact Hb_wb.out.drewN m_wc
          have Hi_wc : Hid (Rd wc 0 wc.heap.size A4 c4 (iv ((bytL2 tx).map (mapN (bytL2 ty))))) := by unfold Hid; rw [← hw_wc]; exact Hi_wb.out.drewN m_wc
          have Hv_wc : Hid (Rd wc 0 wc.heap.size A6 c6 (sv v)) := by unfold Hid; rw [← hw_wc]; exact Hv_wb.out.drewN m_wc
          have HV_wc : Hid (Rd wc 0 wc.heap.size Aa ca (sv V)) := by unfold Hid; rw [← hw_wc]; exact HV_wb.out.drewN m_wc
          have Hu_wc : Hid (Rd wc 0 wc.heap.size Ab cb (sv v)) := by unfold Hid; rw [← hw_wc]; exact Hu_wb.out.drewN m_wc
          have HB_wc : Hid (Below w.heap.size w wc) := by unfold Hid; rw [← hw_wc]; exact below_drewN' HB_wb.out m_wc
          have S_wc := HB_wc.out.size
          rw [hw_wc] at HMx_wc HMy_wc
          rw [hw_wc]
          clear hw_wc Ha_wb Hb_wb Hi_wb Hv_wb HV_wb Hu_wb HB_wb
          clear HMx_wb HMy_wb
          go_wp2_with fail
          go_ret
          exact ⟨rfl, HB_wc.out⟩

set_option maxRecDepth 100000 in
theorem seekMaps_lifted (os : Os) (started : os.Started) (H : Type) (enc : TypeId × Value → H) :
    ReturnsInHanded {} Try.checked os 5 .any (Rows.seekMapsSpec.pre6 enc Try.prog Try.f5 Rows.seekMapsRow.domain false) (Rows.seekMapsSpec.post enc Try.prog Try.f5 false true false false) := by
  refine returnsInHanded_of_change (C := Try.checked) own started (by kernel_rfl) Try.func5
    (ChangeSpec.witness6 (enc := enc) (C := Try.checked) false ⟨#[], #[.slice none 0 0, .slice none 0 0], []⟩ 8 (by kernel_rfl) (by kernel_rfl) (by kernel_rfl) (by kernel_rfl)) ?_
  intro W base args ds gs before hval0 hW hcnd _
  have hval : ∀ (j : Nat) t v, Try.f5.params[j]? = some t → args[j]? = some v → Value.okWide Try.prog W .any base t v := hval0
  have hW' := hW
  obtain ⟨p, q, hA0, hV, rfl, hfz, hnd⟩ := hW
  have hA : DataW.TrodAll enc Try.prog W 0 (fun _ => true) true Try.f5.params.toList args.toList ds p := hA0
  have hA1 : DataW.TrodAll enc Try.prog W 0 (fun _ => true) true Try.f5.params.toList args.toList ds p := hA0
  rw [Try.params5] at hA hval
  obtain ⟨v0, vs0, d0, ds0, p0, q0, hargs, rfl, rfl, h0, r0⟩ := trodAll_cons hA
  obtain ⟨v1, vs1, d1, ds1, p1, q1, rfl, rfl, rfl, h1, r1⟩ := trodAll_cons r0
  obtain ⟨rfl, rfl, rfl⟩ := trodAll_nil r1
  obtain rfl : args = #[v0, v1] := by cases args; simp_all
  obtain ⟨rfl, rfl⟩ := trodVars_none hV
  obtain ⟨A0, a0, c0, rfl, w0⟩ := open_strs Try.underlying22 Try.underlying9 (by kernel_rfl) (hval 0 22 v0 rfl rfl) h0
  obtain ⟨A1, a1, c1, rfl, w1⟩ := open_strs Try.underlying22 Try.underlying9 (by kernel_rfl) (hval 1 22 v1 rfl rfl) h1
  clear hA0 hval0
  refine (seekMaps_walk (w := W) w0 w1).mono fun e W' ⟨he, bel⟩ => ?_
  subst he
  exact ⟨_, rfl, _, _, _, [], _, [], hW', trodAll_mk1 (shut_bool Try.underlying4 _), trodAll_below laidOut bel _ _ _ _ (by kernel_rfl) hA1, rfl, bel.frame _, fun h => by cases h⟩

theorem seekMaps_over : Rows.seekMapsRow.holds Try.pinned (OpenSpec.ofChange Rows.seekMapsSpec) :=
  OpenClaim.holds_of_wide 5 Try.f5 rfl rfl rfl rfl rfl rfl rfl ⟨rfl, rfl, rfl, rfl, rfl⟩ rfl rfl rfl rfl rfl (by kernel_rfl) Try.func5 (by kernel_rfl)
    (of_decide_eq_true (by kernel_rfl)) (by unfold Func.isWrapper; first | (rw [if_pos (by decide +kernel)]; kernel_rfl) | (rw [if_neg (by decide +kernel)]; exact ⟨rfl, rfl⟩))
    (fun os started H enc _ => seekMaps_lifted os started H enc)

/-- The statement. -/
theorem seekMaps_proved : Rows.SeekMapsSaid := seekMaps_over


end Go.Proofs.Ytihlbcnoficpgaa
