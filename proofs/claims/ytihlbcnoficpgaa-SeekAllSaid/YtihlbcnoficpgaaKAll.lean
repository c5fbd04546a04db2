/-
  Proved: SeekAll of layer 14: each string has the code of its place; all are a range of the prefix of nothing; a merge with itself is itself, in memory of its own; what came in reads as it did. Conditions: none of our own.
-/
import Derived.Test.YtihlbcnoficpgaaSkW
import Derived.Test.YtihlbcnoficpgaaShellT
import Derived.Test.YtihlbcnoficpgaaShell
import Derived.Test.YtihlbcnoficpgaaSkK
namespace Go.Proofs.Ytihlbcnoficpgaa
set_option linter.unusedSimpArgs false
set_option linter.unusedVariables false
open Go.ChangeShapes Go.WideShapes Go.ChangeAt Go.RowKit
open Go.ChangeMaps (open_string shut_string)

set_option maxRecDepth 20000 in
set_option maxHeartbeats 4000000 in
theorem seekAll_walk {w : World} {A : Option Addr} {l : List ByteArray} {c : Nat} (h : Rd w 0 w.heap.size A c (sv l) ∧ ∀ s ∈ l, s.size ≤ maxLen) :
    Calls Try.prog 7 #[.slice A l.length c] w fun e w' => e = .returned (.bool true) ∧ Below w.heap.size w w' := by
  obtain ⟨h, -⟩ := h
  have Hl_w := Lib.hid h
  have hl := h.len
  have hm := h.cap
  rw [sv_length] at hl
  unfold maxLen at hm
  clear h
  go_enter Try.func7, Try.ntmps7
  go_wp2_with fail
  refine (dict_any l Hl_w.out).mono ?_
  rintro r w1 ⟨b_w1, (⟨rfl, hno⟩ | ⟨dm, tm, Am, cm, rfl, hM⟩)⟩
  · have HNO := Lib.hid hno
    clear hno
    have Hl_w1 := Lib.hid ((Hl_w.out.below b_w1 (Nat.le_refl _)).wide (Nat.zero_le _) b_w1.size)
    have HB_w1 := Lib.hid b_w1
    have S_w1 := HB_w1.out.size
    clear b_w1 Hl_w   
    go_wp2_with fail
    refine (awake14_any (w := _)).mono ?_
    rintro r w2 ⟨rfl, b_w2⟩
    have Hl_w2 := Lib.hid ((Hl_w1.out.below b_w2 (Nat.le_refl _)).wide (Nat.zero_le _) b_w2.size)
    have HB_w2 := Lib.hid (below_below HB_w1.out b_w2 S_w1)
    have S_w2 := HB_w2.out.size
    clear b_w2 Hl_w1 HB_w1   
    go_wp2_with fail
    refine (awake14_any (w := _)).mono ?_
    rintro r w3 ⟨rfl, b_w3⟩
    have Hl_w3 := Lib.hid ((Hl_w2.out.below b_w3 (Nat.le_refl _)).wide (Nat.zero_le _) b_w3.size)
    have HB_w3 := Lib.hid (below_below HB_w2.out b_w3 S_w2)
    have S_w3 := HB_w3.out.size
    clear b_w3 Hl_w2 HB_w2   
    go_wp2_with fail
    go_ret
    exact ⟨rfl, HB_w3.out⟩
  · have HMN := Lib.hid hM
    clear hM
    have Hl_w1 := Lib.hid ((Hl_w.out.below b_w1 (Nat.le_refl _)).wide (Nat.zero_le _) b_w1.size)
    have HB_w1 := Lib.hid b_w1
    have S_w1 := HB_w1.out.size
    clear b_w1 Hl_w   
    have HMm_w1 := Lib.hid HMN.out
    clear HMN
    have hlenm := HMm_w1.out.len
    have hrlm := HMm_w1.out.rd.len
    have hrcm := HMm_w1.out.rd.cap
    rw [sv_length] at hrlm
    unfold maxLen at hrcm
    have HRIm := Lib.hid (HMm_w1.out.dk.rises)
    have HSIm := Lib.hid (HMm_w1.out.size)
    go_wp2_with fail
    refine (awake14_any (w := _)).mono ?_
    rintro r w2 ⟨rfl, b_w2⟩
    have HMm_w2 := Lib.hid (HMm_w1.out.below b_w2)
    have Hl_w2 := Lib.hid ((Hl_w1.out.below b_w2 (Nat.le_refl _)).wide (Nat.zero_le _) b_w2.size)
    have HB_w2 := Lib.hid (below_below HB_w1.out b_w2 S_w1)
    have S_w2 := HB_w2.out.size
    clear b_w2 Hl_w1 HB_w1  HMm_w1 
    go_wp2_with fail
    obtain ⟨hp0, hpn⟩ := pre_nil HRIm.out
    rw [bytL2_length] at hpn
    have HP0 := Lib.hid hp0
    have HPN := Lib.hid hpn
    clear hp0 hpn
    refine (spre_is HMm_w2.out.dk ⟨#[]⟩ 0 tm.length (by decide) HP0.out HPN.out).mono ?_
    rintro r w3 ⟨rfl, b_w3⟩
    have HMm_w3 := Lib.hid (HMm_w2.out.below b_w3)
    have Hl_w3 := Lib.hid ((Hl_w2.out.below b_w3 (Nat.le_refl _)).wide (Nat.zero_le _) b_w3.size)
    have HB_w3 := Lib.hid (below_below HB_w2.out b_w3 S_w2)
    have S_w3 := HB_w3.out.size
    clear b_w3 Hl_w2 HB_w2  HMm_w2 
    go_wp2_with fail
    have KM := HMm_w3
    have KB := HB_w3
    have KS := S_w3
    have HKw3_w3 := Lib.hid (Below.refl w3.heap.size w3)
    refine (smap_is HMm_w3.out.dk HMm_w3.out.dk (idL tm.length) (map_self HRIm.out) rfl).mono ?_
    rintro r w4 ⟨A4, c4, rfl, ho4, b_w4⟩
    have HOX := Lib.hid ho4
    have HMm_w4 := Lib.hid (HMm_w3.out.below b_w4)
    have HKw3_w4 := Lib.hid (HKw3_w3.out.trans (b_w4.mono HKw3_w3.out.size))
    have Hl_w4 := Lib.hid ((Hl_w3.out.below b_w4 (Nat.le_refl _)).wide (Nat.zero_le _) b_w4.size)
    have HB_w4 := Lib.hid (below_below HB_w3.out b_w4 S_w3)
    have S_w4 := HB_w4.out.size
    have Hi_w4 := Lib.hid ((Rd.of_own ho4).wide (Nat.zero_le _) (Nat.le_refl _))
    clear b_w4 Hl_w3 HB_w3 ho4  HMm_w3 HKw3_w3 
    have HOi_w4 := Lib.hid HOX.out
    clear HOX
    go_wp2_with fail
    go_loopw [9] (fun x9 wr => ∃ i : Nat, i ≤ tm.length ∧ x9 = .int .i64 (i : Int) ∧ Below w4.heap.size w4 wr) (fun i _ => tm.length - (intOf i).toNat)
    case atStart => exact ⟨0, Nat.zero_le _, rfl, Below.refl _ _⟩
    case round =>
      obtain ⟨i, hi, rfl, hbr⟩ := hrel
      have HBR := Lib.hid hbr
      have hszr := hbr.size
      clear hbr
      by_cases hlt : i < tm.length
      · have ii : (i : Int) < (tm.length : Int) := by omega
        have hts := HSIm.out tm[i] (List.getElem_mem hlt)
        have HCS := Lib.hid (code_self HRIm.out hlt)
        have HMr := Lib.hid (HMm_w4.out.below HBR.out)
        have HIr := Lib.hid (Hi_w4.out.below HBR.out (Nat.le_refl _))
        have HCD := Lib.hid (scode_is HMr.out.dk tm[i] i true (by omega) HCS.out.1 HCS.out.2.1)
        obtain ⟨bt, off, hA2, _, hbt, hcell⟩ := HMr.out.rd.str hlt
        clear HCS
        generalize tm[i] = x at *
        subst hA2
        go_wp2_with fail
        refine HCD.out.mono ?_
        rintro r wq ⟨rfl, bq⟩
        obtain ⟨bi, oi, hA4, _, _, hcell2⟩ := (HIr.out.below bq hszr).num (k := i) (by rw [idL_len]; exact hlt)
        rw [idL_get] at hcell2
        subst hA4
        have HBQ := Lib.hid (HBR.out.trans (bq.mono hszr))
        clear bq
        go_wp2_with fail
        go_roundw
        case rel => exact ⟨i + 1, by omega, by go_num, HBQ.out⟩
        case measure => simp [intOf] <;> omega
      · have ii : ¬ (i : Int) < (tm.length : Int) := by omega
        obtain ⟨w5, hwq⟩ : ∃ q, q = wr := ⟨_, rfl⟩
        subst hwq
        have b_w5 := HBR.out
        have HMm_w5 := Lib.hid (HMm_w4.out.below b_w5)
        have HOi_w5 := Lib.hid (own_under HOi_w4.out b_w5 (Nat.le_refl _))
        have HKw3_w5 := Lib.hid (HKw3_w4.out.trans (b_w5.mono HKw3_w4.out.size))
        have Hl_w5 := Lib.hid ((Hl_w4.out.below b_w5 (Nat.le_refl _)).wide (Nat.zero_le _) b_w5.size)
        have Hi_w5 := Lib.hid ((Hi_w4.out.below b_w5 (Nat.le_refl _)).wide (Nat.zero_le _) b_w5.size)
        have HB_w5 := Lib.hid (below_below HB_w4.out b_w5 S_w4)
        have S_w5 := HB_w5.out.size
        clear b_w5 Hl_w4 Hi_w4 HB_w4  HMm_w4 HOi_w4 HKw3_w4 
        clear HBR
        go_wp2_with fail
        have HAP : Hid (∀ q, (Value.slice A4 tm.length c4).ownBlock = some q → q < w5.heap.size) := fun q hq => (own_lt HOi_w5.out hq).2
        refine (smerge_is HMm_w5.out.dk HMm_w5.out.dk tm ⟨HRIm.out, fun x => by simp⟩ rfl).mono ?_
        rintro r w6 ⟨A6, c6, rfl, ho6, b_w6⟩
        have HOX := Lib.hid ho6
        have HMm_w6 := Lib.hid (HMm_w5.out.below b_w6)
        have HOi_w6 := Lib.hid (own_under HOi_w5.out b_w6 (Nat.le_refl _))
        have HKw3_w6 := Lib.hid (HKw3_w5.out.trans (b_w6.mono HKw3_w5.out.size))
        have Hl_w6 := Lib.hid ((Hl_w5.out.below b_w6 (Nat.le_refl _)).wide (Nat.zero_le _) b_w6.size)
        have Hi_w6 := Lib.hid ((Hi_w5.out.below b_w6 (Nat.le_refl _)).wide (Nat.zero_le _) b_w6.size)
        have HB_w6 := Lib.hid (below_below HB_w5.out b_w6 S_w5)
        have S_w6 := HB_w6.out.size
        have Hu_w6 := Lib.hid ((Rd.of_own ho6).wide (Nat.zero_le _) (Nat.le_refl _))
        clear b_w6 Hl_w5 Hi_w5 HB_w5 ho6  HMm_w5 HOi_w5 HKw3_w5 
        have HOu_w6 := Lib.hid HOX.out
        clear HOX
        go_wp2_with fail
        refine (fsame_is tm tm true Hu_w6.out HMm_w6.out.rd rfl rfl (decide_eq_true rfl)).mono ?_
        rintro r w7 ⟨rfl, m_w7, rfl⟩
        have HMm_w7 : Hid (Dic14 l tm (w6.drewN m_w7) dm Am cm) := HMm_w6.out.drewN m_w7
        have HOi_w7 : Hid (World.ownsRow (w6.drewN m_w7) w3.heap.size 3 1 (.slice A4 tm.length c4) tm.length (iv (idL tm.length))) := own_drewN HOi_w6.out m_w7
        have HOu_w7 : Hid (World.ownsRow (w6.drewN m_w7) w5.heap.size 9 1 (.slice A6 tm.length c6) tm.length (sv tm)) := own_drewN HOu_w6.out m_w7
        have HKw3_w7 : Hid (Below w3.heap.size w3 (w6.drewN m_w7)) := below_drewN' HKw3_w6.out m_w7
        obtain ⟨w7, hw_w7⟩ : ∃ q, w6.drewN m_w7 = q := ⟨_, rfl⟩
        have Hl_w7 : Hid (Rd w7 0 w7.heap.size A c (sv l)) := by unfold Hid; rw [← hw_w7]; exact Hl_w6.out.drewN m_w7
        have Hi_w7 : Hid (Rd w7 0 w7.heap.size A4 c4 (iv (idL tm.length))) := by unfold Hid; rw [← hw_w7]; exact Hi_w6.out.drewN m_w7
        have Hu_w7 : Hid (Rd w7 0 w7.heap.size A6 c6 (sv tm)) := by unfold Hid; rw [← hw_w7]; exact Hu_w6.out.drewN m_w7
        have HB_w7 : Hid (Below w.heap.size w w7) := by unfold Hid; rw [← hw_w7]; exact below_drewN' HB_w6.out m_w7
        have S_w7 := HB_w7.out.size
        rw [hw_w7] at HMm_w7 HOi_w7 HOu_w7 HKw3_w7
        rw [hw_w7]
        clear hw_w7 Hl_w6 Hi_w6 Hu_w6 HB_w6
        clear HMm_w6 HOi_w6 HOu_w6 HKw3_w6
        go_wp2_with fail
        go_loopw [13] (fun x13 wr => ∃ (k : Nat) (xs ys : List Value), k ≤ tm.length ∧ x13 = .int .i64 (k : Int) ∧ wr.ownsRow w3.heap.size 3 1 (.slice A4 tm.length c4) tm.length xs ∧ wr.ownsRow w5.heap.size 9 1 (.slice A6 tm.length c6) tm.length ys ∧ Below w3.heap.size w3 wr) (fun i _ => tm.length - (intOf i).toNat)
        case atStart => exact ⟨0, _, _, Nat.zero_le _, rfl, HOi_w7.out, HOu_w7.out, HKw3_w7.out⟩
        case round =>
          obtain ⟨k, xs, ys, hk, rfl, hox, hoy, hbl⟩ := hrel
          have HBL := Lib.hid hbl
          have hsb := hbl.size
          clear hbl
          by_cases hlt : k < tm.length
          · obtain ⟨gx, rfl, hgx, hgx2⟩ := own_spot hox (by omega)
            obtain ⟨gy, rfl, hgy, hgy2⟩ := own_spot hoy (by omega)
            have hgxy : gx < w5.heap.size := HAP.out gx rfl
            have hxl : xs.length = tm.length := by simpa using hox.1
            have hyl : ys.length = tm.length := by simpa using hoy.1
            obtain ⟨u0, hu0⟩ : ∃ u0, xs[k]? = some u0 := ⟨_, List.getElem?_eq_getElem (by omega)⟩
            obtain ⟨v0, hv0⟩ : ∃ v0, ys[k]? = some v0 := ⟨_, List.getElem?_eq_getElem (by omega)⟩
            have hcell : wr.cell? ⟨gy, k, none⟩ = some v0 := by rw [hoy.cellAt k (by omega), hv0]
            have hfr := hoy.frozenAt k
            have HSy := Lib.hid (hoy.stored k (.string ⟨#[63]⟩))
            have hox2 := hox.kept HSy.out.2 (Or.inr (by simp [Value.ownBlock]; omega))
            have hcell2 : (wr.setCell ⟨gy, k, none⟩ (.string ⟨#[63]⟩)).cell? ⟨gx, k, none⟩ = some u0 := by rw [hox2.cellAt k (by omega), hu0]
            have hfr2 := hox2.frozenAt k
            have HSx := Lib.hid (hox2.stored k (.int .i64 (-9)))
            have HOY := Lib.hid (HSy.out.1.kept HSx.out.2 (Or.inr (by simp [Value.ownBlock]; omega)))
            have HB1 := Lib.hid (HBL.out.grown HSy.out.2 hsb (fun j hj => by cases hj; omega))
            have HB2 := Lib.hid (HB1.out.grown HSx.out.2 HB1.out.size (fun j hj => by cases hj; exact hgx))
            clear hox hoy hox2 hxl hyl hu0 hv0
            go_wp2
            go_roundw
            case rel => exact ⟨k + 1, _, _, by omega, by go_num, HSx.out.1, HOY.out, HB2.out⟩
            case measure => simp [intOf]; omega
          · obtain rfl : k = tm.length := by omega
            clear hox hoy
            have KM2 := Lib.hid (KM.out.below HBL.out)
            have KB2 := Lib.hid (below_below KB.out HBL.out KS)
            go_wp2_with fail
            refine (fall_is KM2.out.dc (by omega) (fun s hs => by have := HSIm.out s hs; omega) rfl).mono ?_
            rintro r w9 ⟨A9, c9, rfl, ho9, b9⟩
            have H9 := Lib.hid ((Rd.of_own ho9).wide (Nat.zero_le _) (Nat.le_refl _))
            have KM3 := Lib.hid (KM2.out.below b9)
            have KB3 := Lib.hid (below_below KB2.out b9 KB2.out.size)
            clear ho9 b9
            go_wp2_with fail
            refine (fsame_is tm tm true H9.out KM3.out.rd rfl rfl (decide_eq_true rfl)).mono ?_
            rintro r wa ⟨rfl, ma, rfl⟩
            go_wp2_with fail
            go_ret
            exact ⟨rfl, below_drewN' KB3.out _⟩

set_option maxRecDepth 100000 in
theorem seekAll_lifted (os : Os) (started : os.Started) (H : Type) (enc : TypeId × Value → H) :
    ReturnsInHanded {} Try.checked os 7 .any (Rows.seekAllSpec.pre6 enc Try.prog Try.f7 Rows.seekAllRow.domain false) (Rows.seekAllSpec.post enc Try.prog Try.f7 false true false false) := by
  refine returnsInHanded_of_change (C := Try.checked) own started (by kernel_rfl) Try.func7
    (ChangeSpec.witness6 (enc := enc) (C := Try.checked) false ⟨#[], #[.slice none 0 0], []⟩ 8 (by kernel_rfl) (by kernel_rfl) (by kernel_rfl) (by kernel_rfl)) ?_
  intro W base args ds gs before hval0 hW hcnd _
  have hval : ∀ (j : Nat) t v, Try.f7.params[j]? = some t → args[j]? = some v → Value.okWide Try.prog W .any base t v := hval0
  have hW' := hW
  obtain ⟨p, q, hA0, hV, rfl, hfz, hnd⟩ := hW
  have hA : DataW.TrodAll enc Try.prog W 0 (fun _ => true) true Try.f7.params.toList args.toList ds p := hA0
  have hA1 : DataW.TrodAll enc Try.prog W 0 (fun _ => true) true Try.f7.params.toList args.toList ds p := hA0
  rw [Try.params7] at hA hval
  obtain ⟨v0, vs0, d0, ds0, p0, q0, hargs, rfl, rfl, h0, r0⟩ := trodAll_cons hA
  obtain ⟨rfl, rfl, rfl⟩ := trodAll_nil r0
  obtain rfl : args = #[v0] := by cases args; simp_all
  obtain ⟨rfl, rfl⟩ := trodVars_none hV
  obtain ⟨A0, a0, c0, rfl, w0⟩ := open_strs Try.underlying22 Try.underlying9 (by kernel_rfl) (hval 0 22 v0 rfl rfl) h0
  clear hA0 hval0
  refine (seekAll_walk (w := W) w0).mono fun e W' ⟨he, bel⟩ => ?_
  subst he
  exact ⟨_, rfl, _, _, _, [], _, [], hW', trodAll_mk1 (shut_bool Try.underlying4 _), trodAll_below laidOut bel _ _ _ _ (by kernel_rfl) hA1, rfl, bel.frame _, fun h => by cases h⟩

theorem seekAll_over : Rows.seekAllRow.holds Try.pinned (OpenSpec.ofChange Rows.seekAllSpec) :=
  OpenClaim.holds_of_wide 7 Try.f7 rfl rfl rfl rfl rfl rfl rfl ⟨rfl, rfl, rfl, rfl, rfl⟩ rfl rfl rfl rfl rfl (by kernel_rfl) Try.func7 (by kernel_rfl)
    (of_decide_eq_true (by kernel_rfl)) (by unfold Func.isWrapper; first | (rw [if_pos (by decide +kernel)]; kernel_rfl) | (rw [if_neg (by decide +kernel)]; exact ⟨rfl, rfl⟩))
    (fun os started H enc _ => seekAll_lifted os started H enc)

/-- The statement. -/
theorem seekAll_proved : Rows.SeekAllSaid := seekAll_over


end Go.Proofs.Ytihlbcnoficpgaa
