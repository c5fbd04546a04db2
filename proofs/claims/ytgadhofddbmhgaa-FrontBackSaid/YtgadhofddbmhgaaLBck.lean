/-
  Proved: FrontBack of layer 13: what is built is opened as it was, each string got by its place; nothing is left; its bytes are few; what came in reads as it did. Conditions: none of our own.
-/
import Derived.Test.YtgadhofddbmhgaaFtW
import Derived.Test.YtgadhofddbmhgaaShellT
import Derived.Test.YtgadhofddbmhgaaShell
import Derived.Deep.RegionHeld3
namespace Go.Proofs.Ytgadhofddbmhgaa
set_option linter.unusedSimpArgs false
set_option linter.unusedVariables false
open Go.ChangeShapes Go.WideShapes Go.ChangeAt Go.RowKit
open Go.ChangeMaps (open_string shut_string)

theorem total_few {t : List ByteArray} {m : Nat} (h : ∀ s ∈ t, s.size ≤ m) : total t ≤ m * t.length := by
  induction t with
  | nil => simp [total]
  | cons s t ih =>
    have h1 := h s List.mem_cons_self
    have h2 := ih fun x hx => h x (List.mem_cons_of_mem _ hx)
    rw [total, List.length_cons, Nat.mul_add]
    omega

set_option maxRecDepth 20000 in
set_option maxHeartbeats 4000000 in
theorem frontBack_walk {w : World} {A : Option Addr} {l : List ByteArray} {c : Nat} (h : Rd w 0 w.heap.size A c (sv l) ∧ ∀ s ∈ l, s.size ≤ maxLen) (b : UInt8) :
    Calls Try.prog 5 #[.slice A l.length c, .int .u8 (b.toNat : Int)] w fun e w' => e = .returned (.bool true) ∧ Below w.heap.size w w' := by
  obtain ⟨h, hz⟩ := h
  have Hl_w := Lib.hid h
  have HZ := Lib.hid hz
  have hl := h.len
  have hm := h.cap
  rw [sv_length] at hl
  unfold maxLen at hm
  clear h hz
  by_cases hf : FewD l
  · obtain ⟨hl150, hs5⟩ := few_facts hf
    have HFW : Hid (decide (FewD l) = true) := decide_eq_true hf
    have HS5 := Lib.hid hs5
    clear hf hs5
    obtain ⟨K, hKb⟩ : ∃ K, 1 + b.toNat % 64 = K := ⟨_, rfl⟩
    have hK1 : 1 ≤ K ∧ K ≤ 64 := by omega
    have HKB := Lib.hid hKb
    clear hKb
    go_enter Try.func5, Try.ntmps5
    go_wp2_with fail
    refine (awake13_any (w := _)).mono ?_
    rintro r w1 ⟨rfl, b_w1⟩
    have Hl_w1 := Lib.hid ((Hl_w.out.below b_w1 (Nat.le_refl _)).wide (Nat.zero_le _) b_w1.size)
    have HB_w1 := Lib.hid b_w1
    have S_w1 := HB_w1.out.size
    clear b_w1 Hl_w  
    go_wp2_with fail
    refine (fewd_is l true Hl_w1.out HFW.out).mono ?_
    rintro r wq ⟨rfl, rfl⟩
    go_wp2_with fail
    refine (refsorted_is l Hl_w1.out HS5.out (by decide) (by omega) rfl).mono ?_
    rintro r w2 ⟨t, A_w2, c_w2, rfl, hts, ho_w2, b_w2⟩
    have Hl_w2 := Lib.hid ((Hl_w1.out.below b_w2 (Nat.le_refl _)).wide (Nat.zero_le _) b_w2.size)
    have HB_w2 := Lib.hid (below_below HB_w1.out b_w2 S_w1)
    have S_w2 := HB_w2.out.size
    have Ht_w2 := Lib.hid ((Rd.of_own ho_w2).wide (Nat.zero_le _) (Nat.le_refl _))
    clear b_w2 Hl_w1 HB_w1 ho_w2  
    obtain ⟨htr, ht5, htl⟩ := hts
    have HT5 := Lib.hid ht5
    have HTR := Lib.hid htr
    have ht150 : t.length ≤ 150 := by omega
    clear ht5 htr htl
    obtain ⟨dv, hdv⟩ : ∃ v, dicL (bytL2 t) = v := ⟨_, rfl⟩
    have HDV := Lib.hid hdv
    clear hdv
    cases dv with
    | true =>
      obtain ⟨F, hF⟩ : ∃ F, frontL K (bytL2 t) = F := ⟨_, rfl⟩
      have HF := Lib.hid hF
      have hFp : 0 < F.length := by rw [← hF]; exact front_pos
      obtain ⟨T0, hT0⟩ : ∃ q, total t = q := ⟨_, rfl⟩
      have hT0b : T0 ≤ 750000 := by
        have h2 := total_few HT5.out
        have h3 := Nat.mul_le_mul_left 5000 ht150
        omega
      have hFl : F.length ≤ T0 + 10 * t.length + 10 := by
        have h1 := front_len (K := K) (by omega) HDV.out
        rw [hF, sum_total, bytL2_length, hT0] at h1
        exact h1
      have HO : Hid (openR F 0 0 = (bytL2 t, F.length, 0)) := by
        have h1 := openR_there (bs := F) (rest := []) (k := 0) (K := K) (l := bytL2 t) (Nat.zero_le _) hK1.1 hK1.2 HDV.out (by rw [hF]; simp)
        rw [hF, Nat.zero_add] at h1
        exact h1
      have HT0 := Lib.hid hT0
      have hend : endR F F.length 0 = 0 := by simp [endR]
      have HEND := Lib.hid hend
      clear hF hT0 hend
      go_wp2_with fail
      refine (fbuildK_is t _ K F Ht_w2.out HDV.out hK1 HF.out rfl (by have := HKB.out; omega)).mono ?_
      rintro r w3 ⟨A_w3, c_w3, rfl, ho_w3, b_w3⟩
      have Hl_w3 := Lib.hid ((Hl_w2.out.below b_w3 (Nat.le_refl _)).wide (Nat.zero_le _) b_w3.size)
      have Ht_w3 := Lib.hid ((Ht_w2.out.below b_w3 (Nat.le_refl _)).wide (Nat.zero_le _) b_w3.size)
      have HB_w3 := Lib.hid (below_below HB_w2.out b_w3 S_w2)
      have S_w3 := HB_w3.out.size
      have Hb_w3 := Lib.hid ((Rd.of_own ho_w3).wide (Nat.zero_le _) (Nat.le_refl _))
      clear b_w3 Hl_w2 Ht_w2 HB_w2 ho_w3  
      go_wp2_with fail
      refine (fnew_is F Hb_w3.out (by omega) rfl).mono ?_
      rintro r wn ⟨g, rfl, hcn, hbn⟩
      have HCN := Lib.hid hcn
      have HBN := Lib.hid hbn
      clear hcn hbn
      go_wp2_with fail
      refine (fopen_is (wo := w3) HCN.out (by omega) HBN.out (bytL2 t) F.length 0 HO.out).mono ?_
      rintro r w5 ⟨d, rfl, hdc, hcu, b_w5⟩
      clear HCN HBN
      rw [strsL_bytL2'] at hdc
      have Hl_w5 := Lib.hid ((Hl_w3.out.below b_w5 (Nat.le_refl _)).wide (Nat.zero_le _) b_w5.size)
      have Ht_w5 := Lib.hid ((Ht_w3.out.below b_w5 (Nat.le_refl _)).wide (Nat.zero_le _) b_w5.size)
      have Hb_w5 := Lib.hid ((Hb_w3.out.below b_w5 (Nat.le_refl _)).wide (Nat.zero_le _) b_w5.size)
      have HB_w5 := Lib.hid (below_below HB_w3.out b_w5 S_w3)
      have S_w5 := HB_w5.out.size
      clear b_w5 Hl_w3 Ht_w3 Hb_w3 HB_w3  
      have HC_w5 := Lib.hid hcu
      have HD_w5 := Lib.hid hdc
      clear hcu hdc
      go_wp2_with fail
      refine (fend_is HC_w5.out HEND.out).mono ?_
      rintro r w6 ⟨rfl, m_w6, rfl⟩
      have HC_w6 : Hid (Cur (w5.drewN m_w6) w3.heap.size g F F.length 0) := HC_w5.out.drewN m_w6
      have HD_w6 : Hid (Dc (w5.drewN m_w6) d t) := HD_w5.out.drewN m_w6
      obtain ⟨w6, hw_w6⟩ : ∃ q, w5.drewN m_w6 = q := ⟨_, rfl⟩
      have Hl_w6 : Hid (Rd w6 0 w6.heap.size A c (sv l)) := by unfold Hid; rw [← hw_w6]; exact Hl_w5.out.drewN m_w6
      have Ht_w6 : Hid (Rd w6 0 w6.heap.size A_w2 c_w2 (sv t)) := by unfold Hid; rw [← hw_w6]; exact Ht_w5.out.drewN m_w6
      have Hb_w6 : Hid (Rd w6 0 w6.heap.size A_w3 c_w3 (bv F)) := by unfold Hid; rw [← hw_w6]; exact Hb_w5.out.drewN m_w6
      have HB_w6 : Hid (Below w.heap.size w w6) := by unfold Hid; rw [← hw_w6]; exact below_drewN' HB_w5.out m_w6
      have S_w6 := HB_w6.out.size
      rw [hw_w6] at HC_w6 HD_w6
      rw [hw_w6]
      clear hw_w6 Hl_w5 Ht_w5 Hb_w5 HB_w5
      clear HC_w5 HD_w5
      go_wp2_with fail
      refine (flen_is HD_w6.out rfl).mono ?_
      rintro r wq ⟨rfl, rfl⟩
      go_wp2_with fail
      refine (fall_is HD_w6.out (by omega) (fun s hs => by have := HT5.out s hs; omega) rfl).mono ?_
      rintro r w7 ⟨A7, c7, rfl, ho_w7, b_w7⟩
      have HC_w7 := Lib.hid (HC_w6.out.behind b_w7 HC_w6.out.lt)
      have HD_w7 := Lib.hid (HD_w6.out.below b_w7 (Nat.le_refl _))
      have Hl_w7 := Lib.hid ((Hl_w6.out.below b_w7 (Nat.le_refl _)).wide (Nat.zero_le _) b_w7.size)
      have Ht_w7 := Lib.hid ((Ht_w6.out.below b_w7 (Nat.le_refl _)).wide (Nat.zero_le _) b_w7.size)
      have Hb_w7 := Lib.hid ((Hb_w6.out.below b_w7 (Nat.le_refl _)).wide (Nat.zero_le _) b_w7.size)
      have HB_w7 := Lib.hid (below_below HB_w6.out b_w7 S_w6)
      have S_w7 := HB_w7.out.size
      have Hx_w7 := Lib.hid ((Rd.of_own ho_w7).wide (Nat.zero_le _) (Nat.le_refl _))
      clear b_w7 Hl_w6 Ht_w6 Hb_w6 HB_w6 ho_w7  HC_w6 HD_w6
      go_wp2_with fail
      refine (fsame_is t t true Hx_w7.out Ht_w7.out rfl rfl (decide_eq_true rfl)).mono ?_
      rintro r w8 ⟨rfl, m_w8, rfl⟩
      have HC_w8 : Hid (Cur (w7.drewN m_w8) w3.heap.size g F F.length 0) := HC_w7.out.drewN m_w8
      have HD_w8 : Hid (Dc (w7.drewN m_w8) d t) := HD_w7.out.drewN m_w8
      obtain ⟨w8, hw_w8⟩ : ∃ q, w7.drewN m_w8 = q := ⟨_, rfl⟩
      have Hl_w8 : Hid (Rd w8 0 w8.heap.size A c (sv l)) := by unfold Hid; rw [← hw_w8]; exact Hl_w7.out.drewN m_w8
      have Ht_w8 : Hid (Rd w8 0 w8.heap.size A_w2 c_w2 (sv t)) := by unfold Hid; rw [← hw_w8]; exact Ht_w7.out.drewN m_w8
      have Hb_w8 : Hid (Rd w8 0 w8.heap.size A_w3 c_w3 (bv F)) := by unfold Hid; rw [← hw_w8]; exact Hb_w7.out.drewN m_w8
      have Hx_w8 : Hid (Rd w8 0 w8.heap.size A7 c7 (sv t)) := by unfold Hid; rw [← hw_w8]; exact Hx_w7.out.drewN m_w8
      have HB_w8 : Hid (Below w.heap.size w w8) := by unfold Hid; rw [← hw_w8]; exact below_drewN' HB_w7.out m_w8
      have S_w8 := HB_w8.out.size
      rw [hw_w8] at HC_w8 HD_w8
      rw [hw_w8]
      clear hw_w8 Hl_w7 Ht_w7 Hb_w7 Hx_w7 HB_w7
      clear HC_w7 HD_w7
      have htl2 := Ht_w8.out.len
      have htm2 := Ht_w8.out.cap
      rw [sv_length] at htl2
      unfold maxLen at htm2
      go_wp2_with fail
      go_loopw [11, 12] (fun x11 x12 wr => ∃ i q : Nat, i ≤ t.length ∧ x12 = .int .i64 (i : Int) ∧ x11 = .int .i64 (q : Int) ∧ q = total (t.take i) ∧ Below w8.heap.size w8 wr) (fun _ i _ => t.length - (intOf i).toNat)
      case atStart => exact ⟨0, 0, Nat.zero_le _, rfl, rfl, rfl, Below.refl _ _⟩
      case round =>
        obtain ⟨i, q, hi, rfl, rfl, hq, hbr⟩ := hrel
        have HBR := Lib.hid hbr
        have HQ := Lib.hid hq
        have hszr := hbr.size
        have hqb : q ≤ T0 := by rw [hq, ← HT0.out]; exact total_le t i
        clear hq hbr
        by_cases hlt : i < t.length
        · have ii : (i : Int) < (t.length : Int) := by omega
          have hts := HT5.out t[i] (List.getElem_mem hlt)
          have HTK := Lib.hid (total_take hlt)
          have HD_r := Lib.hid (HD_w8.out.below HBR.out (Nat.le_refl _))
          have HAT := Lib.hid (fat_is (z := (i : Int)) t[i] (HD_r.out.drewN 1) hlt (by omega) rfl rfl)
          obtain ⟨bt, off, hA2, _, hbt, hcell⟩ := (Ht_w8.out.below HBR.out (Nat.le_refl _)).str hlt
          subst hA2
          generalize t[i] = s at *
          have hbt2 : bt < wr.heap.size := by omega
          go_wp2_with fail
          go_region_held3 (fun w' => w'.cell? ⟨bt, off + i, none⟩ = some (.string s)) (first | assumption | go_keep) (first
            | (go_at_call 23; refine HAT.out.mono ?_; rintro r wa ⟨rfl, hba⟩; have hcell2 : wa.cell? ⟨bt, off + i, none⟩ = some (.string s) := (hba.cell (p := ⟨bt, off + i, none⟩) hbt2).trans hcell; have HBA : Hid (Below w8.heap.size w8 wa) := HBR.out.trans (((below_drewN' (Below.refl _ wr) 1).trans hba).mono hszr); clear hba))
          go_wp2_with fail
          go_roundw
          case rel => exact ⟨i + 1, q + s.size, by omega, by go_num, by go_num, by rw [HTK.out, HQ.out], HBA.out⟩
          case measure => simp [intOf] <;> omega
        · have ii : ¬ (i : Int) < (t.length : Int) := by omega
          have hqe : q = T0 := by rw [HQ.out, ← HT0.out, show i = t.length by omega, List.take_length]
          have HD_r := Lib.hid (HD_w8.out.below HBR.out (Nat.le_refl _))
          have hle : (F.length : Int) ≤ (q : Int) + 10 * (t.length : Int) + 10 := by omega
          have dle : decide ((F.length : Int) ≤ (q : Int) + 10 * (t.length : Int) + 10) = true := decide_eq_true hle
          clear hqe
          go_wp2_with fail
          refine (fat_out HD_r.out (-1) (by omega)).mono ?_
          rintro r wq ⟨rfl, rfl⟩
          go_wp2_with fail
          refine (fat_out HD_r.out (t.length : Int) (by omega)).mono ?_
          rintro r wq ⟨rfl, rfl⟩
          go_wp2_with fail
          go_ret
          exact ⟨rfl, below_below HB_w8.out HBR.out S_w8⟩
    | false =>
      go_wp2_with fail
      refine (fbuildK_not t _ Ht_w2.out (fun s hs => by have := HT5.out s hs; omega) HDV.out rfl).mono ?_
      rintro r wq ⟨rfl, rfl⟩
      go_wp2_with fail
      refine (rightd_is t _ false Ht_w2.out (fun s hs => by have := HT5.out s hs; omega) (by unfold rightD; rw [HDV.out, Bool.and_false]) rfl).mono ?_
      rintro r w3 ⟨rfl, m_w3, rfl⟩
      obtain ⟨w3, hw_w3⟩ : ∃ q, w2.drewN m_w3 = q := ⟨_, rfl⟩
      have Hl_w3 : Hid (Rd w3 0 w3.heap.size A c (sv l)) := by unfold Hid; rw [← hw_w3]; exact Hl_w2.out.drewN m_w3
      have Ht_w3 : Hid (Rd w3 0 w3.heap.size A_w2 c_w2 (sv t)) := by unfold Hid; rw [← hw_w3]; exact Ht_w2.out.drewN m_w3
      have HB_w3 : Hid (Below w.heap.size w w3) := by unfold Hid; rw [← hw_w3]; exact below_drewN' HB_w2.out m_w3
      have S_w3 := HB_w3.out.size
      rw [hw_w3]
      clear hw_w3 Hl_w2 Ht_w2 HB_w2
      go_wp2_with fail
      go_ret
      exact ⟨rfl, HB_w3.out⟩
  · have HNF : Hid (decide (FewD l) = false) := decide_eq_false hf
    clear hf
    go_enter Try.func5, Try.ntmps5
    go_wp2_with fail
    refine (awake13_any (w := _)).mono ?_
    rintro r w1 ⟨rfl, b_w1⟩
    have Hl_w1 := Lib.hid ((Hl_w.out.below b_w1 (Nat.le_refl _)).wide (Nat.zero_le _) b_w1.size)
    have HB_w1 := Lib.hid b_w1
    have S_w1 := HB_w1.out.size
    clear b_w1 Hl_w  
    go_wp2_with fail
    refine (fewd_is l false Hl_w1.out HNF.out).mono ?_
    rintro r wq ⟨rfl, rfl⟩
    go_wp2_with fail
    refine (awake13_any (w := _)).mono ?_
    rintro r w2 ⟨rfl, b_w2⟩
    have Hl_w2 := Lib.hid ((Hl_w1.out.below b_w2 (Nat.le_refl _)).wide (Nat.zero_le _) b_w2.size)
    have HB_w2 := Lib.hid (below_below HB_w1.out b_w2 S_w1)
    have S_w2 := HB_w2.out.size
    clear b_w2 Hl_w1 HB_w1  
    go_wp2_with fail
    go_ret
    exact ⟨rfl, HB_w2.out⟩

set_option maxRecDepth 100000 in
theorem frontBack_lifted (os : Os) (started : os.Started) (H : Type) (enc : TypeId × Value → H) :
    ReturnsInHanded {} Try.checked os 5 .any (Rows.frontBackSpec.pre6 enc Try.prog Try.f5 Rows.frontBackRow.domain false) (Rows.frontBackSpec.post enc Try.prog Try.f5 false true false false) := by
  refine returnsInHanded_of_change (C := Try.checked) own started (by kernel_rfl) Try.func5
    (ChangeSpec.witness6 (enc := enc) (C := Try.checked) false ⟨#[], #[.slice none 0 0, .int .u8 0], []⟩ 8 (by kernel_rfl) (by kernel_rfl) (by kernel_rfl) (by kernel_rfl)) ?_
  intro W base args ds gs before hval0 hW hcnd _
  have hval : ∀ (j : Nat) t v, Try.f5.params[j]? = some t → args[j]? = some v → Value.okWide Try.prog W .any base t v := hval0
  have hW' := hW
  obtain ⟨p, q, hA0, hV, rfl, hfz, hnd⟩ := hW
  have hA : DataW.TrodAll enc Try.prog W 0 (fun _ => true) true Try.f5.params.toList args.toList ds p := hA0
  have hA1 : DataW.TrodAll enc Try.prog W 0 (fun _ => true) true Try.f5.params.toList args.toList ds p := hA0
  rw [Try.params5] at hA hval
  obtain ⟨v0, vs0, d0, ds0, p0, q0, hargs, rfl, rfl, h0, r0⟩ := trodAll_cons hA
  obtain ⟨v1, vs1, d1, ds1, p1, q1, rfl, rfl, rfl, h1, r1⟩ := trodAll_cons r0
  obtain ⟨rfl, rfl, rfl⟩ := trodAll_nil r1
  obtain rfl : args = #[v0, v1] := by cases args; simp_all
  obtain ⟨rfl, rfl⟩ := trodVars_none hV
  obtain ⟨A0, a0, c0, rfl, w0⟩ := open_strs Try.underlying22 Try.underlying9 (by kernel_rfl) (hval 0 22 v0 rfl rfl) h0
  obtain ⟨a1, rfl, rfl, rfl, w1⟩ := open_int Try.underlying5 (hval 1 5 v1 rfl rfl) h1
  obtain ⟨b1, rfl⟩ := u8_of_wf w1
  clear hA0 hval0
  refine (frontBack_walk (w := W) w0 b1).mono fun e W' ⟨he, bel⟩ => ?_
  subst he
  exact ⟨_, rfl, _, _, _, [], _, [], hW', trodAll_mk1 (shut_bool Try.underlying4 _), trodAll_below laidOut bel _ _ _ _ (by kernel_rfl) hA1, rfl, bel.frame _, fun h => by cases h⟩

theorem frontBack_over : Rows.frontBackRow.holds Try.pinned (OpenSpec.ofChange Rows.frontBackSpec) :=
  OpenClaim.holds_of_wide 5 Try.f5 rfl rfl rfl rfl rfl rfl rfl ⟨rfl, rfl, rfl, rfl, rfl⟩ rfl rfl rfl rfl rfl (by kernel_rfl) Try.func5 (by kernel_rfl)
    (of_decide_eq_true (by kernel_rfl)) (by unfold Func.isWrapper; first | (rw [if_pos (by decide +kernel)]; kernel_rfl) | (rw [if_neg (by decide +kernel)]; exact ⟨rfl, rfl⟩))
    (fun os started H enc _ => frontBack_lifted os started H enc)

/-- The statement. -/
theorem frontBack_proved : Rows.FrontBackSaid := frontBack_over


end Go.Proofs.Ytgadhofddbmhgaa
