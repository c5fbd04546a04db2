/-
  Proved: FrontKeeps of layer 13: what Build and Open are handed stays and isn't kept, and what All answers may be written into; what came in reads as it did. Conditions: none of our own.
-/
import Derived.Test.YtgadhofddbmhgaaFtW
import Derived.Test.YtgadhofddbmhgaaShellT
import Derived.Test.YtgadhofddbmhgaaShell
namespace Go.Proofs.Ytgadhofddbmhgaa
set_option linter.unusedSimpArgs false
set_option linter.unusedVariables false
open Go.ChangeShapes Go.WideShapes Go.ChangeAt Go.RowKit
open Go.ChangeMaps (open_string shut_string)

theorem total_few {t : List ByteArray} {m : Nat} (h : ∀ s ∈ t, s.size ≤ m) : total t ≤ m * t.length := by
  induction t with
  | nil => simp [total]
  | cons s t ih =>
    have h1 := h s List.mem_cons_self
    have h2 := ih fun x hx => h x (List.mem_cons_of_mem _ hx)
    rw [total, List.length_cons, Nat.mul_add]
    omega

set_option maxRecDepth 20000 in
set_option maxHeartbeats 4000000 in
theorem frontKeeps_walk {w : World} {A : Option Addr} {l : List ByteArray} {c : Nat} (h : Rd w 0 w.heap.size A c (sv l) ∧ ∀ s ∈ l, s.size ≤ maxLen) :
    Calls Try.prog 7 #[.slice A l.length c] w fun e w' => e = .returned (.bool true) ∧ Below w.heap.size w w' := by
  obtain ⟨h, hz⟩ := h
  have Hl_w := Lib.hid h
  have HZ := Lib.hid hz
  have hl := h.len
  have hm := h.cap
  rw [sv_length] at hl
  unfold maxLen at hm
  clear h hz
  by_cases hf : FewD l
  · obtain ⟨hl150, hs5⟩ := few_facts hf
    have HFW : Hid (decide (FewD l) = true) := decide_eq_true hf
    have HS5 := Lib.hid hs5
    clear hf hs5
    have hK1 : 1 ≤ 3 ∧ 3 ≤ 64 := by omega
    go_enter Try.func7, Try.ntmps7
    go_wp2_with fail
    refine (awake13_any (w := _)).mono ?_
    rintro r w1 ⟨rfl, b_w1⟩
    have Hl_w1 := Lib.hid ((Hl_w.out.below b_w1 (Nat.le_refl _)).wide (Nat.zero_le _) b_w1.size)
    have HB_w1 := Lib.hid b_w1
    have S_w1 := HB_w1.out.size
    clear b_w1 Hl_w  
    go_wp2_with fail
    refine (fewd_is l true Hl_w1.out HFW.out).mono ?_
    rintro r wq ⟨rfl, rfl⟩
    go_wp2_with fail
    refine (refsorted_is l Hl_w1.out HS5.out (by decide) (by omega) rfl).mono ?_
    rintro r w2 ⟨t, A_w2, c_w2, rfl, hts, ho_w2, b_w2⟩
    have Hl_w2 := Lib.hid ((Hl_w1.out.below b_w2 (Nat.le_refl _)).wide (Nat.zero_le _) b_w2.size)
    have HB_w2 := Lib.hid (below_below HB_w1.out b_w2 S_w1)
    have S_w2 := HB_w2.out.size
    have Ht_w2 := Lib.hid ((Rd.of_own ho_w2).wide (Nat.zero_le _) (Nat.le_refl _))
    clear b_w2 Hl_w1 HB_w1 ho_w2  
    obtain ⟨htr, ht5, htl⟩ := hts
    have HT5 := Lib.hid ht5
    have HTR := Lib.hid htr
    have ht150 : t.length ≤ 150 := by omega
    clear ht5 htr htl
    obtain ⟨dv, hdv⟩ : ∃ v, dicL (bytL2 t) = v := ⟨_, rfl⟩
    have HDV := Lib.hid hdv
    clear hdv
    obtain ⟨A3, c3, w3, hrun3, ho_w3, hg3⟩ := append_strs (w2.alloc (.cells #[] 9)) w2.heap.size (.slice (some ⟨w2.heap.size, 0, none⟩) 0 0) [] t t (List.nil_append _) (own_none' w2 _) (Ht_w2.out.alloc (Nat.le_refl _) _) (by simp; omega) (by simp)
    have b_w3 : Below w2.heap.size w2 w3 := ((Below.refl _ w2).alloc (Nat.le_refl _) _).grown hg3 (by simp) (by simp [Value.ownBlock])
    have HRUN3 := Lib.hid hrun3
    clear hrun3 hg3
    have Hl_w3 := Lib.hid ((Hl_w2.out.below b_w3 (Nat.le_refl _)).wide (Nat.zero_le _) b_w3.size)
    have Ht_w3 := Lib.hid ((Ht_w2.out.below b_w3 (Nat.le_refl _)).wide (Nat.zero_le _) b_w3.size)
    have HB_w3 := Lib.hid (below_below HB_w2.out b_w3 S_w2)
    have S_w3 := HB_w3.out.size
    have Hv_w3 := Lib.hid ((Rd.of_own ho_w3).wide (Nat.zero_le _) (Nat.le_refl _))
    clear b_w3 Hl_w2 Ht_w2 HB_w2 ho_w3  
    go_wp2_with (at_builtin; refine wpList_append_run rfl _ _ _ _ rfl rfl rfl HRUN3.out ?_)
    clear HRUN3
    cases dv with
    | true =>
      obtain ⟨F, hF⟩ : ∃ F, frontL 3 (bytL2 t) = F := ⟨_, rfl⟩
      have HF := Lib.hid hF
      have hFl : F.length ≤ 10000000 := by
        have h1 := front_len (K := 3) (by omega) HDV.out
        rw [hF, sum_total, bytL2_length] at h1
        have h2 := total_few HT5.out
        have h3 := Nat.mul_le_mul_left 5000 ht150
        omega
      have HO : Hid (openR F 0 0 = (bytL2 t, F.length, 0)) := by
        have h1 := openR_there (bs := F) (rest := []) (k := 0) (K := 3) (l := bytL2 t) (Nat.zero_le _) hK1.1 hK1.2 HDV.out (by rw [hF]; simp)
        rw [hF, Nat.zero_add] at h1
        exact h1
      clear hF
      go_wp2_with fail
      refine (fbuildK_is t _ 3 F Ht_w3.out HDV.out hK1 HF.out rfl rfl).mono ?_
      rintro r w4 ⟨A_w4, c_w4, rfl, ho_w4, b_w4⟩
      have Hl_w4 := Lib.hid ((Hl_w3.out.below b_w4 (Nat.le_refl _)).wide (Nat.zero_le _) b_w4.size)
      have Ht_w4 := Lib.hid ((Ht_w3.out.below b_w4 (Nat.le_refl _)).wide (Nat.zero_le _) b_w4.size)
      have Hv_w4 := Lib.hid ((Hv_w3.out.below b_w4 (Nat.le_refl _)).wide (Nat.zero_le _) b_w4.size)
      have HB_w4 := Lib.hid (below_below HB_w3.out b_w4 S_w3)
      have S_w4 := HB_w4.out.size
      have Hb_w4 := Lib.hid ((Rd.of_own ho_w4).wide (Nat.zero_le _) (Nat.le_refl _))
      clear b_w4 Hl_w3 Ht_w3 Hv_w3 HB_w3 ho_w4  
      go_wp2_with fail
      refine (fnew_is F Hb_w4.out (by omega) rfl).mono ?_
      rintro r wn ⟨g, rfl, hcn, hbn⟩
      have HCN := Lib.hid hcn
      have HBN := Lib.hid hbn
      clear hcn hbn
      go_wp2_with fail
      refine (fopen_is (wo := w4) HCN.out (by omega) HBN.out (bytL2 t) F.length 0 HO.out).mono ?_
      rintro r w5 ⟨d, rfl, hdc, hcu, b_w5⟩
      clear HCN HBN
      rw [strsL_bytL2'] at hdc
      have Hl_w5 := Lib.hid ((Hl_w4.out.below b_w5 (Nat.le_refl _)).wide (Nat.zero_le _) b_w5.size)
      have Ht_w5 := Lib.hid ((Ht_w4.out.below b_w5 (Nat.le_refl _)).wide (Nat.zero_le _) b_w5.size)
      have Hv_w5 := Lib.hid ((Hv_w4.out.below b_w5 (Nat.le_refl _)).wide (Nat.zero_le _) b_w5.size)
      have Hb_w5 := Lib.hid ((Hb_w4.out.below b_w5 (Nat.le_refl _)).wide (Nat.zero_le _) b_w5.size)
      have HB_w5 := Lib.hid (below_below HB_w4.out b_w5 S_w4)
      have S_w5 := HB_w5.out.size
      clear b_w5 Hl_w4 Ht_w4 Hv_w4 Hb_w4 HB_w4  
      have HC_w5 := Lib.hid hcu
      have HD_w5 := Lib.hid hdc
      clear hcu hdc
      go_wp2_with fail
      refine (fall_is HD_w5.out (by omega) (fun s hs => by have := HT5.out s hs; omega) rfl).mono ?_
      rintro r w6 ⟨A6, c6, rfl, ho6, b6⟩
      have HO6 := Lib.hid ho6
      have B6 := Lib.hid b6
      clear ho6 b6
      go_wp2_with fail
      go_loopw [9] (fun i wq => ∃ (k : Nat) (xs : List Value), k ≤ t.length ∧ i = .int .i64 (k : Int) ∧ wq.ownsRow w5.heap.size 9 1 (.slice A6 t.length c6) t.length xs ∧ Below w5.heap.size w5 wq) (fun i _ => t.length - (intOf i).toNat)
      case atStart => exact ⟨0, _, Nat.zero_le _, rfl, HO6.out, B6.out⟩
      case round =>
        obtain ⟨k, xs, hk, rfl, hown, hbl⟩ := hrel
        have HBL := Lib.hid hbl
        clear hbl
        by_cases hlt : k < t.length
        · obtain ⟨go, rfl, hgo, hgo2⟩ := own_spot hown (by omega)
          have hxl : xs.length = t.length := by simpa using hown.1
          obtain ⟨u0, hu0⟩ : ∃ u0, xs[k]? = some u0 := ⟨_, List.getElem?_eq_getElem (by omega)⟩
          have hcell : wr.cell? ⟨go, k, none⟩ = some u0 := by rw [hown.cellAt k (by omega), hu0]
          have hfr := hown.frozenAt k
          have HS := fun u => Lib.hid (hown.stored k u)
          have hsb := HBL.out.size
          clear hown hxl hu0
          go_wp2
          go_roundw
          case rel => exact ⟨k + 1, _, by omega, by go_num, (HS _).out.1, HBL.out.grown (HS _).out.2 hsb (fun j hj => by cases hj; exact hgo)⟩
          case measure => simp [intOf]; omega
        · obtain rfl : k = t.length := by omega
          clear hown
          obtain ⟨w7, hwq⟩ : ∃ q, q = wr := ⟨_, rfl⟩
          subst hwq
          have b_w7 := HBL.out
          have HC_w7 := Lib.hid (HC_w5.out.behind b_w7 HC_w5.out.lt)
          have HD_w7 := Lib.hid (HD_w5.out.below b_w7 (Nat.le_refl _))
          have Hl_w7 := Lib.hid ((Hl_w5.out.below b_w7 (Nat.le_refl _)).wide (Nat.zero_le _) b_w7.size)
          have Ht_w7 := Lib.hid ((Ht_w5.out.below b_w7 (Nat.le_refl _)).wide (Nat.zero_le _) b_w7.size)
          have Hv_w7 := Lib.hid ((Hv_w5.out.below b_w7 (Nat.le_refl _)).wide (Nat.zero_le _) b_w7.size)
          have Hb_w7 := Lib.hid ((Hb_w5.out.below b_w7 (Nat.le_refl _)).wide (Nat.zero_le _) b_w7.size)
          have HB_w7 := Lib.hid (below_below HB_w5.out b_w7 S_w5)
          have S_w7 := HB_w7.out.size
          clear b_w7 Hl_w5 Ht_w5 Hv_w5 Hb_w5 HB_w5  HC_w5 HD_w5
          clear HBL
          go_wp2_with fail
          refine (fsame_is t t true Ht_w7.out Hv_w7.out rfl rfl (decide_eq_true rfl)).mono ?_
          rintro r w8 ⟨rfl, m_w8, rfl⟩
          have HC_w8 : Hid (Cur (w7.drewN m_w8) w4.heap.size g F F.length 0) := HC_w7.out.drewN m_w8
          have HD_w8 : Hid (Dc (w7.drewN m_w8) d t) := HD_w7.out.drewN m_w8
          obtain ⟨w8, hw_w8⟩ : ∃ q, w7.drewN m_w8 = q := ⟨_, rfl⟩
          have Hl_w8 : Hid (Rd w8 0 w8.heap.size A c (sv l)) := by unfold Hid; rw [← hw_w8]; exact Hl_w7.out.drewN m_w8
          have Ht_w8 : Hid (Rd w8 0 w8.heap.size A_w2 c_w2 (sv t)) := by unfold Hid; rw [← hw_w8]; exact Ht_w7.out.drewN m_w8
          have Hv_w8 : Hid (Rd w8 0 w8.heap.size A3 c3 (sv t)) := by unfold Hid; rw [← hw_w8]; exact Hv_w7.out.drewN m_w8
          have Hb_w8 : Hid (Rd w8 0 w8.heap.size A_w4 c_w4 (bv F)) := by unfold Hid; rw [← hw_w8]; exact Hb_w7.out.drewN m_w8
          have HB_w8 : Hid (Below w.heap.size w w8) := by unfold Hid; rw [← hw_w8]; exact below_drewN' HB_w7.out m_w8
          have S_w8 := HB_w8.out.size
          rw [hw_w8] at HC_w8 HD_w8
          rw [hw_w8]
          clear hw_w8 Hl_w7 Ht_w7 Hv_w7 Hb_w7 HB_w7
          clear HC_w7 HD_w7
          go_wp2_with fail
          refine (fall_is HD_w8.out (by omega) (fun s hs => by have := HT5.out s hs; omega) rfl).mono ?_
          rintro r w9 ⟨A9, c9, rfl, ho_w9, b_w9⟩
          have HC_w9 := Lib.hid (HC_w8.out.behind b_w9 HC_w8.out.lt)
          have HD_w9 := Lib.hid (HD_w8.out.below b_w9 (Nat.le_refl _))
          have Hl_w9 := Lib.hid ((Hl_w8.out.below b_w9 (Nat.le_refl _)).wide (Nat.zero_le _) b_w9.size)
          have Ht_w9 := Lib.hid ((Ht_w8.out.below b_w9 (Nat.le_refl _)).wide (Nat.zero_le _) b_w9.size)
          have Hv_w9 := Lib.hid ((Hv_w8.out.below b_w9 (Nat.le_refl _)).wide (Nat.zero_le _) b_w9.size)
          have Hb_w9 := Lib.hid ((Hb_w8.out.below b_w9 (Nat.le_refl _)).wide (Nat.zero_le _) b_w9.size)
          have HB_w9 := Lib.hid (below_below HB_w8.out b_w9 S_w8)
          have S_w9 := HB_w9.out.size
          have Hx_w9 := Lib.hid ((Rd.of_own ho_w9).wide (Nat.zero_le _) (Nat.le_refl _))
          clear b_w9 Hl_w8 Ht_w8 Hv_w8 Hb_w8 HB_w8 ho_w9  HC_w8 HD_w8
          go_wp2_with fail
          refine (fsame_is t t true Hx_w9.out Hv_w9.out rfl rfl (decide_eq_true rfl)).mono ?_
          rintro r wa ⟨rfl, m_wa, rfl⟩
          have HC_wa : Hid (Cur (w9.drewN m_wa) w4.heap.size g F F.length 0) := HC_w9.out.drewN m_wa
          have HD_wa : Hid (Dc (w9.drewN m_wa) d t) := HD_w9.out.drewN m_wa
          obtain ⟨wa, hw_wa⟩ : ∃ q, w9.drewN m_wa = q := ⟨_, rfl⟩
          have Hl_wa : Hid (Rd wa 0 wa.heap.size A c (sv l)) := by unfold Hid; rw [← hw_wa]; exact Hl_w9.out.drewN m_wa
          have Ht_wa : Hid (Rd wa 0 wa.heap.size A_w2 c_w2 (sv t)) := by unfold Hid; rw [← hw_wa]; exact Ht_w9.out.drewN m_wa
          have Hv_wa : Hid (Rd wa 0 wa.heap.size A3 c3 (sv t)) := by unfold Hid; rw [← hw_wa]; exact Hv_w9.out.drewN m_wa
          have Hb_wa : Hid (Rd wa 0 wa.heap.size A_w4 c_w4 (bv F)) := by unfold Hid; rw [← hw_wa]; exact Hb_w9.out.drewN m_wa
          have Hx_wa : Hid (Rd wa 0 wa.heap.size A9 c9 (sv t)) := by unfold Hid; rw [← hw_wa]; exact Hx_w9.out.drewN m_wa
          have HB_wa : Hid (Below w.heap.size w wa) := by unfold Hid; rw [← hw_wa]; exact below_drewN' HB_w9.out m_wa
          have S_wa := HB_wa.out.size
          rw [hw_wa] at HC_wa HD_wa
          rw [hw_wa]
          clear hw_wa Hl_w9 Ht_w9 Hv_w9 Hb_w9 Hx_w9 HB_w9
          clear HC_w9 HD_w9
          go_wp2_with fail
          go_ret
          exact ⟨rfl, HB_wa.out⟩
    | false =>
      go_wp2_with fail
      refine (fbuildK_not t _ Ht_w3.out (fun s hs => by have := HT5.out s hs; omega) HDV.out rfl).mono ?_
      rintro r wq ⟨rfl, rfl⟩
      go_wp2_with fail
      go_ret
      exact ⟨rfl, HB_w3.out⟩
  · have HNF : Hid (decide (FewD l) = false) := decide_eq_false hf
    clear hf
    go_enter Try.func7, Try.ntmps7
    go_wp2_with fail
    refine (awake13_any (w := _)).mono ?_
    rintro r w1 ⟨rfl, b_w1⟩
    have Hl_w1 := Lib.hid ((Hl_w.out.below b_w1 (Nat.le_refl _)).wide (Nat.zero_le _) b_w1.size)
    have HB_w1 := Lib.hid b_w1
    have S_w1 := HB_w1.out.size
    clear b_w1 Hl_w  
    go_wp2_with fail
    refine (fewd_is l false Hl_w1.out HNF.out).mono ?_
    rintro r wq ⟨rfl, rfl⟩
    go_wp2_with fail
    refine (awake13_any (w := _)).mono ?_
    rintro r w2 ⟨rfl, b_w2⟩
    have Hl_w2 := Lib.hid ((Hl_w1.out.below b_w2 (Nat.le_refl _)).wide (Nat.zero_le _) b_w2.size)
    have HB_w2 := Lib.hid (below_below HB_w1.out b_w2 S_w1)
    have S_w2 := HB_w2.out.size
    clear b_w2 Hl_w1 HB_w1  
    go_wp2_with fail
    go_ret
    exact ⟨rfl, HB_w2.out⟩

set_option maxRecDepth 100000 in
theorem frontKeeps_lifted (os : Os) (started : os.Started) (H : Type) (enc : TypeId × Value → H) :
    ReturnsInHanded {} Try.checked os 7 .any (Rows.frontKeepsSpec.pre6 enc Try.prog Try.f7 Rows.frontKeepsRow.domain false) (Rows.frontKeepsSpec.post enc Try.prog Try.f7 false true false false) := by
  refine returnsInHanded_of_change (C := Try.checked) own started (by kernel_rfl) Try.func7
    (ChangeSpec.witness6 (enc := enc) (C := Try.checked) false ⟨#[], #[.slice none 0 0], []⟩ 8 (by kernel_rfl) (by kernel_rfl) (by kernel_rfl) (by kernel_rfl)) ?_
  intro W base args ds gs before hval0 hW hcnd _
  have hval : ∀ (j : Nat) t v, Try.f7.params[j]? = some t → args[j]? = some v → Value.okWide Try.prog W .any base t v := hval0
  have hW' := hW
  obtain ⟨p, q, hA0, hV, rfl, hfz, hnd⟩ := hW
  have hA : DataW.TrodAll enc Try.prog W 0 (fun _ => true) true Try.f7.params.toList args.toList ds p := hA0
  have hA1 : DataW.TrodAll enc Try.prog W 0 (fun _ => true) true Try.f7.params.toList args.toList ds p := hA0
  rw [Try.params7] at hA hval
  obtain ⟨v0, vs0, d0, ds0, p0, q0, hargs, rfl, rfl, h0, r0⟩ := trodAll_cons hA
  obtain ⟨rfl, rfl, rfl⟩ := trodAll_nil r0
  obtain rfl : args = #[v0] := by cases args; simp_all
  obtain ⟨rfl, rfl⟩ := trodVars_none hV
  obtain ⟨A0, a0, c0, rfl, w0⟩ := open_strs Try.underlying22 Try.underlying9 (by kernel_rfl) (hval 0 22 v0 rfl rfl) h0
  clear hA0 hval0
  refine (frontKeeps_walk (w := W) w0).mono fun e W' ⟨he, bel⟩ => ?_
  subst he
  exact ⟨_, rfl, _, _, _, [], _, [], hW', trodAll_mk1 (shut_bool Try.underlying4 _), trodAll_below laidOut bel _ _ _ _ (by kernel_rfl) hA1, rfl, bel.frame _, fun h => by cases h⟩

theorem frontKeeps_over : Rows.frontKeepsRow.holds Try.pinned (OpenSpec.ofChange Rows.frontKeepsSpec) :=
  OpenClaim.holds_of_wide 7 Try.f7 rfl rfl rfl rfl rfl rfl rfl ⟨rfl, rfl, rfl, rfl, rfl⟩ rfl rfl rfl rfl rfl (by kernel_rfl) Try.func7 (by kernel_rfl)
    (of_decide_eq_true (by kernel_rfl)) (by unfold Func.isWrapper; first | (rw [if_pos (by decide +kernel)]; kernel_rfl) | (rw [if_neg (by decide +kernel)]; exact ⟨rfl, rfl⟩))
    (fun os started H enc _ => frontKeeps_lifted os started H enc)

/-- The statement. -/
theorem frontKeeps_proved : Rows.FrontKeepsSaid := frontKeeps_over


end Go.Proofs.Ytgadhofddbmhgaa
