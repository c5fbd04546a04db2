/-
  Proved: GramKeeps of layer 15: what is written into a list that Make answered turns no later answer; what came in reads as it did. Conditions: none of our own.
-/
import Derived.Test.YtepgkdmfoojppaaGqW
import Derived.Test.YtepgkdmfoojppaaMgS
namespace Go.Proofs.Ytepgkdmfoojppaa
set_option linter.unusedSimpArgs false
set_option linter.unusedVariables false
open Go.ChangeShapes Go.WideShapes Go.ChangeAt Go.RowKit
open Go.ChangeMaps (open_string shut_string)

set_option maxRecDepth 20000 in
set_option maxHeartbeats 4000000 in
theorem gramKeeps_walk {w : World} {A : Option Addr} {l : List ByteArray} {c : Nat} (h : Rd w 0 w.heap.size A c (sv l) ∧ (∀ s ∈ l, s.size ≤ 140737488351232) ∧ l.length ≤ 8796093021952) :
    Calls Try.prog 7 #[.slice A l.length c] w fun e w' => e = .returned (.bool true) ∧ Below w.heap.size w w' := by
  obtain ⟨h, hz, -⟩ := h
  have Hl_w := Lib.hid h
  have HZ := Lib.hid hz
  have hl := h.len
  have hm := h.cap
  rw [sv_length] at hl
  unfold maxLen at hm
  clear h hz
  by_cases hf : FewG l
  · obtain ⟨hl150, hs1, hal⟩ := few_facts hf
    have HFW : Hid (decide (FewG l) = true) := decide_eq_true hf
    have HS1 := Lib.hid hs1
    have HAL := Lib.hid hal
    clear hf hs1 hal
    go_enter Try.func7, Try.ntmps7
    go_wp2_with fail
    refine (awake15_any (w := _)).mono ?_
    rintro r w1 ⟨rfl, b_w1⟩
    have Hl_w1 := Lib.hid ((Hl_w.out.below b_w1 (Nat.le_refl _)).wide (Nat.zero_le _) b_w1.size)
    have HB_w1 := Lib.hid b_w1
    have S_w1 := HB_w1.out.size
    clear b_w1 Hl_w   
    go_wp2_with fail
    refine (fewg_is l true Hl_w1.out HFW.out HZ.out).mono ?_
    rintro r wq ⟨rfl, m_w2, rfl⟩
    obtain ⟨w2, hw_w2⟩ : ∃ q, w1.drewN m_w2 = q := ⟨_, rfl⟩
    have Hl_w2 : Hid (Rd w2 0 w2.heap.size A c (sv l)) := by unfold Hid; rw [← hw_w2]; exact Hl_w1.out.drewN m_w2
    have HB_w2 : Hid (Below w.heap.size w w2) := by unfold Hid; rw [← hw_w2]; exact below_drewN' HB_w1.out m_w2
    have S_w2 := HB_w2.out.size
    rw [hw_w2]
    clear hw_w2 Hl_w1 HB_w1
    go_wp2_with fail
    have KL := Lib.hid Hl_w2.out
    have KB := Lib.hid HB_w2.out
    have HKw2_w2 : Hid (Below w2.heap.size w2 w2) := Below.refl _ _
    refine (gmake_zero l Hl_w2.out HS1.out (by omega) HAL.out).mono ?_
    rintro r w3 ⟨tf, Af, cf, rfl, hrf, hof, b_w3⟩
    have HRf := Lib.hid hrf
    have HOX := Lib.hid hof
    clear hrf hof
    have HKw2_w3 := Lib.hid (HKw2_w2.out.trans (b_w3.mono HKw2_w2.out.size))
    have Hl_w3 := Lib.hid ((Hl_w2.out.below b_w3 (Nat.le_refl _)).wide (Nat.zero_le _) b_w3.size)
    have HB_w3 := Lib.hid (below_below HB_w2.out b_w3 S_w2)
    have S_w3 := HB_w3.out.size
    clear b_w3 Hl_w2 HB_w2  HKw2_w2 
    have HOf_w3 := Lib.hid HOX.out
    clear HOX
    have K3 : Hid (∀ q, (Value.slice Af tf.length cf).ownBlock = some q → q < w3.heap.size) := fun q hq => (own_lt HOf_w3.out hq).2
    have HFf_w3 : Hid (Flt w3 0 w3.heap.size (.agg #[.int .i64 0, .slice Af tf.length cf, .slice none 0 0]) 0 tf []) := flt_mk (b := 0) (rs := []) (own_rd HOf_w3.out) (Rd.nil _ _ _) rfl rfl rfl
    go_wp2_with fail
    obtain ⟨w4, hw_w4⟩ : ∃ q, w3.alloc (.cells #[.int .i64 0, .slice Af tf.length cf, .slice none 0 0] 28) = q := ⟨_, rfl⟩
    have b_w4 : Below w3.heap.size w3 w4 := by rw [← hw_w4]; exact (Below.refl _ _).alloc (Nat.le_refl _) _
    rw [hw_w4]
    have HVxf : Hid (Blk w4 w3.heap.size 28 #[.int .i64 0, .slice Af tf.length cf, .slice none 0 0]) := by unfold Hid; rw [← hw_w4]; exact Blk.new _ _ _
    have HFf_w4 := Lib.hid ((HFf_w3.out.below b_w4 (Nat.le_refl _)).wide (Nat.zero_le _) b_w4.size)
    have HOf_w4 := Lib.hid (own_below HOf_w3.out b_w4 (Nat.le_refl _))
    have HKw2_w4 := Lib.hid (HKw2_w3.out.trans (b_w4.mono HKw2_w3.out.size))
    have Hl_w4 := Lib.hid ((Hl_w3.out.below b_w4 (Nat.le_refl _)).wide (Nat.zero_le _) b_w4.size)
    have HB_w4 := Lib.hid (below_below HB_w3.out b_w4 S_w3)
    have S_w4 := HB_w4.out.size
    clear b_w4 Hl_w3 HB_w3  HFf_w3 HOf_w3 HKw2_w3 
    have HVf_w4 := Lib.hid HVxf.out
    clear HVxf hw_w4
    have hfl := (own_rd HOf_w4.out).len
    have hfc := (own_rd HOf_w4.out).cap
    rw [iv_length, ints_length] at hfl
    unfold maxLen at hfc
    have HB4 := Lib.hid HKw2_w4.out
    go_loopw [5] (fun x5 wr => ∃ (k : Nat) (xs : List Value), k ≤ tf.length ∧ x5 = .int .i64 (k : Int) ∧ wr.ownsRow w2.heap.size 3 1 (.slice Af tf.length cf) tf.length xs ∧ Blk wr w3.heap.size 28 #[.int .i64 0, .slice Af tf.length cf, .slice none 0 0] ∧ Below w2.heap.size w2 wr) (fun i _ => tf.length - (intOf i).toNat)
    case atStart => exact ⟨0, _, Nat.zero_le _, rfl, HOf_w4.out, HVf_w4.out, HB4.out⟩
    case round =>
      obtain ⟨k, xs, hk, rfl, ho, hv, hb⟩ := hrel
      have HO := Lib.hid ho
      have HV := Lib.hid hv
      have HB := Lib.hid hb
      have hsz := hb.size
      clear ho hv hb
      by_cases hlt : k < tf.length
      · have ik : (k : Int) < (tf.length : Int) := by omega
        obtain ⟨gx, hgx0, hgx, hgx2⟩ := own_spot HO.out (by omega)
        have hg3 := K3.out gx (by rw [hgx0]; rfl)
        subst hgx0
        have hxl : xs.length = tf.length := by simpa using HO.out.1
        obtain ⟨u0, hu0⟩ : ∃ u0, xs[k]? = some u0 := ⟨_, List.getElem?_eq_getElem (by omega)⟩
        have hcell : wr.cell? ⟨gx, k, none⟩ = some u0 := by rw [HO.out.cellAt k (by omega), hu0]
        have hfr := HO.out.frozenAt k
        have HSX := Lib.hid (HO.out.stored k (.int .i64 (-7)))
        have c0 : wr.cell? ⟨w3.heap.size, 1, none⟩ = some (.slice (some ⟨gx, 0, none⟩) tf.length cf) := HV.out.cell 1
        have z0 := HV.out.frozen 1
        have HV2 := Lib.hid (HV.out.far (p := ⟨gx, k, none⟩) (Nat.ne_of_gt hg3) (.int .i64 (-7)))
        have HB2 := Lib.hid (HB.out.setCell (p := ⟨gx, k, none⟩) hgx (.int .i64 (-7)))
        clear hu0 hxl
        go_wp2
        go_roundw
        case rel => exact ⟨k + 1, _, by omega, by go_num, HSX.out.1, HV2.out, HB2.out⟩
        case measure => simp [intOf]; omega
      · have ik : ¬ (k : Int) < (tf.length : Int) := by omega
        have c0 : wr.cell? ⟨w3.heap.size, 1, none⟩ = some (.slice Af tf.length cf) := HV.out.cell 1
        have Hl_wr := Lib.hid ((KL.out.below HB.out (Nat.le_refl _)).wide (Nat.le_refl _) hsz)
        have HB_wr := Lib.hid (below_below KB.out HB.out KB.out.size)
        have S_wr := HB_wr.out.size
        go_wp2_with fail
        clear c0
        refine (gmake_zero l Hl_wr.out HS1.out (by omega) HAL.out).mono ?_
        rintro r w5 ⟨tg, Ag, cg, rfl, hrg, hog, b_w5⟩
        have HRg := Lib.hid hrg
        have HOX := Lib.hid hog
        clear hrg hog
        have Hl_w5 := Lib.hid ((Hl_wr.out.below b_w5 (Nat.le_refl _)).wide (Nat.zero_le _) b_w5.size)
        have HB_w5 := Lib.hid (below_below HB_wr.out b_w5 S_wr)
        have S_w5 := HB_w5.out.size
        clear b_w5 Hl_wr HB_wr   
        have HOg_w5 := Lib.hid HOX.out
        clear HOX
        have HFg_w5 : Hid (Flt w5 0 w5.heap.size (.agg #[.int .i64 0, .slice Ag tg.length cg, .slice none 0 0]) 0 tg []) := flt_mk (b := 0) (rs := []) (own_rd HOg_w5.out) (Rd.nil _ _ _) rfl rfl rfl
        go_wp2_with fail
        obtain ⟨w6, hw_w6⟩ : ∃ q, w5.alloc (.cells #[.int .i64 0, .slice Ag tg.length cg, .slice none 0 0] 28) = q := ⟨_, rfl⟩
        have b_w6 : Below w5.heap.size w5 w6 := by rw [← hw_w6]; exact (Below.refl _ _).alloc (Nat.le_refl _) _
        rw [hw_w6]
        have HVxg : Hid (Blk w6 w5.heap.size 28 #[.int .i64 0, .slice Ag tg.length cg, .slice none 0 0]) := by unfold Hid; rw [← hw_w6]; exact Blk.new _ _ _
        have HFg_w6 := Lib.hid ((HFg_w5.out.below b_w6 (Nat.le_refl _)).wide (Nat.zero_le _) b_w6.size)
        have HOg_w6 := Lib.hid (own_below HOg_w5.out b_w6 (Nat.le_refl _))
        have Hl_w6 := Lib.hid ((Hl_w5.out.below b_w6 (Nat.le_refl _)).wide (Nat.zero_le _) b_w6.size)
        have HB_w6 := Lib.hid (below_below HB_w5.out b_w6 S_w5)
        have S_w6 := HB_w6.out.size
        clear b_w6 Hl_w5 HB_w5  HFg_w5 HOg_w5 
        have HVg_w6 := Lib.hid HVxg.out
        clear HVxg hw_w6
        have HMK : Hid (∀ wx, Below w6.heap.size w6 wx → Calls Try.prog 12 #[.slice A l.length c, .int .i64 0] wx fun r w' => ∃ v t, r = .returned v ∧ Rise (allL (bytG l)) t ∧ Flt w' wx.heap.size w'.heap.size v 0 t [] ∧ Below wx.heap.size wx w') := fun wx hb => makeg_zero l ((Hl_w6.out.below hb (Nat.le_refl _)).wide (Nat.le_refl _) hb.size) HS1.out (by omega)
        have HCF : Hid (∀ wx, Below w6.heap.size w6 wx → wx.cell? ⟨w5.heap.size, 0, none⟩ = some (.int .i64 0) ∧ wx.cell? ⟨w5.heap.size, 1, none⟩ = some (.slice Ag tg.length cg) ∧ wx.cell? ⟨w5.heap.size, 2, none⟩ = some (.slice none 0 0)) := fun wx hb => ⟨(hb.cell (p := ⟨w5.heap.size, 0, none⟩) HVg_w6.out.lt).trans (HVg_w6.out.cell 0), (hb.cell (p := ⟨w5.heap.size, 1, none⟩) HVg_w6.out.lt).trans (HVg_w6.out.cell 1), (hb.cell (p := ⟨w5.heap.size, 2, none⟩) HVg_w6.out.lt).trans (HVg_w6.out.cell 2)⟩
        have hS0 := HCF.out _ (Below.refl _ _)
        have hS1 := HCF.out _ ((Below.refl _ _).drew)
        have KD : Hid (Below w6.heap.size w6 w6.drew) := (Below.refl _ _).drew
        go_region_held3 (fun w' => w'.cell? ⟨w5.heap.size, 0, none⟩ = some (.int .i64 0) ∧ w'.cell? ⟨w5.heap.size, 1, none⟩ = some (.slice Ag tg.length cg) ∧ w'.cell? ⟨w5.heap.size, 2, none⟩ = some (.slice none 0 0)) (first | assumption | go_keep) (first
          | (go_at_call 12; refine (HMK.out _ KD.out).mono ?_; rintro r wy ⟨v2, t2, rfl, hr2, hf2, hb2⟩; have KY : Hid (Below w6.heap.size w6 wy) := KD.out.trans hb2; have hSy := HCF.out _ KY.out; have ht : t2 = tg := hr2.one HRg.out; have HF2 := Lib.hid hf2; have HT := Lib.hid ht; clear hf2 hr2 hb2 ht)
          | (go_at_call 11; refine (same_is true (HFg_w6.out.below KY.out (Nat.le_refl _)) HF2.out KY.out.size (Nat.le_refl _) (decide_eq_true ⟨rfl, HT.out.symm, rfl⟩)).mono ?_; rintro r wz ⟨rfl, b_wz⟩; have KZ : Hid (Below w6.heap.size w6 wz) := KY.out.trans (b_wz.mono KY.out.size); have hSz := HCF.out _ KZ.out; clear b_wz))
        go_wp2
        go_ret
        exact ⟨rfl, below_below HB_w6.out KZ.out S_w6⟩
  · have HNF : Hid (decide (FewG l) = false) := decide_eq_false hf
    clear hf
    go_enter Try.func7, Try.ntmps7
    go_wp2_with fail
    refine (awake15_any (w := _)).mono ?_
    rintro r w1 ⟨rfl, b_w1⟩
    have Hl_w1 := Lib.hid ((Hl_w.out.below b_w1 (Nat.le_refl _)).wide (Nat.zero_le _) b_w1.size)
    have HB_w1 := Lib.hid b_w1
    have S_w1 := HB_w1.out.size
    clear b_w1 Hl_w   
    go_wp2_with fail
    refine (fewg_is l false Hl_w1.out HNF.out HZ.out).mono ?_
    rintro r wq ⟨rfl, m_w2, rfl⟩
    obtain ⟨w2, hw_w2⟩ : ∃ q, w1.drewN m_w2 = q := ⟨_, rfl⟩
    have Hl_w2 : Hid (Rd w2 0 w2.heap.size A c (sv l)) := by unfold Hid; rw [← hw_w2]; exact Hl_w1.out.drewN m_w2
    have HB_w2 : Hid (Below w.heap.size w w2) := by unfold Hid; rw [← hw_w2]; exact below_drewN' HB_w1.out m_w2
    have S_w2 := HB_w2.out.size
    rw [hw_w2]
    clear hw_w2 Hl_w1 HB_w1
    go_wp2_with fail
    refine (awake15_any (w := _)).mono ?_
    rintro r w3 ⟨rfl, b_w3⟩
    have Hl_w3 := Lib.hid ((Hl_w2.out.below b_w3 (Nat.le_refl _)).wide (Nat.zero_le _) b_w3.size)
    have HB_w3 := Lib.hid (below_below HB_w2.out b_w3 S_w2)
    have S_w3 := HB_w3.out.size
    clear b_w3 Hl_w2 HB_w2   
    go_wp2_with fail
    go_ret
    exact ⟨rfl, HB_w3.out⟩

set_option maxRecDepth 100000 in
theorem gramKeeps_lifted (os : Os) (started : os.Started) (H : Type) (enc : TypeId × Value → H) :
    ReturnsInHanded {} Try.checked os 7 .any (Rows.gramKeepsSpec.pre6 enc Try.prog Try.f7 Rows.gramKeepsRow.domain false) (Rows.gramKeepsSpec.post enc Try.prog Try.f7 false true false false) := by
  refine returnsInHanded_of_change_sized (C := Try.checked) own started (by kernel_rfl) Try.func7
    (ChangeSpec.witness6 (enc := enc) (C := Try.checked) false ⟨#[], #[.slice none 0 0], []⟩ 8 (by kernel_rfl) (by kernel_rfl) (by kernel_rfl) (by kernel_rfl)) ?_
  intro W base args ds gs before hval0 hW hcnd hsz0 _
  have hsz : (DataW.weightsEach Try.prog (Try.f7.params.toList ++ Rows.gramKeepsSpec.plain.varTypes Try.prog) (ds ++ gs)).all (· ≤ reachBytes) = true := hsz0
  have hval : ∀ (j : Nat) t v, Try.f7.params[j]? = some t → args[j]? = some v → Value.okWide Try.prog W .any base t v := hval0
  have hW' := hW
  obtain ⟨p, q, hA0, hV, rfl, hfz, hnd⟩ := hW
  have hA : DataW.TrodAll enc Try.prog W 0 (fun _ => true) true Try.f7.params.toList args.toList ds p := hA0
  have hA1 : DataW.TrodAll enc Try.prog W 0 (fun _ => true) true Try.f7.params.toList args.toList ds p := hA0
  rw [Try.params7] at hA hval hsz
  obtain ⟨v0, vs0, d0, ds0, p0, q0, hargs, rfl, rfl, h0, r0⟩ := trodAll_cons hA
  obtain ⟨rfl, rfl, rfl⟩ := trodAll_nil r0
  obtain rfl : args = #[v0] := by cases args; simp_all
  obtain ⟨rfl, rfl⟩ := trodVars_none hV
  obtain ⟨A0, a0, c0, rfl, w0⟩ := open_strs_sized Try.underlying22 Try.underlying9 (by kernel_rfl) (by kernel_rfl) (hval 0 22 v0 rfl rfl) h0 (fun n hn => by have := List.all_eq_true.1 hsz n (DataW.weights_mem_each (j := 0) (t := 22) rfl rfl n hn); simpa using this)
  clear hA0 hval0
  refine (gramKeeps_walk (w := W) w0).mono fun e W' ⟨he, bel⟩ => ?_
  subst he
  exact ⟨_, rfl, _, _, _, [], _, [], hW', trodAll_mk1 (shut_bool Try.underlying4 _), trodAll_below laidOut bel _ _ _ _ (by kernel_rfl) hA1, rfl, bel.frame _, fun h => by cases h⟩

theorem gramKeeps_over : Rows.gramKeepsRow.holds Try.pinned (OpenSpec.ofChange Rows.gramKeepsSpec) :=
  OpenClaim.holds_of_wide 7 Try.f7 rfl rfl rfl rfl rfl rfl rfl ⟨rfl, rfl, rfl, rfl, rfl⟩ rfl rfl rfl rfl rfl (by kernel_rfl) Try.func7 (by kernel_rfl)
    (of_decide_eq_true (by kernel_rfl)) (by unfold Func.isWrapper; first | (rw [if_pos (by decide +kernel)]; kernel_rfl) | (rw [if_neg (by decide +kernel)]; exact ⟨rfl, rfl⟩))
    (fun os started H enc _ => gramKeeps_lifted os started H enc)

/-- The statement. -/
theorem gramKeeps_proved : Rows.GramKeepsSaid := gramKeeps_over


end Go.Proofs.Ytepgkdmfoojppaa
