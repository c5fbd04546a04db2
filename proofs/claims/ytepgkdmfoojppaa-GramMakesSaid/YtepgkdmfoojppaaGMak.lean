/-
  Proved: GramMakes of layer 15: of whatever few strings and bits, Make answers the document's filter, or ErrArg and none; what came in reads as it did. Conditions: none of our own.
-/
import Derived.Test.YtepgkdmfoojppaaGqW
import Derived.Test.YtepgkdmfoojppaaMgS
namespace Go.Proofs.Ytepgkdmfoojppaa
set_option linter.unusedSimpArgs false
set_option linter.unusedVariables false
open Go.ChangeShapes Go.WideShapes Go.ChangeAt Go.RowKit
open Go.ChangeMaps (open_string shut_string)

set_option maxRecDepth 20000 in
set_option maxHeartbeats 4000000 in
theorem gramMakes_walk {w : World} {A : Option Addr} {l : List ByteArray} {c : Nat} (h : Rd w 0 w.heap.size A c (sv l) ∧ (∀ s ∈ l, s.size ≤ 140737488351232) ∧ l.length ≤ 8796093021952) (z : Int) (hzz : (Lit.int .i64 z).wf) :
    Calls Try.prog 3 #[.slice A l.length c, .int .i64 z] w fun e w' => e = .returned (.bool true) ∧ Below w.heap.size w w' := by
  obtain ⟨h, hz, -⟩ := h
  have Hl_w := Lib.hid h
  have HZ := Lib.hid hz
  have hl := h.len
  have hm := h.cap
  rw [sv_length] at hl
  unfold maxLen at hm
  clear h hz
  have hz1 : -9223372036854775808 ≤ z ∧ z ≤ 9223372036854775807 := by simpa [Lit.wf, IntKind.min, IntKind.max, IntKind.signed, IntKind.bits] using hzz
  clear hzz
  by_cases hf : FewG l
  · obtain ⟨hl150, hs1, hal⟩ := few_facts hf
    have HFW : Hid (decide (FewG l) = true) := decide_eq_true hf
    have HS1 := Lib.hid hs1
    have HAL := Lib.hid hal
    clear hf hs1 hal
    by_cases hb : z < 0 ∨ 65536 < z
    · have HBZ := Lib.hid hb
      have dd : z < 0 ∨ ¬ z < 0 := Decidable.em _
      rcases dd with d0 | d0
      · have e0 : decide (z < 0) = true := decide_eq_true d0
        clear hb
        go_enter Try.func3, Try.ntmps3
        go_wp2_with fail
        refine (awake15_any (w := _)).mono ?_
        rintro r w1 ⟨rfl, b_w1⟩
        have Hl_w1 := Lib.hid ((Hl_w.out.below b_w1 (Nat.le_refl _)).wide (Nat.zero_le _) b_w1.size)
        have HB_w1 := Lib.hid b_w1
        have S_w1 := HB_w1.out.size
        clear b_w1 Hl_w   
        go_wp2_with fail
        refine (fewg_is l true Hl_w1.out HFW.out HZ.out).mono ?_
        rintro r wq ⟨rfl, m_w2, rfl⟩
        obtain ⟨w2, hw_w2⟩ : ∃ q, w1.drewN m_w2 = q := ⟨_, rfl⟩
        have Hl_w2 : Hid (Rd w2 0 w2.heap.size A c (sv l)) := by unfold Hid; rw [← hw_w2]; exact Hl_w1.out.drewN m_w2
        have HB_w2 : Hid (Below w.heap.size w w2) := by unfold Hid; rw [← hw_w2]; exact below_drewN' HB_w1.out m_w2
        have S_w2 := HB_w2.out.size
        rw [hw_w2]
        clear hw_w2 Hl_w1 HB_w1
        go_wp2_with fail
        refine (gmake_not l Hl_w2.out z HBZ.out).mono ?_
        rintro r w3 ⟨rfl, b_w3⟩
        have Hl_w3 := Lib.hid ((Hl_w2.out.below b_w3 (Nat.le_refl _)).wide (Nat.zero_le _) b_w3.size)
        have HB_w3 := Lib.hid (below_below HB_w2.out b_w3 S_w2)
        have S_w3 := HB_w3.out.size
        clear b_w3 Hl_w2 HB_w2   
        have HFf_w3 : Hid (Flt w3 0 w3.heap.size (.agg #[.int .i64 0, .slice none 0 0, .slice none 0 0]) 0 [] []) := (flt_mk (b := 0) (gs := []) (rs := []) (Rd.nil _ _ _) (Rd.nil _ _ _) rfl rfl rfl)
        go_wp2_with fail
        obtain ⟨w4, hw_w4⟩ : ∃ q, w3.alloc (.cells #[.int .i64 0, .slice none 0 0, .slice none 0 0] 28) = q := ⟨_, rfl⟩
        have b_w4 : Below w3.heap.size w3 w4 := by rw [← hw_w4]; exact (Below.refl _ _).alloc (Nat.le_refl _) _
        rw [hw_w4]
        have HVxf : Hid (Blk w4 w3.heap.size 28 #[.int .i64 0, .slice none 0 0, .slice none 0 0]) := by unfold Hid; rw [← hw_w4]; exact Blk.new _ _ _
        have HFf_w4 := Lib.hid ((HFf_w3.out.below b_w4 (Nat.le_refl _)).wide (Nat.zero_le _) b_w4.size)
        have Hl_w4 := Lib.hid ((Hl_w3.out.below b_w4 (Nat.le_refl _)).wide (Nat.zero_le _) b_w4.size)
        have HB_w4 := Lib.hid (below_below HB_w3.out b_w4 S_w3)
        have S_w4 := HB_w4.out.size
        clear b_w4 Hl_w3 HB_w3  HFf_w3 
        have HVf_w4 := Lib.hid HVxf.out
        clear HVxf hw_w4
        refine (same_is true HFf_w4.out (Flt.empty _) (Nat.le_refl _) (Nat.zero_le _) (by decide)).mono ?_
        rintro r w5 ⟨rfl, b_w5⟩
        have HVf_w5 := Lib.hid (HVf_w4.out.below b_w5 HVf_w4.out.lt)
        have HFf_w5 := Lib.hid ((HFf_w4.out.below b_w5 (Nat.le_refl _)).wide (Nat.zero_le _) b_w5.size)
        have Hl_w5 := Lib.hid ((Hl_w4.out.below b_w5 (Nat.le_refl _)).wide (Nat.zero_le _) b_w5.size)
        have HB_w5 := Lib.hid (below_below HB_w4.out b_w5 S_w4)
        have S_w5 := HB_w5.out.size
        clear b_w5 Hl_w4 HB_w4  HVf_w4 HFf_w4 
        go_wp2_with fail
        go_ret
        exact ⟨rfl, HB_w5.out⟩
      · have e0 : decide (z < 0) = false := decide_eq_false d0
        have d1 : 65536 < z := hb.resolve_left d0
        have e1 : decide ((65536 : Int) < z) = true := decide_eq_true d1
        clear hb
        go_enter Try.func3, Try.ntmps3
        go_wp2_with fail
        refine (awake15_any (w := _)).mono ?_
        rintro r w1 ⟨rfl, b_w1⟩
        have Hl_w1 := Lib.hid ((Hl_w.out.below b_w1 (Nat.le_refl _)).wide (Nat.zero_le _) b_w1.size)
        have HB_w1 := Lib.hid b_w1
        have S_w1 := HB_w1.out.size
        clear b_w1 Hl_w   
        go_wp2_with fail
        refine (fewg_is l true Hl_w1.out HFW.out HZ.out).mono ?_
        rintro r wq ⟨rfl, m_w2, rfl⟩
        obtain ⟨w2, hw_w2⟩ : ∃ q, w1.drewN m_w2 = q := ⟨_, rfl⟩
        have Hl_w2 : Hid (Rd w2 0 w2.heap.size A c (sv l)) := by unfold Hid; rw [← hw_w2]; exact Hl_w1.out.drewN m_w2
        have HB_w2 : Hid (Below w.heap.size w w2) := by unfold Hid; rw [← hw_w2]; exact below_drewN' HB_w1.out m_w2
        have S_w2 := HB_w2.out.size
        rw [hw_w2]
        clear hw_w2 Hl_w1 HB_w1
        go_wp2_with fail
        refine (gmake_not l Hl_w2.out z HBZ.out).mono ?_
        rintro r w3 ⟨rfl, b_w3⟩
        have Hl_w3 := Lib.hid ((Hl_w2.out.below b_w3 (Nat.le_refl _)).wide (Nat.zero_le _) b_w3.size)
        have HB_w3 := Lib.hid (below_below HB_w2.out b_w3 S_w2)
        have S_w3 := HB_w3.out.size
        clear b_w3 Hl_w2 HB_w2   
        have HFf_w3 : Hid (Flt w3 0 w3.heap.size (.agg #[.int .i64 0, .slice none 0 0, .slice none 0 0]) 0 [] []) := (flt_mk (b := 0) (gs := []) (rs := []) (Rd.nil _ _ _) (Rd.nil _ _ _) rfl rfl rfl)
        go_wp2_with fail
        obtain ⟨w4, hw_w4⟩ : ∃ q, w3.alloc (.cells #[.int .i64 0, .slice none 0 0, .slice none 0 0] 28) = q := ⟨_, rfl⟩
        have b_w4 : Below w3.heap.size w3 w4 := by rw [← hw_w4]; exact (Below.refl _ _).alloc (Nat.le_refl _) _
        rw [hw_w4]
        have HVxf : Hid (Blk w4 w3.heap.size 28 #[.int .i64 0, .slice none 0 0, .slice none 0 0]) := by unfold Hid; rw [← hw_w4]; exact Blk.new _ _ _
        have HFf_w4 := Lib.hid ((HFf_w3.out.below b_w4 (Nat.le_refl _)).wide (Nat.zero_le _) b_w4.size)
        have Hl_w4 := Lib.hid ((Hl_w3.out.below b_w4 (Nat.le_refl _)).wide (Nat.zero_le _) b_w4.size)
        have HB_w4 := Lib.hid (below_below HB_w3.out b_w4 S_w3)
        have S_w4 := HB_w4.out.size
        clear b_w4 Hl_w3 HB_w3  HFf_w3 
        have HVf_w4 := Lib.hid HVxf.out
        clear HVxf hw_w4
        refine (same_is true HFf_w4.out (Flt.empty _) (Nat.le_refl _) (Nat.zero_le _) (by decide)).mono ?_
        rintro r w5 ⟨rfl, b_w5⟩
        have HVf_w5 := Lib.hid (HVf_w4.out.below b_w5 HVf_w4.out.lt)
        have HFf_w5 := Lib.hid ((HFf_w4.out.below b_w5 (Nat.le_refl _)).wide (Nat.zero_le _) b_w5.size)
        have Hl_w5 := Lib.hid ((Hl_w4.out.below b_w5 (Nat.le_refl _)).wide (Nat.zero_le _) b_w5.size)
        have HB_w5 := Lib.hid (below_below HB_w4.out b_w5 S_w4)
        have S_w5 := HB_w5.out.size
        clear b_w5 Hl_w4 HB_w4  HVf_w4 HFf_w4 
        go_wp2_with fail
        go_ret
        exact ⟨rfl, HB_w5.out⟩
    · by_cases hb0 : z = 0
      · subst hb0
        have e0 : decide ((0 : Int) < 0) = false := rfl
        go_enter Try.func3, Try.ntmps3
        go_wp2_with fail
        refine (awake15_any (w := _)).mono ?_
        rintro r w1 ⟨rfl, b_w1⟩
        have Hl_w1 := Lib.hid ((Hl_w.out.below b_w1 (Nat.le_refl _)).wide (Nat.zero_le _) b_w1.size)
        have HB_w1 := Lib.hid b_w1
        have S_w1 := HB_w1.out.size
        clear b_w1 Hl_w   
        go_wp2_with fail
        refine (fewg_is l true Hl_w1.out HFW.out HZ.out).mono ?_
        rintro r wq ⟨rfl, m_w2, rfl⟩
        obtain ⟨w2, hw_w2⟩ : ∃ q, w1.drewN m_w2 = q := ⟨_, rfl⟩
        have Hl_w2 : Hid (Rd w2 0 w2.heap.size A c (sv l)) := by unfold Hid; rw [← hw_w2]; exact Hl_w1.out.drewN m_w2
        have HB_w2 : Hid (Below w.heap.size w w2) := by unfold Hid; rw [← hw_w2]; exact below_drewN' HB_w1.out m_w2
        have S_w2 := HB_w2.out.size
        rw [hw_w2]
        clear hw_w2 Hl_w1 HB_w1
        go_wp2_with fail
        refine (gmake_zero l Hl_w2.out HS1.out (by omega) HAL.out).mono ?_
        rintro r w3 ⟨tf, Af, cf, rfl, hrf, hof, b_w3⟩
        have HRf := Lib.hid hrf
        have HOX := Lib.hid hof
        clear hrf hof
        have Hl_w3 := Lib.hid ((Hl_w2.out.below b_w3 (Nat.le_refl _)).wide (Nat.zero_le _) b_w3.size)
        have HB_w3 := Lib.hid (below_below HB_w2.out b_w3 S_w2)
        have S_w3 := HB_w3.out.size
        clear b_w3 Hl_w2 HB_w2   
        have HOf_w3 := Lib.hid HOX.out
        clear HOX
        have HFf_w3 : Hid (Flt w3 0 w3.heap.size (.agg #[.int .i64 0, .slice Af tf.length cf, .slice none 0 0]) 0 tf []) := flt_mk (b := 0) (rs := []) (own_rd HOf_w3.out) (Rd.nil _ _ _) rfl rfl rfl
        go_wp2_with fail
        obtain ⟨w4, hw_w4⟩ : ∃ q, w3.alloc (.cells #[.int .i64 0, .slice Af tf.length cf, .slice none 0 0] 28) = q := ⟨_, rfl⟩
        have b_w4 : Below w3.heap.size w3 w4 := by rw [← hw_w4]; exact (Below.refl _ _).alloc (Nat.le_refl _) _
        rw [hw_w4]
        have HVxf : Hid (Blk w4 w3.heap.size 28 #[.int .i64 0, .slice Af tf.length cf, .slice none 0 0]) := by unfold Hid; rw [← hw_w4]; exact Blk.new _ _ _
        have HFf_w4 := Lib.hid ((HFf_w3.out.below b_w4 (Nat.le_refl _)).wide (Nat.zero_le _) b_w4.size)
        have HOf_w4 := Lib.hid (own_below HOf_w3.out b_w4 (Nat.le_refl _))
        have Hl_w4 := Lib.hid ((Hl_w3.out.below b_w4 (Nat.le_refl _)).wide (Nat.zero_le _) b_w4.size)
        have HB_w4 := Lib.hid (below_below HB_w3.out b_w4 S_w3)
        have S_w4 := HB_w4.out.size
        clear b_w4 Hl_w3 HB_w3  HFf_w3 HOf_w3 
        have HVf_w4 := Lib.hid HVxf.out
        clear HVxf hw_w4
        have HMK : Hid (∀ wx, Below w4.heap.size w4 wx → Calls Try.prog 12 #[.slice A l.length c, .int .i64 0] wx fun r w' => ∃ v t, r = .returned v ∧ Rise (allL (bytG l)) t ∧ Flt w' wx.heap.size w'.heap.size v 0 t [] ∧ Below wx.heap.size wx w') := fun wx hb => makeg_zero l ((Hl_w4.out.below hb (Nat.le_refl _)).wide (Nat.le_refl _) hb.size) HS1.out (by omega)
        have HCF : Hid (∀ wx, Below w4.heap.size w4 wx → wx.cell? ⟨w3.heap.size, 0, none⟩ = some (.int .i64 0) ∧ wx.cell? ⟨w3.heap.size, 1, none⟩ = some (.slice Af tf.length cf) ∧ wx.cell? ⟨w3.heap.size, 2, none⟩ = some (.slice none 0 0)) := fun wx hb => ⟨(hb.cell (p := ⟨w3.heap.size, 0, none⟩) HVf_w4.out.lt).trans (HVf_w4.out.cell 0), (hb.cell (p := ⟨w3.heap.size, 1, none⟩) HVf_w4.out.lt).trans (HVf_w4.out.cell 1), (hb.cell (p := ⟨w3.heap.size, 2, none⟩) HVf_w4.out.lt).trans (HVf_w4.out.cell 2)⟩
        have hS0 := HCF.out _ (Below.refl _ _)
        have hS1 := HCF.out _ ((Below.refl _ _).drew)
        have KD : Hid (Below w4.heap.size w4 w4.drew) := (Below.refl _ _).drew
        go_region_held3 (fun w' => w'.cell? ⟨w3.heap.size, 0, none⟩ = some (.int .i64 0) ∧ w'.cell? ⟨w3.heap.size, 1, none⟩ = some (.slice Af tf.length cf) ∧ w'.cell? ⟨w3.heap.size, 2, none⟩ = some (.slice none 0 0)) (first | assumption | go_keep) (first
          | (go_at_call 12; refine (HMK.out _ KD.out).mono ?_; rintro r wy ⟨v2, t2, rfl, hr2, hf2, hb2⟩; have KY : Hid (Below w4.heap.size w4 wy) := KD.out.trans hb2; have hSy := HCF.out _ KY.out; have ht : t2 = tf := hr2.one HRf.out; have HF2 := Lib.hid hf2; have HT := Lib.hid ht; clear hf2 hr2 hb2 ht)
          | (go_at_call 11; refine (same_is true (HFf_w4.out.below KY.out (Nat.le_refl _)) HF2.out KY.out.size (Nat.le_refl _) (decide_eq_true ⟨rfl, HT.out.symm, rfl⟩)).mono ?_; rintro r wz ⟨rfl, b_wz⟩; have KZ : Hid (Below w4.heap.size w4 wz) := KY.out.trans (b_wz.mono KY.out.size); have hSz := HCF.out _ KZ.out; clear b_wz))
        go_wp2
        go_ret
        exact ⟨rfl, below_below HB_w4.out KZ.out S_w4⟩
      · obtain ⟨b, rfl⟩ : ∃ b : Nat, z = (b : Int) := ⟨z.toNat, by omega⟩
        have hb1 : 0 < b := by omega
        have hb2 : b ≤ 65536 := by omega
        have e0 : decide ((b : Int) < 0) = false := decide_eq_false (by omega)
        have e1 : decide ((65536 : Int) < (b : Int)) = false := decide_eq_false (by omega)
        have d0 : ¬ (b : Int) < 0 := by omega
        have d1 : ¬ (65536 : Int) < (b : Int) := by omega
        clear hb hb0
        go_enter Try.func3, Try.ntmps3
        go_wp2_with fail
        refine (awake15_any (w := _)).mono ?_
        rintro r w1 ⟨rfl, b_w1⟩
        have Hl_w1 := Lib.hid ((Hl_w.out.below b_w1 (Nat.le_refl _)).wide (Nat.zero_le _) b_w1.size)
        have HB_w1 := Lib.hid b_w1
        have S_w1 := HB_w1.out.size
        clear b_w1 Hl_w   
        go_wp2_with fail
        refine (fewg_is l true Hl_w1.out HFW.out HZ.out).mono ?_
        rintro r wq ⟨rfl, m_w2, rfl⟩
        obtain ⟨w2, hw_w2⟩ : ∃ q, w1.drewN m_w2 = q := ⟨_, rfl⟩
        have Hl_w2 : Hid (Rd w2 0 w2.heap.size A c (sv l)) := by unfold Hid; rw [← hw_w2]; exact Hl_w1.out.drewN m_w2
        have HB_w2 : Hid (Below w.heap.size w w2) := by unfold Hid; rw [← hw_w2]; exact below_drewN' HB_w1.out m_w2
        have S_w2 := HB_w2.out.size
        rw [hw_w2]
        clear hw_w2 Hl_w1 HB_w1
        go_wp2_with fail
        refine (gmake_bits l Hl_w2.out HS1.out (by omega) HAL.out b hb1 hb2).mono ?_
        rintro r w3 ⟨tf, Af, cf, rfl, hrf, hof, b_w3⟩
        obtain ⟨Rf, hRf⟩ : ∃ R, setB b tf = R := ⟨_, rfl⟩
        rw [hRf] at hof
        have HRf := Lib.hid hrf
        have HRRf := Lib.hid hRf
        have HRLf : Hid (Rf.length = b) := by unfold Hid; rw [← hRf, setB_length]
        have HOX := Lib.hid hof
        clear hrf hof hRf
        have Hl_w3 := Lib.hid ((Hl_w2.out.below b_w3 (Nat.le_refl _)).wide (Nat.zero_le _) b_w3.size)
        have HB_w3 := Lib.hid (below_below HB_w2.out b_w3 S_w2)
        have S_w3 := HB_w3.out.size
        clear b_w3 Hl_w2 HB_w2   
        have HOf_w3 := Lib.hid HOX.out
        clear HOX
        have HFf_w3 : Hid (Flt w3 0 w3.heap.size (.agg #[.int .i64 (b : Int), .slice none 0 0, .slice Af b cf]) b [] Rf) := flt_mk (gs := []) (Rd.nil _ _ _) (own_rd HOf_w3.out) rfl rfl HRLf.out
        go_wp2_with fail
        obtain ⟨w4, hw_w4⟩ : ∃ q, w3.alloc (.cells #[.int .i64 (b : Int), .slice none 0 0, .slice Af b cf] 28) = q := ⟨_, rfl⟩
        have b_w4 : Below w3.heap.size w3 w4 := by rw [← hw_w4]; exact (Below.refl _ _).alloc (Nat.le_refl _) _
        rw [hw_w4]
        have HVxf : Hid (Blk w4 w3.heap.size 28 #[.int .i64 (b : Int), .slice none 0 0, .slice Af b cf]) := by unfold Hid; rw [← hw_w4]; exact Blk.new _ _ _
        have HFf_w4 := Lib.hid ((HFf_w3.out.below b_w4 (Nat.le_refl _)).wide (Nat.zero_le _) b_w4.size)
        have HOf_w4 := Lib.hid (own_below HOf_w3.out b_w4 (Nat.le_refl _))
        have Hl_w4 := Lib.hid ((Hl_w3.out.below b_w4 (Nat.le_refl _)).wide (Nat.zero_le _) b_w4.size)
        have HB_w4 := Lib.hid (below_below HB_w3.out b_w4 S_w3)
        have S_w4 := HB_w4.out.size
        clear b_w4 Hl_w3 HB_w3  HFf_w3 HOf_w3 
        have HVf_w4 := Lib.hid HVxf.out
        clear HVxf hw_w4
        have HMK : Hid (∀ wx, Below w4.heap.size w4 wx → Calls Try.prog 12 #[.slice A l.length c, .int .i64 (b : Int)] wx fun r w' => ∃ v t, r = .returned v ∧ Rise (allL (bytG l)) t ∧ Flt w' wx.heap.size w'.heap.size v b [] (setB b t) ∧ Below wx.heap.size wx w') := fun wx hb => makeg_bits l ((Hl_w4.out.below hb (Nat.le_refl _)).wide (Nat.le_refl _) hb.size) HS1.out (by omega) b hb1 (by omega)
        have HCF : Hid (∀ wx, Below w4.heap.size w4 wx → wx.cell? ⟨w3.heap.size, 0, none⟩ = some (.int .i64 (b : Int)) ∧ wx.cell? ⟨w3.heap.size, 1, none⟩ = some (.slice none 0 0) ∧ wx.cell? ⟨w3.heap.size, 2, none⟩ = some (.slice Af b cf)) := fun wx hb => ⟨(hb.cell (p := ⟨w3.heap.size, 0, none⟩) HVf_w4.out.lt).trans (HVf_w4.out.cell 0), (hb.cell (p := ⟨w3.heap.size, 1, none⟩) HVf_w4.out.lt).trans (HVf_w4.out.cell 1), (hb.cell (p := ⟨w3.heap.size, 2, none⟩) HVf_w4.out.lt).trans (HVf_w4.out.cell 2)⟩
        have hS0 := HCF.out _ (Below.refl _ _)
        have hS1 := HCF.out _ ((Below.refl _ _).drew)
        have KD : Hid (Below w4.heap.size w4 w4.drew) := (Below.refl _ _).drew
        go_region_held3 (fun w' => w'.cell? ⟨w3.heap.size, 0, none⟩ = some (.int .i64 (b : Int)) ∧ w'.cell? ⟨w3.heap.size, 1, none⟩ = some (.slice none 0 0) ∧ w'.cell? ⟨w3.heap.size, 2, none⟩ = some (.slice Af b cf)) (first | assumption | go_keep) (first
          | (go_at_call 12; refine (HMK.out _ KD.out).mono ?_; rintro r wy ⟨v2, t2, rfl, hr2, hf2, hb2⟩; have KY : Hid (Below w4.heap.size w4 wy) := KD.out.trans hb2; have hSy := HCF.out _ KY.out; have ht : t2 = tf := hr2.one HRf.out; have HF2 := Lib.hid hf2; have HT := Lib.hid ht; clear hf2 hr2 hb2 ht)
          | (go_at_call 11; refine (same_is true (HFf_w4.out.below KY.out (Nat.le_refl _)) HF2.out KY.out.size (Nat.le_refl _) (decide_eq_true ⟨rfl, rfl, by rw [HT.out]; exact HRRf.out.symm⟩)).mono ?_; rintro r wz ⟨rfl, b_wz⟩; have KZ : Hid (Below w4.heap.size w4 wz) := KY.out.trans (b_wz.mono KY.out.size); have hSz := HCF.out _ KZ.out; clear b_wz))
        go_wp2
        go_ret
        exact ⟨rfl, below_below HB_w4.out KZ.out S_w4⟩
  · have HNF : Hid (decide (FewG l) = false) := decide_eq_false hf
    clear hf
    go_enter Try.func3, Try.ntmps3
    go_wp2_with fail
    refine (awake15_any (w := _)).mono ?_
    rintro r w1 ⟨rfl, b_w1⟩
    have Hl_w1 := Lib.hid ((Hl_w.out.below b_w1 (Nat.le_refl _)).wide (Nat.zero_le _) b_w1.size)
    have HB_w1 := Lib.hid b_w1
    have S_w1 := HB_w1.out.size
    clear b_w1 Hl_w   
    go_wp2_with fail
    refine (fewg_is l false Hl_w1.out HNF.out HZ.out).mono ?_
    rintro r wq ⟨rfl, m_w2, rfl⟩
    obtain ⟨w2, hw_w2⟩ : ∃ q, w1.drewN m_w2 = q := ⟨_, rfl⟩
    have Hl_w2 : Hid (Rd w2 0 w2.heap.size A c (sv l)) := by unfold Hid; rw [← hw_w2]; exact Hl_w1.out.drewN m_w2
    have HB_w2 : Hid (Below w.heap.size w w2) := by unfold Hid; rw [← hw_w2]; exact below_drewN' HB_w1.out m_w2
    have S_w2 := HB_w2.out.size
    rw [hw_w2]
    clear hw_w2 Hl_w1 HB_w1
    go_wp2_with fail
    refine (awake15_any (w := _)).mono ?_
    rintro r w3 ⟨rfl, b_w3⟩
    have Hl_w3 := Lib.hid ((Hl_w2.out.below b_w3 (Nat.le_refl _)).wide (Nat.zero_le _) b_w3.size)
    have HB_w3 := Lib.hid (below_below HB_w2.out b_w3 S_w2)
    have S_w3 := HB_w3.out.size
    clear b_w3 Hl_w2 HB_w2   
    go_wp2_with fail
    go_ret
    exact ⟨rfl, HB_w3.out⟩

set_option maxRecDepth 100000 in
theorem gramMakes_lifted (os : Os) (started : os.Started) (H : Type) (enc : TypeId × Value → H) :
    ReturnsInHanded {} Try.checked os 3 .any (Rows.gramMakesSpec.pre6 enc Try.prog Try.f3 Rows.gramMakesRow.domain false) (Rows.gramMakesSpec.post enc Try.prog Try.f3 false true false false) := by
  refine returnsInHanded_of_change_sized (C := Try.checked) own started (by kernel_rfl) Try.func3
    (ChangeSpec.witness6 (enc := enc) (C := Try.checked) false ⟨#[], #[.slice none 0 0, .int .i64 0], []⟩ 8 (by kernel_rfl) (by kernel_rfl) (by kernel_rfl) (by kernel_rfl)) ?_
  intro W base args ds gs before hval0 hW hcnd hsz0 _
  have hsz : (DataW.weightsEach Try.prog (Try.f3.params.toList ++ Rows.gramMakesSpec.plain.varTypes Try.prog) (ds ++ gs)).all (· ≤ reachBytes) = true := hsz0
  have hval : ∀ (j : Nat) t v, Try.f3.params[j]? = some t → args[j]? = some v → Value.okWide Try.prog W .any base t v := hval0
  have hW' := hW
  obtain ⟨p, q, hA0, hV, rfl, hfz, hnd⟩ := hW
  have hA : DataW.TrodAll enc Try.prog W 0 (fun _ => true) true Try.f3.params.toList args.toList ds p := hA0
  have hA1 : DataW.TrodAll enc Try.prog W 0 (fun _ => true) true Try.f3.params.toList args.toList ds p := hA0
  rw [Try.params3] at hA hval hsz
  obtain ⟨v0, vs0, d0, ds0, p0, q0, hargs, rfl, rfl, h0, r0⟩ := trodAll_cons hA
  obtain ⟨v1, vs1, d1, ds1, p1, q1, rfl, rfl, rfl, h1, r1⟩ := trodAll_cons r0
  obtain ⟨rfl, rfl, rfl⟩ := trodAll_nil r1
  obtain rfl : args = #[v0, v1] := by cases args; simp_all
  obtain ⟨rfl, rfl⟩ := trodVars_none hV
  obtain ⟨A0, a0, c0, rfl, w0⟩ := open_strs_sized Try.underlying22 Try.underlying9 (by kernel_rfl) (by kernel_rfl) (hval 0 22 v0 rfl rfl) h0 (fun n hn => by have := List.all_eq_true.1 hsz n (DataW.weights_mem_each (j := 0) (t := 22) rfl rfl n hn); simpa using this)
  obtain ⟨a1, rfl, rfl, rfl, w1⟩ := open_int Try.underlying3 (hval 1 3 v1 rfl rfl) h1
  clear hA0 hval0
  refine (gramMakes_walk (w := W) w0 a1 w1).mono fun e W' ⟨he, bel⟩ => ?_
  subst he
  exact ⟨_, rfl, _, _, _, [], _, [], hW', trodAll_mk1 (shut_bool Try.underlying4 _), trodAll_below laidOut bel _ _ _ _ (by kernel_rfl) hA1, rfl, bel.frame _, fun h => by cases h⟩

theorem gramMakes_over : Rows.gramMakesRow.holds Try.pinned (OpenSpec.ofChange Rows.gramMakesSpec) :=
  OpenClaim.holds_of_wide 3 Try.f3 rfl rfl rfl rfl rfl rfl rfl ⟨rfl, rfl, rfl, rfl, rfl⟩ rfl rfl rfl rfl rfl (by kernel_rfl) Try.func3 (by kernel_rfl)
    (of_decide_eq_true (by kernel_rfl)) (by unfold Func.isWrapper; first | (rw [if_pos (by decide +kernel)]; kernel_rfl) | (rw [if_neg (by decide +kernel)]; exact ⟨rfl, rfl⟩))
    (fun os started H enc _ => gramMakes_lifted os started H enc)

/-- The statement. -/
theorem gramMakes_proved : Rows.GramMakesSaid := gramMakes_over


end Go.Proofs.Ytepgkdmfoojppaa
