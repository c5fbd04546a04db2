/-
  Proved: GramBack of layer 15: what is written is read as it was; of whatever bytes what is read is written as it stood, or nothing; what came in reads as it did. Conditions: none of our own.
-/
import Derived.Test.YtepgkdmfoojppaaGqW
import Derived.Test.YtepgkdmfoojppaaMgS
namespace Go.Proofs.Ytepgkdmfoojppaa
set_option linter.unusedSimpArgs false
set_option linter.unusedVariables false
open Go.ChangeShapes Go.WideShapes Go.ChangeAt Go.RowKit
open Go.ChangeMaps (open_string shut_string)

set_option maxRecDepth 20000 in
set_option maxHeartbeats 4000000 in
theorem gramBack_walk {w : World} {A : Option Addr} {l : List ByteArray} {c : Nat} (h : Rd w 0 w.heap.size A c (sv l) ∧ (∀ s ∈ l, s.size ≤ 140737488351232) ∧ l.length ≤ 8796093021952) (u : Nat) (hu : u < 65536) {B : Option Addr} {bs : List UInt8} {d : Nat} (hb : Rd w 0 w.heap.size B d (bv bs)) :
    Calls Try.prog 6 #[.slice A l.length c, .int .u16 (u : Int), .slice B bs.length d] w fun e w' => e = .returned (.bool true) ∧ Below w.heap.size w w' := by
  obtain ⟨h, hz, -⟩ := h
  have Hl_w := Lib.hid h
  have HZ := Lib.hid hz
  have hl := h.len
  have hm := h.cap
  rw [sv_length] at hl
  unfold maxLen at hm
  clear h hz
  have Hb_w := Lib.hid hb
  have hbl := hb.len
  have hbm := hb.cap
  rw [bv_length] at hbl
  unfold maxLen at hbm
  clear hb
  by_cases hf : FewG l
  · obtain ⟨hl150, hs1, hal⟩ := few_facts hf
    have HFW : Hid (decide (FewG l) = true) := decide_eq_true hf
    have HS1 := Lib.hid hs1
    have HAL := Lib.hid hal
    clear hf hs1 hal
    by_cases hs : bs.length ≤ 1000
    · have i10 : ¬ (1000 : Int) < (bs.length : Int) := by omega
      have d10 : decide ((1000 : Int) < (bs.length : Int)) = false := decide_eq_false i10
      obtain ⟨m, hm⟩ : ∃ m, u % 3000 = m := ⟨_, rfl⟩
      have hm3 : m < 3000 := by omega
      have hmod : (u : Int) % 3000 = (m : Int) := by omega
      have htmod : (u : Int).tmod 3000 = (m : Int) := by rw [Int.tmod_eq_emod_of_nonneg (by omega)]; exact hmod
      clear hm
      go_enter Try.func6, Try.ntmps6
      go_wp2_with fail
      refine (awake15_any (w := _)).mono ?_
      rintro r w1 ⟨rfl, b_w1⟩
      have Hl_w1 := Lib.hid ((Hl_w.out.below b_w1 (Nat.le_refl _)).wide (Nat.zero_le _) b_w1.size)
      have Hb_w1 := Lib.hid ((Hb_w.out.below b_w1 (Nat.le_refl _)).wide (Nat.zero_le _) b_w1.size)
      have HB_w1 := Lib.hid b_w1
      have S_w1 := HB_w1.out.size
      clear b_w1 Hl_w Hb_w   
      go_wp2_with fail
      refine (fewg_is l true Hl_w1.out HFW.out HZ.out).mono ?_
      rintro r wq ⟨rfl, m_w2, rfl⟩
      obtain ⟨w2, hw_w2⟩ : ∃ q, w1.drewN m_w2 = q := ⟨_, rfl⟩
      have Hl_w2 : Hid (Rd w2 0 w2.heap.size A c (sv l)) := by unfold Hid; rw [← hw_w2]; exact Hl_w1.out.drewN m_w2
      have Hb_w2 : Hid (Rd w2 0 w2.heap.size B d (bv bs)) := by unfold Hid; rw [← hw_w2]; exact Hb_w1.out.drewN m_w2
      have HB_w2 : Hid (Below w.heap.size w w2) := by unfold Hid; rw [← hw_w2]; exact below_drewN' HB_w1.out m_w2
      have S_w2 := HB_w2.out.size
      rw [hw_w2]
      clear hw_w2 Hl_w1 Hb_w1 HB_w1
      go_wp2_with fail
      clear hmod htmod
      refine (refmake_fil l Hl_w2.out HS1.out (by omega) HAL.out m (by omega)).mono ?_
      rintro r w3 ⟨A3, c3, B3, d3, gs, rs, rfl, hfil, -, -, hflt, b_w3⟩
      have HFIL := Lib.hid hfil
      have HFL := Lib.hid hflt
      clear hfil hflt
      have Hb_w3 := Lib.hid ((Hb_w2.out.below b_w3 (Nat.le_refl _)).wide (Nat.zero_le _) b_w3.size)
      have HB_w3 := Lib.hid (below_below HB_w2.out b_w3 S_w2)
      have S_w3 := HB_w3.out.size
      clear b_w3 Hb_w2 HB_w2   
      have HFf_w3 : Hid (Flt w3 0 w3.heap.size (.agg #[.int .i64 (m : Int), .slice A3 gs.length c3, .slice B3 rs.length d3]) m gs rs) := (HFL.out.wide (Nat.zero_le _) (Nat.le_refl _))
      go_wp2_with fail
      obtain ⟨w4, hw_w4⟩ : ∃ q, w3.alloc (.cells #[.int .i64 (m : Int), .slice A3 gs.length c3, .slice B3 rs.length d3] 28) = q := ⟨_, rfl⟩
      have b_w4 : Below w3.heap.size w3 w4 := by rw [← hw_w4]; exact (Below.refl _ _).alloc (Nat.le_refl _) _
      rw [hw_w4]
      have HVxf : Hid (Blk w4 w3.heap.size 28 #[.int .i64 (m : Int), .slice A3 gs.length c3, .slice B3 rs.length d3]) := by unfold Hid; rw [← hw_w4]; exact Blk.new _ _ _
      have HFf_w4 := Lib.hid ((HFf_w3.out.below b_w4 (Nat.le_refl _)).wide (Nat.zero_le _) b_w4.size)
      have Hb_w4 := Lib.hid ((Hb_w3.out.below b_w4 (Nat.le_refl _)).wide (Nat.zero_le _) b_w4.size)
      have HB_w4 := Lib.hid (below_below HB_w3.out b_w4 S_w3)
      have S_w4 := HB_w4.out.size
      clear b_w4 Hb_w3 HB_w3  HFf_w3 
      have HVf_w4 := Lib.hid HVxf.out
      clear HVxf hw_w4
      clear HFL
      obtain ⟨W, hW⟩ : ∃ W, writeG m gs rs = W := ⟨_, rfl⟩
      have HW := Lib.hid hW
      have hWl : W.length ≤ 1000000 := by rw [← hW]; exact writeG_len HFIL.out
      clear hW
      refine (write_is W HFf_w4.out (Nat.le_refl _) HFIL.out HW.out).mono ?_
      rintro r w5 ⟨A5, c5, rfl, ho_w5, b_w5⟩
      have HVf_w5 := Lib.hid (HVf_w4.out.below b_w5 HVf_w4.out.lt)
      have HFf_w5 := Lib.hid ((HFf_w4.out.below b_w5 (Nat.le_refl _)).wide (Nat.zero_le _) b_w5.size)
      have Hb_w5 := Lib.hid ((Hb_w4.out.below b_w5 (Nat.le_refl _)).wide (Nat.zero_le _) b_w5.size)
      have HB_w5 := Lib.hid (below_below HB_w4.out b_w5 S_w4)
      have S_w5 := HB_w5.out.size
      have Hx_w5 := Lib.hid ((Rd.of_own ho_w5).wide (Nat.zero_le _) (Nat.le_refl _))
      clear b_w5 Hb_w4 HB_w4 ho_w5  HVf_w4 HFf_w4 
      go_wp2_with fail
      have HVK := Lib.hid HVf_w5.out
      have HCF : Hid (∀ wx, Below w5.heap.size w5 wx → wx.cell? ⟨w3.heap.size, 0, none⟩ = some (.int .i64 (m : Int)) ∧ wx.cell? ⟨w3.heap.size, 1, none⟩ = some (.slice A3 gs.length c3) ∧ wx.cell? ⟨w3.heap.size, 2, none⟩ = some (.slice B3 rs.length d3)) := fun wx hb => ⟨(hb.cell (p := ⟨w3.heap.size, 0, none⟩) HVK.out.lt).trans (HVK.out.cell 0), (hb.cell (p := ⟨w3.heap.size, 1, none⟩) HVK.out.lt).trans (HVK.out.cell 1), (hb.cell (p := ⟨w3.heap.size, 2, none⟩) HVK.out.lt).trans (HVK.out.cell 2)⟩
      have HFK := Lib.hid HFf_w5.out
      have HBK := Lib.hid Hb_w5.out
      have HB5 := Lib.hid HB_w5.out
      refine (cnew_is W Hx_w5.out (by omega) rfl).mono ?_
      rintro r w6 ⟨g, rfl, hcu, b_w6⟩
      have HCC := Lib.hid hcu
      have K6 := Lib.hid b_w6
      clear hcu
      clear HVf_w5 HFf_w5
      have Hb_w6 := Lib.hid ((Hb_w5.out.below b_w6 (Nat.le_refl _)).wide (Nat.zero_le _) b_w6.size)
      have Hx_w6 := Lib.hid ((Hx_w5.out.below b_w6 (Nat.le_refl _)).wide (Nat.zero_le _) b_w6.size)
      have HB_w6 := Lib.hid (below_below HB_w5.out b_w6 S_w5)
      have S_w6 := HB_w6.out.size
      clear b_w6 Hb_w5 Hx_w5 HB_w5   
      go_wp2_with fail
      have HXK := Lib.hid Hx_w6.out
      have hgl := HCC.out.lt
      have hgb : w5.heap.size ≤ g := HCC.out.base
      have KD6 : Hid (Below w6.heap.size w6 w6.drew) := (Below.refl _ _).drew
      have hS0 := HCF.out _ K6.out
      have hS1 := HCF.out _ (K6.out.drew)
      go_region_held3 (fun w' => w'.cell? ⟨w3.heap.size, 0, none⟩ = some (.int .i64 (m : Int)) ∧ w'.cell? ⟨w3.heap.size, 1, none⟩ = some (.slice A3 gs.length c3) ∧ w'.cell? ⟨w3.heap.size, 2, none⟩ = some (.slice B3 rs.length d3)) (first | assumption | go_keep) (first
        | (go_at_call 24; refine (refwrite_fil W (HFK.out.below (K6.out.drew) (Nat.le_refl _)) (K6.out.drew).size HFIL.out HW.out).mono ?_; rintro r wy ⟨Ay, cy, rfl, hoy, hby⟩; have KY6 : Hid (Below w6.heap.size w6 wy) := KD6.out.trans hby; have KY : Hid (Below w5.heap.size w5 wy) := K6.out.trans (KY6.out.mono K6.out.size); have hSy := HCF.out _ KY.out; have HOY := Lib.hid hoy; clear hoy hby)
        | (go_at_call 23; refine (same_len W W true (HXK.out.below KY6.out (Nat.le_refl _)) (Rd.of_own HOY.out) rfl rfl (decide_eq_true rfl)).mono ?_; rintro r w' ⟨rfl, rfl⟩)
        | (go_at_call 25; refine (gread_back (HCC.out.behind KY6.out hgl) HFIL.out HW.out (by omega)).mono ?_; rintro r w8 ⟨v8, rfl, hf8, hc8, ho8⟩; have K8 : Hid (Below w5.heap.size w5 w8) := KY.out.trans (ho8.below KY.out.size (fun i hi => by rw [hi]; exact hgb)); have hS8 := HCF.out _ K8.out; have HF8 := Lib.hid hf8; have HC8 := Lib.hid hc8; clear hf8 hc8 ho8)
        | (go_at_call 11; refine (same_is true HF8.out (HFK.out.below K8.out (Nat.le_refl _)) (Nat.le_refl _) K8.out.size (decide_eq_true ⟨rfl, rfl, rfl⟩)).mono ?_; rintro r w9 ⟨rfl, hb9⟩; have K9 : Hid (Below w5.heap.size w5 w9) := K8.out.trans (hb9.mono K8.out.size); have hS9 := HCF.out _ K9.out; have HC9 := Lib.hid (HC8.out.behind hb9 HC8.out.lt); clear hb9)
        | (go_at_call 26; refine (cend_is 0 HC9.out end_all).mono ?_; rintro r wa ⟨rfl, qa, rfl⟩; have KA : Hid (Below w5.heap.size w5 (w9.drewN qa)) := below_drewN' K9.out qa; have hSa := HCF.out _ KA.out))
      obtain ⟨wA, hwA⟩ : ∃ q, w9.drewN qa = q := ⟨_, rfl⟩
      rw [hwA] at KA
      have Hb_wA := Lib.hid ((HBK.out.below KA.out (Nat.le_refl _)).wide (Nat.le_refl _) KA.out.size)
      have HB_wA := Lib.hid (below_below HB5.out KA.out HB5.out.size)
      have S_wA := HB_wA.out.size
      clear hS0 hS1 hSy hS8 hS9 hSa
      go_wp2_with fail
      clear hwA
      refine (cnew_is bs Hb_wA.out (by omega) rfl).mono ?_
      rintro r wB ⟨gd, rfl, hcu, b_wB⟩
      have HCD := Lib.hid hcu
      clear hcu
      have hgdl := HCD.out.lt
      have hgdb : wA.heap.size ≤ gd := HCD.out.base
      have KB := Lib.hid b_wB
      have HBA := Lib.hid Hb_wA.out
      have HB_A := Lib.hid HB_wA.out
      have SA := HB_A.out.size
      have Hb_wB := Lib.hid ((Hb_wA.out.below b_wB (Nat.le_refl _)).wide (Nat.zero_le _) b_wB.size)
      have HB_wB := Lib.hid (below_below HB_wA.out b_wB S_wA)
      have S_wB := HB_wB.out.size
      clear b_wB Hb_wA HB_wA   
      go_wp2_with fail
      refine (gread_any HCD.out (by omega)).mono ?_
      rintro r wC ⟨v, b8, gs8, rs8, k8, e8, rfl, htk, hf8, hc8, ho8⟩
      have KC : Hid (Below wA.heap.size wA wC) := KB.out.trans (ho8.below KB.out.size (fun i hi => by rw [hi]; exact hgdb))
      have hb_C : Below wA.heap.size wA wC := KC.out
      have Hb_wC := Lib.hid ((HBA.out.below KC.out (Nat.le_refl _)).wide (Nat.le_refl _) KC.out.size)
      have HB_wC := Lib.hid (below_below HB_A.out KC.out SA)
      have S_wC := HB_wC.out.size
      have HTK := Lib.hid htk
      have HC8 := Lib.hid hc8
      obtain ⟨A8, c8, B8, d8, rfl, h81, h82⟩ := hf8
      have H81 := Lib.hid h81
      have H82 := Lib.hid h82
      clear htk hc8 ho8 h81 h82 hb_C
      by_cases he8 : e8 = 0
      · subst he8
        obtain ⟨-, hfl8, hdr8, hk8, hkl8⟩ := HTK.out.good rfl
        obtain ⟨W8, hW8⟩ : ∃ W, writeG b8 gs8 rs8 = W := ⟨_, rfl⟩
        rw [hW8] at hdr8 hk8
        have HFIL8 := Lib.hid hfl8
        have HW8 := Lib.hid hW8
        have HTKE : Hid (W8 = bs.take k8) := by unfold Hid; rw [List.drop_zero] at hdr8; rw [hdr8, hk8, Nat.zero_add, List.take_left]
        obtain ⟨lf, hlf⟩ : ∃ lf, bs.length - k8 = lf := ⟨_, rfl⟩
        have HLF := Lib.hid hlf
        have hW8l : W8.length ≤ 1000000 := by rw [← hW8]; exact writeG_len hfl8
        have hkk : lf + k8 = bs.length := by omega
        clear hfl8 hdr8 hk8 hW8 hlf
        have HCE := Lib.hid HC8.out
        have HFh_wC : Hid (Flt wC 0 wC.heap.size (.agg #[.int .i64 (b8 : Int), .slice A8 gs8.length c8, .slice B8 rs8.length d8]) b8 gs8 rs8) := flt_mk (H81.out.wide (Nat.zero_le _) (Nat.le_refl _)) (H82.out.wide (Nat.zero_le _) (Nat.le_refl _)) rfl rfl rfl
        go_wp2_with fail
        obtain ⟨wD, hw_wD⟩ : ∃ q, wC.alloc (.cells #[.int .i64 (b8 : Int), .slice A8 gs8.length c8, .slice B8 rs8.length d8] 28) = q := ⟨_, rfl⟩
        have b_wD : Below wC.heap.size wC wD := by rw [← hw_wD]; exact (Below.refl _ _).alloc (Nat.le_refl _) _
        have KD9 := Lib.hid b_wD
        rw [hw_wD]
        have HVxh : Hid (Blk wD wC.heap.size 28 #[.int .i64 (b8 : Int), .slice A8 gs8.length c8, .slice B8 rs8.length d8]) := by unfold Hid; rw [← hw_wD]; exact Blk.new _ _ _
        have HFh_wD := Lib.hid ((HFh_wC.out.below b_wD (Nat.le_refl _)).wide (Nat.zero_le _) b_wD.size)
        have Hb_wD := Lib.hid ((Hb_wC.out.below b_wD (Nat.le_refl _)).wide (Nat.zero_le _) b_wD.size)
        have HB_wD := Lib.hid (below_below HB_wC.out b_wD S_wC)
        have S_wD := HB_wD.out.size
        clear b_wD Hb_wC HB_wC  HFh_wC 
        have HVh_wD := Lib.hid HVxh.out
        clear HVxh hw_wD
        have HC9 := Lib.hid (HCE.out.behind KD9.out HCE.out.lt)
        refine (cgood_is true HC9.out rfl).mono ?_
        rintro r wq ⟨rfl, rfl⟩
        have ch0 : wD.cell? ⟨wC.heap.size, 0, none⟩ = some (.int .i64 (b8 : Int)) := HVh_wD.out.cell 0
        have ch1 : wD.cell? ⟨wC.heap.size, 1, none⟩ = some (.slice A8 gs8.length c8) := HVh_wD.out.cell 1
        have ch2 : wD.cell? ⟨wC.heap.size, 2, none⟩ = some (.slice B8 rs8.length d8) := HVh_wD.out.cell 2
        have zh0 := HVh_wD.out.frozen 0
        have zh1 := HVh_wD.out.frozen 1
        have zh2 := HVh_wD.out.frozen 2
        go_wp2_with fail
        clear ch0 zh0 ch1 zh1 ch2 zh2
        have HC10 := Lib.hid HC9.out
        refine (refwrite_fil W8 HFh_wD.out (Nat.le_refl _) HFIL8.out HW8.out).mono ?_
        rintro r wE ⟨AE, cE, rfl, ho_wE, b_wE⟩
        have HC11 := Lib.hid (HC9.out.behind b_wE HC9.out.lt)
        have Hb_wE := Lib.hid ((Hb_wD.out.below b_wE (Nat.le_refl _)).wide (Nat.zero_le _) b_wE.size)
        have HB_wE := Lib.hid (below_below HB_wD.out b_wE S_wD)
        have S_wE := HB_wE.out.size
        have Hy_wE := Lib.hid ((Rd.of_own ho_wE).wide (Nat.zero_le _) (Nat.le_refl _))
        clear b_wE Hb_wD HB_wD ho_wE   
        go_wp2_with fail
        have hw2 : (bs.length : Int) - (lf : Int) = (k8 : Int) := by omega
        have hw1 : IntKind.i64.wrap ((bs.length : Int) - (lf : Int)) = (k8 : Int) := (IntWalk.i64_in _ (by omega)).trans hw2
        have hkb : k8 ≤ bs.length := by omega
        have hkd : k8 ≤ d := by omega
        have ikd : (k8 : Int) ≤ (d : Int) := by omega
        refine (cleft_is HC11.out HLF.out).mono ?_
        rintro r wq ⟨rfl, m_wF, rfl⟩
        obtain ⟨wF, hw_wF⟩ : ∃ q, wE.drewN m_wF = q := ⟨_, rfl⟩
        have Hb_wF : Hid (Rd wF 0 wF.heap.size B d (bv bs)) := by unfold Hid; rw [← hw_wF]; exact Hb_wE.out.drewN m_wF
        have Hy_wF : Hid (Rd wF 0 wF.heap.size AE cE (bv W8)) := by unfold Hid; rw [← hw_wF]; exact Hy_wE.out.drewN m_wF
        have HB_wF : Hid (Below w.heap.size w wF) := by unfold Hid; rw [← hw_wF]; exact below_drewN' HB_wE.out m_wF
        have S_wF := HB_wF.out.size
        rw [hw_wF]
        clear hw_wF Hb_wE Hy_wE HB_wE
        go_wp2_with fail
        clear hw1 hw2
        have HTL : Hid (W8.length = W8.length) := rfl
        refine (same_take W8 bs k8 hkb Hy_wF.out Hb_wF.out HTKE.out).mono ?_
        rintro r wq ⟨rfl, rfl⟩
        go_wp2_with fail
        go_ret
        exact ⟨rfl, HB_wF.out⟩
      · obtain ⟨rfl, rfl, rfl⟩ := HTK.out.bad he8
        have be8 : (e8 == 0) = false := beq_eq_false_iff_ne.2 he8
        have HCE := Lib.hid HC8.out
        have HFh_wC : Hid (Flt wC 0 wC.heap.size (.agg #[.int .i64 0, .slice A8 0 c8, .slice B8 0 d8]) 0 [] []) := flt_mk (b := 0) (gs := []) (rs := []) (H81.out.wide (Nat.zero_le _) (Nat.le_refl _)) (H82.out.wide (Nat.zero_le _) (Nat.le_refl _)) rfl rfl rfl
        go_wp2_with fail
        obtain ⟨wD, hw_wD⟩ : ∃ q, wC.alloc (.cells #[.int .i64 0, .slice A8 0 c8, .slice B8 0 d8] 28) = q := ⟨_, rfl⟩
        have b_wD : Below wC.heap.size wC wD := by rw [← hw_wD]; exact (Below.refl _ _).alloc (Nat.le_refl _) _
        have KD9 := Lib.hid b_wD
        rw [hw_wD]
        have HVxh : Hid (Blk wD wC.heap.size 28 #[.int .i64 0, .slice A8 0 c8, .slice B8 0 d8]) := by unfold Hid; rw [← hw_wD]; exact Blk.new _ _ _
        have HFh_wD := Lib.hid ((HFh_wC.out.below b_wD (Nat.le_refl _)).wide (Nat.zero_le _) b_wD.size)
        have Hb_wD := Lib.hid ((Hb_wC.out.below b_wD (Nat.le_refl _)).wide (Nat.zero_le _) b_wD.size)
        have HB_wD := Lib.hid (below_below HB_wC.out b_wD S_wC)
        have S_wD := HB_wD.out.size
        clear b_wD Hb_wC HB_wC  HFh_wC 
        have HVh_wD := Lib.hid HVxh.out
        clear HVxh hw_wD
        have HC9 := Lib.hid (HCE.out.behind KD9.out HCE.out.lt)
        refine (cgood_is false HC9.out be8).mono ?_
        rintro r wq ⟨rfl, rfl⟩
        have ch0 : wD.cell? ⟨wC.heap.size, 0, none⟩ = some (.int .i64 0) := HVh_wD.out.cell 0
        have ch1 : wD.cell? ⟨wC.heap.size, 1, none⟩ = some (.slice A8 0 c8) := HVh_wD.out.cell 1
        have ch2 : wD.cell? ⟨wC.heap.size, 2, none⟩ = some (.slice B8 0 d8) := HVh_wD.out.cell 2
        have zh0 := HVh_wD.out.frozen 0
        have zh1 := HVh_wD.out.frozen 1
        have zh2 := HVh_wD.out.frozen 2
        go_wp2_with fail
        clear ch0 zh0 ch1 zh1 ch2 zh2
        refine (same_is true HFh_wD.out (Flt.empty _) (Nat.le_refl _) (Nat.zero_le _) (by decide)).mono ?_
        rintro r wE ⟨rfl, b_wE⟩
        have HVh_wE := Lib.hid (HVh_wD.out.below b_wE HVh_wD.out.lt)
        have HFh_wE := Lib.hid ((HFh_wD.out.below b_wE (Nat.le_refl _)).wide (Nat.zero_le _) b_wE.size)
        have Hb_wE := Lib.hid ((Hb_wD.out.below b_wE (Nat.le_refl _)).wide (Nat.zero_le _) b_wE.size)
        have HB_wE := Lib.hid (below_below HB_wD.out b_wE S_wD)
        have S_wE := HB_wE.out.size
        clear b_wE Hb_wD HB_wD  HVh_wD HFh_wD 
        go_wp2_with fail
        go_ret
        exact ⟨rfl, HB_wE.out⟩
    · have i10 : (1000 : Int) < (bs.length : Int) := by omega
      have d10 : decide ((1000 : Int) < (bs.length : Int)) = true := decide_eq_true i10
      go_enter Try.func6, Try.ntmps6
      go_wp2_with fail
      refine (awake15_any (w := _)).mono ?_
      rintro r w1 ⟨rfl, b_w1⟩
      have Hl_w1 := Lib.hid ((Hl_w.out.below b_w1 (Nat.le_refl _)).wide (Nat.zero_le _) b_w1.size)
      have Hb_w1 := Lib.hid ((Hb_w.out.below b_w1 (Nat.le_refl _)).wide (Nat.zero_le _) b_w1.size)
      have HB_w1 := Lib.hid b_w1
      have S_w1 := HB_w1.out.size
      clear b_w1 Hl_w Hb_w   
      go_wp2_with fail
      refine (fewg_is l true Hl_w1.out HFW.out HZ.out).mono ?_
      rintro r wq ⟨rfl, m_w2, rfl⟩
      obtain ⟨w2, hw_w2⟩ : ∃ q, w1.drewN m_w2 = q := ⟨_, rfl⟩
      have Hl_w2 : Hid (Rd w2 0 w2.heap.size A c (sv l)) := by unfold Hid; rw [← hw_w2]; exact Hl_w1.out.drewN m_w2
      have Hb_w2 : Hid (Rd w2 0 w2.heap.size B d (bv bs)) := by unfold Hid; rw [← hw_w2]; exact Hb_w1.out.drewN m_w2
      have HB_w2 : Hid (Below w.heap.size w w2) := by unfold Hid; rw [← hw_w2]; exact below_drewN' HB_w1.out m_w2
      have S_w2 := HB_w2.out.size
      rw [hw_w2]
      clear hw_w2 Hl_w1 Hb_w1 HB_w1
      go_wp2_with fail
      refine (awake15_any (w := _)).mono ?_
      rintro r w3 ⟨rfl, b_w3⟩
      have Hl_w3 := Lib.hid ((Hl_w2.out.below b_w3 (Nat.le_refl _)).wide (Nat.zero_le _) b_w3.size)
      have Hb_w3 := Lib.hid ((Hb_w2.out.below b_w3 (Nat.le_refl _)).wide (Nat.zero_le _) b_w3.size)
      have HB_w3 := Lib.hid (below_below HB_w2.out b_w3 S_w2)
      have S_w3 := HB_w3.out.size
      clear b_w3 Hl_w2 Hb_w2 HB_w2   
      go_wp2_with fail
      go_ret
      exact ⟨rfl, HB_w3.out⟩
  · have HNF : Hid (decide (FewG l) = false) := decide_eq_false hf
    clear hf
    go_enter Try.func6, Try.ntmps6
    go_wp2_with fail
    refine (awake15_any (w := _)).mono ?_
    rintro r w1 ⟨rfl, b_w1⟩
    have Hl_w1 := Lib.hid ((Hl_w.out.below b_w1 (Nat.le_refl _)).wide (Nat.zero_le _) b_w1.size)
    have Hb_w1 := Lib.hid ((Hb_w.out.below b_w1 (Nat.le_refl _)).wide (Nat.zero_le _) b_w1.size)
    have HB_w1 := Lib.hid b_w1
    have S_w1 := HB_w1.out.size
    clear b_w1 Hl_w Hb_w   
    go_wp2_with fail
    refine (fewg_is l false Hl_w1.out HNF.out HZ.out).mono ?_
    rintro r wq ⟨rfl, m_w2, rfl⟩
    obtain ⟨w2, hw_w2⟩ : ∃ q, w1.drewN m_w2 = q := ⟨_, rfl⟩
    have Hl_w2 : Hid (Rd w2 0 w2.heap.size A c (sv l)) := by unfold Hid; rw [← hw_w2]; exact Hl_w1.out.drewN m_w2
    have Hb_w2 : Hid (Rd w2 0 w2.heap.size B d (bv bs)) := by unfold Hid; rw [← hw_w2]; exact Hb_w1.out.drewN m_w2
    have HB_w2 : Hid (Below w.heap.size w w2) := by unfold Hid; rw [← hw_w2]; exact below_drewN' HB_w1.out m_w2
    have S_w2 := HB_w2.out.size
    rw [hw_w2]
    clear hw_w2 Hl_w1 Hb_w1 HB_w1
    go_wp2_with fail
    refine (awake15_any (w := _)).mono ?_
    rintro r w3 ⟨rfl, b_w3⟩
    have Hl_w3 := Lib.hid ((Hl_w2.out.below b_w3 (Nat.le_refl _)).wide (Nat.zero_le _) b_w3.size)
    have Hb_w3 := Lib.hid ((Hb_w2.out.below b_w3 (Nat.le_refl _)).wide (Nat.zero_le _) b_w3.size)
    have HB_w3 := Lib.hid (below_below HB_w2.out b_w3 S_w2)
    have S_w3 := HB_w3.out.size
    clear b_w3 Hl_w2 Hb_w2 HB_w2   
    go_wp2_with fail
    go_ret
    exact ⟨rfl, HB_w3.out⟩

set_option maxRecDepth 100000 in
theorem gramBack_lifted (os : Os) (started : os.Started) (H : Type) (enc : TypeId × Value → H) :
    ReturnsInHanded {} Try.checked os 6 .any (Rows.gramBackSpec.pre6 enc Try.prog Try.f6 Rows.gramBackRow.domain false) (Rows.gramBackSpec.post enc Try.prog Try.f6 false true false false) := by
  refine returnsInHanded_of_change_sized (C := Try.checked) own started (by kernel_rfl) Try.func6
    (ChangeSpec.witness6 (enc := enc) (C := Try.checked) false ⟨#[], #[.slice none 0 0, .int .u16 0, .slice none 0 0], []⟩ 8 (by kernel_rfl) (by kernel_rfl) (by kernel_rfl) (by kernel_rfl)) ?_
  intro W base args ds gs before hval0 hW hcnd hsz0 _
  have hsz : (DataW.weightsEach Try.prog (Try.f6.params.toList ++ Rows.gramBackSpec.plain.varTypes Try.prog) (ds ++ gs)).all (· ≤ reachBytes) = true := hsz0
  have hval : ∀ (j : Nat) t v, Try.f6.params[j]? = some t → args[j]? = some v → Value.okWide Try.prog W .any base t v := hval0
  have hW' := hW
  obtain ⟨p, q, hA0, hV, rfl, hfz, hnd⟩ := hW
  have hA : DataW.TrodAll enc Try.prog W 0 (fun _ => true) true Try.f6.params.toList args.toList ds p := hA0
  have hA1 : DataW.TrodAll enc Try.prog W 0 (fun _ => true) true Try.f6.params.toList args.toList ds p := hA0
  rw [Try.params6] at hA hval hsz
  obtain ⟨v0, vs0, d0, ds0, p0, q0, hargs, rfl, rfl, h0, r0⟩ := trodAll_cons hA
  obtain ⟨v1, vs1, d1, ds1, p1, q1, rfl, rfl, rfl, h1, r1⟩ := trodAll_cons r0
  obtain ⟨v2, vs2, d2, ds2, p2, q2, rfl, rfl, rfl, h2, r2⟩ := trodAll_cons r1
  obtain ⟨rfl, rfl, rfl⟩ := trodAll_nil r2
  obtain rfl : args = #[v0, v1, v2] := by cases args; simp_all
  obtain ⟨rfl, rfl⟩ := trodVars_none hV
  obtain ⟨A0, a0, c0, rfl, w0⟩ := open_strs_sized Try.underlying22 Try.underlying9 (by kernel_rfl) (by kernel_rfl) (hval 0 22 v0 rfl rfl) h0 (fun n hn => by have := List.all_eq_true.1 hsz n (DataW.weights_mem_each (j := 0) (t := 22) rfl rfl n hn); simpa using this)
  obtain ⟨a1, rfl, rfl, rfl, w1⟩ := open_int Try.underlying35 (hval 1 35 v1 rfl rfl) h1
  obtain ⟨b1, rfl, l1⟩ := u16_of_wf w1
  obtain ⟨A2, a2, c2, rfl, w2⟩ := open_bytes Try.underlying45 Try.underlying5 (by kernel_rfl) (hval 2 45 v2 rfl rfl) h2
  clear hA0 hval0
  refine (gramBack_walk (w := W) w0 b1 l1 w2).mono fun e W' ⟨he, bel⟩ => ?_
  subst he
  exact ⟨_, rfl, _, _, _, [], _, [], hW', trodAll_mk1 (shut_bool Try.underlying4 _), trodAll_below laidOut bel _ _ _ _ (by kernel_rfl) hA1, rfl, bel.frame _, fun h => by cases h⟩

theorem gramBack_over : Rows.gramBackRow.holds Try.pinned (OpenSpec.ofChange Rows.gramBackSpec) :=
  OpenClaim.holds_of_wide 6 Try.f6 rfl rfl rfl rfl rfl rfl rfl ⟨rfl, rfl, rfl, rfl, rfl⟩ rfl rfl rfl rfl rfl (by kernel_rfl) Try.func6 (by kernel_rfl)
    (of_decide_eq_true (by kernel_rfl)) (by unfold Func.isWrapper; first | (rw [if_pos (by decide +kernel)]; kernel_rfl) | (rw [if_neg (by decide +kernel)]; exact ⟨rfl, rfl⟩))
    (fun os started H enc _ => gramBack_lifted os started H enc)

/-- The statement. -/
theorem gramBack_proved : Rows.GramBackSaid := gramBack_over


end Go.Proofs.Ytepgkdmfoojppaa
