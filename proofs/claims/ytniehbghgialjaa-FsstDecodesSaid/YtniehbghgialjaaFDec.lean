/-
  Proved: FsstDecodes of layer 11: of whatever few strings' table, bytes and limit, Decode answers the document's string and error, Count the document's count; what came in reads as it did. Conditions: none of our own.
-/
import Derived.Test.YtniehbghgialjaaLawF
import Derived.Test.YtniehbghgialjaaShellT
import Derived.Test.YtniehbghgialjaaShell
namespace Go.Proofs.Ytniehbghgialjaa
set_option linter.unusedSimpArgs false
set_option linter.unusedVariables false
open Go.ChangeShapes Go.WideShapes Go.ChangeAt Go.RowKit
open Go.ChangeMaps (open_string shut_string)

set_option maxRecDepth 20000 in
set_option maxHeartbeats 4000000 in
theorem fsstDecodes_walk {w : World} {A : Option Addr} {l : List ByteArray} {c : Nat} (h : Rd w 0 w.heap.size A c (sv l) ∧ ∀ s ∈ l, s.size ≤ maxLen) {B : Option Addr} {bs : List UInt8} {d : Nat} (hb : Rd w 0 w.heap.size B d (bv bs)) (M : Int) (hM : (Lit.int .i64 M).wf) :
    Calls Try.prog 4 #[.slice A l.length c, .slice B bs.length d, .int .i64 M] w fun e w' => e = .returned (.bool true) ∧ Below w.heap.size w w' := by
  obtain ⟨h, -⟩ := h
  have Hl_w := Lib.hid h
  have hl := h.len
  have hm := h.cap
  rw [sv_length] at hl
  unfold maxLen at hm
  clear h
  have Hb_w := Lib.hid hb
  have hbl := hb.len
  have hbm := hb.cap
  rw [bv_length] at hbl
  unfold maxLen at hbm
  clear hb
  have hM1 : -9223372036854775808 ≤ M ∧ M ≤ 9223372036854775807 := by simpa [Lit.wf, IntKind.min, IntKind.max, IntKind.signed, IntKind.bits] using hM
  obtain ⟨hM1, hM2⟩ := hM1
  clear hM
  by_cases hf : FewS l
  · obtain ⟨-, -⟩ := And.intro hl hm
    obtain ⟨hl3, hl1, hl2, hz1, hz2⟩ := few_sizes hf
    have HFW : Hid (decide (FewS l) = true) := decide_eq_true hf
    have HZ1 := Lib.hid hz1
    clear hz1 hz2 hf
    by_cases hs1 : bs.length ≤ 2000
    · have i10 : ¬ (2000 : Int) < (bs.length : Int) := by omega
      obtain ⟨t, ht⟩ : ∃ t, ordL (bytL2 l) = t := ⟨_, rfl⟩
      obtain ⟨hr, htl, ht5, ht8, hto⟩ := ord_facts l ht
      have htq : (strsL t).length ≤ 255 := by rw [htl]; exact ht5
      obtain ⟨T, hT⟩ : ∃ T, bytL2 (strsL t) = T := ⟨_, rfl⟩
      have hTl : T.length ≤ 255 := by rw [← hT, bytL2_length]; exact htq
      have HTT := Lib.hid hT
      have HT := Lib.hid ht
      have HR := Lib.hid hr
      have HTL := Lib.hid htl
      have HT8 := Lib.hid ht8
      have HTQ := Lib.hid htq
      clear ht hr htl ht8 hto hT htq
      obtain ⟨v2, hv2⟩ : ∃ v, decL T 100000 bs [] 0 = v := ⟨_, rfl⟩
      obtain ⟨o2, e2, k2⟩ := v2
      have HV2 : Hid (decL T 100000 bs [] 0 = ((⟨o2.toArray⟩ : ByteArray).data.toList, e2, k2)) := hv2
      have HC2 : Hid ((decL T 100000 bs [] 0).2.2 = k2) := by unfold Hid; rw [hv2]
      clear hv2
      by_cases hneg : M < 0
      · obtain ⟨v1, hv1⟩ : ∃ v, decL T 0 bs [] 0 = v := ⟨_, rfl⟩
        obtain ⟨o1, e1, k1⟩ := v1
        have HV1 : Hid (decL T 0 bs [] 0 = ((⟨o1.toArray⟩ : ByteArray).data.toList, e1, k1)) := hv1
        clear hv1
        go_enter Try.func4, Try.ntmps4
        go_wp2_with fail
        refine (awake11_any (w := _)).mono ?_
        rintro r w1 ⟨rfl, b_w1⟩
        have Hl_w1 := Lib.hid ((Hl_w.out.below b_w1 (Nat.le_refl _)).wide (Nat.zero_le _) b_w1.size)
        have Hb_w1 := Lib.hid ((Hb_w.out.below b_w1 (Nat.le_refl _)).wide (Nat.zero_le _) b_w1.size)
        have HB_w1 := Lib.hid b_w1
        have S_w1 := HB_w1.out.size
        clear b_w1 Hl_w Hb_w 
        go_wp2_with fail
        refine (few_is l true Hl_w1.out HFW.out).mono ?_
        rintro r w2 ⟨rfl, rfl⟩
        go_wp2_with fail
        refine (reforder_is l t Hl_w1.out HZ1.out hl1 HT.out rfl).mono ?_
        rintro r w2 ⟨A2, c2, rfl, ho_w2, b_w2⟩
        have Hl_w2 := Lib.hid ((Hl_w1.out.below b_w2 (Nat.le_refl _)).wide (Nat.zero_le _) b_w2.size)
        have Hb_w2 := Lib.hid ((Hb_w1.out.below b_w2 (Nat.le_refl _)).wide (Nat.zero_le _) b_w2.size)
        have HB_w2 := Lib.hid (below_below HB_w1.out b_w2 S_w1)
        have S_w2 := HB_w2.out.size
        have Ht_w2 := Lib.hid ((Rd.of_own ho_w2).wide (Nat.zero_le _) (Nat.le_refl _))
        clear b_w2 Hl_w1 Hb_w1 HB_w1 ho_w2 
        go_wp2_with fail
        refine (fdec_is (strsL t) bs 0 ⟨o1.toArray⟩ e1 k1 Ht_w2.out Hb_w2.out HT8.out HTQ.out (by omega) (by omega) (by omega) (by rw [HTT.out]; exact HV1.out) HTL.out rfl).mono ?_
        rintro r w3 ⟨rfl, b_w3⟩
        have Hl_w3 := Lib.hid ((Hl_w2.out.below b_w3 (Nat.le_refl _)).wide (Nat.zero_le _) b_w3.size)
        have Hb_w3 := Lib.hid ((Hb_w2.out.below b_w3 (Nat.le_refl _)).wide (Nat.zero_le _) b_w3.size)
        have Ht_w3 := Lib.hid ((Ht_w2.out.below b_w3 (Nat.le_refl _)).wide (Nat.zero_le _) b_w3.size)
        have HB_w3 := Lib.hid (below_below HB_w2.out b_w3 S_w2)
        have S_w3 := HB_w3.out.size
        clear b_w3 Hl_w2 Hb_w2 Ht_w2 HB_w2 
        go_wp2_with fail
        refine (refdec_is (strsL t) bs 0 ⟨o1.toArray⟩ e1 k1 Ht_w3.out Hb_w3.out HT8.out HTQ.out (by omega) (by rw [HTT.out]; exact HV1.out) HTL.out rfl).mono ?_
        rintro r w4 ⟨rfl, m_w4, rfl⟩
        obtain ⟨w4, hw_w4⟩ : ∃ q, w3.drewN m_w4 = q := ⟨_, rfl⟩
        have Hl_w4 : Hid (Rd w4 0 w4.heap.size A c (sv l)) := by unfold Hid; rw [← hw_w4]; exact Hl_w3.out.drewN m_w4
        have Hb_w4 : Hid (Rd w4 0 w4.heap.size B d (bv bs)) := by unfold Hid; rw [← hw_w4]; exact Hb_w3.out.drewN m_w4
        have Ht_w4 : Hid (Rd w4 0 w4.heap.size A2 c2 (sv (strsL t))) := by unfold Hid; rw [← hw_w4]; exact Ht_w3.out.drewN m_w4
        have HB_w4 : Hid (Below w.heap.size w w4) := by unfold Hid; rw [← hw_w4]; exact below_drewN' HB_w3.out m_w4
        have S_w4 := HB_w4.out.size
        rw [hw_w4]
        clear hw_w4 Hl_w3 Hb_w3 Ht_w3 HB_w3
        go_wp2_with fail
        refine (refdec_is (strsL t) bs 100000 ⟨o2.toArray⟩ e2 k2 Ht_w4.out Hb_w4.out HT8.out HTQ.out (by omega) (by rw [HTT.out]; exact HV2.out) HTL.out rfl).mono ?_
        rintro r w5 ⟨rfl, m_w5, rfl⟩
        obtain ⟨w5, hw_w5⟩ : ∃ q, w4.drewN m_w5 = q := ⟨_, rfl⟩
        have Hl_w5 : Hid (Rd w5 0 w5.heap.size A c (sv l)) := by unfold Hid; rw [← hw_w5]; exact Hl_w4.out.drewN m_w5
        have Hb_w5 : Hid (Rd w5 0 w5.heap.size B d (bv bs)) := by unfold Hid; rw [← hw_w5]; exact Hb_w4.out.drewN m_w5
        have Ht_w5 : Hid (Rd w5 0 w5.heap.size A2 c2 (sv (strsL t))) := by unfold Hid; rw [← hw_w5]; exact Ht_w4.out.drewN m_w5
        have HB_w5 : Hid (Below w.heap.size w w5) := by unfold Hid; rw [← hw_w5]; exact below_drewN' HB_w4.out m_w5
        have S_w5 := HB_w5.out.size
        rw [hw_w5]
        clear hw_w5 Hl_w4 Hb_w4 Ht_w4 HB_w4
        go_wp2_with fail
        refine (fcnt_is (strsL t) bs k2 Ht_w5.out Hb_w5.out HT8.out HTQ.out (by omega) (by rw [HTT.out]; exact HC2.out) HTL.out rfl).mono ?_
        rintro r w6 ⟨rfl, b_w6⟩
        have Hl_w6 := Lib.hid ((Hl_w5.out.below b_w6 (Nat.le_refl _)).wide (Nat.zero_le _) b_w6.size)
        have Hb_w6 := Lib.hid ((Hb_w5.out.below b_w6 (Nat.le_refl _)).wide (Nat.zero_le _) b_w6.size)
        have Ht_w6 := Lib.hid ((Ht_w5.out.below b_w6 (Nat.le_refl _)).wide (Nat.zero_le _) b_w6.size)
        have HB_w6 := Lib.hid (below_below HB_w5.out b_w6 S_w5)
        have S_w6 := HB_w6.out.size
        clear b_w6 Hl_w5 Hb_w5 Ht_w5 HB_w5 
        go_wp2_with fail
        go_ret
        exact ⟨rfl, HB_w6.out⟩
      · obtain ⟨v1, hv1⟩ : ∃ v, decL T M bs [] 0 = v := ⟨_, rfl⟩
        obtain ⟨o1, e1, k1⟩ := v1
        have HV1 : Hid (decL T M bs [] 0 = ((⟨o1.toArray⟩ : ByteArray).data.toList, e1, k1)) := hv1
        clear hv1
        go_enter Try.func4, Try.ntmps4
        go_wp2_with fail
        refine (awake11_any (w := _)).mono ?_
        rintro r w1 ⟨rfl, b_w1⟩
        have Hl_w1 := Lib.hid ((Hl_w.out.below b_w1 (Nat.le_refl _)).wide (Nat.zero_le _) b_w1.size)
        have Hb_w1 := Lib.hid ((Hb_w.out.below b_w1 (Nat.le_refl _)).wide (Nat.zero_le _) b_w1.size)
        have HB_w1 := Lib.hid b_w1
        have S_w1 := HB_w1.out.size
        clear b_w1 Hl_w Hb_w 
        go_wp2_with fail
        refine (few_is l true Hl_w1.out HFW.out).mono ?_
        rintro r w2 ⟨rfl, rfl⟩
        go_wp2_with fail
        refine (reforder_is l t Hl_w1.out HZ1.out hl1 HT.out rfl).mono ?_
        rintro r w2 ⟨A2, c2, rfl, ho_w2, b_w2⟩
        have Hl_w2 := Lib.hid ((Hl_w1.out.below b_w2 (Nat.le_refl _)).wide (Nat.zero_le _) b_w2.size)
        have Hb_w2 := Lib.hid ((Hb_w1.out.below b_w2 (Nat.le_refl _)).wide (Nat.zero_le _) b_w2.size)
        have HB_w2 := Lib.hid (below_below HB_w1.out b_w2 S_w1)
        have S_w2 := HB_w2.out.size
        have Ht_w2 := Lib.hid ((Rd.of_own ho_w2).wide (Nat.zero_le _) (Nat.le_refl _))
        clear b_w2 Hl_w1 Hb_w1 HB_w1 ho_w2 
        go_wp2_with fail
        refine (fdec_is (strsL t) bs M ⟨o1.toArray⟩ e1 k1 Ht_w2.out Hb_w2.out HT8.out HTQ.out (by omega) (by omega) (by omega) (by rw [HTT.out]; exact HV1.out) HTL.out rfl).mono ?_
        rintro r w3 ⟨rfl, b_w3⟩
        have Hl_w3 := Lib.hid ((Hl_w2.out.below b_w3 (Nat.le_refl _)).wide (Nat.zero_le _) b_w3.size)
        have Hb_w3 := Lib.hid ((Hb_w2.out.below b_w3 (Nat.le_refl _)).wide (Nat.zero_le _) b_w3.size)
        have Ht_w3 := Lib.hid ((Ht_w2.out.below b_w3 (Nat.le_refl _)).wide (Nat.zero_le _) b_w3.size)
        have HB_w3 := Lib.hid (below_below HB_w2.out b_w3 S_w2)
        have S_w3 := HB_w3.out.size
        clear b_w3 Hl_w2 Hb_w2 Ht_w2 HB_w2 
        go_wp2_with fail
        refine (refdec_is (strsL t) bs M ⟨o1.toArray⟩ e1 k1 Ht_w3.out Hb_w3.out HT8.out HTQ.out (by omega) (by rw [HTT.out]; exact HV1.out) HTL.out rfl).mono ?_
        rintro r w4 ⟨rfl, m_w4, rfl⟩
        obtain ⟨w4, hw_w4⟩ : ∃ q, w3.drewN m_w4 = q := ⟨_, rfl⟩
        have Hl_w4 : Hid (Rd w4 0 w4.heap.size A c (sv l)) := by unfold Hid; rw [← hw_w4]; exact Hl_w3.out.drewN m_w4
        have Hb_w4 : Hid (Rd w4 0 w4.heap.size B d (bv bs)) := by unfold Hid; rw [← hw_w4]; exact Hb_w3.out.drewN m_w4
        have Ht_w4 : Hid (Rd w4 0 w4.heap.size A2 c2 (sv (strsL t))) := by unfold Hid; rw [← hw_w4]; exact Ht_w3.out.drewN m_w4
        have HB_w4 : Hid (Below w.heap.size w w4) := by unfold Hid; rw [← hw_w4]; exact below_drewN' HB_w3.out m_w4
        have S_w4 := HB_w4.out.size
        rw [hw_w4]
        clear hw_w4 Hl_w3 Hb_w3 Ht_w3 HB_w3
        go_wp2_with fail
        refine (refdec_is (strsL t) bs 100000 ⟨o2.toArray⟩ e2 k2 Ht_w4.out Hb_w4.out HT8.out HTQ.out (by omega) (by rw [HTT.out]; exact HV2.out) HTL.out rfl).mono ?_
        rintro r w5 ⟨rfl, m_w5, rfl⟩
        obtain ⟨w5, hw_w5⟩ : ∃ q, w4.drewN m_w5 = q := ⟨_, rfl⟩
        have Hl_w5 : Hid (Rd w5 0 w5.heap.size A c (sv l)) := by unfold Hid; rw [← hw_w5]; exact Hl_w4.out.drewN m_w5
        have Hb_w5 : Hid (Rd w5 0 w5.heap.size B d (bv bs)) := by unfold Hid; rw [← hw_w5]; exact Hb_w4.out.drewN m_w5
        have Ht_w5 : Hid (Rd w5 0 w5.heap.size A2 c2 (sv (strsL t))) := by unfold Hid; rw [← hw_w5]; exact Ht_w4.out.drewN m_w5
        have HB_w5 : Hid (Below w.heap.size w w5) := by unfold Hid; rw [← hw_w5]; exact below_drewN' HB_w4.out m_w5
        have S_w5 := HB_w5.out.size
        rw [hw_w5]
        clear hw_w5 Hl_w4 Hb_w4 Ht_w4 HB_w4
        go_wp2_with fail
        refine (fcnt_is (strsL t) bs k2 Ht_w5.out Hb_w5.out HT8.out HTQ.out (by omega) (by rw [HTT.out]; exact HC2.out) HTL.out rfl).mono ?_
        rintro r w6 ⟨rfl, b_w6⟩
        have Hl_w6 := Lib.hid ((Hl_w5.out.below b_w6 (Nat.le_refl _)).wide (Nat.zero_le _) b_w6.size)
        have Hb_w6 := Lib.hid ((Hb_w5.out.below b_w6 (Nat.le_refl _)).wide (Nat.zero_le _) b_w6.size)
        have Ht_w6 := Lib.hid ((Ht_w5.out.below b_w6 (Nat.le_refl _)).wide (Nat.zero_le _) b_w6.size)
        have HB_w6 := Lib.hid (below_below HB_w5.out b_w6 S_w5)
        have S_w6 := HB_w6.out.size
        clear b_w6 Hl_w5 Hb_w5 Ht_w5 HB_w5 
        go_wp2_with fail
        go_ret
        exact ⟨rfl, HB_w6.out⟩
    · have i10 : (2000 : Int) < (bs.length : Int) := by omega
      go_enter Try.func4, Try.ntmps4
      go_wp2_with fail
      refine (awake11_any (w := _)).mono ?_
      rintro r w1 ⟨rfl, b1⟩
      go_wp2_with fail
      refine (few_is l true (Hl_w.out.below b1 (Nat.le_refl _)) HFW.out).mono ?_
      rintro r w2 ⟨rfl, rfl⟩
      go_wp2_with fail
      refine (awake11_any (w := _)).mono ?_
      rintro r w3 ⟨rfl, b3⟩
      go_wp2_with fail
      go_ret
      exact ⟨rfl, below_below b1 b3 b1.size⟩
  · have HNF : Hid (decide (FewS l) = false) := decide_eq_false hf
    clear hf
    go_enter Try.func4, Try.ntmps4
    go_wp2_with fail
    refine (awake11_any (w := _)).mono ?_
    rintro r w1 ⟨rfl, b1⟩
    go_wp2_with fail
    refine (few_is l false (Hl_w.out.below b1 (Nat.le_refl _)) HNF.out).mono ?_
    rintro r w2 ⟨rfl, rfl⟩
    go_wp2_with fail
    refine (awake11_any (w := _)).mono ?_
    rintro r w3 ⟨rfl, b3⟩
    go_wp2_with fail
    go_ret
    exact ⟨rfl, below_below b1 b3 b1.size⟩

set_option maxRecDepth 100000 in
theorem fsstDecodes_lifted (os : Os) (started : os.Started) (H : Type) (enc : TypeId × Value → H) :
    ReturnsInHanded {} Try.checked os 4 .any (Rows.fsstDecodesSpec.pre6 enc Try.prog Try.f4 Rows.fsstDecodesRow.domain false) (Rows.fsstDecodesSpec.post enc Try.prog Try.f4 false true false false) := by
  refine returnsInHanded_of_change (C := Try.checked) own started (by kernel_rfl) Try.func4
    (ChangeSpec.witness6 (enc := enc) (C := Try.checked) false ⟨#[], #[.slice none 0 0, .slice none 0 0, .int .i64 0], []⟩ 8 (by kernel_rfl) (by kernel_rfl) (by kernel_rfl) (by kernel_rfl)) ?_
  intro W base args ds gs before hval0 hW hcnd _
  have hval : ∀ (j : Nat) t v, Try.f4.params[j]? = some t → args[j]? = some v → Value.okWide Try.prog W .any base t v := hval0
  have hW' := hW
  obtain ⟨p, q, hA0, hV, rfl, hfz, hnd⟩ := hW
  have hA : DataW.TrodAll enc Try.prog W 0 (fun _ => true) true Try.f4.params.toList args.toList ds p := hA0
  have hA1 : DataW.TrodAll enc Try.prog W 0 (fun _ => true) true Try.f4.params.toList args.toList ds p := hA0
  rw [Try.params4] at hA hval
  obtain ⟨v0, vs0, d0, ds0, p0, q0, hargs, rfl, rfl, h0, r0⟩ := trodAll_cons hA
  obtain ⟨v1, vs1, d1, ds1, p1, q1, rfl, rfl, rfl, h1, r1⟩ := trodAll_cons r0
  obtain ⟨v2, vs2, d2, ds2, p2, q2, rfl, rfl, rfl, h2, r2⟩ := trodAll_cons r1
  obtain ⟨rfl, rfl, rfl⟩ := trodAll_nil r2
  obtain rfl : args = #[v0, v1, v2] := by cases args; simp_all
  obtain ⟨rfl, rfl⟩ := trodVars_none hV
  obtain ⟨A0, a0, c0, rfl, w0⟩ := open_strs Try.underlying22 Try.underlying9 (by kernel_rfl) (hval 0 22 v0 rfl rfl) h0
  obtain ⟨A1, a1, c1, rfl, w1⟩ := open_bytes Try.underlying27 Try.underlying5 (by kernel_rfl) (hval 1 27 v1 rfl rfl) h1
  obtain ⟨a2, rfl, rfl, rfl, w2⟩ := open_int Try.underlying3 (hval 2 3 v2 rfl rfl) h2
  clear hA0 hval0
  refine (fsstDecodes_walk (w := W) w0 w1 a2 w2).mono fun e W' ⟨he, bel⟩ => ?_
  subst he
  exact ⟨_, rfl, _, _, _, [], _, [], hW', trodAll_mk1 (shut_bool Try.underlying4 _), trodAll_below laidOut bel _ _ _ _ (by kernel_rfl) hA1, rfl, bel.frame _, fun h => by cases h⟩

theorem fsstDecodes_over : Rows.fsstDecodesRow.holds Try.pinned (OpenSpec.ofChange Rows.fsstDecodesSpec) :=
  OpenClaim.holds_of_wide 4 Try.f4 rfl rfl rfl rfl rfl rfl rfl ⟨rfl, rfl, rfl, rfl, rfl⟩ rfl rfl rfl rfl rfl (by kernel_rfl) Try.func4 (by kernel_rfl)
    (of_decide_eq_true (by kernel_rfl)) (by unfold Func.isWrapper; first | (rw [if_pos (by decide +kernel)]; kernel_rfl) | (rw [if_neg (by decide +kernel)]; exact ⟨rfl, rfl⟩))
    (fun os started H enc _ => fsstDecodes_lifted os started H enc)

/-- The statement. -/
theorem fsstDecodes_proved : Rows.FsstDecodesSaid := fsstDecodes_over


end Go.Proofs.Ytniehbghgialjaa
