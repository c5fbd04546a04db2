/-
  Proved: TrainTrains of layer 12: of whatever sample and rounds, Train answers the document's table; what came in reads as it did. Conditions: none of our own.
-/
import Derived.Test.YtpollebfehdnjaaTnL
import Derived.Test.YtpollebfehdnjaaMgH
namespace Go.Proofs.Ytpollebfehdnjaa
set_option linter.unusedSimpArgs false
set_option linter.unusedVariables false
open Go.ChangeShapes Go.WideShapes Go.ChangeAt Go.RowKit
open Go.ChangeMaps (open_string shut_string)

set_option maxRecDepth 20000 in
set_option maxHeartbeats 4000000 in
theorem trainTrains_walk {w : World} {B : Option Addr} {S : List ByteArray} {d : Nat} (hS : Rd w 0 w.heap.size B d (sv S) ∧ (∀ s ∈ S, s.size ≤ 140737488351232) ∧ S.length ≤ 8796093021952) (N : Int) (hN : (Lit.int .i64 N).wf) :
    Calls Try.prog 5 #[.slice B S.length d, .int .i64 N] w fun e w' => e = .returned (.bool true) ∧ Below w.heap.size w w' := by
  have hN1 : -9223372036854775808 ≤ N ∧ N ≤ 9223372036854775807 := by simpa [Lit.wf, IntKind.min, IntKind.max, IntKind.signed, IntKind.bits] using hN
  have HN := Lib.hid hN1
  clear hN hN1
  obtain ⟨hS, hSz, hSn⟩ := hS
  have HS_w := Lib.hid hS
  have hSl := hS.len
  have hSm := hS.cap
  rw [sv_length] at hSl
  unfold maxLen at hSm
  have HZS := Lib.hid hSz
  clear hS hSz
  by_cases ht : FewT S
  · obtain ⟨hs60, hsb, hbag⟩ := fewT_facts ht
    have HFT : Hid (decide (FewT S) = true) := decide_eq_true ht
    have HSB := Lib.hid hsb
    have HBG := Lib.hid hbag
    clear ht hsb hbag
    obtain ⟨k, hk⟩ : ∃ k, roundsN N = k := ⟨_, rfl⟩
    have HK := Lib.hid hk
    clear hk
    go_enter Try.func5, Try.ntmps5
    go_wp2_with fail
    refine (awake12_any (w := _)).mono ?_
    rintro r w1 ⟨rfl, b_w1⟩
    have HS_w1 := Lib.hid ((HS_w.out.below b_w1 (Nat.le_refl _)).wide (Nat.zero_le _) b_w1.size)
    have HB_w1 := Lib.hid b_w1
    have S_w1 := HB_w1.out.size
    clear b_w1 HS_w 
    go_wp2_with fail
    refine (fewT_is S true HS_w1.out HZS.out HFT.out).mono ?_
    rintro r w2 ⟨rfl, m_w2, rfl⟩
    obtain ⟨w2, hw_w2⟩ : ∃ q, w1.drewN m_w2 = q := ⟨_, rfl⟩
    have HS_w2 : Hid (Rd w2 0 w2.heap.size B d (sv S)) := by unfold Hid; rw [← hw_w2]; exact HS_w1.out.drewN m_w2
    have HB_w2 : Hid (Below w.heap.size w w2) := by unfold Hid; rw [← hw_w2]; exact below_drewN' HB_w1.out m_w2
    have S_w2 := HB_w2.out.size
    rw [hw_w2]
    clear hw_w2 HS_w1 HB_w1
    go_wp2_with fail
    refine (train_some S N HS_w2.out (by omega) HSB.out HN.out HK.out rfl).mono ?_
    rintro r w3 ⟨u, A_w3, c_w3, rfl, hu, ho_w3, b_w3⟩
    have HU := Lib.hid hu
    have HUL := Lib.hid (strsL_length u)
    clear hu
    have HS_w3 := Lib.hid ((HS_w2.out.below b_w3 (Nat.le_refl _)).wide (Nat.zero_le _) b_w3.size)
    have HB_w3 := Lib.hid (below_below HB_w2.out b_w3 S_w2)
    have S_w3 := HB_w3.out.size
    have Hu_w3 := Lib.hid ((Rd.of_own ho_w3).wide (Nat.zero_le _) (Nat.le_refl _))
    clear b_w3 HS_w2 HB_w2 ho_w3 
    go_wp2_with fail
    refine (reftrain_is S N u HS_w3.out (by omega) HSB.out HBG.out HK.out HU.out rfl).mono ?_
    rintro r w4 ⟨A4, c4, rfl, ho_w4, b_w4⟩
    have HS_w4 := Lib.hid ((HS_w3.out.below b_w4 (Nat.le_refl _)).wide (Nat.zero_le _) b_w4.size)
    have Hu_w4 := Lib.hid ((Hu_w3.out.below b_w4 (Nat.le_refl _)).wide (Nat.zero_le _) b_w4.size)
    have HB_w4 := Lib.hid (below_below HB_w3.out b_w4 S_w3)
    have S_w4 := HB_w4.out.size
    have Hy_w4 := Lib.hid ((Rd.of_own ho_w4).wide (Nat.zero_le _) (Nat.le_refl _))
    clear b_w4 HS_w3 Hu_w3 HB_w3 ho_w4 
    go_wp2_with fail
    refine (nsame_is (strsL u) (strsL u) true Hu_w4.out Hy_w4.out HUL.out HUL.out (decide_eq_true rfl)).mono ?_
    rintro r w5 ⟨rfl, m_w5, rfl⟩
    obtain ⟨w5, hw_w5⟩ : ∃ q, w4.drewN m_w5 = q := ⟨_, rfl⟩
    have HS_w5 : Hid (Rd w5 0 w5.heap.size B d (sv S)) := by unfold Hid; rw [← hw_w5]; exact HS_w4.out.drewN m_w5
    have Hu_w5 : Hid (Rd w5 0 w5.heap.size A_w3 c_w3 (sv (strsL u))) := by unfold Hid; rw [← hw_w5]; exact Hu_w4.out.drewN m_w5
    have Hy_w5 : Hid (Rd w5 0 w5.heap.size A4 c4 (sv (strsL u))) := by unfold Hid; rw [← hw_w5]; exact Hy_w4.out.drewN m_w5
    have HB_w5 : Hid (Below w.heap.size w w5) := by unfold Hid; rw [← hw_w5]; exact below_drewN' HB_w4.out m_w5
    have S_w5 := HB_w5.out.size
    rw [hw_w5]
    clear hw_w5 HS_w4 Hu_w4 Hy_w4 HB_w4
    go_wp2_with fail
    go_ret
    exact ⟨rfl, HB_w5.out⟩
  · have HNT : Hid (decide (FewT S) = false) := decide_eq_false ht
    clear ht
    go_enter Try.func5, Try.ntmps5
    go_wp2_with fail
    refine (awake12_any (w := _)).mono ?_
    rintro r w1 ⟨rfl, b_w1⟩
    have HS_w1 := Lib.hid ((HS_w.out.below b_w1 (Nat.le_refl _)).wide (Nat.zero_le _) b_w1.size)
    have HB_w1 := Lib.hid b_w1
    have S_w1 := HB_w1.out.size
    clear b_w1 HS_w 
    go_wp2_with fail
    refine (fewT_is S false HS_w1.out HZS.out HNT.out).mono ?_
    rintro r w2 ⟨rfl, m_w2, rfl⟩
    obtain ⟨w2, hw_w2⟩ : ∃ q, w1.drewN m_w2 = q := ⟨_, rfl⟩
    have HS_w2 : Hid (Rd w2 0 w2.heap.size B d (sv S)) := by unfold Hid; rw [← hw_w2]; exact HS_w1.out.drewN m_w2
    have HB_w2 : Hid (Below w.heap.size w w2) := by unfold Hid; rw [← hw_w2]; exact below_drewN' HB_w1.out m_w2
    have S_w2 := HB_w2.out.size
    rw [hw_w2]
    clear hw_w2 HS_w1 HB_w1
    go_wp2_with fail
    refine (awake12_any (w := _)).mono ?_
    rintro r w3 ⟨rfl, b_w3⟩
    have HS_w3 := Lib.hid ((HS_w2.out.below b_w3 (Nat.le_refl _)).wide (Nat.zero_le _) b_w3.size)
    have HB_w3 := Lib.hid (below_below HB_w2.out b_w3 S_w2)
    have S_w3 := HB_w3.out.size
    clear b_w3 HS_w2 HB_w2 
    go_wp2_with fail
    go_ret
    exact ⟨rfl, HB_w3.out⟩

set_option maxRecDepth 100000 in
theorem trainTrains_lifted (os : Os) (started : os.Started) (H : Type) (enc : TypeId × Value → H) :
    ReturnsInHanded {} Try.checked os 5 .any (Rows.trainTrainsSpec.pre6 enc Try.prog Try.f5 Rows.trainTrainsRow.domain false) (Rows.trainTrainsSpec.post enc Try.prog Try.f5 false true false false) := by
  refine returnsInHanded_of_change_sized (C := Try.checked) own started (by kernel_rfl) Try.func5
    (ChangeSpec.witness6 (enc := enc) (C := Try.checked) false ⟨#[], #[.slice none 0 0, .int .i64 0], []⟩ 8 (by kernel_rfl) (by kernel_rfl) (by kernel_rfl) (by kernel_rfl)) ?_
  intro W base args ds gs before hval0 hW hcnd hsz0 _
  have hsz : (DataW.weightsEach Try.prog (Try.f5.params.toList ++ Rows.trainTrainsSpec.plain.varTypes Try.prog) (ds ++ gs)).all (· ≤ reachBytes) = true := hsz0
  have hval : ∀ (j : Nat) t v, Try.f5.params[j]? = some t → args[j]? = some v → Value.okWide Try.prog W .any base t v := hval0
  have hW' := hW
  obtain ⟨p, q, hA0, hV, rfl, hfz, hnd⟩ := hW
  have hA : DataW.TrodAll enc Try.prog W 0 (fun _ => true) true Try.f5.params.toList args.toList ds p := hA0
  have hA1 : DataW.TrodAll enc Try.prog W 0 (fun _ => true) true Try.f5.params.toList args.toList ds p := hA0
  rw [Try.params5] at hA hval hsz
  obtain ⟨v0, vs0, d0, ds0, p0, q0, hargs, rfl, rfl, h0, r0⟩ := trodAll_cons hA
  obtain ⟨v1, vs1, d1, ds1, p1, q1, rfl, rfl, rfl, h1, r1⟩ := trodAll_cons r0
  obtain ⟨rfl, rfl, rfl⟩ := trodAll_nil r1
  obtain rfl : args = #[v0, v1] := by cases args; simp_all
  obtain ⟨rfl, rfl⟩ := trodVars_none hV
  obtain ⟨A0, a0, c0, rfl, w0⟩ := open_strs_sized Try.underlying22 Try.underlying9 (by kernel_rfl) (by kernel_rfl) (hval 0 22 v0 rfl rfl) h0 (fun n hn => by have := List.all_eq_true.1 hsz n (DataW.weights_mem_each (j := 0) (t := 22) rfl rfl n hn); simpa using this)
  obtain ⟨a1, rfl, rfl, rfl, w1⟩ := open_int Try.underlying3 (hval 1 3 v1 rfl rfl) h1
  clear hA0 hval0
  refine (trainTrains_walk (w := W) w0 a1 w1).mono fun e W' ⟨he, bel⟩ => ?_
  subst he
  exact ⟨_, rfl, _, _, _, [], _, [], hW', trodAll_mk1 (shut_bool Try.underlying4 _), trodAll_below laidOut bel _ _ _ _ (by kernel_rfl) hA1, rfl, bel.frame _, fun h => by cases h⟩

theorem trainTrains_over : Rows.trainTrainsRow.holds Try.pinned (OpenSpec.ofChange Rows.trainTrainsSpec) :=
  OpenClaim.holds_of_wide 5 Try.f5 rfl rfl rfl rfl rfl rfl rfl ⟨rfl, rfl, rfl, rfl, rfl⟩ rfl rfl rfl rfl rfl (by kernel_rfl) Try.func5 (by kernel_rfl)
    (of_decide_eq_true (by kernel_rfl)) (by unfold Func.isWrapper; first | (rw [if_pos (by decide +kernel)]; kernel_rfl) | (rw [if_neg (by decide +kernel)]; exact ⟨rfl, rfl⟩))
    (fun os started H enc _ => trainTrains_lifted os started H enc)

/-- The statement. -/
theorem trainTrains_proved : Rows.TrainTrainsSaid := trainTrains_over


end Go.Proofs.Ytpollebfehdnjaa
