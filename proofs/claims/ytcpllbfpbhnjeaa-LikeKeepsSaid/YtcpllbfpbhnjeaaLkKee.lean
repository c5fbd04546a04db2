/-
  Proved: LikeKeeps of layer 9: signs that are handed in stay as they are, and what stands behind them; what came in reads as it did. Conditions: none of our own.
-/
import Derived.Test.YtcpllbfpbhnjeaaLawL
import Derived.Test.YtcpllbfpbhnjeaaShell
import Derived.Test.YtcpllbfpbhnjeaaShellN
namespace Go.Proofs.Ytcpllbfpbhnjeaa
set_option linter.unusedSimpArgs false
set_option linter.unusedVariables false
open Go.ChangeShapes Go.WideShapes Go.ChangeAt Go.RowKit
open Go.ChangeMaps (open_string shut_string)


set_option maxRecDepth 20000 in
set_option maxHeartbeats 1000000 in
theorem likeKeeps_walk {w : World} {A : Option Addr} {zs : List Int} {c : Nat} (h : Rd w 0 w.heap.size A c (iv zs) ∧ Word zs) :
    Calls Try.prog 9 #[.slice A zs.length c] w fun e w' => e = .returned (.bool true) ∧ Below w.heap.size w w' := by
  obtain ⟨h, _⟩ := h
  have hl := h.len
  have hc := h.cap
  rw [iv_length] at hl
  unfold maxLen at hc
  have H := Lib.hid h
  clear h
  by_cases h6 : (300 : Int) < (zs.length : Int)
  · go_enter Try.func9, Try.ntmps9
    go_wp2_with fail
    refine (awake9_any (w := _)).mono ?_
    rintro r w1 ⟨rfl, b1⟩
    go_wp2_with fail
    refine (awake9_any (w := _)).mono ?_
    rintro r w2 ⟨rfl, b2⟩
    go_wp2_with fail
    go_ret
    exact ⟨rfl, below_below b1 b2 b1.size⟩
  · cases hr : rightS zs
    · have HR := Lib.hid hr
      clear hr
      go_enter Try.func9, Try.ntmps9
      go_wp2_with fail
      refine (awake9_any (w := _)).mono ?_
      rintro r w1 ⟨rfl, b1⟩
      go_wp2_with fail
      refine (refRight_any zs (H.out.below b1 (Nat.le_refl _))).mono ?_
      rw [HR.out]
      rintro r w2 ⟨rfl, rfl⟩
      go_wp2_with fail
      refine (awake9_any (w := _)).mono ?_
      rintro r w2 ⟨rfl, b2⟩
      go_wp2_with fail
      go_ret
      exact ⟨rfl, below_below b1 b2 b1.size⟩
    · have HR := Lib.hid hr
      obtain ⟨ns, hns, h7⟩ := right_ints hr
      clear hr
      subst hns
      have hil := ints_length ns
      have HLR := Lib.hid (fun w A c (h : Rd w 0 w.heap.size A c (iv (ints ns))) => hil ▸ lruns_any ns h (by omega))
      have HLM := Lib.hid (fun w lo hi A c (h : Rd w lo hi A c (iv (ints ns))) => hil ▸ lmatch_any ns ⟨#[97, 98, 99]⟩ h h7 (by decide))
      have HRR := Lib.hid (fun w lo hi (h : Rd w lo hi A c (iv (ints ns))) => refRight_any (w := w) (ints ns) h)
      clear h7 hil
      generalize ints ns = zs at *
      go_enter Try.func9, Try.ntmps9
      go_wp2_with fail
      refine (awake9_any (w := _)).mono ?_
      rintro r w1 ⟨rfl, b1⟩
      have H1 := Lib.hid (H.out.below b1 (Nat.le_refl _))
      go_wp2_with fail
      refine (HRR.out _ _ _ H1.out).mono ?_
      rw [HR.out]
      rintro r w2 ⟨rfl, rfl⟩
      have s1 := b1.size
      obtain ⟨A2, c2, w2, hrun, hown, hg2⟩ := append_nums (w1.alloc (.cells #[] 3)) w1.heap.size (.slice (some ⟨w1.heap.size, 0, none⟩) 0 0) [] zs zs (by simp) (own_none w1 _) (H1.out.alloc s1 _) (by simp; omega) (by simp)
      have k2 : Below w.heap.size w w2 := (b1.alloc s1 _).grown hg2 (by simp; omega) (by simp [Value.ownBlock]; omega)
      have HO2 := Lib.hid hown
      have K2 := Lib.hid k2
      have s2 := k2.size
      have s12 : w1.heap.size ≤ w2.heap.size := by have := hg2.size; simp at this; omega
      clear hown hg2 k2
      go_wp2_with (at_builtin; refine wpList_append_run rfl _ _ _ _ rfl rfl rfl hrun ?_; refine held ?_)
      refine ⟨?_⟩
      clear hrun
      go_wp2_with (at_builtin; refine wpList_push_num (v := .slice A2 zs.length c2) w1.heap.size zs (9) rfl _ _ rfl rfl rfl rfl (by rw [World.cell?_alloc_at _ _ _ _ rfl]; rfl) (HO2.out.alloc _) (by omega) (by simp; omega) ?_; intro A3 c3 w3 ho3 hg3; refine held ?_)
      refine ⟨?_⟩
      have k3 : Below w.heap.size w w3 := (K2.out.alloc s2 _).grown hg3 (by simp; omega) (fun q hq => by have := (own_lt HO2.out hq).1; omega)
      have HF := Lib.hid ((Rd.own ho3).wide (Nat.zero_le _) (Nat.le_refl _) : Rd w3 0 w3.heap.size A3 c3 (iv (zs ++ [9])))
      have hfl := HF.out.len
      rw [iv_length, List.length_append, List.length_cons, List.length_nil] at hfl
      have hfc := HF.out.cap
      unfold maxLen at hfc
      have hpr := HF.out.take_ zs.length
      rw [← iv_take, List.take_left] at hpr
      have HPR := Lib.hid hpr
      have K3 := Lib.hid k3
      have s3 := k3.size
      clear ho3 hg3 k3 hpr
      go_wp2_with fail
      refine (HLR.out w3 A3 c3 HPR.out).mono ?_
      rintro r w4 ⟨A4, c4, rfl, _, b4⟩
      have K4 := Lib.hid (below_below K3.out b4 s3)
      have HF4 := Lib.hid (HF.out.below b4 (Nat.le_refl _))
      have HP4 := Lib.hid (HPR.out.below b4 (Nat.le_refl _))
      clear b4
      go_wp2_with fail
      refine (HLM.out _ _ _ A3 c3 HP4.out).mono ?_
      rintro r w5 ⟨rfl, n5, rfl⟩
      go_wp2_with fail
      refine (ints_len zs zs true (HP4.out.drewN n5) ((H.out.below K4.out (Nat.le_refl _)).drewN n5) rfl rfl (decide_eq_true rfl)).mono ?_
      rintro r w5 ⟨rfl, n6, rfl⟩
      have hlt : zs.length < (zs ++ [(9 : Int)]).length := by simp
      obtain ⟨b, off, rfl, _, _, hcell⟩ := (HF4.out.drewN (n5 + n6)).num hlt
      rw [List.getElem_append_right (Nat.le_refl _)] at hcell
      simp only [Nat.sub_self, List.getElem_cons_zero] at hcell
      go_wp2_with fail
      go_ret
      exact ⟨rfl, below_drewN' K4.out _⟩


set_option maxRecDepth 100000 in
theorem likeKeeps_lifted (os : Os) (started : os.Started) (H : Type) (enc : TypeId × Value → H) :
    ReturnsInHanded {} Try.checked os 9 .any (Rows.likeKeepsSpec.pre6 enc Try.prog Try.f9 Rows.likeKeepsRow.domain false) (Rows.likeKeepsSpec.post enc Try.prog Try.f9 false true false false) := by
  refine returnsInHanded_of_change (C := Try.checked) own started (by kernel_rfl) Try.func9
    (ChangeSpec.witness6 (enc := enc) (C := Try.checked) false ⟨#[], #[.slice none 0 0], []⟩ 8 (by kernel_rfl) (by kernel_rfl) (by kernel_rfl) (by kernel_rfl)) ?_
  intro W base args ds gs before hval0 hW hcnd _
  have hval : ∀ (j : Nat) t v, Try.f9.params[j]? = some t → args[j]? = some v → Value.okWide Try.prog W .any base t v := hval0
  have hW' := hW
  obtain ⟨p, q, hA0, hV, rfl, hfz, hnd⟩ := hW
  have hA : DataW.TrodAll enc Try.prog W 0 (fun _ => true) true Try.f9.params.toList args.toList ds p := hA0
  have hA1 : DataW.TrodAll enc Try.prog W 0 (fun _ => true) true Try.f9.params.toList args.toList ds p := hA0
  rw [Try.params9] at hA hval
  obtain ⟨v0, vs0, d0, ds0, p0, q0, hargs, rfl, rfl, h0, r0⟩ := trodAll_cons hA
  obtain ⟨rfl, rfl, rfl⟩ := trodAll_nil r0
  obtain rfl : args = #[v0] := by cases args; simp_all
  obtain ⟨rfl, rfl⟩ := trodVars_none hV
  obtain ⟨A0, a0, c0, rfl, w0⟩ := open_i64s Try.underlying23 Try.underlying3 (by kernel_rfl) (hval 0 23 v0 rfl rfl) h0
  clear hA0 hval0
  refine (likeKeeps_walk (w := W) w0).mono fun e W' ⟨he, bel⟩ => ?_
  subst he
  exact ⟨_, rfl, _, _, _, [], _, [], hW', trodAll_mk1 (shut_bool Try.underlying4 _), trodAll_below laidOut bel _ _ _ _ (by kernel_rfl) hA1, rfl, bel.frame _, fun h => by cases h⟩

theorem likeKeeps_over : Rows.likeKeepsRow.holds Try.pinned (OpenSpec.ofChange Rows.likeKeepsSpec) :=
  OpenClaim.holds_of_wide 9 Try.f9 rfl rfl rfl rfl rfl rfl rfl ⟨rfl, rfl, rfl, rfl, rfl⟩ rfl rfl rfl rfl rfl (by kernel_rfl) Try.func9 (by kernel_rfl)
    (of_decide_eq_true (by kernel_rfl)) (by unfold Func.isWrapper; first | (rw [if_pos (by decide +kernel)]; kernel_rfl) | (rw [if_neg (by decide +kernel)]; exact ⟨rfl, rfl⟩))
    (fun os started H enc _ => likeKeeps_lifted os started H enc)

/-- The statement. -/
theorem likeKeeps_proved : Rows.LikeKeepsSaid := likeKeeps_over


end Go.Proofs.Ytcpllbfpbhnjeaa
