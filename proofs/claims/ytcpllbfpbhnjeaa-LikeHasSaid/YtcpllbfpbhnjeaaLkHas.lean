/-
  Proved: LikeHas of layer 9: a string that matches has all runs of literals, in order, apart; what came in reads as it did. Conditions: none of our own.
-/
import Derived.Test.YtcpllbfpbhnjeaaLawL
import Derived.Test.YtcpllbfpbhnjeaaShell
import Derived.Test.YtcpllbfpbhnjeaaShellN
import Derived.Test.YtcpllbfpbhnjeaaShi
import Derived.Test.YtcpllbfpbhnjeaaLkN
import Derived.HandedShaped
namespace Go.Proofs.Ytcpllbfpbhnjeaa
set_option linter.unusedSimpArgs false
set_option linter.unusedVariables false
open Go.ChangeShapes Go.WideShapes Go.ChangeAt Go.RowKit
open Go.ChangeMaps (open_string shut_string)


set_option maxRecDepth 20000 in
set_option maxHeartbeats 2000000 in
theorem likeHas_walk {w : World} {A : Option Addr} {zs : List Int} {c : Nat} (h : Rd w 0 w.heap.size A c (iv zs) ∧ Word zs) (s : ByteArray) (hs : s.size ≤ 9223372036854775807) (hml : ∃ m, MaxLenIs m w) :
    Calls Try.prog 8 #[.slice A zs.length c, .string s] w fun e w' => e = .returned (.bool true) ∧ Below w.heap.size w w' := by
  obtain ⟨h, _⟩ := h
  obtain ⟨m, hm⟩ := hml
  have hl := h.len
  have hc := h.cap
  rw [iv_length] at hl
  unfold maxLen at hc
  have H := Lib.hid h
  have HM := Lib.hid hm
  clear h hm
  by_cases h6 : (60 : Int) < (zs.length : Int)
  · go_enter Try.func8, Try.ntmps8
    go_wp2_with fail
    refine (awake9_any (w := _)).mono ?_
    rintro r w1 ⟨rfl, b1⟩
    go_wp2_with fail
    refine (awake9_any (w := _)).mono ?_
    rintro r w2 ⟨rfl, b2⟩
    go_wp2_with fail
    go_ret
    exact ⟨rfl, below_below b1 b2 b1.size⟩
  · by_cases h2 : (200 : Int) < (s.size : Int)
    · go_enter Try.func8, Try.ntmps8
      go_wp2_with fail
      refine (awake9_any (w := _)).mono ?_
      rintro r w1 ⟨rfl, b1⟩
      go_wp2_with fail
      refine (awake9_any (w := _)).mono ?_
      rintro r w2 ⟨rfl, b2⟩
      go_wp2_with fail
      go_ret
      exact ⟨rfl, below_below b1 b2 b1.size⟩
    · cases hr : rightS zs
      · have HR := Lib.hid hr
        clear hr
        go_enter Try.func8, Try.ntmps8
        go_wp2_with fail
        refine (awake9_any (w := _)).mono ?_
        rintro r w1 ⟨rfl, b1⟩
        go_wp2_with fail
        refine (refRight_any zs (H.out.below b1 (Nat.le_refl _))).mono ?_
        rw [HR.out]
        rintro r w2 ⟨rfl, rfl⟩
        go_wp2_with fail
        refine (awake9_any (w := _)).mono ?_
        rintro r w2 ⟨rfl, b2⟩
        go_wp2_with fail
        go_ret
        exact ⟨rfl, below_below b1 b2 b1.size⟩
      · have HR := Lib.hid hr
        obtain ⟨ns, hns, h7⟩ := right_ints hr
        clear hr
        subst hns
        rw [ints_length] at hl h6 ⊢
        have HLM := Lib.hid (fun w lo hi (h : Rd w lo hi A c (iv (ints ns))) => lmatch_any ns s h h7 (by omega))
        have HRR := Lib.hid (fun w lo hi (h : Rd w lo hi A c (iv (ints ns))) => ints_length ns ▸ refRight_any (w := w) (ints ns) h)
        have HLR := Lib.hid (fun w (h : Rd w 0 w.heap.size A c (iv (ints ns))) => lruns_any ns h (by omega))
        have HHS := Lib.hid (has_runs ns [] s.data.toList)
        clear h7
        generalize mat ns s.data.toList = b at *
        cases b
        · go_enter Try.func8, Try.ntmps8
          go_wp2_with fail
          refine (awake9_any (w := _)).mono ?_
          rintro r w1 ⟨rfl, b1⟩
          have H1 := Lib.hid (H.out.below b1 (Nat.le_refl _))
          go_wp2_with fail
          refine (HRR.out _ _ _ H1.out).mono ?_
          rw [HR.out]
          rintro r w2 ⟨rfl, rfl⟩
          go_wp2_with fail
          refine (HLM.out _ _ _ H1.out).mono ?_
          rintro r w2 ⟨rfl, n2, rfl⟩
          go_wp2_with fail
          refine (awake9_any (w := _)).mono ?_
          rintro r w2 ⟨rfl, b2⟩
          go_wp2_with fail
          go_ret
          exact ⟨rfl, below_below (below_drewN' b1 n2) b2 b1.size⟩
        · have hh : hasL (runsL ns) s.data.toList = true := HHS.out rfl
          have HHH := Lib.hid hh
          have HSL := Lib.hid (strsL_length (runsL ns))
          clear hh HHS
          generalize runsL ns = rs at *
          go_enter Try.func8, Try.ntmps8
          go_wp2_with fail
          refine (awake9_any (w := _)).mono ?_
          rintro r w1 ⟨rfl, b1⟩
          have H1 := Lib.hid (H.out.below b1 (Nat.le_refl _))
          have M1 := Lib.hid ((HM.out.on b1))
          go_wp2_with fail
          refine (HRR.out _ _ _ H1.out).mono ?_
          rw [HR.out]
          rintro r w2 ⟨rfl, rfl⟩
          go_wp2_with fail
          refine (HLM.out _ _ _ H1.out).mono ?_
          rintro r w2 ⟨rfl, n2, rfl⟩
          go_wp2_with fail
          refine (HLR.out _ ((H1.out.drewN _).wide (Nat.le_refl _) b1.size)).mono ?_
          rintro r w3 ⟨A3, c3, rfl, h3, b3⟩
          have M3 := Lib.hid ((show MaxLenIs m (w1.drewN n2) from M1.out).on b3)
          have B3 := Lib.hid (below_below (below_drewN' b1 n2) b3 b1.size)
          have H3 := Lib.hid h3
          have hl3 := h3.len
          have hc3 := h3.cap
          rw [sv_length, HSL.out] at hl3
          unfold maxLen at hc3
          clear h3 b3
          go_wp2_with fail
          go_loopw [6, 7] (fun x6 x7 wr => ∃ (k : Nat) (z : ByteArray), k ≤ rs.length ∧ x7 = .int .i64 (k : Int) ∧ x6 = .string z ∧ z.size ≤ s.size ∧ hasL (rs.drop k) z.data.toList = true ∧ w3 = wr) (fun _ x7 _ => rs.length - (intOf x7).toNat)
          case atStart => exact ⟨0, s, Nat.zero_le _, rfl, rfl, Nat.le_refl _, HHH.out, rfl⟩
          case round =>
            obtain ⟨k, z, hk, rfl, rfl, hz, hh, rfl⟩ := hrel
            have HK := Lib.hid hh
            clear hh
            by_cases hlt : k < rs.length
            · have ik : (k : Int) < (rs.length : Int) := by omega
              obtain ⟨b, off, rfl, _, _, hcell⟩ := H3.out.str (k := k) (by rw [HSL.out]; exact hlt)
              have HDK : Hid (rs.drop k = rs[k] :: rs.drop (k + 1)) := List.drop_eq_getElem_cons hlt
              have hyk : (strsL rs)[k]'(by rw [HSL.out]; exact hlt) = ⟨rs[k].toArray⟩ := by simp [strsL]
              rw [hyk] at hcell
              clear hyk
              generalize rs[k] = y at *
              have HYS : Hid ((⟨y.toArray⟩ : ByteArray).size = y.length) := by unfold Hid; rfl
              have hhk := HK.out
              rw [HDK.out] at hhk
              obtain ⟨i, hix, hil, hnx⟩ := has_first hhk
              rw [lenB] at hil
              have HIX := Lib.hid (fun w => index_any (w := w) z ⟨y.toArray⟩ m (by omega))
              have hix2 : Lib.index z.data.toList (⟨y.toArray⟩ : ByteArray).data.toList = (i : Int) := hix
              rw [hix2] at HIX
              have HNX := Lib.hid hnx
              clear hhk hix hix2 hnx
              go_wp2_with fail
              refine (HIX.out _ M3.out).mono ?_
              rintro r w4 ⟨rfl, rfl⟩
              have HTB : Hid ((z.extract (i + y.length) z.size).data.toList = z.data.toList.drop (i + y.length)) := tailB _ _
              have HTZ : Hid ((z.extract (i + y.length) z.size).size = z.size - (i + y.length)) := tailB_size _ _
              go_wp2_with fail
              go_roundw
              case rel => exact ⟨k + 1, z.extract (i + y.length) z.size, by omega, by go_num, rfl, by rw [HTZ.out]; omega, by rw [HTB.out]; exact HNX.out, by first | rfl | trivial⟩
              case measure => simp [intOf] <;> omega
            · have ik : ¬ (k : Int) < (rs.length : Int) := by omega
              go_wp2_with fail
              go_ret
              exact ⟨rfl, B3.out⟩


set_option maxRecDepth 100000 in
theorem likeHas_lifted (os : Os) (started : os.Started) (H : Type) (enc : TypeId × Value → H) :
    ReturnsInHanded {} Try.checked os 8 .any (Rows.likeHasSpec.pre6 enc Try.prog Try.f8 Rows.likeHasRow.domain false) (Rows.likeHasSpec.post enc Try.prog Try.f8 false true false false) := by
  refine returnsInHanded_of_change_shaped (C := Try.checked) own started (by kernel_rfl) Try.func8
    (ChangeSpec.witness6 (enc := enc) (C := Try.checked) false ⟨#[], #[.slice none 0 0, .string ByteArray.empty], []⟩ 8 (by kernel_rfl) (by kernel_rfl) (by kernel_rfl) (by kernel_rfl)) ?_
  intro W base args ds gs before hval0 hW hcnd _ hsh _
  have hval : ∀ (j : Nat) t v, Try.f8.params[j]? = some t → args[j]? = some v → Value.okWide Try.prog W .any base t v := hval0
  have hW' := hW
  obtain ⟨p, q, hA0, hV, rfl, hfz, hnd⟩ := hW
  have hA : DataW.TrodAll enc Try.prog W 0 (fun _ => true) true Try.f8.params.toList args.toList ds p := hA0
  have hA1 : DataW.TrodAll enc Try.prog W 0 (fun _ => true) true Try.f8.params.toList args.toList ds p := hA0
  rw [Try.params8] at hA hval
  obtain ⟨v0, vs0, d0, ds0, p0, q0, hargs, rfl, rfl, h0, r0⟩ := trodAll_cons hA
  obtain ⟨v1, vs1, d1, ds1, p1, q1, rfl, rfl, rfl, h1, r1⟩ := trodAll_cons r0
  obtain ⟨rfl, rfl, rfl⟩ := trodAll_nil r1
  obtain rfl : args = #[v0, v1] := by cases args; simp_all
  obtain ⟨rfl, rfl⟩ := trodVars_none hV
  obtain ⟨A0, a0, c0, rfl, w0⟩ := open_i64s Try.underlying23 Try.underlying3 (by kernel_rfl) (hval 0 23 v0 rfl rfl) h0
  obtain ⟨a1, rfl, rfl, rfl, w1⟩ := open_string Try.underlying9 (hval 1 9 v1 rfl rfl) h1
  clear hA0 hval0
  refine (likeHas_walk (w := W) w0 a1 w1 (maxlen_of hsh)).mono fun e W' ⟨he, bel⟩ => ?_
  subst he
  exact ⟨_, rfl, _, _, _, [], _, [], hW', trodAll_mk1 (shut_bool Try.underlying4 _), trodAll_below laidOut bel _ _ _ _ (by kernel_rfl) hA1, rfl, bel.frame _, fun h => by cases h⟩

theorem likeHas_over : Rows.likeHasRow.holds Try.pinned (OpenSpec.ofChange Rows.likeHasSpec) :=
  OpenClaim.holds_of_wide 8 Try.f8 rfl rfl rfl rfl rfl rfl rfl ⟨rfl, rfl, rfl, rfl, rfl⟩ rfl rfl rfl rfl rfl (by kernel_rfl) Try.func8 (by kernel_rfl)
    (of_decide_eq_true (by kernel_rfl)) (by unfold Func.isWrapper; first | (rw [if_pos (by decide +kernel)]; kernel_rfl) | (rw [if_neg (by decide +kernel)]; exact ⟨rfl, rfl⟩))
    (fun os started H enc _ => likeHas_lifted os started H enc)

/-- The statement. -/
theorem likeHas_proved : Rows.LikeHasSaid := likeHas_over


end Go.Proofs.Ytcpllbfpbhnjeaa
