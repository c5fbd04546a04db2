/-
  Proved: CrcSeals returns true for every slice of bytes, and leaves what was there as it was. No condition.
-/
import Derived.Test.YtbbclcokmmhkoaaCrcL
import Derived.Test.YtbbclcokmmhkoaaShell
namespace Go.Proofs.Ytbbclcokmmhkoaa
set_option linter.unusedSimpArgs false
set_option linter.unusedVariables false
open Go.ChangeShapes Go.WideShapes Go.ChangeAt Go.RowKit
open Go.ChangeMaps (open_string shut_string)

set_option maxRecDepth 20000 in
theorem crcSeals_walk {w : World} {A : Option Addr} {bs : List UInt8} {c : Nat} (h : Rd w 0 w.heap.size A c (bv bs)) :
    Calls Try.prog 4 #[.slice A bs.length c] w fun e w' => e = .returned (.bool true) ∧ Below w.heap.size w w' := by
  have hl := h.len
  have hc := h.cap
  rw [bv_length] at hl
  unfold maxLen at hc
  have H := Lib.hid h
  clear h
  by_cases h5 : bs.length ≤ 2000
  · go_enter Try.func4, Try.ntmps4
    go_wp2_with fail
    refine (awake2_any _).mono ?_
    rintro r w1 ⟨rfl, hb1⟩
    have HK1 := Lib.hid hb1
    have s1 := hb1.size
    clear hb1
    go_wp2_with fail
    refine (Seal_any bs (H.out.below HK1.out (Nat.le_refl _)) s1 (by omega)).mono ?_
    rintro r w2 ⟨A2, c2, rfl, ho2, hb2⟩
    have HO2 := Lib.hid ho2
    have HK2 := Lib.hid (below_below HK1.out hb2 s1)
    have s2 := HK2.out.size
    clear ho2 hb2
    go_wp2_with fail
    refine (refSeal_any bs (H.out.below HK2.out (Nat.le_refl _)) s2 (by omega)).mono ?_
    rintro r w3 ⟨A3, c3, rfl, ho3, hb3⟩
    have HO3 := Lib.hid ho3
    have HO23 := Lib.hid (own_below HO2.out hb3 (Nat.le_refl _))
    have HK3 := Lib.hid (below_below HK2.out hb3 s2)
    have s3 := HK3.out.size
    clear ho3 hb3
    go_wp2_with fail
    refine (same_any (sealL bs) (sealL bs) (Rd.own HO23.out) (Rd.own HO3.out)).mono ?_
    rintro r w4 ⟨rfl, rfl⟩
    rw [decide_eq_true (rfl : sealL bs = sealL bs)]
    go_wp2_with fail
    by_cases h4 : bs.length < 4
    · refine (open_short bs (H.out.below HK3.out (Nat.le_refl _)) s3 h4).mono ?_
      rintro r w5 ⟨rfl, hb5⟩
      have HK5 := Lib.hid (below_below HK3.out hb5 s3)
      clear hb5
      go_wp2
      go_ret
      exact ⟨rfl, HK5.out⟩
    · obtain ⟨n, hn⟩ : ∃ n, bs.length = n + 4 := ⟨bs.length - 4, by omega⟩
      have hsub : (bs.length : Int) - 4 = (n : Int) := by omega
      have l1 : (0 : Int) ≤ (n : Int) := by omega
      have l2 : (n : Int) ≤ (bs.length : Int) := by omega
      have l6 : (n : Int) ≤ (c : Int) := by omega
      have e : bs.length - 4 = n := by omega
      have HN := Lib.hid hn
      have HE := Lib.hid e
      have hi := sealedB_iff (l := bs) (by omega)
      rw [e] at hi
      clear hn e
      rcases hs : sealedB bs with _ | _
      · rw [hs] at hi
        have HI := Lib.hid hi
        refine (open_no bs (H.out.below HK3.out (Nat.le_refl _)) s3 (by omega) hs).mono ?_
        rintro r w5 ⟨rfl, hb5⟩
        have HK5 := Lib.hid (below_below HK3.out hb5 s3)
        have s5 := HK5.out.size
        clear hb5 hi hs
        go_wp2_with fail
        refine (refSeal_len bs (bs.take n) (H.out.below HK5.out (Nat.le_refl _)) s5 (by omega) rfl (by omega)).mono ?_
        rintro r w6 ⟨A6, c6, rfl, ho6, hb6⟩
        have HO6 := Lib.hid ho6
        have HK6 := Lib.hid (below_below HK5.out hb6 s5)
        clear ho6 hb6
        go_wp2_with fail
        refine (same_len (sealL (bs.take n)) bs false (Rd.own HO6.out) (H.out.below HK6.out (Nat.le_refl _)) rfl rfl HI.out.symm).mono ?_
        rintro r w7 ⟨rfl, rfl⟩
        go_wp2
        go_ret
        exact ⟨rfl, HK6.out⟩
      · rw [hs] at hi
        have HI := Lib.hid hi
        refine (open_yes bs (H.out.below HK3.out (Nat.le_refl _)) s3 hs (by omega)).mono ?_
        rw [HE.out]
        rintro r w5 ⟨A5, c5, rfl, ho5, hb5⟩
        have HO5 := Lib.hid ho5
        have HK5 := Lib.hid (below_below HK3.out hb5 s3)
        have s5 := HK5.out.size
        clear ho5 hb5 hi hs
        go_wp2_with fail
        refine (refSeal_len bs (bs.take n) (H.out.below HK5.out (Nat.le_refl _)) s5 (by omega) rfl (by omega)).mono ?_
        rintro r w6 ⟨A6, c6, rfl, ho6, hb6⟩
        have HO6 := Lib.hid ho6
        have HO56 := Lib.hid (own_below HO5.out hb6 (Nat.le_refl _))
        have HK6 := Lib.hid (below_below HK5.out hb6 s5)
        clear ho6 hb6
        go_wp2_with fail
        refine (same_len (sealL (bs.take n)) bs true (Rd.own HO6.out) (H.out.below HK6.out (Nat.le_refl _)) rfl rfl HI.out.symm).mono ?_
        rintro r w7 ⟨rfl, rfl⟩
        go_wp2_with fail
        refine (same_len (bs.take n) (bs.take n) true (Rd.own HO56.out) (by rw [bv_take]; exact (H.out.below HK6.out (Nat.le_refl _)).take_ n) (by rw [List.length_take]; omega) (by rw [List.length_take]; omega) (decide_eq_true rfl)).mono ?_
        rintro r w8 ⟨rfl, rfl⟩
        go_wp2
        go_ret
        exact ⟨rfl, HK6.out⟩
  · go_enter Try.func4, Try.ntmps4
    go_wp2_with fail
    refine (awake2_any _).mono ?_
    rintro r w1 ⟨rfl, hb1⟩
    have HB1 := Lib.hid hb1
    clear hb1
    go_wp2_with fail
    refine (awake2_any _).mono ?_
    rintro r w2 ⟨rfl, hb2⟩
    have HB2 := Lib.hid hb2
    clear hb2
    go_wp2
    go_ret
    exact ⟨rfl, below_below HB1.out HB2.out HB1.out.size⟩

set_option maxRecDepth 100000 in
theorem crcSeals_lifted (os : Os) (started : os.Started) (H : Type) (enc : TypeId × Value → H) :
    ReturnsInHanded {} Try.checked os 4 .any (Rows.crcSealsSpec.pre6 enc Try.prog Try.f4 Rows.crcSealsRow.domain false) (Rows.crcSealsSpec.post enc Try.prog Try.f4 false true false false) := by
  refine returnsInHanded_of_change (C := Try.checked) own started (by kernel_rfl) Try.func4
    (ChangeSpec.witness6 (enc := enc) (C := Try.checked) false ⟨#[], #[.slice none 0 0], []⟩ 8 (by kernel_rfl) (by kernel_rfl) (by kernel_rfl) (by kernel_rfl)) ?_
  intro W base args ds gs before hval0 hW hcnd _
  have hval : ∀ (j : Nat) t v, Try.f4.params[j]? = some t → args[j]? = some v → Value.okWide Try.prog W .any base t v := hval0
  have hW' := hW
  obtain ⟨p, q, hA0, hV, rfl, hfz, hnd⟩ := hW
  have hA : DataW.TrodAll enc Try.prog W 0 (fun _ => true) true Try.f4.params.toList args.toList ds p := hA0
  have hA1 : DataW.TrodAll enc Try.prog W 0 (fun _ => true) true Try.f4.params.toList args.toList ds p := hA0
  rw [Try.params4] at hA hval
  obtain ⟨v0, vs0, d0, ds0, p0, q0, hargs, rfl, rfl, h0, r0⟩ := trodAll_cons hA
  obtain ⟨rfl, rfl, rfl⟩ := trodAll_nil r0
  obtain rfl : args = #[v0] := by cases args; simp_all
  obtain ⟨rfl, rfl⟩ := trodVars_none hV
  obtain ⟨A0, a0, c0, rfl, w0⟩ := open_bytes Try.underlying22 Try.underlying5 (by kernel_rfl) (hval 0 22 v0 rfl rfl) h0
  clear hA0 hval0
  refine (crcSeals_walk (w := W) w0).mono fun e W' ⟨he, bel⟩ => ?_
  subst he
  exact ⟨_, rfl, _, _, _, [], _, [], hW', trodAll_mk1 (shut_bool Try.underlying4 _), trodAll_below laidOut bel _ _ _ _ (by kernel_rfl) hA1, rfl, bel.frame _, fun h => by cases h⟩

theorem crcSeals_over : Rows.crcSealsRow.holds Try.pinned (OpenSpec.ofChange Rows.crcSealsSpec) :=
  OpenClaim.holds_of_wide 4 Try.f4 rfl rfl rfl rfl rfl rfl rfl ⟨rfl, rfl, rfl, rfl, rfl⟩ rfl rfl rfl rfl rfl (by kernel_rfl) Try.func4 (by kernel_rfl)
    (of_decide_eq_true (by kernel_rfl)) (by unfold Func.isWrapper; first | (rw [if_pos (by decide +kernel)]; kernel_rfl) | (rw [if_neg (by decide +kernel)]; exact ⟨rfl, rfl⟩))
    (fun os started H enc _ => crcSeals_lifted os started H enc)

/-- The statement. -/
theorem crcSeals_proved : Rows.CrcSealsSaid := crcSeals_over


end Go.Proofs.Ytbbclcokmmhkoaa
