/-
  Proved: CrcSums returns true for every three slices of bytes, and leaves what was there as it was. No condition.
-/
import Derived.Test.YtbbclcokmmhkoaaCrcL
import Derived.Test.YtbbclcokmmhkoaaShell
namespace Go.Proofs.Ytbbclcokmmhkoaa
set_option linter.unusedSimpArgs false
set_option linter.unusedVariables false
open Go.ChangeShapes Go.WideShapes Go.ChangeAt Go.RowKit
open Go.ChangeMaps (open_string shut_string)

set_option maxRecDepth 20000 in
set_option maxHeartbeats 4000000 in
theorem crcSums_walk {w : World} {A : Option Addr} {xs : List UInt8} {c : Nat} (h : Rd w 0 w.heap.size A c (bv xs)) {B : Option Addr} {bs : List UInt8} {d : Nat} (h2 : Rd w 0 w.heap.size B d (bv bs)) {C : Option Addr} {cs : List UInt8} {e : Nat} (h3 : Rd w 0 w.heap.size C e (bv cs)) :
    Calls Try.prog 3 #[.slice A xs.length c, .slice B bs.length d, .slice C cs.length e] w fun r w' => r = .returned (.bool true) ∧ Below w.heap.size w w' := by
  have hl := h.len
  have hc := h.cap
  have hl2 := h2.len
  have hc2 := h2.cap
  have hl3 := h3.len
  have hc3 := h3.cap
  rw [bv_length] at hl hl2 hl3
  unfold maxLen at hc hc2 hc3
  have H := Lib.hid h
  have H2 := Lib.hid h2
  have H3 := Lib.hid h3
  clear h h2 h3
  by_cases ha : xs.length ≤ 1000
  · by_cases hb : bs.length ≤ 1000
    · by_cases hcc : cs.length ≤ 1000
      · go_enter Try.func3, Try.ntmps3
        go_wp2_with fail
        refine (awake2_any _).mono ?_
        rintro r w1 ⟨rfl, hb1⟩
        have HK1 := Lib.hid hb1
        have s1 := hb1.size
        obtain ⟨l2, hl2⟩ : ∃ l2, xs ++ bs = l2 := ⟨_, rfl⟩
        obtain ⟨ls, hls⟩ : ∃ ls, l2 ++ cs = ls := ⟨_, rfl⟩
        have n2 : l2.length ≤ 2000 := by rw [← hl2, List.length_append]; omega
        have n3 : ls.length ≤ 3000 := by rw [← hls, List.length_append]; omega
        obtain ⟨A1, c1, w2, hrun1, hown1, hg1⟩ := append_named (w1.alloc (.cells #[] 5)) w1.heap.size (.slice (some ⟨w1.heap.size, 0, none⟩) 0 0) [] xs xs (by simp) (own_lit w1 [] #[] rfl (by simp)) ((H.out.below hb1 (Nat.le_refl _)).alloc s1 _) (by simp; omega) (by simp)
        have k2 : Below w.heap.size w w2 := (hb1.alloc s1 _).grown hg1 (by simp; omega) (by simp [Value.ownBlock]; omega)
        have z2 := hg1.size
        simp only [World.size_alloc] at z2
        have s2 := k2.size
        obtain ⟨A2, c2, w3, hrun2, hown2, hg2⟩ := append_named w2 w1.heap.size _ xs bs l2 hl2 hown1 (H2.out.below k2 (Nat.le_refl _)) (by omega) (by omega)
        have k3 : Below w.heap.size w w3 := k2.grown hg2 s2 (fun g hg => by have := own_row hown1 g hg; omega)
        have z3 := hg2.size
        have s3 := k3.size
        obtain ⟨A3, c3, w4, hrun3, hown3, hg3⟩ := append_named w3 w1.heap.size _ l2 cs ls hls hown2 (H3.out.below k3 (Nat.le_refl _)) (by omega) (by omega)
        have k4 : Below w.heap.size w w4 := k3.grown hg3 s3 (fun g hg => by have := own_row hown2 g hg; omega)
        have z4 := hg3.size
        have s4 := k4.size
        have HP : Hid (partsL [⟨A, c, xs⟩, ⟨B, d, bs⟩, ⟨C, e, cs⟩] = ls) := by unfold Hid; rw [← hls, ← hl2]; simp [partsL]
        clear hl2 hls
        have HO := Lib.hid hown3
        have HK4 := Lib.hid k4
        clear hb1 hown1 hg1 k2 hown2 hg2 k3 hown3 hg3 k4
        go_wp2_with (at_builtin; refine wpList_append_run rfl _ _ _ _ rfl rfl rfl hrun1 ?_; refine held ?_)
        refine ⟨?_⟩
        clear hrun1
        go_wp2_with (at_builtin; refine wpList_append_run rfl _ _ _ _ rfl rfl rfl hrun2 ?_; refine held ?_)
        refine ⟨?_⟩
        clear hrun2
        go_wp2_with (at_builtin; refine wpList_append_run rfl _ _ _ _ rfl rfl rfl hrun3 ?_; refine held ?_)
        refine ⟨?_⟩
        clear hrun3
        go_wp2_with fail
        refine (of_any (w := w4.alloc (.cells #[.slice A xs.length c, .slice B bs.length d, .slice C cs.length e] 22)) [⟨A, c, xs⟩, ⟨B, d, bs⟩, ⟨C, e, cs⟩] (rd_lit w4 22 #[.slice A xs.length c, .slice B bs.length d, .slice C cs.length e] (by simp)) (by simp) ?_).mono ?_
        · intro p hp
          have hp' : p = ⟨A, c, xs⟩ ∨ p = ⟨B, d, bs⟩ ∨ p = ⟨C, e, cs⟩ := by simpa using hp
          rcases hp' with rfl | rfl | rfl
          · exact ((H.out.below HK4.out (Nat.le_refl _)).alloc s4 _).wide (Nat.le_refl _) (by simp; omega)
          · exact ((H2.out.below HK4.out (Nat.le_refl _)).alloc s4 _).wide (Nat.le_refl _) (by simp; omega)
          · exact ((H3.out.below HK4.out (Nat.le_refl _)).alloc s4 _).wide (Nat.le_refl _) (by simp; omega)
        rw [HP.out]
        rintro r w5 ⟨rfl, hb5⟩
        have k45 := below_below ((Below.refl w4.heap.size w4).alloc (Nat.le_refl _) (.cells #[.slice A xs.length c, .slice B bs.length d, .slice C cs.length e] 22)) hb5 (by simp)
        have HO5 := Lib.hid (own_below HO.out k45 (Nat.le_refl _))
        have HK5 := Lib.hid (below_below HK4.out k45 s4)
        have s5 := HK5.out.size
        clear hb5 k45
        go_wp2_with fail
        refine (refOf_any ls (Rd.own HO5.out)).mono ?_
        rintro r w6 ⟨rfl, rfl⟩
        go_wp2_with fail
        refine (of_len ls ((Rd.own HO5.out).wide (Nat.zero_le _) (Nat.le_refl _)) (Nat.le_refl _) rfl rfl).mono ?_
        rintro r w7 ⟨rfl, hb7⟩
        have HO7 := Lib.hid (own_below HO5.out hb7 (Nat.le_refl _))
        have HK7 := Lib.hid (below_below HK5.out hb7 s5)
        clear hb7
        go_wp2_with fail
        refine (refOf_any ls (Rd.own HO7.out)).mono ?_
        rintro r w8 ⟨rfl, rfl⟩
        go_wp2
        go_ret
        exact ⟨rfl, HK7.out⟩
      · go_enter Try.func3, Try.ntmps3
        go_wp2_with fail
        refine (awake2_any _).mono ?_
        rintro r w1 ⟨rfl, hb1⟩
        have HB1 := Lib.hid hb1
        clear hb1
        go_wp2_with fail
        refine (awake2_any _).mono ?_
        rintro r w2 ⟨rfl, hb2⟩
        have HB2 := Lib.hid hb2
        clear hb2
        go_wp2
        go_ret
        exact ⟨rfl, below_below HB1.out HB2.out HB1.out.size⟩
    · go_enter Try.func3, Try.ntmps3
      go_wp2_with fail
      refine (awake2_any _).mono ?_
      rintro r w1 ⟨rfl, hb1⟩
      have HB1 := Lib.hid hb1
      clear hb1
      go_wp2_with fail
      refine (awake2_any _).mono ?_
      rintro r w2 ⟨rfl, hb2⟩
      have HB2 := Lib.hid hb2
      clear hb2
      go_wp2
      go_ret
      exact ⟨rfl, below_below HB1.out HB2.out HB1.out.size⟩
  · go_enter Try.func3, Try.ntmps3
    go_wp2_with fail
    refine (awake2_any _).mono ?_
    rintro r w1 ⟨rfl, hb1⟩
    have HB1 := Lib.hid hb1
    clear hb1
    go_wp2_with fail
    refine (awake2_any _).mono ?_
    rintro r w2 ⟨rfl, hb2⟩
    have HB2 := Lib.hid hb2
    clear hb2
    go_wp2
    go_ret
    exact ⟨rfl, below_below HB1.out HB2.out HB1.out.size⟩

set_option maxRecDepth 100000 in
theorem crcSums_lifted (os : Os) (started : os.Started) (H : Type) (enc : TypeId × Value → H) :
    ReturnsInHanded {} Try.checked os 3 .any (Rows.crcSumsSpec.pre6 enc Try.prog Try.f3 Rows.crcSumsRow.domain false) (Rows.crcSumsSpec.post enc Try.prog Try.f3 false true false false) := by
  refine returnsInHanded_of_change (C := Try.checked) own started (by kernel_rfl) Try.func3
    (ChangeSpec.witness6 (enc := enc) (C := Try.checked) false ⟨#[], #[.slice none 0 0, .slice none 0 0, .slice none 0 0], []⟩ 8 (by kernel_rfl) (by kernel_rfl) (by kernel_rfl) (by kernel_rfl)) ?_
  intro W base args ds gs before hval0 hW hcnd _
  have hval : ∀ (j : Nat) t v, Try.f3.params[j]? = some t → args[j]? = some v → Value.okWide Try.prog W .any base t v := hval0
  have hW' := hW
  obtain ⟨p, q, hA0, hV, rfl, hfz, hnd⟩ := hW
  have hA : DataW.TrodAll enc Try.prog W 0 (fun _ => true) true Try.f3.params.toList args.toList ds p := hA0
  have hA1 : DataW.TrodAll enc Try.prog W 0 (fun _ => true) true Try.f3.params.toList args.toList ds p := hA0
  rw [Try.params3] at hA hval
  obtain ⟨v0, vs0, d0, ds0, p0, q0, hargs, rfl, rfl, h0, r0⟩ := trodAll_cons hA
  obtain ⟨v1, vs1, d1, ds1, p1, q1, rfl, rfl, rfl, h1, r1⟩ := trodAll_cons r0
  obtain ⟨v2, vs2, d2, ds2, p2, q2, rfl, rfl, rfl, h2, r2⟩ := trodAll_cons r1
  obtain ⟨rfl, rfl, rfl⟩ := trodAll_nil r2
  obtain rfl : args = #[v0, v1, v2] := by cases args; simp_all
  obtain ⟨rfl, rfl⟩ := trodVars_none hV
  obtain ⟨A0, a0, c0, rfl, w0⟩ := open_bytes Try.underlying22 Try.underlying5 (by kernel_rfl) (hval 0 22 v0 rfl rfl) h0
  obtain ⟨A1, a1, c1, rfl, w1⟩ := open_bytes Try.underlying22 Try.underlying5 (by kernel_rfl) (hval 1 22 v1 rfl rfl) h1
  obtain ⟨A2, a2, c2, rfl, w2⟩ := open_bytes Try.underlying22 Try.underlying5 (by kernel_rfl) (hval 2 22 v2 rfl rfl) h2
  clear hA0 hval0
  refine (crcSums_walk (w := W) w0 w1 w2).mono fun e W' ⟨he, bel⟩ => ?_
  subst he
  exact ⟨_, rfl, _, _, _, [], _, [], hW', trodAll_mk1 (shut_bool Try.underlying4 _), trodAll_below laidOut bel _ _ _ _ (by kernel_rfl) hA1, rfl, bel.frame _, fun h => by cases h⟩

theorem crcSums_over : Rows.crcSumsRow.holds Try.pinned (OpenSpec.ofChange Rows.crcSumsSpec) :=
  OpenClaim.holds_of_wide 3 Try.f3 rfl rfl rfl rfl rfl rfl rfl ⟨rfl, rfl, rfl, rfl, rfl⟩ rfl rfl rfl rfl rfl (by kernel_rfl) Try.func3 (by kernel_rfl)
    (of_decide_eq_true (by kernel_rfl)) (by unfold Func.isWrapper; first | (rw [if_pos (by decide +kernel)]; kernel_rfl) | (rw [if_neg (by decide +kernel)]; exact ⟨rfl, rfl⟩))
    (fun os started H enc _ => crcSums_lifted os started H enc)

/-- The statement. -/
theorem crcSums_proved : Rows.CrcSumsSaid := crcSums_over


end Go.Proofs.Ytbbclcokmmhkoaa
