/-
  Proved: SymbolPuts of layer 10: of whatever few strings, whether they are a table is what the document says, and so are its bytes, at most 2,296 of them; what came in reads as it did. Conditions: none of our own.
-/
import Derived.Test.YtfekdbdkcfhkiaaLawS
import Derived.Test.YtfekdbdkcfhkiaaShellT
import Derived.Test.YtfekdbdkcfhkiaaShell
namespace Go.Proofs.Ytfekdbdkcfhkiaa
set_option linter.unusedSimpArgs false
set_option linter.unusedVariables false
open Go.ChangeShapes Go.WideShapes Go.ChangeAt Go.RowKit
open Go.ChangeMaps (open_string shut_string)

set_option maxRecDepth 20000 in
set_option maxHeartbeats 4000000 in
theorem symbolPuts_walk {w : World} {A : Option Addr} {l : List ByteArray} {c : Nat} (h : Rd w 0 w.heap.size A c (sv l) ∧ ∀ s ∈ l, s.size ≤ maxLen) :
    Calls Try.prog 3 #[.slice A l.length c] w fun e w' => e = .returned (.bool true) ∧ Below w.heap.size w w' := by
  obtain ⟨h, -⟩ := h
  have H := Lib.hid h
  have hl := h.len
  have hm := h.cap
  rw [sv_length] at hl
  unfold maxLen at hm
  clear h
  by_cases hf : FewS l
  · obtain ⟨hl3, hl1, hl2, hz1, hz2⟩ := few_sizes hf
    have HFW : Hid (decide (FewS l) = true) := decide_eq_true hf
    have HZ1 := Lib.hid hz1
    have HZ2 := Lib.hid hz2
    clear hz1 hz2 hf
    cases hr : rightT (bytL2 l) with
    | false =>
      have HR := Lib.hid hr
      clear hr
      go_enter Try.func3, Try.ntmps3
      go_wp2_with fail
      refine (awake10_any (w := _)).mono ?_
      rintro r w1 ⟨rfl, b1⟩
      have B1 := Lib.hid b1
      have HL1 := Lib.hid ((H.out.below b1 (Nat.le_refl _)).wide (Nat.le_refl _) b1.size)
      have S1 := b1.size
      clear b1
      go_wp2_with fail
      refine (few_is l true HL1.out HFW.out).mono ?_
      rintro r w2 ⟨rfl, rfl⟩
      go_wp2_with fail
      refine (sput_no l HL1.out HZ2.out HR.out).mono ?_
      rintro r w2 ⟨rfl, m2, rfl⟩
      go_wp2_with fail
      refine (sright_is l false (HL1.out.drewN m2) HZ2.out HR.out rfl).mono ?_
      rintro r w3 ⟨rfl, m3, rfl⟩
      go_wp2_with fail
      refine (refright_is l false (HL1.out.drewN _) HZ1.out HR.out rfl).mono ?_
      rintro r w4 ⟨rfl, m4, rfl⟩
      go_wp2_with fail
      refine (refright_is l false (HL1.out.drewN _) HZ1.out HR.out rfl).mono ?_
      rintro r w5 ⟨rfl, m5, rfl⟩
      go_wp2_with fail
      go_ret
      exact ⟨rfl, below_drewN' B1.out _⟩
    | true =>
      have HR := Lib.hid hr
      obtain ⟨bs, hbs⟩ : ∃ bs, putT (bytL2 l) = bs := ⟨_, rfl⟩
      have hbl : bs.length ≤ 2296 := by
        have h1 := putT_len (l := bytL2 l) fun s hs => (okS_iff.1 ((rightT_iff.1 hr).2.1 s hs)).2
        have h2 := (rightT_iff.1 hr).1
        rw [hbs] at h1
        omega
      have HBS := Lib.hid hbs
      have d22 : decide ((bs.length : Int) ≤ 2296) = true := decide_eq_true (by omega)
      clear hr hbs
      go_enter Try.func3, Try.ntmps3
      go_wp2_with fail
      refine (awake10_any (w := _)).mono ?_
      rintro r w1 ⟨rfl, b1⟩
      have B1 := Lib.hid b1
      have HL1 := Lib.hid ((H.out.below b1 (Nat.le_refl _)).wide (Nat.le_refl _) b1.size)
      have S1 := b1.size
      clear b1
      go_wp2_with fail
      refine (few_is l true HL1.out HFW.out).mono ?_
      rintro r w2 ⟨rfl, rfl⟩
      go_wp2_with fail
      refine (sput_is l bs HL1.out HR.out HBS.out rfl).mono ?_
      rintro r w2 ⟨A2, c2, rfl, ho2, b2⟩
      have HO2 := Lib.hid ho2
      have HL2 := Lib.hid ((HL1.out.below b2 (Nat.le_refl _)).wide (Nat.le_refl _) b2.size)
      have B2 := Lib.hid (below_below B1.out b2 S1)
      have S2 := B2.out.size
      clear ho2 b2
      go_wp2_with fail
      refine (sright_is l true HL2.out HZ2.out HR.out rfl).mono ?_
      rintro r w3 ⟨rfl, m3, rfl⟩
      go_wp2_with fail
      refine (refright_is l true (HL2.out.drewN m3) HZ1.out HR.out rfl).mono ?_
      rintro r w4 ⟨rfl, m4, rfl⟩
      go_wp2_with fail
      refine (refright_is l true (HL2.out.drewN _) HZ1.out HR.out rfl).mono ?_
      rintro r w5 ⟨rfl, m5, rfl⟩
      obtain ⟨w6, hw6⟩ : ∃ w6, (w2.drewN (m3 + m4)).drewN m5 = w6 := ⟨_, rfl⟩
      have HL6 : Hid (Rd w6 0 w6.heap.size A c (sv l)) := by unfold Hid; rw [← hw6]; exact (HL2.out.drewN _).drewN m5
      have HO6 : Hid (Rd w6 w1.heap.size w6.heap.size A2 c2 (bv bs)) := by unfold Hid; rw [← hw6]; exact ((Rd.of_own HO2.out).drewN _).drewN m5
      have B6 : Hid (Below w.heap.size w w6) := by unfold Hid; rw [← hw6]; exact below_drewN' (below_drewN' B2.out _) m5
      have S6 := B6.out.size
      rw [hw6]
      clear hw6 HO2 HL2
      go_wp2_with fail
      refine (refput_is l bs HL6.out HR.out HBS.out rfl).mono ?_
      rintro r w7 ⟨A7, c7, rfl, ho7, b7⟩
      have HO7 := Lib.hid (Rd.of_own ho7)
      have HO67 := Lib.hid (HO6.out.below b7 (Nat.le_refl _))
      have B7 := Lib.hid (below_below B6.out b7 S6)
      clear ho7 b7
      go_wp2_with fail
      refine (same_len bs bs true HO67.out HO7.out rfl rfl (decide_eq_true rfl)).mono ?_
      rintro r w8 ⟨rfl, rfl⟩
      go_wp2_with fail
      go_ret
      exact ⟨rfl, B7.out⟩
  · have HNF : Hid (decide (FewS l) = false) := decide_eq_false hf
    clear hf
    go_enter Try.func3, Try.ntmps3
    go_wp2_with fail
    refine (awake10_any (w := _)).mono ?_
    rintro r w1 ⟨rfl, b1⟩
    go_wp2_with fail
    refine (few_is l false (H.out.below b1 (Nat.le_refl _)) HNF.out).mono ?_
    rintro r w2 ⟨rfl, rfl⟩
    go_wp2_with fail
    refine (awake10_any (w := _)).mono ?_
    rintro r w3 ⟨rfl, b3⟩
    go_wp2_with fail
    go_ret
    exact ⟨rfl, below_below b1 b3 b1.size⟩


set_option maxRecDepth 100000 in
theorem symbolPuts_lifted (os : Os) (started : os.Started) (H : Type) (enc : TypeId × Value → H) :
    ReturnsInHanded {} Try.checked os 3 .any (Rows.symbolPutsSpec.pre6 enc Try.prog Try.f3 Rows.symbolPutsRow.domain false) (Rows.symbolPutsSpec.post enc Try.prog Try.f3 false true false false) := by
  refine returnsInHanded_of_change (C := Try.checked) own started (by kernel_rfl) Try.func3
    (ChangeSpec.witness6 (enc := enc) (C := Try.checked) false ⟨#[], #[.slice none 0 0], []⟩ 8 (by kernel_rfl) (by kernel_rfl) (by kernel_rfl) (by kernel_rfl)) ?_
  intro W base args ds gs before hval0 hW hcnd _
  have hval : ∀ (j : Nat) t v, Try.f3.params[j]? = some t → args[j]? = some v → Value.okWide Try.prog W .any base t v := hval0
  have hW' := hW
  obtain ⟨p, q, hA0, hV, rfl, hfz, hnd⟩ := hW
  have hA : DataW.TrodAll enc Try.prog W 0 (fun _ => true) true Try.f3.params.toList args.toList ds p := hA0
  have hA1 : DataW.TrodAll enc Try.prog W 0 (fun _ => true) true Try.f3.params.toList args.toList ds p := hA0
  rw [Try.params3] at hA hval
  obtain ⟨v0, vs0, d0, ds0, p0, q0, hargs, rfl, rfl, h0, r0⟩ := trodAll_cons hA
  obtain ⟨rfl, rfl, rfl⟩ := trodAll_nil r0
  obtain rfl : args = #[v0] := by cases args; simp_all
  obtain ⟨rfl, rfl⟩ := trodVars_none hV
  obtain ⟨A0, a0, c0, rfl, w0⟩ := open_strs Try.underlying22 Try.underlying9 (by kernel_rfl) (hval 0 22 v0 rfl rfl) h0
  clear hA0 hval0
  refine (symbolPuts_walk (w := W) w0).mono fun e W' ⟨he, bel⟩ => ?_
  subst he
  exact ⟨_, rfl, _, _, _, [], _, [], hW', trodAll_mk1 (shut_bool Try.underlying4 _), trodAll_below laidOut bel _ _ _ _ (by kernel_rfl) hA1, rfl, bel.frame _, fun h => by cases h⟩

theorem symbolPuts_over : Rows.symbolPutsRow.holds Try.pinned (OpenSpec.ofChange Rows.symbolPutsSpec) :=
  OpenClaim.holds_of_wide 3 Try.f3 rfl rfl rfl rfl rfl rfl rfl ⟨rfl, rfl, rfl, rfl, rfl⟩ rfl rfl rfl rfl rfl (by kernel_rfl) Try.func3 (by kernel_rfl)
    (of_decide_eq_true (by kernel_rfl)) (by unfold Func.isWrapper; first | (rw [if_pos (by decide +kernel)]; kernel_rfl) | (rw [if_neg (by decide +kernel)]; exact ⟨rfl, rfl⟩))
    (fun os started H enc _ => symbolPuts_lifted os started H enc)

/-- The statement. -/
theorem symbolPuts_proved : Rows.SymbolPutsSaid := symbolPuts_over


end Go.Proofs.Ytfekdbdkcfhkiaa
