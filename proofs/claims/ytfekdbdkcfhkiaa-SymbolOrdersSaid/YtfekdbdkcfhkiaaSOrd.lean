/-
  Proved: SymbolOrders of layer 10: of whatever few strings, Order answers the document's table of them, a right one, which Order leaves as it is; what came in reads as it did. Conditions: none of our own.
-/
import Derived.Test.YtfekdbdkcfhkiaaLawS
import Derived.Test.YtfekdbdkcfhkiaaShellT
import Derived.Test.YtfekdbdkcfhkiaaShell
namespace Go.Proofs.Ytfekdbdkcfhkiaa
set_option linter.unusedSimpArgs false
set_option linter.unusedVariables false
open Go.ChangeShapes Go.WideShapes Go.ChangeAt Go.RowKit
open Go.ChangeMaps (open_string shut_string)

set_option maxRecDepth 20000 in
set_option maxHeartbeats 4000000 in
theorem symbolOrders_walk {w : World} {A : Option Addr} {l : List ByteArray} {c : Nat} (h : Rd w 0 w.heap.size A c (sv l) ∧ ∀ s ∈ l, s.size ≤ maxLen) :
    Calls Try.prog 6 #[.slice A l.length c] w fun e w' => e = .returned (.bool true) ∧ Below w.heap.size w w' := by
  obtain ⟨h, -⟩ := h
  have H := Lib.hid h
  have hl := h.len
  have hm := h.cap
  rw [sv_length] at hl
  unfold maxLen at hm
  clear h
  by_cases hf : FewS l
  · obtain ⟨hl3, hl1, hl2, hz1, hz2⟩ := few_sizes hf
    have HFW : Hid (decide (FewS l) = true) := decide_eq_true hf
    have HZ1 := Lib.hid hz1
    have HZ2 := Lib.hid hz2
    clear hz1 hz2 hf
    obtain ⟨t, ht⟩ : ∃ t, ordL (bytL2 l) = t := ⟨_, rfl⟩
    obtain ⟨hr, htl, ht5, ht8, hto⟩ := ord_facts l ht
    have HT := Lib.hid ht
    have HR := Lib.hid hr
    have HTL := Lib.hid htl
    have HTO := Lib.hid hto
    have HZ8 : Hid (∀ s ∈ strsL t, s.size ≤ 100000) := fun s hs => by have := ht8 s hs; omega
    have HZ9 : Hid (∀ s ∈ strsL t, s.size ≤ 9223372036854775807) := fun s hs => by have := ht8 s hs; omega
    clear ht hr htl ht8 hto
    go_enter Try.func6, Try.ntmps6
    go_wp2_with fail
    refine (awake10_any (w := _)).mono ?_
    rintro r w1 ⟨rfl, b1⟩
    have B1 := Lib.hid b1
    have HL1 := Lib.hid ((H.out.below b1 (Nat.le_refl _)).wide (Nat.le_refl _) b1.size)
    have S1 := b1.size
    clear b1
    go_wp2_with fail
    refine (few_is l true HL1.out HFW.out).mono ?_
    rintro r w2 ⟨rfl, rfl⟩
    go_wp2_with fail
    refine (sorder_is l t HL1.out hl2 HZ2.out HT.out rfl).mono ?_
    rintro r w2 ⟨A2, c2, rfl, ho2, b2⟩
    have HO2 := Lib.hid (Rd.of_own ho2)
    have HL2 := Lib.hid ((HL1.out.below b2 (Nat.le_refl _)).wide (Nat.le_refl _) b2.size)
    have B2 := Lib.hid (below_below B1.out b2 S1)
    have S2 := B2.out.size
    clear ho2 b2 HL1
    go_wp2_with fail
    refine (reforder_is l t HL2.out HZ1.out hl1 HT.out rfl).mono ?_
    rintro r w3 ⟨A3, c3, rfl, ho3, b3⟩
    have HO3 := Lib.hid (Rd.of_own ho3)
    have HO23 := Lib.hid (HO2.out.below b3 (Nat.le_refl _))
    have B3 := Lib.hid (below_below B2.out b3 S2)
    have S23 := b3.size
    have S3 := B3.out.size
    clear ho3 b3 HL2 HO2
    go_wp2_with fail
    refine (same_strs_len (strsL t) (strsL t) true HO23.out HO3.out HTL.out HTL.out (decide_eq_true rfl)).mono ?_
    rintro r w4 ⟨rfl, m4, rfl⟩
    go_wp2_with fail
    refine (refright_is (strsL t) true (HO23.out.drewN m4) HZ8.out HR.out HTL.out).mono ?_
    rintro r w5 ⟨rfl, m5, rfl⟩
    obtain ⟨w6, hw6⟩ : ∃ w6, (w3.drewN m4).drewN m5 = w6 := ⟨_, rfl⟩
    have HO6 : Hid (Rd w6 0 w6.heap.size A2 c2 (sv (strsL t))) := by unfold Hid; rw [← hw6]; exact ((HO23.out.drewN m4).drewN m5).wide (Nat.zero_le _) S23
    have B6 : Hid (Below w.heap.size w w6) := by unfold Hid; rw [← hw6]; exact below_drewN' (below_drewN' B3.out m4) m5
    have S6 := B6.out.size
    rw [hw6]
    clear hw6 HO23 HO3
    go_wp2_with fail
    refine (sorder_is (strsL t) t HO6.out (by rw [HTL.out]; omega) HZ9.out HTO.out HTL.out).mono ?_
    rintro r w7 ⟨A7, c7, rfl, ho7, b7⟩
    have HO7 := Lib.hid (Rd.of_own ho7)
    have HO67 := Lib.hid (HO6.out.below b7 (Nat.le_refl _))
    have B7 := Lib.hid (below_below B6.out b7 S6)
    clear ho7 b7 HO6
    go_wp2_with fail
    refine (same_strs_len (strsL t) (strsL t) true HO7.out HO67.out HTL.out HTL.out (decide_eq_true rfl)).mono ?_
    rintro r w8 ⟨rfl, m8, rfl⟩
    go_wp2_with fail
    go_ret
    exact ⟨rfl, below_drewN' B7.out m8⟩
  · have HNF : Hid (decide (FewS l) = false) := decide_eq_false hf
    clear hf
    go_enter Try.func6, Try.ntmps6
    go_wp2_with fail
    refine (awake10_any (w := _)).mono ?_
    rintro r w1 ⟨rfl, b1⟩
    go_wp2_with fail
    refine (few_is l false (H.out.below b1 (Nat.le_refl _)) HNF.out).mono ?_
    rintro r w2 ⟨rfl, rfl⟩
    go_wp2_with fail
    refine (awake10_any (w := _)).mono ?_
    rintro r w3 ⟨rfl, b3⟩
    go_wp2_with fail
    go_ret
    exact ⟨rfl, below_below b1 b3 b1.size⟩


set_option maxRecDepth 100000 in
theorem symbolOrders_lifted (os : Os) (started : os.Started) (H : Type) (enc : TypeId × Value → H) :
    ReturnsInHanded {} Try.checked os 6 .any (Rows.symbolOrdersSpec.pre6 enc Try.prog Try.f6 Rows.symbolOrdersRow.domain false) (Rows.symbolOrdersSpec.post enc Try.prog Try.f6 false true false false) := by
  refine returnsInHanded_of_change (C := Try.checked) own started (by kernel_rfl) Try.func6
    (ChangeSpec.witness6 (enc := enc) (C := Try.checked) false ⟨#[], #[.slice none 0 0], []⟩ 8 (by kernel_rfl) (by kernel_rfl) (by kernel_rfl) (by kernel_rfl)) ?_
  intro W base args ds gs before hval0 hW hcnd _
  have hval : ∀ (j : Nat) t v, Try.f6.params[j]? = some t → args[j]? = some v → Value.okWide Try.prog W .any base t v := hval0
  have hW' := hW
  obtain ⟨p, q, hA0, hV, rfl, hfz, hnd⟩ := hW
  have hA : DataW.TrodAll enc Try.prog W 0 (fun _ => true) true Try.f6.params.toList args.toList ds p := hA0
  have hA1 : DataW.TrodAll enc Try.prog W 0 (fun _ => true) true Try.f6.params.toList args.toList ds p := hA0
  rw [Try.params6] at hA hval
  obtain ⟨v0, vs0, d0, ds0, p0, q0, hargs, rfl, rfl, h0, r0⟩ := trodAll_cons hA
  obtain ⟨rfl, rfl, rfl⟩ := trodAll_nil r0
  obtain rfl : args = #[v0] := by cases args; simp_all
  obtain ⟨rfl, rfl⟩ := trodVars_none hV
  obtain ⟨A0, a0, c0, rfl, w0⟩ := open_strs Try.underlying22 Try.underlying9 (by kernel_rfl) (hval 0 22 v0 rfl rfl) h0
  clear hA0 hval0
  refine (symbolOrders_walk (w := W) w0).mono fun e W' ⟨he, bel⟩ => ?_
  subst he
  exact ⟨_, rfl, _, _, _, [], _, [], hW', trodAll_mk1 (shut_bool Try.underlying4 _), trodAll_below laidOut bel _ _ _ _ (by kernel_rfl) hA1, rfl, bel.frame _, fun h => by cases h⟩

theorem symbolOrders_over : Rows.symbolOrdersRow.holds Try.pinned (OpenSpec.ofChange Rows.symbolOrdersSpec) :=
  OpenClaim.holds_of_wide 6 Try.f6 rfl rfl rfl rfl rfl rfl rfl ⟨rfl, rfl, rfl, rfl, rfl⟩ rfl rfl rfl rfl rfl (by kernel_rfl) Try.func6 (by kernel_rfl)
    (of_decide_eq_true (by kernel_rfl)) (by unfold Func.isWrapper; first | (rw [if_pos (by decide +kernel)]; kernel_rfl) | (rw [if_neg (by decide +kernel)]; exact ⟨rfl, rfl⟩))
    (fun os started H enc _ => symbolOrders_lifted os started H enc)

/-- The statement. -/
theorem symbolOrders_proved : Rows.SymbolOrdersSaid := symbolOrders_over


end Go.Proofs.Ytfekdbdkcfhkiaa
