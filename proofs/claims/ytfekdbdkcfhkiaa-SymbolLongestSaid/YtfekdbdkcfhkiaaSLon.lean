/-
  Proved: SymbolLongest of layer 10: of whatever few strings' table and string, Longest answers the code and the length that the document does; what came in reads as it did. Conditions: none of our own.
-/
import Derived.Test.YtfekdbdkcfhkiaaLawS
import Derived.Test.YtfekdbdkcfhkiaaShellT
import Derived.Test.YtfekdbdkcfhkiaaShell
namespace Go.Proofs.Ytfekdbdkcfhkiaa
set_option linter.unusedSimpArgs false
set_option linter.unusedVariables false
open Go.ChangeShapes Go.WideShapes Go.ChangeAt Go.RowKit
open Go.ChangeMaps (open_string shut_string)

set_option maxRecDepth 20000 in
set_option maxHeartbeats 4000000 in
theorem symbolLongest_walk {w : World} {A : Option Addr} {l : List ByteArray} {c : Nat} (h : Rd w 0 w.heap.size A c (sv l) ∧ ∀ s ∈ l, s.size ≤ maxLen) (s : ByteArray) (hs : s.size ≤ 9223372036854775807) :
    Calls Try.prog 7 #[.slice A l.length c, .string s] w fun e w' => e = .returned (.bool true) ∧ Below w.heap.size w w' := by
  obtain ⟨h, -⟩ := h
  have H := Lib.hid h
  have hl := h.len
  have hm := h.cap
  rw [sv_length] at hl
  unfold maxLen at hm
  clear h
  by_cases hf : FewS l
  · obtain ⟨hl3, hl1, hl2, hz1, hz2⟩ := few_sizes hf
    have HFW : Hid (decide (FewS l) = true) := decide_eq_true hf
    have HZ1 := Lib.hid hz1
    have HZ2 := Lib.hid hz2
    clear hz1 hz2 hf
    by_cases hs1 : s.size ≤ 1000
    · obtain ⟨t, ht⟩ : ∃ t, ordL (bytL2 l) = t := ⟨_, rfl⟩
      obtain ⟨hr, htl, ht5, ht8, hto⟩ := ord_facts l ht
      obtain ⟨v, hv⟩ : ∃ v, longP (bytL2 (strsL t)) s.data.toList = v := ⟨_, rfl⟩
      have HT := Lib.hid ht
      have HR := Lib.hid hr
      have HTL := Lib.hid htl
      have HV := Lib.hid hv
      have HZ8 : Hid (∀ s ∈ strsL t, s.size ≤ 100000) := fun s hs => by have := ht8 s hs; omega
      have HVF : Hid (v = (-1, 0) ∨ ∃ j, ∃ (hj : j < (strsL t).length), v = ((j : Int), (strsL t)[j].size)) := by
        unfold Hid
        rcases longP_spec (bytL2 (strsL t)) s.data.toList with h1 | ⟨j, u, h1, h2, h3, h4⟩
        · left; rw [← hv]; exact h1
        · right
          obtain ⟨hj, hje⟩ := List.getElem?_eq_some_iff.1 h1
          rw [bytL2_length] at hj
          refine ⟨j, hj, ?_⟩
          rw [← hv, h2, ← hje, bytL2_get _ j hj, Array.length_toList]
          rfl
      clear ht hr htl ht8 hto hv
      have i10 : ¬ (1000 : Int) < (s.size : Int) := by omega
      go_enter Try.func7, Try.ntmps7
      go_wp2_with fail
      refine (awake10_any (w := _)).mono ?_
      rintro r w1 ⟨rfl, b1⟩
      have B1 := Lib.hid b1
      have HL1 := Lib.hid ((H.out.below b1 (Nat.le_refl _)).wide (Nat.le_refl _) b1.size)
      have S1 := b1.size
      clear b1
      go_wp2_with fail
      refine (few_is l true HL1.out HFW.out).mono ?_
      rintro r w2 ⟨rfl, rfl⟩
      go_wp2_with fail
      refine (reforder_is l t HL1.out HZ1.out hl1 HT.out rfl).mono ?_
      rintro r w2 ⟨A2, c2, rfl, ho2, b2⟩
      have HO2 := Lib.hid (Rd.of_own ho2)
      have B2 := Lib.hid (below_below B1.out b2 S1)
      clear ho2 b2 HL1
      go_wp2_with fail
      refine (slongest_is (strsL t) s v HO2.out HR.out hs HV.out HTL.out).mono ?_
      rintro r w3 ⟨rfl, m3, rfl⟩
      go_wp2_with fail
      refine (reflong_is (strsL t) s v (HO2.out.drewN _) HZ8.out (by omega) (by rw [HTL.out]; omega) HV.out HTL.out).mono ?_
      rintro r w4 ⟨rfl, m4, rfl⟩
      obtain ⟨w5, hw5⟩ : ∃ w5, (w2.drewN m3).drewN m4 = w5 := ⟨_, rfl⟩
      have HO5 : Hid (Rd w5 w1.heap.size w2.heap.size A2 c2 (sv (strsL t))) := by unfold Hid; rw [← hw5]; exact (HO2.out.drewN _).drewN _
      have B5 : Hid (Below w.heap.size w w5) := by unfold Hid; rw [← hw5]; exact below_drewN' (below_drewN' B2.out _) _
      rw [hw5]
      clear hw5 HO2
      rcases HVF.out with hve | ⟨j, hj, hve⟩
      · subst hve
        clear HVF HV
        go_wp2_with fail
        go_ret
        exact ⟨rfl, B5.out⟩
      · obtain ⟨b, off, rfl, _, _, hcell⟩ := HO5.out.str hj
        have hjt : j < t.length := by rw [HTL.out] at hj; exact hj
        obtain ⟨x, hx⟩ : ∃ x, (strsL t)[j] = x := ⟨_, rfl⟩
        rw [hx] at hve hcell
        subst hve
        have hx8 : x.size ≤ 100000 := by rw [← hx]; exact HZ8.out _ (List.getElem_mem hj)
        have tle := (HO5.out.len)
        rw [sv_length, HTL.out] at tle
        clear HVF HV hx hj
        go_wp2_with fail
        go_ret
        exact ⟨rfl, B5.out⟩
    · have i10 : (1000 : Int) < (s.size : Int) := by omega
      go_enter Try.func7, Try.ntmps7
      go_wp2_with fail
      refine (awake10_any (w := _)).mono ?_
      rintro r w1 ⟨rfl, b1⟩
      go_wp2_with fail
      refine (few_is l true (H.out.below b1 (Nat.le_refl _)) HFW.out).mono ?_
      rintro r w2 ⟨rfl, rfl⟩
      go_wp2_with fail
      refine (awake10_any (w := _)).mono ?_
      rintro r w3 ⟨rfl, b3⟩
      go_wp2_with fail
      go_ret
      exact ⟨rfl, below_below b1 b3 b1.size⟩
  · have HNF : Hid (decide (FewS l) = false) := decide_eq_false hf
    clear hf
    go_enter Try.func7, Try.ntmps7
    go_wp2_with fail
    refine (awake10_any (w := _)).mono ?_
    rintro r w1 ⟨rfl, b1⟩
    go_wp2_with fail
    refine (few_is l false (H.out.below b1 (Nat.le_refl _)) HNF.out).mono ?_
    rintro r w2 ⟨rfl, rfl⟩
    go_wp2_with fail
    refine (awake10_any (w := _)).mono ?_
    rintro r w3 ⟨rfl, b3⟩
    go_wp2_with fail
    go_ret
    exact ⟨rfl, below_below b1 b3 b1.size⟩


set_option maxRecDepth 100000 in
theorem symbolLongest_lifted (os : Os) (started : os.Started) (H : Type) (enc : TypeId × Value → H) :
    ReturnsInHanded {} Try.checked os 7 .any (Rows.symbolLongestSpec.pre6 enc Try.prog Try.f7 Rows.symbolLongestRow.domain false) (Rows.symbolLongestSpec.post enc Try.prog Try.f7 false true false false) := by
  refine returnsInHanded_of_change (C := Try.checked) own started (by kernel_rfl) Try.func7
    (ChangeSpec.witness6 (enc := enc) (C := Try.checked) false ⟨#[], #[.slice none 0 0, .string ByteArray.empty], []⟩ 8 (by kernel_rfl) (by kernel_rfl) (by kernel_rfl) (by kernel_rfl)) ?_
  intro W base args ds gs before hval0 hW hcnd _
  have hval : ∀ (j : Nat) t v, Try.f7.params[j]? = some t → args[j]? = some v → Value.okWide Try.prog W .any base t v := hval0
  have hW' := hW
  obtain ⟨p, q, hA0, hV, rfl, hfz, hnd⟩ := hW
  have hA : DataW.TrodAll enc Try.prog W 0 (fun _ => true) true Try.f7.params.toList args.toList ds p := hA0
  have hA1 : DataW.TrodAll enc Try.prog W 0 (fun _ => true) true Try.f7.params.toList args.toList ds p := hA0
  rw [Try.params7] at hA hval
  obtain ⟨v0, vs0, d0, ds0, p0, q0, hargs, rfl, rfl, h0, r0⟩ := trodAll_cons hA
  obtain ⟨v1, vs1, d1, ds1, p1, q1, rfl, rfl, rfl, h1, r1⟩ := trodAll_cons r0
  obtain ⟨rfl, rfl, rfl⟩ := trodAll_nil r1
  obtain rfl : args = #[v0, v1] := by cases args; simp_all
  obtain ⟨rfl, rfl⟩ := trodVars_none hV
  obtain ⟨A0, a0, c0, rfl, w0⟩ := open_strs Try.underlying22 Try.underlying9 (by kernel_rfl) (hval 0 22 v0 rfl rfl) h0
  obtain ⟨a1, rfl, rfl, rfl, w1⟩ := open_string Try.underlying9 (hval 1 9 v1 rfl rfl) h1
  clear hA0 hval0
  refine (symbolLongest_walk (w := W) w0 a1 w1).mono fun e W' ⟨he, bel⟩ => ?_
  subst he
  exact ⟨_, rfl, _, _, _, [], _, [], hW', trodAll_mk1 (shut_bool Try.underlying4 _), trodAll_below laidOut bel _ _ _ _ (by kernel_rfl) hA1, rfl, bel.frame _, fun h => by cases h⟩

theorem symbolLongest_over : Rows.symbolLongestRow.holds Try.pinned (OpenSpec.ofChange Rows.symbolLongestSpec) :=
  OpenClaim.holds_of_wide 7 Try.f7 rfl rfl rfl rfl rfl rfl rfl ⟨rfl, rfl, rfl, rfl, rfl⟩ rfl rfl rfl rfl rfl (by kernel_rfl) Try.func7 (by kernel_rfl)
    (of_decide_eq_true (by kernel_rfl)) (by unfold Func.isWrapper; first | (rw [if_pos (by decide +kernel)]; kernel_rfl) | (rw [if_neg (by decide +kernel)]; exact ⟨rfl, rfl⟩))
    (fun os started H enc _ => symbolLongest_lifted os started H enc)

/-- The statement. -/
theorem symbolLongest_proved : Rows.SymbolLongestSaid := symbolLongest_over


end Go.Proofs.Ytfekdbdkcfhkiaa
