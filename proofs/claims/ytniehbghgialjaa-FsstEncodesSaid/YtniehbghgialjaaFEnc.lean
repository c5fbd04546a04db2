/-
  Proved: FsstEncodes of layer 11: of whatever few strings' table and string, Encode answers the document's bytes; what came in reads as it did. Conditions: none of our own.
-/
import Derived.Test.YtniehbghgialjaaLawF
import Derived.Test.YtniehbghgialjaaShellT
import Derived.Test.YtniehbghgialjaaShell
namespace Go.Proofs.Ytniehbghgialjaa
set_option linter.unusedSimpArgs false
set_option linter.unusedVariables false
open Go.ChangeShapes Go.WideShapes Go.ChangeAt Go.RowKit
open Go.ChangeMaps (open_string shut_string)

set_option maxRecDepth 20000 in
set_option maxHeartbeats 4000000 in
theorem fsstEncodes_walk {w : World} {A : Option Addr} {l : List ByteArray} {c : Nat} (h : Rd w 0 w.heap.size A c (sv l) ∧ ∀ s ∈ l, s.size ≤ maxLen) (s : ByteArray) (hs : s.size ≤ 9223372036854775807) :
    Calls Try.prog 3 #[.slice A l.length c, .string s] w fun e w' => e = .returned (.bool true) ∧ Below w.heap.size w w' := by
  obtain ⟨h, -⟩ := h
  have Hl_w := Lib.hid h
  have hl := h.len
  have hm := h.cap
  rw [sv_length] at hl
  unfold maxLen at hm
  clear h
  by_cases hf : FewS l
  · obtain ⟨-, -⟩ := And.intro hl hm
    obtain ⟨hl3, hl1, hl2, hz1, hz2⟩ := few_sizes hf
    have HFW : Hid (decide (FewS l) = true) := decide_eq_true hf
    have HZ1 := Lib.hid hz1
    clear hz1 hz2 hf
    by_cases hs1 : s.size ≤ 2000
    · have i10 : ¬ (2000 : Int) < (s.size : Int) := by omega
      obtain ⟨t, ht⟩ : ∃ t, ordL (bytL2 l) = t := ⟨_, rfl⟩
      obtain ⟨hr, htl, ht5, ht8, hto⟩ := ord_facts l ht
      have htq : (strsL t).length ≤ 255 := by rw [htl]; exact ht5
      obtain ⟨T, hT⟩ : ∃ T, bytL2 (strsL t) = T := ⟨_, rfl⟩
      have hTl : T.length ≤ 255 := by rw [← hT, bytL2_length]; exact htq
      have HTT := Lib.hid hT
      have HT := Lib.hid ht
      have HR := Lib.hid hr
      have HTL := Lib.hid htl
      have HT8 := Lib.hid ht8
      have HTQ := Lib.hid htq
      clear ht hr htl ht8 hto hT htq
      obtain ⟨E, hE⟩ : ∃ E, encL T s.data.toList = E := ⟨_, rfl⟩
      have HE := Lib.hid hE
      clear hE
      go_enter Try.func3, Try.ntmps3
      go_wp2_with fail
      refine (awake11_any (w := _)).mono ?_
      rintro r w1 ⟨rfl, b_w1⟩
      have Hl_w1 := Lib.hid ((Hl_w.out.below b_w1 (Nat.le_refl _)).wide (Nat.zero_le _) b_w1.size)
      have HB_w1 := Lib.hid b_w1
      have S_w1 := HB_w1.out.size
      clear b_w1 Hl_w 
      go_wp2_with fail
      refine (few_is l true Hl_w1.out HFW.out).mono ?_
      rintro r w2 ⟨rfl, rfl⟩
      go_wp2_with fail
      refine (reforder_is l t Hl_w1.out HZ1.out hl1 HT.out rfl).mono ?_
      rintro r w2 ⟨A2, c2, rfl, ho_w2, b_w2⟩
      have Hl_w2 := Lib.hid ((Hl_w1.out.below b_w2 (Nat.le_refl _)).wide (Nat.zero_le _) b_w2.size)
      have HB_w2 := Lib.hid (below_below HB_w1.out b_w2 S_w1)
      have S_w2 := HB_w2.out.size
      have Ht_w2 := Lib.hid ((Rd.of_own ho_w2).wide (Nat.zero_le _) (Nat.le_refl _))
      clear b_w2 Hl_w1 HB_w1 ho_w2 
      go_wp2_with fail
      refine (fenc_is (strsL t) s E Ht_w2.out HR.out (by omega) (by rw [HTT.out]; exact HE.out) HTL.out).mono ?_
      rintro r w3 ⟨A_w3, c_w3, rfl, ho_w3, b_w3⟩
      have Hl_w3 := Lib.hid ((Hl_w2.out.below b_w3 (Nat.le_refl _)).wide (Nat.zero_le _) b_w3.size)
      have Ht_w3 := Lib.hid ((Ht_w2.out.below b_w3 (Nat.le_refl _)).wide (Nat.zero_le _) b_w3.size)
      have HB_w3 := Lib.hid (below_below HB_w2.out b_w3 S_w2)
      have S_w3 := HB_w3.out.size
      have Hx_w3 := Lib.hid ((Rd.of_own ho_w3).wide (Nat.zero_le _) (Nat.le_refl _))
      clear b_w3 Hl_w2 Ht_w2 HB_w2 ho_w3 
      go_wp2_with fail
      refine (refenc_is (strsL t) s E Ht_w3.out HT8.out HTQ.out (by omega) (by rw [HTT.out]; exact HE.out) HTL.out).mono ?_
      rintro r w4 ⟨A_w4, c_w4, rfl, ho_w4, b_w4⟩
      have Hl_w4 := Lib.hid ((Hl_w3.out.below b_w4 (Nat.le_refl _)).wide (Nat.zero_le _) b_w4.size)
      have Ht_w4 := Lib.hid ((Ht_w3.out.below b_w4 (Nat.le_refl _)).wide (Nat.zero_le _) b_w4.size)
      have Hx_w4 := Lib.hid ((Hx_w3.out.below b_w4 (Nat.le_refl _)).wide (Nat.zero_le _) b_w4.size)
      have HB_w4 := Lib.hid (below_below HB_w3.out b_w4 S_w3)
      have S_w4 := HB_w4.out.size
      have Hy_w4 := Lib.hid ((Rd.of_own ho_w4).wide (Nat.zero_le _) (Nat.le_refl _))
      clear b_w4 Hl_w3 Ht_w3 Hx_w3 HB_w3 ho_w4 
      go_wp2_with fail
      refine (same_len E E true Hx_w4.out Hy_w4.out rfl rfl (decide_eq_true rfl)).mono ?_
      rintro r w5 ⟨rfl, rfl⟩
      go_wp2_with fail
      go_ret
      exact ⟨rfl, HB_w4.out⟩
    · have i10 : (2000 : Int) < (s.size : Int) := by omega
      go_enter Try.func3, Try.ntmps3
      go_wp2_with fail
      refine (awake11_any (w := _)).mono ?_
      rintro r w1 ⟨rfl, b1⟩
      go_wp2_with fail
      refine (few_is l true (Hl_w.out.below b1 (Nat.le_refl _)) HFW.out).mono ?_
      rintro r w2 ⟨rfl, rfl⟩
      go_wp2_with fail
      refine (awake11_any (w := _)).mono ?_
      rintro r w3 ⟨rfl, b3⟩
      go_wp2_with fail
      go_ret
      exact ⟨rfl, below_below b1 b3 b1.size⟩
  · have HNF : Hid (decide (FewS l) = false) := decide_eq_false hf
    clear hf
    go_enter Try.func3, Try.ntmps3
    go_wp2_with fail
    refine (awake11_any (w := _)).mono ?_
    rintro r w1 ⟨rfl, b1⟩
    go_wp2_with fail
    refine (few_is l false (Hl_w.out.below b1 (Nat.le_refl _)) HNF.out).mono ?_
    rintro r w2 ⟨rfl, rfl⟩
    go_wp2_with fail
    refine (awake11_any (w := _)).mono ?_
    rintro r w3 ⟨rfl, b3⟩
    go_wp2_with fail
    go_ret
    exact ⟨rfl, below_below b1 b3 b1.size⟩

set_option maxRecDepth 100000 in
theorem fsstEncodes_lifted (os : Os) (started : os.Started) (H : Type) (enc : TypeId × Value → H) :
    ReturnsInHanded {} Try.checked os 3 .any (Rows.fsstEncodesSpec.pre6 enc Try.prog Try.f3 Rows.fsstEncodesRow.domain false) (Rows.fsstEncodesSpec.post enc Try.prog Try.f3 false true false false) := by
  refine returnsInHanded_of_change (C := Try.checked) own started (by kernel_rfl) Try.func3
    (ChangeSpec.witness6 (enc := enc) (C := Try.checked) false ⟨#[], #[.slice none 0 0, .string ByteArray.empty], []⟩ 8 (by kernel_rfl) (by kernel_rfl) (by kernel_rfl) (by kernel_rfl)) ?_
  intro W base args ds gs before hval0 hW hcnd _
  have hval : ∀ (j : Nat) t v, Try.f3.params[j]? = some t → args[j]? = some v → Value.okWide Try.prog W .any base t v := hval0
  have hW' := hW
  obtain ⟨p, q, hA0, hV, rfl, hfz, hnd⟩ := hW
  have hA : DataW.TrodAll enc Try.prog W 0 (fun _ => true) true Try.f3.params.toList args.toList ds p := hA0
  have hA1 : DataW.TrodAll enc Try.prog W 0 (fun _ => true) true Try.f3.params.toList args.toList ds p := hA0
  rw [Try.params3] at hA hval
  obtain ⟨v0, vs0, d0, ds0, p0, q0, hargs, rfl, rfl, h0, r0⟩ := trodAll_cons hA
  obtain ⟨v1, vs1, d1, ds1, p1, q1, rfl, rfl, rfl, h1, r1⟩ := trodAll_cons r0
  obtain ⟨rfl, rfl, rfl⟩ := trodAll_nil r1
  obtain rfl : args = #[v0, v1] := by cases args; simp_all
  obtain ⟨rfl, rfl⟩ := trodVars_none hV
  obtain ⟨A0, a0, c0, rfl, w0⟩ := open_strs Try.underlying22 Try.underlying9 (by kernel_rfl) (hval 0 22 v0 rfl rfl) h0
  obtain ⟨a1, rfl, rfl, rfl, w1⟩ := open_string Try.underlying9 (hval 1 9 v1 rfl rfl) h1
  clear hA0 hval0
  refine (fsstEncodes_walk (w := W) w0 a1 w1).mono fun e W' ⟨he, bel⟩ => ?_
  subst he
  exact ⟨_, rfl, _, _, _, [], _, [], hW', trodAll_mk1 (shut_bool Try.underlying4 _), trodAll_below laidOut bel _ _ _ _ (by kernel_rfl) hA1, rfl, bel.frame _, fun h => by cases h⟩

theorem fsstEncodes_over : Rows.fsstEncodesRow.holds Try.pinned (OpenSpec.ofChange Rows.fsstEncodesSpec) :=
  OpenClaim.holds_of_wide 3 Try.f3 rfl rfl rfl rfl rfl rfl rfl ⟨rfl, rfl, rfl, rfl, rfl⟩ rfl rfl rfl rfl rfl (by kernel_rfl) Try.func3 (by kernel_rfl)
    (of_decide_eq_true (by kernel_rfl)) (by unfold Func.isWrapper; first | (rw [if_pos (by decide +kernel)]; kernel_rfl) | (rw [if_neg (by decide +kernel)]; exact ⟨rfl, rfl⟩))
    (fun os started H enc _ => fsstEncodes_lifted os started H enc)

/-- The statement. -/
theorem fsstEncodes_proved : Rows.FsstEncodesSaid := fsstEncodes_over


end Go.Proofs.Ytniehbghgialjaa
