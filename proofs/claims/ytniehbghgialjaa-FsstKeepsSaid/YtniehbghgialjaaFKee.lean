/-
  Proved: FsstKeeps of layer 11: of whatever few strings' table and string, what Encode and Decode are handed stays; what came in reads as it did. Conditions: none of our own.
-/
import Derived.Test.YtniehbghgialjaaLawF
import Derived.Test.YtniehbghgialjaaShellT
import Derived.Test.YtniehbghgialjaaShell
namespace Go.Proofs.Ytniehbghgialjaa
set_option linter.unusedSimpArgs false
set_option linter.unusedVariables false
open Go.ChangeShapes Go.WideShapes Go.ChangeAt Go.RowKit
open Go.ChangeMaps (open_string shut_string)

set_option maxRecDepth 20000 in
set_option maxHeartbeats 4000000 in
theorem fsstKeeps_walk {w : World} {A : Option Addr} {l : List ByteArray} {c : Nat} (h : Rd w 0 w.heap.size A c (sv l) ∧ ∀ s ∈ l, s.size ≤ maxLen) (s : ByteArray) (hs : s.size ≤ 9223372036854775807) :
    Calls Try.prog 7 #[.slice A l.length c, .string s] w fun e w' => e = .returned (.bool true) ∧ Below w.heap.size w w' := by
  obtain ⟨h, -⟩ := h
  have Hl_w := Lib.hid h
  have hl := h.len
  have hm := h.cap
  rw [sv_length] at hl
  unfold maxLen at hm
  clear h
  by_cases hf : FewS l
  · obtain ⟨-, -⟩ := And.intro hl hm
    obtain ⟨hl3, hl1, hl2, hz1, hz2⟩ := few_sizes hf
    have HFW : Hid (decide (FewS l) = true) := decide_eq_true hf
    have HZ1 := Lib.hid hz1
    clear hz1 hz2 hf
    by_cases hs1 : s.size ≤ 1000
    · have i10 : ¬ (1000 : Int) < (s.size : Int) := by omega
      obtain ⟨t, ht⟩ : ∃ t, ordL (bytL2 l) = t := ⟨_, rfl⟩
      obtain ⟨hr, htl, ht5, ht8, hto⟩ := ord_facts l ht
      have htq : (strsL t).length ≤ 255 := by rw [htl]; exact ht5
      obtain ⟨T, hT⟩ : ∃ T, bytL2 (strsL t) = T := ⟨_, rfl⟩
      have hTl : T.length ≤ 255 := by rw [← hT, bytL2_length]; exact htq
      have HTT := Lib.hid hT
      have HT := Lib.hid ht
      have HR := Lib.hid hr
      have HTL := Lib.hid htl
      have HT8 := Lib.hid ht8
      have HTQ := Lib.hid htq
      clear ht hr htl ht8 hto hT htq
      obtain ⟨X, hX⟩ : ∃ E, encL T s.data.toList = E := ⟨_, rfl⟩
      have hxl : X.length ≤ 2 * s.size := by rw [← hX, ← lenS s]; exact enc_len T _
      have HX := Lib.hid hX
      obtain ⟨v1, hv1⟩ : ∃ v, decL T 5000 X [] 0 = v := ⟨_, rfl⟩
      obtain ⟨o1, e1, k1⟩ := v1
      have HV1 : Hid (decL T 5000 X [] 0 = ((⟨o1.toArray⟩ : ByteArray).data.toList, e1, k1)) := hv1
      clear hv1 hX
      go_enter Try.func7, Try.ntmps7
      go_wp2_with fail
      refine (awake11_any (w := _)).mono ?_
      rintro r w1 ⟨rfl, b_w1⟩
      have Hl_w1 := Lib.hid ((Hl_w.out.below b_w1 (Nat.le_refl _)).wide (Nat.zero_le _) b_w1.size)
      have HB_w1 := Lib.hid b_w1
      have S_w1 := HB_w1.out.size
      clear b_w1 Hl_w 
      go_wp2_with fail
      refine (few_is l true Hl_w1.out HFW.out).mono ?_
      rintro r w2 ⟨rfl, rfl⟩
      go_wp2_with fail
      refine (reforder_is l t Hl_w1.out HZ1.out hl1 HT.out rfl).mono ?_
      rintro r w2 ⟨A2, c2, rfl, ho_w2, b_w2⟩
      have Hl_w2 := Lib.hid ((Hl_w1.out.below b_w2 (Nat.le_refl _)).wide (Nat.zero_le _) b_w2.size)
      have HB_w2 := Lib.hid (below_below HB_w1.out b_w2 S_w1)
      have S_w2 := HB_w2.out.size
      have Ht_w2 := Lib.hid ((Rd.of_own ho_w2).wide (Nat.zero_le _) (Nat.le_refl _))
      clear b_w2 Hl_w1 HB_w1 ho_w2 
      obtain ⟨A3, c3, w3, hrun3, ho_w3, hg3⟩ := append_strs (w2.alloc (.cells #[] 9)) w2.heap.size (.slice (some ⟨w2.heap.size, 0, none⟩) 0 0) [] (strsL t) (strsL t) (List.nil_append _) (own_empty w2) (Ht_w2.out.alloc (Nat.le_refl _) _) (by have := HTQ.out; simp; omega) (by simp)
      have b_w3 : Below w2.heap.size w2 w3 := ((Below.refl _ w2).alloc (Nat.le_refl _) _).grown hg3 (by simp) (by simp [Value.ownBlock])
      rw [HTL.out] at hrun3 ho_w3
      have HRUN3 := Lib.hid hrun3
      clear hrun3 hg3
      have Hl_w3 := Lib.hid ((Hl_w2.out.below b_w3 (Nat.le_refl _)).wide (Nat.zero_le _) b_w3.size)
      have Ht_w3 := Lib.hid ((Ht_w2.out.below b_w3 (Nat.le_refl _)).wide (Nat.zero_le _) b_w3.size)
      have HB_w3 := Lib.hid (below_below HB_w2.out b_w3 S_w2)
      have S_w3 := HB_w3.out.size
      have Hu_w3 := Lib.hid ((Rd.of_own ho_w3).wide (Nat.zero_le _) (Nat.le_refl _))
      clear b_w3 Hl_w2 Ht_w2 HB_w2 ho_w3 
      go_wp2_with (at_builtin; refine wpList_append_run rfl _ _ _ _ rfl rfl rfl HRUN3.out ?_)
      clear HRUN3
      refine (fenc_is (strsL t) s X Ht_w3.out HR.out (by omega) (by rw [HTT.out]; exact HX.out) HTL.out).mono ?_
      rintro r w4 ⟨A_w4, c_w4, rfl, ho_w4, b_w4⟩
      have Hl_w4 := Lib.hid ((Hl_w3.out.below b_w4 (Nat.le_refl _)).wide (Nat.zero_le _) b_w4.size)
      have Ht_w4 := Lib.hid ((Ht_w3.out.below b_w4 (Nat.le_refl _)).wide (Nat.zero_le _) b_w4.size)
      have Hu_w4 := Lib.hid ((Hu_w3.out.below b_w4 (Nat.le_refl _)).wide (Nat.zero_le _) b_w4.size)
      have HB_w4 := Lib.hid (below_below HB_w3.out b_w4 S_w3)
      have S_w4 := HB_w4.out.size
      have Hx_w4 := Lib.hid ((Rd.of_own ho_w4).wide (Nat.zero_le _) (Nat.le_refl _))
      clear b_w4 Hl_w3 Ht_w3 Hu_w3 HB_w3 ho_w4 
      obtain ⟨A5, c5, w5, hrun5, ho_w5, hg5⟩ := append_named (w4.alloc (.cells #[] 5)) w4.heap.size (.slice (some ⟨w4.heap.size, 0, none⟩) 0 0) [] X X (List.nil_append X) (own_lit w4 [] #[] rfl (by decide)) (Hx_w4.out.alloc (Nat.le_refl _) _) (by simp; omega) (by simp)
      have b_w5 : Below w4.heap.size w4 w5 := ((Below.refl _ w4).alloc (Nat.le_refl _) _).grown hg5 (by simp) (by simp [Value.ownBlock])
      have HRUN5 := Lib.hid hrun5
      clear hrun5 hg5
      have Hl_w5 := Lib.hid ((Hl_w4.out.below b_w5 (Nat.le_refl _)).wide (Nat.zero_le _) b_w5.size)
      have Ht_w5 := Lib.hid ((Ht_w4.out.below b_w5 (Nat.le_refl _)).wide (Nat.zero_le _) b_w5.size)
      have Hu_w5 := Lib.hid ((Hu_w4.out.below b_w5 (Nat.le_refl _)).wide (Nat.zero_le _) b_w5.size)
      have Hx_w5 := Lib.hid ((Hx_w4.out.below b_w5 (Nat.le_refl _)).wide (Nat.zero_le _) b_w5.size)
      have HB_w5 := Lib.hid (below_below HB_w4.out b_w5 S_w4)
      have S_w5 := HB_w5.out.size
      have Hy_w5 := Lib.hid ((Rd.of_own ho_w5).wide (Nat.zero_le _) (Nat.le_refl _))
      clear b_w5 Hl_w4 Ht_w4 Hu_w4 Hx_w4 HB_w4 ho_w5 
      go_wp2_with (at_builtin; refine wpList_append_run rfl _ _ _ _ rfl rfl rfl HRUN5.out ?_)
      clear HRUN5
      refine (fdec_is (strsL t) X 5000 ⟨o1.toArray⟩ e1 k1 Ht_w5.out Hx_w5.out HT8.out HTQ.out (by omega) (by omega) (by omega) (by rw [HTT.out]; exact HV1.out) HTL.out rfl).mono ?_
      rintro r w6 ⟨rfl, b_w6⟩
      have Hl_w6 := Lib.hid ((Hl_w5.out.below b_w6 (Nat.le_refl _)).wide (Nat.zero_le _) b_w6.size)
      have Ht_w6 := Lib.hid ((Ht_w5.out.below b_w6 (Nat.le_refl _)).wide (Nat.zero_le _) b_w6.size)
      have Hu_w6 := Lib.hid ((Hu_w5.out.below b_w6 (Nat.le_refl _)).wide (Nat.zero_le _) b_w6.size)
      have Hx_w6 := Lib.hid ((Hx_w5.out.below b_w6 (Nat.le_refl _)).wide (Nat.zero_le _) b_w6.size)
      have Hy_w6 := Lib.hid ((Hy_w5.out.below b_w6 (Nat.le_refl _)).wide (Nat.zero_le _) b_w6.size)
      have HB_w6 := Lib.hid (below_below HB_w5.out b_w6 S_w5)
      have S_w6 := HB_w6.out.size
      clear b_w6 Hl_w5 Ht_w5 Hu_w5 Hx_w5 Hy_w5 HB_w5 
      go_wp2_with fail
      go_loopw [9] (fun i wr => ∃ k m : Nat, k ≤ t.length ∧ i = .int .i64 (k : Int) ∧ w6.drewN m = wr) (fun i _ => t.length - (intOf i).toNat)
      case atStart => exact ⟨0, 0, Nat.zero_le _, rfl, rfl⟩
      case round =>
        obtain ⟨k, m, hk, rfl, rfl⟩ := hrel
        by_cases hlt : k < t.length
        · have hks : k < (strsL t).length := by rw [HTL.out]; exact hlt
          obtain ⟨b, off, rfl, _, _, hcell⟩ := Ht_w6.out.str hks
          obtain ⟨b2, off2, rfl, _, _, hcell2⟩ := Hu_w6.out.str hks
          have tle1 := Ht_w6.out.len
          have tle2 := Hu_w6.out.len
          rw [sv_length, HTL.out] at tle1 tle2
          generalize (strsL t)[k] = x at *
          clear hks
          go_wp2_with fail
          go_quiet (fail)
          go_wp2
          go_roundw
          case rel => exact ⟨k + 1, _, by omega, by go_num, rfl⟩
          case measure => simp [intOf]; omega
        · obtain rfl : k = t.length := by omega
          go_wp2_with fail
          refine (same_len X X true (Hx_w6.out.drewN m) (Hy_w6.out.drewN m) rfl rfl (decide_eq_true rfl)).mono ?_
          rintro r w7 ⟨rfl, rfl⟩
          go_wp2_with fail
          go_ret
          exact ⟨rfl, below_drewN' HB_w6.out m⟩
    · have i10 : (1000 : Int) < (s.size : Int) := by omega
      go_enter Try.func7, Try.ntmps7
      go_wp2_with fail
      refine (awake11_any (w := _)).mono ?_
      rintro r w1 ⟨rfl, b1⟩
      go_wp2_with fail
      refine (few_is l true (Hl_w.out.below b1 (Nat.le_refl _)) HFW.out).mono ?_
      rintro r w2 ⟨rfl, rfl⟩
      go_wp2_with fail
      refine (awake11_any (w := _)).mono ?_
      rintro r w3 ⟨rfl, b3⟩
      go_wp2_with fail
      go_ret
      exact ⟨rfl, below_below b1 b3 b1.size⟩
  · have HNF : Hid (decide (FewS l) = false) := decide_eq_false hf
    clear hf
    go_enter Try.func7, Try.ntmps7
    go_wp2_with fail
    refine (awake11_any (w := _)).mono ?_
    rintro r w1 ⟨rfl, b1⟩
    go_wp2_with fail
    refine (few_is l false (Hl_w.out.below b1 (Nat.le_refl _)) HNF.out).mono ?_
    rintro r w2 ⟨rfl, rfl⟩
    go_wp2_with fail
    refine (awake11_any (w := _)).mono ?_
    rintro r w3 ⟨rfl, b3⟩
    go_wp2_with fail
    go_ret
    exact ⟨rfl, below_below b1 b3 b1.size⟩

set_option maxRecDepth 100000 in
theorem fsstKeeps_lifted (os : Os) (started : os.Started) (H : Type) (enc : TypeId × Value → H) :
    ReturnsInHanded {} Try.checked os 7 .any (Rows.fsstKeepsSpec.pre6 enc Try.prog Try.f7 Rows.fsstKeepsRow.domain false) (Rows.fsstKeepsSpec.post enc Try.prog Try.f7 false true false false) := by
  refine returnsInHanded_of_change (C := Try.checked) own started (by kernel_rfl) Try.func7
    (ChangeSpec.witness6 (enc := enc) (C := Try.checked) false ⟨#[], #[.slice none 0 0, .string ByteArray.empty], []⟩ 8 (by kernel_rfl) (by kernel_rfl) (by kernel_rfl) (by kernel_rfl)) ?_
  intro W base args ds gs before hval0 hW hcnd _
  have hval : ∀ (j : Nat) t v, Try.f7.params[j]? = some t → args[j]? = some v → Value.okWide Try.prog W .any base t v := hval0
  have hW' := hW
  obtain ⟨p, q, hA0, hV, rfl, hfz, hnd⟩ := hW
  have hA : DataW.TrodAll enc Try.prog W 0 (fun _ => true) true Try.f7.params.toList args.toList ds p := hA0
  have hA1 : DataW.TrodAll enc Try.prog W 0 (fun _ => true) true Try.f7.params.toList args.toList ds p := hA0
  rw [Try.params7] at hA hval
  obtain ⟨v0, vs0, d0, ds0, p0, q0, hargs, rfl, rfl, h0, r0⟩ := trodAll_cons hA
  obtain ⟨v1, vs1, d1, ds1, p1, q1, rfl, rfl, rfl, h1, r1⟩ := trodAll_cons r0
  obtain ⟨rfl, rfl, rfl⟩ := trodAll_nil r1
  obtain rfl : args = #[v0, v1] := by cases args; simp_all
  obtain ⟨rfl, rfl⟩ := trodVars_none hV
  obtain ⟨A0, a0, c0, rfl, w0⟩ := open_strs Try.underlying22 Try.underlying9 (by kernel_rfl) (hval 0 22 v0 rfl rfl) h0
  obtain ⟨a1, rfl, rfl, rfl, w1⟩ := open_string Try.underlying9 (hval 1 9 v1 rfl rfl) h1
  clear hA0 hval0
  refine (fsstKeeps_walk (w := W) w0 a1 w1).mono fun e W' ⟨he, bel⟩ => ?_
  subst he
  exact ⟨_, rfl, _, _, _, [], _, [], hW', trodAll_mk1 (shut_bool Try.underlying4 _), trodAll_below laidOut bel _ _ _ _ (by kernel_rfl) hA1, rfl, bel.frame _, fun h => by cases h⟩

theorem fsstKeeps_over : Rows.fsstKeepsRow.holds Try.pinned (OpenSpec.ofChange Rows.fsstKeepsSpec) :=
  OpenClaim.holds_of_wide 7 Try.f7 rfl rfl rfl rfl rfl rfl rfl ⟨rfl, rfl, rfl, rfl, rfl⟩ rfl rfl rfl rfl rfl (by kernel_rfl) Try.func7 (by kernel_rfl)
    (of_decide_eq_true (by kernel_rfl)) (by unfold Func.isWrapper; first | (rw [if_pos (by decide +kernel)]; kernel_rfl) | (rw [if_neg (by decide +kernel)]; exact ⟨rfl, rfl⟩))
    (fun os started H enc _ => fsstKeeps_lifted os started H enc)

/-- The statement. -/
theorem fsstKeeps_proved : Rows.FsstKeepsSaid := fsstKeeps_over


end Go.Proofs.Ytniehbghgialjaa
