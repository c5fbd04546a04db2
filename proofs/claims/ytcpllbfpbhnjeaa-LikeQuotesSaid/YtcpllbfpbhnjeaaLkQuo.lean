/-
  Proved: LikeQuotes of layer 9: what is quoted is a pattern that matches the string itself, and no other; what came in reads as it did. Conditions: none of our own.
-/
import Derived.Test.YtcpllbfpbhnjeaaLawL
import Derived.Test.YtcpllbfpbhnjeaaShell
import Derived.Test.YtcpllbfpbhnjeaaShellN
namespace Go.Proofs.Ytcpllbfpbhnjeaa
set_option linter.unusedSimpArgs false
set_option linter.unusedVariables false
open Go.ChangeShapes Go.WideShapes Go.ChangeAt Go.RowKit
open Go.ChangeMaps (open_string shut_string)


set_option maxRecDepth 20000 in
set_option maxHeartbeats 1000000 in
theorem likeQuotes_walk {w : World} (s : ByteArray) (hs : s.size ≤ 9223372036854775807) (t : ByteArray) (ht : t.size ≤ 9223372036854775807) (x : UInt8) :
    Calls Try.prog 6 #[.string s, .string t, .int .u8 (x.toNat : Int)] w fun e w' => e = .returned (.bool true) ∧ Below w.heap.size w w' := by
  have lx : x.toNat < 256 := UInt8.toNat_lt _
  by_cases h6 : (1000 : Int) < (s.size : Int)
  · go_enter Try.func6, Try.ntmps6
    go_wp2_with fail
    refine (awake9_any (w := _)).mono ?_
    rintro r w1 ⟨rfl, b1⟩
    go_wp2_with fail
    refine (awake9_any (w := _)).mono ?_
    rintro r w2 ⟨rfl, b2⟩
    go_wp2_with fail
    go_ret
    exact ⟨rfl, below_below b1 b2 b1.size⟩
  · by_cases h7 : (1000 : Int) < (t.size : Int)
    · go_enter Try.func6, Try.ntmps6
      go_wp2_with fail
      refine (awake9_any (w := _)).mono ?_
      rintro r w1 ⟨rfl, b1⟩
      go_wp2_with fail
      refine (awake9_any (w := _)).mono ?_
      rintro r w2 ⟨rfl, b2⟩
      go_wp2_with fail
      go_ret
      exact ⟨rfl, below_below b1 b2 b1.size⟩
    · have hql : (quoteL x s.data.toList).length ≤ 2000 := by
        have := quote_len x s.data.toList
        rw [lenB] at this
        omega
      have hpf : parseF (x.toNat : Int) (quoteL x s.data.toList) = some (lits s.data.toList) := by
        unfold parseF
        rw [if_neg (by omega), parse_quote]
        rfl
      have hlits : ∀ n ∈ lits s.data.toList, n ≤ 257 := by
        intro n hn
        obtain ⟨c, _, rfl⟩ := List.mem_map.1 hn
        have := UInt8.toNat_lt c
        omega
      have HQ := Lib.hid (fun w => lquote_any (w := w) s x (by omega))
      have HP := Lib.hid (fun w => lparse_some (w := w) ⟨(quoteL x s.data.toList).toArray⟩ (x.toNat : Int) _ hpf)
      have hms : mat (lits s.data.toList) s.data.toList = true := by rw [mat_lits_eq]; exact decide_eq_true rfl
      have hmt : mat (lits s.data.toList) t.data.toList = decide (s = t) := by
        rw [mat_lits_eq, Bool.eq_iff_iff, decide_eq_true_eq, decide_eq_true_eq]
        exact ⟨fun h => by rw [← str_eta s, ← str_eta t, h], fun h => by rw [h]⟩
      generalize lits s.data.toList = ps at *
      have HM1 := Lib.hid (fun w lo hi A c (h : Rd w lo hi A c (iv (ints ps))) => lmatch_is ps s true h hlits (by omega) hms)
      have HM2 := Lib.hid (fun w lo hi A c (h : Rd w lo hi A c (iv (ints ps))) => lmatch_is ps t _ h hlits (by omega) hmt)
      generalize (⟨(quoteL x s.data.toList).toArray⟩ : ByteArray) = qs at *
      clear hql hpf hlits hms hmt
      have hst : (s = t ∧ (s.toList == t.toList) = true) ∨ (¬ s = t ∧ (s.toList == t.toList) = false) := by
        by_cases h : s = t
        · exact Or.inl ⟨h, by rw [h]; exact beq_self_eq_true _⟩
        · exact Or.inr ⟨h, by rw [Lib.toList_data, Lib.toList_data, beq_eq_false_iff_ne]; exact fun e => h (by rw [← str_eta s, ← str_eta t, e])⟩
      rcases hst with ⟨h1, h2⟩ | ⟨h1, h2⟩
      · rw [decide_eq_true h1] at HM2
        clear h1
        go_enter Try.func6, Try.ntmps6
        go_wp2_with fail
        refine (awake9_any (w := _)).mono ?_
        rintro r w1 ⟨rfl, b1⟩
        go_wp2_with fail
        refine (HQ.out _).mono ?_
        rintro r w2 ⟨rfl, b2⟩
        have B2 := Lib.hid (below_below b1 b2 b1.size)
        clear b2
        go_wp2_with fail
        refine (HP.out _).mono ?_
        rintro r w3 ⟨A3, c3, rfl, h3, b3⟩
        have H3 := Lib.hid h3
        have B3 := Lib.hid (below_below B2.out b3 B2.out.size)
        clear h3 b3
        go_wp2_with fail
        refine (HM1.out _ _ _ _ _ H3.out).mono ?_
        rintro r w4 ⟨rfl, n4, rfl⟩
        go_wp2_with fail
        refine (HM2.out _ _ _ _ _ (H3.out.drewN _)).mono ?_
        rintro r w4 ⟨rfl, n5, rfl⟩
        go_wp2_with fail
        go_ret
        exact ⟨rfl, below_drewN' B3.out _⟩
      · rw [decide_eq_false h1] at HM2
        have h3 : ¬ s.toList = t.toList := by rw [← beq_iff_eq, h2]; simp
        clear h1
        go_enter Try.func6, Try.ntmps6
        go_wp2_with fail
        refine (awake9_any (w := _)).mono ?_
        rintro r w1 ⟨rfl, b1⟩
        go_wp2_with fail
        refine (HQ.out _).mono ?_
        rintro r w2 ⟨rfl, b2⟩
        have B2 := Lib.hid (below_below b1 b2 b1.size)
        clear b2
        go_wp2_with fail
        refine (HP.out _).mono ?_
        rintro r w3 ⟨A3, c3, rfl, h3, b3⟩
        have H3 := Lib.hid h3
        have B3 := Lib.hid (below_below B2.out b3 B2.out.size)
        clear h3 b3
        go_wp2_with fail
        refine (HM1.out _ _ _ _ _ H3.out).mono ?_
        rintro r w4 ⟨rfl, n4, rfl⟩
        go_wp2_with fail
        refine (HM2.out _ _ _ _ _ (H3.out.drewN _)).mono ?_
        rintro r w4 ⟨rfl, n5, rfl⟩
        go_wp2_with fail
        go_ret
        exact ⟨rfl, below_drewN' B3.out _⟩


set_option maxRecDepth 100000 in
theorem likeQuotes_lifted (os : Os) (started : os.Started) (H : Type) (enc : TypeId × Value → H) :
    ReturnsInHanded {} Try.checked os 6 .any (Rows.likeQuotesSpec.pre6 enc Try.prog Try.f6 Rows.likeQuotesRow.domain false) (Rows.likeQuotesSpec.post enc Try.prog Try.f6 false true false false) := by
  refine returnsInHanded_of_change (C := Try.checked) own started (by kernel_rfl) Try.func6
    (ChangeSpec.witness6 (enc := enc) (C := Try.checked) false ⟨#[], #[.string ByteArray.empty, .string ByteArray.empty, .int .u8 0], []⟩ 8 (by kernel_rfl) (by kernel_rfl) (by kernel_rfl) (by kernel_rfl)) ?_
  intro W base args ds gs before hval0 hW hcnd _
  have hval : ∀ (j : Nat) t v, Try.f6.params[j]? = some t → args[j]? = some v → Value.okWide Try.prog W .any base t v := hval0
  have hW' := hW
  obtain ⟨p, q, hA0, hV, rfl, hfz, hnd⟩ := hW
  have hA : DataW.TrodAll enc Try.prog W 0 (fun _ => true) true Try.f6.params.toList args.toList ds p := hA0
  have hA1 : DataW.TrodAll enc Try.prog W 0 (fun _ => true) true Try.f6.params.toList args.toList ds p := hA0
  rw [Try.params6] at hA hval
  obtain ⟨v0, vs0, d0, ds0, p0, q0, hargs, rfl, rfl, h0, r0⟩ := trodAll_cons hA
  obtain ⟨v1, vs1, d1, ds1, p1, q1, rfl, rfl, rfl, h1, r1⟩ := trodAll_cons r0
  obtain ⟨v2, vs2, d2, ds2, p2, q2, rfl, rfl, rfl, h2, r2⟩ := trodAll_cons r1
  obtain ⟨rfl, rfl, rfl⟩ := trodAll_nil r2
  obtain rfl : args = #[v0, v1, v2] := by cases args; simp_all
  obtain ⟨rfl, rfl⟩ := trodVars_none hV
  obtain ⟨a0, rfl, rfl, rfl, w0⟩ := open_string Try.underlying9 (hval 0 9 v0 rfl rfl) h0
  obtain ⟨a1, rfl, rfl, rfl, w1⟩ := open_string Try.underlying9 (hval 1 9 v1 rfl rfl) h1
  obtain ⟨a2, rfl, rfl, rfl, w2⟩ := open_int Try.underlying5 (hval 2 5 v2 rfl rfl) h2
  obtain ⟨b2, rfl⟩ := u8_of_wf w2
  clear hA0 hval0
  refine (likeQuotes_walk (w := W) a0 w0 a1 w1 b2).mono fun e W' ⟨he, bel⟩ => ?_
  subst he
  exact ⟨_, rfl, _, _, _, [], _, [], hW', trodAll_mk1 (shut_bool Try.underlying4 _), trodAll_below laidOut bel _ _ _ _ (by kernel_rfl) hA1, rfl, bel.frame _, fun h => by cases h⟩

theorem likeQuotes_over : Rows.likeQuotesRow.holds Try.pinned (OpenSpec.ofChange Rows.likeQuotesSpec) :=
  OpenClaim.holds_of_wide 6 Try.f6 rfl rfl rfl rfl rfl rfl rfl ⟨rfl, rfl, rfl, rfl, rfl⟩ rfl rfl rfl rfl rfl (by kernel_rfl) Try.func6 (by kernel_rfl)
    (of_decide_eq_true (by kernel_rfl)) (by unfold Func.isWrapper; first | (rw [if_pos (by decide +kernel)]; kernel_rfl) | (rw [if_neg (by decide +kernel)]; exact ⟨rfl, rfl⟩))
    (fun os started H enc _ => likeQuotes_lifted os started H enc)

/-- The statement. -/
theorem likeQuotes_proved : Rows.LikeQuotesSaid := likeQuotes_over


end Go.Proofs.Ytcpllbfpbhnjeaa
