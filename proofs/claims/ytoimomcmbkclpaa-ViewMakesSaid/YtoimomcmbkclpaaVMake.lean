/-
  Proved: ViewMakes returns true for every string and every two whole numbers, and leaves what was there as it was. No condition.
-/
import Derived.Test.YtoimomcmbkclpaaVMakA
import Derived.Test.YtoimomcmbkclpaaShell
namespace Go.Proofs.Ytoimomcmbkclpaa
set_option linter.unusedSimpArgs false
set_option linter.unusedVariables false
open Go.ChangeShapes Go.WideShapes Go.ChangeAt Go.RowKit
open Go.ChangeMaps (open_string shut_string)

set_option maxRecDepth 20000 in
set_option maxHeartbeats 1000000 in
theorem viewMakes_wrong {w : World} (s : ByteArray) (hs : 12 < s.size) (hs5 : s.size ≤ 5000) (b p : Int) (hm : 4096 < s.size ∨ ¬ mayL b p) :
    Calls Try.prog 3 #[.string s, .int .i64 b, .int .i64 p] w fun e w' => e = .returned (.bool true) ∧ Below w.heap.size w w' := by
  obtain ⟨hz, _⟩ := zero_of_info Try.infoV
  have h1 : ∀ w0, Calls Try.prog 7 #[.string s, .int .i64 b, .int .i64 p] w0 fun r w' => r = .returned (.tuple #[.agg (vb zero16), .int .i64 1]) ∧ Below w0.heap.size w0 w' := fun w0 => by
    rcases Nat.lt_or_ge 4096 s.size with h3 | h3
    · exact make_great s b p h3 (by omega)
    · exact make_wrong s b p hs h3 (by rcases hm with h | h; omega; exact h)
  have heq : ∀ w0, (Op.equalIn 10000 23 (.agg (vb zero16)) (.agg (vb zero16))).run Try.prog w0 = .ok true w0 := fun w0 => by
    rw [run_eqV w0 zero16 zero16 rfl rfl, decide_eq_true rfl]
  have hguard := guardV
  unfold mayL at hm
  have H1 := Lib.hid h1
  clear h1
  go_enter Try.func3, Try.ntmps3
  go_wp2_with fail
  refine (awake6_any _).mono ?_
  rintro r w1 ⟨rfl, hb1⟩
  have HB1 := Lib.hid hb1
  clear hb1
  go_wp2_with fail
  refine (H1.out _).mono ?_
  rintro r w2 ⟨rfl, hb2⟩
  have HB2 := Lib.hid (below_below HB1.out hb2 HB1.out.size)
  have hq := Blk.new w2 23 (vb zero16)
  have hk : Below w.heap.size w (w2.alloc (.cells (vb zero16) 23)) := HB2.out.alloc HB2.out.size _
  have hq3 := setRowV_blk hq (vb zero16)
  have hk3 := setRowV_below hk hk.size HB2.out.size (vb zero16)
  have HQ := Lib.hid hq
  have HQ3 := Lib.hid hq3
  have HK3 := Lib.hid hk3
  clear hb2 hq hk hq3 hk3
  go_wp2_with (refine wpList_storeV HQ.out zero16_length zero16_length rfl _ _ rfl rfl rfl ?_; refine held ?_)
  refine ⟨?_⟩
  generalize (w2.alloc (.cells (vb zero16) 23)).setRow w2.heap.size (vb zero16) = w3 at *
  generalize w2.heap.size = g at *
  clear HQ HB2
  have hc : 4096 < s.size ∨ (s.size ≤ 4096 ∧ b < 0) ∨ (s.size ≤ 4096 ∧ 0 ≤ b ∧ 65535 < b) ∨ (s.size ≤ 4096 ∧ 0 ≤ b ∧ b ≤ 65535 ∧ p < 0) ∨ (s.size ≤ 4096 ∧ 0 ≤ b ∧ b ≤ 65535 ∧ 0 ≤ p ∧ 65536 < p) := by omega
  clear hm
  rcases hc with hc | ⟨hc, h1⟩ | ⟨hc, h1, h2⟩ | ⟨hc, h1, h2, h3⟩ | ⟨hc, h1, h2, h3, h4⟩
  all_goals
    go_wp2_with (refine wpList_loadG HQ3.out zero16_length (by first | rfl | (go_simp; done)) _ rfl rfl ?_)
    go_ret
    exact ⟨rfl, HK3.out⟩

set_option maxRecDepth 20000 in
theorem viewMakes_great {w : World} (s : ByteArray) (hs : 5000 < s.size) (b p : Int) :
    Calls Try.prog 3 #[.string s, .int .i64 b, .int .i64 p] w fun e w' => e = .returned (.bool true) ∧ Below w.heap.size w w' := by
  go_enter Try.func3, Try.ntmps3
  go_wp2_with fail
  refine (awake6_any _).mono ?_
  rintro r w1 ⟨rfl, hb1⟩
  have HB1 := Lib.hid hb1
  clear hb1
  go_wp2_with fail
  refine (awake6_any _).mono ?_
  rintro r w2 ⟨rfl, hb2⟩
  have HB2 := Lib.hid (below_below HB1.out hb2 HB1.out.size)
  clear hb2
  go_wp2
  go_ret
  exact ⟨rfl, HB2.out⟩

theorem viewMakes_walk {w : World} (s : ByteArray) (hs : s.size ≤ maxLen) (b : Int) (hb : (Lit.int .i64 b).wf = true) (p : Int) (hp : (Lit.int .i64 p).wf = true) :
    Calls Try.prog 3 #[.string s, .int .i64 b, .int .i64 p] w fun e w' => e = .returned (.bool true) ∧ Below w.heap.size w w' := by
  rcases Nat.lt_or_ge 5000 s.size with h5 | h5
  · exact viewMakes_great s h5 b p
  · rcases Nat.lt_or_ge 12 s.size with h12 | h12
    · by_cases hm : s.size ≤ 4096 ∧ mayL b p
      · have h3 := hm.2
        unfold mayL at h3
        obtain ⟨bn, rfl⟩ := Int.eq_ofNat_of_zero_le h3.1
        obtain ⟨pn, rfl⟩ := Int.eq_ofNat_of_zero_le h3.2.2.1
        exact viewMakes_long s h12 hm.1 bn pn (by omega) (by omega)
      · refine viewMakes_wrong s h12 h5 b p ?_
        rcases Nat.lt_or_ge 4096 s.size with h4 | h4
        · exact .inl h4
        · exact .inr (fun h => hm ⟨h4, h⟩)
    · exact viewMakes_short s h12 b p


set_option maxRecDepth 100000 in
theorem viewMakes_lifted (os : Os) (started : os.Started) (H : Type) (enc : TypeId × Value → H) :
    ReturnsInHanded {} Try.checked os 3 .any (Rows.viewMakesSpec.pre6 enc Try.prog Try.f3 Rows.viewMakesRow.domain false) (Rows.viewMakesSpec.post enc Try.prog Try.f3 false true false false) := by
  refine returnsInHanded_of_change (C := Try.checked) own started (by kernel_rfl) Try.func3
    (ChangeSpec.witness6 (enc := enc) (C := Try.checked) false ⟨#[], #[.string ByteArray.empty, .int .i64 0, .int .i64 0], []⟩ 8 (by kernel_rfl) (by kernel_rfl) (by kernel_rfl) (by kernel_rfl)) ?_
  intro W base args ds gs before hval0 hW hcnd _
  have hval : ∀ (j : Nat) t v, Try.f3.params[j]? = some t → args[j]? = some v → Value.okWide Try.prog W .any base t v := hval0
  have hW' := hW
  obtain ⟨p, q, hA0, hV, rfl, hfz, hnd⟩ := hW
  have hA : DataW.TrodAll enc Try.prog W 0 (fun _ => true) true Try.f3.params.toList args.toList ds p := hA0
  have hA1 : DataW.TrodAll enc Try.prog W 0 (fun _ => true) true Try.f3.params.toList args.toList ds p := hA0
  rw [Try.params3] at hA hval
  obtain ⟨v0, vs0, d0, ds0, p0, q0, hargs, rfl, rfl, h0, r0⟩ := trodAll_cons hA
  obtain ⟨v1, vs1, d1, ds1, p1, q1, rfl, rfl, rfl, h1, r1⟩ := trodAll_cons r0
  obtain ⟨v2, vs2, d2, ds2, p2, q2, rfl, rfl, rfl, h2, r2⟩ := trodAll_cons r1
  obtain ⟨rfl, rfl, rfl⟩ := trodAll_nil r2
  obtain rfl : args = #[v0, v1, v2] := by cases args; simp_all
  obtain ⟨rfl, rfl⟩ := trodVars_none hV
  obtain ⟨a0, rfl, rfl, rfl, w0⟩ := open_string Try.underlying9 (hval 0 9 v0 rfl rfl) h0
  obtain ⟨a1, rfl, rfl, rfl, w1⟩ := open_int Try.underlying3 (hval 1 3 v1 rfl rfl) h1
  obtain ⟨a2, rfl, rfl, rfl, w2⟩ := open_int Try.underlying3 (hval 2 3 v2 rfl rfl) h2
  clear hA0 hval0
  refine (viewMakes_walk (w := W) a0 w0 a1 w1 a2 w2).mono fun e W' ⟨he, bel⟩ => ?_
  subst he
  exact ⟨_, rfl, _, _, _, [], _, [], hW', trodAll_mk1 (shut_bool Try.underlying4 _), trodAll_below laidOut bel _ _ _ _ (by kernel_rfl) hA1, rfl, bel.frame _, fun h => by cases h⟩

theorem viewMakes_over : Rows.viewMakesRow.holds Try.pinned (OpenSpec.ofChange Rows.viewMakesSpec) :=
  OpenClaim.holds_of_wide 3 Try.f3 rfl rfl rfl rfl rfl rfl rfl ⟨rfl, rfl, rfl, rfl, rfl⟩ rfl rfl rfl rfl rfl (by kernel_rfl) Try.func3 (by kernel_rfl)
    (of_decide_eq_true (by kernel_rfl)) (by unfold Func.isWrapper; first | (rw [if_pos (by decide +kernel)]; kernel_rfl) | (rw [if_neg (by decide +kernel)]; exact ⟨rfl, rfl⟩))
    (fun os started H enc _ => viewMakes_lifted os started H enc)

/-- The statement. -/
theorem viewMakes_proved : Rows.ViewMakesSaid := viewMakes_over


end Go.Proofs.Ytoimomcmbkclpaa
