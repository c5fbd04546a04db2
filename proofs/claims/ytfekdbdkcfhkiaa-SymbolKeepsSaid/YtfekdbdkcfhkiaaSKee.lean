/-
  Proved: SymbolKeeps of layer 10: of whatever few strings, what is written into Order's answer reaches neither the strings nor a later answer; what came in reads as it did. Conditions: none of our own.
-/
import Derived.Test.YtfekdbdkcfhkiaaLawS
import Derived.Test.YtfekdbdkcfhkiaaShellT
import Derived.Test.YtfekdbdkcfhkiaaShell
namespace Go.Proofs.Ytfekdbdkcfhkiaa
set_option linter.unusedSimpArgs false
set_option linter.unusedVariables false
open Go.ChangeShapes Go.WideShapes Go.ChangeAt Go.RowKit
open Go.ChangeMaps (open_string shut_string)

set_option maxRecDepth 20000 in
set_option maxHeartbeats 4000000 in
theorem symbolKeeps_walk {w : World} {A : Option Addr} {l : List ByteArray} {c : Nat} (h : Rd w 0 w.heap.size A c (sv l) ∧ ∀ s ∈ l, s.size ≤ maxLen) :
    Calls Try.prog 8 #[.slice A l.length c] w fun e w' => e = .returned (.bool true) ∧ Below w.heap.size w w' := by
  obtain ⟨h, -⟩ := h
  have H := Lib.hid h
  have hl := h.len
  have hm := h.cap
  rw [sv_length] at hl
  unfold maxLen at hm
  clear h
  by_cases hf : FewS l
  · obtain ⟨hl3, hl1, hl2, hz1, hz2⟩ := few_sizes hf
    have HFW : Hid (decide (FewS l) = true) := decide_eq_true hf
    have HZ1 := Lib.hid hz1
    have HZ2 := Lib.hid hz2
    clear hz1 hz2 hf
    obtain ⟨t, ht⟩ : ∃ t, ordL (bytL2 l) = t := ⟨_, rfl⟩
    obtain ⟨hr, htl, ht5, ht8, hto⟩ := ord_facts l ht
    have HT := Lib.hid ht
    have HTL := Lib.hid htl
    clear ht hr htl ht8 hto
    go_enter Try.func8, Try.ntmps8
    go_wp2_with fail
    refine (awake10_any (w := _)).mono ?_
    rintro r w1 ⟨rfl, b1⟩
    have B1 := Lib.hid b1
    have HL1 := Lib.hid ((H.out.below b1 (Nat.le_refl _)).wide (Nat.le_refl _) b1.size)
    have S1 := b1.size
    clear b1
    go_wp2_with fail
    refine (few_is l true HL1.out HFW.out).mono ?_
    rintro r w2 ⟨rfl, rfl⟩
    obtain ⟨A3, c3, w3, hrun, hown, hg3⟩ := append_strs (w1.alloc (.cells #[] 9)) w1.heap.size (.slice (some ⟨w1.heap.size, 0, none⟩) 0 0) [] l l (List.nil_append l) (own_empty w1) (HL1.out.alloc (Nat.le_refl _) _) (by simp; omega) (by simp)
    have hb3 : Below w.heap.size w w3 := (B1.out.alloc S1 _).grown hg3 (by simp; omega) (by simp [Value.ownBlock]; omega)
    have hb13 : Below w1.heap.size w1 w3 := ((Below.refl _ w1).alloc (Nat.le_refl _) _).grown hg3 (by simp) (by simp [Value.ownBlock])
    have HW3 := Lib.hid (Rd.of_own hown)
    have HL3 := Lib.hid ((HL1.out.below hb13 (Nat.le_refl _)).wide (Nat.le_refl _) hb13.size)
    have B3 := Lib.hid hb3
    have S3 := hb3.size
    clear hown hg3 hb3 hb13 HL1
    go_wp2_with (at_builtin; refine wpList_append_run rfl _ _ _ _ rfl rfl rfl hrun ?_)
    clear hrun
    refine (sorder_is l t HL3.out hl2 HZ2.out HT.out rfl).mono ?_
    rintro r w4 ⟨A4, c4, rfl, ho4, b4⟩
    have HO4 := Lib.hid ho4
    have HLO := Lib.hid (fun k => own_lt (k := k) ho4)
    have HW4 := Lib.hid (HW3.out.below b4 (Nat.le_refl _))
    have HL4 := Lib.hid (HL3.out.below b4 (Nat.le_refl _))
    have B4 := Lib.hid (below_below B3.out b4 S3)
    have S34 := b4.size
    have S4 := B4.out.size
    clear ho4 b4 HW3 HL3
    go_wp2_with fail
    go_loopw [5] (fun i wq => ∃ (k : Nat) (xs : List Value), k ≤ t.length ∧ i = .int .i64 (k : Int) ∧ wq.ownsRow w3.heap.size 9 1 (.slice A4 t.length c4) t.length xs ∧ w4.grownBy wq (Value.ownBlock (.slice A4 t.length c4))) (fun i _ => t.length - (intOf i).toNat)
    case atStart => exact ⟨0, _, Nat.zero_le _, rfl, HO4.out, gb_refl _ _⟩
    case round =>
      obtain ⟨k, xs, hk, rfl, hown, hgr⟩ := hrel
      have HG := Lib.hid hgr
      clear hgr
      by_cases hlt : k < t.length
      · obtain ⟨go, rfl, hgo, hgo2⟩ := own_spot hown (by omega)
        have hxl : xs.length = t.length := by simpa using hown.1
        obtain ⟨u0, hu0⟩ : ∃ u0, xs[k]? = some u0 := ⟨_, List.getElem?_eq_getElem (by omega)⟩
        have hcell : wr.cell? ⟨go, k, none⟩ = some u0 := by rw [hown.cellAt k (by omega), hu0]
        have hfr := hown.frozenAt k
        have HS := fun u => Lib.hid (hown.stored k u)
        clear hown hxl hu0
        go_wp2
        go_roundw
        case rel => exact ⟨k + 1, _, by omega, by go_num, (HS _).out.1, HG.out.trans (HS _).out.2⟩
        case measure => simp [intOf]; omega
      · clear hown
        have hlx : ∀ i, Value.ownBlock (.slice A4 t.length c4) = some i → w3.heap.size ≤ i ∧ i < w4.heap.size := HLO.out
        have B5 := Lib.hid (B4.out.grown HG.out S4 (fun i hi => by have := hlx i hi; omega))
        have S5 := B5.out.size
        have S45 := HG.out.size
        have HW5 := Lib.hid (HW4.out.grown HG.out S34 (fun i hi => by have := hlx i hi; omega))
        have HL5 := Lib.hid (HL4.out.grown HG.out S34 (fun i hi => by have := hlx i hi; omega))
        clear hlx HG HW4 HL4
        obtain ⟨w5, hw5⟩ : ∃ w5, w5 = wr := ⟨_, rfl⟩
        subst hw5
        go_wp2_with fail
        refine (same_strs_len l l true HL5.out HW5.out rfl rfl (decide_eq_true rfl)).mono ?_
        rintro r w6 ⟨rfl, m6, rfl⟩
        have HW6 : Hid (Rd (w5.drewN m6) 0 w5.heap.size A3 c3 (sv l)) := (HW5.out.drewN m6).wide (Nat.zero_le _) (by omega)
        have HL6 : Hid (Rd (w5.drewN m6) 0 (w5.drewN m6).heap.size A c (sv l)) := (HL5.out.drewN m6).wide (Nat.le_refl _) (by show w3.heap.size ≤ w5.heap.size; omega)
        have B6 : Hid (Below w.heap.size w (w5.drewN m6)) := below_drewN' B5.out m6
        have hz6 : w5.heap.size = (w5.drewN m6).heap.size := rfl
        have HZ6 := Lib.hid hz6
        have S6 := B6.out.size
        clear HW5 HL5 hz6
        generalize w5.drewN m6 = w7 at *
        rw [HZ6.out] at HW6
        go_wp2_with fail
        refine (sorder_is l t HL6.out hl2 HZ2.out HT.out rfl).mono ?_
        rintro r w8 ⟨A8, c8, rfl, ho8, b8⟩
        have HO8 := Lib.hid (Rd.of_own ho8)
        have HW8 := Lib.hid ((HW6.out.below b8 (Nat.le_refl _)).wide (Nat.le_refl _) b8.size)
        have B8 := Lib.hid (below_below B6.out b8 S6)
        have S8 := B8.out.size
        clear ho8 b8 HW6 HL6
        go_wp2_with fail
        refine (reforder_is l t HW8.out HZ1.out hl1 HT.out rfl).mono ?_
        rintro r w9 ⟨A9, c9, rfl, ho9, b9⟩
        have HO9 := Lib.hid (Rd.of_own ho9)
        have HO89 := Lib.hid (HO8.out.below b9 (Nat.le_refl _))
        have B9 := Lib.hid (below_below B8.out b9 S8)
        clear ho9 b9
        go_wp2_with fail
        refine (same_strs_len (strsL t) (strsL t) true HO89.out HO9.out HTL.out HTL.out (decide_eq_true rfl)).mono ?_
        rintro r w10 ⟨rfl, m10, rfl⟩
        go_wp2_with fail
        go_ret
        exact ⟨rfl, below_drewN' B9.out m10⟩
  · have HNF : Hid (decide (FewS l) = false) := decide_eq_false hf
    clear hf
    go_enter Try.func8, Try.ntmps8
    go_wp2_with fail
    refine (awake10_any (w := _)).mono ?_
    rintro r w1 ⟨rfl, b1⟩
    go_wp2_with fail
    refine (few_is l false (H.out.below b1 (Nat.le_refl _)) HNF.out).mono ?_
    rintro r w2 ⟨rfl, rfl⟩
    go_wp2_with fail
    refine (awake10_any (w := _)).mono ?_
    rintro r w3 ⟨rfl, b3⟩
    go_wp2_with fail
    go_ret
    exact ⟨rfl, below_below b1 b3 b1.size⟩


set_option maxRecDepth 100000 in
theorem symbolKeeps_lifted (os : Os) (started : os.Started) (H : Type) (enc : TypeId × Value → H) :
    ReturnsInHanded {} Try.checked os 8 .any (Rows.symbolKeepsSpec.pre6 enc Try.prog Try.f8 Rows.symbolKeepsRow.domain false) (Rows.symbolKeepsSpec.post enc Try.prog Try.f8 false true false false) := by
  refine returnsInHanded_of_change (C := Try.checked) own started (by kernel_rfl) Try.func8
    (ChangeSpec.witness6 (enc := enc) (C := Try.checked) false ⟨#[], #[.slice none 0 0], []⟩ 8 (by kernel_rfl) (by kernel_rfl) (by kernel_rfl) (by kernel_rfl)) ?_
  intro W base args ds gs before hval0 hW hcnd _
  have hval : ∀ (j : Nat) t v, Try.f8.params[j]? = some t → args[j]? = some v → Value.okWide Try.prog W .any base t v := hval0
  have hW' := hW
  obtain ⟨p, q, hA0, hV, rfl, hfz, hnd⟩ := hW
  have hA : DataW.TrodAll enc Try.prog W 0 (fun _ => true) true Try.f8.params.toList args.toList ds p := hA0
  have hA1 : DataW.TrodAll enc Try.prog W 0 (fun _ => true) true Try.f8.params.toList args.toList ds p := hA0
  rw [Try.params8] at hA hval
  obtain ⟨v0, vs0, d0, ds0, p0, q0, hargs, rfl, rfl, h0, r0⟩ := trodAll_cons hA
  obtain ⟨rfl, rfl, rfl⟩ := trodAll_nil r0
  obtain rfl : args = #[v0] := by cases args; simp_all
  obtain ⟨rfl, rfl⟩ := trodVars_none hV
  obtain ⟨A0, a0, c0, rfl, w0⟩ := open_strs Try.underlying22 Try.underlying9 (by kernel_rfl) (hval 0 22 v0 rfl rfl) h0
  clear hA0 hval0
  refine (symbolKeeps_walk (w := W) w0).mono fun e W' ⟨he, bel⟩ => ?_
  subst he
  exact ⟨_, rfl, _, _, _, [], _, [], hW', trodAll_mk1 (shut_bool Try.underlying4 _), trodAll_below laidOut bel _ _ _ _ (by kernel_rfl) hA1, rfl, bel.frame _, fun h => by cases h⟩

theorem symbolKeeps_over : Rows.symbolKeepsRow.holds Try.pinned (OpenSpec.ofChange Rows.symbolKeepsSpec) :=
  OpenClaim.holds_of_wide 8 Try.f8 rfl rfl rfl rfl rfl rfl rfl ⟨rfl, rfl, rfl, rfl, rfl⟩ rfl rfl rfl rfl rfl (by kernel_rfl) Try.func8 (by kernel_rfl)
    (of_decide_eq_true (by kernel_rfl)) (by unfold Func.isWrapper; first | (rw [if_pos (by decide +kernel)]; kernel_rfl) | (rw [if_neg (by decide +kernel)]; exact ⟨rfl, rfl⟩))
    (fun os started H enc _ => symbolKeeps_lifted os started H enc)

/-- The statement. -/
theorem symbolKeeps_proved : Rows.SymbolKeepsSaid := symbolKeeps_over


end Go.Proofs.Ytfekdbdkcfhkiaa
