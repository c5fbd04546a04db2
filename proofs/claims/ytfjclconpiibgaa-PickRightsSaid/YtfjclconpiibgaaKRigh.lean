/-
  Proved: PickRights returns true for every list of whole numbers and every number, and leaves what was there as it was. No condition.
-/
import Derived.Test.YtfjclconpiibgaaLawK
import Derived.Test.YtfjclconpiibgaaShellN
namespace Go.Proofs.Ytfjclconpiibgaa
set_option linter.unusedSimpArgs false
set_option linter.unusedVariables false
open Go.ChangeShapes Go.WideShapes Go.ChangeAt Go.RowKit

/-- what is known when k of the numbers are looked at -/
def Seen (zs : List Int) (n : Int) (k : Nat) (ok : Bool) : Prop :=
  if ok = true then ∃ last, -1 ≤ last ∧ rightL n last (zs.drop k) = rightL n (-1) zs ∧ (k = 0 → last = -1) ∧ ∀ (h : k - 1 < zs.length), 0 < k → last = zs[k - 1] else rightL n (-1) zs = false
theorem seen_zero (zs : List Int) (n : Int) : Seen zs n 0 true := by
  unfold Seen
  rw [if_pos rfl]
  exact ⟨-1, by omega, by rw [List.drop_zero], fun _ => rfl, fun _ h => absurd h (Nat.lt_irrefl 0)⟩
theorem seen_bad {zs : List Int} {n : Int} {k : Nat} {ok : Bool} (h : Seen zs n k ok) (hk : k < zs.length) (hb : zs[k] < 0 ∨ n ≤ zs[k] ∨ (0 < k ∧ zs[k] ≤ zs[k - 1])) : Seen zs n (k + 1) false := by
  unfold Seen at h ⊢
  rw [if_neg (by simp)]
  split at h
  · obtain ⟨last, h1, h2, h3, h4⟩ := h
    rw [List.drop_eq_getElem_cons hk, rightL, if_pos] at h2
    · exact h2.symm
    · rcases hb with hb | hb | ⟨hb, hb2⟩
      · left
        omega
      · exact .inr hb
      · left
        rw [h4 (by omega) hb]
        exact hb2
  · exact h
theorem seen_good {zs : List Int} {n : Int} {k : Nat} {ok : Bool} (h : Seen zs n k ok) (hk : k < zs.length) (h0 : 0 ≤ zs[k]) (hn : zs[k] < n) (hb : 0 < k → zs[k - 1] < zs[k]) : Seen zs n (k + 1) ok := by
  unfold Seen at h ⊢
  split at h
  · rename_i ht
    rw [if_pos ht]
    obtain ⟨last, h1, h2, h3, h4⟩ := h
    refine ⟨zs[k], by omega, ?_, by omega, fun _ _ => rfl⟩
    rw [List.drop_eq_getElem_cons hk, rightL, if_neg] at h2
    · exact h2
    · rintro (hl | hl)
      · rcases Nat.eq_zero_or_pos k with hk0 | hk0
        · have := h3 hk0
          omega
        · have e1 := h4 (by omega) hk0
          have e2 := hb hk0
          omega
      · omega
  · rename_i ht
    rw [if_neg ht]
    exact h
theorem seen_all {zs : List Int} {n : Int} {ok : Bool} (h : Seen zs n zs.length ok) : rightL n (-1) zs = ok := by
  unfold Seen at h
  split at h
  · rename_i ht
    obtain ⟨last, h1, h2, _⟩ := h
    rw [List.drop_length, rightL] at h2
    rw [ht, ← h2]
  · rename_i ht
    rw [h]
    exact (Bool.eq_false_iff.2 ht).symm

set_option maxRecDepth 20000 in
set_option maxHeartbeats 400000 in
theorem pickRights_walk {w : World} {A : Option Addr} {zs : List Int} {c : Nat} (h0 : Rd w 0 w.heap.size A c (iv zs) ∧ Word zs) (n : Int) (hn : (Lit.int .i64 n).wf = true) :
    Calls Try.prog 3 #[.slice A zs.length c, .int .i64 n] w fun e w' => e = .returned (.bool true) ∧ Below w.heap.size w w' := by
  obtain ⟨h, hw⟩ := h0
  have hl := h.len
  have hc := h.cap
  rw [iv_length] at hl
  unfold maxLen at hc
  have H := Lib.hid h
  clear h hn hw
  by_cases h300 : zs.length ≤ 300
  · go_enter Try.func3, Try.ntmps3
    go_wp2_with fail
    refine (awake5_any _).mono ?_
    rintro r w1 ⟨rfl, hb1⟩
    have H1 := Lib.hid (H.out.below hb1 (Nat.le_refl _))
    have K1 := Lib.hid hb1
    clear hb1 H
    go_wp2_with fail
    go_loopw [5, 6] (fun o i wr => ∃ (k q : Nat) (ok : Bool), k ≤ zs.length ∧ i = .int .i64 (k : Int) ∧ o = .bool ok ∧ Seen zs n k ok ∧ w1.drewN q = wr) (fun _ i _ => zs.length - (intOf i).toNat)
    case atStart => exact ⟨0, 0, true, Nat.zero_le _, rfl, rfl, seen_zero _ _, rfl⟩
    case round =>
      obtain ⟨k, q, ok, hk, rfl, rfl, hs, rfl⟩ := hrel
      have HS := Lib.hid hs
      clear hs
      by_cases hlt : k < zs.length
      · obtain ⟨b, off, rfl, _, _, hcell⟩ := H1.out.num hlt
        have HBad := Lib.hid (seen_bad HS.out hlt)
        have HGood := Lib.hid (seen_good HS.out hlt)
        have hcell1 : ∀ hk1 : k - 1 < zs.length, w1.cell? ⟨b, off + (k - 1), none⟩ = some (.int .i64 zs[k - 1]) := by
          intro hk1
          obtain ⟨b', off', e, _, _, hc1⟩ := H1.out.num hk1
          cases e
          exact hc1
        have hcell1 := hcell1 (by omega)
        generalize zs[k] = z at *
        generalize zs[k - 1] = p at *
        by_cases hz0 : z < 0
        · have HN := Lib.hid (HBad.out (.inl hz0))
          go_wp2_with fail
          go_quiet (fail)
          go_wp2
          go_roundw
          case rel => exact ⟨k + 1, _, false, by omega, by go_num, rfl, HN.out, rfl⟩
          case measure => simp [intOf]; omega
        · have hd0 : decide (z < 0) = false := decide_eq_false hz0
          by_cases hzn : n ≤ z
          · have hdn : decide (n ≤ z) = true := decide_eq_true hzn
            have HN := Lib.hid (HBad.out (.inr (.inl hzn)))
            go_wp2_with fail
            go_quiet (fail)
            go_wp2
            go_roundw
            case rel => exact ⟨k + 1, _, false, by omega, by go_num, rfl, HN.out, rfl⟩
            case measure => simp [intOf]; omega
          · have hdn : decide (n ≤ z) = false := decide_eq_false hzn
            by_cases hk0 : 0 < k
            · have hdk : decide (0 < k) = true := decide_eq_true hk0
              by_cases hpz : z ≤ p
              · have hdp : decide (z ≤ p) = true := decide_eq_true hpz
                have HN := Lib.hid (HBad.out (.inr (.inr ⟨hk0, hpz⟩)))
                go_wp2_with fail
                go_quiet (fail)
                go_wp2
                go_roundw
                case rel => exact ⟨k + 1, _, false, by omega, by go_num, rfl, HN.out, rfl⟩
                case measure => simp [intOf]; omega
              · have hdp : decide (z ≤ p) = false := decide_eq_false hpz
                have HN := Lib.hid (HGood.out (by omega) (by omega) (fun _ => by omega))
                go_wp2_with fail
                go_quiet (fail)
                go_wp2
                go_roundw
                case rel => exact ⟨k + 1, _, ok, by omega, by go_num, rfl, HN.out, rfl⟩
                case measure => simp [intOf]; omega
            · have hdk : decide (0 < k) = false := decide_eq_false hk0
              have HN := Lib.hid (HGood.out (by omega) (by omega) (fun h => absurd h hk0))
              go_wp2_with fail
              go_quiet (fail)
              go_wp2
              go_roundw
              case rel => exact ⟨k + 1, _, ok, by omega, by go_num, rfl, HN.out, rfl⟩
              case measure => simp [intOf]; omega
      · obtain rfl : k = zs.length := by omega
        have HR := Lib.hid (right_any (w := w1.drewN q) zs n ok (seen_all HS.out) (H1.out.drewN q))
        go_wp2_with fail
        refine HR.out.mono ?_
        rintro r w' ⟨rfl, rfl⟩
        go_wp2
        go_ret
        exact ⟨rfl, below_drewN' K1.out q⟩
  · clear H
    go_enter Try.func3, Try.ntmps3
    go_wp2_with fail
    refine (awake5_any _).mono ?_
    rintro r w1 ⟨rfl, hb1⟩
    have HB1 := Lib.hid hb1
    clear hb1
    go_wp2_with fail
    refine (awake5_any _).mono ?_
    rintro r w2 ⟨rfl, hb2⟩
    have HB2 := Lib.hid hb2
    clear hb2
    go_wp2
    go_ret
    exact ⟨rfl, below_below HB1.out HB2.out HB1.out.size⟩


set_option maxRecDepth 100000 in
theorem pickRights_lifted (os : Os) (started : os.Started) (H : Type) (enc : TypeId × Value → H) :
    ReturnsInHanded {} Try.checked os 3 .any (Rows.pickRightsSpec.pre6 enc Try.prog Try.f3 Rows.pickRightsRow.domain false) (Rows.pickRightsSpec.post enc Try.prog Try.f3 false true false false) := by
  refine returnsInHanded_of_change (C := Try.checked) own started (by kernel_rfl) Try.func3
    (ChangeSpec.witness6 (enc := enc) (C := Try.checked) false ⟨#[], #[.slice none 0 0, .int .i64 0], []⟩ 8 (by kernel_rfl) (by kernel_rfl) (by kernel_rfl) (by kernel_rfl)) ?_
  intro W base args ds gs before hval0 hW hcnd _
  have hval : ∀ (j : Nat) t v, Try.f3.params[j]? = some t → args[j]? = some v → Value.okWide Try.prog W .any base t v := hval0
  have hW' := hW
  obtain ⟨p, q, hA0, hV, rfl, hfz, hnd⟩ := hW
  have hA : DataW.TrodAll enc Try.prog W 0 (fun _ => true) true Try.f3.params.toList args.toList ds p := hA0
  have hA1 : DataW.TrodAll enc Try.prog W 0 (fun _ => true) true Try.f3.params.toList args.toList ds p := hA0
  rw [Try.params3] at hA hval
  obtain ⟨v0, vs0, d0, ds0, p0, q0, hargs, rfl, rfl, h0, r0⟩ := trodAll_cons hA
  obtain ⟨v1, vs1, d1, ds1, p1, q1, rfl, rfl, rfl, h1, r1⟩ := trodAll_cons r0
  obtain ⟨rfl, rfl, rfl⟩ := trodAll_nil r1
  obtain rfl : args = #[v0, v1] := by cases args; simp_all
  obtain ⟨rfl, rfl⟩ := trodVars_none hV
  obtain ⟨A0, a0, c0, rfl, w0⟩ := open_i64s Try.underlying22 Try.underlying3 (by kernel_rfl) (hval 0 22 v0 rfl rfl) h0
  obtain ⟨a1, rfl, rfl, rfl, w1⟩ := open_int Try.underlying3 (hval 1 3 v1 rfl rfl) h1
  clear hA0 hval0
  refine (pickRights_walk (w := W) w0 a1 w1).mono fun e W' ⟨he, bel⟩ => ?_
  subst he
  exact ⟨_, rfl, _, _, _, [], _, [], hW', trodAll_mk1 (shut_bool Try.underlying4 _), trodAll_below laidOut bel _ _ _ _ (by kernel_rfl) hA1, rfl, bel.frame _, fun h => by cases h⟩

theorem pickRights_over : Rows.pickRightsRow.holds Try.pinned (OpenSpec.ofChange Rows.pickRightsSpec) :=
  OpenClaim.holds_of_wide 3 Try.f3 rfl rfl rfl rfl rfl rfl rfl ⟨rfl, rfl, rfl, rfl, rfl⟩ rfl rfl rfl rfl rfl (by kernel_rfl) Try.func3 (by kernel_rfl)
    (of_decide_eq_true (by kernel_rfl)) (by unfold Func.isWrapper; first | (rw [if_pos (by decide +kernel)]; kernel_rfl) | (rw [if_neg (by decide +kernel)]; exact ⟨rfl, rfl⟩))
    (fun os started H enc _ => pickRights_lifted os started H enc)

/-- The statement. -/
theorem pickRights_proved : Rows.PickRightsSaid := pickRights_over


end Go.Proofs.Ytfjclconpiibgaa
