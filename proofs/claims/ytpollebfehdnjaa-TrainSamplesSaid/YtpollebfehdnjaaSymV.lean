/-
  The document's Right of layer 10.
-/
import Derived.Test.YtpollebfehdnjaaMgS
namespace Go.Proofs.Ytpollebfehdnjaa
set_option linter.unusedSimpArgs false
set_option linter.unusedVariables false
open Go.RowKit

set_option maxRecDepth 20000 in
set_option maxHeartbeats 2000000 in
theorem refRightT_any {w : World} (l : List ByteArray) {lo hi c : Nat} {A : Option Addr} (h : Rd w lo hi A c (sv l)) (h1k : ∀ s ∈ l, s.size ≤ 100000) :
    Calls Try.prog 20 #[.slice A l.length c] w fun r w' => r = .returned (.bool (rightT (bytL2 l))) ∧ ∃ m, w' = w.drewN m := by
  have hl := h.len
  have hm := h.cap
  rw [sv_length] at hl
  unfold maxLen at hm
  have H := Lib.hid h
  have H1 : Hid (∀ k (hk : k < l.length), l[k].size ≤ 100000) := fun k hk => h1k _ (List.getElem_mem hk)
  clear h h1k
  obtain ⟨v, hv⟩ : ∃ v, rightT (bytL2 l) = v := ⟨_, rfl⟩
  rw [hv]
  have HOK : Hid (∀ k (hk : k < l.length), okS l[k].data.toList = false → v = false) := fun k hk h => by
    cases hvv : v with
    | false => rfl
    | true =>
      rw [hvv] at hv
      have := (rightT_iff.1 hv).2.1 _ (List.getElem_mem (l := bytL2 l) (n := k) (by rw [bytL2_length]; exact hk))
      rw [bytL2_get l k hk, h] at this
      cases this
  have HRI : Hid (∀ k (hk : k + 1 < l.length), ¬ cmpL l[k].data.toList l[k + 1].data.toList < 0 → v = false) := fun k hk h => by
    cases hvv : v with
    | false => rfl
    | true =>
      rw [hvv] at hv
      have := rises_adj (rightT_iff.1 hv).2.2 (k := k) (by rw [bytL2_length]; exact hk)
      rw [bytL2_get l k (by omega), bytL2_get l (k + 1) hk] at this
      exact absurd this h
  have HFI : Hid (l.length ≤ 255 → (∀ k (hk : k < l.length), okS l[k].data.toList = true) → risesL ((bytL2 l).take l.length) = true → v = true) := fun h2 h3 h4 => by
    rw [← hv, rightT_iff]
    refine ⟨by rw [bytL2_length]; exact h2, fun s hs => ?_, ?_⟩
    · obtain ⟨k, hk, rfl⟩ := List.getElem_of_mem hs
      rw [bytL2_length] at hk
      rw [bytL2_get l k hk]
      exact h3 k hk
    · rw [List.take_of_length_le (by rw [bytL2_length]; exact Nat.le_refl _)] at h4
      exact h4
  have HLO : Hid (255 < l.length → v = false) := fun h => by
    cases hvv : v with
    | false => rfl
    | true =>
      rw [hvv] at hv
      have := (rightT_iff.1 hv).1
      rw [bytL2_length] at this
      omega
  clear hv
  by_cases h255 : 255 < l.length
  · have i255 : (255 : Int) < (l.length : Int) := by omega
    have HV := Lib.hid (HLO.out h255)
    go_enter Try.func20, Try.ntmps20
    go_wp2_with fail
    go_ret
    exact ⟨ret_bool HV.out.symm, 0, rfl⟩
  · have i255 : ¬ (255 : Int) < (l.length : Int) := by omega
    have hl5 : l.length ≤ 255 := by omega
    go_enter Try.func20, Try.ntmps20
    go_wp2_with fail
    go_loopw [3] (fun i wr => ∃ k m : Nat, k ≤ l.length ∧ i = .int .i64 (k : Int) ∧ (∀ j (hj : j < l.length), j < k → okS l[j].data.toList = true) ∧ risesL ((bytL2 l).take k) = true ∧ wr = w.drewN m) (fun i _ => l.length - (intOf i).toNat)
    case atStart => exact ⟨0, 0, Nat.zero_le _, rfl, fun j _ h => absurd h (Nat.not_lt_zero j), rfl, rfl⟩
    case round =>
      obtain ⟨k, m, hk, rfl, hok, hri, rfl⟩ := hrel
      have HO := Lib.hid hok
      have HR := Lib.hid hri
      clear hok hri
      by_cases hlt : k < l.length
      · have ik : (k : Int) < (l.length : Int) := by omega
        obtain ⟨b, off, rfl, _, _, hcell⟩ := H.out.str hlt
        have hsz1 := H1.out k hlt
        have HKO := Lib.hid (HOK.out k hlt)
        have hos := ok_size l[k]
        have HNO : Hid (okS l[k].data.toList = true → ∀ j (hj : j < l.length), j < k + 1 → okS l[j].data.toList = true) := fun h j hj hjk => by
          rcases Nat.lt_or_ge j k with h2 | h2
          · exact HO.out j hj h2
          · have : j = k := by omega
            subst this
            exact h
        by_cases hs1 : l[k].size < 1
        · have d1 : decide ((l[k].size : Int) < 1) = true := decide_eq_true (by omega)
          have HV : Hid (v = false) := HKO.out (by rw [hos, decide_eq_false (by omega)]; rfl)
          clear hos
          go_wp2_with fail
          go_quiet (fail)
          go_wp2_with fail
          go_ret
          exact ⟨ret_bool HV.out.symm, m + nq, World.drewN_drewN _ _ _⟩
        · have d1 : decide ((l[k].size : Int) < 1) = false := decide_eq_false (by omega)
          by_cases hs8 : 8 < l[k].size
          · have d8 : decide ((8 : Int) < (l[k].size : Int)) = true := decide_eq_true (by omega)
            have HV : Hid (v = false) := HKO.out (by rw [hos, decide_eq_false (p := l[k].size ≤ 8) (by omega), Bool.and_false])
            clear hos
            go_wp2_with fail
            go_quiet (fail)
            go_wp2_with fail
            go_ret
            exact ⟨ret_bool HV.out.symm, m + nq, World.drewN_drewN _ _ _⟩
          · have d8 : decide ((8 : Int) < (l[k].size : Int)) = false := decide_eq_false (by omega)
            have HOKK := Lib.hid (HNO.out (by rw [hos, decide_eq_true (by omega), decide_eq_true (by omega)]; rfl))
            clear hos
            by_cases hk0 : k = 0
            · subst hk0
              rw [Nat.add_zero] at hcell
              have HR1 : Hid (risesL ((bytL2 l).take 1) = true) := by
                unfold Hid
                rw [List.take_succ_eq_append_getElem (by rw [bytL2_length]; omega)]
                rfl
              go_wp2_with fail
              go_quiet (fail)
              go_wp2_with fail
              go_roundw
              case rel => exact ⟨0 + 1, _, by omega, by first | rfl | go_num, HOKK.out, HR1.out, by first | rfl | (rw [World.drewN_drewN])⟩
              case measure => simp [intOf] <;> omega
            · obtain ⟨j, rfl⟩ : ∃ j, k = j + 1 := ⟨k - 1, by omega⟩
              obtain ⟨b2, off2, he, _, _, hcell2⟩ := H.out.str (k := j) (by omega)
              injection he with he
              injection he with he1 he2
              subst he1 he2
              have hsz2 := H1.out j (by omega)
              have HCM := Lib.hid (fun w => refCompare_any (w := w) l[j] l[j + 1] hsz2 hsz1)
              have HRS : Hid (risesL ((bytL2 l).take (j + 2)) = (risesL ((bytL2 l).take (j + 1)) && decide (cmpL l[j].data.toList l[j + 1].data.toList < 0))) := by
                unfold Hid
                rw [rises_take_succ (by rw [bytL2_length]; omega), bytL2_get l j (by omega), bytL2_get l (j + 1) hlt]
              have HRJ := Lib.hid (HRI.out j hlt)
              have i0 : (0 : Int) < (j : Int) + 1 := by omega
              have d0 : decide ((0 : Int) < (j : Int) + 1) = true := decide_eq_true i0
              have hjw : IntKind.i64.wrap (j : Int) = (j : Int) := IntWalk.i64_in _ (by omega)
              generalize cmpL l[j].data.toList l[j + 1].data.toList = z at *
              generalize l[j] = x at *
              generalize l[j + 1] = y at *
              by_cases hz : z < 0
              · have dz : decide ((0 : Int) ≤ z) = false := decide_eq_false (by omega)
                have HR2 : Hid (risesL ((bytL2 l).take (j + 2)) = true) := by
                  unfold Hid
                  rw [HRS.out, HR.out, decide_eq_true hz]
                  rfl
                go_wp2_with fail
                go_quiet ((go_at_call 25; exact quiet_draws_on (HCM.out _)))
                go_wp2_with fail
                go_roundw
                case rel => exact ⟨j + 1 + 1, _, by omega, by first | rfl | go_num, HOKK.out, HR2.out, by first | rfl | (rw [World.drewN_drewN])⟩
                case measure => simp [intOf] <;> omega
              · have dz : decide ((0 : Int) ≤ z) = true := decide_eq_true (by omega)
                have HV : Hid (v = false) := HRJ.out (by omega)
                go_wp2_with fail
                go_quiet ((go_at_call 25; exact quiet_draws_on (HCM.out _)))
                go_wp2_with fail
                go_ret
                exact ⟨ret_bool HV.out.symm, m + nq, World.drewN_drewN _ _ _⟩
      · have ik : ¬ (k : Int) < (l.length : Int) := by omega
        have hke : k = l.length := by omega
        have HV : Hid (v = true) := HFI.out hl5 (fun j hj => HO.out j hj (by omega)) (by rw [← hke]; exact HR.out)
        go_wp2_with fail
        go_ret
        exact ⟨ret_bool HV.out.symm, m, rfl⟩
end Go.Proofs.Ytpollebfehdnjaa
