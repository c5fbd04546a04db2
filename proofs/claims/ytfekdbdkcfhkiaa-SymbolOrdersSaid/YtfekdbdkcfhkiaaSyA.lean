/-
  The symbol package: fits, follows, Right.
-/
import Derived.Test.YtfekdbdkcfhkiaaSymS
import Derived.Test.YtfekdbdkcfhkiaaSymO
import Derived.Lib.Strings
namespace Go.Proofs.Ytfekdbdkcfhkiaa
set_option linter.unusedSimpArgs false
set_option linter.unusedVariables false
open Go.RowKit

theorem less_cmp : ∀ (a b : List UInt8), Op.bytesLess a b = decide (cmpL a b < 0)
  | [], [] => by simp [Op.bytesLess, cmpL]
  | [], _ :: _ => by simp [Op.bytesLess, cmpL]
  | _ :: _, [] => by simp [Op.bytesLess, cmpL]
  | x :: a, y :: b => by
    unfold Op.bytesLess cmpL
    by_cases h1 : x.toNat < y.toNat
    · rw [if_pos h1, decide_eq_true (show x < y from h1)]; rfl
    · rw [if_neg h1, decide_eq_false (show ¬ x < y from h1), Bool.false_or]
      by_cases h2 : y.toNat < x.toNat
      · rw [if_pos h2, show (x == y) = false from beq_eq_false_iff_ne.2 (fun e => by subst e; omega)]; rfl
      · rw [if_neg h2, show (x == y) = true from beq_iff_eq.2 (UInt8.toNat_inj.1 (by omega)), Bool.true_and, less_cmp a b]
theorem less_str (a b : ByteArray) : Op.bytesLess a.toList b.toList = decide (cmpL a.data.toList b.data.toList < 0) := by rw [Lib.toList_data, Lib.toList_data, less_cmp]

theorem fits_any {w : World} (z : Int) : Calls Try.prog 29 #[.int .i64 z] w fun r w' => r = .returned (.bool (decide (1 ≤ z) && decide (z ≤ 8))) ∧ w = w' := by
  by_cases h0 : z < 1
  · have hf : decide (1 ≤ z) = false := decide_eq_false (by omega)
    rw [hf]
    go_enter Try.func29, Try.ntmps29
    go_wp2
    go_ret
    exact ⟨rfl, rfl⟩
  · have ht : decide (1 ≤ z) = true := decide_eq_true (by omega)
    rw [ht]
    by_cases h1 : z ≤ 8
    · have h2 : decide (z ≤ 8) = true := decide_eq_true h1
      rw [h2]
      go_enter Try.func29, Try.ntmps29
      go_wp2
      go_ret
      exact ⟨rfl, rfl⟩
    · have h2 : decide (z ≤ 8) = false := decide_eq_false h1
      rw [h2]
      go_enter Try.func29, Try.ntmps29
      go_wp2
      go_ret
      exact ⟨rfl, rfl⟩

/-- what may stand behind the last one -/
def folL (last s : List UInt8) : Bool := okS s && decide (cmpL last s < 0)
theorem fits_size (s : ByteArray) : (decide (1 ≤ (s.size : Int)) && decide ((s.size : Int) ≤ 8)) = okS s.data.toList := by
  rw [ok_size]
  congr 1 <;> (rw [decide_eq_decide]; omega)

theorem follows_any {w : World} (a s : ByteArray) (hs : s.size ≤ 9223372036854775807) : Calls Try.prog 25 #[.string a, .string s] w fun r w' => r = .returned (.bool (folL a.data.toList s.data.toList)) ∧ ∃ m, w' = w.drewN m := by
  have HF := Lib.hid (fun w => fits_any (w := w) (s.size : Int))
  rw [fits_size] at HF
  have hless := less_str a s
  unfold folL
  by_cases hok : okS s.data.toList = true
  · rw [hok] at HF ⊢
    generalize decide (cmpL a.data.toList s.data.toList < 0) = v at *
    go_enter Try.func25, Try.ntmps25
    go_wp2_with fail
    refine (HF.out _).mono ?_
    rintro r w' ⟨rfl, rfl⟩
    go_wp2
    go_ret
    exact ⟨rfl, 0, rfl⟩
  · rw [Bool.not_eq_true] at hok
    rw [hok] at HF ⊢
    clear hless
    go_enter Try.func25, Try.ntmps25
    go_wp2_with fail
    refine (HF.out _).mono ?_
    rintro r w' ⟨rfl, rfl⟩
    go_wp2
    go_ret
    exact ⟨rfl, 0, rfl⟩

set_option maxRecDepth 20000 in
set_option maxHeartbeats 2000000 in
theorem sright_any {w : World} (l : List ByteArray) {lo hi c : Nat} {A : Option Addr} (h : Rd w lo hi A c (sv l)) (h1k : ∀ s ∈ l, s.size ≤ 9223372036854775807) :
    Calls Try.prog 12 #[.slice A l.length c] w fun r w' => r = .returned (.bool (rightT (bytL2 l))) ∧ ∃ m, w' = w.drewN m := by
  have hl := h.len
  have hm := h.cap
  rw [sv_length] at hl
  unfold maxLen at hm
  have H := Lib.hid h
  have H1 : Hid (∀ k (hk : k < l.length), l[k].size ≤ 9223372036854775807) := fun k hk => h1k _ (List.getElem_mem hk)
  clear h h1k
  obtain ⟨v, hv⟩ : ∃ v, rightT (bytL2 l) = v := ⟨_, rfl⟩
  rw [hv]
  have HNO : Hid (∀ k (hk : k < l.length) (last : ByteArray), (last = ⟨#[]⟩ ∧ k = 0 ∨ ∃ j, ∃ (hj : j < l.length), k = j + 1 ∧ last = l[j]) → folL last.data.toList l[k].data.toList = false → v = false) := fun k hk last hla h => by
    cases hvv : v with
    | false => rfl
    | true =>
      rw [hvv] at hv
      have h1 := (rightT_iff.1 hv).2.1 _ (List.getElem_mem (l := bytL2 l) (n := k) (by rw [bytL2_length]; exact hk))
      rw [bytL2_get l k hk] at h1
      rw [folL, h1, Bool.true_and] at h
      have h := of_decide_eq_false h
      rcases hla with ⟨rfl, _⟩ | ⟨j, hj, rfl, rfl⟩
      · refine absurd ?_ h
        have := (okS_iff.1 h1).1
        cases hx : l[k].data.toList with
        | nil => rw [hx] at this; simp at this
        | cons => simp [cmpL]
      · have := rises_adj (rightT_iff.1 hv).2.2 (k := j) (by rw [bytL2_length]; exact hk)
        rw [bytL2_get l j (by omega), bytL2_get l (j + 1) hk] at this
        exact absurd this h
  have HFI : Hid ((∀ k (hk : k < l.length), okS l[k].data.toList = true) → risesL ((bytL2 l).take l.length) = true → v = decide (l.length ≤ 255)) := fun h3 h4 => by
    rw [← hv, Bool.eq_iff_iff, rightT_iff, bytL2_length, decide_eq_true_eq]
    refine ⟨fun h => h.1, fun h2 => ⟨h2, fun s hs => ?_, ?_⟩⟩
    · obtain ⟨k, hk, rfl⟩ := List.getElem_of_mem hs
      rw [bytL2_length] at hk
      rw [bytL2_get l k hk]
      exact h3 k hk
    · rw [List.take_of_length_le (by rw [bytL2_length]; exact Nat.le_refl _)] at h4
      exact h4
  clear hv
  go_enter Try.func12, Try.ntmps12
  go_wp2_with fail
  go_loopw [3, 8] (fun la i wr => ∃ (k m : Nat) (last : ByteArray), k ≤ l.length ∧ i = .int .i64 (k : Int) ∧ la = .string last ∧ (last = ⟨#[]⟩ ∧ k = 0 ∨ ∃ j, ∃ (hj : j < l.length), k = j + 1 ∧ last = l[j]) ∧ (∀ j (hj : j < l.length), j < k → okS l[j].data.toList = true) ∧ risesL ((bytL2 l).take k) = true ∧ wr = w.drewN m) (fun _ i _ => l.length - (intOf i).toNat)
  case atStart => exact ⟨0, 0, ⟨#[]⟩, Nat.zero_le _, rfl, rfl, .inl ⟨rfl, rfl⟩, fun j _ h => absurd h (Nat.not_lt_zero j), rfl, rfl⟩
  case round =>
    obtain ⟨k, m, last, hk, rfl, rfl, hla, hok, hri, rfl⟩ := hrel
    have HO := Lib.hid hok
    have HR := Lib.hid hri
    have HLA := Lib.hid hla
    clear hok hri hla
    by_cases hlt : k < l.length
    · have ik : (k : Int) < (l.length : Int) := by omega
      obtain ⟨b, off, rfl, _, _, hcell⟩ := H.out.str hlt
      have HFO := Lib.hid (fun w => follows_any (w := w) last l[k] (H1.out k hlt))
      have HV := Lib.hid (HNO.out k hlt last HLA.out)
      obtain ⟨f, hf⟩ : ∃ f, folL last.data.toList l[k].data.toList = f := ⟨_, rfl⟩
      have HE : Hid (folL last.data.toList l[k].data.toList = f) := hf
      rw [hf] at HFO HV
      clear hf
      cases f with
      | false =>
        have HVV := Lib.hid (HV.out rfl)
        go_wp2_with fail
        refine (HFO.out _).mono ?_
        rintro r w' ⟨rfl, m2, rfl⟩
        go_wp2_with fail
        go_ret
        exact ⟨ret_bool HVV.out.symm, m + m2, rfl⟩
      | true =>
        have HOK : Hid (∀ j (hj : j < l.length), j < k + 1 → okS l[j].data.toList = true) := fun j hj hjk => by
          rcases Nat.lt_or_ge j k with h2 | h2
          · exact HO.out j hj h2
          · have : j = k := by omega
            subst this
            have := HE.out
            rw [folL, Bool.and_eq_true] at this
            exact this.1
        have HRS : Hid (risesL ((bytL2 l).take (k + 1)) = true) := by
          unfold Hid
          rcases HLA.out with ⟨rfl, rfl⟩ | ⟨j, hj, rfl, rfl⟩
          · rw [List.take_succ_eq_append_getElem (by rw [bytL2_length]; omega)]
            rfl
          · rw [rises_take_succ (by rw [bytL2_length]; omega), bytL2_get l j (by omega), bytL2_get l (j + 1) hlt, HR.out, Bool.true_and]
            have := HE.out
            rw [folL, Bool.and_eq_true] at this
            exact this.2
        go_wp2_with fail
        refine (HFO.out _).mono ?_
        rintro r w' ⟨rfl, m2, rfl⟩
        go_wp2_with fail
        go_roundw
        case rel => exact ⟨k + 1, m + m2, l[k], by omega, by first | rfl | go_num, rfl, .inr ⟨k, hlt, rfl, rfl⟩, HOK.out, HRS.out, rfl⟩
        case measure => simp [intOf] <;> omega
    · have ik : ¬ (k : Int) < (l.length : Int) := by omega
      have hke : k = l.length := by omega
      have HV : Hid (v = decide (l.length ≤ 255)) := HFI.out (fun j hj => HO.out j hj (by omega)) (by rw [← hke]; exact HR.out)
      go_wp2_with fail
      go_ret
      refine ⟨?_, m, rfl⟩
      rw [HV.out]
      first | rfl | (apply ret_bool; rw [decide_eq_decide]; omega)
end Go.Proofs.Ytfekdbdkcfhkiaa
