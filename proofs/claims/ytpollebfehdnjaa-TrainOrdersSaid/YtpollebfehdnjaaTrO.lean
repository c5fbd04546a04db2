/-
  How the best are chosen, in plain; how many are counted.
-/
import Derived.Test.YtpollebfehdnjaaTrN
namespace Go.Proofs.Ytpollebfehdnjaa
set_option linter.unusedSimpArgs false
set_option linter.unusedVariables false

theorem bag_len (T : List (List UInt8)) : ∀ S : List (List UInt8), (bagL T S).length ≤ 2 * (S.map List.length).sum
  | [] => Nat.zero_le _
  | s :: S => by
    have h1 := pieces_len T s []
    have h2 := bag_len T S
    show ((piecesL T [] s) ++ bagL T S).length ≤ _
    rw [List.length_append, List.map_cons, List.sum_cons]
    omega
theorem bag_drop {T S : List (List UInt8)} {k : Nat} (h : k < S.length) : bagL T (S.drop k) = piecesL T [] S[k] ++ bagL T (S.drop (k + 1)) := by
  rw [List.drop_eq_getElem_cons h]
  rfl
/-- pieces have at most eight bytes -/
theorem pieces_ok {T : List (List UInt8)} (hT : ∀ s ∈ T, okS s = true) (l : List UInt8) : ∀ last x, x ∈ piecesL T last l → x.length ≤ 8 := by
  generalize hn : l.length = n
  induction n using Nat.strongRecOn generalizing l with
  | _ n ih =>
    intro last x hx
    by_cases h : l = []
    · subst h
      cases hx
    · have h0 := stepP_pos T l
      have h1 := stepP_le (T := T) h
      have h8 := stepP_ok hT l
      rw [pieces_cons T last h, List.mem_cons, List.mem_append] at hx
      rcases hx with rfl | hx | hx
      · rw [List.length_take]; omega
      · split at hx
        · rename_i hc
          rw [List.mem_singleton] at hx
          subst hx
          rw [List.length_append, List.length_take]
          omega
        · cases hx
      · exact ih (l.drop (stepP T l)).length (by simp; omega) _ rfl _ x hx
theorem bag_ok {T : List (List UInt8)} (hT : ∀ s ∈ T, okS s = true) {S : List (List UInt8)} {x : List UInt8} (hx : x ∈ bagL T S) : x.length ≤ 8 := by
  obtain ⟨s, _, h⟩ := List.mem_flatMap.1 hx
  exact pieces_ok hT s [] x h
/-- what is chosen so far: names by their places, greatest first -/
structure Sel (P ns : List (List UInt8)) (ks : List Nat) : Prop where
  once : ks.Nodup
  lt : ∀ k ∈ ks, k < ns.length
  top : ∀ k (hk : k ∈ ks) j (hj : j < ns.length), j ∉ ks → beats P (ns[k]'(lt k hk)) ns[j]
theorem Sel.nil (P ns : List (List UInt8)) : Sel P ns [] := ⟨List.nodup_nil, fun k h => (by cases h), fun k h => (by cases h)⟩
theorem Sel.snoc {P ns : List (List UInt8)} {ks : List Nat} (h : Sel P ns ks) {k : Nat} (hk : k < ns.length) (hn : k ∉ ks) (hb : ∀ j (hj : j < ns.length), j ∉ ks → j ≠ k → beats P ns[k] ns[j]) : Sel P ns (ks ++ [k]) := by
  refine ⟨?_, fun j hj => ?_, fun i hi j hj hnj => ?_⟩
  · rw [List.nodup_append]
    exact ⟨h.once, by simp, fun a ha b hb e => by
      rw [List.mem_singleton] at hb
      subst hb
      exact hn (e ▸ ha)⟩
  · rcases List.mem_append.1 hj with hj | hj
    · exact h.lt j hj
    · rw [List.mem_singleton] at hj
      omega
  · have hnj1 : j ∉ ks := fun e => hnj (List.mem_append_left _ e)
    have hnj2 : j ≠ k := fun e => hnj (List.mem_append_right _ (by rw [e]; exact List.mem_singleton_self _))
    rcases List.mem_append.1 hi with hi2 | hi2
    · exact h.top i hi2 j hj hnj1
    · rw [List.mem_singleton] at hi2
      subst hi2
      exact hb j hj hnj1 hnj2
/-- what is chosen, when 255 are or all are, is the best -/
theorem Sel.done {P ns : List (List UInt8)} {cs ks : List Nat} (h : Sel P ns ks) (hc : Cnt P ns cs) (hl : ks.length ≤ 255) (hd : ks.length = 255 ∨ ∀ j, j < ns.length → j ∈ ks) {best : List (List UInt8)} (hlen : best.length = ks.length) (hb : ∀ i (hi : i < ks.length), best[i]'(by omega) = ns[ks[i]]'(h.lt _ (List.getElem_mem hi))) : TopOf P best := by
  have hmem : ∀ x, x ∈ best → ∃ i, ∃ hi : i < ks.length, x = ns[ks[i]]'(h.lt _ (List.getElem_mem hi)) := fun x hx => by
    obtain ⟨i, hi, rfl⟩ := List.getElem_of_mem hx
    exact ⟨i, by omega, hb i (by omega)⟩
  refine ⟨?_, by omega, fun x hx => ?_, fun y hy hn => ?_⟩
  · rw [List.nodup_iff_pairwise_ne, List.pairwise_iff_getElem]
    intro i j hi hj hij e
    rw [hb i (by omega), hb j (by omega)] at e
    have e2 := (List.getElem_inj hc.once).1 e
    have e3 := (List.getElem_inj h.once).1 e2
    omega
  · obtain ⟨i, hi, rfl⟩ := hmem x hx
    exact (hc.mem _).1 (List.getElem_mem _)
  · obtain ⟨j, hj, rfl⟩ := List.getElem_of_mem ((hc.mem y).2 hy)
    have hjk : j ∉ ks := fun e => by
      obtain ⟨i, hi, e2⟩ := List.getElem_of_mem e
      have h2 := hb i hi
      have h3 : best[i]'(by omega) ∈ best := List.getElem_mem _
      rw [h2] at h3
      simp only [e2] at h3
      exact hn h3
    refine ⟨?_, fun x hx => ?_⟩
    · rcases hd with h1 | h1
      · omega
      · exact absurd (h1 j hj) hjk
    · obtain ⟨i, hi, rfl⟩ := hmem x hx
      exact h.top _ (List.getElem_mem hi) j hj hjk
/-- the flags of what is chosen -/
def usL (n : Nat) (ks : List Nat) : List Bool := (List.range n).map fun j => decide (j ∈ ks)
theorem usL_length (n : Nat) (ks : List Nat) : (usL n ks).length = n := by simp [usL]
theorem usL_get {n : Nat} (ks : List Nat) {i : Nat} (h : i < n) : (usL n ks)[i]'(by rw [usL_length]; exact h) = decide (i ∈ ks) := by simp [usL]
theorem usL_set {n : Nat} (ks : List Nat) {k : Nat} (h : k < n) : (usL n ks).set k true = usL n (ks ++ [k]) := by
  apply List.ext_getElem
  · simp [usL]
  · intro i h1 h2
    rw [List.length_set, usL_length] at h1
    rw [List.getElem_set, usL_get _ h1, usL_get _ h1]
    by_cases hki : k = i
    · subst hki
      simp
    · rw [if_neg hki]
      have : i ≠ k := fun e => hki e.symm
      simp [this]
/-- the best of the first i that are not chosen yet: none, or which -/
def Lead (P ns : List (List UInt8)) (ks : List Nat) (i : Nat) (kk : Int) : Prop :=
  (kk = -1 ∧ ∀ j, j < ns.length → j < i → j ∈ ks) ∨ (∃ k : Nat, ∃ hk : k < ns.length, kk = (k : Int) ∧ k < i ∧ k ∉ ks ∧ ∀ j (hj : j < ns.length), j < i → j ∉ ks → j ≠ k → beats P ns[k] ns[j])
section
variable {P ns : List (List UInt8)} {ks : List Nat} {i : Nat} {kk : Int}
theorem lead_used (h : Lead P ns ks i kk) (hi : i ∈ ks) : Lead P ns ks (i + 1) kk := by
  rcases h with ⟨h1, h2⟩ | ⟨k, hk, h1, h2, h3, h4⟩
  · refine Or.inl ⟨h1, fun j hj hji => ?_⟩
    by_cases e : j = i
    · rw [e]; exact hi
    · exact h2 j hj (by omega)
  · refine Or.inr ⟨k, hk, h1, by omega, h3, fun j hj hji hn hne => h4 j hj ?_ hn hne⟩
    have : j ≠ i := fun e => hn (e ▸ hi)
    omega
theorem lead_first (h : ∀ j, j < ns.length → j < i → j ∈ ks) (hi : i < ns.length) (hn : i ∉ ks) : Lead P ns ks (i + 1) (i : Int) :=
  Or.inr ⟨i, hi, rfl, by omega, hn, fun j hj hji hjn hne => absurd (h j hj (by omega)) hjn⟩
theorem lead_win {k : Nat} (hk : k < ns.length) (h4 : ∀ j (hj : j < ns.length), j < i → j ∉ ks → j ≠ k → beats P ns[k] ns[j]) (hi : i < ns.length) (hn : i ∉ ks) (hb : beats P ns[i] ns[k]) : Lead P ns ks (i + 1) (i : Int) := by
  refine Or.inr ⟨i, hi, rfl, by omega, hn, fun j hj hji hjn hne => ?_⟩
  by_cases e : j = k
  · subst e
    exact hb
  · exact beats_trans hb (h4 j hj (by omega) hjn e)
theorem lead_lose {k : Nat} (hk : k < ns.length) (hki : k < i) (hkn : k ∉ ks) (h4 : ∀ j (hj : j < ns.length), j < i → j ∉ ks → j ≠ k → beats P ns[k] ns[j]) (hi : i < ns.length) (hb : beats P ns[k] ns[i]) : Lead P ns ks (i + 1) (k : Int) := by
  refine Or.inr ⟨k, hk, rfl, by omega, hkn, fun j hj hji hjn hne => ?_⟩
  by_cases e : j = i
  · subst e
    exact hb
  · exact h4 j hj (by omega) hjn hne
end
end Go.Proofs.Ytpollebfehdnjaa
