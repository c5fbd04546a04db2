/-
  slices.BinarySearch of whatever rising strings.
-/
import Derived.Test.YtpollebfehdnjaaShB
import Derived.Test.YtpollebfehdnjaaCmpB
import Derived.Test.YtpollebfehdnjaaRisM
import Derived.Test.YtpollebfehdnjaaMgM
namespace Go.Proofs.Ytpollebfehdnjaa
set_option linter.unusedSimpArgs false
set_option linter.unusedVariables false
open Go.RowKit

/-- where x would stand among rising strings, and whether it does -/
theorem search_any {w : World} (l : List ByteArray) (x : ByteArray) {lo hi c n : Nat} {A : Option Addr} (h : Rd w lo hi A c (sv l)) (hr : risesL (bytL2 l) = true) (hn : l.length < 4611686018427387904) (hln : l.length = n) :
    Calls Try.prog 37 #[.slice A n c, .string x] w fun r w' => ∃ k, k ≤ n ∧ (∀ j (hj : j < l.length), j < k ↔ cmpL l[j].data.toList x.data.toList < 0) ∧ r = .returned (.tuple #[.int .i64 (k : Int), .bool (decide (l[k]? = some x))]) ∧ ∃ q, w' = w.drewN q := by
  subst hln
  by_cases h0 : l.length = 0
  · have hz : l = [] := List.eq_nil_of_length_eq_zero h0
    subst hz
    refine (Any2.slices_BinarySearch_string_empty lays2_26 A c x w).mono ?_
    rintro r w' ⟨rfl, rfl⟩
    exact ⟨0, Nat.le_refl _, fun j hj => by simp at hj, rfl, 0, rfl⟩
  · obtain ⟨b, off, rfl, -⟩ := h.str (k := 0) (by omega)
    have hc : ∀ j, j < l.length → w.cell? ⟨b, off + j, none⟩ = some (.string ((fun j => l.getD j x) j)) := fun j hj => by
      obtain ⟨b2, off2, he, _, _, hcell⟩ := h.str hj
      injection he with he
      injection he with he1 he2
      subst he1 he2
      rw [hcell]
      simp [List.getD, List.getElem?_eq_getElem hj]
    refine (Any2.slices_BinarySearch_string lays2_26 b off l.length c (fun j => l.getD j x) x w hn hc).mono ?_
    rintro r w' ⟨rfl, q, rfl⟩
    have hless : ∀ j (hj : j < l.length), Op.bytesLess (l.getD j x).toList x.toList = decide (cmpL l[j].data.toList x.data.toList < 0) := fun j hj => by
      rw [less_str]
      simp [List.getD, List.getElem?_eq_getElem hj]
    -- those below x are a head
    obtain ⟨k, hk, hkj⟩ : ∃ k, k ≤ l.length ∧ ∀ j (hj : j < l.length), j < k ↔ cmpL l[j].data.toList x.data.toList < 0 := by
      have hmono : ∀ i j (hij : i < j) (hj : j < l.length), cmpL l[j].data.toList x.data.toList < 0 → cmpL l[i].data.toList x.data.toList < 0 := fun i j hij hj hlt => by
        have h1 : i < (bytL2 l).length := by rw [bytL2_length]; omega
        have h2 : j < (bytL2 l).length := by rw [bytL2_length]; omega
        have hp : cmpL (bytL2 l)[i] (bytL2 l)[j] < 0 := by
          exact rises_at hr hij h2
        rw [bytL2_get l i (by omega), bytL2_get l j hj] at hp
        exact cmpL_lt_trans hp hlt
      have hex : ∀ m, m ≤ l.length → ∃ k, k ≤ m ∧ ∀ j (hj : j < l.length), j < m → (j < k ↔ cmpL l[j].data.toList x.data.toList < 0) := by
        intro m
        induction m with
        | zero => intro _; exact ⟨0, Nat.le_refl _, fun j _ h => absurd h (Nat.not_lt_zero j)⟩
        | succ m ih =>
          intro hm
          obtain ⟨k, hk, hkj⟩ := ih (by omega)
          by_cases hx : cmpL l[m].data.toList x.data.toList < 0
          · refine ⟨m + 1, Nat.le_refl _, fun j hj hjm => ⟨fun _ => ?_, fun _ => hjm⟩⟩
            by_cases e : j = m
            · subst e; exact hx
            · exact hmono j m (by omega) (by omega) hx
          · refine ⟨k, by omega, fun j hj hjm => ?_⟩
            by_cases e : j = m
            · subst e; exact ⟨fun h => by omega, fun h => absurd h hx⟩
            · exact hkj j hj (by omega)
      obtain ⟨k, hk, hkj⟩ := hex l.length (Nat.le_refl _)
      exact ⟨k, hk, fun j hj => hkj j hj hj⟩
    have hidx : Lib.bsGo (fun t => Op.bytesLess (l.getD t x).toList x.toList) l.length 0 l.length = k := by
      refine Lib.bsGo_spec _ k (fun t ht => ?_) (fun t ht => ?_) _ _ _ (by omega) (by omega) hk
      · rw [hless t (by omega)]
        exact decide_eq_true ((hkj t (by omega)).1 ht)
      · by_cases hl : t < l.length
        · rw [hless t hl]
          exact decide_eq_false fun h => by have := (hkj t hl).2 h; omega
        · have : l.getD t x = x := by simp [List.getD, List.getElem?_eq_none (Nat.le_of_not_lt hl)]
          rw [this, less_str, cmpL_same]
          rfl
    rw [hidx]
    refine ⟨k, hk, hkj, ?_, q, rfl⟩
    have hb : decide (k < l.length ∧ l.getD k x = x) = decide (l[k]? = some x) := by
      rw [decide_eq_decide]
      by_cases hl : k < l.length
      · simp [List.getD, List.getElem?_eq_getElem hl, hl]
      · simp [List.getElem?_eq_none (Nat.le_of_not_lt hl), hl]
    show Ending.returned (.tuple #[.int .i64 (k : Int), .bool (decide (k < l.length ∧ l.getD k x = x))]) = _
    rw [hb]
end Go.Proofs.Ytpollebfehdnjaa
