/-
  What laws ask of short lists of strings, and of the document's table of them (cut out of LawS).
-/
import Derived.Test.YtpollebfehdnjaaSymP
import Derived.Test.YtpollebfehdnjaaMgS
import Derived.Test.YtpollebfehdnjaaSyM
namespace Go.Proofs.Ytpollebfehdnjaa
set_option linter.unusedSimpArgs false
set_option linter.unusedVariables false
open Go.RowKit


theorem rd_strs (w : World) (t : TypeId) (l : List ByteArray) (cs : Array Value) (h : cs.toList = sv l) (hm : l.length ≤ 1000) :
    Rd (w.alloc (.cells cs t)) 0 (w.heap.size + 1) (some ⟨w.heap.size, 0, none⟩) l.length (sv l) := by
  refine ⟨by rw [sv_length]; exact Nat.le_refl _, by simp only [maxLen]; omega, fun _ => ⟨w.heap.size, 0, rfl, Nat.zero_le _, by omega, fun j u hu => ?_⟩⟩
  rw [Nat.zero_add, (Blk.new w t cs).cell]
  rw [← h] at hu
  simpa using hu
theorem few_is {w : World} (l : List ByteArray) (b : Bool) {lo hi c : Nat} {A : Option Addr} (h : Rd w lo hi A c (sv l)) (hb : decide (FewS l) = b) :
    Calls Try.prog 10 #[.slice A l.length c] w fun r w' => r = .returned (.bool b) ∧ w = w' := hb ▸ fewS_any l h
theorem right_small {l : List ByteArray} (h : rightT (bytL2 l) = true) : l.length ≤ 255 ∧ ∀ s ∈ l, s.size ≤ 8 := by
  refine ⟨by have := (rightT_iff.1 h).1; rw [bytL2_length] at this; exact this, fun s hs => ?_⟩
  have := (okS_iff.1 ((rightT_iff.1 h).2.1 s.data.toList (List.mem_map_of_mem hs))).2
  rw [Array.length_toList] at this
  exact this
theorem reforder_is {w : World} (l : List ByteArray) (t : List (List UInt8)) {n c : Nat} {A : Option Addr} (h : Rd w 0 w.heap.size A c (sv l)) (h1k : ∀ s ∈ l, s.size ≤ 100000) (hln : l.length ≤ 100000) (ht : ordL (bytL2 l) = t) (hn : l.length = n) :
    Calls Try.prog 15 #[.slice A n c] w fun r w' => ∃ A' c', r = .returned (.slice A' t.length c') ∧ w'.ownsRow w.heap.size 9 1 (.slice A' t.length c') t.length (sv (strsL t)) ∧ Below w.heap.size w w' := by
  subst hn
  refine (refOrder_any l h h1k hln).mono ?_
  rintro r w' ⟨t', A', c', rfl, ho, hown, hb⟩
  have : t' = t := by rw [← ht]; exact ho.one (ordL_is _)
  subst this
  exact ⟨A', c', rfl, hown, hb⟩
theorem bytL2_strs (t : List (List UInt8)) : bytL2 (strsL t) = t := by
  unfold bytL2 strsL
  rw [List.map_map]
  conv => rhs; rw [← List.map_id t]
  exact List.map_congr_left fun x _ => rfl
/-- a table, of the strings' own -/
theorem ord_facts (l : List ByteArray) {t : List (List UInt8)} (ht : ordL (bytL2 l) = t) : rightT (bytL2 (strsL t)) = true ∧ (strsL t).length = t.length ∧ t.length ≤ 255 ∧ (∀ s ∈ strsL t, s.size ≤ 8) ∧ ordL (bytL2 (strsL t)) = t := by
  have hr : rightT (bytL2 (strsL t)) = true := by rw [bytL2_strs, ← ht]; exact (ordL_is _).right
  have h := right_small hr
  rw [strsL_length] at h
  refine ⟨hr, strsL_length t, h.1, h.2, ?_⟩
  rw [bytL2_strs] at hr ⊢
  exact (ordL_is t).one (IsOrder.self hr)
theorem few_sizes {l : List ByteArray} (h : FewS l) : l.length ≤ 300 ∧ l.length ≤ 100000 ∧ l.length ≤ 1000000 ∧ (∀ s ∈ l, s.size ≤ 100000) ∧ ∀ s ∈ l, s.size ≤ 9223372036854775807 :=
  ⟨h.1, by have := h.1; omega, by have := h.1; omega, fun s hs => by have := h.2 s hs; omega, fun s hs => by have := h.2 s hs; omega⟩
theorem own_empty (w : World) : (w.alloc (.cells #[] 9)).ownsRow w.heap.size 9 1 (.slice (some ⟨w.heap.size, 0, none⟩) 0 0) 0 (sv []) := by
  have := World.ownsRow_lit (e := 9) (size := 1) (base := w.heap.size) w #[] 0 (Nat.le_refl _) (by simp [maxLen]) (by simp)
  simpa [sv] using this
end Go.Proofs.Ytpollebfehdnjaa
