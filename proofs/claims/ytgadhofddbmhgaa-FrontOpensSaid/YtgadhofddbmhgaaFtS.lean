/-
  Two rows of a call's own in boxes, numbers and bytes: one number more, more bytes, with what each append leaves.
-/
import Derived.Test.YtgadhofddbmhgaaMgF
import Derived.Test.YtgadhofddbmhgaaKpM
namespace Go.Proofs.Ytgadhofddbmhgaa
set_option linter.unusedSimpArgs false
set_option linter.unusedVariables false
open Go.RowKit Go.Shelf

theorem keeps_row {w w' : World} {lo n : Nat} {e : TypeId} {v : Value} {xs : List Value} (h : w.ownsRow lo e 1 v n xs) (hg : w.grownBy w' v.ownBlock) : KeepsOthers w w' :=
  KeepsOthers.of_grownBy hg fun j o ej hj => by
    rcases h.2 with ⟨rfl, _⟩ | ⟨g, cap, cur, rfl, _, hgb, _⟩
    · simp [Value.ownBlock] at ej
    · obtain rfl : g = j := by simpa [Value.ownBlock] using ej
      rw [hgb] at hj
      cases hj
      rfl
theorem heap_lt {w w' : World} {lo B : Nat} {row : Option Nat} (hg : w.grownBy w' row) (hr : ∀ g, row = some g → lo ≤ g) (hB : B < lo) (hs : B < w.heap.size) : w'.heap[B]? = w.heap[B]? :=
  hg.block B hs fun e => by have := hr B e.symm; omega
theorem boxed_heap {w w' : World} {B : Nat} {t : TypeId} {v : Value} (h : Boxed w B t v) (e : w'.heap[B]? = w.heap[B]?) : Boxed w' B t v := e.trans h
section
variable {w w' : World} {lo : Nat} {u v : Value} {ss : List Nat} {bs : List UInt8}
/-- through an append to neither -/
theorem SB.keptG {row : Option Nat} (h : SB w lo w.heap.size u v ss bs) (hg : w.grownBy w' row) (hr : ∀ r, row = some r → ∃ o : Obj, w.heap[r]? = some o ∧ o.isCells = false) : SB w' lo w'.heap.size u v ss bs := by
  have h1 := row_keep h.o1 hg hr
  have h2 := row_keep h.o2 hg hr
  exact ⟨h1, h2, fun g hg2 => (own_lt h1 hg2).2, fun g hg2 => (own_lt h2 hg2).2, h.ap⟩
theorem SB.onBelow (h : SB w lo w.heap.size u v ss bs) (hb : Below w.heap.size w w') : SB w' lo w'.heap.size u v ss bs := (h.below hb (Nat.le_refl _)).top
theorem SB.setBox {B : Nat} (h : SB w lo w.heap.size u v ss bs) (hB : B < lo) (x : Value) : SB (w.setCell ⟨B, 0, none⟩ x) lo (w.setCell ⟨B, 0, none⟩ x).heap.size u v ss bs := by
  have hk : ∀ k, lo ≤ k → (w.setCell ⟨B, 0, none⟩ x).heap[k]? = w.heap[k]? := fun k hk => Below.heap_setCell _ _ _ _ (by show k ≠ B; omega)
  have h1 := own_keep h.o1 (w' := w.setCell ⟨B, 0, none⟩ x) fun k hk2 => hk k (own_lt h.o1 hk2).1
  have h2 := own_keep h.o2 (w' := w.setCell ⟨B, 0, none⟩ x) fun k hk2 => hk k (own_lt h.o2 hk2).1
  exact ⟨h1, h2, fun g hg2 => (own_lt h1 hg2).2, fun g hg2 => (own_lt h2 hg2).2, h.ap⟩
/-- one number more -/
theorem SB.pushN {A : Option Addr} {n c : Nat} (h : SB w lo w.heap.size (.slice A n c) v ss bs) (hn : n = ss.length) (x : Nat) (hl : n ≤ 1000000000) (hlo : lo ≤ w.heap.size) :
    ∃ A' c' w', (Builtin.append_ #[47, 47] 47 #[.slice A n c, .slice (some ⟨w.heap.size, 0, none⟩) 1 1]).run Try.prog (w.alloc (.cells #[.int .i64 (x : Int)] 3)) = .ok (.slice A' (n + 1) c') w' ∧
      SB w' lo w'.heap.size (.slice A' (n + 1) c') v (ss ++ [x]) bs ∧ (w.alloc (.cells #[.int .i64 (x : Int)] 3)).grownBy w' (Value.slice A n c).ownBlock ∧ KeepsOthers w w' ∧ ∀ g, (Value.slice A n c).ownBlock = some g → lo ≤ g ∧ g < w.heap.size := by
  subst hn
  have hil := ints_length ss
  have h1 : (w.alloc (.cells #[.int .i64 (x : Int)] 3)).ownsRow lo 3 1 (.slice A ss.length c) (ints ss).length (iv (ints ss)) := by rw [hil]; exact h.o1.alloc _
  obtain ⟨A', c', w', hrun, ho, hg, hb⟩ := append_ints_at (w.alloc (.cells #[.int .i64 (x : Int)] 3)) lo (.slice A ss.length c) (ints ss) [(x : Int)] (ints (ss ++ [x])) (by simp [ints]) h1 (rd_ints w 3 [(x : Int)] #[.int .i64 (x : Int)] rfl (by simp)) (by rw [hil]; simp; omega) (by simp; omega)
  rw [ints_length, List.length_append] at hrun ho hb
  have hv : v.ownBlock = none ∨ v.ownBlock ≠ (Value.slice A ss.length c).ownBlock := by
    cases hx : v.ownBlock with
    | none => exact Or.inl rfl
    | some g => exact Or.inr fun e => h.ap g e.symm hx
  have ho2 := (h.o2.alloc (.cells #[.int .i64 (x : Int)] 3)).kept hg hv
  refine ⟨A', c', w', hrun, ⟨by rw [List.length_append]; exact ho, ho2, fun g hg2 => (own_lt ho hg2).2, fun g hg2 => (own_lt ho2 hg2).2, fun g hg2 hg3 => ?_⟩, hg, (KeepsOthers.alloc _ _).trans (keeps_row (by rw [hil] at h1; exact h1) hg), fun g hg2 => own_lt h.o1 hg2⟩
  rcases hb with e | e
  · exact h.ap g (e.symm.trans hg2) hg3
  · have h3 := (own_lt h.o2 hg3).2
    have h4 : (Value.slice A' (ss.length + 1) c').ownBlock = some g := hg2
    have h5 : some g = some (w.alloc (.cells #[.int .i64 (x : Int)] 3)).heap.size := h4.symm.trans e
    injection h5 with h5
    simp at h5
    omega
/-- more bytes -/
theorem SB.moreG {A B : Option Addr} {n c k d lo2 hi2 : Nat} {news all : List UInt8} (h : SB w lo w.heap.size u (.slice A n c) ss bs) (hn : n = bs.length) (hk : k = news.length) (ha : bs ++ news = all) (hr : Rd w lo2 hi2 B d (bv news)) (hl : n + k ≤ 140737488355328) (hlo : lo ≤ w.heap.size) :
    ∃ A' c' w', (Builtin.append_ #[25, 25] 25 #[.slice A n c, .slice B k d]).run Try.prog w = .ok (.slice A' all.length c') w' ∧ SB w' lo w'.heap.size u (.slice A' all.length c') ss all ∧
      w.grownBy w' (Value.slice A n c).ownBlock ∧ KeepsOthers w w' ∧ ∀ g, (Value.slice A n c).ownBlock = some g → lo ≤ g ∧ g < w.heap.size := by
  subst hn hk
  obtain ⟨A', c', w', hrun, ho, hg, hb⟩ := append_bytes_at w lo (.slice A bs.length c) bs news all ha h.o2 hr hl hlo
  have hu : u.ownBlock = none ∨ u.ownBlock ≠ (Value.slice A bs.length c).ownBlock := by
    cases hx : u.ownBlock with
    | none => exact Or.inl rfl
    | some g => exact Or.inr fun e => h.ap g hx e.symm
  have ho1 := h.o1.kept hg hu
  refine ⟨A', c', w', hrun, ⟨ho1, ho, fun g hg2 => (own_lt ho1 hg2).2, fun g hg2 => (own_lt ho hg2).2, fun g hg2 hg3 => ?_⟩, hg, keeps_row h.o2 hg, fun g hg2 => own_lt h.o2 hg2⟩
  rcases hb with e | e
  · exact h.ap g hg2 (e.symm.trans hg3)
  · have h3 := (own_lt h.o1 hg2).2
    have h5 : some g = some w.heap.size := hg3.symm.trans e
    injection h5 with h5
    omega
end
end Go.Proofs.Ytgadhofddbmhgaa
