/-
  Rows that are made anew, in this program; cells that are filled up to a place.
-/
import Derived.Test.YtjffbjlniieciaaDoorRows
import Derived.Test.YtjffbjlniieciaaDoorLvM
import Derived.Laws.OwnMore
namespace Go.Proofs.YtjffbjlniieciaaDoor
set_option linter.unusedSimpArgs false
set_option linter.unusedVariables false
open Go.RowKit

theorem Tryd.infoBool : (Tryd.prog.info? 4).map (fun i => (i.zero, i.size, i.bytes)) = some (some (.bool false), 1, 1) := by kernel_rfl

theorem make_bools (w : World) (n : Nat) (h : n ≤ 281474976710656) : ∃ w1, (Instr.makeSlice 53 (.int .i64 (n : Int)) (.int .i64 (n : Int))).run Tryd.prog w = .ok (.slice (some ⟨w.heap.size, 0, none⟩) n n) w1 ∧
    w1.ownsRow w.heap.size 4 1 (.slice (some ⟨w.heap.size, 0, none⟩) n n) n (List.replicate n (.bool false)) ∧ w.grownBy w1 none := by
  obtain ⟨i0, hi0, hz0, hz1, hz2⟩ := info_parts Tryd.infoBool
  have := run_make_full (P := Tryd.prog) w w.heap.size 53 4 i0 _ 1 Tryd.underlying53 hi0 hz0 hz1 .i64 .i64 n (by rw [hz2]; omega) (by simp only [maxLen]; omega) (Nat.le_refl _)
  rw [Nat.mul_one, show (Value.bool false).cells = #[.bool false] from rfl, toList_madeCells_one] at this
  exact this

/-- cells that are filled up to k as ys says -/
def Fill (ys : List Value) (k : Nat) (xs : List Value) : Prop := xs.length = ys.length ∧ ∀ j, j < k → xs[j]? = ys[j]?
theorem fill_zero {ys xs : List Value} (h : xs.length = ys.length) : Fill ys 0 xs := ⟨h, fun j hj => absurd hj (Nat.not_lt_zero j)⟩
theorem fill_all {ys xs : List Value} {k : Nat} (h : Fill ys k xs) (hk : ys.length ≤ k) : xs = ys := by
  apply List.ext_getElem?
  intro j
  by_cases hj : j < k
  · exact h.2 j hj
  · rw [List.getElem?_eq_none (by rw [h.1]; omega), List.getElem?_eq_none (by omega)]
theorem fill_succ {ys xs : List Value} {k : Nat} (h : Fill ys k xs) (u : Value) (hu : ys[k]? = some u) : Fill ys (k + 1) (xs.set k u) := by
  have hk : k < ys.length := (List.getElem?_eq_some_iff.1 hu).1
  refine ⟨by rw [List.length_set]; exact h.1, fun j hj => ?_⟩
  by_cases e : j = k
  · subst e
    rw [List.getElem?_set_self (by rw [h.1]; exact hk), hu]
  · rw [List.getElem?_set_ne (by omega)]
    exact h.2 j (by omega)

/-- rows that are owned, as rows that are read -/
theorem rd_own {w : World} {base n c : Nat} {A : Option Addr} {e : TypeId} {xs : List Value} (h : w.ownsRow base e 1 (.slice A n c) n xs) : Rd w 0 w.heap.size A c xs := (Rd.own h).wide (Nat.zero_le _) (Nat.le_refl _)
end Go.Proofs.YtjffbjlniieciaaDoor
