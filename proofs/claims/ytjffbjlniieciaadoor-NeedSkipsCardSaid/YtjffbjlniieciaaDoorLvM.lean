/-
  Rows that are so or not, in plain: their cells, how many are so. No program is named here.
-/
import Derived.Test.YtjffbjlniieciaaDoorMem
namespace Go.Proofs.YtjffbjlniieciaaDoor
set_option linter.unusedSimpArgs false
set_option linter.unusedVariables false

/-- rows as the values of their cells -/
def lv (l : List Bool) : List Value := l.map fun b => .bool b
theorem lv_length (l : List Bool) : (lv l).length = l.length := by simp [lv]
theorem lv_append (a b : List Bool) : lv (a ++ b) = lv a ++ lv b := by simp [lv]
theorem lv_take (l : List Bool) (k : Nat) : lv (l.take k) = (lv l).take k := by simp [lv, List.map_take]
theorem lv_set (l : List Bool) (j : Nat) (x : Bool) : lv (l.set j x) = (lv l).set j (.bool x) := by simp [lv, List.map_set]
theorem lv_get (l : List Bool) (k : Nat) (h : k < l.length) : (lv l)[k]? = some (.bool l[k]) := by
  simp [lv, List.getElem?_eq_getElem h]
theorem lv_one (l : List Bool) : ∀ u ∈ lv l, u.oneCell' = true := by
  intro u hu
  obtain ⟨c, _, rfl⟩ := List.mem_map.1 hu
  rfl
/-- the cell of a row that is read -/
theorem Rd.row {w : World} {lo hi c : Nat} {A : Option Addr} {l : List Bool} (h : Rd w lo hi A c (lv l)) {k : Nat} (hk : k < l.length) :
    ∃ b off, A = some ⟨b, off, none⟩ ∧ lo ≤ b ∧ b < hi ∧ w.cell? ⟨b, off + k, none⟩ = some (.bool l[k]) := by
  obtain ⟨b, off, e, h1, h2, h3⟩ := h.at_ (by rw [lv_length]; omega)
  exact ⟨b, off, e, h1, h2, h3 k _ (lv_get l k hk)⟩

/-- how many are so -/
def cnt (l : List Bool) : Nat := l.count true
theorem cnt_nil : cnt [] = 0 := rfl
theorem cnt_take (l : List Bool) (k : Nat) (h : k < l.length) : cnt (l.take (k + 1)) = cnt (l.take k) + (l[k]).toNat := by
  unfold cnt
  rw [List.take_succ_eq_append_getElem h, List.count_append]
  cases l[k] <;> rfl
theorem cnt_le (l : List Bool) : cnt l ≤ l.length := List.count_le_length
theorem cnt_take_le (l : List Bool) (k : Nat) : cnt (l.take k) ≤ k := Nat.le_trans (cnt_le _) (by rw [List.length_take]; omega)
theorem cnt_not (l : List Bool) : cnt (l.map not) + cnt l = l.length := by
  unfold cnt
  induction l with
  | nil => rfl
  | cons b r ih => cases b <;> simp <;> omega
theorem cnt_and_or (a b : List Bool) (h : a.length = b.length) : cnt (List.zipWith and a b) + cnt (List.zipWith or a b) = cnt a + cnt b := by
  unfold cnt
  induction a generalizing b with
  | nil =>
    cases b with
    | nil => rfl
    | cons => simp at h
  | cons x r ih =>
    cases b with
    | nil => simp at h
    | cons y s =>
      have := ih s (by simpa using h)
      cases x <;> cases y <;> simp <;> omega
theorem not_not_map (l : List Bool) : (l.map not).map not = l := by simp [List.map_map, Function.comp_def]
theorem not_zip (a b : List Bool) : (List.zipWith and a b).map not = List.zipWith or (a.map not) (b.map not) := by
  induction a generalizing b with
  | nil => simp
  | cons x r ih =>
    cases b with
    | nil => simp
    | cons y s => simp [ih, Bool.not_and]
/-- rows that are written out -/
theorem rd_bools (w : World) (t : TypeId) (l : List Bool) (cs : Array Value) (h : cs.toList = lv l) (hm : l.length ≤ 1000) :
    Rd (w.alloc (.cells cs t)) 0 (w.heap.size + 1) (some ⟨w.heap.size, 0, none⟩) l.length (lv l) := by
  refine ⟨by rw [lv_length]; exact Nat.le_refl _, by simp only [maxLen]; omega, fun _ => ⟨w.heap.size, 0, rfl, Nat.zero_le _, by omega, fun j u hu => ?_⟩⟩
  rw [Nat.zero_add, (Blk.new w t cs).cell]
  rw [← h] at hu
  simpa using hu
end Go.Proofs.YtjffbjlniieciaaDoor
