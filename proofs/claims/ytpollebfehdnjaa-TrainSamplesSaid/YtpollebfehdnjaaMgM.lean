/-
  Strings as cells.
  Lists of whole numbers as cells. No program is named here.
  Rows that are so or not, in plain: their cells, how many are so. No program is named here.
  How bytes compare, in plain: byte by byte; by what stands ahead first.
-/
import Derived.Test.YtpollebfehdnjaaMem
namespace Go.Proofs.Ytpollebfehdnjaa
set_option linter.unusedSimpArgs false
set_option linter.unusedVariables false

/-- strings as the values of their cells -/
def sv (l : List ByteArray) : List Value := l.map .string
theorem sv_length (l : List ByteArray) : (sv l).length = l.length := by simp [sv]
theorem sv_append (a b : List ByteArray) : sv (a ++ b) = sv a ++ sv b := by simp [sv]
theorem sv_drop (l : List ByteArray) (k : Nat) : sv (l.drop k) = (sv l).drop k := by simp [sv, List.map_drop]
theorem sv_take (l : List ByteArray) (k : Nat) : sv (l.take k) = (sv l).take k := by simp [sv, List.map_take]
theorem sv_get (l : List ByteArray) (k : Nat) (h : k < l.length) : (sv l)[k]? = some (.string l[k]) := by simp [sv, List.getElem?_eq_getElem h]
theorem sv_one (l : List ByteArray) : ∀ u ∈ sv l, u.oneCell' = true := by
  intro u hu
  obtain ⟨c, _, rfl⟩ := List.mem_map.1 hu
  rfl
/-- the cell of a string that is read -/
theorem Rd.str {w : World} {lo hi c : Nat} {A : Option Addr} {l : List ByteArray} (h : Rd w lo hi A c (sv l)) {k : Nat} (hk : k < l.length) :
    ∃ b off, A = some ⟨b, off, none⟩ ∧ lo ≤ b ∧ b < hi ∧ w.cell? ⟨b, off + k, none⟩ = some (.string l[k]) := by
  obtain ⟨b, off, e, h1, h2, h3⟩ := h.at_ (by rw [sv_length]; omega)
  exact ⟨b, off, e, h1, h2, h3 k _ (sv_get l k hk)⟩
/-- lists of bytes as strings -/
def strsL (ls : List (List UInt8)) : List ByteArray := ls.map fun l => ⟨l.toArray⟩
theorem strsL_length (ls : List (List UInt8)) : (strsL ls).length = ls.length := by simp [strsL]
theorem strsL_append (a b : List (List UInt8)) : strsL (a ++ b) = strsL a ++ strsL b := by simp [strsL]
end Go.Proofs.Ytpollebfehdnjaa
namespace Go.Proofs.Ytpollebfehdnjaa
set_option linter.unusedSimpArgs false
set_option linter.unusedVariables false

/-- whole numbers as the values of their cells -/
def iv (l : List Int) : List Value := l.map fun z => .int .i64 z
theorem iv_length (l : List Int) : (iv l).length = l.length := by simp [iv]
theorem iv_append (a b : List Int) : iv (a ++ b) = iv a ++ iv b := by simp [iv]
theorem iv_take (l : List Int) (k : Nat) : iv (l.take k) = (iv l).take k := by simp [iv, List.map_take]
theorem iv_get (l : List Int) (k : Nat) (h : k < l.length) : (iv l)[k]? = some (.int .i64 l[k]) := by
  simp [iv, List.getElem?_eq_getElem h]
theorem iv_one (l : List Int) : ∀ u ∈ iv l, u.oneCell' = true := by
  intro u hu
  obtain ⟨c, _, rfl⟩ := List.mem_map.1 hu
  rfl
/-- the cell of a number that is read -/
theorem Rd.num {w : World} {lo hi c : Nat} {A : Option Addr} {zs : List Int} (h : Rd w lo hi A c (iv zs)) {k : Nat} (hk : k < zs.length) :
    ∃ b off, A = some ⟨b, off, none⟩ ∧ lo ≤ b ∧ b < hi ∧ w.cell? ⟨b, off + k, none⟩ = some (.int .i64 zs[k]) := by
  obtain ⟨b, off, e, h1, h2, h3⟩ := h.at_ (by rw [iv_length]; omega)
  exact ⟨b, off, e, h1, h2, h3 k _ (iv_get zs k hk)⟩

def Word (zs : List Int) : Prop := ∀ z ∈ zs, -9223372036854775808 ≤ z ∧ z ≤ 9223372036854775807
theorem Word.take {zs : List Int} (h : Word zs) (k : Nat) : Word (zs.take k) := fun z hz => h z (List.mem_of_mem_take hz)
/-- natural numbers as whole ones -/
def ints (ns : List Nat) : List Int := ns.map fun n : Nat => (n : Int)
theorem ints_length (ns : List Nat) : (ints ns).length = ns.length := by simp [ints]
/-- a list that is written out -/
theorem rd_ints (w : World) (t : TypeId) (zs : List Int) (cs : Array Value) (h : cs.toList = iv zs) (hm : zs.length ≤ 1000) :
    Rd (w.alloc (.cells cs t)) 0 (w.heap.size + 1) (some ⟨w.heap.size, 0, none⟩) zs.length (iv zs) := by
  refine ⟨by rw [iv_length]; exact Nat.le_refl _, by simp only [maxLen]; omega, fun _ => ⟨w.heap.size, 0, rfl, Nat.zero_le _, by omega, fun j u hu => ?_⟩⟩
  rw [Nat.zero_add, (Blk.new w t cs).cell]
  rw [← h] at hu
  simpa using hu
end Go.Proofs.Ytpollebfehdnjaa
namespace Go.Proofs.Ytpollebfehdnjaa
set_option linter.unusedSimpArgs false
set_option linter.unusedVariables false

/-- rows as the values of their cells -/
def lv (l : List Bool) : List Value := l.map fun b => .bool b
theorem lv_length (l : List Bool) : (lv l).length = l.length := by simp [lv]
theorem lv_append (a b : List Bool) : lv (a ++ b) = lv a ++ lv b := by simp [lv]
theorem lv_take (l : List Bool) (k : Nat) : lv (l.take k) = (lv l).take k := by simp [lv, List.map_take]
theorem lv_set (l : List Bool) (j : Nat) (x : Bool) : lv (l.set j x) = (lv l).set j (.bool x) := by simp [lv, List.map_set]
theorem lv_get (l : List Bool) (k : Nat) (h : k < l.length) : (lv l)[k]? = some (.bool l[k]) := by
  simp [lv, List.getElem?_eq_getElem h]
theorem lv_one (l : List Bool) : ∀ u ∈ lv l, u.oneCell' = true := by
  intro u hu
  obtain ⟨c, _, rfl⟩ := List.mem_map.1 hu
  rfl
/-- the cell of a row that is read -/
theorem Rd.row {w : World} {lo hi c : Nat} {A : Option Addr} {l : List Bool} (h : Rd w lo hi A c (lv l)) {k : Nat} (hk : k < l.length) :
    ∃ b off, A = some ⟨b, off, none⟩ ∧ lo ≤ b ∧ b < hi ∧ w.cell? ⟨b, off + k, none⟩ = some (.bool l[k]) := by
  obtain ⟨b, off, e, h1, h2, h3⟩ := h.at_ (by rw [lv_length]; omega)
  exact ⟨b, off, e, h1, h2, h3 k _ (lv_get l k hk)⟩

/-- how many are so -/
def cnt (l : List Bool) : Nat := l.count true
theorem cnt_nil : cnt [] = 0 := rfl
theorem cnt_take (l : List Bool) (k : Nat) (h : k < l.length) : cnt (l.take (k + 1)) = cnt (l.take k) + (l[k]).toNat := by
  unfold cnt
  rw [List.take_succ_eq_append_getElem h, List.count_append]
  cases l[k] <;> rfl
theorem cnt_le (l : List Bool) : cnt l ≤ l.length := List.count_le_length
theorem cnt_take_le (l : List Bool) (k : Nat) : cnt (l.take k) ≤ k := Nat.le_trans (cnt_le _) (by rw [List.length_take]; omega)
theorem cnt_not (l : List Bool) : cnt (l.map not) + cnt l = l.length := by
  unfold cnt
  induction l with
  | nil => rfl
  | cons b r ih => cases b <;> simp <;> omega
theorem cnt_and_or (a b : List Bool) (h : a.length = b.length) : cnt (List.zipWith and a b) + cnt (List.zipWith or a b) = cnt a + cnt b := by
  unfold cnt
  induction a generalizing b with
  | nil =>
    cases b with
    | nil => rfl
    | cons => simp at h
  | cons x r ih =>
    cases b with
    | nil => simp at h
    | cons y s =>
      have := ih s (by simpa using h)
      cases x <;> cases y <;> simp <;> omega
theorem not_not_map (l : List Bool) : (l.map not).map not = l := by simp [List.map_map, Function.comp_def]
theorem not_zip (a b : List Bool) : (List.zipWith and a b).map not = List.zipWith or (a.map not) (b.map not) := by
  induction a generalizing b with
  | nil => simp
  | cons x r ih =>
    cases b with
    | nil => simp
    | cons y s => simp [ih, Bool.not_and]
/-- rows that are written out -/
theorem rd_bools (w : World) (t : TypeId) (l : List Bool) (cs : Array Value) (h : cs.toList = lv l) (hm : l.length ≤ 1000) :
    Rd (w.alloc (.cells cs t)) 0 (w.heap.size + 1) (some ⟨w.heap.size, 0, none⟩) l.length (lv l) := by
  refine ⟨by rw [lv_length]; exact Nat.le_refl _, by simp only [maxLen]; omega, fun _ => ⟨w.heap.size, 0, rfl, Nat.zero_le _, by omega, fun j u hu => ?_⟩⟩
  rw [Nat.zero_add, (Blk.new w t cs).cell]
  rw [← h] at hu
  simpa using hu
end Go.Proofs.Ytpollebfehdnjaa
namespace Go.Proofs.Ytpollebfehdnjaa
set_option linter.unusedSimpArgs false
set_option linter.unusedVariables false

/-- -1, 0, 1: byte by byte -/
def cmpL : List UInt8 → List UInt8 → Int
  | [], [] => 0
  | [], _ :: _ => -1
  | _ :: _, [] => 1
  | x :: a, y :: b => if x.toNat < y.toNat then -1 else if y.toNat < x.toNat then 1 else cmpL a b
theorem cmpL_same : ∀ (a : List UInt8), cmpL a a = 0
  | [] => rfl
  | x :: a => by simp [cmpL, cmpL_same a]
theorem cmpL_zero : ∀ {a b : List UInt8}, cmpL a b = 0 → a = b
  | [], [], _ => rfl
  | [], _ :: _, h => by simp [cmpL] at h
  | _ :: _, [], h => by simp [cmpL] at h
  | x :: a, y :: b, h => by
    unfold cmpL at h
    split at h
    · cases h
    · split at h
      · cases h
      · have hx : x = y := UInt8.toNat_inj.1 (by omega)
        rw [hx, cmpL_zero h]
theorem cmpL_zero_iff {a b : List UInt8} : cmpL a b = 0 ↔ a = b := ⟨cmpL_zero, fun h => by rw [h, cmpL_same]⟩
theorem cmpL_turn : ∀ (a b : List UInt8), cmpL b a = - cmpL a b
  | [], [] => rfl
  | [], _ :: _ => rfl
  | _ :: _, [] => rfl
  | x :: a, y :: b => by
    unfold cmpL
    by_cases h1 : x.toNat < y.toNat
    · rw [if_pos h1, if_neg (by omega), if_pos h1]; rfl
    · by_cases h2 : y.toNat < x.toNat
      · rw [if_pos h2, if_neg h1, if_pos h2]
      · rw [if_neg h1, if_neg h2, if_neg h2, if_neg h1, cmpL_turn a b]
theorem cmpL_three (a b : List UInt8) : cmpL a b = -1 ∨ cmpL a b = 0 ∨ cmpL a b = 1 := by
  induction a generalizing b with
  | nil => cases b <;> simp [cmpL]
  | cons x a ih =>
    cases b with
    | nil => simp [cmpL]
    | cons y b =>
      unfold cmpL
      split
      · simp
      · split
        · simp
        · exact ih b
/-- what stands ahead in both tells nothing -/
theorem cmpL_ahead : ∀ (p a b : List UInt8), cmpL (p ++ a) (p ++ b) = cmpL a b
  | [], a, b => rfl
  | x :: p, a, b => by simp [cmpL, cmpL_ahead p a b]
/-- beginnings of k bytes, if they aren't alike, tell all -/
theorem cmpL_take : ∀ (k : Nat) (a b : List UInt8), a.take k ≠ b.take k → cmpL (a.take k) (b.take k) = cmpL a b
  | 0, a, b, h => absurd (by simp) h
  | k + 1, [], [], h => absurd rfl h
  | k + 1, [], _ :: _, _ => by simp [cmpL]
  | k + 1, _ :: _, [], _ => by simp [cmpL]
  | k + 1, x :: a, y :: b, h => by
    simp only [List.take_succ_cons, cmpL]
    by_cases h1 : x.toNat < y.toNat
    · rw [if_pos h1, if_pos h1]
    · by_cases h2 : y.toNat < x.toNat
      · rw [if_neg h1, if_neg h1, if_pos h2, if_pos h2]
      · rw [if_neg h1, if_neg h1, if_neg h2, if_neg h2]
        have hx : x = y := UInt8.toNat_inj.1 (by omega)
        exact cmpL_take k a b (fun e => h (by simp [hx, e]))
/-- beginnings that are alike: the rest tells -/
theorem cmpL_drop {k : Nat} {a b : List UInt8} (h : a.take k = b.take k) : cmpL (a.drop k) (b.drop k) = cmpL a b := by
  have h1 := cmpL_ahead (a.take k) (a.drop k) (b.drop k)
  rw [List.take_append_drop] at h1
  rw [← h1, h, List.take_append_drop]
/-- the first k bytes are alike, the next aren't -/
theorem cmpL_at {k : Nat} {a b : List UInt8} (h : a.take k = b.take k) (ha : k < a.length) (hb : k < b.length) (hne : a[k] ≠ b[k]) : cmpL a b = if a[k].toNat < b[k].toNat then -1 else 1 := by
  rw [← cmpL_drop h, List.drop_eq_getElem_cons ha, List.drop_eq_getElem_cons hb]
  have hn : a[k].toNat ≠ b[k].toNat := fun e => hne (UInt8.toNat_inj.1 e)
  unfold cmpL
  by_cases h1 : a[k].toNat < b[k].toNat
  · rw [if_pos h1, if_pos h1]
  · rw [if_neg h1, if_neg h1, if_pos (by omega)]
/-- one is the other's beginning -/
theorem cmpL_end {k : Nat} {a b : List UInt8} (h : a.take k = b.take k) (hk : k = min a.length b.length) : cmpL a b = if a.length < b.length then -1 else if b.length < a.length then 1 else 0 := by
  rw [← cmpL_drop h]
  subst hk
  rcases Nat.lt_trichotomy a.length b.length with h1 | h1 | h1
  · rw [if_pos h1, Nat.min_eq_left (by omega), List.drop_length, List.drop_eq_getElem_cons h1]
    rfl
  · rw [if_neg (by omega), if_neg (by omega), Nat.min_eq_left (by omega), List.drop_length, List.drop_eq_nil_of_le (by omega)]
    rfl
  · rw [if_neg (by omega), if_pos h1, Nat.min_eq_right (by omega), List.drop_length, List.drop_eq_getElem_cons h1]
    rfl
end Go.Proofs.Ytpollebfehdnjaa
