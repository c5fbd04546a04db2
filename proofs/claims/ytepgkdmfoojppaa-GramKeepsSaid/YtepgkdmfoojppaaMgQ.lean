/-
  Filters in plain: what has its bit; grams of parts.
  Filters in plain: what is right; grams of parts; what has its bit; what is taken from bytes.
-/
import Derived.Test.YtepgkdmfoojppaaMgG
import Derived.Test.YtepgkdmfoojppaaConM
namespace Go.Proofs.Ytepgkdmfoojppaa
set_option linter.unusedSimpArgs false
set_option linter.unusedVariables false

/-- a gram's bit is set just where one of the grams has it -/
theorem setB_get (b : Nat) (hb : 0 < b) (ts : List Nat) (k : Nat) (hk : k < b) : (setB b ts).getD k false = true ↔ ∃ g ∈ ts, bitG g b = k := by
  have key : ∀ (ts : List Nat) (r : List Bool), r.length = b → ((ts.foldl (fun r g => r.set (bitG g b) true) r).getD k false = true ↔ r.getD k false = true ∨ ∃ g ∈ ts, bitG g b = k) := by
    intro ts
    induction ts with
    | nil => intro r _; simp
    | cons g ts ih =>
      intro r hr
      rw [List.foldl_cons, ih _ (by simpa using hr)]
      have e : (r.set (bitG g b) true).getD k false = true ↔ r.getD k false = true ∨ bitG g b = k := by
        by_cases hg : bitG g b = k
        · subst hg
          simp [List.getD, List.getElem?_set, hr, hk]
        · simp [List.getD, List.getElem?_set, hg]
      rw [e]
      constructor
      · rintro ((h | h) | ⟨x, hx, h⟩)
        · exact .inl h
        · exact .inr ⟨g, List.mem_cons_self, h⟩
        · exact .inr ⟨x, List.mem_cons_of_mem _ hx, h⟩
      · rintro (h | ⟨x, hx, h⟩)
        · exact .inl (.inl h)
        · rcases List.mem_cons.1 hx with rfl | hx
          · exact .inl (.inr h)
          · exact .inr ⟨x, hx, h⟩
  have h := key ts (List.replicate b false) (by simp)
  rw [setB, h]
  constructor
  · rintro (h | h)
    · simp [List.getD, List.getElem?_replicate, hk] at h
    · exact h
  · exact .inr
theorem bitG_lt (g : Nat) {b : Nat} (hb : 0 < b) : bitG g b < b := Nat.mod_lt _ hb
theorem has_set {b : Nat} (hb : 0 < b) {t : List Nat} {g : Nat} (hg : g ∈ t) : hasF b [] (setB b t) g = true := by
  unfold hasF
  rw [if_pos hb, setB_get b hb t _ (bitG_lt g hb)]
  exact ⟨g, hg, rfl⟩
theorem has_list (t : List Nat) (rs : List Bool) (g : Nat) : hasF 0 t rs g = decide (g ∈ t) := by
  unfold hasF
  rw [if_neg (Nat.lt_irrefl 0)]
/-- grams of a part are grams of the whole -/
theorem grams_infix {x s : List UInt8} (h : List.IsInfix x s) {g : Nat} (hg : g ∈ gramsL x) : g ∈ gramsL s := by
  obtain ⟨a, b, rfl⟩ := h
  obtain ⟨k, hk, rfl⟩ := mem_gramsL.1 hg
  refine mem_gramsL.2 ⟨a.length + k, by simp; omega, ?_⟩
  have e : ∀ j, j < x.length → ∀ h, (a ++ x ++ b)[a.length + j]'h = x[j]! := fun j hj h => by
    rw [List.getElem_append_left (by simp; omega), List.getElem_append_right (by omega)]
    simp [hj]
  have e0 := e k (by omega) (by simp; omega)
  have e1 := e (k + 1) (by omega) (by simp; omega)
  have e2 := e (k + 2) (by omega) (by simp; omega)
  have f0 : x[k]! = x[k] := by simp [show k < x.length by omega]
  have f1 : x[k + 1]! = x[k + 1] := by simp [show k + 1 < x.length by omega]
  have f2 : x[k + 2]! = x[k + 2] := by simp [show k + 2 < x.length by omega]
  rw [e0, f0]
  rw [show (a ++ x ++ b)[a.length + k + 1]'(by simp; omega) = x[k + 1] from e1.trans f1, show (a ++ x ++ b)[a.length + k + 2]'(by simp; omega) = x[k + 2] from e2.trans f2]
/-- three bytes stand in a string just where their gram does -/
theorem gram_stands (s : List UInt8) (a b c : UInt8) : gramN a b c ∈ gramsL s ↔ List.IsInfix [a, b, c] s := by
  constructor
  · intro h
    obtain ⟨k, hk, e⟩ := mem_gramsL.1 h
    obtain ⟨rfl, rfl, rfl⟩ := gramN_inj e
    refine ⟨s.take k, s.drop (k + 3), ?_⟩
    have e3 : s.drop k = s[k] :: s[k + 1] :: s[k + 2] :: s.drop (k + 3) := by
      rw [List.drop_eq_getElem_cons (by omega), List.drop_eq_getElem_cons (show k + 1 < s.length by omega), List.drop_eq_getElem_cons (show k + 1 + 1 < s.length by omega)]
    rw [List.append_assoc, List.cons_append, List.cons_append, List.cons_append, List.nil_append, ← e3, List.take_append_drop]
  · intro h
    exact grams_infix h (mem_gramsL.2 ⟨0, by simp, by simp⟩)
theorem drop_infix (s : List UInt8) (k : Nat) : List.IsInfix (s.drop k) s := (List.drop_suffix k s).isInfix
theorem mem_allL {l : List (List UInt8)} {g : Nat} : g ∈ allL l ↔ ∃ s ∈ l, g ∈ gramsL s := List.mem_flatMap
end Go.Proofs.Ytepgkdmfoojppaa
namespace Go.Proofs.Ytepgkdmfoojppaa
set_option linter.unusedSimpArgs false
set_option linter.unusedVariables false

/-- a filter that Make or Read answers -/
structure FilG (b : Nat) (gs : List Nat) (rs : List Bool) : Prop where
  le : b ≤ 65536
  rows : rs.length = b
  none : 0 < b → gs = []
  up : gs.Pairwise (· < ·)
  lt : ∀ g ∈ gs, g < 16777216
  few : gs.length ≤ 65536
theorem allL_lt {l : List (List UInt8)} {g : Nat} (h : g ∈ allL l) : g < 16777216 := by
  obtain ⟨s, _, hs⟩ := List.mem_flatMap.1 h
  exact gramsL_lt hs
theorem FilG.list {l : List (List UInt8)} {t : List Nat} (h : Rise (allL l) t) (hn : (allL l).length ≤ 65536) : FilG 0 t [] :=
  ⟨by omega, rfl, fun h => absurd h (Nat.lt_irrefl 0), h.up, fun g hg => allL_lt ((h.mem g).1 hg), Nat.le_trans h.len hn⟩
theorem FilG.set {b : Nat} (t : List Nat) (hb : b ≤ 65536) : FilG b [] (setB b t) :=
  ⟨hb, setB_length b t, fun _ => rfl, List.Pairwise.nil, fun g hg => absurd hg List.not_mem_nil, by simp⟩
/-- what was taken from bytes, and where it ended: a filter that stands so, or none and an error; what stands so is taken -/
structure TakeG (bs : List UInt8) (k : Nat) (e : Int) (b : Nat) (gs : List Nat) (rs : List Bool) (k' : Nat) (e' : Int) : Prop where
  bad : e' ≠ 0 → b = 0 ∧ gs = [] ∧ rs = []
  good : e' = 0 → e = 0 ∧ FilG b gs rs ∧ bs.drop k = writeG b gs rs ++ bs.drop k' ∧ k' = k + (writeG b gs rs).length ∧ k' ≤ bs.length
  there : ∀ b0 gs0 rs0 rest, e = 0 → FilG b0 gs0 rs0 → bs.drop k = writeG b0 gs0 rs0 ++ rest → e' = 0 ∧ b = b0 ∧ gs = gs0 ∧ rs = rs0
/-- how long a filter's bytes are -/
theorem writeG_zero (b : Nat) (gs : List Nat) (rs : List Bool) : 0 < (writeG b gs rs).length := by
  unfold writeG
  split <;> (rw [List.length_append]; have := putL_pos b; have := putL_pos 0; omega)
end Go.Proofs.Ytepgkdmfoojppaa
