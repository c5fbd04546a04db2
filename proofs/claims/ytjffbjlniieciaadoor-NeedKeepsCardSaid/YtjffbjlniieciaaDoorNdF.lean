/-
  What a predicate says of a row, in plain.
-/
import Derived.Test.YtjffbjlniieciaaDoorNdC
import Derived.Test.YtjffbjlniieciaaDoorNdD
namespace Go.Proofs.YtjffbjlniieciaaDoor
set_option linter.unusedSimpArgs false
set_option linter.unusedVariables false

theorem parse_le {esc : Int} : ∀ (l : List UInt8) (ns : List Nat), parseL esc l = some ns → (∀ n ∈ ns, n ≤ 257) ∧ ns.length ≤ l.length
  | [], ns, h => by
    rw [parseL, Option.some.injEq] at h
    subst h
    exact ⟨by simp, by simp⟩
  | [x], ns, h => by
    rw [parseL] at h
    split at h
    · cases h
    · rw [Option.some.injEq] at h
      subst h
      refine ⟨fun n hn => ?_, by simp⟩
      rw [List.mem_singleton.1 hn, sgn]
      have := UInt8.toNat_lt x
      split
      · omega
      · split <;> omega
  | x :: y :: t, ns, h => by
    rw [parseL] at h
    split at h
    · cases ht : parseL esc t with
      | none => rw [ht] at h; cases h
      | some ms =>
        rw [ht, Option.map_some, Option.some.injEq] at h
        subst h
        have ih := parse_le t ms ht
        refine ⟨fun n hn => ?_, by rw [List.length_cons, List.length_cons, List.length_cons]; have := ih.2; omega⟩
        rcases List.mem_cons.1 hn with hn | hn
        · have := UInt8.toNat_lt y
          omega
        · exact ih.1 n hn
    · cases ht : parseL esc (y :: t) with
      | none => rw [ht] at h; cases h
      | some ms =>
        rw [ht, Option.map_some, Option.some.injEq] at h
        subst h
        have ih := parse_le (y :: t) ms ht
        refine ⟨fun n hn => ?_, by rw [List.length_cons, List.length_cons]; have := ih.2; omega⟩
        rcases List.mem_cons.1 hn with hn | hn
        · rw [hn, sgn]
          have := UInt8.toNat_lt x
          split
          · omega
          · split <;> omega
        · exact ih.1 n hn
theorem parseF_le {esc : Int} {l : List UInt8} {ns : List Nat} (h : parseF esc l = some ns) : (∀ n ∈ ns, n ≤ 257) ∧ ns.length ≤ l.length := by
  unfold parseF at h
  split at h
  · cases h
  · exact parse_le l ns h

theorem rightP_head {p : Pr} {cols deep : Int} (h : rightP p cols deep = true) (hk : 12 ≤ p.kind) : p.kind ≤ 14 ∧ p.kids.length ≤ 16 ∧ 1 ≤ p.kids.length ∧ (p.kind = 14 → p.kids.length = 1) ∧ ∀ q ∈ p.kids, rightP q cols (deep - 1) = true := by
  rw [rightP_eq] at h
  split at h
  · cases h
  · rename_i h1
    rw [Bool.and_eq_true, decide_eq_true_eq, List.all_eq_true] at h
    obtain ⟨⟨_, _, _, _, h2, h3, h4⟩, h5⟩ := h
    exact ⟨by omega, h3, h2, h4, h5⟩
theorem rightP_leaf {p : Pr} {cols deep : Int} (h : rightP p cols deep = true) (hk : ¬ 12 ≤ p.kind) : 1 ≤ p.kind ∧ 0 ≤ p.col ∧ p.col < cols ∧ p.s.size ≤ 4096 ∧ p.kids = [] ∧ (p.kind = 10 → ∃ ns, parseF p.esc p.s.data.toList = some ns) := by
  rw [rightP_eq] at h
  split at h
  · cases h
  · rename_i h1
    rw [Bool.and_eq_true, decide_eq_true_eq] at h
    obtain ⟨⟨h0, h2, h3, h4, _⟩, h5⟩ := h
    refine ⟨by omega, h2, h3, h4, List.length_eq_zero_iff.1 h0, fun h6 => ?_⟩
    rw [if_pos h6, Option.isSome_iff_exists] at h5
    exact h5

def bitI (b : Bool) : Int := if b then 1 else 0
/-- And, Or, Not: of how many kids No, Yes, Unknown are said -/
def headS (kd : Int) (no yes un : Nat) : Int := if kd = 12 ∧ 0 < no ∨ kd = 13 ∧ yes = 0 ∧ un = 0 ∨ kd = 14 ∧ 0 < yes then 0 else if kd = 13 ∧ 0 < yes ∨ kd ≠ 13 ∧ un = 0 then 1 else 2
def compS (kd z : Int) : Bool := decide (kd = 1 ∧ z = 0 ∨ kd = 2 ∧ z ≠ 0 ∨ kd = 3 ∧ z < 0 ∨ kd = 4 ∧ z ≤ 0 ∨ kd = 5 ∧ 0 < z ∨ kd = 6 ∧ 0 ≤ z)
/-- what one without kids says of a value -/
def valS (kd co ec : Int) (s : ByteArray) (v : Vl) : Int :=
  if kd = 11 then bitI v.null else if v.null = true then 2 else
  if kd = 7 then bitI (begS v.s s) else if kd = 8 then bitI (endS v.s s) else if kd = 9 then bitI (hasS v.s s)
  else if kd = 10 then bitI (mat ((parseF ec s.data.toList).getD []) v.s.data.toList) else bitI (compS kd (cmpS v.s s co))
def other (x : Int) : Bool := !(x == 0) && !(x == 1)
/-- what a predicate says of a row -/
def saysP (p : Pr) (row : List Vl) : Int :=
  if 12 ≤ p.kind then headS p.kind ((p.kids.attach.map fun q => saysP q.1 row).count 0) ((p.kids.attach.map fun q => saysP q.1 row).count 1) ((p.kids.attach.map fun q => saysP q.1 row).countP other)
  else valS p.kind p.coll p.esc p.s (row[p.col.toNat]?.getD ⟨true, ⟨#[]⟩⟩)
termination_by SizeOf.sizeOf p
decreasing_by all_goals exact Pr.kid_lt q.2
theorem saysP_eq (p : Pr) (row : List Vl) : saysP p row =
    if 12 ≤ p.kind then headS p.kind ((p.kids.map fun q => saysP q row).count 0) ((p.kids.map fun q => saysP q row).count 1) ((p.kids.map fun q => saysP q row).countP other)
    else valS p.kind p.coll p.esc p.s (row[p.col.toNat]?.getD ⟨true, ⟨#[]⟩⟩) := by
  rw [saysP]
  have h : (p.kids.attach.map fun q => saysP q.1 row) = p.kids.map fun q => saysP q row := by simp
  rw [h]
/-- of how many each is said -/
structure Tal (l : List Int) (a b u : Nat) : Prop where
  no : l.count 0 = a
  yes : l.count 1 = b
  un : l.countP other = u
theorem Tal.nil : Tal [] 0 0 0 := ⟨rfl, rfl, rfl⟩
theorem Tal.no1 {l : List Int} {a b u : Nat} (h : Tal l a b u) : Tal (l ++ [0]) (a + 1) b u := ⟨by rw [List.count_append, h.no]; rfl, by rw [List.count_append, h.yes]; rfl, by rw [List.countP_append, h.un]; rfl⟩
theorem Tal.yes1 {l : List Int} {a b u : Nat} (h : Tal l a b u) : Tal (l ++ [1]) a (b + 1) u := ⟨by rw [List.count_append, h.no]; rfl, by rw [List.count_append, h.yes]; rfl, by rw [List.countP_append, h.un]; rfl⟩
theorem Tal.un1 {l : List Int} {a b u : Nat} {x : Int} (h : Tal l a b u) (h0 : x ≠ 0) (h1 : x ≠ 1) : Tal (l ++ [x]) a b (u + 1) := by
  have e0 : (x == 0) = false := by rw [beq_eq_false_iff_ne]; exact h0
  have e1 : (x == 1) = false := by rw [beq_eq_false_iff_ne]; exact h1
  refine ⟨?_, ?_, ?_⟩
  · rw [List.count_append, h.no]
    simp [List.count_cons, e0]
  · rw [List.count_append, h.yes]
    simp [List.count_cons, e1]
  · rw [List.countP_append, h.un]
    simp [other, e0, e1]
end Go.Proofs.YtjffbjlniieciaaDoor
