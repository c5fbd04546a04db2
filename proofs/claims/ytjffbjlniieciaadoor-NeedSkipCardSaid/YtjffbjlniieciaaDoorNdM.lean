/-
  Predicates in plain: how many parts, is it small.
-/
import Derived.Test.YtjffbjlniieciaaDoorPrdM
namespace Go.Proofs.YtjffbjlniieciaaDoor
set_option linter.unusedSimpArgs false
set_option linter.unusedVariables false

/-- how many parts, up to some -/
def sizeP (p : Pr) (most : Int) : Int := p.kids.attach.foldl (fun n q => if n ≤ most then n + sizeP q.1 (most - n) else n) 1
termination_by SizeOf.sizeOf p
decreasing_by exact Pr.kid_lt q.2
/-- one part more -/
def sizeS (most n : Int) (q : Pr) : Int := if n ≤ most then n + sizeP q (most - n) else n
theorem sizeP_eq (p : Pr) (most : Int) : sizeP p most = p.kids.foldl (sizeS most) 1 := by
  rw [sizeP]
  have h := List.foldl_attach (l := p.kids) (f := sizeS most) (b := 1)
  rw [← h]
  rfl
theorem sizeS_le {most : Int} : ∀ (l : List Pr) (n : Int), 1 ≤ n → n ≤ most + 1 → (∀ q ∈ l, ∀ m : Int, 1 ≤ sizeP q m ∧ (0 ≤ m → sizeP q m ≤ m + 1)) → 1 ≤ l.foldl (sizeS most) n ∧ l.foldl (sizeS most) n ≤ most + 1
  | [], n, h1, h2, _ => ⟨h1, h2⟩
  | q :: l, n, h1, h2, h => by
    rw [List.foldl_cons]
    have hq := h q List.mem_cons_self
    unfold sizeS
    by_cases hn : n ≤ most
    · rw [if_pos hn]
      have h3 := hq (most - n)
      have h4 := h3.2 (by omega)
      exact sizeS_le l _ (by omega) (by omega) fun q' h' => h q' (List.mem_cons_of_mem _ h')
    · rw [if_neg hn]
      exact sizeS_le l n h1 h2 fun q' h' => h q' (List.mem_cons_of_mem _ h')
theorem sizeS_stop {most : Int} : ∀ (l : List Pr) (n : Int), ¬ n ≤ most → l.foldl (sizeS most) n = n
  | [], n, _ => rfl
  | q :: l, n, h => by
    rw [List.foldl_cons, sizeS, if_neg h]
    exact sizeS_stop l n h
theorem sizeP_bound : ∀ p : Pr, ∀ m : Int, 1 ≤ sizeP p m ∧ (0 ≤ m → sizeP p m ≤ m + 1) := Pr.ind fun p ih m => by
  rw [sizeP_eq]
  by_cases hm : 0 ≤ m
  · have := sizeS_le (most := m) p.kids 1 (by omega) (by omega) ih
    exact ⟨this.1, fun _ => this.2⟩
  · rw [sizeS_stop p.kids 1 (by omega)]
    exact ⟨by omega, fun h => absurd h hm⟩
theorem sizeP_take {p : Pr} {most : Int} {k : Nat} (hk : k < p.kids.length) : (p.kids.take (k + 1)).foldl (sizeS most) 1 = sizeS most ((p.kids.take k).foldl (sizeS most) 1) p.kids[k] := by
  rw [List.take_succ_eq_append_getElem hk, List.foldl_append]
  rfl
theorem sizeP_stop {p : Pr} {most : Int} {k : Nat} (h : ¬ (p.kids.take k).foldl (sizeS most) 1 ≤ most) : sizeP p most = (p.kids.take k).foldl (sizeS most) 1 := by
  rw [sizeP_eq]
  conv => lhs; rw [← List.take_append_drop k p.kids]
  rw [List.foldl_append, sizeS_stop _ _ h]
/-- has a predicate few parts, with short strings? -/
def smallP (p : Pr) (deep : Int) : Bool := !decide (deep < 0) && !decide (300 < p.s.size) && !decide (20 < p.kids.length) && !decide (80 < sizeP p 100) && p.kids.attach.all (fun q => smallP q.1 (deep - 1))
termination_by SizeOf.sizeOf p
decreasing_by exact Pr.kid_lt q.2
theorem smallP_eq (p : Pr) (deep : Int) : smallP p deep = (!decide (deep < 0) && !decide (300 < p.s.size) && !decide (20 < p.kids.length) && !decide (80 < sizeP p 100) && p.kids.all (fun q => smallP q (deep - 1))) := by
  rw [smallP]
  congr 1
  rw [Bool.eq_iff_iff, List.all_eq_true, List.all_eq_true]
  exact ⟨fun h q hq => h ⟨q, hq⟩ (List.mem_attach _ _), fun h q _ => h q.1 q.2⟩
theorem smallP_of {p : Pr} {deep : Int} (h : smallP p deep = true) : 0 ≤ deep ∧ p.s.size ≤ 300 ∧ p.kids.length ≤ 20 ∧ sizeP p 100 ≤ 80 ∧ ∀ q ∈ p.kids, smallP q (deep - 1) = true := by
  rw [smallP_eq] at h
  simp only [Bool.and_eq_true, Bool.not_eq_true', decide_eq_false_iff_not, List.all_eq_true] at h
  obtain ⟨⟨⟨⟨h1, h2⟩, h3⟩, h4⟩, h5⟩ := h
  exact ⟨by omega, by omega, by omega, by omega, h5⟩
end Go.Proofs.YtjffbjlniieciaaDoor
