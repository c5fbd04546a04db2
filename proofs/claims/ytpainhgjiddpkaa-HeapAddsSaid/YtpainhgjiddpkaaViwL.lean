/-
  Lists of views: their cells, sixteen each; one more put behind them; one of them read. No program is named here.
-/
import Derived.Test.YtpainhgjiddpkaaVewM
import Derived.Deep.MidRow
namespace Go.Proofs.Ytpainhgjiddpkaa
set_option linter.unusedSimpArgs false
set_option linter.unusedVariables false
open Go.RowKit

/-- views' cells, one view's behind the other's -/
def vvs (ls : List (List UInt8)) : List Value := ls.flatMap bv
theorem vvs_snoc (ls : List (List UInt8)) (l : List UInt8) : vvs (ls ++ [l]) = vvs ls ++ bv l := by simp [vvs]
theorem vvs_one (ls : List (List UInt8)) : ∀ u ∈ vvs ls, u.oneCell' = true := by
  intro u hu
  obtain ⟨l, _, h⟩ := List.mem_flatMap.1 hu
  exact bv_one l u h
/-- all of them sixteen bytes -/
def All16 (ls : List (List UInt8)) : Prop := ∀ l ∈ ls, l.length = 16
theorem All16.nil : All16 [] := by intro l h; cases h
theorem All16.snoc {ls : List (List UInt8)} {l : List UInt8} (h : All16 ls) (hl : l.length = 16) : All16 (ls ++ [l]) := by
  intro x hx
  rcases List.mem_append.1 hx with hx | hx
  · exact h x hx
  · rw [List.mem_singleton.1 hx, hl]
theorem vvs_length : ∀ {ls : List (List UInt8)}, All16 ls → (vvs ls).length = ls.length * 16
  | [], _ => rfl
  | l :: ls, h => by
    have h1 := vvs_length (ls := ls) (fun x hx => h x (List.mem_cons_of_mem _ hx))
    have h2 := h l List.mem_cons_self
    simp only [vvs, List.flatMap_cons, List.length_append, bv_length, List.length_cons] at h1 ⊢
    omega
theorem vvs_at : ∀ {ls : List (List UInt8)} {i : Nat} (hi : i < ls.length), All16 ls → ∀ {j : Nat}, j < 16 → (vvs ls)[i * 16 + j]? = (bv ls[i])[j]?
  | l :: ls, 0, _, h, j, hj => by
    have h2 := h l List.mem_cons_self
    rw [Nat.zero_mul, Nat.zero_add]
    show (bv l ++ vvs ls)[j]? = _
    rw [List.getElem?_append_left (by rw [bv_length, h2]; exact hj)]
    rfl
  | l :: ls, i + 1, hi, h, j, hj => by
    have h2 := h l List.mem_cons_self
    show (bv l ++ vvs ls)[(i + 1) * 16 + j]? = _
    rw [List.getElem?_append_right (by rw [bv_length, h2]; omega), bv_length, h2, show (i + 1) * 16 + j - 16 = i * 16 + j by omega]
    exact vvs_at (ls := ls) (i := i) (by simpa using hi) (fun x hx => h x (List.mem_cons_of_mem _ hx)) hj

/-- one of a row's views, as cells that lie in its block -/
theorem own_view {w : World} {base n c : Nat} {A : Option Addr} {e : TypeId} {ls : List (List UInt8)} (h : w.ownsRow base e 16 (.slice A n c) n (vvs ls)) (h16 : All16 ls) {i : Nat} (hi : i < ls.length) :
    ∃ g, A = some ⟨g, 0, none⟩ ∧ base ≤ g ∧ g < w.heap.size ∧ w.rangeAt g (i * 16) (bv ls[i]) := by
  have hl := h.1
  rw [vvs_length h16] at hl
  rcases h.2 with ⟨_, h0⟩ | ⟨g, cap, cur, hv, hb, hg, hnc, hcm, hcs, htake⟩
  · omega
  · injection hv with h1 h2 h3
    refine ⟨g, h1, hb, (Array.getElem?_eq_some_iff.1 hg).1, fun j v hj => ?_⟩
    have h16l := h16 ls[i] (List.getElem_mem hi)
    have hj16 : j < 16 := by
      have := (List.getElem?_eq_some_iff.1 hj).1
      rw [bv_length, h16l] at this
      exact this
    rw [cell_of_row w g _ cur e (0, 0) hg]
    have hx := vvs_at hi h16 hj16
    rw [hj, ← htake, List.getElem?_take] at hx
    split at hx
    · simpa using hx
    · cases hx

section
variable {P : Program}
/-- append of one view that a new block holds -/
theorem wpList_push_view {ops : Array Oper} {rest : List Oper} {o : Oper} {a : Act} {Q : Exit → Act → World → Prop} {w : World} {v : Value} {g : Nat} {t e : TypeId} (i : TypeInfo) (z : Value) (ht : P.underlying t = some (.slice e)) (hi : P.info? e = some i) (hz : i.zero = some z)
    (hsize : i.size = 16) (hby : i.bytes = 16) (hzs : z.cells.size = 16) (base : Nat) (ls : List (List UInt8)) (l : List UInt8) (hl : l.length = 16) (hgd : o.guard = none) (s x : Operand)
    (ho : o.op = .call { callee := .builtin .append, args := #[s, x], argTypes := #[t, t] })
    (hs : a.eval s = v) (hx : a.eval x = .slice (some ⟨g, 0, none⟩) 1 1) (hcells : w.rangeAt g 0 (bv l))
    (hown : w.ownsRow base e 16 v ls.length (vvs ls)) (hb : ls.length + 1 ≤ 1000000000) (hbase : base ≤ w.heap.size)
    (h : ∀ A' c' w', w'.ownsRow base e 16 (.slice A' (ls ++ [l]).length c') (ls ++ [l]).length (vvs (ls ++ [l])) → w.grownBy w' v.ownBlock → wpList P ops Q rest (a.put o.dst (.slice A' (ls.length + 1) c')) w') :
    wpList P ops Q (o :: rest) a w := by
  refine wpList_append_own w hgd s x t ho base e i z 16 16 ht hi hz hsize hby hzs (by omega) v ls.length (vvs ls) hs hown ⟨g, 0, none⟩ 1 1 (bv l) hx (by rw [bv_length, hl]) (fun j u hu => ?_) (bv_one l) (by simp only [maxLen]; omega) (by omega) hbase (fun v' w' h2 h3 h4 => ?_)
  · have := hcells j u hu
    rwa [Nat.zero_add, show (⟨g, j, none⟩ : Addr) = (⟨g, 0, none⟩ : Addr).add j from by unfold Addr.add; by_cases h0 : j = 0 <;> simp [h0]] at this
  · obtain ⟨A', c', rfl, _⟩ := own_form w' h2
    refine h A' c' w' ?_ h3
    rw [vvs_snoc, List.length_append]
    exact h2
end
end Go.Proofs.Ytpainhgjiddpkaa
