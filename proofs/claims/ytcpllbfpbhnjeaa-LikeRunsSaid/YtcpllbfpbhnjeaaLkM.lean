/-
  Matching by going back to the last sign of any bytes, in plain: what holds at the try, and ahead of going back.
-/
import Derived.Test.YtcpllbfpbhnjeaaLikN
namespace Go.Proofs.Ytcpllbfpbhnjeaa
set_option linter.unusedSimpArgs false
set_option linter.unusedVariables false

theorem dropN {ns : List Nat} {i : Nat} (h : i < ns.length) : ns.drop i = ns[i] :: ns.drop (i + 1) := List.drop_eq_getElem_cons h
/-- signs and bytes done up to i and k; the last sign of any bytes that was met, and where its bytes end -/
def Tries (ns : List Nat) (l : List UInt8) (v : Bool) (i k : Nat) (la en : Int) : Prop :=
  i ≤ ns.length ∧ k ≤ l.length ∧ ((la = -1 ∧ en = -1 ∧ mat (ns.drop i) (l.drop k) = v) ∨
    ∃ L e : Nat, la = (L : Int) ∧ en = (e : Int) ∧ L ≤ i ∧ k = e + (i - L) ∧ (∀ c ∈ (ns.take i).drop L, c ≠ 257) ∧
      mat (257 :: ns.drop L) (l.drop e) = v ∧ mat (ns.drop L) (l.drop e) = mat (ns.drop i) (l.drop k))
/-- what stands there ahead of going back: one byte more of the last sign of any bytes, or none matches -/
def Backs (ns : List Nat) (l : List UInt8) (v : Bool) (la en : Int) : Prop :=
  (la = -1 ∧ en = -1 ∧ v = false) ∨ ∃ L e : Nat, la = (L : Int) ∧ en = (e : Int) ∧ L ≤ ns.length ∧ e < l.length ∧ mat (257 :: ns.drop L) (l.drop (e + 1)) = v

section
variable {ns : List Nat} {l : List UInt8} {v : Bool} {i k : Nat} {la en : Int}
theorem tries_start (h : mat ns l = v) : Tries ns l v 0 0 (-1) (-1) := ⟨Nat.zero_le _, Nat.zero_le _, Or.inl ⟨rfl, rfl, h⟩⟩
theorem Tries.end_le (h : Tries ns l v i k la en) : -1 ≤ en ∧ en ≤ k := by
  obtain ⟨_, _, ⟨_, rfl, _⟩ | ⟨L, e, _, rfl, _, hk, _⟩⟩ := h <;> omega
theorem seg_take {L : Nat} (hL : L ≤ i) (hi : i ≤ ns.length) : ns.drop L = (ns.take i).drop L ++ ns.drop i := by
  conv => lhs; rw [← List.take_append_drop i ns]
  rw [List.drop_append_of_le_length (by rw [List.length_take]; omega)]
theorem seg_length {L : Nat} (hi : i ≤ ns.length) : ((ns.take i).drop L).length = i - L := by rw [List.length_drop, List.length_take]; omega
theorem Tries.any (h : Tries ns l v i k la en) (hi : i < ns.length) (hc : ns[i] = 257) : Tries ns l v (i + 1) k ((i + 1 : Nat) : Int) (k : Int) := by
  obtain ⟨_, hk, h⟩ := h
  have hd := dropN hi
  rw [hc] at hd
  refine ⟨hi, hk, Or.inr ⟨i + 1, k, rfl, rfl, Nat.le_refl _, by omega, ?_, ?_, rfl⟩⟩
  · intro c hm
    rw [List.drop_of_length_le (by rw [List.length_take]; omega)] at hm
    cases hm
  · rcases h with ⟨_, _, h⟩ | ⟨L, e, _, _, hL, rfl, hq, hv, heq⟩
    · rw [← h, hd]
    · rw [← hv, Bool.eq_iff_iff]
      rw [hd] at heq
      constructor
      · intro hm
        rw [← heq] at hm
        exact (mat_any _ _).2 ⟨0, Nat.zero_le _, hm⟩
      · intro hm
        rw [seg_take hL (by omega), hd] at hm
        exact star_far hq hm (by rw [seg_length (by omega)]; omega)
theorem Tries.full (h : Tries ns l v i k la en) (hi : i < ns.length) (hc : ns[i] ≠ 257) (hk : k = l.length) : v = false := by
  obtain ⟨_, _, ⟨_, _, h⟩ | ⟨L, e, _, _, hL, hke, hq, hv, heq⟩⟩ := h
  · rw [← h, dropN hi, List.drop_of_length_le (l := l) (by omega), mat_none hc]
  · rw [← hv, Bool.eq_false_iff]
    intro hm
    have hn := mat_need _ _ hm
    rw [need_cons_any, seg_take hL (by omega), need_append, need_plain hq, seg_length (by omega), dropN hi, need_cons_one hc, List.length_drop] at hn
    omega
theorem tries_missed (h : Tries ns l v i k la en) (hm : mat (ns.drop i) (l.drop k) = false) (hk : k < l.length) : Backs ns l v la en := by
  obtain ⟨_, _, ⟨h1, h2, h⟩ | ⟨L, e, h1, h2, hL, hke, hq, hv, heq⟩⟩ := h
  · exact Or.inl ⟨h1, h2, by rw [← h, hm]⟩
  · have he : e < l.length := by omega
    refine Or.inr ⟨L, e, h1, h2, by omega, he, ?_⟩
    rw [← hv, List.drop_eq_getElem_cons he, mat_any_step, ← List.drop_eq_getElem_cons he, heq, hm, Bool.false_or]
theorem Tries.miss (h : Tries ns l v i k la en) (hi : i < ns.length) (hc : ns[i] ≠ 257) (hk : k < l.length) (ho : one ns[i] l[k] = false) : Backs ns l v la en :=
  tries_missed h (by rw [dropN hi, List.drop_eq_getElem_cons hk, mat_one hc, ho, Bool.false_and]) hk
theorem Tries.hit (h : Tries ns l v i k la en) (hi : i < ns.length) (hc : ns[i] ≠ 257) (hk : k < l.length) (ho : one ns[i] l[k] = true) : Tries ns l v (i + 1) (k + 1) la en := by
  have hs : mat (ns.drop i) (l.drop k) = mat (ns.drop (i + 1)) (l.drop (k + 1)) := by rw [dropN hi, List.drop_eq_getElem_cons hk, mat_one hc, ho, Bool.true_and]
  obtain ⟨_, _, ⟨h1, h2, h⟩ | ⟨L, e, h1, h2, hL, hke, hq, hv, heq⟩⟩ := h
  · exact ⟨hi, hk, Or.inl ⟨h1, h2, by rw [← h, hs]⟩⟩
  · refine ⟨hi, hk, Or.inr ⟨L, e, h1, h2, by omega, by omega, ?_, hv, by rw [heq, hs]⟩⟩
    intro c hm
    rw [List.take_succ_eq_append_getElem hi, List.drop_append_of_le_length (by rw [List.length_take]; omega)] at hm
    rcases List.mem_append.1 hm with hm | hm
    · exact hq c hm
    · rw [List.mem_singleton.1 hm]; exact hc
theorem Tries.done (h : Tries ns l v i k la en) (hi : i = ns.length) (hk : k = l.length) : v = true := by
  have hm : mat (ns.drop i) (l.drop k) = true := by rw [List.drop_of_length_le (by omega), List.drop_of_length_le (by omega)]; rfl
  obtain ⟨_, _, ⟨h1, h2, h⟩ | ⟨L, e, h1, h2, hL, hke, hq, hv, heq⟩⟩ := h
  · rw [← h, hm]
  · rw [← hv]
    exact (mat_any _ _).2 ⟨0, Nat.zero_le _, by rw [List.drop_zero, heq, hm]⟩
theorem Tries.left (h : Tries ns l v i k la en) (hi : i = ns.length) (hk : k < l.length) : Backs ns l v la en :=
  tries_missed h (by rw [List.drop_of_length_le (by omega), List.drop_eq_getElem_cons hk]; rfl) hk
theorem Backs.none (h : Backs ns l v la en) (hl : la < 0) : v = false := by
  rcases h with ⟨_, _, h⟩ | ⟨L, e, rfl, _⟩
  · exact h
  · omega
theorem Backs.some (h : Backs ns l v la en) (hl : ¬ la < 0) : ∃ L e : Nat, la = (L : Int) ∧ en = (e : Int) ∧ e < l.length ∧ L ≤ ns.length ∧ Tries ns l v L (e + 1) (L : Int) ((e + 1 : Nat) : Int) := by
  rcases h with ⟨rfl, _, _⟩ | ⟨L, e, rfl, rfl, hL, he, hv⟩
  · omega
  · refine ⟨L, e, rfl, rfl, he, hL, hL, he, Or.inr ⟨L, e + 1, rfl, rfl, Nat.le_refl _, by omega, ?_, hv, rfl⟩⟩
    intro c hm
    rw [List.drop_of_length_le (by rw [List.length_take]; omega)] at hm
    cases hm
end
end Go.Proofs.Ytcpllbfpbhnjeaa
