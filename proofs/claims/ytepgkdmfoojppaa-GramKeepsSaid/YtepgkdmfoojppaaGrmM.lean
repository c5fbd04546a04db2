/-
  gram in plain: the grams of strings; numbers that rise, each once.
-/
import Derived.Test.YtepgkdmfoojppaaIvM
namespace Go.Proofs.Ytepgkdmfoojppaa
set_option linter.unusedSimpArgs false
set_option linter.unusedVariables false

/-- three bytes as a number -/
def gramN (a b c : UInt8) : Nat := 65536 * a.toNat + 256 * b.toNat + c.toNat
theorem gramN_lt (a b c : UInt8) : gramN a b c < 16777216 := by
  have h1 := UInt8.toNat_lt a
  have h2 := UInt8.toNat_lt b
  have h3 := UInt8.toNat_lt c
  unfold gramN
  omega
theorem gramN_inj {a b c a' b' c' : UInt8} (h : gramN a b c = gramN a' b' c') : a = a' ∧ b = b' ∧ c = c' := by
  have h1 := UInt8.toNat_lt a
  have h2 := UInt8.toNat_lt b
  have h3 := UInt8.toNat_lt c
  have h4 := UInt8.toNat_lt a'
  have h5 := UInt8.toNat_lt b'
  have h6 := UInt8.toNat_lt c'
  unfold gramN at h
  exact ⟨UInt8.toNat_inj.1 (by omega), UInt8.toNat_inj.1 (by omega), UInt8.toNat_inj.1 (by omega)⟩
/-- the grams of a string, as they stand -/
def gramsL (s : List UInt8) : List Nat := (List.range (s.length - 2)).map fun k => gramN (s.getD k 0) (s.getD (k + 1) 0) (s.getD (k + 2) 0)
theorem gramsL_length (s : List UInt8) : (gramsL s).length = s.length - 2 := by simp [gramsL]
theorem gramsL_get (s : List UInt8) (k : Nat) (h : k < s.length - 2) : (gramsL s)[k]'(by rw [gramsL_length]; exact h) = gramN (s[k]'(by omega)) (s[k + 1]'(by omega)) (s[k + 2]'(by omega)) := by
  simp [gramsL, List.getD, List.getElem?_eq_getElem (show k < s.length by omega), List.getElem?_eq_getElem (show k + 1 < s.length by omega), List.getElem?_eq_getElem (show k + 2 < s.length by omega)]
theorem mem_gramsL {s : List UInt8} {g : Nat} : g ∈ gramsL s ↔ ∃ k, ∃ (h : k + 2 < s.length), g = gramN s[k] s[k + 1] s[k + 2] := by
  constructor
  · intro h
    obtain ⟨k, hk, rfl⟩ := List.getElem_of_mem h
    rw [gramsL_length] at hk
    exact ⟨k, by omega, gramsL_get s k hk⟩
  · rintro ⟨k, h, rfl⟩
    rw [← gramsL_get s k (by omega)]
    exact List.getElem_mem _
theorem gramsL_lt {s : List UInt8} {g : Nat} (h : g ∈ gramsL s) : g < 16777216 := by
  obtain ⟨k, hk, rfl⟩ := mem_gramsL.1 h
  exact gramN_lt _ _ _
/-- the grams of strings, as they stand -/
def allL (l : List (List UInt8)) : List Nat := l.flatMap gramsL
/-- these numbers, rising, each once -/
structure Rise (L t : List Nat) : Prop where
  up : t.Pairwise (· < ·)
  mem : ∀ x, x ∈ t ↔ x ∈ L
theorem Rise.nil : Rise [] [] := ⟨List.Pairwise.nil, fun _ => Iff.rfl⟩
theorem up_one : ∀ {t u : List Nat}, t.Pairwise (· < ·) → u.Pairwise (· < ·) → (∀ x, x ∈ t ↔ x ∈ u) → t = u
  | [], [], _, _, _ => rfl
  | [], b :: u, _, _, h => absurd ((h b).2 List.mem_cons_self) List.not_mem_nil
  | a :: t, [], _, _, h => absurd ((h a).1 List.mem_cons_self) List.not_mem_nil
  | a :: t, b :: u, h1, h2, h => by
    have ha := List.pairwise_cons.1 h1
    have hb := List.pairwise_cons.1 h2
    have hab : a = b := by
      rcases List.mem_cons.1 ((h a).1 List.mem_cons_self) with e | e
      · exact e
      · rcases List.mem_cons.1 ((h b).2 List.mem_cons_self) with e2 | e2
        · exact e2.symm
        · have := ha.1 b e2
          have := hb.1 a e
          omega
    subst hab
    rw [up_one ha.2 hb.2 fun x => ⟨fun hx => ?_, fun hx => ?_⟩]
    · rcases List.mem_cons.1 ((h x).1 (List.mem_cons_of_mem _ hx)) with e | e
      · have := ha.1 x hx; omega
      · exact e
    · rcases List.mem_cons.1 ((h x).2 (List.mem_cons_of_mem _ hx)) with e | e
      · have := hb.1 x hx; omega
      · exact e
theorem Rise.one {L t u : List Nat} (h : Rise L t) (k : Rise L u) : t = u := up_one h.up k.up fun x => (h.mem x).trans (k.mem x).symm
theorem Rise.same {L M t : List Nat} (h : Rise L t) (hm : ∀ x, x ∈ L ↔ x ∈ M) : Rise M t := ⟨h.up, fun x => (h.mem x).trans (hm x)⟩
/-- a number that is there -/
theorem Rise.there {L t : List Nat} {g : Nat} (h : Rise L t) (hg : g ∈ t) : Rise (L ++ [g]) t := ⟨h.up, fun x => by
  rw [List.mem_append, List.mem_singleton]
  exact ⟨fun hx => .inl ((h.mem x).1 hx), fun hx => hx.elim (h.mem x).2 fun e => e ▸ hg⟩⟩
/-- a number put at its place -/
theorem Rise.put {L t : List Nat} {g k : Nat} (h : Rise L t) (h1 : ∀ j (hj : j < t.length), j < k → t[j] < g) (h2 : ∀ hk : k < t.length, g < t[k]) : Rise (L ++ [g]) (t.take k ++ g :: t.drop k) := by
  have hup := h.up
  rw [← List.take_append_drop k t] at hup
  obtain ⟨p1, p2, p3⟩ := List.pairwise_append.1 hup
  have hl : ∀ x ∈ t.take k, x < g := fun x hx => by
    obtain ⟨j, hj, rfl⟩ := List.getElem_of_mem hx
    rw [List.length_take] at hj
    rw [List.getElem_take]
    exact h1 j (by omega) (by omega)
  have hr : ∀ x ∈ t.drop k, g < x := fun x hx => by
    obtain ⟨j, hj, rfl⟩ := List.getElem_of_mem hx
    rw [List.length_drop] at hj
    rw [List.getElem_drop]
    have hk : k < t.length := by omega
    have h3 := h2 hk
    rcases Nat.eq_zero_or_pos j with e | e
    · subst e; exact h3
    · have := List.pairwise_iff_getElem.1 h.up k (k + j) hk (by omega) (by omega)
      omega
  refine ⟨List.pairwise_append.2 ⟨p1, List.pairwise_cons.2 ⟨hr, p2⟩, fun a ha b hb => ?_⟩, fun x => ?_⟩
  · rcases List.mem_cons.1 hb with rfl | hb
    · exact hl a ha
    · exact p3 a ha b hb
  · rw [List.mem_append, List.mem_cons, List.mem_append, List.mem_singleton, ← h.mem x]
    conv => rhs; rw [← List.take_append_drop k t, List.mem_append]
    constructor
    · rintro (h | h | h)
      · exact .inl (.inl h)
      · exact .inr h
      · exact .inl (.inr h)
    · rintro ((h | h) | h)
      · exact .inl h
      · exact .inr (.inr h)
      · exact .inr (.inl h)
theorem Rise.len {L t : List Nat} (h : Rise L t) : t.length ≤ L.length := by
  have hn : t.Nodup := h.up.imp fun {a b} hab => by omega
  exact List.Nodup.length_le_of_subset hn fun x hx => (h.mem x).1 hx
/-- the bit of a gram -/
def bitG (g bits : Nat) : Nat := g * 40503 % 65521 % bits
end Go.Proofs.Ytepgkdmfoojppaa
