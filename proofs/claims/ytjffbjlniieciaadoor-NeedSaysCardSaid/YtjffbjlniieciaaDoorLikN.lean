/-
  Patterns in plain: what matches when one sign more is looked at; literals; runs, and that what matches has them in order, apart.
-/
import Derived.Test.YtjffbjlniieciaaDoorLikM
import Derived.Lib.Index
namespace Go.Proofs.YtjffbjlniieciaaDoor
set_option linter.unusedSimpArgs false
set_option linter.unusedVariables false

/-- one sign of any bytes more -/
theorem mat_snoc_any (p : List Nat) (l : List UInt8) : mat (p ++ [257]) l = true ↔ ∃ k, k ≤ l.length ∧ mat p (l.take k) = true := by
  rw [mat_append]
  constructor
  · rintro ⟨k, hk, h1, _⟩
    exact ⟨k, hk, h1⟩
  · rintro ⟨k, hk, h1⟩
    refine ⟨k, hk, h1, (mat_any _ _).2 ⟨(l.drop k).length, Nat.le_refl _, ?_⟩⟩
    rw [List.drop_length, mat_nil]
    rfl
theorem mat_snoc_any_zero (p : List Nat) (l : List UInt8) : mat (p ++ [257]) (l.take 0) = mat p (l.take 0) := by
  rw [Bool.eq_iff_iff, mat_snoc_any]
  simp
theorem mat_snoc_any_succ (p : List Nat) {l : List UInt8} {k : Nat} (h : k < l.length) : mat (p ++ [257]) (l.take (k + 1)) = (mat p (l.take (k + 1)) || mat (p ++ [257]) (l.take k)) := by
  rw [Bool.eq_iff_iff, Bool.or_eq_true, mat_snoc_any, mat_snoc_any]
  simp only [List.length_take, List.take_take]
  constructor
  · rintro ⟨j, hj, hm⟩
    rcases Nat.lt_or_ge k j with h1 | h1
    · have : j = k + 1 := by omega
      subst this
      rw [Nat.min_self] at hm
      exact Or.inl hm
    · refine Or.inr ⟨j, by omega, ?_⟩
      rw [Nat.min_eq_left (by omega)] at hm ⊢
      exact hm
  · rintro (hm | ⟨j, hj, hm⟩)
    · exact ⟨k + 1, by omega, by rw [Nat.min_self]; exact hm⟩
    · refine ⟨j, by omega, ?_⟩
      rw [Nat.min_eq_left (by omega)] at hm ⊢
      exact hm
theorem mat_single {c : Nat} (hc : c ≠ 257) (l : List UInt8) : mat [c] l = true ↔ ∃ x, l = [x] ∧ one c x = true := by
  cases l with
  | nil =>
    rw [mat_none hc]
    constructor
    · intro h; cases h
    · rintro ⟨x, h, _⟩; cases h
  | cons x t =>
    rw [mat_one hc, Bool.and_eq_true, mat_nil, List.isEmpty_iff]
    constructor
    · rintro ⟨h1, rfl⟩
      exact ⟨x, rfl, h1⟩
    · rintro ⟨y, h, h2⟩
      injection h with h3 h4
      subst h3
      exact ⟨h2, h4⟩
theorem mat_snoc_one_zero {c : Nat} (hc : c ≠ 257) (p : List Nat) (l : List UInt8) : mat (p ++ [c]) (l.take 0) = false := by
  cases h : mat (p ++ [c]) (l.take 0) with
  | false => rfl
  | true =>
    obtain ⟨k, hk, _, h2⟩ := (mat_append p [c] _).1 h
    obtain ⟨x, hx, _⟩ := (mat_single hc _).1 h2
    simp at hx
theorem mat_snoc_one_succ {c : Nat} (hc : c ≠ 257) (p : List Nat) {l : List UInt8} {k : Nat} (h : k < l.length) : mat (p ++ [c]) (l.take (k + 1)) = (mat p (l.take k) && one c l[k]) := by
  rw [Bool.eq_iff_iff, Bool.and_eq_true, mat_append]
  constructor
  · rintro ⟨j, hj, h1, h2⟩
    obtain ⟨x, hx, ho⟩ := (mat_single hc _).1 h2
    have hl := congrArg List.length hx
    rw [List.length_drop, List.length_take, List.length_cons, List.length_nil] at hl
    have hjk : j = k := by omega
    subst hjk
    rw [List.take_take, Nat.min_eq_left (by omega)] at h1
    refine ⟨h1, ?_⟩
    have hd : (l.take (j + 1)).drop j = [l[j]] := by
      rw [List.take_succ_eq_append_getElem h, List.drop_append_of_le_length (by rw [List.length_take]; omega), List.drop_of_length_le (by rw [List.length_take]; omega)]
      rfl
    rw [hd] at hx
    injection hx with hx
    rw [hx]
    exact ho
  · rintro ⟨h1, h2⟩
    refine ⟨k, by rw [List.length_take]; omega, ?_, (mat_single hc _).2 ⟨l[k], ?_, h2⟩⟩
    · rw [List.take_take, Nat.min_eq_left (by omega)]
      exact h1
    · rw [List.take_succ_eq_append_getElem h, List.drop_append_of_le_length (by rw [List.length_take]; omega), List.drop_of_length_le (by rw [List.length_take]; omega)]
      rfl

/-- bytes as signs -/
def lits (a : List UInt8) : List Nat := a.map (·.toNat)
theorem lit_ne (x : UInt8) : x.toNat ≠ 257 := by have := UInt8.toNat_lt x; omega
theorem one_lit (x y : UInt8) : one x.toNat y = decide (x = y) := by
  have hx := UInt8.toNat_lt x
  unfold one
  rw [beq_false_of_ne (by omega), Bool.false_or, Bool.eq_iff_iff, beq_iff_eq, decide_eq_true_eq, UInt8.toNat_inj]
theorem mat_lits : ∀ (a : List UInt8) (q : List Nat) (l : List UInt8), mat (lits a ++ q) l = (a.isPrefixOf l && mat q (l.drop a.length))
  | [], q, l => by simp [lits]
  | x :: a, q, [] => by
    show mat (x.toNat :: (lits a ++ q)) [] = _
    rw [mat_none (lit_ne x)]
    simp
  | x :: a, q, y :: l => by
    show mat (x.toNat :: (lits a ++ q)) (y :: l) = _
    rw [mat_one (lit_ne x), one_lit, mat_lits a q l]
    simp only [List.isPrefixOf_cons_cons, List.length_cons, List.drop_succ_cons, Bool.and_assoc]
    congr 1
theorem mat_lits_eq (a l : List UInt8) : mat (lits a) l = decide (a = l) := by
  have := mat_lits a [] l
  rw [List.append_nil] at this
  rw [this, Bool.eq_iff_iff, Bool.and_eq_true, List.isPrefixOf_iff_prefix, mat_nil, List.isEmpty_iff, decide_eq_true_eq]
  constructor
  · rintro ⟨⟨t, rfl⟩, h⟩
    simpa using h
  · rintro rfl
    exact ⟨List.prefix_refl _, by simp⟩
/-- as many signs of one byte -/
theorem mat_dots : ∀ (n : Nat) (q : List Nat) (l : List UInt8), mat (List.replicate n 256 ++ q) l = (decide (n ≤ l.length) && mat q (l.drop n))
  | 0, q, l => by simp
  | n + 1, q, [] => by
    rw [List.replicate_succ, List.cons_append, mat_none (by decide)]
    simp
  | n + 1, q, x :: t => by
    rw [List.replicate_succ, List.cons_append, mat_one (by decide), mat_dots n q t]
    simp [one]

/-- are these there, in order, apart? -/
def hasL : List (List UInt8) → List UInt8 → Bool
  | [], _ => true
  | w :: ws, l => if Lib.index l w < 0 then false else hasL ws (l.drop ((Lib.index l w).toNat + w.length))
theorem first_or_none (f : Nat → Bool) : ∀ n, (∀ j, j < n → f j = false) ∨ ∃ i, i < n ∧ f i = true ∧ ∀ j, j < i → f j = false
  | 0 => Or.inl fun j h => absurd h (by omega)
  | n + 1 => by
    rcases first_or_none f n with h | ⟨i, hi, h1, h2⟩
    · cases hn : f n with
      | true => exact Or.inr ⟨n, by omega, hn, h⟩
      | false =>
        refine Or.inl fun j hj => ?_
        rcases Nat.lt_or_ge j n with h3 | h3
        · exact h j h3
        · have : j = n := by omega
          rw [this]
          exact hn
    · exact Or.inr ⟨i, by omega, h1, h2⟩
theorem index_spec (l w : List UInt8) : (Lib.index l w = -1 ∧ ∀ j, j ≤ l.length → Lib.occAt l w j = false) ∨ ∃ i : Nat, i ≤ l.length ∧ Lib.index l w = i ∧ Lib.occAt l w i = true ∧ ∀ j, j < i → Lib.occAt l w j = false := by
  rcases first_or_none (Lib.occAt l w) (l.length + 1) with h | ⟨i, hi, h1, h2⟩
  · exact Or.inl ⟨Lib.index_none fun j hj => h j (by omega), fun j hj => h j (by omega)⟩
  · exact Or.inr ⟨i, by omega, Lib.index_first (by omega) h1 h2, h1, h2⟩
theorem occ_drop (l w : List UInt8) (k i : Nat) : Lib.occAt (l.drop k) w i = Lib.occAt l w (k + i) := by unfold Lib.occAt; rw [List.drop_drop]
theorem has_none {w l : List UInt8} {ws : List (List UInt8)} (h : Lib.index l w = -1) : hasL (w :: ws) l = false := by unfold hasL; rw [if_pos (by omega)]
theorem has_some {w l : List UInt8} {ws : List (List UInt8)} {i : Nat} (h : Lib.index l w = i) : hasL (w :: ws) l = hasL ws (l.drop (i + w.length)) := by
  show (if Lib.index l w < 0 then _ else _) = _
  rw [h, if_neg (by omega)]
  rfl
theorem has_drop_le (w : List UInt8) (ws : List (List UInt8)) (l : List UInt8) (k : Nat) (hk : k ≤ l.length) (ih : ∀ l k, hasL ws (l.drop k) = true → hasL ws l = true) (h : hasL (w :: ws) (l.drop k) = true) : hasL (w :: ws) l = true := by
  rcases index_spec (l.drop k) w with ⟨h1, _⟩ | ⟨i, hi, h1, ho, _⟩
  · rw [has_none h1] at h
    cases h
  · rw [has_some h1, List.drop_drop] at h
    rw [List.length_drop] at hi
    rw [occ_drop] at ho
    rcases index_spec l w with ⟨_, h2⟩ | ⟨j, hj, h2, _, hb⟩
    · rw [h2 (k + i) (by omega)] at ho
      cases ho
    · have hji : j ≤ k + i := by
        rcases Nat.lt_or_ge (k + i) j with h3 | h3
        · rw [hb _ h3] at ho
          cases ho
        · exact h3
      rw [has_some h2]
      refine ih _ (k + i - j) ?_
      rw [List.drop_drop, show j + w.length + (k + i - j) = k + (i + w.length) by omega]
      exact h
/-- more bytes ahead take nothing away -/
theorem has_drop : ∀ (ws : List (List UInt8)) (l : List UInt8) (k : Nat), hasL ws (l.drop k) = true → hasL ws l = true
  | [], _, _, _ => rfl
  | w :: ws, l, k, h => by
    rcases Nat.lt_or_ge l.length k with hk | hk
    · rw [List.drop_of_length_le (by omega), ← List.drop_length (l := l)] at h
      exact has_drop_le w ws l l.length (Nat.le_refl _) (fun l k => has_drop ws l k) h
    · exact has_drop_le w ws l k hk (fun l k => has_drop ws l k) h
theorem occ_zero (w l : List UInt8) : Lib.occAt (w ++ l) w 0 = true := by
  unfold Lib.occAt
  rw [List.drop_zero, List.isPrefixOf_iff_prefix]
  exact List.prefix_append _ _
theorem has_head (w l : List UInt8) (ws : List (List UInt8)) : hasL (w :: ws) (w ++ l) = hasL ws l := by
  rw [has_some (i := 0) (Lib.index_first (Nat.zero_le _) (occ_zero w l) (fun j h => absurd h (by omega))), Nat.zero_add, List.drop_left]
/-- the literals -/
def runA : List UInt8 → List Nat → List (List UInt8)
  | acc, [] => if acc = [] then [] else [acc]
  | acc, c :: p => if c < 256 then runA (acc ++ [UInt8.ofNat c]) p else (if acc = [] then [] else [acc]) ++ runA [] p
def runsL (p : List Nat) : List (List UInt8) := runA [] p
theorem has_cut {acc l : List UInt8} {ws : List (List UInt8)} (h : hasL ws l = true) : hasL ((if acc = [] then [] else [acc]) ++ ws) (acc ++ l) = true := by
  by_cases ha : acc = []
  · subst ha
    simpa using h
  · rw [if_neg ha]
    show hasL (acc :: ws) (acc ++ l) = true
    rw [has_head]
    exact h
/-- what matches has all literals, in order, apart -/
theorem has_runs : ∀ (p : List Nat) (acc l : List UInt8), mat p l = true → hasL (runA acc p) (acc ++ l) = true
  | [], acc, l, h => by
    have := has_cut (acc := acc) (l := l) (ws := []) rfl
    rw [List.append_nil] at this
    exact this
  | c :: p, acc, l, h => by
    unfold runA
    by_cases hc : c < 256
    · rw [if_pos hc]
      cases l with
      | nil =>
        rw [mat_none (by omega)] at h
        cases h
      | cons x t =>
        rw [mat_one (by omega), Bool.and_eq_true] at h
        have hx : UInt8.ofNat c = x := by
          have h1 := h.1
          unfold one at h1
          rw [beq_false_of_ne (by omega), Bool.false_or, beq_iff_eq] at h1
          rw [h1]
          simp
        have := has_runs p (acc ++ [x]) t h.2
        rw [hx]
        rw [List.append_assoc] at this
        exact this
    · rw [if_neg hc]
      refine has_cut ?_
      by_cases h7 : c = 257
      · subst h7
        obtain ⟨k, _, hk⟩ := (mat_any _ _).1 h
        exact has_drop _ _ k (has_runs p [] _ hk)
      · cases l with
        | nil =>
          rw [mat_none h7] at h
          cases h
        | cons x t =>
          rw [mat_one h7, Bool.and_eq_true] at h
          exact has_drop _ _ 1 (has_runs p [] t h.2)
/-- literals with any bytes between and around -/
def patL (ws : List (List UInt8)) : List Nat := 257 :: ws.flatMap fun w => lits w ++ [257]
theorem pat_cons (w : List UInt8) (ws : List (List UInt8)) : patL (w :: ws) = 257 :: (lits w ++ patL ws) := by simp [patL]
theorem mat_pat : ∀ (ws : List (List UInt8)) (l : List UInt8), mat (patL ws) l = hasL ws l
  | [], l => by
    rw [Bool.eq_iff_iff]
    refine ⟨fun _ => rfl, fun _ => (mat_any _ _).2 ⟨l.length, Nat.le_refl _, ?_⟩⟩
    rw [List.drop_length]
    rfl
  | w :: ws, l => by
    rw [pat_cons, Bool.eq_iff_iff, mat_any]
    rcases index_spec l w with ⟨h1, hn⟩ | ⟨i, hi, h1, ho, hb⟩
    · rw [has_none h1]
      constructor
      · rintro ⟨k, hk, h⟩
        rw [mat_lits, Bool.and_eq_true] at h
        have := hn k hk
        unfold Lib.occAt at this
        rw [h.1] at this
        cases this
      · intro h; cases h
    · rw [has_some h1, ← mat_pat ws]
      constructor
      · rintro ⟨k, hk, h⟩
        rw [mat_lits, Bool.and_eq_true, List.drop_drop] at h
        have hik : i ≤ k := by
          rcases Nat.lt_or_ge k i with h3 | h3
          · have := hb k h3
            unfold Lib.occAt at this
            rw [h.1] at this
            cases this
          · exact h3
        refine mat_any_drop (k := k - i) ?_
        rw [List.drop_drop, show i + w.length + (k - i) = k + w.length by omega]
        exact h.2
      · intro h
        refine ⟨i, hi, ?_⟩
        rw [mat_lits, Bool.and_eq_true, List.drop_drop]
        exact ⟨ho, h⟩

/-- how many bytes signs ask for at least -/
def needL (p : List Nat) : Nat := (p.filter fun c => c ≠ 257).length
theorem need_cons_any (p : List Nat) : needL (257 :: p) = needL p := by simp [needL]
theorem need_cons_one {c : Nat} (h : c ≠ 257) (p : List Nat) : needL (c :: p) = needL p + 1 := by simp [needL, h]
theorem need_append (p q : List Nat) : needL (p ++ q) = needL p + needL q := by simp [needL]
theorem need_plain {q : List Nat} (h : ∀ c ∈ q, c ≠ 257) : needL q = q.length := by
  unfold needL
  rw [List.filter_eq_self.2 (fun c hc => by simpa using h c hc)]
theorem mat_need : ∀ (p : List Nat) (l : List UInt8), mat p l = true → needL p ≤ l.length
  | [], l, _ => Nat.zero_le _
  | c :: p, l, h => by
    by_cases hc : c = 257
    · subst hc
      obtain ⟨k, hk, hm⟩ := (mat_any _ _).1 h
      have := mat_need p _ hm
      rw [List.length_drop] at this
      rw [need_cons_any]
      omega
    · cases l with
      | nil => rw [mat_none hc] at h; cases h
      | cons x t =>
        rw [mat_one hc, Bool.and_eq_true] at h
        have := mat_need p t h.2
        rw [need_cons_one hc, List.length_cons]
        omega
/-- signs without any bytes ask for just as many -/
theorem mat_len : ∀ (q : List Nat) (l : List UInt8), (∀ c ∈ q, c ≠ 257) → mat q l = true → l.length = q.length
  | [], l, _, h => by
    rw [mat_nil, List.isEmpty_iff] at h
    rw [h]
    rfl
  | c :: q, [], hq, h => by rw [mat_none (hq c List.mem_cons_self)] at h; cases h
  | c :: q, x :: t, hq, h => by
    rw [mat_one (hq c List.mem_cons_self), Bool.and_eq_true] at h
    rw [List.length_cons, List.length_cons, mat_len q t (fun d hd => hq d (List.mem_cons_of_mem _ hd)) h.2]
/-- behind the last sign of any bytes the first match is enough -/
theorem star_far {q r : List Nat} {l : List UInt8} {a k : Nat} (hq : ∀ c ∈ q, c ≠ 257) (h : mat (257 :: (q ++ 257 :: r)) (l.drop a) = true) (hk : k ≤ a + q.length) : mat (257 :: r) (l.drop k) = true := by
  obtain ⟨j, hj, hm⟩ := (mat_any _ _).1 h
  obtain ⟨i, hi, h1, h2⟩ := (mat_append q _ _).1 hm
  have hl := mat_len q _ hq h1
  rw [List.length_take, Nat.min_eq_left hi] at hl
  rw [List.drop_drop, List.drop_drop] at h2
  refine mat_any_drop (k := a + (j + i) - k) ?_
  rw [List.drop_drop, show k + (a + (j + i) - k) = a + (j + i) by omega]
  exact h2
/-- at the string's end -/
theorem mat_end : ∀ p : List Nat, mat p [] = p.all fun c => c == 257
  | [] => rfl
  | c :: p => by
    by_cases hc : c = 257
    · subst hc
      have : mat (257 :: p) [] = mat p [] := by
        rw [Bool.eq_iff_iff, mat_any]
        simp
      rw [this, mat_end p]
      rfl
    · rw [mat_none hc]
      simp [hc]
/-- any bytes: none, or one more -/
theorem mat_any_step (p : List Nat) (x : UInt8) (t : List UInt8) : mat (257 :: p) (x :: t) = (mat p (x :: t) || mat (257 :: p) t) := by
  have h1 : ∀ l, mat (257 :: p) l = anyT (mat p) l := fun l => by unfold mat; rw [if_pos rfl]
  rw [h1, h1]
  rfl
end Go.Proofs.YtjffbjlniieciaaDoor
