/-
  fsst in plain: what a string is encoded to, what bytes are decoded to, how many codes there are.
-/
import Derived.Test.YtpollebfehdnjaaLngM
namespace Go.Proofs.Ytpollebfehdnjaa
set_option linter.unusedSimpArgs false
set_option linter.unusedVariables false

/-- encoded -/
def encF (T : List (List UInt8)) : Nat → List UInt8 → List UInt8
  | 0, _ => []
  | _ + 1, [] => []
  | f + 1, x :: l => if 0 ≤ (longP T (x :: l)).1 then UInt8.ofNat (longP T (x :: l)).1.toNat :: encF T f ((x :: l).drop (longP T (x :: l)).2) else 255 :: x :: encF T f l
theorem enc_fuel (T : List (List UInt8)) : ∀ (f g : Nat) (l : List UInt8), l.length ≤ f → l.length ≤ g → encF T f l = encF T g l
  | 0, 0, _, _, _ => rfl
  | 0, g + 1, [], _, _ => rfl
  | f + 1, 0, [], _, _ => rfl
  | f + 1, g + 1, [], _, _ => rfl
  | f + 1, g + 1, x :: l, hf, hg => by
    rw [List.length_cons] at hf hg
    unfold encF
    rcases longP_spec T (x :: l) with h | ⟨j, s, _, h2, h3, _⟩
    · rw [h, if_neg (by decide), if_neg (by decide), enc_fuel T f g l (by omega) (by omega)]
    · rw [h2, if_pos (by simp), if_pos (by simp), enc_fuel T f g _ (by simp; omega) (by simp; omega)]
def encL (T : List (List UInt8)) (l : List UInt8) : List UInt8 := encF T l.length l
theorem enc_nil (T : List (List UInt8)) : encL T [] = [] := rfl
theorem enc_code {T : List (List UInt8)} {l : List UInt8} {j n : Nat} (h : longP T l = ((j : Int), n)) (hn : 0 < n) : encL T l = UInt8.ofNat j :: encL T (l.drop n) := by
  rcases l with _ | ⟨x, l⟩
  · rw [longP_nil] at h
    have := congrArg Prod.snd h
    simp at this
    omega
  · show encF T (l.length + 1) (x :: l) = _
    unfold encF
    rw [h, if_pos (by simp), Int.toNat_natCast, encL]
    congr 1
    exact enc_fuel T _ _ _ (by simp; omega) (Nat.le_refl _)
theorem enc_esc {T : List (List UInt8)} {x : UInt8} {l : List UInt8} (h : longP T (x :: l) = (-1, 0)) : encL T (x :: l) = 255 :: x :: encL T l := by
  show encF T (l.length + 1) (x :: l) = _
  unfold encF
  rw [h, if_neg (by decide), encL]
/-- induction by what is encoded -/
theorem enc_ind {T : List (List UInt8)} {P : List UInt8 → Prop} (h0 : P []) (h1 : ∀ x l, longP T (x :: l) = (-1, 0) → P l → P (x :: l)) (h2 : ∀ (j : Nat) (s l : List UInt8), T[j]? = some s → longP T (s ++ l) = ((j : Int), s.length) → 0 < s.length → P l → P (s ++ l)) : ∀ l, P l := by
  intro l
  generalize hn : l.length = n
  induction n using Nat.strongRecOn generalizing l with
  | _ n ih =>
    rcases l with _ | ⟨x, l⟩
    · exact h0
    · rw [List.length_cons] at hn
      rcases longP_spec T (x :: l) with h | ⟨j, s, hj, h3, h4, r, h5⟩
      · exact h1 x l h (ih l.length (by omega) l rfl)
      · rw [← h5] at h3 ⊢
        have hl : s.length + r.length = l.length + 1 := by rw [← List.length_append, h5, List.length_cons]
        exact h2 j s r hj h3 h4 (ih r.length (by omega) r rfl)
theorem enc_sym {T : List (List UInt8)} {j : Nat} {s l : List UInt8} (h : longP T (s ++ l) = ((j : Int), s.length)) (h0 : 0 < s.length) : encL T (s ++ l) = UInt8.ofNat j :: encL T l := by
  rw [enc_code h h0, List.drop_left]
theorem enc_len (T : List (List UInt8)) (l : List UInt8) : (encL T l).length ≤ 2 * l.length := by
  refine enc_ind (T := T) (P := fun l => (encL T l).length ≤ 2 * l.length) (by simp [enc_nil]) (fun x l h ih => ?_) (fun j s l _ h h0 ih => ?_) l
  · simp only [enc_esc h, List.length_cons]; omega
  · simp only [enc_sym h h0, List.length_cons, List.length_append]; omega

/-- decoded: the bytes, the error, how many codes -/
def decL (T : List (List UInt8)) (most : Int) : List UInt8 → List UInt8 → Nat → List UInt8 × Nat × Nat
  | [], o, n => (o, 0, n)
  | x :: l, o, n =>
    if x = 255 then
      match l with
      | [] => ([], 2, n)
      | y :: l' => if most < ((o ++ [y]).length : Int) then ([], 6, n + 1) else decL T most l' (o ++ [y]) (n + 1)
    else match T[x.toNat]? with
      | none => ([], 3, n)
      | some s => if most < ((o ++ s).length : Int) then ([], 6, n + 1) else decL T most l (o ++ s) (n + 1)
section
variable {T : List (List UInt8)} {most : Int}
theorem dec_nil (o : List UInt8) (n : Nat) : decL T most [] o n = (o, 0, n) := by rw [decL]
theorem dec_end (o : List UInt8) (n : Nat) : decL T most [255] o n = ([], 2, n) := by simp [decL]
theorem dec_lit (y : UInt8) (l o : List UInt8) (n : Nat) : decL T most (255 :: y :: l) o n = if most < ((o ++ [y]).length : Int) then ([], 6, n + 1) else decL T most l (o ++ [y]) (n + 1) := by
  rw [decL.eq_def]
  simp only [if_pos]
theorem dec_wrong {x : UInt8} (l o : List UInt8) (n : Nat) (h : x ≠ 255) (hx : T.length ≤ x.toNat) : decL T most (x :: l) o n = ([], 3, n) := by
  rw [decL.eq_def]
  simp only [if_neg h, List.getElem?_eq_none hx]
theorem dec_sym {x : UInt8} {s : List UInt8} (l o : List UInt8) (n : Nat) (h : x ≠ 255) (hx : T[x.toNat]? = some s) : decL T most (x :: l) o n = if most < ((o ++ s).length : Int) then ([], 6, n + 1) else decL T most l (o ++ s) (n + 1) := by
  rw [decL.eq_def]
  simp only [if_neg h, hx]
end
theorem ofNat_code {T : List (List UInt8)} (hT : T.length ≤ 255) {j : Nat} {s : List UInt8} (h : T[j]? = some s) : UInt8.ofNat j ≠ 255 ∧ (UInt8.ofNat j).toNat = j := by
  have hj : j < T.length := (List.getElem?_eq_some_iff.1 h).1
  have h1 : (UInt8.ofNat j).toNat = j := by simp; omega
  refine ⟨fun e => ?_, h1⟩
  rw [e] at h1
  have : (255 : UInt8).toNat = 255 := rfl
  omega
/-- what is encoded is decoded, with what comes behind it, if there is room for it -/
theorem dec_enc {T : List (List UInt8)} (hT : T.length ≤ 255) (l : List UInt8) : ∃ k, ∀ (most : Int) (r o : List UInt8) (n : Nat), ((o.length + l.length : Nat) : Int) ≤ most → decL T most (encL T l ++ r) o n = decL T most r (o ++ l) (n + k) := by
  refine enc_ind (T := T) (P := fun l => ∃ k, ∀ (most : Int) (r o : List UInt8) (n : Nat), ((o.length + l.length : Nat) : Int) ≤ most → decL T most (encL T l ++ r) o n = decL T most r (o ++ l) (n + k)) ?_ (fun x l h ih => ?_) (fun j s l hj h h0 ih => ?_) l
  · exact ⟨0, fun most r o n _ => by rw [enc_nil, List.nil_append, List.append_nil, Nat.add_zero]⟩
  · obtain ⟨k, hk⟩ := ih
    refine ⟨k + 1, fun most r o n hm => ?_⟩
    rw [List.length_cons] at hm
    rw [enc_esc h, List.cons_append, List.cons_append, dec_lit, if_neg (by rw [List.length_append, List.length_cons, List.length_nil]; omega), hk _ _ _ _ (by rw [List.length_append, List.length_cons, List.length_nil]; omega), List.append_assoc, List.singleton_append, show n + 1 + k = n + (k + 1) by omega]
  · obtain ⟨k, hk⟩ := ih
    refine ⟨k + 1, fun most r o n hm => ?_⟩
    rw [List.length_append] at hm
    obtain ⟨h1, h2⟩ := ofNat_code hT hj
    rw [enc_sym h h0, List.cons_append, dec_sym _ _ _ h1 (by rw [h2]; exact hj), if_neg (by rw [List.length_append]; omega), hk _ _ _ _ (by rw [List.length_append]; omega), List.append_assoc, show n + 1 + k = n + (k + 1) by omega]
/-- and if there isn't, that is what is wrong -/
theorem dec_short {T : List (List UInt8)} (hT : T.length ≤ 255) (l : List UInt8) : ∀ (most : Int) (r o : List UInt8) (n : Nat), (o.length : Int) ≤ most → most < ((o.length + l.length : Nat) : Int) → ∃ k, decL T most (encL T l ++ r) o n = ([], 6, k) := by
  refine enc_ind (T := T) (P := fun l => ∀ (most : Int) (r o : List UInt8) (n : Nat), (o.length : Int) ≤ most → most < ((o.length + l.length : Nat) : Int) → ∃ k, decL T most (encL T l ++ r) o n = ([], 6, k)) ?_ (fun x l h ih => ?_) (fun j s l hj h h0 ih => ?_) l
  · intro most r o n h1 h2
    rw [List.length_nil] at h2
    omega
  · intro most r o n h1 h2
    rw [List.length_cons] at h2
    rw [enc_esc h, List.cons_append, List.cons_append, dec_lit]
    by_cases hc : most < ((o ++ [x]).length : Int)
    · rw [if_pos hc]
      exact ⟨_, rfl⟩
    · rw [if_neg hc]
      exact ih _ _ _ _ (by omega) (by rw [List.length_append, List.length_cons, List.length_nil]; omega)
  · intro most r o n h1 h2
    rw [List.length_append] at h2
    obtain ⟨h3, h4⟩ := ofNat_code hT hj
    rw [enc_sym h h0, List.cons_append, dec_sym _ _ _ h3 (by rw [h4]; exact hj)]
    by_cases hc : most < ((o ++ s).length : Int)
    · rw [if_pos hc]
      exact ⟨_, rfl⟩
    · rw [if_neg hc]
      exact ih _ _ _ _ (by omega) (by rw [List.length_append]; omega)
/-- strings are alike just if they are encoded alike -/
theorem enc_inj {T : List (List UInt8)} (hT : T.length ≤ 255) {a b : List UInt8} (h : encL T a = encL T b) : a = b := by
  obtain ⟨k, hk⟩ := dec_enc hT a
  obtain ⟨k2, hk2⟩ := dec_enc hT b
  have h1 := hk ((a.length + b.length : Nat) : Int) [] [] 0 (by simp; omega)
  have h2 := hk2 ((a.length + b.length : Nat) : Int) [] [] 0 (by simp; omega)
  rw [h, h2, dec_nil, dec_nil] at h1
  have := congrArg Prod.fst h1
  simpa using this.symm
end Go.Proofs.Ytpollebfehdnjaa
