/-
  fsst in plain: what a string is encoded to, what bytes are decoded to, how many codes there are.
  train in plain: samples; what is counted.
  A round of training in plain: what is counted, and which are the best.
  How the best are chosen, in plain; how many are counted.
  The document's Sample and Few of layer 12.
-/
import Derived.Test.YtmffpbhiehjlpaaGreatZ10
import Derived.Test.YtmffpbhiehjlpaaGreatZ02
import Derived.Test.YtmffpbhiehjlpaaGreatZ01
import Derived.Test.YtmffpbhiehjlpaaGreatZ04
namespace Go.Proofs.YtmffpbhiehjlpaaGreat
set_option linter.unusedSimpArgs false
set_option linter.unusedVariables false
def encF (T : List (List UInt8)) : Nat → List UInt8 → List UInt8
  | 0, _ => []
  | _ + 1, [] => []
  | f + 1, x :: l => if 0 ≤ (longP T (x :: l)).1 then UInt8.ofNat (longP T (x :: l)).1.toNat :: encF T f ((x :: l).drop (longP T (x :: l)).2) else 255 :: x :: encF T f l
theorem enc_fuel (T : List (List UInt8)) : ∀ (f g : Nat) (l : List UInt8), l.length ≤ f → l.length ≤ g → encF T f l = encF T g l
  | 0, 0, _, _, _ => rfl
  | 0, g + 1, [], _, _ => rfl
  | f + 1, 0, [], _, _ => rfl
  | f + 1, g + 1, [], _, _ => rfl
  | f + 1, g + 1, x :: l, hf, hg => by
    rw [List.length_cons] at hf hg
    unfold encF
    rcases longP_spec T (x :: l) with h | ⟨j, s, _, h2, h3, _⟩
    · rw [h, if_neg (by decide), if_neg (by decide), enc_fuel T f g l (by omega) (by omega)]
    · rw [h2, if_pos (by simp), if_pos (by simp), enc_fuel T f g _ (by simp; omega) (by simp; omega)]
def encL (T : List (List UInt8)) (l : List UInt8) : List UInt8 := encF T l.length l
theorem enc_nil (T : List (List UInt8)) : encL T [] = [] := rfl
theorem enc_code {T : List (List UInt8)} {l : List UInt8} {j n : Nat} (h : longP T l = ((j : Int), n)) (hn : 0 < n) : encL T l = UInt8.ofNat j :: encL T (l.drop n) := by
  rcases l with _ | ⟨x, l⟩
  · rw [longP_nil] at h
    have := congrArg Prod.snd h
    simp at this
    omega
  · show encF T (l.length + 1) (x :: l) = _
    unfold encF
    rw [h, if_pos (by simp), Int.toNat_natCast, encL]
    congr 1
    exact enc_fuel T _ _ _ (by simp; omega) (Nat.le_refl _)
theorem enc_esc {T : List (List UInt8)} {x : UInt8} {l : List UInt8} (h : longP T (x :: l) = (-1, 0)) : encL T (x :: l) = 255 :: x :: encL T l := by
  show encF T (l.length + 1) (x :: l) = _
  unfold encF
  rw [h, if_neg (by decide), encL]
theorem enc_ind {T : List (List UInt8)} {P : List UInt8 → Prop} (h0 : P []) (h1 : ∀ x l, longP T (x :: l) = (-1, 0) → P l → P (x :: l)) (h2 : ∀ (j : Nat) (s l : List UInt8), T[j]? = some s → longP T (s ++ l) = ((j : Int), s.length) → 0 < s.length → P l → P (s ++ l)) : ∀ l, P l := by
  intro l
  generalize hn : l.length = n
  induction n using Nat.strongRecOn generalizing l with
  | _ n ih =>
    rcases l with _ | ⟨x, l⟩
    · exact h0
    · rw [List.length_cons] at hn
      rcases longP_spec T (x :: l) with h | ⟨j, s, hj, h3, h4, r, h5⟩
      · exact h1 x l h (ih l.length (by omega) l rfl)
      · rw [← h5] at h3 ⊢
        have hl : s.length + r.length = l.length + 1 := by rw [← List.length_append, h5, List.length_cons]
        exact h2 j s r hj h3 h4 (ih r.length (by omega) r rfl)
theorem enc_sym {T : List (List UInt8)} {j : Nat} {s l : List UInt8} (h : longP T (s ++ l) = ((j : Int), s.length)) (h0 : 0 < s.length) : encL T (s ++ l) = UInt8.ofNat j :: encL T l := by
  rw [enc_code h h0, List.drop_left]
theorem enc_len (T : List (List UInt8)) (l : List UInt8) : (encL T l).length ≤ 2 * l.length := by
  refine enc_ind (T := T) (P := fun l => (encL T l).length ≤ 2 * l.length) (by simp [enc_nil]) (fun x l h ih => ?_) (fun j s l _ h h0 ih => ?_) l
  · simp only [enc_esc h, List.length_cons]; omega
  · simp only [enc_sym h h0, List.length_cons, List.length_append]; omega
def decL (T : List (List UInt8)) (most : Int) : List UInt8 → List UInt8 → Nat → List UInt8 × Nat × Nat
  | [], o, n => (o, 0, n)
  | x :: l, o, n =>
    if x = 255 then
      match l with
      | [] => ([], 2, n)
      | y :: l' => if most < ((o ++ [y]).length : Int) then ([], 6, n + 1) else decL T most l' (o ++ [y]) (n + 1)
    else match T[x.toNat]? with
      | none => ([], 3, n)
      | some s => if most < ((o ++ s).length : Int) then ([], 6, n + 1) else decL T most l (o ++ s) (n + 1)
section
variable {T : List (List UInt8)} {most : Int}
theorem dec_nil (o : List UInt8) (n : Nat) : decL T most [] o n = (o, 0, n) := by rw [decL]
theorem dec_end (o : List UInt8) (n : Nat) : decL T most [255] o n = ([], 2, n) := by simp [decL]
theorem dec_lit (y : UInt8) (l o : List UInt8) (n : Nat) : decL T most (255 :: y :: l) o n = if most < ((o ++ [y]).length : Int) then ([], 6, n + 1) else decL T most l (o ++ [y]) (n + 1) := by
  rw [decL.eq_def]
  simp only [if_pos]
theorem dec_wrong {x : UInt8} (l o : List UInt8) (n : Nat) (h : x ≠ 255) (hx : T.length ≤ x.toNat) : decL T most (x :: l) o n = ([], 3, n) := by
  rw [decL.eq_def]
  simp only [if_neg h, List.getElem?_eq_none hx]
theorem dec_sym {x : UInt8} {s : List UInt8} (l o : List UInt8) (n : Nat) (h : x ≠ 255) (hx : T[x.toNat]? = some s) : decL T most (x :: l) o n = if most < ((o ++ s).length : Int) then ([], 6, n + 1) else decL T most l (o ++ s) (n + 1) := by
  rw [decL.eq_def]
  simp only [if_neg h, hx]
end
theorem ofNat_code {T : List (List UInt8)} (hT : T.length ≤ 255) {j : Nat} {s : List UInt8} (h : T[j]? = some s) : UInt8.ofNat j ≠ 255 ∧ (UInt8.ofNat j).toNat = j := by
  have hj : j < T.length := (List.getElem?_eq_some_iff.1 h).1
  have h1 : (UInt8.ofNat j).toNat = j := by simp; omega
  refine ⟨fun e => ?_, h1⟩
  rw [e] at h1
  have : (255 : UInt8).toNat = 255 := rfl
  omega
theorem dec_enc {T : List (List UInt8)} (hT : T.length ≤ 255) (l : List UInt8) : ∃ k, ∀ (most : Int) (r o : List UInt8) (n : Nat), ((o.length + l.length : Nat) : Int) ≤ most → decL T most (encL T l ++ r) o n = decL T most r (o ++ l) (n + k) := by
  refine enc_ind (T := T) (P := fun l => ∃ k, ∀ (most : Int) (r o : List UInt8) (n : Nat), ((o.length + l.length : Nat) : Int) ≤ most → decL T most (encL T l ++ r) o n = decL T most r (o ++ l) (n + k)) ?_ (fun x l h ih => ?_) (fun j s l hj h h0 ih => ?_) l
  · exact ⟨0, fun most r o n _ => by rw [enc_nil, List.nil_append, List.append_nil, Nat.add_zero]⟩
  · obtain ⟨k, hk⟩ := ih
    refine ⟨k + 1, fun most r o n hm => ?_⟩
    rw [List.length_cons] at hm
    rw [enc_esc h, List.cons_append, List.cons_append, dec_lit, if_neg (by rw [List.length_append, List.length_cons, List.length_nil]; omega), hk _ _ _ _ (by rw [List.length_append, List.length_cons, List.length_nil]; omega), List.append_assoc, List.singleton_append, show n + 1 + k = n + (k + 1) by omega]
  · obtain ⟨k, hk⟩ := ih
    refine ⟨k + 1, fun most r o n hm => ?_⟩
    rw [List.length_append] at hm
    obtain ⟨h1, h2⟩ := ofNat_code hT hj
    rw [enc_sym h h0, List.cons_append, dec_sym _ _ _ h1 (by rw [h2]; exact hj), if_neg (by rw [List.length_append]; omega), hk _ _ _ _ (by rw [List.length_append]; omega), List.append_assoc, show n + 1 + k = n + (k + 1) by omega]
theorem enc_inj {T : List (List UInt8)} (hT : T.length ≤ 255) {a b : List UInt8} (h : encL T a = encL T b) : a = b := by
  obtain ⟨k, hk⟩ := dec_enc hT a
  obtain ⟨k2, hk2⟩ := dec_enc hT b
  have h1 := hk ((a.length + b.length : Nat) : Int) [] [] 0 (by simp; omega)
  have h2 := hk2 ((a.length + b.length : Nat) : Int) [] [] 0 (by simp; omega)
  rw [h, h2, dec_nil, dec_nil] at h1
  have := congrArg Prod.fst h1
  simpa using this.symm
end Go.Proofs.YtmffpbhiehjlpaaGreat
namespace Go.Proofs.YtmffpbhiehjlpaaGreat
set_option linter.unusedSimpArgs false
set_option linter.unusedVariables false
def sampleL (l : List ByteArray) (ds : List Int) : List ByteArray := if l = [] then [] else ds.map fun d => l.getD (d.natAbs % l.length) ⟨#[]⟩
theorem sample_length {l : List ByteArray} (h : l ≠ []) (ds : List Int) : (sampleL l ds).length = ds.length := by rw [sampleL, if_neg h, List.length_map]
theorem tmod_neg (e n : Nat) : (-(e : Int)).tmod (n : Int) = -((e % n : Nat) : Int) := by rw [Int.neg_tmod]; rfl
structure Cnt (P ns : List (List UInt8)) (cs : List Nat) : Prop where
  len : ns.length = cs.length
  once : ns.Nodup
  cnt : ∀ i (h : i < ns.length), cs[i]'(by omega) = P.count ns[i]
  mem : ∀ x, x ∈ ns ↔ x ∈ P
theorem Cnt.nil : Cnt [] [] [] := ⟨rfl, List.nodup_nil, fun i h => absurd h (Nat.not_lt_zero i), fun _ => Iff.rfl⟩
theorem Cnt.old {P ns : List (List UInt8)} {cs : List Nat} (h : Cnt P ns cs) {i : Nat} (hi : i < ns.length) (hc : i < cs.length) : Cnt (P ++ [ns[i]]) ns (cs.set i (cs[i] + 1)) := by
  refine ⟨by rw [List.length_set]; exact h.len, h.once, fun j hj => ?_, fun x => ?_⟩
  · rw [List.getElem_set, List.count_append, List.count_singleton]
    by_cases hij : i = j
    · subst hij
      rw [if_pos rfl, h.cnt i hi]
      simp
    · rw [if_neg hij, h.cnt j hj]
      have : ns[i] ≠ ns[j] := fun e => hij ((List.getElem_inj h.once).1 e)
      simp [this]
  · rw [List.mem_append, h.mem, List.mem_singleton]
    refine ⟨Or.inl, fun hx => ?_⟩
    rcases hx with hx | rfl
    · exact hx
    · exact (h.mem _).1 (List.getElem_mem hi)
theorem Cnt.new {P ns : List (List UInt8)} {cs : List Nat} (h : Cnt P ns cs) {s : List UInt8} (hs : s ∉ ns) : Cnt (P ++ [s]) (ns ++ [s]) (cs ++ [1]) := by
  have hl := h.len
  refine ⟨by simp [hl], ?_, fun j hj => ?_, fun x => ?_⟩
  · rw [List.nodup_append]
    exact ⟨h.once, by simp, fun a ha b hb => by
      rw [List.mem_singleton] at hb
      subst hb
      exact fun e => hs (e ▸ ha)⟩
  · rw [List.count_append, List.count_singleton]
    have hs0 : P.count s = 0 := List.count_eq_zero.2 fun hx => hs ((h.mem s).2 hx)
    by_cases hjl : j < ns.length
    · rw [List.getElem_append_left (by omega), List.getElem_append_left hjl, h.cnt j hjl]
      have : s ≠ ns[j] := fun e => hs (e ▸ List.getElem_mem hjl)
      simp [this]
    · have hj2 : j = ns.length := by rw [List.length_append, List.length_singleton] at hj; omega
      subst hj2
      rw [List.getElem_append_right (by omega), List.getElem_append_right (by omega)]
      simp [hs0, hl]
  · rw [List.mem_append, List.mem_append, h.mem]
theorem Cnt.few {P ns : List (List UInt8)} {cs : List Nat} (h : Cnt P ns cs) : ns.length ≤ P.length := h.once.length_le_of_subset fun x hx => (h.mem x).1 hx
theorem Cnt.low {P ns : List (List UInt8)} {cs : List Nat} (h : Cnt P ns cs) {i : Nat} (hi : i < cs.length) : cs[i] ≤ P.length := by
  rw [h.cnt i (by rw [h.len]; exact hi)]
  exact List.count_le_length
end Go.Proofs.YtmffpbhiehjlpaaGreat
namespace Go.Proofs.YtmffpbhiehjlpaaGreat
set_option linter.unusedSimpArgs false
set_option linter.unusedVariables false
def stepP (T : List (List UInt8)) (l : List UInt8) : Nat := if (longP T l).2 = 0 then 1 else (longP T l).2
theorem stepP_pos (T : List (List UInt8)) (l : List UInt8) : 0 < stepP T l := by
  unfold stepP
  split <;> omega
theorem stepP_le {T : List (List UInt8)} {l : List UInt8} (h : l ≠ []) : stepP T l ≤ l.length := by
  have hl : 0 < l.length := List.length_pos_iff.2 h
  unfold stepP
  rcases longP_spec T l with h1 | ⟨j, s, _, h2, h3, h4⟩
  · rw [h1, if_pos rfl]; exact hl
  · have := h4.length_le
    rw [h2, if_neg (by show ¬ s.length = 0; omega)]
    exact this
theorem stepP_ok {T : List (List UInt8)} (hT : ∀ s ∈ T, okS s = true) (l : List UInt8) : stepP T l ≤ 8 := by
  unfold stepP
  rcases longP_spec T l with h1 | ⟨j, s, hj, h2, h3, h4⟩
  · rw [h1, if_pos rfl]; decide
  · rw [h2, if_neg (by show ¬ s.length = 0; omega)]
    exact (okS_iff.1 (hT s (List.mem_of_getElem? hj))).2
def piecesF (T : List (List UInt8)) : Nat → List UInt8 → List UInt8 → List (List UInt8)
  | 0, _, _ => []
  | _ + 1, _, [] => []
  | f + 1, last, x :: l => (x :: l).take (stepP T (x :: l)) :: ((if last ≠ [] ∧ last.length + stepP T (x :: l) ≤ 8 then [last ++ (x :: l).take (stepP T (x :: l))] else []) ++
      piecesF T f ((x :: l).take (stepP T (x :: l))) ((x :: l).drop (stepP T (x :: l))))
theorem pieces_fuel (T : List (List UInt8)) : ∀ (f g : Nat) (last l : List UInt8), l.length ≤ f → l.length ≤ g → piecesF T f last l = piecesF T g last l
  | 0, 0, _, _, _, _ => rfl
  | 0, g + 1, _, [], _, _ => rfl
  | f + 1, 0, _, [], _, _ => rfl
  | f + 1, g + 1, _, [], _, _ => rfl
  | f + 1, g + 1, last, x :: l, hf, hg => by
    rw [List.length_cons] at hf hg
    have h0 := stepP_pos T (x :: l)
    unfold piecesF
    rw [pieces_fuel T f g _ ((x :: l).drop (stepP T (x :: l))) (by simp; omega) (by simp; omega)]
def piecesL (T : List (List UInt8)) (last l : List UInt8) : List (List UInt8) := piecesF T l.length last l
theorem pieces_nil (T : List (List UInt8)) (last : List UInt8) : piecesL T last [] = [] := rfl
theorem pieces_cons (T : List (List UInt8)) (last : List UInt8) {l : List UInt8} (h : l ≠ []) : piecesL T last l = l.take (stepP T l) :: ((if last ≠ [] ∧ last.length + stepP T l ≤ 8 then [last ++ l.take (stepP T l)] else []) ++
    piecesL T (l.take (stepP T l)) (l.drop (stepP T l))) := by
  rcases l with _ | ⟨x, l⟩
  · exact absurd rfl h
  · have h0 := stepP_pos T (x :: l)
    show piecesF T (l.length + 1) last (x :: l) = _
    unfold piecesF
    rw [pieces_fuel T l.length ((x :: l).drop (stepP T (x :: l))).length _ _ (by simp; omega) (Nat.le_refl _)]
    rfl
theorem pieces_len (T : List (List UInt8)) (l : List UInt8) : ∀ last, (piecesL T last l).length ≤ 2 * l.length := by
  generalize hn : l.length = n
  induction n using Nat.strongRecOn generalizing l with
  | _ n ih =>
    intro last
    by_cases h : l = []
    · subst h
      simp [pieces_nil]
    · have h0 := stepP_pos T l
      have h1 := stepP_le (T := T) h
      rw [pieces_cons T last h, List.length_cons, List.length_append]
      have := ih (l.drop (stepP T l)).length (by simp; omega) (l.drop (stepP T l)) rfl (l.take (stepP T l))
      rw [List.length_drop] at this
      split
      · simp only [List.length_singleton]; omega
      · simp only [List.length_nil]; omega
def bagL (T : List (List UInt8)) (sample : List (List UInt8)) : List (List UInt8) := sample.flatMap (piecesL T [])
def gainL (P : List (List UInt8)) (x : List UInt8) : Nat := P.count x * x.length
def beats (P : List (List UInt8)) (x y : List UInt8) : Prop := gainL P y < gainL P x ∨ (gainL P x = gainL P y ∧ cmpL x y < 0)
theorem beats_asym {P : List (List UInt8)} {x y : List UInt8} (h : beats P x y) (k : beats P y x) : False := by
  rcases h with h | ⟨h, h2⟩
  · rcases k with k | ⟨k, _⟩ <;> omega
  · rcases k with k | ⟨_, k2⟩
    · omega
    · exact cmpL_irrefl (cmpL_lt_trans h2 k2)
theorem beats_trans {P : List (List UInt8)} {x y z : List UInt8} (h : beats P x y) (k : beats P y z) : beats P x z := by
  rcases h with h | ⟨h, h2⟩
  · rcases k with k | ⟨k, _⟩
    · exact Or.inl (by omega)
    · exact Or.inl (by omega)
  · rcases k with k | ⟨k, k2⟩
    · exact Or.inl (by omega)
    · exact Or.inr ⟨by omega, cmpL_lt_trans h2 k2⟩
structure TopOf (P best : List (List UInt8)) : Prop where
  once : best.Nodup
  few : best.length ≤ 255
  of : ∀ x ∈ best, x ∈ P
  top : ∀ y ∈ P, y ∉ best → best.length = 255 ∧ ∀ x ∈ best, beats P x y
theorem TopOf.sub {P b c : List (List UInt8)} (h : TopOf P b) (k : TopOf P c) : ∀ x ∈ b, x ∈ c := by
  intro x hx
  by_cases hc : x ∈ c
  · exact hc
  · exfalso
    obtain ⟨h1, h2⟩ := k.top x (h.of x hx) hc
    by_cases hs : ∃ y ∈ c, y ∉ b
    · obtain ⟨y, hy, hyb⟩ := hs
      exact beats_asym ((h.top y (k.of y hy) hyb).2 x hx) (h2 y hy)
    · have hsub : ∀ y ∈ x :: c, y ∈ b := fun y hy => by
        rcases List.mem_cons.1 hy with rfl | hy
        · exact hx
        · exact Classical.byContradiction fun hn => hs ⟨y, hy, hn⟩
      have hnd : (x :: c).Nodup := List.nodup_cons.2 ⟨hc, k.once⟩
      have := hnd.length_le_of_subset hsub
      have := h.few
      rw [List.length_cons] at *
      omega
def IsRound (P t : List (List UInt8)) : Prop := ∃ best, TopOf P best ∧ IsOrder best t
theorem IsOrder.same {l m t : List (List UInt8)} (h : IsOrder l t) (hs : ∀ x, x ∈ l ↔ x ∈ m) : IsOrder m t :=
  ⟨h.rises, h.few, fun x hx => ⟨(hs x).1 (h.of x hx).1, (h.of x hx).2⟩, fun s hs2 ho => h.all s ((hs s).2 hs2) ho⟩
theorem IsRound.one {P t u : List (List UInt8)} (h : IsRound P t) (k : IsRound P u) : t = u := by
  obtain ⟨b, h1, h2⟩ := h
  obtain ⟨c, k1, k2⟩ := k
  exact (h2.same fun x => ⟨h1.sub k1 x, k1.sub h1 x⟩).one k2
end Go.Proofs.YtmffpbhiehjlpaaGreat
namespace Go.Proofs.YtmffpbhiehjlpaaGreat
set_option linter.unusedSimpArgs false
set_option linter.unusedVariables false
theorem bag_len (T : List (List UInt8)) : ∀ S : List (List UInt8), (bagL T S).length ≤ 2 * (S.map List.length).sum
  | [] => Nat.zero_le _
  | s :: S => by
    have h1 := pieces_len T s []
    have h2 := bag_len T S
    show ((piecesL T [] s) ++ bagL T S).length ≤ _
    rw [List.length_append, List.map_cons, List.sum_cons]
    omega
theorem bag_drop {T S : List (List UInt8)} {k : Nat} (h : k < S.length) : bagL T (S.drop k) = piecesL T [] S[k] ++ bagL T (S.drop (k + 1)) := by
  rw [List.drop_eq_getElem_cons h]
  rfl
theorem pieces_ok {T : List (List UInt8)} (hT : ∀ s ∈ T, okS s = true) (l : List UInt8) : ∀ last x, x ∈ piecesL T last l → x.length ≤ 8 := by
  generalize hn : l.length = n
  induction n using Nat.strongRecOn generalizing l with
  | _ n ih =>
    intro last x hx
    by_cases h : l = []
    · subst h
      cases hx
    · have h0 := stepP_pos T l
      have h1 := stepP_le (T := T) h
      have h8 := stepP_ok hT l
      rw [pieces_cons T last h, List.mem_cons, List.mem_append] at hx
      rcases hx with rfl | hx | hx
      · rw [List.length_take]; omega
      · split at hx
        · rename_i hc
          rw [List.mem_singleton] at hx
          subst hx
          rw [List.length_append, List.length_take]
          omega
        · cases hx
      · exact ih (l.drop (stepP T l)).length (by simp; omega) _ rfl _ x hx
theorem bag_ok {T : List (List UInt8)} (hT : ∀ s ∈ T, okS s = true) {S : List (List UInt8)} {x : List UInt8} (hx : x ∈ bagL T S) : x.length ≤ 8 := by
  obtain ⟨s, _, h⟩ := List.mem_flatMap.1 hx
  exact pieces_ok hT s [] x h
structure Sel (P ns : List (List UInt8)) (ks : List Nat) : Prop where
  once : ks.Nodup
  lt : ∀ k ∈ ks, k < ns.length
  top : ∀ k (hk : k ∈ ks) j (hj : j < ns.length), j ∉ ks → beats P (ns[k]'(lt k hk)) ns[j]
theorem Sel.nil (P ns : List (List UInt8)) : Sel P ns [] := ⟨List.nodup_nil, fun k h => (by cases h), fun k h => (by cases h)⟩
theorem Sel.snoc {P ns : List (List UInt8)} {ks : List Nat} (h : Sel P ns ks) {k : Nat} (hk : k < ns.length) (hn : k ∉ ks) (hb : ∀ j (hj : j < ns.length), j ∉ ks → j ≠ k → beats P ns[k] ns[j]) : Sel P ns (ks ++ [k]) := by
  refine ⟨?_, fun j hj => ?_, fun i hi j hj hnj => ?_⟩
  · rw [List.nodup_append]
    exact ⟨h.once, by simp, fun a ha b hb e => by
      rw [List.mem_singleton] at hb
      subst hb
      exact hn (e ▸ ha)⟩
  · rcases List.mem_append.1 hj with hj | hj
    · exact h.lt j hj
    · rw [List.mem_singleton] at hj
      omega
  · have hnj1 : j ∉ ks := fun e => hnj (List.mem_append_left _ e)
    have hnj2 : j ≠ k := fun e => hnj (List.mem_append_right _ (by rw [e]; exact List.mem_singleton_self _))
    rcases List.mem_append.1 hi with hi2 | hi2
    · exact h.top i hi2 j hj hnj1
    · rw [List.mem_singleton] at hi2
      subst hi2
      exact hb j hj hnj1 hnj2
theorem Sel.done {P ns : List (List UInt8)} {cs ks : List Nat} (h : Sel P ns ks) (hc : Cnt P ns cs) (hl : ks.length ≤ 255) (hd : ks.length = 255 ∨ ∀ j, j < ns.length → j ∈ ks) {best : List (List UInt8)} (hlen : best.length = ks.length) (hb : ∀ i (hi : i < ks.length), best[i]'(by omega) = ns[ks[i]]'(h.lt _ (List.getElem_mem hi))) : TopOf P best := by
  have hmem : ∀ x, x ∈ best → ∃ i, ∃ hi : i < ks.length, x = ns[ks[i]]'(h.lt _ (List.getElem_mem hi)) := fun x hx => by
    obtain ⟨i, hi, rfl⟩ := List.getElem_of_mem hx
    exact ⟨i, by omega, hb i (by omega)⟩
  refine ⟨?_, by omega, fun x hx => ?_, fun y hy hn => ?_⟩
  · rw [List.nodup_iff_pairwise_ne, List.pairwise_iff_getElem]
    intro i j hi hj hij e
    rw [hb i (by omega), hb j (by omega)] at e
    have e2 := (List.getElem_inj hc.once).1 e
    have e3 := (List.getElem_inj h.once).1 e2
    omega
  · obtain ⟨i, hi, rfl⟩ := hmem x hx
    exact (hc.mem _).1 (List.getElem_mem _)
  · obtain ⟨j, hj, rfl⟩ := List.getElem_of_mem ((hc.mem y).2 hy)
    have hjk : j ∉ ks := fun e => by
      obtain ⟨i, hi, e2⟩ := List.getElem_of_mem e
      have h2 := hb i hi
      have h3 : best[i]'(by omega) ∈ best := List.getElem_mem _
      rw [h2] at h3
      simp only [e2] at h3
      exact hn h3
    refine ⟨?_, fun x hx => ?_⟩
    · rcases hd with h1 | h1
      · omega
      · exact absurd (h1 j hj) hjk
    · obtain ⟨i, hi, rfl⟩ := hmem x hx
      exact h.top _ (List.getElem_mem hi) j hj hjk
def usL (n : Nat) (ks : List Nat) : List Bool := (List.range n).map fun j => decide (j ∈ ks)
theorem usL_length (n : Nat) (ks : List Nat) : (usL n ks).length = n := by simp [usL]
theorem usL_get {n : Nat} (ks : List Nat) {i : Nat} (h : i < n) : (usL n ks)[i]'(by rw [usL_length]; exact h) = decide (i ∈ ks) := by simp [usL]
theorem usL_set {n : Nat} (ks : List Nat) {k : Nat} (h : k < n) : (usL n ks).set k true = usL n (ks ++ [k]) := by
  apply List.ext_getElem
  · simp [usL]
  · intro i h1 h2
    rw [List.length_set, usL_length] at h1
    rw [List.getElem_set, usL_get _ h1, usL_get _ h1]
    by_cases hki : k = i
    · subst hki
      simp
    · rw [if_neg hki]
      have : i ≠ k := fun e => hki e.symm
      simp [this]
def Lead (P ns : List (List UInt8)) (ks : List Nat) (i : Nat) (kk : Int) : Prop :=
  (kk = -1 ∧ ∀ j, j < ns.length → j < i → j ∈ ks) ∨ (∃ k : Nat, ∃ hk : k < ns.length, kk = (k : Int) ∧ k < i ∧ k ∉ ks ∧ ∀ j (hj : j < ns.length), j < i → j ∉ ks → j ≠ k → beats P ns[k] ns[j])
section
variable {P ns : List (List UInt8)} {ks : List Nat} {i : Nat} {kk : Int}
theorem lead_used (h : Lead P ns ks i kk) (hi : i ∈ ks) : Lead P ns ks (i + 1) kk := by
  rcases h with ⟨h1, h2⟩ | ⟨k, hk, h1, h2, h3, h4⟩
  · refine Or.inl ⟨h1, fun j hj hji => ?_⟩
    by_cases e : j = i
    · rw [e]; exact hi
    · exact h2 j hj (by omega)
  · refine Or.inr ⟨k, hk, h1, by omega, h3, fun j hj hji hn hne => h4 j hj ?_ hn hne⟩
    have : j ≠ i := fun e => hn (e ▸ hi)
    omega
theorem lead_first (h : ∀ j, j < ns.length → j < i → j ∈ ks) (hi : i < ns.length) (hn : i ∉ ks) : Lead P ns ks (i + 1) (i : Int) :=
  Or.inr ⟨i, hi, rfl, by omega, hn, fun j hj hji hjn hne => absurd (h j hj (by omega)) hjn⟩
theorem lead_win {k : Nat} (hk : k < ns.length) (h4 : ∀ j (hj : j < ns.length), j < i → j ∉ ks → j ≠ k → beats P ns[k] ns[j]) (hi : i < ns.length) (hn : i ∉ ks) (hb : beats P ns[i] ns[k]) : Lead P ns ks (i + 1) (i : Int) := by
  refine Or.inr ⟨i, hi, rfl, by omega, hn, fun j hj hji hjn hne => ?_⟩
  by_cases e : j = k
  · subst e
    exact hb
  · exact beats_trans hb (h4 j hj (by omega) hjn e)
theorem lead_lose {k : Nat} (hk : k < ns.length) (hki : k < i) (hkn : k ∉ ks) (h4 : ∀ j (hj : j < ns.length), j < i → j ∉ ks → j ≠ k → beats P ns[k] ns[j]) (hi : i < ns.length) (hb : beats P ns[k] ns[i]) : Lead P ns ks (i + 1) (k : Int) := by
  refine Or.inr ⟨k, hk, rfl, by omega, hkn, fun j hj hji hjn hne => ?_⟩
  by_cases e : j = i
  · subst e
    exact hb
  · exact h4 j hj (by omega) hjn hne
end
end Go.Proofs.YtmffpbhiehjlpaaGreat
namespace Go.Proofs.YtmffpbhiehjlpaaGreat
set_option linter.unusedSimpArgs false
set_option linter.unusedVariables false
open Go.RowKit
theorem getD_atS {l : List ByteArray} {q : Nat} (h : q < l.length) (d : ByteArray) : l.getD q d = l[q] := by
  rw [List.getD_eq_getElem?_getD, List.getElem?_eq_getElem h]
  rfl
set_option maxRecDepth 20000 in
set_option maxHeartbeats 2000000 in
theorem refSample_any {w : World} (l : List ByteArray) (ds : List Int) {c d : Nat} {A B : Option Addr} (h : Rd w 0 w.heap.size A c (sv l)) (hd : Rd w 0 w.heap.size B d (iv ds)) (hln : l.length ≤ 1000000) (hdn : ds.length ≤ 1000000) :
    Calls Tryz.prog 46 #[.slice A l.length c, .slice B ds.length d] w fun r w' => ∃ A' c', r = .returned (.slice A' (sampleL l ds).length c') ∧
      w'.ownsRow w.heap.size 9 1 (.slice A' (sampleL l ds).length c') (sampleL l ds).length (sv (sampleL l ds)) ∧ Below w.heap.size w w' := by
  have hl := h.len
  have hc := h.cap
  have hl2 := hd.len
  have hc2 := hd.cap
  rw [sv_length] at hl
  rw [iv_length] at hl2
  unfold maxLen at hc hc2
  have H := Lib.hid h
  have HD := Lib.hid hd
  clear h hd
  by_cases h0 : l = []
  · have hl0 : l.length = 0 := by rw [h0]; rfl
    have HS : Hid (sampleL l ds = []) := if_pos h0
    have i0 : ¬ (0 : Int) < (l.length : Int) := by omega
    have d0 : decide ((0 : Int) < (l.length : Int)) = false := decide_eq_false i0
    clear h0
    by_cases hd0 : 0 < ds.length
    all_goals
      have := hd0
      go_enter Tryz.func46, Tryz.ntmps46
      go_wp2_with fail
      go_loopw [5, 6] (fun x5 x6 wr => x5 = .slice none 0 0 ∧ x6 = .int .i64 0 ∧ wr = w) (fun _ _ _ => 0)
      case atStart => exact ⟨rfl, rfl, rfl⟩
      case round =>
        obtain ⟨rfl, rfl, rfl⟩ := hrel
        first
          | (have ik : (0 : Int) < (ds.length : Int) := by omega
             go_wp2_with fail
             go_ret
             exact ⟨none, 0, by rw [HS.out]; rfl, by rw [HS.out]; exact World.ownsRow_nil _ _ _ _, Below.refl _ _⟩)
          | (have ik : ¬ (0 : Int) < (ds.length : Int) := by omega
             go_wp2_with fail
             go_ret
             exact ⟨none, 0, by rw [HS.out]; rfl, by rw [HS.out]; exact World.ownsRow_nil _ _ _ _, Below.refl _ _⟩)
  · have hln0 : l.length ≠ 0 := fun e => h0 (List.eq_nil_of_length_eq_zero e)
    have i0 : (0 : Int) < (l.length : Int) := by omega
    have d0 : decide ((0 : Int) < (l.length : Int)) = true := decide_eq_true i0
    have HLN := Lib.hid (sample_length h0 ds)
    have HGET : Hid (∀ k (hk : k < ds.length), (sampleL l ds)[k]'(by rw [HLN.out]; exact hk) = l.getD (ds[k].natAbs % l.length) ⟨#[]⟩) := fun k hk => by simp [sampleL, if_neg h0]
    clear h0
    go_enter Tryz.func46, Tryz.ntmps46
    go_wp2_with fail
    go_loopw [5, 6] (fun x5 x6 wr => ∃ (k : Nat) (A' : Option Addr) (c' : Nat), k ≤ ds.length ∧ x6 = .int .i64 (k : Int) ∧ x5 = .slice A' k c' ∧ wr.ownsRow w.heap.size 9 1 (.slice A' k c') k (sv ((sampleL l ds).take k)) ∧ Below w.heap.size w wr) (fun _ i _ => ds.length - (intOf i).toNat)
    case atStart => exact ⟨0, none, 0, Nat.zero_le _, rfl, rfl, World.ownsRow_nil _ _ _ _, Below.refl _ _⟩
    case round =>
      obtain ⟨k, A', c', hk, rfl, rfl, hown, hb⟩ := hrel
      have HO := Lib.hid hown
      have HB := Lib.hid hb
      have hsz := hb.size
      clear hown hb
      by_cases hlt : k < ds.length
      · have ik : (k : Int) < (ds.length : Int) := by omega
        obtain ⟨b2, off2, rfl, _, hbh2, hcell2⟩ := (HD.out.below HB.out (Nat.le_refl _)).num hlt
        have hql : ds[k].natAbs % l.length < l.length := Nat.mod_lt _ (by omega)
        obtain ⟨b, off, rfl, _, hbh, hcell⟩ := (H.out.below HB.out (Nat.le_refl _)).str hql
        have HTK : Hid ((sampleL l ds).take (k + 1) = (sampleL l ds).take k ++ [l[ds[k].natAbs % l.length]]) := by
          unfold Hid
          rw [List.take_succ_eq_append_getElem (by rw [HLN.out]; exact hlt), HGET.out k hlt, getD_atS hql]
        have hkl : ((sampleL l ds).take k).length = k := by rw [List.length_take, HLN.out]; omega
        have HKL := Lib.hid hkl
        clear hkl
        have hdec : ds[k].tmod (l.length : Int) = ((ds[k].natAbs % l.length : Nat) : Int) ∨ (ds[k].tmod (l.length : Int) = -((ds[k].natAbs % l.length : Nat) : Int) ∧ 0 < ds[k].natAbs % l.length) := by
          rcases Int.le_total 0 ds[k] with h | h
          · obtain ⟨e, he⟩ : ∃ e : Nat, ds[k] = (e : Int) := ⟨ds[k].toNat, by omega⟩
            rw [he, Int.natAbs_natCast]
            exact Or.inl rfl
          · obtain ⟨e, he⟩ : ∃ e : Nat, ds[k] = -(e : Int) := ⟨(-ds[k]).toNat, by omega⟩
            rw [he, Int.natAbs_neg, Int.natAbs_natCast, tmod_neg]
            rcases Nat.eq_zero_or_pos (e % l.length) with h1 | h1
            · left
              rw [h1]
              rfl
            · exact Or.inr ⟨rfl, h1⟩
        generalize ds[k].natAbs % l.length = q at *
        generalize ds[k] = z at *
        generalize l[q] = s at *
        rcases hdec with ht | ⟨ht, hq0⟩
        · have iq : ¬ (q : Int) < 0 := by omega
          go_wp2_with (at_builtin; refine wpList_push_str (v := .slice A' k c') w.heap.size ((sampleL l ds).take k) s rfl _ _ rfl rfl rfl rfl (by rw [World.cell?_alloc_at _ _ _ _ rfl]; rfl) (by rw [HKL.out]; exact HO.out.alloc _) (by rw [HKL.out]; omega) (by simp; omega) ?_; intro A2 c2 w2 ho2 hg2)
          go_roundw
          case rel =>
            have hl3 : ((sampleL l ds).take k ++ [s]).length = k + 1 := by rw [List.length_append, HKL.out]; rfl
            refine ⟨k + 1, A2, c2, by omega, by go_num, by rw [show min k (sampleL l ds).length = k by rw [HLN.out]; omega], ?_, (HB.out.alloc hsz _).grown hg2 (by simp; omega) (fun q hq => (own_lt HO.out hq).1)⟩
            rw [hl3] at ho2
            rw [HTK.out]
            exact ho2
          case measure => simp [intOf] <;> omega
        · have iq : -(q : Int) < 0 := by omega
          go_wp2_with (at_builtin; refine wpList_push_str (v := .slice A' k c') w.heap.size ((sampleL l ds).take k) s rfl _ _ rfl rfl rfl rfl (by rw [World.cell?_alloc_at _ _ _ _ rfl]; rfl) (by rw [HKL.out]; exact HO.out.alloc _) (by rw [HKL.out]; omega) (by simp; omega) ?_; intro A2 c2 w2 ho2 hg2)
          go_roundw
          case rel =>
            have hl3 : ((sampleL l ds).take k ++ [s]).length = k + 1 := by rw [List.length_append, HKL.out]; rfl
            refine ⟨k + 1, A2, c2, by omega, by go_num, by rw [show min k (sampleL l ds).length = k by rw [HLN.out]; omega], ?_, (HB.out.alloc hsz _).grown hg2 (by simp; omega) (fun q hq => (own_lt HO.out hq).1)⟩
            rw [hl3] at ho2
            rw [HTK.out]
            exact ho2
          case measure => simp [intOf] <;> omega
      · have ik : ¬ (k : Int) < (ds.length : Int) := by omega
        have hke : k = (sampleL l ds).length := by rw [HLN.out]; omega
        have HKE := Lib.hid hke
        have HT : Hid ((sampleL l ds).take k = sampleL l ds) := List.take_of_length_le (by omega)
        clear hke
        go_wp2_with fail
        go_ret
        exact ⟨A', c', by rw [← HKE.out]; rfl, by rw [← HKE.out]; have := HO.out; rw [HT.out] at this; exact this, HB.out⟩
end Go.Proofs.YtmffpbhiehjlpaaGreat
