/-
  The cursor's Text.
  What the cursor's Text takes, in plain, at whatever place: what is taken without an error stands so; what stands so is taken.
  Dictionaries in plain, block by block: entries and sizes of blocks, what may follow; what Open takes: what is taken without an error is built so, what is built is taken.
-/
import Derived.Test.YtmffpbhiehjlpaaGreatZ06
import Derived.Test.YtmffpbhiehjlpaaGreatZ07
import Derived.Test.YtmffpbhiehjlpaaGreatZ05
import Derived.Test.YtmffpbhiehjlpaaGreatZ01
namespace Go.Proofs.YtmffpbhiehjlpaaGreat
set_option linter.unusedSimpArgs false
set_option linter.unusedVariables false
open Go.RowKit
def textR (bs : List UInt8) (k : Nat) (e : Int) : List UInt8 × Nat × Int :=
  takeR bs k (peekR bs k e 4096).2.2 (peekR bs k e 4096).2.1 ((peekR bs k e 4096).1 : Int)
theorem text_any {w : World} {lo g k : Nat} {bs : List UInt8} {e : Int} (h : Cur w lo g bs k e) :
    Calls Tryz.prog 120 #[cp g] w fun r w' => r = .returned (.string ⟨(textR bs k e).1.toArray⟩) ∧
      Cur w' lo g bs (textR bs k e).2.1 (textR bs k e).2.2 ∧ w.grownBy w' (some g) := by
  have hk := h.le
  have HP := Lib.hid (peek_any 4096 h)
  have hs := peekR_size bs k e 4096 hk
  have HE0 : textR bs k e = takeR bs k (peekR bs k e 4096).2.2 (peekR bs k e 4096).2.1 ((peekR bs k e 4096).1 : Int) := rfl
  have HE := Lib.hid HE0
  clear h HE0
  generalize textR bs k e = M at *
  generalize peekR bs k e 4096 = R at *
  go_enter Tryz.func120, Tryz.ntmps120
  go_wp2_with fail
  refine HP.out.mono ?_
  rintro r w1 ⟨rfl, hc1, hg1⟩
  have HC := Lib.hid hc1
  clear hc1
  go_wp2_with fail
  refine (take_any _ _ HC.out hs).mono ?_
  rintro r w2 ⟨A, c, rfl, hrd, hc2, hg2⟩
  rw [← HE.out] at hc2 hrd ⊢
  have HC2 := Lib.hid hc2
  have hstr := run_string_rd (P := Tryz.prog) w2 28 9 5 Tryz.underlying28 Tryz.underlying5 Tryz.underlying9 lo g A c M.1 hrd
  clear hc2 hrd
  go_wp2
  go_ret
  exact ⟨rfl, HC2.out, hg1.trans hg2⟩
end Go.Proofs.YtmffpbhiehjlpaaGreat
namespace Go.Proofs.YtmffpbhiehjlpaaGreat
set_option linter.unusedSimpArgs false
set_option linter.unusedVariables false
theorem text_bad (bs : List UInt8) (k : Nat) {e : Int} (h : e ≠ 0) : textR bs k e = ([], k, e) := by simp [textR, peekR, takeR, h]
theorem text_good {bs s : List UInt8} {k k2 : Nat} (hk : k ≤ bs.length) (h : textR bs k 0 = (s, k2, 0)) :
    s.length ≤ 4096 ∧ bs.drop k = textL s ++ bs.drop k2 ∧ k2 = k + (textL s).length ∧ k2 ≤ bs.length := by
  unfold textR at h
  rcases peek_split bs k 4096 with ⟨e, he, hr⟩ | ⟨h1, h2, hr⟩
  · rw [hr] at h
    simp only [takeR_err _ _ _ _ _ he, Prod.mk.injEq] at h
    exact absurd h.2.2 he
  · rw [hr] at h
    obtain ⟨f1, f2, f3⟩ := vnum_form _ h1
    have hs := vnum_size (bs.drop k)
    rw [List.length_drop] at hs
    have hl : (putL (vnum (bs.drop k)).1).length = (vnum (bs.drop k)).2.1 := by rw [f1, List.length_take, List.length_drop]; omega
    generalize (vnum (bs.drop k)).1 = n at *
    generalize (vnum (bs.drop k)).2.1 = z at *
    by_cases hf : k + z + n ≤ bs.length
    · have hT : takeR bs k 0 z (n : Int) = ((bs.drop (k + z)).take n, k + z + n, 0) := by
        unfold takeR
        rw [if_neg (by simp), if_neg (by omega), if_neg (by omega), Int.toNat_natCast]
      simp only [hT, Prod.mk.injEq, and_true] at h
      obtain ⟨rfl, rfl⟩ := h
      have hsl : ((bs.drop (k + z)).take n).length = n := by rw [List.length_take, List.length_drop]; omega
      refine ⟨by omega, ?_, by rw [textL, List.length_append, hsl, hl]; omega, hf⟩
      rw [textL, hsl, f1, List.append_assoc, ← List.drop_drop (i := n), List.take_append_drop, ← List.drop_drop, List.take_append_drop]
    · have hT : takeR bs k 0 z (n : Int) = ([], k, 2) := by
        unfold takeR
        rw [if_neg (by simp), if_neg (by omega), if_pos (by omega)]
      rw [hT] at h
      simp at h
theorem text_back {bs s rest : List UInt8} {k : Nat} (hk : k ≤ bs.length) (h : bs.drop k = textL s ++ rest) (hs : s.length ≤ 4096) : textR bs k 0 = (s, k + (textL s).length, 0) := by
  have hv := vnum_putL s.length (by omega) (s ++ rest)
  have h' : bs.drop k = putL s.length ++ (s ++ rest) := by rw [h, textL, List.append_assoc]
  have h0 : peekE bs k 4096 = 0 := by
    unfold peekE
    rw [h', hv, if_neg (by simp), if_neg (by simp only []; omega)]
  have hlen : bs.length - k = (putL s.length).length + (s.length + rest.length) := by rw [← List.length_drop, h', List.length_append, List.length_append]
  have hp : peekR bs k 0 4096 = (s.length, (putL s.length).length, 0) := by
    unfold peekR
    rw [h', hv]
    simp [h0]
  unfold textR
  rw [hp]
  unfold takeR
  simp only []
  rw [if_neg (by simp), if_neg (by omega), if_neg (by omega), Int.toNat_natCast, ← List.drop_drop, h', List.drop_left, List.take_left, textL, List.length_append, Nat.add_assoc]
end Go.Proofs.YtmffpbhiehjlpaaGreat
namespace Go.Proofs.YtmffpbhiehjlpaaGreat
set_option linter.unusedSimpArgs false
set_option linter.unusedVariables false
def entsR : List UInt8 → List (List UInt8) → List UInt8
  | _, [] => []
  | p, s :: t => putL (shareN p s) ++ (textL (s.drop (shareN p s)) ++ entsR s t)
def blkL : List (List UInt8) → List UInt8
  | [] => []
  | s :: t => textL s ++ entsR s t
theorem entsR_snoc : ∀ (p : List UInt8) (t : List (List UInt8)) (s : List UInt8), entsR p (t ++ [s]) = entsR p t ++ (putL (shareN (t.getLastD p) s) ++ textL (s.drop (shareN (t.getLastD p) s)))
  | p, [], s => by simp [entsR]
  | p, x :: t, s => by
    rw [List.cons_append, entsR, entsR_snoc x t s, entsR, List.getLastD_cons]
    simp
theorem blkL_snoc {t : List (List UInt8)} (h : t ≠ []) (s : List UInt8) : blkL (t ++ [s]) = blkL t ++ (putL (shareN (t.getLastD []) s) ++ textL (s.drop (shareN (t.getLastD []) s))) := by
  cases t with
  | nil => exact absurd rfl h
  | cons x t =>
    rw [List.cons_append, blkL, entsR_snoc, blkL, List.getLastD_cons]
    simp
theorem lastD_take {l : List (List UInt8)} {j : Nat} (h : j < l.length) (d : List UInt8) : (l.take (j + 1)).getLastD d = l[j] := by
  rw [List.take_succ_eq_append_getElem h, List.getLastD_concat]
theorem getD_at {l : List (List UInt8)} {i : Nat} (h : i < l.length) : l.getD i [] = l[i] := by
  rw [List.getD_eq_getElem?_getD, List.getElem?_eq_getElem h]
  rfl
theorem blk_ent {K i j : Nat} {l : List (List UInt8)} (hj : j < K) (h : i * K + j < l.length) : blkL ((l.drop (i * K)).take (j + 1)) = blkL ((l.drop (i * K)).take j) ++ entI K l (i * K + j) := by
  have hd : j < (l.drop (i * K)).length := by rw [List.length_drop]; omega
  have he : (l.drop (i * K))[j] = l[i * K + j] := by simp
  rw [List.take_succ_eq_append_getElem hd, he]
  unfold entI entL
  rw [getD_at h]
  have hm : (i * K + j) % K = j := by rw [Nat.mul_comm, Nat.mul_add_mod, Nat.mod_eq_of_lt hj]
  rw [hm]
  cases j with
  | zero => simp [blkL, entsR]
  | succ j =>
    have hne : (l.drop (i * K)).take (j + 1) ≠ [] := fun e => by
      have := congrArg List.length e
      rw [List.length_take, List.length_nil] at this
      omega
    have h2 : i * K + (j + 1) - 1 = i * K + j := by omega
    rw [blkL_snoc hne, lastD_take (by omega), if_neg (by omega), h2, getD_at (by omega)]
    simp
theorem ents_blk {K i : Nat} {l : List (List UInt8)} : ∀ {j : Nat}, j ≤ K → i * K + j ≤ l.length → entsL K l (i * K + j) = entsL K l (i * K) ++ blkL ((l.drop (i * K)).take j)
  | 0, _, _ => by simp [blkL]
  | j + 1, hj, h => by
    rw [← Nat.add_assoc, ents_succ, ents_blk (j := j) (by omega) (by omega), blk_ent (by omega) (by omega), List.append_assoc]
theorem bump_snoc (S : List Nat) (x n : Nat) : bumpL (S ++ [x]) n = S ++ [x + n] := by
  unfold bumpL
  simp
theorem sizes_blk {K i : Nat} {l : List (List UInt8)} : ∀ {j : Nat}, j < K → i * K + (j + 1) ≤ l.length → sizesN K l (i * K + (j + 1)) = sizesN K l (i * K) ++ [(blkL ((l.drop (i * K)).take (j + 1))).length]
  | 0, hj, h => by
    rw [blk_ent hj (by omega)]
    simp [blkL, sizesN, bump_snoc]
  | j + 1, hj, h => by
    have hm : (i * K + (j + 1)) % K = j + 1 := by rw [Nat.mul_comm, Nat.mul_add_mod, Nat.mod_eq_of_lt hj]
    rw [← Nat.add_assoc, sizesN, if_neg (by omega), sizes_blk (j := j) (by omega) (by omega), bump_snoc, blk_ent (j := j + 1) hj (by omega), List.length_append]
theorem entI_app {K k : Nat} {l t : List (List UInt8)} (h : k < l.length) : entI K (l ++ t) k = entI K l k := by
  unfold entI
  rw [List.getD_eq_getElem?_getD, List.getD_eq_getElem?_getD, List.getElem?_append_left h, List.getElem?_append_left (by omega), ← List.getD_eq_getElem?_getD, ← List.getD_eq_getElem?_getD]
theorem ents_app {K : Nat} {l t : List (List UInt8)} : ∀ {k : Nat}, k ≤ l.length → entsL K (l ++ t) k = entsL K l k
  | 0, _ => rfl
  | k + 1, h => by rw [ents_succ, ents_succ, ents_app (by omega), entI_app (by omega)]
theorem sizes_app {K : Nat} {l t : List (List UInt8)} : ∀ {k : Nat}, k ≤ l.length → sizesN K (l ++ t) k = sizesN K l k
  | 0, _ => rfl
  | k + 1, h => by rw [sizesN, sizesN, sizes_app (by omega), entI_app (by omega)]
def follL (l : List (List UInt8)) (s : List UInt8) : Bool := decide (s.length ≤ 4096) && (decide (l.length = 0) || decide (cmpL (l.getLastD []) s < 0))
def goodL (l : List (List UInt8)) : Bool := l.all (fun s => decide (s.length ≤ 4096)) && risesL l
theorem good_snoc (l : List (List UInt8)) (s : List UInt8) : goodL (l ++ [s]) = (goodL l && follL l s) := by
  unfold goodL follL
  rw [List.all_append, List.all_cons, List.all_nil, Bool.and_true]
  rcases List.eq_nil_or_concat l with rfl | ⟨t, a, rfl⟩
  · simp [risesL]
  · rw [List.concat_eq_append, List.append_assoc, List.singleton_append, rises_snoc]
    have h1 : decide ((t ++ [a]).length = 0) = false := decide_eq_false (by simp)
    have h2 : (t ++ [a]).getLastD [] = a := by simp
    rw [h1, h2, Bool.false_or]
    generalize (t ++ [a]).all _ = p
    generalize risesL (t ++ [a]) = q
    generalize decide (s.length ≤ 4096) = r
    generalize decide (cmpL a s < 0) = v
    revert p q r v
    decide
theorem good_app : ∀ {l t : List (List UInt8)}, goodL (l ++ t) = true → goodL l = true
  | l, [], h => by simpa using h
  | l, s :: t, h => by
    have h2 := good_app (l := l ++ [s]) (t := t) (by rw [List.append_assoc]; exact h)
    rw [good_snoc, Bool.and_eq_true] at h2
    exact h2.1
theorem dic_good {l : List (List UInt8)} : dicL l = (decide (l.length ≤ 4096) && goodL l) := by unfold dicL goodL; rw [Bool.and_assoc]
def nextR (bs : List UInt8) (k : Nat) (e : Int) (last : List UInt8) : List UInt8 × Nat × Int :=
  let r := mostR bs k e last.length
  let t := textR bs r.2.1 r.2.2
  let s := last.take r.1 ++ t.1
  (s, t.2.1, if shareN last s = r.1 then t.2.2 else orForm t.2.2)
def entR (first : Bool) (bs : List UInt8) (k : Nat) (e : Int) (last : List UInt8) : List UInt8 × Nat × Int := if first then textR bs k e else nextR bs k e last
def stepF (bs : List UInt8) (E : Int) (l : List (List UInt8)) (first : Bool) (last : List UInt8) (k : Nat) (e : Int) : List UInt8 × Nat × Int :=
  let r := entR first bs k e last
  (r.1, r.2.1, if follL l r.1 = true ∧ E ≤ ((bs.length - r.2.1 : Nat) : Int) then r.2.2 else orForm r.2.2)
def takeF (bs : List UInt8) (E : Int) : Nat → Bool → List (List UInt8) → List UInt8 → Nat → Int → List (List UInt8) × Nat × Int
  | 0, _, l, _, k, e => (l, k, e)
  | m + 1, f, l, last, k, e => if (stepF bs E l f last k e).2.2 = 0 then takeF bs E m false (l ++ [(stepF bs E l f last k e).1]) (stepF bs E l f last k e).1 (stepF bs E l f last k e).2.1 0 else (l, (stepF bs E l f last k e).2.1, (stepF bs E l f last k e).2.2)
def takeT (bs : List UInt8) (l : List (List UInt8)) (k : Nat) (e : Int) (n size : Nat) : List (List UInt8) × Nat × Int :=
  let r := takeF bs (((bs.length - k : Nat) : Int) - size) n true l [] k e
  (r.1, r.2.1, if ((bs.length - r.2.1 : Nat) : Int) = ((bs.length - k : Nat) : Int) - size then r.2.2 else orForm r.2.2)
def openB (bs : List UInt8) (count K : Nat) : List Nat → Nat → List (List UInt8) → Nat → Int → List (List UInt8) × Nat × Int
  | [], _, l, k, e => (l, k, e)
  | z :: ns, i, l, k, e => openB bs count K ns (i + 1) (takeT bs l k e (min K (count - i * K)) z).1 (takeT bs l k e (min K (count - i * K)) z).2.1 (takeT bs l k e (min K (count - i * K)) z).2.2
def blocksN (count K : Nat) : Nat := (count + K - 1) / K
def openM (bs : List UInt8) (count K : Nat) (k : Nat) (e : Int) : List (List UInt8) × Nat × Int :=
  openB bs count K (readR bs k e (blocksN count K : Int)).1 0 [] (readR bs k e (blocksN count K : Int)).2.1 (if (readR bs k e (blocksN count K : Int)).1.length = blocksN count K then (readR bs k e (blocksN count K : Int)).2.2 else orForm (readR bs k e (blocksN count K : Int)).2.2)
def openK (bs : List UInt8) (count K : Nat) (k : Nat) (e : Int) : List (List UInt8) × Nat × Int :=
  if 1 ≤ K ∧ K ≤ 64 then (if (openM bs count K k e).2.2 = 0 then openM bs count K k e else ([], (openM bs count K k e).2)) else ([], k, orForm e)
def openR (bs : List UInt8) (k : Nat) (e : Int) : List (List UInt8) × Nat × Int :=
  openK bs (mostR bs k e 4096).1 (mostR bs (mostR bs k e 4096).2.1 (mostR bs k e 4096).2.2 64).1 (mostR bs (mostR bs k e 4096).2.1 (mostR bs k e 4096).2.2 64).2.1 (mostR bs (mostR bs k e 4096).2.1 (mostR bs k e 4096).2.2 64).2.2
theorem nextR_bad (bs : List UInt8) (k : Nat) {e : Int} (last : List UInt8) (h : e ≠ 0) : (nextR bs k e last).2 = (k, e) := by
  unfold nextR
  simp only [most_bad _ _ _ h, text_bad _ _ h, orForm_bad h, ite_self]
theorem entR_bad (f : Bool) (bs : List UInt8) (k : Nat) {e : Int} (last : List UInt8) (h : e ≠ 0) : (entR f bs k e last).2 = (k, e) := by
  unfold entR
  split
  · rw [text_bad _ _ h]
  · exact nextR_bad bs k last h
theorem stepF_bad (bs : List UInt8) (E : Int) (l : List (List UInt8)) (f : Bool) (last : List UInt8) (k : Nat) {e : Int} (h : e ≠ 0) : (stepF bs E l f last k e).2 = (k, e) := by
  unfold stepF
  simp only [entR_bad f bs k last h, orForm_bad h, ite_self]
theorem takeF_bad (bs : List UInt8) (E : Int) (n : Nat) (f : Bool) (l : List (List UInt8)) (last : List UInt8) (k : Nat) {e : Int} (h : e ≠ 0) : takeF bs E n f l last k e = (l, k, e) := by
  cases n with
  | zero => rfl
  | succ n =>
    rw [takeF]
    simp only [stepF_bad bs E l f last k h, if_neg h]
theorem takeT_bad (bs : List UInt8) (l : List (List UInt8)) (k : Nat) {e : Int} (n size : Nat) (h : e ≠ 0) : takeT bs l k e n size = (l, k, e) := by
  unfold takeT
  simp only [takeF_bad bs _ n true l [] k h, orForm_bad h, ite_self]
theorem openB_bad (bs : List UInt8) (count K : Nat) : ∀ (ns : List Nat) (i : Nat) (l : List (List UInt8)) (k : Nat) {e : Int}, e ≠ 0 → openB bs count K ns i l k e = (l, k, e)
  | [], i, l, k, e, _ => rfl
  | z :: ns, i, l, k, e, h => by
    rw [openB]
    simp only [takeT_bad bs l k _ z h]
    exact openB_bad bs count K ns (i + 1) l k h
theorem share_take {last s : List UInt8} : last.take (shareN last s) ++ s.drop (shareN last s) = s := by
  induction last generalizing s with
  | nil => cases s <;> simp [shareN]
  | cons x a ih =>
    cases s with
    | nil => simp [shareN]
    | cons y b =>
      unfold shareN
      split
      · rename_i h
        rw [List.take_succ_cons, List.drop_succ_cons, List.cons_append, ih, h]
      · simp
theorem nextR_good {bs s last : List UInt8} {k k2 : Nat} (hk : k ≤ bs.length) (h : nextR bs k 0 last = (s, k2, 0)) :
    bs.drop k = putL (shareN last s) ++ (textL (s.drop (shareN last s)) ++ bs.drop k2) ∧ k2 = k + ((putL (shareN last s)).length + (textL (s.drop (shareN last s))).length) ∧ k2 ≤ bs.length := by
  unfold nextR at h
  obtain ⟨R, hR⟩ : ∃ R, mostR bs k 0 (last.length : Int) = R := ⟨_, rfl⟩
  simp only [hR] at h
  obtain ⟨n, k1, e1⟩ := R
  simp only at h
  by_cases he1 : e1 = 0
  · subst he1
    obtain ⟨g1, g2, g3, g4, g5⟩ := most_good hk hR
    obtain ⟨T, hT⟩ : ∃ T, textR bs k1 0 = T := ⟨_, rfl⟩
    simp only [hT] at h
    obtain ⟨t, k3, e3⟩ := T
    simp only [Prod.mk.injEq] at h
    obtain ⟨rfl, rfl, h3⟩ := h
    by_cases hs : shareN last (last.take n ++ t) = n
    · rw [if_pos hs] at h3
      subst h3
      obtain ⟨t1, t2, t3, t4⟩ := text_good g5 hT
      have hd : (last.take n ++ t).drop n = t := by rw [List.drop_append_of_le_length (by rw [List.length_take]; omega), List.drop_eq_nil_of_le (by rw [List.length_take]; omega), List.nil_append]
      rw [hs, hd]
      exact ⟨by rw [g3, t2], by omega, t4⟩
    · rw [if_neg hs] at h3
      exact absurd h3 (orForm_ne _)
  · simp only [text_bad _ _ he1, orForm_bad he1, ite_self, Prod.mk.injEq] at h
    exact absurd h.2.2 he1
theorem nextR_back {bs s last rest : List UInt8} {k : Nat} (hk : k ≤ bs.length) (h : bs.drop k = putL (shareN last s) ++ (textL (s.drop (shareN last s)) ++ rest)) (hs : s.length ≤ 4096) (hl : last.length ≤ 4096) :
    nextR bs k 0 last = (s, k + ((putL (shareN last s)).length + (textL (s.drop (shareN last s))).length), 0) := by
  have hsh := share_le last s
  have hM := most_back (m := (last.length : Int)) h (by omega) (by omega)
  have hlen : bs.length - k = (putL (shareN last s)).length + ((textL (s.drop (shareN last s))).length + rest.length) := by rw [← List.length_drop, h, List.length_append, List.length_append]
  have hd : bs.drop (k + (putL (shareN last s)).length) = textL (s.drop (shareN last s)) ++ rest := by rw [← List.drop_drop, h, List.drop_left]
  have hT := text_back (by omega) hd (by rw [List.length_drop]; omega)
  unfold nextR
  simp only [hM, hT, share_take, if_true, Prod.mk.injEq, and_true, true_and]
  omega
theorem stepF_split {bs s : List UInt8} {E : Int} {l : List (List UInt8)} {f : Bool} {last : List UInt8} {k k2 : Nat} (h : stepF bs E l f last k 0 = (s, k2, 0)) : entR f bs k 0 last = (s, k2, 0) ∧ follL l s = true ∧ E ≤ ((bs.length - k2 : Nat) : Int) := by
  unfold stepF at h
  simp only [Prod.mk.injEq] at h
  obtain ⟨h1, h2, h3⟩ := h
  rw [h1, h2] at h3
  by_cases hc : follL l s = true ∧ E ≤ ((bs.length - k2 : Nat) : Int)
  · rw [if_pos hc] at h3
    exact ⟨Prod.ext h1 (Prod.ext h2 h3), hc⟩
  · rw [if_neg hc] at h3
    exact absurd h3 (orForm_ne _)
theorem takeF_step {bs : List UInt8} {E : Int} {m k k2 : Nat} {f : Bool} {l l2 : List (List UInt8)} {last : List UInt8} (h : takeF bs E (m + 1) f l last k 0 = (l2, k2, 0)) :
    ∃ s k1, entR f bs k 0 last = (s, k1, 0) ∧ follL l s = true ∧ E ≤ ((bs.length - k1 : Nat) : Int) ∧ takeF bs E m false (l ++ [s]) s k1 0 = (l2, k2, 0) := by
  rw [takeF] at h
  obtain ⟨S, hS⟩ : ∃ S, stepF bs E l f last k 0 = S := ⟨_, rfl⟩
  rw [hS] at h
  obtain ⟨s, k1, e1⟩ := S
  simp only at h
  by_cases he1 : e1 = 0
  · subst he1
    rw [if_pos rfl] at h
    obtain ⟨h1, h2, h3⟩ := stepF_split hS
    exact ⟨s, k1, h1, h2, h3, h⟩
  · rw [if_neg he1] at h
    simp only [Prod.mk.injEq] at h
    exact absurd h.2.2 he1
theorem takeF_rest {bs : List UInt8} {E : Int} : ∀ {m k k2 : Nat} {l l2 : List (List UInt8)} {last : List UInt8}, k ≤ bs.length → takeF bs E m false l last k 0 = (l2, k2, 0) →
    ∃ t, t.length = m ∧ l2 = l ++ t ∧ (goodL l = true → goodL l2 = true) ∧ bs.drop k = entsR last t ++ bs.drop k2 ∧ k2 = k + (entsR last t).length ∧ k2 ≤ bs.length
  | 0, k, k2, l, l2, last, hk, h => by
    simp only [takeF, Prod.mk.injEq, and_true] at h
    obtain ⟨rfl, rfl⟩ := h
    exact ⟨[], rfl, by simp, id, rfl, rfl, hk⟩
  | m + 1, k, k2, l, l2, last, hk, h => by
    obtain ⟨s, k1, h1, h2, h3, h4⟩ := takeF_step h
    obtain ⟨g1, g2, g3⟩ := nextR_good hk (show nextR bs k 0 last = (s, k1, 0) from h1)
    obtain ⟨t, t1, t2, t3, t4, t5, t6⟩ := takeF_rest g3 h4
    refine ⟨s :: t, by simp [t1], by rw [t2]; simp, fun hg => t3 (by rw [good_snoc, hg, h2]; rfl), ?_, ?_, t6⟩
    · rw [g1, t4, entsR]
      simp
    · rw [entsR]
      simp only [List.length_append]
      omega
theorem takeT_good {bs : List UInt8} {k k2 n size : Nat} {l l2 : List (List UInt8)} (hk : k ≤ bs.length) (h : takeT bs l k 0 (n + 1) size = (l2, k2, 0)) :
    ∃ t, t.length = n + 1 ∧ l2 = l ++ t ∧ (goodL l = true → goodL l2 = true) ∧ bs.drop k = blkL t ++ bs.drop k2 ∧ (blkL t).length = size ∧ k2 = k + size ∧ k2 ≤ bs.length := by
  unfold takeT at h
  obtain ⟨R, hR⟩ : ∃ R, takeF bs (((bs.length - k : Nat) : Int) - size) (n + 1) true l [] k 0 = R := ⟨_, rfl⟩
  simp only [hR] at h
  obtain ⟨l3, k3, e3⟩ := R
  simp only [Prod.mk.injEq] at h
  obtain ⟨rfl, rfl, h⟩ := h
  by_cases hc : ((bs.length - k3 : Nat) : Int) = ((bs.length - k : Nat) : Int) - size
  · rw [if_pos hc] at h
    subst h
    obtain ⟨s, k1, h1, h2, h3, h4⟩ := takeF_step hR
    obtain ⟨g1, g2, g3, g4⟩ := text_good hk (show textR bs k 0 = (s, k1, 0) from h1)
    obtain ⟨t, t1, t2, t3, t4, t5, t6⟩ := takeF_rest g4 h4
    have hb : (blkL (s :: t)).length = size := by
      rw [blkL, List.length_append]
      omega
    refine ⟨s :: t, by simp [t1], by rw [t2]; simp, fun hg => t3 (by rw [good_snoc, hg, h2]; rfl), ?_, hb, ?_, t6⟩
    · rw [g2, t4, blkL]
      simp
    · rw [blkL, List.length_append] at hb
      omega
  · rw [if_neg hc] at h
    exact absurd h (orForm_ne _)
theorem takeF_there {bs rest : List UInt8} {E : Int} (hE : E ≤ (rest.length : Int)) : ∀ {t : List (List UInt8)} {k : Nat} {l : List (List UInt8)} {last : List UInt8}, k ≤ bs.length → last.length ≤ 4096 → goodL (l ++ t) = true → bs.drop k = entsR last t ++ rest →
    takeF bs E t.length false l last k 0 = (l ++ t, k + (entsR last t).length, 0)
  | [], k, l, last, hk, hl, hg, h => by simp [takeF, entsR]
  | s :: t, k, l, last, hk, hl, hg, h => by
    have hg1 : goodL (l ++ [s] ++ t) = true := by rw [List.append_assoc]; exact hg
    have hg2 := good_app hg1
    rw [good_snoc, Bool.and_eq_true] at hg2
    have hs : s.length ≤ 4096 := by have := hg2.2; unfold follL at this; rw [Bool.and_eq_true, decide_eq_true_eq] at this; exact this.1
    have h' : bs.drop k = putL (shareN last s) ++ (textL (s.drop (shareN last s)) ++ (entsR s t ++ rest)) := by rw [h, entsR]; simp
    have hN := nextR_back hk h' hs hl
    have hlen : bs.length - k = (putL (shareN last s)).length + ((textL (s.drop (shareN last s))).length + ((entsR s t).length + rest.length)) := by rw [← List.length_drop, h']; simp
    obtain ⟨k1, hk1⟩ : ∃ k1, k + ((putL (shareN last s)).length + (textL (s.drop (shareN last s))).length) = k1 := ⟨_, rfl⟩
    rw [hk1] at hN
    have hd : bs.drop k1 = entsR s t ++ rest := by rw [← hk1, ← List.drop_drop, h', ← List.drop_drop, List.drop_left, List.drop_left]
    have ih := takeF_there hE (t := t) (k := k1) (l := l ++ [s]) (last := s) (by omega) hs hg1 hd
    have hS : stepF bs E l false last k 0 = (s, k1, 0) := by
      unfold stepF
      have : entR false bs k 0 last = (s, k1, 0) := hN
      simp only [this]
      rw [if_pos ⟨hg2.2, by omega⟩]
    rw [List.length_cons, takeF]
    simp only [hS, if_true]
    rw [ih, entsR]
    simp
    omega
theorem takeT_there {bs rest : List UInt8} {s : List UInt8} {t : List (List UInt8)} {k : Nat} {l : List (List UInt8)} (hk : k ≤ bs.length) (hg : goodL (l ++ s :: t) = true) (h : bs.drop k = blkL (s :: t) ++ rest) :
    takeT bs l k 0 (t.length + 1) (blkL (s :: t)).length = (l ++ s :: t, k + (blkL (s :: t)).length, 0) := by
  have hg1 : goodL (l ++ [s] ++ t) = true := by rw [List.append_assoc]; exact hg
  have hg2 := good_app hg1
  rw [good_snoc, Bool.and_eq_true] at hg2
  have hs : s.length ≤ 4096 := by have := hg2.2; unfold follL at this; rw [Bool.and_eq_true, decide_eq_true_eq] at this; exact this.1
  have h' : bs.drop k = textL s ++ (entsR s t ++ rest) := by rw [h, blkL]; simp
  have hlen : bs.length - k = (blkL (s :: t)).length + rest.length := by rw [← List.length_drop, h]; simp
  have hbl : (blkL (s :: t)).length = (textL s).length + (entsR s t).length := by rw [blkL, List.length_append]
  have hT := text_back hk h' hs
  obtain ⟨k1, hk1⟩ : ∃ k1, k + (textL s).length = k1 := ⟨_, rfl⟩
  rw [hk1] at hT
  have hd : bs.drop k1 = entsR s t ++ rest := by rw [← hk1, ← List.drop_drop, h', List.drop_left]
  obtain ⟨E, hE⟩ : ∃ E, ((bs.length - k : Nat) : Int) - ((blkL (s :: t)).length : Int) = E := ⟨_, rfl⟩
  have hF := takeF_there (E := E) (rest := rest) (by omega) (t := t) (k := k1) (l := l ++ [s]) (last := s) (by omega) hs hg1 hd
  have hS : stepF bs E l true [] k 0 = (s, k1, 0) := by
    unfold stepF
    have : entR true bs k 0 [] = (s, k1, 0) := hT
    simp only [this]
    rw [if_pos ⟨hg2.2, by omega⟩]
  have hA : takeF bs E (t.length + 1) true l [] k 0 = (l ++ s :: t, k + (blkL (s :: t)).length, 0) := by
    rw [takeF]
    simp only [hS, if_true]
    rw [hF]
    simp
    omega
  unfold takeT
  rw [hE]
  simp only [hA]
  rw [if_pos (by omega)]
end Go.Proofs.YtmffpbhiehjlpaaGreat
