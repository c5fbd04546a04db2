/-
  Tables taken from bytes, in plain.
-/
import Derived.Test.YtfekdbdkcfhkiaaSyA
import Derived.Test.YtfekdbdkcfhkiaaCurH
namespace Go.Proofs.Ytfekdbdkcfhkiaa
set_option linter.unusedSimpArgs false
set_option linter.unusedVariables false

def orForm (e : Int) : Int := if e = 0 then 3 else e
def sizeOk (n : Nat) : Bool := decide (1 ≤ (n : Int)) && decide ((n : Int) ≤ 8)
theorem sizeOk_iff {n : Nat} : sizeOk n = true ↔ 1 ≤ n ∧ n ≤ 8 := by
  unfold sizeOk
  rw [Bool.and_eq_true, decide_eq_true_eq, decide_eq_true_eq]
  omega
/-- one symbol more: it, the place, the error -/
def gstep (bs : List UInt8) (p : Nat) (e : Int) (last : List UInt8) : List UInt8 × Nat × Int :=
  let r := takeR bs p e 0 1
  let n := (r.1.headD 0).toNat
  let e2 := if sizeOk n = true then r.2.2 else orForm r.2.2
  let q := takeR bs r.2.1 e2 0 n
  (q.1, q.2.1, if folL last q.1 = true then q.2.2 else orForm q.2.2)
def getF (bs : List UInt8) : Nat → Nat → Int → List UInt8 → List (List UInt8) × Nat × Int
  | 0, p, e, _ => ([], p, e)
  | n + 1, p, e, last => ((gstep bs p e last).1 :: (getF bs n (gstep bs p e last).2.1 (gstep bs p e last).2.2 (gstep bs p e last).1).1, (getF bs n (gstep bs p e last).2.1 (gstep bs p e last).2.2 (gstep bs p e last).1).2)
/-- how many there are -/
def getN (bs : List UInt8) : Nat := ((takeR bs 0 0 0 1).1.headD 0).toNat
def getA (bs : List UInt8) : List (List UInt8) × Nat × Int := getF bs (getN bs) (takeR bs 0 0 0 1).2.1 (takeR bs 0 0 0 1).2.2 []
/-- the table, the place, the error -/
def getL (bs : List UInt8) : List (List UInt8) × Nat × Int := if (getA bs).2.2 = 0 then getA bs else ([], (getA bs).2)

theorem orForm_ne (e : Int) : orForm e ≠ 0 := by unfold orForm; split <;> omega
theorem orForm_bad {e : Int} (h : e ≠ 0) : orForm e = e := by rw [orForm, if_neg h]
theorem takeR_bad (bs : List UInt8) (k : Nat) {e : Int} (n : Int) (h : e ≠ 0) : takeR bs k e 0 n = ([], k, e) := by simp [takeR, h]
theorem gstep_bad (bs : List UInt8) (p : Nat) {e : Int} (last : List UInt8) (h : e ≠ 0) : gstep bs p e last = ([], p, e) := by
  unfold gstep
  simp only [takeR_bad bs p _ h, orForm_bad h, ite_self]
theorem getF_bad (bs : List UInt8) : ∀ (n p : Nat) {e : Int} (last : List UInt8), e ≠ 0 → (getF bs n p e last).2 = (p, e)
  | 0, p, e, last, _ => rfl
  | n + 1, p, e, last, h => by
    unfold getF
    simp only [gstep_bad bs p last h]
    exact getF_bad bs n p [] h
theorem takeR_byte {bs : List UInt8} {p : Nat} (h : p < bs.length) : takeR bs p 0 0 1 = ([bs[p]], p + 1, 0) := by
  rw [show (1 : Int) = ((1 : Nat) : Int) from rfl, takeR_fit bs p 1 (by omega)]
  congr 1
  rw [List.drop_eq_getElem_cons h]
  rfl
/-- at the end of the bytes -/
theorem gstep_end {bs : List UInt8} {p : Nat} (last : List UInt8) (h : bs.length ≤ p) : gstep bs p 0 last = ([], p, 2) := by
  have h1 : takeR bs p 0 0 1 = ([], p, 2) := by
    rw [show (1 : Int) = ((1 : Nat) : Int) from rfl]
    exact takeR_short bs p 1 (by omega)
  unfold gstep
  simp only [h1]
  have h2 : sizeOk (([] : List UInt8).headD 0).toNat = false := rfl
  have h3 : orForm 2 = 2 := rfl
  simp only [h2, h3, Bool.false_eq_true, if_false, takeR_bad bs p _ (show (2 : Int) ≠ 0 by decide), ite_self]
/-- a symbol that is cut -/
theorem gstep_short {bs : List UInt8} {p : Nat} (last : List UInt8) (h : p < bs.length) (ho : sizeOk bs[p].toNat = true) (hs : bs.length < p + 1 + bs[p].toNat) : gstep bs p 0 last = ([], p + 1, 2) := by
  unfold gstep
  simp only [takeR_byte h, List.headD_cons, ho, if_true, takeR_short bs (p + 1) _ hs]
  have h3 : orForm 2 = 2 := rfl
  simp only [h3, ite_self]
/-- a wrong length -/
theorem gstep_size {bs : List UInt8} {p : Nat} (last : List UInt8) (h : p < bs.length) (ho : sizeOk bs[p].toNat = false) : gstep bs p 0 last = ([], p + 1, 3) := by
  unfold gstep
  have h3 : orForm 0 = 3 := rfl
  have h4 : orForm 3 = 3 := rfl
  simp only [takeR_byte h, List.headD_cons, ho, Bool.false_eq_true, if_false, h3, takeR_bad bs (p + 1) _ (show (3 : Int) ≠ 0 by decide), h4, ite_self]
/-- a symbol that is there -/
theorem gstep_fit {bs : List UInt8} {p : Nat} (last : List UInt8) (h : p < bs.length) (ho : sizeOk bs[p].toNat = true) (hs : p + 1 + bs[p].toNat ≤ bs.length) :
    gstep bs p 0 last = ((bs.drop (p + 1)).take bs[p].toNat, p + 1 + bs[p].toNat, if folL last ((bs.drop (p + 1)).take bs[p].toNat) = true then 0 else 3) := by
  unfold gstep
  simp only [takeR_byte h, List.headD_cons, ho, if_true, takeR_fit bs (p + 1) _ hs]
  rfl

/-- the bytes of symbols -/
def symB (t : List (List UInt8)) : List UInt8 := t.flatMap fun s => UInt8.ofNat s.length :: s
theorem symB_cons (s : List UInt8) (t : List (List UInt8)) : symB (s :: t) = UInt8.ofNat s.length :: (s ++ symB t) := by simp [symB]
theorem putT_symB (t : List (List UInt8)) : putT t = UInt8.ofNat t.length :: symB t := rfl

/-- what is taken without an error stands so -/
theorem getF_good {bs : List UInt8} : ∀ (n p : Nat) (last : List UInt8) {t : List (List UInt8)} {q : Nat}, getF bs n p 0 last = (t, q, 0) → p ≤ bs.length →
    t.length = n ∧ (∀ s ∈ t, okS s = true) ∧ risesL (last :: t) = true ∧ p ≤ q ∧ q ≤ bs.length ∧ (bs.drop p).take (q - p) = symB t
  | 0, p, last, t, q, h, hp => by
    simp only [getF, Prod.mk.injEq, and_true] at h
    obtain ⟨rfl, rfl⟩ := h
    exact ⟨rfl, fun s hs => (by cases hs), rfl, Nat.le_refl _, hp, by simp [symB]⟩
  | n + 1, p, last, t, q, h, hp => by
    by_cases h1 : p < bs.length
    · cases ho : sizeOk bs[p].toNat with
      | false =>
        exfalso
        unfold getF at h
        simp only [gstep_size last h1 ho] at h
        have := getF_bad bs n (p + 1) (e := 3) [] (by decide)
        rw [this] at h
        simp at h
      | true =>
        by_cases hs : p + 1 + bs[p].toNat ≤ bs.length
        · obtain ⟨s, hse⟩ : ∃ s, (bs.drop (p + 1)).take bs[p].toNat = s := ⟨_, rfl⟩
          have hsl : s.length = bs[p].toNat := by rw [← hse, List.length_take, List.length_drop]; omega
          cases hf : folL last s with
          | false =>
            exfalso
            unfold getF at h
            simp only [gstep_fit last h1 ho hs, hse, hf, Bool.false_eq_true, if_false] at h
            have := getF_bad bs n (p + 1 + bs[p].toNat) (e := 3) s (by decide)
            rw [this] at h
            simp at h
          | true =>
            unfold getF at h
            simp only [gstep_fit last h1 ho hs, hse, hf, if_true] at h
            obtain ⟨R, hR⟩ : ∃ R, getF bs n (p + 1 + bs[p].toNat) 0 s = R := ⟨_, rfl⟩
            rw [hR] at h
            obtain ⟨t', q', e'⟩ := R
            simp only [Prod.mk.injEq] at h
            obtain ⟨rfl, rfl, rfl⟩ := h
            obtain ⟨i1, i2, i3, i4, i5, i6⟩ := getF_good n (p + 1 + bs[p].toNat) s hR hs
            rw [folL, Bool.and_eq_true, decide_eq_true_eq] at hf
            refine ⟨by rw [List.length_cons, i1], fun x hx => ?_, rises_cons.2 ⟨hf.2, i3⟩, by omega, i5, ?_⟩
            · rcases List.mem_cons.1 hx with rfl | hx
              · exact hf.1
              · exact i2 x hx
            · rw [symB_cons, ← i6, hsl]
              have hx : UInt8.ofNat bs[p].toNat = bs[p] := by simp
              rw [hx, List.drop_eq_getElem_cons h1]
              obtain ⟨d, hd⟩ : ∃ d, q' - p = d + 1 := ⟨q' - p - 1, by omega⟩
              rw [hd, List.take_succ_cons]
              congr 1
              have hd2 : d = bs[p].toNat + (q' - (p + 1 + bs[p].toNat)) := by omega
              rw [hd2, List.take_add, hse, List.drop_drop]
        · exfalso
          unfold getF at h
          simp only [gstep_short last h1 ho (by omega)] at h
          have := getF_bad bs n (p + 1) (e := 2) [] (by decide)
          rw [this] at h
          simp at h
    · exfalso
      unfold getF at h
      simp only [gstep_end last (Nat.le_of_not_lt h1)] at h
      have := getF_bad bs n p (e := 2) [] (by decide)
      rw [this] at h
      simp at h

theorem rises_nil {t : List (List UInt8)} (h : ∀ s ∈ t, okS s = true) (hr : risesL t = true) : risesL ([] :: t) = true := by
  cases t with
  | nil => rfl
  | cons s t =>
    refine rises_cons.2 ⟨?_, hr⟩
    have := (okS_iff.1 (h s List.mem_cons_self)).1
    cases s with
    | nil => simp at this
    | cons => simp [cmpL]

/-- one symbol of a row that is there -/
theorem gstep_put {pre s post : List UInt8} {last : List UInt8} (ho : okS s = true) (hr : cmpL last s < 0) : gstep (pre ++ UInt8.ofNat s.length :: (s ++ post)) pre.length 0 last = (s, pre.length + 1 + s.length, 0) := by
  obtain ⟨h1, h2⟩ := okS_iff.1 ho
  have hp : pre.length < (pre ++ UInt8.ofNat s.length :: (s ++ post)).length := by simp
  have hx : (pre ++ UInt8.ofNat s.length :: (s ++ post))[pre.length] = UInt8.ofNat s.length := by simp
  have hn : (UInt8.ofNat s.length).toNat = s.length := by simp; omega
  have hd : ((pre ++ UInt8.ofNat s.length :: (s ++ post)).drop (pre.length + 1)).take s.length = s := by
    rw [show pre ++ UInt8.ofNat s.length :: (s ++ post) = (pre ++ [UInt8.ofNat s.length]) ++ (s ++ post) by simp, show pre.length + 1 = (pre ++ [UInt8.ofNat s.length]).length by simp, List.drop_left, List.take_left]
  have := gstep_fit last hp (by rw [hx, hn]; exact sizeOk_iff.2 ⟨h1, h2⟩) (by rw [hx, hn]; simp; omega)
  rw [this, hx, hn, hd]
  have hf : folL last s = true := by rw [folL, ho, decide_eq_true hr]; rfl
  rw [if_pos hf]
theorem getF_put : ∀ (t : List (List UInt8)) (pre post last : List UInt8), (∀ s ∈ t, okS s = true) → risesL (last :: t) = true → getF (pre ++ (symB t ++ post)) t.length pre.length 0 last = (t, pre.length + (symB t).length, 0)
  | [], pre, post, last, _, _ => rfl
  | s :: t, pre, post, last, ho, hr => by
    obtain ⟨h1, h2⟩ := rises_cons.1 hr
    have hb : pre ++ (symB (s :: t) ++ post) = pre ++ UInt8.ofNat s.length :: (s ++ (symB t ++ post)) := by rw [symB_cons]; simp
    have hb2 : pre ++ (symB (s :: t) ++ post) = (pre ++ UInt8.ofNat s.length :: s) ++ (symB t ++ post) := by rw [symB_cons]; simp
    have hl : (pre ++ UInt8.ofNat s.length :: s).length = pre.length + 1 + s.length := by simp; omega
    have ih := getF_put t (pre ++ UInt8.ofNat s.length :: s) post s (fun x hx => ho x (List.mem_cons_of_mem _ hx)) h2
    rw [← hb2, hl] at ih
    rw [List.length_cons, getF]
    have hg := gstep_put (pre := pre) (post := symB t ++ post) (ho s List.mem_cons_self) h1
    rw [← hb] at hg
    simp only [hg]
    rw [ih, symB_cons]
    simp
    omega
theorem getF_cut : ∀ (t : List (List UInt8)) (pre last : List UInt8) (m : Nat), (∀ s ∈ t, okS s = true) → risesL (last :: t) = true → m < (symB t).length → (getF (pre ++ (symB t).take m) t.length pre.length 0 last).2.2 = 2
  | [], pre, last, m, _, _, hm => by simp [symB] at hm
  | s :: t, pre, last, m, ho, hr, hm => by
    obtain ⟨h1, h2⟩ := rises_cons.1 hr
    obtain ⟨o1, o2⟩ := okS_iff.1 (ho s List.mem_cons_self)
    have hn : (UInt8.ofNat s.length).toNat = s.length := by simp; omega
    rw [List.length_cons, getF]
    rcases m with _ | m
    · rw [List.take_zero, List.append_nil]
      simp only [gstep_end last (Nat.le_refl pre.length)]
      rw [getF_bad pre t.length pre.length [] (by decide)]
    · rw [symB_cons, List.take_succ_cons]
      by_cases hms : m < s.length
      · have ht : (s ++ symB t).take m = s.take m := List.take_append_of_le_length (by omega)
        rw [ht]
        have hp : pre.length < (pre ++ UInt8.ofNat s.length :: s.take m).length := by simp
        have hx : (pre ++ UInt8.ofNat s.length :: s.take m)[pre.length] = UInt8.ofNat s.length := by simp
        simp only [gstep_short last hp (by rw [hx, hn]; exact sizeOk_iff.2 ⟨o1, o2⟩) (by rw [hx, hn]; simp; omega)]
        rw [getF_bad _ t.length _ [] (by decide)]
      · have ht : (s ++ symB t).take m = s ++ (symB t).take (m - s.length) := by rw [List.take_append, List.take_of_length_le (by omega)]
        rw [ht]
        have hg := gstep_put (pre := pre) (post := (symB t).take (m - s.length)) (ho s List.mem_cons_self) h1
        simp only [hg]
        have hl : (pre ++ UInt8.ofNat s.length :: s).length = pre.length + 1 + s.length := by simp; omega
        have ih := getF_cut t (pre ++ UInt8.ofNat s.length :: s) s (m - s.length) (fun x hx => ho x (List.mem_cons_of_mem _ hx)) h2 (by
          rw [symB_cons, List.length_cons, List.length_append] at hm
          omega)
        rw [hl] at ih
        rw [← ih]
        simp

/-- what is written is read as it was -/
theorem getL_put {t : List (List UInt8)} (h : rightT t = true) : getL (putT t) = (t, (putT t).length, 0) := by
  obtain ⟨h5, ho, hr⟩ := rightT_iff.1 h
  have hn : (UInt8.ofNat t.length).toNat = t.length := by simp; omega
  have ht : takeR (putT t) 0 0 0 1 = ([UInt8.ofNat t.length], 1, 0) := takeR_byte (bs := putT t) (p := 0) (by rw [putT_symB]; simp)
  have hN : getN (putT t) = t.length := by rw [getN, ht]; exact hn
  have hA : getA (putT t) = (t, (putT t).length, 0) := by
    rw [getA, hN, ht]
    have := getF_put t [UInt8.ofNat t.length] [] [] ho (rises_nil ho hr)
    rw [List.append_nil] at this
    rw [putT_symB]
    refine this.trans ?_
    simp
    omega
  rw [getL, hA, if_pos rfl]
/-- no beginning of it is read -/
theorem getL_cut {t : List (List UInt8)} {m : Nat} (h : rightT t = true) (hm : m < (putT t).length) : (getL ((putT t).take m)).1 = [] ∧ (getL ((putT t).take m)).2.2 = 2 := by
  obtain ⟨h5, ho, hr⟩ := rightT_iff.1 h
  have hn : (UInt8.ofNat t.length).toNat = t.length := by simp; omega
  have hA : (getA ((putT t).take m)).2.2 = 2 := by
    rcases m with _ | m
    · rfl
    · rw [putT_symB, List.length_cons] at hm
      rw [putT_symB, List.take_succ_cons]
      have ht : takeR (UInt8.ofNat t.length :: (symB t).take m) 0 0 0 1 = ([UInt8.ofNat t.length], 1, 0) := takeR_byte (p := 0) (by simp)
      have hN : getN (UInt8.ofNat t.length :: (symB t).take m) = t.length := by rw [getN, ht]; exact hn
      rw [getA, hN, ht]
      exact getF_cut t [UInt8.ofNat t.length] [] m ho (rises_nil ho hr) (by omega)
  rw [getL, if_neg (by rw [hA]; decide)]
  exact ⟨rfl, hA⟩
/-- what is read is written as it stood -/
theorem getL_good {bs : List UInt8} (h : (getL bs).2.2 = 0) : rightT (getL bs).1 = true ∧ (getL bs).2.1 ≤ bs.length ∧ bs.take (getL bs).2.1 = putT (getL bs).1 := by
  by_cases hA : (getA bs).2.2 = 0
  · rw [getL, if_pos hA]
    cases bs with
    | nil => exact absurd hA (by decide)
    | cons x bs =>
      have ht : takeR (x :: bs) 0 0 0 1 = ([x], 1, 0) := takeR_byte (p := 0) (by simp)
      have hN : getN (x :: bs) = x.toNat := by rw [getN, ht]; rfl
      rw [getA, hN, ht] at hA ⊢
      obtain ⟨R, hR⟩ : ∃ R, getF (x :: bs) x.toNat 1 0 [] = R := ⟨_, rfl⟩
      simp only at hA ⊢
      rw [hR] at hA ⊢
      obtain ⟨t, q, e⟩ := R
      simp only at hA
      subst hA
      obtain ⟨i1, i2, i3, i4, i5, i6⟩ := getF_good x.toNat 1 [] hR (by simp)
      have hx : x.toNat < 256 := UInt8.toNat_lt _
      refine ⟨rightT_iff.2 ⟨(by show t.length ≤ 255; omega), i2, rises_tail i3⟩, i5, ?_⟩
      show (x :: bs).take q = putT t
      obtain ⟨d, rfl⟩ : ∃ d, q = d + 1 := ⟨q - 1, by omega⟩
      rw [putT_symB, i1, ← i6]
      simp
  · rw [getL, if_neg hA] at h
    exact absurd h hA
theorem getL_bad {bs : List UInt8} (h : (getL bs).2.2 ≠ 0) : (getL bs).1 = [] := by
  by_cases hA : (getA bs).2.2 = 0
  · rw [getL, if_pos hA] at h; exact absurd hA h
  · rw [getL, if_neg hA]
end Go.Proofs.Ytfekdbdkcfhkiaa
