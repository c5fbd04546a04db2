/-
  Chunks in plain: which values and codings may be, the bytes of values, what is opened of bytes, and what is said of what. No program is named here.
  Parts: slices of bytes, and what they read as. No program is named here.
-/
import Derived.Test.YtmffpbhiehjlpaaGreatZ00
import Derived.Test.YtmffpbhiehjlpaaGreatZ03
import Derived.Test.YtmffpbhiehjlpaaGreatZ09
import Derived.Test.YtmffpbhiehjlpaaGreatZ10
import Derived.Test.YtmffpbhiehjlpaaGreatZ11
import Derived.Test.YtmffpbhiehjlpaaGreatZ15
import Derived.Test.YtmffpbhiehjlpaaGreatZ07
import Derived.Test.YtmffpbhiehjlpaaGreatZ16
namespace Go.Proofs.YtmffpbhiehjlpaaGreat
set_option linter.unusedSimpArgs false
set_option linter.unusedVariables false
open Go.RowKit
structure Co where
  kind : Int
  block : Int
  rounds : Int
  draws : List Int
def CoOk (o : Co) : Prop := 0 ≤ o.kind ∧ o.kind ≤ 3 ∧ 1 ≤ o.block ∧ o.block ≤ 64 ∧ 0 ≤ o.rounds ∧ o.rounds ≤ 8 ∧ o.draws.length ≤ 4096
instance (o : Co) : Decidable (CoOk o) := by unfold CoOk; infer_instance
def VlOk (v : Vl) : Prop := v.s.size ≤ 4096 ∧ (v.null = true → v.s = ⟨#[]⟩)
instance (v : Vl) : Decidable (VlOk v) := by unfold VlOk; infer_instance
def FitsV (l : List Vl) : Prop := l.length ≤ 4096 ∧ ∀ v ∈ l, VlOk v
instance (l : List Vl) : Decidable (FitsV l) := by unfold FitsV; infer_instance
def thereL (l : List Vl) : List Bool := l.map fun v => !v.null
def textsL (l : List Vl) : List ByteArray := (l.filter fun v => !v.null).map (·.s)
theorem thereL_length (l : List Vl) : (thereL l).length = l.length := by simp [thereL]
theorem textsL_le (l : List Vl) : (textsL l).length ≤ l.length := by rw [textsL, List.length_map]; exact List.length_filter_le _ _
theorem textsL_take {l : List Vl} {k : Nat} (h : k < l.length) : textsL (l.take (k + 1)) = textsL (l.take k) ++ (if l[k].null = true then [] else [l[k].s]) := by
  unfold textsL
  have h1 : (if l[k].null = true then [] else [l[k].s]) = (([l[k]] : List Vl).filter (fun v => !v.null)).map (·.s) := by
    cases hn : l[k].null <;> simp [List.filter_cons, hn]
  rw [List.take_succ_eq_append_getElem h, List.filter_append, List.map_append, h1]
theorem textsL_mem {l : List Vl} {s : ByteArray} (h : s ∈ textsL l) : ∃ v ∈ l, v.s = s := by
  obtain ⟨v, hv, rfl⟩ := List.mem_map.1 h
  exact ⟨v, (List.mem_filter.1 hv).1, rfl⟩
theorem texts_cnt : ∀ l : List Vl, (textsL l).length = cnt (thereL l)
  | [] => rfl
  | v :: l => by
    have ih := texts_cnt l
    unfold textsL thereL cnt at *
    cases hn : v.null <;> simp_all [List.filter_cons]
def spreadL {α : Type} : List Bool → List α → α → List α
  | [], _, _ => []
  | true :: t, [], d => d :: spreadL t [] d
  | true :: t, x :: l, d => x :: spreadL t l d
  | false :: t, l, d => d :: spreadL t l d
section
variable {α β : Type}
theorem spread_length : ∀ (t : List Bool) (l : List α) (d : α), (spreadL t l d).length = t.length
  | [], _, _ => rfl
  | true :: t, [], d => by rw [spreadL, List.length_cons, List.length_cons, spread_length t]
  | true :: t, x :: l, d => by rw [spreadL, List.length_cons, List.length_cons, spread_length t]
  | false :: t, l, d => by cases l <;> rw [spreadL, List.length_cons, List.length_cons, spread_length t]
theorem spread_map (f : α → β) : ∀ (t : List Bool) (l : List α) (d : α), (spreadL t l d).map f = spreadL t (l.map f) (f d)
  | [], _, _ => rfl
  | true :: t, [], d => by simpa [spreadL] using spread_map f t [] d
  | true :: t, x :: l, d => by simpa [spreadL] using spread_map f t l d
  | false :: t, [], d => by simpa [spreadL] using spread_map f t [] d
  | false :: t, x :: l, d => by simpa [spreadL] using spread_map f t (x :: l) d
theorem spread_not : ∀ (t : List Bool) (l : List α) (d : α) {i : Nat}, t[i]? = some false → (spreadL t l d)[i]? = some d
  | [], _, _, i, h => by simp at h
  | true :: t, [], d, 0, h => by simp at h
  | true :: t, x :: l, d, 0, h => by simp at h
  | false :: t, l, d, 0, h => by cases l <;> rfl
  | true :: t, [], d, i + 1, h => by simpa [spreadL] using spread_not t [] d (i := i) (by simpa using h)
  | true :: t, x :: l, d, i + 1, h => by simpa [spreadL] using spread_not t l d (i := i) (by simpa using h)
  | false :: t, l, d, i + 1, h => by cases l <;> simpa [spreadL] using spread_not t _ d (i := i) (by simpa using h)
theorem spread_is : ∀ (t : List Bool) (l : List α) (d : α) {i : Nat}, t[i]? = some true → cnt t ≤ l.length → ∃ j, cnt (t.take i) = j ∧ j < l.length ∧ (spreadL t l d)[i]? = l[j]?
  | [], _, _, i, h, _ => by simp at h
  | true :: t, [], d, i, h, hc => by simp [cnt] at hc
  | true :: t, x :: l, d, 0, h, hc => ⟨0, rfl, by simp, rfl⟩
  | false :: t, l, d, 0, h, hc => by simp at h
  | true :: t, x :: l, d, i + 1, h, hc => by
    obtain ⟨j, h1, h2, h3⟩ := spread_is t l d (i := i) (by simpa using h) (by simpa [cnt] using hc)
    exact ⟨j + 1, by simpa [cnt] using h1, by simpa using h2, by simpa [spreadL] using h3⟩
  | false :: t, l, d, i + 1, h, hc => by
    obtain ⟨j, h1, h2, h3⟩ := spread_is t l d (i := i) (by simpa using h) (by simpa [cnt] using hc)
    refine ⟨j, by simpa [cnt] using h1, h2, ?_⟩
    cases l <;> simpa [spreadL] using h3
end
theorem spread_vals : ∀ {l : List Vl}, (∀ v ∈ l, VlOk v) → spreadL (thereL l) ((textsL l).map (Vl.mk false)) ⟨true, ⟨#[]⟩⟩ = l
  | [], _ => rfl
  | v :: l, h => by
    have ih := spread_vals (l := l) fun x hx => h x (List.mem_cons_of_mem _ hx)
    obtain ⟨b, s⟩ := v
    cases b with
    | true =>
      have hs : s = ⟨#[]⟩ := (h ⟨true, s⟩ List.mem_cons_self).2 rfl
      subst hs
      show spreadL (false :: thereL l) ((textsL l).map (Vl.mk false)) ⟨true, ⟨#[]⟩⟩ = _
      cases hl : (textsL l).map (Vl.mk false) with
      | nil => rw [hl] at ih; rw [spreadL, ih]
      | cons a t => rw [hl] at ih; rw [spreadL, ih]
    | false =>
      show spreadL (true :: thereL l) (Vl.mk false s :: (textsL l).map (Vl.mk false)) ⟨true, ⟨#[]⟩⟩ = _
      rw [spreadL, ih]
def joinB (r : List (List UInt8)) : List UInt8 := writeL (ints (r.map List.length)) ++ r.flatten
noncomputable def dicS (S : List (List UInt8)) : List (List UInt8) := Classical.epsilon (SortOf S)
theorem dicS_is {S t : List (List UInt8)} (h : SortOf S t) : dicS S = t := (Classical.epsilon_spec (p := SortOf S) ⟨t, h⟩).one h
noncomputable def tabS (S : List ByteArray) (o : Co) : List (List UInt8) := Classical.epsilon fun t => Trained (bytL2 (sampleL S o.draws)) (roundsN o.rounds) t
theorem tabS_is {S : List ByteArray} {o : Co} {t : List (List UInt8)} (h : Trained (bytL2 (sampleL S o.draws)) (roundsN o.rounds) t) : tabS S o = t :=
  (Classical.epsilon_spec (p := fun t => Trained (bytL2 (sampleL S o.draws)) (roundsN o.rounds) t) ⟨t, h⟩).one h
def codesN (D S : List (List UInt8)) : List Nat := S.map fun s => D.idxOf s
noncomputable def payK (S : List ByteArray) (o : Co) (k : Int) : List UInt8 :=
  if k = 2 then putT (tabS S o) ++ joinB ((bytL2 S).map (encL (tabS S o)))
  else if k = 3 then frontL o.block.toNat (dicS (bytL2 S)) ++ writeL (ints (codesN (dicS (bytL2 S)) (bytL2 S)))
  else joinB (bytL2 S)
noncomputable def bestK (S : List ByteArray) (o : Co) : Int :=
  if (payK S o 2).length < (payK S o 1).length then (if (payK S o 3).length < (payK S o 2).length then 3 else 2) else (if (payK S o 3).length < (payK S o 1).length then 3 else 1)
noncomputable def kindK (S : List ByteArray) (o : Co) : Int := if o.kind = 0 then bestK S o else o.kind
theorem kindK_is (S : List ByteArray) {o : Co} (h : CoOk o) : kindK S o = 1 ∨ kindK S o = 2 ∨ kindK S o = 3 := by
  obtain ⟨h1, h2, -⟩ := h
  unfold kindK bestK
  repeat' split
  all_goals omega
noncomputable def codeL (l : List Vl) (o : Co) : List UInt8 := UInt8.ofNat (kindK (textsL l) o).toNat :: (writeB (thereL l) ++ payK (textsL l) o (kindK (textsL l) o))
def numsR (bs : List UInt8) (k : Nat) (e : Int) (n : Nat) (most : Int) : List Nat × Nat × Int :=
  let r := readR bs k e (n : Int)
  let e1 := if r.1.length = n then r.2.2 else orForm r.2.2
  let e2 := if (r.1.all fun x => decide ((x : Int) ≤ most)) = true then e1 else orForm e1
  (if e2 = 0 then r.1 else [], r.2.1, e2)
def rawsF (bs : List UInt8) (ok : List UInt8 → Bool) : List Nat → Nat → Int → List (List UInt8) × Nat × Int
  | [], k, e => ([], k, e)
  | z :: zs, k, e =>
    let t := takeR bs k e 0 (z : Int)
    let r := rawsF bs ok zs t.2.1 (if ok t.1 = true then t.2.2 else orForm t.2.2)
    (t.1 :: r.1, r.2)
def rawsR (bs : List UInt8) (k : Nat) (e : Int) (n : Nat) (most : Int) (ok : List UInt8 → Bool) : List (List UInt8) × Nat × Int :=
  rawsF bs ok (numsR bs k e n most).1 (numsR bs k e n most).2.1 (numsR bs k e n most).2.2
def encOk (T : List (List UInt8)) (b : List UInt8) : Bool := decide ((decL T 4096 b [] 0).2.1 = 0) && decide (encL T (decL T 4096 b [] 0).1 = b)
structure Chk where
  kind : Nat
  there : List Bool
  raws : List (List UInt8)
  tab : List (List UInt8)
  dic : List (List UInt8)
  codes : List Nat
def Chk.none : Chk := ⟨0, [], [], [], [], []⟩
def takeC (bs : List UInt8) (k : Nat) (e : Int) (kind : Nat) (there : List Bool) : Chk × Nat × Int :=
  if kind = 1 then (⟨1, there, (rawsR bs k e (cnt there) 4096 fun _ => true).1, [], [], []⟩, (rawsR bs k e (cnt there) 4096 fun _ => true).2)
  else if kind = 2 then (⟨2, there, (rawsR bs (getK bs k e).2.1 (getK bs k e).2.2 (cnt there) 8192 (encOk (getK bs k e).1)).1, (getK bs k e).1, [], []⟩, (rawsR bs (getK bs k e).2.1 (getK bs k e).2.2 (cnt there) 8192 (encOk (getK bs k e).1)).2)
  else if kind = 3 then (⟨3, there, [], [], (openR bs k e).1, (numsR bs (openR bs k e).2.1 (openR bs k e).2.2 (cnt there) (((openR bs k e).1.length : Int) - 1)).1⟩, (numsR bs (openR bs k e).2.1 (openR bs k e).2.2 (cnt there) (((openR bs k e).1.length : Int) - 1)).2)
  else (⟨kind, there, [], [], [], []⟩, k, e)
def kindE (n : Nat) (e : Int) : Int := if 1 ≤ n ∧ n ≤ 3 then e else orForm e
def openD (bs : List UInt8) (k : Nat) (e : Int) : Chk × Nat × Int :=
  takeC bs (breadR bs (takeR bs k e 0 1).2.1 (kindE ((takeR bs k e 0 1).1.headD 0).toNat (takeR bs k e 0 1).2.2) 4096).2.1 (breadR bs (takeR bs k e 0 1).2.1 (kindE ((takeR bs k e 0 1).1.headD 0).toNat (takeR bs k e 0 1).2.2) 4096).2.2
    ((takeR bs k e 0 1).1.headD 0).toNat (breadR bs (takeR bs k e 0 1).2.1 (kindE ((takeR bs k e 0 1).1.headD 0).toNat (takeR bs k e 0 1).2.2) 4096).1
def openC (bs : List UInt8) (k : Nat) (e : Int) : Chk × Nat × Int := if (openD bs k e).2.2 = 0 then openD bs k e else (Chk.none, (openD bs k e).2)
theorem openR_bad (bs : List UInt8) (k : Nat) {e : Int} (h : e ≠ 0) : openR bs k e = ([], k, e) := by
  unfold openR
  simp only [most_bad bs k _ h]
  rw [openK, if_neg (by omega), orForm_bad h]
theorem kindE_bad {n : Nat} {e : Int} (h : e ≠ 0) : kindE n e = e := by
  unfold kindE
  rw [orForm_bad h, ite_self]
theorem numsR_bad (bs : List UInt8) (k : Nat) {e : Int} (n : Nat) (m : Int) (h : e ≠ 0) : numsR bs k e n m = ([], k, e) := by
  unfold numsR
  simp only [read_bad bs k (n : Int) h, orForm_bad h, ite_self, if_neg h]
theorem rawsF_bad (bs : List UInt8) (ok : List UInt8 → Bool) : ∀ (zs : List Nat) (k : Nat) {e : Int}, e ≠ 0 → (rawsF bs ok zs k e).2 = (k, e)
  | [], k, e, _ => rfl
  | z :: zs, k, e, h => by
    rw [rawsF]
    simp only [takeR_bad bs k (z : Int) h, orForm_bad h, ite_self]
    exact rawsF_bad bs ok zs k h
theorem rawsR_bad (bs : List UInt8) (k : Nat) {e : Int} (n : Nat) (m : Int) (ok : List UInt8 → Bool) (h : e ≠ 0) : rawsR bs k e n m ok = ([], k, e) := by
  rw [rawsR, numsR_bad bs k n m h]
  rfl
theorem takeC_bad (bs : List UInt8) (k : Nat) {e : Int} (kind : Nat) (there : List Bool) (h : e ≠ 0) : (takeC bs k e kind there).2 = (k, e) := by
  unfold takeC
  rw [getK_bad bs k h, openR_bad bs k h]
  simp only [rawsR_bad bs k _ _ _ h, numsR_bad bs k _ _ h]
  repeat' split
  all_goals rfl
theorem numsR_good {bs : List UInt8} {k k2 n : Nat} {m : Int} {ns : List Nat} (hk : k ≤ bs.length) (hn : n ≤ 2147483647) (h : numsR bs k 0 n m = (ns, k2, 0)) :
    ns.length = n ∧ (∀ x ∈ ns, (x : Int) ≤ m) ∧ May (ints ns) ∧ bs.drop k = writeL (ints ns) ++ bs.drop k2 ∧ k2 = k + (writeL (ints ns)).length ∧ k2 ≤ bs.length := by
  unfold numsR at h
  obtain ⟨R, hR⟩ : ∃ R, readR bs k 0 (n : Int) = R := ⟨_, rfl⟩
  obtain ⟨xs, q, e⟩ := R
  simp only [hR] at h
  by_cases h1 : xs.length = n
  · rw [if_pos h1] at h
    by_cases h2 : (xs.all fun x => decide ((x : Int) ≤ m)) = true
    · rw [if_pos h2] at h
      simp only [Prod.mk.injEq] at h
      obtain ⟨e1, rfl, rfl⟩ := h
      rw [if_pos rfl] at e1
      subst e1
      obtain ⟨g1, g2, g3, g4, g5⟩ := read_good hk hn hR
      exact ⟨h1, fun x hx => of_decide_eq_true (List.all_eq_true.1 h2 x hx), g2, g3, g4, g5⟩
    · rw [if_neg h2] at h
      simp only [Prod.mk.injEq] at h
      exact absurd h.2.2 (orForm_ne _)
  · rw [if_neg h1] at h
    simp only [Prod.mk.injEq] at h
    split at h
    · exact absurd h.2.2 (orForm_ne _)
    · exact absurd h.2.2 (orForm_ne _)
theorem numsR_there {bs rest : List UInt8} {k : Nat} {m : Int} {ns : List Nat} (hk : k ≤ bs.length) (hn : ns.length ≤ 2147483647) (hm : ∀ x ∈ ns, (x : Int) ≤ m) (hy : May (ints ns)) (h : bs.drop k = writeL (ints ns) ++ rest) :
    numsR bs k 0 ns.length m = (ns, k + (writeL (ints ns)).length, 0) := by
  have h1 := read_there (ints ns) hy ns.length hk h (by rw [ints_length]; exact Nat.le_refl _) hn
  rw [nats_ints] at h1
  unfold numsR
  have h2 : (ns.all fun x => decide ((x : Int) ≤ m)) = true := List.all_eq_true.2 fun x hx => decide_eq_true (hm x hx)
  simp only [h1, h2, if_true]
theorem rawsF_good {bs : List UInt8} {ok : List UInt8 → Bool} : ∀ {zs : List Nat} {k k2 : Nat} {l : List (List UInt8)}, k ≤ bs.length → rawsF bs ok zs k 0 = (l, k2, 0) →
    l.map List.length = zs ∧ (∀ x ∈ l, ok x = true) ∧ bs.drop k = l.flatten ++ bs.drop k2 ∧ k2 = k + l.flatten.length ∧ k2 ≤ bs.length
  | [], k, k2, l, hk, h => by
    simp only [rawsF, Prod.mk.injEq, and_true] at h
    obtain ⟨rfl, rfl⟩ := h
    exact ⟨rfl, fun x hx => (by cases hx), by simp, by simp, hk⟩
  | z :: zs, k, k2, l, hk, h => by
    by_cases hf : k + z ≤ bs.length
    · have hT := takeR_fit bs k z hf
      rw [rawsF] at h
      simp only [hT] at h
      cases ho : ok ((bs.drop k).take z) with
      | false =>
        rw [ho] at h
        simp only [Bool.false_eq_true, if_false, Prod.mk.injEq] at h
        rw [rawsF_bad bs ok zs (k + z) (orForm_ne 0)] at h
        exact absurd (congrArg Prod.snd h.2) (orForm_ne 0)
      | true =>
        rw [ho, if_pos rfl] at h
        obtain ⟨R, hR⟩ : ∃ R, rawsF bs ok zs (k + z) 0 = R := ⟨_, rfl⟩
        obtain ⟨r, q, e⟩ := R
        simp only [hR, Prod.mk.injEq] at h
        obtain ⟨rfl, rfl, rfl⟩ := h
        obtain ⟨h1, h2, h3, h4, h5⟩ := rawsF_good hf hR
        have hl : ((bs.drop k).take z).length = z := by rw [List.length_take, List.length_drop]; omega
        refine ⟨by rw [List.map_cons, hl, h1], fun x hx => ?_, ?_, ?_, h5⟩
        · rcases List.mem_cons.1 hx with rfl | hx
          · exact ho
          · exact h2 x hx
        · rw [List.flatten_cons, List.append_assoc, ← h3, ← List.drop_drop, List.take_append_drop]
        · rw [List.flatten_cons, List.length_append, hl]; omega
    · have hT := takeR_short bs k z (by omega)
      rw [rawsF] at h
      simp only [hT, Prod.mk.injEq] at h
      have hne : (if ok [] = true then (2 : Int) else orForm 2) ≠ 0 := by split <;> decide
      rw [rawsF_bad bs ok zs k hne] at h
      exact absurd (congrArg Prod.snd h.2) hne
theorem rawsF_there {bs : List UInt8} {ok : List UInt8 → Bool} : ∀ {l : List (List UInt8)} {k : Nat} {rest : List UInt8}, k ≤ bs.length → (∀ x ∈ l, ok x = true) → bs.drop k = l.flatten ++ rest → rawsF bs ok (l.map List.length) k 0 = (l, k + l.flatten.length, 0)
  | [], k, rest, hk, ho, h => by simp [rawsF]
  | x :: l, k, rest, hk, ho, h => by
    have hb : k + x.length ≤ bs.length := by
      have := congrArg List.length h
      rw [List.length_drop, List.flatten_cons, List.length_append, List.length_append] at this
      omega
    have hx : (bs.drop k).take x.length = x := by rw [h, List.flatten_cons, List.append_assoc, List.take_left]
    have hd : bs.drop (k + x.length) = l.flatten ++ rest := by rw [← List.drop_drop, h, List.flatten_cons, List.append_assoc, List.drop_left]
    rw [List.map_cons, rawsF]
    simp only [takeR_fit bs k x.length hb, hx, ho x List.mem_cons_self, if_true]
    rw [rawsF_there hb (fun y hy => ho y (List.mem_cons_of_mem _ hy)) hd, List.flatten_cons, List.length_append]
    simp
    omega
theorem lens_may {r : List (List UInt8)} {m : Int} (hm : m ≤ 4294967295) (h : ∀ x ∈ r, (x.length : Int) ≤ m) : May (ints (r.map List.length)) := fun z hz => by
  obtain ⟨n, hn, rfl⟩ := List.mem_map.1 hz
  obtain ⟨x, hx, rfl⟩ := List.mem_map.1 hn
  have := h x hx
  omega
theorem rawsR_good {bs : List UInt8} {ok : List UInt8 → Bool} {k k2 n : Nat} {m : Int} {l : List (List UInt8)} (hk : k ≤ bs.length) (hn : n ≤ 2147483647) (h : rawsR bs k 0 n m ok = (l, k2, 0)) :
    l.length = n ∧ (∀ x ∈ l, ok x = true ∧ (x.length : Int) ≤ m) ∧ bs.drop k = joinB l ++ bs.drop k2 ∧ k2 = k + (joinB l).length ∧ k2 ≤ bs.length := by
  unfold rawsR at h
  obtain ⟨R, hR⟩ : ∃ R, numsR bs k 0 n m = R := ⟨_, rfl⟩
  obtain ⟨ns, q, e⟩ := R
  simp only [hR] at h
  by_cases he : e = 0
  · subst he
    obtain ⟨h1, h2, h3, h4, h5, h6⟩ := numsR_good hk hn hR
    obtain ⟨g1, g2, g3, g4, g5⟩ := rawsF_good h6 h
    refine ⟨by rw [← h1, ← g1, List.length_map], fun x hx => ⟨g2 x hx, h2 _ (by rw [← g1]; exact List.mem_map_of_mem hx)⟩, ?_, ?_, g5⟩
    · rw [joinB, g1, List.append_assoc, ← g3, ← h4]
    · rw [joinB, g1, List.length_append]; omega
  · have h7 := rawsF_bad bs ok ns q he
    rw [h] at h7
    exact absurd (congrArg Prod.snd h7).symm he
theorem rawsR_there {bs rest : List UInt8} {ok : List UInt8 → Bool} {k : Nat} {m : Int} {l : List (List UInt8)} (hk : k ≤ bs.length) (hn : l.length ≤ 2147483647) (hm : m ≤ 4294967295) (ho : ∀ x ∈ l, ok x = true ∧ (x.length : Int) ≤ m) (h : bs.drop k = joinB l ++ rest) :
    rawsR bs k 0 l.length m ok = (l, k + (joinB l).length, 0) := by
  have h' : bs.drop k = writeL (ints (l.map List.length)) ++ (l.flatten ++ rest) := by rw [h, joinB, List.append_assoc]
  have hn1 := numsR_there (m := m) hk (by rw [List.length_map]; exact hn) (fun x hx => by
    obtain ⟨y, hy, rfl⟩ := List.mem_map.1 hx
    exact (ho y hy).2) (lens_may hm fun x hx => (ho x hx).2) h'
  rw [List.length_map] at hn1
  have hq : k + (writeL (ints (l.map List.length))).length ≤ bs.length := by
    have := congrArg List.length h'
    rw [List.length_drop, List.length_append] at this
    omega
  rw [rawsR, hn1]
  simp only
  rw [rawsF_there (rest := rest) hq (fun x hx => (ho x hx).1) (by rw [← List.drop_drop, h', List.drop_left]), joinB, List.length_append]
  simp
  omega
structure ChkOk (c : Chk) : Prop where
  few : c.there.length ≤ 4096
  kinds : (c.kind = 1 ∧ c.raws.length = cnt c.there ∧ (∀ x ∈ c.raws, x.length ≤ 4096) ∧ c.tab = [] ∧ c.dic = [] ∧ c.codes = []) ∨
    (c.kind = 2 ∧ c.raws.length = cnt c.there ∧ rightT c.tab = true ∧ (∀ x ∈ c.raws, encOk c.tab x = true ∧ x.length ≤ 8192) ∧ c.dic = [] ∧ c.codes = []) ∨
    (c.kind = 3 ∧ c.raws = [] ∧ c.tab = [] ∧ dicL c.dic = true ∧ c.codes.length = cnt c.there ∧ ∀ x ∈ c.codes, x < c.dic.length)
def chkB (K : Nat) (c : Chk) : List UInt8 :=
  UInt8.ofNat c.kind :: (writeB c.there ++ (if c.kind = 1 then joinB c.raws else if c.kind = 2 then putT c.tab ++ joinB c.raws else frontL K c.dic ++ writeL (ints c.codes)))
theorem codes_may {D : List (List UInt8)} {ns : List Nat} (hD : D.length ≤ 4096) (h : ∀ x ∈ ns, x < D.length) : May (ints ns) := fun z hz => by
  obtain ⟨n, hn, rfl⟩ := List.mem_map.1 hz
  have := h n hn
  omega
theorem takeC_good {bs : List UInt8} {k k2 kind : Nat} {there : List Bool} {c : Chk} (hk : k ≤ bs.length) (hkd : 1 ≤ kind ∧ kind ≤ 3) (ht : there.length ≤ 4096) (h : takeC bs k 0 kind there = (c, k2, 0)) :
    c.kind = kind ∧ c.there = there ∧ ChkOk c ∧ ∃ K, 1 ≤ K ∧ K ≤ 64 ∧ bs.drop k = (if c.kind = 1 then joinB c.raws else if c.kind = 2 then putT c.tab ++ joinB c.raws else frontL K c.dic ++ writeL (ints c.codes)) ++ bs.drop k2 ∧ k2 ≤ bs.length ∧
      k2 = k + (if c.kind = 1 then joinB c.raws else if c.kind = 2 then putT c.tab ++ joinB c.raws else frontL K c.dic ++ writeL (ints c.codes)).length := by
  have hc := cnt_le there
  unfold takeC at h
  by_cases h1 : kind = 1
  · subst h1
    rw [if_pos rfl] at h
    obtain ⟨R, hR⟩ : ∃ R, rawsR bs k 0 (cnt there) 4096 (fun _ => true) = R := ⟨_, rfl⟩
    obtain ⟨l, q, e⟩ := R
    simp only [hR, Prod.mk.injEq] at h
    obtain ⟨rfl, rfl, rfl⟩ := h
    obtain ⟨g1, g2, g3, g4, g5⟩ := rawsR_good hk (by omega) hR
    exact ⟨rfl, rfl, ⟨ht, .inl ⟨rfl, g1, fun x hx => (by have := (g2 x hx).2; omega), rfl, rfl, rfl⟩⟩, 1, by omega, by omega, g3, g5, g4⟩
  · rw [if_neg h1] at h
    by_cases h2 : kind = 2
    · subst h2
      rw [if_pos rfl] at h
      obtain ⟨G, hG⟩ : ∃ G, getK bs k 0 = G := ⟨_, rfl⟩
      obtain ⟨t, q, e⟩ := G
      simp only [hG] at h
      obtain ⟨R, hR⟩ : ∃ R, rawsR bs q e (cnt there) 8192 (encOk t) = R := ⟨_, rfl⟩
      obtain ⟨l, q2, e2⟩ := R
      simp only [hR, Prod.mk.injEq] at h
      obtain ⟨rfl, rfl, rfl⟩ := h
      by_cases he : e = 0
      · subst he
        obtain ⟨f1, f2, f3, f4⟩ := getK_good hk hG
        obtain ⟨g1, g2, g3, g4, g5⟩ := rawsR_good f4 (by omega) hR
        refine ⟨rfl, rfl, ⟨ht, .inr (.inl ⟨rfl, g1, f1, fun x hx => ⟨(g2 x hx).1, by have := (g2 x hx).2; omega⟩, rfl, rfl⟩)⟩, 1, by omega, by omega, ?_, g5, ?_⟩
        · show bs.drop k = putT t ++ joinB l ++ _
          rw [List.append_assoc, ← g3, ← f2]
        · show q2 = k + (putT t ++ joinB l).length
          rw [List.length_append]; omega
      · rw [rawsR_bad bs q _ _ _ he] at hR
        exact absurd (congrArg (fun r => r.2.2) hR) he
    · rw [if_neg h2] at h
      have h3 : kind = 3 := by omega
      subst h3
      rw [if_pos rfl] at h
      obtain ⟨G, hG⟩ : ∃ G, openR bs k 0 = G := ⟨_, rfl⟩
      obtain ⟨D, q, e⟩ := G
      simp only [hG] at h
      obtain ⟨R, hR⟩ : ∃ R, numsR bs q e (cnt there) ((D.length : Int) - 1) = R := ⟨_, rfl⟩
      obtain ⟨l, q2, e2⟩ := R
      simp only [hR, Prod.mk.injEq] at h
      obtain ⟨rfl, rfl, rfl⟩ := h
      by_cases he : e = 0
      · subst he
        obtain ⟨K, f1, f2, f3, f4, f5, f6⟩ := openR_good hk hG
        obtain ⟨g1, g2, g3, g4, g5, g6⟩ := numsR_good f6 (by omega) hR
        refine ⟨rfl, rfl, ⟨ht, .inr (.inr ⟨rfl, rfl, rfl, f3, g1, fun x hx => (by have := g2 x hx; show x < D.length; omega)⟩)⟩, K, f1, f2, ?_, g6, ?_⟩
        · show bs.drop k = frontL K D ++ writeL (ints l) ++ _
          rw [List.append_assoc, ← g4, ← f4]
        · show q2 = k + (frontL K D ++ writeL (ints l)).length
          rw [List.length_append]; omega
      · rw [numsR_bad bs q _ _ he] at hR
        exact absurd (congrArg (fun r => r.2.2) hR) he
theorem takeC_there {bs rest : List UInt8} {k K : Nat} {c : Chk} (hk : k ≤ bs.length) (ho : ChkOk c) (hK : 1 ≤ K) (hK2 : K ≤ 64)
    (h : bs.drop k = (if c.kind = 1 then joinB c.raws else if c.kind = 2 then putT c.tab ++ joinB c.raws else frontL K c.dic ++ writeL (ints c.codes)) ++ rest) :
    takeC bs k 0 c.kind c.there = (c, k + (if c.kind = 1 then joinB c.raws else if c.kind = 2 then putT c.tab ++ joinB c.raws else frontL K c.dic ++ writeL (ints c.codes)).length, 0) := by
  obtain ⟨hf, hc⟩ := ho
  obtain ⟨kind, there, raws, tab, dic, codes⟩ := c
  have hct := cnt_le there
  simp only at hf hc h ⊢
  rcases hc with ⟨rfl, h1, h2, rfl, rfl, rfl⟩ | ⟨rfl, h1, h2, h3, rfl, rfl⟩ | ⟨rfl, rfl, rfl, h1, h2, h3⟩
  · simp only [if_true] at h ⊢
    have := rawsR_there (ok := fun _ => true) (m := 4096) hk (by omega) (by omega) (fun x hx => ⟨rfl, by have := h2 x hx; omega⟩) h
    rw [h1] at this
    rw [takeC, if_pos rfl, this]
  · simp only [show ¬ (2 : Nat) = 1 by omega, if_false, if_true] at h ⊢
    rw [List.append_assoc] at h
    have hg := getK_there hk h2 h
    have hq : k + (putT tab).length ≤ bs.length := by
      have := congrArg List.length h
      rw [List.length_drop, List.length_append] at this
      omega
    have := rawsR_there (ok := encOk tab) (m := 8192) (rest := rest) hq (by omega) (by omega) (fun x hx => ⟨(h3 x hx).1, by have := (h3 x hx).2; omega⟩) (by rw [← List.drop_drop, h, List.drop_left])
    rw [h1] at this
    rw [takeC, if_neg (by omega), if_pos rfl, hg]
    simp only
    rw [this, List.length_append, Nat.add_assoc]
  · simp only [show ¬ (3 : Nat) = 1 by omega, show ¬ (3 : Nat) = 2 by omega, if_false] at h ⊢
    rw [List.append_assoc] at h
    have hg := openR_there hk hK hK2 h1 h
    have hq : k + (frontL K dic).length ≤ bs.length := by
      have := congrArg List.length h
      rw [List.length_drop, List.length_append] at this
      omega
    have hd4 := (dicL_iff.1 h1).1
    have := numsR_there (m := (dic.length : Int) - 1) (rest := rest) (ns := codes) hq (by omega) (fun x hx => by have := h3 x hx; omega) (codes_may hd4 h3) (by rw [← List.drop_drop, h, List.drop_left])
    rw [h2] at this
    rw [takeC, if_neg (by omega), if_neg (by omega), if_pos rfl, hg]
    simp only
    rw [this, List.length_append, Nat.add_assoc]
theorem openC_good {bs : List UInt8} {k k2 : Nat} {c : Chk} (hk : k ≤ bs.length) (h : openC bs k 0 = (c, k2, 0)) :
    ChkOk c ∧ ∃ K, 1 ≤ K ∧ K ≤ 64 ∧ bs.drop k = chkB K c ++ bs.drop k2 ∧ k2 = k + (chkB K c).length ∧ k2 ≤ bs.length := by
  unfold openC at h
  split at h
  · unfold openD at h
    by_cases hlt : k < bs.length
    · have hT := takeR_byte hlt
      simp only [hT, List.headD_cons] at h
      by_cases hkd : 1 ≤ bs[k].toNat ∧ bs[k].toNat ≤ 3
      · rw [kindE, if_pos hkd] at h
        obtain ⟨T, hTT⟩ : ∃ T, breadR bs (k + 1) 0 4096 = T := ⟨_, rfl⟩
        obtain ⟨there, q, e⟩ := T
        simp only [hTT] at h
        by_cases he : e = 0
        · subst he
          obtain ⟨f1, f2, f3, f4⟩ := bread_good (by omega) hTT
          obtain ⟨g1, g2, g3, K, g4, g5, g6, g7, g8⟩ := takeC_good f4 hkd (by omega) h
          refine ⟨g3, K, g4, g5, ?_, ?_, g7⟩
          · rw [chkB, g1, g2, List.drop_eq_getElem_cons hlt, f2]
            rw [g1] at g6
            rw [g6]
            simp
          · rw [chkB, g2, List.length_cons, List.length_append]
            omega
        · have h2 := takeC_bad bs q bs[k].toNat there he
          rw [h] at h2
          exact absurd (congrArg Prod.snd h2).symm he
      · rw [kindE, if_neg hkd, bread_bad bs (k + 1) 4096 (orForm_ne 0)] at h
        simp only at h
        have h2 := takeC_bad bs (k + 1) bs[k].toNat [] (orForm_ne 0)
        rw [h] at h2
        exact absurd (congrArg Prod.snd h2).symm (orForm_ne 0)
    · exfalso
      have hT : takeR bs k 0 0 1 = ([], k, 2) := by
        rw [show (1 : Int) = ((1 : Nat) : Int) from rfl]
        exact takeR_short bs k 1 (by omega)
      simp only [hT, kindE_bad (show (2 : Int) ≠ 0 by decide), bread_bad bs k 4096 (show (2 : Int) ≠ 0 by decide)] at h
      have h2 := takeC_bad bs k (e := 2) (([] : List UInt8).headD 0).toNat [] (by decide)
      rw [h] at h2
      exact absurd (congrArg Prod.snd h2) (show ¬ (0 : Int) = 2 by decide)
  · rename_i hne
    simp only [Prod.mk.injEq] at h
    exact absurd (congrArg Prod.snd h.2) hne
theorem openC_there {bs rest : List UInt8} {k K : Nat} {c : Chk} (hk : k ≤ bs.length) (ho : ChkOk c) (hK : 1 ≤ K) (hK2 : K ≤ 64) (h : bs.drop k = chkB K c ++ rest) : openC bs k 0 = (c, k + (chkB K c).length, 0) := by
  have hlt : k < bs.length := by
    have := congrArg List.length h
    rw [List.length_drop, chkB] at this
    simp at this
    omega
  have hkd : 1 ≤ c.kind ∧ c.kind ≤ 3 := by rcases ho.kinds with h | h | h <;> omega
  have hc := List.drop_eq_getElem_cons hlt
  rw [h, chkB, List.cons_append, List.cons.injEq] at hc
  obtain ⟨c1, c2⟩ := hc
  have hn : bs[k].toNat = c.kind := by rw [← c1]; simp; omega
  rw [List.append_assoc] at c2
  have hb := bread_there c.there 4096 (by omega) c2.symm (by have := ho.few; omega) (by have := ho.few; omega)
  have hq : k + 1 + (writeB c.there).length ≤ bs.length := by
    have := congrArg List.length c2
    rw [List.length_drop, List.length_append] at this
    omega
  have ht := takeC_there (rest := rest) hq ho hK hK2 (by rw [← List.drop_drop, ← c2, List.drop_left])
  have hD : openD bs k 0 = (c, k + (chkB K c).length, 0) := by
    unfold openD
    simp only [takeR_byte hlt, List.headD_cons, hn, kindE, if_pos hkd, hb, ht]
    rw [chkB, List.length_cons, List.length_append]
    congr 2
    omega
  rw [openC, hD, if_pos rfl]
theorem openC_cut {K m : Nat} {c : Chk} (ho : ChkOk c) (hK : 1 ≤ K) (hK2 : K ≤ 64) (hm : m < (chkB K c).length) : (openC ((chkB K c).take m) 0 0).2.2 ≠ 0 := by
  intro h0
  obtain ⟨R, hR⟩ : ∃ R, openC ((chkB K c).take m) 0 0 = R := ⟨_, rfl⟩
  rw [hR] at h0
  obtain ⟨d, k2, e⟩ := R
  simp only at h0
  subst h0
  obtain ⟨h1, K2, h2, h3, h4, h5, h6⟩ := openC_good (Nat.zero_le _) hR
  rw [List.drop_zero] at h4
  have h7 : (chkB K c).drop 0 = chkB K2 d ++ (((chkB K c).take m).drop k2 ++ (chkB K c).drop m) := by
    rw [List.drop_zero, ← List.append_assoc, ← h4, List.take_append_drop]
  have h8 := openC_there (Nat.zero_le _) h1 h2 h3 h7
  have h9 := openC_there (bs := chkB K c) (rest := []) (Nat.zero_le _) ho hK hK2 (by simp)
  rw [h8] at h9
  have h10 := congrArg (fun r => r.2.1) h9
  simp only at h10
  rw [List.length_take] at h6
  omega
end Go.Proofs.YtmffpbhiehjlpaaGreat
namespace Go.Proofs.YtmffpbhiehjlpaaGreat
set_option linter.unusedSimpArgs false
set_option linter.unusedVariables false
structure Part where
  A : Option Addr
  c : Nat
  bs : List UInt8
def Part.val (p : Part) : Value := .slice p.A p.bs.length p.c
def Part.rd (p : Part) (w : World) (hi : Nat) : Prop := Rd w 0 hi p.A p.c (bv p.bs)
def partsL (ps : List Part) : List UInt8 := ps.flatMap (·.bs)
theorem partsL_take (ps : List Part) {k : Nat} (hk : k < ps.length) : partsL (ps.take (k + 1)) = partsL (ps.take k) ++ ps[k].bs := by
  unfold partsL
  rw [List.take_succ_eq_append_getElem hk, List.flatMap_append]
  simp
end Go.Proofs.YtmffpbhiehjlpaaGreat
