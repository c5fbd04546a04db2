/-
  Heaps in plain: where buffers begin and end, what a buffer has, the string of a view, where the next string stands; what is added is got as it was, however much is added behind it; views compare as strings do.
-/
import Derived.Test.YtpainhgjiddpkaaVewM
import Derived.Test.YtpainhgjiddpkaaCmpM
namespace Go.Proofs.Ytpainhgjiddpkaa
set_option linter.unusedSimpArgs false
set_option linter.unusedVariables false

/-- where the k-th buffer begins, and the one ahead of it ends -/
def ed (es : List Nat) (k : Nat) : Nat := (0 :: es).getD k 0
theorem ed_zero (es : List Nat) : ed es 0 = 0 := rfl
theorem ed_succ {es : List Nat} {k : Nat} (h : k < es.length) : ed es (k + 1) = es[k] := by
  simp [ed, List.getD, List.getElem?_eq_getElem h]
theorem ed_take {es : List Nat} {b k : Nat} (h : k ≤ b) (hb : b ≤ es.length) (r : List Nat) : ed (es.take b ++ r) k = ed es k := by
  cases k with
  | zero => rfl
  | succ k =>
    unfold ed
    simp only [List.getD, List.getElem?_cons_succ]
    rw [List.getElem?_append_left (by rw [List.length_take]; omega), List.getElem?_take, if_pos (by omega)]
theorem ed_last {es : List Nat} {b : Nat} (hb : b ≤ es.length) (n : Nat) : ed (es.take b ++ [n]) (b + 1) = n := by
  unfold ed
  simp only [List.getD, List.getElem?_cons_succ]
  rw [List.getElem?_append_right (by rw [List.length_take]; omega), List.length_take, Nat.min_eq_left hb, Nat.sub_self]
  rfl

/-- ends that rise, within n bytes -/
structure Ends (es : List Nat) (n : Nat) : Prop where
  up : ∀ k, k < es.length → ed es k ≤ ed es (k + 1)
  top : ∀ k, k ≤ es.length → ed es k ≤ n
theorem Ends.nil : Ends [] 0 := ⟨by simp, fun k h => by
  have : k = 0 := by simpa using h
  subst this
  exact Nat.le_refl _⟩

/-- a buffer's bytes -/
def bufL (bs : List UInt8) (es : List Nat) (k : Nat) : List UInt8 := if k < es.length then (bs.drop (ed es k)).take (ed es (k + 1) - ed es k) else []
theorem bufL_length {bs : List UInt8} {es : List Nat} (h : Ends es bs.length) {k : Nat} (hk : k < es.length) : (bufL bs es k).length = ed es (k + 1) - ed es k := by
  unfold bufL
  rw [if_pos hk, List.length_take, List.length_drop]
  have := h.top (k + 1) (by omega)
  omega
theorem bufL_le {bs : List UInt8} {es : List Nat} (k : Nat) : (bufL bs es k).length ≤ bs.length := by
  unfold bufL
  split
  · rw [List.length_take, List.length_drop]; omega
  · simp

/-- the bytes of the last buffer -/
def usedL (es : List Nat) : Nat := ed es es.length - ed es (es.length - 1)
/-- where a long string of n bytes would stand -/
def nextL (es : List Nat) (n : Nat) : Nat × Nat := if 0 < es.length ∧ usedL es + n ≤ 65536 then (es.length - 1, usedL es) else (es.length, 0)
theorem nextL_spot {bs : List UInt8} {es : List Nat} (h : Ends es bs.length) (n : Nat) : ((nextL es n).1 = es.length ∨ (nextL es n).1 + 1 = es.length) ∧ (nextL es n).2 = (bufL bs es (nextL es n).1).length ∧ (nextL es n).2 ≤ 65536 := by
  unfold nextL
  split
  · rename_i hc
    refine ⟨.inr (by simp only []; omega), ?_, by simp only []; omega⟩
    simp only []
    rw [bufL_length h (by omega)]
    unfold usedL
    rw [show es.length - 1 + 1 = es.length by omega]
  · refine ⟨.inl rfl, ?_, by simp⟩
    simp [bufL]

/-- the ends behind a string of n bytes that is put into buffer b -/
def addE (es : List Nat) (b n : Nat) : List Nat := es.take b ++ [n]
theorem addE_length {es : List Nat} {b n : Nat} (hb : b ≤ es.length) : (addE es b n).length = b + 1 := by
  simp [addE]; omega

section
variable {bs s : List UInt8} {es : List Nat} {b : Nat}
theorem bufL_add (hE : Ends es bs.length) (hl : ed es es.length = bs.length) (hb : b = es.length ∨ b + 1 = es.length) (k : Nat) :
    bufL (bs ++ s) (addE es b (bs.length + s.length)) k = bufL bs es k ++ (if k = b then s else []) := by
  have hbl : b ≤ es.length := by omega
  unfold bufL
  rw [addE_length hbl]
  rcases Nat.lt_trichotomy k b with hk | hk | hk
  · rw [if_pos (by omega), if_pos (by omega), if_neg (by omega), List.append_nil]
    unfold addE
    rw [ed_take (by omega) hbl, ed_take (by omega) hbl]
    have h1 := hE.up k (by omega)
    have h2 := hE.top (k + 1) (by omega)
    rw [List.drop_append_of_le_length (by omega), List.take_append_of_le_length (by rw [List.length_drop]; omega)]
  · subst hk
    rw [if_pos (by omega), if_pos rfl]
    unfold addE
    rw [ed_take (Nat.le_refl _) hbl, ed_last hbl]
    have h2 := hE.top k (by omega)
    rw [List.drop_append_of_le_length (by omega), List.take_of_length_le (by rw [List.length_append, List.length_drop]; omega)]
    congr 1
    rcases hb with hb | hb
    · rw [if_neg (by omega), hb, hl, List.drop_length]
    · rw [if_pos (by omega), hb, hl, List.take_of_length_le (by rw [List.length_drop]; omega)]
  · rw [if_neg (by omega), if_neg (by omega), if_neg (by omega)]
    rfl
theorem addE_ends (hE : Ends es bs.length) (hb : b ≤ es.length) : Ends (addE es b (bs.length + s.length)) (bs ++ s).length := by
  refine ⟨fun k hk => ?_, fun k hk => ?_⟩
  · rw [addE_length hb] at hk
    unfold addE
    rcases Nat.lt_or_ge k b with h | h
    · rw [ed_take (by omega) hb, ed_take (by omega) hb]
      exact hE.up k (by omega)
    · obtain rfl : k = b := by omega
      rw [ed_take (Nat.le_refl _) hb, ed_last hb]
      have := hE.top k hb
      omega
  · rw [addE_length hb] at hk
    rw [List.length_append]
    unfold addE
    rcases Nat.lt_or_ge b k with h | h
    · obtain rfl : k = b + 1 := by omega
      rw [ed_last hb]
      exact Nat.le_refl _
    · rw [ed_take h hb]
      have := hE.top k (by omega)
      omega
theorem addE_last (hb : b ≤ es.length) (n : Nat) : ed (addE es b n) (addE es b n).length = n := by
  rw [addE_length hb]
  exact ed_last hb n
end

/-- the bytes of a view's string, if it is one of the heap -/
def findL (bs : List UInt8) (es : List Nat) (l : List UInt8) : Option (List UInt8) :=
  if rightV l = true then
    if lenV l ≤ 12 then some (textV l)
    else if atV l + lenV l ≤ (bufL bs es (bufV l)).length ∧ (((bufL bs es (bufV l)).drop (atV l)).take (lenV l)).take 4 = prefV l then some (((bufL bs es (bufV l)).drop (atV l)).take (lenV l)) else none
  else none
/-- the string, or nothing -/
def gotL (bs : List UInt8) (es : List Nat) (l : List UInt8) : List UInt8 := (findL bs es l).getD []

theorem textV_len {l : List UInt8} (h : l.length = 16) (hn : lenV l ≤ 12) : (textV l).length = lenV l := by
  unfold textV
  rw [if_pos hn, List.length_take, List.length_drop, h]
  omega
theorem textV_pref {l : List UInt8} (hn : lenV l ≤ 12) : prefV l = (textV l).take 4 := by
  unfold prefV textV
  rw [if_pos hn, List.take_take]
section
variable {bs s x : List UInt8} {es : List Nat} {l : List UInt8}
theorem findL_says (hl : l.length = 16) (h : findL bs es l = some x) : prefV l = x.take 4 ∧ lenV l = x.length ∧ x.length ≤ 4096 ∧ rightV l = true := by
  unfold findL at h
  split at h
  · rename_i hr
    have hle : lenV l ≤ 4096 := by
      unfold rightV at hr
      split at hr
      · omega
      · simp only [decide_eq_true_eq] at hr
        exact hr.1
    split at h
    · rename_i hn
      injection h with h
      subst h
      have := textV_len hl hn
      exact ⟨textV_pref hn, this.symm, by omega, hr⟩
    · split at h
      · rename_i hc
        injection h with h
        have hxl : x.length = lenV l := by
          rw [← h, List.length_take, List.length_drop]
          omega
        refine ⟨?_, hxl.symm, by omega, hr⟩
        rw [← hc.2, h]
      · cases h
  · cases h
theorem findL_more {bs' : List UInt8} {es' : List Nat} (hm : ∀ k, ∃ t, bufL bs' es' k = bufL bs es k ++ t) (h : findL bs es l = some x) : findL bs' es' l = some x := by
  unfold findL at h ⊢
  split at h
  · rename_i hr
    rw [if_pos hr]
    split at h
    · rename_i hn
      rw [if_pos hn]
      exact h
    · rename_i hn
      rw [if_neg hn]
      split at h
      · rename_i hc
        obtain ⟨t, ht⟩ := hm (bufV l)
        rw [ht, List.drop_append_of_le_length (by omega), List.take_append_of_le_length (by rw [List.length_drop]; omega), if_pos ⟨by rw [List.length_append]; omega, hc.2⟩]
        exact h
      · cases h
  · cases h
theorem findL_short (h : s.length ≤ 12) : findL bs es (shortL s) = some s := by
  unfold findL
  rw [if_pos (rightV_short h), if_pos (by rw [lenV_short h]; exact h), textV_short h]
theorem findL_add {b : Nat} (hE : Ends es bs.length) (hl : ed es es.length = bs.length) (hb : b = es.length ∨ b + 1 = es.length) (h : findL bs es l = some x) :
    findL (bs ++ s) (addE es b (bs.length + s.length)) l = some x := findL_more (fun k => ⟨_, bufL_add hE hl hb k⟩) h
theorem findL_new {b p : Nat} (hE : Ends es bs.length) (hl : ed es es.length = bs.length) (hb : b = es.length ∨ b + 1 = es.length) (hp : p = (bufL bs es b).length) (hp2 : p ≤ 65536) (hb2 : b ≤ 65535) (h1 : 12 < s.length) (h2 : s.length ≤ 4096) :
    findL (bs ++ s) (addE es b (bs.length + s.length)) (longL s b p) = some s := by
  unfold findL
  rw [if_pos (rightV_long h1 h2 hb2 hp2), if_neg (by rw [lenV_long h2]; omega), lenV_long h2, bufV_long h1 h2 hb2, atV_long h1 h2 hp2, prefV_long h1 h2, bufL_add hE hl hb, if_pos rfl, hp, List.drop_left' rfl, List.take_of_length_le (Nat.le_refl _)]
  rw [if_pos ⟨by rw [List.length_append]; omega, rfl⟩]
theorem zero_short : List.replicate 16 (0 : UInt8) = shortL [] := rfl
theorem findL_zero (bs : List UInt8) (es : List Nat) : findL bs es (List.replicate 16 0) = some [] := by
  rw [zero_short]
  exact findL_short (by simp)
/-- a view that is the heap's, or that of nothing -/
def ownL (bs : List UInt8) (es : List Nat) (l : List UInt8) : List UInt8 := if (findL bs es l).isSome then l else List.replicate 16 0
theorem ownL_length (hl : l.length = 16) : (ownL bs es l).length = 16 := by
  unfold ownL
  split
  · exact hl
  · simp
theorem findL_own (bs : List UInt8) (es : List Nat) (l : List UInt8) : findL bs es (ownL bs es l) = some (gotL bs es l) := by
  unfold ownL gotL
  cases h : findL bs es l with
  | none =>
    simp only [Option.isSome_none, Bool.false_eq_true, if_false, Option.getD_none]
    exact findL_zero _ _
  | some x =>
    simp only [Option.isSome_some, if_true, Option.getD_some]
    exact h
/-- how views compare: by their prefixes first, by their strings then -/
def cmpV (bs : List UInt8) (es : List Nat) (a b : List UInt8) : Int := if cmpL (prefV a) (prefV b) ≠ 0 then cmpL (prefV a) (prefV b) else cmpL (gotL bs es a) (gotL bs es b)
theorem cmpV_says {a b x y : List UInt8} (ha : a.length = 16) (hb : b.length = 16) (h1 : findL bs es a = some x) (h2 : findL bs es b = some y) : cmpV bs es a b = cmpL x y := by
  unfold cmpV gotL
  rw [(findL_says ha h1).1, (findL_says hb h2).1, h1, h2]
  by_cases h : x.take 4 = y.take 4
  · rw [h, cmpL_same, if_neg (by simp)]
    rfl
  · have hc := cmpL_take 4 x y h
    rw [if_pos (fun e => h (cmpL_zero e)), hc]
theorem cmpV_own {a b : List UInt8} (ha : a.length = 16) (hb : b.length = 16) : cmpV bs es (ownL bs es a) (ownL bs es b) = cmpL (gotL bs es a) (gotL bs es b) :=
  cmpV_says (ownL_length ha) (ownL_length hb) (findL_own _ _ _) (findL_own _ _ _)
theorem lenV_own {a : List UInt8} (ha : a.length = 16) : lenV (ownL bs es a) = (gotL bs es a).length := (findL_says (ownL_length ha) (findL_own _ _ _)).2.1
end
end Go.Proofs.Ytpainhgjiddpkaa
