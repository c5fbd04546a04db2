/-
  A string that another one has within it: strings.Contains, in plain. No program is named here.
  Filters in plain: what has its bit; grams of parts.
  Filters in plain: what is right.
  What a predicate says and what is skipped, in plain: of rows that are skipped it says Yes of none; rules of And, Or, Not; what an exact filter skips.
-/
import Derived.Test.YtjffbjlniieciaaDoorLikN
import Derived.Lib.IndexMore
import Derived.Test.YtjffbjlniieciaaDoorMgG
import Derived.Test.YtjffbjlniieciaaDoorMgF
namespace Go.Proofs.YtjffbjlniieciaaDoor
set_option linter.unusedSimpArgs false
set_option linter.unusedVariables false

theorem contains_iff (s x : List UInt8) : Lib.contains s x = true ↔ List.IsInfix x s := by
  unfold Lib.contains
  rw [decide_eq_true_iff]
  rcases index_spec s x with ⟨h1, h2⟩ | ⟨i, h1, h2, h3, _⟩
  · rw [h1]
    constructor
    · intro h; omega
    · rintro ⟨a, b, rfl⟩
      have := h2 a.length (by simp)
      unfold Lib.occAt at this
      rw [List.append_assoc, List.drop_left] at this
      have hp : x.isPrefixOf (x ++ b) = true := List.isPrefixOf_iff_prefix.2 (List.prefix_append x b)
      rw [hp] at this
      cases this
  · rw [h2]
    constructor
    · intro _
      unfold Lib.occAt at h3
      obtain ⟨r, hr⟩ := List.isPrefixOf_iff_prefix.1 h3
      exact ⟨s.take i, r, by rw [List.append_assoc, hr, List.take_append_drop]⟩
    · intro _; omega
end Go.Proofs.YtjffbjlniieciaaDoor
namespace Go.Proofs.YtjffbjlniieciaaDoor
set_option linter.unusedSimpArgs false
set_option linter.unusedVariables false

/-- a gram's bit is set just where one of the grams has it -/
theorem setB_get (b : Nat) (hb : 0 < b) (ts : List Nat) (k : Nat) (hk : k < b) : (setB b ts).getD k false = true ↔ ∃ g ∈ ts, bitG g b = k := by
  have key : ∀ (ts : List Nat) (r : List Bool), r.length = b → ((ts.foldl (fun r g => r.set (bitG g b) true) r).getD k false = true ↔ r.getD k false = true ∨ ∃ g ∈ ts, bitG g b = k) := by
    intro ts
    induction ts with
    | nil => intro r _; simp
    | cons g ts ih =>
      intro r hr
      rw [List.foldl_cons, ih _ (by simpa using hr)]
      have e : (r.set (bitG g b) true).getD k false = true ↔ r.getD k false = true ∨ bitG g b = k := by
        by_cases hg : bitG g b = k
        · subst hg
          simp [List.getD, List.getElem?_set, hr, hk]
        · simp [List.getD, List.getElem?_set, hg]
      rw [e]
      constructor
      · rintro ((h | h) | ⟨x, hx, h⟩)
        · exact .inl h
        · exact .inr ⟨g, List.mem_cons_self, h⟩
        · exact .inr ⟨x, List.mem_cons_of_mem _ hx, h⟩
      · rintro (h | ⟨x, hx, h⟩)
        · exact .inl (.inl h)
        · rcases List.mem_cons.1 hx with rfl | hx
          · exact .inl (.inr h)
          · exact .inr ⟨x, hx, h⟩
  have h := key ts (List.replicate b false) (by simp)
  rw [setB, h]
  constructor
  · rintro (h | h)
    · simp [List.getD, List.getElem?_replicate, hk] at h
    · exact h
  · exact .inr
theorem bitG_lt (g : Nat) {b : Nat} (hb : 0 < b) : bitG g b < b := Nat.mod_lt _ hb
theorem has_set {b : Nat} (hb : 0 < b) {t : List Nat} {g : Nat} (hg : g ∈ t) : hasF b [] (setB b t) g = true := by
  unfold hasF
  rw [if_pos hb, setB_get b hb t _ (bitG_lt g hb)]
  exact ⟨g, hg, rfl⟩
theorem has_list (t : List Nat) (rs : List Bool) (g : Nat) : hasF 0 t rs g = decide (g ∈ t) := by
  unfold hasF
  rw [if_neg (Nat.lt_irrefl 0)]
/-- grams of a part are grams of the whole -/
theorem grams_infix {x s : List UInt8} (h : List.IsInfix x s) {g : Nat} (hg : g ∈ gramsL x) : g ∈ gramsL s := by
  obtain ⟨a, b, rfl⟩ := h
  obtain ⟨k, hk, rfl⟩ := mem_gramsL.1 hg
  refine mem_gramsL.2 ⟨a.length + k, by simp; omega, ?_⟩
  have e : ∀ j, j < x.length → ∀ h, (a ++ x ++ b)[a.length + j]'h = x[j]! := fun j hj h => by
    rw [List.getElem_append_left (by simp; omega), List.getElem_append_right (by omega)]
    simp [hj]
  have e0 := e k (by omega) (by simp; omega)
  have e1 := e (k + 1) (by omega) (by simp; omega)
  have e2 := e (k + 2) (by omega) (by simp; omega)
  have f0 : x[k]! = x[k] := by simp [show k < x.length by omega]
  have f1 : x[k + 1]! = x[k + 1] := by simp [show k + 1 < x.length by omega]
  have f2 : x[k + 2]! = x[k + 2] := by simp [show k + 2 < x.length by omega]
  rw [e0, f0]
  rw [show (a ++ x ++ b)[a.length + k + 1]'(by simp; omega) = x[k + 1] from e1.trans f1, show (a ++ x ++ b)[a.length + k + 2]'(by simp; omega) = x[k + 2] from e2.trans f2]
/-- three bytes stand in a string just where their gram does -/
theorem gram_stands (s : List UInt8) (a b c : UInt8) : gramN a b c ∈ gramsL s ↔ List.IsInfix [a, b, c] s := by
  constructor
  · intro h
    obtain ⟨k, hk, e⟩ := mem_gramsL.1 h
    obtain ⟨rfl, rfl, rfl⟩ := gramN_inj e
    refine ⟨s.take k, s.drop (k + 3), ?_⟩
    have e3 : s.drop k = s[k] :: s[k + 1] :: s[k + 2] :: s.drop (k + 3) := by
      rw [List.drop_eq_getElem_cons (by omega), List.drop_eq_getElem_cons (show k + 1 < s.length by omega), List.drop_eq_getElem_cons (show k + 1 + 1 < s.length by omega)]
    rw [List.append_assoc, List.cons_append, List.cons_append, List.cons_append, List.nil_append, ← e3, List.take_append_drop]
  · intro h
    exact grams_infix h (mem_gramsL.2 ⟨0, by simp, by simp⟩)
theorem drop_infix (s : List UInt8) (k : Nat) : List.IsInfix (s.drop k) s := (List.drop_suffix k s).isInfix
theorem mem_allL {l : List (List UInt8)} {g : Nat} : g ∈ allL l ↔ ∃ s ∈ l, g ∈ gramsL s := List.mem_flatMap
end Go.Proofs.YtjffbjlniieciaaDoor
namespace Go.Proofs.YtjffbjlniieciaaDoor
set_option linter.unusedSimpArgs false
set_option linter.unusedVariables false

/-- a filter that Make or Read answers -/
structure FilG (b : Nat) (gs : List Nat) (rs : List Bool) : Prop where
  le : b ≤ 65536
  rows : rs.length = b
  none : 0 < b → gs = []
  up : gs.Pairwise (· < ·)
  lt : ∀ g ∈ gs, g < 16777216
  few : gs.length ≤ 65536
theorem allL_lt {l : List (List UInt8)} {g : Nat} (h : g ∈ allL l) : g < 16777216 := by
  obtain ⟨s, _, hs⟩ := List.mem_flatMap.1 h
  exact gramsL_lt hs
theorem FilG.list {l : List (List UInt8)} {t : List Nat} (h : Rise (allL l) t) (hn : (allL l).length ≤ 65536) : FilG 0 t [] :=
  ⟨by omega, rfl, fun h => absurd h (Nat.lt_irrefl 0), h.up, fun g hg => allL_lt ((h.mem g).1 hg), Nat.le_trans h.len hn⟩
theorem FilG.set {b : Nat} (t : List Nat) (hb : b ≤ 65536) : FilG b [] (setB b t) :=
  ⟨hb, setB_length b t, fun _ => rfl, List.Pairwise.nil, fun g hg => absurd hg List.not_mem_nil, by simp⟩
end Go.Proofs.YtjffbjlniieciaaDoor
namespace Go.Proofs.YtjffbjlniieciaaDoor
set_option linter.unusedSimpArgs false
set_option linter.unusedVariables false
open Go.RowKit

/-- the filter has all grams of these strings -/
def HoldsF (f : Fl) (l : List ByteArray) : Prop := ∀ s ∈ l, ∀ g ∈ gramsL s.data.toList, hasF f.b f.gs f.rs g = true
theorem holds_of {l : List ByteArray} {b : Nat} {e : Fc} (h : FlOf l b e) : HoldsF (toFl e) l := fun s hs g hg => by
  obtain ⟨h1, t, h2, h3, h4⟩ := h
  have hm : g ∈ t := (h2.mem g).2 (mem_allL.2 ⟨_, List.mem_map_of_mem hs, hg⟩)
  show hasF e.b e.gs e.rs g = true
  by_cases h0 : b = 0
  · subst h0
    rw [h1, has_list, h3, gsM, if_pos rfl]
    exact decide_eq_true hm
  · rw [h1, h3, h4, gsM, rsM, if_neg h0, if_neg h0]
    exact has_set (by omega) hm
/-- what is a part of one of the strings may be there -/
theorem may_of {f : Fl} {l : List ByteArray} (h : HoldsF f l) {s x : ByteArray} (hs : s ∈ l) (hx : List.IsInfix x.data.toList s.data.toList) : mayP f x = true :=
  List.all_eq_true.2 fun g hg => h s hs g (grams_infix hx hg)
theorem ext_list (s : ByteArray) (a b : Nat) : (s.extract a b).data.toList = (s.data.toList.drop a).take (b - a) := by
  rw [ByteArray.data_extract]
  simp [List.drop_take]
theorem ext_infix (s : ByteArray) (a b : Nat) : List.IsInfix (s.extract a b).data.toList s.data.toList := by
  rw [ext_list]
  exact (List.take_prefix _ _).isInfix.trans (List.drop_suffix _ _).isInfix
theorem beg_infix {s p : ByteArray} (h : begS s p = true) : List.IsInfix p.data.toList s.data.toList := by
  have h := of_decide_eq_true h
  have h2 := ext_infix s 0 p.size
  rw [h.2] at h2
  exact h2
theorem end_infix {s p : ByteArray} (h : endS s p = true) : List.IsInfix p.data.toList s.data.toList := by
  have h := of_decide_eq_true h
  have h2 := ext_infix s (s.size - p.size) s.size
  rw [h.2] at h2
  exact h2
theorem has_infix {s p : ByteArray} (h : hasS s p = true) : List.IsInfix p.data.toList s.data.toList := by
  obtain ⟨i, _, h⟩ := List.any_eq_true.1 h
  have h := of_decide_eq_true h
  have h2 := ext_infix s i (i + p.size)
  rw [h.2] at h2
  exact h2
theorem cmp_zero {a b : ByteArray} (h : cmpS a b 0 = 0) : a = b := by
  unfold cmpS at h
  rw [if_neg (by decide), if_neg (by decide)] at h
  exact ByteArray.ext (Array.ext' (cmpL_zero h))
/-- what has strings in order, apart, has each of them -/
theorem hasL_infix : ∀ (ws : List (List UInt8)) (l : List UInt8), hasL ws l = true → ∀ r ∈ ws, List.IsInfix r l
  | [], _, _, r, hr => absurd hr List.not_mem_nil
  | w :: ws, l, h, r, hr => by
    rcases index_spec l w with ⟨h1, _⟩ | ⟨i, hi, h1, h2, _⟩
    · rw [has_none h1] at h
      cases h
    · rw [has_some h1] at h
      rcases List.mem_cons.1 hr with rfl | hr
      · unfold Lib.occAt at h2
        obtain ⟨z, hz⟩ := List.isPrefixOf_iff_prefix.1 h2
        exact ⟨l.take i, z, by rw [List.append_assoc, hz, List.take_append_drop]⟩
      · exact (hasL_infix ws _ h r hr).trans (List.drop_suffix _ _).isInfix
theorem runs_infix {p : List Nat} {l : List UInt8} (h : mat p l = true) {r : List UInt8} (hr : r ∈ runsL p) : List.IsInfix r l := by
  have h1 := has_runs p [] l h
  rw [List.nil_append] at h1
  exact hasL_infix _ _ h1 r hr
theorem bitI_one {b : Bool} : bitI b = 1 ↔ b = true := by cases b <;> simp [bitI]
/-- a column's value that is there stands in the column -/
theorem colL_there {rs : List (List Vl)} {r : List Vl} (hr : r ∈ rs) {k : Nat} {v : Vl} (hv : r[k]? = some v) (hn : v.null = false) : v.s ∈ colL rs k :=
  List.mem_filterMap.2 ⟨r, hr, by rw [hv, Option.bind_some, hn]; rfl⟩
/-- one without kids: where it is skipped, it says Yes of no value of the column -/
theorem leaf_none {kd co ec : Int} {s : ByteArray} {f : Fl} {l : List ByteArray} {v : Vl} (h : HoldsF f l) (hk : leafK kd co ec s f = true) (hv : v.null = false → v.s ∈ l) : valS kd co ec s v ≠ 1 := by
  intro hy
  unfold leafK at hk
  unfold valS at hy
  cases hn : v.null with
  | true =>
    rw [hn] at hy
    by_cases h11 : kd = 11
    · rw [if_neg (by omega), if_neg (by omega)] at hk
      cases hk
    · rw [if_neg h11, if_pos rfl] at hy
      cases hy
  | false =>
    have hm := hv hn
    rw [hn] at hy
    by_cases h11 : kd = 11
    · rw [if_pos h11] at hy
      cases hy
    · rw [if_neg h11, if_neg (by simp)] at hy
      by_cases hA : kd = 1 ∧ co = 0 ∨ 7 ≤ kd ∧ kd ≤ 9
      · rw [if_pos hA, Bool.not_eq_true'] at hk
        have hpart : List.IsInfix s.data.toList v.s.data.toList := by
          by_cases h7 : kd = 7
          · rw [if_pos h7] at hy
            exact beg_infix (bitI_one.1 hy)
          · rw [if_neg h7] at hy
            by_cases h8 : kd = 8
            · rw [if_pos h8] at hy
              exact end_infix (bitI_one.1 hy)
            · rw [if_neg h8] at hy
              by_cases h9 : kd = 9
              · rw [if_pos h9] at hy
                exact has_infix (bitI_one.1 hy)
              · have h1 : kd = 1 ∧ co = 0 := by omega
                rw [if_neg h9, if_neg (by omega)] at hy
                have h2 := of_decide_eq_true (bitI_one.1 hy)
                have h3 : cmpS v.s s co = 0 := by omega
                rw [h1.2] at h3
                rw [cmp_zero h3]
                exact List.infix_rfl
        rw [may_of h hm hpart] at hk
        cases hk
      · rw [if_neg hA] at hk
        by_cases h10 : kd = 10
        · rw [if_pos h10] at hk
          rw [if_neg (by omega), if_neg (by omega), if_neg (by omega), if_pos h10] at hy
          obtain ⟨r, hr, hr2⟩ := List.any_eq_true.1 hk
          rw [Bool.not_eq_true'] at hr2
          obtain ⟨x, hx, rfl⟩ := List.mem_map.1 hr
          rw [may_of h hm (x := ⟨x.toArray⟩) (by show List.IsInfix x.toArray.toList _; rw [List.toList_toArray]; exact runs_infix (bitI_one.1 hy) hx)] at hr2
          cases hr2
        · rw [if_neg h10] at hk
          cases hk
theorem count_true {l : List Pr} {f : Pr → Bool} : 0 < (l.map f).count true ↔ ∃ q ∈ l, f q = true := by
  rw [List.count_pos_iff, List.mem_map]
theorem count_all {l : List Pr} {f : Pr → Bool} (h : (l.map f).count true = l.length) : ∀ q ∈ l, f q = true := fun q hq => by
  have h2 := List.count_eq_length.1 (show (l.map f).count true = (l.map f).length by rw [h, List.length_map])
  exact (h2 _ (List.mem_map_of_mem hq)).symm
/-- And says Yes just where all kids do; Or just where one does -/
theorem head_and {l : List Int} : headS 12 (l.count 0) (l.count 1) (l.countP other) = 1 → ∀ x ∈ l, x = 1 := by
  intro h x hx
  unfold headS at h
  by_cases h0 : 0 < l.count 0
  · rw [if_pos (.inl ⟨rfl, h0⟩)] at h
    cases h
  · rw [if_neg (by omega)] at h
    by_cases hu : l.countP other = 0
    · have h1 : x ≠ 0 := fun e => h0 (List.count_pos_iff.2 (e ▸ hx))
      have h2 := List.countP_eq_zero.1 hu x hx
      unfold other at h2
      simp [h1] at h2
      exact h2
    · rw [if_neg (by omega)] at h
      cases h
theorem head_or {l : List Int} : headS 13 (l.count 0) (l.count 1) (l.countP other) = 1 → 1 ∈ l := by
  intro h
  unfold headS at h
  by_cases h1 : 0 < l.count 1
  · exact List.count_pos_iff.1 h1
  · split at h
    · cases h
    · rw [if_neg (by omega)] at h
      cases h
/-- of rows that are skipped a predicate says Yes of none -/
theorem skips_none {rs : List (List Vl)} {cols : Int} {fs : List Fl} (hrs : rowsP rs cols = true) (hfl : (fs.length : Int) = cols) (hfs : ∀ k (hk : k < fs.length), HoldsF fs[k] (colL rs k)) {r : List Vl} (hr : r ∈ rs) :
    ∀ (p : Pr) (deep : Int), rightP p cols deep = true → skipP p fs = true → saysP p r ≠ 1 := by
  refine Pr.ind fun p ih deep hp hk hy => ?_
  rw [skipP_eq] at hk
  rw [saysP_eq] at hy
  by_cases h12 : 12 ≤ p.kind
  · rw [if_pos h12] at hk hy
    obtain ⟨h14, _, h1, _, hq⟩ := rightP_head hp h12
    have hk := of_decide_eq_true hk
    rcases hk with ⟨e, hk⟩ | ⟨e, hk⟩
    · rw [e] at hy
      obtain ⟨q, hq1, hq2⟩ := count_true.1 hk
      exact ih q hq1 _ (hq q hq1) hq2 (head_and hy _ (List.mem_map_of_mem (f := fun q => saysP q r) hq1))
    · rw [e] at hy
      obtain ⟨q, hq1, hq2⟩ := List.mem_map.1 (head_or hy)
      exact ih q hq1 _ (hq q hq1) (count_all hk q hq1) hq2
  · rw [if_neg h12] at hk hy
    obtain ⟨_, h2, h3, _⟩ := rightP_leaf hp h12
    have hc : p.col.toNat < fs.length := by omega
    have hrl : (r.length : Int) = cols := ((rowsP_of hrs).2.2.2 r hr).1
    have hcr : p.col.toNat < r.length := by omega
    rw [List.getElem?_eq_getElem hc, Option.getD_some] at hk
    rw [List.getElem?_eq_getElem hcr, Option.getD_some] at hy
    exact leaf_none (hfs _ hc) hk (fun hn => colL_there hr (List.getElem?_eq_getElem hcr) hn) hy
/-- what stands in a string is had -/
theorem infix_has {s p : ByteArray} (h : List.IsInfix p.data.toList s.data.toList) : hasS s p = true := by
  obtain ⟨a, b, e⟩ := h
  have hl := congrArg List.length e
  have hp : p.data.toList.length = p.size := by simp
  have hs : s.data.toList.length = s.size := by simp
  rw [List.length_append, List.length_append, hp, hs] at hl
  refine hasS_true (i := a.length) (by omega) ?_
  refine ByteArray.ext (Array.ext' ?_)
  rw [ext_list, ← e, List.append_assoc, List.drop_left, Nat.add_sub_cancel_left, ← hp, List.take_left]
/-- a predicate that asks for a part, of the first column -/
def hasPr (x : ByteArray) : Pr := .mk 9 0 x 0 0 []
theorem says_has {x : ByteArray} {r : List Vl} {v : Vl} (hv : r[0]? = some v) : saysP (hasPr x) r = 1 ↔ v.null = false ∧ hasS v.s x = true := by
  rw [saysP_eq]
  show (if (12 : Int) ≤ 9 then _ else valS 9 0 0 x (r[0]?.getD _)) = 1 ↔ _
  rw [if_neg (by decide), hv, Option.getD_some]
  unfold valS
  rw [if_neg (by decide)]
  cases hn : v.null with
  | true => simp
  | false =>
    rw [if_neg (by simp), if_neg (by decide), if_neg (by decide), if_pos rfl, bitI_one]
    simp
/-- the grams of a string are those of its three bytes side by side -/
theorem grams_three {s : ByteArray} {g : Nat} (h : g ∈ gramsL s.data.toList) : ∃ i, i + 3 ≤ s.size ∧ gramsL (s.extract i (i + 3)).data.toList = [g] := by
  have hs : s.data.toList.length = s.size := by simp
  obtain ⟨k, hk, rfl⟩ := mem_gramsL.1 h
  refine ⟨k, by omega, ?_⟩
  have e3 : (s.data.toList.drop k).take 3 = [s.data.toList[k], s.data.toList[k + 1], s.data.toList[k + 2]] := by
    rw [List.drop_eq_getElem_cons (by omega), List.drop_eq_getElem_cons (show k + 1 < s.data.toList.length by omega), List.drop_eq_getElem_cons (show k + 1 + 1 < s.data.toList.length by omega)]
    rfl
  rw [ext_list, Nat.add_sub_cancel_left, e3]
  simp [gramsL, List.range_succ]
theorem three_grams {s : ByteArray} {i : Nat} (h : i + 3 ≤ s.size) : ∃ a b c, (s.extract i (i + 3)).data.toList = [a, b, c] ∧ gramN a b c ∈ gramsL s.data.toList := by
  have hs : s.data.toList.length = s.size := by simp
  have e3 : (s.data.toList.drop i).take 3 = [s.data.toList[i], s.data.toList[i + 1], s.data.toList[i + 2]] := by
    rw [List.drop_eq_getElem_cons (by omega), List.drop_eq_getElem_cons (show i + 1 < s.data.toList.length by omega), List.drop_eq_getElem_cons (show i + 1 + 1 < s.data.toList.length by omega)]
    rfl
  refine ⟨s.data.toList[i]'(by omega), s.data.toList[i + 1]'(by omega), s.data.toList[i + 2]'(by omega), ?_, mem_gramsL.2 ⟨i, by omega, rfl⟩⟩
  rw [ext_list, Nat.add_sub_cancel_left, e3]
/-- an exact filter of the first column may have a string just where each three bytes of it stand in some row's value -/
theorem exact_may {rs : List (List Vl)} {cols : Int} {e : Fc} (hrs : rowsP rs cols = true) (he : FlOf (colL rs 0) 0 e) (s : ByteArray) :
    mayP (toFl e) s = true ↔ ∀ i, i + 3 ≤ s.size → ∃ r ∈ rs, saysP (hasPr (s.extract i (i + 3))) r = 1 := by
  obtain ⟨h1, t, h2, h3, h4⟩ := he
  have hf : ∀ g, hasF (toFl e).b (toFl e).gs (toFl e).rs g = decide (g ∈ t) := fun g => by
    show hasF e.b e.gs e.rs g = _
    rw [h1, has_list, h3, gsM, if_pos rfl]
  unfold mayP
  rw [List.all_eq_true]
  constructor
  · intro hall i hi
    obtain ⟨a, b, c, e3, hg⟩ := three_grams hi
    have h5 := hall _ hg
    rw [hf, decide_eq_true_eq, h2.mem] at h5
    obtain ⟨y, hy, hgy⟩ := mem_allL.1 h5
    obtain ⟨z, hz, rfl⟩ := List.mem_map.1 hy
    obtain ⟨r, hr, h6⟩ := List.mem_filterMap.1 hz
    cases hv : r[0]? with
    | none => rw [hv] at h6; cases h6
    | some v =>
      rw [hv, Option.bind_some] at h6
      cases hn : v.null with
      | true => rw [hn] at h6; cases h6
      | false =>
        rw [hn] at h6
        have hvz : v.s = z := Option.some.inj h6
        refine ⟨r, hr, (says_has hv).2 ⟨hn, infix_has ?_⟩⟩
        rw [e3, hvz]
        exact (gram_stands _ _ _ _).1 hgy
  · intro hall g hg
    obtain ⟨i, hi, e3⟩ := grams_three hg
    obtain ⟨r, hr, h5⟩ := hall i hi
    have hrl : (r.length : Int) = cols := ((rowsP_of hrs).2.2.2 r hr).1
    have hc := (rowsP_of hrs).1
    have hv : r[0]? = some r[0] := List.getElem?_eq_getElem (by omega)
    obtain ⟨hn, hh⟩ := (says_has hv).1 h5
    rw [hf, decide_eq_true_eq, h2.mem]
    exact mem_allL.2 ⟨_, List.mem_map_of_mem (colL_there hr hv hn), grams_infix (has_infix hh) (by rw [e3]; exact List.mem_singleton_self _)⟩
theorem skip_has {fs : List Fl} {s : ByteArray} {f : Fl} (hf : fs[0]? = some f) : skipP (hasPr s) fs = !mayP f s := by
  rw [skipP_eq]
  show (if (12 : Int) ≤ 9 then _ else leafK 9 0 0 s (fs[0]?.getD _)) = _
  rw [if_neg (by decide), hf, Option.getD_some]
  unfold leafK
  rw [if_pos (by omega)]
/-- an And of which one kid is skipped is skipped -/
theorem skip_and {p q : Pr} {fs : List Fl} (h : skipP q fs = true) : skipP (.mk 12 0 ⟨#[]⟩ 0 0 [p, q]) fs = true := by
  rw [skipP_eq]
  show (if (12 : Int) ≤ 12 then headK 12 (([p, q].map fun q => skipP q fs).count true) 2 else _) = true
  rw [if_pos (by decide)]
  exact decide_eq_true (.inl ⟨rfl, count_true.2 ⟨q, by simp, h⟩⟩)
/-- No, Yes or Unknown -/
theorem head_three (kd : Int) (a b u : Nat) : headS kd a b u = 0 ∨ headS kd a b u = 1 ∨ headS kd a b u = 2 := by
  unfold headS
  split
  · exact .inl rfl
  · split
    · exact .inr (.inl rfl)
    · exact .inr (.inr rfl)
theorem bitI_three (b : Bool) : bitI b = 0 ∨ bitI b = 1 ∨ bitI b = 2 := by cases b <;> simp [bitI]
theorem says_three (p : Pr) (r : List Vl) : saysP p r = 0 ∨ saysP p r = 1 ∨ saysP p r = 2 := by
  rw [saysP_eq]
  split
  · exact head_three _ _ _ _
  · unfold valS
    split
    · exact bitI_three _
    split
    · exact .inr (.inr rfl)
    split
    · exact bitI_three _
    split
    · exact bitI_three _
    split
    · exact bitI_three _
    split
    · exact bitI_three _
    · exact bitI_three _
def notP (p : Pr) : Pr := .mk 14 0 ⟨#[]⟩ 0 0 [p]
def andP (p q : Pr) : Pr := .mk 12 0 ⟨#[]⟩ 0 0 [p, q]
def orP (p q : Pr) : Pr := .mk 13 0 ⟨#[]⟩ 0 0 [p, q]
theorem says_not (p : Pr) (r : List Vl) : saysP (notP p) r = headS 14 ([saysP p r].count 0) ([saysP p r].count 1) ([saysP p r].countP other) := by
  rw [saysP_eq]
  exact if_pos (show (12 : Int) ≤ 14 by decide)
theorem says_and (p q : Pr) (r : List Vl) : saysP (andP p q) r = headS 12 ([saysP p r, saysP q r].count 0) ([saysP p r, saysP q r].count 1) ([saysP p r, saysP q r].countP other) := by
  rw [saysP_eq]
  exact if_pos (show (12 : Int) ≤ 12 by decide)
theorem says_or (p q : Pr) (r : List Vl) : saysP (orP p q) r = headS 13 ([saysP p r, saysP q r].count 0) ([saysP p r, saysP q r].count 1) ([saysP p r, saysP q r].countP other) := by
  rw [saysP_eq]
  exact if_pos (show (12 : Int) ≤ 13 by decide)
theorem rule_notnot (p : Pr) (r : List Vl) : saysP (notP (notP p)) r = saysP p r := by
  rw [says_not, says_not]
  rcases says_three p r with h | h | h <;> rw [h] <;> decide
theorem rule_twice (p : Pr) (r : List Vl) : saysP (orP p p) r = saysP p r := by
  rw [says_or]
  rcases says_three p r with h | h | h <;> rw [h] <;> decide
theorem rule_morgan (p q : Pr) (r : List Vl) : saysP (notP (andP p q)) r = saysP (orP (notP p) (notP q)) r := by
  rw [says_not, says_and, says_or, says_not, says_not]
  rcases says_three p r with h | h | h <;> rcases says_three q r with k | k | k <;> rw [h, k] <;> decide
theorem rule_unknown (p : Pr) (r : List Vl) : decide (saysP p r = 2) = decide (saysP (notP p) r = 2) := by
  rw [says_not]
  rcases says_three p r with h | h | h <;> rw [h] <;> decide
/-- what is right is right where more depth is let -/
theorem right_mono : ∀ (p : Pr) (cols d d' : Int), rightP p cols d = true → d ≤ d' → rightP p cols d' = true := by
  refine Pr.ind fun p ih cols d d' h hd => ?_
  rw [rightP_eq] at h ⊢
  by_cases h0 : d < 1 ∨ p.kind < 1 ∨ 14 < p.kind
  · rw [if_pos h0] at h
    cases h
  · rw [if_neg h0] at h
    rw [if_neg (by omega)]
    by_cases h12 : 12 ≤ p.kind
    · rw [if_pos h12, Bool.and_eq_true, List.all_eq_true] at h ⊢
      exact ⟨h.1, fun q hq => ih q hq cols _ _ (h.2 q hq) (by omega)⟩
    · rw [if_neg h12] at h ⊢
      exact h
theorem right_head {kd : Int} {l : List Pr} {cols d : Int} (hk : 12 ≤ kd ∧ kd ≤ 14) (hl : 1 ≤ l.length ∧ l.length ≤ 16 ∧ (kd = 14 → l.length = 1)) (h : ∀ q ∈ l, rightP q cols d = true) (hd : 0 ≤ d) : rightP (.mk kd 0 ⟨#[]⟩ 0 0 l) cols (d + 1) = true := by
  rw [rightP_eq]
  show (if d + 1 < 1 ∨ kd < 1 ∨ 14 < kd then false else if 12 ≤ kd then decide (HeadOk kd 0 0 0 ⟨#[]⟩ l.length) && l.all (fun q => rightP q cols (d + 1 - 1)) else _) = true
  rw [if_neg (by omega), if_pos hk.1, Bool.and_eq_true, List.all_eq_true, decide_eq_true_eq]
  exact ⟨⟨rfl, rfl, rfl, rfl, hl.1, hl.2.1, hl.2.2⟩, fun q hq => by rw [show d + 1 - 1 = d by omega]; exact h q hq⟩
theorem right_not {p : Pr} {cols d : Int} (h : rightP p cols d = true) (hd : 0 ≤ d) : rightP (notP p) cols (d + 1) = true :=
  right_head (by omega) (by simp) (fun q hq => by rw [List.mem_singleton.1 hq]; exact h) hd
theorem right_two {kd : Int} {p q : Pr} {cols d : Int} (hk : kd = 12 ∨ kd = 13) (h : rightP p cols d = true) (h2 : rightP q cols d = true) (hd : 0 ≤ d) : rightP (.mk kd 0 ⟨#[]⟩ 0 0 [p, q]) cols (d + 1) = true :=
  right_head (by omega) (by simp; omega) (fun x hx => by
    rcases List.mem_cons.1 hx with rfl | hx
    · exact h
    · rw [List.mem_singleton.1 hx]; exact h2) hd
theorem right_has {s : ByteArray} {cols d : Int} (hs : s.size ≤ 4096) (hc : 1 ≤ cols) (hd : 1 ≤ d) : rightP (hasPr s) cols d = true := by
  rw [rightP_eq]
  show (if d < 1 ∨ (9 : Int) < 1 ∨ (14 : Int) < 9 then false else if (12 : Int) ≤ 9 then _ else decide (LeafOk 9 0 0 cols s 0) && if (9 : Int) = 10 then _ else decide ((0 : Int) = 0)) = true
  rw [if_neg (by omega), if_neg (by decide), if_neg (by decide), Bool.and_eq_true]
  exact ⟨decide_eq_true ⟨rfl, by omega, by omega, hs, by omega, by omega, by omega, by omega⟩, rfl⟩
theorem exact_all {l : List ByteArray} {e : Fc} (he : FlOf l 0 e) (x : ByteArray) : mayP (toFl e) x = (gramsL x.data.toList).all fun g => decide (g ∈ allL (bytG l)) := by
  obtain ⟨h1, t, h2, h3, h4⟩ := he
  unfold mayP
  congr 1
  funext g
  show hasF e.b e.gs e.rs g = _
  rw [h1, has_list, h3, gsM, if_pos rfl, decide_eq_decide]
  exact h2.mem g
theorem says_none {x s : ByteArray} {r : List Vl} (hv : r[0]? = some ⟨true, s⟩) : saysP (hasPr x) r = 2 := by
  rw [saysP_eq]
  show (if (12 : Int) ≤ 9 then _ else valS 9 0 0 x (r[0]?.getD _)) = 2
  rw [if_neg (by decide), hv, Option.getD_some]
  unfold valS
  rw [if_neg (by decide), if_pos rfl]
theorem right_none {x : ByteArray} {d : Int} : rightP (hasPr x) 0 d = false := by
  rw [rightP_eq]
  show (if d < 1 ∨ (9 : Int) < 1 ∨ (14 : Int) < 9 then false else if (12 : Int) ≤ 9 then _ else decide (LeafOk 9 0 0 0 x 0) && if (9 : Int) = 10 then _ else decide ((0 : Int) = 0)) = false
  split
  · rfl
  · rw [if_neg (by decide), Bool.and_eq_false_iff]
    exact .inl (decide_eq_false fun h => by have := h.2.2.1; omega)
theorem hasPr_ok {x : ByteArray} (hx : x.size ≤ 9223372036854775807) : PrOk (hasPr x) := ⟨hx, show I64 9 from ⟨by decide, by decide⟩, show I64 0 from ⟨by decide, by decide⟩, show I64 0 from ⟨by decide, by decide⟩, show I64 0 from ⟨by decide, by decide⟩⟩
theorem kin_nil (w : World) (lo hi : Nat) : Kin w lo hi [] none 0 := .mk [] none 0 (fun _ => none) (fun _ => 0) (Els.nil _ _ _ _ _) (fun j hj => absurd hj (Nat.not_lt_zero _)) (fun j hj => absurd hj (Nat.not_lt_zero _))
/-- a row of one value, laid for a law -/
theorem row_lit (w : World) (t : TypeId) (b : Bool) (s : ByteArray) (hs : s.size ≤ 9223372036854775807) : Row (w.alloc (.cells #[.bool b, .string s] t)) 0 (w.alloc (.cells #[.bool b, .string s] t)).heap.size (some ⟨w.heap.size, 0, none⟩) 1 [⟨b, s⟩] := by
  refine ⟨⟨by simp, by simp [maxLen], fun _ => ⟨w.heap.size, 0, rfl, Nat.zero_le _, by simp, fun j hj i hi => ?_⟩⟩, fun v hv => by rw [List.mem_singleton.1 hv]; exact hs⟩
  have hj0 : j = 0 := by simpa using hj
  subst hj0
  have h2 : i = 0 ∨ i = 1 := by omega
  rcases h2 with rfl | rfl
  · rw [World.cell?_alloc_at _ _ _ _ rfl]
    rfl
  · rw [World.cell?_alloc_at _ _ _ _ rfl]
    rfl
end Go.Proofs.YtjffbjlniieciaaDoor
