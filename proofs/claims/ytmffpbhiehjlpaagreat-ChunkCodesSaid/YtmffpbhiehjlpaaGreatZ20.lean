/-
  A bag of strings, counted in a map, in plain.
  Strings cut: what is left of one behind a place.
  slices.BinarySearch of strings: the library's contract at this program's numbers.
  slices.BinarySearch of whatever rising strings.
  Strings sorted, cut to one each, the first 255: the table of them.
  The symbol package: Longest.
  The longest symbol at a string's beginning, as callers ask for it.
-/
import Derived.Test.YtmffpbhiehjlpaaGreatZ11
import Derived.Maps.Range
import Derived.Test.YtmffpbhiehjlpaaGreatZ02
import Derived.Shelf.Spec.SearchS
import Derived.Test.YtmffpbhiehjlpaaGreatRows
import Derived.Test.YtmffpbhiehjlpaaGreatZ00
import Derived.Test.YtmffpbhiehjlpaaGreatZ01
import Derived.Lib.SlicesCompact
import Derived.Test.YtmffpbhiehjlpaaGreatZ10
namespace Go.Proofs.YtmffpbhiehjlpaaGreat
set_option linter.unusedSimpArgs false
set_option linter.unusedVariables false
open Go.Maps
def zi (c : Int) : DataW Unit := .lit (.int .i64 c)
structure Bag (D : DataW Unit) (P : List (List UInt8)) : Prop where
  map : IsMap D
  at_ : ∀ x, D.atKey (.string x) (zi 0) = zi (P.count x : Nat)
  has : ∀ x, Maps.has D (.string x) = decide (x ∈ P)
theorem Bag.nil : Bag (.map []) [] := ⟨isMap_empty, fun _ => rfl, fun _ => rfl⟩
theorem Bag.count {D : DataW Unit} {P : List (List UInt8)} (h : Bag D P) {x : List UInt8} {c : Int} (hc : D.atKey (.string x) (.lit (.int .i64 0)) = .lit (.int .i64 c)) : c = (P.count x : Nat) := by
  have := (h.at_ x).symm.trans hc
  simp only [zi] at this
  injection this with this
  injection this with _ this
  exact this.symm
theorem Bag.put {D : DataW Unit} {P : List (List UInt8)} (h : Bag D P) (x : List UInt8) : Bag (D.put (.string x) (.lit (.int .i64 ((P.count x : Nat) + 1)))) (P ++ [x]) := by
  have hne : ∀ y, y ≠ x → (Lit.string y) ≠ Lit.string x := fun y hy e => hy (by injection e)
  refine ⟨h.map.put _ _, fun y => ?_, fun y => ?_⟩
  · by_cases hy : y = x
    · subst hy
      rw [atKey_put_same h.map (show WideAt.IsKeyLit (Lit.string y) from trivial)]
      unfold zi
      congr 2
      simp
    · rw [atKey_put_other (hne y hy), h.at_ y]
      unfold zi
      congr 2
      rw [List.count_append, List.count_singleton]
      have : (x == y) = false := beq_eq_false_iff_ne.2 (fun e => hy e.symm)
      rw [this]
      simp
  · by_cases hy : y = x
    · subst hy
      rw [has_put_same h.map (show WideAt.IsKeyLit (Lit.string y) from trivial)]
      simp
    · rw [has_put_other (hne y hy), h.has y]
      simp [hy]
theorem pieces_step (T : List (List UInt8)) (l : List UInt8) {a l0 e : Nat} (ha : a < l.length) (h0 : l0 ≤ a) (hlt : 0 < a → l0 < a) (he : stepP T (l.drop a) = e) :
    piecesL T ((l.take a).drop l0) (l.drop a) = (l.take (a + e)).drop a :: ((if 0 < a ∧ a + e - l0 ≤ 8 then [(l.take (a + e)).drop l0] else []) ++ piecesL T ((l.take (a + e)).drop a) (l.drop (a + e))) := by
  have hne : l.drop a ≠ [] := fun h => by
    have := congrArg List.length h
    simp at this
    omega
  have hp : (l.drop a).take e = (l.take (a + e)).drop a := by rw [List.drop_take, show a + e - a = e by omega]
  have hle := stepP_le (T := T) hne
  rw [he, List.length_drop] at hle
  rw [pieces_cons T _ hne, he, hp, List.drop_drop]
  have hlast : (l.take a).drop l0 ++ (l.take (a + e)).drop a = (l.take (a + e)).drop l0 := by
    have h1 : l.take (a + e) = l.take a ++ (l.take (a + e)).drop a := by
      conv => lhs; rw [← List.take_append_drop a (l.take (a + e))]
      rw [List.take_take, Nat.min_eq_left (by omega)]
    conv => rhs; rw [h1]
    rw [List.drop_append_of_le_length (by rw [List.length_take]; omega)]
  have hln : ((l.take a).drop l0).length = a - l0 := by rw [List.length_drop, List.length_take]; omega
  have hiff : ((l.take a).drop l0 ≠ [] ∧ ((l.take a).drop l0).length + e ≤ 8) ↔ (0 < a ∧ a + e - l0 ≤ 8) := by
    rw [hln]
    constructor
    · rintro ⟨h1, h2⟩
      have : 0 < a - l0 := by
        rw [← hln]
        exact List.length_pos_iff.2 h1
      omega
    · rintro ⟨h1, h2⟩
      have := hlt h1
      exact ⟨fun hx => by rw [hx] at hln; simp at hln; omega, by omega⟩
  rw [hlast]
  simp only [hiff]
end Go.Proofs.YtmffpbhiehjlpaaGreat
namespace Go.Proofs.YtmffpbhiehjlpaaGreat
set_option linter.unusedSimpArgs false
set_option linter.unusedVariables false
theorem tailS (s : ByteArray) (k : Nat) : (s.extract k s.size).data.toList = s.data.toList.drop k := by
  rw [ByteArray.data_extract, Array.toList_extract]
  rw [List.extract_eq_take_drop, List.take_of_length_le (by rw [List.length_drop, lenS]; omega)]
theorem dropS {s : ByteArray} {k : Nat} (h : k < s.size) : s.data.toList.drop k = s[k] :: s.data.toList.drop (k + 1) := by
  rw [List.drop_eq_getElem_cons (by rw [lenS]; exact h)]
  rfl
theorem str_etaU (u : ByteArray) : (⟨u.data.toList.toArray⟩ : ByteArray) = u := by
  rcases u with ⟨d⟩
  rfl
end Go.Proofs.YtmffpbhiehjlpaaGreat
namespace Go.Proofs.YtmffpbhiehjlpaaGreat
set_option maxRecDepth 100000
set_option linter.unusedSimpArgs false
set_option linter.unusedVariables false
open Go.RowKit
def ren2 : Go.Shelf.Ren := ⟨fun | 26 => 103 | 33 => 124 | 34 => 125 | 38 => 137 | n => n, fun | 0 => 0 | 3 => 3 | 4 => 4 | 9 => 9 | 24 => 37 | 40 => 115 | n => n, fun n => n⟩
theorem lays2_26 : Go.Proofs.Lays2.n26 Tryz.prog ren2 := {
  mixed := by kernel_rfl
  f26 := Tryz.func103.trans (congrArg some (by kernel_rfl))
  f33 := Tryz.func124.trans (congrArg some (by kernel_rfl))
  f34 := Tryz.func125.trans (congrArg some (by kernel_rfl))
  f38 := Tryz.func137.trans (congrArg some (by kernel_rfl))
  t0 := Tryz.underlying0
  a0 := Tryz.isAgg0
  z0 := Tryz.sizeOf0
  v0 := Tryz.zeroValue0
  t3 := Tryz.underlying3
  a3 := Tryz.isAgg3
  z3 := Tryz.sizeOf3
  v3 := Tryz.zeroValue3
  t4 := Tryz.underlying4
  a4 := Tryz.isAgg4
  z4 := Tryz.sizeOf4
  v4 := Tryz.zeroValue4
  t9 := Tryz.underlying9
  a9 := Tryz.isAgg9
  z9 := Tryz.sizeOf9
  v9 := Tryz.zeroValue9
  t24 := Tryz.underlying37
  a24 := Tryz.isAgg37
  z24 := Tryz.sizeOf37
  v24 := Tryz.zeroValue37
  t40 := Tryz.underlying115
  a40 := Tryz.isAgg115
  z40 := Tryz.sizeOf115
  v40 := Tryz.zeroValue115 }
end Go.Proofs.YtmffpbhiehjlpaaGreat
namespace Go.Proofs.YtmffpbhiehjlpaaGreat
set_option linter.unusedSimpArgs false
set_option linter.unusedVariables false
open Go.RowKit
theorem search_any {w : World} (l : List ByteArray) (x : ByteArray) {lo hi c n : Nat} {A : Option Addr} (h : Rd w lo hi A c (sv l)) (hr : risesL (bytL2 l) = true) (hn : l.length < 4611686018427387904) (hln : l.length = n) :
    Calls Tryz.prog 103 #[.slice A n c, .string x] w fun r w' => ∃ k, k ≤ n ∧ (∀ j (hj : j < l.length), j < k ↔ cmpL l[j].data.toList x.data.toList < 0) ∧ r = .returned (.tuple #[.int .i64 (k : Int), .bool (decide (l[k]? = some x))]) ∧ ∃ q, w' = w.drewN q := by
  subst hln
  by_cases h0 : l.length = 0
  · have hz : l = [] := List.eq_nil_of_length_eq_zero h0
    subst hz
    refine (Any2.slices_BinarySearch_string_empty lays2_26 A c x w).mono ?_
    rintro r w' ⟨rfl, rfl⟩
    exact ⟨0, Nat.le_refl _, fun j hj => by simp at hj, rfl, 0, rfl⟩
  · obtain ⟨b, off, rfl, -⟩ := h.str (k := 0) (by omega)
    have hc : ∀ j, j < l.length → w.cell? ⟨b, off + j, none⟩ = some (.string ((fun j => l.getD j x) j)) := fun j hj => by
      obtain ⟨b2, off2, he, _, _, hcell⟩ := h.str hj
      injection he with he
      injection he with he1 he2
      subst he1 he2
      rw [hcell]
      simp [List.getD, List.getElem?_eq_getElem hj]
    refine (Any2.slices_BinarySearch_string lays2_26 b off l.length c (fun j => l.getD j x) x w hn hc).mono ?_
    rintro r w' ⟨rfl, q, rfl⟩
    have hless : ∀ j (hj : j < l.length), Op.bytesLess (l.getD j x).toList x.toList = decide (cmpL l[j].data.toList x.data.toList < 0) := fun j hj => by
      rw [less_str]
      simp [List.getD, List.getElem?_eq_getElem hj]
    -- those below x are a head
    obtain ⟨k, hk, hkj⟩ : ∃ k, k ≤ l.length ∧ ∀ j (hj : j < l.length), j < k ↔ cmpL l[j].data.toList x.data.toList < 0 := by
      have hmono : ∀ i j (hij : i < j) (hj : j < l.length), cmpL l[j].data.toList x.data.toList < 0 → cmpL l[i].data.toList x.data.toList < 0 := fun i j hij hj hlt => by
        have h1 : i < (bytL2 l).length := by rw [bytL2_length]; omega
        have h2 : j < (bytL2 l).length := by rw [bytL2_length]; omega
        have hp : cmpL (bytL2 l)[i] (bytL2 l)[j] < 0 := by
          exact rises_at hr hij h2
        rw [bytL2_get l i (by omega), bytL2_get l j hj] at hp
        exact cmpL_lt_trans hp hlt
      have hex : ∀ m, m ≤ l.length → ∃ k, k ≤ m ∧ ∀ j (hj : j < l.length), j < m → (j < k ↔ cmpL l[j].data.toList x.data.toList < 0) := by
        intro m
        induction m with
        | zero => intro _; exact ⟨0, Nat.le_refl _, fun j _ h => absurd h (Nat.not_lt_zero j)⟩
        | succ m ih =>
          intro hm
          obtain ⟨k, hk, hkj⟩ := ih (by omega)
          by_cases hx : cmpL l[m].data.toList x.data.toList < 0
          · refine ⟨m + 1, Nat.le_refl _, fun j hj hjm => ⟨fun _ => ?_, fun _ => hjm⟩⟩
            by_cases e : j = m
            · subst e; exact hx
            · exact hmono j m (by omega) (by omega) hx
          · refine ⟨k, by omega, fun j hj hjm => ?_⟩
            by_cases e : j = m
            · subst e; exact ⟨fun h => by omega, fun h => absurd h hx⟩
            · exact hkj j hj (by omega)
      obtain ⟨k, hk, hkj⟩ := hex l.length (Nat.le_refl _)
      exact ⟨k, hk, fun j hj => hkj j hj hj⟩
    have hidx : Lib.bsGo (fun t => Op.bytesLess (l.getD t x).toList x.toList) l.length 0 l.length = k := by
      refine Lib.bsGo_spec _ k (fun t ht => ?_) (fun t ht => ?_) _ _ _ (by omega) (by omega) hk
      · rw [hless t (by omega)]
        exact decide_eq_true ((hkj t (by omega)).1 ht)
      · by_cases hl : t < l.length
        · rw [hless t hl]
          exact decide_eq_false fun h => by have := (hkj t hl).2 h; omega
        · have : l.getD t x = x := by simp [List.getD, List.getElem?_eq_none (Nat.le_of_not_lt hl)]
          rw [this, less_str, cmpL_same]
          rfl
    rw [hidx]
    refine ⟨k, hk, hkj, ?_, q, rfl⟩
    have hb : decide (k < l.length ∧ l.getD k x = x) = decide (l[k]? = some x) := by
      rw [decide_eq_decide]
      by_cases hl : k < l.length
      · simp [List.getD, List.getElem?_eq_getElem hl, hl]
      · simp [List.getElem?_eq_none (Nat.le_of_not_lt hl), hl]
    show Ending.returned (.tuple #[.int .i64 (k : Int), .bool (decide (k < l.length ∧ l.getD k x = x))]) = _
    rw [hb]
end Go.Proofs.YtmffpbhiehjlpaaGreat
namespace Go.Proofs.YtmffpbhiehjlpaaGreat
set_option linter.unusedSimpArgs false
set_option linter.unusedVariables false
open Go.RowKit
theorem lt_cmp : ∀ (a b : List UInt8), a < b ↔ cmpL a b < 0
  | [], [] => by simp [cmpL]
  | [], _ :: _ => by simp [cmpL]
  | _ :: _, [] => by simp [cmpL]
  | x :: a, y :: b => by
    have ih := lt_cmp a b
    rw [List.cons_lt_cons_iff, cmpL]
    by_cases h1 : x.toNat < y.toNat
    · rw [if_pos h1]
      exact ⟨fun _ => by decide, fun _ => .inl h1⟩
    · rw [if_neg h1]
      by_cases h2 : y.toNat < x.toNat
      · rw [if_pos h2]
        refine ⟨fun h => ?_, fun h => absurd h (by decide)⟩
        rcases h with h | ⟨h, _⟩
        · exact absurd h h1
        · subst h; omega
      · rw [if_neg h2]
        refine ⟨fun h => ?_, fun h => .inr ⟨UInt8.toNat_inj.1 (by omega), ih.2 h⟩⟩
        rcases h with h | ⟨_, h⟩
        · exact absurd h h1
        · exact ih.1 h
theorem le_cmp (a b : List UInt8) : a ≤ b ↔ cmpL a b ≤ 0 := by
  show (¬ b < a) ↔ _
  rw [lt_cmp, cmpL_turn a b]
  omega
theorem cmpL_le_trans {a b c : List UInt8} (h1 : cmpL a b ≤ 0) (h2 : cmpL b c ≤ 0) : cmpL a c ≤ 0 := by
  by_cases e1 : cmpL a b = 0
  · rw [cmpL_zero e1]; exact h2
  · by_cases e2 : cmpL b c = 0
    · rw [← cmpL_zero e2]; exact h1
    · have := cmpL_lt_trans (a := a) (b := b) (c := c) (by omega) (by omega)
      omega
theorem compact_inv (d : Array (List UInt8)) (hs : ∀ i j, i < j → j < d.size → cmpL d[i]! d[j]! ≤ 0) : ∀ m, m ≤ d.size →
    risesL (Lib.compactUpTo d m) = true ∧ (∀ x ∈ Lib.compactUpTo d m, ∃ j, j < m ∧ x = d[j]!) ∧ ∀ j, j < m → d[j]! ∈ Lib.compactUpTo d m
  | 0, _ => ⟨rfl, fun x hx => (by cases hx), fun j hj => absurd hj (Nat.not_lt_zero j)⟩
  | m + 1, hm => by
    obtain ⟨h1, h2, h3⟩ := compact_inv d hs m (by omega)
    rw [Lib.compactUpTo_succ]
    by_cases hk : Lib.keeps d m = true
    · rw [if_pos hk]
      have hk2 : m = 0 ∨ d[m]! ≠ d[m - 1]! := by simpa [Lib.keeps] using hk
      refine ⟨rises_push h1 fun x hx => ?_, fun x hx => ?_, fun j hj => ?_⟩
      · obtain ⟨j, hj, rfl⟩ := h2 x hx
        have hne : d[m]! ≠ d[m - 1]! := by
          rcases hk2 with h | h
          · omega
          · exact h
        have ha : cmpL d[j]! d[m - 1]! ≤ 0 := by
          by_cases e : j = m - 1
          · rw [e, cmpL_same]; omega
          · exact hs j (m - 1) (by omega) (by omega)
        have hb : cmpL d[m - 1]! d[m]! < 0 := by
          have h4 := hs (m - 1) m (by omega) (by omega)
          have h5 : cmpL d[m - 1]! d[m]! ≠ 0 := fun e => hne (cmpL_zero e).symm
          omega
        by_cases e : cmpL d[j]! d[m - 1]! = 0
        · rw [cmpL_zero e]; exact hb
        · exact cmpL_lt_trans (by omega) hb
      · rcases List.mem_append.1 hx with hx | hx
        · obtain ⟨j, hj, rfl⟩ := h2 x hx
          exact ⟨j, by omega, rfl⟩
        · exact ⟨m, by omega, List.mem_singleton.1 hx⟩
      · by_cases e : j = m
        · subst e; exact List.mem_append_right _ (List.mem_singleton.2 rfl)
        · exact List.mem_append_left _ (h3 j (by omega))
    · rw [if_neg hk, List.append_nil]
      have hk2 : ¬ (m = 0 ∨ d[m]! ≠ d[m - 1]!) := by simpa [Lib.keeps] using hk
      have hm0 : m ≠ 0 := fun e => hk2 (.inl e)
      have hme : d[m]! = d[m - 1]! := Decidable.not_not.1 fun e => hk2 (.inr e)
      refine ⟨h1, fun x hx => ?_, fun j hj => ?_⟩
      · obtain ⟨j, hj, rfl⟩ := h2 x hx
        exact ⟨j, by omega, rfl⟩
      · by_cases e : j = m
        · subst e; rw [hme]; exact h3 _ (by omega)
        · exact h3 j (by omega)
def sortL (l : List (List UInt8)) : List (List UInt8) := (l.filter okS).mergeSort fun x y => decide (x ≤ y)
theorem mem_sortL {l : List (List UInt8)} {s : List UInt8} : s ∈ sortL l ↔ s ∈ l ∧ okS s = true := by
  rw [sortL, List.mem_mergeSort, List.mem_filter]
theorem sortL_rises (l : List (List UInt8)) : ∀ i j, i < j → j < (sortL l).toArray.size → cmpL (sortL l).toArray[i]! (sortL l).toArray[j]! ≤ 0 := by
  have h := List.pairwise_mergeSort (le := fun x y : List UInt8 => decide (x ≤ y)) (fun a b c h1 h2 => by
    rw [decide_eq_true_eq, le_cmp] at *
    exact cmpL_le_trans h1 h2) (fun a b => by
    rw [Bool.or_eq_true, decide_eq_true_eq, decide_eq_true_eq, le_cmp, le_cmp, cmpL_turn a b]
    omega) (l.filter okS)
  intro i j hij hj
  rw [List.pairwise_iff_getElem] at h
  have hj' : j < (sortL l).length := by simpa using hj
  have := h i j (by show i < (sortL l).length; omega) hj' hij
  rw [decide_eq_true_eq, le_cmp] at this
  rw [getElem!_pos _ i (by simpa using Nat.lt_trans hij hj'), getElem!_pos _ j hj]
  exact this
def ordL (l : List (List UInt8)) : List (List UInt8) := (Lib.compact (sortL l)).take 255
theorem rises_take : ∀ {t : List (List UInt8)} (k : Nat), risesL t = true → risesL (t.take k) = true
  | [], k, _ => by simp [risesL]
  | a :: t, 0, _ => rfl
  | [a], k + 1, _ => by simp [risesL]
  | a :: b :: t, 1, _ => rfl
  | a :: b :: t, k + 2, h => by
    rw [List.take_succ_cons, List.take_succ_cons]
    have h2 := rises_take (k + 1) (rises_cons.1 h).2
    rw [List.take_succ_cons] at h2
    exact rises_cons.2 ⟨(rises_cons.1 h).1, h2⟩
theorem rises_parts : ∀ {p q : List (List UInt8)}, risesL (p ++ q) = true → ∀ x ∈ p, ∀ y ∈ q, cmpL x y < 0
  | [], _, _, x, hx, _, _ => by cases hx
  | a :: p, q, h, x, hx, y, hy => by
    rcases List.mem_cons.1 hx with rfl | hx
    · exact rises_head (t := p ++ q) h y (List.mem_append_right _ hy)
    · exact rises_parts (rises_tail (a := a) (t := p ++ q) h) x hx y hy
theorem ordL_is (l : List (List UInt8)) : IsOrder l (ordL l) := by
  obtain ⟨h1, h2, h3⟩ := compact_inv (sortL l).toArray (sortL_rises l) (sortL l).length (by simp)
  have hm : ∀ s, s ∈ Lib.compact (sortL l) ↔ s ∈ l ∧ okS s = true := fun s => by
    rw [← mem_sortL]
    constructor
    · intro h
      obtain ⟨j, hj, rfl⟩ := h2 s h
      rw [getElem!_pos _ j (by simpa using hj)]
      simp
    · intro h
      obtain ⟨j, hj, rfl⟩ := List.getElem_of_mem h
      have := h3 j hj
      rw [getElem!_pos _ j (by simpa using hj), List.getElem_toArray] at this
      exact this
  refine ⟨rises_take 255 h1, List.length_take_le _ _, fun x hx => (hm x).1 (List.mem_of_mem_take hx), fun s hs ho => ?_⟩
  have hin := (hm s).2 ⟨hs, ho⟩
  rw [← List.take_append_drop 255 (Lib.compact (sortL l))] at hin
  rcases List.mem_append.1 hin with h | h
  · exact .inl h
  · refine .inr ⟨?_, fun x hx => ?_⟩
    · have := List.length_pos_of_mem h
      rw [List.length_drop] at this
      show ((Lib.compact (sortL l)).take 255).length = 255
      rw [List.length_take]
      omega
    · refine rises_parts (p := (Lib.compact (sortL l)).take 255) (q := (Lib.compact (sortL l)).drop 255) ?_ x hx s h
      rw [List.take_append_drop]
      exact h1
end Go.Proofs.YtmffpbhiehjlpaaGreat
namespace Go.Proofs.YtmffpbhiehjlpaaGreat
set_option linter.unusedSimpArgs false
set_option linter.unusedVariables false
open Go.RowKit
def Yet (T : List (List UInt8)) (l : List UInt8) (n k : Nat) : Prop := ∀ j (hj : j < T.length), List.IsPrefix T[j] l → T[j].length ≤ n ∧ (T[j].length ≤ n → j < k)
theorem Yet.start {T : List (List UInt8)} {l : List UInt8} (h : ∀ t ∈ T, okS t = true) : Yet T l (min l.length 8) T.length := fun j hj hp => by
  have h1 := (okS_iff.1 (h _ (List.getElem_mem hj))).2
  have h2 := hp.length_le
  exact ⟨by omega, fun _ => hj⟩
theorem Yet.found {T : List (List UInt8)} {l : List UInt8} {n k i : Nat} (h : Yet T l n k) (hr : risesL T = true) (hi : i < T.length) (he : T[i] = l.take n) (h0 : 0 < n) (hn : n ≤ l.length) : longP T l = ((i : Int), n) := by
  have hl : (l.take n).length = n := by rw [List.length_take]; omega
  have := longP_is (s := l.take n) hr hi he (List.take_prefix _ _) (by omega) fun u hu hp => by
    obtain ⟨j, hj, rfl⟩ := List.getElem_of_mem hu
    have := (h j hj hp).1
    omega
  rw [hl] at this
  exact this
theorem Yet.next {T : List (List UInt8)} {l : List UInt8} {n k i : Nat} (h : Yet T l n k) (hk : k ≤ T.length) (hn : n ≤ l.length) (h0 : 0 < n) (hi : ∀ j (hj : j < T.length), j < k → (j < i ↔ cmpL T[j] (l.take n) < 0)) (hf : ∀ (hik : i < k), T[i]'(by omega) ≠ l.take n) (hr : risesL T = true) : Yet T l (n - 1) i := fun j hj hp => by
  obtain ⟨h1, h2⟩ := h j hj hp
  have h3 := h2 h1
  have h5 : T[j] = l.take T[j].length := by
    obtain ⟨r, hr⟩ := hp
    rw [← hr, List.take_left]
  have h4 : T[j].length ≠ n := fun e => by
    have he : T[j] = l.take n := by rw [← e]; exact h5
    -- then it stands at i
    have h6 : ¬ j < i := fun h7 => by
      have := (hi j hj h3).1 h7
      rw [he, cmpL_same] at this
      omega
    by_cases h8 : j = i
    · subst h8
      exact hf h3 he
    · have h9 : i < j := by omega
      have := rises_at hr h9 hj
      rw [he] at this
      have := (hi i (by omega) (by omega)).2 this
      omega
  refine ⟨by omega, fun _ => (hi j hj h3).2 ?_⟩
  rw [h5]
  exact cmpL_takes (by omega) hn
theorem Yet.none {T : List (List UInt8)} {l : List UInt8} {k : Nat} (h : Yet T l 0 k) : longP T l = (-1, 0) := longP_none fun u hu hp => by
  obtain ⟨j, hj, rfl⟩ := List.getElem_of_mem hu
  have := (h j hj hp).1
  omega
set_option maxRecDepth 20000 in
set_option maxHeartbeats 2000000 in
theorem slongest_any {w : World} (l : List ByteArray) (s : ByteArray) {lo hi c : Nat} {A : Option Addr} (h : Rd w lo hi A c (sv l)) (hr : rightT (bytL2 l) = true) (hs : s.size ≤ 9223372036854775807) :
    Calls Tryz.prog 83 #[.slice A l.length c, .string s] w fun r w' => r = .returned (.tuple #[.int .i64 (longP (bytL2 l) s.data.toList).1, .int .i64 ((longP (bytL2 l) s.data.toList).2 : Int)]) ∧ ∃ m, w' = w.drewN m := by
  have hl := h.len
  have hm := h.cap
  rw [sv_length] at hl
  unfold maxLen at hm
  obtain ⟨hl5, hok, hri⟩ := rightT_iff.1 hr
  rw [bytL2_length] at hl5
  have H := Lib.hid h
  have HRI := Lib.hid hri
  have hsl : s.data.toList.length = s.size := by rw [Array.length_toList]; rfl
  have HSL := Lib.hid hsl
  have HST := Lib.hid (Yet.start (l := s.data.toList) hok)
  rw [bytL2_length, hsl] at HST
  obtain ⟨V, hV⟩ : ∃ V, longP (bytL2 l) s.data.toList = V := ⟨_, rfl⟩
  rw [hV]
  have HV := Lib.hid hV
  clear h hr hok hri hsl hV
  obtain ⟨N, hN⟩ : ∃ N, min s.size 8 = N := ⟨_, rfl⟩
  have hN1 : N ≤ s.size := by omega
  have hN8 : N ≤ 8 := by omega
  have hNI : min (s.size : Int) 8 = (N : Int) := by omega
  rw [hN] at HST
  clear hN
  go_enter Tryz.func83, Tryz.ntmps83
  go_wp2_with fail
  go_loopw [0, 1] (fun x0 x1 wr => ∃ (n k m : Nat) (u : ByteArray), x0 = .slice A k c ∧ x1 = .string u ∧ u.data.toList = s.data.toList.take n ∧ u.size = n ∧ n ≤ N ∧ k ≤ l.length ∧ Yet (bytL2 l) s.data.toList n k ∧ wr = w.drewN m) (fun _ x1 _ => match x1 with | .string u => u.size | _ => 0)
  case atStart => exact ⟨N, l.length, 0, _, rfl, rfl, headS s N, by simp [ByteArray.size_extract]; omega, Nat.le_refl _, Nat.le_refl _, HST.out, rfl⟩
  case round =>
    clear HST
    obtain ⟨n, k, m, u, rfl, rfl, hu, hus, hn, hk, hy, rfl⟩ := hrel
    have HU := Lib.hid hu
    have HY := Lib.hid hy
    clear hu hy
    rcases Nat.eq_zero_or_pos n with hn0 | hn0
    · have hue : u = ⟨#[]⟩ := by
        have := HU.out
        rw [hn0, List.take_zero] at this
        rw [← str_eta u, this]
      have HVV : Hid (V = (-1, 0)) := by
        unfold Hid
        rw [← HV.out]
        have := HY.out
        rw [hn0] at this
        exact this.none
      clear hn hus hn0
      subst hue
      go_wp2_with fail
      go_ret2
      exact ⟨by rw [HVV.out]; rfl, m, rfl⟩
    · have hne : u.toList ≠ [] := fun e => by
        rw [Lib.toList_data] at e
        have h1 := congrArg List.length e
        rw [Array.length_toList] at h1
        have h2 : u.size = 0 := h1
        omega
      have hne2 : u.toList.isEmpty = false := by
        rw [List.isEmpty_eq_false_iff]
        exact hne
      clear hne
      have hkl : (l.take k).length = k := by rw [List.length_take]; omega
      have hri2 : risesL (bytL2 (l.take k)) = true := by
        have := rises_take k HRI.out
        rw [bytL2, List.map_take]
        exact this
      have HRT : Hid (∀ w' : World, w'.heap = w.heap → Rd w' lo hi A c (sv (l.take k))) := fun w' e => by
        rw [sv_take]
        exact (H.out.take_ k).keep fun p _ _ => by unfold World.cell?; rw [e]
      have HSE := Lib.hid (search_any (w := w.drewN m) (l.take k) u (HRT.out _ rfl) hri2 (by omega) hkl)
      clear hri2
      go_wp2_with fail
      refine HSE.out.mono ?_
      rintro r w1 ⟨i, hik, hij, rfl, m2, rfl⟩
      have hij' : ∀ j (hj : j < (bytL2 l).length), j < k → (j < i ↔ cmpL (bytL2 l)[j] (s.data.toList.take n) < 0) := fun j hj hjk => by
        rw [bytL2_length] at hj
        have := hij j (by rw [hkl]; exact hjk)
        simp only [List.getElem_take] at this
        rw [HU.out] at this
        rw [bytL2_get l j hj]
        exact this
      have HIJ := Lib.hid hij'
      clear hij hij'
      obtain ⟨f, hf⟩ : ∃ f, decide ((l.take k)[i]? = some u) = f := ⟨_, rfl⟩
      rw [hf]
      have HF := Lib.hid hf
      clear hf
      have hcut : n ≤ s.data.toList.length := by rw [HSL.out]; omega
      cases f with
      | true =>
        have hfe := of_decide_eq_true HF.out
        obtain ⟨hi1, hi2⟩ := List.getElem?_eq_some_iff.1 hfe
        rw [hkl] at hi1
        simp only [List.getElem_take] at hi2
        have HVV : Hid (V = ((i : Int), n)) := by
          unfold Hid
          rw [← HV.out]
          exact HY.out.found HRI.out (i := i) (by rw [bytL2_length]; omega) (by rw [bytL2_get l i (by omega), hi2]; exact HU.out) hn0 hcut
        clear hfe hi2 hcut
        go_wp2_with fail
        go_ret2
        exact ⟨by rw [HVV.out, ← hus]; rfl, m + m2, rfl⟩
      | false =>
        have HYN : Hid (Yet (bytL2 l) s.data.toList (n - 1) i) := by
          refine HY.out.next (by rw [bytL2_length]; exact hk) hcut hn0 HIJ.out (fun hik e => ?_) HRI.out
          have := of_decide_eq_false HF.out
          apply this
          rw [List.getElem?_take_of_lt hik, List.getElem?_eq_getElem (by omega)]
          congr 1
          rw [bytL2_get l i (by omega)] at e
          rw [← str_eta l[i], e, ← HU.out]
        have HUD : Hid ((u.extract 0 (n - 1)).data.toList = s.data.toList.take (n - 1)) := by
          unfold Hid
          rw [headS, HU.out, List.take_take]
          congr 1
          omega
        have hus2 : (u.extract 0 (n - 1)).size = n - 1 := by simp [ByteArray.size_extract]; omega
        have HUS := Lib.hid hus2
        clear hus2 hcut
        go_wp2_with fail
        go_roundw
        case rel => exact ⟨n - 1, i, m + m2, u.extract 0 (n - 1), rfl, by first | rfl | go_num, HUD.out, HUS.out, by omega, by omega, HYN.out, rfl⟩
        case measure => simp <;> omega
end Go.Proofs.YtmffpbhiehjlpaaGreat
namespace Go.Proofs.YtmffpbhiehjlpaaGreat
set_option linter.unusedSimpArgs false
set_option linter.unusedVariables false
open Go.RowKit
theorem fslong_any {w2 : World} (l : List ByteArray) (u : ByteArray) {lo hi c : Nat} {A : Option Addr} (h : Rd w2 lo hi A c (sv l)) (hr : rightT (bytL2 l) = true) (hs : u.size ≤ 9223372036854775807) (v : Int × Nat) (hv : longP (bytL2 l) u.data.toList = v) :
    Calls Tryz.prog 83 #[.slice A l.length c, .string u] w2 fun r w' => r = .returned (.tuple #[.int .i64 v.1, .int .i64 (v.2 : Int)]) ∧ ∃ m, w' = w2.drewN m := by
  rw [← hv]
  exact slongest_any l u h hr hs
end Go.Proofs.YtmffpbhiehjlpaaGreat
