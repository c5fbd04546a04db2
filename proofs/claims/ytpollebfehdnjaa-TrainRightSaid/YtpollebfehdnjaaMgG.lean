/-
  The best of what is counted, in plain: the first 255 of all, in the order of their gains.
  What is gained, as it lies in a row of the call's own; put behind, and sorted.
-/
import Derived.Test.YtpollebfehdnjaaTnC
import Derived.Test.YtpollebfehdnjaaTrN
import Derived.Test.YtpollebfehdnjaaSyM
import Derived.Test.YtpollebfehdnjaaOutM
import Derived.Great.BuildSlice
import Derived.Maps.AppendAt
import Derived.KernelRfl
import Derived.Sort.OwnSorted
namespace Go.Proofs.Ytpollebfehdnjaa
set_option linter.unusedSimpArgs false
set_option linter.unusedVariables false
open Go.Sort

theorem ltA (x y : ByteArray × Int) : ltOf aheadF x y = true ↔ (y.2 < x.2 ∨ (x.2 = y.2 ∧ cmpL x.1.data.toList y.1.data.toList < 0)) := by
  unfold ltOf aheadF or2 cmpI
  rw [decide_eq_true_iff]
  by_cases h1 : y.2 < x.2
  · rw [if_pos h1, if_neg (by omega)]
    constructor
    · intro _; exact Or.inl h1
    · intro _; omega
  · rw [if_neg h1]
    by_cases h2 : x.2 < y.2
    · rw [if_pos h2, if_neg (by omega)]
      constructor
      · intro h; omega
      · rintro (h | ⟨h, _⟩) <;> omega
    · rw [if_neg h2, if_pos rfl]
      constructor
      · intro h; exact Or.inr ⟨by omega, h⟩
      · rintro (h | ⟨_, h⟩)
        · omega
        · exact h
theorem ltA_not (x y : ByteArray × Int) : ltOf aheadF x y = false ↔ (x.2 < y.2 ∨ (x.2 = y.2 ∧ cmpL y.1.data.toList x.1.data.toList ≤ 0)) := by
  rw [← Bool.not_eq_true, ltA]
  have := cmpL_turn x.1.data.toList y.1.data.toList
  omega
theorem ltA_swo : SWO (ltOf aheadF) where
  irrefl x := by rw [ltA_not, cmpL_same]; omega
  trans x y z h1 h2 := by
    rw [ltA] at *
    rcases h1 with h1 | ⟨h1, k1⟩
    · rcases h2 with h2 | ⟨h2, k2⟩ <;> exact Or.inl (by omega)
    · rcases h2 with h2 | ⟨h2, k2⟩
      · exact Or.inl (by omega)
      · exact Or.inr ⟨by omega, cmpL_lt_trans k1 k2⟩
  ntrans x y z h1 h2 := by
    rw [ltA_not] at *
    rcases h1 with h1 | ⟨h1, k1⟩
    · rcases h2 with h2 | ⟨h2, k2⟩ <;> exact Or.inl (by omega)
    · rcases h2 with h2 | ⟨h2, k2⟩
      · exact Or.inl (by omega)
      · exact Or.inr ⟨by omega, cmpL_le_trans k2 k1⟩
theorem ltA_one (x y : ByteArray × Int) (h1 : ltOf aheadF x y = false) (h2 : ltOf aheadF y x = false) : x = y := by
  rw [ltA_not] at h1 h2
  have := cmpL_turn x.1.data.toList y.1.data.toList
  have e1 : x.2 = y.2 := by omega
  have e2 : x.1.data.toList = y.1.data.toList := cmpL_zero (by omega)
  rcases x with ⟨⟨⟨a⟩⟩, g⟩
  rcases y with ⟨⟨⟨b⟩⟩, k⟩
  simp only [] at e1 e2
  rw [e1, e2]
/-- in the order of their gains -/
def rankL (es : List (ByteArray × Int)) : List (ByteArray × Int) := es.mergeSort fun x y => !(ltOf aheadF) y x
theorem rank_perm (es : List (ByteArray × Int)) : (rankL es).Perm es := List.mergeSort_perm _ _
theorem rank_len (es : List (ByteArray × Int)) : (rankL es).length = es.length := (rank_perm es).length_eq
theorem rank_sorted (es : List (ByteArray × Int)) : (rankL es).Pairwise fun x y => ltOf aheadF y x = false := by
  have := List.pairwise_mergeSort (le := fun x y : ByteArray × Int => !(ltOf aheadF) y x) (fun a b c h1 h2 => by
    simp only [Bool.not_eq_true'] at *
    exact ltA_swo.ntrans _ _ _ h2 h1) (fun a b => by
    cases h : ltOf aheadF b a
    · rfl
    · cases h2 : ltOf aheadF a b
      · rfl
      · have := ltA_swo.trans _ _ _ h h2
        rw [ltA_swo.irrefl] at this
        cases this) es
  exact this.imp fun h => by simpa using h
def keyA (e : ByteArray × Int) : List UInt8 := e.1.data.toList
/-- what is gained, of the strings of a bag of which none is left -/
structure Coll (P : List (List UInt8)) (left : List UInt8 → Bool) (es : List (ByteArray × Int)) : Prop where
  once : (es.map keyA).Nodup
  mem : ∀ x, x ∈ es.map keyA ↔ (x ∈ P ∧ left x = false)
  gain : ∀ e ∈ es, e.2 = (gainL P (keyA e) : Nat)
theorem Coll.few {P : List (List UInt8)} {left : List UInt8 → Bool} {es : List (ByteArray × Int)} (h : Coll P left es) : es.length ≤ P.length := by
  have := h.once.length_le_of_subset (l₂ := P) fun x hx => ((h.mem x).1 hx).1
  rwa [List.length_map] at this
theorem Coll.nil {P : List (List UInt8)} {left : List UInt8 → Bool} (h : ∀ x ∈ P, left x = true) : Coll P left [] :=
  ⟨List.nodup_nil, fun x => ⟨fun hx => (by cases hx), fun ⟨h1, h2⟩ => (by rw [h x h1] at h2; cases h2)⟩, fun e he => (by cases he)⟩
theorem Coll.snoc {P : List (List UInt8)} {left : List UInt8 → Bool} {es : List (ByteArray × Int)} (h : Coll P left es) {e : ByteArray × Int} (hp : keyA e ∈ P) (hl : left (keyA e) = true) (hg : e.2 = (gainL P (keyA e) : Nat)) {left' : List UInt8 → Bool}
    (hl' : ∀ x, left' x = (left x && !decide (x = keyA e))) : Coll P left' (es ++ [e]) := by
  have hne : keyA e ∉ es.map keyA := fun hx => by
    have := ((h.mem _).1 hx).2
    rw [hl] at this
    cases this
  refine ⟨?_, fun x => ?_, fun f hf => ?_⟩
  · rw [List.map_append, List.nodup_append]
    refine ⟨h.once, by simp, fun a ha b hb => ?_⟩
    rw [List.map_singleton, List.mem_singleton] at hb
    subst hb
    exact fun e1 => hne (e1 ▸ ha)
  · rw [List.map_append, List.mem_append, h.mem, List.map_singleton, List.mem_singleton, hl']
    by_cases hx : x = keyA e
    · subst hx
      simp [hp]
    · simp [hx]
  · rcases List.mem_append.1 hf with hf | hf
    · exact h.gain f hf
    · rw [List.mem_singleton.1 hf]
      exact hg
theorem Coll.top {P : List (List UInt8)} {left : List UInt8 → Bool} {es : List (ByteArray × Int)} (h : Coll P left es) (hl : ∀ x ∈ P, left x = false) : TopOf P (((rankL es).take 255).map keyA) := by
  have hperm := rank_perm es
  have hnd : ((rankL es).map keyA).Nodup := (hperm.map keyA).nodup_iff.2 h.once
  have hsplit : (rankL es).take 255 ++ (rankL es).drop 255 = rankL es := List.take_append_drop _ _
  have hmem : ∀ e, e ∈ rankL es ↔ e ∈ es := fun e => hperm.mem_iff
  have hin : ∀ e ∈ es, keyA e ∈ P := fun e he => ((h.mem _).1 (List.mem_map.2 ⟨e, he, rfl⟩)).1
  refine ⟨?_, by rw [List.length_map, List.length_take]; omega, fun x hx => ?_, fun y hy hn => ?_⟩
  · rw [← hsplit, List.map_append] at hnd
    exact (List.nodup_append.1 hnd).1
  · obtain ⟨e, he, rfl⟩ := List.mem_map.1 hx
    exact hin e ((hmem e).1 (List.mem_of_mem_take he))
  · obtain ⟨e, he, rfl⟩ := List.mem_map.1 ((h.mem y).2 ⟨hy, hl y hy⟩)
    have he2 : e ∈ (rankL es).drop 255 := by
      have h1 := (hmem e).2 he
      rw [← hsplit] at h1
      rcases List.mem_append.1 h1 with h1 | h1
      · exact absurd (List.mem_map.2 ⟨e, h1, rfl⟩) hn
      · exact h1
    have hlen : 255 < (rankL es).length := by
      have := List.length_pos_of_mem he2
      rw [List.length_drop] at this
      omega
    refine ⟨by rw [List.length_map, List.length_take]; omega, fun x hx => ?_⟩
    obtain ⟨f, hf, rfl⟩ := List.mem_map.1 hx
    have hs := rank_sorted es
    rw [← hsplit, List.pairwise_append] at hs
    have h1 := hs.2.2 f hf e he2
    have hfe : f ∈ es := (hmem f).1 (List.mem_of_mem_take hf)
    have h2 : ltOf aheadF f e = true := by
      cases h3 : ltOf aheadF f e
      · exact absurd (ltA_one f e h3 h1 ▸ hx) hn
      · rfl
    rw [ltA] at h2
    rw [h.gain f hfe, h.gain e he] at h2
    unfold beats
    rcases h2 with h2 | ⟨h2, h4⟩
    · exact Or.inl (by omega)
    · exact Or.inr ⟨by omega, h4⟩
end Go.Proofs.Ytpollebfehdnjaa
namespace Go.Proofs.Ytpollebfehdnjaa
set_option linter.unusedSimpArgs false
set_option linter.unusedVariables false
open Go.RowKit Go.Sort Go.Shelf

def gvs (es : List (ByteArray × Int)) : List Value := es.flatMap gv
theorem gvs_snoc (es : List (ByteArray × Int)) (e : ByteArray × Int) : gvs (es ++ [e]) = gvs es ++ gv e := by simp [gvs]
theorem gvs_length (es : List (ByteArray × Int)) : (gvs es).length = es.length * 2 := by
  induction es with
  | nil => rfl
  | cons e es ih =>
    rw [gvs, List.flatMap_cons, List.length_append, List.length_cons]
    have : (es.flatMap gv).length = es.length * 2 := ih
    rw [this]
    show 2 + _ = _
    omega
theorem gv_one (e : ByteArray × Int) : ∀ u ∈ gv e, u.oneCell' = true := by
  intro u hu
  simp only [gv, List.mem_cons, List.not_mem_nil, or_false] at hu
  rcases hu with rfl | rfl <;> rfl
theorem gvs_get {es : List (ByteArray × Int)} {j i : Nat} (hj : j < es.length) (hi : i < 2) : (gvs es)[j * 2 + i]? = (gv es[j])[i]? := by
  induction es generalizing j with
  | nil => exact absurd hj (Nat.not_lt_zero _)
  | cons e es ih =>
    have h2 : (gv e).length = 2 := rfl
    rw [gvs, List.flatMap_cons]
    match j with
    | 0 =>
      rw [Nat.zero_mul, Nat.zero_add, List.getElem?_append_left (by omega)]
      rfl
    | j + 1 =>
      rw [List.getElem?_append_right (by omega), h2, show (j + 1) * 2 + i - 2 = j * 2 + i by omega]
      exact ih (by simpa using hj)
theorem flat_gvs (es : List (ByteArray × Int)) : flatK gv 2 es.toArray = (gvs es).toArray := by
  refine Array.ext (by simp [gvs_length]) fun t h1 h2 => ?_
  have ht : t < es.length * 2 := by simpa using h1
  have h3 := get_flatK gv 2 es.toArray t (by simpa using ht)
  rw [getElem!_pos _ t h1] at h3
  rw [h3]
  have hj : t / 2 < es.length := by omega
  have hg := gvs_get (es := es) (j := t / 2) (i := t % 2) hj (by omega)
  rw [show t / 2 * 2 + t % 2 = t by omega] at hg
  have h4 : (gvs es)[t]'(by rw [gvs_length]; exact ht) = (gv es[t / 2])[t % 2]'(by show _ < 2; omega) := by
    rw [List.getElem?_eq_getElem (by rw [gvs_length]; exact ht), List.getElem?_eq_getElem (by show _ < 2; omega)] at hg
    exact Option.some.inj hg
  have h5 : (es.toArray[t / 2]!) = es[t / 2] := by
    rw [getElem!_pos es.toArray (t / 2) (by simpa using hj)]
    simp
  rw [h5, getElem!_pos (gv es[t / 2]) (t % 2) (by show _ < 2; omega)]
  simp [h4]
theorem Try.infoGain : (Try.prog.info? 52).map (fun i => (i.zero, i.size, i.bytes)) = some (some (.agg #[.string ⟨#[]⟩, .int .i64 0]), 2, 24) := by kernel_rfl
/-- a list of one, laid -/
theorem wpList_buildGain {ops : Array Oper} {rest : List Oper} {o : Oper} {a : Act} {w : World} {Q : Exit → Act → World → Prop} (e : ByteArray × Int) (hg : o.guard = none) (x : Operand) (ho : o.op = .buildSlice 50 1 #[(0, x)]) (hx : a.eval x = .agg (gv e).toArray)
    (h : wpList Try.prog ops Q rest (a.put o.dst (.slice (some ⟨w.heap.size, 0, none⟩) 1 1)) (w.alloc (.cells (gv e).toArray 52))) : wpList Try.prog ops Q (o :: rest) a w := by
  obtain ⟨i0, hi0, hz0, hz1, hz2⟩ := info_parts Try.infoGain
  refine wpList_buildSlice hg _ _ 1 _ ho (gv e).toArray i0 _ Try.underlying50 hi0 hz0 (by rw [hz1]; omega) (by rw [hz1]; omega) ?_ h
  have hf := Great.fill_whole (s := 2) (by omega) [.agg (gv e).toArray] ((Array.range (1 * 2)).map ((Value.agg #[.string ⟨#[]⟩, .int .i64 0]).cells[· % (Value.agg #[.string ⟨#[]⟩, .int .i64 0]).cells.size]!)) (fun u hu => by
    rw [List.mem_singleton.1 hu]
    rfl) (by simp)
  have e1 : ([Value.agg (gv e).toArray].flatMap fun u => u.cells.toList).toArray = (gv e).toArray := by
    show ((gv e).toArray.toList ++ []).toArray = (gv e).toArray
    rw [List.append_nil]
  rw [e1] at hf
  rw [hz1]
  simp only [List.map_toArray, List.map_cons, List.map_nil, hx]
  exact hf
/-- append of one that a new block holds -/
theorem wpList_push_gain {ops : Array Oper} {rest : List Oper} {o : Oper} {a : Act} {Q : Exit → Act → World → Prop} {w : World} {v : Value} {g : Nat} (base : Nat) (es : List (ByteArray × Int)) (e : ByteArray × Int) (hgd : o.guard = none) (s x : Operand)
    (ho : o.op = .call { callee := .builtin .append, args := #[s, x], argTypes := #[50, 50] }) (hty : o.type = 50)
    (hs : a.eval s = v) (hx : a.eval x = .slice (some ⟨g, 0, none⟩) 1 1) (hcells : ∀ j u, (gv e)[j]? = some u → w.cell? ⟨g, j, none⟩ = some u)
    (hown : w.ownsRow base 52 2 v es.length (gvs es)) (hb : es.length + 1 ≤ 1000000000) (hbase : base ≤ w.heap.size)
    (h : ∀ A' c' w', w'.ownsRow base 52 2 (.slice A' (es ++ [e]).length c') (es ++ [e]).length (gvs (es ++ [e])) → w.grownBy w' v.ownBlock → ((Value.slice A' (es ++ [e]).length c').ownBlock = v.ownBlock ∨ (Value.slice A' (es ++ [e]).length c').ownBlock = some w.heap.size) → wpList Try.prog ops Q rest (a.put o.dst (.slice A' (es.length + 1) c')) w') :
    wpList Try.prog ops Q (o :: rest) a w := by
  obtain ⟨i0, hi0, hz0, hz1, hz2⟩ := info_parts Try.infoGain
  obtain ⟨v', w', hrun, h2, h3, _, h5⟩ := run_append_own_at (P := Try.prog) w base 50 50 52 i0 _ 2 24 Try.underlying50 hi0 hz0 hz1 hz2 rfl (by omega) v es.length (gvs es) hown ⟨g, 0, none⟩ 1 1 (gv e) rfl
    (fun j u hu => by
      have := hcells j u hu
      rwa [show (⟨g, j, none⟩ : Addr) = (⟨g, 0, none⟩ : Addr).add j from by unfold Addr.add; by_cases h0 : j = 0 <;> simp [h0]] at this) (gv_one e) (by simp only [maxLen]; omega) (by omega) hbase
  obtain ⟨A', c', rfl, _⟩ := own_form w' h2
  refine wpList_append_run hgd s x _ _ ho hs hx (by rw [hty]; exact hrun) (h A' c' w' ?_ h3 (by rw [List.length_append]; exact h5))
  rw [gvs_snoc, List.length_append]
  exact h2

theorem holds_row {w : World} {g : Nat} {cur : Array Value} {e : TypeId} {vs : List Value} (hb : w.heap[g]? = some (.cells cur e (0, 0))) (ht : cur.toList.take vs.length = vs) : Holds id w g 0 vs.toArray := by
  intro j hj
  have hj' : j < vs.length := by simpa using hj
  refine ⟨?_, by simp [World.frozen?, hb]⟩
  have h1 : (cur.toList.take vs.length)[j]? = vs[j]? := by rw [ht]
  rw [List.getElem?_take_of_lt hj'] at h1
  simp only [World.cell?, hb, Nat.zero_add]
  simp only [Option.isSome_none, Bool.false_eq_true, if_false]
  rw [← Array.getElem?_toList, h1]
  simp [hj']
theorem heap_row {w : World} {g n : Nat} {os : Array Obj} {cur : Array Value} {e : TypeId} {fr : Nat × Nat} (d : Array Value) (hb : w.heap[g]? = some (.cells cur e fr)) :
    (grow (putRow id (Sort.ahead w n) g 0 d) os).heap[g]? = some (.cells (putCells id 0 d cur) e fr) := by
  have hg : g < w.heap.size := (Array.getElem?_eq_some_iff.1 hb).1
  rw [heap_grow_old _ _ (by simpa using hg)]
  simp [putRow, mapBlock, Sort.ahead, Array.getElem?_modify, hb, onCells]
theorem grownBy_row {w : World} {g n : Nat} {os : Array Obj} (d : Array Value) : w.grownBy (grow (putRow id (Sort.ahead w n) g 0 d) os) (some g) := by
  refine ⟨rfl, rfl, rfl, by simp, fun k hk hne => ?_⟩
  rw [heap_grow_old _ _ (by simpa using hk)]
  have : g ≠ k := fun e => hne (by rw [e])
  simp [putRow, mapBlock, Sort.ahead, Array.getElem?_modify, this]
theorem take_row (cur : Array Value) (vs : List Value) (h : vs.length ≤ cur.size) : (putCells id 0 vs.toArray cur).toList.take vs.length = vs := by
  apply List.ext_getElem?
  intro j
  by_cases hj : j < vs.length
  · rw [List.getElem?_take_of_lt hj, Array.getElem?_toList]
    simp [putCells, hj, show j < cur.size by omega]
  · rw [List.getElem?_take_eq_none (by omega), List.getElem?_eq_none (by omega)]

/-- slices.SortFunc of what is gained -/
theorem sortg_own {w : World} {base : Nat} {v : Value} (es : List (ByteArray × Int)) (h : w.ownsRow base 52 2 v es.length (gvs es)) (hn : es.length < 4611686018427387904) :
    Calls Try.prog 33 #[v, .func (.func 34) #[] #[]] w fun r w' => r = .returned (.tuple #[]) ∧ w'.ownsRow base 52 2 v es.length (gvs (rankL es)) ∧ w.grownBy w' v.ownBlock := by
  rcases h.2 with ⟨rfl, h0⟩ | ⟨g, cap, cur, rfl, hbase, hb, h1, h2, h3, h4⟩
  · have hz : es = [] := List.eq_nil_of_length_eq_zero h0
    subst hz
    have hc := AnyF.slices_SortFunc_none gslays none 0 (.func (.func 34) #[] #[]) w
    refine hc.mono ?_
    rintro r w' ⟨rfl, rfl⟩
    have hr : rankL [] = [] := List.eq_nil_of_length_eq_zero (rank_len [])
    exact ⟨rfl, by rw [hr]; exact h, gb_refl _ _⟩
  · have eg : ∀ args w, (callFunc 34 args).run Try.prog w = .ok (.enter 34 args) w := enters_of Try.func34 (by kernel_rfl) rfl
    have ht : cur.toList.take (gvs es).length = gvs es := by rw [gvs_length]; exact h4
    have hH : HoldsK gv 2 w g 0 es.toArray := by
      unfold HoldsK
      rw [flat_gvs]
      exact holds_row hb ht
    have hc := AnyQ.slices_SortFunc_total gslays 2 Try.isAgg52 Try.sizeOf52 gv (fun _ => rfl) gv_one aheadF ltA_swo 34 #[] g 0 cap es.toArray w eg
      (fun m os dk _ x y => ahead_any x y _) hH (Array.getElem?_eq_some_iff.1 hb).1 (by simpa using hn) ltA_one
    refine Calls.mono hc ?_
    rintro r w' ⟨rfl, n, os, rfl⟩
    have hrk : (es.toArray.toList.mergeSort fun x y => !(ltOf aheadF) y x).toArray = (rankL es).toArray := rfl
    have hw : sortWorldK gv 2 w g 0 n (rankL es).toArray os = grow (putRow id (Sort.ahead w n) g 0 (gvs (rankL es)).toArray) os := by
      unfold sortWorldK putRowK
      rw [flat_gvs]
    rw [hrk, hw]
    have hl : (gvs (rankL es)).length = es.length * 2 := by rw [gvs_length, rank_len]
    refine ⟨rfl, ⟨hl, .inr ⟨g, cap, _, rfl, hbase, heap_row _ hb, h1, h2, by simp [putCells, h3], ?_⟩⟩, grownBy_row _⟩
    rw [← hl]
    exact take_row cur _ (by rw [hl, h3]; omega)
end Go.Proofs.Ytpollebfehdnjaa
