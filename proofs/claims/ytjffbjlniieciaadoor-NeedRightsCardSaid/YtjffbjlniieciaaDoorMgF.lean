/-
  Filters put behind filters.
  The document's Filters of layer 16.
  A row of filters of the call's own, as it lies; what Filters answers is right to be asked.
-/
import Derived.Test.YtjffbjlniieciaaDoorMgG
import Derived.Great.BuildSlice
import Derived.Maps.AppendAt
import Derived.KernelRfl
import Derived.Test.YtjffbjlniieciaaDoorMgK
import Derived.Test.YtjffbjlniieciaaDoorNdE
import Derived.Test.YtjffbjlniieciaaDoorStrA
namespace Go.Proofs.YtjffbjlniieciaaDoor
set_option linter.unusedSimpArgs false
set_option linter.unusedVariables false
open Go.RowKit

/-- a filter's three cells -/
structure Fc where
  b : Nat
  gs : List Nat
  rs : List Bool
  gA : Option Addr
  gc : Nat
  rA : Option Addr
  rc : Nat
def fcVals (e : Fc) : List Value := [.int .i64 (e.b : Int), .slice e.gA e.gs.length e.gc, .slice e.rA e.rs.length e.rc]
def fcs (es : List Fc) : List Value := es.flatMap fcVals
theorem fcs_snoc (es : List Fc) (e : Fc) : fcs (es ++ [e]) = fcs es ++ fcVals e := by simp [fcs]
theorem fc_one (e : Fc) : ∀ u ∈ fcVals e, u.oneCell' = true := by
  intro u hu
  simp only [fcVals, List.mem_cons, List.not_mem_nil, or_false] at hu
  rcases hu with rfl | rfl | rfl <;> rfl
theorem Tryd.infoFlt : (Tryd.prog.info? 55).map (fun i => (i.zero, i.size, i.bytes)) = some (some (.agg #[.int .i64 0, .slice none 0 0, .slice none 0 0]), 3, 56) := by kernel_rfl
/-- a list of one filter, laid -/
theorem wpList_buildFlt {ops : Array Oper} {rest : List Oper} {o : Oper} {a : Act} {w : World} {Q : Exit → Act → World → Prop} (e : Fc) (hg : o.guard = none) (x : Operand) (ho : o.op = .buildSlice 34 1 #[(0, x)]) (hx : a.eval x = .agg (fcVals e).toArray)
    (h : wpList Tryd.prog ops Q rest (a.put o.dst (.slice (some ⟨w.heap.size, 0, none⟩) 1 1)) (w.alloc (.cells (fcVals e).toArray 55))) : wpList Tryd.prog ops Q (o :: rest) a w := by
  obtain ⟨i0, hi0, hz0, hz1, hz2⟩ := info_parts Tryd.infoFlt
  refine wpList_buildSlice hg _ _ 1 _ ho (fcVals e).toArray i0 _ Tryd.underlying34 hi0 hz0 (by rw [hz1]; omega) (by rw [hz1]; omega) ?_ h
  have hf := Great.fill_whole (s := 3) (by omega) [.agg (fcVals e).toArray] ((Array.range (1 * 3)).map ((Value.agg #[.int .i64 0, .slice none 0 0, .slice none 0 0]).cells[· % (Value.agg #[.int .i64 0, .slice none 0 0, .slice none 0 0]).cells.size]!)) (fun u hu => by
    rw [List.mem_singleton.1 hu]
    rfl) (by simp)
  have e1 : ([Value.agg (fcVals e).toArray].flatMap fun u => u.cells.toList).toArray = (fcVals e).toArray := by
    show ((fcVals e).toArray.toList ++ []).toArray = (fcVals e).toArray
    rw [List.append_nil]
  rw [e1] at hf
  rw [hz1]
  simp only [List.map_toArray, List.map_cons, List.map_nil, hx]
  exact hf
/-- append of one filter that a new block holds -/
theorem wpList_push_flt {ops : Array Oper} {rest : List Oper} {o : Oper} {a : Act} {Q : Exit → Act → World → Prop} {w : World} {v : Value} {g : Nat} (base : Nat) (es : List Fc) (e : Fc) (hgd : o.guard = none) (s x : Operand)
    (ho : o.op = .call { callee := .builtin .append, args := #[s, x], argTypes := #[34, 34] }) (hty : o.type = 34)
    (hs : a.eval s = v) (hx : a.eval x = .slice (some ⟨g, 0, none⟩) 1 1) (hcells : ∀ j u, (fcVals e)[j]? = some u → w.cell? ⟨g, j, none⟩ = some u)
    (hown : w.ownsRow base 55 3 v es.length (fcs es)) (hb : es.length + 1 ≤ 1000000000) (hbase : base ≤ w.heap.size)
    (h : ∀ A' c' w', w'.ownsRow base 55 3 (.slice A' (es ++ [e]).length c') (es ++ [e]).length (fcs (es ++ [e])) → w.grownBy w' v.ownBlock → ((Value.slice A' (es ++ [e]).length c').ownBlock = v.ownBlock ∨ (Value.slice A' (es ++ [e]).length c').ownBlock = some w.heap.size) → wpList Tryd.prog ops Q rest (a.put o.dst (.slice A' (es.length + 1) c')) w') :
    wpList Tryd.prog ops Q (o :: rest) a w := by
  obtain ⟨i0, hi0, hz0, hz1, hz2⟩ := info_parts Tryd.infoFlt
  obtain ⟨v', w', hrun, h2, h3, _, h5⟩ := run_append_own_at (P := Tryd.prog) w base 34 34 55 i0 _ 3 56 Tryd.underlying34 hi0 hz0 hz1 hz2 rfl (by omega) v es.length (fcs es) hown ⟨g, 0, none⟩ 1 1 (fcVals e) rfl
    (fun j u hu => by
      have := hcells j u hu
      rwa [show (⟨g, j, none⟩ : Addr) = (⟨g, 0, none⟩ : Addr).add j from by unfold Addr.add; by_cases h0 : j = 0 <;> simp [h0]] at this) (fc_one e) (by simp only [maxLen]; omega) (by omega) hbase
  obtain ⟨A', c', rfl, _⟩ := own_form w' h2
  refine wpList_append_run hgd s x _ _ ho hs hx (by rw [hty]; exact hrun) (h A' c' w' ?_ h3 (by rw [List.length_append]; exact h5))
  rw [fcs_snoc, List.length_append]
  exact h2
/-- the filters of a row of the call's own, as they lie -/
theorem fcs_get {es : List Fc} {j i : Nat} (hj : j < es.length) (hi : i < 3) : (fcs es)[j * 3 + i]? = (fcVals es[j])[i]? := by
  induction es generalizing j with
  | nil => exact absurd hj (Nat.not_lt_zero _)
  | cons e es ih =>
    have h3 : (fcVals e).length = 3 := rfl
    rw [fcs, List.flatMap_cons]
    match j with
    | 0 =>
      rw [Nat.zero_mul, Nat.zero_add, List.getElem?_append_left (by omega)]
      rfl
    | j + 1 =>
      rw [List.getElem?_append_right (by omega), h3, show (j + 1) * 3 + i - 3 = j * 3 + i by omega]
      exact ih (by simpa using hj)
end Go.Proofs.YtjffbjlniieciaaDoor
namespace Go.Proofs.YtjffbjlniieciaaDoor
set_option linter.unusedSimpArgs false
set_option linter.unusedVariables false
open Go.RowKit

theorem own_kept {w w' : World} {base n size : Nat} {e : TypeId} {v : Value} {xs : List Value} (h : w.ownsRow base e size v n xs) (hb : Below w.heap.size w w') : w'.ownsRow base e size v n xs :=
  h.kept (row := none) (gb_below hb) (by cases v.ownBlock <;> simp)
/-- column k's values that are there -/
def colL (rs : List (List Vl)) (k : Nat) : List ByteArray := rs.filterMap fun r => (r[k]?).bind fun v => if v.null then none else some v.s
def gsM (b : Nat) (t : List Nat) : List Nat := if b = 0 then t else []
def rsM (b : Nat) (t : List Nat) : List Bool := if b = 0 then [] else setB b t
/-- a filter of strings -/
def FlOf (l : List ByteArray) (b : Nat) (e : Fc) : Prop := e.b = b ∧ ∃ t, Rise (allL (bytG l)) t ∧ e.gs = gsM b t ∧ e.rs = rsM b t
/-- a filter's lists lie between two blocks, no block of which is some row's -/
def Ly (w : World) (row : Option Nat) (e : Fc) : Prop := ∃ lo hi, Rd w lo hi e.gA e.gc (iv (ints e.gs)) ∧ Rd w lo hi e.rA e.rc (lv e.rs) ∧ hi ≤ w.heap.size ∧ ∀ q, row = some q → q < lo ∨ hi ≤ q
theorem Ly.step {w w' : World} {row row' : Option Nat} {e : Fc} (h : Ly w row e) (hg : w.grownBy w' row) (hr : row' = row ∨ row' = some w.heap.size) : Ly w' row' e := by
  obtain ⟨lo, hi, h1, h2, h3, h4⟩ := h
  refine ⟨lo, hi, h1.grown hg h3 h4, h2.grown hg h3 h4, Nat.le_trans h3 hg.size, fun q hq => ?_⟩
  rcases hr with hr | hr
  · rw [hr] at hq
    exact h4 q hq
  · rw [hr] at hq
    injection hq with hq
    subst hq
    exact .inr h3
theorem Ly.below {w w' : World} {row : Option Nat} {e : Fc} (h : Ly w row e) (hb : Below w.heap.size w w') : Ly w' row e := by
  obtain ⟨lo, hi, h1, h2, h3, h4⟩ := h
  exact ⟨lo, hi, h1.below hb h3, h2.below hb h3, Nat.le_trans h3 hb.size, h4⟩
theorem makeg_any {w : World} (l : List ByteArray) {c : Nat} {A : Option Addr} (h : Rd w 0 w.heap.size A c (sv l)) (hsz : ∀ s ∈ l, s.size ≤ 100000) (hlen : l.length ≤ 1000) (b : Nat) (hb : b ≤ 70000) :
    Calls Tryd.prog 30 #[.slice A l.length c, .int .i64 (b : Int)] w fun r w' => ∃ e : Fc, r = .returned (.agg (fcVals e).toArray) ∧ FlOf l b e ∧ Rd w' w.heap.size w'.heap.size e.gA e.gc (iv (ints e.gs)) ∧ Rd w' w.heap.size w'.heap.size e.rA e.rc (lv e.rs) ∧ Below w.heap.size w w' := by
  by_cases h0 : b = 0
  · subst h0
    refine (makeg_zero l h hsz hlen).mono ?_
    rintro r w' ⟨v, t, rfl, ht, ⟨A1, c1, B1, d1, rfl, h1, h2⟩, hb⟩
    exact ⟨⟨0, t, [], A1, c1, B1, d1⟩, rfl, ⟨rfl, t, ht, rfl, rfl⟩, h1, h2, hb⟩
  · refine (makeg_bits l h hsz hlen b (by omega) hb).mono ?_
    rintro r w' ⟨v, t, rfl, ht, ⟨A1, c1, B1, d1, rfl, h1, h2⟩, hb⟩
    exact ⟨⟨b, [], setB b t, A1, c1, B1, d1⟩, rfl, ⟨rfl, t, ht, by rw [gsM, if_neg h0], by rw [rsM, if_neg h0]⟩, h1, h2, hb⟩
theorem rowsP_of {rs : List (List Vl)} {cols : Int} (h : rowsP rs cols = true) : 1 ≤ cols ∧ cols ≤ 8 ∧ rs.length ≤ 100 ∧ ∀ r ∈ rs, (r.length : Int) = cols ∧ ∀ v ∈ r, v.s.size ≤ 100 := by
  rw [rowsP, Bool.and_eq_true, decide_eq_true_eq, List.all_eq_true] at h
  refine ⟨h.1.1, h.1.2.1, h.1.2.2, fun r hr => ?_⟩
  have := h.2 r hr
  rw [rowP, Bool.and_eq_true, decide_eq_true_eq, List.all_eq_true] at this
  exact ⟨this.1, fun v hv => (of_decide_eq_true (this.2 v hv)).1⟩
theorem colL_le (rs : List (List Vl)) (k : Nat) : (colL rs k).length ≤ rs.length := List.length_filterMap_le _ _
theorem colL_mem {rs : List (List Vl)} {k : Nat} {s : ByteArray} (h : s ∈ colL rs k) : ∃ r ∈ rs, ∃ v ∈ r, v.s = s := by
  obtain ⟨r, hr, h2⟩ := List.mem_filterMap.1 h
  cases hv : r[k]? with
  | none => rw [hv] at h2; cases h2
  | some v =>
    rw [hv, Option.bind_some] at h2
    split at h2
    · cases h2
    · exact ⟨r, hr, v, List.mem_of_getElem? hv, Option.some.inj h2⟩
theorem colL_take {rs : List (List Vl)} {k i : Nat} (hi : i < rs.length) (hk : k < rs[i].length) : colL (rs.take (i + 1)) k = colL (rs.take i) k ++ if rs[i][k].null then [] else [rs[i][k].s] := by
  rw [List.take_succ_eq_append_getElem hi, colL, List.filterMap_append]
  congr 1
  rw [List.filterMap_cons, List.getElem?_eq_getElem hk, Option.bind_some]
  by_cases h : rs[i][k].null = true
  · simp [h]
  · simp [h]

set_option maxRecDepth 20000 in
set_option maxHeartbeats 8000000 in
theorem filters_any {w : World} {lo hi c : Nat} {A : Option Addr} {rs : List (List Vl)} {rA : Nat → Option Addr} {rc : Nat → Nat} (h : Rows2 w lo hi A c rs rA rc) (hhi : hi ≤ w.heap.size) (cols : Nat) (hright : rowsP rs cols = true) (b : Nat) (hb : b ≤ 70000) :
    Calls Tryd.prog 17 #[.slice A rs.length c, .int .i64 (cols : Int), .int .i64 (b : Int)] w fun r w' => ∃ (es : List Fc) (A' : Option Addr) (c' : Nat), r = .returned (.slice A' es.length c') ∧ es.length = cols ∧ (∀ j (hj : j < es.length), FlOf (colL rs j) b es[j]) ∧
      w'.ownsRow w.heap.size 55 3 (.slice A' es.length c') es.length (fcs es) ∧ (∀ e ∈ es, Ly w' ((Value.slice A' es.length c').ownBlock) e) ∧ Below w.heap.size w w' := by
  obtain ⟨hl1, hl2⟩ := h.len
  obtain ⟨r1, r2, r3, hrr⟩ := rowsP_of hright
  have H := Lib.hid h
  have HRR := Lib.hid hrr
  clear h hrr hright
  go_enter Tryd.func17, Tryd.ntmps17
  go_wp2_with fail
  go_loopw [7, 8] (fun x7 x8 wr => ∃ (es : List Fc) (A' : Option Addr) (c' : Nat), es.length ≤ cols ∧ x8 = .int .i64 (es.length : Int) ∧ x7 = .slice A' es.length c' ∧ (∀ j (hj : j < es.length), FlOf (colL rs j) b es[j]) ∧
    wr.ownsRow w.heap.size 55 3 (.slice A' es.length c') es.length (fcs es) ∧ (∀ e ∈ es, Ly wr ((Value.slice A' es.length c').ownBlock) e) ∧ Below w.heap.size w wr) (fun _ x8 _ => cols - (intOf x8).toNat)
  case atStart => exact ⟨[], none, 0, Nat.zero_le _, rfl, rfl, fun j hj => absurd hj (Nat.not_lt_zero j), World.ownsRow_nil _ _ _ _, fun e he => (by cases he), Below.refl _ _⟩
  case round =>
    obtain ⟨es, A', c', hle, rfl, rfl, hfl, hown, hly, hb9⟩ := hrel
    obtain ⟨wy, hwy⟩ : ∃ wy, wy = wr := ⟨_, rfl⟩
    subst hwy
    have HFL := Lib.hid hfl
    have HO := Lib.hid hown
    have HLY := Lib.hid hly
    have HB := Lib.hid hb9
    have hsz := hb9.size
    clear hfl hown hly hb9
    by_cases hlt : es.length < cols
    · have ik : (es.length : Int) < (cols : Int) := by omega
      go_wp2_with fail
      go_loopw [9, 10] (fun x9 x10 wr => ∃ (i : Nat) (os : List ByteArray) (B : Option Addr) (d : Nat), i ≤ rs.length ∧ x10 = .int .i64 (i : Int) ∧ x9 = .slice B os.length d ∧ os = colL (rs.take i) es.length ∧ wr.ownsRow wy.heap.size 9 1 (.slice B os.length d) os.length (sv os) ∧ Below wy.heap.size wy wr) (fun _ x10 _ => rs.length - (intOf x10).toNat)
      case atStart => exact ⟨0, [], none, 0, Nat.zero_le _, rfl, rfl, rfl, World.ownsRow_nil _ _ _ _, Below.refl _ _⟩
      case round =>
        obtain ⟨i, os, B, d, hi2, rfl, rfl, hos, hown2, hbz⟩ := hrel
        obtain ⟨wz, hwz⟩ : ∃ wz, wz = wr := ⟨_, rfl⟩
        subst hwz
        have HOS := Lib.hid hos
        have HO2 := Lib.hid hown2
        have HBZ := Lib.hid hbz
        have hszz := hbz.size
        have hol : os.length ≤ 100 := by
          have := colL_le (rs.take i) es.length
          rw [← hos, List.length_take] at this
          omega
        clear hos hown2 hbz
        by_cases hit : i < rs.length
        · have ii : (i : Int) < (rs.length : Int) := by omega
          obtain ⟨bk, off, rfl, hlo, hbh, c0, hrow⟩ := (H.out.below (below_up HB.out HBZ.out hsz) hhi).get hit
          have hrl := (HRR.out rs[i] (List.getElem_mem hit)).1
          have hkl : es.length < rs[i].length := by omega
          have ikl : (es.length : Int) < (rs[i].length : Int) := by omega
          have HCT : Hid (colL (rs.take (i + 1)) es.length = colL (rs.take i) es.length ++ if rs[i][es.length].null then [] else [rs[i][es.length].s]) := colL_take hit hkl
          obtain ⟨b2, off2, hA2, hlo2, hbh2, d0, d1⟩ := hrow.get hkl
          rw [hA2] at c0
          generalize rs[i][es.length] = v at *
          clear hrow
          generalize rs[i].length = rl at *
          generalize rc i = rci at *
          obtain ⟨vn, vs⟩ := v
          simp only at d0 d1 HCT
          have hdd : b2 < wz.heap.size := by omega
          cases vn with
          | true =>
            have HC2 : Hid (os = colL (rs.take (i + 1)) es.length) := by unfold Hid; rw [HCT.out, ← HOS.out, if_pos rfl, List.append_nil]
            clear HCT
            go_wp2_with fail
            go_roundw
            case rel => exact ⟨i + 1, os, B, d, by omega, by go_num, rfl, HC2.out, HO2.out, HBZ.out⟩
            case measure => simp [intOf] <;> omega
          | false =>
            have HC2 : Hid (os ++ [vs] = colL (rs.take (i + 1)) es.length) := by unfold Hid; rw [HCT.out, ← HOS.out, if_neg Bool.false_ne_true]
            clear HCT
            go_wp2_with (at_builtin; refine wpList_push_str (v := .slice B os.length d) wy.heap.size os vs rfl _ _ rfl rfl rfl rfl (by rw [World.cell?_alloc_at _ _ _ _ rfl]; rfl) (HO2.out.alloc _) (by omega) (by simp; omega) ?_; intro A5 c5 w5 ho5 hg5)
            go_roundw
            case rel =>
              refine ⟨i + 1, os ++ [vs], A5, c5, by omega, by go_num, by rw [List.length_append]; rfl, HC2.out, ho5, ?_⟩
              exact (HBZ.out.alloc hszz _).grown hg5 (by simp; omega) (fun q hq => (own_lt HO2.out hq).1)
            case measure => simp [intOf] <;> omega
        · have ii : ¬ (i : Int) < (rs.length : Int) := by omega
          have hoc : os = colL rs es.length := by
            have := HOS.out
            rwa [List.take_of_length_le (by omega)] at this
          have HMK := Lib.hid (makeg_any os ((Rd.of_own HO2.out).wide (Nat.zero_le _) (Nat.le_refl _)) (fun s hs => by
            rw [hoc] at hs
            obtain ⟨r, hr, v, hv, rfl⟩ := colL_mem hs
            have := (HRR.out r hr).2 v hv
            omega) (by omega) b hb)
          have HOC := Lib.hid hoc
          clear hoc
          go_wp2_with fail
          refine HMK.out.mono ?_
          rintro r w3 ⟨e, rfl, hfo, hg3, hr3, q3⟩
          have HFO := Lib.hid hfo
          have HG3 := Lib.hid hg3
          have HR3 := Lib.hid hr3
          have HY3 := Lib.hid (below_up HBZ.out q3 hszz)
          have hs3 := q3.size
          have hs30 := HY3.out.size
          have HO3 := Lib.hid (own_kept HO.out HY3.out)
          clear hfo hg3 hr3 q3
          go_wp2_with (first | (refine wpList_buildFlt e rfl _ rfl rfl ?_) | (at_builtin; refine wpList_push_flt (v := .slice A' es.length c') w.heap.size es e rfl _ _ rfl rfl rfl rfl (fun j u hu => by rw [World.cell?_alloc_at _ _ _ _ rfl, List.getElem?_toArray]; exact hu) (HO3.out.alloc _) (by omega) (by simp; omega) ?_; intro A5 c5 w5 ho5 hg5 hq5))
          have HLN : Hid (∀ e' ∈ es ++ [e], Ly w5 ((Value.slice A5 (es ++ [e]).length c5).ownBlock) e') := fun e' he' => by
            refine Ly.step ?_ hg5 hq5
            rcases List.mem_append.1 he' with he' | he'
            · exact ((HLY.out e' he').below HY3.out).below ((Below.refl _ w3).alloc (Nat.le_refl _) _)
            · rw [List.mem_singleton.1 he']
              exact Ly.below ⟨wz.heap.size, w3.heap.size, HG3.out, HR3.out, Nat.le_refl _, fun q hq => .inl (by have := (own_lt HO.out hq).2; omega)⟩ ((Below.refl _ w3).alloc (Nat.le_refl _) _)
          have HFN : Hid (∀ j (hj : j < (es ++ [e]).length), FlOf (colL rs j) b (es ++ [e])[j]) := fun j hj => by
            rcases Nat.lt_or_ge j es.length with h1 | h1
            · rw [List.getElem_append_left h1]
              exact HFL.out j h1
            · have hj2 : j = es.length := by simp at hj; omega
              subst hj2
              rw [List.getElem_append_right (Nat.le_refl _)]
              simp only [Nat.sub_self, List.getElem_singleton]
              rw [← HOC.out]
              exact HFO.out
          have HBN : Hid (Below w.heap.size w w5) := ((below_up HB.out HY3.out hsz).alloc (by omega) _).grown hg5 (by simp; omega) (fun q hq => (own_lt HO3.out hq).1)
          have hln : (es ++ [e]).length = es.length + 1 := by simp
          clear hg5 hq5
          go_roundw
          case rel => exact ⟨es ++ [e], A5, c5, by omega, by rw [hln]; go_num, by rw [hln], HFN.out, ho5, HLN.out, HBN.out⟩
          case measure => simp [intOf] <;> omega
    · have ik : ¬ (es.length : Int) < (cols : Int) := by omega
      go_wp2_with fail
      go_ret
      exact ⟨es, A', c', rfl, by omega, HFL.out, HO.out, HLY.out, HB.out⟩
end Go.Proofs.YtjffbjlniieciaaDoor
namespace Go.Proofs.YtjffbjlniieciaaDoor
set_option linter.unusedSimpArgs false
set_option linter.unusedVariables false
open Go.RowKit

def toFl (e : Fc) : Fl := ⟨e.b, e.gs, e.rs⟩
theorem fls_of {w : World} {base c : Nat} {A : Option Addr} {t : TypeId} {row : Option Nat} {es : List Fc} (h : w.ownsRow base t 3 (.slice A es.length c) es.length (fcs es)) (hly : ∀ e ∈ es, Ly w row e) :
    Fls w 0 w.heap.size A c (es.map toFl) (fun j => (es[j]?.map Fc.gA).getD none) (fun j => (es[j]?.map Fc.gc).getD 0) (fun j => (es[j]?.map Fc.rA).getD none) (fun j => (es[j]?.map Fc.rc).getD 0) := by
  refine ⟨?_, fun j hj => ?_, fun j hj => ?_⟩
  · rcases h.2 with ⟨hv, hn⟩ | ⟨g, cap, cur, hv, hb, hg, hnc, hcm, hcs, htake⟩
    · injection hv with h1 h2 h3
      subst h1 h3
      have : es = [] := List.eq_nil_of_length_eq_zero hn
      subst this
      exact Els.nil _ _ _ _ _
    · injection hv with h1 h2 h3
      subst h1 h3
      refine ⟨by rw [List.length_map]; exact hnc, hcm, fun _ => ⟨g, 0, rfl, Nat.zero_le _, (Array.getElem?_eq_some_iff.1 hg).1, fun j hj i hi => ?_⟩⟩
      rw [List.length_map] at hj
      have hcell := fcs_get hj hi
      have h3 : (fcVals es[j]).length = 3 := rfl
      rw [List.getElem?_eq_getElem (show i < (fcVals es[j]).length by omega)] at hcell
      have := h.cells (g := g) (by simp [Value.ownBlock]) (j * 3 + i) _ hcell
      have e0 : ∀ m : Nat, (⟨g, 0, none⟩ : Addr).add m = ⟨g, m, none⟩ := fun m => by unfold Addr.add; by_cases h0 : m = 0 <;> simp [h0]
      have e := e0 (j * 3 + i)
      rw [e] at this
      rw [Nat.zero_add, this, List.getElem?_map, List.getElem?_eq_getElem hj, Option.map_some, Option.bind_some, ← List.getElem?_eq_getElem (show i < (fcVals es[j]).length by omega)]
      rfl
  · rw [List.length_map] at hj
    obtain ⟨lo, hi, h1, h2, h3, _⟩ := hly es[j] (List.getElem_mem hj)
    simp only [List.getElem?_eq_getElem hj, Option.map_some, Option.getD_some, List.getElem_map]
    exact h1.wide (Nat.zero_le _) h3
  · rw [List.length_map] at hj
    obtain ⟨lo, hi, h1, h2, h3, _⟩ := hly es[j] (List.getElem_mem hj)
    simp only [List.getElem?_eq_getElem hj, Option.map_some, Option.getD_some, List.getElem_map]
    exact h2.wide (Nat.zero_le _) h3
theorem flOf_ok {l : List ByteArray} {b : Nat} {e : Fc} (h : FlOf l b e) (hb : b ≤ 70000) : FlOk (toFl e) := by
  obtain ⟨h1, t, _, _, h4⟩ := h
  refine ⟨fun h0 => ?_, by show e.b ≤ _; omega⟩
  show e.rs.length = e.b
  have h0' : 0 < e.b := h0
  rw [h4, rsM, if_neg (by omega), setB_length, h1]
end Go.Proofs.YtjffbjlniieciaaDoor
