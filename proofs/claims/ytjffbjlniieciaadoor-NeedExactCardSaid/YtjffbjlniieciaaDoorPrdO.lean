/-
  Predicates, rows and lists of rows that came in.
-/
import Derived.Test.YtjffbjlniieciaaDoorRows
import Derived.Test.YtjffbjlniieciaaDoorPrdM
import Derived.KernelRfl
namespace Go.Proofs.YtjffbjlniieciaaDoor
set_option linter.unusedSimpArgs false
set_option linter.unusedVariables false
set_option maxRecDepth 100000
open Go.RowKit Go.ChangeShapes Go.WideShapes Go.ChangeAt

theorem i64_wf {z : Int} (h : (Lit.int .i64 z).wf = true) : I64 z := by
  simp [Lit.wf] at h
  unfold I64
  first | exact h | (constructor <;> omega) | (simp [IntKind.min, IntKind.max] at h; omega)

variable {H : Type} {enc : TypeId × Value → H} {W : World}
theorem prd_fuel : ∀ (fuel : Nat) (cs : List Value) (x : DataW H × List MemPlace), DataW.trod enc Tryd.prog W 0 (fun _ => true) true fuel 24 cs = some x →
    ∃ p A c, cs = prVals p A c ∧ PrOk p ∧ Kin W 0 W.heap.size p.kids A c := by
  intro fuel
  induction fuel using Nat.strongRecOn with
  | _ fuel ih =>
    intro cs x h
    obtain ⟨xs, n, rfl, rfl, hl, hlen, hf⟩ := DataW.trod_struct Tryd.underlying24 h
    have hl6 : cs.length = 6 := hl.trans (by kernel_rfl)
    have hx6 : xs.length = 6 := hlen
    have c1 : Tryd.prog.cellsOf 3 = 1 := by kernel_rfl
    have c2 : Tryd.prog.cellsOf 9 = 1 := by kernel_rfl
    have c3 : Tryd.prog.cellsOf 22 = 1 := by kernel_rfl
    have c6 : Tryd.prog.cellsOf 24 = 6 := by kernel_rfl
    match cs, hl6 with
    | [a0, a1, a2, a3, a4, a5], _ =>
      have h0 := hf 0 _ rfl
      have h1 := hf 1 _ rfl
      have h2 := hf 2 _ rfl
      have h3 := hf 3 _ rfl
      have h4 := hf 4 _ rfl
      have h5 := hf 5 _ rfl
      rw [List.getElem?_eq_getElem (by omega)] at h0 h1 h2 h3 h4 h5
      obtain ⟨z0, e0, _, w0⟩ := DataW.trod_int Tryd.underlying3 h0
      obtain ⟨z1, e1, _, w1⟩ := DataW.trod_int Tryd.underlying3 h1
      obtain ⟨s2, e2, _, w2⟩ := DataW.trod_string Tryd.underlying9 h2
      obtain ⟨z3, e3, _, w3⟩ := DataW.trod_int Tryd.underlying3 h3
      obtain ⟨z4, e4, _, w4⟩ := DataW.trod_int Tryd.underlying3 h4
      obtain ⟨A, c, css, m, hm, e5, hels, hcs⟩ := open_els Tryd.underlying22 c6 (by omega) h5
      simp [c1, c2, c3] at e0 e1 e2 e3 e4 e5
      subst e0 e1 e2 e3 e4 e5
      have hkids : ∀ j, j < css.length → ∃ q : Pr × Option Addr × Nat, css[j]? = some (prVals q.1 q.2.1 q.2.2) ∧ PrOk q.1 ∧ Kin W 0 W.heap.size q.1.kids q.2.1 q.2.2 := fun j hj => by
        obtain ⟨_, y, hy⟩ := hcs j hj
        obtain ⟨p, A', c', he, ho, hk⟩ := ih m (by omega) css[j] y hy
        exact ⟨(p, A', c'), by rw [List.getElem?_eq_getElem hj, he], ho, hk⟩
      obtain ⟨qs, hql, hqs⟩ := list_of hkids
      refine ⟨.mk z0 z1 s2 z3 z4 (qs.map (·.1)), A, c, ?_, ⟨w2, i64_wf w0, i64_wf w1, i64_wf w3, i64_wf w4⟩, ?_⟩
      · simp [prVals, Pr.kind, Pr.col, Pr.s, Pr.esc, Pr.coll, Pr.kids, hql]
      · show Kin W 0 W.heap.size (qs.map (·.1)) A c
        refine .mk _ A c (fun j => (qs[j]?).bind (·.2.1)) (fun j => ((qs[j]?).map (·.2.2)).getD 0) ?_ (fun j hj => ?_) (fun j hj => ?_)
        · rw [List.length_map, hql]
          refine ⟨hels.len, hels.cap, fun hp => ?_⟩
          obtain ⟨b, off, g1, g2, g3, g4⟩ := hels.lies hp
          refine ⟨b, off, g1, g2, g3, fun j hj i hi => (g4 j hj i hi).trans ?_⟩
          have hjq : j < qs.length := by omega
          have := (hqs j hjq).1
          simp [this, List.getElem?_eq_getElem hjq]
        · rw [List.length_map] at hj
          rw [List.getElem_map]
          exact (hqs j hj).2.1
        · rw [List.length_map] at hj
          simp only [List.getElem_map, List.getElem?_eq_getElem hj, Option.bind_some, Option.map_some, Option.getD_some]
          exact (hqs j hj).2.2

/-- a predicate that came in -/
theorem open_pred {b0 : Nat} {v : Value} {d : DataW H} {q : List MemPlace} (hok : Value.okWide Tryd.prog W .any b0 24 v) (h : DataW.Trod enc Tryd.prog W 0 (fun _ => true) true 24 v d q) :
    ∃ (A : Option Addr) (p : Pr) (c : Nat), v = .agg #[.int .i64 p.kind, .int .i64 p.col, .string p.s, .int .i64 p.esc, .int .i64 p.coll, .slice A p.kids.length c] ∧ PrOk p ∧ Kin W 0 W.heap.size p.kids A c := by
  obtain ⟨cs, rfl, _⟩ := okWide_struct Tryd.underlying24 hok
  obtain ⟨fuel, hf⟩ := h
  obtain ⟨p, A, c, he, ho, hk⟩ := prd_fuel fuel _ _ hf
  refine ⟨A, p, c, ?_, ho, hk⟩
  congr 1
  apply Array.toList_inj.1
  simpa [Value.cells, prVals] using he

theorem row_fuel {fuel : Nat} {cs : List Value} {x : DataW H × List MemPlace} (h : DataW.trod enc Tryd.prog W 0 (fun _ => true) true fuel 28 cs = some x) :
    ∃ A r c, cs = [.slice A r.length c] ∧ Row W 0 W.heap.size A c r := by
  have c1 : Tryd.prog.cellsOf 4 = 1 := by kernel_rfl
  have c2 : Tryd.prog.cellsOf 9 = 1 := by kernel_rfl
  have c6 : Tryd.prog.cellsOf 42 = 2 := by kernel_rfl
  obtain ⟨A, c, css, m, hm, e5, hels, hcs⟩ := open_els Tryd.underlying28 c6 (by omega) h
  have hv : ∀ j, j < css.length → ∃ v : Vl, css[j]? = some (vlVals v) ∧ v.s.size ≤ 9223372036854775807 := fun j hj => by
    obtain ⟨_, y, hy⟩ := hcs j hj
    obtain ⟨xs, n, rfl, rfl, hl, hlen, hf⟩ := DataW.trod_struct Tryd.underlying42 hy
    have hx2 : xs.length = 2 := hlen
    have h0 := hf 0 _ rfl
    have h1 := hf 1 _ rfl
    rw [List.getElem?_eq_getElem (by omega)] at h0 h1
    have hl2 : css[j].length = 2 := hl.trans (by kernel_rfl)
    obtain ⟨l, hle⟩ : ∃ l, css[j] = l := ⟨_, rfl⟩
    rw [hle] at hl2 h0 h1
    match l, hl2 with
    | [a0, a1], _ =>
      obtain ⟨z0, e0, _⟩ := DataW.trod_bool Tryd.underlying4 h0
      obtain ⟨s1, e1, _, w1⟩ := DataW.trod_string Tryd.underlying9 h1
      simp [c1, c2] at e0 e1
      subst e0 e1
      exact ⟨⟨z0, s1⟩, by rw [List.getElem?_eq_getElem hj, hle]; rfl, w1⟩
  obtain ⟨r, hrl, hr⟩ := list_of hv
  refine ⟨A, r, c, by rw [e5, hrl], ⟨?_, fun v hvm => ?_⟩⟩
  · rw [hrl]
    refine ⟨hels.len, hels.cap, fun hp => ?_⟩
    obtain ⟨b, off, g1, g2, g3, g4⟩ := hels.lies hp
    refine ⟨b, off, g1, g2, g3, fun j hj i hi => (g4 j hj i hi).trans ?_⟩
    have hjq : j < r.length := by omega
    have := (hr j hjq).1
    simp [this, List.getElem?_eq_getElem hjq]
  · obtain ⟨j, hj, rfl⟩ := List.getElem_of_mem hvm
    exact (hr j hj).2
/-- a row that came in -/
theorem open_row {b0 : Nat} {v : Value} {d : DataW H} {q : List MemPlace} (hok : Value.okWide Tryd.prog W .any b0 28 v) (h : DataW.Trod enc Tryd.prog W 0 (fun _ => true) true 28 v d q) :
    ∃ A r c, v = .slice A r.length c ∧ Row W 0 W.heap.size A c r := by
  obtain ⟨a0, l0, c0, rfl⟩ := okWide_slice Tryd.underlying28 hok
  obtain ⟨fuel, hf⟩ := h
  obtain ⟨A, r, c, he, hr⟩ := row_fuel hf
  simp [Value.cells] at he
  obtain ⟨rfl, rfl, rfl⟩ := he
  exact ⟨_, r, _, rfl, hr⟩
/-- rows that came in -/
theorem open_rows {b0 : Nat} {v : Value} {d : DataW H} {q : List MemPlace} (hok : Value.okWide Tryd.prog W .any b0 30 v) (h : DataW.Trod enc Tryd.prog W 0 (fun _ => true) true 30 v d q) :
    ∃ A rs c, v = .slice A rs.length c ∧ ∃ rA rc, Rows2 W 0 W.heap.size A c rs rA rc := by
  obtain ⟨a0, l0, c0, rfl⟩ := okWide_slice Tryd.underlying30 hok
  obtain ⟨fuel, hf⟩ := h
  have c1 : Tryd.prog.cellsOf 28 = 1 := by kernel_rfl
  obtain ⟨A, c, css, m, hm, e5, hels, hcs⟩ := open_els Tryd.underlying30 c1 (by omega) hf
  have hv : ∀ j, j < css.length → ∃ q : List Vl × Option Addr × Nat, css[j]? = some [.slice q.2.1 q.1.length q.2.2] ∧ Row W 0 W.heap.size q.2.1 q.2.2 q.1 := fun j hj => by
    obtain ⟨_, y, hy⟩ := hcs j hj
    obtain ⟨A', r, c', he, hr⟩ := row_fuel hy
    exact ⟨(r, A', c'), by rw [List.getElem?_eq_getElem hj, he], hr⟩
  obtain ⟨qs, hql, hqs⟩ := list_of hv
  refine ⟨A, qs.map (·.1), c, ?_, fun j => (qs[j]?).bind (·.2.1), fun j => ((qs[j]?).map (·.2.2)).getD 0, ⟨?_, fun j hj => ?_⟩⟩
  · simp [Value.cells] at e5
    obtain ⟨rfl, rfl, rfl⟩ := e5
    rw [List.length_map, hql]
  · rw [List.length_map, hql]
    refine ⟨hels.len, hels.cap, fun hp => ?_⟩
    obtain ⟨b, off, g1, g2, g3, g4⟩ := hels.lies hp
    refine ⟨b, off, g1, g2, g3, fun j hj i hi => (g4 j hj i hi).trans ?_⟩
    have hjq : j < qs.length := by omega
    have := (hqs j hjq).1
    simp [this, List.getElem?_eq_getElem hjq]
  · rw [List.length_map] at hj
    simp only [List.getElem_map, List.getElem?_eq_getElem hj, Option.bind_some, Option.map_some, Option.getD_some]
    exact (hqs j hj).2
end Go.Proofs.YtjffbjlniieciaaDoor
