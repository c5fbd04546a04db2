/-
  Predicates, and values: in plain, and as they lie in memory. No program is named here.
-/
import Derived.Test.YtjffbjlniieciaaDoorElsM
import Derived.Test.YtjffbjlniieciaaDoorStrM
namespace Go.Proofs.YtjffbjlniieciaaDoor
set_option linter.unusedSimpArgs false
set_option linter.unusedVariables false
open Go.RowKit

/-- a predicate -/
inductive Pr where
  | mk (kind col : Int) (s : ByteArray) (esc coll : Int) (kids : List Pr)
def Pr.kind : Pr → Int | .mk k _ _ _ _ _ => k
def Pr.col : Pr → Int | .mk _ c _ _ _ _ => c
def Pr.s : Pr → ByteArray | .mk _ _ s _ _ _ => s
def Pr.esc : Pr → Int | .mk _ _ _ e _ _ => e
def Pr.coll : Pr → Int | .mk _ _ _ _ c _ => c
def Pr.kids : Pr → List Pr | .mk _ _ _ _ _ l => l
theorem Pr.kid_lt {p q : Pr} (h : q ∈ p.kids) : SizeOf.sizeOf q < SizeOf.sizeOf p := by
  cases p with
  | mk k c s e o l =>
    have := List.sizeOf_lt_of_mem (show q ∈ l from h)
    simp only [Pr.mk.sizeOf_spec]
    omega
/-- induction by kids -/
theorem Pr.ind {Q : Pr → Prop} (h : ∀ p, (∀ q ∈ p.kids, Q q) → Q p) : ∀ p, Q p := by
  intro p
  generalize hn : SizeOf.sizeOf p = n
  induction n using Nat.strongRecOn generalizing p with
  | _ n ih => exact h p fun q hq => ih (SizeOf.sizeOf q) (hn ▸ Pr.kid_lt hq) q rfl
def I64 (z : Int) : Prop := -9223372036854775808 ≤ z ∧ z ≤ 9223372036854775807
structure PrOk (p : Pr) : Prop where
  s : p.s.size ≤ 9223372036854775807
  kind : I64 p.kind
  col : I64 p.col
  esc : I64 p.esc
  coll : I64 p.coll
/-- its six cells, the kids lying at A -/
def prVals (p : Pr) (A : Option Addr) (c : Nat) : List Value := [.int .i64 p.kind, .int .i64 p.col, .string p.s, .int .i64 p.esc, .int .i64 p.coll, .slice A p.kids.length c]
/-- these predicates lie at A -/
inductive Kin (w : World) (lo hi : Nat) : List Pr → Option Addr → Nat → Prop
  | mk (l : List Pr) (A : Option Addr) (c : Nat) (kA : Nat → Option Addr) (kc : Nat → Nat) (he : Els w lo hi A c 6 l.length (fun j i => (l[j]?).bind fun p => (prVals p (kA j) (kc j))[i]?))
      (ho : ∀ j (hj : j < l.length), PrOk l[j]) (hk : ∀ j (hj : j < l.length), Kin w lo hi l[j].kids (kA j) (kc j)) : Kin w lo hi l A c
theorem Kin.kept {w w' : World} {lo hi B : Nat} (hb : Below B w w') (hB : hi ≤ B) {l : List Pr} {A : Option Addr} {c : Nat} (h : Kin w lo hi l A c) : Kin w' lo hi l A c := by
  induction h with
  | mk l A c kA kc he ho hk ih => exact .mk l A c kA kc (he.below hb hB) ho ih
theorem Kin.drewN {w : World} {lo hi : Nat} {l : List Pr} {A : Option Addr} {c : Nat} (h : Kin w lo hi l A c) (m : Nat) : Kin (w.drewN m) lo hi l A c := by
  induction h with
  | mk l A c kA kc he ho hk ih => exact .mk l A c kA kc (he.keep fun _ _ _ => rfl) ho ih
theorem Kin.wide {w : World} {lo hi lo' hi' : Nat} {l : List Pr} {A : Option Addr} {c : Nat} (h1 : lo' ≤ lo) (h2 : hi ≤ hi') (h : Kin w lo hi l A c) : Kin w lo' hi' l A c := by
  induction h with
  | mk l A c kA kc he ho hk ih => exact .mk l A c kA kc (he.wide h1 h2) ho ih
theorem Kin.len {w : World} {lo hi : Nat} {l : List Pr} {A : Option Addr} {c : Nat} (h : Kin w lo hi l A c) : l.length ≤ c ∧ c ≤ 9223372036854775807 := by
  cases h with
  | mk l A c kA kc he ho hk => exact ⟨he.len, by have := he.cap; simpa [maxLen] using this⟩
/-- one kid: where it lies, its cells, its own kids -/
theorem Kin.get {w : World} {lo hi : Nat} {l : List Pr} {A : Option Addr} {c : Nat} (h : Kin w lo hi l A c) {j : Nat} (hj : j < l.length) :
    ∃ b off kA kc, A = some ⟨b, off, none⟩ ∧ lo ≤ b ∧ b < hi ∧ (∀ i, i < 6 → w.cell? ⟨b, off + j * 6 + i, none⟩ = (prVals l[j] kA kc)[i]?) ∧ PrOk l[j] ∧ Kin w lo hi l[j].kids kA kc := by
  cases h with
  | mk l A c kA kc he ho hk =>
    obtain ⟨b, off, h1, h2, h3, h4⟩ := he.lies (by omega)
    refine ⟨b, off, kA j, kc j, h1, h2, h3, fun i hi => ?_, ho j hj, hk j hj⟩
    have := h4 j hj i hi
    rw [List.getElem?_eq_getElem hj] at this
    exact this
/-- one kid: its six cells -/
theorem Kin.six {w : World} {lo hi : Nat} {l : List Pr} {A : Option Addr} {c : Nat} (h : Kin w lo hi l A c) {j : Nat} (hj : j < l.length) :
    ∃ b off kA kc, A = some ⟨b, off, none⟩ ∧ lo ≤ b ∧ b < hi ∧ w.cell? ⟨b, off + j * 6, none⟩ = some (.int .i64 l[j].kind) ∧ w.cell? ⟨b, off + j * 6 + 1, none⟩ = some (.int .i64 l[j].col) ∧ w.cell? ⟨b, off + j * 6 + 2, none⟩ = some (.string l[j].s) ∧
      w.cell? ⟨b, off + j * 6 + 3, none⟩ = some (.int .i64 l[j].esc) ∧ w.cell? ⟨b, off + j * 6 + 4, none⟩ = some (.int .i64 l[j].coll) ∧ w.cell? ⟨b, off + j * 6 + 5, none⟩ = some (.slice kA l[j].kids.length kc) ∧ PrOk l[j] ∧ Kin w lo hi l[j].kids kA kc := by
  obtain ⟨b, off, kA, kc, h1, h2, h3, h4, h5, h6⟩ := h.get hj
  exact ⟨b, off, kA, kc, h1, h2, h3, h4 0 (by omega), h4 1 (by omega), h4 2 (by omega), h4 3 (by omega), h4 4 (by omega), h4 5 (by omega), h5, h6⟩
/-- a predicate as a value -/
def PrV (w : World) (lo hi : Nat) (v : Value) (p : Pr) : Prop := ∃ A c, v = .agg #[.int .i64 p.kind, .int .i64 p.col, .string p.s, .int .i64 p.esc, .int .i64 p.coll, .slice A p.kids.length c] ∧ PrOk p ∧ Kin w lo hi p.kids A c
theorem PrV.below {w w' : World} {lo hi B : Nat} {v : Value} {p : Pr} (h : PrV w lo hi v p) (hb : Below B w w') (hB : hi ≤ B) : PrV w' lo hi v p := by
  obtain ⟨A, c, h1, h2, h3⟩ := h
  exact ⟨A, c, h1, h2, h3.kept hb hB⟩
theorem PrV.drewN {w : World} {lo hi : Nat} {v : Value} {p : Pr} (h : PrV w lo hi v p) (m : Nat) : PrV (w.drewN m) lo hi v p := by
  obtain ⟨A, c, h1, h2, h3⟩ := h
  exact ⟨A, c, h1, h2, h3.drewN m⟩
theorem PrV.wide {w : World} {lo hi lo' hi' : Nat} {v : Value} {p : Pr} (h : PrV w lo hi v p) (h1 : lo' ≤ lo) (h2 : hi ≤ hi') : PrV w lo' hi' v p := by
  obtain ⟨A, c, h3, h4, h5⟩ := h
  exact ⟨A, c, h3, h4, h5.wide h1 h2⟩

/-- a value of a row: is it none, its bytes -/
structure Vl where
  null : Bool
  s : ByteArray
  deriving DecidableEq
def vlVals (v : Vl) : List Value := [.bool v.null, .string v.s]
/-- a row of values lies at A -/
structure Row (w : World) (lo hi : Nat) (A : Option Addr) (c : Nat) (r : List Vl) : Prop where
  els : Els w lo hi A c 2 r.length (fun j i => (r[j]?).bind fun v => (vlVals v)[i]?)
  ok : ∀ v ∈ r, v.s.size ≤ 9223372036854775807
theorem Row.below {w w' : World} {lo hi B c : Nat} {A : Option Addr} {r : List Vl} (h : Row w lo hi A c r) (hb : Below B w w') (hB : hi ≤ B) : Row w' lo hi A c r := ⟨h.els.below hb hB, h.ok⟩
theorem Row.drewN {w : World} {lo hi c : Nat} {A : Option Addr} {r : List Vl} (h : Row w lo hi A c r) (m : Nat) : Row (w.drewN m) lo hi A c r := ⟨h.els.keep fun _ _ _ => rfl, h.ok⟩
theorem Row.wide {w : World} {lo hi lo' hi' c : Nat} {A : Option Addr} {r : List Vl} (h : Row w lo hi A c r) (h1 : lo' ≤ lo) (h2 : hi ≤ hi') : Row w lo' hi' A c r := ⟨h.els.wide h1 h2, h.ok⟩
theorem Row.len {w : World} {lo hi c : Nat} {A : Option Addr} {r : List Vl} (h : Row w lo hi A c r) : r.length ≤ c ∧ c ≤ 9223372036854775807 := ⟨h.els.len, by have := h.els.cap; simpa [maxLen] using this⟩
theorem Row.get {w : World} {lo hi c : Nat} {A : Option Addr} {r : List Vl} (h : Row w lo hi A c r) {j : Nat} (hj : j < r.length) :
    ∃ b off, A = some ⟨b, off, none⟩ ∧ lo ≤ b ∧ b < hi ∧ w.cell? ⟨b, off + j * 2, none⟩ = some (.bool r[j].null) ∧ w.cell? ⟨b, off + j * 2 + 1, none⟩ = some (.string r[j].s) := by
  obtain ⟨b, off, h1, h2, h3, h4⟩ := h.els.lies (by omega)
  have h5 := h4 j hj 0 (by omega)
  have h6 := h4 j hj 1 (by omega)
  rw [List.getElem?_eq_getElem hj] at h5 h6
  exact ⟨b, off, h1, h2, h3, h5, h6⟩
/-- rows lie at A -/
structure Rows2 (w : World) (lo hi : Nat) (A : Option Addr) (c : Nat) (rs : List (List Vl)) (rA : Nat → Option Addr) (rc : Nat → Nat) : Prop where
  els : Els w lo hi A c 1 rs.length (fun j i => (rs[j]?).bind fun r => [Value.slice (rA j) r.length (rc j)][i]?)
  row : ∀ j (hj : j < rs.length), Row w lo hi (rA j) (rc j) rs[j]
theorem Rows2.below {w w' : World} {lo hi B c : Nat} {A : Option Addr} {rs : List (List Vl)} {rA : Nat → Option Addr} {rc : Nat → Nat} (h : Rows2 w lo hi A c rs rA rc) (hb : Below B w w') (hB : hi ≤ B) : Rows2 w' lo hi A c rs rA rc :=
  ⟨h.els.below hb hB, fun j hj => (h.row j hj).below hb hB⟩
theorem Rows2.drewN {w : World} {lo hi c : Nat} {A : Option Addr} {rs : List (List Vl)} {rA : Nat → Option Addr} {rc : Nat → Nat} (h : Rows2 w lo hi A c rs rA rc) (m : Nat) : Rows2 (w.drewN m) lo hi A c rs rA rc :=
  ⟨h.els.keep fun _ _ _ => rfl, fun j hj => (h.row j hj).drewN m⟩
theorem Rows2.wide {w : World} {lo hi lo' hi' c : Nat} {A : Option Addr} {rs : List (List Vl)} {rA : Nat → Option Addr} {rc : Nat → Nat} (h : Rows2 w lo hi A c rs rA rc) (h1 : lo' ≤ lo) (h2 : hi ≤ hi') : Rows2 w lo' hi' A c rs rA rc :=
  ⟨h.els.wide h1 h2, fun j hj => (h.row j hj).wide h1 h2⟩
theorem Rows2.len {w : World} {lo hi c : Nat} {A : Option Addr} {rs : List (List Vl)} {rA : Nat → Option Addr} {rc : Nat → Nat} (h : Rows2 w lo hi A c rs rA rc) : rs.length ≤ c ∧ c ≤ 9223372036854775807 := ⟨h.els.len, by have := h.els.cap; simpa [maxLen] using this⟩
theorem Rows2.get {w : World} {lo hi c : Nat} {A : Option Addr} {rs : List (List Vl)} {rA : Nat → Option Addr} {rc : Nat → Nat} (h : Rows2 w lo hi A c rs rA rc) {j : Nat} (hj : j < rs.length) :
    ∃ b off, A = some ⟨b, off, none⟩ ∧ lo ≤ b ∧ b < hi ∧ w.cell? ⟨b, off + j, none⟩ = some (.slice (rA j) rs[j].length (rc j)) ∧ Row w lo hi (rA j) (rc j) rs[j] := by
  obtain ⟨b, off, h1, h2, h3, h4⟩ := h.els.lies (by omega)
  have h5 := h4 j hj 0 (by omega)
  rw [List.getElem?_eq_getElem hj, Nat.mul_one] at h5
  exact ⟨b, off, h1, h2, h3, h5, h.row j hj⟩
end Go.Proofs.YtjffbjlniieciaaDoor
