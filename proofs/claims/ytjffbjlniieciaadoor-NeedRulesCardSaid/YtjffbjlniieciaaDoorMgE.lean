/-
  What the program reads of the library's variables, as the laws carry it; what Filters answers is right to be asked.
  The laws of layer 16: contracts at known answers; literals of rows; predicates that the laws make.
  The laws of layer 16: awake.
-/
import Derived.Test.YtjffbjlniieciaaDoorMgD
import Derived.Test.YtjffbjlniieciaaDoorNdG
import Derived.Test.YtjffbjlniieciaaDoorMgK
import Derived.Test.YtjffbjlniieciaaDoorNdB
import Derived.BigQuiet
import Derived.Deep.RegionHeld3
namespace Go.Proofs.YtjffbjlniieciaaDoor
set_option linter.unusedSimpArgs false
set_option linter.unusedVariables false
open Go.RowKit

/-- Env, with the variables' blocks below some number -/
structure EnvX (w : World) (lo hi : Nat) : Prop where
  env : Env w
  b1 : 1 < hi
  b2 : 2 < hi
  b3 : 0 < hi
theorem EnvX.of {w : World} (h : Env w) : EnvX w 0 w.heap.size := by
  obtain ⟨m, hm⟩ := h.maxl
  exact ⟨h, h.tabs.size.1, h.tabs.size.2, cell_lt hm⟩
theorem EnvX.below {w w' : World} {lo hi B : Nat} (h : EnvX w lo hi) (hb : Below B w w') (hB : hi ≤ B) : EnvX w' lo hi := by
  obtain ⟨m, hm⟩ := h.env.maxl
  have h1 := h.b1
  have h2 := h.b2
  have h3 := h.b3
  exact ⟨⟨h.env.tabs.below hb ⟨by omega, by omega⟩, m, (hb.cell (by simp only; omega)).trans hm⟩, h1, h2, h3⟩
theorem EnvX.wide {w : World} {lo hi lo' hi' : Nat} (h : EnvX w lo hi) (_h1 : lo' ≤ lo) (h2 : hi ≤ hi') : EnvX w lo' hi' := ⟨h.env, Nat.lt_of_lt_of_le h.b1 h2, Nat.lt_of_lt_of_le h.b2 h2, Nat.lt_of_lt_of_le h.b3 h2⟩

theorem allL_few : ∀ (l : List ByteArray), (∀ s ∈ l, s.size ≤ 100) → (allL (bytG l)).length ≤ 100 * l.length
  | [], _ => by simp [allL, bytG]
  | s :: l, h => by
    have h1 : (allL (bytG (s :: l))).length = (gramsL s.data.toList).length + (allL (bytG l)).length := by simp [allL, bytG]
    have h2 := allL_few l fun x hx => h x (List.mem_cons_of_mem _ hx)
    have h3 := h s List.mem_cons_self
    rw [h1, gramsL_length, size_toL, List.length_cons]
    omega
theorem flOf_fil {rs : List (List Vl)} {cols : Int} {k b : Nat} {e : Fc} (hrs : rowsP rs cols = true) (h : FlOf (colL rs k) b e) (hb : b ≤ 65536) : FilG (toFl e).b (toFl e).gs (toFl e).rs := by
  obtain ⟨h1, t, h2, h3, h4⟩ := h
  obtain ⟨_, _, h5, h6⟩ := rowsP_of hrs
  have hf := allL_few (colL rs k) fun s hs => by
    obtain ⟨r, hr, v, hv, rfl⟩ := colL_mem hs
    exact (h6 r hr).2 v hv
  have hl := colL_le rs k
  show FilG e.b e.gs e.rs
  rw [h1, h3, h4, gsM, rsM]
  by_cases h0 : b = 0
  · subst h0
    exact FilG.list h2 (by omega)
  · rw [if_neg h0, if_neg h0]
    exact FilG.set t hb
theorem FilG.ok {f : Fl} (h : FilG f.b f.gs f.rs) : FlOk f := ⟨fun _ => h.rows, Nat.le_trans h.le (by decide)⟩
end Go.Proofs.YtjffbjlniieciaaDoor
namespace Go.Proofs.YtjffbjlniieciaaDoor
set_option linter.unusedSimpArgs false
set_option linter.unusedVariables false
open Go.RowKit

theorem small_is {w : World} {p : Pr} {A : Option Addr} {c : Nat} (ho : PrOk p) (hk : Kin w 0 w.heap.size p.kids A c) (y : Bool) (hy : smallP p 20 = y) :
    Calls Tryd.prog 11 #[.agg #[.int .i64 p.kind, .int .i64 p.col, .string p.s, .int .i64 p.esc, .int .i64 p.coll, .slice A p.kids.length c], .int .i64 20] w fun r w' => r = .returned (.bool y) ∧ Below w.heap.size w w' := hy ▸ smallp_any p 20 ho hk (Nat.le_refl _) (by omega) (by omega)
theorem refright_is {w : World} {p : Pr} {A : Option Addr} {c : Nat} (ho : PrOk p) (hk : Kin w 0 w.heap.size p.kids A c) (cols deep : Int) (hd : 0 ≤ deep ∧ deep ≤ 1000) (y : Bool) (hy : rightP p cols deep = y) :
    Calls Tryd.prog 13 #[.agg #[.int .i64 p.kind, .int .i64 p.col, .string p.s, .int .i64 p.esc, .int .i64 p.coll, .slice A p.kids.length c], .int .i64 cols, .int .i64 deep] w fun r w' => r = .returned (.bool y) ∧ Below w.heap.size w w' := hy ▸ rightp_any p cols deep ho hk (Nat.le_refl _) hd.1 (by omega)
theorem right_is {w : World} {p : Pr} {A : Option Addr} {c : Nat} (ho : PrOk p) (hk : Kin w 0 w.heap.size p.kids A c) (cols : Int) (y : Bool) (hy : rightP p cols 12 = y) :
    Calls Tryd.prog 12 #[.agg #[.int .i64 p.kind, .int .i64 p.col, .string p.s, .int .i64 p.esc, .int .i64 p.coll, .slice A p.kids.length c], .int .i64 cols] w fun r w' => r = .returned (.bool y) ∧ Below w.heap.size w w' := hy ▸ nright_any ho hk cols
theorem rows_is {w : World} {c : Nat} {A : Option Addr} {rs : List (List Vl)} {rA : Nat → Option Addr} {rc : Nat → Nat} (h : Rows2 w 0 w.heap.size A c rs rA rc) (cols : Int) (n : Nat) (hn : rs.length = n) (y : Bool) (hy : rowsP rs cols = y) :
    Calls Tryd.prog 14 #[.slice A n c, .int .i64 cols] w fun r w' => r = .returned (.bool y) ∧ Below w.heap.size w w' := by
  subst hn; subst hy
  exact rowsp_any h (Nat.le_refl _) cols
theorem says_is {w : World} {p : Pr} {A rA : Option Addr} {c rc : Nat} {row : List Vl} (ho : PrOk p) (hk : Kin w 0 w.heap.size p.kids A c) (hr : Row w 0 w.heap.size rA rc row) (hv : ∀ v ∈ row, v.s.size ≤ 100000) (hp : rightP p row.length 12 = true) (z : Int) (hz : saysP p row = z) (hT : Env w) :
    Calls Tryd.prog 15 #[.agg #[.int .i64 p.kind, .int .i64 p.col, .string p.s, .int .i64 p.esc, .int .i64 p.coll, .slice A p.kids.length c], .slice rA row.length rc] w fun r w' => r = .returned (.int .i64 z) ∧ Below w.heap.size w w' := hz ▸ nsays_any ho hk hr hv hp hT
theorem refsays_is {w : World} {p : Pr} {A rA : Option Addr} {c rc : Nat} {row : List Vl} (ho : PrOk p) (hk : Kin w 0 w.heap.size p.kids A c) (hr : Row w 0 w.heap.size rA rc row) (hv : ∀ v ∈ row, v.s.size ≤ 100000) (hp : rightP p row.length 12 = true) (z : Int) (hz : saysP p row = z) :
    Calls Tryd.prog 16 #[.agg #[.int .i64 p.kind, .int .i64 p.col, .string p.s, .int .i64 p.esc, .int .i64 p.coll, .slice A p.kids.length c], .slice rA row.length rc] w fun r w' => r = .returned (.int .i64 z) ∧ Below w.heap.size w w' := hz ▸ saysp_any p row 12 ho hk hr (Nat.le_refl _) (Nat.le_refl _) hv hp
theorem skip_is {w : World} {p : Pr} {A fA : Option Addr} {c fc : Nat} {gA rA : Nat → Option Addr} {gc rc : Nat → Nat} {fs : List Fl} (ho : PrOk p) (hk : Kin w 0 w.heap.size p.kids A c) (hf : Fls w 0 w.heap.size fA fc fs gA gc rA rc) (hfo : ∀ f ∈ fs, FilG f.b f.gs f.rs) (hp : rightP p fs.length 12 = true) (y : Bool) (hy : skipP p fs = y) :
    Calls Tryd.prog 18 #[.agg #[.int .i64 p.kind, .int .i64 p.col, .string p.s, .int .i64 p.esc, .int .i64 p.coll, .slice A p.kids.length c], .slice fA fs.length fc] w fun r w' => r = .returned (.bool y) ∧ Below w.heap.size w w' := hy ▸ nskip_any ho hk hf hfo hp
theorem refskip_is {w : World} {p : Pr} {A fA : Option Addr} {c fc : Nat} {gA rA : Nat → Option Addr} {gc rc : Nat → Nat} {fs : List Fl} (ho : PrOk p) (hk : Kin w 0 w.heap.size p.kids A c) (hf : Fls w 0 w.heap.size fA fc fs gA gc rA rc) (hfo : ∀ f ∈ fs, FilG f.b f.gs f.rs) (hp : rightP p fs.length 12 = true) (y : Bool) (hy : skipP p fs = y) :
    Calls Tryd.prog 19 #[.agg #[.int .i64 p.kind, .int .i64 p.col, .string p.s, .int .i64 p.esc, .int .i64 p.coll, .slice A p.kids.length c], .slice fA fs.length fc] w fun r w' => r = .returned (.bool y) ∧ Below w.heap.size w w' := hy ▸ skipp_any p fs 12 ho hk hf (Nat.le_refl _) (Nat.le_refl _) (fun f hf => (hfo f hf).ok) hp
/-- a list of one row -/
theorem rows2_one {w : World} {rA : Option Addr} {rc : Nat} {row : List Vl} {t : TypeId} (h : Row w 0 w.heap.size rA rc row) :
    Rows2 (w.alloc (.cells #[.slice rA row.length rc] t)) 0 (w.alloc (.cells #[.slice rA row.length rc] t)).heap.size (some ⟨w.heap.size, 0, none⟩) 1 [row] (fun _ => rA) (fun _ => rc) := by
  have hb : Below w.heap.size w (w.alloc (.cells #[.slice rA row.length rc] t)) := (Below.refl _ _).alloc (Nat.le_refl _) _
  refine ⟨⟨by simp, by simp [maxLen], fun _ => ⟨w.heap.size, 0, rfl, Nat.zero_le _, by simp, fun j hj i hi => ?_⟩⟩, fun j hj => ?_⟩
  · have hj0 : j = 0 := by simpa using hj
    have hi0 : i = 0 := by omega
    subst hj0; subst hi0
    rw [World.cell?_alloc_at _ _ _ _ rfl]
    rfl
  · have hj0 : j = 0 := by simpa using hj
    subst hj0
    exact (h.below hb (Nat.le_refl _)).wide (Nat.le_refl _) hb.size
theorem rowsP_one {row : List Vl} (h : rowsP [row] row.length = true) : (∀ v ∈ row, v.s.size ≤ 100000) ∧ 1 ≤ row.length ∧ row.length ≤ 8 := by
  obtain ⟨h1, h2, _, h3⟩ := rowsP_of h
  exact ⟨fun v hv => by have := (h3 row (by simp)).2 v hv; omega, by omega, by omega⟩
theorem Fls.wide {w : World} {lo hi lo' hi' c : Nat} {A : Option Addr} {fs : List Fl} {gA : Nat → Option Addr} {gc : Nat → Nat} {rA : Nat → Option Addr} {rc : Nat → Nat} (h : Fls w lo hi A c fs gA gc rA rc) (h1 : lo' ≤ lo) (h2 : hi ≤ hi') : Fls w lo' hi' A c fs gA gc rA rc :=
  ⟨h.els.wide h1 h2, fun j hj => (h.grams j hj).wide h1 h2, fun j hj => (h.rows j hj).wide h1 h2⟩
/-- what Filters answers, as Skip reads it -/
theorem filters_is {w : World} {c : Nat} {A : Option Addr} {rs : List (List Vl)} {rA : Nat → Option Addr} {rc : Nat → Nat} (h : Rows2 w 0 w.heap.size A c rs rA rc) (cols : Nat) (hright : rowsP rs cols = true) (b : Nat) (hb : b ≤ 65536) (n : Nat) (hn : rs.length = n) :
    Calls Tryd.prog 17 #[.slice A n c, .int .i64 (cols : Int), .int .i64 (b : Int)] w fun r w' => ∃ (es : List Fc) (A' : Option Addr) (c' : Nat) (gA : Nat → Option Addr) (gc : Nat → Nat) (hA : Nat → Option Addr) (hc : Nat → Nat), r = .returned (.slice A' (es.map toFl).length c') ∧ (es.map toFl).length = cols ∧ (∀ j (hj : j < es.length), FlOf (colL rs j) b es[j]) ∧
      Fls w' 0 w'.heap.size A' c' (es.map toFl) gA gc hA hc ∧ (∀ f ∈ es.map toFl, FilG f.b f.gs f.rs) ∧ Below w.heap.size w w' := by
  subst hn
  refine (filters_any h (Nat.le_refl _) cols hright b (by omega)).mono ?_
  rintro r w' ⟨es, A', c', rfl, hl, hfo, ho, hly, hbl⟩
  have hf := fls_of ho hly
  refine ⟨es, A', c', _, _, _, _, by rw [List.length_map], by rw [List.length_map]; exact hl, hfo, hf, fun f hf => ?_, hbl⟩
  obtain ⟨e, he, rfl⟩ := List.mem_map.1 hf
  obtain ⟨j, hj, rfl⟩ := List.getElem_of_mem he
  exact flOf_fil hright (hfo j hj) hb
theorem fls_holds {rs : List (List Vl)} {es : List Fc} {b : Nat} (h : ∀ j (hj : j < es.length), FlOf (colL rs j) b es[j]) : ∀ k (hk : k < (es.map toFl).length), HoldsF (es.map toFl)[k] (colL rs k) := fun k hk => by
  rw [List.getElem_map]
  exact holds_of (h k (by simpa using hk))
/-- a predicate's six cells -/
def prCells (p : Pr) (A : Option Addr) (c : Nat) : Array Value := #[.int .i64 p.kind, .int .i64 p.col, .string p.s, .int .i64 p.esc, .int .i64 p.coll, .slice A p.kids.length c]
theorem cell_lit {w : World} {t : TypeId} {cs : Array Value} {j i : Nat} : (w.alloc (.cells cs t)).cell? ⟨w.heap.size, 0 + j * 6 + i, none⟩ = cs[j * 6 + i]? := by
  rw [Nat.zero_add, World.cell?_alloc_at _ _ _ _ rfl]
/-- two predicates, laid side by side for a law -/
theorem kin_two {w : World} {t : TypeId} {p q : Pr} {A B : Option Addr} {c d : Nat} {cs : Array Value} (ho : PrOk p) (ho2 : PrOk q) (hp : Kin w 0 w.heap.size p.kids A c) (hq : Kin w 0 w.heap.size q.kids B d)
    (hcs : cs = #[.int .i64 p.kind, .int .i64 p.col, .string p.s, .int .i64 p.esc, .int .i64 p.coll, .slice A p.kids.length c, .int .i64 q.kind, .int .i64 q.col, .string q.s, .int .i64 q.esc, .int .i64 q.coll, .slice B q.kids.length d]) :
    Kin (w.alloc (.cells cs t)) 0 (w.alloc (.cells cs t)).heap.size [p, q] (some ⟨w.heap.size, 0, none⟩) 2 := by
  subst hcs
  have hb : ∀ o, Below w.heap.size w (w.alloc o) := fun o => (Below.refl _ _).alloc (Nat.le_refl _) _
  refine .mk [p, q] _ 2 (fun j => if j = 0 then A else B) (fun j => if j = 0 then c else d) ⟨by simp, by simp [maxLen], fun _ => ⟨w.heap.size, 0, rfl, Nat.zero_le _, by simp, fun j hj i hi => ?_⟩⟩ (fun j hj => ?_) (fun j hj => ?_)
  · rw [cell_lit]
    have hj2 : j = 0 ∨ j = 1 := by simp at hj; omega
    rcases hj2 with rfl | rfl
    · match i, hi with
      | 0, _ => rfl
      | 1, _ => rfl
      | 2, _ => rfl
      | 3, _ => rfl
      | 4, _ => rfl
      | 5, _ => rfl
    · match i, hi with
      | 0, _ => rfl
      | 1, _ => rfl
      | 2, _ => rfl
      | 3, _ => rfl
      | 4, _ => rfl
      | 5, _ => rfl
  · have hj2 : j = 0 ∨ j = 1 := by simp at hj; omega
    rcases hj2 with rfl | rfl
    · exact ho
    · exact ho2
  · have hj2 : j = 0 ∨ j = 1 := by simp at hj; omega
    rcases hj2 with rfl | rfl
    · exact Kin.wide (Nat.le_refl _) (hb _).size (hp.kept (hb _) (Nat.le_refl _))
    · exact Kin.wide (Nat.le_refl _) (hb _).size (hq.kept (hb _) (Nat.le_refl _))
/-- one predicate, laid for a law -/
theorem kin_one {w : World} {t : TypeId} {p : Pr} {A : Option Addr} {c : Nat} {cs : Array Value} (ho : PrOk p) (hp : Kin w 0 w.heap.size p.kids A c)
    (hcs : cs = #[.int .i64 p.kind, .int .i64 p.col, .string p.s, .int .i64 p.esc, .int .i64 p.coll, .slice A p.kids.length c]) :
    Kin (w.alloc (.cells cs t)) 0 (w.alloc (.cells cs t)).heap.size [p] (some ⟨w.heap.size, 0, none⟩) 1 := by
  subst hcs
  have hb : ∀ o, Below w.heap.size w (w.alloc o) := fun o => (Below.refl _ _).alloc (Nat.le_refl _) _
  refine .mk [p] _ 1 (fun _ => A) (fun _ => c) ⟨by simp, by simp [maxLen], fun _ => ⟨w.heap.size, 0, rfl, Nat.zero_le _, by simp, fun j hj i hi => ?_⟩⟩ (fun j hj => ?_) (fun j hj => ?_)
  · rw [cell_lit]
    obtain rfl : j = 0 := by simpa using hj
    match i, hi with
    | 0, _ => rfl
    | 1, _ => rfl
    | 2, _ => rfl
    | 3, _ => rfl
    | 4, _ => rfl
    | 5, _ => rfl
  · obtain rfl : j = 0 := by simpa using hj
    exact ho
  · obtain rfl : j = 0 := by simpa using hj
    exact Kin.wide (Nat.le_refl _) (hb _).size (hp.kept (hb _) (Nat.le_refl _))
theorem headP_ok {kd : Int} {l : List Pr} (h : I64 kd) : PrOk (.mk kd 0 ⟨#[]⟩ 0 0 l) := ⟨show (0 : Nat) ≤ 9223372036854775807 by decide, h, show I64 0 from ⟨by decide, by decide⟩, show I64 0 from ⟨by decide, by decide⟩, show I64 0 from ⟨by decide, by decide⟩⟩
/-- do these three bytes stand in some row's first value? -/
def foundP (rs : List (List Vl)) (s : ByteArray) (i : Nat) : Bool := rs.any fun r => saysP (hasPr (s.extract i (i + 3))) r == 1
def missP (rs : List (List Vl)) (s : ByteArray) (n : Nat) : Bool := (List.range n).any fun i => !foundP rs s i
theorem miss_succ (rs : List (List Vl)) (s : ByteArray) (n : Nat) : missP rs s (n + 1) = (missP rs s n || !foundP rs s n) := by
  unfold missP
  rw [List.range_succ, List.any_append]
  simp
theorem found_take {rs : List (List Vl)} {s : ByteArray} {i k : Nat} (h : k < rs.length) : foundP (rs.take (k + 1)) s i = (foundP (rs.take k) s i || saysP (hasPr (s.extract i (i + 3))) rs[k] == 1) := by
  unfold foundP
  rw [List.take_succ_eq_append_getElem h, List.any_append]
  simp
/-- an exact filter skips what asks for three bytes that no row has, and nothing else -/
theorem skip_miss {rs : List (List Vl)} {cols : Int} {e : Fc} {fs : List Fl} {s : ByteArray} (hrs : rowsP rs cols = true) (he : FlOf (colL rs 0) 0 e) (hf : fs[0]? = some (toFl e)) (hs : 3 ≤ s.size) : skipP (hasPr s) fs = missP rs s (s.size - 2) := by
  rw [skip_has hf, Bool.eq_iff_iff, Bool.not_eq_true', Bool.eq_false_iff, ne_eq, exact_may hrs he]
  unfold missP
  rw [List.any_eq_true]
  constructor
  · intro h
    refine Classical.byContradiction fun hn => h fun i hi => ?_
    refine Classical.byContradiction fun hc => hn ⟨i, List.mem_range.2 (by omega), ?_⟩
    rw [Bool.not_eq_true', Bool.eq_false_iff]
    intro hf
    obtain ⟨r, hr, h1⟩ := List.any_eq_true.1 hf
    exact hc ⟨r, hr, by simpa using h1⟩
  · rintro ⟨i, hi, hf⟩ hall
    rw [Bool.not_eq_true', Bool.eq_false_iff] at hf
    obtain ⟨r, hr, h1⟩ := hall i (by have := List.mem_range.1 hi; omega)
    exact hf (List.any_eq_true.2 ⟨r, hr, by simpa using h1⟩)
end Go.Proofs.YtjffbjlniieciaaDoor
namespace Go.Proofs.YtjffbjlniieciaaDoor
set_option linter.unusedSimpArgs false
set_option linter.unusedVariables false
open Go.RowKit

set_option maxRecDepth 20000 in
set_option maxHeartbeats 4000000 in
theorem awake16_any {w : World} (hT : Env w) : Calls Tryd.prog 10 #[] w fun r w' => r = .returned (.bool true) ∧ Below w.heap.size w w' := by
  have HXe_w := Lib.hid (EnvX.of hT)
  clear hT
  go_enter Tryd.func10, Tryd.ntmps10
  go_wp2_with fail
  obtain ⟨w1, hw_w1⟩ : ∃ q, w.alloc (.cells #[.int .i64 9, .int .i64 0, .string ⟨#[120, 121, 122]⟩, .int .i64 0, .int .i64 0, .slice none 0 0] 24) = q := ⟨_, rfl⟩
  rw [hw_w1]
  have b_w1 : Below w.heap.size w w1 := by rw [← hw_w1]; exact (Below.refl _ _).alloc (Nat.le_refl _) _
  have hz_w1 : w1.heap.size = w.heap.size + 1 := by rw [← hw_w1]; simp
  have HVx : Hid (Blk w1 w.heap.size 24 #[.int .i64 9, .int .i64 0, .string ⟨#[120, 121, 122]⟩, .int .i64 0, .int .i64 0, .slice none 0 0]) := by unfold Hid; rw [← hw_w1]; exact Blk.new _ _ _
  have HXe_w1 := Lib.hid ((HXe_w.out.below b_w1 (Nat.le_refl _)).wide (Nat.le_refl _) b_w1.size)
  have HB_w1 := Lib.hid b_w1
  have S_w1 := HB_w1.out.size
  clear b_w1   HXe_w 
  have HVp_w1 := Lib.hid HVx.out
  clear HVx hw_w1
  obtain ⟨w2, hw_w2⟩ : ∃ q, w1.alloc (.cells #[.bool false, .string ⟨#[97, 98, 99, 100]⟩] 42) = q := ⟨_, rfl⟩
  rw [hw_w2]
  have b_w2 : Below w1.heap.size w1 w2 := by rw [← hw_w2]; exact (Below.refl _ _).alloc (Nat.le_refl _) _
  have hz_w2 : w2.heap.size = w1.heap.size + 1 := by rw [← hw_w2]; simp
  have hrow : Row w2 0 w2.heap.size (some ⟨w1.heap.size, 0, none⟩) 1 [⟨false, ⟨#[97, 98, 99, 100]⟩⟩] := by rw [← hw_w2]; exact row_lit _ _ _ _ (by decide)
  have HXe_w2 := Lib.hid ((HXe_w1.out.below b_w2 (Nat.le_refl _)).wide (Nat.le_refl _) b_w2.size)
  have HVp_w2 := Lib.hid (HVp_w1.out.below b_w2 HVp_w1.out.lt)
  have HB_w2 := Lib.hid (below_below HB_w1.out b_w2 S_w1)
  have S_w2 := HB_w2.out.size
  clear b_w2 HB_w1  HXe_w1 HVp_w1 
  clear hw_w2
  rw [hz_w1] at hrow hz_w2
  obtain ⟨w3, hw_w3⟩ : ∃ q, w2.alloc (.cells #[.slice (some ⟨w.heap.size + 1, 0, none⟩) 1 1] 28) = q := ⟨_, rfl⟩
  rw [hw_w3]
  have b_w3 : Below w2.heap.size w2 w3 := by rw [← hw_w3]; exact (Below.refl _ _).alloc (Nat.le_refl _) _
  have hz_w3 : w3.heap.size = w2.heap.size + 1 := by rw [← hw_w3]; simp
  have hrows : Rows2 w3 0 w3.heap.size (some ⟨w2.heap.size, 0, none⟩) 1 [[⟨false, ⟨#[97, 98, 99, 100]⟩⟩]] (fun _ => some ⟨w.heap.size + 1, 0, none⟩) (fun _ => 1) := by rw [← hw_w3]; exact rows2_one hrow
  rw [hz_w2] at hrows
  have HXe_w3 := Lib.hid ((HXe_w2.out.below b_w3 (Nat.le_refl _)).wide (Nat.le_refl _) b_w3.size)
  have HVp_w3 := Lib.hid (HVp_w2.out.below b_w3 HVp_w2.out.lt)
  have HB_w3 := Lib.hid (below_below HB_w2.out b_w3 S_w2)
  have S_w3 := HB_w3.out.size
  clear b_w3 HB_w2  HXe_w2 HVp_w2 
  clear hw_w3 hz_w1 hz_w2 hz_w3 hrow
  refine (filters_is hrows 1 (by decide) 0 (by decide) 1 rfl).mono ?_
  rintro r w4 ⟨es, A6, c6, gA, gc, hA, hc, rfl, hfl, hfo, hfs, hfk, b_w4⟩
  have hel : es.length = 1 := by rw [List.length_map] at hfl; exact hfl
  obtain ⟨e, rfl⟩ : ∃ e, es = [e] := List.length_eq_one_iff.1 hel
  have HE : Hid (FlOf [⟨#[97, 98, 99, 100]⟩] 0 e) := hfo 0 (by simp)
  have HXX : Hid (Fls w4 0 w4.heap.size A6 c6 [toFl e] gA gc hA hc) := hfs
  have HFK : Hid (∀ f ∈ [toFl e], FilG f.b f.gs f.rs) := hfk
  clear hfl hfo hfs hfk hel hrows
  have HXe_w4 := Lib.hid ((HXe_w3.out.below b_w4 (Nat.le_refl _)).wide (Nat.le_refl _) b_w4.size)
  have HVp_w4 := Lib.hid (HVp_w3.out.below b_w4 HVp_w3.out.lt)
  have HB_w4 := Lib.hid (below_below HB_w3.out b_w4 S_w3)
  have S_w4 := HB_w4.out.size
  clear b_w4 HB_w3  HXe_w3 HVp_w3 
  have HXf_w4 := Lib.hid HXX.out
  clear HXX
  have HOK : Hid (PrOk (hasPr ⟨#[120, 121, 122]⟩)) := hasPr_ok (by decide)
  have HOK2 : Hid (PrOk (hasPr ⟨#[98, 99, 100]⟩)) := hasPr_ok (by decide)
  have cp0 : w4.cell? ⟨w.heap.size, 0, none⟩ = some (.int .i64 9) := HVp_w4.out.cell 0
  have zp0 := HVp_w4.out.frozen 0
  have cp1 : w4.cell? ⟨w.heap.size, 1, none⟩ = some (.int .i64 0) := HVp_w4.out.cell 1
  have zp1 := HVp_w4.out.frozen 1
  have cp2 : w4.cell? ⟨w.heap.size, 2, none⟩ = some (.string ⟨#[120, 121, 122]⟩) := HVp_w4.out.cell 2
  have zp2 := HVp_w4.out.frozen 2
  have cp3 : w4.cell? ⟨w.heap.size, 3, none⟩ = some (.int .i64 0) := HVp_w4.out.cell 3
  have zp3 := HVp_w4.out.frozen 3
  have cp4 : w4.cell? ⟨w.heap.size, 4, none⟩ = some (.int .i64 0) := HVp_w4.out.cell 4
  have zp4 := HVp_w4.out.frozen 4
  have cp5 : w4.cell? ⟨w.heap.size, 5, none⟩ = some (.slice none 0 0) := HVp_w4.out.cell 5
  have zp5 := HVp_w4.out.frozen 5
  go_wp2_with fail
  clear cp0 zp0 cp1 zp1 cp2 zp2 cp3 zp3 cp4 zp4 cp5 zp5
  refine (right_is (p := hasPr ⟨#[120, 121, 122]⟩) (A := none) (c := 0) HOK.out (kin_nil _ _ _) 1 true (right_has (by decide) (by decide) (by decide))).mono ?_
  rintro r w5 ⟨rfl, b_w5⟩
  have HXe_w5 := Lib.hid ((HXe_w4.out.below b_w5 (Nat.le_refl _)).wide (Nat.le_refl _) b_w5.size)
  have HXf_w5 := Lib.hid ((HXf_w4.out.below b_w5 (Nat.le_refl _)).wide (Nat.le_refl _) b_w5.size)
  have HVp_w5 := Lib.hid (HVp_w4.out.below b_w5 HVp_w4.out.lt)
  have HB_w5 := Lib.hid (below_below HB_w4.out b_w5 S_w4)
  have S_w5 := HB_w5.out.size
  clear b_w5 HB_w4  HXe_w4 HXf_w4 HVp_w4 
  have cp0 : w5.cell? ⟨w.heap.size, 0, none⟩ = some (.int .i64 9) := HVp_w5.out.cell 0
  have zp0 := HVp_w5.out.frozen 0
  have cp1 : w5.cell? ⟨w.heap.size, 1, none⟩ = some (.int .i64 0) := HVp_w5.out.cell 1
  have zp1 := HVp_w5.out.frozen 1
  have cp2 : w5.cell? ⟨w.heap.size, 2, none⟩ = some (.string ⟨#[120, 121, 122]⟩) := HVp_w5.out.cell 2
  have zp2 := HVp_w5.out.frozen 2
  have cp3 : w5.cell? ⟨w.heap.size, 3, none⟩ = some (.int .i64 0) := HVp_w5.out.cell 3
  have zp3 := HVp_w5.out.frozen 3
  have cp4 : w5.cell? ⟨w.heap.size, 4, none⟩ = some (.int .i64 0) := HVp_w5.out.cell 4
  have zp4 := HVp_w5.out.frozen 4
  have cp5 : w5.cell? ⟨w.heap.size, 5, none⟩ = some (.slice none 0 0) := HVp_w5.out.cell 5
  have zp5 := HVp_w5.out.frozen 5
  go_wp2_with fail
  clear cp0 zp0 cp1 zp1 cp2 zp2 cp3 zp3 cp4 zp4 cp5 zp5
  refine (right_is (p := hasPr ⟨#[120, 121, 122]⟩) (A := none) (c := 0) HOK.out (kin_nil _ _ _) 0 false right_none).mono ?_
  rintro r w6 ⟨rfl, b_w6⟩
  have HXe_w6 := Lib.hid ((HXe_w5.out.below b_w6 (Nat.le_refl _)).wide (Nat.le_refl _) b_w6.size)
  have HXf_w6 := Lib.hid ((HXf_w5.out.below b_w6 (Nat.le_refl _)).wide (Nat.le_refl _) b_w6.size)
  have HVp_w6 := Lib.hid (HVp_w5.out.below b_w6 HVp_w5.out.lt)
  have HB_w6 := Lib.hid (below_below HB_w5.out b_w6 S_w5)
  have S_w6 := HB_w6.out.size
  clear b_w6 HB_w5  HXe_w5 HXf_w5 HVp_w5 
  have cp0 : w6.cell? ⟨w.heap.size, 0, none⟩ = some (.int .i64 9) := HVp_w6.out.cell 0
  have zp0 := HVp_w6.out.frozen 0
  have cp1 : w6.cell? ⟨w.heap.size, 1, none⟩ = some (.int .i64 0) := HVp_w6.out.cell 1
  have zp1 := HVp_w6.out.frozen 1
  have cp2 : w6.cell? ⟨w.heap.size, 2, none⟩ = some (.string ⟨#[120, 121, 122]⟩) := HVp_w6.out.cell 2
  have zp2 := HVp_w6.out.frozen 2
  have cp3 : w6.cell? ⟨w.heap.size, 3, none⟩ = some (.int .i64 0) := HVp_w6.out.cell 3
  have zp3 := HVp_w6.out.frozen 3
  have cp4 : w6.cell? ⟨w.heap.size, 4, none⟩ = some (.int .i64 0) := HVp_w6.out.cell 4
  have zp4 := HVp_w6.out.frozen 4
  have cp5 : w6.cell? ⟨w.heap.size, 5, none⟩ = some (.slice none 0 0) := HVp_w6.out.cell 5
  have zp5 := HVp_w6.out.frozen 5
  go_wp2_with fail
  clear cp0 zp0 cp1 zp1 cp2 zp2 cp3 zp3 cp4 zp4 cp5 zp5
  refine (skip_is (p := hasPr ⟨#[120, 121, 122]⟩) (A := none) (c := 0) (fs := [toFl e]) HOK.out (kin_nil _ _ _) HXf_w6.out HFK.out (right_has (by decide) (by simp) (by decide)) true (by rw [skip_has (f := toFl e) rfl, exact_all HE.out]; decide)).mono ?_
  rintro r w7 ⟨rfl, b_w7⟩
  have HXe_w7 := Lib.hid ((HXe_w6.out.below b_w7 (Nat.le_refl _)).wide (Nat.le_refl _) b_w7.size)
  have HXf_w7 := Lib.hid ((HXf_w6.out.below b_w7 (Nat.le_refl _)).wide (Nat.le_refl _) b_w7.size)
  have HVp_w7 := Lib.hid (HVp_w6.out.below b_w7 HVp_w6.out.lt)
  have HB_w7 := Lib.hid (below_below HB_w6.out b_w7 S_w6)
  have S_w7 := HB_w7.out.size
  clear b_w7 HB_w6  HXe_w6 HXf_w6 HVp_w6 
  go_wp2_with fail
  refine (skip_is (p := hasPr ⟨#[98, 99, 100]⟩) (A := none) (c := 0) (fs := [toFl e]) HOK2.out (kin_nil _ _ _) HXf_w7.out HFK.out (right_has (by decide) (by simp) (by decide)) false (by rw [skip_has (f := toFl e) rfl, exact_all HE.out]; decide)).mono ?_
  rintro r w8 ⟨rfl, b_w8⟩
  have HXe_w8 := Lib.hid ((HXe_w7.out.below b_w8 (Nat.le_refl _)).wide (Nat.le_refl _) b_w8.size)
  have HXf_w8 := Lib.hid ((HXf_w7.out.below b_w8 (Nat.le_refl _)).wide (Nat.le_refl _) b_w8.size)
  have HVp_w8 := Lib.hid (HVp_w7.out.below b_w8 HVp_w7.out.lt)
  have HB_w8 := Lib.hid (below_below HB_w7.out b_w8 S_w7)
  have S_w8 := HB_w8.out.size
  clear b_w8 HB_w7  HXe_w7 HXf_w7 HVp_w7 
  have cp0 : w8.cell? ⟨w.heap.size, 0, none⟩ = some (.int .i64 9) := HVp_w8.out.cell 0
  have zp0 := HVp_w8.out.frozen 0
  have cp1 : w8.cell? ⟨w.heap.size, 1, none⟩ = some (.int .i64 0) := HVp_w8.out.cell 1
  have zp1 := HVp_w8.out.frozen 1
  have cp2 : w8.cell? ⟨w.heap.size, 2, none⟩ = some (.string ⟨#[120, 121, 122]⟩) := HVp_w8.out.cell 2
  have zp2 := HVp_w8.out.frozen 2
  have cp3 : w8.cell? ⟨w.heap.size, 3, none⟩ = some (.int .i64 0) := HVp_w8.out.cell 3
  have zp3 := HVp_w8.out.frozen 3
  have cp4 : w8.cell? ⟨w.heap.size, 4, none⟩ = some (.int .i64 0) := HVp_w8.out.cell 4
  have zp4 := HVp_w8.out.frozen 4
  have cp5 : w8.cell? ⟨w.heap.size, 5, none⟩ = some (.slice none 0 0) := HVp_w8.out.cell 5
  have zp5 := HVp_w8.out.frozen 5
  go_wp2_with fail
  clear cp0 zp0 cp1 zp1 cp2 zp2 cp3 zp3 cp4 zp4 cp5 zp5
  obtain ⟨w9, hw_w9⟩ : ∃ q, w8.alloc (.cells #[.bool false, .string ⟨#[119, 120, 121, 122]⟩] 42) = q := ⟨_, rfl⟩
  rw [hw_w9]
  have b_w9 : Below w8.heap.size w8 w9 := by rw [← hw_w9]; exact (Below.refl _ _).alloc (Nat.le_refl _) _
  have hz_w9 : w9.heap.size = w8.heap.size + 1 := by rw [← hw_w9]; simp
  have hrow : Row w9 0 w9.heap.size (some ⟨w8.heap.size, 0, none⟩) 1 [⟨false, ⟨#[119, 120, 121, 122]⟩⟩] := by rw [← hw_w9]; exact row_lit _ _ _ _ (by decide)
  have HXe_w9 := Lib.hid ((HXe_w8.out.below b_w9 (Nat.le_refl _)).wide (Nat.le_refl _) b_w9.size)
  have HVp_w9 := Lib.hid (HVp_w8.out.below b_w9 HVp_w8.out.lt)
  have HB_w9 := Lib.hid (below_below HB_w8.out b_w9 S_w8)
  have S_w9 := HB_w9.out.size
  clear b_w9 HB_w8  HXe_w8 HVp_w8 
  clear hw_w9 hz_w9
  refine (says_is (p := hasPr ⟨#[120, 121, 122]⟩) (A := none) (c := 0) (row := [⟨false, ⟨#[119, 120, 121, 122]⟩⟩]) HOK.out (kin_nil _ _ _) hrow (fun v hv => by rw [List.mem_singleton.1 hv]; decide) (right_has (by decide) (by decide) (by decide)) 1 ((says_has rfl).2 ⟨rfl, by decide⟩) HXe_w9.out.env).mono ?_
  rintro r wa ⟨rfl, b_wa⟩
  clear hrow
  have HXe_wa := Lib.hid ((HXe_w9.out.below b_wa (Nat.le_refl _)).wide (Nat.le_refl _) b_wa.size)
  have HVp_wa := Lib.hid (HVp_w9.out.below b_wa HVp_w9.out.lt)
  have HB_wa := Lib.hid (below_below HB_w9.out b_wa S_w9)
  have S_wa := HB_wa.out.size
  clear b_wa HB_w9  HXe_w9 HVp_w9 
  have cp0 : wa.cell? ⟨w.heap.size, 0, none⟩ = some (.int .i64 9) := HVp_wa.out.cell 0
  have zp0 := HVp_wa.out.frozen 0
  have cp1 : wa.cell? ⟨w.heap.size, 1, none⟩ = some (.int .i64 0) := HVp_wa.out.cell 1
  have zp1 := HVp_wa.out.frozen 1
  have cp2 : wa.cell? ⟨w.heap.size, 2, none⟩ = some (.string ⟨#[120, 121, 122]⟩) := HVp_wa.out.cell 2
  have zp2 := HVp_wa.out.frozen 2
  have cp3 : wa.cell? ⟨w.heap.size, 3, none⟩ = some (.int .i64 0) := HVp_wa.out.cell 3
  have zp3 := HVp_wa.out.frozen 3
  have cp4 : wa.cell? ⟨w.heap.size, 4, none⟩ = some (.int .i64 0) := HVp_wa.out.cell 4
  have zp4 := HVp_wa.out.frozen 4
  have cp5 : wa.cell? ⟨w.heap.size, 5, none⟩ = some (.slice none 0 0) := HVp_wa.out.cell 5
  have zp5 := HVp_wa.out.frozen 5
  go_wp2_with fail
  clear cp0 zp0 cp1 zp1 cp2 zp2 cp3 zp3 cp4 zp4 cp5 zp5
  obtain ⟨wb, hw_wb⟩ : ∃ q, wa.alloc (.cells #[.bool true, .string ⟨#[]⟩] 42) = q := ⟨_, rfl⟩
  rw [hw_wb]
  have b_wb : Below wa.heap.size wa wb := by rw [← hw_wb]; exact (Below.refl _ _).alloc (Nat.le_refl _) _
  have hz_wb : wb.heap.size = wa.heap.size + 1 := by rw [← hw_wb]; simp
  have hrow : Row wb 0 wb.heap.size (some ⟨wa.heap.size, 0, none⟩) 1 [⟨true, ⟨#[]⟩⟩] := by rw [← hw_wb]; exact row_lit _ _ _ _ (by decide)
  have HXe_wb := Lib.hid ((HXe_wa.out.below b_wb (Nat.le_refl _)).wide (Nat.le_refl _) b_wb.size)
  have HVp_wb := Lib.hid (HVp_wa.out.below b_wb HVp_wa.out.lt)
  have HB_wb := Lib.hid (below_below HB_wa.out b_wb S_wa)
  have S_wb := HB_wb.out.size
  clear b_wb HB_wa  HXe_wa HVp_wa 
  clear hw_wb hz_wb
  refine (says_is (p := hasPr ⟨#[120, 121, 122]⟩) (A := none) (c := 0) (row := [⟨true, ⟨#[]⟩⟩]) HOK.out (kin_nil _ _ _) hrow (fun v hv => by rw [List.mem_singleton.1 hv]; decide) (right_has (by decide) (by decide) (by decide)) 2 (says_none rfl) HXe_wb.out.env).mono ?_
  rintro r wc ⟨rfl, b_wc⟩
  clear hrow
  have HXe_wc := Lib.hid ((HXe_wb.out.below b_wc (Nat.le_refl _)).wide (Nat.le_refl _) b_wc.size)
  have HVp_wc := Lib.hid (HVp_wb.out.below b_wc HVp_wb.out.lt)
  have HB_wc := Lib.hid (below_below HB_wb.out b_wc S_wb)
  have S_wc := HB_wc.out.size
  clear b_wc HB_wb  HXe_wb HVp_wb 
  go_wp2_with fail
  go_ret
  exact ⟨rfl, HB_wc.out⟩
end Go.Proofs.YtjffbjlniieciaaDoor
