/-
  The program's fsst: pieces as an iterator that stops, and Count.
-/
import Derived.Test.YtniehbghgialjaaFpI
import Derived.Test.YtniehbghgialjaaOutM
namespace Go.Proofs.Ytniehbghgialjaa
set_option linter.unusedSimpArgs false
set_option linter.unusedVariables false
open Go.RowKit Go.Shelf

attribute [local go_sem] Oper.semAt_some

set_option maxRecDepth 100000 in
set_option maxHeartbeats 1000000 in
theorem pieces_in (F : Fence) (n : Nat) (hf : F.fn 20) (hro : F.round = none) (A B : Option Addr) (k c k2 c2 : Nat) (w : World) :
    CallsIn F n Try.prog 20 #[.slice A k c, .slice B k2 c2] w fun e w' => e = .returned (.func (.func 22) #[] (piecesV (w.heap.size + 1) w.heap.size)) ∧ w' = (w.alloc (.cells #[.slice A k c] 22)).alloc (.cells #[.slice B k2 c2] 27) := by
  refine callsIn_of_wp Try.func20 rfl hf ?_ hro
  simp only [Try.ntmps20, List.size_toArray, List.length_cons, List.length_nil, Nat.reduceAdd, Nat.reduceSub, Array.replicate_succ, Array.replicate_zero, List.push_toArray, List.append_toArray, List.nil_append, List.cons_append]
  gi_wp2
  go_ret
  exact ⟨rfl, rfl⟩

/-- what pieces hands back stops: all pieces, in order, or a beginning of them -/
theorem pieces_stops (F : Fence) (n : Nat) (hf : F.fn 22) (hro : F.round = none) (hn : 1 ≤ n) (Bb Bt n₀ : Nat) (l : List ByteArray) (h8 : ∀ t ∈ l, t.size ≤ 8) (hln : l.length ≤ 255) (bs : List UInt8) (hbl : bs.length ≤ 1000000) {c c2 : Nat} {A B : Option Addr} (w : World)
    (hBb : Boxed w Bb 27 (.slice B bs.length c2)) (hBt : Boxed w Bt 22 (.slice A l.length c)) (hn₀ : n₀ ≤ w.heap.size) (hb : Rd w 0 n₀ B c2 (bv bs)) (ht : Rd w 0 n₀ A c (sv l)) :
    SeqStopsK F n Try.prog 22 (piecesV Bb Bt) encPc (Kp2 n₀ Bb Bt) (fun ys => ys = pcF l h8 false bs) (fun pre => pre <+: pcF l h8 false bs) (pcF l h8 false bs).length w := fun lp J Jx W hW _ _ hY h0 =>
  pieces1_in F n hf hro hn lp Bb Bt n₀ l h8 hln bs hbl J Jx hY W ((hW.cell (p := ⟨Bb, 0, none⟩) hBb.lt).trans hBb.cell) ((hW.cell (p := ⟨Bt, 0, none⟩) hBt.lt).trans hBt.cell) (hb.below hW hn₀) (ht.below hW hn₀) h0

theorem boxed_keep {X Y : World} {row : Option Nat} {B : Nat} {t : TypeId} {v : Value} (h : Boxed X B t v) (hg : X.grownBy Y row) (hr : ∀ r, row = some r → ∃ o : Obj, X.heap[r]? = some o ∧ o.isCells = false) : Boxed Y B t v :=
  h.kept hg fun e => by
    obtain ⟨o, ho, hc⟩ := hr B e.symm
    rw [show X.heap[B]? = _ from h] at ho
    cases ho
    cases hc
theorem row_keep {X Y : World} {row : Option Nat} {base : Nat} {e : TypeId} {size n : Nat} {v : Value} {xs : List Value} (h : X.ownsRow base e size v n xs) (hg : X.grownBy Y row) (hr : ∀ r, row = some r → ∃ o : Obj, X.heap[r]? = some o ∧ o.isCells = false) : Y.ownsRow base e size v n xs := by
  refine h.kept hg ?_
  rcases h.2 with ⟨rfl, _⟩ | ⟨g, cap, cur, rfl, _, hgb, _⟩
  · exact .inl rfl
  · refine .inr fun e' => ?_
    obtain ⟨o, ho, hc⟩ := hr g (by simpa [Value.ownBlock] using e'.symm)
    rw [hgb] at ho
    cases ho
    cases hc
theorem boxed_other {X : World} {B B2 : Nat} {t : TypeId} {v u : Value} (h : Boxed X B t v) (hne : B ≠ B2) : Boxed (X.setCell ⟨B2, 0, none⟩ u) B t v := h.kept (grownBy_setCell' X B2 u) (fun e => hne (by injection e))
theorem boxed_put {X : World} {D B : Nat} {t : TypeId} {v : Value} {o : Obj} (h : Boxed X B t v) (o' : Obj) (hD : X.heap[D]? = some o) (ho : o.isCells = false) : Boxed (X.putObj D o') B t v := boxed_keep h (grownBy_putObj' X D o') fun r e => by cases e; exact ⟨o, hD, ho⟩

set_option maxRecDepth 100000 in
set_option maxHeartbeats 4000000 in
theorem fcount_in (F : Fence) (n : Nat) (hf : F.fn 16) (hf1 : F.fn 20) (hf2 : F.fn 22) (hro : F.round = none) (hn : 4 ≤ n) {w : World} (l : List ByteArray) (h8 : ∀ t ∈ l, t.size ≤ 8) (hln : l.length ≤ 255) (bs : List UInt8) (hbl : bs.length ≤ 1000000) {c c2 : Nat} {A B : Option Addr} (ht : Rd w 0 w.heap.size A c (sv l)) (hb : Rd w 0 w.heap.size B c2 (bv bs)) :
    CallsIn F n Try.prog 16 #[.slice A l.length c, .slice B bs.length c2] w fun r w' => r = .returned (.int .i64 (cntP (pcF l h8 false bs) : Int)) ∧ Below w.heap.size w w' := by
  have h1 : 1 ≤ n := by omega
  refine callsIn_of_wp_marks Try.func16 rfl hf ?_ hro
  simp only [Try.ntmps16, List.size_toArray, List.length_cons, List.length_nil, Nat.reduceAdd, Nat.reduceSub, Array.replicate_succ, Array.replicate_zero, List.push_toArray, List.append_toArray, List.nil_append, List.cons_append]
  gi_wp2_with (gi_at_call 20; refine (pieces_in F (n - 1) hf1 hro _ _ _ _ _ _ _).mono ?_; rintro e w' ⟨rfl, rfl⟩)
  have bN := Boxed.new w 3 (.int .i64 0)
  have bT := Boxed.new (w.alloc (.cells #[.int .i64 0] 3)) 22 (.slice A l.length c)
  have bB := Boxed.new ((w.alloc (.cells #[.int .i64 0] 3)).alloc (.cells #[.slice A l.length c] 22)) 27 (.slice B bs.length c2)
  have hB0 : Below w.heap.size w (((w.alloc (.cells #[.int .i64 0] 3)).alloc (.cells #[.slice A l.length c] 22)).alloc (.cells #[.slice B bs.length c2] 27)) :=
    (((Below.refl _ w).alloc (Nat.le_refl _) _).alloc (by simp) _).alloc (by simp; omega) _
  have bN := (bN.alloc (.cells #[.slice A l.length c] 22)).alloc (.cells #[.slice B bs.length c2] 27)
  have bT := bT.alloc (.cells #[.slice B bs.length c2] 27)
  rw [World.size_alloc] at bT
  rw [World.size_alloc, World.size_alloc] at bB
  obtain ⟨w3, hw3⟩ : ∃ w3, ((w.alloc (.cells #[.int .i64 0] 3)).alloc (.cells #[.slice A l.length c] 22)).alloc (.cells #[.slice B bs.length c2] 27) = w3 := ⟨_, rfl⟩
  have hs3 : w3.heap.size = w.heap.size + 3 := by rw [← hw3]; simp
  rw [hw3] at bN bT bB hB0 ⊢
  clear hw3
  refine wpIn_rangeFunc_ownG hro h1 (gf := 22) (lb := piecesV (w.heap.size + 1 + 1) (w.heap.size + 1)) rfl hf2 (enters_of Try.func22 (by kernel_rfl) rfl)
    (pieces_stops F (n - 1) hf2 hro (by omega) (w.heap.size + 1 + 1) (w.heap.size + 1) w.heap.size l h8 hln bs hbl w3 bB bT (by omega) (hb.below hB0 (Nat.le_refl _)) (ht.below hB0 (Nat.le_refl _)))
    Kp2.trans (fun W lk o o' hlk hk ho hwk => ⟨belowK_b (w := w3) (by omega) W lk o o' hlk hk ho hwk, World.putObj_heap_other (by omega), World.putObj_heap_other (by omega)⟩) (Below.refl _ _) (fun _ => rfl)
    (fun pre W => (Boxed W w.heap.size 3 (.int .i64 (pre.length : Int)) ∧ ∀ r, cntP (pre ++ r) = pre.length + cntP r) ∧ Below w.heap.size w W)
    (fun c pre W => (c = .exit 0 ∧ ∃ k : Nat, Boxed W w.heap.size 3 (.int .i64 (k : Int)) ∧ ∀ r, cntP (pre ++ r) = k) ∧ Below w.heap.size w W)
    (OwnFrom.and (Own.from (fun s X Y row hs hg hr => ⟨boxed_keep hs.1 hg hr, hs.2⟩) _) (ownFrom_below (Nat.le_refl _) (by omega)))
    (fun c => OwnFrom.and (Own.from (fun s X Y row hs hg hr => by obtain ⟨e, k, hk, hr2⟩ := hs; exact ⟨e, k, boxed_keep hk hg hr, hr2⟩) _) (ownFrom_below (Nat.le_refl _) (by omega)))
    ⟨⟨bN, fun r => by rw [List.nil_append, List.length_nil, Nat.zero_add]⟩, hB0⟩
    (fun x => { tmps := #[.slice A l.length c, .slice B bs.length c2, undef, undef, .int .i64 0, .pointer (some ⟨w.heap.size, 0, none⟩), undef, .int .i64 (x.e : Int), .slice A l.length c, .slice B bs.length c2, .func (.func 22) #[] (piecesV (w.heap.size + 1 + 1) (w.heap.size + 1)), .string x.s, .int .i64 (x.e : Int), undef, undef, undef, undef, undef], defers := [] }) ?assign ?body ?done ?stop
  case assign =>
    intro lp x W K hK
    dsimp only [encPc]
    gi_wp2
    exact hK
  case body =>
    rintro lp pre x W ⟨⟨hbx, hcnt⟩, hB⟩ hlt
    have hc := hbx.cell
    have hfz := hbx.frozen
    have hpl := pc_len (l := l) (h8 := h8) bs false
    simp only [Bool.false_eq_true, if_false] at hpl
    by_cases hx : x.e = 0
    · have ix : (x.e : Int) = 0 := by omega
      have bx : ((x.e : Int) == 0) = true := by rw [ix]; rfl
      have HCN := Lib.hid hcnt
      gi_wp2
      exact ⟨(KeepsOthers.setCell _ _ _).from _, ⟨(Below.refl _ W).setCell (p := ⟨w.heap.size, 0, none⟩) (Nat.le_refl _) _, Below.heap_setCell _ _ _ _ (by show w.heap.size + 1 + 1 ≠ w.heap.size; omega), Below.heap_setCell _ _ _ _ (by show w.heap.size + 1 ≠ w.heap.size; omega)⟩,
        ⟨by have := hbx.set (.int .i64 ((pre ++ [x]).length : Int)); rw [List.length_append, List.length_singleton] at this ⊢; exact this, fun r => by rw [List.append_assoc, List.singleton_append, hcnt, cntP, if_neg (by omega), List.length_append, List.length_singleton]; omega⟩, hB.setCell (p := ⟨w.heap.size, 0, none⟩) (Nat.le_refl _) _⟩
    · have ix : ¬ (x.e : Int) = 0 := by omega
      have bx : ((x.e : Int) == 0) = false := by rw [beq_eq_false_iff_ne]; exact ix
      gi_wp2
      exact ⟨KeepsFrom.refl _ _, ⟨rfl, pre.length, hbx, fun r => by rw [List.append_assoc, List.singleton_append, hcnt, cntP, if_pos hx]; rfl⟩, hB⟩
  case done =>
    rintro D ys W hD rfl ⟨⟨hbx, hcnt⟩, hB⟩ hK
    have hc := hbx.cell
    have hfin := hcnt []
    rw [List.append_nil] at hfin
    gi_wp2
    refine ⟨by simp, .inl ⟨_, _, rfl, run_takeDeferred hK, ?_⟩⟩
    exact ⟨_, results_tmp rfl _ _ _, by rw [hfin]; rfl, hB.trans (belowK_b (w := w) (Nat.le_refl _) W D _ _ (by omega) hK rfl rfl)⟩
  case stop =>
    rintro D c' pre W hD ⟨r, hr⟩ ⟨⟨rfl, k, hbx, hcnt⟩, hB⟩ hK
    have hc := hbx.cell
    have hfin := hcnt r
    rw [hr] at hfin
    gi_wp2
    refine ⟨by simp, .inl ⟨_, _, rfl, run_takeDeferred hK, ?_⟩⟩
    exact ⟨_, results_tmp rfl _ _ _, by rw [hfin]; rfl, hB.trans (belowK_b (w := w) (Nat.le_refl _) W D _ _ (by omega) hK rfl rfl)⟩
end Go.Proofs.Ytniehbghgialjaa
