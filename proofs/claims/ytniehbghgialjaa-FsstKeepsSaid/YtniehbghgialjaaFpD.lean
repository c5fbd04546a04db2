/-
  The program's fsst: Decode.
-/
import Derived.Test.YtniehbghgialjaaFpJ
namespace Go.Proofs.Ytniehbghgialjaa
set_option linter.unusedSimpArgs false
set_option linter.unusedVariables false
open Go.RowKit Go.Shelf

attribute [local go_sem] Oper.semAt_some

/-- an append whose run is known, inside a fence -/
theorem wpListIn_append_run {F : Fence} {n : Nat} {P : Program} {w : World} {ops : Array Oper} {rest : List Oper} {o : Oper} {a : Act} {Q : Exit → Act → World → Prop}
    (hg : o.guard = none) (s x : Operand) (tys : Array TypeId) (hop : o.op = Op.call { callee := Callee.builtin Builtin.append, args := #[s, x], argTypes := tys }) (v y : Value) (hs : a.eval s = v) (hx : a.eval x = y) {r : Value} {w' : World}
    (hrun : (Builtin.append_ tys o.type #[v, y]).run P w = .ok r w') (hK : wpListIn F n P ops Q rest (a.put o.dst r) w') :
    wpListIn F n P ops Q (o :: rest) a w := by
  refine wpListIn_plain hg fun K hK' => ?_
  unfold Oper.wpIn
  refine ⟨?_, ?_⟩
  · simp [Oper.about, hop, resolve, Target.leads, Sem.run_pure]
  · rw [Oper.semAt_plain F _ _ (by rw [hop]; intro c hc'; cases hc')]
    simp [execOp, hop, resolve, invoke, builtin, hs, hx, hrun, Result.andThen]
    exact hK' _ _ hK

/-- what Decode has in memory between two rounds -/
structure DB (most : Int) (A B : Option Addr) (k c k2 c2 b0 b4 b5 : Nat) (W : World) : Prop where
  m : Boxed W b0 3 (.int .i64 most)
  t : Boxed W b4 22 (.slice A k c)
  b : Boxed W b5 27 (.slice B k2 c2)
theorem DB.keep {most : Int} {A B : Option Addr} {k c k2 c2 b0 b4 b5 : Nat} {X Y : World} {row : Option Nat} (h : DB most A B k c k2 c2 b0 b4 b5 X) (hg : X.grownBy Y row) (hr : ∀ r, row = some r → ∃ o : Obj, X.heap[r]? = some o ∧ o.isCells = false) : DB most A B k c k2 c2 b0 b4 b5 Y :=
  ⟨boxed_keep h.m hg hr, boxed_keep h.t hg hr, boxed_keep h.b hg hr⟩
structure DI (most : Int) (A B : Option Addr) (k c k2 c2 b0 b1 b2 b3 b4 b5 : Nat) (pre : List Pc) (W : World) : Prop where
  db : DB most A B k c k2 c2 b0 b4 b5 W
  s : Boxed W b1 9 (.string ⟨#[]⟩)
  e : Boxed W b2 30 (.int .i64 0)
  row : ∃ (A' : Option Addr) (c' : Nat) (o : List UInt8), Boxed W b3 27 (.slice A' o.length c') ∧ W.ownsRow b0 5 1 (.slice A' o.length c') o.length (bv o) ∧ o.length ≤ 8 * pre.length ∧ (o.length : Int) ≤ most ∧ ∀ r, dP most (pre ++ r) [] = dP most r o
structure DX (most : Int) (b1 b2 : Nat) (pre : List Pc) (W : World) : Prop where
  s : Boxed W b1 9 (.string ⟨#[]⟩)
  e : ∃ k : Nat, Boxed W b2 30 (.int .i64 (k : Int)) ∧ ∀ r, dP most (pre ++ r) [] = ([], k)
theorem DI.own (most : Int) (A B : Option Addr) (k c k2 c2 b0 b1 b2 b3 b4 b5 : Nat) : Own (DI most A B k c k2 c2 b0 b1 b2 b3 b4 b5) := fun s X Y row h hg hr => by
  obtain ⟨A', c', o, h1, h2, h3⟩ := h.row
  exact ⟨h.db.keep hg hr, boxed_keep h.s hg hr, boxed_keep h.e hg hr, A', c', o, boxed_keep h1 hg hr, row_keep h2 hg hr, h3⟩
theorem DX.own (most : Int) (b1 b2 : Nat) : Own (DX most b1 b2) := fun s X Y row h hg hr => by
  obtain ⟨k, h1, h2⟩ := h.e
  exact ⟨boxed_keep h.s hg hr, k, boxed_keep h1 hg hr, h2⟩
/-- six boxes laid one behind the other -/
theorem six_boxes (w : World) (t0 t1 t2 t3 t4 t5 : TypeId) (v0 v1 v2 v3 v4 v5 : Value) : ∃ W, (((((w.alloc (.cells #[v0] t0)).alloc (.cells #[v1] t1)).alloc (.cells #[v2] t2)).alloc (.cells #[v3] t3)).alloc (.cells #[v4] t4)).alloc (.cells #[v5] t5) = W ∧
    Boxed W w.heap.size t0 v0 ∧ Boxed W (w.heap.size + 1) t1 v1 ∧ Boxed W (w.heap.size + 1 + 1) t2 v2 ∧ Boxed W (w.heap.size + 1 + 1 + 1) t3 v3 ∧ Boxed W (w.heap.size + 1 + 1 + 1 + 1) t4 v4 ∧ Boxed W (w.heap.size + 1 + 1 + 1 + 1 + 1) t5 v5 ∧ Below w.heap.size w W ∧ W.heap.size = w.heap.size + 1 + 1 + 1 + 1 + 1 + 1 := by
  refine ⟨_, rfl, ?_, ?_, ?_, ?_, ?_, ?_, ?_, ?_⟩
  · exact (((((Boxed.new w t0 v0).alloc _).alloc _).alloc _).alloc _).alloc _
  · have := ((((Boxed.new (w.alloc (.cells #[v0] t0)) t1 v1).alloc (.cells #[v2] t2)).alloc (.cells #[v3] t3)).alloc (.cells #[v4] t4)).alloc (.cells #[v5] t5)
    simpa only [World.size_alloc] using this
  · have := (((Boxed.new ((w.alloc (.cells #[v0] t0)).alloc (.cells #[v1] t1)) t2 v2).alloc (.cells #[v3] t3)).alloc (.cells #[v4] t4)).alloc (.cells #[v5] t5)
    simpa only [World.size_alloc] using this
  · have := ((Boxed.new (((w.alloc (.cells #[v0] t0)).alloc (.cells #[v1] t1)).alloc (.cells #[v2] t2)) t3 v3).alloc (.cells #[v4] t4)).alloc (.cells #[v5] t5)
    simpa only [World.size_alloc] using this
  · have := (Boxed.new ((((w.alloc (.cells #[v0] t0)).alloc (.cells #[v1] t1)).alloc (.cells #[v2] t2)).alloc (.cells #[v3] t3)) t4 v4).alloc (.cells #[v5] t5)
    simpa only [World.size_alloc] using this
  · have := Boxed.new (((((w.alloc (.cells #[v0] t0)).alloc (.cells #[v1] t1)).alloc (.cells #[v2] t2)).alloc (.cells #[v3] t3)).alloc (.cells #[v4] t4)) t5 v5
    simpa only [World.size_alloc] using this
  · exact ((((((Below.refl _ w).alloc (Nat.le_refl _) _).alloc (by simp only [World.size_alloc]; omega) _).alloc (by simp only [World.size_alloc]; omega) _).alloc (by simp only [World.size_alloc]; omega) _).alloc (by simp only [World.size_alloc]; omega) _).alloc (by simp only [World.size_alloc]; omega) _
  · simp only [World.size_alloc]
/-- an append to the row in a box, of a string: all that is owed behind the store -/
theorem appendedS {W w1 : World} {n₀ B m : Nat} {t e : TypeId} {v v' : Value} {k : Nat} {xs ys : List Value} (hv : Boxed W B t v) (hte : t ≠ e) (hrow : W.ownsRow n₀ e 1 v k xs) (hB : n₀ ≤ B) (hn₀ : n₀ ≤ W.heap.size) (hown : w1.ownsRow n₀ e 1 v' m ys) (hg : W.grownBy w1 v.ownBlock) :
    Boxed w1 B t v ∧ Boxed (w1.setCell ⟨B, 0, none⟩ v') B t v' ∧ (w1.setCell ⟨B, 0, none⟩ v').ownsRow n₀ e 1 v' m ys ∧ KeepsOthers W (w1.setCell ⟨B, 0, none⟩ v') ∧ Below n₀ W (w1.setCell ⟨B, 0, none⟩ v') ∧
      ∀ (B2 : Nat) (t2 : TypeId) (u : Value), B2 ≠ B → t2 ≠ e → Boxed W B2 t2 u → Boxed (w1.setCell ⟨B, 0, none⟩ v') B2 t2 u := by
  have hv1 : Boxed w1 B t v := hv.kept hg (hv.not_row hte hrow)
  refine ⟨hv1, hv1.set v', hown.kept (grownBy_setCell' w1 B v') (.inr (hv1.not_row hte hown).symm), ?_, ?_, fun B2 t2 u hne h2 hu => boxed_other (hu.kept hg (hu.not_row h2 hrow)) hne⟩
  · refine (KeepsOthers.of_grownBy hg fun j o ej hj => ?_).trans (KeepsOthers.setCell _ _ _)
    rcases hrow.2 with ⟨rfl, _⟩ | ⟨g, cap, cur, rfl, _, hgb, _⟩
    · simp [Value.ownBlock] at ej
    · obtain rfl : g = j := by simpa [Value.ownBlock] using ej
      rw [hgb] at hj
      cases hj
      rfl
  · exact ((Below.refl n₀ W).grown hg hn₀ (fun j ej => (own_lt hrow ej).1)).setCell (p := ⟨B, 0, none⟩) hB v'

set_option maxRecDepth 100000 in
set_option maxHeartbeats 4000000 in
theorem fdecode_in (F : Fence) (n : Nat) (hf : F.fn 14) (hf1 : F.fn 20) (hf2 : F.fn 22) (hro : F.round = none) (hn : 4 ≤ n) {w : World} (l : List ByteArray) (h8 : ∀ t ∈ l, t.size ≤ 8) (hln : l.length ≤ 255) (bs : List UInt8) (hbl : bs.length ≤ 1000000) (most : Int) (hm0 : 0 ≤ most) (hm1 : most ≤ 9223372036854775807) {c c2 : Nat} {A B : Option Addr} (ht : Rd w 0 w.heap.size A c (sv l)) (hb : Rd w 0 w.heap.size B c2 (bv bs)) :
    CallsIn F n Try.prog 14 #[.slice A l.length c, .slice B bs.length c2, .int .i64 most] w fun r w' => r = .returned (.tuple #[.string ⟨(dP most (pcF l h8 false bs) []).1.toArray⟩, .int .i64 ((dP most (pcF l h8 false bs) []).2 : Int)]) ∧ Below w.heap.size w w' := by
  have h1 : 1 ≤ n := by omega
  refine callsIn_of_wp_marks Try.func14 rfl hf ?_ hro
  simp only [Try.ntmps14, List.size_toArray, List.length_cons, List.length_nil, Nat.reduceAdd, Nat.reduceSub, Array.replicate_succ, Array.replicate_zero, List.push_toArray, List.append_toArray, List.nil_append, List.cons_append]
  gi_wp2_with (gi_at_call 20; refine (pieces_in F (n - 1) hf1 hro _ _ _ _ _ _ _).mono ?_; rintro e w' ⟨rfl, rfl⟩)
  obtain ⟨W6, hW6, x0, x1, x2, x3, x4, x5, hB0, hs6⟩ := six_boxes w 3 9 30 27 22 27 (.int .i64 most) (.string ⟨#[]⟩) (.int .i64 0) (.slice none 0 0) (.slice A l.length c) (.slice B bs.length c2)
  rw [hW6]
  clear hW6
  obtain ⟨b1, e1⟩ : ∃ b, w.heap.size + 1 = b := ⟨_, rfl⟩
  rw [e1] at x1 x2 x3 x4 x5 hs6 ⊢
  obtain ⟨b2, e2⟩ : ∃ b, b1 + 1 = b := ⟨_, rfl⟩
  rw [e2] at x2 x3 x4 x5 hs6 ⊢
  obtain ⟨b3, e3⟩ : ∃ b, b2 + 1 = b := ⟨_, rfl⟩
  rw [e3] at x3 x4 x5 hs6 ⊢
  obtain ⟨b4, e4⟩ : ∃ b, b3 + 1 = b := ⟨_, rfl⟩
  rw [e4] at x4 x5 hs6 ⊢
  obtain ⟨b5, e5⟩ : ∃ b, b4 + 1 = b := ⟨_, rfl⟩
  rw [e5] at x5 hs6 ⊢
  obtain ⟨b0, e0⟩ : ∃ b, w.heap.size = b := ⟨_, rfl⟩
  rw [e0] at x0 e1 hB0 ht hb ⊢
  refine wpIn_rangeFunc_ownG hro h1 (gf := 22) (lb := piecesV b5 b4) rfl hf2 (enters_of Try.func22 (by kernel_rfl) rfl)
    (pieces_stops F (n - 1) hf2 hro (by omega) b5 b4 b0 l h8 hln bs hbl W6 x5 x4 (by omega) (hb.below hB0 (Nat.le_refl _)) (ht.below hB0 (Nat.le_refl _)))
    Kp2.trans (fun W lk o o' hlk hk ho hwk => ⟨belowK_b (w := W6) (by omega) W lk o o' hlk hk ho hwk, World.putObj_heap_other (by omega), World.putObj_heap_other (by omega)⟩) (Below.refl _ _) (fun _ => rfl)
    (fun pre W => DI most A B l.length c bs.length c2 b0 b1 b2 b3 b4 b5 pre W ∧ Below b0 w W)
    (fun c pre W => (c = .ret ∧ DX most b1 b2 pre W) ∧ Below b0 w W)
    (OwnFrom.and (Own.from (DI.own _ _ _ _ _ _ _ _ _ _ _ _ _) _) (ownFrom_below (by omega) (by omega)))
    (fun c => OwnFrom.and (Own.from (fun s X Y row hs hg hr => ⟨hs.1, DX.own _ _ _ s X Y row hs.2 hg hr⟩) _) (ownFrom_below (by omega) (by omega)))
    ⟨⟨⟨x0, x4, x5⟩, x1, x2, none, 0, [], x3, World.ownsRow_nil _ _ _ _, Nat.zero_le _, hm0, fun r => rfl⟩, hB0⟩
    (fun x => { tmps := #[.slice A l.length c, .slice B bs.length c2, .int .i64 most, undef, undef, .pointer (some ⟨b0, 0, none⟩), .pointer (some ⟨b1, 0, none⟩), .pointer (some ⟨b2, 0, none⟩), .pointer (some ⟨b3, 0, none⟩), .string x.s, .int .i64 (x.e : Int), .int .i64 most, .bool (decide (most < 0)), .slice A l.length c, .slice B bs.length c2, .func (.func 22) #[] (piecesV b5 b4), .string x.s, .int .i64 (x.e : Int), undef, undef, undef, undef, undef, undef, undef, undef, undef, undef, undef, undef, undef, undef, undef], defers := [] }) ?assign ?body ?done ?stop
  case assign =>
    intro lp x W K hK
    dsimp only [encPc]
    gi_wp2
    exact hK
  case body =>
    rintro lp pre x W ⟨hI, hB⟩ hlt
    obtain ⟨⟨hm, hT, hBb⟩, hs, he, A', c', o, hv, hown, hol, hom, hdp⟩ := hI
    have cm := hm.cell
    have cs := hs.cell
    have fs := hs.frozen
    have ce := he.cell
    have fe := he.frozen
    have cv := hv.cell
    have hpl := pc_len (l := l) (h8 := h8) bs false
    simp only [Bool.false_eq_true, if_false] at hpl
    have hz := hB.size
    have hx8 := x.h
    have HDP := Lib.hid hdp
    have HOWN := Lib.hid hown
    clear hdp hown
    have n12 : b1 ≠ b2 := by omega
    by_cases hx : x.e = 0
    · have ix : (x.e : Int) = 0 := by omega
      have bx : ((x.e : Int) == 0) = true := by rw [ix]; rfl
      have wm : IntKind.i64.wrap (most - (o.length : Int)) = most - (o.length : Int) := IntWalk.i64_in _ (by omega)
      by_cases hmo : most < ((o.length + x.s.size : Nat) : Int)
      · have d1 : most - (o.length : Int) < (x.s.size : Int) := by omega
        have d2 : decide (most - (o.length : Int) < (x.s.size : Int)) = true := decide_eq_true d1
        have HE : Hid (∀ r, dP most (pre ++ [x] ++ r) [] = ([], 6)) := fun r => by rw [List.append_assoc, List.singleton_append, HDP.out, dP, if_neg (by omega), if_pos hmo]
        clear hmo
        gi_wp2
        exact ⟨((KeepsOthers.setCell _ _ _).trans (KeepsOthers.setCell _ _ _)).from _, ⟨rfl, boxed_other (hs.set _) n12, 6, (boxed_other he n12.symm).set _, HE.out⟩, (hB.setCell (p := ⟨b1, 0, none⟩) (by show b0 ≤ b1; omega) _).setCell (p := ⟨b2, 0, none⟩) (by show b0 ≤ b2; omega) _⟩
      · have d1 : ¬ most - (o.length : Int) < (x.s.size : Int) := by omega
        have d2 : decide (most - (o.length : Int) < (x.s.size : Int)) = false := decide_eq_false d1
        have HE : Hid (∀ r, dP most (pre ++ [x] ++ r) [] = dP most r (o ++ x.s.data.toList)) := fun r => by rw [List.append_assoc, List.singleton_append, HDP.out, dP, if_neg (by omega), if_neg hmo]
        obtain ⟨i0, hi0, hz0, hz1, hz2⟩ := info_parts Try.infoU8
        obtain ⟨A2, c3, w1, hrun, ho2, hg2, -⟩ := run_append_str (P := Try.prog) W b0 27 9 27 5 i0 Try.underlying27 Try.underlying9 hi0 hz0 hz1 hz2 (.slice A' o.length c') o.length (bv o) HOWN.out x.s (by omega) (by omega)
        rw [← bv_append] at ho2
        obtain ⟨o2, he2⟩ : ∃ o2, o ++ x.s.data.toList = o2 := ⟨_, rfl⟩
        have hl2 : o.length + x.s.size = o2.length := by rw [← he2, List.length_append, lenS]
        rw [he2] at ho2 HE
        rw [hl2] at ho2 hrun
        obtain ⟨y1, y2, y3, y4, y5, y6⟩ := appendedS hv (by decide) HOWN.out (by omega) (by omega) ho2 hg2
        have cy := y1.cell
        have fy := y1.frozen
        have HRUN := Lib.hid hrun
        have HL2 := Lib.hid hl2
        have HP := Lib.hid (⟨y6 b0 _ _ (by omega) (by decide) hm, y6 b4 _ _ (by omega) (by decide) hT, y6 b5 _ _ (by omega) (by decide) hBb, y6 b1 _ _ (by omega) (by decide) hs, y6 b2 _ _ (by omega) (by decide) he⟩ : _ ∧ _ ∧ _ ∧ _ ∧ _)
        have H2 := Lib.hid y2
        have H3 := Lib.hid y3
        clear hrun hl2 he2 y2 y3 y6 hg2
        gi_wp2_with (gi_at_builtin; refine wpListIn_append_run rfl _ _ _ rfl _ _ rfl rfl HRUN.out ?_)
        obtain ⟨z0, z4, z5, z1, z2⟩ := HP.out
        have hl2 := HL2.out
        exact ⟨y4.from _, ⟨y5, z5.trans hBb.symm, z4.trans hT.symm⟩, ⟨⟨z0, z4, z5⟩, z1, z2, A2, c3, o2, H2.out, H3.out, by rw [List.length_append, List.length_singleton]; omega, by omega, HE.out⟩, hB.trans y5⟩
    · have ix : ¬ (x.e : Int) = 0 := by omega
      have bx : ((x.e : Int) == 0) = false := by rw [beq_eq_false_iff_ne]; exact ix
      have HE : Hid (∀ r, dP most (pre ++ [x] ++ r) [] = ([], x.e)) := fun r => by rw [List.append_assoc, List.singleton_append, HDP.out, dP, if_pos hx]
      gi_wp2
      exact ⟨((KeepsOthers.setCell _ _ _).trans (KeepsOthers.setCell _ _ _)).from _, ⟨rfl, boxed_other (hs.set _) n12, x.e, (boxed_other he n12.symm).set _, HE.out⟩, (hB.setCell (p := ⟨b1, 0, none⟩) (by show b0 ≤ b1; omega) _).setCell (p := ⟨b2, 0, none⟩) (by show b0 ≤ b2; omega) _⟩
  case done =>
    rintro D ys W hD rfl ⟨hI, hB⟩ hK
    obtain ⟨⟨hm, hT, hBb⟩, hs, he, A', c', o, hv, hown, hol, hom, hdp⟩ := hI
    have hpl := pc_len (l := l) (h8 := h8) bs false
    simp only [Bool.false_eq_true, if_false] at hpl
    have n12 : b1 ≠ b2 := by omega
    have cs := hs.cell
    have fs := hs.frozen
    have ce := he.cell
    have fe := he.frozen
    have cv := hv.cell
    have hfin := hdp []
    rw [List.append_nil, dP] at hfin
    have hcv : (convert 27 9 (.slice A' o.length c')).run Try.prog W = .ok (.string ⟨o.toArray⟩) W := run_string_rd (P := Try.prog) W 27 9 5 Try.underlying27 Try.underlying5 Try.underlying9 _ _ A' c' o (Rd.of_own hown)
    have HF := Lib.hid hfin
    clear hdp hown hfin
    gi_wp2
    have hK' := ((KeepsOthers.setCell W ⟨b1, 0, none⟩ (.string ⟨o.toArray⟩)).trans (KeepsOthers.setCell _ ⟨b2, 0, none⟩ (.int .i64 0))).same D _ hK rfl
    refine ⟨by simp, .inl ⟨_, _, rfl, run_takeDeferred hK', ?_⟩⟩
    have cs2 := (boxed_put (boxed_other (hs.set (.string ⟨o.toArray⟩)) n12) (.deferred none) hK' rfl).cell
    have ce2 := (boxed_put ((boxed_other he n12.symm).set (.int .i64 0)) (.deferred none) hK' rfl).cell
    subst e0
    refine ⟨.tuple #[.string ⟨o.toArray⟩, .int .i64 0], ?_, by rw [HF.out]; rfl, ((hB.setCell (p := ⟨b1, 0, none⟩) (by show w.heap.size ≤ b1; omega) _).setCell (p := ⟨b2, 0, none⟩) (by show w.heap.size ≤ b2; omega) _).trans (belowK_b (w := w) (Nat.le_refl _) _ D _ _ (by omega) hK' rfl rfl)⟩
    simp [results, Try.f14, go_sem, cs2, ce2]
  case stop =>
    rintro D c' pre W hD ⟨r, hr⟩ ⟨⟨rfl, hX⟩, hB⟩ hK
    obtain ⟨hs, k, he, hdp⟩ := hX
    have hfin := hdp r
    rw [hr] at hfin
    gi_wp2
    refine ⟨by simp, .inl ⟨_, _, rfl, run_takeDeferred hK, ?_⟩⟩
    have cs := (boxed_put hs (.deferred none) hK rfl).cell
    have ce := (boxed_put he (.deferred none) hK rfl).cell
    subst e0
    refine ⟨.tuple #[.string ⟨#[]⟩, .int .i64 (k : Int)], ?_, by rw [hfin], hB.trans (belowK_b (w := w) (Nat.le_refl _) W D _ _ (by omega) hK rfl rfl)⟩
    simp [results, Try.f14, go_sem, cs, ce]
set_option maxRecDepth 100000 in
set_option maxHeartbeats 4000000 in
theorem fdecode_neg (F : Fence) (n : Nat) (hf : F.fn 14) (hro : F.round = none) {w : World} (most : Int) (hm0 : most < 0) {k c k2 c2 : Nat} {A B : Option Addr} :
    CallsIn F n Try.prog 14 #[.slice A k c, .slice B k2 c2, .int .i64 most] w fun r w' => r = .returned (.tuple #[.string ⟨#[]⟩, .int .i64 6]) ∧ Below w.heap.size w w' := by
  refine callsIn_of_wp_marks Try.func14 rfl hf ?_ hro
  simp only [Try.ntmps14, List.size_toArray, List.length_cons, List.length_nil, Nat.reduceAdd, Nat.reduceSub, Array.replicate_succ, Array.replicate_zero, List.push_toArray, List.append_toArray, List.nil_append, List.cons_append]
  have d1 : decide (most < 0) = true := decide_eq_true hm0
  gi_wp2
  refine ⟨.tuple #[.string ⟨#[]⟩, .int .i64 6], ?_, rfl, (((Below.refl _ w).alloc (Nat.le_refl _) _).alloc (by simp) _).alloc (by simp; omega) _⟩
  simp [results, Try.f14, go_sem]
/-- in plain -/
theorem fdecode_any {w : World} (l : List ByteArray) (h8 : ∀ t ∈ l, t.size ≤ 8) (hln : l.length ≤ 255) (bs : List UInt8) (hbl : bs.length ≤ 1000000) (most : Int) (hm0 : 0 ≤ most) (hm1 : most ≤ 9223372036854775807) {c c2 : Nat} {A B : Option Addr} (ht : Rd w 0 w.heap.size A c (sv l)) (hb : Rd w 0 w.heap.size B c2 (bv bs)) :
    Calls Try.prog 14 #[.slice A l.length c, .slice B bs.length c2, .int .i64 most] w fun r w' => r = .returned (.tuple #[.string ⟨(decL (bytL2 l) most bs [] 0).1.toArray⟩, .int .i64 ((decL (bytL2 l) most bs [] 0).2.1 : Int)]) ∧ Below w.heap.size w w' := by
  obtain ⟨e1, e2⟩ := dP_dec (l := l) (h8 := h8) (most := most) bs.length bs [] 0 (Nat.le_refl _)
  rw [e1, e2]
  exact (callsIn_wide (n := 4)).1 (fdecode_in Fence.wide 4 trivial trivial trivial rfl (Nat.le_refl _) l h8 hln bs hbl most hm0 hm1 ht hb)
theorem fdecode_less {w : World} (most : Int) (hm0 : most < 0) {k c k2 c2 : Nat} {A B : Option Addr} :
    Calls Try.prog 14 #[.slice A k c, .slice B k2 c2, .int .i64 most] w fun r w' => r = .returned (.tuple #[.string ⟨#[]⟩, .int .i64 6]) ∧ Below w.heap.size w w' :=
  (callsIn_wide (n := 4)).1 (fdecode_neg Fence.wide 4 trivial rfl most hm0)
theorem fcount_any {w : World} (l : List ByteArray) (h8 : ∀ t ∈ l, t.size ≤ 8) (hln : l.length ≤ 255) (bs : List UInt8) (hbl : bs.length ≤ 1000000) (most : Int) (hm : ((8 * bs.length : Nat) : Int) ≤ most) {c c2 : Nat} {A B : Option Addr} (ht : Rd w 0 w.heap.size A c (sv l)) (hb : Rd w 0 w.heap.size B c2 (bv bs)) :
    Calls Try.prog 16 #[.slice A l.length c, .slice B bs.length c2] w fun r w' => r = .returned (.int .i64 ((decL (bytL2 l) most bs [] 0).2.2 : Int)) ∧ Below w.heap.size w w' := by
  rw [cnt_dec (l := l) (h8 := h8) bs.length bs [] 0 (Nat.le_refl _) (by simpa using hm), Nat.zero_add]
  exact (callsIn_wide (n := 4)).1 (fcount_in Fence.wide 4 trivial trivial trivial rfl (Nat.le_refl _) l h8 hln bs hbl ht hb)
end Go.Proofs.Ytniehbghgialjaa
