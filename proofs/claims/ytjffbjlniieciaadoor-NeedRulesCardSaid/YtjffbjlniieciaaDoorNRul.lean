/-
  Proved: NeedRules of layer 16: what is said of a predicate and of Not of it; And and Or of one and the same say the same; by Not they change places; what came in reads as it did. Conditions: none of our own; the row lists two of the library's tables (unicode/utf8.acceptRanges, unicode/utf8.first), tied to the program's text by the given tie, and names one more of the library's variables (internal/bytealg.MaxLen), whatever it holds.
-/
import Derived.Test.YtjffbjlniieciaaDoorMgE
import Derived.Test.YtjffbjlniieciaaDoorPrdO
import Derived.Test.YtjffbjlniieciaaDoorShell
import Derived.Test.YtjffbjlniieciaaDoorTieE
import Derived.Test.YtjffbjlniieciaaDoorTie
import Derived.Test.YtjffbjlniieciaaDoorCards
import Derived.Lay
import Derived.LaidOnce
import Derived.SevenTiedAt
import Derived.MakeChecks
import Derived.Test.YtjffbjlniieciaaDoorNeN
import Derived.Deep.DeepCutAuto
namespace Go.Proofs.YtjffbjlniieciaaDoor
set_option linter.unusedSimpArgs false
set_option linter.unusedVariables false
open Go.ChangeShapes Go.WideShapes Go.ChangeAt Go.RowKit
open Go.ChangeMaps (open_string shut_string)

set_option maxRecDepth 20000 in
set_option maxHeartbeats 4000000 in
theorem needRules_walk {w : World} {A : Option Addr} {p : Pr} {c : Nat} (hpk : PrOk p ∧ Kin w 0 w.heap.size p.kids A c) {A2 : Option Addr} {u : Pr} {c2 : Nat} (huk : PrOk u ∧ Kin w 0 w.heap.size u.kids A2 c2) {B : Option Addr} {row : List Vl} {rc : Nat} (hrow : Row w 0 w.heap.size B rc row) (hT : Env w) :
    Calls Tryd.prog 8 #[.agg #[.int .i64 p.kind, .int .i64 p.col, .string p.s, .int .i64 p.esc, .int .i64 p.coll, .slice A p.kids.length c], .agg #[.int .i64 u.kind, .int .i64 u.col, .string u.s, .int .i64 u.esc, .int .i64 u.coll, .slice A2 u.kids.length c2], .slice B row.length rc] w fun e w' => e = .returned (.bool true) ∧ Below w.heap.size w w' := by
  have HXe_w := Lib.hid (EnvX.of hT)
  clear hT
  obtain ⟨ho, hk⟩ := hpk
  have HO := Lib.hid ho
  have HXp_w := Lib.hid hk
  have hkl := hk.len
  clear ho hk
  obtain ⟨ho2, hk2⟩ := huk
  have HO2 := Lib.hid ho2
  have HXu_w := Lib.hid hk2
  have hkl2 := hk2.len
  clear ho2 hk2
  have HXr_w := Lib.hid hrow
  have hrl := hrow.len
  clear hrow
  obtain ⟨w0, hw_w0⟩ : ∃ q, w.alloc (.cells #[.int .i64 p.kind, .int .i64 p.col, .string p.s, .int .i64 p.esc, .int .i64 p.coll, .slice A p.kids.length c] 24) = q := ⟨_, rfl⟩
  have b_w0 : Below w.heap.size w w0 := by rw [← hw_w0]; exact (Below.refl _ _).alloc (Nat.le_refl _) _
  have HVx : Hid (Blk w0 w.heap.size 24 #[.int .i64 p.kind, .int .i64 p.col, .string p.s, .int .i64 p.esc, .int .i64 p.coll, .slice A p.kids.length c]) := by unfold Hid; rw [← hw_w0]; exact Blk.new _ _ _
  have HXe_w0 := Lib.hid ((HXe_w.out.below b_w0 (Nat.le_refl _)).wide (Nat.le_refl _) b_w0.size)
  have HXp_w0 := Lib.hid (Kin.wide (Nat.le_refl _) b_w0.size (HXp_w.out.kept b_w0 (Nat.le_refl _)))
  have HXu_w0 := Lib.hid (Kin.wide (Nat.le_refl _) b_w0.size (HXu_w.out.kept b_w0 (Nat.le_refl _)))
  have HXr_w0 := Lib.hid ((HXr_w.out.below b_w0 (Nat.le_refl _)).wide (Nat.le_refl _) b_w0.size)
  have HB_w0 := Lib.hid b_w0
  have S_w0 := HB_w0.out.size
  clear b_w0   HXe_w HXp_w HXu_w HXr_w 
  have HVp_w0 := Lib.hid HVx.out
  clear HVx
  obtain ⟨w1, hw_w1⟩ : ∃ q, w0.alloc (.cells #[.int .i64 u.kind, .int .i64 u.col, .string u.s, .int .i64 u.esc, .int .i64 u.coll, .slice A2 u.kids.length c2] 24) = q := ⟨_, rfl⟩
  have b_w1 : Below w0.heap.size w0 w1 := by rw [← hw_w1]; exact (Below.refl _ _).alloc (Nat.le_refl _) _
  have HVx : Hid (Blk w1 w0.heap.size 24 #[.int .i64 u.kind, .int .i64 u.col, .string u.s, .int .i64 u.esc, .int .i64 u.coll, .slice A2 u.kids.length c2]) := by unfold Hid; rw [← hw_w1]; exact Blk.new _ _ _
  have HXe_w1 := Lib.hid ((HXe_w0.out.below b_w1 (Nat.le_refl _)).wide (Nat.le_refl _) b_w1.size)
  have HXp_w1 := Lib.hid (Kin.wide (Nat.le_refl _) b_w1.size (HXp_w0.out.kept b_w1 (Nat.le_refl _)))
  have HXu_w1 := Lib.hid (Kin.wide (Nat.le_refl _) b_w1.size (HXu_w0.out.kept b_w1 (Nat.le_refl _)))
  have HXr_w1 := Lib.hid ((HXr_w0.out.below b_w1 (Nat.le_refl _)).wide (Nat.le_refl _) b_w1.size)
  have HVp_w1 := Lib.hid (HVp_w0.out.below b_w1 HVp_w0.out.lt)
  have HB_w1 := Lib.hid (below_below HB_w0.out b_w1 S_w0)
  have S_w1 := HB_w1.out.size
  clear b_w1 HB_w0  HXe_w0 HXp_w0 HXu_w0 HXr_w0 HVp_w0 
  have HVu_w1 := Lib.hid HVx.out
  clear HVx
  by_cases h8 : row.length ≤ 8
  · have e8 : decide ((8 : Int) < (row.length : Int)) = false := decide_eq_false (by omega)
    have e8b : ¬ (8 : Int) < (row.length : Int) := by omega
    go_enter Tryd.func8, Tryd.ntmps8
    go_wp2_with fail
    clear hw_w0 hw_w1
    refine (awake16_any HXe_w1.out.env).mono ?_
    rintro r w2 ⟨rfl, b_w2⟩
    have HXe_w2 := Lib.hid ((HXe_w1.out.below b_w2 (Nat.le_refl _)).wide (Nat.le_refl _) b_w2.size)
    have HXp_w2 := Lib.hid (Kin.wide (Nat.le_refl _) b_w2.size (HXp_w1.out.kept b_w2 (Nat.le_refl _)))
    have HXu_w2 := Lib.hid (Kin.wide (Nat.le_refl _) b_w2.size (HXu_w1.out.kept b_w2 (Nat.le_refl _)))
    have HXr_w2 := Lib.hid ((HXr_w1.out.below b_w2 (Nat.le_refl _)).wide (Nat.le_refl _) b_w2.size)
    have HVp_w2 := Lib.hid (HVp_w1.out.below b_w2 HVp_w1.out.lt)
    have HVu_w2 := Lib.hid (HVu_w1.out.below b_w2 HVu_w1.out.lt)
    have HB_w2 := Lib.hid (below_below HB_w1.out b_w2 S_w1)
    have S_w2 := HB_w2.out.size
    clear b_w2 HB_w1  HXe_w1 HXp_w1 HXu_w1 HXr_w1 HVp_w1 HVu_w1 
    have cp0 : w2.cell? ⟨w.heap.size, 0, none⟩ = some (.int .i64 p.kind) := HVp_w2.out.cell 0
    have zp0 := HVp_w2.out.frozen 0
    have cp1 : w2.cell? ⟨w.heap.size, 1, none⟩ = some (.int .i64 p.col) := HVp_w2.out.cell 1
    have zp1 := HVp_w2.out.frozen 1
    have cp2 : w2.cell? ⟨w.heap.size, 2, none⟩ = some (.string p.s) := HVp_w2.out.cell 2
    have zp2 := HVp_w2.out.frozen 2
    have cp3 : w2.cell? ⟨w.heap.size, 3, none⟩ = some (.int .i64 p.esc) := HVp_w2.out.cell 3
    have zp3 := HVp_w2.out.frozen 3
    have cp4 : w2.cell? ⟨w.heap.size, 4, none⟩ = some (.int .i64 p.coll) := HVp_w2.out.cell 4
    have zp4 := HVp_w2.out.frozen 4
    have cp5 : w2.cell? ⟨w.heap.size, 5, none⟩ = some (.slice A p.kids.length c) := HVp_w2.out.cell 5
    have zp5 := HVp_w2.out.frozen 5
    go_wp2_with fail
    clear cp0 zp0 cp1 zp1 cp2 zp2 cp3 zp3 cp4 zp4 cp5 zp5
    cases hsm : smallP p 20 with
    | true =>
      refine (small_is HO.out HXp_w2.out true hsm).mono ?_
      rintro r w3 ⟨rfl, b_w3⟩
      have HXe_w3 := Lib.hid ((HXe_w2.out.below b_w3 (Nat.le_refl _)).wide (Nat.le_refl _) b_w3.size)
      have HXp_w3 := Lib.hid (Kin.wide (Nat.le_refl _) b_w3.size (HXp_w2.out.kept b_w3 (Nat.le_refl _)))
      have HXu_w3 := Lib.hid (Kin.wide (Nat.le_refl _) b_w3.size (HXu_w2.out.kept b_w3 (Nat.le_refl _)))
      have HXr_w3 := Lib.hid ((HXr_w2.out.below b_w3 (Nat.le_refl _)).wide (Nat.le_refl _) b_w3.size)
      have HVp_w3 := Lib.hid (HVp_w2.out.below b_w3 HVp_w2.out.lt)
      have HVu_w3 := Lib.hid (HVu_w2.out.below b_w3 HVu_w2.out.lt)
      have HB_w3 := Lib.hid (below_below HB_w2.out b_w3 S_w2)
      have S_w3 := HB_w3.out.size
      clear b_w3 HB_w2  HXe_w2 HXp_w2 HXu_w2 HXr_w2 HVp_w2 HVu_w2 
      have cu0 : w3.cell? ⟨w0.heap.size, 0, none⟩ = some (.int .i64 u.kind) := HVu_w3.out.cell 0
      have zu0 := HVu_w3.out.frozen 0
      have cu1 : w3.cell? ⟨w0.heap.size, 1, none⟩ = some (.int .i64 u.col) := HVu_w3.out.cell 1
      have zu1 := HVu_w3.out.frozen 1
      have cu2 : w3.cell? ⟨w0.heap.size, 2, none⟩ = some (.string u.s) := HVu_w3.out.cell 2
      have zu2 := HVu_w3.out.frozen 2
      have cu3 : w3.cell? ⟨w0.heap.size, 3, none⟩ = some (.int .i64 u.esc) := HVu_w3.out.cell 3
      have zu3 := HVu_w3.out.frozen 3
      have cu4 : w3.cell? ⟨w0.heap.size, 4, none⟩ = some (.int .i64 u.coll) := HVu_w3.out.cell 4
      have zu4 := HVu_w3.out.frozen 4
      have cu5 : w3.cell? ⟨w0.heap.size, 5, none⟩ = some (.slice A2 u.kids.length c2) := HVu_w3.out.cell 5
      have zu5 := HVu_w3.out.frozen 5
      go_wp2_with fail
      clear cu0 zu0 cu1 zu1 cu2 zu2 cu3 zu3 cu4 zu4 cu5 zu5
      cases hsm2 : smallP u 20 with
      | true =>
        refine (small_is HO2.out HXu_w3.out true hsm2).mono ?_
        rintro r w4 ⟨rfl, b_w4⟩
        have HXe_w4 := Lib.hid ((HXe_w3.out.below b_w4 (Nat.le_refl _)).wide (Nat.le_refl _) b_w4.size)
        have HXp_w4 := Lib.hid (Kin.wide (Nat.le_refl _) b_w4.size (HXp_w3.out.kept b_w4 (Nat.le_refl _)))
        have HXu_w4 := Lib.hid (Kin.wide (Nat.le_refl _) b_w4.size (HXu_w3.out.kept b_w4 (Nat.le_refl _)))
        have HXr_w4 := Lib.hid ((HXr_w3.out.below b_w4 (Nat.le_refl _)).wide (Nat.le_refl _) b_w4.size)
        have HVp_w4 := Lib.hid (HVp_w3.out.below b_w4 HVp_w3.out.lt)
        have HVu_w4 := Lib.hid (HVu_w3.out.below b_w4 HVu_w3.out.lt)
        have HB_w4 := Lib.hid (below_below HB_w3.out b_w4 S_w3)
        have S_w4 := HB_w4.out.size
        clear b_w4 HB_w3  HXe_w3 HXp_w3 HXu_w3 HXr_w3 HVp_w3 HVu_w3 
        have cp0 : w4.cell? ⟨w.heap.size, 0, none⟩ = some (.int .i64 p.kind) := HVp_w4.out.cell 0
        have zp0 := HVp_w4.out.frozen 0
        have cp1 : w4.cell? ⟨w.heap.size, 1, none⟩ = some (.int .i64 p.col) := HVp_w4.out.cell 1
        have zp1 := HVp_w4.out.frozen 1
        have cp2 : w4.cell? ⟨w.heap.size, 2, none⟩ = some (.string p.s) := HVp_w4.out.cell 2
        have zp2 := HVp_w4.out.frozen 2
        have cp3 : w4.cell? ⟨w.heap.size, 3, none⟩ = some (.int .i64 p.esc) := HVp_w4.out.cell 3
        have zp3 := HVp_w4.out.frozen 3
        have cp4 : w4.cell? ⟨w.heap.size, 4, none⟩ = some (.int .i64 p.coll) := HVp_w4.out.cell 4
        have zp4 := HVp_w4.out.frozen 4
        have cp5 : w4.cell? ⟨w.heap.size, 5, none⟩ = some (.slice A p.kids.length c) := HVp_w4.out.cell 5
        have zp5 := HVp_w4.out.frozen 5
        go_wp2_with fail
        clear cp0 zp0 cp1 zp1 cp2 zp2 cp3 zp3 cp4 zp4 cp5 zp5
        cases hrp : rightP p row.length 9 with
        | true =>
          refine (refright_is HO.out HXp_w4.out row.length 9 (by decide) true hrp).mono ?_
          rintro r w5 ⟨rfl, b_w5⟩
          have HXe_w5 := Lib.hid ((HXe_w4.out.below b_w5 (Nat.le_refl _)).wide (Nat.le_refl _) b_w5.size)
          have HXp_w5 := Lib.hid (Kin.wide (Nat.le_refl _) b_w5.size (HXp_w4.out.kept b_w5 (Nat.le_refl _)))
          have HXu_w5 := Lib.hid (Kin.wide (Nat.le_refl _) b_w5.size (HXu_w4.out.kept b_w5 (Nat.le_refl _)))
          have HXr_w5 := Lib.hid ((HXr_w4.out.below b_w5 (Nat.le_refl _)).wide (Nat.le_refl _) b_w5.size)
          have HVp_w5 := Lib.hid (HVp_w4.out.below b_w5 HVp_w4.out.lt)
          have HVu_w5 := Lib.hid (HVu_w4.out.below b_w5 HVu_w4.out.lt)
          have HB_w5 := Lib.hid (below_below HB_w4.out b_w5 S_w4)
          have S_w5 := HB_w5.out.size
          clear b_w5 HB_w4  HXe_w4 HXp_w4 HXu_w4 HXr_w4 HVp_w4 HVu_w4 
          have cu0 : w5.cell? ⟨w0.heap.size, 0, none⟩ = some (.int .i64 u.kind) := HVu_w5.out.cell 0
          have zu0 := HVu_w5.out.frozen 0
          have cu1 : w5.cell? ⟨w0.heap.size, 1, none⟩ = some (.int .i64 u.col) := HVu_w5.out.cell 1
          have zu1 := HVu_w5.out.frozen 1
          have cu2 : w5.cell? ⟨w0.heap.size, 2, none⟩ = some (.string u.s) := HVu_w5.out.cell 2
          have zu2 := HVu_w5.out.frozen 2
          have cu3 : w5.cell? ⟨w0.heap.size, 3, none⟩ = some (.int .i64 u.esc) := HVu_w5.out.cell 3
          have zu3 := HVu_w5.out.frozen 3
          have cu4 : w5.cell? ⟨w0.heap.size, 4, none⟩ = some (.int .i64 u.coll) := HVu_w5.out.cell 4
          have zu4 := HVu_w5.out.frozen 4
          have cu5 : w5.cell? ⟨w0.heap.size, 5, none⟩ = some (.slice A2 u.kids.length c2) := HVu_w5.out.cell 5
          have zu5 := HVu_w5.out.frozen 5
          go_wp2_with fail
          clear cu0 zu0 cu1 zu1 cu2 zu2 cu3 zu3 cu4 zu4 cu5 zu5
          cases hru : rightP u row.length 9 with
          | true =>
            refine (refright_is HO2.out HXu_w5.out row.length 9 (by decide) true hru).mono ?_
            rintro r w6 ⟨rfl, b_w6⟩
            have HXe_w6 := Lib.hid ((HXe_w5.out.below b_w6 (Nat.le_refl _)).wide (Nat.le_refl _) b_w6.size)
            have HXp_w6 := Lib.hid (Kin.wide (Nat.le_refl _) b_w6.size (HXp_w5.out.kept b_w6 (Nat.le_refl _)))
            have HXu_w6 := Lib.hid (Kin.wide (Nat.le_refl _) b_w6.size (HXu_w5.out.kept b_w6 (Nat.le_refl _)))
            have HXr_w6 := Lib.hid ((HXr_w5.out.below b_w6 (Nat.le_refl _)).wide (Nat.le_refl _) b_w6.size)
            have HVp_w6 := Lib.hid (HVp_w5.out.below b_w6 HVp_w5.out.lt)
            have HVu_w6 := Lib.hid (HVu_w5.out.below b_w6 HVu_w5.out.lt)
            have HB_w6 := Lib.hid (below_below HB_w5.out b_w6 S_w5)
            have S_w6 := HB_w6.out.size
            clear b_w6 HB_w5  HXe_w5 HXp_w5 HXu_w5 HXr_w5 HVp_w5 HVu_w5 
            go_wp2_with fail
            obtain ⟨w7, hw_w7⟩ : ∃ q, w6.alloc (.cells #[.slice B row.length rc] 28) = q := ⟨_, rfl⟩
            have b_w7 : Below w6.heap.size w6 w7 := by rw [← hw_w7]; exact (Below.refl _ _).alloc (Nat.le_refl _) _
            have hr2 : Rows2 w7 0 w7.heap.size (some ⟨w6.heap.size, 0, none⟩) 1 [row] (fun _ => B) (fun _ => rc) := by rw [← hw_w7]; exact rows2_one HXr_w6.out
            rw [hw_w7]
            have HXe_w7 := Lib.hid ((HXe_w6.out.below b_w7 (Nat.le_refl _)).wide (Nat.le_refl _) b_w7.size)
            have HXp_w7 := Lib.hid (Kin.wide (Nat.le_refl _) b_w7.size (HXp_w6.out.kept b_w7 (Nat.le_refl _)))
            have HXu_w7 := Lib.hid (Kin.wide (Nat.le_refl _) b_w7.size (HXu_w6.out.kept b_w7 (Nat.le_refl _)))
            have HXr_w7 := Lib.hid ((HXr_w6.out.below b_w7 (Nat.le_refl _)).wide (Nat.le_refl _) b_w7.size)
            have HVp_w7 := Lib.hid (HVp_w6.out.below b_w7 HVp_w6.out.lt)
            have HVu_w7 := Lib.hid (HVu_w6.out.below b_w7 HVu_w6.out.lt)
            have HB_w7 := Lib.hid (below_below HB_w6.out b_w7 S_w6)
            have S_w7 := HB_w7.out.size
            clear b_w7 HB_w6  HXe_w6 HXp_w6 HXu_w6 HXr_w6 HVp_w6 HVu_w6 
            clear hw_w7
            cases hrw : rowsP [row] row.length with
            | true =>
              refine (rows_is hr2 row.length 1 rfl true hrw).mono ?_
              rintro r w8 ⟨rfl, b_w8⟩
              have HXe_w8 := Lib.hid ((HXe_w7.out.below b_w8 (Nat.le_refl _)).wide (Nat.le_refl _) b_w8.size)
              have HXp_w8 := Lib.hid (Kin.wide (Nat.le_refl _) b_w8.size (HXp_w7.out.kept b_w8 (Nat.le_refl _)))
              have HXu_w8 := Lib.hid (Kin.wide (Nat.le_refl _) b_w8.size (HXu_w7.out.kept b_w8 (Nat.le_refl _)))
              have HXr_w8 := Lib.hid ((HXr_w7.out.below b_w8 (Nat.le_refl _)).wide (Nat.le_refl _) b_w8.size)
              have HVp_w8 := Lib.hid (HVp_w7.out.below b_w8 HVp_w7.out.lt)
              have HVu_w8 := Lib.hid (HVu_w7.out.below b_w8 HVu_w7.out.lt)
              have HB_w8 := Lib.hid (below_below HB_w7.out b_w8 S_w7)
              have S_w8 := HB_w8.out.size
              clear b_w8 HB_w7 hr2 HXe_w7 HXp_w7 HXu_w7 HXr_w7 HVp_w7 HVu_w7 
              have cp0 : w8.cell? ⟨w.heap.size, 0, none⟩ = some (.int .i64 p.kind) := HVp_w8.out.cell 0
              have zp0 := HVp_w8.out.frozen 0
              have cp1 : w8.cell? ⟨w.heap.size, 1, none⟩ = some (.int .i64 p.col) := HVp_w8.out.cell 1
              have zp1 := HVp_w8.out.frozen 1
              have cp2 : w8.cell? ⟨w.heap.size, 2, none⟩ = some (.string p.s) := HVp_w8.out.cell 2
              have zp2 := HVp_w8.out.frozen 2
              have cp3 : w8.cell? ⟨w.heap.size, 3, none⟩ = some (.int .i64 p.esc) := HVp_w8.out.cell 3
              have zp3 := HVp_w8.out.frozen 3
              have cp4 : w8.cell? ⟨w.heap.size, 4, none⟩ = some (.int .i64 p.coll) := HVp_w8.out.cell 4
              have zp4 := HVp_w8.out.frozen 4
              have cp5 : w8.cell? ⟨w.heap.size, 5, none⟩ = some (.slice A p.kids.length c) := HVp_w8.out.cell 5
              have zp5 := HVp_w8.out.frozen 5
              go_wp2_with fail
              clear cp0 zp0 cp1 zp1 cp2 zp2 cp3 zp3 cp4 zp4 cp5 zp5
              have HVS := Lib.hid (rowsP_one hrw).1
              obtain ⟨z, hz⟩ : ∃ z, saysP p row = z := ⟨_, rfl⟩
              have HZ := Lib.hid hz
              clear hz
              have hr12 := right_mono p row.length 9 12 hrp (by decide)
              refine (says_is HO.out HXp_w8.out HXr_w8.out HVS.out hr12 z HZ.out HXe_w8.out.env).mono ?_
              rintro r w9 ⟨rfl, b_w9⟩
              have HXe_w9 := Lib.hid ((HXe_w8.out.below b_w9 (Nat.le_refl _)).wide (Nat.le_refl _) b_w9.size)
              have HXp_w9 := Lib.hid (Kin.wide (Nat.le_refl _) b_w9.size (HXp_w8.out.kept b_w9 (Nat.le_refl _)))
              have HXu_w9 := Lib.hid (Kin.wide (Nat.le_refl _) b_w9.size (HXu_w8.out.kept b_w9 (Nat.le_refl _)))
              have HXr_w9 := Lib.hid ((HXr_w8.out.below b_w9 (Nat.le_refl _)).wide (Nat.le_refl _) b_w9.size)
              have HVp_w9 := Lib.hid (HVp_w8.out.below b_w9 HVp_w8.out.lt)
              have HVu_w9 := Lib.hid (HVu_w8.out.below b_w9 HVu_w8.out.lt)
              have HB_w9 := Lib.hid (below_below HB_w8.out b_w9 S_w8)
              have S_w9 := HB_w9.out.size
              clear b_w9 HB_w8  HXe_w8 HXp_w8 HXu_w8 HXr_w8 HVp_w8 HVu_w8 
              have cp0 : w9.cell? ⟨w.heap.size, 0, none⟩ = some (.int .i64 p.kind) := HVp_w9.out.cell 0
              have zp0 := HVp_w9.out.frozen 0
              have cp1 : w9.cell? ⟨w.heap.size, 1, none⟩ = some (.int .i64 p.col) := HVp_w9.out.cell 1
              have zp1 := HVp_w9.out.frozen 1
              have cp2 : w9.cell? ⟨w.heap.size, 2, none⟩ = some (.string p.s) := HVp_w9.out.cell 2
              have zp2 := HVp_w9.out.frozen 2
              have cp3 : w9.cell? ⟨w.heap.size, 3, none⟩ = some (.int .i64 p.esc) := HVp_w9.out.cell 3
              have zp3 := HVp_w9.out.frozen 3
              have cp4 : w9.cell? ⟨w.heap.size, 4, none⟩ = some (.int .i64 p.coll) := HVp_w9.out.cell 4
              have zp4 := HVp_w9.out.frozen 4
              have cp5 : w9.cell? ⟨w.heap.size, 5, none⟩ = some (.slice A p.kids.length c) := HVp_w9.out.cell 5
              have zp5 := HVp_w9.out.frozen 5
              have cu0 : w9.cell? ⟨w0.heap.size, 0, none⟩ = some (.int .i64 u.kind) := HVu_w9.out.cell 0
              have zu0 := HVu_w9.out.frozen 0
              have cu1 : w9.cell? ⟨w0.heap.size, 1, none⟩ = some (.int .i64 u.col) := HVu_w9.out.cell 1
              have zu1 := HVu_w9.out.frozen 1
              have cu2 : w9.cell? ⟨w0.heap.size, 2, none⟩ = some (.string u.s) := HVu_w9.out.cell 2
              have zu2 := HVu_w9.out.frozen 2
              have cu3 : w9.cell? ⟨w0.heap.size, 3, none⟩ = some (.int .i64 u.esc) := HVu_w9.out.cell 3
              have zu3 := HVu_w9.out.frozen 3
              have cu4 : w9.cell? ⟨w0.heap.size, 4, none⟩ = some (.int .i64 u.coll) := HVu_w9.out.cell 4
              have zu4 := HVu_w9.out.frozen 4
              have cu5 : w9.cell? ⟨w0.heap.size, 5, none⟩ = some (.slice A2 u.kids.length c2) := HVu_w9.out.cell 5
              have zu5 := HVu_w9.out.frozen 5
              go_upto_region 5 with fail
              clear cp0 zp0 cp1 zp1 cp2 zp2 cp3 zp3 cp4 zp4 cp5 zp5 cu0 zu0 cu1 zu1 cu2 zu2 cu3 zu3 cu4 zu4 cu5 zu5
              obtain ⟨wA, hw_wA⟩ : ∃ q, w9.alloc (.cells #[.int .i64 p.kind, .int .i64 p.col, .string p.s, .int .i64 p.esc, .int .i64 p.coll, .slice A p.kids.length c, .int .i64 u.kind, .int .i64 u.col, .string u.s, .int .i64 u.esc, .int .i64 u.coll, .slice A2 u.kids.length c2] 24) = q := ⟨_, rfl⟩
              rw [hw_wA]
              have b_wA : Below w9.heap.size w9 wA := by rw [← hw_wA]; exact (Below.refl _ _).alloc (Nat.le_refl _) _
              have hz_wA : wA.heap.size = w9.heap.size + 1 := by rw [← hw_wA]; simp
              have hk2 : Kin wA 0 wA.heap.size [p, u] (some ⟨w9.heap.size, 0, none⟩) 2 := by rw [← hw_wA]; exact kin_two HO.out HO2.out HXp_w9.out HXu_w9.out rfl
              have HKX := Lib.hid hk2
              clear hk2
              have HXe_wA := Lib.hid ((HXe_w9.out.below b_wA (Nat.le_refl _)).wide (Nat.le_refl _) b_wA.size)
              have HXp_wA := Lib.hid (Kin.wide (Nat.le_refl _) b_wA.size (HXp_w9.out.kept b_wA (Nat.le_refl _)))
              have HXu_wA := Lib.hid (Kin.wide (Nat.le_refl _) b_wA.size (HXu_w9.out.kept b_wA (Nat.le_refl _)))
              have HXr_wA := Lib.hid ((HXr_w9.out.below b_wA (Nat.le_refl _)).wide (Nat.le_refl _) b_wA.size)
              have HVp_wA := Lib.hid (HVp_w9.out.below b_wA HVp_w9.out.lt)
              have HVu_wA := Lib.hid (HVu_w9.out.below b_wA HVu_w9.out.lt)
              have HB_wA := Lib.hid (below_below HB_w9.out b_wA S_w9)
              have S_wA := HB_wA.out.size
              clear b_wA HB_w9  HXe_w9 HXp_w9 HXu_w9 HXr_w9 HVp_w9 HVu_w9 
              have HXk_wA := Lib.hid HKX.out
              clear HKX hw_wA
              obtain ⟨wB, hw_wB⟩ : ∃ q, wA.alloc (.cells #[.int .i64 12, .int .i64 0, .string ⟨#[]⟩, .int .i64 0, .int .i64 0, .slice (some ⟨w9.heap.size, 0, none⟩) 2 2] 24) = q := ⟨_, rfl⟩
              rw [hw_wB]
              have b_wB : Below wA.heap.size wA wB := by rw [← hw_wB]; exact (Below.refl _ _).alloc (Nat.le_refl _) _
              have hz_wB : wB.heap.size = wA.heap.size + 1 := by rw [← hw_wB]; simp
              have HVx : Hid (Blk wB (w9.heap.size + 1) 24 #[.int .i64 12, .int .i64 0, .string ⟨#[]⟩, .int .i64 0, .int .i64 0, .slice (some ⟨w9.heap.size, 0, none⟩) 2 2]) := by unfold Hid; rw [← hw_wB, ← hz_wA]; exact Blk.new _ _ _
              have HXe_wB := Lib.hid ((HXe_wA.out.below b_wB (Nat.le_refl _)).wide (Nat.le_refl _) b_wB.size)
              have HXp_wB := Lib.hid (Kin.wide (Nat.le_refl _) b_wB.size (HXp_wA.out.kept b_wB (Nat.le_refl _)))
              have HXu_wB := Lib.hid (Kin.wide (Nat.le_refl _) b_wB.size (HXu_wA.out.kept b_wB (Nat.le_refl _)))
              have HXr_wB := Lib.hid ((HXr_wA.out.below b_wB (Nat.le_refl _)).wide (Nat.le_refl _) b_wB.size)
              have HXk_wB := Lib.hid (Kin.wide (Nat.le_refl _) b_wB.size (HXk_wA.out.kept b_wB (Nat.le_refl _)))
              have HVp_wB := Lib.hid (HVp_wA.out.below b_wB HVp_wA.out.lt)
              have HVu_wB := Lib.hid (HVu_wA.out.below b_wB HVu_wA.out.lt)
              have HB_wB := Lib.hid (below_below HB_wA.out b_wB S_wA)
              have S_wB := HB_wB.out.size
              clear b_wB HB_wA  HXe_wA HXp_wA HXu_wA HXr_wA HXk_wA HVp_wA HVu_wA 
              have HVa_wB := Lib.hid HVx.out
              clear HVx hw_wB hz_wB hz_wA
              go_cut [9] (fun x9 wx => ∃ g b b1 b2 : Nat, x9 = .pointer (some ⟨g, 0, none⟩) ∧ Blk wx g 24 #[.int .i64 13, .int .i64 0, .string ⟨#[]⟩, .int .i64 0, .int .i64 0, .slice (some ⟨b, 0, none⟩) 2 2] ∧ Blk wx b 24 #[.int .i64 14, .int .i64 0, .string ⟨#[]⟩, .int .i64 0, .int .i64 0, .slice (some ⟨b1, 0, none⟩) 1 1, .int .i64 14, .int .i64 0, .string ⟨#[]⟩, .int .i64 0, .int .i64 0, .slice (some ⟨b2, 0, none⟩) 1 1] ∧ Blk wx b1 24 #[.int .i64 p.kind, .int .i64 p.col, .string p.s, .int .i64 p.esc, .int .i64 p.coll, .slice A p.kids.length c] ∧ Blk wx b2 24 #[.int .i64 u.kind, .int .i64 u.col, .string u.s, .int .i64 u.esc, .int .i64 u.coll, .slice A2 u.kids.length c2] ∧ Below wB.heap.size wB wx)
              case first =>
                have HCF : Hid (∀ wx, Below wB.heap.size wB wx → wx.cell? ⟨w.heap.size, 0, none⟩ = some (.int .i64 p.kind) ∧ wx.cell? ⟨w.heap.size, 1, none⟩ = some (.int .i64 p.col) ∧ wx.cell? ⟨w.heap.size, 2, none⟩ = some (.string p.s) ∧ wx.cell? ⟨w.heap.size, 3, none⟩ = some (.int .i64 p.esc) ∧ wx.cell? ⟨w.heap.size, 4, none⟩ = some (.int .i64 p.coll) ∧ wx.cell? ⟨w.heap.size, 5, none⟩ = some (.slice A p.kids.length c) ∧ wx.cell? ⟨w0.heap.size, 0, none⟩ = some (.int .i64 u.kind) ∧ wx.cell? ⟨w0.heap.size, 1, none⟩ = some (.int .i64 u.col) ∧ wx.cell? ⟨w0.heap.size, 2, none⟩ = some (.string u.s) ∧ wx.cell? ⟨w0.heap.size, 3, none⟩ = some (.int .i64 u.esc) ∧ wx.cell? ⟨w0.heap.size, 4, none⟩ = some (.int .i64 u.coll) ∧ wx.cell? ⟨w0.heap.size, 5, none⟩ = some (.slice A2 u.kids.length c2)) := fun wx hb => ⟨(hb.cell (p := ⟨w.heap.size, 0, none⟩) HVp_wB.out.lt).trans (HVp_wB.out.cell 0), (hb.cell (p := ⟨w.heap.size, 1, none⟩) HVp_wB.out.lt).trans (HVp_wB.out.cell 1), (hb.cell (p := ⟨w.heap.size, 2, none⟩) HVp_wB.out.lt).trans (HVp_wB.out.cell 2), (hb.cell (p := ⟨w.heap.size, 3, none⟩) HVp_wB.out.lt).trans (HVp_wB.out.cell 3), (hb.cell (p := ⟨w.heap.size, 4, none⟩) HVp_wB.out.lt).trans (HVp_wB.out.cell 4), (hb.cell (p := ⟨w.heap.size, 5, none⟩) HVp_wB.out.lt).trans (HVp_wB.out.cell 5), (hb.cell (p := ⟨w0.heap.size, 0, none⟩) HVu_wB.out.lt).trans (HVu_wB.out.cell 0), (hb.cell (p := ⟨w0.heap.size, 1, none⟩) HVu_wB.out.lt).trans (HVu_wB.out.cell 1), (hb.cell (p := ⟨w0.heap.size, 2, none⟩) HVu_wB.out.lt).trans (HVu_wB.out.cell 2), (hb.cell (p := ⟨w0.heap.size, 3, none⟩) HVu_wB.out.lt).trans (HVu_wB.out.cell 3), (hb.cell (p := ⟨w0.heap.size, 4, none⟩) HVu_wB.out.lt).trans (HVu_wB.out.cell 4), (hb.cell (p := ⟨w0.heap.size, 5, none⟩) HVu_wB.out.lt).trans (HVu_wB.out.cell 5)⟩
                have KD : Hid (Below wB.heap.size wB wB.drew) := (Below.refl _ _).drew
                have HNP : Hid (∀ wx, Below wB.heap.size wB wx → Kin wx 0 wx.heap.size p.kids A c) := fun wx hb => Kin.wide (Nat.le_refl _) hb.size (HXp_wB.out.kept hb (Nat.le_refl _))
                have HNU : Hid (∀ wx, Below wB.heap.size wB wx → Kin wx 0 wx.heap.size u.kids A2 c2) := fun wx hb => Kin.wide (Nat.le_refl _) hb.size (HXu_wB.out.kept hb (Nat.le_refl _))
                refine wp_region_held_drew (S := fun w' => Below wB.heap.size wB w') (by kernel_rfl) KD.out (fun hHeld => ?_)
                refine wpAnyH_take (i := 0) (oi := _) (v := ?_) rfl (by kernel_rfl) (by kernel_rfl) (by kernel_rfl) (fun _ _ _ h => h) (Or.inl ⟨by rfl, ?_⟩) hHeld ?_
                rotate_left
                focus (intro W hSw; obtain ⟨q0, q1, q2, q3, q4, q5, q6, q7, q8, q9, qa, qb⟩ := HCF.out W hSw; go_simp; try with_reducible rfl)
                try simp only [List.getElem_toArray, List.getElem_cons_zero, List.getElem_cons_succ, Act.put, List.setIfInBounds_toArray, List.set_cons_zero, List.set_cons_succ]
                refine wpAnyH_take (i := 2) (oi := _) (v := ?_) rfl (by kernel_rfl) (by kernel_rfl) (by kernel_rfl) (fun _ _ _ h => h) (Or.inl ⟨by rfl, ?_⟩) hHeld ?_
                rotate_left
                focus (intro W hSw; obtain ⟨q0, q1, q2, q3, q4, q5, q6, q7, q8, q9, qa, qb⟩ := HCF.out W hSw; go_simp; try with_reducible rfl)
                try simp only [List.getElem_toArray, List.getElem_cons_zero, List.getElem_cons_succ, Act.put, List.setIfInBounds_toArray, List.set_cons_zero, List.set_cons_succ]
                obtain ⟨wd, hwd⟩ : ∃ q, wB.drew = q := ⟨_, rfl⟩
                rw [hwd] at hHeld ⊢
                clear KD hwd
                have K_wd := Lib.hid hHeld
                refine wpAnyH_ready (rs := [1, 6]) (by kernel_rfl) (by simp) ?_
                refine AllReadyH.cons (o := _) rfl (fun K hK => ?_) (AllReadyH.cons (o := _) rfl (fun K hK => ?_) AllReadyH.nil)
                · go_simp
                  refine (not_any HO.out (HNP.out _ K_wd.out)).mono ?_
                  rintro r v1 ⟨b1, rfl, hlo, hbk, hby⟩
                  have K_v1 := Lib.hid (K_wd.out.trans (hby.mono K_wd.out.size))
                  have HBb1_v1 := Lib.hid hbk
                  have hl1 : wd.heap.size ≤ b1 := hlo
                  skip
                  clear hby hbk hlo
                  refine hK.out _ _ K_v1.out (fun hHeld => ?_)
                  clear hK K
                  try simp only [List.getElem_toArray, List.getElem_cons_zero, List.getElem_cons_succ, Act.put, List.setIfInBounds_toArray, List.set_cons_zero, List.set_cons_succ]
                  refine wpAnyH_ready (rs := [3, 6]) (by kernel_rfl) (by simp) ?_
                  refine AllReadyH.cons (o := _) rfl (fun K hK => ?_) (AllReadyH.cons (o := _) rfl (fun K hK => ?_) AllReadyH.nil)
                  · go_simp
                    refine (not_any HO2.out (HNU.out _ K_v1.out)).mono ?_
                    rintro r v2 ⟨b2, rfl, hlo, hbk, hby⟩
                    have K_v2 := Lib.hid (K_v1.out.trans (hby.mono K_v1.out.size))
                    have HBb1_v2 := Lib.hid (HBb1_v1.out.below hby HBb1_v1.out.lt)
                    have HBb2_v2 := Lib.hid hbk
                    have hl2 : v1.heap.size ≤ b2 := hlo
                    skip
                    clear hby hbk hlo
                    refine hK.out _ _ K_v2.out (fun hHeld => ?_)
                    clear hK K
                    try simp only [List.getElem_toArray, List.getElem_cons_zero, List.getElem_cons_succ, Act.put, List.setIfInBounds_toArray, List.set_cons_zero, List.set_cons_succ]
                    refine wpAnyH_ready (rs := [4, 6]) (by kernel_rfl) (by simp) ?_
                    refine AllReadyH.cons (o := _) rfl (fun K hK => ?_) (AllReadyH.cons (o := _) rfl (fun K hK => ?_) AllReadyH.nil)
                    · go_simp
                      obtain ⟨v3, hw_v3⟩ : ∃ q, v2.alloc (.cells #[.int .i64 14, .int .i64 0, .string ⟨#[]⟩, .int .i64 0, .int .i64 0, .slice (some ⟨b1, 0, none⟩) 1 1, .int .i64 14, .int .i64 0, .string ⟨#[]⟩, .int .i64 0, .int .i64 0, .slice (some ⟨b2, 0, none⟩) 1 1] 24) = q := ⟨_, rfl⟩
                      rw [hw_v3]
                      have K_v3 : Hid (Below wB.heap.size wB v3) := by rw [← hw_v3]; exact K_v2.out.alloc K_v2.out.size _
                      have HBb1_v3 : Hid (Blk v3 b1 24 #[.int .i64 p.kind, .int .i64 p.col, .string p.s, .int .i64 p.esc, .int .i64 p.coll, .slice A p.kids.length c]) := by rw [← hw_v3]; exact HBb1_v2.out.alloc _
                      have HBb2_v3 : Hid (Blk v3 b2 24 #[.int .i64 u.kind, .int .i64 u.col, .string u.s, .int .i64 u.esc, .int .i64 u.coll, .slice A2 u.kids.length c2]) := by rw [← hw_v3]; exact HBb2_v2.out.alloc _
                      have HBl_v3 : Hid (Blk v3 v2.heap.size 24 #[.int .i64 14, .int .i64 0, .string ⟨#[]⟩, .int .i64 0, .int .i64 0, .slice (some ⟨b1, 0, none⟩) 1 1, .int .i64 14, .int .i64 0, .string ⟨#[]⟩, .int .i64 0, .int .i64 0, .slice (some ⟨b2, 0, none⟩) 1 1]) := by rw [← hw_v3]; exact Blk.new _ _ _
                      clear hw_v3
                      refine hK.out _ _ K_v3.out (fun hHeld => ?_)
                      clear hK K
                      try simp only [List.getElem_toArray, List.getElem_cons_zero, List.getElem_cons_succ, Act.put, List.setIfInBounds_toArray, List.set_cons_zero, List.set_cons_succ]
                      refine wpAnyH_take (i := 5) (oi := _) (v := ?_) rfl (by kernel_rfl) (by kernel_rfl) (by kernel_rfl) (fun _ _ _ h => h) (Or.inl ⟨by rfl, ?_⟩) hHeld ?_
                      rotate_left
                      focus (intro W hSw; go_simp; try with_reducible rfl)
                      try simp only [List.getElem_toArray, List.getElem_cons_zero, List.getElem_cons_succ, Act.put, List.setIfInBounds_toArray, List.set_cons_zero, List.set_cons_succ]
                      refine wpAnyH_ready (rs := [6]) (by kernel_rfl) (by simp) ?_
                      refine AllReadyH.cons (o := _) rfl (fun K hK => ?_) AllReadyH.nil
                      go_simp
                      obtain ⟨v4, hw_v4⟩ : ∃ q, v3.alloc (.cells #[.int .i64 0, .int .i64 0, .string ⟨#[]⟩, .int .i64 0, .int .i64 0, .slice none 0 0] 24) = q := ⟨_, rfl⟩
                      rw [hw_v4]
                      have K_v4 : Hid (Below wB.heap.size wB v4) := by rw [← hw_v4]; exact K_v3.out.alloc K_v3.out.size _
                      have HBb1_v4 : Hid (Blk v4 b1 24 #[.int .i64 p.kind, .int .i64 p.col, .string p.s, .int .i64 p.esc, .int .i64 p.coll, .slice A p.kids.length c]) := by rw [← hw_v4]; exact HBb1_v3.out.alloc _
                      have HBb2_v4 : Hid (Blk v4 b2 24 #[.int .i64 u.kind, .int .i64 u.col, .string u.s, .int .i64 u.esc, .int .i64 u.coll, .slice A2 u.kids.length c2]) := by rw [← hw_v4]; exact HBb2_v3.out.alloc _
                      have HBl_v4 : Hid (Blk v4 v2.heap.size 24 #[.int .i64 14, .int .i64 0, .string ⟨#[]⟩, .int .i64 0, .int .i64 0, .slice (some ⟨b1, 0, none⟩) 1 1, .int .i64 14, .int .i64 0, .string ⟨#[]⟩, .int .i64 0, .int .i64 0, .slice (some ⟨b2, 0, none⟩) 1 1]) := by rw [← hw_v4]; exact HBl_v3.out.alloc _
                      have hgg : wB.heap.size ≤ v3.heap.size := K_v3.out.size
                      have ne_b1 : b1 ≠ v3.heap.size := by have := HBb1_v3.out.lt; omega
                      have ne_b2 : b2 ≠ v3.heap.size := by have := HBb2_v3.out.lt; omega
                      have ne_l : v2.heap.size ≠ v3.heap.size := by have := HBl_v3.out.lt; omega
                      have HBg_v4 : Hid (Blk v4 v3.heap.size 24 #[.int .i64 0, .int .i64 0, .string ⟨#[]⟩, .int .i64 0, .int .i64 0, .slice none 0 0]) := by rw [← hw_v4]; exact Blk.new _ _ _
                      clear hw_v4
                      refine hK.out _ _ K_v4.out (fun hHeld => ?_)
                      clear hK K
                      try simp only [List.getElem_toArray, List.getElem_cons_zero, List.getElem_cons_succ, Act.put, List.setIfInBounds_toArray, List.set_cons_zero, List.set_cons_succ]
                      have c0 := HBg_v4.out.cell 0
                      have c1 := HBg_v4.out.cell 1
                      have c2 := HBg_v4.out.cell 2
                      have c3 := HBg_v4.out.cell 3
                      have c4 := HBg_v4.out.cell 4
                      have c5 := HBg_v4.out.cell 5
                      have f0 := HBg_v4.out.frozen 0
                      have f1 := HBg_v4.out.frozen 1
                      have f2 := HBg_v4.out.frozen 2
                      have f3 := HBg_v4.out.frozen 3
                      have f4 := HBg_v4.out.frozen 4
                      have f5 := HBg_v4.out.frozen 5
                      simp only [List.getElem?_toArray, List.getElem?_cons_zero, List.getElem?_cons_succ] at c0 c1 c2 c3 c4 c5
                      refine wpAnyH_ready (rs := [7]) (by kernel_rfl) (by simp) ?_
                      refine AllReadyH.cons (o := _) rfl (fun K hK => ?_) AllReadyH.nil
                      go_simp
                      clear c0 c1 c2 c3 c4 c5 f0 f1 f2 f3 f4 f5
                      have KE := Lib.hid (below6 (g := v3.heap.size) (.int .i64 13) (.int .i64 0) (.string ⟨#[]⟩) (.int .i64 0) (.int .i64 0) (.slice (some ⟨v2.heap.size, 0, none⟩) 2 2) K_v4.out hgg)
                      refine hK.out _ _ KE.out (fun hHeld => ?_)
                      clear hK K
                      try simp only [List.getElem_toArray, List.getElem_cons_zero, List.getElem_cons_succ, Act.put, List.setIfInBounds_toArray, List.set_cons_zero, List.set_cons_succ]
                      refine wpAnyH_done (by kernel_rfl) ?_ _
                      go_wp2_with fail
                      go_meet
                      exact ⟨_, _, _, _, rfl, put6 _ _ _ _ _ _ HBg_v4.out, far6 _ _ _ _ _ _ HBl_v4.out ne_l, far6 _ _ _ _ _ _ HBb1_v4.out ne_b1, far6 _ _ _ _ _ _ HBb2_v4.out ne_b2, KE.out⟩
                    · go_simp
                      obtain ⟨v5, hw_v5⟩ : ∃ q, v2.alloc (.cells #[.int .i64 0, .int .i64 0, .string ⟨#[]⟩, .int .i64 0, .int .i64 0, .slice none 0 0] 24) = q := ⟨_, rfl⟩
                      rw [hw_v5]
                      have K_v5 : Hid (Below wB.heap.size wB v5) := by rw [← hw_v5]; exact K_v2.out.alloc K_v2.out.size _
                      have HBb1_v5 : Hid (Blk v5 b1 24 #[.int .i64 p.kind, .int .i64 p.col, .string p.s, .int .i64 p.esc, .int .i64 p.coll, .slice A p.kids.length c]) := by rw [← hw_v5]; exact HBb1_v2.out.alloc _
                      have HBb2_v5 : Hid (Blk v5 b2 24 #[.int .i64 u.kind, .int .i64 u.col, .string u.s, .int .i64 u.esc, .int .i64 u.coll, .slice A2 u.kids.length c2]) := by rw [← hw_v5]; exact HBb2_v2.out.alloc _
                      have hgg : wB.heap.size ≤ v2.heap.size := K_v2.out.size
                      have ne_b1 : b1 ≠ v2.heap.size := by have := HBb1_v2.out.lt; omega
                      have ne_b2 : b2 ≠ v2.heap.size := by have := HBb2_v2.out.lt; omega
                      have HBg_v5 : Hid (Blk v5 v2.heap.size 24 #[.int .i64 0, .int .i64 0, .string ⟨#[]⟩, .int .i64 0, .int .i64 0, .slice none 0 0]) := by rw [← hw_v5]; exact Blk.new _ _ _
                      clear hw_v5
                      refine hK.out _ _ K_v5.out (fun hHeld => ?_)
                      clear hK K
                      try simp only [List.getElem_toArray, List.getElem_cons_zero, List.getElem_cons_succ, Act.put, List.setIfInBounds_toArray, List.set_cons_zero, List.set_cons_succ]
                      refine wpAnyH_ready (rs := [4]) (by kernel_rfl) (by simp) ?_
                      refine AllReadyH.cons (o := _) rfl (fun K hK => ?_) AllReadyH.nil
                      go_simp
                      obtain ⟨v6, hw_v6⟩ : ∃ q, v5.alloc (.cells #[.int .i64 14, .int .i64 0, .string ⟨#[]⟩, .int .i64 0, .int .i64 0, .slice (some ⟨b1, 0, none⟩) 1 1, .int .i64 14, .int .i64 0, .string ⟨#[]⟩, .int .i64 0, .int .i64 0, .slice (some ⟨b2, 0, none⟩) 1 1] 24) = q := ⟨_, rfl⟩
                      rw [hw_v6]
                      have K_v6 : Hid (Below wB.heap.size wB v6) := by rw [← hw_v6]; exact K_v5.out.alloc K_v5.out.size _
                      have HBb1_v6 : Hid (Blk v6 b1 24 #[.int .i64 p.kind, .int .i64 p.col, .string p.s, .int .i64 p.esc, .int .i64 p.coll, .slice A p.kids.length c]) := by rw [← hw_v6]; exact HBb1_v5.out.alloc _
                      have HBb2_v6 : Hid (Blk v6 b2 24 #[.int .i64 u.kind, .int .i64 u.col, .string u.s, .int .i64 u.esc, .int .i64 u.coll, .slice A2 u.kids.length c2]) := by rw [← hw_v6]; exact HBb2_v5.out.alloc _
                      have HBg_v6 : Hid (Blk v6 v2.heap.size 24 #[.int .i64 0, .int .i64 0, .string ⟨#[]⟩, .int .i64 0, .int .i64 0, .slice none 0 0]) := by rw [← hw_v6]; exact HBg_v5.out.alloc _
                      have ne_l : v5.heap.size ≠ v2.heap.size := by have := HBg_v5.out.lt; omega
                      have HBl_v6 : Hid (Blk v6 v5.heap.size 24 #[.int .i64 14, .int .i64 0, .string ⟨#[]⟩, .int .i64 0, .int .i64 0, .slice (some ⟨b1, 0, none⟩) 1 1, .int .i64 14, .int .i64 0, .string ⟨#[]⟩, .int .i64 0, .int .i64 0, .slice (some ⟨b2, 0, none⟩) 1 1]) := by rw [← hw_v6]; exact Blk.new _ _ _
                      clear hw_v6
                      refine hK.out _ _ K_v6.out (fun hHeld => ?_)
                      clear hK K
                      try simp only [List.getElem_toArray, List.getElem_cons_zero, List.getElem_cons_succ, Act.put, List.setIfInBounds_toArray, List.set_cons_zero, List.set_cons_succ]
                      refine wpAnyH_take (i := 5) (oi := _) (v := ?_) rfl (by kernel_rfl) (by kernel_rfl) (by kernel_rfl) (fun _ _ _ h => h) (Or.inl ⟨by rfl, ?_⟩) hHeld ?_
                      rotate_left
                      focus (intro W hSw; go_simp; try with_reducible rfl)
                      try simp only [List.getElem_toArray, List.getElem_cons_zero, List.getElem_cons_succ, Act.put, List.setIfInBounds_toArray, List.set_cons_zero, List.set_cons_succ]
                      have c0 := HBg_v6.out.cell 0
                      have c1 := HBg_v6.out.cell 1
                      have c2 := HBg_v6.out.cell 2
                      have c3 := HBg_v6.out.cell 3
                      have c4 := HBg_v6.out.cell 4
                      have c5 := HBg_v6.out.cell 5
                      have f0 := HBg_v6.out.frozen 0
                      have f1 := HBg_v6.out.frozen 1
                      have f2 := HBg_v6.out.frozen 2
                      have f3 := HBg_v6.out.frozen 3
                      have f4 := HBg_v6.out.frozen 4
                      have f5 := HBg_v6.out.frozen 5
                      simp only [List.getElem?_toArray, List.getElem?_cons_zero, List.getElem?_cons_succ] at c0 c1 c2 c3 c4 c5
                      refine wpAnyH_ready (rs := [7]) (by kernel_rfl) (by simp) ?_
                      refine AllReadyH.cons (o := _) rfl (fun K hK => ?_) AllReadyH.nil
                      go_simp
                      clear c0 c1 c2 c3 c4 c5 f0 f1 f2 f3 f4 f5
                      have KE := Lib.hid (below6 (g := v2.heap.size) (.int .i64 13) (.int .i64 0) (.string ⟨#[]⟩) (.int .i64 0) (.int .i64 0) (.slice (some ⟨v5.heap.size, 0, none⟩) 2 2) K_v6.out hgg)
                      refine hK.out _ _ KE.out (fun hHeld => ?_)
                      clear hK K
                      try simp only [List.getElem_toArray, List.getElem_cons_zero, List.getElem_cons_succ, Act.put, List.setIfInBounds_toArray, List.set_cons_zero, List.set_cons_succ]
                      refine wpAnyH_done (by kernel_rfl) ?_ _
                      go_wp2_with fail
                      go_meet
                      exact ⟨_, _, _, _, rfl, put6 _ _ _ _ _ _ HBg_v6.out, far6 _ _ _ _ _ _ HBl_v6.out ne_l, far6 _ _ _ _ _ _ HBb1_v6.out ne_b1, far6 _ _ _ _ _ _ HBb2_v6.out ne_b2, KE.out⟩
                  · go_simp
                    obtain ⟨v7, hw_v7⟩ : ∃ q, v1.alloc (.cells #[.int .i64 0, .int .i64 0, .string ⟨#[]⟩, .int .i64 0, .int .i64 0, .slice none 0 0] 24) = q := ⟨_, rfl⟩
                    rw [hw_v7]
                    have K_v7 : Hid (Below wB.heap.size wB v7) := by rw [← hw_v7]; exact K_v1.out.alloc K_v1.out.size _
                    have HBb1_v7 : Hid (Blk v7 b1 24 #[.int .i64 p.kind, .int .i64 p.col, .string p.s, .int .i64 p.esc, .int .i64 p.coll, .slice A p.kids.length c]) := by rw [← hw_v7]; exact HBb1_v1.out.alloc _
                    have hgg : wB.heap.size ≤ v1.heap.size := K_v1.out.size
                    have ne_b1 : b1 ≠ v1.heap.size := by have := HBb1_v1.out.lt; omega
                    have HBg_v7 : Hid (Blk v7 v1.heap.size 24 #[.int .i64 0, .int .i64 0, .string ⟨#[]⟩, .int .i64 0, .int .i64 0, .slice none 0 0]) := by rw [← hw_v7]; exact Blk.new _ _ _
                    clear hw_v7
                    refine hK.out _ _ K_v7.out (fun hHeld => ?_)
                    clear hK K
                    try simp only [List.getElem_toArray, List.getElem_cons_zero, List.getElem_cons_succ, Act.put, List.setIfInBounds_toArray, List.set_cons_zero, List.set_cons_succ]
                    refine wpAnyH_ready (rs := [3]) (by kernel_rfl) (by simp) ?_
                    refine AllReadyH.cons (o := _) rfl (fun K hK => ?_) AllReadyH.nil
                    go_simp
                    refine (not_any HO2.out (HNU.out _ K_v7.out)).mono ?_
                    rintro r v8 ⟨b2, rfl, hlo, hbk, hby⟩
                    have K_v8 := Lib.hid (K_v7.out.trans (hby.mono K_v7.out.size))
                    have HBb1_v8 := Lib.hid (HBb1_v7.out.below hby HBb1_v7.out.lt)
                    have HBg_v8 := Lib.hid (HBg_v7.out.below hby HBg_v7.out.lt)
                    have HBb2_v8 := Lib.hid hbk
                    have hl2 : v7.heap.size ≤ b2 := hlo
                    have ne_b2 : b2 ≠ v1.heap.size := by have := HBg_v7.out.lt; omega
                    clear hby hbk hlo
                    refine hK.out _ _ K_v8.out (fun hHeld => ?_)
                    clear hK K
                    try simp only [List.getElem_toArray, List.getElem_cons_zero, List.getElem_cons_succ, Act.put, List.setIfInBounds_toArray, List.set_cons_zero, List.set_cons_succ]
                    refine wpAnyH_ready (rs := [4]) (by kernel_rfl) (by simp) ?_
                    refine AllReadyH.cons (o := _) rfl (fun K hK => ?_) AllReadyH.nil
                    go_simp
                    obtain ⟨v9, hw_v9⟩ : ∃ q, v8.alloc (.cells #[.int .i64 14, .int .i64 0, .string ⟨#[]⟩, .int .i64 0, .int .i64 0, .slice (some ⟨b1, 0, none⟩) 1 1, .int .i64 14, .int .i64 0, .string ⟨#[]⟩, .int .i64 0, .int .i64 0, .slice (some ⟨b2, 0, none⟩) 1 1] 24) = q := ⟨_, rfl⟩
                    rw [hw_v9]
                    have K_v9 : Hid (Below wB.heap.size wB v9) := by rw [← hw_v9]; exact K_v8.out.alloc K_v8.out.size _
                    have HBb1_v9 : Hid (Blk v9 b1 24 #[.int .i64 p.kind, .int .i64 p.col, .string p.s, .int .i64 p.esc, .int .i64 p.coll, .slice A p.kids.length c]) := by rw [← hw_v9]; exact HBb1_v8.out.alloc _
                    have HBg_v9 : Hid (Blk v9 v1.heap.size 24 #[.int .i64 0, .int .i64 0, .string ⟨#[]⟩, .int .i64 0, .int .i64 0, .slice none 0 0]) := by rw [← hw_v9]; exact HBg_v8.out.alloc _
                    have HBb2_v9 : Hid (Blk v9 b2 24 #[.int .i64 u.kind, .int .i64 u.col, .string u.s, .int .i64 u.esc, .int .i64 u.coll, .slice A2 u.kids.length c2]) := by rw [← hw_v9]; exact HBb2_v8.out.alloc _
                    have ne_l : v8.heap.size ≠ v1.heap.size := by have := HBg_v8.out.lt; omega
                    have HBl_v9 : Hid (Blk v9 v8.heap.size 24 #[.int .i64 14, .int .i64 0, .string ⟨#[]⟩, .int .i64 0, .int .i64 0, .slice (some ⟨b1, 0, none⟩) 1 1, .int .i64 14, .int .i64 0, .string ⟨#[]⟩, .int .i64 0, .int .i64 0, .slice (some ⟨b2, 0, none⟩) 1 1]) := by rw [← hw_v9]; exact Blk.new _ _ _
                    clear hw_v9
                    refine hK.out _ _ K_v9.out (fun hHeld => ?_)
                    clear hK K
                    try simp only [List.getElem_toArray, List.getElem_cons_zero, List.getElem_cons_succ, Act.put, List.setIfInBounds_toArray, List.set_cons_zero, List.set_cons_succ]
                    refine wpAnyH_take (i := 5) (oi := _) (v := ?_) rfl (by kernel_rfl) (by kernel_rfl) (by kernel_rfl) (fun _ _ _ h => h) (Or.inl ⟨by rfl, ?_⟩) hHeld ?_
                    rotate_left
                    focus (intro W hSw; go_simp; try with_reducible rfl)
                    try simp only [List.getElem_toArray, List.getElem_cons_zero, List.getElem_cons_succ, Act.put, List.setIfInBounds_toArray, List.set_cons_zero, List.set_cons_succ]
                    have c0 := HBg_v9.out.cell 0
                    have c1 := HBg_v9.out.cell 1
                    have c2 := HBg_v9.out.cell 2
                    have c3 := HBg_v9.out.cell 3
                    have c4 := HBg_v9.out.cell 4
                    have c5 := HBg_v9.out.cell 5
                    have f0 := HBg_v9.out.frozen 0
                    have f1 := HBg_v9.out.frozen 1
                    have f2 := HBg_v9.out.frozen 2
                    have f3 := HBg_v9.out.frozen 3
                    have f4 := HBg_v9.out.frozen 4
                    have f5 := HBg_v9.out.frozen 5
                    simp only [List.getElem?_toArray, List.getElem?_cons_zero, List.getElem?_cons_succ] at c0 c1 c2 c3 c4 c5
                    refine wpAnyH_ready (rs := [7]) (by kernel_rfl) (by simp) ?_
                    refine AllReadyH.cons (o := _) rfl (fun K hK => ?_) AllReadyH.nil
                    go_simp
                    clear c0 c1 c2 c3 c4 c5 f0 f1 f2 f3 f4 f5
                    have KE := Lib.hid (below6 (g := v1.heap.size) (.int .i64 13) (.int .i64 0) (.string ⟨#[]⟩) (.int .i64 0) (.int .i64 0) (.slice (some ⟨v8.heap.size, 0, none⟩) 2 2) K_v9.out hgg)
                    refine hK.out _ _ KE.out (fun hHeld => ?_)
                    clear hK K
                    try simp only [List.getElem_toArray, List.getElem_cons_zero, List.getElem_cons_succ, Act.put, List.setIfInBounds_toArray, List.set_cons_zero, List.set_cons_succ]
                    refine wpAnyH_done (by kernel_rfl) ?_ _
                    go_wp2_with fail
                    go_meet
                    exact ⟨_, _, _, _, rfl, put6 _ _ _ _ _ _ HBg_v9.out, far6 _ _ _ _ _ _ HBl_v9.out ne_l, far6 _ _ _ _ _ _ HBb1_v9.out ne_b1, far6 _ _ _ _ _ _ HBb2_v9.out ne_b2, KE.out⟩
                · go_simp
                  obtain ⟨v10, hw_v10⟩ : ∃ q, wd.alloc (.cells #[.int .i64 0, .int .i64 0, .string ⟨#[]⟩, .int .i64 0, .int .i64 0, .slice none 0 0] 24) = q := ⟨_, rfl⟩
                  rw [hw_v10]
                  have K_v10 : Hid (Below wB.heap.size wB v10) := by rw [← hw_v10]; exact K_wd.out.alloc K_wd.out.size _
                  have hgg : wB.heap.size ≤ wd.heap.size := K_wd.out.size
                  have HBg_v10 : Hid (Blk v10 wd.heap.size 24 #[.int .i64 0, .int .i64 0, .string ⟨#[]⟩, .int .i64 0, .int .i64 0, .slice none 0 0]) := by rw [← hw_v10]; exact Blk.new _ _ _
                  clear hw_v10
                  refine hK.out _ _ K_v10.out (fun hHeld => ?_)
                  clear hK K
                  try simp only [List.getElem_toArray, List.getElem_cons_zero, List.getElem_cons_succ, Act.put, List.setIfInBounds_toArray, List.set_cons_zero, List.set_cons_succ]
                  refine wpAnyH_ready (rs := [1]) (by kernel_rfl) (by simp) ?_
                  refine AllReadyH.cons (o := _) rfl (fun K hK => ?_) AllReadyH.nil
                  go_simp
                  refine (not_any HO.out (HNP.out _ K_v10.out)).mono ?_
                  rintro r v11 ⟨b1, rfl, hlo, hbk, hby⟩
                  have K_v11 := Lib.hid (K_v10.out.trans (hby.mono K_v10.out.size))
                  have HBg_v11 := Lib.hid (HBg_v10.out.below hby HBg_v10.out.lt)
                  have HBb1_v11 := Lib.hid hbk
                  have hl1 : v10.heap.size ≤ b1 := hlo
                  have ne_b1 : b1 ≠ wd.heap.size := by have := HBg_v10.out.lt; omega
                  clear hby hbk hlo
                  refine hK.out _ _ K_v11.out (fun hHeld => ?_)
                  clear hK K
                  try simp only [List.getElem_toArray, List.getElem_cons_zero, List.getElem_cons_succ, Act.put, List.setIfInBounds_toArray, List.set_cons_zero, List.set_cons_succ]
                  refine wpAnyH_ready (rs := [3]) (by kernel_rfl) (by simp) ?_
                  refine AllReadyH.cons (o := _) rfl (fun K hK => ?_) AllReadyH.nil
                  go_simp
                  refine (not_any HO2.out (HNU.out _ K_v11.out)).mono ?_
                  rintro r v12 ⟨b2, rfl, hlo, hbk, hby⟩
                  have K_v12 := Lib.hid (K_v11.out.trans (hby.mono K_v11.out.size))
                  have HBg_v12 := Lib.hid (HBg_v11.out.below hby HBg_v11.out.lt)
                  have HBb1_v12 := Lib.hid (HBb1_v11.out.below hby HBb1_v11.out.lt)
                  have HBb2_v12 := Lib.hid hbk
                  have hl2 : v11.heap.size ≤ b2 := hlo
                  have ne_b2 : b2 ≠ wd.heap.size := by have := HBg_v11.out.lt; omega
                  clear hby hbk hlo
                  refine hK.out _ _ K_v12.out (fun hHeld => ?_)
                  clear hK K
                  try simp only [List.getElem_toArray, List.getElem_cons_zero, List.getElem_cons_succ, Act.put, List.setIfInBounds_toArray, List.set_cons_zero, List.set_cons_succ]
                  refine wpAnyH_ready (rs := [4]) (by kernel_rfl) (by simp) ?_
                  refine AllReadyH.cons (o := _) rfl (fun K hK => ?_) AllReadyH.nil
                  go_simp
                  obtain ⟨v13, hw_v13⟩ : ∃ q, v12.alloc (.cells #[.int .i64 14, .int .i64 0, .string ⟨#[]⟩, .int .i64 0, .int .i64 0, .slice (some ⟨b1, 0, none⟩) 1 1, .int .i64 14, .int .i64 0, .string ⟨#[]⟩, .int .i64 0, .int .i64 0, .slice (some ⟨b2, 0, none⟩) 1 1] 24) = q := ⟨_, rfl⟩
                  rw [hw_v13]
                  have K_v13 : Hid (Below wB.heap.size wB v13) := by rw [← hw_v13]; exact K_v12.out.alloc K_v12.out.size _
                  have HBg_v13 : Hid (Blk v13 wd.heap.size 24 #[.int .i64 0, .int .i64 0, .string ⟨#[]⟩, .int .i64 0, .int .i64 0, .slice none 0 0]) := by rw [← hw_v13]; exact HBg_v12.out.alloc _
                  have HBb1_v13 : Hid (Blk v13 b1 24 #[.int .i64 p.kind, .int .i64 p.col, .string p.s, .int .i64 p.esc, .int .i64 p.coll, .slice A p.kids.length c]) := by rw [← hw_v13]; exact HBb1_v12.out.alloc _
                  have HBb2_v13 : Hid (Blk v13 b2 24 #[.int .i64 u.kind, .int .i64 u.col, .string u.s, .int .i64 u.esc, .int .i64 u.coll, .slice A2 u.kids.length c2]) := by rw [← hw_v13]; exact HBb2_v12.out.alloc _
                  have ne_l : v12.heap.size ≠ wd.heap.size := by have := HBg_v12.out.lt; omega
                  have HBl_v13 : Hid (Blk v13 v12.heap.size 24 #[.int .i64 14, .int .i64 0, .string ⟨#[]⟩, .int .i64 0, .int .i64 0, .slice (some ⟨b1, 0, none⟩) 1 1, .int .i64 14, .int .i64 0, .string ⟨#[]⟩, .int .i64 0, .int .i64 0, .slice (some ⟨b2, 0, none⟩) 1 1]) := by rw [← hw_v13]; exact Blk.new _ _ _
                  clear hw_v13
                  refine hK.out _ _ K_v13.out (fun hHeld => ?_)
                  clear hK K
                  try simp only [List.getElem_toArray, List.getElem_cons_zero, List.getElem_cons_succ, Act.put, List.setIfInBounds_toArray, List.set_cons_zero, List.set_cons_succ]
                  refine wpAnyH_take (i := 5) (oi := _) (v := ?_) rfl (by kernel_rfl) (by kernel_rfl) (by kernel_rfl) (fun _ _ _ h => h) (Or.inl ⟨by rfl, ?_⟩) hHeld ?_
                  rotate_left
                  focus (intro W hSw; go_simp; try with_reducible rfl)
                  try simp only [List.getElem_toArray, List.getElem_cons_zero, List.getElem_cons_succ, Act.put, List.setIfInBounds_toArray, List.set_cons_zero, List.set_cons_succ]
                  have c0 := HBg_v13.out.cell 0
                  have c1 := HBg_v13.out.cell 1
                  have c2 := HBg_v13.out.cell 2
                  have c3 := HBg_v13.out.cell 3
                  have c4 := HBg_v13.out.cell 4
                  have c5 := HBg_v13.out.cell 5
                  have f0 := HBg_v13.out.frozen 0
                  have f1 := HBg_v13.out.frozen 1
                  have f2 := HBg_v13.out.frozen 2
                  have f3 := HBg_v13.out.frozen 3
                  have f4 := HBg_v13.out.frozen 4
                  have f5 := HBg_v13.out.frozen 5
                  simp only [List.getElem?_toArray, List.getElem?_cons_zero, List.getElem?_cons_succ] at c0 c1 c2 c3 c4 c5
                  refine wpAnyH_ready (rs := [7]) (by kernel_rfl) (by simp) ?_
                  refine AllReadyH.cons (o := _) rfl (fun K hK => ?_) AllReadyH.nil
                  go_simp
                  clear c0 c1 c2 c3 c4 c5 f0 f1 f2 f3 f4 f5
                  have KE := Lib.hid (below6 (g := wd.heap.size) (.int .i64 13) (.int .i64 0) (.string ⟨#[]⟩) (.int .i64 0) (.int .i64 0) (.slice (some ⟨v12.heap.size, 0, none⟩) 2 2) K_v13.out hgg)
                  refine hK.out _ _ KE.out (fun hHeld => ?_)
                  clear hK K
                  try simp only [List.getElem_toArray, List.getElem_cons_zero, List.getElem_cons_succ, Act.put, List.setIfInBounds_toArray, List.set_cons_zero, List.set_cons_succ]
                  refine wpAnyH_done (by kernel_rfl) ?_ _
                  go_wp2_with fail
                  go_meet
                  exact ⟨_, _, _, _, rfl, put6 _ _ _ _ _ _ HBg_v13.out, far6 _ _ _ _ _ _ HBl_v13.out ne_l, far6 _ _ _ _ _ _ HBb1_v13.out ne_b1, far6 _ _ _ _ _ _ HBb2_v13.out ne_b2, KE.out⟩
              case rest =>
                obtain ⟨g9, b, b1, b2, rfl, hg, hbk, hbk1, hbk2, b_wc⟩ := hcut
                skip
                have HVX := Lib.hid hg
                have HK1 := Lib.hid hbk1
                have HK2 := Lib.hid hbk2
                have HKB := Lib.hid hbk
                clear hg hbk hbk1 hbk2
                have HXe_wc := Lib.hid ((HXe_wB.out.below b_wc (Nat.le_refl _)).wide (Nat.le_refl _) b_wc.size)
                have HXp_wc := Lib.hid (Kin.wide (Nat.le_refl _) b_wc.size (HXp_wB.out.kept b_wc (Nat.le_refl _)))
                have HXu_wc := Lib.hid (Kin.wide (Nat.le_refl _) b_wc.size (HXu_wB.out.kept b_wc (Nat.le_refl _)))
                have HXr_wc := Lib.hid ((HXr_wB.out.below b_wc (Nat.le_refl _)).wide (Nat.le_refl _) b_wc.size)
                have HXk_wc := Lib.hid (Kin.wide (Nat.le_refl _) b_wc.size (HXk_wB.out.kept b_wc (Nat.le_refl _)))
                have HVp_wc := Lib.hid (HVp_wB.out.below b_wc HVp_wB.out.lt)
                have HVu_wc := Lib.hid (HVu_wB.out.below b_wc HVu_wB.out.lt)
                have HVa_wc := Lib.hid (HVa_wB.out.below b_wc HVa_wB.out.lt)
                have HB_wc := Lib.hid (below_below HB_wB.out b_wc S_wB)
                have S_wc := HB_wc.out.size
                clear b_wc HB_wB  HXe_wB HXp_wB HXu_wB HXr_wB HXk_wB HVp_wB HVu_wB HVa_wB 
                have HVo_wc := Lib.hid HVX.out
                clear HVX
                have HXo_wc : Hid (Kin wc 0 wc.heap.size [notP p, notP u] (some ⟨b, 0, none⟩) 2) := kin_blk2 (headP_ok ⟨by decide, by decide⟩) (headP_ok ⟨by decide, by decide⟩) (kin_blk1 HO.out HXp_wc.out HK1.out) (kin_blk1 HO2.out HXu_wc.out HK2.out) HKB.out
                clear HK1 HK2 HKB
                have cp0 : wc.cell? ⟨w.heap.size, 0, none⟩ = some (.int .i64 p.kind) := HVp_wc.out.cell 0
                have zp0 := HVp_wc.out.frozen 0
                have cp1 : wc.cell? ⟨w.heap.size, 1, none⟩ = some (.int .i64 p.col) := HVp_wc.out.cell 1
                have zp1 := HVp_wc.out.frozen 1
                have cp2 : wc.cell? ⟨w.heap.size, 2, none⟩ = some (.string p.s) := HVp_wc.out.cell 2
                have zp2 := HVp_wc.out.frozen 2
                have cp3 : wc.cell? ⟨w.heap.size, 3, none⟩ = some (.int .i64 p.esc) := HVp_wc.out.cell 3
                have zp3 := HVp_wc.out.frozen 3
                have cp4 : wc.cell? ⟨w.heap.size, 4, none⟩ = some (.int .i64 p.coll) := HVp_wc.out.cell 4
                have zp4 := HVp_wc.out.frozen 4
                have cp5 : wc.cell? ⟨w.heap.size, 5, none⟩ = some (.slice A p.kids.length c) := HVp_wc.out.cell 5
                have zp5 := HVp_wc.out.frozen 5
                go_wp2_with fail
                clear cp0 zp0 cp1 zp1 cp2 zp2 cp3 zp3 cp4 zp4 cp5 zp5
                obtain ⟨wf, hw_wf⟩ : ∃ q, wc.alloc (.cells #[.int .i64 p.kind, .int .i64 p.col, .string p.s, .int .i64 p.esc, .int .i64 p.coll, .slice A p.kids.length c, .int .i64 p.kind, .int .i64 p.col, .string p.s, .int .i64 p.esc, .int .i64 p.coll, .slice A p.kids.length c] 24) = q := ⟨_, rfl⟩
                rw [hw_wf]
                have b_wf : Below wc.heap.size wc wf := by rw [← hw_wf]; exact (Below.refl _ _).alloc (Nat.le_refl _) _
                have hz_wf : wf.heap.size = wc.heap.size + 1 := by rw [← hw_wf]; simp
                have hk2 : Kin wf 0 wf.heap.size [p, p] (some ⟨wc.heap.size, 0, none⟩) 2 := by rw [← hw_wf]; exact kin_two HO.out HO.out HXp_wc.out HXp_wc.out rfl
                have HKX := Lib.hid hk2
                clear hk2
                have HXe_wf := Lib.hid ((HXe_wc.out.below b_wf (Nat.le_refl _)).wide (Nat.le_refl _) b_wf.size)
                have HXp_wf := Lib.hid (Kin.wide (Nat.le_refl _) b_wf.size (HXp_wc.out.kept b_wf (Nat.le_refl _)))
                have HXu_wf := Lib.hid (Kin.wide (Nat.le_refl _) b_wf.size (HXu_wc.out.kept b_wf (Nat.le_refl _)))
                have HXr_wf := Lib.hid ((HXr_wc.out.below b_wf (Nat.le_refl _)).wide (Nat.le_refl _) b_wf.size)
                have HXk_wf := Lib.hid (Kin.wide (Nat.le_refl _) b_wf.size (HXk_wc.out.kept b_wf (Nat.le_refl _)))
                have HXo_wf := Lib.hid (Kin.wide (Nat.le_refl _) b_wf.size (HXo_wc.out.kept b_wf (Nat.le_refl _)))
                have HVp_wf := Lib.hid (HVp_wc.out.below b_wf HVp_wc.out.lt)
                have HVu_wf := Lib.hid (HVu_wc.out.below b_wf HVu_wc.out.lt)
                have HVa_wf := Lib.hid (HVa_wc.out.below b_wf HVa_wc.out.lt)
                have HVo_wf := Lib.hid (HVo_wc.out.below b_wf HVo_wc.out.lt)
                have HB_wf := Lib.hid (below_below HB_wc.out b_wf S_wc)
                have S_wf := HB_wf.out.size
                clear b_wf HB_wc  HXe_wc HXp_wc HXu_wc HXr_wc HXk_wc HXo_wc HVp_wc HVu_wc HVa_wc HVo_wc 
                have HXt_wf := Lib.hid HKX.out
                clear HKX hw_wf
                obtain ⟨wg, hw_wg⟩ : ∃ q, wf.alloc (.cells #[.int .i64 13, .int .i64 0, .string ⟨#[]⟩, .int .i64 0, .int .i64 0, .slice (some ⟨wc.heap.size, 0, none⟩) 2 2] 24) = q := ⟨_, rfl⟩
                rw [hw_wg]
                have b_wg : Below wf.heap.size wf wg := by rw [← hw_wg]; exact (Below.refl _ _).alloc (Nat.le_refl _) _
                have hz_wg : wg.heap.size = wf.heap.size + 1 := by rw [← hw_wg]; simp
                have HVx : Hid (Blk wg (wc.heap.size + 1) 24 #[.int .i64 13, .int .i64 0, .string ⟨#[]⟩, .int .i64 0, .int .i64 0, .slice (some ⟨wc.heap.size, 0, none⟩) 2 2]) := by unfold Hid; rw [← hw_wg, ← hz_wf]; exact Blk.new _ _ _
                have HXe_wg := Lib.hid ((HXe_wf.out.below b_wg (Nat.le_refl _)).wide (Nat.le_refl _) b_wg.size)
                have HXp_wg := Lib.hid (Kin.wide (Nat.le_refl _) b_wg.size (HXp_wf.out.kept b_wg (Nat.le_refl _)))
                have HXu_wg := Lib.hid (Kin.wide (Nat.le_refl _) b_wg.size (HXu_wf.out.kept b_wg (Nat.le_refl _)))
                have HXr_wg := Lib.hid ((HXr_wf.out.below b_wg (Nat.le_refl _)).wide (Nat.le_refl _) b_wg.size)
                have HXk_wg := Lib.hid (Kin.wide (Nat.le_refl _) b_wg.size (HXk_wf.out.kept b_wg (Nat.le_refl _)))
                have HXo_wg := Lib.hid (Kin.wide (Nat.le_refl _) b_wg.size (HXo_wf.out.kept b_wg (Nat.le_refl _)))
                have HXt_wg := Lib.hid (Kin.wide (Nat.le_refl _) b_wg.size (HXt_wf.out.kept b_wg (Nat.le_refl _)))
                have HVp_wg := Lib.hid (HVp_wf.out.below b_wg HVp_wf.out.lt)
                have HVu_wg := Lib.hid (HVu_wf.out.below b_wg HVu_wf.out.lt)
                have HVa_wg := Lib.hid (HVa_wf.out.below b_wg HVa_wf.out.lt)
                have HVo_wg := Lib.hid (HVo_wf.out.below b_wg HVo_wf.out.lt)
                have HB_wg := Lib.hid (below_below HB_wf.out b_wg S_wf)
                have S_wg := HB_wg.out.size
                clear b_wg HB_wf  HXe_wf HXp_wf HXu_wf HXr_wf HXk_wf HXo_wf HXt_wf HVp_wf HVu_wf HVa_wf HVo_wf 
                have HVt_wg := Lib.hid HVx.out
                clear HVx hw_wg hz_wg hz_wf
                have HSp : Hid (∀ W, Below wg.heap.size wg W → W.cell? ⟨w.heap.size, 0, none⟩ = some (.int .i64 p.kind) ∧ W.cell? ⟨w.heap.size, 1, none⟩ = some (.int .i64 p.col) ∧ W.cell? ⟨w.heap.size, 2, none⟩ = some (.string p.s) ∧ W.cell? ⟨w.heap.size, 3, none⟩ = some (.int .i64 p.esc) ∧ W.cell? ⟨w.heap.size, 4, none⟩ = some (.int .i64 p.coll) ∧ W.cell? ⟨w.heap.size, 5, none⟩ = some (.slice A p.kids.length c)) := fun W hb => ⟨(hb.cell (p := ⟨w.heap.size, 0, none⟩) HVp_wg.out.lt).trans (HVp_wg.out.cell 0), (hb.cell (p := ⟨w.heap.size, 1, none⟩) HVp_wg.out.lt).trans (HVp_wg.out.cell 1), (hb.cell (p := ⟨w.heap.size, 2, none⟩) HVp_wg.out.lt).trans (HVp_wg.out.cell 2), (hb.cell (p := ⟨w.heap.size, 3, none⟩) HVp_wg.out.lt).trans (HVp_wg.out.cell 3), (hb.cell (p := ⟨w.heap.size, 4, none⟩) HVp_wg.out.lt).trans (HVp_wg.out.cell 4), (hb.cell (p := ⟨w.heap.size, 5, none⟩) HVp_wg.out.lt).trans (HVp_wg.out.cell 5)⟩
                have HSa : Hid (∀ W, Below wg.heap.size wg W → W.cell? ⟨w9.heap.size + 1, 0, none⟩ = some (.int .i64 12) ∧ W.cell? ⟨w9.heap.size + 1, 1, none⟩ = some (.int .i64 0) ∧ W.cell? ⟨w9.heap.size + 1, 2, none⟩ = some (.string ⟨#[]⟩) ∧ W.cell? ⟨w9.heap.size + 1, 3, none⟩ = some (.int .i64 0) ∧ W.cell? ⟨w9.heap.size + 1, 4, none⟩ = some (.int .i64 0) ∧ W.cell? ⟨w9.heap.size + 1, 5, none⟩ = some (.slice (some ⟨w9.heap.size, 0, none⟩) 2 2)) := fun W hb => ⟨(hb.cell (p := ⟨w9.heap.size + 1, 0, none⟩) HVa_wg.out.lt).trans (HVa_wg.out.cell 0), (hb.cell (p := ⟨w9.heap.size + 1, 1, none⟩) HVa_wg.out.lt).trans (HVa_wg.out.cell 1), (hb.cell (p := ⟨w9.heap.size + 1, 2, none⟩) HVa_wg.out.lt).trans (HVa_wg.out.cell 2), (hb.cell (p := ⟨w9.heap.size + 1, 3, none⟩) HVa_wg.out.lt).trans (HVa_wg.out.cell 3), (hb.cell (p := ⟨w9.heap.size + 1, 4, none⟩) HVa_wg.out.lt).trans (HVa_wg.out.cell 4), (hb.cell (p := ⟨w9.heap.size + 1, 5, none⟩) HVa_wg.out.lt).trans (HVa_wg.out.cell 5)⟩
                have HSo : Hid (∀ W, Below wg.heap.size wg W → W.cell? ⟨g9, 0, none⟩ = some (.int .i64 13) ∧ W.cell? ⟨g9, 1, none⟩ = some (.int .i64 0) ∧ W.cell? ⟨g9, 2, none⟩ = some (.string ⟨#[]⟩) ∧ W.cell? ⟨g9, 3, none⟩ = some (.int .i64 0) ∧ W.cell? ⟨g9, 4, none⟩ = some (.int .i64 0) ∧ W.cell? ⟨g9, 5, none⟩ = some (.slice (some ⟨b, 0, none⟩) 2 2)) := fun W hb => ⟨(hb.cell (p := ⟨g9, 0, none⟩) HVo_wg.out.lt).trans (HVo_wg.out.cell 0), (hb.cell (p := ⟨g9, 1, none⟩) HVo_wg.out.lt).trans (HVo_wg.out.cell 1), (hb.cell (p := ⟨g9, 2, none⟩) HVo_wg.out.lt).trans (HVo_wg.out.cell 2), (hb.cell (p := ⟨g9, 3, none⟩) HVo_wg.out.lt).trans (HVo_wg.out.cell 3), (hb.cell (p := ⟨g9, 4, none⟩) HVo_wg.out.lt).trans (HVo_wg.out.cell 4), (hb.cell (p := ⟨g9, 5, none⟩) HVo_wg.out.lt).trans (HVo_wg.out.cell 5)⟩
                have HSt : Hid (∀ W, Below wg.heap.size wg W → W.cell? ⟨wc.heap.size + 1, 0, none⟩ = some (.int .i64 13) ∧ W.cell? ⟨wc.heap.size + 1, 1, none⟩ = some (.int .i64 0) ∧ W.cell? ⟨wc.heap.size + 1, 2, none⟩ = some (.string ⟨#[]⟩) ∧ W.cell? ⟨wc.heap.size + 1, 3, none⟩ = some (.int .i64 0) ∧ W.cell? ⟨wc.heap.size + 1, 4, none⟩ = some (.int .i64 0) ∧ W.cell? ⟨wc.heap.size + 1, 5, none⟩ = some (.slice (some ⟨wc.heap.size, 0, none⟩) 2 2)) := fun W hb => ⟨(hb.cell (p := ⟨wc.heap.size + 1, 0, none⟩) HVt_wg.out.lt).trans (HVt_wg.out.cell 0), (hb.cell (p := ⟨wc.heap.size + 1, 1, none⟩) HVt_wg.out.lt).trans (HVt_wg.out.cell 1), (hb.cell (p := ⟨wc.heap.size + 1, 2, none⟩) HVt_wg.out.lt).trans (HVt_wg.out.cell 2), (hb.cell (p := ⟨wc.heap.size + 1, 3, none⟩) HVt_wg.out.lt).trans (HVt_wg.out.cell 3), (hb.cell (p := ⟨wc.heap.size + 1, 4, none⟩) HVt_wg.out.lt).trans (HVt_wg.out.cell 4), (hb.cell (p := ⟨wc.heap.size + 1, 5, none⟩) HVt_wg.out.lt).trans (HVt_wg.out.cell 5)⟩
                have HKp : Hid (∀ W, Below wg.heap.size wg W → Kin W 0 W.heap.size p.kids A c) := fun W hb => Kin.wide (Nat.le_refl _) hb.size (HXp_wg.out.kept hb (Nat.le_refl _))
                have HKk : Hid (∀ W, Below wg.heap.size wg W → Kin W 0 W.heap.size [p, u] (some ⟨w9.heap.size, 0, none⟩) 2) := fun W hb => Kin.wide (Nat.le_refl _) hb.size (HXk_wg.out.kept hb (Nat.le_refl _))
                have HKo : Hid (∀ W, Below wg.heap.size wg W → Kin W 0 W.heap.size [notP p, notP u] (some ⟨b, 0, none⟩) 2) := fun W hb => Kin.wide (Nat.le_refl _) hb.size (HXo_wg.out.kept hb (Nat.le_refl _))
                have HKt : Hid (∀ W, Below wg.heap.size wg W → Kin W 0 W.heap.size [p, p] (some ⟨wc.heap.size, 0, none⟩) 2) := fun W hb => Kin.wide (Nat.le_refl _) hb.size (HXt_wg.out.kept hb (Nat.le_refl _))
                have HRW : Hid (∀ W, Below wg.heap.size wg W → Row W 0 W.heap.size B rc row) := fun W hb => (HXr_wg.out.below hb (Nat.le_refl _)).wide (Nat.le_refl _) hb.size
                have HEN : Hid (∀ W, Below wg.heap.size wg W → Env W) := fun W hb => (HXe_wg.out.below hb (Nat.le_refl _)).env
                have OKN : Hid (∀ (kd : Int) (l : List Pr), 0 ≤ kd ∧ kd ≤ 100 → PrOk (.mk kd 0 ⟨#[]⟩ 0 0 l)) := fun kd l h => headP_ok ⟨by omega, by omega⟩
                have r1 : rightP (notP p) row.length 10 = true := right_not hrp (by decide)
                have r2 : rightP (notP (notP p)) row.length 11 = true := right_not r1 (by decide)
                have r3 : rightP (andP p u) row.length 10 = true := right_two (.inl rfl) hrp hru (by decide)
                have r4 : rightP (notP (andP p u)) row.length 11 = true := right_not r3 (by decide)
                have r5 : rightP (orP (notP p) (notP u)) row.length 11 = true := right_two (.inr rfl) r1 (right_not hru (by decide)) (by decide)
                have r6 : rightP (orP p p) row.length 10 = true := right_two (.inr rfl) hrp hrp (by decide)
                have R1 : Hid (rightP (notP p) row.length 12 = true) := right_mono _ _ _ _ r1 (by decide)
                have R2 : Hid (rightP (notP (notP p)) row.length 12 = true) := right_mono _ _ _ _ r2 (by decide)
                have R4 : Hid (rightP (notP (andP p u)) row.length 12 = true) := right_mono _ _ _ _ r4 (by decide)
                have R5 : Hid (rightP (orP (notP p) (notP u)) row.length 12 = true) := right_mono _ _ _ _ r5 (by decide)
                have R6 : Hid (rightP (orP p p) row.length 12 = true) := right_mono _ _ _ _ r6 (by decide)
                clear r1 r2 r3 r4 r5 r6
                have V2 : Hid (saysP (notP (notP p)) row = z) := by unfold Hid; rw [rule_notnot]; exact HZ.out
                have V6 : Hid (saysP (orP p p) row = z) := by unfold Hid; rw [rule_twice]; exact HZ.out
                obtain ⟨m, hm⟩ : ∃ m, saysP (notP (andP p u)) row = m := ⟨_, rfl⟩
                have V4 := Lib.hid hm
                have V5 : Hid (saysP (orP (notP p) (notP u)) row = m) := by unfold Hid; rw [← rule_morgan]; exact hm
                obtain ⟨y, hy⟩ : ∃ y, saysP (notP p) row = y := ⟨_, rfl⟩
                have V1 := Lib.hid hy
                obtain ⟨e, he⟩ : ∃ e, (z == 2) = e := ⟨_, rfl⟩
                have he2 : (y == 2) = e := by
                  have h := rule_unknown p row
                  rw [HZ.out, hy] at h
                  rw [← he]
                  exact h.symm
                have bz : (z == z) = true := by simp
                have bm : (m == m) = true := by simp
                have be : (e == e) = true := by simp
                clear hm hy
                have KG : Hid (Below wg.heap.size wg wg.drew) := (Below.refl _ _).drew
                go_wp2_with fail
                refine wp_region_held_drew (S := fun w' => Below wg.heap.size wg w') (by kernel_rfl) KG.out (fun hHeld => ?_)
                refine wpAnyH_take (i := 0) (oi := _) (v := ?_) rfl (by kernel_rfl) (by kernel_rfl) (by kernel_rfl) (fun _ _ _ h => h) (Or.inl ⟨by rfl, ?_⟩) hHeld ?_
                rotate_left
                focus (intro W hSw; obtain ⟨q0, q1, q2, q3, q4, q5⟩ := HSp.out W hSw; go_simp; try with_reducible rfl)
                try simp only [List.getElem_toArray, List.getElem_cons_zero, List.getElem_cons_succ, Act.put, List.setIfInBounds_toArray, List.set_cons_zero, List.set_cons_succ]
                refine wpAnyH_take (i := 3) (oi := _) (v := ?_) rfl (by kernel_rfl) (by kernel_rfl) (by kernel_rfl) (fun _ _ _ h => h) (Or.inl ⟨by rfl, ?_⟩) hHeld ?_
                rotate_left
                focus (intro W hSw; go_simp; try with_reducible rfl)
                try simp only [List.getElem_toArray, List.getElem_cons_zero, List.getElem_cons_succ, Act.put, List.setIfInBounds_toArray, List.set_cons_zero, List.set_cons_succ]
                refine wpAnyH_take (i := 5) (oi := _) (v := ?_) rfl (by kernel_rfl) (by kernel_rfl) (by kernel_rfl) (fun _ _ _ h => h) (Or.inl ⟨by rfl, ?_⟩) hHeld ?_
                rotate_left
                focus (intro W hSw; go_simp; try with_reducible rfl)
                try simp only [List.getElem_toArray, List.getElem_cons_zero, List.getElem_cons_succ, Act.put, List.setIfInBounds_toArray, List.set_cons_zero, List.set_cons_succ]
                refine wpAnyH_ready (rs := [1]) (by kernel_rfl) (by simp) ?_
                refine AllReadyH.cons (o := _) rfl (fun K hK => ?_) AllReadyH.nil
                go_simp
                refine (not_kin HO.out (HKp.out _ hHeld)).mono ?_
                rintro r x1 ⟨b3, rfl, hk3, hby⟩
                have Kx1 := Lib.hid (below_below hHeld hby hHeld.size)
                have HN3 := Lib.hid hk3
                clear hk3
                clear hby
                refine hK.out _ _ Kx1.out (fun hHeld => ?_)
                clear hK K
                try simp only [List.getElem_toArray, List.getElem_cons_zero, List.getElem_cons_succ, Act.put, List.setIfInBounds_toArray, List.set_cons_zero, List.set_cons_succ]
                refine wpAnyH_ready (rs := [2]) (by kernel_rfl) (by simp) ?_
                refine AllReadyH.cons (o := _) rfl (fun K hK => ?_) AllReadyH.nil
                go_simp
                refine (not_kin (p := notP p) (A := some ⟨b3, 0, none⟩) (c := 1) (OKN.out 14 _ (by decide)) HN3.out).mono ?_
                rintro r x2 ⟨b4, rfl, hk4, hby⟩
                have Kx2 := Lib.hid (below_below Kx1.out hby Kx1.out.size)
                have HN4 := Lib.hid hk4
                clear hk4
                clear hby
                refine hK.out _ _ Kx2.out (fun hHeld => ?_)
                clear hK K
                try simp only [List.getElem_toArray, List.getElem_cons_zero, List.getElem_cons_succ, Act.put, List.setIfInBounds_toArray, List.set_cons_zero, List.set_cons_succ]
                refine wpAnyH_ready (rs := [4]) (by kernel_rfl) (by simp) ?_
                refine AllReadyH.cons (o := _) rfl (fun K hK => ?_) AllReadyH.nil
                go_simp
                refine (says_is (p := notP (notP p)) (A := some ⟨b4, 0, none⟩) (c := 1) (OKN.out 14 _ (by decide)) HN4.out (HRW.out _ Kx2.out) HVS.out R2.out _ V2.out (HEN.out _ Kx2.out)).mono ?_
                rintro r x4 ⟨rfl, hby⟩
                have Kx4 := Lib.hid (below_below Kx2.out hby Kx2.out.size)
                clear hby
                refine hK.out _ _ Kx4.out (fun hHeld => ?_)
                clear hK K
                try simp only [List.getElem_toArray, List.getElem_cons_zero, List.getElem_cons_succ, Act.put, List.setIfInBounds_toArray, List.set_cons_zero, List.set_cons_succ]
                refine wpAnyH_take (i := 6) (oi := _) (v := .bool true) rfl (by kernel_rfl) (by kernel_rfl) (by kernel_rfl) (fun _ _ _ h => h) (Or.inl ⟨by rfl, ?_⟩) hHeld ?_
                focus (intro W hSw; go_simp; try with_reducible rfl)
                try simp only [List.getElem_toArray, List.getElem_cons_zero, List.getElem_cons_succ, Act.put, List.setIfInBounds_toArray, List.set_cons_zero, List.set_cons_succ]
                refine wpAnyH_take (i := 7) (oi := _) (v := .bool true) rfl (by kernel_rfl) (by kernel_rfl) (by kernel_rfl) (fun _ _ _ h => h) (Or.inl ⟨by rfl, ?_⟩) hHeld ?_
                focus (intro W hSw; go_simp; try with_reducible rfl)
                try simp only [List.getElem_toArray, List.getElem_cons_zero, List.getElem_cons_succ, Act.put, List.setIfInBounds_toArray, List.set_cons_zero, List.set_cons_succ]
                refine wpAnyH_take (i := 8) (oi := _) (v := ?_) rfl (by kernel_rfl) (by kernel_rfl) (by kernel_rfl) (fun _ _ _ h => h) (Or.inl ⟨by rfl, ?_⟩) hHeld ?_
                rotate_left
                focus (intro W hSw; obtain ⟨q0, q1, q2, q3, q4, q5⟩ := HSt.out W hSw; go_simp; try with_reducible rfl)
                try simp only [List.getElem_toArray, List.getElem_cons_zero, List.getElem_cons_succ, Act.put, List.setIfInBounds_toArray, List.set_cons_zero, List.set_cons_succ]
                refine wpAnyH_take (i := 9) (oi := _) (v := ?_) rfl (by kernel_rfl) (by kernel_rfl) (by kernel_rfl) (fun _ _ _ h => h) (Or.inl ⟨by rfl, ?_⟩) hHeld ?_
                rotate_left
                focus (intro W hSw; go_simp; try with_reducible rfl)
                try simp only [List.getElem_toArray, List.getElem_cons_zero, List.getElem_cons_succ, Act.put, List.setIfInBounds_toArray, List.set_cons_zero, List.set_cons_succ]
                refine wpAnyH_take (i := 11) (oi := _) (v := ?_) rfl (by kernel_rfl) (by kernel_rfl) (by kernel_rfl) (fun _ _ _ h => h) (Or.inl ⟨by rfl, ?_⟩) hHeld ?_
                rotate_left
                focus (intro W hSw; go_simp; try with_reducible rfl)
                try simp only [List.getElem_toArray, List.getElem_cons_zero, List.getElem_cons_succ, Act.put, List.setIfInBounds_toArray, List.set_cons_zero, List.set_cons_succ]
                refine wpAnyH_ready (rs := [10]) (by kernel_rfl) (by simp) ?_
                refine AllReadyH.cons (o := _) rfl (fun K hK => ?_) AllReadyH.nil
                go_simp
                refine (says_is (p := orP p p) (A := some ⟨wc.heap.size, 0, none⟩) (c := 2) (OKN.out 13 _ (by decide)) (HKt.out _ Kx4.out) (HRW.out _ Kx4.out) HVS.out R6.out _ V6.out (HEN.out _ Kx4.out)).mono ?_
                rintro r x10 ⟨rfl, hby⟩
                have Kx10 := Lib.hid (below_below Kx4.out hby Kx4.out.size)
                clear hby
                refine hK.out _ _ Kx10.out (fun hHeld => ?_)
                clear hK K
                try simp only [List.getElem_toArray, List.getElem_cons_zero, List.getElem_cons_succ, Act.put, List.setIfInBounds_toArray, List.set_cons_zero, List.set_cons_succ]
                refine wpAnyH_take (i := 12) (oi := _) (v := .bool true) rfl (by kernel_rfl) (by kernel_rfl) (by kernel_rfl) (fun _ _ _ h => h) (Or.inl ⟨by rfl, ?_⟩) hHeld ?_
                focus (intro W hSw; go_simp; try with_reducible rfl)
                try simp only [List.getElem_toArray, List.getElem_cons_zero, List.getElem_cons_succ, Act.put, List.setIfInBounds_toArray, List.set_cons_zero, List.set_cons_succ]
                refine wpAnyH_take (i := 13) (oi := _) (v := .bool true) rfl (by kernel_rfl) (by kernel_rfl) (by kernel_rfl) (fun _ _ _ h => h) (Or.inl ⟨by rfl, ?_⟩) hHeld ?_
                focus (intro W hSw; go_simp; try with_reducible rfl)
                try simp only [List.getElem_toArray, List.getElem_cons_zero, List.getElem_cons_succ, Act.put, List.setIfInBounds_toArray, List.set_cons_zero, List.set_cons_succ]
                refine wpAnyH_take (i := 14) (oi := _) (v := .bool true) rfl (by kernel_rfl) (by kernel_rfl) (by kernel_rfl) (fun _ _ _ h => h) (Or.inl ⟨by rfl, ?_⟩) hHeld ?_
                focus (intro W hSw; go_simp; try with_reducible rfl)
                try simp only [List.getElem_toArray, List.getElem_cons_zero, List.getElem_cons_succ, Act.put, List.setIfInBounds_toArray, List.set_cons_zero, List.set_cons_succ]
                refine wpAnyH_take (i := 15) (oi := _) (v := ?_) rfl (by kernel_rfl) (by kernel_rfl) (by kernel_rfl) (fun _ _ _ h => h) (Or.inl ⟨by rfl, ?_⟩) hHeld ?_
                rotate_left
                focus (intro W hSw; obtain ⟨q0, q1, q2, q3, q4, q5⟩ := HSa.out W hSw; go_simp; try with_reducible rfl)
                try simp only [List.getElem_toArray, List.getElem_cons_zero, List.getElem_cons_succ, Act.put, List.setIfInBounds_toArray, List.set_cons_zero, List.set_cons_succ]
                refine wpAnyH_take (i := 17) (oi := _) (v := ?_) rfl (by kernel_rfl) (by kernel_rfl) (by kernel_rfl) (fun _ _ _ h => h) (Or.inl ⟨by rfl, ?_⟩) hHeld ?_
                rotate_left
                focus (intro W hSw; go_simp; try with_reducible rfl)
                try simp only [List.getElem_toArray, List.getElem_cons_zero, List.getElem_cons_succ, Act.put, List.setIfInBounds_toArray, List.set_cons_zero, List.set_cons_succ]
                refine wpAnyH_take (i := 19) (oi := _) (v := ?_) rfl (by kernel_rfl) (by kernel_rfl) (by kernel_rfl) (fun _ _ _ h => h) (Or.inl ⟨by rfl, ?_⟩) hHeld ?_
                rotate_left
                focus (intro W hSw; obtain ⟨q0, q1, q2, q3, q4, q5⟩ := HSo.out W hSw; go_simp; try with_reducible rfl)
                try simp only [List.getElem_toArray, List.getElem_cons_zero, List.getElem_cons_succ, Act.put, List.setIfInBounds_toArray, List.set_cons_zero, List.set_cons_succ]
                refine wpAnyH_take (i := 20) (oi := _) (v := ?_) rfl (by kernel_rfl) (by kernel_rfl) (by kernel_rfl) (fun _ _ _ h => h) (Or.inl ⟨by rfl, ?_⟩) hHeld ?_
                rotate_left
                focus (intro W hSw; go_simp; try with_reducible rfl)
                try simp only [List.getElem_toArray, List.getElem_cons_zero, List.getElem_cons_succ, Act.put, List.setIfInBounds_toArray, List.set_cons_zero, List.set_cons_succ]
                refine wpAnyH_ready (rs := [16]) (by kernel_rfl) (by simp) ?_
                refine AllReadyH.cons (o := _) rfl (fun K hK => ?_) AllReadyH.nil
                go_simp
                refine (not_kin (p := andP p u) (A := some ⟨w9.heap.size, 0, none⟩) (c := 2) (OKN.out 12 _ (by decide)) (HKk.out _ Kx10.out)).mono ?_
                rintro r x16 ⟨b5, rfl, hk5, hby⟩
                have Kx16 := Lib.hid (below_below Kx10.out hby Kx10.out.size)
                have HN5 := Lib.hid hk5
                clear hk5
                clear hby
                refine hK.out _ _ Kx16.out (fun hHeld => ?_)
                clear hK K
                try simp only [List.getElem_toArray, List.getElem_cons_zero, List.getElem_cons_succ, Act.put, List.setIfInBounds_toArray, List.set_cons_zero, List.set_cons_succ]
                refine wpAnyH_ready (rs := [18]) (by kernel_rfl) (by simp) ?_
                refine AllReadyH.cons (o := _) rfl (fun K hK => ?_) AllReadyH.nil
                go_simp
                refine (says_is (p := notP (andP p u)) (A := some ⟨b5, 0, none⟩) (c := 1) (OKN.out 14 _ (by decide)) HN5.out (HRW.out _ Kx16.out) HVS.out R4.out _ V4.out (HEN.out _ Kx16.out)).mono ?_
                rintro r x18 ⟨rfl, hby⟩
                have Kx18 := Lib.hid (below_below Kx16.out hby Kx16.out.size)
                clear hby
                refine hK.out _ _ Kx18.out (fun hHeld => ?_)
                clear hK K
                try simp only [List.getElem_toArray, List.getElem_cons_zero, List.getElem_cons_succ, Act.put, List.setIfInBounds_toArray, List.set_cons_zero, List.set_cons_succ]
                refine wpAnyH_ready (rs := [21]) (by kernel_rfl) (by simp) ?_
                refine AllReadyH.cons (o := _) rfl (fun K hK => ?_) AllReadyH.nil
                go_simp
                refine (says_is (p := orP (notP p) (notP u)) (A := some ⟨b, 0, none⟩) (c := 2) (OKN.out 13 _ (by decide)) (HKo.out _ Kx18.out) (HRW.out _ Kx18.out) HVS.out R5.out _ V5.out (HEN.out _ Kx18.out)).mono ?_
                rintro r x21 ⟨rfl, hby⟩
                have Kx21 := Lib.hid (below_below Kx18.out hby Kx18.out.size)
                clear hby
                refine hK.out _ _ Kx21.out (fun hHeld => ?_)
                clear hK K
                try simp only [List.getElem_toArray, List.getElem_cons_zero, List.getElem_cons_succ, Act.put, List.setIfInBounds_toArray, List.set_cons_zero, List.set_cons_succ]
                refine wpAnyH_take (i := 22) (oi := _) (v := .bool true) rfl (by kernel_rfl) (by kernel_rfl) (by kernel_rfl) (fun _ _ _ h => h) (Or.inl ⟨by rfl, ?_⟩) hHeld ?_
                focus (intro W hSw; go_simp; try with_reducible rfl)
                try simp only [List.getElem_toArray, List.getElem_cons_zero, List.getElem_cons_succ, Act.put, List.setIfInBounds_toArray, List.set_cons_zero, List.set_cons_succ]
                refine wpAnyH_take (i := 23) (oi := _) (v := .bool true) rfl (by kernel_rfl) (by kernel_rfl) (by kernel_rfl) (fun _ _ _ h => h) (Or.inl ⟨by rfl, ?_⟩) hHeld ?_
                focus (intro W hSw; go_simp; try with_reducible rfl)
                try simp only [List.getElem_toArray, List.getElem_cons_zero, List.getElem_cons_succ, Act.put, List.setIfInBounds_toArray, List.set_cons_zero, List.set_cons_succ]
                refine wpAnyH_take (i := 24) (oi := _) (v := .bool true) rfl (by kernel_rfl) (by kernel_rfl) (by kernel_rfl) (fun _ _ _ h => h) (Or.inl ⟨by rfl, ?_⟩) hHeld ?_
                focus (intro W hSw; go_simp; try with_reducible rfl)
                try simp only [List.getElem_toArray, List.getElem_cons_zero, List.getElem_cons_succ, Act.put, List.setIfInBounds_toArray, List.set_cons_zero, List.set_cons_succ]
                refine wpAnyH_take (i := 25) (oi := _) (v := ?_) rfl (by kernel_rfl) (by kernel_rfl) (by kernel_rfl) (fun _ _ _ h => h) (Or.inl ⟨by rfl, ?_⟩) hHeld ?_
                rotate_left
                focus (intro W hSw; go_simp; try with_reducible rfl)
                try simp only [List.getElem_toArray, List.getElem_cons_zero, List.getElem_cons_succ, Act.put, List.setIfInBounds_toArray, List.set_cons_zero, List.set_cons_succ]
                refine wpAnyH_take (i := 26) (oi := _) (v := ?_) rfl (by kernel_rfl) (by kernel_rfl) (by kernel_rfl) (fun _ _ _ h => h) (Or.inl ⟨by rfl, ?_⟩) hHeld ?_
                rotate_left
                focus (intro W hSw; go_simp; try with_reducible rfl)
                try simp only [List.getElem_toArray, List.getElem_cons_zero, List.getElem_cons_succ, Act.put, List.setIfInBounds_toArray, List.set_cons_zero, List.set_cons_succ]
                refine wpAnyH_take (i := 27) (oi := _) (v := ?_) rfl (by kernel_rfl) (by kernel_rfl) (by kernel_rfl) (fun _ _ _ h => h) (Or.inl ⟨by rfl, ?_⟩) hHeld ?_
                rotate_left
                focus (intro W hSw; obtain ⟨q0, q1, q2, q3, q4, q5⟩ := HSp.out W hSw; go_simp; try with_reducible rfl)
                try simp only [List.getElem_toArray, List.getElem_cons_zero, List.getElem_cons_succ, Act.put, List.setIfInBounds_toArray, List.set_cons_zero, List.set_cons_succ]
                refine wpAnyH_take (i := 29) (oi := _) (v := ?_) rfl (by kernel_rfl) (by kernel_rfl) (by kernel_rfl) (fun _ _ _ h => h) (Or.inl ⟨by rfl, ?_⟩) hHeld ?_
                rotate_left
                focus (intro W hSw; go_simp; try with_reducible rfl)
                try simp only [List.getElem_toArray, List.getElem_cons_zero, List.getElem_cons_succ, Act.put, List.setIfInBounds_toArray, List.set_cons_zero, List.set_cons_succ]
                refine wpAnyH_ready (rs := [28]) (by kernel_rfl) (by simp) ?_
                refine AllReadyH.cons (o := _) rfl (fun K hK => ?_) AllReadyH.nil
                go_simp
                refine (not_kin HO.out (HKp.out _ Kx21.out)).mono ?_
                rintro r x28 ⟨b6, rfl, hk6, hby⟩
                have Kx28 := Lib.hid (below_below Kx21.out hby Kx21.out.size)
                have HN6 := Lib.hid hk6
                clear hk6
                clear hby
                refine hK.out _ _ Kx28.out (fun hHeld => ?_)
                clear hK K
                try simp only [List.getElem_toArray, List.getElem_cons_zero, List.getElem_cons_succ, Act.put, List.setIfInBounds_toArray, List.set_cons_zero, List.set_cons_succ]
                refine wpAnyH_ready (rs := [30]) (by kernel_rfl) (by simp) ?_
                refine AllReadyH.cons (o := _) rfl (fun K hK => ?_) AllReadyH.nil
                go_simp
                refine (says_is (p := notP p) (A := some ⟨b6, 0, none⟩) (c := 1) (OKN.out 14 _ (by decide)) HN6.out (HRW.out _ Kx28.out) HVS.out R1.out _ V1.out (HEN.out _ Kx28.out)).mono ?_
                rintro r x30 ⟨rfl, hby⟩
                have Kx30 := Lib.hid (below_below Kx28.out hby Kx28.out.size)
                clear hby
                refine hK.out _ _ Kx30.out (fun hHeld => ?_)
                clear hK K
                try simp only [List.getElem_toArray, List.getElem_cons_zero, List.getElem_cons_succ, Act.put, List.setIfInBounds_toArray, List.set_cons_zero, List.set_cons_succ]
                refine wpAnyH_take (i := 31) (oi := _) (v := ?_) rfl (by kernel_rfl) (by kernel_rfl) (by kernel_rfl) (fun _ _ _ h => h) (Or.inl ⟨by rfl, ?_⟩) hHeld ?_
                rotate_left
                focus (intro W hSw; go_simp; try with_reducible rfl)
                try simp only [List.getElem_toArray, List.getElem_cons_zero, List.getElem_cons_succ, Act.put, List.setIfInBounds_toArray, List.set_cons_zero, List.set_cons_succ]
                refine wpAnyH_take (i := 32) (oi := _) (v := .bool true) rfl (by kernel_rfl) (by kernel_rfl) (by kernel_rfl) (fun _ _ _ h => h) (Or.inl ⟨by rfl, ?_⟩) hHeld ?_
                focus (intro W hSw; go_simp; try with_reducible rfl)
                try simp only [List.getElem_toArray, List.getElem_cons_zero, List.getElem_cons_succ, Act.put, List.setIfInBounds_toArray, List.set_cons_zero, List.set_cons_succ]
                refine wpAnyH_take (i := 33) (oi := _) (v := .bool true) rfl (by kernel_rfl) (by kernel_rfl) (by kernel_rfl) (fun _ _ _ h => h) (Or.inl ⟨by rfl, ?_⟩) hHeld ?_
                focus (intro W hSw; go_simp; try with_reducible rfl)
                try simp only [List.getElem_toArray, List.getElem_cons_zero, List.getElem_cons_succ, Act.put, List.setIfInBounds_toArray, List.set_cons_zero, List.set_cons_succ]
                refine wpAnyH_take (i := 34) (oi := _) (v := .bool true) rfl (by kernel_rfl) (by kernel_rfl) (by kernel_rfl) (fun _ _ _ h => h) (Or.inl ⟨by rfl, ?_⟩) hHeld ?_
                focus (intro W hSw; go_simp; try with_reducible rfl)
                try simp only [List.getElem_toArray, List.getElem_cons_zero, List.getElem_cons_succ, Act.put, List.setIfInBounds_toArray, List.set_cons_zero, List.set_cons_succ]
                refine wpAnyH_done (by kernel_rfl) ?_ _
                go_wp2_with fail
                go_ret
                exact ⟨rfl, below_below HB_wg.out Kx30.out S_wg⟩
            | false =>
              refine (rows_is hr2 row.length 1 rfl false hrw).mono ?_
              rintro r w8 ⟨rfl, b_w8⟩
              have HXe_w8 := Lib.hid ((HXe_w7.out.below b_w8 (Nat.le_refl _)).wide (Nat.le_refl _) b_w8.size)
              have HXp_w8 := Lib.hid (Kin.wide (Nat.le_refl _) b_w8.size (HXp_w7.out.kept b_w8 (Nat.le_refl _)))
              have HXu_w8 := Lib.hid (Kin.wide (Nat.le_refl _) b_w8.size (HXu_w7.out.kept b_w8 (Nat.le_refl _)))
              have HXr_w8 := Lib.hid ((HXr_w7.out.below b_w8 (Nat.le_refl _)).wide (Nat.le_refl _) b_w8.size)
              have HVp_w8 := Lib.hid (HVp_w7.out.below b_w8 HVp_w7.out.lt)
              have HVu_w8 := Lib.hid (HVu_w7.out.below b_w8 HVu_w7.out.lt)
              have HB_w8 := Lib.hid (below_below HB_w7.out b_w8 S_w7)
              have S_w8 := HB_w8.out.size
              clear b_w8 HB_w7  HXe_w7 HXp_w7 HXu_w7 HXr_w7 HVp_w7 HVu_w7 
              go_wp2_with fail
              refine (awake16_any HXe_w8.out.env).mono ?_
              rintro r wx ⟨rfl, b_wx⟩
              have HXe_wx := Lib.hid ((HXe_w8.out.below b_wx (Nat.le_refl _)).wide (Nat.le_refl _) b_wx.size)
              have HXp_wx := Lib.hid (Kin.wide (Nat.le_refl _) b_wx.size (HXp_w8.out.kept b_wx (Nat.le_refl _)))
              have HXu_wx := Lib.hid (Kin.wide (Nat.le_refl _) b_wx.size (HXu_w8.out.kept b_wx (Nat.le_refl _)))
              have HXr_wx := Lib.hid ((HXr_w8.out.below b_wx (Nat.le_refl _)).wide (Nat.le_refl _) b_wx.size)
              have HVp_wx := Lib.hid (HVp_w8.out.below b_wx HVp_w8.out.lt)
              have HVu_wx := Lib.hid (HVu_w8.out.below b_wx HVu_w8.out.lt)
              have HB_wx := Lib.hid (below_below HB_w8.out b_wx S_w8)
              have S_wx := HB_wx.out.size
              clear b_wx HB_w8  HXe_w8 HXp_w8 HXu_w8 HXr_w8 HVp_w8 HVu_w8 
              go_wp2_with fail
              go_ret
              exact ⟨rfl, HB_wx.out⟩
          | false =>
            refine (refright_is HO2.out HXu_w5.out row.length 9 (by decide) false hru).mono ?_
            rintro r w6 ⟨rfl, b_w6⟩
            have HXe_w6 := Lib.hid ((HXe_w5.out.below b_w6 (Nat.le_refl _)).wide (Nat.le_refl _) b_w6.size)
            have HXp_w6 := Lib.hid (Kin.wide (Nat.le_refl _) b_w6.size (HXp_w5.out.kept b_w6 (Nat.le_refl _)))
            have HXu_w6 := Lib.hid (Kin.wide (Nat.le_refl _) b_w6.size (HXu_w5.out.kept b_w6 (Nat.le_refl _)))
            have HXr_w6 := Lib.hid ((HXr_w5.out.below b_w6 (Nat.le_refl _)).wide (Nat.le_refl _) b_w6.size)
            have HVp_w6 := Lib.hid (HVp_w5.out.below b_w6 HVp_w5.out.lt)
            have HVu_w6 := Lib.hid (HVu_w5.out.below b_w6 HVu_w5.out.lt)
            have HB_w6 := Lib.hid (below_below HB_w5.out b_w6 S_w5)
            have S_w6 := HB_w6.out.size
            clear b_w6 HB_w5  HXe_w5 HXp_w5 HXu_w5 HXr_w5 HVp_w5 HVu_w5 
            go_wp2_with fail
            refine (awake16_any HXe_w6.out.env).mono ?_
            rintro r wx ⟨rfl, b_wx⟩
            have HXe_wx := Lib.hid ((HXe_w6.out.below b_wx (Nat.le_refl _)).wide (Nat.le_refl _) b_wx.size)
            have HXp_wx := Lib.hid (Kin.wide (Nat.le_refl _) b_wx.size (HXp_w6.out.kept b_wx (Nat.le_refl _)))
            have HXu_wx := Lib.hid (Kin.wide (Nat.le_refl _) b_wx.size (HXu_w6.out.kept b_wx (Nat.le_refl _)))
            have HXr_wx := Lib.hid ((HXr_w6.out.below b_wx (Nat.le_refl _)).wide (Nat.le_refl _) b_wx.size)
            have HVp_wx := Lib.hid (HVp_w6.out.below b_wx HVp_w6.out.lt)
            have HVu_wx := Lib.hid (HVu_w6.out.below b_wx HVu_w6.out.lt)
            have HB_wx := Lib.hid (below_below HB_w6.out b_wx S_w6)
            have S_wx := HB_wx.out.size
            clear b_wx HB_w6  HXe_w6 HXp_w6 HXu_w6 HXr_w6 HVp_w6 HVu_w6 
            go_wp2_with fail
            go_ret
            exact ⟨rfl, HB_wx.out⟩
        | false =>
          refine (refright_is HO.out HXp_w4.out row.length 9 (by decide) false hrp).mono ?_
          rintro r w5 ⟨rfl, b_w5⟩
          have HXe_w5 := Lib.hid ((HXe_w4.out.below b_w5 (Nat.le_refl _)).wide (Nat.le_refl _) b_w5.size)
          have HXp_w5 := Lib.hid (Kin.wide (Nat.le_refl _) b_w5.size (HXp_w4.out.kept b_w5 (Nat.le_refl _)))
          have HXu_w5 := Lib.hid (Kin.wide (Nat.le_refl _) b_w5.size (HXu_w4.out.kept b_w5 (Nat.le_refl _)))
          have HXr_w5 := Lib.hid ((HXr_w4.out.below b_w5 (Nat.le_refl _)).wide (Nat.le_refl _) b_w5.size)
          have HVp_w5 := Lib.hid (HVp_w4.out.below b_w5 HVp_w4.out.lt)
          have HVu_w5 := Lib.hid (HVu_w4.out.below b_w5 HVu_w4.out.lt)
          have HB_w5 := Lib.hid (below_below HB_w4.out b_w5 S_w4)
          have S_w5 := HB_w5.out.size
          clear b_w5 HB_w4  HXe_w4 HXp_w4 HXu_w4 HXr_w4 HVp_w4 HVu_w4 
          go_wp2_with fail
          refine (awake16_any HXe_w5.out.env).mono ?_
          rintro r wx ⟨rfl, b_wx⟩
          have HXe_wx := Lib.hid ((HXe_w5.out.below b_wx (Nat.le_refl _)).wide (Nat.le_refl _) b_wx.size)
          have HXp_wx := Lib.hid (Kin.wide (Nat.le_refl _) b_wx.size (HXp_w5.out.kept b_wx (Nat.le_refl _)))
          have HXu_wx := Lib.hid (Kin.wide (Nat.le_refl _) b_wx.size (HXu_w5.out.kept b_wx (Nat.le_refl _)))
          have HXr_wx := Lib.hid ((HXr_w5.out.below b_wx (Nat.le_refl _)).wide (Nat.le_refl _) b_wx.size)
          have HVp_wx := Lib.hid (HVp_w5.out.below b_wx HVp_w5.out.lt)
          have HVu_wx := Lib.hid (HVu_w5.out.below b_wx HVu_w5.out.lt)
          have HB_wx := Lib.hid (below_below HB_w5.out b_wx S_w5)
          have S_wx := HB_wx.out.size
          clear b_wx HB_w5  HXe_w5 HXp_w5 HXu_w5 HXr_w5 HVp_w5 HVu_w5 
          go_wp2_with fail
          go_ret
          exact ⟨rfl, HB_wx.out⟩
      | false =>
        refine (small_is HO2.out HXu_w3.out false hsm2).mono ?_
        rintro r w4 ⟨rfl, b_w4⟩
        have HXe_w4 := Lib.hid ((HXe_w3.out.below b_w4 (Nat.le_refl _)).wide (Nat.le_refl _) b_w4.size)
        have HXp_w4 := Lib.hid (Kin.wide (Nat.le_refl _) b_w4.size (HXp_w3.out.kept b_w4 (Nat.le_refl _)))
        have HXu_w4 := Lib.hid (Kin.wide (Nat.le_refl _) b_w4.size (HXu_w3.out.kept b_w4 (Nat.le_refl _)))
        have HXr_w4 := Lib.hid ((HXr_w3.out.below b_w4 (Nat.le_refl _)).wide (Nat.le_refl _) b_w4.size)
        have HVp_w4 := Lib.hid (HVp_w3.out.below b_w4 HVp_w3.out.lt)
        have HVu_w4 := Lib.hid (HVu_w3.out.below b_w4 HVu_w3.out.lt)
        have HB_w4 := Lib.hid (below_below HB_w3.out b_w4 S_w3)
        have S_w4 := HB_w4.out.size
        clear b_w4 HB_w3  HXe_w3 HXp_w3 HXu_w3 HXr_w3 HVp_w3 HVu_w3 
        go_wp2_with fail
        refine (awake16_any HXe_w4.out.env).mono ?_
        rintro r wx ⟨rfl, b_wx⟩
        have HXe_wx := Lib.hid ((HXe_w4.out.below b_wx (Nat.le_refl _)).wide (Nat.le_refl _) b_wx.size)
        have HXp_wx := Lib.hid (Kin.wide (Nat.le_refl _) b_wx.size (HXp_w4.out.kept b_wx (Nat.le_refl _)))
        have HXu_wx := Lib.hid (Kin.wide (Nat.le_refl _) b_wx.size (HXu_w4.out.kept b_wx (Nat.le_refl _)))
        have HXr_wx := Lib.hid ((HXr_w4.out.below b_wx (Nat.le_refl _)).wide (Nat.le_refl _) b_wx.size)
        have HVp_wx := Lib.hid (HVp_w4.out.below b_wx HVp_w4.out.lt)
        have HVu_wx := Lib.hid (HVu_w4.out.below b_wx HVu_w4.out.lt)
        have HB_wx := Lib.hid (below_below HB_w4.out b_wx S_w4)
        have S_wx := HB_wx.out.size
        clear b_wx HB_w4  HXe_w4 HXp_w4 HXu_w4 HXr_w4 HVp_w4 HVu_w4 
        go_wp2_with fail
        go_ret
        exact ⟨rfl, HB_wx.out⟩
    | false =>
      refine (small_is HO.out HXp_w2.out false hsm).mono ?_
      rintro r w3 ⟨rfl, b_w3⟩
      have HXe_w3 := Lib.hid ((HXe_w2.out.below b_w3 (Nat.le_refl _)).wide (Nat.le_refl _) b_w3.size)
      have HXp_w3 := Lib.hid (Kin.wide (Nat.le_refl _) b_w3.size (HXp_w2.out.kept b_w3 (Nat.le_refl _)))
      have HXu_w3 := Lib.hid (Kin.wide (Nat.le_refl _) b_w3.size (HXu_w2.out.kept b_w3 (Nat.le_refl _)))
      have HXr_w3 := Lib.hid ((HXr_w2.out.below b_w3 (Nat.le_refl _)).wide (Nat.le_refl _) b_w3.size)
      have HVp_w3 := Lib.hid (HVp_w2.out.below b_w3 HVp_w2.out.lt)
      have HVu_w3 := Lib.hid (HVu_w2.out.below b_w3 HVu_w2.out.lt)
      have HB_w3 := Lib.hid (below_below HB_w2.out b_w3 S_w2)
      have S_w3 := HB_w3.out.size
      clear b_w3 HB_w2  HXe_w2 HXp_w2 HXu_w2 HXr_w2 HVp_w2 HVu_w2 
      go_wp2_with fail
      refine (awake16_any HXe_w3.out.env).mono ?_
      rintro r wx ⟨rfl, b_wx⟩
      have HXe_wx := Lib.hid ((HXe_w3.out.below b_wx (Nat.le_refl _)).wide (Nat.le_refl _) b_wx.size)
      have HXp_wx := Lib.hid (Kin.wide (Nat.le_refl _) b_wx.size (HXp_w3.out.kept b_wx (Nat.le_refl _)))
      have HXu_wx := Lib.hid (Kin.wide (Nat.le_refl _) b_wx.size (HXu_w3.out.kept b_wx (Nat.le_refl _)))
      have HXr_wx := Lib.hid ((HXr_w3.out.below b_wx (Nat.le_refl _)).wide (Nat.le_refl _) b_wx.size)
      have HVp_wx := Lib.hid (HVp_w3.out.below b_wx HVp_w3.out.lt)
      have HVu_wx := Lib.hid (HVu_w3.out.below b_wx HVu_w3.out.lt)
      have HB_wx := Lib.hid (below_below HB_w3.out b_wx S_w3)
      have S_wx := HB_wx.out.size
      clear b_wx HB_w3  HXe_w3 HXp_w3 HXu_w3 HXr_w3 HVp_w3 HVu_w3 
      go_wp2_with fail
      go_ret
      exact ⟨rfl, HB_wx.out⟩
  · have e8 : decide ((8 : Int) < (row.length : Int)) = true := decide_eq_true (by omega)
    have e8b : (8 : Int) < (row.length : Int) := by omega
    go_enter Tryd.func8, Tryd.ntmps8
    go_wp2_with fail
    clear hw_w0 hw_w1
    refine (awake16_any HXe_w1.out.env).mono ?_
    rintro r w2 ⟨rfl, b_w2⟩
    have HXe_w2 := Lib.hid ((HXe_w1.out.below b_w2 (Nat.le_refl _)).wide (Nat.le_refl _) b_w2.size)
    have HXp_w2 := Lib.hid (Kin.wide (Nat.le_refl _) b_w2.size (HXp_w1.out.kept b_w2 (Nat.le_refl _)))
    have HXu_w2 := Lib.hid (Kin.wide (Nat.le_refl _) b_w2.size (HXu_w1.out.kept b_w2 (Nat.le_refl _)))
    have HXr_w2 := Lib.hid ((HXr_w1.out.below b_w2 (Nat.le_refl _)).wide (Nat.le_refl _) b_w2.size)
    have HVp_w2 := Lib.hid (HVp_w1.out.below b_w2 HVp_w1.out.lt)
    have HVu_w2 := Lib.hid (HVu_w1.out.below b_w2 HVu_w1.out.lt)
    have HB_w2 := Lib.hid (below_below HB_w1.out b_w2 S_w1)
    have S_w2 := HB_w2.out.size
    clear b_w2 HB_w1  HXe_w1 HXp_w1 HXu_w1 HXr_w1 HVp_w1 HVu_w1 
    have cp0 : w2.cell? ⟨w.heap.size, 0, none⟩ = some (.int .i64 p.kind) := HVp_w2.out.cell 0
    have zp0 := HVp_w2.out.frozen 0
    have cp1 : w2.cell? ⟨w.heap.size, 1, none⟩ = some (.int .i64 p.col) := HVp_w2.out.cell 1
    have zp1 := HVp_w2.out.frozen 1
    have cp2 : w2.cell? ⟨w.heap.size, 2, none⟩ = some (.string p.s) := HVp_w2.out.cell 2
    have zp2 := HVp_w2.out.frozen 2
    have cp3 : w2.cell? ⟨w.heap.size, 3, none⟩ = some (.int .i64 p.esc) := HVp_w2.out.cell 3
    have zp3 := HVp_w2.out.frozen 3
    have cp4 : w2.cell? ⟨w.heap.size, 4, none⟩ = some (.int .i64 p.coll) := HVp_w2.out.cell 4
    have zp4 := HVp_w2.out.frozen 4
    have cp5 : w2.cell? ⟨w.heap.size, 5, none⟩ = some (.slice A p.kids.length c) := HVp_w2.out.cell 5
    have zp5 := HVp_w2.out.frozen 5
    go_wp2_with fail
    clear cp0 zp0 cp1 zp1 cp2 zp2 cp3 zp3 cp4 zp4 cp5 zp5
    cases hsm : smallP p 20 with
    | true =>
      refine (small_is HO.out HXp_w2.out true hsm).mono ?_
      rintro r w3 ⟨rfl, b_w3⟩
      have HXe_w3 := Lib.hid ((HXe_w2.out.below b_w3 (Nat.le_refl _)).wide (Nat.le_refl _) b_w3.size)
      have HXp_w3 := Lib.hid (Kin.wide (Nat.le_refl _) b_w3.size (HXp_w2.out.kept b_w3 (Nat.le_refl _)))
      have HXu_w3 := Lib.hid (Kin.wide (Nat.le_refl _) b_w3.size (HXu_w2.out.kept b_w3 (Nat.le_refl _)))
      have HXr_w3 := Lib.hid ((HXr_w2.out.below b_w3 (Nat.le_refl _)).wide (Nat.le_refl _) b_w3.size)
      have HVp_w3 := Lib.hid (HVp_w2.out.below b_w3 HVp_w2.out.lt)
      have HVu_w3 := Lib.hid (HVu_w2.out.below b_w3 HVu_w2.out.lt)
      have HB_w3 := Lib.hid (below_below HB_w2.out b_w3 S_w2)
      have S_w3 := HB_w3.out.size
      clear b_w3 HB_w2  HXe_w2 HXp_w2 HXu_w2 HXr_w2 HVp_w2 HVu_w2 
      have cu0 : w3.cell? ⟨w0.heap.size, 0, none⟩ = some (.int .i64 u.kind) := HVu_w3.out.cell 0
      have zu0 := HVu_w3.out.frozen 0
      have cu1 : w3.cell? ⟨w0.heap.size, 1, none⟩ = some (.int .i64 u.col) := HVu_w3.out.cell 1
      have zu1 := HVu_w3.out.frozen 1
      have cu2 : w3.cell? ⟨w0.heap.size, 2, none⟩ = some (.string u.s) := HVu_w3.out.cell 2
      have zu2 := HVu_w3.out.frozen 2
      have cu3 : w3.cell? ⟨w0.heap.size, 3, none⟩ = some (.int .i64 u.esc) := HVu_w3.out.cell 3
      have zu3 := HVu_w3.out.frozen 3
      have cu4 : w3.cell? ⟨w0.heap.size, 4, none⟩ = some (.int .i64 u.coll) := HVu_w3.out.cell 4
      have zu4 := HVu_w3.out.frozen 4
      have cu5 : w3.cell? ⟨w0.heap.size, 5, none⟩ = some (.slice A2 u.kids.length c2) := HVu_w3.out.cell 5
      have zu5 := HVu_w3.out.frozen 5
      go_wp2_with fail
      clear cu0 zu0 cu1 zu1 cu2 zu2 cu3 zu3 cu4 zu4 cu5 zu5
      cases hsm2 : smallP u 20 with
      | true =>
        refine (small_is HO2.out HXu_w3.out true hsm2).mono ?_
        rintro r w4 ⟨rfl, b_w4⟩
        have HXe_w4 := Lib.hid ((HXe_w3.out.below b_w4 (Nat.le_refl _)).wide (Nat.le_refl _) b_w4.size)
        have HXp_w4 := Lib.hid (Kin.wide (Nat.le_refl _) b_w4.size (HXp_w3.out.kept b_w4 (Nat.le_refl _)))
        have HXu_w4 := Lib.hid (Kin.wide (Nat.le_refl _) b_w4.size (HXu_w3.out.kept b_w4 (Nat.le_refl _)))
        have HXr_w4 := Lib.hid ((HXr_w3.out.below b_w4 (Nat.le_refl _)).wide (Nat.le_refl _) b_w4.size)
        have HVp_w4 := Lib.hid (HVp_w3.out.below b_w4 HVp_w3.out.lt)
        have HVu_w4 := Lib.hid (HVu_w3.out.below b_w4 HVu_w3.out.lt)
        have HB_w4 := Lib.hid (below_below HB_w3.out b_w4 S_w3)
        have S_w4 := HB_w4.out.size
        clear b_w4 HB_w3  HXe_w3 HXp_w3 HXu_w3 HXr_w3 HVp_w3 HVu_w3 
        have cp0 : w4.cell? ⟨w.heap.size, 0, none⟩ = some (.int .i64 p.kind) := HVp_w4.out.cell 0
        have zp0 := HVp_w4.out.frozen 0
        have cp1 : w4.cell? ⟨w.heap.size, 1, none⟩ = some (.int .i64 p.col) := HVp_w4.out.cell 1
        have zp1 := HVp_w4.out.frozen 1
        have cp2 : w4.cell? ⟨w.heap.size, 2, none⟩ = some (.string p.s) := HVp_w4.out.cell 2
        have zp2 := HVp_w4.out.frozen 2
        have cp3 : w4.cell? ⟨w.heap.size, 3, none⟩ = some (.int .i64 p.esc) := HVp_w4.out.cell 3
        have zp3 := HVp_w4.out.frozen 3
        have cp4 : w4.cell? ⟨w.heap.size, 4, none⟩ = some (.int .i64 p.coll) := HVp_w4.out.cell 4
        have zp4 := HVp_w4.out.frozen 4
        have cp5 : w4.cell? ⟨w.heap.size, 5, none⟩ = some (.slice A p.kids.length c) := HVp_w4.out.cell 5
        have zp5 := HVp_w4.out.frozen 5
        go_wp2_with fail
        clear cp0 zp0 cp1 zp1 cp2 zp2 cp3 zp3 cp4 zp4 cp5 zp5
        refine (awake16_any HXe_w4.out.env).mono ?_
        rintro r wx ⟨rfl, b_wx⟩
        have HXe_wx := Lib.hid ((HXe_w4.out.below b_wx (Nat.le_refl _)).wide (Nat.le_refl _) b_wx.size)
        have HXp_wx := Lib.hid (Kin.wide (Nat.le_refl _) b_wx.size (HXp_w4.out.kept b_wx (Nat.le_refl _)))
        have HXu_wx := Lib.hid (Kin.wide (Nat.le_refl _) b_wx.size (HXu_w4.out.kept b_wx (Nat.le_refl _)))
        have HXr_wx := Lib.hid ((HXr_w4.out.below b_wx (Nat.le_refl _)).wide (Nat.le_refl _) b_wx.size)
        have HVp_wx := Lib.hid (HVp_w4.out.below b_wx HVp_w4.out.lt)
        have HVu_wx := Lib.hid (HVu_w4.out.below b_wx HVu_w4.out.lt)
        have HB_wx := Lib.hid (below_below HB_w4.out b_wx S_w4)
        have S_wx := HB_wx.out.size
        clear b_wx HB_w4  HXe_w4 HXp_w4 HXu_w4 HXr_w4 HVp_w4 HVu_w4 
        go_wp2_with fail
        go_ret
        exact ⟨rfl, HB_wx.out⟩
      | false =>
        refine (small_is HO2.out HXu_w3.out false hsm2).mono ?_
        rintro r w4 ⟨rfl, b_w4⟩
        have HXe_w4 := Lib.hid ((HXe_w3.out.below b_w4 (Nat.le_refl _)).wide (Nat.le_refl _) b_w4.size)
        have HXp_w4 := Lib.hid (Kin.wide (Nat.le_refl _) b_w4.size (HXp_w3.out.kept b_w4 (Nat.le_refl _)))
        have HXu_w4 := Lib.hid (Kin.wide (Nat.le_refl _) b_w4.size (HXu_w3.out.kept b_w4 (Nat.le_refl _)))
        have HXr_w4 := Lib.hid ((HXr_w3.out.below b_w4 (Nat.le_refl _)).wide (Nat.le_refl _) b_w4.size)
        have HVp_w4 := Lib.hid (HVp_w3.out.below b_w4 HVp_w3.out.lt)
        have HVu_w4 := Lib.hid (HVu_w3.out.below b_w4 HVu_w3.out.lt)
        have HB_w4 := Lib.hid (below_below HB_w3.out b_w4 S_w3)
        have S_w4 := HB_w4.out.size
        clear b_w4 HB_w3  HXe_w3 HXp_w3 HXu_w3 HXr_w3 HVp_w3 HVu_w3 
        go_wp2_with fail
        refine (awake16_any HXe_w4.out.env).mono ?_
        rintro r wx ⟨rfl, b_wx⟩
        have HXe_wx := Lib.hid ((HXe_w4.out.below b_wx (Nat.le_refl _)).wide (Nat.le_refl _) b_wx.size)
        have HXp_wx := Lib.hid (Kin.wide (Nat.le_refl _) b_wx.size (HXp_w4.out.kept b_wx (Nat.le_refl _)))
        have HXu_wx := Lib.hid (Kin.wide (Nat.le_refl _) b_wx.size (HXu_w4.out.kept b_wx (Nat.le_refl _)))
        have HXr_wx := Lib.hid ((HXr_w4.out.below b_wx (Nat.le_refl _)).wide (Nat.le_refl _) b_wx.size)
        have HVp_wx := Lib.hid (HVp_w4.out.below b_wx HVp_w4.out.lt)
        have HVu_wx := Lib.hid (HVu_w4.out.below b_wx HVu_w4.out.lt)
        have HB_wx := Lib.hid (below_below HB_w4.out b_wx S_w4)
        have S_wx := HB_wx.out.size
        clear b_wx HB_w4  HXe_w4 HXp_w4 HXu_w4 HXr_w4 HVp_w4 HVu_w4 
        go_wp2_with fail
        go_ret
        exact ⟨rfl, HB_wx.out⟩
    | false =>
      refine (small_is HO.out HXp_w2.out false hsm).mono ?_
      rintro r w3 ⟨rfl, b_w3⟩
      have HXe_w3 := Lib.hid ((HXe_w2.out.below b_w3 (Nat.le_refl _)).wide (Nat.le_refl _) b_w3.size)
      have HXp_w3 := Lib.hid (Kin.wide (Nat.le_refl _) b_w3.size (HXp_w2.out.kept b_w3 (Nat.le_refl _)))
      have HXu_w3 := Lib.hid (Kin.wide (Nat.le_refl _) b_w3.size (HXu_w2.out.kept b_w3 (Nat.le_refl _)))
      have HXr_w3 := Lib.hid ((HXr_w2.out.below b_w3 (Nat.le_refl _)).wide (Nat.le_refl _) b_w3.size)
      have HVp_w3 := Lib.hid (HVp_w2.out.below b_w3 HVp_w2.out.lt)
      have HVu_w3 := Lib.hid (HVu_w2.out.below b_w3 HVu_w2.out.lt)
      have HB_w3 := Lib.hid (below_below HB_w2.out b_w3 S_w2)
      have S_w3 := HB_w3.out.size
      clear b_w3 HB_w2  HXe_w2 HXp_w2 HXu_w2 HXr_w2 HVp_w2 HVu_w2 
      go_wp2_with fail
      refine (awake16_any HXe_w3.out.env).mono ?_
      rintro r wx ⟨rfl, b_wx⟩
      have HXe_wx := Lib.hid ((HXe_w3.out.below b_wx (Nat.le_refl _)).wide (Nat.le_refl _) b_wx.size)
      have HXp_wx := Lib.hid (Kin.wide (Nat.le_refl _) b_wx.size (HXp_w3.out.kept b_wx (Nat.le_refl _)))
      have HXu_wx := Lib.hid (Kin.wide (Nat.le_refl _) b_wx.size (HXu_w3.out.kept b_wx (Nat.le_refl _)))
      have HXr_wx := Lib.hid ((HXr_w3.out.below b_wx (Nat.le_refl _)).wide (Nat.le_refl _) b_wx.size)
      have HVp_wx := Lib.hid (HVp_w3.out.below b_wx HVp_w3.out.lt)
      have HVu_wx := Lib.hid (HVu_w3.out.below b_wx HVu_w3.out.lt)
      have HB_wx := Lib.hid (below_below HB_w3.out b_wx S_w3)
      have S_wx := HB_wx.out.size
      clear b_wx HB_w3  HXe_w3 HXp_w3 HXu_w3 HXr_w3 HVp_w3 HVu_w3 
      go_wp2_with fail
      go_ret
      exact ⟨rfl, HB_wx.out⟩

set_option maxRecDepth 100000 in
theorem needRules_lifted (os : Os) (started : os.Started) (H : Type) (enc : TypeId × Value → H) :
    ReturnsInHanded {} Tryd.checked os 8 .any (fun w args => (Rows.needRulesSpec.pre enc Tryd.prog Tryd.f8 [] false w args ∧ laidMetH Tryd.prog Rows.needRulesRow.laid w) ∧ sizedMet enc Tryd.prog Tryd.f8 (OpenSpec.ofChange Rows.needRulesSpec) false w args)
      (Rows.needRulesSpec.post enc Tryd.prog Tryd.f8 false true false false) := by
  refine handed_and_shaped (C := Tryd.checked) (X := fun w _ => laidMetH Tryd.prog Rows.needRulesRow.laid w) (fun _ _ _ hh h => h.of_heap hh) own started (by kernel_rfl) Tryd.func8
    (ChangeSpec.witness_shaped (enc := enc) (C := Tryd.checked) (os := os) (X := fun w _ => laidMetH Tryd.prog Rows.needRulesRow.laid w) false (World.laidAll Tryd.prog os Rows.needRulesRow.laid) #[.agg #[.int .i64 0, .int .i64 0, .string ByteArray.empty, .int .i64 0, .int .i64 0, .slice none 0 0], .agg #[.int .i64 0, .int .i64 0, .string ByteArray.empty, .int .i64 0, .int .i64 0, .slice none 0 0], .slice none 0 0] 8 (World.laidAll_os _ _ _)
      (World.shaped_of_ZipB (by kernel_rfl) (by kernel_rfl)) (by kernel_rfl) (by kernel_rfl) (by kernel_rfl)
      (by rw [MakeChecks.laidMetH_plain _ _ _ (by kernel_rfl)]; exact laidMet_laidAll _ (by kernel_rfl) (by kernel_rfl))) ?_
  intro W base args ds gs before hval0 hW hL hsh
  have hval : ∀ (j : Nat) t v, Tryd.f8.params[j]? = some t → args[j]? = some v → Value.okWide Tryd.prog W .any base t v := hval0
  have hW' := hW
  obtain ⟨p, q, hA0, hV, rfl, _, _⟩ := hW
  have hA : DataW.TrodAll enc Tryd.prog W 0 (fun _ => true) true Tryd.f8.params.toList args.toList ds p := hA0
  have hA1 : DataW.TrodAll enc Tryd.prog W 0 (fun _ => true) true Tryd.f8.params.toList args.toList ds p := hA0
  rw [Tryd.params8] at hA hval
  obtain ⟨v0, vs0, d0, ds0, p0, q0, hargs, rfl, rfl, h0, r0⟩ := trodAll_cons hA
  obtain ⟨v1, vs1, d1, ds1, p1, q1, rfl, rfl, rfl, h1, r1⟩ := trodAll_cons r0
  obtain ⟨v2, vs2, d2, ds2, p2, q2, rfl, rfl, rfl, h2, r2⟩ := trodAll_cons r1
  obtain ⟨rfl, rfl, rfl⟩ := trodAll_nil r2
  obtain rfl : args = #[v0, v1, v2] := by cases args; simp_all
  obtain ⟨rfl, rfl⟩ := trodVars_none hV
  obtain ⟨A0, a0, c0, rfl, w0⟩ := open_pred (hval 0 24 v0 rfl rfl) h0
  obtain ⟨A1, a1, c1, rfl, w1⟩ := open_pred (hval 1 24 v1 rfl rfl) h1
  obtain ⟨A2, a2, c2, rfl, w2⟩ := open_row (hval 2 28 v2 rfl rfl) h2
  rw [MakeChecks.laidMetH_plain _ _ _ (by kernel_rfl)] at hL
  have hT : Env W := env_of hL hsh
  clear hA0 hval0
  refine (needRules_walk (w := W) w0 w1 w2 hT).mono fun e W' ⟨he, bel⟩ => ?_
  subst he
  exact ⟨_, rfl, _, _, _, [], _, [], hW', trodAll_mk1 (shut_bool Tryd.underlying4 _), trodAll_below laidOut bel _ _ _ _ (by kernel_rfl) hA1, rfl, bel.frame _, fun h => by cases h⟩

theorem needRules_over : Rows.needRulesRow.holds Tryd.pinned (OpenSpec.ofChange Rows.needRulesSpec) :=
  OpenClaim.holds_of_wide 8 Tryd.f8 rfl rfl rfl rfl rfl rfl rfl ⟨rfl, rfl, rfl, rfl, rfl⟩ rfl rfl rfl rfl rfl (by kernel_rfl) Tryd.func8 (by kernel_rfl)
    (of_decide_eq_true (by kernel_rfl)) (by unfold Func.isWrapper; first | (rw [if_pos (by decide +kernel)]; kernel_rfl) | (rw [if_neg (by decide +kernel)]; exact ⟨rfl, rfl⟩))
    (fun os started H enc _ => needRules_lifted os started H enc)

/-- The statement: the card. -/
theorem needRules_proved : Rows.NeedRulesCardSaid :=
  Claim7.holds_tied_plain_at .later [] [.data, .pinned] true Rows.needRulesCard.stood.harness false needRules_over (fun _ h => by cases h) (by kernel_rfl) (fun _ h => by cases h) needRules_row_tie rfl ⟨rfl, rfl⟩ (by kernel_rfl) rfl
    (fun f fn hf hfn => by
      obtain rfl : f = 8 := Option.some.inj ((show Tryd.prog.funcNamed Rows.needRulesRow.func = some 8 by kernel_rfl).symm.trans hf) |>.symm
      obtain rfl : fn = Tryd.f8 := (Option.some.inj (Tryd.func8.symm.trans hfn)).symm
      exact ⟨by kernel_rfl, fun j t ht => by
        rw [Tryd.params8] at ht
        have hm : t ∈ [24, 24, 28] := by simpa using Array.mem_of_getElem? ht
        have hall : ([24, 24, 28].all fun u => !Tryd.prog.wantsStandIn u) = true := by kernel_rfl
        exact (show Tryd.prog.wantsStandIn t = false by simpa using List.all_eq_true.1 hall t hm)⟩)
    (by kernel_rfl)


end Go.Proofs.YtjffbjlniieciaaDoor
