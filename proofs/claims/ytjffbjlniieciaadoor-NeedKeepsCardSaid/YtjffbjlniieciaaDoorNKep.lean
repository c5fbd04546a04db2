/-
  Proved: NeedKeeps of layer 16: what is handed in stays; what came in reads as it did. Conditions: none of our own; the row lists two of the library's tables (unicode/utf8.acceptRanges, unicode/utf8.first), tied to the program's text by the given tie, and names one more of the library's variables (internal/bytealg.MaxLen), whatever it holds.
-/
import Derived.Test.YtjffbjlniieciaaDoorMgE
import Derived.Test.YtjffbjlniieciaaDoorPrdO
import Derived.Test.YtjffbjlniieciaaDoorShell
import Derived.Test.YtjffbjlniieciaaDoorTieE
import Derived.Test.YtjffbjlniieciaaDoorTie
import Derived.Test.YtjffbjlniieciaaDoorCards
import Derived.Lay
import Derived.LaidOnce
import Derived.SevenTiedAt
import Derived.MakeChecks
import Derived.Test.YtjffbjlniieciaaDoorNeK
namespace Go.Proofs.YtjffbjlniieciaaDoor
set_option linter.unusedSimpArgs false
set_option linter.unusedVariables false
open Go.ChangeShapes Go.WideShapes Go.ChangeAt Go.RowKit
open Go.ChangeMaps (open_string shut_string)

set_option maxRecDepth 20000 in
set_option maxHeartbeats 4000000 in
theorem needKeeps_walk {w : World} {A : Option Addr} {p : Pr} {c : Nat} (hpk : PrOk p ∧ Kin w 0 w.heap.size p.kids A c) {B : Option Addr} {row : List Vl} {rc : Nat} (hrow : Row w 0 w.heap.size B rc row) (hT : Env w) :
    Calls Tryd.prog 9 #[.agg #[.int .i64 p.kind, .int .i64 p.col, .string p.s, .int .i64 p.esc, .int .i64 p.coll, .slice A p.kids.length c], .slice B row.length rc] w fun e w' => e = .returned (.bool true) ∧ Below w.heap.size w w' := by
  have HXe_w := Lib.hid (EnvX.of hT)
  clear hT
  obtain ⟨ho, hk⟩ := hpk
  have HO := Lib.hid ho
  have HXp_w := Lib.hid hk
  have hkl := hk.len
  clear ho hk
  have HXr_w := Lib.hid hrow
  have hrl := hrow.len
  clear hrow
  obtain ⟨w1, hw_w1⟩ : ∃ q, w.alloc (.cells #[.int .i64 p.kind, .int .i64 p.col, .string p.s, .int .i64 p.esc, .int .i64 p.coll, .slice A p.kids.length c] 24) = q := ⟨_, rfl⟩
  have b_w1 : Below w.heap.size w w1 := by rw [← hw_w1]; exact (Below.refl _ _).alloc (Nat.le_refl _) _
  have HVx : Hid (Blk w1 w.heap.size 24 #[.int .i64 p.kind, .int .i64 p.col, .string p.s, .int .i64 p.esc, .int .i64 p.coll, .slice A p.kids.length c]) := by unfold Hid; rw [← hw_w1]; exact Blk.new _ _ _
  have HXe_w1 := Lib.hid ((HXe_w.out.below b_w1 (Nat.le_refl _)).wide (Nat.le_refl _) b_w1.size)
  have HXp_w1 := Lib.hid (Kin.wide (Nat.le_refl _) b_w1.size (HXp_w.out.kept b_w1 (Nat.le_refl _)))
  have HXr_w1 := Lib.hid ((HXr_w.out.below b_w1 (Nat.le_refl _)).wide (Nat.le_refl _) b_w1.size)
  have HB_w1 := Lib.hid b_w1
  have S_w1 := HB_w1.out.size
  clear b_w1   HXe_w HXp_w HXr_w 
  have HVp_w1 := Lib.hid HVx.out
  clear HVx
  by_cases h8 : row.length ≤ 8
  · have e8 : decide ((8 : Int) < (row.length : Int)) = false := decide_eq_false (by omega)
    have e8b : ¬ (8 : Int) < (row.length : Int) := by omega
    go_enter Tryd.func9, Tryd.ntmps9
    go_wp2_with fail
    clear hw_w1
    refine (awake16_any HXe_w1.out.env).mono ?_
    rintro r w2 ⟨rfl, b_w2⟩
    have HXe_w2 := Lib.hid ((HXe_w1.out.below b_w2 (Nat.le_refl _)).wide (Nat.le_refl _) b_w2.size)
    have HXp_w2 := Lib.hid (Kin.wide (Nat.le_refl _) b_w2.size (HXp_w1.out.kept b_w2 (Nat.le_refl _)))
    have HXr_w2 := Lib.hid ((HXr_w1.out.below b_w2 (Nat.le_refl _)).wide (Nat.le_refl _) b_w2.size)
    have HVp_w2 := Lib.hid (HVp_w1.out.below b_w2 HVp_w1.out.lt)
    have HB_w2 := Lib.hid (below_below HB_w1.out b_w2 S_w1)
    have S_w2 := HB_w2.out.size
    clear b_w2 HB_w1  HXe_w1 HXp_w1 HXr_w1 HVp_w1 
    have cp0 : w2.cell? ⟨w.heap.size, 0, none⟩ = some (.int .i64 p.kind) := HVp_w2.out.cell 0
    have zp0 := HVp_w2.out.frozen 0
    have cp1 : w2.cell? ⟨w.heap.size, 1, none⟩ = some (.int .i64 p.col) := HVp_w2.out.cell 1
    have zp1 := HVp_w2.out.frozen 1
    have cp2 : w2.cell? ⟨w.heap.size, 2, none⟩ = some (.string p.s) := HVp_w2.out.cell 2
    have zp2 := HVp_w2.out.frozen 2
    have cp3 : w2.cell? ⟨w.heap.size, 3, none⟩ = some (.int .i64 p.esc) := HVp_w2.out.cell 3
    have zp3 := HVp_w2.out.frozen 3
    have cp4 : w2.cell? ⟨w.heap.size, 4, none⟩ = some (.int .i64 p.coll) := HVp_w2.out.cell 4
    have zp4 := HVp_w2.out.frozen 4
    have cp5 : w2.cell? ⟨w.heap.size, 5, none⟩ = some (.slice A p.kids.length c) := HVp_w2.out.cell 5
    have zp5 := HVp_w2.out.frozen 5
    go_wp2_with fail
    clear cp0 zp0 cp1 zp1 cp2 zp2 cp3 zp3 cp4 zp4 cp5 zp5
    cases hsm : smallP p 20 with
    | true =>
      refine (small_is HO.out HXp_w2.out true hsm).mono ?_
      rintro r w3 ⟨rfl, b_w3⟩
      have HXe_w3 := Lib.hid ((HXe_w2.out.below b_w3 (Nat.le_refl _)).wide (Nat.le_refl _) b_w3.size)
      have HXp_w3 := Lib.hid (Kin.wide (Nat.le_refl _) b_w3.size (HXp_w2.out.kept b_w3 (Nat.le_refl _)))
      have HXr_w3 := Lib.hid ((HXr_w2.out.below b_w3 (Nat.le_refl _)).wide (Nat.le_refl _) b_w3.size)
      have HVp_w3 := Lib.hid (HVp_w2.out.below b_w3 HVp_w2.out.lt)
      have HB_w3 := Lib.hid (below_below HB_w2.out b_w3 S_w2)
      have S_w3 := HB_w3.out.size
      clear b_w3 HB_w2  HXe_w2 HXp_w2 HXr_w2 HVp_w2 
      have cp0 : w3.cell? ⟨w.heap.size, 0, none⟩ = some (.int .i64 p.kind) := HVp_w3.out.cell 0
      have zp0 := HVp_w3.out.frozen 0
      have cp1 : w3.cell? ⟨w.heap.size, 1, none⟩ = some (.int .i64 p.col) := HVp_w3.out.cell 1
      have zp1 := HVp_w3.out.frozen 1
      have cp2 : w3.cell? ⟨w.heap.size, 2, none⟩ = some (.string p.s) := HVp_w3.out.cell 2
      have zp2 := HVp_w3.out.frozen 2
      have cp3 : w3.cell? ⟨w.heap.size, 3, none⟩ = some (.int .i64 p.esc) := HVp_w3.out.cell 3
      have zp3 := HVp_w3.out.frozen 3
      have cp4 : w3.cell? ⟨w.heap.size, 4, none⟩ = some (.int .i64 p.coll) := HVp_w3.out.cell 4
      have zp4 := HVp_w3.out.frozen 4
      have cp5 : w3.cell? ⟨w.heap.size, 5, none⟩ = some (.slice A p.kids.length c) := HVp_w3.out.cell 5
      have zp5 := HVp_w3.out.frozen 5
      go_wp2_with fail
      clear cp0 zp0 cp1 zp1 cp2 zp2 cp3 zp3 cp4 zp4 cp5 zp5
      cases hrp : rightP p row.length 12 with
      | true =>
        refine (refright_is HO.out HXp_w3.out row.length 12 (by decide) true hrp).mono ?_
        rintro r w4 ⟨rfl, b_w4⟩
        have HXe_w4 := Lib.hid ((HXe_w3.out.below b_w4 (Nat.le_refl _)).wide (Nat.le_refl _) b_w4.size)
        have HXp_w4 := Lib.hid (Kin.wide (Nat.le_refl _) b_w4.size (HXp_w3.out.kept b_w4 (Nat.le_refl _)))
        have HXr_w4 := Lib.hid ((HXr_w3.out.below b_w4 (Nat.le_refl _)).wide (Nat.le_refl _) b_w4.size)
        have HVp_w4 := Lib.hid (HVp_w3.out.below b_w4 HVp_w3.out.lt)
        have HB_w4 := Lib.hid (below_below HB_w3.out b_w4 S_w3)
        have S_w4 := HB_w4.out.size
        clear b_w4 HB_w3  HXe_w3 HXp_w3 HXr_w3 HVp_w3 
        go_wp2_with fail
        obtain ⟨w5, hw_w5⟩ : ∃ q, w4.alloc (.cells #[.slice B row.length rc] 28) = q := ⟨_, rfl⟩
        have b_w5 : Below w4.heap.size w4 w5 := by rw [← hw_w5]; exact (Below.refl _ _).alloc (Nat.le_refl _) _
        have hr2 : Rows2 w5 0 w5.heap.size (some ⟨w4.heap.size, 0, none⟩) 1 [row] (fun _ => B) (fun _ => rc) := by rw [← hw_w5]; exact rows2_one HXr_w4.out
        rw [hw_w5]
        have HXe_w5 := Lib.hid ((HXe_w4.out.below b_w5 (Nat.le_refl _)).wide (Nat.le_refl _) b_w5.size)
        have HXp_w5 := Lib.hid (Kin.wide (Nat.le_refl _) b_w5.size (HXp_w4.out.kept b_w5 (Nat.le_refl _)))
        have HXr_w5 := Lib.hid ((HXr_w4.out.below b_w5 (Nat.le_refl _)).wide (Nat.le_refl _) b_w5.size)
        have HVp_w5 := Lib.hid (HVp_w4.out.below b_w5 HVp_w4.out.lt)
        have HB_w5 := Lib.hid (below_below HB_w4.out b_w5 S_w4)
        have S_w5 := HB_w5.out.size
        clear b_w5 HB_w4  HXe_w4 HXp_w4 HXr_w4 HVp_w4 
        clear hw_w5
        cases hrw : rowsP [row] row.length with
        | true =>
          refine (rows_is hr2 row.length 1 rfl true hrw).mono ?_
          rintro r w6 ⟨rfl, b_w6⟩
          have HXe_w6 := Lib.hid ((HXe_w5.out.below b_w6 (Nat.le_refl _)).wide (Nat.le_refl _) b_w6.size)
          have HXp_w6 := Lib.hid (Kin.wide (Nat.le_refl _) b_w6.size (HXp_w5.out.kept b_w6 (Nat.le_refl _)))
          have HXr_w6 := Lib.hid ((HXr_w5.out.below b_w6 (Nat.le_refl _)).wide (Nat.le_refl _) b_w6.size)
          have HVp_w6 := Lib.hid (HVp_w5.out.below b_w6 HVp_w5.out.lt)
          have HB_w6 := Lib.hid (below_below HB_w5.out b_w6 S_w5)
          have S_w6 := HB_w6.out.size
          clear b_w6 HB_w5 hr2 HXe_w5 HXp_w5 HXr_w5 HVp_w5 
          obtain ⟨hvs, hrl1, _⟩ := rowsP_one hrw
          have HVS := Lib.hid hvs
          clear hvs
          obtain ⟨A9, c9, w7, hrun7, ho7, hg7⟩ := append_row (own_empty2 w6 42) ((HXr_w6.out.below ((Below.refl _ w6).alloc (Nat.le_refl _) _) (Nat.le_refl _)).wide (Nat.le_refl _) (by simp)) hrl1 (by omega) (by simp)
          have b_w7 : Below w6.heap.size w6 w7 := ((Below.refl _ w6).alloc (Nat.le_refl _) _).grown hg7 (by simp) (by simp [Value.ownBlock])
          have HRUN7 := Lib.hid hrun7
          have hrow9 := row_of ho7 (fun v hv => by have := HVS.out v hv; omega)
          have HR9 := Lib.hid hrow9
          have h9 := hrow9.len
          clear hrun7 ho7 hg7 hrow9
          have HXe_w7 := Lib.hid ((HXe_w6.out.below b_w7 (Nat.le_refl _)).wide (Nat.le_refl _) b_w7.size)
          have HXp_w7 := Lib.hid (Kin.wide (Nat.le_refl _) b_w7.size (HXp_w6.out.kept b_w7 (Nat.le_refl _)))
          have HXr_w7 := Lib.hid ((HXr_w6.out.below b_w7 (Nat.le_refl _)).wide (Nat.le_refl _) b_w7.size)
          have HVp_w7 := Lib.hid (HVp_w6.out.below b_w7 HVp_w6.out.lt)
          have HB_w7 := Lib.hid (below_below HB_w6.out b_w7 S_w6)
          have S_w7 := HB_w7.out.size
          clear b_w7 HB_w6  HXe_w6 HXp_w6 HXr_w6 HVp_w6 
          have HXa_w7 := Lib.hid HR9.out
          clear HR9
          have cp0 : w7.cell? ⟨w.heap.size, 0, none⟩ = some (.int .i64 p.kind) := HVp_w7.out.cell 0
          have zp0 := HVp_w7.out.frozen 0
          have cp1 : w7.cell? ⟨w.heap.size, 1, none⟩ = some (.int .i64 p.col) := HVp_w7.out.cell 1
          have zp1 := HVp_w7.out.frozen 1
          have cp2 : w7.cell? ⟨w.heap.size, 2, none⟩ = some (.string p.s) := HVp_w7.out.cell 2
          have zp2 := HVp_w7.out.frozen 2
          have cp3 : w7.cell? ⟨w.heap.size, 3, none⟩ = some (.int .i64 p.esc) := HVp_w7.out.cell 3
          have zp3 := HVp_w7.out.frozen 3
          have cp4 : w7.cell? ⟨w.heap.size, 4, none⟩ = some (.int .i64 p.coll) := HVp_w7.out.cell 4
          have zp4 := HVp_w7.out.frozen 4
          have cp5 : w7.cell? ⟨w.heap.size, 5, none⟩ = some (.slice A p.kids.length c) := HVp_w7.out.cell 5
          have zp5 := HVp_w7.out.frozen 5
          go_wp2_with (at_builtin; refine wpList_append_run rfl _ _ _ _ rfl rfl rfl HRUN7.out ?_)
          clear HRUN7
          clear cp0 zp0 cp1 zp1 cp2 zp2 cp3 zp3 cp4 zp4 cp5 zp5
          obtain ⟨z, hz⟩ : ∃ z, saysP p row = z := ⟨_, rfl⟩
          have HZ := Lib.hid hz
          clear hz
          refine (says_is HO.out HXp_w7.out HXr_w7.out HVS.out hrp z HZ.out HXe_w7.out.env).mono ?_
          rintro r w8 ⟨rfl, b_w8⟩
          have HXe_w8 := Lib.hid ((HXe_w7.out.below b_w8 (Nat.le_refl _)).wide (Nat.le_refl _) b_w8.size)
          have HXp_w8 := Lib.hid (Kin.wide (Nat.le_refl _) b_w8.size (HXp_w7.out.kept b_w8 (Nat.le_refl _)))
          have HXr_w8 := Lib.hid ((HXr_w7.out.below b_w8 (Nat.le_refl _)).wide (Nat.le_refl _) b_w8.size)
          have HXa_w8 := Lib.hid ((HXa_w7.out.below b_w8 (Nat.le_refl _)).wide (Nat.le_refl _) b_w8.size)
          have HVp_w8 := Lib.hid (HVp_w7.out.below b_w8 HVp_w7.out.lt)
          have HB_w8 := Lib.hid (below_below HB_w7.out b_w8 S_w7)
          have S_w8 := HB_w8.out.size
          clear b_w8 HB_w7  HXe_w7 HXp_w7 HXr_w7 HXa_w7 HVp_w7 
          go_wp2_with fail
          obtain ⟨w9, hw_w9⟩ : ∃ q, w8.alloc (.cells #[.slice B row.length rc] 28) = q := ⟨_, rfl⟩
          have b_w9 : Below w8.heap.size w8 w9 := by rw [← hw_w9]; exact (Below.refl _ _).alloc (Nat.le_refl _) _
          have hr2 : Rows2 w9 0 w9.heap.size (some ⟨w8.heap.size, 0, none⟩) 1 [row] (fun _ => B) (fun _ => rc) := by rw [← hw_w9]; exact rows2_one HXr_w8.out
          rw [hw_w9]
          have HXe_w9 := Lib.hid ((HXe_w8.out.below b_w9 (Nat.le_refl _)).wide (Nat.le_refl _) b_w9.size)
          have HXp_w9 := Lib.hid (Kin.wide (Nat.le_refl _) b_w9.size (HXp_w8.out.kept b_w9 (Nat.le_refl _)))
          have HXr_w9 := Lib.hid ((HXr_w8.out.below b_w9 (Nat.le_refl _)).wide (Nat.le_refl _) b_w9.size)
          have HXa_w9 := Lib.hid ((HXa_w8.out.below b_w9 (Nat.le_refl _)).wide (Nat.le_refl _) b_w9.size)
          have HVp_w9 := Lib.hid (HVp_w8.out.below b_w9 HVp_w8.out.lt)
          have HB_w9 := Lib.hid (below_below HB_w8.out b_w9 S_w8)
          have S_w9 := HB_w9.out.size
          clear b_w9 HB_w8  HXe_w8 HXp_w8 HXr_w8 HXa_w8 HVp_w8 
          clear hw_w9
          refine (filters_is hr2 row.length hrw 0 (by decide) 1 rfl).mono ?_
          rintro r wa ⟨es, A6, c6, gA, gc, hA, hc, rfl, hfl, hfo, hfs, hfk, b_wa⟩
          obtain ⟨fs, hfs2⟩ : ∃ fs, es.map toFl = fs := ⟨_, rfl⟩
          rw [hfs2] at hfl hfs hfk ⊢
          have HXX := Lib.hid hfs
          have HFK := Lib.hid hfk
          have HFL := Lib.hid hfl
          clear hfs hfo hfs2 hfk hfl hr2
          have HXe_wa := Lib.hid ((HXe_w9.out.below b_wa (Nat.le_refl _)).wide (Nat.le_refl _) b_wa.size)
          have HXp_wa := Lib.hid (Kin.wide (Nat.le_refl _) b_wa.size (HXp_w9.out.kept b_wa (Nat.le_refl _)))
          have HXr_wa := Lib.hid ((HXr_w9.out.below b_wa (Nat.le_refl _)).wide (Nat.le_refl _) b_wa.size)
          have HXa_wa := Lib.hid ((HXa_w9.out.below b_wa (Nat.le_refl _)).wide (Nat.le_refl _) b_wa.size)
          have HVp_wa := Lib.hid (HVp_w9.out.below b_wa HVp_w9.out.lt)
          have HB_wa := Lib.hid (below_below HB_w9.out b_wa S_w9)
          have S_wa := HB_wa.out.size
          clear b_wa HB_w9  HXe_w9 HXp_w9 HXr_w9 HXa_w9 HVp_w9 
          have HXf_wa := Lib.hid HXX.out
          clear HXX
          have cp0 : wa.cell? ⟨w.heap.size, 0, none⟩ = some (.int .i64 p.kind) := HVp_wa.out.cell 0
          have zp0 := HVp_wa.out.frozen 0
          have cp1 : wa.cell? ⟨w.heap.size, 1, none⟩ = some (.int .i64 p.col) := HVp_wa.out.cell 1
          have zp1 := HVp_wa.out.frozen 1
          have cp2 : wa.cell? ⟨w.heap.size, 2, none⟩ = some (.string p.s) := HVp_wa.out.cell 2
          have zp2 := HVp_wa.out.frozen 2
          have cp3 : wa.cell? ⟨w.heap.size, 3, none⟩ = some (.int .i64 p.esc) := HVp_wa.out.cell 3
          have zp3 := HVp_wa.out.frozen 3
          have cp4 : wa.cell? ⟨w.heap.size, 4, none⟩ = some (.int .i64 p.coll) := HVp_wa.out.cell 4
          have zp4 := HVp_wa.out.frozen 4
          have cp5 : wa.cell? ⟨w.heap.size, 5, none⟩ = some (.slice A p.kids.length c) := HVp_wa.out.cell 5
          have zp5 := HVp_wa.out.frozen 5
          go_wp2_with fail
          clear cp0 zp0 cp1 zp1 cp2 zp2 cp3 zp3 cp4 zp4 cp5 zp5
          obtain ⟨y, hy⟩ : ∃ y, skipP p fs = y := ⟨_, rfl⟩
          have HY := Lib.hid hy
          clear hy
          have HRP : Hid (rightP p fs.length 12 = true) := by unfold Hid; rw [HFL.out]; exact hrp
          refine (skip_is HO.out HXp_wa.out HXf_wa.out HFK.out HRP.out y HY.out).mono ?_
          rintro r wb ⟨rfl, b_wb⟩
          have HXe_wb := Lib.hid ((HXe_wa.out.below b_wb (Nat.le_refl _)).wide (Nat.le_refl _) b_wb.size)
          have HXp_wb := Lib.hid (Kin.wide (Nat.le_refl _) b_wb.size (HXp_wa.out.kept b_wb (Nat.le_refl _)))
          have HXr_wb := Lib.hid ((HXr_wa.out.below b_wb (Nat.le_refl _)).wide (Nat.le_refl _) b_wb.size)
          have HXa_wb := Lib.hid ((HXa_wa.out.below b_wb (Nat.le_refl _)).wide (Nat.le_refl _) b_wb.size)
          have HXf_wb := Lib.hid ((HXf_wa.out.below b_wb (Nat.le_refl _)).wide (Nat.le_refl _) b_wb.size)
          have HVp_wb := Lib.hid (HVp_wa.out.below b_wb HVp_wa.out.lt)
          have HB_wb := Lib.hid (below_below HB_wa.out b_wb S_wa)
          have S_wb := HB_wb.out.size
          clear b_wb HB_wa  HXe_wa HXp_wa HXr_wa HXa_wa HXf_wa HVp_wa 
          go_wp2_with fail
          go_loopw [9] (fun x9 wr => ∃ (i q : Nat), i ≤ row.length ∧ x9 = .int .i64 (i : Int) ∧ wb.drewN q = wr) (fun i _ => row.length - (intOf i).toNat)
          case atStart => exact ⟨0, 0, Nat.zero_le _, rfl, rfl⟩
          case round =>
            obtain ⟨i, q, hi, rfl, rfl⟩ := hrel
            by_cases hlt : i < row.length
            · have ik : (i : Int) < (row.length : Int) := by omega
              obtain ⟨b1, o1, rfl, _, hb1, d1, d2⟩ := HXr_wb.out.get hlt
              obtain ⟨b2, o2, hA2, _, hb2, d3, d4⟩ := HXa_wb.out.get hlt
              subst hA2
              generalize row[i] = vv at *
              obtain ⟨vn, vs⟩ := vv
              simp only at d1 d2 d3 d4
              have ik2 : (i : Int) < (c9 : Int) ∨ True := .inr trivial
              clear ik2
              have qs : (vs.toList == vs.toList) = true := by simp
              have qn : (vn == vn) = true := by simp
              go_wp2_with fail
              go_quiet (fail)
              go_wp2_with fail
              go_roundw
              case rel => exact ⟨i + 1, _, by omega, by go_num, by first | rfl | (rw [World.drewN_drewN]) | trivial⟩
              case measure => simp [intOf]; omega
            · have ik : ¬ (i : Int) < (row.length : Int) := by omega
              obtain ⟨wc, hwc⟩ : ∃ wc, wb.drewN q = wc := ⟨_, rfl⟩
              have b_wc : Below wb.heap.size wb wc := by rw [← hwc]; exact below_drewN' (Below.refl _ _) q
              have HXe_wc := Lib.hid ((HXe_wb.out.below b_wc (Nat.le_refl _)).wide (Nat.le_refl _) b_wc.size)
              have HXp_wc := Lib.hid (Kin.wide (Nat.le_refl _) b_wc.size (HXp_wb.out.kept b_wc (Nat.le_refl _)))
              have HXr_wc := Lib.hid ((HXr_wb.out.below b_wc (Nat.le_refl _)).wide (Nat.le_refl _) b_wc.size)
              have HXa_wc := Lib.hid ((HXa_wb.out.below b_wc (Nat.le_refl _)).wide (Nat.le_refl _) b_wc.size)
              have HXf_wc := Lib.hid ((HXf_wb.out.below b_wc (Nat.le_refl _)).wide (Nat.le_refl _) b_wc.size)
              have HVp_wc := Lib.hid (HVp_wb.out.below b_wc HVp_wb.out.lt)
              have HB_wc := Lib.hid (below_below HB_wb.out b_wc S_wb)
              have S_wc := HB_wc.out.size
              clear b_wc HB_wb  HXe_wb HXp_wb HXr_wb HXa_wb HXf_wb HVp_wb 
              rw [hwc]
              clear hwc
              have cp0 : wc.cell? ⟨w.heap.size, 0, none⟩ = some (.int .i64 p.kind) := HVp_wc.out.cell 0
              have zp0 := HVp_wc.out.frozen 0
              have cp1 : wc.cell? ⟨w.heap.size, 1, none⟩ = some (.int .i64 p.col) := HVp_wc.out.cell 1
              have zp1 := HVp_wc.out.frozen 1
              have cp2 : wc.cell? ⟨w.heap.size, 2, none⟩ = some (.string p.s) := HVp_wc.out.cell 2
              have zp2 := HVp_wc.out.frozen 2
              have cp3 : wc.cell? ⟨w.heap.size, 3, none⟩ = some (.int .i64 p.esc) := HVp_wc.out.cell 3
              have zp3 := HVp_wc.out.frozen 3
              have cp4 : wc.cell? ⟨w.heap.size, 4, none⟩ = some (.int .i64 p.coll) := HVp_wc.out.cell 4
              have zp4 := HVp_wc.out.frozen 4
              have cp5 : wc.cell? ⟨w.heap.size, 5, none⟩ = some (.slice A p.kids.length c) := HVp_wc.out.cell 5
              have zp5 := HVp_wc.out.frozen 5
              go_wp2_with fail
              clear cp0 zp0 cp1 zp1 cp2 zp2 cp3 zp3 cp4 zp4 cp5 zp5
              have bz : (z == z) = true := by simp
              have by_ : (y == y) = true := by simp
              refine (says_is HO.out HXp_wc.out HXr_wc.out HVS.out hrp z HZ.out HXe_wc.out.env).mono ?_
              rintro r wd ⟨rfl, b_wd⟩
              have HXe_wd := Lib.hid ((HXe_wc.out.below b_wd (Nat.le_refl _)).wide (Nat.le_refl _) b_wd.size)
              have HXp_wd := Lib.hid (Kin.wide (Nat.le_refl _) b_wd.size (HXp_wc.out.kept b_wd (Nat.le_refl _)))
              have HXr_wd := Lib.hid ((HXr_wc.out.below b_wd (Nat.le_refl _)).wide (Nat.le_refl _) b_wd.size)
              have HXa_wd := Lib.hid ((HXa_wc.out.below b_wd (Nat.le_refl _)).wide (Nat.le_refl _) b_wd.size)
              have HXf_wd := Lib.hid ((HXf_wc.out.below b_wd (Nat.le_refl _)).wide (Nat.le_refl _) b_wd.size)
              have HVp_wd := Lib.hid (HVp_wc.out.below b_wd HVp_wc.out.lt)
              have HB_wd := Lib.hid (below_below HB_wc.out b_wd S_wc)
              have S_wd := HB_wd.out.size
              clear b_wd HB_wc  HXe_wc HXp_wc HXr_wc HXa_wc HXf_wc HVp_wc 
              have cp0 : wd.cell? ⟨w.heap.size, 0, none⟩ = some (.int .i64 p.kind) := HVp_wd.out.cell 0
              have zp0 := HVp_wd.out.frozen 0
              have cp1 : wd.cell? ⟨w.heap.size, 1, none⟩ = some (.int .i64 p.col) := HVp_wd.out.cell 1
              have zp1 := HVp_wd.out.frozen 1
              have cp2 : wd.cell? ⟨w.heap.size, 2, none⟩ = some (.string p.s) := HVp_wd.out.cell 2
              have zp2 := HVp_wd.out.frozen 2
              have cp3 : wd.cell? ⟨w.heap.size, 3, none⟩ = some (.int .i64 p.esc) := HVp_wd.out.cell 3
              have zp3 := HVp_wd.out.frozen 3
              have cp4 : wd.cell? ⟨w.heap.size, 4, none⟩ = some (.int .i64 p.coll) := HVp_wd.out.cell 4
              have zp4 := HVp_wd.out.frozen 4
              have cp5 : wd.cell? ⟨w.heap.size, 5, none⟩ = some (.slice A p.kids.length c) := HVp_wd.out.cell 5
              have zp5 := HVp_wd.out.frozen 5
              go_wp2_with fail
              clear cp0 zp0 cp1 zp1 cp2 zp2 cp3 zp3 cp4 zp4 cp5 zp5
              refine (skip_is HO.out HXp_wd.out HXf_wd.out HFK.out HRP.out y HY.out).mono ?_
              rintro r we ⟨rfl, b_we⟩
              have HXe_we := Lib.hid ((HXe_wd.out.below b_we (Nat.le_refl _)).wide (Nat.le_refl _) b_we.size)
              have HXp_we := Lib.hid (Kin.wide (Nat.le_refl _) b_we.size (HXp_wd.out.kept b_we (Nat.le_refl _)))
              have HXr_we := Lib.hid ((HXr_wd.out.below b_we (Nat.le_refl _)).wide (Nat.le_refl _) b_we.size)
              have HXa_we := Lib.hid ((HXa_wd.out.below b_we (Nat.le_refl _)).wide (Nat.le_refl _) b_we.size)
              have HXf_we := Lib.hid ((HXf_wd.out.below b_we (Nat.le_refl _)).wide (Nat.le_refl _) b_we.size)
              have HVp_we := Lib.hid (HVp_wd.out.below b_we HVp_wd.out.lt)
              have HB_we := Lib.hid (below_below HB_wd.out b_we S_wd)
              have S_we := HB_we.out.size
              clear b_we HB_wd  HXe_wd HXp_wd HXr_wd HXa_wd HXf_wd HVp_wd 
              have cp0 : we.cell? ⟨w.heap.size, 0, none⟩ = some (.int .i64 p.kind) := HVp_we.out.cell 0
              have zp0 := HVp_we.out.frozen 0
              have cp1 : we.cell? ⟨w.heap.size, 1, none⟩ = some (.int .i64 p.col) := HVp_we.out.cell 1
              have zp1 := HVp_we.out.frozen 1
              have cp2 : we.cell? ⟨w.heap.size, 2, none⟩ = some (.string p.s) := HVp_we.out.cell 2
              have zp2 := HVp_we.out.frozen 2
              have cp3 : we.cell? ⟨w.heap.size, 3, none⟩ = some (.int .i64 p.esc) := HVp_we.out.cell 3
              have zp3 := HVp_we.out.frozen 3
              have cp4 : we.cell? ⟨w.heap.size, 4, none⟩ = some (.int .i64 p.coll) := HVp_we.out.cell 4
              have zp4 := HVp_we.out.frozen 4
              have cp5 : we.cell? ⟨w.heap.size, 5, none⟩ = some (.slice A p.kids.length c) := HVp_we.out.cell 5
              have zp5 := HVp_we.out.frozen 5
              go_wp2_with fail
              clear cp0 zp0 cp1 zp1 cp2 zp2 cp3 zp3 cp4 zp4 cp5 zp5
              refine (right_is HO.out HXp_we.out row.length true hrp).mono ?_
              rintro r wf ⟨rfl, b_wf⟩
              have HXe_wf := Lib.hid ((HXe_we.out.below b_wf (Nat.le_refl _)).wide (Nat.le_refl _) b_wf.size)
              have HXp_wf := Lib.hid (Kin.wide (Nat.le_refl _) b_wf.size (HXp_we.out.kept b_wf (Nat.le_refl _)))
              have HXr_wf := Lib.hid ((HXr_we.out.below b_wf (Nat.le_refl _)).wide (Nat.le_refl _) b_wf.size)
              have HXa_wf := Lib.hid ((HXa_we.out.below b_wf (Nat.le_refl _)).wide (Nat.le_refl _) b_wf.size)
              have HXf_wf := Lib.hid ((HXf_we.out.below b_wf (Nat.le_refl _)).wide (Nat.le_refl _) b_wf.size)
              have HVp_wf := Lib.hid (HVp_we.out.below b_wf HVp_we.out.lt)
              have HB_wf := Lib.hid (below_below HB_we.out b_wf S_we)
              have S_wf := HB_wf.out.size
              clear b_wf HB_we  HXe_we HXp_we HXr_we HXa_we HXf_we HVp_we 
              go_wp2_with fail
              go_ret
              exact ⟨rfl, HB_wf.out⟩
        | false =>
          refine (rows_is hr2 row.length 1 rfl false hrw).mono ?_
          rintro r w6 ⟨rfl, b_w6⟩
          have HXe_w6 := Lib.hid ((HXe_w5.out.below b_w6 (Nat.le_refl _)).wide (Nat.le_refl _) b_w6.size)
          have HXp_w6 := Lib.hid (Kin.wide (Nat.le_refl _) b_w6.size (HXp_w5.out.kept b_w6 (Nat.le_refl _)))
          have HXr_w6 := Lib.hid ((HXr_w5.out.below b_w6 (Nat.le_refl _)).wide (Nat.le_refl _) b_w6.size)
          have HVp_w6 := Lib.hid (HVp_w5.out.below b_w6 HVp_w5.out.lt)
          have HB_w6 := Lib.hid (below_below HB_w5.out b_w6 S_w5)
          have S_w6 := HB_w6.out.size
          clear b_w6 HB_w5 hr2 HXe_w5 HXp_w5 HXr_w5 HVp_w5 
          go_wp2_with fail
          refine (awake16_any HXe_w6.out.env).mono ?_
          rintro r w7 ⟨rfl, b_w7⟩
          have HXe_w7 := Lib.hid ((HXe_w6.out.below b_w7 (Nat.le_refl _)).wide (Nat.le_refl _) b_w7.size)
          have HXp_w7 := Lib.hid (Kin.wide (Nat.le_refl _) b_w7.size (HXp_w6.out.kept b_w7 (Nat.le_refl _)))
          have HXr_w7 := Lib.hid ((HXr_w6.out.below b_w7 (Nat.le_refl _)).wide (Nat.le_refl _) b_w7.size)
          have HVp_w7 := Lib.hid (HVp_w6.out.below b_w7 HVp_w6.out.lt)
          have HB_w7 := Lib.hid (below_below HB_w6.out b_w7 S_w6)
          have S_w7 := HB_w7.out.size
          clear b_w7 HB_w6  HXe_w6 HXp_w6 HXr_w6 HVp_w6 
          go_wp2_with fail
          go_ret
          exact ⟨rfl, HB_w7.out⟩
      | false =>
        refine (refright_is HO.out HXp_w3.out row.length 12 (by decide) false hrp).mono ?_
        rintro r w4 ⟨rfl, b_w4⟩
        have HXe_w4 := Lib.hid ((HXe_w3.out.below b_w4 (Nat.le_refl _)).wide (Nat.le_refl _) b_w4.size)
        have HXp_w4 := Lib.hid (Kin.wide (Nat.le_refl _) b_w4.size (HXp_w3.out.kept b_w4 (Nat.le_refl _)))
        have HXr_w4 := Lib.hid ((HXr_w3.out.below b_w4 (Nat.le_refl _)).wide (Nat.le_refl _) b_w4.size)
        have HVp_w4 := Lib.hid (HVp_w3.out.below b_w4 HVp_w3.out.lt)
        have HB_w4 := Lib.hid (below_below HB_w3.out b_w4 S_w3)
        have S_w4 := HB_w4.out.size
        clear b_w4 HB_w3  HXe_w3 HXp_w3 HXr_w3 HVp_w3 
        go_wp2_with fail
        refine (awake16_any HXe_w4.out.env).mono ?_
        rintro r w5 ⟨rfl, b_w5⟩
        have HXe_w5 := Lib.hid ((HXe_w4.out.below b_w5 (Nat.le_refl _)).wide (Nat.le_refl _) b_w5.size)
        have HXp_w5 := Lib.hid (Kin.wide (Nat.le_refl _) b_w5.size (HXp_w4.out.kept b_w5 (Nat.le_refl _)))
        have HXr_w5 := Lib.hid ((HXr_w4.out.below b_w5 (Nat.le_refl _)).wide (Nat.le_refl _) b_w5.size)
        have HVp_w5 := Lib.hid (HVp_w4.out.below b_w5 HVp_w4.out.lt)
        have HB_w5 := Lib.hid (below_below HB_w4.out b_w5 S_w4)
        have S_w5 := HB_w5.out.size
        clear b_w5 HB_w4  HXe_w4 HXp_w4 HXr_w4 HVp_w4 
        go_wp2_with fail
        go_ret
        exact ⟨rfl, HB_w5.out⟩
    | false =>
      refine (small_is HO.out HXp_w2.out false hsm).mono ?_
      rintro r w3 ⟨rfl, b_w3⟩
      have HXe_w3 := Lib.hid ((HXe_w2.out.below b_w3 (Nat.le_refl _)).wide (Nat.le_refl _) b_w3.size)
      have HXp_w3 := Lib.hid (Kin.wide (Nat.le_refl _) b_w3.size (HXp_w2.out.kept b_w3 (Nat.le_refl _)))
      have HXr_w3 := Lib.hid ((HXr_w2.out.below b_w3 (Nat.le_refl _)).wide (Nat.le_refl _) b_w3.size)
      have HVp_w3 := Lib.hid (HVp_w2.out.below b_w3 HVp_w2.out.lt)
      have HB_w3 := Lib.hid (below_below HB_w2.out b_w3 S_w2)
      have S_w3 := HB_w3.out.size
      clear b_w3 HB_w2  HXe_w2 HXp_w2 HXr_w2 HVp_w2 
      go_wp2_with fail
      refine (awake16_any HXe_w3.out.env).mono ?_
      rintro r w4 ⟨rfl, b_w4⟩
      have HXe_w4 := Lib.hid ((HXe_w3.out.below b_w4 (Nat.le_refl _)).wide (Nat.le_refl _) b_w4.size)
      have HXp_w4 := Lib.hid (Kin.wide (Nat.le_refl _) b_w4.size (HXp_w3.out.kept b_w4 (Nat.le_refl _)))
      have HXr_w4 := Lib.hid ((HXr_w3.out.below b_w4 (Nat.le_refl _)).wide (Nat.le_refl _) b_w4.size)
      have HVp_w4 := Lib.hid (HVp_w3.out.below b_w4 HVp_w3.out.lt)
      have HB_w4 := Lib.hid (below_below HB_w3.out b_w4 S_w3)
      have S_w4 := HB_w4.out.size
      clear b_w4 HB_w3  HXe_w3 HXp_w3 HXr_w3 HVp_w3 
      go_wp2_with fail
      go_ret
      exact ⟨rfl, HB_w4.out⟩
  · have e8 : decide ((8 : Int) < (row.length : Int)) = true := decide_eq_true (by omega)
    have e8b : (8 : Int) < (row.length : Int) := by omega
    go_enter Tryd.func9, Tryd.ntmps9
    go_wp2_with fail
    clear hw_w1
    refine (awake16_any HXe_w1.out.env).mono ?_
    rintro r w2 ⟨rfl, b_w2⟩
    have HXe_w2 := Lib.hid ((HXe_w1.out.below b_w2 (Nat.le_refl _)).wide (Nat.le_refl _) b_w2.size)
    have HXp_w2 := Lib.hid (Kin.wide (Nat.le_refl _) b_w2.size (HXp_w1.out.kept b_w2 (Nat.le_refl _)))
    have HXr_w2 := Lib.hid ((HXr_w1.out.below b_w2 (Nat.le_refl _)).wide (Nat.le_refl _) b_w2.size)
    have HVp_w2 := Lib.hid (HVp_w1.out.below b_w2 HVp_w1.out.lt)
    have HB_w2 := Lib.hid (below_below HB_w1.out b_w2 S_w1)
    have S_w2 := HB_w2.out.size
    clear b_w2 HB_w1  HXe_w1 HXp_w1 HXr_w1 HVp_w1 
    have cp0 : w2.cell? ⟨w.heap.size, 0, none⟩ = some (.int .i64 p.kind) := HVp_w2.out.cell 0
    have zp0 := HVp_w2.out.frozen 0
    have cp1 : w2.cell? ⟨w.heap.size, 1, none⟩ = some (.int .i64 p.col) := HVp_w2.out.cell 1
    have zp1 := HVp_w2.out.frozen 1
    have cp2 : w2.cell? ⟨w.heap.size, 2, none⟩ = some (.string p.s) := HVp_w2.out.cell 2
    have zp2 := HVp_w2.out.frozen 2
    have cp3 : w2.cell? ⟨w.heap.size, 3, none⟩ = some (.int .i64 p.esc) := HVp_w2.out.cell 3
    have zp3 := HVp_w2.out.frozen 3
    have cp4 : w2.cell? ⟨w.heap.size, 4, none⟩ = some (.int .i64 p.coll) := HVp_w2.out.cell 4
    have zp4 := HVp_w2.out.frozen 4
    have cp5 : w2.cell? ⟨w.heap.size, 5, none⟩ = some (.slice A p.kids.length c) := HVp_w2.out.cell 5
    have zp5 := HVp_w2.out.frozen 5
    go_wp2_with fail
    clear cp0 zp0 cp1 zp1 cp2 zp2 cp3 zp3 cp4 zp4 cp5 zp5
    cases hsm : smallP p 20 with
    | true =>
      refine (small_is HO.out HXp_w2.out true hsm).mono ?_
      rintro r w3 ⟨rfl, b_w3⟩
      have HXe_w3 := Lib.hid ((HXe_w2.out.below b_w3 (Nat.le_refl _)).wide (Nat.le_refl _) b_w3.size)
      have HXp_w3 := Lib.hid (Kin.wide (Nat.le_refl _) b_w3.size (HXp_w2.out.kept b_w3 (Nat.le_refl _)))
      have HXr_w3 := Lib.hid ((HXr_w2.out.below b_w3 (Nat.le_refl _)).wide (Nat.le_refl _) b_w3.size)
      have HVp_w3 := Lib.hid (HVp_w2.out.below b_w3 HVp_w2.out.lt)
      have HB_w3 := Lib.hid (below_below HB_w2.out b_w3 S_w2)
      have S_w3 := HB_w3.out.size
      clear b_w3 HB_w2  HXe_w2 HXp_w2 HXr_w2 HVp_w2 
      have cp0 : w3.cell? ⟨w.heap.size, 0, none⟩ = some (.int .i64 p.kind) := HVp_w3.out.cell 0
      have zp0 := HVp_w3.out.frozen 0
      have cp1 : w3.cell? ⟨w.heap.size, 1, none⟩ = some (.int .i64 p.col) := HVp_w3.out.cell 1
      have zp1 := HVp_w3.out.frozen 1
      have cp2 : w3.cell? ⟨w.heap.size, 2, none⟩ = some (.string p.s) := HVp_w3.out.cell 2
      have zp2 := HVp_w3.out.frozen 2
      have cp3 : w3.cell? ⟨w.heap.size, 3, none⟩ = some (.int .i64 p.esc) := HVp_w3.out.cell 3
      have zp3 := HVp_w3.out.frozen 3
      have cp4 : w3.cell? ⟨w.heap.size, 4, none⟩ = some (.int .i64 p.coll) := HVp_w3.out.cell 4
      have zp4 := HVp_w3.out.frozen 4
      have cp5 : w3.cell? ⟨w.heap.size, 5, none⟩ = some (.slice A p.kids.length c) := HVp_w3.out.cell 5
      have zp5 := HVp_w3.out.frozen 5
      go_wp2_with fail
      clear cp0 zp0 cp1 zp1 cp2 zp2 cp3 zp3 cp4 zp4 cp5 zp5
      refine (awake16_any HXe_w3.out.env).mono ?_
      rintro r w4 ⟨rfl, b_w4⟩
      have HXe_w4 := Lib.hid ((HXe_w3.out.below b_w4 (Nat.le_refl _)).wide (Nat.le_refl _) b_w4.size)
      have HXp_w4 := Lib.hid (Kin.wide (Nat.le_refl _) b_w4.size (HXp_w3.out.kept b_w4 (Nat.le_refl _)))
      have HXr_w4 := Lib.hid ((HXr_w3.out.below b_w4 (Nat.le_refl _)).wide (Nat.le_refl _) b_w4.size)
      have HVp_w4 := Lib.hid (HVp_w3.out.below b_w4 HVp_w3.out.lt)
      have HB_w4 := Lib.hid (below_below HB_w3.out b_w4 S_w3)
      have S_w4 := HB_w4.out.size
      clear b_w4 HB_w3  HXe_w3 HXp_w3 HXr_w3 HVp_w3 
      go_wp2_with fail
      go_ret
      exact ⟨rfl, HB_w4.out⟩
    | false =>
      refine (small_is HO.out HXp_w2.out false hsm).mono ?_
      rintro r w3 ⟨rfl, b_w3⟩
      have HXe_w3 := Lib.hid ((HXe_w2.out.below b_w3 (Nat.le_refl _)).wide (Nat.le_refl _) b_w3.size)
      have HXp_w3 := Lib.hid (Kin.wide (Nat.le_refl _) b_w3.size (HXp_w2.out.kept b_w3 (Nat.le_refl _)))
      have HXr_w3 := Lib.hid ((HXr_w2.out.below b_w3 (Nat.le_refl _)).wide (Nat.le_refl _) b_w3.size)
      have HVp_w3 := Lib.hid (HVp_w2.out.below b_w3 HVp_w2.out.lt)
      have HB_w3 := Lib.hid (below_below HB_w2.out b_w3 S_w2)
      have S_w3 := HB_w3.out.size
      clear b_w3 HB_w2  HXe_w2 HXp_w2 HXr_w2 HVp_w2 
      go_wp2_with fail
      refine (awake16_any HXe_w3.out.env).mono ?_
      rintro r w4 ⟨rfl, b_w4⟩
      have HXe_w4 := Lib.hid ((HXe_w3.out.below b_w4 (Nat.le_refl _)).wide (Nat.le_refl _) b_w4.size)
      have HXp_w4 := Lib.hid (Kin.wide (Nat.le_refl _) b_w4.size (HXp_w3.out.kept b_w4 (Nat.le_refl _)))
      have HXr_w4 := Lib.hid ((HXr_w3.out.below b_w4 (Nat.le_refl _)).wide (Nat.le_refl _) b_w4.size)
      have HVp_w4 := Lib.hid (HVp_w3.out.below b_w4 HVp_w3.out.lt)
      have HB_w4 := Lib.hid (below_below HB_w3.out b_w4 S_w3)
      have S_w4 := HB_w4.out.size
      clear b_w4 HB_w3  HXe_w3 HXp_w3 HXr_w3 HVp_w3 
      go_wp2_with fail
      go_ret
      exact ⟨rfl, HB_w4.out⟩

set_option maxRecDepth 100000 in
theorem needKeeps_lifted (os : Os) (started : os.Started) (H : Type) (enc : TypeId × Value → H) :
    ReturnsInHanded {} Tryd.checked os 9 .any (fun w args => (Rows.needKeepsSpec.pre enc Tryd.prog Tryd.f9 [] false w args ∧ laidMetH Tryd.prog Rows.needKeepsRow.laid w) ∧ sizedMet enc Tryd.prog Tryd.f9 (OpenSpec.ofChange Rows.needKeepsSpec) false w args)
      (Rows.needKeepsSpec.post enc Tryd.prog Tryd.f9 false true false false) := by
  refine handed_and_shaped (C := Tryd.checked) (X := fun w _ => laidMetH Tryd.prog Rows.needKeepsRow.laid w) (fun _ _ _ hh h => h.of_heap hh) own started (by kernel_rfl) Tryd.func9
    (ChangeSpec.witness_shaped (enc := enc) (C := Tryd.checked) (os := os) (X := fun w _ => laidMetH Tryd.prog Rows.needKeepsRow.laid w) false (World.laidAll Tryd.prog os Rows.needKeepsRow.laid) #[.agg #[.int .i64 0, .int .i64 0, .string ByteArray.empty, .int .i64 0, .int .i64 0, .slice none 0 0], .slice none 0 0] 8 (World.laidAll_os _ _ _)
      (World.shaped_of_ZipB (by kernel_rfl) (by kernel_rfl)) (by kernel_rfl) (by kernel_rfl) (by kernel_rfl)
      (by rw [MakeChecks.laidMetH_plain _ _ _ (by kernel_rfl)]; exact laidMet_laidAll _ (by kernel_rfl) (by kernel_rfl))) ?_
  intro W base args ds gs before hval0 hW hL hsh
  have hval : ∀ (j : Nat) t v, Tryd.f9.params[j]? = some t → args[j]? = some v → Value.okWide Tryd.prog W .any base t v := hval0
  have hW' := hW
  obtain ⟨p, q, hA0, hV, rfl, _, _⟩ := hW
  have hA : DataW.TrodAll enc Tryd.prog W 0 (fun _ => true) true Tryd.f9.params.toList args.toList ds p := hA0
  have hA1 : DataW.TrodAll enc Tryd.prog W 0 (fun _ => true) true Tryd.f9.params.toList args.toList ds p := hA0
  rw [Tryd.params9] at hA hval
  obtain ⟨v0, vs0, d0, ds0, p0, q0, hargs, rfl, rfl, h0, r0⟩ := trodAll_cons hA
  obtain ⟨v1, vs1, d1, ds1, p1, q1, rfl, rfl, rfl, h1, r1⟩ := trodAll_cons r0
  obtain ⟨rfl, rfl, rfl⟩ := trodAll_nil r1
  obtain rfl : args = #[v0, v1] := by cases args; simp_all
  obtain ⟨rfl, rfl⟩ := trodVars_none hV
  obtain ⟨A0, a0, c0, rfl, w0⟩ := open_pred (hval 0 24 v0 rfl rfl) h0
  obtain ⟨A1, a1, c1, rfl, w1⟩ := open_row (hval 1 28 v1 rfl rfl) h1
  rw [MakeChecks.laidMetH_plain _ _ _ (by kernel_rfl)] at hL
  have hT : Env W := env_of hL hsh
  clear hA0 hval0
  refine (needKeeps_walk (w := W) w0 w1 hT).mono fun e W' ⟨he, bel⟩ => ?_
  subst he
  exact ⟨_, rfl, _, _, _, [], _, [], hW', trodAll_mk1 (shut_bool Tryd.underlying4 _), trodAll_below laidOut bel _ _ _ _ (by kernel_rfl) hA1, rfl, bel.frame _, fun h => by cases h⟩

theorem needKeeps_over : Rows.needKeepsRow.holds Tryd.pinned (OpenSpec.ofChange Rows.needKeepsSpec) :=
  OpenClaim.holds_of_wide 9 Tryd.f9 rfl rfl rfl rfl rfl rfl rfl ⟨rfl, rfl, rfl, rfl, rfl⟩ rfl rfl rfl rfl rfl (by kernel_rfl) Tryd.func9 (by kernel_rfl)
    (of_decide_eq_true (by kernel_rfl)) (by unfold Func.isWrapper; first | (rw [if_pos (by decide +kernel)]; kernel_rfl) | (rw [if_neg (by decide +kernel)]; exact ⟨rfl, rfl⟩))
    (fun os started H enc _ => needKeeps_lifted os started H enc)

/-- The statement: the card. -/
theorem needKeeps_proved : Rows.NeedKeepsCardSaid :=
  Claim7.holds_tied_plain_at .later [] [.data, .pinned] true Rows.needKeepsCard.stood.harness false needKeeps_over (fun _ h => by cases h) (by kernel_rfl) (fun _ h => by cases h) needKeeps_row_tie rfl ⟨rfl, rfl⟩ (by kernel_rfl) rfl
    (fun f fn hf hfn => by
      obtain rfl : f = 9 := Option.some.inj ((show Tryd.prog.funcNamed Rows.needKeepsRow.func = some 9 by kernel_rfl).symm.trans hf) |>.symm
      obtain rfl : fn = Tryd.f9 := (Option.some.inj (Tryd.func9.symm.trans hfn)).symm
      exact ⟨by kernel_rfl, fun j t ht => by
        rw [Tryd.params9] at ht
        have hm : t ∈ [24, 28] := by simpa using Array.mem_of_getElem? ht
        have hall : ([24, 28].all fun u => !Tryd.prog.wantsStandIn u) = true := by kernel_rfl
        exact (show Tryd.prog.wantsStandIn t = false by simpa using List.all_eq_true.1 hall t hm)⟩)
    (by kernel_rfl)


end Go.Proofs.YtjffbjlniieciaaDoor
