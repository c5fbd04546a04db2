/-
  Proved: NeedSkip of layer 16: of whatever right predicate and rows' filters: whether they can be skipped; what came in reads as it did. Conditions: none of our own; the row lists two of the library's tables (unicode/utf8.acceptRanges, unicode/utf8.first), tied to the program's text by the given tie, and names one more of the library's variables (internal/bytealg.MaxLen), whatever it holds.
-/
import Derived.Test.YtjffbjlniieciaaDoorMgE
import Derived.Test.YtjffbjlniieciaaDoorPrdO
import Derived.Test.YtjffbjlniieciaaDoorShell
import Derived.Test.YtjffbjlniieciaaDoorTieE
import Derived.Test.YtjffbjlniieciaaDoorTie
import Derived.Test.YtjffbjlniieciaaDoorCards
import Derived.Lay
import Derived.LaidOnce
import Derived.SevenTiedAt
import Derived.MakeChecks
namespace Go.Proofs.YtjffbjlniieciaaDoor
set_option linter.unusedSimpArgs false
set_option linter.unusedVariables false
open Go.ChangeShapes Go.WideShapes Go.ChangeAt Go.RowKit
open Go.ChangeMaps (open_string shut_string)

set_option maxRecDepth 20000 in
set_option maxHeartbeats 4000000 in
theorem needSkip_walk {w : World} {A : Option Addr} {p : Pr} {c : Nat} (hpk : PrOk p ∧ Kin w 0 w.heap.size p.kids A c) {B : Option Addr} {rs : List (List Vl)} {d : Nat} (hrq : ∃ qA qc, Rows2 w 0 w.heap.size B d rs qA qc) (cols : Int) (hcw : (Lit.int .i64 cols).wf) (u : Nat) (hu : u < 65536) (hT : Env w) :
    Calls Tryd.prog 5 #[.agg #[.int .i64 p.kind, .int .i64 p.col, .string p.s, .int .i64 p.esc, .int .i64 p.coll, .slice A p.kids.length c], .slice B rs.length d, .int .i64 cols, .int .u16 (u : Int)] w fun e w' => e = .returned (.bool true) ∧ Below w.heap.size w w' := by
  have HXe_w := Lib.hid (EnvX.of hT)
  clear hT
  obtain ⟨ho, hk⟩ := hpk
  have HO := Lib.hid ho
  have HXp_w := Lib.hid hk
  have hkl := hk.len
  clear ho hk
  obtain ⟨qA, qc, hrows⟩ := hrq
  have HXq_w := Lib.hid hrows
  have hql := hrows.len
  clear hrows
  obtain ⟨w1, hw_w1⟩ : ∃ q, w.alloc (.cells #[.int .i64 p.kind, .int .i64 p.col, .string p.s, .int .i64 p.esc, .int .i64 p.coll, .slice A p.kids.length c] 24) = q := ⟨_, rfl⟩
  have b_w1 : Below w.heap.size w w1 := by rw [← hw_w1]; exact (Below.refl _ _).alloc (Nat.le_refl _) _
  have HVx : Hid (Blk w1 w.heap.size 24 #[.int .i64 p.kind, .int .i64 p.col, .string p.s, .int .i64 p.esc, .int .i64 p.coll, .slice A p.kids.length c]) := by unfold Hid; rw [← hw_w1]; exact Blk.new _ _ _
  have HXe_w1 := Lib.hid ((HXe_w.out.below b_w1 (Nat.le_refl _)).wide (Nat.le_refl _) b_w1.size)
  have HXp_w1 := Lib.hid (Kin.wide (Nat.le_refl _) b_w1.size (HXp_w.out.kept b_w1 (Nat.le_refl _)))
  have HXq_w1 := Lib.hid ((HXq_w.out.below b_w1 (Nat.le_refl _)).wide (Nat.le_refl _) b_w1.size)
  have HB_w1 := Lib.hid b_w1
  have S_w1 := HB_w1.out.size
  clear b_w1   HXe_w HXp_w HXq_w 
  have HVp_w1 := Lib.hid HVx.out
  clear HVx
  obtain ⟨m, hm⟩ : ∃ m, u % 600 = m := ⟨_, rfl⟩
  have hm3 : m < 600 := by omega
  have hmod : (u : Int) % 600 = (m : Int) := by omega
  have htmod : (u : Int).tmod 600 = (m : Int) := by rw [Int.tmod_eq_emod_of_nonneg (by omega)]; exact hmod
  clear hm
  go_enter Tryd.func5, Tryd.ntmps5
  go_wp2_with fail
  clear hw_w1
  refine (awake16_any HXe_w1.out.env).mono ?_
  rintro r w2 ⟨rfl, b_w2⟩
  have HXe_w2 := Lib.hid ((HXe_w1.out.below b_w2 (Nat.le_refl _)).wide (Nat.le_refl _) b_w2.size)
  have HXp_w2 := Lib.hid (Kin.wide (Nat.le_refl _) b_w2.size (HXp_w1.out.kept b_w2 (Nat.le_refl _)))
  have HXq_w2 := Lib.hid ((HXq_w1.out.below b_w2 (Nat.le_refl _)).wide (Nat.le_refl _) b_w2.size)
  have HVp_w2 := Lib.hid (HVp_w1.out.below b_w2 HVp_w1.out.lt)
  have HB_w2 := Lib.hid (below_below HB_w1.out b_w2 S_w1)
  have S_w2 := HB_w2.out.size
  clear b_w2 HB_w1  HXe_w1 HXp_w1 HXq_w1 HVp_w1 
  have cp0 : w2.cell? ⟨w.heap.size, 0, none⟩ = some (.int .i64 p.kind) := HVp_w2.out.cell 0
  have zp0 := HVp_w2.out.frozen 0
  have cp1 : w2.cell? ⟨w.heap.size, 1, none⟩ = some (.int .i64 p.col) := HVp_w2.out.cell 1
  have zp1 := HVp_w2.out.frozen 1
  have cp2 : w2.cell? ⟨w.heap.size, 2, none⟩ = some (.string p.s) := HVp_w2.out.cell 2
  have zp2 := HVp_w2.out.frozen 2
  have cp3 : w2.cell? ⟨w.heap.size, 3, none⟩ = some (.int .i64 p.esc) := HVp_w2.out.cell 3
  have zp3 := HVp_w2.out.frozen 3
  have cp4 : w2.cell? ⟨w.heap.size, 4, none⟩ = some (.int .i64 p.coll) := HVp_w2.out.cell 4
  have zp4 := HVp_w2.out.frozen 4
  have cp5 : w2.cell? ⟨w.heap.size, 5, none⟩ = some (.slice A p.kids.length c) := HVp_w2.out.cell 5
  have zp5 := HVp_w2.out.frozen 5
  go_wp2_with fail
  clear cp0 zp0 cp1 zp1 cp2 zp2 cp3 zp3 cp4 zp4 cp5 zp5
  cases hsm : smallP p 20 with
  | true =>
    refine (small_is HO.out HXp_w2.out true hsm).mono ?_
    rintro r w3 ⟨rfl, b_w3⟩
    have HXe_w3 := Lib.hid ((HXe_w2.out.below b_w3 (Nat.le_refl _)).wide (Nat.le_refl _) b_w3.size)
    have HXp_w3 := Lib.hid (Kin.wide (Nat.le_refl _) b_w3.size (HXp_w2.out.kept b_w3 (Nat.le_refl _)))
    have HXq_w3 := Lib.hid ((HXq_w2.out.below b_w3 (Nat.le_refl _)).wide (Nat.le_refl _) b_w3.size)
    have HVp_w3 := Lib.hid (HVp_w2.out.below b_w3 HVp_w2.out.lt)
    have HB_w3 := Lib.hid (below_below HB_w2.out b_w3 S_w2)
    have S_w3 := HB_w3.out.size
    clear b_w3 HB_w2  HXe_w2 HXp_w2 HXq_w2 HVp_w2 
    go_wp2_with fail
    cases hrw : rowsP rs cols with
    | true =>
      refine (rows_is HXq_w3.out cols _ rfl true hrw).mono ?_
      rintro r w4 ⟨rfl, b_w4⟩
      have HXe_w4 := Lib.hid ((HXe_w3.out.below b_w4 (Nat.le_refl _)).wide (Nat.le_refl _) b_w4.size)
      have HXp_w4 := Lib.hid (Kin.wide (Nat.le_refl _) b_w4.size (HXp_w3.out.kept b_w4 (Nat.le_refl _)))
      have HXq_w4 := Lib.hid ((HXq_w3.out.below b_w4 (Nat.le_refl _)).wide (Nat.le_refl _) b_w4.size)
      have HVp_w4 := Lib.hid (HVp_w3.out.below b_w4 HVp_w3.out.lt)
      have HB_w4 := Lib.hid (below_below HB_w3.out b_w4 S_w3)
      have S_w4 := HB_w4.out.size
      clear b_w4 HB_w3  HXe_w3 HXp_w3 HXq_w3 HVp_w3 
      have cp0 : w4.cell? ⟨w.heap.size, 0, none⟩ = some (.int .i64 p.kind) := HVp_w4.out.cell 0
      have zp0 := HVp_w4.out.frozen 0
      have cp1 : w4.cell? ⟨w.heap.size, 1, none⟩ = some (.int .i64 p.col) := HVp_w4.out.cell 1
      have zp1 := HVp_w4.out.frozen 1
      have cp2 : w4.cell? ⟨w.heap.size, 2, none⟩ = some (.string p.s) := HVp_w4.out.cell 2
      have zp2 := HVp_w4.out.frozen 2
      have cp3 : w4.cell? ⟨w.heap.size, 3, none⟩ = some (.int .i64 p.esc) := HVp_w4.out.cell 3
      have zp3 := HVp_w4.out.frozen 3
      have cp4 : w4.cell? ⟨w.heap.size, 4, none⟩ = some (.int .i64 p.coll) := HVp_w4.out.cell 4
      have zp4 := HVp_w4.out.frozen 4
      have cp5 : w4.cell? ⟨w.heap.size, 5, none⟩ = some (.slice A p.kids.length c) := HVp_w4.out.cell 5
      have zp5 := HVp_w4.out.frozen 5
      go_wp2_with fail
      clear cp0 zp0 cp1 zp1 cp2 zp2 cp3 zp3 cp4 zp4 cp5 zp5
      cases hrp : rightP p cols 12 with
      | true =>
        refine (refright_is HO.out HXp_w4.out cols 12 (by decide) true hrp).mono ?_
        rintro r w5 ⟨rfl, b_w5⟩
        have HXe_w5 := Lib.hid ((HXe_w4.out.below b_w5 (Nat.le_refl _)).wide (Nat.le_refl _) b_w5.size)
        have HXp_w5 := Lib.hid (Kin.wide (Nat.le_refl _) b_w5.size (HXp_w4.out.kept b_w5 (Nat.le_refl _)))
        have HXq_w5 := Lib.hid ((HXq_w4.out.below b_w5 (Nat.le_refl _)).wide (Nat.le_refl _) b_w5.size)
        have HVp_w5 := Lib.hid (HVp_w4.out.below b_w5 HVp_w4.out.lt)
        have HB_w5 := Lib.hid (below_below HB_w4.out b_w5 S_w4)
        have S_w5 := HB_w5.out.size
        clear b_w5 HB_w4  HXe_w4 HXp_w4 HXq_w4 HVp_w4 
        go_wp2_with fail
        obtain ⟨hc1, hc2, _, _⟩ := rowsP_of hrw
        obtain ⟨n, rfl⟩ : ∃ n : Nat, cols = (n : Int) := ⟨cols.toNat, by omega⟩
        refine (filters_is HXq_w5.out n hrw m (by omega) _ rfl).mono ?_
        rintro r w6 ⟨es, A6, c6, gA, gc, hA, hc, rfl, hfl, hfo, hfs, hfk, b_w6⟩
        obtain ⟨fs, hfs2⟩ : ∃ fs, es.map toFl = fs := ⟨_, rfl⟩
        rw [hfs2] at hfl hfs hfk ⊢
        have HXX := Lib.hid hfs
        have HFK := Lib.hid hfk
        have HFL := Lib.hid hfl
        clear hfs hfo hfs2 hfk hmod htmod hfl
        have HXe_w6 := Lib.hid ((HXe_w5.out.below b_w6 (Nat.le_refl _)).wide (Nat.le_refl _) b_w6.size)
        have HXp_w6 := Lib.hid (Kin.wide (Nat.le_refl _) b_w6.size (HXp_w5.out.kept b_w6 (Nat.le_refl _)))
        have HXq_w6 := Lib.hid ((HXq_w5.out.below b_w6 (Nat.le_refl _)).wide (Nat.le_refl _) b_w6.size)
        have HVp_w6 := Lib.hid (HVp_w5.out.below b_w6 HVp_w5.out.lt)
        have HB_w6 := Lib.hid (below_below HB_w5.out b_w6 S_w5)
        have S_w6 := HB_w6.out.size
        clear b_w6 HB_w5  HXe_w5 HXp_w5 HXq_w5 HVp_w5 
        have HXf_w6 := Lib.hid HXX.out
        clear HXX
        go_wp2_with fail
        have HRP : Hid (rightP p fs.length 12 = true) := by unfold Hid; rw [HFL.out]; exact hrp
        obtain ⟨y, hy⟩ : ∃ y, skipP p fs = y := ⟨_, rfl⟩
        have HCF : Hid (∀ wx, Below w6.heap.size w6 wx → wx.cell? ⟨w.heap.size, 0, none⟩ = some (.int .i64 p.kind) ∧ wx.cell? ⟨w.heap.size, 1, none⟩ = some (.int .i64 p.col) ∧ wx.cell? ⟨w.heap.size, 2, none⟩ = some (.string p.s) ∧ wx.cell? ⟨w.heap.size, 3, none⟩ = some (.int .i64 p.esc) ∧ wx.cell? ⟨w.heap.size, 4, none⟩ = some (.int .i64 p.coll) ∧ wx.cell? ⟨w.heap.size, 5, none⟩ = some (.slice A p.kids.length c)) := fun wx hb => ⟨(hb.cell (p := ⟨w.heap.size, 0, none⟩) HVp_w6.out.lt).trans (HVp_w6.out.cell 0), (hb.cell (p := ⟨w.heap.size, 1, none⟩) HVp_w6.out.lt).trans (HVp_w6.out.cell 1), (hb.cell (p := ⟨w.heap.size, 2, none⟩) HVp_w6.out.lt).trans (HVp_w6.out.cell 2), (hb.cell (p := ⟨w.heap.size, 3, none⟩) HVp_w6.out.lt).trans (HVp_w6.out.cell 3), (hb.cell (p := ⟨w.heap.size, 4, none⟩) HVp_w6.out.lt).trans (HVp_w6.out.cell 4), (hb.cell (p := ⟨w.heap.size, 5, none⟩) HVp_w6.out.lt).trans (HVp_w6.out.cell 5)⟩
        have hS0 := HCF.out _ (Below.refl _ _)
        have hS1 := HCF.out _ ((Below.refl _ _).drew)
        have KD : Hid (Below w6.heap.size w6 w6.drew) := (Below.refl _ _).drew
        go_region_held3 (fun w' => w'.cell? ⟨w.heap.size, 0, none⟩ = some (.int .i64 p.kind) ∧ w'.cell? ⟨w.heap.size, 1, none⟩ = some (.int .i64 p.col) ∧ w'.cell? ⟨w.heap.size, 2, none⟩ = some (.string p.s) ∧ w'.cell? ⟨w.heap.size, 3, none⟩ = some (.int .i64 p.esc) ∧ w'.cell? ⟨w.heap.size, 4, none⟩ = some (.int .i64 p.coll) ∧ w'.cell? ⟨w.heap.size, 5, none⟩ = some (.slice A p.kids.length c)) (first | assumption | go_keep) (first
          | (go_at_call 18; refine (skip_is HO.out (Kin.wide (Nat.le_refl _) KD.out.size (HXp_w6.out.kept KD.out (Nat.le_refl _))) ((HXf_w6.out.below KD.out (Nat.le_refl _)).wide (Nat.le_refl _) KD.out.size) HFK.out HRP.out y hy).mono ?_; rintro r wy ⟨rfl, hby⟩; have KY : Hid (Below w6.heap.size w6 wy) := KD.out.trans (hby.mono KD.out.size); have hSy := HCF.out _ KY.out; clear hby)
          | (go_at_call 19; refine (refskip_is HO.out (Kin.wide (Nat.le_refl _) KY.out.size (HXp_w6.out.kept KY.out (Nat.le_refl _))) ((HXf_w6.out.below KY.out (Nat.le_refl _)).wide (Nat.le_refl _) KY.out.size) HFK.out HRP.out y hy).mono ?_; rintro r wz ⟨rfl, hbz⟩; have KZ : Hid (Below w6.heap.size w6 wz) := KY.out.trans (hbz.mono KY.out.size); have hSz := HCF.out _ KZ.out; clear hbz))
        go_wp2
        go_ret
        exact ⟨rfl, below_below HB_w6.out KZ.out S_w6⟩
      | false =>
        refine (refright_is HO.out HXp_w4.out cols 12 (by decide) false hrp).mono ?_
        rintro r w5 ⟨rfl, b_w5⟩
        have HXe_w5 := Lib.hid ((HXe_w4.out.below b_w5 (Nat.le_refl _)).wide (Nat.le_refl _) b_w5.size)
        have HXp_w5 := Lib.hid (Kin.wide (Nat.le_refl _) b_w5.size (HXp_w4.out.kept b_w5 (Nat.le_refl _)))
        have HXq_w5 := Lib.hid ((HXq_w4.out.below b_w5 (Nat.le_refl _)).wide (Nat.le_refl _) b_w5.size)
        have HVp_w5 := Lib.hid (HVp_w4.out.below b_w5 HVp_w4.out.lt)
        have HB_w5 := Lib.hid (below_below HB_w4.out b_w5 S_w4)
        have S_w5 := HB_w5.out.size
        clear b_w5 HB_w4  HXe_w4 HXp_w4 HXq_w4 HVp_w4 
        go_wp2_with fail
        refine (awake16_any HXe_w5.out.env).mono ?_
        rintro r wx ⟨rfl, b_wx⟩
        have HXe_wx := Lib.hid ((HXe_w5.out.below b_wx (Nat.le_refl _)).wide (Nat.le_refl _) b_wx.size)
        have HXp_wx := Lib.hid (Kin.wide (Nat.le_refl _) b_wx.size (HXp_w5.out.kept b_wx (Nat.le_refl _)))
        have HXq_wx := Lib.hid ((HXq_w5.out.below b_wx (Nat.le_refl _)).wide (Nat.le_refl _) b_wx.size)
        have HVp_wx := Lib.hid (HVp_w5.out.below b_wx HVp_w5.out.lt)
        have HB_wx := Lib.hid (below_below HB_w5.out b_wx S_w5)
        have S_wx := HB_wx.out.size
        clear b_wx HB_w5  HXe_w5 HXp_w5 HXq_w5 HVp_w5 
        go_wp2_with fail
        go_ret
        exact ⟨rfl, HB_wx.out⟩
    | false =>
      refine (rows_is HXq_w3.out cols _ rfl false hrw).mono ?_
      rintro r w4 ⟨rfl, b_w4⟩
      have HXe_w4 := Lib.hid ((HXe_w3.out.below b_w4 (Nat.le_refl _)).wide (Nat.le_refl _) b_w4.size)
      have HXp_w4 := Lib.hid (Kin.wide (Nat.le_refl _) b_w4.size (HXp_w3.out.kept b_w4 (Nat.le_refl _)))
      have HXq_w4 := Lib.hid ((HXq_w3.out.below b_w4 (Nat.le_refl _)).wide (Nat.le_refl _) b_w4.size)
      have HVp_w4 := Lib.hid (HVp_w3.out.below b_w4 HVp_w3.out.lt)
      have HB_w4 := Lib.hid (below_below HB_w3.out b_w4 S_w3)
      have S_w4 := HB_w4.out.size
      clear b_w4 HB_w3  HXe_w3 HXp_w3 HXq_w3 HVp_w3 
      go_wp2_with fail
      refine (awake16_any HXe_w4.out.env).mono ?_
      rintro r wx ⟨rfl, b_wx⟩
      have HXe_wx := Lib.hid ((HXe_w4.out.below b_wx (Nat.le_refl _)).wide (Nat.le_refl _) b_wx.size)
      have HXp_wx := Lib.hid (Kin.wide (Nat.le_refl _) b_wx.size (HXp_w4.out.kept b_wx (Nat.le_refl _)))
      have HXq_wx := Lib.hid ((HXq_w4.out.below b_wx (Nat.le_refl _)).wide (Nat.le_refl _) b_wx.size)
      have HVp_wx := Lib.hid (HVp_w4.out.below b_wx HVp_w4.out.lt)
      have HB_wx := Lib.hid (below_below HB_w4.out b_wx S_w4)
      have S_wx := HB_wx.out.size
      clear b_wx HB_w4  HXe_w4 HXp_w4 HXq_w4 HVp_w4 
      go_wp2_with fail
      go_ret
      exact ⟨rfl, HB_wx.out⟩
  | false =>
    refine (small_is HO.out HXp_w2.out false hsm).mono ?_
    rintro r w3 ⟨rfl, b_w3⟩
    have HXe_w3 := Lib.hid ((HXe_w2.out.below b_w3 (Nat.le_refl _)).wide (Nat.le_refl _) b_w3.size)
    have HXp_w3 := Lib.hid (Kin.wide (Nat.le_refl _) b_w3.size (HXp_w2.out.kept b_w3 (Nat.le_refl _)))
    have HXq_w3 := Lib.hid ((HXq_w2.out.below b_w3 (Nat.le_refl _)).wide (Nat.le_refl _) b_w3.size)
    have HVp_w3 := Lib.hid (HVp_w2.out.below b_w3 HVp_w2.out.lt)
    have HB_w3 := Lib.hid (below_below HB_w2.out b_w3 S_w2)
    have S_w3 := HB_w3.out.size
    clear b_w3 HB_w2  HXe_w2 HXp_w2 HXq_w2 HVp_w2 
    go_wp2_with fail
    refine (awake16_any HXe_w3.out.env).mono ?_
    rintro r wx ⟨rfl, b_wx⟩
    have HXe_wx := Lib.hid ((HXe_w3.out.below b_wx (Nat.le_refl _)).wide (Nat.le_refl _) b_wx.size)
    have HXp_wx := Lib.hid (Kin.wide (Nat.le_refl _) b_wx.size (HXp_w3.out.kept b_wx (Nat.le_refl _)))
    have HXq_wx := Lib.hid ((HXq_w3.out.below b_wx (Nat.le_refl _)).wide (Nat.le_refl _) b_wx.size)
    have HVp_wx := Lib.hid (HVp_w3.out.below b_wx HVp_w3.out.lt)
    have HB_wx := Lib.hid (below_below HB_w3.out b_wx S_w3)
    have S_wx := HB_wx.out.size
    clear b_wx HB_w3  HXe_w3 HXp_w3 HXq_w3 HVp_w3 
    go_wp2_with fail
    go_ret
    exact ⟨rfl, HB_wx.out⟩

set_option maxRecDepth 100000 in
theorem needSkip_lifted (os : Os) (started : os.Started) (H : Type) (enc : TypeId × Value → H) :
    ReturnsInHanded {} Tryd.checked os 5 .any (fun w args => (Rows.needSkipSpec.pre enc Tryd.prog Tryd.f5 [] false w args ∧ laidMetH Tryd.prog Rows.needSkipRow.laid w) ∧ sizedMet enc Tryd.prog Tryd.f5 (OpenSpec.ofChange Rows.needSkipSpec) false w args)
      (Rows.needSkipSpec.post enc Tryd.prog Tryd.f5 false true false false) := by
  refine handed_and_shaped (C := Tryd.checked) (X := fun w _ => laidMetH Tryd.prog Rows.needSkipRow.laid w) (fun _ _ _ hh h => h.of_heap hh) own started (by kernel_rfl) Tryd.func5
    (ChangeSpec.witness_shaped (enc := enc) (C := Tryd.checked) (os := os) (X := fun w _ => laidMetH Tryd.prog Rows.needSkipRow.laid w) false (World.laidAll Tryd.prog os Rows.needSkipRow.laid) #[.agg #[.int .i64 0, .int .i64 0, .string ByteArray.empty, .int .i64 0, .int .i64 0, .slice none 0 0], .slice none 0 0, .int .i64 0, .int .u16 0] 8 (World.laidAll_os _ _ _)
      (World.shaped_of_ZipB (by kernel_rfl) (by kernel_rfl)) (by kernel_rfl) (by kernel_rfl) (by kernel_rfl)
      (by rw [MakeChecks.laidMetH_plain _ _ _ (by kernel_rfl)]; exact laidMet_laidAll _ (by kernel_rfl) (by kernel_rfl))) ?_
  intro W base args ds gs before hval0 hW hL hsh
  have hval : ∀ (j : Nat) t v, Tryd.f5.params[j]? = some t → args[j]? = some v → Value.okWide Tryd.prog W .any base t v := hval0
  have hW' := hW
  obtain ⟨p, q, hA0, hV, rfl, _, _⟩ := hW
  have hA : DataW.TrodAll enc Tryd.prog W 0 (fun _ => true) true Tryd.f5.params.toList args.toList ds p := hA0
  have hA1 : DataW.TrodAll enc Tryd.prog W 0 (fun _ => true) true Tryd.f5.params.toList args.toList ds p := hA0
  rw [Tryd.params5] at hA hval
  obtain ⟨v0, vs0, d0, ds0, p0, q0, hargs, rfl, rfl, h0, r0⟩ := trodAll_cons hA
  obtain ⟨v1, vs1, d1, ds1, p1, q1, rfl, rfl, rfl, h1, r1⟩ := trodAll_cons r0
  obtain ⟨v2, vs2, d2, ds2, p2, q2, rfl, rfl, rfl, h2, r2⟩ := trodAll_cons r1
  obtain ⟨v3, vs3, d3, ds3, p3, q3, rfl, rfl, rfl, h3, r3⟩ := trodAll_cons r2
  obtain ⟨rfl, rfl, rfl⟩ := trodAll_nil r3
  obtain rfl : args = #[v0, v1, v2, v3] := by cases args; simp_all
  obtain ⟨rfl, rfl⟩ := trodVars_none hV
  obtain ⟨A0, a0, c0, rfl, w0⟩ := open_pred (hval 0 24 v0 rfl rfl) h0
  obtain ⟨A1, a1, c1, rfl, w1⟩ := open_rows (hval 1 30 v1 rfl rfl) h1
  obtain ⟨a2, rfl, rfl, rfl, w2⟩ := open_int Tryd.underlying3 (hval 2 3 v2 rfl rfl) h2
  obtain ⟨a3, rfl, rfl, rfl, w3⟩ := open_int Tryd.underlying33 (hval 3 33 v3 rfl rfl) h3
  obtain ⟨b3, rfl, l3⟩ := u16_of_wf w3
  rw [MakeChecks.laidMetH_plain _ _ _ (by kernel_rfl)] at hL
  have hT : Env W := env_of hL hsh
  clear hA0 hval0
  refine (needSkip_walk (w := W) w0 w1 a2 w2 b3 l3 hT).mono fun e W' ⟨he, bel⟩ => ?_
  subst he
  exact ⟨_, rfl, _, _, _, [], _, [], hW', trodAll_mk1 (shut_bool Tryd.underlying4 _), trodAll_below laidOut bel _ _ _ _ (by kernel_rfl) hA1, rfl, bel.frame _, fun h => by cases h⟩

theorem needSkip_over : Rows.needSkipRow.holds Tryd.pinned (OpenSpec.ofChange Rows.needSkipSpec) :=
  OpenClaim.holds_of_wide 5 Tryd.f5 rfl rfl rfl rfl rfl rfl rfl ⟨rfl, rfl, rfl, rfl, rfl⟩ rfl rfl rfl rfl rfl (by kernel_rfl) Tryd.func5 (by kernel_rfl)
    (of_decide_eq_true (by kernel_rfl)) (by unfold Func.isWrapper; first | (rw [if_pos (by decide +kernel)]; kernel_rfl) | (rw [if_neg (by decide +kernel)]; exact ⟨rfl, rfl⟩))
    (fun os started H enc _ => needSkip_lifted os started H enc)

/-- The statement: the card. -/
theorem needSkip_proved : Rows.NeedSkipCardSaid :=
  Claim7.holds_tied_plain_at .later [] [.data, .pinned] true Rows.needSkipCard.stood.harness false needSkip_over (fun _ h => by cases h) (by kernel_rfl) (fun _ h => by cases h) needSkip_row_tie rfl ⟨rfl, rfl⟩ (by kernel_rfl) rfl
    (fun f fn hf hfn => by
      obtain rfl : f = 5 := Option.some.inj ((show Tryd.prog.funcNamed Rows.needSkipRow.func = some 5 by kernel_rfl).symm.trans hf) |>.symm
      obtain rfl : fn = Tryd.f5 := (Option.some.inj (Tryd.func5.symm.trans hfn)).symm
      exact ⟨by kernel_rfl, fun j t ht => by
        rw [Tryd.params5] at ht
        have hm : t ∈ [24, 30, 3, 33] := by simpa using Array.mem_of_getElem? ht
        have hall : ([24, 30, 3, 33].all fun u => !Tryd.prog.wantsStandIn u) = true := by kernel_rfl
        exact (show Tryd.prog.wantsStandIn t = false by simpa using List.all_eq_true.1 hall t hm)⟩)
    (by kernel_rfl)


end Go.Proofs.YtjffbjlniieciaaDoor
