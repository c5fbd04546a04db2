/-
  Proved: NeedExact of layer 16: a Has that asks for three bytes which no row has, with exact filters, skips all; so does what has it in an And; what came in reads as it did. Conditions: none of our own; the row lists two of the library's tables (unicode/utf8.acceptRanges, unicode/utf8.first), tied to the program's text by the given tie, and names one more of the library's variables (internal/bytealg.MaxLen), whatever it holds.
-/
import Derived.Test.YtjffbjlniieciaaDoorMgE
import Derived.Test.YtjffbjlniieciaaDoorPrdO
import Derived.Test.YtjffbjlniieciaaDoorShell
import Derived.Test.YtjffbjlniieciaaDoorTieE
import Derived.Test.YtjffbjlniieciaaDoorTie
import Derived.Test.YtjffbjlniieciaaDoorCards
import Derived.Lay
import Derived.LaidOnce
import Derived.SevenTiedAt
import Derived.MakeChecks
namespace Go.Proofs.YtjffbjlniieciaaDoor
set_option linter.unusedSimpArgs false
set_option linter.unusedVariables false
open Go.ChangeShapes Go.WideShapes Go.ChangeAt Go.RowKit
open Go.ChangeMaps (open_string shut_string)

set_option maxRecDepth 20000 in
set_option maxHeartbeats 4000000 in
theorem needExact_walk {w : World} (s : ByteArray) (hs0 : s.size ≤ 9223372036854775807) {B : Option Addr} {rs : List (List Vl)} {d : Nat} (hrq : ∃ qA qc, Rows2 w 0 w.heap.size B d rs qA qc) (cols : Int) (hcw : (Lit.int .i64 cols).wf) {A : Option Addr} {p : Pr} {c : Nat} (hpk : PrOk p ∧ Kin w 0 w.heap.size p.kids A c) (hT : Env w) :
    Calls Tryd.prog 7 #[.string s, .slice B rs.length d, .int .i64 cols, .agg #[.int .i64 p.kind, .int .i64 p.col, .string p.s, .int .i64 p.esc, .int .i64 p.coll, .slice A p.kids.length c]] w fun e w' => e = .returned (.bool true) ∧ Below w.heap.size w w' := by
  have HXe_w := Lib.hid (EnvX.of hT)
  clear hT
  obtain ⟨ho, hk⟩ := hpk
  have HO := Lib.hid ho
  have HXp_w := Lib.hid hk
  have hkl := hk.len
  clear ho hk
  obtain ⟨qA, qc, hrows⟩ := hrq
  have HXq_w := Lib.hid hrows
  have hql := hrows.len
  clear hrows
  obtain ⟨w1, hw_w1⟩ : ∃ q, w.alloc (.cells #[.int .i64 p.kind, .int .i64 p.col, .string p.s, .int .i64 p.esc, .int .i64 p.coll, .slice A p.kids.length c] 24) = q := ⟨_, rfl⟩
  have b_w1 : Below w.heap.size w w1 := by rw [← hw_w1]; exact (Below.refl _ _).alloc (Nat.le_refl _) _
  have HVx : Hid (Blk w1 w.heap.size 24 #[.int .i64 p.kind, .int .i64 p.col, .string p.s, .int .i64 p.esc, .int .i64 p.coll, .slice A p.kids.length c]) := by unfold Hid; rw [← hw_w1]; exact Blk.new _ _ _
  have HXe_w1 := Lib.hid ((HXe_w.out.below b_w1 (Nat.le_refl _)).wide (Nat.le_refl _) b_w1.size)
  have HXp_w1 := Lib.hid (Kin.wide (Nat.le_refl _) b_w1.size (HXp_w.out.kept b_w1 (Nat.le_refl _)))
  have HXq_w1 := Lib.hid ((HXq_w.out.below b_w1 (Nat.le_refl _)).wide (Nat.le_refl _) b_w1.size)
  have HB_w1 := Lib.hid b_w1
  have S_w1 := HB_w1.out.size
  clear b_w1   HXe_w HXp_w HXq_w 
  have HVp_w1 := Lib.hid HVx.out
  clear HVx
  by_cases h3 : 3 ≤ s.size
  · have e3 : decide ((s.size : Int) < 3) = false := decide_eq_false (by omega)
    have e3b : ¬ (s.size : Int) < 3 := by omega
    by_cases h60 : s.size ≤ 60
    · have e60 : decide ((60 : Int) < (s.size : Int)) = false := decide_eq_false (by omega)
      have e60b : ¬ (60 : Int) < (s.size : Int) := by omega
      go_enter Tryd.func7, Tryd.ntmps7
      go_wp2_with fail
      clear hw_w1
      refine (awake16_any HXe_w1.out.env).mono ?_
      rintro r w2 ⟨rfl, b_w2⟩
      have HXe_w2 := Lib.hid ((HXe_w1.out.below b_w2 (Nat.le_refl _)).wide (Nat.le_refl _) b_w2.size)
      have HXp_w2 := Lib.hid (Kin.wide (Nat.le_refl _) b_w2.size (HXp_w1.out.kept b_w2 (Nat.le_refl _)))
      have HXq_w2 := Lib.hid ((HXq_w1.out.below b_w2 (Nat.le_refl _)).wide (Nat.le_refl _) b_w2.size)
      have HVp_w2 := Lib.hid (HVp_w1.out.below b_w2 HVp_w1.out.lt)
      have HB_w2 := Lib.hid (below_below HB_w1.out b_w2 S_w1)
      have S_w2 := HB_w2.out.size
      clear b_w2 HB_w1  HXe_w1 HXp_w1 HXq_w1 HVp_w1 
      go_wp2_with fail
      cases hrw : rowsP rs cols with
      | true =>
        refine (rows_is HXq_w2.out cols _ rfl true hrw).mono ?_
        rintro r w3 ⟨rfl, b_w3⟩
        have HXe_w3 := Lib.hid ((HXe_w2.out.below b_w3 (Nat.le_refl _)).wide (Nat.le_refl _) b_w3.size)
        have HXp_w3 := Lib.hid (Kin.wide (Nat.le_refl _) b_w3.size (HXp_w2.out.kept b_w3 (Nat.le_refl _)))
        have HXq_w3 := Lib.hid ((HXq_w2.out.below b_w3 (Nat.le_refl _)).wide (Nat.le_refl _) b_w3.size)
        have HVp_w3 := Lib.hid (HVp_w2.out.below b_w3 HVp_w2.out.lt)
        have HB_w3 := Lib.hid (below_below HB_w2.out b_w3 S_w2)
        have S_w3 := HB_w3.out.size
        clear b_w3 HB_w2  HXe_w2 HXp_w2 HXq_w2 HVp_w2 
        have cp0 : w3.cell? ⟨w.heap.size, 0, none⟩ = some (.int .i64 p.kind) := HVp_w3.out.cell 0
        have zp0 := HVp_w3.out.frozen 0
        have cp1 : w3.cell? ⟨w.heap.size, 1, none⟩ = some (.int .i64 p.col) := HVp_w3.out.cell 1
        have zp1 := HVp_w3.out.frozen 1
        have cp2 : w3.cell? ⟨w.heap.size, 2, none⟩ = some (.string p.s) := HVp_w3.out.cell 2
        have zp2 := HVp_w3.out.frozen 2
        have cp3 : w3.cell? ⟨w.heap.size, 3, none⟩ = some (.int .i64 p.esc) := HVp_w3.out.cell 3
        have zp3 := HVp_w3.out.frozen 3
        have cp4 : w3.cell? ⟨w.heap.size, 4, none⟩ = some (.int .i64 p.coll) := HVp_w3.out.cell 4
        have zp4 := HVp_w3.out.frozen 4
        have cp5 : w3.cell? ⟨w.heap.size, 5, none⟩ = some (.slice A p.kids.length c) := HVp_w3.out.cell 5
        have zp5 := HVp_w3.out.frozen 5
        go_wp2_with fail
        clear cp0 zp0 cp1 zp1 cp2 zp2 cp3 zp3 cp4 zp4 cp5 zp5
        cases hsm : smallP p 20 with
        | true =>
          refine (small_is HO.out HXp_w3.out true hsm).mono ?_
          rintro r w4 ⟨rfl, b_w4⟩
          have HXe_w4 := Lib.hid ((HXe_w3.out.below b_w4 (Nat.le_refl _)).wide (Nat.le_refl _) b_w4.size)
          have HXp_w4 := Lib.hid (Kin.wide (Nat.le_refl _) b_w4.size (HXp_w3.out.kept b_w4 (Nat.le_refl _)))
          have HXq_w4 := Lib.hid ((HXq_w3.out.below b_w4 (Nat.le_refl _)).wide (Nat.le_refl _) b_w4.size)
          have HVp_w4 := Lib.hid (HVp_w3.out.below b_w4 HVp_w3.out.lt)
          have HB_w4 := Lib.hid (below_below HB_w3.out b_w4 S_w3)
          have S_w4 := HB_w4.out.size
          clear b_w4 HB_w3  HXe_w3 HXp_w3 HXq_w3 HVp_w3 
          go_wp2_with fail
          obtain ⟨hc1, hc2, _, _⟩ := rowsP_of hrw
          obtain ⟨n, rfl⟩ : ∃ n : Nat, cols = (n : Int) := ⟨cols.toNat, by omega⟩
          refine (filters_is HXq_w4.out n hrw 0 (by decide) _ rfl).mono ?_
          rintro r w5 ⟨es, A6, c6, gA, gc, hA, hc, rfl, hfl, hfo, hfs, hfk, b_w5⟩
          obtain ⟨e0, HE0⟩ : ∃ e0, Hid (FlOf (colL rs 0) 0 e0 ∧ (es.map toFl)[0]? = some (toFl e0)) := ⟨es[0]'(by rw [List.length_map] at hfl; omega), hfo 0 (by rw [List.length_map] at hfl; omega), by rw [List.getElem?_map, List.getElem?_eq_getElem (by rw [List.length_map] at hfl; omega)]; rfl⟩
          obtain ⟨fs, hfs2⟩ : ∃ fs, es.map toFl = fs := ⟨_, rfl⟩
          rw [hfs2] at hfl hfs hfk HE0 ⊢
          have HXX := Lib.hid hfs
          have HFK := Lib.hid hfk
          have HFL := Lib.hid hfl
          clear hfs hfo hfs2 hfk hfl
          have HXe_w5 := Lib.hid ((HXe_w4.out.below b_w5 (Nat.le_refl _)).wide (Nat.le_refl _) b_w5.size)
          have HXp_w5 := Lib.hid (Kin.wide (Nat.le_refl _) b_w5.size (HXp_w4.out.kept b_w5 (Nat.le_refl _)))
          have HXq_w5 := Lib.hid ((HXq_w4.out.below b_w5 (Nat.le_refl _)).wide (Nat.le_refl _) b_w5.size)
          have HVp_w5 := Lib.hid (HVp_w4.out.below b_w5 HVp_w4.out.lt)
          have HB_w5 := Lib.hid (below_below HB_w4.out b_w5 S_w4)
          have S_w5 := HB_w5.out.size
          clear b_w5 HB_w4  HXe_w4 HXp_w4 HXq_w4 HVp_w4 
          have HXf_w5 := Lib.hid HXX.out
          clear HXX
          go_wp2_with fail
          obtain ⟨w6, hw_w6⟩ : ∃ q, w5.alloc (.cells #[.int .i64 9, .int .i64 0, .string s, .int .i64 0, .int .i64 0, .slice none 0 0] 24) = q := ⟨_, rfl⟩
          rw [hw_w6]
          have b_w6 : Below w5.heap.size w5 w6 := by rw [← hw_w6]; exact (Below.refl _ _).alloc (Nat.le_refl _) _
          have hz_w6 : w6.heap.size = w5.heap.size + 1 := by rw [← hw_w6]; simp
          have HVx : Hid (Blk w6 w5.heap.size 24 #[.int .i64 9, .int .i64 0, .string s, .int .i64 0, .int .i64 0, .slice none 0 0]) := by unfold Hid; rw [← hw_w6]; exact Blk.new _ _ _
          have HXe_w6 := Lib.hid ((HXe_w5.out.below b_w6 (Nat.le_refl _)).wide (Nat.le_refl _) b_w6.size)
          have HXp_w6 := Lib.hid (Kin.wide (Nat.le_refl _) b_w6.size (HXp_w5.out.kept b_w6 (Nat.le_refl _)))
          have HXq_w6 := Lib.hid ((HXq_w5.out.below b_w6 (Nat.le_refl _)).wide (Nat.le_refl _) b_w6.size)
          have HXf_w6 := Lib.hid ((HXf_w5.out.below b_w6 (Nat.le_refl _)).wide (Nat.le_refl _) b_w6.size)
          have HVp_w6 := Lib.hid (HVp_w5.out.below b_w6 HVp_w5.out.lt)
          have HB_w6 := Lib.hid (below_below HB_w5.out b_w6 S_w5)
          have S_w6 := HB_w6.out.size
          clear b_w6 HB_w5  HXe_w5 HXp_w5 HXq_w5 HXf_w5 HVp_w5 
          have HVh_w6 := Lib.hid HVx.out
          clear HVx hw_w6 hz_w6
          go_loopw [11, 12] (fun x11 x12 wr => ∃ (i : Nat) (v : Bool), i + 2 ≤ s.size ∧ x12 = .int .i64 (i : Int) ∧ x11 = .bool v ∧ v = missP rs s i ∧ Below w6.heap.size w6 wr) (fun _ i _ => s.size - (intOf i).toNat)
          case atStart => exact ⟨0, false, by omega, rfl, rfl, rfl, Below.refl _ _⟩
          case round =>
            obtain ⟨i, v, hi, rfl, rfl, hv, hb⟩ := hrel
            have HV := Lib.hid hv
            have HB := Lib.hid hb
            have hsz := hb.size
            clear hv hb
            obtain ⟨wo, hwo⟩ : ∃ wo, wo = wr := ⟨_, rfl⟩
            subst hwo
            by_cases hlt : i + 3 ≤ s.size
            · have ik : (i : Int) + 3 ≤ (s.size : Int) := by omega
              have HMS := Lib.hid (miss_succ rs s i)
              rw [← HV.out] at HMS
              go_wp2_with fail
              go_loopw [13, 14] (fun x13 x14 wq => ∃ (k : Nat) (f : Bool), k ≤ rs.length ∧ x14 = .int .i64 (k : Int) ∧ x13 = .bool f ∧ f = foundP (rs.take k) s i ∧ Below w6.heap.size w6 wq) (fun _ k _ => rs.length - (intOf k).toNat)
              case atStart => exact ⟨0, false, Nat.zero_le _, rfl, rfl, rfl, HB.out⟩
              case round =>
                obtain ⟨k, f, hk, rfl, rfl, hf, hb2⟩ := hrel
                have HF := Lib.hid hf
                have HB2 := Lib.hid hb2
                have hsz2 := hb2.size
                clear hf hb2
                obtain ⟨wp, hwp⟩ : ∃ wp, wp = wr := ⟨_, rfl⟩
                subst hwp
                by_cases hlk : k < rs.length
                · have ikk : (k : Int) < (rs.length : Int) := by omega
                  obtain ⟨bq, oq, rfl, _, hbq, hcq, hrow⟩ := HXq_w6.out.get hlk
                  have HROW := Lib.hid hrow
                  have hri := rowsP_of hrw |>.2.2.2 rs[k] (List.getElem_mem hlk)
                  have HVS : Hid (∀ v ∈ rs[k], v.s.size ≤ 100000) := fun v hv => by have := hri.2 v hv; omega
                  have hrl1 : 1 ≤ rs[k].length := by have := hri.1; omega
                  have HFT := Lib.hid (found_take (rs := rs) (s := s) (i := i) hlk)
                  rw [← HF.out] at HFT
                  obtain ⟨z, hz⟩ : ∃ z, saysP (hasPr (s.extract i (i + 3))) rs[k] = z := ⟨_, rfl⟩
                  rw [hz] at HFT
                  have HZ := Lib.hid hz
                  have hcell0 := (HB2.out.cell (p := ⟨bq, oq + k, none⟩) hbq).trans hcq
                  generalize rs[k] = row at *
                  clear hrow hz hri
                  obtain ⟨bz, hbz⟩ : ∃ bz, (z == 1) = bz := ⟨_, rfl⟩
                  rw [hbz] at HFT
                  cases f with
                  | true =>
                    clear hbz
                    go_wp2_with fail
                    go_quiet (fail)
                    go_wp2_with fail
                    go_roundw
                    case rel => exact ⟨k + 1, true, by omega, by go_num, rfl, HFT.out.symm, by first | exact HB2.out | exact below_drewN' HB2.out _⟩
                    case measure => simp [intOf] <;> omega
                  | false =>
                    have iw3 : IntKind.i64.wrap ((i : Int) + 3) = (i : Int) + 3 := IntWalk.i64_in _ (by omega)
                    have in1 : (0 : Int) ≤ (i : Int) + 3 := by omega
                    have in2 : ((i : Int) + 3).toNat = i + 3 := by omega
                    have in3 : (i : Int) ≤ (i : Int) + 3 := by omega
                    have in4 : (0 : Int) ≤ (i : Int) := by omega
                    have HEX : Hid ((s.extract i (i + 3)).size ≤ 9223372036854775807) := by unfold Hid; rw [ByteArray.size_extract]; omega
                    have hS0 : wp.cell? ⟨bq, oq + k, none⟩ = some (.slice (qA k) row.length (qc k)) := hcell0
                    have KD : Hid (Below w6.heap.size w6 wp.drew) := HB2.out.drew
                    go_wp2_with fail
                    go_region_held3 (fun w' => w'.cell? ⟨bq, oq + k, none⟩ = some (.slice (qA k) row.length (qc k))) (first | assumption | go_keep) (first
                      | (go_at_call 16; refine (refsays_is (p := hasPr (s.extract i (i + 3))) (A := none) (c := 0) (hasPr_ok HEX.out) (kin_nil _ _ _) ((HROW.out.below KD.out (Nat.le_refl _)).wide (Nat.le_refl _) KD.out.size) HVS.out (right_has (by rw [ByteArray.size_extract]; omega) (by omega) (by decide)) z HZ.out).mono ?_; rintro r wu ⟨rfl, hbu⟩; have KU : Hid (Below w6.heap.size w6 wu) := KD.out.trans (hbu.mono KD.out.size); have hSu : wu.cell? ⟨bq, oq + k, none⟩ = some (.slice (qA k) row.length (qc k)) := (KU.out.cell (p := ⟨bq, oq + k, none⟩) hbq).trans hcq; clear hbu))
                    clear hS0 hSu iw3 in2
                    go_wp2_with fail
                    go_roundw
                    case rel => exact ⟨k + 1, _, by omega, by go_num, rfl, HFT.out.symm, KU.out⟩
                    case measure => simp [intOf] <;> omega
                · have ikk : ¬ (k : Int) < (rs.length : Int) := by omega
                  have hfe : f = foundP rs s i := by rw [HF.out, List.take_of_length_le (by omega)]
                  rw [← hfe] at HMS
                  clear hfe HF
                  cases v with
                  | true =>
                    go_wp2_with fail
                    go_roundw
                    case rel => exact ⟨i + 1, _, by omega, by go_num, rfl, HMS.out.symm, HB2.out⟩
                    case measure => simp [intOf] <;> omega
                  | false =>
                    go_wp2_with fail
                    go_roundw
                    case rel => exact ⟨i + 1, _, by omega, by go_num, rfl, HMS.out.symm, HB2.out⟩
                    case measure => simp [intOf] <;> omega
            · have ik : ¬ (i : Int) + 3 ≤ (s.size : Int) := by omega
              have hie : i = s.size - 2 := by omega
              have hvm : v = skipP (hasPr s) fs := by rw [HV.out, hie]; exact (skip_miss hrw HE0.out.1 HE0.out.2 h3).symm
              have HVM := Lib.hid hvm
              clear hvm hie HV
              have b_w7 : Below w6.heap.size w6 wo := HB.out
              clear HB hsz
              have HXe_wo := Lib.hid ((HXe_w6.out.below b_w7 (Nat.le_refl _)).wide (Nat.le_refl _) b_w7.size)
              have HXp_wo := Lib.hid (Kin.wide (Nat.le_refl _) b_w7.size (HXp_w6.out.kept b_w7 (Nat.le_refl _)))
              have HXq_wo := Lib.hid ((HXq_w6.out.below b_w7 (Nat.le_refl _)).wide (Nat.le_refl _) b_w7.size)
              have HXf_wo := Lib.hid ((HXf_w6.out.below b_w7 (Nat.le_refl _)).wide (Nat.le_refl _) b_w7.size)
              have HVp_wo := Lib.hid (HVp_w6.out.below b_w7 HVp_w6.out.lt)
              have HVh_wo := Lib.hid (HVh_w6.out.below b_w7 HVh_w6.out.lt)
              have HB_wo := Lib.hid (below_below HB_w6.out b_w7 S_w6)
              have S_wo := HB_wo.out.size
              clear b_w7 HB_w6  HXe_w6 HXp_w6 HXq_w6 HXf_w6 HVp_w6 HVh_w6 
              have ch0 : wo.cell? ⟨w5.heap.size, 0, none⟩ = some (.int .i64 9) := HVh_wo.out.cell 0
              have zh0 := HVh_wo.out.frozen 0
              have ch1 : wo.cell? ⟨w5.heap.size, 1, none⟩ = some (.int .i64 0) := HVh_wo.out.cell 1
              have zh1 := HVh_wo.out.frozen 1
              have ch2 : wo.cell? ⟨w5.heap.size, 2, none⟩ = some (.string s) := HVh_wo.out.cell 2
              have zh2 := HVh_wo.out.frozen 2
              have ch3 : wo.cell? ⟨w5.heap.size, 3, none⟩ = some (.int .i64 0) := HVh_wo.out.cell 3
              have zh3 := HVh_wo.out.frozen 3
              have ch4 : wo.cell? ⟨w5.heap.size, 4, none⟩ = some (.int .i64 0) := HVh_wo.out.cell 4
              have zh4 := HVh_wo.out.frozen 4
              have ch5 : wo.cell? ⟨w5.heap.size, 5, none⟩ = some (.slice none 0 0) := HVh_wo.out.cell 5
              have zh5 := HVh_wo.out.frozen 5
              go_wp2_with fail
              clear ch0 zh0 ch1 zh1 ch2 zh2 ch3 zh3 ch4 zh4 ch5 zh5
              have HOK : Hid (PrOk (hasPr s)) := hasPr_ok (by omega)
              refine (skip_is (p := hasPr s) (A := none) (c := 0) HOK.out (kin_nil _ _ _) HXf_wo.out HFK.out (right_has (by omega) (by have := HFL.out; omega) (by decide)) v HVM.out.symm).mono ?_
              rintro r w8 ⟨rfl, b_w8⟩
              have HXe_w8 := Lib.hid ((HXe_wo.out.below b_w8 (Nat.le_refl _)).wide (Nat.le_refl _) b_w8.size)
              have HXp_w8 := Lib.hid (Kin.wide (Nat.le_refl _) b_w8.size (HXp_wo.out.kept b_w8 (Nat.le_refl _)))
              have HXq_w8 := Lib.hid ((HXq_wo.out.below b_w8 (Nat.le_refl _)).wide (Nat.le_refl _) b_w8.size)
              have HXf_w8 := Lib.hid ((HXf_wo.out.below b_w8 (Nat.le_refl _)).wide (Nat.le_refl _) b_w8.size)
              have HVp_w8 := Lib.hid (HVp_wo.out.below b_w8 HVp_wo.out.lt)
              have HVh_w8 := Lib.hid (HVh_wo.out.below b_w8 HVh_wo.out.lt)
              have HB_w8 := Lib.hid (below_below HB_wo.out b_w8 S_wo)
              have S_w8 := HB_w8.out.size
              clear b_w8 HB_wo  HXe_wo HXp_wo HXq_wo HXf_wo HVp_wo HVh_wo 
              have bvv : (v != v) = false := by simp
              have ch0 : w8.cell? ⟨w5.heap.size, 0, none⟩ = some (.int .i64 9) := HVh_w8.out.cell 0
              have zh0 := HVh_w8.out.frozen 0
              have ch1 : w8.cell? ⟨w5.heap.size, 1, none⟩ = some (.int .i64 0) := HVh_w8.out.cell 1
              have zh1 := HVh_w8.out.frozen 1
              have ch2 : w8.cell? ⟨w5.heap.size, 2, none⟩ = some (.string s) := HVh_w8.out.cell 2
              have zh2 := HVh_w8.out.frozen 2
              have ch3 : w8.cell? ⟨w5.heap.size, 3, none⟩ = some (.int .i64 0) := HVh_w8.out.cell 3
              have zh3 := HVh_w8.out.frozen 3
              have ch4 : w8.cell? ⟨w5.heap.size, 4, none⟩ = some (.int .i64 0) := HVh_w8.out.cell 4
              have zh4 := HVh_w8.out.frozen 4
              have ch5 : w8.cell? ⟨w5.heap.size, 5, none⟩ = some (.slice none 0 0) := HVh_w8.out.cell 5
              have zh5 := HVh_w8.out.frozen 5
              have cp0 : w8.cell? ⟨w.heap.size, 0, none⟩ = some (.int .i64 p.kind) := HVp_w8.out.cell 0
              have zp0 := HVp_w8.out.frozen 0
              have cp1 : w8.cell? ⟨w.heap.size, 1, none⟩ = some (.int .i64 p.col) := HVp_w8.out.cell 1
              have zp1 := HVp_w8.out.frozen 1
              have cp2 : w8.cell? ⟨w.heap.size, 2, none⟩ = some (.string p.s) := HVp_w8.out.cell 2
              have zp2 := HVp_w8.out.frozen 2
              have cp3 : w8.cell? ⟨w.heap.size, 3, none⟩ = some (.int .i64 p.esc) := HVp_w8.out.cell 3
              have zp3 := HVp_w8.out.frozen 3
              have cp4 : w8.cell? ⟨w.heap.size, 4, none⟩ = some (.int .i64 p.coll) := HVp_w8.out.cell 4
              have zp4 := HVp_w8.out.frozen 4
              have cp5 : w8.cell? ⟨w.heap.size, 5, none⟩ = some (.slice A p.kids.length c) := HVp_w8.out.cell 5
              have zp5 := HVp_w8.out.frozen 5
              go_wp2_with fail
              clear ch0 zh0 ch1 zh1 ch2 zh2 ch3 zh3 ch4 zh4 ch5 zh5 cp0 zp0 cp1 zp1 cp2 zp2 cp3 zp3 cp4 zp4 cp5 zp5
              obtain ⟨w9, hw_w9⟩ : ∃ q, w8.alloc (.cells #[.int .i64 p.kind, .int .i64 p.col, .string p.s, .int .i64 p.esc, .int .i64 p.coll, .slice A p.kids.length c, .int .i64 9, .int .i64 0, .string s, .int .i64 0, .int .i64 0, .slice none 0 0] 24) = q := ⟨_, rfl⟩
              rw [hw_w9]
              have b_w9 : Below w8.heap.size w8 w9 := by rw [← hw_w9]; exact (Below.refl _ _).alloc (Nat.le_refl _) _
              have hz_w9 : w9.heap.size = w8.heap.size + 1 := by rw [← hw_w9]; simp
              have hk2 : Kin w9 0 w9.heap.size [p, hasPr s] (some ⟨w8.heap.size, 0, none⟩) 2 := by rw [← hw_w9]; exact kin_two HO.out HOK.out HXp_w8.out (kin_nil _ _ _) rfl
              have HKX := Lib.hid hk2
              clear hk2
              have HXe_w9 := Lib.hid ((HXe_w8.out.below b_w9 (Nat.le_refl _)).wide (Nat.le_refl _) b_w9.size)
              have HXp_w9 := Lib.hid (Kin.wide (Nat.le_refl _) b_w9.size (HXp_w8.out.kept b_w9 (Nat.le_refl _)))
              have HXq_w9 := Lib.hid ((HXq_w8.out.below b_w9 (Nat.le_refl _)).wide (Nat.le_refl _) b_w9.size)
              have HXf_w9 := Lib.hid ((HXf_w8.out.below b_w9 (Nat.le_refl _)).wide (Nat.le_refl _) b_w9.size)
              have HB_w9 := Lib.hid (below_below HB_w8.out b_w9 S_w8)
              have S_w9 := HB_w9.out.size
              clear b_w9 HB_w8  HXe_w8 HXp_w8 HXq_w8 HXf_w8 
              have HXk_w9 := Lib.hid HKX.out
              clear HKX hw_w9
              obtain ⟨wa, hw_wa⟩ : ∃ q, w9.alloc (.cells #[.int .i64 12, .int .i64 0, .string ⟨#[]⟩, .int .i64 0, .int .i64 0, .slice (some ⟨w8.heap.size, 0, none⟩) 2 2] 24) = q := ⟨_, rfl⟩
              rw [hw_wa]
              have b_wa : Below w9.heap.size w9 wa := by rw [← hw_wa]; exact (Below.refl _ _).alloc (Nat.le_refl _) _
              have hz_wa : wa.heap.size = w9.heap.size + 1 := by rw [← hw_wa]; simp
              have HVx : Hid (Blk wa (w8.heap.size + 1) 24 #[.int .i64 12, .int .i64 0, .string ⟨#[]⟩, .int .i64 0, .int .i64 0, .slice (some ⟨w8.heap.size, 0, none⟩) 2 2]) := by unfold Hid; rw [← hw_wa, ← hz_w9]; exact Blk.new _ _ _
              have HXe_wa := Lib.hid ((HXe_w9.out.below b_wa (Nat.le_refl _)).wide (Nat.le_refl _) b_wa.size)
              have HXp_wa := Lib.hid (Kin.wide (Nat.le_refl _) b_wa.size (HXp_w9.out.kept b_wa (Nat.le_refl _)))
              have HXq_wa := Lib.hid ((HXq_w9.out.below b_wa (Nat.le_refl _)).wide (Nat.le_refl _) b_wa.size)
              have HXf_wa := Lib.hid ((HXf_w9.out.below b_wa (Nat.le_refl _)).wide (Nat.le_refl _) b_wa.size)
              have HXk_wa := Lib.hid (Kin.wide (Nat.le_refl _) b_wa.size (HXk_w9.out.kept b_wa (Nat.le_refl _)))
              have HB_wa := Lib.hid (below_below HB_w9.out b_wa S_w9)
              have S_wa := HB_wa.out.size
              clear b_wa HB_w9  HXe_w9 HXp_w9 HXq_w9 HXf_w9 HXk_w9 
              have HVb_wa := Lib.hid HVx.out
              clear HVx hw_wa hz_wa hz_w9
              have HOB : Hid (PrOk (.mk 12 0 ⟨#[]⟩ 0 0 [p, hasPr s])) := headP_ok ⟨by decide, by decide⟩
              cases hrb : rightP (.mk 12 0 ⟨#[]⟩ 0 0 [p, hasPr s]) (n : Int) 12 with
              | false =>
                refine (right_is (p := .mk 12 0 ⟨#[]⟩ 0 0 [p, hasPr s]) (A := some ⟨w8.heap.size, 0, none⟩) (c := 2) HOB.out HXk_wa.out (n : Int) false hrb).mono ?_
                rintro r wb ⟨rfl, b_wb⟩
                have HXe_wb := Lib.hid ((HXe_wa.out.below b_wb (Nat.le_refl _)).wide (Nat.le_refl _) b_wb.size)
                have HXp_wb := Lib.hid (Kin.wide (Nat.le_refl _) b_wb.size (HXp_wa.out.kept b_wb (Nat.le_refl _)))
                have HXq_wb := Lib.hid ((HXq_wa.out.below b_wb (Nat.le_refl _)).wide (Nat.le_refl _) b_wb.size)
                have HXf_wb := Lib.hid ((HXf_wa.out.below b_wb (Nat.le_refl _)).wide (Nat.le_refl _) b_wb.size)
                have HXk_wb := Lib.hid (Kin.wide (Nat.le_refl _) b_wb.size (HXk_wa.out.kept b_wb (Nat.le_refl _)))
                have HVb_wb := Lib.hid (HVb_wa.out.below b_wb HVb_wa.out.lt)
                have HB_wb := Lib.hid (below_below HB_wa.out b_wb S_wa)
                have S_wb := HB_wb.out.size
                clear b_wb HB_wa  HXe_wa HXp_wa HXq_wa HXf_wa HXk_wa HVb_wa 
                go_wp2_with fail
                go_ret
                exact ⟨rfl, HB_wb.out⟩
              | true =>
                refine (right_is (p := .mk 12 0 ⟨#[]⟩ 0 0 [p, hasPr s]) (A := some ⟨w8.heap.size, 0, none⟩) (c := 2) HOB.out HXk_wa.out (n : Int) true hrb).mono ?_
                rintro r wb ⟨rfl, b_wb⟩
                have HXe_wb := Lib.hid ((HXe_wa.out.below b_wb (Nat.le_refl _)).wide (Nat.le_refl _) b_wb.size)
                have HXp_wb := Lib.hid (Kin.wide (Nat.le_refl _) b_wb.size (HXp_wa.out.kept b_wb (Nat.le_refl _)))
                have HXq_wb := Lib.hid ((HXq_wa.out.below b_wb (Nat.le_refl _)).wide (Nat.le_refl _) b_wb.size)
                have HXf_wb := Lib.hid ((HXf_wa.out.below b_wb (Nat.le_refl _)).wide (Nat.le_refl _) b_wb.size)
                have HXk_wb := Lib.hid (Kin.wide (Nat.le_refl _) b_wb.size (HXk_wa.out.kept b_wb (Nat.le_refl _)))
                have HVb_wb := Lib.hid (HVb_wa.out.below b_wb HVb_wa.out.lt)
                have HB_wb := Lib.hid (below_below HB_wa.out b_wb S_wa)
                have S_wb := HB_wb.out.size
                clear b_wb HB_wa  HXe_wa HXp_wa HXq_wa HXf_wa HXk_wa HVb_wa 
                cases v with
                | false =>
                  go_wp2_with fail
                  go_ret
                  exact ⟨rfl, HB_wb.out⟩
                | true =>
                  have cb0 : wb.cell? ⟨w8.heap.size + 1, 0, none⟩ = some (.int .i64 12) := HVb_wb.out.cell 0
                  have zb0 := HVb_wb.out.frozen 0
                  have cb1 : wb.cell? ⟨w8.heap.size + 1, 1, none⟩ = some (.int .i64 0) := HVb_wb.out.cell 1
                  have zb1 := HVb_wb.out.frozen 1
                  have cb2 : wb.cell? ⟨w8.heap.size + 1, 2, none⟩ = some (.string ⟨#[]⟩) := HVb_wb.out.cell 2
                  have zb2 := HVb_wb.out.frozen 2
                  have cb3 : wb.cell? ⟨w8.heap.size + 1, 3, none⟩ = some (.int .i64 0) := HVb_wb.out.cell 3
                  have zb3 := HVb_wb.out.frozen 3
                  have cb4 : wb.cell? ⟨w8.heap.size + 1, 4, none⟩ = some (.int .i64 0) := HVb_wb.out.cell 4
                  have zb4 := HVb_wb.out.frozen 4
                  have cb5 : wb.cell? ⟨w8.heap.size + 1, 5, none⟩ = some (.slice (some ⟨w8.heap.size, 0, none⟩) 2 2) := HVb_wb.out.cell 5
                  have zb5 := HVb_wb.out.frozen 5
                  go_wp2_with fail
                  clear cb0 zb0 cb1 zb1 cb2 zb2 cb3 zb3 cb4 zb4 cb5 zb5
                  refine (skip_is (p := .mk 12 0 ⟨#[]⟩ 0 0 [p, hasPr s]) (A := some ⟨w8.heap.size, 0, none⟩) (c := 2) HOB.out HXk_wb.out HXf_wb.out HFK.out (by rw [HFL.out]; exact hrb) true (skip_and HVM.out.symm)).mono ?_
                  rintro r wc ⟨rfl, b_wc⟩
                  have HXe_wc := Lib.hid ((HXe_wb.out.below b_wc (Nat.le_refl _)).wide (Nat.le_refl _) b_wc.size)
                  have HXp_wc := Lib.hid (Kin.wide (Nat.le_refl _) b_wc.size (HXp_wb.out.kept b_wc (Nat.le_refl _)))
                  have HXq_wc := Lib.hid ((HXq_wb.out.below b_wc (Nat.le_refl _)).wide (Nat.le_refl _) b_wc.size)
                  have HXf_wc := Lib.hid ((HXf_wb.out.below b_wc (Nat.le_refl _)).wide (Nat.le_refl _) b_wc.size)
                  have HXk_wc := Lib.hid (Kin.wide (Nat.le_refl _) b_wc.size (HXk_wb.out.kept b_wc (Nat.le_refl _)))
                  have HVb_wc := Lib.hid (HVb_wb.out.below b_wc HVb_wb.out.lt)
                  have HB_wc := Lib.hid (below_below HB_wb.out b_wc S_wb)
                  have S_wc := HB_wc.out.size
                  clear b_wc HB_wb  HXe_wb HXp_wb HXq_wb HXf_wb HXk_wb HVb_wb 
                  go_wp2_with fail
                  go_ret
                  exact ⟨rfl, HB_wc.out⟩
        | false =>
          refine (small_is HO.out HXp_w3.out false hsm).mono ?_
          rintro r w4 ⟨rfl, b_w4⟩
          have HXe_w4 := Lib.hid ((HXe_w3.out.below b_w4 (Nat.le_refl _)).wide (Nat.le_refl _) b_w4.size)
          have HXp_w4 := Lib.hid (Kin.wide (Nat.le_refl _) b_w4.size (HXp_w3.out.kept b_w4 (Nat.le_refl _)))
          have HXq_w4 := Lib.hid ((HXq_w3.out.below b_w4 (Nat.le_refl _)).wide (Nat.le_refl _) b_w4.size)
          have HVp_w4 := Lib.hid (HVp_w3.out.below b_w4 HVp_w3.out.lt)
          have HB_w4 := Lib.hid (below_below HB_w3.out b_w4 S_w3)
          have S_w4 := HB_w4.out.size
          clear b_w4 HB_w3  HXe_w3 HXp_w3 HXq_w3 HVp_w3 
          go_wp2_with fail
          refine (awake16_any HXe_w4.out.env).mono ?_
          rintro r wx ⟨rfl, b_wx⟩
          have HXe_wx := Lib.hid ((HXe_w4.out.below b_wx (Nat.le_refl _)).wide (Nat.le_refl _) b_wx.size)
          have HXp_wx := Lib.hid (Kin.wide (Nat.le_refl _) b_wx.size (HXp_w4.out.kept b_wx (Nat.le_refl _)))
          have HXq_wx := Lib.hid ((HXq_w4.out.below b_wx (Nat.le_refl _)).wide (Nat.le_refl _) b_wx.size)
          have HVp_wx := Lib.hid (HVp_w4.out.below b_wx HVp_w4.out.lt)
          have HB_wx := Lib.hid (below_below HB_w4.out b_wx S_w4)
          have S_wx := HB_wx.out.size
          clear b_wx HB_w4  HXe_w4 HXp_w4 HXq_w4 HVp_w4 
          go_wp2_with fail
          go_ret
          exact ⟨rfl, HB_wx.out⟩
      | false =>
        refine (rows_is HXq_w2.out cols _ rfl false hrw).mono ?_
        rintro r w3 ⟨rfl, b_w3⟩
        have HXe_w3 := Lib.hid ((HXe_w2.out.below b_w3 (Nat.le_refl _)).wide (Nat.le_refl _) b_w3.size)
        have HXp_w3 := Lib.hid (Kin.wide (Nat.le_refl _) b_w3.size (HXp_w2.out.kept b_w3 (Nat.le_refl _)))
        have HXq_w3 := Lib.hid ((HXq_w2.out.below b_w3 (Nat.le_refl _)).wide (Nat.le_refl _) b_w3.size)
        have HVp_w3 := Lib.hid (HVp_w2.out.below b_w3 HVp_w2.out.lt)
        have HB_w3 := Lib.hid (below_below HB_w2.out b_w3 S_w2)
        have S_w3 := HB_w3.out.size
        clear b_w3 HB_w2  HXe_w2 HXp_w2 HXq_w2 HVp_w2 
        go_wp2_with fail
        refine (awake16_any HXe_w3.out.env).mono ?_
        rintro r wx ⟨rfl, b_wx⟩
        have HXe_wx := Lib.hid ((HXe_w3.out.below b_wx (Nat.le_refl _)).wide (Nat.le_refl _) b_wx.size)
        have HXp_wx := Lib.hid (Kin.wide (Nat.le_refl _) b_wx.size (HXp_w3.out.kept b_wx (Nat.le_refl _)))
        have HXq_wx := Lib.hid ((HXq_w3.out.below b_wx (Nat.le_refl _)).wide (Nat.le_refl _) b_wx.size)
        have HVp_wx := Lib.hid (HVp_w3.out.below b_wx HVp_w3.out.lt)
        have HB_wx := Lib.hid (below_below HB_w3.out b_wx S_w3)
        have S_wx := HB_wx.out.size
        clear b_wx HB_w3  HXe_w3 HXp_w3 HXq_w3 HVp_w3 
        go_wp2_with fail
        go_ret
        exact ⟨rfl, HB_wx.out⟩
    · have e60 : decide ((60 : Int) < (s.size : Int)) = true := decide_eq_true (by omega)
      have e60b : (60 : Int) < (s.size : Int) := by omega
      go_enter Tryd.func7, Tryd.ntmps7
      go_wp2_with fail
      clear hw_w1
      refine (awake16_any HXe_w1.out.env).mono ?_
      rintro r w2 ⟨rfl, b_w2⟩
      have HXe_w2 := Lib.hid ((HXe_w1.out.below b_w2 (Nat.le_refl _)).wide (Nat.le_refl _) b_w2.size)
      have HXp_w2 := Lib.hid (Kin.wide (Nat.le_refl _) b_w2.size (HXp_w1.out.kept b_w2 (Nat.le_refl _)))
      have HXq_w2 := Lib.hid ((HXq_w1.out.below b_w2 (Nat.le_refl _)).wide (Nat.le_refl _) b_w2.size)
      have HVp_w2 := Lib.hid (HVp_w1.out.below b_w2 HVp_w1.out.lt)
      have HB_w2 := Lib.hid (below_below HB_w1.out b_w2 S_w1)
      have S_w2 := HB_w2.out.size
      clear b_w2 HB_w1  HXe_w1 HXp_w1 HXq_w1 HVp_w1 
      go_wp2_with fail
      cases hrw : rowsP rs cols with
      | true =>
        refine (rows_is HXq_w2.out cols _ rfl true hrw).mono ?_
        rintro r w3 ⟨rfl, b_w3⟩
        have HXe_w3 := Lib.hid ((HXe_w2.out.below b_w3 (Nat.le_refl _)).wide (Nat.le_refl _) b_w3.size)
        have HXp_w3 := Lib.hid (Kin.wide (Nat.le_refl _) b_w3.size (HXp_w2.out.kept b_w3 (Nat.le_refl _)))
        have HXq_w3 := Lib.hid ((HXq_w2.out.below b_w3 (Nat.le_refl _)).wide (Nat.le_refl _) b_w3.size)
        have HVp_w3 := Lib.hid (HVp_w2.out.below b_w3 HVp_w2.out.lt)
        have HB_w3 := Lib.hid (below_below HB_w2.out b_w3 S_w2)
        have S_w3 := HB_w3.out.size
        clear b_w3 HB_w2  HXe_w2 HXp_w2 HXq_w2 HVp_w2 
        go_wp2_with fail
        refine (awake16_any HXe_w3.out.env).mono ?_
        rintro r w4 ⟨rfl, b_w4⟩
        have HXe_w4 := Lib.hid ((HXe_w3.out.below b_w4 (Nat.le_refl _)).wide (Nat.le_refl _) b_w4.size)
        have HXp_w4 := Lib.hid (Kin.wide (Nat.le_refl _) b_w4.size (HXp_w3.out.kept b_w4 (Nat.le_refl _)))
        have HXq_w4 := Lib.hid ((HXq_w3.out.below b_w4 (Nat.le_refl _)).wide (Nat.le_refl _) b_w4.size)
        have HVp_w4 := Lib.hid (HVp_w3.out.below b_w4 HVp_w3.out.lt)
        have HB_w4 := Lib.hid (below_below HB_w3.out b_w4 S_w3)
        have S_w4 := HB_w4.out.size
        clear b_w4 HB_w3  HXe_w3 HXp_w3 HXq_w3 HVp_w3 
        go_wp2_with fail
        go_ret
        exact ⟨rfl, HB_w4.out⟩
      | false =>
        refine (rows_is HXq_w2.out cols _ rfl false hrw).mono ?_
        rintro r w3 ⟨rfl, b_w3⟩
        have HXe_w3 := Lib.hid ((HXe_w2.out.below b_w3 (Nat.le_refl _)).wide (Nat.le_refl _) b_w3.size)
        have HXp_w3 := Lib.hid (Kin.wide (Nat.le_refl _) b_w3.size (HXp_w2.out.kept b_w3 (Nat.le_refl _)))
        have HXq_w3 := Lib.hid ((HXq_w2.out.below b_w3 (Nat.le_refl _)).wide (Nat.le_refl _) b_w3.size)
        have HVp_w3 := Lib.hid (HVp_w2.out.below b_w3 HVp_w2.out.lt)
        have HB_w3 := Lib.hid (below_below HB_w2.out b_w3 S_w2)
        have S_w3 := HB_w3.out.size
        clear b_w3 HB_w2  HXe_w2 HXp_w2 HXq_w2 HVp_w2 
        go_wp2_with fail
        refine (awake16_any HXe_w3.out.env).mono ?_
        rintro r wx ⟨rfl, b_wx⟩
        have HXe_wx := Lib.hid ((HXe_w3.out.below b_wx (Nat.le_refl _)).wide (Nat.le_refl _) b_wx.size)
        have HXp_wx := Lib.hid (Kin.wide (Nat.le_refl _) b_wx.size (HXp_w3.out.kept b_wx (Nat.le_refl _)))
        have HXq_wx := Lib.hid ((HXq_w3.out.below b_wx (Nat.le_refl _)).wide (Nat.le_refl _) b_wx.size)
        have HVp_wx := Lib.hid (HVp_w3.out.below b_wx HVp_w3.out.lt)
        have HB_wx := Lib.hid (below_below HB_w3.out b_wx S_w3)
        have S_wx := HB_wx.out.size
        clear b_wx HB_w3  HXe_w3 HXp_w3 HXq_w3 HVp_w3 
        go_wp2_with fail
        go_ret
        exact ⟨rfl, HB_wx.out⟩
  · have e3 : decide ((s.size : Int) < 3) = true := decide_eq_true (by omega)
    have e3b : (s.size : Int) < 3 := by omega
    go_enter Tryd.func7, Tryd.ntmps7
    go_wp2_with fail
    clear hw_w1
    refine (awake16_any HXe_w1.out.env).mono ?_
    rintro r w2 ⟨rfl, b_w2⟩
    have HXe_w2 := Lib.hid ((HXe_w1.out.below b_w2 (Nat.le_refl _)).wide (Nat.le_refl _) b_w2.size)
    have HXp_w2 := Lib.hid (Kin.wide (Nat.le_refl _) b_w2.size (HXp_w1.out.kept b_w2 (Nat.le_refl _)))
    have HXq_w2 := Lib.hid ((HXq_w1.out.below b_w2 (Nat.le_refl _)).wide (Nat.le_refl _) b_w2.size)
    have HVp_w2 := Lib.hid (HVp_w1.out.below b_w2 HVp_w1.out.lt)
    have HB_w2 := Lib.hid (below_below HB_w1.out b_w2 S_w1)
    have S_w2 := HB_w2.out.size
    clear b_w2 HB_w1  HXe_w1 HXp_w1 HXq_w1 HVp_w1 
    go_wp2_with fail
    cases hrw : rowsP rs cols with
    | true =>
      refine (rows_is HXq_w2.out cols _ rfl true hrw).mono ?_
      rintro r w3 ⟨rfl, b_w3⟩
      have HXe_w3 := Lib.hid ((HXe_w2.out.below b_w3 (Nat.le_refl _)).wide (Nat.le_refl _) b_w3.size)
      have HXp_w3 := Lib.hid (Kin.wide (Nat.le_refl _) b_w3.size (HXp_w2.out.kept b_w3 (Nat.le_refl _)))
      have HXq_w3 := Lib.hid ((HXq_w2.out.below b_w3 (Nat.le_refl _)).wide (Nat.le_refl _) b_w3.size)
      have HVp_w3 := Lib.hid (HVp_w2.out.below b_w3 HVp_w2.out.lt)
      have HB_w3 := Lib.hid (below_below HB_w2.out b_w3 S_w2)
      have S_w3 := HB_w3.out.size
      clear b_w3 HB_w2  HXe_w2 HXp_w2 HXq_w2 HVp_w2 
      go_wp2_with fail
      refine (awake16_any HXe_w3.out.env).mono ?_
      rintro r w4 ⟨rfl, b_w4⟩
      have HXe_w4 := Lib.hid ((HXe_w3.out.below b_w4 (Nat.le_refl _)).wide (Nat.le_refl _) b_w4.size)
      have HXp_w4 := Lib.hid (Kin.wide (Nat.le_refl _) b_w4.size (HXp_w3.out.kept b_w4 (Nat.le_refl _)))
      have HXq_w4 := Lib.hid ((HXq_w3.out.below b_w4 (Nat.le_refl _)).wide (Nat.le_refl _) b_w4.size)
      have HVp_w4 := Lib.hid (HVp_w3.out.below b_w4 HVp_w3.out.lt)
      have HB_w4 := Lib.hid (below_below HB_w3.out b_w4 S_w3)
      have S_w4 := HB_w4.out.size
      clear b_w4 HB_w3  HXe_w3 HXp_w3 HXq_w3 HVp_w3 
      go_wp2_with fail
      go_ret
      exact ⟨rfl, HB_w4.out⟩
    | false =>
      refine (rows_is HXq_w2.out cols _ rfl false hrw).mono ?_
      rintro r w3 ⟨rfl, b_w3⟩
      have HXe_w3 := Lib.hid ((HXe_w2.out.below b_w3 (Nat.le_refl _)).wide (Nat.le_refl _) b_w3.size)
      have HXp_w3 := Lib.hid (Kin.wide (Nat.le_refl _) b_w3.size (HXp_w2.out.kept b_w3 (Nat.le_refl _)))
      have HXq_w3 := Lib.hid ((HXq_w2.out.below b_w3 (Nat.le_refl _)).wide (Nat.le_refl _) b_w3.size)
      have HVp_w3 := Lib.hid (HVp_w2.out.below b_w3 HVp_w2.out.lt)
      have HB_w3 := Lib.hid (below_below HB_w2.out b_w3 S_w2)
      have S_w3 := HB_w3.out.size
      clear b_w3 HB_w2  HXe_w2 HXp_w2 HXq_w2 HVp_w2 
      go_wp2_with fail
      refine (awake16_any HXe_w3.out.env).mono ?_
      rintro r wx ⟨rfl, b_wx⟩
      have HXe_wx := Lib.hid ((HXe_w3.out.below b_wx (Nat.le_refl _)).wide (Nat.le_refl _) b_wx.size)
      have HXp_wx := Lib.hid (Kin.wide (Nat.le_refl _) b_wx.size (HXp_w3.out.kept b_wx (Nat.le_refl _)))
      have HXq_wx := Lib.hid ((HXq_w3.out.below b_wx (Nat.le_refl _)).wide (Nat.le_refl _) b_wx.size)
      have HVp_wx := Lib.hid (HVp_w3.out.below b_wx HVp_w3.out.lt)
      have HB_wx := Lib.hid (below_below HB_w3.out b_wx S_w3)
      have S_wx := HB_wx.out.size
      clear b_wx HB_w3  HXe_w3 HXp_w3 HXq_w3 HVp_w3 
      go_wp2_with fail
      go_ret
      exact ⟨rfl, HB_wx.out⟩

set_option maxRecDepth 100000 in
theorem needExact_lifted (os : Os) (started : os.Started) (H : Type) (enc : TypeId × Value → H) :
    ReturnsInHanded {} Tryd.checked os 7 .any (fun w args => (Rows.needExactSpec.pre enc Tryd.prog Tryd.f7 [] false w args ∧ laidMetH Tryd.prog Rows.needExactRow.laid w) ∧ sizedMet enc Tryd.prog Tryd.f7 (OpenSpec.ofChange Rows.needExactSpec) false w args)
      (Rows.needExactSpec.post enc Tryd.prog Tryd.f7 false true false false) := by
  refine handed_and_shaped (C := Tryd.checked) (X := fun w _ => laidMetH Tryd.prog Rows.needExactRow.laid w) (fun _ _ _ hh h => h.of_heap hh) own started (by kernel_rfl) Tryd.func7
    (ChangeSpec.witness_shaped (enc := enc) (C := Tryd.checked) (os := os) (X := fun w _ => laidMetH Tryd.prog Rows.needExactRow.laid w) false (World.laidAll Tryd.prog os Rows.needExactRow.laid) #[.string ByteArray.empty, .slice none 0 0, .int .i64 0, .agg #[.int .i64 0, .int .i64 0, .string ByteArray.empty, .int .i64 0, .int .i64 0, .slice none 0 0]] 8 (World.laidAll_os _ _ _)
      (World.shaped_of_ZipB (by kernel_rfl) (by kernel_rfl)) (by kernel_rfl) (by kernel_rfl) (by kernel_rfl)
      (by rw [MakeChecks.laidMetH_plain _ _ _ (by kernel_rfl)]; exact laidMet_laidAll _ (by kernel_rfl) (by kernel_rfl))) ?_
  intro W base args ds gs before hval0 hW hL hsh
  have hval : ∀ (j : Nat) t v, Tryd.f7.params[j]? = some t → args[j]? = some v → Value.okWide Tryd.prog W .any base t v := hval0
  have hW' := hW
  obtain ⟨p, q, hA0, hV, rfl, _, _⟩ := hW
  have hA : DataW.TrodAll enc Tryd.prog W 0 (fun _ => true) true Tryd.f7.params.toList args.toList ds p := hA0
  have hA1 : DataW.TrodAll enc Tryd.prog W 0 (fun _ => true) true Tryd.f7.params.toList args.toList ds p := hA0
  rw [Tryd.params7] at hA hval
  obtain ⟨v0, vs0, d0, ds0, p0, q0, hargs, rfl, rfl, h0, r0⟩ := trodAll_cons hA
  obtain ⟨v1, vs1, d1, ds1, p1, q1, rfl, rfl, rfl, h1, r1⟩ := trodAll_cons r0
  obtain ⟨v2, vs2, d2, ds2, p2, q2, rfl, rfl, rfl, h2, r2⟩ := trodAll_cons r1
  obtain ⟨v3, vs3, d3, ds3, p3, q3, rfl, rfl, rfl, h3, r3⟩ := trodAll_cons r2
  obtain ⟨rfl, rfl, rfl⟩ := trodAll_nil r3
  obtain rfl : args = #[v0, v1, v2, v3] := by cases args; simp_all
  obtain ⟨rfl, rfl⟩ := trodVars_none hV
  obtain ⟨a0, rfl, rfl, rfl, w0⟩ := open_string Tryd.underlying9 (hval 0 9 v0 rfl rfl) h0
  obtain ⟨A1, a1, c1, rfl, w1⟩ := open_rows (hval 1 30 v1 rfl rfl) h1
  obtain ⟨a2, rfl, rfl, rfl, w2⟩ := open_int Tryd.underlying3 (hval 2 3 v2 rfl rfl) h2
  obtain ⟨A3, a3, c3, rfl, w3⟩ := open_pred (hval 3 24 v3 rfl rfl) h3
  rw [MakeChecks.laidMetH_plain _ _ _ (by kernel_rfl)] at hL
  have hT : Env W := env_of hL hsh
  clear hA0 hval0
  refine (needExact_walk (w := W) a0 w0 w1 a2 w2 w3 hT).mono fun e W' ⟨he, bel⟩ => ?_
  subst he
  exact ⟨_, rfl, _, _, _, [], _, [], hW', trodAll_mk1 (shut_bool Tryd.underlying4 _), trodAll_below laidOut bel _ _ _ _ (by kernel_rfl) hA1, rfl, bel.frame _, fun h => by cases h⟩

theorem needExact_over : Rows.needExactRow.holds Tryd.pinned (OpenSpec.ofChange Rows.needExactSpec) :=
  OpenClaim.holds_of_wide 7 Tryd.f7 rfl rfl rfl rfl rfl rfl rfl ⟨rfl, rfl, rfl, rfl, rfl⟩ rfl rfl rfl rfl rfl (by kernel_rfl) Tryd.func7 (by kernel_rfl)
    (of_decide_eq_true (by kernel_rfl)) (by unfold Func.isWrapper; first | (rw [if_pos (by decide +kernel)]; kernel_rfl) | (rw [if_neg (by decide +kernel)]; exact ⟨rfl, rfl⟩))
    (fun os started H enc _ => needExact_lifted os started H enc)

/-- The statement: the card. -/
theorem needExact_proved : Rows.NeedExactCardSaid :=
  Claim7.holds_tied_plain_at .later [] [.data, .pinned] true Rows.needExactCard.stood.harness false needExact_over (fun _ h => by cases h) (by kernel_rfl) (fun _ h => by cases h) needExact_row_tie rfl ⟨rfl, rfl⟩ (by kernel_rfl) rfl
    (fun f fn hf hfn => by
      obtain rfl : f = 7 := Option.some.inj ((show Tryd.prog.funcNamed Rows.needExactRow.func = some 7 by kernel_rfl).symm.trans hf) |>.symm
      obtain rfl : fn = Tryd.f7 := (Option.some.inj (Tryd.func7.symm.trans hfn)).symm
      exact ⟨by kernel_rfl, fun j t ht => by
        rw [Tryd.params7] at ht
        have hm : t ∈ [9, 30, 3, 24] := by simpa using Array.mem_of_getElem? ht
        have hall : ([9, 30, 3, 24].all fun u => !Tryd.prog.wantsStandIn u) = true := by kernel_rfl
        exact (show Tryd.prog.wantsStandIn t = false by simpa using List.all_eq_true.1 hall t hm)⟩)
    (by kernel_rfl)


end Go.Proofs.YtjffbjlniieciaaDoor
