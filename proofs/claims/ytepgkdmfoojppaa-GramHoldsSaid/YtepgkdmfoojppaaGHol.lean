/-
  Proved: GramHolds of layer 15: a filter has each part of each of its strings; an exact one has just the grams that stand in one of them; what came in reads as it did. Conditions: none of our own.
-/
import Derived.Test.YtepgkdmfoojppaaGqW
import Derived.Test.YtepgkdmfoojppaaMgS
import Derived.Test.YtepgkdmfoojppaaShc
import Derived.HandedShaped
namespace Go.Proofs.Ytepgkdmfoojppaa
set_option linter.unusedSimpArgs false
set_option linter.unusedVariables false
open Go.ChangeShapes Go.WideShapes Go.ChangeAt Go.RowKit
open Go.ChangeMaps (open_string shut_string)

set_option maxRecDepth 20000 in
set_option maxHeartbeats 4000000 in
theorem gramHolds_walk {w : World} {A : Option Addr} {l : List ByteArray} {c : Nat} (h : Rd w 0 w.heap.size A c (sv l) ∧ (∀ s ∈ l, s.size ≤ 140737488351232) ∧ l.length ≤ 8796093021952) (u : Nat) (hu : u < 65536) (s : ByteArray) (hs : s.size ≤ 140737488351232) (hML : ∃ m, MaxLenIs m w) :
    Calls Try.prog 5 #[.slice A l.length c, .int .u16 (u : Int), .string s] w fun e w' => e = .returned (.bool true) ∧ Below w.heap.size w w' := by
  obtain ⟨h, hz, -⟩ := h
  have Hl_w := Lib.hid h
  have HZ := Lib.hid hz
  have hl := h.len
  have hm := h.cap
  rw [sv_length] at hl
  unfold maxLen at hm
  clear h hz
  obtain ⟨ml, hml⟩ := hML
  have HML_w := Lib.hid hml
  clear hml
  by_cases hf : FewG l
  · obtain ⟨hl150, hs1, hal⟩ := few_facts hf
    have HFW : Hid (decide (FewG l) = true) := decide_eq_true hf
    have HS1 := Lib.hid hs1
    have HAL := Lib.hid hal
    clear hf hs1 hal
    by_cases hs5 : s.size ≤ 500
    · have i10 : ¬ (500 : Int) < (s.size : Int) := by omega
      have d10 : decide ((500 : Int) < (s.size : Int)) = false := decide_eq_false i10
      go_enter Try.func5, Try.ntmps5
      go_wp2_with fail
      refine (awake15_any (w := _)).mono ?_
      rintro r w1 ⟨rfl, b_w1⟩
      have HML_w1 := Lib.hid (HML_w.out.on b_w1)
      have Hl_w1 := Lib.hid ((Hl_w.out.below b_w1 (Nat.le_refl _)).wide (Nat.zero_le _) b_w1.size)
      have HB_w1 := Lib.hid b_w1
      have S_w1 := HB_w1.out.size
      clear b_w1 Hl_w  HML_w 
      go_wp2_with fail
      refine (fewg_is l true Hl_w1.out HFW.out HZ.out).mono ?_
      rintro r wq ⟨rfl, m_w2, rfl⟩
      have HML_w2 : Hid (MaxLenIs ml (w1.drewN m_w2)) := HML_w1.out.on (below_drewN' (Below.refl _ _) m_w2)
      obtain ⟨w2, hw_w2⟩ : ∃ q, w1.drewN m_w2 = q := ⟨_, rfl⟩
      have Hl_w2 : Hid (Rd w2 0 w2.heap.size A c (sv l)) := by unfold Hid; rw [← hw_w2]; exact Hl_w1.out.drewN m_w2
      have HB_w2 : Hid (Below w.heap.size w w2) := by unfold Hid; rw [← hw_w2]; exact below_drewN' HB_w1.out m_w2
      have S_w2 := HB_w2.out.size
      rw [hw_w2] at HML_w2
      rw [hw_w2]
      clear hw_w2 Hl_w1 HB_w1
      clear HML_w1
      go_wp2_with fail
      refine (gmake_fil l Hl_w2.out HS1.out (by omega) HAL.out u (by omega) (u : Int) rfl).mono ?_
      rintro r w3 ⟨Af, cf, Bf, df, gf, rf, rfl, hfil, hh1, hh2, hflt, b_w3⟩
      have HFILf := Lib.hid hfil
      have HAf := Lib.hid hh1
      have HBf := Lib.hid hh2
      have HFLf := Lib.hid hflt
      clear hfil hh1 hh2 hflt
      have HML_w3 := Lib.hid (HML_w2.out.on b_w3)
      have Hl_w3 := Lib.hid ((Hl_w2.out.below b_w3 (Nat.le_refl _)).wide (Nat.zero_le _) b_w3.size)
      have HB_w3 := Lib.hid (below_below HB_w2.out b_w3 S_w2)
      have S_w3 := HB_w3.out.size
      clear b_w3 Hl_w2 HB_w2  HML_w2 
      have HFf_w3 : Hid (Flt w3 0 w3.heap.size (.agg #[.int .i64 (u : Int), .slice Af gf.length cf, .slice Bf rf.length df]) u gf rf) := (HFLf.out.wide (Nat.zero_le _) (Nat.le_refl _))
      go_wp2_with fail
      obtain ⟨w4, hw_w4⟩ : ∃ q, w3.alloc (.cells #[.int .i64 (u : Int), .slice Af gf.length cf, .slice Bf rf.length df] 28) = q := ⟨_, rfl⟩
      have b_w4 : Below w3.heap.size w3 w4 := by rw [← hw_w4]; exact (Below.refl _ _).alloc (Nat.le_refl _) _
      rw [hw_w4]
      have HVxf : Hid (Blk w4 w3.heap.size 28 #[.int .i64 (u : Int), .slice Af gf.length cf, .slice Bf rf.length df]) := by unfold Hid; rw [← hw_w4]; exact Blk.new _ _ _
      have HFf_w4 := Lib.hid ((HFf_w3.out.below b_w4 (Nat.le_refl _)).wide (Nat.zero_le _) b_w4.size)
      have HML_w4 := Lib.hid (HML_w3.out.on b_w4)
      have Hl_w4 := Lib.hid ((Hl_w3.out.below b_w4 (Nat.le_refl _)).wide (Nat.zero_le _) b_w4.size)
      have HB_w4 := Lib.hid (below_below HB_w3.out b_w4 S_w3)
      have S_w4 := HB_w4.out.size
      clear b_w4 Hl_w3 HB_w3  HFf_w3 HML_w3 
      have HVf_w4 := Lib.hid HVxf.out
      clear HVxf hw_w4
      clear HFLf
      refine (gmake_fil l Hl_w4.out HS1.out (by omega) HAL.out 0 (by omega) 0 rfl).mono ?_
      rintro r w5 ⟨Ax, cx, Bx, dx, gx, rx, rfl, hfil, hh1, hh2, hflt, b_w5⟩
      have HFILx := Lib.hid hfil
      have HAx := Lib.hid hh1
      have HBx := Lib.hid (hh2 rfl)
      have HFLx := Lib.hid hflt
      clear hfil hh1 hh2 hflt
      have HVf_w5 := Lib.hid (HVf_w4.out.below b_w5 HVf_w4.out.lt)
      have HFf_w5 := Lib.hid ((HFf_w4.out.below b_w5 (Nat.le_refl _)).wide (Nat.zero_le _) b_w5.size)
      have HML_w5 := Lib.hid (HML_w4.out.on b_w5)
      have Hl_w5 := Lib.hid ((Hl_w4.out.below b_w5 (Nat.le_refl _)).wide (Nat.zero_le _) b_w5.size)
      have HB_w5 := Lib.hid (below_below HB_w4.out b_w5 S_w4)
      have S_w5 := HB_w5.out.size
      clear b_w5 Hl_w4 HB_w4  HVf_w4 HFf_w4 HML_w4 
      have HFx_w5 : Hid (Flt w5 0 w5.heap.size (.agg #[.int .i64 0, .slice Ax gx.length cx, .slice Bx rx.length dx]) 0 gx rx) := (HFLx.out.wide (Nat.zero_le _) (Nat.le_refl _))
      go_wp2_with fail
      obtain ⟨w6, hw_w6⟩ : ∃ q, w5.alloc (.cells #[.int .i64 0, .slice Ax gx.length cx, .slice Bx rx.length dx] 28) = q := ⟨_, rfl⟩
      have b_w6 : Below w5.heap.size w5 w6 := by rw [← hw_w6]; exact (Below.refl _ _).alloc (Nat.le_refl _) _
      rw [hw_w6]
      have HVxx : Hid (Blk w6 w5.heap.size 28 #[.int .i64 0, .slice Ax gx.length cx, .slice Bx rx.length dx]) := by unfold Hid; rw [← hw_w6]; exact Blk.new _ _ _
      have HVf_w6 := Lib.hid (HVf_w5.out.below b_w6 HVf_w5.out.lt)
      have HFf_w6 := Lib.hid ((HFf_w5.out.below b_w6 (Nat.le_refl _)).wide (Nat.zero_le _) b_w6.size)
      have HFx_w6 := Lib.hid ((HFx_w5.out.below b_w6 (Nat.le_refl _)).wide (Nat.zero_le _) b_w6.size)
      have HML_w6 := Lib.hid (HML_w5.out.on b_w6)
      have Hl_w6 := Lib.hid ((Hl_w5.out.below b_w6 (Nat.le_refl _)).wide (Nat.zero_le _) b_w6.size)
      have HB_w6 := Lib.hid (below_below HB_w5.out b_w6 S_w5)
      have S_w6 := HB_w6.out.size
      clear b_w6 Hl_w5 HB_w5  HVf_w5 HFf_w5 HFx_w5 HML_w5 
      have HVx_w6 := Lib.hid HVxx.out
      clear HVxx hw_w6
      clear HFLx
      go_loopw [11] (fun x11 wr => ∃ i : Nat, i ≤ l.length ∧ x11 = .int .i64 (i : Int) ∧ Below w6.heap.size w6 wr) (fun i _ => l.length - (intOf i).toNat)
      case atStart => exact ⟨0, Nat.zero_le _, rfl, Below.refl _ _⟩
      case round =>
        obtain ⟨i, hi, rfl, hb⟩ := hrel
        have HB := Lib.hid hb
        have hsz := hb.size
        clear hb
        by_cases hlt : i < l.length
        · have ik : (i : Int) < (l.length : Int) := by omega
          have hx1 := HS1.out l[i] (List.getElem_mem hlt)
          obtain ⟨ba, oa, rfl, _, hba, hcl⟩ := Hl_w6.out.str hlt
          have HP1 : Hid ((gramsL l[i].data.toList).all (hasF u gf rf) = true) := may_part HAf.out hlt (List.infix_rfl)
          obtain ⟨q, hq⟩ : ∃ q, l[i].size / 3 = q := ⟨_, rfl⟩
          have HP2 : Hid ((gramsL (l[i].extract q l[i].size).data.toList).all (hasF 0 gx rx) = true) := may_part HAx.out hlt (by rw [extract_list]; exact (List.take_prefix _ _).isInfix.trans (drop_infix _ _))
          have HE : Hid ((l[i].extract q l[i].size).size ≤ 100000) := by unfold Hid; rw [ByteArray.size_extract]; omega
          generalize l[i] = x at *
          have HCF : Hid (∀ wx, Below w6.heap.size w6 wx → wx.cell? ⟨w3.heap.size, 0, none⟩ = some (.int .i64 (u : Int)) ∧ wx.cell? ⟨w3.heap.size, 1, none⟩ = some (.slice Af gf.length cf) ∧ wx.cell? ⟨w3.heap.size, 2, none⟩ = some (.slice Bf rf.length df) ∧ wx.cell? ⟨w5.heap.size, 0, none⟩ = some (.int .i64 0) ∧ wx.cell? ⟨w5.heap.size, 1, none⟩ = some (.slice Ax gx.length cx) ∧ wx.cell? ⟨w5.heap.size, 2, none⟩ = some (.slice Bx rx.length dx) ∧ wx.cell? ⟨ba, oa + i, none⟩ = some (.string x)) := fun wx hb => ⟨(hb.cell (p := ⟨w3.heap.size, 0, none⟩) HVf_w6.out.lt).trans (HVf_w6.out.cell 0), (hb.cell (p := ⟨w3.heap.size, 1, none⟩) HVf_w6.out.lt).trans (HVf_w6.out.cell 1), (hb.cell (p := ⟨w3.heap.size, 2, none⟩) HVf_w6.out.lt).trans (HVf_w6.out.cell 2), (hb.cell (p := ⟨w5.heap.size, 0, none⟩) HVx_w6.out.lt).trans (HVx_w6.out.cell 0), (hb.cell (p := ⟨w5.heap.size, 1, none⟩) HVx_w6.out.lt).trans (HVx_w6.out.cell 1), (hb.cell (p := ⟨w5.heap.size, 2, none⟩) HVx_w6.out.lt).trans (HVx_w6.out.cell 2), (hb.cell (p := ⟨ba, oa + i, none⟩) hba).trans hcl⟩
          have hS0 := HCF.out _ HB.out
          have hS1 := HCF.out _ (HB.out.drew)
          have KD : Hid (Below w6.heap.size w6 wr.drew) := HB.out.drew
          have hq1 : (x.size : Int) / 3 = (q : Int) := by omega
          have hq2 : (x.size : Int).tdiv 3 = (q : Int) := by rw [Int.tdiv_eq_ediv_of_nonneg (by omega)]; exact hq1
          have hq3 : (0 : Int) ≤ (q : Int) := by omega
          have hq4 : (q : Int) ≤ (x.size : Int) := by omega
          have hq5 : q ≤ x.size := by omega
          have hw3 : IntKind.i64.wrap (q : Int) = (q : Int) := IntWalk.i64_in _ (by omega)
          clear hcl hq
          go_wp2_with fail
          go_region_held3 (fun w' => w'.cell? ⟨w3.heap.size, 0, none⟩ = some (.int .i64 (u : Int)) ∧ w'.cell? ⟨w3.heap.size, 1, none⟩ = some (.slice Af gf.length cf) ∧ w'.cell? ⟨w3.heap.size, 2, none⟩ = some (.slice Bf rf.length df) ∧ w'.cell? ⟨w5.heap.size, 0, none⟩ = some (.int .i64 0) ∧ w'.cell? ⟨w5.heap.size, 1, none⟩ = some (.slice Ax gx.length cx) ∧ w'.cell? ⟨w5.heap.size, 2, none⟩ = some (.slice Bx rx.length dx) ∧ w'.cell? ⟨ba, oa + i, none⟩ = some (.string x)) (first | assumption | go_keep) (first
            | (go_at_call 18; refine (may_is (HFf_w6.out.below KD.out (Nat.le_refl _)) KD.out.size HFILf.out x (by omega) true HP1.out).mono ?_; rintro r wy ⟨rfl, hby⟩; have KY : Hid (Below w6.heap.size w6 wy) := KD.out.trans (hby.mono KD.out.size); have hSy := HCF.out _ KY.out; clear hby HP1)
            | (go_at_call 18; refine (may_is (HFx_w6.out.below KY.out (Nat.le_refl _)) KY.out.size HFILx.out (x.extract q x.size) HE.out true HP2.out).mono ?_; rintro r wz ⟨rfl, hbz⟩; have KZ : Hid (Below w6.heap.size w6 wz) := KY.out.trans (hbz.mono KY.out.size); have hSz := HCF.out _ KZ.out; clear hbz HP2))
          clear hS0 hS1 hSy hSz hq1 hq2 hw3
          go_wp2_with fail
          go_roundw
          case rel => exact ⟨i + 1, by omega, by go_num, KZ.out⟩
          case measure => simp [intOf]; omega
        · have ik : ¬ (i : Int) < (l.length : Int) := by omega
          have b_w7 : Below w6.heap.size w6 wr := HB.out
          clear HB hsz
          obtain ⟨w7, hw7⟩ : ∃ w7, w7 = wr := ⟨_, rfl⟩
          subst hw7
          have HVf_w7 := Lib.hid (HVf_w6.out.below b_w7 HVf_w6.out.lt)
          have HVx_w7 := Lib.hid (HVx_w6.out.below b_w7 HVx_w6.out.lt)
          have HFf_w7 := Lib.hid ((HFf_w6.out.below b_w7 (Nat.le_refl _)).wide (Nat.zero_le _) b_w7.size)
          have HFx_w7 := Lib.hid ((HFx_w6.out.below b_w7 (Nat.le_refl _)).wide (Nat.zero_le _) b_w7.size)
          have HML_w7 := Lib.hid (HML_w6.out.on b_w7)
          have Hl_w7 := Lib.hid ((Hl_w6.out.below b_w7 (Nat.le_refl _)).wide (Nat.zero_le _) b_w7.size)
          have HB_w7 := Lib.hid (below_below HB_w6.out b_w7 S_w6)
          have S_w7 := HB_w7.out.size
          clear b_w7 Hl_w6 HB_w6  HVf_w6 HVx_w6 HFf_w6 HFx_w6 HML_w6 
          by_cases h3 : s.size = 3
          · have e3 : ((s.size : Int) != 3) = false := by rw [h3]; rfl
            have e3b : ((s.size : Int) == 3) = true := by rw [h3]; rfl
            have e3c : (s.size : Int) = 3 := by omega
            have HT1 := Lib.hid (may_three HAx.out HBx.out h3)
            have HT2 : Hid ((l.any fun x => Lib.contains x.data.toList s.data.toList) = true → (gramsL s.data.toList).all (hasF u gf rf) = true) := fun hc => may_three' HAf.out h3 hc
            have HT3 := Lib.hid h3
            clear h3
            go_wp2_with fail
            clear e3 e3b e3c
            have hsm : s.size ≤ 500 := hs5
            go_loopw [12, 13] (fun x12 x13 wr => ∃ (k : Nat) (v : Bool), k ≤ l.length ∧ x13 = .int .i64 (k : Int) ∧ x12 = .bool v ∧ v = ((l.take k).any fun x => Lib.contains x.data.toList s.data.toList) ∧ w7 = wr) (fun _ i _ => l.length - (intOf i).toNat)
            case atStart => exact ⟨0, false, Nat.zero_le _, rfl, rfl, rfl, rfl⟩
            case round =>
              obtain ⟨k, v, hk, rfl, rfl, hv, rfl⟩ := hrel
              have HV := Lib.hid hv
              clear hv
              by_cases hlk : k < l.length
              · have ik2 : (k : Int) < (l.length : Int) := by omega
                have hx1 := HS1.out l[k] (List.getElem_mem hlk)
                obtain ⟨ba, oa, rfl, _, hba, hcl⟩ := Hl_w7.out.str hlk
                have HN : Hid ((v || Lib.contains l[k].data.toList s.data.toList) = ((l.take (k + 1)).any fun x => Lib.contains x.data.toList s.data.toList)) := by unfold Hid; rw [any_take hlk, HV.out]
                have HCN := Lib.hid (contains_any (w := w7) l[k] s ml (by omega) HML_w7.out)
                generalize l[k] = x at *
                generalize Lib.contains x.data.toList s.data.toList = y at *
                cases v with
                | true =>
                  go_wp2_with fail
                  go_roundw
                  case rel => exact ⟨k + 1, _, by omega, by go_num, rfl, HN.out, by first | rfl | trivial⟩
                  case measure => simp [intOf]; omega
                | false =>
                  go_wp2_with fail
                  refine HCN.out.mono ?_
                  rintro r w' ⟨rfl, rfl⟩
                  go_wp2_with fail
                  go_roundw
                  case rel => exact ⟨k + 1, _, by omega, by go_num, rfl, HN.out, by first | rfl | trivial⟩
                  case measure => simp [intOf]; omega
              · have ik2 : ¬ (k : Int) < (l.length : Int) := by omega
                have hve : v = (l.any fun x => Lib.contains x.data.toList s.data.toList) := by rw [HV.out, List.take_of_length_le (by omega)]
                rw [← hve] at HT1 HT2
                clear hve HV
                have cx0 : w7.cell? ⟨w5.heap.size, 0, none⟩ = some (.int .i64 0) := HVx_w7.out.cell 0
                have cx1 : w7.cell? ⟨w5.heap.size, 1, none⟩ = some (.slice Ax gx.length cx) := HVx_w7.out.cell 1
                have cx2 : w7.cell? ⟨w5.heap.size, 2, none⟩ = some (.slice Bx rx.length dx) := HVx_w7.out.cell 2
                have zx0 := HVx_w7.out.frozen 0
                have zx1 := HVx_w7.out.frozen 1
                have zx2 := HVx_w7.out.frozen 2
                go_wp2_with fail
                clear cx0 zx0 cx1 zx1 cx2 zx2
                refine (may_is HFx_w7.out (Nat.le_refl _) HFILx.out s (by omega) v HT1.out).mono ?_
                rintro r w8 ⟨rfl, b_w8⟩
                have HVf_w8 := Lib.hid (HVf_w7.out.below b_w8 HVf_w7.out.lt)
                have HVx_w8 := Lib.hid (HVx_w7.out.below b_w8 HVx_w7.out.lt)
                have HFf_w8 := Lib.hid ((HFf_w7.out.below b_w8 (Nat.le_refl _)).wide (Nat.zero_le _) b_w8.size)
                have HFx_w8 := Lib.hid ((HFx_w7.out.below b_w8 (Nat.le_refl _)).wide (Nat.zero_le _) b_w8.size)
                have HML_w8 := Lib.hid (HML_w7.out.on b_w8)
                have Hl_w8 := Lib.hid ((Hl_w7.out.below b_w8 (Nat.le_refl _)).wide (Nat.zero_le _) b_w8.size)
                have HB_w8 := Lib.hid (below_below HB_w7.out b_w8 S_w7)
                have S_w8 := HB_w8.out.size
                clear b_w8 Hl_w7 HB_w7  HVf_w7 HVx_w7 HFf_w7 HFx_w7 HML_w7 
                have cf0 : w8.cell? ⟨w3.heap.size, 0, none⟩ = some (.int .i64 (u : Int)) := HVf_w8.out.cell 0
                have cf1 : w8.cell? ⟨w3.heap.size, 1, none⟩ = some (.slice Af gf.length cf) := HVf_w8.out.cell 1
                have cf2 : w8.cell? ⟨w3.heap.size, 2, none⟩ = some (.slice Bf rf.length df) := HVf_w8.out.cell 2
                have zf0 := HVf_w8.out.frozen 0
                have zf1 := HVf_w8.out.frozen 1
                have zf2 := HVf_w8.out.frozen 2
                cases v with
                | false =>
                  go_wp2_with fail
                  go_ret
                  exact ⟨rfl, HB_w8.out⟩
                | true =>
                  have HT4 := Lib.hid (HT2.out rfl)
                  clear HT2
                  go_wp2_with fail
                  clear cf0 zf0 cf1 zf1 cf2 zf2
                  refine (may_is HFf_w8.out (Nat.le_refl _) HFILf.out s (by omega) true HT4.out).mono ?_
                  rintro r w9 ⟨rfl, b_w9⟩
                  have HVf_w9 := Lib.hid (HVf_w8.out.below b_w9 HVf_w8.out.lt)
                  have HVx_w9 := Lib.hid (HVx_w8.out.below b_w9 HVx_w8.out.lt)
                  have HFf_w9 := Lib.hid ((HFf_w8.out.below b_w9 (Nat.le_refl _)).wide (Nat.zero_le _) b_w9.size)
                  have HFx_w9 := Lib.hid ((HFx_w8.out.below b_w9 (Nat.le_refl _)).wide (Nat.zero_le _) b_w9.size)
                  have HML_w9 := Lib.hid (HML_w8.out.on b_w9)
                  have Hl_w9 := Lib.hid ((Hl_w8.out.below b_w9 (Nat.le_refl _)).wide (Nat.zero_le _) b_w9.size)
                  have HB_w9 := Lib.hid (below_below HB_w8.out b_w9 S_w8)
                  have S_w9 := HB_w9.out.size
                  clear b_w9 Hl_w8 HB_w8  HVf_w8 HVx_w8 HFf_w8 HFx_w8 HML_w8 
                  go_wp2_with fail
                  go_ret
                  exact ⟨rfl, HB_w9.out⟩
          · have e3 : ((s.size : Int) != 3) = true := by simp; omega
            have e3b : ((s.size : Int) == 3) = false := beq_eq_false_iff_ne.2 (by omega)
            have e3c : ¬ (s.size : Int) = 3 := by omega
            go_wp2_with fail
            go_ret
            exact ⟨rfl, HB_w7.out⟩
    · have i10 : (500 : Int) < (s.size : Int) := by omega
      have d10 : decide ((500 : Int) < (s.size : Int)) = true := decide_eq_true i10
      go_enter Try.func5, Try.ntmps5
      go_wp2_with fail
      refine (awake15_any (w := _)).mono ?_
      rintro r w1 ⟨rfl, b_w1⟩
      have HML_w1 := Lib.hid (HML_w.out.on b_w1)
      have Hl_w1 := Lib.hid ((Hl_w.out.below b_w1 (Nat.le_refl _)).wide (Nat.zero_le _) b_w1.size)
      have HB_w1 := Lib.hid b_w1
      have S_w1 := HB_w1.out.size
      clear b_w1 Hl_w  HML_w 
      go_wp2_with fail
      refine (fewg_is l true Hl_w1.out HFW.out HZ.out).mono ?_
      rintro r wq ⟨rfl, m_w2, rfl⟩
      have HML_w2 : Hid (MaxLenIs ml (w1.drewN m_w2)) := HML_w1.out.on (below_drewN' (Below.refl _ _) m_w2)
      obtain ⟨w2, hw_w2⟩ : ∃ q, w1.drewN m_w2 = q := ⟨_, rfl⟩
      have Hl_w2 : Hid (Rd w2 0 w2.heap.size A c (sv l)) := by unfold Hid; rw [← hw_w2]; exact Hl_w1.out.drewN m_w2
      have HB_w2 : Hid (Below w.heap.size w w2) := by unfold Hid; rw [← hw_w2]; exact below_drewN' HB_w1.out m_w2
      have S_w2 := HB_w2.out.size
      rw [hw_w2] at HML_w2
      rw [hw_w2]
      clear hw_w2 Hl_w1 HB_w1
      clear HML_w1
      go_wp2_with fail
      refine (awake15_any (w := _)).mono ?_
      rintro r w3 ⟨rfl, b_w3⟩
      have HML_w3 := Lib.hid (HML_w2.out.on b_w3)
      have Hl_w3 := Lib.hid ((Hl_w2.out.below b_w3 (Nat.le_refl _)).wide (Nat.zero_le _) b_w3.size)
      have HB_w3 := Lib.hid (below_below HB_w2.out b_w3 S_w2)
      have S_w3 := HB_w3.out.size
      clear b_w3 Hl_w2 HB_w2  HML_w2 
      go_wp2_with fail
      go_ret
      exact ⟨rfl, HB_w3.out⟩
  · have HNF : Hid (decide (FewG l) = false) := decide_eq_false hf
    clear hf
    go_enter Try.func5, Try.ntmps5
    go_wp2_with fail
    refine (awake15_any (w := _)).mono ?_
    rintro r w1 ⟨rfl, b_w1⟩
    have HML_w1 := Lib.hid (HML_w.out.on b_w1)
    have Hl_w1 := Lib.hid ((Hl_w.out.below b_w1 (Nat.le_refl _)).wide (Nat.zero_le _) b_w1.size)
    have HB_w1 := Lib.hid b_w1
    have S_w1 := HB_w1.out.size
    clear b_w1 Hl_w  HML_w 
    go_wp2_with fail
    refine (fewg_is l false Hl_w1.out HNF.out HZ.out).mono ?_
    rintro r wq ⟨rfl, m_w2, rfl⟩
    have HML_w2 : Hid (MaxLenIs ml (w1.drewN m_w2)) := HML_w1.out.on (below_drewN' (Below.refl _ _) m_w2)
    obtain ⟨w2, hw_w2⟩ : ∃ q, w1.drewN m_w2 = q := ⟨_, rfl⟩
    have Hl_w2 : Hid (Rd w2 0 w2.heap.size A c (sv l)) := by unfold Hid; rw [← hw_w2]; exact Hl_w1.out.drewN m_w2
    have HB_w2 : Hid (Below w.heap.size w w2) := by unfold Hid; rw [← hw_w2]; exact below_drewN' HB_w1.out m_w2
    have S_w2 := HB_w2.out.size
    rw [hw_w2] at HML_w2
    rw [hw_w2]
    clear hw_w2 Hl_w1 HB_w1
    clear HML_w1
    go_wp2_with fail
    refine (awake15_any (w := _)).mono ?_
    rintro r w3 ⟨rfl, b_w3⟩
    have HML_w3 := Lib.hid (HML_w2.out.on b_w3)
    have Hl_w3 := Lib.hid ((Hl_w2.out.below b_w3 (Nat.le_refl _)).wide (Nat.zero_le _) b_w3.size)
    have HB_w3 := Lib.hid (below_below HB_w2.out b_w3 S_w2)
    have S_w3 := HB_w3.out.size
    clear b_w3 Hl_w2 HB_w2  HML_w2 
    go_wp2_with fail
    go_ret
    exact ⟨rfl, HB_w3.out⟩

set_option maxRecDepth 100000 in
theorem gramHolds_lifted (os : Os) (started : os.Started) (H : Type) (enc : TypeId × Value → H) :
    ReturnsInHanded {} Try.checked os 5 .any (Rows.gramHoldsSpec.pre6 enc Try.prog Try.f5 Rows.gramHoldsRow.domain false) (Rows.gramHoldsSpec.post enc Try.prog Try.f5 false true false false) := by
  refine returnsInHanded_of_change_shaped (C := Try.checked) own started (by kernel_rfl) Try.func5
    (ChangeSpec.witness6 (enc := enc) (C := Try.checked) false ⟨#[], #[.slice none 0 0, .int .u16 0, .string ByteArray.empty], []⟩ 8 (by kernel_rfl) (by kernel_rfl) (by kernel_rfl) (by kernel_rfl)) ?_
  intro W base args ds gs before hval0 hW hcnd hsz0 hsh _
  have hsz : (DataW.weightsEach Try.prog (Try.f5.params.toList ++ Rows.gramHoldsSpec.plain.varTypes Try.prog) (ds ++ gs)).all (· ≤ reachBytes) = true := hsz0
  have hval : ∀ (j : Nat) t v, Try.f5.params[j]? = some t → args[j]? = some v → Value.okWide Try.prog W .any base t v := hval0
  have hW' := hW
  obtain ⟨p, q, hA0, hV, rfl, hfz, hnd⟩ := hW
  have hA : DataW.TrodAll enc Try.prog W 0 (fun _ => true) true Try.f5.params.toList args.toList ds p := hA0
  have hA1 : DataW.TrodAll enc Try.prog W 0 (fun _ => true) true Try.f5.params.toList args.toList ds p := hA0
  rw [Try.params5] at hA hval hsz
  obtain ⟨v0, vs0, d0, ds0, p0, q0, hargs, rfl, rfl, h0, r0⟩ := trodAll_cons hA
  obtain ⟨v1, vs1, d1, ds1, p1, q1, rfl, rfl, rfl, h1, r1⟩ := trodAll_cons r0
  obtain ⟨v2, vs2, d2, ds2, p2, q2, rfl, rfl, rfl, h2, r2⟩ := trodAll_cons r1
  obtain ⟨rfl, rfl, rfl⟩ := trodAll_nil r2
  obtain rfl : args = #[v0, v1, v2] := by cases args; simp_all
  obtain ⟨rfl, rfl⟩ := trodVars_none hV
  obtain ⟨A0, a0, c0, rfl, w0⟩ := open_strs_sized Try.underlying22 Try.underlying9 (by kernel_rfl) (by kernel_rfl) (hval 0 22 v0 rfl rfl) h0 (fun n hn => by have := List.all_eq_true.1 hsz n (DataW.weights_mem_each (j := 0) (t := 22) rfl rfl n hn); simpa using this)
  obtain ⟨a1, rfl, rfl, rfl, w1⟩ := open_int Try.underlying35 (hval 1 35 v1 rfl rfl) h1
  obtain ⟨b1, rfl, l1⟩ := u16_of_wf w1
  obtain ⟨a2, rfl, rfl, rfl, w2⟩ := open_string Try.underlying9 (hval 2 9 v2 rfl rfl) h2
  have z2 : a2.size ≤ 140737488351232 := by have := sized_string hsz (j := 2) (t := 9) rfl rfl; rw [Array.length_toList] at this; exact this
  clear hA0 hval0
  refine (gramHolds_walk (w := W) w0 b1 l1 a2 z2 (maxlen_of hsh)).mono fun e W' ⟨he, bel⟩ => ?_
  subst he
  exact ⟨_, rfl, _, _, _, [], _, [], hW', trodAll_mk1 (shut_bool Try.underlying4 _), trodAll_below laidOut bel _ _ _ _ (by kernel_rfl) hA1, rfl, bel.frame _, fun h => by cases h⟩

theorem gramHolds_over : Rows.gramHoldsRow.holds Try.pinned (OpenSpec.ofChange Rows.gramHoldsSpec) :=
  OpenClaim.holds_of_wide 5 Try.f5 rfl rfl rfl rfl rfl rfl rfl ⟨rfl, rfl, rfl, rfl, rfl⟩ rfl rfl rfl rfl rfl (by kernel_rfl) Try.func5 (by kernel_rfl)
    (of_decide_eq_true (by kernel_rfl)) (by unfold Func.isWrapper; first | (rw [if_pos (by decide +kernel)]; kernel_rfl) | (rw [if_neg (by decide +kernel)]; exact ⟨rfl, rfl⟩))
    (fun os started H enc _ => gramHolds_lifted os started H enc)

/-- The statement. -/
theorem gramHolds_proved : Rows.GramHoldsSaid := gramHolds_over


end Go.Proofs.Ytepgkdmfoojppaa
