/-
  Proved: PickThrough returns true for every three lists of rows, and leaves what was there as it was. No condition.
-/
import Derived.Test.YtfjclconpiibgaaLawK
import Derived.Test.YtfjclconpiibgaaShellB
namespace Go.Proofs.Ytfjclconpiibgaa
set_option linter.unusedSimpArgs false
set_option linter.unusedVariables false
open Go.ChangeShapes Go.WideShapes Go.ChangeAt Go.RowKit

/-- each that comes through: its place, and what stands there -/
theorem thr_each {xs ys ls : List Int} (h : In xs.length ys) (hl : thrL xs ys = ls) (k : Nat) (hk : k < ys.length) (hk2 : k < ls.length) : ∃ (j : Nat) (hj : j < xs.length), ys[k] = (j : Int) ∧ ls[k] = xs[j] := by
  have hv := h _ (List.getElem_mem hk)
  have hj : ys[k].toNat < xs.length := by omega
  refine ⟨ys[k].toNat, hj, by omega, ?_⟩
  subst hl
  exact thr_get xs ys h k hk2 hk hj

set_option maxRecDepth 20000 in
set_option maxHeartbeats 2000000 in
theorem pickThrough_walk {w : World} {A B C : Option Addr} {a b c : List Bool} {ca cb cc : Nat} (h : Rd w 0 w.heap.size A ca (lv a)) (h2 : Rd w 0 w.heap.size B cb (lv b)) (h3 : Rd w 0 w.heap.size C cc (lv c)) :
    Calls Try.prog 6 #[.slice A a.length ca, .slice B b.length cb, .slice C c.length cc] w fun e w' => e = .returned (.bool true) ∧ Below w.heap.size w w' := by
  have hla := h.len
  have hca := h.cap
  have hlb := h2.len
  have hcb := h2.cap
  have hlc := h3.len
  have hcc := h3.cap
  rw [lv_length] at hla hlb hlc
  unfold maxLen at hca hcb hcc
  have HA := Lib.hid h
  have HB := Lib.hid h2
  have HC := Lib.hid h3
  clear h h2 h3
  by_cases h500 : a.length ≤ 500
  · obtain ⟨xa, hxa⟩ : ∃ xa, plc a = xa := ⟨_, rfl⟩
    have hxl : xa.length ≤ 500 := by
      have := cnt_le a
      rw [← hxa, plc_len]
      omega
    have HXA := Lib.hid hxa
    clear hxa
    go_enter Try.func6, Try.ntmps6
    go_wp2_with fail
    refine (awake5_any _).mono ?_
    rintro r w1 ⟨rfl, hb1⟩
    have HA1 := Lib.hid (HA.out.below hb1 (Nat.le_refl _))
    have HB1 := Lib.hid (HB.out.below hb1 (Nat.le_refl _))
    have HC1 := Lib.hid (HC.out.below hb1 (Nat.le_refl _))
    have K1 := Lib.hid hb1
    have s1 := hb1.size
    clear hb1 HA HB HC
    go_wp2_with fail
    refine (places_any a xa HXA.out HA1.out s1 (by omega)).mono ?_
    rintro r w2 ⟨A2, c2, rfl, ho2, hb2⟩
    have X2 := Lib.hid (rd_nums ho2)
    have HB2 := Lib.hid (HB1.out.below hb2 s1)
    have HC2 := Lib.hid (HC1.out.below hb2 s1)
    have K2 := Lib.hid (below_below K1.out hb2 s1)
    have s2 := hb2.size
    clear ho2 hb2 HA1 HB1 HC1 K1
    by_cases hbx : b.length = xa.length
    · have hnb : ((b.length : Int) != (xa.length : Int)) = false := by rw [hbx]; simp
      obtain ⟨yb, hyb⟩ : ∃ yb, plc b = yb := ⟨_, rfl⟩
      have hyl : yb.length ≤ 500 := by
        have := cnt_le b
        rw [← hyb, plc_len]
        omega
      have HYI : Hid (In xa.length yb) := by
        unfold Hid
        rw [← hyb, ← hbx]
        exact in_plc b
      have HYR : Hid (Rise yb) := by
        unfold Hid
        rw [← hyb]
        exact rise_plcF 0 b
      have HYB := Lib.hid hyb
      have HBX := Lib.hid hbx
      have hbl : b.length ≤ 500 := by omega
      clear hyb hbx
      go_wp2_with fail
      refine (places_any b yb HYB.out HB2.out (by omega) (by omega)).mono ?_
      rintro r w3 ⟨A3, c3, rfl, ho3, hb3⟩
      have X3 := Lib.hid (X2.out.below hb3 (Nat.le_refl _))
      have Y3 := Lib.hid (rd_nums ho3)
      have HC3 := Lib.hid (HC2.out.below hb3 (by omega))
      have K3 := Lib.hid (below_below K2.out hb3 (by omega))
      have s3 := hb3.size
      clear ho3 hb3 X2 HB2 HC2 K2
      by_cases hcy : c.length = yb.length
      · have hnc : ((c.length : Int) != (yb.length : Int)) = false := by rw [hcy]; simp
        have hcl : c.length ≤ 500 := by omega
        have HCY := Lib.hid hcy
        clear hcy
        obtain ⟨zc, hzc⟩ : ∃ zc, plc c = zc := ⟨_, rfl⟩
        obtain ⟨al, hal⟩ : ∃ al, notL 0 xa.length [] = al := ⟨_, rfl⟩
        obtain ⟨ll, hll⟩ : ∃ ll, thrL xa yb = ll := ⟨_, rfl⟩
        obtain ⟨yz, hyz⟩ : ∃ yz, thrL yb zc = yz := ⟨_, rfl⟩
        obtain ⟨lz, hlz⟩ : ∃ lz, thrL ll zc = lz := ⟨_, rfl⟩
        have hzl : zc.length ≤ 500 := by
          have := cnt_le c
          rw [← hzc, plc_len]
          omega
        have hal5 : al.length ≤ 500 := by
          have := notL_len 0 xa.length []
          rw [hal] at this
          omega
        have hlly : ll.length = yb.length := by rw [← hll]; exact thr_in_len xa yb HYI.out
        have hyz5 : yz.length ≤ 500 := by
          have := thrL_len yb zc
          rw [hyz] at this
          omega
        have hnl : ((ll.length : Int) != (yb.length : Int)) = false := by rw [hlly]; simp
        have hll5 : ll.length ≤ 500 := by omega
        have hlle : yb.length ≤ ll.length := by omega
        have HXAL : Hid (thrL xa al = xa) := by
          unfold Hid
          rw [← hal]
          exact thr_all xa
        have HXY : Hid (thrL xa yz = lz) := by
          unfold Hid
          rw [← hlz, ← hll, ← hyz]
          exact (thr_thr xa yb zc HYI.out).symm
        have HRI : Hid (rightL (a.length : Int) (-1) ll = true) := by
          unfold Hid
          rw [← hll]
          refine thr_right xa yb a.length ?_ HYR.out ?_ HYI.out
          · rw [← HXA.out]
            exact rise_plcF 0 a
          · rw [← HXA.out]
            exact in_plc a
        have HEV := Lib.hid (fun k (hk : k < yb.length) (hk2 : k < ll.length) => thr_each HYI.out hll k hk hk2)
        have HLLY := Lib.hid hlly
        have HZC := Lib.hid hzc
        have HAL := Lib.hid hal
        have HLL := Lib.hid hll
        have HYZ := Lib.hid hyz
        have HLZ := Lib.hid hlz
        clear hzc hal hll hyz hlz hlly

        go_wp2_with fail
        refine (places_any c zc HZC.out HC3.out (by omega) (by omega)).mono ?_
        rintro r w4 ⟨A4, c4, rfl, ho4, hb4⟩
        have X4 := Lib.hid (X3.out.below hb4 (by omega))
        have Y4 := Lib.hid (Y3.out.below hb4 (by omega))
        have Z4 := Lib.hid (rd_nums ho4)
        have K4 := Lib.hid (below_below K3.out hb4 (by omega))
        have s4 := hb4.size
        clear ho4 hb4 K3 X3 Y3 HC3
        go_wp2_with fail
        refine (pnot_any (w := w4) [] al xa.length HAL.out (Rd.nil _ 0 0) (Nat.zero_le _) (by omega)).mono ?_
        rintro r w5 ⟨A5, c5, rfl, ho5, hb5⟩
        have X5 := Lib.hid (X4.out.below hb5 (by omega))
        have Y5 := Lib.hid (Y4.out.below hb5 (by omega))
        have Z5 := Lib.hid (Z4.out.below hb5 (by omega))
        have L5 := Lib.hid (rd_nums ho5)
        have K5 := Lib.hid (below_below K4.out hb5 (by omega))
        have s5 := hb5.size
        clear ho5 hb5 K4 X4 Y4 Z4
        go_wp2_with fail
        refine (through_any xa yb ll HLL.out X5.out Y5.out (by omega) (by omega) (by omega)).mono ?_
        rintro r w6 ⟨A6, c6, rfl, ho6, hb6⟩
        have X6 := Lib.hid (X5.out.below hb6 (by omega))
        have Y6 := Lib.hid (Y5.out.below hb6 (by omega))
        have Z6 := Lib.hid (Z5.out.below hb6 (by omega))
        have L6 := Lib.hid (L5.out.below hb6 (by omega))
        have M6 := Lib.hid (rd_nums ho6)
        have K6 := Lib.hid (below_below K5.out hb6 (by omega))
        have s6 := hb6.size
        clear ho6 hb6 K5 X5 Y5 Z5 L5
        go_wp2_with fail
        refine (through_any xa al xa HXAL.out X6.out L6.out (by omega) (by omega) (by omega)).mono ?_
        rintro r w7 ⟨A7, c7, rfl, ho7, hb7⟩
        have X7 := Lib.hid (X6.out.below hb7 (by omega))
        have Y7 := Lib.hid (Y6.out.below hb7 (by omega))
        have Z7 := Lib.hid (Z6.out.below hb7 (by omega))
        have M7 := Lib.hid (M6.out.below hb7 (by omega))
        have T7 := Lib.hid (rd_nums ho7)
        have K7 := Lib.hid (below_below K6.out hb7 (by omega))
        have s7 := hb7.size
        clear ho7 hb7 K6 X6 Y6 Z6 L6 M6
        go_wp2_with fail
        refine (ints_len xa xa true T7.out X7.out rfl rfl (decide_eq_true rfl)).mono ?_
        rintro r w' ⟨rfl, q8, rfl⟩
        have X8 : Hid (Rd (w7.drewN q8) 0 w2.heap.size A2 c2 (iv xa)) := X7.out.drewN q8
        have Y8 : Hid (Rd (w7.drewN q8) 0 w3.heap.size A3 c3 (iv yb)) := Y7.out.drewN q8
        have Z8 : Hid (Rd (w7.drewN q8) 0 w4.heap.size A4 c4 (iv zc)) := Z7.out.drewN q8
        have M8 : Hid (Rd (w7.drewN q8) 0 w6.heap.size A6 c6 (iv ll)) := M7.out.drewN q8
        have K8 := Lib.hid (below_drewN' K7.out q8)
        have s8 : w7.heap.size ≤ (w7.drewN q8).heap.size := Nat.le_refl _
        clear K7 X7 Y7 Z7 M7 T7
        generalize w7.drewN q8 = w8 at *
        go_wp2_with fail
        refine (through_any (w := w8) xa [] [] rfl X8.out (Rd.nil _ 0 0) (by omega) (Nat.zero_le _) (by simp)).mono ?_
        rintro r w9 ⟨A9, c9, rfl, ho9, hb9⟩
        have X9 := Lib.hid (X8.out.below hb9 (by omega))
        have Y9 := Lib.hid (Y8.out.below hb9 (by omega))
        have Z9 := Lib.hid (Z8.out.below hb9 (by omega))
        have M9 := Lib.hid (M8.out.below hb9 (by omega))
        have K9 := Lib.hid (below_below K8.out hb9 (by omega))
        have s9 := hb9.size
        clear ho9 hb9 K8 X8 Y8 Z8 M8
        go_wp2_with fail
        refine (right_any ll (a.length : Int) true HRI.out M9.out).mono ?_
        rintro r w' ⟨rfl, rfl⟩
        go_wp2_with fail
        go_loopw [12] (fun i wr => ∃ k q : Nat, k ≤ yb.length ∧ i = .int .i64 (k : Int) ∧ w9.drewN q = wr) (fun i _ => yb.length - (intOf i).toNat)
        case atStart => exact ⟨0, 0, Nat.zero_le _, rfl, rfl⟩
        case round =>
          obtain ⟨k, q, hk, rfl, rfl⟩ := hrel
          by_cases hlt : k < yb.length
          · have hlt2 : k < ll.length := by omega
            obtain ⟨j, hj, ej, el⟩ := HEV.out k hlt hlt2
            obtain ⟨b1, o1, rfl, _, _, hcell1⟩ := X9.out.num hj
            obtain ⟨b2, o2, rfl, _, _, hcell2⟩ := Y9.out.num hlt
            obtain ⟨b3, o3, rfl, _, _, hcell3⟩ := M9.out.num hlt2
            rw [ej] at hcell2
            rw [el] at hcell3
            clear ej el
            generalize xa[j] = e at *
            go_wp2_with fail
            go_quiet (fail)
            go_wp2
            go_roundw
            case rel => exact ⟨k + 1, _, by omega, by go_num, rfl⟩
            case measure => simp [intOf]; omega
          · obtain rfl : k = yb.length := by omega
            have X10 : Hid (Rd (w9.drewN q) 0 w2.heap.size A2 c2 (iv xa)) := X9.out.drewN q
            have Y10 : Hid (Rd (w9.drewN q) 0 w3.heap.size A3 c3 (iv yb)) := Y9.out.drewN q
            have Z10 : Hid (Rd (w9.drewN q) 0 w4.heap.size A4 c4 (iv zc)) := Z9.out.drewN q
            have M10 : Hid (Rd (w9.drewN q) 0 w6.heap.size A6 c6 (iv ll)) := M9.out.drewN q
            have K10 := Lib.hid (below_drewN' K9.out q)
            have s10 : w9.heap.size ≤ (w9.drewN q).heap.size := Nat.le_refl _
            clear X9 Y9 Z9 M9 K9
            generalize w9.drewN q = w10 at *
            go_wp2_with fail
            refine (through_any ll zc lz HLZ.out M10.out Z10.out (by omega) (by omega) (by omega)).mono ?_
            rintro r w11 ⟨A20, c20, rfl, ho11, hb11⟩
            have X11 := Lib.hid (X10.out.below hb11 (by omega))
            have Y11 := Lib.hid (Y10.out.below hb11 (by omega))
            have Z11 := Lib.hid (Z10.out.below hb11 (by omega))
            have U11 := Lib.hid (rd_nums ho11)
            have K11 := Lib.hid (below_below K10.out hb11 (by omega))
            have s11 := hb11.size
            clear ho11 hb11 K10 X10 Y10 Z10 M10
            go_wp2_with fail
            refine (through_any yb zc yz HYZ.out Y11.out Z11.out (by omega) (by omega) (by omega)).mono ?_
            rintro r w12 ⟨A21, c21, rfl, ho12, hb12⟩
            have X12 := Lib.hid (X11.out.below hb12 (by omega))
            have U12 := Lib.hid (U11.out.below hb12 (by omega))
            have V12 := Lib.hid (rd_nums ho12)
            have K12 := Lib.hid (below_below K11.out hb12 (by omega))
            have s12 := hb12.size
            clear ho12 hb12 K11 X11 Y11 Z11 U11
            go_wp2_with fail
            refine (through_any xa yz lz HXY.out X12.out V12.out (by omega) (by omega) (by omega)).mono ?_
            rintro r w13 ⟨A22, c22, rfl, ho13, hb13⟩
            have U13 := Lib.hid (U12.out.below hb13 (by omega))
            have S13 := Lib.hid (rd_nums ho13)
            have K13 := Lib.hid (below_below K12.out hb13 (by omega))
            have s13 := hb13.size
            clear ho13 hb13 K12 X12 U12 V12
            go_wp2_with fail
            refine (ints_len lz lz true U13.out S13.out rfl rfl (decide_eq_true rfl)).mono ?_
            rintro r w' ⟨rfl, q2, rfl⟩
            go_wp2
            go_ret
            exact ⟨rfl, below_drewN' K13.out q2⟩
      · have hnc : ((c.length : Int) != (yb.length : Int)) = true := by rw [bne_iff_ne]; omega
        clear hcy
        go_wp2
        go_ret
        exact ⟨rfl, K3.out⟩
    · have hnb : ((b.length : Int) != (xa.length : Int)) = true := by rw [bne_iff_ne]; omega
      clear hbx
      go_wp2
      go_ret
      exact ⟨rfl, K2.out⟩
  · clear HA HB HC
    go_enter Try.func6, Try.ntmps6
    go_wp2_with fail
    refine (awake5_any _).mono ?_
    rintro r w1 ⟨rfl, hb1⟩
    have HB1 := Lib.hid hb1
    clear hb1
    go_wp2_with fail
    refine (awake5_any _).mono ?_
    rintro r w2 ⟨rfl, hb2⟩
    have HB2 := Lib.hid hb2
    clear hb2
    go_wp2
    go_ret
    exact ⟨rfl, below_below HB1.out HB2.out HB1.out.size⟩

set_option maxRecDepth 100000 in
theorem pickThrough_lifted (os : Os) (started : os.Started) (H : Type) (enc : TypeId × Value → H) :
    ReturnsInHanded {} Try.checked os 6 .any (Rows.pickThroughSpec.pre6 enc Try.prog Try.f6 Rows.pickThroughRow.domain false) (Rows.pickThroughSpec.post enc Try.prog Try.f6 false true false false) := by
  refine returnsInHanded_of_change (C := Try.checked) own started (by kernel_rfl) Try.func6
    (ChangeSpec.witness6 (enc := enc) (C := Try.checked) false ⟨#[], #[.slice none 0 0, .slice none 0 0, .slice none 0 0], []⟩ 8 (by kernel_rfl) (by kernel_rfl) (by kernel_rfl) (by kernel_rfl)) ?_
  intro W base args ds gs before hval0 hW hcnd _
  have hval : ∀ (j : Nat) t v, Try.f6.params[j]? = some t → args[j]? = some v → Value.okWide Try.prog W .any base t v := hval0
  have hW' := hW
  obtain ⟨p, q, hA0, hV, rfl, hfz, hnd⟩ := hW
  have hA : DataW.TrodAll enc Try.prog W 0 (fun _ => true) true Try.f6.params.toList args.toList ds p := hA0
  have hA1 : DataW.TrodAll enc Try.prog W 0 (fun _ => true) true Try.f6.params.toList args.toList ds p := hA0
  rw [Try.params6] at hA hval
  obtain ⟨v0, vs0, d0, ds0, p0, q0, hargs, rfl, rfl, h0, r0⟩ := trodAll_cons hA
  obtain ⟨v1, vs1, d1, ds1, p1, q1, rfl, rfl, rfl, h1, r1⟩ := trodAll_cons r0
  obtain ⟨v2, vs2, d2, ds2, p2, q2, rfl, rfl, rfl, h2, r2⟩ := trodAll_cons r1
  obtain ⟨rfl, rfl, rfl⟩ := trodAll_nil r2
  obtain rfl : args = #[v0, v1, v2] := by cases args; simp_all
  obtain ⟨rfl, rfl⟩ := trodVars_none hV
  obtain ⟨A0, a0, c0, rfl, w0⟩ := open_bools' Try.underlying25 Try.underlying4 (by kernel_rfl) (hval 0 25 v0 rfl rfl) h0
  obtain ⟨A1, a1, c1, rfl, w1⟩ := open_bools' Try.underlying25 Try.underlying4 (by kernel_rfl) (hval 1 25 v1 rfl rfl) h1
  obtain ⟨A2, a2, c2, rfl, w2⟩ := open_bools' Try.underlying25 Try.underlying4 (by kernel_rfl) (hval 2 25 v2 rfl rfl) h2
  clear hA0 hval0
  refine (pickThrough_walk (w := W) w0 w1 w2).mono fun e W' ⟨he, bel⟩ => ?_
  subst he
  exact ⟨_, rfl, _, _, _, [], _, [], hW', trodAll_mk1 (shut_bool Try.underlying4 _), trodAll_below laidOut bel _ _ _ _ (by kernel_rfl) hA1, rfl, bel.frame _, fun h => by cases h⟩

theorem pickThrough_over : Rows.pickThroughRow.holds Try.pinned (OpenSpec.ofChange Rows.pickThroughSpec) :=
  OpenClaim.holds_of_wide 6 Try.f6 rfl rfl rfl rfl rfl rfl rfl ⟨rfl, rfl, rfl, rfl, rfl⟩ rfl rfl rfl rfl rfl (by kernel_rfl) Try.func6 (by kernel_rfl)
    (of_decide_eq_true (by kernel_rfl)) (by unfold Func.isWrapper; first | (rw [if_pos (by decide +kernel)]; kernel_rfl) | (rw [if_neg (by decide +kernel)]; exact ⟨rfl, rfl⟩))
    (fun os started H enc _ => pickThrough_lifted os started H enc)

/-- The statement. -/
theorem pickThrough_proved : Rows.PickThroughSaid := pickThrough_over


end Go.Proofs.Ytfjclconpiibgaa
