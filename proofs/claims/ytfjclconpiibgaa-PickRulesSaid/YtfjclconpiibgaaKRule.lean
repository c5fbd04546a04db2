/-
  Proved: PickRules returns true for every two lists of rows, and leaves what was there as it was. No condition.
-/
import Derived.Test.YtfjclconpiibgaaLawK
import Derived.Test.YtfjclconpiibgaaBoolA
import Derived.Test.YtfjclconpiibgaaShellB
namespace Go.Proofs.Ytfjclconpiibgaa
set_option linter.unusedSimpArgs false
set_option linter.unusedVariables false
open Go.ChangeShapes Go.WideShapes Go.ChangeAt Go.RowKit

theorem take_row (l : List Bool) (k : Nat) (h : k < l.length) (m : List Bool) (hm : m = l.take k) (z : Bool) (hz : l[k] = z) : m ++ [z] = l.take (k + 1) := by
  rw [hm, List.take_succ_eq_append_getElem h, hz]

set_option maxRecDepth 20000 in
set_option maxHeartbeats 2000000 in
theorem prules_like {w : World} {A B : Option Addr} {a b : List Bool} {c d : Nat} (h : Rd w 0 w.heap.size A c (lv a)) (h2 : Rd w 0 w.heap.size B d (lv b)) (n : Nat) (hn : a.length = n) (hm : b.length = n) (h500 : n ≤ 500) :
    Calls Try.prog 5 #[.slice A n c, .slice B n d] w fun e w' => e = .returned (.bool true) ∧ Below w.heap.size w w' := by
  have hla := h.len
  have hca := h.cap
  have hlb := h2.len
  have hcb := h2.cap
  rw [lv_length] at hla hlb
  unfold maxLen at hca hcb
  obtain ⟨X, hX⟩ : ∃ X, List.zipWith and a b = X := ⟨_, rfl⟩
  obtain ⟨Y, hY⟩ : ∃ Y, List.zipWith or a b = Y := ⟨_, rfl⟩
  obtain ⟨Z, hZ⟩ : ∃ Z, a.map not = Z := ⟨_, rfl⟩
  have hXl : X.length = n := by rw [← hX, List.length_zipWith, hn, hm, Nat.min_self]
  have hYl : Y.length = n := by rw [← hY, List.length_zipWith, hn, hm, Nat.min_self]
  have hZl : Z.length = n := by rw [← hZ, List.length_map, hn]
  obtain ⟨xa, hxa⟩ : ∃ xa, plc a = xa := ⟨_, rfl⟩
  obtain ⟨yb, hyb⟩ : ∃ yb, plc b = yb := ⟨_, rfl⟩
  obtain ⟨px, hpx⟩ : ∃ px, plc X = px := ⟨_, rfl⟩
  obtain ⟨py, hpy⟩ : ∃ py, plc Y = py := ⟨_, rfl⟩
  obtain ⟨pz, hpz⟩ : ∃ pz, plc Z = pz := ⟨_, rfl⟩
  have HAND : Hid (andL xa yb = px) := by
    unfold Hid
    rw [← hxa, ← hyb, ← hpx, ← hX]
    exact andL_plcF 0 a b (by omega)
  have HOR : Hid (orL xa yb = py) := by
    unfold Hid
    rw [← hxa, ← hyb, ← hpy, ← hY]
    exact orL_plcF 0 a b (by omega)
  have HNOT : Hid (notL 0 n xa = pz) := by
    unfold Hid
    rw [← hxa, ← hpz, ← hZ, ← hn]
    exact notL_plcF 0 a
  have hxl : xa.length ≤ 500 := by
    have := cnt_le a
    rw [← hxa, plc_len]
    omega
  have hyl : yb.length ≤ 500 := by
    have := cnt_le b
    rw [← hyb, plc_len]
    omega
  have HXI := Lib.hid (fun (k : Nat) (h1 : k < X.length) (h2 : k < a.length) (h3 : k < b.length) => show X[k] = (a[k] && b[k]) by subst hX; simp)
  have HYI := Lib.hid (fun (k : Nat) (h1 : k < Y.length) (h2 : k < a.length) (h3 : k < b.length) => show Y[k] = (a[k] || b[k]) by subst hY; simp)
  have HZI := Lib.hid (fun (k : Nat) (h1 : k < Z.length) (h2 : k < a.length) => show Z[k] = !a[k] by subst hZ; simp)
  have HA := Lib.hid h
  have HB0 := Lib.hid h2
  have HN := Lib.hid hn
  have HM := Lib.hid hm
  have HXL := Lib.hid hXl
  have HYL := Lib.hid hYl
  have HZL := Lib.hid hZl
  have HXA := Lib.hid hxa
  have HYB := Lib.hid hyb
  have HPX := Lib.hid hpx
  have HPY := Lib.hid hpy
  have HPZ := Lib.hid hpz
  rw [hn] at hla
  rw [hm] at hlb
  clear h h2 hn hm hX hY hZ hXl hYl hZl hxa hyb hpx hpy hpz
  go_enter Try.func5, Try.ntmps5
  go_wp2_with fail
  refine (awake5_any _).mono ?_
  rintro r w1 ⟨rfl, hb1⟩
  have HA1 := Lib.hid (HA.out.below hb1 (Nat.le_refl _))
  have HB1 := Lib.hid (HB0.out.below hb1 (Nat.le_refl _))
  have K1 := Lib.hid hb1
  have s1 := hb1.size
  clear hb1 HA HB0
  go_wp2_with fail
  go_loopw [5, 6, 7, 8] (fun v5 v6 v7 i wr => ∃ (k : Nat) (bx by0 bz : List Bool) (A5 A6 A7 : Option Addr) (c5 c6 c7 : Nat), k ≤ n ∧ i = .int .i64 (k : Int) ∧ v5 = .slice A5 bx.length c5 ∧ v6 = .slice A6 by0.length c6 ∧ v7 = .slice A7 bz.length c7 ∧
    bx = X.take k ∧ by0 = Y.take k ∧ bz = Z.take k ∧ Tri wr w1.heap.size (.slice A5 bx.length c5) (.slice A6 by0.length c6) (.slice A7 bz.length c7) bx by0 bz ∧ Below w1.heap.size w1 wr) (fun _ _ _ i _ => n - (intOf i).toNat)
  case atStart => exact ⟨0, [], [], [], none, none, none, 0, 0, 0, Nat.zero_le _, rfl, rfl, rfl, rfl, rfl, rfl, rfl, Tri.nil _ _, Below.refl _ _⟩
  case round =>
    obtain ⟨k, bx, by0, bz, A5, A6, A7, c5, c6, c7, hk, rfl, rfl, rfl, rfl, hbx, hby, hbz, htri, hbel⟩ := hrel
    have hxk : bx.length ≤ k := by rw [hbx, List.length_take]; omega
    have hyk : by0.length ≤ k := by rw [hby, List.length_take]; omega
    have hzk : bz.length ≤ k := by rw [hbz, List.length_take]; omega
    have HBX := Lib.hid hbx
    have HBY := Lib.hid hby
    have HBZ := Lib.hid hbz
    have HT := Lib.hid htri
    have HB := Lib.hid hbel
    have hsz := hbel.size
    clear hbx hby hbz htri hbel
    by_cases hltn : k < n
    · have hlt : k < a.length := by rw [HN.out]; exact hltn
      have hlt2 : k < b.length := by rw [HM.out]; exact hltn
      have hx1 : k < X.length := by rw [HXL.out]; exact hltn
      have hy1 : k < Y.length := by rw [HYL.out]; exact hltn
      have hz1 : k < Z.length := by rw [HZL.out]; exact hltn
      obtain ⟨b1, o1, rfl, _, hb1h, hcell1⟩ := HA1.out.row hlt
      obtain ⟨b2, o2, rfl, _, hb2h, hcell2⟩ := HB1.out.row hlt2
      cases hxe : a[k]
      · have HX1 : Hid (bx ++ [false] = X.take (k + 1)) := take_row X k hx1 bx HBX.out false (by rw [HXI.out k hx1 hlt hlt2, hxe]; rfl)
        have HY1 : Hid (by0 ++ [b[k]] = Y.take (k + 1)) := take_row Y k hy1 by0 HBY.out b[k] (by rw [HYI.out k hy1 hlt hlt2, hxe]; rfl)
        have HZ1 : Hid (bz ++ [true] = Z.take (k + 1)) := take_row Z k hz1 bz HBZ.out true (by rw [HZI.out k hz1 hlt, hxe]; rfl)
        rw [hxe] at hcell1
        have HC1 := fun (wx : World) (hb : Below w1.heap.size w1 wx) => Lib.hid ((hb.cell (p := ⟨b1, o1 + k, none⟩) (by show b1 < w1.heap.size; omega)).trans hcell1)
        have HC2 := fun (wx : World) (hb : Below w1.heap.size w1 wx) => Lib.hid ((hb.cell (p := ⟨b2, o2 + k, none⟩) (by show b2 < w1.heap.size; omega)).trans hcell2)
        have hca := (HC1 _ HB.out).out
        have hcb := (HC2 _ HB.out).out
        clear HBX HBY HBZ hxe hcell1 hcell2
        generalize b[k] = y at *
        go_wp2_with (at_builtin; refine wpList_push_bool (v := .slice A5 bx.length c5) w1.heap.size bx false rfl _ _ rfl rfl rfl rfl (by rw [World.cell?_alloc_at _ _ _ _ rfl]; rfl) (HT.out.o1.alloc _) (by omega) (by simp; omega) ?_; intro A5' c5' w5 ho5 hg5 hb5; refine held ?_)
        refine ⟨?_⟩
        have k5 : Below w1.heap.size w1 w5 := (HB.out.alloc hsz _).grown hg5 (by simp; omega) (own_row HT.out.o1)
        have T5 := Lib.hid (HT.out.push _ ho5 hg5 hb5).rot
        have K5 := Lib.hid k5
        have s5 := k5.size
        have hca5 := (HC1 _ k5).out
        have hcb5 := (HC2 _ k5).out
        clear ho5 hg5 hb5 k5 HT HB hca hcb
        go_wp2_with (at_builtin; refine wpList_push_bool (v := .slice A6 by0.length c6) w1.heap.size by0 y rfl _ _ rfl rfl rfl rfl (by rw [World.cell?_alloc_at _ _ _ _ rfl]; rfl) (T5.out.o1.alloc _) (by omega) (by simp; omega) ?_; intro A6' c6' w6 ho6 hg6 hb6; refine held ?_)
        refine ⟨?_⟩
        have k6 : Below w1.heap.size w1 w6 := (K5.out.alloc s5 _).grown hg6 (by simp; omega) (own_row T5.out.o1)
        have T6 := Lib.hid (T5.out.push _ ho6 hg6 hb6).rot
        have K6 := Lib.hid k6
        have s6 := k6.size
        have hca6 := (HC1 _ k6).out
        have hcb6 := (HC2 _ k6).out
        clear ho6 hg6 hb6 k6 T5 K5 hca5 hcb5
        go_wp2_with (at_builtin; refine wpList_push_bool (v := .slice A7 bz.length c7) w1.heap.size bz true rfl _ _ rfl rfl rfl rfl (by rw [World.cell?_alloc_at _ _ _ _ rfl]; rfl) (T6.out.o1.alloc _) (by omega) (by simp; omega) ?_; intro A7' c7' w7 ho7 hg7 hb7; refine held ?_)
        refine ⟨?_⟩
        have k7 : Below w1.heap.size w1 w7 := (K6.out.alloc s6 _).grown hg7 (by simp; omega) (own_row T6.out.o1)
        have T7 := Lib.hid (T6.out.push _ ho7 hg7 hb7).rot
        have K7 := Lib.hid k7
        clear ho7 hg7 hb7 k7 T6 K6 hca6 hcb6
        go_wp2
        go_roundw
        case rel => exact ⟨k + 1, bx ++ [false], by0 ++ [y], bz ++ [true], A5', A6', A7', c5', c6', c7', by omega, by go_num, by simp, by simp, by simp, HX1.out, HY1.out, HZ1.out, T7.out, K7.out⟩
        case measure => simp [intOf]; omega
      · have HX1 : Hid (bx ++ [b[k]] = X.take (k + 1)) := take_row X k hx1 bx HBX.out b[k] (by rw [HXI.out k hx1 hlt hlt2, hxe]; rfl)
        have HY1 : Hid (by0 ++ [true] = Y.take (k + 1)) := take_row Y k hy1 by0 HBY.out true (by rw [HYI.out k hy1 hlt hlt2, hxe]; rfl)
        have HZ1 : Hid (bz ++ [false] = Z.take (k + 1)) := take_row Z k hz1 bz HBZ.out false (by rw [HZI.out k hz1 hlt, hxe]; rfl)
        rw [hxe] at hcell1
        have HC1 := fun (wx : World) (hb : Below w1.heap.size w1 wx) => Lib.hid ((hb.cell (p := ⟨b1, o1 + k, none⟩) (by show b1 < w1.heap.size; omega)).trans hcell1)
        have HC2 := fun (wx : World) (hb : Below w1.heap.size w1 wx) => Lib.hid ((hb.cell (p := ⟨b2, o2 + k, none⟩) (by show b2 < w1.heap.size; omega)).trans hcell2)
        have hca := (HC1 _ HB.out).out
        have hcb := (HC2 _ HB.out).out
        clear HBX HBY HBZ hxe hcell1 hcell2
        generalize b[k] = y at *
        go_wp2_with (at_builtin; refine wpList_push_bool (v := .slice A5 bx.length c5) w1.heap.size bx y rfl _ _ rfl rfl rfl rfl (by rw [World.cell?_alloc_at _ _ _ _ rfl]; rfl) (HT.out.o1.alloc _) (by omega) (by simp; omega) ?_; intro A5' c5' w5 ho5 hg5 hb5; refine held ?_)
        refine ⟨?_⟩
        have k5 : Below w1.heap.size w1 w5 := (HB.out.alloc hsz _).grown hg5 (by simp; omega) (own_row HT.out.o1)
        have T5 := Lib.hid (HT.out.push _ ho5 hg5 hb5).rot
        have K5 := Lib.hid k5
        have s5 := k5.size
        have hca5 := (HC1 _ k5).out
        have hcb5 := (HC2 _ k5).out
        clear ho5 hg5 hb5 k5 HT HB hca hcb
        go_wp2_with (at_builtin; refine wpList_push_bool (v := .slice A6 by0.length c6) w1.heap.size by0 true rfl _ _ rfl rfl rfl rfl (by rw [World.cell?_alloc_at _ _ _ _ rfl]; rfl) (T5.out.o1.alloc _) (by omega) (by simp; omega) ?_; intro A6' c6' w6 ho6 hg6 hb6; refine held ?_)
        refine ⟨?_⟩
        have k6 : Below w1.heap.size w1 w6 := (K5.out.alloc s5 _).grown hg6 (by simp; omega) (own_row T5.out.o1)
        have T6 := Lib.hid (T5.out.push _ ho6 hg6 hb6).rot
        have K6 := Lib.hid k6
        have s6 := k6.size
        have hca6 := (HC1 _ k6).out
        have hcb6 := (HC2 _ k6).out
        clear ho6 hg6 hb6 k6 T5 K5 hca5 hcb5
        go_wp2_with (at_builtin; refine wpList_push_bool (v := .slice A7 bz.length c7) w1.heap.size bz false rfl _ _ rfl rfl rfl rfl (by rw [World.cell?_alloc_at _ _ _ _ rfl]; rfl) (T6.out.o1.alloc _) (by omega) (by simp; omega) ?_; intro A7' c7' w7 ho7 hg7 hb7; refine held ?_)
        refine ⟨?_⟩
        have k7 : Below w1.heap.size w1 w7 := (K6.out.alloc s6 _).grown hg7 (by simp; omega) (own_row T6.out.o1)
        have T7 := Lib.hid (T6.out.push _ ho7 hg7 hb7).rot
        have K7 := Lib.hid k7
        clear ho7 hg7 hb7 k7 T6 K6 hca6 hcb6
        go_wp2
        go_roundw
        case rel => exact ⟨k + 1, bx ++ [y], by0 ++ [true], bz ++ [false], A5', A6', A7', c5', c6', c7', by omega, by go_num, by simp, by simp, by simp, HX1.out, HY1.out, HZ1.out, T7.out, K7.out⟩
        case measure => simp [intOf]; omega
    · obtain rfl : k = n := by omega
      obtain rfl : X = bx := by rw [HBX.out, ← HXL.out, List.take_length]
      obtain rfl : Y = by0 := by rw [HBY.out, ← HYL.out, List.take_length]
      obtain rfl : Z = bz := by rw [HBZ.out, ← HZL.out, List.take_length]
      have HA2 := Lib.hid (HA1.out.below HB.out s1)
      have HB2 := Lib.hid (HB1.out.below HB.out s1)
      have X2 := Lib.hid (rd_own HT.out.o1)
      have Y2 := Lib.hid (rd_own HT.out.o2)
      have Z2 := Lib.hid (rd_own HT.out.o3)
      have K2 := Lib.hid (below_below K1.out HB.out s1)
      have s2 : w.heap.size ≤ wr.heap.size := by omega
      clear HBX HBY HBZ HT HB hsz HA1 HB1 K1 hxk hyk hzk
      go_wp2_with fail
      refine (places_len a xa k HN.out HXA.out HA2.out s2 (by omega)).mono ?_
      rintro r w3 ⟨A3, c3, rfl, ho3, hb3⟩
      have P3 := Lib.hid (rd_nums ho3)
      have HB3 := Lib.hid (HB2.out.below hb3 s2)
      have X3 := Lib.hid (X2.out.below hb3 (Nat.le_refl _))
      have Y3 := Lib.hid (Y2.out.below hb3 (Nat.le_refl _))
      have Z3 := Lib.hid (Z2.out.below hb3 (Nat.le_refl _))
      have K3 := Lib.hid (below_below K2.out hb3 s2)
      have s3 := hb3.size
      clear ho3 hb3 HA2 HB2 X2 Y2 Z2 K2
      go_wp2_with fail
      refine (places_len b yb k HM.out HYB.out HB3.out (by omega) (by omega)).mono ?_
      rintro r w4 ⟨A4, c4, rfl, ho4, hb4⟩
      have P4 := Lib.hid (P3.out.below hb4 (Nat.le_refl _))
      have Q4 := Lib.hid (rd_nums ho4)
      have X4 := Lib.hid (X3.out.below hb4 (by omega))
      have Y4 := Lib.hid (Y3.out.below hb4 (by omega))
      have Z4 := Lib.hid (Z3.out.below hb4 (by omega))
      have K4 := Lib.hid (below_below K3.out hb4 (by omega))
      have s4 := hb4.size
      clear ho4 hb4 HB3 P3 X3 Y3 Z3 K3
      go_wp2_with fail
      refine (and_any xa yb px HAND.out P4.out Q4.out (by omega) (by omega) (by omega) (by omega)).mono ?_
      rintro r w5 ⟨A8, c8, rfl, ho5, hb5⟩
      have R5 := Lib.hid (rd_nums ho5)
      have P5 := Lib.hid (P4.out.below hb5 (by omega))
      have Q5 := Lib.hid (Q4.out.below hb5 (by omega))
      have X5 := Lib.hid (X4.out.below hb5 (by omega))
      have Y5 := Lib.hid (Y4.out.below hb5 (by omega))
      have Z5 := Lib.hid (Z4.out.below hb5 (by omega))
      have K5 := Lib.hid (below_below K4.out hb5 (by omega))
      have s5 := hb5.size
      clear ho5 hb5 P4 Q4 X4 Y4 Z4 K4
      go_wp2_with fail
      refine (places_any X px HPX.out X5.out (by omega) (by rw [HXL.out]; omega)).mono ?_
      rintro r w6 ⟨A9, c9, rfl, ho6, hb6⟩
      have S6 := Lib.hid (rd_nums ho6)
      have R6 := Lib.hid (R5.out.below hb6 (by omega))
      have P6 := Lib.hid (P5.out.below hb6 (by omega))
      have Q6 := Lib.hid (Q5.out.below hb6 (by omega))
      have Y6 := Lib.hid (Y5.out.below hb6 (by omega))
      have Z6 := Lib.hid (Z5.out.below hb6 (by omega))
      have K6 := Lib.hid (below_below K5.out hb6 (by omega))
      have s6 := hb6.size
      clear ho6 hb6 R5 P5 Q5 X5 Y5 Z5 K5
      go_wp2_with fail
      refine (ints_len px px true R6.out S6.out rfl rfl (decide_eq_true rfl)).mono ?_
      rintro r w' ⟨rfl, q7, rfl⟩
      have P7 : Hid (Rd (w6.drewN q7) 0 w3.heap.size A3 c3 (iv xa)) := P6.out.drewN q7
      have Q7 : Hid (Rd (w6.drewN q7) 0 w4.heap.size A4 c4 (iv yb)) := Q6.out.drewN q7
      have Y7 : Hid (Rd (w6.drewN q7) 0 wr.heap.size A6 c6 (lv Y)) := Y6.out.drewN q7
      have Z7 : Hid (Rd (w6.drewN q7) 0 wr.heap.size A7 c7 (lv Z)) := Z6.out.drewN q7
      have K7 := Lib.hid (below_drewN' K6.out q7)
      have s7 : w6.heap.size ≤ (w6.drewN q7).heap.size := Nat.le_refl _
      clear R6 S6 P6 Q6 Y6 Z6 K6
      generalize w6.drewN q7 = w7 at *
      go_wp2_with fail
      refine (or_any xa yb py HOR.out P7.out Q7.out (by omega) (by omega) (by omega) (by omega)).mono ?_
      rintro r w8 ⟨A10, c10, rfl, ho8, hb8⟩
      have R8 := Lib.hid (rd_nums ho8)
      have P8 := Lib.hid (P7.out.below hb8 (by omega))
      have Y8 := Lib.hid (Y7.out.below hb8 (by omega))
      have Z8 := Lib.hid (Z7.out.below hb8 (by omega))
      have K8 := Lib.hid (below_below K7.out hb8 (by omega))
      have s8 := hb8.size
      clear ho8 hb8 P7 Q7 Y7 Z7 K7
      go_wp2_with fail
      refine (places_any Y py HPY.out Y8.out (by omega) (by rw [HYL.out]; omega)).mono ?_
      rintro r w9 ⟨A11, c11, rfl, ho9, hb9⟩
      have S9 := Lib.hid (rd_nums ho9)
      have R9 := Lib.hid (R8.out.below hb9 (by omega))
      have P9 := Lib.hid (P8.out.below hb9 (by omega))
      have Z9 := Lib.hid (Z8.out.below hb9 (by omega))
      have K9 := Lib.hid (below_below K8.out hb9 (by omega))
      have s9 := hb9.size
      clear ho9 hb9 R8 P8 Y8 Z8 K8
      go_wp2_with fail
      refine (ints_len py py true R9.out S9.out rfl rfl (decide_eq_true rfl)).mono ?_
      rintro r w' ⟨rfl, q10, rfl⟩
      have P10 : Hid (Rd (w9.drewN q10) 0 w3.heap.size A3 c3 (iv xa)) := P9.out.drewN q10
      have Z10 : Hid (Rd (w9.drewN q10) 0 wr.heap.size A7 c7 (lv Z)) := Z9.out.drewN q10
      have K10 := Lib.hid (below_drewN' K9.out q10)
      have s10 : w9.heap.size ≤ (w9.drewN q10).heap.size := Nat.le_refl _
      clear R9 S9 P9 Z9 K9
      generalize w9.drewN q10 = w10 at *
      go_wp2_with fail
      refine (pnot_any xa pz k HNOT.out P10.out (by omega) (by omega)).mono ?_
      rintro r w11 ⟨A12, c12, rfl, ho11, hb11⟩
      have R11 := Lib.hid (rd_nums ho11)
      have Z11 := Lib.hid (Z10.out.below hb11 (by omega))
      have K11 := Lib.hid (below_below K10.out hb11 (by omega))
      have s11 := hb11.size
      clear ho11 hb11 P10 Z10 K10
      go_wp2_with fail
      refine (places_any Z pz HPZ.out Z11.out (by omega) (by rw [HZL.out]; omega)).mono ?_
      rintro r w12 ⟨A13, c13, rfl, ho12, hb12⟩
      have S12 := Lib.hid (rd_nums ho12)
      have R12 := Lib.hid (R11.out.below hb12 (by omega))
      have K12 := Lib.hid (below_below K11.out hb12 (by omega))
      clear ho12 hb12 R11 Z11 K11
      go_wp2_with fail
      refine (ints_len pz pz true R12.out S12.out rfl rfl (decide_eq_true rfl)).mono ?_
      rintro r w' ⟨rfl, q13, rfl⟩
      go_wp2
      go_ret
      exact ⟨rfl, below_drewN' K12.out q13⟩

set_option maxRecDepth 20000 in
set_option maxHeartbeats 400000 in
theorem pickRules_walk {w : World} {A B : Option Addr} {a b : List Bool} {c d : Nat} (h : Rd w 0 w.heap.size A c (lv a)) (h2 : Rd w 0 w.heap.size B d (lv b)) :
    Calls Try.prog 5 #[.slice A a.length c, .slice B b.length d] w fun e w' => e = .returned (.bool true) ∧ Below w.heap.size w w' := by
  by_cases h500 : a.length ≤ 500
  · by_cases hlen : b.length = a.length
    · have := prules_like h h2 a.length rfl hlen h500
      rw [hlen]
      exact this
    · have hne : ((b.length : Int) != (a.length : Int)) = true := by rw [bne_iff_ne]; omega
      clear h h2 hlen
      go_enter Try.func5, Try.ntmps5
      go_wp2_with fail
      refine (awake5_any _).mono ?_
      rintro r w1 ⟨rfl, hb1⟩
      have HB1 := Lib.hid hb1
      clear hb1
      go_wp2_with fail
      refine (awake5_any _).mono ?_
      rintro r w2 ⟨rfl, hb2⟩
      have HB2 := Lib.hid hb2
      clear hb2
      go_wp2
      go_ret
      exact ⟨rfl, below_below HB1.out HB2.out HB1.out.size⟩
  · clear h h2
    go_enter Try.func5, Try.ntmps5
    go_wp2_with fail
    refine (awake5_any _).mono ?_
    rintro r w1 ⟨rfl, hb1⟩
    have HB1 := Lib.hid hb1
    clear hb1
    go_wp2_with fail
    refine (awake5_any _).mono ?_
    rintro r w2 ⟨rfl, hb2⟩
    have HB2 := Lib.hid hb2
    clear hb2
    go_wp2
    go_ret
    exact ⟨rfl, below_below HB1.out HB2.out HB1.out.size⟩

set_option maxRecDepth 100000 in
theorem pickRules_lifted (os : Os) (started : os.Started) (H : Type) (enc : TypeId × Value → H) :
    ReturnsInHanded {} Try.checked os 5 .any (Rows.pickRulesSpec.pre6 enc Try.prog Try.f5 Rows.pickRulesRow.domain false) (Rows.pickRulesSpec.post enc Try.prog Try.f5 false true false false) := by
  refine returnsInHanded_of_change (C := Try.checked) own started (by kernel_rfl) Try.func5
    (ChangeSpec.witness6 (enc := enc) (C := Try.checked) false ⟨#[], #[.slice none 0 0, .slice none 0 0], []⟩ 8 (by kernel_rfl) (by kernel_rfl) (by kernel_rfl) (by kernel_rfl)) ?_
  intro W base args ds gs before hval0 hW hcnd _
  have hval : ∀ (j : Nat) t v, Try.f5.params[j]? = some t → args[j]? = some v → Value.okWide Try.prog W .any base t v := hval0
  have hW' := hW
  obtain ⟨p, q, hA0, hV, rfl, hfz, hnd⟩ := hW
  have hA : DataW.TrodAll enc Try.prog W 0 (fun _ => true) true Try.f5.params.toList args.toList ds p := hA0
  have hA1 : DataW.TrodAll enc Try.prog W 0 (fun _ => true) true Try.f5.params.toList args.toList ds p := hA0
  rw [Try.params5] at hA hval
  obtain ⟨v0, vs0, d0, ds0, p0, q0, hargs, rfl, rfl, h0, r0⟩ := trodAll_cons hA
  obtain ⟨v1, vs1, d1, ds1, p1, q1, rfl, rfl, rfl, h1, r1⟩ := trodAll_cons r0
  obtain ⟨rfl, rfl, rfl⟩ := trodAll_nil r1
  obtain rfl : args = #[v0, v1] := by cases args; simp_all
  obtain ⟨rfl, rfl⟩ := trodVars_none hV
  obtain ⟨A0, a0, c0, rfl, w0⟩ := open_bools' Try.underlying25 Try.underlying4 (by kernel_rfl) (hval 0 25 v0 rfl rfl) h0
  obtain ⟨A1, a1, c1, rfl, w1⟩ := open_bools' Try.underlying25 Try.underlying4 (by kernel_rfl) (hval 1 25 v1 rfl rfl) h1
  clear hA0 hval0
  refine (pickRules_walk (w := W) w0 w1).mono fun e W' ⟨he, bel⟩ => ?_
  subst he
  exact ⟨_, rfl, _, _, _, [], _, [], hW', trodAll_mk1 (shut_bool Try.underlying4 _), trodAll_below laidOut bel _ _ _ _ (by kernel_rfl) hA1, rfl, bel.frame _, fun h => by cases h⟩

theorem pickRules_over : Rows.pickRulesRow.holds Try.pinned (OpenSpec.ofChange Rows.pickRulesSpec) :=
  OpenClaim.holds_of_wide 5 Try.f5 rfl rfl rfl rfl rfl rfl rfl ⟨rfl, rfl, rfl, rfl, rfl⟩ rfl rfl rfl rfl rfl (by kernel_rfl) Try.func5 (by kernel_rfl)
    (of_decide_eq_true (by kernel_rfl)) (by unfold Func.isWrapper; first | (rw [if_pos (by decide +kernel)]; kernel_rfl) | (rw [if_neg (by decide +kernel)]; exact ⟨rfl, rfl⟩))
    (fun os started H enc _ => pickRules_lifted os started H enc)

/-- The statement. -/
theorem pickRules_proved : Rows.PickRulesSaid := pickRules_over


end Go.Proofs.Ytfjclconpiibgaa
