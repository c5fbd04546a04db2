/-
  Proved: BitmapRules returns true for every two lists of rows, and leaves what was there as it was. No condition.
-/
import Derived.Test.YtiainckeakhccaaLawB
import Derived.Test.YtiainckeakhccaaShellB
namespace Go.Proofs.Ytiainckeakhccaa
set_option linter.unusedSimpArgs false
set_option linter.unusedVariables false
open Go.ChangeShapes Go.WideShapes Go.ChangeAt Go.RowKit

set_option maxRecDepth 20000 in
set_option maxHeartbeats 1000000 in
theorem rules_like {w : World} {A B : Option Addr} {a b : List Bool} {c d : Nat} (h : Rd w 0 w.heap.size A c (lv a)) (h2 : Rd w 0 w.heap.size B d (lv b)) (n : Nat) (hn : a.length = n) (hm : b.length = n) (h300 : n ≤ 300) :
    Calls Try.prog 6 #[.slice A n c, .slice B n d] w fun e w' => e = .returned (.bool true) ∧ Below w.heap.size w w' := by
  obtain ⟨X, hX⟩ : ∃ X, List.zipWith and a b = X := ⟨_, rfl⟩
  obtain ⟨Y, hY⟩ : ∃ Y, List.zipWith or a b = Y := ⟨_, rfl⟩
  have hXl : X.length = n := by rw [← hX, List.length_zipWith, hn, hm, Nat.min_self]
  have hYl : Y.length = n := by rw [← hY, List.length_zipWith, hn, hm, Nat.min_self]
  have HXI := Lib.hid (fun (k : Nat) (h1 : k < X.length) (h2 : k < a.length) (h3 : k < b.length) => show X[k] = (a[k] && b[k]) by subst hX; simp)
  have HYI := Lib.hid (fun (k : Nat) (h1 : k < Y.length) (h2 : k < a.length) (h3 : k < b.length) => show Y[k] = (a[k] || b[k]) by subst hY; simp)
  have HZ : Hid (List.zipWith or (a.map not) (b.map not) = X.map not) := by unfold Hid; rw [← hX, not_zip]
  have HAO : Hid (cnt X + cnt Y = cnt a + cnt b) := by unfold Hid; rw [← hX, ← hY]; exact cnt_and_or a b (by rw [hn, hm])
  have HNN : Hid ((a.map not).map not = a) := not_not_map a
  have HX := Lib.hid hX
  have HY := Lib.hid hY
  have HXL := Lib.hid hXl
  have HYL := Lib.hid hYl
  have HN := Lib.hid hn
  have HM := Lib.hid hm
  have HXN : Hid ((X.map not).length = n) := by unfold Hid; rw [List.length_map, hXl]
  have HAN : Hid ((a.map not).length = n) := by unfold Hid; rw [List.length_map, hn]
  have HBN : Hid ((b.map not).length = n) := by unfold Hid; rw [List.length_map, hm]
  have hca := cnt_le a
  have hcb := cnt_le b
  have hcx := cnt_le X
  have hcy := cnt_le Y
  rw [hn] at hca
  rw [hm] at hcb
  rw [hXl] at hcx
  rw [hYl] at hcy
  have HA := Lib.hid h
  have HB := Lib.hid h2
  clear h h2 hn hm hX hY hXl hYl
  go_enter Try.func6, Try.ntmps6
  go_wp2_with fail
  refine (awake4_any _).mono ?_
  rintro r w1 ⟨rfl, hb1⟩
  have HA1 := Lib.hid (HA.out.below hb1 (Nat.le_refl _))
  have HB1 := Lib.hid (HB.out.below hb1 (Nat.le_refl _))
  have K1 := Lib.hid hb1
  have s1 := hb1.size
  clear hb1 HA HB
  go_wp2_with fail
  refine (and_len a b X n HX.out HA1.out HB1.out s1 s1 HN.out HM.out (by omega)).mono ?_
  rintro r w2 ⟨A2, c2, rfl, ho2, hb2⟩
  have HX2 := Lib.hid (rd_own ho2)
  have HA2 := Lib.hid (HA1.out.below hb2 s1)
  have HB2 := Lib.hid (HB1.out.below hb2 s1)
  have K2 := Lib.hid (below_below K1.out hb2 s1)
  have s2 := hb2.size
  clear ho2 hb2 HA1 HB1
  go_wp2_with fail
  refine (or_len a b Y n HY.out HA2.out HB2.out (by omega) (by omega) HN.out HM.out (by omega)).mono ?_
  rintro r w3 ⟨A3, c3, rfl, ho3, hb3⟩
  have HY3 := Lib.hid (rd_own ho3)
  have HX3 := Lib.hid (HX2.out.below hb3 (Nat.le_refl _))
  have HA3 := Lib.hid (HA2.out.below hb3 (by omega))
  have HB3 := Lib.hid (HB2.out.below hb3 (by omega))
  have K3 := Lib.hid (below_below K2.out hb3 (by omega))
  have s3 := hb3.size
  clear ho3 hb3 HA2 HB2 HX2
  go_wp2_with fail
  go_loopw [7] (fun i wr => ∃ (k q : Nat), k ≤ n ∧ i = .int .i64 (k : Int) ∧ w3.drewN q = wr) (fun i _ => n - (intOf i).toNat)
  case atStart => exact ⟨0, 0, Nat.zero_le _, rfl, rfl⟩
  case round =>
    obtain ⟨k, q, hk, rfl, rfl⟩ := hrel
    by_cases hlt : k < n
    · have k1 : k < a.length := by rw [HN.out]; exact hlt
      have k2 : k < b.length := by rw [HM.out]; exact hlt
      have k3 : k < X.length := by rw [HXL.out]; exact hlt
      have k4 : k < Y.length := by rw [HYL.out]; exact hlt
      obtain ⟨b1, o1, rfl, _, _, hcell1⟩ := HA3.out.row k1
      obtain ⟨b2, o2, rfl, _, _, hcell2⟩ := HB3.out.row k2
      obtain ⟨b3, o3, rfl, _, _, hcell3⟩ := HX3.out.row k3
      obtain ⟨b4, o4, rfl, _, _, hcell4⟩ := HY3.out.row k4
      have hca1 := HA3.out.len
      have hcb1 := HB3.out.len
      have hcx1 := HX3.out.len
      have hcy1 := HY3.out.len
      rw [HXI.out k k3 k1 k2] at hcell3
      rw [HYI.out k k4 k1 k2] at hcell4
      generalize a[k] = x at *
      generalize b[k] = y at *
      clear k1 k2 k3 k4
      cases x <;> cases y
      all_goals
        try simp only [Bool.and_true, Bool.and_false, Bool.true_and, Bool.false_and, Bool.or_true, Bool.or_false, Bool.true_or, Bool.false_or, Bool.and_self, Bool.or_self] at hcell3 hcell4
        go_wp2_with fail
        go_quiet (fail)
        go_wp2
        go_roundw
        case rel => exact ⟨k + 1, _, by omega, by go_num, rfl⟩
        case measure => simp [intOf]; omega
    · obtain rfl : k = n := by omega
      have HA4 : Hid (Rd (w3.drewN q) 0 w.heap.size A c (lv a)) := HA3.out.drewN q
      have HB4 : Hid (Rd (w3.drewN q) 0 w.heap.size B d (lv b)) := HB3.out.drewN q
      have HX4 : Hid (Rd (w3.drewN q) 0 w2.heap.size A2 c2 (lv X)) := HX3.out.drewN q
      have HY4 : Hid (Rd (w3.drewN q) 0 w3.heap.size A3 c3 (lv Y)) := HY3.out.drewN q
      have K4 := Lib.hid (below_drewN' K3.out q)
      have s4 : (w3.drewN q).heap.size = w3.heap.size := rfl
      clear HA3 HB3 HX3 HY3
      generalize w3.drewN q = w4 at *
      go_wp2_with fail
      refine (not_len X _ k rfl HXL.out HX4.out (by omega) (by omega)).mono ?_
      rintro r w5 ⟨A5, c5, rfl, ho5, hb5⟩
      have HNX5 := Lib.hid (rd_own ho5)
      have HA5 := Lib.hid (HA4.out.below hb5 (by omega))
      have HB5 := Lib.hid (HB4.out.below hb5 (by omega))
      have HX5 := Lib.hid (HX4.out.below hb5 (by omega))
      have HY5 := Lib.hid (HY4.out.below hb5 (by omega))
      have K5 := Lib.hid (below_below K4.out hb5 (by omega))
      have s5 := hb5.size
      clear ho5 hb5 HA4 HB4 HX4 HY4
      go_wp2_with fail
      refine (not_len a _ k rfl HN.out HA5.out (by omega) (by omega)).mono ?_
      rintro r w6 ⟨A6, c6, rfl, ho6, hb6⟩
      have HNA6 := Lib.hid (rd_own ho6)
      have HNX6 := Lib.hid (HNX5.out.below hb6 (by omega))
      have HA6 := Lib.hid (HA5.out.below hb6 (by omega))
      have HB6 := Lib.hid (HB5.out.below hb6 (by omega))
      have HX6 := Lib.hid (HX5.out.below hb6 (by omega))
      have HY6 := Lib.hid (HY5.out.below hb6 (by omega))
      have K6 := Lib.hid (below_below K5.out hb6 (by omega))
      have s6 := hb6.size
      clear ho6 hb6 HA5 HB5 HX5 HY5 HNX5
      go_wp2_with fail
      refine (not_len b _ k rfl HM.out HB6.out (by omega) (by omega)).mono ?_
      rintro r w7 ⟨A7, c7, rfl, ho7, hb7⟩
      have HNB7 := Lib.hid (rd_own ho7)
      have HNA7 := Lib.hid (HNA6.out.below hb7 (by omega))
      have HNX7 := Lib.hid (HNX6.out.below hb7 (by omega))
      have HA7 := Lib.hid (HA6.out.below hb7 (by omega))
      have HB7 := Lib.hid (HB6.out.below hb7 (by omega))
      have HX7 := Lib.hid (HX6.out.below hb7 (by omega))
      have HY7 := Lib.hid (HY6.out.below hb7 (by omega))
      have K7 := Lib.hid (below_below K6.out hb7 (by omega))
      have s7 := hb7.size
      clear ho7 hb7 HA6 HB6 HX6 HY6 HNX6 HNA6
      go_wp2_with fail
      refine (or_len (a.map not) (b.map not) (X.map not) k HZ.out HNA7.out HNB7.out (by omega) (by omega) HAN.out HBN.out (by omega)).mono ?_
      rintro r w8 ⟨A8, c8, rfl, ho8, hb8⟩
      have HO8 := Lib.hid (rd_own ho8)
      have HNX8 := Lib.hid (HNX7.out.below hb8 (by omega))
      have HA8 := Lib.hid (HA7.out.below hb8 (by omega))
      have HB8 := Lib.hid (HB7.out.below hb8 (by omega))
      have HX8 := Lib.hid (HX7.out.below hb8 (by omega))
      have HY8 := Lib.hid (HY7.out.below hb8 (by omega))
      have K8 := Lib.hid (below_below K7.out hb8 (by omega))
      have s8 := hb8.size
      clear ho8 hb8 HA7 HB7 HX7 HY7 HNX7 HNA7 HNB7
      go_wp2_with fail
      refine (bsame_len (X.map not) (X.map not) true HNX8.out HO8.out HXN.out HXN.out (decide_eq_true rfl)).mono ?_
      rintro r w' ⟨rfl, q1, rfl⟩
      have HA9 : Hid (Rd (w8.drewN q1) 0 w.heap.size A c (lv a)) := HA8.out.drewN q1
      have HB9 : Hid (Rd (w8.drewN q1) 0 w.heap.size B d (lv b)) := HB8.out.drewN q1
      have HX9 : Hid (Rd (w8.drewN q1) 0 w2.heap.size A2 c2 (lv X)) := HX8.out.drewN q1
      have HY9 : Hid (Rd (w8.drewN q1) 0 w3.heap.size A3 c3 (lv Y)) := HY8.out.drewN q1
      have K9 := Lib.hid (below_drewN' K8.out q1)
      have s9 : (w8.drewN q1).heap.size = w8.heap.size := rfl
      clear HA8 HB8 HX8 HY8 HNX8 HO8
      generalize w8.drewN q1 = w9 at *
      go_wp2_with fail
      refine (not_len a _ k rfl HN.out HA9.out (by omega) (by omega)).mono ?_
      rintro r w10 ⟨A10, c10, rfl, ho10, hb10⟩
      have HNA10 := Lib.hid (rd_own ho10)
      have HA10 := Lib.hid (HA9.out.below hb10 (by omega))
      have HB10 := Lib.hid (HB9.out.below hb10 (by omega))
      have HX10 := Lib.hid (HX9.out.below hb10 (by omega))
      have HY10 := Lib.hid (HY9.out.below hb10 (by omega))
      have K10 := Lib.hid (below_below K9.out hb10 (by omega))
      have s10 := hb10.size
      clear ho10 hb10 HA9 HB9 HX9 HY9
      go_wp2_with fail
      refine (not_len (a.map not) a k HNN.out HAN.out HNA10.out (by omega) (by omega)).mono ?_
      rintro r w11 ⟨A11, c11, rfl, ho11, hb11⟩
      have HNN11 := Lib.hid (rd_own ho11)
      have HA11 := Lib.hid (HA10.out.below hb11 (by omega))
      have HB11 := Lib.hid (HB10.out.below hb11 (by omega))
      have HX11 := Lib.hid (HX10.out.below hb11 (by omega))
      have HY11 := Lib.hid (HY10.out.below hb11 (by omega))
      have K11 := Lib.hid (below_below K10.out hb11 (by omega))
      have s11 := hb11.size
      clear ho11 hb11 HA10 HB10 HX10 HY10 HNA10
      go_wp2_with fail
      refine (bsame_len a a true HNN11.out HA11.out HN.out HN.out (decide_eq_true rfl)).mono ?_
      rintro r w' ⟨rfl, q2, rfl⟩
      have HA12 : Hid (Rd (w11.drewN q2) 0 w.heap.size A c (lv a)) := HA11.out.drewN q2
      have HB12 : Hid (Rd (w11.drewN q2) 0 w.heap.size B d (lv b)) := HB11.out.drewN q2
      have HX12 : Hid (Rd (w11.drewN q2) 0 w2.heap.size A2 c2 (lv X)) := HX11.out.drewN q2
      have HY12 : Hid (Rd (w11.drewN q2) 0 w3.heap.size A3 c3 (lv Y)) := HY11.out.drewN q2
      have K12 := Lib.hid (below_drewN' K11.out q2)
      clear HA11 HB11 HX11 HY11 HNN11
      generalize w11.drewN q2 = w12 at *
      have C1 := Lib.hid (count_len X k _ HXL.out rfl HX12.out)
      have C2 := Lib.hid (count_len Y k _ HYL.out rfl HY12.out)
      have C3 := Lib.hid (count_len a k _ HN.out rfl HA12.out)
      have C4 := Lib.hid (count_len b k _ HM.out rfl HB12.out)
      generalize cnt X = cx at *
      generalize cnt Y = cy at *
      generalize cnt a = ca at *
      generalize cnt b = cb at *
      have hq : ((cx : Int) + (cy : Int) == (ca : Int) + (cb : Int)) = true := by rw [beq_iff_eq]; have := HAO.out; omega
      clear HAO
      go_wp2_with fail
      refine C1.out.mono ?_
      rintro r w' ⟨rfl, rfl⟩
      go_wp2_with fail
      refine C2.out.mono ?_
      rintro r w' ⟨rfl, rfl⟩
      go_wp2_with fail
      refine C3.out.mono ?_
      rintro r w' ⟨rfl, rfl⟩
      go_wp2_with fail
      refine C4.out.mono ?_
      rintro r w' ⟨rfl, rfl⟩
      go_wp2
      go_ret
      exact ⟨rfl, K12.out⟩

set_option maxRecDepth 20000 in
set_option maxHeartbeats 400000 in
theorem bitmapRules_walk {w : World} {A B : Option Addr} {a b : List Bool} {c d : Nat} (h : Rd w 0 w.heap.size A c (lv a)) (h2 : Rd w 0 w.heap.size B d (lv b)) :
    Calls Try.prog 6 #[.slice A a.length c, .slice B b.length d] w fun e w' => e = .returned (.bool true) ∧ Below w.heap.size w w' := by
  by_cases h300 : a.length ≤ 300
  · by_cases h3002 : b.length ≤ 300
    · by_cases hlen : a.length = b.length
      · have := rules_like h h2 a.length rfl hlen.symm h300
        rw [← hlen]
        exact this
      · have hne : ((a.length : Int) != (b.length : Int)) = true := by rw [bne_iff_ne]; omega
        have HAN := fun w1 : World => Lib.hid (and_none (w := w1) (A := A) (B := B) (c := c) (d := d) a.length b.length hlen)
        have HON := fun w1 : World => Lib.hid (or_none (w := w1) (A := A) (B := B) (c := c) (d := d) a.length b.length hlen)
        clear h h2 hlen
        go_enter Try.func6, Try.ntmps6
        go_wp2_with fail
        refine (awake4_any _).mono ?_
        rintro r w1 ⟨rfl, hb1⟩
        have HB1 := Lib.hid hb1
        clear hb1
        go_wp2_with fail
        refine (HAN _).out.mono ?_
        rintro r w' ⟨rfl, rfl⟩
        go_wp2_with fail
        refine (HON _).out.mono ?_
        rintro r w' ⟨rfl, rfl⟩
        go_wp2
        go_ret
        exact ⟨rfl, HB1.out⟩
    · clear h h2
      go_enter Try.func6, Try.ntmps6
      go_wp2_with fail
      refine (awake4_any _).mono ?_
      rintro r w1 ⟨rfl, hb1⟩
      have HB1 := Lib.hid hb1
      clear hb1
      go_wp2_with fail
      refine (awake4_any _).mono ?_
      rintro r w2 ⟨rfl, hb2⟩
      have HB2 := Lib.hid hb2
      clear hb2
      go_wp2
      go_ret
      exact ⟨rfl, below_below HB1.out HB2.out HB1.out.size⟩
  · clear h h2
    go_enter Try.func6, Try.ntmps6
    go_wp2_with fail
    refine (awake4_any _).mono ?_
    rintro r w1 ⟨rfl, hb1⟩
    have HB1 := Lib.hid hb1
    clear hb1
    go_wp2_with fail
    refine (awake4_any _).mono ?_
    rintro r w2 ⟨rfl, hb2⟩
    have HB2 := Lib.hid hb2
    clear hb2
    go_wp2
    go_ret
    exact ⟨rfl, below_below HB1.out HB2.out HB1.out.size⟩

set_option maxRecDepth 100000 in
theorem bitmapRules_lifted (os : Os) (started : os.Started) (H : Type) (enc : TypeId × Value → H) :
    ReturnsInHanded {} Try.checked os 6 .any (Rows.bitmapRulesSpec.pre6 enc Try.prog Try.f6 Rows.bitmapRulesRow.domain false) (Rows.bitmapRulesSpec.post enc Try.prog Try.f6 false true false false) := by
  refine returnsInHanded_of_change (C := Try.checked) own started (by kernel_rfl) Try.func6
    (ChangeSpec.witness6 (enc := enc) (C := Try.checked) false ⟨#[], #[.slice none 0 0, .slice none 0 0], []⟩ 8 (by kernel_rfl) (by kernel_rfl) (by kernel_rfl) (by kernel_rfl)) ?_
  intro W base args ds gs before hval0 hW hcnd _
  have hval : ∀ (j : Nat) t v, Try.f6.params[j]? = some t → args[j]? = some v → Value.okWide Try.prog W .any base t v := hval0
  have hW' := hW
  obtain ⟨p, q, hA0, hV, rfl, hfz, hnd⟩ := hW
  have hA : DataW.TrodAll enc Try.prog W 0 (fun _ => true) true Try.f6.params.toList args.toList ds p := hA0
  have hA1 : DataW.TrodAll enc Try.prog W 0 (fun _ => true) true Try.f6.params.toList args.toList ds p := hA0
  rw [Try.params6] at hA hval
  obtain ⟨v0, vs0, d0, ds0, p0, q0, hargs, rfl, rfl, h0, r0⟩ := trodAll_cons hA
  obtain ⟨v1, vs1, d1, ds1, p1, q1, rfl, rfl, rfl, h1, r1⟩ := trodAll_cons r0
  obtain ⟨rfl, rfl, rfl⟩ := trodAll_nil r1
  obtain rfl : args = #[v0, v1] := by cases args; simp_all
  obtain ⟨rfl, rfl⟩ := trodVars_none hV
  obtain ⟨A0, a0, c0, rfl, w0⟩ := open_bools' Try.underlying22 Try.underlying4 (by kernel_rfl) (hval 0 22 v0 rfl rfl) h0
  obtain ⟨A1, a1, c1, rfl, w1⟩ := open_bools' Try.underlying22 Try.underlying4 (by kernel_rfl) (hval 1 22 v1 rfl rfl) h1
  clear hA0 hval0
  refine (bitmapRules_walk (w := W) w0 w1).mono fun e W' ⟨he, bel⟩ => ?_
  subst he
  exact ⟨_, rfl, _, _, _, [], _, [], hW', trodAll_mk1 (shut_bool Try.underlying4 _), trodAll_below laidOut bel _ _ _ _ (by kernel_rfl) hA1, rfl, bel.frame _, fun h => by cases h⟩

theorem bitmapRules_over : Rows.bitmapRulesRow.holds Try.pinned (OpenSpec.ofChange Rows.bitmapRulesSpec) :=
  OpenClaim.holds_of_wide 6 Try.f6 rfl rfl rfl rfl rfl rfl rfl ⟨rfl, rfl, rfl, rfl, rfl⟩ rfl rfl rfl rfl rfl (by kernel_rfl) Try.func6 (by kernel_rfl)
    (of_decide_eq_true (by kernel_rfl)) (by unfold Func.isWrapper; first | (rw [if_pos (by decide +kernel)]; kernel_rfl) | (rw [if_neg (by decide +kernel)]; exact ⟨rfl, rfl⟩))
    (fun os started H enc _ => bitmapRules_lifted os started H enc)

/-- The statement. -/
theorem bitmapRules_proved : Rows.BitmapRulesSaid := bitmapRules_over


end Go.Proofs.Ytiainckeakhccaa
