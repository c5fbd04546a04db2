/-
  Proved: BitmapKeeps returns true for every list of rows, and leaves what was there as it was. No condition.
-/
import Derived.Test.YtiainckeakhccaaLawB
import Derived.Test.YtiainckeakhccaaBoolA
import Derived.Test.YtiainckeakhccaaShellB
namespace Go.Proofs.Ytiainckeakhccaa
set_option linter.unusedSimpArgs false
set_option linter.unusedVariables false
open Go.ChangeShapes Go.WideShapes Go.ChangeAt Go.RowKit

theorem and_same (l : List Bool) : List.zipWith and l l = l := by
  induction l with
  | nil => rfl
  | cons x r ih => simp [ih]

set_option maxRecDepth 20000 in
set_option maxHeartbeats 1000000 in
theorem bitmapKeeps_walk {w : World} {A : Option Addr} {a : List Bool} {c : Nat} (h : Rd w 0 w.heap.size A c (lv a)) :
    Calls Try.prog 7 #[.slice A a.length c] w fun e w' => e = .returned (.bool true) ∧ Below w.heap.size w w' := by
  have hl := h.len
  have hc := h.cap
  rw [lv_length] at hl
  unfold maxLen at hc
  have H := Lib.hid h
  clear h
  by_cases h300 : a.length ≤ 300
  · go_enter Try.func7, Try.ntmps7
    go_wp2_with fail
    refine (awake4_any _).mono ?_
    rintro r w1 ⟨rfl, hb1⟩
    have H1 := Lib.hid (H.out.below hb1 (Nat.le_refl _))
    have K1 := Lib.hid hb1
    have s1 := hb1.size
    clear hb1 H
    obtain ⟨A2, c2, w2, hrun, ho2, hg2⟩ := append_bools (w1.alloc (.cells #[] 4)) w1.heap.size (.slice (some ⟨w1.heap.size, 0, none⟩) 0 0) [] a a (by simp) (own_empty w1 _) (H1.out.alloc s1 _) (by simp; omega) (by simp)
    have k2 : Below w.heap.size w w2 := (K1.out.alloc s1 _).grown hg2 (by simp; omega) (by simp [Value.ownBlock]; omega)
    have H2 := Lib.hid ((H1.out.alloc s1 _).grown hg2 (by simp; omega) (by simp [Value.ownBlock]; omega))
    have HW2 := Lib.hid (rd_own ho2)
    have K2 := Lib.hid k2
    have s2 := k2.size
    clear ho2 hg2 k2 H1
    go_wp2_with (at_builtin; refine wpList_append_run rfl _ _ _ _ rfl rfl rfl hrun ?_)
    refine (and_len a a a a.length (and_same a) H2.out H2.out s2 s2 rfl rfl (by omega)).mono ?_
    rintro r w3 ⟨A3, c3, rfl, ho3, hb3⟩
    have HO3 := Lib.hid ho3
    have B3 := Lib.hid hb3
    have s3 := hb3.size
    have H3 := Lib.hid (H2.out.below hb3 s2)
    clear ho3 hb3
    go_wp2_with fail
    refine (not_len a _ a.length rfl rfl H3.out (by omega) (by omega)).mono ?_
    rintro r w4 ⟨A4, c4, rfl, ho4, hb4⟩
    have HO4 := Lib.hid ho4
    have HO34 := Lib.hid (own_below HO3.out hb4 (Nat.le_refl _))
    have B4 := Lib.hid (below_below B3.out hb4 s3)
    have s4 := hb4.size
    have hx3 := fun g (h : Value.ownBlock (.slice A3 a.length c3) = some g) => HO3.out.lt g h
    have HX3 := Lib.hid hx3
    clear ho4 hb4 H3 hx3
    go_wp2_with fail
    go_loopw [6] (fun i wr => ∃ (k : Nat) (xs ys : List Value), k ≤ a.length ∧ i = .int .i64 (k : Int) ∧ wr.ownsRow w2.heap.size 4 1 (.slice A3 a.length c3) a.length xs ∧ (∀ j, k ≤ j → xs[j]? = (lv a)[j]?) ∧
        wr.ownsRow w3.heap.size 4 1 (.slice A4 a.length c4) a.length ys ∧ Below w2.heap.size w2 wr) (fun i _ => a.length - (intOf i).toNat)
    case atStart => exact ⟨0, _, _, Nat.zero_le _, rfl, HO34.out, fun _ _ => rfl, HO4.out, B4.out⟩
    case round =>
      obtain ⟨k, xs, ys, hk, rfl, hox, hxs, hoy, hb⟩ := hrel
      have HOX := Lib.hid hox
      have HXS := Lib.hid hxs
      have HOY := Lib.hid hoy
      have HB := Lib.hid hb
      clear hox hxs hoy hb
      by_cases hlt : k < a.length
      · obtain ⟨gx, rfl, hgx, hgx2⟩ := own_spot HOX.out (by omega)
        obtain ⟨gy, rfl, hgy, hgy2⟩ := own_spot HOY.out (by omega)
        have hgx3 := (HX3.out gx rfl).2
        have hxy : gx ≠ gy := by omega
        have hyx : gy ≠ gx := by omega
        have hcx : wr.cell? ⟨gx, k, none⟩ = some (.bool a[k]) := by
          rw [HOX.out.cellAt k (by omega), HXS.out k (Nat.le_refl _), lv_get a k hlt]
        have hfx := HOX.out.frozenAt k
        have hfy := HOY.out.frozenAt k
        have hky : k < ys.length := by rw [HOY.out.1]; omega
        have hcy : wr.cell? ⟨gy, k, none⟩ = some ys[k] := by
          rw [HOY.out.cellAt k (by omega), List.getElem?_eq_getElem hky]
        have HSX := fun u => Lib.hid (HOX.out.stored k u)
        have HSY := fun (w' : World) (h : w'.ownsRow w3.heap.size 4 1 (.slice (some ⟨gy, 0, none⟩) a.length c4) a.length ys) (u : Value) => Lib.hid (h.stored k u)
        generalize ys[k] = y0 at *
        generalize a[k] = x at *
        go_wp2
        go_roundw
        case rel =>
          have x1 := (HSX (.bool !x)).out
          have y1 := (HSY _ (HOY.out.kept x1.2 (.inr (by simp [Value.ownBlock]; omega))) (.bool true)).out
          refine ⟨k + 1, _, _, by omega, by go_num, x1.1.kept y1.2 (.inr (by simp [Value.ownBlock]; omega)), fun j hj => ?_, y1.1, below_some (below_some HB.out x1.2 HB.out.size hgx) y1.2 (below_some HB.out x1.2 HB.out.size hgx).size (by omega)⟩
          rw [List.getElem?_set_ne (by omega)]
          exact HXS.out j (by omega)
        case measure => simp [intOf]; omega
      · obtain rfl : k = a.length := by omega
        have HA5 := Lib.hid (H2.out.below HB.out s2)
        have HW5 := Lib.hid (HW2.out.below HB.out (Nat.le_refl _))
        have K5 := Lib.hid (below_below K2.out HB.out s2)
        have s5 := HB.out.size
        clear HOX HOY HXS
        go_wp2_with fail
        refine (bsame_len a a true HA5.out HW5.out rfl rfl (decide_eq_true rfl)).mono ?_
        rintro r w' ⟨rfl, q1, rfl⟩
        have HA6 : Hid (Rd (wr.drewN q1) 0 w.heap.size A c (lv a)) := HA5.out.drewN q1
        have HW6 : Hid (Rd (wr.drewN q1) 0 w2.heap.size A2 c2 (lv a)) := HW5.out.drewN q1
        have K6 := Lib.hid (below_drewN' K5.out q1)
        have s6 : w2.heap.size ≤ (wr.drewN q1).heap.size := s5
        clear HA5 HW5
        generalize wr.drewN q1 = w6 at *
        go_wp2_with fail
        refine (and_len a a a a.length (and_same a) HA6.out HA6.out (by omega) (by omega) rfl rfl (by omega)).mono ?_
        rintro r w7 ⟨A7, c7, rfl, ho7, hb7⟩
        have HO7 := Lib.hid (rd_own ho7)
        have HW7 := Lib.hid (HW6.out.below hb7 s6)
        have K7 := Lib.hid (below_below K6.out hb7 (by omega))
        clear ho7 hb7
        go_wp2_with fail
        refine (bsame_len a a true HO7.out HW7.out rfl rfl (decide_eq_true rfl)).mono ?_
        rintro r w' ⟨rfl, q2, rfl⟩
        go_wp2
        go_ret
        exact ⟨rfl, below_drewN' K7.out q2⟩
  · go_enter Try.func7, Try.ntmps7
    go_wp2_with fail
    refine (awake4_any _).mono ?_
    rintro r w1 ⟨rfl, hb1⟩
    have HB1 := Lib.hid hb1
    clear hb1
    go_wp2_with fail
    refine (awake4_any _).mono ?_
    rintro r w2 ⟨rfl, hb2⟩
    have HB2 := Lib.hid hb2
    clear hb2
    go_wp2
    go_ret
    exact ⟨rfl, below_below HB1.out HB2.out HB1.out.size⟩

set_option maxRecDepth 100000 in
theorem bitmapKeeps_lifted (os : Os) (started : os.Started) (H : Type) (enc : TypeId × Value → H) :
    ReturnsInHanded {} Try.checked os 7 .any (Rows.bitmapKeepsSpec.pre6 enc Try.prog Try.f7 Rows.bitmapKeepsRow.domain false) (Rows.bitmapKeepsSpec.post enc Try.prog Try.f7 false true false false) := by
  refine returnsInHanded_of_change (C := Try.checked) own started (by kernel_rfl) Try.func7
    (ChangeSpec.witness6 (enc := enc) (C := Try.checked) false ⟨#[], #[.slice none 0 0], []⟩ 8 (by kernel_rfl) (by kernel_rfl) (by kernel_rfl) (by kernel_rfl)) ?_
  intro W base args ds gs before hval0 hW hcnd _
  have hval : ∀ (j : Nat) t v, Try.f7.params[j]? = some t → args[j]? = some v → Value.okWide Try.prog W .any base t v := hval0
  have hW' := hW
  obtain ⟨p, q, hA0, hV, rfl, hfz, hnd⟩ := hW
  have hA : DataW.TrodAll enc Try.prog W 0 (fun _ => true) true Try.f7.params.toList args.toList ds p := hA0
  have hA1 : DataW.TrodAll enc Try.prog W 0 (fun _ => true) true Try.f7.params.toList args.toList ds p := hA0
  rw [Try.params7] at hA hval
  obtain ⟨v0, vs0, d0, ds0, p0, q0, hargs, rfl, rfl, h0, r0⟩ := trodAll_cons hA
  obtain ⟨rfl, rfl, rfl⟩ := trodAll_nil r0
  obtain rfl : args = #[v0] := by cases args; simp_all
  obtain ⟨rfl, rfl⟩ := trodVars_none hV
  obtain ⟨A0, a0, c0, rfl, w0⟩ := open_bools' Try.underlying22 Try.underlying4 (by kernel_rfl) (hval 0 22 v0 rfl rfl) h0
  clear hA0 hval0
  refine (bitmapKeeps_walk (w := W) w0).mono fun e W' ⟨he, bel⟩ => ?_
  subst he
  exact ⟨_, rfl, _, _, _, [], _, [], hW', trodAll_mk1 (shut_bool Try.underlying4 _), trodAll_below laidOut bel _ _ _ _ (by kernel_rfl) hA1, rfl, bel.frame _, fun h => by cases h⟩

theorem bitmapKeeps_over : Rows.bitmapKeepsRow.holds Try.pinned (OpenSpec.ofChange Rows.bitmapKeepsSpec) :=
  OpenClaim.holds_of_wide 7 Try.f7 rfl rfl rfl rfl rfl rfl rfl ⟨rfl, rfl, rfl, rfl, rfl⟩ rfl rfl rfl rfl rfl (by kernel_rfl) Try.func7 (by kernel_rfl)
    (of_decide_eq_true (by kernel_rfl)) (by unfold Func.isWrapper; first | (rw [if_pos (by decide +kernel)]; kernel_rfl) | (rw [if_neg (by decide +kernel)]; exact ⟨rfl, rfl⟩))
    (fun os started H enc _ => bitmapKeeps_lifted os started H enc)

/-- The statement. -/
theorem bitmapKeeps_proved : Rows.BitmapKeepsSaid := bitmapKeeps_over


end Go.Proofs.Ytiainckeakhccaa
