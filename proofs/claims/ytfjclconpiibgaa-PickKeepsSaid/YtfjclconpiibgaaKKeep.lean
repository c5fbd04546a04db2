/-
  Proved: PickKeeps returns true for every list of rows, and leaves what was there as it was. No condition.
-/
import Derived.Test.YtfjclconpiibgaaLawK
import Derived.Test.YtfjclconpiibgaaShellB
namespace Go.Proofs.Ytfjclconpiibgaa
set_option linter.unusedSimpArgs false
set_option linter.unusedVariables false
open Go.ChangeShapes Go.WideShapes Go.ChangeAt Go.RowKit

/-- cell i of block G is a slice of n cells that may be written, in a block that is another one, at B or above -/
def Row1 (w : World) (G B n i : Nat) : Prop := ∃ (A : Option Addr) (c : Nat), w.cell? ⟨G, i, none⟩ = some (.slice A n c) ∧ n ≤ c ∧ c ≤ maxLen ∧
  (0 < n → ∃ g, A = some ⟨g, 0, none⟩ ∧ B ≤ g ∧ g ≠ G ∧ ∀ k, k < n → (∃ u, w.cell? ⟨g, k, none⟩ = some u) ∧ w.frozen? ⟨g, k, none⟩ = false)
theorem Row1.put {w : World} {G B n i g : Nat} (h : Row1 w G B n i) (hg : g ≠ G) (k : Nat) (u : Value) : Row1 (w.setCell ⟨g, k, none⟩ u) G B n i := by
  obtain ⟨A, c, h1, h2, h3, h4⟩ := h
  refine ⟨A, c, ?_, h2, h3, fun hp => ?_⟩
  · rw [World.cell?_setCell_other _ _ _ _ (fun e => hg (by injection e))]
    exact h1
  · obtain ⟨g', e, h5, h6, h7⟩ := h4 hp
    refine ⟨g', e, h5, h6, fun j hj => ?_⟩
    obtain ⟨⟨u', hu⟩, hf⟩ := h7 j hj
    exact ⟨cell?_setCell_some hu, by rw [World.frozen?_setCell]; exact hf⟩
theorem Row1.of_own {w : World} {base B n c : Nat} {A : Option Addr} {t t' : TypeId} {xs : List Value} {cs : Array Value} {i : Nat} (h : w.ownsRow base t 1 (.slice A n c) n xs) (hB : B ≤ base) (hi : cs[i]? = some (.slice A n c)) : Row1 (w.alloc (.cells cs t')) w.heap.size B n i := by
  have hl := (Rd.own h).len
  have hc := (Rd.own h).cap
  have hx := h.1
  refine ⟨A, c, by rw [(Blk.new w t' cs).cell]; exact hi, by omega, hc, fun hp => ?_⟩
  obtain ⟨g, rfl, h1, h2⟩ := own_spot h hp
  refine ⟨g, rfl, by omega, by omega, fun k hk => ?_⟩
  have h' := h.alloc (.cells cs t')
  refine ⟨?_, h'.frozenAt k⟩
  rw [h'.cellAt k (by omega), List.getElem?_eq_getElem (by omega)]
  exact ⟨_, rfl⟩
def Rows3 (w : World) (G B n : Nat) : Prop := ∀ i, i < 3 → Row1 w G B n i

set_option maxRecDepth 20000 in
set_option maxHeartbeats 1000000 in
theorem pickKeeps_walk {w : World} {A : Option Addr} {l : List Bool} {c : Nat} (h : Rd w 0 w.heap.size A c (lv l)) :
    Calls Try.prog 7 #[.slice A l.length c] w fun e w' => e = .returned (.bool true) ∧ Below w.heap.size w w' := by
  have hl := h.len
  have hc := h.cap
  rw [lv_length] at hl
  unfold maxLen at hc
  have H := Lib.hid h
  clear h
  by_cases h500 : l.length ≤ 500
  · obtain ⟨xa, hxa⟩ : ∃ xa, plc l = xa := ⟨_, rfl⟩
    obtain ⟨al, hal⟩ : ∃ al, notL 0 xa.length [] = al := ⟨_, rfl⟩
    have hxl : xa.length ≤ 500 := by
      have := cnt_le l
      rw [← hxa, plc_len]
      omega
    have hal5 : al.length ≤ 500 := by
      have := notL_len 0 xa.length []
      rw [hal] at this
      omega
    have HAND : Hid (andL xa xa = xa) := by
      unfold Hid
      rw [← hxa, plc, andL_plcF 0 l l rfl]
      congr 1
      exact List.ext_getElem (by simp) (by simp)
    have HOR : Hid (orL xa xa = xa) := by
      unfold Hid
      rw [← hxa, plc, orL_plcF 0 l l rfl]
      congr 1
      exact List.ext_getElem (by simp) (by simp)
    have HTH : Hid (thrL xa al = xa) := by
      unfold Hid
      rw [← hal]
      exact thr_all xa
    have HXA := Lib.hid hxa
    have HAL := Lib.hid hal
    clear hxa hal
    go_enter Try.func7, Try.ntmps7
    go_wp2_with fail
    refine (awake5_any _).mono ?_
    rintro r w1 ⟨rfl, hb1⟩
    have H1 := Lib.hid (H.out.below hb1 (Nat.le_refl _))
    have K1 := Lib.hid hb1
    have s1 := hb1.size
    clear hb1 H
    go_wp2_with fail
    refine (places_any l xa HXA.out H1.out s1 (by omega)).mono ?_
    rintro r w2 ⟨A2, c2, rfl, ho2, hb2⟩
    have H2 := Lib.hid (H1.out.below hb2 s1)
    have X2 := Lib.hid (rd_nums ho2)
    have K2 := Lib.hid (below_below K1.out hb2 s1)
    have s2 := hb2.size
    clear ho2 hb2 H1 K1
    go_wp2_with fail
    refine (and_any xa xa xa HAND.out X2.out X2.out (Nat.le_refl _) (Nat.le_refl _) (by omega) (by omega)).mono ?_
    rintro r w3 ⟨A3, c3, rfl, ho3, hb3⟩
    have O3 := Lib.hid ho3
    have X3 := Lib.hid (X2.out.below hb3 (Nat.le_refl _))
    have B3 := Lib.hid hb3
    have s3 := hb3.size
    clear ho3 hb3
    go_wp2_with fail
    refine (or_any xa xa xa HOR.out X3.out X3.out (by omega) (by omega) (by omega) (by omega)).mono ?_
    rintro r w4 ⟨A4, c4, rfl, ho4, hb4⟩
    have O4 := Lib.hid ho4
    have P4 := Lib.hid (own_below O3.out hb4 (Nat.le_refl _))
    have X4 := Lib.hid (X3.out.below hb4 (by omega))
    have B4 := Lib.hid (below_below B3.out hb4 (by omega))
    have s4 := hb4.size
    clear ho4 hb4 O3 X3 B3
    go_wp2_with fail
    refine (pnot_any (w := w4) [] al xa.length HAL.out (Rd.nil _ 0 0) (Nat.zero_le _) (by omega)).mono ?_
    rintro r w5 ⟨A5, c5, rfl, ho5, hb5⟩
    have L5 := Lib.hid (rd_nums ho5)
    have O5 := Lib.hid (own_below O4.out hb5 (Nat.le_refl _))
    have P5 := Lib.hid (own_below P4.out hb5 (by omega))
    have X5 := Lib.hid (X4.out.below hb5 (by omega))
    have B5 := Lib.hid (below_below B4.out hb5 (by omega))
    have s5 := hb5.size
    clear ho5 hb5 O4 P4 X4 B4
    go_wp2_with fail
    refine (through_any xa al xa HTH.out X5.out L5.out (by omega) (by omega) (by omega)).mono ?_
    rintro r w6 ⟨A6, c6, rfl, ho6, hb6⟩
    have Q6 := Lib.hid ho6
    have O6 := Lib.hid (own_below O5.out hb6 (by omega))
    have P6 := Lib.hid (own_below P5.out hb6 (by omega))
    have B6 := Lib.hid (below_below B5.out hb6 (by omega))
    have s6 := hb6.size
    clear ho6 hb6 O5 P5 X5 B5 L5
    have R6 : Hid (Rows3 (w6.alloc (.cells #[.slice A3 xa.length c3, .slice A4 xa.length c4, .slice A6 xa.length c6] 22)) w6.heap.size w2.heap.size xa.length) := by
      intro i hi
      match i, hi with
      | 0, _ => exact Row1.of_own P6.out (Nat.le_refl _) rfl
      | 1, _ => exact Row1.of_own O6.out (by omega) rfl
      | 2, _ => exact Row1.of_own Q6.out (by omega) rfl
    have B7 := Lib.hid (B6.out.alloc (by omega) (.cells #[.slice A3 xa.length c3, .slice A4 xa.length c4, .slice A6 xa.length c6] 22))
    clear Q6 O6 P6 B6
    go_wp2_with fail
    generalize w6.alloc (.cells #[.slice A3 xa.length c3, .slice A4 xa.length c4, .slice A6 xa.length c6] 22) = w7 at *
    obtain ⟨G, hG⟩ : ∃ G, w6.heap.size = G := ⟨_, rfl⟩
    rw [hG] at R6
    go_loopw [5, 6] (fun i _ wr => ∃ (j : Nat), j ≤ 3 ∧ i = .int .i64 (j : Int) ∧ Rows3 wr w6.heap.size w2.heap.size xa.length ∧ Below w2.heap.size w2 wr) (fun i _ _ => 3 - (intOf i).toNat)
    case atStart => exact ⟨0, by omega, rfl, by rw [hG]; exact R6.out, B7.out⟩
    case round =>
      clear R6 B7 hG
      obtain ⟨j, hj, rfl, hrow, hbel⟩ := hrel
      have HR := Lib.hid hrow
      have HB := Lib.hid hbel
      clear hrow hbel
      by_cases hj3 : j < 3
      · go_wp2_with fail
        go_loopw [6] (fun kk wx => ∃ (k : Nat), k ≤ xa.length ∧ kk = .int .i64 (k : Int) ∧ Rows3 wx w6.heap.size w2.heap.size xa.length ∧ Below w2.heap.size w2 wx) (fun kk _ => xa.length - (intOf kk).toNat)
        case atStart => exact ⟨0, Nat.zero_le _, rfl, HR.out, HB.out⟩
        case round =>
          clear HR HB
          obtain ⟨k, hk, rfl, hrow, hbel⟩ := hrel
          have HR := Lib.hid hrow
          have HB := Lib.hid hbel
          clear hrow hbel
          obtain ⟨A8, c8, hc8, hn8, hm8, hw8⟩ := HR.out j hj3
          unfold maxLen at hm8
          by_cases hlt : k < xa.length
          · obtain ⟨g, rfl, hg1, hg2, hg3⟩ := hw8 (by omega)
            obtain ⟨⟨u, hu⟩, hf⟩ := hg3 k hlt
            have HN : Hid (Rows3 (wr.setCell ⟨g, k, none⟩ (.int .i64 (-7))) w6.heap.size w2.heap.size xa.length) := fun i hi => (HR.out i hi).put hg2 k _
            clear hg3 hw8
            go_wp2
            go_roundw
            case rel => exact ⟨k + 1, by omega, by go_num, HN.out, HB.out.setCell hg1 _⟩
            case measure => simp [intOf]; omega
          · obtain rfl : k = xa.length := by omega
            clear hw8
            go_wp2
            go_roundw
            case rel => exact ⟨j + 1, by omega, by go_num, HR.out, HB.out⟩
            case measure => simp [intOf]; omega
      · obtain rfl : j = 3 := by omega
        have X8 := Lib.hid (X2.out.below HB.out (Nat.le_refl _))
        have H8 := Lib.hid (H2.out.below HB.out (by omega))
        have K8 := Lib.hid (below_below K2.out HB.out (by omega))
        have s8 := HB.out.size
        clear HR HB
        go_wp2_with fail
        refine (places_any l xa HXA.out H8.out (by omega) (by omega)).mono ?_
        rintro r w9 ⟨A9, c9, rfl, ho9, hb9⟩
        have X9 := Lib.hid (X8.out.below hb9 (by omega))
        have P9 := Lib.hid (rd_nums ho9)
        have K9 := Lib.hid (below_below K8.out hb9 (by omega))
        clear ho9 hb9
        go_wp2_with fail
        refine (ints_len xa xa true X9.out P9.out rfl rfl (decide_eq_true rfl)).mono ?_
        rintro r w' ⟨rfl, q, rfl⟩
        go_wp2
        go_ret
        exact ⟨rfl, below_drewN' K9.out q⟩
  · clear H
    go_enter Try.func7, Try.ntmps7
    go_wp2_with fail
    refine (awake5_any _).mono ?_
    rintro r w1 ⟨rfl, hb1⟩
    have HB1 := Lib.hid hb1
    clear hb1
    go_wp2_with fail
    refine (awake5_any _).mono ?_
    rintro r w2 ⟨rfl, hb2⟩
    have HB2 := Lib.hid hb2
    clear hb2
    go_wp2
    go_ret
    exact ⟨rfl, below_below HB1.out HB2.out HB1.out.size⟩

set_option maxRecDepth 100000 in
theorem pickKeeps_lifted (os : Os) (started : os.Started) (H : Type) (enc : TypeId × Value → H) :
    ReturnsInHanded {} Try.checked os 7 .any (Rows.pickKeepsSpec.pre6 enc Try.prog Try.f7 Rows.pickKeepsRow.domain false) (Rows.pickKeepsSpec.post enc Try.prog Try.f7 false true false false) := by
  refine returnsInHanded_of_change (C := Try.checked) own started (by kernel_rfl) Try.func7
    (ChangeSpec.witness6 (enc := enc) (C := Try.checked) false ⟨#[], #[.slice none 0 0], []⟩ 8 (by kernel_rfl) (by kernel_rfl) (by kernel_rfl) (by kernel_rfl)) ?_
  intro W base args ds gs before hval0 hW hcnd _
  have hval : ∀ (j : Nat) t v, Try.f7.params[j]? = some t → args[j]? = some v → Value.okWide Try.prog W .any base t v := hval0
  have hW' := hW
  obtain ⟨p, q, hA0, hV, rfl, hfz, hnd⟩ := hW
  have hA : DataW.TrodAll enc Try.prog W 0 (fun _ => true) true Try.f7.params.toList args.toList ds p := hA0
  have hA1 : DataW.TrodAll enc Try.prog W 0 (fun _ => true) true Try.f7.params.toList args.toList ds p := hA0
  rw [Try.params7] at hA hval
  obtain ⟨v0, vs0, d0, ds0, p0, q0, hargs, rfl, rfl, h0, r0⟩ := trodAll_cons hA
  obtain ⟨rfl, rfl, rfl⟩ := trodAll_nil r0
  obtain rfl : args = #[v0] := by cases args; simp_all
  obtain ⟨rfl, rfl⟩ := trodVars_none hV
  obtain ⟨A0, a0, c0, rfl, w0⟩ := open_bools' Try.underlying25 Try.underlying4 (by kernel_rfl) (hval 0 25 v0 rfl rfl) h0
  clear hA0 hval0
  refine (pickKeeps_walk (w := W) w0).mono fun e W' ⟨he, bel⟩ => ?_
  subst he
  exact ⟨_, rfl, _, _, _, [], _, [], hW', trodAll_mk1 (shut_bool Try.underlying4 _), trodAll_below laidOut bel _ _ _ _ (by kernel_rfl) hA1, rfl, bel.frame _, fun h => by cases h⟩

theorem pickKeeps_over : Rows.pickKeepsRow.holds Try.pinned (OpenSpec.ofChange Rows.pickKeepsSpec) :=
  OpenClaim.holds_of_wide 7 Try.f7 rfl rfl rfl rfl rfl rfl rfl ⟨rfl, rfl, rfl, rfl, rfl⟩ rfl rfl rfl rfl rfl (by kernel_rfl) Try.func7 (by kernel_rfl)
    (of_decide_eq_true (by kernel_rfl)) (by unfold Func.isWrapper; first | (rw [if_pos (by decide +kernel)]; kernel_rfl) | (rw [if_neg (by decide +kernel)]; exact ⟨rfl, rfl⟩))
    (fun os started H enc _ => pickKeeps_lifted os started H enc)

/-- The statement. -/
theorem pickKeeps_proved : Rows.PickKeepsSaid := pickKeeps_over


end Go.Proofs.Ytfjclconpiibgaa
