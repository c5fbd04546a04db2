/-
  Proved: BitmapReads returns true for every list of rows, all bytes and every limit, and leaves what was there as it was. No condition.
-/
import Derived.Test.YtiainckeakhccaaLawB
import Derived.Test.YtiainckeakhccaaRefS
import Derived.Test.YtiainckeakhccaaBReadM
import Derived.Test.YtiainckeakhccaaShellB
import Derived.Deep.RegionHeld3
namespace Go.Proofs.Ytiainckeakhccaa
set_option linter.unusedSimpArgs false
set_option linter.unusedVariables false
open Go.ChangeShapes Go.WideShapes Go.ChangeAt Go.RowKit

theorem bread_is {w : World} {lo g k : Nat} {bs : List UInt8} {e : Int} (most : Int) (hm : most ≤ 9223372036854775807) (l : List Bool) (k' : Nat) (e' : Int) (n : Nat) (hR : breadR bs k e most = (l, k', e')) (hn : l.length = n) (h : Cur w lo g bs k e) (hb : bs.length ≤ 1000000000000) :
    Calls Try.prog 16 #[cp g, .int .i64 most] w fun r w' => ∃ A c, r = .returned (.slice A n c) ∧ w'.ownsRow w.heap.size 4 1 (.slice A n c) n (lv l) ∧
      Cur w' lo g bs k' e' ∧ w.grownBy w' (some g) := by
  subst hn
  have := bread_any most hm h hb
  rw [hR] at this
  exact this
theorem rbwrite_len {w : World} {n : Nat} (l : List Bool) (xs : List UInt8) {h' : Nat} {A : Option Addr} {c : Nat} (h : Rd w 0 h' A c (lv l)) (hh : h' ≤ w.heap.size) (hn : l.length = n) (hlen : n ≤ 140737488355328) (hx : writeB l = xs) :
    Calls Try.prog 13 #[.slice A n c] w fun r w' => ∃ A' c', r = .returned (.slice A' xs.length c') ∧
      w'.ownsRow w.heap.size 5 1 (.slice A' xs.length c') xs.length (bv xs) ∧ Below w.heap.size w w' := by
  subst hn hx
  exact rbwrite_any l h hh hlen

set_option maxRecDepth 20000 in
set_option maxHeartbeats 1000000 in
theorem bitmapReads_walk {w : World} {A B : Option Addr} {l : List Bool} {bs : List UInt8} {c d : Nat} (h : Rd w 0 w.heap.size A c (lv l)) (h2 : Rd w 0 w.heap.size B d (bv bs)) (mb : UInt8) :
    Calls Try.prog 4 #[.slice A l.length c, .slice B bs.length d, .int .u8 (mb.toNat : Int)] w fun e w' => e = .returned (.bool true) ∧ Below w.heap.size w w' := by
  have hl := h.len
  have hc := h.cap
  rw [lv_length] at hl
  unfold maxLen at hc
  have hl2 := h2.len
  have hc2 := h2.cap
  rw [bv_length] at hl2
  unfold maxLen at hc2
  have H := Lib.hid h
  have HB := Lib.hid h2
  have hm := UInt8.toNat_lt mb
  clear h h2
  generalize mb.toNat = most at *
  have hwm : IntKind.i64.wrap (most : Int) = (most : Int) := IntWalk.i64_in _ (by omega)
  by_cases h1000 : l.length ≤ 1000
  · by_cases h500 : bs.length ≤ 500
    · obtain ⟨ws, hws⟩ : ∃ ws, writeB l = ws := ⟨_, rfl⟩
      have hwl := writeB_length l (by omega)
      have hbk := bread_back l 1000 (by omega) (by omega)
      have HWR := fun (w1 : World) (h : Rd w1 0 w.heap.size A c (lv l)) (hh : w.heap.size ≤ w1.heap.size) => Lib.hid (bwrite_any (w := w1) l h hh (by omega))
      rw [hws] at hwl hbk HWR
      have HBK := Lib.hid hbk
      have HEN : Hid (endR ws ws.length 0 = 0) := by unfold Hid endR; rw [if_neg (by simp), if_neg (Nat.lt_irrefl _)]
      have hforms := breadR_forms bs most
      obtain ⟨⟨m, k', e'⟩, hR⟩ : ∃ R, breadR bs 0 0 (most : Int) = R := ⟨_, rfl⟩
      rw [hR] at hforms
      dsimp only at hforms
      obtain ⟨L, hL⟩ : ∃ L, m.length = L := ⟨_, rfl⟩
      obtain ⟨ev, hev⟩ : ∃ ev, endR bs k' e' = ev := ⟨_, rfl⟩
      rw [hev] at hforms
      have HF := Lib.hid hforms
      have HR := Lib.hid hR
      have HL := Lib.hid hL
      have HE := Lib.hid hev
      clear hws hbk hforms hR hL hev
      go_enter Try.func4, Try.ntmps4
      go_wp2_with fail
      refine (awake4_any _).mono ?_
      rintro r w1 ⟨rfl, hb1⟩
      have K1 := Lib.hid hb1
      have s1 := hb1.size
      clear hb1
      go_wp2_with fail
      refine (HWR w1 (H.out.below K1.out (Nat.le_refl _)) s1).out.mono ?_
      rintro r w2 ⟨A2, c2, rfl, ho2, hb2⟩
      have HO2 := Lib.hid (Rd.own ho2)
      have K2 := Lib.hid (below_below K1.out hb2 s1)
      have s2 := hb2.size
      clear ho2 hb2
      go_wp2_with fail
      refine (new_any ws _ HO2.out (by omega)).mono ?_
      rintro r w3 ⟨g, rfl, hc3, hb3⟩
      have HC3 := Lib.hid hc3
      have K3 := Lib.hid (below_below K2.out hb3 (by omega))
      have s3 := hb3.size
      have hg := hc3.base
      clear hc3 hb3
      go_wp2_with fail
      refine (bread_is 1000 (by decide) l ws.length 0 l.length HBK.out rfl HC3.out (by omega)).mono ?_
      rintro r w4 ⟨A4, c4, rfl, ho4, hc4, hg4⟩
      have HO4 := Lib.hid (Rd.own ho4)
      have HC4 := Lib.hid hc4
      have K4 := Lib.hid (below_some K3.out hg4 (by omega) (by omega))
      have s4 := hg4.size
      clear ho4 hc4 hg4
      go_wp2_with fail
      refine (bsame_len l l true HO4.out (H.out.below K4.out (Nat.le_refl _)) rfl rfl (decide_eq_true rfl)).mono ?_
      rintro r w' ⟨rfl, q1, rfl⟩
      go_wp2_with fail
      refine (end_any (HC4.out.drewN q1)).mono ?_
      rw [HEN.out]
      rintro r w' ⟨rfl, q2, rfl⟩
      have K5 : Hid (Below w.heap.size w ((w4.drewN q1).drewN q2)) := below_drewN' (below_drewN' K4.out q1) q2
      have s5 : w.heap.size ≤ ((w4.drewN q1).drewN q2).heap.size := K5.out.size
      clear HC4 HO4
      generalize (w4.drewN q1).drewN q2 = w5 at *
      go_wp2_with fail
      refine (new_any bs _ (HB.out.below K5.out (Nat.le_refl _)) (by omega)).mono ?_
      rintro r w6 ⟨g6, rfl, hc6, hb6⟩
      have HC6 := Lib.hid hc6
      have K6 := Lib.hid (below_below K5.out hb6 s5)
      have s6 := hb6.size
      have hg6 := hc6.base
      clear hc6 hb6
      go_wp2_with fail
      refine (bread_is (most : Int) (by omega) m k' e' L HR.out HL.out HC6.out (by omega)).mono ?_
      rintro r w7 ⟨A7, c7, rfl, ho7, hc7, hg7⟩
      have HO7 := Lib.hid ho7
      have HC7 := Lib.hid hc7
      have K7 := Lib.hid (below_some K6.out hg7 (by omega) (by omega))
      have s7 := K7.out.size
      clear ho7 hc7 hg7
      by_cases hL0 : L = 0
      · subst hL0
        have hm0 : m = [] := List.eq_nil_of_length_eq_zero HL.out
        by_cases hev0 : ev = 0
        · subst hev0
          have hb0 : bs = [0] := by
            rcases HF.out with h | h | h
            · exact absurd rfl h.1
            · exact h.2
            · exact absurd hm0 h.2.2.1
          subst hb0
          obtain ⟨b0, o0, rfl, _, hbh, hcell⟩ := HB.out.byte (k := 0) (by simp)
          have hcell0 : w.cell? ⟨b0, o0, none⟩ = some (.int .u8 0) := hcell
          have hcell7 := (K7.out.cell (p := ⟨b0, o0, none⟩) hbh).trans hcell0
          clear hcell hcell0 hm0 HF HO7
          go_wp2_with fail
          refine (end_any HC7.out).mono ?_
          rw [HE.out]
          rintro r w' ⟨rfl, q3, rfl⟩
          go_wp2
          go_ret
          exact ⟨rfl, below_drewN' K7.out q3⟩
        · have hne : (ev != 0) = true := by simpa using hev0
          clear hm0 HF HO7 hev0
          go_wp2_with fail
          refine (end_any HC7.out).mono ?_
          rw [HE.out]
          rintro r w' ⟨rfl, q3, rfl⟩
          go_wp2
          go_ret
          exact ⟨rfl, below_drewN' K7.out q3⟩
      · have hmn : m ≠ [] := by
          rintro rfl
          exact hL0 HL.out.symm
        obtain ⟨hlm, hk, -, hwr⟩ : m.length ≤ most ∧ k' ≤ bs.length ∧ m ≠ [] ∧ writeB m = bs.take k' := by
          rcases HF.out with h | h | h
          · exact absurd h.2 hmn
          · exact absurd h.1 hmn
          · exact h
        rw [HL.out] at hlm
        have hLz : ((L : Int) == 0) = false := by rw [beq_eq_false_iff_ne]; omega
        obtain ⟨px, hpx⟩ : ∃ px, bs.take k' = px := ⟨_, rfl⟩
        rw [hpx] at hwr
        have HW := Lib.hid hwr
        have HTK : Hid (px.length = k') := by unfold Hid; rw [← hpx, List.length_take]; omega
        have HRP : ∀ (w1 : World), Rd w1 0 w.heap.size B d (bv bs) → Rd w1 0 w.heap.size B d (bv px) := fun w1 h => by rw [← hpx, bv_take]; exact h.take_ k'
        have hsub : (bs.length : Int) - ((bs.length - k' : Nat) : Int) = (k' : Int) := by omega
        have l1 : (0 : Int) ≤ (k' : Int) := by omega
        have l2 : (k' : Int) ≤ (bs.length : Int) := by omega
        have l4 : (bs.length : Int) ≤ (d : Int) := by omega
        have l6 : (k' : Int) ≤ (d : Int) := by omega
        have l7 : k' ≤ d := by omega
        have d1 : decide ((L : Int) ≤ (most : Int)) = true := by simp; omega
        have d2 : decide (L ≤ most) = true := by simp; omega
        clear hmn hwr hpx HF hL0
        go_wp2_with fail
        refine (left_any HC7.out).mono ?_
        rintro r w' ⟨rfl, q3, rfl⟩
        have HO8 : Hid ((w7.drewN q3).ownsRow w6.heap.size 4 1 (.slice A7 L c7) L (lv m)) := HO7.out
        have K8 : Hid (Below w.heap.size w (w7.drewN q3)) := below_drewN' K7.out q3
        clear HO7 HC7
        generalize w7.drewN q3 = w8 at *
        have HOD : Hid (w8.drew.ownsRow w6.heap.size 4 1 (.slice A7 L c7) L (lv m)) := HO8.out
        have KD : Hid (Below w.heap.size w w8.drew) := below_drewN' K8.out 1
        have HRD := Lib.hid (rd_own HOD.out)
        have sD := KD.out.size
        go_wp2_with fail
        go_region_held3 (fun _ => True) (trivial) (first
          | (go_at_call 13; refine (rbwrite_len m px HRD.out (Nat.le_refl _) HL.out (by omega) HW.out).mono ?_; rintro r w9 ⟨A9, c9, rfl, ho9, hb9⟩; have HO9 := Lib.hid ho9; have HB9 := Lib.hid hb9; clear ho9 hb9)
          | (go_at_call 9; refine (same_len px px true (Rd.own HO9.out) (HRP _ (HB.out.below (below_below KD.out HB9.out sD) (Nat.le_refl _))) rfl HTK.out (decide_eq_true rfl)).mono ?_; rintro r w' ⟨rfl, rfl⟩))
        go_wp2
        go_ret
        exact ⟨rfl, below_below KD.out HB9.out sD⟩
    · go_enter Try.func4, Try.ntmps4
      go_wp2_with fail
      refine (awake4_any _).mono ?_
      rintro r w1 ⟨rfl, hb1⟩
      have HB1 := Lib.hid hb1
      clear hb1
      go_wp2_with fail
      refine (awake4_any _).mono ?_
      rintro r w2 ⟨rfl, hb2⟩
      have HB2 := Lib.hid hb2
      clear hb2
      go_wp2
      go_ret
      exact ⟨rfl, below_below HB1.out HB2.out HB1.out.size⟩
  · go_enter Try.func4, Try.ntmps4
    go_wp2_with fail
    refine (awake4_any _).mono ?_
    rintro r w1 ⟨rfl, hb1⟩
    have HB1 := Lib.hid hb1
    clear hb1
    go_wp2_with fail
    refine (awake4_any _).mono ?_
    rintro r w2 ⟨rfl, hb2⟩
    have HB2 := Lib.hid hb2
    clear hb2
    go_wp2
    go_ret
    exact ⟨rfl, below_below HB1.out HB2.out HB1.out.size⟩

set_option maxRecDepth 100000 in
theorem bitmapReads_lifted (os : Os) (started : os.Started) (H : Type) (enc : TypeId × Value → H) :
    ReturnsInHanded {} Try.checked os 4 .any (Rows.bitmapReadsSpec.pre6 enc Try.prog Try.f4 Rows.bitmapReadsRow.domain false) (Rows.bitmapReadsSpec.post enc Try.prog Try.f4 false true false false) := by
  refine returnsInHanded_of_change (C := Try.checked) own started (by kernel_rfl) Try.func4
    (ChangeSpec.witness6 (enc := enc) (C := Try.checked) false ⟨#[], #[.slice none 0 0, .slice none 0 0, .int .u8 0], []⟩ 8 (by kernel_rfl) (by kernel_rfl) (by kernel_rfl) (by kernel_rfl)) ?_
  intro W base args ds gs before hval0 hW hcnd _
  have hval : ∀ (j : Nat) t v, Try.f4.params[j]? = some t → args[j]? = some v → Value.okWide Try.prog W .any base t v := hval0
  have hW' := hW
  obtain ⟨p, q, hA0, hV, rfl, hfz, hnd⟩ := hW
  have hA : DataW.TrodAll enc Try.prog W 0 (fun _ => true) true Try.f4.params.toList args.toList ds p := hA0
  have hA1 : DataW.TrodAll enc Try.prog W 0 (fun _ => true) true Try.f4.params.toList args.toList ds p := hA0
  rw [Try.params4] at hA hval
  obtain ⟨v0, vs0, d0, ds0, p0, q0, hargs, rfl, rfl, h0, r0⟩ := trodAll_cons hA
  obtain ⟨v1, vs1, d1, ds1, p1, q1, rfl, rfl, rfl, h1, r1⟩ := trodAll_cons r0
  obtain ⟨v2, vs2, d2, ds2, p2, q2, rfl, rfl, rfl, h2, r2⟩ := trodAll_cons r1
  obtain ⟨rfl, rfl, rfl⟩ := trodAll_nil r2
  obtain rfl : args = #[v0, v1, v2] := by cases args; simp_all
  obtain ⟨rfl, rfl⟩ := trodVars_none hV
  obtain ⟨A0, a0, c0, rfl, w0⟩ := open_bools' Try.underlying22 Try.underlying4 (by kernel_rfl) (hval 0 22 v0 rfl rfl) h0
  obtain ⟨A1, a1, c1, rfl, w1⟩ := open_bytes Try.underlying25 Try.underlying5 (by kernel_rfl) (hval 1 25 v1 rfl rfl) h1
  obtain ⟨a2, rfl, rfl, rfl, w2⟩ := open_int Try.underlying5 (hval 2 5 v2 rfl rfl) h2
  obtain ⟨b2, rfl⟩ := u8_of_wf w2
  clear hA0 hval0
  refine (bitmapReads_walk (w := W) w0 w1 b2).mono fun e W' ⟨he, bel⟩ => ?_
  subst he
  exact ⟨_, rfl, _, _, _, [], _, [], hW', trodAll_mk1 (shut_bool Try.underlying4 _), trodAll_below laidOut bel _ _ _ _ (by kernel_rfl) hA1, rfl, bel.frame _, fun h => by cases h⟩

theorem bitmapReads_over : Rows.bitmapReadsRow.holds Try.pinned (OpenSpec.ofChange Rows.bitmapReadsSpec) :=
  OpenClaim.holds_of_wide 4 Try.f4 rfl rfl rfl rfl rfl rfl rfl ⟨rfl, rfl, rfl, rfl, rfl⟩ rfl rfl rfl rfl rfl (by kernel_rfl) Try.func4 (by kernel_rfl)
    (of_decide_eq_true (by kernel_rfl)) (by unfold Func.isWrapper; first | (rw [if_pos (by decide +kernel)]; kernel_rfl) | (rw [if_neg (by decide +kernel)]; exact ⟨rfl, rfl⟩))
    (fun os started H enc _ => bitmapReads_lifted os started H enc)

/-- The statement. -/
theorem bitmapReads_proved : Rows.BitmapReadsSaid := bitmapReads_over


end Go.Proofs.Ytiainckeakhccaa
