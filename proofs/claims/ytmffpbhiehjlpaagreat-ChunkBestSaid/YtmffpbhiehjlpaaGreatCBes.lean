/-
  Best is no longer than any kind, and is one of them; how long payloads are at most; strings are as many as measures say, whole or in parts; or values may not be, or are many, or awake says so.
-/
import Derived.Test.YtmffpbhiehjlpaaGreatZ41
import Derived.Test.YtmffpbhiehjlpaaGreatZ42
namespace Go.Proofs.YtmffpbhiehjlpaaGreat
set_option linter.unusedSimpArgs false
set_option linter.unusedVariables false
open Go.RowKit Go.ChangeShapes Go.WideShapes Go.ChangeAt
attribute [local go_sem] run_store_complex
theorem sumV_le (L : List Vl) (k : Nat) : sumV (L.take k) ≤ sumV L := by
  have h : sumV L = sumV (L.take k) + sumV (L.drop k) := by
    unfold sumV
    rw [← List.sum_append, ← List.map_append, List.take_append_drop]
  omega
theorem slice_take {w : World} {lo hi c n : Nat} {A : Option Addr} {L : List Vl} (h : Row w lo hi A c L) (hn : L.length = n) {q : Nat} (hq : q ≤ n) :
    ∃ A1, (∀ w0, (Instr.sliceAt 22 (.slice A n c) none (some (.int .i64 (q : Int))) none).run Tryz.prog w0 = .ok (.slice A1 q c) w0) ∧ ∀ W lo2 hi2, Row W lo2 hi2 A c L → Row W lo2 hi2 A1 c (L.take q) := by
  subst hn
  obtain ⟨i0, hi0, hz0, hz1, hz2⟩ := info_parts Tryz.infoVal
  obtain ⟨hl, hm⟩ := h.len
  have c1 : (0 : Int) ≤ (q : Int) ∧ (q : Int) ≤ (c : Int) := by omega
  refine ⟨if c = 0 then A else A.map (·.add 0), fun w0 => ?_, fun W lo2 hi2 hW => ?_⟩
  · simp only [Instr.sliceAt, Instr.slice, Sem.run_bind, run_underlying Tryz.underlying22, Result.andThen_ok, Sem.run_pure, Instr.sliceBounds, Instr.sliceBound, asIntOf, if_pos c1, sizeOf, typeInfo, run_program, hi0, hz1, Int.toNat_natCast, Nat.zero_mul, Nat.sub_zero]
  · have e : (if c = 0 then A else A.map (·.add 0)) = A := by
      split
      · rfl
      · cases A <;> rfl
    rw [e]
    exact hW.take_ hq
theorem slice_drop {w : World} {lo hi c n : Nat} {A : Option Addr} {L : List Vl} (h : Row w lo hi A c L) (hn : L.length = n) {q m : Nat} (hq : q ≤ n) (hm0 : n - q = m) :
    ∃ A1 c1, (∀ w0, (Instr.sliceAt 22 (.slice A n c) (some (.int .i64 (q : Int))) none none).run Tryz.prog w0 = .ok (.slice A1 m c1) w0) ∧ ∀ W lo2 hi2, Row W lo2 hi2 A c L → Row W lo2 hi2 A1 c1 (L.drop q) := by
  subst hn hm0
  obtain ⟨i0, hi0, hz0, hz1, hz2⟩ := info_parts Tryz.infoVal
  obtain ⟨hl, hm⟩ := h.len
  have c1 : (0 : Int) ≤ (q : Int) ∧ (q : Int) ≤ (L.length : Int) := by omega
  have c2 : L.length ≤ c := hl
  refine ⟨if c = q then A else A.map (·.add (q * 2)), c - q, fun w0 => ?_, fun W lo2 hi2 hW => ?_⟩
  · simp only [Instr.sliceAt, Instr.slice, Sem.run_bind, run_underlying Tryz.underlying22, Result.andThen_ok, Sem.run_pure, Instr.sliceBounds, Instr.sliceBound, asIntOf, if_pos c1, if_pos c2, sizeOf, typeInfo, run_program, hi0, hz1, Int.toNat_natCast]
  · by_cases hlt : q < L.length
    · obtain ⟨b, off, hA, -⟩ := hW.els.lies (by omega)
      subst hA
      have e2 : Option.map (fun x : Addr => x.add (q * 2)) (some ⟨b, off, none⟩) = some ⟨b, off + q * 2, none⟩ := by
        rw [Option.map_some]
        unfold Addr.add
        by_cases h : q * 2 = 0 <;> simp [h]
      rw [if_neg (by omega), e2]
      exact hW.drop_ hq
    · have e : L.drop q = [] := List.drop_eq_nil_of_le (by omega)
      rw [e]
      exact ⟨⟨Nat.zero_le _, by have := hW.els.cap; show c - q ≤ maxLen; omega, fun h0 => absurd h0 (Nat.lt_irrefl 0)⟩, fun v hv => by cases hv⟩
def cellM (p : Nat → Nat) (n k i : Nat) : Value := if i < k then .complex .f64 (fl (p i)) (fl n) else .complex .f64 0 0
set_option maxRecDepth 20000 in
set_option maxHeartbeats 8000000 in
theorem chunkBest_walk {w : World} {A B : Option Addr} {L : List Vl} {o : Co} {c d : Nat} (h : Row w 0 w.heap.size A c L) (hd : Rd w 0 w.heap.size B d (iv o.draws) ∧ Word o.draws) (cut : UInt8) :
    Calls Tryz.prog 7 #[.slice A L.length c, .agg #[.int .i64 o.kind, .int .i64 o.block, .int .i64 o.rounds, .slice B o.draws.length d], .int .u8 (cut.toNat : Int)] w fun e w' => e = .returned (.bool true) ∧ Below w.heap.size w w' := by
  obtain ⟨hdr, hwd⟩ := hd
  obtain ⟨hl, hm⟩ := h.len
  obtain ⟨kd, bl, ro, ds⟩ := o
  simp only at hdr hwd ⊢
  have hdl := hdr.len
  have hdm := hdr.cap
  rw [iv_length] at hdl
  obtain ⟨w1, hw1⟩ : ∃ w1, w.alloc (.cells #[.int .i64 kd, .int .i64 bl, .int .i64 ro, .slice B ds.length d] 25) = w1 := ⟨_, rfl⟩
  have B1 : Hid (Below w.heap.size w w1) := by unfold Hid; rw [← hw1]; exact (Below.refl _ w).alloc (Nat.le_refl _) _
  have hs1 : w.heap.size < w1.heap.size := by rw [← hw1]; simp
  have hbx : Blk w1 w.heap.size 25 #[.int .i64 kd, .int .i64 bl, .int .i64 ro, .slice B ds.length d] := by rw [← hw1]; exact Blk.new w _ _
  have HBX := Lib.hid hbx
  have HR : Hid (∀ W, Below w.heap.size w W → Row W 0 W.heap.size A c L) := fun W hW => (h.below hW (Nat.le_refl _)).wide (Nat.le_refl _) hW.size
  have HD : Hid (∀ W, Below w.heap.size w W → Rd W 0 W.heap.size B d (iv ds)) := fun W hW => (hdr.below hW (Nat.le_refl _)).wide (Nat.le_refl _) hW.size
  have HWD := Lib.hid hwd
  have HCF : Hid (∀ W, Below w1.heap.size w1 W → W.cell? ⟨w.heap.size, 0, none⟩ = some (.int .i64 kd) ∧ W.cell? ⟨w.heap.size, 1, none⟩ = some (.int .i64 bl) ∧ W.cell? ⟨w.heap.size, 2, none⟩ = some (.int .i64 ro) ∧ W.cell? ⟨w.heap.size, 3, none⟩ = some (.slice B ds.length d)) := fun W hW => ⟨(hbx.below hW hs1).cell 0, (hbx.below hW hs1).cell 1, (hbx.below hW hs1).cell 2, (hbx.below hW hs1).cell 3⟩
  have HAW := Lib.hid (awake_any17 (w := w1))
  clear h hdr hwd hbx
  go_enter Tryz.func7, Tryz.ntmps7
  go_wp2_with fail
  clear hw1
  refine HAW.out.mono ?_
  rintro r w2 ⟨rfl, hb2⟩
  have B2 : Hid (Below w1.heap.size w1 w2) := hb2
  have BW2 : Hid (Below w.heap.size w w2) := B1.out.trans (hb2.mono (Nat.le_of_lt hs1))
  have HFW := Lib.hid (refFew_v (w := w2) L (HR.out w2 BW2.out))
  obtain ⟨e0, e1, e2, e3⟩ := HCF.out w2 hb2
  have HAW2 := Lib.hid (awake_any17 (w := w2))
  have hsz2 := hb2.size
  clear hb2 HAW
  go_wp2_with fail
  refine HFW.out.mono ?_
  rintro r w3 ⟨⟨b, rfl, hbf⟩, rfl⟩
  clear HFW
  cases b with
  | false =>
    go_wp2_with fail
    refine HAW2.out.mono ?_
    rintro r w4 ⟨rfl, hb4⟩
    go_wp2_with fail
    go_ret
    exact ⟨rfl, BW2.out.trans (hb4.mono BW2.out.size)⟩
  | true =>
    obtain ⟨hL, hsum⟩ := hbf rfl
    by_cases hds : ds.length ≤ 60
    · have ids : ¬ (60 : Int) < (ds.length : Int) := by omega
      have HIN : Hid (∀ W, Below w.heap.size w W → CIn W L kd bl ro ds A B c d) := fun W hW => ⟨HR.out W hW, HD.out W hW, HWD.out, by omega⟩
      have HRI := Lib.hid (refRight_v (w := w2) L ⟨kd, bl, ro, ds⟩ (HR.out w2 BW2.out) (HD.out w2 BW2.out))
      by_cases hmb : MayBe L ⟨kd, bl, ro, ds⟩
      · rw [decide_eq_true (show FitsV L ∧ CoOk ⟨kd, bl, ro, ds⟩ from hmb)] at HRI
        have hsv := hsum hmb.1
        have HSV : Hid (∀ k (hk : k < L.length), sumV (L.take (k + 1)) = sumV (L.take k) + L[k].s.size ∧ sumV (L.take (k + 1)) ≤ 5000) := fun k hk => by
          refine ⟨sumV_take hk, Nat.le_trans (sumV_le L (k + 1)) hsv⟩
        obtain ⟨pl, hpl⟩ : ∃ f : Nat → Nat, ∀ i : Nat, f i = if i = 0 then (payK (textsL L) ⟨kd, bl, ro, ds⟩ (bestK (textsL L) ⟨kd, bl, ro, ds⟩)).length else (payK (textsL L) ⟨kd, bl, ro, ds⟩ (i : Int)).length := ⟨fun i => if i = 0 then (payK (textsL L) ⟨kd, bl, ro, ds⟩ (bestK (textsL L) ⟨kd, bl, ro, ds⟩)).length else (payK (textsL L) ⟨kd, bl, ro, ds⟩ (i : Int)).length, fun i => rfl⟩
        have HM : Hid (∀ W (k : Nat), Below w.heap.size w W → k ≤ 3 → Calls Tryz.prog 12 #[.slice A L.length c, .agg #[.int .i64 (k : Int), .int .i64 bl, .int .i64 ro, .slice B ds.length d]] W fun r w' => r = .returned (.tuple #[.complex .f64 (fl (pl k)) (fl (textsL L).length), .int .i64 0]) ∧ Below W.heap.size W w' ∧ pl k ≤ 1000000000000 ∧ (k = 2 → rightT (tabS (textsL L) ⟨kd, bl, ro, ds⟩) = true)) := fun W k hW hk => by
          refine (measure_yes ((HIN.out W hW).kind (k : Int)) (o := ⟨(k : Int), bl, ro, ds⟩) rfl ⟨hmb.1, co_with hmb.2 (by omega) (by omega)⟩).mono ?_
          have e1 : (payK (textsL L) ⟨(k : Int), bl, ro, ds⟩ (kindK (textsL L) ⟨(k : Int), bl, ro, ds⟩)).length = pl k := by
            rw [hpl]
            by_cases h0 : k = 0
            · subst h0
              have := kind_best (textsL L) ⟨kd, bl, ro, ds⟩
              simp only at this
              rw [if_pos rfl]
              rw [show ((0 : Nat) : Int) = 0 from rfl, this]
              exact congrArg List.length (payK_kind ..)
            · have := kind_same (S := textsL L) (o := ⟨kd, bl, ro, ds⟩) (k := (k : Int)) (by omega)
              simp only at this
              rw [if_neg h0, this]
              exact congrArg List.length (payK_kind ..)
          rw [e1]
          rintro r w' ⟨h1, h2, h3, h4⟩
          refine ⟨h1, h2, h3, fun hk2 => h4 ?_⟩
          subst hk2
          exact kind_same (S := textsL L) (o := ⟨kd, bl, ro, ds⟩) (k := 2) (by omega)
        have HPL := Lib.hid hpl
        obtain ⟨sl, hsl⟩ : ∃ sl, (textsL L).length = sl := ⟨_, rfl⟩
        rw [hsl] at HM
        have HSL := Lib.hid hsl
        clear hpl hsl
        go_wp2_with fail
        refine HRI.out.mono ?_
        rintro r w3 ⟨rfl, hb3⟩
        have B3 : Hid (Below w1.heap.size w1 w3) := B2.out.trans (hb3.mono hsz2)
        have BW3 : Hid (Below w.heap.size w w3) := B1.out.trans (B3.out.mono (Nat.le_of_lt hs1))
        obtain ⟨w4, hw4⟩ : ∃ w4, w3.alloc (.cells #[.complex .f64 0 0, .complex .f64 0 0, .complex .f64 0 0, .complex .f64 0 0] 68) = w4 := ⟨_, rfl⟩
        have BW4 : Hid (Below w.heap.size w w4) := by unfold Hid; rw [← hw4]; exact BW3.out.alloc BW3.out.size _
        have hs3 := B3.out.size
        clear hb3 HRI
        go_wp2_with fail
        go_loopw [8, 9] (fun x i wr => ∃ k : Nat, k ≤ L.length ∧ i = .int .i64 (k : Int) ∧ x = .int .i64 (sumV (L.take k) : Int) ∧ wr = w4) (fun _ i _ => L.length - (intOf i).toNat)
        case atStart => exact ⟨0, Nat.zero_le _, rfl, rfl, rfl⟩
        case round =>
          obtain ⟨k, hk, rfl, rfl, hwe⟩ := hrel
          by_cases hlt : k < L.length
          · have ik : (k : Int) < (L.length : Int) := by omega
            have BWr : Hid (Below w.heap.size w wr) := by unfold Hid; rw [hwe]; exact BW4.out
            obtain ⟨b, off, hAe, _, hbl, hx0, hx1⟩ := (HR.out wr BWr.out).get hlt
            subst hAe
            obtain ⟨hs, h5⟩ := HSV.out k hlt
            have HS := Lib.hid hs
            have HWE := Lib.hid hwe
            have hwz : IntKind.i64.wrap ((sumV (L.take k) : Int) + (L[k].s.size : Int)) = (sumV (L.take (k + 1)) : Int) := by rw [IntWalk.i64_in _ (by omega), hs]; omega
            clear hs hwe
            generalize L[k].s = s at *
            generalize L[k].null = nb at *
            generalize sumV (L.take k) = z at *
            generalize hz2 : sumV (L.take (k + 1)) = z2 at *
            have HZ2 := Lib.hid hz2
            clear hz2
            go_wp2_with fail
            go_roundw
            case rel => exact ⟨k + 1, by omega, by go_num, by rw [HZ2.out], HWE.out⟩
            case measure => simp [intOf]; omega
          · have ik : ¬ (k : Int) < (L.length : Int) := by omega
            have hwe' : w4 = wr := hwe.symm
            subst hwe'
            have HK : Hid (L.take k = L) := List.take_of_length_le (by omega)
            rw [HK.out]
            have HBX4 : Hid (Blk w4 w.heap.size 25 #[.int .i64 kd, .int .i64 bl, .int .i64 ro, .slice B ds.length d]) := by unfold Hid; rw [← hw4]; exact (HBX.out.below B3.out hs1).alloc _
            have HGA4 : Hid (Blk w4 w3.heap.size 68 #[cellM pl sl 0 0, cellM pl sl 0 1, cellM pl sl 0 2, cellM pl sl 0 3]) := by unfold Hid; rw [← hw4]; exact Blk.new w3 _ _
            have hG : w.heap.size < w3.heap.size := by omega
            go_wp2_with fail
            clear hw4
            go_loopw [10] (fun x wr => ∃ (k : Nat) (kc : Int), k ≤ 4 ∧ x = .int .i64 (k : Int) ∧ Hid (Blk wr w.heap.size 25 #[.int .i64 kc, .int .i64 bl, .int .i64 ro, .slice B ds.length d]) ∧ Hid (Blk wr w3.heap.size 68 #[cellM pl sl k 0, cellM pl sl k 1, cellM pl sl k 2, cellM pl sl k 3]) ∧
              Hid (∀ i, i < k → pl i ≤ 1000000000000) ∧ Hid (3 ≤ k → rightT (tabS (textsL L) ⟨kd, bl, ro, ds⟩) = true) ∧ Below w.heap.size w wr) (fun x _ => 4 - (intOf x).toNat)
            case atStart => exact ⟨0, kd, by omega, rfl, HBX4, HGA4, fun i hi => absurd hi (Nat.not_lt_zero i), fun h => absurd h (by omega), BW4.out⟩
            case round =>
              clear HBX4 HGA4
              obtain ⟨q, kc, hq, rfl, HX, HG, HP, HT, hb⟩ := hrel
              have HB := Lib.hid hb
              have hszr := hb.size
              clear hb
              by_cases hq3 : q ≤ 3
              · have iq : (q : Int) ≤ 3 := by omega
                have z0 : wr.cell? ⟨w.heap.size, 0, none⟩ = some (.int .i64 kc) := HX.out.cell 0
                have fz0 := HX.out.frozen 0
                obtain ⟨wa, hwa⟩ : ∃ wa, wr.setCell ⟨w.heap.size, 0, none⟩ (.int .i64 (q : Int)) = wa := ⟨_, rfl⟩
                have HXA : Hid (Blk wa w.heap.size 25 #[.int .i64 (q : Int), .int .i64 bl, .int .i64 ro, .slice B ds.length d]) := by unfold Hid; rw [← hwa]; exact HX.out.put 0 _
                have HGA : Hid (Blk wa w3.heap.size 68 #[cellM pl sl q 0, cellM pl sl q 1, cellM pl sl q 2, cellM pl sl q 3]) := by unfold Hid; rw [← hwa]; exact HG.out.far (by show w3.heap.size ≠ w.heap.size; omega) _
                have HBA : Hid (Below w.heap.size w wa) := by unfold Hid; rw [← hwa]; exact HB.out.setCell (p := ⟨w.heap.size, 0, none⟩) (Nat.le_refl _) _
                have b0 : wa.cell? ⟨w.heap.size, 0, none⟩ = some (.int .i64 (q : Int)) := HXA.out.cell 0
                have b1 : wa.cell? ⟨w.heap.size, 1, none⟩ = some (.int .i64 bl) := HXA.out.cell 1
                have b2 : wa.cell? ⟨w.heap.size, 2, none⟩ = some (.int .i64 ro) := HXA.out.cell 2
                have b3 : wa.cell? ⟨w.heap.size, 3, none⟩ = some (.slice B ds.length d) := HXA.out.cell 3
                have HMQ := Lib.hid (HM.out wa q HBA.out hq3)
                have hxl : w.heap.size < wa.heap.size := HXA.out.lt
                have hgl : w3.heap.size < wa.heap.size := HGA.out.lt
                go_wp2_with fail
                refine HMQ.out.mono ?_
                rintro r wb ⟨rfl, hbb, hpq, hrq⟩
                have HBB : Hid (Below w.heap.size w wb) := HBA.out.trans (hbb.mono HBA.out.size)
                have HXB := Lib.hid (HXA.out.below hbb hxl)
                have HGB := Lib.hid (HGA.out.below hbb hgl)
                have HPQ := Lib.hid hpq
                have HRQ := Lib.hid hrq
                clear hbb hpq hrq HMQ HX HG HB HXA HGA HBA z0 fz0 b0 b1 b2 b3 hwa
                have HPN : Hid (∀ i, i < q + 1 → pl i ≤ 1000000000000) := fun i hi => by
                  by_cases e : i = q
                  · subst e; exact HPQ.out
                  · exact HP.out i (by omega)
                have HTN : Hid (3 ≤ q + 1 → rightT (tabS (textsL L) ⟨kd, bl, ro, ds⟩) = true) := fun h3 => by
                  by_cases e : q = 2
                  · exact HRQ.out e
                  · exact HT.out (by omega)
                have hq4 : q = 0 ∨ q = 1 ∨ q = 2 ∨ q = 3 := by omega
                clear HPQ HRQ HP HT
                have y0 := HGB.out.cell 0
                have y1 := HGB.out.cell 1
                have y2 := HGB.out.cell 2
                have y3 := HGB.out.cell 3
                have u0 := HGB.out.frozen 0
                have u1 := HGB.out.frozen 1
                have u2 := HGB.out.frozen 2
                have u3 := HGB.out.frozen 3
                simp only [List.getElem?_toArray, List.getElem?_cons_zero, List.getElem?_cons_succ] at y0 y1 y2 y3
                have HXQ : ∀ i u, Hid (Blk (wb.setCell ⟨w3.heap.size, i, none⟩ u) w.heap.size 25 #[.int .i64 (q : Int), .int .i64 bl, .int .i64 ro, .slice B ds.length d]) := fun i u => HXB.out.far (by show w.heap.size ≠ w3.heap.size; omega) _
                have HBQ : ∀ i u, Hid (Below w.heap.size w (wb.setCell ⟨w3.heap.size, i, none⟩ u)) := fun i u => HBB.out.setCell (p := ⟨w3.heap.size, i, none⟩) (Nat.le_of_lt hG) _
                have HGQ : ∀ i, i = q → Hid (Blk (wb.setCell ⟨w3.heap.size, i, none⟩ (.complex .f64 (fl (pl q)) (fl sl))) w3.heap.size 68 #[cellM pl sl (q + 1) 0, cellM pl sl (q + 1) 1, cellM pl sl (q + 1) 2, cellM pl sl (q + 1) 3]) := fun i hi => by
                  subst hi
                  have := HGB.out.put i (.complex .f64 (fl (pl i)) (fl sl))
                  unfold Hid
                  rcases hq4 with e | e | e | e <;> subst e <;> simpa [cellM] using this
                rcases hq4 with e | e | e | e
                all_goals
                  subst e
                  have HGQ2 := HGQ _ rfl
                  clear HGQ
                  go_wp2_with fail
                  go_roundw
                  case rel => exact ⟨_, _, by omega, by first | rfl | go_num, HXQ _ _, HGQ2, HPN, HTN, (HBQ _ _).out⟩
                  case measure => simp [intOf]
              · have iq : ¬ (q : Int) ≤ 3 := by omega
                have e4 : q = 4 := by omega
                subst e4
                have HV : Hid (∀ i, i < 4 → ∀ W, Below wr.heap.size wr W → W.cell? ⟨w3.heap.size, i, none⟩ = some (.complex .f64 (fl (pl i)) (fl sl))) := fun i hi W hW => by
                  rw [(HG.out.below hW HG.out.lt).cell i]
                  have h4 : i = 0 ∨ i = 1 ∨ i = 2 ∨ i = 3 := by omega
                  rcases h4 with e | e | e | e <;> subst e <;> simp [cellM]
                have v0 := HV.out 0 (by omega) wr (Below.refl _ _)
                have v1 := HV.out 1 (by omega) wr (Below.refl _ _)
                have v2 := HV.out 2 (by omega) wr (Below.refl _ _)
                have v3 := HV.out 3 (by omega) wr (Below.refl _ _)
                have lt2 : (FloatKind.f64.format.order (fl (pl 2)) (fl (pl 1)) == some .lt) = decide (pl 2 < pl 1) := lt_fl (by have := HP.out 2 (by omega); omega) (by have := HP.out 1 (by omega); omega)
                obtain ⟨w5, hw5⟩ : ∃ w5, w5 = wr := ⟨_, rfl⟩
                subst hw5
                go_wp2_with fail
                go_loopw [13, 14] (fun x i wv => ∃ (t m : Nat), 2 ≤ t ∧ t ≤ 4 ∧ i = .int .i64 (t : Int) ∧ x = .float .f64 (fl m) ∧ Hid ((t = 2 → m = pl 1) ∧ (t = 3 → m = if pl 2 < pl 1 then pl 2 else pl 1) ∧ (t = 4 → m = leastN (pl 1) (pl 2) (pl 3))) ∧ Hid (m ≤ 1000000000000) ∧ wv = w5) (fun _ i _ => 4 - (intOf i).toNat)
                case atStart => exact ⟨2, pl 1, by omega, by omega, rfl, rfl, ⟨fun _ => rfl, fun h => absurd h (by omega), fun h => absurd h (by omega)⟩, HP.out 1 (by omega), rfl⟩
                case round =>
                  obtain ⟨t, m, ht2, ht4, rfl, rfl, HM3, HMB, hwv⟩ := hrel
                  have hwv' : w5 = wr := hwv.symm
                  subst hwv'
                  by_cases ht3 : t ≤ 3
                  · have it : (t : Int) ≤ 3 := by omega
                    have ht : t = 2 ∨ t = 3 := by omega
                    have ol : (FloatKind.f64.format.order (fl (pl t)) (fl m) == some .lt) = decide (pl t < m) := lt_fl (by have := HP.out t (by omega); omega) (by have := HMB.out; omega)
                    have HN : Hid (∀ m2, m2 = (if pl t < m then pl t else m) → ((t + 1 = 2 → m2 = pl 1) ∧ (t + 1 = 3 → m2 = if pl 2 < pl 1 then pl 2 else pl 1) ∧ (t + 1 = 4 → m2 = leastN (pl 1) (pl 2) (pl 3)))) := fun m2 h2 => by
                      refine ⟨fun h => absurd h (by omega), fun h => ?_, fun h => ?_⟩
                      · have e : t = 2 := by omega
                        subst e
                        rw [h2, HM3.out.1 rfl]
                      · have e : t = 3 := by omega
                        subst e
                        rw [h2, HM3.out.2.1 rfl]
                        rfl
                    have HPT := Lib.hid (HP.out t (by omega))
                    clear HM3
                    by_cases hlt : pl t < m
                    · rw [decide_eq_true hlt] at ol
                      have HN2 := Lib.hid (HN.out _ (if_pos hlt).symm)
                      clear HN hlt
                      rcases ht with e | e
                      all_goals
                        subst e
                        go_wp2_with fail
                        go_roundw
                        case rel => exact ⟨_, _, by omega, by omega, by first | rfl | go_num, rfl, HN2.out, HPT.out, by first | exact trivial | rfl⟩
                        case measure => simp [intOf]
                    · rw [decide_eq_false hlt] at ol
                      have HN2 := Lib.hid (HN.out _ (if_neg hlt).symm)
                      clear HN hlt
                      rcases ht with e | e
                      all_goals
                        subst e
                        go_wp2_with fail
                        go_roundw
                        case rel => exact ⟨_, _, by omega, by omega, by first | rfl | go_num, rfl, HN2.out, HMB.out, by first | exact trivial | rfl⟩
                        case measure => simp [intOf]
                  · have it : ¬ (t : Int) ≤ 3 := by omega
                    have e4 : t = 4 := by omega
                    subst e4
                    have hsl : (textsL L).length ≤ L.length := textsL_le L
                    rw [HSL.out] at hsl
                    have hm0 : m = pl 0 := by
                      rw [HM3.out.2.2 rfl, HPL.out 0, if_pos rfl, best_least, HPL.out 1, HPL.out 2, HPL.out 3]
                      rfl
                    subst hm0
                    have hp2 : pl 2 ≤ 2 * sumV L + 2308 + 4 * L.length := by
                      have := pay_two (L := L) (o := ⟨kd, bl, ro, ds⟩) hmb.1 hL (HT.out (by omega))
                      rw [HPL.out 2, if_neg (by decide)]
                      show (payK (textsL L) ⟨kd, bl, ro, ds⟩ (2 : Int)).length ≤ _
                      omega
                    have hp3 : pl 3 ≤ sumV L + 14 * L.length + 20 := by
                      have := pay_three (L := L) (o := ⟨kd, bl, ro, ds⟩) hmb.1 hL (by have h64 : bl ≤ 64 := hmb.2.2.2.2.1; show bl.toNat ≤ 64; omega)
                      rw [HPL.out 3, if_neg (by decide)]
                      show (payK (textsL L) ⟨kd, bl, ro, ds⟩ (3 : Int)).length ≤ _
                      omega
                    have ox0 : (FloatKind.f64.format.order (fl (pl 0)) (fl (pl 0)) == some .eq) = true := ord_self (HP.out 0 (by omega)) rfl
                    have oy0 : (FloatKind.f64.format.order (fl sl) (fl sl) == some .eq) = true := ord_self (by omega) rfl
                    have og2 : (FloatKind.f64.format.order (fl (pl 2)) (floatOfInt .f64 (2 * (sumV L : Int) + 2304 + 4 + 4 * (L.length : Int))) == some .gt) = false := by
                      have e : (2 * (sumV L : Int) + 2304 + 4 + 4 * (L.length : Int)) = ((2 * sumV L + 2308 + 4 * L.length : Nat) : Int) := by omega
                      rw [e]
                      exact (gt_fl (by have := HP.out 2 (by omega); omega) (by omega)).trans (decide_eq_false (by omega))
                    have og3 : (FloatKind.f64.format.order (fl (pl 3)) (floatOfInt .f64 ((sumV L : Int) + 14 * (L.length : Int) + 20)) == some .gt) = false := by
                      have e : ((sumV L : Int) + 14 * (L.length : Int) + 20) = ((sumV L + 14 * L.length + 20 : Nat) : Int) := by omega
                      rw [e]
                      exact (gt_fl (by have := HP.out 3 (by omega); omega) (by omega)).trans (decide_eq_false (by omega))
                    have ox1 := eq_of_beq ox0
                    have oy1 := eq_of_beq oy0
                    have og4 := ne_of_beq_false og2
                    have og5 := ne_of_beq_false og3
                    have HSV2 := Lib.hid hsv
                    have hz1 : (sumV L : Int) ≤ 5000 := by omega
                    have hl1 : (L.length : Int) ≤ 100 := by omega
                    have hz0 : (0 : Int) ≤ (sumV L : Int) := by omega
                    clear hp2 hp3 HM3 HMB hsv
                    obtain ⟨cu, hcu⟩ : ∃ cu, cut.toNat = cu := ⟨_, rfl⟩
                    have hcu2 : cu < 256 := by rw [← hcu]; exact cut.toNat_lt
                    rw [hcu]
                    clear hcu
                    obtain ⟨q, hq⟩ : ∃ q, cu % (L.length + 1) = q := ⟨_, rfl⟩
                    have hql : q ≤ L.length := by
                      have := Nat.mod_lt cu (show 0 < L.length + 1 by omega)
                      omega
                    have hmod : ((cu : Int)).tmod ((L.length : Int) + 1) = (q : Int) := by rw [← hq]; exact (Int.ofNat_tmod cu (L.length + 1)).symm
                    have hwc : IntKind.i64.wrap (cu : Int) = (cu : Int) := IntWalk.i64_in _ (by omega)
                    have hwl : IntKind.i64.wrap ((L.length : Int) + 1) = (L.length : Int) + 1 := IntWalk.i64_in _ (by omega)
                    have hwq : IntKind.i64.wrap (q : Int) = (q : Int) := IntWalk.i64_in _ (by omega)
                    have hn0 : ¬ (L.length : Int) + 1 = 0 := by omega
                    clear hq
                    obtain ⟨m2, hm2⟩ : ∃ m2, L.length - q = m2 := ⟨_, rfl⟩
                    obtain ⟨A1, hr1, HT1⟩ := slice_take (HR.out w5 HB.out) rfl hql
                    obtain ⟨A2, c2, hr2, HT2⟩ := slice_drop (HR.out w5 HB.out) rfl hql hm2
                    have HT1 := Lib.hid HT1
                    have HT2 := Lib.hid HT2
                    have HM2 : Hid ((L.drop q).length = m2) := by unfold Hid; rw [List.length_drop, hm2]
                    have HM1 : Hid ((L.take q).length = q) := by unfold Hid; rw [List.length_take]; omega
                    have HX12 := Lib.hid (texts_parts L q)
                    obtain ⟨x1, hx1⟩ : ∃ x1, (textsL (L.take q)).length = x1 := ⟨_, rfl⟩
                    obtain ⟨x2, hx2⟩ : ∃ x2, (textsL (L.drop q)).length = x2 := ⟨_, rfl⟩
                    rw [hx1, hx2, HSL.out] at HX12
                    have HMP : Hid (∀ W M A' c' n' x, FitsV M → M.length = n' → (textsL M).length = x → Below w.heap.size w W → Row W 0 W.heap.size A' c' M → Calls Tryz.prog 12 #[.slice A' n' c', .agg #[.int .i64 1, .int .i64 bl, .int .i64 ro, .slice B ds.length d]] W fun r w' => (∃ z, z ≤ 1000000000000 ∧ r = .returned (.tuple #[.complex .f64 (fl z) (fl x), .int .i64 0])) ∧ Below W.heap.size W w') := fun W M A' c' n' x hM hn hx hW hr => by
                      subst hn hx
                      refine (measure_yes (L := M) (o := ⟨1, bl, ro, ds⟩) ⟨hr, (HD.out W hW), HWD.out, by omega⟩ rfl ⟨hM, co_with hmb.2 (by omega) (by omega)⟩).mono ?_
                      rintro r w' ⟨h1, h2, h3, -⟩
                      exact ⟨⟨_, h3, h1⟩, h2⟩
                    have HMQ1 : Hid (∀ W, Below w.heap.size w W → Calls Tryz.prog 12 #[.slice A1 q c, .agg #[.int .i64 1, .int .i64 bl, .int .i64 ro, .slice B ds.length d]] W fun r w' => (∃ z, z ≤ 1000000000000 ∧ r = .returned (.tuple #[.complex .f64 (fl z) (fl x1), .int .i64 0])) ∧ Below W.heap.size W w') := fun W hW => HMP.out W (L.take q) A1 c q x1 (fits_take hmb.1 q) HM1.out hx1 hW (HT1.out W 0 W.heap.size (HR.out W hW))
                    have HMQ2 : Hid (∀ W, Below w.heap.size w W → Calls Tryz.prog 12 #[.slice A2 m2 c2, .agg #[.int .i64 1, .int .i64 bl, .int .i64 ro, .slice B ds.length d]] W fun r w' => (∃ z, z ≤ 1000000000000 ∧ r = .returned (.tuple #[.complex .f64 (fl z) (fl x2), .int .i64 0])) ∧ Below W.heap.size W w') := fun W hW => HMP.out W (L.drop q) A2 c2 m2 x2 (fits_drop hmb.1 q) HM2.out hx2 hW (HT2.out W 0 W.heap.size (HR.out W hW))
                    clear hx1 hx2 hm2 HMP HT1 HT2
                    have z0 : w5.cell? ⟨w.heap.size, 0, none⟩ = some (.int .i64 kc) := HX.out.cell 0
                    have fz0 := HX.out.frozen 0
                    obtain ⟨wa, hwa⟩ : ∃ wa, w5.setCell ⟨w.heap.size, 0, none⟩ (.int .i64 1) = wa := ⟨_, rfl⟩
                    have HXA : Hid (Blk wa w.heap.size 25 #[.int .i64 1, .int .i64 bl, .int .i64 ro, .slice B ds.length d]) := by unfold Hid; rw [← hwa]; exact HX.out.put 0 _
                    have HGA : Hid (Blk wa w3.heap.size 68 #[cellM pl sl 4 0, cellM pl sl 4 1, cellM pl sl 4 2, cellM pl sl 4 3]) := by unfold Hid; rw [← hwa]; exact HG.out.far (by show w3.heap.size ≠ w.heap.size; omega) _
                    have HBA : Hid (Below w.heap.size w wa) := by unfold Hid; rw [← hwa]; exact HB.out.setCell (p := ⟨w.heap.size, 0, none⟩) (Nat.le_refl _) _
                    have HCA : Hid (∀ W, Below wa.heap.size wa W → W.cell? ⟨w.heap.size, 0, none⟩ = some (.int .i64 1) ∧ W.cell? ⟨w.heap.size, 1, none⟩ = some (.int .i64 bl) ∧ W.cell? ⟨w.heap.size, 2, none⟩ = some (.int .i64 ro) ∧ W.cell? ⟨w.heap.size, 3, none⟩ = some (.slice B ds.length d)) := fun W hW => ⟨(HXA.out.below hW HXA.out.lt).cell 0, (HXA.out.below hW HXA.out.lt).cell 1, (HXA.out.below hW HXA.out.lt).cell 2, (HXA.out.below hW HXA.out.lt).cell 3⟩
                    have HVA : Hid (∀ W, Below wa.heap.size wa W → W.cell? ⟨w3.heap.size, 1, none⟩ = some (.complex .f64 (fl (pl 1)) (fl sl))) := fun W hW => by
                      rw [(HGA.out.below hW HGA.out.lt).cell 1]
                      simp [cellM]
                    clear HX HG HXA HGA HV HP HT
                    go_wp2_with fail
                    have KD : Hid (Below wa.heap.size wa wa.drew) := (Below.refl _ _).drew
                    refine wp_region_held_drew (S := fun w' => Below wa.heap.size wa w') (by kernel_rfl) KD.out (fun hHeld => ?_)
                    refine wpAnyH_take (i := 0) (oi := _) (v := ?_) rfl (by kernel_rfl) (by kernel_rfl) (by kernel_rfl) (fun _ _ _ h => h) (Or.inl ⟨by rfl, ?_⟩) hHeld ?_
                    rotate_left
                    focus (intro W hSw; obtain ⟨b0, b1, b2, b3⟩ := HCA.out W hSw; go_simp; try with_reducible rfl)
                    try simp only [List.getElem_toArray, List.getElem_cons_zero, List.getElem_cons_succ, Act.put, List.setIfInBounds_toArray, List.set_cons_zero, List.set_cons_succ]
                    refine wpAnyH_take (i := 1) (oi := _) (v := ?_) rfl (by kernel_rfl) (by kernel_rfl) (by kernel_rfl) (fun _ _ _ h => h) (Or.inl ⟨by rfl, ?_⟩) hHeld ?_
                    rotate_left
                    focus (intro W hSw; obtain ⟨b0, b1, b2, b3⟩ := HCA.out W hSw; go_simp; try with_reducible rfl)
                    try simp only [List.getElem_toArray, List.getElem_cons_zero, List.getElem_cons_succ, Act.put, List.setIfInBounds_toArray, List.set_cons_zero, List.set_cons_succ]
                    refine wpAnyH_take (i := 2) (oi := _) (v := ?_) rfl (by kernel_rfl) (by kernel_rfl) (by kernel_rfl) (fun _ _ _ h => h) (Or.inl ⟨by rfl, ?_⟩) hHeld ?_
                    rotate_left
                    focus (intro W hSw; obtain ⟨b0, b1, b2, b3⟩ := HCA.out W hSw; go_simp; try with_reducible rfl)
                    try simp only [List.getElem_toArray, List.getElem_cons_zero, List.getElem_cons_succ, Act.put, List.setIfInBounds_toArray, List.set_cons_zero, List.set_cons_succ]
                    refine wpAnyH_take (i := 3) (oi := _) (v := ?_) rfl (by kernel_rfl) (by kernel_rfl) (by kernel_rfl) (fun _ _ _ h => h) (Or.inl ⟨by rfl, ?_⟩) hHeld ?_
                    rotate_left
                    focus (intro W hSw; obtain ⟨b0, b1, b2, b3⟩ := HCA.out W hSw; go_simp; try with_reducible rfl)
                    try simp only [List.getElem_toArray, List.getElem_cons_zero, List.getElem_cons_succ, Act.put, List.setIfInBounds_toArray, List.set_cons_zero, List.set_cons_succ]
                    obtain ⟨wd, hwd⟩ : ∃ q, wa.drew = q := ⟨_, rfl⟩
                    rw [hwd] at hHeld ⊢
                    clear KD hwd
                    have K_wd := Lib.hid hHeld
                    refine wpAnyH_ready (rs := [4]) (by kernel_rfl) (by simp) ?_
                    refine AllReadyH.cons (o := _) rfl (fun K hK => ?_) AllReadyH.nil
                    go_simp
                    refine (HMQ1.out _ (HBA.out.trans (K_wd.out.mono HBA.out.size))).mono ?_
                    rintro r v1 ⟨⟨z1, hz1, rfl⟩, hb_v1⟩
                    have s_v1 : wd.heap.size ≤ v1.heap.size := hb_v1.size
                    have K_v1 : Hid (Below wa.heap.size wa v1) := Lib.hid (K_wd.out.trans (hb_v1.mono K_wd.out.size))
                    clear hb_v1
                    refine hK.out _ _ K_v1.out (fun hHeld => ?_)
                    clear hK K
                    try simp only [List.getElem_toArray, List.getElem_cons_zero, List.getElem_cons_succ, Act.put, List.setIfInBounds_toArray, List.set_cons_zero, List.set_cons_succ]
                    refine wpAnyH_take (i := 5) (oi := _) (v := ?_) rfl (by kernel_rfl) (by kernel_rfl) (by kernel_rfl) (fun _ _ _ h => h) (Or.inl ⟨by rfl, ?_⟩) hHeld ?_
                    rotate_left
                    focus (intro W hSw; obtain ⟨b0, b1, b2, b3⟩ := HCA.out W hSw; go_simp; try with_reducible rfl)
                    try simp only [List.getElem_toArray, List.getElem_cons_zero, List.getElem_cons_succ, Act.put, List.setIfInBounds_toArray, List.set_cons_zero, List.set_cons_succ]
                    refine wpAnyH_take (i := 6) (oi := _) (v := ?_) rfl (by kernel_rfl) (by kernel_rfl) (by kernel_rfl) (fun _ _ _ h => h) (Or.inl ⟨by rfl, ?_⟩) hHeld ?_
                    rotate_left
                    focus (intro W hSw; obtain ⟨b0, b1, b2, b3⟩ := HCA.out W hSw; go_simp; try with_reducible rfl)
                    try simp only [List.getElem_toArray, List.getElem_cons_zero, List.getElem_cons_succ, Act.put, List.setIfInBounds_toArray, List.set_cons_zero, List.set_cons_succ]
                    refine wpAnyH_take (i := 8) (oi := _) (v := ?_) rfl (by kernel_rfl) (by kernel_rfl) (by kernel_rfl) (fun _ _ _ h => h) (Or.inl ⟨by rfl, ?_⟩) hHeld ?_
                    rotate_left
                    focus (intro W hSw; obtain ⟨b0, b1, b2, b3⟩ := HCA.out W hSw; go_simp; try with_reducible rfl)
                    try simp only [List.getElem_toArray, List.getElem_cons_zero, List.getElem_cons_succ, Act.put, List.setIfInBounds_toArray, List.set_cons_zero, List.set_cons_succ]
                    refine wpAnyH_take (i := 7) (oi := _) (v := ?_) rfl (by kernel_rfl) (by kernel_rfl) (by kernel_rfl) (fun _ _ _ h => h) (Or.inl ⟨by rfl, ?_⟩) hHeld ?_
                    rotate_left
                    focus (intro W hSw; obtain ⟨b0, b1, b2, b3⟩ := HCA.out W hSw; go_simp; try with_reducible rfl)
                    try simp only [List.getElem_toArray, List.getElem_cons_zero, List.getElem_cons_succ, Act.put, List.setIfInBounds_toArray, List.set_cons_zero, List.set_cons_succ]
                    refine wpAnyH_take (i := 9) (oi := _) (v := ?_) rfl (by kernel_rfl) (by kernel_rfl) (by kernel_rfl) (fun _ _ _ h => h) (Or.inl ⟨by rfl, ?_⟩) hHeld ?_
                    rotate_left
                    focus (intro W hSw; obtain ⟨b0, b1, b2, b3⟩ := HCA.out W hSw; go_simp; try with_reducible rfl)
                    try simp only [List.getElem_toArray, List.getElem_cons_zero, List.getElem_cons_succ, Act.put, List.setIfInBounds_toArray, List.set_cons_zero, List.set_cons_succ]
                    refine wpAnyH_done (by kernel_rfl) ?_ _
                    have KF := K_v1
                    clear HMQ1
                    go_wp2_with fail
                    have KD : Hid (Below v1.heap.size v1 v1.drew) := (Below.refl _ _).drew
                    refine wp_region_held_drew (S := fun w' => Below v1.heap.size v1 w') (by kernel_rfl) KD.out (fun hHeld => ?_)
                    refine wpAnyH_take (i := 0) (oi := _) (v := ?_) rfl (by kernel_rfl) (by kernel_rfl) (by kernel_rfl) (fun _ _ _ h => h) (Or.inl ⟨by rfl, ?_⟩) hHeld ?_
                    rotate_left
                    focus (intro W hSw; obtain ⟨b0, b1, b2, b3⟩ := HCA.out W (KF.out.trans (hSw.mono KF.out.size)); go_simp; try with_reducible rfl)
                    try simp only [List.getElem_toArray, List.getElem_cons_zero, List.getElem_cons_succ, Act.put, List.setIfInBounds_toArray, List.set_cons_zero, List.set_cons_succ]
                    refine wpAnyH_take (i := 1) (oi := _) (v := ?_) rfl (by kernel_rfl) (by kernel_rfl) (by kernel_rfl) (fun _ _ _ h => h) (Or.inl ⟨by rfl, ?_⟩) hHeld ?_
                    rotate_left
                    focus (intro W hSw; obtain ⟨b0, b1, b2, b3⟩ := HCA.out W (KF.out.trans (hSw.mono KF.out.size)); go_simp; try with_reducible rfl)
                    try simp only [List.getElem_toArray, List.getElem_cons_zero, List.getElem_cons_succ, Act.put, List.setIfInBounds_toArray, List.set_cons_zero, List.set_cons_succ]
                    refine wpAnyH_take (i := 2) (oi := _) (v := ?_) rfl (by kernel_rfl) (by kernel_rfl) (by kernel_rfl) (fun _ _ _ h => h) (Or.inl ⟨by rfl, ?_⟩) hHeld ?_
                    rotate_left
                    focus (intro W hSw; obtain ⟨b0, b1, b2, b3⟩ := HCA.out W (KF.out.trans (hSw.mono KF.out.size)); go_simp; try with_reducible rfl)
                    try simp only [List.getElem_toArray, List.getElem_cons_zero, List.getElem_cons_succ, Act.put, List.setIfInBounds_toArray, List.set_cons_zero, List.set_cons_succ]
                    refine wpAnyH_take (i := 3) (oi := _) (v := ?_) rfl (by kernel_rfl) (by kernel_rfl) (by kernel_rfl) (fun _ _ _ h => h) (Or.inl ⟨by rfl, ?_⟩) hHeld ?_
                    rotate_left
                    focus (intro W hSw; obtain ⟨b0, b1, b2, b3⟩ := HCA.out W (KF.out.trans (hSw.mono KF.out.size)); go_simp; try with_reducible rfl)
                    try simp only [List.getElem_toArray, List.getElem_cons_zero, List.getElem_cons_succ, Act.put, List.setIfInBounds_toArray, List.set_cons_zero, List.set_cons_succ]
                    obtain ⟨we, hwe⟩ : ∃ q, v1.drew = q := ⟨_, rfl⟩
                    rw [hwe] at hHeld ⊢
                    clear KD hwe
                    have K_we := Lib.hid hHeld
                    refine wpAnyH_ready (rs := [4]) (by kernel_rfl) (by simp) ?_
                    refine AllReadyH.cons (o := _) rfl (fun K hK => ?_) AllReadyH.nil
                    go_simp
                    refine (HMQ2.out _ (HBA.out.trans ((KF.out.trans (K_we.out.mono KF.out.size)).mono HBA.out.size))).mono ?_
                    rintro r v71 ⟨⟨z2, hz2, rfl⟩, hb_v71⟩
                    have s_v71 : we.heap.size ≤ v71.heap.size := hb_v71.size
                    have K_v71 : Hid (Below v1.heap.size v1 v71) := Lib.hid (K_we.out.trans (hb_v71.mono K_we.out.size))
                    clear hb_v71
                    refine hK.out _ _ K_v71.out (fun hHeld => ?_)
                    clear hK K
                    try simp only [List.getElem_toArray, List.getElem_cons_zero, List.getElem_cons_succ, Act.put, List.setIfInBounds_toArray, List.set_cons_zero, List.set_cons_succ]
                    refine wpAnyH_take (i := 5) (oi := _) (v := ?_) rfl (by kernel_rfl) (by kernel_rfl) (by kernel_rfl) (fun _ _ _ h => h) (Or.inl ⟨by rfl, ?_⟩) hHeld ?_
                    rotate_left
                    focus (intro W hSw; obtain ⟨b0, b1, b2, b3⟩ := HCA.out W (KF.out.trans (hSw.mono KF.out.size)); go_simp; try with_reducible rfl)
                    try simp only [List.getElem_toArray, List.getElem_cons_zero, List.getElem_cons_succ, Act.put, List.setIfInBounds_toArray, List.set_cons_zero, List.set_cons_succ]
                    refine wpAnyH_take (i := 6) (oi := _) (v := ?_) rfl (by kernel_rfl) (by kernel_rfl) (by kernel_rfl) (fun _ _ _ h => h) (Or.inl ⟨by rfl, ?_⟩) hHeld ?_
                    rotate_left
                    focus (intro W hSw; obtain ⟨b0, b1, b2, b3⟩ := HCA.out W (KF.out.trans (hSw.mono KF.out.size)); go_simp; try with_reducible rfl)
                    try simp only [List.getElem_toArray, List.getElem_cons_zero, List.getElem_cons_succ, Act.put, List.setIfInBounds_toArray, List.set_cons_zero, List.set_cons_succ]
                    refine wpAnyH_take (i := 8) (oi := _) (v := ?_) rfl (by kernel_rfl) (by kernel_rfl) (by kernel_rfl) (fun _ _ _ h => h) (Or.inl ⟨by rfl, ?_⟩) hHeld ?_
                    rotate_left
                    focus (intro W hSw; obtain ⟨b0, b1, b2, b3⟩ := HCA.out W (KF.out.trans (hSw.mono KF.out.size)); go_simp; try with_reducible rfl)
                    try simp only [List.getElem_toArray, List.getElem_cons_zero, List.getElem_cons_succ, Act.put, List.setIfInBounds_toArray, List.set_cons_zero, List.set_cons_succ]
                    refine wpAnyH_take (i := 7) (oi := _) (v := ?_) rfl (by kernel_rfl) (by kernel_rfl) (by kernel_rfl) (fun _ _ _ h => h) (Or.inl ⟨by rfl, ?_⟩) hHeld ?_
                    rotate_left
                    focus (intro W hSw; obtain ⟨b0, b1, b2, b3⟩ := HCA.out W (KF.out.trans (hSw.mono KF.out.size)); go_simp; try with_reducible rfl)
                    try simp only [List.getElem_toArray, List.getElem_cons_zero, List.getElem_cons_succ, Act.put, List.setIfInBounds_toArray, List.set_cons_zero, List.set_cons_succ]
                    refine wpAnyH_take (i := 9) (oi := _) (v := ?_) rfl (by kernel_rfl) (by kernel_rfl) (by kernel_rfl) (fun _ _ _ h => h) (Or.inl ⟨by rfl, ?_⟩) hHeld ?_
                    rotate_left
                    focus (intro W hSw; obtain ⟨b0, b1, b2, b3⟩ := HCA.out W (KF.out.trans (hSw.mono KF.out.size)); go_simp; try with_reducible rfl)
                    try simp only [List.getElem_toArray, List.getElem_cons_zero, List.getElem_cons_succ, Act.put, List.setIfInBounds_toArray, List.set_cons_zero, List.set_cons_succ]
                    refine wpAnyH_done (by kernel_rfl) ?_ _
                    have KG := K_v71
                    have hv1 := HVA.out _ (KF.out.trans (KG.out.mono KF.out.size))
                    have hcs : cSumBits .add .f64 (fl z1) (fl x1) (fl z2) (fl x2) = some (fl (z1 + z2), fl (x1 + x2)) := csum_fl (by omega) (by have := HX12.out; omega)
                    rw [HX12.out] at hcs
                    have hrs := fun W => run_complex_sum (P := Tryz.prog) (w := W) .add (.inl rfl) 32 .f64 _ _ _ _ _ _ hcs
                    clear HX12 hcs
                    go_wp2_with fail
                    go_ret
                    exact ⟨rfl, HBA.out.trans ((KF.out.trans (KG.out.mono KF.out.size)).mono HBA.out.size)⟩
      · rw [decide_eq_false (show ¬ (FitsV L ∧ CoOk ⟨kd, bl, ro, ds⟩) from hmb)] at HRI
        go_wp2_with fail
        refine HRI.out.mono ?_
        rintro r w3 ⟨rfl, hb3⟩
        have HAW3 := Lib.hid (awake_any17 (w := w3))
        have BW3 : Hid (Below w.heap.size w w3) := BW2.out.trans (hb3.mono BW2.out.size)
        go_wp2_with fail
        refine HAW3.out.mono ?_
        rintro r w4 ⟨rfl, hb4⟩
        go_wp2_with fail
        go_ret
        exact ⟨rfl, BW3.out.trans (hb4.mono BW3.out.size)⟩
    · have ids : (60 : Int) < (ds.length : Int) := by omega
      go_wp2_with fail
      refine HAW2.out.mono ?_
      rintro r w4 ⟨rfl, hb4⟩
      go_wp2_with fail
      go_ret
      exact ⟨rfl, BW2.out.trans (hb4.mono BW2.out.size)⟩
set_option maxRecDepth 100000 in
theorem chunkBest_lifted (os : Os) (started : os.Started) (H : Type) (enc : TypeId × Value → H) :
    ReturnsInHanded {} Tryz.checked os 7 .any (Rows.chunkBestSpec.pre6 enc Tryz.prog Tryz.f7 Rows.chunkBestRow.domain false) (Rows.chunkBestSpec.post enc Tryz.prog Tryz.f7 false true false false) := by
  refine returnsInHanded_of_change (C := Tryz.checked) own started (by kernel_rfl) Tryz.func7
    (ChangeSpec.witness6 (enc := enc) (C := Tryz.checked) false ⟨#[], #[.slice none 0 0, .agg #[.int .i64 0, .int .i64 0, .int .i64 0, .slice none 0 0], .int .u8 0], []⟩ 8 (by kernel_rfl) (by kernel_rfl) (by kernel_rfl) (by kernel_rfl)) ?_
  intro W base args ds gs before hval0 hW hcnd _
  have hval : ∀ (j : Nat) t v, Tryz.f7.params[j]? = some t → args[j]? = some v → Value.okWide Tryz.prog W .any base t v := hval0
  have hW' := hW
  obtain ⟨p, q, hA0, hV, rfl, hfz, hnd⟩ := hW
  have hA : DataW.TrodAll enc Tryz.prog W 0 (fun _ => true) true Tryz.f7.params.toList args.toList ds p := hA0
  have hA1 : DataW.TrodAll enc Tryz.prog W 0 (fun _ => true) true Tryz.f7.params.toList args.toList ds p := hA0
  rw [Tryz.params7] at hA hval
  obtain ⟨v0, vs0, d0, ds0, p0, q0, hargs, rfl, rfl, h0, r0⟩ := trodAll_cons hA
  obtain ⟨v1, vs1, d1, ds1, p1, q1, rfl, rfl, rfl, h1, r1⟩ := trodAll_cons r0
  obtain ⟨v2, vs2, d2, ds2, p2, q2, rfl, rfl, rfl, h2, r2⟩ := trodAll_cons r1
  obtain ⟨rfl, rfl, rfl⟩ := trodAll_nil r2
  obtain rfl : args = #[v0, v1, v2] := by cases args; simp_all
  obtain ⟨rfl, rfl⟩ := trodVars_none hV
  obtain ⟨A0, a0, c0, rfl, w0⟩ := open_row (hval 0 22 v0 rfl rfl) h0
  obtain ⟨A1, a1, c1, rfl, w1⟩ := open_coding (hval 1 25 v1 rfl rfl) h1
  obtain ⟨a2, rfl, rfl, rfl, w2⟩ := open_int Tryz.underlying5 (hval 2 5 v2 rfl rfl) h2
  obtain ⟨b2, rfl⟩ := u8_of_wf w2
  clear hA0 hval0
  refine (chunkBest_walk (w := W) w0 w1 b2).mono fun e W' ⟨he, bel⟩ => ?_
  subst he
  exact ⟨_, rfl, _, _, _, [], _, [], hW', trodAll_mk1 (shut_bool Tryz.underlying4 _), trodAll_below laidOut bel _ _ _ _ (by kernel_rfl) hA1, rfl, bel.frame _, fun h => by cases h⟩
theorem chunkBest_over : Rows.chunkBestRow.holds Tryz.pinned (OpenSpec.ofChange Rows.chunkBestSpec) :=
  OpenClaim.holds_of_wide 7 Tryz.f7 rfl rfl rfl rfl rfl rfl rfl ⟨rfl, rfl, rfl, rfl, rfl⟩ rfl rfl rfl rfl rfl (by kernel_rfl) Tryz.func7 (by kernel_rfl)
    (of_decide_eq_true (by kernel_rfl)) (by unfold Func.isWrapper; first | (rw [if_pos (by decide +kernel)]; kernel_rfl) | (rw [if_neg (by decide +kernel)]; exact ⟨rfl, rfl⟩))
    (fun os started H enc _ => chunkBest_lifted os started H enc)
theorem chunkBest_proved : Rows.ChunkBestSaid := chunkBest_over
end Go.Proofs.YtmffpbhiehjlpaaGreat
