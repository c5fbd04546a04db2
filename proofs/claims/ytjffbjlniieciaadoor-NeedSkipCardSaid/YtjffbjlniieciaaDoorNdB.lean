/-
  The document's Small of layer 16.
-/
import Derived.Test.YtjffbjlniieciaaDoorNdA
namespace Go.Proofs.YtjffbjlniieciaaDoor
set_option linter.unusedSimpArgs false
set_option linter.unusedVariables false
open Go.RowKit

set_option maxRecDepth 20000 in
set_option maxHeartbeats 8000000 in
theorem smallp_any : ∀ (p : Pr) {w : World} {lo hi : Nat} {A : Option Addr} {c : Nat} (deep : Int), PrOk p → Kin w lo hi p.kids A c → hi ≤ w.heap.size → -1 ≤ deep → deep ≤ 1000000 →
    Calls Tryd.prog 11 #[.agg #[.int .i64 p.kind, .int .i64 p.col, .string p.s, .int .i64 p.esc, .int .i64 p.coll, .slice A p.kids.length c], .int .i64 deep] w fun r w' => r = .returned (.bool (smallP p deep)) ∧ Below w.heap.size w w' :=
  Pr.ind fun p ih w lo hi A c deep ho hk hhi hd1 hd2 => by
    have HIH := Lib.hid ih
    have HK := Lib.hid hk
    have HO := Lib.hid ho
    have hs63 := ho.s
    obtain ⟨hl1, hl2⟩ := hk.len
    clear ih hk ho
    obtain ⟨V, hV⟩ : ∃ V, smallP p deep = V := ⟨_, rfl⟩
    rw [hV]
    have HV : Hid ((!decide (deep < 0) && !decide (300 < p.s.size) && !decide (20 < p.kids.length) && !decide (80 < sizeP p 100) && p.kids.all (fun q => smallP q (deep - 1))) = V) := by rw [← hV]; exact (smallP_eq p deep).symm
    clear hV
    obtain ⟨w1, hw1⟩ : ∃ w1, w.alloc (.cells #[.int .i64 p.kind, .int .i64 p.col, .string p.s, .int .i64 p.esc, .int .i64 p.coll, .slice A p.kids.length c] 24) = w1 := ⟨_, rfl⟩
    have B1 : Hid (Below w.heap.size w w1) := by unfold Hid; rw [← hw1]; exact (Below.refl _ w).alloc (Nat.le_refl _) _
    have hb : Blk w1 w.heap.size 24 #[.int .i64 p.kind, .int .i64 p.col, .string p.s, .int .i64 p.esc, .int .i64 p.coll, .slice A p.kids.length c] := by rw [← hw1]; exact Blk.new w _ _
    have hs1 : w1.heap.size = w.heap.size + 1 := by rw [← hw1]; simp
    have HC5 : Hid (∀ W, Below w1.heap.size w1 W → W.cell? ⟨w.heap.size, 5, none⟩ = some (.slice A p.kids.length c)) := fun W hW => (hb.below hW (by omega)).cell 5
    have b0 : w1.cell? ⟨w.heap.size, 0, none⟩ = some (.int .i64 p.kind) := hb.cell 0
    have b1 : w1.cell? ⟨w.heap.size, 1, none⟩ = some (.int .i64 p.col) := hb.cell 1
    have b2 : w1.cell? ⟨w.heap.size, 2, none⟩ = some (.string p.s) := hb.cell 2
    have b3 : w1.cell? ⟨w.heap.size, 3, none⟩ = some (.int .i64 p.esc) := hb.cell 3
    have b4 : w1.cell? ⟨w.heap.size, 4, none⟩ = some (.int .i64 p.coll) := hb.cell 4
    have b5 : w1.cell? ⟨w.heap.size, 5, none⟩ = some (.slice A p.kids.length c) := hb.cell 5
    have HK1 := Lib.hid (HK.out.kept B1.out hhi)
    clear hb HK
    by_cases hd0 : deep < 0
    · have HVV : Hid (V = false) := by unfold Hid; rw [← HV.out, decide_eq_true hd0]; rfl
      go_enter Tryd.func11, Tryd.ntmps11
      go_wp2_with fail
      go_ret
      exact ⟨ret_bool HVV.out.symm, B1.out⟩
    · have d0 : decide (deep < 0) = false := decide_eq_false hd0
      by_cases hs3 : 300 < p.s.size
      · have i3 : (300 : Int) < (p.s.size : Int) := by omega
        have HVV : Hid (V = false) := by unfold Hid; rw [← HV.out, decide_eq_true hs3]; simp
        go_enter Tryd.func11, Tryd.ntmps11
        go_wp2_with fail
        go_ret
        exact ⟨ret_bool HVV.out.symm, B1.out⟩
      · have i3 : ¬ (300 : Int) < (p.s.size : Int) := by omega
        by_cases hk2 : 20 < p.kids.length
        · have i4 : (20 : Int) < (p.kids.length : Int) := by omega
          have HVV : Hid (V = false) := by unfold Hid; rw [← HV.out, decide_eq_true hk2]; simp
          go_enter Tryd.func11, Tryd.ntmps11
          go_wp2_with fail
          go_ret
          exact ⟨ret_bool HVV.out.symm, B1.out⟩
        · have i4 : ¬ (20 : Int) < (p.kids.length : Int) := by omega
          have HSZ := Lib.hid (sizep_any p 100 HO.out HK1.out (w := w1) (by omega) (by omega) (by omega))
          obtain ⟨z, hz⟩ : ∃ z, sizeP p 100 = z := ⟨_, rfl⟩
          rw [hz] at HSZ
          have HZ := Lib.hid hz
          clear hz
          by_cases hz8 : 80 < z
          · have HVV : Hid (V = false) := by unfold Hid; rw [← HV.out, HZ.out, decide_eq_true hz8]; simp
            have i5 : decide ((80 : Int) < z) = true := decide_eq_true hz8
            go_enter Tryd.func11, Tryd.ntmps11
            go_wp2_with fail
            refine HSZ.out.mono ?_
            rintro r w2 ⟨rfl, q2⟩
            go_wp2_with fail
            go_ret
            exact ⟨ret_bool HVV.out.symm, below_up B1.out q2 (by omega)⟩
          · have i5 : decide ((80 : Int) < z) = false := decide_eq_false hz8
            have HVA : Hid (p.kids.all (fun q => smallP q (deep - 1)) = V) := by
              unfold Hid
              rw [← HV.out, HZ.out, decide_eq_false hd0, decide_eq_false hs3, decide_eq_false hk2, decide_eq_false hz8]
              rfl
            go_enter Tryd.func11, Tryd.ntmps11
            go_wp2_with fail
            refine HSZ.out.mono ?_
            rintro r w2 ⟨rfl, q2⟩
            have B2 := Lib.hid q2
            have s2 := q2.size
            clear q2 b0 b1 b2 b3 b4 b5
            go_wp2_with fail
            go_loopw [5] (fun x5 wr => ∃ k : Nat, k ≤ p.kids.length ∧ x5 = .int .i64 (k : Int) ∧ (∀ q ∈ p.kids.take k, smallP q (deep - 1) = true) ∧ Below w1.heap.size w1 wr) (fun x5 _ => p.kids.length - (intOf x5).toNat)
            case atStart => exact ⟨0, Nat.zero_le _, rfl, by simp, B2.out⟩
            case round =>
              obtain ⟨k, hk, rfl, ha, hb⟩ := hrel
              have HA := Lib.hid ha
              have HB := Lib.hid hb
              have hsz := hb.size
              have hc5 := HC5.out wr hb
              clear ha hb
              by_cases hlt : k < p.kids.length
              · have ik : (k : Int) < (p.kids.length : Int) := by omega
                obtain ⟨b, off, kA, kc, rfl, hlo, hbh, c0, c1, c2, c3, c4, c5, hok, hkk⟩ := (HK1.out.kept HB.out (by omega)).six hlt
                have HQ := Lib.hid (HIH.out p.kids[k] (List.getElem_mem hlt) (w := wr) (deep - 1) hok hkk (by omega) (by omega) (by omega))
                have HT : Hid (p.kids.take (k + 1) = p.kids.take k ++ [p.kids[k]]) := List.take_succ_eq_append_getElem hlt
                have HM : Hid (p.kids[k] ∈ p.kids) := List.getElem_mem hlt
                generalize p.kids[k] = q at *
                obtain ⟨f, hf⟩ : ∃ f, smallP q (deep - 1) = f := ⟨_, rfl⟩
                rw [hf] at HQ
                have HF := Lib.hid hf
                clear hf hok hkk
                cases f with
                | true =>
                  have HA2 : Hid (∀ q ∈ p.kids.take (k + 1), smallP q (deep - 1) = true) := fun x hx => by
                    rw [HT.out] at hx
                    rcases List.mem_append.1 hx with hx | hx
                    · exact HA.out x hx
                    · rw [List.mem_singleton.1 hx]; exact HF.out
                  go_wp2_with fail
                  refine HQ.out.mono ?_
                  rintro r w3 ⟨rfl, q3⟩
                  have HB3 := Lib.hid (below_up HB.out q3 hsz)
                  clear q3
                  go_wp2_with fail
                  go_roundw
                  case rel => exact ⟨k + 1, by omega, by go_num, HA2.out, HB3.out⟩
                  case measure => simp [intOf] <;> omega
                | false =>
                  have HVV : Hid (V = false) := by
                    unfold Hid
                    rw [← HVA.out]
                    refine Bool.eq_false_iff.2 fun h => ?_
                    have := List.all_eq_true.1 h q HM.out
                    rw [HF.out] at this
                    cases this
                  go_wp2_with fail
                  refine HQ.out.mono ?_
                  rintro r w3 ⟨rfl, q3⟩
                  go_wp2_with fail
                  go_ret
                  exact ⟨ret_bool HVV.out.symm, below_up B1.out (below_up HB.out q3 hsz) (by omega)⟩
              · have ik : ¬ (k : Int) < (p.kids.length : Int) := by omega
                have HVV : Hid (V = true) := by
                  unfold Hid
                  rw [← HVA.out]
                  refine List.all_eq_true.2 fun x hx => HA.out x ?_
                  rw [List.take_of_length_le (by omega)]
                  exact hx
                go_wp2_with fail
                go_ret
                exact ⟨ret_bool HVV.out.symm, below_up B1.out HB.out (by omega)⟩
end Go.Proofs.YtjffbjlniieciaaDoor
