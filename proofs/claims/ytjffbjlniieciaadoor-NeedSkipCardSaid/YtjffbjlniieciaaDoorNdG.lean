/-
  The document's Says of layer 16.
-/
import Derived.Test.YtjffbjlniieciaaDoorNdF
import Derived.Test.YtjffbjlniieciaaDoorRfLc
import Derived.Deep.RegionHeld3
namespace Go.Proofs.YtjffbjlniieciaaDoor
set_option linter.unusedSimpArgs false
set_option linter.unusedVariables false
open Go.RowKit

theorem ret_int {a b : Int} (h : a = b) : (Ending.returned (.int .i64 a) : Ending) = .returned (.int .i64 b) := by rw [h]

set_option maxRecDepth 20000 in
set_option maxHeartbeats 16000000 in
theorem saysp_any : ∀ (p : Pr) {w : World} {lo hi rlo rhi : Nat} {A rA : Option Addr} {c rc : Nat} (row : List Vl) (deep : Int), PrOk p → Kin w lo hi p.kids A c → Row w rlo rhi rA rc row → hi ≤ w.heap.size → rhi ≤ w.heap.size → (∀ v ∈ row, v.s.size ≤ 100000) → rightP p row.length deep = true →
    Calls Tryd.prog 16 #[.agg #[.int .i64 p.kind, .int .i64 p.col, .string p.s, .int .i64 p.esc, .int .i64 p.coll, .slice A p.kids.length c], .slice rA row.length rc] w fun r w' => r = .returned (.int .i64 (saysP p row)) ∧ Below w.heap.size w w' :=
  Pr.ind fun p ih w lo hi rlo rhi A rA c rc row deep ho hk hrow hhi hrhi hvs hr => by
    have HIH := Lib.hid ih
    have HK := Lib.hid hk
    have HROW := Lib.hid hrow
    have HVS := Lib.hid hvs
    have HR := Lib.hid hr
    have hs63 := ho.s
    obtain ⟨hl1, hl2⟩ := hk.len
    obtain ⟨hr1, hr2⟩ := hrow.len
    clear ih hk ho hrow hvs hr
    obtain ⟨V, hV⟩ : ∃ V, saysP p row = V := ⟨_, rfl⟩
    rw [hV]
    rw [saysP_eq] at hV
    have HRH := Lib.hid (fun h => rightP_head HR.out h)
    have HRL := Lib.hid (fun h => rightP_leaf HR.out h)
    clear HR
    obtain ⟨kd, hkd⟩ : ∃ x, p.kind = x := ⟨_, rfl⟩
    obtain ⟨cl, hcl⟩ : ∃ x, p.col = x := ⟨_, rfl⟩
    obtain ⟨ec, hec⟩ : ∃ x, p.esc = x := ⟨_, rfl⟩
    obtain ⟨co, hco⟩ : ∃ x, p.coll = x := ⟨_, rfl⟩
    obtain ⟨s, hs⟩ : ∃ x, p.s = x := ⟨_, rfl⟩
    obtain ⟨ks, hks⟩ : ∃ x, p.kids = x := ⟨_, rfl⟩
    rw [hkd, hcl, hec, hco, hs, hks] at hV
    rw [hkd, hks] at HRH
    rw [hkd, hcl, hec, hs, hks] at HRL
    rw [hks] at HIH HK hl1
    rw [hs] at hs63
    rw [hkd, hcl, hec, hco, hs, hks]
    clear hkd hcl hec hco hs hks
    have HV := Lib.hid hV
    clear hV
    obtain ⟨w1, hw1⟩ : ∃ w1, w.alloc (.cells #[.int .i64 kd, .int .i64 cl, .string s, .int .i64 ec, .int .i64 co, .slice A ks.length c] 24) = w1 := ⟨_, rfl⟩
    have B1 : Hid (Below w.heap.size w w1) := by unfold Hid; rw [← hw1]; exact (Below.refl _ w).alloc (Nat.le_refl _) _
    have hb : Blk w1 w.heap.size 24 #[.int .i64 kd, .int .i64 cl, .string s, .int .i64 ec, .int .i64 co, .slice A ks.length c] := by rw [← hw1]; exact Blk.new w _ _
    have hs1 : w1.heap.size = w.heap.size + 1 := by rw [← hw1]; simp
    have HKK : Hid (∀ W, Below w1.heap.size w1 W → Blk W w.heap.size 24 #[.int .i64 kd, .int .i64 cl, .string s, .int .i64 ec, .int .i64 co, .slice A ks.length c]) := fun W hW => hb.below hW (by omega)
    have b0 : w1.cell? ⟨w.heap.size, 0, none⟩ = some (.int .i64 kd) := hb.cell 0
    have b1 : w1.cell? ⟨w.heap.size, 1, none⟩ = some (.int .i64 cl) := hb.cell 1
    have b2 : w1.cell? ⟨w.heap.size, 2, none⟩ = some (.string s) := hb.cell 2
    have b3 : w1.cell? ⟨w.heap.size, 3, none⟩ = some (.int .i64 ec) := hb.cell 3
    have b4 : w1.cell? ⟨w.heap.size, 4, none⟩ = some (.int .i64 co) := hb.cell 4
    have b5 : w1.cell? ⟨w.heap.size, 5, none⟩ = some (.slice A ks.length c) := hb.cell 5
    have HK1 := Lib.hid (HK.out.kept B1.out hhi)
    have HROW1 := Lib.hid (HROW.out.below B1.out hrhi)
    clear hb HK HROW
    by_cases g12 : 12 ≤ kd
    · obtain ⟨k14, k16, k1, _, HRK⟩ := HRH.out g12
      have HRK := Lib.hid HRK
      clear HRL HRH
      have HVT : Hid (∀ a b u : Nat, Tal (ks.map fun q => saysP q row) a b u → headS kd a b u = V) := fun a b u ht => by rw [← HV.out, if_pos g12, ht.no, ht.yes, ht.un]
      clear HV
      have g12' : decide (12 ≤ kd) = true := decide_eq_true g12
      go_enter Tryd.func16, Tryd.ntmps16
      go_wp2_with fail
      go_loopw [5, 6, 7, 8] (fun x5 x6 x7 x8 wr => ∃ k a b u : Nat, k ≤ ks.length ∧ a ≤ k ∧ b ≤ k ∧ u ≤ k ∧ x5 = .int .i64 (a : Int) ∧ x6 = .int .i64 (b : Int) ∧ x7 = .int .i64 (u : Int) ∧ x8 = .int .i64 (k : Int) ∧ Tal ((ks.take k).map fun q => saysP q row) a b u ∧ Below w1.heap.size w1 wr) (fun _ _ _ x8 _ => ks.length - (intOf x8).toNat)
      case atStart => exact ⟨0, 0, 0, 0, Nat.zero_le _, Nat.le_refl _, Nat.le_refl _, Nat.le_refl _, rfl, rfl, rfl, rfl, Tal.nil, Below.refl _ _⟩
      case round =>
        clear b0 b1 b2 b3 b4 b5
        obtain ⟨k, a, b, u, hk, ha, hbk, hu, rfl, rfl, rfl, rfl, htal, hb⟩ := hrel
        have HT := Lib.hid htal
        have HB := Lib.hid hb
        have hsz := hb.size
        have hbb := HKK.out wr hb
        have b0 : wr.cell? ⟨w.heap.size, 0, none⟩ = some (.int .i64 kd) := hbb.cell 0
        have b5 : wr.cell? ⟨w.heap.size, 5, none⟩ = some (.slice A ks.length c) := hbb.cell 5
        clear htal hb hbb
        by_cases hlt : k < ks.length
        · have ik : (k : Int) < (ks.length : Int) := by omega
          obtain ⟨bk, off, kA, kc, rfl, hlo, hbh, c0, c1, c2, c3, c4, c5, hok, hkk⟩ := (HK1.out.kept HB.out (by omega)).six hlt
          have HQ := Lib.hid (HIH.out ks[k] (List.getElem_mem hlt) (w := wr) row (deep - 1) hok hkk (HROW1.out.below HB.out (by omega)) (by omega) (by omega) HVS.out (HRK.out _ (List.getElem_mem hlt)))
          have HTK : Hid ((ks.take (k + 1)).map (fun q => saysP q row) = (ks.take k).map (fun q => saysP q row) ++ [saysP ks[k] row]) := by unfold Hid; rw [List.take_succ_eq_append_getElem hlt, List.map_append]; rfl
          generalize ks[k] = q at *
          obtain ⟨z, hz⟩ : ∃ z, saysP q row = z := ⟨_, rfl⟩
          rw [hz] at HQ HTK
          clear hz hok hkk
          by_cases z0 : z = 0
          · subst z0
            have HN : Hid (Tal ((ks.take (k + 1)).map fun q => saysP q row) (a + 1) b u) := by unfold Hid; rw [HTK.out]; exact HT.out.no1
            clear HTK
            go_wp2_with fail
            refine HQ.out.mono ?_
            rintro r w3 ⟨rfl, q3⟩
            have HB3 := Lib.hid (below_up HB.out q3 hsz)
            clear q3
            go_wp2_with fail
            go_roundw
            case rel => exact ⟨k + 1, a + 1, b, u, by omega, by omega, by omega, by omega, by go_num, rfl, rfl, by go_num, HN.out, HB3.out⟩
            case measure => simp [intOf] <;> omega
          · have e0 : (z == 0) = false := by rw [beq_eq_false_iff_ne]; exact z0
            by_cases z1 : z = 1
            · subst z1
              have HN : Hid (Tal ((ks.take (k + 1)).map fun q => saysP q row) a (b + 1) u) := by unfold Hid; rw [HTK.out]; exact HT.out.yes1
              clear HTK
              go_wp2_with fail
              refine HQ.out.mono ?_
              rintro r w3 ⟨rfl, q3⟩
              have HB3 := Lib.hid (below_up HB.out q3 hsz)
              clear q3
              go_wp2_with fail
              go_roundw
              case rel => exact ⟨k + 1, a, b + 1, u, by omega, by omega, by omega, by omega, rfl, by go_num, rfl, by go_num, HN.out, HB3.out⟩
              case measure => simp [intOf] <;> omega
            · have e1 : (z == 1) = false := by rw [beq_eq_false_iff_ne]; exact z1
              have HN : Hid (Tal ((ks.take (k + 1)).map fun q => saysP q row) a b (u + 1)) := by unfold Hid; rw [HTK.out]; exact HT.out.un1 z0 z1
              clear HTK
              go_wp2_with fail
              refine HQ.out.mono ?_
              rintro r w3 ⟨rfl, q3⟩
              have HB3 := Lib.hid (below_up HB.out q3 hsz)
              clear q3
              go_wp2_with fail
              go_roundw
              case rel => exact ⟨k + 1, a, b, u + 1, by omega, by omega, by omega, by omega, rfl, rfl, by go_num, by go_num, HN.out, HB3.out⟩
              case measure => simp [intOf] <;> omega
        · have ik : ¬ (k : Int) < (ks.length : Int) := by omega
          have HVH : Hid (headS kd a b u = V) := HVT.out a b u (by
            have := HT.out
            rwa [List.take_of_length_le (by omega)] at this)
          clear HT
          rcases (show kd = 12 ∨ kd = 13 ∨ kd = 14 by omega) with hkd | hkd | hkd
          · subst hkd
            clear g12 g12'
            rcases (show (0 < a) ∨ (a = 0 ∧ u = 0) ∨ (a = 0 ∧ 0 < u) by omega) with h | h | h
            · have HVV : Hid (V = 0) := by unfold Hid; rw [← HVH.out, headS]; exact if_pos (by omega)
              have ia : (0 : Int) < (a : Int) := by omega
              clear h HVH HVT
              go_wp2_with fail
              go_ret
              exact ⟨ret_int HVV.out.symm, below_up B1.out HB.out (by omega)⟩
            · have HVV : Hid (V = 1) := by unfold Hid; rw [← HVH.out, headS]; rw [if_neg (by omega)]; exact if_pos (by omega)
              have ia : ¬ (0 : Int) < (a : Int) := by omega
              have eu : ((u : Int) == 0) = true := by rw [beq_iff_eq]; omega
              clear h HVH HVT
              go_wp2_with fail
              go_ret
              exact ⟨ret_int HVV.out.symm, below_up B1.out HB.out (by omega)⟩
            · have HVV : Hid (V = 2) := by unfold Hid; rw [← HVH.out, headS]; rw [if_neg (by omega)]; exact if_neg (by omega)
              have ia : ¬ (0 : Int) < (a : Int) := by omega
              have eu : ((u : Int) == 0) = false := by rw [beq_eq_false_iff_ne]; omega
              clear h HVH HVT
              go_wp2_with fail
              go_ret
              exact ⟨ret_int HVV.out.symm, below_up B1.out HB.out (by omega)⟩
          · subst hkd
            clear g12 g12'
            rcases (show (b = 0 ∧ u = 0) ∨ (b = 0 ∧ 0 < u) ∨ (0 < b) by omega) with h | h | h
            · have HVV : Hid (V = 0) := by unfold Hid; rw [← HVH.out, headS]; exact if_pos (by omega)
              have eb : ((b : Int) == 0) = true := by rw [beq_iff_eq]; omega
              have eu : ((u : Int) == 0) = true := by rw [beq_iff_eq]; omega
              clear h HVH HVT
              go_wp2_with fail
              go_ret
              exact ⟨ret_int HVV.out.symm, below_up B1.out HB.out (by omega)⟩
            · have HVV : Hid (V = 2) := by unfold Hid; rw [← HVH.out, headS]; rw [if_neg (by omega)]; exact if_neg (by omega)
              have eb : ((b : Int) == 0) = true := by rw [beq_iff_eq]; omega
              have eu : ((u : Int) == 0) = false := by rw [beq_eq_false_iff_ne]; omega
              have ib : ¬ (0 : Int) < (b : Int) := by omega
              clear h HVH HVT
              go_wp2_with fail
              go_ret
              exact ⟨ret_int HVV.out.symm, below_up B1.out HB.out (by omega)⟩
            · have HVV : Hid (V = 1) := by unfold Hid; rw [← HVH.out, headS]; rw [if_neg (by omega)]; exact if_pos (by omega)
              have eb : ((b : Int) == 0) = false := by rw [beq_eq_false_iff_ne]; omega
              have ib : (0 : Int) < (b : Int) := by omega
              clear h HVH HVT
              go_wp2_with fail
              go_ret
              exact ⟨ret_int HVV.out.symm, below_up B1.out HB.out (by omega)⟩
          · subst hkd
            clear g12 g12'
            rcases (show (0 < b) ∨ (b = 0 ∧ u = 0) ∨ (b = 0 ∧ 0 < u) by omega) with h | h | h
            · have HVV : Hid (V = 0) := by unfold Hid; rw [← HVH.out, headS]; exact if_pos (by omega)
              have ib : (0 : Int) < (b : Int) := by omega
              clear h HVH HVT
              go_wp2_with fail
              go_ret
              exact ⟨ret_int HVV.out.symm, below_up B1.out HB.out (by omega)⟩
            · have HVV : Hid (V = 1) := by unfold Hid; rw [← HVH.out, headS]; rw [if_neg (by omega)]; exact if_pos (by omega)
              have ib : ¬ (0 : Int) < (b : Int) := by omega
              have eu : ((u : Int) == 0) = true := by rw [beq_iff_eq]; omega
              clear h HVH HVT
              go_wp2_with fail
              go_ret
              exact ⟨ret_int HVV.out.symm, below_up B1.out HB.out (by omega)⟩
            · have HVV : Hid (V = 2) := by unfold Hid; rw [← HVH.out, headS]; rw [if_neg (by omega)]; exact if_neg (by omega)
              have ib : ¬ (0 : Int) < (b : Int) := by omega
              have eu : ((u : Int) == 0) = false := by rw [beq_eq_false_iff_ne]; omega
              clear h HVH HVT
              go_wp2_with fail
              go_ret
              exact ⟨ret_int HVV.out.symm, below_up B1.out HB.out (by omega)⟩
    · have g12' : decide (12 ≤ kd) = false := decide_eq_false g12
      obtain ⟨l1, l2, l3, l4, -, HPF⟩ := HRL.out g12
      have HPF := Lib.hid HPF
      clear HRL HRH HIH HK1
      have HVL : Hid (valS kd co ec s (row[cl.toNat]?.getD ⟨true, ⟨#[]⟩⟩) = V) := by unfold Hid; rw [← HV.out, if_neg g12]
      clear HV
      obtain ⟨j, rfl⟩ : ∃ j : Nat, cl = (j : Int) := ⟨cl.toNat, by omega⟩
      have hjl : j < row.length := by omega
      rw [Int.toNat_natCast, List.getElem?_eq_getElem hjl, Option.getD_some] at HVL
      obtain ⟨b2k, off2, hA2, hlo2, hbh2, d0, d1⟩ := HROW1.out.get hjl
      have hvz := HVS.out row[j] (List.getElem_mem hjl)
      generalize row[j] = v at *
      obtain ⟨vn, vs⟩ := v
      simp only at d0 d1 hvz
      subst hA2
      obtain ⟨wa, hwa⟩ : ∃ wa, w1.alloc (.cells #[.bool vn, .string vs] 42) = wa := ⟨_, rfl⟩
      have BA : Hid (Below w1.heap.size w1 wa) := by unfold Hid; rw [← hwa]; exact (Below.refl _ w1).alloc (Nat.le_refl _) _
      have sa : wa.heap.size = w.heap.size + 2 := by rw [← hwa]; simp [hs1]
      have HVA : Hid (∀ W, Below wa.heap.size wa W → Blk W (w.heap.size + 1) 42 #[.bool vn, .string vs]) := fun W hW => by
        have := Blk.new w1 42 #[.bool vn, .string vs]
        rw [hwa, hs1] at this
        exact this.below hW (by omega)
      have HKA : Hid (∀ W, Below wa.heap.size wa W → Blk W w.heap.size 24 #[.int .i64 kd, .int .i64 (j : Int), .string s, .int .i64 ec, .int .i64 co, .slice A ks.length c]) := fun W hW => HKK.out W (below_up BA.out hW (by omega))
      have BW : Hid (Below w.heap.size w wa) := below_up B1.out BA.out (by omega)
      have v0 := (HVA.out wa (Below.refl _ _)).cell 0
      have v1 := (HVA.out wa (Below.refl _ _)).cell 1
      have a0 := (HKA.out wa (Below.refl _ _)).cell 0
      have a2 := (HKA.out wa (Below.refl _ _)).cell 2
      have a3 := (HKA.out wa (Below.refl _ _)).cell 3
      have a4 := (HKA.out wa (Below.refl _ _)).cell 4
      simp only [List.getElem?_toArray, List.getElem?_cons_zero, List.getElem?_cons_succ] at v0 v1 a0 a2 a3 a4
      clear HROW1 HVS HKK
      by_cases k11 : kd = 11
      · subst k11
        clear g12 g12'
        have HVV : Hid (V = bitI vn) := by unfold Hid; rw [← HVL.out, valS, if_pos rfl]
        clear HVL
        have HBT : Hid (∀ w, Calls Tryd.prog 25 #[.bool (vn)] w fun r w' => r = .returned (.int .i64 V) ∧ w = w') := fun w => by rw [HVV.out]; exact ndbit_any _
        clear HVV
        go_enter Tryd.func16, Tryd.ntmps16
        go_wp2_with fail
        refine (HBT.out _).mono ?_
        rintro r w2 ⟨rfl, rfl⟩
        go_wp2_with fail
        go_ret
        exact ⟨rfl, BW.out⟩
      · have e11 : (kd == 11) = false := by rw [beq_eq_false_iff_ne]; exact k11
        cases vn with
        | true =>
          have HVV : Hid (V = 2) := by unfold Hid; rw [← HVL.out, valS, if_neg k11, if_pos rfl]
          clear HVL
          go_enter Tryd.func16, Tryd.ntmps16
          go_wp2_with fail
          go_ret
          exact ⟨ret_int HVV.out.symm, BW.out⟩
        | false =>
          have hvn : ¬ (false = true) := Bool.false_ne_true
          rcases (show kd = 7 ∨ kd = 8 ∨ kd = 9 ∨ kd = 10 ∨ kd = 1 ∨ kd = 2 ∨ kd = 3 ∨ kd = 4 ∨ kd = 5 ∨ kd = 6 by omega) with hkd | hkd | hkd | hkd | hkd | hkd | hkd | hkd | hkd | hkd
          · subst hkd
            clear g12 g12' e11
            have HVV : Hid (V = bitI (begS vs s)) := by unfold Hid; rw [← HVL.out, valS, if_neg k11, if_neg hvn, if_pos rfl]
            clear HVL k11
            have HBT : Hid (∀ w, Calls Tryd.prog 25 #[.bool (begS vs s)] w fun r w' => r = .returned (.int .i64 V) ∧ w = w') := fun w => by rw [HVV.out]; exact ndbit_any _
            clear HVV
            have HC := Lib.hid (fun w => ndbegins_any (w := w) vs s (by omega) (by omega))
            generalize begS vs s = e at *
            go_enter Tryd.func16, Tryd.ntmps16
            go_wp2_with fail
            refine (HC.out _).mono ?_
            rintro r w2 ⟨rfl, rfl⟩
            go_wp2_with fail
            refine (HBT.out _).mono ?_
            rintro r w2 ⟨rfl, rfl⟩
            go_wp2_with fail
            go_ret
            exact ⟨rfl, BW.out⟩
          · subst hkd
            clear g12 g12' e11
            have HVV : Hid (V = bitI (endS vs s)) := by unfold Hid; rw [← HVL.out, valS, if_neg k11, if_neg hvn, if_neg (by decide), if_pos rfl]
            clear HVL k11
            have HN : Hid (¬ s.size ≤ vs.size → endS vs s = false) := fun h => decide_eq_false fun h' => h h'.1
            have HY : Hid (s.size ≤ vs.size → endS vs s = decide (vs.extract (vs.size - s.size) vs.size = s)) := fun h => by
              unfold endS
              rw [Bool.eq_iff_iff, decide_eq_true_eq, decide_eq_true_eq]
              exact ⟨fun h' => h'.2, fun h' => ⟨h, h'⟩⟩
            have HC1 : Hid (∀ W, Below wa.heap.size wa W → W.cell? ⟨w.heap.size + 1, 1, none⟩ = some (.string vs)) := fun W hW => (HVA.out W hW).cell 1
            have HC2 : Hid (∀ W, Below wa.heap.size wa W → W.cell? ⟨w.heap.size, 2, none⟩ = some (.string s)) := fun W hW => (HKA.out W hW).cell 2
            by_cases h1 : s.size ≤ vs.size
            · have i1 : decide ((s.size : Int) ≤ (vs.size : Int)) = true := decide_eq_true (by omega)
              have i2 : (s.size : Int) ≤ (vs.size : Int) := by omega
              obtain ⟨d, hd⟩ : ∃ d, vs.size - s.size = d := ⟨_, rfl⟩
              have hsub : IntKind.i64.wrap ((vs.size : Int) - (s.size : Int)) = (d : Int) := by rw [IntWalk.i64_in _ (by omega)]; omega
              have hls : d ≤ vs.size := by omega
              have ils : (d : Int) ≤ (vs.size : Int) := by omega
              have e8 : ((vs.extract d vs.size).toList == s.toList) = endS vs s := by rw [eqB, HY.out h1, hd]
              generalize endS vs s = e at *
              clear HN HY hd
              have HBT : Hid (∀ w, Calls Tryd.prog 25 #[.bool (e)] w fun r w' => r = .returned (.int .i64 V) ∧ w = w') := fun w => by rw [HVV.out]; exact ndbit_any _
              clear HVV
              go_enter Tryd.func16, Tryd.ntmps16
              go_wp2_with fail
              refine wp_region_held_drew (S := fun w' => Below wa.heap.size wa w') (by kernel_rfl) (Below.drew (Below.refl _ _)) (fun hHeld => ?_)
              refine wpAnyH_take (i := 0) (oi := _) (v := ?_) rfl (by kernel_rfl) (by kernel_rfl) (by kernel_rfl) (fun _ _ _ h => h) (Or.inl ⟨by rfl, ?_⟩) hHeld ?_
              rotate_left
              focus (intro W hSw; go_simp; try with_reducible rfl)
              try simp only [List.getElem_toArray, List.getElem_cons_zero, List.getElem_cons_succ, Act.put, List.setIfInBounds_toArray, List.set_cons_zero, List.set_cons_succ]
              refine wpAnyH_take (i := 1) (oi := _) (v := ?_) rfl (by kernel_rfl) (by kernel_rfl) (by kernel_rfl) (fun _ _ _ h => h) (Or.inl ⟨by rfl, ?_⟩) hHeld ?_
              rotate_left
              focus (intro W hSw; have hcv := HC2.out W hSw; go_simp; try with_reducible rfl)
              try simp only [List.getElem_toArray, List.getElem_cons_zero, List.getElem_cons_succ, Act.put, List.setIfInBounds_toArray, List.set_cons_zero, List.set_cons_succ]
              refine wpAnyH_take (i := 2) (oi := _) (v := ?_) rfl (by kernel_rfl) (by kernel_rfl) (by kernel_rfl) (fun _ _ _ h => h) (Or.inl ⟨by rfl, ?_⟩) hHeld ?_
              rotate_left
              focus (intro W hSw; go_simp; try with_reducible rfl)
              try simp only [List.getElem_toArray, List.getElem_cons_zero, List.getElem_cons_succ, Act.put, List.setIfInBounds_toArray, List.set_cons_zero, List.set_cons_succ]
              refine wpAnyH_take (i := 3) (oi := _) (v := ?_) rfl (by kernel_rfl) (by kernel_rfl) (by kernel_rfl) (fun _ _ _ h => h) (Or.inl ⟨by rfl, ?_⟩) hHeld ?_
              rotate_left
              focus (intro W hSw; go_simp; try with_reducible rfl)
              try simp only [List.getElem_toArray, List.getElem_cons_zero, List.getElem_cons_succ, Act.put, List.setIfInBounds_toArray, List.set_cons_zero, List.set_cons_succ]
              refine wpAnyH_take (i := 4) (oi := _) (v := ?_) rfl (by kernel_rfl) (by kernel_rfl) (by kernel_rfl) (fun _ _ _ h => h) (Or.inl ⟨by rfl, ?_⟩) hHeld ?_
              rotate_left
              focus (intro W hSw; have hcv := HC1.out W hSw; go_simp; try with_reducible rfl)
              try simp only [List.getElem_toArray, List.getElem_cons_zero, List.getElem_cons_succ, Act.put, List.setIfInBounds_toArray, List.set_cons_zero, List.set_cons_succ]
              refine wpAnyH_take (i := 5) (oi := _) (v := ?_) rfl (by kernel_rfl) (by kernel_rfl) (by kernel_rfl) (fun _ _ _ h => h) (Or.inl ⟨by rfl, ?_⟩) hHeld ?_
              rotate_left
              focus (intro W hSw; go_simp; try with_reducible rfl)
              try simp only [List.getElem_toArray, List.getElem_cons_zero, List.getElem_cons_succ, Act.put, List.setIfInBounds_toArray, List.set_cons_zero, List.set_cons_succ]
              refine wpAnyH_take (i := 6) (oi := _) (v := .bool true) rfl (by kernel_rfl) (by kernel_rfl) (by kernel_rfl) (fun _ _ _ h => h) (Or.inl ⟨by rfl, ?_⟩) hHeld ?_
              focus (intro W hSw; go_simp; try with_reducible rfl)
              try simp only [List.getElem_toArray, List.getElem_cons_zero, List.getElem_cons_succ, Act.put, List.setIfInBounds_toArray, List.set_cons_zero, List.set_cons_succ]
              refine wpAnyH_take (i := 7) (oi := _) (v := .bool true) rfl (by kernel_rfl) (by kernel_rfl) (by kernel_rfl) (fun _ _ _ h => h) (Or.inl ⟨by rfl, ?_⟩) hHeld ?_
              focus (intro W hSw; go_simp; try with_reducible rfl)
              try simp only [List.getElem_toArray, List.getElem_cons_zero, List.getElem_cons_succ, Act.put, List.setIfInBounds_toArray, List.set_cons_zero, List.set_cons_succ]
              refine wpAnyH_take (i := 8) (oi := _) (v := ?_) rfl (by kernel_rfl) (by kernel_rfl) (by kernel_rfl) (fun _ _ _ h => h) (Or.inl ⟨by rfl, ?_⟩) hHeld ?_
              rotate_left
              focus (intro W hSw; go_simp; try with_reducible rfl)
              try simp only [List.getElem_toArray, List.getElem_cons_zero, List.getElem_cons_succ, Act.put, List.setIfInBounds_toArray, List.set_cons_zero, List.set_cons_succ]
              refine wpAnyH_take (i := 9) (oi := _) (v := ?_) rfl (by kernel_rfl) (by kernel_rfl) (by kernel_rfl) (fun _ _ _ h => h) (Or.inl ⟨by rfl, ?_⟩) hHeld ?_
              rotate_left
              focus (intro W hSw; have hcv := HC1.out W hSw; go_simp; try with_reducible rfl)
              try simp only [List.getElem_toArray, List.getElem_cons_zero, List.getElem_cons_succ, Act.put, List.setIfInBounds_toArray, List.set_cons_zero, List.set_cons_succ]
              refine wpAnyH_take (i := 10) (oi := _) (v := ?_) rfl (by kernel_rfl) (by kernel_rfl) (by kernel_rfl) (fun _ _ _ h => h) (Or.inl ⟨by rfl, ?_⟩) hHeld ?_
              rotate_left
              focus (intro W hSw; go_simp; try with_reducible rfl)
              try simp only [List.getElem_toArray, List.getElem_cons_zero, List.getElem_cons_succ, Act.put, List.setIfInBounds_toArray, List.set_cons_zero, List.set_cons_succ]
              refine wpAnyH_take (i := 11) (oi := _) (v := ?_) rfl (by kernel_rfl) (by kernel_rfl) (by kernel_rfl) (fun _ _ _ h => h) (Or.inl ⟨by rfl, ?_⟩) hHeld ?_
              rotate_left
              focus (intro W hSw; have hcv := HC1.out W hSw; go_simp; try with_reducible rfl)
              try simp only [List.getElem_toArray, List.getElem_cons_zero, List.getElem_cons_succ, Act.put, List.setIfInBounds_toArray, List.set_cons_zero, List.set_cons_succ]
              refine wpAnyH_take (i := 12) (oi := _) (v := ?_) rfl (by kernel_rfl) (by kernel_rfl) (by kernel_rfl) (fun _ _ _ h => h) (Or.inl ⟨by rfl, ?_⟩) hHeld ?_
              rotate_left
              focus (intro W hSw; go_simp; try with_reducible rfl)
              try simp only [List.getElem_toArray, List.getElem_cons_zero, List.getElem_cons_succ, Act.put, List.setIfInBounds_toArray, List.set_cons_zero, List.set_cons_succ]
              refine wpAnyH_take (i := 13) (oi := _) (v := ?_) rfl (by kernel_rfl) (by kernel_rfl) (by kernel_rfl) (fun _ _ _ h => h) (Or.inl ⟨by rfl, ?_⟩) hHeld ?_
              rotate_left
              focus (intro W hSw; go_simp; try with_reducible rfl)
              try simp only [List.getElem_toArray, List.getElem_cons_zero, List.getElem_cons_succ, Act.put, List.setIfInBounds_toArray, List.set_cons_zero, List.set_cons_succ]
              refine wpAnyH_take (i := 14) (oi := _) (v := ?_) rfl (by kernel_rfl) (by kernel_rfl) (by kernel_rfl) (fun _ _ _ h => h) (Or.inl ⟨by rfl, ?_⟩) hHeld ?_
              rotate_left
              focus (intro W hSw; have hcv := HC2.out W hSw; go_simp; try with_reducible rfl)
              try simp only [List.getElem_toArray, List.getElem_cons_zero, List.getElem_cons_succ, Act.put, List.setIfInBounds_toArray, List.set_cons_zero, List.set_cons_succ]
              refine wpAnyH_take (i := 15) (oi := _) (v := ?_) rfl (by kernel_rfl) (by kernel_rfl) (by kernel_rfl) (fun _ _ _ h => h) (Or.inl ⟨by rfl, ?_⟩) hHeld ?_
              rotate_left
              focus (intro W hSw; go_simp; try with_reducible rfl)
              try simp only [List.getElem_toArray, List.getElem_cons_zero, List.getElem_cons_succ, Act.put, List.setIfInBounds_toArray, List.set_cons_zero, List.set_cons_succ]
              refine wpAnyH_take (i := 16) (oi := _) (v := ?_) rfl (by kernel_rfl) (by kernel_rfl) (by kernel_rfl) (fun _ _ _ h => h) (Or.inl ⟨by rfl, ?_⟩) hHeld ?_
              rotate_left
              focus (intro W hSw; go_simp; try with_reducible rfl)
              try simp only [List.getElem_toArray, List.getElem_cons_zero, List.getElem_cons_succ, Act.put, List.setIfInBounds_toArray, List.set_cons_zero, List.set_cons_succ]
              refine wpAnyH_take (i := 17) (oi := _) (v := ?_) rfl (by kernel_rfl) (by kernel_rfl) (by kernel_rfl) (fun _ _ _ h => h) (Or.inl ⟨by rfl, ?_⟩) hHeld ?_
              rotate_left
              focus (intro W hSw; go_simp; try with_reducible rfl)
              try simp only [List.getElem_toArray, List.getElem_cons_zero, List.getElem_cons_succ, Act.put, List.setIfInBounds_toArray, List.set_cons_zero, List.set_cons_succ]
              refine wpAnyH_take (i := 18) (oi := _) (v := ?_) rfl (by kernel_rfl) (by kernel_rfl) (by kernel_rfl) (fun _ _ _ h => h) (Or.inl ⟨by rfl, ?_⟩) hHeld ?_
              rotate_left
              focus (intro W hSw; go_simp; try with_reducible rfl)
              try simp only [List.getElem_toArray, List.getElem_cons_zero, List.getElem_cons_succ, Act.put, List.setIfInBounds_toArray, List.set_cons_zero, List.set_cons_succ]
              refine wpAnyH_take (i := 19) (oi := _) (v := ?_) rfl (by kernel_rfl) (by kernel_rfl) (by kernel_rfl) (fun _ _ _ h => h) (Or.inl ⟨by rfl, ?_⟩) hHeld ?_
              rotate_left
              focus (intro W hSw; have hcv := HC2.out W hSw; go_simp; try with_reducible rfl)
              try simp only [List.getElem_toArray, List.getElem_cons_zero, List.getElem_cons_succ, Act.put, List.setIfInBounds_toArray, List.set_cons_zero, List.set_cons_succ]
              refine wpAnyH_take (i := 20) (oi := _) (v := ?_) rfl (by kernel_rfl) (by kernel_rfl) (by kernel_rfl) (fun _ _ _ h => h) (Or.inl ⟨by rfl, ?_⟩) hHeld ?_
              rotate_left
              focus (intro W hSw; go_simp; try with_reducible rfl)
              try simp only [List.getElem_toArray, List.getElem_cons_zero, List.getElem_cons_succ, Act.put, List.setIfInBounds_toArray, List.set_cons_zero, List.set_cons_succ]
              refine wpAnyH_take (i := 21) (oi := _) (v := ?_) rfl (by kernel_rfl) (by kernel_rfl) (by kernel_rfl) (fun _ _ _ h => h) (Or.inl ⟨by rfl, ?_⟩) hHeld ?_
              rotate_left
              focus (intro W hSw; go_simp; try with_reducible rfl)
              try simp only [List.getElem_toArray, List.getElem_cons_zero, List.getElem_cons_succ, Act.put, List.setIfInBounds_toArray, List.set_cons_zero, List.set_cons_succ]
              refine wpAnyH_ready (rs := [22]) (by kernel_rfl) (by simp) ?_
              refine AllReadyH.cons (o := _) rfl (fun K hK => ?_) AllReadyH.nil
              go_simp
              refine (HBT.out _).mono ?_
              rintro r w9 ⟨rfl, rfl⟩
              refine hK.out _ _ hHeld (fun hHeld => ?_)
              clear hK K
              try simp only [List.getElem_toArray, List.getElem_cons_zero, List.getElem_cons_succ, Act.put, List.setIfInBounds_toArray, List.set_cons_zero, List.set_cons_succ]
              refine wpAnyH_take (i := 23) (oi := _) (v := ?_) rfl (by kernel_rfl) (by kernel_rfl) (by kernel_rfl) (fun _ _ _ h => h) (Or.inl ⟨by rfl, ?_⟩) hHeld ?_
              rotate_left
              focus (intro W hSw; go_simp; try with_reducible rfl)
              try simp only [List.getElem_toArray, List.getElem_cons_zero, List.getElem_cons_succ, Act.put, List.setIfInBounds_toArray, List.set_cons_zero, List.set_cons_succ]
              refine wpAnyH_done (by kernel_rfl) ?_ _
              go_wp2_with fail
              go_ret
              first | exact ⟨rfl, below_drewN' BW.out _⟩ | exact ⟨rfl, below_up BW.out hHeld (Nat.le_trans (by omega) (Nat.le_refl _))⟩
            · have i1 : decide ((s.size : Int) ≤ (vs.size : Int)) = false := decide_eq_false (by omega)
              have i2 : ¬ (s.size : Int) ≤ (vs.size : Int) := by omega
              have e8 := HN.out h1
              rw [e8] at HVV
              clear HN HY e8
              have HBT : Hid (∀ w, Calls Tryd.prog 25 #[.bool (false)] w fun r w' => r = .returned (.int .i64 V) ∧ w = w') := fun w => by rw [HVV.out]; exact ndbit_any _
              clear HVV
              go_enter Tryd.func16, Tryd.ntmps16
              go_wp2_with fail
              refine wp_region_held_drew (S := fun w' => Below wa.heap.size wa w') (by kernel_rfl) (Below.drew (Below.refl _ _)) (fun hHeld => ?_)
              refine wpAnyH_take (i := 0) (oi := _) (v := ?_) rfl (by kernel_rfl) (by kernel_rfl) (by kernel_rfl) (fun _ _ _ h => h) (Or.inl ⟨by rfl, ?_⟩) hHeld ?_
              rotate_left
              focus (intro W hSw; go_simp; try with_reducible rfl)
              try simp only [List.getElem_toArray, List.getElem_cons_zero, List.getElem_cons_succ, Act.put, List.setIfInBounds_toArray, List.set_cons_zero, List.set_cons_succ]
              refine wpAnyH_take (i := 1) (oi := _) (v := ?_) rfl (by kernel_rfl) (by kernel_rfl) (by kernel_rfl) (fun _ _ _ h => h) (Or.inl ⟨by rfl, ?_⟩) hHeld ?_
              rotate_left
              focus (intro W hSw; have hcv := HC2.out W hSw; go_simp; try with_reducible rfl)
              try simp only [List.getElem_toArray, List.getElem_cons_zero, List.getElem_cons_succ, Act.put, List.setIfInBounds_toArray, List.set_cons_zero, List.set_cons_succ]
              refine wpAnyH_take (i := 2) (oi := _) (v := ?_) rfl (by kernel_rfl) (by kernel_rfl) (by kernel_rfl) (fun _ _ _ h => h) (Or.inl ⟨by rfl, ?_⟩) hHeld ?_
              rotate_left
              focus (intro W hSw; go_simp; try with_reducible rfl)
              try simp only [List.getElem_toArray, List.getElem_cons_zero, List.getElem_cons_succ, Act.put, List.setIfInBounds_toArray, List.set_cons_zero, List.set_cons_succ]
              refine wpAnyH_take (i := 3) (oi := _) (v := ?_) rfl (by kernel_rfl) (by kernel_rfl) (by kernel_rfl) (fun _ _ _ h => h) (Or.inl ⟨by rfl, ?_⟩) hHeld ?_
              rotate_left
              focus (intro W hSw; go_simp; try with_reducible rfl)
              try simp only [List.getElem_toArray, List.getElem_cons_zero, List.getElem_cons_succ, Act.put, List.setIfInBounds_toArray, List.set_cons_zero, List.set_cons_succ]
              refine wpAnyH_take (i := 4) (oi := _) (v := ?_) rfl (by kernel_rfl) (by kernel_rfl) (by kernel_rfl) (fun _ _ _ h => h) (Or.inl ⟨by rfl, ?_⟩) hHeld ?_
              rotate_left
              focus (intro W hSw; have hcv := HC1.out W hSw; go_simp; try with_reducible rfl)
              try simp only [List.getElem_toArray, List.getElem_cons_zero, List.getElem_cons_succ, Act.put, List.setIfInBounds_toArray, List.set_cons_zero, List.set_cons_succ]
              refine wpAnyH_take (i := 5) (oi := _) (v := ?_) rfl (by kernel_rfl) (by kernel_rfl) (by kernel_rfl) (fun _ _ _ h => h) (Or.inl ⟨by rfl, ?_⟩) hHeld ?_
              rotate_left
              focus (intro W hSw; go_simp; try with_reducible rfl)
              try simp only [List.getElem_toArray, List.getElem_cons_zero, List.getElem_cons_succ, Act.put, List.setIfInBounds_toArray, List.set_cons_zero, List.set_cons_succ]
              refine wpAnyH_take (i := 6) (oi := _) (v := .bool false) rfl (by kernel_rfl) (by kernel_rfl) (by kernel_rfl) (fun _ _ _ h => h) (Or.inl ⟨by rfl, ?_⟩) hHeld ?_
              focus (intro W hSw; go_simp; try with_reducible rfl)
              try simp only [List.getElem_toArray, List.getElem_cons_zero, List.getElem_cons_succ, Act.put, List.setIfInBounds_toArray, List.set_cons_zero, List.set_cons_succ]
              refine wpAnyH_take (i := 7) (oi := _) (v := .bool false) rfl (by kernel_rfl) (by kernel_rfl) (by kernel_rfl) (fun _ _ _ h => h) (Or.inl ⟨by rfl, ?_⟩) hHeld ?_
              focus (intro W hSw; go_simp; try with_reducible rfl)
              try simp only [List.getElem_toArray, List.getElem_cons_zero, List.getElem_cons_succ, Act.put, List.setIfInBounds_toArray, List.set_cons_zero, List.set_cons_succ]
              refine wpAnyH_take (i := 8) (oi := _) (v := undef) rfl (by kernel_rfl) (by kernel_rfl) (by kernel_rfl) (fun _ _ _ h => h) (Or.inr ⟨by rfl, rfl⟩) hHeld ?_
              try simp only [List.getElem_toArray, List.getElem_cons_zero, List.getElem_cons_succ, Act.put, List.setIfInBounds_toArray, List.set_cons_zero, List.set_cons_succ]
              refine wpAnyH_take (i := 9) (oi := _) (v := undef) rfl (by kernel_rfl) (by kernel_rfl) (by kernel_rfl) (fun _ _ _ h => h) (Or.inr ⟨by rfl, rfl⟩) hHeld ?_
              try simp only [List.getElem_toArray, List.getElem_cons_zero, List.getElem_cons_succ, Act.put, List.setIfInBounds_toArray, List.set_cons_zero, List.set_cons_succ]
              refine wpAnyH_take (i := 10) (oi := _) (v := undef) rfl (by kernel_rfl) (by kernel_rfl) (by kernel_rfl) (fun _ _ _ h => h) (Or.inr ⟨by rfl, rfl⟩) hHeld ?_
              try simp only [List.getElem_toArray, List.getElem_cons_zero, List.getElem_cons_succ, Act.put, List.setIfInBounds_toArray, List.set_cons_zero, List.set_cons_succ]
              refine wpAnyH_take (i := 11) (oi := _) (v := undef) rfl (by kernel_rfl) (by kernel_rfl) (by kernel_rfl) (fun _ _ _ h => h) (Or.inr ⟨by rfl, rfl⟩) hHeld ?_
              try simp only [List.getElem_toArray, List.getElem_cons_zero, List.getElem_cons_succ, Act.put, List.setIfInBounds_toArray, List.set_cons_zero, List.set_cons_succ]
              refine wpAnyH_take (i := 12) (oi := _) (v := undef) rfl (by kernel_rfl) (by kernel_rfl) (by kernel_rfl) (fun _ _ _ h => h) (Or.inr ⟨by rfl, rfl⟩) hHeld ?_
              try simp only [List.getElem_toArray, List.getElem_cons_zero, List.getElem_cons_succ, Act.put, List.setIfInBounds_toArray, List.set_cons_zero, List.set_cons_succ]
              refine wpAnyH_take (i := 13) (oi := _) (v := undef) rfl (by kernel_rfl) (by kernel_rfl) (by kernel_rfl) (fun _ _ _ h => h) (Or.inr ⟨by rfl, rfl⟩) hHeld ?_
              try simp only [List.getElem_toArray, List.getElem_cons_zero, List.getElem_cons_succ, Act.put, List.setIfInBounds_toArray, List.set_cons_zero, List.set_cons_succ]
              refine wpAnyH_take (i := 14) (oi := _) (v := undef) rfl (by kernel_rfl) (by kernel_rfl) (by kernel_rfl) (fun _ _ _ h => h) (Or.inr ⟨by rfl, rfl⟩) hHeld ?_
              try simp only [List.getElem_toArray, List.getElem_cons_zero, List.getElem_cons_succ, Act.put, List.setIfInBounds_toArray, List.set_cons_zero, List.set_cons_succ]
              refine wpAnyH_take (i := 15) (oi := _) (v := undef) rfl (by kernel_rfl) (by kernel_rfl) (by kernel_rfl) (fun _ _ _ h => h) (Or.inr ⟨by rfl, rfl⟩) hHeld ?_
              try simp only [List.getElem_toArray, List.getElem_cons_zero, List.getElem_cons_succ, Act.put, List.setIfInBounds_toArray, List.set_cons_zero, List.set_cons_succ]
              refine wpAnyH_take (i := 16) (oi := _) (v := undef) rfl (by kernel_rfl) (by kernel_rfl) (by kernel_rfl) (fun _ _ _ h => h) (Or.inr ⟨by rfl, rfl⟩) hHeld ?_
              try simp only [List.getElem_toArray, List.getElem_cons_zero, List.getElem_cons_succ, Act.put, List.setIfInBounds_toArray, List.set_cons_zero, List.set_cons_succ]
              refine wpAnyH_take (i := 17) (oi := _) (v := undef) rfl (by kernel_rfl) (by kernel_rfl) (by kernel_rfl) (fun _ _ _ h => h) (Or.inr ⟨by rfl, rfl⟩) hHeld ?_
              try simp only [List.getElem_toArray, List.getElem_cons_zero, List.getElem_cons_succ, Act.put, List.setIfInBounds_toArray, List.set_cons_zero, List.set_cons_succ]
              refine wpAnyH_take (i := 18) (oi := _) (v := undef) rfl (by kernel_rfl) (by kernel_rfl) (by kernel_rfl) (fun _ _ _ h => h) (Or.inr ⟨by rfl, rfl⟩) hHeld ?_
              try simp only [List.getElem_toArray, List.getElem_cons_zero, List.getElem_cons_succ, Act.put, List.setIfInBounds_toArray, List.set_cons_zero, List.set_cons_succ]
              refine wpAnyH_take (i := 19) (oi := _) (v := undef) rfl (by kernel_rfl) (by kernel_rfl) (by kernel_rfl) (fun _ _ _ h => h) (Or.inr ⟨by rfl, rfl⟩) hHeld ?_
              try simp only [List.getElem_toArray, List.getElem_cons_zero, List.getElem_cons_succ, Act.put, List.setIfInBounds_toArray, List.set_cons_zero, List.set_cons_succ]
              refine wpAnyH_take (i := 20) (oi := _) (v := undef) rfl (by kernel_rfl) (by kernel_rfl) (by kernel_rfl) (fun _ _ _ h => h) (Or.inr ⟨by rfl, rfl⟩) hHeld ?_
              try simp only [List.getElem_toArray, List.getElem_cons_zero, List.getElem_cons_succ, Act.put, List.setIfInBounds_toArray, List.set_cons_zero, List.set_cons_succ]
              refine wpAnyH_take (i := 21) (oi := _) (v := ?_) rfl (by kernel_rfl) (by kernel_rfl) (by kernel_rfl) (fun _ _ _ h => h) (Or.inl ⟨by rfl, ?_⟩) hHeld ?_
              rotate_left
              focus (intro W hSw; go_simp; try with_reducible rfl)
              try simp only [List.getElem_toArray, List.getElem_cons_zero, List.getElem_cons_succ, Act.put, List.setIfInBounds_toArray, List.set_cons_zero, List.set_cons_succ]
              refine wpAnyH_ready (rs := [22]) (by kernel_rfl) (by simp) ?_
              refine AllReadyH.cons (o := _) rfl (fun K hK => ?_) AllReadyH.nil
              go_simp
              refine (HBT.out _).mono ?_
              rintro r w9 ⟨rfl, rfl⟩
              refine hK.out _ _ hHeld (fun hHeld => ?_)
              clear hK K
              try simp only [List.getElem_toArray, List.getElem_cons_zero, List.getElem_cons_succ, Act.put, List.setIfInBounds_toArray, List.set_cons_zero, List.set_cons_succ]
              refine wpAnyH_take (i := 23) (oi := _) (v := ?_) rfl (by kernel_rfl) (by kernel_rfl) (by kernel_rfl) (fun _ _ _ h => h) (Or.inl ⟨by rfl, ?_⟩) hHeld ?_
              rotate_left
              focus (intro W hSw; go_simp; try with_reducible rfl)
              try simp only [List.getElem_toArray, List.getElem_cons_zero, List.getElem_cons_succ, Act.put, List.setIfInBounds_toArray, List.set_cons_zero, List.set_cons_succ]
              refine wpAnyH_done (by kernel_rfl) ?_ _
              go_wp2_with fail
              go_ret
              first | exact ⟨rfl, below_drewN' BW.out _⟩ | exact ⟨rfl, below_up BW.out hHeld (Nat.le_trans (by omega) (Nat.le_refl _))⟩
          · subst hkd
            clear g12 g12' e11
            have HVV : Hid (V = bitI (hasS vs s)) := by unfold Hid; rw [← HVL.out, valS, if_neg k11, if_neg hvn, if_neg (by decide), if_neg (by decide), if_pos rfl]
            clear HVL k11
            have HBT : Hid (∀ w, Calls Tryd.prog 25 #[.bool (hasS vs s)] w fun r w' => r = .returned (.int .i64 V) ∧ w = w') := fun w => by rw [HVV.out]; exact ndbit_any _
            clear HVV
            have HC := Lib.hid (fun w => ndhas_any (w := w) vs s (by omega) (by omega))
            generalize hasS vs s = e at *
            go_enter Tryd.func16, Tryd.ntmps16
            go_wp2_with fail
            refine (HC.out _).mono ?_
            rintro r w2 ⟨rfl, rfl⟩
            go_wp2_with fail
            refine (HBT.out _).mono ?_
            rintro r w2 ⟨rfl, rfl⟩
            go_wp2_with fail
            go_ret
            exact ⟨rfl, BW.out⟩
          · subst hkd
            clear g12 g12' e11
            obtain ⟨ns, hns⟩ := HPF.out rfl
            have HVV : Hid (V = bitI (mat ns vs.data.toList)) := by unfold Hid; rw [← HVL.out, valS, if_neg k11, if_neg hvn, if_neg (by decide), if_neg (by decide), if_neg (by decide), if_pos rfl, hns, Option.getD_some]
            clear HVL k11
            have hn7 := (parseF_le hns).1
            have HP := Lib.hid (fun w => refParse_any (w := w) s ec _ hns)
            clear hns
            have HM := Lib.hid (fun (W : World) (A : Option Addr) (c : Nat) (h : Rd W 0 W.heap.size A c (iv (ints ns))) => refMatch_any (w := W) ns vs h hn7 (by omega))
            clear hn7
            generalize mat ns vs.data.toList = e at *
            have HBT : Hid (∀ w, Calls Tryd.prog 25 #[.bool (e)] w fun r w' => r = .returned (.int .i64 V) ∧ w = w') := fun w => by rw [HVV.out]; exact ndbit_any _
            clear HVV
            go_enter Tryd.func16, Tryd.ntmps16
            go_wp2_with fail
            refine (HP.out _).mono ?_
            rintro r w2 ⟨A2, c2, rfl, hrd, q2⟩
            rw [Option.getD_some] at hrd
            have HRD := Lib.hid hrd
            have HQ2 := Lib.hid q2
            have u1 := (HVA.out w2 q2).cell 1
            simp only [List.getElem?_toArray, List.getElem?_cons_zero, List.getElem?_cons_succ] at u1
            have hc2 := hrd.len
            have hm2 := hrd.cap
            rw [iv_length, ints_length] at hc2
            unfold maxLen at hm2
            clear hrd q2 a0 a2 a3 a4 v0 v1 b0 b1 b2 b3 b4 b5 d0 d1
            go_wp2_with fail
            refine (HM.out _ _ _ HRD.out).mono ?_
            rintro r w3 ⟨rfl, q3⟩
            have HB3 := Lib.hid (below_up BW.out (below_up HQ2.out q3 HQ2.out.size) (by omega))
            clear q3
            go_wp2_with fail
            refine (HBT.out _).mono ?_
            rintro r w4 ⟨rfl, rfl⟩
            go_wp2_with fail
            go_ret
            exact ⟨rfl, HB3.out⟩
          · subst hkd
            clear g12 g12' e11
            have HVV : Hid (V = bitI (compS 1 (cmpS vs s co))) := by unfold Hid; rw [← HVL.out, valS, if_neg k11, if_neg hvn, if_neg (by decide), if_neg (by decide), if_neg (by decide), if_neg (by decide)]
            clear HVL k11
            have HC := Lib.hid (fun w => ndcmp_any (w := w) vs s co (by omega) (by omega))
            generalize cmpS vs s co = z at *
            obtain ⟨e, he⟩ : ∃ e, (z == 0) = e := ⟨_, rfl⟩
            have HE : Hid (compS 1 z = e) := by
              unfold Hid
              rw [← he, compS, Bool.eq_iff_iff, decide_eq_true_eq, beq_iff_eq]
              omega
            rw [HE.out] at HVV
            clear HE
            have HBT : Hid (∀ w, Calls Tryd.prog 25 #[.bool (e)] w fun r w' => r = .returned (.int .i64 V) ∧ w = w') := fun w => by rw [HVV.out]; exact ndbit_any _
            clear HVV
            cases e with
            | true =>
              go_enter Tryd.func16, Tryd.ntmps16
              go_wp2_with fail
              refine (HC.out _).mono ?_
              rintro r w2 ⟨rfl, q2⟩
              have u0 := (HKA.out w2 q2).cell 0
              simp only [List.getElem?_toArray, List.getElem?_cons_zero, List.getElem?_cons_succ] at u0
              have HB2 := Lib.hid (below_up BW.out q2 (by omega))
              clear q2 a0 a2 a3 a4 v0 v1 b0 b1 b2 b3 b4 b5 d0 d1
              go_wp2_with fail
              refine (HBT.out _).mono ?_
              rintro r w3 ⟨rfl, rfl⟩
              go_wp2_with fail
              go_ret
              exact ⟨rfl, HB2.out⟩
            | false =>
              go_enter Tryd.func16, Tryd.ntmps16
              go_wp2_with fail
              refine (HC.out _).mono ?_
              rintro r w2 ⟨rfl, q2⟩
              have u0 := (HKA.out w2 q2).cell 0
              simp only [List.getElem?_toArray, List.getElem?_cons_zero, List.getElem?_cons_succ] at u0
              have HB2 := Lib.hid (below_up BW.out q2 (by omega))
              clear q2 a0 a2 a3 a4 v0 v1 b0 b1 b2 b3 b4 b5 d0 d1
              go_wp2_with fail
              refine (HBT.out _).mono ?_
              rintro r w3 ⟨rfl, rfl⟩
              go_wp2_with fail
              go_ret
              exact ⟨rfl, HB2.out⟩
          · subst hkd
            clear g12 g12' e11
            have HVV : Hid (V = bitI (compS 2 (cmpS vs s co))) := by unfold Hid; rw [← HVL.out, valS, if_neg k11, if_neg hvn, if_neg (by decide), if_neg (by decide), if_neg (by decide), if_neg (by decide)]
            clear HVL k11
            have HC := Lib.hid (fun w => ndcmp_any (w := w) vs s co (by omega) (by omega))
            generalize cmpS vs s co = z at *
            obtain ⟨e, he⟩ : ∃ e, (z != 0) = e := ⟨_, rfl⟩
            have HE : Hid (compS 2 z = e) := by
              unfold Hid
              rw [← he, compS, Bool.eq_iff_iff, decide_eq_true_eq, bne_iff_ne]
              omega
            rw [HE.out] at HVV
            clear HE
            have HBT : Hid (∀ w, Calls Tryd.prog 25 #[.bool (e)] w fun r w' => r = .returned (.int .i64 V) ∧ w = w') := fun w => by rw [HVV.out]; exact ndbit_any _
            clear HVV
            cases e with
            | true =>
              go_enter Tryd.func16, Tryd.ntmps16
              go_wp2_with fail
              refine (HC.out _).mono ?_
              rintro r w2 ⟨rfl, q2⟩
              have u0 := (HKA.out w2 q2).cell 0
              simp only [List.getElem?_toArray, List.getElem?_cons_zero, List.getElem?_cons_succ] at u0
              have HB2 := Lib.hid (below_up BW.out q2 (by omega))
              clear q2 a0 a2 a3 a4 v0 v1 b0 b1 b2 b3 b4 b5 d0 d1
              go_wp2_with fail
              refine (HBT.out _).mono ?_
              rintro r w3 ⟨rfl, rfl⟩
              go_wp2_with fail
              go_ret
              exact ⟨rfl, HB2.out⟩
            | false =>
              go_enter Tryd.func16, Tryd.ntmps16
              go_wp2_with fail
              refine (HC.out _).mono ?_
              rintro r w2 ⟨rfl, q2⟩
              have u0 := (HKA.out w2 q2).cell 0
              simp only [List.getElem?_toArray, List.getElem?_cons_zero, List.getElem?_cons_succ] at u0
              have HB2 := Lib.hid (below_up BW.out q2 (by omega))
              clear q2 a0 a2 a3 a4 v0 v1 b0 b1 b2 b3 b4 b5 d0 d1
              go_wp2_with fail
              refine (HBT.out _).mono ?_
              rintro r w3 ⟨rfl, rfl⟩
              go_wp2_with fail
              go_ret
              exact ⟨rfl, HB2.out⟩
          · subst hkd
            clear g12 g12' e11
            have HVV : Hid (V = bitI (compS 3 (cmpS vs s co))) := by unfold Hid; rw [← HVL.out, valS, if_neg k11, if_neg hvn, if_neg (by decide), if_neg (by decide), if_neg (by decide), if_neg (by decide)]
            clear HVL k11
            have HC := Lib.hid (fun w => ndcmp_any (w := w) vs s co (by omega) (by omega))
            generalize cmpS vs s co = z at *
            obtain ⟨e, he⟩ : ∃ e, (decide (z < 0)) = e := ⟨_, rfl⟩
            have HE : Hid (compS 3 z = e) := by
              unfold Hid
              rw [← he, compS, Bool.eq_iff_iff, decide_eq_true_eq, decide_eq_true_eq]
              omega
            rw [HE.out] at HVV
            clear HE
            have HBT : Hid (∀ w, Calls Tryd.prog 25 #[.bool (e)] w fun r w' => r = .returned (.int .i64 V) ∧ w = w') := fun w => by rw [HVV.out]; exact ndbit_any _
            clear HVV
            cases e with
            | true =>
              go_enter Tryd.func16, Tryd.ntmps16
              go_wp2_with fail
              refine (HC.out _).mono ?_
              rintro r w2 ⟨rfl, q2⟩
              have u0 := (HKA.out w2 q2).cell 0
              simp only [List.getElem?_toArray, List.getElem?_cons_zero, List.getElem?_cons_succ] at u0
              have HB2 := Lib.hid (below_up BW.out q2 (by omega))
              clear q2 a0 a2 a3 a4 v0 v1 b0 b1 b2 b3 b4 b5 d0 d1
              go_wp2_with fail
              refine (HBT.out _).mono ?_
              rintro r w3 ⟨rfl, rfl⟩
              go_wp2_with fail
              go_ret
              exact ⟨rfl, HB2.out⟩
            | false =>
              go_enter Tryd.func16, Tryd.ntmps16
              go_wp2_with fail
              refine (HC.out _).mono ?_
              rintro r w2 ⟨rfl, q2⟩
              have u0 := (HKA.out w2 q2).cell 0
              simp only [List.getElem?_toArray, List.getElem?_cons_zero, List.getElem?_cons_succ] at u0
              have HB2 := Lib.hid (below_up BW.out q2 (by omega))
              clear q2 a0 a2 a3 a4 v0 v1 b0 b1 b2 b3 b4 b5 d0 d1
              go_wp2_with fail
              refine (HBT.out _).mono ?_
              rintro r w3 ⟨rfl, rfl⟩
              go_wp2_with fail
              go_ret
              exact ⟨rfl, HB2.out⟩
          · subst hkd
            clear g12 g12' e11
            have HVV : Hid (V = bitI (compS 4 (cmpS vs s co))) := by unfold Hid; rw [← HVL.out, valS, if_neg k11, if_neg hvn, if_neg (by decide), if_neg (by decide), if_neg (by decide), if_neg (by decide)]
            clear HVL k11
            have HC := Lib.hid (fun w => ndcmp_any (w := w) vs s co (by omega) (by omega))
            generalize cmpS vs s co = z at *
            obtain ⟨e, he⟩ : ∃ e, (decide (z ≤ 0)) = e := ⟨_, rfl⟩
            have HE : Hid (compS 4 z = e) := by
              unfold Hid
              rw [← he, compS, Bool.eq_iff_iff, decide_eq_true_eq, decide_eq_true_eq]
              omega
            rw [HE.out] at HVV
            clear HE
            have HBT : Hid (∀ w, Calls Tryd.prog 25 #[.bool (e)] w fun r w' => r = .returned (.int .i64 V) ∧ w = w') := fun w => by rw [HVV.out]; exact ndbit_any _
            clear HVV
            cases e with
            | true =>
              go_enter Tryd.func16, Tryd.ntmps16
              go_wp2_with fail
              refine (HC.out _).mono ?_
              rintro r w2 ⟨rfl, q2⟩
              have u0 := (HKA.out w2 q2).cell 0
              simp only [List.getElem?_toArray, List.getElem?_cons_zero, List.getElem?_cons_succ] at u0
              have HB2 := Lib.hid (below_up BW.out q2 (by omega))
              clear q2 a0 a2 a3 a4 v0 v1 b0 b1 b2 b3 b4 b5 d0 d1
              go_wp2_with fail
              refine (HBT.out _).mono ?_
              rintro r w3 ⟨rfl, rfl⟩
              go_wp2_with fail
              go_ret
              exact ⟨rfl, HB2.out⟩
            | false =>
              go_enter Tryd.func16, Tryd.ntmps16
              go_wp2_with fail
              refine (HC.out _).mono ?_
              rintro r w2 ⟨rfl, q2⟩
              have u0 := (HKA.out w2 q2).cell 0
              simp only [List.getElem?_toArray, List.getElem?_cons_zero, List.getElem?_cons_succ] at u0
              have HB2 := Lib.hid (below_up BW.out q2 (by omega))
              clear q2 a0 a2 a3 a4 v0 v1 b0 b1 b2 b3 b4 b5 d0 d1
              go_wp2_with fail
              refine (HBT.out _).mono ?_
              rintro r w3 ⟨rfl, rfl⟩
              go_wp2_with fail
              go_ret
              exact ⟨rfl, HB2.out⟩
          · subst hkd
            clear g12 g12' e11
            have HVV : Hid (V = bitI (compS 5 (cmpS vs s co))) := by unfold Hid; rw [← HVL.out, valS, if_neg k11, if_neg hvn, if_neg (by decide), if_neg (by decide), if_neg (by decide), if_neg (by decide)]
            clear HVL k11
            have HC := Lib.hid (fun w => ndcmp_any (w := w) vs s co (by omega) (by omega))
            generalize cmpS vs s co = z at *
            obtain ⟨e, he⟩ : ∃ e, (decide (0 < z)) = e := ⟨_, rfl⟩
            have HE : Hid (compS 5 z = e) := by
              unfold Hid
              rw [← he, compS, Bool.eq_iff_iff, decide_eq_true_eq, decide_eq_true_eq]
              omega
            rw [HE.out] at HVV
            clear HE
            have HBT : Hid (∀ w, Calls Tryd.prog 25 #[.bool (e)] w fun r w' => r = .returned (.int .i64 V) ∧ w = w') := fun w => by rw [HVV.out]; exact ndbit_any _
            clear HVV
            cases e with
            | true =>
              go_enter Tryd.func16, Tryd.ntmps16
              go_wp2_with fail
              refine (HC.out _).mono ?_
              rintro r w2 ⟨rfl, q2⟩
              have u0 := (HKA.out w2 q2).cell 0
              simp only [List.getElem?_toArray, List.getElem?_cons_zero, List.getElem?_cons_succ] at u0
              have HB2 := Lib.hid (below_up BW.out q2 (by omega))
              clear q2 a0 a2 a3 a4 v0 v1 b0 b1 b2 b3 b4 b5 d0 d1
              go_wp2_with fail
              refine (HBT.out _).mono ?_
              rintro r w3 ⟨rfl, rfl⟩
              go_wp2_with fail
              go_ret
              exact ⟨rfl, HB2.out⟩
            | false =>
              go_enter Tryd.func16, Tryd.ntmps16
              go_wp2_with fail
              refine (HC.out _).mono ?_
              rintro r w2 ⟨rfl, q2⟩
              have u0 := (HKA.out w2 q2).cell 0
              simp only [List.getElem?_toArray, List.getElem?_cons_zero, List.getElem?_cons_succ] at u0
              have HB2 := Lib.hid (below_up BW.out q2 (by omega))
              clear q2 a0 a2 a3 a4 v0 v1 b0 b1 b2 b3 b4 b5 d0 d1
              go_wp2_with fail
              refine (HBT.out _).mono ?_
              rintro r w3 ⟨rfl, rfl⟩
              go_wp2_with fail
              go_ret
              exact ⟨rfl, HB2.out⟩
          · subst hkd
            clear g12 g12' e11
            have HVV : Hid (V = bitI (compS 6 (cmpS vs s co))) := by unfold Hid; rw [← HVL.out, valS, if_neg k11, if_neg hvn, if_neg (by decide), if_neg (by decide), if_neg (by decide), if_neg (by decide)]
            clear HVL k11
            have HC := Lib.hid (fun w => ndcmp_any (w := w) vs s co (by omega) (by omega))
            generalize cmpS vs s co = z at *
            obtain ⟨e, he⟩ : ∃ e, (decide (0 ≤ z)) = e := ⟨_, rfl⟩
            have HE : Hid (compS 6 z = e) := by
              unfold Hid
              rw [← he, compS, Bool.eq_iff_iff, decide_eq_true_eq, decide_eq_true_eq]
              omega
            rw [HE.out] at HVV
            clear HE
            have HBT : Hid (∀ w, Calls Tryd.prog 25 #[.bool (e)] w fun r w' => r = .returned (.int .i64 V) ∧ w = w') := fun w => by rw [HVV.out]; exact ndbit_any _
            clear HVV
            cases e with
            | true =>
              go_enter Tryd.func16, Tryd.ntmps16
              go_wp2_with fail
              refine (HC.out _).mono ?_
              rintro r w2 ⟨rfl, q2⟩
              have u0 := (HKA.out w2 q2).cell 0
              simp only [List.getElem?_toArray, List.getElem?_cons_zero, List.getElem?_cons_succ] at u0
              have HB2 := Lib.hid (below_up BW.out q2 (by omega))
              clear q2 a0 a2 a3 a4 v0 v1 b0 b1 b2 b3 b4 b5 d0 d1
              go_wp2_with fail
              refine (HBT.out _).mono ?_
              rintro r w3 ⟨rfl, rfl⟩
              go_wp2_with fail
              go_ret
              exact ⟨rfl, HB2.out⟩
            | false =>
              go_enter Tryd.func16, Tryd.ntmps16
              go_wp2_with fail
              refine (HC.out _).mono ?_
              rintro r w2 ⟨rfl, q2⟩
              have u0 := (HKA.out w2 q2).cell 0
              simp only [List.getElem?_toArray, List.getElem?_cons_zero, List.getElem?_cons_succ] at u0
              have HB2 := Lib.hid (below_up BW.out q2 (by omega))
              clear q2 a0 a2 a3 a4 v0 v1 b0 b1 b2 b3 b4 b5 d0 d1
              go_wp2_with fail
              refine (HBT.out _).mono ?_
              rintro r w3 ⟨rfl, rfl⟩
              go_wp2_with fail
              go_ret
              exact ⟨rfl, HB2.out⟩
end Go.Proofs.YtjffbjlniieciaaDoor
