/-
  The document's Right of layer 16.
-/
import Derived.Test.YtjffbjlniieciaaDoorNdB
import Derived.Test.YtjffbjlniieciaaDoorRfLa
namespace Go.Proofs.YtjffbjlniieciaaDoor
set_option linter.unusedSimpArgs false
set_option linter.unusedVariables false
open Go.RowKit

/-- And, Or, Not: what stands beside the kids -/
def HeadOk (kd cl ec co : Int) (s : ByteArray) (n : Nat) : Prop := cl = 0 ∧ ec = 0 ∧ co = 0 ∧ s.size = 0 ∧ 1 ≤ n ∧ n ≤ 16 ∧ (kd = 14 → n = 1)
instance (kd cl ec co : Int) (s : ByteArray) (n : Nat) : Decidable (HeadOk kd cl ec co s n) := by unfold HeadOk; infer_instance
/-- the others: what stands there -/
def LeafOk (kd cl co cols : Int) (s : ByteArray) (n : Nat) : Prop := n = 0 ∧ 0 ≤ cl ∧ cl < cols ∧ s.size ≤ 4096 ∧ 0 ≤ co ∧ co ≤ 2 ∧ (0 < co → kd ≤ 6) ∧ (kd = 11 → s.size = 0)
instance (kd cl co cols : Int) (s : ByteArray) (n : Nat) : Decidable (LeafOk kd cl co cols s n) := by unfold LeafOk; infer_instance
/-- is a predicate right, for so many columns, so deep at most? -/
def rightP (p : Pr) (cols deep : Int) : Bool :=
  if deep < 1 ∨ p.kind < 1 ∨ 14 < p.kind then false
  else if 12 ≤ p.kind then decide (HeadOk p.kind p.col p.esc p.coll p.s p.kids.length) && p.kids.attach.all (fun q => rightP q.1 cols (deep - 1))
  else decide (LeafOk p.kind p.col p.coll cols p.s p.kids.length) && if p.kind = 10 then (parseF p.esc p.s.data.toList).isSome else decide (p.esc = 0)
termination_by SizeOf.sizeOf p
decreasing_by exact Pr.kid_lt q.2
theorem rightP_eq (p : Pr) (cols deep : Int) : rightP p cols deep =
    if deep < 1 ∨ p.kind < 1 ∨ 14 < p.kind then false
    else if 12 ≤ p.kind then decide (HeadOk p.kind p.col p.esc p.coll p.s p.kids.length) && p.kids.all (fun q => rightP q cols (deep - 1))
    else decide (LeafOk p.kind p.col p.coll cols p.s p.kids.length) && if p.kind = 10 then (parseF p.esc p.s.data.toList).isSome else decide (p.esc = 0) := by
  rw [rightP]
  congr 2
  congr 1
  rw [Bool.eq_iff_iff, List.all_eq_true, List.all_eq_true]
  exact ⟨fun h q hq => h ⟨q, hq⟩ (List.mem_attach _ _), fun h q _ => h q.1 q.2⟩

theorem str_nil {s : ByteArray} (h : s.size = 0) : s = ⟨#[]⟩ := by
  have : s.data = #[] := Array.eq_empty_of_size_eq_zero h
  cases s
  simp only at this
  rw [this]
theorem str_some {s : ByteArray} (h : ¬ s.size = 0) : s.toList.isEmpty = false := by
  rw [List.isEmpty_eq_false_iff]
  intro e
  rw [Lib.toList_data] at e
  have := congrArg List.length e
  rw [Array.length_toList] at this
  exact h this

set_option maxRecDepth 20000 in
set_option maxHeartbeats 16000000 in
theorem rightp_any : ∀ (p : Pr) {w : World} {lo hi : Nat} {A : Option Addr} {c : Nat} (cols deep : Int), PrOk p → Kin w lo hi p.kids A c → hi ≤ w.heap.size → 0 ≤ deep → deep ≤ 1000000 →
    Calls Tryd.prog 13 #[.agg #[.int .i64 p.kind, .int .i64 p.col, .string p.s, .int .i64 p.esc, .int .i64 p.coll, .slice A p.kids.length c], .int .i64 cols, .int .i64 deep] w fun r w' => r = .returned (.bool (rightP p cols deep)) ∧ Below w.heap.size w w' :=
  Pr.ind fun p ih w lo hi A c cols deep ho hk hhi hd1 hd2 => by
    have HIH := Lib.hid ih
    have HK := Lib.hid hk
    have hs63 := ho.s
    obtain ⟨hl1, hl2⟩ := hk.len
    clear ih hk ho
    obtain ⟨V, hV⟩ : ∃ V, rightP p cols deep = V := ⟨_, rfl⟩
    rw [hV]
    rw [rightP_eq] at hV
    obtain ⟨kd, hkd⟩ : ∃ x, p.kind = x := ⟨_, rfl⟩
    obtain ⟨cl, hcl⟩ : ∃ x, p.col = x := ⟨_, rfl⟩
    obtain ⟨ec, hec⟩ : ∃ x, p.esc = x := ⟨_, rfl⟩
    obtain ⟨co, hco⟩ : ∃ x, p.coll = x := ⟨_, rfl⟩
    obtain ⟨s, hs⟩ : ∃ x, p.s = x := ⟨_, rfl⟩
    obtain ⟨ks, hks⟩ : ∃ x, p.kids = x := ⟨_, rfl⟩
    rw [hkd, hcl, hec, hco, hs, hks] at hV
    rw [hks] at HIH HK hl1
    rw [hs] at hs63
    rw [hkd, hcl, hec, hco, hs, hks]
    clear hkd hcl hec hco hs hks
    have HV := Lib.hid hV
    clear hV
    obtain ⟨w1, hw1⟩ : ∃ w1, w.alloc (.cells #[.int .i64 kd, .int .i64 cl, .string s, .int .i64 ec, .int .i64 co, .slice A ks.length c] 24) = w1 := ⟨_, rfl⟩
    have B1 : Hid (Below w.heap.size w w1) := by unfold Hid; rw [← hw1]; exact (Below.refl _ w).alloc (Nat.le_refl _) _
    have hb : Blk w1 w.heap.size 24 #[.int .i64 kd, .int .i64 cl, .string s, .int .i64 ec, .int .i64 co, .slice A ks.length c] := by rw [← hw1]; exact Blk.new w _ _
    have hs1 : w1.heap.size = w.heap.size + 1 := by rw [← hw1]; simp
    have HC5 : Hid (∀ W, Below w1.heap.size w1 W → W.cell? ⟨w.heap.size, 5, none⟩ = some (.slice A ks.length c)) := fun W hW => (hb.below hW (by omega)).cell 5
    have b0 : w1.cell? ⟨w.heap.size, 0, none⟩ = some (.int .i64 kd) := hb.cell 0
    have b1 : w1.cell? ⟨w.heap.size, 1, none⟩ = some (.int .i64 cl) := hb.cell 1
    have b2 : w1.cell? ⟨w.heap.size, 2, none⟩ = some (.string s) := hb.cell 2
    have b3 : w1.cell? ⟨w.heap.size, 3, none⟩ = some (.int .i64 ec) := hb.cell 3
    have b4 : w1.cell? ⟨w.heap.size, 4, none⟩ = some (.int .i64 co) := hb.cell 4
    have b5 : w1.cell? ⟨w.heap.size, 5, none⟩ = some (.slice A ks.length c) := hb.cell 5
    have HK1 := Lib.hid (HK.out.kept B1.out hhi)
    clear hb HK
    by_cases n1 : deep < 1
    · have HVV : Hid (V = false) := by unfold Hid; rw [← HV.out, if_pos (.inl n1)]
      go_enter Tryd.func13, Tryd.ntmps13
      go_wp2_with fail
      go_ret
      exact ⟨ret_bool HVV.out.symm, B1.out⟩
    · by_cases n2 : kd < 1
      · have HVV : Hid (V = false) := by unfold Hid; rw [← HV.out, if_pos (.inr (.inl n2))]
        go_enter Tryd.func13, Tryd.ntmps13
        go_wp2_with fail
        go_ret
        exact ⟨ret_bool HVV.out.symm, B1.out⟩
      · by_cases n3 : 14 < kd
        · have HVV : Hid (V = false) := by unfold Hid; rw [← HV.out, if_pos (.inr (.inr n3))]
          go_enter Tryd.func13, Tryd.ntmps13
          go_wp2_with fail
          go_ret
          exact ⟨ret_bool HVV.out.symm, B1.out⟩
        · have hn : ¬ (deep < 1 ∨ kd < 1 ∨ 14 < kd) := by omega
          by_cases g12 : 12 ≤ kd
          · have HVG : Hid ((decide (HeadOk kd cl ec co s ks.length) && ks.all (fun q => rightP q cols (deep - 1))) = V) := by unfold Hid; rw [← HV.out, if_neg hn, if_pos g12]
            have HNO : Hid (¬ HeadOk kd cl ec co s ks.length → V = false) := fun h => by rw [← HVG.out, decide_eq_false h]; rfl
            clear HV hn
            by_cases h1 : ¬ cl = 0
            · have HVV : Hid (V = false) := HNO.out (fun h => h1 h.1)
              have ecl : (cl != 0) = true := by simpa using h1
              clear HVG HIH
              go_enter Tryd.func13, Tryd.ntmps13
              go_wp2_with fail
              go_ret
              exact ⟨ret_bool HVV.out.symm, B1.out⟩
            · have z1 : cl = 0 := Decidable.not_not.1 h1
              subst z1
              clear h1
              by_cases h2 : ¬ ec = 0
              · have HVV : Hid (V = false) := HNO.out (fun h => h2 h.2.1)
                have eec : (ec != 0) = true := by simpa using h2
                clear HVG HIH
                go_enter Tryd.func13, Tryd.ntmps13
                go_wp2_with fail
                go_ret
                exact ⟨ret_bool HVV.out.symm, B1.out⟩
              · have z2 : ec = 0 := Decidable.not_not.1 h2
                subst z2
                clear h2
                by_cases h3 : ¬ co = 0
                · have HVV : Hid (V = false) := HNO.out (fun h => h3 h.2.2.1)
                  have eco : (co != 0) = true := by simpa using h3
                  clear HVG HIH
                  go_enter Tryd.func13, Tryd.ntmps13
                  go_wp2_with fail
                  go_ret
                  exact ⟨ret_bool HVV.out.symm, B1.out⟩
                · have z3 : co = 0 := Decidable.not_not.1 h3
                  subst z3
                  clear h3
                  by_cases h4 : ¬ s.size = 0
                  · have HVV : Hid (V = false) := HNO.out (fun h => h4 h.2.2.2.1)
                    have es := str_some h4
                    clear HVG HIH
                    go_enter Tryd.func13, Tryd.ntmps13
                    go_wp2_with fail
                    go_ret
                    exact ⟨ret_bool HVV.out.symm, B1.out⟩
                  · have z4 : s.size = 0 := Decidable.not_not.1 h4
                    have z4' := str_nil z4
                    subst z4'
                    clear h4 z4
                    by_cases h5 : ks.length < 1
                    · have HVV : Hid (V = false) := HNO.out (fun h => by have := h.2.2.2.2.1; omega)
                      have i5 : (ks.length : Int) < 1 := by omega
                      clear HVG HIH
                      go_enter Tryd.func13, Tryd.ntmps13
                      go_wp2_with fail
                      go_ret
                      exact ⟨ret_bool HVV.out.symm, B1.out⟩
                    · have i5 : ¬ (ks.length : Int) < 1 := by omega
                      by_cases h6 : 16 < ks.length
                      · have HVV : Hid (V = false) := HNO.out (fun h => by have := h.2.2.2.2.2.1; omega)
                        have i6 : (16 : Int) < (ks.length : Int) := by omega
                        clear HVG HIH
                        go_enter Tryd.func13, Tryd.ntmps13
                        go_wp2_with fail
                        go_ret
                        exact ⟨ret_bool HVV.out.symm, B1.out⟩
                      · have i6 : ¬ (16 : Int) < (ks.length : Int) := by omega
                        by_cases h7 : kd = 14 ∧ ¬ ks.length = 1
                        · have HVV : Hid (V = false) := HNO.out (fun h => h7.2 (h.2.2.2.2.2.2 h7.1))
                          obtain ⟨h8, h9⟩ := h7
                          subst h8
                          have e9 : ((ks.length : Int) != 1) = true := by simpa using (show ¬ (ks.length : Int) = 1 by omega)
                          clear HVG HIH
                          go_enter Tryd.func13, Tryd.ntmps13
                          go_wp2_with fail
                          go_ret
                          exact ⟨ret_bool HVV.out.symm, B1.out⟩
                        · have HVA : Hid (ks.all (fun q => rightP q cols (deep - 1)) = V) := by
                            unfold Hid
                            rw [← HVG.out, decide_eq_true (show HeadOk kd 0 0 0 ⟨#[]⟩ ks.length from ⟨rfl, rfl, rfl, rfl, by omega, by omega, fun h => Decidable.not_not.1 fun h' => h7 ⟨h, h'⟩⟩)]
                            rfl
                          clear HNO HVG
                          by_cases k14 : kd = 14
                          · subst k14
                            have i1 : (ks.length : Int) = 1 := by have : ks.length = 1 := Decidable.not_not.1 fun h' => h7 ⟨rfl, h'⟩
                                                                  omega
                            have e1 : ((ks.length : Int) != 1) = false := by rw [i1]; rfl
                            clear h7 i1
                            go_enter Tryd.func13, Tryd.ntmps13
                            go_wp2_with fail
                            go_loopw [7] (fun x7 wr => ∃ k : Nat, k ≤ ks.length ∧ x7 = .int .i64 (k : Int) ∧ (∀ q ∈ ks.take k, rightP q cols (deep - 1) = true) ∧ Below w1.heap.size w1 wr) (fun x7 _ => ks.length - (intOf x7).toNat)
                            case atStart => exact ⟨0, Nat.zero_le _, rfl, by simp, Below.refl _ _⟩
                            case round =>
                              clear b0 b1 b2 b3 b4 b5
                              obtain ⟨k, hk, rfl, ha, hb⟩ := hrel
                              have HA := Lib.hid ha
                              have HB := Lib.hid hb
                              have hsz := hb.size
                              have hc5 := HC5.out wr hb
                              clear ha hb
                              by_cases hlt : k < ks.length
                              · have ik : (k : Int) < (ks.length : Int) := by omega
                                obtain ⟨b, off, kA, kc, rfl, hlo, hbh, c0, c1, c2, c3, c4, c5, hok, hkk⟩ := (HK1.out.kept HB.out (by omega)).six hlt
                                have HQ := Lib.hid (HIH.out ks[k] (List.getElem_mem hlt) (w := wr) cols (deep - 1) hok hkk (by omega) (by omega) (by omega))
                                have HT : Hid (ks.take (k + 1) = ks.take k ++ [ks[k]]) := List.take_succ_eq_append_getElem hlt
                                have HM : Hid (ks[k] ∈ ks) := List.getElem_mem hlt
                                generalize ks[k] = q at *
                                obtain ⟨f, hf⟩ : ∃ f, rightP q cols (deep - 1) = f := ⟨_, rfl⟩
                                rw [hf] at HQ
                                have HF := Lib.hid hf
                                clear hf hok hkk
                                cases f with
                                | true =>
                                  have HA2 : Hid (∀ q ∈ ks.take (k + 1), rightP q cols (deep - 1) = true) := fun x hx => by
                                    rw [HT.out] at hx
                                    rcases List.mem_append.1 hx with hx | hx
                                    · exact HA.out x hx
                                    · rw [List.mem_singleton.1 hx]; exact HF.out
                                  go_wp2_with fail
                                  refine HQ.out.mono ?_
                                  rintro r w3 ⟨rfl, q3⟩
                                  have HB3 := Lib.hid (below_up HB.out q3 hsz)
                                  clear q3
                                  go_wp2_with fail
                                  go_roundw
                                  case rel => exact ⟨k + 1, by omega, by go_num, HA2.out, HB3.out⟩
                                  case measure => simp [intOf] <;> omega
                                | false =>
                                  have HVV : Hid (V = false) := by
                                    unfold Hid
                                    rw [← HVA.out]
                                    refine Bool.eq_false_iff.2 fun h => ?_
                                    have := List.all_eq_true.1 h q HM.out
                                    rw [HF.out] at this
                                    cases this
                                  go_wp2_with fail
                                  refine HQ.out.mono ?_
                                  rintro r w3 ⟨rfl, q3⟩
                                  go_wp2_with fail
                                  go_ret
                                  exact ⟨ret_bool HVV.out.symm, below_up B1.out (below_up HB.out q3 hsz) (by omega)⟩
                              · have ik : ¬ (k : Int) < (ks.length : Int) := by omega
                                have HVV : Hid (V = true) := by
                                  unfold Hid
                                  rw [← HVA.out]
                                  refine List.all_eq_true.2 fun x hx => HA.out x ?_
                                  rw [List.take_of_length_le (by omega)]
                                  exact hx
                                go_wp2_with fail
                                go_ret
                                exact ⟨ret_bool HVV.out.symm, below_up B1.out HB.out (by omega)⟩
                          · have e14 : (kd == 14) = false := by rw [beq_eq_false_iff_ne]; exact k14
                            clear h7
                            go_enter Tryd.func13, Tryd.ntmps13
                            go_wp2_with fail
                            go_loopw [7] (fun x7 wr => ∃ k : Nat, k ≤ ks.length ∧ x7 = .int .i64 (k : Int) ∧ (∀ q ∈ ks.take k, rightP q cols (deep - 1) = true) ∧ Below w1.heap.size w1 wr) (fun x7 _ => ks.length - (intOf x7).toNat)
                            case atStart => exact ⟨0, Nat.zero_le _, rfl, by simp, Below.refl _ _⟩
                            case round =>
                              clear b0 b1 b2 b3 b4 b5
                              obtain ⟨k, hk, rfl, ha, hb⟩ := hrel
                              have HA := Lib.hid ha
                              have HB := Lib.hid hb
                              have hsz := hb.size
                              have hc5 := HC5.out wr hb
                              clear ha hb
                              by_cases hlt : k < ks.length
                              · have ik : (k : Int) < (ks.length : Int) := by omega
                                obtain ⟨b, off, kA, kc, rfl, hlo, hbh, c0, c1, c2, c3, c4, c5, hok, hkk⟩ := (HK1.out.kept HB.out (by omega)).six hlt
                                have HQ := Lib.hid (HIH.out ks[k] (List.getElem_mem hlt) (w := wr) cols (deep - 1) hok hkk (by omega) (by omega) (by omega))
                                have HT : Hid (ks.take (k + 1) = ks.take k ++ [ks[k]]) := List.take_succ_eq_append_getElem hlt
                                have HM : Hid (ks[k] ∈ ks) := List.getElem_mem hlt
                                generalize ks[k] = q at *
                                obtain ⟨f, hf⟩ : ∃ f, rightP q cols (deep - 1) = f := ⟨_, rfl⟩
                                rw [hf] at HQ
                                have HF := Lib.hid hf
                                clear hf hok hkk
                                cases f with
                                | true =>
                                  have HA2 : Hid (∀ q ∈ ks.take (k + 1), rightP q cols (deep - 1) = true) := fun x hx => by
                                    rw [HT.out] at hx
                                    rcases List.mem_append.1 hx with hx | hx
                                    · exact HA.out x hx
                                    · rw [List.mem_singleton.1 hx]; exact HF.out
                                  go_wp2_with fail
                                  refine HQ.out.mono ?_
                                  rintro r w3 ⟨rfl, q3⟩
                                  have HB3 := Lib.hid (below_up HB.out q3 hsz)
                                  clear q3
                                  go_wp2_with fail
                                  go_roundw
                                  case rel => exact ⟨k + 1, by omega, by go_num, HA2.out, HB3.out⟩
                                  case measure => simp [intOf] <;> omega
                                | false =>
                                  have HVV : Hid (V = false) := by
                                    unfold Hid
                                    rw [← HVA.out]
                                    refine Bool.eq_false_iff.2 fun h => ?_
                                    have := List.all_eq_true.1 h q HM.out
                                    rw [HF.out] at this
                                    cases this
                                  go_wp2_with fail
                                  refine HQ.out.mono ?_
                                  rintro r w3 ⟨rfl, q3⟩
                                  go_wp2_with fail
                                  go_ret
                                  exact ⟨ret_bool HVV.out.symm, below_up B1.out (below_up HB.out q3 hsz) (by omega)⟩
                              · have ik : ¬ (k : Int) < (ks.length : Int) := by omega
                                have HVV : Hid (V = true) := by
                                  unfold Hid
                                  rw [← HVA.out]
                                  refine List.all_eq_true.2 fun x hx => HA.out x ?_
                                  rw [List.take_of_length_le (by omega)]
                                  exact hx
                                go_wp2_with fail
                                go_ret
                                exact ⟨ret_bool HVV.out.symm, below_up B1.out HB.out (by omega)⟩
          · have HVL : Hid ((decide (LeafOk kd cl co cols s ks.length) && if kd = 10 then (parseF ec s.data.toList).isSome else decide (ec = 0)) = V) := by unfold Hid; rw [← HV.out, if_neg hn, if_neg g12]
            have HNO : Hid (¬ LeafOk kd cl co cols s ks.length → V = false) := fun h => by rw [← HVL.out, decide_eq_false h]; rfl
            have g12' : decide (12 ≤ kd) = false := decide_eq_false g12
            clear HV hn
            by_cases h1 : 0 < ks.length
            · have HVV : Hid (V = false) := HNO.out (fun h => by have := h.1; omega)
              have i1 : (0 : Int) < (ks.length : Int) := by omega
              clear HVL
              go_enter Tryd.func13, Tryd.ntmps13
              go_wp2_with fail
              go_ret
              exact ⟨ret_bool HVV.out.symm, B1.out⟩
            · have i1 : ¬ (0 : Int) < (ks.length : Int) := by omega
              by_cases h2 : cl < 0
              · have HVV : Hid (V = false) := HNO.out (fun h => by have := h.2.1; omega)
                clear HVL
                go_enter Tryd.func13, Tryd.ntmps13
                go_wp2_with fail
                go_ret
                exact ⟨ret_bool HVV.out.symm, B1.out⟩
              · by_cases h3 : cols ≤ cl
                · have HVV : Hid (V = false) := HNO.out (fun h => by have := h.2.2.1; omega)
                  clear HVL
                  go_enter Tryd.func13, Tryd.ntmps13
                  go_wp2_with fail
                  go_ret
                  exact ⟨ret_bool HVV.out.symm, B1.out⟩
                · by_cases h4 : 4096 < s.size
                  · have HVV : Hid (V = false) := HNO.out (fun h => by have := h.2.2.2.1; omega)
                    have i4 : (4096 : Int) < (s.size : Int) := by omega
                    clear HVL
                    go_enter Tryd.func13, Tryd.ntmps13
                    go_wp2_with fail
                    go_ret
                    exact ⟨ret_bool HVV.out.symm, B1.out⟩
                  · have i4 : ¬ (4096 : Int) < (s.size : Int) := by omega
                    by_cases h5 : co < 0
                    · have HVV : Hid (V = false) := HNO.out (fun h => by have := h.2.2.2.2.1; omega)
                      clear HVL
                      go_enter Tryd.func13, Tryd.ntmps13
                      go_wp2_with fail
                      go_ret
                      exact ⟨ret_bool HVV.out.symm, B1.out⟩
                    · by_cases h6 : 2 < co
                      · have HVV : Hid (V = false) := HNO.out (fun h => by have := h.2.2.2.2.2.1; omega)
                        clear HVL
                        go_enter Tryd.func13, Tryd.ntmps13
                        go_wp2_with fail
                        go_ret
                        exact ⟨ret_bool HVV.out.symm, B1.out⟩
                      · by_cases h7 : 0 < co ∧ 6 < kd
                        · have HVV : Hid (V = false) := HNO.out (fun h => by have := h.2.2.2.2.2.2.1 h7.1; omega)
                          obtain ⟨h8, h9⟩ := h7
                          clear HVL
                          go_enter Tryd.func13, Tryd.ntmps13
                          go_wp2_with fail
                          go_ret
                          exact ⟨ret_bool HVV.out.symm, B1.out⟩
                        · by_cases h8 : kd = 11 ∧ ¬ s.size = 0
                          · have HVV : Hid (V = false) := HNO.out (fun h => h8.2 (h.2.2.2.2.2.2.2 h8.1))
                            obtain ⟨h9, h10⟩ := h8
                            subst h9
                            have hco : ¬ 0 < co := fun h => h7 ⟨h, by omega⟩
                            have es := str_some h10
                            clear HVL h7
                            go_enter Tryd.func13, Tryd.ntmps13
                            go_wp2_with fail
                            go_ret
                            exact ⟨ret_bool HVV.out.symm, B1.out⟩
                          · have hlf : LeafOk kd cl co cols s ks.length := ⟨by omega, by omega, by omega, by omega, by omega, by omega, fun h => by omega, fun h => Decidable.not_not.1 fun h' => h8 ⟨h, h'⟩⟩
                            have HVE : Hid ((if kd = 10 then (parseF ec s.data.toList).isSome else decide (ec = 0)) = V) := by
                              unfold Hid
                              rw [← HVL.out, decide_eq_true hlf, Bool.true_and]
                            clear HNO HVL hlf
                            have hcc : ¬ 0 < co ∨ (0 < co ∧ ¬ 6 < kd) := by omega
                            by_cases k10 : kd = 10
                            · subst k10
                              have hco : ¬ 0 < co := by omega
                              clear hcc h7 h8
                              have HPA : Hid ((parseF ec s.data.toList).isSome = V) := HVE.out
                              obtain ⟨o, ho⟩ : ∃ o, parseF ec s.data.toList = o := ⟨_, rfl⟩
                              have HP := Lib.hid (fun w => refParse_any (w := w) s ec o ho)
                              rw [ho] at HPA
                              clear ho HVE
                              obtain ⟨x8, hx8⟩ : ∃ x : Int, (if o.isSome then (0 : Int) else 8) = x := ⟨_, rfl⟩
                              rw [hx8] at HP
                              have HX : Hid ((x8 == 0) = V) := by
                                unfold Hid
                                rw [← HPA.out, ← hx8]
                                cases o.isSome <;> rfl
                              clear hx8
                              go_enter Tryd.func13, Tryd.ntmps13
                              go_wp2_with fail
                              refine (HP.out _).mono ?_
                              rintro r w2 ⟨A2, c2, rfl, -, q2⟩
                              go_wp2_with fail
                              go_ret
                              exact ⟨ret_bool HX.out, below_up B1.out q2 (by omega)⟩
                            · by_cases k11 : kd = 11
                              · subst k11
                                have hco : ¬ 0 < co := by omega
                                have hse : s.size = 0 := Decidable.not_not.1 fun h' => h8 ⟨rfl, h'⟩
                                have hse2 := str_nil hse
                                subst hse2
                                clear hcc h7 h8 hse
                                have HPE : Hid ((ec == 0) = V) := by
                                  unfold Hid
                                  rw [← HVE.out, if_neg k10, Bool.eq_iff_iff, beq_iff_eq, decide_eq_true_eq]
                                clear HVE
                                go_enter Tryd.func13, Tryd.ntmps13
                                go_wp2_with fail
                                go_ret
                                exact ⟨ret_bool HPE.out, B1.out⟩
                              · have e10 : (kd == 10) = false := by rw [beq_eq_false_iff_ne]; exact k10
                                have e11 : (kd == 11) = false := by rw [beq_eq_false_iff_ne]; exact k11
                                clear h7 h8
                                rcases hcc with hcc | ⟨hcc, hcd⟩
                                · have HPE : Hid ((ec == 0) = V) := by
                                    unfold Hid
                                    rw [← HVE.out, if_neg k10, Bool.eq_iff_iff, beq_iff_eq, decide_eq_true_eq]
                                  clear HVE
                                  go_enter Tryd.func13, Tryd.ntmps13
                                  go_wp2_with fail
                                  go_ret
                                  exact ⟨ret_bool HPE.out, B1.out⟩
                                · have HPE : Hid ((ec == 0) = V) := by
                                    unfold Hid
                                    rw [← HVE.out, if_neg k10, Bool.eq_iff_iff, beq_iff_eq, decide_eq_true_eq]
                                  clear HVE
                                  go_enter Tryd.func13, Tryd.ntmps13
                                  go_wp2_with fail
                                  go_ret
                                  exact ⟨ret_bool HPE.out, B1.out⟩
end Go.Proofs.YtjffbjlniieciaaDoor
