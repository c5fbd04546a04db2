/-
  The document's Match of layer 9: by a table.
-/
import Derived.Test.YtjffbjlniieciaaDoorRfLa
import Derived.Test.YtjffbjlniieciaaDoorBoolB
import Derived.StillTailTactics
namespace Go.Proofs.YtjffbjlniieciaaDoor
set_option linter.unusedSimpArgs false
set_option linter.unusedVariables false
open Go.RowKit

theorem still_skip {P : Program} {ops : Array Oper} {w : World} {Q : Act → Prop} {a : Act} {o : Oper} {rest : List Oper} (hw : Region.wanted o (yielded ops a.tmps) = false) (h : wpStill P ops w Q rest (a.put o.dst undef)) : wpStill P ops w Q (o :: rest) a := by
  unfold wpStill
  rw [hw, if_neg (by simp)]
  exact h
theorem still_want {P : Program} {ops : Array Oper} {w : World} {Q : Act → Prop} {a : Act} {o : Oper} {rest : List Oper} (hw : Region.wanted o (yielded ops a.tmps) = true)
    (h : ∀ K : Act → Prop, (∀ a, wpStill P ops w Q rest a → K a) → o.still P a w K) : wpStill P ops w Q (o :: rest) a := by
  unfold wpStill
  rw [hw, if_pos rfl]
  exact h _ (fun _ h => h)
/-- which beginnings of bytes the signs match -/
def tab (p : List Nat) (l : List UInt8) : List Bool := (List.range (l.length + 1)).map fun k => mat p (l.take k)
theorem tab_length (p : List Nat) (l : List UInt8) : (tab p l).length = l.length + 1 := by simp [tab]
theorem tab_get (p : List Nat) (l : List UInt8) {k : Nat} (h : k ≤ l.length) : (tab p l)[k]? = some (mat p (l.take k)) := by
  unfold tab
  rw [List.getElem?_map, List.getElem?_range (by omega)]
  rfl
theorem lv_tab (p : List Nat) (l : List UInt8) {k : Nat} (h : k ≤ l.length) : (lv (tab p l))[k]? = some (.bool (mat p (l.take k))) := by
  unfold lv
  rw [List.getElem?_map, tab_get p l h]
  rfl
theorem tab_nil (l : List UInt8) : (List.replicate (l.length + 1) (Value.bool false)).set 0 (.bool true) = lv (tab [] l) := by
  apply List.ext_getElem?
  intro j
  by_cases hj : j ≤ l.length
  · rw [lv_tab _ _ hj, mat_nil]
    cases j with
    | zero => simp
    | succ j =>
      rw [List.getElem?_set_ne (by omega), List.getElem?_replicate, if_pos (by omega)]
      have : l.take (j + 1) ≠ [] := fun e => by
        rw [List.take_eq_nil_iff] at e
        rcases e with e | e
        · omega
        · rw [e] at hj; simp at hj
      rw [List.isEmpty_eq_false_iff.2 this]
  · rw [List.getElem?_eq_none (by simp; omega), List.getElem?_eq_none (by rw [lv_length, tab_length]; omega)]
/-- cells filled up to k, none so behind it -/
def FillZ (ys : List Value) (k : Nat) (xs : List Value) : Prop := xs.length = ys.length ∧ (∀ j, j < k → xs[j]? = ys[j]?) ∧ ∀ j, k ≤ j → j < ys.length → xs[j]? = some (.bool false)
theorem fillz_zero {ys : List Value} {n : Nat} (h : ys.length = n) : FillZ ys 0 (List.replicate n (.bool false)) :=
  ⟨by simp [h], fun j hj => absurd hj (Nat.not_lt_zero j), fun j _ hj => by rw [List.getElem?_replicate, if_pos (by omega)]⟩
theorem fillz_all {ys xs : List Value} {k : Nat} (h : FillZ ys k xs) (hk : ys.length ≤ k) : xs = ys := fill_all ⟨h.1, h.2.1⟩ hk
theorem fillz_set {ys xs : List Value} {k : Nat} (h : FillZ ys k xs) (u : Value) (hu : ys[k]? = some u) : FillZ ys (k + 1) (xs.set k u) := by
  obtain ⟨h1, h2⟩ := fill_succ ⟨h.1, h.2.1⟩ u hu
  exact ⟨h1, h2, fun j h3 h4 => by rw [List.getElem?_set_ne (by omega)]; exact h.2.2 j (by omega) h4⟩
theorem fillz_keep {ys xs : List Value} {k : Nat} (h : FillZ ys k xs) (hu : ys[k]? = some (.bool false)) : FillZ ys (k + 1) xs :=
  ⟨h.1, fun j hj => by
    by_cases e : j = k
    · subst e
      rw [hu]
      exact h.2.2 j (Nat.le_refl _) (List.getElem?_eq_some_iff.1 hu).1
    · exact h.2.1 j (by omega), fun j h3 h4 => h.2.2 j (by omega) h4⟩
theorem take_snoc {ns : List Nat} {i : Nat} (h : i < ns.length) : ns.take (i + 1) = ns.take i ++ [ns[i]] := List.take_succ_eq_append_getElem h

theorem own_lower {w : World} {B B' n : Nat} {e : TypeId} {v : Value} {xs : List Value} (h : w.ownsRow B e 1 v n xs) (hB : B' ≤ B) : w.ownsRow B' e 1 v n xs :=
  ⟨h.1, h.2.elim Or.inl fun ⟨g, cap, cur, h1, h2, h3⟩ => Or.inr ⟨g, cap, cur, h1, Nat.le_trans hB h2, h3⟩⟩
theorem rd_tab {w : World} {lo hi g N : Nat} {p : List Nat} {l : List UInt8} (h : Rd w lo hi (some ⟨g, 0, none⟩) N (lv (tab p l))) {k : Nat} (hk : k ≤ l.length) : w.cell? ⟨g, k, none⟩ = some (.bool (mat p (l.take k))) := by
  obtain ⟨b, off, he, _, _, hc⟩ := h.at_ (by rw [lv_length, tab_length]; omega)
  have := hc k _ (lv_tab p l hk)
  injection he with he
  injection he with h1 h2
  subst h1 h2
  rw [Nat.zero_add] at this
  exact this
theorem rd_sig {w : World} {lo hi c : Nat} {A : Option Addr} {ns : List Nat} (h : Rd w lo hi A c (iv (ints ns))) {k : Nat} (hk : k < ns.length) :
    ∃ b off, A = some ⟨b, off, none⟩ ∧ w.cell? ⟨b, off + k, none⟩ = some (.int .i64 (ns[k] : Int)) := by
  obtain ⟨b, off, he, _, _, hc⟩ := h.num (k := k) (by rw [ints_length]; exact hk)
  refine ⟨b, off, he, hc.trans ?_⟩
  simp [ints]

set_option maxRecDepth 20000 in
set_option maxHeartbeats 4000000 in
theorem refMatch_any {w : World} (ns : List Nat) (s : ByteArray) {c : Nat} {A : Option Addr} (h : Rd w 0 w.heap.size A c (iv (ints ns))) (h7 : ∀ n ∈ ns, n ≤ 257) (hs : s.size ≤ 1000000) :
    Calls Tryd.prog 28 #[.slice A ns.length c, .string s] w fun r w' => r = .returned (.bool (mat ns s.data.toList)) ∧ Below w.heap.size w w' := by
  have hl := h.len
  have hc := h.cap
  rw [iv_length, ints_length] at hl
  unfold maxLen at hc
  have H := Lib.hid h
  have H7 : Hid (∀ i (hi : i < ns.length), ns[i] ≤ 257) := fun i hi => h7 _ (List.getElem_mem hi)
  have HS := Lib.hid (lenB s)
  clear h h7
  obtain ⟨v, hv⟩ : ∃ v, mat ns s.data.toList = v := ⟨_, rfl⟩
  rw [hv]
  have HV := Lib.hid hv
  clear hv
  obtain ⟨w1, hmake, ho1, hg1⟩ := make_bools w (s.size + 1) (by omega)
  have hb1 : Below w.heap.size w w1 := (Below.refl _ _).grown hg1 (Nat.le_refl _) (by simp)
  have hf1 := ho1.frozenAt 0
  have hc1 : w1.cell? ⟨w.heap.size, 0, none⟩ = some (.bool false) := by
    rw [ho1.cellAt 0 (by omega), List.getElem?_replicate, if_pos (by omega)]
  have hst := ho1.stored 0 (.bool true)
  rw [show ((s.size + 1 : Nat) : Int) = (s.size : Int) + 1 by omega] at hmake
  rw [show (List.replicate (s.size + 1) (Value.bool false)).set 0 (.bool true) = lv (tab [] s.data.toList) by rw [← tab_nil, HS.out]] at hst
  have HST := Lib.hid hst
  have HB1 := Lib.hid hb1
  clear ho1 hg1 hb1 hst
  go_enter Tryd.func28, Tryd.ntmps28
  go_wp2_with fail
  go_loopw [5, 6] (fun x5 x6 wr => ∃ (i g : Nat), i ≤ ns.length ∧ x6 = .int .i64 (i : Int) ∧ x5 = .slice (some ⟨g, 0, none⟩) (s.size + 1) (s.size + 1) ∧
    wr.ownsRow w.heap.size 4 1 (.slice (some ⟨g, 0, none⟩) (s.size + 1) (s.size + 1)) (s.size + 1) (lv (tab (ns.take i) s.data.toList)) ∧ Below w.heap.size w wr) (fun _ x6 _ => ns.length - (intOf x6).toNat)
  case atStart => exact ⟨0, _, Nat.zero_le _, rfl, rfl, HST.out.1, below_some HB1.out HST.out.2 HB1.out.size (Nat.le_refl _)⟩
  case round =>
    clear hmake hf1 hc1 HST HB1
    obtain ⟨i, g, hi, rfl, rfl, hown, hb⟩ := hrel
    obtain ⟨wo, hwo⟩ : ∃ wo, wo = wr := ⟨_, rfl⟩
    subst hwo
    have HO := Lib.hid hown
    have HB := Lib.hid hb
    have hsz := hb.size
    clear hown hb
    by_cases hlt : i < ns.length
    · have ik : (i : Int) < (ns.length : Int) := by omega
      obtain ⟨w2, hmake2, ho2, hg2⟩ := make_bools wo (s.size + 1) (by omega)
      rw [show ((s.size + 1 : Nat) : Int) = (s.size : Int) + 1 by omega] at hmake2
      have hrd := (rd_own HO.out).grown hg2 (Nat.le_refl _) (by simp)
      have HRD := Lib.hid hrd
      have HO2 := Lib.hid ho2
      have HB2 := Lib.hid (HB.out.grown hg2 hsz (by simp) : Below w.heap.size w w2)
      have HTS := Lib.hid (take_snoc hlt)
      have hc7 := H7.out i hlt
      have hg0 : wo.heap.size ≤ w2.heap.size := hg2.size
      clear ho2 hg2 hrd HO HB
      go_wp2_with fail
      clear hmake2
      go_loopw [8] (fun x8 wr => ∃ (k : Nat) (xs : List Value), k ≤ s.size + 1 ∧ x8 = .int .i64 (k : Int) ∧ FillZ (lv (tab (ns.take (i + 1)) s.data.toList)) k xs ∧
        wr.ownsRow wo.heap.size 4 1 (.slice (some ⟨wo.heap.size, 0, none⟩) (s.size + 1) (s.size + 1)) (s.size + 1) xs ∧ Rd wr 0 wo.heap.size (some ⟨g, 0, none⟩) (s.size + 1) (lv (tab (ns.take i) s.data.toList)) ∧ Below w.heap.size w wr) (fun x8 _ => s.size + 1 - (intOf x8).toNat)
      case atStart => exact ⟨0, _, Nat.zero_le _, rfl, fillz_zero (by rw [lv_length, tab_length, HS.out]), HO2.out, HRD.out, HB2.out⟩
      case round =>
        clear HO2 HRD HB2
        obtain ⟨k, xs, hk, rfl, hf, hown, hrd, hb⟩ := hrel
        have HF := Lib.hid hf
        have HO := Lib.hid hown
        have HR := Lib.hid hrd
        have HB := Lib.hid hb
        have hsz2 := hb.size
        clear hf hown hrd hb
        by_cases hkl : k ≤ s.size
        · have ikl : (k : Int) ≤ (s.size : Int) := by omega
          obtain ⟨b, off, rfl, hsig⟩ := rd_sig (H.out.below HB.out (Nat.le_refl _)) hlt
          have hc7 := H7.out i hlt
          have HTS := Lib.hid (take_snoc hlt)
          have hfr := HO.out.frozenAt k
          have hxl : xs.length = s.size + 1 := by rw [HF.out.1, lv_length, tab_length, HS.out]
          have hcx : wr.cell? ⟨wo.heap.size, k, none⟩ = some (.bool false) := by
            rw [HO.out.cellAt k (by omega), HF.out.2.2 k (Nat.le_refl _) (by rw [lv_length, tab_length, HS.out]; omega)]
          have HST := fun u => Lib.hid (HO.out.stored k u)
          have hgb : wo.heap.size < wr.heap.size := by
            obtain ⟨q, hq, _, hq2⟩ := own_spot HO.out (by omega)
            injection hq with hq
            injection hq with hq
            omega
          by_cases h257 : ns[i] = 257
          · rw [h257] at hsig HTS
            by_cases hk0 : k = 0
            · subst hk0
              have hcan := rd_tab HR.out (k := 0) (Nat.zero_le _)
              have HU : Hid ((lv (tab (ns.take (i + 1)) s.data.toList))[0]? = some (.bool (mat (ns.take i) (s.data.toList.take 0)))) := by
                unfold Hid
                rw [lv_tab _ _ (Nat.zero_le _), HTS.out, mat_snoc_any_zero]
              generalize mat (ns.take i) (s.data.toList.take 0) = x at *
              cases x
              all_goals
                go_wp2_with fail
                go_roundw
                case rel => exact ⟨0 + 1, _, by omega, by first | rfl | go_num, fillz_set HF.out _ HU.out, (HST _).out.1, HR.out.grown (HST _).out.2 (Nat.le_of_lt hgb) (fun q hq => by simp [Value.ownBlock] at hq; omega), below_some HB.out (HST _).out.2 hsz2 (by omega)⟩
                case measure => simp [intOf] <;> omega
            · obtain ⟨j, rfl⟩ : ∃ j, k = j + 1 := ⟨k - 1, by omega⟩
              have hcan := rd_tab HR.out (k := j + 1) (by rw [HS.out]; exact hkl)
              have hprev : wr.cell? ⟨wo.heap.size, j, none⟩ = some (.bool (mat (ns.take i ++ [257]) (s.data.toList.take j))) := by
                rw [HO.out.cellAt j (by omega), HF.out.2.1 j (by omega), HTS.out, lv_tab _ _ (by rw [HS.out]; omega)]
              have HU : Hid ((lv (tab (ns.take (i + 1)) s.data.toList))[j + 1]? = some (.bool (mat (ns.take i) (s.data.toList.take (j + 1)) || mat (ns.take i ++ [257]) (s.data.toList.take j)))) := by
                unfold Hid
                rw [lv_tab _ _ (by rw [HS.out]; exact hkl), HTS.out, mat_snoc_any_succ _ (by rw [HS.out]; omega)]
              generalize mat (ns.take i) (s.data.toList.take (j + 1)) = x at *
              generalize mat (ns.take i ++ [257]) (s.data.toList.take j) = y at *
              cases x
              all_goals
                go_wp2_with fail
                go_roundw
                case rel => exact ⟨j + 1 + 1, _, by omega, by first | rfl | go_num, fillz_set HF.out _ HU.out, (HST _).out.1, HR.out.grown (HST _).out.2 (Nat.le_of_lt hgb) (fun q hq => by simp [Value.ownBlock] at hq; omega), below_some HB.out (HST _).out.2 hsz2 (by omega)⟩
                case measure => simp [intOf] <;> omega
          · have i257 : ¬ (ns[i] : Int) = 257 := by omega
            by_cases hk0 : k = 0
            · subst hk0
              have HU : Hid ((lv (tab (ns.take (i + 1)) s.data.toList))[0]? = some (.bool false)) := by
                unfold Hid
                rw [lv_tab _ _ (Nat.zero_le _), HTS.out, mat_snoc_one_zero h257]
              go_wp2_with fail
              go_roundw
              case rel => exact ⟨0 + 1, xs, by omega, by first | rfl | go_num, fillz_keep HF.out HU.out, HO.out, HR.out, HB.out⟩
              case measure => simp [intOf] <;> omega
            · obtain ⟨j, rfl⟩ : ∃ j, k = j + 1 := ⟨k - 1, by omega⟩
              have hcan := rd_tab HR.out (k := j) (by rw [HS.out]; omega)
              have hjs : j < s.size := by omega
              have HU : Hid ((lv (tab (ns.take (i + 1)) s.data.toList))[j + 1]? = some (.bool (mat (ns.take i) (s.data.toList.take j) && one ns[i] s[j]))) := by
                unfold Hid
                rw [lv_tab _ _ (by rw [HS.out]; exact hkl), HTS.out, mat_snoc_one_succ h257 _ (by rw [HS.out]; exact hjs)]
                rfl
              have lj : s[j].toNat < 256 := UInt8.toNat_lt _
              generalize mat (ns.take i) (s.data.toList.take j) = x at *
              have ijs : (j : Int) < (s.size : Int) := by omega
              cases x
              · rw [Bool.false_and] at HU
                go_wp2_with fail
                go_roundw
                case rel => exact ⟨j + 1 + 1, xs, by omega, by first | rfl | go_num, fillz_keep HF.out HU.out, HO.out, HR.out, HB.out⟩
                case measure => simp [intOf] <;> omega
              · rw [Bool.true_and] at HU
                have HST2 := fun u => Lib.hid ((own_keep HO.out (fun _ _ => rfl) : wr.drew.ownsRow wo.heap.size 4 1 (.slice (some ⟨wo.heap.size, 0, none⟩) (s.size + 1) (s.size + 1)) (s.size + 1) xs).stored (j + 1) u)
                have HRD4 := Lib.hid HR.out.drew
                have HBD : Hid (Below w.heap.size w wr.drew) := below_drewN' HB.out 1
                have j0 : (0 : Int) ≤ (j : Int) + 1 := by omega
                have hjw : IntKind.i64.wrap (j : Int) = (j : Int) := IntWalk.i64_in _ (by omega)
                have hjp : (0 : Int) ≤ (j : Int) := by omega
                have hfd : wr.drew.frozen? ⟨wo.heap.size, j + 1, none⟩ = false := hfr
                have hcd : wr.drew.cell? ⟨wo.heap.size, j + 1, none⟩ = some (.bool false) := hcx
                by_cases h256 : ns[i] = 256
                · have h1 : one ns[i] s[j] = true := by unfold one; rw [h256]; rfl
                  rw [h1] at HU
                  rw [h256] at hsig
                  clear h1
                  have hsd : wr.drew.cell? ⟨b, off + i, none⟩ = some (.int .i64 (256 : Int)) := hsig
                  go_wp2_with fail
                  refine wp_region_still_tail 20 (by kernel_rfl) (by kernel_rfl) ?_
                  change wpStill _ _ wr.drew (fun a' => wpList _ _ _ _ a' wr.drew) _ _
                  have hz4 : wo.heap.size < wr.drew.heap.size := hgb
                  generalize wr.drew = w4 at *
                  simp only [List.take_succ_cons, List.take_zero, List.drop_succ_cons, List.drop_zero]
                  iterate 7 still_step
                  refine wpStill_step (fun K hK => ?_)
                  go_simp
                  with_reducible refine hK _ ?_
                  clear hK K
                  with_reducible refine still_skip ?_ ?_
                  · rfl
                  with_reducible simp only [Act.put, List.setIfInBounds_toArray, List.set_cons_zero, List.set_cons_succ]
                  with_reducible refine still_skip ?_ ?_
                  · rfl
                  with_reducible simp only [Act.put, List.setIfInBounds_toArray, List.set_cons_zero, List.set_cons_succ]
                  with_reducible refine still_skip ?_ ?_
                  · rfl
                  with_reducible simp only [Act.put, List.setIfInBounds_toArray, List.set_cons_zero, List.set_cons_succ]
                  with_reducible refine still_skip ?_ ?_
                  · rfl
                  with_reducible simp only [Act.put, List.setIfInBounds_toArray, List.set_cons_zero, List.set_cons_succ]
                  with_reducible refine still_skip ?_ ?_
                  · rfl
                  with_reducible simp only [Act.put, List.setIfInBounds_toArray, List.set_cons_zero, List.set_cons_succ]
                  with_reducible refine still_skip ?_ ?_
                  · rfl
                  with_reducible simp only [Act.put, List.setIfInBounds_toArray, List.set_cons_zero, List.set_cons_succ]
                  with_reducible refine still_skip ?_ ?_
                  · rfl
                  with_reducible simp only [Act.put, List.setIfInBounds_toArray, List.set_cons_zero, List.set_cons_succ]
                  with_reducible refine still_skip ?_ ?_
                  · rfl
                  with_reducible simp only [Act.put, List.setIfInBounds_toArray, List.set_cons_zero, List.set_cons_succ]
                  with_reducible refine still_skip ?_ ?_
                  · rfl
                  with_reducible simp only [Act.put, List.setIfInBounds_toArray, List.set_cons_zero, List.set_cons_succ]
                  with_reducible refine still_skip ?_ ?_
                  · rfl
                  with_reducible simp only [Act.put, List.setIfInBounds_toArray, List.set_cons_zero, List.set_cons_succ]
                  still_step
                  still_step
                  refine wpStill_nil ?_
                  go_wp2
                  go_roundw
                  case rel => exact ⟨j + 1 + 1, _, by omega, by first | rfl | go_num, fillz_set HF.out _ HU.out, (HST2 _).out.1, HRD4.out.grown (HST2 _).out.2 (Nat.le_of_lt hz4) (fun q hq => by simp [Value.ownBlock] at hq; omega), below_some HBD.out (HST2 _).out.2 HBD.out.size (by omega)⟩
                  case measure => simp [intOf] <;> omega
                · have i256 : ¬ (ns[i] : Int) = 256 := by omega
                  have h1 : one ns[i] s[j] = decide ((ns[i] : Int) = (s[j].toNat : Int)) := by
                    unfold one
                    rw [beq_false_of_ne h256, Bool.false_or, Bool.eq_iff_iff, beq_iff_eq, decide_eq_true_eq]
                    omega
                  rw [h1] at HU
                  clear h1
                  generalize ns[i] = cc at *
                  have i256b : ((cc : Int) == 256) = false := beq_eq_false_iff_ne.2 i256
                  by_cases hcs : (cc : Int) = (s[j].toNat : Int)
                  · rw [decide_eq_true hcs] at HU
                    have hcb : ((cc : Int) == (s[j].toNat : Int)) = true := beq_iff_eq.2 hcs
                    clear hcs
                    have hsd : wr.drew.cell? ⟨b, off + i, none⟩ = some (.int .i64 (cc : Int)) := hsig
                    go_wp2_with fail
                    refine wp_region_still_tail 20 (by kernel_rfl) (by kernel_rfl) ?_
                    change wpStill _ _ wr.drew (fun a' => wpList _ _ _ _ a' wr.drew) _ _
                    have hz4 : wo.heap.size < wr.drew.heap.size := hgb
                    generalize wr.drew = w4 at *
                    simp only [List.take_succ_cons, List.take_zero, List.drop_succ_cons, List.drop_zero]
                    iterate 7 still_step
                    refine wpStill_step (fun K hK => ?_)
                    go_simp
                    with_reducible refine hK _ ?_
                    clear hK K
                    with_reducible refine still_want ?_ ?_
                    · rfl
                    intro K hK
                    go_simp
                    with_reducible refine hK _ ?_
                    clear hK K
                    with_reducible refine still_want ?_ ?_
                    · rfl
                    intro K hK
                    go_simp
                    with_reducible refine hK _ ?_
                    clear hK K
                    with_reducible refine still_want ?_ ?_
                    · rfl
                    intro K hK
                    go_simp
                    with_reducible refine hK _ ?_
                    clear hK K
                    with_reducible refine still_want ?_ ?_
                    · rfl
                    intro K hK
                    go_simp
                    with_reducible refine hK _ ?_
                    clear hK K
                    with_reducible refine still_want ?_ ?_
                    · rfl
                    intro K hK
                    go_simp
                    with_reducible refine hK _ ?_
                    clear hK K
                    with_reducible refine still_want ?_ ?_
                    · rfl
                    intro K hK
                    go_simp
                    with_reducible refine hK _ ?_
                    clear hK K
                    with_reducible refine still_want ?_ ?_
                    · rfl
                    intro K hK
                    go_simp
                    with_reducible refine hK _ ?_
                    clear hK K
                    with_reducible refine still_want ?_ ?_
                    · rfl
                    intro K hK
                    go_simp
                    with_reducible refine hK _ ?_
                    clear hK K
                    with_reducible refine still_want ?_ ?_
                    · rfl
                    intro K hK
                    go_simp
                    with_reducible refine hK _ ?_
                    clear hK K
                    with_reducible refine still_want ?_ ?_
                    · rfl
                    intro K hK
                    go_simp
                    with_reducible refine hK _ ?_
                    clear hK K
                    still_step
                    still_step
                    refine wpStill_nil ?_
                    go_wp2
                    go_roundw
                    case rel => exact ⟨j + 1 + 1, _, by omega, by first | rfl | go_num, fillz_set HF.out _ HU.out, (HST2 _).out.1, HRD4.out.grown (HST2 _).out.2 (Nat.le_of_lt hz4) (fun q hq => by simp [Value.ownBlock] at hq; omega), below_some HBD.out (HST2 _).out.2 HBD.out.size (by omega)⟩
                    case measure => simp [intOf] <;> omega
                  · rw [decide_eq_false hcs] at HU
                    have hcb : ((cc : Int) == (s[j].toNat : Int)) = false := beq_eq_false_iff_ne.2 hcs
                    have hsd : wr.drew.cell? ⟨b, off + i, none⟩ = some (.int .i64 (cc : Int)) := hsig
                    go_wp2_with fail
                    refine wp_region_still_tail 20 (by kernel_rfl) (by kernel_rfl) ?_
                    change wpStill _ _ wr.drew (fun a' => wpList _ _ _ _ a' wr.drew) _ _
                    have hz4 : wo.heap.size < wr.drew.heap.size := hgb
                    generalize wr.drew = w4 at *
                    simp only [List.take_succ_cons, List.take_zero, List.drop_succ_cons, List.drop_zero]
                    iterate 7 still_step
                    refine wpStill_step (fun K hK => ?_)
                    go_simp
                    with_reducible refine hK _ ?_
                    clear hK K
                    with_reducible refine still_want ?_ ?_
                    · rfl
                    intro K hK
                    go_simp
                    with_reducible refine hK _ ?_
                    clear hK K
                    with_reducible refine still_want ?_ ?_
                    · rfl
                    intro K hK
                    go_simp
                    with_reducible refine hK _ ?_
                    clear hK K
                    with_reducible refine still_want ?_ ?_
                    · rfl
                    intro K hK
                    go_simp
                    with_reducible refine hK _ ?_
                    clear hK K
                    with_reducible refine still_want ?_ ?_
                    · rfl
                    intro K hK
                    go_simp
                    with_reducible refine hK _ ?_
                    clear hK K
                    with_reducible refine still_want ?_ ?_
                    · rfl
                    intro K hK
                    go_simp
                    with_reducible refine hK _ ?_
                    clear hK K
                    with_reducible refine still_want ?_ ?_
                    · rfl
                    intro K hK
                    go_simp
                    with_reducible refine hK _ ?_
                    clear hK K
                    with_reducible refine still_want ?_ ?_
                    · rfl
                    intro K hK
                    go_simp
                    with_reducible refine hK _ ?_
                    clear hK K
                    with_reducible refine still_want ?_ ?_
                    · rfl
                    intro K hK
                    go_simp
                    with_reducible refine hK _ ?_
                    clear hK K
                    with_reducible refine still_want ?_ ?_
                    · rfl
                    intro K hK
                    go_simp
                    with_reducible refine hK _ ?_
                    clear hK K
                    with_reducible refine still_want ?_ ?_
                    · rfl
                    intro K hK
                    go_simp
                    with_reducible refine hK _ ?_
                    clear hK K
                    still_step
                    still_step
                    refine wpStill_nil ?_
                    go_wp2
                    go_roundw
                    case rel => exact ⟨j + 1 + 1, _, by omega, by first | rfl | go_num, fillz_set HF.out _ HU.out, (HST2 _).out.1, HRD4.out.grown (HST2 _).out.2 (Nat.le_of_lt hz4) (fun q hq => by simp [Value.ownBlock] at hq; omega), below_some HBD.out (HST2 _).out.2 HBD.out.size (by omega)⟩
                    case measure => simp [intOf] <;> omega
        · have ikl : ¬ (k : Int) ≤ (s.size : Int) := by omega
          have hall := fillz_all HF.out (by rw [lv_length, tab_length, HS.out]; omega)
          have hoL := HO.out
          rw [hall] at hoL
          have HOL := Lib.hid hoL
          clear hall hoL
          go_wp2_with fail
          go_roundw
          case rel => exact ⟨i + 1, wo.heap.size, by omega, by go_num, rfl, own_lower HOL.out hsz, HB.out⟩
          case measure => simp [intOf] <;> omega
    · have ik : ¬ (i : Int) < (ns.length : Int) := by omega
      have hcl := rd_tab (rd_own HO.out) (k := s.size) (by rw [HS.out]; exact Nat.le_refl _)
      rw [List.take_of_length_le (by omega), List.take_of_length_le (by rw [HS.out]; exact Nat.le_refl _)] at hcl
      have hsz3 : (s.size : Int) < ((s.size + 1 : Nat) : Int) := by omega
      rw [HV.out] at hcl
      go_wp2_with fail
      go_ret
      exact ⟨rfl, HB.out⟩
end Go.Proofs.YtjffbjlniieciaaDoor
