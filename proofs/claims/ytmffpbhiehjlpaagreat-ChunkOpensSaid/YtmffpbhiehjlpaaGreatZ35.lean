/-
  bytes.Equal, bytes.Clone.
  The chunk package: takeNumbers, spread, encoded.
  A cursor in memory stays where all writing is behind it.
-/
import Derived.Test.YtmffpbhiehjlpaaGreatRows
import Derived.Test.YtmffpbhiehjlpaaGreatZ02
import Derived.Test.YtmffpbhiehjlpaaGreatZ17
import Derived.Test.YtmffpbhiehjlpaaGreatZ18
import Derived.Test.YtmffpbhiehjlpaaGreatZ33
import Derived.Test.YtmffpbhiehjlpaaGreatZ07
import Derived.Test.YtmffpbhiehjlpaaGreatZ03
import Derived.Test.YtmffpbhiehjlpaaGreatZ34
import Derived.Test.YtmffpbhiehjlpaaGreatZ23
import Derived.Test.YtmffpbhiehjlpaaGreatZ15
import Derived.Deep.RegionHeld3
import Derived.Outline
import Derived.BigQuiet
import Derived.Deep.QuietTactic
namespace Go.Proofs.YtmffpbhiehjlpaaGreat
set_option linter.unusedSimpArgs false
set_option linter.unusedVariables false
open Go.RowKit
theorem equal_any {w : World} {lo h' lo2 h2 : Nat} {A B : Option Addr} {c d : Nat} (xs ys : List UInt8) (hx : Rd w lo h' A c (bv xs)) (hy : Rd w lo2 h2 B d (bv ys)) :
    Calls Tryz.prog 114 #[.slice A xs.length c, .slice B ys.length d] w fun r w' => r = .returned (.bool (decide (xs = ys))) ∧ w = w' := by
  have h1 := run_string_rd (P := Tryz.prog) w 28 9 5 Tryz.underlying28 Tryz.underlying5 Tryz.underlying9 lo h' A c xs hx
  have h2 := run_string_rd (P := Tryz.prog) w 28 9 5 Tryz.underlying28 Tryz.underlying5 Tryz.underlying9 lo2 h2 B d ys hy
  clear hx hy
  go_enter Tryz.func114, Tryz.ntmps114
  go_wp2
  go_ret
  refine ⟨ret_bool ?_, rfl⟩
  by_cases h : xs = ys
  · simp [h]
  · simp [h]
theorem bclone_any {w : World} (bs : List UInt8) {lo h' : Nat} {A : Option Addr} {c : Nat} (h : Rd w lo h' A c (bv bs)) (hh : h' ≤ w.heap.size) (hb : bs.length ≤ 1000000000) :
    Calls Tryz.prog 60 #[.slice A bs.length c] w fun r w' => ∃ A' c', r = .returned (.slice A' bs.length c') ∧
      w'.ownsRow w.heap.size 5 1 (.slice A' bs.length c') bs.length (bv bs) ∧ Below w.heap.size w w' := by
  rcases A with _ | ad
  · obtain rfl : bs = [] := by
      rcases Nat.eq_zero_or_pos (bv bs).length with h0 | h0
      · exact List.eq_nil_of_length_eq_zero (by simpa [bv] using h0)
      · obtain ⟨_, _, h, _⟩ := h.at_ h0
        cases h
    clear h
    have hnil := Lib.run_eql_slice_nil (P := Tryz.prog) w 28 5 none 0 c 0 0 Tryz.underlying28
    go_enter Tryz.func60, Tryz.ntmps60
    go_wp2
    go_ret
    exact ⟨_, _, rfl, World.ownsRow_nil .., Below.refl _ _⟩
  · obtain ⟨A1, c1, w1, hrun, hown, hg1⟩ := append_named (w.alloc (.cells #[] 5)) w.heap.size (.slice (some ⟨w.heap.size, 0, none⟩) 0 0) [] bs bs (by simp) (own_lit w [] #[] rfl (by simp)) (h.alloc hh _) (by simp; omega) (by simp)
    have HO := Lib.hid hown
    have HG := Lib.hid hg1
    clear h hown hg1
    have hnil := Lib.run_eql_slice_nil (P := Tryz.prog) w 28 5 (some ad) bs.length c 0 0 Tryz.underlying28
    go_enter Tryz.func60, Tryz.ntmps60
    go_wp2_with (at_builtin; refine wpList_append_run rfl _ _ _ _ rfl rfl rfl hrun ?_)
    go_ret
    exact ⟨_, _, rfl, HO.out, ((Below.refl _ _).alloc (Nat.le_refl _) _).grown HG.out (by simp) (by simp [Value.ownBlock])⟩
end Go.Proofs.YtmffpbhiehjlpaaGreat
namespace Go.Proofs.YtmffpbhiehjlpaaGreat
set_option linter.unusedSimpArgs false
set_option linter.unusedVariables false
open Go.RowKit
theorem orForm_twice (e : Int) : orForm (orForm e) = orForm e := orForm_bad (orForm_ne e)
set_option maxRecDepth 20000 in
set_option maxHeartbeats 4000000 in
theorem takeNumbers_v {w : World} {lo g k : Nat} {bs : List UInt8} {e : Int} (n : Nat) (most : Int) (h : Cur w lo g bs k e) (hb : bs.length ≤ 1000000000000) :
    Calls Tryz.prog 92 #[cp g, .int .i64 (n : Int), .int .i64 most] w fun r w' => ∃ A c, r = .returned (.slice A (numsR bs k e n most).1.length c) ∧ w'.ownsRow w.heap.size 3 1 (.slice A (numsR bs k e n most).1.length c) (numsR bs k e n most).1.length (iv (ints (numsR bs k e n most).1)) ∧
      Cur w' lo g bs (numsR bs k e n most).2.1 (numsR bs k e n most).2.2 ∧ w.grownBy w' (some g) := by
  have hgl := h.lt
  have HR := Lib.hid (pread_any (n : Int) h hb)
  obtain ⟨N, hN⟩ : ∃ N, numsR bs k e n most = N := ⟨_, rfl⟩
  rw [hN]
  unfold numsR at hN
  simp only at hN
  obtain ⟨⟨ns, p, e0⟩, hRR⟩ : ∃ R, readR bs k e (n : Int) = R := ⟨_, rfl⟩
  rw [hRR] at HR hN
  simp only at HR hN
  obtain ⟨e1, he1⟩ : ∃ e1, (if ns.length = n then e0 else orForm e0) = e1 := ⟨_, rfl⟩
  rw [he1] at hN
  have HE1 := Lib.hid he1
  have HN := Lib.hid hN
  clear h hRR he1 hN
  unfold cp at *
  go_enter Tryz.func92, Tryz.ntmps92
  go_wp2_with fail
  refine HR.out.mono ?_
  rintro r w1 ⟨A1, c1, rfl, ho1, hc1, hg1⟩
  have hln := (Rd.of_own ho1).len
  have hcp := (Rd.of_own ho1).cap
  rw [iv_length, ints_length] at hln
  unfold maxLen at hcp
  have HO1 := Lib.hid ho1
  have HC1 := Lib.hid hc1
  have HG1 := Lib.hid hg1
  clear ho1 hc1 hg1 HR
  by_cases hnl : ns.length = n
  · have hq : (ns.length : Int) = (n : Int) := by omega
    have bq : ((ns.length : Int) != (n : Int)) = false := by rw [hq]; simp
    have HC2 : Hid (Cur w1 lo g bs p e1) := by unfold Hid; rw [← HE1.out, if_pos hnl]; exact HC1.out
    have HO2 := Lib.hid HO1.out
    have HG2 := Lib.hid HG1.out
    clear HC1 HO1 HG1 HE1 hnl
    go_wp2_with fail
    go_loopw [21] (fun x wr => ∃ i : Nat, i ≤ ns.length ∧ x = .int .i64 (i : Int) ∧ Cur wr lo g bs p (if ((ns.take i).all fun x => decide ((x : Int) ≤ most)) = true then e1 else orForm e1) ∧ wr.ownsRow w.heap.size 3 1 (.slice A1 ns.length c1) ns.length (iv (ints ns)) ∧ w.grownBy wr (some g)) (fun x _ => ns.length - (intOf x).toNat)
    case atStart => exact ⟨0, Nat.zero_le _, rfl, by simpa using HC2.out, HO2.out, HG2.out⟩
    case round =>
      clear HC2 HO2 HG2
      obtain ⟨i, hi, rfl, hc, ho, hg⟩ := hrel
      have HO := Lib.hid ho
      have HG := Lib.hid hg
      have hwl := hg.size
      by_cases hlt : i < ns.length
      · have ik : (i : Int) < (ns.length : Int) := by omega
        obtain ⟨b, off, rfl, _, _, hcell⟩ := (Rd.of_own ho).num (k := i) (by rw [ints_length]; exact hlt)
        have hxi : (ints ns)[i]'(by rw [ints_length]; exact hlt) = (ns[i] : Int) := by simp [ints]
        rw [hxi] at hcell
        have htk := List.take_succ_eq_append_getElem hlt
        clear ho hg hxi
        by_cases hm : (ns[i] : Int) ≤ most
        · have im : ¬ most < (ns[i] : Int) := by omega
          have HC3 : Hid (Cur wr lo g bs p (if ((ns.take (i + 1)).all fun x => decide ((x : Int) ≤ most)) = true then e1 else orForm e1)) := by
            unfold Hid
            rw [htk, List.all_append, List.all_cons, List.all_nil, decide_eq_true hm, Bool.and_self, Bool.and_true]
            exact hc
          clear hc htk
          generalize ns[i] = x at *
          go_wp2_with fail
          go_roundw
          case rel => exact ⟨i + 1, by omega, by go_num, HC3.out, HO.out, HG.out⟩
          case measure => simp [intOf] <;> omega
        · have im : most < (ns[i] : Int) := by omega
          have HF := Lib.hid (fail_any 3 hc)
          have HE3 : Hid ((if (if ((ns.take i).all fun x => decide ((x : Int) ≤ most)) = true then e1 else orForm e1) = 0 then (3 : Int) else (if ((ns.take i).all fun x => decide ((x : Int) ≤ most)) = true then e1 else orForm e1)) = (if ((ns.take (i + 1)).all fun x => decide ((x : Int) ≤ most)) = true then e1 else orForm e1)) := by
            unfold Hid
            rw [htk, List.all_append, List.all_cons, List.all_nil, decide_eq_false hm, Bool.false_and, Bool.and_false]
            rw [if_neg (show ¬ (false = true) by decide)]
            split
            · rfl
            · exact orForm_twice e1
          rw [HE3.out] at HF
          clear hc htk HE3
          generalize ns[i] = x at *
          unfold cp at HF
          go_wp2_with fail
          refine HF.out.mono ?_
          rintro r w4 ⟨rfl, hc4, hg4⟩
          have HC4 := Lib.hid hc4
          have HG4 := Lib.hid (HG.out.trans hg4)
          have HO4 := Lib.hid (own_gb HO.out hg4 hgl)
          clear hc4 hg4 HF HO HG
          go_wp2_with fail
          go_roundw
          case rel => exact ⟨i + 1, by omega, by go_num, HC4.out, HO4.out, HG4.out⟩
          case measure => simp [intOf] <;> omega
      · have ik : ¬ (i : Int) < (ns.length : Int) := by omega
        have hti : ns.take i = ns := List.take_of_length_le (by omega)
        rw [hti] at hc
        obtain ⟨e2, he2⟩ : ∃ e2, (if (ns.all fun x => decide ((x : Int) ≤ most)) = true then e1 else orForm e1) = e2 := ⟨_, rfl⟩
        have hn := HN.out
        rw [he2] at hc hn
        have HC := Lib.hid hc
        have HGD := Lib.hid (good_any hc)
        unfold cp at HGD
        clear hc ho hg he2 HN
        by_cases h0 : e2 = 0
        · subst h0
          rw [if_pos rfl] at hn
          subst hn
          have b0 : ((0 : Int) == 0) = true := rfl
          rw [b0] at HGD
          go_wp2_with fail
          refine HGD.out.mono ?_
          rintro r w' ⟨rfl, rfl⟩
          go_wp2_with fail
          go_ret
          exact ⟨_, _, rfl, HO.out, HC.out, HG.out⟩
        · rw [if_neg h0] at hn
          subst hn
          have b0 : (e2 == 0) = false := by rw [beq_eq_false_iff_ne]; exact h0
          rw [b0] at HGD
          go_wp2_with fail
          refine HGD.out.mono ?_
          rintro r w' ⟨rfl, rfl⟩
          go_wp2_with fail
          go_ret
          exact ⟨none, 0, rfl, ⟨rfl, .inl ⟨rfl, rfl⟩⟩, HC.out, HG.out⟩
  · have hq : ¬ (ns.length : Int) = (n : Int) := by omega
    have bq : ((ns.length : Int) != (n : Int)) = true := by simpa using hq
    have HF := Lib.hid (fail_any 3 HC1.out)
    have HE2 : Hid ((if e0 = 0 then (3 : Int) else e0) = e1) := by unfold Hid; rw [← HE1.out, if_neg hnl]; rfl
    rw [HE2.out] at HF
    unfold cp at HF
    clear HE1 HE2 hnl
    go_wp2_with fail
    refine HF.out.mono ?_
    rintro r w2 ⟨rfl, hc2, hg2⟩
    have HC2 := Lib.hid hc2
    have HO2 := Lib.hid (own_gb HO1.out hg2 hgl)
    have HG2 := Lib.hid (HG1.out.trans hg2)
    clear hc2 hg2 HC1 HO1 HG1 HF
    go_wp2_with fail
    go_loopw [21] (fun x wr => ∃ i : Nat, i ≤ ns.length ∧ x = .int .i64 (i : Int) ∧ Cur wr lo g bs p (if ((ns.take i).all fun x => decide ((x : Int) ≤ most)) = true then e1 else orForm e1) ∧ wr.ownsRow w.heap.size 3 1 (.slice A1 ns.length c1) ns.length (iv (ints ns)) ∧ w.grownBy wr (some g)) (fun x _ => ns.length - (intOf x).toNat)
    case atStart => exact ⟨0, Nat.zero_le _, rfl, by simpa using HC2.out, HO2.out, HG2.out⟩
    case round =>
      clear HC2 HO2 HG2
      obtain ⟨i, hi, rfl, hc, ho, hg⟩ := hrel
      have HO := Lib.hid ho
      have HG := Lib.hid hg
      have hwl := hg.size
      by_cases hlt : i < ns.length
      · have ik : (i : Int) < (ns.length : Int) := by omega
        obtain ⟨b, off, rfl, _, _, hcell⟩ := (Rd.of_own ho).num (k := i) (by rw [ints_length]; exact hlt)
        have hxi : (ints ns)[i]'(by rw [ints_length]; exact hlt) = (ns[i] : Int) := by simp [ints]
        rw [hxi] at hcell
        have htk := List.take_succ_eq_append_getElem hlt
        clear ho hg hxi
        by_cases hm : (ns[i] : Int) ≤ most
        · have im : ¬ most < (ns[i] : Int) := by omega
          have HC3 : Hid (Cur wr lo g bs p (if ((ns.take (i + 1)).all fun x => decide ((x : Int) ≤ most)) = true then e1 else orForm e1)) := by
            unfold Hid
            rw [htk, List.all_append, List.all_cons, List.all_nil, decide_eq_true hm, Bool.and_self, Bool.and_true]
            exact hc
          clear hc htk
          generalize ns[i] = x at *
          go_wp2_with fail
          go_roundw
          case rel => exact ⟨i + 1, by omega, by go_num, HC3.out, HO.out, HG.out⟩
          case measure => simp [intOf] <;> omega
        · have im : most < (ns[i] : Int) := by omega
          have HF := Lib.hid (fail_any 3 hc)
          have HE3 : Hid ((if (if ((ns.take i).all fun x => decide ((x : Int) ≤ most)) = true then e1 else orForm e1) = 0 then (3 : Int) else (if ((ns.take i).all fun x => decide ((x : Int) ≤ most)) = true then e1 else orForm e1)) = (if ((ns.take (i + 1)).all fun x => decide ((x : Int) ≤ most)) = true then e1 else orForm e1)) := by
            unfold Hid
            rw [htk, List.all_append, List.all_cons, List.all_nil, decide_eq_false hm, Bool.false_and, Bool.and_false]
            rw [if_neg (show ¬ (false = true) by decide)]
            split
            · rfl
            · exact orForm_twice e1
          rw [HE3.out] at HF
          clear hc htk HE3
          generalize ns[i] = x at *
          unfold cp at HF
          go_wp2_with fail
          refine HF.out.mono ?_
          rintro r w4 ⟨rfl, hc4, hg4⟩
          have HC4 := Lib.hid hc4
          have HG4 := Lib.hid (HG.out.trans hg4)
          have HO4 := Lib.hid (own_gb HO.out hg4 hgl)
          clear hc4 hg4 HF HO HG
          go_wp2_with fail
          go_roundw
          case rel => exact ⟨i + 1, by omega, by go_num, HC4.out, HO4.out, HG4.out⟩
          case measure => simp [intOf] <;> omega
      · have ik : ¬ (i : Int) < (ns.length : Int) := by omega
        have hti : ns.take i = ns := List.take_of_length_le (by omega)
        rw [hti] at hc
        obtain ⟨e2, he2⟩ : ∃ e2, (if (ns.all fun x => decide ((x : Int) ≤ most)) = true then e1 else orForm e1) = e2 := ⟨_, rfl⟩
        have hn := HN.out
        rw [he2] at hc hn
        have HC := Lib.hid hc
        have HGD := Lib.hid (good_any hc)
        unfold cp at HGD
        clear hc ho hg he2 HN
        by_cases h0 : e2 = 0
        · subst h0
          rw [if_pos rfl] at hn
          subst hn
          have b0 : ((0 : Int) == 0) = true := rfl
          rw [b0] at HGD
          go_wp2_with fail
          refine HGD.out.mono ?_
          rintro r w' ⟨rfl, rfl⟩
          go_wp2_with fail
          go_ret
          exact ⟨_, _, rfl, HO.out, HC.out, HG.out⟩
        · rw [if_neg h0] at hn
          subst hn
          have b0 : (e2 == 0) = false := by rw [beq_eq_false_iff_ne]; exact h0
          rw [b0] at HGD
          go_wp2_with fail
          refine HGD.out.mono ?_
          rintro r w' ⟨rfl, rfl⟩
          go_wp2_with fail
          go_ret
          exact ⟨none, 0, rfl, ⟨rfl, .inl ⟨rfl, rfl⟩⟩, HC.out, HG.out⟩
theorem bcount_v {w : World} (l : List Bool) {lo h' : Nat} {A : Option Addr} {c : Nat} (h : Rd w lo h' A c (lv l)) :
    Calls Tryz.prog 93 #[.slice A l.length c] w fun r w' => r = .returned (.int .i64 (cnt l : Int)) ∧ w = w' := count_any l h
theorem fill_same {ys xs : List Value} {k : Nat} (h : Fill ys k xs) (j : Nat) (hj : k ≤ j) (u : Value) : Fill ys k (xs.set j u) := by
  refine ⟨by rw [List.length_set]; exact h.1, fun i hi => ?_⟩
  rw [List.getElem?_set_ne (by omega)]
  exact h.2 i hi
set_option maxRecDepth 20000 in
set_option maxHeartbeats 4000000 in
theorem spreadB_no {w : World} (there : List Bool) {n m lo hi c d : Nat} {A B : Option Addr} (h : Rd w lo hi A c (lv there)) (hn : there.length = n) (hm : m ≠ cnt there) {v : Value} :
    Calls Tryz.prog 95 #[.slice A n c, .slice B m d, v] w fun r w' => r = .returned (.slice none 0 0) ∧ w = w' := by
  subst hn
  have HC := Lib.hid (bcount_v (w := w) there h)
  have hq : ¬ (m : Int) = (cnt there : Int) := by omega
  have bq : ((m : Int) != (cnt there : Int)) = true := by simpa using hq
  clear h
  go_enter Tryz.func95, Tryz.ntmps95
  go_wp2_with fail
  refine HC.out.mono ?_
  rintro r w' ⟨rfl, rfl⟩
  go_wp2_with fail
  go_ret
  exact ⟨rfl, rfl⟩
set_option maxRecDepth 20000 in
set_option maxHeartbeats 4000000 in
theorem spreadB_yes {w : World} (there : List Bool) (xs : List Value) {n m c d : Nat} {A B : Option Addr} (h : Rd w 0 w.heap.size A c (lv there)) (hx : Rd w 0 w.heap.size B d xs) (hn : there.length = n) (hm : xs.length = m) (hmc : m = cnt there) (hk : n ≤ 1000000) (h1 : ∀ v ∈ xs, ∃ pA pn pc, v = .slice pA pn pc) :
    Calls Tryz.prog 95 #[.slice A n c, .slice B m d, Value.slice none 0 0] w fun r w' => ∃ A' c', r = .returned (.slice A' n c') ∧ w'.ownsRow w.heap.size 28 1 (.slice A' n c') n (spreadL there xs (Value.slice none 0 0)) ∧ Below w.heap.size w w' := by
  subst hn
  have HC := Lib.hid (bcount_v (w := w) there h)
  have bq : ((m : Int) != (cnt there : Int)) = false := by rw [hmc]; simp
  have HMC := Lib.hid hmc
  have hcn := cnt_le there
  obtain ⟨w1, hmake, ho1, hg1⟩ := make_parts w there.length (by omega)
  have HO1 := Lib.hid ho1
  have HB1 := Lib.hid (below_of_gb (Nat.le_refl _) hg1 (fun g hg => by cases hg))
  obtain ⟨T, hT⟩ : ∃ T, spreadL there xs (Value.slice none 0 0) = T := ⟨_, rfl⟩
  have HTL : Hid (T.length = there.length) := by unfold Hid; rw [← hT, spread_length]
  have HT0 : Hid (∀ k, there[k]? = some false → T[k]? = some (Value.slice none 0 0)) := fun k hk => by rw [← hT]; exact spread_not _ _ _ hk
  have HT1 : Hid (∀ k, there[k]? = some true → cnt (there.take k) < xs.length ∧ T[k]? = xs[cnt (there.take k)]?) := fun k hk => by
    obtain ⟨j, e1, e2, e3⟩ := spread_is there xs (Value.slice none 0 0) hk (by omega)
    rw [← hT, e1]
    exact ⟨e2, e3⟩
  rw [hT]
  have H := Lib.hid h
  have HX := Lib.hid hx
  have H1 := Lib.hid h1
  have hl := h.len
  have hcp := h.cap
  rw [lv_length] at hl
  unfold maxLen at hcp
  clear h hx ho1 hg1 hT h1 hmc
  go_enter Tryz.func95, Tryz.ntmps95
  go_wp2_with fail
  refine HC.out.mono ?_
  rintro r w' ⟨rfl, rfl⟩
  go_wp2_with fail
  clear hmake HC bq
  go_loopw [1, 20] (fun y x wr => ∃ (k j : Nat) (zs : List Value) (B' : Option Addr) (d' : Nat), k ≤ there.length ∧ x = .int .i64 (k : Int) ∧ j = cnt (there.take k) ∧ j ≤ m ∧ y = .slice B' (m - j) d' ∧ Rd wr 0 w.heap.size B' d' (xs.drop j) ∧
    wr.ownsRow w.heap.size 28 1 (.slice (some ⟨w.heap.size, 0, none⟩) there.length there.length) there.length zs ∧ Fill T k zs ∧ Below w.heap.size w wr) (fun _ x _ => there.length - (intOf x).toNat)
  case atStart => exact ⟨0, 0, _, B, d, Nat.zero_le _, rfl, by simp [cnt], Nat.zero_le _, rfl, by rw [List.drop_zero]; exact HX.out.below HB1.out (Nat.le_refl _), HO1.out, fill_zero (by rw [HTL.out]; simp), HB1.out⟩
  case round =>
    clear HO1 HB1 HX
    obtain ⟨k, j, zs, B', d', hkk, rfl, hj, hjm, rfl, hrx, ho, hf, hb⟩ := hrel
    have HRX := Lib.hid hrx
    have HO := Lib.hid ho
    have HF := Lib.hid hf
    have HB := Lib.hid hb
    have HJ := Lib.hid hj
    have hsz := hb.size
    clear hrx ho hf hb hj
    by_cases hlt : k < there.length
    · have ik : (k : Int) < (there.length : Int) := by omega
      obtain ⟨b, off, rfl, _, hbl, hcell⟩ := (H.out.below HB.out (Nat.le_refl _)).row hlt
      have hct := cnt_take there k hlt
      have htk : there[k]? = some there[k] := List.getElem?_eq_getElem hlt
      have HT0k := Lib.hid (fun h : there[k] = false => HT0.out k (by rw [htk, h]))
      have HT1k := Lib.hid (fun h : there[k] = true => HT1.out k (by rw [htk, h]))
      have hfr := HO.out.frozenAt k
      have hzk : k < zs.length := by rw [HF.out.1, HTL.out]; exact hlt
      have hzc : wr.cell? ⟨w.heap.size, k, none⟩ = some zs[k] := by
        rw [HO.out.cellAt k (by omega), List.getElem?_eq_getElem hzk]
      have HST := Lib.hid (World.ownsRow.stored HO.out k (Value.slice none 0 0))
      have HBS := Lib.hid (HB.out.setCell (p := ⟨w.heap.size, k, none⟩) (Nat.le_refl _) (Value.slice none 0 0))
      have HRXS := Lib.hid (HRX.out.setCell (p := ⟨w.heap.size, k, none⟩) (.inr (Nat.le_refl _)) (Value.slice none 0 0))
      clear htk
      generalize there[k] = q at *
      generalize zs[k] = z0 at *
      cases q with
      | false =>
        have HUS := Lib.hid (fill_succ HF.out (Value.slice none 0 0) (HT0k.out rfl))
        go_wp2_with fail
        go_roundw
        case rel => exact ⟨k + 1, j, _, B', d', by omega, by go_num, by rw [hct, ← HJ.out]; rfl, hjm, rfl, HRXS.out, HST.out.1, HUS.out, HBS.out⟩
        case measure => simp [intOf]; omega
      | true =>
        obtain ⟨hjx, hTk⟩ := HT1k.out rfl
        rw [← HJ.out] at hjx hTk
        obtain ⟨bx, ox, rfl, _, hbx, hcx⟩ := HRX.out.get (k := 0) (by rw [List.length_drop]; omega)
        rw [List.getElem_drop, Nat.add_zero] at hcx
        simp only [Nat.add_zero] at hcx
        rw [List.getElem?_eq_getElem hjx] at hTk
        obtain ⟨pA, pn, pc, he⟩ := H1.out xs[j] (List.getElem_mem hjx)
        obtain ⟨w4, hw4⟩ : ∃ w4, wr.setCell ⟨w.heap.size, k, none⟩ (Value.slice none 0 0) = w4 := ⟨_, rfl⟩
        rw [hw4] at HST HBS HRXS
        have hdl := HRXS.out.len
        have hdc := HRXS.out.cap
        rw [List.length_drop] at hdl
        unfold maxLen at hdc
        have HCUT : Hid (Rd w4 0 w.heap.size (if d' = 1 then some ⟨bx, ox, none⟩ else some ⟨bx, ox + 1, none⟩) (d' - 1) (xs.drop (j + 1))) := by
          have := HRXS.out.cut (k := 1) (n := m - j) (by omega) (by rw [List.length_drop]; omega)
          rw [List.drop_drop, List.take_of_length_le (by rw [List.length_drop]; omega)] at this
          exact this
        have hcx4 : w4.cell? ⟨bx, ox, none⟩ = some xs[j] := by
          rw [← hw4, World.cell?_setCell_other _ _ _ _ (by intro e; injection e with e1; omega)]
          exact hcx
        have hfr4 := HST.out.1.frozenAt k
        have hz4 : w4.cell? ⟨w.heap.size, k, none⟩ = some (Value.slice none 0 0) := by
          rw [HST.out.1.cellAt k (by omega), List.getElem?_set_self hzk]
        have HST4 := Lib.hid (World.ownsRow.stored HST.out.1 k xs[j])
        have HBS4 := Lib.hid (HBS.out.setCell (p := ⟨w.heap.size, k, none⟩) (Nat.le_refl _) xs[j])
        have HRX4 := Lib.hid (HCUT.out.setCell (p := ⟨w.heap.size, k, none⟩) (.inr (Nat.le_refl _)) xs[j])
        have HUS := Lib.hid (fill_succ (fill_same HF.out k (Nat.le_refl _) (Value.slice none 0 0)) xs[j] hTk)
        have HMJ : Hid (m - j - 1 = m - (j + 1)) := by unfold Hid; omega
        rw [he] at hcx4 HST4 HBS4 HRX4 HUS
        clear HST HBS HRXS HCUT hcx hTk he HRX HO HF HB
        go_wp2_with fail
        go_region
        go_wp2_with fail
        go_roundw
        case rel => exact ⟨k + 1, j + 1, _, _, d' - 1, by omega, by go_num, by rw [hct, ← HJ.out]; rfl, by omega, by rw [← HMJ.out], HRX4.out.drew, own_keep HST4.out.1 fun _ _ => rfl, HUS.out, HBS4.out.drew⟩
        case measure => simp [intOf]; omega
    · have ik : ¬ (k : Int) < (there.length : Int) := by omega
      have hx : zs = T := fill_all HF.out (by rw [HTL.out]; omega)
      subst hx
      go_wp2_with fail
      go_ret
      exact ⟨_, _, rfl, HO.out, HB.out⟩
set_option maxRecDepth 20000 in
set_option maxHeartbeats 4000000 in
theorem spreadI_no {w : World} (there : List Bool) {n m lo hi c d : Nat} {A B : Option Addr} (h : Rd w lo hi A c (lv there)) (hn : there.length = n) (hm : m ≠ cnt there) {v : Value} :
    Calls Tryz.prog 101 #[.slice A n c, .slice B m d, v] w fun r w' => r = .returned (.slice none 0 0) ∧ w = w' := by
  subst hn
  have HC := Lib.hid (bcount_v (w := w) there h)
  have hq : ¬ (m : Int) = (cnt there : Int) := by omega
  have bq : ((m : Int) != (cnt there : Int)) = true := by simpa using hq
  clear h
  go_enter Tryz.func101, Tryz.ntmps101
  go_wp2_with fail
  refine HC.out.mono ?_
  rintro r w' ⟨rfl, rfl⟩
  go_wp2_with fail
  go_ret
  exact ⟨rfl, rfl⟩
set_option maxRecDepth 20000 in
set_option maxHeartbeats 4000000 in
theorem spreadI_yes {w : World} (there : List Bool) (xs : List Value) {n m c d : Nat} {A B : Option Addr} (h : Rd w 0 w.heap.size A c (lv there)) (hx : Rd w 0 w.heap.size B d xs) (hn : there.length = n) (hm : xs.length = m) (hmc : m = cnt there) (hk : n ≤ 1000000) (h1 : ∀ v ∈ xs, ∃ pz : Int, v = .int .i64 pz) :
    Calls Tryz.prog 101 #[.slice A n c, .slice B m d, Value.int .i64 (-1)] w fun r w' => ∃ A' c', r = .returned (.slice A' n c') ∧ w'.ownsRow w.heap.size 3 1 (.slice A' n c') n (spreadL there xs (Value.int .i64 (-1))) ∧ Below w.heap.size w w' := by
  subst hn
  have HC := Lib.hid (bcount_v (w := w) there h)
  have bq : ((m : Int) != (cnt there : Int)) = false := by rw [hmc]; simp
  have HMC := Lib.hid hmc
  have hcn := cnt_le there
  obtain ⟨w1, hmake, ho1, hg1⟩ := make_nums w there.length (by omega)
  have HO1 := Lib.hid ho1
  have HB1 := Lib.hid (below_of_gb (Nat.le_refl _) hg1 (fun g hg => by cases hg))
  obtain ⟨T, hT⟩ : ∃ T, spreadL there xs (Value.int .i64 (-1)) = T := ⟨_, rfl⟩
  have HTL : Hid (T.length = there.length) := by unfold Hid; rw [← hT, spread_length]
  have HT0 : Hid (∀ k, there[k]? = some false → T[k]? = some (Value.int .i64 (-1))) := fun k hk => by rw [← hT]; exact spread_not _ _ _ hk
  have HT1 : Hid (∀ k, there[k]? = some true → cnt (there.take k) < xs.length ∧ T[k]? = xs[cnt (there.take k)]?) := fun k hk => by
    obtain ⟨j, e1, e2, e3⟩ := spread_is there xs (Value.int .i64 (-1)) hk (by omega)
    rw [← hT, e1]
    exact ⟨e2, e3⟩
  rw [hT]
  have H := Lib.hid h
  have HX := Lib.hid hx
  have H1 := Lib.hid h1
  have hl := h.len
  have hcp := h.cap
  rw [lv_length] at hl
  unfold maxLen at hcp
  clear h hx ho1 hg1 hT h1 hmc
  go_enter Tryz.func101, Tryz.ntmps101
  go_wp2_with fail
  refine HC.out.mono ?_
  rintro r w' ⟨rfl, rfl⟩
  go_wp2_with fail
  clear hmake HC bq
  go_loopw [1, 20] (fun y x wr => ∃ (k j : Nat) (zs : List Value) (B' : Option Addr) (d' : Nat), k ≤ there.length ∧ x = .int .i64 (k : Int) ∧ j = cnt (there.take k) ∧ j ≤ m ∧ y = .slice B' (m - j) d' ∧ Rd wr 0 w.heap.size B' d' (xs.drop j) ∧
    wr.ownsRow w.heap.size 3 1 (.slice (some ⟨w.heap.size, 0, none⟩) there.length there.length) there.length zs ∧ Fill T k zs ∧ Below w.heap.size w wr) (fun _ x _ => there.length - (intOf x).toNat)
  case atStart => exact ⟨0, 0, _, B, d, Nat.zero_le _, rfl, by simp [cnt], Nat.zero_le _, rfl, by rw [List.drop_zero]; exact HX.out.below HB1.out (Nat.le_refl _), HO1.out, fill_zero (by rw [HTL.out]; simp), HB1.out⟩
  case round =>
    clear HO1 HB1 HX
    obtain ⟨k, j, zs, B', d', hkk, rfl, hj, hjm, rfl, hrx, ho, hf, hb⟩ := hrel
    have HRX := Lib.hid hrx
    have HO := Lib.hid ho
    have HF := Lib.hid hf
    have HB := Lib.hid hb
    have HJ := Lib.hid hj
    have hsz := hb.size
    clear hrx ho hf hb hj
    by_cases hlt : k < there.length
    · have ik : (k : Int) < (there.length : Int) := by omega
      obtain ⟨b, off, rfl, _, hbl, hcell⟩ := (H.out.below HB.out (Nat.le_refl _)).row hlt
      have hct := cnt_take there k hlt
      have htk : there[k]? = some there[k] := List.getElem?_eq_getElem hlt
      have HT0k := Lib.hid (fun h : there[k] = false => HT0.out k (by rw [htk, h]))
      have HT1k := Lib.hid (fun h : there[k] = true => HT1.out k (by rw [htk, h]))
      have hfr := HO.out.frozenAt k
      have hzk : k < zs.length := by rw [HF.out.1, HTL.out]; exact hlt
      have hzc : wr.cell? ⟨w.heap.size, k, none⟩ = some zs[k] := by
        rw [HO.out.cellAt k (by omega), List.getElem?_eq_getElem hzk]
      have HST := Lib.hid (World.ownsRow.stored HO.out k (Value.int .i64 (-1)))
      have HBS := Lib.hid (HB.out.setCell (p := ⟨w.heap.size, k, none⟩) (Nat.le_refl _) (Value.int .i64 (-1)))
      have HRXS := Lib.hid (HRX.out.setCell (p := ⟨w.heap.size, k, none⟩) (.inr (Nat.le_refl _)) (Value.int .i64 (-1)))
      clear htk
      generalize there[k] = q at *
      generalize zs[k] = z0 at *
      cases q with
      | false =>
        have HUS := Lib.hid (fill_succ HF.out (Value.int .i64 (-1)) (HT0k.out rfl))
        go_wp2_with fail
        go_roundw
        case rel => exact ⟨k + 1, j, _, B', d', by omega, by go_num, by rw [hct, ← HJ.out]; rfl, hjm, rfl, HRXS.out, HST.out.1, HUS.out, HBS.out⟩
        case measure => simp [intOf]; omega
      | true =>
        obtain ⟨hjx, hTk⟩ := HT1k.out rfl
        rw [← HJ.out] at hjx hTk
        obtain ⟨bx, ox, rfl, _, hbx, hcx⟩ := HRX.out.get (k := 0) (by rw [List.length_drop]; omega)
        rw [List.getElem_drop, Nat.add_zero] at hcx
        simp only [Nat.add_zero] at hcx
        rw [List.getElem?_eq_getElem hjx] at hTk
        obtain ⟨pz, he⟩ := H1.out xs[j] (List.getElem_mem hjx)
        obtain ⟨w4, hw4⟩ : ∃ w4, wr.setCell ⟨w.heap.size, k, none⟩ (Value.int .i64 (-1)) = w4 := ⟨_, rfl⟩
        rw [hw4] at HST HBS HRXS
        have hdl := HRXS.out.len
        have hdc := HRXS.out.cap
        rw [List.length_drop] at hdl
        unfold maxLen at hdc
        have HCUT : Hid (Rd w4 0 w.heap.size (if d' = 1 then some ⟨bx, ox, none⟩ else some ⟨bx, ox + 1, none⟩) (d' - 1) (xs.drop (j + 1))) := by
          have := HRXS.out.cut (k := 1) (n := m - j) (by omega) (by rw [List.length_drop]; omega)
          rw [List.drop_drop, List.take_of_length_le (by rw [List.length_drop]; omega)] at this
          exact this
        have hcx4 : w4.cell? ⟨bx, ox, none⟩ = some xs[j] := by
          rw [← hw4, World.cell?_setCell_other _ _ _ _ (by intro e; injection e with e1; omega)]
          exact hcx
        have hfr4 := HST.out.1.frozenAt k
        have hz4 : w4.cell? ⟨w.heap.size, k, none⟩ = some (Value.int .i64 (-1)) := by
          rw [HST.out.1.cellAt k (by omega), List.getElem?_set_self hzk]
        have HST4 := Lib.hid (World.ownsRow.stored HST.out.1 k xs[j])
        have HBS4 := Lib.hid (HBS.out.setCell (p := ⟨w.heap.size, k, none⟩) (Nat.le_refl _) xs[j])
        have HRX4 := Lib.hid (HCUT.out.setCell (p := ⟨w.heap.size, k, none⟩) (.inr (Nat.le_refl _)) xs[j])
        have HUS := Lib.hid (fill_succ (fill_same HF.out k (Nat.le_refl _) (Value.int .i64 (-1))) xs[j] hTk)
        have HMJ : Hid (m - j - 1 = m - (j + 1)) := by unfold Hid; omega
        rw [he] at hcx4 HST4 HBS4 HRX4 HUS
        clear HST HBS HRXS HCUT hcx hTk he HRX HO HF HB
        go_wp2_with fail
        go_region
        go_wp2_with fail
        go_roundw
        case rel => exact ⟨k + 1, j + 1, _, _, d' - 1, by omega, by go_num, by rw [hct, ← HJ.out]; rfl, by omega, by rw [← HMJ.out], HRX4.out.drew, own_keep HST4.out.1 fun _ _ => rfl, HUS.out, HBS4.out.drew⟩
        case measure => simp [intOf]; omega
    · have ik : ¬ (k : Int) < (there.length : Int) := by omega
      have hx : zs = T := fill_all HF.out (by rw [HTL.out]; omega)
      subst hx
      go_wp2_with fail
      go_ret
      exact ⟨_, _, rfl, HO.out, HB.out⟩
end Go.Proofs.YtmffpbhiehjlpaaGreat
namespace Go.Proofs.YtmffpbhiehjlpaaGreat
open Go.RowKit
theorem Cur.behind {w w' : World} {lo g k B : Nat} {bs : List UInt8} {e : Int} (h : Cur w lo g bs k e) (hb : Below B w w') (hg : g < B) : Cur w' lo g bs k e := by
  obtain ⟨A, c, hbk, hrd, hk, hl⟩ := h
  exact ⟨A, c, hbk.below hb hg, hrd.below hb (by omega), hk, hl⟩
end Go.Proofs.YtmffpbhiehjlpaaGreat
