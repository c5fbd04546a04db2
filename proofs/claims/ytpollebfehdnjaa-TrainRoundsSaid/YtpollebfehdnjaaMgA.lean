/-
  A bag of strings, counted in a map, in plain.
  The program's train: how a string's pieces are counted in a map.
-/
import Derived.Test.YtpollebfehdnjaaTrN
import Derived.Maps.Range
import Derived.Test.YtpollebfehdnjaaMgF
import Derived.Test.YtpollebfehdnjaaOutM
import Derived.Maps.OwnOps
namespace Go.Proofs.Ytpollebfehdnjaa
set_option linter.unusedSimpArgs false
set_option linter.unusedVariables false
open Go.Maps

def zi (c : Int) : DataW Unit := .lit (.int .i64 c)
/-- the map has just the strings of the bag, each with how often it stands there -/
structure Bag (D : DataW Unit) (P : List (List UInt8)) : Prop where
  map : IsMap D
  at_ : ∀ x, D.atKey (.string x) (zi 0) = zi (P.count x : Nat)
  has : ∀ x, Maps.has D (.string x) = decide (x ∈ P)
theorem Bag.nil : Bag (.map []) [] := ⟨isMap_empty, fun _ => rfl, fun _ => rfl⟩
theorem Bag.count {D : DataW Unit} {P : List (List UInt8)} (h : Bag D P) {x : List UInt8} {c : Int} (hc : D.atKey (.string x) (.lit (.int .i64 0)) = .lit (.int .i64 c)) : c = (P.count x : Nat) := by
  have := (h.at_ x).symm.trans hc
  simp only [zi] at this
  injection this with this
  injection this with _ this
  exact this.symm
theorem Bag.put {D : DataW Unit} {P : List (List UInt8)} (h : Bag D P) (x : List UInt8) : Bag (D.put (.string x) (.lit (.int .i64 ((P.count x : Nat) + 1)))) (P ++ [x]) := by
  have hne : ∀ y, y ≠ x → (Lit.string y) ≠ Lit.string x := fun y hy e => hy (by injection e)
  refine ⟨h.map.put _ _, fun y => ?_, fun y => ?_⟩
  · by_cases hy : y = x
    · subst hy
      rw [atKey_put_same h.map (show WideAt.IsKeyLit (Lit.string y) from trivial)]
      unfold zi
      congr 2
      simp
    · rw [atKey_put_other (hne y hy), h.at_ y]
      unfold zi
      congr 2
      rw [List.count_append, List.count_singleton]
      have : (x == y) = false := beq_eq_false_iff_ne.2 (fun e => hy e.symm)
      rw [this]
      simp
  · by_cases hy : y = x
    · subst hy
      rw [has_put_same h.map (show WideAt.IsKeyLit (Lit.string y) from trivial)]
      simp
    · rw [has_put_other (hne y hy), h.has y]
      simp [hy]
/-- the pieces of a string behind one that ends at a, the last of which began at l0 -/
theorem pieces_step (T : List (List UInt8)) (l : List UInt8) {a l0 e : Nat} (ha : a < l.length) (h0 : l0 ≤ a) (hlt : 0 < a → l0 < a) (he : stepP T (l.drop a) = e) :
    piecesL T ((l.take a).drop l0) (l.drop a) = (l.take (a + e)).drop a :: ((if 0 < a ∧ a + e - l0 ≤ 8 then [(l.take (a + e)).drop l0] else []) ++ piecesL T ((l.take (a + e)).drop a) (l.drop (a + e))) := by
  have hne : l.drop a ≠ [] := fun h => by
    have := congrArg List.length h
    simp at this
    omega
  have hp : (l.drop a).take e = (l.take (a + e)).drop a := by rw [List.drop_take, show a + e - a = e by omega]
  have hle := stepP_le (T := T) hne
  rw [he, List.length_drop] at hle
  rw [pieces_cons T _ hne, he, hp, List.drop_drop]
  have hlast : (l.take a).drop l0 ++ (l.take (a + e)).drop a = (l.take (a + e)).drop l0 := by
    have h1 : l.take (a + e) = l.take a ++ (l.take (a + e)).drop a := by
      conv => lhs; rw [← List.take_append_drop a (l.take (a + e))]
      rw [List.take_take, Nat.min_eq_left (by omega)]
    conv => rhs; rw [h1]
    rw [List.drop_append_of_le_length (by rw [List.length_take]; omega)]
  have hln : ((l.take a).drop l0).length = a - l0 := by rw [List.length_drop, List.length_take]; omega
  have hiff : ((l.take a).drop l0 ≠ [] ∧ ((l.take a).drop l0).length + e ≤ 8) ↔ (0 < a ∧ a + e - l0 ≤ 8) := by
    rw [hln]
    constructor
    · rintro ⟨h1, h2⟩
      have : 0 < a - l0 := by
        rw [← hln]
        exact List.length_pos_iff.2 h1
      omega
    · rintro ⟨h1, h2⟩
      have := hlt h1
      exact ⟨fun hx => by rw [hx] at hln; simp at hln; omega, by omega⟩
  rw [hlast]
  simp only [hiff]
theorem stepP_zero {T : List (List UInt8)} {l : List UInt8} (h : (longP T l).2 = 0) : stepP T l = 1 := by rw [stepP, if_pos h]
theorem stepP_some {T : List (List UInt8)} {l : List UInt8} (h : (longP T l).2 ≠ 0) : stepP T l = (longP T l).2 := by rw [stepP, if_neg h]
end Go.Proofs.Ytpollebfehdnjaa
namespace Go.Proofs.Ytpollebfehdnjaa
set_option linter.unusedSimpArgs false
set_option linter.unusedVariables false
open Go.RowKit Go.Maps Go.WideMaps

theorem Try.keyStr : Keyed Try.prog 9 := string_keyed Try.underlying9
/-- a block is a map of strings to numbers, of at most n entries, that reads as D -/
def MapB (w : World) (B n : Nat) (D : DataW Unit) : Prop := w.ownsMap Try.prog 9 (plainElem Try.prog 3) B n D
theorem MapB.out {w w' : World} {B n : Nat} {D : DataW Unit} {X : Nat → Prop} (h : MapB w B n D) (ho : Out w w' X) (hB : ¬ X B) : MapB w' B n D := by
  have hlt := h.lt
  obtain ⟨es, clock, hb, rest⟩ := h
  exact ⟨es, clock, (ho.block B hlt hB).trans hb, rest⟩
theorem extT (s : ByteArray) (i j : Nat) : (s.extract i j).data.toList = (s.data.toList.take j).drop i := by
  rw [ByteArray.data_extract, Array.toList_extract, List.extract_eq_take_drop, List.drop_take]

set_option maxRecDepth 20000 in
set_option maxHeartbeats 2000000 in
theorem count_any {w : World} (T : List ByteArray) (s : ByteArray) {lo hi c : Nat} {A : Option Addr} (h : Rd w lo hi A c (sv T)) (hr : rightT (bytL2 T) = true) (hs : s.size ≤ 100000000) {B n : Nat} {D : DataW Unit} {P : List (List UInt8)}
    (hm : MapB w B n D) (hD : Bag D P) (hP : P.length ≤ 1000000000) (hn : n ≤ 1000000000) (hB : hi ≤ B) (hhi : hi ≤ w.heap.size) :
    Calls Try.prog 26 #[.map (some B), .slice A T.length c, .string s] w fun r w' => r = .returned (.tuple #[]) ∧ ∃ n' D', MapB w' B n' D' ∧ n' ≤ n + 2 * s.size ∧ Bag D' (P ++ piecesL (bytL2 T) [] s.data.toList) ∧ Out w w' (fun k => k = B) := by
  have H := Lib.hid h
  have HR := Lib.hid hr
  have HM0 := Lib.hid hm
  have HD0 := Lib.hid hD
  clear h hr hm hD
  obtain ⟨R, hR⟩ : ∃ R, P ++ piecesL (bytL2 T) [] s.data.toList = R := ⟨_, rfl⟩
  rw [hR]
  have HRR := Lib.hid hR
  clear hR
  have HSL := Lib.hid (lenS s)
  go_enter Try.func26, Try.ntmps26
  go_wp2_with fail
  go_loopw [6, 7] (fun x6 x7 wr => ∃ (a l0 n' : Nat) (D' : DataW Unit) (Q : List (List UInt8)), a ≤ s.size ∧ l0 ≤ a ∧ (0 < a → l0 < a) ∧ x6 = .int .i64 (l0 : Int) ∧ x7 = .int .i64 (a : Int) ∧ MapB wr B n' D' ∧ n' ≤ n + 2 * a ∧ Bag D' Q ∧
    Q ++ piecesL (bytL2 T) ((s.data.toList.take a).drop l0) (s.data.toList.drop a) = R ∧ Q.length ≤ P.length + 2 * a ∧ Out w wr (fun k => k = B)) (fun _ i _ => s.size - (intOf i).toNat)
  case atStart => exact ⟨0, 0, n, D, P, Nat.zero_le _, Nat.zero_le _, fun h => absurd h (Nat.lt_irrefl _), rfl, rfl, HM0.out, Nat.le_refl _, HD0.out, HRR.out, Nat.le_refl _, Out.refl _ _⟩
  case round =>
    obtain ⟨a, l0, n1, D1, Q, ha, hl0, hla, rfl, rfl, hm1, hn1, hd1, hpc, hql, ho1⟩ := hrel
    have HM := Lib.hid hm1
    have HD := Lib.hid hd1
    have HPC := Lib.hid hpc
    have HQ := Lib.hid hql
    have HO := Lib.hid ho1
    have HLA := Lib.hid hla
    have hsz := ho1.size
    clear hm1 hd1 hpc hql ho1 hla
    by_cases hlt : a < s.size
    · obtain ⟨v, hv⟩ : ∃ v, longP (bytL2 T) (s.data.toList.drop a) = v := ⟨_, rfl⟩
      have HLG := Lib.hid (fun w2 (hb2 : Rd w2 lo hi A c (sv T)) => fslong_any (w2 := w2) T (s.extract a s.size) hb2 HR.out (by rw [ByteArray.size_extract]; omega) v (by rw [tailS]; exact hv))
      obtain ⟨e, he⟩ : ∃ e, stepP (bytL2 T) (s.data.toList.drop a) = e := ⟨_, rfl⟩
      have hmax : max ((v.2 : Nat) : Int) 1 = (e : Int) := by
        rw [← he]
        unfold stepP
        rw [hv]
        split <;> omega
      have hne : s.data.toList.drop a ≠ [] := fun e => by
        have := congrArg List.length e
        rw [List.length_drop, lenS] at this
        simp at this
        omega
      have hle := stepP_le (T := bytL2 T) hne
      have he1 := stepP_pos (bytL2 T) (s.data.toList.drop a)
      rw [he] at hle he1
      rw [List.length_drop, lenS] at hle
      have HPS := Lib.hid (pieces_step (bytL2 T) s.data.toList (by rw [lenS]; exact hlt) hl0 HLA.out he)
      obtain ⟨v1, v2⟩ := v
      clear hv he hne
      simp only [] at *
      generalize ((v2 : Nat) : Int) = z at *
      obtain ⟨x1, hx1⟩ : ∃ x, (s.extract a (a + e)).data.toList = x := ⟨_, rfl⟩
      obtain ⟨x2, hx2⟩ : ∃ x, (s.extract l0 (a + e)).data.toList = x := ⟨_, rfl⟩
      have HK1 := Lib.hid (keyOf_string_mk (P := Try.prog) Try.underlying9 (s := s.extract a (a + e)) (by unfold maxLen; rw [ByteArray.size_extract]; omega))
      have HK2 := Lib.hid (keyOf_string_mk (P := Try.prog) Try.underlying9 (s := s.extract l0 (a + e)) (by unfold maxLen; rw [ByteArray.size_extract]; omega))
      rw [hx1] at HK1
      rw [hx2] at HK2
      rw [extT] at hx1 hx2
      have HX1 := Lib.hid hx1
      have HX2 := Lib.hid hx2
      clear hx1 hx2
      have HQ1 : Hid ((Q ++ [x1]).length ≤ P.length + 2 * a + 1) := by
        unfold Hid
        have := HQ.out
        rw [List.length_append, List.length_singleton]
        omega
      have hla2 := HLA.out
      by_cases h2 : 0 < a ∧ a + e - l0 ≤ 8
      · obtain ⟨h0a, h8⟩ := h2
        have ia : (0 : Int) < (a : Int) := by omega
        have i8 : (a : Int) + (e : Int) - (l0 : Int) ≤ 8 := by omega
        have HPC2 : Hid (Q ++ [x1] ++ [x2] ++ piecesL (bytL2 T) ((s.data.toList.take (a + e)).drop a) (s.data.toList.drop (a + e)) = R) := by
          unfold Hid
          rw [← HPC.out, HPS.out, if_pos ⟨h0a, h8⟩, ← HX1.out, ← HX2.out]
          simp only [List.append_assoc, List.cons_append, List.nil_append]
        have HQL : Hid ((Q ++ [x1] ++ [x2]).length ≤ P.length + 2 * (a + e)) := by
          unfold Hid
          have := HQ1.out
          rw [List.length_append, List.length_singleton]
          omega
        clear HPS
        go_wp2_with fail
        refine (HLG.out _ (H.out.out HO.out hhi (fun k _ h2 h3 => by omega))).mono ?_
        rintro r w1 ⟨rfl, m, rfl⟩
        have HM1 : Hid (MapB (wr.drewN m) B n1 D1) := HM.out.out (X := fun _ => False) ((Out.refl _ _).drewN m) (fun h => h)
        have HO1 := Lib.hid (HO.out.drewN m)
        generalize wr.drewN m = w1 at *
        go_wp2_with (at_lookup; refine wpList_lookup_own_int _ rfl _ _ 42 rfl 9 3 .i64 Try.keyStr Try.underlying42 Try.underlying3 (Try.zeroValue3 _) B n1 D1 rfl HM1.out _ _ rfl HK1.out ?_; refine held ?_)
        refine ⟨?_⟩
        intro k1 hat hwc
        have hk := HD.out.count hat
        clear hat hwc
        have HBk1 := Lib.hid (HD.out.put x1)
        have HCk1 : Hid ((Q).count x1 ≤ 10000000000) := Nat.le_trans List.count_le_length (by have := HQ.out; omega)
        generalize (Q).count x1 = qk1 at *
        subst hk
        have bk1 : qk1 ≤ 10000000000 := HCk1.out
        go_wp2_with (at_mapUpdate; refine wpList_mapUpdate_own _ rfl _ _ _ 42 rfl 9 3 Try.keyStr Try.underlying42 _ B n1 D1 rfl HM1.out (by unfold maxLen; omega) _ _ _ rfl rfl HK1.out _ [] (plainElem_int Try.underlying3 (by go_wf)) ?_; refine held ?_)
        refine ⟨?_⟩
        intro w2 hm2 hg2
        have HM2 : Hid (MapB w2 B (n1 + 1) _) := hm2
        have HO2 : Hid (Out w w2 (fun k => k = B)) := HO1.out.trans (Out.of_gb (X := fun k => k = B) hg2 (fun k hk => by cases hk; rfl)) (fun _ _ h => h)
        clear hm2 hg2
        go_wp2_with (at_lookup; refine wpList_lookup_own_int _ rfl _ _ 42 rfl 9 3 .i64 Try.keyStr Try.underlying42 Try.underlying3 (Try.zeroValue3 _) B (n1 + 1) _ rfl HM2.out _ _ rfl HK2.out ?_; refine held ?_)
        refine ⟨?_⟩
        intro k2 hat hwc
        have hk := HBk1.out.count hat
        clear hat hwc
        have HBk2 := Lib.hid (HBk1.out.put x2)
        have HCk2 : Hid ((Q ++ [x1]).count x2 ≤ 10000000000) := Nat.le_trans List.count_le_length (by have := HQ1.out; omega)
        generalize (Q ++ [x1]).count x2 = qk2 at *
        subst hk
        have bk2 : qk2 ≤ 10000000000 := HCk2.out
        go_wp2_with (at_mapUpdate; refine wpList_mapUpdate_own _ rfl _ _ _ 42 rfl 9 3 Try.keyStr Try.underlying42 _ B (n1 + 1) _ rfl HM2.out (by unfold maxLen; omega) _ _ _ rfl rfl HK2.out _ [] (plainElem_int Try.underlying3 (by go_wf)) ?_; refine held ?_)
        refine ⟨?_⟩
        intro w3 hm2 hg2
        have HM3 : Hid (MapB w3 B ((n1 + 1) + 1) _) := hm2
        have HO3 : Hid (Out w w3 (fun k => k = B)) := HO2.out.trans (Out.of_gb (X := fun k => k = B) hg2 (fun k hk => by cases hk; rfl)) (fun _ _ h => h)
        clear hm2 hg2
        go_wp2_with fail
        go_roundw
        case rel => exact ⟨a + e, a, (n1 + 1 + 1), _, (Q ++ [x1] ++ [x2]), by omega, by omega, by omega, by go_num, by go_num, HM3.out, by omega, HBk2.out, HPC2.out, HQL.out, HO3.out⟩
        case measure => simp [intOf] <;> omega
      · have HPC2 : Hid (Q ++ [x1] ++ piecesL (bytL2 T) ((s.data.toList.take (a + e)).drop a) (s.data.toList.drop (a + e)) = R) := by
          unfold Hid
          rw [← HPC.out, HPS.out, if_neg h2, ← HX1.out]
          simp only [List.append_assoc, List.cons_append, List.nil_append]
        have HQL : Hid ((Q ++ [x1]).length ≤ P.length + 2 * (a + e)) := by
          unfold Hid
          have := HQ1.out
          omega
        clear HPS
        by_cases h0a : 0 < a
        · have ia : (0 : Int) < (a : Int) := by omega
          have i8 : ¬ (a : Int) + (e : Int) - (l0 : Int) ≤ 8 := by omega
          clear h2
          go_wp2_with fail
          refine (HLG.out _ (H.out.out HO.out hhi (fun k _ h2 h3 => by omega))).mono ?_
          rintro r w1 ⟨rfl, m, rfl⟩
          have HM1 : Hid (MapB (wr.drewN m) B n1 D1) := HM.out.out (X := fun _ => False) ((Out.refl _ _).drewN m) (fun h => h)
          have HO1 := Lib.hid (HO.out.drewN m)
          generalize wr.drewN m = w1 at *
          go_wp2_with (at_lookup; refine wpList_lookup_own_int _ rfl _ _ 42 rfl 9 3 .i64 Try.keyStr Try.underlying42 Try.underlying3 (Try.zeroValue3 _) B n1 D1 rfl HM1.out _ _ rfl HK1.out ?_; refine held ?_)
          refine ⟨?_⟩
          intro k1 hat hwc
          have hk := HD.out.count hat
          clear hat hwc
          have HBk1 := Lib.hid (HD.out.put x1)
          have HCk1 : Hid ((Q).count x1 ≤ 10000000000) := Nat.le_trans List.count_le_length (by have := HQ.out; omega)
          generalize (Q).count x1 = qk1 at *
          subst hk
          have bk1 : qk1 ≤ 10000000000 := HCk1.out
          go_wp2_with (at_mapUpdate; refine wpList_mapUpdate_own _ rfl _ _ _ 42 rfl 9 3 Try.keyStr Try.underlying42 _ B n1 D1 rfl HM1.out (by unfold maxLen; omega) _ _ _ rfl rfl HK1.out _ [] (plainElem_int Try.underlying3 (by go_wf)) ?_; refine held ?_)
          refine ⟨?_⟩
          intro w2 hm2 hg2
          have HM2 : Hid (MapB w2 B (n1 + 1) _) := hm2
          have HO2 : Hid (Out w w2 (fun k => k = B)) := HO1.out.trans (Out.of_gb (X := fun k => k = B) hg2 (fun k hk => by cases hk; rfl)) (fun _ _ h => h)
          clear hm2 hg2
          go_wp2_with fail
          go_roundw
          case rel => exact ⟨a + e, a, (n1 + 1), _, (Q ++ [x1]), by omega, by omega, by omega, by go_num, by go_num, HM2.out, by omega, HBk1.out, HPC2.out, HQL.out, HO2.out⟩
          case measure => simp [intOf] <;> omega
        · have ia : ¬ (0 : Int) < (a : Int) := by omega
          clear h2
          go_wp2_with fail
          refine (HLG.out _ (H.out.out HO.out hhi (fun k _ h2 h3 => by omega))).mono ?_
          rintro r w1 ⟨rfl, m, rfl⟩
          have HM1 : Hid (MapB (wr.drewN m) B n1 D1) := HM.out.out (X := fun _ => False) ((Out.refl _ _).drewN m) (fun h => h)
          have HO1 := Lib.hid (HO.out.drewN m)
          generalize wr.drewN m = w1 at *
          go_wp2_with (at_lookup; refine wpList_lookup_own_int _ rfl _ _ 42 rfl 9 3 .i64 Try.keyStr Try.underlying42 Try.underlying3 (Try.zeroValue3 _) B n1 D1 rfl HM1.out _ _ rfl HK1.out ?_; refine held ?_)
          refine ⟨?_⟩
          intro k1 hat hwc
          have hk := HD.out.count hat
          clear hat hwc
          have HBk1 := Lib.hid (HD.out.put x1)
          have HCk1 : Hid ((Q).count x1 ≤ 10000000000) := Nat.le_trans List.count_le_length (by have := HQ.out; omega)
          generalize (Q).count x1 = qk1 at *
          subst hk
          have bk1 : qk1 ≤ 10000000000 := HCk1.out
          go_wp2_with (at_mapUpdate; refine wpList_mapUpdate_own _ rfl _ _ _ 42 rfl 9 3 Try.keyStr Try.underlying42 _ B n1 D1 rfl HM1.out (by unfold maxLen; omega) _ _ _ rfl rfl HK1.out _ [] (plainElem_int Try.underlying3 (by go_wf)) ?_; refine held ?_)
          refine ⟨?_⟩
          intro w2 hm2 hg2
          have HM2 : Hid (MapB w2 B (n1 + 1) _) := hm2
          have HO2 : Hid (Out w w2 (fun k => k = B)) := HO1.out.trans (Out.of_gb (X := fun k => k = B) hg2 (fun k hk => by cases hk; rfl)) (fun _ _ h => h)
          clear hm2 hg2
          go_wp2_with fail
          go_roundw
          case rel => exact ⟨a + e, a, (n1 + 1), _, (Q ++ [x1]), by omega, by omega, by omega, by go_num, by go_num, HM2.out, by omega, HBk1.out, HPC2.out, HQL.out, HO2.out⟩
          case measure => simp [intOf] <;> omega
    · obtain rfl : a = s.size := by omega
      have HFIN : Hid (Q = R) := by
        unfold Hid
        rw [← HPC.out, List.drop_of_length_le (l := s.data.toList) (by rw [lenS]; exact Nat.le_refl _), pieces_nil, List.append_nil]
      go_wp2_with fail
      go_end0
      exact ⟨rfl, n1, D1, HM.out, hn1, by rw [← HFIN.out]; exact HD.out, HO.out⟩
end Go.Proofs.Ytpollebfehdnjaa
