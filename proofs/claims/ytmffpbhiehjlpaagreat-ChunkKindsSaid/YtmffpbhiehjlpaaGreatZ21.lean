/-
  The program's train: how a string's pieces are counted in a map.
  slices.SortFunc of what is gained: the library's contract at this program's numbers.
  The program's train: how two that are gained compare.
  The best of what is counted, in plain: the first 255 of all, in the order of their gains.
-/
import Derived.Test.YtmffpbhiehjlpaaGreatZ20
import Derived.Test.YtmffpbhiehjlpaaGreatZ01
import Derived.Maps.OwnOps
import Derived.Shelf.SlSortCmp.NoneTotal
import Derived.Test.YtmffpbhiehjlpaaGreatRows
import Derived.Test.YtmffpbhiehjlpaaGreatZ00
import Derived.Deep.RegionHeld3
import Derived.Test.YtmffpbhiehjlpaaGreatZ11
namespace Go.Proofs.YtmffpbhiehjlpaaGreat
set_option linter.unusedSimpArgs false
set_option linter.unusedVariables false
open Go.RowKit Go.Maps Go.WideMaps
theorem Tryz.keyStr : Keyed Tryz.prog 9 := string_keyed Tryz.underlying9
def MapB (w : World) (B n : Nat) (D : DataW Unit) : Prop := w.ownsMap Tryz.prog 9 (plainElem Tryz.prog 3) B n D
theorem MapB.out {w w' : World} {B n : Nat} {D : DataW Unit} {X : Nat → Prop} (h : MapB w B n D) (ho : Out w w' X) (hB : ¬ X B) : MapB w' B n D := by
  have hlt := h.lt
  obtain ⟨es, clock, hb, rest⟩ := h
  exact ⟨es, clock, (ho.block B hlt hB).trans hb, rest⟩
theorem extT (s : ByteArray) (i j : Nat) : (s.extract i j).data.toList = (s.data.toList.take j).drop i := by
  rw [ByteArray.data_extract, Array.toList_extract, List.extract_eq_take_drop, List.drop_take]
set_option maxRecDepth 20000 in
set_option maxHeartbeats 2000000 in
theorem tcount_any {w : World} (T : List ByteArray) (s : ByteArray) {lo hi c : Nat} {A : Option Addr} (h : Rd w lo hi A c (sv T)) (hr : rightT (bytL2 T) = true) (hs : s.size ≤ 100000000) {B n : Nat} {D : DataW Unit} {P : List (List UInt8)}
    (hm : MapB w B n D) (hD : Bag D P) (hP : P.length ≤ 1000000000) (hn : n ≤ 1000000000) (hB : hi ≤ B) (hhi : hi ≤ w.heap.size) :
    Calls Tryz.prog 138 #[.map (some B), .slice A T.length c, .string s] w fun r w' => r = .returned (.tuple #[]) ∧ ∃ n' D', MapB w' B n' D' ∧ n' ≤ n + 2 * s.size ∧ Bag D' (P ++ piecesL (bytL2 T) [] s.data.toList) ∧ Out w w' (fun k => k = B) := by
  have H := Lib.hid h
  have HR := Lib.hid hr
  have HM0 := Lib.hid hm
  have HD0 := Lib.hid hD
  clear h hr hm hD
  obtain ⟨R, hR⟩ : ∃ R, P ++ piecesL (bytL2 T) [] s.data.toList = R := ⟨_, rfl⟩
  rw [hR]
  have HRR := Lib.hid hR
  clear hR
  have HSL := Lib.hid (lenS s)
  go_enter Tryz.func138, Tryz.ntmps138
  go_wp2_with fail
  go_loopw [6, 7] (fun x6 x7 wr => ∃ (a l0 n' : Nat) (D' : DataW Unit) (Q : List (List UInt8)), a ≤ s.size ∧ l0 ≤ a ∧ (0 < a → l0 < a) ∧ x6 = .int .i64 (l0 : Int) ∧ x7 = .int .i64 (a : Int) ∧ MapB wr B n' D' ∧ n' ≤ n + 2 * a ∧ Bag D' Q ∧
    Q ++ piecesL (bytL2 T) ((s.data.toList.take a).drop l0) (s.data.toList.drop a) = R ∧ Q.length ≤ P.length + 2 * a ∧ Out w wr (fun k => k = B)) (fun _ i _ => s.size - (intOf i).toNat)
  case atStart => exact ⟨0, 0, n, D, P, Nat.zero_le _, Nat.zero_le _, fun h => absurd h (Nat.lt_irrefl _), rfl, rfl, HM0.out, Nat.le_refl _, HD0.out, HRR.out, Nat.le_refl _, Out.refl _ _⟩
  case round =>
    obtain ⟨a, l0, n1, D1, Q, ha, hl0, hla, rfl, rfl, hm1, hn1, hd1, hpc, hql, ho1⟩ := hrel
    have HM := Lib.hid hm1
    have HD := Lib.hid hd1
    have HPC := Lib.hid hpc
    have HQ := Lib.hid hql
    have HO := Lib.hid ho1
    have HLA := Lib.hid hla
    have hsz := ho1.size
    clear hm1 hd1 hpc hql ho1 hla
    by_cases hlt : a < s.size
    · obtain ⟨v, hv⟩ : ∃ v, longP (bytL2 T) (s.data.toList.drop a) = v := ⟨_, rfl⟩
      have HLG := Lib.hid (fun w2 (hb2 : Rd w2 lo hi A c (sv T)) => fslong_any (w2 := w2) T (s.extract a s.size) hb2 HR.out (by rw [ByteArray.size_extract]; omega) v (by rw [tailS]; exact hv))
      obtain ⟨e, he⟩ : ∃ e, stepP (bytL2 T) (s.data.toList.drop a) = e := ⟨_, rfl⟩
      have hmax : max ((v.2 : Nat) : Int) 1 = (e : Int) := by
        rw [← he]
        unfold stepP
        rw [hv]
        split <;> omega
      have hne : s.data.toList.drop a ≠ [] := fun e => by
        have := congrArg List.length e
        rw [List.length_drop, lenS] at this
        simp at this
        omega
      have hle := stepP_le (T := bytL2 T) hne
      have he1 := stepP_pos (bytL2 T) (s.data.toList.drop a)
      rw [he] at hle he1
      rw [List.length_drop, lenS] at hle
      have HPS := Lib.hid (pieces_step (bytL2 T) s.data.toList (by rw [lenS]; exact hlt) hl0 HLA.out he)
      obtain ⟨v1, v2⟩ := v
      clear hv he hne
      simp only [] at *
      generalize ((v2 : Nat) : Int) = z at *
      obtain ⟨x1, hx1⟩ : ∃ x, (s.extract a (a + e)).data.toList = x := ⟨_, rfl⟩
      obtain ⟨x2, hx2⟩ : ∃ x, (s.extract l0 (a + e)).data.toList = x := ⟨_, rfl⟩
      have HK1 := Lib.hid (keyOf_string_mk (P := Tryz.prog) Tryz.underlying9 (s := s.extract a (a + e)) (by unfold maxLen; rw [ByteArray.size_extract]; omega))
      have HK2 := Lib.hid (keyOf_string_mk (P := Tryz.prog) Tryz.underlying9 (s := s.extract l0 (a + e)) (by unfold maxLen; rw [ByteArray.size_extract]; omega))
      rw [hx1] at HK1
      rw [hx2] at HK2
      rw [extT] at hx1 hx2
      have HX1 := Lib.hid hx1
      have HX2 := Lib.hid hx2
      clear hx1 hx2
      have HQ1 : Hid ((Q ++ [x1]).length ≤ P.length + 2 * a + 1) := by
        unfold Hid
        have := HQ.out
        rw [List.length_append, List.length_singleton]
        omega
      have hla2 := HLA.out
      by_cases h2 : 0 < a ∧ a + e - l0 ≤ 8
      · obtain ⟨h0a, h8⟩ := h2
        have ia : (0 : Int) < (a : Int) := by omega
        have i8 : (a : Int) + (e : Int) - (l0 : Int) ≤ 8 := by omega
        have HPC2 : Hid (Q ++ [x1] ++ [x2] ++ piecesL (bytL2 T) ((s.data.toList.take (a + e)).drop a) (s.data.toList.drop (a + e)) = R) := by
          unfold Hid
          rw [← HPC.out, HPS.out, if_pos ⟨h0a, h8⟩, ← HX1.out, ← HX2.out]
          simp only [List.append_assoc, List.cons_append, List.nil_append]
        have HQL : Hid ((Q ++ [x1] ++ [x2]).length ≤ P.length + 2 * (a + e)) := by
          unfold Hid
          have := HQ1.out
          rw [List.length_append, List.length_singleton]
          omega
        clear HPS
        go_wp2_with fail
        refine (HLG.out _ (H.out.out HO.out hhi (fun k _ h2 h3 => by omega))).mono ?_
        rintro r w1 ⟨rfl, m, rfl⟩
        have HM1 : Hid (MapB (wr.drewN m) B n1 D1) := HM.out.out (X := fun _ => False) ((Out.refl _ _).drewN m) (fun h => h)
        have HO1 := Lib.hid (HO.out.drewN m)
        generalize wr.drewN m = w1 at *
        go_wp2_with (at_lookup; refine wpList_lookup_own_int _ rfl _ _ 156 rfl 9 3 .i64 Tryz.keyStr Tryz.underlying156 Tryz.underlying3 (Tryz.zeroValue3 _) B n1 D1 rfl HM1.out _ _ rfl HK1.out ?_; refine held ?_)
        refine ⟨?_⟩
        intro k1 hat hwc
        have hk := HD.out.count hat
        clear hat hwc
        have HBk1 := Lib.hid (HD.out.put x1)
        have HCk1 : Hid ((Q).count x1 ≤ 10000000000) := Nat.le_trans List.count_le_length (by have := HQ.out; omega)
        generalize (Q).count x1 = qk1 at *
        subst hk
        have bk1 : qk1 ≤ 10000000000 := HCk1.out
        go_wp2_with (at_mapUpdate; refine wpList_mapUpdate_own _ rfl _ _ _ 156 rfl 9 3 Tryz.keyStr Tryz.underlying156 _ B n1 D1 rfl HM1.out (by unfold maxLen; omega) _ _ _ rfl rfl HK1.out _ [] (plainElem_int Tryz.underlying3 (by go_wf)) ?_; refine held ?_)
        refine ⟨?_⟩
        intro w2 hm2 hg2
        have HM2 : Hid (MapB w2 B (n1 + 1) _) := hm2
        have HO2 : Hid (Out w w2 (fun k => k = B)) := HO1.out.trans (Out.of_gb (X := fun k => k = B) hg2 (fun k hk => by cases hk; rfl)) (fun _ _ h => h)
        clear hm2 hg2
        go_wp2_with (at_lookup; refine wpList_lookup_own_int _ rfl _ _ 156 rfl 9 3 .i64 Tryz.keyStr Tryz.underlying156 Tryz.underlying3 (Tryz.zeroValue3 _) B (n1 + 1) _ rfl HM2.out _ _ rfl HK2.out ?_; refine held ?_)
        refine ⟨?_⟩
        intro k2 hat hwc
        have hk := HBk1.out.count hat
        clear hat hwc
        have HBk2 := Lib.hid (HBk1.out.put x2)
        have HCk2 : Hid ((Q ++ [x1]).count x2 ≤ 10000000000) := Nat.le_trans List.count_le_length (by have := HQ1.out; omega)
        generalize (Q ++ [x1]).count x2 = qk2 at *
        subst hk
        have bk2 : qk2 ≤ 10000000000 := HCk2.out
        go_wp2_with (at_mapUpdate; refine wpList_mapUpdate_own _ rfl _ _ _ 156 rfl 9 3 Tryz.keyStr Tryz.underlying156 _ B (n1 + 1) _ rfl HM2.out (by unfold maxLen; omega) _ _ _ rfl rfl HK2.out _ [] (plainElem_int Tryz.underlying3 (by go_wf)) ?_; refine held ?_)
        refine ⟨?_⟩
        intro w3 hm2 hg2
        have HM3 : Hid (MapB w3 B ((n1 + 1) + 1) _) := hm2
        have HO3 : Hid (Out w w3 (fun k => k = B)) := HO2.out.trans (Out.of_gb (X := fun k => k = B) hg2 (fun k hk => by cases hk; rfl)) (fun _ _ h => h)
        clear hm2 hg2
        go_wp2_with fail
        go_roundw
        case rel => exact ⟨a + e, a, (n1 + 1 + 1), _, (Q ++ [x1] ++ [x2]), by omega, by omega, by omega, by go_num, by go_num, HM3.out, by omega, HBk2.out, HPC2.out, HQL.out, HO3.out⟩
        case measure => simp [intOf] <;> omega
      · have HPC2 : Hid (Q ++ [x1] ++ piecesL (bytL2 T) ((s.data.toList.take (a + e)).drop a) (s.data.toList.drop (a + e)) = R) := by
          unfold Hid
          rw [← HPC.out, HPS.out, if_neg h2, ← HX1.out]
          simp only [List.append_assoc, List.cons_append, List.nil_append]
        have HQL : Hid ((Q ++ [x1]).length ≤ P.length + 2 * (a + e)) := by
          unfold Hid
          have := HQ1.out
          omega
        clear HPS
        by_cases h0a : 0 < a
        · have ia : (0 : Int) < (a : Int) := by omega
          have i8 : ¬ (a : Int) + (e : Int) - (l0 : Int) ≤ 8 := by omega
          clear h2
          go_wp2_with fail
          refine (HLG.out _ (H.out.out HO.out hhi (fun k _ h2 h3 => by omega))).mono ?_
          rintro r w1 ⟨rfl, m, rfl⟩
          have HM1 : Hid (MapB (wr.drewN m) B n1 D1) := HM.out.out (X := fun _ => False) ((Out.refl _ _).drewN m) (fun h => h)
          have HO1 := Lib.hid (HO.out.drewN m)
          generalize wr.drewN m = w1 at *
          go_wp2_with (at_lookup; refine wpList_lookup_own_int _ rfl _ _ 156 rfl 9 3 .i64 Tryz.keyStr Tryz.underlying156 Tryz.underlying3 (Tryz.zeroValue3 _) B n1 D1 rfl HM1.out _ _ rfl HK1.out ?_; refine held ?_)
          refine ⟨?_⟩
          intro k1 hat hwc
          have hk := HD.out.count hat
          clear hat hwc
          have HBk1 := Lib.hid (HD.out.put x1)
          have HCk1 : Hid ((Q).count x1 ≤ 10000000000) := Nat.le_trans List.count_le_length (by have := HQ.out; omega)
          generalize (Q).count x1 = qk1 at *
          subst hk
          have bk1 : qk1 ≤ 10000000000 := HCk1.out
          go_wp2_with (at_mapUpdate; refine wpList_mapUpdate_own _ rfl _ _ _ 156 rfl 9 3 Tryz.keyStr Tryz.underlying156 _ B n1 D1 rfl HM1.out (by unfold maxLen; omega) _ _ _ rfl rfl HK1.out _ [] (plainElem_int Tryz.underlying3 (by go_wf)) ?_; refine held ?_)
          refine ⟨?_⟩
          intro w2 hm2 hg2
          have HM2 : Hid (MapB w2 B (n1 + 1) _) := hm2
          have HO2 : Hid (Out w w2 (fun k => k = B)) := HO1.out.trans (Out.of_gb (X := fun k => k = B) hg2 (fun k hk => by cases hk; rfl)) (fun _ _ h => h)
          clear hm2 hg2
          go_wp2_with fail
          go_roundw
          case rel => exact ⟨a + e, a, (n1 + 1), _, (Q ++ [x1]), by omega, by omega, by omega, by go_num, by go_num, HM2.out, by omega, HBk1.out, HPC2.out, HQL.out, HO2.out⟩
          case measure => simp [intOf] <;> omega
        · have ia : ¬ (0 : Int) < (a : Int) := by omega
          clear h2
          go_wp2_with fail
          refine (HLG.out _ (H.out.out HO.out hhi (fun k _ h2 h3 => by omega))).mono ?_
          rintro r w1 ⟨rfl, m, rfl⟩
          have HM1 : Hid (MapB (wr.drewN m) B n1 D1) := HM.out.out (X := fun _ => False) ((Out.refl _ _).drewN m) (fun h => h)
          have HO1 := Lib.hid (HO.out.drewN m)
          generalize wr.drewN m = w1 at *
          go_wp2_with (at_lookup; refine wpList_lookup_own_int _ rfl _ _ 156 rfl 9 3 .i64 Tryz.keyStr Tryz.underlying156 Tryz.underlying3 (Tryz.zeroValue3 _) B n1 D1 rfl HM1.out _ _ rfl HK1.out ?_; refine held ?_)
          refine ⟨?_⟩
          intro k1 hat hwc
          have hk := HD.out.count hat
          clear hat hwc
          have HBk1 := Lib.hid (HD.out.put x1)
          have HCk1 : Hid ((Q).count x1 ≤ 10000000000) := Nat.le_trans List.count_le_length (by have := HQ.out; omega)
          generalize (Q).count x1 = qk1 at *
          subst hk
          have bk1 : qk1 ≤ 10000000000 := HCk1.out
          go_wp2_with (at_mapUpdate; refine wpList_mapUpdate_own _ rfl _ _ _ 156 rfl 9 3 Tryz.keyStr Tryz.underlying156 _ B n1 D1 rfl HM1.out (by unfold maxLen; omega) _ _ _ rfl rfl HK1.out _ [] (plainElem_int Tryz.underlying3 (by go_wf)) ?_; refine held ?_)
          refine ⟨?_⟩
          intro w2 hm2 hg2
          have HM2 : Hid (MapB w2 B (n1 + 1) _) := hm2
          have HO2 : Hid (Out w w2 (fun k => k = B)) := HO1.out.trans (Out.of_gb (X := fun k => k = B) hg2 (fun k hk => by cases hk; rfl)) (fun _ _ h => h)
          clear hm2 hg2
          go_wp2_with fail
          go_roundw
          case rel => exact ⟨a + e, a, (n1 + 1), _, (Q ++ [x1]), by omega, by omega, by omega, by go_num, by go_num, HM2.out, by omega, HBk1.out, HPC2.out, HQL.out, HO2.out⟩
          case measure => simp [intOf] <;> omega
    · obtain rfl : a = s.size := by omega
      have HFIN : Hid (Q = R) := by
        unfold Hid
        rw [← HPC.out, List.drop_of_length_le (l := s.data.toList) (by rw [lenS]; exact Nat.le_refl _), pieces_nil, List.append_nil]
      go_wp2_with fail
      go_end0
      exact ⟨rfl, n1, D1, HM.out, hn1, by rw [← HFIN.out]; exact HD.out, HO.out⟩
end Go.Proofs.YtmffpbhiehjlpaaGreat
namespace Go.Proofs.YtmffpbhiehjlpaaGreat
set_option maxRecDepth 100000
set_option linter.unusedSimpArgs false
set_option linter.unusedVariables false
open Go.RowKit
def gsren : Go.Shelf.Ren := ⟨fun | 6 => 154 | 14 => 163 | 15 => 131 | 20 => 168 | 21 => 169 | 22 => 170 | 23 => 171 | 24 => 172 | 25 => 173 | 26 => 174 | 27 => 175 | 28 => 149 | 29 => 150 | 46 => 177 | 47 => 158 | 48 => 159 | 49 => 178 | 50 => 179 | 57 => 180 | n => n, fun | 0 => 0 | 1 => 1 | 2 => 2 | 3 => 3 | 4 => 4 | 5 => 5 | 6 => 6 | 7 => 7 | 8 => 8 | 9 => 9 | 10 => 10 | 11 => 11 | 12 => 12 | 13 => 13 | 14 => 14 | 15 => 15 | 16 => 16 | 17 => 17 | 18 => 18 | 19 => 19 | 20 => 20 | 21 => 21 | 22 => 169 | 23 => 172 | 24 => 171 | 25 => 173 | 27 => 23 | 29 => 139 | 37 => 180 | 38 => 150 | 39 => 115 | 42 => 93 | 44 => 184 | 45 => 160 | 46 => 161 | 47 => 185 | 48 => 186 | 49 => 187 | 50 => 130 | 51 => 188 | 52 => 166 | 53 => 167 | 54 => 168 | 55 => 155 | 66 => 174 | 67 => 146 | 68 => 175 | 69 => 189 | 70 => 177 | 71 => 190 | 76 => 182 | 77 => 104 | 78 => 191 | 81 => 141 | 82 => 192 | 83 => 193 | 84 => 194 | 85 => 195 | 86 => 196 | 87 => 51 | 88 => 197 | 89 => 198 | 90 => 199 | 91 => 132 | 92 => 200 | 93 => 201 | 94 => 202 | 95 => 203 | 96 => 204 | n => n, fun n => n⟩
theorem gslays : Go.Proofs.SlLaysF0.n6 Tryz.prog gsren := {
  mixed := by kernel_rfl
  f6 := ⟨ "slices.SortFunc[[]hopper/train.gained,hopper/train.gained]", by decide, Tryz.func154.trans (congrArg some (by kernel_rfl))⟩
  f14 := ⟨ "slices.pdqsortCmpFunc[hopper/train.gained]", by decide, Tryz.func163.trans (congrArg some (by kernel_rfl))⟩
  f15 := Tryz.func131.trans (congrArg some (by kernel_rfl))
  f20 := ⟨ "slices.insertionSortCmpFunc[hopper/train.gained]", by decide, Tryz.func168.trans (congrArg some (by kernel_rfl))⟩
  f21 := ⟨ "slices.heapSortCmpFunc[hopper/train.gained]", by decide, Tryz.func169.trans (congrArg some (by kernel_rfl))⟩
  f22 := ⟨ "slices.breakPatternsCmpFunc[hopper/train.gained]", by decide, Tryz.func170.trans (congrArg some (by kernel_rfl))⟩
  f23 := ⟨ "slices.choosePivotCmpFunc[hopper/train.gained]", by decide, Tryz.func171.trans (congrArg some (by kernel_rfl))⟩
  f24 := ⟨ "slices.reverseRangeCmpFunc[hopper/train.gained]", by decide, Tryz.func172.trans (congrArg some (by kernel_rfl))⟩
  f25 := ⟨ "slices.partialInsertionSortCmpFunc[hopper/train.gained]", by decide, Tryz.func173.trans (congrArg some (by kernel_rfl))⟩
  f26 := ⟨ "slices.partitionEqualCmpFunc[hopper/train.gained]", by decide, Tryz.func174.trans (congrArg some (by kernel_rfl))⟩
  f27 := ⟨ "slices.partitionCmpFunc[hopper/train.gained]", by decide, Tryz.func175.trans (congrArg some (by kernel_rfl))⟩
  f28 := Tryz.func149.trans (congrArg some (by kernel_rfl))
  f29 := Tryz.func150.trans (congrArg some (by kernel_rfl))
  f46 := ⟨ "slices.siftDownCmpFunc[hopper/train.gained]", by decide, Tryz.func177.trans (congrArg some (by kernel_rfl))⟩
  f47 := Tryz.func158.trans (congrArg some (by kernel_rfl))
  f48 := Tryz.func159.trans (congrArg some (by kernel_rfl))
  f49 := ⟨ "slices.medianAdjacentCmpFunc[hopper/train.gained]", by decide, Tryz.func178.trans (congrArg some (by kernel_rfl))⟩
  f50 := ⟨ "slices.medianCmpFunc[hopper/train.gained]", by decide, Tryz.func179.trans (congrArg some (by kernel_rfl))⟩
  f57 := ⟨ "slices.order2CmpFunc[hopper/train.gained]", by decide, Tryz.func180.trans (congrArg some (by kernel_rfl))⟩
  t0 := Tryz.underlying0
  a0 := Tryz.isAgg0
  z0 := Tryz.sizeOf0
  v0 := Tryz.zeroValue0
  t3 := Tryz.underlying3
  a3 := Tryz.isAgg3
  z3 := Tryz.sizeOf3
  v3 := Tryz.zeroValue3
  t4 := Tryz.underlying4
  a4 := Tryz.isAgg4
  z4 := Tryz.sizeOf4
  v4 := Tryz.zeroValue4
  t5 := Tryz.underlying5
  a5 := Tryz.isAgg5
  z5 := Tryz.sizeOf5
  v5 := Tryz.zeroValue5
  t9 := Tryz.underlying9
  a9 := Tryz.isAgg9
  z9 := Tryz.sizeOf9
  v9 := Tryz.zeroValue9
  t22 := Tryz.underlying169
  a22 := Tryz.isAgg169
  z22 := Tryz.sizeOf169
  v22 := Tryz.zeroValue169
  t25 := Tryz.underlying173
  a25 := Tryz.isAgg173
  z25 := Tryz.sizeOf173
  v25 := Tryz.zeroValue173
  t39 := Tryz.underlying115
  a39 := Tryz.isAgg115
  z39 := Tryz.sizeOf115
  v39 := Tryz.zeroValue115
  t45 := Tryz.underlying160
  a45 := Tryz.isAgg160
  z45 := Tryz.sizeOf160
  v45 := Tryz.zeroValue160
  t46 := Tryz.underlying161
  a46 := Tryz.isAgg161
  z46 := Tryz.sizeOf161
  v46 := Tryz.zeroValue161
  t50 := Tryz.underlying130
  a50 := Tryz.isAgg130
  z50 := Tryz.sizeOf130
  v50 := Tryz.zeroValue130
  t53 := Tryz.underlying167
  a53 := Tryz.isAgg167
  z53 := Tryz.sizeOf167
  v53 := Tryz.zeroValue167
  t55 := Tryz.underlying155
  a55 := Tryz.isAgg155
  z55 := Tryz.sizeOf155
  v55 := Tryz.zeroValue155
  t66 := Tryz.underlying174
  a66 := Tryz.isAgg174
  z66 := Tryz.sizeOf174
  v66 := Tryz.zeroValue174
  t70 := Tryz.underlying177
  a70 := Tryz.isAgg177
  z70 := Tryz.sizeOf177
  v70 := Tryz.zeroValue177
  t76 := Tryz.underlying182
  a76 := Tryz.isAgg182
  z76 := Tryz.sizeOf182
  v76 := Tryz.zeroValue182
  t77 := Tryz.underlying104
  a77 := Tryz.isAgg104
  z77 := Tryz.sizeOf104
  v77 := Tryz.zeroValue104
  }
end Go.Proofs.YtmffpbhiehjlpaaGreat
namespace Go.Proofs.YtmffpbhiehjlpaaGreat
set_option linter.unusedSimpArgs false
set_option linter.unusedVariables false
open Go.RowKit
def cmpI (x y : Int) : Int := if x < y then -1 else if y < x then 1 else 0
theorem nan_int (x : Int) (w : World) : Calls Tryz.prog 176 #[.int .i64 x] w fun e w' => e = .returned (.bool false) ∧ w = w' := by
  go_enter Tryz.func176, Tryz.ntmps176
  go_wp2
  go_ret
  exact ⟨by simp, rfl⟩
theorem nan_str (x : ByteArray) (w : World) : Calls Tryz.prog 137 #[.string x] w fun e w' => e = .returned (.bool false) ∧ w = w' := by
  go_enter Tryz.func137, Tryz.ntmps137
  go_wp2
  go_ret
  exact ⟨by simp, rfl⟩
theorem cmpint_any (x y : Int) (w : World) : Calls Tryz.prog 165 #[.int .i64 x, .int .i64 y] w fun e w' => e = .returned (.int .i64 (cmpI x y)) ∧ w = w' := by
  unfold cmpI
  by_cases h1 : x < y
  · rw [if_pos h1]
    go_enter Tryz.func165, Tryz.ntmps165
    go_wp2_with (go_at_call 176; refine (nan_int _ _).mono ?_; rintro e w' ⟨rfl, rfl⟩)
    go_ret
    exact ⟨rfl, rfl⟩
  · rw [if_neg h1]
    by_cases h2 : y < x
    · rw [if_pos h2]
      go_enter Tryz.func165, Tryz.ntmps165
      go_wp2_with (go_at_call 176; refine (nan_int _ _).mono ?_; rintro e w' ⟨rfl, rfl⟩)
      go_ret
      exact ⟨rfl, rfl⟩
    · rw [if_neg h2]
      go_enter Tryz.func165, Tryz.ntmps165
      go_wp2_with (go_at_call 176; refine (nan_int _ _).mono ?_; rintro e w' ⟨rfl, rfl⟩)
      go_ret
      exact ⟨rfl, rfl⟩
theorem cmpstr_any (x y : ByteArray) (w : World) : Calls Tryz.prog 166 #[.string x, .string y] w fun e w' => e = .returned (.int .i64 (cmpL x.data.toList y.data.toList)) ∧ w = w' := by
  have h1 := less_str x y
  have h2 := less_str y x
  have h3 := cmpL_turn x.data.toList y.data.toList
  have h4 := cmpL_three x.data.toList y.data.toList
  obtain ⟨v, h5⟩ : ∃ v, cmpL x.data.toList y.data.toList = v := ⟨_, rfl⟩
  rw [h5] at h1 h3 h4 ⊢
  rw [h3] at h2
  clear h3
  rcases h4 with rfl | rfl | rfl
  · have e1 : Op.bytesLess x.toList y.toList = true := by rw [h1]; rfl
    clear h1 h2 h5
    go_enter Tryz.func166, Tryz.ntmps166
    go_wp2_with (go_at_call 137; refine (nan_str _ _).mono ?_; rintro e w' ⟨rfl, rfl⟩)
    go_ret
    exact ⟨rfl, rfl⟩
  · have e1 : Op.bytesLess x.toList y.toList = false := by rw [h1]; rfl
    have e2 : Op.bytesLess y.toList x.toList = false := by rw [h2]; rfl
    have e3 : (x.toList == y.toList) = true := by rw [Lib.toList_data, Lib.toList_data, cmpL_zero h5]; exact beq_self_eq_true _
    have e4 : x.toList = y.toList := eq_of_beq e3
    have E4 := Lib.hid e4
    clear h1 h2 h5 e4
    go_enter Tryz.func166, Tryz.ntmps166
    go_wp2_with (go_at_call 137; refine (nan_str _ _).mono ?_; rintro e w' ⟨rfl, rfl⟩)
    go_ret
    exact ⟨rfl, rfl⟩
  · have e1 : Op.bytesLess x.toList y.toList = false := by rw [h1]; rfl
    have e2 : Op.bytesLess y.toList x.toList = true := by rw [h2]; rfl
    have e3 : (x.toList == y.toList) = false := by
      rw [beq_eq_false_iff_ne, Lib.toList_data, Lib.toList_data]
      intro e
      rw [e, cmpL_same] at h5
      cases h5
    have e4 : ¬ x.toList = y.toList := beq_eq_false_iff_ne.1 e3
    clear h1 h2 h5
    go_enter Tryz.func166, Tryz.ntmps166
    go_wp2_with (go_at_call 137; refine (nan_str _ _).mono ?_; rintro e w' ⟨rfl, rfl⟩)
    go_ret
    exact ⟨rfl, rfl⟩
def or2 (x y : Int) : Int := if x = 0 then y else x
theorem or2_any {w : World} (x y : Int) {b c : Nat} (h0 : w.cell? ⟨b, 0, none⟩ = some (.int .i64 x)) (h1 : w.cell? ⟨b, 1, none⟩ = some (.int .i64 y)) :
    Calls Tryz.prog 164 #[.slice (some ⟨b, 0, none⟩) 2 c] w fun e w' => e = .returned (.int .i64 (or2 x y)) ∧ w = w' := by
  unfold or2
  by_cases hx : x = 0
  · subst hx
    rw [if_pos rfl]
    by_cases hy : y = 0
    · subst hy
      go_enter Tryz.func164, Tryz.ntmps164
      go_wp2
      refine wp_loop_rounds 3 ?_
      rw [rounds_succ]
      go_wp2
      rw [rounds_succ]
      go_wp2
      rw [rounds_succ]
      go_wp2
      go_ret
      exact ⟨rfl, rfl⟩
    · go_enter Tryz.func164, Tryz.ntmps164
      go_wp2
      refine wp_loop_rounds 2 ?_
      rw [rounds_succ]
      go_wp2
      rw [rounds_succ]
      go_wp2
      go_ret
      exact ⟨rfl, rfl⟩
  · rw [if_neg hx]
    go_enter Tryz.func164, Tryz.ntmps164
    go_wp2
    refine wp_loop_rounds 1 ?_
    rw [rounds_succ]
    go_wp2
    go_ret
    exact ⟨rfl, rfl⟩
def gv (x : ByteArray × Int) : List Value := [.string x.1, .int .i64 x.2]
def aheadF (x y : ByteArray × Int) : Int := or2 (cmpI y.2 x.2) (cmpL x.1.data.toList y.1.data.toList)
open Go.Sort Go.Shelf in
set_option maxRecDepth 20000 in
set_option maxHeartbeats 2000000 in
theorem ahead_any (x y : ByteArray × Int) (W : World) : Calls Tryz.prog 155 #[.agg #[.string x.1, .int .i64 x.2], .agg #[.string y.1, .int .i64 y.2]] W fun e w' => e = .returned (.int .i64 (aheadF x y)) ∧ ∃ q os', w' = grow (W.drewN q) os' := by
  obtain ⟨s, g⟩ := x
  obtain ⟨u, k⟩ := y
  unfold aheadF
  simp only []
  have h1 := fun w => cmpint_any k g w
  have h2 := fun w => cmpstr_any s u w
  generalize cmpI k g = a at *
  generalize cmpL s.data.toList u.data.toList = b at *
  have h3 := fun (w : World) (bb c : Nat) (h0 : w.cell? ⟨bb, 0, none⟩ = some (.int .i64 a)) (h1 : w.cell? ⟨bb, 1, none⟩ = some (.int .i64 b)) => or2_any (w := w) a b (c := c) h0 h1
  generalize or2 a b = r at *
  have H1 := Lib.hid h1
  have H2 := Lib.hid h2
  have H3 := Lib.hid h3
  clear h1 h2 h3
  go_enter Tryz.func155, Tryz.ntmps155
  go_wp2_with fail
  go_region_held3 (fun w' => w'.cell? ⟨W.heap.size, 0, none⟩ = some (.string s) ∧ w'.cell? ⟨W.heap.size, 1, none⟩ = some (.int .i64 g) ∧ w'.cell? ⟨W.heap.size + 1, 0, none⟩ = some (.string u) ∧ w'.cell? ⟨W.heap.size + 1, 1, none⟩ = some (.int .i64 k)) (go_keep) (first
    | (go_at_call 165; refine (H1.out _).mono ?_; rintro e w' ⟨rfl, rfl⟩)
    | (go_at_call 166; refine (H2.out _).mono ?_; rintro e w' ⟨rfl, rfl⟩)
    | (go_at_call 164; refine (H3.out _ _ _ ?_ ?_).mono ?_; (go_simp); (go_simp); rintro e w' ⟨rfl, rfl⟩))
  go_wp2
  go_ret
  refine ⟨rfl, ?_⟩
  simp only [alloc_eq_grow, grow_grow]
  exact ⟨1, _, rfl⟩
end Go.Proofs.YtmffpbhiehjlpaaGreat
namespace Go.Proofs.YtmffpbhiehjlpaaGreat
set_option linter.unusedSimpArgs false
set_option linter.unusedVariables false
open Go.Sort
theorem ltA (x y : ByteArray × Int) : ltOf aheadF x y = true ↔ (y.2 < x.2 ∨ (x.2 = y.2 ∧ cmpL x.1.data.toList y.1.data.toList < 0)) := by
  unfold ltOf aheadF or2 cmpI
  rw [decide_eq_true_iff]
  by_cases h1 : y.2 < x.2
  · rw [if_pos h1, if_neg (by omega)]
    constructor
    · intro _; exact Or.inl h1
    · intro _; omega
  · rw [if_neg h1]
    by_cases h2 : x.2 < y.2
    · rw [if_pos h2, if_neg (by omega)]
      constructor
      · intro h; omega
      · rintro (h | ⟨h, _⟩) <;> omega
    · rw [if_neg h2, if_pos rfl]
      constructor
      · intro h; exact Or.inr ⟨by omega, h⟩
      · rintro (h | ⟨_, h⟩)
        · omega
        · exact h
theorem ltA_not (x y : ByteArray × Int) : ltOf aheadF x y = false ↔ (x.2 < y.2 ∨ (x.2 = y.2 ∧ cmpL y.1.data.toList x.1.data.toList ≤ 0)) := by
  rw [← Bool.not_eq_true, ltA]
  have := cmpL_turn x.1.data.toList y.1.data.toList
  omega
theorem ltA_swo : SWO (ltOf aheadF) where
  irrefl x := by rw [ltA_not, cmpL_same]; omega
  trans x y z h1 h2 := by
    rw [ltA] at *
    rcases h1 with h1 | ⟨h1, k1⟩
    · rcases h2 with h2 | ⟨h2, k2⟩ <;> exact Or.inl (by omega)
    · rcases h2 with h2 | ⟨h2, k2⟩
      · exact Or.inl (by omega)
      · exact Or.inr ⟨by omega, cmpL_lt_trans k1 k2⟩
  ntrans x y z h1 h2 := by
    rw [ltA_not] at *
    rcases h1 with h1 | ⟨h1, k1⟩
    · rcases h2 with h2 | ⟨h2, k2⟩ <;> exact Or.inl (by omega)
    · rcases h2 with h2 | ⟨h2, k2⟩
      · exact Or.inl (by omega)
      · exact Or.inr ⟨by omega, cmpL_le_trans k2 k1⟩
theorem ltA_one (x y : ByteArray × Int) (h1 : ltOf aheadF x y = false) (h2 : ltOf aheadF y x = false) : x = y := by
  rw [ltA_not] at h1 h2
  have := cmpL_turn x.1.data.toList y.1.data.toList
  have e1 : x.2 = y.2 := by omega
  have e2 : x.1.data.toList = y.1.data.toList := cmpL_zero (by omega)
  rcases x with ⟨⟨⟨a⟩⟩, g⟩
  rcases y with ⟨⟨⟨b⟩⟩, k⟩
  simp only [] at e1 e2
  rw [e1, e2]
def rankL (es : List (ByteArray × Int)) : List (ByteArray × Int) := es.mergeSort fun x y => !(ltOf aheadF) y x
theorem rank_perm (es : List (ByteArray × Int)) : (rankL es).Perm es := List.mergeSort_perm _ _
theorem rank_len (es : List (ByteArray × Int)) : (rankL es).length = es.length := (rank_perm es).length_eq
theorem rank_sorted (es : List (ByteArray × Int)) : (rankL es).Pairwise fun x y => ltOf aheadF y x = false := by
  have := List.pairwise_mergeSort (le := fun x y : ByteArray × Int => !(ltOf aheadF) y x) (fun a b c h1 h2 => by
    simp only [Bool.not_eq_true'] at *
    exact ltA_swo.ntrans _ _ _ h2 h1) (fun a b => by
    cases h : ltOf aheadF b a
    · rfl
    · cases h2 : ltOf aheadF a b
      · rfl
      · have := ltA_swo.trans _ _ _ h h2
        rw [ltA_swo.irrefl] at this
        cases this) es
  exact this.imp fun h => by simpa using h
def keyA (e : ByteArray × Int) : List UInt8 := e.1.data.toList
structure Coll (P : List (List UInt8)) (left : List UInt8 → Bool) (es : List (ByteArray × Int)) : Prop where
  once : (es.map keyA).Nodup
  mem : ∀ x, x ∈ es.map keyA ↔ (x ∈ P ∧ left x = false)
  gain : ∀ e ∈ es, e.2 = (gainL P (keyA e) : Nat)
theorem Coll.few {P : List (List UInt8)} {left : List UInt8 → Bool} {es : List (ByteArray × Int)} (h : Coll P left es) : es.length ≤ P.length := by
  have := h.once.length_le_of_subset (l₂ := P) fun x hx => ((h.mem x).1 hx).1
  rwa [List.length_map] at this
theorem Coll.nil {P : List (List UInt8)} {left : List UInt8 → Bool} (h : ∀ x ∈ P, left x = true) : Coll P left [] :=
  ⟨List.nodup_nil, fun x => ⟨fun hx => (by cases hx), fun ⟨h1, h2⟩ => (by rw [h x h1] at h2; cases h2)⟩, fun e he => (by cases he)⟩
theorem Coll.snoc {P : List (List UInt8)} {left : List UInt8 → Bool} {es : List (ByteArray × Int)} (h : Coll P left es) {e : ByteArray × Int} (hp : keyA e ∈ P) (hl : left (keyA e) = true) (hg : e.2 = (gainL P (keyA e) : Nat)) {left' : List UInt8 → Bool}
    (hl' : ∀ x, left' x = (left x && !decide (x = keyA e))) : Coll P left' (es ++ [e]) := by
  have hne : keyA e ∉ es.map keyA := fun hx => by
    have := ((h.mem _).1 hx).2
    rw [hl] at this
    cases this
  refine ⟨?_, fun x => ?_, fun f hf => ?_⟩
  · rw [List.map_append, List.nodup_append]
    refine ⟨h.once, by simp, fun a ha b hb => ?_⟩
    rw [List.map_singleton, List.mem_singleton] at hb
    subst hb
    exact fun e1 => hne (e1 ▸ ha)
  · rw [List.map_append, List.mem_append, h.mem, List.map_singleton, List.mem_singleton, hl']
    by_cases hx : x = keyA e
    · subst hx
      simp [hp]
    · simp [hx]
  · rcases List.mem_append.1 hf with hf | hf
    · exact h.gain f hf
    · rw [List.mem_singleton.1 hf]
      exact hg
theorem Coll.top {P : List (List UInt8)} {left : List UInt8 → Bool} {es : List (ByteArray × Int)} (h : Coll P left es) (hl : ∀ x ∈ P, left x = false) : TopOf P (((rankL es).take 255).map keyA) := by
  have hperm := rank_perm es
  have hnd : ((rankL es).map keyA).Nodup := (hperm.map keyA).nodup_iff.2 h.once
  have hsplit : (rankL es).take 255 ++ (rankL es).drop 255 = rankL es := List.take_append_drop _ _
  have hmem : ∀ e, e ∈ rankL es ↔ e ∈ es := fun e => hperm.mem_iff
  have hin : ∀ e ∈ es, keyA e ∈ P := fun e he => ((h.mem _).1 (List.mem_map.2 ⟨e, he, rfl⟩)).1
  refine ⟨?_, by rw [List.length_map, List.length_take]; omega, fun x hx => ?_, fun y hy hn => ?_⟩
  · rw [← hsplit, List.map_append] at hnd
    exact (List.nodup_append.1 hnd).1
  · obtain ⟨e, he, rfl⟩ := List.mem_map.1 hx
    exact hin e ((hmem e).1 (List.mem_of_mem_take he))
  · obtain ⟨e, he, rfl⟩ := List.mem_map.1 ((h.mem y).2 ⟨hy, hl y hy⟩)
    have he2 : e ∈ (rankL es).drop 255 := by
      have h1 := (hmem e).2 he
      rw [← hsplit] at h1
      rcases List.mem_append.1 h1 with h1 | h1
      · exact absurd (List.mem_map.2 ⟨e, h1, rfl⟩) hn
      · exact h1
    have hlen : 255 < (rankL es).length := by
      have := List.length_pos_of_mem he2
      rw [List.length_drop] at this
      omega
    refine ⟨by rw [List.length_map, List.length_take]; omega, fun x hx => ?_⟩
    obtain ⟨f, hf, rfl⟩ := List.mem_map.1 hx
    have hs := rank_sorted es
    rw [← hsplit, List.pairwise_append] at hs
    have h1 := hs.2.2 f hf e he2
    have hfe : f ∈ es := (hmem f).1 (List.mem_of_mem_take hf)
    have h2 : ltOf aheadF f e = true := by
      cases h3 : ltOf aheadF f e
      · exact absurd (ltA_one f e h3 h1 ▸ hx) hn
      · rfl
    rw [ltA] at h2
    rw [h.gain f hfe, h.gain e he] at h2
    unfold beats
    rcases h2 with h2 | ⟨h2, h4⟩
    · exact Or.inl (by omega)
    · exact Or.inr ⟨by omega, h4⟩
end Go.Proofs.YtmffpbhiehjlpaaGreat
