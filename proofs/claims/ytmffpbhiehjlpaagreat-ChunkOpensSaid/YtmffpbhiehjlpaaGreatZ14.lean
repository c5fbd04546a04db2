/-
  The document's Round of layer 12: what is counted. (Printed by wip/tools/genround.py.)
-/
import Derived.Test.YtmffpbhiehjlpaaGreatZ11
import Derived.Test.YtmffpbhiehjlpaaGreatZ12
import Derived.Test.YtmffpbhiehjlpaaGreatZ13
namespace Go.Proofs.YtmffpbhiehjlpaaGreat
set_option linter.unusedSimpArgs false
set_option linter.unusedVariables false
open Go.RowKit
theorem headT (s : ByteArray) (k : Nat) : (s.extract 0 k).data.toList = s.data.toList.take k := headS s k
theorem tailT (s : ByteArray) (k : Nat) : (s.extract k s.size).data.toList = s.data.toList.drop k := by
  rw [ByteArray.data_extract, Array.toList_extract]
  rw [List.extract_eq_take_drop, List.take_of_length_le (by rw [List.length_drop, lenS]; omega)]
theorem app_strT (o t : ByteArray) : (o ++ t).data.toList = o.data.toList ++ t.data.toList := by rw [ByteArray.data_append, Array.toList_append]
theorem usL_nil (n : Nat) : lv (usL n []) = List.replicate n (.bool false) := by
  unfold usL lv
  rw [List.map_map]
  apply List.ext_getElem
  · simp
  · intro i h1 h2
    simp
set_option maxHeartbeats 1000000 in
theorem round_end {w wv : World} {z : Nat} {bag : List (List UInt8)} {ns : List ByteArray} {cs ks : List Nat} (hcnt : Cnt bag (bytL2 ns) cs) (hsel : Sel bag (bytL2 ns) ks) (hk : ks.length ≤ 255) (hd : ks.length = 255 ∨ ∀ j, j < ns.length → j ∈ ks) (hns : ∀ j (hj : j < ns.length), ns[j].size ≤ 8)
    {A5 : Option Addr} {c5 : Nat} (ho : wv.ownsRow z 9 1 (.slice A5 ks.length c5) ks.length (sv (ks.map fun j => ns.getD j ⟨#[]⟩))) (hb : Below w.heap.size w wv) :
    Calls Tryz.prog 90 #[.slice A5 ks.length c5] wv fun r w' => ∃ t A' c', r = .returned (.slice A' t.length c') ∧ IsRound bag t ∧ w'.ownsRow w.heap.size 9 1 (.slice A' t.length c') t.length (sv (strsL t)) ∧ Below w.heap.size w w' := by
  have hlt : ∀ i (hi : i < ks.length), ks[i] < ns.length := fun i hi => by
    have := hsel.lt _ (List.getElem_mem hi)
    rwa [bytL2_length] at this
  have h1 := refOrder_any (w := wv) (ks.map fun j => ns.getD j ⟨#[]⟩) (A := A5) (c := c5) (rd_own ho) (fun s hs => by
    obtain ⟨j, hj, rfl⟩ := List.mem_map.1 hs
    have hj2 := hsel.lt j hj
    rw [bytL2_length] at hj2
    rw [getD_atS hj2]
    have := hns j hj2
    omega) (by rw [List.length_map]; omega)
  rw [List.length_map] at h1
  refine h1.mono ?_
  rintro r w' ⟨t, A', c', rfl, ht, hot, hbt⟩
  refine ⟨t, A', c', rfl, ⟨_, hsel.done hcnt hk (by rw [bytL2_length]; exact hd) (best := bytL2 (ks.map fun j => ns.getD j ⟨#[]⟩)) (by rw [bytL2_length, List.length_map]) (fun i hi => ?_), ht⟩, own_base hot hb.size, hb.trans (hbt.mono hb.size)⟩
  rw [bytL2_get _ i (by rw [List.length_map]; exact hi), bytL2_get ns _ (hlt i hi), List.getElem_map, getD_atS (hlt i hi)]
set_option maxRecDepth 20000 in
set_option maxHeartbeats 4000000 in
theorem refRound_any {w : World} (T S : List ByteArray) {c d : Nat} {A B : Option Addr} (h : Rd w 0 w.heap.size A c (sv T)) (hS : Rd w 0 w.heap.size B d (sv S)) (h8 : ∀ t ∈ bytL2 T, okS t = true) (hTl : T.length ≤ 255) (hSl : S.length ≤ 100) (hSb : ∀ s ∈ S, s.size ≤ 100000) (hbag : (bagL (bytL2 T) (bytL2 S)).length ≤ 1000000) :
    Calls Tryz.prog 71 #[.slice A T.length c, .slice B S.length d] w fun r w' => ∃ t A' c', r = .returned (.slice A' t.length c') ∧ IsRound (bagL (bytL2 T) (bytL2 S)) t ∧ w'.ownsRow w.heap.size 9 1 (.slice A' t.length c') t.length (sv (strsL t)) ∧ Below w.heap.size w w' := by
  have hl := h.len
  have hm := h.cap
  have hl2 := hS.len
  have hm2 := hS.cap
  rw [sv_length] at hl hl2
  unfold maxLen at hm hm2
  have H := Lib.hid h
  have HS := Lib.hid hS
  have H8 := Lib.hid h8
  have HSB : Hid (∀ k (hk : k < S.length), S[k].size ≤ 100000) := fun k hk => hSb _ (List.getElem_mem hk)
  have HT8 : Hid (∀ t ∈ T, t.size ≤ 100000) := fun t ht => by
    have := (okS_iff.1 (h8 _ (List.mem_map_of_mem ht))).2
    rw [lenS] at this
    omega
  obtain ⟨bag, hbg⟩ : ∃ bag, bagL (bytL2 T) (bytL2 S) = bag := ⟨_, rfl⟩
  rw [hbg] at hbag
  rw [hbg]
  have HBG := Lib.hid hbg
  have HBL := Lib.hid hbag
  clear h hS h8 hSb hbg hbag
  go_enter Tryz.func71, Tryz.ntmps71
  go_wp2_with fail
  go_loopw [5, 6, 7] (fun x5 x6 x7 wr => ∃ (k n : Nat) (P : List (List UInt8)) (ns : List ByteArray) (cs : List Nat) (A1 B1 : Option Addr) (c1 d1 : Nat), k ≤ S.length ∧ x7 = .int .i64 (k : Int) ∧ x5 = .slice A1 n c1 ∧ x6 = .slice B1 n d1 ∧ n = ns.length ∧
    Two wr w.heap.size (.slice A1 n c1) (.slice B1 n d1) ns cs ∧ Cnt P (bytL2 ns) cs ∧ P ++ bagL (bytL2 T) ((bytL2 S).drop k) = bag ∧ Below w.heap.size w wr) (fun _ _ i _ => S.length - (intOf i).toNat)
  case atStart => exact ⟨0, 0, [], [], [], none, none, 0, 0, Nat.zero_le _, rfl, rfl, rfl, rfl, Two.nil _ _, Cnt.nil, by rw [List.drop_zero, HBG.out]; rfl, Below.refl _ _⟩
  case round =>
    obtain ⟨k, n, P, ns, cs, A1, B1, c1, d1, hk, rfl, rfl, rfl, hn, htwo, hcnt, hinv, hb⟩ := hrel
    have HN := Lib.hid hn
    have HTW := Lib.hid htwo
    have HC := Lib.hid hcnt
    have HI := Lib.hid hinv
    have HB := Lib.hid hb
    clear hn htwo hcnt hinv hb
    by_cases hlt : k < S.length
    · have ik : (k : Int) < (S.length : Int) := by omega
      obtain ⟨b, off, rfl, _, hbh, hcell⟩ := (HS.out.below HB.out (Nat.le_refl _)).str hlt
      have hsz := HSB.out k hlt
      have HP1 : Hid (P ++ piecesL (bytL2 T) [] S[k].data.toList ++ bagL (bytL2 T) ((bytL2 S).drop (k + 1)) = bag) := by
        unfold Hid
        rw [List.append_assoc, ← HI.out, bag_drop (k := k) (S := bytL2 S) (by rw [bytL2_length]; exact hlt), bytL2_get S k hlt]
      clear HI
      generalize S[k] = s0 at *
      go_wp2_with fail
      go_loopw [5, 6, 8, 9] (fun x5 x6 x8 x9 wv => ∃ (n : Nat) (t q : ByteArray) (P : List (List UInt8)) (ns : List ByteArray) (cs : List Nat) (A1 B1 : Option Addr) (c1 d1 : Nat), t.size ≤ s0.size ∧ q.size ≤ 8 ∧ x8 = .string t ∧ x9 = .string q ∧ x5 = .slice A1 n c1 ∧ x6 = .slice B1 n d1 ∧ n = ns.length ∧
        Two wv w.heap.size (.slice A1 n c1) (.slice B1 n d1) ns cs ∧ Cnt P (bytL2 ns) cs ∧ P ++ piecesL (bytL2 T) q.data.toList t.data.toList ++ bagL (bytL2 T) ((bytL2 S).drop (k + 1)) = bag ∧ Below w.heap.size w wv) (fun _ _ x8 _ _ => (match x8 with | .string t => t.size | _ => 0))
      case atStart => exact ⟨n, s0, ⟨#[]⟩, P, ns, cs, A1, B1, c1, d1, Nat.le_refl _, Nat.zero_le _, rfl, rfl, rfl, rfl, HN.out, HTW.out, HC.out, HP1.out, HB.out⟩
      case round =>
        clear HN HTW HC HP1 HB hcell
        obtain ⟨n, t, q, P, ns, cs, A1, B1, c1, d1, ht, hq, rfl, rfl, rfl, rfl, hn, htwo, hcnt, hinv, hb⟩ := hrel
        have HN := Lib.hid hn
        have HTW := Lib.hid htwo
        have HC := Lib.hid hcnt
        have HI := Lib.hid hinv
        have HB := Lib.hid hb
        clear hn htwo hcnt hinv hb
        by_cases h0 : 0 < t.size
        · have i0 : (0 : Int) < (t.size : Int) := by omega
          have htn : t.data.toList ≠ [] := fun e => by have h9 := lenS t; rw [e, List.length_nil] at h9; omega
          have hst1 := stepP_pos (bytL2 T) t.data.toList
          have hst2 := stepP_le (T := bytL2 T) htn
          have hst3 := stepP_ok H8.out t.data.toList
          rw [lenS] at hst2
          have HPC := Lib.hid (pieces_cons (bytL2 T) q.data.toList htn)
          have HLG := Lib.hid (fun w2 (hb2 : Below w.heap.size w w2) => refLongest_any (w := w2) T t (H.out.below hb2 (Nat.le_refl _)) HT8.out (by omega) (by omega))
          have HSP : Hid (stepP (bytL2 T) t.data.toList = if (longF (bytL2 T) 0 (-1) 0 t.data.toList).2 = 0 then 1 else (longF (bytL2 T) 0 (-1) 0 t.data.toList).2) := rfl
          generalize longF (bytL2 T) 0 (-1) 0 t.data.toList = v at *
          obtain ⟨v1, v2⟩ := v
          have HSP2 : Hid (stepP (bytL2 T) t.data.toList = if v2 = 0 then 1 else v2) := HSP.out
          clear HSP htn
          generalize stepP (bytL2 T) t.data.toList = st at *
          have hql := lenS q
          by_cases hv0 : v2 = 0
          · obtain rfl : st = 1 := by have := HSP2.out; rw [if_pos hv0] at this; exact this
            subst hv0
            clear HSP2
            go_wp2_with fail
            refine (HLG.out _ HB.out).mono ?_
            rintro r w1 ⟨rfl, m, rfl⟩
            have hb1 : Below w.heap.size w (wr.drewN m) := below_drewN' HB.out m
            have HT1 := Lib.hid (HTW.out.drewN m)
            generalize wr.drewN m = w1 at *
            have HB1 := Lib.hid hb1
            have hz1 := hb1.size
            clear hb1 HLG HTW HB
            have i8 : (1 : Int) ≤ (t.size : Int) := by omega
            have HPE : Hid (P.length + 3 ≤ 100000000) := by
              have h1 := HBL.out
              rw [← HI.out, List.length_append, List.length_append] at h1
              unfold Hid
              omega
            have hps : (t.extract 0 1).size = 1 := by rw [ByteArray.size_extract]; omega
            have hts : (t.extract 1 t.size).size = t.size - 1 := by rw [ByteArray.size_extract]; omega
            have HHD := Lib.hid (headT t 1)
            have HTL := Lib.hid (tailT t 1)
            have HPS := Lib.hid hps
            have HTS := Lib.hid hts
            clear hps hts
            go_wp2_with fail
            refine (add_any (w := w1) w.heap.size ns cs (t.extract 0 1) HN.out HT1.out P HC.out (by have := HPE.out; omega) hz1).mono ?_
            rintro r w2 ⟨ns2, cs2, A2, B2, c2, d2, n2, rfl, hn2, htw2, hc2, hb2⟩
            have HN2 := Lib.hid hn2
            have HT2 := Lib.hid htw2
            have HC2 := Lib.hid hc2
            have HB2 : Hid (Below w.heap.size w w2) := HB1.out.trans hb2
            have hz2 := HB2.out.size
            clear hn2 htw2 hc2 hb2 HN HT1 HC HB1
            by_cases hq0 : q.size = 0
            · have hq1 : q.toList.isEmpty = true := by rw [Lib.toList_data, List.eq_nil_of_length_eq_zero (hql.trans hq0)]; rfl
              have HR : Hid ((P ++ [(t.extract 0 1).data.toList]) ++ piecesL (bytL2 T) (t.extract 0 1).data.toList (t.extract 1 t.size).data.toList ++ bagL (bytL2 T) ((bytL2 S).drop (k + 1)) = bag) := by
                unfold Hid
                rw [← HI.out, HPC.out, HHD.out, HTL.out, if_neg (fun e => e.1 (List.eq_nil_of_length_eq_zero (hql.trans hq0)))]
                simp only [List.append_assoc, List.cons_append, List.nil_append]
              clear hq0 hql
              go_wp2_with fail
              go_roundw
              case rel => exact ⟨n2, t.extract 1 t.size, t.extract 0 1, _, ns2, cs2, A2, B2, c2, d2, by rw [HTS.out]; omega, by rw [HPS.out]; omega, rfl, rfl, rfl, rfl, HN2.out, HT2.out, HC2.out, HR.out, HB2.out⟩
              case measure =>
                show (t.extract 1 t.size).size < t.size
                rw [HTS.out]; omega
            · have hq1 : q.toList.isEmpty = false := by
                rw [Lib.toList_data]
                exact List.isEmpty_eq_false_iff.2 (fun e => hq0 (by rw [← hql, e]; rfl))
              have hqn : q.data.toList ≠ [] := fun e => hq0 (by rw [← hql, e]; rfl)
              by_cases hq8 : q.size + 1 ≤ 8
              · have iq8 : (q.size : Int) + 1 ≤ 8 := by omega
                have HR : Hid ((P ++ [(t.extract 0 1).data.toList] ++ [(q ++ t.extract 0 1).data.toList]) ++ piecesL (bytL2 T) (t.extract 0 1).data.toList (t.extract 1 t.size).data.toList ++ bagL (bytL2 T) ((bytL2 S).drop (k + 1)) = bag) := by
                  unfold Hid
                  rw [app_strT, ← HI.out, HPC.out, HHD.out, HTL.out, if_pos ⟨hqn, by rw [hql]; exact hq8⟩]
                  simp only [List.append_assoc, List.cons_append, List.nil_append]
                clear hq0 hql hqn
                go_wp2_with fail
                refine (add_any (w := w2) w.heap.size ns2 cs2 (q ++ t.extract 0 1) HN2.out HT2.out _ HC2.out (by rw [List.length_append]; have := HPE.out; simp only [List.length_singleton]; omega) hz2).mono ?_
                rintro r w3 ⟨ns3, cs3, A3, B3, c3, d3, n3, rfl, hn3, htw3, hc3, hb3⟩
                have HN3 := Lib.hid hn3
                have HT3 := Lib.hid htw3
                have HC3 := Lib.hid hc3
                have HB3 : Hid (Below w.heap.size w w3) := HB2.out.trans hb3
                clear hn3 htw3 hc3 hb3
                go_wp2_with fail
                go_roundw
                case rel => exact ⟨n3, t.extract 1 t.size, t.extract 0 1, _, ns3, cs3, A3, B3, c3, d3, by rw [HTS.out]; omega, by rw [HPS.out]; omega, rfl, rfl, rfl, rfl, HN3.out, HT3.out, HC3.out, HR.out, HB3.out⟩
                case measure =>
                  show (t.extract 1 t.size).size < t.size
                  rw [HTS.out]; omega
              · have iq8 : ¬ (q.size : Int) + 1 ≤ 8 := by omega
                have HR : Hid ((P ++ [(t.extract 0 1).data.toList]) ++ piecesL (bytL2 T) (t.extract 0 1).data.toList (t.extract 1 t.size).data.toList ++ bagL (bytL2 T) ((bytL2 S).drop (k + 1)) = bag) := by
                  unfold Hid
                  rw [← HI.out, HPC.out, HHD.out, HTL.out, if_neg (fun e => hq8 (by have := e.2; rw [hql] at this; exact this))]
                  simp only [List.append_assoc, List.cons_append, List.nil_append]
                clear hq0 hql hqn
                go_wp2_with fail
                go_roundw
                case rel => exact ⟨n2, t.extract 1 t.size, t.extract 0 1, _, ns2, cs2, A2, B2, c2, d2, by rw [HTS.out]; omega, by rw [HPS.out]; omega, rfl, rfl, rfl, rfl, HN2.out, HT2.out, HC2.out, HR.out, HB2.out⟩
                case measure =>
                  show (t.extract 1 t.size).size < t.size
                  rw [HTS.out]; omega
          · obtain rfl : st = v2 := by have := HSP2.out; rw [if_neg hv0] at this; exact this
            clear HSP2
            have iv0 : ¬ (st : Int) = 0 := by omega
            have bv0 : ((st : Int) == 0) = false := by rw [beq_eq_false_iff_ne]; exact iv0
            go_wp2_with fail
            refine (HLG.out _ HB.out).mono ?_
            rintro r w1 ⟨rfl, m, rfl⟩
            have hb1 : Below w.heap.size w (wr.drewN m) := below_drewN' HB.out m
            have HT1 := Lib.hid (HTW.out.drewN m)
            generalize wr.drewN m = w1 at *
            have HB1 := Lib.hid hb1
            have hz1 := hb1.size
            clear hb1 HLG HTW HB
            have i8 : (st : Int) ≤ (t.size : Int) := by omega
            have HPE : Hid (P.length + 3 ≤ 100000000) := by
              have h1 := HBL.out
              rw [← HI.out, List.length_append, List.length_append] at h1
              unfold Hid
              omega
            have hps : (t.extract 0 st).size = st := by rw [ByteArray.size_extract]; omega
            have hts : (t.extract st t.size).size = t.size - st := by rw [ByteArray.size_extract]; omega
            have HHD := Lib.hid (headT t st)
            have HTL := Lib.hid (tailT t st)
            have HPS := Lib.hid hps
            have HTS := Lib.hid hts
            clear hps hts
            go_wp2_with fail
            refine (add_any (w := w1) w.heap.size ns cs (t.extract 0 st) HN.out HT1.out P HC.out (by have := HPE.out; omega) hz1).mono ?_
            rintro r w2 ⟨ns2, cs2, A2, B2, c2, d2, n2, rfl, hn2, htw2, hc2, hb2⟩
            have HN2 := Lib.hid hn2
            have HT2 := Lib.hid htw2
            have HC2 := Lib.hid hc2
            have HB2 : Hid (Below w.heap.size w w2) := HB1.out.trans hb2
            have hz2 := HB2.out.size
            clear hn2 htw2 hc2 hb2 HN HT1 HC HB1
            by_cases hq0 : q.size = 0
            · have hq1 : q.toList.isEmpty = true := by rw [Lib.toList_data, List.eq_nil_of_length_eq_zero (hql.trans hq0)]; rfl
              have HR : Hid ((P ++ [(t.extract 0 st).data.toList]) ++ piecesL (bytL2 T) (t.extract 0 st).data.toList (t.extract st t.size).data.toList ++ bagL (bytL2 T) ((bytL2 S).drop (k + 1)) = bag) := by
                unfold Hid
                rw [← HI.out, HPC.out, HHD.out, HTL.out, if_neg (fun e => e.1 (List.eq_nil_of_length_eq_zero (hql.trans hq0)))]
                simp only [List.append_assoc, List.cons_append, List.nil_append]
              clear hq0 hql
              go_wp2_with fail
              go_roundw
              case rel => exact ⟨n2, t.extract st t.size, t.extract 0 st, _, ns2, cs2, A2, B2, c2, d2, by rw [HTS.out]; omega, by rw [HPS.out]; omega, rfl, rfl, rfl, rfl, HN2.out, HT2.out, HC2.out, HR.out, HB2.out⟩
              case measure =>
                show (t.extract st t.size).size < t.size
                rw [HTS.out]; omega
            · have hq1 : q.toList.isEmpty = false := by
                rw [Lib.toList_data]
                exact List.isEmpty_eq_false_iff.2 (fun e => hq0 (by rw [← hql, e]; rfl))
              have hqn : q.data.toList ≠ [] := fun e => hq0 (by rw [← hql, e]; rfl)
              by_cases hq8 : q.size + st ≤ 8
              · have iq8 : (q.size : Int) + (st : Int) ≤ 8 := by omega
                have HR : Hid ((P ++ [(t.extract 0 st).data.toList] ++ [(q ++ t.extract 0 st).data.toList]) ++ piecesL (bytL2 T) (t.extract 0 st).data.toList (t.extract st t.size).data.toList ++ bagL (bytL2 T) ((bytL2 S).drop (k + 1)) = bag) := by
                  unfold Hid
                  rw [app_strT, ← HI.out, HPC.out, HHD.out, HTL.out, if_pos ⟨hqn, by rw [hql]; exact hq8⟩]
                  simp only [List.append_assoc, List.cons_append, List.nil_append]
                clear hq0 hql hqn
                go_wp2_with fail
                refine (add_any (w := w2) w.heap.size ns2 cs2 (q ++ t.extract 0 st) HN2.out HT2.out _ HC2.out (by rw [List.length_append]; have := HPE.out; simp only [List.length_singleton]; omega) hz2).mono ?_
                rintro r w3 ⟨ns3, cs3, A3, B3, c3, d3, n3, rfl, hn3, htw3, hc3, hb3⟩
                have HN3 := Lib.hid hn3
                have HT3 := Lib.hid htw3
                have HC3 := Lib.hid hc3
                have HB3 : Hid (Below w.heap.size w w3) := HB2.out.trans hb3
                clear hn3 htw3 hc3 hb3
                go_wp2_with fail
                go_roundw
                case rel => exact ⟨n3, t.extract st t.size, t.extract 0 st, _, ns3, cs3, A3, B3, c3, d3, by rw [HTS.out]; omega, by rw [HPS.out]; omega, rfl, rfl, rfl, rfl, HN3.out, HT3.out, HC3.out, HR.out, HB3.out⟩
                case measure =>
                  show (t.extract st t.size).size < t.size
                  rw [HTS.out]; omega
              · have iq8 : ¬ (q.size : Int) + (st : Int) ≤ 8 := by omega
                have HR : Hid ((P ++ [(t.extract 0 st).data.toList]) ++ piecesL (bytL2 T) (t.extract 0 st).data.toList (t.extract st t.size).data.toList ++ bagL (bytL2 T) ((bytL2 S).drop (k + 1)) = bag) := by
                  unfold Hid
                  rw [← HI.out, HPC.out, HHD.out, HTL.out, if_neg (fun e => hq8 (by have := e.2; rw [hql] at this; exact this))]
                  simp only [List.append_assoc, List.cons_append, List.nil_append]
                clear hq0 hql hqn
                go_wp2_with fail
                go_roundw
                case rel => exact ⟨n2, t.extract st t.size, t.extract 0 st, _, ns2, cs2, A2, B2, c2, d2, by rw [HTS.out]; omega, by rw [HPS.out]; omega, rfl, rfl, rfl, rfl, HN2.out, HT2.out, HC2.out, HR.out, HB2.out⟩
                case measure =>
                  show (t.extract st t.size).size < t.size
                  rw [HTS.out]; omega
        · have i0 : ¬ (0 : Int) < (t.size : Int) := by omega
          have ht0 : t.data.toList = [] := List.eq_nil_of_length_eq_zero (by rw [lenS]; omega)
          have HP2 : Hid (P ++ bagL (bytL2 T) ((bytL2 S).drop (k + 1)) = bag) := by
            have := HI.out
            rw [ht0, pieces_nil, List.append_nil] at this
            exact this
          clear ht0 HI
          go_wp2_with fail
          go_roundw
          case rel => exact ⟨k + 1, n, P, ns, cs, A1, B1, c1, d1, by omega, by go_num, rfl, rfl, HN.out, HTW.out, HC.out, HP2.out, HB.out⟩
          case measure => simp [intOf] <;> omega
    · have ik : ¬ (k : Int) < (S.length : Int) := by omega
      have hP : P = bag := by
        rw [← HI.out, List.drop_of_length_le (by rw [bytL2_length]; omega)]
        simp [bagL]
      have HC2 : Hid (Cnt bag (bytL2 ns) cs) := by unfold Hid; rw [← hP]; exact HC.out
      obtain ⟨wy, hwy⟩ : ∃ wy, wy = wr := ⟨_, rfl⟩
      subst hwy
      have hfew := HC2.out.few
      rw [bytL2_length] at hfew
      have hnl : n ≤ 1000000 := by have := HBL.out; have := HN.out; omega
      have HNS : Hid (∀ j (hj : j < ns.length), ns[j].size ≤ 8) := fun j hj => by
        have h1 : (bytL2 ns)[j]'(by rw [bytL2_length]; exact hj) ∈ bag := (HC2.out.mem _).1 (List.getElem_mem _)
        rw [bytL2_get ns j hj, ← HBG.out] at h1
        have := bag_ok H8.out h1
        rwa [lenS] at this
      have HNC : Hid (n = cs.length) := by have h1 := HC2.out.len; rw [bytL2_length] at h1; exact HN.out.trans h1
      have hr1 : Rd wy 0 wy.heap.size A1 c1 (sv ns) := by
        have h1 := HTW.out.o1
        rw [← HN.out] at h1
        exact rd_own h1
      have hr2 : Rd wy 0 wy.heap.size B1 d1 (nz cs) := by
        have h1 := HTW.out.o2
        rw [← HNC.out] at h1
        exact rd_own h1
      obtain ⟨w6, hmake, ho6, hg6⟩ := make_bools wy n (by omega)
      have hb6 : Below wy.heap.size wy w6 := (Below.refl _ wy).grown hg6 (Nat.le_refl _) (fun q hq => by cases hq)
      have hu := (own_lt ho6 (k := wy.heap.size) (by simp [Value.ownBlock])).2
      have hwz := HB.out.size
      have HR1 := Lib.hid hr1
      have HR2 := Lib.hid hr2
      have HU6 := Lib.hid ho6
      have HB6 := Lib.hid hb6
      have HCN := Lib.hid HC2.out.cnt
      clear hr1 hr2 ho6 hg6 hb6 HI HC hP hfew HTW
      go_wp2_with fail
      go_loopw [13] (fun x13 wv => ∃ (ks : List Nat) (bs : List ByteArray) (A5 : Option Addr) (c5 : Nat), x13 = .slice A5 ks.length c5 ∧ bs = ks.map (fun j => ns.getD j ⟨#[]⟩) ∧ ks.length ≤ 255 ∧ Sel bag (bytL2 ns) ks ∧
        wv.ownsRow wy.heap.size 4 1 (.slice (some ⟨wy.heap.size, 0, none⟩) n n) n (lv (usL n ks)) ∧ wv.ownsRow (wy.heap.size + 1) 9 1 (.slice A5 ks.length c5) ks.length (sv bs) ∧ Below wy.heap.size wy wv ∧ wy.heap.size + 1 ≤ wv.heap.size) (fun x13 _ => (match x13 with | .slice _ m _ => 255 - m | _ => 0))
      case atStart => exact ⟨[], [], none, 0, rfl, rfl, Nat.zero_le _, Sel.nil _ _, by rw [usL_nil]; exact HU6.out, World.ownsRow_nil _ _ _ _, HB6.out, hu⟩
      case round =>
        clear HU6 HB6
        obtain ⟨ks, bs, A5, c5, rfl, hbs, hk5, hsel, hus, hbo, hbv, hzv⟩ := hrel
        obtain ⟨wv, hwv⟩ : ∃ wv, wv = wr := ⟨_, rfl⟩
        subst hwv
        have HBS := Lib.hid hbs
        have HSL := Lib.hid hsel
        have HUS := Lib.hid hus
        have HBO := Lib.hid hbo
        have HBV := Lib.hid hbv
        clear hbs hsel hus hbo hbv
        by_cases h255 : ks.length < 255
        · have i255 : (ks.length : Int) < 255 := by omega
          go_wp2_with fail
          go_loopw [15, 16] (fun x15 x16 wi => ∃ (i m : Nat) (kk : Int), i ≤ n ∧ x16 = .int .i64 (i : Int) ∧ x15 = .int .i64 kk ∧ Lead bag (bytL2 ns) ks i kk ∧ wi = wv.drewN m) (fun _ x16 _ => n - (intOf x16).toNat)
          case atStart => exact ⟨0, 0, -1, Nat.zero_le _, rfl, rfl, Or.inl ⟨rfl, fun j _ h => absurd h (Nat.not_lt_zero j)⟩, rfl⟩
          case round =>
            obtain ⟨i, m, kk, hi, rfl, rfl, hlead, rfl⟩ := hrel
            have HLD := Lib.hid hlead
            clear hlead
            by_cases hin : i < n
            · have ii : (i : Int) < (n : Int) := by omega
              have hil : i < ns.length := by have := HN.out; omega
              have hic : i < cs.length := by have := HNC.out; omega
              have hcu0 := HUS.out.cells (g := wy.heap.size) (by simp [Value.ownBlock]) i (.bool (decide (i ∈ ks))) (by rw [lv_get _ _ (by rw [usL_length]; exact hin), usL_get _ hin])
              rw [lit_add] at hcu0
              by_cases hmem : i ∈ ks
              · have hcu : wv.cell? ⟨wy.heap.size, i, none⟩ = some (.bool true) := by rw [hcu0, decide_eq_true hmem]
                have HL2 := Lib.hid (lead_used HLD.out hmem)
                clear hcu0 hmem
                go_wp2_with fail
                go_roundw
                case rel => exact ⟨i + 1, m, kk, by omega, by go_num, rfl, HL2.out, rfl⟩
                case measure => simp [intOf] <;> omega
              · have hcu : wv.cell? ⟨wy.heap.size, i, none⟩ = some (.bool false) := by rw [hcu0, decide_eq_false hmem]
                clear hcu0
                obtain ⟨b1, off1, rfl, -, -, -⟩ := (HR1.out.below HBV.out (Nat.le_refl _)).str hil
                obtain ⟨b2, off2, rfl, -, -, -⟩ := Rd.num (zs := cs.map fun (n : Nat) => (n : Int)) (HR2.out.below HBV.out (Nat.le_refl _)) (k := i) (by rw [List.length_map]; exact hic)
                have hsp := spot_of (HR1.out.below HBV.out (Nat.le_refl _)) (HR2.out.below HBV.out (Nat.le_refl _)) hil hic (HNS.out i hil) (Nat.le_trans (HC2.out.low hic) HBL.out)
                rcases HLD.out with ⟨hk1, hall⟩ | ⟨k2, hk2, hkk, hki, hkn, hbt⟩
                · subst hk1
                  have HL2 : Hid (Lead bag (bytL2 ns) ks (i + 1) (i : Int)) := lead_first hall (by rw [bytL2_length]; exact hil) hmem
                  clear hall hmem HLD
                  obtain ⟨t, z, G, hcn, hcc, lt, lz, hw1, hw2, lg⟩ : ∃ t z G, Spot wv b1 off1 b2 off2 i t z G := ⟨_, _, _, hsp⟩
                  clear hsp
                  go_wp2_with fail
                  go_quiet (fail)
                  go_wp2_with fail
                  go_quiet (fail)
                  go_wp2_with fail
                  go_roundw
                  case rel => exact ⟨i + 1, _, (i : Int), by omega, by go_num, rfl, HL2.out, by first | rfl | (rw [World.drewN_drewN]; rfl) | (rw [World.drewN_drewN, World.drewN_drewN])⟩
                  case measure => simp [intOf] <;> omega
                · subst hkk
                  have hkl : k2 < ns.length := by rw [bytL2_length] at hk2; exact hk2
                  have hkc : k2 < cs.length := by have := HN.out; have := HNC.out; omega
                  have hsq := spot_of (HR1.out.below HBV.out (Nat.le_refl _)) (HR2.out.below HBV.out (Nat.le_refl _)) hkl hkc (HNS.out k2 hkl) (Nat.le_trans (HC2.out.low hkc) HBL.out)
                  obtain ⟨g1, g2, g3, g4⟩ := rival HC2.out hil hic hkl hkc hki hkn hmem hbt
                  have hcmp := fun w => refCompare_any (w := w) ns[i] ns[k2] (by have := HNS.out i hil; omega) (by have := HNS.out k2 hkl; omega)
                  obtain ⟨t, t2, z, z2, G, G2, zz, hs1, hs2, HCM, G1, G2', G3, G4⟩ : ∃ (t t2 : ByteArray) (z z2 G G2 : Nat) (zz : Int), Spot wv b1 off1 b2 off2 i t z G ∧ Spot wv b1 off1 b2 off2 k2 t2 z2 G2 ∧
                      Hid (∀ w, Calls Tryz.prog 58 #[.string t, .string t2] w fun r w' => r = .returned (.int .i64 zz) ∧ ∃ m, w' = w.drewN m) ∧ Hid (G2 < G → Lead bag (bytL2 ns) ks (i + 1) (i : Int)) ∧ Hid (G = G2 → zz < 0 → Lead bag (bytL2 ns) ks (i + 1) (i : Int)) ∧
                      Hid (G = G2 → ¬ zz < 0 → Lead bag (bytL2 ns) ks (i + 1) (k2 : Int)) ∧ Hid (G < G2 → Lead bag (bytL2 ns) ks (i + 1) (k2 : Int)) := ⟨_, _, _, _, _, _, _, hsp, hsq, hcmp, g1, g2, g3, g4⟩
                  obtain ⟨hcn, hcc, lt, lz, hw1, hw2, lg⟩ := hs1
                  obtain ⟨hcn2, hcc2, lt2, lz2, hw3, hw4, lg2⟩ := hs2
                  have dk : decide ((k2 : Int) < 0) = false := decide_eq_false (by omega)
                  have ik2 : (k2 : Int) < (n : Int) := by have := HN.out; omega
                  have nk2 : k2 < n := by omega
                  clear hbt hmem HLD hk2 hsp hsq g1 g2 g3 g4 hcmp
                  by_cases hgt : G2 < G
                  · have d1 : decide (G2 < G) = true := decide_eq_true hgt
                    have HL2 := Lib.hid (G1.out hgt)
                    clear hgt G1 G2' G3 G4 HCM
                    go_wp2_with fail
                    go_quiet (fail)
                    go_wp2_with fail
                    go_quiet (fail)
                    go_wp2_with fail
                    go_roundw
                    case rel => exact ⟨i + 1, _, (i : Int), by omega, by go_num, rfl, HL2.out, by first | rfl | (rw [World.drewN_drewN]; rfl) | (rw [World.drewN_drewN, World.drewN_drewN])⟩
                    case measure => simp [intOf] <;> omega
                  · have d1 : decide (G2 < G) = false := decide_eq_false hgt
                    by_cases heq : G = G2
                    · have e1 : ((G : Int) == (G2 : Int)) = true := by rw [heq]; exact beq_self_eq_true _
                      by_cases hz : zz < 0
                      · have dz : decide (zz < 0) = true := decide_eq_true hz
                        have HL2 := Lib.hid (G2'.out heq hz)
                        clear hgt heq G1 G2' G3 G4
                        go_wp2_with fail
                        go_quiet (fail)
                        go_wp2_with fail
                        go_quiet ((go_at_call 58; exact quiet_draws_on (HCM.out _)))
                        go_wp2_with fail
                        go_roundw
                        case rel => exact ⟨i + 1, _, (i : Int), by omega, by go_num, rfl, HL2.out, by first | rfl | (rw [World.drewN_drewN]; rfl) | (rw [World.drewN_drewN, World.drewN_drewN])⟩
                        case measure => simp [intOf] <;> omega
                      · have dz : decide (zz < 0) = false := decide_eq_false hz
                        have HL2 := Lib.hid (G3.out heq hz)
                        clear hgt heq G1 G2' G3 G4
                        go_wp2_with fail
                        go_quiet (fail)
                        go_wp2_with fail
                        go_quiet ((go_at_call 58; exact quiet_draws_on (HCM.out _)))
                        go_wp2_with fail
                        go_roundw
                        case rel => exact ⟨i + 1, _, (k2 : Int), by omega, by go_num, rfl, HL2.out, by first | rfl | (rw [World.drewN_drewN]; rfl) | (rw [World.drewN_drewN, World.drewN_drewN])⟩
                        case measure => simp [intOf] <;> omega
                    · have e1 : ((G : Int) == (G2 : Int)) = false := by rw [beq_eq_false_iff_ne]; omega
                      have HL2 := Lib.hid (G4.out (by omega))
                      clear hgt heq G1 G2' G3 G4 HCM
                      go_wp2_with fail
                      go_quiet (fail)
                      go_wp2_with fail
                      go_quiet (fail)
                      go_wp2_with fail
                      go_roundw
                      case rel => exact ⟨i + 1, _, (k2 : Int), by omega, by go_num, rfl, HL2.out, by first | rfl | (rw [World.drewN_drewN]; rfl) | (rw [World.drewN_drewN, World.drewN_drewN])⟩
                      case measure => simp [intOf] <;> omega
            · have ii : ¬ (i : Int) < (n : Int) := by omega
              rcases HLD.out with ⟨hk1, hall⟩ | ⟨k2, hk2, hkk, hki, hkn, hbt⟩
              · subst hk1
                have HALL : Hid (∀ j, j < ns.length → j ∈ ks) := fun j hj => hall j (by rw [bytL2_length]; exact hj) (by have := HN.out; omega)
                have hbl : Below w.heap.size w (wv.drewN m) := below_drewN' (HB.out.trans (HBV.out.mono hwz)) m
                have HBL2 := Lib.hid hbl
                have HO2 := Lib.hid (show (wv.drewN m).ownsRow (wy.heap.size + 1) 9 1 (.slice A5 ks.length c5) ks.length (sv bs) from own_keep HBO.out (fun _ _ => rfl))
                have hbs := HBS.out
                subst hbs
                clear hall hbl HLD
                go_wp2_with fail
                refine (round_end HC2.out HSL.out hk5 (Or.inr HALL.out) HNS.out HO2.out HBL2.out).mono ?_
                rintro r w' ⟨t, A', c', rfl, h1, h2, h3⟩
                go_wp2_with fail
                go_ret
                exact ⟨t, A', c', rfl, h1, h2, h3⟩
              · subst hkk
                have hk3 := hk2
                rw [bytL2_length] at hk3
                have hkn2 : k2 < n := by omega
                have HSN : Hid (Sel bag (bytL2 ns) (ks ++ [k2])) := HSL.out.snoc hk2 hkn (fun j hj hjn hne => hbt j hj (by rw [bytL2_length] at hj; have := HN.out; omega) hjn hne)
                obtain ⟨b1, off1, rfl, _, hb1, hcn⟩ := (HR1.out.below HBV.out (Nat.le_refl _)).str hk3
                have HNK : Hid (ns.getD k2 ⟨#[]⟩ = ns[k2]) := getD_atS hk3 _
                obtain ⟨t, hcn0, HNT⟩ : ∃ t, wv.cell? ⟨b1, off1 + k2, none⟩ = some (.string t) ∧ Hid (ns.getD k2 ⟨#[]⟩ = t) := ⟨_, hcn, HNK.out⟩
                have hbsl : ks.length = bs.length := by rw [HBS.out, List.length_map]
                obtain ⟨hfr, hcx, A6, c6, w6, hrun, ho6, hbo6, hb6, hz6⟩ := chosen (wv := wv.drewN m) t (own_keep HUS.out (fun _ _ => rfl)) (own_keep HBO.out (fun _ _ => rfl)) hbsl hkn2 hkn (by omega) hzv
                have hcn3 : ((wv.drewN m).setCell ⟨wy.heap.size, k2, none⟩ (.bool true)).cell? ⟨b1, off1 + k2, none⟩ = some (.string t) := by
                  rw [World.cell?_setCell_other]
                  · exact hcn0
                  · intro e
                    injection e with e1 e2
                    omega
                have hcn4 : (wv.drewN m).cell? ⟨b1, off1 + k2, none⟩ = some (.string t) := hcn0
                have HU6 := Lib.hid ho6
                have HB6 := Lib.hid hbo6
                have HV6 : Hid (Below wy.heap.size wy w6) := HBV.out.trans (below_below (below_drewN' (Below.refl _ wv) m) hb6 (Nat.le_refl _))
                have HBSN : Hid (bs ++ [t] = (ks ++ [k2]).map fun j => ns.getD j ⟨#[]⟩) := by
                  unfold Hid
                  rw [List.map_append, ← HBS.out, List.map_cons, List.map_nil, HNT.out]
                have ik2 : (k2 : Int) < (n : Int) := by omega
                have nk2 : ¬ (k2 : Int) < 0 := by omega
                clear hbt hkn hk2 hcn hcn0 ho6 hbo6 hb6 HLD hbsl
                go_wp2_with (at_builtin; refine wpList_append_run rfl _ _ _ _ rfl rfl rfl hrun ?_)
                go_roundw
                case rel => exact ⟨ks ++ [k2], bs ++ [t], A6, c6, by rw [List.length_append]; rfl, HBSN.out, by rw [List.length_append, List.length_cons, List.length_nil]; omega, HSN.out, HU6.out, by rw [List.length_append, List.length_cons, List.length_nil]; exact HB6.out, HV6.out, hz6⟩
                case measure => simp only [List.length_append] <;> omega
        · have i255 : ¬ (ks.length : Int) < 255 := by omega
          have hbl : Below w.heap.size w wv := HB.out.trans (HBV.out.mono hwz)
          have HBL2 := Lib.hid hbl
          have hbs := HBS.out
          subst hbs
          clear hbl
          go_wp2_with fail
          refine (round_end HC2.out HSL.out hk5 (Or.inl (by omega)) HNS.out HBO.out HBL2.out).mono ?_
          rintro r w' ⟨t, A', c', rfl, h1, h2, h3⟩
          go_wp2_with fail
          go_ret
          exact ⟨t, A', c', rfl, h1, h2, h3⟩
end Go.Proofs.YtmffpbhiehjlpaaGreat
