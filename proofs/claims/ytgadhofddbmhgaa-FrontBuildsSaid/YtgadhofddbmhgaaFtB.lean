/-
  The front package: right, code.
-/
import Derived.Test.YtgadhofddbmhgaaFtA
import Derived.Test.YtgadhofddbmhgaaMgF
import Derived.Test.YtgadhofddbmhgaaMgC
namespace Go.Proofs.Ytgadhofddbmhgaa
set_option linter.unusedSimpArgs false
set_option linter.unusedVariables false
open Go.RowKit

theorem bytL2_tk (l : List ByteArray) (k : Nat) : bytL2 (l.take k) = (bytL2 l).take k := by simp [bytL2, List.map_take]
theorem bytL2_take_succ {l : List ByteArray} {k : Nat} (hk : k < l.length) : (bytL2 l).take (k + 1) = (bytL2 l).take k ++ [l[k].data.toList] := by
  rw [List.take_succ_eq_append_getElem (by rw [bytL2_length]; exact hk), bytL2_get l k hk]
set_option maxRecDepth 20000 in
set_option maxHeartbeats 1000000 in
theorem fright_any {w : World} (l : List ByteArray) {lo hi c : Nat} {A : Option Addr} (h : Rd w lo hi A c (sv l)) (h1k : ∀ s ∈ l, s.size ≤ 9223372036854775807) :
    Calls Try.prog 26 #[.slice A l.length c] w fun r w' => r = .returned (.bool (dicL (bytL2 l))) ∧ w = w' := by
  have hl := h.len
  have hm := h.cap
  rw [sv_length] at hl
  unfold maxLen at hm
  by_cases h4 : 4096 < l.length
  · have hv : dicL (bytL2 l) = false := by
      unfold dicL
      rw [bytL2_length, decide_eq_false (p := l.length ≤ 4096) (by omega), Bool.false_and, Bool.false_and]
    rw [hv]
    have i4 : (4096 : Int) < (l.length : Int) := by omega
    have d4 : decide ((4096 : Int) < (l.length : Int)) = true := decide_eq_true i4
    go_enter Try.func26, Try.ntmps26
    go_wp2_with fail
    go_ret
    exact ⟨rfl, rfl⟩
  · have d4 : decide ((4096 : Int) < (l.length : Int)) = false := decide_eq_false (by omega)
    have H := Lib.hid h
    have H1 : Hid (∀ k (hk : k < l.length), l[k].size ≤ 9223372036854775807) := fun k hk => h1k _ (List.getElem_mem hk)
    obtain ⟨v, hv⟩ : ∃ v, dicL (bytL2 l) = v := ⟨_, rfl⟩
    rw [hv]
    rw [dic_good, bytL2_length, decide_eq_true (p := l.length ≤ 4096) (by omega), Bool.true_and] at hv
    have HNO : Hid (∀ k (hk : k < l.length), follL (bytL2 (l.take k)) l[k].data.toList = false → v = false) := fun k hk hf => by
      cases hvv : v with
      | false => rfl
      | true =>
        rw [hvv] at hv
        have h2 := good_app (l := (bytL2 l).take (k + 1)) (t := (bytL2 l).drop (k + 1)) (by rw [List.take_append_drop]; exact hv)
        rw [bytL2_take_succ hk, good_snoc, ← bytL2_tk, hf, Bool.and_false] at h2
        cases h2
    have HYES : Hid (∀ k (hk : k < l.length), goodL ((bytL2 l).take k) = true → follL (bytL2 (l.take k)) l[k].data.toList = true → goodL ((bytL2 l).take (k + 1)) = true) := fun k hk hg hf => by
      rw [bytL2_take_succ hk, good_snoc, ← bytL2_tk, hf, bytL2_tk, hg]
      rfl
    have HEND : Hid (goodL ((bytL2 l).take l.length) = true → v = true) := fun hg => by
      rw [List.take_of_length_le (by rw [bytL2_length]; exact Nat.le_refl _)] at hg
      rw [← hv, hg]
    clear h h1k hv
    go_enter Try.func26, Try.ntmps26
    go_wp2_with fail
    go_loop [10] (fun i => ∃ k : Nat, k ≤ l.length ∧ i = .int .i64 (k : Int) ∧ goodL ((bytL2 l).take k) = true) (fun i => l.length - (intOf i).toNat)
    case atStart => exact ⟨0, Nat.zero_le _, rfl, rfl⟩
    case round =>
      obtain ⟨k, hk, rfl, hg⟩ := hrel
      have HG := Lib.hid hg
      clear hg
      by_cases hlt : k < l.length
      · have ik : (k : Int) < (l.length : Int) := by omega
        have hkc : (k : Int) ≤ (c : Int) := by omega
        have HFO := Lib.hid (ffollows_any (l.take k) l[k] (n := k) (by rw [List.length_take]; omega) (by rw [sv_take]; exact H.out.take_ k) (H1.out k hlt))
        have HN := Lib.hid (HNO.out k hlt)
        have HY := Lib.hid (HYES.out k hlt HG.out)
        obtain ⟨b, off, rfl, _, _, hcell⟩ := H.out.str hlt
        generalize l[k] = s at *
        obtain ⟨f, hf⟩ : ∃ f, follL (bytL2 (l.take k)) s.data.toList = f := ⟨_, rfl⟩
        rw [hf] at HFO HN HY
        clear hf HNO HYES HEND
        cases f with
        | true =>
          have HGG := Lib.hid (HY.out rfl)
          go_wp2_with fail
          refine HFO.out.mono ?_
          rintro r w' ⟨rfl, rfl⟩
          go_wp2_with fail
          go_round
          case rel => exact ⟨k + 1, by omega, by go_num, HGG.out⟩
          case measure => simp [intOf]; omega
        | false =>
          have HVV := Lib.hid (HN.out rfl)
          go_wp2_with fail
          refine HFO.out.mono ?_
          rintro r w' ⟨rfl, rfl⟩
          go_wp2_with fail
          go_ret
          exact ⟨ret_bool HVV.out.symm, rfl⟩
      · have hke : k = l.length := by omega
        have ik : ¬ (k : Int) < (l.length : Int) := by omega
        have HV : Hid (v = true) := HEND.out (by rw [← hke]; exact HG.out)
        go_wp2_with fail
        go_ret
        exact ⟨ret_bool HV.out.symm, rfl⟩

theorem blk_len {t : List (List UInt8)} (h : ∀ s ∈ t, s.length ≤ 4096) : (blkL t).length ≤ 4200 * t.length := by
  have h1 := ents_blk (K := t.length) (i := 0) (l := t) (j := t.length) (Nat.le_refl _) (by omega)
  have h2 := ents_len t.length h (0 * t.length + t.length)
  rw [h1, List.length_append, Nat.zero_mul, List.drop_zero, List.take_of_length_le (Nat.le_refl _)] at h2
  omega
set_option maxRecDepth 20000 in
set_option maxHeartbeats 1000000 in
theorem fcode_one {w : World} (x : ByteArray) (hx : x.size ≤ 4096) {c : Nat} {A : Option Addr} (h : Rd w 0 w.heap.size A c (sv [x])) :
    Calls Try.prog 28 #[.slice A 1 c] w fun r w' => ∃ A' c', r = .returned (.slice A' (textL x.data.toList).length c') ∧
      w'.ownsRow w.heap.size 5 1 (.slice A' (textL x.data.toList).length c') (textL x.data.toList).length (bv (textL x.data.toList)) ∧ Below w.heap.size w w' := by
  have hl : 1 ≤ c := h.len
  have hm := h.cap
  unfold maxLen at hm
  obtain ⟨b, off, rfl, _, hbh, hcell0⟩ := h.str (k := 0) (l := [x]) (by simp)
  rw [Nat.add_zero] at hcell0
  rw [List.getElem_cons_zero] at hcell0
  clear h
  by_cases hc1 : c = 1
  · subst hc1
    go_enter Try.func28, Try.ntmps28
    go_wp2_with fail
    refine (putText_any x (by omega)).mono ?_
    rintro r w1 ⟨A1, c1, rfl, hown1, hbel1⟩
    have HO1 := Lib.hid hown1
    have HB1 := Lib.hid hbel1
    clear hown1 hbel1 hcell0
    go_wp2_with fail
    go_loop [3, 14] (fun x3 x14 => x3 = .slice A1 (textL x.data.toList).length c1 ∧ x14 = .int .i64 0) (fun _ _ => 0)
    case atStart => exact ⟨rfl, rfl⟩
    case round =>
      obtain ⟨rfl, rfl⟩ := hrel
      go_wp2_with fail
      go_ret
      exact ⟨A1, c1, rfl, HO1.out, HB1.out⟩
  · go_enter Try.func28, Try.ntmps28
    go_wp2_with fail
    refine (putText_any x (by omega)).mono ?_
    rintro r w1 ⟨A1, c1, rfl, hown1, hbel1⟩
    have HO1 := Lib.hid hown1
    have HB1 := Lib.hid hbel1
    clear hown1 hbel1 hcell0
    go_wp2_with fail
    go_loop [3, 14] (fun x3 x14 => x3 = .slice A1 (textL x.data.toList).length c1 ∧ x14 = .int .i64 0) (fun _ _ => 0)
    case atStart => exact ⟨rfl, rfl⟩
    case round =>
      obtain ⟨rfl, rfl⟩ := hrel
      go_wp2_with fail
      go_ret
      exact ⟨A1, c1, rfl, HO1.out, HB1.out⟩
set_option maxRecDepth 20000 in
set_option maxHeartbeats 4000000 in
theorem fcode_more {w : World} (l : List ByteArray) {m : Nat} (hn : l.length = m + 1) (h0m : 0 < m) (hm4 : m + 1 ≤ 4096) {c : Nat} {A : Option Addr} (h : Rd w 0 w.heap.size A c (sv l)) (h4 : ∀ s ∈ l, s.size ≤ 4096) :
    Calls Try.prog 28 #[.slice A (m + 1) c] w fun r w' => ∃ A' c', r = .returned (.slice A' (blkL (bytL2 l)).length c') ∧
      w'.ownsRow w.heap.size 5 1 (.slice A' (blkL (bytL2 l)).length c') (blkL (bytL2 l)).length (bv (blkL (bytL2 l))) ∧ Below w.heap.size w w' := by
  have hl := h.len
  have hm := h.cap
  rw [sv_length, hn] at hl
  unfold maxLen at hm
  have hc1 : ¬ c = 1 := by omega
  have H := Lib.hid h
  have HN := Lib.hid hn
  have H1 : Hid (∀ k (hk : k < l.length), l[k].size ≤ 4096) := fun k hk => h4 _ (List.getElem_mem hk)
  have HBL : Hid (∀ k, k ≤ m + 1 → (blkL ((bytL2 l).take k)).length ≤ 4200 * k) := fun k hk => by
    have := blk_len (t := (bytL2 l).take k) fun s hs => by
      obtain ⟨x, hx, rfl⟩ := List.mem_map.1 (List.mem_of_mem_take hs)
      rw [lenD]
      exact h4 x hx
    rw [List.length_take, bytL2_length] at this
    omega
  have HST : Hid (∀ k (hj : k < l.length) (hk : k + 1 < l.length), blkL ((bytL2 l).take (k + 2)) = blkL ((bytL2 l).take (k + 1)) ++ (putL (shareN l[k].data.toList l[k + 1].data.toList) ++ textL (l[k + 1].data.toList.drop (shareN l[k].data.toList l[k + 1].data.toList)))) := fun k hj hk => by
    have hne : (bytL2 l).take (k + 1) ≠ [] := fun e => by
      have := congrArg List.length e
      rw [List.length_take, bytL2_length, List.length_nil] at this
      omega
    rw [bytL2_take_succ (k := k + 1) hk, blkL_snoc hne, lastD_take (by rw [bytL2_length]; omega), bytL2_get l k (by omega)]
  have hp0 : 0 < l.length := by omega
  have HS1 : Hid (blkL ((bytL2 l).take 1) = textL l[0].data.toList) := by
    unfold Hid
    rw [bytL2_take_succ (k := 0) hp0]
    simp [blkL, entsR]
  have HEND : Hid ((bytL2 l).take (m + 1) = bytL2 l) := List.take_of_length_le (by rw [bytL2_length]; omega)
  have h0 := H1.out 0 hp0
  obtain ⟨b, off, rfl, _, hbh, hcell0⟩ := h.str (k := 0) hp0
  rw [Nat.add_zero] at hcell0
  clear h hn h4
  generalize l[0] = x0 at *
  clear hp0
  go_enter Try.func28, Try.ntmps28
  go_wp2_with fail
  refine (putText_any x0 (by omega)).mono ?_
  rintro r w1 ⟨A1, c1, rfl, hown1, hbel1⟩
  rw [← HS1.out] at hown1 ⊢
  have HO1 := Lib.hid hown1
  have HB1 := Lib.hid hbel1
  clear hown1 hbel1 hcell0
  go_wp2_with fail
  go_loopw [3, 14] (fun x3 x14 wr => ∃ (k n : Nat) (A' : Option Addr) (c' : Nat), k ≤ m ∧ x14 = .int .i64 (k : Int) ∧ x3 = .slice A' n c' ∧ n = (blkL ((bytL2 l).take (k + 1))).length ∧
    wr.ownsRow w.heap.size 5 1 (.slice A' n c') n (bv (blkL ((bytL2 l).take (k + 1)))) ∧ Below w.heap.size w wr) (fun _ i _ => m - (intOf i).toNat)
  case atStart => exact ⟨0, _, A1, c1, Nat.zero_le _, rfl, rfl, rfl, HO1.out, HB1.out⟩
  case round =>
    clear HO1 HB1
    obtain ⟨k, n, A', c', hk, rfl, rfl, hnl, hown, hb⟩ := hrel
    have HNL := Lib.hid hnl
    have HO := Lib.hid hown
    have HB := Lib.hid hb
    have hsz := hb.size
    have hnb : n ≤ 4200 * 4096 := by have := HBL.out (k + 1) (by omega); omega
    clear hnl hown hb
    by_cases hlt : k < m
    · have ik : (k : Int) < (m : Int) := by omega
      have HN2 := HN.out
      have hk1 : k < l.length := by omega
      have hk2 : k + 1 < l.length := by omega
      clear HN2
      have hr1 := (H.out.below HB.out (Nat.le_refl _)).str hk1
      have hr2 := (H.out.below HB.out (Nat.le_refl _)).str hk2
      obtain ⟨b', off', e1, _, _, hcell1⟩ := hr1
      injection e1 with e1
      injection e1 with e1 e2
      subst e1 e2
      obtain ⟨b', off', e1, _, _, hcell2⟩ := hr2
      injection e1 with e1
      injection e1 with e1 e2
      subst e1 e2
      have z1 := H1.out k hk1
      have z2 := H1.out (k + 1) hk2
      have HSS := Lib.hid (HST.out k hk1 hk2)
      generalize l[k] = x at *
      generalize l[k + 1] = y at *
      have hcell3 : wr.cell? ⟨b, off + 1 + k, none⟩ = some (.string y) := by rw [show off + 1 + k = off + (k + 1) by omega]; exact hcell2
      have HAL := Lib.hid (fun w => alike_any (w := w) x y (by omega) (by omega))
      have hsh := (share_le x.data.toList y.data.toList).2
      rw [lenD] at hsh
      generalize shareN x.data.toList y.data.toList = q at *
      have hte := tailD y q
      have htz := tailD_size y q
      go_wp2_with fail
      refine (HAL.out _).mono ?_
      rintro r w2 ⟨rfl, mq, rfl⟩
      have HO2 := Lib.hid (own_keep (w' := wr.drewN mq) HO.out (fun _ _ => rfl))
      have HB2 : Hid (Below w.heap.size w (wr.drewN mq)) := below_drewN' HB.out mq
      clear HO HB hcell1 hcell2 hcell3
      go_wp2_with fail
      refine (put_any q (by omega)).mono ?_
      rintro r w3 ⟨A3, c3, rfl, hown3, hb3⟩
      have hp9 := putL_nine q (by omega)
      obtain ⟨us, hus⟩ : ∃ us, blkL ((bytL2 l).take (k + 1)) ++ putL q = us := ⟨_, rfl⟩
      have hul : us.length = n + (putL q).length := by rw [← hus, List.length_append, ← HNL.out]
      have ho3 := own_below HO2.out hb3 (Nat.le_refl _)
      rw [HNL.out] at ho3
      have hsz3 : w.heap.size ≤ w3.heap.size := Nat.le_trans hsz hb3.size
      obtain ⟨A4, c4, w4, hrun4, hown4, hg4⟩ := append_named w3 w.heap.size _ _ (putL q) us hus ho3 (Rd.of_own hown3) (by rw [← HNL.out]; omega) hsz3
      rw [← HNL.out] at hrun4
      have hb4 : Below w.heap.size w w4 := (below_below HB2.out hb3 hsz).grown hg4 hsz3 (fun g hg => (own_lt ho3 hg).1)
      have HO4 := Lib.hid hown4
      have HB4 := Lib.hid hb4
      have hub : us.length ≤ 4200 * 4096 + 9 := by omega
      have HUS := Lib.hid hus
      have hsz4 := hb4.size
      clear hown3 hb3 ho3 hown4 hg4 hb4 HO2 HB2 hul hus
      go_wp2_with (at_builtin; refine wpList_append_run rfl _ _ _ _ rfl rfl rfl hrun4 ?_; refine held ?_)
      refine ⟨?_⟩
      clear hrun4
      go_wp2_with fail
      refine (putText_any (y.extract q y.size) (by omega)).mono ?_
      rintro r w5 ⟨A5, c5, rfl, hown5, hb5⟩
      have htl : (textL (y.extract q y.size).data.toList).length ≤ 4200 := by
        rw [textL, List.length_append, lenD]
        have := putL_nine (y.extract q y.size).size (by omega)
        omega
      obtain ⟨T, hT⟩ : ∃ T, textL (y.extract q y.size).data.toList = T := ⟨_, rfl⟩
      rw [hT] at hown5 htl ⊢
      rw [hte] at hT
      obtain ⟨vs, hvs⟩ : ∃ vs, us ++ T = vs := ⟨_, rfl⟩
      have ho5 := own_below HO4.out hb5 (Nat.le_refl _)
      have hsz5 : w.heap.size ≤ w5.heap.size := Nat.le_trans hsz4 hb5.size
      obtain ⟨A6, c6, w6, hrun6, hown6, hg6⟩ := append_named w5 w.heap.size _ _ _ vs hvs ho5 (Rd.of_own hown5) (by omega) hsz5
      have hb6 : Below w.heap.size w w6 := (below_below HB4.out hb5 hsz4).grown hg6 hsz5 (fun g hg => (own_lt ho5 hg).1)
      have hfin : blkL ((bytL2 l).take (k + 1 + 1)) = vs := by
        rw [← hvs, ← hT, ← HUS.out, List.append_assoc]
        exact HSS.out
      have HO6 := Lib.hid hown6
      have HB6 := Lib.hid hb6
      have HF := Lib.hid hfin
      clear hown5 hb5 ho5 hown6 hg6 hb6 HO4 HB4 hvs htl hfin hte htz hT
      generalize y.extract q y.size = ye at *
      go_wp2_with (at_builtin; refine wpList_append_run rfl _ _ _ _ rfl rfl rfl hrun6 ?_; refine held ?_)
      refine ⟨?_⟩
      clear hrun6
      go_wp2_with fail
      go_roundw
      case rel => exact ⟨k + 1, vs.length, A6, c6, by omega, by go_num, rfl, by rw [HF.out], by rw [HF.out]; exact HO6.out, HB6.out⟩
      case measure => simp [intOf]; omega
    · obtain rfl : k = m := by omega
      have HO2 := HO.out
      have HNL2 := HNL.out
      rw [HEND.out] at HO2 HNL2
      have HO3 := Lib.hid HO2
      have HN3 := Lib.hid HNL2
      clear HO2 HNL2
      go_wp2_with fail
      go_ret
      exact ⟨A', c', by rw [← HN3.out]; rfl, by rw [← HN3.out]; exact HO3.out, HB.out⟩
theorem fcode_any {w : World} (l : List ByteArray) {m : Nat} (hn : l.length = m + 1) (hm4 : m + 1 ≤ 4096) {c : Nat} {A : Option Addr} (h : Rd w 0 w.heap.size A c (sv l)) (h4 : ∀ s ∈ l, s.size ≤ 4096) :
    Calls Try.prog 28 #[.slice A (m + 1) c] w fun r w' => ∃ A' c', r = .returned (.slice A' (blkL (bytL2 l)).length c') ∧
      w'.ownsRow w.heap.size 5 1 (.slice A' (blkL (bytL2 l)).length c') (blkL (bytL2 l)).length (bv (blkL (bytL2 l))) ∧ Below w.heap.size w w' := by
  rcases Nat.eq_zero_or_pos m with rfl | hp
  · match l, hn with
    | [x], _ =>
      have e : blkL (bytL2 [x]) = textL x.data.toList := by simp [bytL2, blkL, entsR]
      rw [e]
      exact fcode_one x (h4 x List.mem_cons_self) h
  · exact fcode_more l hn hp hm4 h h4
end Go.Proofs.Ytgadhofddbmhgaa
