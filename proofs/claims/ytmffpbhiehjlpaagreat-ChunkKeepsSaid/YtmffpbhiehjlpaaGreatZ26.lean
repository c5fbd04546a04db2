/-
  PutText.
  The front package: right, code.
  The library's slices.Grow of nothing yet, and slices.Concat, of bytes.
  A range over a function: what a round keeps of the iterator's boxes; boxes and rows through steps; appends inside a fence. No program is named here.
-/
import Derived.Test.YtmffpbhiehjlpaaGreatZ15
import Derived.Test.YtmffpbhiehjlpaaGreatZ05
import Derived.Test.YtmffpbhiehjlpaaGreatZ24
import Derived.Test.YtmffpbhiehjlpaaGreatZ25
import Derived.Test.YtmffpbhiehjlpaaGreatZ17
import Derived.Test.YtmffpbhiehjlpaaGreatZ02
import Derived.Test.YtmffpbhiehjlpaaGreatZ01
import Derived.Lib.AppendZeros
import Derived.Test.YtmffpbhiehjlpaaGreatZ00
import Derived.RangeFuncNested
import Derived.RangeFuncBound
import Derived.RangeFuncCalls
import Derived.RangeFuncLeaves
import Derived.RangeFuncBox
import Derived.Shelf.Abstract
import Derived.Shelf.RegionOpen
import Derived.WalkKit
import Derived.OwnWalkIn
import Derived.TacticsInMore
import Derived.LoopNIn
import Derived.LoopIn
namespace Go.Proofs.YtmffpbhiehjlpaaGreat
set_option linter.unusedSimpArgs false
set_option linter.unusedVariables false
open Go.RowKit
theorem putText_any {w : World} (s : ByteArray) (hs : s.size ≤ 100000) :
    Calls Tryz.prog 152 #[.string s] w fun r w' => ∃ A c, r = .returned (.slice A (textL s.data.toList).length c) ∧ w'.ownsRow w.heap.size 5 1 (.slice A (textL s.data.toList).length c) (textL s.data.toList).length (bv (textL s.data.toList)) ∧ Below w.heap.size w w' := by
  have h9 := putL_nine s.size (by omega)
  go_enter Tryz.func152, Tryz.ntmps152
  go_wp2_with fail
  refine (put_any s.size (by omega)).mono ?_
  rintro r w1 ⟨A, c, rfl, hown, hbel⟩
  obtain ⟨A', c', w2, hrun, hown2, hg2⟩ := append_string w1 w.heap.size _ _ s hown (by omega) hbel.size
  have HO := Lib.hid hown
  have HO2 := Lib.hid hown2
  have HG2 := Lib.hid hg2
  have HB := Lib.hid hbel
  clear hown hown2 hg2 hbel
  go_wp2_with (at_builtin; refine wpList_append_run rfl _ _ _ _ rfl rfl rfl hrun ?_)
  go_ret
  have e : (textL s.data.toList).length = (putL s.size).length + s.size := by simp [textL]
  refine ⟨A', c', by rw [e]; rfl, by rw [e]; exact HO2.out, ?_⟩
  exact HB.out.grown HG2.out HB.out.size (fun k hk => (HO.out.lt k hk).1)
end Go.Proofs.YtmffpbhiehjlpaaGreat
namespace Go.Proofs.YtmffpbhiehjlpaaGreat
set_option linter.unusedSimpArgs false
set_option linter.unusedVariables false
open Go.RowKit
theorem bytL2_tk (l : List ByteArray) (k : Nat) : bytL2 (l.take k) = (bytL2 l).take k := by simp [bytL2, List.map_take]
theorem bytL2_take_succ {l : List ByteArray} {k : Nat} (hk : k < l.length) : (bytL2 l).take (k + 1) = (bytL2 l).take k ++ [l[k].data.toList] := by
  rw [List.take_succ_eq_append_getElem (by rw [bytL2_length]; exact hk), bytL2_get l k hk]
set_option maxRecDepth 20000 in
set_option maxHeartbeats 1000000 in
theorem fright_any {w : World} (l : List ByteArray) {lo hi c : Nat} {A : Option Addr} (h : Rd w lo hi A c (sv l)) (h1k : ∀ s ∈ l, s.size ≤ 9223372036854775807) :
    Calls Tryz.prog 132 #[.slice A l.length c] w fun r w' => r = .returned (.bool (dicL (bytL2 l))) ∧ w = w' := by
  have hl := h.len
  have hm := h.cap
  rw [sv_length] at hl
  unfold maxLen at hm
  by_cases h4 : 4096 < l.length
  · have hv : dicL (bytL2 l) = false := by
      unfold dicL
      rw [bytL2_length, decide_eq_false (p := l.length ≤ 4096) (by omega), Bool.false_and, Bool.false_and]
    rw [hv]
    have i4 : (4096 : Int) < (l.length : Int) := by omega
    have d4 : decide ((4096 : Int) < (l.length : Int)) = true := decide_eq_true i4
    go_enter Tryz.func132, Tryz.ntmps132
    go_wp2_with fail
    go_ret
    exact ⟨rfl, rfl⟩
  · have d4 : decide ((4096 : Int) < (l.length : Int)) = false := decide_eq_false (by omega)
    have H := Lib.hid h
    have H1 : Hid (∀ k (hk : k < l.length), l[k].size ≤ 9223372036854775807) := fun k hk => h1k _ (List.getElem_mem hk)
    obtain ⟨v, hv⟩ : ∃ v, dicL (bytL2 l) = v := ⟨_, rfl⟩
    rw [hv]
    rw [dic_good, bytL2_length, decide_eq_true (p := l.length ≤ 4096) (by omega), Bool.true_and] at hv
    have HNO : Hid (∀ k (hk : k < l.length), follL (bytL2 (l.take k)) l[k].data.toList = false → v = false) := fun k hk hf => by
      cases hvv : v with
      | false => rfl
      | true =>
        rw [hvv] at hv
        have h2 := good_app (l := (bytL2 l).take (k + 1)) (t := (bytL2 l).drop (k + 1)) (by rw [List.take_append_drop]; exact hv)
        rw [bytL2_take_succ hk, good_snoc, ← bytL2_tk, hf, Bool.and_false] at h2
        cases h2
    have HYES : Hid (∀ k (hk : k < l.length), goodL ((bytL2 l).take k) = true → follL (bytL2 (l.take k)) l[k].data.toList = true → goodL ((bytL2 l).take (k + 1)) = true) := fun k hk hg hf => by
      rw [bytL2_take_succ hk, good_snoc, ← bytL2_tk, hf, bytL2_tk, hg]
      rfl
    have HEND : Hid (goodL ((bytL2 l).take l.length) = true → v = true) := fun hg => by
      rw [List.take_of_length_le (by rw [bytL2_length]; exact Nat.le_refl _)] at hg
      rw [← hv, hg]
    clear h h1k hv
    go_enter Tryz.func132, Tryz.ntmps132
    go_wp2_with fail
    go_loop [10] (fun i => ∃ k : Nat, k ≤ l.length ∧ i = .int .i64 (k : Int) ∧ goodL ((bytL2 l).take k) = true) (fun i => l.length - (intOf i).toNat)
    case atStart => exact ⟨0, Nat.zero_le _, rfl, rfl⟩
    case round =>
      obtain ⟨k, hk, rfl, hg⟩ := hrel
      have HG := Lib.hid hg
      clear hg
      by_cases hlt : k < l.length
      · have ik : (k : Int) < (l.length : Int) := by omega
        have hkc : (k : Int) ≤ (c : Int) := by omega
        have HFO := Lib.hid (ffollows_any (l.take k) l[k] (n := k) (by rw [List.length_take]; omega) (by rw [sv_take]; exact H.out.take_ k) (H1.out k hlt))
        have HN := Lib.hid (HNO.out k hlt)
        have HY := Lib.hid (HYES.out k hlt HG.out)
        obtain ⟨b, off, rfl, _, _, hcell⟩ := H.out.str hlt
        generalize l[k] = s at *
        obtain ⟨f, hf⟩ : ∃ f, follL (bytL2 (l.take k)) s.data.toList = f := ⟨_, rfl⟩
        rw [hf] at HFO HN HY
        clear hf HNO HYES HEND
        cases f with
        | true =>
          have HGG := Lib.hid (HY.out rfl)
          go_wp2_with fail
          refine HFO.out.mono ?_
          rintro r w' ⟨rfl, rfl⟩
          go_wp2_with fail
          go_round
          case rel => exact ⟨k + 1, by omega, by go_num, HGG.out⟩
          case measure => simp [intOf]; omega
        | false =>
          have HVV := Lib.hid (HN.out rfl)
          go_wp2_with fail
          refine HFO.out.mono ?_
          rintro r w' ⟨rfl, rfl⟩
          go_wp2_with fail
          go_ret
          exact ⟨ret_bool HVV.out.symm, rfl⟩
      · have hke : k = l.length := by omega
        have ik : ¬ (k : Int) < (l.length : Int) := by omega
        have HV : Hid (v = true) := HEND.out (by rw [← hke]; exact HG.out)
        go_wp2_with fail
        go_ret
        exact ⟨ret_bool HV.out.symm, rfl⟩
theorem blk_len {t : List (List UInt8)} (h : ∀ s ∈ t, s.length ≤ 4096) : (blkL t).length ≤ 4200 * t.length := by
  have h1 := ents_blk (K := t.length) (i := 0) (l := t) (j := t.length) (Nat.le_refl _) (by omega)
  have h2 := ents_len t.length h (0 * t.length + t.length)
  rw [h1, List.length_append, Nat.zero_mul, List.drop_zero, List.take_of_length_le (Nat.le_refl _)] at h2
  omega
set_option maxRecDepth 20000 in
set_option maxHeartbeats 1000000 in
theorem fcode_one {w : World} (x : ByteArray) (hx : x.size ≤ 4096) {c : Nat} {A : Option Addr} (h : Rd w 0 w.heap.size A c (sv [x])) :
    Calls Tryz.prog 134 #[.slice A 1 c] w fun r w' => ∃ A' c', r = .returned (.slice A' (textL x.data.toList).length c') ∧
      w'.ownsRow w.heap.size 5 1 (.slice A' (textL x.data.toList).length c') (textL x.data.toList).length (bv (textL x.data.toList)) ∧ Below w.heap.size w w' := by
  have hl : 1 ≤ c := h.len
  have hm := h.cap
  unfold maxLen at hm
  obtain ⟨b, off, rfl, _, hbh, hcell0⟩ := h.str (k := 0) (l := [x]) (by simp)
  rw [Nat.add_zero] at hcell0
  rw [List.getElem_cons_zero] at hcell0
  clear h
  by_cases hc1 : c = 1
  · subst hc1
    go_enter Tryz.func134, Tryz.ntmps134
    go_wp2_with fail
    refine (putText_any x (by omega)).mono ?_
    rintro r w1 ⟨A1, c1, rfl, hown1, hbel1⟩
    have HO1 := Lib.hid hown1
    have HB1 := Lib.hid hbel1
    clear hown1 hbel1 hcell0
    go_wp2_with fail
    go_loop [3, 14] (fun x3 x14 => x3 = .slice A1 (textL x.data.toList).length c1 ∧ x14 = .int .i64 0) (fun _ _ => 0)
    case atStart => exact ⟨rfl, rfl⟩
    case round =>
      obtain ⟨rfl, rfl⟩ := hrel
      go_wp2_with fail
      go_ret
      exact ⟨A1, c1, rfl, HO1.out, HB1.out⟩
  · go_enter Tryz.func134, Tryz.ntmps134
    go_wp2_with fail
    refine (putText_any x (by omega)).mono ?_
    rintro r w1 ⟨A1, c1, rfl, hown1, hbel1⟩
    have HO1 := Lib.hid hown1
    have HB1 := Lib.hid hbel1
    clear hown1 hbel1 hcell0
    go_wp2_with fail
    go_loop [3, 14] (fun x3 x14 => x3 = .slice A1 (textL x.data.toList).length c1 ∧ x14 = .int .i64 0) (fun _ _ => 0)
    case atStart => exact ⟨rfl, rfl⟩
    case round =>
      obtain ⟨rfl, rfl⟩ := hrel
      go_wp2_with fail
      go_ret
      exact ⟨A1, c1, rfl, HO1.out, HB1.out⟩
set_option maxRecDepth 20000 in
set_option maxHeartbeats 4000000 in
theorem fcode_more {w : World} (l : List ByteArray) {m : Nat} (hn : l.length = m + 1) (h0m : 0 < m) (hm4 : m + 1 ≤ 4096) {c : Nat} {A : Option Addr} (h : Rd w 0 w.heap.size A c (sv l)) (h4 : ∀ s ∈ l, s.size ≤ 4096) :
    Calls Tryz.prog 134 #[.slice A (m + 1) c] w fun r w' => ∃ A' c', r = .returned (.slice A' (blkL (bytL2 l)).length c') ∧
      w'.ownsRow w.heap.size 5 1 (.slice A' (blkL (bytL2 l)).length c') (blkL (bytL2 l)).length (bv (blkL (bytL2 l))) ∧ Below w.heap.size w w' := by
  have hl := h.len
  have hm := h.cap
  rw [sv_length, hn] at hl
  unfold maxLen at hm
  have hc1 : ¬ c = 1 := by omega
  have H := Lib.hid h
  have HN := Lib.hid hn
  have H1 : Hid (∀ k (hk : k < l.length), l[k].size ≤ 4096) := fun k hk => h4 _ (List.getElem_mem hk)
  have HBL : Hid (∀ k, k ≤ m + 1 → (blkL ((bytL2 l).take k)).length ≤ 4200 * k) := fun k hk => by
    have := blk_len (t := (bytL2 l).take k) fun s hs => by
      obtain ⟨x, hx, rfl⟩ := List.mem_map.1 (List.mem_of_mem_take hs)
      rw [lenD]
      exact h4 x hx
    rw [List.length_take, bytL2_length] at this
    omega
  have HST : Hid (∀ k (hj : k < l.length) (hk : k + 1 < l.length), blkL ((bytL2 l).take (k + 2)) = blkL ((bytL2 l).take (k + 1)) ++ (putL (shareN l[k].data.toList l[k + 1].data.toList) ++ textL (l[k + 1].data.toList.drop (shareN l[k].data.toList l[k + 1].data.toList)))) := fun k hj hk => by
    have hne : (bytL2 l).take (k + 1) ≠ [] := fun e => by
      have := congrArg List.length e
      rw [List.length_take, bytL2_length, List.length_nil] at this
      omega
    rw [bytL2_take_succ (k := k + 1) hk, blkL_snoc hne, lastD_take (by rw [bytL2_length]; omega), bytL2_get l k (by omega)]
  have hp0 : 0 < l.length := by omega
  have HS1 : Hid (blkL ((bytL2 l).take 1) = textL l[0].data.toList) := by
    unfold Hid
    rw [bytL2_take_succ (k := 0) hp0]
    simp [blkL, entsR]
  have HEND : Hid ((bytL2 l).take (m + 1) = bytL2 l) := List.take_of_length_le (by rw [bytL2_length]; omega)
  have h0 := H1.out 0 hp0
  obtain ⟨b, off, rfl, _, hbh, hcell0⟩ := h.str (k := 0) hp0
  rw [Nat.add_zero] at hcell0
  clear h hn h4
  generalize l[0] = x0 at *
  clear hp0
  go_enter Tryz.func134, Tryz.ntmps134
  go_wp2_with fail
  refine (putText_any x0 (by omega)).mono ?_
  rintro r w1 ⟨A1, c1, rfl, hown1, hbel1⟩
  rw [← HS1.out] at hown1 ⊢
  have HO1 := Lib.hid hown1
  have HB1 := Lib.hid hbel1
  clear hown1 hbel1 hcell0
  go_wp2_with fail
  go_loopw [3, 14] (fun x3 x14 wr => ∃ (k n : Nat) (A' : Option Addr) (c' : Nat), k ≤ m ∧ x14 = .int .i64 (k : Int) ∧ x3 = .slice A' n c' ∧ n = (blkL ((bytL2 l).take (k + 1))).length ∧
    wr.ownsRow w.heap.size 5 1 (.slice A' n c') n (bv (blkL ((bytL2 l).take (k + 1)))) ∧ Below w.heap.size w wr) (fun _ i _ => m - (intOf i).toNat)
  case atStart => exact ⟨0, _, A1, c1, Nat.zero_le _, rfl, rfl, rfl, HO1.out, HB1.out⟩
  case round =>
    clear HO1 HB1
    obtain ⟨k, n, A', c', hk, rfl, rfl, hnl, hown, hb⟩ := hrel
    have HNL := Lib.hid hnl
    have HO := Lib.hid hown
    have HB := Lib.hid hb
    have hsz := hb.size
    have hnb : n ≤ 4200 * 4096 := by have := HBL.out (k + 1) (by omega); omega
    clear hnl hown hb
    by_cases hlt : k < m
    · have ik : (k : Int) < (m : Int) := by omega
      have HN2 := HN.out
      have hk1 : k < l.length := by omega
      have hk2 : k + 1 < l.length := by omega
      clear HN2
      have hr1 := (H.out.below HB.out (Nat.le_refl _)).str hk1
      have hr2 := (H.out.below HB.out (Nat.le_refl _)).str hk2
      obtain ⟨b', off', e1, _, _, hcell1⟩ := hr1
      injection e1 with e1
      injection e1 with e1 e2
      subst e1 e2
      obtain ⟨b', off', e1, _, _, hcell2⟩ := hr2
      injection e1 with e1
      injection e1 with e1 e2
      subst e1 e2
      have z1 := H1.out k hk1
      have z2 := H1.out (k + 1) hk2
      have HSS := Lib.hid (HST.out k hk1 hk2)
      generalize l[k] = x at *
      generalize l[k + 1] = y at *
      have hcell3 : wr.cell? ⟨b, off + 1 + k, none⟩ = some (.string y) := by rw [show off + 1 + k = off + (k + 1) by omega]; exact hcell2
      have HAL := Lib.hid (fun w => alike_any (w := w) x y (by omega) (by omega))
      have hsh := (share_le x.data.toList y.data.toList).2
      rw [lenD] at hsh
      generalize shareN x.data.toList y.data.toList = q at *
      have hte := tailD y q
      have htz := tailD_size y q
      go_wp2_with fail
      refine (HAL.out _).mono ?_
      rintro r w2 ⟨rfl, mq, rfl⟩
      have HO2 := Lib.hid (own_keep (w' := wr.drewN mq) HO.out (fun _ _ => rfl))
      have HB2 : Hid (Below w.heap.size w (wr.drewN mq)) := below_drewN' HB.out mq
      clear HO HB hcell1 hcell2 hcell3
      go_wp2_with fail
      refine (put_any q (by omega)).mono ?_
      rintro r w3 ⟨A3, c3, rfl, hown3, hb3⟩
      have hp9 := putL_nine q (by omega)
      obtain ⟨us, hus⟩ : ∃ us, blkL ((bytL2 l).take (k + 1)) ++ putL q = us := ⟨_, rfl⟩
      have hul : us.length = n + (putL q).length := by rw [← hus, List.length_append, ← HNL.out]
      have ho3 := own_below HO2.out hb3 (Nat.le_refl _)
      rw [HNL.out] at ho3
      have hsz3 : w.heap.size ≤ w3.heap.size := Nat.le_trans hsz hb3.size
      obtain ⟨A4, c4, w4, hrun4, hown4, hg4⟩ := append_named w3 w.heap.size _ _ (putL q) us hus ho3 (Rd.of_own hown3) (by rw [← HNL.out]; omega) hsz3
      rw [← HNL.out] at hrun4
      have hb4 : Below w.heap.size w w4 := (below_below HB2.out hb3 hsz).grown hg4 hsz3 (fun g hg => (own_lt ho3 hg).1)
      have HO4 := Lib.hid hown4
      have HB4 := Lib.hid hb4
      have hub : us.length ≤ 4200 * 4096 + 9 := by omega
      have HUS := Lib.hid hus
      have hsz4 := hb4.size
      clear hown3 hb3 ho3 hown4 hg4 hb4 HO2 HB2 hul hus
      go_wp2_with (at_builtin; refine wpList_append_run rfl _ _ _ _ rfl rfl rfl hrun4 ?_; refine held ?_)
      refine ⟨?_⟩
      clear hrun4
      go_wp2_with fail
      refine (putText_any (y.extract q y.size) (by omega)).mono ?_
      rintro r w5 ⟨A5, c5, rfl, hown5, hb5⟩
      have htl : (textL (y.extract q y.size).data.toList).length ≤ 4200 := by
        rw [textL, List.length_append, lenD]
        have := putL_nine (y.extract q y.size).size (by omega)
        omega
      obtain ⟨T, hT⟩ : ∃ T, textL (y.extract q y.size).data.toList = T := ⟨_, rfl⟩
      rw [hT] at hown5 htl ⊢
      rw [hte] at hT
      obtain ⟨vs, hvs⟩ : ∃ vs, us ++ T = vs := ⟨_, rfl⟩
      have ho5 := own_below HO4.out hb5 (Nat.le_refl _)
      have hsz5 : w.heap.size ≤ w5.heap.size := Nat.le_trans hsz4 hb5.size
      obtain ⟨A6, c6, w6, hrun6, hown6, hg6⟩ := append_named w5 w.heap.size _ _ _ vs hvs ho5 (Rd.of_own hown5) (by omega) hsz5
      have hb6 : Below w.heap.size w w6 := (below_below HB4.out hb5 hsz4).grown hg6 hsz5 (fun g hg => (own_lt ho5 hg).1)
      have hfin : blkL ((bytL2 l).take (k + 1 + 1)) = vs := by
        rw [← hvs, ← hT, ← HUS.out, List.append_assoc]
        exact HSS.out
      have HO6 := Lib.hid hown6
      have HB6 := Lib.hid hb6
      have HF := Lib.hid hfin
      clear hown5 hb5 ho5 hown6 hg6 hb6 HO4 HB4 hvs htl hfin hte htz hT
      generalize y.extract q y.size = ye at *
      go_wp2_with (at_builtin; refine wpList_append_run rfl _ _ _ _ rfl rfl rfl hrun6 ?_; refine held ?_)
      refine ⟨?_⟩
      clear hrun6
      go_wp2_with fail
      go_roundw
      case rel => exact ⟨k + 1, vs.length, A6, c6, by omega, by go_num, rfl, by rw [HF.out], by rw [HF.out]; exact HO6.out, HB6.out⟩
      case measure => simp [intOf]; omega
    · obtain rfl : k = m := by omega
      have HO2 := HO.out
      have HNL2 := HNL.out
      rw [HEND.out] at HO2 HNL2
      have HO3 := Lib.hid HO2
      have HN3 := Lib.hid HNL2
      clear HO2 HNL2
      go_wp2_with fail
      go_ret
      exact ⟨A', c', by rw [← HN3.out]; rfl, by rw [← HN3.out]; exact HO3.out, HB.out⟩
theorem fcode_any {w : World} (l : List ByteArray) {m : Nat} (hn : l.length = m + 1) (hm4 : m + 1 ≤ 4096) {c : Nat} {A : Option Addr} (h : Rd w 0 w.heap.size A c (sv l)) (h4 : ∀ s ∈ l, s.size ≤ 4096) :
    Calls Tryz.prog 134 #[.slice A (m + 1) c] w fun r w' => ∃ A' c', r = .returned (.slice A' (blkL (bytL2 l)).length c') ∧
      w'.ownsRow w.heap.size 5 1 (.slice A' (blkL (bytL2 l)).length c') (blkL (bytL2 l)).length (bv (blkL (bytL2 l))) ∧ Below w.heap.size w w' := by
  rcases Nat.eq_zero_or_pos m with rfl | hp
  · match l, hn with
    | [x], _ =>
      have e : blkL (bytL2 [x]) = textL x.data.toList := by simp [bytL2, blkL, entsR]
      rw [e]
      exact fcode_one x (h4 x List.mem_cons_self) h
  · exact fcode_more l hn hp hm4 h h4
end Go.Proofs.YtmffpbhiehjlpaaGreat
namespace Go.Proofs.YtmffpbhiehjlpaaGreat
set_option linter.unusedSimpArgs false
set_option linter.unusedVariables false
open Go.RowKit
theorem zero_size (z : Value) (n : Nat) (h : z.cells.size = 1) : (Builtin.zeroCells z.cells n).size = n := by simp [Builtin.zeroCells, h]
set_option maxRecDepth 20000 in
set_option maxHeartbeats 1000000 in
theorem sgrow_any {w : World} (n : Nat) (h0 : 0 < n) (h1 : n ≤ 100000000000000) :
    Calls Tryz.prog 63 #[.slice none 0 0, .int .i64 (n : Int)] w fun r w' => ∃ A c, r = .returned (.slice A 0 c) ∧ w'.ownsRow w.heap.size 5 1 (.slice A 0 c) 0 [] ∧ Below w.heap.size w w' := by
  obtain ⟨i0, hi0, hz0, hz1, hz2⟩ := info_parts Tryz.infoU8
  have hc1 := grownCap_le_maxLen w n 0 5 (by unfold maxLen; omega)
  have hc2 := grownCap_ge w n 0 5
  have hrun := fun ty => Lib.run_append_nil_zeros (P := Tryz.prog) w 28 3 ty 5 i0 (.int .u8 0) .i64 .i64 Tryz.underlying28 Tryz.underlying3 hi0 hz0 n h0 (by omega) (by omega) (by rw [hz2]; omega)
  have hown : (w.drew.alloc (.cells (Builtin.zeroCells (Value.int .u8 0).cells n ++ Builtin.zeroCells (Value.int .u8 0).cells (grownCap w n 0 5 - n)) 5)).ownsRow w.heap.size 5 1 (.slice (some ⟨w.heap.size, 0, none⟩) 0 (grownCap w n 0 5)) 0 [] := by
    have := World.ownsRow_made (e := 5) (size := 1) (base := w.heap.size) w.drew (Builtin.zeroCells (Value.int .u8 0).cells n ++ Builtin.zeroCells (Value.int .u8 0).cells (grownCap w n 0 5 - n)) (grownCap w n 0 5) (Nat.le_refl _) hc1 (by rw [Array.size_append, zero_size _ _ rfl, zero_size _ _ rfl]; omega)
    exact this
  have hbel : Below w.heap.size w (w.drew.alloc (.cells (Builtin.zeroCells (Value.int .u8 0).cells n ++ Builtin.zeroCells (Value.int .u8 0).cells (grownCap w n 0 5 - n)) 5)) := (below_drewN' (Below.refl _ w) 1).alloc (Nat.le_refl _) _
  unfold maxLen at hc1
  generalize grownCap w n 0 5 = G at *
  generalize w.drew.alloc (.cells (Builtin.zeroCells (Value.int .u8 0).cells n ++ Builtin.zeroCells (Value.int .u8 0).cells (G - n)) 5) = w1 at *
  have HO := Lib.hid hown
  have HB := Lib.hid hbel
  have HRUN := Lib.hid hrun
  have i1 : ¬ (n : Int) < 0 := by omega
  have i2 : (0 : Int) < (n : Int) := by omega
  clear hown hbel hrun
  go_enter Tryz.func63, Tryz.ntmps63
  go_wp2_with (at_builtin; refine Lib.wpList_append_run _ rfl _ _ _ _ rfl _ _ rfl rfl _ _ (HRUN.out _) ?_)
  go_ret
  exact ⟨_, _, rfl, HO.out, HB.out⟩
theorem partsL_len (ps : List Part) {k : Nat} (hk : k ≤ ps.length) : (partsL (ps.take k)).length ≤ (partsL ps).length := by
  have : partsL ps = partsL (ps.take k) ++ partsL (ps.drop k) := by unfold partsL; rw [← List.flatMap_append, List.take_append_drop]
  rw [this, List.length_append]
  omega
set_option maxRecDepth 20000 in
set_option maxHeartbeats 4000000 in
theorem sconcat_any {w : World} (ps : List Part) {A : Option Addr} {c : Nat} (h : Rd w 0 w.heap.size A c (ps.map Part.val)) (hp : ∀ p ∈ ps, p.rd w w.heap.size) (h0 : 0 < (partsL ps).length) (h1 : (partsL ps).length ≤ 100000000000000) :
    Calls Tryz.prog 39 #[.slice A ps.length c] w fun r w' => ∃ A' c', r = .returned (.slice A' (partsL ps).length c') ∧ w'.ownsRow w.heap.size 5 1 (.slice A' (partsL ps).length c') (partsL ps).length (bv (partsL ps)) ∧ Below w.heap.size w w' := by
  have hl := h.len
  have hm := h.cap
  rw [List.length_map] at hl
  unfold maxLen at hm
  have H := Lib.hid h
  have HP := Lib.hid hp
  have HTK : Hid (∀ k (hk : k < ps.length), partsL (ps.take (k + 1)) = partsL (ps.take k) ++ ps[k].bs) := fun k hk => partsL_take ps hk
  have HLE : Hid (∀ k, k ≤ ps.length → (partsL (ps.take k)).length ≤ (partsL ps).length) := fun k hk => partsL_len ps hk
  have HALL : Hid (partsL (ps.take ps.length) = partsL ps) := by unfold Hid; rw [List.take_length]
  generalize (partsL ps) = T at *
  obtain ⟨N, hN⟩ : ∃ N, T.length = N := ⟨_, rfl⟩
  have HN := Lib.hid hN
  rw [hN] at h0 h1 HLE
  clear h hp hN
  go_enter Tryz.func39, Tryz.ntmps39
  go_wp2_with fail
  go_loop [3, 11] (fun x3 x11 => ∃ k q : Nat, k ≤ ps.length ∧ x11 = .int .i64 (k : Int) ∧ x3 = .int .i64 (q : Int) ∧ q = (partsL (ps.take k)).length) (fun _ i => ps.length - (intOf i).toNat)
  case atStart => exact ⟨0, 0, Nat.zero_le _, rfl, rfl, rfl⟩
  case round =>
    obtain ⟨k, q, hk, rfl, rfl, hq⟩ := hrel
    have HQ := Lib.hid hq
    clear hq
    by_cases hlt : k < ps.length
    · have ik : (k : Int) < (ps.length : Int) := by omega
      obtain ⟨b, off, rfl, _, _, hcell⟩ := H.out.get (k := k) (by rw [List.length_map]; exact hlt)
      rw [List.getElem_map] at hcell
      have hle := HLE.out (k + 1) (by omega)
      have HT := Lib.hid (HTK.out k hlt)
      have e := HT.out
      rw [e, List.length_append, ← HQ.out] at hle
      have hql : Hid ((partsL (ps.take (k + 1))).length = q + ps[k].bs.length) := by unfold Hid; rw [e, List.length_append, ← HQ.out]
      clear e HT HTK HLE
      generalize ps[k] = p at *
      obtain ⟨A1, c1, bs⟩ := p
      unfold Part.val at hcell
      dsimp only at hcell hle hql
      have w1 : IntKind.i64.wrap ((q : Int) + (bs.length : Int)) = ((q + bs.length : Nat) : Int) := (IntWalk.i64_in _ (by omega)).trans (by omega)
      have n1 : ¬ ((q + bs.length : Nat) : Int) < 0 := by omega
      go_wp2_with fail
      go_round
      case rel => exact ⟨k + 1, q + bs.length, by omega, by go_num, by go_num, hql.out.symm⟩
      case measure => simp [intOf]; omega
    · obtain rfl : k = ps.length := by omega
      have hqN : q = N := by rw [HQ.out, HALL.out, HN.out]
      subst hqN
      go_wp2_with fail
      refine (sgrow_any q h0 h1).mono ?_
      rintro r w1 ⟨A1, c1, rfl, hown1, hb1⟩
      have HO1 := Lib.hid hown1
      have HB1 := Lib.hid hb1
      clear hown1 hb1
      go_wp2_with fail
      go_loopw [6, 27] (fun x6 x27 wr => ∃ (k n : Nat) (A' : Option Addr) (c' : Nat), k ≤ ps.length ∧ x27 = .int .i64 (k : Int) ∧ x6 = .slice A' n c' ∧ n = (partsL (ps.take k)).length ∧
        wr.ownsRow w.heap.size 5 1 (.slice A' n c') n (bv (partsL (ps.take k))) ∧ Below w.heap.size w wr) (fun _ i _ => ps.length - (intOf i).toNat)
      case atStart => exact ⟨0, 0, A1, c1, Nat.zero_le _, rfl, rfl, rfl, HO1.out, HB1.out⟩
      case round =>
        clear HO1 HB1 HQ
        obtain ⟨k, n, A', c', hk2, rfl, rfl, hn, hown, hb⟩ := hrel
        have HNN := Lib.hid hn
        have HO := Lib.hid hown
        have HB := Lib.hid hb
        have hsz := hb.size
        clear hn hown hb
        by_cases hlt : k < ps.length
        · have ik : (k : Int) < (ps.length : Int) := by omega
          obtain ⟨b, off, rfl, _, _, hcell⟩ := (H.out.below HB.out (Nat.le_refl _)).get (k := k) (by rw [List.length_map]; exact hlt)
          rw [List.getElem_map] at hcell
          have hle := HLE.out (k + 1) (by omega)
          have hr := (HP.out ps[k] (List.getElem_mem hlt)).below HB.out (Nat.le_refl _)
          have e := HTK.out k hlt
          rw [e, List.length_append, ← HNN.out] at hle
          have ho := HO.out
          rw [HNN.out] at ho
          obtain ⟨A2, c2, w2, hrun2, hown2, hg2⟩ := append_named wr w.heap.size _ _ ps[k].bs (partsL (ps.take (k + 1))) e.symm ho hr (by rw [← HNN.out]; omega) hsz
          rw [← HNN.out] at hrun2
          obtain ⟨us, hus⟩ : ∃ us, partsL (ps.take (k + 1)) = us := ⟨_, rfl⟩
          rw [hus] at hrun2 hown2 e
          have HUS := Lib.hid hus
          have HO2 := Lib.hid hown2
          have HB2 := Lib.hid (HB.out.grown hg2 hsz (fun g hg => (own_lt ho hg).1))
          clear hown2 hg2 ho hr e hus HO HB HLE HTK
          generalize ps[k] = p at *
          obtain ⟨A1, c1, bs⟩ := p
          unfold Part.val at hcell
          dsimp only at hcell hle hrun2
          go_wp2_with (at_builtin; refine wpList_append_run rfl _ _ _ _ rfl rfl rfl hrun2 ?_; refine held ?_)
          refine ⟨?_⟩
          clear hrun2
          go_wp2_with fail
          go_roundw
          case rel => exact ⟨k + 1, us.length, A2, c2, by omega, by go_num, rfl, by rw [HUS.out], by rw [HUS.out]; exact HO2.out, HB2.out⟩
          case measure => simp [intOf]; omega
        · obtain rfl : k = ps.length := by omega
          have hnn := HNN.out
          have ho := HO.out
          rw [HALL.out] at hnn ho
          have HNF := Lib.hid hnn
          have HOF := Lib.hid ho
          clear hnn ho
          go_wp2_with fail
          go_ret
          exact ⟨A', c', by rw [← HNF.out]; rfl, by rw [← HNF.out]; exact HOF.out, HB.out⟩
end Go.Proofs.YtmffpbhiehjlpaaGreat
namespace Go.Proofs.YtmffpbhiehjlpaaGreat
set_option linter.unusedSimpArgs false
set_option linter.unusedVariables false
open Go.RowKit Go.Shelf
attribute [local go_sem] Oper.semAt_some
structure Kp2 (n₀ Bb Bt : Nat) (W W' : World) : Prop where
  below : Below n₀ W W'
  b : W'.heap[Bb]? = W.heap[Bb]?
  t : W'.heap[Bt]? = W.heap[Bt]?
theorem Kp2.trans {n₀ Bb Bt : Nat} {A B C : World} (h : Kp2 n₀ Bb Bt A B) (k : Kp2 n₀ Bb Bt B C) : Kp2 n₀ Bb Bt A C := ⟨h.below.trans k.below, k.b.trans h.b, k.t.trans h.t⟩
theorem Kp2.refl (n₀ Bb Bt : Nat) (W : World) : Kp2 n₀ Bb Bt W W := ⟨Below.refl _ _, rfl, rfl⟩
theorem Kp2.cellb {n₀ Bb Bt : Nat} {A B : World} (h : Kp2 n₀ Bb Bt A B) : B.cell? ⟨Bb, 0, none⟩ = A.cell? ⟨Bb, 0, none⟩ := World.cell?_of_block h.b
theorem Kp2.cellt {n₀ Bb Bt : Nat} {A B : World} (h : Kp2 n₀ Bb Bt A B) : B.cell? ⟨Bt, 0, none⟩ = A.cell? ⟨Bt, 0, none⟩ := World.cell?_of_block h.t
theorem boxed_keep {X Y : World} {row : Option Nat} {B : Nat} {t : TypeId} {v : Value} (h : Boxed X B t v) (hg : X.grownBy Y row) (hr : ∀ r, row = some r → ∃ o : Obj, X.heap[r]? = some o ∧ o.isCells = false) : Boxed Y B t v :=
  h.kept hg fun e => by
    obtain ⟨o, ho, hc⟩ := hr B e.symm
    rw [show X.heap[B]? = _ from h] at ho
    cases ho
    cases hc
theorem row_keep {X Y : World} {row : Option Nat} {base : Nat} {e : TypeId} {size n : Nat} {v : Value} {xs : List Value} (h : X.ownsRow base e size v n xs) (hg : X.grownBy Y row) (hr : ∀ r, row = some r → ∃ o : Obj, X.heap[r]? = some o ∧ o.isCells = false) : Y.ownsRow base e size v n xs := by
  refine h.kept hg ?_
  rcases h.2 with ⟨rfl, _⟩ | ⟨g, cap, cur, rfl, _, hgb, _⟩
  · exact .inl rfl
  · refine .inr fun e' => ?_
    obtain ⟨o, ho, hc⟩ := hr g (by simpa [Value.ownBlock] using e'.symm)
    rw [hgb] at ho
    cases ho
    cases hc
theorem boxed_other {X : World} {B B2 : Nat} {t : TypeId} {v u : Value} (h : Boxed X B t v) (hne : B ≠ B2) : Boxed (X.setCell ⟨B2, 0, none⟩ u) B t v := h.kept (grownBy_setCell' X B2 u) (fun e => hne (by injection e))
theorem boxed_put {X : World} {D B : Nat} {t : TypeId} {v : Value} {o : Obj} (h : Boxed X B t v) (o' : Obj) (hD : X.heap[D]? = some o) (ho : o.isCells = false) : Boxed (X.putObj D o') B t v := boxed_keep h (grownBy_putObj' X D o') fun r e => by cases e; exact ⟨o, hD, ho⟩
theorem wpListIn_append_run {F : Fence} {n : Nat} {P : Program} {w : World} {ops : Array Oper} {rest : List Oper} {o : Oper} {a : Act} {Q : Exit → Act → World → Prop}
    (hg : o.guard = none) (s x : Operand) (tys : Array TypeId) (hop : o.op = Op.call { callee := Callee.builtin Builtin.append, args := #[s, x], argTypes := tys }) (v y : Value) (hs : a.eval s = v) (hx : a.eval x = y) {r : Value} {w' : World}
    (hrun : (Builtin.append_ tys o.type #[v, y]).run P w = .ok r w') (hK : wpListIn F n P ops Q rest (a.put o.dst r) w') :
    wpListIn F n P ops Q (o :: rest) a w := by
  refine wpListIn_plain hg fun K hK' => ?_
  unfold Oper.wpIn
  refine ⟨?_, ?_⟩
  · simp [Oper.about, hop, resolve, Target.leads, Sem.run_pure]
  · rw [Oper.semAt_plain F _ _ (by rw [hop]; intro c hc'; cases hc')]
    simp [execOp, hop, resolve, invoke, builtin, hs, hx, hrun, Result.andThen]
    exact hK' _ _ hK
theorem appendedS {W w1 : World} {n₀ B m : Nat} {t e : TypeId} {v v' : Value} {k : Nat} {xs ys : List Value} (hv : Boxed W B t v) (hte : t ≠ e) (hrow : W.ownsRow n₀ e 1 v k xs) (hB : n₀ ≤ B) (hn₀ : n₀ ≤ W.heap.size) (hown : w1.ownsRow n₀ e 1 v' m ys) (hg : W.grownBy w1 v.ownBlock) :
    Boxed w1 B t v ∧ Boxed (w1.setCell ⟨B, 0, none⟩ v') B t v' ∧ (w1.setCell ⟨B, 0, none⟩ v').ownsRow n₀ e 1 v' m ys ∧ KeepsOthers W (w1.setCell ⟨B, 0, none⟩ v') ∧ Below n₀ W (w1.setCell ⟨B, 0, none⟩ v') ∧
      ∀ (B2 : Nat) (t2 : TypeId) (u : Value), B2 ≠ B → t2 ≠ e → Boxed W B2 t2 u → Boxed (w1.setCell ⟨B, 0, none⟩ v') B2 t2 u := by
  have hv1 : Boxed w1 B t v := hv.kept hg (hv.not_row hte hrow)
  refine ⟨hv1, hv1.set v', hown.kept (grownBy_setCell' w1 B v') (.inr (hv1.not_row hte hown).symm), ?_, ?_, fun B2 t2 u hne h2 hu => boxed_other (hu.kept hg (hu.not_row h2 hrow)) hne⟩
  · refine (KeepsOthers.of_grownBy hg fun j o ej hj => ?_).trans (KeepsOthers.setCell _ _ _)
    rcases hrow.2 with ⟨rfl, _⟩ | ⟨g, cap, cur, rfl, _, hgb, _⟩
    · simp [Value.ownBlock] at ej
    · obtain rfl : g = j := by simpa [Value.ownBlock] using ej
      rw [hgb] at hj
      cases hj
      rfl
  · exact ((Below.refl n₀ W).grown hg hn₀ (fun j ej => (own_lt hrow ej).1)).setCell (p := ⟨B, 0, none⟩) hB v'
end Go.Proofs.YtmffpbhiehjlpaaGreat
