/-
  The symbol package: Order.
-/
import Derived.Test.YtpollebfehdnjaaSyC
import Derived.Test.YtpollebfehdnjaaSyK
import Derived.Test.YtpollebfehdnjaaSyM
import Derived.Test.YtpollebfehdnjaaSymP
namespace Go.Proofs.Ytpollebfehdnjaa
set_option linter.unusedSimpArgs false
set_option linter.unusedVariables false
open Go.RowKit

theorem filter_yes {l : List ByteArray} {k : Nat} (h : k < l.length) (ho : okS l[k].data.toList = true) : ((bytL2 l).take (k + 1)).filter okS = ((bytL2 l).take k).filter okS ++ [l[k].data.toList] := by
  rw [List.take_succ_eq_append_getElem (by rw [bytL2_length]; exact h), bytL2_get l k h, List.filter_append, List.filter_cons, if_pos ho, List.filter_nil]
theorem filter_no {l : List ByteArray} {k : Nat} (h : k < l.length) (ho : okS l[k].data.toList = false) : ((bytL2 l).take (k + 1)).filter okS = ((bytL2 l).take k).filter okS := by
  rw [List.take_succ_eq_append_getElem (by rw [bytL2_length]; exact h), bytL2_get l k h, List.filter_append, List.filter_cons, if_neg (by rw [ho]; decide), List.filter_nil, List.append_nil]
theorem own_nil (w : World) (base : Nat) (e : TypeId) : w.ownsRow base e 1 (.slice none 0 0) 0 (sv []) := ⟨rfl, .inl ⟨rfl, rfl⟩⟩

set_option maxRecDepth 20000 in
set_option maxHeartbeats 4000000 in
theorem sorder_any {w : World} (l : List ByteArray) {c : Nat} {A : Option Addr} (h : Rd w 0 w.heap.size A c (sv l)) (hln : l.length ≤ 1000000) (hsz : ∀ s ∈ l, s.size ≤ 9223372036854775807) :
    Calls Try.prog 35 #[.slice A l.length c] w fun r w' => ∃ A' c', r = .returned (.slice A' (ordL (bytL2 l)).length c') ∧ w'.ownsRow w.heap.size 9 1 (.slice A' (ordL (bytL2 l)).length c') (ordL (bytL2 l)).length (sv (strsL (ordL (bytL2 l)))) ∧ Below w.heap.size w w' := by
  have hl := h.len
  have hm := h.cap
  rw [sv_length] at hl
  unfold maxLen at hm
  have H := Lib.hid h
  have HSZ : Hid (∀ k (hk : k < l.length), l[k].size ≤ 9223372036854775807) := fun k hk => hsz _ (List.getElem_mem hk)
  clear h hsz
  go_enter Try.func35, Try.ntmps35
  go_wp2_with fail
  go_loopw [3, 11] (fun x3 x11 wr => ∃ (k : Nat) (ys : List ByteArray) (A' : Option Addr) (c' : Nat), k ≤ l.length ∧ x11 = .int .i64 (k : Int) ∧ x3 = .slice A' ys.length c' ∧ ys.length ≤ k ∧ bytL2 ys = ((bytL2 l).take k).filter okS ∧
    wr.ownsRow w.heap.size 9 1 (.slice A' ys.length c') ys.length (sv ys) ∧ Below w.heap.size w wr) (fun _ i _ => l.length - (intOf i).toNat)
  case atStart => exact ⟨0, [], _, _, Nat.zero_le _, rfl, rfl, by simp, by simp [bytL2], own_nil _ _ _, Below.refl _ _⟩
  case round =>
    obtain ⟨k, ys, A', c', hk, rfl, rfl, hyl, hys, hown, hb⟩ := hrel
    have HYS := Lib.hid hys
    have HO := Lib.hid hown
    have HB := Lib.hid hb
    have hsz := hb.size
    clear hys hown hb
    by_cases hlt : k < l.length
    · have ik : (k : Int) < (l.length : Int) := by omega
      obtain ⟨b, off, rfl, _, hbh, hcell⟩ := (H.out.below HB.out (Nat.le_refl _)).str hlt
      have hs63 := HSZ.out k hlt
      have HFY := Lib.hid (filter_yes hlt)
      have HFN := Lib.hid (filter_no hlt)
      have HFI := Lib.hid (fun w => fits_any (w := w) (l[k].size : Int))
      rw [fits_size] at HFI
      generalize l[k] = s at *
      obtain ⟨f, hf⟩ : ∃ f, okS s.data.toList = f := ⟨_, rfl⟩
      rw [hf] at HFI HFY HFN
      clear hf
      cases f with
      | false =>
        replace HFN := Lib.hid (HFN.out rfl)
        clear HFY
        go_wp2_with fail
        refine (HFI.out _).mono ?_
        rintro r w' ⟨rfl, rfl⟩
        go_wp2_with fail
        go_roundw
        case rel => exact ⟨k + 1, ys, A', c', by omega, by go_num, rfl, by omega, by rw [HFN.out]; exact HYS.out, HO.out, HB.out⟩
        case measure => simp [intOf] <;> omega
      | true =>
        replace HFY := Lib.hid (HFY.out rfl)
        clear HFN
        go_wp2_with fail
        refine (HFI.out _).mono ?_
        rintro r w' ⟨rfl, rfl⟩
        go_wp2_with (at_builtin; refine wpList_push_str (v := .slice A' ys.length c') w.heap.size ys s rfl _ _ rfl rfl rfl rfl (by rw [World.cell?_alloc_at _ _ _ _ rfl]; rfl) (HO.out.alloc _) (by omega) (by simp; omega) ?_; intro A2 c2 w2 ho2 hg2; refine held ?_)
        have hb2w : Below w.heap.size w w2 := (HB.out.alloc hsz _).grown hg2 (by simp; omega) (fun q hq => (own_lt HO.out hq).1)
        obtain ⟨zs, hzs⟩ : ∃ zs, ys ++ [s] = zs := ⟨_, rfl⟩
        rw [hzs] at ho2
        have hzl : zs.length = ys.length + 1 := by rw [← hzs, List.length_append]; rfl
        have HZL : Hid (Value.slice A2 (ys.length + 1) c2 = .slice A2 zs.length c2) := by unfold Hid; rw [hzl]
        have HZK : Hid (zs.length ≤ k + 1) := by unfold Hid; omega
        have HZ : Hid (bytL2 zs = ((bytL2 l).take (k + 1)).filter okS) := by
          unfold Hid
          rw [HFY.out, ← HYS.out, ← hzs]
          simp [bytL2]
        have HO2 := Lib.hid ho2
        have HB2 := Lib.hid hb2w
        clear ho2 hg2 hb2w hzl hzs
        refine ⟨?_⟩
        go_wp2_with fail
        go_roundw
        case rel => exact ⟨k + 1, zs, A2, c2, by omega, by go_num, HZL.out, HZK.out, HZ.out, HO2.out, HB2.out⟩
        case measure => simp [intOf] <;> omega
    · have ik : ¬ (k : Int) < (l.length : Int) := by omega
      have hke : k = l.length := by omega
      obtain ⟨zs, hzs⟩ : ∃ zs, bytL2 ys = zs := ⟨_, rfl⟩
      have hys2 : ys = strsL zs := by rw [← hzs, strsL_bytL2]
      have hzf : zs = (bytL2 l).filter okS := by
        have := HYS.out
        rw [hke, List.take_of_length_le (by rw [bytL2_length]; exact Nat.le_refl _), hzs] at this
        exact this
      have HZF := Lib.hid hzf
      have hzl : zs.length = ys.length := by rw [← hzs, bytL2_length]
      subst hys2
      clear hzs HYS hzf hke
      obtain ⟨n, hn⟩ : ∃ n, (strsL zs).length = n := ⟨_, rfl⟩
      rw [hn] at HO hzl hyl ⊢
      subst hzl
      clear hn
      have HST := Lib.hid (sort_own (v := .slice A' zs.length c') zs HO.out (by omega))
      go_wp2_with fail
      refine HST.out.mono ?_
      rintro r w2 ⟨rfl, ho2, hg2⟩
      have hb2 : Below w.heap.size w w2 := HB.out.grown hg2 hsz (fun q hq => (own_lt HO.out hq).1)
      obtain ⟨us, hus⟩ : ∃ us, (zs.mergeSort fun x y => decide (x ≤ y)) = us := ⟨_, rfl⟩
      have hul : us.length = zs.length := by rw [← hus, List.length_mergeSort]
      have HUS : Hid (us = sortL (bytL2 l)) := by unfold Hid; rw [← hus, HZF.out]; rfl
      rw [hus, ← hul] at ho2
      have HO2 := Lib.hid ho2
      have HB2 := Lib.hid hb2
      have hsz2 := hb2.size
      clear ho2 hg2 hb2 hus
      have HCO := Lib.hid (compact_own us HO2.out (by omega))
      rw [hul] at HCO
      have HUL := Lib.hid hul
      clear hul
      go_wp2_with fail
      refine HCO.out.mono ?_
      rintro r w3 ⟨rfl, ho3, hg3⟩
      have hb3 : Below w.heap.size w w3 := HB2.out.grown hg3 hsz2 (fun q hq => (own_lt HO2.out (by rw [HUL.out]; exact hq)).1)
      obtain ⟨vs, hvs⟩ : ∃ vs, Lib.compact us = vs := ⟨_, rfl⟩
      have HVL : Hid (vs.length ≤ 1000000) := by
        unfold Hid
        have := Lib.compact_length_le us
        rw [hvs, HUL.out] at this
        omega
      have HVO : Hid (vs.take 255 = ordL (bytL2 l)) := by unfold Hid; rw [← hvs, HUS.out]; rfl
      rw [hvs] at ho3 ⊢
      have HR3 := Lib.hid (Rd.of_own ho3)
      have HB3 := Lib.hid hb3
      have hsz3 := hb3.size
      have hvc := (own_form _ ho3)
      clear ho3 hg3 hb3 hvs HCO HST HO HB HO2 HB2 HUS
      have hvl := HVL.out
      have hvc2 : vs.length ≤ c' := by
        obtain ⟨_, _, he, h1, _⟩ := hvc
        injection he with _ _ he
        omega
      clear hvc
      obtain ⟨M, hM⟩ : ∃ M, min vs.length 255 = M := ⟨_, rfl⟩
      have hM1 : M ≤ vs.length := by omega
      have hM2 : M ≤ 255 := by omega
      have hMI : min (vs.length : Int) 255 = (M : Int) := by omega
      have HML : Hid ((vs.take 255).length = M) := by unfold Hid; rw [List.length_take]; omega
      have HV8 : Hid (∀ j (hj : j < (strsL vs).length), j < M → (strsL vs)[j].size ≤ 281474976710656) := fun j hj hjM => by
        have h1 : (strsL vs)[j].data.toList = (vs.take 255)[j]'(by rw [HML.out]; exact hjM) := by simp [strsL]
        have h2 := (ordL_is (bytL2 l)).right
        rw [← HVO.out] at h2
        have h3 := (okS_iff.1 ((rightT_iff.1 h2).2.1 _ (List.getElem_mem (l := vs.take 255) (n := j) (by rw [HML.out]; exact hjM)))).2
        rw [← h1, Array.length_toList] at h3
        have h4 : (strsL vs)[j].data.size = (strsL vs)[j].size := rfl
        omega
      have HVL2 : Hid ((strsL vs).length = vs.length) := strsL_length vs
      clear hM
      go_wp2_with fail
      go_loopw [6, 33] (fun x6 x33 wr => ∃ (j : Nat) (ts : List ByteArray) (A2 : Option Addr) (c2 : Nat), j ≤ M ∧ x33 = .int .i64 (j : Int) ∧ x6 = .slice A2 j c2 ∧ ts = (strsL vs).take j ∧ ts.length = j ∧
        wr.ownsRow w3.heap.size 9 1 (.slice A2 j c2) j (sv ts) ∧ Below w3.heap.size w3 wr) (fun _ i _ => M - (intOf i).toNat)
      case atStart => exact ⟨0, [], _, _, Nat.zero_le _, rfl, rfl, by simp, rfl, own_nil _ _ _, Below.refl _ _⟩
      case round =>
        obtain ⟨j, ts, A2, c2, hj, rfl, rfl, hts, htl, hown, hb⟩ := hrel
        have HTS := Lib.hid hts
        have HTL := Lib.hid htl
        have HO := Lib.hid hown
        have HB := Lib.hid hb
        have hszr := hb.size
        clear hts htl hown hb
        by_cases hlt : j < M
        · have ij : (j : Int) < (M : Int) := by omega
          have hjv : j < (strsL vs).length := by rw [HVL2.out]; omega
          obtain ⟨b, off, rfl, _, hbh, hcell⟩ := (HR3.out.below HB.out (Nat.le_refl _)).str hjv
          have HCL := Lib.hid (fun w => sclone_any (w := w) (strsL vs)[j] (HV8.out j hjv hlt))
          have HTN : Hid (ts ++ [(strsL vs)[j]] = (strsL vs).take (j + 1)) := by
            unfold Hid
            rw [List.take_succ_eq_append_getElem hjv, ← HTS.out]
          generalize (strsL vs)[j] = s at *
          go_wp2_with fail
          refine (HCL.out _).mono ?_
          rintro r w4 ⟨rfl, hb4⟩
          have HB4 := Lib.hid (HB.out.trans (hb4.mono hszr))
          have HO4 := Lib.hid (own_below HO.out hb4 (Nat.le_refl _))
          have hszr4 := HB4.out.size
          clear hb4 HO
          rw [← HTL.out] at HO4
          go_wp2_with (at_builtin; refine wpList_push_str (v := .slice A2 j c2) w3.heap.size ts s rfl _ _ rfl rfl rfl rfl (by rw [World.cell?_alloc_at _ _ _ _ rfl]; rfl) (by have := HO4.out.alloc (.cells #[.string s] 9); rw [HTL.out] at this ⊢; exact this) (by rw [HTL.out]; omega) (by simp; omega) ?_; intro A5 c5 w5 ho5 hg5; refine held ?_)
          have hb5 : Below w3.heap.size w3 w5 := (HB4.out.alloc (by omega) _).grown hg5 (by simp; omega) (fun q hq => (own_lt HO4.out (by rw [HTL.out]; exact hq)).1)
          obtain ⟨qs, hqs⟩ : ∃ qs, ts ++ [s] = qs := ⟨_, rfl⟩
          rw [hqs] at ho5
          have hql : qs.length = j + 1 := by rw [← hqs, List.length_append, HTL.out]; rfl
          have HQS : Hid (qs = (strsL vs).take (j + 1)) := by unfold Hid; rw [← hqs]; exact HTN.out
          have HQV : Hid (Value.slice A5 (ts.length + 1) c5 = .slice A5 (j + 1) c5) := by unfold Hid; rw [HTL.out]
          rw [hql] at ho5
          have HQL := Lib.hid hql
          have HO5 := Lib.hid ho5
          have HB5 := Lib.hid hb5
          clear ho5 hg5 hb5 hqs hql
          refine ⟨?_⟩
          go_wp2_with fail
          go_roundw
          case rel => exact ⟨j + 1, qs, A5, c5, by omega, by go_num, HQV.out, HQS.out, HQL.out, HO5.out, HB5.out⟩
          case measure => simp [intOf] <;> omega
        · have ij : ¬ (j : Int) < (M : Int) := by omega
          have hjM : j = M := by omega
          have HLM : Hid ((ordL (bytL2 l)).length = j) := by unfold Hid; rw [← HVO.out, HML.out, hjM]
          have HTF : Hid (ts = strsL (ordL (bytL2 l))) := by
            unfold Hid
            rw [HTS.out, ← HVO.out, strsL, ← List.map_take, strsL]
            congr 1
            have h1 := HVL.out
            rw [hjM]
            rcases Nat.le_total vs.length 255 with h2 | h2
            · rw [List.take_of_length_le (by omega), List.take_of_length_le h2]
            · congr 1; omega
          have HOF := Lib.hid (own_base HO.out HB3.out.size)
          have HBF := Lib.hid (below_below HB3.out HB.out HB3.out.size)
          go_wp2_with fail
          go_ret
          rw [HLM.out, ← HTF.out]
          exact ⟨A2, c2, by rw [hjM]; rfl, HOF.out, HBF.out⟩
end Go.Proofs.Ytpollebfehdnjaa
