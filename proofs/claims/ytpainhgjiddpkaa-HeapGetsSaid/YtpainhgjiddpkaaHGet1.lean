/-
  HeapGets of long views: buffers of MaxHeap bytes, as n is above. (Printed by wip/tools/genhget.py.)
-/
import Derived.Test.YtpainhgjiddpkaaHGetA
namespace Go.Proofs.Ytpainhgjiddpkaa
set_option linter.unusedSimpArgs false
set_option linter.unusedVariables false
open Go.RowKit

set_option maxRecDepth 20000 in
set_option maxHeartbeats 4000000 in
theorem heapGets_far_great {w : World} (bs : List UInt8) (A : Option Addr) (c : Nat) (n : Int) (v : List UInt8) (hv : v.length = 16) (h : Rd w 0 w.heap.size A c (bv bs)) (hb : bs.length ≤ 3000) (hn0 : ¬ n = 0) (hn1 : ¬ n < 0) (hn : 65536 < n) (hr : rightV v = true) (hL : 12 < lenV v) (hf : min ((bufV v + 1) * 65536) bs.length < bufV v * 65536 + atV v + lenV v) :
    Calls Try.prog 5 #[.slice A bs.length c, .int .i64 n, .agg (vb v)] w fun e w' => e = .returned (.bool true) ∧ Below w.heap.size w w' := by
  have hu16 := Try.underlying28
  have hiv : (Try.prog.info? 28).map (·.size) = some (bv v).length := sizeV (by rw [bv_length]; exact hv)
  have hst : stepL n = 65536 := by unfold stepL; rw [if_pos (.inr hn)]
  have hcl := h.len
  have hcc := h.cap
  rw [bv_length] at hcl
  unfold maxLen at hcc
  have hb0 := (Below.refl w.heap.size w).alloc (Nat.le_refl _) (.cells (vb v) 28)
  have HB0 := Lib.hid hb0
  have HV0 := Lib.hid (Blk.new w 28 (vb v))
  have HR0 := Lib.hid (h.below hb0 (Nat.le_refl _))
  have HS0 := Lib.hid hb0.size
  have hright := fun w0 => vright_any (w := w0) v hv
  rw [hr] at hright
  have HRI := Lib.hid hright
  clear h hb0 hright
  have hshort := fun w0 => vshort_any (w := w0) v hv
  rw [decide_eq_false (by omega)] at hshort
  have HSH := Lib.hid hshort
  clear hshort
  obtain ⟨hl4, hx1, hy1⟩ := rightV_says hr hL
  have HFI : Hid (∀ es, OfE 65536 bs.length es → bs.length ≤ es.length * 65536 → findL bs es v = if bufV v * 65536 + atV v + lenV v ≤ min ((bufV v + 1) * 65536) bs.length ∧ (bs.drop (bufV v * 65536 + atV v)).take 4 = prefV v then some ((bs.drop (bufV v * 65536 + atV v)).take (lenV v)) else none) := fun es h1 h2 => findL_of h1 h2 hr hL
  have hplace := fun w0 => vplace_any (w := w0) v hv
  have hvlen := fun w0 => vlen_any (w := w0) v hv
  have hvpre := fun w0 => vprefix_any (w := w0) v hv
  have HFN : Hid (∀ es, OfE 65536 bs.length es → bs.length ≤ es.length * 65536 → findL bs es v = none) := fun es h1 h2 => by rw [HFI.out es h1 h2, if_neg (fun h => by have := h.1; omega)]
  clear HFI
  generalize bufV v = x at *
  generalize atV v = y at *
  generalize lenV v = L at *
  obtain ⟨q, hq⟩ : ∃ q, x * 65536 = q := ⟨_, rfl⟩
  obtain ⟨p, hp⟩ : ∃ p, (x + 1) * 65536 = p := ⟨_, rfl⟩
  have hqb : q ≤ 65535 * 65536 := by rw [← hq]; exact Nat.mul_le_mul hx1 (by omega)
  have hpb : p ≤ 65536 * 65536 := by rw [← hp]; exact Nat.mul_le_mul (by omega) (by omega)
  have hqi : (x : Int) * 65536 = (q : Int) := by rw [← hq]; simp
  have hpi : ((x : Int) + 1) * 65536 = (p : Int) := by rw [← hp]; simp
  rw [hq, hp] at hf
  obtain ⟨f, hfd⟩ : ∃ f, q + y = f := ⟨_, rfl⟩
  have hfi : (q : Int) + (y : Int) = (f : Int) := by omega
  rw [hfd] at hf
  have hfb : f ≤ 65536 * 65536 := by omega
  have hwL : IntKind.i64.wrap ((f : Int) + (L : Int)) = (f : Int) + (L : Int) := IntWalk.i64_in _ (by omega)
  have hw4 : IntKind.i64.wrap ((f : Int) + 4) = (f : Int) + 4 := IntWalk.i64_in _ (by omega)
  have HPL := Lib.hid hplace
  have HLE := Lib.hid hvlen
  have HPF := Lib.hid hvpre
  clear hplace hvlen hvpre hr hq hp hfd
  go_enter Try.func5, Try.ntmps5
  go_wp2_with fail
  refine (awake7_any _).mono ?_
  rintro r w1 ⟨rfl, hb0⟩
  have HB1 := Lib.hid (below_below HB0.out hb0 HB0.out.size)
  have HV1 := Lib.hid (HV0.out.below hb0 HV0.out.lt)
  have HR1 := Lib.hid (HR0.out.below hb0 HS0.out)
  have HS1 := Lib.hid (Nat.le_trans HS0.out hb0.size)
  clear hb0
  have hof := of_any bs n HR1.out HS1.out hb
  rw [hst] at hof
  have HOF := Lib.hid hof
  clear hof
  go_wp2_with fail
  refine HOF.out.mono ?_
  rintro r w2 ⟨g, es, M, rfl, hp2, hofe, hcov, hb0⟩
  have HB2 := Lib.hid (below_below HB1.out hb0 HB1.out.size)
  have HV2 := Lib.hid (HV1.out.below hb0 HV1.out.lt)
  have HR2 := Lib.hid (HR1.out.below hb0 HS1.out)
  have HS2 := Lib.hid (Nat.le_trans HS1.out hb0.size)
  clear hb0
  have hget := get_any hp2 v hv
  have hfn := HFN.out es hofe hcov
  rw [gotL_none hfn, hfn] at hget
  change Calls _ _ _ _ (fun r w' => r = .returned (.tuple #[.string ⟨#[]⟩, .bool false]) ∧ Below w2.heap.size w2 w') at hget
  have HGE := Lib.hid hget
  clear hp2 hofe hcov hget hfn HOF HFN
  unfold hp at HGE ⊢
  go_wp2_with (refine wpList_loadV HV2.out hv rfl _ rfl rfl ?_)
  refine HGE.out.mono ?_
  rintro r w3 ⟨rfl, hb0⟩
  have HB3 := Lib.hid (below_below HB2.out hb0 HB2.out.size)
  have HV3 := Lib.hid (HV2.out.below hb0 HV2.out.lt)
  have HR3 := Lib.hid (HR2.out.below hb0 HS2.out)
  have HS3 := Lib.hid (Nat.le_trans HS2.out hb0.size)
  clear hb0
  go_wp2_with (refine wpList_loadV HV3.out hv rfl _ rfl rfl ?_)
  refine (HRI.out _).mono ?_
  rintro r w4 ⟨rfl, hb0⟩
  have HB4 := Lib.hid (below_below HB3.out hb0 HB3.out.size)
  have HV4 := Lib.hid (HV3.out.below hb0 HV3.out.lt)
  have HR4 := Lib.hid (HR3.out.below hb0 HS3.out)
  have HS4 := Lib.hid (Nat.le_trans HS3.out hb0.size)
  clear hb0
  go_wp2_with (refine wpList_loadV HV4.out hv rfl _ rfl rfl ?_)
  refine (HSH.out _).mono ?_
  rintro r w5 ⟨rfl, hb0⟩
  have HB5 := Lib.hid (below_below HB4.out hb0 HB4.out.size)
  have HV5 := Lib.hid (HV4.out.below hb0 HV4.out.lt)
  have HR5 := Lib.hid (HR4.out.below hb0 HS4.out)
  have HS5 := Lib.hid (Nat.le_trans HS4.out hb0.size)
  clear hb0
  go_wp2_with (refine wpList_loadV HV5.out hv rfl _ rfl rfl ?_)
  refine (HPL.out _).mono ?_
  rintro r w9 ⟨rfl, hb0⟩
  have HB9 := Lib.hid (below_below HB5.out hb0 HB5.out.size)
  have HV9 := Lib.hid (HV5.out.below hb0 HV5.out.lt)
  have HR9 := Lib.hid (HR5.out.below hb0 HS5.out)
  have HS9 := Lib.hid (Nat.le_trans HS5.out hb0.size)
  clear hb0
  rcases Nat.lt_or_ge bs.length p with he | he
  · have hei : (bs.length : Int) < (p : Int) := by omega
    have hgt : (bs.length : Int) < (f : Int) + (L : Int) := by omega
    go_wp2_with fail
    refine wp_region_held_drew (S := fun w' => Below w9.heap.size w9 w') (by kernel_rfl) (Below.drew (Below.refl _ _)) (fun hHeld => ?_)
    refine wpAnyH_take (i := 0) (oi := _) (v := ?_) rfl (by kernel_rfl) (by kernel_rfl) (by kernel_rfl) (fun _ _ _ h => h) (Or.inl ⟨by rfl, ?_⟩) hHeld ?_
    rotate_left
    focus (intro W hSw; go_simp; try with_reducible rfl)
    try simp only [List.getElem_toArray, List.getElem_cons_zero, List.getElem_cons_succ, Act.put, List.setIfInBounds_toArray, List.set_cons_zero, List.set_cons_succ]
    refine wpAnyH_take (i := 1) (oi := _) (v := _) rfl (by kernel_rfl) (by kernel_rfl) (by kernel_rfl) (fun _ _ _ h => h) (yieldsIf_load_mid (by rfl) _ _ rfl _ _ rfl (bv v) _ (fun _ h => rangeB HV9.out h) hu16 rfl hiv) hHeld ?_
    try simp only [List.getElem_toArray, List.getElem_cons_zero, List.getElem_cons_succ, Act.put, List.setIfInBounds_toArray, List.set_cons_zero, List.set_cons_succ]
    refine wpAnyH_take (i := 4) (oi := _) (v := ?_) rfl (by kernel_rfl) (by kernel_rfl) (by kernel_rfl) (fun _ _ _ h => h) (Or.inl ⟨by rfl, ?_⟩) hHeld ?_
    rotate_left
    focus (intro W hSw; go_simp; try with_reducible rfl)
    try simp only [List.getElem_toArray, List.getElem_cons_zero, List.getElem_cons_succ, Act.put, List.setIfInBounds_toArray, List.set_cons_zero, List.set_cons_succ]
    refine wpAnyH_ready (rs := [2]) (by kernel_rfl) (by simp) ?_
    refine AllReadyH.cons (o := _) rfl (fun K hK => ?_) AllReadyH.nil
    go_simp
    refine (HLE.out _).mono ?_
    rintro r u1 ⟨rfl, hb0⟩
    refine hK.out _ _ (below_below hHeld hb0 hHeld.size) (fun hHeld => ?_)
    clear hK K
    try simp only [List.getElem_toArray, List.getElem_cons_zero, List.getElem_cons_succ, Act.put, List.setIfInBounds_toArray, List.set_cons_zero, List.set_cons_succ]
    refine wpAnyH_take (i := 3) (oi := _) (v := ?_) rfl (by kernel_rfl) (by kernel_rfl) (by kernel_rfl) (fun _ _ _ h => h) (Or.inl ⟨by rfl, ?_⟩) hHeld ?_
    rotate_left
    focus (intro W hSw; go_simp; try with_reducible rfl)
    try simp only [List.getElem_toArray, List.getElem_cons_zero, List.getElem_cons_succ, Act.put, List.setIfInBounds_toArray, List.set_cons_zero, List.set_cons_succ]
    refine wpAnyH_take (i := 5) (oi := _) (v := .bool true) rfl (by kernel_rfl) (by kernel_rfl) (by kernel_rfl) (fun _ _ _ h => h) (Or.inl ⟨by rfl, ?_⟩) hHeld ?_
    focus (intro W hSw; go_simp; try with_reducible rfl)
    try simp only [List.getElem_toArray, List.getElem_cons_zero, List.getElem_cons_succ, Act.put, List.setIfInBounds_toArray, List.set_cons_zero, List.set_cons_succ]
    refine wpAnyH_take (i := 6) (oi := _) (v := ?_) rfl (by kernel_rfl) (by kernel_rfl) (by kernel_rfl) (fun _ _ _ h => h) (Or.inl ⟨by rfl, ?_⟩) hHeld ?_
    rotate_left
    focus (intro W hSw; go_simp; try with_reducible rfl)
    try simp only [List.getElem_toArray, List.getElem_cons_zero, List.getElem_cons_succ, Act.put, List.setIfInBounds_toArray, List.set_cons_zero, List.set_cons_succ]
    refine wpAnyH_take (i := 7) (oi := _) (v := undef) rfl (by kernel_rfl) (by kernel_rfl) (by kernel_rfl) (fun _ _ _ h => h) (Or.inr ⟨by rfl, rfl⟩) hHeld ?_
    try simp only [List.getElem_toArray, List.getElem_cons_zero, List.getElem_cons_succ, Act.put, List.setIfInBounds_toArray, List.set_cons_zero, List.set_cons_succ]
    refine wpAnyH_take (i := 8) (oi := _) (v := undef) rfl (by kernel_rfl) (by kernel_rfl) (by kernel_rfl) (fun _ _ _ h => h) (Or.inr ⟨by rfl, rfl⟩) hHeld ?_
    try simp only [List.getElem_toArray, List.getElem_cons_zero, List.getElem_cons_succ, Act.put, List.setIfInBounds_toArray, List.set_cons_zero, List.set_cons_succ]
    refine wpAnyH_take (i := 9) (oi := _) (v := undef) rfl (by kernel_rfl) (by kernel_rfl) (by kernel_rfl) (fun _ _ _ h => h) (Or.inr ⟨by rfl, rfl⟩) hHeld ?_
    try simp only [List.getElem_toArray, List.getElem_cons_zero, List.getElem_cons_succ, Act.put, List.setIfInBounds_toArray, List.set_cons_zero, List.set_cons_succ]
    refine wpAnyH_take (i := 10) (oi := _) (v := undef) rfl (by kernel_rfl) (by kernel_rfl) (by kernel_rfl) (fun _ _ _ h => h) (Or.inr ⟨by rfl, rfl⟩) hHeld ?_
    try simp only [List.getElem_toArray, List.getElem_cons_zero, List.getElem_cons_succ, Act.put, List.setIfInBounds_toArray, List.set_cons_zero, List.set_cons_succ]
    refine wpAnyH_take (i := 11) (oi := _) (v := undef) rfl (by kernel_rfl) (by kernel_rfl) (by kernel_rfl) (fun _ _ _ h => h) (Or.inr ⟨by rfl, rfl⟩) hHeld ?_
    try simp only [List.getElem_toArray, List.getElem_cons_zero, List.getElem_cons_succ, Act.put, List.setIfInBounds_toArray, List.set_cons_zero, List.set_cons_succ]
    refine wpAnyH_take (i := 12) (oi := _) (v := undef) rfl (by kernel_rfl) (by kernel_rfl) (by kernel_rfl) (fun _ _ _ h => h) (Or.inr ⟨by rfl, rfl⟩) hHeld ?_
    try simp only [List.getElem_toArray, List.getElem_cons_zero, List.getElem_cons_succ, Act.put, List.setIfInBounds_toArray, List.set_cons_zero, List.set_cons_succ]
    refine wpAnyH_take (i := 13) (oi := _) (v := undef) rfl (by kernel_rfl) (by kernel_rfl) (by kernel_rfl) (fun _ _ _ h => h) (Or.inr ⟨by rfl, rfl⟩) hHeld ?_
    try simp only [List.getElem_toArray, List.getElem_cons_zero, List.getElem_cons_succ, Act.put, List.setIfInBounds_toArray, List.set_cons_zero, List.set_cons_succ]
    refine wpAnyH_take (i := 14) (oi := _) (v := undef) rfl (by kernel_rfl) (by kernel_rfl) (by kernel_rfl) (fun _ _ _ h => h) (Or.inr ⟨by rfl, rfl⟩) hHeld ?_
    try simp only [List.getElem_toArray, List.getElem_cons_zero, List.getElem_cons_succ, Act.put, List.setIfInBounds_toArray, List.set_cons_zero, List.set_cons_succ]
    refine wpAnyH_take (i := 15) (oi := _) (v := undef) rfl (by kernel_rfl) (by kernel_rfl) (by kernel_rfl) (fun _ _ _ h => h) (Or.inr ⟨by rfl, rfl⟩) hHeld ?_
    try simp only [List.getElem_toArray, List.getElem_cons_zero, List.getElem_cons_succ, Act.put, List.setIfInBounds_toArray, List.set_cons_zero, List.set_cons_succ]
    refine wpAnyH_take (i := 16) (oi := _) (v := ?_) rfl (by kernel_rfl) (by kernel_rfl) (by kernel_rfl) (fun _ _ _ h => h) (Or.inl ⟨by rfl, ?_⟩) hHeld ?_
    rotate_left
    focus (intro W hSw; go_simp; try with_reducible rfl)
    try simp only [List.getElem_toArray, List.getElem_cons_zero, List.getElem_cons_succ, Act.put, List.setIfInBounds_toArray, List.set_cons_zero, List.set_cons_succ]
    refine wpAnyH_done (by kernel_rfl) ?_ _
    have HE := Lib.hid (below_below HB9.out hHeld HB9.out.size)
    clear hHeld
    go_wp2_with fail
    go_ret
    exact ⟨rfl, HE.out⟩
  · exfalso; omega

set_option maxRecDepth 20000 in
set_option maxHeartbeats 4000000 in
theorem heapGets_other_great {w : World} (bs : List UInt8) (A : Option Addr) (c : Nat) (n : Int) (v : List UInt8) (hv : v.length = 16) (h : Rd w 0 w.heap.size A c (bv bs)) (hb : bs.length ≤ 3000) (hn0 : ¬ n = 0) (hn1 : ¬ n < 0) (hn : 65536 < n) (hr : rightV v = true) (hL : 12 < lenV v) (hf : bufV v * 65536 + atV v + lenV v ≤ min ((bufV v + 1) * 65536) bs.length) (h4 : ¬ (bs.drop (bufV v * 65536 + atV v)).take 4 = prefV v) :
    Calls Try.prog 5 #[.slice A bs.length c, .int .i64 n, .agg (vb v)] w fun e w' => e = .returned (.bool true) ∧ Below w.heap.size w w' := by
  have hu16 := Try.underlying28
  have hiv : (Try.prog.info? 28).map (·.size) = some (bv v).length := sizeV (by rw [bv_length]; exact hv)
  have hst : stepL n = 65536 := by unfold stepL; rw [if_pos (.inr hn)]
  have hcl := h.len
  have hcc := h.cap
  rw [bv_length] at hcl
  unfold maxLen at hcc
  have hb0 := (Below.refl w.heap.size w).alloc (Nat.le_refl _) (.cells (vb v) 28)
  have HB0 := Lib.hid hb0
  have HV0 := Lib.hid (Blk.new w 28 (vb v))
  have HR0 := Lib.hid (h.below hb0 (Nat.le_refl _))
  have HS0 := Lib.hid hb0.size
  have hright := fun w0 => vright_any (w := w0) v hv
  rw [hr] at hright
  have HRI := Lib.hid hright
  clear h hb0 hright
  have hshort := fun w0 => vshort_any (w := w0) v hv
  rw [decide_eq_false (by omega)] at hshort
  have HSH := Lib.hid hshort
  clear hshort
  obtain ⟨hl4, hx1, hy1⟩ := rightV_says hr hL
  have HFI : Hid (∀ es, OfE 65536 bs.length es → bs.length ≤ es.length * 65536 → findL bs es v = if bufV v * 65536 + atV v + lenV v ≤ min ((bufV v + 1) * 65536) bs.length ∧ (bs.drop (bufV v * 65536 + atV v)).take 4 = prefV v then some ((bs.drop (bufV v * 65536 + atV v)).take (lenV v)) else none) := fun es h1 h2 => findL_of h1 h2 hr hL
  have hplace := fun w0 => vplace_any (w := w0) v hv
  have hvlen := fun w0 => vlen_any (w := w0) v hv
  have hvpre := fun w0 => vprefix_any (w := w0) v hv
  have HFN : Hid (∀ es, OfE 65536 bs.length es → bs.length ≤ es.length * 65536 → findL bs es v = none) := fun es h1 h2 => by rw [HFI.out es h1 h2, if_neg (fun h => h4 h.2)]
  clear HFI
  generalize bufV v = x at *
  generalize atV v = y at *
  generalize lenV v = L at *
  obtain ⟨q, hq⟩ : ∃ q, x * 65536 = q := ⟨_, rfl⟩
  obtain ⟨p, hp⟩ : ∃ p, (x + 1) * 65536 = p := ⟨_, rfl⟩
  have hqb : q ≤ 65535 * 65536 := by rw [← hq]; exact Nat.mul_le_mul hx1 (by omega)
  have hpb : p ≤ 65536 * 65536 := by rw [← hp]; exact Nat.mul_le_mul (by omega) (by omega)
  have hqi : (x : Int) * 65536 = (q : Int) := by rw [← hq]; simp
  have hpi : ((x : Int) + 1) * 65536 = (p : Int) := by rw [← hp]; simp
  rw [hq, hp] at hf
  rw [hq] at h4
  try simp only [hq] at HFN
  obtain ⟨f, hfd⟩ : ∃ f, q + y = f := ⟨_, rfl⟩
  have hfi : (q : Int) + (y : Int) = (f : Int) := by omega
  rw [hfd] at hf h4
  try simp only [hfd] at HFN
  have hfb : f ≤ 65536 * 65536 := by omega
  have hwL : IntKind.i64.wrap ((f : Int) + (L : Int)) = (f : Int) + (L : Int) := IntWalk.i64_in _ (by omega)
  have hw4 : IntKind.i64.wrap ((f : Int) + 4) = (f : Int) + 4 := IntWalk.i64_in _ (by omega)
  obtain ⟨p4, hp4⟩ : ∃ s : ByteArray, ⟨(prefV v).toArray⟩ = s := ⟨_, rfl⟩
  rw [hp4] at hvpre
  obtain ⟨s4, hs4⟩ : ∃ s : ByteArray, ⟨((bs.drop f).take 4).toArray⟩ = s := ⟨_, rfl⟩
  have hne : ¬ s4 = p4 := fun e => h4 (by
    rw [← hs4, ← hp4] at e
    injection e with e
    exact List.toArray_inj e)
  have hnl : ¬ s4.toList = p4.toList := fun e => hne (str_inj e)
  have HSX := Lib.hid hs4
  clear hs4
  clear hp4 h4
  have HPL := Lib.hid hplace
  have HLE := Lib.hid hvlen
  have HPF := Lib.hid hvpre
  clear hplace hvlen hvpre hr hq hp hfd
  go_enter Try.func5, Try.ntmps5
  go_wp2_with fail
  refine (awake7_any _).mono ?_
  rintro r w1 ⟨rfl, hb0⟩
  have HB1 := Lib.hid (below_below HB0.out hb0 HB0.out.size)
  have HV1 := Lib.hid (HV0.out.below hb0 HV0.out.lt)
  have HR1 := Lib.hid (HR0.out.below hb0 HS0.out)
  have HS1 := Lib.hid (Nat.le_trans HS0.out hb0.size)
  clear hb0
  have hof := of_any bs n HR1.out HS1.out hb
  rw [hst] at hof
  have HOF := Lib.hid hof
  clear hof
  go_wp2_with fail
  refine HOF.out.mono ?_
  rintro r w2 ⟨g, es, M, rfl, hp2, hofe, hcov, hb0⟩
  have HB2 := Lib.hid (below_below HB1.out hb0 HB1.out.size)
  have HV2 := Lib.hid (HV1.out.below hb0 HV1.out.lt)
  have HR2 := Lib.hid (HR1.out.below hb0 HS1.out)
  have HS2 := Lib.hid (Nat.le_trans HS1.out hb0.size)
  clear hb0
  have hget := get_any hp2 v hv
  have hfn := HFN.out es hofe hcov
  rw [gotL_none hfn, hfn] at hget
  change Calls _ _ _ _ (fun r w' => r = .returned (.tuple #[.string ⟨#[]⟩, .bool false]) ∧ Below w2.heap.size w2 w') at hget
  have HGE := Lib.hid hget
  clear hp2 hofe hcov hget hfn HOF HFN
  unfold hp at HGE ⊢
  go_wp2_with (refine wpList_loadV HV2.out hv rfl _ rfl rfl ?_)
  refine HGE.out.mono ?_
  rintro r w3 ⟨rfl, hb0⟩
  have HB3 := Lib.hid (below_below HB2.out hb0 HB2.out.size)
  have HV3 := Lib.hid (HV2.out.below hb0 HV2.out.lt)
  have HR3 := Lib.hid (HR2.out.below hb0 HS2.out)
  have HS3 := Lib.hid (Nat.le_trans HS2.out hb0.size)
  clear hb0
  go_wp2_with (refine wpList_loadV HV3.out hv rfl _ rfl rfl ?_)
  refine (HRI.out _).mono ?_
  rintro r w4 ⟨rfl, hb0⟩
  have HB4 := Lib.hid (below_below HB3.out hb0 HB3.out.size)
  have HV4 := Lib.hid (HV3.out.below hb0 HV3.out.lt)
  have HR4 := Lib.hid (HR3.out.below hb0 HS3.out)
  have HS4 := Lib.hid (Nat.le_trans HS3.out hb0.size)
  clear hb0
  go_wp2_with (refine wpList_loadV HV4.out hv rfl _ rfl rfl ?_)
  refine (HSH.out _).mono ?_
  rintro r w5 ⟨rfl, hb0⟩
  have HB5 := Lib.hid (below_below HB4.out hb0 HB4.out.size)
  have HV5 := Lib.hid (HV4.out.below hb0 HV4.out.lt)
  have HR5 := Lib.hid (HR4.out.below hb0 HS4.out)
  have HS5 := Lib.hid (Nat.le_trans HS4.out hb0.size)
  clear hb0
  go_wp2_with (refine wpList_loadV HV5.out hv rfl _ rfl rfl ?_)
  refine (HPL.out _).mono ?_
  rintro r w9 ⟨rfl, hb0⟩
  have HB9 := Lib.hid (below_below HB5.out hb0 HB5.out.size)
  have HV9 := Lib.hid (HV5.out.below hb0 HV5.out.lt)
  have HR9 := Lib.hid (HR5.out.below hb0 HS5.out)
  have HS9 := Lib.hid (Nat.le_trans HS5.out hb0.size)
  clear hb0
  have hcf : ¬ c = f := by omega
  have HC4 : Hid (∀ W, Below w9.heap.size w9 W → (convert 36 9 (.slice (Option.map (fun x => x.add f) A) 4 (c - f))).run Try.prog W = .ok (.string s4) W) := fun W hW => by
    have hcut := (HR9.out.below hW HS9.out).cut (k := f) (n := f + 4) (by omega) (by rw [bv_length]; omega)
    rw [if_neg hcf, show f + 4 - f = 4 by omega, ← bv_drop, ← bv_take] at hcut
    have := run_string_rd (P := Try.prog) W 36 9 5 Try.underlying36 Try.underlying5 Try.underlying9 0 w.heap.size _ _ _ hcut
    rw [List.length_take, List.length_drop, Nat.min_eq_left (by omega), HSX.out] at this
    exact this
  rcases Nat.lt_or_ge bs.length p with he | he
  · have hei : (bs.length : Int) < (p : Int) := by omega
    have hgt : (f : Int) + (L : Int) ≤ (bs.length : Int) := by omega
    have i4 : (f : Int) + 4 ≤ (c : Int) := by omega
    have iL : (f : Int) + (L : Int) ≤ (c : Int) := by omega
    have j0 : (0 : Int) ≤ (f : Int) + 4 := by omega
    have j1 : ((f : Int) + 4).toNat = f + 4 := by omega
    have j2 : f ≤ f + 4 := by omega
    have j3 : f + 4 - f = 4 := by omega
    go_wp2_with fail
    refine wp_region_held_drew (S := fun w' => Below w9.heap.size w9 w') (by kernel_rfl) (Below.drew (Below.refl _ _)) (fun hHeld => ?_)
    refine wpAnyH_take (i := 0) (oi := _) (v := ?_) rfl (by kernel_rfl) (by kernel_rfl) (by kernel_rfl) (fun _ _ _ h => h) (Or.inl ⟨by rfl, ?_⟩) hHeld ?_
    rotate_left
    focus (intro W hSw; go_simp; try with_reducible rfl)
    try simp only [List.getElem_toArray, List.getElem_cons_zero, List.getElem_cons_succ, Act.put, List.setIfInBounds_toArray, List.set_cons_zero, List.set_cons_succ]
    refine wpAnyH_take (i := 1) (oi := _) (v := _) rfl (by kernel_rfl) (by kernel_rfl) (by kernel_rfl) (fun _ _ _ h => h) (yieldsIf_load_mid (by rfl) _ _ rfl _ _ rfl (bv v) _ (fun _ h => rangeB HV9.out h) hu16 rfl hiv) hHeld ?_
    try simp only [List.getElem_toArray, List.getElem_cons_zero, List.getElem_cons_succ, Act.put, List.setIfInBounds_toArray, List.set_cons_zero, List.set_cons_succ]
    refine wpAnyH_take (i := 4) (oi := _) (v := ?_) rfl (by kernel_rfl) (by kernel_rfl) (by kernel_rfl) (fun _ _ _ h => h) (Or.inl ⟨by rfl, ?_⟩) hHeld ?_
    rotate_left
    focus (intro W hSw; go_simp; try with_reducible rfl)
    try simp only [List.getElem_toArray, List.getElem_cons_zero, List.getElem_cons_succ, Act.put, List.setIfInBounds_toArray, List.set_cons_zero, List.set_cons_succ]
    refine wpAnyH_ready (rs := [2]) (by kernel_rfl) (by simp) ?_
    refine AllReadyH.cons (o := _) rfl (fun K hK => ?_) AllReadyH.nil
    go_simp
    refine (HLE.out _).mono ?_
    rintro r u1 ⟨rfl, hb0⟩
    refine hK.out _ _ (below_below hHeld hb0 hHeld.size) (fun hHeld => ?_)
    clear hK K
    try simp only [List.getElem_toArray, List.getElem_cons_zero, List.getElem_cons_succ, Act.put, List.setIfInBounds_toArray, List.set_cons_zero, List.set_cons_succ]
    refine wpAnyH_take (i := 3) (oi := _) (v := ?_) rfl (by kernel_rfl) (by kernel_rfl) (by kernel_rfl) (fun _ _ _ h => h) (Or.inl ⟨by rfl, ?_⟩) hHeld ?_
    rotate_left
    focus (intro W hSw; go_simp; try with_reducible rfl)
    try simp only [List.getElem_toArray, List.getElem_cons_zero, List.getElem_cons_succ, Act.put, List.setIfInBounds_toArray, List.set_cons_zero, List.set_cons_succ]
    refine wpAnyH_take (i := 5) (oi := _) (v := .bool false) rfl (by kernel_rfl) (by kernel_rfl) (by kernel_rfl) (fun _ _ _ h => h) (Or.inl ⟨by rfl, ?_⟩) hHeld ?_
    focus (intro W hSw; go_simp; try with_reducible rfl)
    try simp only [List.getElem_toArray, List.getElem_cons_zero, List.getElem_cons_succ, Act.put, List.setIfInBounds_toArray, List.set_cons_zero, List.set_cons_succ]
    refine wpAnyH_take (i := 6) (oi := _) (v := ?_) rfl (by kernel_rfl) (by kernel_rfl) (by kernel_rfl) (fun _ _ _ h => h) (Or.inl ⟨by rfl, ?_⟩) hHeld ?_
    rotate_left
    focus (intro W hSw; go_simp; try with_reducible rfl)
    try simp only [List.getElem_toArray, List.getElem_cons_zero, List.getElem_cons_succ, Act.put, List.setIfInBounds_toArray, List.set_cons_zero, List.set_cons_succ]
    refine wpAnyH_take (i := 7) (oi := _) (v := ?_) rfl (by kernel_rfl) (by kernel_rfl) (by kernel_rfl) (fun _ _ _ h => h) (Or.inl ⟨by rfl, ?_⟩) hHeld ?_
    rotate_left
    focus (intro W hSw; go_simp; try with_reducible rfl)
    try simp only [List.getElem_toArray, List.getElem_cons_zero, List.getElem_cons_succ, Act.put, List.setIfInBounds_toArray, List.set_cons_zero, List.set_cons_succ]
    refine wpAnyH_take (i := 8) (oi := _) (v := ?_) rfl (by kernel_rfl) (by kernel_rfl) (by kernel_rfl) (fun _ _ _ h => h) (Or.inl ⟨by rfl, ?_⟩) hHeld ?_
    rotate_left
    focus (intro W hSw; go_simp; try with_reducible rfl)
    try simp only [List.getElem_toArray, List.getElem_cons_zero, List.getElem_cons_succ, Act.put, List.setIfInBounds_toArray, List.set_cons_zero, List.set_cons_succ]
    refine wpAnyH_take (i := 9) (oi := _) (v := ?_) rfl (by kernel_rfl) (by kernel_rfl) (by kernel_rfl) (fun _ _ _ h => h) (Or.inl ⟨by rfl, ?_⟩) hHeld ?_
    rotate_left
    focus (intro W hSw; go_simp; try with_reducible rfl)
    try simp only [List.getElem_toArray, List.getElem_cons_zero, List.getElem_cons_succ, Act.put, List.setIfInBounds_toArray, List.set_cons_zero, List.set_cons_succ]
    refine wpAnyH_take (i := 10) (oi := _) (v := ?_) rfl (by kernel_rfl) (by kernel_rfl) (by kernel_rfl) (fun _ _ _ h => h) (Or.inl ⟨by rfl, ?_⟩) hHeld ?_
    rotate_left
    focus (intro W hSw; go_simp; try with_reducible rfl)
    try simp only [List.getElem_toArray, List.getElem_cons_zero, List.getElem_cons_succ, Act.put, List.setIfInBounds_toArray, List.set_cons_zero, List.set_cons_succ]
    refine wpAnyH_take (i := 11) (oi := _) (v := .slice (Option.map (fun x => x.add f) A) 4 (c - f)) rfl (by kernel_rfl) (by kernel_rfl) (by kernel_rfl) (fun _ _ _ h => h) (Or.inl ⟨by rfl, ?_⟩) hHeld ?_
    focus (intro W hSw; go_simp; try with_reducible rfl)
    try simp only [List.getElem_toArray, List.getElem_cons_zero, List.getElem_cons_succ, Act.put, List.setIfInBounds_toArray, List.set_cons_zero, List.set_cons_succ]
    refine wpAnyH_take (i := 12) (oi := _) (v := .string s4) rfl (by kernel_rfl) (by kernel_rfl) (by kernel_rfl) (fun _ _ _ h => h) (Or.inl ⟨by rfl, ?_⟩) hHeld ?_
    focus (intro W hSw; have hcv := HC4.out W hSw; go_simp; try with_reducible rfl)
    try simp only [List.getElem_toArray, List.getElem_cons_zero, List.getElem_cons_succ, Act.put, List.setIfInBounds_toArray, List.set_cons_zero, List.set_cons_succ]
    refine wpAnyH_take (i := 13) (oi := _) (v := _) rfl (by kernel_rfl) (by kernel_rfl) (by kernel_rfl) (fun _ _ _ h => h) (yieldsIf_load_mid (by rfl) _ _ rfl _ _ rfl (bv v) _ (fun _ h => rangeB HV9.out h) hu16 rfl hiv) hHeld ?_
    try simp only [List.getElem_toArray, List.getElem_cons_zero, List.getElem_cons_succ, Act.put, List.setIfInBounds_toArray, List.set_cons_zero, List.set_cons_succ]
    refine wpAnyH_ready (rs := [14]) (by kernel_rfl) (by simp) ?_
    refine AllReadyH.cons (o := _) rfl (fun K hK => ?_) AllReadyH.nil
    go_simp
    refine (HPF.out _).mono ?_
    rintro r u2 ⟨rfl, hb0⟩
    refine hK.out _ _ (below_below hHeld hb0 hHeld.size) (fun hHeld => ?_)
    clear hK K
    try simp only [List.getElem_toArray, List.getElem_cons_zero, List.getElem_cons_succ, Act.put, List.setIfInBounds_toArray, List.set_cons_zero, List.set_cons_succ]
    refine wpAnyH_take (i := 15) (oi := _) (v := .bool true) rfl (by kernel_rfl) (by kernel_rfl) (by kernel_rfl) (fun _ _ _ h => h) (Or.inl ⟨by rfl, ?_⟩) hHeld ?_
    focus (intro W hSw; go_simp; try with_reducible rfl)
    try simp only [List.getElem_toArray, List.getElem_cons_zero, List.getElem_cons_succ, Act.put, List.setIfInBounds_toArray, List.set_cons_zero, List.set_cons_succ]
    refine wpAnyH_take (i := 16) (oi := _) (v := ?_) rfl (by kernel_rfl) (by kernel_rfl) (by kernel_rfl) (fun _ _ _ h => h) (Or.inl ⟨by rfl, ?_⟩) hHeld ?_
    rotate_left
    focus (intro W hSw; go_simp; try with_reducible rfl)
    try simp only [List.getElem_toArray, List.getElem_cons_zero, List.getElem_cons_succ, Act.put, List.setIfInBounds_toArray, List.set_cons_zero, List.set_cons_succ]
    refine wpAnyH_done (by kernel_rfl) ?_ _
    have HE := Lib.hid (below_below HB9.out hHeld HB9.out.size)
    clear hHeld
    go_wp2_with fail
    go_ret
    exact ⟨rfl, HE.out⟩
  · exfalso; omega

set_option maxRecDepth 20000 in
set_option maxHeartbeats 4000000 in
theorem heapGets_there_great {w : World} (bs : List UInt8) (A : Option Addr) (c : Nat) (n : Int) (v : List UInt8) (hv : v.length = 16) (h : Rd w 0 w.heap.size A c (bv bs)) (hb : bs.length ≤ 3000) (hn0 : ¬ n = 0) (hn1 : ¬ n < 0) (hn : 65536 < n) (hr : rightV v = true) (hL : 12 < lenV v) (hf : bufV v * 65536 + atV v + lenV v ≤ min ((bufV v + 1) * 65536) bs.length) (h4 : (bs.drop (bufV v * 65536 + atV v)).take 4 = prefV v) :
    Calls Try.prog 5 #[.slice A bs.length c, .int .i64 n, .agg (vb v)] w fun e w' => e = .returned (.bool true) ∧ Below w.heap.size w w' := by
  have hu16 := Try.underlying28
  have hiv : (Try.prog.info? 28).map (·.size) = some (bv v).length := sizeV (by rw [bv_length]; exact hv)
  have hst : stepL n = 65536 := by unfold stepL; rw [if_pos (.inr hn)]
  have hcl := h.len
  have hcc := h.cap
  rw [bv_length] at hcl
  unfold maxLen at hcc
  have hb0 := (Below.refl w.heap.size w).alloc (Nat.le_refl _) (.cells (vb v) 28)
  have HB0 := Lib.hid hb0
  have HV0 := Lib.hid (Blk.new w 28 (vb v))
  have HR0 := Lib.hid (h.below hb0 (Nat.le_refl _))
  have HS0 := Lib.hid hb0.size
  have hright := fun w0 => vright_any (w := w0) v hv
  rw [hr] at hright
  have HRI := Lib.hid hright
  clear h hb0 hright
  have hshort := fun w0 => vshort_any (w := w0) v hv
  rw [decide_eq_false (by omega)] at hshort
  have HSH := Lib.hid hshort
  clear hshort
  obtain ⟨hl4, hx1, hy1⟩ := rightV_says hr hL
  have HFI : Hid (∀ es, OfE 65536 bs.length es → bs.length ≤ es.length * 65536 → findL bs es v = if bufV v * 65536 + atV v + lenV v ≤ min ((bufV v + 1) * 65536) bs.length ∧ (bs.drop (bufV v * 65536 + atV v)).take 4 = prefV v then some ((bs.drop (bufV v * 65536 + atV v)).take (lenV v)) else none) := fun es h1 h2 => findL_of h1 h2 hr hL
  have hplace := fun w0 => vplace_any (w := w0) v hv
  have hvlen := fun w0 => vlen_any (w := w0) v hv
  have hvpre := fun w0 => vprefix_any (w := w0) v hv
  have HFN : Hid (∀ es, OfE 65536 bs.length es → bs.length ≤ es.length * 65536 → findL bs es v = some ((bs.drop (bufV v * 65536 + atV v)).take (lenV v))) := fun es h1 h2 => by rw [HFI.out es h1 h2, if_pos ⟨hf, h4⟩]
  clear HFI
  generalize bufV v = x at *
  generalize atV v = y at *
  generalize lenV v = L at *
  obtain ⟨q, hq⟩ : ∃ q, x * 65536 = q := ⟨_, rfl⟩
  obtain ⟨p, hp⟩ : ∃ p, (x + 1) * 65536 = p := ⟨_, rfl⟩
  have hqb : q ≤ 65535 * 65536 := by rw [← hq]; exact Nat.mul_le_mul hx1 (by omega)
  have hpb : p ≤ 65536 * 65536 := by rw [← hp]; exact Nat.mul_le_mul (by omega) (by omega)
  have hqi : (x : Int) * 65536 = (q : Int) := by rw [← hq]; simp
  have hpi : ((x : Int) + 1) * 65536 = (p : Int) := by rw [← hp]; simp
  rw [hq, hp] at hf
  rw [hq] at h4
  try simp only [hq] at HFN
  obtain ⟨f, hfd⟩ : ∃ f, q + y = f := ⟨_, rfl⟩
  have hfi : (q : Int) + (y : Int) = (f : Int) := by omega
  rw [hfd] at hf h4
  try simp only [hfd] at HFN
  have hfb : f ≤ 65536 * 65536 := by omega
  have hwL : IntKind.i64.wrap ((f : Int) + (L : Int)) = (f : Int) + (L : Int) := IntWalk.i64_in _ (by omega)
  have hw4 : IntKind.i64.wrap ((f : Int) + 4) = (f : Int) + 4 := IntWalk.i64_in _ (by omega)
  obtain ⟨p4, hp4⟩ : ∃ s : ByteArray, ⟨(prefV v).toArray⟩ = s := ⟨_, rfl⟩
  rw [hp4] at hvpre
  have HSX : Hid ((⟨((bs.drop f).take 4).toArray⟩ : ByteArray) = p4) := by unfold Hid; rw [← hp4, h4]
  obtain ⟨sL, hsL⟩ : ∃ s : ByteArray, ⟨((bs.drop f).take L).toArray⟩ = s := ⟨_, rfl⟩
  have HSL := Lib.hid hsL
  clear hp4 h4
  have HPL := Lib.hid hplace
  have HLE := Lib.hid hvlen
  have HPF := Lib.hid hvpre
  clear hplace hvlen hvpre hr hq hp hfd
  go_enter Try.func5, Try.ntmps5
  go_wp2_with fail
  refine (awake7_any _).mono ?_
  rintro r w1 ⟨rfl, hb0⟩
  have HB1 := Lib.hid (below_below HB0.out hb0 HB0.out.size)
  have HV1 := Lib.hid (HV0.out.below hb0 HV0.out.lt)
  have HR1 := Lib.hid (HR0.out.below hb0 HS0.out)
  have HS1 := Lib.hid (Nat.le_trans HS0.out hb0.size)
  clear hb0
  have hof := of_any bs n HR1.out HS1.out hb
  rw [hst] at hof
  have HOF := Lib.hid hof
  clear hof
  go_wp2_with fail
  refine HOF.out.mono ?_
  rintro r w2 ⟨g, es, M, rfl, hp2, hofe, hcov, hb0⟩
  have HB2 := Lib.hid (below_below HB1.out hb0 HB1.out.size)
  have HV2 := Lib.hid (HV1.out.below hb0 HV1.out.lt)
  have HR2 := Lib.hid (HR1.out.below hb0 HS1.out)
  have HS2 := Lib.hid (Nat.le_trans HS1.out hb0.size)
  clear hb0
  have hget := get_any hp2 v hv
  have hfn := HFN.out es hofe hcov
  rw [gotL_some hfn, hfn] at hget
  rw [hsL] at hget
  clear hsL
  change Calls _ _ _ _ (fun r w' => r = .returned (.tuple #[.string _, .bool true]) ∧ Below w2.heap.size w2 w') at hget
  have HGE := Lib.hid hget
  clear hp2 hofe hcov hget hfn HOF HFN
  unfold hp at HGE ⊢
  go_wp2_with (refine wpList_loadV HV2.out hv rfl _ rfl rfl ?_)
  refine HGE.out.mono ?_
  rintro r w3 ⟨rfl, hb0⟩
  have HB3 := Lib.hid (below_below HB2.out hb0 HB2.out.size)
  have HV3 := Lib.hid (HV2.out.below hb0 HV2.out.lt)
  have HR3 := Lib.hid (HR2.out.below hb0 HS2.out)
  have HS3 := Lib.hid (Nat.le_trans HS2.out hb0.size)
  clear hb0
  go_wp2_with (refine wpList_loadV HV3.out hv rfl _ rfl rfl ?_)
  refine (HRI.out _).mono ?_
  rintro r w4 ⟨rfl, hb0⟩
  have HB4 := Lib.hid (below_below HB3.out hb0 HB3.out.size)
  have HV4 := Lib.hid (HV3.out.below hb0 HV3.out.lt)
  have HR4 := Lib.hid (HR3.out.below hb0 HS3.out)
  have HS4 := Lib.hid (Nat.le_trans HS3.out hb0.size)
  clear hb0
  go_wp2_with (refine wpList_loadV HV4.out hv rfl _ rfl rfl ?_)
  refine (HSH.out _).mono ?_
  rintro r w5 ⟨rfl, hb0⟩
  have HB5 := Lib.hid (below_below HB4.out hb0 HB4.out.size)
  have HV5 := Lib.hid (HV4.out.below hb0 HV4.out.lt)
  have HR5 := Lib.hid (HR4.out.below hb0 HS4.out)
  have HS5 := Lib.hid (Nat.le_trans HS4.out hb0.size)
  clear hb0
  go_wp2_with (refine wpList_loadV HV5.out hv rfl _ rfl rfl ?_)
  refine (HPL.out _).mono ?_
  rintro r w9 ⟨rfl, hb0⟩
  have HB9 := Lib.hid (below_below HB5.out hb0 HB5.out.size)
  have HV9 := Lib.hid (HV5.out.below hb0 HV5.out.lt)
  have HR9 := Lib.hid (HR5.out.below hb0 HS5.out)
  have HS9 := Lib.hid (Nat.le_trans HS5.out hb0.size)
  clear hb0
  have hcf : ¬ c = f := by omega
  have HC4 : Hid (∀ W, Below w9.heap.size w9 W → (convert 36 9 (.slice (Option.map (fun x => x.add f) A) 4 (c - f))).run Try.prog W = .ok (.string p4) W) := fun W hW => by
    have hcut := (HR9.out.below hW HS9.out).cut (k := f) (n := f + 4) (by omega) (by rw [bv_length]; omega)
    rw [if_neg hcf, show f + 4 - f = 4 by omega, ← bv_drop, ← bv_take] at hcut
    have := run_string_rd (P := Try.prog) W 36 9 5 Try.underlying36 Try.underlying5 Try.underlying9 0 w.heap.size _ _ _ hcut
    rw [List.length_take, List.length_drop, Nat.min_eq_left (by omega), HSX.out] at this
    exact this
  rcases Nat.lt_or_ge bs.length p with he | he
  · have hei : (bs.length : Int) < (p : Int) := by omega
    have hgt : (f : Int) + (L : Int) ≤ (bs.length : Int) := by omega
    have i4 : (f : Int) + 4 ≤ (c : Int) := by omega
    have iL : (f : Int) + (L : Int) ≤ (c : Int) := by omega
    have j0 : (0 : Int) ≤ (f : Int) + 4 := by omega
    have j1 : ((f : Int) + 4).toNat = f + 4 := by omega
    have j2 : f ≤ f + 4 := by omega
    have j3 : f + 4 - f = 4 := by omega
    go_wp2_with fail
    refine wp_region_held_drew (S := fun w' => Below w9.heap.size w9 w') (by kernel_rfl) (Below.drew (Below.refl _ _)) (fun hHeld => ?_)
    refine wpAnyH_take (i := 0) (oi := _) (v := ?_) rfl (by kernel_rfl) (by kernel_rfl) (by kernel_rfl) (fun _ _ _ h => h) (Or.inl ⟨by rfl, ?_⟩) hHeld ?_
    rotate_left
    focus (intro W hSw; go_simp; try with_reducible rfl)
    try simp only [List.getElem_toArray, List.getElem_cons_zero, List.getElem_cons_succ, Act.put, List.setIfInBounds_toArray, List.set_cons_zero, List.set_cons_succ]
    refine wpAnyH_take (i := 1) (oi := _) (v := _) rfl (by kernel_rfl) (by kernel_rfl) (by kernel_rfl) (fun _ _ _ h => h) (yieldsIf_load_mid (by rfl) _ _ rfl _ _ rfl (bv v) _ (fun _ h => rangeB HV9.out h) hu16 rfl hiv) hHeld ?_
    try simp only [List.getElem_toArray, List.getElem_cons_zero, List.getElem_cons_succ, Act.put, List.setIfInBounds_toArray, List.set_cons_zero, List.set_cons_succ]
    refine wpAnyH_take (i := 4) (oi := _) (v := ?_) rfl (by kernel_rfl) (by kernel_rfl) (by kernel_rfl) (fun _ _ _ h => h) (Or.inl ⟨by rfl, ?_⟩) hHeld ?_
    rotate_left
    focus (intro W hSw; go_simp; try with_reducible rfl)
    try simp only [List.getElem_toArray, List.getElem_cons_zero, List.getElem_cons_succ, Act.put, List.setIfInBounds_toArray, List.set_cons_zero, List.set_cons_succ]
    refine wpAnyH_ready (rs := [2]) (by kernel_rfl) (by simp) ?_
    refine AllReadyH.cons (o := _) rfl (fun K hK => ?_) AllReadyH.nil
    go_simp
    refine (HLE.out _).mono ?_
    rintro r u1 ⟨rfl, hb0⟩
    refine hK.out _ _ (below_below hHeld hb0 hHeld.size) (fun hHeld => ?_)
    clear hK K
    try simp only [List.getElem_toArray, List.getElem_cons_zero, List.getElem_cons_succ, Act.put, List.setIfInBounds_toArray, List.set_cons_zero, List.set_cons_succ]
    refine wpAnyH_take (i := 3) (oi := _) (v := ?_) rfl (by kernel_rfl) (by kernel_rfl) (by kernel_rfl) (fun _ _ _ h => h) (Or.inl ⟨by rfl, ?_⟩) hHeld ?_
    rotate_left
    focus (intro W hSw; go_simp; try with_reducible rfl)
    try simp only [List.getElem_toArray, List.getElem_cons_zero, List.getElem_cons_succ, Act.put, List.setIfInBounds_toArray, List.set_cons_zero, List.set_cons_succ]
    refine wpAnyH_take (i := 5) (oi := _) (v := .bool false) rfl (by kernel_rfl) (by kernel_rfl) (by kernel_rfl) (fun _ _ _ h => h) (Or.inl ⟨by rfl, ?_⟩) hHeld ?_
    focus (intro W hSw; go_simp; try with_reducible rfl)
    try simp only [List.getElem_toArray, List.getElem_cons_zero, List.getElem_cons_succ, Act.put, List.setIfInBounds_toArray, List.set_cons_zero, List.set_cons_succ]
    refine wpAnyH_take (i := 6) (oi := _) (v := ?_) rfl (by kernel_rfl) (by kernel_rfl) (by kernel_rfl) (fun _ _ _ h => h) (Or.inl ⟨by rfl, ?_⟩) hHeld ?_
    rotate_left
    focus (intro W hSw; go_simp; try with_reducible rfl)
    try simp only [List.getElem_toArray, List.getElem_cons_zero, List.getElem_cons_succ, Act.put, List.setIfInBounds_toArray, List.set_cons_zero, List.set_cons_succ]
    refine wpAnyH_take (i := 7) (oi := _) (v := ?_) rfl (by kernel_rfl) (by kernel_rfl) (by kernel_rfl) (fun _ _ _ h => h) (Or.inl ⟨by rfl, ?_⟩) hHeld ?_
    rotate_left
    focus (intro W hSw; go_simp; try with_reducible rfl)
    try simp only [List.getElem_toArray, List.getElem_cons_zero, List.getElem_cons_succ, Act.put, List.setIfInBounds_toArray, List.set_cons_zero, List.set_cons_succ]
    refine wpAnyH_take (i := 8) (oi := _) (v := ?_) rfl (by kernel_rfl) (by kernel_rfl) (by kernel_rfl) (fun _ _ _ h => h) (Or.inl ⟨by rfl, ?_⟩) hHeld ?_
    rotate_left
    focus (intro W hSw; go_simp; try with_reducible rfl)
    try simp only [List.getElem_toArray, List.getElem_cons_zero, List.getElem_cons_succ, Act.put, List.setIfInBounds_toArray, List.set_cons_zero, List.set_cons_succ]
    refine wpAnyH_take (i := 9) (oi := _) (v := ?_) rfl (by kernel_rfl) (by kernel_rfl) (by kernel_rfl) (fun _ _ _ h => h) (Or.inl ⟨by rfl, ?_⟩) hHeld ?_
    rotate_left
    focus (intro W hSw; go_simp; try with_reducible rfl)
    try simp only [List.getElem_toArray, List.getElem_cons_zero, List.getElem_cons_succ, Act.put, List.setIfInBounds_toArray, List.set_cons_zero, List.set_cons_succ]
    refine wpAnyH_take (i := 10) (oi := _) (v := ?_) rfl (by kernel_rfl) (by kernel_rfl) (by kernel_rfl) (fun _ _ _ h => h) (Or.inl ⟨by rfl, ?_⟩) hHeld ?_
    rotate_left
    focus (intro W hSw; go_simp; try with_reducible rfl)
    try simp only [List.getElem_toArray, List.getElem_cons_zero, List.getElem_cons_succ, Act.put, List.setIfInBounds_toArray, List.set_cons_zero, List.set_cons_succ]
    refine wpAnyH_take (i := 11) (oi := _) (v := .slice (Option.map (fun x => x.add f) A) 4 (c - f)) rfl (by kernel_rfl) (by kernel_rfl) (by kernel_rfl) (fun _ _ _ h => h) (Or.inl ⟨by rfl, ?_⟩) hHeld ?_
    focus (intro W hSw; go_simp; try with_reducible rfl)
    try simp only [List.getElem_toArray, List.getElem_cons_zero, List.getElem_cons_succ, Act.put, List.setIfInBounds_toArray, List.set_cons_zero, List.set_cons_succ]
    refine wpAnyH_take (i := 12) (oi := _) (v := .string p4) rfl (by kernel_rfl) (by kernel_rfl) (by kernel_rfl) (fun _ _ _ h => h) (Or.inl ⟨by rfl, ?_⟩) hHeld ?_
    focus (intro W hSw; have hcv := HC4.out W hSw; go_simp; try with_reducible rfl)
    try simp only [List.getElem_toArray, List.getElem_cons_zero, List.getElem_cons_succ, Act.put, List.setIfInBounds_toArray, List.set_cons_zero, List.set_cons_succ]
    refine wpAnyH_take (i := 13) (oi := _) (v := _) rfl (by kernel_rfl) (by kernel_rfl) (by kernel_rfl) (fun _ _ _ h => h) (yieldsIf_load_mid (by rfl) _ _ rfl _ _ rfl (bv v) _ (fun _ h => rangeB HV9.out h) hu16 rfl hiv) hHeld ?_
    try simp only [List.getElem_toArray, List.getElem_cons_zero, List.getElem_cons_succ, Act.put, List.setIfInBounds_toArray, List.set_cons_zero, List.set_cons_succ]
    refine wpAnyH_ready (rs := [14]) (by kernel_rfl) (by simp) ?_
    refine AllReadyH.cons (o := _) rfl (fun K hK => ?_) AllReadyH.nil
    go_simp
    refine (HPF.out _).mono ?_
    rintro r u2 ⟨rfl, hb0⟩
    refine hK.out _ _ (below_below hHeld hb0 hHeld.size) (fun hHeld => ?_)
    clear hK K
    try simp only [List.getElem_toArray, List.getElem_cons_zero, List.getElem_cons_succ, Act.put, List.setIfInBounds_toArray, List.set_cons_zero, List.set_cons_succ]
    refine wpAnyH_take (i := 15) (oi := _) (v := .bool false) rfl (by kernel_rfl) (by kernel_rfl) (by kernel_rfl) (fun _ _ _ h => h) (Or.inl ⟨by rfl, ?_⟩) hHeld ?_
    focus (intro W hSw; go_simp; try with_reducible rfl)
    try simp only [List.getElem_toArray, List.getElem_cons_zero, List.getElem_cons_succ, Act.put, List.setIfInBounds_toArray, List.set_cons_zero, List.set_cons_succ]
    refine wpAnyH_take (i := 16) (oi := _) (v := ?_) rfl (by kernel_rfl) (by kernel_rfl) (by kernel_rfl) (fun _ _ _ h => h) (Or.inl ⟨by rfl, ?_⟩) hHeld ?_
    rotate_left
    focus (intro W hSw; go_simp; try with_reducible rfl)
    try simp only [List.getElem_toArray, List.getElem_cons_zero, List.getElem_cons_succ, Act.put, List.setIfInBounds_toArray, List.set_cons_zero, List.set_cons_succ]
    refine wpAnyH_done (by kernel_rfl) ?_ _
    have HE := Lib.hid (below_below HB9.out hHeld HB9.out.size)
    have HVE := Lib.hid (HV9.out.below hHeld HV9.out.lt)
    have HRE := Lib.hid (HR9.out.below hHeld HS9.out)
    have HSE := Lib.hid (Nat.le_trans HS9.out hHeld.size)
    clear hHeld
    generalize u2 = w10 at *
    go_wp2_with (refine wpList_loadG HVE.out hv (by first | rfl | (go_simp; done) | (go_simp; omega)) _ rfl rfl ?_)
    refine (HLE.out _).mono ?_
    rintro r w11 ⟨rfl, hb0⟩
    have HB11 := Lib.hid (below_below HE.out hb0 HE.out.size)
    have hcut := (HRE.out.below hb0 HSE.out).cut (k := f) (n := f + L) (by omega) (by rw [bv_length]; omega)
    rw [if_neg hcf, show f + L - f = L by omega, ← bv_drop, ← bv_take] at hcut
    have hsr := run_string_rd (P := Try.prog) w11 36 9 5 Try.underlying36 Try.underlying5 Try.underlying9 0 w.heap.size _ _ _ hcut
    rw [List.length_take, List.length_drop, Nat.min_eq_left (by omega), HSL.out] at hsr
    clear hb0 hcut
    go_wp2_with fail
    go_ret
    exact ⟨rfl, HB11.out⟩
  · exfalso; omega

end Go.Proofs.Ytpainhgjiddpkaa
