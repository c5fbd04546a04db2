/-
  HeapGets where it asks for awake alone, and of views that aren't right, or short. (Printed by wip/tools/genhget.py.)
-/
import Derived.Test.YtpainhgjiddpkaaHGetM
namespace Go.Proofs.Ytpainhgjiddpkaa
set_option linter.unusedSimpArgs false
set_option linter.unusedVariables false
open Go.RowKit

theorem heapGets_g0 {w : World} (bs : List UInt8) (A : Option Addr) (c : Nat) (n : Int) (v : List UInt8) (hv : v.length = 16) (h : 3000 < bs.length) (hc : bs.length ≤ 9223372036854775807) :
    Calls Try.prog 5 #[.slice A bs.length c, .int .i64 n, .agg (vb v)] w fun e w' => e = .returned (.bool true) ∧ Below w.heap.size w w' := by
  have hb0 := (Below.refl w.heap.size w).alloc (Nat.le_refl _) (.cells (vb v) 28)
  have HB0 := Lib.hid hb0
  clear hb0
  go_enter Try.func5, Try.ntmps5
  go_wp2_with fail
  refine (awake7_any _).mono ?_
  rintro r w1 ⟨rfl, hb1⟩
  have HB1 := Lib.hid (below_below HB0.out hb1 HB0.out.size)
  clear hb1
  go_wp2_with fail
  refine (awake7_any _).mono ?_
  rintro r w2 ⟨rfl, hb2⟩
  have HB2 := Lib.hid (below_below HB1.out hb2 HB1.out.size)
  clear hb2
  go_wp2_with fail
  go_ret
  exact ⟨rfl, HB2.out⟩

theorem heapGets_g1 {w : World} (bs : List UInt8) (A : Option Addr) (c : Nat) (n : Int) (v : List UInt8) (hv : v.length = 16) (h : bs.length ≤ 3000) (h2 : n < 0) :
    Calls Try.prog 5 #[.slice A bs.length c, .int .i64 n, .agg (vb v)] w fun e w' => e = .returned (.bool true) ∧ Below w.heap.size w w' := by
  have hb0 := (Below.refl w.heap.size w).alloc (Nat.le_refl _) (.cells (vb v) 28)
  have HB0 := Lib.hid hb0
  clear hb0
  go_enter Try.func5, Try.ntmps5
  go_wp2_with fail
  refine (awake7_any _).mono ?_
  rintro r w1 ⟨rfl, hb1⟩
  have HB1 := Lib.hid (below_below HB0.out hb1 HB0.out.size)
  clear hb1
  go_wp2_with fail
  refine (awake7_any _).mono ?_
  rintro r w2 ⟨rfl, hb2⟩
  have HB2 := Lib.hid (below_below HB1.out hb2 HB1.out.size)
  clear hb2
  go_wp2_with fail
  go_ret
  exact ⟨rfl, HB2.out⟩

set_option maxRecDepth 20000 in
set_option maxHeartbeats 4000000 in
theorem heapGets_wrong_zero {w : World} (bs : List UInt8) (A : Option Addr) (c : Nat)  (v : List UInt8) (hv : v.length = 16) (h : Rd w 0 w.heap.size A c (bv bs)) (hb : bs.length ≤ 3000) (hn : True) (hr : rightV v = false) :
    Calls Try.prog 5 #[.slice A bs.length c, .int .i64 0, .agg (vb v)] w fun e w' => e = .returned (.bool true) ∧ Below w.heap.size w w' := by
  have hu16 := Try.underlying28
  have hiv : (Try.prog.info? 28).map (·.size) = some (bv v).length := sizeV (by rw [bv_length]; exact hv)
  have hst : stepL 0 = 65536 := by unfold stepL; rfl
  have hcl := h.len
  have hcc := h.cap
  rw [bv_length] at hcl
  unfold maxLen at hcc
  have hb0 := (Below.refl w.heap.size w).alloc (Nat.le_refl _) (.cells (vb v) 28)
  have HB0 := Lib.hid hb0
  have HV0 := Lib.hid (Blk.new w 28 (vb v))
  have HR0 := Lib.hid (h.below hb0 (Nat.le_refl _))
  have HS0 := Lib.hid hb0.size
  have hright := fun w0 => vright_any (w := w0) v hv
  rw [hr] at hright
  have HRI := Lib.hid hright
  clear h hb0 hright
  go_enter Try.func5, Try.ntmps5
  go_wp2_with fail
  refine (awake7_any _).mono ?_
  rintro r w1 ⟨rfl, hb0⟩
  have HB1 := Lib.hid (below_below HB0.out hb0 HB0.out.size)
  have HV1 := Lib.hid (HV0.out.below hb0 HV0.out.lt)
  have HR1 := Lib.hid (HR0.out.below hb0 HS0.out)
  have HS1 := Lib.hid (Nat.le_trans HS0.out hb0.size)
  clear hb0
  have hof := of_any bs 0 HR1.out HS1.out hb
  rw [hst] at hof
  have HOF := Lib.hid hof
  clear hof
  go_wp2_with fail
  refine HOF.out.mono ?_
  rintro r w2 ⟨g, es, M, rfl, hp2, hofe, hcov, hb0⟩
  have HB2 := Lib.hid (below_below HB1.out hb0 HB1.out.size)
  have HV2 := Lib.hid (HV1.out.below hb0 HV1.out.lt)
  have HR2 := Lib.hid (HR1.out.below hb0 HS1.out)
  have HS2 := Lib.hid (Nat.le_trans HS1.out hb0.size)
  clear hb0
  have hget := get_any hp2 v hv
  have hfn : findL bs es v = none := by unfold findL; rw [hr]; rfl
  rw [gotL_none hfn, hfn] at hget
  change Calls _ _ _ _ (fun r w' => r = .returned (.tuple #[.string ⟨#[]⟩, .bool false]) ∧ Below w2.heap.size w2 w') at hget
  have HGE := Lib.hid hget
  clear hp2 hofe hcov hget hfn HOF
  unfold hp at HGE ⊢
  go_wp2_with (refine wpList_loadV HV2.out hv rfl _ rfl rfl ?_)
  refine HGE.out.mono ?_
  rintro r w3 ⟨rfl, hb0⟩
  have HB3 := Lib.hid (below_below HB2.out hb0 HB2.out.size)
  have HV3 := Lib.hid (HV2.out.below hb0 HV2.out.lt)
  have HR3 := Lib.hid (HR2.out.below hb0 HS2.out)
  have HS3 := Lib.hid (Nat.le_trans HS2.out hb0.size)
  clear hb0
  go_wp2_with (refine wpList_loadV HV3.out hv rfl _ rfl rfl ?_)
  refine (HRI.out _).mono ?_
  rintro r w4 ⟨rfl, hb0⟩
  have HB4 := Lib.hid (below_below HB3.out hb0 HB3.out.size)
  have HV4 := Lib.hid (HV3.out.below hb0 HV3.out.lt)
  have HR4 := Lib.hid (HR3.out.below hb0 HS3.out)
  have HS4 := Lib.hid (Nat.le_trans HS3.out hb0.size)
  clear hb0
  go_wp2_with fail
  go_ret
  exact ⟨rfl, HB4.out⟩

set_option maxRecDepth 20000 in
set_option maxHeartbeats 4000000 in
theorem heapGets_short_zero {w : World} (bs : List UInt8) (A : Option Addr) (c : Nat)  (v : List UInt8) (hv : v.length = 16) (h : Rd w 0 w.heap.size A c (bv bs)) (hb : bs.length ≤ 3000) (hn : True) (hr : rightV v = true) (hL : lenV v ≤ 12) :
    Calls Try.prog 5 #[.slice A bs.length c, .int .i64 0, .agg (vb v)] w fun e w' => e = .returned (.bool true) ∧ Below w.heap.size w w' := by
  have hu16 := Try.underlying28
  have hiv : (Try.prog.info? 28).map (·.size) = some (bv v).length := sizeV (by rw [bv_length]; exact hv)
  have hst : stepL 0 = 65536 := by unfold stepL; rfl
  have hcl := h.len
  have hcc := h.cap
  rw [bv_length] at hcl
  unfold maxLen at hcc
  have hb0 := (Below.refl w.heap.size w).alloc (Nat.le_refl _) (.cells (vb v) 28)
  have HB0 := Lib.hid hb0
  have HV0 := Lib.hid (Blk.new w 28 (vb v))
  have HR0 := Lib.hid (h.below hb0 (Nat.le_refl _))
  have HS0 := Lib.hid hb0.size
  have hright := fun w0 => vright_any (w := w0) v hv
  rw [hr] at hright
  have HRI := Lib.hid hright
  clear h hb0 hright
  have hshort := fun w0 => vshort_any (w := w0) v hv
  rw [decide_eq_true hL] at hshort
  have HSH := Lib.hid hshort
  clear hshort
  have htext := fun w0 => vtext_any (w := w0) v hv
  have HTX := Lib.hid htext
  clear htext
  go_enter Try.func5, Try.ntmps5
  go_wp2_with fail
  refine (awake7_any _).mono ?_
  rintro r w1 ⟨rfl, hb0⟩
  have HB1 := Lib.hid (below_below HB0.out hb0 HB0.out.size)
  have HV1 := Lib.hid (HV0.out.below hb0 HV0.out.lt)
  have HR1 := Lib.hid (HR0.out.below hb0 HS0.out)
  have HS1 := Lib.hid (Nat.le_trans HS0.out hb0.size)
  clear hb0
  have hof := of_any bs 0 HR1.out HS1.out hb
  rw [hst] at hof
  have HOF := Lib.hid hof
  clear hof
  go_wp2_with fail
  refine HOF.out.mono ?_
  rintro r w2 ⟨g, es, M, rfl, hp2, hofe, hcov, hb0⟩
  have HB2 := Lib.hid (below_below HB1.out hb0 HB1.out.size)
  have HV2 := Lib.hid (HV1.out.below hb0 HV1.out.lt)
  have HR2 := Lib.hid (HR1.out.below hb0 HS1.out)
  have HS2 := Lib.hid (Nat.le_trans HS1.out hb0.size)
  clear hb0
  have hget := get_any hp2 v hv
  have hfn : findL bs es v = some (textV v) := by unfold findL; rw [if_pos hr, if_pos hL]
  rw [gotL_some hfn, hfn] at hget
  generalize (⟨(textV v).toArray⟩ : ByteArray) = tx at *
  change Calls _ _ _ _ (fun r w' => r = .returned (.tuple #[.string _, .bool true]) ∧ Below w2.heap.size w2 w') at hget
  have HGE := Lib.hid hget
  clear hp2 hofe hcov hget hfn HOF
  unfold hp at HGE ⊢
  go_wp2_with (refine wpList_loadV HV2.out hv rfl _ rfl rfl ?_)
  refine HGE.out.mono ?_
  rintro r w3 ⟨rfl, hb0⟩
  have HB3 := Lib.hid (below_below HB2.out hb0 HB2.out.size)
  have HV3 := Lib.hid (HV2.out.below hb0 HV2.out.lt)
  have HR3 := Lib.hid (HR2.out.below hb0 HS2.out)
  have HS3 := Lib.hid (Nat.le_trans HS2.out hb0.size)
  clear hb0
  go_wp2_with (refine wpList_loadV HV3.out hv rfl _ rfl rfl ?_)
  refine (HRI.out _).mono ?_
  rintro r w4 ⟨rfl, hb0⟩
  have HB4 := Lib.hid (below_below HB3.out hb0 HB3.out.size)
  have HV4 := Lib.hid (HV3.out.below hb0 HV3.out.lt)
  have HR4 := Lib.hid (HR3.out.below hb0 HS3.out)
  have HS4 := Lib.hid (Nat.le_trans HS3.out hb0.size)
  clear hb0
  go_wp2_with (refine wpList_loadV HV4.out hv rfl _ rfl rfl ?_)
  refine (HSH.out _).mono ?_
  rintro r w5 ⟨rfl, hb0⟩
  have HB5 := Lib.hid (below_below HB4.out hb0 HB4.out.size)
  have HV5 := Lib.hid (HV4.out.below hb0 HV4.out.lt)
  have HR5 := Lib.hid (HR4.out.below hb0 HS4.out)
  have HS5 := Lib.hid (Nat.le_trans HS4.out hb0.size)
  clear hb0
  go_wp2_with (refine wpList_loadG HV5.out hv (by first | rfl | (go_simp; done) | (go_simp; omega)) _ rfl rfl ?_)
  refine (HTX.out _).mono ?_
  rintro r w6 ⟨rfl, hb0⟩
  have HB6 := Lib.hid (below_below HB5.out hb0 HB5.out.size)
  have HV6 := Lib.hid (HV5.out.below hb0 HV5.out.lt)
  have HR6 := Lib.hid (HR5.out.below hb0 HS5.out)
  have HS6 := Lib.hid (Nat.le_trans HS5.out hb0.size)
  clear hb0
  go_wp2_with fail
  go_ret
  exact ⟨rfl, HB6.out⟩

set_option maxRecDepth 20000 in
set_option maxHeartbeats 4000000 in
theorem heapGets_wrong_great {w : World} (bs : List UInt8) (A : Option Addr) (c : Nat) (n : Int) (v : List UInt8) (hv : v.length = 16) (h : Rd w 0 w.heap.size A c (bv bs)) (hb : bs.length ≤ 3000) (hn0 : ¬ n = 0) (hn1 : ¬ n < 0) (hn : 65536 < n) (hr : rightV v = false) :
    Calls Try.prog 5 #[.slice A bs.length c, .int .i64 n, .agg (vb v)] w fun e w' => e = .returned (.bool true) ∧ Below w.heap.size w w' := by
  have hu16 := Try.underlying28
  have hiv : (Try.prog.info? 28).map (·.size) = some (bv v).length := sizeV (by rw [bv_length]; exact hv)
  have hst : stepL n = 65536 := by unfold stepL; rw [if_pos (.inr hn)]
  have hcl := h.len
  have hcc := h.cap
  rw [bv_length] at hcl
  unfold maxLen at hcc
  have hb0 := (Below.refl w.heap.size w).alloc (Nat.le_refl _) (.cells (vb v) 28)
  have HB0 := Lib.hid hb0
  have HV0 := Lib.hid (Blk.new w 28 (vb v))
  have HR0 := Lib.hid (h.below hb0 (Nat.le_refl _))
  have HS0 := Lib.hid hb0.size
  have hright := fun w0 => vright_any (w := w0) v hv
  rw [hr] at hright
  have HRI := Lib.hid hright
  clear h hb0 hright
  go_enter Try.func5, Try.ntmps5
  go_wp2_with fail
  refine (awake7_any _).mono ?_
  rintro r w1 ⟨rfl, hb0⟩
  have HB1 := Lib.hid (below_below HB0.out hb0 HB0.out.size)
  have HV1 := Lib.hid (HV0.out.below hb0 HV0.out.lt)
  have HR1 := Lib.hid (HR0.out.below hb0 HS0.out)
  have HS1 := Lib.hid (Nat.le_trans HS0.out hb0.size)
  clear hb0
  have hof := of_any bs n HR1.out HS1.out hb
  rw [hst] at hof
  have HOF := Lib.hid hof
  clear hof
  go_wp2_with fail
  refine HOF.out.mono ?_
  rintro r w2 ⟨g, es, M, rfl, hp2, hofe, hcov, hb0⟩
  have HB2 := Lib.hid (below_below HB1.out hb0 HB1.out.size)
  have HV2 := Lib.hid (HV1.out.below hb0 HV1.out.lt)
  have HR2 := Lib.hid (HR1.out.below hb0 HS1.out)
  have HS2 := Lib.hid (Nat.le_trans HS1.out hb0.size)
  clear hb0
  have hget := get_any hp2 v hv
  have hfn : findL bs es v = none := by unfold findL; rw [hr]; rfl
  rw [gotL_none hfn, hfn] at hget
  change Calls _ _ _ _ (fun r w' => r = .returned (.tuple #[.string ⟨#[]⟩, .bool false]) ∧ Below w2.heap.size w2 w') at hget
  have HGE := Lib.hid hget
  clear hp2 hofe hcov hget hfn HOF
  unfold hp at HGE ⊢
  go_wp2_with (refine wpList_loadV HV2.out hv rfl _ rfl rfl ?_)
  refine HGE.out.mono ?_
  rintro r w3 ⟨rfl, hb0⟩
  have HB3 := Lib.hid (below_below HB2.out hb0 HB2.out.size)
  have HV3 := Lib.hid (HV2.out.below hb0 HV2.out.lt)
  have HR3 := Lib.hid (HR2.out.below hb0 HS2.out)
  have HS3 := Lib.hid (Nat.le_trans HS2.out hb0.size)
  clear hb0
  go_wp2_with (refine wpList_loadV HV3.out hv rfl _ rfl rfl ?_)
  refine (HRI.out _).mono ?_
  rintro r w4 ⟨rfl, hb0⟩
  have HB4 := Lib.hid (below_below HB3.out hb0 HB3.out.size)
  have HV4 := Lib.hid (HV3.out.below hb0 HV3.out.lt)
  have HR4 := Lib.hid (HR3.out.below hb0 HS3.out)
  have HS4 := Lib.hid (Nat.le_trans HS3.out hb0.size)
  clear hb0
  go_wp2_with fail
  go_ret
  exact ⟨rfl, HB4.out⟩

set_option maxRecDepth 20000 in
set_option maxHeartbeats 4000000 in
theorem heapGets_short_great {w : World} (bs : List UInt8) (A : Option Addr) (c : Nat) (n : Int) (v : List UInt8) (hv : v.length = 16) (h : Rd w 0 w.heap.size A c (bv bs)) (hb : bs.length ≤ 3000) (hn0 : ¬ n = 0) (hn1 : ¬ n < 0) (hn : 65536 < n) (hr : rightV v = true) (hL : lenV v ≤ 12) :
    Calls Try.prog 5 #[.slice A bs.length c, .int .i64 n, .agg (vb v)] w fun e w' => e = .returned (.bool true) ∧ Below w.heap.size w w' := by
  have hu16 := Try.underlying28
  have hiv : (Try.prog.info? 28).map (·.size) = some (bv v).length := sizeV (by rw [bv_length]; exact hv)
  have hst : stepL n = 65536 := by unfold stepL; rw [if_pos (.inr hn)]
  have hcl := h.len
  have hcc := h.cap
  rw [bv_length] at hcl
  unfold maxLen at hcc
  have hb0 := (Below.refl w.heap.size w).alloc (Nat.le_refl _) (.cells (vb v) 28)
  have HB0 := Lib.hid hb0
  have HV0 := Lib.hid (Blk.new w 28 (vb v))
  have HR0 := Lib.hid (h.below hb0 (Nat.le_refl _))
  have HS0 := Lib.hid hb0.size
  have hright := fun w0 => vright_any (w := w0) v hv
  rw [hr] at hright
  have HRI := Lib.hid hright
  clear h hb0 hright
  have hshort := fun w0 => vshort_any (w := w0) v hv
  rw [decide_eq_true hL] at hshort
  have HSH := Lib.hid hshort
  clear hshort
  have htext := fun w0 => vtext_any (w := w0) v hv
  have HTX := Lib.hid htext
  clear htext
  go_enter Try.func5, Try.ntmps5
  go_wp2_with fail
  refine (awake7_any _).mono ?_
  rintro r w1 ⟨rfl, hb0⟩
  have HB1 := Lib.hid (below_below HB0.out hb0 HB0.out.size)
  have HV1 := Lib.hid (HV0.out.below hb0 HV0.out.lt)
  have HR1 := Lib.hid (HR0.out.below hb0 HS0.out)
  have HS1 := Lib.hid (Nat.le_trans HS0.out hb0.size)
  clear hb0
  have hof := of_any bs n HR1.out HS1.out hb
  rw [hst] at hof
  have HOF := Lib.hid hof
  clear hof
  go_wp2_with fail
  refine HOF.out.mono ?_
  rintro r w2 ⟨g, es, M, rfl, hp2, hofe, hcov, hb0⟩
  have HB2 := Lib.hid (below_below HB1.out hb0 HB1.out.size)
  have HV2 := Lib.hid (HV1.out.below hb0 HV1.out.lt)
  have HR2 := Lib.hid (HR1.out.below hb0 HS1.out)
  have HS2 := Lib.hid (Nat.le_trans HS1.out hb0.size)
  clear hb0
  have hget := get_any hp2 v hv
  have hfn : findL bs es v = some (textV v) := by unfold findL; rw [if_pos hr, if_pos hL]
  rw [gotL_some hfn, hfn] at hget
  generalize (⟨(textV v).toArray⟩ : ByteArray) = tx at *
  change Calls _ _ _ _ (fun r w' => r = .returned (.tuple #[.string _, .bool true]) ∧ Below w2.heap.size w2 w') at hget
  have HGE := Lib.hid hget
  clear hp2 hofe hcov hget hfn HOF
  unfold hp at HGE ⊢
  go_wp2_with (refine wpList_loadV HV2.out hv rfl _ rfl rfl ?_)
  refine HGE.out.mono ?_
  rintro r w3 ⟨rfl, hb0⟩
  have HB3 := Lib.hid (below_below HB2.out hb0 HB2.out.size)
  have HV3 := Lib.hid (HV2.out.below hb0 HV2.out.lt)
  have HR3 := Lib.hid (HR2.out.below hb0 HS2.out)
  have HS3 := Lib.hid (Nat.le_trans HS2.out hb0.size)
  clear hb0
  go_wp2_with (refine wpList_loadV HV3.out hv rfl _ rfl rfl ?_)
  refine (HRI.out _).mono ?_
  rintro r w4 ⟨rfl, hb0⟩
  have HB4 := Lib.hid (below_below HB3.out hb0 HB3.out.size)
  have HV4 := Lib.hid (HV3.out.below hb0 HV3.out.lt)
  have HR4 := Lib.hid (HR3.out.below hb0 HS3.out)
  have HS4 := Lib.hid (Nat.le_trans HS3.out hb0.size)
  clear hb0
  go_wp2_with (refine wpList_loadV HV4.out hv rfl _ rfl rfl ?_)
  refine (HSH.out _).mono ?_
  rintro r w5 ⟨rfl, hb0⟩
  have HB5 := Lib.hid (below_below HB4.out hb0 HB4.out.size)
  have HV5 := Lib.hid (HV4.out.below hb0 HV4.out.lt)
  have HR5 := Lib.hid (HR4.out.below hb0 HS4.out)
  have HS5 := Lib.hid (Nat.le_trans HS4.out hb0.size)
  clear hb0
  go_wp2_with (refine wpList_loadG HV5.out hv (by first | rfl | (go_simp; done) | (go_simp; omega)) _ rfl rfl ?_)
  refine (HTX.out _).mono ?_
  rintro r w6 ⟨rfl, hb0⟩
  have HB6 := Lib.hid (below_below HB5.out hb0 HB5.out.size)
  have HV6 := Lib.hid (HV5.out.below hb0 HV5.out.lt)
  have HR6 := Lib.hid (HR5.out.below hb0 HS5.out)
  have HS6 := Lib.hid (Nat.le_trans HS5.out hb0.size)
  clear hb0
  go_wp2_with fail
  go_ret
  exact ⟨rfl, HB6.out⟩

set_option maxRecDepth 20000 in
set_option maxHeartbeats 4000000 in
theorem heapGets_wrong_mid {w : World} (bs : List UInt8) (A : Option Addr) (c : Nat) (s : Nat) (v : List UInt8) (hv : v.length = 16) (h : Rd w 0 w.heap.size A c (bv bs)) (hb : bs.length ≤ 3000) (hs : 0 < s) (hs2 : s ≤ 65536) (hr : rightV v = false) :
    Calls Try.prog 5 #[.slice A bs.length c, .int .i64 (s : Int), .agg (vb v)] w fun e w' => e = .returned (.bool true) ∧ Below w.heap.size w w' := by
  have hu16 := Try.underlying28
  have hiv : (Try.prog.info? 28).map (·.size) = some (bv v).length := sizeV (by rw [bv_length]; exact hv)
  have hst : stepL (s : Int) = s := by unfold stepL; rw [if_neg (by omega)]; rfl
  have hs0 : ¬ (s : Int) = 0 := by omega
  have hs3 : (s : Int) ≤ 65536 := by omega
  have hs4 : ¬ (s : Int) < 0 := by omega
  have hs5 : ¬ s = 0 := by omega
  have hs6 : ((s : Int) == 0) = false := by simp; omega
  have hcl := h.len
  have hcc := h.cap
  rw [bv_length] at hcl
  unfold maxLen at hcc
  have hb0 := (Below.refl w.heap.size w).alloc (Nat.le_refl _) (.cells (vb v) 28)
  have HB0 := Lib.hid hb0
  have HV0 := Lib.hid (Blk.new w 28 (vb v))
  have HR0 := Lib.hid (h.below hb0 (Nat.le_refl _))
  have HS0 := Lib.hid hb0.size
  have hright := fun w0 => vright_any (w := w0) v hv
  rw [hr] at hright
  have HRI := Lib.hid hright
  clear h hb0 hright
  go_enter Try.func5, Try.ntmps5
  go_wp2_with fail
  refine (awake7_any _).mono ?_
  rintro r w1 ⟨rfl, hb0⟩
  have HB1 := Lib.hid (below_below HB0.out hb0 HB0.out.size)
  have HV1 := Lib.hid (HV0.out.below hb0 HV0.out.lt)
  have HR1 := Lib.hid (HR0.out.below hb0 HS0.out)
  have HS1 := Lib.hid (Nat.le_trans HS0.out hb0.size)
  clear hb0
  have hof := of_any bs (s : Int) HR1.out HS1.out hb
  rw [hst] at hof
  have HOF := Lib.hid hof
  clear hof
  go_wp2_with fail
  refine HOF.out.mono ?_
  rintro r w2 ⟨g, es, M, rfl, hp2, hofe, hcov, hb0⟩
  have HB2 := Lib.hid (below_below HB1.out hb0 HB1.out.size)
  have HV2 := Lib.hid (HV1.out.below hb0 HV1.out.lt)
  have HR2 := Lib.hid (HR1.out.below hb0 HS1.out)
  have HS2 := Lib.hid (Nat.le_trans HS1.out hb0.size)
  clear hb0
  have hget := get_any hp2 v hv
  have hfn : findL bs es v = none := by unfold findL; rw [hr]; rfl
  rw [gotL_none hfn, hfn] at hget
  change Calls _ _ _ _ (fun r w' => r = .returned (.tuple #[.string ⟨#[]⟩, .bool false]) ∧ Below w2.heap.size w2 w') at hget
  have HGE := Lib.hid hget
  clear hp2 hofe hcov hget hfn HOF
  unfold hp at HGE ⊢
  go_wp2_with (refine wpList_loadV HV2.out hv rfl _ rfl rfl ?_)
  refine HGE.out.mono ?_
  rintro r w3 ⟨rfl, hb0⟩
  have HB3 := Lib.hid (below_below HB2.out hb0 HB2.out.size)
  have HV3 := Lib.hid (HV2.out.below hb0 HV2.out.lt)
  have HR3 := Lib.hid (HR2.out.below hb0 HS2.out)
  have HS3 := Lib.hid (Nat.le_trans HS2.out hb0.size)
  clear hb0
  go_wp2_with (refine wpList_loadV HV3.out hv rfl _ rfl rfl ?_)
  refine (HRI.out _).mono ?_
  rintro r w4 ⟨rfl, hb0⟩
  have HB4 := Lib.hid (below_below HB3.out hb0 HB3.out.size)
  have HV4 := Lib.hid (HV3.out.below hb0 HV3.out.lt)
  have HR4 := Lib.hid (HR3.out.below hb0 HS3.out)
  have HS4 := Lib.hid (Nat.le_trans HS3.out hb0.size)
  clear hb0
  go_wp2_with fail
  go_ret
  exact ⟨rfl, HB4.out⟩

set_option maxRecDepth 20000 in
set_option maxHeartbeats 4000000 in
theorem heapGets_short_mid {w : World} (bs : List UInt8) (A : Option Addr) (c : Nat) (s : Nat) (v : List UInt8) (hv : v.length = 16) (h : Rd w 0 w.heap.size A c (bv bs)) (hb : bs.length ≤ 3000) (hs : 0 < s) (hs2 : s ≤ 65536) (hr : rightV v = true) (hL : lenV v ≤ 12) :
    Calls Try.prog 5 #[.slice A bs.length c, .int .i64 (s : Int), .agg (vb v)] w fun e w' => e = .returned (.bool true) ∧ Below w.heap.size w w' := by
  have hu16 := Try.underlying28
  have hiv : (Try.prog.info? 28).map (·.size) = some (bv v).length := sizeV (by rw [bv_length]; exact hv)
  have hst : stepL (s : Int) = s := by unfold stepL; rw [if_neg (by omega)]; rfl
  have hs0 : ¬ (s : Int) = 0 := by omega
  have hs3 : (s : Int) ≤ 65536 := by omega
  have hs4 : ¬ (s : Int) < 0 := by omega
  have hs5 : ¬ s = 0 := by omega
  have hs6 : ((s : Int) == 0) = false := by simp; omega
  have hcl := h.len
  have hcc := h.cap
  rw [bv_length] at hcl
  unfold maxLen at hcc
  have hb0 := (Below.refl w.heap.size w).alloc (Nat.le_refl _) (.cells (vb v) 28)
  have HB0 := Lib.hid hb0
  have HV0 := Lib.hid (Blk.new w 28 (vb v))
  have HR0 := Lib.hid (h.below hb0 (Nat.le_refl _))
  have HS0 := Lib.hid hb0.size
  have hright := fun w0 => vright_any (w := w0) v hv
  rw [hr] at hright
  have HRI := Lib.hid hright
  clear h hb0 hright
  have hshort := fun w0 => vshort_any (w := w0) v hv
  rw [decide_eq_true hL] at hshort
  have HSH := Lib.hid hshort
  clear hshort
  have htext := fun w0 => vtext_any (w := w0) v hv
  have HTX := Lib.hid htext
  clear htext
  go_enter Try.func5, Try.ntmps5
  go_wp2_with fail
  refine (awake7_any _).mono ?_
  rintro r w1 ⟨rfl, hb0⟩
  have HB1 := Lib.hid (below_below HB0.out hb0 HB0.out.size)
  have HV1 := Lib.hid (HV0.out.below hb0 HV0.out.lt)
  have HR1 := Lib.hid (HR0.out.below hb0 HS0.out)
  have HS1 := Lib.hid (Nat.le_trans HS0.out hb0.size)
  clear hb0
  have hof := of_any bs (s : Int) HR1.out HS1.out hb
  rw [hst] at hof
  have HOF := Lib.hid hof
  clear hof
  go_wp2_with fail
  refine HOF.out.mono ?_
  rintro r w2 ⟨g, es, M, rfl, hp2, hofe, hcov, hb0⟩
  have HB2 := Lib.hid (below_below HB1.out hb0 HB1.out.size)
  have HV2 := Lib.hid (HV1.out.below hb0 HV1.out.lt)
  have HR2 := Lib.hid (HR1.out.below hb0 HS1.out)
  have HS2 := Lib.hid (Nat.le_trans HS1.out hb0.size)
  clear hb0
  have hget := get_any hp2 v hv
  have hfn : findL bs es v = some (textV v) := by unfold findL; rw [if_pos hr, if_pos hL]
  rw [gotL_some hfn, hfn] at hget
  generalize (⟨(textV v).toArray⟩ : ByteArray) = tx at *
  change Calls _ _ _ _ (fun r w' => r = .returned (.tuple #[.string _, .bool true]) ∧ Below w2.heap.size w2 w') at hget
  have HGE := Lib.hid hget
  clear hp2 hofe hcov hget hfn HOF
  unfold hp at HGE ⊢
  go_wp2_with (refine wpList_loadV HV2.out hv rfl _ rfl rfl ?_)
  refine HGE.out.mono ?_
  rintro r w3 ⟨rfl, hb0⟩
  have HB3 := Lib.hid (below_below HB2.out hb0 HB2.out.size)
  have HV3 := Lib.hid (HV2.out.below hb0 HV2.out.lt)
  have HR3 := Lib.hid (HR2.out.below hb0 HS2.out)
  have HS3 := Lib.hid (Nat.le_trans HS2.out hb0.size)
  clear hb0
  go_wp2_with (refine wpList_loadV HV3.out hv rfl _ rfl rfl ?_)
  refine (HRI.out _).mono ?_
  rintro r w4 ⟨rfl, hb0⟩
  have HB4 := Lib.hid (below_below HB3.out hb0 HB3.out.size)
  have HV4 := Lib.hid (HV3.out.below hb0 HV3.out.lt)
  have HR4 := Lib.hid (HR3.out.below hb0 HS3.out)
  have HS4 := Lib.hid (Nat.le_trans HS3.out hb0.size)
  clear hb0
  go_wp2_with (refine wpList_loadV HV4.out hv rfl _ rfl rfl ?_)
  refine (HSH.out _).mono ?_
  rintro r w5 ⟨rfl, hb0⟩
  have HB5 := Lib.hid (below_below HB4.out hb0 HB4.out.size)
  have HV5 := Lib.hid (HV4.out.below hb0 HV4.out.lt)
  have HR5 := Lib.hid (HR4.out.below hb0 HS4.out)
  have HS5 := Lib.hid (Nat.le_trans HS4.out hb0.size)
  clear hb0
  go_wp2_with (refine wpList_loadG HV5.out hv (by first | rfl | (go_simp; done) | (go_simp; omega)) _ rfl rfl ?_)
  refine (HTX.out _).mono ?_
  rintro r w6 ⟨rfl, hb0⟩
  have HB6 := Lib.hid (below_below HB5.out hb0 HB5.out.size)
  have HV6 := Lib.hid (HV5.out.below hb0 HV5.out.lt)
  have HR6 := Lib.hid (HR5.out.below hb0 HS5.out)
  have HS6 := Lib.hid (Nat.le_trans HS5.out hb0.size)
  clear hb0
  go_wp2_with fail
  go_ret
  exact ⟨rfl, HB6.out⟩

end Go.Proofs.Ytpainhgjiddpkaa
