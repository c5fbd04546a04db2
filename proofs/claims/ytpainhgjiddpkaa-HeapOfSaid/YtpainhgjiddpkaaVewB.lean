/-
  Views: the length that stands in one; whether it is short; a short string's view and a long one's; Make.
-/
import Derived.Test.YtpainhgjiddpkaaVewA
import Derived.Test.YtpainhgjiddpkaaVewE
import Derived.Lib.BufferWrite
namespace Go.Proofs.Ytpainhgjiddpkaa
set_option linter.unusedSimpArgs false
set_option linter.unusedVariables false
open Go.RowKit

def zero16 : List UInt8 := List.replicate 16 0
theorem zero16_length : zero16.length = 16 := rfl
theorem Try.infoV : (Try.prog.info? 28).map (fun i => (i.zero, i.size)) = some (some (.agg (vb zero16)), 16) := by kernel_rfl

theorem sizeV {n : Nat} (h : n = 16) : (Try.prog.info? 28).map (·.size) = some n := by
  obtain ⟨_, hs⟩ := zero_of_info Try.infoV
  rw [hs, h]
/-- a whole array out of its block -/
theorem wpList_loadV {ops : Array Oper} {rest : List Oper} {o : Oper} {a : Act} {w : World} {Q : Exit → Act → World → Prop} {g : Nat} {l : List UInt8} (hb : Blk w g 28 (vb l)) (hl : l.length = 16) (hgd : o.guard = none) (x : Operand)
    (ho : o.op = .load 28 x) (hx : a.eval x = .pointer (some ⟨g, 0, none⟩)) (h : wpList Try.prog ops Q rest (a.put o.dst (.agg (vb l))) w) : wpList Try.prog ops Q (o :: rest) a w :=
  wpList_load_row hgd _ x ho g hx _ _ (0, 0) _ hb Try.underlying28 rfl (sizeV (by rw [vb_size]; exact hl)) h
/-- the same, where a guard says yes -/
theorem wpList_loadG {ops : Array Oper} {rest : List Oper} {o : Oper} {a : Act} {w : World} {Q : Exit → Act → World → Prop} {g : Nat} {l : List UInt8} (hb : Blk w g 28 (vb l)) (hl : l.length = 16) (hw : Region.wanted o (yielded ops a.tmps) = true) (x : Operand)
    (ho : o.op = .load 28 x) (hx : a.eval x = .pointer (some ⟨g, 0, none⟩)) (h : wpList Try.prog ops Q rest (a.put o.dst (.agg (vb l))) w) : wpList Try.prog ops Q (o :: rest) a w :=
  BigFrame.wpList_want hw fun _ hK => wp_load_row _ x ho g hx _ _ (0, 0) _ hb Try.underlying28 rfl (sizeV (by rw [vb_size]; exact hl)) (hK _ _ h)
/-- a whole array into a block -/
theorem wpList_storeV {ops : Array Oper} {rest : List Oper} {o : Oper} {a : Act} {w : World} {Q : Exit → Act → World → Prop} {g : Nat} {l l' : List UInt8} (hb : Blk w g 28 (vb l)) (hl : l.length = 16) (hl' : l'.length = 16) (hgd : o.guard = none) (x y : Operand)
    (ho : o.op = .store 28 x y) (hx : a.eval x = .pointer (some ⟨g, 0, none⟩)) (hy : a.eval y = .agg (vb l')) (h : wpList Try.prog ops Q rest (a.put o.dst undef) (w.setRow g (vb l'))) : wpList Try.prog ops Q (o :: rest) a w :=
  wpList_store_row hgd _ x y ho g _ hx hy _ _ hb (sizeV (by rw [vb_size]; exact hl')) (by rw [vb_size, vb_size, hl, hl']) (vb_one _) h

theorem vlength_any {w : World} (l : List UInt8) (hl : l.length = 16) :
    Calls Try.prog 30 #[.agg (vb l)] w fun r w' => r = .returned (.int .u32 (lenV l : Int)) ∧ Below w.heap.size w w' := by
  have h1 := vnumber_any (l.take 4) (blk_rd (Blk.new w 28 (vb l)) 0 4 (by omega) (by omega)) (by rw [List.length_take]; omega)
  rw [List.length_take, hl] at h1
  have hb := (Below.refl w.heap.size w).alloc (Nat.le_refl _) (.cells (vb l) 28)
  have H1 := Lib.hid h1
  have HB := Lib.hid hb
  clear h1 hb
  go_enter Try.func30, Try.ntmps30
  go_wp2_with fail
  refine H1.out.mono ?_
  rintro r w' ⟨rfl, rfl⟩
  go_wp2_with fail
  go_ret
  exact ⟨rfl, HB.out⟩

theorem vshort_any {w : World} (l : List UInt8) (hl : l.length = 16) :
    Calls Try.prog 21 #[.agg (vb l)] w fun r w' => r = .returned (.bool (decide (lenV l ≤ 12))) ∧ Below w.heap.size w w' := by
  have h1 := vlength_any (w := w.alloc (.cells (vb l) 28)) l hl
  obtain ⟨n, hn⟩ : ∃ n, lenV l = n := ⟨_, rfl⟩
  rw [hn] at h1 ⊢
  clear hn
  have hb := (Below.refl w.heap.size w).alloc (Nat.le_refl _) (.cells (vb l) 28)
  have H1 := Lib.hid h1
  have HB := Lib.hid hb
  clear h1 hb
  go_enter Try.func21, Try.ntmps21
  go_wp2_with (refine wpList_loadV (Blk.new _ _ _) hl rfl _ rfl rfl ?_)
  refine H1.out.mono ?_
  rintro r w' ⟨rfl, hb2⟩
  have HB2 := Lib.hid hb2
  clear hb2
  go_wp2_with fail
  go_ret
  refine ⟨ret_bool ?_, below_below HB.out HB2.out (by simp)⟩
  simp only [decide_eq_decide]
  omega

theorem maystand_any {w : World} (b p : Int) :
    Calls Try.prog 35 #[.int .i64 b, .int .i64 p] w fun r w' => r = .returned (.bool (decide (mayL b p))) ∧ w = w' := by
  obtain ⟨v, hv⟩ : ∃ v, decide (mayL b p) = v := ⟨_, rfl⟩
  rw [hv]
  have HV := Lib.hid hv
  clear hv
  go_enter Try.func35, Try.ntmps35
  go_wp2
  all_goals
    go_ret
    refine ⟨ret_bool ?_, rfl⟩
    rw [← HV.out]
    unfold mayL
    by_cases h1 : 0 ≤ b <;> by_cases h2 : b ≤ 65535 <;> by_cases h3 : 0 ≤ p <;> by_cases h4 : p ≤ 65536 <;> first | omega | simp [h1, h2, h3, h4]

/-- copy of a string's bytes into a piece of an array -/
theorem copy_str (w : World) (g o dLen dCap : Nat) (s : ByteArray) (l : List UInt8) (t ty : TypeId) (hb : Blk w g t (vb l)) (hfit : o + dLen ≤ l.length) :
    (Builtin.copy_ #[36, 9] ty #[.slice (some ⟨g, o, none⟩) dLen dCap, .string s]).run Try.prog w =
      .ok (goInt (Nat.min s.size dLen)) (w.setRow g (vb (l.take o ++ s.data.toList.take dLen ++ l.drop (o + Nat.min s.size dLen)))) := by
  obtain ⟨i0, hi0, hz0, hz1, hz2⟩ := info_parts Try.infoU8
  have hsl : s.data.toList.length = s.size := by rw [Array.length_toList]; rfl
  have hlen : (bv (s.data.toList.take dLen)).length = Nat.min s.size dLen := by rw [bv_length, List.length_take, hsl, Nat.min_comm]
  have hmin : Nat.min s.size dLen ≤ dLen := Nat.min_le_right _ _
  have hst := run_storeCells_at Try.prog g o t (bv (s.data.toList.take dLen)) 0 (vb l) w hb (by rw [hlen, vb_size, Nat.add_zero]; exact Nat.le_trans (Nat.add_le_add_left hmin o) hfit) (bv_one _)
  rw [hlen] at hst
  simp only [Nat.add_zero, vb_toList] at hst
  have hx : (bv l).take o ++ bv (s.data.toList.take dLen) ++ (bv l).drop (o + Nat.min s.size dLen) = bv (l.take o ++ s.data.toList.take dLen ++ l.drop (o + Nat.min s.size dLen)) := by
    simp only [bv_append, bv_take, bv_drop]
  rw [hx] at hst
  have htk : ((s.extract 0 (Nat.min s.size dLen)).data.map fun b : UInt8 => Value.int .u8 (b.toNat : Int)).toList = bv (s.data.toList.take dLen) := by
    simp [bv]
    exact Nat.min_comm _ _
  simp only [Builtin.copy_, List.getElem?_toArray, List.getElem?_cons_zero, List.getElem?_cons_succ, Sem.run_bind, run_underlying Try.underlying36, Result.andThen_ok, Builtin.lenOf, Builtin.firstCells, Sem.run_pure, sizeOf, typeInfo, run_program, hi0, htk, hst]
  rfl

theorem setRowV_blk {w : World} {g : Nat} {t : TypeId} {cs : Array Value} (h : Blk w g t cs) (cs' : Array Value) : Blk (w.setRow g cs') g t cs' := setRow_heap w g cs cs' t _ h
theorem setRowV_far {w : World} {g k : Nat} {t : TypeId} {cs : Array Value} (h : Blk w g t cs) (hk : g ≠ k) (cs' : Array Value) : Blk (w.setRow k cs') g t cs := (setRow_other w k g cs' hk).trans h
theorem setRowV_gb {a w : World} {g : Nat} (h : a.grownBy w (some g)) (cs : Array Value) : a.grownBy (w.setRow g cs) (some g) :=
  ⟨h.os, h.tape, h.output, by simpa using h.size, fun i hi hne => (setRow_other w g i cs (fun e => hne (by rw [e]))).trans (h.block i hi hne)⟩
theorem setRowV_below {B g : Nat} {a w : World} (h : Below B a w) (hB : B ≤ w.heap.size) (hg : B ≤ g) (cs : Array Value) : Below B a (w.setRow g cs) :=
  h.grown (row := some g) (setRowV_gb (gb_refl _ _) _) hB (fun k hk => by injection hk with hk; omega)

set_option maxRecDepth 20000 in
set_option maxHeartbeats 400000 in
theorem vshortOf_any {w : World} (s : ByteArray) (hs : s.size ≤ 12) :
    Calls Try.prog 34 #[.string s] w fun r w' => r = .returned (.agg (vb (shortL s.data.toList))) ∧ Below w.heap.size w w' := by
  have hsz : Hid (s.data.toList.length = s.size) := by unfold Hid; rw [Array.length_toList]; rfl
  obtain ⟨hz, _⟩ := zero_of_info Try.infoV
  have hb0 : Blk ((w.alloc (.cells (vb zero16) 28)).alloc (.cells (vb zero16) 28)) (w.heap.size + 1) 28 (vb zero16) := by
    have := Blk.new (w.alloc (.cells (vb zero16) 28)) 28 (vb zero16)
    simpa using this
  have hr0 : Blk ((w.alloc (.cells (vb zero16) 28)).alloc (.cells (vb zero16) 28)) w.heap.size 28 (vb zero16) := (Blk.new w _ _).alloc _
  have hk0 : Below w.heap.size w ((w.alloc (.cells (vb zero16) 28)).alloc (.cells (vb zero16) 28)) := ((Below.refl _ _).alloc (Nat.le_refl _) _).alloc (by simp) _
  have h1 := vput_any (c := 16) zero16 0 s.size hb0 (by rw [zero16_length]; omega) (by rw [zero16_length]; omega) (by omega)
  have HK0 := Lib.hid hk0
  have HR0 := Lib.hid hr0
  have H1 := Lib.hid h1
  clear hb0 h1 hk0 hr0
  go_enter Try.func34, Try.ntmps34
  go_wp2_with fail
  refine H1.out.mono ?_
  rintro r w1 ⟨rfl, hb1, hg1⟩
  have hrun := copy_str w1 (w.heap.size + 1) 4 12 12 s _ 28 3 hb1 (by rw [putL_length (by rw [zero16_length]; omega), zero16_length]; omega)
  have hmake := short_make (s := s.data.toList) (by rw [hsz.out]; exact hs)
  rw [hsz.out] at hmake
  unfold zero16 at hrun
  rw [hmake] at hrun
  have hr1 : Blk w1 w.heap.size 28 (vb zero16) := HR0.out.grown hg1 (by simp)
  have hk1 : Below w.heap.size w w1 := below_some HK0.out hg1 HK0.out.size (by omega)
  have hs16 : (shortL s.data.toList).length = 16 := shortL_length (by rw [hsz.out]; exact hs)
  have hb2 := setRowV_blk hb1 (vb (shortL s.data.toList))
  have hr2 := setRowV_far (k := w.heap.size + 1) hr1 (by omega) (vb (shortL s.data.toList))
  have hk2 := setRowV_below hk1 hk1.size (g := w.heap.size + 1) (by omega) (vb (shortL s.data.toList))
  obtain ⟨v, hv⟩ : ∃ v, shortL s.data.toList = v := ⟨_, rfl⟩
  rw [hv] at hrun hs16 hb2 hr2 hk2
  have HV := Lib.hid hv
  obtain ⟨w2, hw2⟩ : ∃ w2, w1.setRow (w.heap.size + 1) (vb v) = w2 := ⟨_, rfl⟩
  rw [hw2] at hrun hb2 hr2 hk2
  have HR := Lib.hid hr2
  have HK := Lib.hid hk2
  have HB := Lib.hid hb2
  have HS := Lib.hid hs16
  clear hw2 hmake hr1 hk1 hb1 hg1 hr2 hk2 hb2 hs16 hv
  go_wp2_with (first | (at_builtin; refine Lib.wpList_copy_run _ rfl _ _ _ _ rfl _ _ rfl rfl hrun ?_) | (refine wpList_loadV HB.out HS.out rfl _ rfl rfl ?_) | (refine wpList_storeV HR.out zero16_length HS.out rfl _ _ rfl rfl rfl ?_))
  refine bodyPost_ret (v := .agg (vb v)) ?_ rfl ⟨by rw [HV.out], setRowV_below HK.out HK.out.size (Nat.le_refl _) _⟩
  exact results_cell_row rfl _ _ w.heap.size 28 (vb v) (0, 0) _ rfl (setRowV_blk HR.out _) Try.underlying28 rfl (sizeV (by rw [vb_size]; exact HS.out))

set_option maxRecDepth 20000 in
set_option maxHeartbeats 400000 in
theorem vlongOf_any {w : World} (s : ByteArray) (b p : Nat) (hs : 12 < s.size) (hs2 : s.size ≤ 4096) (hb : b < 9223372036854775808) (hp : p < 9223372036854775808) :
    Calls Try.prog 38 #[.string s, .int .i64 (b : Int), .int .i64 (p : Int)] w fun r w' => r = .returned (.agg (vb (longL s.data.toList b p))) ∧ Below w.heap.size w w' := by
  have hsz : Hid (s.data.toList.length = s.size) := by unfold Hid; rw [Array.length_toList]; rfl
  obtain ⟨hz, _⟩ := zero_of_info Try.infoV
  have hb0 : Blk ((w.alloc (.cells (vb zero16) 28)).alloc (.cells (vb zero16) 28)) (w.heap.size + 1) 28 (vb zero16) := by
    have := Blk.new (w.alloc (.cells (vb zero16) 28)) 28 (vb zero16)
    simpa using this
  have hr0 : Blk ((w.alloc (.cells (vb zero16) 28)).alloc (.cells (vb zero16) 28)) w.heap.size 28 (vb zero16) := (Blk.new w _ _).alloc _
  have hk0 : Below w.heap.size w ((w.alloc (.cells (vb zero16) 28)).alloc (.cells (vb zero16) 28)) := ((Below.refl _ _).alloc (Nat.le_refl _) _).alloc (by simp) _
  have h1 := vput_any (c := 16) zero16 0 s.size hb0 (by rw [zero16_length]; omega) (by rw [zero16_length]; omega) (by omega)
  have HK0 := Lib.hid hk0
  have HR0 := Lib.hid hr0
  have H1 := Lib.hid h1
  have l1 : (putL zero16 0 s.size).length = 16 := by rw [putL_length (by rw [zero16_length]; omega), zero16_length]
  have hmake := long_make (s := s.data.toList) (by rw [hsz.out]; exact hs) b p
  rw [hsz.out] at hmake
  have HM := Lib.hid hmake
  have HL := Lib.hid (longL_length (s := s.data.toList) (by rw [hsz.out]; omega) b p)
  change Hid (putL (putL ((putL zero16 0 s.size).take 4 ++ s.data.toList.take 4 ++ (putL zero16 0 s.size).drop (4 + Nat.min s.size 4)) 8 b) 12 p = _) at HM
  obtain ⟨v, hv⟩ : ∃ v, longL s.data.toList b p = v := ⟨_, rfl⟩
  rw [hv] at HM HL
  have HV := Lib.hid hv
  obtain ⟨v1, hv1⟩ : ∃ v1, putL zero16 0 s.size = v1 := ⟨_, rfl⟩
  rw [hv1] at HM l1 H1
  obtain ⟨v2, hv2⟩ : ∃ v2, v1.take 4 ++ s.data.toList.take 4 ++ v1.drop (4 + Nat.min s.size 4) = v2 := ⟨_, rfl⟩
  have l2 : v2.length = 16 := by
    have h4 : Nat.min s.size 4 = 4 := Nat.min_eq_right (by omega)
    rw [← hv2, h4]
    simp only [List.length_append, List.length_take, List.length_drop, hsz.out]
    omega
  rw [hv2] at HM
  obtain ⟨v3, hv3⟩ : ∃ v3, putL v2 8 b = v3 := ⟨_, rfl⟩
  have l3 : v3.length = 16 := by rw [← hv3, putL_length (by omega), l2]
  rw [hv3] at HM
  have HV2 := Lib.hid hv2
  have HV3 := Lib.hid hv3
  have L1 := Lib.hid l1
  have L2 := Lib.hid l2
  have L3 := Lib.hid l3
  clear hb0 h1 hk0 hr0 hmake hv hv1 hv2 hv3 l1 l2 l3
  go_enter Try.func38, Try.ntmps38
  go_wp2_with fail
  refine H1.out.mono ?_
  rintro r w1 ⟨rfl, hb1, hg1⟩
  have hrun := copy_str w1 (w.heap.size + 1) 4 4 12 s v1 28 3 hb1 (by rw [L1.out]; omega)
  rw [HV2.out] at hrun
  have hr1 : Blk w1 w.heap.size 28 (vb zero16) := HR0.out.grown hg1 (by simp)
  have hk1 : Below w.heap.size w w1 := below_some HK0.out hg1 HK0.out.size (by omega)
  have hb2 := setRowV_blk hb1 (vb v2)
  have hr2 := setRowV_far (k := w.heap.size + 1) hr1 (by omega) (vb v2)
  have hk2 := setRowV_below hk1 hk1.size (g := w.heap.size + 1) (by omega) (vb v2)
  have hm4 : Nat.min s.size 4 = 4 := Nat.min_eq_right (by omega)
  rw [hm4] at hrun
  obtain ⟨w2, hw2⟩ : ∃ w2, w1.setRow (w.heap.size + 1) (vb v2) = w2 := ⟨_, rfl⟩
  rw [hw2] at hrun hb2 hr2 hk2
  have HR2 := Lib.hid hr2
  have HK2 := Lib.hid hk2
  have h3 := vput_any (c := 8) v2 8 b hb2 (by rw [L2.out]; omega) (by rw [L2.out]; omega) hb
  rw [HV3.out] at h3
  have H3 := Lib.hid h3
  clear hw2 hr1 hk1 hb1 hg1 hr2 hk2 hb2 h3 hm4
  go_wp2_with (at_builtin; refine Lib.wpList_copy_run _ rfl _ _ _ _ rfl _ _ rfl rfl hrun ?_)
  refine H3.out.mono ?_
  rintro r w3 ⟨rfl, hb3, hg3⟩
  have hr3 : Blk w3 w.heap.size 28 (vb zero16) := HR2.out.grown hg3 (by simp)
  have hk3 : Below w.heap.size w w3 := below_some HK2.out hg3 HK2.out.size (by omega)
  have h4 := vput_any (c := 4) v3 12 p hb3 (by rw [L3.out]; omega) (by rw [L3.out]; omega) hp
  rw [HM.out] at h4
  have HR3 := Lib.hid hr3
  have HK3 := Lib.hid hk3
  have H4 := Lib.hid h4
  clear hrun hr3 hk3 hb3 hg3 h4
  go_wp2_with fail
  refine H4.out.mono ?_
  rintro r w4 ⟨rfl, hb4, hg4⟩
  have hr4 : Blk w4 w.heap.size 28 (vb zero16) := HR3.out.grown hg4 (by simp)
  have hk4 : Below w.heap.size w w4 := below_some HK3.out hg4 HK3.out.size (by omega)
  have HB := Lib.hid hb4
  have HR := Lib.hid hr4
  have HK := Lib.hid hk4
  clear hr4 hk4 hb4 hg4
  go_wp2_with (first | (refine wpList_loadV HB.out HL.out rfl _ rfl rfl ?_) | (refine wpList_storeV HR.out zero16_length HL.out rfl _ _ rfl rfl rfl ?_))
  refine bodyPost_ret (v := .agg (vb v)) ?_ rfl ⟨by rw [HV.out], setRowV_below HK.out HK.out.size (Nat.le_refl _) _⟩
  exact results_cell_row rfl _ _ w.heap.size 28 (vb v) (0, 0) _ rfl (setRowV_blk HR.out _) Try.underlying28 rfl (sizeV (by rw [vb_size]; exact HL.out))

end Go.Proofs.Ytpainhgjiddpkaa
