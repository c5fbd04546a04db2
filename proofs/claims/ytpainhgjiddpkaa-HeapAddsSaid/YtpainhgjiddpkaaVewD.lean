/-
  Views: what a view says: Len, Text, Prefix, Place.
-/
import Derived.Test.YtpainhgjiddpkaaVewB
namespace Go.Proofs.Ytpainhgjiddpkaa
set_option linter.unusedSimpArgs false
set_option linter.unusedVariables false
open Go.RowKit

theorem vlen_any {w : World} (l : List UInt8) (hl : l.length = 16) :
    Calls Try.prog 13 #[.agg (vb l)] w fun r w' => r = .returned (.int .i64 (lenV l : Int)) ∧ Below w.heap.size w w' := by
  have h1 := vlength_any (w := w.alloc (.cells (vb l) 28)) l hl
  have hn := lenV_lt l
  obtain ⟨n, hn'⟩ : ∃ n, lenV l = n := ⟨_, rfl⟩
  rw [hn'] at h1 hn ⊢
  have hb := (Below.refl w.heap.size w).alloc (Nat.le_refl _) (.cells (vb l) 28)
  have H1 := Lib.hid h1
  have HB := Lib.hid hb
  clear h1 hb hn'
  go_enter Try.func13, Try.ntmps13
  go_wp2_with (refine wpList_loadV (Blk.new _ _ _) hl rfl _ rfl rfl ?_)
  refine H1.out.mono ?_
  rintro r w' ⟨rfl, hb2⟩
  have HB2 := Lib.hid hb2
  clear hb2
  go_wp2_with fail
  go_ret
  exact ⟨rfl, below_below HB.out HB2.out (by simp)⟩

theorem run_string_piece {w : World} {g : Nat} {l : List UInt8} (hb : Blk w g 28 (vb l)) (hl : l.length = 16) (off n c : Nat) (ho : off + n ≤ 16) (hc : c = 16 - off) :
    (convert 36 9 (.slice (some ⟨g, off, none⟩) n c)).run Try.prog w = .ok (.string ⟨((l.drop off).take n).toArray⟩) w := by
  subst hc
  have h1 := run_string_rd (P := Try.prog) w 36 9 5 Try.underlying36 Try.underlying5 Try.underlying9 g (g + 1) (some ⟨g, off, none⟩) (l.length - off) ((l.drop off).take n) (blk_rd hb off n (by omega) (by omega))
  have e : ((l.drop off).take n).length = n := by rw [List.length_take, List.length_drop]; omega
  rwa [e, hl] at h1

/-- a piece 'v[lo:hi]' of an array, its ends no constants -/
theorem run_sliceV (w : World) (g : Nat) (k1 k2 : IntKind) (lo hi : Nat) (L H : Int) (hL : L = (lo : Int)) (hH : H = (hi : Int)) (h1 : lo ≤ hi) (h2 : hi ≤ 16) (h0 : 0 < lo) :
    (Instr.sliceAt 28 (.pointer (some ⟨g, 0, none⟩)) (some (.int k1 L)) (some (.int k2 H)) none).run Try.prog w = .ok (.slice (some (if 16 = lo then ⟨g, 0, none⟩ else ⟨g, lo, none⟩)) (hi - lo) (16 - lo)) w := by
  subst hL hH
  obtain ⟨i0, hi0, hz0, hz1, hz2⟩ := info_parts Try.infoU8
  have hadd : (⟨g, 0, none⟩ : Addr).add lo = ⟨g, lo, none⟩ := by unfold Addr.add; rw [if_neg (by omega)]; simp
  have c1 : (0 : Int) ≤ (hi : Int) ∧ (hi : Int) ≤ ((16 : Nat) : Int) := by omega
  have c2 : (0 : Int) ≤ (lo : Int) ∧ (lo : Int) ≤ (hi : Int) := by omega
  simp only [Instr.sliceAt, Sem.run_bind, run_underlying Try.underlying28, Result.andThen_ok, Instr.sureAddr, Sem.run_pure, Instr.sliceBounds, Instr.sliceBound, asIntOf, if_pos c1, if_pos c2, Int.toNat_natCast, sizeOf, typeInfo, run_program, hi0, hz1, Nat.mul_one, hadd]

theorem vtext_long {w : World} (l : List UInt8) (hl : l.length = 16) (hn : 12 < lenV l) :
    Calls Try.prog 22 #[.agg (vb l)] w fun r w' => r = .returned (.string ⟨#[]⟩) ∧ Below w.heap.size w w' := by
  have h1 := vshort_any (w := w.alloc (.cells (vb l) 28)) l hl
  rw [decide_eq_false (by omega)] at h1
  have hb := (Below.refl w.heap.size w).alloc (Nat.le_refl _) (.cells (vb l) 28)
  have H1 := Lib.hid h1
  have HB := Lib.hid hb
  clear h1 hb hn
  go_enter Try.func22, Try.ntmps22
  go_wp2_with (refine wpList_loadV (Blk.new _ _ _) hl rfl _ rfl rfl ?_)
  refine H1.out.mono ?_
  rintro r w1 ⟨rfl, hb1⟩
  have HB1 := Lib.hid hb1
  clear hb1
  go_wp2_with fail
  go_ret
  exact ⟨rfl, below_below HB.out HB1.out (by simp)⟩

theorem vtext_short {w : World} (l : List UInt8) (hl : l.length = 16) (hn : lenV l ≤ 12) :
    Calls Try.prog 22 #[.agg (vb l)] w fun r w' => r = .returned (.string ⟨((l.drop 4).take (lenV l)).toArray⟩) ∧ Below w.heap.size w w' := by
  have h1 := vshort_any (w := w.alloc (.cells (vb l) 28)) l hl
  rw [decide_eq_true hn] at h1
  have h2 := fun w0 => vlength_any (w := w0) l hl
  obtain ⟨n, hn'⟩ : ∃ n, lenV l = n := ⟨_, rfl⟩
  rw [hn'] at h2 hn ⊢
  have hb := (Below.refl w.heap.size w).alloc (Nat.le_refl _) (.cells (vb l) 28)
  have HV0 := Lib.hid (Blk.new w 28 (vb l))
  have H1 := Lib.hid h1
  have H2 := Lib.hid h2
  have HB := Lib.hid hb
  clear h1 h2 hb hn'
  go_enter Try.func22, Try.ntmps22
  go_wp2_with (refine wpList_loadV (Blk.new _ _ _) hl rfl _ rfl rfl ?_)
  refine H1.out.mono ?_
  rintro r w1 ⟨rfl, hb1⟩
  have HB1 := Lib.hid (below_below HB.out hb1 (by simp))
  have HV1 := Lib.hid (HV0.out.below hb1 (by simp))
  clear hb1
  go_wp2_with (refine wpList_loadV HV1.out hl rfl _ rfl rfl ?_)
  refine (H2.out _).mono ?_
  rintro r w2 ⟨rfl, hb2⟩
  have hv2 := HV1.out.below hb2 HV1.out.lt
  have HB2 := Lib.hid (below_below HB1.out hb2 HB1.out.size)
  have hstr := run_string_piece hv2 hl 4 n 12 (by omega) rfl
  have hsl := fun w0 => run_sliceV w0 w.heap.size .i64 .u32 4 (4 + n) 4 (4 + (n : Int)) rfl (by omega) (by omega) (by omega) (by omega)
  rw [if_neg (by omega), Nat.add_sub_cancel_left] at hsl
  clear hb2 hv2
  go_wp2_with fail
  go_ret
  exact ⟨rfl, HB2.out⟩

theorem vtext_any {w : World} (l : List UInt8) (hl : l.length = 16) :
    Calls Try.prog 22 #[.agg (vb l)] w fun r w' => r = .returned (.string ⟨(textV l).toArray⟩) ∧ Below w.heap.size w w' := by
  unfold textV
  split
  · exact vtext_short l hl (by assumption)
  · exact vtext_long l hl (by omega)

theorem vprefix_any {w : World} (l : List UInt8) (hl : l.length = 16) :
    Calls Try.prog 24 #[.agg (vb l)] w fun r w' => r = .returned (.string ⟨(prefV l).toArray⟩) ∧ Below w.heap.size w w' := by
  unfold prefV
  have h1 := vlength_any (w := w.alloc (.cells (vb l) 28)) l hl
  have hn := lenV_lt l
  obtain ⟨n, hn'⟩ : ∃ n, lenV l = n := ⟨_, rfl⟩
  rw [hn'] at h1 hn ⊢
  have hb := (Below.refl w.heap.size w).alloc (Nat.le_refl _) (.cells (vb l) 28)
  have HV0 := Lib.hid (Blk.new w 28 (vb l))
  have H1 := Lib.hid h1
  have HB := Lib.hid hb
  clear h1 hb hn'
  rcases Nat.lt_or_ge n 4 with h4 | h4
  · rw [Nat.min_eq_right (by omega)]
    go_enter Try.func24, Try.ntmps24
    go_wp2_with (refine wpList_loadV (Blk.new _ _ _) hl rfl _ rfl rfl ?_)
    refine H1.out.mono ?_
    rintro r w1 ⟨rfl, hb1⟩
    have HB1 := Lib.hid (below_below HB.out hb1 (by simp))
    have hv1 := HV0.out.below hb1 (by simp)
    have hstr := run_string_piece hv1 hl 4 n 12 (by omega) rfl
    have hsl := fun w0 => run_sliceV w0 w.heap.size .i64 .u32 4 (4 + n) 4 (4 + (n : Int)) rfl (by omega) (by omega) (by omega) (by omega)
    rw [if_neg (by omega), Nat.add_sub_cancel_left] at hsl
    clear hb1 hv1
    go_wp2_with fail
    go_ret
    exact ⟨rfl, HB1.out⟩
  · rw [Nat.min_eq_left h4]
    go_enter Try.func24, Try.ntmps24
    go_wp2_with (refine wpList_loadV (Blk.new _ _ _) hl rfl _ rfl rfl ?_)
    refine H1.out.mono ?_
    rintro r w1 ⟨rfl, hb1⟩
    have HB1 := Lib.hid (below_below HB.out hb1 (by simp))
    have hv1 := HV0.out.below hb1 (by simp)
    have hstr := run_string_piece hv1 hl 4 4 12 (by omega) rfl
    clear hb1 hv1
    go_wp2_with fail
    go_ret
    exact ⟨rfl, HB1.out⟩

theorem vplace_short {w : World} (l : List UInt8) (hl : l.length = 16) (hn : lenV l ≤ 12) :
    Calls Try.prog 23 #[.agg (vb l)] w fun r w' => r = .returned (.tuple #[.int .i64 0, .int .i64 0]) ∧ Below w.heap.size w w' := by
  have h1 := vshort_any (w := w.alloc (.cells (vb l) 28)) l hl
  rw [decide_eq_true hn] at h1
  have hb := (Below.refl w.heap.size w).alloc (Nat.le_refl _) (.cells (vb l) 28)
  have H1 := Lib.hid h1
  have HB := Lib.hid hb
  clear h1 hb hn
  go_enter Try.func23, Try.ntmps23
  go_wp2_with (refine wpList_loadV (Blk.new _ _ _) hl rfl _ rfl rfl ?_)
  refine H1.out.mono ?_
  rintro r w1 ⟨rfl, hb1⟩
  have HB1 := Lib.hid hb1
  clear hb1
  go_wp2_with fail
  go_ret2
  exact ⟨rfl, below_below HB.out HB1.out (by simp)⟩

theorem vnumber_piece {w : World} {g c : Nat} {l : List UInt8} (hb : Blk w g 28 (vb l)) (hl : l.length = 16) (off : Nat) (ho : off + 4 ≤ 16) (hc : c = 16 - off) :
    Calls Try.prog 36 #[.slice (some ⟨g, off, none⟩) 4 c] w fun r w' => r = .returned (.int .u32 (numAt l off : Int)) ∧ w = w' := by
  subst hc
  unfold numAt
  have h := vnumber_any ((l.drop off).take 4) (blk_rd hb off 4 (by omega) (by omega)) (by rw [List.length_take]; omega)
  have e : ((l.drop off).take 4).length = 4 := by rw [List.length_take, List.length_drop]; omega
  rwa [e, hl] at h

theorem vplace_long {w : World} (l : List UInt8) (hl : l.length = 16) (hn : 12 < lenV l) :
    Calls Try.prog 23 #[.agg (vb l)] w fun r w' => r = .returned (.tuple #[.int .i64 (bufV l : Int), .int .i64 (atV l : Int)]) ∧ Below w.heap.size w w' := by
  have h1 := vshort_any (w := w.alloc (.cells (vb l) 28)) l hl
  rw [decide_eq_false (by omega)] at h1
  have hb := (Below.refl w.heap.size w).alloc (Nat.le_refl _) (.cells (vb l) 28)
  have HV0 := Lib.hid (Blk.new w 28 (vb l))
  unfold bufV atV
  rw [if_neg (by omega), if_neg (by omega)]
  have hx := numAt_lt l 8
  have hy := numAt_lt l 12
  have H1 := Lib.hid h1
  have HB := Lib.hid hb
  clear h1 hb hn
  go_enter Try.func23, Try.ntmps23
  go_wp2_with (refine wpList_loadV (Blk.new _ _ _) hl rfl _ rfl rfl ?_)
  refine H1.out.mono ?_
  rintro r w1 ⟨rfl, hb1⟩
  have HB1 := Lib.hid (below_below HB.out hb1 (by simp))
  have HV1 := Lib.hid (HV0.out.below hb1 (by simp))
  clear hb1
  go_wp2_with fail
  go_quiet (refine quiet_pure (vnumber_piece (HV1.out.drewN _) hl _ (by omega) rfl))
  go_wp2
  go_ret2
  exact ⟨rfl, below_drewN' HB1.out _⟩

theorem vplace_any {w : World} (l : List UInt8) (hl : l.length = 16) :
    Calls Try.prog 23 #[.agg (vb l)] w fun r w' => r = .returned (.tuple #[.int .i64 (bufV l : Int), .int .i64 (atV l : Int)]) ∧ Below w.heap.size w w' := by
  rcases Nat.lt_or_ge 12 (lenV l) with h | h
  · exact vplace_long l hl h
  · have h1 := vplace_short (w := w) l hl h
    unfold bufV atV
    rw [if_pos h, if_pos h]
    exact h1

end Go.Proofs.Ytpainhgjiddpkaa
