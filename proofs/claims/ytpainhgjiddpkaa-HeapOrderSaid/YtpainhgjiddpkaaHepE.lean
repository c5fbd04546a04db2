/-
  Heaps: the bytes of a long view's string; find of whatever view; Get. (Printed by wip/tools/genfind.py.)
-/
import Derived.Test.YtpainhgjiddpkaaHepD
namespace Go.Proofs.Ytpainhgjiddpkaa
set_option linter.unusedSimpArgs false
set_option linter.unusedVariables false
open Go.RowKit

section
variable {w : World} {lo g : Nat} {most : Int} {bs : List UInt8} {es : List Nat} {M : Nat → Prop}
set_option maxHeartbeats 1000000 in
theorem find_gone (h : Hp w lo g most bs es M) (l : List UInt8) (hl : l.length = 16) (hr : rightV l = true) (hn : 12 < lenV l) (hk : es.length ≤ bufV l) :
    Calls Try.prog 29 #[hp g, .agg (vb l)] w fun r w' => r = .returned (.tuple #[.slice none 0 0, .bool false]) ∧ Below w.heap.size w w' := by
  have hn4 : lenV l ≤ 4096 := by
    unfold rightV at hr
    rw [if_neg (by omega)] at hr
    simp only [decide_eq_true_eq] at hr
    exact hr.1
  have h1 := fun w0 => vright_any (w := w0) l hl
  rw [hr] at h1
  have h2 := fun w0 => vshort_any (w := w0) l hl
  rw [decide_eq_false (by omega)] at h2
  have h3 := fun w0 => vplace_any (w := w0) l hl
  have h5 := fun w0 => vlen_any (w := w0) l hl
  have hat : atV l < 4294967296 := by unfold atV; split; · omega
                                      · exact numAt_lt _ _
  have hbf := fun w0 (h0 : Below w.heap.size w w0) => buffer_no (h.below h0 (Nat.le_refl _)) (bufV l : Int) (.inr (by omega))
  generalize bufV l = x at *
  generalize atV l = y at *
  generalize lenV l = n at *
  have hb := (Below.refl w.heap.size w).alloc (Nat.le_refl _) (.cells (vb l) 28)
  have HV0 := Lib.hid (Blk.new w 28 (vb l))
  have HG := Lib.hid (h.mine g h.has)
  have H1 := Lib.hid h1
  have H2 := Lib.hid h2
  have H3 := Lib.hid h3
  have H5 := Lib.hid h5
  have HB := Lib.hid hb
  have HBF := Lib.hid hbf
  clear h1 h2 h3 h5 hb hbf hr h
  unfold hp at HBF ⊢
  go_enter Try.func29, Try.ntmps29
  go_wp2_with (refine wpList_loadV (Blk.new _ _ _) hl rfl _ rfl rfl ?_)
  refine (H1.out _).mono ?_
  rintro r w1 ⟨rfl, hb1⟩
  have HB1 := Lib.hid (below_below HB.out hb1 (by simp))
  have HV1 := Lib.hid (HV0.out.below hb1 (by simp))
  clear hb1
  go_wp2_with (refine wpList_loadV HV1.out hl rfl _ rfl rfl ?_)
  refine (H2.out _).mono ?_
  rintro r w2 ⟨rfl, hb2⟩
  have HB2 := Lib.hid (below_below HB1.out hb2 HB1.out.size)
  have HV2 := Lib.hid (HV1.out.below hb2 HV1.out.lt)
  clear hb2
  go_wp2_with (refine wpList_loadV HV2.out hl rfl _ rfl rfl ?_)
  refine (H3.out _).mono ?_
  rintro r w3 ⟨rfl, hb3⟩
  have HB3 := Lib.hid (below_below HB2.out hb3 HB2.out.size)
  have HV3 := Lib.hid (HV2.out.below hb3 HV2.out.lt)
  clear hb3
  have horE := fun w0 => orEmpty_any (w := w0) g
  have HOE := Lib.hid horE
  clear horE
  unfold hp at HOE
  go_wp2_with fail
  refine (HOE.out _).mono ?_
  rintro r w4 ⟨rfl, rfl⟩
  go_wp2_with fail
  refine (HBF.out _ HB3.out).mono ?_
  rintro r w4 ⟨rfl, rfl⟩
  go_wp2_with (refine wpList_loadV HV3.out hl rfl _ rfl rfl ?_)
  refine (H5.out _).mono ?_
  rintro r w5 ⟨rfl, hb5⟩
  have HB5 := Lib.hid (below_below HB3.out hb5 HB3.out.size)
  clear hb5
  go_wp2_with fail
  go_ret2
  exact ⟨rfl, HB5.out⟩

set_option maxHeartbeats 1000000 in
theorem find_cut (h : Hp w lo g most bs es M) (l : List UInt8) (hl : l.length = 16) (hr : rightV l = true) (hn : 12 < lenV l) (hk : bufV l < es.length) (hlt : (bufL bs es (bufV l)).length < atV l + lenV l) :
    Calls Try.prog 29 #[hp g, .agg (vb l)] w fun r w' => r = .returned (.tuple #[.slice none 0 0, .bool false]) ∧ Below w.heap.size w w' := by
  have hn4 : lenV l ≤ 4096 := by
    unfold rightV at hr
    rw [if_neg (by omega)] at hr
    simp only [decide_eq_true_eq] at hr
    exact hr.1
  have h1 := fun w0 => vright_any (w := w0) l hl
  rw [hr] at h1
  have h2 := fun w0 => vshort_any (w := w0) l hl
  rw [decide_eq_false (by omega)] at h2
  have h3 := fun w0 => vplace_any (w := w0) l hl
  have h5 := fun w0 => vlen_any (w := w0) l hl
  have hat : atV l < 4294967296 := by unfold atV; split; · omega
                                      · exact numAt_lt _ _
  have hbf := fun w0 (h0 : Below w.heap.size w w0) => buffer_at (h.below h0 (Nat.le_refl _)) (bufV l) hk
  have hbl := bufL_le (bs := bs) (es := es) (bufV l)
  have hfew := h.few
  generalize bufV l = x at *
  generalize atV l = y at *
  generalize bufL bs es x = q at *
  generalize lenV l = n at *
  have hb := (Below.refl w.heap.size w).alloc (Nat.le_refl _) (.cells (vb l) 28)
  have HV0 := Lib.hid (Blk.new w 28 (vb l))
  have HG := Lib.hid (h.mine g h.has)
  have H1 := Lib.hid h1
  have H2 := Lib.hid h2
  have H3 := Lib.hid h3
  have H5 := Lib.hid h5
  have HB := Lib.hid hb
  have HBF := Lib.hid hbf
  clear h1 h2 h3 h5 hb hbf hr h
  unfold hp at HBF ⊢
  go_enter Try.func29, Try.ntmps29
  go_wp2_with (refine wpList_loadV (Blk.new _ _ _) hl rfl _ rfl rfl ?_)
  refine (H1.out _).mono ?_
  rintro r w1 ⟨rfl, hb1⟩
  have HB1 := Lib.hid (below_below HB.out hb1 (by simp))
  have HV1 := Lib.hid (HV0.out.below hb1 (by simp))
  clear hb1
  go_wp2_with (refine wpList_loadV HV1.out hl rfl _ rfl rfl ?_)
  refine (H2.out _).mono ?_
  rintro r w2 ⟨rfl, hb2⟩
  have HB2 := Lib.hid (below_below HB1.out hb2 HB1.out.size)
  have HV2 := Lib.hid (HV1.out.below hb2 HV1.out.lt)
  clear hb2
  go_wp2_with (refine wpList_loadV HV2.out hl rfl _ rfl rfl ?_)
  refine (H3.out _).mono ?_
  rintro r w3 ⟨rfl, hb3⟩
  have HB3 := Lib.hid (below_below HB2.out hb3 HB2.out.size)
  have HV3 := Lib.hid (HV2.out.below hb3 HV2.out.lt)
  clear hb3
  have horE := fun w0 => orEmpty_any (w := w0) g
  have HOE := Lib.hid horE
  clear horE
  unfold hp at HOE
  go_wp2_with fail
  refine (HOE.out _).mono ?_
  rintro r w4 ⟨rfl, rfl⟩
  go_wp2_with fail
  refine (HBF.out _ HB3.out).mono ?_
  rintro r w4 ⟨A, c, rfl, hrd, m, rfl⟩
  have HB4 := Lib.hid (below_drewN' HB3.out m)
  have HV4 := Lib.hid (HV3.out.drewN m)
  have hlen := hrd.len
  have hcap := hrd.cap
  rw [bv_length] at hlen
  unfold maxLen at hcap
  have HRD := Lib.hid (hrd.drewN m)
  clear hrd
  have hh3 : w3.heap.size = (w3.drewN m).heap.size := rfl
  generalize w3.drewN m = w4 at *
  rw [hh3] at HRD
  clear hh3
  go_wp2_with (refine wpList_loadV HV4.out hl rfl _ rfl rfl ?_)
  refine (H5.out _).mono ?_
  rintro r w5 ⟨rfl, hb5⟩
  have HB5 := Lib.hid (below_below HB4.out hb5 HB4.out.size)
  have HV5 := Lib.hid (HV4.out.below hb5 HV4.out.lt)
  have HRD5 := Lib.hid (HRD.out.below hb5 (Nat.le_refl _))
  have HS5 := Lib.hid hb5.size
  clear hb5
  go_wp2_with fail
  go_ret2
  exact ⟨rfl, HB5.out⟩

set_option maxHeartbeats 1000000 in
theorem find_other (h : Hp w lo g most bs es M) (l : List UInt8) (hl : l.length = 16) (hr : rightV l = true) (hn : 12 < lenV l) (hk : bufV l < es.length) (hlt : atV l + lenV l ≤ (bufL bs es (bufV l)).length) (hpre : ¬ (((bufL bs es (bufV l)).drop (atV l)).take (lenV l)).take 4 = prefV l) :
    Calls Try.prog 29 #[hp g, .agg (vb l)] w fun r w' => r = .returned (.tuple #[.slice none 0 0, .bool false]) ∧ Below w.heap.size w w' := by
  have hn4 : lenV l ≤ 4096 := by
    unfold rightV at hr
    rw [if_neg (by omega)] at hr
    simp only [decide_eq_true_eq] at hr
    exact hr.1
  have h1 := fun w0 => vright_any (w := w0) l hl
  rw [hr] at h1
  have h2 := fun w0 => vshort_any (w := w0) l hl
  rw [decide_eq_false (by omega)] at h2
  have h3 := fun w0 => vplace_any (w := w0) l hl
  have h5 := fun w0 => vlen_any (w := w0) l hl
  have hat : atV l < 4294967296 := by unfold atV; split; · omega
                                      · exact numAt_lt _ _
  have h6 := fun w0 => vprefix_any (w := w0) l hl
  have hpl : (prefV l).length = 4 := by unfold prefV; rw [List.length_take, List.length_drop, hl]; omega
  obtain ⟨s, hs⟩ : ∃ s : ByteArray, ⟨(prefV l).toArray⟩ = s := ⟨_, rfl⟩
  have hsl : s.data.toList = prefV l := by rw [← hs]
  have hss : s.size = 4 := by rw [← hpl, ← hsl, Array.length_toList]; rfl
  rw [hs] at h6
  have hbf := fun w0 (h0 : Below w.heap.size w w0) => buffer_at (h.below h0 (Nat.le_refl _)) (bufV l) hk
  have hbl := bufL_le (bs := bs) (es := es) (bufV l)
  have hfew := h.few
  generalize bufV l = x at *
  generalize atV l = y at *
  obtain ⟨q, hq⟩ : ∃ q, bufL bs es x = q := ⟨_, rfl⟩
  rw [hq] at hbf hbl hlt hpre
  obtain ⟨z, hz⟩ : ∃ z, (q.drop y).take (lenV l) = z := ⟨_, rfl⟩
  have hzl : z.length = lenV l := by rw [← hz, List.length_take, List.length_drop]; omega
  rw [hz] at hpre
  generalize lenV l = n at *
  have hb := (Below.refl w.heap.size w).alloc (Nat.le_refl _) (.cells (vb l) 28)
  have HV0 := Lib.hid (Blk.new w 28 (vb l))
  have HG := Lib.hid (h.mine g h.has)
  have H1 := Lib.hid h1
  have H2 := Lib.hid h2
  have H3 := Lib.hid h3
  have H5 := Lib.hid h5
  have HB := Lib.hid hb
  have HBF := Lib.hid hbf
  have H6 := Lib.hid h6
  have HSS := Lib.hid hss
  have hs4 : s.size ≤ 4 := by omega
  have HSL := Lib.hid hsl
  have HPRE := Lib.hid hpre
  have HZ := Lib.hid hz
  have HZL := Lib.hid hzl
  clear h6 hsl hpre hq hz hzl hs hpl hss
  clear h1 h2 h3 h5 hb hbf hr h
  unfold hp at HBF ⊢
  go_enter Try.func29, Try.ntmps29
  go_wp2_with (refine wpList_loadV (Blk.new _ _ _) hl rfl _ rfl rfl ?_)
  refine (H1.out _).mono ?_
  rintro r w1 ⟨rfl, hb1⟩
  have HB1 := Lib.hid (below_below HB.out hb1 (by simp))
  have HV1 := Lib.hid (HV0.out.below hb1 (by simp))
  clear hb1
  go_wp2_with (refine wpList_loadV HV1.out hl rfl _ rfl rfl ?_)
  refine (H2.out _).mono ?_
  rintro r w2 ⟨rfl, hb2⟩
  have HB2 := Lib.hid (below_below HB1.out hb2 HB1.out.size)
  have HV2 := Lib.hid (HV1.out.below hb2 HV1.out.lt)
  clear hb2
  go_wp2_with (refine wpList_loadV HV2.out hl rfl _ rfl rfl ?_)
  refine (H3.out _).mono ?_
  rintro r w3 ⟨rfl, hb3⟩
  have HB3 := Lib.hid (below_below HB2.out hb3 HB2.out.size)
  have HV3 := Lib.hid (HV2.out.below hb3 HV2.out.lt)
  clear hb3
  have horE := fun w0 => orEmpty_any (w := w0) g
  have HOE := Lib.hid horE
  clear horE
  unfold hp at HOE
  go_wp2_with fail
  refine (HOE.out _).mono ?_
  rintro r w4 ⟨rfl, rfl⟩
  go_wp2_with fail
  refine (HBF.out _ HB3.out).mono ?_
  rintro r w4 ⟨A, c, rfl, hrd, m, rfl⟩
  have HB4 := Lib.hid (below_drewN' HB3.out m)
  have HV4 := Lib.hid (HV3.out.drewN m)
  have hlen := hrd.len
  have hcap := hrd.cap
  rw [bv_length] at hlen
  unfold maxLen at hcap
  have HRD := Lib.hid (hrd.drewN m)
  clear hrd
  have hh3 : w3.heap.size = (w3.drewN m).heap.size := rfl
  generalize w3.drewN m = w4 at *
  rw [hh3] at HRD
  clear hh3
  go_wp2_with (refine wpList_loadV HV4.out hl rfl _ rfl rfl ?_)
  refine (H5.out _).mono ?_
  rintro r w5 ⟨rfl, hb5⟩
  have HB5 := Lib.hid (below_below HB4.out hb5 HB4.out.size)
  have HV5 := Lib.hid (HV4.out.below hb5 HV4.out.lt)
  have HRD5 := Lib.hid (HRD.out.below hb5 (Nat.le_refl _))
  have HS5 := Lib.hid hb5.size
  clear hb5
  go_wp2_with (refine wpList_loadV HV5.out hl rfl _ rfl rfl ?_)
  refine (H5.out _).mono ?_
  rintro r w6 ⟨rfl, hb6⟩
  have HB6 := Lib.hid (below_below HB5.out hb6 HB5.out.size)
  have HV6 := Lib.hid (HV5.out.below hb6 HV5.out.lt)
  have HRD6 := Lib.hid (HRD5.out.below hb6 HS5.out)
  have HS6 := Lib.hid (Nat.le_trans HS5.out hb6.size)
  clear hb6
  have hcy : ¬ c = y := by omega
  have e1 : y + n - y = n := by omega
  have i1 : (y : Int) ≤ (y : Int) + (n : Int) := by omega
  have i2 : (y : Int) + (n : Int) ≤ (c : Int) := by omega
  have hcut := HRD6.out.cut (k := y) (n := y + n) (by omega) (by rw [bv_length]; exact hlt)
  rw [if_neg hcy, e1, ← bv_drop, ← bv_take, HZ.out] at hcut
  have HCUT := Lib.hid hcut
  clear hcut
  go_wp2_with (refine wpList_loadV HV6.out hl rfl _ rfl rfl ?_)
  refine (H6.out _).mono ?_
  rintro r w7 ⟨rfl, hb7⟩
  have HB7 := Lib.hid (below_below HB6.out hb7 HB6.out.size)
  have HRD7 := Lib.hid (HCUT.out.below hb7 HS6.out)
  have HS7 := Lib.hid (Nat.le_trans HS6.out hb7.size)
  have hcv := Lib.run_convert_string_bytes (P := Try.prog) w7 9 36 5 s Try.underlying9 Try.underlying36 Try.underlying5
  have hcap4 := grownCap_le_maxLen w7 s.size 0 5 (by simp only [maxLen]; omega)
  have hrd := bytesWorld_rd w7 5 s hcap4
  have hb8 := bytesWorld_below w7 5 s (Nat.le_refl _)
  have HB8 := Lib.hid (below_below HB7.out hb8 HB7.out.size)
  have HR8 := Lib.hid (HRD7.out.below hb8 HS7.out)
  rw [HSL.out] at hrd
  have HP8 := Lib.hid hrd
  have HS8 := Lib.hid (Nat.le_trans HS7.out hb8.size)
  clear hb7 hb8 hcap4 hrd
  have hpf := hasPrefix_len (n := n) (m := s.size) z (prefV l) false HR8.out HP8.out HZL.out (by rw [← HSL.out, Array.length_toList]; rfl) (by rw [HSS.out]; omega) (by rw [HSS.out]; exact decide_eq_false HPRE.out)
  have HPF := Lib.hid hpf
  clear hpf
  go_wp2_with fail
  refine HPF.out.mono ?_
  rintro r w8 ⟨rfl, rfl⟩
  go_wp2_with fail
  go_ret2
  exact ⟨rfl, HB8.out⟩

set_option maxHeartbeats 1000000 in
theorem find_there (h : Hp w lo g most bs es M) (l : List UInt8) (hl : l.length = 16) (hr : rightV l = true) (hn : 12 < lenV l) (hk : bufV l < es.length) (hlt : atV l + lenV l ≤ (bufL bs es (bufV l)).length) (hpre : (((bufL bs es (bufV l)).drop (atV l)).take (lenV l)).take 4 = prefV l) :
    Calls Try.prog 29 #[hp g, .agg (vb l)] w fun r w' => ∃ A c, r = .returned (.tuple #[.slice A (lenV l) c, .bool true]) ∧ Rd w' 0 w'.heap.size A c (bv (((bufL bs es (bufV l)).drop (atV l)).take (lenV l))) ∧ Below w.heap.size w w' := by
  have hn4 : lenV l ≤ 4096 := by
    unfold rightV at hr
    rw [if_neg (by omega)] at hr
    simp only [decide_eq_true_eq] at hr
    exact hr.1
  have h1 := fun w0 => vright_any (w := w0) l hl
  rw [hr] at h1
  have h2 := fun w0 => vshort_any (w := w0) l hl
  rw [decide_eq_false (by omega)] at h2
  have h3 := fun w0 => vplace_any (w := w0) l hl
  have h5 := fun w0 => vlen_any (w := w0) l hl
  have hat : atV l < 4294967296 := by unfold atV; split; · omega
                                      · exact numAt_lt _ _
  have h6 := fun w0 => vprefix_any (w := w0) l hl
  have hpl : (prefV l).length = 4 := by unfold prefV; rw [List.length_take, List.length_drop, hl]; omega
  obtain ⟨s, hs⟩ : ∃ s : ByteArray, ⟨(prefV l).toArray⟩ = s := ⟨_, rfl⟩
  have hsl : s.data.toList = prefV l := by rw [← hs]
  have hss : s.size = 4 := by rw [← hpl, ← hsl, Array.length_toList]; rfl
  rw [hs] at h6
  have hbf := fun w0 (h0 : Below w.heap.size w w0) => buffer_at (h.below h0 (Nat.le_refl _)) (bufV l) hk
  have hbl := bufL_le (bs := bs) (es := es) (bufV l)
  have hfew := h.few
  generalize bufV l = x at *
  generalize atV l = y at *
  obtain ⟨q, hq⟩ : ∃ q, bufL bs es x = q := ⟨_, rfl⟩
  rw [hq] at hbf hbl hlt hpre ⊢
  obtain ⟨z, hz⟩ : ∃ z, (q.drop y).take (lenV l) = z := ⟨_, rfl⟩
  have hzl : z.length = lenV l := by rw [← hz, List.length_take, List.length_drop]; omega
  rw [hz] at hpre ⊢
  generalize lenV l = n at *
  have hb := (Below.refl w.heap.size w).alloc (Nat.le_refl _) (.cells (vb l) 28)
  have HV0 := Lib.hid (Blk.new w 28 (vb l))
  have HG := Lib.hid (h.mine g h.has)
  have H1 := Lib.hid h1
  have H2 := Lib.hid h2
  have H3 := Lib.hid h3
  have H5 := Lib.hid h5
  have HB := Lib.hid hb
  have HBF := Lib.hid hbf
  have H6 := Lib.hid h6
  have HSS := Lib.hid hss
  have hs4 : s.size ≤ 4 := by omega
  have HSL := Lib.hid hsl
  have HPRE := Lib.hid hpre
  have HZ := Lib.hid hz
  have HZL := Lib.hid hzl
  clear h6 hsl hpre hq hz hzl hs hpl hss
  clear h1 h2 h3 h5 hb hbf hr h
  unfold hp at HBF ⊢
  go_enter Try.func29, Try.ntmps29
  go_wp2_with (refine wpList_loadV (Blk.new _ _ _) hl rfl _ rfl rfl ?_)
  refine (H1.out _).mono ?_
  rintro r w1 ⟨rfl, hb1⟩
  have HB1 := Lib.hid (below_below HB.out hb1 (by simp))
  have HV1 := Lib.hid (HV0.out.below hb1 (by simp))
  clear hb1
  go_wp2_with (refine wpList_loadV HV1.out hl rfl _ rfl rfl ?_)
  refine (H2.out _).mono ?_
  rintro r w2 ⟨rfl, hb2⟩
  have HB2 := Lib.hid (below_below HB1.out hb2 HB1.out.size)
  have HV2 := Lib.hid (HV1.out.below hb2 HV1.out.lt)
  clear hb2
  go_wp2_with (refine wpList_loadV HV2.out hl rfl _ rfl rfl ?_)
  refine (H3.out _).mono ?_
  rintro r w3 ⟨rfl, hb3⟩
  have HB3 := Lib.hid (below_below HB2.out hb3 HB2.out.size)
  have HV3 := Lib.hid (HV2.out.below hb3 HV2.out.lt)
  clear hb3
  have horE := fun w0 => orEmpty_any (w := w0) g
  have HOE := Lib.hid horE
  clear horE
  unfold hp at HOE
  go_wp2_with fail
  refine (HOE.out _).mono ?_
  rintro r w4 ⟨rfl, rfl⟩
  go_wp2_with fail
  refine (HBF.out _ HB3.out).mono ?_
  rintro r w4 ⟨A, c, rfl, hrd, m, rfl⟩
  have HB4 := Lib.hid (below_drewN' HB3.out m)
  have HV4 := Lib.hid (HV3.out.drewN m)
  have hlen := hrd.len
  have hcap := hrd.cap
  rw [bv_length] at hlen
  unfold maxLen at hcap
  have HRD := Lib.hid (hrd.drewN m)
  clear hrd
  have hh3 : w3.heap.size = (w3.drewN m).heap.size := rfl
  generalize w3.drewN m = w4 at *
  rw [hh3] at HRD
  clear hh3
  go_wp2_with (refine wpList_loadV HV4.out hl rfl _ rfl rfl ?_)
  refine (H5.out _).mono ?_
  rintro r w5 ⟨rfl, hb5⟩
  have HB5 := Lib.hid (below_below HB4.out hb5 HB4.out.size)
  have HV5 := Lib.hid (HV4.out.below hb5 HV4.out.lt)
  have HRD5 := Lib.hid (HRD.out.below hb5 (Nat.le_refl _))
  have HS5 := Lib.hid hb5.size
  clear hb5
  go_wp2_with (refine wpList_loadV HV5.out hl rfl _ rfl rfl ?_)
  refine (H5.out _).mono ?_
  rintro r w6 ⟨rfl, hb6⟩
  have HB6 := Lib.hid (below_below HB5.out hb6 HB5.out.size)
  have HV6 := Lib.hid (HV5.out.below hb6 HV5.out.lt)
  have HRD6 := Lib.hid (HRD5.out.below hb6 HS5.out)
  have HS6 := Lib.hid (Nat.le_trans HS5.out hb6.size)
  clear hb6
  have hcy : ¬ c = y := by omega
  have e1 : y + n - y = n := by omega
  have i1 : (y : Int) ≤ (y : Int) + (n : Int) := by omega
  have i2 : (y : Int) + (n : Int) ≤ (c : Int) := by omega
  have hcut := HRD6.out.cut (k := y) (n := y + n) (by omega) (by rw [bv_length]; exact hlt)
  rw [if_neg hcy, e1, ← bv_drop, ← bv_take, HZ.out] at hcut
  have HCUT := Lib.hid hcut
  clear hcut
  go_wp2_with (refine wpList_loadV HV6.out hl rfl _ rfl rfl ?_)
  refine (H6.out _).mono ?_
  rintro r w7 ⟨rfl, hb7⟩
  have HB7 := Lib.hid (below_below HB6.out hb7 HB6.out.size)
  have HRD7 := Lib.hid (HCUT.out.below hb7 HS6.out)
  have HS7 := Lib.hid (Nat.le_trans HS6.out hb7.size)
  have hcv := Lib.run_convert_string_bytes (P := Try.prog) w7 9 36 5 s Try.underlying9 Try.underlying36 Try.underlying5
  have hcap4 := grownCap_le_maxLen w7 s.size 0 5 (by simp only [maxLen]; omega)
  have hrd := bytesWorld_rd w7 5 s hcap4
  have hb8 := bytesWorld_below w7 5 s (Nat.le_refl _)
  have HB8 := Lib.hid (below_below HB7.out hb8 HB7.out.size)
  have HR8 := Lib.hid (HRD7.out.below hb8 HS7.out)
  rw [HSL.out] at hrd
  have HP8 := Lib.hid hrd
  have HS8 := Lib.hid (Nat.le_trans HS7.out hb8.size)
  clear hb7 hb8 hcap4 hrd
  have hpf := hasPrefix_len (n := n) (m := s.size) z (prefV l) true HR8.out HP8.out HZL.out (by rw [← HSL.out, Array.length_toList]; rfl) (by rw [HSS.out]; omega) (by rw [HSS.out]; exact decide_eq_true HPRE.out)
  have HPF := Lib.hid hpf
  clear hpf
  go_wp2_with fail
  refine HPF.out.mono ?_
  rintro r w8 ⟨rfl, rfl⟩
  go_wp2_with fail
  go_ret2
  exact ⟨_, _, rfl, HR8.out.wide (Nat.zero_le _) HS8.out, HB8.out⟩

/-- find, of whatever sixteen bytes -/
theorem find_any (h : Hp w lo g most bs es M) (l : List UInt8) (hl : l.length = 16) :
    Calls Try.prog 29 #[hp g, .agg (vb l)] w fun r w' => ∃ A c, r = .returned (.tuple #[.slice A (gotL bs es l).length c, .bool (findL bs es l).isSome]) ∧ Rd w' 0 w'.heap.size A c (bv (gotL bs es l)) ∧ Below w.heap.size w w' := by
  have none_of : ∀ {q : Option (List UInt8)}, q = none → Calls Try.prog 29 #[hp g, .agg (vb l)] w (fun r w' => r = .returned (.tuple #[.slice none 0 0, .bool false]) ∧ Below w.heap.size w w') →
      Calls Try.prog 29 #[hp g, .agg (vb l)] w fun r w' => ∃ A c, r = .returned (.tuple #[.slice A (q.getD []).length c, .bool q.isSome]) ∧ Rd w' 0 w'.heap.size A c (bv (q.getD [])) ∧ Below w.heap.size w w' := by
    intro q hq hc
    subst hq
    exact hc.mono fun r w' ⟨hr, hb⟩ => ⟨none, 0, hr, Rd.nil _ _ _, hb⟩
  unfold gotL findL
  by_cases hr : rightV l = true
  · rw [if_pos hr]
    by_cases hn : lenV l ≤ 12
    · rw [if_pos hn]
      exact find_short l hl hr hn
    · rw [if_neg hn]
      by_cases hk : bufV l < es.length
      · by_cases hlt : atV l + lenV l ≤ (bufL bs es (bufV l)).length
        · by_cases hpre : (((bufL bs es (bufV l)).drop (atV l)).take (lenV l)).take 4 = prefV l
          · rw [if_pos ⟨hlt, hpre⟩]
            have hfl : ((some (((bufL bs es (bufV l)).drop (atV l)).take (lenV l))).getD []).length = lenV l := by
              simp only [Option.getD_some, List.length_take, List.length_drop]; omega
            rw [hfl]
            exact find_there h l hl hr (by omega) hk hlt hpre
          · exact none_of (if_neg (fun h => hpre h.2)) (find_other h l hl hr (by omega) hk hlt hpre)
        · exact none_of (if_neg (fun h => hlt h.1)) (find_cut h l hl hr (by omega) hk (by omega))
      · have hz : (bufL bs es (bufV l)).length = 0 := by unfold bufL; rw [if_neg hk]; rfl
        exact none_of (if_neg (fun h => by omega)) (find_gone h l hl hr (by omega) (by omega))
  · exact none_of (if_neg hr) (find_wrong l hl (by simpa using hr))

theorem get_any (h : Hp w lo g most bs es M) (l : List UInt8) (hl : l.length = 16) :
    Calls Try.prog 12 #[hp g, .agg (vb l)] w fun r w' => r = .returned (.tuple #[.string ⟨(gotL bs es l).toArray⟩, .bool (findL bs es l).isSome]) ∧ Below w.heap.size w w' := by
  have hb := (Below.refl w.heap.size w).alloc (Nat.le_refl _) (.cells (vb l) 28)
  have h1 := find_any (h.below hb (Nat.le_refl _)) l hl
  generalize gotL bs es l = x at *
  generalize (findL bs es l).isSome = ok at *
  have H1 := Lib.hid h1
  have HB := Lib.hid hb
  clear h1 hb h
  unfold hp at H1 ⊢
  go_enter Try.func12, Try.ntmps12
  go_wp2_with (refine wpList_loadV (Blk.new _ _ _) hl rfl _ rfl rfl ?_)
  refine H1.out.mono ?_
  rintro r w1 ⟨A, c, rfl, hrd, hb1⟩
  have hst := run_string_rd (P := Try.prog) w1 36 9 5 Try.underlying36 Try.underlying5 Try.underlying9 0 w1.heap.size A c x hrd
  have HB1 := Lib.hid (below_below HB.out hb1 (by simp))
  clear hrd hb1
  go_wp2_with fail
  go_ret2
  exact ⟨rfl, HB1.out⟩
end
end Go.Proofs.Ytpainhgjiddpkaa
