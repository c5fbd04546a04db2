/-
  ViewApart where the first string is long.
-/
import Derived.Test.YtoimomcmbkclpaaVApA
namespace Go.Proofs.Ytoimomcmbkclpaa
set_option linter.unusedSimpArgs false
set_option linter.unusedVariables false
open Go.RowKit

set_option maxRecDepth 20000 in
set_option maxHeartbeats 4000000 in
theorem viewApart_long {w : World} (a b : ByteArray) (ha : 12 < a.size) (ha2 : a.size ≤ 4096) (hb : b.size ≤ 4096) (x y : Nat) (hx : x < 65536) (hy : y < 65536) :
    Calls Try.prog 5 #[.string a, .string b, .int .u16 (x : Int), .int .u16 (y : Int)] w fun e w' => e = .returned (.bool true) ∧ Below w.heap.size w w' := by
  obtain ⟨hz, _⟩ := zero_of_info Try.infoV
  obtain ⟨v, hv, hvl, hvr, hvn, hvp, hvs, hvg⟩ := makeV_good a.data.toList x y (by rw [size_list]; omega) hx hy
  obtain ⟨u, hu, hul, hur, hun, hup, hus, hug⟩ := makeV_good b.data.toList x y (by rw [size_list]; omega) hx hy
  rw [size_list] at hvn hvs hvg hun hus hug
  have h1 := fun w0 => make_any (w := w0) a (x : Int) (y : Int) (by omega)
  have h2 := fun w0 => make_any (w := w0) b (x : Int) (y : Int) (by omega)
  rw [hv] at h1
  rw [hu] at h2
  have h3 := fun w0 => vright_any (w := w0) v hvl
  have h4 := fun w0 => vright_any (w := w0) u hul
  rw [hvr] at h3
  rw [hur] at h4
  have h5 := fun w0 => vlen_any (w := w0) v hvl
  rw [hvn] at h5
  have h6 := fun w0 => vprefix_any (w := w0) v hvl
  rw [hvp] at h6
  have h7 := fun w0 => vplace_any (w := w0) v hvl
  obtain ⟨e3, e4⟩ := hvg ha
  rw [e3, e4] at h7
  have heq := fun w0 => run_eqV w0 v u hvl hul
  have hguard := guardV
  obtain ⟨s4, hs4⟩ : ∃ s4 : ByteArray, ⟨(a.data.toList.take 4).toArray⟩ = s4 := ⟨_, rfl⟩
  rw [hs4] at h6
  have hz4 : s4.size = min 4 a.size := by
    rw [← hs4, ← size_list a, ← List.length_take]
    show (a.data.toList.take 4).toArray.size = _
    rw [List.size_toArray]
  have hcut : a.extract 0 s4.size = s4 := by rw [hz4, cut_min, hs4]
  have hs4a : a.size < 4 → s4 = a := fun h => by
    rw [← hcut, hz4, Nat.min_eq_right (by omega)]
    exact ByteArray.extract_zero_size
  have H1 := Lib.hid h1
  have H2 := Lib.hid h2
  have H3 := Lib.hid h3
  have H4 := Lib.hid h4
  have H5 := Lib.hid h5
  have H6 := Lib.hid h6
  have H7 := Lib.hid h7
  have HVL := Lib.hid hvl
  have HUL := Lib.hid hul
  have HZ4 := Lib.hid hz4
  have HCUT := Lib.hid hcut
  have HS4A := Lib.hid hs4a
  have HEQ := Lib.hid heq
  clear h1 h2 h3 h4 h5 h6 h7 e3 e4 hv hvl hvr hvn hvp hvs hvg hu hul hur hun hup hus hug hs4 hz4 hcut heq hs4a
  go_enter Try.func5, Try.ntmps5
  go_wp2_with fail
  refine (awake6_any _).mono ?_
  rintro r w1 ⟨rfl, hb1⟩
  have HB1 := Lib.hid hb1
  clear hb1
  go_wp2_with fail
  refine (H1.out _).mono ?_
  rintro r w2 ⟨rfl, hb2⟩
  have HB2 := Lib.hid (below_below HB1.out hb2 HB1.out.size)
  have hq := Blk.new w2 23 (vb zero16)
  have hk : Below w.heap.size w (w2.alloc (.cells (vb zero16) 23)) := HB2.out.alloc HB2.out.size _
  have hq3 := setRowV_blk hq (vb v)
  have hk3 := setRowV_below hk hk.size HB2.out.size (vb v)
  have HQ := Lib.hid hq
  have X3 := Lib.hid hq3
  have K3 := Lib.hid hk3
  clear hb2 hq hk hq3 hk3
  go_wp2_with (refine wpList_storeV HQ.out zero16_length HVL.out rfl _ _ rfl rfl rfl ?_; refine held ?_)
  refine ⟨?_⟩
  generalize (w2.alloc (.cells (vb zero16) 23)).setRow w2.heap.size (vb v) = w3 at *
  generalize w2.heap.size = g at *
  clear HQ HB2
  go_wp2_with fail
  refine (H2.out _).mono ?_
  rintro r w4 ⟨rfl, hb4⟩
  have hx4 := X3.out.below hb4 X3.out.lt
  have HB4 := Lib.hid (below_below K3.out hb4 K3.out.size)
  have hq := Blk.new w4 23 (vb zero16)
  have hk : Below w.heap.size w (w4.alloc (.cells (vb zero16) 23)) := HB4.out.alloc HB4.out.size _
  have hx5 := setRowV_far (k := w4.heap.size) (hx4.alloc (.cells (vb zero16) 23)) (Nat.ne_of_lt hx4.lt) (vb u)
  have hy5 := setRowV_blk hq (vb u)
  have hk5 := setRowV_below hk hk.size HB4.out.size (vb u)
  have HQ := Lib.hid hq
  have X5 := Lib.hid hx5
  have Y5 := Lib.hid hy5
  have K5 := Lib.hid hk5
  clear hb4 hx4 hq hk hx5 hy5 hk5
  go_wp2_with (refine wpList_storeV HQ.out zero16_length HUL.out rfl _ _ rfl rfl rfl ?_; refine held ?_)
  refine ⟨?_⟩
  generalize (w4.alloc (.cells (vb zero16) 23)).setRow w4.heap.size (vb u) = w5 at *
  generalize w4.heap.size = g2 at *
  clear HQ HB4
  go_wp2_with (first | (refine wpList_loadG X5.out HVL.out (by first | rfl | (go_simp; done) | (go_simp; omega)) _ rfl rfl ?_) | (refine wpList_loadG Y5.out HUL.out (by first | rfl | (go_simp; done) | (go_simp; omega)) _ rfl rfl ?_))
  refine (H3.out _).mono ?_
  rintro r w6 ⟨rfl, hb0⟩
  have X6 := Lib.hid (X5.out.below hb0 X5.out.lt)
  have Y6 := Lib.hid (Y5.out.below hb0 Y5.out.lt)
  have K6 := Lib.hid (below_below K5.out hb0 K5.out.size)
  clear hb0
  go_wp2_with (first | (refine wpList_loadG X6.out HVL.out (by first | rfl | (go_simp; done) | (go_simp; omega)) _ rfl rfl ?_) | (refine wpList_loadG Y6.out HUL.out (by first | rfl | (go_simp; done) | (go_simp; omega)) _ rfl rfl ?_))
  refine (H4.out _).mono ?_
  rintro r w7 ⟨rfl, hb0⟩
  have X7 := Lib.hid (X6.out.below hb0 X6.out.lt)
  have Y7 := Lib.hid (Y6.out.below hb0 Y6.out.lt)
  have K7 := Lib.hid (below_below K6.out hb0 K6.out.size)
  clear hb0
  go_wp2_with (first | (refine wpList_loadG X7.out HVL.out (by first | rfl | (go_simp; done) | (go_simp; omega)) _ rfl rfl ?_) | (refine wpList_loadG Y7.out HUL.out (by first | rfl | (go_simp; done) | (go_simp; omega)) _ rfl rfl ?_))
  refine (H5.out _).mono ?_
  rintro r w8 ⟨rfl, hb0⟩
  have X8 := Lib.hid (X7.out.below hb0 X7.out.lt)
  have Y8 := Lib.hid (Y7.out.below hb0 Y7.out.lt)
  have K8 := Lib.hid (below_below K7.out hb0 K7.out.size)
  clear hb0
  go_wp2_with (first | (refine wpList_loadG X8.out HVL.out (by first | rfl | (go_simp; done) | (go_simp; omega)) _ rfl rfl ?_) | (refine wpList_loadG Y8.out HUL.out (by first | rfl | (go_simp; done) | (go_simp; omega)) _ rfl rfl ?_))
  refine (H6.out _).mono ?_
  rintro r w9 ⟨rfl, hb0⟩
  have X9 := Lib.hid (X8.out.below hb0 X8.out.lt)
  have Y9 := Lib.hid (Y8.out.below hb0 Y8.out.lt)
  have K9 := Lib.hid (below_below K8.out hb0 K8.out.size)
  clear hb0
  have hcut := HCUT.out
  have hz1 : (4 : Int) ≤ (s4.size : Int) := by rw [HZ4.out]; omega
  have hz2 : (s4.size : Int) ≤ 4 := by rw [HZ4.out]; omega
  have hz3 : (s4.size : Int) ≤ (a.size : Int) := by rw [HZ4.out]; omega
  go_wp2_with (first | (refine wpList_loadG X9.out HVL.out (by first | rfl | (go_simp; done) | (go_simp; omega)) _ rfl rfl ?_) | (refine wpList_loadG Y9.out HUL.out (by first | rfl | (go_simp; done) | (go_simp; omega)) _ rfl rfl ?_))
  refine (H7.out _).mono ?_
  rintro r w10 ⟨rfl, hb0⟩
  have X10 := Lib.hid (X9.out.below hb0 X9.out.lt)
  have Y10 := Lib.hid (Y9.out.below hb0 Y9.out.lt)
  have K10 := Lib.hid (below_below K9.out hb0 K9.out.size)
  clear hb0
  go_wp2_with fail
  go_ret
  exact ⟨rfl, K10.out⟩

end Go.Proofs.Ytoimomcmbkclpaa
