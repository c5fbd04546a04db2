/-
  Views: Make, for whatever string and place.
-/
import Derived.Test.YtpainhgjiddpkaaVewB
import Derived.Laws.ResultCell
namespace Go.Proofs.Ytpainhgjiddpkaa
set_option linter.unusedSimpArgs false
set_option linter.unusedVariables false
open Go.RowKit

/-- a view and an error answered: the view lies in a variable -/
theorem results_cellV {fn : Func} {p u : Tmp} (h : fn.results = #[.cell p 28, .tmp u]) (tmps : Array Value) (w : World) (g : Nat) (l : List UInt8) (hp : tmps.getD p undef = .pointer (some ⟨g, 0, none⟩))
    (hb : Blk w g 28 (vb l)) (hl : l.length = 16) : (results fn tmps).run Try.prog w = .ok (.tuple #[.agg (vb l), tmps.getD u undef]) w := by
  have h1 := run_loadVar_row (P := Try.prog) w g 28 28 (vb l) (0, 0) _ hb Try.underlying28 rfl (sizeV (by rw [vb_size]; exact hl))
  rw [results_cell_tmp h, hp]
  simp only [asAddr, Sem.run_pure, Result.andThen_ok, h1]

theorem build_zero (w : World) : (Instr.build 28 #[]).run Try.prog w = .ok (.agg (vb zero16)) w := run_build w _ _ _ (by kernel_rfl)

set_option maxRecDepth 20000 in
set_option maxHeartbeats 400000 in
theorem make_short {w : World} (s : ByteArray) (b p : Int) (hs : s.size ≤ 12) :
    Calls Try.prog 27 #[.string s, .int .i64 b, .int .i64 p] w fun r w' => r = .returned (.tuple #[.agg (vb (shortL s.data.toList)), .int .i64 0]) ∧ Below w.heap.size w w' := by
  obtain ⟨hz, _⟩ := zero_of_info Try.infoV
  have h1 := vshortOf_any (w := w.alloc (.cells (vb zero16) 28)) s hs
  have hr0 := Blk.new w 28 (vb zero16)
  have hk0 := (Below.refl w.heap.size w).alloc (Nat.le_refl _) (.cells (vb zero16) 28)
  have hl := shortL_length (s := s.data.toList) (by rw [Array.length_toList]; exact hs)
  obtain ⟨v, hv⟩ : ∃ v, shortL s.data.toList = v := ⟨_, rfl⟩
  rw [hv] at h1 hl ⊢
  have H1 := Lib.hid h1
  have HR0 := Lib.hid hr0
  have HK0 := Lib.hid hk0
  have HL := Lib.hid hl
  clear h1 hr0 hk0 hl hv
  go_enter Try.func27, Try.ntmps27
  go_wp2_with fail
  refine H1.out.mono ?_
  rintro r w1 ⟨rfl, hb1⟩
  have HR := Lib.hid (HR0.out.below hb1 (by simp))
  have HK := Lib.hid (below_below HK0.out hb1 (by simp))
  clear hb1
  go_wp2_with (refine wpList_storeV HR.out zero16_length HL.out rfl _ _ rfl rfl rfl ?_)
  refine bodyPost_ret (v := .tuple #[.agg (vb v), .int .i64 0]) ?_ rfl ⟨rfl, setRowV_below HK.out HK.out.size (Nat.le_refl _) _⟩
  exact results_cellV (p := 6) (u := 7) rfl _ _ w.heap.size v rfl (setRowV_blk HR.out _) HL.out

set_option maxRecDepth 20000 in
set_option maxHeartbeats 400000 in
theorem make_great {w : World} (s : ByteArray) (b p : Int) (hs : 4096 < s.size) (hs2 : s.size ≤ 4611686018427387904) :
    Calls Try.prog 27 #[.string s, .int .i64 b, .int .i64 p] w fun r w' => r = .returned (.tuple #[.agg (vb zero16), .int .i64 1]) ∧ Below w.heap.size w w' := by
  obtain ⟨hz, _⟩ := zero_of_info Try.infoV
  have hbuild := build_zero
  have hr0 := Blk.new w 28 (vb zero16)
  have hk0 := (Below.refl w.heap.size w).alloc (Nat.le_refl _) (.cells (vb zero16) 28)
  have HR := Lib.hid hr0
  have HK := Lib.hid hk0
  clear hr0 hk0
  go_enter Try.func27, Try.ntmps27
  go_wp2_with (refine wpList_storeV HR.out zero16_length zero16_length rfl _ _ rfl rfl rfl ?_)
  refine bodyPost_ret (v := .tuple #[.agg (vb zero16), .int .i64 1]) ?_ rfl ⟨rfl, setRowV_below HK.out HK.out.size (Nat.le_refl _) _⟩
  exact results_cellV (p := 6) (u := 7) rfl _ _ w.heap.size zero16 rfl (setRowV_blk HR.out _) zero16_length

set_option maxRecDepth 20000 in
set_option maxHeartbeats 400000 in
theorem make_wrong {w : World} (s : ByteArray) (b p : Int) (hs : 12 < s.size) (hs2 : s.size ≤ 4096) (hm : ¬ mayL b p) :
    Calls Try.prog 27 #[.string s, .int .i64 b, .int .i64 p] w fun r w' => r = .returned (.tuple #[.agg (vb zero16), .int .i64 1]) ∧ Below w.heap.size w w' := by
  obtain ⟨hz, _⟩ := zero_of_info Try.infoV
  have hbuild := build_zero
  have hr0 := Blk.new w 28 (vb zero16)
  have hk0 := (Below.refl w.heap.size w).alloc (Nat.le_refl _) (.cells (vb zero16) 28)
  have h1 := maystand_any (w := w.alloc (.cells (vb zero16) 28)) b p
  rw [decide_eq_false hm] at h1
  have H1 := Lib.hid h1
  have HR := Lib.hid hr0
  have HK := Lib.hid hk0
  clear hr0 hk0 hm h1
  go_enter Try.func27, Try.ntmps27
  go_wp2_with fail
  refine H1.out.mono ?_
  rintro r w1 ⟨rfl, rfl⟩
  go_wp2_with (refine wpList_storeV HR.out zero16_length zero16_length rfl _ _ rfl rfl rfl ?_)
  refine bodyPost_ret (v := .tuple #[.agg (vb zero16), .int .i64 1]) ?_ rfl ⟨rfl, setRowV_below HK.out HK.out.size (Nat.le_refl _) _⟩
  exact results_cellV (p := 6) (u := 7) rfl _ _ w.heap.size zero16 rfl (setRowV_blk HR.out _) zero16_length

set_option maxRecDepth 20000 in
set_option maxHeartbeats 400000 in
theorem make_long {w : World} (s : ByteArray) (b p : Nat) (hs : 12 < s.size) (hs2 : s.size ≤ 4096) (hm : mayL b p) :
    Calls Try.prog 27 #[.string s, .int .i64 (b : Int), .int .i64 (p : Int)] w fun r w' => r = .returned (.tuple #[.agg (vb (longL s.data.toList b p)), .int .i64 0]) ∧ Below w.heap.size w w' := by
  obtain ⟨hz, _⟩ := zero_of_info Try.infoV
  have hr0 := Blk.new w 28 (vb zero16)
  have hk0 := (Below.refl w.heap.size w).alloc (Nat.le_refl _) (.cells (vb zero16) 28)
  have h1 := maystand_any (w := w.alloc (.cells (vb zero16) 28)) b p
  rw [decide_eq_true hm] at h1
  unfold mayL at hm
  have h2 := vlongOf_any (w := w.alloc (.cells (vb zero16) 28)) s b p hs hs2 (by omega) (by omega)
  have hl := longL_length (s := s.data.toList) (by rw [Array.length_toList]; exact Nat.le_trans (by omega) hs) b p
  obtain ⟨v, hv⟩ : ∃ v, longL s.data.toList b p = v := ⟨_, rfl⟩
  rw [hv] at h2 hl ⊢
  have H1 := Lib.hid h1
  have H2 := Lib.hid h2
  have HR0 := Lib.hid hr0
  have HK0 := Lib.hid hk0
  have HL := Lib.hid hl
  clear hr0 hk0 hm h1 h2 hl hv
  go_enter Try.func27, Try.ntmps27
  go_wp2_with fail
  refine H1.out.mono ?_
  rintro r w1 ⟨rfl, rfl⟩
  go_wp2_with fail
  refine H2.out.mono ?_
  rintro r w1 ⟨rfl, hb1⟩
  have HR := Lib.hid (HR0.out.below hb1 (by simp))
  have HK := Lib.hid (below_below HK0.out hb1 (by simp))
  clear hb1
  go_wp2_with (refine wpList_storeV HR.out zero16_length HL.out rfl _ _ rfl rfl rfl ?_)
  refine bodyPost_ret (v := .tuple #[.agg (vb v), .int .i64 0]) ?_ rfl ⟨rfl, setRowV_below HK.out HK.out.size (Nat.le_refl _) _⟩
  exact results_cellV (p := 6) (u := 7) rfl _ _ w.heap.size v rfl (setRowV_blk HR.out _) HL.out

theorem make_any {w : World} (s : ByteArray) (b p : Int) (hs2 : s.size ≤ 4611686018427387904) :
    Calls Try.prog 27 #[.string s, .int .i64 b, .int .i64 p] w fun r w' => r = .returned (.tuple #[.agg (vb (makeV s.data.toList b p).1), .int .i64 (makeV s.data.toList b p).2]) ∧ Below w.heap.size w w' := by
  have hsz : s.data.toList.length = s.size := by rw [Array.length_toList]; rfl
  unfold makeV
  rw [hsz]
  split
  · exact make_short s b p (by assumption)
  · split
    · rename_i h1 h2
      have h3 := h2.2
      unfold mayL at h3
      obtain ⟨bn, rfl⟩ := Int.eq_ofNat_of_zero_le h3.1
      obtain ⟨pn, rfl⟩ := Int.eq_ofNat_of_zero_le h3.2.2.1
      exact make_long s bn pn (by omega) h2.1 h2.2
    · rename_i h1 h2
      rcases Nat.lt_or_ge 4096 s.size with h3 | h3
      · exact make_great s b p h3 hs2
      · exact make_wrong s b p (by omega) h3 (fun h => h2 ⟨h3, h⟩)

end Go.Proofs.Ytpainhgjiddpkaa
