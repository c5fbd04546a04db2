/-
  Heaps: Add, of short strings, of those that are too long, of those for which there is no room, of long ones.
-/
import Derived.Test.YtpainhgjiddpkaaHepP
import Derived.Test.YtpainhgjiddpkaaVewC
namespace Go.Proofs.Ytpainhgjiddpkaa
set_option linter.unusedSimpArgs false
set_option linter.unusedVariables false
open Go.RowKit

set_option maxRecDepth 20000 in
set_option maxHeartbeats 1000000 in
theorem add_short {w : World} {lo g : Nat} {most : Int} {bs : List UInt8} {es : List Nat} {M : Nat → Prop} (h : Hp w lo g most bs es M) (s : ByteArray) (hs : s.size ≤ 12) :
    Calls Try.prog 11 #[hp g, .string s] w fun r w' => r = .returned (.tuple #[.agg (vb (shortL s.data.toList)), .int .i64 0]) ∧ Below w.heap.size w w' := by
  obtain ⟨hz, _⟩ := zero_of_info Try.infoV
  have hr0 := Blk.new w 28 (vb zero16)
  have hk0 := (Below.refl w.heap.size w).alloc (Nat.le_refl _) (.cells (vb zero16) 28)
  have h0 := h.below hk0 (Nat.le_refl _)
  have h1 := orEmpty_any (w := w.alloc (.cells (vb zero16) 28)) g
  have h2 := next_any h0 s.size (by omega)
  have h3 := fun w0 => make_any (w := w0) s ((nextL es s.size).1 : Int) ((nextL es s.size).2 : Int) (by omega)
  have e3 : ∀ b p, makeV s.data.toList b p = (shortL s.data.toList, 0) := fun b p => by unfold makeV; rw [if_pos (by rw [Array.length_toList]; exact hs)]
  simp only [e3] at h3
  have hl : (shortL s.data.toList).length = 16 := shortL_length (by rw [Array.length_toList]; exact hs)
  have h4 := fun w0 => vshort_any (w := w0) (shortL s.data.toList) hl
  rw [lenV_short (by rw [Array.length_toList]; exact hs), decide_eq_true (by rw [Array.length_toList]; exact hs)] at h4
  obtain ⟨v, hv⟩ : ∃ v, shortL s.data.toList = v := ⟨_, rfl⟩
  rw [hv] at h3 hl h4 ⊢
  generalize (nextL es s.size).1 = b at *
  generalize (nextL es s.size).2 = p at *
  have HR0 := Lib.hid hr0
  have HK0 := Lib.hid hk0
  have H1 := Lib.hid h1
  have H2 := Lib.hid h2
  have H3 := Lib.hid h3
  have H4 := Lib.hid h4
  have HL := Lib.hid hl
  clear hr0 hk0 h0 h1 h2 h3 h4 hl e3 hv h
  unfold hp at H1 H2 ⊢
  go_enter Try.func11, Try.ntmps11
  go_wp2_with fail
  refine H1.out.mono ?_
  rintro r w1 ⟨rfl, rfl⟩
  go_wp2_with fail
  refine H2.out.mono ?_
  rintro r w1 ⟨rfl, m, rfl⟩
  have hr1 := HR0.out.drewN m
  have hk1 := below_drewN' HK0.out m
  generalize (w.alloc (.cells (vb zero16) 28)).drewN m = w1 at *
  have HR1 := Lib.hid hr1
  have HK1 := Lib.hid hk1
  clear hr1 hk1
  go_wp2_with fail
  refine (H3.out _).mono ?_
  rintro r w2 ⟨rfl, hb⟩
  have HR2 := Lib.hid (HR1.out.below hb HR1.out.lt)
  have HK2 := Lib.hid (below_below HK1.out hb HK1.out.size)
  have hq0 := Blk.new w2 28 (vb zero16)
  have hr3 : Blk (w2.alloc (.cells (vb zero16) 28)) w.heap.size 28 (vb zero16) := HR2.out.alloc _
  have hk3 : Below w.heap.size w (w2.alloc (.cells (vb zero16) 28)) := HK2.out.alloc HK2.out.size _
  have hne : w.heap.size ≠ w2.heap.size := Nat.ne_of_lt HR2.out.lt
  have hr4 := setRowV_far hr3 hne (vb v)
  have hq4 := setRowV_blk hq0 (vb v)
  have hk4 := setRowV_below hk3 hk3.size (g := w2.heap.size) HK2.out.size (vb v)
  have HQ0 := Lib.hid hq0
  have HR4 := Lib.hid hr4
  have HQ4 := Lib.hid hq4
  have HK4 := Lib.hid hk4
  clear hb hq0 hr3 hk3 hne hr4 hq4 hk4
  go_wp2_with (refine wpList_storeV HQ0.out zero16_length HL.out rfl _ _ rfl rfl rfl ?_; refine held ?_)
  refine ⟨?_⟩
  generalize (w2.alloc (.cells (vb zero16) 28)).setRow w2.heap.size (vb v) = w4 at *
  generalize w2.heap.size = q at *
  clear HQ0
  go_wp2_with (refine wpList_loadG HQ4.out HL.out (by first | rfl | (go_simp; done) | (go_simp; omega)) _ rfl rfl ?_)
  refine (H4.out _).mono ?_
  rintro r w5 ⟨rfl, hb⟩
  have HR5 := Lib.hid (HR4.out.below hb HR4.out.lt)
  have HQ5 := Lib.hid (HQ4.out.below hb HQ4.out.lt)
  have HK5 := Lib.hid (below_below HK4.out hb HK4.out.size)
  clear hb
  go_wp2_with (first | (refine wpList_loadV HQ5.out HL.out rfl _ rfl rfl ?_) | (refine wpList_storeV HR5.out zero16_length HL.out rfl _ _ rfl rfl rfl ?_))
  refine bodyPost_ret (v := .tuple #[.agg (vb v), .int .i64 0]) ?_ rfl ⟨rfl, setRowV_below HK5.out HK5.out.size (Nat.le_refl _) _⟩
  exact results_cellV (p := 4) (u := 5) rfl _ _ w.heap.size v rfl (setRowV_blk HR5.out _) HL.out

/- what follows is printed by wip/tools/genadd.py -/
set_option maxRecDepth 20000 in
set_option maxHeartbeats 2000000 in
theorem add_great {w : World} {lo g : Nat} {most : Int} {bs : List UInt8} {es : List Nat} {M : Nat → Prop} (h : Hp w lo g most bs es M) (s : ByteArray) (hs : 4096 < s.size) (hs2 : s.size ≤ 100000) :
    Calls Try.prog 11 #[hp g, .string s] w fun r w' => r = .returned (.tuple #[.agg (vb zero16), .int .i64 1]) ∧ Below w.heap.size w w' := by
  obtain ⟨hz, _⟩ := zero_of_info Try.infoV
  have hr0 := Blk.new w 28 (vb zero16)
  have hk0 := (Below.refl w.heap.size w).alloc (Nat.le_refl _) (.cells (vb zero16) 28)
  have h0 := h.below hk0 (Nat.le_refl _)
  have h1 := orEmpty_any (w := w.alloc (.cells (vb zero16) 28)) g
  have h2 := next_any h0 s.size (by omega)
  have hsz : s.data.toList.length = s.size := by rw [Array.length_toList]; rfl
  have h3 := fun w0 => make_great (w := w0) s ((nextL es s.size).1 : Int) ((nextL es s.size).2 : Int) hs (by omega)
  obtain ⟨v, hv⟩ : ∃ v, zero16 = v := ⟨_, rfl⟩
  have hl : v.length = 16 := by rw [← hv]; rfl
  rw [hv] at h3
  rw [show Value.agg (vb zero16) = Value.agg (vb v) from by rw [hv]]
  generalize (nextL es s.size).1 = b at *
  generalize (nextL es s.size).2 = p at *
  have HP := Lib.hid h
  have HR0 := Lib.hid hr0
  have HK0 := Lib.hid hk0
  have H1 := Lib.hid h1
  have H2 := Lib.hid h2
  have H3 := Lib.hid h3
  have HL := Lib.hid hl
  clear hr0 hk0 h0 h1 h2 h3 hl hv h hsz
  unfold hp at H1 H2 ⊢
  go_enter Try.func11, Try.ntmps11
  go_wp2_with fail
  refine H1.out.mono ?_
  rintro r w1 ⟨rfl, rfl⟩
  go_wp2_with fail
  refine H2.out.mono ?_
  rintro r w1 ⟨rfl, m, rfl⟩
  have hr1 := HR0.out.drewN m
  have hk1 := below_drewN' HK0.out m
  generalize (w.alloc (.cells (vb zero16) 28)).drewN m = w1 at *
  have HR1 := Lib.hid hr1
  have HK1 := Lib.hid hk1
  clear hr1 hk1
  go_wp2_with fail
  refine (H3.out _).mono ?_
  rintro r w2 ⟨rfl, hb⟩
  have HR2 := Lib.hid (HR1.out.below hb HR1.out.lt)
  have HK2 := Lib.hid (below_below HK1.out hb HK1.out.size)
  have hq0 := Blk.new w2 28 (vb zero16)
  have hr3 : Blk (w2.alloc (.cells (vb zero16) 28)) w.heap.size 28 (vb zero16) := HR2.out.alloc _
  have hk3 : Below w.heap.size w (w2.alloc (.cells (vb zero16) 28)) := HK2.out.alloc HK2.out.size _
  have hne : w.heap.size ≠ w2.heap.size := Nat.ne_of_lt HR2.out.lt
  have hr4 := setRowV_far hr3 hne (vb v)
  have hq4 := setRowV_blk hq0 (vb v)
  have hk4 := setRowV_below hk3 hk3.size (g := w2.heap.size) HK2.out.size (vb v)
  have hlt := HR2.out.lt
  have HQ0 := Lib.hid hq0
  have HR4 := Lib.hid hr4
  have HQ4 := Lib.hid hq4
  have HK4 := Lib.hid hk4
  have HLT := Lib.hid hlt
  clear hb hq0 hr3 hk3 hne hr4 hq4 hk4 hlt
  go_wp2_with (refine wpList_storeV HQ0.out zero16_length HL.out rfl _ _ rfl rfl rfl ?_; refine held ?_)
  refine ⟨?_⟩
  generalize (w2.alloc (.cells (vb zero16) 28)).setRow w2.heap.size (vb v) = w4 at *
  generalize w2.heap.size = q at *
  clear HQ0
  go_wp2_with (first | (refine wpList_loadV HQ4.out HL.out rfl _ rfl rfl ?_) | (refine wpList_storeV HR4.out zero16_length HL.out rfl _ _ rfl rfl rfl ?_))
  refine bodyPost_ret (v := .tuple #[.agg (vb v), .int .i64 1]) ?_ rfl ⟨rfl, setRowV_below HK4.out HK4.out.size (Nat.le_refl _) _⟩
  exact results_cellV (p := 4) (u := 5) rfl _ _ w.heap.size v rfl (setRowV_blk HR4.out _) HL.out

set_option maxRecDepth 20000 in
set_option maxHeartbeats 2000000 in
theorem add_full {w : World} {lo g : Nat} {most : Int} {bs : List UInt8} {es : List Nat} {M : Nat → Prop} (h : Hp w lo g most bs es M) (s : ByteArray) (hs : 12 < s.size) (hs2 : s.size ≤ 4096) (hes : es.length < 60000) (hfull : most - (bs.length : Int) < (s.size : Int)) (hmo : 0 ≤ most ∧ most ≤ 9223372036854775807) :
    Calls Try.prog 11 #[hp g, .string s] w fun r w' => r = .returned (.tuple #[.agg (vb zero16), .int .i64 6]) ∧ Below w.heap.size w w' := by
  obtain ⟨hz, _⟩ := zero_of_info Try.infoV
  have hr0 := Blk.new w 28 (vb zero16)
  have hk0 := (Below.refl w.heap.size w).alloc (Nat.le_refl _) (.cells (vb zero16) 28)
  have h0 := h.below hk0 (Nat.le_refl _)
  have h1 := orEmpty_any (w := w.alloc (.cells (vb zero16) 28)) g
  have h2 := next_any h0 s.size (by omega)
  have hsz : s.data.toList.length = s.size := by rw [Array.length_toList]; rfl
  obtain ⟨hsp1, hsp2, hsp3⟩ := nextL_spot h.ends s.size
  have hle : (nextL es s.size).1 ≤ es.length := by omega
  have hm : mayL ((nextL es s.size).1 : Int) ((nextL es s.size).2 : Int) := by unfold mayL; omega
  have h3 := fun w0 => make_long (w := w0) s (nextL es s.size).1 (nextL es s.size).2 hs hs2 hm
  have hl := longL_length (s := s.data.toList) (by omega) (nextL es s.size).1 (nextL es s.size).2
  have h4 := fun w0 => vshort_any (w := w0) (longL s.data.toList (nextL es s.size).1 (nextL es s.size).2) hl
  rw [lenV_long (by omega), decide_eq_false (by omega)] at h4
  obtain ⟨v, hv⟩ : ∃ v, longL s.data.toList (nextL es s.size).1 (nextL es s.size).2 = v := ⟨_, rfl⟩
  rw [hv] at h3 hl h4
  generalize (nextL es s.size).1 = b at *
  generalize (nextL es s.size).2 = p at *
  clear hsp1 hsp2 hsp3 hm
  have H4 := Lib.hid h4
  clear h4
  have hbuild := build_zero
  have HP := Lib.hid h
  have HR0 := Lib.hid hr0
  have HK0 := Lib.hid hk0
  have H1 := Lib.hid h1
  have H2 := Lib.hid h2
  have H3 := Lib.hid h3
  have HL := Lib.hid hl
  clear hr0 hk0 h0 h1 h2 h3 hl hv h hsz
  unfold hp at H1 H2 ⊢
  go_enter Try.func11, Try.ntmps11
  go_wp2_with fail
  refine H1.out.mono ?_
  rintro r w1 ⟨rfl, rfl⟩
  go_wp2_with fail
  refine H2.out.mono ?_
  rintro r w1 ⟨rfl, m, rfl⟩
  have hr1 := HR0.out.drewN m
  have hk1 := below_drewN' HK0.out m
  generalize (w.alloc (.cells (vb zero16) 28)).drewN m = w1 at *
  have HR1 := Lib.hid hr1
  have HK1 := Lib.hid hk1
  clear hr1 hk1
  go_wp2_with fail
  refine (H3.out _).mono ?_
  rintro r w2 ⟨rfl, hb⟩
  have HR2 := Lib.hid (HR1.out.below hb HR1.out.lt)
  have HK2 := Lib.hid (below_below HK1.out hb HK1.out.size)
  have hq0 := Blk.new w2 28 (vb zero16)
  have hr3 : Blk (w2.alloc (.cells (vb zero16) 28)) w.heap.size 28 (vb zero16) := HR2.out.alloc _
  have hk3 : Below w.heap.size w (w2.alloc (.cells (vb zero16) 28)) := HK2.out.alloc HK2.out.size _
  have hne : w.heap.size ≠ w2.heap.size := Nat.ne_of_lt HR2.out.lt
  have hr4 := setRowV_far hr3 hne (vb v)
  have hq4 := setRowV_blk hq0 (vb v)
  have hk4 := setRowV_below hk3 hk3.size (g := w2.heap.size) HK2.out.size (vb v)
  have hlt := HR2.out.lt
  have HQ0 := Lib.hid hq0
  have HR4 := Lib.hid hr4
  have HQ4 := Lib.hid hq4
  have HK4 := Lib.hid hk4
  have HLT := Lib.hid hlt
  clear hb hq0 hr3 hk3 hne hr4 hq4 hk4 hlt
  go_wp2_with (refine wpList_storeV HQ0.out zero16_length HL.out rfl _ _ rfl rfl rfl ?_; refine held ?_)
  refine ⟨?_⟩
  generalize (w2.alloc (.cells (vb zero16) 28)).setRow w2.heap.size (vb v) = w4 at *
  generalize w2.heap.size = q at *
  clear HQ0
  go_wp2_with (refine wpList_loadG HQ4.out HL.out (by first | rfl | (go_simp; done) | (go_simp; omega)) _ rfl rfl ?_)
  refine (H4.out _).mono ?_
  rintro r w5 ⟨rfl, hb⟩
  have HR5 := Lib.hid (HR4.out.below hb HR4.out.lt)
  have HQ5 := Lib.hid (HQ4.out.below hb HQ4.out.lt)
  have HK5 := Lib.hid (below_below HK4.out hb HK4.out.size)
  have hp5 := HP.out.below HK5.out (Nat.le_refl _)
  have hlt5 := HR5.out.lt
  have hfew := HP.out.few
  obtain ⟨A, c, A2, c2, c0, c1, _, _, _⟩ := hp5.cells
  have HP5 := Lib.hid hp5
  clear hb hp5
  go_wp2_with fail
  go_quiet (fail)
  have HR6 := Lib.hid (HR5.out.drewN 1)
  have HK6 := Lib.hid (below_drewN' HK5.out 1)
  go_wp2_with (refine wpList_storeV (HR5.out.drewN _) zero16_length zero16_length rfl _ _ rfl rfl rfl ?_)
  refine bodyPost_ret (v := .tuple #[.agg (vb zero16), .int .i64 6]) ?_ rfl ⟨rfl, setRowV_below (below_drewN' HK5.out _) HK5.out.size (Nat.le_refl _) _⟩
  exact results_cellV (p := 4) (u := 5) rfl _ _ w.heap.size zero16 rfl (setRowV_blk (HR5.out.drewN _) _) zero16_length

set_option maxRecDepth 20000 in
set_option maxHeartbeats 2000000 in
theorem add_long {w : World} {lo g : Nat} {most : Int} {bs : List UInt8} {es : List Nat} {M : Nat → Prop} (h : Hp w lo g most bs es M) (s : ByteArray) (hs : 12 < s.size) (hs2 : s.size ≤ 4096) (hes : es.length < 60000) (hroom : (s.size : Int) ≤ most - (bs.length : Int)) (hmo : 0 ≤ most ∧ most ≤ 9223372036854775807) (hbs : bs.length + s.size ≤ 1000000) :
    Calls Try.prog 11 #[hp g, .string s] w fun r w' => r = .returned (.tuple #[.agg (vb (longL s.data.toList (nextL es s.size).1 (nextL es s.size).2)), .int .i64 0]) ∧ ∃ M', Hp w' lo g most (bs ++ s.data.toList) (addE es (nextL es s.size).1 (bs.length + s.size)) M' ∧ Out w w' M ∧ ∀ i, M' i → M i ∨ w.heap.size ≤ i := by
  obtain ⟨hz, _⟩ := zero_of_info Try.infoV
  have hr0 := Blk.new w 28 (vb zero16)
  have hk0 := (Below.refl w.heap.size w).alloc (Nat.le_refl _) (.cells (vb zero16) 28)
  have h0 := h.below hk0 (Nat.le_refl _)
  have h1 := orEmpty_any (w := w.alloc (.cells (vb zero16) 28)) g
  have h2 := next_any h0 s.size (by omega)
  have hsz : s.data.toList.length = s.size := by rw [Array.length_toList]; rfl
  obtain ⟨hsp1, hsp2, hsp3⟩ := nextL_spot h.ends s.size
  have hle : (nextL es s.size).1 ≤ es.length := by omega
  have hm : mayL ((nextL es s.size).1 : Int) ((nextL es s.size).2 : Int) := by unfold mayL; omega
  have h3 := fun w0 => make_long (w := w0) s (nextL es s.size).1 (nextL es s.size).2 hs hs2 hm
  have hl := longL_length (s := s.data.toList) (by omega) (nextL es s.size).1 (nextL es s.size).2
  have h4 := fun w0 => vshort_any (w := w0) (longL s.data.toList (nextL es s.size).1 (nextL es s.size).2) hl
  rw [lenV_long (by omega), decide_eq_false (by omega)] at h4
  obtain ⟨v, hv⟩ : ∃ v, longL s.data.toList (nextL es s.size).1 (nextL es s.size).2 = v := ⟨_, rfl⟩
  rw [hv] at h3 hl h4 ⊢
  generalize (nextL es s.size).1 = b at *
  generalize (nextL es s.size).2 = p at *
  clear hsp1 hsp2 hsp3 hm
  have H4 := Lib.hid h4
  clear h4
  have HP := Lib.hid h
  have HR0 := Lib.hid hr0
  have HK0 := Lib.hid hk0
  have H1 := Lib.hid h1
  have H2 := Lib.hid h2
  have H3 := Lib.hid h3
  have HL := Lib.hid hl
  clear hr0 hk0 h0 h1 h2 h3 hl hv h hsz
  unfold hp at H1 H2 ⊢
  go_enter Try.func11, Try.ntmps11
  go_wp2_with fail
  refine H1.out.mono ?_
  rintro r w1 ⟨rfl, rfl⟩
  go_wp2_with fail
  refine H2.out.mono ?_
  rintro r w1 ⟨rfl, m, rfl⟩
  have hr1 := HR0.out.drewN m
  have hk1 := below_drewN' HK0.out m
  generalize (w.alloc (.cells (vb zero16) 28)).drewN m = w1 at *
  have HR1 := Lib.hid hr1
  have HK1 := Lib.hid hk1
  clear hr1 hk1
  go_wp2_with fail
  refine (H3.out _).mono ?_
  rintro r w2 ⟨rfl, hb⟩
  have HR2 := Lib.hid (HR1.out.below hb HR1.out.lt)
  have HK2 := Lib.hid (below_below HK1.out hb HK1.out.size)
  have hq0 := Blk.new w2 28 (vb zero16)
  have hr3 : Blk (w2.alloc (.cells (vb zero16) 28)) w.heap.size 28 (vb zero16) := HR2.out.alloc _
  have hk3 : Below w.heap.size w (w2.alloc (.cells (vb zero16) 28)) := HK2.out.alloc HK2.out.size _
  have hne : w.heap.size ≠ w2.heap.size := Nat.ne_of_lt HR2.out.lt
  have hr4 := setRowV_far hr3 hne (vb v)
  have hq4 := setRowV_blk hq0 (vb v)
  have hk4 := setRowV_below hk3 hk3.size (g := w2.heap.size) HK2.out.size (vb v)
  have hlt := HR2.out.lt
  have HQ0 := Lib.hid hq0
  have HR4 := Lib.hid hr4
  have HQ4 := Lib.hid hq4
  have HK4 := Lib.hid hk4
  have HLT := Lib.hid hlt
  clear hb hq0 hr3 hk3 hne hr4 hq4 hk4 hlt
  go_wp2_with (refine wpList_storeV HQ0.out zero16_length HL.out rfl _ _ rfl rfl rfl ?_; refine held ?_)
  refine ⟨?_⟩
  generalize (w2.alloc (.cells (vb zero16) 28)).setRow w2.heap.size (vb v) = w4 at *
  generalize w2.heap.size = q at *
  clear HQ0
  go_wp2_with (refine wpList_loadG HQ4.out HL.out (by first | rfl | (go_simp; done) | (go_simp; omega)) _ rfl rfl ?_)
  refine (H4.out _).mono ?_
  rintro r w5 ⟨rfl, hb⟩
  have HR5 := Lib.hid (HR4.out.below hb HR4.out.lt)
  have HQ5 := Lib.hid (HQ4.out.below hb HQ4.out.lt)
  have HK5 := Lib.hid (below_below HK4.out hb HK4.out.size)
  have hp5 := HP.out.below HK5.out (Nat.le_refl _)
  have hlt5 := HR5.out.lt
  have hfew := HP.out.few
  obtain ⟨A, c, A2, c2, c0, c1, _, _, _⟩ := hp5.cells
  have HP5 := Lib.hid hp5
  clear hb hp5
  go_wp2_with fail
  go_quiet (fail)
  have hput := fun n => put_any (HP5.out.drewN n) s b hle hbs (by omega) (by have := (HP.out.mine g HP.out.has); show lo ≤ w5.heap.size; omega)
  have HPUT := Lib.hid hput
  clear hput
  unfold hp at HPUT
  go_wp2_with fail
  refine (HPUT.out _).mono ?_
  rintro r w6 ⟨rfl, M', hp6, ho6, hm6⟩
  have ho5 : Out w w6 M := ((Out.of_below (X := M) HK5.out).drewN _).trans ho6 (fun _ _ h => h)
  have hnm : ¬ M w.heap.size := fun hx => by have := (HP.out.mine _ hx).2; omega
  have hnq : ¬ M q := fun hx => by have := (HP.out.mine _ hx).2; have := HLT.out; omega
  have HR6 := Lib.hid ((HR5.out.drewN _).out ho6 hnm)
  have HQ6 := Lib.hid ((HQ5.out.drewN _).out ho6 hnq)
  have HO5 := Lib.hid ho5
  have HP6 := Lib.hid hp6
  have HM6 := Lib.hid hm6
  clear ho5 hp6 ho6 hm6
  go_wp2_with (first | (refine wpList_loadV HQ6.out HL.out rfl _ rfl rfl ?_) | (refine wpList_storeV HR6.out zero16_length HL.out rfl _ _ rfl rfl rfl ?_))
  have hnew : ∀ i, M' i → M i ∨ w.heap.size < i := fun i hi => by
    rcases HM6.out i hi with h | h
    · exact .inl h
    · right; have h' : w5.heap.size ≤ i := h; omega
  refine bodyPost_ret (v := .tuple #[.agg (vb v), .int .i64 0]) ?_ rfl ⟨rfl, M', HP6.out.keep (by simp) (fun i hi => setRow_other _ _ _ _ (fun e => ?_)), HO5.out.setRow (.inr (Nat.le_refl _)) _, fun i hi => ?_⟩
  · exact results_cellV (p := 4) (u := 5) rfl _ _ w.heap.size v rfl (setRowV_blk HR6.out _) HL.out
  · rcases hnew i hi with h | h
    · have := (HP.out.mine i h).2; omega
    · omega
  · rcases hnew i hi with h | h
    · exact .inl h
    · right; omega
end Go.Proofs.Ytpainhgjiddpkaa
