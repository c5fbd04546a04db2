/-
  ViewMakes where a view is made: of short strings, and of long ones with a place that may be.
-/
import Derived.Test.YtoimomcmbkclpaaAwaV
import Derived.Deep.DeepCutAuto
namespace Go.Proofs.Ytoimomcmbkclpaa
set_option linter.unusedSimpArgs false
set_option linter.unusedVariables false
open Go.RowKit

/-- a slice's length -/
def slen : Value → Nat
  | .slice _ n _ => n
  | _ => 0

set_option maxRecDepth 20000 in
set_option maxHeartbeats 1000000 in
theorem viewMakes_short {w : World} (s : ByteArray) (hs : s.size ≤ 12) (b p : Int) :
    Calls Try.prog 3 #[.string s, .int .i64 b, .int .i64 p] w fun e w' => e = .returned (.bool true) ∧ Below w.heap.size w w' := by
  obtain ⟨hz, _⟩ := zero_of_info Try.infoV
  have hsz : Hid (s.data.toList.length = s.size) := by unfold Hid; rw [Array.length_toList]; rfl
  have h1 := fun w0 => make_short (w := w0) s b p hs
  have hl := shortL_length (s := s.data.toList) (by rw [hsz.out]; exact hs)
  obtain ⟨v, hv⟩ : ∃ v, shortL s.data.toList = v := ⟨_, rfl⟩
  rw [hv] at h1 hl
  have H1 := Lib.hid h1
  have HL := Lib.hid hl
  have HV := Lib.hid hv
  clear h1 hl hv
  go_enter Try.func3, Try.ntmps3
  go_wp2_with fail
  refine (awake6_any _).mono ?_
  rintro r w1 ⟨rfl, hb1⟩
  have HB1 := Lib.hid hb1
  clear hb1
  go_wp2_with fail
  refine (H1.out _).mono ?_
  rintro r w2 ⟨rfl, hb2⟩
  have HB2 := Lib.hid (below_below HB1.out hb2 HB1.out.size)
  have hq := Blk.new w2 23 (vb zero16)
  have hk : Below w.heap.size w (w2.alloc (.cells (vb zero16) 23)) := HB2.out.alloc HB2.out.size _
  have hq3 := setRowV_blk hq (vb v)
  have hk3 := setRowV_below hk hk.size HB2.out.size (vb v)
  have HQ := Lib.hid hq
  have HQ3 := Lib.hid hq3
  have HK3 := Lib.hid hk3
  clear hb2 hq hk hq3 hk3
  go_wp2_with (refine wpList_storeV HQ.out zero16_length HL.out rfl _ _ rfl rfl rfl ?_; refine held ?_)
  refine ⟨?_⟩
  generalize (w2.alloc (.cells (vb zero16) 23)).setRow w2.heap.size (vb v) = w3 at *
  generalize w2.heap.size = g at *
  clear HQ HB2
  go_wp2_with fail
  refine (four_any s.size (by omega)).mono ?_
  rintro r w4 ⟨rfl, ho4, hb4⟩
  have hgB := HQ3.out.lt
  have hwB := HK3.out.size
  have HQ4 := Lib.hid (HQ3.out.below hb4 hgB)
  have hk4 := below_below HK3.out hb4 hwB
  have hB4 := hb4.size
  generalize w3.heap.size = B at *
  have hcv := Lib.run_convert_string_bytes (P := Try.prog) w4 9 27 5 s Try.underlying9 Try.underlying27 Try.underlying5
  have hcap := grownCap_le_maxLen w4 s.size 0 5 (by simp only [maxLen]; omega)
  have hrd := bytesWorld_rd w4 5 s hcap
  have hb5 := bytesWorld_below w4 5 s (Nat.le_refl _)
  have hs5 := hb5.size
  have hk5 := below_below hk4 hb5 hk4.size
  have hq5 := HQ4.out.below hb5 HQ4.out.lt
  obtain ⟨px, hpx⟩ : ∃ px, le4 s.size ++ s.data.toList = px := ⟨_, rfl⟩
  obtain ⟨A', c', w5, hrun, hown5, hg5⟩ := append_named (Lib.bytesWorld w4 5 s) B _ _ s.data.toList px hpx (own_below ho4 hb5 (Nat.le_refl _)) hrd (by have : s.data.toList.length = s.size := rfl; rw [le4_length]; omega) (by omega)
  have hk6 := hk5.grown hg5 hk5.size (fun k hk => Nat.le_trans hwB (own_row ho4 k hk))
  have hq6 : Blk w5 g 23 (vb v) := hq5.grown hg5 (fun e => by
    have h1 := own_row ho4 g e.symm
    omega)
  have hB5 := hg5.size
  have hpl : px.length = 4 + s.size := by rw [← hpx, List.length_append, le4_length, hsz.out]
  have hfin : px ++ List.replicate (16 - px.length) 0 = v := by
    rw [← HV.out, hpl, ← hpx]
    unfold shortL
    rw [hsz.out, show 16 - (4 + s.size) = 12 - s.size by omega]
  have HF := Lib.hid hfin
  have HO5 := Lib.hid hown5
  have HK5 := Lib.hid hk6
  have HQ5 := Lib.hid hq6
  have hpl1 : px.length ≤ 16 := by omega
  have hB6 : B ≤ w5.heap.size := by omega
  clear hb4 hk4 ho4 hcap hrd hb5 hs5 hk5 hq5 hown5 hg5 hk6 hq6 hpl hpx HQ4 HQ3 HK3 hfin hB5 hB4
  go_wp2_with (at_builtin; refine wpList_append_run rfl _ _ _ _ rfl rfl rfl hrun ?_; refine held ?_)
  refine ⟨?_⟩
  clear hrun hcv
  go_wp2_with fail
  go_loopw [9] (fun q wr => ∃ (ys : List UInt8) (A : Option Addr) (c : Nat), ys ++ List.replicate (16 - ys.length) 0 = v ∧ ys.length ≤ 16 ∧ q = .slice A ys.length c ∧ wr.ownsRow B 5 1 (.slice A ys.length c) ys.length (bv ys) ∧ Blk wr g 23 (vb v) ∧ Below w.heap.size w wr ∧ B ≤ wr.heap.size) (fun q _ => 16 - slen q)
  case atStart => exact ⟨px, A', c', HF.out, hpl1, rfl, HO5.out, HQ5.out, HK5.out, hB6⟩
  case round =>
    obtain ⟨ys, A, c, hys, hle, rfl, ho, hq, hk, hB⟩ := hrel
    have HY := Lib.hid hys
    have HO := Lib.hid ho
    have HQ := Lib.hid hq
    have HK := Lib.hid hk
    clear hys ho hq hk
    by_cases hlt : ys.length < 16
    · go_wp2_with (at_builtin; refine wpList_push (v := .slice A ys.length c) B ys 0 rfl _ _ rfl rfl rfl rfl (by rw [World.cell?_alloc_at _ _ _ _ rfl]; rfl) (HO.out.alloc _) (by omega) (by simp; omega) ?_; intro A2 c2 w6 ho6 hg6)
      have hsz6 := hg6.size
      rw [World.size_alloc] at hsz6
      have HO6 := Lib.hid ho6
      have HG6 := Lib.hid hg6
      clear ho6 hg6
      go_roundw
      case rel =>
        refine ⟨ys ++ [0], A2, c2, ?_, by rw [List.length_append]; simp; omega, by rw [List.length_append]; rfl, HO6.out, (HQ.out.alloc _).grown HG6.out (fun e => ?_), (HK.out.alloc HK.out.size _).grown HG6.out (by rw [World.size_alloc]; have := HK.out.size; omega) (fun k hk => Nat.le_trans hwB (own_row HO.out k hk)), by omega⟩
        · rw [List.append_assoc, List.length_append, ← HY.out]
          congr 1
          rw [show 16 - ys.length = (16 - (ys.length + 1)) + 1 by omega, List.replicate_succ]
          rfl
        · have h1 := own_row HO.out g e.symm
          omega
      case measure => simp [slen] <;> omega
    · have he : ys = v := by
        rw [← HY.out, show 16 - ys.length = 0 by omega, List.replicate_zero, List.append_nil]
      subst he
      have hst1 := fun n => run_string_piece (HQ.out.drewN n) HL.out 0 16 16 (by omega) rfl
      have hst2 := fun n => run_string_rd (P := Try.prog) (wr.drewN n) 27 9 5 Try.underlying27 Try.underlying5 Try.underlying9 B wr.heap.size A c ys ((Rd.own HO.out).drewN n)
      rw [List.drop_zero, List.take_of_length_le (by rw [HL.out]; omega)] at hst1
      have hge : (16 : Int) ≤ (ys.length : Int) := by omega
      go_wp2_with fail
      go_quiet (fail)
      go_wp2
      go_ret
      exact ⟨rfl, below_drewN' HK.out _⟩

set_option maxRecDepth 20000 in
set_option maxHeartbeats 4000000 in
theorem viewMakes_long {w : World} (s : ByteArray) (hs : 12 < s.size) (hs2 : s.size ≤ 4096) (b p : Nat) (hb : b ≤ 65535) (hp : p ≤ 65536) :
    Calls Try.prog 3 #[.string s, .int .i64 (b : Int), .int .i64 (p : Int)] w fun e w' => e = .returned (.bool true) ∧ Below w.heap.size w w' := by
  obtain ⟨hz, _⟩ := zero_of_info Try.infoV
  have hsz : Hid (s.data.toList.length = s.size) := by unfold Hid; rw [Array.length_toList]; rfl
  have h1 := fun w0 => make_long (w := w0) s b p hs hs2 (by unfold mayL; omega)
  have hl := longL_length (s := s.data.toList) (by rw [hsz.out]; omega) b p
  obtain ⟨s4, hs4⟩ : ∃ s4, s.extract 0 4 = s4 := ⟨_, rfl⟩
  have h4 : s4.data.toList = s.data.toList.take 4 := by rw [← hs4]; simp
  have hs4l : s4.data.toList.length = 4 := by rw [h4, List.length_take, hsz.out]; omega
  have hs4z : s4.size = 4 := by rw [← hs4l, Array.length_toList]; rfl
  obtain ⟨v, hv⟩ : ∃ v, longL s.data.toList b p = v := ⟨_, rfl⟩
  have e1 : le4 s.size ++ s4.data.toList ++ le4 b ++ le4 p = v := by rw [← hv, h4]; unfold longL; rw [hsz.out]
  obtain ⟨y1, hy1⟩ : ∃ y1, le4 s.size ++ s4.data.toList = y1 := ⟨_, rfl⟩
  obtain ⟨y2, hy2⟩ : ∃ y2, y1 ++ le4 b = y2 := ⟨_, rfl⟩
  have ly1 : y1.length ≤ 8 := by rw [← hy1, List.length_append, le4_length, hs4l]; omega
  have ly2 : y2.length ≤ 12 := by rw [← hy2, List.length_append, le4_length]; omega
  rw [hy1, hy2] at e1
  have HY1 := Lib.hid hy1
  have HY2 := Lib.hid hy2
  have H4L' : Hid (s4.data.toList.length = s4.size) := by unfold Hid; rw [hs4l, hs4z]
  rw [hv] at h1 hl
  have H1 := Lib.hid h1
  have HL := Lib.hid hl
  have HE := Lib.hid e1
  have H4L := Lib.hid hs4l
  have H4Z := Lib.hid hs4z
  clear h1 hl hv h4 e1 hs4l hs4z hy1 hy2
  go_enter Try.func3, Try.ntmps3
  go_wp2_with fail
  refine (awake6_any _).mono ?_
  rintro r w1 ⟨rfl, hb1⟩
  have HB1 := Lib.hid hb1
  clear hb1
  go_wp2_with fail
  refine (H1.out _).mono ?_
  rintro r w2 ⟨rfl, hb2⟩
  have HB2 := Lib.hid (below_below HB1.out hb2 HB1.out.size)
  have hq := Blk.new w2 23 (vb zero16)
  have hk : Below w.heap.size w (w2.alloc (.cells (vb zero16) 23)) := HB2.out.alloc HB2.out.size _
  have hq3 := setRowV_blk hq (vb v)
  have hk3 := setRowV_below hk hk.size HB2.out.size (vb v)
  have HQ := Lib.hid hq
  have HQ3 := Lib.hid hq3
  have HK3 := Lib.hid hk3
  clear hb2 hq hk hq3 hk3
  go_wp2_with (refine wpList_storeV HQ.out zero16_length HL.out rfl _ _ rfl rfl rfl ?_; refine held ?_)
  refine ⟨?_⟩
  generalize (w2.alloc (.cells (vb zero16) 23)).setRow w2.heap.size (vb v) = w3 at *
  generalize w2.heap.size = g at *
  clear HQ HB2
  go_wp2_with fail
  refine (four_any s.size (by omega)).mono ?_
  rintro r w4 ⟨rfl, ho4, hb4⟩
  have hgB := HQ3.out.lt
  have hwB := HK3.out.size
  have HQ4 := Lib.hid (HQ3.out.below hb4 hgB)
  have hk4 := below_below HK3.out hb4 hwB
  have hB4 := hb4.size
  generalize w3.heap.size = B at *
  have hcv := Lib.run_convert_string_bytes (P := Try.prog) w4 9 27 5 s Try.underlying9 Try.underlying27 Try.underlying5
  have hcap := grownCap_le_maxLen w4 s.size 0 5 (by simp only [maxLen]; omega)
  have hrd := bytesWorld_rd w4 5 s hcap
  have hb5 := bytesWorld_below w4 5 s (Nat.le_refl _)
  have hs5 := hb5.size
  have hk5 := below_below hk4 hb5 hk4.size
  have hq5 := HQ4.out.below hb5 HQ4.out.lt
  obtain ⟨px, hpx⟩ : ∃ px, le4 s.size ++ s.data.toList = px := ⟨_, rfl⟩
  obtain ⟨A', c', w5, hrun, hown5, hg5⟩ := append_named (Lib.bytesWorld w4 5 s) B _ _ s.data.toList px hpx (own_below ho4 hb5 (Nat.le_refl _)) hrd (by have : s.data.toList.length = s.size := rfl; rw [le4_length]; omega) (by omega)
  have hk6 := hk5.grown hg5 hk5.size (fun k hk => Nat.le_trans hwB (own_row ho4 k hk))
  have hq6 : Blk w5 g 23 (vb v) := hq5.grown hg5 (fun e => by
    have h1 := own_row ho4 g e.symm
    omega)
  have hB5 := hg5.size
  have hpl : px.length = 4 + s.size := by rw [← hpx, List.length_append, le4_length, hsz.out]
  have HO5 := Lib.hid hown5
  have HK5 := Lib.hid hk6
  have HQ5 := Lib.hid hq6
  have hB6 : B ≤ w5.heap.size := by omega
  clear hb4 hk4 ho4 hcap hrd hb5 hs5 hk5 hq5 hown5 hg5 hk6 hq6 hpl hpx HQ4 HQ3 HK3 hB5 hB4
  go_wp2_with (at_builtin; refine wpList_append_run rfl _ _ _ _ rfl rfl rfl hrun ?_; refine held ?_)
  refine ⟨?_⟩
  clear hrun hcv
  go_upto_region 8 with fail
  go_cut [9] (fun q wr => ∃ (A : Option Addr) (c : Nat), q = .slice A v.length c ∧ wr.ownsRow B 5 1 (.slice A v.length c) v.length (bv v) ∧ Blk wr g 23 (vb v) ∧ Below w.heap.size w wr ∧ B ≤ wr.heap.size)
  case first =>
    have hcv := fun w0 => Lib.run_convert_string_bytes (P := Try.prog) w0 9 27 5 s4 Try.underlying9 Try.underlying27 Try.underlying5
    have hi4 : (4 : Int) ≤ (s.size : Int) := by omega
    have K6 := Lib.hid (Below.drew HK5.out)
    have Q6 := Lib.hid HQ5.out.drew
    have hB6' : B ≤ w5.drew.heap.size := hB6
    refine wp_region_held_drew (S := fun _ => True) (by kernel_rfl) trivial (fun hHeld => ?_)
    refine wpAnyH_take (i := 0) (oi := _) (v := ?_) rfl (by kernel_rfl) (by kernel_rfl) (by kernel_rfl) (fun _ _ _ h => h) (Or.inl ⟨by rfl, ?_⟩) hHeld ?_
    rotate_left
    focus (intro W hSw; go_simp; try with_reducible rfl)
    try simp only [List.getElem_toArray, List.getElem_cons_zero, List.getElem_cons_succ, Act.put, List.setIfInBounds_toArray, List.set_cons_zero, List.set_cons_succ]
    refine wpAnyH_take (i := 1) (oi := _) (v := ?_) rfl (by kernel_rfl) (by kernel_rfl) (by kernel_rfl) (fun _ _ _ h => h) (Or.inl ⟨by rfl, ?_⟩) hHeld ?_
    rotate_left
    focus (intro W hSw; go_simp; try with_reducible rfl)
    try simp only [List.getElem_toArray, List.getElem_cons_zero, List.getElem_cons_succ, Act.put, List.setIfInBounds_toArray, List.set_cons_zero, List.set_cons_succ]
    refine wpAnyH_take (i := 3) (oi := _) (v := ?_) rfl (by kernel_rfl) (by kernel_rfl) (by kernel_rfl) (fun _ _ _ h => h) (Or.inl ⟨by rfl, ?_⟩) hHeld ?_
    rotate_left
    focus (intro W hSw; go_simp; try with_reducible rfl)
    try simp only [List.getElem_toArray, List.getElem_cons_zero, List.getElem_cons_succ, Act.put, List.setIfInBounds_toArray, List.set_cons_zero, List.set_cons_succ]
    refine wpAnyH_take (i := 4) (oi := _) (v := ?_) rfl (by kernel_rfl) (by kernel_rfl) (by kernel_rfl) (fun _ _ _ h => h) (Or.inl ⟨by rfl, ?_⟩) hHeld ?_
    rotate_left
    focus (intro W hSw; go_simp; try with_reducible rfl)
    try simp only [List.getElem_toArray, List.getElem_cons_zero, List.getElem_cons_succ, Act.put, List.setIfInBounds_toArray, List.set_cons_zero, List.set_cons_succ]
    refine wpAnyH_take (i := 7) (oi := _) (v := ?_) rfl (by kernel_rfl) (by kernel_rfl) (by kernel_rfl) (fun _ _ _ h => h) (Or.inl ⟨by rfl, ?_⟩) hHeld ?_
    rotate_left
    focus (intro W hSw; go_simp; try with_reducible rfl)
    try simp only [List.getElem_toArray, List.getElem_cons_zero, List.getElem_cons_succ, Act.put, List.setIfInBounds_toArray, List.set_cons_zero, List.set_cons_succ]
    refine wpAnyH_take (i := 10) (oi := _) (v := ?_) rfl (by kernel_rfl) (by kernel_rfl) (by kernel_rfl) (fun _ _ _ h => h) (Or.inl ⟨by rfl, ?_⟩) hHeld ?_
    rotate_left
    focus (intro W hSw; go_simp; try with_reducible rfl)
    try simp only [List.getElem_toArray, List.getElem_cons_zero, List.getElem_cons_succ, Act.put, List.setIfInBounds_toArray, List.set_cons_zero, List.set_cons_succ]
    generalize w5.drew = w6 at *
    clear hB6
    have hB6 := hB6'
    clear hB6'
    refine wpAnyH_ready (rs := [2, 5]) (by kernel_rfl) (by simp) ?_
    refine AllReadyH.cons (o := _) rfl (fun K hK => ?_) (AllReadyH.cons (o := _) rfl (fun K hK => ?_) AllReadyH.nil)
    · go_simp
      refine (four_any s.size (by omega)).mono ?_
      rintro r wa ⟨rfl, ho, hb0⟩
      have sa := hb0.size
      have Oa := Lib.hid (own_base ho hB6)
      have hBa : B ≤ wa.heap.size := Nat.le_trans hB6 sa
      have Ka := Lib.hid (below_below K6.out hb0 K6.out.size)
      have Qa := Lib.hid (Q6.out.below hb0 Q6.out.lt)
      clear ho hb0
      refine hK.out _ _ trivial (fun hHeld => ?_)
      clear hK K
      try simp only [List.getElem_toArray, List.getElem_cons_zero, List.getElem_cons_succ, Act.put, List.setIfInBounds_toArray, List.set_cons_zero, List.set_cons_succ]
      refine wpAnyH_ready (rs := [5]) (by kernel_rfl) (by simp) ?_
      refine AllReadyH.cons (o := _) rfl (fun K hK => ?_) AllReadyH.nil
      go_simp
      have hcap := grownCap_le_maxLen wa s4.size 0 5 (by rw [H4Z.out]; simp only [maxLen]; omega)
      have hb0 := bytesWorld_below wa 5 s4 (Nat.le_refl _)
      have Rb := Lib.hid (bytesWorld_rd wa 5 s4 hcap)
      have Ob := Lib.hid (own_below Oa.out hb0 (Nat.le_refl _))
      have hBb : B ≤ (Lib.bytesWorld wa 5 s4).heap.size := Nat.le_trans hBa hb0.size
      have Kb := Lib.hid (below_below Ka.out hb0 Ka.out.size)
      have Qb := Lib.hid (Qa.out.below hb0 Qa.out.lt)
      refine hK.out _ _ trivial (fun hHeld => ?_)
      clear hK K hb0 hcap
      try simp only [List.getElem_toArray, List.getElem_cons_zero, List.getElem_cons_succ, Act.put, List.setIfInBounds_toArray, List.set_cons_zero, List.set_cons_succ]
      refine wpAnyH_ready (rs := [6]) (by kernel_rfl) (by simp) ?_
      refine AllReadyH.cons (o := _) rfl (fun K hK => ?_) AllReadyH.nil
      refine wp_append_bytes B (le4 s.size) s4.data.toList y1 HY1.out _ _ rfl rfl rfl H4L'.out rfl Ob.out Rb.out (by simp only [le4_length]; have h4 := H4L.out; omega) hBb ?_
      intro Ad cd wd ho hg
      have hBd : B ≤ wd.heap.size := Nat.le_trans hBb hg.size
      have Od := Lib.hid ho
      have Kd := Lib.hid (Kb.out.grown hg Kb.out.size (fun k hk => Nat.le_trans hwB (own_row Ob.out k hk)))
      have Qd := Lib.hid (Qb.out.grown hg (fun e => by have h1 := own_row Ob.out g e.symm; omega))
      refine hK.out _ _ trivial (fun hHeld => ?_)
      clear hK K ho hg
      try simp only [List.getElem_toArray, List.getElem_cons_zero, List.getElem_cons_succ, Act.put, List.setIfInBounds_toArray, List.set_cons_zero, List.set_cons_succ]
      refine wpAnyH_ready (rs := [8]) (by kernel_rfl) (by simp) ?_
      refine AllReadyH.cons (o := _) rfl (fun K hK => ?_) AllReadyH.nil
      go_simp
      refine (four_any b (by omega)).mono ?_
      rintro r we ⟨rfl, ho, hb0⟩
      have se := hb0.size
      have Oe := Lib.hid (own_base ho hBd)
      have hBe : B ≤ we.heap.size := Nat.le_trans hBd se
      have Ke := Lib.hid (below_below Kd.out hb0 Kd.out.size)
      have Qe := Lib.hid (Qd.out.below hb0 Qd.out.lt)
      have Od2 := Lib.hid (own_below Od.out hb0 (Nat.le_refl _))
      clear ho hb0
      refine hK.out _ _ trivial (fun hHeld => ?_)
      clear hK K
      try simp only [List.getElem_toArray, List.getElem_cons_zero, List.getElem_cons_succ, Act.put, List.setIfInBounds_toArray, List.set_cons_zero, List.set_cons_succ]
      refine wpAnyH_ready (rs := [9]) (by kernel_rfl) (by simp) ?_
      refine AllReadyH.cons (o := _) rfl (fun K hK => ?_) AllReadyH.nil
      refine wp_append_bytes B y1 (le4 b) y2 HY2.out _ _ rfl rfl rfl rfl rfl Od2.out (Rd.own Oe.out) (by simp only [le4_length]; have h4 := H4L.out; omega) hBe ?_
      intro Af cf wf ho hg
      have hBf : B ≤ wf.heap.size := Nat.le_trans hBe hg.size
      have Of := Lib.hid ho
      have Kf := Lib.hid (Ke.out.grown hg Ke.out.size (fun k hk => Nat.le_trans hwB (own_row Od2.out k hk)))
      have Qf := Lib.hid (Qe.out.grown hg (fun e => by have h1 := own_row Od2.out g e.symm; omega))
      refine hK.out _ _ trivial (fun hHeld => ?_)
      clear hK K ho hg
      try simp only [List.getElem_toArray, List.getElem_cons_zero, List.getElem_cons_succ, Act.put, List.setIfInBounds_toArray, List.set_cons_zero, List.set_cons_succ]
      refine wpAnyH_ready (rs := [11]) (by kernel_rfl) (by simp) ?_
      refine AllReadyH.cons (o := _) rfl (fun K hK => ?_) AllReadyH.nil
      go_simp
      refine (four_any p (by omega)).mono ?_
      rintro r wh ⟨rfl, ho, hb0⟩
      have sh := hb0.size
      have Oh := Lib.hid (own_base ho hBf)
      have hBh : B ≤ wh.heap.size := Nat.le_trans hBf sh
      have Kh := Lib.hid (below_below Kf.out hb0 Kf.out.size)
      have Qh := Lib.hid (Qf.out.below hb0 Qf.out.lt)
      have Of2 := Lib.hid (own_below Of.out hb0 (Nat.le_refl _))
      clear ho hb0
      refine hK.out _ _ trivial (fun hHeld => ?_)
      clear hK K
      try simp only [List.getElem_toArray, List.getElem_cons_zero, List.getElem_cons_succ, Act.put, List.setIfInBounds_toArray, List.set_cons_zero, List.set_cons_succ]
      refine wpAnyH_ready (rs := [12]) (by kernel_rfl) (by simp) ?_
      refine AllReadyH.cons (o := _) rfl (fun K hK => ?_) AllReadyH.nil
      refine wp_append_bytes B y2 (le4 p) v HE.out _ _ rfl rfl rfl rfl rfl Of2.out (Rd.own Oh.out) (by simp only [le4_length]; have h4 := H4L.out; omega) hBh ?_
      intro Ai ci wi ho hg
      have hBi : B ≤ wi.heap.size := Nat.le_trans hBh hg.size
      have Oi := Lib.hid ho
      have Ki := Lib.hid (Kh.out.grown hg Kh.out.size (fun k hk => Nat.le_trans hwB (own_row Of2.out k hk)))
      have Qi := Lib.hid (Qh.out.grown hg (fun e => by have h1 := own_row Of2.out g e.symm; omega))
      refine hK.out _ _ trivial (fun hHeld => ?_)
      clear hK K ho hg
      try simp only [List.getElem_toArray, List.getElem_cons_zero, List.getElem_cons_succ, Act.put, List.setIfInBounds_toArray, List.set_cons_zero, List.set_cons_succ]
      refine wpAnyH_take (i := 13) (oi := _) (v := ?_) rfl (by kernel_rfl) (by kernel_rfl) (by kernel_rfl) (fun _ _ _ h => h) (Or.inl ⟨by rfl, ?_⟩) hHeld ?_
      rotate_left
      focus (intro W hSw; go_simp; try with_reducible rfl)
      try simp only [List.getElem_toArray, List.getElem_cons_zero, List.getElem_cons_succ, Act.put, List.setIfInBounds_toArray, List.set_cons_zero, List.set_cons_succ]
      refine wpAnyH_done (by kernel_rfl) ?_ _
      go_wp2_with fail
      go_meet
      exact ⟨Ai, ci, rfl, Oi.out, Qi.out, Ki.out, hBi⟩
    · go_simp
      have hcap := grownCap_le_maxLen w6 s4.size 0 5 (by rw [H4Z.out]; simp only [maxLen]; omega)
      have hb1 := bytesWorld_below w6 5 s4 (Nat.le_refl _)
      have R0 := Lib.hid (bytesWorld_rd w6 5 s4 hcap)
      have hBc : B ≤ (Lib.bytesWorld w6 5 s4).heap.size := Nat.le_trans hB6 hb1.size
      have hsz1 : w6.heap.size + 1 ≤ (Lib.bytesWorld w6 5 s4).heap.size := by rw [Lib.bytesWorld_size]; exact Nat.le_refl _
      have Kc := Lib.hid (below_below K6.out hb1 K6.out.size)
      have Qc := Lib.hid (Q6.out.below hb1 Q6.out.lt)
      refine hK.out _ _ trivial (fun hHeld => ?_)
      clear hK K hb1 hcap
      try simp only [List.getElem_toArray, List.getElem_cons_zero, List.getElem_cons_succ, Act.put, List.setIfInBounds_toArray, List.set_cons_zero, List.set_cons_succ]
      refine wpAnyH_ready (rs := [2]) (by kernel_rfl) (by simp) ?_
      refine AllReadyH.cons (o := _) rfl (fun K hK => ?_) AllReadyH.nil
      go_simp
      refine (four_any s.size (by omega)).mono ?_
      rintro r wb ⟨rfl, ho, hb0⟩
      have sb := hb0.size
      have Ob := Lib.hid (own_base ho hBc)
      have hBb : B ≤ wb.heap.size := Nat.le_trans hBc sb
      have Kb := Lib.hid (below_below Kc.out hb0 Kc.out.size)
      have Qb := Lib.hid (Qc.out.below hb0 Qc.out.lt)
      have Rb := Lib.hid (R0.out.below hb0 hsz1)
      clear ho hb0
      refine hK.out _ _ trivial (fun hHeld => ?_)
      clear hK K
      try simp only [List.getElem_toArray, List.getElem_cons_zero, List.getElem_cons_succ, Act.put, List.setIfInBounds_toArray, List.set_cons_zero, List.set_cons_succ]
      refine wpAnyH_ready (rs := [6]) (by kernel_rfl) (by simp) ?_
      refine AllReadyH.cons (o := _) rfl (fun K hK => ?_) AllReadyH.nil
      refine wp_append_bytes B (le4 s.size) s4.data.toList y1 HY1.out _ _ rfl rfl rfl H4L'.out rfl Ob.out Rb.out (by simp only [le4_length]; have h4 := H4L.out; omega) hBb ?_
      intro Ad cd wd ho hg
      have hBd : B ≤ wd.heap.size := Nat.le_trans hBb hg.size
      have Od := Lib.hid ho
      have Kd := Lib.hid (Kb.out.grown hg Kb.out.size (fun k hk => Nat.le_trans hwB (own_row Ob.out k hk)))
      have Qd := Lib.hid (Qb.out.grown hg (fun e => by have h1 := own_row Ob.out g e.symm; omega))
      refine hK.out _ _ trivial (fun hHeld => ?_)
      clear hK K ho hg
      try simp only [List.getElem_toArray, List.getElem_cons_zero, List.getElem_cons_succ, Act.put, List.setIfInBounds_toArray, List.set_cons_zero, List.set_cons_succ]
      refine wpAnyH_ready (rs := [8]) (by kernel_rfl) (by simp) ?_
      refine AllReadyH.cons (o := _) rfl (fun K hK => ?_) AllReadyH.nil
      go_simp
      refine (four_any b (by omega)).mono ?_
      rintro r we ⟨rfl, ho, hb0⟩
      have se := hb0.size
      have Oe := Lib.hid (own_base ho hBd)
      have hBe : B ≤ we.heap.size := Nat.le_trans hBd se
      have Ke := Lib.hid (below_below Kd.out hb0 Kd.out.size)
      have Qe := Lib.hid (Qd.out.below hb0 Qd.out.lt)
      have Od2 := Lib.hid (own_below Od.out hb0 (Nat.le_refl _))
      clear ho hb0
      refine hK.out _ _ trivial (fun hHeld => ?_)
      clear hK K
      try simp only [List.getElem_toArray, List.getElem_cons_zero, List.getElem_cons_succ, Act.put, List.setIfInBounds_toArray, List.set_cons_zero, List.set_cons_succ]
      refine wpAnyH_ready (rs := [9]) (by kernel_rfl) (by simp) ?_
      refine AllReadyH.cons (o := _) rfl (fun K hK => ?_) AllReadyH.nil
      refine wp_append_bytes B y1 (le4 b) y2 HY2.out _ _ rfl rfl rfl rfl rfl Od2.out (Rd.own Oe.out) (by simp only [le4_length]; have h4 := H4L.out; omega) hBe ?_
      intro Af cf wf ho hg
      have hBf : B ≤ wf.heap.size := Nat.le_trans hBe hg.size
      have Of := Lib.hid ho
      have Kf := Lib.hid (Ke.out.grown hg Ke.out.size (fun k hk => Nat.le_trans hwB (own_row Od2.out k hk)))
      have Qf := Lib.hid (Qe.out.grown hg (fun e => by have h1 := own_row Od2.out g e.symm; omega))
      refine hK.out _ _ trivial (fun hHeld => ?_)
      clear hK K ho hg
      try simp only [List.getElem_toArray, List.getElem_cons_zero, List.getElem_cons_succ, Act.put, List.setIfInBounds_toArray, List.set_cons_zero, List.set_cons_succ]
      refine wpAnyH_ready (rs := [11]) (by kernel_rfl) (by simp) ?_
      refine AllReadyH.cons (o := _) rfl (fun K hK => ?_) AllReadyH.nil
      go_simp
      refine (four_any p (by omega)).mono ?_
      rintro r wh ⟨rfl, ho, hb0⟩
      have sh := hb0.size
      have Oh := Lib.hid (own_base ho hBf)
      have hBh : B ≤ wh.heap.size := Nat.le_trans hBf sh
      have Kh := Lib.hid (below_below Kf.out hb0 Kf.out.size)
      have Qh := Lib.hid (Qf.out.below hb0 Qf.out.lt)
      have Of2 := Lib.hid (own_below Of.out hb0 (Nat.le_refl _))
      clear ho hb0
      refine hK.out _ _ trivial (fun hHeld => ?_)
      clear hK K
      try simp only [List.getElem_toArray, List.getElem_cons_zero, List.getElem_cons_succ, Act.put, List.setIfInBounds_toArray, List.set_cons_zero, List.set_cons_succ]
      refine wpAnyH_ready (rs := [12]) (by kernel_rfl) (by simp) ?_
      refine AllReadyH.cons (o := _) rfl (fun K hK => ?_) AllReadyH.nil
      refine wp_append_bytes B y2 (le4 p) v HE.out _ _ rfl rfl rfl rfl rfl Of2.out (Rd.own Oh.out) (by simp only [le4_length]; have h4 := H4L.out; omega) hBh ?_
      intro Ai ci wi ho hg
      have hBi : B ≤ wi.heap.size := Nat.le_trans hBh hg.size
      have Oi := Lib.hid ho
      have Ki := Lib.hid (Kh.out.grown hg Kh.out.size (fun k hk => Nat.le_trans hwB (own_row Of2.out k hk)))
      have Qi := Lib.hid (Qh.out.grown hg (fun e => by have h1 := own_row Of2.out g e.symm; omega))
      refine hK.out _ _ trivial (fun hHeld => ?_)
      clear hK K ho hg
      try simp only [List.getElem_toArray, List.getElem_cons_zero, List.getElem_cons_succ, Act.put, List.setIfInBounds_toArray, List.set_cons_zero, List.set_cons_succ]
      refine wpAnyH_take (i := 13) (oi := _) (v := ?_) rfl (by kernel_rfl) (by kernel_rfl) (by kernel_rfl) (fun _ _ _ h => h) (Or.inl ⟨by rfl, ?_⟩) hHeld ?_
      rotate_left
      focus (intro W hSw; go_simp; try with_reducible rfl)
      try simp only [List.getElem_toArray, List.getElem_cons_zero, List.getElem_cons_succ, Act.put, List.setIfInBounds_toArray, List.set_cons_zero, List.set_cons_succ]
      refine wpAnyH_done (by kernel_rfl) ?_ _
      go_wp2_with fail
      go_meet
      exact ⟨Ai, ci, rfl, Oi.out, Qi.out, Ki.out, hBi⟩
  case rest =>
    obtain ⟨A9, c9, rfl, ho9, hq9, hk9, hB9⟩ := hcut
    have HO9 := Lib.hid ho9
    have HQ9 := Lib.hid hq9
    have HK9 := Lib.hid hk9
    clear ho9 hq9 hk9
    go_wp2_with fail
    go_loopw [9] (fun q wr => ∃ (ys : List UInt8) (A : Option Addr) (c : Nat), ys ++ List.replicate (16 - ys.length) 0 = v ∧ ys.length ≤ 16 ∧ q = .slice A ys.length c ∧ wr.ownsRow B 5 1 (.slice A ys.length c) ys.length (bv ys) ∧ Blk wr g 23 (vb v) ∧ Below w.heap.size w wr ∧ B ≤ wr.heap.size) (fun q _ => 16 - slen q)
    case atStart => exact ⟨v, A9, c9, by rw [HL.out]; simp, by rw [HL.out]; omega, rfl, HO9.out, HQ9.out, HK9.out, hB9⟩
    case round =>
      obtain ⟨ys, A, c, hys, hle, rfl, ho, hq, hk, hB⟩ := hrel
      have HY := Lib.hid hys
      have HO := Lib.hid ho
      have HQ := Lib.hid hq
      have HK := Lib.hid hk
      clear hys ho hq hk
      by_cases hlt : ys.length < 16
      · go_wp2_with (at_builtin; refine wpList_push (v := .slice A ys.length c) B ys 0 rfl _ _ rfl rfl rfl rfl (by rw [World.cell?_alloc_at _ _ _ _ rfl]; rfl) (HO.out.alloc _) (by omega) (by simp; omega) ?_; intro A2 c2 w6 ho6 hg6)
        have hsz6 := hg6.size
        rw [World.size_alloc] at hsz6
        have HO6 := Lib.hid ho6
        have HG6 := Lib.hid hg6
        clear ho6 hg6
        go_roundw
        case rel =>
          refine ⟨ys ++ [0], A2, c2, ?_, by rw [List.length_append]; simp; omega, by rw [List.length_append]; rfl, HO6.out, (HQ.out.alloc _).grown HG6.out (fun e => ?_), (HK.out.alloc HK.out.size _).grown HG6.out (by rw [World.size_alloc]; have := HK.out.size; omega) (fun k hk => Nat.le_trans hwB (own_row HO.out k hk)), by omega⟩
          · rw [List.append_assoc, List.length_append, ← HY.out]
            congr 1
            rw [show 16 - ys.length = (16 - (ys.length + 1)) + 1 by omega, List.replicate_succ]
            rfl
          · have h1 := own_row HO.out g e.symm
            omega
        case measure => simp [slen] <;> omega
      · have he : ys = v := by
          rw [← HY.out, show 16 - ys.length = 0 by omega, List.replicate_zero, List.append_nil]
        subst he
        have hst1 := fun n => run_string_piece (HQ.out.drewN n) HL.out 0 16 16 (by omega) rfl
        have hst2 := fun n => run_string_rd (P := Try.prog) (wr.drewN n) 27 9 5 Try.underlying27 Try.underlying5 Try.underlying9 B wr.heap.size A c ys ((Rd.own HO.out).drewN n)
        rw [List.drop_zero, List.take_of_length_le (by rw [HL.out]; omega)] at hst1
        have hge : (16 : Int) ≤ (ys.length : Int) := by omega
        go_wp2_with fail
        go_quiet (fail)
        go_wp2
        go_ret
        exact ⟨rfl, below_drewN' HK.out _⟩

end Go.Proofs.Ytoimomcmbkclpaa
