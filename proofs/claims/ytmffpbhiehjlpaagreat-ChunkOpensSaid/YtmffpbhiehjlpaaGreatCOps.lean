/-
  Of whatever bytes: Open answers a chunk of values that may be coded, in its kind, or one without values, and an error; or bytes are many, or awake says so.
-/
import Derived.Test.YtmffpbhiehjlpaaGreatZ45
import Derived.Test.YtmffpbhiehjlpaaGreatZ41
import Derived.Test.YtmffpbhiehjlpaaGreatZ42
namespace Go.Proofs.YtmffpbhiehjlpaaGreat
set_option linter.unusedSimpArgs false
set_option linter.unusedVariables false
open Go.RowKit Go.ChangeShapes Go.WideShapes Go.ChangeAt
theorem build_cod (W : World) (k : Int) : (Instr.build 25 #[(0, .int .i64 k), (1, .int .i64 4)]).run Tryz.prog W = .ok (.agg #[.int .i64 k, .int .i64 4, .int .i64 0, .slice none 0 0]) W := run_build W _ _ _ (by kernel_rfl)
theorem put4 {w : World} {g : Nat} {t : TypeId} {a0 a1 a2 a3 : Value} (b0 b1 b2 b3 : Value) (h : Blk w g t #[a0, a1, a2, a3]) :
    Blk ((((w.setCell ⟨g, 0, none⟩ b0).setCell ⟨g, 1, none⟩ b1).setCell ⟨g, 2, none⟩ b2).setCell ⟨g, 3, none⟩ b3) g t #[b0, b1, b2, b3] := by
  have := (((h.put 0 b0).put 1 b1).put 2 b2).put 3 b3
  simpa using this
theorem below4 {a w : World} {B g : Nat} (b0 b1 b2 b3 : Value) (h : Below B a w) (hg : B ≤ g) : Below B a ((((w.setCell ⟨g, 0, none⟩ b0).setCell ⟨g, 1, none⟩ b1).setCell ⟨g, 2, none⟩ b2).setCell ⟨g, 3, none⟩ b3) :=
  (((h.setCell (p := ⟨g, 0, none⟩) hg _).setCell (p := ⟨g, 1, none⟩) hg _).setCell (p := ⟨g, 2, none⟩) hg _).setCell (p := ⟨g, 3, none⟩) hg _
theorem openC_none {bs : List UInt8} {k k2 : Nat} {e z : Int} {ck : Chk} (h : openC bs k e = (ck, k2, z)) (hz : z ≠ 0) : ck = Chk.none := by
  unfold openC at h
  split at h
  · rename_i h0
    rw [h] at h0
    exact absurd h0 hz
  · exact (congrArg Prod.fst h).symm
set_option maxRecDepth 20000 in
set_option maxHeartbeats 8000000 in
theorem chunkOpens_walk {w : World} {A : Option Addr} {bs : List UInt8} {c : Nat} (h : Rd w 0 w.heap.size A c (bv bs)) :
    Calls Tryz.prog 6 #[.slice A bs.length c] w fun e w' => e = .returned (.bool true) ∧ Below w.heap.size w w' := by
  have hl := h.len
  have hm := h.cap
  rw [bv_length] at hl
  have HAW := Lib.hid (awake_any17 (w := w))
  have HR : Hid (∀ W, Below w.heap.size w W → Rd W 0 W.heap.size A c (bv bs)) := fun W hW => (h.below hW (Nat.le_refl _)).wide (Nat.le_refl _) hW.size
  clear h
  go_enter Tryz.func6, Tryz.ntmps6
  go_wp2_with fail
  refine HAW.out.mono ?_
  rintro r w1 ⟨rfl, hb1⟩
  have B1 := Lib.hid hb1
  have hs1 := hb1.size
  have HAW2 := Lib.hid (awake_any17 (w := w1))
  clear hb1 HAW
  by_cases hlen : bs.length ≤ 2000
  · have ilen : ¬ (2000 : Int) < (bs.length : Int) := by omega
    have HN := Lib.hid (new_any bs w1 (HR.out w1 B1.out) (by omega))
    go_wp2_with fail
    refine HN.out.mono ?_
    rintro r w2 ⟨g, rfl, hcu, hb2⟩
    have B2 : Hid (Below w1.heap.size w1 w2) := hb2
    have hs2 := hb2.size
    have hgb := hcu.base
    have HOP := Lib.hid (open_v hcu (by omega))
    obtain ⟨C, hC⟩ : ∃ C, openC bs 0 0 = C := ⟨_, rfl⟩
    obtain ⟨ck, k2, e⟩ := C
    rw [hC] at HOP
    simp only at HOP
    have HC := Lib.hid hC
    clear hcu hb2 HN hC
    go_wp2_with fail
    refine HOP.out.mono ?_
    rintro r w3 ⟨G, rfl, hG, hck, hcu3, hg3⟩
    have B3 : Hid (Below w1.heap.size w1 w3) := B2.out.grown hg3 hs2 (fun q hq => by cases hq; exact hgb)
    have HCK := Lib.hid hck
    have HCU := Lib.hid hcu3
    have HGD := Lib.hid (good_any hcu3)
    clear hck hcu3 hg3 HOP
    go_wp2_with fail
    refine HGD.out.mono ?_
    rintro r w4 ⟨rfl, rfl⟩
    have BW3 : Hid (Below w.heap.size w w3) := B1.out.trans (B3.out.mono hs1)
    have HLN := Lib.hid (len_v HCK.out)
    have HKN : Hid (∀ W, Below w3.heap.size w3 W → Calls Tryz.prog 25 #[.pointer (some ⟨G, 0, none⟩)] W fun r w' => r = .returned (.int .i64 (ck.kind : Int)) ∧ W = w') := fun W hW => kind_v (HCK.out.below hW)
    by_cases he : e = 0
    · subst he
      obtain ⟨hok, K, hK1, hK2, hdr, hk2, hk2l⟩ := openC_good (Nat.zero_le _) HC.out
      have HAL := Lib.hid (all_v HCK.out (.inl hok))
      have hfv := vals_fits hok
      have hkinds : ck.kind = 1 ∨ ck.kind = 2 ∨ ck.kind = 3 := by rcases hok.kinds with h | h | h <;> omega
      have hhd := open_head hdr
      have hb0 : Hid (0 < bs.length) := by
        have := (List.getElem?_eq_some_iff.1 hhd).1
        exact this
      have hbk : (((UInt8.ofNat ck.kind).toNat : Nat) : Int) = (ck.kind : Int) := by
        rcases hkinds with e | e | e <;> rw [e] <;> rfl
      have HB0 : Hid (∀ W, Below w.heap.size w W → ∃ b off, A = some ⟨b, off, none⟩ ∧ W.cell? ⟨b, off, none⟩ = some (.int .u8 (ck.kind : Int))) := fun W hW => by
        obtain ⟨b, off, e1, _, _, hcc⟩ := (HR.out W hW).byte hb0.out
        have e2 : bs[0]'hb0.out = UInt8.ofNat ck.kind := by
          rw [List.getElem?_eq_getElem hb0.out] at hhd
          exact Option.some.inj hhd
        rw [e2, hbk] at hcc
        exact ⟨b, off, e1, hcc⟩
      have HPC : Hid (ck.kind = 1 → codeL (valsC ck) ⟨1, 4, 0, []⟩ = bs.take k2 ∧ kindK (textsL (valsC ck)) ⟨1, 4, 0, []⟩ = 1 ∧ (payK (textsL (valsC ck)) ⟨1, 4, 0, []⟩ 1).length ≤ 2000) := fun h1 => by
        obtain ⟨q1, q2, q3⟩ := plain_code hok h1 K ⟨1, 4, 0, []⟩ rfl
        have e1 : bs.take k2 = chkB K ck := by
          rw [List.drop_zero] at hdr
          rw [hk2, Nat.zero_add]
          conv => lhs; rw [hdr]
          rw [List.take_left]
        refine ⟨by rw [q1, e1], q2, ?_⟩
        have : (chkB K ck).length ≤ bs.length := by omega
        omega
      have HK2 := Lib.hid hk2l
      have HFV := Lib.hid hfv
      have HKI := Lib.hid hkinds
      have HLT0 := hb0
      clear hok hdr hk2 hk2l hfv hhd hbk hb0 HGD hkinds
      generalize hkd : ck.kind = kd at *
      go_wp2_with fail
      refine HAL.out.mono ?_
      rintro r w4 ⟨A4, c4, rfl, hrow, hb4, -⟩
      have B4 : Hid (Below w3.heap.size w3 w4) := hb4
      have BW4 : Hid (Below w.heap.size w w4) := BW3.out.trans (hb4.mono BW3.out.size)
      have HROW := Lib.hid hrow
      have HK4 := Lib.hid (HKN.out w4 hb4)
      have hs4 := hb4.size
      have hbc := build_cod
      obtain ⟨w5, hw5⟩ : ∃ w5, w4.alloc (.cells #[.int .i64 0, .int .i64 0, .int .i64 0, .slice none 0 0] 25) = w5 := ⟨_, rfl⟩
      have hbx : Blk w5 w4.heap.size 25 #[.int .i64 0, .int .i64 0, .int .i64 0, .slice none 0 0] := by rw [← hw5]; exact Blk.new w4 _ _
      obtain ⟨w6, hw6⟩ : ∃ w6, (((w5.setCell ⟨w4.heap.size, 0, none⟩ (.int .i64 (kd : Int))).setCell ⟨w4.heap.size, 1, none⟩ (.int .i64 4)).setCell ⟨w4.heap.size, 2, none⟩ (.int .i64 0)).setCell ⟨w4.heap.size, 3, none⟩ (.slice none 0 0) = w6 := ⟨_, rfl⟩
      have hbx6 : Blk w6 w4.heap.size 25 #[.int .i64 (kd : Int), .int .i64 4, .int .i64 0, .slice none 0 0] := by rw [← hw6]; exact put4 _ _ _ _ hbx
      have B6 : Hid (Below w4.heap.size w4 w6) := by
        unfold Hid
        rw [← hw6, ← hw5]
        exact below4 _ _ _ _ ((Below.refl _ _).alloc (Nat.le_refl _) _) (Nat.le_refl _)
      have x0 : w5.cell? ⟨w4.heap.size, 0, none⟩ = some (.int .i64 0) := hbx.cell 0
      have x1 : w5.cell? ⟨w4.heap.size, 1, none⟩ = some (.int .i64 0) := hbx.cell 1
      have x2 : w5.cell? ⟨w4.heap.size, 2, none⟩ = some (.int .i64 0) := hbx.cell 2
      have x3 : w5.cell? ⟨w4.heap.size, 3, none⟩ = some (.slice none 0 0) := hbx.cell 3
      have f0 := hbx.frozen 0
      have f1 := hbx.frozen 1
      have f2 := hbx.frozen 2
      have f3 := hbx.frozen 3
      have HBX6 := Lib.hid hbx6
      have hs6 := B6.out.size
      clear hrow hb4 HAL hbx hbx6
      go_wp2_with fail
      refine HK4.out.mono ?_
      rintro r w7 ⟨rfl, rfl⟩
      go_wp2_with fail
      have BW6 : Hid (Below w.heap.size w w6) := BW4.out.trans (B6.out.mono BW4.out.size)
      have B36 : Hid (Below w3.heap.size w3 w6) := B4.out.trans (B6.out.mono hs4)
      obtain ⟨b, off, rfl, hcb⟩ := HB0.out w6 BW6.out
      have HBY : Hid (∀ W, Below w6.heap.size w6 W → W.cell? ⟨b, off, none⟩ = some (.int .u8 (kd : Int))) := fun W hW => by
        obtain ⟨b', off', e, hh⟩ := HB0.out W (BW6.out.trans (hW.mono BW6.out.size))
        injection e with e
        injection e with e1 e2
        rw [e1, e2]
        exact hh
      have HCF : Hid (∀ W, Below w6.heap.size w6 W → W.cell? ⟨w4.heap.size, 0, none⟩ = some (.int .i64 (kd : Int)) ∧ W.cell? ⟨w4.heap.size, 1, none⟩ = some (.int .i64 4) ∧ W.cell? ⟨w4.heap.size, 2, none⟩ = some (.int .i64 0) ∧ W.cell? ⟨w4.heap.size, 3, none⟩ = some (.slice none 0 0)) := fun W hW => ⟨(HBX6.out.below hW HBX6.out.lt).cell 0, (HBX6.out.below hW HBX6.out.lt).cell 1, (HBX6.out.below hW HBX6.out.lt).cell 2, (HBX6.out.below hW HBX6.out.lt).cell 3⟩
      have HKW : Hid (∀ W, Below w6.heap.size w6 W → Calls Tryz.prog 25 #[.pointer (some ⟨G, 0, none⟩)] W fun r w' => r = .returned (.int .i64 (kd : Int)) ∧ W = w') := fun W hW => HKN.out W (B36.out.trans (hW.mono B36.out.size))
      have HRW : Hid (∀ W, Below w6.heap.size w6 W → Row W 0 W.heap.size A4 c4 (valsC ck)) := fun W hW => (HROW.out.below (B6.out.trans (hW.mono hs6)) (Nat.le_refl _)).wide (Nat.zero_le _) (by have := hW.size; omega)
      have HCOK : Hid (CoOk ⟨(kd : Int), 4, 0, []⟩) := ⟨by show (0 : Int) ≤ (kd : Int); omega, by show (kd : Int) ≤ 3; have := HKI.out; omega, by simp, by simp, by simp, by simp, by simp⟩
      have HRG : Hid (∀ W, Below w6.heap.size w6 W → Calls Tryz.prog 13 #[.slice A4 (valsC ck).length c4, .agg #[.int .i64 (kd : Int), .int .i64 4, .int .i64 0, .slice none 0 0]] W fun r w' => r = .returned (.bool true) ∧ Below W.heap.size W w') := fun W hW => by
        have := refRight_v (w := W) (valsC ck) ⟨(kd : Int), 4, 0, []⟩ (HRW.out W hW) (Rd.nil _ _ _)
        rw [decide_eq_true (show FitsV (valsC ck) ∧ CoOk ⟨(kd : Int), 4, 0, []⟩ from ⟨HFV.out, HCOK.out⟩)] at this
        exact this
      have hd1 : decide ((kd : Int) < 1) = false := decide_eq_false (by have := HKI.out; omega)
      have hd3 : decide ((3 : Int) < (kd : Int)) = false := decide_eq_false (by have := HKI.out; omega)
      have hwk : IntKind.i64.wrap (kd : Int) = (kd : Int) := IntWalk.i64_in _ (by have := HKI.out; omega)
      have HBLN : Hid (0 < bs.length) := by obtain ⟨b', off', e, hh⟩ := HB0.out w6 BW6.out; exact HLT0.out
      have ib0 : (0 : Int) < (bs.length : Int) := by have := HBLN.out; omega
      have nb0 : 0 < bs.length := HBLN.out
      have nb1 : bs.length ≠ 0 := by omega
      have nb2 : bs ≠ [] := fun h => by rw [h] at nb0; exact absurd nb0 (by simp)
      clear x0 x1 x2 x3 f0 f1 f2 f3 hbc hcb HK4 hw5 hw6
      have KD : Hid (Below w6.heap.size w6 w6.drew) := (Below.refl _ _).drew
      refine wp_region_held_drew (S := fun w' => Below w6.heap.size w6 w') (by kernel_rfl) KD.out (fun hHeld => ?_)
      refine wpAnyH_take (i := 0) (oi := _) (v := ?_) rfl (by kernel_rfl) (by kernel_rfl) (by kernel_rfl) (fun _ _ _ h => h) (Or.inl ⟨by rfl, ?_⟩) hHeld ?_
      rotate_left
      focus (intro W hSw; obtain ⟨q0, q1, q2, q3⟩ := HCF.out W hSw; have qb := HBY.out W hSw; go_simp; try with_reducible rfl)
      try simp only [List.getElem_toArray, List.getElem_cons_zero, List.getElem_cons_succ, Act.put, List.setIfInBounds_toArray, List.set_cons_zero, List.set_cons_succ]
      refine wpAnyH_take (i := 1) (oi := _) (v := ?_) rfl (by kernel_rfl) (by kernel_rfl) (by kernel_rfl) (fun _ _ _ h => h) (Or.inl ⟨by rfl, ?_⟩) hHeld ?_
      rotate_left
      focus (intro W hSw; obtain ⟨q0, q1, q2, q3⟩ := HCF.out W hSw; have qb := HBY.out W hSw; go_simp; try with_reducible rfl)
      try simp only [List.getElem_toArray, List.getElem_cons_zero, List.getElem_cons_succ, Act.put, List.setIfInBounds_toArray, List.set_cons_zero, List.set_cons_succ]
      obtain ⟨wd, hwd⟩ : ∃ q, w6.drew = q := ⟨_, rfl⟩
      rw [hwd] at hHeld ⊢
      clear KD hwd
      have K_wd := Lib.hid hHeld
      refine wpAnyH_ready (rs := [2]) (by kernel_rfl) (by simp) ?_
      refine AllReadyH.cons (o := _) rfl (fun K hK => ?_) AllReadyH.nil
      go_simp
      refine (HRG.out _ K_wd.out).mono ?_
      rintro r v1 ⟨rfl, hb_v1⟩
      have s_v1 : wd.heap.size ≤ v1.heap.size := hb_v1.size
      have K_v1 : Hid (Below w6.heap.size w6 v1) := Lib.hid (K_wd.out.trans (hb_v1.mono K_wd.out.size))
      clear hb_v1
      refine hK.out _ _ K_v1.out (fun hHeld => ?_)
      clear hK K
      try simp only [List.getElem_toArray, List.getElem_cons_zero, List.getElem_cons_succ, Act.put, List.setIfInBounds_toArray, List.set_cons_zero, List.set_cons_succ]
      refine wpAnyH_take (i := 3) (oi := _) (v := ?_) rfl (by kernel_rfl) (by kernel_rfl) (by kernel_rfl) (fun _ _ _ h => h) (Or.inl ⟨by rfl, ?_⟩) hHeld ?_
      rotate_left
      focus (intro W hSw; obtain ⟨q0, q1, q2, q3⟩ := HCF.out W hSw; have qb := HBY.out W hSw; go_simp; try with_reducible rfl)
      try simp only [List.getElem_toArray, List.getElem_cons_zero, List.getElem_cons_succ, Act.put, List.setIfInBounds_toArray, List.set_cons_zero, List.set_cons_succ]
      refine wpAnyH_take (i := 4) (oi := _) (v := ?_) rfl (by kernel_rfl) (by kernel_rfl) (by kernel_rfl) (fun _ _ _ h => h) (Or.inl ⟨by rfl, ?_⟩) hHeld ?_
      rotate_left
      focus (intro W hSw; obtain ⟨q0, q1, q2, q3⟩ := HCF.out W hSw; have qb := HBY.out W hSw; go_simp; try with_reducible rfl)
      try simp only [List.getElem_toArray, List.getElem_cons_zero, List.getElem_cons_succ, Act.put, List.setIfInBounds_toArray, List.set_cons_zero, List.set_cons_succ]
      refine wpAnyH_take (i := 5) (oi := _) (v := ?_) rfl (by kernel_rfl) (by kernel_rfl) (by kernel_rfl) (fun _ _ _ h => h) (Or.inl ⟨by rfl, ?_⟩) hHeld ?_
      rotate_left
      focus (intro W hSw; obtain ⟨q0, q1, q2, q3⟩ := HCF.out W hSw; have qb := HBY.out W hSw; go_simp; try with_reducible rfl)
      try simp only [List.getElem_toArray, List.getElem_cons_zero, List.getElem_cons_succ, Act.put, List.setIfInBounds_toArray, List.set_cons_zero, List.set_cons_succ]
      refine wpAnyH_ready (rs := [6]) (by kernel_rfl) (by simp) ?_
      refine AllReadyH.cons (o := _) rfl (fun K hK => ?_) AllReadyH.nil
      go_simp
      refine (HKW.out _ K_v1.out).mono ?_
      rintro r v2 ⟨rfl, he_v2⟩
      have hb_v2 : Below v1.heap.size v1 v2 := by rw [← he_v2]; exact Below.refl _ _
      clear he_v2
      have s_v2 : v1.heap.size ≤ v2.heap.size := hb_v2.size
      have K_v2 : Hid (Below w6.heap.size w6 v2) := Lib.hid (K_v1.out.trans (hb_v2.mono K_v1.out.size))
      clear hb_v2
      refine hK.out _ _ K_v2.out (fun hHeld => ?_)
      clear hK K
      try simp only [List.getElem_toArray, List.getElem_cons_zero, List.getElem_cons_succ, Act.put, List.setIfInBounds_toArray, List.set_cons_zero, List.set_cons_succ]
      refine wpAnyH_take (i := 7) (oi := _) (v := ?_) rfl (by kernel_rfl) (by kernel_rfl) (by kernel_rfl) (fun _ _ _ h => h) (Or.inl ⟨by rfl, ?_⟩) hHeld ?_
      rotate_left
      focus (intro W hSw; obtain ⟨q0, q1, q2, q3⟩ := HCF.out W hSw; have qb := HBY.out W hSw; go_simp; try with_reducible rfl)
      try simp only [List.getElem_toArray, List.getElem_cons_zero, List.getElem_cons_succ, Act.put, List.setIfInBounds_toArray, List.set_cons_zero, List.set_cons_succ]
      refine wpAnyH_take (i := 8) (oi := _) (v := ?_) rfl (by kernel_rfl) (by kernel_rfl) (by kernel_rfl) (fun _ _ _ h => h) (Or.inl ⟨by rfl, ?_⟩) hHeld ?_
      rotate_left
      focus (intro W hSw; obtain ⟨q0, q1, q2, q3⟩ := HCF.out W hSw; have qb := HBY.out W hSw; go_simp; try with_reducible rfl)
      try simp only [List.getElem_toArray, List.getElem_cons_zero, List.getElem_cons_succ, Act.put, List.setIfInBounds_toArray, List.set_cons_zero, List.set_cons_succ]
      refine wpAnyH_take (i := 9) (oi := _) (v := ?_) rfl (by kernel_rfl) (by kernel_rfl) (by kernel_rfl) (fun _ _ _ h => h) (Or.inl ⟨by rfl, ?_⟩) hHeld ?_
      rotate_left
      focus (intro W hSw; obtain ⟨q0, q1, q2, q3⟩ := HCF.out W hSw; have qb := HBY.out W hSw; go_simp; try with_reducible rfl)
      try simp only [List.getElem_toArray, List.getElem_cons_zero, List.getElem_cons_succ, Act.put, List.setIfInBounds_toArray, List.set_cons_zero, List.set_cons_succ]
      refine wpAnyH_take (i := 10) (oi := _) (v := ?_) rfl (by kernel_rfl) (by kernel_rfl) (by kernel_rfl) (fun _ _ _ h => h) (Or.inl ⟨by rfl, ?_⟩) hHeld ?_
      rotate_left
      focus (intro W hSw; obtain ⟨q0, q1, q2, q3⟩ := HCF.out W hSw; have qb := HBY.out W hSw; go_simp; try with_reducible rfl)
      try simp only [List.getElem_toArray, List.getElem_cons_zero, List.getElem_cons_succ, Act.put, List.setIfInBounds_toArray, List.set_cons_zero, List.set_cons_succ]
      refine wpAnyH_ready (rs := [11]) (by kernel_rfl) (by simp) ?_
      refine AllReadyH.cons (o := _) rfl (fun K hK => ?_) AllReadyH.nil
      go_simp
      refine (HKW.out _ K_v2.out).mono ?_
      rintro r v3 ⟨rfl, he_v3⟩
      have hb_v3 : Below v2.heap.size v2 v3 := by rw [← he_v3]; exact Below.refl _ _
      clear he_v3
      have s_v3 : v2.heap.size ≤ v3.heap.size := hb_v3.size
      have K_v3 : Hid (Below w6.heap.size w6 v3) := Lib.hid (K_v2.out.trans (hb_v3.mono K_v2.out.size))
      clear hb_v3
      refine hK.out _ _ K_v3.out (fun hHeld => ?_)
      clear hK K
      try simp only [List.getElem_toArray, List.getElem_cons_zero, List.getElem_cons_succ, Act.put, List.setIfInBounds_toArray, List.set_cons_zero, List.set_cons_succ]
      refine wpAnyH_take (i := 12) (oi := _) (v := ?_) rfl (by kernel_rfl) (by kernel_rfl) (by kernel_rfl) (fun _ _ _ h => h) (Or.inl ⟨by rfl, ?_⟩) hHeld ?_
      rotate_left
      focus (intro W hSw; obtain ⟨q0, q1, q2, q3⟩ := HCF.out W hSw; have qb := HBY.out W hSw; go_simp; try with_reducible rfl)
      try simp only [List.getElem_toArray, List.getElem_cons_zero, List.getElem_cons_succ, Act.put, List.setIfInBounds_toArray, List.set_cons_zero, List.set_cons_succ]
      refine wpAnyH_take (i := 13) (oi := _) (v := ?_) rfl (by kernel_rfl) (by kernel_rfl) (by kernel_rfl) (fun _ _ _ h => h) (Or.inl ⟨by rfl, ?_⟩) hHeld ?_
      rotate_left
      focus (intro W hSw; obtain ⟨q0, q1, q2, q3⟩ := HCF.out W hSw; have qb := HBY.out W hSw; go_simp; try with_reducible rfl)
      try simp only [List.getElem_toArray, List.getElem_cons_zero, List.getElem_cons_succ, Act.put, List.setIfInBounds_toArray, List.set_cons_zero, List.set_cons_succ]
      refine wpAnyH_take (i := 14) (oi := _) (v := ?_) rfl (by kernel_rfl) (by kernel_rfl) (by kernel_rfl) (fun _ _ _ h => h) (Or.inl ⟨by rfl, ?_⟩) hHeld ?_
      rotate_left
      focus (intro W hSw; obtain ⟨q0, q1, q2, q3⟩ := HCF.out W hSw; have qb := HBY.out W hSw; go_simp; try with_reducible rfl)
      try simp only [List.getElem_toArray, List.getElem_cons_zero, List.getElem_cons_succ, Act.put, List.setIfInBounds_toArray, List.set_cons_zero, List.set_cons_succ]
      refine wpAnyH_take (i := 15) (oi := _) (v := ?_) rfl (by kernel_rfl) (by kernel_rfl) (by kernel_rfl) (fun _ _ _ h => h) (Or.inl ⟨by rfl, ?_⟩) hHeld ?_
      rotate_left
      focus (intro W hSw; obtain ⟨q0, q1, q2, q3⟩ := HCF.out W hSw; have qb := HBY.out W hSw; go_simp; try with_reducible rfl)
      try simp only [List.getElem_toArray, List.getElem_cons_zero, List.getElem_cons_succ, Act.put, List.setIfInBounds_toArray, List.set_cons_zero, List.set_cons_succ]
      refine wpAnyH_take (i := 16) (oi := _) (v := ?_) rfl (by kernel_rfl) (by kernel_rfl) (by kernel_rfl) (fun _ _ _ h => h) (Or.inl ⟨by rfl, ?_⟩) hHeld ?_
      rotate_left
      focus (intro W hSw; obtain ⟨q0, q1, q2, q3⟩ := HCF.out W hSw; have qb := HBY.out W hSw; go_simp; try with_reducible rfl)
      try simp only [List.getElem_toArray, List.getElem_cons_zero, List.getElem_cons_succ, Act.put, List.setIfInBounds_toArray, List.set_cons_zero, List.set_cons_succ]
      refine wpAnyH_take (i := 17) (oi := _) (v := ?_) rfl (by kernel_rfl) (by kernel_rfl) (by kernel_rfl) (fun _ _ _ h => h) (Or.inl ⟨by rfl, ?_⟩) hHeld ?_
      rotate_left
      focus (intro W hSw; obtain ⟨q0, q1, q2, q3⟩ := HCF.out W hSw; have qb := HBY.out W hSw; go_simp; try with_reducible rfl)
      try simp only [List.getElem_toArray, List.getElem_cons_zero, List.getElem_cons_succ, Act.put, List.setIfInBounds_toArray, List.set_cons_zero, List.set_cons_succ]
      refine wpAnyH_take (i := 18) (oi := _) (v := ?_) rfl (by kernel_rfl) (by kernel_rfl) (by kernel_rfl) (fun _ _ _ h => h) (Or.inl ⟨by rfl, ?_⟩) hHeld ?_
      rotate_left
      focus (intro W hSw; obtain ⟨q0, q1, q2, q3⟩ := HCF.out W hSw; have qb := HBY.out W hSw; go_simp; try with_reducible rfl)
      try simp only [List.getElem_toArray, List.getElem_cons_zero, List.getElem_cons_succ, Act.put, List.setIfInBounds_toArray, List.set_cons_zero, List.set_cons_succ]
      refine wpAnyH_take (i := 19) (oi := _) (v := ?_) rfl (by kernel_rfl) (by kernel_rfl) (by kernel_rfl) (fun _ _ _ h => h) (Or.inl ⟨by rfl, ?_⟩) hHeld ?_
      rotate_left
      focus (intro W hSw; obtain ⟨q0, q1, q2, q3⟩ := HCF.out W hSw; have qb := HBY.out W hSw; go_simp; try with_reducible rfl)
      try simp only [List.getElem_toArray, List.getElem_cons_zero, List.getElem_cons_succ, Act.put, List.setIfInBounds_toArray, List.set_cons_zero, List.set_cons_succ]
      refine wpAnyH_ready (rs := [20]) (by kernel_rfl) (by simp) ?_
      refine AllReadyH.cons (o := _) rfl (fun K hK => ?_) AllReadyH.nil
      go_simp
      refine (HKW.out _ K_v3.out).mono ?_
      rintro r v4 ⟨rfl, he_v4⟩
      have hb_v4 : Below v3.heap.size v3 v4 := by rw [← he_v4]; exact Below.refl _ _
      clear he_v4
      have s_v4 : v3.heap.size ≤ v4.heap.size := hb_v4.size
      have K_v4 : Hid (Below w6.heap.size w6 v4) := Lib.hid (K_v3.out.trans (hb_v4.mono K_v3.out.size))
      clear hb_v4
      refine hK.out _ _ K_v4.out (fun hHeld => ?_)
      clear hK K
      try simp only [List.getElem_toArray, List.getElem_cons_zero, List.getElem_cons_succ, Act.put, List.setIfInBounds_toArray, List.set_cons_zero, List.set_cons_succ]
      refine wpAnyH_take (i := 21) (oi := _) (v := ?_) rfl (by kernel_rfl) (by kernel_rfl) (by kernel_rfl) (fun _ _ _ h => h) (Or.inl ⟨by rfl, ?_⟩) hHeld ?_
      rotate_left
      focus (intro W hSw; obtain ⟨q0, q1, q2, q3⟩ := HCF.out W hSw; have qb := HBY.out W hSw; go_simp; try with_reducible rfl)
      try simp only [List.getElem_toArray, List.getElem_cons_zero, List.getElem_cons_succ, Act.put, List.setIfInBounds_toArray, List.set_cons_zero, List.set_cons_succ]
      refine wpAnyH_take (i := 22) (oi := _) (v := ?_) rfl (by kernel_rfl) (by kernel_rfl) (by kernel_rfl) (fun _ _ _ h => h) (Or.inl ⟨by rfl, ?_⟩) hHeld ?_
      rotate_left
      focus (intro W hSw; obtain ⟨q0, q1, q2, q3⟩ := HCF.out W hSw; have qb := HBY.out W hSw; go_simp; try with_reducible rfl)
      try simp only [List.getElem_toArray, List.getElem_cons_zero, List.getElem_cons_succ, Act.put, List.setIfInBounds_toArray, List.set_cons_zero, List.set_cons_succ]
      refine wpAnyH_done (by kernel_rfl) ?_ _
      go_wp2_with fail
      refine (HKW.out _ K_v4.out).mono ?_
      rintro r wk ⟨rfl, hwke⟩
      have KW : Hid (Below w6.heap.size w6 wk) := by unfold Hid; rw [← hwke]; exact K_v4.out
      clear hwke
      have BWk : Hid (Below w.heap.size w wk) := BW6.out.trans (KW.out.mono BW6.out.size)
      by_cases hk1 : kd = 1
      · subst hk1
        obtain ⟨q1, q2, q3⟩ := HPC.out rfl
        have HFW := Lib.hid (refFew_v (w := wk) (valsC ck) (HRW.out wk KW.out))
        have HQ1 := Lib.hid q1
        have HQ2 := Lib.hid q2
        have HQ3 := Lib.hid q3
        clear q1 q2 q3
        go_wp2_with fail
        refine HFW.out.mono ?_
        rintro r wk2 ⟨⟨b2, rfl, hbf⟩, hwk2⟩
        have KW2 : Hid (Below w6.heap.size w6 wk2) := by unfold Hid; rw [← hwk2]; exact KW.out
        have BWk2 : Hid (Below w.heap.size w wk2) := BW6.out.trans (KW2.out.mono BW6.out.size)
        clear hwk2 HFW
        cases b2 with
        | false =>
          go_wp2_with fail
          go_ret
          exact ⟨rfl, BWk2.out⟩
        | true =>
          obtain ⟨hL, -⟩ := hbf rfl
          obtain ⟨y0, y1, y2, y3⟩ := HCF.out wk2 KW2.out
          have HRC := Lib.hid (refCode_v (w := wk2) (A := A4) (c := c4) (B := none) (d := 0) ⟨HRW.out wk2 KW2.out, Rd.nil _ _ _, (fun z hz => by cases hz), Nat.zero_le _⟩ (o := ⟨1, 4, 0, []⟩) rfl ⟨HFV.out, by decide⟩ hL (by simp) (by rw [HQ2.out]; have := HQ3.out; omega))
          rw [HQ1.out] at HRC
          have hk2 := HK2.out
          have htl : (bs.take k2).length = k2 := by rw [List.length_take]; omega
          rw [htl] at HRC
          go_wp2_with fail
          refine HRC.out.mono ?_
          rintro r wc ⟨Ac, cc, rfl, hoc, hbc⟩
          have KC : Hid (Below w6.heap.size w6 wc) := KW2.out.trans (hbc.mono KW2.out.size)
          have BWc : Hid (Below w.heap.size w wc) := BW6.out.trans (KC.out.mono BW6.out.size)
          have HLE := Lib.hid (left_any (HCU.out.grown (below_gb_none (Nat.le_refl _) (B36.out.trans (KC.out.mono B36.out.size))) (fun x hx => by cases hx)))
          have HOC := Lib.hid hoc
          clear hoc hbc HRC y0 y1 y2 y3
          have hsub : (bs.length : Int) - ((bs.length - k2 : Nat) : Int) = (k2 : Int) := by omega
          go_wp2_with fail
          refine HLE.out.mono ?_
          rintro r wl ⟨rfl, m, rfl⟩
          have HSM := Lib.hid (same_take (w := wc.drewN m) (bs.take k2) bs k2 (by omega) ((Rd.of_own HOC.out).drewN m) ((HR.out wc BWc.out).drewN m) rfl)
          rw [htl] at HSM
          have ik0 : (0 : Int) ≤ (k2 : Int) := by omega
          have ikc : (k2 : Int) ≤ (c : Int) := by omega
          go_wp2_with fail
          refine HSM.out.mono ?_
          rintro r wm ⟨rfl, rfl⟩
          go_wp2_with fail
          go_ret
          exact ⟨rfl, below_drewN' BWc.out m⟩
      · have ik1 : ((kd : Int) != 1) = true := by rw [bne_iff_ne]; omega
        go_wp2_with fail
        go_ret
        exact ⟨rfl, BWk.out⟩
    · have hz : ck = Chk.none := openC_none HC.out he
      subst hz
      have he0 : (e == 0) = false := beq_eq_false_iff_ne.2 he
      have HAL := Lib.hid (all_v HCK.out (.inr rfl))
      have hvn : (valsC Chk.none).length = 0 := rfl
      rw [hvn] at HAL
      have hln : ((Chk.none.there.length : Nat) : Int) = 0 := rfl
      have hkn : ((Chk.none.kind : Nat) : Int) = 0 := rfl
      rw [hln] at HLN
      rw [hkn] at HKN
      go_wp2_with fail
      refine HLN.out.mono ?_
      rintro r w4 ⟨rfl, rfl⟩
      go_wp2_with fail
      refine HAL.out.mono ?_
      rintro r w4 ⟨A4, c4, rfl, -, hb4, -⟩
      have HK4 := Lib.hid (HKN.out w4 hb4)
      go_wp2_with fail
      refine HK4.out.mono ?_
      rintro r w5 ⟨rfl, rfl⟩
      go_wp2_with fail
      go_ret
      exact ⟨rfl, BW3.out.trans (hb4.mono BW3.out.size)⟩
  · have ilen : (2000 : Int) < (bs.length : Int) := by omega
    go_wp2_with fail
    refine HAW2.out.mono ?_
    rintro r w4 ⟨rfl, hb4⟩
    go_wp2_with fail
    go_ret
    exact ⟨rfl, B1.out.trans (hb4.mono hs1)⟩
set_option maxRecDepth 100000 in
theorem chunkOpens_lifted (os : Os) (started : os.Started) (H : Type) (enc : TypeId × Value → H) :
    ReturnsInHanded {} Tryz.checked os 6 .any (Rows.chunkOpensSpec.pre6 enc Tryz.prog Tryz.f6 Rows.chunkOpensRow.domain false) (Rows.chunkOpensSpec.post enc Tryz.prog Tryz.f6 false true false false) := by
  refine returnsInHanded_of_change (C := Tryz.checked) own started (by kernel_rfl) Tryz.func6
    (ChangeSpec.witness6 (enc := enc) (C := Tryz.checked) false ⟨#[], #[.slice none 0 0], []⟩ 8 (by kernel_rfl) (by kernel_rfl) (by kernel_rfl) (by kernel_rfl)) ?_
  intro W base args ds gs before hval0 hW hcnd _
  have hval : ∀ (j : Nat) t v, Tryz.f6.params[j]? = some t → args[j]? = some v → Value.okWide Tryz.prog W .any base t v := hval0
  have hW' := hW
  obtain ⟨p, q, hA0, hV, rfl, hfz, hnd⟩ := hW
  have hA : DataW.TrodAll enc Tryz.prog W 0 (fun _ => true) true Tryz.f6.params.toList args.toList ds p := hA0
  have hA1 : DataW.TrodAll enc Tryz.prog W 0 (fun _ => true) true Tryz.f6.params.toList args.toList ds p := hA0
  rw [Tryz.params6] at hA hval
  obtain ⟨v0, vs0, d0, ds0, p0, q0, hargs, rfl, rfl, h0, r0⟩ := trodAll_cons hA
  obtain ⟨rfl, rfl, rfl⟩ := trodAll_nil r0
  obtain rfl : args = #[v0] := by cases args; simp_all
  obtain ⟨rfl, rfl⟩ := trodVars_none hV
  obtain ⟨A0, a0, c0, rfl, w0⟩ := open_bytes Tryz.underlying28 Tryz.underlying5 (by kernel_rfl) (hval 0 28 v0 rfl rfl) h0
  clear hA0 hval0
  refine (chunkOpens_walk (w := W) w0).mono fun e W' ⟨he, bel⟩ => ?_
  subst he
  exact ⟨_, rfl, _, _, _, [], _, [], hW', trodAll_mk1 (shut_bool Tryz.underlying4 _), trodAll_below laidOut bel _ _ _ _ (by kernel_rfl) hA1, rfl, bel.frame _, fun h => by cases h⟩
theorem chunkOpens_over : Rows.chunkOpensRow.holds Tryz.pinned (OpenSpec.ofChange Rows.chunkOpensSpec) :=
  OpenClaim.holds_of_wide 6 Tryz.f6 rfl rfl rfl rfl rfl rfl rfl ⟨rfl, rfl, rfl, rfl, rfl⟩ rfl rfl rfl rfl rfl (by kernel_rfl) Tryz.func6 (by kernel_rfl)
    (of_decide_eq_true (by kernel_rfl)) (by unfold Func.isWrapper; first | (rw [if_pos (by decide +kernel)]; kernel_rfl) | (rw [if_neg (by decide +kernel)]; exact ⟨rfl, rfl⟩))
    (fun os started H enc _ => chunkOpens_lifted os started H enc)
theorem chunkOpens_proved : Rows.ChunkOpensSaid := chunkOpens_over
end Go.Proofs.YtmffpbhiehjlpaaGreat
