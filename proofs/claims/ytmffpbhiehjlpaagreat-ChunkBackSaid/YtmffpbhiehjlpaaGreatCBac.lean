/-
  Values that are coded in whichever way are got as they were, each by its place; nothing is left; no beginning is one; or values are many, or awake says so.
-/
import Derived.Test.YtmffpbhiehjlpaaGreatZ41
import Derived.Test.YtmffpbhiehjlpaaGreatZ42
import Derived.Test.YtmffpbhiehjlpaaGreatZ15
namespace Go.Proofs.YtmffpbhiehjlpaaGreat
set_option linter.unusedSimpArgs false
set_option linter.unusedVariables false
open Go.RowKit Go.ChangeShapes Go.WideShapes Go.ChangeAt
attribute [local go_sem] field_null field_s
set_option maxRecDepth 20000 in
set_option maxHeartbeats 8000000 in
theorem chunkBack_walk {w : World} {A B : Option Addr} {L : List Vl} {o : Co} {c d : Nat} (h : Row w 0 w.heap.size A c L) (hd : Rd w 0 w.heap.size B d (iv o.draws) ∧ Word o.draws) (cut : Nat) (hcut : cut < 65536) :
    Calls Tryz.prog 4 #[.slice A L.length c, .agg #[.int .i64 o.kind, .int .i64 o.block, .int .i64 o.rounds, .slice B o.draws.length d], .int .u16 (cut : Int)] w fun e w' => e = .returned (.bool true) ∧ Below w.heap.size w w' := by
  obtain ⟨hdr, hwd⟩ := hd
  obtain ⟨hl, hm⟩ := h.len
  obtain ⟨kd, bl, ro, ds⟩ := o
  simp only at hdr hwd ⊢
  have hdl := hdr.len
  have hdm := hdr.cap
  rw [iv_length] at hdl
  obtain ⟨w1, hw1⟩ : ∃ w1, w.alloc (.cells #[.int .i64 kd, .int .i64 bl, .int .i64 ro, .slice B ds.length d] 25) = w1 := ⟨_, rfl⟩
  have B1 : Hid (Below w.heap.size w w1) := by unfold Hid; rw [← hw1]; exact (Below.refl _ w).alloc (Nat.le_refl _) _
  have hs1 : w.heap.size < w1.heap.size := by rw [← hw1]; simp
  have hbx : Blk w1 w.heap.size 25 #[.int .i64 kd, .int .i64 bl, .int .i64 ro, .slice B ds.length d] := by rw [← hw1]; exact Blk.new w _ _
  have HBX := Lib.hid hbx
  have HR : Hid (∀ W, Below w.heap.size w W → Row W 0 W.heap.size A c L) := fun W hW => (h.below hW (Nat.le_refl _)).wide (Nat.le_refl _) hW.size
  have HD : Hid (∀ W, Below w.heap.size w W → Rd W 0 W.heap.size B d (iv ds)) := fun W hW => (hdr.below hW (Nat.le_refl _)).wide (Nat.le_refl _) hW.size
  have HWD := Lib.hid hwd
  have HCF : Hid (∀ W, Below w1.heap.size w1 W → W.cell? ⟨w.heap.size, 0, none⟩ = some (.int .i64 kd) ∧ W.cell? ⟨w.heap.size, 1, none⟩ = some (.int .i64 bl) ∧ W.cell? ⟨w.heap.size, 2, none⟩ = some (.int .i64 ro) ∧ W.cell? ⟨w.heap.size, 3, none⟩ = some (.slice B ds.length d)) := fun W hW => ⟨(hbx.below hW hs1).cell 0, (hbx.below hW hs1).cell 1, (hbx.below hW hs1).cell 2, (hbx.below hW hs1).cell 3⟩
  have HAW := Lib.hid (awake_any17 (w := w1))
  clear h hdr hwd hbx
  go_enter Tryz.func4, Tryz.ntmps4
  go_wp2_with fail
  clear hw1
  refine HAW.out.mono ?_
  rintro r w2 ⟨rfl, hb2⟩
  have B2 : Hid (Below w1.heap.size w1 w2) := hb2
  have BW2 : Hid (Below w.heap.size w w2) := B1.out.trans (hb2.mono (Nat.le_of_lt hs1))
  have HFW := Lib.hid (refFew_v (w := w2) L (HR.out w2 BW2.out))
  obtain ⟨e0, e1, e2, e3⟩ := HCF.out w2 hb2
  have HAW2 := Lib.hid (awake_any17 (w := w2))
  have hsz2 := hb2.size
  clear hb2 HAW
  go_wp2_with fail
  refine HFW.out.mono ?_
  rintro r w3 ⟨⟨b, rfl, hbf⟩, rfl⟩
  clear HFW
  cases b with
  | false =>
    go_wp2_with fail
    refine HAW2.out.mono ?_
    rintro r w4 ⟨rfl, hb4⟩
    go_wp2_with fail
    go_ret
    exact ⟨rfl, BW2.out.trans (hb4.mono BW2.out.size)⟩
  | true =>
    obtain ⟨hL, hsum⟩ := hbf rfl
    by_cases hds : ds.length ≤ 60
    · have ids : ¬ (60 : Int) < (ds.length : Int) := by omega
      have HIN : Hid (∀ W, Below w.heap.size w W → CIn W L kd bl ro ds A B c d) := fun W hW => ⟨HR.out W hW, HD.out W hW, HWD.out, by omega⟩
      by_cases hmb : MayBe L ⟨kd, bl, ro, ds⟩
      · have HC := Lib.hid (code_yes (HIN.out w2 BW2.out) (o := ⟨kd, bl, ro, ds⟩) rfl hmb)
        obtain ⟨CL, hCL⟩ : ∃ CL, codeL L ⟨kd, bl, ro, ds⟩ = CL := ⟨_, rfl⟩
        rw [hCL] at HC
        obtain ⟨ck, hck⟩ : ∃ ck, chkOf L ⟨kd, bl, ro, ds⟩ = ck := ⟨_, rfl⟩
        go_wp2_with fail
        refine HC.out.mono ?_
        rintro r w3 ⟨A3, c3, rfl, ho3, hb3, htb⟩
        have HO := Lib.hid (open_code hmb.1 hmb.2 htb)
        have HV := Lib.hid (chkOf_vals hmb.1 hmb.2 htb)
        have HOK := Lib.hid (chkOf_ok hmb.1 hmb.2 htb)
        have HCT : Hid (∀ m, m < CL.length → (openC (CL.take m) 0 0).1 = Chk.none ∧ (openC (CL.take m) 0 0).2.2 ≠ 0) := fun m hm => by rw [← hCL] at hm ⊢; exact cut_code hmb.1 hmb.2 htb hm
        have HTH : Hid (ck.there.length = L.length) := by unfold Hid; rw [← hck, chkOf_there, thereL_length]
        have hkk : (ck.kind : Int) = kindK (textsL L) ⟨kd, bl, ro, ds⟩ := by rw [← hck]; exact chkOf_kind hmb.2
        have hki := kindK_is (textsL L) hmb.2
        have hc0 : CL[0]? = some (UInt8.ofNat ck.kind) := by
          rw [← hCL, codeL, ← hkk, Int.toNat_natCast]
          rfl
        rw [hCL, hck] at HO
        rw [hck] at HV HOK
        have hKI : ck.kind = 1 ∨ ck.kind = 2 ∨ ck.kind = 3 := by omega
        have hbk : (((UInt8.ofNat ck.kind).toNat : Nat) : Int) = (ck.kind : Int) := by
          rcases hKI with e | e | e <;> rw [e] <;> rfl
        have hpos : 0 < CL.length := (List.getElem?_eq_some_iff.1 hc0).1
        have HLL : Hid (CL.length ≤ 1000000) := by rw [← hCL]; exact code_len hmb.1 hmb.2 htb hL (hsum hmb.1)
        obtain ⟨gb, rfl, hgb1, hgb2⟩ := own_spot ho3 hpos
        have HO3 := Lib.hid ho3
        have B3 : Hid (Below w1.heap.size w1 w3) := B2.out.trans (hb3.mono hsz2)
        have BW3 : Hid (Below w.heap.size w w3) := B1.out.trans (B3.out.mono (Nat.le_of_lt hs1))
        have HRB : Hid (∀ W, Below w3.heap.size w3 W → Rd W w2.heap.size w3.heap.size (some ⟨gb, 0, none⟩) c3 (bv CL)) := fun W hW => (Rd.of_own ho3).below hW (Nat.le_refl _)
        have HB0 : Hid (∀ W, Below w3.heap.size w3 W → W.cell? ⟨gb, 0, none⟩ = some (.int .u8 (ck.kind : Int))) := fun W hW => by
          obtain ⟨b, off, e1, _, _, hcc⟩ := (HRB.out W hW).byte hpos
          have e2 : CL[0]'hpos = UInt8.ofNat ck.kind := by
            rw [List.getElem?_eq_getElem hpos] at hc0
            exact Option.some.inj hc0
          rw [e2, hbk] at hcc
          injection e1 with e1
          injection e1 with e3 e4
          rw [e3, e4]
          exact hcc
        have hcl3 : CL.length ≤ c3 := by have := (HRB.out w3 (Below.refl _ _)).len; rwa [bv_length] at this
        have HN := Lib.hid (new_any CL w3 (HRB.out w3 (Below.refl _ _)) (by have := HLL.out; omega))
        have hsz3 := hb3.size
        clear ho3 hb3 HC htb hkk hki hc0 hbk hCL hck
        go_wp2_with fail
        refine HN.out.mono ?_
        rintro r w4 ⟨g, rfl, hcu, hb4⟩
        have B4 : Hid (Below w3.heap.size w3 w4) := hb4
        have hs4 := hb4.size
        have hgb := hcu.base
        have HOP := Lib.hid (open_v hcu HLL.out)
        rw [HO.out] at HOP
        clear hcu hb4 HN
        go_wp2_with fail
        refine HOP.out.mono ?_
        rintro r w5 ⟨G, rfl, hG, hckm, hcu5, hg5⟩
        have B5 : Hid (Below w3.heap.size w3 w5) := B4.out.grown hg5 hs4 (fun q hq => by cases hq; exact hgb)
        have BW5 : Hid (Below w.heap.size w w5) := BW3.out.trans (B5.out.mono BW3.out.size)
        have HCK := Lib.hid hckm
        have HCU := Lib.hid hcu5
        clear hckm hcu5 hg5 HOP
        have HLN : Hid (∀ W, Below w5.heap.size w5 W → Calls Tryz.prog 22 #[.pointer (some ⟨G, 0, none⟩)] W fun r w' => r = .returned (.int .i64 (L.length : Int)) ∧ W = w') := fun W hW => by
          have := len_v (HCK.out.below hW)
          rw [HTH.out] at this
          exact this
        have HKN : Hid (∀ W, Below w5.heap.size w5 W → Calls Tryz.prog 25 #[.pointer (some ⟨G, 0, none⟩)] W fun r w' => r = .returned (.int .i64 (ck.kind : Int)) ∧ W = w') := fun W hW => kind_v (HCK.out.below hW)
        have HAL : Hid (∀ W, Below w5.heap.size w5 W → Calls Tryz.prog 24 #[.pointer (some ⟨G, 0, none⟩)] W fun r w' => ∃ A' c', r = .returned (.slice A' L.length c') ∧ Row w' W.heap.size w'.heap.size A' c' L ∧ Below W.heap.size W w') := fun W hW => by
          refine (all_v (HCK.out.below hW) (.inl HOK.out)).mono ?_
          rw [HV.out]
          rintro r w' ⟨A', c', h1, h2, h3, -⟩
          exact ⟨A', c', h1, h2, h3⟩
        have HEN : Hid (∀ W, Below w5.heap.size w5 W → Calls Tryz.prog 21 #[.pointer (some ⟨g, 0, none⟩)] W fun r w' => r = .returned (.int .i64 0) ∧ Below W.heap.size W w') := fun W hW => by
          refine (end_any (HCU.out.grown (below_gb_none (Nat.le_refl _) hW) (fun x hx => by cases hx))).mono ?_
          rintro r w' ⟨h1, m, rfl⟩
          have e1 : endR CL CL.length 0 = 0 := by simp [endR]
          rw [e1] at h1
          exact ⟨h1, below_drewN' (Below.refl _ _) m⟩
        have HSA : Hid (∀ W A' c', Below w5.heap.size w5 W → Row W 0 W.heap.size A' c' L → Calls Tryz.prog 23 #[.slice A' L.length c', .slice A L.length c] W fun r w' => r = .returned (.bool true) ∧ Below W.heap.size W w') := fun W A' c' hW hr => by
          refine (refSame_v L L hr (HR.out W (BW5.out.trans (hW.mono BW5.out.size)))).mono ?_
          rw [decide_eq_true rfl]
          rintro r w' ⟨h1, m, rfl⟩
          exact ⟨h1, below_drewN' (Below.refl _ _) m⟩
        have HAT : Hid (∀ W, Below w5.heap.size w5 W → ∀ (k : Nat) (hk : k < L.length), Calls Tryz.prog 26 #[.pointer (some ⟨G, 0, none⟩), .int .i64 (k : Int)] W fun r w' => r = .returned (.agg #[.bool L[k].null, .string L[k].s]) ∧ Below W.heap.size W w') := fun W hW k hk =>
          at_v (HCK.out.below hW) (.inl HOK.out) (by rw [HV.out]; exact List.getElem?_eq_getElem hk)
        have HAX : Hid (∀ W, Below w5.heap.size w5 W → ∀ z : Int, (z < 0 ∨ (L.length : Int) ≤ z) → Calls Tryz.prog 26 #[.pointer (some ⟨G, 0, none⟩), .int .i64 z] W fun r w' => r = .returned (.agg #[.bool true, .string ⟨#[]⟩]) ∧ Below W.heap.size W w') := fun W hW z hz =>
          at_none (HCK.out.below hW) z (.inl (by rw [HTH.out]; exact hz))
        have HCW : Hid (∀ W, Below w5.heap.size w5 W → W.cell? ⟨gb, 0, none⟩ = some (.int .u8 (ck.kind : Int))) := fun W hW => HB0.out W (B5.out.trans (hW.mono B5.out.size))
        have hwk : IntKind.i64.wrap (ck.kind : Int) = (ck.kind : Int) := IntWalk.i64_in _ (by omega)
        have nb0 : 0 < CL.length := hpos
        have nb1 : CL.length ≠ 0 := by omega
        have ib0 : (0 : Int) < (CL.length : Int) := by omega
        generalize ck.kind = kk at *
        clear HO HV HOK HTH HO3
        go_wp2_with fail
        have KD : Hid (Below w5.heap.size w5 w5.drew) := (Below.refl _ _).drew
        refine wp_region_held_drew (S := fun w' => Below w5.heap.size w5 w') (by kernel_rfl) KD.out (fun hHeld => ?_)
        refine wpAnyH_take (i := 0) (oi := _) (v := ?_) rfl (by kernel_rfl) (by kernel_rfl) (by kernel_rfl) (fun _ _ _ h => h) (Or.inl ⟨by rfl, ?_⟩) hHeld ?_
        rotate_left
        focus (intro W hSw; have qb := HCW.out W hSw; go_simp; try with_reducible rfl)
        try simp only [List.getElem_toArray, List.getElem_cons_zero, List.getElem_cons_succ, Act.put, List.setIfInBounds_toArray, List.set_cons_zero, List.set_cons_succ]
        refine wpAnyH_take (i := 1) (oi := _) (v := ?_) rfl (by kernel_rfl) (by kernel_rfl) (by kernel_rfl) (fun _ _ _ h => h) (Or.inl ⟨by rfl, ?_⟩) hHeld ?_
        rotate_left
        focus (intro W hSw; have qb := HCW.out W hSw; go_simp; try with_reducible rfl)
        try simp only [List.getElem_toArray, List.getElem_cons_zero, List.getElem_cons_succ, Act.put, List.setIfInBounds_toArray, List.set_cons_zero, List.set_cons_succ]
        refine wpAnyH_take (i := 2) (oi := _) (v := ?_) rfl (by kernel_rfl) (by kernel_rfl) (by kernel_rfl) (fun _ _ _ h => h) (Or.inl ⟨by rfl, ?_⟩) hHeld ?_
        rotate_left
        focus (intro W hSw; have qb := HCW.out W hSw; go_simp; try with_reducible rfl)
        try simp only [List.getElem_toArray, List.getElem_cons_zero, List.getElem_cons_succ, Act.put, List.setIfInBounds_toArray, List.set_cons_zero, List.set_cons_succ]
        refine wpAnyH_take (i := 3) (oi := _) (v := ?_) rfl (by kernel_rfl) (by kernel_rfl) (by kernel_rfl) (fun _ _ _ h => h) (Or.inl ⟨by rfl, ?_⟩) hHeld ?_
        rotate_left
        focus (intro W hSw; have qb := HCW.out W hSw; go_simp; try with_reducible rfl)
        try simp only [List.getElem_toArray, List.getElem_cons_zero, List.getElem_cons_succ, Act.put, List.setIfInBounds_toArray, List.set_cons_zero, List.set_cons_succ]
        obtain ⟨wd, hwd⟩ : ∃ q, w5.drew = q := ⟨_, rfl⟩
        rw [hwd] at hHeld ⊢
        clear KD hwd
        have K_wd := Lib.hid hHeld
        refine wpAnyH_ready (rs := [4]) (by kernel_rfl) (by simp) ?_
        refine AllReadyH.cons (o := _) rfl (fun K hK => ?_) AllReadyH.nil
        go_simp
        refine (HEN.out _ K_wd.out).mono ?_
        rintro r v1 ⟨rfl, hb_v1⟩
        have s_v1 : wd.heap.size ≤ v1.heap.size := hb_v1.size
        have K_v1 : Hid (Below w5.heap.size w5 v1) := Lib.hid (K_wd.out.trans (hb_v1.mono K_wd.out.size))
        clear hb_v1
        refine hK.out _ _ K_v1.out (fun hHeld => ?_)
        clear hK K
        try simp only [List.getElem_toArray, List.getElem_cons_zero, List.getElem_cons_succ, Act.put, List.setIfInBounds_toArray, List.set_cons_zero, List.set_cons_succ]
        refine wpAnyH_take (i := 5) (oi := _) (v := ?_) rfl (by kernel_rfl) (by kernel_rfl) (by kernel_rfl) (fun _ _ _ h => h) (Or.inl ⟨by rfl, ?_⟩) hHeld ?_
        rotate_left
        focus (intro W hSw; have qb := HCW.out W hSw; go_simp; try with_reducible rfl)
        try simp only [List.getElem_toArray, List.getElem_cons_zero, List.getElem_cons_succ, Act.put, List.setIfInBounds_toArray, List.set_cons_zero, List.set_cons_succ]
        refine wpAnyH_take (i := 6) (oi := _) (v := ?_) rfl (by kernel_rfl) (by kernel_rfl) (by kernel_rfl) (fun _ _ _ h => h) (Or.inl ⟨by rfl, ?_⟩) hHeld ?_
        rotate_left
        focus (intro W hSw; have qb := HCW.out W hSw; go_simp; try with_reducible rfl)
        try simp only [List.getElem_toArray, List.getElem_cons_zero, List.getElem_cons_succ, Act.put, List.setIfInBounds_toArray, List.set_cons_zero, List.set_cons_succ]
        refine wpAnyH_take (i := 7) (oi := _) (v := ?_) rfl (by kernel_rfl) (by kernel_rfl) (by kernel_rfl) (fun _ _ _ h => h) (Or.inl ⟨by rfl, ?_⟩) hHeld ?_
        rotate_left
        focus (intro W hSw; have qb := HCW.out W hSw; go_simp; try with_reducible rfl)
        try simp only [List.getElem_toArray, List.getElem_cons_zero, List.getElem_cons_succ, Act.put, List.setIfInBounds_toArray, List.set_cons_zero, List.set_cons_succ]
        refine wpAnyH_take (i := 8) (oi := _) (v := ?_) rfl (by kernel_rfl) (by kernel_rfl) (by kernel_rfl) (fun _ _ _ h => h) (Or.inl ⟨by rfl, ?_⟩) hHeld ?_
        rotate_left
        focus (intro W hSw; have qb := HCW.out W hSw; go_simp; try with_reducible rfl)
        try simp only [List.getElem_toArray, List.getElem_cons_zero, List.getElem_cons_succ, Act.put, List.setIfInBounds_toArray, List.set_cons_zero, List.set_cons_succ]
        refine wpAnyH_take (i := 10) (oi := _) (v := ?_) rfl (by kernel_rfl) (by kernel_rfl) (by kernel_rfl) (fun _ _ _ h => h) (Or.inl ⟨by rfl, ?_⟩) hHeld ?_
        rotate_left
        focus (intro W hSw; have qb := HCW.out W hSw; go_simp; try with_reducible rfl)
        try simp only [List.getElem_toArray, List.getElem_cons_zero, List.getElem_cons_succ, Act.put, List.setIfInBounds_toArray, List.set_cons_zero, List.set_cons_succ]
        refine wpAnyH_take (i := 11) (oi := _) (v := ?_) rfl (by kernel_rfl) (by kernel_rfl) (by kernel_rfl) (fun _ _ _ h => h) (Or.inl ⟨by rfl, ?_⟩) hHeld ?_
        rotate_left
        focus (intro W hSw; have qb := HCW.out W hSw; go_simp; try with_reducible rfl)
        try simp only [List.getElem_toArray, List.getElem_cons_zero, List.getElem_cons_succ, Act.put, List.setIfInBounds_toArray, List.set_cons_zero, List.set_cons_succ]
        refine wpAnyH_ready (rs := [9]) (by kernel_rfl) (by simp) ?_
        refine AllReadyH.cons (o := _) rfl (fun K hK => ?_) AllReadyH.nil
        go_simp
        refine (HLN.out _ K_v1.out).mono ?_
        rintro r v2 ⟨rfl, he_v2⟩
        have hb_v2 : Below v1.heap.size v1 v2 := by rw [← he_v2]; exact Below.refl _ _
        clear he_v2
        have s_v2 : v1.heap.size ≤ v2.heap.size := hb_v2.size
        have K_v2 : Hid (Below w5.heap.size w5 v2) := Lib.hid (K_v1.out.trans (hb_v2.mono K_v1.out.size))
        clear hb_v2
        refine hK.out _ _ K_v2.out (fun hHeld => ?_)
        clear hK K
        try simp only [List.getElem_toArray, List.getElem_cons_zero, List.getElem_cons_succ, Act.put, List.setIfInBounds_toArray, List.set_cons_zero, List.set_cons_succ]
        refine wpAnyH_take (i := 12) (oi := _) (v := ?_) rfl (by kernel_rfl) (by kernel_rfl) (by kernel_rfl) (fun _ _ _ h => h) (Or.inl ⟨by rfl, ?_⟩) hHeld ?_
        rotate_left
        focus (intro W hSw; have qb := HCW.out W hSw; go_simp; try with_reducible rfl)
        try simp only [List.getElem_toArray, List.getElem_cons_zero, List.getElem_cons_succ, Act.put, List.setIfInBounds_toArray, List.set_cons_zero, List.set_cons_succ]
        refine wpAnyH_take (i := 13) (oi := _) (v := ?_) rfl (by kernel_rfl) (by kernel_rfl) (by kernel_rfl) (fun _ _ _ h => h) (Or.inl ⟨by rfl, ?_⟩) hHeld ?_
        rotate_left
        focus (intro W hSw; have qb := HCW.out W hSw; go_simp; try with_reducible rfl)
        try simp only [List.getElem_toArray, List.getElem_cons_zero, List.getElem_cons_succ, Act.put, List.setIfInBounds_toArray, List.set_cons_zero, List.set_cons_succ]
        refine wpAnyH_take (i := 14) (oi := _) (v := ?_) rfl (by kernel_rfl) (by kernel_rfl) (by kernel_rfl) (fun _ _ _ h => h) (Or.inl ⟨by rfl, ?_⟩) hHeld ?_
        rotate_left
        focus (intro W hSw; have qb := HCW.out W hSw; go_simp; try with_reducible rfl)
        try simp only [List.getElem_toArray, List.getElem_cons_zero, List.getElem_cons_succ, Act.put, List.setIfInBounds_toArray, List.set_cons_zero, List.set_cons_succ]
        refine wpAnyH_take (i := 15) (oi := _) (v := ?_) rfl (by kernel_rfl) (by kernel_rfl) (by kernel_rfl) (fun _ _ _ h => h) (Or.inl ⟨by rfl, ?_⟩) hHeld ?_
        rotate_left
        focus (intro W hSw; have qb := HCW.out W hSw; go_simp; try with_reducible rfl)
        try simp only [List.getElem_toArray, List.getElem_cons_zero, List.getElem_cons_succ, Act.put, List.setIfInBounds_toArray, List.set_cons_zero, List.set_cons_succ]
        refine wpAnyH_take (i := 17) (oi := _) (v := ?_) rfl (by kernel_rfl) (by kernel_rfl) (by kernel_rfl) (fun _ _ _ h => h) (Or.inl ⟨by rfl, ?_⟩) hHeld ?_
        rotate_left
        focus (intro W hSw; have qb := HCW.out W hSw; go_simp; try with_reducible rfl)
        try simp only [List.getElem_toArray, List.getElem_cons_zero, List.getElem_cons_succ, Act.put, List.setIfInBounds_toArray, List.set_cons_zero, List.set_cons_succ]
        refine wpAnyH_ready (rs := [16]) (by kernel_rfl) (by simp) ?_
        refine AllReadyH.cons (o := _) rfl (fun K hK => ?_) AllReadyH.nil
        go_simp
        refine (HAL.out _ K_v2.out).mono ?_
        rintro r v3 ⟨Aa, ca, rfl, hra, hb_v3⟩
        have s_v3 : v2.heap.size ≤ v3.heap.size := hb_v3.size
        have K_v3 : Hid (Below w5.heap.size w5 v3) := Lib.hid (K_v2.out.trans (hb_v3.mono K_v2.out.size))
        have Ha_v3 : Hid (Row v3 0 v3.heap.size Aa ca L) := hra.wide (Nat.zero_le _) (Nat.le_refl _)
        clear hb_v3
        clear hra
        refine hK.out _ _ K_v3.out (fun hHeld => ?_)
        clear hK K
        try simp only [List.getElem_toArray, List.getElem_cons_zero, List.getElem_cons_succ, Act.put, List.setIfInBounds_toArray, List.set_cons_zero, List.set_cons_succ]
        refine wpAnyH_ready (rs := [18]) (by kernel_rfl) (by simp) ?_
        refine AllReadyH.cons (o := _) rfl (fun K hK => ?_) AllReadyH.nil
        go_simp
        refine (HSA.out _ _ _ K_v3.out Ha_v3.out).mono ?_
        rintro r v4 ⟨rfl, hb_v4⟩
        have s_v4 : v3.heap.size ≤ v4.heap.size := hb_v4.size
        have K_v4 : Hid (Below w5.heap.size w5 v4) := Lib.hid (K_v3.out.trans (hb_v4.mono K_v3.out.size))
        have Ha_v4 : Hid (Row v4 0 v4.heap.size Aa ca L) := (Ha_v3.out.below hb_v4 (Nat.le_refl _)).wide (Nat.le_refl _) hb_v4.size
        clear hb_v4
        refine hK.out _ _ K_v4.out (fun hHeld => ?_)
        clear hK K
        try simp only [List.getElem_toArray, List.getElem_cons_zero, List.getElem_cons_succ, Act.put, List.setIfInBounds_toArray, List.set_cons_zero, List.set_cons_succ]
        refine wpAnyH_take (i := 19) (oi := _) (v := ?_) rfl (by kernel_rfl) (by kernel_rfl) (by kernel_rfl) (fun _ _ _ h => h) (Or.inl ⟨by rfl, ?_⟩) hHeld ?_
        rotate_left
        focus (intro W hSw; have qb := HCW.out W hSw; go_simp; try with_reducible rfl)
        try simp only [List.getElem_toArray, List.getElem_cons_zero, List.getElem_cons_succ, Act.put, List.setIfInBounds_toArray, List.set_cons_zero, List.set_cons_succ]
        refine wpAnyH_take (i := 20) (oi := _) (v := ?_) rfl (by kernel_rfl) (by kernel_rfl) (by kernel_rfl) (fun _ _ _ h => h) (Or.inl ⟨by rfl, ?_⟩) hHeld ?_
        rotate_left
        focus (intro W hSw; have qb := HCW.out W hSw; go_simp; try with_reducible rfl)
        try simp only [List.getElem_toArray, List.getElem_cons_zero, List.getElem_cons_succ, Act.put, List.setIfInBounds_toArray, List.set_cons_zero, List.set_cons_succ]
        refine wpAnyH_take (i := 21) (oi := _) (v := ?_) rfl (by kernel_rfl) (by kernel_rfl) (by kernel_rfl) (fun _ _ _ h => h) (Or.inl ⟨by rfl, ?_⟩) hHeld ?_
        rotate_left
        focus (intro W hSw; have qb := HCW.out W hSw; go_simp; try with_reducible rfl)
        try simp only [List.getElem_toArray, List.getElem_cons_zero, List.getElem_cons_succ, Act.put, List.setIfInBounds_toArray, List.set_cons_zero, List.set_cons_succ]
        refine wpAnyH_take (i := 22) (oi := _) (v := ?_) rfl (by kernel_rfl) (by kernel_rfl) (by kernel_rfl) (fun _ _ _ h => h) (Or.inl ⟨by rfl, ?_⟩) hHeld ?_
        rotate_left
        focus (intro W hSw; have qb := HCW.out W hSw; go_simp; try with_reducible rfl)
        try simp only [List.getElem_toArray, List.getElem_cons_zero, List.getElem_cons_succ, Act.put, List.setIfInBounds_toArray, List.set_cons_zero, List.set_cons_succ]
        refine wpAnyH_take (i := 24) (oi := _) (v := ?_) rfl (by kernel_rfl) (by kernel_rfl) (by kernel_rfl) (fun _ _ _ h => h) (Or.inl ⟨by rfl, ?_⟩) hHeld ?_
        rotate_left
        focus (intro W hSw; have qb := HCW.out W hSw; go_simp; try with_reducible rfl)
        try simp only [List.getElem_toArray, List.getElem_cons_zero, List.getElem_cons_succ, Act.put, List.setIfInBounds_toArray, List.set_cons_zero, List.set_cons_succ]
        refine wpAnyH_take (i := 25) (oi := _) (v := ?_) rfl (by kernel_rfl) (by kernel_rfl) (by kernel_rfl) (fun _ _ _ h => h) (Or.inl ⟨by rfl, ?_⟩) hHeld ?_
        rotate_left
        focus (intro W hSw; have qb := HCW.out W hSw; go_simp; try with_reducible rfl)
        try simp only [List.getElem_toArray, List.getElem_cons_zero, List.getElem_cons_succ, Act.put, List.setIfInBounds_toArray, List.set_cons_zero, List.set_cons_succ]
        refine wpAnyH_take (i := 26) (oi := _) (v := ?_) rfl (by kernel_rfl) (by kernel_rfl) (by kernel_rfl) (fun _ _ _ h => h) (Or.inl ⟨by rfl, ?_⟩) hHeld ?_
        rotate_left
        focus (intro W hSw; have qb := HCW.out W hSw; go_simp; try with_reducible rfl)
        try simp only [List.getElem_toArray, List.getElem_cons_zero, List.getElem_cons_succ, Act.put, List.setIfInBounds_toArray, List.set_cons_zero, List.set_cons_succ]
        refine wpAnyH_take (i := 27) (oi := _) (v := ?_) rfl (by kernel_rfl) (by kernel_rfl) (by kernel_rfl) (fun _ _ _ h => h) (Or.inl ⟨by rfl, ?_⟩) hHeld ?_
        rotate_left
        focus (intro W hSw; have qb := HCW.out W hSw; go_simp; try with_reducible rfl)
        try simp only [List.getElem_toArray, List.getElem_cons_zero, List.getElem_cons_succ, Act.put, List.setIfInBounds_toArray, List.set_cons_zero, List.set_cons_succ]
        refine wpAnyH_ready (rs := [23]) (by kernel_rfl) (by simp) ?_
        refine AllReadyH.cons (o := _) rfl (fun K hK => ?_) AllReadyH.nil
        go_simp
        refine (HKN.out _ K_v4.out).mono ?_
        rintro r v5 ⟨rfl, he_v5⟩
        have hb_v5 : Below v4.heap.size v4 v5 := by rw [← he_v5]; exact Below.refl _ _
        clear he_v5
        have s_v5 : v4.heap.size ≤ v5.heap.size := hb_v5.size
        have K_v5 : Hid (Below w5.heap.size w5 v5) := Lib.hid (K_v4.out.trans (hb_v5.mono K_v4.out.size))
        have Ha_v5 : Hid (Row v5 0 v5.heap.size Aa ca L) := (Ha_v4.out.below hb_v5 (Nat.le_refl _)).wide (Nat.le_refl _) hb_v5.size
        clear hb_v5
        refine hK.out _ _ K_v5.out (fun hHeld => ?_)
        clear hK K
        try simp only [List.getElem_toArray, List.getElem_cons_zero, List.getElem_cons_succ, Act.put, List.setIfInBounds_toArray, List.set_cons_zero, List.set_cons_succ]
        refine wpAnyH_take (i := 28) (oi := _) (v := ?_) rfl (by kernel_rfl) (by kernel_rfl) (by kernel_rfl) (fun _ _ _ h => h) (Or.inl ⟨by rfl, ?_⟩) hHeld ?_
        rotate_left
        focus (intro W hSw; have qb := HCW.out W hSw; go_simp; try with_reducible rfl)
        try simp only [List.getElem_toArray, List.getElem_cons_zero, List.getElem_cons_succ, Act.put, List.setIfInBounds_toArray, List.set_cons_zero, List.set_cons_succ]
        refine wpAnyH_take (i := 29) (oi := _) (v := ?_) rfl (by kernel_rfl) (by kernel_rfl) (by kernel_rfl) (fun _ _ _ h => h) (Or.inl ⟨by rfl, ?_⟩) hHeld ?_
        rotate_left
        focus (intro W hSw; have qb := HCW.out W hSw; go_simp; try with_reducible rfl)
        try simp only [List.getElem_toArray, List.getElem_cons_zero, List.getElem_cons_succ, Act.put, List.setIfInBounds_toArray, List.set_cons_zero, List.set_cons_succ]
        refine wpAnyH_done (by kernel_rfl) ?_ _
        have KF := K_v5
        clear HEN HSA
        go_wp2_with fail
        go_loopw [11] (fun i wr => ∃ k : Nat, k ≤ L.length ∧ i = .int .i64 (k : Int) ∧ Below w5.heap.size w5 wr) (fun i _ => L.length - (intOf i).toNat)
        case atStart => exact ⟨0, Nat.zero_le _, rfl, KF.out⟩
        case round =>
          clear KF
          obtain ⟨k, hk, rfl, hb⟩ := hrel
          have HB := Lib.hid hb
          have hszr := hb.size
          clear hb
          by_cases hlt : k < L.length
          · have ik : (k : Int) < (L.length : Int) := by omega
            have ik0 : (0 : Int) ≤ (k : Int) := by omega
            obtain ⟨b, off, hAe, _, hbl, hx0, hx1⟩ := (HR.out wr (BW5.out.trans (HB.out.mono BW5.out.size))).get hlt
            subst hAe
            have HXC : Hid (∀ W, Below wr.heap.size wr W → W.cell? ⟨b, off + k * 2, none⟩ = some (.bool L[k].null) ∧ W.cell? ⟨b, off + k * 2 + 1, none⟩ = some (.string L[k].s)) := fun W hW => ⟨(hW.cell (p := ⟨b, off + k * 2, none⟩) hbl).trans hx0, (hW.cell (p := ⟨b, off + k * 2 + 1, none⟩) hbl).trans hx1⟩
            have HAK : Hid (∀ W, Below wr.heap.size wr W → Calls Tryz.prog 26 #[.pointer (some ⟨G, 0, none⟩), .int .i64 (k : Int)] W fun r w' => r = .returned (.agg #[.bool L[k].null, .string L[k].s]) ∧ Below W.heap.size W w') := fun W hW => HAT.out W (HB.out.trans (hW.mono HB.out.size)) k hlt
            clear hx0 hx1
            generalize L[k].null = nb at *
            generalize L[k].s = s at *
            go_wp2_with fail
            have KD : Hid (Below wr.heap.size wr wr.drew) := (Below.refl _ _).drew
            refine wp_region_held_drew (S := fun w' => Below wr.heap.size wr w') (by kernel_rfl) KD.out (fun hHeld => ?_)
            refine wpAnyH_take (i := 0) (oi := _) (v := ?_) rfl (by kernel_rfl) (by kernel_rfl) (by kernel_rfl) (fun _ _ _ h => h) (Or.inl ⟨by rfl, ?_⟩) hHeld ?_
            rotate_left
            focus (intro W hSw; obtain ⟨q0, q1⟩ := HXC.out W hSw; go_simp; try with_reducible rfl)
            try simp only [List.getElem_toArray, List.getElem_cons_zero, List.getElem_cons_succ, Act.put, List.setIfInBounds_toArray, List.set_cons_zero, List.set_cons_succ]
            refine wpAnyH_take (i := 1) (oi := _) (v := ?_) rfl (by kernel_rfl) (by kernel_rfl) (by kernel_rfl) (fun _ _ _ h => h) (Or.inl ⟨by rfl, ?_⟩) hHeld ?_
            rotate_left
            focus (intro W hSw; obtain ⟨q0, q1⟩ := HXC.out W hSw; go_simp; try with_reducible rfl)
            try simp only [List.getElem_toArray, List.getElem_cons_zero, List.getElem_cons_succ, Act.put, List.setIfInBounds_toArray, List.set_cons_zero, List.set_cons_succ]
            refine wpAnyH_take (i := 3) (oi := _) (v := ?_) rfl (by kernel_rfl) (by kernel_rfl) (by kernel_rfl) (fun _ _ _ h => h) (Or.inl ⟨by rfl, ?_⟩) hHeld ?_
            rotate_left
            focus (intro W hSw; obtain ⟨q0, q1⟩ := HXC.out W hSw; go_simp; try with_reducible rfl)
            try simp only [List.getElem_toArray, List.getElem_cons_zero, List.getElem_cons_succ, Act.put, List.setIfInBounds_toArray, List.set_cons_zero, List.set_cons_succ]
            refine wpAnyH_take (i := 4) (oi := _) (v := ?_) rfl (by kernel_rfl) (by kernel_rfl) (by kernel_rfl) (fun _ _ _ h => h) (Or.inl ⟨by rfl, ?_⟩) hHeld ?_
            rotate_left
            focus (intro W hSw; obtain ⟨q0, q1⟩ := HXC.out W hSw; go_simp; try with_reducible rfl)
            try simp only [List.getElem_toArray, List.getElem_cons_zero, List.getElem_cons_succ, Act.put, List.setIfInBounds_toArray, List.set_cons_zero, List.set_cons_succ]
            refine wpAnyH_take (i := 5) (oi := _) (v := ?_) rfl (by kernel_rfl) (by kernel_rfl) (by kernel_rfl) (fun _ _ _ h => h) (Or.inl ⟨by rfl, ?_⟩) hHeld ?_
            rotate_left
            focus (intro W hSw; obtain ⟨q0, q1⟩ := HXC.out W hSw; go_simp; try with_reducible rfl)
            try simp only [List.getElem_toArray, List.getElem_cons_zero, List.getElem_cons_succ, Act.put, List.setIfInBounds_toArray, List.set_cons_zero, List.set_cons_succ]
            refine wpAnyH_take (i := 6) (oi := _) (v := ?_) rfl (by kernel_rfl) (by kernel_rfl) (by kernel_rfl) (fun _ _ _ h => h) (Or.inl ⟨by rfl, ?_⟩) hHeld ?_
            rotate_left
            focus (intro W hSw; obtain ⟨q0, q1⟩ := HXC.out W hSw; go_simp; try with_reducible rfl)
            try simp only [List.getElem_toArray, List.getElem_cons_zero, List.getElem_cons_succ, Act.put, List.setIfInBounds_toArray, List.set_cons_zero, List.set_cons_succ]
            obtain ⟨wd, hwd⟩ : ∃ q, wr.drew = q := ⟨_, rfl⟩
            rw [hwd] at hHeld ⊢
            clear KD hwd
            have K_wd := Lib.hid hHeld
            refine wpAnyH_ready (rs := [2]) (by kernel_rfl) (by simp) ?_
            refine AllReadyH.cons (o := _) rfl (fun K hK => ?_) AllReadyH.nil
            go_simp
            refine (HAK.out _ K_wd.out).mono ?_
            rintro r v51 ⟨rfl, hb_v51⟩
            have s_v51 : wd.heap.size ≤ v51.heap.size := hb_v51.size
            have K_v51 : Hid (Below wr.heap.size wr v51) := Lib.hid (K_wd.out.trans (hb_v51.mono K_wd.out.size))
            clear hb_v51
            refine hK.out _ _ K_v51.out (fun hHeld => ?_)
            clear hK K
            try simp only [List.getElem_toArray, List.getElem_cons_zero, List.getElem_cons_succ, Act.put, List.setIfInBounds_toArray, List.set_cons_zero, List.set_cons_succ]
            refine wpAnyH_take (i := 7) (oi := _) (v := ?_) rfl (by kernel_rfl) (by kernel_rfl) (by kernel_rfl) (fun _ _ _ h => h) (Or.inl ⟨by rfl, ?_⟩) hHeld ?_
            rotate_left
            focus (intro W hSw; obtain ⟨q0, q1⟩ := HXC.out W hSw; go_simp; try with_reducible rfl)
            try simp only [List.getElem_toArray, List.getElem_cons_zero, List.getElem_cons_succ, Act.put, List.setIfInBounds_toArray, List.set_cons_zero, List.set_cons_succ]
            refine wpAnyH_done (by kernel_rfl) ?_ _
            have KG := K_v51
            go_wp2_with fail
            go_roundw
            case rel => exact ⟨k + 1, by omega, by go_num, HB.out.trans (KG.out.mono HB.out.size)⟩
            case measure => simp [intOf]; omega
          · have ik : ¬ (k : Int) < (L.length : Int) := by omega
            obtain ⟨m, hm2⟩ : ∃ m, cut % CL.length = m := ⟨_, rfl⟩
            have hml : m < CL.length := by rw [← hm2]; exact Nat.mod_lt _ nb0
            have hmod : ((cut : Int)).tmod (CL.length : Int) = (m : Int) := by rw [← hm2]; exact (Int.ofNat_tmod cut CL.length).symm
            have hwc : IntKind.i64.wrap (cut : Int) = (cut : Int) := IntWalk.i64_in _ (by omega)
            have hwm : IntKind.i64.wrap (m : Int) = (m : Int) := IntWalk.i64_in _ (by have := HLL.out; omega)
            have hn0 : ¬ (CL.length : Int) = 0 := by omega
            have im0 : (0 : Int) ≤ (m : Int) := by omega
            have imc : (m : Int) ≤ (c3 : Int) := by omega
            obtain ⟨hcz, hce⟩ := HCT.out m hml
            have htl : (CL.take m).length = m := by rw [List.length_take]; omega
            have HN2 := Lib.hid (new_any (CL.take m) wr (A := some ⟨gb, 0, none⟩) (c := c3) (by rw [bv_take]; exact (HRB.out wr (B5.out.trans (HB.out.mono B5.out.size))).take_ m) (by have := HLL.out; omega))
            rw [htl] at HN2
            have HCZ := Lib.hid hcz
            have HCE := Lib.hid hce
            have HTL := Lib.hid htl
            clear hcz hce htl hm2
            go_wp2_with fail
            refine HN2.out.mono ?_
            rintro r wa ⟨ga, rfl, hcua, hba⟩
            have BA : Hid (Below w5.heap.size w5 wa) := HB.out.trans (hba.mono HB.out.size)
            have hsa := hba.size
            have hgab := hcua.base
            have HOP2 := Lib.hid (open_v hcua (by rw [HTL.out]; have := HLL.out; omega))
            obtain ⟨C2, hC2⟩ : ∃ C2, openC (CL.take m) 0 0 = C2 := ⟨_, rfl⟩
            rw [hC2] at HOP2 HCZ HCE
            obtain ⟨cz, kz, ez⟩ := C2
            simp only at HOP2
            have hcz : cz = Chk.none := HCZ.out
            have hez : ez ≠ 0 := HCE.out
            subst hcz
            clear hcua HN2 HCZ HCE hC2
            go_wp2_with fail
            refine HOP2.out.mono ?_
            rintro r wb ⟨G2, rfl, hG2, hck2, hcub, hgb5⟩
            have BB : Hid (Below wr.heap.size wr wb) := ((show Below wr.heap.size wr wa from hba)).grown hgb5 hsa (fun q hq => by cases hq; exact hgab)
            have BB5 : Hid (Below w5.heap.size w5 wb) := HB.out.trans (BB.out.mono HB.out.size)
            have HA1 := Lib.hid (HAX.out wb BB5.out (-1) (.inl (by omega)))
            have HGD : Hid (∀ W, Below wb.heap.size wb W → Calls Tryz.prog 27 #[.pointer (some ⟨ga, 0, none⟩)] W fun r w' => r = .returned (.bool false) ∧ W = w') := fun W hW => by
              have := good_any (hcub.grown (below_gb_none (Nat.le_refl _) hW) (fun x hx => by cases hx))
              rw [show (ez == 0) = false from beq_eq_false_iff_ne.2 hez] at this
              exact this
            have HL2 : Hid (∀ W, Below wb.heap.size wb W → Calls Tryz.prog 22 #[.pointer (some ⟨G2, 0, none⟩)] W fun r w' => r = .returned (.int .i64 0) ∧ W = w') := fun W hW => len_v (hck2.below hW)
            have HBWB : Hid (Below w.heap.size w wb) := BW5.out.trans (BB5.out.mono BW5.out.size)
            clear hck2 hcub hgb5 HOP2
            go_wp2_with fail
            refine HA1.out.mono ?_
            rintro r wc ⟨rfl, hbc⟩
            have HA2 := Lib.hid (HAX.out wc (BB5.out.trans (hbc.mono BB5.out.size)) (L.length : Int) (.inr (Int.le_refl _)))
            have HBC := Lib.hid hbc
            clear hbc HA1
            go_wp2_with fail
            refine HA2.out.mono ?_
            rintro r wd2 ⟨rfl, hbd⟩
            have HBD : Hid (Below wb.heap.size wb wd2) := below_below HBC.out hbd HBC.out.size
            have HL3 := Lib.hid (HL2.out wd2 HBD.out)
            have HG3 := Lib.hid (HGD.out wd2 HBD.out)
            clear hbd HA2
            go_wp2_with fail
            refine HL3.out.mono ?_
            rintro r we ⟨rfl, rfl⟩
            go_wp2_with fail
            refine HG3.out.mono ?_
            rintro r we ⟨rfl, rfl⟩
            go_wp2_with fail
            go_ret
            exact ⟨rfl, HBWB.out.trans (HBD.out.mono HBWB.out.size)⟩
      · have HC := Lib.hid (code_no (HIN.out w2 BW2.out) hmb)
        go_wp2_with fail
        refine HC.out.mono ?_
        rintro r w3 ⟨rfl, hb3⟩
        go_wp2_with fail
        go_ret
        exact ⟨rfl, BW2.out.trans (hb3.mono BW2.out.size)⟩
    · have ids : (60 : Int) < (ds.length : Int) := by omega
      go_wp2_with fail
      refine HAW2.out.mono ?_
      rintro r w4 ⟨rfl, hb4⟩
      go_wp2_with fail
      go_ret
      exact ⟨rfl, BW2.out.trans (hb4.mono BW2.out.size)⟩
set_option maxRecDepth 100000 in
theorem chunkBack_lifted (os : Os) (started : os.Started) (H : Type) (enc : TypeId × Value → H) :
    ReturnsInHanded {} Tryz.checked os 4 .any (Rows.chunkBackSpec.pre6 enc Tryz.prog Tryz.f4 Rows.chunkBackRow.domain false) (Rows.chunkBackSpec.post enc Tryz.prog Tryz.f4 false true false false) := by
  refine returnsInHanded_of_change (C := Tryz.checked) own started (by kernel_rfl) Tryz.func4
    (ChangeSpec.witness6 (enc := enc) (C := Tryz.checked) false ⟨#[], #[.slice none 0 0, .agg #[.int .i64 0, .int .i64 0, .int .i64 0, .slice none 0 0], .int .u16 0], []⟩ 8 (by kernel_rfl) (by kernel_rfl) (by kernel_rfl) (by kernel_rfl)) ?_
  intro W base args ds gs before hval0 hW hcnd _
  have hval : ∀ (j : Nat) t v, Tryz.f4.params[j]? = some t → args[j]? = some v → Value.okWide Tryz.prog W .any base t v := hval0
  have hW' := hW
  obtain ⟨p, q, hA0, hV, rfl, hfz, hnd⟩ := hW
  have hA : DataW.TrodAll enc Tryz.prog W 0 (fun _ => true) true Tryz.f4.params.toList args.toList ds p := hA0
  have hA1 : DataW.TrodAll enc Tryz.prog W 0 (fun _ => true) true Tryz.f4.params.toList args.toList ds p := hA0
  rw [Tryz.params4] at hA hval
  obtain ⟨v0, vs0, d0, ds0, p0, q0, hargs, rfl, rfl, h0, r0⟩ := trodAll_cons hA
  obtain ⟨v1, vs1, d1, ds1, p1, q1, rfl, rfl, rfl, h1, r1⟩ := trodAll_cons r0
  obtain ⟨v2, vs2, d2, ds2, p2, q2, rfl, rfl, rfl, h2, r2⟩ := trodAll_cons r1
  obtain ⟨rfl, rfl, rfl⟩ := trodAll_nil r2
  obtain rfl : args = #[v0, v1, v2] := by cases args; simp_all
  obtain ⟨rfl, rfl⟩ := trodVars_none hV
  obtain ⟨A0, a0, c0, rfl, w0⟩ := open_row (hval 0 22 v0 rfl rfl) h0
  obtain ⟨A1, a1, c1, rfl, w1⟩ := open_coding (hval 1 25 v1 rfl rfl) h1
  obtain ⟨a2, rfl, rfl, rfl, w2⟩ := open_int Tryz.underlying45 (hval 2 45 v2 rfl rfl) h2
  obtain ⟨b2, rfl, l2⟩ := u16_of_wf w2
  clear hA0 hval0
  refine (chunkBack_walk (w := W) w0 w1 b2 l2).mono fun e W' ⟨he, bel⟩ => ?_
  subst he
  exact ⟨_, rfl, _, _, _, [], _, [], hW', trodAll_mk1 (shut_bool Tryz.underlying4 _), trodAll_below laidOut bel _ _ _ _ (by kernel_rfl) hA1, rfl, bel.frame _, fun h => by cases h⟩
theorem chunkBack_over : Rows.chunkBackRow.holds Tryz.pinned (OpenSpec.ofChange Rows.chunkBackSpec) :=
  OpenClaim.holds_of_wide 4 Tryz.f4 rfl rfl rfl rfl rfl rfl rfl ⟨rfl, rfl, rfl, rfl, rfl⟩ rfl rfl rfl rfl rfl (by kernel_rfl) Tryz.func4 (by kernel_rfl)
    (of_decide_eq_true (by kernel_rfl)) (by unfold Func.isWrapper; first | (rw [if_pos (by decide +kernel)]; kernel_rfl) | (rw [if_neg (by decide +kernel)]; exact ⟨rfl, rfl⟩))
    (fun os started H enc _ => chunkBack_lifted os started H enc)
theorem chunkBack_proved : Rows.ChunkBackSaid := chunkBack_over
end Go.Proofs.YtmffpbhiehjlpaaGreat
