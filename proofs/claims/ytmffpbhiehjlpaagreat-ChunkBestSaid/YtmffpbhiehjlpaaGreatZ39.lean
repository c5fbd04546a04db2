/-
  The chunk package: a chunk in memory; take.
  The chunk package: Open.
-/
import Derived.Test.YtmffpbhiehjlpaaGreatZ38
namespace Go.Proofs.YtmffpbhiehjlpaaGreat
set_option linter.unusedSimpArgs false
set_option linter.unusedVariables false
open Go.RowKit
def ChkM (w : World) (lo G : Nat) (c : Chk) : Prop :=
  ∃ (A0 : Option Addr) (c0 : Nat) (A2 : Option Addr) (n2 c2 : Nat) (A3 : Option Addr) (n3 c3 : Nat) (d : Option Addr) (A5 : Option Addr) (n5 c5 : Nat),
    Blk w G 89 #[.int .i64 (c.kind : Int), .slice A0 c.there.length c0, .slice A2 n2 c2, .slice A3 n3 c3, .pointer d, .slice A5 n5 c5] ∧ lo ≤ G ∧ Rd w lo w.heap.size A0 c0 (lv c.there) ∧
    (c.kind = 1 ∨ c.kind = 2 → n2 = c.there.length ∧ ∃ ps, bsL ps = c.raws ∧ Rd w lo w.heap.size A2 c2 (spreadL c.there (pv ps) (.slice none 0 0)) ∧ Prt w lo w.heap.size ps) ∧
    (c.kind = 2 → n3 = c.tab.length ∧ Rd w lo w.heap.size A3 c3 (sv (strsL c.tab))) ∧
    (c.kind = 3 → ∃ (dg : Nat) (ys : List ByteArray), d = some ⟨dg, 0, none⟩ ∧ Dc w dg ys ∧ bytL2 ys = c.dic ∧ n5 = c.there.length ∧ Rd w lo w.heap.size A5 c5 (spreadL c.there (iv (ints c.codes)) (.int .i64 (-1))))
theorem ChkM.below {w w' : World} {lo G : Nat} {c : Chk} (h : ChkM w lo G c) (hb : Below w.heap.size w w') : ChkM w' lo G c := by
  obtain ⟨A0, c0, A2, n2, c2, A3, n3, c3, d, A5, n5, c5, h1, h2, h3, h4, h5, h6⟩ := h
  have up : ∀ {A : Option Addr} {c : Nat} {xs : List Value}, Rd w lo w.heap.size A c xs → Rd w' lo w'.heap.size A c xs := fun hr => (hr.below hb (Nat.le_refl _)).wide (Nat.le_refl _) hb.size
  refine ⟨A0, c0, A2, n2, c2, A3, n3, c3, d, A5, n5, c5, h1.below hb h1.lt, h2, up h3, fun hk => ?_, fun hk => ?_, fun hk => ?_⟩
  · obtain ⟨e1, ps, e2, e3, e4⟩ := h4 hk
    exact ⟨e1, ps, e2, up e3, fun p hp => up (e4 p hp)⟩
  · obtain ⟨e1, e2⟩ := h5 hk
    exact ⟨e1, up e2⟩
  · obtain ⟨dg, ys, e1, e2, e3, e4, e5⟩ := h6 hk
    exact ⟨dg, ys, e1, e2.below hb (Nat.le_refl _), e3, e4, up e5⟩
theorem cur_set {w : World} {lo g k G i : Nat} {bs : List UInt8} {e : Int} {u : Value} (h : Cur w lo g bs k e) (hg : g < G) : Cur (w.setCell ⟨G, i, none⟩ u) lo g bs k e :=
  h.grown (row := some G) (gb_setCell (gb_refl _ _) (.inl rfl) u) (fun x hx => by cases hx; exact .inr hg)
theorem rd_set {w : World} {lo hi c G i : Nat} {A : Option Addr} {xs : List Value} {u : Value} (h : Rd w lo hi A c xs) (hg : G < lo ∨ hi ≤ G) : Rd (w.setCell ⟨G, i, none⟩ u) lo hi A c xs := h.setCell (p := ⟨G, i, none⟩) hg u
theorem prt_set {w : World} {lo hi G i : Nat} {ps : List Part} {u : Value} (h : Prt w lo hi ps) (hg : G < lo ∨ hi ≤ G) : Prt (w.setCell ⟨G, i, none⟩ u) lo hi ps := fun p hp => rd_set (h p hp) hg
theorem dc_set {w : World} {d G i : Nat} {ys : List ByteArray} {u : Value} (h : Dc w d ys) (hg : G < d) : Dc (w.setCell ⟨G, i, none⟩ u) d ys := by
  obtain ⟨A, c, hb, ho⟩ := h
  exact ⟨A, c, hb.far (by show d ≠ G; omega) u, own_keep ho (fun k hk => Below.heap_setCell _ _ _ _ (by have := (own_lt ho hk).1; show k ≠ G; omega))⟩
theorem out_gG {w w' : World} {g G : Nat} (h : w.grownBy w' (some g)) : Out w w' (fun i => i = g ∨ i = G) := Out.of_gb h (fun k hk => by cases hk; exact .inl rfl)
theorem nums_full {bs : List UInt8} {k n : Nat} {e m : Int} (hk : k ≤ bs.length) (hn : n ≤ 2147483647) : (numsR bs k e n m).2.2 = 0 → (numsR bs k e n m).1.length = n := fun h0 => by
  by_cases he : e = 0
  · subst he
    obtain ⟨⟨l, q, z⟩, hR⟩ : ∃ R, numsR bs k 0 n m = R := ⟨_, rfl⟩
    rw [hR] at h0 ⊢
    simp only at h0
    subst h0
    exact (numsR_good hk hn hR).1
  · rw [numsR_bad bs k _ _ he] at h0
    exact absurd h0 he
theorem raws_full {bs : List UInt8} {k : Nat} {e m : Int} {there : List Bool} {ok : List UInt8 → Bool} (hk : k ≤ bs.length) (hn : there.length ≤ 2147483647) : (rawsR bs k e (cnt there) m ok).2.2 = 0 → (rawsR bs k e (cnt there) m ok).1.length = cnt there := fun h0 => by
  by_cases he : e = 0
  · subst he
    obtain ⟨⟨l, q, z⟩, hR⟩ : ∃ R, rawsR bs k 0 (cnt there) m ok = R := ⟨_, rfl⟩
    rw [hR] at h0 ⊢
    simp only at h0
    subst h0
    exact (rawsR_good hk (by have := cnt_le there; omega) hR).1
  · rw [rawsR_bad bs k _ _ _ he] at h0
    exact absurd h0 he
theorem getK_right {bs : List UInt8} {k : Nat} {e : Int} (hk : k ≤ bs.length) : rightT (getK bs k e).1 = true := by
  obtain ⟨⟨t, q, z⟩, hS⟩ : ∃ S, getK bs k e = S := ⟨_, rfl⟩
  rw [hS]
  by_cases he : e = 0
  · subst he
    by_cases hz : z = 0
    · subst hz
      exact (getK_good hk hS).1
    · unfold getK at hS
      split at hS
      · rename_i h0
        rw [hS] at h0
        exact absurd h0 hz
      · simp only [Prod.mk.injEq] at hS
        rw [← hS.1]; rfl
  · rw [getK_bad bs k he] at hS
    simp only [Prod.mk.injEq] at hS
    rw [← hS.1]; rfl
theorem openR_few {bs : List UInt8} {k : Nat} {e : Int} (hk : k ≤ bs.length) : (openR bs k e).1.length ≤ 4096 := by
  obtain ⟨⟨t, q, z⟩, hS⟩ : ∃ S, openR bs k e = S := ⟨_, rfl⟩
  rw [hS]
  by_cases he : e = 0
  · subst he
    by_cases hz : z = 0
    · subst hz
      obtain ⟨K, _, _, h, _⟩ := openR_good hk hS
      exact (dicL_iff.1 h).1
    · unfold openR openK at hS
      split at hS
      · split at hS
        · rename_i h0
          rw [hS] at h0
          exact absurd h0 hz
        · simp only [Prod.mk.injEq] at hS
          rw [← hS.1]; simp
      · simp only [Prod.mk.injEq] at hS
        rw [← hS.1]; simp
  · rw [openR_bad bs k he] at hS
    simp only [Prod.mk.injEq] at hS
    rw [← hS.1]; simp
set_option maxRecDepth 20000 in
set_option maxHeartbeats 4000000 in
theorem take_one {w : World} {lo g G k c0 B : Nat} {bs : List UInt8} {e : Int} (there : List Bool) {A0 : Option Addr} (h : Cur w lo g bs k e) (hb : bs.length ≤ 1000000) (hgB : g < B) (hBG : B ≤ G)
    (hG : Blk w G 89 #[.int .i64 1, .slice A0 there.length c0, .slice none 0 0, .slice none 0 0, .pointer none, .slice none 0 0]) (ht : Rd w (G + 1) w.heap.size A0 c0 (lv there)) (ht4 : there.length ≤ 4096) :
    Calls Tryz.prog 53 #[.pointer (some ⟨G, 0, none⟩), cp g] w fun r w' => r = .returned (.tuple #[]) ∧ Cur w' lo g bs (takeC bs k e 1 there).2.1 (takeC bs k e 1 there).2.2 ∧ Out w w' (fun i => i = g ∨ i = G) ∧
      ((takeC bs k e 1 there).2.2 = 0 → ChkM w' B G (takeC bs k e 1 there).1) := by
  have hgl := h.lt
  have hGl := hG.lt
  have hk := h.le
  have hgG : g < G := by omega
  have b0 := hG.cell 0
  simp only [List.getElem?_toArray, List.getElem?_cons_zero, List.getElem?_cons_succ] at b0
  have HTR := Lib.hid (takeRaws_v 1 there [] 4096 (fun _ => true) h hb hgG hG (ht.wide (by omega) (Nat.le_refl _)) rfl ht4 (.inl ⟨rfl, rfl⟩))
  have HTC : Hid (takeC bs k e 1 there = (⟨1, there, (rawsR bs k e (cnt there) 4096 fun _ => true).1, [], [], []⟩, (rawsR bs k e (cnt there) 4096 fun _ => true).2)) := by unfold Hid; rw [takeC, if_pos rfl]
  have HLN : Hid ((rawsR bs k e (cnt there) 4096 fun _ => true).2.2 = 0 → (rawsR bs k e (cnt there) 4096 fun _ => true).1.length = cnt there) := raws_full hk (by omega)
  rw [HTC.out]
  generalize rawsR bs k e (cnt there) 4096 (fun _ => true) = R at *
  obtain ⟨l, q, z⟩ := R
  simp only at *
  have HG0 := Lib.hid hG
  have HTH := Lib.hid ht
  clear h hG ht HTC
  unfold cp at *
  go_enter Tryz.func53, Tryz.ntmps53
  go_wp2_with fail
  refine HTR.out.mono ?_
  rintro r w1 ⟨A1, n1, c1, rfl, hc1, hg1, hp1⟩
  have hs1 := hg1.size
  have HC1 := Lib.hid hc1
  have HG1 := Lib.hid hg1
  have HP1 := Lib.hid hp1
  have hx := HG0.out.grown hg1 (by intro e; injection e with e; omega)
  have HX := Lib.hid (hx.put 2 (.slice A1 n1 c1))
  have x2 := hx.cell 2
  have f2 := hx.frozen 2
  simp only [List.getElem?_toArray, List.getElem?_cons_zero, List.getElem?_cons_succ] at x2
  have HTH1 := Lib.hid (HTH.out.grown hg1 (Nat.le_refl _) (fun r hr => by cases hr; exact .inl (by omega)))
  clear hc1 hg1 hp1 hx b0 HTR
  go_wp2_with fail
  refine bodyPost_end (results_none rfl _ _ _) rfl ?_
  refine ⟨rfl, cur_set HC1.out hgG, (out_gG HG1.out).setCell (p := ⟨G, 2, none⟩) (.inl (.inr rfl)) _, fun hz => ?_⟩
  obtain ⟨hn1, ps, hps, hr, hpp⟩ := HP1.out (HLN.out hz)
  have hsz : (w1.setCell ⟨G, 2, none⟩ (.slice A1 n1 c1)).heap.size = w1.heap.size := by simp [World.setCell]
  refine ⟨A0, c0, A1, n1, c1, none, 0, 0, none, none, 0, 0, by simpa using HX.out, hBG, ?_, fun _ => ⟨hn1, ps, hps, ?_, ?_⟩, fun h => absurd h (show ¬ (1 : Nat) = 2 by decide), fun h => absurd h (show ¬ (1 : Nat) = 3 by decide)⟩
  · rw [hsz]; exact (rd_set HTH1.out (.inl (by omega))).wide (by omega) hs1
  · rw [hsz]; exact (rd_set hr (.inl hGl)).wide (by omega) (Nat.le_refl _)
  · rw [hsz]; exact (prt_set hpp (.inl hGl)).wide (by omega) (Nat.le_refl _)
set_option maxRecDepth 20000 in
set_option maxHeartbeats 4000000 in
theorem take_two {w : World} {lo g G k c0 B : Nat} {bs : List UInt8} {e : Int} (there : List Bool) {A0 : Option Addr} (h : Cur w lo g bs k e) (hb : bs.length ≤ 1000000) (hgB : g < B) (hBG : B ≤ G)
    (hG : Blk w G 89 #[.int .i64 2, .slice A0 there.length c0, .slice none 0 0, .slice none 0 0, .pointer none, .slice none 0 0]) (ht : Rd w (G + 1) w.heap.size A0 c0 (lv there)) (ht4 : there.length ≤ 4096) :
    Calls Tryz.prog 53 #[.pointer (some ⟨G, 0, none⟩), cp g] w fun r w' => r = .returned (.tuple #[]) ∧ Cur w' lo g bs (takeC bs k e 2 there).2.1 (takeC bs k e 2 there).2.2 ∧ Out w w' (fun i => i = g ∨ i = G) ∧
      ((takeC bs k e 2 there).2.2 = 0 → ChkM w' B G (takeC bs k e 2 there).1) := by
  have hgl := h.lt
  have hGl := hG.lt
  have hk := h.le
  have hgG : g < G := by omega
  have b0 := hG.cell 0
  simp only [List.getElem?_toArray, List.getElem?_cons_zero, List.getElem?_cons_succ] at b0
  have HSG := Lib.hid (sget_at h hb)
  have HTC : Hid (takeC bs k e 2 there = (⟨2, there, (rawsR bs (getK bs k e).2.1 (getK bs k e).2.2 (cnt there) 8192 (encOk (getK bs k e).1)).1, (getK bs k e).1, [], []⟩, (rawsR bs (getK bs k e).2.1 (getK bs k e).2.2 (cnt there) 8192 (encOk (getK bs k e).1)).2)) := by unfold Hid; rw [takeC, if_neg (by decide), if_pos rfl]
  have HRT : Hid (rightT (getK bs k e).1 = true) := getK_right hk
  rw [HTC.out]
  have HG0 := Lib.hid hG
  have HTH := Lib.hid ht
  generalize getK bs k e = S at *
  obtain ⟨T, q0, e0⟩ := S
  simp only at *
  obtain ⟨⟨l, q, z⟩, hN⟩ : ∃ R, rawsR bs q0 e0 (cnt there) 8192 (encOk T) = R := ⟨_, rfl⟩
  rw [hN]
  simp only
  have HNR := Lib.hid hN
  clear h hG ht HTC hN
  unfold cp at *
  go_enter Tryz.func53, Tryz.ntmps53
  go_wp2_with fail
  refine HSG.out.mono ?_
  rintro r w1 ⟨A3, c3, rfl, ho3, hc1, hg1⟩
  have hs1 := hg1.size
  have hk1 := hc1.le
  have HC1 := Lib.hid hc1
  have HG1 := Lib.hid hg1
  have HR3 := Lib.hid (Rd.of_own ho3)
  have hx := HG0.out.grown hg1 (by intro e; injection e with e; omega)
  have x3 := hx.cell 3
  have f3 := hx.frozen 3
  simp only [List.getElem?_toArray, List.getElem?_cons_zero, List.getElem?_cons_succ] at x3
  obtain ⟨w2, hw2⟩ : ∃ w2, w1.setCell ⟨G, 3, none⟩ (.slice A3 T.length c3) = w2 := ⟨_, rfl⟩
  have hx2 : Blk w2 G 89 #[.int .i64 2, .slice A0 there.length c0, .slice none 0 0, .slice A3 T.length c3, .pointer none, .slice none 0 0] := by rw [← hw2]; simpa using hx.put 3 (.slice A3 T.length c3)
  have hs2 : w2.heap.size = w1.heap.size := by rw [← hw2]; simp [World.setCell]
  have HC2 : Hid (Cur w2 lo g bs q0 e0) := by unfold Hid; rw [← hw2]; exact cur_set HC1.out hgG
  have HTH2 : Hid (Rd w2 (G + 1) w2.heap.size A0 c0 (lv there)) := by unfold Hid; rw [hs2, ← hw2]; exact (rd_set (HTH.out.grown HG1.out (Nat.le_refl _) (fun r hr => by cases hr; exact .inl (by omega))) (.inl (by omega))).wide (Nat.le_refl _) hs1
  have HR32 : Hid (Rd w2 w.heap.size w2.heap.size A3 c3 (sv (strsL T))) := by unfold Hid; rw [hs2, ← hw2]; exact rd_set HR3.out (.inl hGl)
  have HO2 : Hid (Out w w2 (fun i => i = g ∨ i = G)) := by unfold Hid; rw [← hw2]; exact (out_gG HG1.out).setCell (p := ⟨G, 3, none⟩) (.inl (.inr rfl)) _
  have HTR := Lib.hid (takeRaws_v 2 there T 8192 (encOk T) HC2.out hb hgG hx2 (HTH2.out.wide (by omega) (Nat.le_refl _)) rfl ht4 (.inr ⟨rfl, rfl, HRT.out, rfl, HR32.out.wide (by omega) (Nat.le_refl _)⟩))
  have HLN : Hid ((rawsR bs q0 e0 (cnt there) 8192 (encOk T)).2.2 = 0 → (rawsR bs q0 e0 (cnt there) 8192 (encOk T)).1.length = cnt there) := raws_full hk1 (by omega)
  rw [HNR.out] at HTR HLN
  have HG2 := Lib.hid hx2
  have y2 := hx2.cell 2
  have h2 := hx2.frozen 2
  have y0 := hx2.cell 0
  simp only [List.getElem?_toArray, List.getElem?_cons_zero, List.getElem?_cons_succ] at y2 y0
  simp only at HTR HLN
  have hs12 : w1.heap.size ≤ w2.heap.size := by omega
  clear hx hx2 ho3 hc1 hg1 HC1 HTH HR3 HG0 b0 HSG hs2
  unfold cp at *
  go_wp2_with fail
  refine HTR.out.mono ?_
  rintro r w3 ⟨A1, n1, c1, rfl, hc3, hg3, hp3⟩
  have hs3 := hg3.size
  have HC3 := Lib.hid hc3
  have HG3 := Lib.hid hg3
  have HP3 := Lib.hid hp3
  have hx := HG2.out.grown hg3 (by intro e; injection e with e; omega)
  have HX := Lib.hid (hx.put 2 (.slice A1 n1 c1))
  have z2 := hx.cell 2
  have zf2 := hx.frozen 2
  simp only [List.getElem?_toArray, List.getElem?_cons_zero, List.getElem?_cons_succ] at z2
  have HTH3 := Lib.hid (HTH2.out.grown hg3 (Nat.le_refl _) (fun r hr => by cases hr; exact .inl (by omega)))
  have HR33 := Lib.hid (HR32.out.grown hg3 (Nat.le_refl _) (fun r hr => by cases hr; exact .inl hgl))
  clear hc3 hg3 hp3 hx HTR hw2 x3 f3 y2 h2 y0
  go_wp2_with fail
  refine bodyPost_end (results_none rfl _ _ _) rfl ?_
  refine ⟨rfl, cur_set HC3.out hgG, (HO2.out.trans (Out.of_gb (X := fun i => i = g ∨ i = G) HG3.out (fun k hk => by cases hk; exact .inl rfl)) (fun i _ h => h)).setCell (p := ⟨G, 2, none⟩) (.inl (.inr rfl)) _, fun hz => ?_⟩
  obtain ⟨hn1, ps, hps, hr, hpp⟩ := HP3.out (HLN.out hz)
  have hsz : (w3.setCell ⟨G, 2, none⟩ (.slice A1 n1 c1)).heap.size = w3.heap.size := by simp [World.setCell]
  refine ⟨A0, c0, A1, n1, c1, A3, T.length, c3, none, none, 0, 0, by simpa using HX.out, hBG, ?_, fun _ => ⟨hn1, ps, hps, ?_, ?_⟩, fun _ => ⟨rfl, ?_⟩, fun h => absurd h (show ¬ (2 : Nat) = 3 by decide)⟩
  · rw [hsz]; exact (rd_set HTH3.out (.inl (by omega))).wide (by omega) hs3
  · rw [hsz]; exact (rd_set hr (.inl (by omega))).wide (by omega) (Nat.le_refl _)
  · rw [hsz]; exact (prt_set hpp (.inl (by omega))).wide (by omega) (Nat.le_refl _)
  · rw [hsz]; exact (rd_set HR33.out (.inl hGl)).wide (by omega) hs3
set_option maxRecDepth 20000 in
set_option maxHeartbeats 4000000 in
theorem take_three {w : World} {lo g G k c0 B : Nat} {bs : List UInt8} {e : Int} (there : List Bool) {A0 : Option Addr} (h : Cur w lo g bs k e) (hb : bs.length ≤ 1000000) (hgB : g < B) (hBG : B ≤ G)
    (hG : Blk w G 89 #[.int .i64 3, .slice A0 there.length c0, .slice none 0 0, .slice none 0 0, .pointer none, .slice none 0 0]) (ht : Rd w (G + 1) w.heap.size A0 c0 (lv there)) (ht4 : there.length ≤ 4096) :
    Calls Tryz.prog 53 #[.pointer (some ⟨G, 0, none⟩), cp g] w fun r w' => r = .returned (.tuple #[]) ∧ Cur w' lo g bs (takeC bs k e 3 there).2.1 (takeC bs k e 3 there).2.2 ∧ Out w w' (fun i => i = g ∨ i = G) ∧
      ((takeC bs k e 3 there).2.2 = 0 → ChkM w' B G (takeC bs k e 3 there).1) := by
  have hgl := h.lt
  have hGl := hG.lt
  have hk := h.le
  have hgG : g < G := by omega
  have b0 := hG.cell 0
  simp only [List.getElem?_toArray, List.getElem?_cons_zero, List.getElem?_cons_succ] at b0
  have HOP := Lib.hid (fopen_any h (by omega))
  have HTC : Hid (takeC bs k e 3 there = (⟨3, there, [], [], (openR bs k e).1, (numsR bs (openR bs k e).2.1 (openR bs k e).2.2 (cnt there) (((openR bs k e).1.length : Int) - 1)).1⟩, (numsR bs (openR bs k e).2.1 (openR bs k e).2.2 (cnt there) (((openR bs k e).1.length : Int) - 1)).2)) := by unfold Hid; rw [takeC, if_neg (by decide), if_neg (by decide), if_pos rfl]
  have HDL : Hid ((openR bs k e).1.length ≤ 4096) := openR_few hk
  rw [HTC.out]
  have HG0 := Lib.hid hG
  have HTH := Lib.hid ht
  generalize openR bs k e = S at *
  obtain ⟨D, q0, e0⟩ := S
  simp only at *
  obtain ⟨⟨l, q, z⟩, hN⟩ : ∃ R, numsR bs q0 e0 (cnt there) ((D.length : Int) - 1) = R := ⟨_, rfl⟩
  rw [hN]
  simp only
  have HNR := Lib.hid hN
  clear h hG ht HTC hN
  unfold cp at *
  go_enter Tryz.func53, Tryz.ntmps53
  go_wp2_with fail
  refine HOP.out.mono ?_
  rintro r w1 ⟨dg, ys, rfl, hys, hdc, hdg, hc1, hg1⟩
  have hyl : ys.length = D.length := by rw [← hys, bytL2_length]
  have HYL := Lib.hid hyl
  have HYS := Lib.hid hys
  have hyl4 : ys.length ≤ 4096 := by rw [hyl]; exact HDL.out
  have hs1 := hg1.size
  have hk1 := hc1.le
  have HC1 := Lib.hid hc1
  have HG1 := Lib.hid hg1
  have hx := HG0.out.grown hg1 (by intro e; injection e with e; omega)
  have x4 := hx.cell 4
  have f4 := hx.frozen 4
  simp only [List.getElem?_toArray, List.getElem?_cons_zero, List.getElem?_cons_succ] at x4
  obtain ⟨w2, hw2⟩ : ∃ w2, w1.setCell ⟨G, 4, none⟩ (.pointer (some ⟨dg, 0, none⟩)) = w2 := ⟨_, rfl⟩
  have hx2 : Blk w2 G 89 #[.int .i64 3, .slice A0 there.length c0, .slice none 0 0, .slice none 0 0, .pointer (some ⟨dg, 0, none⟩), .slice none 0 0] := by rw [← hw2]; simpa using hx.put 4 (.pointer (some ⟨dg, 0, none⟩))
  have hs2 : w2.heap.size = w1.heap.size := by rw [← hw2]; simp [World.setCell]
  have HC2 : Hid (Cur w2 lo g bs q0 e0) := by unfold Hid; rw [← hw2]; exact cur_set HC1.out hgG
  have HTH2 : Hid (Rd w2 (G + 1) w2.heap.size A0 c0 (lv there)) := by unfold Hid; rw [hs2, ← hw2]; exact (rd_set (HTH.out.grown HG1.out (Nat.le_refl _) (fun r hr => by cases hr; exact .inl (by omega))) (.inl (by omega))).wide (Nat.le_refl _) hs1
  have HD2 : Hid (Dc w2 dg ys) := by unfold Hid; rw [← hw2]; exact dc_set hdc (by omega)
  have HO2 : Hid (Out w w2 (fun i => i = g ∨ i = G)) := by unfold Hid; rw [← hw2]; exact (out_gG HG1.out).setCell (p := ⟨G, 4, none⟩) (.inl (.inr rfl)) _
  have HTR := Lib.hid (takeCodes_v 3 there ys HC2.out hb hgG hx2 (HTH2.out.wide (by omega) (Nat.le_refl _)) rfl ht4 HD2.out (by omega))
  have HLN : Hid ((numsR bs q0 e0 (cnt there) ((ys.length : Int) - 1)).2.2 = 0 → (numsR bs q0 e0 (cnt there) ((ys.length : Int) - 1)).1.length = cnt there) := nums_full hk1 (by have := cnt_le there; omega)
  rw [hyl, HNR.out] at HTR HLN
  have HG2 := Lib.hid hx2
  have y0 := hx2.cell 0
  simp only [List.getElem?_toArray, List.getElem?_cons_zero, List.getElem?_cons_succ] at y0
  simp only at HTR HLN
  have hs12 : w1.heap.size ≤ w2.heap.size := by omega
  have hdgG : G < dg := by omega
  clear hx hx2 hdc hc1 hg1 HC1 HTH HG0 b0 HOP hs2 hyl hys
  unfold cp at *
  go_wp2_with fail
  refine HTR.out.mono ?_
  rintro r w3 ⟨A1, n1, c1, rfl, hc3, hg3, hp3⟩
  have hs3 := hg3.size
  have HC3 := Lib.hid hc3
  have HG3 := Lib.hid hg3
  have HP3 := Lib.hid hp3
  have hx := HG2.out.grown hg3 (by intro e; injection e with e; omega)
  have HX := Lib.hid (hx.put 5 (.slice A1 n1 c1))
  have z5 := hx.cell 5
  have zf5 := hx.frozen 5
  simp only [List.getElem?_toArray, List.getElem?_cons_zero, List.getElem?_cons_succ] at z5
  have HTH3 := Lib.hid (HTH2.out.grown hg3 (Nat.le_refl _) (fun r hr => by cases hr; exact .inl (by omega)))
  have HD3 := Lib.hid (HD2.out.cur hg3 (by omega))
  clear hc3 hg3 hp3 hx HTR hw2 x4 f4 y0
  go_wp2_with fail
  refine bodyPost_end (results_none rfl _ _ _) rfl ?_
  refine ⟨rfl, cur_set HC3.out hgG, (HO2.out.trans (Out.of_gb (X := fun i => i = g ∨ i = G) HG3.out (fun k hk => by cases hk; exact .inl rfl)) (fun i _ h => h)).setCell (p := ⟨G, 5, none⟩) (.inl (.inr rfl)) _, fun hz => ?_⟩
  obtain ⟨hn1, hr⟩ := HP3.out (HLN.out hz)
  have hsz : (w3.setCell ⟨G, 5, none⟩ (.slice A1 n1 c1)).heap.size = w3.heap.size := by simp [World.setCell]
  refine ⟨A0, c0, none, 0, 0, none, 0, 0, some ⟨dg, 0, none⟩, A1, n1, c1, by simpa using HX.out, hBG, ?_, fun h => absurd h (show ¬ ((3 : Nat) = 1 ∨ (3 : Nat) = 2) by decide), fun h => absurd h (show ¬ (3 : Nat) = 2 by decide), fun _ => ⟨dg, ys, rfl, dc_set HD3.out hdgG, HYS.out, hn1, ?_⟩⟩
  · rw [hsz]; exact (rd_set HTH3.out (.inl (by omega))).wide (by omega) hs3
  · rw [hsz]; exact (rd_set hr (.inl (by omega))).wide (by omega) (Nat.le_refl _)
set_option maxRecDepth 20000 in
set_option maxHeartbeats 4000000 in
theorem take_other {w : World} {lo g G k c0 B : Nat} {bs : List UInt8} {e : Int} (kd : Nat) (h1 : kd ≠ 1) (h2 : kd ≠ 2) (h3 : kd ≠ 3) (there : List Bool) {A0 : Option Addr} (h : Cur w lo g bs k e) (hb : bs.length ≤ 1000000) (hgB : g < B) (hBG : B ≤ G)
    (hG : Blk w G 89 #[.int .i64 (kd : Int), .slice A0 there.length c0, .slice none 0 0, .slice none 0 0, .pointer none, .slice none 0 0]) (ht : Rd w (G + 1) w.heap.size A0 c0 (lv there)) (ht4 : there.length ≤ 4096) :
    Calls Tryz.prog 53 #[.pointer (some ⟨G, 0, none⟩), cp g] w fun r w' => r = .returned (.tuple #[]) ∧ Cur w' lo g bs (takeC bs k e kd there).2.1 (takeC bs k e kd there).2.2 ∧ Out w w' (fun i => i = g ∨ i = G) := by
  have hgl := h.lt
  have hGl := hG.lt
  have hk := h.le
  have hgG : g < G := by omega
  have b0 := hG.cell 0
  simp only [List.getElem?_toArray, List.getElem?_cons_zero, List.getElem?_cons_succ] at b0
  have e1 : takeC bs k e kd there = (⟨kd, there, [], [], [], []⟩, k, e) := by rw [takeC, if_neg h1, if_neg h2, if_neg h3]
  rw [e1]
  have i1 : ((kd : Int) == 1) = false := by rw [beq_eq_false_iff_ne]; omega
  have i2 : ((kd : Int) == 2) = false := by rw [beq_eq_false_iff_ne]; omega
  have i3 : ((kd : Int) == 3) = false := by rw [beq_eq_false_iff_ne]; omega
  have j1 : ¬ (kd : Int) = 1 := by omega
  have j2 : ¬ (kd : Int) = 2 := by omega
  have j3 : ¬ (kd : Int) = 3 := by omega
  have HC := Lib.hid h
  clear h hG ht e1 h1 h2 h3
  unfold cp at *
  go_enter Tryz.func53, Tryz.ntmps53
  go_wp2_with fail
  refine bodyPost_end (results_none rfl _ _ _) rfl ?_
  exact ⟨rfl, HC.out, Out.refl _ _⟩
end Go.Proofs.YtmffpbhiehjlpaaGreat
namespace Go.Proofs.YtmffpbhiehjlpaaGreat
set_option linter.unusedSimpArgs false
set_option linter.unusedVariables false
open Go.RowKit
theorem bread_few {bs : List UInt8} {k k2 : Nat} {e z : Int} {l : List Bool} (h : breadR bs k e 4096 = (l, k2, z)) : l.length ≤ 4096 := by
  unfold breadR breadEnd at h
  split at h
  · simp only [Prod.mk.injEq] at h
    rw [← h.1]; simp
  · split at h
    · rename_i h1 h2
      simp only [Prod.mk.injEq] at h
      rw [← h.1, getsB_length]
      have h3 : (mostR bs k e 4096).2.2 = 0 := by
        rcases Classical.em ((mostR bs k e 4096).2.2 = 0) with h4 | h4
        · exact h4
        · exact absurd (by rw [takeR_bad _ _ _ h4]; exact h4) h1
      unfold mostR peekR at h3 ⊢
      simp only at h3 ⊢
      split
      · simp
      · rename_i he
        rw [if_neg he] at h3
        split
        · simp
        · rename_i h5
          have h6 : peekE bs k 4096 = 0 := Classical.not_not.1 h5
          unfold peekE at h6
          split at h6
          · rename_i h7
            exact absurd h6 h7
          · split at h6
            · omega
            · omega
    · simp only [Prod.mk.injEq] at h
      rw [← h.1]; simp
theorem gb_out {a w w' : World} {g G : Nat} (h : a.grownBy w (some g)) (ho : Out w w' (fun i => i = g ∨ i = G)) (hG : a.heap.size ≤ G) : a.grownBy w' (some g) :=
  ⟨ho.os.trans h.os, ho.tape.trans h.tape, ho.output.trans h.output, Nat.le_trans h.size ho.size, fun i hi hne => (ho.block i (Nat.lt_of_lt_of_le hi h.size) (by
    rintro (e | e)
    · exact hne (by rw [e])
    · omega)).trans (h.block i hi hne)⟩
theorem build_none (W : World) : (Instr.build 89 #[]).run Tryz.prog W = .ok (.agg #[.int .i64 0, .slice none 0 0, .slice none 0 0, .slice none 0 0, .pointer none, .slice none 0 0]) W := run_build W _ _ _ (by kernel_rfl)
theorem chk_none {lo : Nat} (w : World) (h : lo ≤ w.heap.size) : ChkM (w.alloc (.cells #[.int .i64 0, .slice none 0 0, .slice none 0 0, .slice none 0 0, .pointer none, .slice none 0 0] 89)) lo w.heap.size Chk.none :=
  ⟨none, 0, none, 0, 0, none, 0, 0, none, none, 0, 0, Blk.new w _ _, h, Rd.nil _ _ _, fun h => absurd h (show ¬ ((0 : Nat) = 1 ∨ (0 : Nat) = 2) by decide), fun h => absurd h (show ¬ (0 : Nat) = 2 by decide), fun h => absurd h (show ¬ (0 : Nat) = 3 by decide)⟩
theorem take_any17 {w : World} {lo g G k c0 B : Nat} {bs : List UInt8} {e : Int} (kd : Nat) (there : List Bool) {A0 : Option Addr} (h : Cur w lo g bs k e) (hb : bs.length ≤ 1000000) (hgB : g < B) (hBG : B ≤ G)
    (hG : Blk w G 89 #[.int .i64 (kd : Int), .slice A0 there.length c0, .slice none 0 0, .slice none 0 0, .pointer none, .slice none 0 0]) (ht : Rd w (G + 1) w.heap.size A0 c0 (lv there)) (ht4 : there.length ≤ 4096) (hok : ¬ (1 ≤ kd ∧ kd ≤ 3) → e ≠ 0) :
    Calls Tryz.prog 53 #[.pointer (some ⟨G, 0, none⟩), cp g] w fun r w' => r = .returned (.tuple #[]) ∧ Cur w' lo g bs (takeC bs k e kd there).2.1 (takeC bs k e kd there).2.2 ∧ Out w w' (fun i => i = g ∨ i = G) ∧
      ((takeC bs k e kd there).2.2 = 0 → ChkM w' B G (takeC bs k e kd there).1) := by
  by_cases h1 : kd = 1
  · subst h1; exact take_one there h hb hgB hBG hG ht ht4
  · by_cases h2 : kd = 2
    · subst h2; exact take_two there h hb hgB hBG hG ht ht4
    · by_cases h3 : kd = 3
      · subst h3; exact take_three there h hb hgB hBG hG ht ht4
      · refine (take_other kd h1 h2 h3 there h hb hgB hBG hG ht ht4).mono ?_
        rintro r w' ⟨rfl, hc, ho⟩
        refine ⟨rfl, hc, ho, fun hz => ?_⟩
        have e1 : takeC bs k e kd there = (⟨kd, there, [], [], [], []⟩, k, e) := by rw [takeC, if_neg h1, if_neg h2, if_neg h3]
        rw [e1] at hz
        exact absurd hz (hok (by omega))
set_option maxRecDepth 20000 in
set_option maxHeartbeats 4000000 in
theorem open_v {w : World} {lo g k : Nat} {bs : List UInt8} {e : Int} (h : Cur w lo g bs k e) (hb : bs.length ≤ 1000000) :
    Calls Tryz.prog 20 #[cp g] w fun r w' => ∃ G, r = .returned (.pointer (some ⟨G, 0, none⟩)) ∧ w.heap.size ≤ G ∧ ChkM w' w.heap.size G (openC bs k e).1 ∧ Cur w' lo g bs (openC bs k e).2.1 (openC bs k e).2.2 ∧ w.grownBy w' (some g) := by
  have hgl := h.lt
  have HBY := Lib.hid (byte_any h)
  obtain ⟨C, hC⟩ : ∃ C, openC bs k e = C := ⟨_, rfl⟩
  rw [hC]
  unfold openC openD at hC
  obtain ⟨⟨xb, k1, e1⟩, hT⟩ : ∃ T, takeR bs k e 0 1 = T := ⟨_, rfl⟩
  rw [hT] at HBY hC
  simp only at HBY hC
  obtain ⟨kd, hkd⟩ : ∃ kd, (xb.headD 0).toNat = kd := ⟨_, rfl⟩
  have hkd5 : kd ≤ 255 := by have := UInt8.toNat_lt (xb.headD 0); omega
  rw [hkd] at HBY hC
  obtain ⟨e2, he2⟩ : ∃ e2, kindE kd e1 = e2 := ⟨_, rfl⟩
  rw [he2] at hC
  have HE2 := Lib.hid he2
  obtain ⟨⟨th, k3, e3⟩, hR⟩ : ∃ R, breadR bs k1 e2 4096 = R := ⟨_, rfl⟩
  rw [hR] at hC
  simp only at hC
  have HR := Lib.hid hR
  obtain ⟨⟨cc, k4, e4⟩, hK⟩ : ∃ K, takeC bs k3 e3 kd th = K := ⟨_, rfl⟩
  rw [hK] at hC
  simp only at hC
  have HK := Lib.hid hK
  have HC := Lib.hid hC
  have hbad : Hid (¬ (1 ≤ kd ∧ kd ≤ 3) → e3 ≠ 0) := fun hn => by
    have h2 : e2 ≠ 0 := by rw [← he2, kindE, if_neg hn]; exact orForm_ne _
    rw [bread_bad bs k1 4096 h2] at hR
    simp only [Prod.mk.injEq] at hR
    rw [← hR.2.2]; exact h2
  have HTL : Hid (th.length ≤ 4096) := bread_few hR
  clear h hC hT hkd he2 hR hK
  unfold cp at *
  go_enter Tryz.func20, Tryz.ntmps20
  go_wp2_with fail
  refine HBY.out.mono ?_
  rintro r w1 ⟨rfl, hc1, hg1⟩
  have hs1 := hg1.size
  have hgl1 := hc1.lt
  obtain ⟨w2, hw2⟩ : ∃ w2, w1.alloc (.cells #[.int .i64 (kd : Int), .slice none 0 0, .slice none 0 0, .slice none 0 0, .pointer none, .slice none 0 0] 89) = w2 := ⟨_, rfl⟩
  have hx : Blk w2 w1.heap.size 89 #[.int .i64 (kd : Int), .slice none 0 0, .slice none 0 0, .slice none 0 0, .pointer none, .slice none 0 0] := by rw [← hw2]; exact Blk.new w1 _ _
  have HX := Lib.hid hx
  have HC2 : Hid (Cur w2 lo g bs k1 e1) := by unfold Hid; rw [← hw2]; exact hc1.grown (row := none) (by exact gb_alloc (gb_refl _ _) _) (by simp)
  have HG2 : Hid (w.grownBy w2 (some g)) := by unfold Hid; rw [← hw2]; exact gb_alloc hg1 _
  have hs2 : w1.heap.size < w2.heap.size := by rw [← hw2]; simp
  have x0 := hx.cell 0
  simp only [List.getElem?_toArray, List.getElem?_cons_zero, List.getElem?_cons_succ] at x0
  clear hc1 hg1 HBY
  by_cases hk : 1 ≤ kd ∧ kd ≤ 3
  · obtain ⟨q1, q2⟩ := hk
    have i1 : ¬ (kd : Int) < 1 := by omega
    have i2 : ¬ (3 : Int) < (kd : Int) := by omega
    have HC3 : Hid (Cur w2 lo g bs k1 e2) := by unfold Hid; rw [← HE2.out, kindE, if_pos ⟨q1, q2⟩]; exact HC2.out
    have HX3 := Lib.hid HX.out
    have HG3 := Lib.hid HG2.out
    clear HC2 HX HG2 hx
    have HRD := Lib.hid (bread_any 4096 (by omega) HC3.out (by omega))
    rw [HR.out] at HRD
    simp only at HRD
    unfold cp at HRD
    go_wp2_with fail
    refine HRD.out.mono ?_
    rintro r w4 ⟨A4, c4, rfl, ho4, hc4, hg4⟩
    have hs4 := hg4.size
    have hx4 := HX3.out.grown hg4 (by intro e; injection e with e; omega)
    have x1 := hx4.cell 1
    have f1 := hx4.frozen 1
    simp only [List.getElem?_toArray, List.getElem?_cons_zero, List.getElem?_cons_succ] at x1
    obtain ⟨w5, hw5⟩ : ∃ w5, w4.setCell ⟨w1.heap.size, 1, none⟩ (.slice A4 th.length c4) = w5 := ⟨_, rfl⟩
    have hx5 : Blk w5 w1.heap.size 89 #[.int .i64 (kd : Int), .slice A4 th.length c4, .slice none 0 0, .slice none 0 0, .pointer none, .slice none 0 0] := by rw [← hw5]; simpa using hx4.put 1 (.slice A4 th.length c4)
    have hs5 : w5.heap.size = w4.heap.size := by rw [← hw5]; simp [World.setCell]
    have hC5 : Cur w5 lo g bs k3 e3 := by rw [← hw5]; exact cur_set hc4 (by omega)
    have hT5 : Rd w5 (w1.heap.size + 1) w5.heap.size A4 c4 (lv th) := by rw [hs5, ← hw5]; exact (rd_set (Rd.of_own ho4) (.inl (by omega))).wide (by omega) (Nat.le_refl _)
    have HG5 : Hid (w.grownBy w5 (some g)) := by unfold Hid; rw [← hw5]; exact gb_setCell (HG3.out.trans hg4) (.inr (by show w.heap.size ≤ w1.heap.size; omega)) _
    have HTK := Lib.hid (take_any17 (B := w.heap.size) kd th hC5 hb hgl hs1 hx5 hT5 HTL.out hbad.out)
    rw [HK.out] at HTK
    simp only at HTK
    unfold cp at HTK
    have hs5' : w1.heap.size < w5.heap.size := by omega
    clear hx4 hx5 hC5 hT5 ho4 hc4 hg4 HRD HX3 HC3 HG3 hs5
    go_wp2_with fail
    refine HTK.out.mono ?_
    rintro r w6 ⟨rfl, hc6, ho6, hm6⟩
    have HC6 := Lib.hid hc6
    have HM6 := Lib.hid hm6
    have HG6 := Lib.hid (gb_out HG5.out ho6 hs1)
    have hs6 := ho6.size
    have HGD := Lib.hid (good_any hc6)
    unfold cp at HGD
    have hc := HC.out
    clear hc6 hm6 ho6 HTK hw5 x1 f1 HC
    by_cases h0 : e4 = 0
    · subst h0
      rw [if_pos rfl] at hc
      subst hc
      have bb : ((0 : Int) == 0) = true := rfl
      rw [bb] at HGD
      go_wp2_with fail
      refine HGD.out.mono ?_
      rintro r w' ⟨rfl, rfl⟩
      go_wp2_with fail
      go_ret
      exact ⟨_, rfl, hs1, (by first | exact HM6.out rfl | exact HM6.out trivial | exact HM6.out), HC6.out, HG6.out⟩
    · rw [if_neg h0] at hc
      subst hc
      have bb : (e4 == 0) = false := by rw [beq_eq_false_iff_ne]; exact h0
      rw [bb] at HGD
      have hbz := build_none
      go_wp2_with fail
      refine HGD.out.mono ?_
      rintro r w' ⟨rfl, rfl⟩
      go_wp2_with fail
      go_ret
      refine ⟨_, rfl, by omega, chk_none w6 (by omega), ?_, gb_alloc HG6.out _⟩
      exact HC6.out.grown (row := none) (by exact gb_alloc (gb_refl _ _) _) (by simp)
  · have HE3 : Hid ((if e1 = 0 then (3 : Int) else e1) = e2) := by unfold Hid; rw [← HE2.out, kindE, if_neg hk]; rfl
    have HF := Lib.hid (fail_any 3 HC2.out)
    rw [HE3.out] at HF
    unfold cp at HF
    by_cases q1 : kd < 1
    · have i1 : (kd : Int) < 1 := by omega
      go_wp2_with fail
      refine HF.out.mono ?_
      rintro r w3 ⟨rfl, hc3, hg3⟩
      have HC3 := Lib.hid hc3
      have HX3 := Lib.hid (HX.out.grown hg3 (by intro e; injection e with e; omega))
      have HG3 := Lib.hid (HG2.out.trans hg3)
      have hs3 := hg3.size
      clear hc3 hg3 HC2 HX HG2 hx x0 HF
      have HRD := Lib.hid (bread_any 4096 (by omega) HC3.out (by omega))
      rw [HR.out] at HRD
      simp only at HRD
      unfold cp at HRD
      go_wp2_with fail
      refine HRD.out.mono ?_
      rintro r w4 ⟨A4, c4, rfl, ho4, hc4, hg4⟩
      have hs4 := hg4.size
      have hx4 := HX3.out.grown hg4 (by intro e; injection e with e; omega)
      have x1 := hx4.cell 1
      have f1 := hx4.frozen 1
      simp only [List.getElem?_toArray, List.getElem?_cons_zero, List.getElem?_cons_succ] at x1
      obtain ⟨w5, hw5⟩ : ∃ w5, w4.setCell ⟨w1.heap.size, 1, none⟩ (.slice A4 th.length c4) = w5 := ⟨_, rfl⟩
      have hx5 : Blk w5 w1.heap.size 89 #[.int .i64 (kd : Int), .slice A4 th.length c4, .slice none 0 0, .slice none 0 0, .pointer none, .slice none 0 0] := by rw [← hw5]; simpa using hx4.put 1 (.slice A4 th.length c4)
      have hs5 : w5.heap.size = w4.heap.size := by rw [← hw5]; simp [World.setCell]
      have hC5 : Cur w5 lo g bs k3 e3 := by rw [← hw5]; exact cur_set hc4 (by omega)
      have hT5 : Rd w5 (w1.heap.size + 1) w5.heap.size A4 c4 (lv th) := by rw [hs5, ← hw5]; exact (rd_set (Rd.of_own ho4) (.inl (by omega))).wide (by omega) (Nat.le_refl _)
      have HG5 : Hid (w.grownBy w5 (some g)) := by unfold Hid; rw [← hw5]; exact gb_setCell (HG3.out.trans hg4) (.inr (by show w.heap.size ≤ w1.heap.size; omega)) _
      have HTK := Lib.hid (take_any17 (B := w.heap.size) kd th hC5 hb hgl hs1 hx5 hT5 HTL.out hbad.out)
      rw [HK.out] at HTK
      simp only at HTK
      unfold cp at HTK
      have hs5' : w1.heap.size < w5.heap.size := by omega
      clear hx4 hx5 hC5 hT5 ho4 hc4 hg4 HRD HX3 HC3 HG3 hs5
      go_wp2_with fail
      refine HTK.out.mono ?_
      rintro r w6 ⟨rfl, hc6, ho6, hm6⟩
      have HC6 := Lib.hid hc6
      have HM6 := Lib.hid hm6
      have HG6 := Lib.hid (gb_out HG5.out ho6 hs1)
      have hs6 := ho6.size
      have HGD := Lib.hid (good_any hc6)
      unfold cp at HGD
      have hc := HC.out
      clear hc6 hm6 ho6 HTK hw5 x1 f1 HC
      by_cases h0 : e4 = 0
      · subst h0
        rw [if_pos rfl] at hc
        subst hc
        have bb : ((0 : Int) == 0) = true := rfl
        rw [bb] at HGD
        go_wp2_with fail
        refine HGD.out.mono ?_
        rintro r w' ⟨rfl, rfl⟩
        go_wp2_with fail
        go_ret
        exact ⟨_, rfl, hs1, (by first | exact HM6.out rfl | exact HM6.out trivial | exact HM6.out), HC6.out, HG6.out⟩
      · rw [if_neg h0] at hc
        subst hc
        have bb : (e4 == 0) = false := by rw [beq_eq_false_iff_ne]; exact h0
        rw [bb] at HGD
        have hbz := build_none
        go_wp2_with fail
        refine HGD.out.mono ?_
        rintro r w' ⟨rfl, rfl⟩
        go_wp2_with fail
        go_ret
        refine ⟨_, rfl, by omega, chk_none w6 (by omega), ?_, gb_alloc HG6.out _⟩
        exact HC6.out.grown (row := none) (by exact gb_alloc (gb_refl _ _) _) (by simp)
    · have i1 : ¬ (kd : Int) < 1 := by omega
      have i2 : (3 : Int) < (kd : Int) := by omega
      go_wp2_with fail
      refine HF.out.mono ?_
      rintro r w3 ⟨rfl, hc3, hg3⟩
      have HC3 := Lib.hid hc3
      have HX3 := Lib.hid (HX.out.grown hg3 (by intro e; injection e with e; omega))
      have HG3 := Lib.hid (HG2.out.trans hg3)
      have hs3 := hg3.size
      clear hc3 hg3 HC2 HX HG2 hx x0 HF
      have HRD := Lib.hid (bread_any 4096 (by omega) HC3.out (by omega))
      rw [HR.out] at HRD
      simp only at HRD
      unfold cp at HRD
      go_wp2_with fail
      refine HRD.out.mono ?_
      rintro r w4 ⟨A4, c4, rfl, ho4, hc4, hg4⟩
      have hs4 := hg4.size
      have hx4 := HX3.out.grown hg4 (by intro e; injection e with e; omega)
      have x1 := hx4.cell 1
      have f1 := hx4.frozen 1
      simp only [List.getElem?_toArray, List.getElem?_cons_zero, List.getElem?_cons_succ] at x1
      obtain ⟨w5, hw5⟩ : ∃ w5, w4.setCell ⟨w1.heap.size, 1, none⟩ (.slice A4 th.length c4) = w5 := ⟨_, rfl⟩
      have hx5 : Blk w5 w1.heap.size 89 #[.int .i64 (kd : Int), .slice A4 th.length c4, .slice none 0 0, .slice none 0 0, .pointer none, .slice none 0 0] := by rw [← hw5]; simpa using hx4.put 1 (.slice A4 th.length c4)
      have hs5 : w5.heap.size = w4.heap.size := by rw [← hw5]; simp [World.setCell]
      have hC5 : Cur w5 lo g bs k3 e3 := by rw [← hw5]; exact cur_set hc4 (by omega)
      have hT5 : Rd w5 (w1.heap.size + 1) w5.heap.size A4 c4 (lv th) := by rw [hs5, ← hw5]; exact (rd_set (Rd.of_own ho4) (.inl (by omega))).wide (by omega) (Nat.le_refl _)
      have HG5 : Hid (w.grownBy w5 (some g)) := by unfold Hid; rw [← hw5]; exact gb_setCell (HG3.out.trans hg4) (.inr (by show w.heap.size ≤ w1.heap.size; omega)) _
      have HTK := Lib.hid (take_any17 (B := w.heap.size) kd th hC5 hb hgl hs1 hx5 hT5 HTL.out hbad.out)
      rw [HK.out] at HTK
      simp only at HTK
      unfold cp at HTK
      have hs5' : w1.heap.size < w5.heap.size := by omega
      clear hx4 hx5 hC5 hT5 ho4 hc4 hg4 HRD HX3 HC3 HG3 hs5
      go_wp2_with fail
      refine HTK.out.mono ?_
      rintro r w6 ⟨rfl, hc6, ho6, hm6⟩
      have HC6 := Lib.hid hc6
      have HM6 := Lib.hid hm6
      have HG6 := Lib.hid (gb_out HG5.out ho6 hs1)
      have hs6 := ho6.size
      have HGD := Lib.hid (good_any hc6)
      unfold cp at HGD
      have hc := HC.out
      clear hc6 hm6 ho6 HTK hw5 x1 f1 HC
      by_cases h0 : e4 = 0
      · subst h0
        rw [if_pos rfl] at hc
        subst hc
        have bb : ((0 : Int) == 0) = true := rfl
        rw [bb] at HGD
        go_wp2_with fail
        refine HGD.out.mono ?_
        rintro r w' ⟨rfl, rfl⟩
        go_wp2_with fail
        go_ret
        exact ⟨_, rfl, hs1, (by first | exact HM6.out rfl | exact HM6.out trivial | exact HM6.out), HC6.out, HG6.out⟩
      · rw [if_neg h0] at hc
        subst hc
        have bb : (e4 == 0) = false := by rw [beq_eq_false_iff_ne]; exact h0
        rw [bb] at HGD
        have hbz := build_none
        go_wp2_with fail
        refine HGD.out.mono ?_
        rintro r w' ⟨rfl, rfl⟩
        go_wp2_with fail
        go_ret
        refine ⟨_, rfl, by omega, chk_none w6 (by omega), ?_, gb_alloc HG6.out _⟩
        exact HC6.out.grown (row := none) (by exact gb_alloc (gb_refl _ _) _) (by simp)
end Go.Proofs.YtmffpbhiehjlpaaGreat
