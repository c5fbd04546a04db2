/-
  Of whatever bytes that are read as a segment, its filters are those of its values, and what they skip no row is; or the bytes or the predicate are many, or awake says so.
-/
import Derived.Test.YtnjkipnklpkaoaaGreatA24
import Derived.Test.YtnjkipnklpkaoaaGreatA53
import Derived.Test.YtnjkipnklpkaoaaGreatA54
import Derived.Test.YtnjkipnklpkaoaaGreatA55
namespace Go.Proofs.YtnjkipnklpkaoaaGreat
set_option linter.unusedSimpArgs false
set_option linter.unusedVariables false
open Go.RowKit Go.ChangeShapes Go.WideShapes Go.ChangeAt

/-- a group's rows lie where they stand among all rows -/
theorem mine_rows {w : World} {bx ox cx k at0 m : Nat} {gs : List GrpS} (h : vr w 0 w.heap.size (some ⟨bx, ox, none⟩) cx (qeu gs)) (hk : k < gs.length) (ha : qas (gs.take k) = at0) (hm : at0 + gs[k].rows = m) (hne : ¬ cx = at0) (hle : m ≤ qas gs) :
    vr w 0 w.heap.size (some ⟨bx, ox + at0, none⟩) (cx - at0) (qiw gs[k]) := by
  have h1 := h.cut (k := at0) (m := m) (by omega) (by rw [qou]; exact hle)
  have e := rowsS_part hk
  rw [ha] at e
  rw [if_neg hne, show m - at0 = gs[k].rows from by omega, e, qap] at h1
  have ea : Addr.add ⟨bx, ox, none⟩ at0 = ⟨bx, ox + at0, none⟩ := by
    unfold Addr.add
    by_cases h0 : at0 = 0
    · subst h0
      rfl
    · rw [if_neg h0]
  rw [ea] at h1
  exact h1
/-- one value of rows that lie -/
theorem mine_cell {w : World} {lo hi b off cA : Nat} {rs : List (List Vl)} {j c n : Nat} (h : vr w lo hi (some ⟨b, off, none⟩) cA rs) (hj : j < rs.length) (hn : rs[j].length = n) (hc : c < n) {V : List Vl} (hV : vg rs c = V) (hjV : j < V.length) :
    ∃ b2 o2 c2, w.cell? ⟨b, off + j, none⟩ = some (.slice (some ⟨b2, o2, none⟩) n c2) ∧ b < hi ∧ b2 < hi ∧ n ≤ c2 ∧ c2 ≤ 9223372036854775807 ∧ w.cell? ⟨b2, o2 + c * 2, none⟩ = some (.bool V[j].null) ∧ w.cell? ⟨b2, o2 + c * 2 + 1, none⟩ = some (.string V[j].s) := by
  subst hV
  obtain ⟨b', off', A', c', e, _, hb, hcell, hrow⟩ := h.get hj
  injection e with e
  injection e with e1 e2
  subst e1 e2
  obtain ⟨hl, hm⟩ := hrow.len
  obtain ⟨b2, o2, rfl, _, hb2, h0, h1⟩ := hrow.get (j := c) (by omega)
  have e3 : (vg rs c)[j] = rs[j][c]'(by omega) := by
    simp [vg, List.getD, qe (show c < rs[j].length by omega)]
  rw [hn] at hcell hl
  refine ⟨b2, o2, c', hcell, hb, hb2, hl, hm, ?_, ?_⟩
  · rw [e3]; exact h0
  · rw [e3]; exact h1
/-- a group's column holds the strings of its chunk -/
theorem texts_mine {g : GrpS} {n c : Nat} (h : g.Ok n) (hc : c < g.cols.length) : qw (vg (qiw g) c) = qfx g.cols[c].ck := by
  have e : vg (qiw g) c = qbn g.cols[c].ck := rowsG_col h hc
  rw [e, vals_texts (h.cols _ (qj hc)).ck]
/-- a filter made of a column's strings is the column's own -/
theorem made_same {g : GrpS} {n c b : Nat} {ys : List ByteArray} {e : Fc} (h : g.Ok n) (hc : c < g.cols.length) (hys : qw (vg (qiw g) c) = ys) (hb : b = g.cols[c].b) (he : FlOf ys b e) : e.b = b ∧ e.gs = g.cols[c].gs ∧ e.rs = g.cols[c].rs := by
  subst hb
  rw [texts_mine h hc] at hys
  subst hys
  obtain ⟨h1, t, h2, h3, h4⟩ := he
  have h5 : qk5 (qfx g.cols[c].ck) g.cols[c].b e.gs e.rs := ⟨t, h2, h3, h4⟩
  have h6 := h5.one (h.cols _ (qj hc)).of
  exact ⟨h1, h6.1, h6.2⟩

set_option maxRecDepth 20000 in
set_option maxHeartbeats 16000000 in
theorem segmentSound_walk {w : World} {B : Option Addr} {bs : List UInt8} {d : Nat} (h : Rd w 0 w.heap.size B d (bv bs)) {A : Option Addr} {p : Pr} {c : Nat} (hpk : PrOk p ∧ Kin w 0 w.heap.size p.kids A c) :
    Calls Tryz.prog 6 #[.slice B bs.length d, .agg #[.int .i64 p.kind, .int .i64 p.col, .string p.s, .int .i64 p.esc, .int .i64 p.coll, .slice A p.kids.length c]] w fun e w' => e = .returned (.bool true) ∧ Below w.heap.size w w' := by
  obtain ⟨ho, hk⟩ := hpk
  have hkl := hk.len
  have hl := h.len
  have hc := h.cap
  rw [yh] at hl
  unfold maxLen at hc
  obtain ⟨w1, hw1⟩ : ∃ x, w.alloc (.cells #[.int .i64 p.kind, .int .i64 p.col, .string p.s, .int .i64 p.esc, .int .i64 p.coll, .slice A p.kids.length c] 55) = x := ⟨_, rfl⟩
  have B1 : Hid (Below w.heap.size w w1) := by unfold Hid; rw [← hw1]; exact (Below.refl _ w).alloc (qc _) _
  have hbk : j6 w1 w.heap.size 55 #[.int .i64 p.kind, .int .i64 p.col, .string p.s, .int .i64 p.esc, .int .i64 p.coll, .slice A p.kids.length c] := by rw [← hw1]; exact j6.new w _ _
  have H : Hid (∀ W, Below w.heap.size w W → Rd W 0 W.heap.size B d (bv bs)) := fun W hW => (h.below hW (qc _)).wide (qc _) hW.size
  have HK : Hid (∀ W, Below w.heap.size w W → Kin W 0 W.heap.size p.kids A c) := fun W hW => Kin.wide (qc _) hW.size (hk.kept hW (qc _))
  have HP := qa ho
  have HCF : Hid (∀ W, Below w1.heap.size w1 W → W.cell? ⟨w.heap.size, 0, none⟩ = some (.int .i64 p.kind) ∧ W.cell? ⟨w.heap.size, 1, none⟩ = some (.int .i64 p.col) ∧ W.cell? ⟨w.heap.size, 2, none⟩ = some (.string p.s) ∧ W.cell? ⟨w.heap.size, 3, none⟩ = some (.int .i64 p.esc) ∧ W.cell? ⟨w.heap.size, 4, none⟩ = some (.int .i64 p.coll) ∧ W.cell? ⟨w.heap.size, 5, none⟩ = some (.slice A p.kids.length c)) := fun W hW => by
    have hx := hbk.below hW hbk.lt
    exact ⟨hx.cell 0, hx.cell 1, hx.cell 2, hx.cell 3, hx.cell 4, hx.cell 5⟩
  have hs1 := B1.out.size
  have HAW := qa (uf (w := w1))
  clear h hk ho hbk
  by_cases h5 : bs.length ≤ 2000
  case neg =>
    have i5 : (2000 : Int) < (bs.length : Int) := by omega
    go_enter Tryz.func6, Tryz.ntmps6
    go_wp2_with fail
    clear hw1
    refine HAW.out.mono ?_
    rintro r w2 ⟨rfl, hb2⟩
    have B2 : Hid (Below w.heap.size w w2) := B1.out.trans (hb2.mono hs1)
    have HAW2 := qa (uf (w := w2))
    clear hb2 HAW
    go_wp2_with fail
    refine HAW2.out.mono ?_
    rintro r w3 ⟨rfl, hb3⟩
    go_wp2_with fail
    go_ret
    exact ⟨rfl, B2.out.trans (hb3.mono B2.out.size)⟩
  have i5 : ¬ (2000 : Int) < (bs.length : Int) := by omega
  go_enter Tryz.func6, Tryz.ntmps6
  go_wp2_with fail
  clear hw1
  refine HAW.out.mono ?_
  rintro r w2 ⟨rfl, hb2⟩
  have B12 : Hid (Below w1.heap.size w1 w2) := hb2
  have B2 : Hid (Below w.heap.size w w2) := B1.out.trans (hb2.mono hs1)
  obtain ⟨c0, c1, c2, c3, c4, c5⟩ := HCF.out w2 hb2
  have HSM := qa (smallp_any p 20 HP.out (HK.out w2 B2.out) (qc _) (by omega) (by omega))
  clear hb2 HAW
  go_wp2_with fail
  refine HSM.out.mono ?_
  rintro r w3 ⟨rfl, hb3⟩
  have B13 : Hid (Below w1.heap.size w1 w3) := B12.out.trans (hb3.mono B12.out.size)
  have B3 : Hid (Below w.heap.size w w3) := B2.out.trans (hb3.mono B2.out.size)
  have HAW3 := qa (uf (w := w3))
  clear hb3 HSM c0 c1 c2 c3 c4 c5
  cases qho p 20 with
  | false =>
    go_wp2_with fail
    refine HAW3.out.mono ?_
    rintro r w4 ⟨rfl, hb4⟩
    go_wp2_with fail
    go_ret
    exact ⟨rfl, B3.out.trans (hb4.mono B3.out.size)⟩
  | true =>
    have hsl := qdy bs
    have HSE := qa (qlr (w := w3) bs (H.out w3 B3.out) (qc _) (by omega))
    obtain ⟨xs, hxs⟩ : ∃ xs, kr bs = xs := ⟨_, rfl⟩
    rw [hxs] at HSE hsl
    have hx3 : xs.length ≤ 3000 := by omega
    clear HAW3 hsl hxs
    go_wp2_with fail
    refine HSE.out.mono ?_
    rintro r w4 ⟨A4, c4, rfl, ho4, hb4⟩
    have B14 : Hid (Below w1.heap.size w1 w4) := B13.out.trans (hb4.mono B13.out.size)
    have B4 : Hid (Below w.heap.size w w4) := B3.out.trans (hb4.mono B3.out.size)
    have HRD := qa (qe9 ((Rd.of_own ho4).wide (qi _) (qc _)) (by omega) (qex (by omega)))
    clear hb4 ho4 HSE
    go_wp2_with fail
    refine HRD.out.mono ?_
    rintro r w5 ⟨hb5, ⟨G, n, gs, rfl, hok, hsm⟩ | ⟨rfl, -⟩⟩
    case inr =>
      have B5 : Hid (Below w.heap.size w w5) := B4.out.trans (hb5.mono B4.out.size)
      clear hb5 HRD
      go_wp2_with fail
      go_quiet (fail)
      go_wp2_with fail
      go_ret
      exact ⟨rfl, zg B5.out _⟩
    have B15 : Hid (Below w1.heap.size w1 w5) := B14.out.trans (hb5.mono B14.out.size)
    have B5 : Hid (Below w.heap.size w w5) := B4.out.trans (hb5.mono B4.out.size)
    clear hb5 HRD
    go_wp2_with fail
    have HC5 : Hid (∀ W, Below w5.heap.size w5 W → W.cell? ⟨w.heap.size, 0, none⟩ = some (.int .i64 p.kind) ∧ W.cell? ⟨w.heap.size, 1, none⟩ = some (.int .i64 p.col) ∧ W.cell? ⟨w.heap.size, 2, none⟩ = some (.string p.s) ∧ W.cell? ⟨w.heap.size, 3, none⟩ = some (.int .i64 p.esc) ∧ W.cell? ⟨w.heap.size, 4, none⟩ = some (.int .i64 p.coll) ∧ W.cell? ⟨w.heap.size, 5, none⟩ = some (.slice A p.kids.length c)) := fun W hW => HCF.out W (B15.out.trans (hW.mono B15.out.size))
    have HQ5 : Hid (∀ W, Below w5.heap.size w5 W → W.cell? ⟨G, 0, none⟩ = some (.int .i64 (n : Int))) := fun W hW => (hsm.below hW).cells.1
    have HSG := qa hsm
    have HOK := qa hok.ok
    have HRI : Hid (∀ W, Below w5.heap.size w5 W → Calls Tryz.prog 23 #[.agg #[.int .i64 p.kind, .int .i64 p.col, .string p.s, .int .i64 p.esc, .int .i64 p.coll, .slice A p.kids.length c], .int .i64 (n : Int), .int .i64 12] W fun r w' => r = .returned (.bool (uv p (n : Int) 12)) ∧ Below W.heap.size W w') := fun W hW => rightp_any p (n : Int) 12 HP.out (HK.out W (B5.out.trans (hW.mono B5.out.size))) (qc _) (by omega) (by omega)
    have HLN : Hid (∀ W, Below w5.heap.size w5 W → Calls Tryz.prog 19 #[.pointer (some ⟨G, 0, none⟩)] W fun r w' => r = .returned (.int .i64 (qas gs : Int)) ∧ Below W.heap.size W w') := fun W hW => qos (hsm.below hW) hok.ok
    obtain ⟨T, hT⟩ : ∃ T, qas gs = T := ⟨_, rfl⟩
    rw [hT] at HLN
    have HT := qa hT
    clear hok hsm hT
    have KD : Hid (Below w5.heap.size w5 w5.drew) := (Below.refl _ _).drew
    refine wp_region_held_drew (S := fun W => Below w5.heap.size w5 W) (by kernel_rfl) KD.out (fun hHeld => ?_)
    refine wpAnyH_take (i := 0) (oi := _) (v := ?_) rfl (by kernel_rfl) (by kernel_rfl) (by kernel_rfl) (fun _ _ _ h => h) (Or.inl ⟨by rfl, ?_⟩) hHeld ?_
    rotate_left
    focus (intro W hSw; obtain ⟨c0, c1, c2, c3, c4, c5⟩ := HC5.out W hSw; obtain q0 := HQ5.out W hSw; go_simp; try with_reducible rfl)
    try simp only [List.getElem_toArray, qdp, List.getElem_cons_succ, Act.put, xp, um, uo]
    refine wpAnyH_take (i := 1) (oi := _) (v := ?_) rfl (by kernel_rfl) (by kernel_rfl) (by kernel_rfl) (fun _ _ _ h => h) (Or.inl ⟨by rfl, ?_⟩) hHeld ?_
    rotate_left
    focus (intro W hSw; obtain ⟨c0, c1, c2, c3, c4, c5⟩ := HC5.out W hSw; obtain q0 := HQ5.out W hSw; go_simp; try with_reducible rfl)
    try simp only [List.getElem_toArray, qdp, List.getElem_cons_succ, Act.put, xp, um, uo]
    refine wpAnyH_take (i := 2) (oi := _) (v := ?_) rfl (by kernel_rfl) (by kernel_rfl) (by kernel_rfl) (fun _ _ _ h => h) (Or.inl ⟨by rfl, ?_⟩) hHeld ?_
    rotate_left
    focus (intro W hSw; obtain ⟨c0, c1, c2, c3, c4, c5⟩ := HC5.out W hSw; obtain q0 := HQ5.out W hSw; go_simp; try with_reducible rfl)
    try simp only [List.getElem_toArray, qdp, List.getElem_cons_succ, Act.put, xp, um, uo]
    refine wpAnyH_take (i := 3) (oi := _) (v := ?_) rfl (by kernel_rfl) (by kernel_rfl) (by kernel_rfl) (fun _ _ _ h => h) (Or.inl ⟨by rfl, ?_⟩) hHeld ?_
    rotate_left
    focus (intro W hSw; obtain ⟨c0, c1, c2, c3, c4, c5⟩ := HC5.out W hSw; obtain q0 := HQ5.out W hSw; go_simp; try with_reducible rfl)
    try simp only [List.getElem_toArray, qdp, List.getElem_cons_succ, Act.put, xp, um, uo]
    refine wpAnyH_take (i := 4) (oi := _) (v := ?_) rfl (by kernel_rfl) (by kernel_rfl) (by kernel_rfl) (fun _ _ _ h => h) (Or.inl ⟨by rfl, ?_⟩) hHeld ?_
    rotate_left
    focus (intro W hSw; obtain ⟨c0, c1, c2, c3, c4, c5⟩ := HC5.out W hSw; obtain q0 := HQ5.out W hSw; go_simp; try with_reducible rfl)
    try simp only [List.getElem_toArray, qdp, List.getElem_cons_succ, Act.put, xp, um, uo]
    refine wpAnyH_take (i := 5) (oi := _) (v := ?_) rfl (by kernel_rfl) (by kernel_rfl) (by kernel_rfl) (fun _ _ _ h => h) (Or.inl ⟨by rfl, ?_⟩) hHeld ?_
    rotate_left
    focus (intro W hSw; obtain ⟨c0, c1, c2, c3, c4, c5⟩ := HC5.out W hSw; obtain q0 := HQ5.out W hSw; go_simp; try with_reducible rfl)
    try simp only [List.getElem_toArray, qdp, List.getElem_cons_succ, Act.put, xp, um, uo]
    refine wpAnyH_take (i := 6) (oi := _) (v := ?_) rfl (by kernel_rfl) (by kernel_rfl) (by kernel_rfl) (fun _ _ _ h => h) (Or.inl ⟨by rfl, ?_⟩) hHeld ?_
    rotate_left
    focus (intro W hSw; obtain ⟨c0, c1, c2, c3, c4, c5⟩ := HC5.out W hSw; obtain q0 := HQ5.out W hSw; go_simp; try with_reducible rfl)
    try simp only [List.getElem_toArray, qdp, List.getElem_cons_succ, Act.put, xp, um, uo]
    refine wpAnyH_take (i := 7) (oi := _) (v := ?_) rfl (by kernel_rfl) (by kernel_rfl) (by kernel_rfl) (fun _ _ _ h => h) (Or.inl ⟨by rfl, ?_⟩) hHeld ?_
    rotate_left
    focus (intro W hSw; obtain ⟨c0, c1, c2, c3, c4, c5⟩ := HC5.out W hSw; obtain q0 := HQ5.out W hSw; go_simp; try with_reducible rfl)
    try simp only [List.getElem_toArray, qdp, List.getElem_cons_succ, Act.put, xp, um, uo]
    refine wpAnyH_take (i := 8) (oi := _) (v := ?_) rfl (by kernel_rfl) (by kernel_rfl) (by kernel_rfl) (fun _ _ _ h => h) (Or.inl ⟨by rfl, ?_⟩) hHeld ?_
    rotate_left
    focus (intro W hSw; obtain ⟨c0, c1, c2, c3, c4, c5⟩ := HC5.out W hSw; obtain q0 := HQ5.out W hSw; go_simp; try with_reducible rfl)
    try simp only [List.getElem_toArray, qdp, List.getElem_cons_succ, Act.put, xp, um, uo]
    refine wpAnyH_take (i := 9) (oi := _) (v := ?_) rfl (by kernel_rfl) (by kernel_rfl) (by kernel_rfl) (fun _ _ _ h => h) (Or.inl ⟨by rfl, ?_⟩) hHeld ?_
    rotate_left
    focus (intro W hSw; obtain ⟨c0, c1, c2, c3, c4, c5⟩ := HC5.out W hSw; obtain q0 := HQ5.out W hSw; go_simp; try with_reducible rfl)
    try simp only [List.getElem_toArray, qdp, List.getElem_cons_succ, Act.put, xp, um, uo]
    refine wpAnyH_take (i := 10) (oi := _) (v := ?_) rfl (by kernel_rfl) (by kernel_rfl) (by kernel_rfl) (fun _ _ _ h => h) (Or.inl ⟨by rfl, ?_⟩) hHeld ?_
    rotate_left
    focus (intro W hSw; obtain ⟨c0, c1, c2, c3, c4, c5⟩ := HC5.out W hSw; obtain q0 := HQ5.out W hSw; go_simp; try with_reducible rfl)
    try simp only [List.getElem_toArray, qdp, List.getElem_cons_succ, Act.put, xp, um, uo]
    refine wpAnyH_take (i := 11) (oi := _) (v := ?_) rfl (by kernel_rfl) (by kernel_rfl) (by kernel_rfl) (fun _ _ _ h => h) (Or.inl ⟨by rfl, ?_⟩) hHeld ?_
    rotate_left
    focus (intro W hSw; obtain ⟨c0, c1, c2, c3, c4, c5⟩ := HC5.out W hSw; obtain q0 := HQ5.out W hSw; go_simp; try with_reducible rfl)
    try simp only [List.getElem_toArray, qdp, List.getElem_cons_succ, Act.put, xp, um, uo]
    obtain ⟨wd, hwd⟩ : ∃ q, w5.drew = q := ⟨_, rfl⟩
    rw [hwd] at hHeld ⊢
    clear KD hwd
    have K1 := qa hHeld
    refine wpAnyH_ready (rs := [12]) (by kernel_rfl) (by simp) ?_
    refine zc (o := _) rfl (fun K hK => ?_) zm
    go_simp
    refine (HRI.out _ K1.out).mono ?_
    rintro r w6 ⟨rfl, hb6⟩
    have K2 : Hid (Below w5.heap.size w5 w6) := K1.out.trans (hb6.mono K1.out.size)
    clear hb6
    obtain ⟨rp, hrp⟩ : ∃ x, uv p (n : Int) 12 = x := ⟨_, rfl⟩
    rw [hrp]
    have HRP := qa hrp
    clear hrp
    refine hK.out _ _ K2.out (fun hHeld => ?_)
    clear hK K
    try simp only [List.getElem_toArray, qdp, List.getElem_cons_succ, Act.put, xp, um, uo]
    cases rp with
    | false =>
      refine wpAnyH_take (i := 13) (oi := _) (v := ?_) rfl (by kernel_rfl) (by kernel_rfl) (by kernel_rfl) (fun _ _ _ h => h) (Or.inl ⟨by rfl, ?_⟩) hHeld ?_
      rotate_left
      focus (intro W hSw; obtain ⟨c0, c1, c2, c3, c4, c5⟩ := HC5.out W hSw; obtain q0 := HQ5.out W hSw; go_simp; try with_reducible rfl)
      try simp only [List.getElem_toArray, qdp, List.getElem_cons_succ, Act.put, xp, um, uo]
      refine wpAnyH_take (i := 14) (oi := _) (v := ?_) rfl (by kernel_rfl) (by kernel_rfl) (by kernel_rfl) (fun _ _ _ h => h) (Or.inl ⟨by rfl, ?_⟩) hHeld ?_
      rotate_left
      focus (intro W hSw; obtain ⟨c0, c1, c2, c3, c4, c5⟩ := HC5.out W hSw; obtain q0 := HQ5.out W hSw; go_simp; try with_reducible rfl)
      try simp only [List.getElem_toArray, qdp, List.getElem_cons_succ, Act.put, xp, um, uo]
      refine wpAnyH_take (i := 15) (oi := _) (v := ?_) rfl (by kernel_rfl) (by kernel_rfl) (by kernel_rfl) (fun _ _ _ h => h) (Or.inl ⟨by rfl, ?_⟩) hHeld ?_
      rotate_left
      focus (intro W hSw; obtain ⟨c0, c1, c2, c3, c4, c5⟩ := HC5.out W hSw; obtain q0 := HQ5.out W hSw; go_simp; try with_reducible rfl)
      try simp only [List.getElem_toArray, qdp, List.getElem_cons_succ, Act.put, xp, um, uo]
      refine wpAnyH_take (i := 16) (oi := _) (v := undef) rfl (by kernel_rfl) (by kernel_rfl) (by kernel_rfl) (fun _ _ _ h => h) (Or.inr ⟨by rfl, rfl⟩) hHeld ?_
      try simp only [List.getElem_toArray, qdp, List.getElem_cons_succ, Act.put, xp, um, uo]
      refine wpAnyH_take (i := 17) (oi := _) (v := undef) rfl (by kernel_rfl) (by kernel_rfl) (by kernel_rfl) (fun _ _ _ h => h) (Or.inr ⟨by rfl, rfl⟩) hHeld ?_
      try simp only [List.getElem_toArray, qdp, List.getElem_cons_succ, Act.put, xp, um, uo]
      refine wpAnyH_take (i := 18) (oi := _) (v := undef) rfl (by kernel_rfl) (by kernel_rfl) (by kernel_rfl) (fun _ _ _ h => h) (Or.inr ⟨by rfl, rfl⟩) hHeld ?_
      try simp only [List.getElem_toArray, qdp, List.getElem_cons_succ, Act.put, xp, um, uo]
      refine wpAnyH_take (i := 19) (oi := _) (v := ?_) rfl (by kernel_rfl) (by kernel_rfl) (by kernel_rfl) (fun _ _ _ h => h) (Or.inl ⟨by rfl, ?_⟩) hHeld ?_
      rotate_left
      focus (intro W hSw; obtain ⟨c0, c1, c2, c3, c4, c5⟩ := HC5.out W hSw; obtain q0 := HQ5.out W hSw; go_simp; try with_reducible rfl)
      try simp only [List.getElem_toArray, qdp, List.getElem_cons_succ, Act.put, xp, um, uo]
      refine wpAnyH_done (by kernel_rfl) ?_ _
      go_wp2_with fail
      go_ret
      exact ⟨rfl, B5.out.trans (K2.out.mono B5.out.size)⟩
    | true =>
      refine wpAnyH_take (i := 13) (oi := _) (v := ?_) rfl (by kernel_rfl) (by kernel_rfl) (by kernel_rfl) (fun _ _ _ h => h) (Or.inl ⟨by rfl, ?_⟩) hHeld ?_
      rotate_left
      focus (intro W hSw; go_simp; try with_reducible rfl)
      try simp only [List.getElem_toArray, qdp, List.getElem_cons_succ, Act.put, xp, um, uo]
      refine wpAnyH_take (i := 14) (oi := _) (v := ?_) rfl (by kernel_rfl) (by kernel_rfl) (by kernel_rfl) (fun _ _ _ h => h) (Or.inl ⟨by rfl, ?_⟩) hHeld ?_
      rotate_left
      focus (intro W hSw; go_simp; try with_reducible rfl)
      try simp only [List.getElem_toArray, qdp, List.getElem_cons_succ, Act.put, xp, um, uo]
      refine wpAnyH_take (i := 15) (oi := _) (v := ?_) rfl (by kernel_rfl) (by kernel_rfl) (by kernel_rfl) (fun _ _ _ h => h) (Or.inl ⟨by rfl, ?_⟩) hHeld ?_
      rotate_left
      focus (intro W hSw; go_simp; try with_reducible rfl)
      try simp only [List.getElem_toArray, qdp, List.getElem_cons_succ, Act.put, xp, um, uo]
      refine wpAnyH_take (i := 16) (oi := _) (v := ?_) rfl (by kernel_rfl) (by kernel_rfl) (by kernel_rfl) (fun _ _ _ h => h) (Or.inl ⟨by rfl, ?_⟩) hHeld ?_
      rotate_left
      focus (intro W hSw; go_simp; try with_reducible rfl)
      try simp only [List.getElem_toArray, qdp, List.getElem_cons_succ, Act.put, xp, um, uo]
      refine wpAnyH_ready (rs := [17]) (by kernel_rfl) (by simp) ?_
      refine zc (o := _) rfl (fun K hK => ?_) zm
      go_simp
      refine (HLN.out _ K2.out).mono ?_
      rintro r w7 ⟨rfl, hb7⟩
      have K3 : Hid (Below w5.heap.size w5 w7) := K2.out.trans (hb7.mono K2.out.size)
      clear hb7
      refine hK.out _ _ K3.out (fun hHeld => ?_)
      clear hK K
      try simp only [List.getElem_toArray, qdp, List.getElem_cons_succ, Act.put, xp, um, uo]
      by_cases hT1 : T ≤ 100
      case neg =>
        have iT : (100 : Int) < (T : Int) := by omega
        refine wpAnyH_take (i := 18) (oi := _) (v := ?_) rfl (by kernel_rfl) (by kernel_rfl) (by kernel_rfl) (fun _ _ _ h => h) (Or.inl ⟨by rfl, ?_⟩) hHeld ?_
        rotate_left
        focus (intro W hSw; go_simp; try with_reducible rfl)
        try simp only [List.getElem_toArray, qdp, List.getElem_cons_succ, Act.put, xp, um, uo]
        refine wpAnyH_take (i := 19) (oi := _) (v := ?_) rfl (by kernel_rfl) (by kernel_rfl) (by kernel_rfl) (fun _ _ _ h => h) (Or.inl ⟨by rfl, ?_⟩) hHeld ?_
        rotate_left
        focus (intro W hSw; go_simp; try with_reducible rfl)
        try simp only [List.getElem_toArray, qdp, List.getElem_cons_succ, Act.put, xp, um, uo]
        refine wpAnyH_done (by kernel_rfl) ?_ _
        go_wp2_with fail
        go_ret
        exact ⟨rfl, B5.out.trans (K3.out.mono B5.out.size)⟩
      have iT : ¬ (100 : Int) < (T : Int) := by omega
      refine wpAnyH_take (i := 18) (oi := _) (v := ?_) rfl (by kernel_rfl) (by kernel_rfl) (by kernel_rfl) (fun _ _ _ h => h) (Or.inl ⟨by rfl, ?_⟩) hHeld ?_
      rotate_left
      focus (intro W hSw; go_simp; try with_reducible rfl)
      try simp only [List.getElem_toArray, qdp, List.getElem_cons_succ, Act.put, xp, um, uo]
      refine wpAnyH_take (i := 19) (oi := _) (v := ?_) rfl (by kernel_rfl) (by kernel_rfl) (by kernel_rfl) (fun _ _ _ h => h) (Or.inl ⟨by rfl, ?_⟩) hHeld ?_
      rotate_left
      focus (intro W hSw; go_simp; try with_reducible rfl)
      try simp only [List.getElem_toArray, qdp, List.getElem_cons_succ, Act.put, xp, um, uo]
      refine wpAnyH_done (by kernel_rfl) ?_ _
      clear hHeld
      have HRW := qa (qhc (HSG.out.below K3.out) HOK.out HT.out)
      go_wp2_with fail
      refine HRW.out.mono ?_
      rintro r w8 ⟨Ax, cx, xs9, rfl, ho9, hro9, hb9⟩
      have hr9 := qdn.rows hro9 ho9 fun r hr v hv => ze (qgz HOK.out r hr v hv) (by decide)
      have HRX := qa (hr9.wide (qi _) (qc _))
      have K4 : Hid (Below w5.heap.size w5 w8) := K3.out.trans (hb9.mono K3.out.size)
      clear hb9 ho9 hro9 hr9 HRW
      go_wp2_with fail
      go_loopw [8, 9] (fun x8 x9 wr => ∃ k : Nat, k ≤ gs.length ∧ x8 = .int .i64 (qas (gs.take k) : Int) ∧ x9 = .int .i64 (k : Int) ∧ Below w8.heap.size w8 wr) (fun _ x9 _ => gs.length - (intOf x9).toNat)
      case atStart => exact ⟨0, qi _, rfl, rfl, Below.refl _ _⟩
      case round =>
        obtain ⟨k, hkl, rfl, rfl, hbr⟩ := hrel
        obtain ⟨wa, rfl⟩ : ∃ x, x = wr := ⟨_, rfl⟩
        have HBA := qa hbr
        have K5 : Hid (Below w5.heap.size w5 wa) := K4.out.trans (hbr.mono K4.out.size)
        have hSa := HSG.out.below K5.out
        obtain ⟨q0, AS, cS, q1, hs1', hs2', hcs⟩ := hSa.cells
        have HSA := qa hSa
        clear hbr hSa
        by_cases hk : k < gs.length
        case neg =>
          have ik : ¬ (k : Int) < (gs.length : Int) := by omega
          clear hcs
          go_wp2_with fail
          go_ret
          exact ⟨rfl, B5.out.trans (K5.out.mono B5.out.size)⟩
        have ik : (k : Int) < (gs.length : Int) := by omega
        have ik0 : (0 : Int) ≤ (k : Int) := by omega
        obtain ⟨bS, oS, rS, rfl, hbS, hgr, hgs, z0, z1, z2⟩ := hcs k hk
        have hgo := HOK.out.grp _ (qj hk)
        have hgl : gs[k].cols.length = n := hgo.len
        rw [hgl] at z1 z2
        have HGR := qa hgr
        have HGS := qa hgs
        have HGO := qa hgo
        have HGL := qa hgl
        have HPA := qa (rowsS_part hk)
        have hT2 := qkg hk
        have hT3 := qot gs (k + 1)
        rw [HT.out] at hT3
        have hpos : 0 < gs[k].rows := hgo.pos
        have HTK := qa hT2
        obtain ⟨at0, hat⟩ : ∃ x, qas (gs.take k) = x := ⟨_, rfl⟩
        obtain ⟨m, hm⟩ : ∃ x, qas (gs.take (k + 1)) = x := ⟨_, rfl⟩
        obtain ⟨rw0, hrw0⟩ : ∃ x, gs[k].rows = x := ⟨_, rfl⟩
        rw [hat, hm, hrw0] at hT2
        rw [hm] at hT3
        rw [hrw0] at z0 hpos
        rw [hat, hrw0] at HPA
        rw [hat]
        have HAT := qa hat
        have HM := qa hm
        have HRW0 := qa hrw0
        have hadd : (at0 : Int) + (rw0 : Int) = (m : Int) := by omega
        have hrx := HRX.out
        have hTl : (qeu gs).length = T := by rw [qou, HT.out]
        obtain ⟨hx1, hx2⟩ := hrx.len
        rw [hTl] at hx1
        obtain ⟨bx, ox, _, _, hAx, -⟩ := hrx.get (j := 0) (by rw [hTl]; omega)
        subst hAx
        have ia0 : (0 : Int) ≤ (at0 : Int) := by omega
        have ia1 : (at0 : Int) ≤ (m : Int) := by omega
        have ia2 : (m : Int) ≤ (cx : Int) := by omega
        have ia3 : (m : Int) ≤ (T : Int) := by omega
        have ia4 : ¬ cx = at0 := by omega
        clear hcs hgr hgs hgo hgl hrw0 hat hm hTl hT2
        obtain ⟨w9, hw9⟩ : ∃ x, Hid (wa.alloc (.cells #[.int .i64 (rw0 : Int), .slice rS.fA n rS.fc, .slice rS.kA n rS.kc] 48) = x) := ⟨_, rfl⟩
        have b9 : Below wa.heap.size wa w9 := by rw [← hw9.out]; exact (Below.refl _ wa).alloc (qc _) _
        have hb9 : j6 w9 wa.heap.size 48 #[.int .i64 (rw0 : Int), .slice rS.fA n rS.fc, .slice rS.kA n rS.kc] := by rw [← hw9.out]; exact j6.new wa _ _
        have K6 : Hid (Below w5.heap.size w5 w9) := K5.out.trans (b9.mono K5.out.size)
        have HB9 := qa b9
        have HBK : Hid (∀ W, Below w9.heap.size w9 W → W.cell? ⟨wa.heap.size, 1, none⟩ = some (.slice rS.fA n rS.fc)) := fun W hW => (hb9.below hW hb9.lt).cell 1
        have hs89 : w8.heap.size ≤ w9.heap.size := ze HBA.out.size b9.size
        have HS89 := qa hs89
        have hadd2 : at0 + gs[k].rows = m := by rw [HRW0.out]; omega
        have hm1 := mine_rows hrx hk HAT.out hadd2 ia4 (by rw [HT.out]; omega)
        have HMI : Hid (∀ W, Below w9.heap.size w9 W → vr W 0 W.heap.size (some ⟨bx, ox + at0, none⟩) (cx - at0) (qiw gs[k])) := fun W hW => by
          have hb := (HBA.out.trans (b9.mono HBA.out.size)).trans (hW.mono hs89)
          exact (hm1.below hb (qc _)).wide (qc _) hb.size
        have hmsub : m - at0 = rw0 := by omega
        have HMS := qa hmsub
        have hrl : (qiw gs[k]).length = rw0 := by rw [qov, HRW0.out]
        have HRL := qa hrl
        have HRN : Hid (∀ r ∈ qiw gs[k], r.length = n) := fun r hr => by
          obtain ⟨i, _, rfl⟩ := zn.1 hr
          rw [qgb, HGL.out]
        have HMM : Hid (∀ r ∈ qiw gs[k], r ∈ qeu gs) := fun r hr => by
          rw [← HPA.out] at hr
          exact qem (xk hr)
        have hrc : rw0 ≤ cx - at0 ∧ cx - at0 ≤ 9223372036854775807 := by
          have := hm1.len
          rw [hrl] at this
          exact this
        have ir1 : (rw0 : Int) ≤ 100 := by omega
        clear hb9 b9 hs89 hadd2 hm1 hmsub hrl
        clear hrx
        go_wp2_with fail
        rw [hw9.out, HMS.out]
        clear hw9
        go_loopw [12] (fun x12 wr => ∃ cc : Nat, cc ≤ n ∧ x12 = .int .i64 (cc : Int) ∧ Below w9.heap.size w9 wr) (fun x12 _ => n - (intOf x12).toNat)
        case atStart => exact ⟨0, qi _, rfl, Below.refl _ _⟩
        case round =>
          obtain ⟨cc, hcn, rfl, hbr⟩ := hrel
          obtain ⟨wb, rfl⟩ : ∃ x, x = wr := ⟨_, rfl⟩
          have HBB := qa hbr
          have K7 : Hid (Below w5.heap.size w5 wb) := K6.out.trans (hbr.mono K6.out.size)
          have hq0 := HQ5.out wb K7.out
          clear hbr
          by_cases hcc : cc < n
          case neg =>
            have icc : ¬ (cc : Int) < (n : Int) := by omega
            go_wp2_with fail
            clear hq0 icc hcn hcc
            go_loopw [15] (fun x15 wr => ∃ j : Nat, j ≤ rw0 ∧ x15 = .int .i64 (j : Int) ∧ Below wb.heap.size wb wr) (fun x15 _ => rw0 - (intOf x15).toNat)
            case atStart => exact ⟨0, qi _, rfl, Below.refl _ _⟩
            case round =>
              obtain ⟨j, hj, rfl, hbr⟩ := hrel
              obtain ⟨wc, rfl⟩ : ∃ x, x = wr := ⟨_, rfl⟩
              have K8 : Hid (Below w9.heap.size w9 wc) := HBB.out.trans (hbr.mono HBB.out.size)
              have K9 : Hid (Below w5.heap.size w5 wc) := K6.out.trans (K8.out.mono K6.out.size)
              have HBC := qa hbr
              clear hbr
              by_cases hlt : j < rw0
              case neg =>
                have ij : ¬ (j : Int) < (rw0 : Int) := by omega
                go_wp2_with fail
                go_roundw
                case rel => exact ⟨k + 1, by omega, by rw [HM.out], by go_num, HBA.out.trans ((HB9.out.trans (K8.out.mono HB9.out.size)).mono HBA.out.size)⟩
                case measure => simp [intOf] <;> omega
              have ij : (j : Int) < (rw0 : Int) := by omega
              have ij0 : (0 : Int) ≤ (j : Int) := by omega
              have hjr : j < (qiw gs[k]).length := by rw [HRL.out]; exact hlt
              obtain ⟨b', off', A3, c3, e, _, hbb, hcell, hrow⟩ := (HMI.out wc K8.out).get hjr
              injection e with e
              injection e with e1 e2
              subst e1 e2
              have hrn := HRN.out _ (qj hjr)
              have HSY : Hid (qhr p (qr4 gs[k]) = true → qeb p (qiw gs[k])[j] ≠ 1) := group_none HGO.out (qj hjr) p 12 HRP.out
              have HVS : Hid (∀ v ∈ (qiw gs[k])[j], v.s.size ≤ 100000) := fun v hv => by
                exact ze (qgz HOK.out _ (HMM.out _ (qj hjr)) v hv) (by decide)
              obtain ⟨row, hrow2⟩ : ∃ x, (qiw gs[k])[j] = x := ⟨_, rfl⟩
              rw [hrow2] at hcell hrow hrn HSY HVS
              rw [hrn] at hcell
              have HRN2 := qa hrn
              have HCL : Hid (∀ W, Below wc.heap.size wc W → W.cell? ⟨bx, ox + at0 + j, none⟩ = some (.slice A3 n c3)) := fun W hW => by
                rw [hW.cell (p := ⟨bx, ox + at0 + j, none⟩) hbb]
                exact hcell
              have HRW2 : Hid (∀ W, Below wc.heap.size wc W → Row W 0 W.heap.size A3 c3 row) := fun W hW => (hrow.below hW (qc _)).wide (qc _) hW.size
              have HP5 : Hid (∀ W, Below wc.heap.size wc W → W.cell? ⟨w.heap.size, 0, none⟩ = some (.int .i64 p.kind) ∧ W.cell? ⟨w.heap.size, 1, none⟩ = some (.int .i64 p.col) ∧ W.cell? ⟨w.heap.size, 2, none⟩ = some (.string p.s) ∧ W.cell? ⟨w.heap.size, 3, none⟩ = some (.int .i64 p.esc) ∧ W.cell? ⟨w.heap.size, 4, none⟩ = some (.int .i64 p.coll) ∧ W.cell? ⟨w.heap.size, 5, none⟩ = some (.slice A p.kids.length c)) := fun W hW => HC5.out W (K9.out.trans (hW.mono K9.out.size))
              have HBK2 : Hid (∀ W, Below wc.heap.size wc W → W.cell? ⟨wa.heap.size, 1, none⟩ = some (.slice rS.fA n rS.fc)) := fun W hW => HBK.out W (K8.out.trans (hW.mono K8.out.size))
              have HSK : Hid (∀ W, Below wc.heap.size wc W → Calls Tryz.prog 27 #[.agg #[.int .i64 p.kind, .int .i64 p.col, .string p.s, .int .i64 p.esc, .int .i64 p.coll, .slice A p.kids.length c], .slice rS.fA n rS.fc] W fun r w' => r = .returned (.bool (qhr p (qr4 gs[k]))) ∧ Below W.heap.size W w') := fun W hW => by
                have hb1 := K9.out.trans (hW.mono K9.out.size)
                have hb2 : Below wa.heap.size wa W := (HB9.out.trans (K8.out.mono HB9.out.size)).trans (hW.mono (HB9.out.trans (K8.out.mono HB9.out.size)).size)
                exact sgskip_v HP.out (HK.out W (B5.out.trans (hb1.mono B5.out.size))) (HGR.out.below hb2) HGS.out HGO.out HRP.out
              have HSAY : Hid (∀ W, Below wc.heap.size wc W → Calls Tryz.prog 28 #[.agg #[.int .i64 p.kind, .int .i64 p.col, .string p.s, .int .i64 p.esc, .int .i64 p.coll, .slice A p.kids.length c], .slice A3 n c3] W fun r w' => r = .returned (.int .i64 (qeb p row)) ∧ Below W.heap.size W w') := fun W hW => by
                have hb1 := K9.out.trans (hW.mono K9.out.size)
                have h1 := saysp_any p row 12 HP.out (HK.out W (B5.out.trans (hb1.mono B5.out.size))) (HRW2.out W hW) (qc _) (qc _) HVS.out (by rw [HRN2.out]; exact HRP.out)
                rw [HRN2.out] at h1
                exact h1
              obtain ⟨sk, hsk⟩ : ∃ x, qhr p (qr4 gs[k]) = x := ⟨_, rfl⟩
              rw [hsk] at HSK HSY
              obtain ⟨sy, hsy⟩ : ∃ x, qeb p row = x := ⟨_, rfl⟩
              rw [hsy] at HSAY HSY
              clear hsk hsy hrn hrow2 hcell hrow hjr
              go_wp2_with fail
              have KD : Hid (Below wc.heap.size wc wc.drew) := (Below.refl _ _).drew
              refine wp_region_held_drew (S := fun W => Below wc.heap.size wc W) (by kernel_rfl) KD.out (fun hHeld => ?_)
              refine wpAnyH_take (i := 0) (oi := _) (v := ?_) rfl (by kernel_rfl) (by kernel_rfl) (by kernel_rfl) (fun _ _ _ h => h) (Or.inl ⟨by rfl, ?_⟩) hHeld ?_
              rotate_left
              focus (intro W hSw; obtain ⟨c0, c1, c2, c3, c4, c5⟩ := HP5.out W hSw; have q0 := HBK2.out W hSw; have q1 := HCL.out W hSw; go_simp; try with_reducible rfl)
              try simp only [List.getElem_toArray, qdp, List.getElem_cons_succ, Act.put, xp, um, uo]
              refine wpAnyH_take (i := 1) (oi := _) (v := ?_) rfl (by kernel_rfl) (by kernel_rfl) (by kernel_rfl) (fun _ _ _ h => h) (Or.inl ⟨by rfl, ?_⟩) hHeld ?_
              rotate_left
              focus (intro W hSw; obtain ⟨c0, c1, c2, c3, c4, c5⟩ := HP5.out W hSw; have q0 := HBK2.out W hSw; have q1 := HCL.out W hSw; go_simp; try with_reducible rfl)
              try simp only [List.getElem_toArray, qdp, List.getElem_cons_succ, Act.put, xp, um, uo]
              refine wpAnyH_take (i := 2) (oi := _) (v := ?_) rfl (by kernel_rfl) (by kernel_rfl) (by kernel_rfl) (fun _ _ _ h => h) (Or.inl ⟨by rfl, ?_⟩) hHeld ?_
              rotate_left
              focus (intro W hSw; obtain ⟨c0, c1, c2, c3, c4, c5⟩ := HP5.out W hSw; have q0 := HBK2.out W hSw; have q1 := HCL.out W hSw; go_simp; try with_reducible rfl)
              try simp only [List.getElem_toArray, qdp, List.getElem_cons_succ, Act.put, xp, um, uo]
              obtain ⟨wd, hwd⟩ : ∃ q, wc.drew = q := ⟨_, rfl⟩
              rw [hwd] at hHeld ⊢
              clear KD hwd
              have L1 := qa hHeld
              refine wpAnyH_ready (rs := [3]) (by kernel_rfl) (by simp) ?_
              refine zc (o := _) rfl (fun K hK => ?_) zm
              go_simp
              refine (HSK.out _ L1.out).mono ?_
              rintro r we ⟨rfl, hbn⟩
              have L2 : Hid (Below wc.heap.size wc we) := L1.out.trans (hbn.mono L1.out.size)
              clear hbn
              refine hK.out _ _ L2.out (fun hHeld => ?_)
              clear hK K
              try simp only [List.getElem_toArray, qdp, List.getElem_cons_succ, Act.put, xp, um, uo]
              cases sk with
              | false =>
                refine wpAnyH_take (i := 4) (oi := _) (v := ?_) rfl (by kernel_rfl) (by kernel_rfl) (by kernel_rfl) (fun _ _ _ h => h) (Or.inl ⟨by rfl, ?_⟩) hHeld ?_
                rotate_left
                focus (intro W hSw; go_simp; try with_reducible rfl)
                try simp only [List.getElem_toArray, qdp, List.getElem_cons_succ, Act.put, xp, um, uo]
                refine wpAnyH_take (i := 5) (oi := _) (v := undef) rfl (by kernel_rfl) (by kernel_rfl) (by kernel_rfl) (fun _ _ _ h => h) (Or.inr ⟨by rfl, rfl⟩) hHeld ?_
                try simp only [List.getElem_toArray, qdp, List.getElem_cons_succ, Act.put, xp, um, uo]
                refine wpAnyH_take (i := 6) (oi := _) (v := undef) rfl (by kernel_rfl) (by kernel_rfl) (by kernel_rfl) (fun _ _ _ h => h) (Or.inr ⟨by rfl, rfl⟩) hHeld ?_
                try simp only [List.getElem_toArray, qdp, List.getElem_cons_succ, Act.put, xp, um, uo]
                refine wpAnyH_take (i := 7) (oi := _) (v := undef) rfl (by kernel_rfl) (by kernel_rfl) (by kernel_rfl) (fun _ _ _ h => h) (Or.inr ⟨by rfl, rfl⟩) hHeld ?_
                try simp only [List.getElem_toArray, qdp, List.getElem_cons_succ, Act.put, xp, um, uo]
                refine wpAnyH_take (i := 8) (oi := _) (v := undef) rfl (by kernel_rfl) (by kernel_rfl) (by kernel_rfl) (fun _ _ _ h => h) (Or.inr ⟨by rfl, rfl⟩) hHeld ?_
                try simp only [List.getElem_toArray, qdp, List.getElem_cons_succ, Act.put, xp, um, uo]
                refine wpAnyH_take (i := 9) (oi := _) (v := undef) rfl (by kernel_rfl) (by kernel_rfl) (by kernel_rfl) (fun _ _ _ h => h) (Or.inr ⟨by rfl, rfl⟩) hHeld ?_
                try simp only [List.getElem_toArray, qdp, List.getElem_cons_succ, Act.put, xp, um, uo]
                refine wpAnyH_take (i := 10) (oi := _) (v := undef) rfl (by kernel_rfl) (by kernel_rfl) (by kernel_rfl) (fun _ _ _ h => h) (Or.inr ⟨by rfl, rfl⟩) hHeld ?_
                try simp only [List.getElem_toArray, qdp, List.getElem_cons_succ, Act.put, xp, um, uo]
                refine wpAnyH_take (i := 11) (oi := _) (v := undef) rfl (by kernel_rfl) (by kernel_rfl) (by kernel_rfl) (fun _ _ _ h => h) (Or.inr ⟨by rfl, rfl⟩) hHeld ?_
                try simp only [List.getElem_toArray, qdp, List.getElem_cons_succ, Act.put, xp, um, uo]
                refine wpAnyH_take (i := 12) (oi := _) (v := ?_) rfl (by kernel_rfl) (by kernel_rfl) (by kernel_rfl) (fun _ _ _ h => h) (Or.inl ⟨by rfl, ?_⟩) hHeld ?_
                rotate_left
                focus (intro W hSw; go_simp; try with_reducible rfl)
                try simp only [List.getElem_toArray, qdp, List.getElem_cons_succ, Act.put, xp, um, uo]
                refine wpAnyH_done (by kernel_rfl) ?_ _
                clear hHeld
                go_wp2_with fail
                go_roundw
                case rel => exact ⟨j + 1, by omega, by go_num, HBC.out.trans (L2.out.mono HBC.out.size)⟩
                case measure => simp [intOf] <;> omega
              | true =>
                have hsy1 := HSY.out rfl
                have d1 : (sy == 1) = false := qr.2 hsy1
                have d2 : decide (sy = 1) = false := ql hsy1
                refine wpAnyH_take (i := 4) (oi := _) (v := ?_) rfl (by kernel_rfl) (by kernel_rfl) (by kernel_rfl) (fun _ _ _ h => h) (Or.inl ⟨by rfl, ?_⟩) hHeld ?_
                rotate_left
                focus (intro W hSw; go_simp; try with_reducible rfl)
                try simp only [List.getElem_toArray, qdp, List.getElem_cons_succ, Act.put, xp, um, uo]
                refine wpAnyH_take (i := 5) (oi := _) (v := ?_) rfl (by kernel_rfl) (by kernel_rfl) (by kernel_rfl) (fun _ _ _ h => h) (Or.inl ⟨by rfl, ?_⟩) hHeld ?_
                rotate_left
                focus (intro W hSw; obtain ⟨c0, c1, c2, c3, c4, c5⟩ := HP5.out W hSw; have q0 := HBK2.out W hSw; have q1 := HCL.out W hSw; go_simp; try with_reducible rfl)
                try simp only [List.getElem_toArray, qdp, List.getElem_cons_succ, Act.put, xp, um, uo]
                refine wpAnyH_take (i := 6) (oi := _) (v := ?_) rfl (by kernel_rfl) (by kernel_rfl) (by kernel_rfl) (fun _ _ _ h => h) (Or.inl ⟨by rfl, ?_⟩) hHeld ?_
                rotate_left
                focus (intro W hSw; obtain ⟨c0, c1, c2, c3, c4, c5⟩ := HP5.out W hSw; have q0 := HBK2.out W hSw; have q1 := HCL.out W hSw; go_simp; try with_reducible rfl)
                try simp only [List.getElem_toArray, qdp, List.getElem_cons_succ, Act.put, xp, um, uo]
                refine wpAnyH_take (i := 7) (oi := _) (v := ?_) rfl (by kernel_rfl) (by kernel_rfl) (by kernel_rfl) (fun _ _ _ h => h) (Or.inl ⟨by rfl, ?_⟩) hHeld ?_
                rotate_left
                focus (intro W hSw; obtain ⟨c0, c1, c2, c3, c4, c5⟩ := HP5.out W hSw; have q0 := HBK2.out W hSw; have q1 := HCL.out W hSw; go_simp; try with_reducible rfl)
                try simp only [List.getElem_toArray, qdp, List.getElem_cons_succ, Act.put, xp, um, uo]
                refine wpAnyH_take (i := 8) (oi := _) (v := ?_) rfl (by kernel_rfl) (by kernel_rfl) (by kernel_rfl) (fun _ _ _ h => h) (Or.inl ⟨by rfl, ?_⟩) hHeld ?_
                rotate_left
                focus (intro W hSw; obtain ⟨c0, c1, c2, c3, c4, c5⟩ := HP5.out W hSw; have q0 := HBK2.out W hSw; have q1 := HCL.out W hSw; go_simp; try with_reducible rfl)
                try simp only [List.getElem_toArray, qdp, List.getElem_cons_succ, Act.put, xp, um, uo]
                refine wpAnyH_take (i := 9) (oi := _) (v := ?_) rfl (by kernel_rfl) (by kernel_rfl) (by kernel_rfl) (fun _ _ _ h => h) (Or.inl ⟨by rfl, ?_⟩) hHeld ?_
                rotate_left
                focus (intro W hSw; obtain ⟨c0, c1, c2, c3, c4, c5⟩ := HP5.out W hSw; have q0 := HBK2.out W hSw; have q1 := HCL.out W hSw; go_simp; try with_reducible rfl)
                try simp only [List.getElem_toArray, qdp, List.getElem_cons_succ, Act.put, xp, um, uo]
                refine wpAnyH_ready (rs := [10]) (by kernel_rfl) (by simp) ?_
                refine zc (o := _) rfl (fun K hK => ?_) zm
                go_simp
                refine (HSAY.out _ L2.out).mono ?_
                rintro r wf ⟨rfl, hbn⟩
                have L3 : Hid (Below wc.heap.size wc wf) := L2.out.trans (hbn.mono L2.out.size)
                clear hbn
                refine hK.out _ _ L3.out (fun hHeld => ?_)
                clear hK K
                try simp only [List.getElem_toArray, qdp, List.getElem_cons_succ, Act.put, xp, um, uo]
                refine wpAnyH_take (i := 11) (oi := _) (v := ?_) rfl (by kernel_rfl) (by kernel_rfl) (by kernel_rfl) (fun _ _ _ h => h) (Or.inl ⟨by rfl, ?_⟩) hHeld ?_
                rotate_left
                focus (intro W hSw; go_simp; try with_reducible rfl)
                try simp only [List.getElem_toArray, qdp, List.getElem_cons_succ, Act.put, xp, um, uo]
                refine wpAnyH_take (i := 12) (oi := _) (v := ?_) rfl (by kernel_rfl) (by kernel_rfl) (by kernel_rfl) (fun _ _ _ h => h) (Or.inl ⟨by rfl, ?_⟩) hHeld ?_
                rotate_left
                focus (intro W hSw; go_simp; try with_reducible rfl)
                try simp only [List.getElem_toArray, qdp, List.getElem_cons_succ, Act.put, xp, um, uo]
                refine wpAnyH_done (by kernel_rfl) ?_ _
                clear hHeld
                go_wp2_with fail
                go_roundw
                case rel => exact ⟨j + 1, by omega, by go_num, HBC.out.trans (L3.out.mono HBC.out.size)⟩
                case measure => simp [intOf] <;> omega
          have icc : (cc : Int) < (n : Int) := by omega
          have icc0 : (0 : Int) ≤ (cc : Int) := by omega
          have hn8 : n ≤ 8 := HOK.out.eight
          obtain ⟨V, hV⟩ : ∃ V, vg (qiw gs[k]) cc = V := ⟨_, rfl⟩
          have hVl : V.length = rw0 := by rw [← hV, qa7, HRL.out]
          have HV := qa hV
          have HVL := qa hVl
          have HVS : Hid (∀ v ∈ V, v.s.size ≤ 4096) := fun v hv => by
            rw [← hV] at hv
            obtain ⟨r, hr, rfl⟩ := zn.1 hv
            have hn := HRN.out r hr
            have hc2 : cc < r.length := by omega
            refine qgz HOK.out r (HMM.out r hr) _ ?_
            simp only [List.getD, qe hc2, xj]
            exact qj hc2
          clear hV hVl
          go_wp2_with fail
          clear hq0
          go_loopw [13, 14] (fun x13 x14 wr => ∃ (j m2 c2 : Nat) (A2 : Option Addr) (ys : List ByteArray), j ≤ rw0 ∧ x14 = .int .i64 (j : Int) ∧ x13 = .slice A2 m2 c2 ∧ m2 ≤ j ∧ Hid (ys.length = m2) ∧ Hid (qw (V.take j) = ys) ∧ Hid (wr.ownsRow wb.heap.size 9 1 (.slice A2 m2 c2) m2 (sv ys)) ∧ Below wb.heap.size wb wr) (fun _ x14 _ => rw0 - (intOf x14).toNat)
          case atStart => exact ⟨0, 0, 0, none, [], qi _, rfl, rfl, qc _, rfl, rfl, zh _ _ _ _, Below.refl _ _⟩
          case round =>
            obtain ⟨j, m2, c2, A2, ys, hj, rfl, rfl, hmj, HYN, HY, HO, hbr⟩ := hrel
            obtain ⟨wc, rfl⟩ : ∃ x, x = wr := ⟨_, rfl⟩
            have HBC := qa hbr
            have K8 : Hid (Below w9.heap.size w9 wc) := HBB.out.trans (hbr.mono HBB.out.size)
            have hszc := hbr.size
            clear hbr
            by_cases hlt : j < rw0
            case pos =>
              have ij : (j : Int) < (rw0 : Int) := by omega
              have ij0 : (0 : Int) ≤ (j : Int) := by omega
              have hjV : j < V.length := by rw [HVL.out]; exact hlt
              obtain ⟨b2, o2, c3, hcell, hbb, hbb2, hcl, hcm, hx0, hx1⟩ := mine_cell (HMI.out wc K8.out) (by rw [HRL.out]; exact hlt) (HRN.out _ (qj _)) hcc HV.out hjV
              have HT := qa (qlf hjV)
              rw [HY.out] at HT
              generalize V[j].null = nb at *
              generalize V[j].s = s at *
              clear hjV
              cases nb with
              | true =>
                have HT2 : Hid (qw (V.take (j + 1)) = ys) := by unfold Hid; rw [HT.out]; simp
                clear HT
                go_wp2_with fail
                go_roundw
                case rel => exact ⟨j + 1, m2, c2, A2, ys, by omega, by go_num, rfl, by omega, HYN, HT2, HO, HBC.out⟩
                case measure => simp [intOf] <;> omega
              | false =>
                obtain ⟨zs, hzs⟩ : ∃ zs, ys ++ [s] = zs := ⟨_, rfl⟩
                have HT2 : Hid (qw (V.take (j + 1)) = zs) := by unfold Hid; rw [HT.out, ← hzs]; simp
                have HZL : Hid (zs.length = m2 + 1) := by unfold Hid; rw [← hzs, qd, HYN.out]; rfl
                have HZS := qa hzs
                clear HT hzs
                go_wp2_with (at_builtin; refine push_str_at (v := .slice A2 m2 c2) wb.heap.size ys s rfl _ _ rfl rfl rfl rfl (by rw [za _ _ _ _ rfl]; rfl) (by have := HO.out.alloc (.cells #[.string s] 9); rw [HYN.out]; exact this) (by rw [HYN.out]; omega) (by simp; omega) ?_; intro A8 c8 w8' ho8 hg8 hb8; refine qaz ?_)
                have hbB : Below wb.heap.size wb w8' := (HBC.out.alloc hszc _).grown hg8 (by simp; omega) (fun q hq => (zk HO.out hq).1)
                rw [HZS.out, HYN.out] at ho8
                have HO8 := qa ho8
                have HB8 := qa hbB
                have HZV8 : Hid (Value.slice A8 (ys.length + 1) c8 = .slice A8 (m2 + 1) c8) := by unfold Hid; rw [HYN.out]
                clear ho8 hg8 hb8 hbB HO HZS
                refine ⟨?_⟩
                go_wp2_with fail
                go_roundw
                case rel => exact ⟨j + 1, m2 + 1, c8, A8, zs, by omega, by go_num, HZV8.out, by omega, HZL, HT2, HO8, HB8.out⟩
                case measure => simp [intOf] <;> omega
            have ij : ¬ (j : Int) < (rw0 : Int) := by omega
            have hjr : j = rw0 := by omega
            subst hjr
            have hke : V.take j = V := qo (qek HVL.out)
            rw [hke] at HY
            clear hke hlt
            obtain ⟨bf, of, bk, ok, t, hfA, -, hit, htc, hfc, -, hbf, -, hfl, -⟩ := HGR.out.parts HGS.out (j := cc) (by rw [HGL.out]; exact hcc)
            have hb8 : Below wa.heap.size wa wc := HB9.out.trans (K8.out.mono HB9.out.size)
            have hcol : t.e.b ≤ 65536 := by
              rw [hit.b, htc]
              exact (HGO.out.cols _ (qj _)).fil.le
            have HIT : Hid (∀ W, Below wc.heap.size wc W → qok W 0 W.heap.size (.agg #[.int .i64 (t.e.b : Int), .slice t.e.gA t.e.gs.length t.e.gc, .slice t.e.rA t.e.rs.length t.e.rc]) t.e.b t.e.gs t.e.rs) := fun W hW => by
              have hx := hit.below (hb8.trans (hW.mono hb8.size))
              exact ⟨_, _, _, _, rfl, hx.list.wide (qi _) (qc _), hx.set.wide (qi _) (qc _)⟩
            have HSE2 : Hid (∀ e : Fc, FlOf ys t.e.b e → e.b = t.e.b ∧ e.gs = t.e.gs ∧ e.rs = t.e.rs) := fun e he => by
              have h1 := made_same HGO.out (c := cc) (by rw [HGL.out]; exact hcc) (by rw [HV.out]; exact HY.out) (by rw [hit.b, htc]) he
              rw [hit.gs, hit.rs, htc]
              exact h1
            have HCF23 : Hid (∀ W, Below wc.heap.size wc W → W.cell? ⟨wa.heap.size, 1, none⟩ = some (.slice (some ⟨bf, of, none⟩) n rS.fc) ∧ W.cell? ⟨bf, of + cc * 3, none⟩ = some (.int .i64 (t.e.b : Int)) ∧ W.cell? ⟨bf, of + cc * 3 + 1, none⟩ = some (.slice t.e.gA t.e.gs.length t.e.gc) ∧ W.cell? ⟨bf, of + cc * 3 + 2, none⟩ = some (.slice t.e.rA t.e.rs.length t.e.rc)) := fun W hW => by
              have h1 := hb8.trans (hW.mono hb8.size)
              refine ⟨?_, ?_, ?_, ?_⟩
              · rw [← hfA]
                exact HBK.out W (K8.out.trans (hW.mono K8.out.size))
              · rw [h1.cell (p := ⟨bf, of + cc * 3, none⟩) hbf]
                exact hfc 0 _ rfl
              · rw [h1.cell (p := ⟨bf, of + cc * 3 + 1, none⟩) hbf]
                exact hfc 1 _ rfl
              · rw [h1.cell (p := ⟨bf, of + cc * 3 + 2, none⟩) hbf]
                exact hfc 2 _ rfl
            have HRY : Hid (∀ W, Below wc.heap.size wc W → Rd W 0 W.heap.size A2 c2 (sv ys)) := fun W hW => (Rd.of_own (js HO.out hW (qc _))).wide (qi _) (qc _)
            have HYS : Hid (∀ s ∈ ys, s.size ≤ 4096) := fun s hs => by
              rw [← HY.out] at hs
              obtain ⟨v, hv, rfl⟩ := qgv hs
              exact HVS.out v hv
            have HFW : Hid (∀ W, Below wc.heap.size wc W → Calls Tryz.prog 24 #[.slice A2 m2 c2] W fun r w' => r = .returned (.bool (decide (FewG ys))) ∧ Below W.heap.size W w') := fun W hW => by
              have h1 := refFewG_any ys (HRY.out W hW) (fun s hs => ze (HYS.out s hs) (by decide))
              rw [HYN.out] at h1
              refine h1.mono ?_
              rintro r w' ⟨rfl, q, rfl⟩
              exact ⟨rfl, zg (Below.refl _ _) _⟩
            have HMK : Hid (∀ W, Below wc.heap.size wc W → Calls Tryz.prog 26 #[.slice A2 m2 c2, .int .i64 (t.e.b : Int)] W fun r w' => ∃ e : Fc, r = .returned (.agg (qfk e).toArray) ∧ FlOf ys t.e.b e ∧ qok w' 0 w'.heap.size (.agg (qfk e).toArray) e.b e.gs e.rs ∧ Below W.heap.size W w') := fun W hW => by
              have h1 := makeg_any ys (HRY.out W hW) (fun s hs => ze (HYS.out s hs) (by decide)) (by rw [HYN.out]; omega) t.e.b (by omega)
              rw [HYN.out] at h1
              refine h1.mono ?_
              rintro r w' ⟨e, rfl, h2, h3, h4, h5⟩
              exact ⟨e, rfl, h2, ⟨_, _, _, _, rfl, h3.wide (qi _) (qc _), h4.wide (qi _) (qc _)⟩, h5⟩
            have ifc : (n : Int) ≤ (rS.fc : Int) := by
              rw [HGL.out] at hfl
              omega
            obtain ⟨fw, hfw⟩ : ∃ x, decide (FewG ys) = x := ⟨_, rfl⟩
            rw [hfw] at HFW
            clear hfA hit htc hfc hbf hfl hb8 hcol hfw
            go_wp2_with fail
            have KD : Hid (Below wc.heap.size wc wc.drew) := (Below.refl _ _).drew
            refine wp_region_held_drew (S := fun W => Below wc.heap.size wc W) (by kernel_rfl) KD.out (fun hHeld => ?_)
            refine wpAnyH_take (i := 0) (oi := _) (v := ?_) rfl (by kernel_rfl) (by kernel_rfl) (by kernel_rfl) (fun _ _ _ h => h) (Or.inl ⟨by rfl, ?_⟩) hHeld ?_
            rotate_left
            focus (intro W hSw; go_simp; try with_reducible rfl)
            try simp only [List.getElem_toArray, qdp, List.getElem_cons_succ, Act.put, xp, um, uo]
            obtain ⟨wd, hwd⟩ : ∃ q, wc.drew = q := ⟨_, rfl⟩
            rw [hwd] at hHeld ⊢
            clear KD hwd
            have L1 := qa hHeld
            refine wpAnyH_ready (rs := [1]) (by kernel_rfl) (by simp) ?_
            refine zc (o := _) rfl (fun K hK => ?_) zm
            go_simp
            refine (HFW.out _ L1.out).mono ?_
            rintro r we ⟨rfl, hbn⟩
            have L2 : Hid (Below wc.heap.size wc we) := L1.out.trans (hbn.mono L1.out.size)
            clear hbn
            refine hK.out _ _ L2.out (fun hHeld => ?_)
            clear hK K
            try simp only [List.getElem_toArray, qdp, List.getElem_cons_succ, Act.put, xp, um, uo]
            cases fw with
            | false =>
              refine wpAnyH_take (i := 2) (oi := _) (v := ?_) rfl (by kernel_rfl) (by kernel_rfl) (by kernel_rfl) (fun _ _ _ h => h) (Or.inl ⟨by rfl, ?_⟩) hHeld ?_
              rotate_left
              focus (intro W hSw; go_simp; try with_reducible rfl)
              try simp only [List.getElem_toArray, qdp, List.getElem_cons_succ, Act.put, xp, um, uo]
              refine wpAnyH_take (i := 3) (oi := _) (v := undef) rfl (by kernel_rfl) (by kernel_rfl) (by kernel_rfl) (fun _ _ _ h => h) (Or.inr ⟨by rfl, rfl⟩) hHeld ?_
              try simp only [List.getElem_toArray, qdp, List.getElem_cons_succ, Act.put, xp, um, uo]
              refine wpAnyH_take (i := 4) (oi := _) (v := undef) rfl (by kernel_rfl) (by kernel_rfl) (by kernel_rfl) (fun _ _ _ h => h) (Or.inr ⟨by rfl, rfl⟩) hHeld ?_
              try simp only [List.getElem_toArray, qdp, List.getElem_cons_succ, Act.put, xp, um, uo]
              refine wpAnyH_take (i := 5) (oi := _) (v := undef) rfl (by kernel_rfl) (by kernel_rfl) (by kernel_rfl) (fun _ _ _ h => h) (Or.inr ⟨by rfl, rfl⟩) hHeld ?_
              try simp only [List.getElem_toArray, qdp, List.getElem_cons_succ, Act.put, xp, um, uo]
              refine wpAnyH_take (i := 6) (oi := _) (v := undef) rfl (by kernel_rfl) (by kernel_rfl) (by kernel_rfl) (fun _ _ _ h => h) (Or.inr ⟨by rfl, rfl⟩) hHeld ?_
              try simp only [List.getElem_toArray, qdp, List.getElem_cons_succ, Act.put, xp, um, uo]
              refine wpAnyH_take (i := 7) (oi := _) (v := undef) rfl (by kernel_rfl) (by kernel_rfl) (by kernel_rfl) (fun _ _ _ h => h) (Or.inr ⟨by rfl, rfl⟩) hHeld ?_
              try simp only [List.getElem_toArray, qdp, List.getElem_cons_succ, Act.put, xp, um, uo]
              refine wpAnyH_take (i := 8) (oi := _) (v := undef) rfl (by kernel_rfl) (by kernel_rfl) (by kernel_rfl) (fun _ _ _ h => h) (Or.inr ⟨by rfl, rfl⟩) hHeld ?_
              try simp only [List.getElem_toArray, qdp, List.getElem_cons_succ, Act.put, xp, um, uo]
              refine wpAnyH_take (i := 9) (oi := _) (v := undef) rfl (by kernel_rfl) (by kernel_rfl) (by kernel_rfl) (fun _ _ _ h => h) (Or.inr ⟨by rfl, rfl⟩) hHeld ?_
              try simp only [List.getElem_toArray, qdp, List.getElem_cons_succ, Act.put, xp, um, uo]
              refine wpAnyH_take (i := 10) (oi := _) (v := undef) rfl (by kernel_rfl) (by kernel_rfl) (by kernel_rfl) (fun _ _ _ h => h) (Or.inr ⟨by rfl, rfl⟩) hHeld ?_
              try simp only [List.getElem_toArray, qdp, List.getElem_cons_succ, Act.put, xp, um, uo]
              refine wpAnyH_take (i := 11) (oi := _) (v := undef) rfl (by kernel_rfl) (by kernel_rfl) (by kernel_rfl) (fun _ _ _ h => h) (Or.inr ⟨by rfl, rfl⟩) hHeld ?_
              try simp only [List.getElem_toArray, qdp, List.getElem_cons_succ, Act.put, xp, um, uo]
              refine wpAnyH_take (i := 12) (oi := _) (v := undef) rfl (by kernel_rfl) (by kernel_rfl) (by kernel_rfl) (fun _ _ _ h => h) (Or.inr ⟨by rfl, rfl⟩) hHeld ?_
              try simp only [List.getElem_toArray, qdp, List.getElem_cons_succ, Act.put, xp, um, uo]
              refine wpAnyH_take (i := 13) (oi := _) (v := undef) rfl (by kernel_rfl) (by kernel_rfl) (by kernel_rfl) (fun _ _ _ h => h) (Or.inr ⟨by rfl, rfl⟩) hHeld ?_
              try simp only [List.getElem_toArray, qdp, List.getElem_cons_succ, Act.put, xp, um, uo]
              refine wpAnyH_take (i := 14) (oi := _) (v := undef) rfl (by kernel_rfl) (by kernel_rfl) (by kernel_rfl) (fun _ _ _ h => h) (Or.inr ⟨by rfl, rfl⟩) hHeld ?_
              try simp only [List.getElem_toArray, qdp, List.getElem_cons_succ, Act.put, xp, um, uo]
              refine wpAnyH_take (i := 15) (oi := _) (v := undef) rfl (by kernel_rfl) (by kernel_rfl) (by kernel_rfl) (fun _ _ _ h => h) (Or.inr ⟨by rfl, rfl⟩) hHeld ?_
              try simp only [List.getElem_toArray, qdp, List.getElem_cons_succ, Act.put, xp, um, uo]
              refine wpAnyH_take (i := 16) (oi := _) (v := undef) rfl (by kernel_rfl) (by kernel_rfl) (by kernel_rfl) (fun _ _ _ h => h) (Or.inr ⟨by rfl, rfl⟩) hHeld ?_
              try simp only [List.getElem_toArray, qdp, List.getElem_cons_succ, Act.put, xp, um, uo]
              refine wpAnyH_take (i := 17) (oi := _) (v := undef) rfl (by kernel_rfl) (by kernel_rfl) (by kernel_rfl) (fun _ _ _ h => h) (Or.inr ⟨by rfl, rfl⟩) hHeld ?_
              try simp only [List.getElem_toArray, qdp, List.getElem_cons_succ, Act.put, xp, um, uo]
              refine wpAnyH_take (i := 18) (oi := _) (v := ?_) rfl (by kernel_rfl) (by kernel_rfl) (by kernel_rfl) (fun _ _ _ h => h) (Or.inl ⟨by rfl, ?_⟩) hHeld ?_
              rotate_left
              focus (intro W hSw; go_simp; try with_reducible rfl)
              try simp only [List.getElem_toArray, qdp, List.getElem_cons_succ, Act.put, xp, um, uo]
              refine wpAnyH_done (by kernel_rfl) ?_ _
              clear hHeld
              go_wp2_with fail
              go_roundw
              case rel => exact ⟨cc + 1, by omega, by go_num, K8.out.trans (L2.out.mono K8.out.size)⟩
              case measure => simp [intOf] <;> omega
            | true =>
              refine wpAnyH_take (i := 2) (oi := _) (v := ?_) rfl (by kernel_rfl) (by kernel_rfl) (by kernel_rfl) (fun _ _ _ h => h) (Or.inl ⟨by rfl, ?_⟩) hHeld ?_
              rotate_left
              focus (intro W hSw; go_simp; try with_reducible rfl)
              try simp only [List.getElem_toArray, qdp, List.getElem_cons_succ, Act.put, xp, um, uo]
              refine wpAnyH_take (i := 3) (oi := _) (v := ?_) rfl (by kernel_rfl) (by kernel_rfl) (by kernel_rfl) (fun _ _ _ h => h) (Or.inl ⟨by rfl, ?_⟩) hHeld ?_
              rotate_left
              focus (intro W hSw; obtain ⟨q0, q1, q2, q3⟩ := HCF23.out W hSw; go_simp; try with_reducible rfl)
              try simp only [List.getElem_toArray, qdp, List.getElem_cons_succ, Act.put, xp, um, uo]
              refine wpAnyH_take (i := 4) (oi := _) (v := ?_) rfl (by kernel_rfl) (by kernel_rfl) (by kernel_rfl) (fun _ _ _ h => h) (Or.inl ⟨by rfl, ?_⟩) hHeld ?_
              rotate_left
              focus (intro W hSw; obtain ⟨q0, q1, q2, q3⟩ := HCF23.out W hSw; go_simp; try with_reducible rfl)
              try simp only [List.getElem_toArray, qdp, List.getElem_cons_succ, Act.put, xp, um, uo]
              refine wpAnyH_take (i := 5) (oi := _) (v := ?_) rfl (by kernel_rfl) (by kernel_rfl) (by kernel_rfl) (fun _ _ _ h => h) (Or.inl ⟨by rfl, ?_⟩) hHeld ?_
              rotate_left
              focus (intro W hSw; obtain ⟨q0, q1, q2, q3⟩ := HCF23.out W hSw; go_simp; try with_reducible rfl)
              try simp only [List.getElem_toArray, qdp, List.getElem_cons_succ, Act.put, xp, um, uo]
              refine wpAnyH_take (i := 6) (oi := _) (v := ?_) rfl (by kernel_rfl) (by kernel_rfl) (by kernel_rfl) (fun _ _ _ h => h) (Or.inl ⟨by rfl, ?_⟩) hHeld ?_
              rotate_left
              focus (intro W hSw; obtain ⟨q0, q1, q2, q3⟩ := HCF23.out W hSw; go_simp; try with_reducible rfl)
              try simp only [List.getElem_toArray, qdp, List.getElem_cons_succ, Act.put, xp, um, uo]
              refine wpAnyH_take (i := 7) (oi := _) (v := ?_) rfl (by kernel_rfl) (by kernel_rfl) (by kernel_rfl) (fun _ _ _ h => h) (Or.inl ⟨by rfl, ?_⟩) hHeld ?_
              rotate_left
              focus (intro W hSw; obtain ⟨q0, q1, q2, q3⟩ := HCF23.out W hSw; go_simp; try with_reducible rfl)
              try simp only [List.getElem_toArray, qdp, List.getElem_cons_succ, Act.put, xp, um, uo]
              refine wpAnyH_take (i := 8) (oi := _) (v := ?_) rfl (by kernel_rfl) (by kernel_rfl) (by kernel_rfl) (fun _ _ _ h => h) (Or.inl ⟨by rfl, ?_⟩) hHeld ?_
              rotate_left
              focus (intro W hSw; obtain ⟨q0, q1, q2, q3⟩ := HCF23.out W hSw; go_simp; try with_reducible rfl)
              try simp only [List.getElem_toArray, qdp, List.getElem_cons_succ, Act.put, xp, um, uo]
              refine wpAnyH_take (i := 9) (oi := _) (v := ?_) rfl (by kernel_rfl) (by kernel_rfl) (by kernel_rfl) (fun _ _ _ h => h) (Or.inl ⟨by rfl, ?_⟩) hHeld ?_
              rotate_left
              focus (intro W hSw; obtain ⟨q0, q1, q2, q3⟩ := HCF23.out W hSw; go_simp; try with_reducible rfl)
              try simp only [List.getElem_toArray, qdp, List.getElem_cons_succ, Act.put, xp, um, uo]
              refine wpAnyH_take (i := 11) (oi := _) (v := ?_) rfl (by kernel_rfl) (by kernel_rfl) (by kernel_rfl) (fun _ _ _ h => h) (Or.inl ⟨by rfl, ?_⟩) hHeld ?_
              rotate_left
              focus (intro W hSw; obtain ⟨q0, q1, q2, q3⟩ := HCF23.out W hSw; go_simp; try with_reducible rfl)
              try simp only [List.getElem_toArray, qdp, List.getElem_cons_succ, Act.put, xp, um, uo]
              refine wpAnyH_take (i := 12) (oi := _) (v := ?_) rfl (by kernel_rfl) (by kernel_rfl) (by kernel_rfl) (fun _ _ _ h => h) (Or.inl ⟨by rfl, ?_⟩) hHeld ?_
              rotate_left
              focus (intro W hSw; obtain ⟨q0, q1, q2, q3⟩ := HCF23.out W hSw; go_simp; try with_reducible rfl)
              try simp only [List.getElem_toArray, qdp, List.getElem_cons_succ, Act.put, xp, um, uo]
              refine wpAnyH_take (i := 13) (oi := _) (v := ?_) rfl (by kernel_rfl) (by kernel_rfl) (by kernel_rfl) (fun _ _ _ h => h) (Or.inl ⟨by rfl, ?_⟩) hHeld ?_
              rotate_left
              focus (intro W hSw; obtain ⟨q0, q1, q2, q3⟩ := HCF23.out W hSw; go_simp; try with_reducible rfl)
              try simp only [List.getElem_toArray, qdp, List.getElem_cons_succ, Act.put, xp, um, uo]
              refine wpAnyH_take (i := 14) (oi := _) (v := ?_) rfl (by kernel_rfl) (by kernel_rfl) (by kernel_rfl) (fun _ _ _ h => h) (Or.inl ⟨by rfl, ?_⟩) hHeld ?_
              rotate_left
              focus (intro W hSw; obtain ⟨q0, q1, q2, q3⟩ := HCF23.out W hSw; go_simp; try with_reducible rfl)
              try simp only [List.getElem_toArray, qdp, List.getElem_cons_succ, Act.put, xp, um, uo]
              refine wpAnyH_take (i := 15) (oi := _) (v := ?_) rfl (by kernel_rfl) (by kernel_rfl) (by kernel_rfl) (fun _ _ _ h => h) (Or.inl ⟨by rfl, ?_⟩) hHeld ?_
              rotate_left
              focus (intro W hSw; obtain ⟨q0, q1, q2, q3⟩ := HCF23.out W hSw; go_simp; try with_reducible rfl)
              try simp only [List.getElem_toArray, qdp, List.getElem_cons_succ, Act.put, xp, um, uo]
              refine wpAnyH_ready (rs := [10]) (by kernel_rfl) (by simp) ?_
              refine zc (o := _) rfl (fun K hK => ?_) zm
              go_simp
              refine (HMK.out _ L2.out).mono ?_
              rintro r wf ⟨e, rfl, he, hfe, hbn⟩
              have L3 : Hid (Below wc.heap.size wc wf) := L2.out.trans (hbn.mono L2.out.size)
              clear hbn
              have HEQ := qa (HSE2.out e he)
              have HFE := qa hfe
              clear he hfe
              refine hK.out _ _ L3.out (fun hHeld => ?_)
              clear hK K
              try simp only [List.getElem_toArray, qdp, List.getElem_cons_succ, Act.put, xp, um, uo]
              have HSA2 := qa (sameg_any HFE.out (HIT.out wf L3.out) (qc _) (qc _))
              rw [qp HEQ.out] at HSA2
              refine wpAnyH_ready (rs := [16]) (by kernel_rfl) (by simp) ?_
              refine zc (o := _) rfl (fun K hK => ?_) zm
              go_simp
              refine (HSA2.out).mono ?_
              rintro r wg ⟨rfl, hbn⟩
              have L4 : Hid (Below wc.heap.size wc wg) := L3.out.trans (hbn.mono L3.out.size)
              clear hbn
              refine hK.out _ _ L4.out (fun hHeld => ?_)
              clear hK K
              try simp only [List.getElem_toArray, qdp, List.getElem_cons_succ, Act.put, xp, um, uo]
              refine wpAnyH_take (i := 17) (oi := _) (v := ?_) rfl (by kernel_rfl) (by kernel_rfl) (by kernel_rfl) (fun _ _ _ h => h) (Or.inl ⟨by rfl, ?_⟩) hHeld ?_
              rotate_left
              focus (intro W hSw; go_simp; try with_reducible rfl)
              try simp only [List.getElem_toArray, qdp, List.getElem_cons_succ, Act.put, xp, um, uo]
              refine wpAnyH_take (i := 18) (oi := _) (v := ?_) rfl (by kernel_rfl) (by kernel_rfl) (by kernel_rfl) (fun _ _ _ h => h) (Or.inl ⟨by rfl, ?_⟩) hHeld ?_
              rotate_left
              focus (intro W hSw; go_simp; try with_reducible rfl)
              try simp only [List.getElem_toArray, qdp, List.getElem_cons_succ, Act.put, xp, um, uo]
              refine wpAnyH_done (by kernel_rfl) ?_ _
              clear hHeld
              go_wp2_with fail
              go_roundw
              case rel => exact ⟨cc + 1, by omega, by go_num, K8.out.trans (L4.out.mono K8.out.size)⟩
              case measure => simp [intOf] <;> omega

set_option maxRecDepth 100000 in
theorem segmentSound_lifted (os : Os) (started : os.Started) (H : Type) (enc : TypeId × Value → H) :
    ReturnsInHanded {} Tryz.checked os 6 .any (Rows.segmentSoundSpec.pre6 enc Tryz.prog Tryz.f6 Rows.segmentSoundRow.domain false) (Rows.segmentSoundSpec.post enc Tryz.prog Tryz.f6 false true false false) := by
  refine returnsInHanded_of_change (C := Tryz.checked) own started (by kernel_rfl) Tryz.func6
    (ChangeSpec.witness6 (enc := enc) (C := Tryz.checked) false ⟨#[], #[.slice none 0 0, .agg #[.int .i64 0, .int .i64 0, .string ByteArray.empty, .int .i64 0, .int .i64 0, .slice none 0 0]], []⟩ 8 (by kernel_rfl) (by kernel_rfl) (by kernel_rfl) (by kernel_rfl)) ?_
  intro W base args ds gs before hval0 hW hcnd _
  have hval : ∀ (j : Nat) t v, Tryz.f6.params[j]? = some t → args[j]? = some v → Value.okWide Tryz.prog W .any base t v := hval0
  have hW' := hW
  obtain ⟨p, q, hA0, hV, rfl, hfz, hnd⟩ := hW
  have hA : DataW.TrodAll enc Tryz.prog W 0 (fun _ => true) true Tryz.f6.params.toList args.toList ds p := hA0
  have hA1 : DataW.TrodAll enc Tryz.prog W 0 (fun _ => true) true Tryz.f6.params.toList args.toList ds p := hA0
  rw [Tryz.params6] at hA hval
  obtain ⟨v0, vs0, d0, ds0, p0, q0, hargs, rfl, rfl, h0, r0⟩ := trodAll_cons hA
  obtain ⟨v1, vs1, d1, ds1, p1, q1, rfl, rfl, rfl, h1, r1⟩ := trodAll_cons r0
  obtain ⟨rfl, rfl, rfl⟩ := trodAll_nil r1
  obtain rfl : args = #[v0, v1] := by cases args; simp_all
  obtain ⟨rfl, rfl⟩ := trodVars_none hV
  obtain ⟨A0, a0, c0, rfl, w0⟩ := open_bytes Tryz.underlying26 Tryz.underlying5 (by kernel_rfl) (hval 0 26 v0 rfl rfl) h0
  obtain ⟨A1, a1, c1, rfl, w1⟩ := open_pred (hval 1 55 v1 rfl rfl) h1
  clear hA0 hval0
  refine (segmentSound_walk (w := W) w0 w1).mono fun e W' ⟨he, bel⟩ => ?_
  subst he
  exact ⟨_, rfl, _, _, _, [], _, [], hW', trodAll_mk1 (shut_bool Tryz.underlying4 _), qd7 qpe bel _ _ _ _ (by kernel_rfl) hA1, rfl, bel.frame _, fun h => by cases h⟩

theorem segmentSound_over : Rows.segmentSoundRow.holds Tryz.pinned (OpenSpec.ofChange Rows.segmentSoundSpec) :=
  OpenClaim.holds_of_wide 6 Tryz.f6 rfl rfl rfl rfl rfl rfl rfl ⟨rfl, rfl, rfl, rfl, rfl⟩ rfl rfl rfl rfl rfl (by kernel_rfl) Tryz.func6 (by kernel_rfl)
    (of_decide_eq_true (by kernel_rfl)) (by unfold Func.isWrapper; first | (rw [if_pos (by decide +kernel)]; kernel_rfl) | (rw [if_neg (by decide +kernel)]; exact ⟨rfl, rfl⟩))
    (fun os started H enc _ => segmentSound_lifted os started H enc)

/-- The statement. -/
theorem segmentSound_proved : Rows.SegmentSoundSaid := segmentSound_over


end Go.Proofs.YtnjkipnklpkaoaaGreat
