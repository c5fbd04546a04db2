/-
  The chunk package: encoded, takeRaws.
  The front package: next.
-/
import Derived.Test.YtmffpbhiehjlpaaGreatZ35
import Derived.Test.YtmffpbhiehjlpaaGreatZ06
import Derived.Test.YtmffpbhiehjlpaaGreatZ24
import Derived.Test.YtmffpbhiehjlpaaGreatZ09
import Derived.Test.YtmffpbhiehjlpaaGreatZ03
import Derived.Deep.RegionHeld3
namespace Go.Proofs.YtmffpbhiehjlpaaGreat
set_option linter.unusedSimpArgs false
set_option linter.unusedVariables false
open Go.RowKit
theorem dec_le {T : List (List UInt8)} {most : Int} (h0 : 0 ≤ most) : ∀ (m : Nat) (bs o : List UInt8) (n : Nat), bs.length ≤ m → (o.length : Int) ≤ most → ((decL T most bs o n).1.length : Int) ≤ most
  | _, [], o, n, _, ho => by rw [dec_nil]; exact ho
  | 0, x :: l, o, n, hm, _ => by simp at hm
  | m + 1, x :: l, o, n, hm, ho => by
    rw [List.length_cons] at hm
    by_cases hx : x = 255
    · subst hx
      cases l with
      | nil => rw [dec_end]; exact h0
      | cons y l =>
        rw [dec_lit]
        split
        · exact h0
        · rename_i hlt
          exact dec_le h0 m l _ _ (by rw [List.length_cons] at hm; omega) (by omega)
    · cases ht : T[x.toNat]? with
      | none => rw [dec_wrong l o n hx (List.getElem?_eq_none_iff.1 ht)]; exact h0
      | some s =>
        rw [dec_sym l o n hx ht]
        split
        · exact h0
        · rename_i hlt
          exact dec_le h0 m l _ _ (by omega) (by omega)
theorem numsR_len (bs : List UInt8) (k : Nat) (e : Int) (n : Nat) (m : Int) : (numsR bs k e n m).1.length ≤ n := by
  unfold numsR
  simp only
  generalize readR bs k e (n : Int) = R
  by_cases h1 : R.1.length = n
  · by_cases h2 : (if (R.1.all fun x => decide ((x : Int) ≤ m)) = true then (if R.1.length = n then R.2.2 else orForm R.2.2) else orForm (if R.1.length = n then R.2.2 else orForm R.2.2)) = 0
    · rw [if_pos h2]; omega
    · rw [if_neg h2]; exact Nat.zero_le _
  · rw [if_neg (c := (if (R.1.all fun x => decide ((x : Int) ≤ m)) = true then (if R.1.length = n then R.2.2 else orForm R.2.2) else orForm (if R.1.length = n then R.2.2 else orForm R.2.2)) = 0)]
    · exact Nat.zero_le _
    · rw [if_neg h1]
      split <;> exact orForm_ne _
theorem strs_small {t : List (List UInt8)} (h : rightT t = true) : (strsL t).length ≤ 255 ∧ ∀ s ∈ strsL t, s.size ≤ 8 := by
  obtain ⟨h1, h2, -⟩ := rightT_iff.1 h
  refine ⟨by rw [strsL_length]; exact h1, fun s hs => ?_⟩
  obtain ⟨x, hx, rfl⟩ := List.mem_map.1 hs
  have := (okS_iff.1 (h2 x hx)).2
  show x.toArray.size ≤ 8
  simpa using this
set_option maxRecDepth 20000 in
set_option maxHeartbeats 4000000 in
theorem encoded_v {w : World} {T : List (List UInt8)} (hr : rightT T = true) (bs : List UInt8) {n m c d : Nat} {A B : Option Addr} (h : Rd w 0 w.heap.size A c (sv (strsL T))) (hb : Rd w 0 w.heap.size B d (bv bs)) (hn : T.length = n) (hm : bs.length = m) (hl : bs.length ≤ 1000000) :
    Calls Tryz.prog 94 #[.slice A n c, .slice B m d] w fun r w' => r = .returned (.bool (encOk T bs)) ∧ Below w.heap.size w w' := by
  subst hn hm
  obtain ⟨h5, h8⟩ := strs_small hr
  have HD := Lib.hid (fdecode_any (w := w) (strsL T) h8 h5 bs hl 4096 (by omega) (by omega) h hb)
  rw [strsL_length, bytL2_strsL] at HD
  obtain ⟨k, hk⟩ : ∃ k, encOk T bs = k := ⟨_, rfl⟩
  rw [hk]
  have hle := dec_le (T := T) (most := 4096) (by omega) bs.length bs [] 0 (Nat.le_refl _) (by simp)
  unfold encOk at hk
  generalize decL T 4096 bs [] 0 = D at *
  obtain ⟨s, e, q⟩ := D
  simp only at HD hk hle
  obtain ⟨x, hx⟩ : ∃ x : ByteArray, x = ⟨s.toArray⟩ := ⟨_, rfl⟩
  have hxl : x.data.toList = s := by rw [hx]
  have hxs : x.size ≤ 4096 := by
    have h1 : x.data.size = x.size := rfl
    rw [← hxl, Array.length_toList] at hle
    omega
  have HE : Hid (∀ W, Below w.heap.size w W → Calls Tryz.prog 57 #[.slice A T.length c, .string x] W fun r w' => ∃ A' c', r = .returned (.slice A' (encL T s).length c') ∧ w'.ownsRow W.heap.size 5 1 (.slice A' (encL T s).length c') (encL T s).length (bv (encL T s)) ∧ Below W.heap.size W w') := fun W hW => by
    have := fencode_any (w := W) (c := c) (A := A) (strsL T) x ((h.below hW (Nat.le_refl _)).wide (Nat.le_refl _) hW.size) (by rw [bytL2_strsL]; exact hr) (by omega)
    rw [strsL_length, bytL2_strsL, hxl] at this
    exact this
  rw [← hx] at HD
  have HB : Hid (∀ W, Below w.heap.size w W → Rd W 0 W.heap.size B d (bv bs)) := fun W hW => (hb.below hW (Nat.le_refl _)).wide (Nat.le_refl _) hW.size
  have HK := Lib.hid hk
  clear h hb hx hxl hle hk h8
  generalize encL T s = E at *
  go_enter Tryz.func94, Tryz.ntmps94
  go_wp2_with fail
  refine HD.out.mono ?_
  rintro r w1 ⟨rfl, hb1⟩
  have HB1 := Lib.hid hb1
  have hs1 := hb1.size
  clear hb1 HD
  by_cases he : e = 0
  · subst he
    have HE1 := Lib.hid (HE.out w1 HB1.out)
    go_wp2_with fail
    refine HE1.out.mono ?_
    rintro r w2 ⟨A2, c2, rfl, ho2, hb2⟩
    have HB2 := Lib.hid (below_below HB1.out hb2 hs1)
    have HQ := Lib.hid (equal_any (w := w2) E bs (Rd.of_own ho2) (HB.out w2 HB2.out))
    have hk : decide (E = bs) = k := by rw [← HK.out]; simp
    rw [hk] at HQ
    clear ho2 hb2 HE1 hk HK
    go_wp2_with fail
    refine HQ.out.mono ?_
    rintro r w' ⟨rfl, rfl⟩
    go_wp2_with fail
    go_ret
    exact ⟨rfl, HB2.out⟩
  · have ie : ¬ (e : Int) = 0 := by omega
    have be : ((e : Int) == 0) = false := by rw [beq_eq_false_iff_ne]; exact ie
    have hk : k = false := by rw [← HK.out]; simp [he]
    subst hk
    go_wp2_with fail
    go_ret
    exact ⟨rfl, HB1.out⟩
set_option maxRecDepth 20000 in
set_option maxHeartbeats 4000000 in
theorem takeRaws_v {w : World} {lo g G k n0 n3 c0 c3 : Nat} {bs : List UInt8} {e : Int} (kd : Nat) (there : List Bool) (T : List (List UInt8)) (most : Int) (ok : List UInt8 → Bool) {A0 A3 : Option Addr} {v2 v4 v5 : Value} (h : Cur w lo g bs k e) (hb : bs.length ≤ 1000000) (hgG : g < G)
    (hG : Blk w G 89 #[.int .i64 (kd : Int), .slice A0 n0 c0, v2, .slice A3 n3 c3, v4, v5]) (ht : Rd w (g + 1) w.heap.size A0 c0 (lv there)) (hn0 : there.length = n0) (ht4 : n0 ≤ 4096)
    (hk : (kd = 1 ∧ ok = fun _ => true) ∨ (kd = 2 ∧ ok = encOk T ∧ rightT T = true ∧ T.length = n3 ∧ Rd w (g + 1) w.heap.size A3 c3 (sv (strsL T)))) :
    Calls Tryz.prog 78 #[.pointer (some ⟨G, 0, none⟩), cp g, .int .i64 most] w fun r w' => ∃ A n c, r = .returned (.slice A n c) ∧ Cur w' lo g bs (rawsR bs k e (cnt there) most ok).2.1 (rawsR bs k e (cnt there) most ok).2.2 ∧ w.grownBy w' (some g) ∧
      ((rawsR bs k e (cnt there) most ok).1.length = cnt there → n = there.length ∧ ∃ ps, bsL ps = (rawsR bs k e (cnt there) most ok).1 ∧ Rd w' w.heap.size w'.heap.size A c (spreadL there (pv ps) (.slice none 0 0)) ∧ Prt w' w.heap.size w'.heap.size ps) := by
  have hgl := h.lt
  have hGl := hG.lt
  have b1 := hG.cell 1
  have HBX : Hid (∀ W, w.grownBy W (some g) → Blk W G 89 #[.int .i64 (kd : Int), .slice A0 n0 c0, v2, .slice A3 n3 c3, v4, v5]) := fun W hW => hG.grown hW (by intro e; injection e with e; omega)
  have HTH : Hid (∀ W, w.grownBy W (some g) → Rd W 0 W.heap.size A0 c0 (lv there)) := fun W hW => (ht.grown hW (Nat.le_refl _) (fun q hq => by cases hq; exact .inl (by omega))).wide (Nat.zero_le _) hW.size
  have HTB : Hid (∀ W, w.grownBy W (some g) → kd = 2 → Rd W 0 W.heap.size A3 c3 (sv (strsL T)) ∧ rightT T = true ∧ T.length = n3 ∧ ok = encOk T) := fun W hW h2 => by
    rcases hk with ⟨h1, _⟩ | ⟨_, h3, h4, h5, h6⟩
    · omega
    · exact ⟨(h6.grown hW (Nat.le_refl _) (fun q hq => by cases hq; exact .inl (by omega))).wide (Nat.zero_le _) hW.size, h4, h5, h3⟩
  have HK1 : Hid (¬ kd = 2 → ok = fun _ => true) := fun h2 => by
    rcases hk with ⟨_, h1⟩ | ⟨h1, _⟩
    · exact h1
    · exact absurd h1 h2
  have HC0 := Lib.hid (bcount_v (w := w) there (ht.wide (Nat.zero_le _) (Nat.le_refl _)))
  rw [hn0] at HC0
  have hcl := cnt_le there
  have HTN := Lib.hid (takeNumbers_v (cnt there) most h (by omega))
  unfold rawsR
  obtain ⟨⟨ns, p, e1⟩, hS⟩ : ∃ S, numsR bs k e (cnt there) most = S := ⟨_, rfl⟩
  rw [hS] at HTN ⊢
  simp only at HTN ⊢
  obtain ⟨F, hF⟩ : ∃ F, rawsF bs ok ns p e1 = F := ⟨_, rfl⟩
  rw [hF]
  have HF := Lib.hid hF
  have HN0 := Lib.hid hn0
  have hnl : ns.length ≤ 4096 := by
    have h1 := congrArg (fun q => q.1) hS
    simp only at h1
    rw [← h1]
    exact Nat.le_trans (numsR_len ..) (by omega)
  clear h hG ht hk hS hF hn0
  unfold cp at *
  go_enter Tryz.func78, Tryz.ntmps78
  go_wp2_with fail
  refine HC0.out.mono ?_
  rintro r w' ⟨rfl, rfl⟩
  go_wp2_with fail
  refine HTN.out.mono ?_
  rintro r w1 ⟨A1, c1, rfl, ho1, hc1, hg1⟩
  have HR1 := Lib.hid (Rd.of_own ho1)
  have HC1 := Lib.hid hc1
  have HG1 := Lib.hid hg1
  have hs1 := hg1.size
  clear ho1 hc1 hg1 HTN HC0 b1
  go_wp2_with fail
  go_loopw [7, 20] (fun y x wr => ∃ (i q : Nat) (e2 : Int) (ps : List Part) (A' : Option Addr) (c' : Nat), i ≤ ns.length ∧ x = .int .i64 (i : Int) ∧ y = .slice A' i c' ∧ F = (bsL ps ++ (rawsF bs ok (ns.drop i) q e2).1, (rawsF bs ok (ns.drop i) q e2).2) ∧
    PR wr w1.heap.size (.slice A' i c') i ps ∧ Rd wr w.heap.size w1.heap.size A1 c1 (iv (ints ns)) ∧ Cur wr lo g bs q e2 ∧ w.grownBy wr (some g) ∧ w1.heap.size ≤ wr.heap.size) (fun _ x _ => ns.length - (intOf x).toNat)
  case atStart => exact ⟨0, p, e1, [], none, 0, Nat.zero_le _, rfl, rfl, by rw [List.drop_zero, HF.out]; rfl, PR.nil _ _, HR1.out, HC1.out, HG1.out, Nat.le_refl _⟩
  case round =>
    clear HR1 HC1 HG1 HF
    obtain ⟨i, q, e2, ps, A', c', hi, rfl, rfl, hFe, hp, hr, hc, hg, hsw⟩ := hrel
    have HFE := Lib.hid hFe
    have HP := Lib.hid hp
    have HR := Lib.hid hr
    have HC := Lib.hid hc
    have HG := Lib.hid hg
    have hsg := hg.size
    clear hFe hp hc
    by_cases hlt : i < ns.length
    · have ik : (i : Int) < (ns.length : Int) := by omega
      obtain ⟨b, off, rfl, _, hbl, hcell⟩ := hr.num (k := i) (by rw [ints_length]; exact hlt)
      have hxi : (ints ns)[i]'(by rw [ints_length]; exact hlt) = (ns[i] : Int) := by simp [ints]
      rw [hxi] at hcell
      have hdr : ns.drop i = ns[i] :: ns.drop (i + 1) := List.drop_eq_getElem_cons hlt
      rw [hdr] at HFE
      clear hxi hdr hr
      generalize ns[i] = z at *
      have HB := Lib.hid (bytes_any (z : Int) HC.out (by omega))
      have HTL : Hid ((takeR bs q e2 0 (z : Int)).1.length ≤ bs.length) := takeR_len ..
      have HFE2 : Hid (F = (bsL ps ++ ((takeR bs q e2 0 (z : Int)).1 :: (rawsF bs ok (ns.drop (i + 1)) (takeR bs q e2 0 (z : Int)).2.1 (if ok (takeR bs q e2 0 (z : Int)).1 = true then (takeR bs q e2 0 (z : Int)).2.2 else orForm (takeR bs q e2 0 (z : Int)).2.2)).1), (rawsF bs ok (ns.drop (i + 1)) (takeR bs q e2 0 (z : Int)).2.1 (if ok (takeR bs q e2 0 (z : Int)).1 = true then (takeR bs q e2 0 (z : Int)).2.2 else orForm (takeR bs q e2 0 (z : Int)).2.2)).2)) := HFE.out
      obtain ⟨⟨t, q3, e3⟩, hT⟩ : ∃ t, takeR bs q e2 0 (z : Int) = t := ⟨_, rfl⟩
      rw [hT] at HB HTL HFE2
      simp only at HB HTL HFE2
      obtain ⟨e4, he4⟩ : ∃ e4, (if ok t = true then e3 else orForm e3) = e4 := ⟨_, rfl⟩
      rw [he4] at HFE2
      have HE4 := Lib.hid he4
      clear hT he4 HFE
      unfold cp at HB
      go_wp2_with fail
      refine HB.out.mono ?_
      rintro r w5 ⟨A5, c5, rfl, ho5, hc5, hg5⟩
      have HO5 := Lib.hid ho5
      have HC5 := Lib.hid hc5
      have HP5 := Lib.hid (HP.out.cur hg5 (by omega))
      have HR5 := Lib.hid (HR.out.grown hg5 (by omega) (fun r hr => by cases hr; exact .inl hgl))
      have HG5 := Lib.hid (HG.out.trans hg5)
      have hs5 := hg5.size
      have hrd5 := Rd.of_own ho5
      have HZ5 : Hid (0 < t.length → ∀ b off, A5 = some ⟨b, off, none⟩ → (Value.slice A' i c').ownBlock ≠ some b) := HP.out.fresh hrd5
      have HD5 := Lib.hid (hrd5.wide (show w1.heap.size ≤ wr.heap.size from hsw) (Nat.le_refl w5.heap.size))
      have HB5 := Lib.hid (HBX.out w5 HG5.out)
      have hb0 := HB5.out.cell 0
      have hb3 := HB5.out.cell 3
      simp only [List.getElem?_toArray, List.getElem?_cons_zero, List.getElem?_cons_succ] at hb0 hb3
      clear ho5 hc5 hg5 HB HP HR HC hrd5
      by_cases h2 : kd = 2
      · have h2' : (kd : Int) = 2 := by omega
        rw [h2'] at hb0
        obtain ⟨htr, htt, htl, hok⟩ := HTB.out w5 HG5.out h2
        have HEN := Lib.hid (encoded_v (w := w5) (n := n3) (m := t.length) htt t htr ((HD5.out).wide (Nat.zero_le _) (Nat.le_refl _)) htl rfl (by have := HTL.out; omega))
        have HOK : Hid (ok t = encOk T t) := by unfold Hid; rw [hok]
        obtain ⟨f, hf⟩ : ∃ f, encOk T t = f := ⟨_, rfl⟩
        rw [hf] at HEN HOK
        clear htr htt htl hok hf
        go_wp2_with fail
        refine HEN.out.mono ?_
        rintro r w6 ⟨rfl, hb6⟩
        have HC6' := Lib.hid (HC5.out.behind hb6 HC5.out.lt)
        have HP6 := Lib.hid (HP5.out.below hb6 (Nat.le_refl _))
        have HR6 := Lib.hid (HR5.out.below hb6 (by omega))
        have HG6 : Hid (w.grownBy w6 (some g)) := HG5.out.trans (gb_below hb6)
        have HD6 := Lib.hid ((HD5.out.below hb6 (Nat.le_refl _)).wide (Nat.le_refl _) hb6.size)
        have hs6 := hb6.size
        clear hb6 HC5 HP5 HR5 HG5 HD5 HB5 HEN
        cases f with
        | true =>
          have HC6 : Hid (Cur w6 lo g bs q3 e4) := by unfold Hid; rw [← HE4.out, if_pos HOK.out]; exact HC6'.out
          clear HC6'
          obtain ⟨qq, hqq⟩ : ∃ p : Part, p = ⟨A5, c5, t⟩ := ⟨_, rfl⟩
          have HQ := Lib.hid hqq
          have HRQ : Hid (Rd (w6.alloc (.cells #[.slice A5 t.length c5] 28)) w1.heap.size (w6.alloc (.cells #[.slice A5 t.length c5] 28)).heap.size qq.A qq.c (bv qq.bs)) := by
            unfold Hid
            rw [hqq]
            exact (HD6.out.alloc (Nat.le_refl _) _).wide (Nat.le_refl _) (by simp)
          have HZA : Hid (0 < qq.bs.length → ∀ b off, qq.A = some ⟨b, off, none⟩ → (Value.slice A' i c').ownBlock ≠ some b) := by
            unfold Hid
            rw [hqq]
            exact HZ5.out
          have HPA := Lib.hid (HP6.out.alloc (.cells #[.slice A5 t.length c5] 28))
          have HRA := Lib.hid (HR6.out.alloc (by omega) (.cells #[.slice A5 t.length c5] 28))
          have HGA := Lib.hid (gb_alloc HG6.out (.cells #[.slice A5 t.length c5] 28))
          have HCA : Hid (Cur (w6.alloc (.cells #[.slice A5 t.length c5] 28)) lo g bs q3 e4) := HC6.out.grown (row := none) (by exact gb_alloc (gb_refl _ _) _) (by simp)
          clear hqq HP6 HR6 HG6 HC6 HD6 HZ5
          go_wp2_with (at_builtin; refine wpList_push_part (v := .slice A' i c') w1.heap.size ps qq rfl _ _ rfl rfl rfl rfl (by rw [HQ.out, World.cell?_alloc_at _ _ _ _ rfl]; rfl) HPA.out HRQ.out HZA.out (by omega) (by simp; omega) ?_; intro A7 c7 w7 hp7 hg7; refine held ?_)
          have hq7 : ∀ b, (Value.slice A' i c').ownBlock = some b → w1.heap.size ≤ b := fun b hb => (own_lt HPA.out.own hb).1
          have HG7 : Hid (w.grownBy w7 (some g)) := gb_own HGA.out hg7 (fun b hb => Nat.le_trans hs1 (hq7 b hb))
          have HC7 := Lib.hid (HCA.out.grown hg7 (fun b hb => .inr (Nat.lt_of_lt_of_le (Nat.lt_of_lt_of_le hgl hs1) (hq7 b hb))))
          have HR7 := Lib.hid (HRA.out.grown hg7 (by simp; omega) (fun b hb => .inr (hq7 b hb)))
          have HP7 := Lib.hid hp7
          have hs7 := hg7.size
          have HF7 : Hid (F = (bsL (ps ++ [qq]) ++ (rawsF bs ok (ns.drop (i + 1)) q3 e4).1, (rawsF bs ok (ns.drop (i + 1)) q3 e4).2)) := by
            unfold Hid
            rw [HFE2.out, HQ.out]
            simp [bsL]
          have hs67 : w1.heap.size ≤ w7.heap.size := Nat.le_trans (by simp; omega) hs7
          clear hp7 hg7 hs7 HPA HRQ HZA HGA HCA HRA hq7
          refine ⟨?_⟩
          go_wp2_with fail
          go_roundw
          case rel => exact ⟨i + 1, q3, e4, ps ++ [qq], A7, c7, by omega, by go_num, rfl, HF7.out, HP7.out, HR7.out, HC7.out, HG7.out, hs67⟩
          case measure => simp [intOf] <;> omega
        | false =>
          have hen : ok t = false := HOK.out
          have HF6 := Lib.hid (fail_any 3 HC6'.out)
          unfold cp at HF6
          go_wp2_with fail
          refine HF6.out.mono ?_
          rintro r w8 ⟨rfl, hc8, hg8⟩
          have HC8 : Hid (Cur w8 lo g bs q3 e4) := by unfold Hid; rw [← HE4.out, if_neg (by rw [hen]; decide)]; exact hc8
          have HP8 := Lib.hid (HP6.out.cur hg8 (by omega))
          have HR8 := Lib.hid (HR6.out.grown hg8 (by omega) (fun r hr => by cases hr; exact .inl hgl))
          have HG8 := Lib.hid (HG6.out.trans hg8)
          have HD8 := Lib.hid ((HD6.out.grown hg8 (Nat.le_refl _) (fun r hr => by cases hr; exact .inl (by omega))).wide (Nat.le_refl _) hg8.size)
          have hs8 := hg8.size
          clear hc8 hg8 HP6 HR6 HG6 HD6 HC6' HF6
          obtain ⟨qq, hqq⟩ : ∃ p : Part, p = ⟨A5, c5, t⟩ := ⟨_, rfl⟩
          have HQ := Lib.hid hqq
          have HRQ : Hid (Rd (w8.alloc (.cells #[.slice A5 t.length c5] 28)) w1.heap.size (w8.alloc (.cells #[.slice A5 t.length c5] 28)).heap.size qq.A qq.c (bv qq.bs)) := by
            unfold Hid
            rw [hqq]
            exact (HD8.out.alloc (Nat.le_refl _) _).wide (Nat.le_refl _) (by simp)
          have HZA : Hid (0 < qq.bs.length → ∀ b off, qq.A = some ⟨b, off, none⟩ → (Value.slice A' i c').ownBlock ≠ some b) := by
            unfold Hid
            rw [hqq]
            exact HZ5.out
          have HPA := Lib.hid (HP8.out.alloc (.cells #[.slice A5 t.length c5] 28))
          have HRA := Lib.hid (HR8.out.alloc (by omega) (.cells #[.slice A5 t.length c5] 28))
          have HGA := Lib.hid (gb_alloc HG8.out (.cells #[.slice A5 t.length c5] 28))
          have HCA : Hid (Cur (w8.alloc (.cells #[.slice A5 t.length c5] 28)) lo g bs q3 e4) := HC8.out.grown (row := none) (by exact gb_alloc (gb_refl _ _) _) (by simp)
          clear hqq HP8 HR8 HG8 HC8 HD8 HZ5
          go_wp2_with (at_builtin; refine wpList_push_part (v := .slice A' i c') w1.heap.size ps qq rfl _ _ rfl rfl rfl rfl (by rw [HQ.out, World.cell?_alloc_at _ _ _ _ rfl]; rfl) HPA.out HRQ.out HZA.out (by omega) (by simp; omega) ?_; intro A7 c7 w7 hp7 hg7; refine held ?_)
          have hq7 : ∀ b, (Value.slice A' i c').ownBlock = some b → w1.heap.size ≤ b := fun b hb => (own_lt HPA.out.own hb).1
          have HG7 : Hid (w.grownBy w7 (some g)) := gb_own HGA.out hg7 (fun b hb => Nat.le_trans hs1 (hq7 b hb))
          have HC7 := Lib.hid (HCA.out.grown hg7 (fun b hb => .inr (Nat.lt_of_lt_of_le (Nat.lt_of_lt_of_le hgl hs1) (hq7 b hb))))
          have HR7 := Lib.hid (HRA.out.grown hg7 (by simp; omega) (fun b hb => .inr (hq7 b hb)))
          have HP7 := Lib.hid hp7
          have hs7 := hg7.size
          have HF7 : Hid (F = (bsL (ps ++ [qq]) ++ (rawsF bs ok (ns.drop (i + 1)) q3 e4).1, (rawsF bs ok (ns.drop (i + 1)) q3 e4).2)) := by
            unfold Hid
            rw [HFE2.out, HQ.out]
            simp [bsL]
          have hs67 : w1.heap.size ≤ w7.heap.size := Nat.le_trans (by simp; omega) hs7
          clear hp7 hg7 hs7 HPA HRQ HZA HGA HCA HRA hq7
          refine ⟨?_⟩
          go_wp2_with fail
          go_roundw
          case rel => exact ⟨i + 1, q3, e4, ps ++ [qq], A7, c7, by omega, by go_num, rfl, HF7.out, HP7.out, HR7.out, HC7.out, HG7.out, hs67⟩
          case measure => simp [intOf] <;> omega
      · have h2' : ¬ (kd : Int) = 2 := by omega
        have h2b : ((kd : Int) == 2) = false := by rw [beq_eq_false_iff_ne]; exact h2'
        have HC6 : Hid (Cur w5 lo g bs q3 e4) := by unfold Hid; rw [← HE4.out, if_pos (by rw [HK1.out h2])]; exact HC5.out
        have HP6 := Lib.hid HP5.out
        have HR6 := Lib.hid HR5.out
        have HG6 := Lib.hid HG5.out
        have HD6 := Lib.hid HD5.out
        clear HC5 HP5 HR5 HG5 HD5 HB5
        obtain ⟨qq, hqq⟩ : ∃ p : Part, p = ⟨A5, c5, t⟩ := ⟨_, rfl⟩
        have HQ := Lib.hid hqq
        have HRQ : Hid (Rd (w5.alloc (.cells #[.slice A5 t.length c5] 28)) w1.heap.size (w5.alloc (.cells #[.slice A5 t.length c5] 28)).heap.size qq.A qq.c (bv qq.bs)) := by
          unfold Hid
          rw [hqq]
          exact (HD6.out.alloc (Nat.le_refl _) _).wide (Nat.le_refl _) (by simp)
        have HZA : Hid (0 < qq.bs.length → ∀ b off, qq.A = some ⟨b, off, none⟩ → (Value.slice A' i c').ownBlock ≠ some b) := by
          unfold Hid
          rw [hqq]
          exact HZ5.out
        have HPA := Lib.hid (HP6.out.alloc (.cells #[.slice A5 t.length c5] 28))
        have HRA := Lib.hid (HR6.out.alloc (by omega) (.cells #[.slice A5 t.length c5] 28))
        have HGA := Lib.hid (gb_alloc HG6.out (.cells #[.slice A5 t.length c5] 28))
        have HCA : Hid (Cur (w5.alloc (.cells #[.slice A5 t.length c5] 28)) lo g bs q3 e4) := HC6.out.grown (row := none) (by exact gb_alloc (gb_refl _ _) _) (by simp)
        clear hqq HP6 HR6 HG6 HC6 HD6 HZ5
        go_wp2_with (at_builtin; refine wpList_push_part (v := .slice A' i c') w1.heap.size ps qq rfl _ _ rfl rfl rfl rfl (by rw [HQ.out, World.cell?_alloc_at _ _ _ _ rfl]; rfl) HPA.out HRQ.out HZA.out (by omega) (by simp; omega) ?_; intro A7 c7 w7 hp7 hg7; refine held ?_)
        have hq7 : ∀ b, (Value.slice A' i c').ownBlock = some b → w1.heap.size ≤ b := fun b hb => (own_lt HPA.out.own hb).1
        have HG7 : Hid (w.grownBy w7 (some g)) := gb_own HGA.out hg7 (fun b hb => Nat.le_trans hs1 (hq7 b hb))
        have HC7 := Lib.hid (HCA.out.grown hg7 (fun b hb => .inr (Nat.lt_of_lt_of_le (Nat.lt_of_lt_of_le hgl hs1) (hq7 b hb))))
        have HR7 := Lib.hid (HRA.out.grown hg7 (by simp; omega) (fun b hb => .inr (hq7 b hb)))
        have HP7 := Lib.hid hp7
        have hs7 := hg7.size
        have HF7 : Hid (F = (bsL (ps ++ [qq]) ++ (rawsF bs ok (ns.drop (i + 1)) q3 e4).1, (rawsF bs ok (ns.drop (i + 1)) q3 e4).2)) := by
          unfold Hid
          rw [HFE2.out, HQ.out]
          simp [bsL]
        have hs67 : w1.heap.size ≤ w7.heap.size := Nat.le_trans (by simp; omega) hs7
        clear hp7 hg7 hs7 HPA HRQ HZA HGA HCA HRA hq7
        refine ⟨?_⟩
        go_wp2_with fail
        go_roundw
        case rel => exact ⟨i + 1, q3, e4, ps ++ [qq], A7, c7, by omega, by go_num, rfl, HF7.out, HP7.out, HR7.out, HC7.out, HG7.out, hs67⟩
        case measure => simp [intOf] <;> omega
    · have ik : ¬ (i : Int) < (ns.length : Int) := by omega
      have hie : i = ns.length := by omega
      subst hie
      rw [List.drop_length] at HFE
      have hfe := HFE.out
      simp only [rawsF, List.append_nil] at hfe
      subst hfe
      have HB5 := HBX.out wr HG.out
      have hb1 := HB5.cell 1
      simp only [List.getElem?_toArray, List.getElem?_cons_zero, List.getElem?_cons_succ] at hb1
      have hpl := HP.out.len
      clear HB5
      by_cases hcn : ns.length = cnt there
      · have HS := Lib.hid (spreadB_yes (w := wr) there (pv ps) (n := n0) (m := ns.length) (HTH.out wr HG.out) (HP.out.read.wide (Nat.zero_le _) (Nat.le_refl _)) HN0.out (by rw [pv_length, hpl]) hcn (by omega) (fun v hv => by
          obtain ⟨p, _, rfl⟩ := List.mem_map.1 hv
          exact ⟨_, _, _, rfl⟩))
        clear hpl hr hg hcn
        go_wp2_with fail
        refine HS.out.mono ?_
        rintro r w6 ⟨A6, c6, rfl, ho6, hb6⟩
        have HO6 := Lib.hid ho6
        have HB6 := Lib.hid hb6
        clear ho6 hb6 HS
        go_wp2_with fail
        go_ret
        exact ⟨_, _, _, rfl, HC.out.behind HB6.out HC.out.lt, HG.out.trans (gb_below HB6.out), fun _ => ⟨HN0.out.symm, ps, rfl, (Rd.of_own HO6.out).wide (by omega) (Nat.le_refl _), (HP.out.rd.below HB6.out (Nat.le_refl _)).wide (by omega) HB6.out.size⟩⟩
      · have HS := Lib.hid (spreadB_no (w := wr) there (n := n0) (m := ns.length) (B := A') (d := c') (v := .slice none 0 0) (HTH.out wr HG.out) HN0.out hcn)
        have HCN := Lib.hid hcn
        have HPL := Lib.hid hpl
        clear hr hg hcn hpl
        go_wp2_with fail
        refine HS.out.mono ?_
        rintro r w' ⟨rfl, rfl⟩
        go_wp2_with fail
        go_ret
        exact ⟨_, _, _, rfl, HC.out, HG.out, fun h => absurd (by rw [bsL_length, HPL.out] at h; exact h) HCN.out⟩
end Go.Proofs.YtmffpbhiehjlpaaGreat
namespace Go.Proofs.YtmffpbhiehjlpaaGreat
set_option linter.unusedSimpArgs false
set_option linter.unusedVariables false
open Go.RowKit
theorem textR_len (bs : List UInt8) (k : Nat) (e : Int) : (textR bs k e).1.length ≤ 4096 := by
  have h := mostR_le bs k e 4096
  rw [show (mostR bs k e 4096).1 = (peekR bs k e 4096).1 from rfl] at h
  unfold textR takeR
  repeat' split
  all_goals simp only [List.length_nil, List.length_take, Int.toNat_natCast]
  all_goals omega
theorem orForm_fail (e : Int) : (if e = 0 then (3 : Int) else e) = orForm e := rfl
theorem next_le (bs : List UInt8) (k : Nat) (e : Int) (last : List UInt8) : (mostR bs k e last.length).1 ≤ last.length := by
  have h := mostR_le bs k e (last.length : Int)
  omega
set_option maxRecDepth 20000 in
set_option maxHeartbeats 1000000 in
theorem fnext_any {w : World} {lo g k : Nat} {bs : List UInt8} {e : Int} (h : Cur w lo g bs k e) (last : ByteArray) (hl : last.size ≤ 100000000) :
    Calls Tryz.prog 121 #[cp g, .string last] w fun r w' => ∃ x : ByteArray, r = .returned (.string x) ∧ x.data.toList = (nextR bs k e last.data.toList).1 ∧
      Cur w' lo g bs (nextR bs k e last.data.toList).2.1 (nextR bs k e last.data.toList).2.2 ∧ w.grownBy w' (some g) := by
  have HM := Lib.hid (most_any (last.size : Int) h)
  have hn := next_le bs k e last.data.toList
  have HX : Hid (nextR bs k e last.data.toList = nextR bs k e last.data.toList) := rfl
  obtain ⟨N, hN⟩ : ∃ N, nextR bs k e last.data.toList = N := ⟨_, rfl⟩
  rw [hN]
  unfold nextR at hN
  simp only [lenD] at hN hn
  generalize mostR bs k e (last.size : Int) = R at *
  obtain ⟨n, k1, e1⟩ := R
  dsimp only at HM hn hN
  have HT := Lib.hid (fun w (h : Cur w lo g bs k1 e1) => text_any h)
  have htl := textR_len bs k1 e1
  generalize textR bs k1 e1 = T at *
  obtain ⟨t, k2, e2⟩ := T
  dsimp only at HT htl hN
  obtain ⟨x, hx⟩ : ∃ x : ByteArray, (⟨t.toArray⟩ : ByteArray) = x := ⟨_, rfl⟩
  have hxs : x.size ≤ 4096 := by
    have h1 : x.data.toList = t := by rw [← hx]
    rw [← lenD, h1]
    exact htl
  obtain ⟨s, hs⟩ : ∃ s : ByteArray, last.extract 0 n ++ x = s := ⟨_, rfl⟩
  have hsd : s.data.toList = last.data.toList.take n ++ t := by
    rw [← hs, ← hx, ByteArray.data_append, Array.toList_append, ByteArray.data_extract, Array.toList_extract]
    simp [List.extract_eq_take_drop]
  rw [hx] at HT
  have hmin : min n last.size = n := by omega
  have hcat : ¬ 9223372036854775807 < n + x.size := by omega
  clear hx
  have hss : s.size ≤ 1000000000 := by
    have := congrArg List.length hsd
    rw [lenD, List.length_append, List.length_take] at this
    omega
  rw [← hsd] at hN
  have HAL := Lib.hid (fun w => alike_any (w := w) last s (by omega) hss)
  have HSD := Lib.hid hsd
  obtain ⟨q, hq⟩ : ∃ q, shareN last.data.toList s.data.toList = q := ⟨_, rfl⟩
  rw [hq] at HAL hN
  have HNN := Lib.hid hN
  clear hsd hq hN htl h HX
  unfold cp at *
  go_enter Tryz.func121, Tryz.ntmps121
  go_wp2_with fail
  refine HM.out.mono ?_
  rintro r w1 ⟨rfl, hc1, hg1⟩
  have HC1 := Lib.hid hc1
  have HG1 := Lib.hid hg1
  clear hc1 hg1 HM
  go_wp2_with fail
  go_region_held3 (fun _ => True) (trivial) (first
    | (go_at_call 120; refine (HT.out _ (HC1.out.drewN 1)).mono ?_; rintro r w2 ⟨rfl, hc2, hg2⟩; have HC2 := Lib.hid hc2; have HG2 : Hid (w.grownBy w2 (some g)) := (gb_drewN HG1.out 1).trans hg2; clear hc2 hg2))
  go_wp2_with fail
  refine (HAL.out _).mono ?_
  rintro r w3 ⟨rfl, m, rfl⟩
  have HC3 := Lib.hid (HC2.out.drewN m)
  have HG3 := Lib.hid (gb_drewN HG2.out m)
  clear HC2 HG2 HC1 HG1 HAL hcat hmin
  by_cases hqn : q = n
  · subst hqn
    have hfin : (s.data.toList, k2, e2) = N := by have := HNN.out; rw [if_pos rfl] at this; exact this
    subst hfin
    go_wp2_with fail
    go_ret
    exact ⟨s, rfl, rfl, HC3.out, HG3.out⟩
  · have hfin : (s.data.toList, k2, orForm e2) = N := by have := HNN.out; rw [if_neg hqn] at this; exact this
    subst hfin
    have b1 : ((q : Int) == (n : Int)) = false := by rw [beq_eq_false_iff_ne]; omega
    have i1 : ¬ (q : Int) = (n : Int) := by omega
    go_wp2_with fail
    refine (fail_any 3 HC3.out).mono ?_
    rintro r w4 ⟨rfl, hc4, hg4⟩
    have HC4 := Lib.hid hc4
    have HG4 := Lib.hid (HG3.out.trans hg4)
    clear hc4 hg4
    go_wp2_with fail
    go_ret
    exact ⟨s, rfl, rfl, HC4.out, HG4.out⟩
end Go.Proofs.YtmffpbhiehjlpaaGreat
