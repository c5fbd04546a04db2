/-
  What Read answers, in plain: what is written is read as it was; what is read is written as it stood.
  What the bitmap's Read answers, in plain: what is written is read as it was; what is read is written as it stood.
  What the cursor's Most takes, in plain, at whatever place: what is taken without an error stands so; what stands so is taken.
  What the pack's Read takes, in plain, at whatever place: what is taken without an error stands so; what stands so is taken.
  What the bitmap's Read takes, in plain, at whatever place: what is taken without an error stands so; what stands so is taken.
-/
import Derived.Test.YtepgkdmfoojppaaMgK
import Derived.Test.YtepgkdmfoojppaaVar
import Derived.Test.YtepgkdmfoojppaaMgC
import Derived.Test.YtepgkdmfoojppaaMgB
namespace Go.Proofs.Ytepgkdmfoojppaa
set_option linter.unusedSimpArgs false
set_option linter.unusedVariables false

theorem readMid_err (bs : List UInt8) (n wd k : Nat) (e : Int) (he : e ≠ 0) : readMid bs n wd k e = ([], k, widthE wd e) ∧ widthE wd e ≠ 0 := by
  have h : widthE wd e = e := by
    unfold widthE
    by_cases hw : wd ≤ 32
    · rw [if_pos hw]
    · rw [if_neg hw, if_neg he]
  rw [h]
  refine ⟨?_, he⟩
  unfold readMid
  rw [h, takeR_err _ _ _ _ _ he]
  unfold readEnd
  rw [if_pos he]
theorem widthE_good {wd : Nat} (h : wd ≤ 32) : widthE wd 0 = 0 := by
  unfold widthE
  rw [if_pos h]

/-- a number above the limit, or none at all -/
theorem readR_over (bs : List UInt8) (most : Nat) (h : (vnum bs).2.2 = 0) (hn : most < (vnum bs).1) (hm : most ≤ 2147483647) : readR bs 0 0 (most : Int) = ([], 0, 3) := by
  unfold readR
  rw [mostR_over bs _ h (by omega)]
  dsimp only
  rw [takeR_err _ _ _ _ _ (by decide)]
  exact (readMid_err bs 0 _ 0 3 (by decide)).1.trans (by simp [widthE])
theorem readR_bad (bs : List UInt8) (most : Int) (h : (vnum bs).2.2 ≠ 0) : (readR bs 0 0 most).1 = [] := by
  unfold readR
  rw [mostR_bad bs _ h]
  dsimp only
  rw [takeR_err _ _ _ _ _ h]
  rw [(readMid_err bs 0 _ 0 _ h).1]

/-- what is read is written as it stood -/
theorem readR_forms (bs : List UInt8) (most : Nat) (hm : most ≤ 2147483647) (hne : (readR bs 0 0 (most : Int)).1 ≠ []) :
    (readR bs 0 0 (most : Int)).2.2 = 0 ∧ (readR bs 0 0 (most : Int)).1.length ≤ most ∧ May (ints (readR bs 0 0 (most : Int)).1) ∧ (readR bs 0 0 (most : Int)).2.1 ≤ bs.length ∧
      writeL (ints (readR bs 0 0 (most : Int)).1) = bs.take (readR bs 0 0 (most : Int)).2.1 ∧ readR bs 0 0 (((readR bs 0 0 (most : Int)).1.length - 1 : Nat) : Int) = ([], 0, 3) := by
  by_cases hv : (vnum bs).2.2 = 0
  · by_cases hn : (vnum bs).1 ≤ most
    · have hmm : min (most : Int) 2147483647 = (most : Int) := by omega
      obtain ⟨hput, hs0, _⟩ := vnum_form bs hv
      have hsz := vnum_size bs
      have hover := fun m : Nat => readR_over bs m hv
      have hM := mostR_good bs (most : Int) hv (by omega)
      generalize (vnum bs).1 = n at *
      generalize (vnum bs).2.1 = s1 at *
      by_cases h1 : s1 + 1 ≤ bs.length
      · have hT := takeR_fit bs s1 1 h1
        have hb1 : (bs.drop s1).take 1 = [bs[s1]] := by
          rw [List.drop_eq_getElem_cons (by omega)]
          rfl
        rw [hb1] at hT
        have hR : readR bs 0 0 (most : Int) = readMid bs n bs[s1].toNat (s1 + 1) 0 := by
          unfold readR
          rw [hmm, hM]
          dsimp only
          have e1 : takeR bs s1 0 0 1 = ([bs[s1]], s1 + 1, 0) := hT
          rw [e1]
          rfl
        rw [hR] at hne ⊢
        have hbyte : UInt8.ofNat bs[s1].toNat = bs[s1] := by simp
        have hput1 : bs.take s1 ++ [bs[s1]] = bs.take (s1 + 1) := (List.take_succ_eq_append_getElem (by omega)).symm
        generalize hx : bs[s1].toNat = wd at *
        unfold readMid at hne ⊢
        by_cases hw : wd ≤ 32
        · rw [widthE_good hw] at hne ⊢
          by_cases h2 : s1 + 1 + (n * wd + 7) / 8 ≤ bs.length
          · have hUL : ((bs.drop (s1 + 1)).take ((n * wd + 7) / 8)).length = (n * wd + 7) / 8 := by simp; omega
            have htk : bs.take (s1 + 1) ++ (bs.drop (s1 + 1)).take ((n * wd + 7) / 8) = bs.take (s1 + 1 + (n * wd + 7) / 8) := List.take_add.symm
            rw [takeR_fit bs (s1 + 1) _ h2] at hne ⊢
            dsimp only at hne ⊢
            generalize (bs.drop (s1 + 1)).take ((n * wd + 7) / 8) = ub at *
            unfold readEnd at hne ⊢
            rw [if_neg (by simp)] at hne ⊢
            by_cases hc : wd = wide (ints (getsN ub wd n)) ∧ bval ub < 2 ^ (n * wd)
            · rw [if_pos hc] at hne ⊢
              dsimp only at hne ⊢
              have hgl : (getsN ub wd n).length = n := getsN_length _ _ _
              have hnp : 0 < n := by
                rcases Nat.eq_zero_or_pos n with h0 | h0
                · exact absurd (List.eq_nil_of_length_eq_zero (by omega)) hne
                · exact h0
              refine ⟨rfl, by omega, ?_, h2, ?_, ?_⟩
              · intro z hz
                obtain ⟨x, hx, rfl⟩ := List.mem_map.1 hz
                have h3 := getsN_lt ub wd n x hx
                have h4 : 2 ^ wd ≤ 2 ^ 32 := Nat.pow_le_pow_right (by omega) hw
                omega
              · unfold writeL
                rw [ints_length, hgl, ← hc.1, nats_ints, pack_gets ub wd n hUL hc.2, hput, hbyte, ← htk, ← hput1, List.append_assoc]
              · rw [hgl]
                exact hover (n - 1) (by omega) (by omega)
            · rw [if_neg hc] at hne
              exact absurd rfl hne
          · rw [takeR_short bs (s1 + 1) _ (by omega)] at hne
            unfold readEnd at hne
            rw [if_pos (show (2 : Int) ≠ 0 by decide)] at hne
            exact absurd rfl hne
        · have h3 : widthE wd 0 = 3 := by
            unfold widthE
            rw [if_neg hw, if_pos rfl]
          rw [h3, takeR_err _ _ _ _ _ (by decide)] at hne
          unfold readEnd at hne
          rw [if_pos (show (3 : Int) ≠ 0 by decide)] at hne
          exact absurd rfl hne
      · exfalso
        apply hne
        unfold readR
        rw [hmm, hM]
        dsimp only
        have e1 : takeR bs s1 0 0 1 = ([], s1, 2) := takeR_short bs s1 1 (by omega)
        rw [e1]
        dsimp only
        rw [(readMid_err bs n _ s1 2 (by decide)).1]
    · rw [readR_over bs most hv (by omega) hm] at hne
      exact absurd rfl hne
  · exact absurd (readR_bad bs _ hv) hne

/-- what is written is read as it was -/
theorem read_back (zs : List Int) (hz : May zs) (most : Nat) (hl : zs.length ≤ most) (hm : most ≤ 2147483647) : readR (writeL zs) 0 0 (most : Int) = (nats zs, (writeL zs).length, 0) := by
  have hmm : min (most : Int) 2147483647 = (most : Int) := by omega
  have hw := hz.wide_le
  have hv : vnum (writeL zs) = (zs.length, (putL zs.length).length, 0) := vnum_putL _ (by omega) _
  have hM := mostR_good (writeL zs) (most : Int) (by rw [hv]) (by rw [hv]; dsimp only; omega)
  rw [hv] at hM
  dsimp only at hM
  have hlen : (writeL zs).length = (putL zs.length).length + 1 + (zs.length * wide zs + 7) / 8 := by
    simp only [writeL, List.length_append, List.length_cons, List.length_nil, packL_length, nats_length]
    omega
  have hd1 : (writeL zs).drop (putL zs.length).length = UInt8.ofNat (wide zs) :: packL (wide zs) (nats zs) := by
    unfold writeL
    rw [List.drop_left]
    rfl
  have hd2 : (writeL zs).drop ((putL zs.length).length + 1) = packL (wide zs) (nats zs) := by
    rw [← List.drop_drop, hd1]
    rfl
  have hT : takeR (writeL zs) (putL zs.length).length 0 0 1 = ([UInt8.ofNat (wide zs)], (putL zs.length).length + 1, 0) := by
    have := takeR_fit (writeL zs) (putL zs.length).length 1 (by omega)
    rw [hd1] at this
    exact this
  have hU := takeR_fit (writeL zs) ((putL zs.length).length + 1) ((zs.length * wide zs + 7) / 8) (by omega)
  rw [hd2, List.take_of_length_le (by rw [packL_length, nats_length]; exact Nat.le_refl _)] at hU
  have hlt : ∀ x ∈ nats zs, x < 2 ^ wide zs := by
    have := hz.fits.nats_lt
    rwa [Int.toNat_natCast] at this
  have hg : getsN (packL (wide zs) (nats zs)) (wide zs) zs.length = nats zs := by
    have := gets_pack (wide zs) (nats zs) hlt
    rwa [nats_length] at this
  unfold readR
  rw [hmm, hM]
  dsimp only
  rw [hT]
  dsimp only
  rw [show ([UInt8.ofNat (wide zs)].headD 0).toNat = wide zs from ofNat_toNat_lt (by omega)]
  unfold readMid
  rw [widthE_good hw, hU]
  unfold readEnd
  dsimp only
  rw [if_neg (by simp), hg, if_pos, hlen]
  refine ⟨by rw [ints_nats (fun z h => (hz z h).1)], ?_⟩
  rw [bval_packL _ _ hlt]
  have := vsum_lt (wide zs) (nats zs) hlt
  rwa [nats_length, Nat.mul_comm] at this
end Go.Proofs.Ytepgkdmfoojppaa
namespace Go.Proofs.Ytepgkdmfoojppaa
set_option linter.unusedSimpArgs false
set_option linter.unusedVariables false

theorem breadEnd_err (ub : List UInt8) (n k : Nat) (e : Int) (he : e ≠ 0) : breadEnd ub n k e = ([], k, e) := by
  unfold breadEnd
  rw [if_pos he]

/-- what is written is read as it was -/
theorem bread_back (l : List Bool) (most : Int) (h : (l.length : Int) ≤ most) (hl : l.length ≤ 9223372036854775807) : breadR (writeB l) 0 0 most = (l, (writeB l).length, 0) := by
  have hv : vnum (writeB l) = (l.length, (putL l.length).length, 0) := vnum_putL _ hl _
  have hM := mostR_good (writeB l) most (by rw [hv]) (by rw [hv]; exact h)
  rw [hv] at hM
  dsimp only at hM
  have hlen : (writeB l).length = (putL l.length).length + (l.length + 7) / 8 := by
    unfold writeB
    rw [List.length_append, packB_length]
  have hd : (writeB l).drop (putL l.length).length = packB l := by
    unfold writeB
    rw [List.drop_left]
  have hU := takeR_fit (writeB l) (putL l.length).length ((l.length + 7) / 8) (by omega)
  rw [hd, List.take_of_length_le (by rw [packB_length]; exact Nat.le_refl _)] at hU
  unfold breadR
  rw [hM]
  dsimp only
  rw [hU]
  unfold breadEnd
  dsimp only
  rw [if_neg (by simp), if_pos (bval_packB l), getsB_packB, hlen]

/-- what is read is written as it stood, or there is nothing -/
theorem breadR_forms (bs : List UInt8) (most : Nat) :
    (endR bs (breadR bs 0 0 (most : Int)).2.1 (breadR bs 0 0 (most : Int)).2.2 ≠ 0 ∧ (breadR bs 0 0 (most : Int)).1 = []) ∨
    (breadR bs 0 0 (most : Int)).1 = [] ∧ bs = [0] ∨
    (breadR bs 0 0 (most : Int)).1.length ≤ most ∧ (breadR bs 0 0 (most : Int)).2.1 ≤ bs.length ∧ (breadR bs 0 0 (most : Int)).1 ≠ [] ∧ writeB (breadR bs 0 0 (most : Int)).1 = bs.take (breadR bs 0 0 (most : Int)).2.1 := by
  by_cases hv : (vnum bs).2.2 = 0
  · by_cases hn : (vnum bs).1 ≤ most
    · obtain ⟨hput, hs0, _⟩ := vnum_form bs hv
      have hsz := vnum_size bs
      have hM := mostR_good bs (most : Int) hv (by omega)
      generalize (vnum bs).1 = n at *
      generalize (vnum bs).2.1 = s1 at *
      unfold breadR
      rw [hM]
      dsimp only
      by_cases h2 : s1 + (n + 7) / 8 ≤ bs.length
      · have hUL : ((bs.drop s1).take ((n + 7) / 8)).length = (n + 7) / 8 := by simp; omega
        have htk : bs.take s1 ++ (bs.drop s1).take ((n + 7) / 8) = bs.take (s1 + (n + 7) / 8) := List.take_add.symm
        rw [takeR_fit bs s1 _ h2]
        dsimp only
        generalize (bs.drop s1).take ((n + 7) / 8) = ub at *
        unfold breadEnd
        rw [if_neg (by simp)]
        by_cases hc : bval ub < 2 ^ n
        · rw [if_pos hc]
          dsimp only
          by_cases h0 : n = 0
          · subst h0
            have e0 : putL 0 = [0] := putL_small (by omega)
            rw [e0] at hput
            have hs1 : s1 = 1 := by
              have := congrArg List.length hput
              rw [List.length_take] at this
              simp at this
              omega
            subst hs1
            by_cases h1 : bs.length = 1
            · refine .inr (.inl ⟨rfl, ?_⟩)
              rw [hput, List.take_of_length_le (by omega)]
            · refine .inl ⟨?_, rfl⟩
              unfold endR
              rw [if_neg (by simp), if_pos (by omega)]
              decide
          · refine .inr (.inr ⟨by rw [getsB_length]; exact hn, h2, ?_, ?_⟩)
            · intro h
              have := congrArg List.length h
              rw [getsB_length] at this
              simp at this
              omega
            · unfold writeB
              rw [getsB_length, packB_getsB ub n hUL hc, hput, htk]
        · rw [if_neg hc]
          refine .inl ⟨?_, rfl⟩
          unfold endR
          simp
      · rw [takeR_short bs s1 _ (by omega)]
        dsimp only
        rw [breadEnd_err _ _ _ _ (by decide)]
        refine .inl ⟨?_, rfl⟩
        unfold endR
        simp
    · unfold breadR
      rw [mostR_over bs _ hv (by omega)]
      dsimp only
      rw [takeR_err _ _ _ _ _ (by decide), breadEnd_err _ _ _ _ (by decide)]
      refine .inl ⟨?_, rfl⟩
      unfold endR
      simp
  · unfold breadR
    rw [mostR_bad bs _ hv]
    dsimp only
    rw [takeR_err _ _ _ _ _ hv, breadEnd_err _ _ _ _ hv]
    refine .inl ⟨?_, rfl⟩
    unfold endR
    simp [hv]
end Go.Proofs.Ytepgkdmfoojppaa
namespace Go.Proofs.Ytepgkdmfoojppaa
set_option linter.unusedSimpArgs false
set_option linter.unusedVariables false

theorem most_bad (bs : List UInt8) (k : Nat) {e : Int} (m : Int) (h : e ≠ 0) : mostR bs k e m = (0, k, e) := by simp [mostR, peekR, h]
theorem peek_split (bs : List UInt8) (k : Nat) (m : Int) : (∃ e, e ≠ 0 ∧ peekR bs k 0 m = (0, 0, e)) ∨ ((vnum (bs.drop k)).2.2 = 0 ∧ ((vnum (bs.drop k)).1 : Int) ≤ m ∧ peekR bs k 0 m = ((vnum (bs.drop k)).1, (vnum (bs.drop k)).2.1, 0)) := by
  by_cases hp : peekE bs k m = 0
  · refine .inr ?_
    have h2 := hp
    unfold peekE at h2
    split at h2
    · contradiction
    · rename_i h3
      split at h2
      · cases h2
      · exact ⟨Decidable.not_not.1 h3, by omega, by simp [peekR, hp]⟩
  · exact .inl ⟨_, hp, by simp [peekR, hp]⟩
theorem most_good {bs : List UInt8} {k n k2 : Nat} {m : Int} (hk : k ≤ bs.length) (h : mostR bs k 0 m = (n, k2, 0)) :
    (n : Int) ≤ m ∧ n ≤ 9223372036854775807 ∧ bs.drop k = putL n ++ bs.drop k2 ∧ k2 = k + (putL n).length ∧ k2 ≤ bs.length := by
  unfold mostR at h
  rcases peek_split bs k m with ⟨e, he, hr⟩ | ⟨h1, h2, hr⟩
  · rw [hr] at h
    simp only [Prod.mk.injEq] at h
    exact absurd h.2.2 he
  · rw [hr] at h
    simp only [Prod.mk.injEq] at h
    obtain ⟨rfl, rfl, -⟩ := h
    obtain ⟨f1, f2, f3⟩ := vnum_form _ h1
    have hs := vnum_size (bs.drop k)
    rw [List.length_drop] at hs
    have hl : (putL (vnum (bs.drop k)).1).length = (vnum (bs.drop k)).2.1 := by rw [f1, List.length_take, List.length_drop]; omega
    refine ⟨h2, f3, ?_, by rw [hl], by omega⟩
    rw [f1, ← List.drop_drop, List.take_append_drop]
theorem most_back {bs rest : List UInt8} {k n : Nat} {m : Int} (h : bs.drop k = putL n ++ rest) (hn : (n : Int) ≤ m) (h63 : n ≤ 9223372036854775807) : mostR bs k 0 m = (n, k + (putL n).length, 0) := by
  have hv := vnum_putL n h63 rest
  have h0 : peekE bs k m = 0 := by
    unfold peekE
    rw [h, hv, if_neg (by simp), if_neg (by simp only []; omega)]
  unfold mostR peekR
  rw [h, hv]
  simp [h0]
end Go.Proofs.Ytepgkdmfoojppaa
namespace Go.Proofs.Ytepgkdmfoojppaa
set_option linter.unusedSimpArgs false
set_option linter.unusedVariables false

theorem read_bad (bs : List UInt8) (k : Nat) {e : Int} (m : Int) (h : e ≠ 0) : readR bs k e m = ([], k, e) := by
  unfold readR
  rw [most_bad _ _ _ h]
  dsimp only
  rw [takeR_err _ _ _ _ _ h]
  have := readMid_err bs 0 (([] : List UInt8).headD 0).toNat k e h
  rw [this.1]
  have h2 : widthE (([] : List UInt8).headD 0).toNat e = e := by unfold widthE; simp [h]
  rw [h2]
theorem read_good {bs : List UInt8} {k k2 : Nat} {m : Nat} {ns : List Nat} (hk : k ≤ bs.length) (hm : m ≤ 2147483647) (h : readR bs k 0 (m : Int) = (ns, k2, 0)) :
    ns.length ≤ m ∧ May (ints ns) ∧ bs.drop k = writeL (ints ns) ++ bs.drop k2 ∧ k2 = k + (writeL (ints ns)).length ∧ k2 ≤ bs.length := by
  have hmm : min (m : Int) 2147483647 = (m : Int) := by omega
  unfold readR at h
  rw [hmm] at h
  obtain ⟨M, hM⟩ : ∃ M, mostR bs k 0 (m : Int) = M := ⟨_, rfl⟩
  rw [hM] at h
  obtain ⟨n, k1, e1⟩ := M
  dsimp only at h
  by_cases he1 : e1 = 0
  · subst he1
    obtain ⟨g1, g2, g3, g4, g5⟩ := most_good hk hM
    by_cases h1 : k1 + 1 ≤ bs.length
    · have hT : takeR bs k1 0 0 1 = ([bs[k1]], k1 + 1, 0) := by
        have := takeR_fit bs k1 1 h1
        rw [List.drop_eq_getElem_cons (by omega)] at this
        exact this
      rw [hT] at h
      dsimp only [List.headD_cons] at h
      have hbyte : UInt8.ofNat bs[k1].toNat = bs[k1] := by simp
      have hd1 : bs.drop k1 = bs[k1] :: bs.drop (k1 + 1) := List.drop_eq_getElem_cons (by omega)
      generalize hx : bs[k1].toNat = wd at *
      unfold readMid at h
      by_cases hw : wd ≤ 32
      · rw [widthE_good hw] at h
        by_cases h2 : k1 + 1 + (n * wd + 7) / 8 ≤ bs.length
        · have hUL : ((bs.drop (k1 + 1)).take ((n * wd + 7) / 8)).length = (n * wd + 7) / 8 := by simp; omega
          have hd2 : bs.drop (k1 + 1) = (bs.drop (k1 + 1)).take ((n * wd + 7) / 8) ++ bs.drop (k1 + 1 + (n * wd + 7) / 8) := (List.take_append_drop ((n * wd + 7) / 8) (bs.drop (k1 + 1))).symm.trans (by rw [List.drop_drop])
          rw [takeR_fit bs (k1 + 1) _ h2] at h
          dsimp only at h
          generalize (bs.drop (k1 + 1)).take ((n * wd + 7) / 8) = ub at *
          unfold readEnd at h
          rw [if_neg (by simp)] at h
          by_cases hc : wd = wide (ints (getsN ub wd n)) ∧ bval ub < 2 ^ (n * wd)
          · rw [if_pos hc] at h
            simp only [Prod.mk.injEq, and_true] at h
            obtain ⟨rfl, rfl⟩ := h
            have hgl : (getsN ub wd n).length = n := getsN_length _ _ _
            have hW : writeL (ints (getsN ub wd n)) = putL n ++ ([bs[k1]] ++ ub) := by
              unfold writeL
              rw [ints_length, hgl, ← hc.1, nats_ints, pack_gets ub wd n hUL hc.2, hbyte]
            refine ⟨by omega, ?_, ?_, ?_, h2⟩
            · intro z hz
              obtain ⟨x, hx, rfl⟩ := List.mem_map.1 hz
              have h3 := getsN_lt ub wd n x hx
              have h4 : 2 ^ wd ≤ 2 ^ 32 := Nat.pow_le_pow_right (by omega) hw
              omega
            · rw [hW, g3, hd1, hd2]
              simp
            · rw [hW, List.length_append, List.length_append, hUL, List.length_singleton]
              omega
          · rw [if_neg hc] at h
            simp at h
        · rw [takeR_short bs (k1 + 1) _ (by omega)] at h
          unfold readEnd at h
          rw [if_pos (show (2 : Int) ≠ 0 by decide)] at h
          simp at h
      · have h3 : widthE wd 0 = 3 := by
          unfold widthE
          rw [if_neg hw, if_pos rfl]
        rw [h3, takeR_err _ _ _ _ _ (by decide)] at h
        unfold readEnd at h
        rw [if_pos (show (3 : Int) ≠ 0 by decide)] at h
        simp at h
    · have hT : takeR bs k1 0 0 1 = ([], k1, 2) := takeR_short bs k1 1 (by omega)
      rw [hT] at h
      dsimp only at h
      have h4 := readMid_err bs n (([] : List UInt8).headD 0).toNat k1 2 (by decide)
      rw [h4.1] at h
      simp only [Prod.mk.injEq] at h
      exact absurd h.2.2 h4.2
  · rw [takeR_err _ _ _ _ _ he1] at h
    have h4 := readMid_err bs n (([] : List UInt8).headD 0).toNat k1 e1 he1
    dsimp only at h
    rw [h4.1] at h
    simp only [Prod.mk.injEq] at h
    exact absurd h.2.2 h4.2
theorem read_there {bs rest : List UInt8} {k : Nat} (zs : List Int) (hz : May zs) (m : Nat) (hk : k ≤ bs.length) (h : bs.drop k = writeL zs ++ rest) (hl : zs.length ≤ m) (hm : m ≤ 2147483647) : readR bs k 0 (m : Int) = (nats zs, k + (writeL zs).length, 0) := by
  have hmm : min (m : Int) 2147483647 = (m : Int) := by omega
  have hw := hz.wide_le
  have h1 : bs.drop k = putL zs.length ++ (UInt8.ofNat (wide zs) :: (packL (wide zs) (nats zs) ++ rest)) := by rw [h, writeL]; simp
  have hM := most_back (m := (m : Int)) h1 (by omega) (by omega)
  have hpl : (packL (wide zs) (nats zs)).length = (zs.length * wide zs + 7) / 8 := by rw [packL_length, nats_length]
  have hlen : bs.length - k = (putL zs.length).length + ((zs.length * wide zs + 7) / 8 + rest.length + 1) := by
    rw [← List.length_drop, h1]
    simp [hpl]
  have hd1 : bs.drop (k + (putL zs.length).length) = UInt8.ofNat (wide zs) :: (packL (wide zs) (nats zs) ++ rest) := by rw [← List.drop_drop, h1, List.drop_left]
  have hd2 : bs.drop (k + (putL zs.length).length + 1) = packL (wide zs) (nats zs) ++ rest := by
    rw [← List.drop_drop, hd1]
    rfl
  have hT : takeR bs (k + (putL zs.length).length) 0 0 1 = ([UInt8.ofNat (wide zs)], k + (putL zs.length).length + 1, 0) := by
    have := takeR_fit bs (k + (putL zs.length).length) 1 (by omega)
    rw [hd1] at this
    exact this
  have hU := takeR_fit bs (k + (putL zs.length).length + 1) ((zs.length * wide zs + 7) / 8) (by omega)
  rw [hd2, ← hpl, List.take_left] at hU
  rw [hpl] at hU
  have hlt : ∀ x ∈ nats zs, x < 2 ^ wide zs := by
    have := hz.fits.nats_lt
    rwa [Int.toNat_natCast] at this
  have hg : getsN (packL (wide zs) (nats zs)) (wide zs) zs.length = nats zs := by
    have := gets_pack (wide zs) (nats zs) hlt
    rwa [nats_length] at this
  have hwl : (writeL zs).length = (putL zs.length).length + ((zs.length * wide zs + 7) / 8 + 1) := by rw [writeL]; simp [hpl]
  unfold readR
  rw [hmm, hM]
  dsimp only
  rw [hT]
  dsimp only
  rw [show ([UInt8.ofNat (wide zs)].headD 0).toNat = wide zs from ofNat_toNat_lt (by omega)]
  unfold readMid
  rw [widthE_good hw, hU]
  unfold readEnd
  dsimp only
  rw [if_neg (by simp), hg, if_pos]
  · rw [hwl]
    simp only [Prod.mk.injEq, and_true, true_and]
    omega
  refine ⟨by rw [ints_nats (fun z h => (hz z h).1)], ?_⟩
  rw [bval_packL _ _ hlt]
  have := vsum_lt (wide zs) (nats zs) hlt
  rwa [nats_length, Nat.mul_comm] at this
end Go.Proofs.Ytepgkdmfoojppaa
namespace Go.Proofs.Ytepgkdmfoojppaa
set_option linter.unusedSimpArgs false
set_option linter.unusedVariables false

theorem bread_bad (bs : List UInt8) (k : Nat) {e : Int} (m : Int) (h : e ≠ 0) : breadR bs k e m = ([], k, e) := by
  unfold breadR
  rw [most_bad _ _ _ h]
  dsimp only
  rw [takeR_err _ _ _ _ _ h, breadEnd_err _ _ _ _ h]
theorem bread_good {bs : List UInt8} {k k2 : Nat} {m : Int} {rs : List Bool} (hk : k ≤ bs.length) (h : breadR bs k 0 m = (rs, k2, 0)) :
    (rs.length : Int) ≤ m ∧ bs.drop k = writeB rs ++ bs.drop k2 ∧ k2 = k + (writeB rs).length ∧ k2 ≤ bs.length := by
  unfold breadR at h
  obtain ⟨M, hM⟩ : ∃ M, mostR bs k 0 m = M := ⟨_, rfl⟩
  rw [hM] at h
  obtain ⟨n, k1, e1⟩ := M
  dsimp only at h
  by_cases he1 : e1 = 0
  · subst he1
    obtain ⟨g1, g2, g3, g4, g5⟩ := most_good hk hM
    by_cases h2 : k1 + (n + 7) / 8 ≤ bs.length
    · have hUL : ((bs.drop k1).take ((n + 7) / 8)).length = (n + 7) / 8 := by simp; omega
      have hd2 : bs.drop k1 = (bs.drop k1).take ((n + 7) / 8) ++ bs.drop (k1 + (n + 7) / 8) := (List.take_append_drop ((n + 7) / 8) (bs.drop k1)).symm.trans (by rw [List.drop_drop])
      rw [takeR_fit bs k1 _ h2] at h
      dsimp only at h
      generalize (bs.drop k1).take ((n + 7) / 8) = ub at *
      unfold breadEnd at h
      rw [if_neg (by simp)] at h
      by_cases hc : bval ub < 2 ^ n
      · rw [if_pos hc] at h
        simp only [Prod.mk.injEq, and_true] at h
        obtain ⟨rfl, rfl⟩ := h
        have hW : writeB (getsB ub n) = putL n ++ ub := by
          unfold writeB
          rw [getsB_length, packB_getsB ub n hUL hc]
        refine ⟨by rw [getsB_length]; exact g1, ?_, ?_, h2⟩
        · rw [hW, g3, hd2, List.append_assoc]
        · rw [hW, List.length_append, hUL]
          omega
      · rw [if_neg hc] at h
        simp at h
    · rw [takeR_short bs k1 _ (by omega)] at h
      dsimp only at h
      rw [breadEnd_err _ _ _ _ (show (2 : Int) ≠ 0 by decide)] at h
      simp at h
  · rw [takeR_err _ _ _ _ _ he1] at h
    rw [breadEnd_err _ _ _ _ he1] at h
    simp only [Prod.mk.injEq] at h
    exact absurd h.2.2 he1
theorem bread_there {bs rest : List UInt8} {k : Nat} (rs : List Bool) (m : Int) (hk : k ≤ bs.length) (h : bs.drop k = writeB rs ++ rest) (hl : (rs.length : Int) ≤ m) (h63 : rs.length ≤ 9223372036854775807) : breadR bs k 0 m = (rs, k + (writeB rs).length, 0) := by
  have h1 : bs.drop k = putL rs.length ++ (packB rs ++ rest) := by rw [h, writeB, List.append_assoc]
  have hM := most_back (m := m) h1 hl h63
  have hpl : (packB rs).length = (rs.length + 7) / 8 := packB_length rs
  have hlen : bs.length - k = (putL rs.length).length + ((rs.length + 7) / 8 + rest.length) := by
    rw [← List.length_drop, h1, List.length_append, List.length_append, hpl]
  have hd1 : bs.drop (k + (putL rs.length).length) = packB rs ++ rest := by rw [← List.drop_drop, h1, List.drop_left]
  have hU := takeR_fit bs (k + (putL rs.length).length) ((rs.length + 7) / 8) (by omega)
  rw [hd1, ← hpl, List.take_left] at hU
  rw [hpl] at hU
  unfold breadR
  rw [hM]
  dsimp only
  rw [hU]
  unfold breadEnd
  dsimp only
  rw [if_neg (by simp), if_pos (bval_packB rs), getsB_packB, writeB, List.length_append, hpl]
  simp only [Prod.mk.injEq, and_true, true_and]
  omega
end Go.Proofs.Ytepgkdmfoojppaa
