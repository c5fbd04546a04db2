/-
  What Read answers, in plain: what is written is read as it was; what is read is written as it stood.
-/
import Derived.Test.YtihlbcnoficpgaaMgK
import Derived.Test.YtihlbcnoficpgaaVar
namespace Go.Proofs.Ytihlbcnoficpgaa
set_option linter.unusedSimpArgs false
set_option linter.unusedVariables false

theorem readMid_err (bs : List UInt8) (n wd k : Nat) (e : Int) (he : e ≠ 0) : readMid bs n wd k e = ([], k, widthE wd e) ∧ widthE wd e ≠ 0 := by
  have h : widthE wd e = e := by
    unfold widthE
    by_cases hw : wd ≤ 32
    · rw [if_pos hw]
    · rw [if_neg hw, if_neg he]
  rw [h]
  refine ⟨?_, he⟩
  unfold readMid
  rw [h, takeR_err _ _ _ _ _ he]
  unfold readEnd
  rw [if_pos he]
theorem widthE_good {wd : Nat} (h : wd ≤ 32) : widthE wd 0 = 0 := by
  unfold widthE
  rw [if_pos h]

/-- a number above the limit, or none at all -/
theorem readR_over (bs : List UInt8) (most : Nat) (h : (vnum bs).2.2 = 0) (hn : most < (vnum bs).1) (hm : most ≤ 2147483647) : readR bs 0 0 (most : Int) = ([], 0, 3) := by
  unfold readR
  rw [mostR_over bs _ h (by omega)]
  dsimp only
  rw [takeR_err _ _ _ _ _ (by decide)]
  exact (readMid_err bs 0 _ 0 3 (by decide)).1.trans (by simp [widthE])
theorem readR_bad (bs : List UInt8) (most : Int) (h : (vnum bs).2.2 ≠ 0) : (readR bs 0 0 most).1 = [] := by
  unfold readR
  rw [mostR_bad bs _ h]
  dsimp only
  rw [takeR_err _ _ _ _ _ h]
  rw [(readMid_err bs 0 _ 0 _ h).1]

/-- what is read is written as it stood -/
theorem readR_forms (bs : List UInt8) (most : Nat) (hm : most ≤ 2147483647) (hne : (readR bs 0 0 (most : Int)).1 ≠ []) :
    (readR bs 0 0 (most : Int)).2.2 = 0 ∧ (readR bs 0 0 (most : Int)).1.length ≤ most ∧ May (ints (readR bs 0 0 (most : Int)).1) ∧ (readR bs 0 0 (most : Int)).2.1 ≤ bs.length ∧
      writeL (ints (readR bs 0 0 (most : Int)).1) = bs.take (readR bs 0 0 (most : Int)).2.1 ∧ readR bs 0 0 (((readR bs 0 0 (most : Int)).1.length - 1 : Nat) : Int) = ([], 0, 3) := by
  by_cases hv : (vnum bs).2.2 = 0
  · by_cases hn : (vnum bs).1 ≤ most
    · have hmm : min (most : Int) 2147483647 = (most : Int) := by omega
      obtain ⟨hput, hs0, _⟩ := vnum_form bs hv
      have hsz := vnum_size bs
      have hover := fun m : Nat => readR_over bs m hv
      have hM := mostR_good bs (most : Int) hv (by omega)
      generalize (vnum bs).1 = n at *
      generalize (vnum bs).2.1 = s1 at *
      by_cases h1 : s1 + 1 ≤ bs.length
      · have hT := takeR_fit bs s1 1 h1
        have hb1 : (bs.drop s1).take 1 = [bs[s1]] := by
          rw [List.drop_eq_getElem_cons (by omega)]
          rfl
        rw [hb1] at hT
        have hR : readR bs 0 0 (most : Int) = readMid bs n bs[s1].toNat (s1 + 1) 0 := by
          unfold readR
          rw [hmm, hM]
          dsimp only
          have e1 : takeR bs s1 0 0 1 = ([bs[s1]], s1 + 1, 0) := hT
          rw [e1]
          rfl
        rw [hR] at hne ⊢
        have hbyte : UInt8.ofNat bs[s1].toNat = bs[s1] := by simp
        have hput1 : bs.take s1 ++ [bs[s1]] = bs.take (s1 + 1) := (List.take_succ_eq_append_getElem (by omega)).symm
        generalize hx : bs[s1].toNat = wd at *
        unfold readMid at hne ⊢
        by_cases hw : wd ≤ 32
        · rw [widthE_good hw] at hne ⊢
          by_cases h2 : s1 + 1 + (n * wd + 7) / 8 ≤ bs.length
          · have hUL : ((bs.drop (s1 + 1)).take ((n * wd + 7) / 8)).length = (n * wd + 7) / 8 := by simp; omega
            have htk : bs.take (s1 + 1) ++ (bs.drop (s1 + 1)).take ((n * wd + 7) / 8) = bs.take (s1 + 1 + (n * wd + 7) / 8) := List.take_add.symm
            rw [takeR_fit bs (s1 + 1) _ h2] at hne ⊢
            dsimp only at hne ⊢
            generalize (bs.drop (s1 + 1)).take ((n * wd + 7) / 8) = ub at *
            unfold readEnd at hne ⊢
            rw [if_neg (by simp)] at hne ⊢
            by_cases hc : wd = wide (ints (getsN ub wd n)) ∧ bval ub < 2 ^ (n * wd)
            · rw [if_pos hc] at hne ⊢
              dsimp only at hne ⊢
              have hgl : (getsN ub wd n).length = n := getsN_length _ _ _
              have hnp : 0 < n := by
                rcases Nat.eq_zero_or_pos n with h0 | h0
                · exact absurd (List.eq_nil_of_length_eq_zero (by omega)) hne
                · exact h0
              refine ⟨rfl, by omega, ?_, h2, ?_, ?_⟩
              · intro z hz
                obtain ⟨x, hx, rfl⟩ := List.mem_map.1 hz
                have h3 := getsN_lt ub wd n x hx
                have h4 : 2 ^ wd ≤ 2 ^ 32 := Nat.pow_le_pow_right (by omega) hw
                omega
              · unfold writeL
                rw [ints_length, hgl, ← hc.1, nats_ints, pack_gets ub wd n hUL hc.2, hput, hbyte, ← htk, ← hput1, List.append_assoc]
              · rw [hgl]
                exact hover (n - 1) (by omega) (by omega)
            · rw [if_neg hc] at hne
              exact absurd rfl hne
          · rw [takeR_short bs (s1 + 1) _ (by omega)] at hne
            unfold readEnd at hne
            rw [if_pos (show (2 : Int) ≠ 0 by decide)] at hne
            exact absurd rfl hne
        · have h3 : widthE wd 0 = 3 := by
            unfold widthE
            rw [if_neg hw, if_pos rfl]
          rw [h3, takeR_err _ _ _ _ _ (by decide)] at hne
          unfold readEnd at hne
          rw [if_pos (show (3 : Int) ≠ 0 by decide)] at hne
          exact absurd rfl hne
      · exfalso
        apply hne
        unfold readR
        rw [hmm, hM]
        dsimp only
        have e1 : takeR bs s1 0 0 1 = ([], s1, 2) := takeR_short bs s1 1 (by omega)
        rw [e1]
        dsimp only
        rw [(readMid_err bs n _ s1 2 (by decide)).1]
    · rw [readR_over bs most hv (by omega) hm] at hne
      exact absurd rfl hne
  · exact absurd (readR_bad bs _ hv) hne

/-- what is written is read as it was -/
theorem read_back (zs : List Int) (hz : May zs) (most : Nat) (hl : zs.length ≤ most) (hm : most ≤ 2147483647) : readR (writeL zs) 0 0 (most : Int) = (nats zs, (writeL zs).length, 0) := by
  have hmm : min (most : Int) 2147483647 = (most : Int) := by omega
  have hw := hz.wide_le
  have hv : vnum (writeL zs) = (zs.length, (putL zs.length).length, 0) := vnum_putL _ (by omega) _
  have hM := mostR_good (writeL zs) (most : Int) (by rw [hv]) (by rw [hv]; dsimp only; omega)
  rw [hv] at hM
  dsimp only at hM
  have hlen : (writeL zs).length = (putL zs.length).length + 1 + (zs.length * wide zs + 7) / 8 := by
    simp only [writeL, List.length_append, List.length_cons, List.length_nil, packL_length, nats_length]
    omega
  have hd1 : (writeL zs).drop (putL zs.length).length = UInt8.ofNat (wide zs) :: packL (wide zs) (nats zs) := by
    unfold writeL
    rw [List.drop_left]
    rfl
  have hd2 : (writeL zs).drop ((putL zs.length).length + 1) = packL (wide zs) (nats zs) := by
    rw [← List.drop_drop, hd1]
    rfl
  have hT : takeR (writeL zs) (putL zs.length).length 0 0 1 = ([UInt8.ofNat (wide zs)], (putL zs.length).length + 1, 0) := by
    have := takeR_fit (writeL zs) (putL zs.length).length 1 (by omega)
    rw [hd1] at this
    exact this
  have hU := takeR_fit (writeL zs) ((putL zs.length).length + 1) ((zs.length * wide zs + 7) / 8) (by omega)
  rw [hd2, List.take_of_length_le (by rw [packL_length, nats_length]; exact Nat.le_refl _)] at hU
  have hlt : ∀ x ∈ nats zs, x < 2 ^ wide zs := by
    have := hz.fits.nats_lt
    rwa [Int.toNat_natCast] at this
  have hg : getsN (packL (wide zs) (nats zs)) (wide zs) zs.length = nats zs := by
    have := gets_pack (wide zs) (nats zs) hlt
    rwa [nats_length] at this
  unfold readR
  rw [hmm, hM]
  dsimp only
  rw [hT]
  dsimp only
  rw [show ([UInt8.ofNat (wide zs)].headD 0).toNat = wide zs from ofNat_toNat_lt (by omega)]
  unfold readMid
  rw [widthE_good hw, hU]
  unfold readEnd
  dsimp only
  rw [if_neg (by simp), hg, if_pos, hlen]
  refine ⟨by rw [ints_nats (fun z h => (hz z h).1)], ?_⟩
  rw [bval_packL _ _ hlt]
  have := vsum_lt (wide zs) (nats zs) hlt
  rwa [nats_length, Nat.mul_comm] at this
end Go.Proofs.Ytihlbcnoficpgaa
