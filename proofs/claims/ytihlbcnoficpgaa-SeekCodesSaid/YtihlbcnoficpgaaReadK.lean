/-
  What the cursor's Most and Text and the pack's Read take, in plain, at whatever place: what is taken without an error stands so; what stands so is taken.
-/
import Derived.Test.YtihlbcnoficpgaaReadM
import Derived.Test.YtihlbcnoficpgaaMgC
namespace Go.Proofs.Ytihlbcnoficpgaa
set_option linter.unusedSimpArgs false
set_option linter.unusedVariables false

theorem most_bad (bs : List UInt8) (k : Nat) {e : Int} (m : Int) (h : e ≠ 0) : mostR bs k e m = (0, k, e) := by simp [mostR, peekR, h]
theorem text_bad (bs : List UInt8) (k : Nat) {e : Int} (h : e ≠ 0) : textR bs k e = ([], k, e) := by simp [textR, peekR, takeR, h]
theorem peek_split (bs : List UInt8) (k : Nat) (m : Int) : (∃ e, e ≠ 0 ∧ peekR bs k 0 m = (0, 0, e)) ∨ ((vnum (bs.drop k)).2.2 = 0 ∧ ((vnum (bs.drop k)).1 : Int) ≤ m ∧ peekR bs k 0 m = ((vnum (bs.drop k)).1, (vnum (bs.drop k)).2.1, 0)) := by
  by_cases hp : peekE bs k m = 0
  · refine .inr ?_
    have h2 := hp
    unfold peekE at h2
    split at h2
    · contradiction
    · rename_i h3
      split at h2
      · cases h2
      · exact ⟨Decidable.not_not.1 h3, by omega, by simp [peekR, hp]⟩
  · exact .inl ⟨_, hp, by simp [peekR, hp]⟩
theorem most_good {bs : List UInt8} {k n k2 : Nat} {m : Int} (hk : k ≤ bs.length) (h : mostR bs k 0 m = (n, k2, 0)) :
    (n : Int) ≤ m ∧ n ≤ 9223372036854775807 ∧ bs.drop k = putL n ++ bs.drop k2 ∧ k2 = k + (putL n).length ∧ k2 ≤ bs.length := by
  unfold mostR at h
  rcases peek_split bs k m with ⟨e, he, hr⟩ | ⟨h1, h2, hr⟩
  · rw [hr] at h
    simp only [Prod.mk.injEq] at h
    exact absurd h.2.2 he
  · rw [hr] at h
    simp only [Prod.mk.injEq] at h
    obtain ⟨rfl, rfl, -⟩ := h
    obtain ⟨f1, f2, f3⟩ := vnum_form _ h1
    have hs := vnum_size (bs.drop k)
    rw [List.length_drop] at hs
    have hl : (putL (vnum (bs.drop k)).1).length = (vnum (bs.drop k)).2.1 := by rw [f1, List.length_take, List.length_drop]; omega
    refine ⟨h2, f3, ?_, by rw [hl], by omega⟩
    rw [f1, ← List.drop_drop, List.take_append_drop]
theorem most_back {bs rest : List UInt8} {k n : Nat} {m : Int} (h : bs.drop k = putL n ++ rest) (hn : (n : Int) ≤ m) (h63 : n ≤ 9223372036854775807) : mostR bs k 0 m = (n, k + (putL n).length, 0) := by
  have hv := vnum_putL n h63 rest
  have h0 : peekE bs k m = 0 := by
    unfold peekE
    rw [h, hv, if_neg (by simp), if_neg (by simp only []; omega)]
  unfold mostR peekR
  rw [h, hv]
  simp [h0]
theorem text_good {bs s : List UInt8} {k k2 : Nat} (hk : k ≤ bs.length) (h : textR bs k 0 = (s, k2, 0)) :
    s.length ≤ 4096 ∧ bs.drop k = textL s ++ bs.drop k2 ∧ k2 = k + (textL s).length ∧ k2 ≤ bs.length := by
  unfold textR at h
  rcases peek_split bs k 4096 with ⟨e, he, hr⟩ | ⟨h1, h2, hr⟩
  · rw [hr] at h
    simp only [takeR_err _ _ _ _ _ he, Prod.mk.injEq] at h
    exact absurd h.2.2 he
  · rw [hr] at h
    obtain ⟨f1, f2, f3⟩ := vnum_form _ h1
    have hs := vnum_size (bs.drop k)
    rw [List.length_drop] at hs
    have hl : (putL (vnum (bs.drop k)).1).length = (vnum (bs.drop k)).2.1 := by rw [f1, List.length_take, List.length_drop]; omega
    generalize (vnum (bs.drop k)).1 = n at *
    generalize (vnum (bs.drop k)).2.1 = z at *
    by_cases hf : k + z + n ≤ bs.length
    · have hT : takeR bs k 0 z (n : Int) = ((bs.drop (k + z)).take n, k + z + n, 0) := by
        unfold takeR
        rw [if_neg (by simp), if_neg (by omega), if_neg (by omega), Int.toNat_natCast]
      simp only [hT, Prod.mk.injEq, and_true] at h
      obtain ⟨rfl, rfl⟩ := h
      have hsl : ((bs.drop (k + z)).take n).length = n := by rw [List.length_take, List.length_drop]; omega
      refine ⟨by omega, ?_, by rw [textL, List.length_append, hsl, hl]; omega, hf⟩
      rw [textL, hsl, f1, List.append_assoc, ← List.drop_drop (i := n), List.take_append_drop, ← List.drop_drop, List.take_append_drop]
    · have hT : takeR bs k 0 z (n : Int) = ([], k, 2) := by
        unfold takeR
        rw [if_neg (by simp), if_neg (by omega), if_pos (by omega)]
      rw [hT] at h
      simp at h
theorem text_back {bs s rest : List UInt8} {k : Nat} (hk : k ≤ bs.length) (h : bs.drop k = textL s ++ rest) (hs : s.length ≤ 4096) : textR bs k 0 = (s, k + (textL s).length, 0) := by
  have hv := vnum_putL s.length (by omega) (s ++ rest)
  have h' : bs.drop k = putL s.length ++ (s ++ rest) := by rw [h, textL, List.append_assoc]
  have h0 : peekE bs k 4096 = 0 := by
    unfold peekE
    rw [h', hv, if_neg (by simp), if_neg (by simp only []; omega)]
  have hlen : bs.length - k = (putL s.length).length + (s.length + rest.length) := by rw [← List.length_drop, h', List.length_append, List.length_append]
  have hp : peekR bs k 0 4096 = (s.length, (putL s.length).length, 0) := by
    unfold peekR
    rw [h', hv]
    simp [h0]
  unfold textR
  rw [hp]
  unfold takeR
  simp only []
  rw [if_neg (by simp), if_neg (by omega), if_neg (by omega), Int.toNat_natCast, ← List.drop_drop, h', List.drop_left, List.take_left, textL, List.length_append, Nat.add_assoc]

theorem read_bad (bs : List UInt8) (k : Nat) {e : Int} (m : Int) (h : e ≠ 0) : readR bs k e m = ([], k, e) := by
  unfold readR
  rw [most_bad _ _ _ h]
  dsimp only
  rw [takeR_err _ _ _ _ _ h]
  have := readMid_err bs 0 (([] : List UInt8).headD 0).toNat k e h
  rw [this.1]
  have h2 : widthE (([] : List UInt8).headD 0).toNat e = e := by unfold widthE; simp [h]
  rw [h2]
theorem read_good {bs : List UInt8} {k k2 : Nat} {m : Nat} {ns : List Nat} (hk : k ≤ bs.length) (hm : m ≤ 2147483647) (h : readR bs k 0 (m : Int) = (ns, k2, 0)) :
    ns.length ≤ m ∧ May (ints ns) ∧ bs.drop k = writeL (ints ns) ++ bs.drop k2 ∧ k2 = k + (writeL (ints ns)).length ∧ k2 ≤ bs.length := by
  have hmm : min (m : Int) 2147483647 = (m : Int) := by omega
  unfold readR at h
  rw [hmm] at h
  obtain ⟨M, hM⟩ : ∃ M, mostR bs k 0 (m : Int) = M := ⟨_, rfl⟩
  rw [hM] at h
  obtain ⟨n, k1, e1⟩ := M
  dsimp only at h
  by_cases he1 : e1 = 0
  · subst he1
    obtain ⟨g1, g2, g3, g4, g5⟩ := most_good hk hM
    by_cases h1 : k1 + 1 ≤ bs.length
    · have hT : takeR bs k1 0 0 1 = ([bs[k1]], k1 + 1, 0) := by
        have := takeR_fit bs k1 1 h1
        rw [List.drop_eq_getElem_cons (by omega)] at this
        exact this
      rw [hT] at h
      dsimp only [List.headD_cons] at h
      have hbyte : UInt8.ofNat bs[k1].toNat = bs[k1] := by simp
      have hd1 : bs.drop k1 = bs[k1] :: bs.drop (k1 + 1) := List.drop_eq_getElem_cons (by omega)
      generalize hx : bs[k1].toNat = wd at *
      unfold readMid at h
      by_cases hw : wd ≤ 32
      · rw [widthE_good hw] at h
        by_cases h2 : k1 + 1 + (n * wd + 7) / 8 ≤ bs.length
        · have hUL : ((bs.drop (k1 + 1)).take ((n * wd + 7) / 8)).length = (n * wd + 7) / 8 := by simp; omega
          have hd2 : bs.drop (k1 + 1) = (bs.drop (k1 + 1)).take ((n * wd + 7) / 8) ++ bs.drop (k1 + 1 + (n * wd + 7) / 8) := (List.take_append_drop ((n * wd + 7) / 8) (bs.drop (k1 + 1))).symm.trans (by rw [List.drop_drop])
          rw [takeR_fit bs (k1 + 1) _ h2] at h
          dsimp only at h
          generalize (bs.drop (k1 + 1)).take ((n * wd + 7) / 8) = ub at *
          unfold readEnd at h
          rw [if_neg (by simp)] at h
          by_cases hc : wd = wide (ints (getsN ub wd n)) ∧ bval ub < 2 ^ (n * wd)
          · rw [if_pos hc] at h
            simp only [Prod.mk.injEq, and_true] at h
            obtain ⟨rfl, rfl⟩ := h
            have hgl : (getsN ub wd n).length = n := getsN_length _ _ _
            have hW : writeL (ints (getsN ub wd n)) = putL n ++ ([bs[k1]] ++ ub) := by
              unfold writeL
              rw [ints_length, hgl, ← hc.1, nats_ints, pack_gets ub wd n hUL hc.2, hbyte]
            refine ⟨by omega, ?_, ?_, ?_, h2⟩
            · intro z hz
              obtain ⟨x, hx, rfl⟩ := List.mem_map.1 hz
              have h3 := getsN_lt ub wd n x hx
              have h4 : 2 ^ wd ≤ 2 ^ 32 := Nat.pow_le_pow_right (by omega) hw
              omega
            · rw [hW, g3, hd1, hd2]
              simp
            · rw [hW, List.length_append, List.length_append, hUL, List.length_singleton]
              omega
          · rw [if_neg hc] at h
            simp at h
        · rw [takeR_short bs (k1 + 1) _ (by omega)] at h
          unfold readEnd at h
          rw [if_pos (show (2 : Int) ≠ 0 by decide)] at h
          simp at h
      · have h3 : widthE wd 0 = 3 := by
          unfold widthE
          rw [if_neg hw, if_pos rfl]
        rw [h3, takeR_err _ _ _ _ _ (by decide)] at h
        unfold readEnd at h
        rw [if_pos (show (3 : Int) ≠ 0 by decide)] at h
        simp at h
    · have hT : takeR bs k1 0 0 1 = ([], k1, 2) := takeR_short bs k1 1 (by omega)
      rw [hT] at h
      dsimp only at h
      have h4 := readMid_err bs n (([] : List UInt8).headD 0).toNat k1 2 (by decide)
      rw [h4.1] at h
      simp only [Prod.mk.injEq] at h
      exact absurd h.2.2 h4.2
  · rw [takeR_err _ _ _ _ _ he1] at h
    have h4 := readMid_err bs n (([] : List UInt8).headD 0).toNat k1 e1 he1
    dsimp only at h
    rw [h4.1] at h
    simp only [Prod.mk.injEq] at h
    exact absurd h.2.2 h4.2
theorem read_there {bs rest : List UInt8} {k : Nat} (zs : List Int) (hz : May zs) (m : Nat) (hk : k ≤ bs.length) (h : bs.drop k = writeL zs ++ rest) (hl : zs.length ≤ m) (hm : m ≤ 2147483647) : readR bs k 0 (m : Int) = (nats zs, k + (writeL zs).length, 0) := by
  have hmm : min (m : Int) 2147483647 = (m : Int) := by omega
  have hw := hz.wide_le
  have h1 : bs.drop k = putL zs.length ++ (UInt8.ofNat (wide zs) :: (packL (wide zs) (nats zs) ++ rest)) := by rw [h, writeL]; simp
  have hM := most_back (m := (m : Int)) h1 (by omega) (by omega)
  have hpl : (packL (wide zs) (nats zs)).length = (zs.length * wide zs + 7) / 8 := by rw [packL_length, nats_length]
  have hlen : bs.length - k = (putL zs.length).length + ((zs.length * wide zs + 7) / 8 + rest.length + 1) := by
    rw [← List.length_drop, h1]
    simp [hpl]
  have hd1 : bs.drop (k + (putL zs.length).length) = UInt8.ofNat (wide zs) :: (packL (wide zs) (nats zs) ++ rest) := by rw [← List.drop_drop, h1, List.drop_left]
  have hd2 : bs.drop (k + (putL zs.length).length + 1) = packL (wide zs) (nats zs) ++ rest := by
    rw [← List.drop_drop, hd1]
    rfl
  have hT : takeR bs (k + (putL zs.length).length) 0 0 1 = ([UInt8.ofNat (wide zs)], k + (putL zs.length).length + 1, 0) := by
    have := takeR_fit bs (k + (putL zs.length).length) 1 (by omega)
    rw [hd1] at this
    exact this
  have hU := takeR_fit bs (k + (putL zs.length).length + 1) ((zs.length * wide zs + 7) / 8) (by omega)
  rw [hd2, ← hpl, List.take_left] at hU
  rw [hpl] at hU
  have hlt : ∀ x ∈ nats zs, x < 2 ^ wide zs := by
    have := hz.fits.nats_lt
    rwa [Int.toNat_natCast] at this
  have hg : getsN (packL (wide zs) (nats zs)) (wide zs) zs.length = nats zs := by
    have := gets_pack (wide zs) (nats zs) hlt
    rwa [nats_length] at this
  have hwl : (writeL zs).length = (putL zs.length).length + ((zs.length * wide zs + 7) / 8 + 1) := by rw [writeL]; simp [hpl]
  unfold readR
  rw [hmm, hM]
  dsimp only
  rw [hT]
  dsimp only
  rw [show ([UInt8.ofNat (wide zs)].headD 0).toNat = wide zs from ofNat_toNat_lt (by omega)]
  unfold readMid
  rw [widthE_good hw, hU]
  unfold readEnd
  dsimp only
  rw [if_neg (by simp), hg, if_pos]
  · rw [hwl]
    simp only [Prod.mk.injEq, and_true, true_and]
    omega
  refine ⟨by rw [ints_nats (fun z h => (hz z h).1)], ?_⟩
  rw [bval_packL _ _ hlt]
  have := vsum_lt (wide zs) (nats zs) hlt
  rwa [nats_length, Nat.mul_comm] at this
end Go.Proofs.Ytihlbcnoficpgaa
