/-
  What the bitmap's Read answers, in plain: what is written is read as it was; what is read is written as it stood.
-/
import Derived.Test.YtiainckeakhccaaBmR
import Derived.Test.YtiainckeakhccaaVar
namespace Go.Proofs.Ytiainckeakhccaa
set_option linter.unusedSimpArgs false
set_option linter.unusedVariables false

theorem breadEnd_err (ub : List UInt8) (n k : Nat) (e : Int) (he : e ≠ 0) : breadEnd ub n k e = ([], k, e) := by
  unfold breadEnd
  rw [if_pos he]

/-- what is written is read as it was -/
theorem bread_back (l : List Bool) (most : Int) (h : (l.length : Int) ≤ most) (hl : l.length ≤ 9223372036854775807) : breadR (writeB l) 0 0 most = (l, (writeB l).length, 0) := by
  have hv : vnum (writeB l) = (l.length, (putL l.length).length, 0) := vnum_putL _ hl _
  have hM := mostR_good (writeB l) most (by rw [hv]) (by rw [hv]; exact h)
  rw [hv] at hM
  dsimp only at hM
  have hlen : (writeB l).length = (putL l.length).length + (l.length + 7) / 8 := by
    unfold writeB
    rw [List.length_append, packB_length]
  have hd : (writeB l).drop (putL l.length).length = packB l := by
    unfold writeB
    rw [List.drop_left]
  have hU := takeR_fit (writeB l) (putL l.length).length ((l.length + 7) / 8) (by omega)
  rw [hd, List.take_of_length_le (by rw [packB_length]; exact Nat.le_refl _)] at hU
  unfold breadR
  rw [hM]
  dsimp only
  rw [hU]
  unfold breadEnd
  dsimp only
  rw [if_neg (by simp), if_pos (bval_packB l), getsB_packB, hlen]

/-- what is read is written as it stood, or there is nothing -/
theorem breadR_forms (bs : List UInt8) (most : Nat) :
    (endR bs (breadR bs 0 0 (most : Int)).2.1 (breadR bs 0 0 (most : Int)).2.2 ≠ 0 ∧ (breadR bs 0 0 (most : Int)).1 = []) ∨
    (breadR bs 0 0 (most : Int)).1 = [] ∧ bs = [0] ∨
    (breadR bs 0 0 (most : Int)).1.length ≤ most ∧ (breadR bs 0 0 (most : Int)).2.1 ≤ bs.length ∧ (breadR bs 0 0 (most : Int)).1 ≠ [] ∧ writeB (breadR bs 0 0 (most : Int)).1 = bs.take (breadR bs 0 0 (most : Int)).2.1 := by
  by_cases hv : (vnum bs).2.2 = 0
  · by_cases hn : (vnum bs).1 ≤ most
    · obtain ⟨hput, hs0, _⟩ := vnum_form bs hv
      have hsz := vnum_size bs
      have hM := mostR_good bs (most : Int) hv (by omega)
      generalize (vnum bs).1 = n at *
      generalize (vnum bs).2.1 = s1 at *
      unfold breadR
      rw [hM]
      dsimp only
      by_cases h2 : s1 + (n + 7) / 8 ≤ bs.length
      · have hUL : ((bs.drop s1).take ((n + 7) / 8)).length = (n + 7) / 8 := by simp; omega
        have htk : bs.take s1 ++ (bs.drop s1).take ((n + 7) / 8) = bs.take (s1 + (n + 7) / 8) := List.take_add.symm
        rw [takeR_fit bs s1 _ h2]
        dsimp only
        generalize (bs.drop s1).take ((n + 7) / 8) = ub at *
        unfold breadEnd
        rw [if_neg (by simp)]
        by_cases hc : bval ub < 2 ^ n
        · rw [if_pos hc]
          dsimp only
          by_cases h0 : n = 0
          · subst h0
            have e0 : putL 0 = [0] := putL_small (by omega)
            rw [e0] at hput
            have hs1 : s1 = 1 := by
              have := congrArg List.length hput
              rw [List.length_take] at this
              simp at this
              omega
            subst hs1
            by_cases h1 : bs.length = 1
            · refine .inr (.inl ⟨rfl, ?_⟩)
              rw [hput, List.take_of_length_le (by omega)]
            · refine .inl ⟨?_, rfl⟩
              unfold endR
              rw [if_neg (by simp), if_pos (by omega)]
              decide
          · refine .inr (.inr ⟨by rw [getsB_length]; exact hn, h2, ?_, ?_⟩)
            · intro h
              have := congrArg List.length h
              rw [getsB_length] at this
              simp at this
              omega
            · unfold writeB
              rw [getsB_length, packB_getsB ub n hUL hc, hput, htk]
        · rw [if_neg hc]
          refine .inl ⟨?_, rfl⟩
          unfold endR
          simp
      · rw [takeR_short bs s1 _ (by omega)]
        dsimp only
        rw [breadEnd_err _ _ _ _ (by decide)]
        refine .inl ⟨?_, rfl⟩
        unfold endR
        simp
    · unfold breadR
      rw [mostR_over bs _ hv (by omega)]
      dsimp only
      rw [takeR_err _ _ _ _ _ (by decide), breadEnd_err _ _ _ _ (by decide)]
      refine .inl ⟨?_, rfl⟩
      unfold endR
      simp
  · unfold breadR
    rw [mostR_bad bs _ hv]
    dsimp only
    rw [takeR_err _ _ _ _ _ hv, breadEnd_err _ _ _ _ hv]
    refine .inl ⟨?_, rfl⟩
    unfold endR
    simp [hv]
end Go.Proofs.Ytiainckeakhccaa
