/-
  The cursor's peek, and what takes: Most, Bytes, End.
-/
import Derived.Test.YtiainckeakhccaaCurC
namespace Go.Proofs.Ytiainckeakhccaa
set_option linter.unusedSimpArgs false
set_option linter.unusedVariables false
open Go.RowKit

theorem Cur.open_ {w : World} {lo g k : Nat} {bs : List UInt8} {e : Int} (h : Cur w lo g bs k e) : ∃ A c, w.cell? ⟨g, 0, none⟩ = some (.slice A bs.length c) ∧ w.cell? ⟨g, 1, none⟩ = some (.int .i64 (k : Int)) ∧ w.cell? ⟨g, 2, none⟩ = some (.int .i64 e) ∧ Rd w lo g A c (bv bs) ∧ k ≤ bs.length ∧ bs.length ≤ c ∧ c ≤ 9223372036854775807 := by
  obtain ⟨A, c, hb, hrd, hk, -⟩ := h
  have h0 := hb.cell 0
  have h1 := hb.cell 1
  have h2 := hb.cell 2
  have h3 := hrd.len
  have h4 := hrd.cap
  rw [bv_length] at h3
  exact ⟨A, c, h0, h1, h2, hrd, hk, h3, by simpa [maxLen] using h4⟩

/-- the error that peek meets -/
def peekE (bs : List UInt8) (k : Nat) (most : Int) : Int :=
  if (vnum (bs.drop k)).2.2 ≠ 0 then (vnum (bs.drop k)).2.2 else if most < (vnum (bs.drop k)).1 then 3 else 0

theorem peek_bad {w : World} {lo g k : Nat} {bs : List UInt8} {e : Int} (most : Int) (h : Cur w lo g bs k e) (he : e ≠ 0) :
    Calls Try.prog 38 #[cp g, .int .i64 most] w fun r w' => r = .returned (.tuple #[.int .i64 0, .int .i64 0]) ∧ w = w' := by
  have hg := good_any h
  have h0 : (e == 0) = false := by simpa using he
  rw [h0] at hg
  clear h h0 he
  unfold cp at hg ⊢
  go_enter Try.func38, Try.ntmps38
  go_wp2_with fail
  refine hg.mono ?_
  rintro e w' ⟨rfl, rfl⟩
  go_wp2_with fail
  go_ret2
  exact ⟨rfl, rfl⟩

theorem vnum_err (bs : List UInt8) (h : (vnum bs).2.2 ≠ 0) : (vnum bs).1 = 0 ∧ (vnum bs).2.1 = 0 := by
  unfold vnum at h ⊢
  repeat' split at h
  all_goals (repeat' split)
  all_goals first | (exact ⟨rfl, rfl⟩) | (exfalso; exact h rfl)

theorem peek_good {w : World} {lo g k : Nat} {bs : List UInt8} (most : Int) (h : Cur w lo g bs k 0) (he : peekE bs k most = 0) :
    Calls Try.prog 38 #[cp g, .int .i64 most] w fun r w' => r = .returned (.tuple #[.int .i64 ((vnum (bs.drop k)).1 : Int), .int .i64 ((vnum (bs.drop k)).2.1 : Int)]) ∧ ∃ m, w.drewN m = w' := by
  have H := Lib.hid h
  obtain ⟨A, c, h0, h1, h2, hrd, hk, hl, hc⟩ := h.open_
  have hcut := hrd.cut (k := k) (n := bs.length) hk (by rw [bv_length]; exact Nat.le_refl _)
  rw [List.take_of_length_le (by simp [bv_length]), ← bv_drop] at hcut
  have HC := Lib.hid hcut
  have hdl : (bs.drop k).length = bs.length - k := by simp
  have HV := fun (m : Nat) => Lib.hid (varint_any (bs.drop k) (HC.out.drewN m))
  rw [hdl] at HV
  have h3 : ((vnum (bs.drop k)).2.2 == 0) = true := by
    rw [beq_iff_eq]
    unfold peekE at he
    split at he
    · contradiction
    · rename_i hn; exact Decidable.not_not.1 hn
  have h4 : ((vnum (bs.drop k)).1 : Int) ≤ most := by
    unfold peekE at he
    split at he
    · contradiction
    · split at he <;> omega
  clear hcut hrd h he hdl
  generalize vnum (bs.drop k) = V at *
  have h5 : V.2.2 = 0 := by simpa using h3
  unfold cp
  go_enter Try.func38, Try.ntmps38
  go_wp2_with fail
  refine (good_any H.out).mono ?_
  rintro e w' ⟨rfl, rfl⟩
  go_wp2_with fail
  go_quiet ((go_at_call 40; exact quiet_pure (HV _).out))
  go_wp2
  all_goals go_ret2
  all_goals exact ⟨rfl, _, rfl⟩

theorem peek_form {w : World} {lo g k : Nat} {bs : List UInt8} (most : Int) (h : Cur w lo g bs k 0) (h3 : (vnum (bs.drop k)).2.2 ≠ 0) :
    Calls Try.prog 38 #[cp g, .int .i64 most] w fun r w' => r = .returned (.tuple #[.int .i64 0, .int .i64 0]) ∧ ∃ m, (w.drewN m).setCell ⟨g, 2, none⟩ (.int .i64 (vnum (bs.drop k)).2.2) = w' := by
  have H := Lib.hid h
  obtain ⟨A, c, h0, h1, h2, hrd, hk, hl, hc⟩ := h.open_
  have hcut := hrd.cut (k := k) (n := bs.length) hk (by rw [bv_length]; exact Nat.le_refl _)
  rw [List.take_of_length_le (by simp [bv_length]), ← bv_drop] at hcut
  have HC := Lib.hid hcut
  have hdl : (bs.drop k).length = bs.length - k := by simp
  have HV := fun (m : Nat) => Lib.hid (varint_any (bs.drop k) (HC.out.drewN m))
  rw [hdl] at HV
  have h5 : ((vnum (bs.drop k)).2.2 == 0) = false := by simpa using h3
  have h6 : ((vnum (bs.drop k)).2.2 != 0) = true := by simpa using h3
  clear hcut hrd h hdl
  generalize vnum (bs.drop k) = V at *
  unfold cp
  go_enter Try.func38, Try.ntmps38
  go_wp2_with fail
  refine (good_any H.out).mono ?_
  rintro e w' ⟨rfl, rfl⟩
  go_wp2_with fail
  go_quiet ((go_at_call 40; exact quiet_pure (HV _).out))
  go_wp2_with (go_at_call 33; refine (fail_good _ (H.out.drewN _)).mono ?_; rintro e w' ⟨rfl, rfl⟩)
  all_goals go_ret2
  all_goals exact ⟨rfl, _, rfl⟩

theorem peek_above {w : World} {lo g k : Nat} {bs : List UInt8} (most : Int) (h : Cur w lo g bs k 0) (h3 : (vnum (bs.drop k)).2.2 = 0) (h4 : most < (vnum (bs.drop k)).1) :
    Calls Try.prog 38 #[cp g, .int .i64 most] w fun r w' => r = .returned (.tuple #[.int .i64 0, .int .i64 0]) ∧ ∃ m, (w.drewN m).setCell ⟨g, 2, none⟩ (.int .i64 3) = w' := by
  have H := Lib.hid h
  obtain ⟨A, c, h0, h1, h2, hrd, hk, hl, hc⟩ := h.open_
  have hcut := hrd.cut (k := k) (n := bs.length) hk (by rw [bv_length]; exact Nat.le_refl _)
  rw [List.take_of_length_le (by simp [bv_length]), ← bv_drop] at hcut
  have HC := Lib.hid hcut
  have hdl : (bs.drop k).length = bs.length - k := by simp
  have HV := fun (m : Nat) => Lib.hid (varint_any (bs.drop k) (HC.out.drewN m))
  rw [hdl] at HV
  clear hcut hrd h hdl
  generalize vnum (bs.drop k) = V at *
  unfold cp
  go_enter Try.func38, Try.ntmps38
  go_wp2_with fail
  refine (good_any H.out).mono ?_
  rintro e w' ⟨rfl, rfl⟩
  go_wp2_with fail
  go_quiet ((go_at_call 40; exact quiet_pure (HV _).out))
  go_wp2_with (go_at_call 33; refine (fail_good _ (H.out.drewN _)).mono ?_; rintro e w' ⟨rfl, rfl⟩)
  all_goals go_ret2
  all_goals exact ⟨rfl, _, rfl⟩

/-- what peek answers and leaves: the number, how many bytes, the error -/
def peekR (bs : List UInt8) (k : Nat) (e most : Int) : Nat × Nat × Int :=
  if e ≠ 0 then (0, 0, e) else if peekE bs k most ≠ 0 then (0, 0, peekE bs k most) else ((vnum (bs.drop k)).1, (vnum (bs.drop k)).2.1, 0)

theorem vnum_size (bs : List UInt8) : (vnum bs).2.1 ≤ bs.length := by
  unfold vnum
  have := lead_le bs
  repeat' split
  all_goals (simp only []; omega)
theorem peekR_size (bs : List UInt8) (k : Nat) (e most : Int) (hk : k ≤ bs.length) : k + (peekR bs k e most).2.1 ≤ bs.length := by
  have := vnum_size (bs.drop k)
  simp only [List.length_drop] at this
  unfold peekR
  repeat' split
  all_goals (simp only []; omega)

theorem peek_any {w : World} {lo g k : Nat} {bs : List UInt8} {e : Int} (most : Int) (h : Cur w lo g bs k e) :
    Calls Try.prog 38 #[cp g, .int .i64 most] w fun r w' => r = .returned (.tuple #[.int .i64 ((peekR bs k e most).1 : Int), .int .i64 ((peekR bs k e most).2.1 : Int)]) ∧
      Cur w' lo g bs k (peekR bs k e most).2.2 ∧ w.grownBy w' (some g) := by
  by_cases he : e = 0
  · subst he
    by_cases h3 : (vnum (bs.drop k)).2.2 = 0
    · by_cases h4 : most < ((vnum (bs.drop k)).1 : Int)
      · rw [show peekR bs k 0 most = (0, 0, 3) from by simp [peekR, peekE, h3, h4]]
        refine (peek_above most h h3 h4).mono ?_
        rintro r w' ⟨rfl, m, rfl⟩
        exact ⟨rfl, (h.drewN m).setErr 3, gb_setCell (gb_drewN (gb_refl w _) m) (.inl rfl) _⟩
      · have h0 : peekE bs k most = 0 := by simp [peekE, h3]; omega
        rw [show peekR bs k 0 most = ((vnum (bs.drop k)).1, (vnum (bs.drop k)).2.1, 0) from by simp [peekR, h0]]
        refine (peek_good most h h0).mono ?_
        rintro r w' ⟨rfl, m, rfl⟩
        exact ⟨rfl, h.drewN m, gb_drewN (gb_refl w _) m⟩
    · rw [show peekR bs k 0 most = (0, 0, (vnum (bs.drop k)).2.2) from by simp [peekR, peekE, h3]]
      refine (peek_form most h h3).mono ?_
      rintro r w' ⟨rfl, m, rfl⟩
      exact ⟨rfl, (h.drewN m).setErr _, gb_setCell (gb_drewN (gb_refl w _) m) (.inl rfl) _⟩
  · rw [show peekR bs k e most = (0, 0, e) from by simp [peekR, he]]
    refine (peek_bad most h he).mono ?_
    rintro r w' ⟨rfl, rfl⟩
    exact ⟨rfl, h, gb_refl w _⟩

theorem Cur.le {w : World} {lo g k : Nat} {bs : List UInt8} {e : Int} (h : Cur w lo g bs k e) : k ≤ bs.length := by obtain ⟨_, _, _, _, hk, _⟩ := h; exact hk

/-- Most: the number, the place, the error -/
def mostR (bs : List UInt8) (k : Nat) (e most : Int) : Nat × Nat × Int := ((peekR bs k e most).1, k + (peekR bs k e most).2.1, (peekR bs k e most).2.2)

theorem takeR_skip (bs : List UInt8) (k : Nat) (e most : Int) (hk : k ≤ bs.length) :
    takeR bs k (peekR bs k e most).2.2 (peekR bs k e most).2.1 0 = ([], (mostR bs k e most).2.1, (mostR bs k e most).2.2) := by
  have hs := peekR_size bs k e most hk
  by_cases h : (peekR bs k e most).2.2 = 0
  · unfold mostR
    rw [h]
    have h2 : ¬ ((bs.length : Int) - k - ((peekR bs k e most).2.1 : Int) < 0) := by omega
    simp [takeR, h2]
  · have h1 : (peekR bs k e most).2.1 = 0 := by
      unfold peekR at h ⊢
      repeat' split
      all_goals first | rfl | (rename_i a b; simp [a, b] at h)
    simp [takeR, h, mostR, h1]

theorem most_any {w : World} {lo g k : Nat} {bs : List UInt8} {e : Int} (most : Int) (h : Cur w lo g bs k e) :
    Calls Try.prog 30 #[cp g, .int .i64 most] w fun r w' => r = .returned (.int .i64 ((mostR bs k e most).1 : Int)) ∧
      Cur w' lo g bs (mostR bs k e most).2.1 (mostR bs k e most).2.2 ∧ w.grownBy w' (some g) := by
  have hk := h.le
  have HP := Lib.hid (peek_any most h)
  have hs := peekR_size bs k e most hk
  have HT := Lib.hid (takeR_skip bs k e most hk)
  have HE0 : (mostR bs k e most).1 = (peekR bs k e most).1 := rfl
  have HE := Lib.hid HE0
  clear h HE0
  generalize mostR bs k e most = M at *
  generalize peekR bs k e most = R at *
  go_enter Try.func30, Try.ntmps30
  go_wp2_with fail
  refine HP.out.mono ?_
  rintro r w1 ⟨rfl, hc1, hg1⟩
  have HC := Lib.hid hc1
  clear hc1
  go_wp2_with fail
  refine (take_any _ _ HC.out hs).mono ?_
  rintro r w2 ⟨A, c, rfl, hrd, hc2, hg2⟩
  rw [HT.out] at hc2
  clear hrd
  have HC2 := Lib.hid hc2
  clear hc2
  go_wp2_with fail
  go_ret
  exact ⟨by rw [HE.out]; rfl, HC2.out, hg1.trans hg2⟩

theorem takeR_err (bs : List UInt8) (k : Nat) (e : Int) (skip : Nat) (n : Int) (he : e ≠ 0) : takeR bs k e skip n = ([], k, e) := by simp [takeR, he]
theorem takeR_one (bs : List UInt8) (k : Nat) (e : Int) : (takeR bs k e 0 1).1.length ≤ 1 := by
  unfold takeR
  repeat' split
  all_goals simp
  all_goals omega

/-- Bytes: a copy of what is taken -/
theorem bytes_any {w : World} {lo g k : Nat} {bs : List UInt8} {e : Int} (n : Int) (h : Cur w lo g bs k e) (hb : bs.length ≤ 140737488355328) :
    Calls Try.prog 31 #[cp g, .int .i64 n] w fun r w' => ∃ A c, r = .returned (.slice A (takeR bs k e 0 n).1.length c) ∧ w'.ownsRow w.heap.size 5 1 (.slice A (takeR bs k e 0 n).1.length c) (takeR bs k e 0 n).1.length (bv (takeR bs k e 0 n).1) ∧
      Cur w' lo g bs (takeR bs k e 0 n).2.1 (takeR bs k e 0 n).2.2 ∧ w.grownBy w' (some g) := by
  have hk := h.le
  have hgl := h.lt
  have HT := Lib.hid (take_any 0 n h (by omega))
  have hl : (takeR bs k e 0 n).1.length ≤ bs.length := by
    unfold takeR
    repeat' split
    all_goals simp
    all_goals omega
  clear h
  generalize takeR bs k e 0 n = T at *
  go_enter Try.func31, Try.ntmps31
  go_wp2_with fail
  refine HT.out.mono ?_
  rintro r w1 ⟨A, c, rfl, hrd, hc1, hg1⟩
  have HC := Lib.hid hc1
  have HR := Lib.hid hrd
  have HG := Lib.hid hg1
  have hs := hg1.size
  clear hc1 hrd hg1
  go_wp2_with fail
  refine (clone_any _ _ HR.out (by omega)).mono ?_
  rintro r w2 ⟨A', c', rfl, hown, hbel⟩
  have HO := Lib.hid hown
  clear hown
  go_wp2_with fail
  go_ret
  have hg2 : w1.grownBy w2 none := below_gb_none (Nat.le_refl _) hbel
  refine ⟨_, _, rfl, ?_, HC.out.grown hg2 (by simp), HG.out.trans (gb_of_gb_none hg2)⟩
  obtain ⟨hlen, hrest⟩ := HO.out
  refine ⟨hlen, ?_⟩
  rcases hrest with h0 | ⟨g', cap, cur, hv, hb', hr⟩
  · exact .inl h0
  · exact .inr ⟨g', cap, cur, hv, by omega, hr⟩

/-- End -/
def endR (bs : List UInt8) (k : Nat) (e : Int) : Int := if e ≠ 0 then e else if k < bs.length then 2 else 0
theorem end_any {w : World} {lo g k : Nat} {bs : List UInt8} {e : Int} (h : Cur w lo g bs k e) :
    Calls Try.prog 17 #[cp g] w fun r w' => r = .returned (.int .i64 (endR bs k e)) ∧ ∃ n, w.drewN n = w' := by
  have H := Lib.hid h
  have hk := h.le
  obtain ⟨A, c, h0, h1, h2, -, -, -, -⟩ := h.open_
  have HG := Lib.hid (good_any h)
  clear h h0 h1
  unfold cp at *
  by_cases he : e = 0
  · subst he
    by_cases hl : k < bs.length
    · rw [show endR bs k 0 = 2 from by simp [endR, hl]]
      go_enter Try.func17, Try.ntmps17
      go_wp2_with (first | (go_at_call 34; refine HG.out.mono ?_; rintro e w' ⟨rfl, rfl⟩) | (go_at_call 18; refine (left_any H.out).mono ?_; rintro e w' ⟨rfl, ⟨m, rfl⟩⟩))
      all_goals go_ret
      all_goals exact ⟨rfl, _, rfl⟩
    · rw [show endR bs k 0 = 0 from by simp [endR, hl]]
      go_enter Try.func17, Try.ntmps17
      go_wp2_with (first | (go_at_call 34; refine HG.out.mono ?_; rintro e w' ⟨rfl, rfl⟩) | (go_at_call 18; refine (left_any H.out).mono ?_; rintro e w' ⟨rfl, ⟨m, rfl⟩⟩))
      all_goals go_ret
      all_goals exact ⟨rfl, _, rfl⟩
  · rw [show endR bs k e = e from by simp [endR, he]]
    have he' : (e == 0) = false := by simpa using he
    rw [he'] at HG
    clear he he'
    go_enter Try.func17, Try.ntmps17
    go_wp2_with (first | (go_at_call 34; refine HG.out.mono ?_; rintro e w' ⟨rfl, rfl⟩) | (go_at_call 18; refine (left_any H.out).mono ?_; rintro e w' ⟨rfl, ⟨m, rfl⟩⟩))
    go_ret
    exact ⟨rfl, 0, rfl⟩
end Go.Proofs.Ytiainckeakhccaa
