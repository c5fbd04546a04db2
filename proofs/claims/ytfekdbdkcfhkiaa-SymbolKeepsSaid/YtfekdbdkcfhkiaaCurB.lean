/-
  The cursor's Fail and take.
-/
import Derived.Test.YtfekdbdkcfhkiaaCurA
import Derived.Lib.Hide
namespace Go.Proofs.Ytfekdbdkcfhkiaa
set_option linter.unusedSimpArgs false
set_option linter.unusedVariables false
open Go.RowKit

theorem Cur.setErr {w : World} {lo g k : Nat} {bs : List UInt8} {e : Int} (h : Cur w lo g bs k e) (x : Int) : Cur (w.setCell ⟨g, 2, none⟩ (.int .i64 x)) lo g bs k x := by
  obtain ⟨A, c, hb, hrd, hk, hl⟩ := h
  exact ⟨A, c, by simpa using hb.put 2 (.int .i64 x), hrd.setCell (p := ⟨g, 2, none⟩) (.inr (Nat.le_refl _)) _, hk, hl⟩
theorem Cur.setPlace {w : World} {lo g k : Nat} {bs : List UInt8} {e : Int} (h : Cur w lo g bs k e) (x : Nat) (hx : x ≤ bs.length) : Cur (w.setCell ⟨g, 1, none⟩ (.int .i64 (x : Int))) lo g bs x e := by
  obtain ⟨A, c, hb, hrd, hk, hl⟩ := h
  exact ⟨A, c, by simpa using hb.put 1 (.int .i64 (x : Int)), hrd.setCell (p := ⟨g, 1, none⟩) (.inr (Nat.le_refl _)) _, hx, hl⟩

theorem fail_good {w : World} {lo g k : Nat} {bs : List UInt8} (x : Int) (h : Cur w lo g bs k 0) :
    Calls Try.prog 30 #[cp g, .int .i64 x] w fun r w' => r = .returned (.tuple #[]) ∧ w.setCell ⟨g, 2, none⟩ (.int .i64 x) = w' := by
  have hg := good_any h
  obtain ⟨A, c, hb, -, -, -⟩ := h
  have h2 := hb.cell 2
  have hf := hb.frozen 2
  simp at h2
  clear hb
  unfold cp at hg ⊢
  go_enter Try.func30, Try.ntmps30
  go_wp2_with fail
  refine hg.mono ?_
  rintro e w' ⟨rfl, rfl⟩
  go_wp2_with fail
  go_end0
  exact ⟨rfl, rfl⟩
theorem fail_bad {w : World} {lo g k : Nat} {bs : List UInt8} {e : Int} (x : Int) (h : Cur w lo g bs k e) (he : e ≠ 0) :
    Calls Try.prog 30 #[cp g, .int .i64 x] w fun r w' => r = .returned (.tuple #[]) ∧ w = w' := by
  have hg := good_any h
  have h0 : (e == 0) = false := by simpa using he
  rw [h0] at hg
  clear h h0 he
  unfold cp at hg ⊢
  go_enter Try.func30, Try.ntmps30
  go_wp2_with fail
  refine hg.mono ?_
  rintro e w' ⟨rfl, rfl⟩
  go_wp2_with fail
  go_end0
  exact ⟨rfl, rfl⟩

/-- what take answers and leaves: the bytes, the place, the error -/
def takeR (bs : List UInt8) (k : Nat) (e : Int) (skip : Nat) (n : Int) : List UInt8 × Nat × Int :=
  if e ≠ 0 then ([], k, e) else if n < 0 then ([], k, 3) else if (bs.length : Int) - k - skip < n then ([], k, 2) else ((bs.drop (k + skip)).take n.toNat, k + skip + n.toNat, 0)
theorem take_bad {w : World} {lo g k : Nat} {bs : List UInt8} {e : Int} (skip : Nat) (n : Int) (h : Cur w lo g bs k e) (he : e ≠ 0) (hs : skip ≤ bs.length) (h63 : bs.length ≤ maxLen) :
    Calls Try.prog 37 #[cp g, .int .i64 (skip : Int), .int .i64 n] w fun r w' => r = .returned (.slice none 0 0) ∧ ∃ m, w.drewN m = w' := by
  have h0 : (e == 0) = false := by simpa using he
  unfold maxLen at h63
  have hk : (bs.length - k : Nat) ≤ bs.length := by omega
  have H := Lib.hid h
  have HE := Lib.hid he
  clear h he
  unfold cp
  go_enter Try.func37, Try.ntmps37
  go_wp2_with (first
    | (go_at_call 30; refine (fail_bad _ (by first | exact H.out | exact H.out.drewN _) HE.out).mono ?_; rintro e w' ⟨rfl, rfl⟩)
    | (go_at_call 19; refine (left_any (by first | exact H.out | exact H.out.drewN _)).mono ?_; rintro e w' ⟨rfl, ⟨m, rfl⟩⟩)
    | (go_at_call 32; refine (good_any (by first | exact H.out | exact H.out.drewN _)).mono ?_; rintro e w' ⟨rfl, rfl⟩))
  all_goals go_ret
  all_goals exact ⟨rfl, _, rfl⟩

theorem take_neg {w : World} {lo g k : Nat} {bs : List UInt8} (skip : Nat) (n : Int) (h : Cur w lo g bs k 0) (hn : n < 0) (hs : k + skip ≤ bs.length) (h63 : bs.length ≤ maxLen) :
    Calls Try.prog 37 #[cp g, .int .i64 (skip : Int), .int .i64 n] w fun r w' => r = .returned (.slice none 0 0) ∧ ∃ m, (w.setCell ⟨g, 2, none⟩ (.int .i64 3)).drewN m = w' := by
  unfold maxLen at h63
  have hk : skip ≤ (bs.length - k : Nat) := by omega
  have hk' : (bs.length - k : Nat) ≤ bs.length := by omega
  have H := Lib.hid h
  have H' := Lib.hid (h.setErr 3)
  clear h
  unfold cp
  go_enter Try.func37, Try.ntmps37
  go_wp2_with (first
    | (go_at_call 30; refine (fail_good _ H.out).mono ?_; rintro e w' ⟨rfl, rfl⟩)
    | (go_at_call 19; refine (left_any (by first | exact H'.out | exact H'.out.drewN _)).mono ?_; rintro e w' ⟨rfl, ⟨m, rfl⟩⟩)
    | (go_at_call 32; refine (good_any (by first | exact H'.out | exact H'.out.drewN _)).mono ?_; rintro e w' ⟨rfl, rfl⟩))
  all_goals go_ret
  all_goals exact ⟨rfl, _, rfl⟩

theorem take_over {w : World} {lo g k : Nat} {bs : List UInt8} (skip : Nat) (n : Int) (h : Cur w lo g bs k 0) (hn : 0 ≤ n) (hov : ((bs.length - k : Nat) : Int) - skip < n) (hs : k + skip ≤ bs.length) (h63 : bs.length ≤ maxLen) :
    Calls Try.prog 37 #[cp g, .int .i64 (skip : Int), .int .i64 n] w fun r w' => r = .returned (.slice none 0 0) ∧ ∃ m, (w.setCell ⟨g, 2, none⟩ (.int .i64 2)).drewN m = w' := by
  unfold maxLen at h63
  have hk : skip ≤ (bs.length - k : Nat) := by omega
  have hk' : (bs.length - k : Nat) ≤ bs.length := by omega
  have H := Lib.hid h
  have H' := Lib.hid (h.setErr 2)
  clear h
  unfold cp
  go_enter Try.func37, Try.ntmps37
  go_wp2_with (first
    | (go_at_call 30; refine (fail_good _ (H.out.drewN _)).mono ?_; rintro e w' ⟨rfl, rfl⟩)
    | (go_at_call 19; refine (left_any H.out).mono ?_; rintro e w' ⟨rfl, ⟨m, rfl⟩⟩)
    | (go_at_call 32; refine (good_any (by first | exact H'.out | exact H'.out.drewN _)).mono ?_; rintro e w' ⟨rfl, rfl⟩))
  all_goals go_ret
  all_goals exact ⟨rfl, _, rfl⟩

theorem take_ok {w : World} {lo g k : Nat} {bs : List UInt8} {A : Option Addr} {c : Nat} (skip n : Nat) (hb : Blk w g 48 #[.slice A bs.length c, .int .i64 (k : Int), .int .i64 0]) (hrd : Rd w lo g A c (bv bs)) (hs : k + skip + n ≤ bs.length) (hl : lo ≤ g) :
    Calls Try.prog 37 #[cp g, .int .i64 (skip : Int), .int .i64 (n : Int)] w fun r w' => r = .returned (.slice (if c = k + skip then A else A.map (·.add (k + skip))) n (c - (k + skip))) ∧ ∃ m m', ((w.drewN m).setCell ⟨g, 1, none⟩ (.int .i64 ((k : Int) + skip + n))).drewN m' = w' := by
  have h63 := hrd.cap
  have hlc := hrd.len
  rw [bv_length] at hlc
  unfold maxLen at h63
  have h : Cur w lo g bs k 0 := ⟨A, c, hb, hrd, by omega, hl⟩
  have hk : skip + n ≤ (bs.length - k : Nat) := by omega
  have hk' : (bs.length - k : Nat) ≤ bs.length := by omega
  have H := Lib.hid h
  have h0 := hb.cell 0
  have h1 := hb.cell 1
  have hf := hb.frozen 1
  simp at h0 h1
  have hn0 : ¬ ((n : Int) < 0) := by omega
  have hle : (n : Int) ≤ ((bs.length - k : Nat) : Int) - (skip : Int) := by omega
  clear h hb hrd
  unfold cp
  go_enter Try.func37, Try.ntmps37
  go_wp2_with (first
    | (go_at_call 19; refine (left_any H.out).mono ?_; rintro e w' ⟨rfl, ⟨m, rfl⟩⟩)
    | (go_at_call 32; refine (good_any (by first | exact H.out | exact H.out.drewN _)).mono ?_; rintro e w' ⟨rfl, rfl⟩))
  go_quiet (fail)
  all_goals go_wp2
  all_goals go_ret
  all_goals refine ⟨?_, _, _, rfl⟩
  all_goals (rename_i hcc; simp [hcc])

theorem takeR_le (bs : List UInt8) (k : Nat) (e : Int) (skip : Nat) (n : Int) (hs : k + skip ≤ bs.length) : (takeR bs k e skip n).2.1 ≤ bs.length ∧ k ≤ (takeR bs k e skip n).2.1 := by
  unfold takeR
  repeat' split
  all_goals (simp only []; omega)

/-- take, whatever stands there -/
theorem take_any {w : World} {lo g k : Nat} {bs : List UInt8} {e : Int} (skip : Nat) (n : Int) (h : Cur w lo g bs k e) (hs : k + skip ≤ bs.length) :
    Calls Try.prog 37 #[cp g, .int .i64 (skip : Int), .int .i64 n] w fun r w' => ∃ A c, r = .returned (.slice A (takeR bs k e skip n).1.length c) ∧
      Rd w' lo g A c (bv (takeR bs k e skip n).1) ∧ Cur w' lo g bs (takeR bs k e skip n).2.1 (takeR bs k e skip n).2.2 ∧ w.grownBy w' (some g) := by
  have h63 : bs.length ≤ maxLen := by
    obtain ⟨A, c, _, hrd, _⟩ := h
    have h1 := hrd.len
    have h2 := hrd.cap
    rw [bv_length] at h1
    omega
  by_cases he : e = 0
  · subst he
    by_cases hn : n < 0
    · rw [show takeR bs k 0 skip n = ([], k, 3) from by simp [takeR, hn]]
      refine (take_neg skip n h hn hs h63).mono ?_
      rintro r w' ⟨rfl, m, rfl⟩
      exact ⟨_, _, rfl, Rd.nil _ _ _, (h.setErr 3).drewN m, gb_drewN (gb_setCell (gb_refl w _) (.inl rfl) _) m⟩
    · by_cases hov : (bs.length : Int) - k - skip < n
      · rw [show takeR bs k 0 skip n = ([], k, 2) from by simp [takeR, hn, hov]]
        refine (take_over skip n h (by omega) (by have : k ≤ bs.length := by omega
                                                  rw [Int.ofNat_sub this]; exact hov) hs h63).mono ?_
        rintro r w' ⟨rfl, m, rfl⟩
        exact ⟨_, _, rfl, Rd.nil _ _ _, (h.setErr 2).drewN m, gb_drewN (gb_setCell (gb_refl w _) (.inl rfl) _) m⟩
      · obtain ⟨j, rfl⟩ := Int.eq_ofNat_of_zero_le (show 0 ≤ n by omega)
        have hj : k + skip + j ≤ bs.length := by omega
        rw [show takeR bs k 0 skip (j : Int) = ((bs.drop (k + skip)).take j, k + skip + j, 0) from by simp [takeR, hov]]
        obtain ⟨A, c, hb, hrd, hk, hl⟩ := h
        refine (take_ok skip j hb hrd hj hl).mono ?_
        rintro r w' ⟨rfl, m, m', rfl⟩
        have hcur : Cur w lo g bs k 0 := ⟨A, c, hb, hrd, hk, hl⟩
        have hcut := (hrd.drewN m).setCell (p := ⟨g, 1, none⟩) (.inr (Nat.le_refl _)) (.int .i64 ((k : Int) + skip + j))
        have hcut2 := (hcut.cut (k := k + skip) (n := k + skip + j) (by omega) (by rw [bv_length]; exact hj)).drewN m'
        rw [show k + skip + j - (k + skip) = j from by omega, ← bv_drop, ← bv_take] at hcut2
        have hlen : ((bs.drop (k + skip)).take j).length = j := by simp; omega
        refine ⟨_, _, by rw [hlen], hcut2, ?_, gb_drewN (gb_setCell (gb_drewN (gb_refl w _) m) (.inl rfl) _) m'⟩
        have := ((hcur.drewN m).setPlace (k + skip + j) hj).drewN m'
        simpa using this
  · rw [show takeR bs k e skip n = ([], k, e) from by simp [takeR, he]]
    refine (take_bad skip n h he (by omega) h63).mono ?_
    rintro r w' ⟨rfl, m, rfl⟩
    exact ⟨_, _, rfl, Rd.nil _ _ _, h.drewN m, gb_drewN (gb_refl w _) m⟩
end Go.Proofs.Ytfekdbdkcfhkiaa
