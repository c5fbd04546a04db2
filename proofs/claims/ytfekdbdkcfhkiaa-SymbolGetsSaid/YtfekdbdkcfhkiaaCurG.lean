/-
  The cursor's Bytes and End.
-/
import Derived.Test.YtfekdbdkcfhkiaaCurB
namespace Go.Proofs.Ytfekdbdkcfhkiaa
set_option linter.unusedSimpArgs false
set_option linter.unusedVariables false
open Go.RowKit

theorem Cur.open_ {w : World} {lo g k : Nat} {bs : List UInt8} {e : Int} (h : Cur w lo g bs k e) : ∃ A c, w.cell? ⟨g, 0, none⟩ = some (.slice A bs.length c) ∧ w.cell? ⟨g, 1, none⟩ = some (.int .i64 (k : Int)) ∧ w.cell? ⟨g, 2, none⟩ = some (.int .i64 e) ∧ Rd w lo g A c (bv bs) ∧ k ≤ bs.length ∧ bs.length ≤ c ∧ c ≤ 9223372036854775807 := by
  obtain ⟨A, c, hb, hrd, hk, -⟩ := h
  have h0 := hb.cell 0
  have h1 := hb.cell 1
  have h2 := hb.cell 2
  have h3 := hrd.len
  have h4 := hrd.cap
  rw [bv_length] at h3
  exact ⟨A, c, h0, h1, h2, hrd, hk, h3, by simpa [maxLen] using h4⟩

theorem Cur.le {w : World} {lo g k : Nat} {bs : List UInt8} {e : Int} (h : Cur w lo g bs k e) : k ≤ bs.length := by obtain ⟨_, _, _, _, hk, _⟩ := h; exact hk

theorem takeR_err (bs : List UInt8) (k : Nat) (e : Int) (skip : Nat) (n : Int) (he : e ≠ 0) : takeR bs k e skip n = ([], k, e) := by simp [takeR, he]
theorem takeR_one (bs : List UInt8) (k : Nat) (e : Int) : (takeR bs k e 0 1).1.length ≤ 1 := by
  unfold takeR
  repeat' split
  all_goals simp
  all_goals omega

/-- Bytes: a copy of what is taken -/
theorem bytes_any {w : World} {lo g k : Nat} {bs : List UInt8} {e : Int} (n : Int) (h : Cur w lo g bs k e) (hb : bs.length ≤ 140737488355328) :
    Calls Try.prog 31 #[cp g, .int .i64 n] w fun r w' => ∃ A c, r = .returned (.slice A (takeR bs k e 0 n).1.length c) ∧ w'.ownsRow w.heap.size 5 1 (.slice A (takeR bs k e 0 n).1.length c) (takeR bs k e 0 n).1.length (bv (takeR bs k e 0 n).1) ∧
      Cur w' lo g bs (takeR bs k e 0 n).2.1 (takeR bs k e 0 n).2.2 ∧ w.grownBy w' (some g) := by
  have hk := h.le
  have hgl := h.lt
  have HT := Lib.hid (take_any 0 n h (by omega))
  have hl : (takeR bs k e 0 n).1.length ≤ bs.length := by
    unfold takeR
    repeat' split
    all_goals simp
    all_goals omega
  clear h
  generalize takeR bs k e 0 n = T at *
  go_enter Try.func31, Try.ntmps31
  go_wp2_with fail
  refine HT.out.mono ?_
  rintro r w1 ⟨A, c, rfl, hrd, hc1, hg1⟩
  have HC := Lib.hid hc1
  have HR := Lib.hid hrd
  have HG := Lib.hid hg1
  have hs := hg1.size
  clear hc1 hrd hg1
  go_wp2_with fail
  refine (clone_any _ _ HR.out (by omega)).mono ?_
  rintro r w2 ⟨A', c', rfl, hown, hbel⟩
  have HO := Lib.hid hown
  clear hown
  go_wp2_with fail
  go_ret
  have hg2 : w1.grownBy w2 none := below_gb_none (Nat.le_refl _) hbel
  refine ⟨_, _, rfl, ?_, HC.out.grown hg2 (by simp), HG.out.trans (gb_of_gb_none hg2)⟩
  obtain ⟨hlen, hrest⟩ := HO.out
  refine ⟨hlen, ?_⟩
  rcases hrest with h0 | ⟨g', cap, cur, hv, hb', hr⟩
  · exact .inl h0
  · exact .inr ⟨g', cap, cur, hv, by omega, hr⟩

/-- End -/
def endR (bs : List UInt8) (k : Nat) (e : Int) : Int := if e ≠ 0 then e else if k < bs.length then 2 else 0
theorem end_any {w : World} {lo g k : Nat} {bs : List UInt8} {e : Int} (h : Cur w lo g bs k e) :
    Calls Try.prog 18 #[cp g] w fun r w' => r = .returned (.int .i64 (endR bs k e)) ∧ ∃ n, w.drewN n = w' := by
  have H := Lib.hid h
  have hk := h.le
  obtain ⟨A, c, h0, h1, h2, -, -, -, -⟩ := h.open_
  have HG := Lib.hid (good_any h)
  clear h h0 h1
  unfold cp at *
  by_cases he : e = 0
  · subst he
    by_cases hl : k < bs.length
    · rw [show endR bs k 0 = 2 from by simp [endR, hl]]
      go_enter Try.func18, Try.ntmps18
      go_wp2_with (first | (go_at_call 32; refine HG.out.mono ?_; rintro e w' ⟨rfl, rfl⟩) | (go_at_call 19; refine (left_any H.out).mono ?_; rintro e w' ⟨rfl, ⟨m, rfl⟩⟩))
      all_goals go_ret
      all_goals exact ⟨rfl, _, rfl⟩
    · rw [show endR bs k 0 = 0 from by simp [endR, hl]]
      go_enter Try.func18, Try.ntmps18
      go_wp2_with (first | (go_at_call 32; refine HG.out.mono ?_; rintro e w' ⟨rfl, rfl⟩) | (go_at_call 19; refine (left_any H.out).mono ?_; rintro e w' ⟨rfl, ⟨m, rfl⟩⟩))
      all_goals go_ret
      all_goals exact ⟨rfl, _, rfl⟩
  · rw [show endR bs k e = e from by simp [endR, he]]
    have he' : (e == 0) = false := by simpa using he
    rw [he'] at HG
    clear he he'
    go_enter Try.func18, Try.ntmps18
    go_wp2_with (first | (go_at_call 32; refine HG.out.mono ?_; rintro e w' ⟨rfl, rfl⟩) | (go_at_call 19; refine (left_any H.out).mono ?_; rintro e w' ⟨rfl, ⟨m, rfl⟩⟩))
    go_ret
    exact ⟨rfl, 0, rfl⟩
end Go.Proofs.Ytfekdbdkcfhkiaa
