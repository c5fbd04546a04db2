/-
  The bitmap's small functions, and the document's: size, Count, Rank; Rank, Same.
-/
import Derived.Test.YtiainckeakhccaaRows
import Derived.Test.YtiainckeakhccaaBitM
import Derived.Outline
import Derived.BigQuiet
import Derived.Deep.QuietTactic
namespace Go.Proofs.Ytiainckeakhccaa
set_option linter.unusedSimpArgs false
set_option linter.unusedVariables false
open Go.RowKit

theorem bsize_any {w : World} (n s : Nat) (h : n ≤ 9223372036854775807) (hs : (n + 7) / 8 = s) :
    Calls Try.prog 25 #[.int .i64 (n : Int)] w fun r w' => r = .returned (.int .i64 (s : Int)) ∧ w = w' := by
  have h1 : Hid ((n : Int) / 8 + ((n : Int) % 8 + 8 - 1) / 8 = (s : Int)) := by unfold Hid; omega
  clear hs
  go_enter Try.func25, Try.ntmps25
  go_wp2
  go_ret
  exact ⟨ret_int' (by rw [← h1.out]), rfl⟩

/-- Count, of rows that may be the first ones of a longer slice -/
theorem count_any {w : World} (l : List Bool) {lo h' : Nat} {A : Option Addr} {c : Nat} (h : Rd w lo h' A c (lv l)) :
    Calls Try.prog 20 #[.slice A l.length c] w fun r w' => r = .returned (.int .i64 (cnt l : Int)) ∧ w = w' := by
  have hl := h.len
  have hc := h.cap
  rw [lv_length] at hl
  unfold maxLen at hc
  have H := Lib.hid h
  clear h
  go_enter Try.func20, Try.ntmps20
  go_wp2_with fail
  go_loop [3, 8] (fun n i => ∃ k : Nat, k ≤ l.length ∧ i = .int .i64 (k : Int) ∧ n = .int .i64 (cnt (l.take k) : Int)) (fun _ i => l.length - (intOf i).toNat)
  case atStart => exact ⟨0, Nat.zero_le _, rfl, rfl⟩
  case round =>
    obtain ⟨k, hk, rfl, rfl⟩ := hrel
    by_cases hlt : k < l.length
    · obtain ⟨b, off, rfl, _, _, hcell⟩ := H.out.row hlt
      have hts := Lib.hid (cnt_take l k hlt)
      have hle := cnt_take_le l k
      generalize cnt (l.take k) = m at *
      cases hx : l[k]
      · rw [hx] at hcell hts
        go_wp2
        go_round
        case rel => exact ⟨k + 1, by omega, by go_num, by rw [hts.out]; rfl⟩
        case measure => simp [intOf]; omega
      · rw [hx] at hcell hts
        go_wp2
        go_round
        case rel => exact ⟨k + 1, by omega, by go_num, by rw [hts.out]; go_num⟩
        case measure => simp [intOf]; omega
    · obtain rfl : k = l.length := by omega
      rw [List.take_length]
      go_wp2
      go_ret
      exact ⟨rfl, rfl⟩
theorem count_len {w : World} (l : List Bool) (n m : Nat) (hn : l.length = n) (hm : cnt l = m) {lo h' : Nat} {A : Option Addr} {c : Nat} (h : Rd w lo h' A c (lv l)) :
    Calls Try.prog 20 #[.slice A n c] w fun r w' => r = .returned (.int .i64 (m : Int)) ∧ w = w' := by
  subst hn hm
  exact count_any l h

/-- Rank -/
theorem rank_any {w : World} (l : List Bool) (i : Int) (m : Nat) (hm : cnt (l.take i.toNat) = m) {lo h' : Nat} {A : Option Addr} {c : Nat} (h : Rd w lo h' A c (lv l)) :
    Calls Try.prog 19 #[.slice A l.length c, .int .i64 i] w fun r w' => r = .returned (.int .i64 (m : Int)) ∧ w = w' := by
  have hl := h.len
  have hc := h.cap
  rw [lv_length] at hl
  unfold maxLen at hc
  have HC := fun k hk => Lib.hid (count_len (w := w) (l.take i.toNat) k m hk hm (A := A) (c := c) (by rw [lv_take]; exact h.take_ _))
  rw [List.length_take] at HC
  clear hm h
  by_cases h0 : i < 0
  · go_enter Try.func19, Try.ntmps19
    go_wp2_with fail
    refine (HC _ (by omega)).out.mono ?_
    rintro r w' ⟨rfl, rfl⟩
    go_wp2
    go_ret
    exact ⟨rfl, rfl⟩
  · obtain ⟨k, rfl⟩ := Int.eq_ofNat_of_zero_le (show 0 ≤ i by omega)
    by_cases h1 : k ≤ l.length
    · go_enter Try.func19, Try.ntmps19
      go_wp2_with fail
      all_goals
        refine (HC _ (by omega)).out.mono ?_
        rintro r w' ⟨rfl, rfl⟩
        go_wp2
        go_ret
        exact ⟨rfl, rfl⟩
    · go_enter Try.func19, Try.ntmps19
      go_wp2_with fail
      all_goals
        refine (HC _ (by omega)).out.mono ?_
        rintro r w' ⟨rfl, rfl⟩
        go_wp2
        go_ret
        exact ⟨rfl, rfl⟩

/-- the document's Rank -/
theorem rrank_any {w : World} (l : List Bool) (i : Int) (m : Nat) (hm : cnt (l.take i.toNat) = m) {lo h' : Nat} {A : Option Addr} {c : Nat} (h : Rd w lo h' A c (lv l)) :
    Calls Try.prog 21 #[.slice A l.length c, .int .i64 i] w fun r w' => r = .returned (.int .i64 (m : Int)) ∧ w = w' := by
  have hl := h.len
  have hc := h.cap
  rw [lv_length] at hl
  unfold maxLen at hc
  have H := Lib.hid h
  have HM := Lib.hid hm
  clear h hm
  go_enter Try.func21, Try.ntmps21
  go_wp2_with fail
  go_loop [5, 6] (fun n x => ∃ k : Nat, k ≤ l.length ∧ k ≤ i.toNat ∧ x = .int .i64 (k : Int) ∧ n = .int .i64 (cnt (l.take k) : Int)) (fun _ x => l.length - (intOf x).toNat)
  case atStart => exact ⟨0, Nat.zero_le _, Nat.zero_le _, rfl, rfl⟩
  case round =>
    obtain ⟨k, hk, hki, rfl, rfl⟩ := hrel
    by_cases hlt : k < l.length
    · by_cases hi : (k : Int) < i
      · obtain ⟨b, off, rfl, _, _, hcell⟩ := H.out.row hlt
        have hts := Lib.hid (cnt_take l k hlt)
        have hle := cnt_take_le l k
        generalize cnt (l.take k) = m at *
        cases hx : l[k]
        · rw [hx] at hcell hts
          go_wp2
          go_round
          case rel => exact ⟨k + 1, by omega, by omega, by go_num, by rw [hts.out]; rfl⟩
          case measure => simp [intOf]; omega
        · rw [hx] at hcell hts
          go_wp2
          go_round
          case rel => exact ⟨k + 1, by omega, by omega, by go_num, by rw [hts.out]; go_num⟩
          case measure => simp [intOf]; omega
      · have hik : i.toNat = k := by omega
        have HK := Lib.hid hik
        have hd : decide ((k : Int) < i) = false := decide_eq_false hi
        clear hik
        go_wp2
        go_ret
        exact ⟨ret_int' (by rw [← HM.out, HK.out]), rfl⟩
    · obtain rfl : k = l.length := by omega
      have htl : l.take i.toNat = l := List.take_of_length_le hki
      have HT := Lib.hid htl
      clear htl
      go_wp2
      go_ret
      exact ⟨ret_int' (by rw [← HM.out, HT.out]), rfl⟩

/-- the document's Same: the same rows? -/
theorem bsame_any {w : World} (xs ys : List Bool) {lo h' lo2 h2 : Nat} {A B : Option Addr} {c d : Nat} (hx : Rd w lo h' A c (lv xs)) (hy : Rd w lo2 h2 B d (lv ys)) :
    Calls Try.prog 15 #[.slice A xs.length c, .slice B ys.length d] w fun r w' => r = .returned (.bool (decide (xs = ys))) ∧ ∃ n, w.drewN n = w' := by
  have hl := hx.len
  have hc := hx.cap
  have hl2 := hy.len
  have hc2 := hy.cap
  rw [lv_length] at hl hl2
  unfold maxLen at hc hc2
  have HX := Lib.hid hx
  have HY := Lib.hid hy
  clear hx hy
  by_cases hlen : xs.length = ys.length
  · have hne : ((xs.length : Int) != (ys.length : Int)) = false := by rw [hlen]; simp
    have HL := Lib.hid hlen
    have hlen1 : xs.length ≤ ys.length := by omega
    have hlen2 : ys.length ≤ xs.length := by omega
    clear hlen
    go_enter Try.func15, Try.ntmps15
    go_wp2_with fail
    go_loopw [5] (fun i wr => ∃ (k n : Nat), k ≤ xs.length ∧ i = .int .i64 (k : Int) ∧ xs.take k = ys.take k ∧ w.drewN n = wr) (fun i _ => xs.length - (intOf i).toNat)
    case atStart => exact ⟨0, 0, Nat.zero_le _, rfl, rfl, rfl⟩
    case round =>
      obtain ⟨k, n, hk, rfl, heq, rfl⟩ := hrel
      have HE := Lib.hid heq
      clear heq
      by_cases hlt : k < xs.length
      · have hlt2 : k < ys.length := by omega
        obtain ⟨b1, o1, rfl, _, _, hcell1⟩ := HX.out.row hlt
        obtain ⟨b2, o2, rfl, _, _, hcell2⟩ := HY.out.row hlt2
        have ht1 : Hid (xs.take (k + 1) = xs.take k ++ [xs[k]]) := by unfold Hid; exact List.take_succ_eq_append_getElem hlt
        have ht2 : Hid (ys.take (k + 1) = ys.take k ++ [ys[k]]) := by unfold Hid; exact List.take_succ_eq_append_getElem hlt2
        have hq : Hid (xs = ys → xs[k] = ys[k]) := fun h => by subst h; rfl
        generalize xs[k] = x at *
        generalize ys[k] = y at *
        by_cases hxy : x = y
        · subst hxy
          go_wp2_with fail
          go_quiet (fail)
          go_wp2
          go_roundw
          case rel => exact ⟨k + 1, _, by omega, by go_num, by rw [ht1.out, ht2.out, HE.out], rfl⟩
          case measure => simp [intOf]; omega
        · have hb : (!x == y) = true := by simpa using hxy
          go_wp2_with fail
          go_quiet (fail)
          go_wp2
          go_ret
          exact ⟨ret_bool (decide_eq_false fun h => hxy (hq.out h)).symm, _, (World.drewN_drewN _ _ _).symm⟩
      · obtain rfl : k = xs.length := by omega
        have hall : Hid (xs = ys) := by
          have h := HE.out
          rw [List.take_length, HL.out, List.take_length] at h
          exact h
        go_wp2
        go_ret
        exact ⟨ret_bool (decide_eq_true hall.out).symm, _, rfl⟩
  · have hne : ((xs.length : Int) != (ys.length : Int)) = true := by rw [bne_iff_ne]; omega
    have HN : Hid (decide (xs = ys) = false) := decide_eq_false fun h => hlen (by rw [h])
    go_enter Try.func15, Try.ntmps15
    go_wp2
    go_ret
    exact ⟨ret_bool HN.out.symm, 0, rfl⟩
theorem bsame_len {w : World} {lo h' lo2 h2 n m : Nat} {A B : Option Addr} {c d : Nat} (xs ys : List Bool) (b : Bool) (hx : Rd w lo h' A c (lv xs)) (hy : Rd w lo2 h2 B d (lv ys)) (hn : xs.length = n) (hm : ys.length = m) (he : decide (xs = ys) = b) :
    Calls Try.prog 15 #[.slice A n c, .slice B m d] w fun r w' => r = .returned (.bool b) ∧ ∃ k, w.drewN k = w' := by
  subst hn hm he
  exact bsame_any xs ys hx hy
end Go.Proofs.Ytiainckeakhccaa
