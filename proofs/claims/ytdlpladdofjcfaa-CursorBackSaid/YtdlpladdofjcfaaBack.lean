/-
  Proved: CursorBack returns true for every number, every string and every slice of bytes, and leaves what was there as it was. No condition.
-/
import Derived.Test.YtdlpladdofjcfaaLawA
import Derived.Test.YtdlpladdofjcfaaShell
import Derived.Test.YtdlpladdofjcfaaVar
import Derived.Deep.RegionWith
import Derived.Deep.RegionHeld3
namespace Go.Proofs.Ytdlpladdofjcfaa
set_option linter.unusedSimpArgs false
set_option linter.unusedVariables false
open Go.ChangeShapes Go.WideShapes Go.ChangeAt Go.RowKit
open Go.ChangeMaps (open_string shut_string)

set_option maxHeartbeats 4000000 in
set_option maxRecDepth 20000 in
/-- the law behind its tests of sizes, for a number that isn't below 0 -/
theorem cursorBack_tail {w : World} {A : Option Addr} {bs : List UInt8} {c : Nat} (n0 : Int) (n : Nat) (hn : n ≤ 9223372036854775807) (h01 : n0 < 0 → -(n0 + 1) = (n : Int)) (h02 : ¬ n0 < 0 → n0 = (n : Int)) (hn0 : -9223372036854775808 ≤ n0)
    (s : ByteArray) (hs : s.size ≤ 4096) (hl5 : bs.length ≤ 2000) (h : Rd w 0 w.heap.size A c (bv bs)) :
    Calls Try.prog 5 #[.int .i64 n0, .string s, .slice A bs.length c] w fun e w' => e = .returned (.bool true) ∧ Below w.heap.size w w' := by
  have hl := h.len
  have hc := h.cap
  rw [bv_length] at hl
  unfold maxLen at hc
  have H := Lib.hid h
  clear h
  have hp9 := putL_nine n hn
  have hq9 := putL_nine s.size (by omega)
  have htl : (textL s.data.toList).length ≤ 9 + s.size := by simp [textL]; omega
  have H01 := Lib.hid h01
  have H02 := Lib.hid h02
  clear h01 h02
  obtain ⟨cs, hcs, hcb, hN, hT⟩ := put_both n hn s.data.toList (by have : s.data.toList.length = s.size := rfl; omega)
  have HCS := Lib.hid hcs
  have HN := Lib.hid hN
  have HT := Lib.hid hT
  clear hcs hN hT
  have hform := vnum_form bs
  have herr := vnum_err bs
  have hcase := vnum_errs bs
  have hsz := vnum_size bs
  rcases hv : vnum bs with ⟨x, k, e⟩
  rw [hv] at hform herr hcase hsz
  have HV := Lib.hid hv
  have HF := Lib.hid hform
  have HE := Lib.hid herr
  have HCA := Lib.hid hcase
  clear hv hform herr hcase
  simp only [] at hsz
  by_cases h0 : n0 < 0
  case' pos =>
    go_enter Try.func5, Try.ntmps5
    go_wp2_with fail
    refine (awake_any _).mono ?_
    rintro r w1 ⟨rfl, hb1⟩
    have HB1 := Lib.hid hb1
    have s1 := hb1.size
    clear hb1
    go_wp2_with fail
    have e : -(n0 + 1) = (n : Int) := H01.out h0
    rw [e]
    clear e
  case' neg =>
    obtain rfl : n0 = (n : Int) := H02.out h0
    go_enter Try.func5, Try.ntmps5
    go_wp2_with fail
    refine (awake_any _).mono ?_
    rintro r w1 ⟨rfl, hb1⟩
    have HB1 := Lib.hid hb1
    have s1 := hb1.size
    clear hb1
    go_wp2_with fail
  all_goals
    refine (put_any n hn).mono ?_
    rintro r w2 ⟨Ap, c2, rfl, hownp, hbp⟩
    have HOP := Lib.hid hownp
    have k2 := below_below HB1.out hbp s1
    have s2 := hbp.size
    clear hownp hbp
    go_wp2_with fail
    refine (putText_any s (by omega)).mono ?_
    rintro r w3 ⟨At, c3, rfl, hownt, hbt⟩
    obtain ⟨A4, c4, w4, hrun, hown4, hg4⟩ := append_named w3 w1.heap.size _ (putL n) (textL s.data.toList) cs HCS.out (own_below HOP.out hbt (Nat.le_refl _)) (Rd.own hownt) (by omega) (by have := hbt.size; omega)
    have k3 := below_below k2 hbt k2.size
    have k4 := k3.grown hg4 k3.size (fun x hx => by have := own_row HOP.out x hx; omega)
    have HO4 := Lib.hid hown4
    have HK4 := Lib.hid k4
    have s4 := k4.size
    clear hownt hbt hown4 hg4 k2 k3 k4
    go_wp2_with (at_builtin; refine wpList_append_run rfl _ _ _ _ rfl rfl rfl hrun ?_)
    refine (new_any cs _ (Rd.own HO4.out) (by omega)).mono ?_
    rintro r w5 ⟨g, rfl, hc5, hb5⟩
    have HC5 := Lib.hid hc5
    have k5 := below_below HK4.out hb5 s4
    have HK5 := Lib.hid k5
    have s5 := k5.size
    have l5 := hc5.base
    have g5 := hc5.lt
    clear hc5 hb5 k5
    go_wp2_with fail
    refine (new_any bs _ (H.out.below HK5.out (Nat.le_refl _)) (by omega)).mono ?_
    rintro r w6 ⟨g', rfl, hc6, hb6⟩
    have HD6 := Lib.hid hc6
    have k6 := below_below HK5.out hb6 s5
    have HK6 := Lib.hid k6
    have s6 := k6.size
    have l6 := hc6.base
    have HC6 := Lib.hid (HC5.out.grown (below_gb_none (Nat.le_refl _) hb6) (by simp))
    clear hc6 hb6 k6
    go_wp2_with fail
    refine (number_any HC6.out).mono ?_
    rw [HN.out]
    rintro r w7 ⟨rfl, hc7, hg7⟩
    have HC7 := Lib.hid hc7
    have HD7 := Lib.hid (HD6.out.grown hg7 (fun x hx => .inl (by injection hx with hx; omega)))
    have k7 := below_some HK6.out hg7 s6 (by omega)
    have HK7 := Lib.hid k7
    have s7 := k7.size
    clear hc7 hg7 k7
    go_wp2_with fail
    refine (text_any HC7.out).mono ?_
    rw [HT.out]
    rintro r w8 ⟨rfl, hc8, hg8⟩
    rw [show (⟨(s.data.toList, cs.length, (0 : Int)).1.toArray⟩ : ByteArray) = s from str_eta s]
    have HC8 := Lib.hid hc8
    have HD8 := Lib.hid (HD7.out.grown hg8 (fun x hx => .inl (by injection hx with hx; omega)))
    have k8 := below_some HK7.out hg8 s7 (by omega)
    have HK8 := Lib.hid k8
    have s8 := k8.size
    clear hc8 hg8 k8
    go_wp2_with fail
    refine (end_any HC8.out).mono ?_
    rintro r w9 ⟨rfl, m, rfl⟩
    rw [show endR cs cs.length 0 = 0 from by simp [endR]]
    go_wp2_with fail
    refine (number_any (HD8.out.drewN m)).mono ?_
    rw [number_start, HV.out]
    rintro r w10 ⟨rfl, hd10, hg10⟩
    have HD10 := Lib.hid hd10
    have k10 := below_some (below_drewN' HK8.out m) hg10 s8 (by omega)
    have HK10 := Lib.hid k10
    have s10 := k10.size
    clear hd10 hg10 k10
    go_wp2_with fail
    refine (end_any HD10.out).mono ?_
    rintro r w11 ⟨rfl, m2, rfl⟩
    by_cases h3 : e = 3
    · obtain ⟨rfl, rfl⟩ := HE.out (by omega)
      subst h3
      rw [show endR bs ((0 : Nat), (0 : Nat), (3 : Int)).2.1 ((0 : Nat), (0 : Nat), (3 : Int)).2.2 = 3 from by simp [endR]]
      go_wp2_with fail
      refine (end_any (HD10.out.drewN m2)).mono ?_
      rintro r w12 ⟨rfl, m3, rfl⟩
      rw [show endR bs ((0 : Nat), (0 : Nat), (3 : Int)).2.1 ((0 : Nat), (0 : Nat), (3 : Int)).2.2 = 3 from by simp [endR]]
      go_wp2
      go_ret
      exact ⟨rfl, below_drewN' HK10.out _⟩
    · by_cases h2 : e = 2
      · obtain ⟨rfl, rfl⟩ := HE.out (by omega)
        subst h2
        rw [show endR bs ((0 : Nat), (0 : Nat), (2 : Int)).2.1 ((0 : Nat), (0 : Nat), (2 : Int)).2.2 = 2 from by simp [endR]]
        go_wp2_with fail
        refine (end_any (HD10.out.drewN m2)).mono ?_
        rintro r w12 ⟨rfl, m3, rfl⟩
        rw [show endR bs ((0 : Nat), (0 : Nat), (2 : Int)).2.1 ((0 : Nat), (0 : Nat), (2 : Int)).2.2 = 2 from by simp [endR]]
        go_wp2_with fail
        refine (left_any (HD10.out.drewN (m2 + m3))).mono ?_
        rintro r w13 ⟨rfl, m4, rfl⟩
        go_wp2_with fail
        go_quiet (fail)
        go_wp2
        go_ret
        exact ⟨rfl, below_drewN' (below_drewN' HK10.out _) _⟩
      · have h0 : e = 0 := by have := HCA.out; omega
        subst h0
        obtain ⟨hput, hpos, hx⟩ := HF.out rfl
        have HPU := Lib.hid hput
        clear hput
        by_cases hk : k < bs.length
        · rw [show endR bs ((x : Nat), (k : Nat), (0 : Int)).2.1 ((x : Nat), (k : Nat), (0 : Int)).2.2 = 2 from by simp [endR, hk]]
          go_wp2_with fail
          refine (end_any (HD10.out.drewN m2)).mono ?_
          rintro r w12 ⟨rfl, m3, rfl⟩
          rw [show endR bs ((x : Nat), (k : Nat), (0 : Int)).2.1 ((x : Nat), (k : Nat), (0 : Int)).2.2 = 2 from by simp [endR, hk]]
          go_wp2_with fail
          refine (left_any (HD10.out.drewN (m2 + m3))).mono ?_
          rintro r w13 ⟨rfl, m4, rfl⟩
          go_wp2_with fail
          have hz : (bs.length : Int) - ((bs.length - k : Nat) : Int) = (k : Int) := by omega
          rw [hz]
          clear hz
          have hk0 : ((k : Int) == 0) = false := by simp; omega
          have hk1 : (k == 0) = false := by simp; omega
          have hk2 : ¬ k = 0 := by omega
          have hk3 : decide (k = 0) = false := by simp; omega
          have hkc : (k : Int) ≤ (c : Int) := by omega
          have hkz : (0 : Int) ≤ (k : Int) := by omega
          first
          | (go_region_with (first | (go_at_call 9; refine (put_any x hx).mono ?_; rintro r w14 ⟨A5, c5, rfl, ho5, hb5⟩; have k14 : Below w.heap.size w w14 := (below_below (below_drewN' HK10.out _) hb5 s10); have HO5 := Lib.hid ho5; have HK14 := Lib.hid k14; clear ho5 hb5 k14) | (go_at_call 8; refine (same_take (putL x) bs k (by omega) (Rd.own HO5.out) (H.out.below HK14.out (Nat.le_refl _)) HPU.out).mono ?_; rintro r w15 ⟨rfl, rfl⟩)))
          | fail
          all_goals go_wp2
          all_goals go_ret
          all_goals exact ⟨rfl, HK14.out⟩
        · rw [show endR bs ((x : Nat), (k : Nat), (0 : Int)).2.1 ((x : Nat), (k : Nat), (0 : Int)).2.2 = 0 from by simp [endR, hk]]
          go_wp2_with fail
          refine (left_any (HD10.out.drewN m2)).mono ?_
          rintro r w13 ⟨rfl, m4, rfl⟩
          go_wp2_with fail
          have hz : (bs.length : Int) - ((bs.length - k : Nat) : Int) = (k : Int) := by omega
          rw [hz]
          clear hz
          have hk0 : ((k : Int) == 0) = false := by simp; omega
          have hk1 : (k == 0) = false := by simp; omega
          have hk2 : ¬ k = 0 := by omega
          have hk3 : decide (k = 0) = false := by simp; omega
          have hkc : (k : Int) ≤ (c : Int) := by omega
          have hkz : (0 : Int) ≤ (k : Int) := by omega
          first
          | (go_region_with (first | (go_at_call 9; refine (put_any x hx).mono ?_; rintro r w14 ⟨A5, c5, rfl, ho5, hb5⟩; have k14 : Below w.heap.size w w14 := (below_below (below_drewN' HK10.out _) hb5 s10); have HO5 := Lib.hid ho5; have HK14 := Lib.hid k14; clear ho5 hb5 k14) | (go_at_call 8; refine (same_take (putL x) bs k (by omega) (Rd.own HO5.out) (H.out.below HK14.out (Nat.le_refl _)) HPU.out).mono ?_; rintro r w15 ⟨rfl, rfl⟩)))
          | fail
          all_goals go_wp2
          all_goals go_ret
          all_goals exact ⟨rfl, HK14.out⟩
end Go.Proofs.Ytdlpladdofjcfaa
