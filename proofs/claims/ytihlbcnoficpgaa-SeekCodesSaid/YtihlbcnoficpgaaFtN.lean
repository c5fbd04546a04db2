/-
  The front package: next.
-/
import Derived.Test.YtihlbcnoficpgaaFtA
import Derived.Test.YtihlbcnoficpgaaFrO
import Derived.Test.YtihlbcnoficpgaaMgC
import Derived.Deep.RegionHeld3
namespace Go.Proofs.Ytihlbcnoficpgaa
set_option linter.unusedSimpArgs false
set_option linter.unusedVariables false
open Go.RowKit

theorem textR_len (bs : List UInt8) (k : Nat) (e : Int) : (textR bs k e).1.length ≤ 4096 := by
  have h := mostR_le bs k e 4096
  rw [show (mostR bs k e 4096).1 = (peekR bs k e 4096).1 from rfl] at h
  unfold textR takeR
  repeat' split
  all_goals simp only [List.length_nil, List.length_take, Int.toNat_natCast]
  all_goals omega
theorem orForm_fail (e : Int) : (if e = 0 then (3 : Int) else e) = orForm e := rfl
theorem next_le (bs : List UInt8) (k : Nat) (e : Int) (last : List UInt8) : (mostR bs k e last.length).1 ≤ last.length := by
  have h := mostR_le bs k e (last.length : Int)
  omega
set_option maxRecDepth 20000 in
set_option maxHeartbeats 1000000 in
theorem fnext_any {w : World} {lo g k : Nat} {bs : List UInt8} {e : Int} (h : Cur w lo g bs k e) (last : ByteArray) (hl : last.size ≤ 100000000) :
    Calls Try.prog 56 #[cp g, .string last] w fun r w' => ∃ x : ByteArray, r = .returned (.string x) ∧ x.data.toList = (nextR bs k e last.data.toList).1 ∧
      Cur w' lo g bs (nextR bs k e last.data.toList).2.1 (nextR bs k e last.data.toList).2.2 ∧ w.grownBy w' (some g) := by
  have HM := Lib.hid (most_any (last.size : Int) h)
  have hn := next_le bs k e last.data.toList
  have HX : Hid (nextR bs k e last.data.toList = nextR bs k e last.data.toList) := rfl
  obtain ⟨N, hN⟩ : ∃ N, nextR bs k e last.data.toList = N := ⟨_, rfl⟩
  rw [hN]
  unfold nextR at hN
  simp only [lenD] at hN hn
  generalize mostR bs k e (last.size : Int) = R at *
  obtain ⟨n, k1, e1⟩ := R
  dsimp only at HM hn hN
  have HT := Lib.hid (fun w (h : Cur w lo g bs k1 e1) => text_any h)
  have htl := textR_len bs k1 e1
  generalize textR bs k1 e1 = T at *
  obtain ⟨t, k2, e2⟩ := T
  dsimp only at HT htl hN
  obtain ⟨x, hx⟩ : ∃ x : ByteArray, (⟨t.toArray⟩ : ByteArray) = x := ⟨_, rfl⟩
  have hxs : x.size ≤ 4096 := by
    have h1 : x.data.toList = t := by rw [← hx]
    rw [← lenD, h1]
    exact htl
  obtain ⟨s, hs⟩ : ∃ s : ByteArray, last.extract 0 n ++ x = s := ⟨_, rfl⟩
  have hsd : s.data.toList = last.data.toList.take n ++ t := by
    rw [← hs, ← hx, ByteArray.data_append, Array.toList_append, ByteArray.data_extract, Array.toList_extract]
    simp [List.extract_eq_take_drop]
  rw [hx] at HT
  have hmin : min n last.size = n := by omega
  have hcat : ¬ 9223372036854775807 < n + x.size := by omega
  clear hx
  have hss : s.size ≤ 1000000000 := by
    have := congrArg List.length hsd
    rw [lenD, List.length_append, List.length_take] at this
    omega
  rw [← hsd] at hN
  have HAL := Lib.hid (fun w => alike_any (w := w) last s (by omega) hss)
  have HSD := Lib.hid hsd
  obtain ⟨q, hq⟩ : ∃ q, shareN last.data.toList s.data.toList = q := ⟨_, rfl⟩
  rw [hq] at HAL hN
  have HNN := Lib.hid hN
  clear hsd hq hN htl h HX
  unfold cp at *
  go_enter Try.func56, Try.ntmps56
  go_wp2_with fail
  refine HM.out.mono ?_
  rintro r w1 ⟨rfl, hc1, hg1⟩
  have HC1 := Lib.hid hc1
  have HG1 := Lib.hid hg1
  clear hc1 hg1 HM
  go_wp2_with fail
  go_region_held3 (fun _ => True) (trivial) (first
    | (go_at_call 55; refine (HT.out _ (HC1.out.drewN 1)).mono ?_; rintro r w2 ⟨rfl, hc2, hg2⟩; have HC2 := Lib.hid hc2; have HG2 : Hid (w.grownBy w2 (some g)) := (gb_drewN HG1.out 1).trans hg2; clear hc2 hg2))
  go_wp2_with fail
  refine (HAL.out _).mono ?_
  rintro r w3 ⟨rfl, m, rfl⟩
  have HC3 := Lib.hid (HC2.out.drewN m)
  have HG3 := Lib.hid (gb_drewN HG2.out m)
  clear HC2 HG2 HC1 HG1 HAL hcat hmin
  by_cases hqn : q = n
  · subst hqn
    have hfin : (s.data.toList, k2, e2) = N := by have := HNN.out; rw [if_pos rfl] at this; exact this
    subst hfin
    go_wp2_with fail
    go_ret
    exact ⟨s, rfl, rfl, HC3.out, HG3.out⟩
  · have hfin : (s.data.toList, k2, orForm e2) = N := by have := HNN.out; rw [if_neg hqn] at this; exact this
    subst hfin
    have b1 : ((q : Int) == (n : Int)) = false := by rw [beq_eq_false_iff_ne]; omega
    have i1 : ¬ (q : Int) = (n : Int) := by omega
    go_wp2_with fail
    refine (fail_any 3 HC3.out).mono ?_
    rintro r w4 ⟨rfl, hc4, hg4⟩
    have HC4 := Lib.hid hc4
    have HG4 := Lib.hid (HG3.out.trans hg4)
    clear hc4 hg4
    go_wp2_with fail
    go_ret
    exact ⟨s, rfl, rfl, HC4.out, HG4.out⟩
end Go.Proofs.Ytihlbcnoficpgaa
