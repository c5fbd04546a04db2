/-
  The text package: the point of a rune; parts of strings; how strings compare, folded, and by points.
-/
import Derived.Test.YtbbpfehfceapbaaDoorShf
import Derived.Test.YtbbpfehfceapbaaDoorRefU
import Derived.Test.YtbbpfehfceapbaaDoorCmpM
namespace Go.Proofs.YtbbpfehfceapbaaDoor
set_option linter.unusedSimpArgs false
set_option linter.unusedVariables false
open Go.RowKit

/-- the rune that stands for none stands there itself just if its three bytes do -/
theorem fffd_iff (l : List UInt8) : Lib.hasPrefix l [239, 191, 189] = decide ((ptL l).1 = 65533) := by
  by_cases h : (ptL l).1 = 65533
  · rw [decide_eq_true h]
    by_cases hl : l = []
    · subst hl
      cases h
    · have he := enc_ptL hl
      rw [h] at he
      have hb : encL 65533 = [239, 191, 189] := by decide
      rw [hb] at he
      unfold Lib.hasPrefix
      rw [List.isPrefixOf_iff_prefix, he]
      exact List.take_prefix _ _
  · rw [decide_eq_false h]
    cases hp : Lib.hasPrefix l [239, 191, 189] with
    | false => rfl
    | true =>
      exfalso
      unfold Lib.hasPrefix at hp
      rw [List.isPrefixOf_iff_prefix] at hp
      obtain ⟨t, rfl⟩ := hp
      exact h (by simp [ptL, ptN, tailN, byt])
theorem fffd_yes {w : World} (s : ByteArray) (h : (ptL s.data.toList).1 = 65533) :
    Calls Tryd.prog 37 #[.string s, .string ⟨#[239, 191, 189]⟩] w fun e w' => e = .returned (.bool true) ∧ w' = w := by
  refine (prefix_any s ⟨#[239, 191, 189]⟩).mono ?_
  rintro r w' ⟨rfl, rfl⟩
  exact ⟨by rw [show Lib.hasPrefix s.data.toList (⟨#[239, 191, 189]⟩ : ByteArray).data.toList = true from (fffd_iff _).trans (decide_eq_true h)], rfl⟩
theorem fffd_no {w : World} (s : ByteArray) (h : (ptL s.data.toList).1 ≠ 65533) :
    Calls Tryd.prog 37 #[.string s, .string ⟨#[239, 191, 189]⟩] w fun e w' => e = .returned (.bool false) ∧ w' = w := by
  refine (prefix_any s ⟨#[239, 191, 189]⟩).mono ?_
  rintro r w' ⟨rfl, rfl⟩
  exact ⟨by rw [show Lib.hasPrefix s.data.toList (⟨#[239, 191, 189]⟩ : ByteArray).data.toList = false from (fffd_iff _).trans (decide_eq_false h)], rfl⟩

theorem pnt_any {w : World} (s : ByteArray) (h0 : 0 < s.size) :
    Calls Tryd.prog 23 #[.string s, .int .i32 (runeL s.data.toList : Int)] w fun r w' => r = .returned (.int .i64 ((ptL s.data.toList).1 : Int)) ∧ w = w' := by
  by_cases h1 : (ptL s.data.toList).1 ≤ 1114111
  · have hr : runeL s.data.toList = (ptL s.data.toList).1 := by unfold runeL; rw [if_pos h1]
    rw [hr]
    by_cases h2 : (ptL s.data.toList).1 = 65533
    · have HY := fun w => fffd_yes (w := w) s h2
      have HYH := Lib.hid HY
      clear HY
      rw [h2]
      clear h1 hr h2
      go_enter Tryd.func23, Tryd.ntmps23
      go_wp2_with fail
      refine (HYH.out _).mono ?_
      rintro r w1 ⟨rfl, rfl⟩
      go_wp2
      go_ret
      first | exact ⟨rfl, rfl⟩ | trivial
    · generalize (ptL s.data.toList).1 = p at *
      have ip : ¬ (p : Int) = 65533 := by omega
      have ip2 : (p : Int) ≤ 1114111 := by omega
      go_enter Tryd.func23, Tryd.ntmps23
      go_wp2
      go_ret
      first | exact ⟨rfl, rfl⟩ | exact ⟨by go_num, rfl⟩
  · have hr : runeL s.data.toList = 65533 := by unfold runeL; rw [if_neg h1]
    have hb := ptL_bad (l := s.data.toList) (by omega)
    have h2 : (ptL s.data.toList).1 ≠ 65533 := by omega
    have HN := fun w => fffd_no (w := w) s h2
    have HNH := Lib.hid HN
    have hb1 : (ptL s.data.toList).1 = 1114112 + s[0].toNat := by
      rw [hb]
      show 1114112 + byt s.data.toList 0 = _
      rw [byt_get (by rw [size_toL]; exact h0)]
      rfl
    rw [hr, hb1]
    clear HN h1 h2 hb hb1 hr
    have lk : s[0].toNat < 256 := UInt8.toNat_lt _
    have i0 : (0 : Int) < (s.size : Int) := by omega
    go_enter Tryd.func23, Tryd.ntmps23
    go_wp2_with fail
    refine (HNH.out _).mono ?_
    rintro r w1 ⟨rfl, rfl⟩
    go_wp2
    go_ret
    first | exact ⟨rfl, rfl⟩ | exact ⟨by go_num, rfl⟩
end Go.Proofs.YtbbpfehfceapbaaDoor
