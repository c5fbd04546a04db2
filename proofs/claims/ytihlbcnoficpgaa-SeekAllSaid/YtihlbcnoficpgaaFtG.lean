/-
  The front package: Len, At, All.
-/
import Derived.Test.YtihlbcnoficpgaaFtT
import Derived.Test.YtihlbcnoficpgaaShClo
import Derived.OwnWalk
namespace Go.Proofs.Ytihlbcnoficpgaa
set_option linter.unusedSimpArgs false
set_option linter.unusedVariables false
open Go.RowKit

theorem flen_any {w : World} {d : Nat} {ys : List ByteArray} (h : Dc w d ys) :
    Calls Try.prog 26 #[.pointer (some ⟨d, 0, none⟩)] w fun r w' => r = .returned (.int .i64 (ys.length : Int)) ∧ w = w' := by
  obtain ⟨A, c, hcell, hfr, hrd⟩ := h.open_
  clear h hrd
  go_enter Try.func26, Try.ntmps26
  go_wp2
  go_ret
  exact ⟨rfl, rfl⟩
theorem fat_out {w : World} {d : Nat} {ys : List ByteArray} (h : Dc w d ys) (z : Int) (hz : z < 0 ∨ (ys.length : Int) ≤ z) :
    Calls Try.prog 27 #[.pointer (some ⟨d, 0, none⟩), .int .i64 z] w fun r w' => r = .returned (.string ⟨#[]⟩) ∧ w = w' := by
  have HL := Lib.hid (flen_any h)
  clear h
  by_cases h0 : z < 0
  · have d0 : decide (z < 0) = true := decide_eq_true h0
    go_enter Try.func27, Try.ntmps27
    go_wp2
    go_ret
    exact ⟨rfl, rfl⟩
  · have d0 : decide (z < 0) = false := decide_eq_false h0
    have h1 : (ys.length : Int) ≤ z := by omega
    have d1 : decide ((ys.length : Int) ≤ z) = true := decide_eq_true h1
    go_enter Try.func27, Try.ntmps27
    go_wp2_with fail
    refine HL.out.mono ?_
    rintro r w' ⟨rfl, rfl⟩
    go_wp2
    go_ret
    exact ⟨rfl, rfl⟩
theorem fat_in {w : World} {d : Nat} {ys : List ByteArray} (h : Dc w d ys) (k : Nat) (hk : k < ys.length) (h4 : ys[k].size ≤ 281474976710656) :
    Calls Try.prog 27 #[.pointer (some ⟨d, 0, none⟩), .int .i64 (k : Int)] w fun r w' => r = .returned (.string ys[k]) ∧ Below w.heap.size w w' := by
  have HL := Lib.hid (flen_any h)
  obtain ⟨A, c, hcell, hfr, hrd⟩ := h.open_
  have hl := hrd.len
  have hm := hrd.cap
  rw [sv_length] at hl
  unfold maxLen at hm
  obtain ⟨b, off, rfl, _, _, hcell2⟩ := hrd.str hk
  have HC := Lib.hid (fun w => cloneS_any (w := w) ys[k] h4)
  have i0 : ¬ (k : Int) < 0 := by omega
  have d0 : decide ((k : Int) < 0) = false := decide_eq_false i0
  have i1 : ¬ (ys.length : Int) ≤ (k : Int) := by omega
  have d1 : decide ((ys.length : Int) ≤ (k : Int)) = false := decide_eq_false i1
  have i2 : (k : Int) < (ys.length : Int) := by omega
  generalize ys[k] = s at *
  clear h hrd
  go_enter Try.func27, Try.ntmps27
  go_wp2_with fail
  refine HL.out.mono ?_
  rintro r w' ⟨rfl, rfl⟩
  go_wp2_with fail
  refine (HC.out _).mono ?_
  rintro r w1 ⟨rfl, hb⟩
  go_wp2_with fail
  go_ret
  exact ⟨rfl, hb⟩
theorem make_strs (w : World) (n : Nat) (h : n ≤ 4294967295) : ∃ w1, (Instr.makeSlice 22 (.int .i64 (n : Int)) (.int .i64 (n : Int))).run Try.prog w = .ok (.slice (some ⟨w.heap.size, 0, none⟩) n n) w1 ∧
    w1.ownsRow w.heap.size 9 1 (.slice (some ⟨w.heap.size, 0, none⟩) n n) n (List.replicate n (.string ⟨#[]⟩)) ∧ w.grownBy w1 none := by
  obtain ⟨i0, hi0, hz0, hz1, hz2⟩ := info_parts Try.infoStr
  have := run_make_full (P := Try.prog) w w.heap.size 22 9 i0 _ 1 Try.underlying22 hi0 hz0 hz1 .i64 .i64 n (by rw [hz2]; omega) (by simp only [maxLen]; omega) (Nat.le_refl _)
  rw [Nat.mul_one, show (Value.string ⟨#[]⟩).cells = #[.string ⟨#[]⟩] from rfl, toList_madeCells_one] at this
  exact this
/-- the first k as ys says -/
def UptoS (ys : List ByteArray) (k : Nat) (xs : List Value) : Prop := xs.length = ys.length ∧ ∀ j, j < k → xs[j]? = (sv ys)[j]?
theorem uptoS_all {ys : List ByteArray} {xs : List Value} (h : UptoS ys ys.length xs) : xs = sv ys := by
  refine List.ext_getElem? fun j => ?_
  by_cases hj : j < ys.length
  · exact h.2 j hj
  · rw [List.getElem?_eq_none (by rw [h.1]; omega), List.getElem?_eq_none (by rw [sv_length]; omega)]
theorem uptoS_succ {ys : List ByteArray} {k : Nat} {xs : List Value} (h : UptoS ys k xs) (hk : k < ys.length) : UptoS ys (k + 1) (xs.set k (.string ys[k])) := by
  refine ⟨by rw [List.length_set]; exact h.1, fun j hj => ?_⟩
  by_cases e : j = k
  · subst e
    rw [List.getElem?_set_self (by rw [h.1]; exact hk), sv_get ys j hk]
  · rw [List.getElem?_set_ne (fun e2 => e e2.symm)]
    exact h.2 j (by omega)
set_option maxRecDepth 20000 in
set_option maxHeartbeats 2000000 in
theorem fall_any {w : World} {d : Nat} {ys : List ByteArray} (h : Dc w d ys) (hn : ys.length ≤ 1000000) (h4 : ∀ s ∈ ys, s.size ≤ 281474976710656) :
    Calls Try.prog 20 #[.pointer (some ⟨d, 0, none⟩)] w fun r w' => ∃ A c, r = .returned (.slice A ys.length c) ∧ w'.ownsRow w.heap.size 9 1 (.slice A ys.length c) ys.length (sv ys) ∧ Below w.heap.size w w' := by
  have HL := Lib.hid (flen_any h)
  have H := Lib.hid h
  have H4 : Hid (∀ k (hk : k < ys.length), ys[k].size ≤ 281474976710656) := fun k hk => h4 _ (List.getElem_mem hk)
  obtain ⟨w1, hmake, ho1, hg1⟩ := make_strs w ys.length (by omega)
  have HO1 := Lib.hid ho1
  have HB1 := Lib.hid (below_of_gb (Nat.le_refl _) hg1 (fun g hg => by cases hg))
  clear h h4 ho1 hg1
  go_enter Try.func20, Try.ntmps20
  go_wp2_with fail
  refine HL.out.mono ?_
  rintro r w' ⟨rfl, rfl⟩
  go_wp2_with fail
  clear hmake
  go_loopw [10] (fun i wr => ∃ (k : Nat) (xs : List Value), k ≤ ys.length ∧ i = .int .i64 (k : Int) ∧ wr.ownsRow w.heap.size 9 1 (.slice (some ⟨w.heap.size, 0, none⟩) ys.length ys.length) ys.length xs ∧ UptoS ys k xs ∧ Below w.heap.size w wr) (fun i _ => ys.length - (intOf i).toNat)
  case atStart => exact ⟨0, _, Nat.zero_le _, rfl, HO1.out, ⟨by simp, fun j hj => by omega⟩, HB1.out⟩
  case round =>
    clear HO1 HB1 HL
    obtain ⟨k, xs, hk, rfl, ho, hup, hb⟩ := hrel
    have HO := Lib.hid ho
    have HUP := Lib.hid hup
    have HB := Lib.hid hb
    have hsz := hb.size
    clear ho hup hb
    by_cases hlt : k < ys.length
    · have ik : (k : Int) < (ys.length : Int) := by omega
      have HA := Lib.hid (fat_in (H.out.below HB.out (Nat.le_refl _)) k hlt (H4.out k hlt))
      have HUS := Lib.hid (uptoS_succ HUP.out hlt)
      generalize ys[k] = s at *
      go_wp2_with fail
      refine HA.out.mono ?_
      rintro r w2 ⟨rfl, hb2⟩
      have HO2 := Lib.hid (own_below HO.out hb2 (Nat.le_refl _))
      have HB2 := Lib.hid (below_below HB.out hb2 hsz)
      have hsz2 := HB2.out.size
      have hfr := HO2.out.frozenAt k
      have hxk : k < xs.length := by rw [HUP.out.1]; exact hlt
      have hcell : w2.cell? ⟨w.heap.size, k, none⟩ = some xs[k] := by
        rw [HO2.out.cellAt k (by omega), List.getElem?_eq_getElem hxk]
      have HST := Lib.hid (World.ownsRow.stored HO2.out k (.string s))
      have HBS := Lib.hid (HB2.out.setCell (p := ⟨w.heap.size, k, none⟩) (Nat.le_refl _) (.string s))
      clear hb2 HA HO HB
      generalize xs[k] = x0 at *
      go_wp2_with fail
      go_roundw
      case rel => exact ⟨k + 1, _, by omega, by go_num, HST.out.1, HUS.out, HBS.out⟩
      case measure => simp [intOf]; omega
    · have ik : ¬ (k : Int) < (ys.length : Int) := by omega
      have hke : k = ys.length := by omega
      have hx : xs = sv ys := uptoS_all (by rw [← hke]; exact HUP.out)
      subst hx
      go_wp2_with fail
      go_ret
      exact ⟨_, _, rfl, HO.out, HB.out⟩
end Go.Proofs.Ytihlbcnoficpgaa
