/-
  Put.
-/
import Derived.Test.YtepgkdmfoojppaaMgC
namespace Go.Proofs.Ytepgkdmfoojppaa
set_option linter.unusedSimpArgs false
set_option linter.unusedVariables false
open Go.RowKit

set_option maxRecDepth 20000 in
theorem put_any {w : World} (n : Nat) (hn : n ≤ 9223372036854775807) :
    Calls Try.prog 38 #[.int .i64 (n : Int)] w fun r w' => ∃ A c, r = .returned (.slice A (putL n).length c) ∧ w'.ownsRow w.heap.size 5 1 (.slice A (putL n).length c) (putL n).length (bv (putL n)) ∧ Below w.heap.size w w' := by
  have h9 := putL_nine n hn
  go_enter Try.func38, Try.ntmps38
  go_wp2_with fail
  go_loopw [0, 3] (fun i v wr => ∃ (m : Nat) (ys : List UInt8) (A : Option Addr) (c : Nat), m ≤ n ∧ i = .int .i64 (m : Int) ∧ v = .slice A ys.length c ∧ ys ++ putL m = putL n ∧ wr.ownsRow w.heap.size 5 1 (.slice A ys.length c) ys.length (bv ys) ∧ Below w.heap.size w wr) (fun i _ _ => (intOf i).toNat)
  case atStart => exact ⟨n, [], none, 0, by omega, rfl, rfl, rfl, World.ownsRow_nil .., Below.refl _ _⟩
  case round =>
    obtain ⟨m, ys, A, c, hm, rfl, rfl, hys, hown, hbel⟩ := hrel
    have hl : ys.length + 1 ≤ 9 := by
      have h1 := congrArg List.length hys
      have h2 := putL_pos m
      rw [List.length_append] at h1
      omega
    have HO := Lib.hid hown
    have HY := Lib.hid hys
    have HB := Lib.hid hbel
    have hsz := hbel.size
    clear hown hys hbel
    by_cases hlt : 128 ≤ m
    · have HA := Lib.hid (or_more m)
      go_wp2_with (at_builtin; refine wpList_push (v := .slice A ys.length c) w.heap.size ys (UInt8.ofNat (m % 128 + 128)) rfl _ _ rfl rfl rfl rfl (by rw [HA.out, World.cell?_alloc_at _ _ _ _ rfl]; rfl) (HO.out.alloc _) (by omega) (by simp; omega) ?_; intro A' c' w1 hown1 hgr1)
      have HO1 := Lib.hid hown1
      have HG1 := Lib.hid hgr1
      clear hown1 hgr1
      go_wp2
      go_roundw
      case rel =>
        refine ⟨m / 128, ys ++ [UInt8.ofNat (m % 128 + 128)], A', c', by omega, by go_num, by simp, ?_, HO1.out, ?_⟩
        · rw [← HY.out, putL_big hlt]; simp
        · exact (HB.out.alloc hsz _).grown HG1.out (by simp; omega) (fun k hk => (HO.out.lt k hk).1)
      case measure => simp [intOf]; omega
    · have HA : Hid ((UInt8.ofNat m).toNat = m) := by
        unfold Hid
        rw [UInt8.toNat_ofNat']; omega
      go_wp2_with (at_builtin; refine wpList_push (v := .slice A ys.length c) w.heap.size ys (UInt8.ofNat m) rfl _ _ rfl rfl rfl rfl (by rw [HA.out, World.cell?_alloc_at _ _ _ _ rfl]; first | rfl | (simp; omega)) (HO.out.alloc _) (by omega) (by simp; omega) ?_; intro A' c' w1 hown1 hgr1)
      have HO1 := Lib.hid hown1
      have HG1 := Lib.hid hgr1
      clear hown1 hgr1
      go_wp2
      go_ret
      have e : putL n = ys ++ [UInt8.ofNat m] := by rw [← HY.out, putL_small (by omega)]
      have e2 : (putL n).length = ys.length + 1 := by rw [e]; simp
      refine ⟨A', c', by rw [e2]; rfl, by rw [e]; exact HO1.out, ?_⟩
      exact (HB.out.alloc hsz _).grown HG1.out (by simp; omega) (fun k hk => (HO.out.lt k hk).1)

theorem put_below {w : World} (n : Int) (hn : n < 0) : Calls Try.prog 38 #[.int .i64 n] w fun r w' => r = .returned (.slice none 0 0) ∧ w = w' := by
  go_enter Try.func38, Try.ntmps38
  go_wp2
  go_ret
  exact ⟨rfl, rfl⟩
end Go.Proofs.Ytepgkdmfoojppaa
