/-
  Put.
-/
import Derived.Test.YtiainckeakhccaaCurA
namespace Go.Proofs.Ytiainckeakhccaa
set_option linter.unusedSimpArgs false
set_option linter.unusedVariables false
open Go.RowKit

/-- the varint of a number -/
def putL (n : Nat) : List UInt8 :=
  if h : n < 128 then [UInt8.ofNat n] else UInt8.ofNat (n % 128 + 128) :: putL (n / 128)
termination_by n
decreasing_by omega

theorem putL_small {n : Nat} (h : n < 128) : putL n = [UInt8.ofNat n] := by rw [putL, dif_pos h]
theorem putL_big {n : Nat} (h : 128 ≤ n) : putL n = UInt8.ofNat (n % 128 + 128) :: putL (n / 128) := by rw [putL, dif_neg (by omega)]

theorem putL_le (k : Nat) : ∀ n : Nat, n < 128 ^ (k + 1) → (putL n).length ≤ k + 1 := by
  induction k with
  | zero => intro n h; rw [putL_small (by simpa using h)]; simp
  | succ k ih =>
    intro n h
    by_cases hn : n < 128
    · rw [putL_small hn]; simp
    · rw [putL_big (by omega)]
      have := ih (n / 128) (by rw [Nat.pow_succ] at h; omega)
      simp only [List.length_cons]
      omega
theorem putL_pos (n : Nat) : 0 < (putL n).length := by
  by_cases hn : n < 128
  · rw [putL_small hn]; simp
  · rw [putL_big (by omega)]; simp
theorem putL_nine (n : Nat) (h : n ≤ 9223372036854775807) : (putL n).length ≤ 9 := putL_le 8 n (by omega)

theorem or128 : ∀ x : Fin 256, x.val ||| 128 = x.val % 128 + 128 := by decide +kernel
theorem or_more (m : Nat) : bits .or .u8 ((m : Int) % 256) 128 = ((UInt8.ofNat (m % 128 + 128)).toNat : Int) := by
  have h1 : bits .or .u8 ((m % 256 : Nat) : Int) ((128 : Nat) : Int) = ((m % 256 ||| 128 : Nat) : Int) := u8_or_nat _ _ (by omega) (by omega)
  have h2 := or128 ⟨m % 256, by omega⟩
  simp only [] at h2
  have h3 : (UInt8.ofNat (m % 128 + 128)).toNat = m % 128 + 128 := by rw [UInt8.toNat_ofNat']; omega
  rw [h3, show m % 128 + 128 = m % 256 % 128 + 128 from by omega, ← h2, ← h1, Int.natCast_emod]
  rfl

set_option maxRecDepth 20000 in
theorem put_any {w : World} (n : Nat) (hn : n ≤ 9223372036854775807) :
    Calls Try.prog 27 #[.int .i64 (n : Int)] w fun r w' => ∃ A c, r = .returned (.slice A (putL n).length c) ∧ w'.ownsRow w.heap.size 5 1 (.slice A (putL n).length c) (putL n).length (bv (putL n)) ∧ Below w.heap.size w w' := by
  have h9 := putL_nine n hn
  go_enter Try.func27, Try.ntmps27
  go_wp2_with fail
  go_loopw [0, 3] (fun i v wr => ∃ (m : Nat) (ys : List UInt8) (A : Option Addr) (c : Nat), m ≤ n ∧ i = .int .i64 (m : Int) ∧ v = .slice A ys.length c ∧ ys ++ putL m = putL n ∧ wr.ownsRow w.heap.size 5 1 (.slice A ys.length c) ys.length (bv ys) ∧ Below w.heap.size w wr) (fun i _ _ => (intOf i).toNat)
  case atStart => exact ⟨n, [], none, 0, by omega, rfl, rfl, rfl, World.ownsRow_nil .., Below.refl _ _⟩
  case round =>
    obtain ⟨m, ys, A, c, hm, rfl, rfl, hys, hown, hbel⟩ := hrel
    have hl : ys.length + 1 ≤ 9 := by
      have h1 := congrArg List.length hys
      have h2 := putL_pos m
      rw [List.length_append] at h1
      omega
    have HO := Lib.hid hown
    have HY := Lib.hid hys
    have HB := Lib.hid hbel
    have hsz := hbel.size
    clear hown hys hbel
    by_cases hlt : 128 ≤ m
    · have HA := Lib.hid (or_more m)
      go_wp2_with (at_builtin; refine wpList_push (v := .slice A ys.length c) w.heap.size ys (UInt8.ofNat (m % 128 + 128)) rfl _ _ rfl rfl rfl rfl (by rw [HA.out, World.cell?_alloc_at _ _ _ _ rfl]; rfl) (HO.out.alloc _) (by omega) (by simp; omega) ?_; intro A' c' w1 hown1 hgr1)
      have HO1 := Lib.hid hown1
      have HG1 := Lib.hid hgr1
      clear hown1 hgr1
      go_wp2
      go_roundw
      case rel =>
        refine ⟨m / 128, ys ++ [UInt8.ofNat (m % 128 + 128)], A', c', by omega, by go_num, by simp, ?_, HO1.out, ?_⟩
        · rw [← HY.out, putL_big hlt]; simp
        · exact (HB.out.alloc hsz _).grown HG1.out (by simp; omega) (fun k hk => (HO.out.lt k hk).1)
      case measure => simp [intOf]; omega
    · have HA : Hid ((UInt8.ofNat m).toNat = m) := by
        unfold Hid
        rw [UInt8.toNat_ofNat']; omega
      go_wp2_with (at_builtin; refine wpList_push (v := .slice A ys.length c) w.heap.size ys (UInt8.ofNat m) rfl _ _ rfl rfl rfl rfl (by rw [HA.out, World.cell?_alloc_at _ _ _ _ rfl]; first | rfl | (simp; omega)) (HO.out.alloc _) (by omega) (by simp; omega) ?_; intro A' c' w1 hown1 hgr1)
      have HO1 := Lib.hid hown1
      have HG1 := Lib.hid hgr1
      clear hown1 hgr1
      go_wp2
      go_ret
      have e : putL n = ys ++ [UInt8.ofNat m] := by rw [← HY.out, putL_small (by omega)]
      have e2 : (putL n).length = ys.length + 1 := by rw [e]; simp
      refine ⟨A', c', by rw [e2]; rfl, by rw [e]; exact HO1.out, ?_⟩
      exact (HB.out.alloc hsz _).grown HG1.out (by simp; omega) (fun k hk => (HO.out.lt k hk).1)

theorem put_below {w : World} (n : Int) (hn : n < 0) : Calls Try.prog 27 #[.int .i64 n] w fun r w' => r = .returned (.slice none 0 0) ∧ w = w' := by
  go_enter Try.func27, Try.ntmps27
  go_wp2
  go_ret
  exact ⟨rfl, rfl⟩

end Go.Proofs.Ytiainckeakhccaa
