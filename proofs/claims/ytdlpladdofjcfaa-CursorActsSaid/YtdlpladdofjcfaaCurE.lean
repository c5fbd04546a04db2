/-
  Put and PutText.
-/
import Derived.Test.YtdlpladdofjcfaaCurA
namespace Go.Proofs.Ytdlpladdofjcfaa
set_option linter.unusedSimpArgs false
set_option linter.unusedVariables false
open Go.RowKit

/-- the varint of a number -/
def putL (n : Nat) : List UInt8 :=
  if h : n < 128 then [UInt8.ofNat n] else UInt8.ofNat (n % 128 + 128) :: putL (n / 128)
termination_by n
decreasing_by omega

theorem putL_small {n : Nat} (h : n < 128) : putL n = [UInt8.ofNat n] := by rw [putL, dif_pos h]
theorem putL_big {n : Nat} (h : 128 ≤ n) : putL n = UInt8.ofNat (n % 128 + 128) :: putL (n / 128) := by rw [putL, dif_neg (by omega)]

theorem putL_le (k : Nat) : ∀ n : Nat, n < 128 ^ (k + 1) → (putL n).length ≤ k + 1 := by
  induction k with
  | zero => intro n h; rw [putL_small (by simpa using h)]; simp
  | succ k ih =>
    intro n h
    by_cases hn : n < 128
    · rw [putL_small hn]; simp
    · rw [putL_big (by omega)]
      have := ih (n / 128) (by rw [Nat.pow_succ] at h; omega)
      simp only [List.length_cons]
      omega
theorem putL_pos (n : Nat) : 0 < (putL n).length := by
  by_cases hn : n < 128
  · rw [putL_small hn]; simp
  · rw [putL_big (by omega)]; simp
theorem putL_nine (n : Nat) (h : n ≤ 9223372036854775807) : (putL n).length ≤ 9 := putL_le 8 n (by omega)

theorem or128 : ∀ x : Fin 256, x.val ||| 128 = x.val % 128 + 128 := by decide +kernel
theorem or_more (m : Nat) : bits .or .u8 ((m : Int) % 256) 128 = ((UInt8.ofNat (m % 128 + 128)).toNat : Int) := by
  have h1 : bits .or .u8 ((m % 256 : Nat) : Int) ((128 : Nat) : Int) = ((m % 256 ||| 128 : Nat) : Int) := u8_or_nat _ _ (by omega) (by omega)
  have h2 := or128 ⟨m % 256, by omega⟩
  simp only [] at h2
  have h3 : (UInt8.ofNat (m % 128 + 128)).toNat = m % 128 + 128 := by rw [UInt8.toNat_ofNat']; omega
  rw [h3, show m % 128 + 128 = m % 256 % 128 + 128 from by omega, ← h2, ← h1, Int.natCast_emod]
  rfl

set_option maxRecDepth 20000 in
theorem put_any {w : World} (n : Nat) (hn : n ≤ 9223372036854775807) :
    Calls Try.prog 9 #[.int .i64 (n : Int)] w fun r w' => ∃ A c, r = .returned (.slice A (putL n).length c) ∧ w'.ownsRow w.heap.size 5 1 (.slice A (putL n).length c) (putL n).length (bv (putL n)) ∧ Below w.heap.size w w' := by
  have h9 := putL_nine n hn
  go_enter Try.func9, Try.ntmps9
  go_wp2_with fail
  go_loopw [0, 3] (fun i v wr => ∃ (m : Nat) (ys : List UInt8) (A : Option Addr) (c : Nat), m ≤ n ∧ i = .int .i64 (m : Int) ∧ v = .slice A ys.length c ∧ ys ++ putL m = putL n ∧ wr.ownsRow w.heap.size 5 1 (.slice A ys.length c) ys.length (bv ys) ∧ Below w.heap.size w wr) (fun i _ _ => (intOf i).toNat)
  case atStart => exact ⟨n, [], none, 0, by omega, rfl, rfl, rfl, World.ownsRow_nil .., Below.refl _ _⟩
  case round =>
    obtain ⟨m, ys, A, c, hm, rfl, rfl, hys, hown, hbel⟩ := hrel
    have hl : ys.length + 1 ≤ 9 := by
      have h1 := congrArg List.length hys
      have h2 := putL_pos m
      rw [List.length_append] at h1
      omega
    have HO := Lib.hid hown
    have HY := Lib.hid hys
    have HB := Lib.hid hbel
    have hsz := hbel.size
    clear hown hys hbel
    by_cases hlt : 128 ≤ m
    · have HA := Lib.hid (or_more m)
      go_wp2_with (at_builtin; refine wpList_push (v := .slice A ys.length c) w.heap.size ys (UInt8.ofNat (m % 128 + 128)) rfl _ _ rfl rfl rfl rfl (by rw [HA.out, World.cell?_alloc_at _ _ _ _ rfl]; rfl) (HO.out.alloc _) (by omega) (by simp; omega) ?_; intro A' c' w1 hown1 hgr1)
      have HO1 := Lib.hid hown1
      have HG1 := Lib.hid hgr1
      clear hown1 hgr1
      go_wp2
      go_roundw
      case rel =>
        refine ⟨m / 128, ys ++ [UInt8.ofNat (m % 128 + 128)], A', c', by omega, by go_num, by simp, ?_, HO1.out, ?_⟩
        · rw [← HY.out, putL_big hlt]; simp
        · exact (HB.out.alloc hsz _).grown HG1.out (by simp; omega) (fun k hk => (HO.out.lt k hk).1)
      case measure => simp [intOf]; omega
    · have HA : Hid ((UInt8.ofNat m).toNat = m) := by
        unfold Hid
        rw [UInt8.toNat_ofNat']; omega
      go_wp2_with (at_builtin; refine wpList_push (v := .slice A ys.length c) w.heap.size ys (UInt8.ofNat m) rfl _ _ rfl rfl rfl rfl (by rw [HA.out, World.cell?_alloc_at _ _ _ _ rfl]; first | rfl | (simp; omega)) (HO.out.alloc _) (by omega) (by simp; omega) ?_; intro A' c' w1 hown1 hgr1)
      have HO1 := Lib.hid hown1
      have HG1 := Lib.hid hgr1
      clear hown1 hgr1
      go_wp2
      go_ret
      have e : putL n = ys ++ [UInt8.ofNat m] := by rw [← HY.out, putL_small (by omega)]
      have e2 : (putL n).length = ys.length + 1 := by rw [e]; simp
      refine ⟨A', c', by rw [e2]; rfl, by rw [e]; exact HO1.out, ?_⟩
      exact (HB.out.alloc hsz _).grown HG1.out (by simp; omega) (fun k hk => (HO.out.lt k hk).1)

theorem put_below {w : World} (n : Int) (hn : n < 0) : Calls Try.prog 9 #[.int .i64 n] w fun r w' => r = .returned (.slice none 0 0) ∧ w = w' := by
  go_enter Try.func9, Try.ntmps9
  go_wp2
  go_ret
  exact ⟨rfl, rfl⟩

/-- append of a string's bytes onto bytes of the call's own -/
theorem append_string (w : World) (base : Nat) (v : Value) (ys : List UInt8) (s : ByteArray) (hown : w.ownsRow base 5 1 v ys.length (bv ys))
    (hb : ys.length + s.size ≤ 140737488355328) (hbase : base ≤ w.heap.size) :
    ∃ A' c' w', (Builtin.append_ #[24, 9] 24 #[v, .string s]).run Try.prog w = .ok (.slice A' (ys.length + s.size) c') w' ∧
      w'.ownsRow base 5 1 (.slice A' (ys.length + s.size) c') (ys.length + s.size) (bv (ys ++ s.data.toList)) ∧ w.grownBy w' v.ownBlock := by
  obtain ⟨i0, hi0, hz0, hz1, hz2⟩ := info_parts Try.infoU8
  obtain ⟨v', w', hrun, h2, h3, _⟩ := Lib.run_append_own_string (P := Try.prog) w base 24 9 24 5 i0 Try.underlying24 Try.underlying9 hi0 hz0 hz1 hz2 v ys.length (bv ys) hown s (by simp only [maxLen]; omega) hb hbase
  obtain ⟨A', c', rfl, _⟩ := own_form w' h2
  exact ⟨A', c', w', hrun, by rw [bv_append]; exact h2, h3⟩

/-- the bytes of a text -/
def textL (s : List UInt8) : List UInt8 := putL s.length ++ s

theorem putText_any {w : World} (s : ByteArray) (hs : s.size ≤ 100000) :
    Calls Try.prog 11 #[.string s] w fun r w' => ∃ A c, r = .returned (.slice A (textL s.data.toList).length c) ∧ w'.ownsRow w.heap.size 5 1 (.slice A (textL s.data.toList).length c) (textL s.data.toList).length (bv (textL s.data.toList)) ∧ Below w.heap.size w w' := by
  have h9 := putL_nine s.size (by omega)
  go_enter Try.func11, Try.ntmps11
  go_wp2_with fail
  refine (put_any s.size (by omega)).mono ?_
  rintro r w1 ⟨A, c, rfl, hown, hbel⟩
  obtain ⟨A', c', w2, hrun, hown2, hg2⟩ := append_string w1 w.heap.size _ _ s hown (by omega) hbel.size
  have HO := Lib.hid hown
  have HO2 := Lib.hid hown2
  have HG2 := Lib.hid hg2
  have HB := Lib.hid hbel
  clear hown hown2 hg2 hbel
  go_wp2_with (at_builtin; refine wpList_append_run rfl _ _ _ _ rfl rfl rfl hrun ?_)
  go_ret
  have e : (textL s.data.toList).length = (putL s.size).length + s.size := by simp [textL]
  refine ⟨A', c', by rw [e]; rfl, by rw [e]; exact HO2.out, ?_⟩
  exact HB.out.grown HG2.out HB.out.size (fun k hk => (HO.out.lt k hk).1)
end Go.Proofs.Ytdlpladdofjcfaa
