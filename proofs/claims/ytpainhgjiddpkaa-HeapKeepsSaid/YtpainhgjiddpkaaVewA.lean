/-
  Views: numbers put into four bytes of an array, and read out of them.
-/
import Derived.Test.YtpainhgjiddpkaaRows
import Derived.Test.YtpainhgjiddpkaaVewM
import Derived.Test.YtpainhgjiddpkaaByt
import Derived.Outline
import Derived.BigQuiet
import Derived.Deep.QuietTactic
import Derived.Deep.WholeRow
import Derived.Laws.Bits64
namespace Go.Proofs.Ytpainhgjiddpkaa
set_option linter.unusedSimpArgs false
set_option linter.unusedVariables false
open Go.RowKit

/-- a piece of an array's bytes, as a slice that reads -/
theorem blk_rd {w : World} {g : Nat} {t : TypeId} {l : List UInt8} (h : Blk w g t (vb l)) (off n : Nat) (ho : off + n ≤ l.length) (hl : l.length ≤ 100000) :
    Rd w g (g + 1) (some ⟨g, off, none⟩) (l.length - off) (bv ((l.drop off).take n)) := by
  refine ⟨by rw [bv_length, List.length_take, List.length_drop]; omega, by simp only [maxLen]; omega, fun _ => ⟨g, off, rfl, Nat.le_refl _, by omega, fun j u hu => ?_⟩⟩
  rw [h.cell, ← hu]
  unfold vb
  rw [List.getElem?_toArray]
  have hj : j < n := by
    rcases Nat.lt_or_ge j n with h1 | h1
    · exact h1
    · rw [List.getElem?_eq_none (by rw [bv_length, List.length_take]; omega)] at hu; cases hu
  simp [bv, List.getElem?_take, hj]

theorem shr_byte (n k : Nat) : (n : Int) / 2 ^ (8 * k) % 256 = ((UInt8.ofNat (n / 2 ^ (8 * k))).toNat : Int) := by
  rw [UInt8.toNat_ofNat', Int.natCast_emod, Int.natCast_ediv, Int.natCast_pow]
  rfl
theorem vput_any {w : World} {g c : Nat} {t : TypeId} (l : List UInt8) (off n : Nat) (hb : Blk w g t (vb l)) (ho : off + 4 ≤ l.length) (hl : l.length ≤ 100000) (hn : n < 9223372036854775808) :
    Calls Try.prog 42 #[.slice (some ⟨g, off, none⟩) 4 c, .int .i64 (n : Int)] w fun r w' => r = .returned (.tuple #[]) ∧ Blk w' g t (vb (putL l off n)) ∧ w.grownBy w' (some g) := by
  have HB := Lib.hid hb
  clear hb
  go_enter Try.func42, Try.ntmps42
  go_wp2_with fail
  go_loopw [7] (fun i wr => ∃ k : Nat, k ≤ 4 ∧ i = .int .i64 (k : Int) ∧ Blk wr g t (vb (putK l off n k)) ∧ w.grownBy wr (some g)) (fun i _ => 4 - (intOf i).toNat)
  case atStart => exact ⟨0, by omega, rfl, by rw [putK_zero]; exact HB.out, gb_refl _ _⟩
  case round =>
    obtain ⟨k, hk, rfl, hb1, hg⟩ := hrel
    have HB1 := Lib.hid hb1
    have HG := Lib.hid hg
    by_cases hlt : k < 4
    · have hlen := putK_length (n := n) ho hk
      obtain ⟨x0, hcell⟩ : ∃ x0 : UInt8, wr.cell? ⟨g, off + k, none⟩ = some (.int .u8 (x0.toNat : Int)) := ⟨_, (hb1.cell _).trans (vb_get _ _ (by omega))⟩
      have hfr := hb1.frozen (off + k)
      have HS := Lib.hid (putK_set (n := n) ho hlt)
      clear hb1 hg hlen
      go_wp2
      go_roundw
      case rel =>
        refine ⟨k + 1, by omega, by go_num, ?_, ?_⟩
        · rw [shr_byte, ← HS.out, ← vb_set]
          exact HB1.out.put _ _
        · exact gb_setCell HG.out (.inl rfl) _
      case measure => simp [intOf]; omega
    · obtain rfl : k = 4 := by omega
      clear hb1 hg
      go_wp2
      go_end0
      exact ⟨rfl, HB1.out, HG.out⟩


/-- one byte more, or-ed into a number from the place behind it on -/
theorem or_byte (x k b : Nat) (hx : x < 256 ^ k) (hk : k < 4) (hb : b < 256) : bits .or .u32 (x : Int) ((b * 2 ^ (8 * k) % 4294967296 : Nat) : Int) = ((x + 256 ^ k * b : Nat) : Int) := by
  have hp : (256 : Nat) ^ k = 2 ^ (8 * k) := by rw [Nat.pow_mul]
  rw [hp] at hx ⊢
  have h24 : 2 ^ (8 * k) ≤ 2 ^ 24 := Nat.pow_le_pow_right (by omega) (by omega)
  have hm : b * 2 ^ (8 * k) ≤ 255 * 2 ^ 24 := Nat.mul_le_mul (by omega) h24
  rw [Nat.mod_eq_of_lt (by omega), u32_or_nat _ _ (by omega) (by omega)]
  congr 1
  have := Nat.shiftLeft_add_eq_or_of_lt hx b
  rw [Nat.shiftLeft_eq] at this
  rw [Nat.or_comm, ← this, Nat.add_comm, Nat.mul_comm]

theorem or_walk (s : Int) (x : UInt8) (k : Nat) : bits .or .u32 s ((x.toNat : Int) % 4294967296 * 2 ^ (8 * k) % 4294967296) = bits .or .u32 s ((x.toNat * 2 ^ (8 * k) % 4294967296 : Nat) : Int) := by
  have hx := UInt8.toNat_lt x
  rw [show (x.toNat : Int) % 4294967296 = (x.toNat : Int) by omega, Int.natCast_emod, Int.natCast_mul, Int.natCast_pow]
  rfl
theorem vnumber_any {w : World} {lo h' c : Nat} {A : Option Addr} (l : List UInt8) (h : Rd w lo h' A c (bv l)) (hl : l.length ≤ 4) :
    Calls Try.prog 36 #[.slice A l.length c] w fun r w' => r = .returned (.int .u32 (num l : Int)) ∧ w = w' := by
  have H := Lib.hid h
  clear h
  go_enter Try.func36, Try.ntmps36
  go_wp2_with fail
  go_loop [3, 8] (fun s i => ∃ k : Nat, k ≤ l.length ∧ i = .int .i64 (k : Int) ∧ s = .int .u32 (num (l.take k) : Int)) (fun _ i => l.length - (intOf i).toNat)
  case atStart => exact ⟨0, by omega, rfl, rfl⟩
  case round =>
    obtain ⟨k, hk, rfl, rfl⟩ := hrel
    by_cases hlt : k < l.length
    · obtain ⟨b, off, rfl, _, _, hcell⟩ := H.out.byte hlt
      have HN := Lib.hid (num_take hlt)
      have hor := or_byte (num (l.take k)) k l[k].toNat (by have := num_lt (l.take k); rwa [List.length_take, Nat.min_eq_left hk] at this) (by omega) (UInt8.toNat_lt _)
      generalize l[k] = x at *
      generalize num (l.take k) = s at *
      go_wp2
      go_round
      case rel => exact ⟨k + 1, by omega, by go_num, by rw [or_walk, hor, HN.out]⟩
      case measure => simp [intOf]; omega
    · obtain rfl : k = l.length := by omega
      rw [List.take_length]
      go_wp2
      go_ret
      exact ⟨rfl, rfl⟩

end Go.Proofs.Ytpainhgjiddpkaa
