/-
  The bitmap's Put and Write.
-/
import Derived.Test.YtiainckeakhccaaBmB
import Derived.Test.YtiainckeakhccaaByt
import Derived.Test.YtiainckeakhccaaCurE
import Derived.StillTailTactics
import Derived.Laws.BitsAll
namespace Go.Proofs.Ytiainckeakhccaa
set_option linter.unusedSimpArgs false
set_option linter.unusedVariables false
open Go.RowKit

theorem bytesN_zero (s : Nat) : bv (bytesN s 0) = List.replicate s (.int .u8 0) := by
  induction s with
  | zero => rfl
  | succ s ih =>
    rw [bytesN, List.replicate_succ, ← ih]
    rfl
theorem make_zeros (w : World) (n : Nat) (h : n ≤ 281474976710656) : ∃ w1, (Instr.makeSlice 25 (.int .i64 (n : Int)) (.int .i64 (n : Int))).run Try.prog w = .ok (.slice (some ⟨w.heap.size, 0, none⟩) n n) w1 ∧
    w1.ownsRow w.heap.size 5 1 (.slice (some ⟨w.heap.size, 0, none⟩) n n) n (bv (bytesN n 0)) ∧ w.grownBy w1 none := by
  obtain ⟨i0, hi0, hz0, hz1, hz2⟩ := info_parts Try.infoU8
  have := run_make_full (P := Try.prog) w w.heap.size 25 5 i0 _ 1 Try.underlying25 hi0 hz0 hz1 .i64 .i64 n (by rw [hz2]; omega) (by simp only [maxLen]; omega) (Nat.le_refl _)
  rw [Nat.mul_one, show (Value.int .u8 0).cells = #[.int .u8 0] from rfl, toList_madeCells_one, ← bytesN_zero] at this
  exact this

theorem or_bit (x r : Nat) (hr : r < 8) (hx : x < 2 ^ r) : bits .or .u8 (x : Int) (2 ^ r % 256) = ((x + 2 ^ r : Nat) : Int) := by
  have hp : 2 ^ r ≤ 2 ^ 7 := Nat.pow_le_pow_right (by omega) (by omega)
  have e2 : (2 : Int) ^ r = ((2 ^ r : Nat) : Int) := by norm_cast
  rw [e2, show ((2 ^ r : Nat) : Int) % 256 = ((2 ^ r : Nat) : Int) by omega, u8_or_nat _ _ (by omega) (by omega)]
  congr 1
  have := Nat.shiftLeft_add_eq_or_of_lt hx 1
  rw [Nat.shiftLeft_eq, Nat.one_mul] at this
  rw [Nat.or_comm, ← this, Nat.add_comm]

set_option maxHeartbeats 400000 in
theorem bput_any {w : World} (l : List Bool) {h' : Nat} {A : Option Addr} {c : Nat} (h : Rd w 0 h' A c (lv l)) (hh : h' ≤ w.heap.size) (hlen : l.length ≤ 140737488355328) :
    Calls Try.prog 10 #[.slice A l.length c] w fun r w' => ∃ A' c', r = .returned (.slice A' (packB l).length c') ∧
      w'.ownsRow w.heap.size 5 1 (.slice A' (packB l).length c') (packB l).length (bv (packB l)) ∧ Below w.heap.size w w' := by
  have hl := h.len
  have hc := h.cap
  rw [lv_length] at hl
  unfold maxLen at hc
  rw [packB_length]
  obtain ⟨s, hs⟩ : ∃ s, (l.length + 7) / 8 = s := ⟨_, rfl⟩
  have HP : Hid (packB l = bytesN s (bsum l l.length)) := by unfold Hid packB; rw [hs]
  rw [hs]
  obtain ⟨w1, hmake, ho1, hg1⟩ := make_zeros w s (by omega)
  have hb1 : Below w.heap.size w w1 := (Below.refl _ _).grown hg1 (Nat.le_refl _) (by simp)
  have HSZ := Lib.hid (bsize_any (w := w) l.length s (by omega) hs)
  have hs8 : l.length ≤ 8 * s := by omega
  have hsb : s ≤ 140737488355328 := by omega
  have HO1 := Lib.hid ho1
  have HB1 := Lib.hid hb1
  have H := Lib.hid h
  clear h ho1 hg1 hb1 hs
  go_enter Try.func10, Try.ntmps10
  go_wp2_with fail
  refine HSZ.out.mono ?_
  rintro r w' ⟨rfl, rfl⟩
  go_wp2_with fail
  go_loopw [12] (fun i wr => ∃ (k : Nat), k ≤ l.length ∧ i = .int .i64 (k : Int) ∧
      wr.ownsRow w.heap.size 5 1 (.slice (some ⟨w.heap.size, 0, none⟩) s s) s (bv (bytesN s (bsum l k))) ∧ Below w.heap.size w wr) (fun i _ => l.length - (intOf i).toNat)
  case atStart => exact ⟨0, Nat.zero_le _, rfl, HO1.out, HB1.out⟩
  case round =>
    obtain ⟨k, hk, rfl, ho, hb⟩ := hrel
    have HO := Lib.hid ho
    have HB := Lib.hid hb
    clear ho hb
    by_cases hlt : k < l.length
    · obtain ⟨b, off, rfl, _, hbh, hcell⟩ := (H.out.below HB.out hh).row hlt
      cases hx : l[k]
      · have HN := Lib.hid (bsum_no l k hlt hx)
        rw [hx] at hcell
        clear hx
        go_wp2
        go_roundw
        case rel => exact ⟨k + 1, by omega, by go_num, by rw [HN.out]; exact HO.out, HB.out⟩
        case measure => simp [intOf]; omega
      · have hks : k / 8 < s := by omega
        have hkl : k / 8 < (bytesN s (bsum l k)).length := by rw [bytesN_length]; exact hks
        obtain ⟨x0, hx0⟩ : ∃ x0, (bytesN s (bsum l k))[k / 8]? = some x0 := ⟨_, List.getElem?_eq_getElem hkl⟩
        obtain ⟨hx1, hx2, hx3⟩ := bytesN_bit s k (bsum l k) hks (bsum_lt l k hk) x0 hx0
        rw [← bsum_yes l k hlt hx] at hx3
        have HN := Lib.hid hx3
        rw [hx] at hcell
        have hor := or_bit x0.toNat (k % 8) (Nat.mod_lt _ (by decide)) hx1
        have hload : wr.drew.cell? ⟨w.heap.size, k / 8, none⟩ = some (.int .u8 (x0.toNat : Int)) := by
          have h1 := HO.out.cellAt (k / 8) (by omega)
          have h2 : (bv (bytesN s (bsum l k)))[k / 8]? = some (.int .u8 (x0.toNat : Int)) := by simp [bv, hx0]
          exact h1.trans h2
        have hfr : wr.drew.frozen? ⟨w.heap.size, k / 8, none⟩ = false := HO.out.frozenAt (k / 8)
        have hbn : (UInt8.ofNat (x0.toNat + 2 ^ (k % 8))).toNat = x0.toNat + 2 ^ (k % 8) := by rw [UInt8.toNat_ofNat']; omega
        have hbs : bv (bytesN s (bsum l (k + 1))) = (bv (bytesN s (bsum l k))).set (k / 8) (.int .u8 ((x0.toNat + 2 ^ (k % 8) : Nat) : Int)) := by
          rw [hx3, bv_set, hbn]
        have hst := World.ownsRow.stored (w := wr.drew) HO.out (k / 8) (.int .u8 ((x0.toNat + 2 ^ (k % 8) : Nat) : Int))
        rw [← hbs] at hst
        have HST := Lib.hid hst
        have HB3 : Hid (Below w.heap.size w wr.drew) := below_drewN' HB.out 1
        have hn8 : (k : Int) / 8 = ((k / 8 : Nat) : Int) := by omega
        have hn8' : (k : Int) % 8 = ((k % 8 : Nat) : Int) := by omega
        have hn8t : (k : Int).tmod 8 = ((k % 8 : Nat) : Int) := by rw [Int.tmod_eq_emod_of_nonneg (by omega)]; omega
        have hr8 : k % 8 < 8 := Nat.mod_lt _ (by decide)
        clear hx hx0 hx3 hbn hbs hst hkl
        go_wp2_with fail
        refine wp_region_still_tail 9 (by kernel_rfl) (by kernel_rfl) ?_
        change wpStill _ _ wr.drew (fun a' => wpList _ _ _ _ a' wr.drew) _ _
        generalize wr.drew = w4 at *
        generalize k / 8 = q at *
        generalize k % 8 = r at *
        simp only [List.take_succ_cons, List.take_zero, List.drop_succ_cons, List.drop_zero]
        have hqw : IntKind.i64.wrap (q : Int) = (q : Int) := IntWalk.i64_in _ (by omega)
        have hrw : IntKind.i64.wrap (r : Int) = (r : Int) := IntWalk.i64_in _ (by omega)
        repeat still_step
        refine wpStill_nil ?_
        go_wp2
        go_roundw
        case rel =>
          rw [show (x0.toNat : Int) + 2 ^ r = ((x0.toNat + 2 ^ r : Nat) : Int) by push_cast; rfl]
          exact ⟨k + 1, by omega, by go_num, HST.out.1, below_some HB3.out HST.out.2 HB3.out.size (Nat.le_refl _)⟩
        case measure => simp [intOf] <;> omega
    · obtain rfl : k = l.length := by omega
      go_wp2
      go_ret
      rw [HP.out]
      exact ⟨_, _, rfl, HO.out, HB.out⟩

/-- Write -/
theorem bwrite_any {w : World} (l : List Bool) {h' : Nat} {A : Option Addr} {c : Nat} (h : Rd w 0 h' A c (lv l)) (hh : h' ≤ w.heap.size) (hlen : l.length ≤ 140737488355328) :
    Calls Try.prog 12 #[.slice A l.length c] w fun r w' => ∃ A' c', r = .returned (.slice A' (writeB l).length c') ∧
      w'.ownsRow w.heap.size 5 1 (.slice A' (writeB l).length c') (writeB l).length (bv (writeB l)) ∧ Below w.heap.size w w' := by
  have HE : Hid (putL l.length ++ packB l = writeB l) := rfl
  have h9 := putL_nine l.length (by omega)
  have hpl : (packB l).length ≤ 140737488355328 / 8 + 1 := by rw [packB_length]; omega
  have HP := fun (w1 : World) (h : Rd w1 0 h' A c (lv l)) (hh : h' ≤ w1.heap.size) => Lib.hid (bput_any (w := w1) (A := A) (c := c) l h hh hlen)
  have H := Lib.hid h
  have hl := h.len
  have hc := h.cap
  rw [lv_length] at hl
  unfold maxLen at hc
  clear h
  generalize packB l = pk at *
  go_enter Try.func12, Try.ntmps12
  go_wp2_with fail
  refine (put_any l.length (by omega)).mono ?_
  rintro r w1 ⟨A1, c1, rfl, ho1, hb1⟩
  have HO1 := Lib.hid ho1
  have HB1 := Lib.hid hb1
  have s1 := hb1.size
  clear ho1 hb1
  generalize putL l.length = pl at *
  go_wp2_with fail
  refine (HP w1 (H.out.below HB1.out hh) (by omega)).out.mono ?_
  rintro r w2 ⟨A2, c2, rfl, ho2, hb2⟩
  have HO2 := Lib.hid ho2
  have HB2 := Lib.hid (below_below HB1.out hb2 s1)
  have s2 := hb2.size
  obtain ⟨A3, c3, w3, hrun3, ho3, hg3⟩ := append_named w2 w.heap.size _ pl pk (writeB l) HE.out (own_below HO1.out hb2 (Nat.le_refl _)) (Rd.own ho2) (by omega) (by omega)
  have HO3 := Lib.hid ho3
  have HB3 := Lib.hid (HB2.out.grown hg3 HB2.out.size (fun k hk => own_row HO1.out k hk))
  clear ho2 hb2 ho3 hg3
  go_wp2_with (at_builtin; refine wpList_append_run rfl _ _ _ _ rfl rfl rfl hrun3 ?_)
  go_ret
  exact ⟨A3, c3, rfl, HO3.out, HB3.out⟩
end Go.Proofs.Ytiainckeakhccaa
