/-
  The text package: the bytes of points.
-/
import Derived.Test.YtbbpfehfceapbaaDoorTxF
import Derived.Test.YtbbpfehfceapbaaDoorRefZ
namespace Go.Proofs.YtbbpfehfceapbaaDoor
set_option linter.unusedSimpArgs false
set_option linter.unusedVariables false
open Go.RowKit

/-- a point that a string may have -/
def PtOk (p : Nat) : Prop := p ≤ 1114367 ∧ ¬ (55296 ≤ p ∧ p ≤ 57343)
theorem ptN_ok (n b0 b1 b2 b3 : Nat) (h0 : b0 < 256) : PtOk (ptN n b0 b1 b2 b3).1 := by
  refine ⟨ptN_le n b0 b1 b2 b3 h0, ?_⟩
  unfold ptN tailN
  repeat' split
  all_goals (simp only; omega)
theorem ptL_ok (l : List UInt8) : PtOk (ptL l).1 := ptN_ok _ _ _ _ _ (byt_lt _ _)
theorem pts_ok : ∀ l, ∀ p ∈ ptsL l, PtOk p := pts_ind (P := fun l => ∀ p ∈ ptsL l, PtOk p) (fun p h => absurd h (by rw [ptsL_nil]; exact List.not_mem_nil)) fun l hl ih p hp => by
  rw [ptsL_cons hl] at hp
  rcases List.mem_cons.1 hp with rfl | h
  · exact ptL_ok l
  · exact ih p h
theorem ofZ (x : Int) (n : Nat) (h : x.toNat = n) : x.toNat.toUInt8 = UInt8.ofNat n := by rw [h]
theorem encodeRune_enc {p : Nat} (h : PtOk p) (h2 : p ≤ 1114111) : Lib.encodeRune (p : Int) = encL p := by
  obtain ⟨h1, h3⟩ := h
  unfold Lib.encodeRune encL
  split
  · rw [Lib.encodeRuneZ_one (by omega) (by omega)]
    simp only [List.map_cons, List.map_nil]
    rw [ofZ _ p (by omega)]
  · split
    · rw [Lib.encodeRuneZ_two (by omega) (by omega)]
      simp only [List.map_cons, List.map_nil]
      rw [ofZ _ (192 + p / 64) (by omega), ofZ _ (128 + p % 64) (by omega)]
    · split
      · rw [Lib.encodeRuneZ_three (by omega)]
        simp only [List.map_cons, List.map_nil]
        rw [ofZ _ (224 + p / 4096) (by omega), ofZ _ (128 + p / 64 % 64) (by omega), ofZ _ (128 + p % 64) (by omega)]
      · rw [if_pos (by omega), Lib.encodeRuneZ_four (by omega) (by omega)]
        simp only [List.map_cons, List.map_nil]
        rw [ofZ _ (240 + p / 262144) (by omega), ofZ _ (128 + p / 4096 % 64) (by omega), ofZ _ (128 + p / 64 % 64) (by omega), ofZ _ (128 + p % 64) (by omega)]
theorem enc_len (p : Nat) : (encL p).length ≤ 4 := by
  unfold encL
  repeat' split
  all_goals simp
theorem bytL_take {ns : List Nat} {k : Nat} (h : k < ns.length) : bytL (ns.take (k + 1)) = bytL (ns.take k) ++ encL ns[k] := by
  rw [List.take_succ_eq_append_getElem h]
  unfold bytL
  rw [List.flatMap_append, List.flatMap_cons, List.flatMap_nil, List.append_nil]
theorem valid_yes {w : World} {p : Nat} (h : PtOk p) (h2 : p ≤ 1114111) :
    Calls Tryd.prog 26 #[.int .i32 (p : Int)] w fun e w' => e = .returned (.bool true) ∧ w' = w := by
  obtain ⟨h1, h3⟩ := h
  refine (valid_any (p : Int)).mono ?_
  rintro r w' ⟨rfl, rfl⟩
  refine ⟨?_, rfl⟩
  rw [show Lib.validRune (p : Int) = true by simp only [Lib.validRune, decide_eq_true_eq]; omega]

set_option maxRecDepth 20000 in
set_option maxHeartbeats 2000000 in
theorem bytes_any {w : World} (ns : List Nat) {lo hi c : Nat} {A : Option Addr} (hr : Rd w lo hi A c (iv (ints ns))) (hhi : hi ≤ w.heap.size) (hn : ns.length ≤ 1000000) (hok : ∀ p ∈ ns, PtOk p) :
    Calls Tryd.prog 14 #[.slice A ns.length c] w fun r w' => r = .returned (.string ⟨(bytL ns).toArray⟩) ∧ Below w.heap.size w w' := by
  have HOK : Hid (∀ k (h : k < ns.length), PtOk ns[k]) := fun k h => hok _ (List.getElem_mem h)
  have HR := Lib.hid hr
  have HB0 : Hid (Below w.heap.size w (w.alloc (.cells #[.pointer none, .slice none 0 0] 42))) := (Below.refl _ w).alloc (Nat.le_refl _) _
  clear hok hr
  go_enter Tryd.func14, Tryd.ntmps14
  go_wp2_with fail
  go_loopw [8] (fun x8 wr => ∃ (k : Nat) (ys : List UInt8), k ≤ ns.length ∧ x8 = .int .i64 (k : Int) ∧ ys.length ≤ 4 * k ∧ ys = bytL (ns.take k) ∧ Bld w.heap.size w.heap.size ys wr ∧ Below w.heap.size w wr) (fun i _ => ns.length - (intOf i).toNat)
  case atStart => exact ⟨0, [], Nat.zero_le _, rfl, Nat.zero_le _, by simp [bytL], fresh, HB0.out⟩
  case round =>
    obtain ⟨k, ys, hk, rfl, hyl, hys, hbl, hb⟩ := hrel
    have HYS := Lib.hid hys
    have hsz := hb.size
    have HBL := Lib.hid hbl
    have HB := Lib.hid hb
    clear hys hbl hb
    by_cases hlt : k < ns.length
    · have ik : (k : Int) < (ns.length : Int) := by omega
      have HTK := Lib.hid (bytL_take hlt)
      have hpo := HOK.out k hlt
      have hel := enc_len ns[k]
      obtain ⟨b, off, rfl, hc⟩ := rd_pt (HR.out.below HB.out hhi) hlt
      generalize ns[k] = p at *
      by_cases h1 : 1114112 ≤ p
      · have h2 : p ≤ 1114367 := hpo.1
        obtain ⟨q, rfl⟩ : ∃ q, p = 1114112 + q := ⟨p - 1114112, by omega⟩
        have hq : q < 256 := by omega
        have hen : encL (1114112 + q) = [UInt8.ofNat q] := by unfold encL; rw [if_neg (by omega), if_neg (by omega), if_neg (by omega), if_neg (by omega)]; simp
        have HEN := Lib.hid hen
        have HWB : Hid (Calls Tryd.prog 25 #[.pointer (some ⟨w.heap.size, 0, none⟩), .int .u8 (1114112 + (q : Int) - 1114112)] wr fun e w' => e = .returned .nilIface ∧ Bld w.heap.size w.heap.size (ys ++ [UInt8.ofNat q]) w' ∧ Below w.heap.size wr w' ∧ Kept w.heap.size wr w') := by
          have := write_byte (w := wr) w.heap.size w.heap.size ys (UInt8.ofNat q) HBL.out (by omega) hsz
          rw [show (UInt8.ofNat q).toNat = q by simp; omega] at this
          rw [show 1114112 + (q : Int) - 1114112 = q by omega]
          exact this
        clear hen hpo
        go_wp2_with fail
        refine HWB.out.mono ?_
        rintro r w2 ⟨rfl, hbl2, hb2, _⟩
        go_wp2_with fail
        go_roundw
        case rel => exact ⟨k + 1, ys ++ [UInt8.ofNat q], by omega, by go_num, by rw [List.length_append, List.length_cons, List.length_nil]; omega, by rw [HTK.out, HEN.out, ← HYS.out], hbl2, HB.out.trans hb2⟩
        case measure => simp [intOf]; omega
      · have h2 : p ≤ 1114111 := by omega
        have HVY := Lib.hid (fun w => valid_yes (w := w) hpo h2)
        have HWR : Hid (Calls Tryd.prog 27 #[.pointer (some ⟨w.heap.size, 0, none⟩), .int .i32 (p : Int)] wr fun e w' => e = .returned (.tuple #[.int .i64 (Lib.runeCells p).length, .nilIface]) ∧ Bld w.heap.size w.heap.size (ys ++ encL p) w' ∧ Below w.heap.size wr w' ∧ Kept w.heap.size wr w') := by
          have := write_rune (w := wr) w.heap.size w.heap.size ys (p : Int) (by omega) (by omega) HBL.out (by omega) hsz
          rw [encodeRune_enc hpo h2] at this
          exact this
        clear hpo
        go_wp2_with fail
        refine (HVY.out _).mono ?_
        rintro r w2 ⟨rfl, rfl⟩
        go_wp2_with fail
        refine HWR.out.mono ?_
        rintro r w2 ⟨rfl, hbl2, hb2, _⟩
        go_wp2_with fail
        go_roundw
        case rel => exact ⟨k + 1, ys ++ encL p, by omega, by go_num, by rw [List.length_append]; omega, by rw [HTK.out, ← HYS.out], hbl2, HB.out.trans hb2⟩
        case measure => simp [intOf]; omega
    · obtain rfl : k = ns.length := by omega
      have hfull : ys = bytL ns := by rw [HYS.out, List.take_length]
      have HFU := Lib.hid hfull
      clear hfull
      go_wp2_with fail
      refine (built w.heap.size w.heap.size ys HBL.out hsz).mono ?_
      rintro r w2 ⟨rfl, hb2⟩
      go_wp2_with fail
      go_ret
      exact ⟨by rw [← HFU.out]; rfl, HB.out.trans hb2⟩
end Go.Proofs.YtbbpfehfceapbaaDoor
