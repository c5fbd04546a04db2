/-
  The bitmap's size.
  The bitmap's Put and Write.
  The bitmap's Read.
-/
import Derived.Test.YtepgkdmfoojppaaRows
import Derived.Test.YtepgkdmfoojppaaBitM
import Derived.Test.YtepgkdmfoojppaaSamB
import Derived.Outline
import Derived.BigQuiet
import Derived.Deep.QuietTactic
import Derived.Test.YtepgkdmfoojppaaBoolB
import Derived.Laws.OwnMore
import Derived.Test.YtepgkdmfoojppaaByt
import Derived.Test.YtepgkdmfoojppaaCurE
import Derived.StillTailTactics
import Derived.Laws.BitsAll
import Derived.Test.YtepgkdmfoojppaaMgC
namespace Go.Proofs.Ytepgkdmfoojppaa
set_option linter.unusedSimpArgs false
set_option linter.unusedVariables false
open Go.RowKit

theorem bsize_any {w : World} (n s : Nat) (h : n ≤ 9223372036854775807) (hs : (n + 7) / 8 = s) :
    Calls Try.prog 73 #[.int .i64 (n : Int)] w fun r w' => r = .returned (.int .i64 (s : Int)) ∧ w = w' := by
  have h1 : Hid ((n : Int) / 8 + ((n : Int) % 8 + 8 - 1) / 8 = (s : Int)) := by unfold Hid; omega
  clear hs
  go_enter Try.func73, Try.ntmps73
  go_wp2
  go_ret
  exact ⟨ret_int' (by rw [← h1.out]), rfl⟩
end Go.Proofs.Ytepgkdmfoojppaa
namespace Go.Proofs.Ytepgkdmfoojppaa
set_option linter.unusedSimpArgs false
set_option linter.unusedVariables false
open Go.RowKit

theorem bytesN_zero (s : Nat) : bv (bytesN s 0) = List.replicate s (.int .u8 0) := by
  induction s with
  | zero => rfl
  | succ s ih =>
    rw [bytesN, List.replicate_succ, ← ih]
    rfl
theorem make_zeros (w : World) (n : Nat) (h : n ≤ 281474976710656) : ∃ w1, (Instr.makeSlice 45 (.int .i64 (n : Int)) (.int .i64 (n : Int))).run Try.prog w = .ok (.slice (some ⟨w.heap.size, 0, none⟩) n n) w1 ∧
    w1.ownsRow w.heap.size 5 1 (.slice (some ⟨w.heap.size, 0, none⟩) n n) n (bv (bytesN n 0)) ∧ w.grownBy w1 none := by
  obtain ⟨i0, hi0, hz0, hz1, hz2⟩ := info_parts Try.infoU8
  have := run_make_full (P := Try.prog) w w.heap.size 45 5 i0 _ 1 Try.underlying45 hi0 hz0 hz1 .i64 .i64 n (by rw [hz2]; omega) (by simp only [maxLen]; omega) (Nat.le_refl _)
  rw [Nat.mul_one, show (Value.int .u8 0).cells = #[.int .u8 0] from rfl, toList_madeCells_one, ← bytesN_zero] at this
  exact this

theorem or_bit (x r : Nat) (hr : r < 8) (hx : x < 2 ^ r) : bits .or .u8 (x : Int) (2 ^ r % 256) = ((x + 2 ^ r : Nat) : Int) := by
  have hp : 2 ^ r ≤ 2 ^ 7 := Nat.pow_le_pow_right (by omega) (by omega)
  have e2 : (2 : Int) ^ r = ((2 ^ r : Nat) : Int) := by norm_cast
  rw [e2, show ((2 ^ r : Nat) : Int) % 256 = ((2 ^ r : Nat) : Int) by omega, u8_or_nat _ _ (by omega) (by omega)]
  congr 1
  have := Nat.shiftLeft_add_eq_or_of_lt hx 1
  rw [Nat.shiftLeft_eq, Nat.one_mul] at this
  rw [Nat.or_comm, ← this, Nat.add_comm]

set_option maxRecDepth 20000 in
set_option maxHeartbeats 800000 in
theorem bput_any {w : World} (l : List Bool) {h' : Nat} {A : Option Addr} {c : Nat} (h : Rd w 0 h' A c (lv l)) (hh : h' ≤ w.heap.size) (hlen : l.length ≤ 140737488355328) :
    Calls Try.prog 54 #[.slice A l.length c] w fun r w' => ∃ A' c', r = .returned (.slice A' (packB l).length c') ∧
      w'.ownsRow w.heap.size 5 1 (.slice A' (packB l).length c') (packB l).length (bv (packB l)) ∧ Below w.heap.size w w' := by
  have hl := h.len
  have hc := h.cap
  rw [lv_length] at hl
  unfold maxLen at hc
  rw [packB_length]
  obtain ⟨s, hs⟩ : ∃ s, (l.length + 7) / 8 = s := ⟨_, rfl⟩
  have HP : Hid (packB l = bytesN s (bsum l l.length)) := by unfold Hid packB; rw [hs]
  rw [hs]
  obtain ⟨w1, hmake, ho1, hg1⟩ := make_zeros w s (by omega)
  have hb1 : Below w.heap.size w w1 := (Below.refl _ _).grown hg1 (Nat.le_refl _) (by simp)
  have HSZ := Lib.hid (bsize_any (w := w) l.length s (by omega) hs)
  have hs8 : l.length ≤ 8 * s := by omega
  have hsb : s ≤ 140737488355328 := by omega
  have HO1 := Lib.hid ho1
  have HB1 := Lib.hid hb1
  have H := Lib.hid h
  clear h ho1 hg1 hb1 hs
  go_enter Try.func54, Try.ntmps54
  go_wp2_with fail
  refine HSZ.out.mono ?_
  rintro r w' ⟨rfl, rfl⟩
  go_wp2_with fail
  go_loopw [12] (fun i wr => ∃ (k : Nat), k ≤ l.length ∧ i = .int .i64 (k : Int) ∧
      wr.ownsRow w.heap.size 5 1 (.slice (some ⟨w.heap.size, 0, none⟩) s s) s (bv (bytesN s (bsum l k))) ∧ Below w.heap.size w wr) (fun i _ => l.length - (intOf i).toNat)
  case atStart => exact ⟨0, Nat.zero_le _, rfl, HO1.out, HB1.out⟩
  case round =>
    obtain ⟨k, hk, rfl, ho, hb⟩ := hrel
    have HO := Lib.hid ho
    have HB := Lib.hid hb
    clear ho hb
    by_cases hlt : k < l.length
    · obtain ⟨b, off, rfl, _, hbh, hcell⟩ := (H.out.below HB.out hh).row hlt
      cases hx : l[k]
      · have HN := Lib.hid (bsum_no l k hlt hx)
        rw [hx] at hcell
        clear hx
        go_wp2
        go_roundw
        case rel => exact ⟨k + 1, by omega, by go_num, by rw [HN.out]; exact HO.out, HB.out⟩
        case measure => simp [intOf]; omega
      · have hks : k / 8 < s := by omega
        have hkl : k / 8 < (bytesN s (bsum l k)).length := by rw [bytesN_length]; exact hks
        obtain ⟨x0, hx0⟩ : ∃ x0, (bytesN s (bsum l k))[k / 8]? = some x0 := ⟨_, List.getElem?_eq_getElem hkl⟩
        obtain ⟨hx1, hx2, hx3⟩ := bytesN_bit s k (bsum l k) hks (bsum_lt l k hk) x0 hx0
        rw [← bsum_yes l k hlt hx] at hx3
        have HN := Lib.hid hx3
        rw [hx] at hcell
        have hor := or_bit x0.toNat (k % 8) (Nat.mod_lt _ (by decide)) hx1
        have hload : wr.drew.cell? ⟨w.heap.size, k / 8, none⟩ = some (.int .u8 (x0.toNat : Int)) := by
          have h1 := HO.out.cellAt (k / 8) (by omega)
          have h2 : (bv (bytesN s (bsum l k)))[k / 8]? = some (.int .u8 (x0.toNat : Int)) := by simp [bv, hx0]
          exact h1.trans h2
        have hfr : wr.drew.frozen? ⟨w.heap.size, k / 8, none⟩ = false := HO.out.frozenAt (k / 8)
        have hbn : (UInt8.ofNat (x0.toNat + 2 ^ (k % 8))).toNat = x0.toNat + 2 ^ (k % 8) := by rw [UInt8.toNat_ofNat']; omega
        have hbs : bv (bytesN s (bsum l (k + 1))) = (bv (bytesN s (bsum l k))).set (k / 8) (.int .u8 ((x0.toNat + 2 ^ (k % 8) : Nat) : Int)) := by
          rw [hx3, bv_set, hbn]
        have hst := World.ownsRow.stored (w := wr.drew) HO.out (k / 8) (.int .u8 ((x0.toNat + 2 ^ (k % 8) : Nat) : Int))
        rw [← hbs] at hst
        have HST := Lib.hid hst
        have HB3 : Hid (Below w.heap.size w wr.drew) := below_drewN' HB.out 1
        have hn8 : (k : Int) / 8 = ((k / 8 : Nat) : Int) := by omega
        have hn8' : (k : Int) % 8 = ((k % 8 : Nat) : Int) := by omega
        have hn8t : (k : Int).tmod 8 = ((k % 8 : Nat) : Int) := by rw [Int.tmod_eq_emod_of_nonneg (by omega)]; omega
        have hr8 : k % 8 < 8 := Nat.mod_lt _ (by decide)
        clear hx hx0 hx3 hbn hbs hst hkl
        go_wp2_with fail
        refine wp_region_still_tail 9 (by kernel_rfl) (by kernel_rfl) ?_
        change wpStill _ _ wr.drew (fun a' => wpList _ _ _ _ a' wr.drew) _ _
        generalize wr.drew = w4 at *
        generalize k / 8 = q at *
        generalize k % 8 = r at *
        simp only [List.take_succ_cons, List.take_zero, List.drop_succ_cons, List.drop_zero]
        have hqw : IntKind.i64.wrap (q : Int) = (q : Int) := IntWalk.i64_in _ (by omega)
        have hrw : IntKind.i64.wrap (r : Int) = (r : Int) := IntWalk.i64_in _ (by omega)
        repeat still_step
        refine wpStill_nil ?_
        go_wp2
        go_roundw
        case rel =>
          rw [show (x0.toNat : Int) + 2 ^ r = ((x0.toNat + 2 ^ r : Nat) : Int) by push_cast; rfl]
          exact ⟨k + 1, by omega, by go_num, HST.out.1, below_some HB3.out HST.out.2 HB3.out.size (Nat.le_refl _)⟩
        case measure => simp [intOf] <;> omega
    · obtain rfl : k = l.length := by omega
      go_wp2
      go_ret
      rw [HP.out]
      exact ⟨_, _, rfl, HO.out, HB.out⟩

/-- Write -/
theorem bwrite_any {w : World} (l : List Bool) {h' : Nat} {A : Option Addr} {c : Nat} (h : Rd w 0 h' A c (lv l)) (hh : h' ≤ w.heap.size) (hlen : l.length ≤ 140737488355328) :
    Calls Try.prog 39 #[.slice A l.length c] w fun r w' => ∃ A' c', r = .returned (.slice A' (writeB l).length c') ∧
      w'.ownsRow w.heap.size 5 1 (.slice A' (writeB l).length c') (writeB l).length (bv (writeB l)) ∧ Below w.heap.size w w' := by
  have HE : Hid (putL l.length ++ packB l = writeB l) := rfl
  have h9 := putL_nine l.length (by omega)
  have hpl : (packB l).length ≤ 140737488355328 / 8 + 1 := by rw [packB_length]; omega
  have HP := fun (w1 : World) (h : Rd w1 0 h' A c (lv l)) (hh : h' ≤ w1.heap.size) => Lib.hid (bput_any (w := w1) (A := A) (c := c) l h hh hlen)
  have H := Lib.hid h
  have hl := h.len
  have hc := h.cap
  rw [lv_length] at hl
  unfold maxLen at hc
  clear h
  generalize packB l = pk at *
  go_enter Try.func39, Try.ntmps39
  go_wp2_with fail
  refine (put_any l.length (by omega)).mono ?_
  rintro r w1 ⟨A1, c1, rfl, ho1, hb1⟩
  have HO1 := Lib.hid ho1
  have HB1 := Lib.hid hb1
  have s1 := hb1.size
  clear ho1 hb1
  generalize putL l.length = pl at *
  go_wp2_with fail
  refine (HP w1 (H.out.below HB1.out hh) (by omega)).out.mono ?_
  rintro r w2 ⟨A2, c2, rfl, ho2, hb2⟩
  have HO2 := Lib.hid ho2
  have HB2 := Lib.hid (below_below HB1.out hb2 s1)
  have s2 := hb2.size
  obtain ⟨A3, c3, w3, hrun3, ho3, hg3⟩ := append_named w2 w.heap.size _ pl pk (writeB l) HE.out (own_below HO1.out hb2 (Nat.le_refl _)) (Rd.own ho2) (by omega) (by omega)
  have HO3 := Lib.hid ho3
  have HB3 := Lib.hid (HB2.out.grown hg3 HB2.out.size (fun k hk => own_row HO1.out k hk))
  clear ho2 hb2 ho3 hg3
  go_wp2_with (at_builtin; refine wpList_append_run rfl _ _ _ _ rfl rfl rfl hrun3 ?_)
  go_ret
  exact ⟨A3, c3, rfl, HO3.out, HB3.out⟩
end Go.Proofs.Ytepgkdmfoojppaa
namespace Go.Proofs.Ytepgkdmfoojppaa
set_option linter.unusedSimpArgs false
set_option linter.unusedVariables false
open Go.RowKit

theorem bfilled_any {w : World} (bs : List UInt8) (n : Nat) (b : Bool) (hl : bs = [] ∨ bs.length = (n + 7) / 8) (hb : decide (bs = [] ∨ bval bs < 2 ^ n) = b) (hn : n ≤ 9223372036854775807) {lo h' : Nat} {A : Option Addr} {c : Nat} (h : Rd w lo h' A c (bv bs)) :
    Calls Try.prog 84 #[.slice A bs.length c, .int .i64 (n : Int)] w fun r w' => r = .returned (.bool b) ∧ w = w' := by
  have hll := h.len
  have hc := h.cap
  rw [bv_length] at hll
  unfold maxLen at hc
  have H := Lib.hid h
  clear h
  by_cases he : bs = []
  · subst he
    have HB : Hid (b = true) := by rw [← hb]; exact decide_eq_true (.inl rfl)
    clear hl hb
    go_enter Try.func84, Try.ntmps84
    go_wp2
    go_ret
    exact ⟨ret_bool HB.out.symm, rfl⟩
  · have hlen : bs.length = (n + 7) / 8 := hl.resolve_left he
    have hp : 0 < bs.length := by
      rcases Nat.eq_zero_or_pos bs.length with h0 | h0
      · exact absurd (List.eq_nil_of_length_eq_zero h0) he
      · exact h0
    have hlb : bs.length ≤ (n + 7) / 8 := Nat.le_of_eq hlen
    have hne : ((bs.length : Int) == 0) = false := by rw [beq_eq_false_iff_ne]; omega
    by_cases hr : n % 8 = 0
    · have HB : Hid (b = true) := by rw [← hb]; exact decide_eq_true (.inr (filled_all bs n hlen hr))
      have h8 : ((n : Int) % 8 == 0) = true := by rw [beq_iff_eq]; omega
      clear hl hlen hr hb he
      go_enter Try.func84, Try.ntmps84
      go_wp2
      go_ret
      exact ⟨ret_bool HB.out.symm, rfl⟩
    · have HF := Lib.hid (filled_iff bs n hlen hr)
      have HB : Hid (decide (bval bs < 2 ^ n) = b) := by
        rw [← hb]
        unfold Hid
        simp [he]
      have h8 : ((n : Int) % 8 == 0) = false := by rw [beq_eq_false_iff_ne]; omega
      obtain ⟨b0, off, rfl, _, _, hcell⟩ := H.out.byte (k := bs.length - 1) (by omega)
      rw [last_get bs hp] at hcell
      generalize bs.getLastD 0 = x8 at *
      have hx := UInt8.toNat_lt x8
      generalize x8.toNat = x at *
      clear hl hlen hb he
      go_enter Try.func84, Try.ntmps84
      go_wp2
      go_ret
      refine ⟨ret_bool ?_, rfl⟩
      have e : (x : Int) / 2 ^ (n % 8) = ((x / 2 ^ (n % 8) : Nat) : Int) := by push_cast; rfl
      rw [e, ← HB.out, Bool.eq_iff_iff, beq_iff_eq, decide_eq_true_iff, ← HF.out]
      omega

/-- what Read answers and leaves: the rows, the place, the error -/
def breadEnd (ub : List UInt8) (n k : Nat) (e : Int) : List Bool × Nat × Int :=
  if e ≠ 0 then ([], k, e) else if bval ub < 2 ^ n then (getsB ub n, k, 0) else ([], k, 3)
def breadR (bs : List UInt8) (k : Nat) (e most : Int) : List Bool × Nat × Int :=
  breadEnd (takeR bs (mostR bs k e most).2.1 (mostR bs k e most).2.2 0 ((((mostR bs k e most).1 + 7) / 8 : Nat) : Int)).1 (mostR bs k e most).1
    (takeR bs (mostR bs k e most).2.1 (mostR bs k e most).2.2 0 ((((mostR bs k e most).1 + 7) / 8 : Nat) : Int)).2.1
    (takeR bs (mostR bs k e most).2.1 (mostR bs k e most).2.2 0 ((((mostR bs k e most).1 + 7) / 8 : Nat) : Int)).2.2
theorem takeR_len (bs : List UInt8) (k : Nat) (e : Int) (skip : Nat) (n : Int) : (takeR bs k e skip n).1.length ≤ bs.length := by
  unfold takeR
  repeat' split
  all_goals simp
  all_goals omega
theorem takeR_none (bs : List UInt8) (k : Nat) (e : Int) (skip : Nat) (n : Int) (h : (takeR bs k e skip n).2.2 ≠ 0) : (takeR bs k e skip n).1 = [] := by
  unfold takeR at h ⊢
  repeat' split
  all_goals simp_all

theorem and_bit (x r : Nat) (hx : x < 256) : bits .and .u8 ((x : Int) / 2 ^ r) 1 = ((x / 2 ^ r % 2 : Nat) : Int) := by
  have h1 : x / 2 ^ r ≤ x := Nat.div_le_self _ _
  have e : (x : Int) / 2 ^ r = ((x / 2 ^ r : Nat) : Int) := by push_cast; rfl
  have h2 := u8_and_nat (x / 2 ^ r) 1 (by omega) (by omega)
  rw [Nat.and_one_is_mod] at h2
  rw [e]
  exact h2
theorem row_bit (ub : List UInt8) (j x : Nat) (hj : j / 8 < ub.length) (hx : ub[j / 8].toNat = x) : (((x / 2 ^ (j % 8) % 2 : Nat) : Int) == 1) = getB ub j := by
  unfold getB
  rw [getN_byte ub j hj, hx, Bool.eq_iff_iff, beq_iff_eq, beq_iff_eq]
  omega

set_option maxRecDepth 20000 in
set_option maxHeartbeats 1000000 in
theorem bread_any {w : World} {lo g k : Nat} {bs : List UInt8} {e : Int} (most : Int) (hm : most ≤ 9223372036854775807) (h : Cur w lo g bs k e) (hb : bs.length ≤ 1000000000000) :
    Calls Try.prog 64 #[cp g, .int .i64 most] w fun r w' => ∃ A c, r = .returned (.slice A (breadR bs k e most).1.length c) ∧ w'.ownsRow w.heap.size 4 1 (.slice A (breadR bs k e most).1.length c) (breadR bs k e most).1.length (lv (breadR bs k e most).1) ∧
      Cur w' lo g bs (breadR bs k e most).2.1 (breadR bs k e most).2.2 ∧ w.grownBy w' (some g) := by
  have hgl := h.lt
  have HM := Lib.hid (most_any most h)
  have hmle := mostR_le bs k e most
  unfold breadR
  generalize mostR bs k e most = M at *
  obtain ⟨n, k1, e1⟩ := M
  dsimp only at HM hmle ⊢
  have hn : n ≤ 9223372036854775807 := by omega
  generalize hs : (n + 7) / 8 = s
  have HSZ := fun w1 : World => Lib.hid (bsize_any (w := w1) n s hn hs)
  have HBY := fun (w1 : World) (h1 : Cur w1 lo g bs k1 e1) => Lib.hid (bytes_any (s : Int) h1 (by omega))
  have hT := takeR_full bs k1 e1 s
  have hTl := takeR_len bs k1 e1 0 (s : Int)
  have hTn := takeR_none bs k1 e1 0 (s : Int)
  generalize takeR bs k1 e1 0 (s : Int) = U at *
  obtain ⟨ub, k4, e4⟩ := U
  dsimp only at hT hTl hTn HBY ⊢
  have HS := Lib.hid hs
  clear h hmle hs
  go_enter Try.func64, Try.ntmps64
  go_wp2_with fail
  refine HM.out.mono ?_
  rintro r w1 ⟨rfl, hc1, hg1⟩
  have HC1 := Lib.hid hc1
  have HG1 := Lib.hid hg1
  have s1 := hg1.size
  clear hc1 hg1
  go_wp2_with fail
  refine (HSZ w1).out.mono ?_
  rintro r w' ⟨rfl, rfl⟩
  go_wp2_with fail
  refine (HBY w1 HC1.out).out.mono ?_
  rintro r w4 ⟨A4, c4, rfl, ho4, hc4, hg4⟩
  have HO4 := Lib.hid ho4
  have HC4 := Lib.hid hc4
  have HG4 := Lib.hid (HG1.out.trans hg4)
  have s4 := hg4.size
  have hg4l := hc4.lt
  clear ho4 hc4 hg4
  by_cases he : e4 = 0
  · subst he
    have hul : ub.length = s := hT rfl
    have hls : ub.length = (n + 7) / 8 := by rw [hul, HS.out]
    have hn8 : n ≤ 8 * ub.length := by omega
    by_cases hfl : bval ub < 2 ^ n
    · have HE : Hid (breadEnd ub n k4 0 = (getsB ub n, k4, 0)) := by
        unfold Hid breadEnd
        rw [if_neg (by simp), if_pos hfl]
      have HFI := Lib.hid (bfilled_any (w := w4) ub n true (.inr hls) (decide_eq_true (.inr hfl)) hn (Rd.own HO4.out))
      obtain ⟨w5, hmake, ho5, hg5⟩ := make_bools w4 n (by omega)
      have HR5 := Lib.hid ((Rd.own HO4.out).grown hg5 (Nat.le_refl _) (by simp))
      have HC5 := Lib.hid (HC4.out.grown hg5 (by simp))
      have HG5 := Lib.hid (HG4.out.trans (gb_of_gb_none hg5))
      have HO5 := Lib.hid ho5
      have s5 := hg5.size
      have hlsb : (n + 7) / 8 ≤ ub.length := Nat.le_of_eq hls.symm
      have hub : ub.length ≤ 1000000000000 := by omega
      clear ho5 hg5 hul hls hT hTl hTn hfl
      go_wp2_with fail
      refine HFI.out.mono ?_
      rintro r w' ⟨rfl, rfl⟩
      go_wp2_with fail
      refine (good_any HC4.out).mono ?_
      rintro r w' ⟨rfl, rfl⟩
      go_wp2_with fail
      go_loopw [29] (fun i wr => ∃ (j : Nat) (xs : List Value), j ≤ n ∧ i = .int .i64 (j : Int) ∧ wr.ownsRow w4.heap.size 4 1 (.slice (some ⟨w4.heap.size, 0, none⟩) n n) n xs ∧ Fill (lv (getsB ub n)) j xs ∧ w5.grownBy wr (some w4.heap.size)) (fun i _ => n - (intOf i).toNat)
      case atStart => exact ⟨0, _, Nat.zero_le _, rfl, HO5.out, fill_zero (by rw [List.length_replicate, lv_length, getsB_length]), gb_refl _ _⟩
      case round =>
        obtain ⟨j, xs, hj, rfl, ho6, hup, hg6⟩ := hrel
        have HO6 := Lib.hid ho6
        have HUP := Lib.hid hup
        have HG6 := Lib.hid hg6
        have s6 := hg6.size
        have HR6 := Lib.hid (HR5.out.grown hg6 s5 (fun x hx => .inr (by injection hx with hx; omega)))
        clear ho6 hup hg6
        by_cases hlt : j < n
        · have hj8 : j / 8 < ub.length := by omega
          obtain ⟨b0, off, rfl, _, hbh, hcell⟩ := HR6.out.byte hj8
          have hfr := HO6.out.frozenAt j
          have hxj : j < xs.length := by rw [HUP.out.1, lv_length, getsB_length]; exact hlt
          have hcx : wr.cell? ⟨w4.heap.size, j, none⟩ = some xs[j] := by
            rw [HO6.out.cellAt j (by omega), List.getElem?_eq_getElem hxj]
          have HST := fun u => Lib.hid (HO6.out.stored j u)
          have hu : (lv (getsB ub n))[j]? = some (.bool (getB ub j)) := by simp [lv, getsB_get ub n j hlt]
          have HU := Lib.hid hu
          have hx256 := UInt8.toNat_lt ub[j / 8]
          have HRB := Lib.hid (row_bit ub j _ hj8 rfl)
          generalize xs[j] = x0 at *
          generalize ub[j / 8].toNat = x at *
          have hand := and_bit x (j % 8) hx256
          have hj8' : (j : Int) / 8 = ((j / 8 : Nat) : Int) := by omega
          have hj8m : (j : Int) % 8 = ((j % 8 : Nat) : Int) := by omega
          have hj8t : (j : Int).tmod 8 = ((j % 8 : Nat) : Int) := by rw [Int.tmod_eq_emod_of_nonneg (by omega)]; omega
          have hr8 : j % 8 < 8 := Nat.mod_lt _ (by decide)
          clear hu
          generalize j / 8 = q at *
          generalize j % 8 = r at *
          have hqw : IntKind.i64.wrap (q : Int) = (q : Int) := IntWalk.i64_in _ (by omega)
          have hrw : IntKind.i64.wrap (r : Int) = (r : Int) := IntWalk.i64_in _ (by omega)
          go_wp2
          go_roundw
          case rel =>
            have e : ((x : Int) / 2 ^ r % 2 == 1) = getB ub j := by
              rw [← HRB.out]
              push_cast
              rfl
            rw [e]
            exact ⟨j + 1, _, by omega, by go_num, (HST _).out.1, fill_succ HUP.out _ HU.out, HG6.out.trans (HST _).out.2⟩
          case measure => simp [intOf]; omega
        · obtain rfl : j = n := by omega
          have hall := fill_all HUP.out (by rw [lv_length, getsB_length]; exact Nat.le_refl _)
          have hoL := HO6.out
          rw [hall] at hoL
          have HOL := Lib.hid hoL
          have HC6 := Lib.hid (HC5.out.grown HG6.out (fun x hx => .inr (by injection hx with hx; omega)))
          have HG7 := Lib.hid (gb_more HG5.out HG6.out (by omega))
          have hlen : (getsB ub j).length = j := getsB_length _ _
          have HLEN := Lib.hid hlen
          clear hall hoL hlen
          go_wp2
          go_ret
          rw [HE.out]
          exact ⟨_, _, by rw [HLEN.out]; rfl, by rw [HLEN.out]; exact own_base HOL.out (by omega), HC6.out, HG7.out⟩
    · have HE : Hid (breadEnd ub n k4 0 = ([], k4, 3)) := by
        unfold Hid breadEnd
        rw [if_neg (by simp), if_neg hfl]
      have hne : ub ≠ [] := by
        rintro rfl
        apply hfl
        have := Nat.two_pow_pos n
        simpa [bval] using this
      have HFI := Lib.hid (bfilled_any (w := w4) ub n false (.inr hls) (decide_eq_false (fun h => h.elim hne hfl)) hn (Rd.own HO4.out))
      clear hul hls hT hTl hTn hfl hne
      go_wp2_with fail
      refine HFI.out.mono ?_
      rintro r w' ⟨rfl, rfl⟩
      go_wp2_with fail
      refine (fail_any 3 HC4.out).mono ?_
      rintro r w5 ⟨rfl, hc5, hg5⟩
      rw [if_pos rfl] at hc5
      have HC5 := Lib.hid hc5
      have HG5 := Lib.hid (HG4.out.trans hg5)
      clear hc5 hg5
      go_wp2_with fail
      refine (good_any HC5.out).mono ?_
      rintro r w' ⟨rfl, rfl⟩
      go_wp2
      go_ret
      rw [HE.out]
      exact ⟨none, 0, rfl, World.ownsRow_nil .., HC5.out, HG5.out⟩
  · have HE : Hid (breadEnd ub n k4 e4 = ([], k4, e4)) := by
      unfold Hid breadEnd
      rw [if_pos he]
    have hue : ub = [] := hTn he
    subst hue
    have HFI := Lib.hid (bfilled_any (w := w4) [] n true (.inl rfl) (decide_eq_true (.inl rfl)) hn (Rd.own HO4.out))
    have he' : (e4 == 0) = false := by simpa using he
    have HGD := Lib.hid (good_any HC4.out)
    rw [he'] at HGD
    clear hT hTl hTn he he'
    go_wp2_with fail
    refine HFI.out.mono ?_
    rintro r w' ⟨rfl, rfl⟩
    go_wp2_with fail
    refine HGD.out.mono ?_
    rintro r w' ⟨rfl, rfl⟩
    go_wp2
    go_ret
    rw [HE.out]
    exact ⟨none, 0, rfl, World.ownsRow_nil .., HC4.out, HG4.out⟩
end Go.Proofs.Ytepgkdmfoojppaa
