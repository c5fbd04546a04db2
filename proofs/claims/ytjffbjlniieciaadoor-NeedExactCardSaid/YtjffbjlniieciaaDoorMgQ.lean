/-
  Or of two whole numbers.
  The program's gram: places, gram, bit.
  The program's gram at a string's place.
  slices.BinarySearch of ints: the library's contract at this program's numbers.
  The program's gram: Has, May.
-/
import Derived.Test.YtjffbjlniieciaaDoorMem
import Derived.Test.YtjffbjlniieciaaDoorMgG
import Derived.Test.YtjffbjlniieciaaDoorStrM
import Derived.Shelf.Slices.SearchI
import Derived.Shelf.Slices.Empties
import Derived.Test.YtjffbjlniieciaaDoorRows
import Derived.Test.YtjffbjlniieciaaDoorIvM
import Derived.Test.YtjffbjlniieciaaDoorMgP
import Derived.Deep.RegionHeld3
namespace Go.Proofs.YtjffbjlniieciaaDoor
set_option linter.unusedSimpArgs false
set_option linter.unusedVariables false
open Go.RowKit

theorem or_i64 (a b : Nat) (ha : a < 9223372036854775808) (hb : b < 9223372036854775808) : bits .or .i64 (a : Int) (b : Int) = ((a ||| b : Nat) : Int) := by
  have e : ∀ n : Nat, n < 9223372036854775808 → (BitVec.ofInt 64 (n : Int)).toNat = n := fun n hn => by
    rw [BitVec.ofInt_natCast, BitVec.toNat_ofNat]; exact Nat.mod_eq_of_lt (by omega)
  have hx : a ||| b < 2 ^ 63 := Nat.or_lt_two_pow (by omega) (by omega)
  show IntKind.i64.wrap ((BitVec.ofInt 64 (a : Int) ||| BitVec.ofInt 64 (b : Int)).toNat : Int) = _
  rw [BitVec.toNat_or, e a ha, e b hb, IntKind.wrap_i64]
  omega
end Go.Proofs.YtjffbjlniieciaaDoor
namespace Go.Proofs.YtjffbjlniieciaaDoor
set_option linter.unusedSimpArgs false
set_option linter.unusedVariables false
open Go.RowKit

set_option maxRecDepth 20000 in
theorem gplaces_any {w : World} (s : ByteArray) (hs : s.size ≤ 100000) (n : Nat) (hn : s.size - 2 = n) :
    Calls Tryd.prog 65 #[.string s] w fun r w' => r = .returned (.int .i64 (n : Int)) ∧ w = w' := by
  have HN := Lib.hid hn
  clear hn
  go_enter Tryd.func65, Tryd.ntmps65
  go_wp2
  all_goals
    have hn := HN.out
    go_ret
    exact ⟨ret_int' (by omega), rfl⟩

set_option maxRecDepth 20000 in
/-- three bytes, each at its place -/
theorem or_three (a b c : Nat) (ha : a < 256) (hb : b < 256) (hc : c < 256) :
    bits .or .i64 (bits .or .i64 (wrap64 (wrap64 (a : Int) * 65536)) (wrap64 (wrap64 (b : Int) * 256))) (wrap64 (c : Int)) = ((65536 * a + 256 * b + c : Nat) : Int) := by
  have e1 : wrap64 (a : Int) = (a : Int) := IntWalk.wrap64_in _ (by omega)
  have e2 : wrap64 (b : Int) = (b : Int) := IntWalk.wrap64_in _ (by omega)
  have e3 : wrap64 (c : Int) = (c : Int) := IntWalk.wrap64_in _ (by omega)
  have e4 : wrap64 ((a : Int) * 65536) = ((65536 * a : Nat) : Int) := by rw [show (a : Int) * 65536 = ((65536 * a : Nat) : Int) by omega]; exact IntWalk.wrap64_in _ (by omega)
  have e5 : wrap64 ((b : Int) * 256) = ((256 * b : Nat) : Int) := by rw [show (b : Int) * 256 = ((256 * b : Nat) : Int) by omega]; exact IntWalk.wrap64_in _ (by omega)
  have f1 : 65536 * a ||| 256 * b = 65536 * a + 256 * b := by
    have := Nat.shiftLeft_add_eq_or_of_lt (a := a) (b := 256 * b) (i := 16) (by omega)
    rw [Nat.shiftLeft_eq, Nat.mul_comm a] at this
    exact this.symm
  have f2 : (65536 * a + 256 * b) ||| c = 65536 * a + 256 * b + c := by
    have := Nat.shiftLeft_add_eq_or_of_lt (a := 256 * a + b) (b := c) (i := 8) (by omega)
    rw [Nat.shiftLeft_eq, show (256 * a + b) * 2 ^ 8 = 65536 * a + 256 * b by omega] at this
    exact this.symm
  rw [e1, e2, e3, e4, e5, or_i64 _ _ (by omega) (by omega), f1, or_i64 _ _ (by omega) (by omega), f2]

set_option maxRecDepth 20000 in
set_option maxHeartbeats 4000000 in
theorem ggram_any {w : World} (s : ByteArray) (h : 2 < s.size) (hs : s.size ≤ 100000) (g : Nat) (hg : gramN (s[0]'(by omega)) (s[1]'(by omega)) (s[2]'(by omega)) = g) :
    Calls Tryd.prog 67 #[.string s] w fun r w' => r = .returned (.int .i64 (g : Int)) ∧ ∃ m, w' = w.drewN m := by
  have h0 : 0 < s.size := by omega
  have h1 : 1 < s.size := by omega
  have i0 : (0 : Int) < (s.size : Int) := by omega
  have i1 : (1 : Int) < (s.size : Int) := by omega
  have i2 : (2 : Int) < (s.size : Int) := by omega
  have HG := Lib.hid hg
  clear hg
  go_enter Tryd.func67, Tryd.ntmps67
  go_wp2_with fail
  go_quiet (fail)
  go_wp2_with fail
  go_ret
  refine ⟨ret_int' ?_, _, rfl⟩
  rw [← HG.out]
  exact or_three _ _ _ (UInt8.toNat_lt _) (UInt8.toNat_lt _) (UInt8.toNat_lt _)

set_option maxRecDepth 20000 in
theorem gbit_any {w : World} (g b q : Nat) (hg : g < 16777216) (hb0 : 0 < b) (hb : b ≤ 70000) (hq : bitG g b = q) :
    Calls Tryd.prog 81 #[.int .i64 (g : Int), .int .i64 (b : Int)] w fun r w' => r = .returned (.int .i64 (q : Int)) ∧ w = w' := by
  have hqz : ((g : Int) * 40503 % 65521) % (b : Int) = (q : Int) := by rw [← hq, bitG, Int.natCast_emod, Int.natCast_emod, Int.natCast_mul]; rfl
  have hbz : (b : Int) ≠ 0 := by omega
  have HQ := Lib.hid hqz
  clear hq hqz
  go_enter Tryd.func81, Tryd.ntmps81
  go_wp2
  go_ret
  exact ⟨ret_int' HQ.out, rfl⟩
end Go.Proofs.YtjffbjlniieciaaDoor
namespace Go.Proofs.YtjffbjlniieciaaDoor
set_option linter.unusedSimpArgs false
set_option linter.unusedVariables false
open Go.RowKit

theorem cut_get (s : ByteArray) (k j : Nat) (h : k + j < s.size) : (s.extract k s.size)[j]'(by rw [ByteArray.size_extract]; omega) = s[k + j] := by
  rw [ByteArray.getElem_extract]
/-- the gram at a string's place -/
theorem ggram_at {w : World} (s : ByteArray) (k : Nat) (h : k + 2 < s.size) (hs : s.size ≤ 100000) (g : Nat) (hg : gramN s[k] s[k + 1] s[k + 2] = g) :
    Calls Tryd.prog 67 #[.string (s.extract k s.size)] w fun r w' => r = .returned (.int .i64 (g : Int)) ∧ ∃ m, w' = w.drewN m :=
  ggram_any (s.extract k s.size) (by rw [ByteArray.size_extract]; omega) (by rw [ByteArray.size_extract]; omega) g (by
    rw [← hg, cut_get s k 0 (by omega), cut_get s k 1 (by omega), cut_get s k 2 h]
    rfl)

end Go.Proofs.YtjffbjlniieciaaDoor
namespace Go.Proofs.YtjffbjlniieciaaDoor
set_option maxRecDepth 100000
set_option linter.unusedSimpArgs false
set_option linter.unusedVariables false
open Go.RowKit

/-- this program's numbers of the shelf's functions and types (Nm2) -/
def gbren : Go.Shelf.Ren := ⟨fun | 25 => 80 | 31 => 92 | 32 => 93 | 37 => 96 | n => n, fun | 0 => 0 | 3 => 3 | 4 => 4 | 22 => 44 | 40 => 87 | n => n, fun n => n⟩
theorem gblays : Go.Proofs.Lays2.n25 Tryd.prog gbren := {
  mixed := by kernel_rfl
  f25 := Tryd.func80.trans (congrArg some (by kernel_rfl))
  f31 := Tryd.func92.trans (congrArg some (by kernel_rfl))
  f32 := Tryd.func93.trans (congrArg some (by kernel_rfl))
  f37 := Tryd.func96.trans (congrArg some (by kernel_rfl))
  t0 := Tryd.underlying0
  a0 := Tryd.isAgg0
  z0 := Tryd.sizeOf0
  v0 := Tryd.zeroValue0
  t3 := Tryd.underlying3
  a3 := Tryd.isAgg3
  z3 := Tryd.sizeOf3
  v3 := Tryd.zeroValue3
  t4 := Tryd.underlying4
  a4 := Tryd.isAgg4
  z4 := Tryd.sizeOf4
  v4 := Tryd.zeroValue4
  t22 := Tryd.underlying44
  a22 := Tryd.isAgg44
  z22 := Tryd.sizeOf44
  v22 := Tryd.zeroValue44
  t40 := Tryd.underlying87
  a40 := Tryd.isAgg87
  z40 := Tryd.sizeOf87
  v40 := Tryd.zeroValue87
  }

/-- slices.BinarySearch of whatever rising numbers: is it there? -/
theorem bsi_any {w : World} {lo hi c : Nat} {A : Option Addr} (gs : List Nat) (h : Rd w lo hi A c (iv (ints gs))) (hup : gs.Pairwise (· < ·)) (hn : gs.length ≤ 100000000) (g : Nat) :
    Calls Tryd.prog 80 #[.slice A gs.length c, .int .i64 (g : Int)] w fun r w' => ∃ k : Nat, r = .returned (.tuple #[.int .i64 (k : Int), .bool (decide (g ∈ gs))]) ∧ ∃ m, w' = w.drewN m := by
  by_cases h0 : gs = []
  · subst h0
    refine (Any.slices_BinarySearch_int_empty gblays A c _ w).mono ?_
    rintro r w' ⟨rfl, rfl⟩
    exact ⟨0, by simp, 0, rfl⟩
  · have hl := h.len
    have hm := h.cap
    rw [iv_length, ints_length] at hl
    unfold maxLen at hm
    have hp : 0 < gs.length := List.length_pos_iff.2 h0
    obtain ⟨b, off, rfl, _, _, hc⟩ := h.at_ (by rw [iv_length, ints_length]; exact hp)
    have hz : (ints gs).length = gs.length := ints_length gs
    have ht : (ints gs).take gs.length = ints gs := List.take_of_length_le (by omega)
    refine (Any.slices_BinarySearch_int gblays b off gs.length c (ints gs) (g : Int) w (by omega) (by omega) (fun j hj => hc j _ (by rw [iv_get _ j hj]; simp [List.getD, List.getElem?_eq_getElem hj])) (by
      rw [ht, ints, List.pairwise_map]
      exact hup.imp fun {a b} hab => by omega)).mono ?_
    rintro r w' ⟨rfl, q, rfl⟩
    refine ⟨(ints gs).countP (· < (g : Int)), ?_, q, rfl⟩
    rw [ht]
    congr 5
    refine congrArg Value.bool ?_
    rw [Bool.eq_iff_iff, decide_eq_true_iff, List.contains_iff_mem, ints, List.mem_map]
    constructor
    · rintro ⟨x, hx, e⟩
      have : x = g := by omega
      exact this ▸ hx
    · exact fun hx => ⟨g, hx, rfl⟩
end Go.Proofs.YtjffbjlniieciaaDoor
namespace Go.Proofs.YtjffbjlniieciaaDoor
set_option linter.unusedSimpArgs false
set_option linter.unusedVariables false
open Go.RowKit

set_option maxRecDepth 20000 in
set_option maxHeartbeats 4000000 in
theorem ghas_any {w : World} {lo hi b : Nat} {v : Value} {gs : List Nat} {rs : List Bool} (h : Flt w lo hi v b gs rs) (hhi : hi ≤ w.heap.size) (hf : FilG b gs rs) (g : Nat) (hg : g < 16777216) :
    Calls Tryd.prog 66 #[v, .int .i64 (g : Int)] w fun r w' => r = .returned (.bool (hasF b gs rs g)) ∧ Below w.heap.size w w' := by
  obtain ⟨A, c, B, d, rfl, h1, h2⟩ := h
  have hl1 := h1.len
  have hl2 := h2.len
  have hm1 := h1.cap
  have hm2 := h2.cap
  rw [iv_length, ints_length] at hl1
  rw [lv_length] at hl2
  unfold maxLen at hm1 hm2
  obtain ⟨w1, hw1⟩ : ∃ w1, w.alloc (.cells #[.int .i64 (b : Int), .slice A gs.length c, .slice B rs.length d] 55) = w1 := ⟨_, rfl⟩
  have HB1 : Hid (Below w.heap.size w w1) := by unfold Hid; rw [← hw1]; exact (Below.refl _ w).alloc (Nat.le_refl _) _
  have hk : Blk w1 w.heap.size 55 #[.int .i64 (b : Int), .slice A gs.length c, .slice B rs.length d] := by rw [← hw1]; exact Blk.new w _ _
  have hc0 : w1.cell? ⟨w.heap.size, 0, none⟩ = some (.int .i64 (b : Int)) := hk.cell 0
  have hc1 : w1.cell? ⟨w.heap.size, 1, none⟩ = some (.slice A gs.length c) := hk.cell 1
  have hc2 : w1.cell? ⟨w.heap.size, 2, none⟩ = some (.slice B rs.length d) := hk.cell 2
  have HR1 := Lib.hid (h1.below HB1.out hhi)
  have HR2 := Lib.hid (h2.below HB1.out hhi)
  have i0 : ¬ (g : Int) < 0 := by omega
  have d0 : decide ((g : Int) < 0) = false := decide_eq_false i0
  have i1 : ¬ (16777215 : Int) < (g : Int) := by omega
  have d1 : decide ((16777215 : Int) < (g : Int)) = false := decide_eq_false i1
  have HBS := fun (hup : gs.Pairwise (· < ·)) (hn : gs.length ≤ 100000000) => Lib.hid (bsi_any (w := w1) gs HR1.out hup hn g)
  have hf5 := hf.le
  clear h1 h2 hk
  obtain ⟨V, hV⟩ : ∃ V, hasF b gs rs g = V := ⟨_, rfl⟩
  rw [hV]
  unfold hasF at hV
  by_cases hb0 : 0 < b
  · rw [if_pos hb0] at hV
    have hrl := hf.rows
    obtain ⟨q, hq⟩ : ∃ q, bitG g b = q := ⟨_, rfl⟩
    have hqb : q < b := by rw [← hq]; exact Nat.mod_lt _ hb0
    have HBT := Lib.hid (gbit_any (w := w1) g b q hg hb0 (by omega) hq)
    rw [hq] at hV
    obtain ⟨bb, off, rfl, _, _, hcell⟩ := HR2.out.row (k := q) (by omega)
    have hV2 : rs[q] = V := by rw [← hV]; simp [List.getD, List.getElem?_eq_getElem (show q < rs.length by omega)]
    rw [hV2] at hcell
    have hbz : ¬ (b : Int) = 0 := by omega
    have hbe : ((b : Int) == 0) = false := by rw [beq_eq_false_iff_ne]; exact hbz
    have iq : (q : Int) < (rs.length : Int) := by omega
    have dq : decide ((q : Int) < (rs.length : Int)) = true := decide_eq_true iq
    have HRL := Lib.hid hrl
    clear hV hV2 hrl hf HBS hq
    go_enter Tryd.func66, Tryd.ntmps66
    go_wp2_with fail
    refine HBT.out.mono ?_
    rintro r w' ⟨rfl, rfl⟩
    clear HBT
    go_wp2_with fail
    go_ret
    exact ⟨rfl, HB1.out⟩
  · obtain rfl : b = 0 := by omega
    rw [if_neg hb0] at hV
    have HV := Lib.hid hV
    have HBS1 := HBS hf.up (by have := hf.few; omega)
    rw [show ((0 : Nat) : Int) = 0 from rfl] at hw1 hc0 ⊢
    clear hV hf HBS
    go_enter Tryd.func66, Tryd.ntmps66
    go_wp2_with fail
    refine HBS1.out.mono ?_
    rintro r w' ⟨k, rfl, m, rfl⟩
    clear HBS1
    go_wp2_with fail
    go_ret
    exact ⟨ret_bool HV.out, below_drewN' HB1.out m⟩

set_option maxRecDepth 20000 in
set_option maxHeartbeats 4000000 in
theorem gmay_any {w : World} {lo hi b : Nat} {v : Value} {gs : List Nat} {rs : List Bool} (h : Flt w lo hi v b gs rs) (hhi : hi ≤ w.heap.size) (hf : FilG b gs rs) (s : ByteArray) (hs : s.size ≤ 100000) :
    Calls Tryd.prog 48 #[v, .string s] w fun r w' => r = .returned (.bool ((gramsL s.data.toList).all (hasF b gs rs))) ∧ Below w.heap.size w w' := by
  have H := Lib.hid h
  have HFG := Lib.hid hf
  clear hf
  obtain ⟨A, c, B, d, rfl⟩ := flt_agg h
  obtain ⟨w1, hw1⟩ : ∃ w1, w.alloc (.cells #[.int .i64 (b : Int), .slice A gs.length c, .slice B rs.length d] 55) = w1 := ⟨_, rfl⟩
  have B1 : Hid (Below w.heap.size w w1) := by unfold Hid; rw [← hw1]; exact (Below.refl _ w).alloc (Nat.le_refl _) _
  have hk : Blk w1 w.heap.size 55 #[.int .i64 (b : Int), .slice A gs.length c, .slice B rs.length d] := by rw [← hw1]; exact Blk.new w _ _
  have hs1 : w1.heap.size = w.heap.size + 1 := by rw [← hw1]; simp
  have HK := Lib.hid hk
  have hgt1 : w.heap.size < w1.heap.size := by omega
  clear h hk hs1
  obtain ⟨V, hV⟩ : ∃ V, (gramsL s.data.toList).all (hasF b gs rs) = V := ⟨_, rfl⟩
  rw [hV]
  have HV := Lib.hid hV
  clear hV
  obtain ⟨N, hN⟩ : ∃ N, s.size - 2 = N := ⟨_, rfl⟩
  have hN1 : N ≤ s.size := by omega
  have hN2 : N = 0 ∨ N + 2 = s.size := by omega
  have HPL := Lib.hid (gplaces_any (w := w1) s hs N hN)
  have HGL : Hid ((gramsL s.data.toList).length = N) := by
    unfold Hid
    rw [gramsL_length, Array.length_toList]
    exact hN
  clear hN
  go_enter Tryd.func48, Tryd.ntmps48
  go_wp2_with fail
  refine HPL.out.mono ?_
  rintro r w' ⟨rfl, rfl⟩
  clear HPL hw1
  go_wp2_with fail
  go_loopw [8] (fun x8 wr => ∃ k : Nat, k ≤ N ∧ x8 = .int .i64 (k : Int) ∧ (∀ j (hj : j < (gramsL s.data.toList).length), j < k → hasF b gs rs (gramsL s.data.toList)[j] = true) ∧ Below w1.heap.size w1 wr) (fun x8 _ => N - (intOf x8).toNat)
  case atStart => exact ⟨0, Nat.zero_le _, rfl, fun j _ h => absurd h (Nat.not_lt_zero j), Below.refl _ _⟩
  case round =>
    obtain ⟨k, hk, rfl, hal, hb⟩ := hrel
    obtain ⟨wz, hwz⟩ : ∃ wz, wz = wr := ⟨_, rfl⟩
    subst hwz
    have HA := Lib.hid hal
    have HB := Lib.hid hb
    have hsz := hb.size
    clear hal hb
    have BZ : Hid (Below w.heap.size w wz) := below_below B1.out HB.out B1.out.size
    by_cases hkn : k < N
    · have jk : (k : Int) < (N : Int) := by omega
      have hk2 : k + 2 < s.size := by omega
      have hk1 : k < s.size := by omega
      have hkle : k ≤ s.size := by omega
      obtain ⟨g, hg⟩ : ∃ g, gramN s[k] s[k + 1] s[k + 2] = g := ⟨_, rfl⟩
      have hgl : g < 16777216 := by rw [← hg]; exact gramN_lt _ _ _
      have hget : (gramsL s.data.toList)[k]'(by rw [HGL.out]; exact hkn) = g := by rw [gramS s k hk2, hg]
      have HGA : Hid (∀ W, Below wz.heap.size wz W → Calls Tryd.prog 67 #[.string (s.extract k s.size)] W fun r w' => r = .returned (.int .i64 (g : Int)) ∧ ∃ m, w' = W.drewN m) := fun W _ => ggram_at (w := W) s k hk2 hs g hg
      have HC0 : Hid (∀ W, Below wz.heap.size wz W → W.cell? ⟨w.heap.size, 0, none⟩ = some (.int .i64 (b : Int)) ∧ W.cell? ⟨w.heap.size, 1, none⟩ = some (.slice A gs.length c) ∧ W.cell? ⟨w.heap.size, 2, none⟩ = some (.slice B rs.length d)) := fun W hW => by
        have hk := (HK.out.below HB.out (by omega)).below hW (by omega)
        exact ⟨hk.cell 0, hk.cell 1, hk.cell 2⟩
      have HHA : Hid (∀ W, Below wz.heap.size wz W → Calls Tryd.prog 66 #[.agg #[.int .i64 (b : Int), .slice A gs.length c, .slice B rs.length d], .int .i64 (g : Int)] W fun r w' => r = .returned (.bool (hasF b gs rs g)) ∧ Below W.heap.size W w') := fun W hW =>
        ghas_any (H.out.below (below_below BZ.out hW BZ.out.size) hhi) (by have := BZ.out.size; have := hW.size; omega) HFG.out g hgl
      have HNX : Hid (hasF b gs rs g = true → ∀ j (hj : j < (gramsL s.data.toList).length), j < k + 1 → hasF b gs rs (gramsL s.data.toList)[j] = true) := fun h j hj hjk => by
        rcases Nat.lt_or_ge j k with h2 | h2
        · exact HA.out j hj h2
        · have : j = k := by omega
          subst this
          rw [hget]
          exact h
      have HNO : Hid (hasF b gs rs g = false → V = false) := fun h => by
        rw [← HV.out]
        refine Bool.eq_false_iff.2 fun h2 => ?_
        have h3 := List.all_eq_true.1 h2 g (by rw [← hget]; exact List.getElem_mem _)
        rw [h] at h3
        cases h3
      obtain ⟨f, hf⟩ : ∃ f, hasF b gs rs g = f := ⟨_, rfl⟩
      rw [hf] at HHA HNX HNO
      clear hf hget hg
      go_wp2_with fail
      refine wp_region_held_drew (S := fun w' => Below wz.heap.size wz w') (by kernel_rfl) (Below.drew (Below.refl _ _)) (fun hHeld => ?_)
      refine wpAnyH_take (i := 0) (oi := _) (v := ?_) rfl (by kernel_rfl) (by kernel_rfl) (by kernel_rfl) (fun _ _ _ h => h) (Or.inl ⟨by rfl, ?_⟩) hHeld ?_
      rotate_left
      focus (intro W hSw; have hcv0 := (HC0.out W hSw).1; have hcv1 := (HC0.out W hSw).2.1; have hcv2 := (HC0.out W hSw).2.2; go_simp; try with_reducible rfl)
      try simp only [List.getElem_toArray, List.getElem_cons_zero, List.getElem_cons_succ, Act.put, List.setIfInBounds_toArray, List.set_cons_zero, List.set_cons_succ]
      refine wpAnyH_take (i := 1) (oi := _) (v := ?_) rfl (by kernel_rfl) (by kernel_rfl) (by kernel_rfl) (fun _ _ _ h => h) (Or.inl ⟨by rfl, ?_⟩) hHeld ?_
      rotate_left
      focus (intro W hSw; go_simp; try with_reducible rfl)
      try simp only [List.getElem_toArray, List.getElem_cons_zero, List.getElem_cons_succ, Act.put, List.setIfInBounds_toArray, List.set_cons_zero, List.set_cons_succ]
      refine wpAnyH_take (i := 2) (oi := _) (v := ?_) rfl (by kernel_rfl) (by kernel_rfl) (by kernel_rfl) (fun _ _ _ h => h) (Or.inl ⟨by rfl, ?_⟩) hHeld ?_
      rotate_left
      focus (intro W hSw; go_simp; try with_reducible rfl)
      try simp only [List.getElem_toArray, List.getElem_cons_zero, List.getElem_cons_succ, Act.put, List.setIfInBounds_toArray, List.set_cons_zero, List.set_cons_succ]
      refine wpAnyH_take (i := 3) (oi := _) (v := ?_) rfl (by kernel_rfl) (by kernel_rfl) (by kernel_rfl) (fun _ _ _ h => h) (Or.inl ⟨by rfl, ?_⟩) hHeld ?_
      rotate_left
      focus (intro W hSw; go_simp; try with_reducible rfl)
      try simp only [List.getElem_toArray, List.getElem_cons_zero, List.getElem_cons_succ, Act.put, List.setIfInBounds_toArray, List.set_cons_zero, List.set_cons_succ]
      refine wpAnyH_ready (rs := [4]) (by kernel_rfl) (by simp) ?_
      refine AllReadyH.cons (o := _) rfl (fun K hK => ?_) AllReadyH.nil
      go_simp
      refine (HGA.out _ hHeld).mono ?_
      rintro r w8 ⟨rfl, h8⟩
      have HB8 : Hid (Below wz.heap.size wz w8) := by
        obtain ⟨m8, rfl⟩ := h8
        exact below_drewN' hHeld m8
      clear h8
      refine hK.out _ _ HB8.out (fun hHeld => ?_)
      clear hK K
      try simp only [List.getElem_toArray, List.getElem_cons_zero, List.getElem_cons_succ, Act.put, List.setIfInBounds_toArray, List.set_cons_zero, List.set_cons_succ]
      refine wpAnyH_ready (rs := [5]) (by kernel_rfl) (by simp) ?_
      refine AllReadyH.cons (o := _) rfl (fun K hK => ?_) AllReadyH.nil
      go_simp
      refine (HHA.out _ hHeld).mono ?_
      rintro r w9 ⟨rfl, b9⟩
      have HB9 := Lib.hid (below_below hHeld b9 hHeld.size)
      clear b9
      refine hK.out _ _ HB9.out (fun hHeld => ?_)
      clear hK K
      try simp only [List.getElem_toArray, List.getElem_cons_zero, List.getElem_cons_succ, Act.put, List.setIfInBounds_toArray, List.set_cons_zero, List.set_cons_succ]
      refine wpAnyH_take (i := 6) (oi := _) (v := ?_) rfl (by kernel_rfl) (by kernel_rfl) (by kernel_rfl) (fun _ _ _ h => h) (Or.inl ⟨by rfl, ?_⟩) hHeld ?_
      rotate_left
      focus (intro W hSw; go_simp; try with_reducible rfl)
      try simp only [List.getElem_toArray, List.getElem_cons_zero, List.getElem_cons_succ, Act.put, List.setIfInBounds_toArray, List.set_cons_zero, List.set_cons_succ]
      refine wpAnyH_done (by kernel_rfl) ?_ _
      have HE := Lib.hid (below_below HB.out HB9.out hsz)
      clear hHeld
      cases f with
      | true =>
        have HN2 := Lib.hid (HNX.out rfl)
        clear HNX HNO
        go_wp2_with fail
        go_roundw
        case rel => exact ⟨k + 1, by omega, by go_num, HN2.out, HE.out⟩
        case measure => simp [intOf] <;> omega
      | false =>
        have HVV := Lib.hid (HNO.out rfl)
        clear HNX HNO
        go_wp2_with fail
        go_ret
        exact ⟨ret_bool HVV.out.symm, below_below BZ.out HB9.out BZ.out.size⟩
    · have jk : ¬ (k : Int) < (N : Int) := by omega
      have HVV : Hid (V = true) := by
        unfold Hid
        rw [← HV.out]
        refine List.all_eq_true.2 fun g hg => ?_
        obtain ⟨j, hj, rfl⟩ := List.getElem_of_mem hg
        exact HA.out j hj (by have := HGL.out; omega)
      go_wp2_with fail
      go_ret
      exact ⟨ret_bool HVV.out.symm, BZ.out⟩
end Go.Proofs.YtjffbjlniieciaaDoor
