/-
  The project's seal of layer 2: what is sealed, what is opened.
-/
import Derived.Test.YtbbclcokmmhkoaaCrcA
import Derived.Laws.MakeOwn
namespace Go.Proofs.Ytbbclcokmmhkoaa
set_option linter.unusedSimpArgs false
set_option linter.unusedVariables false
open Go.RowKit

/-- a block of cells that was made last, as a slice of all of it -/
theorem rd_lit (w : World) (t : TypeId) (cs : Array Value) (hm : cs.size ≤ 100000) : Rd (w.alloc (.cells cs t)) 0 (w.heap.size + 1) (some ⟨w.heap.size, 0, none⟩) cs.size cs.toList :=
  ⟨by simp, by simp only [maxLen]; omega, fun _ => ⟨w.heap.size, 0, rfl, Nat.zero_le _, by omega, fun j u hu => by
    rw [Nat.zero_add, (Blk.new w t cs).cell]
    simpa using hu⟩⟩

theorem of_one {w : World} (bs : List UInt8) {h' : Nat} {A : Option Addr} {c : Nat} (h : Rd w 0 h' A c (bv bs)) (hh : h' ≤ w.heap.size) :
    Calls Try.prog 9 #[.slice (some ⟨w.heap.size, 0, none⟩) 1 1] (w.alloc (.cells #[.slice A bs.length c] 22)) fun r w' => r = .returned (.int .u32 (bn (crcL bs))) ∧ Below w.heap.size w w' := by
  have hr := rd_lit w 22 #[.slice A bs.length c] (by simp)
  refine (of_any (w := w.alloc (.cells #[.slice A bs.length c] 22)) [⟨A, c, bs⟩] hr (by simp) ?_).mono ?_
  · intro p hp
    obtain rfl : p = ⟨A, c, bs⟩ := by simpa using hp
    exact (h.alloc hh _).wide (Nat.le_refl _) (by simp; omega)
  · rintro r w' ⟨rfl, hb⟩
    refine ⟨ret_int' (by simp [partsL]), ?_⟩
    exact below_below ((Below.refl _ _).alloc (Nat.le_refl _) _) hb (by simp)

theorem crcB_cells' (s : BitVec 32) : bv (crcB s) = [.int .u8 (bn s % 256), .int .u8 (bn s / 256 % 256), .int .u8 (bn s / 65536 % 256), .int .u8 (bn s / 16777216 % 256)] := by
  have hs := bn_bd s
  rw [crcB_cells]
  congr 4
  congr 1
  omega

set_option maxHeartbeats 400000 in
theorem seal_any {w : World} (bs : List UInt8) {h' : Nat} {A : Option Addr} {c : Nat} (h : Rd w 0 h' A c (bv bs)) (hh : h' ≤ w.heap.size) :
    Calls Try.prog 16 #[.slice A bs.length c] w fun r w' => ∃ A' c', r = .returned (.slice A' 4 c') ∧
      w'.ownsRow w.heap.size 5 1 (.slice A' 4 c') 4 (bv (crcB (crcL bs))) ∧ Below w.heap.size w w' := by
  have hs := bn_bd (crcL bs)
  have H := Lib.hid h
  clear h
  go_enter Try.func16, Try.ntmps16
  go_wp2_with fail
  refine (of_one bs H.out hh).mono ?_
  rintro r w1 ⟨rfl, hb1⟩
  have HB1 := Lib.hid hb1
  have s1 := hb1.size
  clear hb1
  go_wp2
  go_ret
  have h4 := own_lit w1 (crcB (crcL bs)) #[.int .u8 (bn (crcL bs) % 256), .int .u8 (bn (crcL bs) / 256 % 256), .int .u8 (bn (crcL bs) / 65536 % 256), .int .u8 (bn (crcL bs) / 16777216)] (by rw [crcB_cells]) (by simp [crcB_length])
  exact ⟨_, _, rfl, own_base h4 s1, HB1.out.alloc s1 _⟩

set_option maxHeartbeats 400000 in
theorem Seal_any {w : World} (bs : List UInt8) {h' : Nat} {A : Option Addr} {c : Nat} (h : Rd w 0 h' A c (bv bs)) (hh : h' ≤ w.heap.size) (hb : bs.length ≤ 1000000000) :
    Calls Try.prog 12 #[.slice A bs.length c] w fun r w' => ∃ A' c', r = .returned (.slice A' (sealL bs).length c') ∧
      w'.ownsRow w.heap.size 5 1 (.slice A' (sealL bs).length c') (sealL bs).length (bv (sealL bs)) ∧ Below w.heap.size w w' := by
  have hmk : ∃ w1, (Instr.makeSlice 22 (.int .i64 0) (.int .i64 ((bs.length : Int) + 4))).run Try.prog w = .ok (.slice (some ⟨w.heap.size, 0, none⟩) 0 (bs.length + 4)) w1 ∧
      w1.ownsRow w.heap.size 5 1 (.slice (some ⟨w.heap.size, 0, none⟩) 0 (bs.length + 4)) 0 [] ∧ w.grownBy w1 none := by
    obtain ⟨i0, hi0, hz0, hz1, hz2⟩ := info_parts Try.infoU8
    have := run_make_own (P := Try.prog) w w.heap.size 22 5 i0 _ 1 Try.underlying22 hi0 hz0 hz1 .i64 .i64 (bs.length + 4) (by rw [hz2]; omega) (by simp only [maxLen]; omega) (Nat.le_refl _)
    simpa using this
  obtain ⟨w1, hmake, hown1, hg1⟩ := hmk
  have k1 : Below w.heap.size w w1 := (Below.refl _ _).grown hg1 (Nat.le_refl _) (by simp)
  have s1 := k1.size
  obtain ⟨A2, c2, w2, hrun2, hown2, hg2⟩ := append_named w1 w.heap.size (.slice (some ⟨w.heap.size, 0, none⟩) 0 (bs.length + 4)) [] bs bs (by simp) hown1 (h.below k1 hh) (by simp; omega) s1
  have k2 : Below w.heap.size w w2 := k1.grown hg2 s1 (by simp [Value.ownBlock])
  have s2 := k2.size
  have H := Lib.hid h
  have HO2 := Lib.hid hown2
  have K2 := Lib.hid k2
  clear h hown1 hg1 k1 hown2 hg2 k2
  go_enter Try.func12, Try.ntmps12
  go_wp2_with (at_builtin; refine wpList_append_run rfl _ _ _ _ rfl rfl rfl hrun2 ?_)
  refine (seal_any bs (H.out.below K2.out hh) (by omega)).mono ?_
  rintro r w3 ⟨A3, c3, rfl, hown3, hb3⟩
  have HB3 := Lib.hid hb3
  have s3 := hb3.size
  obtain ⟨A4, c4, w4, hrun4, hown4, hg4⟩ := append_named w3 w.heap.size _ bs (crcB (crcL bs)) (sealL bs) rfl (own_below HO2.out hb3 (Nat.le_refl _)) (Rd.own hown3) (by rw [crcB_length]; omega) (by omega)
  rw [crcB_length] at hrun4
  have HO4 := Lib.hid hown4
  have HG4 := Lib.hid hg4
  clear hown3 hb3 hown4 hg4 hrun2 hmake
  go_wp2_with (at_builtin; refine wpList_append_run rfl _ _ _ _ rfl rfl rfl hrun4 ?_)
  go_ret
  refine ⟨A4, c4, rfl, HO4.out, ?_⟩
  exact (below_below K2.out HB3.out s2).grown HG4.out (by omega) (fun k hk => own_row HO2.out k hk)
end Go.Proofs.Ytbbclcokmmhkoaa
