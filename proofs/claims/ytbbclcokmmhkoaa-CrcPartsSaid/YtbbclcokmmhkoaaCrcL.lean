/-
  Layer 2's awake: the answers that the document fixes stand.
-/
import Derived.Test.YtbbclcokmmhkoaaCrcC
import Derived.Test.YtbbclcokmmhkoaaSame
import Derived.Lib.SlBytesConst
namespace Go.Proofs.Ytbbclcokmmhkoaa
set_option linter.unusedSimpArgs false
set_option linter.unusedVariables false
open Go.RowKit

/-- what is sealed is opened -/
theorem open_seal {w : World} (bs : List UInt8) {h' : Nat} {A : Option Addr} {c : Nat} (h : Rd w 0 h' A c (bv (sealL bs))) (hh : h' ≤ w.heap.size) (hb : bs.length ≤ 100000000) :
    Calls Try.prog 14 #[.slice A (sealL bs).length c] w fun r w' => ∃ A' c', r = .returned (.tuple #[.slice A' bs.length c', .bool true]) ∧
      w'.ownsRow w.heap.size 5 1 (.slice A' bs.length c') bs.length (bv bs) ∧ Below w.heap.size w w' := by
  have h1 := open_yes (sealL bs) h hh (sealedB_seal bs) (by rw [sealL_length]; omega)
  have e : (sealL bs).length - 4 = bs.length := by rw [sealL_length]; omega
  rw [e, sealL_take] at h1
  exact h1

/-- a block of a constant text's bytes -/
theorem rd_mark (w : World) (l : List UInt8) (cs : Array Value) (h : cs.toList = bv l) (hm : l.length ≤ 1000) (m : Nat × Nat) :
    Rd (w.alloc (.cells cs 5 m)) 0 (w.heap.size + 1) (some ⟨w.heap.size, 0, none⟩) l.length (bv l) := by
  refine ⟨by rw [bv_length]; omega, by simp only [maxLen]; omega, fun _ => ⟨w.heap.size, 0, rfl, Nat.zero_le _, by omega, fun j u hu => ?_⟩⟩
  rw [Nat.zero_add, cell_of_row _ _ j cs 5 m (heap_alloc_last w _)]
  rw [← h] at hu
  simpa using hu

theorem of_len {w : World} {g n : Nat} (bs : List UInt8) {h' : Nat} {A : Option Addr} {c : Nat} (h : Rd w 0 h' A c (bv bs)) (hh : h' ≤ w.heap.size) (hg : w.heap.size = g) (hn : bs.length = n) :
    Calls Try.prog 9 #[.slice (some ⟨g, 0, none⟩) 1 1] (w.alloc (.cells #[.slice A n c] 22)) fun r w' => r = .returned (.int .u32 (bn (crcL bs))) ∧ Below w.heap.size w w' := by
  subst hg hn
  exact of_one bs h hh
theorem crc_nine : bn (crcL [49, 50, 51, 52, 53, 54, 55, 56, 57]) = 3421780262 := by decide +kernel
theorem crc_none : bn (crcL []) = 0 := by decide +kernel

set_option maxRecDepth 20000 in
set_option maxHeartbeats 400000 in
theorem awake2_any (w : World) : Calls Try.prog 8 #[] w fun r w' => r = .returned (.bool true) ∧ Below w.heap.size w w' := by
  have kc := fun (w : World) (C : Array Value) (n c : Nat) => Lib.run_convert_bytes_const (P := Try.prog) w 22 5 C n c Try.underlying22 Try.underlying5
  go_enter Try.func8, Try.ntmps8
  go_wp2_with fail
  have h1 := rd_mark w [97] #[.int .u8 97] rfl (by simp) (1, 2)
  refine (Seal_any [97] h1 (by simp) (by simp)).mono ?_
  rintro r w1 ⟨A1, c1, rfl, ho1, hb1⟩
  have HO1 := Lib.hid ho1
  have k1 := below_below ((Below.refl w.heap.size w).alloc (Nat.le_refl _) (.cells #[.int .u8 97] 5 (1, 2))) hb1 (by simp)
  have K1 := Lib.hid k1
  have s1 := k1.size
  clear ho1 hb1 k1 h1
  go_wp2_with fail
  refine (open_seal [97] ((Rd.own HO1.out).wide (Nat.zero_le _) (Nat.le_refl _)) (Nat.le_refl _) (by simp)).mono ?_
  rintro r w2 ⟨A2, c2, rfl, ho2, hb2⟩
  have HO2 := Lib.hid ho2
  have k2 := below_below K1.out hb2 s1
  have K2 := Lib.hid k2
  have s2 := k2.size
  clear ho2 hb2 k2
  go_wp2_with fail
  have h3 := rd_mark w2 [49, 50, 51, 52, 53, 54, 55, 56, 57] #[.int .u8 49, .int .u8 50, .int .u8 51, .int .u8 52, .int .u8 53, .int .u8 54, .int .u8 55, .int .u8 56, .int .u8 57] rfl (by simp) (9, 10)
  refine (of_len [49, 50, 51, 52, 53, 54, 55, 56, 57] h3 (by simp) (by simp) (by simp)).mono ?_
  rintro r w3 ⟨rfl, hb3⟩
  rw [crc_nine]
  have k3 := below_below (K2.out.alloc s2 (.cells #[.int .u8 49, .int .u8 50, .int .u8 51, .int .u8 52, .int .u8 53, .int .u8 54, .int .u8 55, .int .u8 56, .int .u8 57] 5 (9, 10))) hb3 (by simp; omega)
  have HO3 := Lib.hid (own_below HO2.out ((((Below.refl w2.heap.size w2).alloc (Nat.le_refl _) _)).trans (hb3.mono (by simp))) (Nat.le_refl _))
  have hst := run_string_rd (P := Try.prog) w3 22 9 5 Try.underlying22 Try.underlying5 Try.underlying9 _ _ A2 c2 [97] (Rd.own HO3.out)
  simp only [List.length_cons, List.length_nil, Nat.zero_add] at hst
  have K3 := Lib.hid k3
  have s3 := k3.size
  clear hb3 k3 h3
  go_wp2_with fail
  refine (of_any (w := w3) [] (Rd.nil w3 0 0) (by omega) (by simp)).mono ?_
  rintro r w4 ⟨rfl, hb4⟩
  rw [show partsL [] = [] from rfl, crc_none]
  have K4 := Lib.hid (below_below K3.out hb4 s3)
  clear hb4
  go_wp2
  go_ret
  exact ⟨rfl, K4.out⟩
end Go.Proofs.Ytbbclcokmmhkoaa
