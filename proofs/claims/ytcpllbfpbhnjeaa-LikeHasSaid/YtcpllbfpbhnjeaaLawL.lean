/-
  What the laws of layer 9 ask first: that the program is awake.
-/
import Derived.Test.YtcpllbfpbhnjeaaLkB
import Derived.Test.YtcpllbfpbhnjeaaLkC
namespace Go.Proofs.Ytcpllbfpbhnjeaa
set_option linter.unusedSimpArgs false
set_option linter.unusedVariables false
open Go.RowKit

theorem lparse_some {w : World} (s : ByteArray) (E : Int) (p : List Nat) (ho : parseF E s.data.toList = some p) :
    Calls Try.prog 11 #[.string s, .int .i64 E] w fun r w' => ∃ A c, r = .returned (.tuple #[.slice A p.length c, .int .i64 0]) ∧ Rd w' 0 w'.heap.size A c (iv (ints p)) ∧ Below w.heap.size w w' := lparse_any s E (some p) ho
theorem lparse_none {w : World} (s : ByteArray) (E : Int) (ho : parseF E s.data.toList = none) :
    Calls Try.prog 11 #[.string s, .int .i64 E] w fun r w' => ∃ A c, r = .returned (.tuple #[.slice A 0 c, .int .i64 8]) ∧ Rd w' 0 w'.heap.size A c (iv (ints [])) ∧ Below w.heap.size w w' := lparse_any s E none ho
/-- matching, at a known answer -/
theorem lmatch_is {w : World} (ns : List Nat) (s : ByteArray) (b : Bool) {lo hi c : Nat} {A : Option Addr} (h : Rd w lo hi A c (iv (ints ns))) (h7 : ∀ n ∈ ns, n ≤ 257) (hs : s.size ≤ 1000000) (hm : mat ns s.data.toList = b) :
    Calls Try.prog 15 #[.slice A ns.length c, .string s] w fun r w' => r = .returned (.bool b) ∧ ∃ n, w.drewN n = w' := hm ▸ lmatch_any ns s h h7 hs

set_option maxRecDepth 20000 in
set_option maxHeartbeats 2000000 in
theorem awake9_any {w : World} : Calls Try.prog 10 #[] w fun r w' => r = .returned (.bool true) ∧ Below w.heap.size w w' := by
  have hp1 := fun w => lparse_some (w := w) ⟨#[97, 37, 99]⟩ (-1) [97, 257, 99] rfl
  have hp2 := fun w => lparse_some (w := w) ⟨#[97, 33, 37, 95]⟩ 33 [97, 37, 256] rfl
  have hp3 := fun w => lparse_none (w := w) ⟨#[97, 33]⟩ 33 rfl
  have HP1 := Lib.hid hp1
  have HP2 := Lib.hid hp2
  have HP3 := Lib.hid hp3
  clear hp1 hp2 hp3
  go_enter Try.func10, Try.ntmps10
  go_wp2_with fail
  refine (HP1.out _).mono ?_
  rintro r w1 ⟨A1, c1, rfl, h1, b1⟩
  have H1 := Lib.hid h1
  have B1 := Lib.hid b1
  clear h1 b1
  go_wp2_with fail
  refine (HP2.out _).mono ?_
  rintro r w2 ⟨A2, c2, rfl, h2, b2⟩
  have H2 := Lib.hid h2
  have H12 := Lib.hid (H1.out.below b2 (Nat.le_refl _))
  have B2 := Lib.hid (below_below B1.out b2 B1.out.size)
  have S2 := b2.size
  clear h2 b2 H1
  go_wp2_with fail
  refine (HP3.out _).mono ?_
  rintro r w3 ⟨A3, c3, rfl, _, b3⟩
  have H2' := Lib.hid (H2.out.below b3 (Nat.le_refl _))
  have H1 := Lib.hid (H12.out.below b3 S2)
  have S3 := b3.size
  have B3 := Lib.hid (below_below B2.out b3 B2.out.size)
  clear b3 H2 H12
  go_wp2_with fail
  refine (lmatch_is [97, 257, 99] ⟨#[97, 98, 99]⟩ true H1.out (by decide) (by decide) rfl).mono ?_
  rintro r w4 ⟨rfl, n4, rfl⟩
  go_wp2_with fail
  refine (lmatch_is [97, 257, 99] ⟨#[97, 99]⟩ true (H1.out.drewN _) (by decide) (by decide) rfl).mono ?_
  rintro r w4 ⟨rfl, n5, rfl⟩
  go_wp2_with fail
  refine (lmatch_is [97, 257, 99] ⟨#[97, 98]⟩ false (H1.out.drewN _) (by decide) (by decide) rfl).mono ?_
  rintro r w4 ⟨rfl, n6, rfl⟩
  go_wp2_with fail
  refine (lmatch_is [97, 37, 256] ⟨#[97, 37, 120]⟩ true (H2'.out.drewN _) (by decide) (by decide) rfl).mono ?_
  rintro r w4 ⟨rfl, n7, rfl⟩
  go_wp2_with fail
  refine (lruns_any [97, 257, 99] ((H1.out.drewN _).wide (Nat.le_refl _) (Nat.le_trans S2 S3)) (by decide)).mono ?_
  rintro r w5 ⟨A5, c5, rfl, _, b5⟩
  have B5 := Lib.hid (below_below (below_drewN' B3.out _) b5 B3.out.size)
  clear b5
  go_wp2_with fail
  refine (lquote_any ⟨#[97, 37]⟩ 33 (by decide)).mono ?_
  rintro r w6 ⟨rfl, b6⟩
  go_wp2_with fail
  go_ret
  exact ⟨rfl, below_below B5.out b6 B5.out.size⟩
end Go.Proofs.Ytcpllbfpbhnjeaa
