/-
  The document's own Put.
-/
import Derived.Test.YtepgkdmfoojppaaMgC
namespace Go.Proofs.Ytepgkdmfoojppaa
set_option linter.unusedSimpArgs false
set_option linter.unusedVariables false
open Go.RowKit

set_option maxRecDepth 20000 in
theorem refPut_any (n : Nat) : ∀ {w : World}, n ≤ 9223372036854775807 →
    Calls Try.prog 43 #[.int .i64 (n : Int)] w fun r w' => ∃ A c, r = .returned (.slice A (putL n).length c) ∧ w'.ownsRow w.heap.size 5 1 (.slice A (putL n).length c) (putL n).length (bv (putL n)) ∧ Below w.heap.size w w' := by
  induction n using Nat.strongRecOn with
  | ind n ih =>
    intro w hn
    have h9 := putL_nine n hn
    have HI := Lib.hid ih
    clear ih
    by_cases hlt : n < 128
    · have HE := Lib.hid (putL_small hlt)
      have HA : Hid ((UInt8.ofNat n).toNat = n) := by
        unfold Hid
        rw [UInt8.toNat_ofNat']; omega
      go_enter Try.func43, Try.ntmps43
      go_wp2
      go_ret
      rw [HE.out]
      have hv : bv [UInt8.ofNat n] = [.int .u8 (n : Int)] := by simp only [bv, List.map_cons, List.map_nil, HA.out]
      refine ⟨_, _, rfl, ?_, (Below.refl _ _).alloc (Nat.le_refl _) _⟩
      rw [hv]
      exact World.ownsRow_lit w #[_] 1 (Nat.le_refl _) (by simp [maxLen]) rfl
    · have HE := Lib.hid (putL_big (n := n) (by omega))
      have h10 := putL_nine (n / 128) (by omega)
      have HA : Hid ((UInt8.ofNat (n % 128 + 128)).toNat = n % 128 + 128) := by
        unfold Hid
        rw [UInt8.toNat_ofNat']; omega
      go_enter Try.func43, Try.ntmps43
      go_wp2_with fail
      rw [show ((n : Int) / 128) = ((n / 128 : Nat) : Int) from by omega]
      refine (HI.out (n / 128) (by omega) (by omega)).mono ?_
      rintro r w1 ⟨A, c, rfl, hown, hbel⟩
      have hsz := hbel.size
      simp only [World.size_alloc] at hsz
      have hlit := own_below (own_byte w 5 _ (UInt8.ofNat (n % 128 + 128)) (by rw [HA.out]; omega)) hbel (by simp)
      obtain ⟨A', c', w2, hrun, hown2, hg2⟩ := append_bytes w1 w.heap.size _ _ _ hlit (Rd.own hown) (by simp; omega) (by omega)
      have HO2 := Lib.hid hown2
      have HG2 := Lib.hid hg2
      have HB := Lib.hid hbel
      clear hown hown2 hg2 hbel hlit
      go_wp2_with (at_builtin; refine wpList_append_run rfl _ _ _ _ rfl rfl rfl hrun ?_)
      go_ret
      have e : (putL n).length = 1 + (putL (n / 128)).length := by rw [HE.out]; simp; omega
      refine ⟨A', c', by rw [e]; rfl, ?_, ?_⟩
      · rw [e, HE.out]; exact HO2.out
      · exact (((Below.refl _ _).alloc (Nat.le_refl _) _).trans (HB.out.mono (by simp))).grown HG2.out (by omega) (by simp [Value.ownBlock])

theorem refPut_below {w : World} (n : Int) (hn : n < 0) : Calls Try.prog 43 #[.int .i64 n] w fun r w' => r = .returned (.slice none 0 0) ∧ w = w' := by
  go_enter Try.func43, Try.ntmps43
  go_wp2
  go_ret
  exact ⟨rfl, rfl⟩

end Go.Proofs.Ytepgkdmfoojppaa
