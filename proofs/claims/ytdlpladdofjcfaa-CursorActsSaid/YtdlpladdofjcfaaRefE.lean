/-
  The document's own Put and Text, and Same.
-/
import Derived.Test.YtdlpladdofjcfaaCurE
namespace Go.Proofs.Ytdlpladdofjcfaa
set_option linter.unusedSimpArgs false
set_option linter.unusedVariables false
open Go.RowKit

theorem same_any {w : World} {lo h' lo2 h2 : Nat} {A B : Option Addr} {c d : Nat} (xs ys : List UInt8) (hx : Rd w lo h' A c (bv xs)) (hy : Rd w lo2 h2 B d (bv ys)) :
    Calls Try.prog 8 #[.slice A xs.length c, .slice B ys.length d] w fun r w' => r = .returned (.bool (decide (xs = ys))) ∧ w = w' := by
  have h1 := run_string_rd (P := Try.prog) w 24 9 5 Try.underlying24 Try.underlying5 Try.underlying9 lo h' A c xs hx
  have h2 := run_string_rd (P := Try.prog) w 24 9 5 Try.underlying24 Try.underlying5 Try.underlying9 lo2 h2 B d ys hy
  clear hx hy
  go_enter Try.func8, Try.ntmps8
  go_wp2
  go_ret
  refine ⟨ret_bool ?_, rfl⟩
  by_cases h : xs = ys
  · simp [h]
  · simp [h]

theorem same_take {w : World} {lo h' lo2 h2 : Nat} {A B : Option Addr} {c d : Nat} (xs ys : List UInt8) (k : Nat) (hk : k ≤ ys.length) (hx : Rd w lo h' A c (bv xs)) (hy : Rd w lo2 h2 B d (bv ys)) (he : xs = ys.take k) :
    Calls Try.prog 8 #[.slice A xs.length c, .slice B k d] w fun r w' => r = .returned (.bool true) ∧ w = w' := by
  have h := same_any xs (ys.take k) hx (by rw [bv_take]; exact hy.take_ k)
  rw [List.length_take, Nat.min_eq_left hk, decide_eq_true he] at h
  exact h

set_option maxRecDepth 20000 in
theorem refPut_any (n : Nat) : ∀ {w : World}, n ≤ 9223372036854775807 →
    Calls Try.prog 10 #[.int .i64 (n : Int)] w fun r w' => ∃ A c, r = .returned (.slice A (putL n).length c) ∧ w'.ownsRow w.heap.size 5 1 (.slice A (putL n).length c) (putL n).length (bv (putL n)) ∧ Below w.heap.size w w' := by
  induction n using Nat.strongRecOn with
  | ind n ih =>
    intro w hn
    have h9 := putL_nine n hn
    have HI := Lib.hid ih
    clear ih
    by_cases hlt : n < 128
    · have HE := Lib.hid (putL_small hlt)
      have HA : Hid ((UInt8.ofNat n).toNat = n) := by
        unfold Hid
        rw [UInt8.toNat_ofNat']; omega
      go_enter Try.func10, Try.ntmps10
      go_wp2
      go_ret
      rw [HE.out]
      have hv : bv [UInt8.ofNat n] = [.int .u8 (n : Int)] := by simp only [bv, List.map_cons, List.map_nil, HA.out]
      refine ⟨_, _, rfl, ?_, (Below.refl _ _).alloc (Nat.le_refl _) _⟩
      rw [hv]
      exact World.ownsRow_lit w #[_] 1 (Nat.le_refl _) (by simp [maxLen]) rfl
    · have HE := Lib.hid (putL_big (n := n) (by omega))
      have h10 := putL_nine (n / 128) (by omega)
      have HA : Hid ((UInt8.ofNat (n % 128 + 128)).toNat = n % 128 + 128) := by
        unfold Hid
        rw [UInt8.toNat_ofNat']; omega
      go_enter Try.func10, Try.ntmps10
      go_wp2_with fail
      rw [show ((n : Int) / 128) = ((n / 128 : Nat) : Int) from by omega]
      refine (HI.out (n / 128) (by omega) (by omega)).mono ?_
      rintro r w1 ⟨A, c, rfl, hown, hbel⟩
      have hsz := hbel.size
      simp only [World.size_alloc] at hsz
      have hlit := own_below (own_byte w 5 _ (UInt8.ofNat (n % 128 + 128)) (by rw [HA.out]; omega)) hbel (by simp)
      obtain ⟨A', c', w2, hrun, hown2, hg2⟩ := append_bytes w1 w.heap.size _ _ _ hlit (Rd.own hown) (by simp; omega) (by omega)
      have HO2 := Lib.hid hown2
      have HG2 := Lib.hid hg2
      have HB := Lib.hid hbel
      clear hown hown2 hg2 hbel hlit
      go_wp2_with (at_builtin; refine wpList_append_run rfl _ _ _ _ rfl rfl rfl hrun ?_)
      go_ret
      have e : (putL n).length = 1 + (putL (n / 128)).length := by rw [HE.out]; simp; omega
      refine ⟨A', c', by rw [e]; rfl, ?_, ?_⟩
      · rw [e, HE.out]; exact HO2.out
      · exact (((Below.refl _ _).alloc (Nat.le_refl _) _).trans (HB.out.mono (by simp))).grown HG2.out (by omega) (by simp [Value.ownBlock])

theorem refPut_below {w : World} (n : Int) (hn : n < 0) : Calls Try.prog 10 #[.int .i64 n] w fun r w' => r = .returned (.slice none 0 0) ∧ w = w' := by
  go_enter Try.func10, Try.ntmps10
  go_wp2
  go_ret
  exact ⟨rfl, rfl⟩

theorem refText_any {w : World} (s : ByteArray) (hs : s.size ≤ 100000) :
    Calls Try.prog 12 #[.string s] w fun r w' => ∃ A c, r = .returned (.slice A (textL s.data.toList).length c) ∧ w'.ownsRow w.heap.size 5 1 (.slice A (textL s.data.toList).length c) (textL s.data.toList).length (bv (textL s.data.toList)) ∧ Below w.heap.size w w' := by
  have h9 := putL_nine s.size (by omega)
  go_enter Try.func12, Try.ntmps12
  go_wp2_with fail
  refine (refPut_any s.size (by omega)).mono ?_
  rintro r w1 ⟨A, c, rfl, hown, hbel⟩
  have hcv := Lib.run_convert_string_bytes (P := Try.prog) w1 9 24 5 s Try.underlying9 Try.underlying24 Try.underlying5
  have hcap := grownCap_le_maxLen w1 s.size 0 5 (by simp only [maxLen]; omega)
  have hrd := bytesWorld_rd w1 5 s hcap
  have hb2 := bytesWorld_below w1 5 s (Nat.le_refl _)
  have hsz := hb2.size
  obtain ⟨A', c', w2, hrun, hown2, hg2⟩ := append_bytes (Lib.bytesWorld w1 5 s) w.heap.size _ _ s.data.toList (own_below hown hb2 (Nat.le_refl _)) hrd (by have : s.data.toList.length = s.size := rfl; omega) (by have := hbel.size; omega)
  have HO := Lib.hid hown
  have HO2 := Lib.hid hown2
  have HG2 := Lib.hid hg2
  have HB := Lib.hid hbel
  have HB2 := Lib.hid hb2
  clear hown hown2 hg2 hbel hb2 hrd
  go_wp2_with (at_builtin; refine wpList_append_run rfl _ _ _ _ rfl rfl rfl hrun ?_)
  go_ret
  have e : (textL s.data.toList).length = (putL s.size).length + s.data.toList.length := by simp [textL]
  refine ⟨A', c', by rw [e]; rfl, by rw [e]; exact HO2.out, ?_⟩
  refine (HB.out.trans (HB2.out.mono HB.out.size)).grown HG2.out (Nat.le_trans HB.out.size HB2.out.size) (fun k hk => (HO.out.lt k hk).1)
end Go.Proofs.Ytdlpladdofjcfaa
