/-
  Heaps: a buffer's bytes; where the next string would stand.
-/
import Derived.Test.YtpainhgjiddpkaaHepA
namespace Go.Proofs.Ytpainhgjiddpkaa
set_option linter.unusedSimpArgs false
set_option linter.unusedVariables false
open Go.RowKit

theorem buffer_at {w : World} {lo g : Nat} {most : Int} {bs : List UInt8} {es : List Nat} {M : Nat → Prop} (h : Hp w lo g most bs es M) (k : Nat) (hk : k < es.length) :
    Calls Try.prog 37 #[hp g, .int .i64 (k : Int)] w fun r w' => ∃ A c, r = .returned (.slice A (bufL bs es k).length c) ∧ Rd w lo w.heap.size A c (bv (bufL bs es k)) ∧ ∃ m, w' = w.drewN m := by
  obtain ⟨A, c, A2, c2, h0, h1, h2, hr, hr2⟩ := h.cells
  have hf := h.few
  have hE := h.ends
  obtain ⟨b, off, rfl, _, _, hc⟩ := hr2.num (k := k) (by rw [ints_length]; exact hk)
  rw [ints_get _ _ hk, ← ed_succ hk] at hc
  have hu := hE.up k hk
  have ht := hE.top (k + 1) (by omega)
  have hl := hr.len
  have hl2 := hr2.len
  have hm := hr.cap
  have hm2 := hr2.cap
  rw [bv_length] at hl
  rw [iv_length, ints_length] at hl2
  unfold maxLen at hm hm2
  have hcut := hr.cut (k := ed es k) (n := ed es (k + 1)) hu (by rw [bv_length]; exact ht)
  have hbl := bufL_length hE hk
  have hbu : bufL bs es k = (bs.drop (ed es k)).take (ed es (k + 1) - ed es k) := by unfold bufL; rw [if_pos hk]
  rw [← bv_drop, ← bv_take, ← hbu] at hcut
  rw [hbl]
  rcases Nat.eq_zero_or_pos k with rfl | hpos
  · have hcut := hr.take_ (ed es (0 + 1))
    rw [← bv_take] at hcut
    rw [ed_zero, List.drop_zero, Nat.sub_zero] at hbu
    rw [← hbu] at hcut
    rw [ed_zero] at hu
    rw [ed_zero]
    rw [Nat.add_zero] at hc
    rw [show ((0 : Nat) : Int) = 0 from rfl]
    have hk0 : (0 : Int) < (es.length : Int) := by omega
    generalize ed es (0 + 1) = y at *
    have HC := Lib.hid hcut
    clear h hr hr2 h0 hbl hbu hE hcut
    generalize es.length = n at *
    unfold hp
    go_enter Try.func37, Try.ntmps37
    go_wp2
    go_quiet (fail)
    go_wp2
    go_ret
    exact ⟨_, _, rfl, HC.out, _, rfl⟩
  · obtain ⟨b2, off2, he, _, _, hc2⟩ := hr2.num (k := k - 1) (by rw [ints_length]; omega)
    injection he with he
    injection he with he1 he2
    subst he1 he2
    rw [ints_get _ _ (by omega), ← ed_succ (by omega), show k - 1 + 1 = k by omega] at hc2
    generalize ed es (k + 1) = y at *
    generalize ed es k = x at *
    have e1 : (k : Int) - 1 = ((k - 1 : Nat) : Int) := by omega
    have HC := Lib.hid hcut
    clear h hr hr2 h0 hbl hbu hE hcut
    generalize es.length = n at *
    unfold hp
    by_cases h9 : c = x
    all_goals
      go_enter Try.func37, Try.ntmps37
      go_wp2
      go_quiet (fail)
      go_wp2
      go_ret
      exact ⟨_, _, rfl, by first | (rw [if_pos h9, h9, Nat.sub_self] at HC; exact HC.out) | (rw [if_neg h9] at HC; exact HC.out), _, rfl⟩

theorem next_any {w : World} {lo g : Nat} {most : Int} {bs : List UInt8} {es : List Nat} {M : Nat → Prop} (h : Hp w lo g most bs es M) (n : Nat) (hn : n ≤ 1000000) :
    Calls Try.prog 26 #[hp g, .int .i64 (n : Int)] w fun r w' => r = .returned (.tuple #[.int .i64 ((nextL es n).1 : Int), .int .i64 ((nextL es n).2 : Int)]) ∧ ∃ m, w' = w.drewN m := by
  obtain ⟨A, c, A2, c2, h0, h1, h2, hr, hr2⟩ := h.cells
  have hf := h.few
  rcases Nat.eq_zero_or_pos es.length with he | he
  · have hb := buffer_no h (-1) (.inl (by omega))
    have e : nextL es n = (0, 0) := by unfold nextL; rw [if_neg (by omega), he]
    rw [e]
    rw [he] at h2
    have HB := Lib.hid hb
    clear h hr hr2 h0 h1 hb e he hf
    unfold hp at HB ⊢
    go_enter Try.func26, Try.ntmps26
    go_wp2_with fail
    refine HB.out.mono ?_
    rintro r w' ⟨rfl, rfl⟩
    go_wp2
    go_ret2
    exact ⟨rfl, 0, rfl⟩
  · obtain ⟨k, hk⟩ : ∃ k, es.length = k + 1 := ⟨es.length - 1, by omega⟩
    have hb := buffer_at h k (by omega)
    have hbl := bufL_length h.ends (k := k) (by omega)
    have hbm := bufL_le (bs := bs) (es := es) k
    have hu : usedL es = (bufL bs es k).length := by rw [hbl]; unfold usedL; rw [hk]; rfl
    rw [hk] at h2 hf
    have e1 : (((k + 1 : Nat) : Int)) - 1 = (k : Int) := by omega
    by_cases hc : usedL es + n ≤ 65536
    · have e : nextL es n = (k, usedL es) := by unfold nextL; rw [if_pos ⟨he, hc⟩, hk]; rfl
      rw [e]
      rw [hu] at hc ⊢
      generalize (bufL bs es k).length = u at *
      have HB := Lib.hid hb
      have hc2 : (n : Int) ≤ 65536 - (u : Int) := by omega
      clear h hr hr2 h0 h1 hb e he hu hbl
      unfold hp at HB ⊢
      go_enter Try.func26, Try.ntmps26
      go_wp2_with fail
      refine HB.out.mono ?_
      rintro r w' ⟨A', c', rfl, _, m, rfl⟩
      go_wp2
      go_ret2
      exact ⟨rfl, _, rfl⟩
    · have e : nextL es n = (k + 1, 0) := by unfold nextL; rw [if_neg (fun h => hc h.2), hk]
      rw [e]
      rw [hu] at hc
      generalize (bufL bs es k).length = u at *
      have HB := Lib.hid hb
      have hc2 : ¬ (n : Int) ≤ 65536 - (u : Int) := by omega
      clear h hr hr2 h0 h1 hb e he hu hbl
      unfold hp at HB ⊢
      go_enter Try.func26, Try.ntmps26
      go_wp2_with fail
      refine HB.out.mono ?_
      rintro r w' ⟨A', c', rfl, _, m, rfl⟩
      go_wp2
      go_ret2
      exact ⟨rfl, _, rfl⟩
end Go.Proofs.Ytpainhgjiddpkaa
