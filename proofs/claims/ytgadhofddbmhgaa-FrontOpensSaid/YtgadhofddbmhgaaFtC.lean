/-
  The library's slices.Grow of nothing yet, and slices.Concat, of bytes.
-/
import Derived.Test.YtgadhofddbmhgaaPartM
import Derived.Test.YtgadhofddbmhgaaByt
import Derived.Test.YtgadhofddbmhgaaOutM
import Derived.Lib.AppendZeros
namespace Go.Proofs.Ytgadhofddbmhgaa
set_option linter.unusedSimpArgs false
set_option linter.unusedVariables false
open Go.RowKit

theorem zero_size (z : Value) (n : Nat) (h : z.cells.size = 1) : (Builtin.zeroCells z.cells n).size = n := by simp [Builtin.zeroCells, h]
set_option maxRecDepth 20000 in
set_option maxHeartbeats 1000000 in
theorem sgrow_any {w : World} (n : Nat) (h0 : 0 < n) (h1 : n ≤ 100000000000000) :
    Calls Try.prog 48 #[.slice none 0 0, .int .i64 (n : Int)] w fun r w' => ∃ A c, r = .returned (.slice A 0 c) ∧ w'.ownsRow w.heap.size 5 1 (.slice A 0 c) 0 [] ∧ Below w.heap.size w w' := by
  obtain ⟨i0, hi0, hz0, hz1, hz2⟩ := info_parts Try.infoU8
  have hc1 := grownCap_le_maxLen w n 0 5 (by unfold maxLen; omega)
  have hc2 := grownCap_ge w n 0 5
  have hrun := fun ty => Lib.run_append_nil_zeros (P := Try.prog) w 25 3 ty 5 i0 (.int .u8 0) .i64 .i64 Try.underlying25 Try.underlying3 hi0 hz0 n h0 (by omega) (by omega) (by rw [hz2]; omega)
  have hown : (w.drew.alloc (.cells (Builtin.zeroCells (Value.int .u8 0).cells n ++ Builtin.zeroCells (Value.int .u8 0).cells (grownCap w n 0 5 - n)) 5)).ownsRow w.heap.size 5 1 (.slice (some ⟨w.heap.size, 0, none⟩) 0 (grownCap w n 0 5)) 0 [] := by
    have := World.ownsRow_made (e := 5) (size := 1) (base := w.heap.size) w.drew (Builtin.zeroCells (Value.int .u8 0).cells n ++ Builtin.zeroCells (Value.int .u8 0).cells (grownCap w n 0 5 - n)) (grownCap w n 0 5) (Nat.le_refl _) hc1 (by rw [Array.size_append, zero_size _ _ rfl, zero_size _ _ rfl]; omega)
    exact this
  have hbel : Below w.heap.size w (w.drew.alloc (.cells (Builtin.zeroCells (Value.int .u8 0).cells n ++ Builtin.zeroCells (Value.int .u8 0).cells (grownCap w n 0 5 - n)) 5)) := (below_drewN' (Below.refl _ w) 1).alloc (Nat.le_refl _) _
  unfold maxLen at hc1
  generalize grownCap w n 0 5 = G at *
  generalize w.drew.alloc (.cells (Builtin.zeroCells (Value.int .u8 0).cells n ++ Builtin.zeroCells (Value.int .u8 0).cells (G - n)) 5) = w1 at *
  have HO := Lib.hid hown
  have HB := Lib.hid hbel
  have HRUN := Lib.hid hrun
  have i1 : ¬ (n : Int) < 0 := by omega
  have i2 : (0 : Int) < (n : Int) := by omega
  clear hown hbel hrun
  go_enter Try.func48, Try.ntmps48
  go_wp2_with (at_builtin; refine Lib.wpList_append_run _ rfl _ _ _ _ rfl _ _ rfl rfl _ _ (HRUN.out _) ?_)
  go_ret
  exact ⟨_, _, rfl, HO.out, HB.out⟩
theorem partsL_len (ps : List Part) {k : Nat} (hk : k ≤ ps.length) : (partsL (ps.take k)).length ≤ (partsL ps).length := by
  have : partsL ps = partsL (ps.take k) ++ partsL (ps.drop k) := by unfold partsL; rw [← List.flatMap_append, List.take_append_drop]
  rw [this, List.length_append]
  omega
set_option maxRecDepth 20000 in
set_option maxHeartbeats 4000000 in
theorem sconcat_any {w : World} (ps : List Part) {A : Option Addr} {c : Nat} (h : Rd w 0 w.heap.size A c (ps.map Part.val)) (hp : ∀ p ∈ ps, p.rd w w.heap.size) (h0 : 0 < (partsL ps).length) (h1 : (partsL ps).length ≤ 100000000000000) :
    Calls Try.prog 30 #[.slice A ps.length c] w fun r w' => ∃ A' c', r = .returned (.slice A' (partsL ps).length c') ∧ w'.ownsRow w.heap.size 5 1 (.slice A' (partsL ps).length c') (partsL ps).length (bv (partsL ps)) ∧ Below w.heap.size w w' := by
  have hl := h.len
  have hm := h.cap
  rw [List.length_map] at hl
  unfold maxLen at hm
  have H := Lib.hid h
  have HP := Lib.hid hp
  have HTK : Hid (∀ k (hk : k < ps.length), partsL (ps.take (k + 1)) = partsL (ps.take k) ++ ps[k].bs) := fun k hk => partsL_take ps hk
  have HLE : Hid (∀ k, k ≤ ps.length → (partsL (ps.take k)).length ≤ (partsL ps).length) := fun k hk => partsL_len ps hk
  have HALL : Hid (partsL (ps.take ps.length) = partsL ps) := by unfold Hid; rw [List.take_length]
  generalize (partsL ps) = T at *
  obtain ⟨N, hN⟩ : ∃ N, T.length = N := ⟨_, rfl⟩
  have HN := Lib.hid hN
  rw [hN] at h0 h1 HLE
  clear h hp hN
  go_enter Try.func30, Try.ntmps30
  go_wp2_with fail
  go_loop [3, 11] (fun x3 x11 => ∃ k q : Nat, k ≤ ps.length ∧ x11 = .int .i64 (k : Int) ∧ x3 = .int .i64 (q : Int) ∧ q = (partsL (ps.take k)).length) (fun _ i => ps.length - (intOf i).toNat)
  case atStart => exact ⟨0, 0, Nat.zero_le _, rfl, rfl, rfl⟩
  case round =>
    obtain ⟨k, q, hk, rfl, rfl, hq⟩ := hrel
    have HQ := Lib.hid hq
    clear hq
    by_cases hlt : k < ps.length
    · have ik : (k : Int) < (ps.length : Int) := by omega
      obtain ⟨b, off, rfl, _, _, hcell⟩ := H.out.get (k := k) (by rw [List.length_map]; exact hlt)
      rw [List.getElem_map] at hcell
      have hle := HLE.out (k + 1) (by omega)
      have HT := Lib.hid (HTK.out k hlt)
      have e := HT.out
      rw [e, List.length_append, ← HQ.out] at hle
      have hql : Hid ((partsL (ps.take (k + 1))).length = q + ps[k].bs.length) := by unfold Hid; rw [e, List.length_append, ← HQ.out]
      clear e HT HTK HLE
      generalize ps[k] = p at *
      obtain ⟨A1, c1, bs⟩ := p
      unfold Part.val at hcell
      dsimp only at hcell hle hql
      have w1 : IntKind.i64.wrap ((q : Int) + (bs.length : Int)) = ((q + bs.length : Nat) : Int) := (IntWalk.i64_in _ (by omega)).trans (by omega)
      have n1 : ¬ ((q + bs.length : Nat) : Int) < 0 := by omega
      go_wp2_with fail
      go_round
      case rel => exact ⟨k + 1, q + bs.length, by omega, by go_num, by go_num, hql.out.symm⟩
      case measure => simp [intOf]; omega
    · obtain rfl : k = ps.length := by omega
      have hqN : q = N := by rw [HQ.out, HALL.out, HN.out]
      subst hqN
      go_wp2_with fail
      refine (sgrow_any q h0 h1).mono ?_
      rintro r w1 ⟨A1, c1, rfl, hown1, hb1⟩
      have HO1 := Lib.hid hown1
      have HB1 := Lib.hid hb1
      clear hown1 hb1
      go_wp2_with fail
      go_loopw [6, 27] (fun x6 x27 wr => ∃ (k n : Nat) (A' : Option Addr) (c' : Nat), k ≤ ps.length ∧ x27 = .int .i64 (k : Int) ∧ x6 = .slice A' n c' ∧ n = (partsL (ps.take k)).length ∧
        wr.ownsRow w.heap.size 5 1 (.slice A' n c') n (bv (partsL (ps.take k))) ∧ Below w.heap.size w wr) (fun _ i _ => ps.length - (intOf i).toNat)
      case atStart => exact ⟨0, 0, A1, c1, Nat.zero_le _, rfl, rfl, rfl, HO1.out, HB1.out⟩
      case round =>
        clear HO1 HB1 HQ
        obtain ⟨k, n, A', c', hk2, rfl, rfl, hn, hown, hb⟩ := hrel
        have HNN := Lib.hid hn
        have HO := Lib.hid hown
        have HB := Lib.hid hb
        have hsz := hb.size
        clear hn hown hb
        by_cases hlt : k < ps.length
        · have ik : (k : Int) < (ps.length : Int) := by omega
          obtain ⟨b, off, rfl, _, _, hcell⟩ := (H.out.below HB.out (Nat.le_refl _)).get (k := k) (by rw [List.length_map]; exact hlt)
          rw [List.getElem_map] at hcell
          have hle := HLE.out (k + 1) (by omega)
          have hr := (HP.out ps[k] (List.getElem_mem hlt)).below HB.out (Nat.le_refl _)
          have e := HTK.out k hlt
          rw [e, List.length_append, ← HNN.out] at hle
          have ho := HO.out
          rw [HNN.out] at ho
          obtain ⟨A2, c2, w2, hrun2, hown2, hg2⟩ := append_named wr w.heap.size _ _ ps[k].bs (partsL (ps.take (k + 1))) e.symm ho hr (by rw [← HNN.out]; omega) hsz
          rw [← HNN.out] at hrun2
          obtain ⟨us, hus⟩ : ∃ us, partsL (ps.take (k + 1)) = us := ⟨_, rfl⟩
          rw [hus] at hrun2 hown2 e
          have HUS := Lib.hid hus
          have HO2 := Lib.hid hown2
          have HB2 := Lib.hid (HB.out.grown hg2 hsz (fun g hg => (own_lt ho hg).1))
          clear hown2 hg2 ho hr e hus HO HB HLE HTK
          generalize ps[k] = p at *
          obtain ⟨A1, c1, bs⟩ := p
          unfold Part.val at hcell
          dsimp only at hcell hle hrun2
          go_wp2_with (at_builtin; refine wpList_append_run rfl _ _ _ _ rfl rfl rfl hrun2 ?_; refine held ?_)
          refine ⟨?_⟩
          clear hrun2
          go_wp2_with fail
          go_roundw
          case rel => exact ⟨k + 1, us.length, A2, c2, by omega, by go_num, rfl, by rw [HUS.out], by rw [HUS.out]; exact HO2.out, HB2.out⟩
          case measure => simp [intOf]; omega
        · obtain rfl : k = ps.length := by omega
          have hnn := HNN.out
          have ho := HO.out
          rw [HALL.out] at hnn ho
          have HNF := Lib.hid hnn
          have HOF := Lib.hid ho
          clear hnn ho
          go_wp2_with fail
          go_ret
          exact ⟨A', c', by rw [← HNF.out]; rfl, by rw [← HNF.out]; exact HOF.out, HB.out⟩
end Go.Proofs.Ytgadhofddbmhgaa
