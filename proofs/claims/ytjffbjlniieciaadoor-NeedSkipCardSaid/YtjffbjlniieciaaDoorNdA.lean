/-
  The document's Size of layer 16.
-/
import Derived.Test.YtjffbjlniieciaaDoorNdM
import Derived.Test.YtjffbjlniieciaaDoorPrdO
import Derived.Lib.Hide
import Derived.Outline
import Derived.BigQuiet
import Derived.Deep.QuietTactic
namespace Go.Proofs.YtjffbjlniieciaaDoor
set_option linter.unusedSimpArgs false
set_option linter.unusedVariables false
open Go.RowKit

theorem below_up {B B' : Nat} {a w w' : World} (h : Below B a w) (h' : Below B' w w') (hB : B ≤ B') : Below B a w' := h.trans (h'.mono hB)

set_option maxRecDepth 20000 in
set_option maxHeartbeats 4000000 in
theorem sizep_any : ∀ (p : Pr) {w : World} {lo hi : Nat} {A : Option Addr} {c : Nat} (most : Int), PrOk p → Kin w lo hi p.kids A c → hi ≤ w.heap.size → -1000000 ≤ most → most ≤ 1000000 →
    Calls Tryd.prog 21 #[.agg #[.int .i64 p.kind, .int .i64 p.col, .string p.s, .int .i64 p.esc, .int .i64 p.coll, .slice A p.kids.length c], .int .i64 most] w fun r w' => r = .returned (.int .i64 (sizeP p most)) ∧ Below w.heap.size w w' :=
  Pr.ind fun p ih w lo hi A c most ho hk hhi hm1 hm2 => by
    have HIH := Lib.hid ih
    have HK := Lib.hid hk
    obtain ⟨hl1, hl2⟩ := hk.len
    clear ih hk ho
    obtain ⟨V, hV⟩ : ∃ V, sizeP p most = V := ⟨_, rfl⟩
    rw [hV]
    have HV := Lib.hid hV
    clear hV
    obtain ⟨w1, hw1⟩ : ∃ w1, w.alloc (.cells #[.int .i64 p.kind, .int .i64 p.col, .string p.s, .int .i64 p.esc, .int .i64 p.coll, .slice A p.kids.length c] 24) = w1 := ⟨_, rfl⟩
    have B1 : Hid (Below w.heap.size w w1) := by unfold Hid; rw [← hw1]; exact (Below.refl _ w).alloc (Nat.le_refl _) _
    have hb : Blk w1 w.heap.size 24 #[.int .i64 p.kind, .int .i64 p.col, .string p.s, .int .i64 p.esc, .int .i64 p.coll, .slice A p.kids.length c] := by rw [← hw1]; exact Blk.new w _ _
    have hs1 : w1.heap.size = w.heap.size + 1 := by rw [← hw1]; simp
    have HC5 : Hid (∀ W, Below w1.heap.size w1 W → W.cell? ⟨w.heap.size, 5, none⟩ = some (.slice A p.kids.length c)) := fun W hW => (hb.below hW (by omega)).cell 5
    have HK1 := Lib.hid (HK.out.kept B1.out hhi)
    clear hb HK
    go_enter Tryd.func21, Tryd.ntmps21
    go_wp2_with fail
    go_loopw [5, 6] (fun x5 x6 wr => ∃ (k : Nat) (n : Int), k ≤ p.kids.length ∧ x6 = .int .i64 (k : Int) ∧ x5 = .int .i64 n ∧ (p.kids.take k).foldl (sizeS most) 1 = n ∧ 1 ≤ n ∧ (n = 1 ∨ n ≤ most + 1) ∧ Below w1.heap.size w1 wr) (fun _ x6 _ => p.kids.length - (intOf x6).toNat)
    case atStart => exact ⟨0, 1, Nat.zero_le _, rfl, rfl, by simp, Int.le_refl _, .inl rfl, Below.refl _ _⟩
    case round =>
      obtain ⟨k, n, hk, rfl, rfl, hf, hn1, hn2, hb⟩ := hrel
      have HF := Lib.hid hf
      have HB := Lib.hid hb
      have hsz := hb.size
      have hc5 := HC5.out wr hb
      clear hf hb
      by_cases hlt : k < p.kids.length
      · have ik : (k : Int) < (p.kids.length : Int) := by omega
        by_cases hnm : n ≤ most
        · obtain ⟨b, off, kA, kc, rfl, hlo, hbh, c0, c1, c2, c3, c4, c5, hok, hkk⟩ := (HK1.out.kept HB.out (by omega)).six hlt
          have HQ := Lib.hid (HIH.out p.kids[k] (List.getElem_mem hlt) (w := wr) (most - n) hok hkk (by omega) (by omega) (by omega))
          have HT := Lib.hid (sizeP_take (most := most) hlt)
          have hqb := sizeP_bound p.kids[k] (most - n)
          have hqb2 := hqb.2 (by omega)
          have hqb1 := hqb.1
          generalize p.kids[k] = q at *
          obtain ⟨z, hz⟩ : ∃ z, sizeP q (most - n) = z := ⟨_, rfl⟩
          rw [hz] at HQ hqb1 hqb2
          have HZ := Lib.hid hz
          have HNF : Hid ((p.kids.take (k + 1)).foldl (sizeS most) 1 = n + z) := by
            unfold Hid
            rw [HT.out, HF.out, sizeS, if_pos hnm, HZ.out]
          clear hqb hz hok hkk
          go_wp2_with fail
          refine HQ.out.mono ?_
          rintro r w2 ⟨rfl, b2⟩
          have HB2 := Lib.hid (below_up HB.out b2 hsz)
          clear b2
          go_wp2_with fail
          go_roundw
          case rel => exact ⟨k + 1, n + z, by omega, by go_num, by first | rfl | go_num, HNF.out, by omega, .inr (by omega), HB2.out⟩
          case measure => simp [intOf] <;> omega
        · have HVV : Hid (V = n) := by
            unfold Hid
            rw [← HV.out, ← HF.out]
            exact sizeP_stop (by rw [HF.out]; exact hnm)
          go_wp2_with fail
          go_ret
          exact ⟨by rw [HVV.out]; rfl, below_up B1.out HB.out (by omega)⟩
      · have ik : ¬ (k : Int) < (p.kids.length : Int) := by omega
        have HVV : Hid (V = n) := by
          unfold Hid
          rw [← HV.out, ← HF.out, sizeP_eq, List.take_of_length_le (by omega)]
        go_wp2_with fail
        go_ret
        exact ⟨by rw [HVV.out]; rfl, below_up B1.out HB.out (by omega)⟩
end Go.Proofs.YtjffbjlniieciaaDoor
