/-
  The program's fsst: pieces, the iterator of codes and escapes: its contract over whatever loop body keeps what it reads.
-/
import Derived.Test.YtniehbghgialjaaFpP
import Derived.RangeFuncNested
import Derived.RangeFuncBound
import Derived.RangeFuncCalls
import Derived.RangeFuncLeaves
import Derived.RangeFuncBox
import Derived.Shelf.Abstract
import Derived.Shelf.RegionOpen
import Derived.WalkKit
import Derived.OwnWalkIn
import Derived.TacticsInMore
import Derived.LoopNIn
import Derived.LoopIn
namespace Go.Proofs.Ytniehbghgialjaa
set_option linter.unusedSimpArgs false
set_option linter.unusedVariables false
open Go.RowKit Go.Shelf

attribute [local go_sem] Oper.semAt_some

/-- what a round keeps: what lay below n₀, and the two boxes that the iterator reads -/
structure Kp2 (n₀ Bb Bt : Nat) (W W' : World) : Prop where
  below : Below n₀ W W'
  b : W'.heap[Bb]? = W.heap[Bb]?
  t : W'.heap[Bt]? = W.heap[Bt]?
theorem Kp2.trans {n₀ Bb Bt : Nat} {A B C : World} (h : Kp2 n₀ Bb Bt A B) (k : Kp2 n₀ Bb Bt B C) : Kp2 n₀ Bb Bt A C := ⟨h.below.trans k.below, k.b.trans h.b, k.t.trans h.t⟩
theorem Kp2.refl (n₀ Bb Bt : Nat) (W : World) : Kp2 n₀ Bb Bt W W := ⟨Below.refl _ _, rfl, rfl⟩
theorem Kp2.cellb {n₀ Bb Bt : Nat} {A B : World} (h : Kp2 n₀ Bb Bt A B) : B.cell? ⟨Bb, 0, none⟩ = A.cell? ⟨Bb, 0, none⟩ := World.cell?_of_block h.b
theorem Kp2.cellt {n₀ Bb Bt : Nat} {A B : World} (h : Kp2 n₀ Bb Bt A B) : B.cell? ⟨Bt, 0, none⟩ = A.cell? ⟨Bt, 0, none⟩ := World.cell?_of_block h.t

/-- pieces's value: the iterator and its two boxes -/
def piecesV (Bb Bt : Nat) : Array Value := #[.pointer (some ⟨Bb, 0, none⟩), .pointer (some ⟨Bt, 0, none⟩)]
def encPc (x : Pc) : Array Value := #[.string x.s, .int .i64 (x.e : Int)]

set_option maxRecDepth 100000 in
set_option maxHeartbeats 4000000 in
theorem pieces1_in (F : Fence) (n : Nat) (hf : F.fn 22) (hro : F.round = none) (hn : 1 ≤ n) (lp Bb Bt n₀ : Nat) (l : List ByteArray) (h8 : ∀ t ∈ l, t.size ≤ 8) (hln : l.length ≤ 255) (bs : List UInt8) (hbl : bs.length ≤ 1000000) {c c2 : Nat} {A B : Option Addr} (J Jx : List Pc → World → Prop)
    (hY : ∀ pre x W, J pre W → pre.length < (pcF l h8 false bs).length → YieldAt F (n - 1) Try.prog lp (encPc x) W fun e W' =>
      (e = .returned (.bool true) ∧ J (pre ++ [x]) W' ∧ Kp2 n₀ Bb Bt W W') ∨ (e = .returned (.bool false) ∧ Jx (pre ++ [x]) W'))
    (W : World) (hBb : W.cell? ⟨Bb, 0, none⟩ = some (.slice B bs.length c2)) (hBt : W.cell? ⟨Bt, 0, none⟩ = some (.slice A l.length c)) (hb : Rd W 0 n₀ B c2 (bv bs)) (ht : Rd W 0 n₀ A c (sv l)) (h0 : J [] W) :
    CallsIn F n Try.prog 22 #[.func (.yield lp) #[] #[], .pointer (some ⟨Bb, 0, none⟩), .pointer (some ⟨Bt, 0, none⟩)] W fun e W' => (∃ v, e = .returned v) ∧
      ((∃ ys, ys = pcF l h8 false bs ∧ J ys W') ∨ (∃ pre, pre <+: pcF l h8 false bs ∧ Jx pre W')) := by
  have hl := hb.len
  have hm := hb.cap
  have hl1 := ht.len
  have hm1 := ht.cap
  rw [sv_length] at hl1
  rw [bv_length] at hl
  unfold maxLen at hm hm1
  have HB := Lib.hid hb
  have HT := Lib.hid ht
  have HY := Lib.hid hY
  obtain ⟨ps, hps⟩ : ∃ ps, pcF l h8 false bs = ps := ⟨_, rfl⟩
  rw [hps] at HY ⊢
  have HPS := Lib.hid hps
  clear hb ht hY hps
  refine callsIn_of_wp Try.func22 rfl hf ?_ hro
  simp only [Try.ntmps22, List.size_toArray, List.length_cons, List.length_nil, Nat.reduceAdd, Nat.reduceSub, Array.replicate_succ, Array.replicate_zero, List.push_toArray, List.append_toArray, List.nil_append, List.cons_append]
  gi_wp2
  gi_loopw [4, 11] (fun x4 x11 wr => ∃ (k : Nat) (f : Bool) (pre : List Pc), k ≤ bs.length ∧ x4 = .bool f ∧ x11 = .int .i64 (k : Int) ∧ pre ++ pcF l h8 f (bs.drop k) = ps ∧ J pre wr ∧ Kp2 n₀ Bb Bt W wr) (fun _ i _ => bs.length - (intOf i).toNat)
  case atStart => exact ⟨0, false, [], Nat.zero_le _, rfl, rfl, by rw [List.drop_zero, HPS.out]; rfl, h0, Kp2.refl _ _ _ _⟩
  case round =>
    obtain ⟨k, f, pre, hk, rfl, rfl, hpre, hJs, hkp⟩ := hrel
    have HPRE := Lib.hid hpre
    have HKP := Lib.hid hkp
    have hcb : wr.cell? ⟨Bb, 0, none⟩ = some (.slice B bs.length c2) := hkp.cellb.trans hBb
    have hct : wr.cell? ⟨Bt, 0, none⟩ = some (.slice A l.length c) := hkp.cellt.trans hBt
    clear hpre hkp
    by_cases hlt : k < bs.length
    · have ik : (k : Int) < (bs.length : Int) := by omega
      obtain ⟨b, off, rfl, hb1, hb2, hcell⟩ := (HB.out.below HKP.out.below (Nat.le_refl _)).byte hlt
      have lx : bs[k].toNat < 256 := UInt8.toNat_lt _
      cases f with
      | true =>
        have hpc := HPRE.out
        rw [pc_lit hlt] at hpc
        obtain ⟨fn, tmps, assign, body, hy, hR⟩ := HY.out pre (Pc.lit bs[k]) wr hJs (by rw [← hpc]; simp)
        dsimp only [encPc, Pc.lit] at hy
        rw [show ((0 : Nat) : Int) = 0 from rfl] at hy
        have HPC := Lib.hid hpc
        clear hpc
        have hcv : (convert 27 9 (.slice (some ⟨b, off + k, none⟩) 1 (c2 - k))).run Try.prog wr = .ok (.string ⟨#[bs[k]]⟩) wr := by
          refine run_string_rd (P := Try.prog) wr 27 9 5 Try.underlying27 Try.underlying5 Try.underlying9 0 (b + 1) _ _ [bs[k]] ⟨by simp [bv]; omega, by simp only [maxLen]; omega, fun _ => ⟨b, off + k, rfl, Nat.zero_le _, by omega, fun j u hu => ?_⟩⟩
          match j, hu with
          | 0, hu =>
            simp [bv] at hu
            subst hu
            exact hcell
          | j + 1, hu => simp [bv] at hu
        by_cases hx : bs[k].toNat = 255
        · rw [hx] at hcell
          gi_wp2
          refine hR.mono ?_
          rintro e W3 (⟨rfl, hJ3, hk3⟩ | ⟨rfl, hJx3⟩)
          · gi_wp2
            go_roundw
            case rel => exact ⟨k + 1, false, pre ++ [Pc.lit bs[k]], by omega, rfl, by go_num, by rw [List.append_assoc, List.singleton_append]; exact HPC.out, hJ3, HKP.out.trans hk3⟩
            case measure => simp [intOf]; omega
          · gi_wp2
            refine bodyPost_ret (results_none rfl _ _ _) rfl ?_
            exact ⟨⟨_, rfl⟩, .inr ⟨_, ⟨pcF l h8 false (bs.drop (k + 1)), by rw [List.append_assoc, List.singleton_append]; exact HPC.out⟩, hJx3⟩⟩
        · have ix : ¬ (bs[k].toNat : Int) = 255 := by omega
          have bx : ((bs[k].toNat : Int) == 255) = false := by rw [beq_eq_false_iff_ne]; exact ix
          gi_wp2
          refine hR.mono ?_
          rintro e W3 (⟨rfl, hJ3, hk3⟩ | ⟨rfl, hJx3⟩)
          · gi_wp2
            go_roundw
            case rel => exact ⟨k + 1, false, pre ++ [Pc.lit bs[k]], by omega, rfl, by go_num, by rw [List.append_assoc, List.singleton_append]; exact HPC.out, hJ3, HKP.out.trans hk3⟩
            case measure => simp [intOf]; omega
          · gi_wp2
            refine bodyPost_ret (results_none rfl _ _ _) rfl ?_
            exact ⟨⟨_, rfl⟩, .inr ⟨_, ⟨pcF l h8 false (bs.drop (k + 1)), by rw [List.append_assoc, List.singleton_append]; exact HPC.out⟩, hJx3⟩⟩
      | false =>
        by_cases hx : bs[k].toNat = 255
        · have hpc := HPRE.out
          rw [pc_esc hlt hx] at hpc
          have HPC := Lib.hid hpc
          clear hpc
          rw [hx] at hcell
          gi_wp2
          go_roundw
          case rel => exact ⟨k + 1, true, pre, by omega, rfl, by go_num, HPC.out, hJs, HKP.out⟩
          case measure => simp [intOf]; omega
        · have ix : ¬ (bs[k].toNat : Int) = 255 := by omega
          have bx : ((bs[k].toNat : Int) == 255) = false := by rw [beq_eq_false_iff_ne]; exact ix
          by_cases hxl : bs[k].toNat < l.length
          · have i1 : (bs[k].toNat : Int) < (l.length : Int) := by omega
            have d1 : decide ((bs[k].toNat : Int) < (l.length : Int)) = true := decide_eq_true (by omega)
            obtain ⟨b1, off1, rfl, _, _, hcell1⟩ := (HT.out.below HKP.out.below (Nat.le_refl _)).str hxl
            have hpc := HPRE.out
            rw [pc_sym hlt hx hxl] at hpc
            obtain ⟨fn, tmps, assign, body, hy, hR⟩ := HY.out pre ⟨l[bs[k].toNat], 0, h8 _ (List.getElem_mem hxl)⟩ wr hJs (by rw [← hpc]; simp)
            dsimp only [encPc] at hy
            rw [show ((0 : Nat) : Int) = 0 from rfl] at hy
            have HPC := Lib.hid hpc
            clear hpc
            gi_wp2
            refine hR.mono ?_
            rintro e W3 (⟨rfl, hJ3, hk3⟩ | ⟨rfl, hJx3⟩)
            · gi_wp2
              go_roundw
              case rel => exact ⟨k + 1, false, pre ++ [⟨l[bs[k].toNat], 0, h8 _ (List.getElem_mem hxl)⟩], by omega, rfl, by go_num, by rw [List.append_assoc, List.singleton_append]; exact HPC.out, hJ3, HKP.out.trans hk3⟩
              case measure => simp [intOf]; omega
            · gi_wp2
              refine bodyPost_ret (results_none rfl _ _ _) rfl ?_
              exact ⟨⟨_, rfl⟩, .inr ⟨_, ⟨pcF l h8 false (bs.drop (k + 1)), by rw [List.append_assoc, List.singleton_append]; exact HPC.out⟩, hJx3⟩⟩
          · have i1 : ¬ (bs[k].toNat : Int) < (l.length : Int) := by omega
            have d1 : decide ((bs[k].toNat : Int) < (l.length : Int)) = false := decide_eq_false (by omega)
            have hpc := HPRE.out
            rw [pc_bad hlt hx hxl] at hpc
            obtain ⟨fn, tmps, assign, body, hy, hR⟩ := HY.out pre (Pc.err 3) wr hJs (by rw [← hpc]; simp)
            dsimp only [encPc, Pc.err] at hy
            rw [show ((3 : Nat) : Int) = 3 from rfl] at hy
            have HPC := Lib.hid hpc
            clear hpc
            gi_wp2
            refine hR.mono ?_
            rintro e W3 (⟨rfl, hJ3, hk3⟩ | ⟨rfl, hJx3⟩)
            · gi_wp2
              refine bodyPost_ret (results_none rfl _ _ _) rfl ?_
              exact ⟨⟨_, rfl⟩, .inl ⟨_, HPC.out, hJ3⟩⟩
            · gi_wp2
              refine bodyPost_ret (results_none rfl _ _ _) rfl ?_
              exact ⟨⟨_, rfl⟩, .inr ⟨_, ⟨[], by rw [List.append_nil]; exact HPC.out⟩, hJx3⟩⟩
    · have ik : ¬ (k : Int) < (bs.length : Int) := by omega
      obtain rfl : k = bs.length := by omega
      cases f with
      | true =>
        have hpc := HPRE.out
        rw [pc_cut] at hpc
        obtain ⟨fn, tmps, assign, body, hy, hR⟩ := HY.out pre (Pc.err 2) wr hJs (by rw [← hpc]; simp)
        dsimp only [encPc, Pc.err] at hy
        rw [show ((2 : Nat) : Int) = 2 from rfl] at hy
        have HPC := Lib.hid hpc
        clear hpc
        gi_wp2
        refine hR.mono ?_
        rintro e W3 (⟨rfl, hJ3, hk3⟩ | ⟨rfl, hJx3⟩)
        · gi_wp2
          go_end0
          exact ⟨⟨_, rfl⟩, .inl ⟨_, HPC.out, hJ3⟩⟩
        · gi_wp2
          go_end0
          exact ⟨⟨_, rfl⟩, .inr ⟨_, ⟨[], by rw [List.append_nil]; exact HPC.out⟩, hJx3⟩⟩
      | false =>
        have hpc := HPRE.out
        rw [pc_end, List.append_nil] at hpc
        gi_wp2
        go_end0
        exact ⟨⟨_, rfl⟩, .inl (hpc ▸ hJs)⟩
end Go.Proofs.Ytniehbghgialjaa
