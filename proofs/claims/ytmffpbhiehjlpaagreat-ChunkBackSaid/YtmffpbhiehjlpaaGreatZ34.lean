/-
  What is decoded, place by place.
  What the program's fsst goes through, in plain: pieces (what a code or an escape stands for, with its error), what is decoded of pieces, how many there are ahead of the first error.
  The program's fsst: pieces, the iterator of codes and escapes: its contract over whatever loop body keeps what it reads.
  The program's fsst: pieces as an iterator that stops, and Count.
  The program's fsst: Decode.
-/
import Derived.Test.YtmffpbhiehjlpaaGreatZ33
import Derived.OwnWalk
import Derived.Test.YtmffpbhiehjlpaaGreatZ26
import Derived.RangeFuncNested
import Derived.RangeFuncBound
import Derived.RangeFuncCalls
import Derived.RangeFuncLeaves
import Derived.RangeFuncBox
import Derived.Shelf.Abstract
import Derived.Shelf.RegionOpen
import Derived.WalkKit
import Derived.OwnWalkIn
import Derived.TacticsInMore
import Derived.LoopNIn
import Derived.LoopIn
import Derived.Test.YtmffpbhiehjlpaaGreatZ01
namespace Go.Proofs.YtmffpbhiehjlpaaGreat
set_option linter.unusedSimpArgs false
set_option linter.unusedVariables false
open Go.RowKit
end Go.Proofs.YtmffpbhiehjlpaaGreat
namespace Go.Proofs.YtmffpbhiehjlpaaGreat
set_option linter.unusedSimpArgs false
set_option linter.unusedVariables false
structure Pc where
  s : ByteArray
  e : Nat
  h : s.size ≤ 8
def Pc.lit (y : UInt8) : Pc := ⟨⟨#[y]⟩, 0, by show 1 ≤ 8; decide⟩
def Pc.err (k : Nat) : Pc := ⟨⟨#[]⟩, k, by show 0 ≤ 8; decide⟩
section
variable (l : List ByteArray) (h8 : ∀ t ∈ l, t.size ≤ 8)
def pcF : Bool → List UInt8 → List Pc
  | true, [] => [Pc.err 2]
  | false, [] => []
  | true, y :: r => Pc.lit y :: pcF false r
  | false, x :: r => if x.toNat = 255 then pcF true r else if hx : x.toNat < l.length then ⟨l[x.toNat], 0, h8 _ (List.getElem_mem hx)⟩ :: pcF false r else [Pc.err 3]
end
section
variable {l : List ByteArray} {h8 : ∀ t ∈ l, t.size ≤ 8} {bs : List UInt8} {k : Nat}
theorem pc_cut : pcF l h8 true (bs.drop bs.length) = [Pc.err 2] := by rw [List.drop_length, pcF]
theorem pc_end : pcF l h8 false (bs.drop bs.length) = [] := by rw [List.drop_length, pcF]
theorem pc_esc (h : k < bs.length) (hx : bs[k].toNat = 255) : pcF l h8 false (bs.drop k) = pcF l h8 true (bs.drop (k + 1)) := by
  rw [List.drop_eq_getElem_cons h, pcF, if_pos hx]
theorem pc_lit (h : k < bs.length) : pcF l h8 true (bs.drop k) = Pc.lit bs[k] :: pcF l h8 false (bs.drop (k + 1)) := by
  rw [List.drop_eq_getElem_cons h, pcF]
theorem pc_sym (h : k < bs.length) (hx : ¬ bs[k].toNat = 255) (hl : bs[k].toNat < l.length) : pcF l h8 false (bs.drop k) = ⟨l[bs[k].toNat], 0, h8 _ (List.getElem_mem hl)⟩ :: pcF l h8 false (bs.drop (k + 1)) := by
  rw [List.drop_eq_getElem_cons h, pcF, if_neg hx, dif_pos hl]
theorem pc_bad (h : k < bs.length) (hx : ¬ bs[k].toNat = 255) (hl : ¬ bs[k].toNat < l.length) : pcF l h8 false (bs.drop k) = [Pc.err 3] := by
  rw [List.drop_eq_getElem_cons h, pcF, if_neg hx, dif_neg hl]
theorem pc_len : ∀ (bs : List UInt8) (f : Bool), (pcF l h8 f bs).length ≤ bs.length + (if f then 1 else 0)
  | [], true => by rw [pcF]; simp
  | [], false => by rw [pcF]; simp
  | y :: r, true => by
    rw [pcF, List.length_cons, List.length_cons]
    have := pc_len r false
    simp at this ⊢
    omega
  | x :: r, false => by
    rw [pcF]
    have h1 := pc_len r true
    have h2 := pc_len r false
    simp only [if_true, Bool.false_eq_true, if_false, List.length_cons] at h1 h2 ⊢
    split
    · omega
    · split
      · rw [List.length_cons]; omega
      · simp
end
def dP (most : Int) : List Pc → List UInt8 → List UInt8 × Nat
  | [], o => (o, 0)
  | x :: r, o => if x.e ≠ 0 then ([], x.e) else if most < ((o.length + x.s.size : Nat) : Int) then ([], 6) else dP most r (o ++ x.s.data.toList)
section
variable {l : List ByteArray} {h8 : ∀ t ∈ l, t.size ≤ 8} {most : Int}
theorem dP_dec : ∀ (m : Nat) (bs o : List UInt8) (n : Nat), bs.length ≤ m → (decL (bytL2 l) most bs o n).1 = (dP most (pcF l h8 false bs) o).1 ∧ (decL (bytL2 l) most bs o n).2.1 = (dP most (pcF l h8 false bs) o).2 := by
  intro m
  induction m with
  | zero =>
    intro bs o n h
    obtain rfl : bs = [] := List.eq_nil_of_length_eq_zero (by omega)
    rw [dec_nil, pcF, dP]
    exact ⟨rfl, rfl⟩
  | succ m ih =>
    intro bs o n h
    rcases bs with _ | ⟨x, r⟩
    · rw [dec_nil, pcF, dP]
      exact ⟨rfl, rfl⟩
    · rw [List.length_cons] at h
      by_cases hx : x.toNat = 255
      · obtain rfl : x = 255 := UInt8.toNat_inj.1 hx
        rw [pcF, if_pos hx]
        rcases r with _ | ⟨y, r⟩
        · rw [dec_end, pcF, dP, if_pos (by decide)]
          exact ⟨rfl, rfl⟩
        · rw [List.length_cons] at h
          rw [dec_lit, pcF, dP, if_neg (show ¬ (Pc.lit y).e ≠ 0 from fun h => h rfl)]
          have e1 : ((o ++ [y]).length : Int) = ((o.length + (Pc.lit y).s.size : Nat) : Int) := by rw [List.length_append]; rfl
          rw [e1]
          split
          · exact ⟨rfl, rfl⟩
          · exact ih r (o ++ [y]) (n + 1) (by omega)
      · rw [pcF, if_neg hx]
        have hx2 : x ≠ 255 := fun e => hx (by rw [e]; rfl)
        by_cases hl : x.toNat < l.length
        · rw [dif_pos hl, dP, if_neg (by simp)]
          have hg : (bytL2 l)[x.toNat]? = some l[x.toNat].data.toList := by
            rw [List.getElem?_eq_getElem (by rw [bytL2_length]; exact hl), bytL2_get]
          rw [dec_sym _ _ _ hx2 hg]
          have e1 : ((o ++ l[x.toNat].data.toList).length : Int) = ((o.length + l[x.toNat].size : Nat) : Int) := by rw [List.length_append, lenS]
          rw [e1]
          split
          · exact ⟨rfl, rfl⟩
          · exact ih r _ (n + 1) (by omega)
        · rw [dif_neg hl, dP, if_pos (by decide), dec_wrong _ _ _ hx2 (by rw [bytL2_length]; omega)]
          exact ⟨rfl, rfl⟩
end
end Go.Proofs.YtmffpbhiehjlpaaGreat
namespace Go.Proofs.YtmffpbhiehjlpaaGreat
set_option linter.unusedSimpArgs false
set_option linter.unusedVariables false
open Go.RowKit Go.Shelf
attribute [local go_sem] Oper.semAt_some
def piecesV (Bb Bt : Nat) : Array Value := #[.pointer (some ⟨Bb, 0, none⟩), .pointer (some ⟨Bt, 0, none⟩)]
def encPc (x : Pc) : Array Value := #[.string x.s, .int .i64 (x.e : Int)]
set_option maxRecDepth 100000 in
set_option maxHeartbeats 4000000 in
theorem pieces1_in (F : Fence) (n : Nat) (hf : F.fn 123) (hro : F.round = none) (hn : 1 ≤ n) (lp Bb Bt n₀ : Nat) (l : List ByteArray) (h8 : ∀ t ∈ l, t.size ≤ 8) (hln : l.length ≤ 255) (bs : List UInt8) (hbl : bs.length ≤ 1000000) {c c2 : Nat} {A B : Option Addr} (J Jx : List Pc → World → Prop)
    (hY : ∀ pre x W, J pre W → pre.length < (pcF l h8 false bs).length → YieldAt F (n - 1) Tryz.prog lp (encPc x) W fun e W' =>
      (e = .returned (.bool true) ∧ J (pre ++ [x]) W' ∧ Kp2 n₀ Bb Bt W W') ∨ (e = .returned (.bool false) ∧ Jx (pre ++ [x]) W'))
    (W : World) (hBb : W.cell? ⟨Bb, 0, none⟩ = some (.slice B bs.length c2)) (hBt : W.cell? ⟨Bt, 0, none⟩ = some (.slice A l.length c)) (hb : Rd W 0 n₀ B c2 (bv bs)) (ht : Rd W 0 n₀ A c (sv l)) (h0 : J [] W) :
    CallsIn F n Tryz.prog 123 #[.func (.yield lp) #[] #[], .pointer (some ⟨Bb, 0, none⟩), .pointer (some ⟨Bt, 0, none⟩)] W fun e W' => (∃ v, e = .returned v) ∧
      ((∃ ys, ys = pcF l h8 false bs ∧ J ys W') ∨ (∃ pre, pre <+: pcF l h8 false bs ∧ Jx pre W')) := by
  have hl := hb.len
  have hm := hb.cap
  have hl1 := ht.len
  have hm1 := ht.cap
  rw [sv_length] at hl1
  rw [bv_length] at hl
  unfold maxLen at hm hm1
  have HB := Lib.hid hb
  have HT := Lib.hid ht
  have HY := Lib.hid hY
  obtain ⟨ps, hps⟩ : ∃ ps, pcF l h8 false bs = ps := ⟨_, rfl⟩
  rw [hps] at HY ⊢
  have HPS := Lib.hid hps
  clear hb ht hY hps
  refine callsIn_of_wp Tryz.func123 rfl hf ?_ hro
  simp only [Tryz.ntmps123, List.size_toArray, List.length_cons, List.length_nil, Nat.reduceAdd, Nat.reduceSub, Array.replicate_succ, Array.replicate_zero, List.push_toArray, List.append_toArray, List.nil_append, List.cons_append]
  gi_wp2
  gi_loopw [4, 11] (fun x4 x11 wr => ∃ (k : Nat) (f : Bool) (pre : List Pc), k ≤ bs.length ∧ x4 = .bool f ∧ x11 = .int .i64 (k : Int) ∧ pre ++ pcF l h8 f (bs.drop k) = ps ∧ J pre wr ∧ Kp2 n₀ Bb Bt W wr) (fun _ i _ => bs.length - (intOf i).toNat)
  case atStart => exact ⟨0, false, [], Nat.zero_le _, rfl, rfl, by rw [List.drop_zero, HPS.out]; rfl, h0, Kp2.refl _ _ _ _⟩
  case round =>
    obtain ⟨k, f, pre, hk, rfl, rfl, hpre, hJs, hkp⟩ := hrel
    have HPRE := Lib.hid hpre
    have HKP := Lib.hid hkp
    have hcb : wr.cell? ⟨Bb, 0, none⟩ = some (.slice B bs.length c2) := hkp.cellb.trans hBb
    have hct : wr.cell? ⟨Bt, 0, none⟩ = some (.slice A l.length c) := hkp.cellt.trans hBt
    clear hpre hkp
    by_cases hlt : k < bs.length
    · have ik : (k : Int) < (bs.length : Int) := by omega
      obtain ⟨b, off, rfl, hb1, hb2, hcell⟩ := (HB.out.below HKP.out.below (Nat.le_refl _)).byte hlt
      have lx : bs[k].toNat < 256 := UInt8.toNat_lt _
      cases f with
      | true =>
        have hpc := HPRE.out
        rw [pc_lit hlt] at hpc
        obtain ⟨fn, tmps, assign, body, hy, hR⟩ := HY.out pre (Pc.lit bs[k]) wr hJs (by rw [← hpc]; simp)
        dsimp only [encPc, Pc.lit] at hy
        rw [show ((0 : Nat) : Int) = 0 from rfl] at hy
        have HPC := Lib.hid hpc
        clear hpc
        have hcv : (convert 28 9 (.slice (some ⟨b, off + k, none⟩) 1 (c2 - k))).run Tryz.prog wr = .ok (.string ⟨#[bs[k]]⟩) wr := by
          refine run_string_rd (P := Tryz.prog) wr 28 9 5 Tryz.underlying28 Tryz.underlying5 Tryz.underlying9 0 (b + 1) _ _ [bs[k]] ⟨by simp [bv]; omega, by simp only [maxLen]; omega, fun _ => ⟨b, off + k, rfl, Nat.zero_le _, by omega, fun j u hu => ?_⟩⟩
          match j, hu with
          | 0, hu =>
            simp [bv] at hu
            subst hu
            exact hcell
          | j + 1, hu => simp [bv] at hu
        by_cases hx : bs[k].toNat = 255
        · rw [hx] at hcell
          gi_wp2
          refine hR.mono ?_
          rintro e W3 (⟨rfl, hJ3, hk3⟩ | ⟨rfl, hJx3⟩)
          · gi_wp2
            go_roundw
            case rel => exact ⟨k + 1, false, pre ++ [Pc.lit bs[k]], by omega, rfl, by go_num, by rw [List.append_assoc, List.singleton_append]; exact HPC.out, hJ3, HKP.out.trans hk3⟩
            case measure => simp [intOf]; omega
          · gi_wp2
            refine bodyPost_ret (results_none rfl _ _ _) rfl ?_
            exact ⟨⟨_, rfl⟩, .inr ⟨_, ⟨pcF l h8 false (bs.drop (k + 1)), by rw [List.append_assoc, List.singleton_append]; exact HPC.out⟩, hJx3⟩⟩
        · have ix : ¬ (bs[k].toNat : Int) = 255 := by omega
          have bx : ((bs[k].toNat : Int) == 255) = false := by rw [beq_eq_false_iff_ne]; exact ix
          gi_wp2
          refine hR.mono ?_
          rintro e W3 (⟨rfl, hJ3, hk3⟩ | ⟨rfl, hJx3⟩)
          · gi_wp2
            go_roundw
            case rel => exact ⟨k + 1, false, pre ++ [Pc.lit bs[k]], by omega, rfl, by go_num, by rw [List.append_assoc, List.singleton_append]; exact HPC.out, hJ3, HKP.out.trans hk3⟩
            case measure => simp [intOf]; omega
          · gi_wp2
            refine bodyPost_ret (results_none rfl _ _ _) rfl ?_
            exact ⟨⟨_, rfl⟩, .inr ⟨_, ⟨pcF l h8 false (bs.drop (k + 1)), by rw [List.append_assoc, List.singleton_append]; exact HPC.out⟩, hJx3⟩⟩
      | false =>
        by_cases hx : bs[k].toNat = 255
        · have hpc := HPRE.out
          rw [pc_esc hlt hx] at hpc
          have HPC := Lib.hid hpc
          clear hpc
          rw [hx] at hcell
          gi_wp2
          go_roundw
          case rel => exact ⟨k + 1, true, pre, by omega, rfl, by go_num, HPC.out, hJs, HKP.out⟩
          case measure => simp [intOf]; omega
        · have ix : ¬ (bs[k].toNat : Int) = 255 := by omega
          have bx : ((bs[k].toNat : Int) == 255) = false := by rw [beq_eq_false_iff_ne]; exact ix
          by_cases hxl : bs[k].toNat < l.length
          · have i1 : (bs[k].toNat : Int) < (l.length : Int) := by omega
            have d1 : decide ((bs[k].toNat : Int) < (l.length : Int)) = true := decide_eq_true (by omega)
            obtain ⟨b1, off1, rfl, _, _, hcell1⟩ := (HT.out.below HKP.out.below (Nat.le_refl _)).str hxl
            have hpc := HPRE.out
            rw [pc_sym hlt hx hxl] at hpc
            obtain ⟨fn, tmps, assign, body, hy, hR⟩ := HY.out pre ⟨l[bs[k].toNat], 0, h8 _ (List.getElem_mem hxl)⟩ wr hJs (by rw [← hpc]; simp)
            dsimp only [encPc] at hy
            rw [show ((0 : Nat) : Int) = 0 from rfl] at hy
            have HPC := Lib.hid hpc
            clear hpc
            gi_wp2
            refine hR.mono ?_
            rintro e W3 (⟨rfl, hJ3, hk3⟩ | ⟨rfl, hJx3⟩)
            · gi_wp2
              go_roundw
              case rel => exact ⟨k + 1, false, pre ++ [⟨l[bs[k].toNat], 0, h8 _ (List.getElem_mem hxl)⟩], by omega, rfl, by go_num, by rw [List.append_assoc, List.singleton_append]; exact HPC.out, hJ3, HKP.out.trans hk3⟩
              case measure => simp [intOf]; omega
            · gi_wp2
              refine bodyPost_ret (results_none rfl _ _ _) rfl ?_
              exact ⟨⟨_, rfl⟩, .inr ⟨_, ⟨pcF l h8 false (bs.drop (k + 1)), by rw [List.append_assoc, List.singleton_append]; exact HPC.out⟩, hJx3⟩⟩
          · have i1 : ¬ (bs[k].toNat : Int) < (l.length : Int) := by omega
            have d1 : decide ((bs[k].toNat : Int) < (l.length : Int)) = false := decide_eq_false (by omega)
            have hpc := HPRE.out
            rw [pc_bad hlt hx hxl] at hpc
            obtain ⟨fn, tmps, assign, body, hy, hR⟩ := HY.out pre (Pc.err 3) wr hJs (by rw [← hpc]; simp)
            dsimp only [encPc, Pc.err] at hy
            rw [show ((3 : Nat) : Int) = 3 from rfl] at hy
            have HPC := Lib.hid hpc
            clear hpc
            gi_wp2
            refine hR.mono ?_
            rintro e W3 (⟨rfl, hJ3, hk3⟩ | ⟨rfl, hJx3⟩)
            · gi_wp2
              refine bodyPost_ret (results_none rfl _ _ _) rfl ?_
              exact ⟨⟨_, rfl⟩, .inl ⟨_, HPC.out, hJ3⟩⟩
            · gi_wp2
              refine bodyPost_ret (results_none rfl _ _ _) rfl ?_
              exact ⟨⟨_, rfl⟩, .inr ⟨_, ⟨[], by rw [List.append_nil]; exact HPC.out⟩, hJx3⟩⟩
    · have ik : ¬ (k : Int) < (bs.length : Int) := by omega
      obtain rfl : k = bs.length := by omega
      cases f with
      | true =>
        have hpc := HPRE.out
        rw [pc_cut] at hpc
        obtain ⟨fn, tmps, assign, body, hy, hR⟩ := HY.out pre (Pc.err 2) wr hJs (by rw [← hpc]; simp)
        dsimp only [encPc, Pc.err] at hy
        rw [show ((2 : Nat) : Int) = 2 from rfl] at hy
        have HPC := Lib.hid hpc
        clear hpc
        gi_wp2
        refine hR.mono ?_
        rintro e W3 (⟨rfl, hJ3, hk3⟩ | ⟨rfl, hJx3⟩)
        · gi_wp2
          go_end0
          exact ⟨⟨_, rfl⟩, .inl ⟨_, HPC.out, hJ3⟩⟩
        · gi_wp2
          go_end0
          exact ⟨⟨_, rfl⟩, .inr ⟨_, ⟨[], by rw [List.append_nil]; exact HPC.out⟩, hJx3⟩⟩
      | false =>
        have hpc := HPRE.out
        rw [pc_end, List.append_nil] at hpc
        gi_wp2
        go_end0
        exact ⟨⟨_, rfl⟩, .inl (hpc ▸ hJs)⟩
end Go.Proofs.YtmffpbhiehjlpaaGreat
namespace Go.Proofs.YtmffpbhiehjlpaaGreat
set_option linter.unusedSimpArgs false
set_option linter.unusedVariables false
open Go.RowKit Go.Shelf
attribute [local go_sem] Oper.semAt_some
set_option maxRecDepth 100000 in
set_option maxHeartbeats 1000000 in
theorem pieces_in (F : Fence) (n : Nat) (hf : F.fn 102) (hro : F.round = none) (A B : Option Addr) (k c k2 c2 : Nat) (w : World) :
    CallsIn F n Tryz.prog 102 #[.slice A k c, .slice B k2 c2] w fun e w' => e = .returned (.func (.func 123) #[] (piecesV (w.heap.size + 1) w.heap.size)) ∧ w' = (w.alloc (.cells #[.slice A k c] 37)).alloc (.cells #[.slice B k2 c2] 28) := by
  refine callsIn_of_wp Tryz.func102 rfl hf ?_ hro
  simp only [Tryz.ntmps102, List.size_toArray, List.length_cons, List.length_nil, Nat.reduceAdd, Nat.reduceSub, Array.replicate_succ, Array.replicate_zero, List.push_toArray, List.append_toArray, List.nil_append, List.cons_append]
  gi_wp2
  go_ret
  exact ⟨rfl, rfl⟩
theorem pieces_stops (F : Fence) (n : Nat) (hf : F.fn 123) (hro : F.round = none) (hn : 1 ≤ n) (Bb Bt n₀ : Nat) (l : List ByteArray) (h8 : ∀ t ∈ l, t.size ≤ 8) (hln : l.length ≤ 255) (bs : List UInt8) (hbl : bs.length ≤ 1000000) {c c2 : Nat} {A B : Option Addr} (w : World)
    (hBb : Boxed w Bb 28 (.slice B bs.length c2)) (hBt : Boxed w Bt 37 (.slice A l.length c)) (hn₀ : n₀ ≤ w.heap.size) (hb : Rd w 0 n₀ B c2 (bv bs)) (ht : Rd w 0 n₀ A c (sv l)) :
    SeqStopsK F n Tryz.prog 123 (piecesV Bb Bt) encPc (Kp2 n₀ Bb Bt) (fun ys => ys = pcF l h8 false bs) (fun pre => pre <+: pcF l h8 false bs) (pcF l h8 false bs).length w := fun lp J Jx W hW _ _ hY h0 =>
  pieces1_in F n hf hro hn lp Bb Bt n₀ l h8 hln bs hbl J Jx hY W ((hW.cell (p := ⟨Bb, 0, none⟩) hBb.lt).trans hBb.cell) ((hW.cell (p := ⟨Bt, 0, none⟩) hBt.lt).trans hBt.cell) (hb.below hW hn₀) (ht.below hW hn₀) h0
end Go.Proofs.YtmffpbhiehjlpaaGreat
namespace Go.Proofs.YtmffpbhiehjlpaaGreat
set_option linter.unusedSimpArgs false
set_option linter.unusedVariables false
open Go.RowKit Go.Shelf
attribute [local go_sem] Oper.semAt_some
structure DB (most : Int) (A B : Option Addr) (k c k2 c2 b0 b4 b5 : Nat) (W : World) : Prop where
  m : Boxed W b0 3 (.int .i64 most)
  t : Boxed W b4 37 (.slice A k c)
  b : Boxed W b5 28 (.slice B k2 c2)
theorem DB.keep {most : Int} {A B : Option Addr} {k c k2 c2 b0 b4 b5 : Nat} {X Y : World} {row : Option Nat} (h : DB most A B k c k2 c2 b0 b4 b5 X) (hg : X.grownBy Y row) (hr : ∀ r, row = some r → ∃ o : Obj, X.heap[r]? = some o ∧ o.isCells = false) : DB most A B k c k2 c2 b0 b4 b5 Y :=
  ⟨boxed_keep h.m hg hr, boxed_keep h.t hg hr, boxed_keep h.b hg hr⟩
structure DI (most : Int) (A B : Option Addr) (k c k2 c2 b0 b1 b2 b3 b4 b5 : Nat) (pre : List Pc) (W : World) : Prop where
  db : DB most A B k c k2 c2 b0 b4 b5 W
  s : Boxed W b1 9 (.string ⟨#[]⟩)
  e : Boxed W b2 29 (.int .i64 0)
  row : ∃ (A' : Option Addr) (c' : Nat) (o : List UInt8), Boxed W b3 28 (.slice A' o.length c') ∧ W.ownsRow b0 5 1 (.slice A' o.length c') o.length (bv o) ∧ o.length ≤ 8 * pre.length ∧ (o.length : Int) ≤ most ∧ ∀ r, dP most (pre ++ r) [] = dP most r o
structure DX (most : Int) (b1 b2 : Nat) (pre : List Pc) (W : World) : Prop where
  s : Boxed W b1 9 (.string ⟨#[]⟩)
  e : ∃ k : Nat, Boxed W b2 29 (.int .i64 (k : Int)) ∧ ∀ r, dP most (pre ++ r) [] = ([], k)
theorem DI.own (most : Int) (A B : Option Addr) (k c k2 c2 b0 b1 b2 b3 b4 b5 : Nat) : Own (DI most A B k c k2 c2 b0 b1 b2 b3 b4 b5) := fun s X Y row h hg hr => by
  obtain ⟨A', c', o, h1, h2, h3⟩ := h.row
  exact ⟨h.db.keep hg hr, boxed_keep h.s hg hr, boxed_keep h.e hg hr, A', c', o, boxed_keep h1 hg hr, row_keep h2 hg hr, h3⟩
theorem DX.own (most : Int) (b1 b2 : Nat) : Own (DX most b1 b2) := fun s X Y row h hg hr => by
  obtain ⟨k, h1, h2⟩ := h.e
  exact ⟨boxed_keep h.s hg hr, k, boxed_keep h1 hg hr, h2⟩
theorem six_boxes (w : World) (t0 t1 t2 t3 t4 t5 : TypeId) (v0 v1 v2 v3 v4 v5 : Value) : ∃ W, (((((w.alloc (.cells #[v0] t0)).alloc (.cells #[v1] t1)).alloc (.cells #[v2] t2)).alloc (.cells #[v3] t3)).alloc (.cells #[v4] t4)).alloc (.cells #[v5] t5) = W ∧
    Boxed W w.heap.size t0 v0 ∧ Boxed W (w.heap.size + 1) t1 v1 ∧ Boxed W (w.heap.size + 1 + 1) t2 v2 ∧ Boxed W (w.heap.size + 1 + 1 + 1) t3 v3 ∧ Boxed W (w.heap.size + 1 + 1 + 1 + 1) t4 v4 ∧ Boxed W (w.heap.size + 1 + 1 + 1 + 1 + 1) t5 v5 ∧ Below w.heap.size w W ∧ W.heap.size = w.heap.size + 1 + 1 + 1 + 1 + 1 + 1 := by
  refine ⟨_, rfl, ?_, ?_, ?_, ?_, ?_, ?_, ?_, ?_⟩
  · exact (((((Boxed.new w t0 v0).alloc _).alloc _).alloc _).alloc _).alloc _
  · have := ((((Boxed.new (w.alloc (.cells #[v0] t0)) t1 v1).alloc (.cells #[v2] t2)).alloc (.cells #[v3] t3)).alloc (.cells #[v4] t4)).alloc (.cells #[v5] t5)
    simpa only [World.size_alloc] using this
  · have := (((Boxed.new ((w.alloc (.cells #[v0] t0)).alloc (.cells #[v1] t1)) t2 v2).alloc (.cells #[v3] t3)).alloc (.cells #[v4] t4)).alloc (.cells #[v5] t5)
    simpa only [World.size_alloc] using this
  · have := ((Boxed.new (((w.alloc (.cells #[v0] t0)).alloc (.cells #[v1] t1)).alloc (.cells #[v2] t2)) t3 v3).alloc (.cells #[v4] t4)).alloc (.cells #[v5] t5)
    simpa only [World.size_alloc] using this
  · have := (Boxed.new ((((w.alloc (.cells #[v0] t0)).alloc (.cells #[v1] t1)).alloc (.cells #[v2] t2)).alloc (.cells #[v3] t3)) t4 v4).alloc (.cells #[v5] t5)
    simpa only [World.size_alloc] using this
  · have := Boxed.new (((((w.alloc (.cells #[v0] t0)).alloc (.cells #[v1] t1)).alloc (.cells #[v2] t2)).alloc (.cells #[v3] t3)).alloc (.cells #[v4] t4)) t5 v5
    simpa only [World.size_alloc] using this
  · exact ((((((Below.refl _ w).alloc (Nat.le_refl _) _).alloc (by simp only [World.size_alloc]; omega) _).alloc (by simp only [World.size_alloc]; omega) _).alloc (by simp only [World.size_alloc]; omega) _).alloc (by simp only [World.size_alloc]; omega) _).alloc (by simp only [World.size_alloc]; omega) _
  · simp only [World.size_alloc]
set_option maxRecDepth 100000 in
set_option maxHeartbeats 4000000 in
theorem fdecode_in (F : Fence) (n : Nat) (hf : F.fn 82) (hf1 : F.fn 102) (hf2 : F.fn 123) (hro : F.round = none) (hn : 4 ≤ n) {w : World} (l : List ByteArray) (h8 : ∀ t ∈ l, t.size ≤ 8) (hln : l.length ≤ 255) (bs : List UInt8) (hbl : bs.length ≤ 1000000) (most : Int) (hm0 : 0 ≤ most) (hm1 : most ≤ 9223372036854775807) {c c2 : Nat} {A B : Option Addr} (ht : Rd w 0 w.heap.size A c (sv l)) (hb : Rd w 0 w.heap.size B c2 (bv bs)) :
    CallsIn F n Tryz.prog 82 #[.slice A l.length c, .slice B bs.length c2, .int .i64 most] w fun r w' => r = .returned (.tuple #[.string ⟨(dP most (pcF l h8 false bs) []).1.toArray⟩, .int .i64 ((dP most (pcF l h8 false bs) []).2 : Int)]) ∧ Below w.heap.size w w' := by
  have h1 : 1 ≤ n := by omega
  refine callsIn_of_wp_marks Tryz.func82 rfl hf ?_ hro
  simp only [Tryz.ntmps82, List.size_toArray, List.length_cons, List.length_nil, Nat.reduceAdd, Nat.reduceSub, Array.replicate_succ, Array.replicate_zero, List.push_toArray, List.append_toArray, List.nil_append, List.cons_append]
  gi_wp2_with (gi_at_call 102; refine (pieces_in F (n - 1) hf1 hro _ _ _ _ _ _ _).mono ?_; rintro e w' ⟨rfl, rfl⟩)
  obtain ⟨W6, hW6, x0, x1, x2, x3, x4, x5, hB0, hs6⟩ := six_boxes w 3 9 29 28 37 28 (.int .i64 most) (.string ⟨#[]⟩) (.int .i64 0) (.slice none 0 0) (.slice A l.length c) (.slice B bs.length c2)
  rw [hW6]
  clear hW6
  obtain ⟨b1, e1⟩ : ∃ b, w.heap.size + 1 = b := ⟨_, rfl⟩
  rw [e1] at x1 x2 x3 x4 x5 hs6 ⊢
  obtain ⟨b2, e2⟩ : ∃ b, b1 + 1 = b := ⟨_, rfl⟩
  rw [e2] at x2 x3 x4 x5 hs6 ⊢
  obtain ⟨b3, e3⟩ : ∃ b, b2 + 1 = b := ⟨_, rfl⟩
  rw [e3] at x3 x4 x5 hs6 ⊢
  obtain ⟨b4, e4⟩ : ∃ b, b3 + 1 = b := ⟨_, rfl⟩
  rw [e4] at x4 x5 hs6 ⊢
  obtain ⟨b5, e5⟩ : ∃ b, b4 + 1 = b := ⟨_, rfl⟩
  rw [e5] at x5 hs6 ⊢
  obtain ⟨b0, e0⟩ : ∃ b, w.heap.size = b := ⟨_, rfl⟩
  rw [e0] at x0 e1 hB0 ht hb ⊢
  refine wpIn_rangeFunc_ownG hro h1 (gf := 123) (lb := piecesV b5 b4) rfl hf2 (enters_of Tryz.func123 (by kernel_rfl) rfl)
    (pieces_stops F (n - 1) hf2 hro (by omega) b5 b4 b0 l h8 hln bs hbl W6 x5 x4 (by omega) (hb.below hB0 (Nat.le_refl _)) (ht.below hB0 (Nat.le_refl _)))
    Kp2.trans (fun W lk o o' hlk hk ho hwk => ⟨belowK_b (w := W6) (by omega) W lk o o' hlk hk ho hwk, World.putObj_heap_other (by omega), World.putObj_heap_other (by omega)⟩) (Below.refl _ _) (fun _ => rfl)
    (fun pre W => DI most A B l.length c bs.length c2 b0 b1 b2 b3 b4 b5 pre W ∧ Below b0 w W)
    (fun c pre W => (c = .ret ∧ DX most b1 b2 pre W) ∧ Below b0 w W)
    (OwnFrom.and (Own.from (DI.own _ _ _ _ _ _ _ _ _ _ _ _ _) _) (ownFrom_below (by omega) (by omega)))
    (fun c => OwnFrom.and (Own.from (fun s X Y row hs hg hr => ⟨hs.1, DX.own _ _ _ s X Y row hs.2 hg hr⟩) _) (ownFrom_below (by omega) (by omega)))
    ⟨⟨⟨x0, x4, x5⟩, x1, x2, none, 0, [], x3, World.ownsRow_nil _ _ _ _, Nat.zero_le _, hm0, fun r => rfl⟩, hB0⟩
    (fun x => { tmps := #[.slice A l.length c, .slice B bs.length c2, .int .i64 most, undef, undef, .pointer (some ⟨b0, 0, none⟩), .pointer (some ⟨b1, 0, none⟩), .pointer (some ⟨b2, 0, none⟩), .pointer (some ⟨b3, 0, none⟩), .string x.s, .int .i64 (x.e : Int), .int .i64 most, .bool (decide (most < 0)), .slice A l.length c, .slice B bs.length c2, .func (.func 123) #[] (piecesV b5 b4), .string x.s, .int .i64 (x.e : Int), undef, undef, undef, undef, undef, undef, undef, undef, undef, undef, undef, undef, undef, undef, undef], defers := [] }) ?assign ?body ?done ?stop
  case assign =>
    intro lp x W K hK
    dsimp only [encPc]
    gi_wp2
    exact hK
  case body =>
    rintro lp pre x W ⟨hI, hB⟩ hlt
    obtain ⟨⟨hm, hT, hBb⟩, hs, he, A', c', o, hv, hown, hol, hom, hdp⟩ := hI
    have cm := hm.cell
    have cs := hs.cell
    have fs := hs.frozen
    have ce := he.cell
    have fe := he.frozen
    have cv := hv.cell
    have hpl := pc_len (l := l) (h8 := h8) bs false
    simp only [Bool.false_eq_true, if_false] at hpl
    have hz := hB.size
    have hx8 := x.h
    have HDP := Lib.hid hdp
    have HOWN := Lib.hid hown
    clear hdp hown
    have n12 : b1 ≠ b2 := by omega
    by_cases hx : x.e = 0
    · have ix : (x.e : Int) = 0 := by omega
      have bx : ((x.e : Int) == 0) = true := by rw [ix]; rfl
      have wm : IntKind.i64.wrap (most - (o.length : Int)) = most - (o.length : Int) := IntWalk.i64_in _ (by omega)
      by_cases hmo : most < ((o.length + x.s.size : Nat) : Int)
      · have d1 : most - (o.length : Int) < (x.s.size : Int) := by omega
        have d2 : decide (most - (o.length : Int) < (x.s.size : Int)) = true := decide_eq_true d1
        have HE : Hid (∀ r, dP most (pre ++ [x] ++ r) [] = ([], 6)) := fun r => by rw [List.append_assoc, List.singleton_append, HDP.out, dP, if_neg (by omega), if_pos hmo]
        clear hmo
        gi_wp2
        exact ⟨((KeepsOthers.setCell _ _ _).trans (KeepsOthers.setCell _ _ _)).from _, ⟨rfl, boxed_other (hs.set _) n12, 6, (boxed_other he n12.symm).set _, HE.out⟩, (hB.setCell (p := ⟨b1, 0, none⟩) (by show b0 ≤ b1; omega) _).setCell (p := ⟨b2, 0, none⟩) (by show b0 ≤ b2; omega) _⟩
      · have d1 : ¬ most - (o.length : Int) < (x.s.size : Int) := by omega
        have d2 : decide (most - (o.length : Int) < (x.s.size : Int)) = false := decide_eq_false d1
        have HE : Hid (∀ r, dP most (pre ++ [x] ++ r) [] = dP most r (o ++ x.s.data.toList)) := fun r => by rw [List.append_assoc, List.singleton_append, HDP.out, dP, if_neg (by omega), if_neg hmo]
        obtain ⟨i0, hi0, hz0, hz1, hz2⟩ := info_parts Tryz.infoU8
        obtain ⟨A2, c3, w1, hrun, ho2, hg2, -⟩ := run_append_str (P := Tryz.prog) W b0 28 9 28 5 i0 Tryz.underlying28 Tryz.underlying9 hi0 hz0 hz1 hz2 (.slice A' o.length c') o.length (bv o) HOWN.out x.s (by omega) (by omega)
        rw [← bv_append] at ho2
        obtain ⟨o2, he2⟩ : ∃ o2, o ++ x.s.data.toList = o2 := ⟨_, rfl⟩
        have hl2 : o.length + x.s.size = o2.length := by rw [← he2, List.length_append, lenS]
        rw [he2] at ho2 HE
        rw [hl2] at ho2 hrun
        obtain ⟨y1, y2, y3, y4, y5, y6⟩ := appendedS hv (by decide) HOWN.out (by omega) (by omega) ho2 hg2
        have cy := y1.cell
        have fy := y1.frozen
        have HRUN := Lib.hid hrun
        have HL2 := Lib.hid hl2
        have HP := Lib.hid (⟨y6 b0 _ _ (by omega) (by decide) hm, y6 b4 _ _ (by omega) (by decide) hT, y6 b5 _ _ (by omega) (by decide) hBb, y6 b1 _ _ (by omega) (by decide) hs, y6 b2 _ _ (by omega) (by decide) he⟩ : _ ∧ _ ∧ _ ∧ _ ∧ _)
        have H2 := Lib.hid y2
        have H3 := Lib.hid y3
        clear hrun hl2 he2 y2 y3 y6 hg2
        gi_wp2_with (gi_at_builtin; refine wpListIn_append_run rfl _ _ _ rfl _ _ rfl rfl HRUN.out ?_)
        obtain ⟨z0, z4, z5, z1, z2⟩ := HP.out
        have hl2 := HL2.out
        exact ⟨y4.from _, ⟨y5, z5.trans hBb.symm, z4.trans hT.symm⟩, ⟨⟨z0, z4, z5⟩, z1, z2, A2, c3, o2, H2.out, H3.out, by rw [List.length_append, List.length_singleton]; omega, by omega, HE.out⟩, hB.trans y5⟩
    · have ix : ¬ (x.e : Int) = 0 := by omega
      have bx : ((x.e : Int) == 0) = false := by rw [beq_eq_false_iff_ne]; exact ix
      have HE : Hid (∀ r, dP most (pre ++ [x] ++ r) [] = ([], x.e)) := fun r => by rw [List.append_assoc, List.singleton_append, HDP.out, dP, if_pos hx]
      gi_wp2
      exact ⟨((KeepsOthers.setCell _ _ _).trans (KeepsOthers.setCell _ _ _)).from _, ⟨rfl, boxed_other (hs.set _) n12, x.e, (boxed_other he n12.symm).set _, HE.out⟩, (hB.setCell (p := ⟨b1, 0, none⟩) (by show b0 ≤ b1; omega) _).setCell (p := ⟨b2, 0, none⟩) (by show b0 ≤ b2; omega) _⟩
  case done =>
    rintro D ys W hD rfl ⟨hI, hB⟩ hK
    obtain ⟨⟨hm, hT, hBb⟩, hs, he, A', c', o, hv, hown, hol, hom, hdp⟩ := hI
    have hpl := pc_len (l := l) (h8 := h8) bs false
    simp only [Bool.false_eq_true, if_false] at hpl
    have n12 : b1 ≠ b2 := by omega
    have cs := hs.cell
    have fs := hs.frozen
    have ce := he.cell
    have fe := he.frozen
    have cv := hv.cell
    have hfin := hdp []
    rw [List.append_nil, dP] at hfin
    have hcv : (convert 28 9 (.slice A' o.length c')).run Tryz.prog W = .ok (.string ⟨o.toArray⟩) W := run_string_rd (P := Tryz.prog) W 28 9 5 Tryz.underlying28 Tryz.underlying5 Tryz.underlying9 _ _ A' c' o (Rd.of_own hown)
    have HF := Lib.hid hfin
    clear hdp hown hfin
    gi_wp2
    have hK' := ((KeepsOthers.setCell W ⟨b1, 0, none⟩ (.string ⟨o.toArray⟩)).trans (KeepsOthers.setCell _ ⟨b2, 0, none⟩ (.int .i64 0))).same D _ hK rfl
    refine ⟨by simp, .inl ⟨_, _, rfl, run_takeDeferred hK', ?_⟩⟩
    have cs2 := (boxed_put (boxed_other (hs.set (.string ⟨o.toArray⟩)) n12) (.deferred none) hK' rfl).cell
    have ce2 := (boxed_put ((boxed_other he n12.symm).set (.int .i64 0)) (.deferred none) hK' rfl).cell
    subst e0
    refine ⟨.tuple #[.string ⟨o.toArray⟩, .int .i64 0], ?_, by rw [HF.out]; rfl, ((hB.setCell (p := ⟨b1, 0, none⟩) (by show w.heap.size ≤ b1; omega) _).setCell (p := ⟨b2, 0, none⟩) (by show w.heap.size ≤ b2; omega) _).trans (belowK_b (w := w) (Nat.le_refl _) _ D _ _ (by omega) hK' rfl rfl)⟩
    simp [results, Tryz.f82, go_sem, cs2, ce2]
  case stop =>
    rintro D c' pre W hD ⟨r, hr⟩ ⟨⟨rfl, hX⟩, hB⟩ hK
    obtain ⟨hs, k, he, hdp⟩ := hX
    have hfin := hdp r
    rw [hr] at hfin
    gi_wp2
    refine ⟨by simp, .inl ⟨_, _, rfl, run_takeDeferred hK, ?_⟩⟩
    have cs := (boxed_put hs (.deferred none) hK rfl).cell
    have ce := (boxed_put he (.deferred none) hK rfl).cell
    subst e0
    refine ⟨.tuple #[.string ⟨#[]⟩, .int .i64 (k : Int)], ?_, by rw [hfin], hB.trans (belowK_b (w := w) (Nat.le_refl _) W D _ _ (by omega) hK rfl rfl)⟩
    simp [results, Tryz.f82, go_sem, cs, ce]
theorem fdecode_any {w : World} (l : List ByteArray) (h8 : ∀ t ∈ l, t.size ≤ 8) (hln : l.length ≤ 255) (bs : List UInt8) (hbl : bs.length ≤ 1000000) (most : Int) (hm0 : 0 ≤ most) (hm1 : most ≤ 9223372036854775807) {c c2 : Nat} {A B : Option Addr} (ht : Rd w 0 w.heap.size A c (sv l)) (hb : Rd w 0 w.heap.size B c2 (bv bs)) :
    Calls Tryz.prog 82 #[.slice A l.length c, .slice B bs.length c2, .int .i64 most] w fun r w' => r = .returned (.tuple #[.string ⟨(decL (bytL2 l) most bs [] 0).1.toArray⟩, .int .i64 ((decL (bytL2 l) most bs [] 0).2.1 : Int)]) ∧ Below w.heap.size w w' := by
  obtain ⟨e1, e2⟩ := dP_dec (l := l) (h8 := h8) (most := most) bs.length bs [] 0 (Nat.le_refl _)
  rw [e1, e2]
  exact (callsIn_wide (n := 4)).1 (fdecode_in Fence.wide 4 trivial trivial trivial rfl (Nat.le_refl _) l h8 hln bs hbl most hm0 hm1 ht hb)
end Go.Proofs.YtmffpbhiehjlpaaGreat
