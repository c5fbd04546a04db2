/-
  The library's slices.Chunk of strings: the pieces of a list, its iterator's contract over whatever loop body keeps what it reads.
-/
import Derived.Test.YtgadhofddbmhgaaKpM
import Derived.Test.YtgadhofddbmhgaaFrO
import Derived.Test.YtgadhofddbmhgaaStrM
import Derived.BigQuiet
import Derived.Deep.QuietTactic
namespace Go.Proofs.Ytgadhofddbmhgaa
set_option linter.unusedSimpArgs false
set_option linter.unusedVariables false
open Go.RowKit Go.Shelf

attribute [local go_sem] Oper.semAt_some

/-- a piece of a list: the i-th one -/
structure Ck (K n : Nat) where
  i : Nat
  h : i * K < n
def ckF (K n : Nat) : Nat → Nat → List (Ck K n)
  | 0, _ => []
  | f + 1, i => if h : i * K < n then ⟨i, h⟩ :: ckF K n f (i + 1) else []
/-- the pieces from the i-th on -/
def cks (K n i : Nat) : List (Ck K n) := ckF K n (n - i) i
theorem cks_in {K n i : Nat} (hK : 1 ≤ K) (h : i * K < n) : cks K n i = ⟨i, h⟩ :: cks K n (i + 1) := by
  have h1 : i ≤ i * K := Nat.le_mul_of_pos_right _ (by omega)
  unfold cks
  rw [show n - i = (n - (i + 1)) + 1 by omega, ckF, dif_pos h]
theorem ckF_out {K n : Nat} : ∀ (f i : Nat), ¬ i * K < n → ckF K n f i = []
  | 0, _, _ => rfl
  | f + 1, i, h => by rw [ckF, dif_neg h]
theorem cks_out {K n i : Nat} (h : ¬ i * K < n) : cks K n i = [] := ckF_out _ _ h
theorem ckF_len {K n : Nat} : ∀ (f i : Nat), (ckF K n f i).length ≤ f
  | 0, _ => Nat.le_refl _
  | f + 1, i => by
    rw [ckF]
    split
    · rw [List.length_cons]; have := ckF_len (K := K) (n := n) f (i + 1); omega
    · simp
theorem cks_len (K n : Nat) : (cks K n 0).length ≤ n := ckF_len _ _
theorem cks_map {K : Nat} (hK : 1 ≤ K) (L : List (List UInt8)) : ∀ (m i : Nat), (∀ q, q < i + m → q * K < L.length) → L.length ≤ (i + m) * K → (cks K L.length i).map (fun x => (L.drop (x.i * K)).take K) = blks K L i m
  | 0, i, _, h => by
    rw [cks_out (by rw [Nat.add_zero] at h; omega)]
    rfl
  | m + 1, i, h, h2 => by
    have hi := h i (by omega)
    rw [cks_in hK hi, List.map_cons, cks_map hK L m (i + 1) (fun q hq => h q (by omega)) (by rw [show i + 1 + m = i + (m + 1) by omega]; exact h2), blks_succ]
theorem cks_all {K : Nat} (hK : 1 ≤ K) (L : List (List UInt8)) : (cks K L.length 0).map (fun x => (L.drop (x.i * K)).take K) = blks K L 0 (blocksN L.length K) :=
  cks_map hK L _ _ (fun q hq => blocks_lt hK (by omega)) (by rw [Nat.zero_add]; exact blocks_ge hK)

/-- Chunk's value: the iterator and its two boxes -/
def chunkV (Bs Bn : Nat) : Array Value := #[.pointer (some ⟨Bs, 0, none⟩), .pointer (some ⟨Bn, 0, none⟩)]
/-- how many there are of a piece -/
def ckN (K n i : Nat) : Nat := min K (n - i * K)
def encCk (b off : Nat) {K n : Nat} (x : Ck K n) : Array Value := #[.slice (some ⟨b, off + x.i * K, none⟩) (ckN K n x.i) (ckN K n x.i)]

set_option maxRecDepth 100000 in
set_option maxHeartbeats 4000000 in
theorem chunk1_in (n : Nat) (hn : 1 ≤ n) (lp Bs Bn n₀ : Nat) (N K : Nat) (hK : 1 ≤ K) (hK2 : K ≤ 64) (hN : N ≤ 1000000) {c b off : Nat} {A : Option Addr} (J Jx : List (Ck K N) → World → Prop) (hc : N ≤ c) (hc2 : c ≤ 9223372036854775807)
    (hA : 0 < N → A = some ⟨b, off, none⟩) (W : World) (hJ : ∀ pre W0 m, J pre W0 → J pre (W0.drewN m))
    (hY : ∀ pre x W, J pre W → pre.length < N → YieldAt Fence.wide (n - 1) Try.prog lp (encCk b off x) W fun e W' =>
      (e = .returned (.bool true) ∧ J (pre ++ [x]) W' ∧ Kp2 n₀ Bs Bn W W') ∨ (e = .returned (.bool false) ∧ Jx (pre ++ [x]) W'))
    (hBs : W.cell? ⟨Bs, 0, none⟩ = some (.slice A N c)) (hBn : W.cell? ⟨Bn, 0, none⟩ = some (.int .i64 (K : Int))) (h0 : J [] W) :
    CallsIn Fence.wide n Try.prog 43 #[.func (.yield lp) #[] #[], .pointer (some ⟨Bs, 0, none⟩), .pointer (some ⟨Bn, 0, none⟩)] W fun e W' => (∃ v, e = .returned v) ∧
      ((∃ ys, ys = cks K N 0 ∧ J ys W') ∨ (∃ pre, pre <+: cks K N 0 ∧ Jx pre W')) := by
  have hro : Fence.wide.round = none := rfl
  have HY := Lib.hid hY
  have HJ := Lib.hid hJ
  obtain ⟨all, hall⟩ : ∃ all, cks K N 0 = all := ⟨_, rfl⟩
  have HLEN : Hid (all.length ≤ N) := by unfold Hid; rw [← hall]; exact cks_len K N
  rw [hall]
  have HALL := Lib.hid hall
  clear hY hJ hall
  refine callsIn_of_wp Try.func43 rfl trivial ?_ hro
  simp only [Try.ntmps43, List.size_toArray, List.length_cons, List.length_nil, Nat.reduceAdd, Nat.reduceSub, Array.replicate_succ, Array.replicate_zero, List.push_toArray, List.append_toArray, List.nil_append, List.cons_append]
  gi_wp2
  gi_loopw [4] (fun x4 wr => ∃ (i p : Nat) (pre : List (Ck K N)), p = i * K ∧ x4 = .int .i64 (p : Int) ∧ p < N + 64 ∧ pre ++ cks K N i = all ∧ J pre wr ∧ Kp2 n₀ Bs Bn W wr) (fun x4 _ => N + 64 - (intOf x4).toNat)
  case atStart => exact ⟨0, 0, [], by rw [Nat.zero_mul], rfl, by omega, HALL.out, h0, Kp2.refl _ _ _ _⟩
  case round =>
    obtain ⟨i, p, pre, hp, rfl, hpN, hpre, hJs, hkp⟩ := hrel
    have HPRE := Lib.hid hpre
    have HKP := Lib.hid hkp
    have HP := Lib.hid hp
    have hcs : wr.cell? ⟨Bs, 0, none⟩ = some (.slice A N c) := hkp.cellb.trans hBs
    have hcn : wr.cell? ⟨Bn, 0, none⟩ = some (.int .i64 (K : Int)) := hkp.cellt.trans hBn
    clear hpre hkp hp
    by_cases hlt : p < N
    · have ip : (p : Int) < (N : Int) := by omega
      have hAA := hA (by omega)
      have hiK : i * K < N := by rw [← HP.out]; exact hlt
      have hpc := HPRE.out
      rw [cks_in hK hiK] at hpc
      have hpl : pre.length < N := by
        have := HLEN.out
        rw [← hpc, List.length_append, List.length_cons] at this
        omega
      obtain ⟨e, he⟩ : ∃ e, min K (N - p) = e := ⟨_, rfl⟩
      have hck : ckN K N i = e := by rw [ckN, ← HP.out, he]
      have he1 : e ≤ K := by omega
      have he2 : p + e ≤ N := by omega
      have hmin : min (K : Int) ((N - p : Nat) : Int) = (e : Int) := by omega
      have hmin2 : min (K : Int) ((N : Int) - (p : Int)) = (e : Int) := by omega
      have hYY := fun W1 hJ1 => HY.out pre ⟨i, hiK⟩ W1 hJ1 hpl
      unfold encCk at hYY
      dsimp only at hYY
      rw [hck, ← HP.out] at hYY
      have HYY := Lib.hid hYY
      have HPC := Lib.hid hpc
      have hpn : Hid ((i + 1) * K = p + K) := by unfold Hid; rw [Nat.add_mul, Nat.one_mul, HP.out]
      have hcp : ¬ c - p = 0 := by omega
      have hcp2 : ¬ c ≤ p := by omega
      have hcp3 : ¬ c = p := by omega
      have hw1 : IntKind.i64.wrap ((p : Int) + (e : Int)) = ((p + e : Nat) : Int) := (IntWalk.i64_in _ (by omega)).trans (by omega)
      have hw2 : IntKind.i64.wrap ((p : Int) + (K : Int)) = ((p + K : Nat) : Int) := (IntWalk.i64_in _ (by omega)).trans (by omega)
      clear hpc hYY hck he HY
      subst hAA
      gi_wp2
      refine wpIn_wide.2 ?_
      go_quiet (fail)
      obtain ⟨fn, tmps, assign, body, hy, hR⟩ := HYY.out (wr.drewN nq) (HJ.out _ _ _ hJs)
      gi_wp2
      refine hR.mono ?_
      rintro e3 W3 (⟨rfl, hJ3, hk3⟩ | ⟨rfl, hJx3⟩)
      · have hcn3 : W3.cell? ⟨Bn, 0, none⟩ = some (.int .i64 (K : Int)) := hk3.cellt.trans hcn
        gi_wp2
        go_roundw
        case rel => exact ⟨i + 1, p + K, pre ++ [⟨i, hiK⟩], hpn.out.symm, by go_num, by omega, by rw [List.append_assoc, List.singleton_append]; exact HPC.out, hJ3, (HKP.out.trans ⟨below_drewN' (Below.refl _ _) nq, rfl, rfl⟩).trans hk3⟩
        case measure => simp [intOf]; omega
      · gi_wp2
        refine bodyPost_ret (results_none rfl _ _ _) rfl ?_
        exact ⟨⟨_, rfl⟩, .inr ⟨_, ⟨cks K N (i + 1), by rw [List.append_assoc, List.singleton_append]; exact HPC.out⟩, hJx3⟩⟩
    · have ip : ¬ (p : Int) < (N : Int) := by omega
      have hpc := HPRE.out
      rw [cks_out (by rw [← HP.out]; exact hlt), List.append_nil] at hpc
      gi_wp2
      go_end0
      exact ⟨⟨_, rfl⟩, .inl (hpc ▸ hJs)⟩

set_option maxRecDepth 100000 in
set_option maxHeartbeats 1000000 in
theorem chunk_in (n : Nat) (A : Option Addr) (k c K : Nat) (hK : 1 ≤ K) (w : World) :
    CallsIn Fence.wide n Try.prog 27 #[.slice A k c, .int .i64 (K : Int)] w fun e w' => e = .returned (.func (.func 43) #[] (chunkV w.heap.size (w.heap.size + 1))) ∧ w' = (w.alloc (.cells #[.slice A k c] 22)).alloc (.cells #[.int .i64 (K : Int)] 3) := by
  refine callsIn_of_wp Try.func27 rfl trivial ?_ rfl
  simp only [Try.ntmps27, List.size_toArray, List.length_cons, List.length_nil, Nat.reduceAdd, Nat.reduceSub, Array.replicate_succ, Array.replicate_zero, List.push_toArray, List.append_toArray, List.nil_append, List.cons_append]
  have i1 : ¬ (K : Int) < 1 := by omega
  gi_wp2
  go_ret
  exact ⟨rfl, rfl⟩

/-- what Chunk hands back stops: all pieces, in order, or a beginning of them -/
theorem chunk_stops (n : Nat) (hn : 1 ≤ n) (Bs Bn n₀ : Nat) (N K : Nat) (hK : 1 ≤ K) (hK2 : K ≤ 64) (hN : N ≤ 1000000) {c b off : Nat} {A : Option Addr} (hc : N ≤ c) (hc2 : c ≤ 9223372036854775807)
    (hA : 0 < N → A = some ⟨b, off, none⟩) (w : World) (hBs : Boxed w Bs 22 (.slice A N c)) (hBn : Boxed w Bn 3 (.int .i64 (K : Int))) :
    SeqStopsK Fence.wide n Try.prog 43 (chunkV Bs Bn) (encCk (K := K) (n := N) b off) (Kp2 n₀ Bs Bn) (fun ys => ys = cks K N 0) (fun pre => pre <+: cks K N 0) N w := fun lp J Jx W hW hJ _ hY h0 =>
  chunk1_in n hn lp Bs Bn n₀ N K hK hK2 hN J Jx hc hc2 hA W (fun pre W0 m h => hJ pre W0 _ none h (gb_drewN (gb_refl _ _) m) (fun r e => by cases e)) hY ((hW.cell (p := ⟨Bs, 0, none⟩) hBs.lt).trans hBs.cell) ((hW.cell (p := ⟨Bn, 0, none⟩) hBn.lt).trans hBn.cell) h0
end Go.Proofs.Ytgadhofddbmhgaa
