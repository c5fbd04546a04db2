/-
  The library's slices.Chunk of strings: the pieces of a list, its iterator's contract over whatever loop body keeps what it reads.
  Two rows of a call's own in boxes, numbers and bytes: one number more, more bytes, with what each append leaves.
  The front package: Build.
-/
import Derived.Test.YtmffpbhiehjlpaaGreatZ26
import Derived.Test.YtmffpbhiehjlpaaGreatZ09
import Derived.Test.YtmffpbhiehjlpaaGreatZ00
import Derived.BigQuiet
import Derived.Deep.QuietTactic
import Derived.Test.YtmffpbhiehjlpaaGreatZ24
import Derived.Test.YtmffpbhiehjlpaaGreatZ19
import Derived.Deep.RegionHeld3
namespace Go.Proofs.YtmffpbhiehjlpaaGreat
set_option linter.unusedSimpArgs false
set_option linter.unusedVariables false
open Go.RowKit Go.Shelf
attribute [local go_sem] Oper.semAt_some
structure Ck (K n : Nat) where
  i : Nat
  h : i * K < n
def ckF (K n : Nat) : Nat → Nat → List (Ck K n)
  | 0, _ => []
  | f + 1, i => if h : i * K < n then ⟨i, h⟩ :: ckF K n f (i + 1) else []
def cks (K n i : Nat) : List (Ck K n) := ckF K n (n - i) i
theorem cks_in {K n i : Nat} (hK : 1 ≤ K) (h : i * K < n) : cks K n i = ⟨i, h⟩ :: cks K n (i + 1) := by
  have h1 : i ≤ i * K := Nat.le_mul_of_pos_right _ (by omega)
  unfold cks
  rw [show n - i = (n - (i + 1)) + 1 by omega, ckF, dif_pos h]
theorem ckF_out {K n : Nat} : ∀ (f i : Nat), ¬ i * K < n → ckF K n f i = []
  | 0, _, _ => rfl
  | f + 1, i, h => by rw [ckF, dif_neg h]
theorem cks_out {K n i : Nat} (h : ¬ i * K < n) : cks K n i = [] := ckF_out _ _ h
theorem ckF_len {K n : Nat} : ∀ (f i : Nat), (ckF K n f i).length ≤ f
  | 0, _ => Nat.le_refl _
  | f + 1, i => by
    rw [ckF]
    split
    · rw [List.length_cons]; have := ckF_len (K := K) (n := n) f (i + 1); omega
    · simp
theorem cks_len (K n : Nat) : (cks K n 0).length ≤ n := ckF_len _ _
theorem cks_map {K : Nat} (hK : 1 ≤ K) (L : List (List UInt8)) : ∀ (m i : Nat), (∀ q, q < i + m → q * K < L.length) → L.length ≤ (i + m) * K → (cks K L.length i).map (fun x => (L.drop (x.i * K)).take K) = blks K L i m
  | 0, i, _, h => by
    rw [cks_out (by rw [Nat.add_zero] at h; omega)]
    rfl
  | m + 1, i, h, h2 => by
    have hi := h i (by omega)
    rw [cks_in hK hi, List.map_cons, cks_map hK L m (i + 1) (fun q hq => h q (by omega)) (by rw [show i + 1 + m = i + (m + 1) by omega]; exact h2), blks_succ]
theorem cks_all {K : Nat} (hK : 1 ≤ K) (L : List (List UInt8)) : (cks K L.length 0).map (fun x => (L.drop (x.i * K)).take K) = blks K L 0 (blocksN L.length K) :=
  cks_map hK L _ _ (fun q hq => blocks_lt hK (by omega)) (by rw [Nat.zero_add]; exact blocks_ge hK)
def chunkV (Bs Bn : Nat) : Array Value := #[.pointer (some ⟨Bs, 0, none⟩), .pointer (some ⟨Bn, 0, none⟩)]
def ckN (K n i : Nat) : Nat := min K (n - i * K)
def encCk (b off : Nat) {K n : Nat} (x : Ck K n) : Array Value := #[.slice (some ⟨b, off + x.i * K, none⟩) (ckN K n x.i) (ckN K n x.i)]
set_option maxRecDepth 100000 in
set_option maxHeartbeats 4000000 in
theorem chunk1_in (n : Nat) (hn : 1 ≤ n) (lp Bs Bn n₀ : Nat) (N K : Nat) (hK : 1 ≤ K) (hK2 : K ≤ 64) (hN : N ≤ 1000000) {c b off : Nat} {A : Option Addr} (J Jx : List (Ck K N) → World → Prop) (hc : N ≤ c) (hc2 : c ≤ 9223372036854775807)
    (hA : 0 < N → A = some ⟨b, off, none⟩) (W : World) (hJ : ∀ pre W0 m, J pre W0 → J pre (W0.drewN m))
    (hY : ∀ pre x W, J pre W → pre.length < N → YieldAt Fence.wide (n - 1) Tryz.prog lp (encCk b off x) W fun e W' =>
      (e = .returned (.bool true) ∧ J (pre ++ [x]) W' ∧ Kp2 n₀ Bs Bn W W') ∨ (e = .returned (.bool false) ∧ Jx (pre ++ [x]) W'))
    (hBs : W.cell? ⟨Bs, 0, none⟩ = some (.slice A N c)) (hBn : W.cell? ⟨Bn, 0, none⟩ = some (.int .i64 (K : Int))) (h0 : J [] W) :
    CallsIn Fence.wide n Tryz.prog 151 #[.func (.yield lp) #[] #[], .pointer (some ⟨Bs, 0, none⟩), .pointer (some ⟨Bn, 0, none⟩)] W fun e W' => (∃ v, e = .returned v) ∧
      ((∃ ys, ys = cks K N 0 ∧ J ys W') ∨ (∃ pre, pre <+: cks K N 0 ∧ Jx pre W')) := by
  have hro : Fence.wide.round = none := rfl
  have HY := Lib.hid hY
  have HJ := Lib.hid hJ
  obtain ⟨all, hall⟩ : ∃ all, cks K N 0 = all := ⟨_, rfl⟩
  have HLEN : Hid (all.length ≤ N) := by unfold Hid; rw [← hall]; exact cks_len K N
  rw [hall]
  have HALL := Lib.hid hall
  clear hY hJ hall
  refine callsIn_of_wp Tryz.func151 rfl trivial ?_ hro
  simp only [Tryz.ntmps151, List.size_toArray, List.length_cons, List.length_nil, Nat.reduceAdd, Nat.reduceSub, Array.replicate_succ, Array.replicate_zero, List.push_toArray, List.append_toArray, List.nil_append, List.cons_append]
  gi_wp2
  gi_loopw [4] (fun x4 wr => ∃ (i p : Nat) (pre : List (Ck K N)), p = i * K ∧ x4 = .int .i64 (p : Int) ∧ p < N + 64 ∧ pre ++ cks K N i = all ∧ J pre wr ∧ Kp2 n₀ Bs Bn W wr) (fun x4 _ => N + 64 - (intOf x4).toNat)
  case atStart => exact ⟨0, 0, [], by rw [Nat.zero_mul], rfl, by omega, HALL.out, h0, Kp2.refl _ _ _ _⟩
  case round =>
    obtain ⟨i, p, pre, hp, rfl, hpN, hpre, hJs, hkp⟩ := hrel
    have HPRE := Lib.hid hpre
    have HKP := Lib.hid hkp
    have HP := Lib.hid hp
    have hcs : wr.cell? ⟨Bs, 0, none⟩ = some (.slice A N c) := hkp.cellb.trans hBs
    have hcn : wr.cell? ⟨Bn, 0, none⟩ = some (.int .i64 (K : Int)) := hkp.cellt.trans hBn
    clear hpre hkp hp
    by_cases hlt : p < N
    · have ip : (p : Int) < (N : Int) := by omega
      have hAA := hA (by omega)
      have hiK : i * K < N := by rw [← HP.out]; exact hlt
      have hpc := HPRE.out
      rw [cks_in hK hiK] at hpc
      have hpl : pre.length < N := by
        have := HLEN.out
        rw [← hpc, List.length_append, List.length_cons] at this
        omega
      obtain ⟨e, he⟩ : ∃ e, min K (N - p) = e := ⟨_, rfl⟩
      have hck : ckN K N i = e := by rw [ckN, ← HP.out, he]
      have he1 : e ≤ K := by omega
      have he2 : p + e ≤ N := by omega
      have hmin : min (K : Int) ((N - p : Nat) : Int) = (e : Int) := by omega
      have hmin2 : min (K : Int) ((N : Int) - (p : Int)) = (e : Int) := by omega
      have hYY := fun W1 hJ1 => HY.out pre ⟨i, hiK⟩ W1 hJ1 hpl
      unfold encCk at hYY
      dsimp only at hYY
      rw [hck, ← HP.out] at hYY
      have HYY := Lib.hid hYY
      have HPC := Lib.hid hpc
      have hpn : Hid ((i + 1) * K = p + K) := by unfold Hid; rw [Nat.add_mul, Nat.one_mul, HP.out]
      have hcp : ¬ c - p = 0 := by omega
      have hcp2 : ¬ c ≤ p := by omega
      have hcp3 : ¬ c = p := by omega
      have hw1 : IntKind.i64.wrap ((p : Int) + (e : Int)) = ((p + e : Nat) : Int) := (IntWalk.i64_in _ (by omega)).trans (by omega)
      have hw2 : IntKind.i64.wrap ((p : Int) + (K : Int)) = ((p + K : Nat) : Int) := (IntWalk.i64_in _ (by omega)).trans (by omega)
      clear hpc hYY hck he HY
      subst hAA
      gi_wp2
      refine wpIn_wide.2 ?_
      go_quiet (fail)
      obtain ⟨fn, tmps, assign, body, hy, hR⟩ := HYY.out (wr.drewN nq) (HJ.out _ _ _ hJs)
      gi_wp2
      refine hR.mono ?_
      rintro e3 W3 (⟨rfl, hJ3, hk3⟩ | ⟨rfl, hJx3⟩)
      · have hcn3 : W3.cell? ⟨Bn, 0, none⟩ = some (.int .i64 (K : Int)) := hk3.cellt.trans hcn
        gi_wp2
        go_roundw
        case rel => exact ⟨i + 1, p + K, pre ++ [⟨i, hiK⟩], hpn.out.symm, by go_num, by omega, by rw [List.append_assoc, List.singleton_append]; exact HPC.out, hJ3, (HKP.out.trans ⟨below_drewN' (Below.refl _ _) nq, rfl, rfl⟩).trans hk3⟩
        case measure => simp [intOf]; omega
      · gi_wp2
        refine bodyPost_ret (results_none rfl _ _ _) rfl ?_
        exact ⟨⟨_, rfl⟩, .inr ⟨_, ⟨cks K N (i + 1), by rw [List.append_assoc, List.singleton_append]; exact HPC.out⟩, hJx3⟩⟩
    · have ip : ¬ (p : Int) < (N : Int) := by omega
      have hpc := HPRE.out
      rw [cks_out (by rw [← HP.out]; exact hlt), List.append_nil] at hpc
      gi_wp2
      go_end0
      exact ⟨⟨_, rfl⟩, .inl (hpc ▸ hJs)⟩
set_option maxRecDepth 100000 in
set_option maxHeartbeats 1000000 in
theorem chunk_in (n : Nat) (A : Option Addr) (k c K : Nat) (hK : 1 ≤ K) (w : World) :
    CallsIn Fence.wide n Tryz.prog 133 #[.slice A k c, .int .i64 (K : Int)] w fun e w' => e = .returned (.func (.func 151) #[] (chunkV w.heap.size (w.heap.size + 1))) ∧ w' = (w.alloc (.cells #[.slice A k c] 37)).alloc (.cells #[.int .i64 (K : Int)] 3) := by
  refine callsIn_of_wp Tryz.func133 rfl trivial ?_ rfl
  simp only [Tryz.ntmps133, List.size_toArray, List.length_cons, List.length_nil, Nat.reduceAdd, Nat.reduceSub, Array.replicate_succ, Array.replicate_zero, List.push_toArray, List.append_toArray, List.nil_append, List.cons_append]
  have i1 : ¬ (K : Int) < 1 := by omega
  gi_wp2
  go_ret
  exact ⟨rfl, rfl⟩
theorem chunk_stops (n : Nat) (hn : 1 ≤ n) (Bs Bn n₀ : Nat) (N K : Nat) (hK : 1 ≤ K) (hK2 : K ≤ 64) (hN : N ≤ 1000000) {c b off : Nat} {A : Option Addr} (hc : N ≤ c) (hc2 : c ≤ 9223372036854775807)
    (hA : 0 < N → A = some ⟨b, off, none⟩) (w : World) (hBs : Boxed w Bs 37 (.slice A N c)) (hBn : Boxed w Bn 3 (.int .i64 (K : Int))) :
    SeqStopsK Fence.wide n Tryz.prog 151 (chunkV Bs Bn) (encCk (K := K) (n := N) b off) (Kp2 n₀ Bs Bn) (fun ys => ys = cks K N 0) (fun pre => pre <+: cks K N 0) N w := fun lp J Jx W hW hJ _ hY h0 =>
  chunk1_in n hn lp Bs Bn n₀ N K hK hK2 hN J Jx hc hc2 hA W (fun pre W0 m h => hJ pre W0 _ none h (gb_drewN (gb_refl _ _) m) (fun r e => by cases e)) hY ((hW.cell (p := ⟨Bs, 0, none⟩) hBs.lt).trans hBs.cell) ((hW.cell (p := ⟨Bn, 0, none⟩) hBn.lt).trans hBn.cell) h0
end Go.Proofs.YtmffpbhiehjlpaaGreat
namespace Go.Proofs.YtmffpbhiehjlpaaGreat
set_option linter.unusedSimpArgs false
set_option linter.unusedVariables false
open Go.RowKit Go.Shelf
theorem keeps_row {w w' : World} {lo n : Nat} {e : TypeId} {v : Value} {xs : List Value} (h : w.ownsRow lo e 1 v n xs) (hg : w.grownBy w' v.ownBlock) : KeepsOthers w w' :=
  KeepsOthers.of_grownBy hg fun j o ej hj => by
    rcases h.2 with ⟨rfl, _⟩ | ⟨g, cap, cur, rfl, _, hgb, _⟩
    · simp [Value.ownBlock] at ej
    · obtain rfl : g = j := by simpa [Value.ownBlock] using ej
      rw [hgb] at hj
      cases hj
      rfl
theorem heap_lt {w w' : World} {lo B : Nat} {row : Option Nat} (hg : w.grownBy w' row) (hr : ∀ g, row = some g → lo ≤ g) (hB : B < lo) (hs : B < w.heap.size) : w'.heap[B]? = w.heap[B]? :=
  hg.block B hs fun e => by have := hr B e.symm; omega
theorem boxed_heap {w w' : World} {B : Nat} {t : TypeId} {v : Value} (h : Boxed w B t v) (e : w'.heap[B]? = w.heap[B]?) : Boxed w' B t v := e.trans h
section
variable {w w' : World} {lo : Nat} {u v : Value} {ss : List Nat} {bs : List UInt8}
theorem SB.keptG {row : Option Nat} (h : SB w lo w.heap.size u v ss bs) (hg : w.grownBy w' row) (hr : ∀ r, row = some r → ∃ o : Obj, w.heap[r]? = some o ∧ o.isCells = false) : SB w' lo w'.heap.size u v ss bs := by
  have h1 := row_keep h.o1 hg hr
  have h2 := row_keep h.o2 hg hr
  exact ⟨h1, h2, fun g hg2 => (own_lt h1 hg2).2, fun g hg2 => (own_lt h2 hg2).2, h.ap⟩
theorem SB.onBelow (h : SB w lo w.heap.size u v ss bs) (hb : Below w.heap.size w w') : SB w' lo w'.heap.size u v ss bs := (h.below hb (Nat.le_refl _)).top
theorem SB.setBox {B : Nat} (h : SB w lo w.heap.size u v ss bs) (hB : B < lo) (x : Value) : SB (w.setCell ⟨B, 0, none⟩ x) lo (w.setCell ⟨B, 0, none⟩ x).heap.size u v ss bs := by
  have hk : ∀ k, lo ≤ k → (w.setCell ⟨B, 0, none⟩ x).heap[k]? = w.heap[k]? := fun k hk => Below.heap_setCell _ _ _ _ (by show k ≠ B; omega)
  have h1 := own_keep h.o1 (w' := w.setCell ⟨B, 0, none⟩ x) fun k hk2 => hk k (own_lt h.o1 hk2).1
  have h2 := own_keep h.o2 (w' := w.setCell ⟨B, 0, none⟩ x) fun k hk2 => hk k (own_lt h.o2 hk2).1
  exact ⟨h1, h2, fun g hg2 => (own_lt h1 hg2).2, fun g hg2 => (own_lt h2 hg2).2, h.ap⟩
theorem SB.pushN {A : Option Addr} {n c : Nat} (h : SB w lo w.heap.size (.slice A n c) v ss bs) (hn : n = ss.length) (x : Nat) (hl : n ≤ 1000000000) (hlo : lo ≤ w.heap.size) :
    ∃ A' c' w', (Builtin.append_ #[23, 23] 23 #[.slice A n c, .slice (some ⟨w.heap.size, 0, none⟩) 1 1]).run Tryz.prog (w.alloc (.cells #[.int .i64 (x : Int)] 3)) = .ok (.slice A' (n + 1) c') w' ∧
      SB w' lo w'.heap.size (.slice A' (n + 1) c') v (ss ++ [x]) bs ∧ (w.alloc (.cells #[.int .i64 (x : Int)] 3)).grownBy w' (Value.slice A n c).ownBlock ∧ KeepsOthers w w' ∧ ∀ g, (Value.slice A n c).ownBlock = some g → lo ≤ g ∧ g < w.heap.size := by
  subst hn
  have hil := ints_length ss
  have h1 : (w.alloc (.cells #[.int .i64 (x : Int)] 3)).ownsRow lo 3 1 (.slice A ss.length c) (ints ss).length (iv (ints ss)) := by rw [hil]; exact h.o1.alloc _
  obtain ⟨A', c', w', hrun, ho, hg, hb⟩ := append_ints_at (w.alloc (.cells #[.int .i64 (x : Int)] 3)) lo (.slice A ss.length c) (ints ss) [(x : Int)] (ints (ss ++ [x])) (by simp [ints]) h1 (rd_ints w 3 [(x : Int)] #[.int .i64 (x : Int)] rfl (by simp)) (by rw [hil]; simp; omega) (by simp; omega)
  rw [ints_length, List.length_append] at hrun ho hb
  have hv : v.ownBlock = none ∨ v.ownBlock ≠ (Value.slice A ss.length c).ownBlock := by
    cases hx : v.ownBlock with
    | none => exact Or.inl rfl
    | some g => exact Or.inr fun e => h.ap g e.symm hx
  have ho2 := (h.o2.alloc (.cells #[.int .i64 (x : Int)] 3)).kept hg hv
  refine ⟨A', c', w', hrun, ⟨by rw [List.length_append]; exact ho, ho2, fun g hg2 => (own_lt ho hg2).2, fun g hg2 => (own_lt ho2 hg2).2, fun g hg2 hg3 => ?_⟩, hg, (KeepsOthers.alloc _ _).trans (keeps_row (by rw [hil] at h1; exact h1) hg), fun g hg2 => own_lt h.o1 hg2⟩
  rcases hb with e | e
  · exact h.ap g (e.symm.trans hg2) hg3
  · have h3 := (own_lt h.o2 hg3).2
    have h4 : (Value.slice A' (ss.length + 1) c').ownBlock = some g := hg2
    have h5 : some g = some (w.alloc (.cells #[.int .i64 (x : Int)] 3)).heap.size := h4.symm.trans e
    injection h5 with h5
    simp at h5
    omega
theorem SB.moreG {A B : Option Addr} {n c k d lo2 hi2 : Nat} {news all : List UInt8} (h : SB w lo w.heap.size u (.slice A n c) ss bs) (hn : n = bs.length) (hk : k = news.length) (ha : bs ++ news = all) (hr : Rd w lo2 hi2 B d (bv news)) (hl : n + k ≤ 140737488355328) (hlo : lo ≤ w.heap.size) :
    ∃ A' c' w', (Builtin.append_ #[28, 28] 28 #[.slice A n c, .slice B k d]).run Tryz.prog w = .ok (.slice A' all.length c') w' ∧ SB w' lo w'.heap.size u (.slice A' all.length c') ss all ∧
      w.grownBy w' (Value.slice A n c).ownBlock ∧ KeepsOthers w w' ∧ ∀ g, (Value.slice A n c).ownBlock = some g → lo ≤ g ∧ g < w.heap.size := by
  subst hn hk
  obtain ⟨A', c', w', hrun, ho, hg, hb⟩ := append_bytes_at w lo (.slice A bs.length c) bs news all ha h.o2 hr hl hlo
  have hu : u.ownBlock = none ∨ u.ownBlock ≠ (Value.slice A bs.length c).ownBlock := by
    cases hx : u.ownBlock with
    | none => exact Or.inl rfl
    | some g => exact Or.inr fun e => h.ap g hx e.symm
  have ho1 := h.o1.kept hg hu
  refine ⟨A', c', w', hrun, ⟨ho1, ho, fun g hg2 => (own_lt ho1 hg2).2, fun g hg2 => (own_lt ho hg2).2, fun g hg2 hg3 => ?_⟩, hg, keeps_row h.o2 hg, fun g hg2 => own_lt h.o2 hg2⟩
  rcases hb with e | e
  · exact h.ap g hg2 (e.symm.trans hg3)
  · have h3 := (own_lt h.o1 hg2).2
    have h5 : some g = some w.heap.size := hg3.symm.trans e
    injection h5 with h5
    omega
end
end Go.Proofs.YtmffpbhiehjlpaaGreat
namespace Go.Proofs.YtmffpbhiehjlpaaGreat
set_option linter.unusedSimpArgs false
set_option linter.unusedVariables false
open Go.RowKit Go.Shelf
attribute [local go_sem] Oper.semAt_some
def part2 (K : Nat) (l : List ByteArray) (x : Ck K l.length) : List (List UInt8) := ((bytL2 l).drop (x.i * K)).take K
def BI (b6 b7 lo : Nat) (S : List Nat) (E : List UInt8) (W : World) : Prop :=
  ∃ As cs Aa ca, Boxed W b6 23 (.slice As S.length cs) ∧ Boxed W b7 28 (.slice Aa E.length ca) ∧ SB W lo W.heap.size (.slice As S.length cs) (.slice Aa E.length ca) S E
theorem BI.own (b6 b7 lo : Nat) {α : Type} (S : α → List Nat) (E : α → List UInt8) : Own (fun s => BI b6 b7 lo (S s) (E s)) := fun s X Y row h hg hr => by
  obtain ⟨As, cs, Aa, ca, h6, h7, hsb⟩ := h
  exact ⟨As, cs, Aa, ca, boxed_keep h6 hg hr, boxed_keep h7 hg hr, hsb.keptG hg hr⟩
theorem four_boxes (w : World) (t0 t1 t2 t3 : TypeId) (v0 v1 v2 v3 : Value) : ∃ W, (((w.alloc (.cells #[v0] t0)).alloc (.cells #[v1] t1)).alloc (.cells #[v2] t2)).alloc (.cells #[v3] t3) = W ∧
    Boxed W w.heap.size t0 v0 ∧ Boxed W (w.heap.size + 1) t1 v1 ∧ Boxed W (w.heap.size + 1 + 1) t2 v2 ∧ Boxed W (w.heap.size + 1 + 1 + 1) t3 v3 ∧ Below w.heap.size w W ∧ W.heap.size = w.heap.size + 1 + 1 + 1 + 1 := by
  refine ⟨_, rfl, ?_, ?_, ?_, ?_, ?_, ?_⟩
  · exact (((Boxed.new w t0 v0).alloc _).alloc _).alloc _
  · have := ((Boxed.new (w.alloc (.cells #[v0] t0)) t1 v1).alloc (.cells #[v2] t2)).alloc (.cells #[v3] t3)
    simpa only [World.size_alloc] using this
  · have := (Boxed.new ((w.alloc (.cells #[v0] t0)).alloc (.cells #[v1] t1)) t2 v2).alloc (.cells #[v3] t3)
    simpa only [World.size_alloc] using this
  · have := Boxed.new (((w.alloc (.cells #[v0] t0)).alloc (.cells #[v1] t1)).alloc (.cells #[v2] t2)) t3 v3
    simpa only [World.size_alloc] using this
  · exact ((((Below.refl _ w).alloc (Nat.le_refl _) _).alloc (by simp only [World.size_alloc]; omega) _).alloc (by simp only [World.size_alloc]; omega) _).alloc (by simp only [World.size_alloc]; omega) _
  · simp only [World.size_alloc]
theorem rd_piece {w : World} {lo hi b off c k m : Nat} {l : List ByteArray} (h : Rd w lo hi (some ⟨b, off, none⟩) c (sv l)) (hk : k + m ≤ l.length) : Rd w lo hi (some ⟨b, off + k, none⟩) m (sv ((l.drop k).take m)) := by
  have hl := h.len
  have hc := h.cap
  rw [sv_length] at hl
  refine ⟨by rw [sv_length, List.length_take]; omega, by omega, fun h0 => ?_⟩
  rw [sv_length, List.length_take, List.length_drop] at h0
  obtain ⟨b2, off2, e, h1, h2, h3⟩ := h.at_ (by rw [sv_length]; omega)
  cases e
  refine ⟨b, off + k, rfl, h1, h2, fun j u hu => ?_⟩
  rw [Nat.add_assoc]
  refine h3 (k + j) u ?_
  rw [sv_take, sv_drop, List.getElem?_take] at hu
  split at hu
  · rw [List.getElem?_drop] at hu
    exact hu
  · cases hu
theorem rd_cells (w : World) (t : TypeId) (xs : List Value) (cs : Array Value) {n : Nat} (h : cs.toList = xs) (hn : xs.length = n) (hm : n ≤ 1000) : Rd (w.alloc (.cells cs t)) 0 (w.alloc (.cells cs t)).heap.size (some ⟨w.heap.size, 0, none⟩) n xs := by
  subst h hn
  refine ⟨Nat.le_refl _, by unfold maxLen; omega, fun _ => ⟨w.heap.size, 0, rfl, Nat.zero_le _, by simp, fun j u hu => ?_⟩⟩
  rw [Nat.zero_add, cell_of_row _ w.heap.size j cs t (0, 0) (heap_alloc_new w _)]
  simpa using hu
theorem rd_on {w w' : World} {A : Option Addr} {c : Nat} {xs : List Value} (h : Rd w 0 w.heap.size A c xs) (hb : Below w.heap.size w w') : Rd w' 0 w'.heap.size A c xs := (h.below hb (Nat.le_refl _)).wide (Nat.le_refl _) hb.size
theorem own_apart {w : World} {base n hi : Nat} {e : TypeId} {v u : Value} {xs : List Value} (h : w.ownsRow base e 1 v n xs) (hu : ∀ g, u.ownBlock = some g → g < hi) (hb : hi ≤ base := by omega) : v.ownBlock = none ∨ v.ownBlock ≠ u.ownBlock := by
  cases hx : v.ownBlock with
  | none => exact Or.inl rfl
  | some q =>
    refine Or.inr fun e => ?_
    have h1 := (own_lt h hx).1
    have h2 := hu q e.symm
    omega
theorem World_lt {w : World} {D : Nat} {o : Obj} (h : w.heap[D]? = some o) : D < w.heap.size := (Array.getElem?_eq_some_iff.1 h).1
theorem concat4 {W1 w2 w3 wd : World} {A1 Aa A2 A3 : Option Addr} {c1 ca c2 c3 : Nat} {wl E p1 p2 fr : List UInt8} (h1 : Rd W1 0 W1.heap.size A1 c1 (bv wl)) (h2 : Rd W1 0 W1.heap.size Aa ca (bv E))
    (h3 : w2.ownsRow wd.heap.size 5 1 (.slice A2 p1.length c2) p1.length (bv p1)) (h4 : w3.ownsRow w2.heap.size 5 1 (.slice A3 p2.length c3) p2.length (bv p2)) (hb2 : Below W1.heap.size W1 w2) (hb3 : Below w2.heap.size w2 w3)
    (hfr : fr = partsL [⟨none, 0, p1⟩, ⟨none, 0, p2⟩, ⟨none, 0, wl⟩, ⟨none, 0, E⟩]) (h0 : 0 < fr.length) (hm : fr.length ≤ 100000000000000) :
    Calls Tryz.prog 39 #[.slice (some ⟨w3.heap.size, 0, none⟩) 4 4] (w3.alloc (.cells #[.slice A2 p1.length c2, .slice A3 p2.length c3, .slice A1 wl.length c1, .slice Aa E.length ca] 28)) fun r w' => ∃ A' c', r = .returned (.slice A' fr.length c') ∧
      w'.ownsRow (w3.heap.size + 1) 5 1 (.slice A' fr.length c') fr.length (bv fr) ∧ Below (w3.heap.size + 1) (w3.alloc (.cells #[.slice A2 p1.length c2, .slice A3 p2.length c3, .slice A1 wl.length c1, .slice Aa E.length ca] 28)) w' := by
  have hal : Below w3.heap.size w3 (w3.alloc (.cells #[.slice A2 p1.length c2, .slice A3 p2.length c3, .slice A1 wl.length c1, .slice Aa E.length ca] 28)) := (Below.refl _ _).alloc (Nat.le_refl _) _
  have H := sconcat_any (w := w3.alloc (.cells #[.slice A2 p1.length c2, .slice A3 p2.length c3, .slice A1 wl.length c1, .slice Aa E.length ca] 28)) [⟨A2, c2, p1⟩, ⟨A3, c3, p2⟩, ⟨A1, c1, wl⟩, ⟨Aa, ca, E⟩] (A := some ⟨w3.heap.size, 0, none⟩) (c := 4)
    (rd_cells w3 28 _ _ (by simp [Part.val]) (by simp) (by omega))
    (fun p hp => by
      simp only [List.mem_cons, List.not_mem_nil, or_false] at hp
      rcases hp with rfl | rfl | rfl | rfl
      · exact rd_on (rd_on ((Rd.of_own h3).wide (Nat.zero_le _) (Nat.le_refl _)) hb3) hal
      · exact rd_on ((Rd.of_own h4).wide (Nat.zero_le _) (Nat.le_refl _)) hal
      · exact rd_on (rd_on (rd_on h1 hb2) hb3) hal
      · exact rd_on (rd_on (rd_on h2 hb2) hb3) hal)
  rw [show partsL [⟨A2, c2, p1⟩, ⟨A3, c3, p2⟩, ⟨A1, c1, wl⟩, ⟨Aa, ca, E⟩] = fr from hfr.symm] at H
  have e : (w3.alloc (.cells #[.slice A2 p1.length c2, .slice A3 p2.length c3, .slice A1 wl.length c1, .slice Aa E.length ca] 28)).heap.size = w3.heap.size + 1 := by simp
  rw [e] at H
  exact H h0 hm
theorem flat_le {α : Type} {f : α → List UInt8} {B : Nat} (h : ∀ x, (f x).length ≤ B) : ∀ l : List α, (l.map f).flatten.length ≤ B * l.length
  | [] => by simp
  | x :: l => by
    have h1 := h x
    have h2 := flat_le h l
    rw [List.map_cons, List.flatten_cons, List.length_append, List.length_cons, Nat.mul_add]
    omega
theorem part_le {K : Nat} (hK2 : K ≤ 64) {l : List ByteArray} (h4 : ∀ s ∈ l, s.size ≤ 4096) (x : Ck K l.length) : (blkL (part2 K l x)).length ≤ 4200 * 64 := by
  have hbl := blk_len (t := part2 K l x) fun s hs => by
    obtain ⟨y, hy, rfl⟩ := List.mem_map.1 (List.mem_of_mem_drop (List.mem_of_mem_take hs))
    rw [lenD]
    exact h4 y hy
  have : (part2 K l x).length ≤ K := by unfold part2; rw [List.length_take]; omega
  omega
set_option maxRecDepth 100000 in
set_option maxHeartbeats 4000000 in
theorem fbuild_yes {w : World} (l : List ByteArray) (K : Nat) (hK : 1 ≤ K) (hK2 : K ≤ 64) (hd : dicL (bytL2 l) = true) {c : Nat} {A : Option Addr} (h : Rd w 0 w.heap.size A c (sv l)) :
    Calls Tryz.prog 111 #[.slice A l.length c, .int .i64 (K : Int)] w fun r w' => ∃ A' c', r = .returned (.tuple #[.slice A' (frontL K (bytL2 l)).length c', .int .i64 0]) ∧
      w'.ownsRow w.heap.size 5 1 (.slice A' (frontL K (bytL2 l)).length c') (frontL K (bytL2 l)).length (bv (frontL K (bytL2 l))) ∧ Below w.heap.size w w' := by
  have hl := h.len
  have hm := h.cap
  rw [sv_length] at hl
  unfold maxLen at hm
  obtain ⟨hD1, hD2, _⟩ := dicL_iff.1 hd
  obtain ⟨fr, hfr0⟩ : ∃ fr, frontL K (bytL2 l) = fr := ⟨_, rfl⟩
  rw [hfr0]
  rw [bytL2_length] at hD1
  have h4 : ∀ s ∈ l, s.size ≤ 4096 := fun s hs => by
    have := hD2 _ (List.mem_map_of_mem hs)
    rw [lenD] at this
    exact this
  have H4 := Lib.hid h4
  have HF := Lib.hid (fun w => ffits_any (w := w) (K : Int))
  rw [decide_eq_true (show (1 : Int) ≤ (K : Int) ∧ (K : Int) ≤ 64 by omega)] at HF
  have HR := Lib.hid (fright_any l h fun s hs => by have := h4 s hs; omega)
  rw [hd] at HR
  have H := Lib.hid h
  refine (callsIn_wide (n := 4)).1 ?_
  clear h h4
  refine callsIn_of_wp_marks Tryz.func111 rfl trivial ?_ rfl
  simp only [Tryz.ntmps111, List.size_toArray, List.length_cons, List.length_nil, Nat.reduceAdd, Nat.reduceSub, Array.replicate_succ, Array.replicate_zero, List.push_toArray, List.append_toArray, List.nil_append, List.cons_append]
  refine wpIn_wide.2 ?_
  go_wp2_with fail
  refine (HF.out _).mono ?_
  rintro r w' ⟨rfl, rfl⟩
  go_wp2_with fail
  refine HR.out.mono ?_
  rintro r w' ⟨rfl, rfl⟩
  clear HR HF
  go_wp2_with fail
  refine ((callsIn_wide (n := 3)).1 (chunk_in 3 A l.length c K hK _)).mono ?_
  rintro r w' ⟨rfl, rfl⟩
  go_wp2_with fail
  obtain ⟨W0, hW0, x6, x7, x8, x9, hB0, hs0⟩ := four_boxes w 23 28 37 3 (.slice none 0 0) (.slice none 0 0) (.slice A l.length c) (.int .i64 (K : Int))
  rw [hW0]
  clear hW0
  obtain ⟨b7, e7⟩ : ∃ b, w.heap.size + 1 = b := ⟨_, rfl⟩
  rw [e7] at x7 x8 x9 hs0 ⊢
  obtain ⟨b8, e8⟩ : ∃ b, b7 + 1 = b := ⟨_, rfl⟩
  rw [e8] at x8 x9 hs0 ⊢
  obtain ⟨b9, e9⟩ : ∃ b, b8 + 1 = b := ⟨_, rfl⟩
  rw [e9] at x9 hs0 ⊢
  obtain ⟨b6, e6⟩ : ∃ b, w.heap.size = b := ⟨_, rfl⟩
  have HH : Hid (Rd w 0 b6 A c (sv l)) := by rw [← e6]; exact H.out
  clear H
  rw [e6] at x6 e7 hB0 ⊢
  obtain ⟨b, off, hA⟩ : ∃ b off, 0 < l.length → A = some ⟨b, off, none⟩ ∧ b < b6 := by
    rcases Nat.eq_zero_or_pos l.length with h0 | h0
    · exact ⟨0, 0, fun h => by omega⟩
    · obtain ⟨b, off, e, _, h2, _⟩ := HH.out.at_ (by rw [sv_length]; exact h0)
      exact ⟨b, off, fun _ => ⟨e, h2⟩⟩
  obtain ⟨b10, e10⟩ : ∃ b, b9 + 1 = b := ⟨_, rfl⟩
  rw [e10] at hs0
  refine (wpIn_wide (n := 4)).1 ?_
  refine wpIn_rangeFunc_ownG rfl (by omega) (gf := 151) (lb := chunkV b8 b9) rfl trivial (enters_of Tryz.func151 (by kernel_rfl) rfl)
    (chunk_stops 3 (by omega) b8 b9 b6 l.length K hK hK2 (by omega) hl hm (fun h => (hA h).1) W0 x8 x9)
    Kp2.trans (fun W lk o o' hlk hk ho hwk => ⟨belowK_b (w := W0) (by omega) W lk o o' hlk hk ho hwk, World.putObj_heap_other (by omega), World.putObj_heap_other (by omega)⟩) (Below.refl _ _) (fun _ => rfl)
    (fun pre W => BI b6 b7 b10 (pre.map fun x => (blkL (part2 K l x)).length) ((pre.map fun x => blkL (part2 K l x)).flatten) W ∧ Below b6 W0 W)
    (fun _ _ _ => False)
    (OwnFrom.and (Own.from (BI.own _ _ _ _ _) _) (ownFrom_below (by omega) (by omega)))
    (fun c => Own.from (fun s X Y row hs hg hr => hs) _)
    ⟨⟨none, 0, none, 0, x6, x7, SB.nil _ _ _⟩, Below.refl _ _⟩
    (fun x => { tmps := #[.slice A l.length c, .int .i64 (K : Int), undef, undef, .slice none 0 0, .int .i64 0, .pointer (some ⟨b6, 0, none⟩), .pointer (some ⟨b7, 0, none⟩), .slice (some ⟨b, off + x.i * K, none⟩) (ckN K l.length x.i) (ckN K l.length x.i), undef, undef, undef, .int .i64 (K : Int), .bool true, .bool false, .bool false, .slice A l.length c, .bool true, .bool false, .bool false, .slice A l.length c, .int .i64 (K : Int), .func (.func 151) #[] (chunkV b8 b9), .slice (some ⟨b, off + x.i * K, none⟩) (ckN K l.length x.i) (ckN K l.length x.i), undef, undef, undef, undef, undef, undef, undef, undef, undef, undef, undef, undef, undef, undef, undef, undef, undef, undef, undef, undef, undef, undef, undef, undef, undef, undef, undef], defers := [] }) ?assign ?body ?done ?stop
  case assign =>
    intro lp x W K' hK'
    dsimp only [encCk]
    gi_wp2
    exact hK'
  case body =>
    rintro lp pre x W ⟨⟨As, cs, Aa, ca, h6, h7, hsb⟩, hBW⟩ hlt
    have hlo : b10 ≤ W.heap.size := by have := hBW.size; omega
    have hB := hB0.trans hBW
    obtain ⟨hA1, hA2⟩ := hA (by have := x.h; omega)
    subst hA1
    obtain ⟨P, hP⟩ : ∃ P, (l.drop (x.i * K)).take (ckN K l.length x.i) = P := ⟨_, rfl⟩
    have hxh := x.h
    have hck : ckN K l.length x.i ≤ K ∧ x.i * K + ckN K l.length x.i ≤ l.length ∧ 0 < ckN K l.length x.i := by unfold ckN; omega
    have hPp : bytL2 P = part2 K l x := by
      rw [← hP]
      unfold part2 bytL2
      rw [List.map_take, List.map_drop, List.take_eq_take_iff]
      unfold ckN
      simp
      try omega
    have hPl : P.length = ckN K l.length x.i := by rw [← hP, List.length_take, List.length_drop]; omega
    have hrd := rd_piece HH.out hck.2.1
    rw [hP] at hrd
    obtain ⟨m, hmm⟩ : ∃ m, ckN K l.length x.i = m + 1 := ⟨ckN K l.length x.i - 1, by omega⟩
    rw [hmm] at hck hPl hrd ⊢
    have hP4 : ∀ s ∈ P, s.size ≤ 4096 := fun s hs => H4.out s (List.mem_of_mem_drop (List.mem_of_mem_take (by rw [hP]; exact hs)))
    have hszW := hB.size
    have HC := Lib.hid (fcode_any (w := W) P hPl (by omega) ((hrd.below hB (Nat.le_refl _)).wide (Nat.le_refl _) (by omega)) hP4)
    rw [hPp] at HC
    have hbl := blk_len (t := part2 K l x) fun s hs => by
      rw [← hPp] at hs
      obtain ⟨y, hy, rfl⟩ := List.mem_map.1 hs
      rw [lenD]
      exact hP4 y hy
    rw [← hPp, bytL2_length, hPl, hPp] at hbl
    obtain ⟨S, hS⟩ : ∃ S, (pre.map fun x => (blkL (part2 K l x)).length) = S := ⟨_, rfl⟩
    obtain ⟨E, hE⟩ : ∃ E, (pre.map fun x => blkL (part2 K l x)).flatten = E := ⟨_, rfl⟩
    obtain ⟨S2, hS2⟩ : ∃ S2, ((pre ++ [x]).map fun x => (blkL (part2 K l x)).length) = S2 := ⟨_, rfl⟩
    obtain ⟨E2, hE2⟩ : ∃ E2, ((pre ++ [x]).map fun x => blkL (part2 K l x)).flatten = E2 := ⟨_, rfl⟩
    have hEl : E.length ≤ 2000000000 := by
      have := flat_le (f := fun x => blkL (part2 K l x)) (B := 4200 * 64) (fun x => part_le hK2 H4.out x) pre
      rw [hE] at this
      have h5 := Nat.mul_le_mul_left (4200 * 64) (show pre.length ≤ 4096 by omega)
      omega
    rw [hS] at h6
    rw [hE] at h7
    rw [hS, hE] at hsb
    obtain ⟨bk, hbk⟩ : ∃ bk, blkL (part2 K l x) = bk := ⟨_, rfl⟩
    rw [hbk] at HC hbl
    have hSS : S ++ [bk.length] = S2 := by rw [← hS2, List.map_append, hS, List.map_cons, List.map_nil, hbk]
    have hEE : E ++ bk = E2 := by rw [← hE2, List.map_append, List.flatten_append, hE, List.map_cons, List.map_nil, hbk]; simp
    have hSl : S.length ≤ 4096 := by rw [← hS, List.length_map]; omega
    have HS2 := Lib.hid hS2
    have HE2 := Lib.hid hE2
    clear hS hE hbk hS2 hE2
    gi_wp2
    refine ⟨trivial, (CallsIn.inRound lp (callsIn_wide.2 HC.out)).mono ?_⟩
    rintro r W1 ⟨A1, c1, rfl, ho1, hb1⟩
    have hszW1 := hb1.size
    have k6 := boxed_heap h6 (hb1.block b6 (by omega))
    have k7 := boxed_heap h7 (hb1.block b7 (by have := h7.lt; omega))
    have ksb := hsb.onBelow hb1
    obtain ⟨A2, c2, W2, hrun2, hsb2, hg2, hk2, hr2⟩ := ksb.pushN rfl bk.length (by omega) (by omega)
    rw [hSS] at hsb2
    have hszA : (W1.alloc (.cells #[.int .i64 (bk.length : Int)] 3)).heap.size = W1.heap.size + 1 := by simp
    have hrow2 : ∀ g, (Value.slice As S.length cs).ownBlock = some g → b10 ≤ g := fun g hg => (hr2 g hg).1
    have m6 := boxed_heap (k6.alloc (.cells #[.int .i64 (bk.length : Int)] 3)) (heap_lt hg2 hrow2 (by omega) (by omega))
    have m7 := boxed_heap (k7.alloc (.cells #[.int .i64 (bk.length : Int)] 3)) (heap_lt hg2 hrow2 (by omega) (by omega))
    have ho2 := (ho1.alloc (.cells #[.int .i64 (bk.length : Int)] 3)).kept hg2 (own_apart ho1 hsb.h1)
    have hBel2 : Below b6 W W2 := ((hb1.mono (by omega)).alloc (by omega) _).grown hg2 (by omega) (fun g hg => by have := hrow2 g hg; omega)
    have c6 := k6.cell
    have c6b := m6.cell
    have f6b := m6.frozen
    gi_wp2_with (gi_at_builtin; refine wpListIn_append_run rfl _ _ _ rfl _ _ rfl rfl hrun2 ?_; refine held ?_)
    refine ⟨?_⟩
    clear hrun2 c6
    -- the box of the numbers
    have n6 := m6.set (.slice A2 (S.length + 1) c2)
    have n7 : Boxed (W2.setCell ⟨b6, 0, none⟩ (.slice A2 (S.length + 1) c2)) b7 28 (.slice Aa E.length ca) := boxed_other m7 (by omega)
    have nsb := hsb2.setBox (B := b6) (by omega) (.slice A2 (S.length + 1) c2)
    have no := own_keep (w' := W2.setCell ⟨b6, 0, none⟩ (.slice A2 (S.length + 1) c2)) ho2 (fun k hk => Below.heap_setCell _ _ _ _ (by have := (own_lt ho1 hk).1; show k ≠ b6; omega))
    have nk : KeepsOthers W1 (W2.setCell ⟨b6, 0, none⟩ (.slice A2 (S.length + 1) c2)) := hk2.trans (KeepsOthers.setCell _ _ _)
    have nb := hBel2.setCell (p := ⟨b6, 0, none⟩) (Nat.le_refl _) (.slice A2 (S.length + 1) c2)
    obtain ⟨W3, hW3⟩ : ∃ W3, W2.setCell ⟨b6, 0, none⟩ (.slice A2 (S.length + 1) c2) = W3 := ⟨_, rfl⟩
    rw [hW3] at n6 n7 nsb no nk nb
    have hszW3 := nb.size
    obtain ⟨A4, c4, W4, hrun4, hsb4, hg4, hk4, hr4⟩ := nsb.moreG rfl rfl hEE (Rd.of_own no) (by omega) (by omega)
    have hrow4 : ∀ g, (Value.slice Aa E.length ca).ownBlock = some g → b10 ≤ g := fun g hg => (hr4 g hg).1
    have p6 := boxed_heap n6 (heap_lt hg4 hrow4 (by omega) n6.lt)
    have p7 := boxed_heap n7 (heap_lt hg4 hrow4 (by omega) n7.lt)
    have q6 : Boxed (W4.setCell ⟨b7, 0, none⟩ (.slice A4 E2.length c4)) b6 23 (.slice A2 (S.length + 1) c2) := boxed_other p6 (by omega)
    have q7 := p7.set (.slice A4 E2.length c4)
    have qsb := hsb4.setBox (B := b7) (by omega) (.slice A4 E2.length c4)
    have qk : KeepsOthers W1 (W4.setCell ⟨b7, 0, none⟩ (.slice A4 E2.length c4)) := (nk.trans hk4).trans (KeepsOthers.setCell _ _ _)
    have qb := (nb.grown hg4 (by omega) (fun g hg => by have := hrow4 g hg; omega)).setCell (p := ⟨b7, 0, none⟩) (by show b6 ≤ b7; omega) (.slice A4 E2.length c4)
    have qh : ∀ B, B < b10 → B ≠ b6 → B ≠ b7 → (W4.setCell ⟨b7, 0, none⟩ (.slice A4 E2.length c4)).heap[B]? = W.heap[B]? := fun B h1 h2 h3 => by
      have hW1 := hb1.block B (by omega)
      have hW2 := heap_lt hg2 hrow2 h1 (by omega)
      have hWa : (W1.alloc (.cells #[.int .i64 (bk.length : Int)] 3)).heap[B]? = W1.heap[B]? := Below.heap_alloc _ _ _ (by omega)
      have hW3b : W3.heap[B]? = W2.heap[B]? := by rw [← hW3]; exact Below.heap_setCell _ _ _ _ h2
      have hW4 := heap_lt hg4 hrow4 h1 (by omega)
      have hW5 : (W4.setCell ⟨b7, 0, none⟩ (.slice A4 E2.length c4)).heap[B]? = W4.heap[B]? := Below.heap_setCell _ _ _ _ h3
      rw [hW5, hW4, hW3b, hW2, hWa, hW1]
    have HQ := Lib.hid (⟨q6, q7, qsb, qk, qb, qh⟩ : _ ∧ _ ∧ _ ∧ _ ∧ _ ∧ _)
    have c7 := n7.cell
    have c7b := p7.cell
    have f7b := p7.frozen
    have hS2l : S2.length = S.length + 1 := by rw [← hSS, List.length_append, List.length_singleton]
    have HSL := Lib.hid hS2l
    have HKB := Lib.hid (⟨hb1, hBW⟩ : _ ∧ _)
    clear q6 q7 qsb qk qb qh p6 p7 hsb4 hk4 hg4 n6 n7 nsb no nk nb hS2l m6 m7 hsb2 hg2 hk2 ho2 hBel2 k6 k7 ksb h6 h7 hsb ho1 hb1 hSS hEE hrow2 hrow4 hr2 hr4
    gi_wp2_with (gi_at_builtin; refine wpListIn_append_run rfl _ _ _ rfl _ _ rfl rfl hrun4 ?_)
    obtain ⟨q6, q7, qsb, qk, qb, qh⟩ := HQ.out
    obtain ⟨hb1, hBW⟩ := HKB.out
    refine ⟨((KeepsOthers.of_grownBy (below_gb_none (Nat.le_refl _) hb1) (fun j o e _ => by cases e)).trans qk).from _, ⟨qb, qh b8 (by omega) (by omega) (by omega), qh b9 (by omega) (by omega) (by omega)⟩, ?_, hBW.trans qb⟩
    show BI b6 b7 b10 _ _ _
    rw [HS2.out, HE2.out]
    exact ⟨A2, c2, A4, c4, by rw [HSL.out]; exact q6, q7, by rw [HSL.out]; exact qsb⟩
  case done =>
    rintro D ys W hD rfl ⟨⟨As, cs, Aa, ca, h6, h7, hsb⟩, hBW⟩ hKd
    have hlo : b10 ≤ W.heap.size := by have := hBW.size; omega
    have hB := hB0.trans hBW
    have hck : ∀ n, n = (bytL2 l).length → (cks K n 0).map (fun x => ((bytL2 l).drop (x.i * K)).take K) = blks K (bytL2 l) 0 (blocksN (bytL2 l).length K) := fun n hn => by subst hn; exact cks_all hK (bytL2 l)
    have hc2 := hck l.length (bytL2_length l).symm
    obtain ⟨hs1, hs2⟩ := sizes_blocks (l := bytL2 l) hK
    obtain ⟨S, hS⟩ : ∃ S, sizesN K (bytL2 l) (bytL2 l).length = S := ⟨_, rfl⟩
    obtain ⟨E, hE⟩ : ∃ E, entsL K (bytL2 l) (bytL2 l).length = E := ⟨_, rfl⟩
    have e1 : (cks K l.length 0).map (fun x => (blkL (part2 K l x)).length) = S := by
      rw [← hS, hs1, ← hc2, List.map_map]
      rfl
    have e2 : ((cks K l.length 0).map fun x => blkL (part2 K l x)).flatten = E := by
      rw [← hE, hs2, ← hc2, List.map_map]
      rfl
    rw [e1] at h6
    rw [e2] at h7
    rw [e1, e2] at hsb
    have hmay := (sizes_may (K := K) hd).1
    have hSl := (sizes_may (K := K) hd).2
    have hEl := ents_len K hD2 (bytL2 l).length
    rw [bytL2_length] at hEl
    rw [hS] at hmay hSl
    rw [bytL2_length] at hE
    rw [hE] at hEl
    have hfr : fr = partsL [⟨none, 0, putL l.length⟩, ⟨none, 0, putL K⟩, ⟨none, 0, writeL (ints S)⟩, ⟨none, 0, E⟩] := by
      rw [← hfr0]
      unfold frontL partsL
      rw [hS, bytL2_length, hE]
      simp
    have HW := Lib.hid (pwrite_yes (w := W) (ints S) hmay ((Rd.of_own hsb.o1).wide (Nat.zero_le _) (Nat.le_refl _)) (Nat.le_refl _) (by rw [ints_length]; omega))
    rw [ints_length] at HW
    have c6 := h6.cell
    clear e1 e2 hs1 hs2 hc2 hck hS hE
    go_wp2_with fail
    refine HW.out.mono ?_
    rintro r W1 ⟨A1, c1, rfl, ho1, hb1⟩
    have hWl := writeL_length hmay (by rw [ints_length]; omega)
    obtain ⟨wl, hwl⟩ : ∃ wl, writeL (ints S) = wl := ⟨_, rfl⟩
    rw [hwl] at ho1 hWl hfr ⊢
    clear hwl HW c6
    have k7 := boxed_heap h7 (hb1.block b7 h7.lt)
    have c7 := k7.cell
    have hR1 : Rd W1 0 W1.heap.size A1 c1 (bv wl) := (Rd.of_own ho1).wide (Nat.zero_le _) (Nat.le_refl _)
    have hR2 : Rd W1 0 W1.heap.size Aa ca (bv E) := rd_on ((Rd.of_own hsb.o2).wide (Nat.zero_le _) (Nat.le_refl _)) hb1
    have HR1 := Lib.hid hR1
    have HR2 := Lib.hid hR2
    have hDW := World_lt hKd
    have HKD : Hid (W1.heap[D]? = some (.deferred (some []))) := (hb1.block D hDW).trans hKd
    have hDW1 := World_lt HKD.out
    have HB1 := Lib.hid (hB.trans (hb1.mono (by omega)))
    have HP1 := Lib.hid (fun w => put_any (w := w) l.length (by omega))
    have HP2 := Lib.hid (fun w => put_any (w := w) K (by omega))
    have hb71 := k7.lt
    have hp1 := putL_nine l.length (by omega)
    have hp2 := putL_nine K (by omega)
    have hp3 := putL_pos l.length
    obtain ⟨p1, hpp1⟩ : ∃ p1, putL l.length = p1 := ⟨_, rfl⟩
    obtain ⟨p2, hpp2⟩ : ∃ p2, putL K = p2 := ⟨_, rfl⟩
    rw [hpp1] at HP1 hp1 hp3 hfr
    rw [hpp2] at HP2 hp2 hfr
    have hfrl : fr.length = p1.length + (p2.length + (wl.length + E.length)) := by rw [hfr]; simp [partsL]
    have hf0 : 0 < fr.length := by omega
    have hf1 : fr.length ≤ 100000000000000 := by omega
    have HFR := Lib.hid hfr
    have hb6W1 : b6 ≤ W1.heap.size := by have := HB1.out.size; omega
    have hDb : b6 ≤ D := by omega
    clear hpp1 hpp2 k7 h6 h7 hsb ho1 hb1 hB0 x6 x7 x8 x9 hs0 hBW hB hfr hKd hR1 hR2 hfrl
    go_wp2_with fail
    go_region_held3 (fun w' => w'.cell? ⟨b7, 0, none⟩ = some (.slice Aa E.length ca)) (first | assumption | exact c73a _ | go_keep) (first
      | (go_at_call 64; refine (HP1.out _).mono ?_; clear HP1; rintro r w2 ⟨A2, c2, rfl, ho2, hb2⟩; have c72 : w2.cell? ⟨b7, 0, none⟩ = some (.slice Aa E.length ca) := (hb2.cell (p := ⟨b7, 0, none⟩) hb71).trans c7; have hb72 : W1.heap.size ≤ w2.heap.size := hb2.size; have HO2 := Lib.hid ho2; have HB2 : Hid (Below W1.heap.size W1 w2) := (below_drewN' (Below.refl _ W1) 1).trans hb2; clear ho2 hb2)
      | (go_at_call 64; refine (HP2.out _).mono ?_; clear HP2; rintro r w3 ⟨A3, c3, rfl, ho3, hb3⟩; have c73 : w3.cell? ⟨b7, 0, none⟩ = some (.slice Aa E.length ca) := (hb3.cell (p := ⟨b7, 0, none⟩) (Nat.lt_of_lt_of_le hb71 hb72)).trans c72; have hb73 := hb3.size; have c73a : ∀ o, (w3.alloc o).cell? ⟨b7, 0, none⟩ = some (.slice Aa E.length ca) := fun o => (World.cell?_alloc_lt w3 o ⟨b7, 0, none⟩ (Nat.lt_of_lt_of_le hb71 (Nat.le_trans hb72 hb73))).trans c73; have HO3 := Lib.hid ho3; have HB3 := Lib.hid hb3; have HCC := Lib.hid (concat4 HR1.out HR2.out HO2.out HO3.out HB2.out HB3.out HFR.out hf0 hf1); clear ho3 hb3)
      | (go_at_call 39; refine HCC.out.mono ?_; clear HCC; rintro r w5 ⟨A5, c5, rfl, ho5, hb5⟩; have c75 : w5.cell? ⟨b7, 0, none⟩ = some (.slice Aa E.length ca) := (hb5.cell (p := ⟨b7, 0, none⟩) (Nat.lt_of_lt_of_le hb71 (Nat.le_trans (Nat.le_trans hb72 hb73) (by simp)))).trans (c73a _); have HO5 := Lib.hid ho5; have HB5 := Lib.hid hb5; clear ho5 hb5))
    go_wp2_with fail
    have hbe : Below W1.heap.size W1 w5 := ((HB2.out.trans (HB3.out.mono hb72)).alloc (Nat.le_trans hb72 hb73) _).trans (HB5.out.mono (by omega))
    have hK5 : w5.heap[D]? = some (.deferred (some [])) := (hbe.block D hDW1).trans HKD.out
    have hB5 := HB1.out.trans (hbe.mono (by omega))
    have hown5 := ownsRow_putObj (own_base HO5.out (base' := b6) (by omega)) (.deferred none) hK5 rfl
    have hDb2 : w.heap.size ≤ D := by omega
    refine ⟨by simp, .inl ⟨_, _, rfl, run_takeDeferred hK5, ?_⟩⟩
    refine ⟨.tuple #[.slice A5 fr.length c5, .int .i64 0], ?_, A5, c5, rfl, by rw [e6]; exact hown5, by rw [e6]; exact hB5.trans (belowK_b (w := w) (by omega) w5 D _ _ hDb2 hK5 rfl rfl)⟩
    simp [results, Tryz.f111, go_sem]
  case stop =>
    rintro D c' pre W hD _ h _
    exact h.elim
end Go.Proofs.YtmffpbhiehjlpaaGreat
