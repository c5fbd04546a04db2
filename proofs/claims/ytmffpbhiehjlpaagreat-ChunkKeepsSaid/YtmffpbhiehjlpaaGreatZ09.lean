/-
  Dictionaries in plain: what Open takes without an error is built so; what is built is taken; no beginning of it is; how long it is.
  A string's bytes as a list: how many.
  New blocks in a region that draws its order: empty literals and literals of one cell, in whichever order. No program is named here.
-/
import Derived.Test.YtmffpbhiehjlpaaGreatZ08
import Derived.Test.YtmffpbhiehjlpaaGreatRows
import Derived.Test.YtmffpbhiehjlpaaGreatZ05
import Derived.Test.YtmffpbhiehjlpaaGreatZ01
import Derived.BigQuiet
import Derived.Deep.QuietTactic
import Derived.Test.YtmffpbhiehjlpaaGreatZ00
namespace Go.Proofs.YtmffpbhiehjlpaaGreat
set_option linter.unusedSimpArgs false
set_option linter.unusedVariables false
theorem blocks_zero {K : Nat} (hK : 1 ≤ K) : blocksN 0 K = 0 := by
  unfold blocksN
  rw [Nat.zero_add]
  exact Nat.div_eq_of_lt (by omega)
theorem blocks_lt {count K q : Nat} (hK : 1 ≤ K) (h : q < blocksN count K) : q * K < count := by
  unfold blocksN at h
  have h1 : (q + 1) * K ≤ count + K - 1 := (Nat.le_div_iff_mul_le (by omega)).1 h
  rw [Nat.add_mul, Nat.one_mul] at h1
  omega
theorem blocks_ge {count K : Nat} (hK : 1 ≤ K) : count ≤ blocksN count K * K := by
  unfold blocksN
  have h1 := Nat.div_add_mod (count + K - 1) K
  have h2 := Nat.mod_lt (count + K - 1) (show 0 < K by omega)
  rw [Nat.mul_comm] at h1
  omega
theorem blocks_le {count K : Nat} (hK : 1 ≤ K) : blocksN count K ≤ count := by
  rcases Nat.eq_zero_or_pos count with rfl | h0
  · rw [blocks_zero hK]; omega
  · unfold blocksN
    rw [Nat.div_le_iff_le_mul_add_pred (by omega)]
    have : count ≤ K * count := Nat.le_mul_of_pos_left _ (by omega)
    omega
theorem openB_good {bs : List UInt8} {count K : Nat} (hK : 1 ≤ K) : ∀ {ns : List Nat} {i k k2 : Nat} {l l2 : List (List UInt8)}, k ≤ bs.length → l.length = i * K → (∀ q, q < i + ns.length → q * K < count) → openB bs count K ns i l k 0 = (l2, k2, 0) →
    (goodL l = true → goodL l2 = true) ∧ (ns = [] → l2 = l) ∧ (ns ≠ [] → l2.length = min count ((i + ns.length) * K)) ∧ sizesN K l2 l2.length = sizesN K l l.length ++ ns ∧ entsL K l2 l2.length ++ bs.drop k2 = entsL K l l.length ++ bs.drop k ∧ k ≤ k2 ∧ k2 ≤ bs.length
  | [], i, k, k2, l, l2, hk, hl, hq, h => by
    simp only [openB, Prod.mk.injEq, and_true] at h
    obtain ⟨rfl, rfl⟩ := h
    exact ⟨id, fun _ => rfl, fun h => absurd rfl h, by simp, rfl, Nat.le_refl _, hk⟩
  | z :: ns, i, k, k2, l, l2, hk, hl, hq, h => by
    have hi := hq i (by simp)
    rw [openB] at h
    obtain ⟨n, hn⟩ : ∃ n, min K (count - i * K) = n + 1 := ⟨min K (count - i * K) - 1, by omega⟩
    rw [hn] at h
    obtain ⟨R, hR⟩ : ∃ R, takeT bs l k 0 (n + 1) z = R := ⟨_, rfl⟩
    rw [hR] at h
    obtain ⟨l1, k1, e1⟩ := R
    simp only at h
    by_cases he : e1 = 0
    · subst he
      obtain ⟨t, t1, t2, t3, t4, t5, t6, t7⟩ := takeT_good hk hR
      have hl1 : l1.length = i * K + (n + 1) := by rw [t2, List.length_append, hl, t1]
      have hnK : n < K := by omega
      have hd : (l1.drop (i * K)).take (n + 1) = t := by
        rw [t2, ← hl, List.drop_left, List.take_of_length_le (by omega)]
      have hS : sizesN K l1 l1.length = sizesN K l l.length ++ [z] := by
        rw [hl1, sizes_blk hnK (by omega), hd, t5, hl, t2, sizes_app (by omega)]
      have hE : entsL K l1 l1.length ++ bs.drop k1 = entsL K l l.length ++ bs.drop k := by
        rw [hl1, ents_blk (by omega) (by omega), hd, hl, t2, ents_app (by omega), t4, List.append_assoc]
      cases ns with
      | nil =>
        simp only [openB, Prod.mk.injEq, and_true] at h
        obtain ⟨rfl, rfl⟩ := h
        refine ⟨t3, fun h => (by cases h), fun _ => ?_, hS, hE, by omega, t7⟩
        rw [hl1, List.length_singleton, Nat.add_mul, Nat.one_mul]
        omega
      | cons y ns =>
        have hi2 := hq (i + 1) (by simp)
        rw [Nat.add_mul, Nat.one_mul] at hi2
        have hl2 : l1.length = (i + 1) * K := by rw [hl1, Nat.add_mul, Nat.one_mul]; omega
        obtain ⟨i1, i2, i3, i4, i5, i6, i7⟩ := openB_good hK (ns := y :: ns) t7 hl2 (fun q hq2 => hq q (by simp only [List.length_cons] at hq2 ⊢; omega)) h
        refine ⟨fun hg => i1 (t3 hg), fun h => (by cases h), fun _ => ?_, ?_, by rw [i5, hE], by omega, i7⟩
        · rw [i3 (by simp)]
          have e : i + 1 + (y :: ns).length = i + (z :: y :: ns).length := by simp; omega
          rw [e]
        · rw [i4, hS]
          simp
    · rw [openB_bad _ _ _ _ _ _ _ he] at h
      simp only [Prod.mk.injEq] at h
      exact absurd h.2.2 he
def blks (K : Nat) (L : List (List UInt8)) (i m : Nat) : List (List (List UInt8)) := (List.range' i m).map fun q => (L.drop (q * K)).take K
theorem blks_succ (K : Nat) (L : List (List UInt8)) (i m : Nat) : blks K L i (m + 1) = (L.drop (i * K)).take K :: blks K L (i + 1) m := rfl
theorem blks_concat (K : Nat) (L : List (List UInt8)) (m : Nat) : blks K L 0 (m + 1) = blks K L 0 m ++ [(L.drop (m * K)).take K] := by
  unfold blks
  rw [List.range'_concat]
  simp
theorem blks_all {K : Nat} (hK : 1 ≤ K) {L : List (List UInt8)} : ∀ {m : Nat}, (∀ q, q < m → q * K < L.length) → sizesN K L (min (m * K) L.length) = (blks K L 0 m).map (fun b => (blkL b).length) ∧ entsL K L (min (m * K) L.length) = ((blks K L 0 m).map blkL).flatten
  | 0, _ => by simp [blks, sizesN, ents_zero]
  | m + 1, h => by
    have hm := h m (by omega)
    obtain ⟨h1, h2⟩ := blks_all hK (m := m) fun q hq => h q (by omega)
    rw [Nat.min_eq_left (by omega)] at h1 h2
    obtain ⟨j, hj⟩ : ∃ j, min K (L.length - m * K) = j + 1 := ⟨min K (L.length - m * K) - 1, by omega⟩
    have e : min ((m + 1) * K) L.length = m * K + (j + 1) := by rw [Nat.add_mul, Nat.one_mul]; omega
    have ht : (L.drop (m * K)).take (j + 1) = (L.drop (m * K)).take K := by
      rw [← hj, List.take_eq_take_iff]
      simp
    rw [e, sizes_blk (by omega) (by omega), ents_blk (by omega) (by omega), h1, h2, ht, blks_concat]
    simp
theorem openB_there {bs rest : List UInt8} {K : Nat} (hK : 1 ≤ K) {L : List (List UInt8)} (hg : goodL L = true) : ∀ {m i k : Nat}, k ≤ bs.length → (∀ q, q < i + m → q * K < L.length) → L.length ≤ (i + m) * K → bs.drop k = ((blks K L i m).map blkL).flatten ++ rest →
    openB bs L.length K ((blks K L i m).map fun b => (blkL b).length) i (L.take (i * K)) k 0 = (L, k + ((blks K L i m).map blkL).flatten.length, 0)
  | 0, i, k, hk, hq, hL, h => by
    rw [Nat.add_zero] at hL
    simp [blks, openB, List.take_of_length_le hL]
  | m + 1, i, k, hk, hq, hL, h => by
    have hi := hq i (by omega)
    obtain ⟨b, hb⟩ : ∃ b, (L.drop (i * K)).take K = b := ⟨_, rfl⟩
    have hbl : b.length = min K (L.length - i * K) := by rw [← hb, List.length_take, List.length_drop]
    have htk : L.take (i * K) ++ b = L.take ((i + 1) * K) := by rw [← hb, Nat.add_mul, Nat.one_mul, List.take_add]
    have hgb : goodL (L.take (i * K) ++ b) = true := by
      rw [htk]
      exact good_app (t := L.drop ((i + 1) * K)) (by rw [List.take_append_drop]; exact hg)
    rw [blks_succ, hb, List.map_cons, List.flatten_cons, List.append_assoc] at h
    rw [blks_succ, hb, List.map_cons, List.map_cons, List.flatten_cons, openB, ← hbl]
    cases b with
    | nil => simp at hbl; omega
    | cons s t =>
      have hT := takeT_there (l := L.take (i * K)) hk hgb h
      rw [List.length_cons]
      simp only [hT]
      rw [htk]
      have hlen : bs.length - k = (blkL (s :: t)).length + (((blks K L (i + 1) m).map blkL).flatten ++ rest).length := by rw [← List.length_drop, h, List.length_append]
      rw [openB_there hK hg (m := m) (i := i + 1) (by omega) (fun q h2 => hq q (by omega)) (by rw [show i + 1 + m = i + (m + 1) by omega]; exact hL) (by rw [← List.drop_drop, h, List.drop_left])]
      rw [List.length_append, Nat.add_assoc]
theorem sizes_may {K : Nat} {l : List (List UInt8)} (h : dicL l = true) : May (ints (sizesN K l l.length)) ∧ (sizesN K l l.length).length ≤ 4096 := by
  obtain ⟨h1, h2, h3⟩ := dicL_iff.1 h
  refine ⟨fun z hz => ?_, by have := sizes_len K l l.length; omega⟩
  obtain ⟨x, hx, rfl⟩ := List.mem_map.1 hz
  have h4 := sizes_le K l l.length x hx
  have h5 := ents_len K h2 l.length
  omega
theorem sizes_blocks {K : Nat} {l : List (List UInt8)} (hK : 1 ≤ K) : sizesN K l l.length = (blks K l 0 (blocksN l.length K)).map (fun b => (blkL b).length) ∧ entsL K l l.length = ((blks K l 0 (blocksN l.length K)).map blkL).flatten := by
  have h := blks_all hK (L := l) (m := blocksN l.length K) fun q hq => blocks_lt hK hq
  rw [Nat.min_eq_right (blocks_ge hK)] at h
  exact h
theorem openR_good {bs : List UInt8} {k k2 : Nat} {l : List (List UInt8)} (hk : k ≤ bs.length) (h : openR bs k 0 = (l, k2, 0)) :
    ∃ K, 1 ≤ K ∧ K ≤ 64 ∧ dicL l = true ∧ bs.drop k = frontL K l ++ bs.drop k2 ∧ k2 = k + (frontL K l).length ∧ k2 ≤ bs.length := by
  unfold openR at h
  obtain ⟨C, hC⟩ : ∃ C, mostR bs k 0 4096 = C := ⟨_, rfl⟩
  rw [hC] at h
  obtain ⟨count, k1, e1⟩ := C
  simp only at h
  obtain ⟨D, hD⟩ : ∃ D, mostR bs k1 e1 64 = D := ⟨_, rfl⟩
  rw [hD] at h
  obtain ⟨K, k3, e3⟩ := D
  simp only at h
  unfold openK at h
  by_cases hKK : 1 ≤ K ∧ K ≤ 64
  · rw [if_pos hKK] at h
    by_cases h0 : (openM bs count K k3 e3).2.2 = 0
    · rw [if_pos h0] at h
      unfold openM at h
      obtain ⟨R, hR⟩ : ∃ R, readR bs k3 e3 (blocksN count K : Int) = R := ⟨_, rfl⟩
      rw [hR] at h
      obtain ⟨ns, k4, e4⟩ := R
      simp only at h
      by_cases hn : ns.length = blocksN count K
      · rw [if_pos hn] at h
        by_cases he4 : e4 = 0
        · subst he4
          have he3 : e3 = 0 := Decidable.byContradiction fun hne => by
            rw [read_bad _ _ _ hne] at hR
            simp only [Prod.mk.injEq] at hR
            exact hne hR.2.2
          subst he3
          have he1 : e1 = 0 := Decidable.byContradiction fun hne => by
            rw [most_bad _ _ _ hne] at hD
            simp only [Prod.mk.injEq] at hD
            exact hne hD.2.2
          subst he1
          obtain ⟨a1, a2, a3, a4, a5⟩ := most_good hk hC
          obtain ⟨b1, b2, b3, b4, b5⟩ := most_good a5 hD
          have hbl := blocks_le (count := count) (K := K) hKK.1
          obtain ⟨c1, c2, c3, c4, c5⟩ := read_good b5 (by omega) hR
          obtain ⟨o1, o2, o3, o4, o5, o6, o7⟩ := openB_good hKK.1 c5 (by simp) (fun q hq => blocks_lt hKK.1 (by rw [← hn]; omega)) h
          have hcl : l.length = count := by
            rcases Nat.eq_zero_or_pos count with hz | hz
            · subst hz
              rw [blocks_zero hKK.1] at hn
              rw [o2 (List.eq_nil_of_length_eq_zero hn)]
              rfl
            · have hg := blocks_ge (count := count) hKK.1
              have hne : ns ≠ [] := fun e => by
                rw [e] at hn
                rw [← hn] at hg
                simp at hg
                omega
              rw [o3 hne, Nat.zero_add, hn]
              omega
          have hd : dicL l = true := by
            rw [dic_good, o1 rfl, decide_eq_true (by omega)]
            rfl
          have hs : sizesN K l l.length = ns := by rw [o4]; rfl
          have hE : bs.drop k4 = entsL K l l.length ++ bs.drop k2 := by rw [o5]; rfl
          have hF : bs.drop k = frontL K l ++ bs.drop k2 := by
            rw [a3, b3, c3, hE, frontL, hs, hcl]
            simp
          refine ⟨K, hKK.1, hKK.2, hd, hF, ?_, o7⟩
          have := congrArg List.length hF
          rw [List.length_append, List.length_drop, List.length_drop] at this
          omega
        · rw [openB_bad _ _ _ _ _ _ _ he4] at h
          simp only [Prod.mk.injEq] at h
          exact absurd h.2.2 he4
      · rw [if_neg hn, openB_bad _ _ _ _ _ _ _ (orForm_ne _)] at h
        simp only [Prod.mk.injEq] at h
        exact absurd h.2.2 (orForm_ne _)
    · rw [if_neg h0] at h
      simp only [Prod.mk.injEq] at h
      have := h.2
      rw [this] at h0
      exact absurd rfl h0
  · rw [if_neg hKK] at h
    simp only [Prod.mk.injEq] at h
    exact absurd h.2.2 (orForm_ne _)
theorem openR_there {bs rest : List UInt8} {k K : Nat} {l : List (List UInt8)} (hk : k ≤ bs.length) (hK : 1 ≤ K) (hK2 : K ≤ 64) (hd : dicL l = true) (h : bs.drop k = frontL K l ++ rest) :
    openR bs k 0 = (l, k + (frontL K l).length, 0) := by
  have hg : goodL l = true := by rw [dic_good, Bool.and_eq_true] at hd; exact hd.2
  have hl : l.length ≤ 4096 := (dicL_iff.1 hd).1
  obtain ⟨hm, hm2⟩ := sizes_may (K := K) hd
  obtain ⟨hsb, heb⟩ := sizes_blocks (K := K) (l := l) hK
  have hlen := congrArg List.length h
  rw [List.length_drop, List.length_append] at hlen
  have hfl : (frontL K l).length = (putL l.length).length + ((putL K).length + ((writeL (ints (sizesN K l l.length))).length + (entsL K l l.length).length)) := by simp [frontL]
  have h1 : bs.drop k = putL l.length ++ (putL K ++ (writeL (ints (sizesN K l l.length)) ++ (entsL K l l.length ++ rest))) := by rw [h, frontL]; simp
  have hC := most_back (m := 4096) h1 (by omega) (by omega)
  obtain ⟨k1, hk1⟩ : ∃ k1, k + (putL l.length).length = k1 := ⟨_, rfl⟩
  rw [hk1] at hC
  have h2 : bs.drop k1 = putL K ++ (writeL (ints (sizesN K l l.length)) ++ (entsL K l l.length ++ rest)) := by rw [← hk1, ← List.drop_drop, h1, List.drop_left]
  have hD := most_back (m := 64) h2 (by omega) (by omega)
  obtain ⟨k2, hk2⟩ : ∃ k2, k1 + (putL K).length = k2 := ⟨_, rfl⟩
  rw [hk2] at hD
  have h3 : bs.drop k2 = writeL (ints (sizesN K l l.length)) ++ (entsL K l l.length ++ rest) := by rw [← hk2, ← List.drop_drop, h2, List.drop_left]
  have hnl : (sizesN K l l.length).length = blocksN l.length K := by rw [hsb]; simp [blks]
  have hR := read_there (ints (sizesN K l l.length)) hm (blocksN l.length K) (by omega) h3 (by rw [ints_length, hnl]; exact Nat.le_refl _) (by have := blocks_le (count := l.length) hK; omega)
  rw [nats_ints] at hR
  obtain ⟨k3, hk3⟩ : ∃ k3, k2 + (writeL (ints (sizesN K l l.length))).length = k3 := ⟨_, rfl⟩
  rw [hk3] at hR
  have h4 : bs.drop k3 = entsL K l l.length ++ rest := by rw [← hk3, ← List.drop_drop, h3, List.drop_left]
  rw [heb] at h4
  have hB := openB_there hK hg (m := blocksN l.length K) (i := 0) (k := k3) (by omega) (fun q hq => blocks_lt hK (by omega)) (by rw [Nat.zero_add]; exact blocks_ge hK) h4
  rw [← hsb, ← heb, Nat.zero_mul, List.take_zero] at hB
  have hM : openM bs l.length K k2 0 = (l, k3 + (entsL K l l.length).length, 0) := by
    unfold openM
    rw [hR]
    simp only [hnl, if_true]
    exact hB
  unfold openR openK
  simp only [hC, hD, hM, if_true]
  rw [if_pos ⟨hK, hK2⟩]
  simp only [Prod.mk.injEq, and_true, true_and]
  omega
def sumL : List (List UInt8) → Nat
  | [] => 0
  | s :: t => s.length + sumL t
theorem sumL_take : ∀ (l : List (List UInt8)) (k : Nat) (hk : k < l.length), sumL (l.take (k + 1)) = sumL (l.take k) + l[k].length
  | s :: t, 0, _ => by simp [sumL]
  | s :: t, k + 1, hk => by
    have := sumL_take t k (by simpa using hk)
    simp only [List.take_succ_cons, sumL, List.getElem_cons_succ, this]
    omega
theorem ents_sum {K : Nat} {l : List (List UInt8)} (h : ∀ s ∈ l, s.length ≤ 4096) : ∀ {k : Nat}, k ≤ l.length → (entsL K l k).length ≤ sumL (l.take k) + 4 * k
  | 0, _ => by simp [ents_zero]
  | k + 1, hk => by
    have ih := ents_sum (K := K) h (k := k) (by omega)
    have hp : ∀ n, n ≤ 4096 → (putL n).length ≤ 2 := fun n hn => putL_le 1 n (by omega)
    have hs : l[k].length ≤ 4096 := h _ (List.getElem_mem _)
    have he : (entI K l k).length ≤ l[k].length + 4 := by
      unfold entI entL
      rw [getD_at (by omega)]
      have h2 := share_le (l.getD (k - 1) []) l[k]
      split
      · rw [textL, List.length_append]
        have := hp _ hs
        omega
      · rw [textL, List.length_append, List.length_append]
        have h3 := hp (shareN (l.getD (k - 1) []) l[k]) (by omega)
        have h4 := hp (List.drop (shareN (l.getD (k - 1) []) l[k]) l[k]).length (by rw [List.length_drop]; omega)
        have h5 := List.length_drop (i := shareN (l.getD (k - 1) []) l[k]) (l := l[k])
        omega
    rw [ents_succ, List.length_append, sumL_take l k (by omega)]
    omega
theorem front_len {K : Nat} {l : List (List UInt8)} (hK : K ≤ 64) (hd : dicL l = true) : (frontL K l).length ≤ sumL l + 10 * l.length + 10 := by
  obtain ⟨h1, h2, h3⟩ := dicL_iff.1 hd
  obtain ⟨hm, hm2⟩ := sizes_may (K := K) hd
  have hp : ∀ n, n ≤ 4096 → (putL n).length ≤ 2 := fun n hn => putL_le 1 n (by omega)
  have a1 := hp _ h1
  have a2 := hp K (by omega)
  have a3 := ents_sum (K := K) h2 (Nat.le_refl l.length)
  rw [List.take_of_length_le (Nat.le_refl _)] at a3
  have a4 := sizes_len K l l.length
  have a5 := hm.wide_le
  have a6 : (writeL (ints (sizesN K l l.length))).length ≤ 2 + 1 + 4 * l.length := by
    rw [writeL, List.length_append, List.length_append, packL_length, nats_length, ints_length]
    have b1 := hp _ hm2
    have b2 : (sizesN K l l.length).length * wide (ints (sizesN K l l.length)) ≤ l.length * 32 := Nat.mul_le_mul a4 a5
    simp only [List.length_singleton]
    omega
  simp only [frontL, List.length_append]
  omega
end Go.Proofs.YtmffpbhiehjlpaaGreat
namespace Go.Proofs.YtmffpbhiehjlpaaGreat
set_option linter.unusedSimpArgs false
set_option linter.unusedVariables false
open Go.RowKit
theorem lenD (s : ByteArray) : s.data.toList.length = s.size := by rw [Array.length_toList]; rfl
end Go.Proofs.YtmffpbhiehjlpaaGreat
namespace Go.Proofs.YtmffpbhiehjlpaaGreat
set_option linter.unusedSimpArgs false
set_option linter.unusedVariables false
theorem own_none' (w : World) (t : TypeId) : (w.alloc (.cells #[] t)).ownsRow w.heap.size t 1 (.slice (some ⟨w.heap.size, 0, none⟩) 0 0) 0 [] := by
  have := World.ownsRow_lit (e := t) (size := 1) (base := w.heap.size) w #[] 0 (Nat.le_refl _) (by simp [maxLen]) (by simp)
  exact this
theorem cell_new (w : World) (t : TypeId) (v : Value) : (w.alloc (.cells #[v] t)).cell? ⟨w.heap.size, 0, none⟩ = some v := by rw [World.cell?_alloc_at _ _ _ _ rfl]; rfl
theorem own_none2 (w : World) (o : Obj) (t : TypeId) : ((w.alloc o).alloc (.cells #[] t)).ownsRow w.heap.size t 1 (.slice (some ⟨w.heap.size + 1, 0, none⟩) 0 0) 0 [] := by
  have h := own_none' (w.alloc o) t
  rw [World.size_alloc] at h
  exact own_base h (Nat.le_succ _)
theorem cell_after (w : World) (t t' : TypeId) (v : Value) : ((w.alloc (.cells #[] t')).alloc (.cells #[v] t)).cell? ⟨w.heap.size + 1, 0, none⟩ = some v := by
  have h := cell_new (w.alloc (.cells #[] t')) t v
  rw [World.size_alloc] at h
  exact h
theorem cell_before (w : World) (t t' : TypeId) (v : Value) : ((w.alloc (.cells #[v] t)).alloc (.cells #[] t')).cell? ⟨w.heap.size, 0, none⟩ = some v :=
  (World.cell?_alloc_lt (w.alloc (.cells #[v] t)) _ _ (by rw [World.size_alloc]; exact Nat.lt_succ_self _)).trans (cell_new w t v)
theorem cell_grown {w w' : World} {row : Option Nat} {g : Nat} {v : Value} (hg : w.grownBy w' row) (hc : w.cell? ⟨g, 0, none⟩ = some v) (hne : some g ≠ row) : w'.cell? ⟨g, 0, none⟩ = some v :=
  (World.cell?_of_block (hg.block g (World.block_lt_of_cell? w _ hc) hne)).trans hc
end Go.Proofs.YtmffpbhiehjlpaaGreat
