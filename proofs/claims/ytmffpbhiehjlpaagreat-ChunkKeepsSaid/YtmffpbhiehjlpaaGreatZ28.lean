/-
  The chunk package: dictionary.
  The chunk package's small functions of values and codings: fits, right, there, texts.
-/
import Derived.Test.YtmffpbhiehjlpaaGreatZ19
import Derived.Test.YtmffpbhiehjlpaaGreatZ24
import Derived.Test.YtmffpbhiehjlpaaGreatZ20
import Derived.Test.YtmffpbhiehjlpaaGreatZ27
import Derived.Test.YtmffpbhiehjlpaaGreatZ17
import Derived.Test.YtmffpbhiehjlpaaGreatZ18
import Derived.Test.YtmffpbhiehjlpaaGreatZ01
import Derived.Outline
import Derived.BigQuiet
import Derived.Deep.QuietTactic
namespace Go.Proofs.YtmffpbhiehjlpaaGreat
set_option linter.unusedSimpArgs false
set_option linter.unusedVariables false
open Go.RowKit
def sorL (l : List (List UInt8)) : List (List UInt8) := l.mergeSort fun x y => decide (x ≤ y)
theorem sorL_rises (l : List (List UInt8)) : ∀ i j, i < j → j < (sorL l).toArray.size → cmpL (sorL l).toArray[i]! (sorL l).toArray[j]! ≤ 0 := by
  have h := List.pairwise_mergeSort (le := fun x y : List UInt8 => decide (x ≤ y)) (fun a b c h1 h2 => by
    rw [decide_eq_true_eq, le_cmp] at *
    exact cmpL_le_trans h1 h2) (fun a b => by
    rw [Bool.or_eq_true, decide_eq_true_eq, decide_eq_true_eq, le_cmp, le_cmp, cmpL_turn a b]
    omega) l
  intro i j hij hj
  rw [List.pairwise_iff_getElem] at h
  have hj' : j < (sorL l).length := by simpa using hj
  have := h i j (by show i < (sorL l).length; omega) hj' hij
  rw [decide_eq_true_eq, le_cmp] at this
  rw [getElem!_pos _ i (by simpa using Nat.lt_trans hij hj'), getElem!_pos _ j hj]
  exact this
theorem dicS_compact (l : List (List UInt8)) : SortOf l (Lib.compact (sorL l)) := by
  obtain ⟨h1, h2, h3⟩ := compact_inv (sorL l).toArray (sorL_rises l) (sorL l).length (by simp)
  refine ⟨h1, fun s => ?_⟩
  have hmem : s ∈ sorL l ↔ s ∈ l := List.mem_mergeSort
  rw [← hmem]
  constructor
  · intro h
    obtain ⟨j, hj, rfl⟩ := h2 s h
    rw [getElem!_pos _ j (by simpa using hj)]
    simp
  · intro h
    obtain ⟨j, hj, rfl⟩ := List.getElem_of_mem h
    have := h3 j hj
    rw [getElem!_pos _ j (by simpa using hj), List.getElem_toArray] at this
    exact this
theorem rises_nodup {t : List (List UInt8)} (h : risesL t = true) : t.Nodup := by
  rw [List.Nodup, List.pairwise_iff_getElem]
  intro i j hi hj hij e
  have := rises_at h hij hj
  rw [e] at this
  exact cmpL_irrefl this
theorem SortOf.len {l t : List (List UInt8)} (h : SortOf l t) : t.length ≤ l.length := (rises_nodup h.1).length_le_of_subset fun x hx => (h.2 x).1 hx
theorem SortOf.dic {l t : List (List UInt8)} (h : SortOf l t) (hl : l.length ≤ 4096) (h4 : ∀ x ∈ l, x.length ≤ 4096) : dicL t = true :=
  dicL_iff.2 ⟨Nat.le_trans h.len hl, fun x hx => h4 x ((h.2 x).1 hx), h.1⟩
theorem place_is {t : List (List UInt8)} {x : List UInt8} {k : Nat} (h : risesL t = true) (hx : x ∈ t) (hk : ∀ j (hj : j < t.length), j < k ↔ cmpL t[j] x < 0) : t.idxOf x = k := by
  obtain ⟨i, hi, rfl⟩ := List.getElem_of_mem hx
  rw [(rises_nodup h).idxOf_getElem]
  have h1 : ¬ i < k := fun hik => cmpL_irrefl ((hk i hi).1 hik)
  rcases Nat.lt_or_ge k i with h2 | h2
  · have h3 := (hk k (by omega)).2 (rises_at h h2 hi)
    omega
  · omega
theorem sumL_le {m : Nat} : ∀ {l : List (List UInt8)}, (∀ x ∈ l, x.length ≤ m) → sumL l ≤ m * l.length
  | [], _ => by simp [sumL]
  | x :: l, h => by
    have h1 := sumL_le (l := l) fun y hy => h y (List.mem_cons_of_mem _ hy)
    have h2 := h x List.mem_cons_self
    rw [sumL, List.length_cons, Nat.mul_add]
    omega
set_option maxRecDepth 20000 in
set_option maxHeartbeats 4000000 in
theorem dictionary_v {w : World} (l : List ByteArray) (kd ro : Int) (K : Nat) (ds : List Int) {c d : Nat} {A B : Option Addr} (h : Rd w 0 w.heap.size A c (sv l)) (hK : 1 ≤ K) (hK2 : K ≤ 64)
    (hn : l.length ≤ 4096) (h4 : ∀ s ∈ l, s.size ≤ 4096) :
    Calls Tryz.prog 86 #[.slice A l.length c, .agg #[.int .i64 kd, .int .i64 (K : Int), .int .i64 ro, .slice B ds.length d]] w fun r w' => ∃ A' c', r = .returned (.slice A' (payK l ⟨kd, K, ro, ds⟩ 3).length c') ∧
      w'.ownsRow w.heap.size 5 1 (.slice A' (payK l ⟨kd, K, ro, ds⟩ 3).length c') (payK l ⟨kd, K, ro, ds⟩ 3).length (bv (payK l ⟨kd, K, ro, ds⟩ 3)) ∧ Below w.heap.size w w' ∧ SortOf (bytL2 l) (dicS (bytL2 l)) := by
  have hl := h.len
  have hm := h.cap
  rw [sv_length] at hl
  unfold maxLen at hm
  obtain ⟨w1, hw1⟩ : ∃ w1, w.alloc (.cells #[.int .i64 kd, .int .i64 (K : Int), .int .i64 ro, .slice B ds.length d] 25) = w1 := ⟨_, rfl⟩
  have B1 : Hid (Below w.heap.size w w1) := by unfold Hid; rw [← hw1]; exact (Below.refl _ w).alloc (Nat.le_refl _) _
  have hs1 : w1.heap.size = w.heap.size + 1 := by rw [← hw1]; simp
  have hs1' : w.heap.size ≤ w1.heap.size := by omega
  have hbx : Blk w1 w.heap.size 25 #[.int .i64 kd, .int .i64 (K : Int), .int .i64 ro, .slice B ds.length d] := by rw [← hw1]; exact Blk.new w _ _
  have HCF : Hid (∀ W, Below w1.heap.size w1 W → W.cell? ⟨w.heap.size, 1, none⟩ = some (.int .i64 (K : Int))) := fun W hW => (hbx.below hW (by omega)).cell 1
  have H : Hid (∀ W, Below w.heap.size w W → Rd W 0 W.heap.size A c (sv l)) := fun W hW => (h.below hW (Nat.le_refl _)).wide (Nat.le_refl _) hW.size
  have HSO := dicS_compact (bytL2 l)
  have hdl := HSO.len
  rw [bytL2_length] at hdl
  have hdic := HSO.dic (by rw [bytL2_length]; exact hn) fun x hx => by obtain ⟨s, hs, rfl⟩ := List.mem_map.1 hx; exact h4 s hs
  have hde := dicS_is HSO
  have HPY : Hid (payK l ⟨kd, K, ro, ds⟩ 3 = frontL K (dicS (bytL2 l)) ++ writeL (ints (codesN (dicS (bytL2 l)) (bytL2 l)))) := by unfold Hid; rw [payK, if_neg (by decide), if_pos rfl]; rfl
  rw [hde] at HPY ⊢
  have HCL := Lib.hid (clone_strs (w := w1) l (H.out w1 B1.out) (Nat.le_refl _) (by omega))
  clear hbx h hde
  generalize payK l ⟨kd, K, ro, ds⟩ 3 = PY at *
  have HSR : Hid (∀ W A2 c2, W.ownsRow w1.heap.size 9 1 (.slice A2 l.length c2) l.length (sv l) → Calls Tryz.prog 109 #[.slice A2 l.length c2] W fun r w' => r = .returned (.tuple #[]) ∧ w'.ownsRow w1.heap.size 9 1 (.slice A2 l.length c2) l.length (sv (strsL (sorL (bytL2 l)))) ∧ W.grownBy w' (Value.slice A2 l.length c2).ownBlock) := fun W A2 c2 ho => by
    have := sort_own (w := W) (base := w1.heap.size) (v := .slice A2 l.length c2) (bytL2 l) (by rw [bytL2_length, strsL_bytL2]; exact ho) (by rw [bytL2_length]; omega)
    rw [bytL2_length] at this
    exact this
  have hsl : (sorL (bytL2 l)).length = l.length := by rw [sorL, List.length_mergeSort, bytL2_length]
  have HCO : Hid (∀ W A2 c2, W.ownsRow w1.heap.size 9 1 (.slice A2 l.length c2) l.length (sv (strsL (sorL (bytL2 l)))) → Calls Tryz.prog 110 #[.slice A2 l.length c2] W fun r w' => r = .returned (.slice A2 (Lib.compact (sorL (bytL2 l))).length c2) ∧
      w'.ownsRow w1.heap.size 9 1 (.slice A2 (Lib.compact (sorL (bytL2 l))).length c2) (Lib.compact (sorL (bytL2 l))).length (sv (strsL (Lib.compact (sorL (bytL2 l))))) ∧ W.grownBy w' (Value.slice A2 l.length c2).ownBlock) := fun W A2 c2 ho => by
    have := compact_own (w := W) (base := w1.heap.size) (A := A2) (c := c2) (sorL (bytL2 l)) (by rw [hsl]; exact ho) (by rw [hsl]; omega)
    rw [hsl] at this
    exact this
  have HMEM : Hid (∀ k (hk : k < l.length), l[k].data.toList ∈ Lib.compact (sorL (bytL2 l))) := fun k hk => (HSO.2 _).2 (List.mem_map_of_mem (List.getElem_mem hk))
  have hris := HSO.1
  generalize sorL (bytL2 l) = SL at *
  generalize Lib.compact SL = D at *
  have HSOF := Lib.hid HSO
  have HDIC := Lib.hid hdic
  have HRIS := Lib.hid hris
  obtain ⟨zs, hzs⟩ : ∃ zs, ints (codesN D (bytL2 l)) = zs := ⟨_, rfl⟩
  have hzl : zs.length = l.length := by rw [← hzs, ints_length, codesN, List.length_map, bytL2_length]
  have HZL := Lib.hid hzl
  have HZ : Hid (∀ k (hk : k < l.length), zs[k]? = some ((D.idxOf l[k].data.toList : Nat) : Int)) := fun k hk => by
    rw [← hzs]
    simp [ints, codesN, bytL2, List.getElem?_eq_getElem hk]
  have HMY : Hid (May zs) := by
    unfold Hid
    rw [← hzs]
    refine codes_may (D := D) (by omega) fun x hx => ?_
    obtain ⟨s, hs, rfl⟩ := List.mem_map.1 hx
    obtain ⟨a, ha, rfl⟩ := List.mem_map.1 hs
    obtain ⟨k, hk, rfl⟩ := List.getElem_of_mem ha
    exact List.idxOf_lt_length_of_mem (HMEM.out k hk)
  rw [hzs] at HPY
  clear HSO hdic hris hzs hzl h4 hsl
  go_enter Tryz.func86, Tryz.ntmps86
  go_wp2_with fail
  refine HCL.out.mono ?_
  rintro r w2 ⟨A2, c2, rfl, ho2, hb2⟩
  have HO2 := Lib.hid ho2
  have K2 := Lib.hid hb2
  clear ho2 hb2 HCL hw1
  go_wp2_with fail
  refine (HSR.out _ _ _ HO2.out).mono ?_
  rintro r w3 ⟨rfl, ho3, hg3⟩
  have HO3 := Lib.hid ho3
  have K3 : Hid (Below w1.heap.size w1 w3) := K2.out.grown hg3 K2.out.size (fun q hq => (own_lt HO2.out hq).1)
  clear ho3 hg3 HO2 K2 HSR
  go_wp2_with fail
  refine (HCO.out _ _ _ HO3.out).mono ?_
  rintro r w4 ⟨rfl, ho4, hg4⟩
  have HO4 := Lib.hid ho4
  have K4 : Hid (Below w1.heap.size w1 w4) := K3.out.grown hg4 K3.out.size (fun q hq => (own_lt HO3.out hq).1)
  clear ho4 hg4 HO3 K3 HCO
  have hsz4 := K4.out.size
  have KW4 : Hid (Below w.heap.size w w4) := B1.out.trans (K4.out.mono hs1')
  have hS4 := HCF.out _ K4.out
  have HRD4 := Lib.hid ((Rd.of_own HO4.out).wide (Nat.zero_le w1.heap.size) (Nat.le_refl w4.heap.size))
  have HBU := Lib.hid (fbuild_yes (w := w4) (A := A2) (c := c2) (strsL D) K hK hK2 (by rw [bytL2_strsL]; exact HDIC.out) (by exact HRD4.out))
  rw [strsL_length, bytL2_strsL] at HBU
  clear HCF
  go_wp2_with fail
  refine HBU.out.mono ?_
  rintro r w5 ⟨A5, c5, rfl, ho5, hb5⟩
  have HO5 := Lib.hid ho5
  have K5 : Hid (Below w.heap.size w w5) := below_below KW4.out hb5 (by omega)
  have HRD5 : Hid (Rd w5 0 w5.heap.size A2 c2 (sv (strsL D))) := (HRD4.out.below hb5 (Nat.le_refl _)).wide (Nat.le_refl _) hb5.size
  have hsz5 := K5.out.size
  obtain ⟨w6, hmake, ho6, hg6⟩ := make_nums w5 l.length (by omega)
  have HO6 := Lib.hid ho6
  have K56 : Hid (Below w5.heap.size w5 w6) := below_of_gb (Nat.le_refl _) hg6 (fun g hg => by cases hg)
  have hszw4 := KW4.out.size
  clear ho5 hb5 ho6 hg6 HBU HO4 K4 KW4 hS4 HRD4
  go_wp2_with fail
  clear hmake
  go_loopw [29] (fun i wr => ∃ (k : Nat) (xs : List Value), k ≤ l.length ∧ i = .int .i64 (k : Int) ∧ wr.ownsRow w5.heap.size 3 1 (.slice (some ⟨w5.heap.size, 0, none⟩) l.length l.length) l.length xs ∧ Fill (iv zs) k xs ∧ Below w5.heap.size w5 wr) (fun i _ => l.length - (intOf i).toNat)
  case atStart => exact ⟨0, _, Nat.zero_le _, rfl, HO6.out, fill_zero (by rw [iv_length, HZL.out]; simp), K56.out⟩
  case round =>
    clear HO6 K56
    obtain ⟨k, xs, hk, rfl, ho, hup, hb⟩ := hrel
    have HO := Lib.hid ho
    have HUP := Lib.hid hup
    have HB := Lib.hid hb
    have hsz := hb.size
    clear ho hup hb
    by_cases hlt : k < l.length
    · have ik : (k : Int) < (l.length : Int) := by omega
      obtain ⟨b, off, rfl, _, hbl, hc0⟩ := (H.out wr (K5.out.trans (HB.out.mono hsz5))).str hlt
      have HZ1 := Lib.hid (HZ.out k hlt)
      have HM1 := Lib.hid (HMEM.out k hlt)
      generalize l[k] = s at *
      have HSE := Lib.hid (search_any (w := wr) (A := A2) (c := c2) (n := D.length) (strsL D) s (HRD5.out.below HB.out (Nat.le_refl _)) (by rw [bytL2_strsL]; exact HRIS.out) (by rw [strsL_length]; omega) (strsL_length D))
      go_wp2_with fail
      refine HSE.out.mono ?_
      rintro r w7 ⟨q, hq, hlo, rfl, m, rfl⟩
      have hqe : D.idxOf s.data.toList = q := place_is HRIS.out HM1.out fun j hj => by
        have := hlo j (by rw [strsL_length]; exact hj)
        have e : (strsL D)[j]'(by rw [strsL_length]; exact hj) = ⟨D[j].toArray⟩ := by simp [strsL]
        rw [e] at this
        simpa using this
      have HZ2 : Hid ((iv zs)[k]? = some (.int .i64 (q : Int))) := by
        have := HZ1.out
        rw [hqe] at this
        simp [Hid, iv, this]
      obtain ⟨bb, hbb⟩ : ∃ bb, decide ((strsL D)[q]? = some s) = bb := ⟨_, rfl⟩
      rw [hbb]
      have HO7 : Hid ((wr.drewN m).ownsRow w5.heap.size 3 1 (.slice (some ⟨w5.heap.size, 0, none⟩) l.length l.length) l.length xs) := own_keep HO.out fun _ _ => rfl
      have HB7 : Hid (Below w5.heap.size w5 (wr.drewN m)) := below_drewN' HB.out m
      clear HSE hlo hbb HO HB hqe HZ1 HM1
      generalize wr.drewN m = w7 at *
      have hfr := HO7.out.frozenAt k
      have hxk : k < xs.length := by rw [HUP.out.1, iv_length, HZL.out]; exact hlt
      have hcell : w7.cell? ⟨w5.heap.size, k, none⟩ = some xs[k] := by
        rw [HO7.out.cellAt k (by omega), List.getElem?_eq_getElem hxk]
      have HST := Lib.hid (World.ownsRow.stored HO7.out k (.int .i64 (q : Int)))
      have HBS := Lib.hid (HB7.out.setCell (p := ⟨w5.heap.size, k, none⟩) (Nat.le_refl _) (.int .i64 (q : Int)))
      have HUS := Lib.hid (fill_succ HUP.out (.int .i64 (q : Int)) HZ2.out)
      generalize xs[k] = x0 at *
      go_wp2_with fail
      go_roundw
      case rel => exact ⟨k + 1, _, by omega, by go_num, HST.out.1, HUS.out, HBS.out⟩
      case measure => simp [intOf]; omega
    · have ik : ¬ (k : Int) < (l.length : Int) := by omega
      have hx : xs = iv zs := fill_all HUP.out (by rw [iv_length, HZL.out]; omega)
      subst hx
      have HN := Lib.hid (numbers_v (w := wr) (A := some ⟨w5.heap.size, 0, none⟩) (c := l.length) zs HMY.out ((Rd.of_own HO.out).wide (Nat.zero_le _) (Nat.le_refl _)) (Nat.le_refl _) (by rw [HZL.out]; omega))
      rw [HZL.out] at HN
      have HFL : Hid ((frontL K D).length ≤ 1000000000 ∧ (writeL zs).length ≤ 100000000000) := by
        refine ⟨?_, Nat.le_trans (writeL_length HMY.out (by rw [HZL.out]; omega)) (by omega)⟩
        have h1 := front_len hK2 HDIC.out
        have h2 := sumL_le (m := 4096) (fun s hs => (dicL_iff.1 HDIC.out).2.1 s hs)
        omega
      generalize writeL zs = WL at *
      generalize frontL K D = FL at *
      go_wp2_with fail
      refine HN.out.mono ?_
      rintro r w8 ⟨A8, c8, rfl, ho8, hb8⟩
      have hsz8 := hb8.size
      have hb58 : Below w5.heap.size w5 w8 := below_below HB.out hb8 hsz
      have hf := HFL.out
      obtain ⟨A9, c9, w9, hrun9, hown9, hg9⟩ := append_named w8 w.heap.size (.slice A5 FL.length c5) FL WL PY HPY.out.symm (own_base (own_below HO5.out hb58 (Nat.le_refl _)) hszw4) (Rd.of_own ho8) (by omega) (by omega)
      have hb9 : Below w.heap.size w w9 := (K5.out.trans (hb58.mono hsz5)).grown hg9 (by omega) (fun q hq => by have := (own_lt HO5.out hq).1; omega)
      have HO9 := Lib.hid hown9
      have HB9 := Lib.hid hb9
      clear ho8 hb8 hb58 hown9 hg9 hb9 HN
      go_wp2_with (at_builtin; refine wpList_append_run rfl _ _ _ _ rfl rfl rfl hrun9 ?_)
      go_ret
      exact ⟨_, _, rfl, HO9.out, HB9.out, HSOF.out⟩
end Go.Proofs.YtmffpbhiehjlpaaGreat
namespace Go.Proofs.YtmffpbhiehjlpaaGreat
set_option linter.unusedSimpArgs false
set_option linter.unusedVariables false
open Go.RowKit
theorem isEmpty_ne {s : ByteArray} (h : ¬ s = ⟨#[]⟩) : s.toList.isEmpty = false := by
  cases he : s.toList with
  | nil => exact absurd (ByteArray.ext (Array.toList_inj.1 (by rw [← Lib.toList_data, he]))) h
  | cons a t => rfl
set_option maxRecDepth 20000 in
set_option maxHeartbeats 2000000 in
theorem fits_v {w : World} (L : List Vl) {c : Nat} {A : Option Addr} (h : Row w 0 w.heap.size A c L) :
    Calls Tryz.prog 35 #[.slice A L.length c] w fun r w' => r = .returned (.bool (decide (FitsV L))) ∧ Below w.heap.size w w' := by
  obtain ⟨hl, hm⟩ := h.len
  obtain ⟨v, hv⟩ : ∃ v, decide (FitsV L) = v := ⟨_, rfl⟩
  rw [hv]
  have HV0 : Hid (∀ k (hk : k < L.length), ¬ VlOk L[k] → v = false) := fun k hk h0 => by rw [← hv]; exact decide_eq_false fun h1 => h0 (h1.2 _ (List.getElem_mem hk))
  have HV1 : Hid (¬ L.length ≤ 4096 → v = false) := fun h0 => by rw [← hv]; exact decide_eq_false fun h1 => h0 h1.1
  have HV2 : Hid (L.length ≤ 4096 → (∀ k (hk : k < L.length), VlOk L[k]) → v = true) := fun h0 h1 => by
    rw [← hv]
    exact decide_eq_true ⟨h0, fun x hx => by obtain ⟨k, hk, rfl⟩ := List.getElem_of_mem hx; exact h1 k hk⟩
  have H := Lib.hid h
  clear h hv
  go_enter Tryz.func35, Tryz.ntmps35
  go_wp2_with fail
  go_loopw [7] (fun i wr => ∃ k : Nat, k ≤ L.length ∧ i = .int .i64 (k : Int) ∧ (∀ j (hj : j < L.length), j < k → VlOk L[j]) ∧ Below w.heap.size w wr) (fun i _ => L.length - (intOf i).toNat)
  case atStart => exact ⟨0, Nat.zero_le _, rfl, fun j hj h0 => by omega, Below.refl _ _⟩
  case round =>
    obtain ⟨k, hk, rfl, ha, hb⟩ := hrel
    have HA := Lib.hid ha
    have HB := Lib.hid hb
    have hsz := hb.size
    clear ha hb
    by_cases hlt : k < L.length
    · have ik : (k : Int) < (L.length : Int) := by omega
      obtain ⟨b, off, rfl, _, hbl, hc0, hc1⟩ := (H.out.below HB.out (Nat.le_refl _)).get hlt
      have hbw : b < wr.heap.size := by omega
      have HN : Hid (VlOk L[k] → ∀ j (hj : j < L.length), j < k + 1 → VlOk L[j]) := fun h5 j hj hjk => by
        by_cases e : j = k
        · subst e; exact h5
        · exact HA.out j hj (by omega)
      have HF := Lib.hid (HV0.out k hlt)
      have HBA : Hid (Below w.heap.size w (wr.alloc (.cells #[.bool L[k].null, .string L[k].s] 55))) := HB.out.alloc hsz _
      clear HA HB
      unfold VlOk at HN HF
      generalize L[k].null = nb at *
      generalize L[k].s = s at *
      by_cases h5 : s.size ≤ 4096
      · have i5 : ¬ (4096 : Int) < (s.size : Int) := by omega
        cases nb with
        | true =>
          by_cases he : s = ⟨#[]⟩
          · subst he
            go_wp2_with fail
            go_roundw
            case rel => exact ⟨k + 1, by omega, by go_num, HN.out ⟨h5, fun _ => rfl⟩, HBA.out⟩
            case measure => simp [intOf]; omega
          · have hne : s.toList.isEmpty = false := isEmpty_ne he
            have hvf : v = false := HF.out (fun h => he (h.2 rfl))
            subst hvf
            go_wp2_with fail
            go_ret
            exact ⟨rfl, HBA.out⟩
        | false =>
          go_wp2_with fail
          go_roundw
          case rel => exact ⟨k + 1, by omega, by go_num, HN.out ⟨h5, fun h => by cases h⟩, HBA.out⟩
          case measure => simp [intOf]; omega
      · have i5 : (4096 : Int) < (s.size : Int) := by omega
        have hvf : v = false := HF.out (fun h => h5 h.1)
        subst hvf
        go_wp2_with fail
        go_ret
        exact ⟨rfl, HBA.out⟩
    · have ik : ¬ (k : Int) < (L.length : Int) := by omega
      by_cases h4 : L.length ≤ 4096
      · have i4 : (L.length : Int) ≤ 4096 := by omega
        have hvt : v = true := HV2.out h4 fun j hj => HA.out j hj (by omega)
        subst hvt
        go_wp2_with fail
        go_ret
        exact ⟨rfl, HB.out⟩
      · have i4 : ¬ (L.length : Int) ≤ 4096 := by omega
        have hvf : v = false := HV1.out h4
        subst hvf
        go_wp2_with fail
        go_ret
        exact ⟨rfl, HB.out⟩
set_option maxRecDepth 20000 in
set_option maxHeartbeats 2000000 in
theorem right_v {w : World} (o : Co) {c : Nat} {A : Option Addr} (h : Rd w 0 w.heap.size A c (iv o.draws)) :
    Calls Tryz.prog 36 #[.agg #[.int .i64 o.kind, .int .i64 o.block, .int .i64 o.rounds, .slice A o.draws.length c]] w fun r w' => r = .returned (.bool (decide (CoOk o))) ∧ Below w.heap.size w w' := by
  obtain ⟨v, hv⟩ : ∃ v, decide (CoOk o) = v := ⟨_, rfl⟩
  rw [hv]
  have HF : Hid (¬ CoOk o → v = false) := fun h => by rw [← hv]; exact decide_eq_false h
  have HT : Hid (CoOk o → v = true) := fun h => by rw [← hv]; exact decide_eq_true h
  have hl := h.len
  have hm := h.cap
  rw [iv_length] at hl
  clear hv h
  unfold CoOk at HF HT
  obtain ⟨kd, bl, ro, ds⟩ := o
  simp only at *
  generalize ds.length = n at *
  go_enter Tryz.func36, Tryz.ntmps36
  by_cases h1 : 0 ≤ kd
  · by_cases h2 : kd ≤ 3
    · by_cases h3 : 1 ≤ bl
      · by_cases h4 : bl ≤ 64
        · by_cases h5 : 0 ≤ ro
          · by_cases h6 : ro ≤ 8
            · by_cases h7 : n ≤ 4096
              · have i7 : (n : Int) ≤ 4096 := by omega
                obtain rfl : v = true := HT.out ⟨h1, h2, h3, h4, h5, h6, h7⟩
                go_wp2_with fail
                go_ret
                exact ⟨rfl, (Below.refl _ _).alloc (Nat.le_refl _) _⟩
              · have i7 : ¬ (n : Int) ≤ 4096 := by omega
                obtain rfl : v = false := HF.out (fun h => h7 h.2.2.2.2.2.2)
                go_wp2_with fail
                go_ret
                exact ⟨rfl, (Below.refl _ _).alloc (Nat.le_refl _) _⟩
            · obtain rfl : v = false := HF.out (fun h => h6 h.2.2.2.2.2.1)
              go_wp2_with fail
              go_ret
              exact ⟨rfl, (Below.refl _ _).alloc (Nat.le_refl _) _⟩
          · obtain rfl : v = false := HF.out (fun h => h5 h.2.2.2.2.1)
            go_wp2_with fail
            go_ret
            exact ⟨rfl, (Below.refl _ _).alloc (Nat.le_refl _) _⟩
        · obtain rfl : v = false := HF.out (fun h => h4 h.2.2.2.1)
          go_wp2_with fail
          go_ret
          exact ⟨rfl, (Below.refl _ _).alloc (Nat.le_refl _) _⟩
      · obtain rfl : v = false := HF.out (fun h => h3 h.2.2.1)
        go_wp2_with fail
        go_ret
        exact ⟨rfl, (Below.refl _ _).alloc (Nat.le_refl _) _⟩
    · obtain rfl : v = false := HF.out (fun h => h2 h.2.1)
      go_wp2_with fail
      go_ret
      exact ⟨rfl, (Below.refl _ _).alloc (Nat.le_refl _) _⟩
  · obtain rfl : v = false := HF.out (fun h => h1 h.1)
    go_wp2_with fail
    go_ret
    exact ⟨rfl, (Below.refl _ _).alloc (Nat.le_refl _) _⟩
set_option maxRecDepth 20000 in
set_option maxHeartbeats 2000000 in
theorem there_v {w : World} (L : List Vl) {c : Nat} {A : Option Addr} (h : Row w 0 w.heap.size A c L) (hn : L.length ≤ 1000000) :
    Calls Tryz.prog 41 #[.slice A L.length c] w fun r w' => ∃ A' c', r = .returned (.slice A' L.length c') ∧ w'.ownsRow w.heap.size 4 1 (.slice A' L.length c') L.length (lv (thereL L)) ∧ Below w.heap.size w w' := by
  obtain ⟨hl, hm⟩ := h.len
  obtain ⟨w1, hmake, ho1, hg1⟩ := make_bools w L.length (by omega)
  have HO1 := Lib.hid ho1
  have HB1 := Lib.hid (below_of_gb (Nat.le_refl _) hg1 (fun g hg => by cases hg))
  have H := Lib.hid h
  have HZ : Hid (∀ i (hi : i < L.length), (lv (thereL L))[i]? = some (.bool !L[i].null)) := fun i hi => by
    simp [lv, thereL, List.getElem?_eq_getElem hi]
  have HZL : Hid ((lv (thereL L)).length = L.length) := by unfold Hid; rw [lv_length, thereL_length]
  generalize lv (thereL L) = zs at *
  clear h ho1 hg1
  go_enter Tryz.func41, Tryz.ntmps41
  go_wp2_with fail
  clear hmake
  go_loopw [11] (fun i wr => ∃ (k : Nat) (xs : List Value), k ≤ L.length ∧ i = .int .i64 (k : Int) ∧ wr.ownsRow w.heap.size 4 1 (.slice (some ⟨w.heap.size, 0, none⟩) L.length L.length) L.length xs ∧ Fill zs k xs ∧ Below w.heap.size w wr) (fun i _ => L.length - (intOf i).toNat)
  case atStart => exact ⟨0, _, Nat.zero_le _, rfl, HO1.out, fill_zero (by rw [HZL.out]; simp), HB1.out⟩
  case round =>
    clear HO1 HB1
    obtain ⟨k, xs, hk, rfl, ho, hup, hb⟩ := hrel
    have HO := Lib.hid ho
    have HUP := Lib.hid hup
    have HB := Lib.hid hb
    have hsz := hb.size
    clear ho hup hb
    by_cases hlt : k < L.length
    · have ik : (k : Int) < (L.length : Int) := by omega
      obtain ⟨b, off, rfl, _, hbl, hc0, hc1⟩ := (H.out.below HB.out (Nat.le_refl _)).get hlt
      have hbw : b < wr.heap.size := by omega
      have HZ1 := Lib.hid (HZ.out k hlt)
      generalize L[k].null = nb at *
      generalize L[k].s = s at *
      obtain ⟨w2, hw2⟩ : ∃ w2, wr.alloc (.cells #[.bool nb, .string s] 55) = w2 := ⟨_, rfl⟩
      have HO2 : Hid (w2.ownsRow w.heap.size 4 1 (.slice (some ⟨w.heap.size, 0, none⟩) L.length L.length) L.length xs) := by unfold Hid; rw [← hw2]; exact HO.out.alloc _
      have HB2 : Hid (Below w.heap.size w w2) := by unfold Hid; rw [← hw2]; exact HB.out.alloc hsz _
      have hfr := HO2.out.frozenAt k
      have hxk : k < xs.length := by rw [HUP.out.1, HZL.out]; exact hlt
      have hcell : w2.cell? ⟨w.heap.size, k, none⟩ = some xs[k] := by
        rw [HO2.out.cellAt k (by omega), List.getElem?_eq_getElem hxk]
      have HST := Lib.hid (World.ownsRow.stored HO2.out k (.bool !nb))
      have HBS := Lib.hid (HB2.out.setCell (p := ⟨w.heap.size, k, none⟩) (Nat.le_refl _) (.bool !nb))
      have HUS := Lib.hid (fill_succ HUP.out (.bool !nb) HZ1.out)
      rw [← hw2] at hfr hcell HST HBS
      clear hw2 HO2 HB2
      generalize xs[k] = x0 at *
      cases nb with
      | true =>
        go_wp2_with fail
        go_roundw
        case rel => exact ⟨k + 1, _, by omega, by go_num, HST.out.1, HUS.out, HBS.out⟩
        case measure => simp [intOf]; omega
      | false =>
        go_wp2_with fail
        go_roundw
        case rel => exact ⟨k + 1, _, by omega, by go_num, HST.out.1, HUS.out, HBS.out⟩
        case measure => simp [intOf]; omega
    · have ik : ¬ (k : Int) < (L.length : Int) := by omega
      have hx : xs = zs := fill_all HUP.out (by rw [HZL.out]; omega)
      subst hx
      go_wp2_with fail
      go_ret
      exact ⟨_, _, rfl, HO.out, HB.out⟩
set_option maxRecDepth 20000 in
set_option maxHeartbeats 2000000 in
theorem texts_v {w : World} (L : List Vl) {c : Nat} {A : Option Addr} (h : Row w 0 w.heap.size A c L) (hn : L.length ≤ 1000000) :
    Calls Tryz.prog 38 #[.slice A L.length c] w fun r w' => ∃ A' c', r = .returned (.slice A' (textsL L).length c') ∧ w'.ownsRow w.heap.size 9 1 (.slice A' (textsL L).length c') (textsL L).length (sv (textsL L)) ∧ Below w.heap.size w w' := by
  obtain ⟨hl, hm⟩ := h.len
  have H := Lib.hid h
  clear h
  go_enter Tryz.func38, Tryz.ntmps38
  go_wp2_with fail
  go_loopw [3, 8] (fun x i wr => ∃ (k : Nat) (ys : List ByteArray) (A' : Option Addr) (c' n : Nat), k ≤ L.length ∧ i = .int .i64 (k : Int) ∧ textsL (L.take k) = ys ∧ ys.length = n ∧ n ≤ k ∧ x = .slice A' n c' ∧ wr.ownsRow w.heap.size 9 1 (.slice A' n c') n (sv ys) ∧ Below w.heap.size w wr) (fun _ i _ => L.length - (intOf i).toNat)
  case atStart => exact ⟨0, [], none, 0, 0, Nat.zero_le _, rfl, rfl, rfl, Nat.le_refl _, rfl, ⟨rfl, .inl ⟨rfl, rfl⟩⟩, Below.refl _ _⟩
  case round =>
    obtain ⟨k, ys, A', c', n, hk, rfl, hys, hyn, hnk, rfl, ho, hb⟩ := hrel
    have HY := Lib.hid hys
    have HYN := Lib.hid hyn
    have HO := Lib.hid ho
    have HB := Lib.hid hb
    have hsz := hb.size
    clear ho hb hys hyn
    by_cases hlt : k < L.length
    · have ik : (k : Int) < (L.length : Int) := by omega
      obtain ⟨b, off, rfl, _, hbl, hc0, hc1⟩ := (H.out.below HB.out (Nat.le_refl _)).get hlt
      have hbw : b < wr.heap.size := by omega
      have HT := Lib.hid (textsL_take hlt)
      rw [HY.out] at HT
      generalize L[k].null = nb at *
      generalize L[k].s = s at *
      have HOA := Lib.hid (HO.out.alloc (.cells #[.bool nb, .string s] 55))
      have HBA := Lib.hid (HB.out.alloc hsz (.cells #[.bool nb, .string s] 55))
      cases nb with
      | true =>
        have HT2 : Hid (textsL (L.take (k + 1)) = ys) := by unfold Hid; rw [HT.out]; simp
        clear HT
        go_wp2_with fail
        go_roundw
        case rel => exact ⟨k + 1, ys, A', c', n, by omega, by go_num, HT2.out, HYN.out, by omega, rfl, HOA.out, HBA.out⟩
        case measure => simp [intOf]; omega
      | false =>
        obtain ⟨zs, hzs⟩ : ∃ zs, ys ++ [s] = zs := ⟨_, rfl⟩
        have HT2 : Hid (textsL (L.take (k + 1)) = zs) := by unfold Hid; rw [HT.out, ← hzs]; simp
        have hzl : zs.length = n + 1 := by rw [← hzs, List.length_append, HYN.out]; rfl
        have HZL := Lib.hid hzl
        have HZS := Lib.hid hzs
        clear HT hzl hzs
        have HOB := Lib.hid (HOA.out.alloc (.cells #[.string s] 9))
        have HBB := Lib.hid (HBA.out.alloc (by simp; omega) (.cells #[.string s] 9))
        rw [← HYN.out] at HOB
        go_wp2_with (at_builtin; refine wpList_push_str (v := .slice A' n c') w.heap.size ys s rfl _ _ rfl rfl rfl rfl (by rw [World.cell?_alloc_at _ _ _ _ (by simp)]; rfl) (by have := HOB.out; rw [HYN.out] at this ⊢; exact this) (by rw [HYN.out]; omega) (by simp; omega) ?_; intro A7 c7 w7 ho7 hg7; refine held ?_)
        have hb7 : Below w.heap.size w w7 := HBB.out.grown hg7 (by simp; omega) (fun q hq => (own_lt HOB.out (by rw [HYN.out]; exact hq)).1)
        rw [HZS.out, HZL.out] at ho7
        have HO7 := Lib.hid ho7
        have HB7 := Lib.hid hb7
        have HZV : Hid (Value.slice A7 (ys.length + 1) c7 = .slice A7 (n + 1) c7) := by unfold Hid; rw [HYN.out]
        clear ho7 hg7 hb7 HO HB HOA HBA HOB HBB
        refine ⟨?_⟩
        go_wp2_with fail
        go_roundw
        case rel => exact ⟨k + 1, zs, A7, c7, n + 1, by omega, by go_num, HT2.out, HZL.out, by omega, HZV.out, HO7.out, HB7.out⟩
        case measure => simp [intOf] <;> omega
    · have ik : ¬ (k : Int) < (L.length : Int) := by omega
      have hke : L.take k = L := List.take_of_length_le (by omega)
      rw [hke] at HY
      go_wp2_with fail
      go_ret
      rw [HY.out, HYN.out]
      exact ⟨_, _, rfl, HO.out, HB.out⟩
end Go.Proofs.YtmffpbhiehjlpaaGreat
