/-
  The front package: Open.
-/
import Derived.Test.YtihlbcnoficpgaaFtT
import Derived.Test.YtihlbcnoficpgaaMgK
namespace Go.Proofs.Ytihlbcnoficpgaa
set_option linter.unusedSimpArgs false
set_option linter.unusedVariables false
open Go.RowKit

theorem read_ne (bs : List UInt8) (k : Nat) (e m : Int) (h : (readR bs k e m).1 ≠ []) : (readR bs k e m).2.2 = 0 := by
  unfold readR readMid readEnd at h ⊢
  split at h
  · exact absurd rfl h
  · rename_i h1
    rw [if_neg h1]
    split at h
    · rename_i h2
      rw [if_pos h2]
    · exact absurd rfl h
theorem read_bounds {bs : List UInt8} {k : Nat} (e : Int) {m : Nat} (hk : k ≤ bs.length) (hm : m ≤ 2147483647) : (readR bs k e (m : Int)).1.length ≤ m ∧ ∀ x ∈ (readR bs k e (m : Int)).1, x ≤ 4294967295 := by
  by_cases h : (readR bs k e (m : Int)).1 = []
  · rw [h]
    exact ⟨by simp, fun x hx => by cases hx⟩
  · have h0 := read_ne bs k e m h
    have he : e = 0 := Decidable.byContradiction fun hne => h (by rw [read_bad _ _ _ hne])
    subst he
    obtain ⟨R, hR⟩ : ∃ R, readR bs k 0 (m : Int) = R := ⟨_, rfl⟩
    rw [hR] at h0 ⊢
    obtain ⟨ns, k2, e2⟩ := R
    dsimp only at h0
    subst h0
    obtain ⟨g1, g2, -⟩ := read_good hk hm hR
    refine ⟨g1, fun x hx => ?_⟩
    have := g2 (x : Int) (List.mem_map_of_mem hx)
    omega
theorem blocks_i64 {count K : Nat} (hK : 1 ≤ K) : ((count : Int) + (K : Int) - 1).tdiv (K : Int) = (blocksN count K : Int) := by
  have e : (count : Int) + (K : Int) - 1 = ((count + K - 1 : Nat) : Int) := by omega
  rw [e, ← Int.ofNat_tdiv]
  rfl
theorem Dc.nil (w : World) : Dc (w.alloc (.cells #[.slice none 0 0] 57)) w.heap.size [] := ⟨none, 0, Blk.new _ _ _, World.ownsRow_nil _ _ _ _⟩
set_option maxRecDepth 20000 in
set_option maxHeartbeats 8000000 in
theorem fopen_any {w : World} {lo g k : Nat} {bs : List UInt8} {e : Int} (hc : Cur w lo g bs k e) (hbs : bs.length ≤ 1000000000) :
    Calls Try.prog 23 #[cp g] w fun r w' => ∃ (d : Nat) (ys : List ByteArray), r = .returned (.pointer (some ⟨d, 0, none⟩)) ∧ bytL2 ys = (openR bs k e).1 ∧ Dc w' d ys ∧ w.heap.size ≤ d ∧
      Cur w' lo g bs (openR bs k e).2.1 (openR bs k e).2.2 ∧ w.grownBy w' (some g) := by
  have hgl := hc.lt
  have hm1 := mostR_le bs k e 4096
  have HM1 := Lib.hid (most_any 4096 hc)
  unfold openR
  generalize mostR bs k e 4096 = C at *
  obtain ⟨count, k1, e1⟩ := C
  dsimp only at HM1 hm1 ⊢
  have hm2 := mostR_le bs k1 e1 64
  have HM2 := fun (w1 : World) (h1 : Cur w1 lo g bs k1 e1) => Lib.hid (most_any 64 h1)
  generalize mostR bs k1 e1 64 = D at *
  obtain ⟨K, k2, e2⟩ := D
  dsimp only at HM2 hm2 ⊢
  have hcount : count ≤ 4096 := by omega
  have hK64 : K ≤ 64 := by omega
  have HF := Lib.hid (fun w => ffits_any (w := w) (K : Int))
  clear hm1 hm2 hc
  unfold openK
  by_cases hK : 1 ≤ K ∧ K ≤ 64
  · rw [if_pos hK]
    rw [decide_eq_true (show (1 : Int) ≤ (K : Int) ∧ (K : Int) ≤ 64 by omega)] at HF
    obtain ⟨OM, hOM⟩ : ∃ OM, openM bs count K k2 e2 = OM := ⟨_, rfl⟩
    rw [hOM]
    unfold openM at hOM
    obtain ⟨nb, hnb⟩ : ∃ nb, blocksN count K = nb := ⟨_, rfl⟩
    have hnbc : nb ≤ count := by rw [← hnb]; exact blocks_le hK.1
    have hq1 := blocks_i64 (count := count) hK.1
    have HBL : Hid (∀ q, q < nb → q * K < count) := fun q hq => blocks_lt hK.1 (by rw [hnb]; exact hq)
    rw [hnb] at hOM hq1
    have HRD := fun (w1 : World) (h1 : Cur w1 lo g bs k2 e2) => Lib.hid (pread_any (nb : Int) h1 (by omega))
    have hrb := fun hk => read_bounds (bs := bs) (k := k2) e2 (m := nb) hk (by omega)
    generalize readR bs k2 e2 (nb : Int) = R at *
    obtain ⟨ns, k3, e3⟩ := R
    dsimp only at HRD hrb hOM
    obtain ⟨e4, he4⟩ : ∃ e4, (if ns.length = nb then e3 else orForm e3) = e4 := ⟨_, rfl⟩
    rw [he4] at hOM
    have HOM := Lib.hid hOM
    have HE4 := Lib.hid he4
    have hK0 : ¬ (K : Int) = 0 := by omega
    clear hOM he4 hnb
    unfold cp at *
    go_enter Try.func23, Try.ntmps23
    go_wp2_with fail
    refine HM1.out.mono ?_
    rintro r w1 ⟨rfl, hc1, hg1⟩
    have HG1 := Lib.hid hg1
    have H2 := HM2 w1 hc1
    clear hg1 hc1 HM1 HM2
    go_wp2_with fail
    refine H2.out.mono ?_
    rintro r w2 ⟨rfl, hc2, hg2⟩
    have HG2 := Lib.hid (HG1.out.trans hg2)
    have H3 := HRD w2 hc2
    have hrb2 := hrb hc2.le
    clear hg2 hc2 H2 HRD HG1 hrb
    go_wp2_with fail
    refine (HF.out _).mono ?_
    rintro r w' ⟨rfl, rfl⟩
    go_wp2_with fail
    refine H3.out.mono ?_
    rintro r w3 ⟨A3, c3, rfl, ho3, hc3, hg3⟩
    have HO3 := Lib.hid ho3
    have HG3 := Lib.hid (HG2.out.trans hg3)
    by_cases hnn : ns.length = nb
    · have he4 : e3 = e4 := by have := HE4.out; rw [if_pos hnn] at this; exact this
      rw [he4] at hc3
      have bn : ((ns.length : Int) == (nb : Int)) = true := by rw [beq_iff_eq]; omega
      have bn2 : ((ns.length : Int) != (nb : Int)) = false := by rw [bne, bn]; rfl
      have HC4 := Lib.hid hc3
      have HO4 := Lib.hid HO3.out
      have HG4 := Lib.hid HG3.out
      have HNN := Lib.hid hnn
      clear HO3 HG3 hc3 ho3 hg3 H3 he4 hnn
      obtain ⟨hnl, hnx⟩ := hrb2
      have HNX := Lib.hid hnx
      have hgv : g < w3.heap.size := by have := HG4.out.size; omega
      have hsz2 : w.heap.size ≤ w3.heap.size := HG4.out.size
      have HD0 := Lib.hid (Dc.nil w3)
      have HC0 : Hid (Cur (w3.alloc (.cells #[.slice none 0 0] 57)) lo g bs k3 e4) := HC4.out.grown (World.grownBy_alloc w3 _ none) (fun x hx => by cases hx)
      have HRW := Lib.hid (Rd.of_own HO4.out)
      have hO0 : Hid (Out w3 (w3.alloc (.cells #[.slice none 0 0] 57)) (fun i => i = g ∨ w3.heap.size ≤ i)) := (Out.refl w3 _).alloc _
      obtain ⟨W0, hW0⟩ : ∃ W0, w3.alloc (.cells #[.slice none 0 0] 57) = W0 := ⟨_, rfl⟩
      rw [hW0] at HD0 HC0 hO0
      have HNL : Hid (ns.length ≤ nb) := hnl
      have hnl2 : ns.length ≤ 4096 := by omega
      have hg2s : g < w2.heap.size := by have := HG2.out.size; omega
      clear hnx hnl HC4 HO4 hq1
      go_wp2_with fail
      clear hW0
      go_loopw [40] (fun x40 wr => ∃ (j k' : Nat) (e' : Int) (zs : List ByteArray), j ≤ ns.length ∧ x40 = .int .i64 (j : Int) ∧ zs.length ≤ 64 * j ∧ openB bs count K (ns.drop j) j (bytL2 zs) k' e' = OM ∧
        Dc wr w3.heap.size zs ∧ Cur wr lo g bs k' e' ∧ Out w3 wr (fun i => i = g ∨ w3.heap.size ≤ i)) (fun j _ => ns.length - (intOf j).toNat)
      case atStart => exact ⟨0, k3, e4, [], Nat.zero_le _, rfl, by simp, by rw [List.drop_zero]; exact HOM.out, HD0.out, HC0.out, hO0.out⟩
      case round =>
        clear HD0 HC0 hO0 HOM
        obtain ⟨j, k', e', zs, hj, rfl, hzl, hob, hdc, hcur, hout⟩ := hrel
        have HOB := Lib.hid hob
        have HD := Lib.hid hdc
        have HC := Lib.hid hcur
        have HOO := Lib.hid hout
        clear hob hdc hcur hout
        by_cases hlt : j < ns.length
        · have ij : (j : Int) < (ns.length : Int) := by omega
          have hjc : j * K < count := HBL.out j (Nat.lt_of_lt_of_le hlt HNL.out)
          have hz := HNX.out ns[j] (List.getElem_mem hlt)
          obtain ⟨b, off, rfl, _, _, hcell⟩ := (HRW.out.out HOO.out (Nat.le_refl _) (fun q h1 h2 h3 => by rcases h3 with h3 | h3 <;> omega)).num (k := j) (by rw [ints_length]; exact hlt)
          have hze : (ints ns)[j]'(by rw [ints_length]; exact hlt) = ((ns[j] : Nat) : Int) := by simp [ints]
          rw [hze] at hcell
          have hob := HOB.out
          rw [List.drop_eq_getElem_cons hlt, openB] at hob
          obtain ⟨q, hq⟩ : ∃ q, min K (count - j * K) = q := ⟨_, rfl⟩
          have hqK : q ≤ 64 := by omega
          have HTK := Lib.hid (ftake_any HC.out HD.out hgv q ns[j] hqK hz (by omega) (by omega))
          rw [hq] at hob
          generalize takeT bs (bytL2 zs) k' e' q ns[j] = T at *
          generalize ns[j] = z at *
          have HOB2 := Lib.hid hob
          obtain ⟨p, hp⟩ : ∃ p, j * K = p := ⟨_, rfl⟩
          have hp1 : (j : Int) * (K : Int) = (p : Int) := by rw [← hp]; exact (Int.natCast_mul j K).symm
          have hp2 : IntKind.i64.wrap ((j : Int) * (K : Int)) = (p : Int) := by rw [hp1]; exact IntWalk.i64_in _ (by omega)
          have hp3 : IntKind.i64.wrap ((count : Int) - (p : Int)) = (count : Int) - (p : Int) := IntWalk.i64_in _ (by omega)
          have hmin : min (K : Int) ((count : Int) - (p : Int)) = (q : Int) := by omega
          clear hob hq hp HC HD HOB
          go_wp2_with fail
          refine HTK.out.mono ?_
          rintro r w5 ⟨rfl, ys', hy1, hy2, hd5, hc5, ho5⟩
          rw [← hy1] at HOB2
          have HOB5 := Lib.hid HOB2.out
          have HD5 := Lib.hid hd5
          have HC5 := Lib.hid hc5
          have HO5 : Hid (Out w3 w5 (fun i => i = g ∨ w3.heap.size ≤ i)) := HOO.out.trans ho5 (fun _ _ h => h)
          clear hy1 hd5 hc5 ho5 hp1 hp2 hp3 hmin
          go_wp2_with fail
          go_roundw
          case rel => exact ⟨j + 1, T.2.1, T.2.2, ys', by omega, by go_num, by omega, HOB5.out, HD5.out, HC5.out, HO5.out⟩
          case measure => simp [intOf]; omega
        · have ij : ¬ (j : Int) < (ns.length : Int) := by omega
          have hob := HOB.out
          rw [List.drop_eq_nil_of_le (by omega), openB] at hob
          subst hob
          have HGD := Lib.hid (good_any HC.out)
          have hgw : w.grownBy wr (some g) := HG4.out.trans ⟨HOO.out.os, HOO.out.tape, HOO.out.output, HOO.out.size, fun q h1 h2 => HOO.out.block q h1 (fun h3 => by
            rcases h3 with h3 | h3
            · exact h2 (by rw [h3])
            · omega)⟩
          have HGW := Lib.hid hgw
          clear hgw HOB
          by_cases he : e' = 0
          · subst he
            rw [show ((0 : Int) == 0) = true from rfl] at HGD
            go_wp2_with fail
            refine HGD.out.mono ?_
            rintro r w' ⟨rfl, rfl⟩
            go_wp2_with fail
            go_ret
            exact ⟨w3.heap.size, rfl, zs, rfl, HD.out, hsz2, HC.out, HGW.out⟩
          · rw [show (e' == 0) = false from beq_eq_false_iff_ne.2 he] at HGD
            go_wp2_with fail
            refine HGD.out.mono ?_
            rintro r w' ⟨rfl, rfl⟩
            go_wp2_with fail
            go_ret
            have HCN : Cur (wr.alloc (.cells #[.slice none 0 0] 57)) lo g bs k' e' := HC.out.grown (World.grownBy_alloc wr _ none) (fun x hx => by cases hx)
            exact ⟨wr.heap.size, rfl, [], by first | rfl | (rw [if_neg he]; rfl), Dc.nil wr, HGW.out.size, by first | exact HCN | (rw [if_neg he]; exact HCN), gb_alloc HGW.out _⟩
    · have he4 : orForm e3 = e4 := by have := HE4.out; rw [if_neg hnn] at this; exact this
      have bn : ((ns.length : Int) == (nb : Int)) = false := by rw [beq_eq_false_iff_ne]; omega
      have HFA := Lib.hid (fail_any 3 hc3)
      rw [orForm_fail, he4] at HFA
      clear hc3 ho3 hg3 H3 he4
      go_wp2_with fail
      refine HFA.out.mono ?_
      rintro r wv ⟨rfl, hc4, hg4⟩
      have HC4 := Lib.hid hc4
      have HO4 : Hid (wv.ownsRow w2.heap.size 3 1 (.slice A3 ns.length c3) ns.length (iv (ints ns))) := own_keep HO3.out (fun q hq => hg4.block q (own_lt HO3.out hq).2 (fun e => by injection e with e; have := (own_lt HO3.out hq).1; have := HG2.out.size; omega))
      have HG4 := Lib.hid (HG3.out.trans hg4)
      clear hc4 hg4 HFA HO3 HG3
      obtain ⟨hnl, hnx⟩ := hrb2
      have HNX := Lib.hid hnx
      have hgv : g < wv.heap.size := by have := HG4.out.size; omega
      have hsz2 : w.heap.size ≤ wv.heap.size := HG4.out.size
      have HD0 := Lib.hid (Dc.nil wv)
      have HC0 : Hid (Cur (wv.alloc (.cells #[.slice none 0 0] 57)) lo g bs k3 e4) := HC4.out.grown (World.grownBy_alloc wv _ none) (fun x hx => by cases hx)
      have HRW := Lib.hid (Rd.of_own HO4.out)
      have hO0 : Hid (Out wv (wv.alloc (.cells #[.slice none 0 0] 57)) (fun i => i = g ∨ wv.heap.size ≤ i)) := (Out.refl wv _).alloc _
      obtain ⟨W0, hW0⟩ : ∃ W0, wv.alloc (.cells #[.slice none 0 0] 57) = W0 := ⟨_, rfl⟩
      rw [hW0] at HD0 HC0 hO0
      have HNL : Hid (ns.length ≤ nb) := hnl
      have hnl2 : ns.length ≤ 4096 := by omega
      have hg2s : g < w2.heap.size := by have := HG2.out.size; omega
      clear hnx hnl HC4 HO4 hq1
      go_wp2_with fail
      clear hW0
      go_loopw [40] (fun x40 wr => ∃ (j k' : Nat) (e' : Int) (zs : List ByteArray), j ≤ ns.length ∧ x40 = .int .i64 (j : Int) ∧ zs.length ≤ 64 * j ∧ openB bs count K (ns.drop j) j (bytL2 zs) k' e' = OM ∧
        Dc wr wv.heap.size zs ∧ Cur wr lo g bs k' e' ∧ Out wv wr (fun i => i = g ∨ wv.heap.size ≤ i)) (fun j _ => ns.length - (intOf j).toNat)
      case atStart => exact ⟨0, k3, e4, [], Nat.zero_le _, rfl, by simp, by rw [List.drop_zero]; exact HOM.out, HD0.out, HC0.out, hO0.out⟩
      case round =>
        clear HD0 HC0 hO0 HOM
        obtain ⟨j, k', e', zs, hj, rfl, hzl, hob, hdc, hcur, hout⟩ := hrel
        have HOB := Lib.hid hob
        have HD := Lib.hid hdc
        have HC := Lib.hid hcur
        have HOO := Lib.hid hout
        clear hob hdc hcur hout
        by_cases hlt : j < ns.length
        · have ij : (j : Int) < (ns.length : Int) := by omega
          have hjc : j * K < count := HBL.out j (Nat.lt_of_lt_of_le hlt HNL.out)
          have hz := HNX.out ns[j] (List.getElem_mem hlt)
          obtain ⟨b, off, rfl, _, _, hcell⟩ := (HRW.out.out HOO.out (Nat.le_refl _) (fun q h1 h2 h3 => by rcases h3 with h3 | h3 <;> omega)).num (k := j) (by rw [ints_length]; exact hlt)
          have hze : (ints ns)[j]'(by rw [ints_length]; exact hlt) = ((ns[j] : Nat) : Int) := by simp [ints]
          rw [hze] at hcell
          have hob := HOB.out
          rw [List.drop_eq_getElem_cons hlt, openB] at hob
          obtain ⟨q, hq⟩ : ∃ q, min K (count - j * K) = q := ⟨_, rfl⟩
          have hqK : q ≤ 64 := by omega
          have HTK := Lib.hid (ftake_any HC.out HD.out hgv q ns[j] hqK hz (by omega) (by omega))
          rw [hq] at hob
          generalize takeT bs (bytL2 zs) k' e' q ns[j] = T at *
          generalize ns[j] = z at *
          have HOB2 := Lib.hid hob
          obtain ⟨p, hp⟩ : ∃ p, j * K = p := ⟨_, rfl⟩
          have hp1 : (j : Int) * (K : Int) = (p : Int) := by rw [← hp]; exact (Int.natCast_mul j K).symm
          have hp2 : IntKind.i64.wrap ((j : Int) * (K : Int)) = (p : Int) := by rw [hp1]; exact IntWalk.i64_in _ (by omega)
          have hp3 : IntKind.i64.wrap ((count : Int) - (p : Int)) = (count : Int) - (p : Int) := IntWalk.i64_in _ (by omega)
          have hmin : min (K : Int) ((count : Int) - (p : Int)) = (q : Int) := by omega
          clear hob hq hp HC HD HOB
          go_wp2_with fail
          refine HTK.out.mono ?_
          rintro r w5 ⟨rfl, ys', hy1, hy2, hd5, hc5, ho5⟩
          rw [← hy1] at HOB2
          have HOB5 := Lib.hid HOB2.out
          have HD5 := Lib.hid hd5
          have HC5 := Lib.hid hc5
          have HO5 : Hid (Out wv w5 (fun i => i = g ∨ wv.heap.size ≤ i)) := HOO.out.trans ho5 (fun _ _ h => h)
          clear hy1 hd5 hc5 ho5 hp1 hp2 hp3 hmin
          go_wp2_with fail
          go_roundw
          case rel => exact ⟨j + 1, T.2.1, T.2.2, ys', by omega, by go_num, by omega, HOB5.out, HD5.out, HC5.out, HO5.out⟩
          case measure => simp [intOf]; omega
        · have ij : ¬ (j : Int) < (ns.length : Int) := by omega
          have hob := HOB.out
          rw [List.drop_eq_nil_of_le (by omega), openB] at hob
          subst hob
          have HGD := Lib.hid (good_any HC.out)
          have hgw : w.grownBy wr (some g) := HG4.out.trans ⟨HOO.out.os, HOO.out.tape, HOO.out.output, HOO.out.size, fun q h1 h2 => HOO.out.block q h1 (fun h3 => by
            rcases h3 with h3 | h3
            · exact h2 (by rw [h3])
            · omega)⟩
          have HGW := Lib.hid hgw
          clear hgw HOB
          by_cases he : e' = 0
          · subst he
            rw [show ((0 : Int) == 0) = true from rfl] at HGD
            go_wp2_with fail
            refine HGD.out.mono ?_
            rintro r w' ⟨rfl, rfl⟩
            go_wp2_with fail
            go_ret
            exact ⟨wv.heap.size, rfl, zs, rfl, HD.out, hsz2, HC.out, HGW.out⟩
          · rw [show (e' == 0) = false from beq_eq_false_iff_ne.2 he] at HGD
            go_wp2_with fail
            refine HGD.out.mono ?_
            rintro r w' ⟨rfl, rfl⟩
            go_wp2_with fail
            go_ret
            have HCN : Cur (wr.alloc (.cells #[.slice none 0 0] 57)) lo g bs k' e' := HC.out.grown (World.grownBy_alloc wr _ none) (fun x hx => by cases hx)
            exact ⟨wr.heap.size, rfl, [], by first | rfl | (rw [if_neg he]; rfl), Dc.nil wr, HGW.out.size, by first | exact HCN | (rw [if_neg he]; exact HCN), gb_alloc HGW.out _⟩
  · rw [if_neg hK]
    rw [decide_eq_false (show ¬ ((1 : Int) ≤ (K : Int) ∧ (K : Int) ≤ 64) by omega)] at HF
    unfold cp at *
    go_enter Try.func23, Try.ntmps23
    go_wp2_with fail
    refine HM1.out.mono ?_
    rintro r w1 ⟨rfl, hc1, hg1⟩
    have HG1 := Lib.hid hg1
    have H2 := HM2 w1 hc1
    clear hg1 hc1 HM1 HM2
    go_wp2_with fail
    refine H2.out.mono ?_
    rintro r w2 ⟨rfl, hc2, hg2⟩
    have HG2 := Lib.hid (HG1.out.trans hg2)
    have HC2 := Lib.hid hc2
    clear hg2 hc2 H2 HG1
    go_wp2_with fail
    refine (HF.out _).mono ?_
    rintro r w' ⟨rfl, rfl⟩
    go_wp2_with fail
    refine (fail_any 3 HC2.out).mono ?_
    rintro r w3 ⟨rfl, hc3, hg3⟩
    have HC3 : Hid (Cur w3 lo g bs k2 (orForm e2)) := hc3
    have HG3 := Lib.hid (HG2.out.trans hg3)
    clear hc3 hg3 HC2 HG2
    go_wp2_with fail
    go_ret
    refine ⟨w3.heap.size, [], rfl, rfl, Dc.nil w3, HG3.out.size, HC3.out.grown (World.grownBy_alloc w3 _ none) (fun x hx => by cases hx), gb_alloc HG3.out _⟩
end Go.Proofs.Ytihlbcnoficpgaa
