/-
  The front package: Open.
  strings.Clone: the library's contract at this program's numbers.
  The front package: Len, At, All.
  The chunk package: takeCodes, take, Open.
-/
import Derived.Test.YtmffpbhiehjlpaaGreatZ37
import Derived.Test.YtmffpbhiehjlpaaGreatZ07
import Derived.Shelf.LaysM
import Derived.Shelf.Strconv.Clone
import Derived.Test.YtmffpbhiehjlpaaGreatRows
import Derived.Test.YtmffpbhiehjlpaaGreatZ00
import Derived.OwnWalk
import Derived.Test.YtmffpbhiehjlpaaGreatZ36
import Derived.Test.YtmffpbhiehjlpaaGreatZ16
namespace Go.Proofs.YtmffpbhiehjlpaaGreat
set_option linter.unusedSimpArgs false
set_option linter.unusedVariables false
open Go.RowKit
theorem read_ne (bs : List UInt8) (k : Nat) (e m : Int) (h : (readR bs k e m).1 ≠ []) : (readR bs k e m).2.2 = 0 := by
  unfold readR readMid readEnd at h ⊢
  split at h
  · exact absurd rfl h
  · rename_i h1
    rw [if_neg h1]
    split at h
    · rename_i h2
      rw [if_pos h2]
    · exact absurd rfl h
theorem read_bounds {bs : List UInt8} {k : Nat} (e : Int) {m : Nat} (hk : k ≤ bs.length) (hm : m ≤ 2147483647) : (readR bs k e (m : Int)).1.length ≤ m ∧ ∀ x ∈ (readR bs k e (m : Int)).1, x ≤ 4294967295 := by
  by_cases h : (readR bs k e (m : Int)).1 = []
  · rw [h]
    exact ⟨by simp, fun x hx => by cases hx⟩
  · have h0 := read_ne bs k e m h
    have he : e = 0 := Decidable.byContradiction fun hne => h (by rw [read_bad _ _ _ hne])
    subst he
    obtain ⟨R, hR⟩ : ∃ R, readR bs k 0 (m : Int) = R := ⟨_, rfl⟩
    rw [hR] at h0 ⊢
    obtain ⟨ns, k2, e2⟩ := R
    dsimp only at h0
    subst h0
    obtain ⟨g1, g2, -⟩ := read_good hk hm hR
    refine ⟨g1, fun x hx => ?_⟩
    have := g2 (x : Int) (List.mem_map_of_mem hx)
    omega
theorem blocks_i64 {count K : Nat} (hK : 1 ≤ K) : ((count : Int) + (K : Int) - 1).tdiv (K : Int) = (blocksN count K : Int) := by
  have e : (count : Int) + (K : Int) - 1 = ((count + K - 1 : Nat) : Int) := by omega
  rw [e, ← Int.ofNat_tdiv]
  rfl
theorem Dc.nil (w : World) : Dc (w.alloc (.cells #[.slice none 0 0] 95)) w.heap.size [] := ⟨none, 0, Blk.new _ _ _, World.ownsRow_nil _ _ _ _⟩
set_option maxRecDepth 20000 in
set_option maxHeartbeats 8000000 in
theorem fopen_any {w : World} {lo g k : Nat} {bs : List UInt8} {e : Int} (hc : Cur w lo g bs k e) (hbs : bs.length ≤ 1000000000) :
    Calls Tryz.prog 80 #[cp g] w fun r w' => ∃ (d : Nat) (ys : List ByteArray), r = .returned (.pointer (some ⟨d, 0, none⟩)) ∧ bytL2 ys = (openR bs k e).1 ∧ Dc w' d ys ∧ w.heap.size ≤ d ∧
      Cur w' lo g bs (openR bs k e).2.1 (openR bs k e).2.2 ∧ w.grownBy w' (some g) := by
  have hgl := hc.lt
  have hm1 := mostR_le bs k e 4096
  have HM1 := Lib.hid (most_any 4096 hc)
  unfold openR
  generalize mostR bs k e 4096 = C at *
  obtain ⟨count, k1, e1⟩ := C
  dsimp only at HM1 hm1 ⊢
  have hm2 := mostR_le bs k1 e1 64
  have HM2 := fun (w1 : World) (h1 : Cur w1 lo g bs k1 e1) => Lib.hid (most_any 64 h1)
  generalize mostR bs k1 e1 64 = D at *
  obtain ⟨K, k2, e2⟩ := D
  dsimp only at HM2 hm2 ⊢
  have hcount : count ≤ 4096 := by omega
  have hK64 : K ≤ 64 := by omega
  have HF := Lib.hid (fun w => ffits_any (w := w) (K : Int))
  clear hm1 hm2 hc
  unfold openK
  by_cases hK : 1 ≤ K ∧ K ≤ 64
  · rw [if_pos hK]
    rw [decide_eq_true (show (1 : Int) ≤ (K : Int) ∧ (K : Int) ≤ 64 by omega)] at HF
    obtain ⟨OM, hOM⟩ : ∃ OM, openM bs count K k2 e2 = OM := ⟨_, rfl⟩
    rw [hOM]
    unfold openM at hOM
    obtain ⟨nb, hnb⟩ : ∃ nb, blocksN count K = nb := ⟨_, rfl⟩
    have hnbc : nb ≤ count := by rw [← hnb]; exact blocks_le hK.1
    have hq1 := blocks_i64 (count := count) hK.1
    have HBL : Hid (∀ q, q < nb → q * K < count) := fun q hq => blocks_lt hK.1 (by rw [hnb]; exact hq)
    rw [hnb] at hOM hq1
    have HRD := fun (w1 : World) (h1 : Cur w1 lo g bs k2 e2) => Lib.hid (pread_any (nb : Int) h1 (by omega))
    have hrb := fun hk => read_bounds (bs := bs) (k := k2) e2 (m := nb) hk (by omega)
    generalize readR bs k2 e2 (nb : Int) = R at *
    obtain ⟨ns, k3, e3⟩ := R
    dsimp only at HRD hrb hOM
    obtain ⟨e4, he4⟩ : ∃ e4, (if ns.length = nb then e3 else orForm e3) = e4 := ⟨_, rfl⟩
    rw [he4] at hOM
    have HOM := Lib.hid hOM
    have HE4 := Lib.hid he4
    have hK0 : ¬ (K : Int) = 0 := by omega
    clear hOM he4 hnb
    unfold cp at *
    go_enter Tryz.func80, Tryz.ntmps80
    go_wp2_with fail
    refine HM1.out.mono ?_
    rintro r w1 ⟨rfl, hc1, hg1⟩
    have HG1 := Lib.hid hg1
    have H2 := HM2 w1 hc1
    clear hg1 hc1 HM1 HM2
    go_wp2_with fail
    refine H2.out.mono ?_
    rintro r w2 ⟨rfl, hc2, hg2⟩
    have HG2 := Lib.hid (HG1.out.trans hg2)
    have H3 := HRD w2 hc2
    have hrb2 := hrb hc2.le
    clear hg2 hc2 H2 HRD HG1 hrb
    go_wp2_with fail
    refine (HF.out _).mono ?_
    rintro r w' ⟨rfl, rfl⟩
    go_wp2_with fail
    refine H3.out.mono ?_
    rintro r w3 ⟨A3, c3, rfl, ho3, hc3, hg3⟩
    have HO3 := Lib.hid ho3
    have HG3 := Lib.hid (HG2.out.trans hg3)
    by_cases hnn : ns.length = nb
    · have he4 : e3 = e4 := by have := HE4.out; rw [if_pos hnn] at this; exact this
      rw [he4] at hc3
      have bn : ((ns.length : Int) == (nb : Int)) = true := by rw [beq_iff_eq]; omega
      have bn2 : ((ns.length : Int) != (nb : Int)) = false := by rw [bne, bn]; rfl
      have HC4 := Lib.hid hc3
      have HO4 := Lib.hid HO3.out
      have HG4 := Lib.hid HG3.out
      have HNN := Lib.hid hnn
      clear HO3 HG3 hc3 ho3 hg3 H3 he4 hnn
      obtain ⟨hnl, hnx⟩ := hrb2
      have HNX := Lib.hid hnx
      have hgv : g < w3.heap.size := by have := HG4.out.size; omega
      have hsz2 : w.heap.size ≤ w3.heap.size := HG4.out.size
      have HD0 := Lib.hid (Dc.nil w3)
      have HC0 : Hid (Cur (w3.alloc (.cells #[.slice none 0 0] 95)) lo g bs k3 e4) := HC4.out.grown (World.grownBy_alloc w3 _ none) (fun x hx => by cases hx)
      have HRW := Lib.hid (Rd.of_own HO4.out)
      have hO0 : Hid (Out w3 (w3.alloc (.cells #[.slice none 0 0] 95)) (fun i => i = g ∨ w3.heap.size ≤ i)) := (Out.refl w3 _).alloc _
      obtain ⟨W0, hW0⟩ : ∃ W0, w3.alloc (.cells #[.slice none 0 0] 95) = W0 := ⟨_, rfl⟩
      rw [hW0] at HD0 HC0 hO0
      have HNL : Hid (ns.length ≤ nb) := hnl
      have hnl2 : ns.length ≤ 4096 := by omega
      have hg2s : g < w2.heap.size := by have := HG2.out.size; omega
      clear hnx hnl HC4 HO4 hq1
      go_wp2_with fail
      clear hW0
      go_loopw [40] (fun x40 wr => ∃ (j k' : Nat) (e' : Int) (zs : List ByteArray), j ≤ ns.length ∧ x40 = .int .i64 (j : Int) ∧ zs.length ≤ 64 * j ∧ openB bs count K (ns.drop j) j (bytL2 zs) k' e' = OM ∧
        Dc wr w3.heap.size zs ∧ Cur wr lo g bs k' e' ∧ Out w3 wr (fun i => i = g ∨ w3.heap.size ≤ i)) (fun j _ => ns.length - (intOf j).toNat)
      case atStart => exact ⟨0, k3, e4, [], Nat.zero_le _, rfl, by simp, by rw [List.drop_zero]; exact HOM.out, HD0.out, HC0.out, hO0.out⟩
      case round =>
        clear HD0 HC0 hO0 HOM
        obtain ⟨j, k', e', zs, hj, rfl, hzl, hob, hdc, hcur, hout⟩ := hrel
        have HOB := Lib.hid hob
        have HD := Lib.hid hdc
        have HC := Lib.hid hcur
        have HOO := Lib.hid hout
        clear hob hdc hcur hout
        by_cases hlt : j < ns.length
        · have ij : (j : Int) < (ns.length : Int) := by omega
          have hjc : j * K < count := HBL.out j (Nat.lt_of_lt_of_le hlt HNL.out)
          have hz := HNX.out ns[j] (List.getElem_mem hlt)
          obtain ⟨b, off, rfl, _, _, hcell⟩ := (HRW.out.out HOO.out (Nat.le_refl _) (fun q h1 h2 h3 => by rcases h3 with h3 | h3 <;> omega)).num (k := j) (by rw [ints_length]; exact hlt)
          have hze : (ints ns)[j]'(by rw [ints_length]; exact hlt) = ((ns[j] : Nat) : Int) := by simp [ints]
          rw [hze] at hcell
          have hob := HOB.out
          rw [List.drop_eq_getElem_cons hlt, openB] at hob
          obtain ⟨q, hq⟩ : ∃ q, min K (count - j * K) = q := ⟨_, rfl⟩
          have hqK : q ≤ 64 := by omega
          have HTK := Lib.hid (ftake_any HC.out HD.out hgv q ns[j] hqK hz (by omega) (by omega))
          rw [hq] at hob
          generalize takeT bs (bytL2 zs) k' e' q ns[j] = T at *
          generalize ns[j] = z at *
          have HOB2 := Lib.hid hob
          obtain ⟨p, hp⟩ : ∃ p, j * K = p := ⟨_, rfl⟩
          have hp1 : (j : Int) * (K : Int) = (p : Int) := by rw [← hp]; exact (Int.natCast_mul j K).symm
          have hp2 : IntKind.i64.wrap ((j : Int) * (K : Int)) = (p : Int) := by rw [hp1]; exact IntWalk.i64_in _ (by omega)
          have hp3 : IntKind.i64.wrap ((count : Int) - (p : Int)) = (count : Int) - (p : Int) := IntWalk.i64_in _ (by omega)
          have hmin : min (K : Int) ((count : Int) - (p : Int)) = (q : Int) := by omega
          clear hob hq hp HC HD HOB
          go_wp2_with fail
          refine HTK.out.mono ?_
          rintro r w5 ⟨rfl, ys', hy1, hy2, hd5, hc5, ho5⟩
          rw [← hy1] at HOB2
          have HOB5 := Lib.hid HOB2.out
          have HD5 := Lib.hid hd5
          have HC5 := Lib.hid hc5
          have HO5 : Hid (Out w3 w5 (fun i => i = g ∨ w3.heap.size ≤ i)) := HOO.out.trans ho5 (fun _ _ h => h)
          clear hy1 hd5 hc5 ho5 hp1 hp2 hp3 hmin
          go_wp2_with fail
          go_roundw
          case rel => exact ⟨j + 1, T.2.1, T.2.2, ys', by omega, by go_num, by omega, HOB5.out, HD5.out, HC5.out, HO5.out⟩
          case measure => simp [intOf]; omega
        · have ij : ¬ (j : Int) < (ns.length : Int) := by omega
          have hob := HOB.out
          rw [List.drop_eq_nil_of_le (by omega), openB] at hob
          subst hob
          have HGD := Lib.hid (good_any HC.out)
          have hgw : w.grownBy wr (some g) := HG4.out.trans ⟨HOO.out.os, HOO.out.tape, HOO.out.output, HOO.out.size, fun q h1 h2 => HOO.out.block q h1 (fun h3 => by
            rcases h3 with h3 | h3
            · exact h2 (by rw [h3])
            · omega)⟩
          have HGW := Lib.hid hgw
          clear hgw HOB
          by_cases he : e' = 0
          · subst he
            rw [show ((0 : Int) == 0) = true from rfl] at HGD
            go_wp2_with fail
            refine HGD.out.mono ?_
            rintro r w' ⟨rfl, rfl⟩
            go_wp2_with fail
            go_ret
            exact ⟨w3.heap.size, rfl, zs, rfl, HD.out, hsz2, HC.out, HGW.out⟩
          · rw [show (e' == 0) = false from beq_eq_false_iff_ne.2 he] at HGD
            go_wp2_with fail
            refine HGD.out.mono ?_
            rintro r w' ⟨rfl, rfl⟩
            go_wp2_with fail
            go_ret
            have HCN : Cur (wr.alloc (.cells #[.slice none 0 0] 95)) lo g bs k' e' := HC.out.grown (World.grownBy_alloc wr _ none) (fun x hx => by cases hx)
            exact ⟨wr.heap.size, rfl, [], by first | rfl | (rw [if_neg he]; rfl), Dc.nil wr, HGW.out.size, by first | exact HCN | (rw [if_neg he]; exact HCN), gb_alloc HGW.out _⟩
    · have he4 : orForm e3 = e4 := by have := HE4.out; rw [if_neg hnn] at this; exact this
      have bn : ((ns.length : Int) == (nb : Int)) = false := by rw [beq_eq_false_iff_ne]; omega
      have HFA := Lib.hid (fail_any 3 hc3)
      rw [orForm_fail, he4] at HFA
      clear hc3 ho3 hg3 H3 he4
      go_wp2_with fail
      refine HFA.out.mono ?_
      rintro r wv ⟨rfl, hc4, hg4⟩
      have HC4 := Lib.hid hc4
      have HO4 : Hid (wv.ownsRow w2.heap.size 3 1 (.slice A3 ns.length c3) ns.length (iv (ints ns))) := own_keep HO3.out (fun q hq => hg4.block q (own_lt HO3.out hq).2 (fun e => by injection e with e; have := (own_lt HO3.out hq).1; have := HG2.out.size; omega))
      have HG4 := Lib.hid (HG3.out.trans hg4)
      clear hc4 hg4 HFA HO3 HG3
      obtain ⟨hnl, hnx⟩ := hrb2
      have HNX := Lib.hid hnx
      have hgv : g < wv.heap.size := by have := HG4.out.size; omega
      have hsz2 : w.heap.size ≤ wv.heap.size := HG4.out.size
      have HD0 := Lib.hid (Dc.nil wv)
      have HC0 : Hid (Cur (wv.alloc (.cells #[.slice none 0 0] 95)) lo g bs k3 e4) := HC4.out.grown (World.grownBy_alloc wv _ none) (fun x hx => by cases hx)
      have HRW := Lib.hid (Rd.of_own HO4.out)
      have hO0 : Hid (Out wv (wv.alloc (.cells #[.slice none 0 0] 95)) (fun i => i = g ∨ wv.heap.size ≤ i)) := (Out.refl wv _).alloc _
      obtain ⟨W0, hW0⟩ : ∃ W0, wv.alloc (.cells #[.slice none 0 0] 95) = W0 := ⟨_, rfl⟩
      rw [hW0] at HD0 HC0 hO0
      have HNL : Hid (ns.length ≤ nb) := hnl
      have hnl2 : ns.length ≤ 4096 := by omega
      have hg2s : g < w2.heap.size := by have := HG2.out.size; omega
      clear hnx hnl HC4 HO4 hq1
      go_wp2_with fail
      clear hW0
      go_loopw [40] (fun x40 wr => ∃ (j k' : Nat) (e' : Int) (zs : List ByteArray), j ≤ ns.length ∧ x40 = .int .i64 (j : Int) ∧ zs.length ≤ 64 * j ∧ openB bs count K (ns.drop j) j (bytL2 zs) k' e' = OM ∧
        Dc wr wv.heap.size zs ∧ Cur wr lo g bs k' e' ∧ Out wv wr (fun i => i = g ∨ wv.heap.size ≤ i)) (fun j _ => ns.length - (intOf j).toNat)
      case atStart => exact ⟨0, k3, e4, [], Nat.zero_le _, rfl, by simp, by rw [List.drop_zero]; exact HOM.out, HD0.out, HC0.out, hO0.out⟩
      case round =>
        clear HD0 HC0 hO0 HOM
        obtain ⟨j, k', e', zs, hj, rfl, hzl, hob, hdc, hcur, hout⟩ := hrel
        have HOB := Lib.hid hob
        have HD := Lib.hid hdc
        have HC := Lib.hid hcur
        have HOO := Lib.hid hout
        clear hob hdc hcur hout
        by_cases hlt : j < ns.length
        · have ij : (j : Int) < (ns.length : Int) := by omega
          have hjc : j * K < count := HBL.out j (Nat.lt_of_lt_of_le hlt HNL.out)
          have hz := HNX.out ns[j] (List.getElem_mem hlt)
          obtain ⟨b, off, rfl, _, _, hcell⟩ := (HRW.out.out HOO.out (Nat.le_refl _) (fun q h1 h2 h3 => by rcases h3 with h3 | h3 <;> omega)).num (k := j) (by rw [ints_length]; exact hlt)
          have hze : (ints ns)[j]'(by rw [ints_length]; exact hlt) = ((ns[j] : Nat) : Int) := by simp [ints]
          rw [hze] at hcell
          have hob := HOB.out
          rw [List.drop_eq_getElem_cons hlt, openB] at hob
          obtain ⟨q, hq⟩ : ∃ q, min K (count - j * K) = q := ⟨_, rfl⟩
          have hqK : q ≤ 64 := by omega
          have HTK := Lib.hid (ftake_any HC.out HD.out hgv q ns[j] hqK hz (by omega) (by omega))
          rw [hq] at hob
          generalize takeT bs (bytL2 zs) k' e' q ns[j] = T at *
          generalize ns[j] = z at *
          have HOB2 := Lib.hid hob
          obtain ⟨p, hp⟩ : ∃ p, j * K = p := ⟨_, rfl⟩
          have hp1 : (j : Int) * (K : Int) = (p : Int) := by rw [← hp]; exact (Int.natCast_mul j K).symm
          have hp2 : IntKind.i64.wrap ((j : Int) * (K : Int)) = (p : Int) := by rw [hp1]; exact IntWalk.i64_in _ (by omega)
          have hp3 : IntKind.i64.wrap ((count : Int) - (p : Int)) = (count : Int) - (p : Int) := IntWalk.i64_in _ (by omega)
          have hmin : min (K : Int) ((count : Int) - (p : Int)) = (q : Int) := by omega
          clear hob hq hp HC HD HOB
          go_wp2_with fail
          refine HTK.out.mono ?_
          rintro r w5 ⟨rfl, ys', hy1, hy2, hd5, hc5, ho5⟩
          rw [← hy1] at HOB2
          have HOB5 := Lib.hid HOB2.out
          have HD5 := Lib.hid hd5
          have HC5 := Lib.hid hc5
          have HO5 : Hid (Out wv w5 (fun i => i = g ∨ wv.heap.size ≤ i)) := HOO.out.trans ho5 (fun _ _ h => h)
          clear hy1 hd5 hc5 ho5 hp1 hp2 hp3 hmin
          go_wp2_with fail
          go_roundw
          case rel => exact ⟨j + 1, T.2.1, T.2.2, ys', by omega, by go_num, by omega, HOB5.out, HD5.out, HC5.out, HO5.out⟩
          case measure => simp [intOf]; omega
        · have ij : ¬ (j : Int) < (ns.length : Int) := by omega
          have hob := HOB.out
          rw [List.drop_eq_nil_of_le (by omega), openB] at hob
          subst hob
          have HGD := Lib.hid (good_any HC.out)
          have hgw : w.grownBy wr (some g) := HG4.out.trans ⟨HOO.out.os, HOO.out.tape, HOO.out.output, HOO.out.size, fun q h1 h2 => HOO.out.block q h1 (fun h3 => by
            rcases h3 with h3 | h3
            · exact h2 (by rw [h3])
            · omega)⟩
          have HGW := Lib.hid hgw
          clear hgw HOB
          by_cases he : e' = 0
          · subst he
            rw [show ((0 : Int) == 0) = true from rfl] at HGD
            go_wp2_with fail
            refine HGD.out.mono ?_
            rintro r w' ⟨rfl, rfl⟩
            go_wp2_with fail
            go_ret
            exact ⟨wv.heap.size, rfl, zs, rfl, HD.out, hsz2, HC.out, HGW.out⟩
          · rw [show (e' == 0) = false from beq_eq_false_iff_ne.2 he] at HGD
            go_wp2_with fail
            refine HGD.out.mono ?_
            rintro r w' ⟨rfl, rfl⟩
            go_wp2_with fail
            go_ret
            have HCN : Cur (wr.alloc (.cells #[.slice none 0 0] 95)) lo g bs k' e' := HC.out.grown (World.grownBy_alloc wr _ none) (fun x hx => by cases hx)
            exact ⟨wr.heap.size, rfl, [], by first | rfl | (rw [if_neg he]; rfl), Dc.nil wr, HGW.out.size, by first | exact HCN | (rw [if_neg he]; exact HCN), gb_alloc HGW.out _⟩
  · rw [if_neg hK]
    rw [decide_eq_false (show ¬ ((1 : Int) ≤ (K : Int) ∧ (K : Int) ≤ 64) by omega)] at HF
    unfold cp at *
    go_enter Tryz.func80, Tryz.ntmps80
    go_wp2_with fail
    refine HM1.out.mono ?_
    rintro r w1 ⟨rfl, hc1, hg1⟩
    have HG1 := Lib.hid hg1
    have H2 := HM2 w1 hc1
    clear hg1 hc1 HM1 HM2
    go_wp2_with fail
    refine H2.out.mono ?_
    rintro r w2 ⟨rfl, hc2, hg2⟩
    have HG2 := Lib.hid (HG1.out.trans hg2)
    have HC2 := Lib.hid hc2
    clear hg2 hc2 H2 HG1
    go_wp2_with fail
    refine (HF.out _).mono ?_
    rintro r w' ⟨rfl, rfl⟩
    go_wp2_with fail
    refine (fail_any 3 HC2.out).mono ?_
    rintro r w3 ⟨rfl, hc3, hg3⟩
    have HC3 : Hid (Cur w3 lo g bs k2 (orForm e2)) := hc3
    have HG3 := Lib.hid (HG2.out.trans hg3)
    clear hc3 hg3 HC2 HG2
    go_wp2_with fail
    go_ret
    refine ⟨w3.heap.size, [], rfl, rfl, Dc.nil w3, HG3.out.size, HC3.out.grown (World.grownBy_alloc w3 _ none) (fun x hx => by cases hx), gb_alloc HG3.out _⟩
end Go.Proofs.YtmffpbhiehjlpaaGreat
namespace Go.Proofs.YtmffpbhiehjlpaaGreat
set_option maxRecDepth 100000
set_option linter.unusedSimpArgs false
set_option linter.unusedVariables false
open Go.RowKit
def renC : Go.Shelf.Ren := ⟨fun | 316 => 84 | n => n, fun | 0 => 0 | 3 => 3 | 4 => 4 | 5 => 5 | 9 => 9 | 37 => 28 | 127 => 132 | n => n, fun n => n⟩
theorem laysC316 : Go.Proofs.LaysM.n316 Tryz.prog renC := {
  mixed := by kernel_rfl
  f316 := Tryz.func84.trans (congrArg some (by kernel_rfl))
  t0 := Tryz.underlying0
  a0 := Tryz.isAgg0
  z0 := Tryz.sizeOf0
  v0 := Tryz.zeroValue0
  t3 := Tryz.underlying3
  a3 := Tryz.isAgg3
  z3 := Tryz.sizeOf3
  v3 := Tryz.zeroValue3
  t4 := Tryz.underlying4
  a4 := Tryz.isAgg4
  z4 := Tryz.sizeOf4
  v4 := Tryz.zeroValue4
  t9 := Tryz.underlying9
  a9 := Tryz.isAgg9
  z9 := Tryz.sizeOf9
  v9 := Tryz.zeroValue9
  t37 := Tryz.underlying28
  a37 := Tryz.isAgg28
  z37 := Tryz.sizeOf28
  v37 := Tryz.zeroValue28
  t127 := Tryz.underlying132
  a127 := Tryz.isAgg132
  z127 := Tryz.sizeOf132
  v127 := Tryz.zeroValue132
  t5 := Tryz.underlying5
  a5 := Tryz.isAgg5
  z5 := Tryz.sizeOf5
  v5 := Tryz.zeroValue5
  i0 := by kernel_rfl
  i3 := by kernel_rfl
  i4 := by kernel_rfl
  i5 := by kernel_rfl
  i9 := by kernel_rfl
  i37 := by kernel_rfl
  i127 := by kernel_rfl }
theorem cloneS_any {w : World} (s : ByteArray) (hs : s.size ≤ 281474976710656) :
    Calls Tryz.prog 59 #[.string s] w fun e w' => e = .returned (.string s) ∧ Below w.heap.size w w' := by
  have h := fun w => Any.stringslite_Clone laysC316 s w hs
  have H := Lib.hid h
  clear h
  go_enter Tryz.func59, Tryz.ntmps59
  go_wp2_with fail
  refine (H.out _).mono ?_
  rintro r w1 ⟨rfl, hb⟩
  go_wp2
  go_ret
  exact ⟨rfl, hb⟩
end Go.Proofs.YtmffpbhiehjlpaaGreat
namespace Go.Proofs.YtmffpbhiehjlpaaGreat
set_option linter.unusedSimpArgs false
set_option linter.unusedVariables false
open Go.RowKit
def DcR (w : World) (d : Nat) (ys : List ByteArray) : Prop := ∃ A c, w.cell? ⟨d, 0, none⟩ = some (.slice A ys.length c) ∧ w.frozen? ⟨d, 0, none⟩ = false ∧ Rd w 0 w.heap.size A c (sv ys)
theorem Dc.reads {w : World} {d : Nat} {ys : List ByteArray} (h : Dc w d ys) : DcR w d ys := by
  obtain ⟨A, c, h1, h2, h3⟩ := h.open_
  exact ⟨A, c, h1, h2, h3.wide (Nat.zero_le _) (Nat.le_refl _)⟩
theorem flen_r {w : World} {d : Nat} {ys : List ByteArray} (h : DcR w d ys) :
    Calls Tryz.prog 30 #[.pointer (some ⟨d, 0, none⟩)] w fun r w' => r = .returned (.int .i64 (ys.length : Int)) ∧ w = w' := by
  obtain ⟨A, c, hcell, hfr, hrd⟩ := h
  clear hrd
  go_enter Tryz.func30, Tryz.ntmps30
  go_wp2
  go_ret
  exact ⟨rfl, rfl⟩
theorem fat_in_r {w : World} {d : Nat} {ys : List ByteArray} (h : DcR w d ys) (k : Nat) (hk : k < ys.length) (h4 : ys[k].size ≤ 281474976710656) :
    Calls Tryz.prog 32 #[.pointer (some ⟨d, 0, none⟩), .int .i64 (k : Int)] w fun r w' => r = .returned (.string ys[k]) ∧ Below w.heap.size w w' := by
  have HL := Lib.hid (flen_r h)
  obtain ⟨A, c, hcell, hfr, hrd⟩ := h
  have hl := hrd.len
  have hm := hrd.cap
  rw [sv_length] at hl
  unfold maxLen at hm
  obtain ⟨b, off, rfl, _, _, hcell2⟩ := hrd.str hk
  have HC := Lib.hid (fun w => cloneS_any (w := w) ys[k] h4)
  have i0 : ¬ (k : Int) < 0 := by omega
  have d0 : decide ((k : Int) < 0) = false := decide_eq_false i0
  have i1 : ¬ (ys.length : Int) ≤ (k : Int) := by omega
  have d1 : decide ((ys.length : Int) ≤ (k : Int)) = false := decide_eq_false i1
  have i2 : (k : Int) < (ys.length : Int) := by omega
  generalize ys[k] = s at *
  clear hrd
  go_enter Tryz.func32, Tryz.ntmps32
  go_wp2_with fail
  refine HL.out.mono ?_
  rintro r w' ⟨rfl, rfl⟩
  go_wp2_with fail
  refine (HC.out _).mono ?_
  rintro r w1 ⟨rfl, hb⟩
  go_wp2_with fail
  go_ret
  exact ⟨rfl, hb⟩
theorem flen_any {w : World} {d : Nat} {ys : List ByteArray} (h : Dc w d ys) :
    Calls Tryz.prog 30 #[.pointer (some ⟨d, 0, none⟩)] w fun r w' => r = .returned (.int .i64 (ys.length : Int)) ∧ w = w' := flen_r h.reads
theorem fat_in {w : World} {d : Nat} {ys : List ByteArray} (h : Dc w d ys) (k : Nat) (hk : k < ys.length) (h4 : ys[k].size ≤ 281474976710656) :
    Calls Tryz.prog 32 #[.pointer (some ⟨d, 0, none⟩), .int .i64 (k : Int)] w fun r w' => r = .returned (.string ys[k]) ∧ Below w.heap.size w w' := fat_in_r h.reads k hk h4
end Go.Proofs.YtmffpbhiehjlpaaGreat
namespace Go.Proofs.YtmffpbhiehjlpaaGreat
set_option linter.unusedSimpArgs false
set_option linter.unusedVariables false
open Go.RowKit
set_option maxRecDepth 20000 in
set_option maxHeartbeats 4000000 in
theorem takeCodes_v {w : World} {lo g G k n0 c0 dg : Nat} {bs : List UInt8} {e : Int} (kd : Nat) (there : List Bool) (ys : List ByteArray) {A0 : Option Addr} {v2 v3 v5 : Value} (h : Cur w lo g bs k e) (hb : bs.length ≤ 1000000) (hgG : g < G)
    (hG : Blk w G 89 #[.int .i64 (kd : Int), .slice A0 n0 c0, v2, v3, .pointer (some ⟨dg, 0, none⟩), v5]) (ht : Rd w (g + 1) w.heap.size A0 c0 (lv there)) (hn0 : there.length = n0) (ht4 : n0 ≤ 4096) (hd : Dc w dg ys) (hyl : ys.length ≤ 1000000) :
    Calls Tryz.prog 81 #[.pointer (some ⟨G, 0, none⟩), cp g] w fun r w' => ∃ A n c, r = .returned (.slice A n c) ∧ Cur w' lo g bs (numsR bs k e (cnt there) ((ys.length : Int) - 1)).2.1 (numsR bs k e (cnt there) ((ys.length : Int) - 1)).2.2 ∧ w.grownBy w' (some g) ∧
      ((numsR bs k e (cnt there) ((ys.length : Int) - 1)).1.length = cnt there → n = there.length ∧ Rd w' w.heap.size w'.heap.size A c (spreadL there (iv (ints (numsR bs k e (cnt there) ((ys.length : Int) - 1)).1)) (.int .i64 (-1)))) := by
  have hgl := h.lt
  have hGl := hG.lt
  have HBX : Hid (∀ W, w.grownBy W (some g) → Blk W G 89 #[.int .i64 (kd : Int), .slice A0 n0 c0, v2, v3, .pointer (some ⟨dg, 0, none⟩), v5]) := fun W hW => hG.grown hW (by intro e; injection e with e; omega)
  have HTH : Hid (∀ W, w.grownBy W (some g) → Rd W 0 W.heap.size A0 c0 (lv there)) := fun W hW => (ht.grown hW (Nat.le_refl _) (fun q hq => by cases hq; exact .inl (by omega))).wide (Nat.zero_le _) hW.size
  have HCF : Hid (∀ W, w.grownBy W (some g) → W.cell? ⟨G, 1, none⟩ = some (.slice A0 n0 c0) ∧ W.cell? ⟨G, 4, none⟩ = some (.pointer (some ⟨dg, 0, none⟩))) := fun W hW => ⟨(HBX.out W hW).cell 1, (HBX.out W hW).cell 4⟩
  have HCT : Hid (∀ W, Below w.heap.size w W → Calls Tryz.prog 93 #[.slice A0 n0 c0] W fun r w' => r = .returned (.int .i64 (cnt there : Int)) ∧ W = w') := fun W hW => by
    have := bcount_v (w := W) there (HTH.out W (gb_below hW))
    rw [hn0] at this
    exact this
  have HLN : Hid (∀ W, Below w.heap.size w W → Calls Tryz.prog 30 #[.pointer (some ⟨dg, 0, none⟩)] W fun r w' => r = .returned (.int .i64 (ys.length : Int)) ∧ W = w') := fun W hW => flen_any (hd.below hW (Nat.le_refl _))
  have HTN : Hid (∀ W, Below w.heap.size w W → Calls Tryz.prog 92 #[cp g, .int .i64 (cnt there : Int), .int .i64 ((ys.length : Int) - 1)] W fun r w' => ∃ A c, r = .returned (.slice A (numsR bs k e (cnt there) ((ys.length : Int) - 1)).1.length c) ∧ w'.ownsRow W.heap.size 3 1 (.slice A (numsR bs k e (cnt there) ((ys.length : Int) - 1)).1.length c) (numsR bs k e (cnt there) ((ys.length : Int) - 1)).1.length (iv (ints (numsR bs k e (cnt there) ((ys.length : Int) - 1)).1)) ∧
      Cur w' lo g bs (numsR bs k e (cnt there) ((ys.length : Int) - 1)).2.1 (numsR bs k e (cnt there) ((ys.length : Int) - 1)).2.2 ∧ W.grownBy w' (some g)) := fun W hW => takeNumbers_v (cnt there) ((ys.length : Int) - 1) (h.behind hW hgl) (by omega)
  have hcl := cnt_le there
  have hnl := numsR_len bs k e (cnt there) ((ys.length : Int) - 1)
  generalize numsR bs k e (cnt there) ((ys.length : Int) - 1) = S at *
  obtain ⟨ns, p, e1⟩ := S
  simp only at *
  have hwr : IntKind.i64.wrap ((ys.length : Int) - 1) = (ys.length : Int) - 1 := IntWalk.i64_in _ (by omega)
  have KD : Hid (Below w.heap.size w w.drew) := (Below.refl _ _).drew
  have HN0 := Lib.hid hn0
  clear h hG ht hd hn0
  unfold cp at *
  go_enter Tryz.func81, Tryz.ntmps81
  go_wp2_with fail
  refine wp_region_held_drew (S := fun w' => w.grownBy w' (some g)) (by kernel_rfl) (gb_drew (gb_refl _ _)) (fun hHeld => ?_)
  refine wpAnyH_take (i := 0) (oi := _) (v := ?_) rfl (by kernel_rfl) (by kernel_rfl) (by kernel_rfl) (fun _ _ _ h => h) (Or.inl ⟨by rfl, ?_⟩) hHeld ?_
  rotate_left
  focus (intro W hSw; obtain ⟨q1, q4⟩ := HCF.out W hSw; go_simp; try with_reducible rfl)
  try simp only [List.getElem_toArray, List.getElem_cons_zero, List.getElem_cons_succ, Act.put, List.setIfInBounds_toArray, List.set_cons_zero, List.set_cons_succ]
  refine wpAnyH_take (i := 1) (oi := _) (v := ?_) rfl (by kernel_rfl) (by kernel_rfl) (by kernel_rfl) (fun _ _ _ h => h) (Or.inl ⟨by rfl, ?_⟩) hHeld ?_
  rotate_left
  focus (intro W hSw; obtain ⟨q1, q4⟩ := HCF.out W hSw; go_simp; try with_reducible rfl)
  try simp only [List.getElem_toArray, List.getElem_cons_zero, List.getElem_cons_succ, Act.put, List.setIfInBounds_toArray, List.set_cons_zero, List.set_cons_succ]
  refine wpAnyH_take (i := 2) (oi := _) (v := ?_) rfl (by kernel_rfl) (by kernel_rfl) (by kernel_rfl) (fun _ _ _ h => h) (Or.inl ⟨by rfl, ?_⟩) hHeld ?_
  rotate_left
  focus (intro W hSw; obtain ⟨q1, q4⟩ := HCF.out W hSw; go_simp; try with_reducible rfl)
  try simp only [List.getElem_toArray, List.getElem_cons_zero, List.getElem_cons_succ, Act.put, List.setIfInBounds_toArray, List.set_cons_zero, List.set_cons_succ]
  refine wpAnyH_take (i := 3) (oi := _) (v := ?_) rfl (by kernel_rfl) (by kernel_rfl) (by kernel_rfl) (fun _ _ _ h => h) (Or.inl ⟨by rfl, ?_⟩) hHeld ?_
  rotate_left
  focus (intro W hSw; obtain ⟨q1, q4⟩ := HCF.out W hSw; go_simp; try with_reducible rfl)
  try simp only [List.getElem_toArray, List.getElem_cons_zero, List.getElem_cons_succ, Act.put, List.setIfInBounds_toArray, List.set_cons_zero, List.set_cons_succ]
  refine wpAnyH_take (i := 4) (oi := _) (v := ?_) rfl (by kernel_rfl) (by kernel_rfl) (by kernel_rfl) (fun _ _ _ h => h) (Or.inl ⟨by rfl, ?_⟩) hHeld ?_
  rotate_left
  focus (intro W hSw; obtain ⟨q1, q4⟩ := HCF.out W hSw; go_simp; try with_reducible rfl)
  try simp only [List.getElem_toArray, List.getElem_cons_zero, List.getElem_cons_succ, Act.put, List.setIfInBounds_toArray, List.set_cons_zero, List.set_cons_succ]
  refine wpAnyH_take (i := 6) (oi := _) (v := ?_) rfl (by kernel_rfl) (by kernel_rfl) (by kernel_rfl) (fun _ _ _ h => h) (Or.inl ⟨by rfl, ?_⟩) hHeld ?_
  rotate_left
  focus (intro W hSw; obtain ⟨q1, q4⟩ := HCF.out W hSw; go_simp; try with_reducible rfl)
  try simp only [List.getElem_toArray, List.getElem_cons_zero, List.getElem_cons_succ, Act.put, List.setIfInBounds_toArray, List.set_cons_zero, List.set_cons_succ]
  refine wpAnyH_take (i := 7) (oi := _) (v := ?_) rfl (by kernel_rfl) (by kernel_rfl) (by kernel_rfl) (fun _ _ _ h => h) (Or.inl ⟨by rfl, ?_⟩) hHeld ?_
  rotate_left
  focus (intro W hSw; obtain ⟨q1, q4⟩ := HCF.out W hSw; go_simp; try with_reducible rfl)
  try simp only [List.getElem_toArray, List.getElem_cons_zero, List.getElem_cons_succ, Act.put, List.setIfInBounds_toArray, List.set_cons_zero, List.set_cons_succ]
  refine wpAnyH_take (i := 8) (oi := _) (v := ?_) rfl (by kernel_rfl) (by kernel_rfl) (by kernel_rfl) (fun _ _ _ h => h) (Or.inl ⟨by rfl, ?_⟩) hHeld ?_
  rotate_left
  focus (intro W hSw; obtain ⟨q1, q4⟩ := HCF.out W hSw; go_simp; try with_reducible rfl)
  try simp only [List.getElem_toArray, List.getElem_cons_zero, List.getElem_cons_succ, Act.put, List.setIfInBounds_toArray, List.set_cons_zero, List.set_cons_succ]
  refine wpAnyH_take (i := 9) (oi := _) (v := ?_) rfl (by kernel_rfl) (by kernel_rfl) (by kernel_rfl) (fun _ _ _ h => h) (Or.inl ⟨by rfl, ?_⟩) hHeld ?_
  rotate_left
  focus (intro W hSw; obtain ⟨q1, q4⟩ := HCF.out W hSw; go_simp; try with_reducible rfl)
  try simp only [List.getElem_toArray, List.getElem_cons_zero, List.getElem_cons_succ, Act.put, List.setIfInBounds_toArray, List.set_cons_zero, List.set_cons_succ]
  obtain ⟨wd, hwd⟩ : ∃ q, w.drew = q := ⟨_, rfl⟩
  have K_wd : Hid (Below w.heap.size w wd) := by rw [← hwd]; exact KD.out
  rw [hwd] at hHeld ⊢
  have HG0 := Lib.hid hHeld
  clear KD hwd
  refine wpAnyH_ready (rs := [5]) (by kernel_rfl) (by simp) ?_
  refine AllReadyH.cons (o := _) rfl (fun K hK => ?_) AllReadyH.nil
  go_simp
  refine (HCT.out _ K_wd.out).mono ?_
  rintro r wx ⟨rfl, rfl⟩
  refine hK.out _ _ HG0.out (fun hHeld => ?_)
  clear hK K
  try simp only [List.getElem_toArray, List.getElem_cons_zero, List.getElem_cons_succ, Act.put, List.setIfInBounds_toArray, List.set_cons_zero, List.set_cons_succ]
  refine wpAnyH_ready (rs := [10]) (by kernel_rfl) (by simp) ?_
  refine AllReadyH.cons (o := _) rfl (fun K hK => ?_) AllReadyH.nil
  go_simp
  refine (HLN.out _ K_wd.out).mono ?_
  rintro r wx ⟨rfl, rfl⟩
  refine hK.out _ _ HG0.out (fun hHeld => ?_)
  clear hK K
  try simp only [List.getElem_toArray, List.getElem_cons_zero, List.getElem_cons_succ, Act.put, List.setIfInBounds_toArray, List.set_cons_zero, List.set_cons_succ]
  refine wpAnyH_take (i := 11) (oi := _) (v := ?_) rfl (by kernel_rfl) (by kernel_rfl) (by kernel_rfl) (fun _ _ _ h => h) (Or.inl ⟨by rfl, ?_⟩) hHeld ?_
  rotate_left
  focus (intro W hSw; obtain ⟨q1, q4⟩ := HCF.out W hSw; go_simp; try with_reducible rfl)
  try simp only [List.getElem_toArray, List.getElem_cons_zero, List.getElem_cons_succ, Act.put, List.setIfInBounds_toArray, List.set_cons_zero, List.set_cons_succ]
  try rw [hwr]
  refine wpAnyH_ready (rs := [12]) (by kernel_rfl) (by simp) ?_
  refine AllReadyH.cons (o := _) rfl (fun K hK => ?_) AllReadyH.nil
  go_simp
  refine (HTN.out _ K_wd.out).mono ?_
  rintro r wy ⟨A1, c1, rfl, ho1, hc1, hg1⟩
  have HO1 := Lib.hid ho1
  have HC1 := Lib.hid hc1
  have HG1 : Hid (w.grownBy wy (some g)) := HG0.out.trans hg1
  have b1 : wy.cell? ⟨G, 1, none⟩ = some (.slice A0 n0 c0) := (HCF.out _ HG1.out).1
  clear ho1 hc1 hg1
  refine hK.out _ _ HG1.out (fun hHeld => ?_)
  clear hK K
  try simp only [List.getElem_toArray, List.getElem_cons_zero, List.getElem_cons_succ, Act.put, List.setIfInBounds_toArray, List.set_cons_zero, List.set_cons_succ]
  refine wpAnyH_take (i := 13) (oi := _) (v := ?_) rfl (by kernel_rfl) (by kernel_rfl) (by kernel_rfl) (fun _ _ _ h => h) (Or.inl ⟨by rfl, ?_⟩) hHeld ?_
  rotate_left
  focus (intro W hSw; obtain ⟨q1, q4⟩ := HCF.out W hSw; go_simp; try with_reducible rfl)
  try simp only [List.getElem_toArray, List.getElem_cons_zero, List.getElem_cons_succ, Act.put, List.setIfInBounds_toArray, List.set_cons_zero, List.set_cons_succ]
  refine wpAnyH_done (by kernel_rfl) ?_ _
  have hsg := HG1.out.size
  clear HTN HCT HLN HCF
  by_cases hcn : ns.length = cnt there
  · have HS := Lib.hid (spreadI_yes (w := wy) there (iv (ints ns)) (n := n0) (m := ns.length) (HTH.out wy HG1.out) ((Rd.of_own HO1.out).wide (Nat.zero_le _) (Nat.le_refl _)) HN0.out (by rw [iv_length, ints_length]) hcn (by omega) (fun v hv => by
      obtain ⟨z, _, rfl⟩ := List.mem_map.1 hv
      exact ⟨_, rfl⟩))
    clear hcn
    go_wp2_with fail
    refine HS.out.mono ?_
    rintro r w6 ⟨A6, c6, rfl, ho6, hb6⟩
    have HO6 := Lib.hid ho6
    have HB6 := Lib.hid hb6
    clear ho6 hb6 HS
    go_wp2_with fail
    go_ret
    exact ⟨_, _, _, rfl, HC1.out.behind HB6.out HC1.out.lt, HG1.out.trans (gb_below HB6.out), fun _ => ⟨HN0.out.symm, (Rd.of_own HO6.out).wide hsg (Nat.le_refl _)⟩⟩
  · have HS := Lib.hid (spreadI_no (w := wy) there (n := n0) (m := ns.length) (B := A1) (d := c1) (v := .int .i64 (-1)) (HTH.out wy HG1.out) HN0.out hcn)
    have HCN := Lib.hid hcn
    clear hcn
    go_wp2_with fail
    refine HS.out.mono ?_
    rintro r w' ⟨rfl, rfl⟩
    go_wp2_with fail
    go_ret
    exact ⟨_, _, _, rfl, HC1.out, HG1.out, fun h => absurd h HCN.out⟩
end Go.Proofs.YtmffpbhiehjlpaaGreat
