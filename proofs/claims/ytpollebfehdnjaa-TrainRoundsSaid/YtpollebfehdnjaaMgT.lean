/-
  The program's train: the best of what is counted.
  The program's train: Round and Train.
-/
import Derived.Test.YtpollebfehdnjaaMgA
import Derived.Test.YtpollebfehdnjaaMgG
import Derived.Test.YtpollebfehdnjaaSyE
import Derived.Test.YtpollebfehdnjaaStrA
import Derived.Maps.RangeWalk
import Derived.Test.YtpollebfehdnjaaTrT
import Derived.Test.YtpollebfehdnjaaTnR
import Derived.Carry
namespace Go.Proofs.Ytpollebfehdnjaa
set_option linter.unusedSimpArgs false
set_option linter.unusedVariables false
open Go.RowKit Go.Maps Go.WideMaps

theorem own2_at {w : World} {base c : Nat} {A : Option Addr} {es : List (ByteArray × Int)} (h : w.ownsRow base 52 2 (.slice A es.length c) es.length (gvs es)) {j : Nat} (hj : j < es.length) :
    ∃ b, A = some ⟨b, 0, none⟩ ∧ base ≤ b ∧ b < w.heap.size ∧ w.cell? ⟨b, j * 2, none⟩ = some (.string es[j].1) ∧ w.cell? ⟨b, j * 2 + 1, none⟩ = some (.int .i64 es[j].2) := by
  rcases h.2 with ⟨h1, h2⟩ | ⟨g, cap, cur, hv, hb, hg, _⟩
  · omega
  · injection hv with hv1 _ hv3
    subst hv1 hv3
    refine ⟨g, rfl, hb, (Array.getElem?_eq_some_iff.1 hg).1, ?_, ?_⟩
    · rw [h.cellAt (j * 2) (by omega)]
      have := gvs_get (es := es) (i := 0) hj (by omega)
      rw [Nat.add_zero] at this
      rw [this]
      rfl
    · rw [h.cellAt (j * 2 + 1) (by omega), gvs_get (es := es) (i := 1) hj (by omega)]
      rfl
theorem key_str {key : Value} {kl : Lit} (h : keyOf Try.prog 9 key = some kl) : ∃ x : ByteArray, key = .string x := by
  have hk := Try.underlying9
  cases key <;> simp [keyOf, hk, mapKey] at h
  exact ⟨_, rfl⟩
theorem key_lit {x : ByteArray} {kl : Lit} (h : keyOf Try.prog 9 (.string x) = some kl) : kl = .string x.data.toList := by
  have hk := Try.underlying9
  simp [keyOf, hk, mapKey] at h
  exact h.2.symm
theorem elem_int {v : Value} {y : DataW Unit × List MemPlace} (h : plainElem Try.prog 3 v = some y) : ∃ c : Int, v = .int .i64 c := by
  obtain ⟨c, rfl, _⟩ := plainElem_int_inv Try.underlying3 h
  exact ⟨c, rfl⟩

set_option maxRecDepth 20000 in
set_option maxHeartbeats 4000000 in
theorem best_any {w : World} {B n : Nat} {D : DataW Unit} {P : List (List UInt8)} (hm : MapB w B n D) (hD : Bag D P) (hP : P.length ≤ 100000000) (h8 : ∀ x ∈ P, x.length ≤ 8) :
    Calls Try.prog 27 #[.map (some B)] w fun r w' => ∃ t A' c', r = .returned (.slice A' t.length c') ∧ IsRound P t ∧ w'.ownsRow w.heap.size 9 1 (.slice A' t.length c') t.length (sv (strsL t)) ∧ Below w.heap.size w w' := by
  have hBw : B < w.heap.size := hm.lt
  have HM := Lib.hid hm
  have HD := Lib.hid hD
  have H8 := Lib.hid h8
  clear hm hD h8
  go_enter Try.func27, Try.ntmps27
  go_wp2_with (at_range; refine wpList_range_own _ rfl _ 42 rfl 9 3 Try.keyStr Try.underlying42 _ B n D rfl HM.out ?_; refine held ?_)
  refine ⟨?_⟩
  intro w0 hrg0 hg0 hs0
  have HB0 : Hid (Below w.heap.size w w0) := (Below.refl _ w).grown hg0 (Nat.le_refl _) (fun j hj => by cases hj)
  have HR0 := Lib.hid hrg0
  clear hrg0 hg0 hs0
  go_wp2_with fail
  go_loopw [3] (fun x3 wr => ∃ (left : Lit → Bool) (cnt : Nat) (es : List (ByteArray × Int)) (A' : Option Addr) (c' : Nat), x3 = .slice A' es.length c' ∧ wr.ranges Try.prog 9 (plainElem Try.prog 3) B w.heap.size n D left cnt ∧
    Coll P (fun x => left (.string x)) es ∧ (∀ x, left (.string x) = true → x ∈ P) ∧ wr.ownsRow w.heap.size 52 2 (.slice A' es.length c') es.length (gvs es) ∧ Below w.heap.size w wr) (fun _ wr => wr.rangeLeft B w.heap.size)
  case atStart =>
    refine ⟨_, _, [], none, 0, rfl, HR0.out, Coll.nil (fun x hx => ?_), fun x hx => ?_, World.ownsRow_nil _ _ _ _, HB0.out⟩
    · rw [HD.out.has x]
      exact decide_eq_true hx
    · rw [HD.out.has x] at hx
      exact of_decide_eq_true hx
  case round =>
    obtain ⟨left, cnt, es, A', c', rfl, hrg, hcoll, hlin, hown, hb⟩ := hrel
    have HRG := Lib.hid hrg
    have HCO := Lib.hid hcoll
    have HLI := Lib.hid hlin
    have HO := Lib.hid hown
    have HB := Lib.hid hb
    have hfew := hcoll.few
    clear hrg hcoll hlin hown hb
    go_wp2_with (at_next; refine wpList_next_ranges (α := ByteArray) (β := Int) _ rfl _ rfl 9 Try.keyStr _ Value.string (Value.int .i64) (fun _ _ h => key_str h) (fun _ _ h => elem_int h) B w.heap.size n D left cnt rfl HRG.out (fun h0 hl0 => ?_) (fun x c kl y w1 cnt1 hkey hl hRv hat hrg1 hlt hg1 hs1 hen => ?_); all_goals (refine held ?_))
    · refine ⟨?_⟩
      have HTOP := Lib.hid (HCO.out.top (fun x _ => hl0 _))
      have hsz := HB.out.size
      clear h0 hl0 HRG HCO HLI
      obtain ⟨L, hL⟩ : ∃ L, rankL es = L := ⟨_, rfl⟩
      rw [hL] at HTOP
      have hLl : L.length = es.length := by rw [← hL, rank_len]
      have HSO := Lib.hid (sortg_own es HO.out (by omega))
      rw [hL] at HSO
      have HLL := Lib.hid hLl
      clear hL hLl
      obtain ⟨m, hm1⟩ : ∃ m : Nat, m = min es.length 255 := ⟨_, rfl⟩
      have hmin : min ((es.length : Nat) : Int) 255 = (m : Int) := by omega
      have hm2 : m ≤ es.length := by omega
      have hm3 : m ≤ 255 := by omega
      have HTK : Hid ((L.take 255).map keyA = (L.take m).map keyA) := by
        unfold Hid
        have := HLL.out
        congr 1
        by_cases h : es.length ≤ 255
        · rw [List.take_of_length_le (by omega), List.take_of_length_le (by omega)]
        · rw [show m = 255 by omega]
      clear hm1
      obtain ⟨A5, c5, he5, hc5, hc6⟩ := own_form wr HO.out
      injection he5 with he5 _ he6
      subst he5 he6
      go_wp2_with fail
      refine HSO.out.mono ?_
      rintro r w1 ⟨rfl, ho1, hg1⟩
      have HB1 : Hid (Below w.heap.size w w1) := HB.out.grown hg1 hsz (fun q hq => (own_lt HO.out hq).1)
      have hz1 := HB1.out.size
      rw [← HLL.out] at ho1
      have HO1 := Lib.hid ho1
      clear ho1 hg1
      obtain ⟨N, hN⟩ : ∃ N : List ByteArray, (L.take m).map (fun e => e.1) = N := ⟨_, rfl⟩
      have hNl : N.length = m := by rw [← hN, List.length_map, List.length_take]; have := HLL.out; omega
      have HNK : Hid (∀ k (hk : k < m) (hk2 : k < N.length) (hk3 : k < L.length), N[k] = L[k].1) := fun k hk hk2 hk3 => by
        subst hN
        simp
      have HNB : Hid (bytL2 N = (L.take m).map keyA) := by
        unfold Hid
        rw [← hN]
        unfold bytL2
        rw [List.map_map]
        rfl
      have HNL := Lib.hid hNl
      clear hN hNl
      have hm4 : (m : Int) ≤ 255 := by omega
      go_wp2_with fail
      go_loopw [6, 33] (fun x6 x33 wr => ∃ (k : Nat) (A2 : Option Addr) (c2 : Nat), k ≤ m ∧ x33 = .int .i64 (k : Int) ∧ x6 = .slice A2 k c2 ∧ wr.ownsRow w1.heap.size 9 1 (.slice A2 k c2) k (sv (N.take k)) ∧ Below w1.heap.size w1 wr) (fun _ x33 _ => m - (intOf x33).toNat)
      case atStart => exact ⟨0, none, 0, Nat.zero_le _, rfl, rfl, World.ownsRow_nil _ _ _ _, Below.refl _ _⟩
      case round =>
        obtain ⟨k, A2, c2, hk, rfl, rfl, hown, hb⟩ := hrel
        have HO2 := Lib.hid hown
        have HB2 := Lib.hid hb
        have hz2 := hb.size
        clear hown hb
        by_cases hlt : k < m
        · have hkL : k < L.length := by have := HLL.out; omega
          have hkN : k < N.length := by have := HNL.out; omega
          obtain ⟨b, rfl, _, _, hcell, hcell2⟩ := own2_at (own_below HO1.out HB2.out (Nat.le_refl _)) hkL
          have HE : Hid (N[k] = L[k].1) := HNK.out k hlt hkN hkL
          obtain ⟨s, hs⟩ : ∃ s, L[k].1 = s := ⟨_, rfl⟩
          obtain ⟨g, hg⟩ : ∃ g, L[k].2 = g := ⟨_, rfl⟩
          rw [hs] at hcell HE
          rw [hg] at hcell2
          clear hs hg
          have HKL : Hid ((N.take k).length = k) := by unfold Hid; rw [List.length_take]; omega
          have HTK2 : Hid (N.take (k + 1) = N.take k ++ [s]) := by
            unfold Hid
            rw [List.take_succ_eq_append_getElem hkN, HE.out]
          go_wp2_with (at_builtin; refine wpList_push_str (v := .slice A2 k c2) w1.heap.size (N.take k) s rfl _ _ rfl rfl rfl rfl (by rw [World.cell?_alloc_at _ _ _ _ (by simp)]; rfl) (by rw [HKL.out]; exact (HO2.out.alloc _).alloc _) (by rw [HKL.out]; omega) (by simp; omega) ?_; intro A3 c3 w3 ho3 hg3)
          have HO3 := Lib.hid ho3
          have HB3 : Hid (Below w1.heap.size w1 w3) := ((HB2.out.alloc hz2 _).alloc (by simp; omega) _).grown hg3 (by simp; omega) (fun q hq => (own_lt HO2.out hq).1)
          clear ho3 hg3
          go_roundw
          case rel =>
            refine ⟨k + 1, A3, c3, by omega, by go_num, by rw [show min k N.length = k by omega], ?_, HB3.out⟩
            have := HO3.out
            rw [List.length_append, HKL.out] at this
            rw [HTK2.out]
            exact this
          case measure => simp [intOf]; omega
        · obtain rfl : k = m := by omega
          have HNT : Hid (N.take k = N) := List.take_of_length_le (by have := HNL.out; omega)
          have ho9 := HO2.out
          rw [HNT.out] at ho9
          have hsz9 : ∀ s ∈ N, s.size ≤ 9223372036854775807 := fun s hs => by
            have h1 : s.data.toList ∈ bytL2 N := List.mem_map.2 ⟨s, hs, rfl⟩
            rw [HNB.out, ← HTK.out] at h1
            have h2 := H8.out _ (HTOP.out.of _ h1)
            rw [lenS] at h2
            omega
          have HOR := Lib.hid (sorder_any (w := wr) N (A := A2) (c := c2) (by rw [HNL.out] at *; exact (Rd.own ho9).wide (Nat.zero_le _) (Nat.le_refl _)) (by rw [HNL.out]; omega) hsz9)
          rw [HNL.out] at HOR
          have HIS : Hid (IsRound P (ordL (bytL2 N))) := ⟨_, HTOP.out, by rw [HTK.out, ← HNB.out]; exact ordL_is _⟩
          generalize ordL (bytL2 N) = t at *
          clear ho9 hsz9
          go_wp2_with fail
          refine HOR.out.mono ?_
          rintro r w4 ⟨A4, c4, rfl, ho4, hb4⟩
          have HO4 := Lib.hid (own_base ho4 (show w.heap.size ≤ wr.heap.size by omega))
          have HB4 : Hid (Below w.heap.size w w4) := HB1.out.trans ((HB2.out.mono hz1).trans (hb4.mono (by omega)))
          clear ho4 hb4
          go_wp2_with fail
          go_ret
          exact ⟨t, A4, c4, rfl, HIS.out, HO4.out, HB4.out⟩
    · refine ⟨?_⟩
      obtain rfl := key_lit hkey
      obtain ⟨c2, e1, e2, _⟩ := plainElem_int_inv Try.underlying3 hRv
      injection e1 with _ e1
      subst e1 e2
      have hc := HD.out.count (hat (zi 0))
      have hxP := HLI.out _ hl
      have hx8 : x.size ≤ 8 := by rw [← lenS]; exact H8.out _ hxP
      have hgain : gainL P x.data.toList = P.count x.data.toList * x.size := by rw [gainL, lenS]
      have hcl : P.count x.data.toList ≤ P.length := List.count_le_length
      generalize P.count x.data.toList = q at *
      subst hc
      obtain ⟨G, hG⟩ : ∃ G, q * x.size = G := ⟨_, rfl⟩
      rw [hG] at hgain
      have hG8 : G ≤ P.length * 8 := by rw [← hG]; exact Nat.mul_le_mul hcl hx8
      have hv : Value.int .i64 (wrap64 ((q : Int) * (x.size : Int))) = .int .i64 (G : Int) := by
        rw [← hG]
        push_cast
        rw [IntWalk.wrap64_in]
        have : ((q * x.size : Nat) : Int) = (q : Int) * (x.size : Int) := by push_cast; rfl
        omega
      have HCO2 : Hid (Coll P (fun z => left (.string z) && !(Lit.string z).sameKey (.string x.data.toList)) (es ++ [(x, (G : Int))])) :=
        HCO.out.snoc (e := (x, (G : Int))) hxP hl (by show (G : Int) = _; rw [show keyA (x, (G : Int)) = x.data.toList from rfl, hgain]) (fun z => by
          show _ = (left (.string z) && !decide (z = x.data.toList))
          congr 2
          by_cases hz : z = x.data.toList
          · subst hz
            rw [WideAt.sameKey_self (show WideAt.IsKeyLit (Lit.string x.data.toList) from trivial)]
            simp
          · rw [Maps.sameKey_ne (fun e => hz (by injection e)), decide_eq_false hz])
      have HLI2 : Hid (∀ z, (left (.string z) && !(Lit.string z).sameKey (.string x.data.toList)) = true → z ∈ P) := fun z hz => HLI.out z (by rw [Bool.and_eq_true] at hz; exact hz.1)
      have hne : some w.heap.size ≠ (Value.slice A' es.length c').ownBlock := row_ne_iter HO.out HRG.out
      have HO1 : Hid (w1.ownsRow w.heap.size 52 2 (.slice A' es.length c') es.length (gvs es)) := own_keep HO.out (fun k hk => hg1.block k (own_lt HO.out hk).2 (fun e => hne (by rw [← e, hk])))
      have HB1 : Hid (Below w.heap.size w w1) := HB.out.grown hg1 HB.out.size (fun j hj => by cases hj; exact Nat.le_refl _)
      have HRG1 := Lib.hid hrg1
      have HLT := Lib.hid hlt
      have HEN := hen
      have hz1 := HB1.out.size
      have hne2 := Lib.hid hne
      clear hkey hl hRv hat hrg1 hlt hg1 hs1 hxP hgain hG hne hen
      go_wp2_with (refine wpList_buildGain (x, (G : Int)) rfl _ rfl rfl ?_; refine held ?_)
      refine ⟨?_⟩
      go_wp2_with (at_builtin; refine wpList_push_gain (v := .slice A' es.length c') w.heap.size es (x, (G : Int)) rfl _ _ rfl rfl rfl rfl (fun j u hu => ?_) (HO1.out.alloc _) (by omega) (by simp; omega) (fun A2 c2 w2 ho2 hg2 _ => ?_); all_goals (refine held ?_))
      · refine ⟨?_⟩
        rw [World.cell?_alloc_at _ _ _ _ rfl]
        simpa using hu
      · refine ⟨?_⟩
        have HRG2 := Lib.hid ((HRG1.out.alloc (.cells (gv (x, (G : Int))).toArray 52)).kept hg2 (row_ne_low (HO1.out.alloc (.cells (gv (x, (G : Int))).toArray 52)) hBw) (row_ne_iter (HO1.out.alloc (.cells (gv (x, (G : Int))).toArray 52)) (HRG1.out.alloc (.cells (gv (x, (G : Int))).toArray 52))))
        have HO2 := Lib.hid ho2
        have HB2 : Hid (Below w.heap.size w w2) := (HB1.out.alloc hz1 _).grown hg2 (by simp; omega) (fun q hq => (own_lt HO1.out hq).1)
        clear ho2 hg2
        go_wp2_with fail
        go_roundw
        case rel => exact ⟨_, _, es ++ [(x, (G : Int))], A2, c2, by rw [List.length_append]; rfl, HRG2.out, HCO2.out, HLI2.out, HO2.out, HB2.out⟩
        case measure =>
          rw [HRG2.out.left_eq, HRG.out.left_eq]
          exact HLT.out
end Go.Proofs.Ytpollebfehdnjaa
namespace Go.Proofs.Ytpollebfehdnjaa
set_option linter.unusedSimpArgs false
set_option linter.unusedVariables false
open Go.RowKit Go.Maps Go.WideMaps

theorem bag_snoc (T : List (List UInt8)) {S : List (List UInt8)} {k : Nat} (hk : k < S.length) : bagL T (S.take (k + 1)) = bagL T (S.take k) ++ piecesL T [] S[k] := by
  unfold bagL
  rw [List.take_succ_eq_append_getElem hk, List.flatMap_append, List.flatMap_singleton]
theorem bag_take (T : List (List UInt8)) {S : List (List UInt8)} (h : ∀ s ∈ S, s.length ≤ 100000) : ∀ k, k ≤ S.length → (bagL T (S.take k)).length ≤ 200000 * k
  | 0, _ => by simp [bagL]
  | k + 1, hk => by
    have := bag_take T h k (by omega)
    have h2 := pieces_len T S[k] []
    have h3 := h _ (List.getElem_mem (show k < S.length by omega))
    rw [bag_snoc T (by omega), List.length_append]
    omega

set_option maxRecDepth 20000 in
set_option maxHeartbeats 2000000 in
theorem round_any {w : World} (T S : List ByteArray) {c d : Nat} {A B : Option Addr} (h : Rd w 0 w.heap.size A c (sv T)) (hr : rightT (bytL2 T) = true) (hS : Rd w 0 w.heap.size B d (sv S)) (hSl : S.length ≤ 400) (hSb : ∀ s ∈ S, s.size ≤ 100000) :
    Calls Try.prog 16 #[.slice A T.length c, .slice B S.length d] w fun r w' => ∃ t A' c', r = .returned (.slice A' t.length c') ∧ IsRound (bagL (bytL2 T) (bytL2 S)) t ∧ w'.ownsRow w.heap.size 9 1 (.slice A' t.length c') t.length (sv (strsL t)) ∧ Below w.heap.size w w' := by
  have H := Lib.hid h
  have HR := Lib.hid hr
  have HS := Lib.hid hS
  have hl2 := hS.len
  have hm2 := hS.cap
  rw [sv_length] at hl2
  unfold maxLen at hm2
  have HSB : Hid (∀ k (hk : k < S.length), S[k].size ≤ 100000) := fun k hk => hSb _ (List.getElem_mem hk)
  have HBL : Hid ((bytL2 S).length = S.length) := bytL2_length S
  have HBG : Hid (∀ k, k ≤ S.length → (bagL (bytL2 T) ((bytL2 S).take k)).length ≤ 200000 * k) := fun k hk => bag_take _ (fun s hs => by
    obtain ⟨u, hu, rfl⟩ := List.mem_map.1 hs
    rw [lenS]
    exact hSb u hu) k (by rw [HBL.out]; exact hk)
  have HOK : Hid (∀ x ∈ bagL (bytL2 T) (bytL2 S), x.length ≤ 8) := fun x hx => bag_ok (rightT_iff.1 hr).2.1 hx
  clear h hr hS hSb
  have hmm := @run_makeMap Try.prog
  go_enter Try.func16, Try.ntmps16
  go_wp2_with fail
  go_loopw [11] (fun x11 wr => ∃ (k n1 : Nat) (D1 : DataW Unit), k ≤ S.length ∧ x11 = .int .i64 (k : Int) ∧ MapB wr w.heap.size n1 D1 ∧ n1 ≤ 200000 * k ∧ Bag D1 (bagL (bytL2 T) ((bytL2 S).take k)) ∧ Below w.heap.size w wr) (fun i _ => S.length - (intOf i).toNat)
  case atStart => exact ⟨0, 0, .map [], Nat.zero_le _, rfl, World.ownsMap_made _ _ _ _, Nat.zero_le _, Bag.nil, (Below.refl _ _).alloc (Nat.le_refl _) _⟩
  case round =>
    obtain ⟨k, n1, D1, hk, rfl, hm1, hn1, hd1, hb⟩ := hrel
    have HM := Lib.hid hm1
    have HD := Lib.hid hd1
    have HB := Lib.hid hb
    have hsz := hb.size
    clear hm1 hd1 hb hmm
    by_cases hlt : k < S.length
    · obtain ⟨b, off, rfl, -, -, hcell⟩ := (HS.out.below HB.out (Nat.le_refl _)).str hlt
      have hs1 := HSB.out k hlt
      have HPC : Hid (bagL (bytL2 T) ((bytL2 S).take (k + 1)) = bagL (bytL2 T) ((bytL2 S).take k) ++ piecesL (bytL2 T) [] S[k].data.toList) := by
        unfold Hid
        rw [bag_snoc _ (by rw [HBL.out]; exact hlt)]
        unfold bytL2
        rw [List.getElem_map]
      have hq := HBG.out k hk
      have HCN := Lib.hid (count_any (w := wr) T S[k] (H.out.below HB.out (Nat.le_refl _)) HR.out (by omega) HM.out HD.out (by omega) (by omega) (Nat.le_refl _) hsz)
      rw [← HPC.out] at HCN
      generalize S[k] = s at *
      go_wp2_with fail
      refine HCN.out.mono ?_
      rintro r w2 ⟨rfl, n2, D2, hm2, hn2, hd2, ho2⟩
      have HM2 := Lib.hid hm2
      have HD2 := Lib.hid hd2
      have HB2 : Hid (Below w.heap.size w w2) := HB.out.trans (ho2.below hsz (fun k hk => by rw [hk]; exact Nat.le_refl _))
      clear hm2 hd2 ho2
      go_wp2_with fail
      go_roundw
      case rel => exact ⟨k + 1, n2, D2, by omega, by go_num, HM2.out, by omega, HD2.out, HB2.out⟩
      case measure => simp [intOf]; omega
    · obtain rfl : k = S.length := by omega
      have HT : Hid ((bytL2 S).take S.length = bytL2 S) := List.take_of_length_le (by rw [HBL.out]; exact Nat.le_refl _)
      have hq := HBG.out _ hk
      have HBS := Lib.hid (best_any (w := wr) HM.out HD.out (by omega) (by rw [HT.out]; exact HOK.out))
      rw [HT.out] at HBS
      go_wp2_with fail
      refine HBS.out.mono ?_
      rintro r w2 ⟨t, A2, c2, rfl, hrd, ho2, hb2⟩
      have HRD := Lib.hid hrd
      have HO2 := Lib.hid (own_base ho2 hsz)
      have HB2 := Lib.hid (below_below HB.out hb2 hsz)
      clear hrd ho2 hb2
      go_wp2_with fail
      go_ret
      exact ⟨t, A2, c2, rfl, HRD.out, HO2.out, HB2.out⟩

theorem Trained.right {S : List (List UInt8)} : ∀ {k : Nat} {t : List (List UInt8)}, Trained S k t → rightT t = true
  | 0, t, h => by
    obtain rfl : t = [] := h
    rfl
  | k + 1, t, ⟨u, _, b, _, h⟩ => h.right

set_option maxRecDepth 20000 in
set_option maxHeartbeats 1000000 in
theorem train_any {w : World} (S : List ByteArray) (N : Int) {d : Nat} {B : Option Addr} (hS : Rd w 0 w.heap.size B d (sv S)) (hSl : S.length ≤ 400) (hSb : ∀ s ∈ S, s.size ≤ 100000) (hN : -9223372036854775808 ≤ N ∧ N ≤ 9223372036854775807) :
    Calls Try.prog 18 #[.slice B S.length d, .int .i64 N] w fun r w' => ∃ t A' c', r = .returned (.slice A' t.length c') ∧ Trained (bytL2 S) (roundsN N) t ∧ w'.ownsRow w.heap.size 9 1 (.slice A' t.length c') t.length (sv (strsL t)) ∧ Below w.heap.size w w' := by
  have HS := Lib.hid hS
  have HSB := Lib.hid hSb
  clear hS hSb
  obtain ⟨R, hR⟩ : ∃ R, roundsN N = R := ⟨_, rfl⟩
  rw [hR]
  obtain ⟨M, hM⟩ : ∃ M : Int, min N 8 = M := ⟨_, rfl⟩
  have hMR : M ≤ 0 ∧ R = 0 ∨ M = (R : Int) ∧ R ≤ 8 := by
    rw [← hR]
    unfold roundsN
    split <;> omega
  have hM2 : M ≤ 8 := by omega
  clear hR
  go_enter Try.func18, Try.ntmps18
  go_wp2_with fail
  go_loopw [5, 8] (fun x5 x8 wr => ∃ (i : Nat) (t : List (List UInt8)) (A' : Option Addr) (c' : Nat), i ≤ R ∧ x8 = .int .i64 (i : Int) ∧ x5 = .slice A' t.length c' ∧ Trained (bytL2 S) i t ∧ wr.ownsRow w.heap.size 9 1 (.slice A' t.length c') t.length (sv (strsL t)) ∧ Below w.heap.size w wr) (fun _ x8 _ => 8 - (intOf x8).toNat)
  case atStart => exact ⟨0, [], none, 0, Nat.zero_le _, rfl, rfl, rfl, World.ownsRow_nil _ _ _ _, Below.refl _ _⟩
  case round =>
    obtain ⟨i, t, A', c', hi, rfl, rfl, htr, hown, hb⟩ := hrel
    have HT := Lib.hid htr
    have HO := Lib.hid hown
    have HB := Lib.hid hb
    have hsz := hb.size
    clear htr hown hb
    by_cases hiM : (i : Int) < M
    · have hgo : i + 1 ≤ R := by omega
      have hi8 : i < 8 := by omega
      have hr1 := (Rd.own HO.out).wide (Nat.zero_le _) (Nat.le_refl _)
      have hbt := bytL2_strsL t
      have hsl := strsL_length t
      have HRN := Lib.hid (round_any (w := wr) (strsL t) S (c := c') (d := d) (A := A') (B := B) hr1 (by rw [hbt]; exact HT.out.right) ((HS.out.below HB.out (Nat.le_refl _)).wide (Nat.le_refl _) hsz) hSl HSB.out)
      rw [hbt, hsl] at HRN
      clear hr1 hbt hsl hi
      go_wp2_with fail
      refine HRN.out.mono ?_
      rintro r w2 ⟨u, A2, c2, rfl, hrd, ho2, hb2⟩
      have HT2 : Hid (Trained (bytL2 S) (i + 1) u) := ⟨t, HT.out, hrd⟩
      have HO2 := Lib.hid (own_base ho2 hsz)
      have HB2 : Hid (Below w.heap.size w w2) := HB.out.trans (hb2.mono hsz)
      clear hrd ho2 hb2
      go_wp2_with fail
      go_roundw
      case rel => exact ⟨i + 1, u, A2, c2, hgo, by go_num, rfl, HT2.out, HO2.out, HB2.out⟩
      case measure => simp [intOf] <;> omega
    · have hfin : Hid (i = R) := by unfold Hid; omega
      go_wp2_with fail
      go_ret
      exact ⟨t, A', c', rfl, by rw [← hfin.out]; exact HT.out, HO.out, HB.out⟩
end Go.Proofs.Ytpollebfehdnjaa
