/-
  The chunk package: At, All, Raw, Coded, Dict.
  The statements' awake of layer 17.
-/
import Derived.Test.YtmffpbhiehjlpaaGreatZ40
import Derived.Test.YtmffpbhiehjlpaaGreatZ24
import Derived.Test.YtmffpbhiehjlpaaGreatZ35
import Derived.Test.YtmffpbhiehjlpaaGreatZ31
import Derived.Test.YtmffpbhiehjlpaaGreatZ32
import Derived.Test.YtmffpbhiehjlpaaGreatZ03
import Derived.Outline
namespace Go.Proofs.YtmffpbhiehjlpaaGreat
set_option linter.unusedSimpArgs false
set_option linter.unusedVariables false
open Go.RowKit
theorem put2 {w : World} {g : Nat} {t : TypeId} {a0 a1 : Value} (b0 b1 : Value) (h : Blk w g t #[a0, a1]) : Blk ((w.setCell ⟨g, 0, none⟩ b0).setCell ⟨g, 1, none⟩ b1) g t #[b0, b1] := by
  have := (h.put 0 b0).put 1 b1
  simpa using this
theorem below2 {a w : World} {B g : Nat} (b0 b1 : Value) (h : Below B a w) (hg : B ≤ g) : Below B a ((w.setCell ⟨g, 0, none⟩ b0).setCell ⟨g, 1, none⟩ b1) :=
  (h.setCell (p := ⟨g, 0, none⟩) hg _).setCell (p := ⟨g, 1, none⟩) hg _
theorem build_val1 (W : World) (b : Bool) : (Instr.build 55 #[(0, .bool b)]).run Tryz.prog W = .ok (.agg #[.bool b, .string ⟨#[]⟩]) W := by cases b <;> exact run_build W _ _ _ (by kernel_rfl)
theorem build_val2 (W : World) (s : ByteArray) : (Instr.build 55 #[(1, .string s)]).run Tryz.prog W = .ok (.agg #[.bool false, .string s]) W := run_build W _ _ _ (by kernel_rfl)
set_option maxRecDepth 20000 in
set_option maxHeartbeats 4000000 in
theorem at_none {w : World} {lo G : Nat} {c : Chk} (h : ChkM w lo G c) (z : Int) (hz : (z < 0 ∨ (c.there.length : Int) ≤ z) ∨ ∃ k : Nat, z = (k : Int) ∧ c.there[k]? = some false) :
    Calls Tryz.prog 26 #[.pointer (some ⟨G, 0, none⟩), .int .i64 z] w fun r w' => r = .returned (.agg #[.bool true, .string ⟨#[]⟩]) ∧ Below w.heap.size w w' := by
  obtain ⟨w1, hw1⟩ : ∃ w1, w.alloc (.cells #[.bool false, .string ⟨#[]⟩] 55) = w1 := ⟨_, rfl⟩
  have hb1 : Below w.heap.size w w1 := by rw [← hw1]; exact (Below.refl _ _).alloc (Nat.le_refl _) _
  have hx : Blk w1 w.heap.size 55 #[.bool false, .string ⟨#[]⟩] := by rw [← hw1]; exact Blk.new w _ _
  have h1 := h.below hb1
  have HH : Hid (Calls Tryz.prog 54 #[.pointer (some ⟨G, 0, none⟩), .int .i64 z] w1 fun r w' => r = .returned (.bool false) ∧ w1 = w') := by
    unfold Hid
    rcases hz with hz | ⟨k, rfl, hk⟩
    · exact has_out h1 z hz
    · exact has_in h1 hk
  have HX := Lib.hid hx
  have HB1 := Lib.hid hb1
  have x0 := hx.cell 0
  have x1 := hx.cell 1
  have f0 := hx.frozen 0
  have f1 := hx.frozen 1
  simp only [List.getElem?_toArray, List.getElem?_cons_zero, List.getElem?_cons_succ] at x0 x1
  have hbv := fun W => build_val1 W true
  clear h hz h1 hb1 hx
  go_enter Tryz.func26, Tryz.ntmps26
  go_wp2_with fail
  refine HH.out.mono ?_
  rintro r w' ⟨rfl, rfl⟩
  clear hw1
  go_wp2_with fail
  have hr3 := put2 (.bool true) (.string ⟨#[]⟩) HX.out
  refine bodyPost_ret (v := .agg #[.bool true, .string ⟨#[]⟩]) ?_ rfl ⟨rfl, below2 _ _ HB1.out (Nat.le_refl _)⟩
  exact results_cell_row rfl _ _ w.heap.size 55 #[.bool true, .string ⟨#[]⟩] (0, 0) _ rfl hr3 Tryz.underlying55 rfl (by kernel_rfl)
set_option maxRecDepth 20000 in
set_option maxHeartbeats 4000000 in
theorem at_some {w : World} {lo G : Nat} {c : Chk} (h : ChkM w lo G c) (ho : ChkOk c) {k : Nat} (hk : c.there[k]? = some true) {s : ByteArray} (hs : (valsC c)[k]? = some ⟨false, s⟩) :
    Calls Tryz.prog 26 #[.pointer (some ⟨G, 0, none⟩), .int .i64 (k : Int)] w fun r w' => r = .returned (.agg #[.bool false, .string s]) ∧ Below w.heap.size w w' := by
  obtain ⟨w1, hw1⟩ : ∃ w1, w.alloc (.cells #[.bool false, .string ⟨#[]⟩] 55) = w1 := ⟨_, rfl⟩
  have hb1 : Below w.heap.size w w1 := by rw [← hw1]; exact (Below.refl _ _).alloc (Nat.le_refl _) _
  have hx : Blk w1 w.heap.size 55 #[.bool false, .string ⟨#[]⟩] := by rw [← hw1]; exact Blk.new w _ _
  have hs1 : w.heap.size < w1.heap.size := by rw [← hw1]; simp
  have h1 := h.below hb1
  have HH := Lib.hid (has_in h1 hk)
  have HT := Lib.hid (text_v h1 ho hk hs)
  have HX := Lib.hid hx
  have HB1 := Lib.hid hb1
  have hbv := fun W => build_val2 W s
  clear h h1 hb1 hx hk hs ho
  go_enter Tryz.func26, Tryz.ntmps26
  go_wp2_with fail
  refine HH.out.mono ?_
  rintro r w' ⟨rfl, rfl⟩
  go_wp2_with fail
  refine HT.out.mono ?_
  rintro r w2 ⟨rfl, hb2⟩
  have hx2 := HX.out.below hb2 hs1
  have HX2 := Lib.hid hx2
  have HB2 := Lib.hid (HB1.out.trans (hb2.mono (by omega)))
  have x0 := hx2.cell 0
  have x1 := hx2.cell 1
  have f0 := hx2.frozen 0
  have f1 := hx2.frozen 1
  simp only [List.getElem?_toArray, List.getElem?_cons_zero, List.getElem?_cons_succ] at x0 x1
  clear hw1 hb2 hx2
  go_wp2_with fail
  have hr3 := put2 (.bool false) (.string s) HX2.out
  refine bodyPost_ret (v := .agg #[.bool false, .string s]) ?_ rfl ⟨rfl, below2 _ _ HB2.out (Nat.le_refl _)⟩
  exact results_cell_row rfl _ _ w.heap.size 55 #[.bool false, .string s] (0, 0) _ rfl hr3 Tryz.underlying55 rfl (by kernel_rfl)
theorem at_v {w : World} {lo G : Nat} {c : Chk} (h : ChkM w lo G c) (ho : ChkOk c ∨ c = Chk.none) {k : Nat} {v : Vl} (hv : (valsC c)[k]? = some v) :
    Calls Tryz.prog 26 #[.pointer (some ⟨G, 0, none⟩), .int .i64 (k : Int)] w fun r w' => r = .returned (.agg #[.bool v.null, .string v.s]) ∧ Below w.heap.size w w' := by
  have hlt : k < (valsC c).length := (List.getElem?_eq_some_iff.1 hv).1
  rw [valsC_length] at hlt
  rcases ho with ho | rfl
  · have hk : c.there[k]? = some c.there[k] := List.getElem?_eq_getElem hlt
    cases hb : c.there[k] with
    | true =>
      rw [hb] at hk
      obtain ⟨j, hj, _, h2⟩ := vals_at ho hk
      rw [hv] at h2
      obtain rfl := Option.some.inj h2
      exact at_some h ho hk hv
    | false =>
      rw [hb] at hk
      have h2 := vals_not (c := c) hk
      rw [hv] at h2
      obtain rfl := Option.some.inj h2
      exact at_none h _ (.inr ⟨k, rfl, hk⟩)
  · exact absurd hlt (Nat.not_lt_zero k)
def vv (l : List Vl) : List Value := l.flatMap vlVals
theorem vv_length : ∀ l : List Vl, (vv l).length = l.length * 2
  | [] => rfl
  | v :: l => by
    have := vv_length l
    simp only [vv, List.flatMap_cons, List.length_append, List.length_cons, vlVals, List.length_nil] at *
    omega
theorem vv_get : ∀ (l : List Vl) (j i : Nat), i < 2 → (vv l)[j * 2 + i]? = (l[j]?).bind fun v => (vlVals v)[i]?
  | [], j, i, hi => by simp [vv]
  | v :: l, 0, i, hi => by
    match i, hi with
    | 0, _ => rfl
    | 1, _ => rfl
  | v :: l, j + 1, i, hi => by
    have := vv_get l j i hi
    rw [show (j + 1) * 2 + i = j * 2 + i + 1 + 1 by omega]
    simpa [vv, vlVals] using this
theorem Tryz.infoVal : (Tryz.prog.info? 55).map (fun i => (i.zero, i.size, i.bytes)) = some (some (.agg #[.bool false, .string ⟨#[]⟩]), 2, 24) := by kernel_rfl
theorem make_vals (w : World) (n : Nat) (h : n ≤ 4294967295) : ∃ w1 xs, (Instr.makeSlice 22 (.int .i64 (n : Int)) (.int .i64 (n : Int))).run Tryz.prog w = .ok (.slice (some ⟨w.heap.size, 0, none⟩) n n) w1 ∧
    w1.ownsRow w.heap.size 55 2 (.slice (some ⟨w.heap.size, 0, none⟩) n n) n xs ∧ w.grownBy w1 none := by
  obtain ⟨i0, hi0, hz0, hz1, hz2⟩ := info_parts Tryz.infoVal
  obtain ⟨w1, h1, h2, h3⟩ := run_make_full (P := Tryz.prog) w w.heap.size 22 55 i0 _ 2 Tryz.underlying22 hi0 hz0 hz1 .i64 .i64 n (by rw [hz2]; omega) (by simp only [maxLen]; omega) (Nat.le_refl _)
  exact ⟨w1, _, h1, h2, h3⟩
theorem row_own {w : World} {base n c : Nat} {A : Option Addr} {l : List Vl} (h : w.ownsRow base 55 2 (.slice A n c) n (vv l)) (hn : l.length = n) (hs : ∀ v ∈ l, v.s.size ≤ 9223372036854775807) : Row w base w.heap.size A c l := by
  subst hn
  refine ⟨?_, hs⟩
  rcases h.2 with ⟨hv, h0⟩ | ⟨g, cap, cur, hv, hb, hg, hnc, hcm, hcs, htake⟩
  · injection hv with e1 e2 e3
    subst e1 e3
    exact ⟨by omega, by simp [maxLen], fun hp => by omega⟩
  · injection hv with e1 e2 e3
    subst e1 e3
    refine ⟨hnc, hcm, fun _ => ⟨g, 0, rfl, hb, (Array.getElem?_eq_some_iff.1 hg).1, fun j hj i hi => ?_⟩⟩
    have hlt : j * 2 + i < l.length * 2 := by omega
    have h5 : cur.toList[j * 2 + i]? = (vv l)[j * 2 + i]? := by rw [← htake, List.getElem?_take, if_pos hlt]
    rw [Nat.zero_add, cell_of_row w g (j * 2 + i) cur _ (0, 0) hg, ← Array.getElem?_toList, h5, vv_get l j i hi]
set_option maxRecDepth 20000 in
set_option maxHeartbeats 4000000 in
theorem all_v {w : World} {lo G : Nat} {c : Chk} (h : ChkM w lo G c) (ho : ChkOk c ∨ c = Chk.none) :
    Calls Tryz.prog 24 #[.pointer (some ⟨G, 0, none⟩)] w fun r w' => ∃ A' c', r = .returned (.slice A' (valsC c).length c') ∧ Row w' w.heap.size w'.heap.size A' c' (valsC c) ∧ Below w.heap.size w w' ∧ ∃ g, A' = some ⟨g, 0, none⟩ ∧ w'.ownsRow w.heap.size 55 2 (.slice A' (valsC c).length c') (valsC c).length (vv (valsC c)) := by
  have HL := Lib.hid (len_v h)
  have hlen : c.there.length ≤ 4096 := by
    rcases ho with ho | rfl
    · exact ho.few
    · exact Nat.zero_le _
  have HSZ : Hid (∀ v ∈ valsC c, v.s.size ≤ 9223372036854775807) := fun v hv => by
    rcases ho with h1 | rfl
    · exact Nat.le_trans (vals_size h1 v hv) (by omega)
    · cases hv
  obtain ⟨n, hn⟩ : ∃ n, c.there.length = n := ⟨_, rfl⟩
  have hvn : (valsC c).length = n := by rw [valsC_length, hn]
  have HVN := Lib.hid hvn
  rw [hvn]
  rw [hn] at HL hlen
  obtain ⟨w1, xs0, hmake, ho1, hg1⟩ := make_vals w n (by omega)
  have HO1 := Lib.hid ho1
  have HB1 := Lib.hid (below_of_gb (Nat.le_refl _) hg1 (fun g hg => by cases hg))
  have HX0 : Hid (xs0.length = n * 2) := ho1.1
  have HA : Hid (∀ (W : World) (k : Nat) (v : Vl), Below w.heap.size w W → (valsC c)[k]? = some v → Calls Tryz.prog 26 #[.pointer (some ⟨G, 0, none⟩), .int .i64 (k : Int)] W fun r w' => r = .returned (.agg #[.bool v.null, .string v.s]) ∧ Below W.heap.size W w') := fun W k v hW hv => at_v (h.below hW) ho hv
  generalize valsC c = L at *
  clear h ho ho1 hg1 hn hvn
  go_enter Tryz.func24, Tryz.ntmps24
  go_wp2_with fail
  refine HL.out.mono ?_
  rintro r w' ⟨rfl, rfl⟩
  go_wp2_with fail
  clear hmake HL
  go_loopw [10] (fun x wr => ∃ (k : Nat) (xs : List Value), k ≤ n ∧ x = .int .i64 (k : Int) ∧ wr.ownsRow w.heap.size 55 2 (.slice (some ⟨w.heap.size, 0, none⟩) n n) n xs ∧ Fill (vv L) (k * 2) xs ∧ Below w.heap.size w wr) (fun x _ => n - (intOf x).toNat)
  case atStart => exact ⟨0, xs0, Nat.zero_le _, rfl, HO1.out, fill_zero (by rw [HX0.out, vv_length, HVN.out]), HB1.out⟩
  case round =>
    clear HO1 HB1 HX0
    obtain ⟨k, xs, hk, rfl, ho, hf, hb⟩ := hrel
    have HO := Lib.hid ho
    have HF := Lib.hid hf
    have HB := Lib.hid hb
    have hsz := hb.size
    clear ho hf hb
    by_cases hlt : k < n
    · have ik : (k : Int) < (n : Int) := by omega
      have hkl : k < L.length := by rw [HVN.out]; exact hlt
      have HA1 := Lib.hid (HA.out wr k L[k] HB.out (List.getElem?_eq_getElem hkl))
      have HU0 : Hid ((vv L)[k * 2]? = some (.bool L[k].null)) := by
        have := vv_get L k 0 (by omega)
        rw [Nat.add_zero, List.getElem?_eq_getElem hkl] at this
        exact this
      have HU1 : Hid ((vv L)[k * 2 + 1]? = some (.string L[k].s)) := by
        have := vv_get L k 1 (by omega)
        rw [List.getElem?_eq_getElem hkl] at this
        exact this
      generalize L[k].null = b at *
      generalize L[k].s = s at *
      have HXL : Hid (xs.length = n * 2) := by unfold Hid; rw [HF.out.1, vv_length, HVN.out]
      go_wp2_with fail
      refine HA1.out.mono ?_
      rintro r w2 ⟨rfl, hb2⟩
      have HO2 := Lib.hid (own_below HO.out hb2 (Nat.le_refl _))
      have HB2 := Lib.hid (below_below HB.out hb2 hsz)
      have hsz2 := HB2.out.size
      have hxl := HXL.out
      have fr0 := HO2.out.frozenAt (k * 2)
      have fr1 := HO2.out.frozenAt (k * 2 + 1)
      have c0 : w2.cell? ⟨w.heap.size, k * 2, none⟩ = some (xs[k * 2]'(by omega)) := by
        rw [HO2.out.cellAt (k * 2) (by omega), List.getElem?_eq_getElem (by omega)]
      have c1 : w2.cell? ⟨w.heap.size, k * 2 + 1, none⟩ = some (xs[k * 2 + 1]'(by omega)) := by
        rw [HO2.out.cellAt (k * 2 + 1) (by omega), List.getElem?_eq_getElem (by omega)]
      have HS1 := Lib.hid (World.ownsRow.stored HO2.out (k * 2) (.bool b))
      have HS2 := Lib.hid (World.ownsRow.stored HS1.out.1 (k * 2 + 1) (.string s))
      have HBS := Lib.hid ((HB2.out.setCell (p := ⟨w.heap.size, k * 2, none⟩) (Nat.le_refl _) (.bool b)).setCell (p := ⟨w.heap.size, k * 2 + 1, none⟩) (Nat.le_refl _) (.string s))
      have HFS : Hid (Fill (vv L) ((k + 1) * 2) ((xs.set (k * 2) (.bool b)).set (k * 2 + 1) (.string s))) := by
        have := fill_succ (fill_succ HF.out (.bool b) HU0.out) (.string s) HU1.out
        rw [show (k + 1) * 2 = k * 2 + 1 + 1 by omega]
        exact this
      generalize xs[k * 2]'(by omega) = y0 at *
      generalize xs[k * 2 + 1]'(by omega) = y1 at *
      clear hb2 HA1 HO HB HF HU0 HU1
      go_wp2_with fail
      go_roundw
      case rel => exact ⟨k + 1, _, by omega, by go_num, HS2.out.1, HFS.out, HBS.out⟩
      case measure => simp [intOf]; omega
    · have ik : ¬ (k : Int) < (n : Int) := by omega
      have hke : k = n := by omega
      have hx : xs = vv L := fill_all HF.out (by rw [vv_length, HVN.out]; omega)
      subst hx
      go_wp2_with fail
      go_ret
      have hro := row_own HO.out HVN.out HSZ.out
      exact ⟨_, _, rfl, hro, HB.out, ⟨_, rfl⟩, HO.out⟩
set_option maxRecDepth 20000 in
set_option maxHeartbeats 4000000 in
theorem raw_none {w : World} {lo G : Nat} {c : Chk} (h : ChkM w lo G c) {k : Nat} (hk : c.there[k]? = some false ∨ (c.there[k]? = some true ∧ c.kind = 3)) :
    Calls Tryz.prog 33 #[.pointer (some ⟨G, 0, none⟩), .int .i64 (k : Int)] w fun r w' => r = .returned (.slice none 0 0) ∧ w = w' := by
  have x0 := h.kindCell
  rcases hk with hk | ⟨hk, h3⟩
  · have HH := Lib.hid (has_in h hk)
    clear h hk
    go_enter Tryz.func33, Tryz.ntmps33
    go_wp2_with fail
    refine HH.out.mono ?_
    rintro r w' ⟨rfl, rfl⟩
    go_wp2_with fail
    go_ret
    exact ⟨rfl, rfl⟩
  · have HH := Lib.hid (has_in h hk)
    rw [h3] at x0
    clear h hk h3
    go_enter Tryz.func33, Tryz.ntmps33
    go_wp2_with fail
    refine HH.out.mono ?_
    rintro r w' ⟨rfl, rfl⟩
    go_wp2_with fail
    go_ret
    exact ⟨rfl, rfl⟩
set_option maxRecDepth 20000 in
set_option maxHeartbeats 4000000 in
theorem raw_some {w : World} {lo G : Nat} {c : Chk} (h : ChkM w lo G c) (hk2 : c.kind = 1 ∨ c.kind = 2) (hl : c.raws.length = cnt c.there) {k : Nat} (hk : c.there[k]? = some true) (hsz : ∀ x ∈ c.raws, x.length ≤ 1000000) {b : List UInt8} (hb : c.raws[cnt (c.there.take k)]? = some b) :
    Calls Tryz.prog 33 #[.pointer (some ⟨G, 0, none⟩), .int .i64 (k : Int)] w fun r w' => ∃ A' c', r = .returned (.slice A' b.length c') ∧ w'.ownsRow w.heap.size 5 1 (.slice A' b.length c') b.length (bv b) ∧ Below w.heap.size w w' := by
  have x0 := h.kindCell
  have HH := Lib.hid (has_in h hk)
  obtain ⟨bb, off, c2, p, x2, hbw, hcell, hrd, hrw⟩ := h.raw hk2 hl hk
  rw [hb] at hrw
  obtain rfl := Option.some.inj hrw
  have HC := Lib.hid (bclone_any (w := w) p.bs hrd (Nat.le_refl _) (Nat.le_trans (hsz _ (List.mem_of_getElem? hb)) (by omega)))
  have hfew := h.few
  have hlt : k < c.there.length := (List.getElem?_eq_some_iff.1 hk).1
  have ik : (k : Int) < (c.there.length : Int) := by omega
  have i0 : (0 : Int) ≤ (k : Int) := by omega
  have h3 : ¬ (c.kind : Int) = 3 := by omega
  have h3b : ((c.kind : Int) == 3) = false := by rw [beq_eq_false_iff_ne]; exact h3
  clear h hk hk2 hl hrd hb hrw hsz
  generalize c.there.length = n at *
  generalize (c.kind : Int) = kd at *
  generalize p.bs.length = pn at *
  go_enter Tryz.func33, Tryz.ntmps33
  go_wp2_with fail
  refine HH.out.mono ?_
  rintro r w' ⟨rfl, rfl⟩
  go_wp2_with fail
  refine HC.out.mono ?_
  rintro r w2 ⟨A2, c3, rfl, ho, hb2⟩
  go_wp2_with fail
  go_ret
  exact ⟨_, _, rfl, ho, hb2⟩
set_option maxRecDepth 20000 in
set_option maxHeartbeats 4000000 in
theorem coded_three {w : World} {lo G : Nat} {c : Chk} (h : ChkM w lo G c) (h3 : c.kind = 3) (s : ByteArray) :
    Calls Tryz.prog 29 #[.pointer (some ⟨G, 0, none⟩), .string s] w fun r w' => r = .returned (.tuple #[.slice none 0 0, .bool false]) ∧ Below w.heap.size w w' := by
  have HK := Lib.hid (kind_v h)
  rw [h3] at HK
  clear h h3
  go_enter Tryz.func29, Tryz.ntmps29
  go_wp2_with fail
  refine HK.out.mono ?_
  rintro r w' ⟨rfl, rfl⟩
  go_wp2_with fail
  go_ret2
  exact ⟨rfl, Below.refl _ _⟩
set_option maxRecDepth 20000 in
set_option maxHeartbeats 4000000 in
theorem coded_one {w : World} {lo G : Nat} {c : Chk} (h : ChkM w lo G c) (h1 : c.kind = 1) (s : ByteArray) (hs : s.size ≤ 1000000) :
    Calls Tryz.prog 29 #[.pointer (some ⟨G, 0, none⟩), .string s] w fun r w' => ∃ A' c', r = .returned (.tuple #[.slice A' s.data.toList.length c', .bool true]) ∧ Rd w' w.heap.size w'.heap.size A' c' (bv s.data.toList) ∧ Below w.heap.size w w' := by
  have HK := Lib.hid (kind_v h)
  rw [h1] at HK
  have hcv := Lib.run_convert_string_bytes (P := Tryz.prog) w 9 28 5 s Tryz.underlying9 Tryz.underlying28 Tryz.underlying5
  have hcap := grownCap_le_maxLen w s.size 0 5 (by simp only [maxLen]; omega)
  have hrd := bytesWorld_rd w 5 s hcap
  have hb2 := bytesWorld_below w 5 s (Nat.le_refl _)
  have hs2 : w.heap.size + 1 ≤ (Lib.bytesWorld w 5 s).heap.size := by rw [Lib.bytesWorld_size]; exact Nat.le_refl _
  clear h h1 hcap
  generalize grownCap w s.size 0 5 = gc at *
  generalize Lib.bytesWorld w 5 s = w2 at *
  have HRD := Lib.hid hrd
  have HB2 := Lib.hid hb2
  clear hrd hb2
  go_enter Tryz.func29, Tryz.ntmps29
  go_wp2_with fail
  refine HK.out.mono ?_
  rintro r w' ⟨rfl, rfl⟩
  go_wp2_with fail
  go_ret2
  exact ⟨_, _, rfl, HRD.out.wide (Nat.le_refl _) hs2, HB2.out⟩
set_option maxRecDepth 20000 in
set_option maxHeartbeats 4000000 in
theorem coded_two {w : World} {lo G : Nat} {c : Chk} (h : ChkM w lo G c) (h2 : c.kind = 2) (htr : rightT c.tab = true) (s : ByteArray) (hs : s.size ≤ 1000000) :
    Calls Tryz.prog 29 #[.pointer (some ⟨G, 0, none⟩), .string s] w fun r w' => ∃ A' c', r = .returned (.tuple #[.slice A' (encL c.tab s.data.toList).length c', .bool true]) ∧ Rd w' w.heap.size w'.heap.size A' c' (bv (encL c.tab s.data.toList)) ∧ Below w.heap.size w w' := by
  have HK := Lib.hid (kind_v h)
  rw [h2] at HK
  obtain ⟨A3, c3, x3, hrt⟩ := h.tabCell h2
  have HE := Lib.hid (fencode_any (w := w) (c := c3) (A := A3) (strsL c.tab) s (hrt.wide (Nat.zero_le _) (Nat.le_refl _)) (by rw [bytL2_strsL]; exact htr) (by omega))
  rw [strsL_length, bytL2_strsL] at HE
  clear h h2 htr hrt
  generalize encL c.tab s.data.toList = E at *
  generalize c.tab.length = tn at *
  go_enter Tryz.func29, Tryz.ntmps29
  go_wp2_with fail
  refine HK.out.mono ?_
  rintro r w' ⟨rfl, rfl⟩
  go_wp2_with fail
  refine HE.out.mono ?_
  rintro r w2 ⟨A2, c2, rfl, ho, hb⟩
  go_wp2_with fail
  go_ret2
  exact ⟨_, _, rfl, Rd.of_own ho, hb⟩
set_option maxRecDepth 20000 in
set_option maxHeartbeats 4000000 in
theorem dict_no {w : World} {lo G : Nat} {c : Chk} (h : ChkM w lo G c) (h3 : c.kind ≠ 3) :
    Calls Tryz.prog 28 #[.pointer (some ⟨G, 0, none⟩)] w fun r w' => r = .returned (.tuple #[.pointer none, .slice none 0 0]) ∧ Below w.heap.size w w' := by
  have HK := Lib.hid (kind_v h)
  have h3 : ¬ (c.kind : Int) = 3 := by omega
  have h3b : ((c.kind : Int) != 3) = true := by simpa using h3
  clear h
  generalize (c.kind : Int) = kd at *
  go_enter Tryz.func28, Tryz.ntmps28
  go_wp2_with fail
  refine HK.out.mono ?_
  rintro r w' ⟨rfl, rfl⟩
  go_wp2_with fail
  go_ret2
  exact ⟨rfl, Below.refl _ _⟩
def codesC (c : Chk) : List Int := spreadL c.there (ints c.codes) (-1)
theorem codesC_iv (c : Chk) : spreadL c.there (iv (ints c.codes)) (.int .i64 (-1)) = iv (codesC c) := by
  rw [codesC, iv, iv, spread_map]
theorem codesC_length (c : Chk) : (codesC c).length = c.there.length := spread_length _ _ _
set_option maxRecDepth 20000 in
set_option maxHeartbeats 4000000 in
theorem dict_yes {w : World} {lo G : Nat} {c : Chk} (h : ChkM w lo G c) (h3 : c.kind = 3) (hf : c.there.length ≤ 4096) :
    Calls Tryz.prog 28 #[.pointer (some ⟨G, 0, none⟩)] w fun r w' => ∃ (dg : Nat) (ys : List ByteArray) (A' : Option Addr) (c' : Nat), r = .returned (.tuple #[.pointer (some ⟨dg, 0, none⟩), .slice A' (codesC c).length c']) ∧ DcR w' dg ys ∧ bytL2 ys = c.dic ∧ w'.ownsRow w.heap.size 3 1 (.slice A' (codesC c).length c') (codesC c).length (iv (codesC c)) ∧ Below w.heap.size w w' ∧ w.heap.size ≤ dg := by
  have HK := Lib.hid (kind_v h)
  rw [h3] at HK
  obtain ⟨dg, ys, A5, c5, x4, x5, hd, hys, hr5⟩ := h.dicCell h3
  obtain ⟨Ad, cd, xd, fd, hrd⟩ := hd.open_
  rw [codesC_iv] at hr5
  have hcl := codesC_length c
  rw [← hcl] at x5
  have hGl := h.lt
  obtain ⟨w1, hw1⟩ : ∃ w1, w.alloc (.cells #[.slice Ad ys.length cd] 95) = w1 := ⟨_, rfl⟩
  have hb1 : Below w.heap.size w w1 := by rw [← hw1]; exact (Below.refl _ _).alloc (Nat.le_refl _) _
  have hx : Blk w1 w.heap.size 95 #[.slice Ad ys.length cd] := by rw [← hw1]; exact Blk.new w _ _
  have hs1 : w.heap.size < w1.heap.size := by rw [← hw1]; simp
  have y5 : w1.cell? ⟨G, 5, none⟩ = some (.slice A5 (codesC c).length c5) := (hb1.cell (p := ⟨G, 5, none⟩) hGl).trans x5
  have HCL := Lib.hid (clone_nums (w := w1) (codesC c) ((hr5.below hb1 (Nat.le_refl _)).wide (Nat.zero_le _) (Nat.le_of_lt hs1)) (Nat.le_refl _) (by rw [hcl]; omega))
  have HX := Lib.hid hx
  have HB1 := Lib.hid hb1
  have HRD := Lib.hid hrd
  have HYS := Lib.hid hys
  clear h h3 hd hr5 hx hb1 hrd hys hcl
  generalize codesC c = zs at *
  generalize hyn : ys.length = yn at *
  have HYN := Lib.hid hyn
  clear hyn
  go_enter Tryz.func28, Tryz.ntmps28
  go_wp2_with fail
  refine HK.out.mono ?_
  rintro r w' ⟨rfl, rfl⟩
  go_wp2_with fail
  refine HCL.out.mono ?_
  rintro r w2 ⟨A2, c2, rfl, ho, hb⟩
  have hs2 := hb.size
  have hx2 := HX.out.below hb hs1
  go_wp2_with fail
  go_ret2
  exact ⟨_, ys, _, _, rfl, ⟨Ad, cd, by rw [HYN.out]; simpa using hx2.cell 0, hx2.frozen 0, ((HRD.out.below HB1.out (Nat.le_refl _)).below hb (by omega)).wide (Nat.zero_le _) (by omega)⟩, HYS.out, own_base ho (by omega), HB1.out.trans (hb.mono (by omega)), Nat.le_refl _⟩
end Go.Proofs.YtmffpbhiehjlpaaGreat
namespace Go.Proofs.YtmffpbhiehjlpaaGreat
set_option linter.unusedSimpArgs false
set_option linter.unusedVariables false
open Go.RowKit
attribute [local go_sem] run_store_complex
theorem field_null (W : World) (b : Bool) (s : ByteArray) : (Instr.field 55 (.agg #[.bool b, .string s]) 0).run Tryz.prog W = .ok (.bool b) W := by kernel_rfl
theorem field_s (W : World) (b : Bool) (s : ByteArray) : (Instr.field 55 (.agg #[.bool b, .string s]) 1).run Tryz.prog W = .ok (.string s) W := by kernel_rfl
attribute [local go_sem] field_null field_s
def awL : List Vl := [⟨false, ⟨#[97]⟩⟩, ⟨true, ⟨#[]⟩⟩]
def awO : Co := ⟨1, 1, 0, []⟩
theorem awL_fits : FitsV awL := by decide
theorem awO_ok : CoOk awO := by decide
theorem aw_kind : kindK (textsL awL) awO = 1 := by rw [kindK, if_neg (by decide)]; rfl
theorem aw_tab : kindK (textsL awL) awO = 2 → rightT (tabS (textsL awL) awO) = true := fun h => by rw [aw_kind] at h; cases h
theorem aw_pay : payK (textsL awL) awO 1 = [1, 1, 1, 97] := by
  rw [payK, if_neg (by decide), if_neg (by decide), show joinB (bytL2 (textsL awL)) = writeL [1] ++ [97] from rfl, writeL, putL_small (by decide)]
  decide +kernel
theorem aw_code : codeL awL awO = [1, 2, 1, 1, 1, 1, 97] := by
  rw [codeL, aw_kind, aw_pay, show writeB (thereL awL) = putL 2 ++ packB [true, false] from rfl, putL_small (by decide)]
  decide +kernel
theorem aw_chk : chkOf awL awO = ⟨1, [true, false], [[97]], [], [], []⟩ := by
  rw [chkOf, if_neg (by rw [aw_kind]; decide), if_neg (by rw [aw_kind]; decide)]
  rfl
theorem aw_four : fl 4 = 4616189618054758400 := by decide
theorem aw_one : fl 1 = 4607182418800017408 := by decide
theorem aw_vals : valsC (chkOf awL awO) = awL := chkOf_vals awL_fits awO_ok aw_tab
theorem aw_rd (W : World) : Row (W.alloc (.cells #[.bool false, .string ⟨#[97]⟩, .bool true, .string ⟨#[]⟩] 55)) W.heap.size (W.alloc (.cells #[.bool false, .string ⟨#[97]⟩, .bool true, .string ⟨#[]⟩] 55)).heap.size (some ⟨W.heap.size, 0, none⟩) 2 awL := by
  refine ⟨⟨Nat.le_refl _, by simp [maxLen], fun _ => ⟨W.heap.size, 0, rfl, Nat.le_refl _, by simp, fun j hj i hi => ?_⟩⟩, by decide⟩
  rw [(Blk.new W _ _).cell]
  have hj2 : j < 2 := hj
  match j, hj2 with
  | 0, _ => match i, hi with
    | 0, _ => rfl
    | 1, _ => rfl
  | 1, _ => match i, hi with
    | 0, _ => rfl
    | 1, _ => rfl
set_option maxRecDepth 20000 in
set_option maxHeartbeats 4000000 in
theorem awake_any17 {w : World} : Calls Tryz.prog 9 #[] w fun r w' => r = .returned (.bool true) ∧ Below w.heap.size w w' := by
  obtain ⟨w1, hw1⟩ : ∃ w1, w.alloc (.cells #[.bool false, .string ⟨#[97]⟩, .bool true, .string ⟨#[]⟩] 55) = w1 := ⟨_, rfl⟩
  have hr1 : Row w1 w.heap.size w1.heap.size (some ⟨w.heap.size, 0, none⟩) 2 awL := by rw [← hw1]; exact aw_rd w
  have B1 : Hid (Below w.heap.size w w1) := by unfold Hid; rw [← hw1]; exact (Below.refl _ w).alloc (Nat.le_refl _) _
  have HI : Hid (∀ W, Below w1.heap.size w1 W → CIn W awL 1 1 0 [] (some ⟨w.heap.size, 0, none⟩) none 2 0) := fun W hW =>
    ⟨(hr1.below hW (Nat.le_refl _)).wide (Nat.zero_le _) hW.size, Rd.nil _ _ _, (fun z hz => by cases hz), Nat.zero_le _⟩
  have HC := Lib.hid (code_yes (HI.out w1 (Below.refl _ _)) (o := awO) rfl ⟨awL_fits, awO_ok⟩)
  rw [aw_code] at HC
  clear hr1
  go_enter Tryz.func9, Tryz.ntmps9
  go_wp2_with fail
  refine HC.out.mono ?_
  rintro r w2 ⟨A2, c2, rfl, ho2, hb2, -⟩
  have HO2 := Lib.hid ho2
  have HB2 := Lib.hid hb2
  have HN2 := Lib.hid (new_any (A := A2) (c := c2) [1, 2, 1, 1, 1, 1, 97] w2 (Rd.of_own ho2) (by decide))
  have HST := Lib.hid (run_string_rd (P := Tryz.prog) w2 28 9 5 Tryz.underlying28 Tryz.underlying5 Tryz.underlying9 w1.heap.size w2.heap.size A2 c2 [1, 2, 1, 1, 1, 1, 97] (Rd.of_own ho2))
  have hsz2 := hb2.size
  clear ho2 hb2 HC
  go_wp2_with fail
  refine HN2.out.mono ?_
  rintro r w3 ⟨g, rfl, hcu, hb3⟩
  have HB3 : Hid (Below w1.heap.size w1 w3) := HB2.out.trans (hb3.mono hsz2)
  have HB23 := Lib.hid hb3
  have hs3 := hb3.size
  have HOP := Lib.hid (open_v hcu (by decide))
  have e1 : openC [1, 2, 1, 1, 1, 1, 97] 0 0 = (chkOf awL awO, 7, 0) := by
    have := open_code awL_fits awO_ok aw_tab
    rw [aw_code] at this
    exact this
  rw [e1] at HOP
  clear hcu hb3 HN2 e1
  go_wp2_with fail
  refine HOP.out.mono ?_
  rintro r w4 ⟨G, rfl, hG, hck, hcu4, hg4⟩
  have hb4 : Below w2.heap.size w3 w4 := (Below.refl _ _).grown hg4 hs3 (fun q hq => by cases hq; exact hcu4.base)
  have HB4 : Hid (Below w1.heap.size w1 w4) := HB3.out.trans (hb4.mono hsz2)
  have HCK := Lib.hid hck
  have HM := Lib.hid (measure_yes (HI.out w4 HB4.out) (o := awO) rfl ⟨awL_fits, awO_ok⟩)
  rw [aw_kind, aw_pay, show fl ([1, 1, 1, 97] : List UInt8).length = 4616189618054758400 from aw_four, show fl (textsL awL).length = 4607182418800017408 from aw_one] at HM
  have hsz4 := hb4.size
  have HO4 := Lib.hid (own_below HO2.out (HB23.out.trans hb4) (Nat.le_refl _))
  clear hck hcu4 hg4 hb4 HOP HO2
  go_wp2_with fail
  refine HM.out.mono ?_
  rintro r w5 ⟨rfl, hb5, -⟩
  have HCK5 := Lib.hid (HCK.out.below hb5)
  have HB5 : Hid (Below w1.heap.size w1 w5) := HB4.out.trans (hb5.mono HB4.out.size)
  have hst := run_string_rd (P := Tryz.prog) w5 28 9 5 Tryz.underlying28 Tryz.underlying5 Tryz.underlying9 w1.heap.size w5.heap.size A2 c2 [1, 2, 1, 1, 1, 1, 97] (Rd.of_own (own_below HO4.out hb5 (Nat.le_refl _)))
  rw [show ([1, 2, 1, 1, 1, 1, 97] : List UInt8).length = 7 from rfl] at hst
  have HLN := Lib.hid (len_v HCK5.out)
  have HAT : Hid (∀ W, Below w5.heap.size w5 W → ∀ (k : Nat) (v : Vl), awL[k]? = some v → Calls Tryz.prog 26 #[.pointer (some ⟨G, 0, none⟩), .int .i64 (k : Int)] W fun r w' => r = .returned (.agg #[.bool v.null, .string v.s]) ∧ Below W.heap.size W w') := fun W hW k v hv =>
    at_v (HCK5.out.below hW) (.inl (chkOf_ok awL_fits awO_ok aw_tab)) (by rw [aw_vals]; exact hv)
  have HKN : Hid (∀ W, Below w5.heap.size w5 W → Calls Tryz.prog 25 #[.pointer (some ⟨G, 0, none⟩)] W fun r w' => r = .returned (.int .i64 1) ∧ W = w') := fun W hW => by
    have := kind_v (HCK5.out.below hW)
    rw [aw_chk] at this
    exact this
  rw [aw_chk] at HLN
  have ho4 : (FloatKind.f64.format.order 4616189618054758400 4616189618054758400 == some .eq) = true := by have := eq_fl (a := 4) (b := 4) (by decide) (by decide); rw [aw_four] at this; exact this
  have ho1 : (FloatKind.f64.format.order 4607182418800017408 4607182418800017408 == some .eq) = true := by have := eq_fl (a := 1) (b := 1) (by decide) (by decide); rw [aw_one] at this; exact this
  have HA0 := Lib.hid (HAT.out w5 (Below.refl _ _) 0 _ rfl)
  clear hb5 HM HCK HO4 HI HST
  go_wp2_with fail
  refine HLN.out.mono ?_
  rintro r w6 ⟨rfl, rfl⟩
  go_wp2_with fail
  refine HA0.out.mono ?_
  rintro r w6 ⟨rfl, hb6⟩
  have HA1 := Lib.hid (HAT.out w6 hb6 1 _ rfl)
  have HB6 := Lib.hid hb6
  clear hb6
  go_wp2_with fail
  refine HA1.out.mono ?_
  rintro r w7 ⟨rfl, hb7⟩
  have HB7 : Hid (Below w5.heap.size w5 w7) := below_below HB6.out hb7 HB6.out.size
  have HK7 := Lib.hid (HKN.out w7 HB7.out)
  clear hb7
  go_wp2_with fail
  refine HK7.out.mono ?_
  rintro r w8 ⟨rfl, rfl⟩
  go_wp2_with fail
  go_ret
  exact ⟨rfl, (B1.out.trans (HB5.out.mono B1.out.size)).trans (HB7.out.mono (Nat.le_trans B1.out.size HB5.out.size))⟩
end Go.Proofs.YtmffpbhiehjlpaaGreat
