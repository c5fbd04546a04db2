/-
  The seek package: Code, Map.
-/
import Derived.Test.YtihlbcnoficpgaaSkB
import Derived.Test.YtihlbcnoficpgaaIntA
namespace Go.Proofs.Ytihlbcnoficpgaa
set_option linter.unusedSimpArgs false
set_option linter.unusedVariables false
open Go.RowKit

theorem Dk.small {w : World} {d k : Nat} {t : List ByteArray} (h : Dk w d t) (hk : k < t.length) : t[k].size ≤ 281474976710656 := by
  have := h.size t[k] (List.getElem_mem hk)
  omega
theorem str_ne {x s : ByteArray} (h : ¬ x = s) : (!x.toList == s.toList) = true := bne_iff_ne.2 fun e => h (by rw [Lib.toList_data, Lib.toList_data] at e; exact ByteArray.ext (Array.ext' e))
set_option maxRecDepth 20000 in
set_option maxHeartbeats 2000000 in
theorem scode_any {w : World} {d : Nat} {t : List ByteArray} (h : Dk w d t) (s : ByteArray) (hs : s.size ≤ 1000000) :
    Calls Try.prog 11 #[.pointer (some ⟨d, 0, none⟩), .string s] w fun r w' => r = .returned (.tuple #[.int .i64 (codeN (bytL2 t) s.data.toList : Int), .bool (isN (bytL2 t) s.data.toList)]) ∧ Below w.heap.size w w' := by
  have hlu := low_up h.rises s.data.toList
  have hle := upN_le (bytL2 t) s.data.toList
  rw [bytL2_length] at hle
  have hlen := h.len
  have HLO := Lib.hid (slow_any h s hs)
  have HTH : Hid (∀ i (hi : i < t.length), t[i] = s ↔ i = lowN (bytL2 t) s.data.toList ∧ lowN (bytL2 t) s.data.toList < upN (bytL2 t) s.data.toList) := fun i hi => by
    have h1 := there_iff h.rises s.data.toList (i := i) (by rw [bytL2_length]; exact hi)
    rw [bytL2_get t i hi] at h1
    rw [← h1]
    exact ⟨fun e => by rw [e], fun e => ByteArray.ext (Array.ext' e)⟩
  have HK := Lib.hid h
  unfold codeN isN
  generalize lowN (bytL2 t) s.data.toList = lo at *
  generalize upN (bytL2 t) s.data.toList = up at *
  clear h
  by_cases hin : lo < up
  · have hlt : lo < t.length := by omega
    have hxs := (HTH.out lo hlt).2 ⟨rfl, hin⟩
    rw [if_pos hin, decide_eq_true hin]
    have i1 : ¬ (lo : Int) = (t.length : Int) := by omega
    have b1 : ((lo : Int) == (t.length : Int)) = false := beq_eq_false_iff_ne.2 i1
    have hb : (s.toList != s.toList) = false := by simp
    go_enter Try.func11, Try.ntmps11
    go_wp2_with fail
    refine HLO.out.mono ?_
    rintro r w1 ⟨rfl, hb1⟩
    have HB1 := Lib.hid hb1
    have HK1 := Lib.hid (HK.out.below hb1)
    have hs1 := hb1.size
    clear hb1
    go_wp2_with fail
    refine (flen_any HK1.out.dc).mono ?_
    rintro r w' ⟨rfl, rfl⟩
    go_wp2_with fail
    refine (fat_is s HK1.out.dc hlt (HK1.out.small hlt) hxs rfl).mono ?_
    rintro r w2 ⟨rfl, hb2⟩
    have HB2 := Lib.hid (below_below HB1.out hb2 hs1)
    clear hb2
    go_wp2_with fail
    go_ret2
    exact ⟨rfl, HB2.out⟩
  · rw [if_neg hin, decide_eq_false hin]
    by_cases hlt : lo < t.length
    · have hxs : ¬ t[lo] = s := fun e => hin ((HTH.out lo hlt).1 e).2
      have i1 : ¬ (lo : Int) = (t.length : Int) := by omega
      have b1 : ((lo : Int) == (t.length : Int)) = false := beq_eq_false_iff_ne.2 i1
      have hb := str_ne hxs
      obtain ⟨x, hx⟩ : ∃ x, t[lo] = x := ⟨_, rfl⟩
      rw [hx] at hb
      have HX := Lib.hid hx
      clear hx hxs
      go_enter Try.func11, Try.ntmps11
      go_wp2_with fail
      refine HLO.out.mono ?_
      rintro r w1 ⟨rfl, hb1⟩
      have HB1 := Lib.hid hb1
      have HK1 := Lib.hid (HK.out.below hb1)
      have hs1 := hb1.size
      clear hb1
      go_wp2_with fail
      refine (flen_any HK1.out.dc).mono ?_
      rintro r w' ⟨rfl, rfl⟩
      go_wp2_with fail
      refine (fat_is x HK1.out.dc hlt (HK1.out.small hlt) HX.out rfl).mono ?_
      rintro r w2 ⟨rfl, hb2⟩
      have HB2 := Lib.hid (below_below HB1.out hb2 hs1)
      clear hb2
      go_wp2_with fail
      go_ret2
      exact ⟨rfl, HB2.out⟩
    · have hl : lo = t.length := by omega
      have i1 : (lo : Int) = (t.length : Int) := by omega
      have b1 : ((lo : Int) == (t.length : Int)) = true := beq_iff_eq.2 i1
      clear hl i1
      go_enter Try.func11, Try.ntmps11
      go_wp2_with fail
      refine HLO.out.mono ?_
      rintro r w1 ⟨rfl, hb1⟩
      have HB1 := Lib.hid hb1
      have HK1 := Lib.hid (HK.out.below hb1)
      clear hb1
      go_wp2_with fail
      refine (flen_any HK1.out.dc).mono ?_
      rintro r w' ⟨rfl, rfl⟩
      go_wp2_with fail
      go_ret2
      exact ⟨rfl, HB1.out⟩
/-- the first k as zs says -/
def UptoI (zs : List Int) (k : Nat) (xs : List Value) : Prop := xs.length = zs.length ∧ ∀ j, j < k → xs[j]? = (iv zs)[j]?
theorem uptoI_all {zs : List Int} {xs : List Value} (h : UptoI zs zs.length xs) : xs = iv zs := by
  refine List.ext_getElem? fun j => ?_
  by_cases hj : j < zs.length
  · exact h.2 j hj
  · rw [List.getElem?_eq_none (by rw [h.1]; omega), List.getElem?_eq_none (by rw [iv_length]; omega)]
theorem uptoI_succ {zs : List Int} {k : Nat} {xs : List Value} {z : Int} (h : UptoI zs k xs) (hk : k < zs.length) (hz : zs[k] = z) : UptoI zs (k + 1) (xs.set k (.int .i64 z)) := by
  subst hz
  refine ⟨by rw [List.length_set]; exact h.1, fun j hj => ?_⟩
  by_cases e : j = k
  · subst e
    rw [List.getElem?_set_self (by rw [h.1]; exact hk)]
    simp [iv, hk]
  · rw [List.getElem?_set_ne (fun e2 => e e2.symm)]
    exact h.2 j (by omega)
set_option maxRecDepth 20000 in
set_option maxHeartbeats 2000000 in
theorem smap_any {w : World} {d e : Nat} {t u : List ByteArray} (h : Dk w d t) (k : Dk w e u) :
    Calls Try.prog 16 #[.pointer (some ⟨d, 0, none⟩), .pointer (some ⟨e, 0, none⟩)] w fun r w' => ∃ A c, r = .returned (.slice A t.length c) ∧ w'.ownsRow w.heap.size 3 1 (.slice A t.length c) t.length (iv ((bytL2 t).map (mapN (bytL2 u)))) ∧ Below w.heap.size w w' := by
  have hlen := h.len
  have HL := Lib.hid (flen_any h.dc)
  have HD := Lib.hid h
  have HE := Lib.hid k
  obtain ⟨w1, hmake, ho1, hg1⟩ := make_nums w t.length (by omega)
  have HO1 := Lib.hid ho1
  have HB1 := Lib.hid (below_of_gb (Nat.le_refl _) hg1 (fun g hg => by cases hg))
  obtain ⟨zs, hzs⟩ : ∃ zs, (bytL2 t).map (mapN (bytL2 u)) = zs := ⟨_, rfl⟩
  have HZL : Hid (zs.length = t.length) := by unfold Hid; rw [← hzs, List.length_map, bytL2_length]
  have HZ : Hid (∀ i (hi : i < t.length), zs[i]? = some (mapN (bytL2 u) t[i].data.toList)) := fun i hi => by
    rw [← hzs, List.getElem?_map, List.getElem?_eq_getElem (by rw [bytL2_length]; exact hi), bytL2_get t i hi]; rfl
  rw [hzs]
  clear h k ho1 hg1 hzs
  go_enter Try.func16, Try.ntmps16
  go_wp2_with fail
  refine HL.out.mono ?_
  rintro r w' ⟨rfl, rfl⟩
  go_wp2_with fail
  clear hmake
  go_loopw [14] (fun i wr => ∃ (k : Nat) (xs : List Value), k ≤ t.length ∧ i = .int .i64 (k : Int) ∧ wr.ownsRow w.heap.size 3 1 (.slice (some ⟨w.heap.size, 0, none⟩) t.length t.length) t.length xs ∧ UptoI zs k xs ∧ Below w.heap.size w wr) (fun i _ => t.length - (intOf i).toNat)
  case atStart => exact ⟨0, _, Nat.zero_le _, rfl, HO1.out, ⟨by rw [HZL.out]; simp, fun j hj => by omega⟩, HB1.out⟩
  case round =>
    clear HO1 HB1 HL
    obtain ⟨k, xs, hk, rfl, ho, hup, hb⟩ := hrel
    have HO := Lib.hid ho
    have HUP := Lib.hid hup
    have HB := Lib.hid hb
    have hsz := hb.size
    clear ho hup hb
    by_cases hlt : k < t.length
    · have ik : (k : Int) < (t.length : Int) := by omega
      have hz := HZ.out k hlt
      have HA := Lib.hid (fat_in (HD.out.below HB.out).dc k hlt (HD.out.small hlt))
      have hts : t[k].size ≤ 4096 := HD.out.size t[k] (List.getElem_mem hlt)
      have HC : Hid (∀ wx, Below w.heap.size w wx → Calls Try.prog 11 #[.pointer (some ⟨e, 0, none⟩), .string t[k]] wx fun r w' => r = .returned (.tuple #[.int .i64 (codeN (bytL2 u) t[k].data.toList : Int), .bool (isN (bytL2 u) t[k].data.toList)]) ∧ Below wx.heap.size wx w') := fun wx hb => scode_any (HE.out.below hb) t[k] (by omega)
      generalize t[k] = s at *
      unfold codeN isN at HC
      unfold mapN at hz
      by_cases hin : lowN (bytL2 u) s.data.toList < upN (bytL2 u) s.data.toList
      · rw [if_pos hin] at hz
        rw [if_pos hin, decide_eq_true hin] at HC
        generalize lowN (bytL2 u) s.data.toList = lo at *
        have HUS := Lib.hid (uptoI_succ HUP.out (by rw [HZL.out]; exact hlt) (Option.some.inj ((List.getElem?_eq_getElem _).symm.trans hz)))
        clear hz
        go_wp2_with fail
        refine HA.out.mono ?_
        rintro r w2 ⟨rfl, hb2⟩
        have HO2 := Lib.hid (own_below HO.out hb2 (Nat.le_refl _))
        have HB2 := Lib.hid (below_below HB.out hb2 hsz)
        have hsz2 := HB2.out.size
        clear hb2 HA HO HB
        go_wp2_with fail
        refine (HC.out _ HB2.out).mono ?_
        rintro r w3 ⟨rfl, hb3⟩
        have HO3 := Lib.hid (own_below HO2.out hb3 (Nat.le_refl _))
        have HB3 := Lib.hid (below_below HB2.out hb3 hsz2)
        have hsz3 := HB3.out.size
        clear hb3 HC HO2 HB2
        have hfr := HO3.out.frozenAt k
        have hxk : k < xs.length := by rw [HUP.out.1, HZL.out]; exact hlt
        have hcell : w3.cell? ⟨w.heap.size, k, none⟩ = some xs[k] := by
          rw [HO3.out.cellAt k (by omega), List.getElem?_eq_getElem hxk]
        have HST := Lib.hid (World.ownsRow.stored HO3.out k (.int .i64 (lo : Int)))
        have HBS := Lib.hid (HB3.out.setCell (p := ⟨w.heap.size, k, none⟩) (Nat.le_refl _) (.int .i64 (lo : Int)))
        generalize xs[k] = x0 at *
        go_wp2_with fail
        go_roundw
        case rel => exact ⟨k + 1, _, by omega, by go_num, HST.out.1, HUS.out, HBS.out⟩
        case measure => simp [intOf]; omega
      · rw [if_neg hin] at hz
        rw [if_neg hin, decide_eq_false hin] at HC
        have HUS := Lib.hid (uptoI_succ HUP.out (by rw [HZL.out]; exact hlt) (Option.some.inj ((List.getElem?_eq_getElem _).symm.trans hz)))
        clear hz
        go_wp2_with fail
        refine HA.out.mono ?_
        rintro r w2 ⟨rfl, hb2⟩
        have HO2 := Lib.hid (own_below HO.out hb2 (Nat.le_refl _))
        have HB2 := Lib.hid (below_below HB.out hb2 hsz)
        have hsz2 := HB2.out.size
        clear hb2 HA HO HB
        go_wp2_with fail
        refine (HC.out _ HB2.out).mono ?_
        rintro r w3 ⟨rfl, hb3⟩
        have HO3 := Lib.hid (own_below HO2.out hb3 (Nat.le_refl _))
        have HB3 := Lib.hid (below_below HB2.out hb3 hsz2)
        have hsz3 := HB3.out.size
        clear hb3 HC HO2 HB2
        have hfr := HO3.out.frozenAt k
        have hxk : k < xs.length := by rw [HUP.out.1, HZL.out]; exact hlt
        have hcell : w3.cell? ⟨w.heap.size, k, none⟩ = some xs[k] := by
          rw [HO3.out.cellAt k (by omega), List.getElem?_eq_getElem hxk]
        have HST := Lib.hid (World.ownsRow.stored HO3.out k (.int .i64 (-1)))
        have HBS := Lib.hid (HB3.out.setCell (p := ⟨w.heap.size, k, none⟩) (Nat.le_refl _) (.int .i64 (-1)))
        generalize xs[k] = x0 at *
        go_wp2_with fail
        go_roundw
        case rel => exact ⟨k + 1, _, by omega, by go_num, HST.out.1, HUS.out, HBS.out⟩
        case measure => simp [intOf]; omega
    · have ik : ¬ (k : Int) < (t.length : Int) := by omega
      have hke : k = t.length := by omega
      have hx : xs = iv zs := uptoI_all (by rw [HZL.out, ← hke]; exact HUP.out)
      subst hx
      go_wp2_with fail
      go_ret
      exact ⟨_, _, rfl, HO.out, HB.out⟩
end Go.Proofs.Ytihlbcnoficpgaa
