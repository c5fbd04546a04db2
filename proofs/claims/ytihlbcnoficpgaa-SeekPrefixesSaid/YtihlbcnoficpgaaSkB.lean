/-
  The seek package: the questions that bounds ask, bound with each, Lower, Upper, Prefix. (Printed by wip/tools/genskb.py.)
-/
import Derived.Test.YtihlbcnoficpgaaSkP
import Derived.Test.YtihlbcnoficpgaaShPre
import Derived.Test.YtihlbcnoficpgaaCmpB
import Derived.OwnWalk
namespace Go.Proofs.Ytihlbcnoficpgaa
set_option linter.unusedSimpArgs false
set_option linter.unusedVariables false
open Go.RowKit

theorem Dk.below {w w' : World} {d : Nat} {t : List ByteArray} (h : Dk w d t) (hb : Below w.heap.size w w') : Dk w' d t := ⟨h.dc.below hb (Nat.le_refl _), h.rises, h.len, h.size⟩
theorem le_str (a b : ByteArray) : (Op.bytesLess a.toList b.toList || a.toList == b.toList) = decide (cmpL a.data.toList b.data.toList ≤ 0) := by
  rw [less_str, Lib.toList_data, Lib.toList_data]
  by_cases h : cmpL a.data.toList b.data.toList = 0
  · have e := cmpL_zero h
    rw [decide_eq_true (show cmpL a.data.toList b.data.toList ≤ 0 by omega), e]
    simp
  · have hne : (a.data.toList == b.data.toList) = false := beq_eq_false_iff_ne.2 fun e => h (by rw [e, cmpL_same])
    rw [hne, Bool.or_false, decide_eq_decide]
    omega

theorem slow_ask {w : World} (x s : ByteArray) {B : Nat} (hB : w.cell? ⟨B, 0, none⟩ = some (.string s)) :
    Calls Try.prog 29 #[.string x, .pointer (some ⟨B, 0, none⟩)] w fun r w' => r = .returned (.bool (decide (cmpL x.data.toList s.data.toList < 0))) ∧ w = w' := by
  have hless := less_str x s
  generalize decide (cmpL x.data.toList s.data.toList < 0) = v at *
  go_enter Try.func29, Try.ntmps29
  go_wp2
  go_ret
  exact ⟨rfl, rfl⟩

theorem sup_ask {w : World} (x s : ByteArray) {B : Nat} (hB : w.cell? ⟨B, 0, none⟩ = some (.string s)) :
    Calls Try.prog 30 #[.string x, .pointer (some ⟨B, 0, none⟩)] w fun r w' => r = .returned (.bool (decide (cmpL x.data.toList s.data.toList ≤ 0))) ∧ w = w' := by
  have hless := le_str x s
  generalize decide (cmpL x.data.toList s.data.toList ≤ 0) = v at *
  go_enter Try.func30, Try.ntmps30
  go_wp2
  go_ret
  exact ⟨rfl, rfl⟩

theorem spre_ask {w : World} (x s : ByteArray) {B : Nat} (hB : w.cell? ⟨B, 0, none⟩ = some (.string s)) :
    Calls Try.prog 31 #[.string x, .pointer (some ⟨B, 0, none⟩)] w fun r w' => r = .returned (.bool (decide (cmpL x.data.toList s.data.toList < 0) || begL s.data.toList x.data.toList)) ∧ w = w' := by
  have HH := Lib.hid (fun w => hpre_any (w := w) x s)
  have hless := less_str x s
  generalize begL s.data.toList x.data.toList = u at *
  by_cases hv : cmpL x.data.toList s.data.toList < 0
  · rw [decide_eq_true hv] at hless ⊢
    go_enter Try.func31, Try.ntmps31
    go_wp2
    go_ret
    exact ⟨rfl, rfl⟩
  · rw [decide_eq_false hv] at hless ⊢
    go_enter Try.func31, Try.ntmps31
    go_wp2_with fail
    refine (HH.out _).mono ?_
    rintro r w' ⟨rfl, rfl⟩
    go_wp2
    go_ret
    exact ⟨rfl, rfl⟩

set_option maxRecDepth 20000 in
set_option maxHeartbeats 2000000 in
theorem slow_bound {w : World} {d B n : Nat} {t : List ByteArray} {s : ByteArray} (h : Dk w d t) (hB : w.cell? ⟨B, 0, none⟩ = some (.string s)) (hBl : B < w.heap.size) (hn : n ≤ t.length)
    (hP : ∀ i (hi : i < t.length), (fun x : ByteArray => decide (cmpL x.data.toList s.data.toList < 0)) t[i] = decide (i < n)) :
    Calls Try.prog 28 #[.pointer (some ⟨d, 0, none⟩), .func (.func 29) #[] #[.pointer (some ⟨B, 0, none⟩)]] w fun r w' => r = .returned (.int .i64 (n : Int)) ∧ Below w.heap.size w w' := by
  have HL := Lib.hid (flen_any h.dc)
  have H := Lib.hid h
  have HP := Lib.hid hP
  have HB : Hid (∀ wx, Below w.heap.size w wx → wx.cell? ⟨B, 0, none⟩ = some (.string s)) := fun wx hb => by rw [hb.cell (p := ⟨B, 0, none⟩) hBl]; exact hB
  have hlen := h.len
  clear h hP hB
  go_enter Try.func28, Try.ntmps28
  go_wp2_with fail
  refine HL.out.mono ?_
  rintro r w' ⟨rfl, rfl⟩
  go_wp2_with fail
  go_loopw [5, 6] (fun x5 x6 wr => ∃ lo hi : Nat, lo ≤ n ∧ n ≤ hi ∧ hi ≤ t.length ∧ x5 = .int .i64 (lo : Int) ∧ x6 = .int .i64 (hi : Int) ∧ Below w.heap.size w wr) (fun a b _ => (intOf b).toNat - (intOf a).toNat)
  case atStart => exact ⟨0, t.length, Nat.zero_le _, hn, Nat.le_refl _, rfl, rfl, Below.refl _ _⟩
  case round =>
    clear HL
    obtain ⟨lo, hi, h1, h2, h3, rfl, rfl, hb⟩ := hrel
    have HBR := Lib.hid hb
    have hsz := hb.size
    clear hb
    by_cases hlt : lo < hi
    · have ii : (lo : Int) < (hi : Int) := by omega
      obtain ⟨m, hm⟩ : ∃ m, (lo + hi) / 2 = m := ⟨_, rfl⟩
      have hm1 : lo ≤ m := by omega
      have hm2 : m < hi := by omega
      have hmt : m < t.length := by omega
      have ew : (IntKind.i64.wrap ((lo : Int) + (hi : Int))) = (lo : Int) + (hi : Int) := IntWalk.i64_in _ (by omega)
      have et : Int.tdiv ((lo : Int) + (hi : Int)) 2 = (m : Int) := by
        rw [← Int.natCast_add, Int.tdiv_eq_ediv_of_nonneg (by omega)]
        omega
      have et2 : ((lo : Int) + (hi : Int)) / 2 = (m : Int) := by omega
      have HA := Lib.hid (fat_in (H.out.dc.below HBR.out (Nat.le_refl _)) m hmt (by have := H.out.size t[m] (List.getElem_mem hmt); omega))
      have hp := HP.out m hmt
      have HQ : Hid (∀ wx, Below w.heap.size w wx → Calls Try.prog 29 #[.string t[m], .pointer (some ⟨B, 0, none⟩)] wx fun r w' => r = .returned (.bool (decide (m < n))) ∧ wx = w') := fun wx hb => by
        have := slow_ask t[m] s (HB.out wx hb)
        rw [← hp]
        exact this
      clear hm hp
      generalize t[m] = x at *
      by_cases hmn : m < n
      · rw [decide_eq_true hmn] at HQ
        go_wp2_with fail
        refine HA.out.mono ?_
        rintro r w2 ⟨rfl, hb2⟩
        have HB2 := Lib.hid (below_below HBR.out hb2 hsz)
        clear hb2
        go_wp2_with fail
        refine (HQ.out _ HB2.out).mono ?_
        rintro r w3 ⟨rfl, rfl⟩
        go_wp2_with fail
        go_roundw
        case rel => exact ⟨m + 1, hi, by omega, by omega, h3, by go_num, rfl, HB2.out⟩
        case measure => simp [intOf] <;> omega
      · rw [decide_eq_false hmn] at HQ
        go_wp2_with fail
        refine HA.out.mono ?_
        rintro r w2 ⟨rfl, hb2⟩
        have HB2 := Lib.hid (below_below HBR.out hb2 hsz)
        clear hb2
        go_wp2_with fail
        refine (HQ.out _ HB2.out).mono ?_
        rintro r w3 ⟨rfl, rfl⟩
        go_wp2_with fail
        go_roundw
        case rel => exact ⟨lo, m, h1, by omega, by omega, rfl, rfl, HB2.out⟩
        case measure => simp [intOf] <;> omega
    · have ii : ¬ (lo : Int) < (hi : Int) := by omega
      obtain rfl : lo = n := by omega
      go_wp2_with fail
      go_ret
      exact ⟨rfl, HBR.out⟩

set_option maxRecDepth 20000 in
set_option maxHeartbeats 2000000 in
theorem sup_bound {w : World} {d B n : Nat} {t : List ByteArray} {s : ByteArray} (h : Dk w d t) (hB : w.cell? ⟨B, 0, none⟩ = some (.string s)) (hBl : B < w.heap.size) (hn : n ≤ t.length)
    (hP : ∀ i (hi : i < t.length), (fun x : ByteArray => decide (cmpL x.data.toList s.data.toList ≤ 0)) t[i] = decide (i < n)) :
    Calls Try.prog 28 #[.pointer (some ⟨d, 0, none⟩), .func (.func 30) #[] #[.pointer (some ⟨B, 0, none⟩)]] w fun r w' => r = .returned (.int .i64 (n : Int)) ∧ Below w.heap.size w w' := by
  have HL := Lib.hid (flen_any h.dc)
  have H := Lib.hid h
  have HP := Lib.hid hP
  have HB : Hid (∀ wx, Below w.heap.size w wx → wx.cell? ⟨B, 0, none⟩ = some (.string s)) := fun wx hb => by rw [hb.cell (p := ⟨B, 0, none⟩) hBl]; exact hB
  have hlen := h.len
  clear h hP hB
  go_enter Try.func28, Try.ntmps28
  go_wp2_with fail
  refine HL.out.mono ?_
  rintro r w' ⟨rfl, rfl⟩
  go_wp2_with fail
  go_loopw [5, 6] (fun x5 x6 wr => ∃ lo hi : Nat, lo ≤ n ∧ n ≤ hi ∧ hi ≤ t.length ∧ x5 = .int .i64 (lo : Int) ∧ x6 = .int .i64 (hi : Int) ∧ Below w.heap.size w wr) (fun a b _ => (intOf b).toNat - (intOf a).toNat)
  case atStart => exact ⟨0, t.length, Nat.zero_le _, hn, Nat.le_refl _, rfl, rfl, Below.refl _ _⟩
  case round =>
    clear HL
    obtain ⟨lo, hi, h1, h2, h3, rfl, rfl, hb⟩ := hrel
    have HBR := Lib.hid hb
    have hsz := hb.size
    clear hb
    by_cases hlt : lo < hi
    · have ii : (lo : Int) < (hi : Int) := by omega
      obtain ⟨m, hm⟩ : ∃ m, (lo + hi) / 2 = m := ⟨_, rfl⟩
      have hm1 : lo ≤ m := by omega
      have hm2 : m < hi := by omega
      have hmt : m < t.length := by omega
      have ew : (IntKind.i64.wrap ((lo : Int) + (hi : Int))) = (lo : Int) + (hi : Int) := IntWalk.i64_in _ (by omega)
      have et : Int.tdiv ((lo : Int) + (hi : Int)) 2 = (m : Int) := by
        rw [← Int.natCast_add, Int.tdiv_eq_ediv_of_nonneg (by omega)]
        omega
      have et2 : ((lo : Int) + (hi : Int)) / 2 = (m : Int) := by omega
      have HA := Lib.hid (fat_in (H.out.dc.below HBR.out (Nat.le_refl _)) m hmt (by have := H.out.size t[m] (List.getElem_mem hmt); omega))
      have hp := HP.out m hmt
      have HQ : Hid (∀ wx, Below w.heap.size w wx → Calls Try.prog 30 #[.string t[m], .pointer (some ⟨B, 0, none⟩)] wx fun r w' => r = .returned (.bool (decide (m < n))) ∧ wx = w') := fun wx hb => by
        have := sup_ask t[m] s (HB.out wx hb)
        rw [← hp]
        exact this
      clear hm hp
      generalize t[m] = x at *
      by_cases hmn : m < n
      · rw [decide_eq_true hmn] at HQ
        go_wp2_with fail
        refine HA.out.mono ?_
        rintro r w2 ⟨rfl, hb2⟩
        have HB2 := Lib.hid (below_below HBR.out hb2 hsz)
        clear hb2
        go_wp2_with fail
        refine (HQ.out _ HB2.out).mono ?_
        rintro r w3 ⟨rfl, rfl⟩
        go_wp2_with fail
        go_roundw
        case rel => exact ⟨m + 1, hi, by omega, by omega, h3, by go_num, rfl, HB2.out⟩
        case measure => simp [intOf] <;> omega
      · rw [decide_eq_false hmn] at HQ
        go_wp2_with fail
        refine HA.out.mono ?_
        rintro r w2 ⟨rfl, hb2⟩
        have HB2 := Lib.hid (below_below HBR.out hb2 hsz)
        clear hb2
        go_wp2_with fail
        refine (HQ.out _ HB2.out).mono ?_
        rintro r w3 ⟨rfl, rfl⟩
        go_wp2_with fail
        go_roundw
        case rel => exact ⟨lo, m, h1, by omega, by omega, rfl, rfl, HB2.out⟩
        case measure => simp [intOf] <;> omega
    · have ii : ¬ (lo : Int) < (hi : Int) := by omega
      obtain rfl : lo = n := by omega
      go_wp2_with fail
      go_ret
      exact ⟨rfl, HBR.out⟩

set_option maxRecDepth 20000 in
set_option maxHeartbeats 2000000 in
theorem spre_bound {w : World} {d B n : Nat} {t : List ByteArray} {s : ByteArray} (h : Dk w d t) (hB : w.cell? ⟨B, 0, none⟩ = some (.string s)) (hBl : B < w.heap.size) (hn : n ≤ t.length)
    (hP : ∀ i (hi : i < t.length), (fun x : ByteArray => decide (cmpL x.data.toList s.data.toList < 0) || begL s.data.toList x.data.toList) t[i] = decide (i < n)) :
    Calls Try.prog 28 #[.pointer (some ⟨d, 0, none⟩), .func (.func 31) #[] #[.pointer (some ⟨B, 0, none⟩)]] w fun r w' => r = .returned (.int .i64 (n : Int)) ∧ Below w.heap.size w w' := by
  have HL := Lib.hid (flen_any h.dc)
  have H := Lib.hid h
  have HP := Lib.hid hP
  have HB : Hid (∀ wx, Below w.heap.size w wx → wx.cell? ⟨B, 0, none⟩ = some (.string s)) := fun wx hb => by rw [hb.cell (p := ⟨B, 0, none⟩) hBl]; exact hB
  have hlen := h.len
  clear h hP hB
  go_enter Try.func28, Try.ntmps28
  go_wp2_with fail
  refine HL.out.mono ?_
  rintro r w' ⟨rfl, rfl⟩
  go_wp2_with fail
  go_loopw [5, 6] (fun x5 x6 wr => ∃ lo hi : Nat, lo ≤ n ∧ n ≤ hi ∧ hi ≤ t.length ∧ x5 = .int .i64 (lo : Int) ∧ x6 = .int .i64 (hi : Int) ∧ Below w.heap.size w wr) (fun a b _ => (intOf b).toNat - (intOf a).toNat)
  case atStart => exact ⟨0, t.length, Nat.zero_le _, hn, Nat.le_refl _, rfl, rfl, Below.refl _ _⟩
  case round =>
    clear HL
    obtain ⟨lo, hi, h1, h2, h3, rfl, rfl, hb⟩ := hrel
    have HBR := Lib.hid hb
    have hsz := hb.size
    clear hb
    by_cases hlt : lo < hi
    · have ii : (lo : Int) < (hi : Int) := by omega
      obtain ⟨m, hm⟩ : ∃ m, (lo + hi) / 2 = m := ⟨_, rfl⟩
      have hm1 : lo ≤ m := by omega
      have hm2 : m < hi := by omega
      have hmt : m < t.length := by omega
      have ew : (IntKind.i64.wrap ((lo : Int) + (hi : Int))) = (lo : Int) + (hi : Int) := IntWalk.i64_in _ (by omega)
      have et : Int.tdiv ((lo : Int) + (hi : Int)) 2 = (m : Int) := by
        rw [← Int.natCast_add, Int.tdiv_eq_ediv_of_nonneg (by omega)]
        omega
      have et2 : ((lo : Int) + (hi : Int)) / 2 = (m : Int) := by omega
      have HA := Lib.hid (fat_in (H.out.dc.below HBR.out (Nat.le_refl _)) m hmt (by have := H.out.size t[m] (List.getElem_mem hmt); omega))
      have hp := HP.out m hmt
      have HQ : Hid (∀ wx, Below w.heap.size w wx → Calls Try.prog 31 #[.string t[m], .pointer (some ⟨B, 0, none⟩)] wx fun r w' => r = .returned (.bool (decide (m < n))) ∧ wx = w') := fun wx hb => by
        have := spre_ask t[m] s (HB.out wx hb)
        rw [← hp]
        exact this
      clear hm hp
      generalize t[m] = x at *
      by_cases hmn : m < n
      · rw [decide_eq_true hmn] at HQ
        go_wp2_with fail
        refine HA.out.mono ?_
        rintro r w2 ⟨rfl, hb2⟩
        have HB2 := Lib.hid (below_below HBR.out hb2 hsz)
        clear hb2
        go_wp2_with fail
        refine (HQ.out _ HB2.out).mono ?_
        rintro r w3 ⟨rfl, rfl⟩
        go_wp2_with fail
        go_roundw
        case rel => exact ⟨m + 1, hi, by omega, by omega, h3, by go_num, rfl, HB2.out⟩
        case measure => simp [intOf] <;> omega
      · rw [decide_eq_false hmn] at HQ
        go_wp2_with fail
        refine HA.out.mono ?_
        rintro r w2 ⟨rfl, hb2⟩
        have HB2 := Lib.hid (below_below HBR.out hb2 hsz)
        clear hb2
        go_wp2_with fail
        refine (HQ.out _ HB2.out).mono ?_
        rintro r w3 ⟨rfl, rfl⟩
        go_wp2_with fail
        go_roundw
        case rel => exact ⟨lo, m, h1, by omega, by omega, rfl, rfl, HB2.out⟩
        case measure => simp [intOf] <;> omega
    · have ii : ¬ (lo : Int) < (hi : Int) := by omega
      obtain rfl : lo = n := by omega
      go_wp2_with fail
      go_ret
      exact ⟨rfl, HBR.out⟩

theorem low_ask {t : List ByteArray} (h : risesL (bytL2 t) = true) (s : ByteArray) : ∀ i (hi : i < t.length), decide (cmpL t[i].data.toList s.data.toList < 0) = decide (i < lowN (bytL2 t) s.data.toList) := fun i hi => by
  have h1 := lowN_iff h s.data.toList (i := i) (by rw [bytL2_length]; exact hi)
  rw [bytL2_get t i hi] at h1
  rw [decide_eq_decide]
  exact h1
theorem up_ask {t : List ByteArray} (h : risesL (bytL2 t) = true) (s : ByteArray) : ∀ i (hi : i < t.length), decide (cmpL t[i].data.toList s.data.toList ≤ 0) = decide (i < upN (bytL2 t) s.data.toList) := fun i hi => by
  have h1 := upN_iff h s.data.toList (i := i) (by rw [bytL2_length]; exact hi)
  rw [bytL2_get t i hi] at h1
  rw [decide_eq_decide]
  exact h1
theorem pre_ask {t : List ByteArray} (h : risesL (bytL2 t) = true) (s : ByteArray) : ∀ i (hi : i < t.length), (decide (cmpL t[i].data.toList s.data.toList < 0) || begL s.data.toList t[i].data.toList) = decide (i < preN (bytL2 t) s.data.toList) := fun i hi => by
  have h1 := preN_iff h s.data.toList (i := i) (by rw [bytL2_length]; exact hi)
  rw [bytL2_get t i hi] at h1
  rw [Bool.eq_iff_iff, Bool.or_eq_true, decide_eq_true_eq, decide_eq_true_eq]
  exact h1

set_option maxRecDepth 20000 in
theorem slow_any {w : World} {d : Nat} {t : List ByteArray} (h : Dk w d t) (s : ByteArray) (hs : s.size ≤ 1000000) :
    Calls Try.prog 12 #[.pointer (some ⟨d, 0, none⟩), .string s] w fun r w' => r = .returned (.int .i64 (lowN (bytL2 t) s.data.toList : Int)) ∧ Below w.heap.size w w' := by
  obtain ⟨w1, hw1⟩ : ∃ q, w.alloc (.cells #[.string s] 9) = q := ⟨_, rfl⟩
  have hB1 : Below w.heap.size w w1 := by rw [← hw1]; exact (Below.refl _ w).alloc (Nat.le_refl _) _
  have hc1 : w1.cell? ⟨w.heap.size, 0, none⟩ = some (.string s) := by rw [← hw1, World.cell?_alloc_at _ _ _ _ rfl]; rfl
  have hl1 : w.heap.size < w1.heap.size := by rw [← hw1]; simp
  have hdk := h.below hB1
  have hle := lowN_le (bytL2 t) s.data.toList
  rw [bytL2_length] at hle
  have HQ := Lib.hid (slow_bound hdk hc1 hl1 hle (low_ask hdk.rises s))
  have HB1 := Lib.hid hB1
  generalize lowN (bytL2 t) s.data.toList = n at *
  clear h hB1 hdk
  go_enter Try.func12, Try.ntmps12
  go_wp2_with fail
  refine HQ.out.mono ?_
  rintro r w2 ⟨rfl, hb2⟩
  go_wp2_with fail
  go_ret
  exact ⟨rfl, HB1.out.trans (hb2.mono (by omega))⟩

set_option maxRecDepth 20000 in
theorem sup_any {w : World} {d : Nat} {t : List ByteArray} (h : Dk w d t) (s : ByteArray) (hs : s.size ≤ 1000000) :
    Calls Try.prog 13 #[.pointer (some ⟨d, 0, none⟩), .string s] w fun r w' => r = .returned (.int .i64 (upN (bytL2 t) s.data.toList : Int)) ∧ Below w.heap.size w w' := by
  obtain ⟨w1, hw1⟩ : ∃ q, w.alloc (.cells #[.string s] 9) = q := ⟨_, rfl⟩
  have hB1 : Below w.heap.size w w1 := by rw [← hw1]; exact (Below.refl _ w).alloc (Nat.le_refl _) _
  have hc1 : w1.cell? ⟨w.heap.size, 0, none⟩ = some (.string s) := by rw [← hw1, World.cell?_alloc_at _ _ _ _ rfl]; rfl
  have hl1 : w.heap.size < w1.heap.size := by rw [← hw1]; simp
  have hdk := h.below hB1
  have hle := upN_le (bytL2 t) s.data.toList
  rw [bytL2_length] at hle
  have HQ := Lib.hid (sup_bound hdk hc1 hl1 hle (up_ask hdk.rises s))
  have HB1 := Lib.hid hB1
  generalize upN (bytL2 t) s.data.toList = n at *
  clear h hB1 hdk
  go_enter Try.func13, Try.ntmps13
  go_wp2_with fail
  refine HQ.out.mono ?_
  rintro r w2 ⟨rfl, hb2⟩
  go_wp2_with fail
  go_ret
  exact ⟨rfl, HB1.out.trans (hb2.mono (by omega))⟩

set_option maxRecDepth 20000 in
theorem spre_any {w : World} {d : Nat} {t : List ByteArray} (h : Dk w d t) (s : ByteArray) (hs : s.size ≤ 1000000) :
    Calls Try.prog 14 #[.pointer (some ⟨d, 0, none⟩), .string s] w fun r w' => r = .returned (.tuple #[.int .i64 (lowN (bytL2 t) s.data.toList : Int), .int .i64 (preN (bytL2 t) s.data.toList : Int)]) ∧ Below w.heap.size w w' := by
  obtain ⟨w1, hw1⟩ : ∃ q, w.alloc (.cells #[.string s] 9) = q := ⟨_, rfl⟩
  have hB1 : Below w.heap.size w w1 := by rw [← hw1]; exact (Below.refl _ w).alloc (Nat.le_refl _) _
  have hc1 : w1.cell? ⟨w.heap.size, 0, none⟩ = some (.string s) := by rw [← hw1, World.cell?_alloc_at _ _ _ _ rfl]; rfl
  have hl1 : w.heap.size < w1.heap.size := by rw [← hw1]; simp
  have hdk := h.below hB1
  have hle := preN_le (bytL2 t) s.data.toList
  rw [bytL2_length] at hle
  have HQ := Lib.hid (spre_bound hdk hc1 hl1 hle (pre_ask hdk.rises s))
  have HB1 := Lib.hid hB1
  have HDK := Lib.hid hdk
  have HLO : Hid (∀ wx, Below w1.heap.size w1 wx → Calls Try.prog 12 #[.pointer (some ⟨d, 0, none⟩), .string s] wx fun r w' => r = .returned (.int .i64 (lowN (bytL2 t) s.data.toList : Int)) ∧ Below wx.heap.size wx w') := fun wx hb => slow_any (hdk.below hb) s hs
  generalize preN (bytL2 t) s.data.toList = n at *
  generalize lowN (bytL2 t) s.data.toList = k at *
  clear h hB1 hdk
  go_enter Try.func14, Try.ntmps14
  go_wp2_with fail
  refine HQ.out.mono ?_
  rintro r w2 ⟨rfl, hb2⟩
  have HB2 := Lib.hid hb2
  have hs2 := hb2.size
  have hc2 : w2.cell? ⟨w.heap.size, 0, none⟩ = some (.string s) := by rw [hb2.cell (p := ⟨w.heap.size, 0, none⟩) hl1]; exact hc1
  clear hb2
  go_wp2_with fail
  refine (HLO.out _ HB2.out).mono ?_
  rintro r w3 ⟨rfl, hb3⟩
  go_wp2_with fail
  go_ret2
  exact ⟨rfl, (HB1.out.trans (HB2.out.mono (by omega))).trans (hb3.mono (by omega))⟩
end Go.Proofs.Ytihlbcnoficpgaa
