/-
  The bitmap's functions that make rows anew: Not, both, And, Or.
-/
import Derived.Test.YtiainckeakhccaaBmA
import Derived.Laws.OwnMore
namespace Go.Proofs.Ytiainckeakhccaa
set_option linter.unusedSimpArgs false
set_option linter.unusedVariables false
open Go.RowKit

theorem Try.infoBool : (Try.prog.info? 4).map (fun i => (i.zero, i.size, i.bytes)) = some (some (.bool false), 1, 1) := by kernel_rfl

theorem make_bools (w : World) (n : Nat) (h : n ≤ 281474976710656) : ∃ w1, (Instr.makeSlice 22 (.int .i64 (n : Int)) (.int .i64 (n : Int))).run Try.prog w = .ok (.slice (some ⟨w.heap.size, 0, none⟩) n n) w1 ∧
    w1.ownsRow w.heap.size 4 1 (.slice (some ⟨w.heap.size, 0, none⟩) n n) n (List.replicate n (.bool false)) ∧ w.grownBy w1 none := by
  obtain ⟨i0, hi0, hz0, hz1, hz2⟩ := info_parts Try.infoBool
  have := run_make_full (P := Try.prog) w w.heap.size 22 4 i0 _ 1 Try.underlying22 hi0 hz0 hz1 .i64 .i64 n (by rw [hz2]; omega) (by simp only [maxLen]; omega) (Nat.le_refl _)
  rw [Nat.mul_one, show (Value.bool false).cells = #[.bool false] from rfl, toList_madeCells_one] at this
  exact this

/-- cells that are filled up to k as ys says -/
def Fill (ys : List Value) (k : Nat) (xs : List Value) : Prop := xs.length = ys.length ∧ ∀ j, j < k → xs[j]? = ys[j]?
theorem fill_zero {ys xs : List Value} (h : xs.length = ys.length) : Fill ys 0 xs := ⟨h, fun j hj => absurd hj (Nat.not_lt_zero j)⟩
theorem fill_all {ys xs : List Value} {k : Nat} (h : Fill ys k xs) (hk : ys.length ≤ k) : xs = ys := by
  apply List.ext_getElem?
  intro j
  by_cases hj : j < k
  · exact h.2 j hj
  · rw [List.getElem?_eq_none (by rw [h.1]; omega), List.getElem?_eq_none (by omega)]
theorem fill_succ {ys xs : List Value} {k : Nat} (h : Fill ys k xs) (u : Value) (hu : ys[k]? = some u) : Fill ys (k + 1) (xs.set k u) := by
  have hk : k < ys.length := (List.getElem?_eq_some_iff.1 hu).1
  refine ⟨by rw [List.length_set]; exact h.1, fun j hj => ?_⟩
  by_cases e : j = k
  · subst e
    rw [List.getElem?_set_self (by rw [h.1]; exact hk), hu]
  · rw [List.getElem?_set_ne (by omega)]
    exact h.2 j (by omega)

/-- Not -/
theorem not_any {w : World} (l : List Bool) {h' : Nat} {A : Option Addr} {c : Nat} (h : Rd w 0 h' A c (lv l)) (hh : h' ≤ w.heap.size) (hlen : l.length ≤ 140737488355328) :
    Calls Try.prog 22 #[.slice A l.length c] w fun r w' => ∃ A' c', r = .returned (.slice A' l.length c') ∧
      w'.ownsRow w.heap.size 4 1 (.slice A' l.length c') l.length (lv (l.map not)) ∧ Below w.heap.size w w' := by
  have hl := h.len
  have hc := h.cap
  rw [lv_length] at hl
  unfold maxLen at hc
  obtain ⟨w1, hmake, ho1, hg1⟩ := make_bools w l.length (by omega)
  have hb1 : Below w.heap.size w w1 := (Below.refl _ _).grown hg1 (Nat.le_refl _) (by simp)
  have HO1 := Lib.hid ho1
  have HB1 := Lib.hid hb1
  have H := Lib.hid h
  clear h ho1 hg1 hb1
  go_enter Try.func22, Try.ntmps22
  go_wp2_with fail
  go_loopw [11] (fun i wr => ∃ (k : Nat) (xs : List Value), k ≤ l.length ∧ i = .int .i64 (k : Int) ∧ Fill (lv (l.map not)) k xs ∧
      wr.ownsRow w.heap.size 4 1 (.slice (some ⟨w.heap.size, 0, none⟩) l.length l.length) l.length xs ∧ Below w.heap.size w wr) (fun i _ => l.length - (intOf i).toNat)
  case atStart => exact ⟨0, _, Nat.zero_le _, rfl, fill_zero (by simp [lv]), HO1.out, HB1.out⟩
  case round =>
    obtain ⟨k, xs, hk, rfl, hf, ho, hb⟩ := hrel
    have HF := Lib.hid hf
    have HO := Lib.hid ho
    have HB := Lib.hid hb
    clear hf ho hb
    by_cases hlt : k < l.length
    · obtain ⟨b, off, rfl, _, hbh, hcell⟩ := (H.out.below HB.out hh).row hlt
      have hfr := HO.out.frozenAt k
      have hxk : k < xs.length := by rw [HF.out.1]; simp [lv]; exact hlt
      have hcx : wr.cell? ⟨w.heap.size, k, none⟩ = some xs[k] := by
        rw [HO.out.cellAt k (by omega), List.getElem?_eq_getElem hxk]
      have HST := fun u => Lib.hid (HO.out.stored k u)
      have hu : (lv (l.map not))[k]? = some (.bool (!l[k])) := by simp [lv, hlt]
      have HU := Lib.hid hu
      clear hu
      generalize xs[k] = x0 at *
      generalize l[k] = x at *
      go_wp2
      go_roundw
      case rel =>
        refine ⟨k + 1, _, by omega, by go_num, fill_succ HF.out _ HU.out, (HST _).out.1, ?_⟩
        exact below_some HB.out (HST _).out.2 HB.out.size (Nat.le_refl _)
      case measure => simp [intOf]; omega
    · obtain rfl : k = l.length := by omega
      have hall := fill_all HF.out (by simp [lv])
      have hoL := HO.out
      rw [hall] at hoL
      have HOL := Lib.hid hoL
      clear hall hoL
      go_wp2
      go_ret
      exact ⟨_, _, rfl, HOL.out, HB.out⟩
theorem not_len {w : World} (l l' : List Bool) (n : Nat) (hl' : l.map not = l') (hn : l.length = n) {h' : Nat} {A : Option Addr} {c : Nat} (h : Rd w 0 h' A c (lv l)) (hh : h' ≤ w.heap.size) (hlen : n ≤ 140737488355328) :
    Calls Try.prog 22 #[.slice A n c] w fun r w' => ∃ A' c', r = .returned (.slice A' n c') ∧
      w'.ownsRow w.heap.size 4 1 (.slice A' n c') n (lv l') ∧ Below w.heap.size w w' := by
  subst hl' hn
  exact not_any l h hh hlen

theorem and_rule {w : World} (x y : Bool) : Calls Try.prog 36 #[.bool x, .bool y] w fun r w' => r = .returned (.bool (x && y)) ∧ w = w' := by
  cases x
  · go_enter Try.func36, Try.ntmps36
    go_wp2
    go_ret
    exact ⟨rfl, rfl⟩
  · go_enter Try.func36, Try.ntmps36
    go_wp2
    go_ret
    exact ⟨rfl, rfl⟩
theorem or_rule {w : World} (x y : Bool) : Calls Try.prog 37 #[.bool x, .bool y] w fun r w' => r = .returned (.bool (x || y)) ∧ w = w' := by
  cases x
  · go_enter Try.func37, Try.ntmps37
    go_wp2
    go_ret
    exact ⟨rfl, rfl⟩
  · go_enter Try.func37, Try.ntmps37
    go_wp2
    go_ret
    exact ⟨rfl, rfl⟩
/-- both, of the rule of And -/
theorem both_and {w : World} (a b : List Bool) {h' h2 : Nat} {A B : Option Addr} {c d : Nat} (ha : Rd w 0 h' A c (lv a)) (hb : Rd w 0 h2 B d (lv b)) (hh : h' ≤ w.heap.size) (hh2 : h2 ≤ w.heap.size) (hlen : a.length = b.length) (hla : a.length ≤ 140737488355328) :
    Calls Try.prog 35 #[.slice A a.length c, .slice B b.length d, .func (.func 36) #[] #[]] w fun r w' => ∃ A' c', r = .returned (.slice A' a.length c') ∧
      w'.ownsRow w.heap.size 4 1 (.slice A' a.length c') a.length (lv (List.zipWith and a b)) ∧ Below w.heap.size w w' := by
  have hl := ha.len
  have hc := ha.cap
  have hl2 := hb.len
  have hc2 := hb.cap
  rw [lv_length] at hl hl2
  unfold maxLen at hc hc2
  obtain ⟨w1, hmake, ho1, hg1⟩ := make_bools w a.length (by omega)
  have hb1 : Below w.heap.size w w1 := (Below.refl _ _).grown hg1 (Nat.le_refl _) (by simp)
  have hz : (List.zipWith and a b).length = a.length := by rw [List.length_zipWith, ← hlen, Nat.min_self]
  have hne : ((a.length : Int) != (b.length : Int)) = false := by rw [hlen]; simp
  have HL1 : a.length ≤ b.length := by omega
  have HL2 : b.length ≤ a.length := by omega
  have HZ := Lib.hid hz
  have HO1 := Lib.hid ho1
  have HB1 := Lib.hid hb1
  have HX := Lib.hid ha
  have HY := Lib.hid hb
  clear ha hb ho1 hg1 hb1 hlen hz
  go_enter Try.func35, Try.ntmps35
  go_wp2_with fail
  go_loopw [20] (fun i wr => ∃ (k : Nat) (xs : List Value), k ≤ a.length ∧ i = .int .i64 (k : Int) ∧ Fill (lv (List.zipWith and a b)) k xs ∧
      wr.ownsRow w.heap.size 4 1 (.slice (some ⟨w.heap.size, 0, none⟩) a.length a.length) a.length xs ∧ Below w.heap.size w wr) (fun i _ => a.length - (intOf i).toNat)
  case atStart => exact ⟨0, _, Nat.zero_le _, rfl, fill_zero (by rw [List.length_replicate, lv_length, HZ.out]), HO1.out, HB1.out⟩
  case round =>
    obtain ⟨k, xs, hk, rfl, hf, ho, hb⟩ := hrel
    have HFI := Lib.hid hf
    have HO := Lib.hid ho
    have HB := Lib.hid hb
    clear hf ho hb
    by_cases hlt : k < a.length
    · have hlt2 : k < b.length := by omega
      obtain ⟨b1, o1, rfl, _, _, hcell1⟩ := (HX.out.below HB.out hh).row hlt
      obtain ⟨b2, o2, rfl, _, _, hcell2⟩ := (HY.out.below HB.out hh2).row hlt2
      have hfr := HO.out.frozenAt k
      have hxk : k < xs.length := by rw [HFI.out.1, lv_length, HZ.out]; exact hlt
      have hcx : wr.cell? ⟨w.heap.size, k, none⟩ = some xs[k] := by
        rw [HO.out.cellAt k (by omega), List.getElem?_eq_getElem hxk]
      have HST := fun u => Lib.hid (HO.out.stored k u)
      have hu : (lv (List.zipWith and a b))[k]? = some (.bool (and a[k] b[k])) := by simp [lv, hlt, hlt2, List.getElem?_zipWith]
      have HU := Lib.hid hu
      clear hu
      generalize xs[k] = x0 at *
      generalize a[k] = x at *
      generalize b[k] = y at *
      go_wp2_with fail
      refine (and_rule _ _).mono ?_
      rintro r w' ⟨rfl, rfl⟩
      go_wp2
      go_roundw
      case rel =>
        refine ⟨k + 1, _, by omega, by go_num, fill_succ HFI.out _ HU.out, (HST _).out.1, ?_⟩
        exact below_some HB.out (HST _).out.2 HB.out.size (Nat.le_refl _)
      case measure => simp [intOf]; omega
    · obtain rfl : k = a.length := by omega
      have hall := fill_all HFI.out (by rw [lv_length, HZ.out]; exact Nat.le_refl _)
      have hoL := HO.out
      rw [hall] at hoL
      have HOL := Lib.hid hoL
      clear hall hoL
      go_wp2
      go_ret
      exact ⟨_, _, rfl, HOL.out, HB.out⟩
/-- both, of the rule of Or -/
theorem both_or {w : World} (a b : List Bool) {h' h2 : Nat} {A B : Option Addr} {c d : Nat} (ha : Rd w 0 h' A c (lv a)) (hb : Rd w 0 h2 B d (lv b)) (hh : h' ≤ w.heap.size) (hh2 : h2 ≤ w.heap.size) (hlen : a.length = b.length) (hla : a.length ≤ 140737488355328) :
    Calls Try.prog 35 #[.slice A a.length c, .slice B b.length d, .func (.func 37) #[] #[]] w fun r w' => ∃ A' c', r = .returned (.slice A' a.length c') ∧
      w'.ownsRow w.heap.size 4 1 (.slice A' a.length c') a.length (lv (List.zipWith or a b)) ∧ Below w.heap.size w w' := by
  have hl := ha.len
  have hc := ha.cap
  have hl2 := hb.len
  have hc2 := hb.cap
  rw [lv_length] at hl hl2
  unfold maxLen at hc hc2
  obtain ⟨w1, hmake, ho1, hg1⟩ := make_bools w a.length (by omega)
  have hb1 : Below w.heap.size w w1 := (Below.refl _ _).grown hg1 (Nat.le_refl _) (by simp)
  have hz : (List.zipWith or a b).length = a.length := by rw [List.length_zipWith, ← hlen, Nat.min_self]
  have hne : ((a.length : Int) != (b.length : Int)) = false := by rw [hlen]; simp
  have HL1 : a.length ≤ b.length := by omega
  have HL2 : b.length ≤ a.length := by omega
  have HZ := Lib.hid hz
  have HO1 := Lib.hid ho1
  have HB1 := Lib.hid hb1
  have HX := Lib.hid ha
  have HY := Lib.hid hb
  clear ha hb ho1 hg1 hb1 hlen hz
  go_enter Try.func35, Try.ntmps35
  go_wp2_with fail
  go_loopw [20] (fun i wr => ∃ (k : Nat) (xs : List Value), k ≤ a.length ∧ i = .int .i64 (k : Int) ∧ Fill (lv (List.zipWith or a b)) k xs ∧
      wr.ownsRow w.heap.size 4 1 (.slice (some ⟨w.heap.size, 0, none⟩) a.length a.length) a.length xs ∧ Below w.heap.size w wr) (fun i _ => a.length - (intOf i).toNat)
  case atStart => exact ⟨0, _, Nat.zero_le _, rfl, fill_zero (by rw [List.length_replicate, lv_length, HZ.out]), HO1.out, HB1.out⟩
  case round =>
    obtain ⟨k, xs, hk, rfl, hf, ho, hb⟩ := hrel
    have HFI := Lib.hid hf
    have HO := Lib.hid ho
    have HB := Lib.hid hb
    clear hf ho hb
    by_cases hlt : k < a.length
    · have hlt2 : k < b.length := by omega
      obtain ⟨b1, o1, rfl, _, _, hcell1⟩ := (HX.out.below HB.out hh).row hlt
      obtain ⟨b2, o2, rfl, _, _, hcell2⟩ := (HY.out.below HB.out hh2).row hlt2
      have hfr := HO.out.frozenAt k
      have hxk : k < xs.length := by rw [HFI.out.1, lv_length, HZ.out]; exact hlt
      have hcx : wr.cell? ⟨w.heap.size, k, none⟩ = some xs[k] := by
        rw [HO.out.cellAt k (by omega), List.getElem?_eq_getElem hxk]
      have HST := fun u => Lib.hid (HO.out.stored k u)
      have hu : (lv (List.zipWith or a b))[k]? = some (.bool (or a[k] b[k])) := by simp [lv, hlt, hlt2, List.getElem?_zipWith]
      have HU := Lib.hid hu
      clear hu
      generalize xs[k] = x0 at *
      generalize a[k] = x at *
      generalize b[k] = y at *
      go_wp2_with fail
      refine (or_rule _ _).mono ?_
      rintro r w' ⟨rfl, rfl⟩
      go_wp2
      go_roundw
      case rel =>
        refine ⟨k + 1, _, by omega, by go_num, fill_succ HFI.out _ HU.out, (HST _).out.1, ?_⟩
        exact below_some HB.out (HST _).out.2 HB.out.size (Nat.le_refl _)
      case measure => simp [intOf]; omega
    · obtain rfl : k = a.length := by omega
      have hall := fill_all HFI.out (by rw [lv_length, HZ.out]; exact Nat.le_refl _)
      have hoL := HO.out
      rw [hall] at hoL
      have HOL := Lib.hid hoL
      clear hall hoL
      go_wp2
      go_ret
      exact ⟨_, _, rfl, HOL.out, HB.out⟩
theorem both_none (F : FuncId) {w : World} (n m : Nat) (h : n ≠ m) {A B : Option Addr} {c d : Nat} :
    Calls Try.prog 35 #[.slice A n c, .slice B m d, .func (.func F) #[] #[]] w fun r w' => r = .returned (.slice none 0 0) ∧ w = w' := by
  have hne : ((n : Int) != (m : Int)) = true := by rw [bne_iff_ne]; omega
  clear h
  go_enter Try.func35, Try.ntmps35
  go_wp2
  go_ret
  exact ⟨rfl, rfl⟩

/-- And -/
theorem and_any {w : World} (a b : List Bool) {h' h2 : Nat} {A B : Option Addr} {c d : Nat} (ha : Rd w 0 h' A c (lv a)) (hb : Rd w 0 h2 B d (lv b)) (hh : h' ≤ w.heap.size) (hh2 : h2 ≤ w.heap.size) (hlen : a.length = b.length) (hla : a.length ≤ 140737488355328) :
    Calls Try.prog 23 #[.slice A a.length c, .slice B b.length d] w fun r w' => ∃ A' c', r = .returned (.slice A' a.length c') ∧
      w'.ownsRow w.heap.size 4 1 (.slice A' a.length c') a.length (lv (List.zipWith and a b)) ∧ Below w.heap.size w w' := by
  have HC := Lib.hid (both_and a b ha hb hh hh2 hlen hla)
  clear ha hb hlen
  go_enter Try.func23, Try.ntmps23
  go_wp2_with fail
  refine HC.out.mono ?_
  rintro r w' ⟨A', c', rfl, ho, hb⟩
  have HO := Lib.hid ho
  have HB := Lib.hid hb
  clear ho hb
  go_wp2
  go_ret
  exact ⟨_, _, rfl, HO.out, HB.out⟩
theorem and_none {w : World} (n m : Nat) (h : n ≠ m) {A B : Option Addr} {c d : Nat} :
    Calls Try.prog 23 #[.slice A n c, .slice B m d] w fun r w' => r = .returned (.slice none 0 0) ∧ w = w' := by
  have HC := Lib.hid (both_none 36 (w := w) (A := A) (B := B) (c := c) (d := d) n m h)
  clear h
  go_enter Try.func23, Try.ntmps23
  go_wp2_with fail
  refine HC.out.mono ?_
  rintro r w' ⟨rfl, rfl⟩
  go_wp2
  go_ret
  exact ⟨rfl, rfl⟩
/-- Or -/
theorem or_any {w : World} (a b : List Bool) {h' h2 : Nat} {A B : Option Addr} {c d : Nat} (ha : Rd w 0 h' A c (lv a)) (hb : Rd w 0 h2 B d (lv b)) (hh : h' ≤ w.heap.size) (hh2 : h2 ≤ w.heap.size) (hlen : a.length = b.length) (hla : a.length ≤ 140737488355328) :
    Calls Try.prog 24 #[.slice A a.length c, .slice B b.length d] w fun r w' => ∃ A' c', r = .returned (.slice A' a.length c') ∧
      w'.ownsRow w.heap.size 4 1 (.slice A' a.length c') a.length (lv (List.zipWith or a b)) ∧ Below w.heap.size w w' := by
  have HC := Lib.hid (both_or a b ha hb hh hh2 hlen hla)
  clear ha hb hlen
  go_enter Try.func24, Try.ntmps24
  go_wp2_with fail
  refine HC.out.mono ?_
  rintro r w' ⟨A', c', rfl, ho, hb⟩
  have HO := Lib.hid ho
  have HB := Lib.hid hb
  clear ho hb
  go_wp2
  go_ret
  exact ⟨_, _, rfl, HO.out, HB.out⟩
theorem or_none {w : World} (n m : Nat) (h : n ≠ m) {A B : Option Addr} {c d : Nat} :
    Calls Try.prog 24 #[.slice A n c, .slice B m d] w fun r w' => r = .returned (.slice none 0 0) ∧ w = w' := by
  have HC := Lib.hid (both_none 37 (w := w) (A := A) (B := B) (c := c) (d := d) n m h)
  clear h
  go_enter Try.func24, Try.ntmps24
  go_wp2_with fail
  refine HC.out.mono ?_
  rintro r w' ⟨rfl, rfl⟩
  go_wp2
  go_ret
  exact ⟨rfl, rfl⟩
theorem or_len {w : World} (a b l : List Bool) (n : Nat) (hl : List.zipWith or a b = l) {h' h2 : Nat} {A B : Option Addr} {c d : Nat} (ha : Rd w 0 h' A c (lv a)) (hb : Rd w 0 h2 B d (lv b)) (hh : h' ≤ w.heap.size) (hh2 : h2 ≤ w.heap.size) (hn : a.length = n) (hm : b.length = n) (hla : n ≤ 140737488355328) :
    Calls Try.prog 24 #[.slice A n c, .slice B n d] w fun r w' => ∃ A' c', r = .returned (.slice A' n c') ∧
      w'.ownsRow w.heap.size 4 1 (.slice A' n c') n (lv l) ∧ Below w.heap.size w w' := by
  subst hl hn
  have := or_any a b ha hb hh hh2 hm.symm hla
  rw [hm] at this
  exact this
theorem and_len {w : World} (a b l : List Bool) (n : Nat) (hl : List.zipWith and a b = l) {h' h2 : Nat} {A B : Option Addr} {c d : Nat} (ha : Rd w 0 h' A c (lv a)) (hb : Rd w 0 h2 B d (lv b)) (hh : h' ≤ w.heap.size) (hh2 : h2 ≤ w.heap.size) (hn : a.length = n) (hm : b.length = n) (hla : n ≤ 140737488355328) :
    Calls Try.prog 23 #[.slice A n c, .slice B n d] w fun r w' => ∃ A' c', r = .returned (.slice A' n c') ∧
      w'.ownsRow w.heap.size 4 1 (.slice A' n c') n (lv l) ∧ Below w.heap.size w w' := by
  subst hl hn
  have := and_any a b ha hb hh hh2 hm.symm hla
  rw [hm] at this
  exact this
/-- rows that are owned, as rows that are read -/
theorem rd_own {w : World} {base n c : Nat} {A : Option Addr} {e : TypeId} {xs : List Value} (h : w.ownsRow base e 1 (.slice A n c) n xs) : Rd w 0 w.heap.size A c xs := (Rd.own h).wide (Nat.zero_le _) (Nat.le_refl _)
end Go.Proofs.Ytiainckeakhccaa
