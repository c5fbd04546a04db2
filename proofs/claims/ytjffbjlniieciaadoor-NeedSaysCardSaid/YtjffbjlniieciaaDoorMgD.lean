/-
  The program's need: opposite, answer; is there a kid, a run, of which a function literal says yes? (Printed by wip/tools/gennc.py.)
  The program's need: compare, signs, holds. (Printed by wip/tools/gennd2.py.)
  The program's need: nests, asks. (Printed by wip/tools/gennd3.py.)
  The program's need: allRight, right, Right. (Printed by wip/tools/gennd4.py.)
  The program's need: weigh, says, Says. (Printed by wip/tools/gennd5.py.)
  The program's need: skip, Skip. (Printed by wip/tools/gennd6.py.)
-/
import Derived.Test.YtjffbjlniieciaaDoorNdF
import Derived.Test.YtjffbjlniieciaaDoorMgP
import Derived.Test.YtjffbjlniieciaaDoorMgU
import Derived.Test.YtjffbjlniieciaaDoorMgR
import Derived.Deep.RegionHeld3
import Derived.Test.YtjffbjlniieciaaDoorMgQ
import Derived.Test.YtjffbjlniieciaaDoorMgF
namespace Go.Proofs.YtjffbjlniieciaaDoor
set_option linter.unusedSimpArgs false
set_option linter.unusedVariables false
open Go.RowKit

def oppI (z : Int) : Int := if z = 0 then 1 else if z = 1 then 0 else 2
theorem opp_any {w : World} (z : Int) : Calls Tryd.prog 38 #[.int .i64 z] w fun r w' => r = .returned (.int .i64 (oppI z)) ∧ w = w' := by
  unfold oppI
  by_cases h0 : z = 0
  · subst h0
    go_enter Tryd.func38, Tryd.ntmps38
    go_wp2
    go_ret
    exact ⟨rfl, rfl⟩
  · by_cases h1 : z = 1
    · subst h1
      go_enter Tryd.func38, Tryd.ntmps38
      go_wp2
      go_ret
      exact ⟨rfl, rfl⟩
    · rw [if_neg h0, if_neg h1]
      have e0 : (z == 0) = false := beq_eq_false_iff_ne.2 h0
      have e1 : (z == 1) = false := beq_eq_false_iff_ne.2 h1
      go_enter Tryd.func38, Tryd.ntmps38
      go_wp2
      go_ret
      exact ⟨rfl, rfl⟩
theorem ans_any {w : World} (b : Bool) : Calls Tryd.prog 39 #[.bool b] w fun r w' => r = .returned (.int .i64 (bitI b)) ∧ w = w' := by
  unfold bitI
  cases b with
  | true =>
    go_enter Tryd.func39, Tryd.ntmps39
    go_wp2
    go_ret
    exact ⟨rfl, rfl⟩
  | false =>
    go_enter Tryd.func39, Tryd.ntmps39
    go_wp2
    go_ret
    exact ⟨rfl, rfl⟩

set_option maxRecDepth 20000 in
set_option maxHeartbeats 2000000 in
theorem idx_right {w : World} {lo hi B0 B1 : Nat} {ks : List Pr} {A : Option Addr} {c : Nat} (hk : Kin w lo hi ks A c) (hhi : hi ≤ w.heap.size) (f : Pr → Bool)
    (hq : ∀ q ∈ ks, ∀ W, Below w.heap.size w W → ∀ A2 c2, PrOk q → Kin W lo hi q.kids A2 c2 → Calls Tryd.prog 54 #[.agg #[.int .i64 q.kind, .int .i64 q.col, .string q.s, .int .i64 q.esc, .int .i64 q.coll, .slice A2 q.kids.length c2], .pointer (some ⟨B0, 0, none⟩), .pointer (some ⟨B1, 0, none⟩)] W fun r w' => r = .returned (.bool (f q)) ∧ Below W.heap.size W w') :
    Calls Tryd.prog 64 #[.slice A ks.length c, .func (.func 54) #[] #[.pointer (some ⟨B0, 0, none⟩), .pointer (some ⟨B1, 0, none⟩)]] w fun r w' => ∃ z : Int, r = .returned (.int .i64 z) ∧ decide (0 ≤ z) = ks.any f ∧ Below w.heap.size w w' := by
  have HQ := Lib.hid hq
  have HK := Lib.hid hk
  obtain ⟨hl1, hl2⟩ := hk.len
  clear hq hk
  go_enter Tryd.func64, Tryd.ntmps64
  go_wp2_with fail
  go_loopw [8] (fun x8 wr => ∃ k : Nat, k ≤ ks.length ∧ x8 = .int .i64 (k : Int) ∧ (ks.take k).any f = false ∧ Below w.heap.size w wr) (fun x8 _ => ks.length - (intOf x8).toNat)
  case atStart => exact ⟨0, Nat.zero_le _, rfl, rfl, Below.refl _ _⟩
  case round =>
    obtain ⟨k, hkl, rfl, hno, hb⟩ := hrel
    have HN := Lib.hid hno
    have HB := Lib.hid hb
    have hsz := hb.size
    clear hno hb
    by_cases hlt : k < ks.length
    · have ik : (k : Int) < (ks.length : Int) := by omega
      obtain ⟨bk, off, kA, kc, rfl, hlo, hbh, c0, c1, c2, c3, c4, c5, hok, hkk⟩ := (HK.out.kept HB.out hhi).six hlt
      have HC := Lib.hid (HQ.out ks[k] (List.getElem_mem hlt) wr HB.out kA kc hok hkk)
      have HT : Hid ((ks.take (k + 1)).any f = f ks[k]) := by
        unfold Hid
        rw [List.take_succ_eq_append_getElem hlt, List.any_append, HN.out]
        simp
      have HY : Hid (f ks[k] = true → ks.any f = true) := fun h => List.any_eq_true.2 ⟨_, List.getElem_mem hlt, h⟩
      generalize ks[k] = q at *
      obtain ⟨v, hv⟩ : ∃ v, f q = v := ⟨_, rfl⟩
      rw [hv] at HC HT HY
      clear hv hok hkk
      go_wp2_with fail
      refine HC.out.mono ?_
      rintro r w3 ⟨rfl, q3⟩
      have HB3 := Lib.hid (below_below HB.out q3 hsz)
      clear q3
      cases v with
      | true =>
        have HV := Lib.hid (HY.out rfl)
        clear HY HT
        go_wp2_with fail
        go_ret
        exact ⟨_, rfl, by rw [HV.out]; exact decide_eq_true (by omega), HB3.out⟩
      | false =>
        clear HY
        go_wp2_with fail
        go_roundw
        case rel => exact ⟨k + 1, by omega, by go_num, HT.out, HB3.out⟩
        case measure => simp [intOf] <;> omega
    · have ik : ¬ (k : Int) < (ks.length : Int) := by omega
      have HV : Hid (ks.any f = false) := by
        have := HN.out
        rwa [List.take_of_length_le (by omega)] at this
      go_wp2_with fail
      go_ret
      exact ⟨-1, rfl, by rw [HV.out]; exact decide_eq_false (by omega), HB.out⟩

set_option maxRecDepth 20000 in
theorem has_right {w : World} {lo hi B0 B1 : Nat} {ks : List Pr} {A : Option Addr} {c : Nat} (hk : Kin w lo hi ks A c) (hhi : hi ≤ w.heap.size) (f : Pr → Bool)
    (hq : ∀ q ∈ ks, ∀ W, Below w.heap.size w W → ∀ A2 c2, PrOk q → Kin W lo hi q.kids A2 c2 → Calls Tryd.prog 54 #[.agg #[.int .i64 q.kind, .int .i64 q.col, .string q.s, .int .i64 q.esc, .int .i64 q.coll, .slice A2 q.kids.length c2], .pointer (some ⟨B0, 0, none⟩), .pointer (some ⟨B1, 0, none⟩)] W fun r w' => r = .returned (.bool (f q)) ∧ Below W.heap.size W w') :
    Calls Tryd.prog 45 #[.slice A ks.length c, .func (.func 54) #[] #[.pointer (some ⟨B0, 0, none⟩), .pointer (some ⟨B1, 0, none⟩)]] w fun r w' => r = .returned (.bool (ks.any f)) ∧ Below w.heap.size w w' := by
  have HI := Lib.hid (idx_right hk hhi f hq)
  clear hq hk
  go_enter Tryd.func45, Tryd.ntmps45
  go_wp2_with fail
  refine HI.out.mono ?_
  rintro r w' ⟨z, rfl, hz, hb⟩
  have HB := Lib.hid hb
  have HZ := Lib.hid hz
  clear hb hz
  go_wp2_with fail
  go_ret
  exact ⟨ret_bool HZ.out, HB.out⟩

set_option maxRecDepth 20000 in
set_option maxHeartbeats 2000000 in
theorem idx_skip {w : World} {lo hi B0 : Nat} {ks : List Pr} {A : Option Addr} {c : Nat} (hk : Kin w lo hi ks A c) (hhi : hi ≤ w.heap.size) (f : Pr → Bool)
    (hq : ∀ q ∈ ks, ∀ W, Below w.heap.size w W → ∀ A2 c2, PrOk q → Kin W lo hi q.kids A2 c2 → Calls Tryd.prog 46 #[.agg #[.int .i64 q.kind, .int .i64 q.col, .string q.s, .int .i64 q.esc, .int .i64 q.coll, .slice A2 q.kids.length c2], .pointer (some ⟨B0, 0, none⟩)] W fun r w' => r = .returned (.bool (f q)) ∧ Below W.heap.size W w') :
    Calls Tryd.prog 64 #[.slice A ks.length c, .func (.func 46) #[] #[.pointer (some ⟨B0, 0, none⟩)]] w fun r w' => ∃ z : Int, r = .returned (.int .i64 z) ∧ decide (0 ≤ z) = ks.any f ∧ Below w.heap.size w w' := by
  have HQ := Lib.hid hq
  have HK := Lib.hid hk
  obtain ⟨hl1, hl2⟩ := hk.len
  clear hq hk
  go_enter Tryd.func64, Tryd.ntmps64
  go_wp2_with fail
  go_loopw [8] (fun x8 wr => ∃ k : Nat, k ≤ ks.length ∧ x8 = .int .i64 (k : Int) ∧ (ks.take k).any f = false ∧ Below w.heap.size w wr) (fun x8 _ => ks.length - (intOf x8).toNat)
  case atStart => exact ⟨0, Nat.zero_le _, rfl, rfl, Below.refl _ _⟩
  case round =>
    obtain ⟨k, hkl, rfl, hno, hb⟩ := hrel
    have HN := Lib.hid hno
    have HB := Lib.hid hb
    have hsz := hb.size
    clear hno hb
    by_cases hlt : k < ks.length
    · have ik : (k : Int) < (ks.length : Int) := by omega
      obtain ⟨bk, off, kA, kc, rfl, hlo, hbh, c0, c1, c2, c3, c4, c5, hok, hkk⟩ := (HK.out.kept HB.out hhi).six hlt
      have HC := Lib.hid (HQ.out ks[k] (List.getElem_mem hlt) wr HB.out kA kc hok hkk)
      have HT : Hid ((ks.take (k + 1)).any f = f ks[k]) := by
        unfold Hid
        rw [List.take_succ_eq_append_getElem hlt, List.any_append, HN.out]
        simp
      have HY : Hid (f ks[k] = true → ks.any f = true) := fun h => List.any_eq_true.2 ⟨_, List.getElem_mem hlt, h⟩
      generalize ks[k] = q at *
      obtain ⟨v, hv⟩ : ∃ v, f q = v := ⟨_, rfl⟩
      rw [hv] at HC HT HY
      clear hv hok hkk
      go_wp2_with fail
      refine HC.out.mono ?_
      rintro r w3 ⟨rfl, q3⟩
      have HB3 := Lib.hid (below_below HB.out q3 hsz)
      clear q3
      cases v with
      | true =>
        have HV := Lib.hid (HY.out rfl)
        clear HY HT
        go_wp2_with fail
        go_ret
        exact ⟨_, rfl, by rw [HV.out]; exact decide_eq_true (by omega), HB3.out⟩
      | false =>
        clear HY
        go_wp2_with fail
        go_roundw
        case rel => exact ⟨k + 1, by omega, by go_num, HT.out, HB3.out⟩
        case measure => simp [intOf] <;> omega
    · have ik : ¬ (k : Int) < (ks.length : Int) := by omega
      have HV : Hid (ks.any f = false) := by
        have := HN.out
        rwa [List.take_of_length_le (by omega)] at this
      go_wp2_with fail
      go_ret
      exact ⟨-1, rfl, by rw [HV.out]; exact decide_eq_false (by omega), HB.out⟩

set_option maxRecDepth 20000 in
theorem has_skip {w : World} {lo hi B0 : Nat} {ks : List Pr} {A : Option Addr} {c : Nat} (hk : Kin w lo hi ks A c) (hhi : hi ≤ w.heap.size) (f : Pr → Bool)
    (hq : ∀ q ∈ ks, ∀ W, Below w.heap.size w W → ∀ A2 c2, PrOk q → Kin W lo hi q.kids A2 c2 → Calls Tryd.prog 46 #[.agg #[.int .i64 q.kind, .int .i64 q.col, .string q.s, .int .i64 q.esc, .int .i64 q.coll, .slice A2 q.kids.length c2], .pointer (some ⟨B0, 0, none⟩)] W fun r w' => r = .returned (.bool (f q)) ∧ Below W.heap.size W w') :
    Calls Tryd.prog 45 #[.slice A ks.length c, .func (.func 46) #[] #[.pointer (some ⟨B0, 0, none⟩)]] w fun r w' => r = .returned (.bool (ks.any f)) ∧ Below w.heap.size w w' := by
  have HI := Lib.hid (idx_skip hk hhi f hq)
  clear hq hk
  go_enter Tryd.func45, Tryd.ntmps45
  go_wp2_with fail
  refine HI.out.mono ?_
  rintro r w' ⟨z, rfl, hz, hb⟩
  have HB := Lib.hid hb
  have HZ := Lib.hid hz
  clear hb hz
  go_wp2_with fail
  go_ret
  exact ⟨ret_bool HZ.out, HB.out⟩

set_option maxRecDepth 20000 in
set_option maxHeartbeats 2000000 in
theorem idx_stay {w : World} {lo hi B0 : Nat} {ks : List Pr} {A : Option Addr} {c : Nat} (hk : Kin w lo hi ks A c) (hhi : hi ≤ w.heap.size) (f : Pr → Bool)
    (hq : ∀ q ∈ ks, ∀ W, Below w.heap.size w W → ∀ A2 c2, PrOk q → Kin W lo hi q.kids A2 c2 → Calls Tryd.prog 47 #[.agg #[.int .i64 q.kind, .int .i64 q.col, .string q.s, .int .i64 q.esc, .int .i64 q.coll, .slice A2 q.kids.length c2], .pointer (some ⟨B0, 0, none⟩)] W fun r w' => r = .returned (.bool (f q)) ∧ Below W.heap.size W w') :
    Calls Tryd.prog 64 #[.slice A ks.length c, .func (.func 47) #[] #[.pointer (some ⟨B0, 0, none⟩)]] w fun r w' => ∃ z : Int, r = .returned (.int .i64 z) ∧ decide (0 ≤ z) = ks.any f ∧ Below w.heap.size w w' := by
  have HQ := Lib.hid hq
  have HK := Lib.hid hk
  obtain ⟨hl1, hl2⟩ := hk.len
  clear hq hk
  go_enter Tryd.func64, Tryd.ntmps64
  go_wp2_with fail
  go_loopw [8] (fun x8 wr => ∃ k : Nat, k ≤ ks.length ∧ x8 = .int .i64 (k : Int) ∧ (ks.take k).any f = false ∧ Below w.heap.size w wr) (fun x8 _ => ks.length - (intOf x8).toNat)
  case atStart => exact ⟨0, Nat.zero_le _, rfl, rfl, Below.refl _ _⟩
  case round =>
    obtain ⟨k, hkl, rfl, hno, hb⟩ := hrel
    have HN := Lib.hid hno
    have HB := Lib.hid hb
    have hsz := hb.size
    clear hno hb
    by_cases hlt : k < ks.length
    · have ik : (k : Int) < (ks.length : Int) := by omega
      obtain ⟨bk, off, kA, kc, rfl, hlo, hbh, c0, c1, c2, c3, c4, c5, hok, hkk⟩ := (HK.out.kept HB.out hhi).six hlt
      have HC := Lib.hid (HQ.out ks[k] (List.getElem_mem hlt) wr HB.out kA kc hok hkk)
      have HT : Hid ((ks.take (k + 1)).any f = f ks[k]) := by
        unfold Hid
        rw [List.take_succ_eq_append_getElem hlt, List.any_append, HN.out]
        simp
      have HY : Hid (f ks[k] = true → ks.any f = true) := fun h => List.any_eq_true.2 ⟨_, List.getElem_mem hlt, h⟩
      generalize ks[k] = q at *
      obtain ⟨v, hv⟩ : ∃ v, f q = v := ⟨_, rfl⟩
      rw [hv] at HC HT HY
      clear hv hok hkk
      go_wp2_with fail
      refine HC.out.mono ?_
      rintro r w3 ⟨rfl, q3⟩
      have HB3 := Lib.hid (below_below HB.out q3 hsz)
      clear q3
      cases v with
      | true =>
        have HV := Lib.hid (HY.out rfl)
        clear HY HT
        go_wp2_with fail
        go_ret
        exact ⟨_, rfl, by rw [HV.out]; exact decide_eq_true (by omega), HB3.out⟩
      | false =>
        clear HY
        go_wp2_with fail
        go_roundw
        case rel => exact ⟨k + 1, by omega, by go_num, HT.out, HB3.out⟩
        case measure => simp [intOf] <;> omega
    · have ik : ¬ (k : Int) < (ks.length : Int) := by omega
      have HV : Hid (ks.any f = false) := by
        have := HN.out
        rwa [List.take_of_length_le (by omega)] at this
      go_wp2_with fail
      go_ret
      exact ⟨-1, rfl, by rw [HV.out]; exact decide_eq_false (by omega), HB.out⟩

set_option maxRecDepth 20000 in
theorem has_stay {w : World} {lo hi B0 : Nat} {ks : List Pr} {A : Option Addr} {c : Nat} (hk : Kin w lo hi ks A c) (hhi : hi ≤ w.heap.size) (f : Pr → Bool)
    (hq : ∀ q ∈ ks, ∀ W, Below w.heap.size w W → ∀ A2 c2, PrOk q → Kin W lo hi q.kids A2 c2 → Calls Tryd.prog 47 #[.agg #[.int .i64 q.kind, .int .i64 q.col, .string q.s, .int .i64 q.esc, .int .i64 q.coll, .slice A2 q.kids.length c2], .pointer (some ⟨B0, 0, none⟩)] W fun r w' => r = .returned (.bool (f q)) ∧ Below W.heap.size W w') :
    Calls Tryd.prog 45 #[.slice A ks.length c, .func (.func 47) #[] #[.pointer (some ⟨B0, 0, none⟩)]] w fun r w' => r = .returned (.bool (ks.any f)) ∧ Below w.heap.size w w' := by
  have HI := Lib.hid (idx_stay hk hhi f hq)
  clear hq hk
  go_enter Tryd.func45, Tryd.ntmps45
  go_wp2_with fail
  refine HI.out.mono ?_
  rintro r w' ⟨z, rfl, hz, hb⟩
  have HB := Lib.hid hb
  have HZ := Lib.hid hz
  clear hb hz
  go_wp2_with fail
  go_ret
  exact ⟨ret_bool HZ.out, HB.out⟩

set_option maxRecDepth 20000 in
set_option maxHeartbeats 2000000 in
theorem idx_run {w : World} {lo hi B0 B1 : Nat} {ls : List ByteArray} {A : Option Addr} {c : Nat} (hk : Rd w lo hi A c (sv ls)) (hhi : hi ≤ w.heap.size) (f : ByteArray → Bool)
    (hq : ∀ x ∈ ls, ∀ W, Below w.heap.size w W → Calls Tryd.prog 52 #[.string x, .pointer (some ⟨B0, 0, none⟩), .pointer (some ⟨B1, 0, none⟩)] W fun r w' => r = .returned (.bool (f x)) ∧ Below W.heap.size W w') :
    Calls Tryd.prog 68 #[.slice A ls.length c, .func (.func 52) #[] #[.pointer (some ⟨B0, 0, none⟩), .pointer (some ⟨B1, 0, none⟩)]] w fun r w' => ∃ z : Int, r = .returned (.int .i64 z) ∧ decide (0 ≤ z) = ls.any f ∧ Below w.heap.size w w' := by
  have HQ := Lib.hid hq
  have HK := Lib.hid hk
  have hl1 := hk.len
  have hl2 := hk.cap
  rw [sv_length] at hl1
  unfold maxLen at hl2
  clear hq hk
  go_enter Tryd.func68, Tryd.ntmps68
  go_wp2_with fail
  go_loopw [8] (fun x8 wr => ∃ k : Nat, k ≤ ls.length ∧ x8 = .int .i64 (k : Int) ∧ (ls.take k).any f = false ∧ Below w.heap.size w wr) (fun x8 _ => ls.length - (intOf x8).toNat)
  case atStart => exact ⟨0, Nat.zero_le _, rfl, rfl, Below.refl _ _⟩
  case round =>
    obtain ⟨k, hkl, rfl, hno, hb⟩ := hrel
    have HN := Lib.hid hno
    have HB := Lib.hid hb
    have hsz := hb.size
    clear hno hb
    by_cases hlt : k < ls.length
    · have ik : (k : Int) < (ls.length : Int) := by omega
      obtain ⟨bk, off, rfl, hlo, hbh, c0⟩ := (HK.out.below HB.out hhi).str hlt
      have HC := Lib.hid (HQ.out ls[k] (List.getElem_mem hlt) wr HB.out)
      have HT : Hid ((ls.take (k + 1)).any f = f ls[k]) := by
        unfold Hid
        rw [List.take_succ_eq_append_getElem hlt, List.any_append, HN.out]
        simp
      have HY : Hid (f ls[k] = true → ls.any f = true) := fun h => List.any_eq_true.2 ⟨_, List.getElem_mem hlt, h⟩
      generalize ls[k] = q at *
      obtain ⟨v, hv⟩ : ∃ v, f q = v := ⟨_, rfl⟩
      rw [hv] at HC HT HY
      clear hv
      go_wp2_with fail
      refine HC.out.mono ?_
      rintro r w3 ⟨rfl, q3⟩
      have HB3 := Lib.hid (below_below HB.out q3 hsz)
      clear q3
      cases v with
      | true =>
        have HV := Lib.hid (HY.out rfl)
        clear HY HT
        go_wp2_with fail
        go_ret
        exact ⟨_, rfl, by rw [HV.out]; exact decide_eq_true (by omega), HB3.out⟩
      | false =>
        clear HY
        go_wp2_with fail
        go_roundw
        case rel => exact ⟨k + 1, by omega, by go_num, HT.out, HB3.out⟩
        case measure => simp [intOf] <;> omega
    · have ik : ¬ (k : Int) < (ls.length : Int) := by omega
      have HV : Hid (ls.any f = false) := by
        have := HN.out
        rwa [List.take_of_length_le (by omega)] at this
      go_wp2_with fail
      go_ret
      exact ⟨-1, rfl, by rw [HV.out]; exact decide_eq_false (by omega), HB.out⟩

set_option maxRecDepth 20000 in
theorem has_run {w : World} {lo hi B0 B1 : Nat} {ls : List ByteArray} {A : Option Addr} {c : Nat} (hk : Rd w lo hi A c (sv ls)) (hhi : hi ≤ w.heap.size) (f : ByteArray → Bool)
    (hq : ∀ x ∈ ls, ∀ W, Below w.heap.size w W → Calls Tryd.prog 52 #[.string x, .pointer (some ⟨B0, 0, none⟩), .pointer (some ⟨B1, 0, none⟩)] W fun r w' => r = .returned (.bool (f x)) ∧ Below W.heap.size W w') :
    Calls Tryd.prog 49 #[.slice A ls.length c, .func (.func 52) #[] #[.pointer (some ⟨B0, 0, none⟩), .pointer (some ⟨B1, 0, none⟩)]] w fun r w' => r = .returned (.bool (ls.any f)) ∧ Below w.heap.size w w' := by
  have HI := Lib.hid (idx_run hk hhi f hq)
  clear hq hk
  go_enter Tryd.func49, Tryd.ntmps49
  go_wp2_with fail
  refine HI.out.mono ?_
  rintro r w' ⟨z, rfl, hz, hb⟩
  have HB := Lib.hid hb
  have HZ := Lib.hid hz
  clear hb hz
  go_wp2_with fail
  go_ret
  exact ⟨ret_bool HZ.out, HB.out⟩

end Go.Proofs.YtjffbjlniieciaaDoor
namespace Go.Proofs.YtjffbjlniieciaaDoor
set_option linter.unusedSimpArgs false
set_option linter.unusedVariables false
open Go.RowKit

theorem toL_inj {a b : ByteArray} (h : a.data.toList = b.data.toList) : a = b := by
  cases a
  cases b
  exact congrArg ByteArray.mk (Array.toList_inj.1 h)
theorem begS_eq (s p : ByteArray) : Lib.hasPrefix s.data.toList p.data.toList = begS s p := by
  unfold Lib.hasPrefix begS
  rw [Bool.eq_iff_iff, List.isPrefixOf_iff_prefix, decide_eq_true_eq]
  constructor
  · intro h
    have hl := h.length_le
    rw [size_toL, size_toL] at hl
    refine ⟨hl, toL_inj ?_⟩
    have := List.prefix_iff_eq_take.1 h
    rw [ext_head, ← size_toL p]
    exact this.symm
  · rintro ⟨_, h⟩
    rw [List.prefix_iff_eq_take, size_toL, ← ext_head, h]
theorem endS_eq (s p : ByteArray) : Lib.hasSuffix s.data.toList p.data.toList = endS s p := by
  unfold Lib.hasSuffix endS
  rw [Bool.eq_iff_iff, List.isSuffixOf_iff_suffix, decide_eq_true_eq]
  constructor
  · intro h
    have hl := h.length_le
    rw [size_toL, size_toL] at hl
    refine ⟨hl, toL_inj ?_⟩
    have := List.suffix_iff_eq_drop.1 h
    rw [size_toL, size_toL] at this
    rw [ext_toL]
    exact this.symm
  · rintro ⟨_, h⟩
    rw [List.suffix_iff_eq_drop, size_toL, size_toL, ← ext_toL, h]
theorem hasS_eq (s p : ByteArray) : Lib.contains s.data.toList p.data.toList = hasS s p := by
  rw [Bool.eq_iff_iff, contains_iff]
  exact ⟨infix_has, has_infix⟩
/-- what the program reads of the library's variables -/
structure Env (w : World) : Prop where
  tabs : Tabs w
  maxl : ∃ m, MaxLenIs m w
theorem Env.on {w w' : World} (h : Env w) (hb : Below w.heap.size w w') : Env w' := ⟨h.tabs.on hb, h.maxl.imp fun _ hm => hm.on hb⟩

theorem ncompare_any {w : World} (a b : ByteArray) (ha : a.size ≤ 1000000) (hb : b.size ≤ 1000000) (co : Int) (hT : Env w) :
    Calls Tryd.prog 56 #[.string a, .string b, .int .i64 co] w fun r w' => r = .returned (.int .i64 (cmpS a b co)) ∧ Below w.heap.size w w' := by
  unfold cmpS
  by_cases h1 : co = 1
  · subst h1
    rw [if_pos rfl]
    have HC := Lib.hid (byFold_any (w := w) a b ha hb)
    go_enter Tryd.func56, Tryd.ntmps56
    go_wp2_with fail
    refine HC.out.mono ?_
    rintro r w2 ⟨rfl, q2⟩
    have HB2 := Lib.hid q2
    clear q2
    go_wp2_with fail
    go_ret
    exact ⟨rfl, HB2.out⟩
  · rw [if_neg h1]
    have e1 : (co == 1) = false := beq_eq_false_iff_ne.2 h1
    by_cases h2 : co = 2
    · subst h2
      rw [if_pos rfl]
      have HC := Lib.hid (byPoints_any (w := w) a b ha hb hT.tabs)
      go_enter Tryd.func56, Tryd.ntmps56
      go_wp2_with fail
      refine HC.out.mono ?_
      rintro r w2 ⟨rfl, q2⟩
      have HB2 := Lib.hid q2
      clear q2
      go_wp2_with fail
      go_ret
      exact ⟨rfl, HB2.out⟩
    · rw [if_neg h2]
      have e2 : (co == 2) = false := beq_eq_false_iff_ne.2 h2
      have HC := Lib.hid (scompare_any a b w)
      go_enter Tryd.func56, Tryd.ntmps56
      go_wp2_with fail
      refine HC.out.mono ?_
      rintro r w2 ⟨rfl, rfl⟩
      go_wp2_with fail
      go_ret
      exact ⟨rfl, Below.refl _ _⟩

theorem signs_any {w : World} (kd cl ec co : Int) (s : ByteArray) (n : Nat) {A : Option Addr} {c : Nat} {ns : List Nat} (h : parseF ec s.data.toList = some ns) :
    Calls Tryd.prog 51 #[.agg #[.int .i64 kd, .int .i64 cl, .string s, .int .i64 ec, .int .i64 co, .slice A n c]] w fun r w' => ∃ A' c', r = .returned (.slice A' ns.length c') ∧ Rd w' 0 w'.heap.size A' c' (iv (ints ns)) ∧ Below w.heap.size w w' := by
  obtain ⟨w1, hw1⟩ : ∃ w1, w.alloc (.cells #[.int .i64 kd, .int .i64 cl, .string s, .int .i64 ec, .int .i64 co, .slice A n c] 24) = w1 := ⟨_, rfl⟩
  have B1 : Hid (Below w.heap.size w w1) := by unfold Hid; rw [← hw1]; exact (Below.refl _ w).alloc (Nat.le_refl _) _
  have hb : Blk w1 w.heap.size 24 #[.int .i64 kd, .int .i64 cl, .string s, .int .i64 ec, .int .i64 co, .slice A n c] := by rw [← hw1]; exact Blk.new w _ _
  have hs1 : w1.heap.size = w.heap.size + 1 := by rw [← hw1]; simp
  have b0 : w1.cell? ⟨w.heap.size, 0, none⟩ = some (.int .i64 kd) := hb.cell 0
  have b1 : w1.cell? ⟨w.heap.size, 1, none⟩ = some (.int .i64 cl) := hb.cell 1
  have b2 : w1.cell? ⟨w.heap.size, 2, none⟩ = some (.string s) := hb.cell 2
  have b3 : w1.cell? ⟨w.heap.size, 3, none⟩ = some (.int .i64 ec) := hb.cell 3
  have b4 : w1.cell? ⟨w.heap.size, 4, none⟩ = some (.int .i64 co) := hb.cell 4
  have b5 : w1.cell? ⟨w.heap.size, 5, none⟩ = some (.slice A n c) := hb.cell 5
  clear hb
  have HP := Lib.hid (lparse_any (w := w1) s ec (some ns) h)
  clear h
  go_enter Tryd.func51, Tryd.ntmps51
  go_wp2_with fail
  refine HP.out.mono ?_
  rintro r w2 ⟨A2, c2, rfl, hr, q2⟩
  have HR := Lib.hid hr
  have HB2 := Lib.hid (below_below B1.out q2 (by omega))
  clear hr q2
  go_wp2_with fail
  go_ret
  exact ⟨A2, c2, rfl, HR.out, HB2.out⟩

/-- does what is asked hold of a string that is there? -/
def holdP (kd co ec : Int) (s t : ByteArray) : Bool :=
  if kd = 7 then begS t s else if kd = 8 then endS t s else if kd = 9 then hasS t s else if kd = 10 then mat ((parseF ec s.data.toList).getD []) t.data.toList else compS kd (cmpS t s co)
theorem valS_hold {kd co ec : Int} {s t : ByteArray} (h : kd ≠ 11) : valS kd co ec s ⟨false, t⟩ = bitI (holdP kd co ec s t) := by
  unfold valS holdP
  rw [if_neg h, if_neg Bool.false_ne_true]
  repeat' split
  all_goals rfl

set_option maxRecDepth 20000 in
set_option maxHeartbeats 4000000 in
theorem holds_any {w : World} (kd cl ec co : Int) (s : ByteArray) (n : Nat) {A : Option Addr} {c : Nat} (t : ByteArray) (hk : 1 ≤ kd ∧ kd ≤ 10) (hs : s.size ≤ 1000000) (ht : t.size ≤ 1000000) (hl : kd = 10 → ∃ ns, parseF ec s.data.toList = some ns) (hT : Env w) :
    Calls Tryd.prog 40 #[.agg #[.int .i64 kd, .int .i64 cl, .string s, .int .i64 ec, .int .i64 co, .slice A n c], .string t] w fun r w' => r = .returned (.bool (holdP kd co ec s t)) ∧ Below w.heap.size w w' := by
  have HSG : Hid (∀ (W : World) ns, parseF ec s.data.toList = some ns → Calls Tryd.prog 51 #[.agg #[.int .i64 kd, .int .i64 cl, .string s, .int .i64 ec, .int .i64 co, .slice A n c]] W fun r w' => ∃ A' c', r = .returned (.slice A' ns.length c') ∧ Rd w' 0 w'.heap.size A' c' (iv (ints ns)) ∧ Below W.heap.size W w') := fun W ns h => signs_any kd cl ec co s n h
  obtain ⟨w1, hw1⟩ : ∃ w1, w.alloc (.cells #[.int .i64 kd, .int .i64 cl, .string s, .int .i64 ec, .int .i64 co, .slice A n c] 24) = w1 := ⟨_, rfl⟩
  have B1 : Hid (Below w.heap.size w w1) := by unfold Hid; rw [← hw1]; exact (Below.refl _ w).alloc (Nat.le_refl _) _
  have hb : Blk w1 w.heap.size 24 #[.int .i64 kd, .int .i64 cl, .string s, .int .i64 ec, .int .i64 co, .slice A n c] := by rw [← hw1]; exact Blk.new w _ _
  have hs1 : w1.heap.size = w.heap.size + 1 := by rw [← hw1]; simp
  have b0 : w1.cell? ⟨w.heap.size, 0, none⟩ = some (.int .i64 kd) := hb.cell 0
  have b1 : w1.cell? ⟨w.heap.size, 1, none⟩ = some (.int .i64 cl) := hb.cell 1
  have b2 : w1.cell? ⟨w.heap.size, 2, none⟩ = some (.string s) := hb.cell 2
  have b3 : w1.cell? ⟨w.heap.size, 3, none⟩ = some (.int .i64 ec) := hb.cell 3
  have b4 : w1.cell? ⟨w.heap.size, 4, none⟩ = some (.int .i64 co) := hb.cell 4
  have b5 : w1.cell? ⟨w.heap.size, 5, none⟩ = some (.slice A n c) := hb.cell 5
  clear hb
  have HE := Lib.hid (hT.on B1.out)
  have HL := Lib.hid hl
  clear hT hl
  obtain ⟨V, hV⟩ : ∃ V, holdP kd co ec s t = V := ⟨_, rfl⟩
  rw [hV]
  rcases (show kd = 1 ∨ kd = 2 ∨ kd = 3 ∨ kd = 4 ∨ kd = 5 ∨ kd = 6 ∨ kd = 7 ∨ kd = 8 ∨ kd = 9 ∨ kd = 10 by omega) with hkd | hkd | hkd | hkd | hkd | hkd | hkd | hkd | hkd | hkd
  · subst hkd
    have HC := Lib.hid (ncompare_any t s ht hs co HE.out)
    obtain ⟨z, hz⟩ : ∃ z, cmpS t s co = z := ⟨_, rfl⟩
    have hv : (z == 0) = V := by rw [← hV, holdP, if_neg (by decide), if_neg (by decide), if_neg (by decide), if_neg (by decide), hz, compS, Bool.eq_iff_iff]; simp
    rw [hz] at HC
    clear hV hz HL HSG
    go_enter Tryd.func40, Tryd.ntmps40
    go_wp2_with fail
    refine HC.out.mono ?_
    rintro r w2 ⟨rfl, q2⟩
    have HB2 := Lib.hid (below_below B1.out q2 (by omega))
    clear q2
    go_wp2_with fail
    go_ret
    exact ⟨rfl, HB2.out⟩
  · subst hkd
    have HC := Lib.hid (ncompare_any t s ht hs co HE.out)
    obtain ⟨z, hz⟩ : ∃ z, cmpS t s co = z := ⟨_, rfl⟩
    have hv : (z != 0) = V := by rw [← hV, holdP, if_neg (by decide), if_neg (by decide), if_neg (by decide), if_neg (by decide), hz, compS, Bool.eq_iff_iff]; simp
    rw [hz] at HC
    clear hV hz HL HSG
    go_enter Tryd.func40, Tryd.ntmps40
    go_wp2_with fail
    refine HC.out.mono ?_
    rintro r w2 ⟨rfl, q2⟩
    have HB2 := Lib.hid (below_below B1.out q2 (by omega))
    clear q2
    go_wp2_with fail
    go_ret
    exact ⟨rfl, HB2.out⟩
  · subst hkd
    have HC := Lib.hid (ncompare_any t s ht hs co HE.out)
    obtain ⟨z, hz⟩ : ∃ z, cmpS t s co = z := ⟨_, rfl⟩
    have hv : decide (z < 0) = V := by rw [← hV, holdP, if_neg (by decide), if_neg (by decide), if_neg (by decide), if_neg (by decide), hz, compS, Bool.eq_iff_iff]; simp
    rw [hz] at HC
    clear hV hz HL HSG
    go_enter Tryd.func40, Tryd.ntmps40
    go_wp2_with fail
    refine HC.out.mono ?_
    rintro r w2 ⟨rfl, q2⟩
    have HB2 := Lib.hid (below_below B1.out q2 (by omega))
    clear q2
    go_wp2_with fail
    go_ret
    exact ⟨rfl, HB2.out⟩
  · subst hkd
    have HC := Lib.hid (ncompare_any t s ht hs co HE.out)
    obtain ⟨z, hz⟩ : ∃ z, cmpS t s co = z := ⟨_, rfl⟩
    have hv : decide (z ≤ 0) = V := by rw [← hV, holdP, if_neg (by decide), if_neg (by decide), if_neg (by decide), if_neg (by decide), hz, compS, Bool.eq_iff_iff]; simp
    rw [hz] at HC
    clear hV hz HL HSG
    go_enter Tryd.func40, Tryd.ntmps40
    go_wp2_with fail
    refine HC.out.mono ?_
    rintro r w2 ⟨rfl, q2⟩
    have HB2 := Lib.hid (below_below B1.out q2 (by omega))
    clear q2
    go_wp2_with fail
    go_ret
    exact ⟨rfl, HB2.out⟩
  · subst hkd
    have HC := Lib.hid (ncompare_any t s ht hs co HE.out)
    obtain ⟨z, hz⟩ : ∃ z, cmpS t s co = z := ⟨_, rfl⟩
    have hv : decide (0 < z) = V := by rw [← hV, holdP, if_neg (by decide), if_neg (by decide), if_neg (by decide), if_neg (by decide), hz, compS, Bool.eq_iff_iff]; simp
    rw [hz] at HC
    clear hV hz HL HSG
    go_enter Tryd.func40, Tryd.ntmps40
    go_wp2_with fail
    refine HC.out.mono ?_
    rintro r w2 ⟨rfl, q2⟩
    have HB2 := Lib.hid (below_below B1.out q2 (by omega))
    clear q2
    go_wp2_with fail
    go_ret
    exact ⟨rfl, HB2.out⟩
  · subst hkd
    have HC := Lib.hid (ncompare_any t s ht hs co HE.out)
    obtain ⟨z, hz⟩ : ∃ z, cmpS t s co = z := ⟨_, rfl⟩
    have hv : decide (0 ≤ z) = V := by rw [← hV, holdP, if_neg (by decide), if_neg (by decide), if_neg (by decide), if_neg (by decide), hz, compS, Bool.eq_iff_iff]; simp
    rw [hz] at HC
    clear hV hz HL HSG
    go_enter Tryd.func40, Tryd.ntmps40
    go_wp2_with fail
    refine HC.out.mono ?_
    rintro r w2 ⟨rfl, q2⟩
    have HB2 := Lib.hid (below_below B1.out q2 (by omega))
    clear q2
    go_wp2_with fail
    go_ret
    exact ⟨rfl, HB2.out⟩
  · subst hkd
    have hv : begS t s = V := by rw [← hV, holdP, if_pos rfl]
    have hc := prefix_any (w := w1) t s
    rw [begS_eq, hv] at hc
    have HC := Lib.hid hc
    clear hc hV hv HL HSG
    go_enter Tryd.func40, Tryd.ntmps40
    go_wp2_with fail
    refine HC.out.mono ?_
    rintro r w2 ⟨rfl, rfl⟩
    go_wp2_with fail
    go_ret
    exact ⟨rfl, B1.out⟩
  · subst hkd
    have hv : endS t s = V := by rw [← hV, holdP, if_neg (by decide), if_pos rfl]
    have hc := suffix_any (w := w1) t s (by omega)
    rw [endS_eq, hv] at hc
    have HC := Lib.hid hc
    clear hc hV hv HL HSG
    go_enter Tryd.func40, Tryd.ntmps40
    go_wp2_with fail
    refine HC.out.mono ?_
    rintro r w2 ⟨rfl, rfl⟩
    go_wp2_with fail
    go_ret
    exact ⟨rfl, B1.out⟩
  · subst hkd
    obtain ⟨m, hm⟩ := HE.out.maxl
    have hv : hasS t s = V := by rw [← hV, holdP, if_neg (by decide), if_neg (by decide), if_pos rfl]
    have hc := contains_any (w := w1) t s m (by omega) hm
    rw [hasS_eq, hv] at hc
    have HC := Lib.hid hc
    clear hc hV hv HL HSG hm
    go_enter Tryd.func40, Tryd.ntmps40
    go_wp2_with fail
    refine HC.out.mono ?_
    rintro r w2 ⟨rfl, rfl⟩
    go_wp2_with fail
    go_ret
    exact ⟨rfl, B1.out⟩
  · subst hkd
    obtain ⟨ns, hns⟩ := HL.out rfl
    have hns2 := parseF_le hns
    have hv : mat ns t.data.toList = V := by rw [← hV, holdP, if_neg (by decide), if_neg (by decide), if_neg (by decide), if_pos rfl, hns]; rfl
    have HC := Lib.hid (HSG.out w1 ns hns)
    have HM : Hid (∀ (W : World) (A2 : Option Addr) (c2 : Nat), Rd W 0 W.heap.size A2 c2 (iv (ints ns)) → Calls Tryd.prog 60 #[.slice A2 ns.length c2, .string t] W fun r w' => r = .returned (.bool V) ∧ ∃ m, W.drewN m = w') := fun W A2 c2 h => by rw [← hv]; exact lmatch_any ns t h hns2.1 ht
    clear hV hv HL HSG hns hns2
    go_enter Tryd.func40, Tryd.ntmps40
    go_wp2_with fail
    refine HC.out.mono ?_
    rintro r w2 ⟨A2, c2, rfl, hr, q2⟩
    have HM2 := Lib.hid (HM.out w2 A2 c2 hr)
    have HB2 := Lib.hid (below_below B1.out q2 (by omega))
    clear q2 hr
    go_wp2_with fail
    refine HM2.out.mono ?_
    rintro r w3 ⟨rfl, m, rfl⟩
    go_wp2_with fail
    go_ret
    exact ⟨rfl, below_drewN' HB2.out m⟩
end Go.Proofs.YtjffbjlniieciaaDoor
namespace Go.Proofs.YtjffbjlniieciaaDoor
set_option linter.unusedSimpArgs false
set_option linter.unusedVariables false
open Go.RowKit

/-- Kids, at most so many, and nothing else -/
def nestP (cl ec co : Int) (s : ByteArray) (n : Nat) (most : Int) : Bool := decide (cl = 0 ∧ s.size = 0 ∧ ec = 0 ∧ co = 0 ∧ 0 < n ∧ (n : Int) ≤ most)
set_option maxRecDepth 20000 in
set_option maxHeartbeats 4000000 in
theorem nests_any {w : World} (kd cl ec co : Int) (s : ByteArray) (n : Nat) {A : Option Addr} {c : Nat} (most : Int) (hn : n ≤ 9223372036854775807) :
    Calls Tryd.prog 34 #[.agg #[.int .i64 kd, .int .i64 cl, .string s, .int .i64 ec, .int .i64 co, .slice A n c], .int .i64 most] w fun r w' => r = .returned (.bool (nestP cl ec co s n most)) ∧ Below w.heap.size w w' := by
  obtain ⟨w1, hw1⟩ : ∃ w1, w.alloc (.cells #[.int .i64 kd, .int .i64 cl, .string s, .int .i64 ec, .int .i64 co, .slice A n c] 24) = w1 := ⟨_, rfl⟩
  have B1 : Hid (Below w.heap.size w w1) := by unfold Hid; rw [← hw1]; exact (Below.refl _ w).alloc (Nat.le_refl _) _
  have hb : Blk w1 w.heap.size 24 #[.int .i64 kd, .int .i64 cl, .string s, .int .i64 ec, .int .i64 co, .slice A n c] := by rw [← hw1]; exact Blk.new w _ _
  have hs1 : w1.heap.size = w.heap.size + 1 := by rw [← hw1]; simp
  have b0 : w1.cell? ⟨w.heap.size, 0, none⟩ = some (.int .i64 kd) := hb.cell 0
  have b1 : w1.cell? ⟨w.heap.size, 1, none⟩ = some (.int .i64 cl) := hb.cell 1
  have b2 : w1.cell? ⟨w.heap.size, 2, none⟩ = some (.string s) := hb.cell 2
  have b3 : w1.cell? ⟨w.heap.size, 3, none⟩ = some (.int .i64 ec) := hb.cell 3
  have b4 : w1.cell? ⟨w.heap.size, 4, none⟩ = some (.int .i64 co) := hb.cell 4
  have b5 : w1.cell? ⟨w.heap.size, 5, none⟩ = some (.slice A n c) := hb.cell 5
  clear hb
  obtain ⟨V, hV⟩ : ∃ V, nestP cl ec co s n most = V := ⟨_, rfl⟩
  rw [hV]
  rw [nestP] at hV
  have HV := Lib.hid hV
  clear hV
  by_cases h1 : cl = 0
  · subst h1
    by_cases h2 : s.size = 0
    · have z2 := str_nil h2
      subst z2
      by_cases h3 : ec = 0
      · subst h3
        by_cases h4 : co = 0
        · subst h4
          by_cases h5 : 0 < n
          · have e5 : (0 : Int) < (n : Int) := by omega
            have d5 : decide ((0 : Int) < (n : Int)) = true := decide_eq_true e5
            by_cases h6 : (n : Int) ≤ most
            · have d6 : decide ((n : Int) ≤ most) = true := decide_eq_true h6
              have HVV : Hid (V = true) := by unfold Hid; rw [← HV.out]; exact decide_eq_true ⟨rfl, rfl, rfl, rfl, h5, h6⟩
              clear HV
              go_enter Tryd.func34, Tryd.ntmps34
              go_wp2_with fail
              go_ret
              exact ⟨ret_bool HVV.out.symm, B1.out⟩
            · have d6 : decide ((n : Int) ≤ most) = false := decide_eq_false h6
              have HVV : Hid (V = false) := by unfold Hid; rw [← HV.out]; exact decide_eq_false fun h => h6 (h.2.2.2.2.2)
              clear HV
              go_enter Tryd.func34, Tryd.ntmps34
              go_wp2_with fail
              go_ret
              exact ⟨ret_bool HVV.out.symm, B1.out⟩
          · have e5 : ¬ (0 : Int) < (n : Int) := by omega
            have d5 : decide ((0 : Int) < (n : Int)) = false := decide_eq_false e5
            have HVV : Hid (V = false) := by unfold Hid; rw [← HV.out]; exact decide_eq_false fun h => h5 (h.2.2.2.2.1)
            clear HV
            go_enter Tryd.func34, Tryd.ntmps34
            go_wp2_with fail
            go_ret
            exact ⟨ret_bool HVV.out.symm, B1.out⟩
        · have e4 : (co == 0) = false := beq_eq_false_iff_ne.2 h4
          have HVV : Hid (V = false) := by unfold Hid; rw [← HV.out]; exact decide_eq_false fun h => h4 (h.2.2.2.1)
          clear HV
          go_enter Tryd.func34, Tryd.ntmps34
          go_wp2_with fail
          go_ret
          exact ⟨ret_bool HVV.out.symm, B1.out⟩
      · have e3 : (ec == 0) = false := beq_eq_false_iff_ne.2 h3
        have HVV : Hid (V = false) := by unfold Hid; rw [← HV.out]; exact decide_eq_false fun h => h3 (h.2.2.1)
        clear HV
        go_enter Tryd.func34, Tryd.ntmps34
        go_wp2_with fail
        go_ret
        exact ⟨ret_bool HVV.out.symm, B1.out⟩
    · have e2 := str_some h2
      have HVV : Hid (V = false) := by unfold Hid; rw [← HV.out]; exact decide_eq_false fun h => h2 (h.2.1)
      clear HV
      go_enter Tryd.func34, Tryd.ntmps34
      go_wp2_with fail
      go_ret
      exact ⟨ret_bool HVV.out.symm, B1.out⟩
  · have e1 : (cl == 0) = false := beq_eq_false_iff_ne.2 h1
    have HVV : Hid (V = false) := by unfold Hid; rw [← HV.out]; exact decide_eq_false fun h => h1 (h.1)
    clear HV
    go_enter Tryd.func34, Tryd.ntmps34
    go_wp2_with fail
    go_ret
    exact ⟨ret_bool HVV.out.symm, B1.out⟩

/-- is what is asked of a column's value right? -/
def asksP (kd ec co : Int) (s : ByteArray) : Bool :=
  if kd = 10 then (parseF ec s.data.toList).isSome && decide (co = 0)
  else decide (s.size ≤ 4096 ∧ ec = 0) && (if 1 ≤ kd ∧ kd ≤ 6 then decide (0 ≤ co ∧ co ≤ 2) else if 7 ≤ kd ∧ kd ≤ 9 then decide (co = 0) else decide (kd = 11 ∧ co = 0 ∧ s.size = 0))
set_option maxRecDepth 20000 in
set_option maxHeartbeats 8000000 in
theorem asks_any {w : World} (kd cl ec co : Int) (s : ByteArray) (n : Nat) {A : Option Addr} {c : Nat} (hs : s.size ≤ 9223372036854775807) :
    Calls Tryd.prog 36 #[.agg #[.int .i64 kd, .int .i64 cl, .string s, .int .i64 ec, .int .i64 co, .slice A n c]] w fun r w' => r = .returned (.bool (asksP kd ec co s)) ∧ Below w.heap.size w w' := by
  obtain ⟨w1, hw1⟩ : ∃ w1, w.alloc (.cells #[.int .i64 kd, .int .i64 cl, .string s, .int .i64 ec, .int .i64 co, .slice A n c] 24) = w1 := ⟨_, rfl⟩
  have B1 : Hid (Below w.heap.size w w1) := by unfold Hid; rw [← hw1]; exact (Below.refl _ w).alloc (Nat.le_refl _) _
  have hb : Blk w1 w.heap.size 24 #[.int .i64 kd, .int .i64 cl, .string s, .int .i64 ec, .int .i64 co, .slice A n c] := by rw [← hw1]; exact Blk.new w _ _
  have hs1 : w1.heap.size = w.heap.size + 1 := by rw [← hw1]; simp
  have b0 : w1.cell? ⟨w.heap.size, 0, none⟩ = some (.int .i64 kd) := hb.cell 0
  have b1 : w1.cell? ⟨w.heap.size, 1, none⟩ = some (.int .i64 cl) := hb.cell 1
  have b2 : w1.cell? ⟨w.heap.size, 2, none⟩ = some (.string s) := hb.cell 2
  have b3 : w1.cell? ⟨w.heap.size, 3, none⟩ = some (.int .i64 ec) := hb.cell 3
  have b4 : w1.cell? ⟨w.heap.size, 4, none⟩ = some (.int .i64 co) := hb.cell 4
  have b5 : w1.cell? ⟨w.heap.size, 5, none⟩ = some (.slice A n c) := hb.cell 5
  clear hb
  obtain ⟨V, hV⟩ : ∃ V, asksP kd ec co s = V := ⟨_, rfl⟩
  rw [hV]
  rw [asksP] at hV
  by_cases h10 : kd = 10
  · subst h10
    rw [if_pos rfl] at hV
    obtain ⟨o, ho⟩ : ∃ o, parseF ec s.data.toList = o := ⟨_, rfl⟩
    have HP := Lib.hid (lparse_any (w := w1) s ec o ho)
    rw [ho] at hV
    clear ho
    cases o with
    | none =>
      have HVV : Hid (V = false) := by unfold Hid; rw [← hV]; rfl
      clear hV
      have HP2 : Hid (Calls Tryd.prog 55 #[.string s, .int .i64 ec] w1 fun r w' => ∃ A c, r = .returned (.tuple #[.slice A 0 c, .int .i64 8]) ∧ Rd w' 0 w'.heap.size A c (iv (ints [])) ∧ Below w1.heap.size w1 w') := HP.out
      clear HP
      go_enter Tryd.func36, Tryd.ntmps36
      go_wp2_with fail
      refine HP2.out.mono ?_
      rintro r w2 ⟨A2, c2, rfl, hr, q2⟩
      have HB2 := Lib.hid (below_below B1.out q2 (by omega))
      have hb4 : w2.cell? ⟨w.heap.size, 4, none⟩ = some (.int .i64 co) := (q2.cell (by simp only; omega)).trans b4
      clear q2 hr
      go_wp2_with fail
      go_ret
      exact ⟨ret_bool HVV.out.symm, HB2.out⟩
    | some ns =>
      have HP2 : Hid (Calls Tryd.prog 55 #[.string s, .int .i64 ec] w1 fun r w' => ∃ A c, r = .returned (.tuple #[.slice A ns.length c, .int .i64 0]) ∧ Rd w' 0 w'.heap.size A c (iv (ints ns)) ∧ Below w1.heap.size w1 w') := HP.out
      clear HP
      obtain ⟨u, hu⟩ : ∃ u, decide (co = 0) = u := ⟨_, rfl⟩
      have HVV : Hid (V = u) := by unfold Hid; rw [← hV, hu]; rfl
      have eu : (co == 0) = u := by rw [← hu]; exact rfl
      clear hV hu
      go_enter Tryd.func36, Tryd.ntmps36
      go_wp2_with fail
      refine HP2.out.mono ?_
      rintro r w2 ⟨A2, c2, rfl, hr, q2⟩
      have HB2 := Lib.hid (below_below B1.out q2 (by omega))
      have hb4 : w2.cell? ⟨w.heap.size, 4, none⟩ = some (.int .i64 co) := (q2.cell (by simp only; omega)).trans b4
      clear q2 hr
      go_wp2_with fail
      go_ret
      exact ⟨ret_bool HVV.out.symm, HB2.out⟩
  · rw [if_neg h10] at hV
    have HV := Lib.hid hV
    clear hV
    have e10 : (kd == 10) = false := beq_eq_false_iff_ne.2 h10
    by_cases hz : s.size ≤ 4096
    · have dz : ¬ (4096 : Int) < (s.size : Int) := by omega
      have dz2 : decide ((4096 : Int) < (s.size : Int)) = false := decide_eq_false dz
      by_cases he : ec = 0
      · subst he
        rw [decide_eq_true (show s.size ≤ 4096 ∧ (0 : Int) = 0 from ⟨hz, rfl⟩), Bool.true_and] at HV
        rcases (show kd = 1 ∨ kd = 2 ∨ kd = 3 ∨ kd = 4 ∨ kd = 5 ∨ kd = 6 ∨ kd = 7 ∨ kd = 8 ∨ kd = 9 ∨ kd = 11 ∨ (kd < 1 ∨ 11 < kd) by omega) with hkd | hkd | hkd | hkd | hkd | hkd | hkd | hkd | hkd | hkd | hkd
        · subst hkd
          rw [if_pos (show (1 : Int) ≤ 1 ∧ (1 : Int) ≤ 6 from ⟨by decide, by decide⟩)] at HV
          by_cases c0 : 0 ≤ co
          · have d0 : decide (0 ≤ co) = true := decide_eq_true c0
            obtain ⟨u, hu⟩ : ∃ u, decide (co ≤ 2) = u := ⟨_, rfl⟩
            have HVV : Hid (V = u) := by unfold Hid; rw [← HV.out, ← hu, decide_eq_decide]; exact ⟨fun h => h.2, fun h => ⟨c0, h⟩⟩
            clear HV
            go_enter Tryd.func36, Tryd.ntmps36
            go_wp2_with fail
            go_ret
            exact ⟨ret_bool HVV.out.symm, B1.out⟩
          · have d0 : decide (0 ≤ co) = false := decide_eq_false c0
            have HVV : Hid (V = false) := by unfold Hid; rw [← HV.out]; exact decide_eq_false fun h => c0 h.1
            clear HV
            go_enter Tryd.func36, Tryd.ntmps36
            go_wp2_with fail
            go_ret
            exact ⟨ret_bool HVV.out.symm, B1.out⟩
        · subst hkd
          rw [if_pos (show (1 : Int) ≤ 2 ∧ (2 : Int) ≤ 6 from ⟨by decide, by decide⟩)] at HV
          by_cases c0 : 0 ≤ co
          · have d0 : decide (0 ≤ co) = true := decide_eq_true c0
            obtain ⟨u, hu⟩ : ∃ u, decide (co ≤ 2) = u := ⟨_, rfl⟩
            have HVV : Hid (V = u) := by unfold Hid; rw [← HV.out, ← hu, decide_eq_decide]; exact ⟨fun h => h.2, fun h => ⟨c0, h⟩⟩
            clear HV
            go_enter Tryd.func36, Tryd.ntmps36
            go_wp2_with fail
            go_ret
            exact ⟨ret_bool HVV.out.symm, B1.out⟩
          · have d0 : decide (0 ≤ co) = false := decide_eq_false c0
            have HVV : Hid (V = false) := by unfold Hid; rw [← HV.out]; exact decide_eq_false fun h => c0 h.1
            clear HV
            go_enter Tryd.func36, Tryd.ntmps36
            go_wp2_with fail
            go_ret
            exact ⟨ret_bool HVV.out.symm, B1.out⟩
        · subst hkd
          rw [if_pos (show (1 : Int) ≤ 3 ∧ (3 : Int) ≤ 6 from ⟨by decide, by decide⟩)] at HV
          by_cases c0 : 0 ≤ co
          · have d0 : decide (0 ≤ co) = true := decide_eq_true c0
            obtain ⟨u, hu⟩ : ∃ u, decide (co ≤ 2) = u := ⟨_, rfl⟩
            have HVV : Hid (V = u) := by unfold Hid; rw [← HV.out, ← hu, decide_eq_decide]; exact ⟨fun h => h.2, fun h => ⟨c0, h⟩⟩
            clear HV
            go_enter Tryd.func36, Tryd.ntmps36
            go_wp2_with fail
            go_ret
            exact ⟨ret_bool HVV.out.symm, B1.out⟩
          · have d0 : decide (0 ≤ co) = false := decide_eq_false c0
            have HVV : Hid (V = false) := by unfold Hid; rw [← HV.out]; exact decide_eq_false fun h => c0 h.1
            clear HV
            go_enter Tryd.func36, Tryd.ntmps36
            go_wp2_with fail
            go_ret
            exact ⟨ret_bool HVV.out.symm, B1.out⟩
        · subst hkd
          rw [if_pos (show (1 : Int) ≤ 4 ∧ (4 : Int) ≤ 6 from ⟨by decide, by decide⟩)] at HV
          by_cases c0 : 0 ≤ co
          · have d0 : decide (0 ≤ co) = true := decide_eq_true c0
            obtain ⟨u, hu⟩ : ∃ u, decide (co ≤ 2) = u := ⟨_, rfl⟩
            have HVV : Hid (V = u) := by unfold Hid; rw [← HV.out, ← hu, decide_eq_decide]; exact ⟨fun h => h.2, fun h => ⟨c0, h⟩⟩
            clear HV
            go_enter Tryd.func36, Tryd.ntmps36
            go_wp2_with fail
            go_ret
            exact ⟨ret_bool HVV.out.symm, B1.out⟩
          · have d0 : decide (0 ≤ co) = false := decide_eq_false c0
            have HVV : Hid (V = false) := by unfold Hid; rw [← HV.out]; exact decide_eq_false fun h => c0 h.1
            clear HV
            go_enter Tryd.func36, Tryd.ntmps36
            go_wp2_with fail
            go_ret
            exact ⟨ret_bool HVV.out.symm, B1.out⟩
        · subst hkd
          rw [if_pos (show (1 : Int) ≤ 5 ∧ (5 : Int) ≤ 6 from ⟨by decide, by decide⟩)] at HV
          by_cases c0 : 0 ≤ co
          · have d0 : decide (0 ≤ co) = true := decide_eq_true c0
            obtain ⟨u, hu⟩ : ∃ u, decide (co ≤ 2) = u := ⟨_, rfl⟩
            have HVV : Hid (V = u) := by unfold Hid; rw [← HV.out, ← hu, decide_eq_decide]; exact ⟨fun h => h.2, fun h => ⟨c0, h⟩⟩
            clear HV
            go_enter Tryd.func36, Tryd.ntmps36
            go_wp2_with fail
            go_ret
            exact ⟨ret_bool HVV.out.symm, B1.out⟩
          · have d0 : decide (0 ≤ co) = false := decide_eq_false c0
            have HVV : Hid (V = false) := by unfold Hid; rw [← HV.out]; exact decide_eq_false fun h => c0 h.1
            clear HV
            go_enter Tryd.func36, Tryd.ntmps36
            go_wp2_with fail
            go_ret
            exact ⟨ret_bool HVV.out.symm, B1.out⟩
        · subst hkd
          rw [if_pos (show (1 : Int) ≤ 6 ∧ (6 : Int) ≤ 6 from ⟨by decide, by decide⟩)] at HV
          by_cases c0 : 0 ≤ co
          · have d0 : decide (0 ≤ co) = true := decide_eq_true c0
            obtain ⟨u, hu⟩ : ∃ u, decide (co ≤ 2) = u := ⟨_, rfl⟩
            have HVV : Hid (V = u) := by unfold Hid; rw [← HV.out, ← hu, decide_eq_decide]; exact ⟨fun h => h.2, fun h => ⟨c0, h⟩⟩
            clear HV
            go_enter Tryd.func36, Tryd.ntmps36
            go_wp2_with fail
            go_ret
            exact ⟨ret_bool HVV.out.symm, B1.out⟩
          · have d0 : decide (0 ≤ co) = false := decide_eq_false c0
            have HVV : Hid (V = false) := by unfold Hid; rw [← HV.out]; exact decide_eq_false fun h => c0 h.1
            clear HV
            go_enter Tryd.func36, Tryd.ntmps36
            go_wp2_with fail
            go_ret
            exact ⟨ret_bool HVV.out.symm, B1.out⟩
        · subst hkd
          rw [if_neg (show ¬ ((1 : Int) ≤ 7 ∧ (7 : Int) ≤ 6) by decide), if_pos (show (7 : Int) ≤ 7 ∧ (7 : Int) ≤ 9 from ⟨by decide, by decide⟩)] at HV
          obtain ⟨u, hu⟩ : ∃ u, decide (co = 0) = u := ⟨_, rfl⟩
          have HVV : Hid (V = u) := by unfold Hid; rw [← HV.out, hu]
          have eu : (co == 0) = u := by rw [← hu]; exact rfl
          clear HV hu
          go_enter Tryd.func36, Tryd.ntmps36
          go_wp2_with fail
          go_ret
          exact ⟨ret_bool HVV.out.symm, B1.out⟩
        · subst hkd
          rw [if_neg (show ¬ ((1 : Int) ≤ 8 ∧ (8 : Int) ≤ 6) by decide), if_pos (show (7 : Int) ≤ 8 ∧ (8 : Int) ≤ 9 from ⟨by decide, by decide⟩)] at HV
          obtain ⟨u, hu⟩ : ∃ u, decide (co = 0) = u := ⟨_, rfl⟩
          have HVV : Hid (V = u) := by unfold Hid; rw [← HV.out, hu]
          have eu : (co == 0) = u := by rw [← hu]; exact rfl
          clear HV hu
          go_enter Tryd.func36, Tryd.ntmps36
          go_wp2_with fail
          go_ret
          exact ⟨ret_bool HVV.out.symm, B1.out⟩
        · subst hkd
          rw [if_neg (show ¬ ((1 : Int) ≤ 9 ∧ (9 : Int) ≤ 6) by decide), if_pos (show (7 : Int) ≤ 9 ∧ (9 : Int) ≤ 9 from ⟨by decide, by decide⟩)] at HV
          obtain ⟨u, hu⟩ : ∃ u, decide (co = 0) = u := ⟨_, rfl⟩
          have HVV : Hid (V = u) := by unfold Hid; rw [← HV.out, hu]
          have eu : (co == 0) = u := by rw [← hu]; exact rfl
          clear HV hu
          go_enter Tryd.func36, Tryd.ntmps36
          go_wp2_with fail
          go_ret
          exact ⟨ret_bool HVV.out.symm, B1.out⟩
        · subst hkd
          rw [if_neg (show ¬ ((1 : Int) ≤ 11 ∧ (11 : Int) ≤ 6) by decide), if_neg (show ¬ ((7 : Int) ≤ 11 ∧ (11 : Int) ≤ 9) by decide)] at HV
          by_cases c0 : co = 0
          · subst c0
            by_cases s0 : s.size = 0
            · have z2 := str_nil s0
              subst z2
              have HVV : Hid (V = true) := by unfold Hid; rw [← HV.out]; exact decide_eq_true ⟨rfl, rfl, rfl⟩
              clear HV
              go_enter Tryd.func36, Tryd.ntmps36
              go_wp2_with fail
              go_ret
              exact ⟨ret_bool HVV.out.symm, B1.out⟩
            · have e2 := str_some s0
              have HVV : Hid (V = false) := by unfold Hid; rw [← HV.out]; exact decide_eq_false fun h => s0 h.2.2
              clear HV
              go_enter Tryd.func36, Tryd.ntmps36
              go_wp2_with fail
              go_ret
              exact ⟨ret_bool HVV.out.symm, B1.out⟩
          · have e0 : (co == 0) = false := beq_eq_false_iff_ne.2 c0
            have HVV : Hid (V = false) := by unfold Hid; rw [← HV.out]; exact decide_eq_false fun h => c0 h.2.1
            clear HV
            go_enter Tryd.func36, Tryd.ntmps36
            go_wp2_with fail
            go_ret
            exact ⟨ret_bool HVV.out.symm, B1.out⟩
        · have HVV : Hid (V = false) := by unfold Hid; rw [← HV.out]; rw [if_neg (by omega), if_neg (by omega)]; exact decide_eq_false fun h => by omega
          clear HV
          have k1 : (kd == 1) = false := beq_eq_false_iff_ne.2 (by omega)
          have k2 : (kd == 2) = false := beq_eq_false_iff_ne.2 (by omega)
          have k3 : (kd == 3) = false := beq_eq_false_iff_ne.2 (by omega)
          have k4 : (kd == 4) = false := beq_eq_false_iff_ne.2 (by omega)
          have k5 : (kd == 5) = false := beq_eq_false_iff_ne.2 (by omega)
          have k6 : (kd == 6) = false := beq_eq_false_iff_ne.2 (by omega)
          have k7 : (kd == 7) = false := beq_eq_false_iff_ne.2 (by omega)
          have k8 : (kd == 8) = false := beq_eq_false_iff_ne.2 (by omega)
          have k9 : (kd == 9) = false := beq_eq_false_iff_ne.2 (by omega)
          have k11 : (kd == 11) = false := beq_eq_false_iff_ne.2 (by omega)
          clear hkd h10
          go_enter Tryd.func36, Tryd.ntmps36
          go_wp2_with fail
          go_ret
          exact ⟨ret_bool HVV.out.symm, B1.out⟩
      · have e0 : (ec != 0) = true := by simpa using he
        have HVV : Hid (V = false) := by unfold Hid; rw [← HV.out]; rw [decide_eq_false (fun h => he h.2), Bool.false_and]
        clear HV
        go_enter Tryd.func36, Tryd.ntmps36
        go_wp2_with fail
        go_ret
        exact ⟨ret_bool HVV.out.symm, B1.out⟩
    · have dz : (4096 : Int) < (s.size : Int) := by omega
      have dz2 : decide ((4096 : Int) < (s.size : Int)) = true := decide_eq_true dz
      have HVV : Hid (V = false) := by unfold Hid; rw [← HV.out]; rw [decide_eq_false (fun h => hz h.1), Bool.false_and]
      clear HV
      go_enter Tryd.func36, Tryd.ntmps36
      go_wp2_with fail
      go_ret
      exact ⟨ret_bool HVV.out.symm, B1.out⟩
end Go.Proofs.YtjffbjlniieciaaDoor
namespace Go.Proofs.YtjffbjlniieciaaDoor
set_option linter.unusedSimpArgs false
set_option linter.unusedVariables false
open Go.RowKit

theorem leaf_asks {kd cl ec co cols deep : Int} {s : ByteArray} {n : Nat} (hd : 1 ≤ deep) (hh : ¬ (12 ≤ kd ∧ kd ≤ 14)) :
    (if deep < 1 ∨ kd < 1 ∨ 14 < kd then false else decide (LeafOk kd cl co cols s n) && if kd = 10 then (parseF ec s.data.toList).isSome else decide (ec = 0)) = (decide (0 ≤ cl) && decide (cl < cols) && decide (n = 0) && asksP kd ec co s) := by
  unfold asksP
  have hp : (parseF ec s.data.toList).isSome = true → s.size ≤ 4096 := fun h => by
    obtain ⟨ns, hns⟩ := Option.isSome_iff_exists.1 h
    unfold parseF at hns
    split at hns
    · cases hns
    · rename_i hx
      rw [lenB] at hx
      omega
  by_cases h10 : kd = 10
  · subst h10
    rw [if_neg (by omega), if_pos rfl, if_pos rfl, Bool.eq_iff_iff]
    simp only [Bool.and_eq_true, decide_eq_true_eq]
    constructor
    · rintro ⟨⟨x1, x2, x3, x4, x5, x6, x7, x8⟩, x9⟩
      exact ⟨⟨⟨x2, x3⟩, x1⟩, x9, by omega⟩
    · rintro ⟨⟨⟨x2, x3⟩, x1⟩, x9, x5⟩
      have := hp x9
      exact ⟨⟨x1, x2, x3, this, by omega, by omega, fun h => by omega, fun h => by omega⟩, x9⟩
  · rw [if_neg h10, if_neg h10, Bool.eq_iff_iff]
    by_cases hr : deep < 1 ∨ kd < 1 ∨ 14 < kd
    · rw [if_pos hr, if_neg (by omega), if_neg (by omega)]
      simp only [Bool.and_eq_true, decide_eq_true_eq]
      constructor
      · intro h; cases h
      · rintro ⟨_, _, h, _⟩
        omega
    · rw [if_neg hr]
      simp only [Bool.and_eq_true, decide_eq_true_eq]
      by_cases k6 : 1 ≤ kd ∧ kd ≤ 6
      · rw [if_pos k6, decide_eq_true_eq]
        constructor
        · rintro ⟨⟨x1, x2, x3, x4, x5, x6, x7, x8⟩, x9⟩
          exact ⟨⟨⟨x2, x3⟩, x1⟩, ⟨x4, x9⟩, x5, x6⟩
        · rintro ⟨⟨⟨x2, x3⟩, x1⟩, ⟨x4, x9⟩, x5, x6⟩
          exact ⟨⟨x1, x2, x3, x4, x5, x6, fun _ => k6.2, fun h => by omega⟩, x9⟩
      · rw [if_neg k6]
        by_cases k9 : 7 ≤ kd ∧ kd ≤ 9
        · rw [if_pos k9, decide_eq_true_eq]
          constructor
          · rintro ⟨⟨x1, x2, x3, x4, x5, x6, x7, x8⟩, x9⟩
            exact ⟨⟨⟨x2, x3⟩, x1⟩, ⟨x4, x9⟩, by by_cases h : 0 < co; have := x7 h; omega; omega⟩
          · rintro ⟨⟨⟨x2, x3⟩, x1⟩, ⟨x4, x9⟩, x5⟩
            exact ⟨⟨x1, x2, x3, x4, by omega, by omega, fun _ => by omega, fun h => by omega⟩, x9⟩
        · rw [if_neg k9, decide_eq_true_eq]
          constructor
          · rintro ⟨⟨x1, x2, x3, x4, x5, x6, x7, x8⟩, x9⟩
            exact ⟨⟨⟨x2, x3⟩, x1⟩, ⟨x4, x9⟩, by omega, by by_cases h : 0 < co; have := x7 h; omega; omega, x8 (by omega)⟩
          · rintro ⟨⟨⟨x2, x3⟩, x1⟩, ⟨x4, x9⟩, x5, x6, x7⟩
            exact ⟨⟨x1, x2, x3, x4, by omega, by omega, fun _ => by omega, fun _ => x7⟩, x9⟩
theorem lit_right {W : World} {q : Pr} {A2 : Option Addr} {c2 B0 B1 : Nat} {cols deep : Int} {v : Bool} (h0 : W.cell? ⟨B0, 0, none⟩ = some (.int .i64 cols)) (h1 : W.cell? ⟨B1, 0, none⟩ = some (.int .i64 deep)) (l0 : B0 < W.heap.size) (l1 : B1 < W.heap.size)
    (hc : ∀ W2, Below W.heap.size W W2 → Calls Tryd.prog 22 #[.agg #[.int .i64 q.kind, .int .i64 q.col, .string q.s, .int .i64 q.esc, .int .i64 q.coll, .slice A2 q.kids.length c2], .int .i64 cols, .int .i64 deep] W2 fun r w' => r = .returned (.bool v) ∧ Below W2.heap.size W2 w') :
    Calls Tryd.prog 54 #[.agg #[.int .i64 q.kind, .int .i64 q.col, .string q.s, .int .i64 q.esc, .int .i64 q.coll, .slice A2 q.kids.length c2], .pointer (some ⟨B0, 0, none⟩), .pointer (some ⟨B1, 0, none⟩)] W fun r w' => r = .returned (.bool !v) ∧ Below W.heap.size W w' := by
  obtain ⟨w1, hw1⟩ : ∃ w1, W.alloc (.cells #[.int .i64 q.kind, .int .i64 q.col, .string q.s, .int .i64 q.esc, .int .i64 q.coll, .slice A2 q.kids.length c2] 24) = w1 := ⟨_, rfl⟩
  have HB1 : Hid (Below W.heap.size W w1) := by unfold Hid; rw [← hw1]; exact (Below.refl _ W).alloc (Nat.le_refl _) _
  have hb : Blk w1 W.heap.size 24 #[.int .i64 q.kind, .int .i64 q.col, .string q.s, .int .i64 q.esc, .int .i64 q.coll, .slice A2 q.kids.length c2] := by rw [← hw1]; exact Blk.new W _ _
  have b0 : w1.cell? ⟨W.heap.size, 0, none⟩ = some (.int .i64 q.kind) := hb.cell 0
  have b1 : w1.cell? ⟨W.heap.size, 1, none⟩ = some (.int .i64 q.col) := hb.cell 1
  have b2 : w1.cell? ⟨W.heap.size, 2, none⟩ = some (.string q.s) := hb.cell 2
  have b3 : w1.cell? ⟨W.heap.size, 3, none⟩ = some (.int .i64 q.esc) := hb.cell 3
  have b4 : w1.cell? ⟨W.heap.size, 4, none⟩ = some (.int .i64 q.coll) := hb.cell 4
  have b5 : w1.cell? ⟨W.heap.size, 5, none⟩ = some (.slice A2 q.kids.length c2) := hb.cell 5
  have g0 : w1.cell? ⟨B0, 0, none⟩ = some (.int .i64 cols) := (HB1.out.cell (p := ⟨B0, 0, none⟩) l0).trans h0
  have g1 : w1.cell? ⟨B1, 0, none⟩ = some (.int .i64 deep) := (HB1.out.cell (p := ⟨B1, 0, none⟩) l1).trans h1
  have HC := Lib.hid (hc w1 HB1.out)
  have hs1 := HB1.out.size
  clear hb h0 h1 hc l0 l1
  go_enter Tryd.func54, Tryd.ntmps54
  go_wp2_with fail
  refine HC.out.mono ?_
  rintro r w2 ⟨rfl, q2⟩
  have HB2 := Lib.hid (below_below HB1.out q2 hs1)
  clear q2
  go_wp2_with fail
  go_ret
  exact ⟨rfl, HB2.out⟩

theorem all_not {ks : List Pr} {f : Pr → Bool} : (!ks.any fun q => !f q) = ks.all f := by rw [List.all_eq_not_any_not]

set_option maxRecDepth 20000 in
theorem allr_any {w : World} {lo hi : Nat} {ks : List Pr} {A : Option Addr} {c : Nat} (hk : Kin w lo hi ks A c) (hhi : hi ≤ w.heap.size) (cols deep : Int)
    (hq : ∀ q ∈ ks, ∀ (W : World) A2 c2, Below w.heap.size w W → PrOk q → Kin W lo hi q.kids A2 c2 → Calls Tryd.prog 22 #[.agg #[.int .i64 q.kind, .int .i64 q.col, .string q.s, .int .i64 q.esc, .int .i64 q.coll, .slice A2 q.kids.length c2], .int .i64 cols, .int .i64 deep] W fun r w' => r = .returned (.bool (rightP q cols deep)) ∧ Below W.heap.size W w') :
    Calls Tryd.prog 35 #[.slice A ks.length c, .int .i64 cols, .int .i64 deep] w fun r w' => r = .returned (.bool (ks.all fun q => rightP q cols deep)) ∧ Below w.heap.size w w' := by
  obtain ⟨w1, hw1⟩ : ∃ w1, w.alloc (.cells #[.int .i64 cols] 3) = w1 := ⟨_, rfl⟩
  obtain ⟨w2, hw2⟩ : ∃ w2, w1.alloc (.cells #[.int .i64 deep] 3) = w2 := ⟨_, rfl⟩
  have hs1 : w1.heap.size = w.heap.size + 1 := by rw [← hw1]; simp
  have hs2 : w2.heap.size = w.heap.size + 2 := by rw [← hw2]; simp [hs1]
  have HB1 : Hid (Below w.heap.size w w1) := by unfold Hid; rw [← hw1]; exact (Below.refl _ w).alloc (Nat.le_refl _) _
  have HB2 : Hid (Below w.heap.size w w2) := by unfold Hid; rw [← hw2]; exact HB1.out.alloc (by omega) _
  have k0 : Blk w2 w.heap.size 3 #[.int .i64 cols] := by
    rw [← hw2]
    have : Blk w1 w.heap.size 3 #[.int .i64 cols] := by rw [← hw1]; exact Blk.new w _ _
    exact this.alloc _
  have k1 : Blk w2 (w.heap.size + 1) 3 #[.int .i64 deep] := by
    rw [← hw2, ← hs1]
    exact Blk.new w1 _ _
  have HC := Lib.hid (has_right (w := w2) (B0 := w.heap.size) (B1 := w.heap.size + 1) (hk.kept HB2.out hhi) (by omega) (fun q => !rightP q cols deep) (fun q hm W hW A2 c2 ho hkk =>
    lit_right ((k0.below hW (by omega)).cell 0) ((k1.below hW (by omega)).cell 0) (by have := hW.size; omega) (by have := hW.size; omega) (fun W2 hW2 => hq q hm W2 A2 c2 (below_below (below_below HB2.out hW (by omega)) hW2 (by have := hW.size; omega)) ho (hkk.kept hW2 (by have := hW.size; omega)))))
  obtain ⟨v, hv⟩ : ∃ v, (ks.any fun q => !rightP q cols deep) = v := ⟨_, rfl⟩
  have HV : Hid ((ks.all fun q => rightP q cols deep) = !v) := by unfold Hid; rw [← hv, all_not]
  rw [hv] at HC
  obtain ⟨V, hV⟩ : ∃ V, (ks.all fun q => rightP q cols deep) = V := ⟨_, rfl⟩
  rw [hV] at HV ⊢
  clear hk hq hv k0 k1 hV
  go_enter Tryd.func35, Tryd.ntmps35
  go_wp2_with fail
  refine HC.out.mono ?_
  rintro r w3 ⟨rfl, q3⟩
  have HB3 := Lib.hid (below_below HB2.out q3 (by omega))
  clear q3
  go_wp2_with fail
  go_ret
  exact ⟨ret_bool HV.out.symm, HB3.out⟩

set_option maxRecDepth 20000 in
set_option maxHeartbeats 16000000 in
theorem nrightr_any : ∀ (p : Pr) {w : World} {lo hi : Nat} {A : Option Addr} {c : Nat} (cols deep : Int), PrOk p → Kin w lo hi p.kids A c → hi ≤ w.heap.size → 0 ≤ deep → deep ≤ 1000000 →
    Calls Tryd.prog 22 #[.agg #[.int .i64 p.kind, .int .i64 p.col, .string p.s, .int .i64 p.esc, .int .i64 p.coll, .slice A p.kids.length c], .int .i64 cols, .int .i64 deep] w fun r w' => r = .returned (.bool (rightP p cols deep)) ∧ Below w.heap.size w w' :=
  Pr.ind fun p ih w lo hi A c cols deep ho hk hhi hd1 hd2 => by
    have HIH := Lib.hid ih
    have HK := Lib.hid hk
    have hs63 := ho.s
    obtain ⟨hl1, hl2⟩ := hk.len
    clear ih hk ho
    obtain ⟨V, hV⟩ : ∃ V, rightP p cols deep = V := ⟨_, rfl⟩
    rw [hV]
    rw [rightP_eq] at hV
    obtain ⟨kd, hkd⟩ : ∃ x, p.kind = x := ⟨_, rfl⟩
    obtain ⟨cl, hcl⟩ : ∃ x, p.col = x := ⟨_, rfl⟩
    obtain ⟨ec, hec⟩ : ∃ x, p.esc = x := ⟨_, rfl⟩
    obtain ⟨co, hco⟩ : ∃ x, p.coll = x := ⟨_, rfl⟩
    obtain ⟨s, hs⟩ : ∃ x, p.s = x := ⟨_, rfl⟩
    obtain ⟨ks, hks⟩ : ∃ x, p.kids = x := ⟨_, rfl⟩
    rw [hkd, hcl, hec, hco, hs, hks] at hV
    rw [hks] at HIH HK hl1
    rw [hs] at hs63
    rw [hkd, hcl, hec, hco, hs, hks]
    clear hkd hcl hec hco hs hks
    have HV := Lib.hid hV
    clear hV
    obtain ⟨w1, hw1⟩ : ∃ w1, w.alloc (.cells #[.int .i64 kd, .int .i64 cl, .string s, .int .i64 ec, .int .i64 co, .slice A ks.length c] 24) = w1 := ⟨_, rfl⟩
    have B1 : Hid (Below w.heap.size w w1) := by unfold Hid; rw [← hw1]; exact (Below.refl _ w).alloc (Nat.le_refl _) _
    have hb : Blk w1 w.heap.size 24 #[.int .i64 kd, .int .i64 cl, .string s, .int .i64 ec, .int .i64 co, .slice A ks.length c] := by rw [← hw1]; exact Blk.new w _ _
    have hs1 : w1.heap.size = w.heap.size + 1 := by rw [← hw1]; simp
    have HBK : Hid (∀ W, Below w1.heap.size w1 W → Blk W w.heap.size 24 #[.int .i64 kd, .int .i64 cl, .string s, .int .i64 ec, .int .i64 co, .slice A ks.length c]) := fun W hW => hb.below hW (by omega)
    have b0 : w1.cell? ⟨w.heap.size, 0, none⟩ = some (.int .i64 kd) := hb.cell 0
    have b1 : w1.cell? ⟨w.heap.size, 1, none⟩ = some (.int .i64 cl) := hb.cell 1
    have b2 : w1.cell? ⟨w.heap.size, 2, none⟩ = some (.string s) := hb.cell 2
    have b3 : w1.cell? ⟨w.heap.size, 3, none⟩ = some (.int .i64 ec) := hb.cell 3
    have b4 : w1.cell? ⟨w.heap.size, 4, none⟩ = some (.int .i64 co) := hb.cell 4
    have b5 : w1.cell? ⟨w.heap.size, 5, none⟩ = some (.slice A ks.length c) := hb.cell 5
    have HK1 := Lib.hid (HK.out.kept B1.out hhi)
    clear hb HK
    by_cases d0 : deep = 0
    · subst d0
      have HVV : Hid (V = false) := by unfold Hid; rw [← HV.out]; exact if_pos (.inl (by decide))
      clear HV HIH
      go_enter Tryd.func22, Tryd.ntmps22
      go_wp2_with fail
      go_ret
      exact ⟨ret_bool HVV.out.symm, B1.out⟩
    · have e0 : (deep == 0) = false := beq_eq_false_iff_ne.2 d0
      by_cases hh : 12 ≤ kd ∧ kd ≤ 14
      · have hn : ¬ (deep < 1 ∨ kd < 1 ∨ 14 < kd) := by omega
        rw [if_neg hn, if_pos hh.1] at HV
        obtain ⟨mo, hmo⟩ : ∃ mo : Int, (if kd = 14 then 1 else 16) = mo := ⟨_, rfl⟩
        obtain ⟨u, hu⟩ : ∃ u, nestP cl ec co s ks.length mo = u := ⟨_, rfl⟩
        have HU : Hid (decide (HeadOk kd cl ec co s ks.length) = u) := by
          unfold Hid
          rw [← hu, nestP, decide_eq_decide, HeadOk, ← hmo]
          constructor
          · rintro ⟨x1, x2, x3, x4, x5, x6, x7⟩
            refine ⟨x1, x4, x2, x3, by omega, ?_⟩
            split
            · have := x7 (by assumption)
              omega
            · omega
          · rintro ⟨x1, x2, x3, x4, x5, x6⟩
            split at x6
            · exact ⟨x1, x3, x4, x2, by omega, by omega, fun _ => by omega⟩
            · exact ⟨x1, x3, x4, x2, by omega, by omega, fun h => by omega⟩
        have HN := Lib.hid (nests_any (w := w1) kd cl ec co s ks.length (A := A) (c := c) mo (by omega))
        rw [hu] at HN
        rw [HU.out] at HV
        clear hu HU hn
        cases u with
        | false =>
          have HVV : Hid (V = false) := by unfold Hid; rw [← HV.out]; exact Bool.false_and _
          clear HV HIH
          rcases (show kd = 12 ∨ kd = 13 ∨ kd = 14 by omega) with hkd | hkd | hkd
          · subst hkd
            obtain rfl : mo = 16 := hmo.symm
            clear hmo hh
            go_enter Tryd.func22, Tryd.ntmps22
            go_wp2_with fail
            refine HN.out.mono ?_
            rintro r w2 ⟨rfl, q2⟩
            have HB2 := Lib.hid (below_below B1.out q2 (by omega))
            clear q2
            go_wp2_with fail
            go_ret
            exact ⟨ret_bool HVV.out.symm, HB2.out⟩
          · subst hkd
            obtain rfl : mo = 16 := hmo.symm
            clear hmo hh
            go_enter Tryd.func22, Tryd.ntmps22
            go_wp2_with fail
            refine HN.out.mono ?_
            rintro r w2 ⟨rfl, q2⟩
            have HB2 := Lib.hid (below_below B1.out q2 (by omega))
            clear q2
            go_wp2_with fail
            go_ret
            exact ⟨ret_bool HVV.out.symm, HB2.out⟩
          · subst hkd
            obtain rfl : mo = 1 := hmo.symm
            clear hmo hh
            go_enter Tryd.func22, Tryd.ntmps22
            go_wp2_with fail
            refine HN.out.mono ?_
            rintro r w2 ⟨rfl, q2⟩
            have HB2 := Lib.hid (below_below B1.out q2 (by omega))
            clear q2
            go_wp2_with fail
            go_ret
            exact ⟨ret_bool HVV.out.symm, HB2.out⟩
        | true =>
          have HVV : Hid (V = ks.all fun q => rightP q cols (deep - 1)) := by unfold Hid; rw [← HV.out]; exact Bool.true_and _
          clear HV
          have hsub : IntKind.i64.wrap (deep - 1) = deep - 1 := IntWalk.i64_in _ (by omega)
          have HAL : Hid (∀ W, Below w1.heap.size w1 W → Calls Tryd.prog 35 #[.slice A ks.length c, .int .i64 cols, .int .i64 (deep - 1)] W fun r w' => r = .returned (.bool V) ∧ Below W.heap.size W w') := fun W hW => by
            rw [HVV.out]
            exact allr_any (HK1.out.kept hW (by omega)) (by have := hW.size; omega) cols (deep - 1) (fun q hm W2 A2 c2 hW2 ho2 hk2 => HIH.out q hm cols (deep - 1) ho2 hk2 (by have := hW.size; have := hW2.size; omega) (by omega) (by omega))
          clear HVV
          rcases (show kd = 12 ∨ kd = 13 ∨ kd = 14 by omega) with hkd | hkd | hkd
          · subst hkd
            obtain rfl : mo = 16 := hmo.symm
            clear hmo hh
            go_enter Tryd.func22, Tryd.ntmps22
            go_wp2_with fail
            refine HN.out.mono ?_
            rintro r w2 ⟨rfl, q2⟩
            have HB2 := Lib.hid q2
            have HBX := Lib.hid (below_below B1.out q2 (by omega))
            have hs2 := HBX.out.size
            have c5 := (HBK.out w2 q2).cell 5
            simp only [List.getElem?_toArray, List.getElem?_cons_zero, List.getElem?_cons_succ] at c5
            clear q2
            go_wp2_with fail
            refine (HAL.out w2 HB2.out).mono ?_
            rintro r w3 ⟨rfl, q3⟩
            have HB3 := Lib.hid (below_below HBX.out q3 hs2)
            clear q3
            go_wp2_with fail
            go_ret
            exact ⟨rfl, HB3.out⟩
          · subst hkd
            obtain rfl : mo = 16 := hmo.symm
            clear hmo hh
            go_enter Tryd.func22, Tryd.ntmps22
            go_wp2_with fail
            refine HN.out.mono ?_
            rintro r w2 ⟨rfl, q2⟩
            have HB2 := Lib.hid q2
            have HBX := Lib.hid (below_below B1.out q2 (by omega))
            have hs2 := HBX.out.size
            have c5 := (HBK.out w2 q2).cell 5
            simp only [List.getElem?_toArray, List.getElem?_cons_zero, List.getElem?_cons_succ] at c5
            clear q2
            go_wp2_with fail
            refine (HAL.out w2 HB2.out).mono ?_
            rintro r w3 ⟨rfl, q3⟩
            have HB3 := Lib.hid (below_below HBX.out q3 hs2)
            clear q3
            go_wp2_with fail
            go_ret
            exact ⟨rfl, HB3.out⟩
          · subst hkd
            obtain rfl : mo = 1 := hmo.symm
            clear hmo hh
            go_enter Tryd.func22, Tryd.ntmps22
            go_wp2_with fail
            refine HN.out.mono ?_
            rintro r w2 ⟨rfl, q2⟩
            have HB2 := Lib.hid q2
            have HBX := Lib.hid (below_below B1.out q2 (by omega))
            have hs2 := HBX.out.size
            have c5 := (HBK.out w2 q2).cell 5
            simp only [List.getElem?_toArray, List.getElem?_cons_zero, List.getElem?_cons_succ] at c5
            clear q2
            go_wp2_with fail
            refine (HAL.out w2 HB2.out).mono ?_
            rintro r w3 ⟨rfl, q3⟩
            have HB3 := Lib.hid (below_below HBX.out q3 hs2)
            clear q3
            go_wp2_with fail
            go_ret
            exact ⟨rfl, HB3.out⟩
      · have f12 : (kd == 12) = false := beq_eq_false_iff_ne.2 (by omega)
        have f13 : (kd == 13) = false := beq_eq_false_iff_ne.2 (by omega)
        have f14 : (kd == 14) = false := beq_eq_false_iff_ne.2 (by omega)
        obtain ⟨u, hu⟩ : ∃ u, asksP kd ec co s = u := ⟨_, rfl⟩
        have HU : Hid ((if deep < 1 ∨ kd < 1 ∨ 14 < kd then false else decide (LeafOk kd cl co cols s ks.length) && if kd = 10 then (parseF ec s.data.toList).isSome else decide (ec = 0)) = (decide (0 ≤ cl) && decide (cl < cols) && decide (ks.length = 0) && u)) := by
          unfold Hid
          rw [← hu]
          exact leaf_asks (by omega) hh
        have HV2 : Hid ((decide (0 ≤ cl) && decide (cl < cols) && decide (ks.length = 0) && u) = V) := by
          unfold Hid
          rw [← HU.out, ← HV.out]
          split
          · rfl
          · rw [if_neg (show ¬ 12 ≤ kd by omega)]
        have HA := Lib.hid (asks_any (w := w1) kd cl ec co s ks.length (A := A) (c := c) (by omega))
        rw [hu] at HA
        clear hu HU HV HIH hh
        by_cases g1 : 0 ≤ cl
        · have i1 : decide (0 ≤ cl) = true := decide_eq_true g1
          by_cases g2 : cl < cols
          · have i2 : decide (cl < cols) = true := decide_eq_true g2
            by_cases g3 : ks.length = 0
            · have HVV : Hid (V = u) := by unfold Hid; rw [← HV2.out, i1, i2, decide_eq_true g3]; rfl
              have e3 : ((ks.length : Int) == 0) = true := by rw [g3]; rfl
              have G3 := Lib.hid g3
              clear g3 HV2
              go_enter Tryd.func22, Tryd.ntmps22
              go_wp2_with fail
              refine HA.out.mono ?_
              rintro r w2 ⟨rfl, q2⟩
              have HB2 := Lib.hid (below_below B1.out q2 (by omega))
              clear q2
              go_wp2_with fail
              go_ret
              exact ⟨ret_bool HVV.out.symm, HB2.out⟩
            · have HVV : Hid (V = false) := by unfold Hid; rw [← HV2.out, decide_eq_false g3, Bool.and_false, Bool.false_and]
              have e3 : ((ks.length : Int) == 0) = false := beq_eq_false_iff_ne.2 (by omega)
              clear HV2
              go_enter Tryd.func22, Tryd.ntmps22
              go_wp2_with fail
              go_ret
              exact ⟨ret_bool HVV.out.symm, B1.out⟩
          · have HVV : Hid (V = false) := by unfold Hid; rw [← HV2.out, decide_eq_false g2, Bool.and_false, Bool.false_and, Bool.false_and]
            have i2 : decide (cl < cols) = false := decide_eq_false g2
            clear HV2
            go_enter Tryd.func22, Tryd.ntmps22
            go_wp2_with fail
            go_ret
            exact ⟨ret_bool HVV.out.symm, B1.out⟩
        · have HVV : Hid (V = false) := by unfold Hid; rw [← HV2.out, decide_eq_false g1, Bool.false_and, Bool.false_and, Bool.false_and]
          have i1 : decide (0 ≤ cl) = false := decide_eq_false g1
          clear HV2
          go_enter Tryd.func22, Tryd.ntmps22
          go_wp2_with fail
          go_ret
          exact ⟨ret_bool HVV.out.symm, B1.out⟩

set_option maxRecDepth 20000 in
theorem nright_any {w : World} {p : Pr} {A : Option Addr} {c : Nat} (ho : PrOk p) (hk : Kin w 0 w.heap.size p.kids A c) (cols : Int) :
    Calls Tryd.prog 12 #[.agg #[.int .i64 p.kind, .int .i64 p.col, .string p.s, .int .i64 p.esc, .int .i64 p.coll, .slice A p.kids.length c], .int .i64 cols] w fun r w' => r = .returned (.bool (rightP p cols 12)) ∧ Below w.heap.size w w' := by
  obtain ⟨w1, hw1⟩ : ∃ w1, w.alloc (.cells #[.int .i64 p.kind, .int .i64 p.col, .string p.s, .int .i64 p.esc, .int .i64 p.coll, .slice A p.kids.length c] 24) = w1 := ⟨_, rfl⟩
  have B1 : Hid (Below w.heap.size w w1) := by unfold Hid; rw [← hw1]; exact (Below.refl _ w).alloc (Nat.le_refl _) _
  have hb : Blk w1 w.heap.size 24 #[.int .i64 p.kind, .int .i64 p.col, .string p.s, .int .i64 p.esc, .int .i64 p.coll, .slice A p.kids.length c] := by rw [← hw1]; exact Blk.new w _ _
  have hs1 := B1.out.size
  have b0 : w1.cell? ⟨w.heap.size, 0, none⟩ = some (.int .i64 p.kind) := hb.cell 0
  have b1 : w1.cell? ⟨w.heap.size, 1, none⟩ = some (.int .i64 p.col) := hb.cell 1
  have b2 : w1.cell? ⟨w.heap.size, 2, none⟩ = some (.string p.s) := hb.cell 2
  have b3 : w1.cell? ⟨w.heap.size, 3, none⟩ = some (.int .i64 p.esc) := hb.cell 3
  have b4 : w1.cell? ⟨w.heap.size, 4, none⟩ = some (.int .i64 p.coll) := hb.cell 4
  have b5 : w1.cell? ⟨w.heap.size, 5, none⟩ = some (.slice A p.kids.length c) := hb.cell 5
  have HC := Lib.hid (nrightr_any p (w := w1) cols 12 ho (hk.kept B1.out (Nat.le_refl _)) hs1 (by decide) (by decide))
  obtain ⟨V, hV⟩ : ∃ V, rightP p cols 12 = V := ⟨_, rfl⟩
  rw [hV] at HC ⊢
  clear hb hV ho hk
  go_enter Tryd.func12, Tryd.ntmps12
  go_wp2_with fail
  refine HC.out.mono ?_
  rintro r w2 ⟨rfl, q2⟩
  have HB2 := Lib.hid (below_below B1.out q2 hs1)
  clear q2
  go_wp2_with fail
  go_ret
  exact ⟨rfl, HB2.out⟩
end Go.Proofs.YtjffbjlniieciaaDoor
namespace Go.Proofs.YtjffbjlniieciaaDoor
set_option linter.unusedSimpArgs false
set_option linter.unusedVariables false
open Go.RowKit

theorem not_opp (q : Pr) (row : List Vl) : headS 14 (([q].map fun q => saysP q row).count 0) (([q].map fun q => saysP q row).count 1) (([q].map fun q => saysP q row).countP other) = oppI (saysP q row) := by
  rw [List.map_singleton]
  rcases says_three q row with h | h | h <;> rw [h] <;> decide
theorem tal_mem {l : List Int} {x : Int} (h : x ∈ l) : 0 < l.count x := List.count_pos_iff.2 h
set_option maxRecDepth 20000 in
set_option maxHeartbeats 4000000 in
theorem weigh0_any {w : World} {lo hi : Nat} {ks : List Pr} {A rA : Option Addr} {c rc : Nat} {row : List Vl} (hk : Kin w lo hi ks A c) (hhi : hi ≤ w.heap.size)
    (hq : ∀ q ∈ ks, ∀ (W : World) A2 c2, Below w.heap.size w W → PrOk q → Kin W lo hi q.kids A2 c2 → Calls Tryd.prog 24 #[.agg #[.int .i64 q.kind, .int .i64 q.col, .string q.s, .int .i64 q.esc, .int .i64 q.coll, .slice A2 q.kids.length c2], .slice rA row.length rc] W fun r w' => r = .returned (.int .i64 (saysP q row)) ∧ Below W.heap.size W w') :
    Calls Tryd.prog 37 #[.slice A ks.length c, .slice rA row.length rc, .int .i64 0] w fun r w' => r = .returned (.int .i64 (headS 12 ((ks.map fun q => saysP q row).count 0) ((ks.map fun q => saysP q row).count 1) ((ks.map fun q => saysP q row).countP other))) ∧ Below w.heap.size w w' := by
  have HQ := Lib.hid hq
  have HK := Lib.hid hk
  obtain ⟨hl1, hl2⟩ := hk.len
  clear hq hk
  obtain ⟨V, hV⟩ : ∃ V, headS 12 ((ks.map fun q => saysP q row).count 0) ((ks.map fun q => saysP q row).count 1) ((ks.map fun q => saysP q row).countP other) = V := ⟨_, rfl⟩
  have HY : Hid (0 ∈ (ks.map fun q => saysP q row) → V = 0) := fun h => by
    have := tal_mem h
    rw [← hV, headS]
    rw [if_pos (by omega)]
  have HVT : Hid (∀ a b u : Nat, Tal (ks.map fun q => saysP q row) a b u → headS 12 a b u = V) := fun a b u ht => by rw [← hV, ht.no, ht.yes, ht.un]
  rw [hV]
  clear hV
  go_enter Tryd.func37, Tryd.ntmps37
  go_wp2_with fail
  refine (opp_any 0).mono ?_
  rintro r w' ⟨rfl, rfl⟩
  rw [show oppI 0 = 1 from rfl]
  go_wp2_with fail
  go_loopw [7, 14] (fun x7 x14 wr => ∃ (k x u : Nat) (al : Int), k ≤ ks.length ∧ x14 = .int .i64 (k : Int) ∧ x7 = .int .i64 al ∧ (al = if u = 0 then 1 else 2) ∧ Tal ((ks.take k).map fun q => saysP q row) 0 x u ∧ Below w.heap.size w wr) (fun _ x14 _ => ks.length - (intOf x14).toNat)
  case atStart => exact ⟨0, 0, 0, 1, Nat.zero_le _, rfl, rfl, rfl, Tal.nil, Below.refl _ _⟩
  case round =>
    obtain ⟨k, x, u, al, hkl, rfl, rfl, hal, htal, hb⟩ := hrel
    have HAL := Lib.hid hal
    have HT := Lib.hid htal
    have HB := Lib.hid hb
    have hsz := hb.size
    clear hal htal hb
    by_cases hlt : k < ks.length
    · have ik : (k : Int) < (ks.length : Int) := by omega
      obtain ⟨bk, off, kA, kc, rfl, hlo, hbh, c0, c1, c2, c3, c4, c5, hok, hkk⟩ := (HK.out.kept HB.out hhi).six hlt
      have HC : Hid (∀ W, Below wr.heap.size wr W → Calls Tryd.prog 24 #[.agg #[.int .i64 ks[k].kind, .int .i64 ks[k].col, .string ks[k].s, .int .i64 ks[k].esc, .int .i64 ks[k].coll, .slice kA ks[k].kids.length kc], .slice rA row.length rc] W fun r w' => r = .returned (.int .i64 (saysP ks[k] row)) ∧ Below W.heap.size W w') := fun W hW =>
        HQ.out ks[k] (List.getElem_mem hlt) W kA kc (below_below HB.out hW hsz) hok (hkk.kept hW (by omega))
      have HTK : Hid ((ks.take (k + 1)).map (fun q => saysP q row) = (ks.take k).map (fun q => saysP q row) ++ [saysP ks[k] row]) := by unfold Hid; rw [List.take_succ_eq_append_getElem hlt, List.map_append]; rfl
      have hthr := says_three ks[k] row
      have HYK : Hid (saysP ks[k] row = 0 → V = 0) := fun h => HY.out (List.mem_map.2 ⟨_, List.getElem_mem hlt, h⟩)
      generalize ks[k] = q at *
      obtain ⟨z, hz⟩ : ∃ z, saysP q row = z := ⟨_, rfl⟩
      rw [hz] at HC HTK hthr HYK
      clear hz hok hkk
      have BK : Hid (∀ o, Below wr.heap.size wr (wr.alloc o)) := fun o => (Below.refl _ _).alloc (Nat.le_refl _) _
      rcases hthr with rfl | rfl | rfl
      · have HV := Lib.hid (HYK.out rfl)
        clear HTK HYK
        go_wp2_with fail
        obtain ⟨wk, hwk⟩ : ∃ wk, wr.alloc (.cells #[.int .i64 q.kind, .int .i64 q.col, .string q.s, .int .i64 q.esc, .int .i64 q.coll, .slice kA q.kids.length kc] 24) = wk := ⟨_, rfl⟩
        have BKK := BK.out (.cells #[.int .i64 q.kind, .int .i64 q.col, .string q.s, .int .i64 q.esc, .int .i64 q.coll, .slice kA q.kids.length kc] 24)
        rw [hwk] at BKK ⊢
        have HBK := Lib.hid (below_below HB.out BKK hsz)
        have hsk := HBK.out.size
        have HCC := Lib.hid (HC.out wk BKK)
        clear hwk BKK BK HC
        refine HCC.out.mono ?_
        rintro r w3 ⟨rfl, q3⟩
        have HB3 := Lib.hid (below_below HBK.out q3 hsk)
        clear q3
        go_wp2_with fail
        go_ret
        exact ⟨ret_int' HV.out.symm, HB3.out⟩
      · have HN : Hid (Tal ((ks.take (k + 1)).map fun q => saysP q row) 0 (x + 1) u) := by unfold Hid; rw [HTK.out]; exact HT.out.yes1
        clear HTK HYK HT
        go_wp2_with fail
        obtain ⟨wk, hwk⟩ : ∃ wk, wr.alloc (.cells #[.int .i64 q.kind, .int .i64 q.col, .string q.s, .int .i64 q.esc, .int .i64 q.coll, .slice kA q.kids.length kc] 24) = wk := ⟨_, rfl⟩
        have BKK := BK.out (.cells #[.int .i64 q.kind, .int .i64 q.col, .string q.s, .int .i64 q.esc, .int .i64 q.coll, .slice kA q.kids.length kc] 24)
        rw [hwk] at BKK ⊢
        have HBK := Lib.hid (below_below HB.out BKK hsz)
        have hsk := HBK.out.size
        have HCC := Lib.hid (HC.out wk BKK)
        clear hwk BKK BK HC
        refine HCC.out.mono ?_
        rintro r w3 ⟨rfl, q3⟩
        have HB3 := Lib.hid (below_below HBK.out q3 hsk)
        clear q3
        go_wp2_with fail
        go_roundw
        case rel => exact ⟨k + 1, x + 1, u, al, by omega, by go_num, rfl, HAL.out, HN.out, HB3.out⟩
        case measure => simp [intOf] <;> omega
      · have HN : Hid (Tal ((ks.take (k + 1)).map fun q => saysP q row) 0 x (u + 1)) := by unfold Hid; rw [HTK.out]; exact HT.out.un1 (by decide) (by decide)
        clear HTK HYK HT
        go_wp2_with fail
        obtain ⟨wk, hwk⟩ : ∃ wk, wr.alloc (.cells #[.int .i64 q.kind, .int .i64 q.col, .string q.s, .int .i64 q.esc, .int .i64 q.coll, .slice kA q.kids.length kc] 24) = wk := ⟨_, rfl⟩
        have BKK := BK.out (.cells #[.int .i64 q.kind, .int .i64 q.col, .string q.s, .int .i64 q.esc, .int .i64 q.coll, .slice kA q.kids.length kc] 24)
        rw [hwk] at BKK ⊢
        have HBK := Lib.hid (below_below HB.out BKK hsz)
        have hsk := HBK.out.size
        have HCC := Lib.hid (HC.out wk BKK)
        clear hwk BKK BK HC
        refine HCC.out.mono ?_
        rintro r w3 ⟨rfl, q3⟩
        have HB3 := Lib.hid (below_below HBK.out q3 hsk)
        clear q3
        go_wp2_with fail
        go_roundw
        case rel => exact ⟨k + 1, x, u + 1, 2, by omega, by go_num, rfl, by rw [if_neg (by omega)], HN.out, HB3.out⟩
        case measure => simp [intOf] <;> omega
    · have ik : ¬ (k : Int) < (ks.length : Int) := by omega
      have HV : Hid (al = V) := by
        have h1 := HT.out
        rw [List.take_of_length_le (by omega)] at h1
        unfold Hid
        rw [← HVT.out _ _ _ h1, HAL.out, headS]
        by_cases hu : u = 0
        · rw [if_pos hu, if_neg (by omega), if_pos (by omega)]
        · rw [if_neg hu, if_neg (by omega), if_neg (by omega)]
      go_wp2_with fail
      go_ret
      exact ⟨ret_int' HV.out, HB.out⟩

set_option maxRecDepth 20000 in
set_option maxHeartbeats 4000000 in
theorem weigh1_any {w : World} {lo hi : Nat} {ks : List Pr} {A rA : Option Addr} {c rc : Nat} {row : List Vl} (hk : Kin w lo hi ks A c) (hhi : hi ≤ w.heap.size)
    (hq : ∀ q ∈ ks, ∀ (W : World) A2 c2, Below w.heap.size w W → PrOk q → Kin W lo hi q.kids A2 c2 → Calls Tryd.prog 24 #[.agg #[.int .i64 q.kind, .int .i64 q.col, .string q.s, .int .i64 q.esc, .int .i64 q.coll, .slice A2 q.kids.length c2], .slice rA row.length rc] W fun r w' => r = .returned (.int .i64 (saysP q row)) ∧ Below W.heap.size W w') :
    Calls Tryd.prog 37 #[.slice A ks.length c, .slice rA row.length rc, .int .i64 1] w fun r w' => r = .returned (.int .i64 (headS 13 ((ks.map fun q => saysP q row).count 0) ((ks.map fun q => saysP q row).count 1) ((ks.map fun q => saysP q row).countP other))) ∧ Below w.heap.size w w' := by
  have HQ := Lib.hid hq
  have HK := Lib.hid hk
  obtain ⟨hl1, hl2⟩ := hk.len
  clear hq hk
  obtain ⟨V, hV⟩ : ∃ V, headS 13 ((ks.map fun q => saysP q row).count 0) ((ks.map fun q => saysP q row).count 1) ((ks.map fun q => saysP q row).countP other) = V := ⟨_, rfl⟩
  have HY : Hid (1 ∈ (ks.map fun q => saysP q row) → V = 1) := fun h => by
    have := tal_mem h
    rw [← hV, headS]
    rw [if_neg (by omega), if_pos (by omega)]
  have HVT : Hid (∀ a b u : Nat, Tal (ks.map fun q => saysP q row) a b u → headS 13 a b u = V) := fun a b u ht => by rw [← hV, ht.no, ht.yes, ht.un]
  rw [hV]
  clear hV
  go_enter Tryd.func37, Tryd.ntmps37
  go_wp2_with fail
  refine (opp_any 1).mono ?_
  rintro r w' ⟨rfl, rfl⟩
  rw [show oppI 1 = 0 from rfl]
  go_wp2_with fail
  go_loopw [7, 14] (fun x7 x14 wr => ∃ (k x u : Nat) (al : Int), k ≤ ks.length ∧ x14 = .int .i64 (k : Int) ∧ x7 = .int .i64 al ∧ (al = if u = 0 then 0 else 2) ∧ Tal ((ks.take k).map fun q => saysP q row) x 0 u ∧ Below w.heap.size w wr) (fun _ x14 _ => ks.length - (intOf x14).toNat)
  case atStart => exact ⟨0, 0, 0, 0, Nat.zero_le _, rfl, rfl, rfl, Tal.nil, Below.refl _ _⟩
  case round =>
    obtain ⟨k, x, u, al, hkl, rfl, rfl, hal, htal, hb⟩ := hrel
    have HAL := Lib.hid hal
    have HT := Lib.hid htal
    have HB := Lib.hid hb
    have hsz := hb.size
    clear hal htal hb
    by_cases hlt : k < ks.length
    · have ik : (k : Int) < (ks.length : Int) := by omega
      obtain ⟨bk, off, kA, kc, rfl, hlo, hbh, c0, c1, c2, c3, c4, c5, hok, hkk⟩ := (HK.out.kept HB.out hhi).six hlt
      have HC : Hid (∀ W, Below wr.heap.size wr W → Calls Tryd.prog 24 #[.agg #[.int .i64 ks[k].kind, .int .i64 ks[k].col, .string ks[k].s, .int .i64 ks[k].esc, .int .i64 ks[k].coll, .slice kA ks[k].kids.length kc], .slice rA row.length rc] W fun r w' => r = .returned (.int .i64 (saysP ks[k] row)) ∧ Below W.heap.size W w') := fun W hW =>
        HQ.out ks[k] (List.getElem_mem hlt) W kA kc (below_below HB.out hW hsz) hok (hkk.kept hW (by omega))
      have HTK : Hid ((ks.take (k + 1)).map (fun q => saysP q row) = (ks.take k).map (fun q => saysP q row) ++ [saysP ks[k] row]) := by unfold Hid; rw [List.take_succ_eq_append_getElem hlt, List.map_append]; rfl
      have hthr := says_three ks[k] row
      have HYK : Hid (saysP ks[k] row = 1 → V = 1) := fun h => HY.out (List.mem_map.2 ⟨_, List.getElem_mem hlt, h⟩)
      generalize ks[k] = q at *
      obtain ⟨z, hz⟩ : ∃ z, saysP q row = z := ⟨_, rfl⟩
      rw [hz] at HC HTK hthr HYK
      clear hz hok hkk
      have BK : Hid (∀ o, Below wr.heap.size wr (wr.alloc o)) := fun o => (Below.refl _ _).alloc (Nat.le_refl _) _
      rcases hthr with rfl | rfl | rfl
      · have HN : Hid (Tal ((ks.take (k + 1)).map fun q => saysP q row) (x + 1) 0 u) := by unfold Hid; rw [HTK.out]; exact HT.out.no1
        clear HTK HYK HT
        go_wp2_with fail
        obtain ⟨wk, hwk⟩ : ∃ wk, wr.alloc (.cells #[.int .i64 q.kind, .int .i64 q.col, .string q.s, .int .i64 q.esc, .int .i64 q.coll, .slice kA q.kids.length kc] 24) = wk := ⟨_, rfl⟩
        have BKK := BK.out (.cells #[.int .i64 q.kind, .int .i64 q.col, .string q.s, .int .i64 q.esc, .int .i64 q.coll, .slice kA q.kids.length kc] 24)
        rw [hwk] at BKK ⊢
        have HBK := Lib.hid (below_below HB.out BKK hsz)
        have hsk := HBK.out.size
        have HCC := Lib.hid (HC.out wk BKK)
        clear hwk BKK BK HC
        refine HCC.out.mono ?_
        rintro r w3 ⟨rfl, q3⟩
        have HB3 := Lib.hid (below_below HBK.out q3 hsk)
        clear q3
        go_wp2_with fail
        go_roundw
        case rel => exact ⟨k + 1, x + 1, u, al, by omega, by go_num, rfl, HAL.out, HN.out, HB3.out⟩
        case measure => simp [intOf] <;> omega
      · have HV := Lib.hid (HYK.out rfl)
        clear HTK HYK
        go_wp2_with fail
        obtain ⟨wk, hwk⟩ : ∃ wk, wr.alloc (.cells #[.int .i64 q.kind, .int .i64 q.col, .string q.s, .int .i64 q.esc, .int .i64 q.coll, .slice kA q.kids.length kc] 24) = wk := ⟨_, rfl⟩
        have BKK := BK.out (.cells #[.int .i64 q.kind, .int .i64 q.col, .string q.s, .int .i64 q.esc, .int .i64 q.coll, .slice kA q.kids.length kc] 24)
        rw [hwk] at BKK ⊢
        have HBK := Lib.hid (below_below HB.out BKK hsz)
        have hsk := HBK.out.size
        have HCC := Lib.hid (HC.out wk BKK)
        clear hwk BKK BK HC
        refine HCC.out.mono ?_
        rintro r w3 ⟨rfl, q3⟩
        have HB3 := Lib.hid (below_below HBK.out q3 hsk)
        clear q3
        go_wp2_with fail
        go_ret
        exact ⟨ret_int' HV.out.symm, HB3.out⟩
      · have HN : Hid (Tal ((ks.take (k + 1)).map fun q => saysP q row) x 0 (u + 1)) := by unfold Hid; rw [HTK.out]; exact HT.out.un1 (by decide) (by decide)
        clear HTK HYK HT
        go_wp2_with fail
        obtain ⟨wk, hwk⟩ : ∃ wk, wr.alloc (.cells #[.int .i64 q.kind, .int .i64 q.col, .string q.s, .int .i64 q.esc, .int .i64 q.coll, .slice kA q.kids.length kc] 24) = wk := ⟨_, rfl⟩
        have BKK := BK.out (.cells #[.int .i64 q.kind, .int .i64 q.col, .string q.s, .int .i64 q.esc, .int .i64 q.coll, .slice kA q.kids.length kc] 24)
        rw [hwk] at BKK ⊢
        have HBK := Lib.hid (below_below HB.out BKK hsz)
        have hsk := HBK.out.size
        have HCC := Lib.hid (HC.out wk BKK)
        clear hwk BKK BK HC
        refine HCC.out.mono ?_
        rintro r w3 ⟨rfl, q3⟩
        have HB3 := Lib.hid (below_below HBK.out q3 hsk)
        clear q3
        go_wp2_with fail
        go_roundw
        case rel => exact ⟨k + 1, x, u + 1, 2, by omega, by go_num, rfl, by rw [if_neg (by omega)], HN.out, HB3.out⟩
        case measure => simp [intOf] <;> omega
    · have ik : ¬ (k : Int) < (ks.length : Int) := by omega
      have HV : Hid (al = V) := by
        have h1 := HT.out
        rw [List.take_of_length_le (by omega)] at h1
        unfold Hid
        rw [← HVT.out _ _ _ h1, HAL.out, headS]
        by_cases hu : u = 0
        · rw [if_pos hu, if_pos (by omega)]
        · rw [if_neg hu, if_neg (by omega), if_neg (by omega)]
      go_wp2_with fail
      go_ret
      exact ⟨ret_int' HV.out, HB.out⟩


set_option maxRecDepth 20000 in
set_option maxHeartbeats 16000000 in
theorem nsaysr_any : ∀ (p : Pr) {w : World} {lo hi rlo rhi : Nat} {A rA : Option Addr} {c rc : Nat} (row : List Vl) (deep : Int), PrOk p → Kin w lo hi p.kids A c → Row w rlo rhi rA rc row → hi ≤ w.heap.size → rhi ≤ w.heap.size → (∀ v ∈ row, v.s.size ≤ 100000) → rightP p row.length deep = true → Env w →
    Calls Tryd.prog 24 #[.agg #[.int .i64 p.kind, .int .i64 p.col, .string p.s, .int .i64 p.esc, .int .i64 p.coll, .slice A p.kids.length c], .slice rA row.length rc] w fun r w' => r = .returned (.int .i64 (saysP p row)) ∧ Below w.heap.size w w' :=
  Pr.ind fun p ih w lo hi rlo rhi A rA c rc row deep ho hk hrow hhi hrhi hvs hr henv => by
    have HIH := Lib.hid ih
    have HK := Lib.hid hk
    have HROW := Lib.hid hrow
    have HVS := Lib.hid hvs
    have HR := Lib.hid hr
    have hs63 := ho.s
    obtain ⟨hl1, hl2⟩ := hk.len
    obtain ⟨hr1, hr2⟩ := hrow.len
    clear ih hk ho hrow hvs hr
    obtain ⟨V, hV⟩ : ∃ V, saysP p row = V := ⟨_, rfl⟩
    rw [hV]
    rw [saysP_eq] at hV
    have HRH := Lib.hid (fun h => rightP_head HR.out h)
    have HRL := Lib.hid (fun h => rightP_leaf HR.out h)
    clear HR
    obtain ⟨kd, hkd⟩ : ∃ x, p.kind = x := ⟨_, rfl⟩
    obtain ⟨cl, hcl⟩ : ∃ x, p.col = x := ⟨_, rfl⟩
    obtain ⟨ec, hec⟩ : ∃ x, p.esc = x := ⟨_, rfl⟩
    obtain ⟨co, hco⟩ : ∃ x, p.coll = x := ⟨_, rfl⟩
    obtain ⟨s, hs⟩ : ∃ x, p.s = x := ⟨_, rfl⟩
    obtain ⟨ks, hks⟩ : ∃ x, p.kids = x := ⟨_, rfl⟩
    rw [hkd, hcl, hec, hco, hs, hks] at hV
    rw [hks] at HIH HK hl1
    rw [hs] at hs63
    rw [hkd, hks] at HRH
    rw [hkd, hcl, hec, hs, hks] at HRL
    rw [hkd, hcl, hec, hco, hs, hks]
    clear hkd hcl hec hco hs hks
    have HV := Lib.hid hV
    clear hV
    obtain ⟨w1, hw1⟩ : ∃ w1, w.alloc (.cells #[.int .i64 kd, .int .i64 cl, .string s, .int .i64 ec, .int .i64 co, .slice A ks.length c] 24) = w1 := ⟨_, rfl⟩
    have B1 : Hid (Below w.heap.size w w1) := by unfold Hid; rw [← hw1]; exact (Below.refl _ w).alloc (Nat.le_refl _) _
    have hb : Blk w1 w.heap.size 24 #[.int .i64 kd, .int .i64 cl, .string s, .int .i64 ec, .int .i64 co, .slice A ks.length c] := by rw [← hw1]; exact Blk.new w _ _
    have hs1 : w1.heap.size = w.heap.size + 1 := by rw [← hw1]; simp
    have HBK : Hid (∀ W, Below w1.heap.size w1 W → Blk W w.heap.size 24 #[.int .i64 kd, .int .i64 cl, .string s, .int .i64 ec, .int .i64 co, .slice A ks.length c]) := fun W hW => hb.below hW (by omega)
    have b0 : w1.cell? ⟨w.heap.size, 0, none⟩ = some (.int .i64 kd) := hb.cell 0
    have b1 : w1.cell? ⟨w.heap.size, 1, none⟩ = some (.int .i64 cl) := hb.cell 1
    have b2 : w1.cell? ⟨w.heap.size, 2, none⟩ = some (.string s) := hb.cell 2
    have b3 : w1.cell? ⟨w.heap.size, 3, none⟩ = some (.int .i64 ec) := hb.cell 3
    have b4 : w1.cell? ⟨w.heap.size, 4, none⟩ = some (.int .i64 co) := hb.cell 4
    have b5 : w1.cell? ⟨w.heap.size, 5, none⟩ = some (.slice A ks.length c) := hb.cell 5
    have HK1 := Lib.hid (HK.out.kept B1.out hhi)
    clear hb HK
    have HROW1 := Lib.hid (HROW.out.below B1.out hrhi)
    have HE1 := Lib.hid (henv.on B1.out)
    clear henv HROW
    by_cases g12 : 12 ≤ kd
    · obtain ⟨k14, k16, k1, hn1, HRK⟩ := HRH.out g12
      have HRK := Lib.hid HRK
      clear HRL HRH
      rw [if_pos g12] at HV
      have HQ : Hid (∀ q ∈ ks, ∀ (W : World) A2 c2, Below w1.heap.size w1 W → PrOk q → Kin W lo hi q.kids A2 c2 → Calls Tryd.prog 24 #[.agg #[.int .i64 q.kind, .int .i64 q.col, .string q.s, .int .i64 q.esc, .int .i64 q.coll, .slice A2 q.kids.length c2], .slice rA row.length rc] W fun r w' => r = .returned (.int .i64 (saysP q row)) ∧ Below W.heap.size W w') := fun q hm W A2 c2 hW ho2 hk2 =>
        HIH.out q hm row (deep - 1) ho2 hk2 (HROW1.out.below hW (by omega)) (by have := hW.size; omega) (by have := hW.size; omega) HVS.out (HRK.out q hm) (HE1.out.on hW)
      clear HIH
      rcases (show kd = 12 ∨ kd = 13 ∨ kd = 14 by omega) with hkd | hkd | hkd
      · subst hkd
        have HW := Lib.hid (weigh0_any (rA := rA) (rc := rc) (row := row) HK1.out (by omega) HQ.out)
        rw [HV.out] at HW
        clear HQ HV g12
        go_enter Tryd.func24, Tryd.ntmps24
        go_wp2_with fail
        refine HW.out.mono ?_
        rintro r w2 ⟨rfl, q2⟩
        have HB2 := Lib.hid (below_below B1.out q2 (by omega))
        clear q2
        go_wp2_with fail
        go_ret
        exact ⟨rfl, HB2.out⟩
      · subst hkd
        have HW := Lib.hid (weigh1_any (rA := rA) (rc := rc) (row := row) HK1.out (by omega) HQ.out)
        rw [HV.out] at HW
        clear HQ HV g12
        go_enter Tryd.func24, Tryd.ntmps24
        go_wp2_with fail
        refine HW.out.mono ?_
        rintro r w2 ⟨rfl, q2⟩
        have HB2 := Lib.hid (below_below B1.out q2 (by omega))
        clear q2
        go_wp2_with fail
        go_ret
        exact ⟨rfl, HB2.out⟩
      · subst hkd
        have h0 : 0 < ks.length := by omega
        have hone : ks = [ks[0]] := by
          match ks, hn1 rfl with
          | [a], _ => rfl
        obtain ⟨z, hz⟩ : ∃ z, saysP ks[0] row = z := ⟨_, rfl⟩
        have HVV : Hid (V = oppI z) := by
          unfold Hid
          rw [← HV.out, hone, ← hz]
          exact not_opp _ _
        clear hn1 hone HV
        obtain ⟨bk, off, kA, kc, hA0, hlo, hbh, c0, c1, c2, c3, c4, c5, hok, hkk⟩ := HK1.out.six h0
        subst hA0
        rw [Nat.zero_mul, Nat.add_zero] at c0 c1 c2 c3 c4 c5
        have HC := Lib.hid (HQ.out ks[0] (List.getElem_mem h0) w1 kA kc (Below.refl _ _) hok hkk)
        rw [hz] at HC
        generalize ks[0] = q at *
        have i0 : ¬ (ks.length : Int) ≤ 0 := by omega
        have j0 : (0 : Int) < (ks.length : Int) := by omega
        clear hz hok hkk HQ g12
        go_enter Tryd.func24, Tryd.ntmps24
        go_wp2_with fail
        refine HC.out.mono ?_
        rintro r w2 ⟨rfl, q2⟩
        have HB2 := Lib.hid (below_below B1.out q2 (by omega))
        clear q2
        go_wp2_with fail
        refine (opp_any z).mono ?_
        rintro r w3 ⟨rfl, rfl⟩
        go_wp2_with fail
        go_ret
        exact ⟨ret_int' HVV.out.symm, HB2.out⟩
    · obtain ⟨l1, l2, l3, l4, hkn, HPF⟩ := HRL.out g12
      have HPF := Lib.hid HPF
      clear HRL HRH HIH HK1 hkn
      have f12 : (kd == 12) = false := beq_eq_false_iff_ne.2 (by omega)
      have f13 : (kd == 13) = false := beq_eq_false_iff_ne.2 (by omega)
      have f14 : (kd == 14) = false := beq_eq_false_iff_ne.2 (by omega)
      have HVL : Hid (valS kd co ec s (row[cl.toNat]?.getD ⟨true, ⟨#[]⟩⟩) = V) := by unfold Hid; rw [← HV.out, if_neg g12]
      clear HV
      obtain ⟨j, rfl⟩ : ∃ j : Nat, cl = (j : Int) := ⟨cl.toNat, by omega⟩
      have hjl : j < row.length := by omega
      rw [Int.toNat_natCast, List.getElem?_eq_getElem hjl, Option.getD_some] at HVL
      obtain ⟨b2k, off2, hA2, hlo2, hbh2, d0, d1⟩ := HROW1.out.get hjl
      have hvz := HVS.out row[j] (List.getElem_mem hjl)
      generalize row[j] = v at *
      obtain ⟨vn, vs⟩ := v
      simp only at d0 d1 hvz
      subst hA2
      have ij : (j : Int) < (row.length : Int) := by omega
      have ij0 : (0 : Int) ≤ (j : Int) := by omega
      have HC1 : Hid (∀ W, Below w1.heap.size w1 W → W.cell? ⟨b2k, off2 + j * 2 + 1, none⟩ = some (.string vs)) := fun W hW => (hW.cell (p := ⟨b2k, off2 + j * 2 + 1, none⟩) (by simp only; omega)).trans d1
      clear HROW1 HVS
      by_cases k11 : kd = 11
      · subst k11
        have HVV : Hid (bitI vn = V) := by unfold Hid; rw [← HVL.out, valS, if_pos rfl]
        clear HVL g12
        go_enter Tryd.func24, Tryd.ntmps24
        go_wp2_with fail
        refine (ans_any vn).mono ?_
        rintro r w2 ⟨rfl, rfl⟩
        go_wp2_with fail
        go_ret
        exact ⟨ret_int' HVV.out, B1.out⟩
      · have f11 : (kd == 11) = false := beq_eq_false_iff_ne.2 k11
        cases vn with
        | true =>
          have HVV : Hid (V = 2) := by unfold Hid; rw [← HVL.out, valS, if_neg k11, if_pos rfl]
          clear HVL
          go_enter Tryd.func24, Tryd.ntmps24
          go_wp2_with fail
          go_ret
          exact ⟨ret_int' HVV.out.symm, B1.out⟩
        | false =>
          rw [valS_hold k11] at HVL
          have HH : Hid (∀ W, Below w1.heap.size w1 W → Calls Tryd.prog 40 #[.agg #[.int .i64 kd, .int .i64 (j : Int), .string s, .int .i64 ec, .int .i64 co, .slice A ks.length c], .string vs] W fun r w' => r = .returned (.bool (holdP kd co ec s vs)) ∧ Below W.heap.size W w') := fun W hW =>
            holds_any kd (j : Int) ec co s ks.length vs ⟨by omega, by omega⟩ (by omega) (by omega) (fun h => (HPF.out h).imp fun _ h => h) (HE1.out.on hW)
          obtain ⟨u, hu⟩ : ∃ u, holdP kd co ec s vs = u := ⟨_, rfl⟩
          rw [hu] at HH HVL
          clear hu HPF HE1
          have hS0 := HC1.out w1 (Below.refl _ _)
          have HCF : Hid (∀ wx, Below w1.heap.size w1 wx → wx.cell? ⟨w.heap.size, 0, none⟩ = some (.int .i64 kd) ∧ wx.cell? ⟨w.heap.size, 1, none⟩ = some (.int .i64 (j : Int)) ∧ wx.cell? ⟨w.heap.size, 2, none⟩ = some (.string s) ∧ wx.cell? ⟨w.heap.size, 3, none⟩ = some (.int .i64 ec) ∧ wx.cell? ⟨w.heap.size, 4, none⟩ = some (.int .i64 co) ∧ wx.cell? ⟨w.heap.size, 5, none⟩ = some (.slice A ks.length c) ∧ wx.cell? ⟨b2k, off2 + j * 2 + 1, none⟩ = some (.string vs)) := fun wx hb => ⟨(HBK.out wx hb).cell 0, (HBK.out wx hb).cell 1, (HBK.out wx hb).cell 2, (HBK.out wx hb).cell 3, (HBK.out wx hb).cell 4, (HBK.out wx hb).cell 5, HC1.out wx hb⟩
          have hS1 := HCF.out _ (Below.refl _ _)
          have hS2 := HCF.out _ ((Below.refl _ _).drew)
          have KD : Hid (Below w1.heap.size w1 w1.drew) := (Below.refl _ _).drew
          clear HBK
          go_enter Tryd.func24, Tryd.ntmps24
          go_wp2_with fail
          go_region_held3 (fun w' => w'.cell? ⟨w.heap.size, 0, none⟩ = some (.int .i64 kd) ∧ w'.cell? ⟨w.heap.size, 1, none⟩ = some (.int .i64 (j : Int)) ∧ w'.cell? ⟨w.heap.size, 2, none⟩ = some (.string s) ∧ w'.cell? ⟨w.heap.size, 3, none⟩ = some (.int .i64 ec) ∧ w'.cell? ⟨w.heap.size, 4, none⟩ = some (.int .i64 co) ∧ w'.cell? ⟨w.heap.size, 5, none⟩ = some (.slice A ks.length c) ∧ w'.cell? ⟨b2k, off2 + j * 2 + 1, none⟩ = some (.string vs)) (first | assumption | go_keep) (first
            | (go_at_call 39; refine (ans_any u).mono ?_; rintro r wz ⟨rfl, rfl⟩; have hSz := hSy)
            | (go_at_call 40; refine (HH.out _ KD.out).mono ?_; rintro r wy ⟨rfl, hby⟩; have KY : Hid (Below w1.heap.size w1 wy) := KD.out.trans (hby.mono KD.out.size); have hSy := HCF.out _ KY.out; clear hby))
          go_wp2_with fail
          go_ret
          exact ⟨ret_int' HVL.out, below_below B1.out KY.out (by omega)⟩

set_option maxRecDepth 20000 in
theorem nsays_any {w : World} {p : Pr} {A rA : Option Addr} {c rc : Nat} {row : List Vl} (ho : PrOk p) (hk : Kin w 0 w.heap.size p.kids A c) (hr : Row w 0 w.heap.size rA rc row) (hv : ∀ v ∈ row, v.s.size ≤ 100000) (hp : rightP p row.length 12 = true) (hT : Env w) :
    Calls Tryd.prog 15 #[.agg #[.int .i64 p.kind, .int .i64 p.col, .string p.s, .int .i64 p.esc, .int .i64 p.coll, .slice A p.kids.length c], .slice rA row.length rc] w fun r w' => r = .returned (.int .i64 (saysP p row)) ∧ Below w.heap.size w w' := by
  obtain ⟨w1, hw1⟩ : ∃ w1, w.alloc (.cells #[.int .i64 p.kind, .int .i64 p.col, .string p.s, .int .i64 p.esc, .int .i64 p.coll, .slice A p.kids.length c] 24) = w1 := ⟨_, rfl⟩
  have B1 : Hid (Below w.heap.size w w1) := by unfold Hid; rw [← hw1]; exact (Below.refl _ w).alloc (Nat.le_refl _) _
  have hb : Blk w1 w.heap.size 24 #[.int .i64 p.kind, .int .i64 p.col, .string p.s, .int .i64 p.esc, .int .i64 p.coll, .slice A p.kids.length c] := by rw [← hw1]; exact Blk.new w _ _
  have hs1 : w1.heap.size = w.heap.size + 1 := by rw [← hw1]; simp
  have HBK : Hid (∀ W, Below w1.heap.size w1 W → Blk W w.heap.size 24 #[.int .i64 p.kind, .int .i64 p.col, .string p.s, .int .i64 p.esc, .int .i64 p.coll, .slice A p.kids.length c]) := fun W hW => hb.below hW (by omega)
  have b0 : w1.cell? ⟨w.heap.size, 0, none⟩ = some (.int .i64 p.kind) := hb.cell 0
  have b1 : w1.cell? ⟨w.heap.size, 1, none⟩ = some (.int .i64 p.col) := hb.cell 1
  have b2 : w1.cell? ⟨w.heap.size, 2, none⟩ = some (.string p.s) := hb.cell 2
  have b3 : w1.cell? ⟨w.heap.size, 3, none⟩ = some (.int .i64 p.esc) := hb.cell 3
  have b4 : w1.cell? ⟨w.heap.size, 4, none⟩ = some (.int .i64 p.coll) := hb.cell 4
  have b5 : w1.cell? ⟨w.heap.size, 5, none⟩ = some (.slice A p.kids.length c) := hb.cell 5
  have HR := Lib.hid (nrightr_any p (w := w1) row.length 12 ho (hk.kept B1.out (Nat.le_refl _)) (by omega) (by decide) (by decide))
  rw [hp] at HR
  have HC : Hid (∀ W, Below w1.heap.size w1 W → Calls Tryd.prog 24 #[.agg #[.int .i64 p.kind, .int .i64 p.col, .string p.s, .int .i64 p.esc, .int .i64 p.coll, .slice A p.kids.length c], .slice rA row.length rc] W fun r w' => r = .returned (.int .i64 (saysP p row)) ∧ Below W.heap.size W w') := fun W hW =>
    nsaysr_any p row 12 ho ((hk.kept B1.out (Nat.le_refl _)).kept hW (by omega)) ((hr.below B1.out (Nat.le_refl _)).below hW (by omega)) (by have := hW.size; omega) (by have := hW.size; omega) hv hp ((hT.on B1.out).on hW)
  have HRR := Lib.hid (nright_any (w := w1) ho (Kin.wide (Nat.le_refl _) (by omega) (hk.kept B1.out (Nat.le_refl _))) row.length)
  rw [hp] at HRR
  obtain ⟨hr1, hr2⟩ := hr.len
  obtain ⟨V, hV⟩ : ∃ V, saysP p row = V := ⟨_, rfl⟩
  rw [hV] at HC ⊢
  clear hb hV ho hk hr hv hp hT HR
  go_enter Tryd.func15, Tryd.ntmps15
  go_wp2_with fail
  refine HRR.out.mono ?_
  rintro r w2 ⟨rfl, q2⟩
  have hk2 := HBK.out w2 q2
  have b0 : w2.cell? ⟨w.heap.size, 0, none⟩ = some (.int .i64 p.kind) := hk2.cell 0
  have b1 : w2.cell? ⟨w.heap.size, 1, none⟩ = some (.int .i64 p.col) := hk2.cell 1
  have b2 : w2.cell? ⟨w.heap.size, 2, none⟩ = some (.string p.s) := hk2.cell 2
  have b3 : w2.cell? ⟨w.heap.size, 3, none⟩ = some (.int .i64 p.esc) := hk2.cell 3
  have b4 : w2.cell? ⟨w.heap.size, 4, none⟩ = some (.int .i64 p.coll) := hk2.cell 4
  have b5 : w2.cell? ⟨w.heap.size, 5, none⟩ = some (.slice A p.kids.length c) := hk2.cell 5
  have HB2 := Lib.hid (below_below B1.out q2 (by omega))
  have HCC := Lib.hid (HC.out w2 q2)
  have hs2 := HB2.out.size
  clear q2 hk2 HC
  go_wp2_with fail
  refine HCC.out.mono ?_
  rintro r w3 ⟨rfl, q3⟩
  have HB3 := Lib.hid (below_below HB2.out q3 hs2)
  clear q3
  go_wp2_with fail
  go_ret
  exact ⟨rfl, HB3.out⟩
end Go.Proofs.YtjffbjlniieciaaDoor
namespace Go.Proofs.YtjffbjlniieciaaDoor
set_option linter.unusedSimpArgs false
set_option linter.unusedVariables false
open Go.RowKit

theorem flt_below {w w' : World} {lo hi b : Nat} {v : Value} {gs : List Nat} {rs : List Bool} (h : Flt w lo hi v b gs rs) {B : Nat} (hb : Below B w w') (hB : hi ≤ B) : Flt w' lo hi v b gs rs := by
  obtain ⟨A, c, A2, d, h1, h2, h3⟩ := h
  exact ⟨A, c, A2, d, h1, h2.below hb hB, h3.below hb hB⟩
theorem lit_skip {W : World} {q : Pr} {A2 fA : Option Addr} {c2 B0 n fc : Nat} {v : Bool} (h0 : W.cell? ⟨B0, 0, none⟩ = some (.slice fA n fc)) (l0 : B0 < W.heap.size)
    (hc : ∀ W2, Below W.heap.size W W2 → Calls Tryd.prog 31 #[.agg #[.int .i64 q.kind, .int .i64 q.col, .string q.s, .int .i64 q.esc, .int .i64 q.coll, .slice A2 q.kids.length c2], .slice fA n fc] W2 fun r w' => r = .returned (.bool v) ∧ Below W2.heap.size W2 w') :
    Calls Tryd.prog 46 #[.agg #[.int .i64 q.kind, .int .i64 q.col, .string q.s, .int .i64 q.esc, .int .i64 q.coll, .slice A2 q.kids.length c2], .pointer (some ⟨B0, 0, none⟩)] W fun r w' => r = .returned (.bool v) ∧ Below W.heap.size W w' := by
  obtain ⟨w1, hw1⟩ : ∃ w1, W.alloc (.cells #[.int .i64 q.kind, .int .i64 q.col, .string q.s, .int .i64 q.esc, .int .i64 q.coll, .slice A2 q.kids.length c2] 24) = w1 := ⟨_, rfl⟩
  have HB1 : Hid (Below W.heap.size W w1) := by unfold Hid; rw [← hw1]; exact (Below.refl _ W).alloc (Nat.le_refl _) _
  have hb : Blk w1 W.heap.size 24 #[.int .i64 q.kind, .int .i64 q.col, .string q.s, .int .i64 q.esc, .int .i64 q.coll, .slice A2 q.kids.length c2] := by rw [← hw1]; exact Blk.new W _ _
  have b0 : w1.cell? ⟨W.heap.size, 0, none⟩ = some (.int .i64 q.kind) := hb.cell 0
  have b1 : w1.cell? ⟨W.heap.size, 1, none⟩ = some (.int .i64 q.col) := hb.cell 1
  have b2 : w1.cell? ⟨W.heap.size, 2, none⟩ = some (.string q.s) := hb.cell 2
  have b3 : w1.cell? ⟨W.heap.size, 3, none⟩ = some (.int .i64 q.esc) := hb.cell 3
  have b4 : w1.cell? ⟨W.heap.size, 4, none⟩ = some (.int .i64 q.coll) := hb.cell 4
  have b5 : w1.cell? ⟨W.heap.size, 5, none⟩ = some (.slice A2 q.kids.length c2) := hb.cell 5
  have g0 : w1.cell? ⟨B0, 0, none⟩ = some (.slice fA n fc) := (HB1.out.cell (p := ⟨B0, 0, none⟩) l0).trans h0
  have HC := Lib.hid (hc w1 HB1.out)
  have hs1 := HB1.out.size
  clear hb h0 hc l0
  go_enter Tryd.func46, Tryd.ntmps46
  go_wp2_with fail
  refine HC.out.mono ?_
  rintro r w2 ⟨rfl, q2⟩
  have HB2 := Lib.hid (below_below HB1.out q2 hs1)
  clear q2
  go_wp2_with fail
  go_ret
  exact ⟨rfl, HB2.out⟩

theorem lit_stay {W : World} {q : Pr} {A2 fA : Option Addr} {c2 B0 n fc : Nat} {v : Bool} (h0 : W.cell? ⟨B0, 0, none⟩ = some (.slice fA n fc)) (l0 : B0 < W.heap.size)
    (hc : ∀ W2, Below W.heap.size W W2 → Calls Tryd.prog 31 #[.agg #[.int .i64 q.kind, .int .i64 q.col, .string q.s, .int .i64 q.esc, .int .i64 q.coll, .slice A2 q.kids.length c2], .slice fA n fc] W2 fun r w' => r = .returned (.bool v) ∧ Below W2.heap.size W2 w') :
    Calls Tryd.prog 47 #[.agg #[.int .i64 q.kind, .int .i64 q.col, .string q.s, .int .i64 q.esc, .int .i64 q.coll, .slice A2 q.kids.length c2], .pointer (some ⟨B0, 0, none⟩)] W fun r w' => r = .returned (.bool !v) ∧ Below W.heap.size W w' := by
  obtain ⟨w1, hw1⟩ : ∃ w1, W.alloc (.cells #[.int .i64 q.kind, .int .i64 q.col, .string q.s, .int .i64 q.esc, .int .i64 q.coll, .slice A2 q.kids.length c2] 24) = w1 := ⟨_, rfl⟩
  have HB1 : Hid (Below W.heap.size W w1) := by unfold Hid; rw [← hw1]; exact (Below.refl _ W).alloc (Nat.le_refl _) _
  have hb : Blk w1 W.heap.size 24 #[.int .i64 q.kind, .int .i64 q.col, .string q.s, .int .i64 q.esc, .int .i64 q.coll, .slice A2 q.kids.length c2] := by rw [← hw1]; exact Blk.new W _ _
  have b0 : w1.cell? ⟨W.heap.size, 0, none⟩ = some (.int .i64 q.kind) := hb.cell 0
  have b1 : w1.cell? ⟨W.heap.size, 1, none⟩ = some (.int .i64 q.col) := hb.cell 1
  have b2 : w1.cell? ⟨W.heap.size, 2, none⟩ = some (.string q.s) := hb.cell 2
  have b3 : w1.cell? ⟨W.heap.size, 3, none⟩ = some (.int .i64 q.esc) := hb.cell 3
  have b4 : w1.cell? ⟨W.heap.size, 4, none⟩ = some (.int .i64 q.coll) := hb.cell 4
  have b5 : w1.cell? ⟨W.heap.size, 5, none⟩ = some (.slice A2 q.kids.length c2) := hb.cell 5
  have g0 : w1.cell? ⟨B0, 0, none⟩ = some (.slice fA n fc) := (HB1.out.cell (p := ⟨B0, 0, none⟩) l0).trans h0
  have HC := Lib.hid (hc w1 HB1.out)
  have hs1 := HB1.out.size
  clear hb h0 hc l0
  go_enter Tryd.func47, Tryd.ntmps47
  go_wp2_with fail
  refine HC.out.mono ?_
  rintro r w2 ⟨rfl, q2⟩
  have HB2 := Lib.hid (below_below HB1.out q2 hs1)
  clear q2
  go_wp2_with fail
  go_ret
  exact ⟨rfl, HB2.out⟩

theorem lit_run {W : World} {x : ByteArray} {fA gA rA : Option Addr} {B0 B1 n fc b off j fb gn gc rn rc : Nat} {v : Bool} (h0 : W.cell? ⟨B0, 0, none⟩ = some (.slice fA n fc)) (h1 : W.cell? ⟨B1, 1, none⟩ = some (.int .i64 (j : Int))) (hA : fA = some ⟨b, off, none⟩) (hj : j < n) (hn : n ≤ 9223372036854775807)
    (f0 : W.cell? ⟨b, off + j * 3, none⟩ = some (.int .i64 (fb : Int))) (f1 : W.cell? ⟨b, off + j * 3 + 1, none⟩ = some (.slice gA gn gc)) (f2 : W.cell? ⟨b, off + j * 3 + 2, none⟩ = some (.slice rA rn rc))
    (hc : Calls Tryd.prog 48 #[.agg #[.int .i64 (fb : Int), .slice gA gn gc, .slice rA rn rc], .string x] W fun r w' => r = .returned (.bool v) ∧ Below W.heap.size W w') :
    Calls Tryd.prog 52 #[.string x, .pointer (some ⟨B0, 0, none⟩), .pointer (some ⟨B1, 0, none⟩)] W fun r w' => r = .returned (.bool !v) ∧ Below W.heap.size W w' := by
  subst hA
  have ij : (j : Int) < (n : Int) := by omega
  have HC := Lib.hid hc
  clear hc
  go_enter Tryd.func52, Tryd.ntmps52
  go_wp2_with fail
  refine HC.out.mono ?_
  rintro r w2 ⟨rfl, q2⟩
  have HB2 := Lib.hid q2
  clear q2
  go_wp2_with fail
  go_ret
  exact ⟨rfl, HB2.out⟩
theorem headK_any {ks : List Pr} {f : Pr → Bool} : headK 12 ((ks.map f).count true) ks.length = ks.any f := by
  rw [headK, Bool.eq_iff_iff, decide_eq_true_eq, List.any_eq_true, ← count_true]
  constructor
  · intro h
    rcases h with h | h
    · exact h.2
    · omega
  · exact fun h => .inl ⟨rfl, h⟩
theorem headK_all {ks : List Pr} {f : Pr → Bool} : headK 13 ((ks.map f).count true) ks.length = !ks.any fun q => !f q := by
  rw [all_not, headK, Bool.eq_iff_iff, decide_eq_true_eq, List.all_eq_true]
  constructor
  · intro h
    rcases h with h | h
    · omega
    · exact count_all h.2
  · intro h
    refine .inr ⟨rfl, ?_⟩
    have := (List.count_eq_length (a := true) (l := ks.map f)).2 (fun b hb => by
      obtain ⟨q, hq, rfl⟩ := List.mem_map.1 hb
      exact (h q hq).symm)
    rwa [List.length_map] at this
theorem headK_not (n m : Nat) : headK 14 n m = false := by rw [headK]; exact decide_eq_false (by omega)
theorem run_le {ns : List Nat} {x : ByteArray} (h : x ∈ strsL (runsL ns)) : x.size ≤ ns.length := by
  obtain ⟨r, hr, rfl⟩ := List.mem_map.1 h
  have := runsL_le hr
  rw [← size_toL]
  simpa using this

set_option maxRecDepth 20000 in
set_option maxHeartbeats 16000000 in
theorem nskipr_any : ∀ (p : Pr) {w : World} {lo hi flo fhi : Nat} {A fA : Option Addr} {c fc : Nat} {gA rA : Nat → Option Addr} {gc rc : Nat → Nat} (fs : List Fl) (deep : Int), PrOk p → Kin w lo hi p.kids A c → Fls w flo fhi fA fc fs gA gc rA rc → hi ≤ w.heap.size → fhi ≤ w.heap.size → (∀ f ∈ fs, FilG f.b f.gs f.rs) → rightP p fs.length deep = true →
    Calls Tryd.prog 31 #[.agg #[.int .i64 p.kind, .int .i64 p.col, .string p.s, .int .i64 p.esc, .int .i64 p.coll, .slice A p.kids.length c], .slice fA fs.length fc] w fun r w' => r = .returned (.bool (skipP p fs)) ∧ Below w.heap.size w w' :=
  Pr.ind fun p ih w lo hi flo fhi A fA c fc gA rA gc rc fs deep ho hk hfl hhi hfhi hfo hr => by
    have HIH := Lib.hid ih
    have HK := Lib.hid hk
    have HFL := Lib.hid hfl
    have HFO := Lib.hid hfo
    have HR := Lib.hid hr
    have hs63 := ho.s
    obtain ⟨hl1, hl2⟩ := hk.len
    obtain ⟨hr1, hr2⟩ := hfl.len
    clear ih hk ho hfl hfo hr
    obtain ⟨V, hV⟩ : ∃ V, skipP p fs = V := ⟨_, rfl⟩
    rw [hV]
    rw [skipP_eq] at hV
    have HRH := Lib.hid (fun h => rightP_head HR.out h)
    have HRL := Lib.hid (fun h => rightP_leaf HR.out h)
    clear HR
    obtain ⟨kd, hkd⟩ : ∃ x, p.kind = x := ⟨_, rfl⟩
    obtain ⟨cl, hcl⟩ : ∃ x, p.col = x := ⟨_, rfl⟩
    obtain ⟨ec, hec⟩ : ∃ x, p.esc = x := ⟨_, rfl⟩
    obtain ⟨co, hco⟩ : ∃ x, p.coll = x := ⟨_, rfl⟩
    obtain ⟨s, hs⟩ : ∃ x, p.s = x := ⟨_, rfl⟩
    obtain ⟨ks, hks⟩ : ∃ x, p.kids = x := ⟨_, rfl⟩
    rw [hkd, hcl, hec, hco, hs, hks] at hV
    rw [hks] at HIH HK hl1
    rw [hs] at hs63
    rw [hkd, hks] at HRH
    rw [hkd, hcl, hec, hs, hks] at HRL
    rw [hkd, hcl, hec, hco, hs, hks]
    clear hkd hcl hec hco hs hks
    have HV := Lib.hid hV
    clear hV
    obtain ⟨w1, hw1⟩ : ∃ w1, w.alloc (.cells #[.int .i64 kd, .int .i64 cl, .string s, .int .i64 ec, .int .i64 co, .slice A ks.length c] 24) = w1 := ⟨_, rfl⟩
    have B1 : Hid (Below w.heap.size w w1) := by unfold Hid; rw [← hw1]; exact (Below.refl _ w).alloc (Nat.le_refl _) _
    have hb : Blk w1 w.heap.size 24 #[.int .i64 kd, .int .i64 cl, .string s, .int .i64 ec, .int .i64 co, .slice A ks.length c] := by rw [← hw1]; exact Blk.new w _ _
    have hs1 : w1.heap.size = w.heap.size + 1 := by rw [← hw1]; simp
    have HBK : Hid (∀ W, Below w1.heap.size w1 W → Blk W w.heap.size 24 #[.int .i64 kd, .int .i64 cl, .string s, .int .i64 ec, .int .i64 co, .slice A ks.length c]) := fun W hW => hb.below hW (by omega)
    have b0 : w1.cell? ⟨w.heap.size, 0, none⟩ = some (.int .i64 kd) := hb.cell 0
    have b1 : w1.cell? ⟨w.heap.size, 1, none⟩ = some (.int .i64 cl) := hb.cell 1
    have b2 : w1.cell? ⟨w.heap.size, 2, none⟩ = some (.string s) := hb.cell 2
    have b3 : w1.cell? ⟨w.heap.size, 3, none⟩ = some (.int .i64 ec) := hb.cell 3
    have b4 : w1.cell? ⟨w.heap.size, 4, none⟩ = some (.int .i64 co) := hb.cell 4
    have b5 : w1.cell? ⟨w.heap.size, 5, none⟩ = some (.slice A ks.length c) := hb.cell 5
    have HK1 := Lib.hid (HK.out.kept B1.out hhi)
    clear hb HK
    clear b0 b1 b2 b3 b4 b5
    obtain ⟨w2, hw2⟩ : ∃ w2, w1.alloc (.cells #[.slice fA fs.length fc] 34) = w2 := ⟨_, rfl⟩
    have hs2 : w2.heap.size = w.heap.size + 2 := by rw [← hw2]; simp [hs1]
    have B12 : Hid (Below w1.heap.size w1 w2) := by unfold Hid; rw [← hw2]; exact (Below.refl _ w1).alloc (Nat.le_refl _) _
    have B2 : Hid (Below w.heap.size w w2) := below_below B1.out B12.out (by omega)
    have HFB : Hid (∀ W, Below w2.heap.size w2 W → Blk W (w.heap.size + 1) 34 #[.slice fA fs.length fc]) := fun W hW => by
      have : Blk w2 w1.heap.size 34 #[.slice fA fs.length fc] := by rw [← hw2]; exact Blk.new w1 _ _
      rw [hs1] at this
      exact this.below hW (by omega)
    have HPB : Hid (∀ W, Below w2.heap.size w2 W → Blk W w.heap.size 24 #[.int .i64 kd, .int .i64 cl, .string s, .int .i64 ec, .int .i64 co, .slice A ks.length c]) := fun W hW => HBK.out W (below_below B12.out hW (by omega))
    clear HBK
    have HK2 := Lib.hid (HK1.out.kept B12.out (by omega))
    have HFL2 := Lib.hid (HFL.out.below B2.out hfhi)
    clear HK1 HFL
    have b0 : w2.cell? ⟨w.heap.size, 0, none⟩ = some (.int .i64 kd) := (HPB.out w2 (Below.refl _ _)).cell 0
    have b1 : w2.cell? ⟨w.heap.size, 1, none⟩ = some (.int .i64 cl) := (HPB.out w2 (Below.refl _ _)).cell 1
    have b2 : w2.cell? ⟨w.heap.size, 2, none⟩ = some (.string s) := (HPB.out w2 (Below.refl _ _)).cell 2
    have b3 : w2.cell? ⟨w.heap.size, 3, none⟩ = some (.int .i64 ec) := (HPB.out w2 (Below.refl _ _)).cell 3
    have b4 : w2.cell? ⟨w.heap.size, 4, none⟩ = some (.int .i64 co) := (HPB.out w2 (Below.refl _ _)).cell 4
    have b5 : w2.cell? ⟨w.heap.size, 5, none⟩ = some (.slice A ks.length c) := (HPB.out w2 (Below.refl _ _)).cell 5
    have g0 : w2.cell? ⟨w.heap.size + 1, 0, none⟩ = some (.slice fA fs.length fc) := (HFB.out w2 (Below.refl _ _)).cell 0
    by_cases g12 : 12 ≤ kd
    · obtain ⟨k14, k16, k1, hn1, HRK⟩ := HRH.out g12
      have HRK := Lib.hid HRK
      clear HRL HRH
      rw [if_pos g12] at HV
      have HQ : Hid (∀ q ∈ ks, ∀ (W : World) A2 c2, Below w2.heap.size w2 W → PrOk q → Kin W lo hi q.kids A2 c2 → Calls Tryd.prog 31 #[.agg #[.int .i64 q.kind, .int .i64 q.col, .string q.s, .int .i64 q.esc, .int .i64 q.coll, .slice A2 q.kids.length c2], .slice fA fs.length fc] W fun r w' => r = .returned (.bool (skipP q fs)) ∧ Below W.heap.size W w') := fun q hm W A2 c2 hW ho2 hk2 =>
        HIH.out q hm fs (deep - 1) ho2 hk2 (HFL2.out.below hW (by omega)) (by have := hW.size; omega) (by have := hW.size; omega) HFO.out (HRK.out q hm)
      clear HIH
      rcases (show kd = 12 ∨ kd = 13 ∨ kd = 14 by omega) with hkd | hkd | hkd
      · subst hkd
        have HC := Lib.hid (has_skip (w := w2) (B0 := w.heap.size + 1) HK2.out (by omega) (fun q => skipP q fs) (fun q hm W hW A2 c2 ho2 hk2 => lit_skip ((HFB.out W hW).cell 0) (by have := hW.size; omega) (fun W2 hW2 => HQ.out q hm W2 A2 c2 (below_below hW hW2 (by have := hW.size; omega)) ho2 (hk2.kept hW2 (by have := hW.size; omega)))))
        rw [headK_any] at HV
        rw [HV.out] at HC
        clear HQ HV g12
        go_enter Tryd.func31, Tryd.ntmps31
        go_wp2_with fail
        refine HC.out.mono ?_
        rintro r w3 ⟨rfl, q3⟩
        have HB3 := Lib.hid (below_below B2.out q3 (by omega))
        clear q3
        go_wp2_with fail
        go_ret
        exact ⟨rfl, HB3.out⟩
      · subst hkd
        have HC := Lib.hid (has_stay (w := w2) (B0 := w.heap.size + 1) HK2.out (by omega) (fun q => !skipP q fs) (fun q hm W hW A2 c2 ho2 hk2 => lit_stay ((HFB.out W hW).cell 0) (by have := hW.size; omega) (fun W2 hW2 => HQ.out q hm W2 A2 c2 (below_below hW hW2 (by have := hW.size; omega)) ho2 (hk2.kept hW2 (by have := hW.size; omega)))))
        rw [headK_all] at HV
        obtain ⟨u, hu⟩ : ∃ u, (ks.any fun q => !skipP q fs) = u := ⟨_, rfl⟩
        rw [hu] at HC HV
        clear HQ g12 hu
        go_enter Tryd.func31, Tryd.ntmps31
        go_wp2_with fail
        refine HC.out.mono ?_
        rintro r w3 ⟨rfl, q3⟩
        have HB3 := Lib.hid (below_below B2.out q3 (by omega))
        clear q3
        go_wp2_with fail
        go_ret
        exact ⟨ret_bool HV.out, HB3.out⟩
      · subst hkd
        rw [headK_not] at HV
        clear HQ g12 hn1
        go_enter Tryd.func31, Tryd.ntmps31
        go_wp2_with fail
        go_ret
        exact ⟨ret_bool HV.out, B2.out⟩
    · obtain ⟨l1, l2, l3, l4, hkn, HPF⟩ := HRL.out g12
      have HPF := Lib.hid HPF
      clear HRL HRH HIH HK2 hkn
      have f12 : (kd == 12) = false := beq_eq_false_iff_ne.2 (by omega)
      have f13 : (kd == 13) = false := beq_eq_false_iff_ne.2 (by omega)
      have f14 : (kd == 14) = false := beq_eq_false_iff_ne.2 (by omega)
      have HVL : Hid (leafK kd co ec s (fs[cl.toNat]?.getD ⟨0, [], []⟩) = V) := by unfold Hid; rw [← HV.out, if_neg g12]
      clear HV
      obtain ⟨j, rfl⟩ : ∃ j : Nat, cl = (j : Int) := ⟨cl.toNat, by omega⟩
      have hjl : j < fs.length := by omega
      rw [Int.toNat_natCast, List.getElem?_eq_getElem hjl, Option.getD_some] at HVL
      have ij : (j : Int) < (fs.length : Int) := by omega
      have ij0 : (0 : Int) ≤ (j : Int) := by omega
      obtain ⟨bf, off, hfA, hlo2, hbh2, d0, d1, d2, hflt⟩ := HFL2.out.get hjl
      have HFG := Lib.hid (HFO.out fs[j] (List.getElem_mem hjl))
      have HMAY : Hid (∀ W, Below w2.heap.size w2 W → ∀ x : ByteArray, x.size ≤ 100000 → Calls Tryd.prog 48 #[.agg #[.int .i64 (fs[j].b : Int), .slice (gA j) fs[j].gs.length (gc j), .slice (rA j) fs[j].rs.length (rc j)], .string x] W fun r w' => r = .returned (.bool (mayP fs[j] x)) ∧ Below W.heap.size W w') := fun W hW x hx => gmay_any (flt_below hflt hW (by omega)) (by have := hW.size; omega) HFG.out x hx
      clear hflt HFG HFO HFL2
      generalize fs[j] = fl at *
      generalize gA j = ga at *
      generalize gc j = gcj at *
      generalize rA j = ra at *
      generalize rc j = rcj at *
      subst hfA
      have HCF : Hid (∀ wx, Below w2.heap.size w2 wx → wx.cell? ⟨w.heap.size, 1, none⟩ = some (.int .i64 (j : Int)) ∧ wx.cell? ⟨w.heap.size, 2, none⟩ = some (.string s) ∧ wx.cell? ⟨w.heap.size, 4, none⟩ = some (.int .i64 co) ∧ wx.cell? ⟨w.heap.size + 1, 0, none⟩ = some (.slice (some ⟨bf, off, none⟩) fs.length fc) ∧ wx.cell? ⟨bf, off + j * 3, none⟩ = some (.int .i64 (fl.b : Int)) ∧ wx.cell? ⟨bf, off + j * 3 + 1, none⟩ = some (.slice ga fl.gs.length gcj) ∧ wx.cell? ⟨bf, off + j * 3 + 2, none⟩ = some (.slice ra fl.rs.length rcj)) := fun wx hb => ⟨(HPB.out wx hb).cell 1, (HPB.out wx hb).cell 2, (HPB.out wx hb).cell 4, (HFB.out wx hb).cell 0, (hb.cell (p := ⟨bf, off + j * 3, none⟩) (by simp only; omega)).trans d0, (hb.cell (p := ⟨bf, off + j * 3 + 1, none⟩) (by simp only; omega)).trans d1, (hb.cell (p := ⟨bf, off + j * 3 + 2, none⟩) (by simp only; omega)).trans d2⟩
      rcases (show kd = 1 ∨ kd = 2 ∨ kd = 3 ∨ kd = 4 ∨ kd = 5 ∨ kd = 6 ∨ kd = 7 ∨ kd = 8 ∨ kd = 9 ∨ kd = 10 ∨ kd = 11 by omega) with hkd | hkd | hkd | hkd | hkd | hkd | hkd | hkd | hkd | hkd | hkd
      · subst hkd
        by_cases c0 : co = 0
        · subst c0
          obtain ⟨u, hu⟩ : ∃ u, mayP fl s = u := ⟨_, rfl⟩
          have HVV : Hid ((!u) = V) := by unfold Hid; rw [← HVL.out, ← hu, leafK]; exact (if_pos (.inl ⟨rfl, rfl⟩)).symm
          have HM : Hid (∀ W, Below w2.heap.size w2 W → Calls Tryd.prog 48 #[.agg #[.int .i64 (fl.b : Int), .slice ga fl.gs.length gcj, .slice ra fl.rs.length rcj], .string s] W fun r w' => r = .returned (.bool u) ∧ Below W.heap.size W w') := fun W hW => by rw [← hu]; exact HMAY.out W hW s (by omega)
          have hS1 := HCF.out _ (Below.refl _ _)
          have hS2 := HCF.out _ ((Below.refl _ _).drew)
          have KD : Hid (Below w2.heap.size w2 w2.drew) := (Below.refl _ _).drew
          clear hu HMAY HVL HPF
          go_enter Tryd.func31, Tryd.ntmps31
          go_wp2_with fail
          go_region_held3 (fun w' => w'.cell? ⟨w.heap.size, 1, none⟩ = some (.int .i64 (j : Int)) ∧ w'.cell? ⟨w.heap.size, 2, none⟩ = some (.string s) ∧ w'.cell? ⟨w.heap.size, 4, none⟩ = some (.int .i64 0) ∧ w'.cell? ⟨w.heap.size + 1, 0, none⟩ = some (.slice (some ⟨bf, off, none⟩) fs.length fc) ∧ w'.cell? ⟨bf, off + j * 3, none⟩ = some (.int .i64 (fl.b : Int)) ∧ w'.cell? ⟨bf, off + j * 3 + 1, none⟩ = some (.slice ga fl.gs.length gcj) ∧ w'.cell? ⟨bf, off + j * 3 + 2, none⟩ = some (.slice ra fl.rs.length rcj)) (first | assumption | go_keep) (first
            | (go_at_call 48; refine (HM.out _ KD.out).mono ?_; rintro r wy ⟨rfl, hby⟩; have KY : Hid (Below w2.heap.size w2 wy) := KD.out.trans (hby.mono KD.out.size); have hSy := HCF.out _ KY.out; clear hby))
          go_wp2_with fail
          go_ret
          exact ⟨ret_bool HVV.out, below_below B2.out KY.out (by omega)⟩
        · have e0 : (co == 0) = false := beq_eq_false_iff_ne.2 c0
          have HVV : Hid (V = false) := by unfold Hid; rw [← HVL.out, leafK, if_neg (by omega), if_neg (by decide)]
          clear HVL HMAY HCF
          go_enter Tryd.func31, Tryd.ntmps31
          go_wp2_with fail
          go_quiet (fail)
          go_wp2_with fail
          go_ret
          exact ⟨ret_bool HVV.out.symm, below_drewN' B2.out _⟩
      · subst hkd
        have HVV : Hid (V = false) := by unfold Hid; rw [← HVL.out, leafK, if_neg (by omega), if_neg (by decide)]
        clear HVL HMAY HCF
        go_enter Tryd.func31, Tryd.ntmps31
        go_wp2_with fail
        go_ret
        exact ⟨ret_bool HVV.out.symm, B2.out⟩
      · subst hkd
        have HVV : Hid (V = false) := by unfold Hid; rw [← HVL.out, leafK, if_neg (by omega), if_neg (by decide)]
        clear HVL HMAY HCF
        go_enter Tryd.func31, Tryd.ntmps31
        go_wp2_with fail
        go_ret
        exact ⟨ret_bool HVV.out.symm, B2.out⟩
      · subst hkd
        have HVV : Hid (V = false) := by unfold Hid; rw [← HVL.out, leafK, if_neg (by omega), if_neg (by decide)]
        clear HVL HMAY HCF
        go_enter Tryd.func31, Tryd.ntmps31
        go_wp2_with fail
        go_ret
        exact ⟨ret_bool HVV.out.symm, B2.out⟩
      · subst hkd
        have HVV : Hid (V = false) := by unfold Hid; rw [← HVL.out, leafK, if_neg (by omega), if_neg (by decide)]
        clear HVL HMAY HCF
        go_enter Tryd.func31, Tryd.ntmps31
        go_wp2_with fail
        go_ret
        exact ⟨ret_bool HVV.out.symm, B2.out⟩
      · subst hkd
        have HVV : Hid (V = false) := by unfold Hid; rw [← HVL.out, leafK, if_neg (by omega), if_neg (by decide)]
        clear HVL HMAY HCF
        go_enter Tryd.func31, Tryd.ntmps31
        go_wp2_with fail
        go_ret
        exact ⟨ret_bool HVV.out.symm, B2.out⟩
      · subst hkd
        obtain ⟨u, hu⟩ : ∃ u, mayP fl s = u := ⟨_, rfl⟩
        have HVV : Hid ((!u) = V) := by unfold Hid; rw [← HVL.out, ← hu, leafK]; exact (if_pos (.inr ⟨by decide, by decide⟩)).symm
        have HM : Hid (∀ W, Below w2.heap.size w2 W → Calls Tryd.prog 48 #[.agg #[.int .i64 (fl.b : Int), .slice ga fl.gs.length gcj, .slice ra fl.rs.length rcj], .string s] W fun r w' => r = .returned (.bool u) ∧ Below W.heap.size W w') := fun W hW => by rw [← hu]; exact HMAY.out W hW s (by omega)
        have hS1 := HCF.out _ (Below.refl _ _)
        have hS2 := HCF.out _ ((Below.refl _ _).drew)
        have KD : Hid (Below w2.heap.size w2 w2.drew) := (Below.refl _ _).drew
        clear hu HMAY HVL HPF
        go_enter Tryd.func31, Tryd.ntmps31
        go_wp2_with fail
        go_region_held3 (fun w' => w'.cell? ⟨w.heap.size, 1, none⟩ = some (.int .i64 (j : Int)) ∧ w'.cell? ⟨w.heap.size, 2, none⟩ = some (.string s) ∧ w'.cell? ⟨w.heap.size, 4, none⟩ = some (.int .i64 co) ∧ w'.cell? ⟨w.heap.size + 1, 0, none⟩ = some (.slice (some ⟨bf, off, none⟩) fs.length fc) ∧ w'.cell? ⟨bf, off + j * 3, none⟩ = some (.int .i64 (fl.b : Int)) ∧ w'.cell? ⟨bf, off + j * 3 + 1, none⟩ = some (.slice ga fl.gs.length gcj) ∧ w'.cell? ⟨bf, off + j * 3 + 2, none⟩ = some (.slice ra fl.rs.length rcj)) (first | assumption | go_keep) (first
          | (go_at_call 48; refine (HM.out _ KD.out).mono ?_; rintro r wy ⟨rfl, hby⟩; have KY : Hid (Below w2.heap.size w2 wy) := KD.out.trans (hby.mono KD.out.size); have hSy := HCF.out _ KY.out; clear hby))
        go_wp2_with fail
        go_ret
        exact ⟨ret_bool HVV.out, below_below B2.out KY.out (by omega)⟩
      · subst hkd
        obtain ⟨u, hu⟩ : ∃ u, mayP fl s = u := ⟨_, rfl⟩
        have HVV : Hid ((!u) = V) := by unfold Hid; rw [← HVL.out, ← hu, leafK]; exact (if_pos (.inr ⟨by decide, by decide⟩)).symm
        have HM : Hid (∀ W, Below w2.heap.size w2 W → Calls Tryd.prog 48 #[.agg #[.int .i64 (fl.b : Int), .slice ga fl.gs.length gcj, .slice ra fl.rs.length rcj], .string s] W fun r w' => r = .returned (.bool u) ∧ Below W.heap.size W w') := fun W hW => by rw [← hu]; exact HMAY.out W hW s (by omega)
        have hS1 := HCF.out _ (Below.refl _ _)
        have hS2 := HCF.out _ ((Below.refl _ _).drew)
        have KD : Hid (Below w2.heap.size w2 w2.drew) := (Below.refl _ _).drew
        clear hu HMAY HVL HPF
        go_enter Tryd.func31, Tryd.ntmps31
        go_wp2_with fail
        go_region_held3 (fun w' => w'.cell? ⟨w.heap.size, 1, none⟩ = some (.int .i64 (j : Int)) ∧ w'.cell? ⟨w.heap.size, 2, none⟩ = some (.string s) ∧ w'.cell? ⟨w.heap.size, 4, none⟩ = some (.int .i64 co) ∧ w'.cell? ⟨w.heap.size + 1, 0, none⟩ = some (.slice (some ⟨bf, off, none⟩) fs.length fc) ∧ w'.cell? ⟨bf, off + j * 3, none⟩ = some (.int .i64 (fl.b : Int)) ∧ w'.cell? ⟨bf, off + j * 3 + 1, none⟩ = some (.slice ga fl.gs.length gcj) ∧ w'.cell? ⟨bf, off + j * 3 + 2, none⟩ = some (.slice ra fl.rs.length rcj)) (first | assumption | go_keep) (first
          | (go_at_call 48; refine (HM.out _ KD.out).mono ?_; rintro r wy ⟨rfl, hby⟩; have KY : Hid (Below w2.heap.size w2 wy) := KD.out.trans (hby.mono KD.out.size); have hSy := HCF.out _ KY.out; clear hby))
        go_wp2_with fail
        go_ret
        exact ⟨ret_bool HVV.out, below_below B2.out KY.out (by omega)⟩
      · subst hkd
        obtain ⟨u, hu⟩ : ∃ u, mayP fl s = u := ⟨_, rfl⟩
        have HVV : Hid ((!u) = V) := by unfold Hid; rw [← HVL.out, ← hu, leafK]; exact (if_pos (.inr ⟨by decide, by decide⟩)).symm
        have HM : Hid (∀ W, Below w2.heap.size w2 W → Calls Tryd.prog 48 #[.agg #[.int .i64 (fl.b : Int), .slice ga fl.gs.length gcj, .slice ra fl.rs.length rcj], .string s] W fun r w' => r = .returned (.bool u) ∧ Below W.heap.size W w') := fun W hW => by rw [← hu]; exact HMAY.out W hW s (by omega)
        have hS1 := HCF.out _ (Below.refl _ _)
        have hS2 := HCF.out _ ((Below.refl _ _).drew)
        have KD : Hid (Below w2.heap.size w2 w2.drew) := (Below.refl _ _).drew
        clear hu HMAY HVL HPF
        go_enter Tryd.func31, Tryd.ntmps31
        go_wp2_with fail
        go_region_held3 (fun w' => w'.cell? ⟨w.heap.size, 1, none⟩ = some (.int .i64 (j : Int)) ∧ w'.cell? ⟨w.heap.size, 2, none⟩ = some (.string s) ∧ w'.cell? ⟨w.heap.size, 4, none⟩ = some (.int .i64 co) ∧ w'.cell? ⟨w.heap.size + 1, 0, none⟩ = some (.slice (some ⟨bf, off, none⟩) fs.length fc) ∧ w'.cell? ⟨bf, off + j * 3, none⟩ = some (.int .i64 (fl.b : Int)) ∧ w'.cell? ⟨bf, off + j * 3 + 1, none⟩ = some (.slice ga fl.gs.length gcj) ∧ w'.cell? ⟨bf, off + j * 3 + 2, none⟩ = some (.slice ra fl.rs.length rcj)) (first | assumption | go_keep) (first
          | (go_at_call 48; refine (HM.out _ KD.out).mono ?_; rintro r wy ⟨rfl, hby⟩; have KY : Hid (Below w2.heap.size w2 wy) := KD.out.trans (hby.mono KD.out.size); have hSy := HCF.out _ KY.out; clear hby))
        go_wp2_with fail
        go_ret
        exact ⟨ret_bool HVV.out, below_below B2.out KY.out (by omega)⟩
      · subst hkd
        obtain ⟨ns, hns⟩ := HPF.out rfl
        have hns2 := parseF_le hns
        rw [lenB] at hns2
        have hnl : ns.length ≤ 4096 := by omega
        have HVV : Hid (((strsL (runsL ns)).any fun r => !mayP fl r) = V) := by unfold Hid; rw [← HVL.out, leafK, if_neg (by omega), if_pos rfl, hns]; rfl
        have HSG := Lib.hid (signs_any (w := w2) 10 (j : Int) ec co s ks.length (A := A) (c := c) hns)
        clear HVL HPF hns hns2
        go_enter Tryd.func31, Tryd.ntmps31
        go_wp2_with fail
        refine HSG.out.mono ?_
        rintro r w3 ⟨A3, c3, rfl, hr3, q3⟩
        have HB3 := Lib.hid q3
        have hs3 := q3.size
        have HRU := Lib.hid (lruns_any (w := w3) ns hr3 (by omega))
        clear q3 hr3 HSG
        go_wp2_with fail
        refine HRU.out.mono ?_
        rintro r w4 ⟨A4, c4, rfl, hr4, q4⟩
        have HB4 := Lib.hid (below_below HB3.out q4 hs3)
        have hs4 := HB4.out.size
        have HC := Lib.hid (has_run (w := w4) (B0 := w.heap.size + 1) (B1 := w.heap.size) hr4 (Nat.le_refl _) (fun x => !mayP fl x) (fun x hx W hW => by
          have hWW := below_below HB4.out hW hs4
          have hS := HCF.out W hWW
          have hxl := run_le hx
          exact lit_run hS.2.2.2.1 hS.1 rfl hjl (by omega) hS.2.2.2.2.1 hS.2.2.2.2.2.1 hS.2.2.2.2.2.2 (HMAY.out W hWW x (by omega))))
        rw [strsL_length] at HC
        rw [HVV.out] at HC
        clear q4 hr4 HRU
        go_wp2_with fail
        refine HC.out.mono ?_
        rintro r w5 ⟨rfl, q5⟩
        have HB5 := Lib.hid (below_below (below_below B2.out HB4.out (by omega)) q5 (by omega))
        clear q5
        go_wp2_with fail
        go_ret
        exact ⟨rfl, HB5.out⟩
      · subst hkd
        have HVV : Hid (V = false) := by unfold Hid; rw [← HVL.out, leafK, if_neg (by omega), if_neg (by decide)]
        clear HVL HMAY HCF
        go_enter Tryd.func31, Tryd.ntmps31
        go_wp2_with fail
        go_ret
        exact ⟨ret_bool HVV.out.symm, B2.out⟩

set_option maxRecDepth 20000 in
theorem nskip_any {w : World} {p : Pr} {A fA : Option Addr} {c fc : Nat} {gA rA : Nat → Option Addr} {gc rc : Nat → Nat} {fs : List Fl} (ho : PrOk p) (hk : Kin w 0 w.heap.size p.kids A c) (hf : Fls w 0 w.heap.size fA fc fs gA gc rA rc) (hfo : ∀ f ∈ fs, FilG f.b f.gs f.rs) (hp : rightP p fs.length 12 = true) :
    Calls Tryd.prog 18 #[.agg #[.int .i64 p.kind, .int .i64 p.col, .string p.s, .int .i64 p.esc, .int .i64 p.coll, .slice A p.kids.length c], .slice fA fs.length fc] w fun r w' => r = .returned (.bool (skipP p fs)) ∧ Below w.heap.size w w' := by
  obtain ⟨w1, hw1⟩ : ∃ w1, w.alloc (.cells #[.int .i64 p.kind, .int .i64 p.col, .string p.s, .int .i64 p.esc, .int .i64 p.coll, .slice A p.kids.length c] 24) = w1 := ⟨_, rfl⟩
  have B1 : Hid (Below w.heap.size w w1) := by unfold Hid; rw [← hw1]; exact (Below.refl _ w).alloc (Nat.le_refl _) _
  have hb : Blk w1 w.heap.size 24 #[.int .i64 p.kind, .int .i64 p.col, .string p.s, .int .i64 p.esc, .int .i64 p.coll, .slice A p.kids.length c] := by rw [← hw1]; exact Blk.new w _ _
  have hs1 : w1.heap.size = w.heap.size + 1 := by rw [← hw1]; simp
  have HBK : Hid (∀ W, Below w1.heap.size w1 W → Blk W w.heap.size 24 #[.int .i64 p.kind, .int .i64 p.col, .string p.s, .int .i64 p.esc, .int .i64 p.coll, .slice A p.kids.length c]) := fun W hW => hb.below hW (by omega)
  have b0 : w1.cell? ⟨w.heap.size, 0, none⟩ = some (.int .i64 p.kind) := hb.cell 0
  have b1 : w1.cell? ⟨w.heap.size, 1, none⟩ = some (.int .i64 p.col) := hb.cell 1
  have b2 : w1.cell? ⟨w.heap.size, 2, none⟩ = some (.string p.s) := hb.cell 2
  have b3 : w1.cell? ⟨w.heap.size, 3, none⟩ = some (.int .i64 p.esc) := hb.cell 3
  have b4 : w1.cell? ⟨w.heap.size, 4, none⟩ = some (.int .i64 p.coll) := hb.cell 4
  have b5 : w1.cell? ⟨w.heap.size, 5, none⟩ = some (.slice A p.kids.length c) := hb.cell 5
  have HR := Lib.hid (nrightr_any p (w := w1) fs.length 12 ho (hk.kept B1.out (Nat.le_refl _)) (by omega) (by decide) (by decide))
  rw [hp] at HR
  have HC : Hid (∀ W, Below w1.heap.size w1 W → Calls Tryd.prog 31 #[.agg #[.int .i64 p.kind, .int .i64 p.col, .string p.s, .int .i64 p.esc, .int .i64 p.coll, .slice A p.kids.length c], .slice fA fs.length fc] W fun r w' => r = .returned (.bool (skipP p fs)) ∧ Below W.heap.size W w') := fun W hW =>
    nskipr_any p fs 12 ho ((hk.kept B1.out (Nat.le_refl _)).kept hW (by omega)) ((hf.below B1.out (Nat.le_refl _)).below hW (by omega)) (by have := hW.size; omega) (by have := hW.size; omega) hfo hp
  have HRR := Lib.hid (nright_any (w := w1) ho (Kin.wide (Nat.le_refl _) (by omega) (hk.kept B1.out (Nat.le_refl _))) fs.length)
  rw [hp] at HRR
  obtain ⟨hr1, hr2⟩ := hf.len
  obtain ⟨V, hV⟩ : ∃ V, skipP p fs = V := ⟨_, rfl⟩
  rw [hV] at HC ⊢
  clear hb hV ho hk hf hfo hp HR
  go_enter Tryd.func18, Tryd.ntmps18
  go_wp2_with fail
  refine HRR.out.mono ?_
  rintro r w2 ⟨rfl, q2⟩
  have hk2 := HBK.out w2 q2
  have b0 : w2.cell? ⟨w.heap.size, 0, none⟩ = some (.int .i64 p.kind) := hk2.cell 0
  have b1 : w2.cell? ⟨w.heap.size, 1, none⟩ = some (.int .i64 p.col) := hk2.cell 1
  have b2 : w2.cell? ⟨w.heap.size, 2, none⟩ = some (.string p.s) := hk2.cell 2
  have b3 : w2.cell? ⟨w.heap.size, 3, none⟩ = some (.int .i64 p.esc) := hk2.cell 3
  have b4 : w2.cell? ⟨w.heap.size, 4, none⟩ = some (.int .i64 p.coll) := hk2.cell 4
  have b5 : w2.cell? ⟨w.heap.size, 5, none⟩ = some (.slice A p.kids.length c) := hk2.cell 5
  have HB2 := Lib.hid (below_below B1.out q2 (by omega))
  have HCC := Lib.hid (HC.out w2 q2)
  have hs2 := HB2.out.size
  clear q2 hk2 HC
  go_wp2_with fail
  refine HCC.out.mono ?_
  rintro r w3 ⟨rfl, q3⟩
  have HB3 := Lib.hid (below_below HB2.out q3 hs2)
  clear q3
  go_wp2_with fail
  go_ret
  exact ⟨rfl, HB3.out⟩
end Go.Proofs.YtjffbjlniieciaaDoor
