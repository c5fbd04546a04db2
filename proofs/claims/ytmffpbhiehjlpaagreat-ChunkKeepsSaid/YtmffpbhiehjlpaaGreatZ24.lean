/-
  slices.Clone of strings and of whole numbers.
  The front package's small functions: fits, alike, follows, right.
  A row of numbers and a row of bytes of a call's own, apart, that both grow.
  The document's own Text.
-/
import Derived.Test.YtmffpbhiehjlpaaGreatRows
import Derived.Test.YtmffpbhiehjlpaaGreatZ01
import Derived.Test.YtmffpbhiehjlpaaGreatZ06
import Derived.Test.YtmffpbhiehjlpaaGreatZ08
import Derived.Test.YtmffpbhiehjlpaaGreatZ09
import Derived.Test.YtmffpbhiehjlpaaGreatZ05
import Derived.Test.YtmffpbhiehjlpaaGreatZ02
import Derived.OneCell
namespace Go.Proofs.YtmffpbhiehjlpaaGreat
set_option linter.unusedSimpArgs false
set_option linter.unusedVariables false
open Go.RowKit
theorem own_lit_nil (w : World) (t : TypeId) : (w.alloc (.cells #[] t)).ownsRow w.heap.size t 1 (.slice (some ⟨w.heap.size, 0, none⟩) 0 0) 0 [] := by
  have := World.ownsRow_lit (e := t) (size := 1) (base := w.heap.size) w #[] 0 (Nat.le_refl _) (by simp [maxLen]) (by simp)
  exact this
theorem clone_strs {w : World} (l : List ByteArray) {lo h' : Nat} {A : Option Addr} {c : Nat} (h : Rd w lo h' A c (sv l)) (hh : h' ≤ w.heap.size) (hb : l.length ≤ 1000000000) :
    Calls Tryz.prog 108 #[.slice A l.length c] w fun r w' => ∃ A' c', r = .returned (.slice A' l.length c') ∧
      w'.ownsRow w.heap.size 9 1 (.slice A' l.length c') l.length (sv l) ∧ Below w.heap.size w w' := by
  rcases A with _ | ad
  · obtain rfl : l = [] := by
      rcases Nat.eq_zero_or_pos (sv l).length with h0 | h0
      · exact List.eq_nil_of_length_eq_zero (by simpa [sv] using h0)
      · obtain ⟨_, _, h, _⟩ := h.at_ h0
        cases h
    clear h
    have hnil := Lib.run_eql_slice_nil (P := Tryz.prog) w 37 9 none 0 c 0 0 Tryz.underlying37
    go_enter Tryz.func108, Tryz.ntmps108
    go_wp2
    go_ret
    exact ⟨_, _, rfl, World.ownsRow_nil .., Below.refl _ _⟩
  · obtain ⟨A1, c1, w1, hrun, hown, hg1⟩ := append_strs (w.alloc (.cells #[] 9)) w.heap.size (.slice (some ⟨w.heap.size, 0, none⟩) 0 0) [] l l (by simp) (own_lit_nil w _) (h.alloc hh _) (by simp; omega) (by simp)
    have HO := Lib.hid hown
    have HG := Lib.hid hg1
    clear h hown hg1
    have hnil := Lib.run_eql_slice_nil (P := Tryz.prog) w 37 9 (some ad) l.length c 0 0 Tryz.underlying37
    go_enter Tryz.func108, Tryz.ntmps108
    go_wp2_with (at_builtin; refine wpList_append_run rfl _ _ _ _ rfl rfl rfl hrun ?_)
    go_ret
    exact ⟨_, _, rfl, HO.out, ((Below.refl _ _).alloc (Nat.le_refl _) _).grown HG.out (by simp) (by simp [Value.ownBlock])⟩
theorem clone_nums {w : World} (l : List Int) {lo h' : Nat} {A : Option Addr} {c : Nat} (h : Rd w lo h' A c (iv l)) (hh : h' ≤ w.heap.size) (hb : l.length ≤ 1000000000) :
    Calls Tryz.prog 56 #[.slice A l.length c] w fun r w' => ∃ A' c', r = .returned (.slice A' l.length c') ∧
      w'.ownsRow w.heap.size 3 1 (.slice A' l.length c') l.length (iv l) ∧ Below w.heap.size w w' := by
  rcases A with _ | ad
  · obtain rfl : l = [] := by
      rcases Nat.eq_zero_or_pos (iv l).length with h0 | h0
      · exact List.eq_nil_of_length_eq_zero (by simpa [iv] using h0)
      · obtain ⟨_, _, h, _⟩ := h.at_ h0
        cases h
    clear h
    have hnil := Lib.run_eql_slice_nil (P := Tryz.prog) w 23 3 none 0 c 0 0 Tryz.underlying23
    go_enter Tryz.func56, Tryz.ntmps56
    go_wp2
    go_ret
    exact ⟨_, _, rfl, World.ownsRow_nil .., Below.refl _ _⟩
  · obtain ⟨A1, c1, w1, hrun, hown, hg1⟩ := append_nums (w.alloc (.cells #[] 3)) w.heap.size (.slice (some ⟨w.heap.size, 0, none⟩) 0 0) [] l l (by simp) (own_lit_nil w _) (h.alloc hh _) (by simp; omega) (by simp)
    have HO := Lib.hid hown
    have HG := Lib.hid hg1
    clear h hown hg1
    have hnil := Lib.run_eql_slice_nil (P := Tryz.prog) w 23 3 (some ad) l.length c 0 0 Tryz.underlying23
    go_enter Tryz.func56, Tryz.ntmps56
    go_wp2_with (at_builtin; refine wpList_append_run rfl _ _ _ _ rfl rfl rfl hrun ?_)
    go_ret
    exact ⟨_, _, rfl, HO.out, ((Below.refl _ _).alloc (Nat.le_refl _) _).grown HG.out (by simp) (by simp [Value.ownBlock])⟩
end Go.Proofs.YtmffpbhiehjlpaaGreat
namespace Go.Proofs.YtmffpbhiehjlpaaGreat
set_option linter.unusedSimpArgs false
set_option linter.unusedVariables false
open Go.RowKit
theorem ffits_any {w : World} (z : Int) : Calls Tryz.prog 98 #[.int .i64 z] w fun r w' => r = .returned (.bool (decide (1 ≤ z ∧ z ≤ 64))) ∧ w = w' := by
  by_cases h0 : z < 1
  · have hf : decide (1 ≤ z ∧ z ≤ 64) = false := decide_eq_false (by omega)
    have h1 : decide (1 ≤ z) = false := decide_eq_false (by omega)
    rw [hf]
    go_enter Tryz.func98, Tryz.ntmps98
    go_wp2
    go_ret
    exact ⟨rfl, rfl⟩
  · have h1 : decide (1 ≤ z) = true := decide_eq_true (by omega)
    by_cases h2 : z ≤ 64
    · have hf : decide (1 ≤ z ∧ z ≤ 64) = true := decide_eq_true (by omega)
      have h2 : decide (z ≤ 64) = true := decide_eq_true h2
      rw [hf]
      go_enter Tryz.func98, Tryz.ntmps98
      go_wp2
      go_ret
      exact ⟨rfl, rfl⟩
    · have hf : decide (1 ≤ z ∧ z ≤ 64) = false := decide_eq_false (by omega)
      have h2 : decide (z ≤ 64) = false := decide_eq_false h2
      rw [hf]
      go_enter Tryz.func98, Tryz.ntmps98
      go_wp2
      go_ret
      exact ⟨rfl, rfl⟩
set_option maxHeartbeats 1000000 in
theorem alike_any {w : World} (a b : ByteArray) (ha : a.size ≤ 1000000000) (hb : b.size ≤ 1000000000) :
    Calls Tryz.prog 136 #[.string a, .string b] w fun r w' => r = .returned (.int .i64 (shareN a.data.toList b.data.toList : Int)) ∧ ∃ m, w' = w.drewN m := by
  obtain ⟨v, hv⟩ : ∃ v, shareN a.data.toList b.data.toList = v := ⟨_, rfl⟩
  rw [hv]
  have hsa := lenD a
  have hsb := lenD b
  have HAT : Hid (∀ k (h1 : k < a.size) (h2 : k < b.size), a.data.toList.take k = b.data.toList.take k → a[k] ≠ b[k] → (k : Int) = (v : Int)) := fun k h1 h2 ht hne => by
    rw [← hv, share_is (n := k) (by omega) (by omega) ht (fun _ _ => hne)]
  have HNX : Hid (∀ k (h1 : k < a.size) (h2 : k < b.size), a.data.toList.take k = b.data.toList.take k → a[k] = b[k] → a.data.toList.take (k + 1) = b.data.toList.take (k + 1)) := fun k h1 h2 ht he => by
    rw [List.take_succ_eq_append_getElem (by omega), List.take_succ_eq_append_getElem (by omega), ht]
    have he' : a.data.toList[k]'(by omega) = b.data.toList[k]'(by omega) := he
    rw [he']
  obtain ⟨n, hn⟩ : ∃ n, min a.size b.size = n := ⟨_, rfl⟩
  have HEND : Hid (a.data.toList.take n = b.data.toList.take n → (n : Int) = (v : Int)) := fun ht => by
    rw [← hv, share_is (n := n) (by omega) (by omega) ht (fun _ _ => by omega)]
  have hna : n ≤ a.size := by omega
  have hnb : n ≤ b.size := by omega
  have hmin : min (a.size : Int) (b.size : Int) = (n : Int) := by omega
  clear hv hsa hsb hn
  go_enter Tryz.func136, Tryz.ntmps136
  go_wp2_with fail
  clear hmin
  go_loopw [13] (fun i wr => ∃ k m : Nat, k ≤ n ∧ i = .int .i64 (k : Int) ∧ a.data.toList.take k = b.data.toList.take k ∧ wr = w.drewN m) (fun i _ => n - (intOf i).toNat)
  case atStart => exact ⟨0, 0, by omega, rfl, by simp, rfl⟩
  case round =>
    obtain ⟨k, m, hkn, rfl, ht, rfl⟩ := hrel
    have HT := Lib.hid ht
    clear ht
    by_cases hl : k < n
    · have i0 : (k : Int) < (n : Int) := by omega
      have h1 : k < a.size := by omega
      have h2 : k < b.size := by omega
      have i1 : (k : Int) < (a.size : Int) := by omega
      have i2 : (k : Int) < (b.size : Int) := by omega
      have HA := Lib.hid (HAT.out k h1 h2 HT.out)
      have HN := Lib.hid (HNX.out k h1 h2 HT.out)
      clear HAT HNX
      by_cases h3 : a[k].toNat = b[k].toNat
      · have he := UInt8.toNat_inj.1 h3
        go_wp2_with fail
        go_quiet (fail)
        go_wp2_with fail
        go_roundw
        case rel => exact ⟨k + 1, _, by omega, by go_num, HN.out he, by first | rfl | (rw [World.drewN_drewN])⟩
        case measure => simp [intOf]; omega
      · have h4 : ¬ (a[k].toNat : Int) = (b[k].toNat : Int) := by omega
        have h5 : ((a[k].toNat : Int) == (b[k].toNat : Int)) = false := by rw [beq_eq_false_iff_ne]; exact h4
        go_wp2_with fail
        go_quiet (fail)
        go_wp2_with fail
        go_ret
        exact ⟨ret_int' (HA.out (fun e => h3 (by rw [e]))), m + nq, World.drewN_drewN _ _ _⟩
    · obtain rfl : k = n := by omega
      go_wp2_with fail
      go_ret
      exact ⟨ret_int' (HEND.out HT.out), _, rfl⟩
theorem foll_nil (s : List UInt8) : follL [] s = decide (s.length ≤ 4096) := by simp [follL]
theorem foll_at {l : List ByteArray} {j : Nat} (hj : l.length = j + 1) (s : ByteArray) : follL (bytL2 l) s.data.toList = (decide (s.size ≤ 4096) && decide (cmpL (l[j]'(by omega)).data.toList s.data.toList < 0)) := by
  unfold follL
  rw [lenD, bytL2_length, decide_eq_false (p := l.length = 0) (by omega), Bool.false_or]
  have h1 : (bytL2 l).getLastD [] = (l[j]'(by omega)).data.toList := by
    rw [List.getLastD_eq_getLast?, List.getLast?_eq_getElem?, bytL2_length, show l.length - 1 = j by omega, List.getElem?_eq_getElem (by rw [bytL2_length]; omega), bytL2_get l j (by omega)]
    rfl
  rw [h1]
set_option maxHeartbeats 1000000 in
theorem ffollows_any {w : World} (l : List ByteArray) (s : ByteArray) {n : Nat} (hn : l.length = n) {lo hi c : Nat} {A : Option Addr} (h : Rd w lo hi A c (sv l)) (hs : s.size ≤ 9223372036854775807) :
    Calls Tryz.prog 122 #[.slice A n c, .string s] w fun r w' => r = .returned (.bool (follL (bytL2 l) s.data.toList)) ∧ w = w' := by
  have hl := h.len
  have hm := h.cap
  rw [sv_length] at hl
  unfold maxLen at hm
  by_cases h4 : s.size ≤ 4096
  · have i4 : (s.size : Int) ≤ 4096 := by omega
    have d4 : decide ((s.size : Int) ≤ 4096) = true := decide_eq_true i4
    rcases Nat.eq_zero_or_pos n with rfl | hp
    · obtain rfl : l = [] := List.eq_nil_of_length_eq_zero hn
      have hv : follL (bytL2 []) s.data.toList = true := by
        rw [show bytL2 [] = [] from rfl, foll_nil, lenD]
        exact decide_eq_true h4
      rw [hv]
      clear hn
      go_enter Tryz.func122, Tryz.ntmps122
      go_wp2
      go_ret
      exact ⟨rfl, rfl⟩
    · obtain ⟨j, rfl⟩ : ∃ j, n = j + 1 := ⟨n - 1, by omega⟩
      obtain ⟨b, off, rfl, _, _, hcell⟩ := h.str (k := j) (by omega)
      rw [foll_at hn s, decide_eq_true h4, Bool.true_and]
      have hless := less_str (l[j]'(by omega)) s
      generalize decide (cmpL (l[j]'(by omega)).data.toList s.data.toList < 0) = v at *
      generalize l[j]'(by omega) = x at *
      have hw1 : IntKind.i64.wrap (j : Int) = (j : Int) := IntWalk.i64_in _ (by omega)
      have b0 : (((j : Int) + 1) == 0) = false := by rw [beq_eq_false_iff_ne]; omega
      have n0 : ¬ ((j : Int) + 1) = 0 := by omega
      clear h hn
      go_enter Tryz.func122, Tryz.ntmps122
      go_wp2
      go_ret
      exact ⟨rfl, rfl⟩
  · have hv : follL (bytL2 l) s.data.toList = false := by
      unfold follL
      rw [lenD, decide_eq_false h4, Bool.false_and]
    rw [hv]
    have i4 : ¬ (s.size : Int) ≤ 4096 := by omega
    have d4 : decide ((s.size : Int) ≤ 4096) = false := decide_eq_false i4
    clear hn
    go_enter Tryz.func122, Tryz.ntmps122
    go_wp2
    go_ret
    exact ⟨rfl, rfl⟩
end Go.Proofs.YtmffpbhiehjlpaaGreat
namespace Go.Proofs.YtmffpbhiehjlpaaGreat
set_option linter.unusedSimpArgs false
set_option linter.unusedVariables false
open Go.RowKit
theorem append_ints_at (w : World) (base : Nat) (v : Value) (ys zs us : List Int) (hus : ys ++ zs = us) (hown : w.ownsRow base 3 1 v ys.length (iv ys)) {lo h' : Nat} {A : Option Addr} {c : Nat} (hr : Rd w lo h' A c (iv zs))
    (hb : ys.length + zs.length ≤ 17592186044416) (hbase : base ≤ w.heap.size) :
    ∃ A' c' w', (Builtin.append_ #[23, 23] 23 #[v, .slice A zs.length c]).run Tryz.prog w = .ok (.slice A' us.length c') w' ∧
      w'.ownsRow base 3 1 (.slice A' us.length c') us.length (iv us) ∧ w.grownBy w' v.ownBlock ∧ ((Value.slice A' us.length c').ownBlock = v.ownBlock ∨ (Value.slice A' us.length c').ownBlock = some w.heap.size) := by
  subst hus
  obtain ⟨i0, hi0, hz0, hz1, hz2⟩ := info_parts Tryz.infoI64
  have hl := iv_length zs
  obtain ⟨A', c', w', hrun, h2, h3, h4⟩ := run_append_rd (P := Tryz.prog) w base 23 23 3 i0 _ 8 Tryz.underlying23 hi0 hz0 hz1 hz2 rfl v ys.length (iv ys) hown lo h' A c (iv zs) hr (iv_one _)
    (by rw [hl]; simp only [maxLen]; omega) (by rw [hl]; omega) hbase
  rw [hl] at hrun h2 h4
  rw [List.length_append]
  exact ⟨A', c', w', hrun, by rw [iv_append]; exact h2, h3, h4⟩
theorem append_bytes_at (w : World) (base : Nat) (v : Value) (ys zs us : List UInt8) (hus : ys ++ zs = us) (hown : w.ownsRow base 5 1 v ys.length (bv ys)) {lo h' : Nat} {A : Option Addr} {c : Nat} (hr : Rd w lo h' A c (bv zs))
    (hb : ys.length + zs.length ≤ 140737488355328) (hbase : base ≤ w.heap.size) :
    ∃ A' c' w', (Builtin.append_ #[28, 28] 28 #[v, .slice A zs.length c]).run Tryz.prog w = .ok (.slice A' us.length c') w' ∧
      w'.ownsRow base 5 1 (.slice A' us.length c') us.length (bv us) ∧ w.grownBy w' v.ownBlock ∧ ((Value.slice A' us.length c').ownBlock = v.ownBlock ∨ (Value.slice A' us.length c').ownBlock = some w.heap.size) := by
  subst hus
  obtain ⟨i0, hi0, hz0, hz1, hz2⟩ := info_parts Tryz.infoU8
  have hl := bv_length zs
  obtain ⟨A', c', w', hrun, h2, h3, h4⟩ := run_append_rd (P := Tryz.prog) w base 28 28 5 i0 _ 1 Tryz.underlying28 hi0 hz0 hz1 hz2 rfl v ys.length (bv ys) hown lo h' A c (bv zs) hr (bv_one _)
    (by rw [hl]; simp only [maxLen]; omega) (by rw [hl]; omega) hbase
  rw [hl] at hrun h2 h4
  rw [List.length_append]
  exact ⟨A', c', w', hrun, by rw [bv_append]; exact h2, h3, h4⟩
structure SB (w : World) (lo hi : Nat) (u v : Value) (ss : List Nat) (bs : List UInt8) : Prop where
  o1 : w.ownsRow lo 3 1 u ss.length (iv (ints ss))
  o2 : w.ownsRow lo 5 1 v bs.length (bv bs)
  h1 : ∀ g, u.ownBlock = some g → g < hi
  h2 : ∀ g, v.ownBlock = some g → g < hi
  ap : ∀ g, u.ownBlock = some g → v.ownBlock = some g → False
section
variable {w w' : World} {lo hi : Nat} {u v : Value} {ss : List Nat} {bs : List UInt8}
theorem SB.nil (w : World) (lo hi : Nat) : SB w lo hi (.slice none 0 0) (.slice none 0 0) [] [] := ⟨World.ownsRow_nil .., World.ownsRow_nil .., fun _ h => (by cases h), fun _ h => (by cases h), fun _ h => (by cases h)⟩
theorem SB.top (h : SB w lo hi u v ss bs) : SB w lo w.heap.size u v ss bs := ⟨h.o1, h.o2, fun g hg => (own_lt h.o1 hg).2, fun g hg => (own_lt h.o2 hg).2, h.ap⟩
theorem SB.drewN (h : SB w lo hi u v ss bs) (m : Nat) : SB (w.drewN m) lo hi u v ss bs := ⟨own_keep h.o1 (fun _ _ => rfl), own_keep h.o2 (fun _ _ => rfl), h.h1, h.h2, h.ap⟩
theorem SB.below {B : Nat} (h : SB w lo hi u v ss bs) (hb : Below B w w') (hB : hi ≤ B) : SB w' lo hi u v ss bs :=
  ⟨own_keep h.o1 (fun k hk => hb.block k (by have := h.h1 k hk; omega)), own_keep h.o2 (fun k hk => hb.block k (by have := h.h2 k hk; omega)), h.h1, h.h2, h.ap⟩
theorem SB.grown {row : Option Nat} (h : SB w lo hi u v ss bs) (hg : w.grownBy w' row) (hr : ∀ g, row = some g → hi ≤ g) : SB w' lo hi u v ss bs :=
  ⟨own_keep h.o1 (fun k hk => hg.block k (own_lt h.o1 hk).2 (fun e => by have := h.h1 k hk; have := hr k e.symm; omega)), own_keep h.o2 (fun k hk => hg.block k (own_lt h.o2 hk).2 (fun e => by have := h.h2 k hk; have := hr k e.symm; omega)), h.h1, h.h2, h.ap⟩
theorem SB.push {A : Option Addr} {n c : Nat} (h : SB w lo hi (.slice A n c) v ss bs) (hn : n = ss.length) (hl : n ≤ 1000000000) (hlo : lo ≤ w.heap.size) :
    ∃ A' c' w', (Builtin.append_ #[23, 23] 23 #[.slice A n c, .slice (some ⟨w.heap.size, 0, none⟩) 1 1]).run Tryz.prog (w.alloc (.cells #[.int .i64 0] 3)) = .ok (.slice A' (n + 1) c') w' ∧
      SB w' lo w'.heap.size (.slice A' (n + 1) c') v (ss ++ [0]) bs ∧ Below lo w w' := by
  subst hn
  have hil := ints_length ss
  have h1 : (w.alloc (.cells #[.int .i64 0] 3)).ownsRow lo 3 1 (.slice A ss.length c) (ints ss).length (iv (ints ss)) := by rw [hil]; exact h.o1.alloc _
  obtain ⟨A', c', w', hrun, ho, hg, hb⟩ := append_ints_at (w.alloc (.cells #[.int .i64 0] 3)) lo (.slice A ss.length c) (ints ss) [0] (ints (ss ++ [0])) (by simp [ints]) h1 (rd_ints w 3 [0] #[.int .i64 0] rfl (by simp)) (by rw [hil]; simp; omega) (by simp; omega)
  rw [ints_length, List.length_append] at hrun ho hb
  have hv : v.ownBlock = none ∨ v.ownBlock ≠ (Value.slice A ss.length c).ownBlock := by
    cases hx : v.ownBlock with
    | none => exact Or.inl rfl
    | some g => exact Or.inr fun e => h.ap g e.symm hx
  have ho2 := (h.o2.alloc (.cells #[.int .i64 0] 3)).kept hg hv
  refine ⟨A', c', w', hrun, ⟨by rw [List.length_append]; exact ho, ho2, fun g hg2 => (own_lt ho hg2).2, fun g hg2 => (own_lt ho2 hg2).2, fun g hg2 hg3 => ?_⟩, ((Below.refl lo w).alloc hlo _).grown hg (by simp; omega) (fun g hg2 => (own_lt h.o1 hg2).1)⟩
  rcases hb with e | e
  · exact h.ap g (e.symm.trans hg2) hg3
  · have h3 := (own_lt h.o2 hg3).2
    have h4 : (Value.slice A' (ss.length + 1) c').ownBlock = some g := hg2
    have h5 : some g = some (w.alloc (.cells #[.int .i64 0] 3)).heap.size := h4.symm.trans e
    injection h5 with h5
    simp at h5
    omega
theorem SB.set {g n c : Nat} (h : SB w lo hi (.slice (some ⟨g, 0, none⟩) n c) v ss bs) (hn : n = ss.length) (i x : Nat) : SB (w.setCell ⟨g, i, none⟩ (.int .i64 (x : Int))) lo hi (.slice (some ⟨g, 0, none⟩) n c) v (ss.set i x) bs := by
  subst hn
  refine ⟨?_, ownsRow_setCell_other h.o2 (fun e => h.ap g rfl e) _, h.h1, h.h2, h.ap⟩
  have := (h.o1.stored i (.int .i64 (x : Int))).1
  rw [List.length_set]
  have e : iv (ints (ss.set i x)) = (iv (ints ss)).set i (.int .i64 (x : Int)) := by simp [iv, ints, List.map_set]
  rw [e]
  exact this
theorem SB.more {A B : Option Addr} {n c k d lo2 hi2 : Nat} {news all : List UInt8} (h : SB w lo hi u (.slice A n c) ss bs) (hn : n = bs.length) (hk : k = news.length) (ha : bs ++ news = all) (hr : Rd w lo2 hi2 B d (bv news)) (hl : n + k ≤ 140737488355328) (hlo : lo ≤ w.heap.size) :
    ∃ A' c' w', (Builtin.append_ #[28, 28] 28 #[.slice A n c, .slice B k d]).run Tryz.prog w = .ok (.slice A' (n + k) c') w' ∧ SB w' lo w'.heap.size u (.slice A' (n + k) c') ss all ∧ Below lo w w' := by
  subst hn hk
  obtain ⟨A', c', w', hrun, ho, hg, hb⟩ := append_bytes_at w lo (.slice A bs.length c) bs news all ha h.o2 hr hl hlo
  have hal : all.length = bs.length + news.length := by rw [← ha, List.length_append]
  rw [hal] at hrun ho hb
  have hu : u.ownBlock = none ∨ u.ownBlock ≠ (Value.slice A bs.length c).ownBlock := by
    cases hx : u.ownBlock with
    | none => exact Or.inl rfl
    | some g => exact Or.inr fun e => h.ap g hx e.symm
  have ho1 := h.o1.kept hg hu
  refine ⟨A', c', w', hrun, ⟨ho1, by rw [hal]; exact ho, fun g hg2 => (own_lt ho1 hg2).2, fun g hg2 => (own_lt ho hg2).2, fun g hg2 hg3 => ?_⟩, (Below.refl lo w).grown hg hlo (fun g hg2 => (own_lt h.o2 hg2).1)⟩
  rcases hb with e | e
  · exact h.ap g hg2 (e.symm.trans hg3)
  · have h3 := (own_lt h.o1 hg2).2
    have h5 : some g = some w.heap.size := hg3.symm.trans e
    injection h5 with h5
    omega
end
end Go.Proofs.YtmffpbhiehjlpaaGreat
namespace Go.Proofs.YtmffpbhiehjlpaaGreat
set_option linter.unusedSimpArgs false
set_option linter.unusedVariables false
open Go.RowKit
theorem refText_any {w : World} (s : ByteArray) (hs : s.size ≤ 100000) :
    Calls Tryz.prog 68 #[.string s] w fun r w' => ∃ A c, r = .returned (.slice A (textL s.data.toList).length c) ∧ w'.ownsRow w.heap.size 5 1 (.slice A (textL s.data.toList).length c) (textL s.data.toList).length (bv (textL s.data.toList)) ∧ Below w.heap.size w w' := by
  have h9 := putL_nine s.size (by omega)
  go_enter Tryz.func68, Tryz.ntmps68
  go_wp2_with fail
  refine (refPut_any s.size (by omega)).mono ?_
  rintro r w1 ⟨A, c, rfl, hown, hbel⟩
  have hcv := Lib.run_convert_string_bytes (P := Tryz.prog) w1 9 28 5 s Tryz.underlying9 Tryz.underlying28 Tryz.underlying5
  have hcap := grownCap_le_maxLen w1 s.size 0 5 (by simp only [maxLen]; omega)
  have hrd := bytesWorld_rd w1 5 s hcap
  have hb2 := bytesWorld_below w1 5 s (Nat.le_refl _)
  have hsz := hb2.size
  obtain ⟨A', c', w2, hrun, hown2, hg2⟩ := append_bytes (Lib.bytesWorld w1 5 s) w.heap.size _ _ s.data.toList (own_below hown hb2 (Nat.le_refl _)) hrd (by have : s.data.toList.length = s.size := rfl; omega) (by have := hbel.size; omega)
  have HO := Lib.hid hown
  have HO2 := Lib.hid hown2
  have HG2 := Lib.hid hg2
  have HB := Lib.hid hbel
  have HB2 := Lib.hid hb2
  clear hown hown2 hg2 hbel hb2 hrd
  go_wp2_with (at_builtin; refine wpList_append_run rfl _ _ _ _ rfl rfl rfl hrun ?_)
  go_ret
  have e : (textL s.data.toList).length = (putL s.size).length + s.data.toList.length := by simp [textL]
  refine ⟨A', c', by rw [e]; rfl, by rw [e]; exact HO2.out, ?_⟩
  refine (HB.out.trans (HB2.out.mono HB.out.size)).grown HG2.out (Nat.le_trans HB.out.size HB2.out.size) (fun k hk => (HO.out.lt k hk).1)
end Go.Proofs.YtmffpbhiehjlpaaGreat
