/-
  The project's Open of layer 2.
-/
import Derived.Test.YtbbclcokmmhkoaaCrcB
import Derived.Deep.RegionHeld3
import Derived.Lib.SliceRun
namespace Go.Proofs.Ytbbclcokmmhkoaa
set_option linter.unusedSimpArgs false
set_option linter.unusedVariables false
open Go.RowKit

theorem equal_any {w : World} {lo h' lo2 h2 : Nat} {A B : Option Addr} {c d : Nat} (xs ys : List UInt8) (hx : Rd w lo h' A c (bv xs)) (hy : Rd w lo2 h2 B d (bv ys)) :
    Calls Try.prog 17 #[.slice A xs.length c, .slice B ys.length d] w fun r w' => r = .returned (.bool (decide (xs = ys))) ∧ w = w' := by
  have h1 := run_string_rd (P := Try.prog) w 22 9 5 Try.underlying22 Try.underlying5 Try.underlying9 lo h' A c xs hx
  have h2 := run_string_rd (P := Try.prog) w 22 9 5 Try.underlying22 Try.underlying5 Try.underlying9 lo2 h2 B d ys hy
  clear hx hy
  go_enter Try.func17, Try.ntmps17
  go_wp2
  go_ret
  refine ⟨ret_bool ?_, rfl⟩
  by_cases h : xs = ys
  · simp [h]
  · simp [h]

theorem bclone_any {w : World} (bs : List UInt8) {lo h' : Nat} {A : Option Addr} {c : Nat} (h : Rd w lo h' A c (bv bs)) (hh : h' ≤ w.heap.size) (hb : bs.length ≤ 1000000000) :
    Calls Try.prog 18 #[.slice A bs.length c] w fun r w' => ∃ A' c', r = .returned (.slice A' bs.length c') ∧
      w'.ownsRow w.heap.size 5 1 (.slice A' bs.length c') bs.length (bv bs) ∧ Below w.heap.size w w' := by
  rcases A with _ | ad
  · obtain rfl : bs = [] := by
      rcases Nat.eq_zero_or_pos (bv bs).length with h0 | h0
      · exact List.eq_nil_of_length_eq_zero (by simpa [bv] using h0)
      · obtain ⟨_, _, h, _⟩ := h.at_ h0
        cases h
    clear h
    have hnil := Lib.run_eql_slice_nil (P := Try.prog) w 22 5 none 0 c 0 0 Try.underlying22
    go_enter Try.func18, Try.ntmps18
    go_wp2
    go_ret
    exact ⟨_, _, rfl, World.ownsRow_nil .., Below.refl _ _⟩
  · obtain ⟨A1, c1, w1, hrun, hown, hg1⟩ := append_named (w.alloc (.cells #[] 5)) w.heap.size (.slice (some ⟨w.heap.size, 0, none⟩) 0 0) [] bs bs (by simp) (own_lit w [] #[] rfl (by simp)) (h.alloc hh _) (by simp; omega) (by simp)
    have HO := Lib.hid hown
    have HG := Lib.hid hg1
    clear h hown hg1
    have hnil := Lib.run_eql_slice_nil (P := Try.prog) w 22 5 (some ad) bs.length c 0 0 Try.underlying22
    go_enter Try.func18, Try.ntmps18
    go_wp2_with (at_builtin; refine wpList_append_run rfl _ _ _ _ rfl rfl rfl hrun ?_)
    go_ret
    exact ⟨_, _, rfl, HO.out, ((Below.refl _ _).alloc (Nat.le_refl _) _).grown HG.out (by simp) (by simp [Value.ownBlock])⟩

set_option maxHeartbeats 400000 in
theorem open_short {w : World} (bs : List UInt8) {h' : Nat} {A : Option Addr} {c : Nat} (h : Rd w 0 h' A c (bv bs)) (hh : h' ≤ w.heap.size) (hb : bs.length < 4) :
    Calls Try.prog 14 #[.slice A bs.length c] w fun r w' => r = .returned (.tuple #[.slice none 0 0, .bool false]) ∧ Below w.heap.size w w' := by
  have hd : decide ((bs.length : Int) - 4 < 0) = true := by simp; omega
  go_enter Try.func14, Try.ntmps14
  go_wp2
  go_outline
  go_quiet (fail)
  go_wp2
  go_ret2
  exact ⟨rfl, below_drewN' (Below.refl _ _) _⟩

theorem equal_len {w : World} {lo h' lo2 h2 n m : Nat} {A B : Option Addr} {c d : Nat} (xs ys : List UInt8) (b : Bool) (hx : Rd w lo h' A c (bv xs)) (hy : Rd w lo2 h2 B d (bv ys)) (hn : xs.length = n) (hm : ys.length = m) (he : decide (xs = ys) = b) :
    Calls Try.prog 17 #[.slice A n c, .slice B m d] w fun r w' => r = .returned (.bool b) ∧ w = w' := by
  subst hn hm he
  exact equal_any xs ys hx hy
theorem seal_len {w : World} {n : Nat} (bs xs : List UInt8) {h' : Nat} {A : Option Addr} {c : Nat} (h : Rd w 0 h' A c (bv bs)) (hh : h' ≤ w.heap.size) (hn : n ≤ bs.length) (hx : bs.take n = xs) :
    Calls Try.prog 16 #[.slice A n c] w fun r w' => ∃ A' c', r = .returned (.slice A' 4 c') ∧
      w'.ownsRow w.heap.size 5 1 (.slice A' 4 c') 4 (bv (crcB (crcL xs))) ∧ Below w.heap.size w w' := by
  subst hx
  have h1 := seal_any (w := w) (bs.take n) (A := A) (c := c) (h' := h') (by rw [bv_take]; exact h.take_ n) hh
  rwa [List.length_take, Nat.min_eq_left hn] at h1
theorem bclone_len {w : World} {n : Nat} (bs xs : List UInt8) {h' : Nat} {A : Option Addr} {c : Nat} (h : Rd w 0 h' A c (bv bs)) (hh : h' ≤ w.heap.size) (hn : n ≤ bs.length) (hx : bs.take n = xs) (hb : bs.length ≤ 1000000000) :
    Calls Try.prog 18 #[.slice A n c] w fun r w' => ∃ A' c', r = .returned (.slice A' n c') ∧
      w'.ownsRow w.heap.size 5 1 (.slice A' n c') n (bv xs) ∧ Below w.heap.size w w' := by
  subst hx
  have h1 := bclone_any (w := w) (bs.take n) (A := A) (c := c) (h' := h') (by rw [bv_take]; exact h.take_ n) hh (by rw [List.length_take]; omega)
  rwa [List.length_take, Nat.min_eq_left hn] at h1
/-- what stands behind n bytes, as the walk writes it -/
theorem Rd.behind {w : World} {lo hi c n : Nat} {A : Option Addr} {bs : List UInt8} (h : Rd w lo hi A c (bv bs)) (hn : n < bs.length) : Rd w lo hi (Option.map (fun x => x.add n) A) (c - n) (bv (bs.drop n)) := by
  have hl := h.len
  rw [bv_length] at hl
  have h1 := h.cut (k := n) (n := bs.length) (by omega) (by rw [bv_length]; omega)
  rw [if_neg (by omega), List.take_of_length_le (by simp [bv])] at h1
  rw [bv_drop]
  exact h1

set_option maxHeartbeats 400000 in
theorem open_no {w : World} (bs : List UInt8) {h' : Nat} {A : Option Addr} {c : Nat} (h : Rd w 0 h' A c (bv bs)) (hh : h' ≤ w.heap.size) (hb : 4 ≤ bs.length) (hs : sealedB bs = false) :
    Calls Try.prog 14 #[.slice A bs.length c] w fun r w' => r = .returned (.tuple #[.slice none 0 0, .bool false]) ∧ Below w.heap.size w w' := by
  obtain ⟨n, hn⟩ : ∃ n, bs.length = n + 4 := ⟨bs.length - 4, by omega⟩
  have hd : decide ((n : Int) < 0) = false := by simp
  have hsub : (bs.length : Int) - 4 = (n : Int) := by omega
  have hl := h.len
  have hc := h.cap
  rw [bv_length] at hl
  unfold maxLen at hc
  have l1 : (0 : Int) ≤ (n : Int) := by omega
  have l2 : (n : Int) ≤ (bs.length : Int) := by omega
  have l3 : (n : Int) < (c : Int) := by omega
  have l4 : (bs.length : Int) ≤ (c : Int) := by omega
  have l5 : n < c := by omega
  have l6 : (n : Int) ≤ (c : Int) := by omega
  have l7 : n ≤ c := by omega
  have HE : Hid (decide (bs.drop n = crcB (crcL (bs.take n))) = false) := by
    unfold Hid
    unfold sealedB at hs
    rw [decide_eq_true hb, Bool.true_and, show bs.length - 4 = n from by omega] at hs
    exact hs
  have HN := Lib.hid hn
  have H := Lib.hid h
  clear h hn hs
  go_enter Try.func14, Try.ntmps14
  go_wp2
  go_region_held3 (fun _ => True) (trivial) (first
    | (go_at_call 16; refine (seal_len bs (bs.take n) H.out.drew hh (by omega) rfl).mono ?_; rintro r w1 ⟨A3, c3, rfl, hown, hb1⟩; have HO := Lib.hid hown; have HB := Lib.hid hb1; clear hown hb1)
    | (go_at_call 17; refine (equal_len (bs.drop n) (crcB (crcL (bs.take n))) false ((H.out.drew.below HB.out hh).behind (by have := HN.out; omega)) (Rd.own HO.out) (by rw [List.length_drop]) (crcB_length _) HE.out).mono ?_; rintro r w2 ⟨rfl, rfl⟩))
  go_wp2
  go_ret2
  exact ⟨rfl, below_below (Below.drew (Below.refl w.heap.size w)) HB.out (Nat.le_refl _)⟩

set_option maxHeartbeats 400000 in
theorem open_yes {w : World} (bs : List UInt8) {h' : Nat} {A : Option Addr} {c : Nat} (h : Rd w 0 h' A c (bv bs)) (hh : h' ≤ w.heap.size) (hs : sealedB bs = true) (hbig : bs.length ≤ 1000000000) :
    Calls Try.prog 14 #[.slice A bs.length c] w fun r w' => ∃ A' c', r = .returned (.tuple #[.slice A' (bs.length - 4) c', .bool true]) ∧
      w'.ownsRow w.heap.size 5 1 (.slice A' (bs.length - 4) c') (bs.length - 4) (bv (bs.take (bs.length - 4))) ∧ Below w.heap.size w w' := by
  have hb : 4 ≤ bs.length := by
    unfold sealedB at hs
    simp only [Bool.and_eq_true, decide_eq_true_eq] at hs
    exact hs.1
  obtain ⟨n, hn⟩ : ∃ n, bs.length = n + 4 := ⟨bs.length - 4, by omega⟩
  have hd : decide ((n : Int) < 0) = false := by simp
  have hsub : (bs.length : Int) - 4 = (n : Int) := by omega
  have hl := h.len
  have hc := h.cap
  rw [bv_length] at hl
  unfold maxLen at hc
  have l1 : (0 : Int) ≤ (n : Int) := by omega
  have l2 : (n : Int) ≤ (bs.length : Int) := by omega
  have l3 : (n : Int) < (c : Int) := by omega
  have l4 : (bs.length : Int) ≤ (c : Int) := by omega
  have l5 : n < c := by omega
  have l6 : (n : Int) ≤ (c : Int) := by omega
  have l7 : n ≤ c := by omega
  have HE : Hid (decide (bs.drop n = crcB (crcL (bs.take n))) = true) := by
    unfold Hid
    unfold sealedB at hs
    rw [decide_eq_true hb, Bool.true_and, show bs.length - 4 = n from by omega] at hs
    exact hs
  have HN := Lib.hid hn
  have H := Lib.hid h
  clear h hn hs
  go_enter Try.func14, Try.ntmps14
  go_wp2
  go_region_held3 (fun _ => True) (trivial) (first
    | (go_at_call 16; refine (seal_len bs (bs.take n) H.out.drew hh (by omega) rfl).mono ?_; rintro r w1 ⟨A3, c3, rfl, hown, hb1⟩; have HO := Lib.hid hown; have HB := Lib.hid hb1; clear hown hb1)
    | (go_at_call 17; refine (equal_len (bs.drop n) (crcB (crcL (bs.take n))) true ((H.out.drew.below HB.out hh).behind (by have := HN.out; omega)) (Rd.own HO.out) (by rw [List.length_drop]) (crcB_length _) HE.out).mono ?_; rintro r w2 ⟨rfl, rfl⟩))
  have k1 := below_below (Below.drew (Below.refl w.heap.size w)) HB.out (Nat.le_refl _)
  have K1 := Lib.hid k1
  have s1 := k1.size
  clear k1
  go_wp2_with fail
  refine (bclone_len bs (bs.take n) (H.out.below K1.out hh) (by omega) (by omega) rfl hbig).mono ?_
  rintro r w2 ⟨A4, c4, rfl, hown4, hb4⟩
  have HO4 := Lib.hid hown4
  have HB4 := Lib.hid hb4
  clear hown4 hb4
  go_wp2
  go_ret2
  have e : bs.length - 4 = n := by have := HN.out; omega
  rw [e]
  exact ⟨A4, c4, rfl, own_base HO4.out s1, below_below K1.out HB4.out s1⟩
end Go.Proofs.Ytbbclcokmmhkoaa
