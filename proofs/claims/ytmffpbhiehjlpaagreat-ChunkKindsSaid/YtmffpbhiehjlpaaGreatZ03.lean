/-
  The cursor's Fail and take.
  The cursor's Fail, whatever stands there; take in plain.
  Tables taken from bytes, in plain.
  Numbers of one width in plain: their sum, its bytes, and back. No program is named here.
-/
import Derived.Test.YtmffpbhiehjlpaaGreatZ02
import Derived.Lib.Hide
import Derived.Test.YtmffpbhiehjlpaaGreatZ01
import Derived.Test.YtmffpbhiehjlpaaGreatZ00
namespace Go.Proofs.YtmffpbhiehjlpaaGreat
set_option linter.unusedSimpArgs false
set_option linter.unusedVariables false
open Go.RowKit
theorem Cur.setErr {w : World} {lo g k : Nat} {bs : List UInt8} {e : Int} (h : Cur w lo g bs k e) (x : Int) : Cur (w.setCell ⟨g, 2, none⟩ (.int .i64 x)) lo g bs k x := by
  obtain ⟨A, c, hb, hrd, hk, hl⟩ := h
  exact ⟨A, c, by simpa using hb.put 2 (.int .i64 x), hrd.setCell (p := ⟨g, 2, none⟩) (.inr (Nat.le_refl _)) _, hk, hl⟩
theorem Cur.setPlace {w : World} {lo g k : Nat} {bs : List UInt8} {e : Int} (h : Cur w lo g bs k e) (x : Nat) (hx : x ≤ bs.length) : Cur (w.setCell ⟨g, 1, none⟩ (.int .i64 (x : Int))) lo g bs x e := by
  obtain ⟨A, c, hb, hrd, hk, hl⟩ := h
  exact ⟨A, c, by simpa using hb.put 1 (.int .i64 (x : Int)), hrd.setCell (p := ⟨g, 1, none⟩) (.inr (Nat.le_refl _)) _, hx, hl⟩
theorem fail_good {w : World} {lo g k : Nat} {bs : List UInt8} (x : Int) (h : Cur w lo g bs k 0) :
    Calls Tryz.prog 51 #[cp g, .int .i64 x] w fun r w' => r = .returned (.tuple #[]) ∧ w.setCell ⟨g, 2, none⟩ (.int .i64 x) = w' := by
  have hg := good_any h
  obtain ⟨A, c, hb, -, -, -⟩ := h
  have h2 := hb.cell 2
  have hf := hb.frozen 2
  simp at h2
  clear hb
  unfold cp at hg ⊢
  go_enter Tryz.func51, Tryz.ntmps51
  go_wp2_with fail
  refine hg.mono ?_
  rintro e w' ⟨rfl, rfl⟩
  go_wp2_with fail
  go_end0
  exact ⟨rfl, rfl⟩
theorem fail_bad {w : World} {lo g k : Nat} {bs : List UInt8} {e : Int} (x : Int) (h : Cur w lo g bs k e) (he : e ≠ 0) :
    Calls Tryz.prog 51 #[cp g, .int .i64 x] w fun r w' => r = .returned (.tuple #[]) ∧ w = w' := by
  have hg := good_any h
  have h0 : (e == 0) = false := by simpa using he
  rw [h0] at hg
  clear h h0 he
  unfold cp at hg ⊢
  go_enter Tryz.func51, Tryz.ntmps51
  go_wp2_with fail
  refine hg.mono ?_
  rintro e w' ⟨rfl, rfl⟩
  go_wp2_with fail
  go_end0
  exact ⟨rfl, rfl⟩
def takeR (bs : List UInt8) (k : Nat) (e : Int) (skip : Nat) (n : Int) : List UInt8 × Nat × Int :=
  if e ≠ 0 then ([], k, e) else if n < 0 then ([], k, 3) else if (bs.length : Int) - k - skip < n then ([], k, 2) else ((bs.drop (k + skip)).take n.toNat, k + skip + n.toNat, 0)
theorem take_bad {w : World} {lo g k : Nat} {bs : List UInt8} {e : Int} (skip : Nat) (n : Int) (h : Cur w lo g bs k e) (he : e ≠ 0) (hs : skip ≤ bs.length) (h63 : bs.length ≤ maxLen) :
    Calls Tryz.prog 73 #[cp g, .int .i64 (skip : Int), .int .i64 n] w fun r w' => r = .returned (.slice none 0 0) ∧ ∃ m, w.drewN m = w' := by
  have h0 : (e == 0) = false := by simpa using he
  unfold maxLen at h63
  have hk : (bs.length - k : Nat) ≤ bs.length := by omega
  have H := Lib.hid h
  have HE := Lib.hid he
  clear h he
  unfold cp
  go_enter Tryz.func73, Tryz.ntmps73
  go_wp2_with (first
    | (go_at_call 51; refine (fail_bad _ (by first | exact H.out | exact H.out.drewN _) HE.out).mono ?_; rintro e w' ⟨rfl, rfl⟩)
    | (go_at_call 34; refine (left_any (by first | exact H.out | exact H.out.drewN _)).mono ?_; rintro e w' ⟨rfl, ⟨m, rfl⟩⟩)
    | (go_at_call 27; refine (good_any (by first | exact H.out | exact H.out.drewN _)).mono ?_; rintro e w' ⟨rfl, rfl⟩))
  all_goals go_ret
  all_goals exact ⟨rfl, _, rfl⟩
theorem take_neg {w : World} {lo g k : Nat} {bs : List UInt8} (skip : Nat) (n : Int) (h : Cur w lo g bs k 0) (hn : n < 0) (hs : k + skip ≤ bs.length) (h63 : bs.length ≤ maxLen) :
    Calls Tryz.prog 73 #[cp g, .int .i64 (skip : Int), .int .i64 n] w fun r w' => r = .returned (.slice none 0 0) ∧ ∃ m, (w.setCell ⟨g, 2, none⟩ (.int .i64 3)).drewN m = w' := by
  unfold maxLen at h63
  have hk : skip ≤ (bs.length - k : Nat) := by omega
  have hk' : (bs.length - k : Nat) ≤ bs.length := by omega
  have H := Lib.hid h
  have H' := Lib.hid (h.setErr 3)
  clear h
  unfold cp
  go_enter Tryz.func73, Tryz.ntmps73
  go_wp2_with (first
    | (go_at_call 51; refine (fail_good _ H.out).mono ?_; rintro e w' ⟨rfl, rfl⟩)
    | (go_at_call 34; refine (left_any (by first | exact H'.out | exact H'.out.drewN _)).mono ?_; rintro e w' ⟨rfl, ⟨m, rfl⟩⟩)
    | (go_at_call 27; refine (good_any (by first | exact H'.out | exact H'.out.drewN _)).mono ?_; rintro e w' ⟨rfl, rfl⟩))
  all_goals go_ret
  all_goals exact ⟨rfl, _, rfl⟩
theorem take_over {w : World} {lo g k : Nat} {bs : List UInt8} (skip : Nat) (n : Int) (h : Cur w lo g bs k 0) (hn : 0 ≤ n) (hov : ((bs.length - k : Nat) : Int) - skip < n) (hs : k + skip ≤ bs.length) (h63 : bs.length ≤ maxLen) :
    Calls Tryz.prog 73 #[cp g, .int .i64 (skip : Int), .int .i64 n] w fun r w' => r = .returned (.slice none 0 0) ∧ ∃ m, (w.setCell ⟨g, 2, none⟩ (.int .i64 2)).drewN m = w' := by
  unfold maxLen at h63
  have hk : skip ≤ (bs.length - k : Nat) := by omega
  have hk' : (bs.length - k : Nat) ≤ bs.length := by omega
  have H := Lib.hid h
  have H' := Lib.hid (h.setErr 2)
  clear h
  unfold cp
  go_enter Tryz.func73, Tryz.ntmps73
  go_wp2_with (first
    | (go_at_call 51; refine (fail_good _ (H.out.drewN _)).mono ?_; rintro e w' ⟨rfl, rfl⟩)
    | (go_at_call 34; refine (left_any H.out).mono ?_; rintro e w' ⟨rfl, ⟨m, rfl⟩⟩)
    | (go_at_call 27; refine (good_any (by first | exact H'.out | exact H'.out.drewN _)).mono ?_; rintro e w' ⟨rfl, rfl⟩))
  all_goals go_ret
  all_goals exact ⟨rfl, _, rfl⟩
theorem take_ok {w : World} {lo g k : Nat} {bs : List UInt8} {A : Option Addr} {c : Nat} (skip n : Nat) (hb : Blk w g 86 #[.slice A bs.length c, .int .i64 (k : Int), .int .i64 0]) (hrd : Rd w lo g A c (bv bs)) (hs : k + skip + n ≤ bs.length) (hl : lo ≤ g) :
    Calls Tryz.prog 73 #[cp g, .int .i64 (skip : Int), .int .i64 (n : Int)] w fun r w' => r = .returned (.slice (if c = k + skip then A else A.map (·.add (k + skip))) n (c - (k + skip))) ∧ ∃ m m', ((w.drewN m).setCell ⟨g, 1, none⟩ (.int .i64 ((k : Int) + skip + n))).drewN m' = w' := by
  have h63 := hrd.cap
  have hlc := hrd.len
  rw [bv_length] at hlc
  unfold maxLen at h63
  have h : Cur w lo g bs k 0 := ⟨A, c, hb, hrd, by omega, hl⟩
  have hk : skip + n ≤ (bs.length - k : Nat) := by omega
  have hk' : (bs.length - k : Nat) ≤ bs.length := by omega
  have H := Lib.hid h
  have h0 := hb.cell 0
  have h1 := hb.cell 1
  have hf := hb.frozen 1
  simp at h0 h1
  have hn0 : ¬ ((n : Int) < 0) := by omega
  have hle : (n : Int) ≤ ((bs.length - k : Nat) : Int) - (skip : Int) := by omega
  clear h hb hrd
  unfold cp
  go_enter Tryz.func73, Tryz.ntmps73
  go_wp2_with (first
    | (go_at_call 34; refine (left_any H.out).mono ?_; rintro e w' ⟨rfl, ⟨m, rfl⟩⟩)
    | (go_at_call 27; refine (good_any (by first | exact H.out | exact H.out.drewN _)).mono ?_; rintro e w' ⟨rfl, rfl⟩))
  go_quiet (fail)
  all_goals go_wp2
  all_goals go_ret
  all_goals refine ⟨?_, _, _, rfl⟩
  all_goals (rename_i hcc; simp [hcc])
theorem take_any {w : World} {lo g k : Nat} {bs : List UInt8} {e : Int} (skip : Nat) (n : Int) (h : Cur w lo g bs k e) (hs : k + skip ≤ bs.length) :
    Calls Tryz.prog 73 #[cp g, .int .i64 (skip : Int), .int .i64 n] w fun r w' => ∃ A c, r = .returned (.slice A (takeR bs k e skip n).1.length c) ∧
      Rd w' lo g A c (bv (takeR bs k e skip n).1) ∧ Cur w' lo g bs (takeR bs k e skip n).2.1 (takeR bs k e skip n).2.2 ∧ w.grownBy w' (some g) := by
  have h63 : bs.length ≤ maxLen := by
    obtain ⟨A, c, _, hrd, _⟩ := h
    have h1 := hrd.len
    have h2 := hrd.cap
    rw [bv_length] at h1
    omega
  by_cases he : e = 0
  · subst he
    by_cases hn : n < 0
    · rw [show takeR bs k 0 skip n = ([], k, 3) from by simp [takeR, hn]]
      refine (take_neg skip n h hn hs h63).mono ?_
      rintro r w' ⟨rfl, m, rfl⟩
      exact ⟨_, _, rfl, Rd.nil _ _ _, (h.setErr 3).drewN m, gb_drewN (gb_setCell (gb_refl w _) (.inl rfl) _) m⟩
    · by_cases hov : (bs.length : Int) - k - skip < n
      · rw [show takeR bs k 0 skip n = ([], k, 2) from by simp [takeR, hn, hov]]
        refine (take_over skip n h (by omega) (by have : k ≤ bs.length := by omega
                                                  rw [Int.ofNat_sub this]; exact hov) hs h63).mono ?_
        rintro r w' ⟨rfl, m, rfl⟩
        exact ⟨_, _, rfl, Rd.nil _ _ _, (h.setErr 2).drewN m, gb_drewN (gb_setCell (gb_refl w _) (.inl rfl) _) m⟩
      · obtain ⟨j, rfl⟩ := Int.eq_ofNat_of_zero_le (show 0 ≤ n by omega)
        have hj : k + skip + j ≤ bs.length := by omega
        rw [show takeR bs k 0 skip (j : Int) = ((bs.drop (k + skip)).take j, k + skip + j, 0) from by simp [takeR, hov]]
        obtain ⟨A, c, hb, hrd, hk, hl⟩ := h
        refine (take_ok skip j hb hrd hj hl).mono ?_
        rintro r w' ⟨rfl, m, m', rfl⟩
        have hcur : Cur w lo g bs k 0 := ⟨A, c, hb, hrd, hk, hl⟩
        have hcut := (hrd.drewN m).setCell (p := ⟨g, 1, none⟩) (.inr (Nat.le_refl _)) (.int .i64 ((k : Int) + skip + j))
        have hcut2 := (hcut.cut (k := k + skip) (n := k + skip + j) (by omega) (by rw [bv_length]; exact hj)).drewN m'
        rw [show k + skip + j - (k + skip) = j from by omega, ← bv_drop, ← bv_take] at hcut2
        have hlen : ((bs.drop (k + skip)).take j).length = j := by simp; omega
        refine ⟨_, _, by rw [hlen], hcut2, ?_, gb_drewN (gb_setCell (gb_drewN (gb_refl w _) m) (.inl rfl) _) m'⟩
        have := ((hcur.drewN m).setPlace (k + skip + j) hj).drewN m'
        simpa using this
  · rw [show takeR bs k e skip n = ([], k, e) from by simp [takeR, he]]
    refine (take_bad skip n h he (by omega) h63).mono ?_
    rintro r w' ⟨rfl, m, rfl⟩
    exact ⟨_, _, rfl, Rd.nil _ _ _, h.drewN m, gb_drewN (gb_refl w _) m⟩
end Go.Proofs.YtmffpbhiehjlpaaGreat
namespace Go.Proofs.YtmffpbhiehjlpaaGreat
set_option linter.unusedSimpArgs false
set_option linter.unusedVariables false
open Go.RowKit
theorem fail_any {w : World} {lo g k : Nat} {bs : List UInt8} {e : Int} (x : Int) (h : Cur w lo g bs k e) :
    Calls Tryz.prog 51 #[cp g, .int .i64 x] w fun r w' => r = .returned (.tuple #[]) ∧ Cur w' lo g bs k (if e = 0 then x else e) ∧ w.grownBy w' (some g) := by
  by_cases he : e = 0
  · subst he
    rw [if_pos rfl]
    refine (fail_good x h).mono ?_
    rintro r w' ⟨rfl, rfl⟩
    exact ⟨rfl, h.setErr x, gb_setCell (gb_refl w _) (.inl rfl) _⟩
  · rw [if_neg he]
    refine (fail_bad x h he).mono ?_
    rintro r w' ⟨rfl, rfl⟩
    exact ⟨rfl, h, gb_refl w _⟩
theorem takeR_full (bs : List UInt8) (k : Nat) (e : Int) (s : Nat) (h : (takeR bs k e 0 (s : Int)).2.2 = 0) : (takeR bs k e 0 (s : Int)).1.length = s := by
  unfold takeR at h ⊢
  by_cases h1 : e ≠ 0
  · rw [if_pos h1] at h; exact absurd h h1
  · rw [if_neg h1] at h ⊢
    by_cases h2 : (s : Int) < 0
    · omega
    · rw [if_neg h2] at h ⊢
      by_cases h3 : (bs.length : Int) - k - ((0 : Nat) : Int) < s
      · rw [if_pos h3] at h; simp at h
      · rw [if_neg h3]
        simp only [List.length_take, List.length_drop, Int.toNat_natCast]
        omega
theorem gb_more {a w w' : World} {g x : Nat} (h : a.grownBy w (some g)) (h2 : w.grownBy w' (some x)) (hx : a.heap.size ≤ x) : a.grownBy w' (some g) :=
  ⟨h2.os.trans h.os, h2.tape.trans h.tape, h2.output.trans h.output, Nat.le_trans h.size h2.size, fun i hi hne =>
    (h2.block i (Nat.lt_of_lt_of_le hi h.size) (fun e => by injection e with e; omega)).trans (h.block i hi hne)⟩
theorem takeR_short (bs : List UInt8) (k n : Nat) (h : bs.length < k + n) : takeR bs k 0 0 (n : Int) = ([], k, 2) := by
  have h1 : ¬ ((n : Int) < 0) := by omega
  have h2 : (bs.length : Int) - k - ((0 : Nat) : Int) < n := by omega
  unfold takeR
  rw [if_neg (by simp), if_neg h1, if_pos h2]
theorem takeR_fit (bs : List UInt8) (k n : Nat) (h : k + n ≤ bs.length) : takeR bs k 0 0 (n : Int) = ((bs.drop k).take n, k + n, 0) := by
  have h1 : ¬ ((n : Int) < 0) := by omega
  have h2 : ¬ ((bs.length : Int) - k - ((0 : Nat) : Int) < n) := by omega
  unfold takeR
  rw [if_neg (by simp), if_neg h1, if_neg h2]
  simp
end Go.Proofs.YtmffpbhiehjlpaaGreat
namespace Go.Proofs.YtmffpbhiehjlpaaGreat
set_option linter.unusedSimpArgs false
set_option linter.unusedVariables false
def sizeOk (n : Nat) : Bool := decide (1 ≤ (n : Int)) && decide ((n : Int) ≤ 8)
theorem sizeOk_iff {n : Nat} : sizeOk n = true ↔ 1 ≤ n ∧ n ≤ 8 := by
  unfold sizeOk
  rw [Bool.and_eq_true, decide_eq_true_eq, decide_eq_true_eq]
  omega
def gstep (bs : List UInt8) (p : Nat) (e : Int) (last : List UInt8) : List UInt8 × Nat × Int :=
  let r := takeR bs p e 0 1
  let n := (r.1.headD 0).toNat
  let e2 := if sizeOk n = true then r.2.2 else orForm r.2.2
  let q := takeR bs r.2.1 e2 0 n
  (q.1, q.2.1, if folL last q.1 = true then q.2.2 else orForm q.2.2)
def getF (bs : List UInt8) : Nat → Nat → Int → List UInt8 → List (List UInt8) × Nat × Int
  | 0, p, e, _ => ([], p, e)
  | n + 1, p, e, last => ((gstep bs p e last).1 :: (getF bs n (gstep bs p e last).2.1 (gstep bs p e last).2.2 (gstep bs p e last).1).1, (getF bs n (gstep bs p e last).2.1 (gstep bs p e last).2.2 (gstep bs p e last).1).2)
theorem takeR_bad (bs : List UInt8) (k : Nat) {e : Int} (n : Int) (h : e ≠ 0) : takeR bs k e 0 n = ([], k, e) := by simp [takeR, h]
theorem gstep_bad (bs : List UInt8) (p : Nat) {e : Int} (last : List UInt8) (h : e ≠ 0) : gstep bs p e last = ([], p, e) := by
  unfold gstep
  simp only [takeR_bad bs p _ h, orForm_bad h, ite_self]
theorem getF_bad (bs : List UInt8) : ∀ (n p : Nat) {e : Int} (last : List UInt8), e ≠ 0 → (getF bs n p e last).2 = (p, e)
  | 0, p, e, last, _ => rfl
  | n + 1, p, e, last, h => by
    unfold getF
    simp only [gstep_bad bs p last h]
    exact getF_bad bs n p [] h
theorem takeR_byte {bs : List UInt8} {p : Nat} (h : p < bs.length) : takeR bs p 0 0 1 = ([bs[p]], p + 1, 0) := by
  rw [show (1 : Int) = ((1 : Nat) : Int) from rfl, takeR_fit bs p 1 (by omega)]
  congr 1
  rw [List.drop_eq_getElem_cons h]
  rfl
theorem gstep_end {bs : List UInt8} {p : Nat} (last : List UInt8) (h : bs.length ≤ p) : gstep bs p 0 last = ([], p, 2) := by
  have h1 : takeR bs p 0 0 1 = ([], p, 2) := by
    rw [show (1 : Int) = ((1 : Nat) : Int) from rfl]
    exact takeR_short bs p 1 (by omega)
  unfold gstep
  simp only [h1]
  have h2 : sizeOk (([] : List UInt8).headD 0).toNat = false := rfl
  have h3 : orForm 2 = 2 := rfl
  simp only [h2, h3, Bool.false_eq_true, if_false, takeR_bad bs p _ (show (2 : Int) ≠ 0 by decide), ite_self]
theorem gstep_short {bs : List UInt8} {p : Nat} (last : List UInt8) (h : p < bs.length) (ho : sizeOk bs[p].toNat = true) (hs : bs.length < p + 1 + bs[p].toNat) : gstep bs p 0 last = ([], p + 1, 2) := by
  unfold gstep
  simp only [takeR_byte h, List.headD_cons, ho, if_true, takeR_short bs (p + 1) _ hs]
  have h3 : orForm 2 = 2 := rfl
  simp only [h3, ite_self]
theorem gstep_size {bs : List UInt8} {p : Nat} (last : List UInt8) (h : p < bs.length) (ho : sizeOk bs[p].toNat = false) : gstep bs p 0 last = ([], p + 1, 3) := by
  unfold gstep
  have h3 : orForm 0 = 3 := rfl
  have h4 : orForm 3 = 3 := rfl
  simp only [takeR_byte h, List.headD_cons, ho, Bool.false_eq_true, if_false, h3, takeR_bad bs (p + 1) _ (show (3 : Int) ≠ 0 by decide), h4, ite_self]
theorem gstep_fit {bs : List UInt8} {p : Nat} (last : List UInt8) (h : p < bs.length) (ho : sizeOk bs[p].toNat = true) (hs : p + 1 + bs[p].toNat ≤ bs.length) :
    gstep bs p 0 last = ((bs.drop (p + 1)).take bs[p].toNat, p + 1 + bs[p].toNat, if folL last ((bs.drop (p + 1)).take bs[p].toNat) = true then 0 else 3) := by
  unfold gstep
  simp only [takeR_byte h, List.headD_cons, ho, if_true, takeR_fit bs (p + 1) _ hs]
  rfl
def symB (t : List (List UInt8)) : List UInt8 := t.flatMap fun s => UInt8.ofNat s.length :: s
theorem symB_cons (s : List UInt8) (t : List (List UInt8)) : symB (s :: t) = UInt8.ofNat s.length :: (s ++ symB t) := by simp [symB]
theorem putT_symB (t : List (List UInt8)) : putT t = UInt8.ofNat t.length :: symB t := rfl
theorem getF_good {bs : List UInt8} : ∀ (n p : Nat) (last : List UInt8) {t : List (List UInt8)} {q : Nat}, getF bs n p 0 last = (t, q, 0) → p ≤ bs.length →
    t.length = n ∧ (∀ s ∈ t, okS s = true) ∧ risesL (last :: t) = true ∧ p ≤ q ∧ q ≤ bs.length ∧ (bs.drop p).take (q - p) = symB t
  | 0, p, last, t, q, h, hp => by
    simp only [getF, Prod.mk.injEq, and_true] at h
    obtain ⟨rfl, rfl⟩ := h
    exact ⟨rfl, fun s hs => (by cases hs), rfl, Nat.le_refl _, hp, by simp [symB]⟩
  | n + 1, p, last, t, q, h, hp => by
    by_cases h1 : p < bs.length
    · cases ho : sizeOk bs[p].toNat with
      | false =>
        exfalso
        unfold getF at h
        simp only [gstep_size last h1 ho] at h
        have := getF_bad bs n (p + 1) (e := 3) [] (by decide)
        rw [this] at h
        simp at h
      | true =>
        by_cases hs : p + 1 + bs[p].toNat ≤ bs.length
        · obtain ⟨s, hse⟩ : ∃ s, (bs.drop (p + 1)).take bs[p].toNat = s := ⟨_, rfl⟩
          have hsl : s.length = bs[p].toNat := by rw [← hse, List.length_take, List.length_drop]; omega
          cases hf : folL last s with
          | false =>
            exfalso
            unfold getF at h
            simp only [gstep_fit last h1 ho hs, hse, hf, Bool.false_eq_true, if_false] at h
            have := getF_bad bs n (p + 1 + bs[p].toNat) (e := 3) s (by decide)
            rw [this] at h
            simp at h
          | true =>
            unfold getF at h
            simp only [gstep_fit last h1 ho hs, hse, hf, if_true] at h
            obtain ⟨R, hR⟩ : ∃ R, getF bs n (p + 1 + bs[p].toNat) 0 s = R := ⟨_, rfl⟩
            rw [hR] at h
            obtain ⟨t', q', e'⟩ := R
            simp only [Prod.mk.injEq] at h
            obtain ⟨rfl, rfl, rfl⟩ := h
            obtain ⟨i1, i2, i3, i4, i5, i6⟩ := getF_good n (p + 1 + bs[p].toNat) s hR hs
            rw [folL, Bool.and_eq_true, decide_eq_true_eq] at hf
            refine ⟨by rw [List.length_cons, i1], fun x hx => ?_, rises_cons.2 ⟨hf.2, i3⟩, by omega, i5, ?_⟩
            · rcases List.mem_cons.1 hx with rfl | hx
              · exact hf.1
              · exact i2 x hx
            · rw [symB_cons, ← i6, hsl]
              have hx : UInt8.ofNat bs[p].toNat = bs[p] := by simp
              rw [hx, List.drop_eq_getElem_cons h1]
              obtain ⟨d, hd⟩ : ∃ d, q' - p = d + 1 := ⟨q' - p - 1, by omega⟩
              rw [hd, List.take_succ_cons]
              congr 1
              have hd2 : d = bs[p].toNat + (q' - (p + 1 + bs[p].toNat)) := by omega
              rw [hd2, List.take_add, hse, List.drop_drop]
        · exfalso
          unfold getF at h
          simp only [gstep_short last h1 ho (by omega)] at h
          have := getF_bad bs n (p + 1) (e := 2) [] (by decide)
          rw [this] at h
          simp at h
    · exfalso
      unfold getF at h
      simp only [gstep_end last (Nat.le_of_not_lt h1)] at h
      have := getF_bad bs n p (e := 2) [] (by decide)
      rw [this] at h
      simp at h
theorem rises_nil {t : List (List UInt8)} (h : ∀ s ∈ t, okS s = true) (hr : risesL t = true) : risesL ([] :: t) = true := by
  cases t with
  | nil => rfl
  | cons s t =>
    refine rises_cons.2 ⟨?_, hr⟩
    have := (okS_iff.1 (h s List.mem_cons_self)).1
    cases s with
    | nil => simp at this
    | cons => simp [cmpL]
theorem gstep_put {pre s post : List UInt8} {last : List UInt8} (ho : okS s = true) (hr : cmpL last s < 0) : gstep (pre ++ UInt8.ofNat s.length :: (s ++ post)) pre.length 0 last = (s, pre.length + 1 + s.length, 0) := by
  obtain ⟨h1, h2⟩ := okS_iff.1 ho
  have hp : pre.length < (pre ++ UInt8.ofNat s.length :: (s ++ post)).length := by simp
  have hx : (pre ++ UInt8.ofNat s.length :: (s ++ post))[pre.length] = UInt8.ofNat s.length := by simp
  have hn : (UInt8.ofNat s.length).toNat = s.length := by simp; omega
  have hd : ((pre ++ UInt8.ofNat s.length :: (s ++ post)).drop (pre.length + 1)).take s.length = s := by
    rw [show pre ++ UInt8.ofNat s.length :: (s ++ post) = (pre ++ [UInt8.ofNat s.length]) ++ (s ++ post) by simp, show pre.length + 1 = (pre ++ [UInt8.ofNat s.length]).length by simp, List.drop_left, List.take_left]
  have := gstep_fit last hp (by rw [hx, hn]; exact sizeOk_iff.2 ⟨h1, h2⟩) (by rw [hx, hn]; simp; omega)
  rw [this, hx, hn, hd]
  have hf : folL last s = true := by rw [folL, ho, decide_eq_true hr]; rfl
  rw [if_pos hf]
theorem getF_put : ∀ (t : List (List UInt8)) (pre post last : List UInt8), (∀ s ∈ t, okS s = true) → risesL (last :: t) = true → getF (pre ++ (symB t ++ post)) t.length pre.length 0 last = (t, pre.length + (symB t).length, 0)
  | [], pre, post, last, _, _ => rfl
  | s :: t, pre, post, last, ho, hr => by
    obtain ⟨h1, h2⟩ := rises_cons.1 hr
    have hb : pre ++ (symB (s :: t) ++ post) = pre ++ UInt8.ofNat s.length :: (s ++ (symB t ++ post)) := by rw [symB_cons]; simp
    have hb2 : pre ++ (symB (s :: t) ++ post) = (pre ++ UInt8.ofNat s.length :: s) ++ (symB t ++ post) := by rw [symB_cons]; simp
    have hl : (pre ++ UInt8.ofNat s.length :: s).length = pre.length + 1 + s.length := by simp; omega
    have ih := getF_put t (pre ++ UInt8.ofNat s.length :: s) post s (fun x hx => ho x (List.mem_cons_of_mem _ hx)) h2
    rw [← hb2, hl] at ih
    rw [List.length_cons, getF]
    have hg := gstep_put (pre := pre) (post := symB t ++ post) (ho s List.mem_cons_self) h1
    rw [← hb] at hg
    simp only [hg]
    rw [ih, symB_cons]
    simp
    omega
def symK (bs : List UInt8) (k : Nat) (e : Int) : Nat := ((takeR bs k e 0 1).1.headD 0).toNat
def getAk (bs : List UInt8) (k : Nat) (e : Int) : List (List UInt8) × Nat × Int := getF bs (symK bs k e) (takeR bs k e 0 1).2.1 (takeR bs k e 0 1).2.2 []
def getK (bs : List UInt8) (k : Nat) (e : Int) : List (List UInt8) × Nat × Int := if (getAk bs k e).2.2 = 0 then getAk bs k e else ([], (getAk bs k e).2)
theorem getK_bad (bs : List UInt8) (k : Nat) {e : Int} (h : e ≠ 0) : getK bs k e = ([], k, e) := by
  have h1 : getAk bs k e = ([], k, e) := by
    unfold getAk symK
    rw [takeR_bad bs k 1 h]
    rfl
  rw [getK, h1, if_neg h]
theorem getK_good {bs : List UInt8} {k k2 : Nat} {t : List (List UInt8)} (hk : k ≤ bs.length) (h : getK bs k 0 = (t, k2, 0)) :
    rightT t = true ∧ bs.drop k = putT t ++ bs.drop k2 ∧ k2 = k + (putT t).length ∧ k2 ≤ bs.length := by
  unfold getK at h
  split at h
  · unfold getAk at h
    by_cases hlt : k < bs.length
    · have hT := takeR_byte hlt
      have hN : symK bs k 0 = bs[k].toNat := by rw [symK, hT]; rfl
      rw [hN, hT] at h
      obtain ⟨h1, h2, h3, h4, h5, h6⟩ := getF_good _ _ _ h (by show k + 1 ≤ bs.length; omega)
      have hb := UInt8.toNat_lt bs[k]
      have hr : risesL t = true := by
        cases t with
        | nil => rfl
        | cons s t => exact (rises_cons.1 h3).2
      have hx : UInt8.ofNat t.length = bs[k] := by rw [h1]; simp
      have hd : bs.drop k = putT t ++ bs.drop k2 := by
        rw [List.drop_eq_getElem_cons hlt, putT_symB, hx, List.cons_append, ← h6]
        congr 1
        have e2 : bs.drop k2 = (bs.drop (k + 1)).drop (k2 - (k + 1)) := by rw [List.drop_drop]; congr 1; simp at h4; omega
        rw [e2, List.take_append_drop]
      have hl := congrArg List.length hd
      rw [List.length_append, List.length_drop, List.length_drop] at hl
      simp at h4 h5
      exact ⟨rightT_iff.2 ⟨by omega, h2, hr⟩, hd, by omega, h5⟩
    · exfalso
      have hT : takeR bs k 0 0 1 = ([], k, 2) := by
        rw [show (1 : Int) = ((1 : Nat) : Int) from rfl]
        exact takeR_short bs k 1 (by omega)
      have hN : symK bs k 0 = 0 := by rw [symK, hT]; rfl
      rw [hN, hT] at h
      simp [getF] at h
  · rename_i hne
    simp only [Prod.mk.injEq] at h
    exact absurd (congrArg Prod.snd h.2) hne
theorem getK_there {bs rest : List UInt8} {k : Nat} {t : List (List UInt8)} (hk : k ≤ bs.length) (hr : rightT t = true) (h : bs.drop k = putT t ++ rest) : getK bs k 0 = (t, k + (putT t).length, 0) := by
  obtain ⟨h5, ho, hri⟩ := rightT_iff.1 hr
  have hn : (UInt8.ofNat t.length).toNat = t.length := by simp; omega
  have hlt : k < bs.length := by
    have := congrArg List.length h
    rw [List.length_drop, putT_symB] at this
    simp at this
    omega
  have hc := List.drop_eq_getElem_cons hlt
  rw [h, putT_symB, List.cons_append, List.cons.injEq] at hc
  obtain ⟨c1, c2⟩ := hc
  have hT := takeR_byte hlt
  have hN : symK bs k 0 = t.length := by rw [symK, hT, List.headD_cons, ← c1]; exact hn
  have hb : bs = bs.take (k + 1) ++ (symB t ++ rest) := by rw [c2, List.take_append_drop]
  have hl : (bs.take (k + 1)).length = k + 1 := by rw [List.length_take]; omega
  have hA : getAk bs k 0 = (t, k + (putT t).length, 0) := by
    rw [getAk, hN, hT]
    have := getF_put t (bs.take (k + 1)) rest [] ho (rises_nil ho hri)
    rw [← hb, hl] at this
    refine this.trans ?_
    rw [putT_symB]
    simp
    omega
  rw [getK, hA, if_pos rfl]
end Go.Proofs.YtmffpbhiehjlpaaGreat
namespace Go.Proofs.YtmffpbhiehjlpaaGreat
set_option linter.unusedSimpArgs false
set_option linter.unusedVariables false
def vsum (w : Nat) : List Nat → Nat
  | [] => 0
  | x :: r => x + 2 ^ w * vsum w r
def bytesN : Nat → Nat → List UInt8
  | 0, _ => []
  | m + 1, V => UInt8.ofNat (V % 256) :: bytesN m (V / 256)
def bval : List UInt8 → Nat
  | [] => 0
  | b :: r => b.toNat + 256 * bval r
theorem byte_toNat (V : Nat) : (UInt8.ofNat (V % 256)).toNat = V % 256 := by rw [UInt8.toNat_ofNat']; omega
theorem vsum_snoc (w : Nat) (l : List Nat) (x : Nat) : vsum w (l ++ [x]) = vsum w l + 2 ^ (w * l.length) * x := by
  induction l with
  | nil => simp [vsum]
  | cons y r ih =>
    simp only [List.cons_append, vsum, ih, List.length_cons]
    rw [Nat.mul_add w, Nat.mul_one, Nat.add_comm (w * r.length), Nat.pow_add, Nat.mul_add, Nat.mul_assoc]
    omega
theorem vsum_lt (w : Nat) (l : List Nat) (h : ∀ x ∈ l, x < 2 ^ w) : vsum w l < 2 ^ (w * l.length) := by
  induction l with
  | nil => simp [vsum]
  | cons y r ih =>
    simp only [vsum, List.length_cons]
    rw [Nat.mul_add w, Nat.mul_one, Nat.add_comm (w * r.length), Nat.pow_add]
    have h1 := h y (by simp)
    have h2 := ih fun x hx => h x (by simp [hx])
    calc y + 2 ^ w * vsum w r < 2 ^ w + 2 ^ w * vsum w r := by omega
      _ = 2 ^ w * (vsum w r + 1) := by rw [Nat.mul_add, Nat.mul_one]; omega
      _ ≤ 2 ^ w * 2 ^ (w * r.length) := Nat.mul_le_mul_left _ h2
theorem vsum_get (w : Nat) (l : List Nat) (h : ∀ x ∈ l, x < 2 ^ w) (i : Nat) (hi : i < l.length) : vsum w l / 2 ^ (w * i) % 2 ^ w = l[i] := by
  induction l generalizing i with
  | nil => simp at hi
  | cons y r ih =>
    have h1 := h y (by simp)
    have hp : 0 < 2 ^ w := Nat.two_pow_pos w
    rcases i with _ | i
    · simp only [Nat.mul_zero, Nat.pow_zero, Nat.div_one, vsum, List.getElem_cons_zero, Nat.add_mul_mod_self_left]
      exact Nat.mod_eq_of_lt h1
    · rw [Nat.mul_add w, Nat.mul_one, Nat.add_comm (w * i), Nat.pow_add, ← Nat.div_div_eq_div_mul]
      have e : vsum w (y :: r) / 2 ^ w = vsum w r := by
        simp only [vsum]
        rw [Nat.add_mul_div_left _ _ hp, Nat.div_eq_of_lt h1]; omega
      rw [e]
      exact ih (fun x hx => h x (by simp [hx])) i (by simpa using hi)
theorem bytesN_length (m V : Nat) : (bytesN m V).length = m := by
  induction m generalizing V with
  | zero => rfl
  | succ m ih => simp only [bytesN, List.length_cons, ih]
theorem bytesN_snoc (m V : Nat) : bytesN (m + 1) V = bytesN m V ++ [UInt8.ofNat (V / 256 ^ m % 256)] := by
  induction m generalizing V with
  | zero => simp [bytesN]
  | succ m ih =>
    rw [bytesN, ih (V / 256), bytesN, List.cons_append, Nat.div_div_eq_div_mul, Nat.pow_succ, Nat.mul_comm 256]
theorem bytesN_mod (m V : Nat) : bytesN m (V % 256 ^ m) = bytesN m V := by
  induction m generalizing V with
  | zero => rfl
  | succ m ih =>
    simp only [bytesN]
    rw [Nat.pow_succ, Nat.mul_comm (256 ^ m), Nat.mod_mul_right_mod, Nat.mod_mul_right_div_self, ih]
theorem bytesN_plus (m V y : Nat) : bytesN m (V + 256 ^ m * y) = bytesN m V := by
  rw [← bytesN_mod, Nat.add_mul_mod_self_left, bytesN_mod]
theorem bval_lt (bs : List UInt8) : bval bs < 256 ^ bs.length := by
  induction bs with
  | nil => simp [bval]
  | cons b r ih =>
    have := UInt8.toNat_lt b
    simp only [bval, List.length_cons, Nat.pow_succ]
    omega
theorem bval_bytesN (m V : Nat) : bval (bytesN m V) = V % 256 ^ m := by
  induction m generalizing V with
  | zero => simp [bytesN, bval, Nat.mod_one]
  | succ m ih =>
    simp only [bytesN, bval, ih, byte_toNat]
    rw [Nat.pow_succ, Nat.mul_comm (256 ^ m), Nat.mod_mul]
theorem bytesN_bval (bs : List UInt8) : bytesN bs.length (bval bs) = bs := by
  induction bs with
  | nil => rfl
  | cons b r ih =>
    have := UInt8.toNat_lt b
    simp only [List.length_cons, bytesN, bval]
    rw [show (b.toNat + 256 * bval r) % 256 = b.toNat from by omega, show (b.toNat + 256 * bval r) / 256 = bval r from by omega, ih]
    simp
theorem bval_append (a b : List UInt8) : bval (a ++ b) = bval a + 256 ^ a.length * bval b := by
  induction a with
  | nil => simp [bval]
  | cons x r ih =>
    simp only [List.cons_append, bval, ih, List.length_cons, Nat.pow_succ]
    rw [Nat.mul_comm (256 ^ r.length) 256, Nat.mul_assoc]
    omega
theorem bval_at (bs : List UInt8) (j : Nat) (h : j < bs.length) : bval bs / 256 ^ j % 256 = bs[j].toNat := by
  induction bs generalizing j with
  | nil => simp at h
  | cons b r ih =>
    have := UInt8.toNat_lt b
    rcases j with _ | j
    · simp only [bval, Nat.pow_zero, Nat.div_one, List.getElem_cons_zero]
      omega
    · rw [Nat.pow_succ, Nat.mul_comm (256 ^ j), ← Nat.div_div_eq_div_mul]
      simp only [bval, List.getElem_cons_succ]
      rw [show (b.toNat + 256 * bval r) / 256 = bval r from by omega]
      exact ih j (by simpa using h)
theorem pow256 (n : Nat) : 256 ^ n = 2 ^ (8 * n) := by rw [Nat.pow_mul]
theorem bval_over (bs : List UInt8) (n : Nat) (h : 8 * bs.length ≤ n) : bval bs / 2 ^ n = 0 := by
  apply Nat.div_eq_of_lt
  have := bval_lt bs
  rw [pow256] at this
  exact Nat.lt_of_lt_of_le this (Nat.pow_le_pow_right (by omega) h)
def packL (w : Nat) (l : List Nat) : List UInt8 := bytesN ((l.length * w + 7) / 8) (vsum w l)
theorem packL_length (w : Nat) (l : List Nat) : (packL w l).length = (l.length * w + 7) / 8 := bytesN_length _ _
def getN (bs : List UInt8) (w i : Nat) : Nat := bval bs / 2 ^ (w * i) % 2 ^ w
theorem getN_lt (bs : List UInt8) (w i : Nat) : getN bs w i < 2 ^ w := Nat.mod_lt _ (Nat.two_pow_pos w)
theorem bval_packL (w : Nat) (l : List Nat) (h : ∀ x ∈ l, x < 2 ^ w) : bval (packL w l) = vsum w l := by
  unfold packL
  rw [bval_bytesN]
  apply Nat.mod_eq_of_lt
  refine Nat.lt_of_lt_of_le (vsum_lt w l h) ?_
  rw [pow256]
  refine Nat.pow_le_pow_right (by omega) ?_
  rw [Nat.mul_comm w]
  generalize l.length * w = n
  omega
theorem get_pack (w : Nat) (l : List Nat) (h : ∀ x ∈ l, x < 2 ^ w) (i : Nat) (hi : i < l.length) : getN (packL w l) w i = l[i] := by
  unfold getN
  rw [bval_packL w l h, vsum_get w l h i hi]
def getsN (bs : List UInt8) (w n : Nat) : List Nat := (List.range n).map (getN bs w)
theorem getsN_length (bs : List UInt8) (w n : Nat) : (getsN bs w n).length = n := by simp [getsN]
theorem getsN_succ (bs : List UInt8) (w n : Nat) : getsN bs w (n + 1) = getsN bs w n ++ [getN bs w n] := by simp [getsN, List.range_succ]
theorem getsN_get (bs : List UInt8) (w n i : Nat) (h : i < n) : (getsN bs w n)[i]? = some (getN bs w i) := by simp [getsN, h]
theorem getsN_lt (bs : List UInt8) (w n : Nat) : ∀ x ∈ getsN bs w n, x < 2 ^ w := by
  intro x hx
  obtain ⟨i, _, rfl⟩ := List.mem_map.1 hx
  exact getN_lt _ _ _
theorem vsum_getsN (bs : List UInt8) (w n : Nat) : vsum w (getsN bs w n) = bval bs % 2 ^ (w * n) := by
  induction n with
  | zero => simp [getsN, vsum, Nat.mod_one]
  | succ n ih =>
    rw [getsN_succ, vsum_snoc, ih, getsN_length, Nat.mul_add w, Nat.mul_one, Nat.pow_add, Nat.mod_mul]
    rfl
theorem pack_gets (bs : List UInt8) (w n : Nat) (hl : bs.length = (n * w + 7) / 8) (hb : bval bs < 2 ^ (n * w)) : packL w (getsN bs w n) = bs := by
  unfold packL
  rw [getsN_length, ← hl, vsum_getsN, Nat.mul_comm w, Nat.mod_eq_of_lt hb, bytesN_bval]
theorem gets_pack (w : Nat) (l : List Nat) (h : ∀ x ∈ l, x < 2 ^ w) : getsN (packL w l) w l.length = l := by
  apply List.ext_getElem?
  intro i
  by_cases hi : i < l.length
  · rw [getsN_get _ _ _ _ hi, get_pack w l h i hi, List.getElem?_eq_getElem hi]
  · rw [List.getElem?_eq_none (by rw [getsN_length]; omega), List.getElem?_eq_none (by omega)]
theorem filled_iff (bs : List UInt8) (n : Nat) (hl : bs.length = (n + 7) / 8) (hn : n % 8 ≠ 0) : (bs.getLastD 0).toNat / 2 ^ (n % 8) = 0 ↔ bval bs < 2 ^ n := by
  rcases List.eq_nil_or_concat bs with rfl | ⟨r, x, rfl⟩
  · simp at hl; omega
  · have hr : r.length = n / 8 := by simp at hl; omega
    have e2 : 2 ^ n = 256 ^ (n / 8) * 2 ^ (n % 8) := by
      rw [pow256, ← Nat.pow_add]
      congr 1
      omega
    have hp : 0 < 256 ^ (n / 8) := Nat.pow_pos (by omega)
    have hb := bval_lt r
    rw [hr] at hb
    rw [List.concat_eq_append, List.getLastD_concat, bval_append, hr, e2]
    have e1 : bval [x] = x.toNat := by simp [bval]
    rw [e1, Nat.div_eq_zero_iff_lt (Nat.two_pow_pos _)]
    constructor
    · intro h
      calc bval r + 256 ^ (n / 8) * x.toNat < 256 ^ (n / 8) + 256 ^ (n / 8) * x.toNat := by omega
        _ = 256 ^ (n / 8) * (x.toNat + 1) := by rw [Nat.mul_add, Nat.mul_one]; omega
        _ ≤ 256 ^ (n / 8) * 2 ^ (n % 8) := Nat.mul_le_mul_left _ h
    · intro h
      rcases Nat.lt_or_ge x.toNat (2 ^ (n % 8)) with h1 | h1
      · exact h1
      · have := Nat.mul_le_mul_left (256 ^ (n / 8)) h1
        omega
theorem filled_all (bs : List UInt8) (n : Nat) (hl : bs.length = (n + 7) / 8) (hn : n % 8 = 0) : bval bs < 2 ^ n := by
  have h := bval_lt bs
  rw [pow256, hl] at h
  rw [show 8 * ((n + 7) / 8) = n from by omega] at h
  exact h
end Go.Proofs.YtmffpbhiehjlpaaGreat
