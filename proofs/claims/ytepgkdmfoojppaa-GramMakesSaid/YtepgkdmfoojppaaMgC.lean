/-
  The cursor's small functions, each by what it answers and what it leaves: clone, New, Good, Left, Fail.
  The cursor's Fail and take.
  A cursor in memory stays where all writing is behind it.
  A cursor, open; Bytes.
  The cursor's Bytes and End.
  The cursor's Fail, whatever stands there; take in plain.
  varint, and the document's own Number: both are 'vnum'.
  The cursor's peek, and Most.
  The cursor's Byte.
  The cursor's Most in plain.
  The bytes of a varint, in plain.
-/
import Derived.Test.YtepgkdmfoojppaaRows
import Derived.Test.YtepgkdmfoojppaaMem
import Derived.Test.YtepgkdmfoojppaaByt
import Derived.Outline
import Derived.BigQuiet
import Derived.Deep.QuietTactic
import Derived.Lib.Hide
namespace Go.Proofs.Ytepgkdmfoojppaa
set_option linter.unusedSimpArgs false
set_option linter.unusedVariables false
open Go.RowKit

theorem clone_any (bs : List UInt8) (w : World) {lo h' : Nat} {A : Option Addr} {c : Nat} (h : Rd w lo h' A c (bv bs)) (hb : bs.length ≤ 140737488355328) :
    Calls Try.prog 42 #[.slice A bs.length c] w fun e w' => ∃ A' c', e = .returned (.slice A' bs.length c') ∧
      w'.ownsRow w.heap.size 5 1 (.slice A' bs.length c') bs.length (bv bs) ∧ Below w.heap.size w w' := by
  obtain ⟨A', c', w', hrun, hown, hg⟩ := append_bytes w w.heap.size (.slice none 0 0) [] bs (World.ownsRow_nil ..) h (by simpa using hb) (Nat.le_refl _)
  simp only [List.length_nil, Nat.zero_add, List.nil_append] at hrun hown
  go_enter Try.func42, Try.ntmps42
  go_wp2_with (at_builtin; refine wpList_append_run rfl _ _ _ _ rfl rfl rfl hrun ?_)
  go_ret
  exact ⟨A', c', rfl, hown, below_of_gb (Nat.le_refl _) hg (by simp [Value.ownBlock])⟩

/-- At block g lies a cursor over bs, at place k, with the error e; its bytes lie in a block from lo on, ahead of g. -/
def Cur (w : World) (lo g : Nat) (bs : List UInt8) (k : Nat) (e : Int) : Prop :=
  ∃ A c, Blk w g 69 #[.slice A bs.length c, .int .i64 (k : Int), .int .i64 e] ∧ Rd w lo g A c (bv bs) ∧ k ≤ bs.length ∧ lo ≤ g
def cp (g : Nat) : Value := .pointer (some ⟨g, 0, none⟩)
section
variable {w w' : World} {lo g k : Nat} {bs : List UInt8} {e : Int}
theorem Cur.grown {row : Option Nat} (h : Cur w lo g bs k e) (hg : w.grownBy w' row) (hr : ∀ x, row = some x → x < lo ∨ g < x) : Cur w' lo g bs k e := by
  obtain ⟨A, c, hb, hrd, hk, hl⟩ := h
  exact ⟨A, c, hb.grown hg (fun e => by have := hr _ e.symm; omega), hrd.grown hg (by have := hb.lt; omega) (fun x hx => by have := hr x hx; omega), hk, hl⟩
theorem Cur.drewN (h : Cur w lo g bs k e) (n : Nat) : Cur (w.drewN n) lo g bs k e := by
  obtain ⟨A, c, hb, hrd, hk, hl⟩ := h
  exact ⟨A, c, hb.drewN n, hrd.drewN n, hk, hl⟩
theorem Cur.base (h : Cur w lo g bs k e) : lo ≤ g := by obtain ⟨_, _, _, _, _, hl⟩ := h; exact hl
theorem Cur.lt (h : Cur w lo g bs k e) : g < w.heap.size := by obtain ⟨_, _, hb, _⟩ := h; exact hb.lt
end

theorem new_any (bs : List UInt8) (w : World) {lo h' : Nat} {A : Option Addr} {c : Nat} (h : Rd w lo h' A c (bv bs)) (hb : bs.length ≤ 140737488355328) :
    Calls Try.prog 22 #[.slice A bs.length c] w fun e w' => ∃ g, e = .returned (.pointer (some ⟨g, 0, none⟩)) ∧ Cur w' w.heap.size g bs 0 0 ∧ Below w.heap.size w w' := by
  go_enter Try.func22, Try.ntmps22
  go_wp2_with fail
  refine (clone_any bs _ h hb).mono ?_
  rintro e w1 ⟨A', c', rfl, hown, hbel⟩
  go_wp2_with fail
  go_ret
  refine ⟨_, rfl, ⟨A', c', Blk.new _ _ _, (Rd.of_own hown).alloc (Nat.le_refl _) _, Nat.zero_le _, hbel.size⟩, hbel.alloc hbel.size _⟩

theorem good_any {w : World} {lo g k : Nat} {bs : List UInt8} {e : Int} (h : Cur w lo g bs k e) :
    Calls Try.prog 27 #[cp g] w fun x w' => x = .returned (.bool (e == 0)) ∧ w = w' := by
  obtain ⟨A, c, hb, -, -, -⟩ := h
  have h2 := hb.cell 2
  simp at h2
  clear hb
  unfold cp
  go_enter Try.func27, Try.ntmps27
  go_wp2
  go_ret
  exact ⟨rfl, rfl⟩

theorem left_any {w : World} {lo g k : Nat} {bs : List UInt8} {e : Int} (h : Cur w lo g bs k e) :
    Calls Try.prog 28 #[cp g] w fun x w' => x = .returned (.int .i64 ((bs.length - k : Nat) : Int)) ∧ ∃ n, w' = w.drewN n := by
  obtain ⟨A, c, hb, hrd, hk, -⟩ := h
  have h0 := hb.cell 0
  have h1 := hb.cell 1
  simp at h0 h1
  have hm := hrd.len
  have hm' := hrd.cap
  rw [bv_length] at hm
  unfold maxLen at hm'
  clear hb hrd
  unfold cp
  rw [Int.ofNat_sub hk]
  go_enter Try.func28, Try.ntmps28
  go_wp2
  go_quiet (fail)
  go_wp2
  go_ret
  exact ⟨rfl, _, rfl⟩
end Go.Proofs.Ytepgkdmfoojppaa
namespace Go.Proofs.Ytepgkdmfoojppaa
set_option linter.unusedSimpArgs false
set_option linter.unusedVariables false
open Go.RowKit

theorem Cur.setErr {w : World} {lo g k : Nat} {bs : List UInt8} {e : Int} (h : Cur w lo g bs k e) (x : Int) : Cur (w.setCell ⟨g, 2, none⟩ (.int .i64 x)) lo g bs k x := by
  obtain ⟨A, c, hb, hrd, hk, hl⟩ := h
  exact ⟨A, c, by simpa using hb.put 2 (.int .i64 x), hrd.setCell (p := ⟨g, 2, none⟩) (.inr (Nat.le_refl _)) _, hk, hl⟩
theorem Cur.setPlace {w : World} {lo g k : Nat} {bs : List UInt8} {e : Int} (h : Cur w lo g bs k e) (x : Nat) (hx : x ≤ bs.length) : Cur (w.setCell ⟨g, 1, none⟩ (.int .i64 (x : Int))) lo g bs x e := by
  obtain ⟨A, c, hb, hrd, hk, hl⟩ := h
  exact ⟨A, c, by simpa using hb.put 1 (.int .i64 (x : Int)), hrd.setCell (p := ⟨g, 1, none⟩) (.inr (Nat.le_refl _)) _, hx, hl⟩

theorem fail_good {w : World} {lo g k : Nat} {bs : List UInt8} (x : Int) (h : Cur w lo g bs k 0) :
    Calls Try.prog 63 #[cp g, .int .i64 x] w fun r w' => r = .returned (.tuple #[]) ∧ w.setCell ⟨g, 2, none⟩ (.int .i64 x) = w' := by
  have hg := good_any h
  obtain ⟨A, c, hb, -, -, -⟩ := h
  have h2 := hb.cell 2
  have hf := hb.frozen 2
  simp at h2
  clear hb
  unfold cp at hg ⊢
  go_enter Try.func63, Try.ntmps63
  go_wp2_with fail
  refine hg.mono ?_
  rintro e w' ⟨rfl, rfl⟩
  go_wp2_with fail
  go_end0
  exact ⟨rfl, rfl⟩
theorem fail_bad {w : World} {lo g k : Nat} {bs : List UInt8} {e : Int} (x : Int) (h : Cur w lo g bs k e) (he : e ≠ 0) :
    Calls Try.prog 63 #[cp g, .int .i64 x] w fun r w' => r = .returned (.tuple #[]) ∧ w = w' := by
  have hg := good_any h
  have h0 : (e == 0) = false := by simpa using he
  rw [h0] at hg
  clear h h0 he
  unfold cp at hg ⊢
  go_enter Try.func63, Try.ntmps63
  go_wp2_with fail
  refine hg.mono ?_
  rintro e w' ⟨rfl, rfl⟩
  go_wp2_with fail
  go_end0
  exact ⟨rfl, rfl⟩

/-- what take answers and leaves: the bytes, the place, the error -/
def takeR (bs : List UInt8) (k : Nat) (e : Int) (skip : Nat) (n : Int) : List UInt8 × Nat × Int :=
  if e ≠ 0 then ([], k, e) else if n < 0 then ([], k, 3) else if (bs.length : Int) - k - skip < n then ([], k, 2) else ((bs.drop (k + skip)).take n.toNat, k + skip + n.toNat, 0)
theorem take_bad {w : World} {lo g k : Nat} {bs : List UInt8} {e : Int} (skip : Nat) (n : Int) (h : Cur w lo g bs k e) (he : e ≠ 0) (hs : skip ≤ bs.length) (h63 : bs.length ≤ maxLen) :
    Calls Try.prog 61 #[cp g, .int .i64 (skip : Int), .int .i64 n] w fun r w' => r = .returned (.slice none 0 0) ∧ ∃ m, w.drewN m = w' := by
  have h0 : (e == 0) = false := by simpa using he
  unfold maxLen at h63
  have hk : (bs.length - k : Nat) ≤ bs.length := by omega
  have H := Lib.hid h
  have HE := Lib.hid he
  clear h he
  unfold cp
  go_enter Try.func61, Try.ntmps61
  go_wp2_with (first
    | (go_at_call 63; refine (fail_bad _ (by first | exact H.out | exact H.out.drewN _) HE.out).mono ?_; rintro e w' ⟨rfl, rfl⟩)
    | (go_at_call 28; refine (left_any (by first | exact H.out | exact H.out.drewN _)).mono ?_; rintro e w' ⟨rfl, ⟨m, rfl⟩⟩)
    | (go_at_call 27; refine (good_any (by first | exact H.out | exact H.out.drewN _)).mono ?_; rintro e w' ⟨rfl, rfl⟩))
  all_goals go_ret
  all_goals exact ⟨rfl, _, rfl⟩

theorem take_neg {w : World} {lo g k : Nat} {bs : List UInt8} (skip : Nat) (n : Int) (h : Cur w lo g bs k 0) (hn : n < 0) (hs : k + skip ≤ bs.length) (h63 : bs.length ≤ maxLen) :
    Calls Try.prog 61 #[cp g, .int .i64 (skip : Int), .int .i64 n] w fun r w' => r = .returned (.slice none 0 0) ∧ ∃ m, (w.setCell ⟨g, 2, none⟩ (.int .i64 3)).drewN m = w' := by
  unfold maxLen at h63
  have hk : skip ≤ (bs.length - k : Nat) := by omega
  have hk' : (bs.length - k : Nat) ≤ bs.length := by omega
  have H := Lib.hid h
  have H' := Lib.hid (h.setErr 3)
  clear h
  unfold cp
  go_enter Try.func61, Try.ntmps61
  go_wp2_with (first
    | (go_at_call 63; refine (fail_good _ H.out).mono ?_; rintro e w' ⟨rfl, rfl⟩)
    | (go_at_call 28; refine (left_any (by first | exact H'.out | exact H'.out.drewN _)).mono ?_; rintro e w' ⟨rfl, ⟨m, rfl⟩⟩)
    | (go_at_call 27; refine (good_any (by first | exact H'.out | exact H'.out.drewN _)).mono ?_; rintro e w' ⟨rfl, rfl⟩))
  all_goals go_ret
  all_goals exact ⟨rfl, _, rfl⟩

theorem take_over {w : World} {lo g k : Nat} {bs : List UInt8} (skip : Nat) (n : Int) (h : Cur w lo g bs k 0) (hn : 0 ≤ n) (hov : ((bs.length - k : Nat) : Int) - skip < n) (hs : k + skip ≤ bs.length) (h63 : bs.length ≤ maxLen) :
    Calls Try.prog 61 #[cp g, .int .i64 (skip : Int), .int .i64 n] w fun r w' => r = .returned (.slice none 0 0) ∧ ∃ m, (w.setCell ⟨g, 2, none⟩ (.int .i64 2)).drewN m = w' := by
  unfold maxLen at h63
  have hk : skip ≤ (bs.length - k : Nat) := by omega
  have hk' : (bs.length - k : Nat) ≤ bs.length := by omega
  have H := Lib.hid h
  have H' := Lib.hid (h.setErr 2)
  clear h
  unfold cp
  go_enter Try.func61, Try.ntmps61
  go_wp2_with (first
    | (go_at_call 63; refine (fail_good _ (H.out.drewN _)).mono ?_; rintro e w' ⟨rfl, rfl⟩)
    | (go_at_call 28; refine (left_any H.out).mono ?_; rintro e w' ⟨rfl, ⟨m, rfl⟩⟩)
    | (go_at_call 27; refine (good_any (by first | exact H'.out | exact H'.out.drewN _)).mono ?_; rintro e w' ⟨rfl, rfl⟩))
  all_goals go_ret
  all_goals exact ⟨rfl, _, rfl⟩

theorem take_ok {w : World} {lo g k : Nat} {bs : List UInt8} {A : Option Addr} {c : Nat} (skip n : Nat) (hb : Blk w g 69 #[.slice A bs.length c, .int .i64 (k : Int), .int .i64 0]) (hrd : Rd w lo g A c (bv bs)) (hs : k + skip + n ≤ bs.length) (hl : lo ≤ g) :
    Calls Try.prog 61 #[cp g, .int .i64 (skip : Int), .int .i64 (n : Int)] w fun r w' => r = .returned (.slice (if c = k + skip then A else A.map (·.add (k + skip))) n (c - (k + skip))) ∧ ∃ m m', ((w.drewN m).setCell ⟨g, 1, none⟩ (.int .i64 ((k : Int) + skip + n))).drewN m' = w' := by
  have h63 := hrd.cap
  have hlc := hrd.len
  rw [bv_length] at hlc
  unfold maxLen at h63
  have h : Cur w lo g bs k 0 := ⟨A, c, hb, hrd, by omega, hl⟩
  have hk : skip + n ≤ (bs.length - k : Nat) := by omega
  have hk' : (bs.length - k : Nat) ≤ bs.length := by omega
  have H := Lib.hid h
  have h0 := hb.cell 0
  have h1 := hb.cell 1
  have hf := hb.frozen 1
  simp at h0 h1
  have hn0 : ¬ ((n : Int) < 0) := by omega
  have hle : (n : Int) ≤ ((bs.length - k : Nat) : Int) - (skip : Int) := by omega
  clear h hb hrd
  unfold cp
  go_enter Try.func61, Try.ntmps61
  go_wp2_with (first
    | (go_at_call 28; refine (left_any H.out).mono ?_; rintro e w' ⟨rfl, ⟨m, rfl⟩⟩)
    | (go_at_call 27; refine (good_any (by first | exact H.out | exact H.out.drewN _)).mono ?_; rintro e w' ⟨rfl, rfl⟩))
  go_quiet (fail)
  all_goals go_wp2
  all_goals go_ret
  all_goals refine ⟨?_, _, _, rfl⟩
  all_goals (rename_i hcc; simp [hcc])

theorem takeR_le (bs : List UInt8) (k : Nat) (e : Int) (skip : Nat) (n : Int) (hs : k + skip ≤ bs.length) : (takeR bs k e skip n).2.1 ≤ bs.length ∧ k ≤ (takeR bs k e skip n).2.1 := by
  unfold takeR
  repeat' split
  all_goals (simp only []; omega)

/-- take, whatever stands there -/
theorem take_any {w : World} {lo g k : Nat} {bs : List UInt8} {e : Int} (skip : Nat) (n : Int) (h : Cur w lo g bs k e) (hs : k + skip ≤ bs.length) :
    Calls Try.prog 61 #[cp g, .int .i64 (skip : Int), .int .i64 n] w fun r w' => ∃ A c, r = .returned (.slice A (takeR bs k e skip n).1.length c) ∧
      Rd w' lo g A c (bv (takeR bs k e skip n).1) ∧ Cur w' lo g bs (takeR bs k e skip n).2.1 (takeR bs k e skip n).2.2 ∧ w.grownBy w' (some g) := by
  have h63 : bs.length ≤ maxLen := by
    obtain ⟨A, c, _, hrd, _⟩ := h
    have h1 := hrd.len
    have h2 := hrd.cap
    rw [bv_length] at h1
    omega
  by_cases he : e = 0
  · subst he
    by_cases hn : n < 0
    · rw [show takeR bs k 0 skip n = ([], k, 3) from by simp [takeR, hn]]
      refine (take_neg skip n h hn hs h63).mono ?_
      rintro r w' ⟨rfl, m, rfl⟩
      exact ⟨_, _, rfl, Rd.nil _ _ _, (h.setErr 3).drewN m, gb_drewN (gb_setCell (gb_refl w _) (.inl rfl) _) m⟩
    · by_cases hov : (bs.length : Int) - k - skip < n
      · rw [show takeR bs k 0 skip n = ([], k, 2) from by simp [takeR, hn, hov]]
        refine (take_over skip n h (by omega) (by have : k ≤ bs.length := by omega
                                                  rw [Int.ofNat_sub this]; exact hov) hs h63).mono ?_
        rintro r w' ⟨rfl, m, rfl⟩
        exact ⟨_, _, rfl, Rd.nil _ _ _, (h.setErr 2).drewN m, gb_drewN (gb_setCell (gb_refl w _) (.inl rfl) _) m⟩
      · obtain ⟨j, rfl⟩ := Int.eq_ofNat_of_zero_le (show 0 ≤ n by omega)
        have hj : k + skip + j ≤ bs.length := by omega
        rw [show takeR bs k 0 skip (j : Int) = ((bs.drop (k + skip)).take j, k + skip + j, 0) from by simp [takeR, hov]]
        obtain ⟨A, c, hb, hrd, hk, hl⟩ := h
        refine (take_ok skip j hb hrd hj hl).mono ?_
        rintro r w' ⟨rfl, m, m', rfl⟩
        have hcur : Cur w lo g bs k 0 := ⟨A, c, hb, hrd, hk, hl⟩
        have hcut := (hrd.drewN m).setCell (p := ⟨g, 1, none⟩) (.inr (Nat.le_refl _)) (.int .i64 ((k : Int) + skip + j))
        have hcut2 := (hcut.cut (k := k + skip) (n := k + skip + j) (by omega) (by rw [bv_length]; exact hj)).drewN m'
        rw [show k + skip + j - (k + skip) = j from by omega, ← bv_drop, ← bv_take] at hcut2
        have hlen : ((bs.drop (k + skip)).take j).length = j := by simp; omega
        refine ⟨_, _, by rw [hlen], hcut2, ?_, gb_drewN (gb_setCell (gb_drewN (gb_refl w _) m) (.inl rfl) _) m'⟩
        have := ((hcur.drewN m).setPlace (k + skip + j) hj).drewN m'
        simpa using this
  · rw [show takeR bs k e skip n = ([], k, e) from by simp [takeR, he]]
    refine (take_bad skip n h he (by omega) h63).mono ?_
    rintro r w' ⟨rfl, m, rfl⟩
    exact ⟨_, _, rfl, Rd.nil _ _ _, h.drewN m, gb_drewN (gb_refl w _) m⟩
end Go.Proofs.Ytepgkdmfoojppaa
namespace Go.Proofs.Ytepgkdmfoojppaa
open Go.RowKit

/-- a cursor, where all writing is behind it -/
theorem Cur.behind {w w' : World} {lo g k B : Nat} {bs : List UInt8} {e : Int} (h : Cur w lo g bs k e) (hb : Below B w w') (hg : g < B) : Cur w' lo g bs k e := by
  obtain ⟨A, c, hbk, hrd, hk, hl⟩ := h
  exact ⟨A, c, hbk.below hb hg, hrd.below hb (by omega), hk, hl⟩
end Go.Proofs.Ytepgkdmfoojppaa
namespace Go.Proofs.Ytepgkdmfoojppaa
set_option linter.unusedSimpArgs false
set_option linter.unusedVariables false
open Go.RowKit

theorem Cur.open_ {w : World} {lo g k : Nat} {bs : List UInt8} {e : Int} (h : Cur w lo g bs k e) : ∃ A c, w.cell? ⟨g, 0, none⟩ = some (.slice A bs.length c) ∧ w.cell? ⟨g, 1, none⟩ = some (.int .i64 (k : Int)) ∧ w.cell? ⟨g, 2, none⟩ = some (.int .i64 e) ∧ Rd w lo g A c (bv bs) ∧ k ≤ bs.length ∧ bs.length ≤ c ∧ c ≤ 9223372036854775807 := by
  obtain ⟨A, c, hb, hrd, hk, -⟩ := h
  have h0 := hb.cell 0
  have h1 := hb.cell 1
  have h2 := hb.cell 2
  have h3 := hrd.len
  have h4 := hrd.cap
  rw [bv_length] at h3
  exact ⟨A, c, h0, h1, h2, hrd, hk, h3, by simpa [maxLen] using h4⟩

theorem Cur.le {w : World} {lo g k : Nat} {bs : List UInt8} {e : Int} (h : Cur w lo g bs k e) : k ≤ bs.length := by obtain ⟨_, _, _, _, hk, _⟩ := h; exact hk

theorem takeR_err (bs : List UInt8) (k : Nat) (e : Int) (skip : Nat) (n : Int) (he : e ≠ 0) : takeR bs k e skip n = ([], k, e) := by simp [takeR, he]
theorem takeR_one (bs : List UInt8) (k : Nat) (e : Int) : (takeR bs k e 0 1).1.length ≤ 1 := by
  unfold takeR
  repeat' split
  all_goals simp
  all_goals omega

/-- Bytes: a copy of what is taken -/
theorem bytes_any {w : World} {lo g k : Nat} {bs : List UInt8} {e : Int} (n : Int) (h : Cur w lo g bs k e) (hb : bs.length ≤ 140737488355328) :
    Calls Try.prog 81 #[cp g, .int .i64 n] w fun r w' => ∃ A c, r = .returned (.slice A (takeR bs k e 0 n).1.length c) ∧ w'.ownsRow w.heap.size 5 1 (.slice A (takeR bs k e 0 n).1.length c) (takeR bs k e 0 n).1.length (bv (takeR bs k e 0 n).1) ∧
      Cur w' lo g bs (takeR bs k e 0 n).2.1 (takeR bs k e 0 n).2.2 ∧ w.grownBy w' (some g) := by
  have hk := h.le
  have hgl := h.lt
  have HT := Lib.hid (take_any 0 n h (by omega))
  have hl : (takeR bs k e 0 n).1.length ≤ bs.length := by
    unfold takeR
    repeat' split
    all_goals simp
    all_goals omega
  clear h
  generalize takeR bs k e 0 n = T at *
  go_enter Try.func81, Try.ntmps81
  go_wp2_with fail
  refine HT.out.mono ?_
  rintro r w1 ⟨A, c, rfl, hrd, hc1, hg1⟩
  have HC := Lib.hid hc1
  have HR := Lib.hid hrd
  have HG := Lib.hid hg1
  have hs := hg1.size
  clear hc1 hrd hg1
  go_wp2_with fail
  refine (clone_any _ _ HR.out (by omega)).mono ?_
  rintro r w2 ⟨A', c', rfl, hown, hbel⟩
  have HO := Lib.hid hown
  clear hown
  go_wp2_with fail
  go_ret
  have hg2 : w1.grownBy w2 none := below_gb_none (Nat.le_refl _) hbel
  refine ⟨_, _, rfl, ?_, HC.out.grown hg2 (by simp), HG.out.trans (gb_of_gb_none hg2)⟩
  obtain ⟨hlen, hrest⟩ := HO.out
  refine ⟨hlen, ?_⟩
  rcases hrest with h0 | ⟨g', cap, cur, hv, hb', hr⟩
  · exact .inl h0
  · exact .inr ⟨g', cap, cur, hv, by omega, hr⟩
end Go.Proofs.Ytepgkdmfoojppaa
namespace Go.Proofs.Ytepgkdmfoojppaa
set_option linter.unusedSimpArgs false
set_option linter.unusedVariables false
open Go.RowKit

/-- End -/
def endR (bs : List UInt8) (k : Nat) (e : Int) : Int := if e ≠ 0 then e else if k < bs.length then 2 else 0
theorem end_any {w : World} {lo g k : Nat} {bs : List UInt8} {e : Int} (h : Cur w lo g bs k e) :
    Calls Try.prog 26 #[cp g] w fun r w' => r = .returned (.int .i64 (endR bs k e)) ∧ ∃ n, w.drewN n = w' := by
  have H := Lib.hid h
  have hk := h.le
  obtain ⟨A, c, h0, h1, h2, -, -, -, -⟩ := h.open_
  have HG := Lib.hid (good_any h)
  clear h h0 h1
  unfold cp at *
  by_cases he : e = 0
  · subst he
    by_cases hl : k < bs.length
    · rw [show endR bs k 0 = 2 from by simp [endR, hl]]
      go_enter Try.func26, Try.ntmps26
      go_wp2_with (first | (go_at_call 27; refine HG.out.mono ?_; rintro e w' ⟨rfl, rfl⟩) | (go_at_call 28; refine (left_any H.out).mono ?_; rintro e w' ⟨rfl, ⟨m, rfl⟩⟩))
      all_goals go_ret
      all_goals exact ⟨rfl, _, rfl⟩
    · rw [show endR bs k 0 = 0 from by simp [endR, hl]]
      go_enter Try.func26, Try.ntmps26
      go_wp2_with (first | (go_at_call 27; refine HG.out.mono ?_; rintro e w' ⟨rfl, rfl⟩) | (go_at_call 28; refine (left_any H.out).mono ?_; rintro e w' ⟨rfl, ⟨m, rfl⟩⟩))
      all_goals go_ret
      all_goals exact ⟨rfl, _, rfl⟩
  · rw [show endR bs k e = e from by simp [endR, he]]
    have he' : (e == 0) = false := by simpa using he
    rw [he'] at HG
    clear he he'
    go_enter Try.func26, Try.ntmps26
    go_wp2_with (first | (go_at_call 27; refine HG.out.mono ?_; rintro e w' ⟨rfl, rfl⟩) | (go_at_call 28; refine (left_any H.out).mono ?_; rintro e w' ⟨rfl, ⟨m, rfl⟩⟩))
    go_ret
    exact ⟨rfl, 0, rfl⟩
end Go.Proofs.Ytepgkdmfoojppaa
namespace Go.Proofs.Ytepgkdmfoojppaa
set_option linter.unusedSimpArgs false
set_option linter.unusedVariables false
open Go.RowKit

/-- Fail, whatever stands there -/
theorem fail_any {w : World} {lo g k : Nat} {bs : List UInt8} {e : Int} (x : Int) (h : Cur w lo g bs k e) :
    Calls Try.prog 63 #[cp g, .int .i64 x] w fun r w' => r = .returned (.tuple #[]) ∧ Cur w' lo g bs k (if e = 0 then x else e) ∧ w.grownBy w' (some g) := by
  by_cases he : e = 0
  · subst he
    rw [if_pos rfl]
    refine (fail_good x h).mono ?_
    rintro r w' ⟨rfl, rfl⟩
    exact ⟨rfl, h.setErr x, gb_setCell (gb_refl w _) (.inl rfl) _⟩
  · rw [if_neg he]
    refine (fail_bad x h he).mono ?_
    rintro r w' ⟨rfl, rfl⟩
    exact ⟨rfl, h, gb_refl w _⟩

theorem takeR_full (bs : List UInt8) (k : Nat) (e : Int) (s : Nat) (h : (takeR bs k e 0 (s : Int)).2.2 = 0) : (takeR bs k e 0 (s : Int)).1.length = s := by
  unfold takeR at h ⊢
  by_cases h1 : e ≠ 0
  · rw [if_pos h1] at h; exact absurd h h1
  · rw [if_neg h1] at h ⊢
    by_cases h2 : (s : Int) < 0
    · omega
    · rw [if_neg h2] at h ⊢
      by_cases h3 : (bs.length : Int) - k - ((0 : Nat) : Int) < s
      · rw [if_pos h3] at h; simp at h
      · rw [if_neg h3]
        simp only [List.length_take, List.length_drop, Int.toNat_natCast]
        omega
theorem gb_more {a w w' : World} {g x : Nat} (h : a.grownBy w (some g)) (h2 : w.grownBy w' (some x)) (hx : a.heap.size ≤ x) : a.grownBy w' (some g) :=
  ⟨h2.os.trans h.os, h2.tape.trans h.tape, h2.output.trans h.output, Nat.le_trans h.size h2.size, fun i hi hne =>
    (h2.block i (Nat.lt_of_lt_of_le hi h.size) (fun e => by injection e with e; omega)).trans (h.block i hi hne)⟩
theorem takeR_short (bs : List UInt8) (k n : Nat) (h : bs.length < k + n) : takeR bs k 0 0 (n : Int) = ([], k, 2) := by
  have h1 : ¬ ((n : Int) < 0) := by omega
  have h2 : (bs.length : Int) - k - ((0 : Nat) : Int) < n := by omega
  unfold takeR
  rw [if_neg (by simp), if_neg h1, if_pos h2]
theorem takeR_fit (bs : List UInt8) (k n : Nat) (h : k + n ≤ bs.length) : takeR bs k 0 0 (n : Int) = ((bs.drop k).take n, k + n, 0) := by
  have h1 : ¬ ((n : Int) < 0) := by omega
  have h2 : ¬ ((bs.length : Int) - k - ((0 : Nat) : Int) < n) := by omega
  unfold takeR
  rw [if_neg (by simp), if_neg h1, if_neg h2]
  simp

end Go.Proofs.Ytepgkdmfoojppaa
namespace Go.Proofs.Ytepgkdmfoojppaa
set_option linter.unusedSimpArgs false
set_option linter.unusedVariables false
open Go.RowKit

/-- the number of a row of digits of seven bits each, the lowest first -/
def val : List UInt8 → Nat
  | [] => 0
  | b :: r => b.toNat % 128 + 128 * val r
theorem val_snoc (l : List UInt8) (b : UInt8) : val (l ++ [b]) = val l + 128 ^ l.length * (b.toNat % 128) := by
  induction l with
  | nil => simp [val]
  | cons x r ih =>
    simp only [List.cons_append, val, ih, List.length_cons, Nat.pow_succ]
    rw [Nat.mul_add, Nat.mul_comm (128 ^ r.length) 128, ← Nat.mul_assoc, Nat.add_assoc]
theorem val_lt (l : List UInt8) : val l < 128 ^ l.length := by
  induction l with
  | nil => simp [val]
  | cons x r ih =>
    simp only [val, List.length_cons, Nat.pow_succ]
    have := Nat.mod_lt x.toNat (show 0 < 128 by omega)
    omega

def lead : List UInt8 → Nat
  | [] => 0
  | b :: r => if 128 ≤ b.toNat then lead r + 1 else 0
theorem lead_le (l : List UInt8) : lead l ≤ l.length := by
  induction l with
  | nil => simp [lead]
  | cons b r ih => simp only [lead, List.length_cons]; split <;> omega
theorem lead_at (l : List UInt8) (k : Nat) (hk : k ≤ lead l) (hl : k < l.length) : (128 ≤ l[k].toNat → k + 1 ≤ lead l) ∧ (l[k].toNat < 128 → lead l = k) := by
  induction l generalizing k with
  | nil => simp at hl
  | cons b r ih =>
    simp only [lead] at hk ⊢
    rcases k with _ | k
    · simp only [List.getElem_cons_zero]
      constructor
      · intro h; rw [if_pos h]; omega
      · intro h; rw [if_neg (by omega)]
    · simp only [List.getElem_cons_succ]
      by_cases hb : 128 ≤ b.toNat
      · rw [if_pos hb] at hk ⊢
        have := ih k (by omega) (by simpa using hl)
        constructor
        · intro h; have := this.1 h; omega
        · intro h; have := this.2 h; omega
      · rw [if_neg hb] at hk; omega

/-- what a varint says that stands at the beginning: its number, how many bytes, the error -/
def vnum (bs : List UInt8) : Nat × Nat × Int :=
  if 9 ≤ lead bs then (0, 0, if 9 < bs.length then 3 else 2)
  else if bs.length ≤ lead bs then (0, 0, 2)
  else if 0 < lead bs ∧ (bs[lead bs]?.getD 0).toNat = 0 then (0, 0, 3)
  else (val (bs.take (lead bs + 1)), lead bs + 1, 0)

theorem vnum_here (bs : List UInt8) (k : Nat) (hk : k ≤ lead bs) (hl : k < bs.length) (h9 : k < 9) (hx : bs[k].toNat < 128) :
    vnum bs = if 0 < k ∧ bs[k].toNat = 0 then (0, 0, 3) else (val (bs.take k) + 128 ^ k * (bs[k].toNat % 128), k + 1, 0) := by
  have e := (lead_at bs k hk hl).2 hx
  unfold vnum
  rw [e, if_neg (by omega), if_neg (by omega), List.getElem?_eq_getElem hl, Option.getD_some]
  split
  · rfl
  · rw [List.take_succ_eq_append_getElem hl, val_snoc, List.length_take, Nat.min_eq_left (by omega)]
theorem vnum_over (bs : List UInt8) (h : min bs.length 9 ≤ lead bs) : vnum bs = (0, 0, if 9 < bs.length then 3 else 2) := by
  have := lead_le bs
  unfold vnum
  by_cases h9 : 9 ≤ lead bs
  · rw [if_pos h9]
  · rw [if_neg h9, if_pos (by omega), if_neg (by omega)]

theorem or_i64 (a b : Nat) (ha : a < 9223372036854775808) (hb : b < 9223372036854775808) : bits .or .i64 (a : Int) (b : Int) = ((a ||| b : Nat) : Int) := by
  have e : ∀ n : Nat, n < 9223372036854775808 → (BitVec.ofInt 64 (n : Int)).toNat = n := fun n hn => by
    rw [BitVec.ofInt_natCast, BitVec.toNat_ofNat]; exact Nat.mod_eq_of_lt (by omega)
  have hx : a ||| b < 2 ^ 63 := Nat.or_lt_two_pow (by omega) (by omega)
  show IntKind.i64.wrap ((BitVec.ofInt 64 (a : Int) ||| BitVec.ofInt 64 (b : Int)).toNat : Int) = _
  rw [BitVec.toNat_or, e a ha, e b hb, IntKind.wrap_i64]
  omega
theorem and127 (x : Nat) : x &&& 127 = x % 128 := Nat.and_two_pow_sub_one_eq_mod x 7
theorem digit_in (V x k : Nat) (hV : V < 128 ^ k) (hx : x < 256) (hk : k < 9) :
    bits .or .i64 (V : Int) (wrap64 (wrap64 (bits .andNot .u8 (x : Int) 128) * 2 ^ (7 * k))) = ((V + 128 ^ k * (x % 128) : Nat) : Int) := by
  have e1 : bits .andNot .u8 (x : Int) 128 = ((x % 128 : Nat) : Int) := by
    have := u8_andNot_nat x 128 hx (by omega)
    rw [← and127]
    exact this
  have hd := Nat.mod_lt x (show 0 < 128 by omega)
  have e2 : (2 : Int) ^ (7 * k) = ((128 ^ k : Nat) : Int) := by
    rw [Int.pow_mul]; norm_cast
  have hp : 128 ^ k ≤ 128 ^ 8 := Nat.pow_le_pow_right (by omega) (by omega)
  have hb : x % 128 * 128 ^ k < 9223372036854775808 := by
    calc x % 128 * 128 ^ k ≤ 127 * 128 ^ 8 := Nat.mul_le_mul (by omega) hp
      _ < 9223372036854775808 := by decide
  have e4 : wrap64 ((x % 128 : Nat) : Int) = ((x % 128 : Nat) : Int) := IntWalk.wrap64_in _ (by omega)
  have e5 : wrap64 ((x % 128 * 128 ^ k : Nat) : Int) = ((x % 128 * 128 ^ k : Nat) : Int) := IntWalk.wrap64_in _ (by omega)
  rw [e1, e2, e4, ← Int.natCast_mul, e5, or_i64 V _ (by omega) hb]
  congr 1
  have e3 : 128 ^ k = 2 ^ (7 * k) := by rw [Nat.pow_mul]
  rw [e3] at hV ⊢
  rw [Nat.or_comm, ← Nat.shiftLeft_eq, ← Nat.shiftLeft_add_eq_or_of_lt hV, Nat.shiftLeft_eq]
  rw [Nat.add_comm, Nat.mul_comm]

set_option maxRecDepth 10000 in
theorem varint_any {w : World} {lo h' : Nat} {A : Option Addr} {c : Nat} (bs : List UInt8) (h : Rd w lo h' A c (bv bs)) :
    Calls Try.prog 78 #[.slice A bs.length c] w fun r w' => r = .returned (.tuple #[.int .i64 ((vnum bs).1 : Int), .int .i64 ((vnum bs).2.1 : Int), .int .i64 (vnum bs).2.2]) ∧ w = w' := by
  have hl := h.len
  have hc := h.cap
  rw [bv_length] at hl
  unfold maxLen at hc
  have H := Lib.hid h
  clear h
  by_cases h9 : bs.length ≤ 9
  all_goals
    go_enter Try.func78, Try.ntmps78
    go_wp2_with fail
    go_loop [2, 13] (fun n i => ∃ k : Nat, k ≤ min bs.length 9 ∧ i = .int .i64 k ∧ k ≤ lead bs ∧ n = .int .i64 (val (bs.take k))) (fun _ i => bs.length - (intOf i).toNat)
    case atStart => exact ⟨0, by omega, rfl, by omega, by simp [val]⟩
    case round =>
      obtain ⟨k, hk, rfl, hlead, rfl⟩ := hrel
      by_cases hlt : k < min bs.length 9
      · obtain ⟨b, off, rfl, _, _, hcell⟩ := H.out.get (k := k) (by rw [bv_length]; omega)
        have hv := bv_get bs k (by omega)
        rw [List.getElem?_eq_getElem (by rw [bv_length]; omega)] at hv
        injection hv with hv
        rw [hv] at hcell
        clear hv
        have hlast := Lib.hid (vnum_here bs k hlead (by omega) (by omega))
        have hnext := Lib.hid ((lead_at bs k hlead (by omega)).1)
        have hV := val_lt (bs.take k)
        have hx256 : bs[k].toNat < 256 := UInt8.toNat_lt _
        rw [List.length_take, Nat.min_eq_left (by omega)] at hV
        have HD := Lib.hid (digit_in (val (bs.take k)) bs[k].toNat k hV hx256 (by omega))
        have hS : val (bs.take (k + 1)) = val (bs.take k) + 128 ^ k * (bs[k].toNat % 128) := by
          rw [List.take_succ_eq_append_getElem (by omega), val_snoc, List.length_take, Nat.min_eq_left (by omega)]
        have HS := Lib.hid hS
        generalize bs[k].toNat = x at *
        generalize val (bs.take k) = V at *
        clear hV hS hlead
        go_wp2
        case roundEnd => 
          have hge : 128 ≤ x := by omega
          exact ⟨⟨k + 1, by omega, by go_num, hnext.out hge, by rw [HS.out, HD.out]⟩, by simp [intOf]; omega⟩
        all_goals
          go_ret3
          have hlt' : x < 128 := by omega
          rw [hlast.out hlt']
          first
          | (rw [if_pos (by omega)]; exact ⟨rfl, rfl⟩)
          | (rw [if_neg (by omega)]; exact ⟨by rw [← HD.out]; rfl, rfl⟩)
          | (rw [if_neg (by omega)]; have hx0 : x = 0 := by omega
             subst hx0; exact ⟨by rw [← HD.out]; rfl, rfl⟩)
      · have hv := Lib.hid (vnum_over bs (by omega))
        go_wp2
        all_goals
          go_ret3
          rw [hv.out]
          first
          | (rw [if_pos (by omega)]; exact ⟨rfl, rfl⟩)
          | (rw [if_neg (by omega)]; exact ⟨rfl, rfl⟩)
end Go.Proofs.Ytepgkdmfoojppaa
namespace Go.Proofs.Ytepgkdmfoojppaa
set_option linter.unusedSimpArgs false
set_option linter.unusedVariables false
open Go.RowKit

/-- the error that peek meets -/
def peekE (bs : List UInt8) (k : Nat) (most : Int) : Int :=
  if (vnum (bs.drop k)).2.2 ≠ 0 then (vnum (bs.drop k)).2.2 else if most < (vnum (bs.drop k)).1 then 3 else 0

theorem peek_bad {w : World} {lo g k : Nat} {bs : List UInt8} {e : Int} (most : Int) (h : Cur w lo g bs k e) (he : e ≠ 0) :
    Calls Try.prog 60 #[cp g, .int .i64 most] w fun r w' => r = .returned (.tuple #[.int .i64 0, .int .i64 0]) ∧ w = w' := by
  have hg := good_any h
  have h0 : (e == 0) = false := by simpa using he
  rw [h0] at hg
  clear h h0 he
  unfold cp at hg ⊢
  go_enter Try.func60, Try.ntmps60
  go_wp2_with fail
  refine hg.mono ?_
  rintro e w' ⟨rfl, rfl⟩
  go_wp2_with fail
  go_ret2
  exact ⟨rfl, rfl⟩

theorem vnum_err (bs : List UInt8) (h : (vnum bs).2.2 ≠ 0) : (vnum bs).1 = 0 ∧ (vnum bs).2.1 = 0 := by
  unfold vnum at h ⊢
  repeat' split at h
  all_goals (repeat' split)
  all_goals first | (exact ⟨rfl, rfl⟩) | (exfalso; exact h rfl)

theorem peek_good {w : World} {lo g k : Nat} {bs : List UInt8} (most : Int) (h : Cur w lo g bs k 0) (he : peekE bs k most = 0) :
    Calls Try.prog 60 #[cp g, .int .i64 most] w fun r w' => r = .returned (.tuple #[.int .i64 ((vnum (bs.drop k)).1 : Int), .int .i64 ((vnum (bs.drop k)).2.1 : Int)]) ∧ ∃ m, w.drewN m = w' := by
  have H := Lib.hid h
  obtain ⟨A, c, h0, h1, h2, hrd, hk, hl, hc⟩ := h.open_
  have hcut := hrd.cut (k := k) (n := bs.length) hk (by rw [bv_length]; exact Nat.le_refl _)
  rw [List.take_of_length_le (by simp [bv_length]), ← bv_drop] at hcut
  have HC := Lib.hid hcut
  have hdl : (bs.drop k).length = bs.length - k := by simp
  have HV := fun (m : Nat) => Lib.hid (varint_any (bs.drop k) (HC.out.drewN m))
  rw [hdl] at HV
  have h3 : ((vnum (bs.drop k)).2.2 == 0) = true := by
    rw [beq_iff_eq]
    unfold peekE at he
    split at he
    · contradiction
    · rename_i hn; exact Decidable.not_not.1 hn
  have h4 : ((vnum (bs.drop k)).1 : Int) ≤ most := by
    unfold peekE at he
    split at he
    · contradiction
    · split at he <;> omega
  clear hcut hrd h he hdl
  generalize vnum (bs.drop k) = V at *
  have h5 : V.2.2 = 0 := by simpa using h3
  unfold cp
  go_enter Try.func60, Try.ntmps60
  go_wp2_with fail
  refine (good_any H.out).mono ?_
  rintro e w' ⟨rfl, rfl⟩
  go_wp2_with fail
  go_quiet ((go_at_call 78; exact quiet_pure (HV _).out))
  go_wp2
  all_goals go_ret2
  all_goals exact ⟨rfl, _, rfl⟩

theorem peek_form {w : World} {lo g k : Nat} {bs : List UInt8} (most : Int) (h : Cur w lo g bs k 0) (h3 : (vnum (bs.drop k)).2.2 ≠ 0) :
    Calls Try.prog 60 #[cp g, .int .i64 most] w fun r w' => r = .returned (.tuple #[.int .i64 0, .int .i64 0]) ∧ ∃ m, (w.drewN m).setCell ⟨g, 2, none⟩ (.int .i64 (vnum (bs.drop k)).2.2) = w' := by
  have H := Lib.hid h
  obtain ⟨A, c, h0, h1, h2, hrd, hk, hl, hc⟩ := h.open_
  have hcut := hrd.cut (k := k) (n := bs.length) hk (by rw [bv_length]; exact Nat.le_refl _)
  rw [List.take_of_length_le (by simp [bv_length]), ← bv_drop] at hcut
  have HC := Lib.hid hcut
  have hdl : (bs.drop k).length = bs.length - k := by simp
  have HV := fun (m : Nat) => Lib.hid (varint_any (bs.drop k) (HC.out.drewN m))
  rw [hdl] at HV
  have h5 : ((vnum (bs.drop k)).2.2 == 0) = false := by simpa using h3
  have h6 : ((vnum (bs.drop k)).2.2 != 0) = true := by simpa using h3
  clear hcut hrd h hdl
  generalize vnum (bs.drop k) = V at *
  unfold cp
  go_enter Try.func60, Try.ntmps60
  go_wp2_with fail
  refine (good_any H.out).mono ?_
  rintro e w' ⟨rfl, rfl⟩
  go_wp2_with fail
  go_quiet ((go_at_call 78; exact quiet_pure (HV _).out))
  go_wp2_with (go_at_call 63; refine (fail_good _ (H.out.drewN _)).mono ?_; rintro e w' ⟨rfl, rfl⟩)
  all_goals go_ret2
  all_goals exact ⟨rfl, _, rfl⟩

theorem peek_above {w : World} {lo g k : Nat} {bs : List UInt8} (most : Int) (h : Cur w lo g bs k 0) (h3 : (vnum (bs.drop k)).2.2 = 0) (h4 : most < (vnum (bs.drop k)).1) :
    Calls Try.prog 60 #[cp g, .int .i64 most] w fun r w' => r = .returned (.tuple #[.int .i64 0, .int .i64 0]) ∧ ∃ m, (w.drewN m).setCell ⟨g, 2, none⟩ (.int .i64 3) = w' := by
  have H := Lib.hid h
  obtain ⟨A, c, h0, h1, h2, hrd, hk, hl, hc⟩ := h.open_
  have hcut := hrd.cut (k := k) (n := bs.length) hk (by rw [bv_length]; exact Nat.le_refl _)
  rw [List.take_of_length_le (by simp [bv_length]), ← bv_drop] at hcut
  have HC := Lib.hid hcut
  have hdl : (bs.drop k).length = bs.length - k := by simp
  have HV := fun (m : Nat) => Lib.hid (varint_any (bs.drop k) (HC.out.drewN m))
  rw [hdl] at HV
  clear hcut hrd h hdl
  generalize vnum (bs.drop k) = V at *
  unfold cp
  go_enter Try.func60, Try.ntmps60
  go_wp2_with fail
  refine (good_any H.out).mono ?_
  rintro e w' ⟨rfl, rfl⟩
  go_wp2_with fail
  go_quiet ((go_at_call 78; exact quiet_pure (HV _).out))
  go_wp2_with (go_at_call 63; refine (fail_good _ (H.out.drewN _)).mono ?_; rintro e w' ⟨rfl, rfl⟩)
  all_goals go_ret2
  all_goals exact ⟨rfl, _, rfl⟩

/-- what peek answers and leaves: the number, how many bytes, the error -/
def peekR (bs : List UInt8) (k : Nat) (e most : Int) : Nat × Nat × Int :=
  if e ≠ 0 then (0, 0, e) else if peekE bs k most ≠ 0 then (0, 0, peekE bs k most) else ((vnum (bs.drop k)).1, (vnum (bs.drop k)).2.1, 0)

theorem vnum_size (bs : List UInt8) : (vnum bs).2.1 ≤ bs.length := by
  unfold vnum
  have := lead_le bs
  repeat' split
  all_goals (simp only []; omega)
theorem peekR_size (bs : List UInt8) (k : Nat) (e most : Int) (hk : k ≤ bs.length) : k + (peekR bs k e most).2.1 ≤ bs.length := by
  have := vnum_size (bs.drop k)
  simp only [List.length_drop] at this
  unfold peekR
  repeat' split
  all_goals (simp only []; omega)

theorem peek_any {w : World} {lo g k : Nat} {bs : List UInt8} {e : Int} (most : Int) (h : Cur w lo g bs k e) :
    Calls Try.prog 60 #[cp g, .int .i64 most] w fun r w' => r = .returned (.tuple #[.int .i64 ((peekR bs k e most).1 : Int), .int .i64 ((peekR bs k e most).2.1 : Int)]) ∧
      Cur w' lo g bs k (peekR bs k e most).2.2 ∧ w.grownBy w' (some g) := by
  by_cases he : e = 0
  · subst he
    by_cases h3 : (vnum (bs.drop k)).2.2 = 0
    · by_cases h4 : most < ((vnum (bs.drop k)).1 : Int)
      · rw [show peekR bs k 0 most = (0, 0, 3) from by simp [peekR, peekE, h3, h4]]
        refine (peek_above most h h3 h4).mono ?_
        rintro r w' ⟨rfl, m, rfl⟩
        exact ⟨rfl, (h.drewN m).setErr 3, gb_setCell (gb_drewN (gb_refl w _) m) (.inl rfl) _⟩
      · have h0 : peekE bs k most = 0 := by simp [peekE, h3]; omega
        rw [show peekR bs k 0 most = ((vnum (bs.drop k)).1, (vnum (bs.drop k)).2.1, 0) from by simp [peekR, h0]]
        refine (peek_good most h h0).mono ?_
        rintro r w' ⟨rfl, m, rfl⟩
        exact ⟨rfl, h.drewN m, gb_drewN (gb_refl w _) m⟩
    · rw [show peekR bs k 0 most = (0, 0, (vnum (bs.drop k)).2.2) from by simp [peekR, peekE, h3]]
      refine (peek_form most h h3).mono ?_
      rintro r w' ⟨rfl, m, rfl⟩
      exact ⟨rfl, (h.drewN m).setErr _, gb_setCell (gb_drewN (gb_refl w _) m) (.inl rfl) _⟩
  · rw [show peekR bs k e most = (0, 0, e) from by simp [peekR, he]]
    refine (peek_bad most h he).mono ?_
    rintro r w' ⟨rfl, rfl⟩
    exact ⟨rfl, h, gb_refl w _⟩

/-- Most: the number, the place, the error -/
def mostR (bs : List UInt8) (k : Nat) (e most : Int) : Nat × Nat × Int := ((peekR bs k e most).1, k + (peekR bs k e most).2.1, (peekR bs k e most).2.2)

theorem takeR_skip (bs : List UInt8) (k : Nat) (e most : Int) (hk : k ≤ bs.length) :
    takeR bs k (peekR bs k e most).2.2 (peekR bs k e most).2.1 0 = ([], (mostR bs k e most).2.1, (mostR bs k e most).2.2) := by
  have hs := peekR_size bs k e most hk
  by_cases h : (peekR bs k e most).2.2 = 0
  · unfold mostR
    rw [h]
    have h2 : ¬ ((bs.length : Int) - k - ((peekR bs k e most).2.1 : Int) < 0) := by omega
    simp [takeR, h2]
  · have h1 : (peekR bs k e most).2.1 = 0 := by
      unfold peekR at h ⊢
      repeat' split
      all_goals first | rfl | (rename_i a b; simp [a, b] at h)
    simp [takeR, h, mostR, h1]

theorem most_any {w : World} {lo g k : Nat} {bs : List UInt8} {e : Int} (most : Int) (h : Cur w lo g bs k e) :
    Calls Try.prog 46 #[cp g, .int .i64 most] w fun r w' => r = .returned (.int .i64 ((mostR bs k e most).1 : Int)) ∧
      Cur w' lo g bs (mostR bs k e most).2.1 (mostR bs k e most).2.2 ∧ w.grownBy w' (some g) := by
  have hk := h.le
  have HP := Lib.hid (peek_any most h)
  have hs := peekR_size bs k e most hk
  have HT := Lib.hid (takeR_skip bs k e most hk)
  have HE0 : (mostR bs k e most).1 = (peekR bs k e most).1 := rfl
  have HE := Lib.hid HE0
  clear h HE0
  generalize mostR bs k e most = M at *
  generalize peekR bs k e most = R at *
  go_enter Try.func46, Try.ntmps46
  go_wp2_with fail
  refine HP.out.mono ?_
  rintro r w1 ⟨rfl, hc1, hg1⟩
  have HC := Lib.hid hc1
  clear hc1
  go_wp2_with fail
  refine (take_any _ _ HC.out hs).mono ?_
  rintro r w2 ⟨A, c, rfl, hrd, hc2, hg2⟩
  rw [HT.out] at hc2
  clear hrd
  have HC2 := Lib.hid hc2
  clear hc2
  go_wp2_with fail
  go_ret
  exact ⟨by rw [HE.out]; rfl, HC2.out, hg1.trans hg2⟩

end Go.Proofs.Ytepgkdmfoojppaa
namespace Go.Proofs.Ytepgkdmfoojppaa
set_option linter.unusedSimpArgs false
set_option linter.unusedVariables false
open Go.RowKit

/-- Byte: the first byte taken, or 0 -/
theorem byte_any {w : World} {lo g k : Nat} {bs : List UInt8} {e : Int} (h : Cur w lo g bs k e) :
    Calls Try.prog 79 #[cp g] w fun r w' => r = .returned (.int .i64 (((takeR bs k e 0 1).1.headD 0).toNat : Int)) ∧
      Cur w' lo g bs (takeR bs k e 0 1).2.1 (takeR bs k e 0 1).2.2 ∧ w.grownBy w' (some g) := by
  have hk := h.le
  have HT := Lib.hid (take_any 0 1 h (by omega))
  have h1 := takeR_one bs k e
  clear h
  generalize takeR bs k e 0 1 = T at *
  obtain ⟨l, k', e'⟩ := T
  simp only [] at *
  rcases l with _ | ⟨x, r⟩
  · go_enter Try.func79, Try.ntmps79
    go_wp2_with fail
    refine HT.out.mono ?_
    rintro r w1 ⟨A, c, rfl, hrd, hc1, hg1⟩
    have HC := Lib.hid hc1
    clear hc1 hrd
    go_wp2_with fail
    go_ret
    exact ⟨rfl, HC.out, hg1⟩
  · have hr : r = [] := by simp at h1; exact h1
    subst hr
    have hx : x.toNat < 256 := UInt8.toNat_lt _
    go_enter Try.func79, Try.ntmps79
    go_wp2_with fail
    refine HT.out.mono ?_
    rintro r w1 ⟨A, c, rfl, hrd, hc1, hg1⟩
    have HC := Lib.hid hc1
    obtain ⟨b, off, rfl, _, _, hcell⟩ := hrd.get (k := 0) (by simp [bv])
    rw [Nat.add_zero] at hcell
    have hcell' : w1.cell? ⟨b, off, none⟩ = some (.int .u8 (x.toNat : Int)) := hcell
    have HG := Lib.hid hg1
    clear hc1 hrd hcell h1 hg1
    go_wp2
    go_ret
    exact ⟨rfl, HC.out, HG.out⟩

end Go.Proofs.Ytepgkdmfoojppaa
namespace Go.Proofs.Ytepgkdmfoojppaa
set_option linter.unusedSimpArgs false
set_option linter.unusedVariables false
open Go.RowKit

theorem mostR_le (bs : List UInt8) (k : Nat) (e most : Int) : (mostR bs k e most).1 = 0 ∨ ((mostR bs k e most).1 : Int) ≤ most := by
  unfold mostR peekR
  by_cases he : e ≠ 0
  · rw [if_pos he]; exact .inl rfl
  · rw [if_neg he]
    by_cases hp : peekE bs k most ≠ 0
    · rw [if_pos hp]; exact .inl rfl
    · rw [if_neg hp]
      refine .inr ?_
      have h : peekE bs k most = 0 := Decidable.not_not.1 hp
      unfold peekE at h
      split at h
      · contradiction
      · split at h
        · omega
        · simp only []; omega

theorem mostR_good (bs : List UInt8) (most : Int) (h : (vnum bs).2.2 = 0) (hn : ((vnum bs).1 : Int) ≤ most) : mostR bs 0 0 most = ((vnum bs).1, (vnum bs).2.1, 0) := by
  have h2 : ¬ (most < ((vnum bs).1 : Int)) := by omega
  simp [mostR, peekR, peekE, h, h2]
theorem mostR_over (bs : List UInt8) (most : Int) (h : (vnum bs).2.2 = 0) (hn : most < ((vnum bs).1 : Int)) : mostR bs 0 0 most = (0, 0, 3) := by
  simp [mostR, peekR, peekE, h, hn]
theorem mostR_bad (bs : List UInt8) (most : Int) (h : (vnum bs).2.2 ≠ 0) : mostR bs 0 0 most = (0, 0, (vnum bs).2.2) := by
  simp [mostR, peekR, peekE, h]

end Go.Proofs.Ytepgkdmfoojppaa
namespace Go.Proofs.Ytepgkdmfoojppaa
set_option linter.unusedSimpArgs false
set_option linter.unusedVariables false
open Go.RowKit

/-- the varint of a number -/
def putL (n : Nat) : List UInt8 :=
  if h : n < 128 then [UInt8.ofNat n] else UInt8.ofNat (n % 128 + 128) :: putL (n / 128)
termination_by n
decreasing_by omega

theorem putL_small {n : Nat} (h : n < 128) : putL n = [UInt8.ofNat n] := by rw [putL, dif_pos h]
theorem putL_big {n : Nat} (h : 128 ≤ n) : putL n = UInt8.ofNat (n % 128 + 128) :: putL (n / 128) := by rw [putL, dif_neg (by omega)]

theorem putL_le (k : Nat) : ∀ n : Nat, n < 128 ^ (k + 1) → (putL n).length ≤ k + 1 := by
  induction k with
  | zero => intro n h; rw [putL_small (by simpa using h)]; simp
  | succ k ih =>
    intro n h
    by_cases hn : n < 128
    · rw [putL_small hn]; simp
    · rw [putL_big (by omega)]
      have := ih (n / 128) (by rw [Nat.pow_succ] at h; omega)
      simp only [List.length_cons]
      omega
theorem putL_pos (n : Nat) : 0 < (putL n).length := by
  by_cases hn : n < 128
  · rw [putL_small hn]; simp
  · rw [putL_big (by omega)]; simp
theorem putL_nine (n : Nat) (h : n ≤ 9223372036854775807) : (putL n).length ≤ 9 := putL_le 8 n (by omega)

theorem or128 : ∀ x : Fin 256, x.val ||| 128 = x.val % 128 + 128 := by decide +kernel
theorem or_more (m : Nat) : bits .or .u8 ((m : Int) % 256) 128 = ((UInt8.ofNat (m % 128 + 128)).toNat : Int) := by
  have h1 : bits .or .u8 ((m % 256 : Nat) : Int) ((128 : Nat) : Int) = ((m % 256 ||| 128 : Nat) : Int) := u8_or_nat _ _ (by omega) (by omega)
  have h2 := or128 ⟨m % 256, by omega⟩
  simp only [] at h2
  have h3 : (UInt8.ofNat (m % 128 + 128)).toNat = m % 128 + 128 := by rw [UInt8.toNat_ofNat']; omega
  rw [h3, show m % 128 + 128 = m % 256 % 128 + 128 from by omega, ← h2, ← h1, Int.natCast_emod]
  rfl
end Go.Proofs.Ytepgkdmfoojppaa
