/-
  The document's Longest of layer 10.
  The document's Order of layer 10: the least one that is greater than the last, again and again.
  The symbol package: follows, Right.
  Appends of bytes, in this program.
  The cursor's small functions, each by what it answers and what it leaves: clone, New, Good, Left, Fail.
-/
import Derived.Test.YtmffpbhiehjlpaaGreatZ01
import Derived.Lib.Strings
import Derived.Test.YtmffpbhiehjlpaaGreatRows
import Derived.Test.YtmffpbhiehjlpaaGreatZ00
import Derived.Outline
import Derived.BigQuiet
import Derived.Deep.QuietTactic
namespace Go.Proofs.YtmffpbhiehjlpaaGreat
set_option linter.unusedSimpArgs false
set_option linter.unusedVariables false
open Go.RowKit
def longF : List (List UInt8) → Nat → Int → Nat → List UInt8 → Int × Nat
  | [], _, c, n, _ => (c, n)
  | t :: ts, i, c, n, l => if n < t.length ∧ t.isPrefixOf l = true then longF ts (i + 1) (i : Int) t.length l else longF ts (i + 1) c n l
theorem pre_iff {t l : List UInt8} (h : t.length ≤ l.length) : t.isPrefixOf l = true ↔ l.take t.length = t := by
  rw [List.isPrefixOf_iff_prefix]
  constructor
  · intro h2
    exact (List.prefix_iff_eq_take.1 h2).symm
  · intro h2
    rw [← h2]
    exact List.take_prefix _ _
theorem pre_no {t l : List UInt8} (h : l.length < t.length) : ¬ t.isPrefixOf l = true := fun h2 => by
  have := (List.isPrefixOf_iff_prefix.1 h2).length_le
  omega
theorem lenS (s : ByteArray) : s.data.toList.length = s.size := by rw [Array.length_toList]; rfl
theorem headS (s : ByteArray) (k : Nat) : (s.extract 0 k).data.toList = s.data.toList.take k := by
  rw [ByteArray.data_extract, Array.toList_extract]
  simp [List.extract_eq_take_drop]
set_option maxRecDepth 20000 in
set_option maxHeartbeats 2000000 in
theorem refLongest_any {w : World} (l : List ByteArray) (s : ByteArray) {lo hi c : Nat} {A : Option Addr} (h : Rd w lo hi A c (sv l)) (h1k : ∀ t ∈ l, t.size ≤ 100000) (hs : s.size ≤ 100000) (hln : l.length ≤ 100000) :
    Calls Tryz.prog 72 #[.slice A l.length c, .string s] w fun r w' => r = .returned (.tuple #[.int .i64 (longF (bytL2 l) 0 (-1) 0 s.data.toList).1, .int .i64 ((longF (bytL2 l) 0 (-1) 0 s.data.toList).2 : Int)]) ∧ ∃ m, w' = w.drewN m := by
  have hl := h.len
  have hm := h.cap
  rw [sv_length] at hl
  unfold maxLen at hm
  have H := Lib.hid h
  have H1 : Hid (∀ k (hk : k < l.length), l[k].size ≤ 100000) := fun k hk => h1k _ (List.getElem_mem hk)
  clear h h1k
  obtain ⟨v, hv⟩ : ∃ v, longF (bytL2 l) 0 (-1) 0 s.data.toList = v := ⟨_, rfl⟩
  rw [hv]
  have hsl := lenS s
  go_enter Tryz.func72, Tryz.ntmps72
  go_wp2_with fail
  go_loopw [6, 7, 8] (fun x6 x7 x8 wr => ∃ (k n m : Nat) (cc : Int), k ≤ l.length ∧ x8 = .int .i64 (k : Int) ∧ x7 = .int .i64 (n : Int) ∧ x6 = .int .i64 cc ∧ n ≤ 100000 ∧ longF ((bytL2 l).drop k) k cc n s.data.toList = v ∧ wr = w.drewN m) (fun _ _ i _ => l.length - (intOf i).toNat)
  case atStart => exact ⟨0, 0, 0, -1, Nat.zero_le _, rfl, rfl, rfl, by omega, by rw [List.drop_zero]; exact hv, rfl⟩
  case round =>
    obtain ⟨k, n, m, cc, hk, rfl, rfl, rfl, hn, hinv, rfl⟩ := hrel
    have HI := Lib.hid hinv
    clear hinv hv
    by_cases hlt : k < l.length
    · have ik : (k : Int) < (l.length : Int) := by omega
      obtain ⟨b, off, rfl, _, _, hcell⟩ := H.out.str hlt
      have hsz1 := H1.out k hlt
      have hdr : (bytL2 l).drop k = l[k].data.toList :: (bytL2 l).drop (k + 1) := by
        rw [List.drop_eq_getElem_cons (by rw [bytL2_length]; exact hlt), bytL2_get l k hlt]
      have hst := HI.out
      rw [hdr] at hst
      unfold longF at hst
      rw [lenS] at hst
      clear hdr HI
      have htl := lenS l[k]
      have hhd := headS s l[k].size
      generalize l[k] = t at *
      have HSK : Hid (¬ (n < t.size ∧ t.data.toList.isPrefixOf s.data.toList = true) → longF ((bytL2 l).drop (k + 1)) (k + 1) cc n s.data.toList = v) := fun h => by rw [if_neg h] at hst; exact hst
      have HTK : Hid (n < t.size ∧ t.data.toList.isPrefixOf s.data.toList = true → longF ((bytL2 l).drop (k + 1)) (k + 1) (k : Int) t.size s.data.toList = v) := fun h => by rw [if_pos h] at hst; exact hst
      clear hst
      by_cases h1 : n < t.size
      · have d1 : decide ((n : Int) < (t.size : Int)) = true := decide_eq_true (by omega)
        by_cases h2 : t.size ≤ s.size
        · have d2 : decide ((t.size : Int) ≤ (s.size : Int)) = true := decide_eq_true (by omega)
          have i2 : (t.size : Int) ≤ (s.size : Int) := by omega
          by_cases h3 : t.data.toList.isPrefixOf s.data.toList = true
          · have d3 : ((s.extract 0 t.size).toList == t.toList) = true := by
              rw [beq_iff_eq, Lib.toList_data, Lib.toList_data, hhd, ← htl]
              exact (pre_iff (by omega)).1 h3
            have HT := Lib.hid (HTK.out ⟨h1, h3⟩)
            clear h3 hhd htl hsl
            go_wp2_with fail
            go_quiet (fail)
            go_wp2_with fail
            go_roundw
            case rel => exact ⟨k + 1, t.size, _, (k : Int), by omega, by go_num, rfl, rfl, by omega, HT.out, by first | rfl | (rw [World.drewN_drewN])⟩
            case measure => simp [intOf] <;> omega
          · have d3 : ((s.extract 0 t.size).toList == t.toList) = false := by
              rw [beq_eq_false_iff_ne, ne_eq, Lib.toList_data, Lib.toList_data, hhd, ← htl]
              exact fun e => h3 ((pre_iff (by omega)).2 e)
            have HS := Lib.hid (HSK.out (fun e => h3 e.2))
            clear h3 hhd htl hsl
            go_wp2_with fail
            go_quiet (fail)
            go_wp2_with fail
            go_roundw
            case rel => exact ⟨k + 1, n, _, cc, by omega, by go_num, rfl, rfl, by omega, HS.out, by first | rfl | (rw [World.drewN_drewN])⟩
            case measure => simp [intOf] <;> omega
        · have d2 : decide ((t.size : Int) ≤ (s.size : Int)) = false := decide_eq_false (by omega)
          have HS := Lib.hid (HSK.out (fun e => pre_no (by omega) e.2))
          clear hhd htl hsl
          go_wp2_with fail
          go_quiet (fail)
          go_wp2_with fail
          go_roundw
          case rel => exact ⟨k + 1, n, _, cc, by omega, by go_num, rfl, rfl, by omega, HS.out, by first | rfl | (rw [World.drewN_drewN])⟩
          case measure => simp [intOf] <;> omega
      · have d1 : decide ((n : Int) < (t.size : Int)) = false := decide_eq_false (by omega)
        have HS := Lib.hid (HSK.out (fun e => h1 e.1))
        clear hhd htl hsl
        go_wp2_with fail
        go_quiet (fail)
        go_wp2_with fail
        go_roundw
        case rel => exact ⟨k + 1, n, _, cc, by omega, by go_num, rfl, rfl, by omega, HS.out, by first | rfl | (rw [World.drewN_drewN])⟩
        case measure => simp [intOf] <;> omega
    · have ik : ¬ (k : Int) < (l.length : Int) := by omega
      have hfin : (cc, n) = v := by
        have := HI.out
        rw [List.drop_of_length_le (by rw [bytL2_length]; omega)] at this
        exact this
      have HF := Lib.hid hfin
      clear hfin
      go_wp2_with fail
      go_ret2
      exact ⟨by rw [← HF.out]; rfl, m, rfl⟩
end Go.Proofs.YtmffpbhiehjlpaaGreat
namespace Go.Proofs.YtmffpbhiehjlpaaGreat
set_option linter.unusedSimpArgs false
set_option linter.unusedVariables false
open Go.RowKit
theorem cmpL_neg (a b : List UInt8) : 0 < cmpL b a ↔ cmpL a b < 0 := by rw [cmpL_turn a b]; omega
def Cand (ts : List (List UInt8)) (s : List UInt8) : Prop := okS s = true ∧ ∀ x ∈ ts, cmpL x s < 0
theorem rises_push : ∀ {t : List (List UInt8)} {b : List UInt8}, risesL t = true → (∀ x ∈ t, cmpL x b < 0) → risesL (t ++ [b]) = true
  | [], b, _, _ => rfl
  | [a], b, _, h => by
    show risesL [a, b] = true
    exact rises_cons.2 ⟨h a List.mem_cons_self, rfl⟩
  | a :: c :: t, b, hr, h => by
    obtain ⟨h1, h2⟩ := rises_cons.1 hr
    exact rises_cons.2 ⟨h1, rises_push h2 fun x hx => h x (List.mem_cons_of_mem _ hx)⟩
theorem rises_last : ∀ {t : List (List UInt8)} {a : List UInt8}, risesL (t ++ [a]) = true → ∀ x ∈ t, cmpL x a < 0
  | [], _, _, x, hx => by cases hx
  | b :: t, a, h, x, hx => by
    have h1 : ∀ y ∈ t ++ [a], cmpL b y < 0 := rises_head (a := b) (t := t ++ [a]) h
    rcases List.mem_cons.1 hx with rfl | hx
    · exact h1 a (List.mem_append_right _ List.mem_cons_self)
    · exact rises_last (rises_tail (a := b) (t := t ++ [a]) h) x hx
theorem cand_last {t : List (List UInt8)} {a s : List UInt8} (h : risesL (t ++ [a]) = true) (ho : okS s = true) : Cand (t ++ [a]) s ↔ 0 < cmpL s a := by
  rw [cmpL_neg a s]
  constructor
  · rintro ⟨_, h2⟩
    exact h2 a (List.mem_append_right _ List.mem_cons_self)
  · intro h2
    refine ⟨ho, fun x hx => ?_⟩
    rcases List.mem_append.1 hx with hx | hx
    · exact cmpL_lt_trans (rises_last h x hx) h2
    · rw [List.mem_singleton.1 hx]; exact h2
theorem cand_nil {s : List UInt8} : Cand [] s ↔ okS s = true := ⟨fun h => h.1, fun h => ⟨h, fun x hx => by cases hx⟩⟩
structure Ord (l t : List (List UInt8)) : Prop where
  rises : risesL t = true
  of : ∀ x ∈ t, x ∈ l ∧ okS x = true
  all : ∀ s ∈ l, okS s = true → s ∈ t ∨ ∀ x ∈ t, cmpL x s < 0
theorem Ord.nil (l : List (List UInt8)) : Ord l [] := ⟨rfl, fun x hx => (by cases hx), fun s _ _ => Or.inr fun x hx => (by cases hx)⟩
theorem Ord.push {l t : List (List UInt8)} {b : List UInt8} (h : Ord l t) (hb : b ∈ l) (hc : Cand t b) (hm : ∀ s ∈ l, Cand t s → cmpL b s ≤ 0) : Ord l (t ++ [b]) := by
  refine ⟨rises_push h.rises hc.2, fun x hx => ?_, fun s hs ho => ?_⟩
  · rcases List.mem_append.1 hx with hx | hx
    · exact h.of x hx
    · rw [List.mem_singleton.1 hx]; exact ⟨hb, hc.1⟩
  · rcases h.all s hs ho with h1 | h1
    · exact Or.inl (List.mem_append_left _ h1)
    · have h2 := hm s hs ⟨ho, h1⟩
      rcases Int.lt_or_eq_of_le h2 with h3 | h3
      · refine Or.inr fun x hx => ?_
        rcases List.mem_append.1 hx with hx | hx
        · exact h1 x hx
        · rw [List.mem_singleton.1 hx]; exact h3
      · rw [← cmpL_zero h3]
        exact Or.inl (List.mem_append_right _ List.mem_cons_self)
theorem Ord.done {l t : List (List UInt8)} (h : Ord l t) (hn : ∀ s ∈ l, ¬ Cand t s) (h5 : t.length ≤ 255) : IsOrder l t :=
  ⟨h.rises, h5, h.of, fun s hs ho => (h.all s hs ho).imp id fun h1 => absurd ⟨ho, h1⟩ (hn s hs)⟩
theorem Ord.full {l t : List (List UInt8)} (h : Ord l t) (h5 : t.length = 255) : IsOrder l t :=
  ⟨h.rises, by omega, h.of, fun s hs ho => (h.all s hs ho).imp id fun h1 => ⟨h5, h1⟩⟩
def Inn (l t : List (List UInt8)) (k : Nat) (b : List UInt8) : Prop :=
  (b = [] ∧ ∀ j (hj : j < l.length), j < k → ¬ Cand t l[j]) ∨ (Cand t b ∧ b ∈ l ∧ ∀ j (hj : j < l.length), j < k → Cand t l[j] → cmpL b l[j] ≤ 0)
theorem cand_ne {t : List (List UInt8)} {b : List UInt8} (h : Cand t b) : b ≠ [] := fun e => by
  subst e
  have := h.1
  simp [okS] at this
theorem inn_zero (l t : List (List UInt8)) : Inn l t 0 [] := Or.inl ⟨rfl, fun j _ h => absurd h (Nat.not_lt_zero j)⟩
theorem inn_skip {l t : List (List UInt8)} {k : Nat} {b : List UInt8} (h : Inn l t k b) (hk : k < l.length) (hc : ¬ Cand t l[k]) : Inn l t (k + 1) b := by
  rcases h with ⟨h1, h2⟩ | ⟨h1, h2, h3⟩
  · refine Or.inl ⟨h1, fun j hj hjk => ?_⟩
    rcases Nat.lt_or_ge j k with h4 | h4
    · exact h2 j hj h4
    · have : j = k := by omega
      subst this
      exact hc
  · refine Or.inr ⟨h1, h2, fun j hj hjk hcj => ?_⟩
    rcases Nat.lt_or_ge j k with h4 | h4
    · exact h3 j hj h4 hcj
    · have : j = k := by omega
      subst this
      exact absurd hcj hc
theorem inn_first {l t : List (List UInt8)} {k : Nat} (h : Inn l t k []) (hk : k < l.length) (hc : Cand t l[k]) : Inn l t (k + 1) l[k] := by
  rcases h with ⟨_, h2⟩ | ⟨h1, _, _⟩
  · refine Or.inr ⟨hc, List.getElem_mem hk, fun j hj hjk hcj => ?_⟩
    rcases Nat.lt_or_ge j k with h4 | h4
    · exact absurd hcj (h2 j hj h4)
    · have : j = k := by omega
      subst this
      rw [cmpL_same]
      exact Int.le_refl _
  · exact absurd rfl (cand_ne h1)
theorem inn_less {l t : List (List UInt8)} {k : Nat} {b : List UInt8} (h : Inn l t k b) (hb : b ≠ []) (hk : k < l.length) (hc : Cand t l[k]) (hl : cmpL l[k] b < 0) : Inn l t (k + 1) l[k] := by
  rcases h with ⟨h1, _⟩ | ⟨h1, h2, h3⟩
  · exact absurd h1 hb
  · refine Or.inr ⟨hc, List.getElem_mem hk, fun j hj hjk hcj => ?_⟩
    rcases Nat.lt_or_ge j k with h4 | h4
    · rcases Int.lt_or_eq_of_le (h3 j hj h4 hcj) with h5 | h5
      · exact Int.le_of_lt (cmpL_lt_trans hl h5)
      · rw [← cmpL_zero h5]
        exact Int.le_of_lt hl
    · have : j = k := by omega
      subst this
      rw [cmpL_same]
      exact Int.le_refl _
theorem inn_keep {l t : List (List UInt8)} {k : Nat} {b : List UInt8} (h : Inn l t k b) (hb : b ≠ []) (hk : k < l.length) (hl : ¬ cmpL l[k] b < 0) : Inn l t (k + 1) b := by
  rcases h with ⟨h1, _⟩ | ⟨h1, h2, h3⟩
  · exact absurd h1 hb
  · refine Or.inr ⟨h1, h2, fun j hj hjk hcj => ?_⟩
    rcases Nat.lt_or_ge j k with h4 | h4
    · exact h3 j hj h4 hcj
    · have : j = k := by omega
      subst this
      have := cmpL_turn b l[j]
      omega
end Go.Proofs.YtmffpbhiehjlpaaGreat
namespace Go.Proofs.YtmffpbhiehjlpaaGreat
set_option linter.unusedSimpArgs false
set_option linter.unusedVariables false
open Go.RowKit
def folL (last s : List UInt8) : Bool := okS s && decide (cmpL last s < 0)
theorem follows_any {w : World} (a s : ByteArray) (hs : s.size ≤ 9223372036854775807) : Calls Tryz.prog 97 #[.string a, .string s] w fun r w' => r = .returned (.bool (folL a.data.toList s.data.toList)) ∧ ∃ m, w' = w.drewN m := by
  have HF := Lib.hid (fun w => fits_any (w := w) (s.size : Int))
  rw [fits_size] at HF
  have hless := less_str a s
  unfold folL
  by_cases hok : okS s.data.toList = true
  · rw [hok] at HF ⊢
    generalize decide (cmpL a.data.toList s.data.toList < 0) = v at *
    go_enter Tryz.func97, Tryz.ntmps97
    go_wp2_with fail
    refine (HF.out _).mono ?_
    rintro r w' ⟨rfl, rfl⟩
    go_wp2
    go_ret
    exact ⟨rfl, 0, rfl⟩
  · rw [Bool.not_eq_true] at hok
    rw [hok] at HF ⊢
    clear hless
    go_enter Tryz.func97, Tryz.ntmps97
    go_wp2_with fail
    refine (HF.out _).mono ?_
    rintro r w' ⟨rfl, rfl⟩
    go_wp2
    go_ret
    exact ⟨rfl, 0, rfl⟩
set_option maxRecDepth 20000 in
set_option maxHeartbeats 2000000 in
theorem sright_any {w : World} (l : List ByteArray) {lo hi c : Nat} {A : Option Addr} (h : Rd w lo hi A c (sv l)) (h1k : ∀ s ∈ l, s.size ≤ 9223372036854775807) :
    Calls Tryz.prog 128 #[.slice A l.length c] w fun r w' => r = .returned (.bool (rightT (bytL2 l))) ∧ ∃ m, w' = w.drewN m := by
  have hl := h.len
  have hm := h.cap
  rw [sv_length] at hl
  unfold maxLen at hm
  have H := Lib.hid h
  have H1 : Hid (∀ k (hk : k < l.length), l[k].size ≤ 9223372036854775807) := fun k hk => h1k _ (List.getElem_mem hk)
  clear h h1k
  obtain ⟨v, hv⟩ : ∃ v, rightT (bytL2 l) = v := ⟨_, rfl⟩
  rw [hv]
  have HNO : Hid (∀ k (hk : k < l.length) (last : ByteArray), (last = ⟨#[]⟩ ∧ k = 0 ∨ ∃ j, ∃ (hj : j < l.length), k = j + 1 ∧ last = l[j]) → folL last.data.toList l[k].data.toList = false → v = false) := fun k hk last hla h => by
    cases hvv : v with
    | false => rfl
    | true =>
      rw [hvv] at hv
      have h1 := (rightT_iff.1 hv).2.1 _ (List.getElem_mem (l := bytL2 l) (n := k) (by rw [bytL2_length]; exact hk))
      rw [bytL2_get l k hk] at h1
      rw [folL, h1, Bool.true_and] at h
      have h := of_decide_eq_false h
      rcases hla with ⟨rfl, _⟩ | ⟨j, hj, rfl, rfl⟩
      · refine absurd ?_ h
        have := (okS_iff.1 h1).1
        cases hx : l[k].data.toList with
        | nil => rw [hx] at this; simp at this
        | cons => simp [cmpL]
      · have := rises_adj (rightT_iff.1 hv).2.2 (k := j) (by rw [bytL2_length]; exact hk)
        rw [bytL2_get l j (by omega), bytL2_get l (j + 1) hk] at this
        exact absurd this h
  have HFI : Hid ((∀ k (hk : k < l.length), okS l[k].data.toList = true) → risesL ((bytL2 l).take l.length) = true → v = decide (l.length ≤ 255)) := fun h3 h4 => by
    rw [← hv, Bool.eq_iff_iff, rightT_iff, bytL2_length, decide_eq_true_eq]
    refine ⟨fun h => h.1, fun h2 => ⟨h2, fun s hs => ?_, ?_⟩⟩
    · obtain ⟨k, hk, rfl⟩ := List.getElem_of_mem hs
      rw [bytL2_length] at hk
      rw [bytL2_get l k hk]
      exact h3 k hk
    · rw [List.take_of_length_le (by rw [bytL2_length]; exact Nat.le_refl _)] at h4
      exact h4
  clear hv
  go_enter Tryz.func128, Tryz.ntmps128
  go_wp2_with fail
  go_loopw [3, 8] (fun la i wr => ∃ (k m : Nat) (last : ByteArray), k ≤ l.length ∧ i = .int .i64 (k : Int) ∧ la = .string last ∧ (last = ⟨#[]⟩ ∧ k = 0 ∨ ∃ j, ∃ (hj : j < l.length), k = j + 1 ∧ last = l[j]) ∧ (∀ j (hj : j < l.length), j < k → okS l[j].data.toList = true) ∧ risesL ((bytL2 l).take k) = true ∧ wr = w.drewN m) (fun _ i _ => l.length - (intOf i).toNat)
  case atStart => exact ⟨0, 0, ⟨#[]⟩, Nat.zero_le _, rfl, rfl, .inl ⟨rfl, rfl⟩, fun j _ h => absurd h (Nat.not_lt_zero j), rfl, rfl⟩
  case round =>
    obtain ⟨k, m, last, hk, rfl, rfl, hla, hok, hri, rfl⟩ := hrel
    have HO := Lib.hid hok
    have HR := Lib.hid hri
    have HLA := Lib.hid hla
    clear hok hri hla
    by_cases hlt : k < l.length
    · have ik : (k : Int) < (l.length : Int) := by omega
      obtain ⟨b, off, rfl, _, _, hcell⟩ := H.out.str hlt
      have HFO := Lib.hid (fun w => follows_any (w := w) last l[k] (H1.out k hlt))
      have HV := Lib.hid (HNO.out k hlt last HLA.out)
      obtain ⟨f, hf⟩ : ∃ f, folL last.data.toList l[k].data.toList = f := ⟨_, rfl⟩
      have HE : Hid (folL last.data.toList l[k].data.toList = f) := hf
      rw [hf] at HFO HV
      clear hf
      cases f with
      | false =>
        have HVV := Lib.hid (HV.out rfl)
        go_wp2_with fail
        refine (HFO.out _).mono ?_
        rintro r w' ⟨rfl, m2, rfl⟩
        go_wp2_with fail
        go_ret
        exact ⟨ret_bool HVV.out.symm, m + m2, rfl⟩
      | true =>
        have HOK : Hid (∀ j (hj : j < l.length), j < k + 1 → okS l[j].data.toList = true) := fun j hj hjk => by
          rcases Nat.lt_or_ge j k with h2 | h2
          · exact HO.out j hj h2
          · have : j = k := by omega
            subst this
            have := HE.out
            rw [folL, Bool.and_eq_true] at this
            exact this.1
        have HRS : Hid (risesL ((bytL2 l).take (k + 1)) = true) := by
          unfold Hid
          rcases HLA.out with ⟨rfl, rfl⟩ | ⟨j, hj, rfl, rfl⟩
          · rw [List.take_succ_eq_append_getElem (by rw [bytL2_length]; omega)]
            rfl
          · rw [rises_take_succ (by rw [bytL2_length]; omega), bytL2_get l j (by omega), bytL2_get l (j + 1) hlt, HR.out, Bool.true_and]
            have := HE.out
            rw [folL, Bool.and_eq_true] at this
            exact this.2
        go_wp2_with fail
        refine (HFO.out _).mono ?_
        rintro r w' ⟨rfl, m2, rfl⟩
        go_wp2_with fail
        go_roundw
        case rel => exact ⟨k + 1, m + m2, l[k], by omega, by first | rfl | go_num, rfl, .inr ⟨k, hlt, rfl, rfl⟩, HOK.out, HRS.out, rfl⟩
        case measure => simp [intOf] <;> omega
    · have ik : ¬ (k : Int) < (l.length : Int) := by omega
      have hke : k = l.length := by omega
      have HV : Hid (v = decide (l.length ≤ 255)) := HFI.out (fun j hj => HO.out j hj (by omega)) (by rw [← hke]; exact HR.out)
      go_wp2_with fail
      go_ret
      refine ⟨?_, m, rfl⟩
      rw [HV.out]
      first | rfl | (apply ret_bool; rw [decide_eq_decide]; omega)
end Go.Proofs.YtmffpbhiehjlpaaGreat
namespace Go.Proofs.YtmffpbhiehjlpaaGreat
set_option linter.unusedSimpArgs false
set_option linter.unusedVariables false
open Go.RowKit
theorem Rd.byte {w : World} {lo hi c : Nat} {A : Option Addr} {bs : List UInt8} (h : Rd w lo hi A c (bv bs)) {k : Nat} (hk : k < bs.length) :
    ∃ b off, A = some ⟨b, off, none⟩ ∧ lo ≤ b ∧ b < hi ∧ w.cell? ⟨b, off + k, none⟩ = some (.int .u8 (bs[k].toNat : Int)) := by
  obtain ⟨b, off, e, h1, h2, h3⟩ := h.at_ (by rw [bv_length]; omega)
  exact ⟨b, off, e, h1, h2, h3 k _ (bv_get bs k hk)⟩
theorem Tryz.infoU8 : (Tryz.prog.info? 5).map (fun i => (i.zero, i.size, i.bytes)) = some (some (.int .u8 0), 1, 1) := by kernel_rfl
theorem append_bytes (w : World) (base : Nat) (v : Value) (ys bs : List UInt8) (hown : w.ownsRow base 5 1 v ys.length (bv ys)) {lo h' : Nat} {A : Option Addr} {c : Nat} (hr : Rd w lo h' A c (bv bs))
    (hb : ys.length + bs.length ≤ 140737488355328) (hbase : base ≤ w.heap.size) :
    ∃ A' c' w', (Builtin.append_ #[28, 28] 28 #[v, .slice A bs.length c]).run Tryz.prog w = .ok (.slice A' (ys.length + bs.length) c') w' ∧
      w'.ownsRow base 5 1 (.slice A' (ys.length + bs.length) c') (ys.length + bs.length) (bv (ys ++ bs)) ∧ w.grownBy w' v.ownBlock := by
  obtain ⟨i0, hi0, hz0, hz1, hz2⟩ := info_parts Tryz.infoU8
  have hl := bv_length bs
  obtain ⟨A', c', w', hrun, h2, h3, _⟩ := run_append_rd (P := Tryz.prog) w base 28 28 5 i0 _ 1 Tryz.underlying28 hi0 hz0 hz1 hz2 rfl v ys.length (bv ys) hown lo h' A c (bv bs) hr (bv_one _)
    (by rw [hl]; simp only [maxLen]; omega) (by rw [hl]; omega) hbase
  rw [hl] at hrun h2
  exact ⟨A', c', w', hrun, by rw [bv_append]; exact h2, h3⟩
theorem append_named (w : World) (base : Nat) (v : Value) (ys bs cs : List UInt8) (hcs : ys ++ bs = cs) (hown : w.ownsRow base 5 1 v ys.length (bv ys)) {lo h' : Nat} {A : Option Addr} {c : Nat} (hr : Rd w lo h' A c (bv bs))
    (hb : ys.length + bs.length ≤ 140737488355328) (hbase : base ≤ w.heap.size) :
    ∃ A' c' w', (Builtin.append_ #[28, 28] 28 #[v, .slice A bs.length c]).run Tryz.prog w = .ok (.slice A' cs.length c') w' ∧
      w'.ownsRow base 5 1 (.slice A' cs.length c') cs.length (bv cs) ∧ w.grownBy w' v.ownBlock := by
  subst hcs
  rw [List.length_append]
  exact append_bytes w base v ys bs hown hr hb hbase
theorem wpList_push {ops : Array Oper} {rest : List Oper} {o : Oper} {a : Act} {Q : Exit → Act → World → Prop} {w : World} {v : Value} {g : Nat} (base : Nat) (ys : List UInt8) (b : UInt8) (hgd : o.guard = none) (s x : Operand)
    (ho : o.op = .call { callee := .builtin .append, args := #[s, x], argTypes := #[28, 28] }) (hty : o.type = 28)
    (hs : a.eval s = v) (hx : a.eval x = .slice (some ⟨g, 0, none⟩) 1 1) (hcell : w.cell? ⟨g, 0, none⟩ = some (.int .u8 (b.toNat : Int)))
    (hown : w.ownsRow base 5 1 v ys.length (bv ys)) (hb : ys.length + 1 ≤ 140737488355328) (hbase : base ≤ w.heap.size)
    (h : ∀ A' c' w', w'.ownsRow base 5 1 (.slice A' (ys ++ [b]).length c') (ys ++ [b]).length (bv (ys ++ [b])) → w.grownBy w' v.ownBlock → wpList Tryz.prog ops Q rest (a.put o.dst (.slice A' (ys.length + 1) c')) w') :
    wpList Tryz.prog ops Q (o :: rest) a w := by
  have hr : Rd w 0 w.heap.size (some ⟨g, 0, none⟩) 1 (bv [b]) := ⟨by simp [bv], by simp [maxLen], fun _ => ⟨g, 0, rfl, Nat.zero_le _, World.block_lt_of_cell? w _ hcell, fun j u hu => by
    match j, hu with
    | 0, hu =>
      simp [bv] at hu
      subst hu
      exact hcell
    | j + 1, hu => simp [bv] at hu⟩⟩
  obtain ⟨A', c', w', hrun, h2, h3⟩ := append_bytes w base v ys [b] hown hr (by simpa using hb) hbase
  refine wpList_append_run hgd s x _ _ ho hs hx (by rw [hty]; exact hrun) (h A' c' w' (by simpa using h2) h3)
theorem own_lit (w : World) (l : List UInt8) (cs : Array Value) (h : cs.toList = bv l) (hm : l.length ≤ 1000) : (w.alloc (.cells cs 5)).ownsRow w.heap.size 5 1 (.slice (some ⟨w.heap.size, 0, none⟩) l.length l.length) l.length (bv l) := by
  have := World.ownsRow_lit (e := 5) (size := 1) (base := w.heap.size) w cs l.length (Nat.le_refl _) (by simp only [maxLen]; omega) (by rw [← Array.length_toList, h, bv_length, Nat.mul_one])
  rwa [h] at this
end Go.Proofs.YtmffpbhiehjlpaaGreat
namespace Go.Proofs.YtmffpbhiehjlpaaGreat
set_option linter.unusedSimpArgs false
set_option linter.unusedVariables false
open Go.RowKit
theorem clone_any (bs : List UInt8) (w : World) {lo h' : Nat} {A : Option Addr} {c : Nat} (h : Rd w lo h' A c (bv bs)) (hb : bs.length ≤ 140737488355328) :
    Calls Tryz.prog 49 #[.slice A bs.length c] w fun e w' => ∃ A' c', e = .returned (.slice A' bs.length c') ∧
      w'.ownsRow w.heap.size 5 1 (.slice A' bs.length c') bs.length (bv bs) ∧ Below w.heap.size w w' := by
  obtain ⟨A', c', w', hrun, hown, hg⟩ := append_bytes w w.heap.size (.slice none 0 0) [] bs (World.ownsRow_nil ..) h (by simpa using hb) (Nat.le_refl _)
  simp only [List.length_nil, Nat.zero_add, List.nil_append] at hrun hown
  go_enter Tryz.func49, Tryz.ntmps49
  go_wp2_with (at_builtin; refine wpList_append_run rfl _ _ _ _ rfl rfl rfl hrun ?_)
  go_ret
  exact ⟨A', c', rfl, hown, below_of_gb (Nat.le_refl _) hg (by simp [Value.ownBlock])⟩
def Cur (w : World) (lo g : Nat) (bs : List UInt8) (k : Nat) (e : Int) : Prop :=
  ∃ A c, Blk w g 86 #[.slice A bs.length c, .int .i64 (k : Int), .int .i64 e] ∧ Rd w lo g A c (bv bs) ∧ k ≤ bs.length ∧ lo ≤ g
def cp (g : Nat) : Value := .pointer (some ⟨g, 0, none⟩)
section
variable {w w' : World} {lo g k : Nat} {bs : List UInt8} {e : Int}
theorem Cur.grown {row : Option Nat} (h : Cur w lo g bs k e) (hg : w.grownBy w' row) (hr : ∀ x, row = some x → x < lo ∨ g < x) : Cur w' lo g bs k e := by
  obtain ⟨A, c, hb, hrd, hk, hl⟩ := h
  exact ⟨A, c, hb.grown hg (fun e => by have := hr _ e.symm; omega), hrd.grown hg (by have := hb.lt; omega) (fun x hx => by have := hr x hx; omega), hk, hl⟩
theorem Cur.drewN (h : Cur w lo g bs k e) (n : Nat) : Cur (w.drewN n) lo g bs k e := by
  obtain ⟨A, c, hb, hrd, hk, hl⟩ := h
  exact ⟨A, c, hb.drewN n, hrd.drewN n, hk, hl⟩
theorem Cur.base (h : Cur w lo g bs k e) : lo ≤ g := by obtain ⟨_, _, _, _, _, hl⟩ := h; exact hl
theorem Cur.lt (h : Cur w lo g bs k e) : g < w.heap.size := by obtain ⟨_, _, hb, _⟩ := h; exact hb.lt
end
theorem new_any (bs : List UInt8) (w : World) {lo h' : Nat} {A : Option Addr} {c : Nat} (h : Rd w lo h' A c (bv bs)) (hb : bs.length ≤ 140737488355328) :
    Calls Tryz.prog 19 #[.slice A bs.length c] w fun e w' => ∃ g, e = .returned (.pointer (some ⟨g, 0, none⟩)) ∧ Cur w' w.heap.size g bs 0 0 ∧ Below w.heap.size w w' := by
  go_enter Tryz.func19, Tryz.ntmps19
  go_wp2_with fail
  refine (clone_any bs _ h hb).mono ?_
  rintro e w1 ⟨A', c', rfl, hown, hbel⟩
  go_wp2_with fail
  go_ret
  refine ⟨_, rfl, ⟨A', c', Blk.new _ _ _, (Rd.of_own hown).alloc (Nat.le_refl _) _, Nat.zero_le _, hbel.size⟩, hbel.alloc hbel.size _⟩
theorem good_any {w : World} {lo g k : Nat} {bs : List UInt8} {e : Int} (h : Cur w lo g bs k e) :
    Calls Tryz.prog 27 #[cp g] w fun x w' => x = .returned (.bool (e == 0)) ∧ w = w' := by
  obtain ⟨A, c, hb, -, -, -⟩ := h
  have h2 := hb.cell 2
  simp at h2
  clear hb
  unfold cp
  go_enter Tryz.func27, Tryz.ntmps27
  go_wp2
  go_ret
  exact ⟨rfl, rfl⟩
theorem left_any {w : World} {lo g k : Nat} {bs : List UInt8} {e : Int} (h : Cur w lo g bs k e) :
    Calls Tryz.prog 34 #[cp g] w fun x w' => x = .returned (.int .i64 ((bs.length - k : Nat) : Int)) ∧ ∃ n, w' = w.drewN n := by
  obtain ⟨A, c, hb, hrd, hk, -⟩ := h
  have h0 := hb.cell 0
  have h1 := hb.cell 1
  simp at h0 h1
  have hm := hrd.len
  have hm' := hrd.cap
  rw [bv_length] at hm
  unfold maxLen at hm'
  clear hb hrd
  unfold cp
  rw [Int.ofNat_sub hk]
  go_enter Tryz.func34, Tryz.ntmps34
  go_wp2
  go_quiet (fail)
  go_wp2
  go_ret
  exact ⟨rfl, _, rfl⟩
end Go.Proofs.YtmffpbhiehjlpaaGreat
