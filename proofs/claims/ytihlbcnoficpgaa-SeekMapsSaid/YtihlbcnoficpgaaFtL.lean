/-
  The laws of layer 13: contracts at known answers, what is few.
-/
import Derived.Test.YtihlbcnoficpgaaFtE
import Derived.Test.YtihlbcnoficpgaaFtG
import Derived.Test.YtihlbcnoficpgaaMgF
import Derived.Test.YtihlbcnoficpgaaSamS
import Derived.Test.YtihlbcnoficpgaaDrwM
namespace Go.Proofs.Ytihlbcnoficpgaa
set_option linter.unusedSimpArgs false
set_option linter.unusedVariables false
open Go.RowKit

theorem fsame_is {w : World} (xs ys : List ByteArray) (b : Bool) {lo h' lo2 h2 n m : Nat} {A B : Option Addr} {c d : Nat} (hx : Rd w lo h' A c (sv xs)) (hy : Rd w lo2 h2 B d (sv ys)) (hn : xs.length = n) (hm : ys.length = m) (hb : decide (xs = ys) = b) :
    Calls Try.prog 17 #[.slice A n c, .slice B m d] w fun r w' => r = .returned (.bool b) ∧ ∃ q, w' = w.drewN q := by
  subst hn; subst hm; subst hb
  refine (same_strs xs ys hx hy).mono ?_
  rintro r w' ⟨rfl, q, rfl⟩
  exact ⟨rfl, q, rfl⟩
instance (l : List ByteArray) : Decidable (FewD l) := by unfold FewD; infer_instance
theorem fewd_is {w : World} (l : List ByteArray) (b : Bool) {lo hi c : Nat} {A : Option Addr} (h : Rd w lo hi A c (sv l)) (hb : decide (FewD l) = b) :
    Calls Try.prog 21 #[.slice A l.length c] w fun r w' => r = .returned (.bool b) ∧ w = w' := hb ▸ refFewD_any l h
theorem rightd_is {w : World} (l : List ByteArray) (z : Int) (b : Bool) {lo hi n c : Nat} {A : Option Addr} (h : Rd w lo hi A c (sv l)) (hs : ∀ s ∈ l, s.size ≤ 1000000000) (hb : rightD (bytL2 l) z = b) (hn : l.length = n) :
    Calls Try.prog 22 #[.slice A n c, .int .i64 z] w fun r w' => r = .returned (.bool b) ∧ ∃ m, w' = w.drewN m := by
  subst hn; subst hb
  exact refRightD_any l z h hs
theorem refsorted_is {w : World} (l : List ByteArray) {lo n c m : Nat} {A : Option Addr} (h : Rd w lo w.heap.size A c (sv l)) (hsz : ∀ s ∈ l, s.size ≤ m) (hm : m ≤ 100000) (hlen : l.length ≤ 1000) (hn : l.length = n) :
    Calls Try.prog 19 #[.slice A n c] w fun r w' => ∃ (t : List ByteArray) (A' : Option Addr) (c' : Nat), r = .returned (.slice A' t.length c') ∧ (risesL (bytL2 t) = true ∧ (∀ s ∈ t, s.size ≤ m) ∧ t.length ≤ n) ∧
      w'.ownsRow w.heap.size 9 1 (.slice A' t.length c') t.length (sv t) ∧ Below w.heap.size w w' := by
  subst hn
  refine (refSorted_any l (h.wide (Nat.zero_le _) (Nat.le_refl _)) (fun s hs => by have := hsz s hs; omega) hlen).mono ?_
  rintro r w' ⟨t, A', c', h1, h2, h3, h4, h5⟩
  exact ⟨t, A', c', h1, ⟨h2.1, fun s hs => by
    have h6 := (h2.2 s.data.toList).1 (List.mem_map_of_mem hs)
    obtain ⟨x, hx, he⟩ := List.mem_map.1 h6
    rw [← str_inj he]
    exact hsz x hx, h3⟩, h4, h5⟩
theorem sum_total : ∀ l : List ByteArray, sumL (bytL2 l) = total l
  | [] => rfl
  | s :: l => by
    have := sum_total l
    show s.data.toList.length + sumL (bytL2 l) = s.size + total l
    rw [this, lenD]
theorem refbuild_is {w : World} (l : List ByteArray) (z : Int) (K : Nat) (F : List UInt8) {lo n c : Nat} {A : Option Addr} (h : Rd w lo w.heap.size A c (sv l)) (hr : rightD (bytL2 l) z = true) (hz : z = (K : Int)) (hF : frontL K (bytL2 l) = F) (hn : l.length = n) :
    Calls Try.prog 25 #[.slice A n c, .int .i64 z] w fun r w' => ∃ A' c', r = .returned (.slice A' F.length c') ∧ w'.ownsRow w.heap.size 5 1 (.slice A' F.length c') F.length (bv F) ∧ Below w.heap.size w w' := by
  subst hn; subst hF; subst hz
  obtain ⟨⟨h1, h2⟩, h3⟩ := rightD_iff.1 hr
  exact refBuild_any l K h3 (by omega) (by omega) (h.wide (Nat.zero_le _) (Nat.le_refl _))
theorem fnew_is {w : World} (bs : List UInt8) {lo hi n c : Nat} {A : Option Addr} (h : Rd w lo hi A c (bv bs)) (hb : bs.length ≤ 140737488355328) (hn : bs.length = n) :
    Calls Try.prog 24 #[.slice A n c] w fun e w' => ∃ g, e = .returned (.pointer (some ⟨g, 0, none⟩)) ∧ Cur w' w.heap.size g bs 0 0 ∧ Below w.heap.size w w' := by
  subst hn
  exact new_any bs w h hb
theorem fopen_is {wo w : World} {g : Nat} {bs : List UInt8} (hc : Cur w wo.heap.size g bs 0 0) (hbs : bs.length ≤ 1000000000) (hb : Below wo.heap.size wo w) (L : List (List UInt8)) (k : Nat) (e : Int) (hO : openR bs 0 0 = (L, k, e)) :
    Calls Try.prog 23 #[.pointer (some ⟨g, 0, none⟩)] w fun r w' => ∃ d, r = .returned (.pointer (some ⟨d, 0, none⟩)) ∧ Dc w' d (strsL L) ∧ Cur w' wo.heap.size g bs k e ∧ Below wo.heap.size wo w' := by
  refine (fopen_any hc hbs).mono ?_
  rintro r w' ⟨d, ys, rfl, hy, hd, hdl, hcu, hg⟩
  rw [hO] at hy hcu
  have hy2 : bytL2 ys = L := hy
  have hys : ys = strsL L := by
    rw [← hy2]
    unfold strsL bytL2
    rw [List.map_map]
    refine (List.map_id'' (fun s => ?_) ys).symm
    exact str_eta s
  rw [hys] at hd
  exact ⟨d, rfl, hd, hcu, hb.trans (below_of_gb hb.size hg (fun q hq => by injection hq with hq; rw [← hq]; exact hc.base))⟩
theorem fgood_is {w : World} {lo g k : Nat} {bs : List UInt8} {e : Int} (b : Bool) (h : Cur w lo g bs k e) (hb : (e == 0) = b) : Calls Try.prog 39 #[.pointer (some ⟨g, 0, none⟩)] w fun r w' => r = .returned (.bool b) ∧ w = w' := hb ▸ good_any h
theorem fleft_is {w : World} {lo g k n : Nat} {bs : List UInt8} {e : Int} (h : Cur w lo g bs k e) (hn : bs.length - k = n) : Calls Try.prog 54 #[.pointer (some ⟨g, 0, none⟩)] w fun r w' => r = .returned (.int .i64 (n : Int)) ∧ ∃ m, w' = w.drewN m := hn ▸ left_any h
theorem flen_is {w : World} {d n : Nat} {ys : List ByteArray} (h : Dc w d ys) (hn : ys.length = n) : Calls Try.prog 26 #[.pointer (some ⟨d, 0, none⟩)] w fun r w' => r = .returned (.int .i64 (n : Int)) ∧ w = w' := hn ▸ flen_any h
theorem fall_is {w : World} {d n : Nat} {ys : List ByteArray} (h : Dc w d ys) (hl : ys.length ≤ 1000000) (h4 : ∀ s ∈ ys, s.size ≤ 281474976710656) (hn : ys.length = n) :
    Calls Try.prog 20 #[.pointer (some ⟨d, 0, none⟩)] w fun r w' => ∃ A c, r = .returned (.slice A n c) ∧ w'.ownsRow w.heap.size 9 1 (.slice A n c) n (sv ys) ∧ Below w.heap.size w w' := by
  subst hn
  exact fall_any h hl h4
theorem fat_is {w : World} {d k : Nat} {z : Int} {ys : List ByteArray} (s : ByteArray) (h : Dc w d ys) (hk : k < ys.length) (h4 : ys[k].size ≤ 281474976710656) (hs : ys[k] = s) (hz : z = (k : Int)) :
    Calls Try.prog 27 #[.pointer (some ⟨d, 0, none⟩), .int .i64 z] w fun r w' => r = .returned (.string s) ∧ Below w.heap.size w w' := by
  subst hs; subst hz
  exact fat_in h k hk h4
theorem strsL_bytL2' (l : List ByteArray) : strsL (bytL2 l) = l := by
  unfold strsL bytL2
  rw [List.map_map]
  exact List.map_id'' (fun s => str_eta s) l
theorem bytL2_strsL' (l : List (List UInt8)) : bytL2 (strsL l) = l := by
  unfold strsL bytL2
  rw [List.map_map]
  exact List.map_id'' (fun s => rfl) l
theorem dic_sizes {L : List (List UInt8)} (h : dicL L = true) : (strsL L).length ≤ 4096 ∧ ∀ s ∈ strsL L, s.size ≤ 4096 := by
  obtain ⟨h1, h2, h3⟩ := dicL_iff.1 h
  refine ⟨by rw [strsL_length]; exact h1, fun s hs => ?_⟩
  obtain ⟨x, hx, rfl⟩ := List.mem_map.1 hs
  have := h2 x hx
  show x.toArray.size ≤ 4096
  simpa using this
theorem few_facts {l : List ByteArray} (h : FewD l) : l.length ≤ 150 ∧ (∀ s ∈ l, s.size ≤ 5000) := ⟨h.1, h.2.2.2⟩
theorem sort_sizes {l t : List ByteArray} {m : Nat} (h : SortOf (bytL2 l) (bytL2 t)) (hl : ∀ s ∈ l, s.size ≤ m) : ∀ s ∈ t, s.size ≤ m := fun s hs => by
  have h1 := (h.2 s.data.toList).1 (List.mem_map_of_mem hs)
  obtain ⟨x, hx, he⟩ := List.mem_map.1 h1
  rw [← str_inj he]
  exact hl x hx
theorem openR_bad {bs : List UInt8} {L : List (List UInt8)} {k : Nat} {e : Int} (h : openR bs 0 0 = (L, k, e)) (he : e ≠ 0) : L = [] := by
  unfold openR openK at h
  split at h
  · split at h
    · rename_i h1
      rw [h] at h1
      exact absurd h1 he
    · exact (congrArg Prod.fst h).symm
  · exact (congrArg Prod.fst h).symm
/-- the answer that awake asks for -/
theorem front_ab : frontL 2 [[97, 98], [97, 98, 99]] = [2, 2, 1, 3, 6, 2, 97, 98, 2, 1, 99] := by
  have p : ∀ n, n < 128 → putL n = [UInt8.ofNat n] := fun n h => putL_small h
  have e0 : entI 2 [[97, 98], [97, 98, 99]] 0 = [2, 97, 98] := by simp [entI, entL, textL, p]
  have e1 : entI 2 [[97, 98], [97, 98, 99]] 1 = [2, 1, 99] := by simp [entI, entL, textL, p, shareN]
  have hs : sizesN 2 [[97, 98], [97, 98, 99]] 2 = [6] := by simp [sizesN, e0, e1, bumpL]
  have he : entsL 2 [[97, 98], [97, 98, 99]] 2 = [2, 97, 98, 2, 1, 99] := by rw [ents_succ, ents_succ, ents_zero, e0, e1]; rfl
  have hw : writeL (ints [6]) = [1, 3, 6] := by
    unfold writeL
    rw [p _ (by decide)]
    decide
  show putL 2 ++ putL 2 ++ writeL (ints (sizesN 2 _ 2)) ++ entsL 2 _ 2 = _
  rw [hs, he, hw, p 2 (by decide)]
  rfl
end Go.Proofs.Ytihlbcnoficpgaa
