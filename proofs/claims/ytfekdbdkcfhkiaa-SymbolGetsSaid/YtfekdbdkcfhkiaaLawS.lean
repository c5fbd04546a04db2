/-
  The laws of layer 10: awake; what they ask of short lists of strings.
-/
import Derived.Test.YtfekdbdkcfhkiaaSyB
import Derived.Test.YtfekdbdkcfhkiaaSyD
import Derived.Test.YtfekdbdkcfhkiaaSyE
import Derived.Test.YtfekdbdkcfhkiaaSyF
import Derived.Test.YtfekdbdkcfhkiaaSamS
import Derived.Test.YtfekdbdkcfhkiaaSame
import Derived.Test.YtfekdbdkcfhkiaaSymU
import Derived.Test.YtfekdbdkcfhkiaaSymV
namespace Go.Proofs.Ytfekdbdkcfhkiaa
set_option linter.unusedSimpArgs false
set_option linter.unusedVariables false
open Go.RowKit

theorem rd_strs (w : World) (t : TypeId) (l : List ByteArray) (cs : Array Value) (h : cs.toList = sv l) (hm : l.length ≤ 1000) :
    Rd (w.alloc (.cells cs t)) 0 (w.heap.size + 1) (some ⟨w.heap.size, 0, none⟩) l.length (sv l) := by
  refine ⟨by rw [sv_length]; exact Nat.le_refl _, by simp only [maxLen]; omega, fun _ => ⟨w.heap.size, 0, rfl, Nat.zero_le _, by omega, fun j u hu => ?_⟩⟩
  rw [Nat.zero_add, (Blk.new w t cs).cell]
  rw [← h] at hu
  simpa using hu
/-- lists of strings compared, at a known answer -/
theorem same_strs_len {w : World} {lo h' lo2 h2 n m : Nat} {A B : Option Addr} {c d : Nat} (xs ys : List ByteArray) (b : Bool) (hx : Rd w lo h' A c (sv xs)) (hy : Rd w lo2 h2 B d (sv ys)) (hn : xs.length = n) (hm : ys.length = m) (he : decide (xs = ys) = b) :
    Calls Try.prog 21 #[.slice A n c, .slice B m d] w fun r w' => r = .returned (.bool b) ∧ ∃ n, w.drewN n = w' := by
  subst hn; subst hm; subst he
  exact same_strs xs ys hx hy
/-- tables put, at known bytes -/
theorem sput_is {w : World} (l : List ByteArray) (bs : List UInt8) {n c : Nat} {A : Option Addr} (h : Rd w 0 w.heap.size A c (sv l)) (hr : rightT (bytL2 l) = true) (hb : putT (bytL2 l) = bs) (hn : l.length = n) :
    Calls Try.prog 11 #[.slice A n c] w fun r w' => ∃ A' c', r = .returned (.tuple #[.slice A' bs.length c', .int .i64 0]) ∧ w'.ownsRow w.heap.size 5 1 (.slice A' bs.length c') bs.length (bv bs) ∧ Below w.heap.size w w' := by
  subst hn; subst hb
  exact sput_yes l h hr
theorem sright_is {w : World} (l : List ByteArray) (b : Bool) {lo hi n c : Nat} {A : Option Addr} (h : Rd w lo hi A c (sv l)) (h1k : ∀ s ∈ l, s.size ≤ 9223372036854775807) (hb : rightT (bytL2 l) = b) (hn : l.length = n) :
    Calls Try.prog 12 #[.slice A n c] w fun r w' => r = .returned (.bool b) ∧ ∃ m, w' = w.drewN m := by
  subst hn; subst hb
  exact sright_any l h h1k
theorem slongest_is {w : World} (l : List ByteArray) (s : ByteArray) (v : Int × Nat) {lo hi n c : Nat} {A : Option Addr} (h : Rd w lo hi A c (sv l)) (hr : rightT (bytL2 l) = true) (hs : s.size ≤ 9223372036854775807) (hv : longP (bytL2 l) s.data.toList = v) (hn : l.length = n) :
    Calls Try.prog 23 #[.slice A n c, .string s] w fun r w' => r = .returned (.tuple #[.int .i64 v.1, .int .i64 (v.2 : Int)]) ∧ ∃ m, w' = w.drewN m := by
  subst hn; subst hv
  exact slongest_any l s h hr hs
theorem sorder_is {w : World} (l : List ByteArray) (t : List (List UInt8)) {n c : Nat} {A : Option Addr} (h : Rd w 0 w.heap.size A c (sv l)) (hln : l.length ≤ 1000000) (hsz : ∀ s ∈ l, s.size ≤ 9223372036854775807) (ht : ordL (bytL2 l) = t) (hn : l.length = n) :
    Calls Try.prog 20 #[.slice A n c] w fun r w' => ∃ A' c', r = .returned (.slice A' t.length c') ∧ w'.ownsRow w.heap.size 9 1 (.slice A' t.length c') t.length (sv (strsL t)) ∧ Below w.heap.size w w' := by
  subst hn; subst ht
  exact sorder_any l h hln hsz
theorem ord_bab : ordL (bytL2 [⟨#[98]⟩, ⟨#[97]⟩, ⟨#[98]⟩]) = [[97], [98]] := by
  refine IsOrder.one (ordL_is _) ⟨rfl, by decide, fun x hx => ?_, fun s hs _ => ?_⟩
  · rcases List.mem_cons.1 hx with rfl | hx
    · decide
    · rcases List.mem_cons.1 hx with rfl | hx
      · decide
      · cases hx
  · left
    rcases List.mem_cons.1 hs with rfl | hs
    · decide
    · rcases List.mem_cons.1 hs with rfl | hs
      · decide
      · rcases List.mem_cons.1 hs with rfl | hs
        · decide
        · cases hs

theorem few_is {w : World} (l : List ByteArray) (b : Bool) {lo hi c : Nat} {A : Option Addr} (h : Rd w lo hi A c (sv l)) (hb : decide (FewS l) = b) :
    Calls Try.prog 10 #[.slice A l.length c] w fun r w' => r = .returned (.bool b) ∧ w = w' := hb ▸ fewS_any l h
theorem refright_is {w : World} (l : List ByteArray) (b : Bool) {lo hi n c : Nat} {A : Option Addr} (h : Rd w lo hi A c (sv l)) (h1k : ∀ s ∈ l, s.size ≤ 100000) (hb : rightT (bytL2 l) = b) (hn : l.length = n) :
    Calls Try.prog 13 #[.slice A n c] w fun r w' => r = .returned (.bool b) ∧ ∃ m, w' = w.drewN m := by
  subst hn; subst hb
  exact refRightT_any l h h1k
theorem right_small {l : List ByteArray} (h : rightT (bytL2 l) = true) : l.length ≤ 255 ∧ ∀ s ∈ l, s.size ≤ 8 := by
  refine ⟨by have := (rightT_iff.1 h).1; rw [bytL2_length] at this; exact this, fun s hs => ?_⟩
  have := (okS_iff.1 ((rightT_iff.1 h).2.1 s.data.toList (List.mem_map_of_mem hs))).2
  rw [Array.length_toList] at this
  exact this
theorem refput_is {w : World} (l : List ByteArray) (bs : List UInt8) {n c : Nat} {A : Option Addr} (h : Rd w 0 w.heap.size A c (sv l)) (hr : rightT (bytL2 l) = true) (hb : putT (bytL2 l) = bs) (hn : l.length = n) :
    Calls Try.prog 15 #[.slice A n c] w fun r w' => ∃ A' c', r = .returned (.slice A' bs.length c') ∧ w'.ownsRow w.heap.size 5 1 (.slice A' bs.length c') bs.length (bv bs) ∧ Below w.heap.size w w' := by
  subst hn; subst hb
  exact refPutT_any l h (right_small hr).1 (right_small hr).2
theorem reforder_is {w : World} (l : List ByteArray) (t : List (List UInt8)) {n c : Nat} {A : Option Addr} (h : Rd w 0 w.heap.size A c (sv l)) (h1k : ∀ s ∈ l, s.size ≤ 100000) (hln : l.length ≤ 100000) (ht : ordL (bytL2 l) = t) (hn : l.length = n) :
    Calls Try.prog 22 #[.slice A n c] w fun r w' => ∃ A' c', r = .returned (.slice A' t.length c') ∧ w'.ownsRow w.heap.size 9 1 (.slice A' t.length c') t.length (sv (strsL t)) ∧ Below w.heap.size w w' := by
  subst hn
  refine (refOrder_any l h h1k hln).mono ?_
  rintro r w' ⟨t', A', c', rfl, ho, hown, hb⟩
  have : t' = t := by rw [← ht]; exact ho.one (ordL_is _)
  subst this
  exact ⟨A', c', rfl, hown, hb⟩
theorem reflong_is {w : World} (l : List ByteArray) (s : ByteArray) (v : Int × Nat) {lo hi n c : Nat} {A : Option Addr} (h : Rd w lo hi A c (sv l)) (h1k : ∀ t ∈ l, t.size ≤ 100000) (hs : s.size ≤ 100000) (hln : l.length ≤ 100000) (hv : longP (bytL2 l) s.data.toList = v) (hn : l.length = n) :
    Calls Try.prog 24 #[.slice A n c, .string s] w fun r w' => r = .returned (.tuple #[.int .i64 v.1, .int .i64 (v.2 : Int)]) ∧ ∃ m, w' = w.drewN m := by
  subst hn; subst hv
  exact refLongest_any l s h h1k hs hln
theorem bytL2_strs (t : List (List UInt8)) : bytL2 (strsL t) = t := by
  unfold bytL2 strsL
  rw [List.map_map]
  conv => rhs; rw [← List.map_id t]
  exact List.map_congr_left fun x _ => rfl
/-- a table, of the strings' own -/
theorem ord_facts (l : List ByteArray) {t : List (List UInt8)} (ht : ordL (bytL2 l) = t) : rightT (bytL2 (strsL t)) = true ∧ (strsL t).length = t.length ∧ t.length ≤ 255 ∧ (∀ s ∈ strsL t, s.size ≤ 8) ∧ ordL (bytL2 (strsL t)) = t := by
  have hr : rightT (bytL2 (strsL t)) = true := by rw [bytL2_strs, ← ht]; exact (ordL_is _).right
  have h := right_small hr
  rw [strsL_length] at h
  refine ⟨hr, strsL_length t, h.1, h.2, ?_⟩
  rw [bytL2_strs] at hr ⊢
  exact (ordL_is t).one (IsOrder.self hr)
theorem few_sizes {l : List ByteArray} (h : FewS l) : l.length ≤ 300 ∧ l.length ≤ 100000 ∧ l.length ≤ 1000000 ∧ (∀ s ∈ l, s.size ≤ 100000) ∧ ∀ s ∈ l, s.size ≤ 9223372036854775807 :=
  ⟨h.1, by have := h.1; omega, by have := h.1; omega, fun s hs => by have := h.2 s hs; omega, fun s hs => by have := h.2 s hs; omega⟩

theorem own_empty (w : World) : (w.alloc (.cells #[] 9)).ownsRow w.heap.size 9 1 (.slice (some ⟨w.heap.size, 0, none⟩) 0 0) 0 (sv []) := by
  have := World.ownsRow_lit (e := 9) (size := 1) (base := w.heap.size) w #[] 0 (Nat.le_refl _) (by simp [maxLen]) (by simp)
  simpa [sv] using this

set_option maxRecDepth 20000 in
set_option maxHeartbeats 2000000 in
theorem awake10_any {w : World} : Calls Try.prog 9 #[] w fun r w' => r = .returned (.bool true) ∧ Below w.heap.size w w' := by
  have hrt : rightT (bytL2 [⟨#[97]⟩, ⟨#[97, 98]⟩]) = true := by decide
  have hpt : putT (bytL2 [⟨#[97]⟩, ⟨#[97, 98]⟩]) = [2, 1, 97, 2, 97, 98] := by decide
  have hlg : longP (bytL2 [⟨#[97]⟩, ⟨#[97, 98]⟩]) (⟨#[97, 98, 99]⟩ : ByteArray).data.toList = (1, 2) := by decide
  obtain ⟨w1, hw1⟩ : ∃ w1, w.alloc (.cells #[.string ⟨#[97]⟩, .string ⟨#[97, 98]⟩] 9) = w1 := ⟨_, rfl⟩
  have HT : Hid (Rd w1 0 w1.heap.size (some ⟨w.heap.size, 0, none⟩) 2 (sv [⟨#[97]⟩, ⟨#[97, 98]⟩])) := by
    unfold Hid
    rw [← hw1]
    exact (rd_strs w 9 [⟨#[97]⟩, ⟨#[97, 98]⟩] _ rfl (by decide)).wide (Nat.le_refl _) (by simp)
  have HB1 : Hid (Below w.heap.size w w1) := by unfold Hid; rw [← hw1]; exact (Below.refl _ w).alloc (Nat.le_refl _) _
  have HPU := Lib.hid (sput_is [⟨#[97]⟩, ⟨#[97, 98]⟩] [2, 1, 97, 2, 97, 98] HT.out hrt hpt rfl)
  have HRT := Lib.hid hrt
  have HLG := Lib.hid hlg
  clear hrt hpt hlg
  go_enter Try.func9, Try.ntmps9
  go_wp2_with fail
  refine HPU.out.mono ?_
  rintro r w2 ⟨A2, c2, rfl, ho2, b2⟩
  have HT2 := Lib.hid (HT.out.below b2 (Nat.le_refl _))
  have HO2 := Lib.hid ho2
  have HB2 := Lib.hid (below_below HB1.out b2 HB1.out.size)
  clear ho2 b2 HPU HB1 HT hw1
  go_wp2_with fail
  refine (slongest_is [⟨#[97]⟩, ⟨#[97, 98]⟩] ⟨#[97, 98, 99]⟩ (1, 2) HT2.out HRT.out (by decide) HLG.out rfl).mono ?_
  rintro r w3 ⟨rfl, m3, rfl⟩
  have hst : (convert 25 9 (.slice A2 6 c2)).run Try.prog (w2.drewN m3) = .ok (.string ⟨#[2, 1, 97, 2, 97, 98]⟩) (w2.drewN m3) := run_string_rd (P := Try.prog) (w2.drewN m3) 25 9 5 Try.underlying25 Try.underlying5 Try.underlying9 _ _ A2 c2 [2, 1, 97, 2, 97, 98] ((Rd.of_own HO2.out).drewN m3)
  go_wp2_with fail
  refine (sright_is [⟨#[97]⟩, ⟨#[97, 98]⟩] true (HT2.out.drewN m3) (by decide) HRT.out rfl).mono ?_
  rintro r w4 ⟨rfl, m4, rfl⟩
  clear hst
  obtain ⟨w5, hw5⟩ : ∃ w5, (w2.drewN m3).drewN m4 = w5 := ⟨_, rfl⟩
  have HB5 : Hid (Below w.heap.size w w5) := by unfold Hid; rw [← hw5]; exact below_drewN' (below_drewN' HB2.out m3) m4
  rw [hw5]
  clear hw5
  obtain ⟨w6, hw6⟩ : ∃ w6, w5.alloc (.cells #[.string ⟨#[98]⟩, .string ⟨#[97]⟩, .string ⟨#[98]⟩] 9) = w6 := ⟨_, rfl⟩
  have HT6 : Hid (Rd w6 0 w6.heap.size (some ⟨w5.heap.size, 0, none⟩) 3 (sv [⟨#[98]⟩, ⟨#[97]⟩, ⟨#[98]⟩])) := by
    unfold Hid
    rw [← hw6]
    exact (rd_strs w5 9 [⟨#[98]⟩, ⟨#[97]⟩, ⟨#[98]⟩] _ rfl (by decide)).wide (Nat.le_refl _) (by simp)
  have HB6 : Hid (Below w.heap.size w w6) := by unfold Hid; rw [← hw6]; exact HB5.out.alloc HB5.out.size _
  go_wp2_with fail
  refine (sorder_is [⟨#[98]⟩, ⟨#[97]⟩, ⟨#[98]⟩] [[97], [98]] HT6.out (by decide) (by decide) ord_bab rfl).mono ?_
  rintro r w7 ⟨A7, c7, rfl, ho7, b7⟩
  have HB7 := Lib.hid (below_below HB6.out b7 HB6.out.size)
  clear ho7 b7 hw6
  go_wp2_with fail
  go_ret
  exact ⟨rfl, HB7.out⟩
end Go.Proofs.Ytfekdbdkcfhkiaa
