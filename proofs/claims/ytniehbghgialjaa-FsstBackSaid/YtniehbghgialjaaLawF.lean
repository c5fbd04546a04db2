/-
  The laws of layer 11: contracts at known answers; awake.
-/
import Derived.Test.YtniehbghgialjaaLawO
import Derived.Test.YtniehbghgialjaaFpD
import Derived.Test.YtniehbghgialjaaFpE
import Derived.Test.YtniehbghgialjaaSame
namespace Go.Proofs.Ytniehbghgialjaa
set_option linter.unusedSimpArgs false
set_option linter.unusedVariables false
open Go.RowKit

theorem fenc_is {w : World} (l : List ByteArray) (s : ByteArray) (E : List UInt8) {lo n c : Nat} {A : Option Addr} (h : Rd w lo w.heap.size A c (sv l)) (hr : rightT (bytL2 l) = true) (hs : s.size ≤ 100000000) (he : encL (bytL2 l) s.data.toList = E) (hn : l.length = n) :
    Calls Try.prog 12 #[.slice A n c, .string s] w fun r w' => ∃ A' c', r = .returned (.slice A' E.length c') ∧ w'.ownsRow w.heap.size 5 1 (.slice A' E.length c') E.length (bv E) ∧ Below w.heap.size w w' := by
  subst hn; subst he
  exact fencode_any l s (h.wide (Nat.zero_le _) (Nat.le_refl _)) hr hs
theorem refenc_is {w : World} (l : List ByteArray) (s : ByteArray) (E : List UInt8) {lo n c : Nat} {A : Option Addr} (h : Rd w lo w.heap.size A c (sv l)) (h8 : ∀ t ∈ l, t.size ≤ 8) (hln : l.length ≤ 255) (hs : s.size ≤ 100000) (he : encL (bytL2 l) s.data.toList = E) (hn : l.length = n) :
    Calls Try.prog 13 #[.slice A n c, .string s] w fun r w' => ∃ A' c', r = .returned (.slice A' E.length c') ∧ w'.ownsRow w.heap.size 5 1 (.slice A' E.length c') E.length (bv E) ∧ Below w.heap.size w w' := by
  subst hn; subst he
  exact refEncode_any l s (h.wide (Nat.zero_le _) (Nat.le_refl _)) h8 hln hs
theorem fdec_is {w : World} (l : List ByteArray) (bs : List UInt8) (most : Int) (x : ByteArray) (e k : Nat) {lo lo2 n m c c2 : Nat} {A B : Option Addr} (ht : Rd w lo w.heap.size A c (sv l)) (hb : Rd w lo2 w.heap.size B c2 (bv bs)) (h8 : ∀ t ∈ l, t.size ≤ 8) (hln : l.length ≤ 255) (hbl : bs.length ≤ 1000000) (hm0 : 0 ≤ most) (hm1 : most ≤ 9223372036854775807)
    (hv : decL (bytL2 l) most bs [] 0 = (x.data.toList, e, k)) (hn : l.length = n) (hm : bs.length = m) :
    Calls Try.prog 14 #[.slice A n c, .slice B m c2, .int .i64 most] w fun r w' => r = .returned (.tuple #[.string x, .int .i64 (e : Int)]) ∧ Below w.heap.size w w' := by
  subst hn; subst hm
  have h := fdecode_any l h8 hln bs hbl most hm0 hm1 (ht.wide (Nat.zero_le _) (Nat.le_refl _)) (hb.wide (Nat.zero_le _) (Nat.le_refl _))
  rw [hv] at h
  refine h.mono ?_
  rintro r w' ⟨rfl, hb'⟩
  exact ⟨by rw [str_etaS], hb'⟩
theorem refdec_is {w : World} (l : List ByteArray) (bs : List UInt8) (most : Int) (x : ByteArray) (e k : Nat) {lo hi lo2 hi2 n m c c2 : Nat} {A B : Option Addr} (ht : Rd w lo hi A c (sv l)) (hb : Rd w lo2 hi2 B c2 (bv bs)) (h8 : ∀ t ∈ l, t.size ≤ 8) (hln : l.length ≤ 255) (hbl : bs.length ≤ 100000)
    (hv : decL (bytL2 l) most bs [] 0 = (x.data.toList, e, k)) (hn : l.length = n) (hm : bs.length = m) :
    Calls Try.prog 15 #[.slice A n c, .slice B m c2, .int .i64 most] w fun r w' => r = .returned (.tuple #[.string x, .int .i64 (e : Int), .int .i64 (k : Int)]) ∧ ∃ q, w' = w.drewN q := by
  subst hn; subst hm
  have h := refDecode_any l bs most ht hb h8 hln hbl _ hv
  refine h.mono ?_
  rintro r w' ⟨rfl, hb'⟩
  exact ⟨by rw [str_etaS], hb'⟩
theorem fcnt_is {w : World} (l : List ByteArray) (bs : List UInt8) (k : Nat) {lo lo2 n m c c2 : Nat} {A B : Option Addr} (ht : Rd w lo w.heap.size A c (sv l)) (hb : Rd w lo2 w.heap.size B c2 (bv bs)) (h8 : ∀ t ∈ l, t.size ≤ 8) (hln : l.length ≤ 255) (hbl : bs.length ≤ 10000)
    (hv : (decL (bytL2 l) 100000 bs [] 0).2.2 = k) (hn : l.length = n) (hm : bs.length = m) :
    Calls Try.prog 16 #[.slice A n c, .slice B m c2] w fun r w' => r = .returned (.int .i64 (k : Int)) ∧ Below w.heap.size w w' := by
  subst hn; subst hm; subst hv
  exact fcount_any l h8 hln bs (by omega) 100000 (by omega) (ht.wide (Nat.zero_le _) (Nat.le_refl _)) (hb.wide (Nat.zero_le _) (Nat.le_refl _))
/-- how many codes there are: no more than bytes -/
theorem dec_cnt (T : List (List UInt8)) (most : Int) : ∀ (m : Nat) (bs o : List UInt8) (n : Nat), bs.length ≤ m → (decL T most bs o n).2.2 ≤ n + bs.length := by
  intro m
  induction m with
  | zero =>
    intro bs o n h
    obtain rfl : bs = [] := List.eq_nil_of_length_eq_zero (by omega)
    rw [dec_nil]
    exact Nat.le_refl _
  | succ m ih =>
    intro bs o n h
    rcases bs with _ | ⟨x, r⟩
    · rw [dec_nil]
      exact Nat.le_refl _
    · rw [List.length_cons] at h ⊢
      by_cases hx : x = 255
      · subst hx
        rcases r with _ | ⟨y, r⟩
        · rw [dec_end]
          simp
        · rw [List.length_cons] at h ⊢
          rw [dec_lit]
          split
          · simp only []; omega
          · have := ih r (o ++ [y]) (n + 1) (by omega)
            omega
      · by_cases hl : x.toNat < T.length
        · rw [dec_sym _ _ _ hx (List.getElem?_eq_getElem hl)]
          split
          · simp only []; omega
          · have := ih r (o ++ T[x.toNat]) (n + 1) (by omega)
            omega
        · rw [dec_wrong _ _ _ hx (by omega)]
          simp only []
          omega
theorem eqS2 (a b : ByteArray) : (a.toList == b.toList) = decide (a = b) := by
  rw [Lib.toList_data, Lib.toList_data, Bool.eq_iff_iff, beq_iff_eq, decide_eq_true_eq]
  exact ⟨fun h => by rw [← str_etaS a, ← str_etaS b, h], fun h => by rw [h]⟩
/-- a list of bytes written out reads so -/
theorem rd_lit (w : World) (l : List UInt8) (cs : Array Value) (h : cs.toList = bv l) (hm : l.length ≤ 1000) : Rd (w.alloc (.cells cs 5)) w.heap.size (w.alloc (.cells cs 5)).heap.size (some ⟨w.heap.size, 0, none⟩) l.length (bv l) := Rd.of_own (own_lit w l cs h hm)

set_option maxRecDepth 20000 in
set_option maxHeartbeats 2000000 in
theorem awake11_any {w : World} : Calls Try.prog 8 #[] w fun r w' => r = .returned (.bool true) ∧ Below w.heap.size w w' := by
  have hrt : rightT (bytL2 [⟨#[97]⟩, ⟨#[97, 98]⟩]) = true := by decide
  have hen : encL (bytL2 [⟨#[97]⟩, ⟨#[97, 98]⟩]) (⟨#[97, 98, 99]⟩ : ByteArray).data.toList = [1, 255, 99] := by decide
  have hd1 : decL (bytL2 [⟨#[97]⟩, ⟨#[97, 98]⟩]) 10 [1, 255, 99] [] 0 = ((⟨#[97, 98, 99]⟩ : ByteArray).data.toList, 0, 2) := by rfl
  have hd2 : decL (bytL2 [⟨#[97]⟩, ⟨#[97, 98]⟩]) 10 [9] [] 0 = ((⟨#[]⟩ : ByteArray).data.toList, 3, 0) := by rfl
  have hd3 : (decL (bytL2 [⟨#[97]⟩, ⟨#[97, 98]⟩]) 100000 [1, 255, 99] [] 0).2.2 = 2 := by rfl
  have h8 : ∀ t ∈ ([⟨#[97]⟩, ⟨#[97, 98]⟩] : List ByteArray), t.size ≤ 8 := (right_small hrt).2
  obtain ⟨w1, hw1⟩ : ∃ w1, w.alloc (.cells #[.string ⟨#[97]⟩, .string ⟨#[97, 98]⟩] 9) = w1 := ⟨_, rfl⟩
  have HT : Hid (Rd w1 0 w1.heap.size (some ⟨w.heap.size, 0, none⟩) 2 (sv [⟨#[97]⟩, ⟨#[97, 98]⟩])) := by
    unfold Hid
    rw [← hw1]
    exact (rd_strs w 9 [⟨#[97]⟩, ⟨#[97, 98]⟩] _ rfl (by decide)).wide (Nat.le_refl _) (by simp)
  have HB1 : Hid (Below w.heap.size w w1) := by unfold Hid; rw [← hw1]; exact (Below.refl _ w).alloc (Nat.le_refl _) _
  have HEN := Lib.hid (fenc_is [⟨#[97]⟩, ⟨#[97, 98]⟩] ⟨#[97, 98, 99]⟩ [1, 255, 99] HT.out hrt (by decide) hen rfl)
  have HD1 := Lib.hid hd1
  have HD2 := Lib.hid hd2
  have HD3 := Lib.hid hd3
  have H8 := Lib.hid h8
  clear hrt hen hd1 hd2 hd3 h8
  go_enter Try.func8, Try.ntmps8
  go_wp2_with fail
  refine HEN.out.mono ?_
  rintro r w2 ⟨A2, c2, rfl, ho2, b2⟩
  have HT2 := Lib.hid ((HT.out.below b2 (Nat.le_refl _)).wide (Nat.le_refl _) b2.size)
  have HO2 := Lib.hid (Rd.of_own ho2)
  have HB2 := Lib.hid (below_below HB1.out b2 HB1.out.size)
  clear ho2 b2 HEN HB1 HT hw1
  go_wp2_with fail
  refine (fdec_is [⟨#[97]⟩, ⟨#[97, 98]⟩] [1, 255, 99] 10 ⟨#[97, 98, 99]⟩ 0 2 HT2.out HO2.out H8.out (by decide) (by decide) (by decide) (by decide) HD1.out rfl rfl).mono ?_
  rintro r w3 ⟨rfl, b3⟩
  have HT3 := Lib.hid ((HT2.out.below b3 (Nat.le_refl _)).wide (Nat.le_refl _) b3.size)
  have HO3 := Lib.hid ((HO2.out.below b3 (Nat.le_refl _)).wide (Nat.le_refl _) b3.size)
  have HB3 := Lib.hid (below_below HB2.out b3 HB2.out.size)
  clear b3 HB2 HT2 HO2
  obtain ⟨w4, hw4⟩ : ∃ w4, w3.alloc (.cells #[.int .u8 9] 5) = w4 := ⟨_, rfl⟩
  have HT4 : Hid (Rd w4 0 w4.heap.size (some ⟨w.heap.size, 0, none⟩) 2 (sv [⟨#[97]⟩, ⟨#[97, 98]⟩])) := by
    unfold Hid
    rw [← hw4]
    exact (HT3.out.alloc (Nat.le_refl _) _).wide (Nat.le_refl _) (by simp)
  have HO4 : Hid (Rd w4 w1.heap.size w4.heap.size A2 c2 (bv [1, 255, 99])) := by
    unfold Hid
    rw [← hw4]
    exact (HO3.out.alloc (Nat.le_refl _) _).wide (Nat.le_refl _) (by simp)
  have HL4 : Hid (Rd w4 w3.heap.size w4.heap.size (some ⟨w3.heap.size, 0, none⟩) 1 (bv [9])) := by
    unfold Hid
    rw [← hw4]
    exact rd_lit w3 [9] _ rfl (by decide)
  have HB4 : Hid (Below w.heap.size w w4) := by unfold Hid; rw [← hw4]; exact HB3.out.alloc HB3.out.size _
  go_wp2_with fail
  refine (fdec_is [⟨#[97]⟩, ⟨#[97, 98]⟩] [9] 10 ⟨#[]⟩ 3 0 HT4.out HL4.out H8.out (by decide) (by decide) (by decide) (by decide) HD2.out rfl rfl).mono ?_
  rintro r w5 ⟨rfl, b5⟩
  have HT5 := Lib.hid ((HT4.out.below b5 (Nat.le_refl _)).wide (Nat.le_refl _) b5.size)
  have HO5 := Lib.hid ((HO4.out.below b5 (Nat.le_refl _)).wide (Nat.le_refl _) b5.size)
  have HB5 := Lib.hid (below_below HB4.out b5 HB4.out.size)
  clear b5 HT3 HO3 HB3 HT4 HO4 HB4 HL4 hw4
  obtain ⟨w6, hw6⟩ : ∃ w6, w5.alloc (.cells #[.int .u8 1, .int .u8 255, .int .u8 99] 5) = w6 := ⟨_, rfl⟩
  have HT6 : Hid (Rd w6 0 w6.heap.size (some ⟨w.heap.size, 0, none⟩) 2 (sv [⟨#[97]⟩, ⟨#[97, 98]⟩])) := by
    unfold Hid
    rw [← hw6]
    exact (HT5.out.alloc (Nat.le_refl _) _).wide (Nat.le_refl _) (by simp)
  have HO6 : Hid (Rd w6 w1.heap.size w6.heap.size A2 c2 (bv [1, 255, 99])) := by
    unfold Hid
    rw [← hw6]
    exact (HO5.out.alloc (Nat.le_refl _) _).wide (Nat.le_refl _) (by simp)
  have HL6 : Hid (Rd w6 w5.heap.size w6.heap.size (some ⟨w5.heap.size, 0, none⟩) 3 (bv [1, 255, 99])) := by
    unfold Hid
    rw [← hw6]
    exact rd_lit w5 [1, 255, 99] _ rfl (by decide)
  have HB6 : Hid (Below w.heap.size w w6) := by unfold Hid; rw [← hw6]; exact HB5.out.alloc HB5.out.size _
  go_wp2_with fail
  refine (same_len [1, 255, 99] [1, 255, 99] true HO6.out HL6.out rfl rfl (decide_eq_true rfl)).mono ?_
  rintro r w7 ⟨rfl, rfl⟩
  go_wp2_with fail
  refine (fcnt_is [⟨#[97]⟩, ⟨#[97, 98]⟩] [1, 255, 99] 2 HT6.out HO6.out H8.out (by decide) (by decide) HD3.out rfl rfl).mono ?_
  rintro r w8 ⟨rfl, b8⟩
  have HB8 := Lib.hid (below_below HB6.out b8 HB6.out.size)
  clear b8
  go_wp2_with fail
  go_ret
  exact ⟨rfl, HB8.out⟩
end Go.Proofs.Ytniehbghgialjaa
