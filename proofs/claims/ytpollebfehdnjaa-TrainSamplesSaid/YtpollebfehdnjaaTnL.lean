/-
  The laws of layer 12: contracts at known answers; awake.
-/
import Derived.Test.YtpollebfehdnjaaMgT
import Derived.Test.YtpollebfehdnjaaTrC
import Derived.Test.YtpollebfehdnjaaLawO
import Derived.Test.YtpollebfehdnjaaSamS
import Derived.Test.YtpollebfehdnjaaSymV
import Derived.Test.YtpollebfehdnjaaMgF
namespace Go.Proofs.Ytpollebfehdnjaa
set_option linter.unusedSimpArgs false
set_option linter.unusedVariables false
open Go.RowKit

theorem nsame_is {w : World} (xs ys : List ByteArray) (b : Bool) {lo h' lo2 h2 n m : Nat} {A B : Option Addr} {c d : Nat} (hx : Rd w lo h' A c (sv xs)) (hy : Rd w lo2 h2 B d (sv ys)) (hn : xs.length = n) (hm : ys.length = m) (hb : decide (xs = ys) = b) :
    Calls Try.prog 11 #[.slice A n c, .slice B m d] w fun r w' => r = .returned (.bool b) ∧ ∃ q, w' = w.drewN q := by
  subst hn; subst hm; subst hb
  refine (same_strs xs ys hx hy).mono ?_
  rintro r w' ⟨rfl, q, rfl⟩
  exact ⟨rfl, q, rfl⟩
theorem tsample_is {w : World} (l : List ByteArray) (ds : List Int) (X : List ByteArray) {lo lo2 n m c d : Nat} {A B : Option Addr} (h : Rd w lo w.heap.size A c (sv l)) (hd : Rd w lo2 w.heap.size B d (iv ds)) (hln : l.length ≤ 1000000) (hdn : ds.length ≤ 1000000) (hsz : ∀ s ∈ l, s.size ≤ 100000)
    (hdw : Word ds) (hX : sampleL l ds = X) (hn : l.length = n) (hm : ds.length = m) :
    Calls Try.prog 12 #[.slice A n c, .slice B m d] w fun r w' => ∃ A' c', r = .returned (.slice A' X.length c') ∧ w'.ownsRow w.heap.size 9 1 (.slice A' X.length c') X.length (sv X) ∧ Below w.heap.size w w' := by
  subst hn; subst hm; subst hX
  exact tsample_any l ds (h.wide (Nat.zero_le _) (Nat.le_refl _)) (hd.wide (Nat.zero_le _) (Nat.le_refl _)) hln hdn (fun s hs => by have := hsz s hs; omega) hdw
theorem refsample_is {w : World} (l : List ByteArray) (ds : List Int) (X : List ByteArray) {lo lo2 n m c d : Nat} {A B : Option Addr} (h : Rd w lo w.heap.size A c (sv l)) (hd : Rd w lo2 w.heap.size B d (iv ds)) (hln : l.length ≤ 1000000) (hdn : ds.length ≤ 1000000)
    (hX : sampleL l ds = X) (hn : l.length = n) (hm : ds.length = m) :
    Calls Try.prog 13 #[.slice A n c, .slice B m d] w fun r w' => ∃ A' c', r = .returned (.slice A' X.length c') ∧ w'.ownsRow w.heap.size 9 1 (.slice A' X.length c') X.length (sv X) ∧ Below w.heap.size w w' := by
  subst hn; subst hm; subst hX
  exact refSample_any l ds (h.wide (Nat.zero_le _) (Nat.le_refl _)) (hd.wide (Nat.zero_le _) (Nat.le_refl _)) hln hdn
theorem fewT_is {w : World} (l : List ByteArray) (b : Bool) {lo hi c : Nat} {A : Option Addr} (h : Rd w lo hi A c (sv l)) (hs : ∀ s ∈ l, s.size ≤ 140737488351232) (hb : decide (FewT l) = b) :
    Calls Try.prog 14 #[.slice A l.length c] w fun r w' => r = .returned (.bool b) ∧ ∃ m, w' = w.drewN m := hb ▸ refFewT_any l h (fun s hs2 => by have := hs s hs2; omega)
theorem round_is {w : World} (T S : List ByteArray) (t : List (List UInt8)) {lo lo2 n m c d : Nat} {A B : Option Addr} (h : Rd w lo w.heap.size A c (sv T)) (hS : Rd w lo2 w.heap.size B d (sv S)) (hr : rightT (bytL2 T) = true) (hSl : S.length ≤ 400) (hSb : ∀ s ∈ S, s.size ≤ 100000)
    (ht : IsRound (bagL (bytL2 T) (bytL2 S)) t) (hn : T.length = n) (hm : S.length = m) :
    Calls Try.prog 16 #[.slice A n c, .slice B m d] w fun r w' => ∃ A' c', r = .returned (.slice A' t.length c') ∧ w'.ownsRow w.heap.size 9 1 (.slice A' t.length c') t.length (sv (strsL t)) ∧ Below w.heap.size w w' := by
  subst hn; subst hm
  refine (round_any T S (h.wide (Nat.zero_le _) (Nat.le_refl _)) hr (hS.wide (Nat.zero_le _) (Nat.le_refl _)) hSl hSb).mono ?_
  rintro r w' ⟨u, A', c', rfl, hu, ho, hb⟩
  obtain rfl := hu.one ht
  exact ⟨A', c', rfl, ho, hb⟩
theorem round_some {w : World} (T S : List ByteArray) {lo lo2 n m c d : Nat} {A B : Option Addr} (h : Rd w lo w.heap.size A c (sv T)) (hS : Rd w lo2 w.heap.size B d (sv S)) (hr : rightT (bytL2 T) = true) (hSl : S.length ≤ 400) (hSb : ∀ s ∈ S, s.size ≤ 100000)
    (hn : T.length = n) (hm : S.length = m) :
    Calls Try.prog 16 #[.slice A n c, .slice B m d] w fun r w' => ∃ t A' c', r = .returned (.slice A' t.length c') ∧ IsRound (bagL (bytL2 T) (bytL2 S)) t ∧ w'.ownsRow w.heap.size 9 1 (.slice A' t.length c') t.length (sv (strsL t)) ∧ Below w.heap.size w w' := by
  subst hn; subst hm
  exact round_any T S (h.wide (Nat.zero_le _) (Nat.le_refl _)) hr (hS.wide (Nat.zero_le _) (Nat.le_refl _)) hSl hSb
theorem refround_is {w : World} (T S : List ByteArray) (t : List (List UInt8)) {lo lo2 n m c d : Nat} {A B : Option Addr} (h : Rd w lo w.heap.size A c (sv T)) (hS : Rd w lo2 w.heap.size B d (sv S)) (hr : rightT (bytL2 T) = true) (hSl : S.length ≤ 100) (hSb : ∀ s ∈ S, s.size ≤ 100000) (hbag : (bagL (bytL2 T) (bytL2 S)).length ≤ 5000)
    (ht : IsRound (bagL (bytL2 T) (bytL2 S)) t) (hn : T.length = n) (hm : S.length = m) :
    Calls Try.prog 17 #[.slice A n c, .slice B m d] w fun r w' => ∃ A' c', r = .returned (.slice A' t.length c') ∧ w'.ownsRow w.heap.size 9 1 (.slice A' t.length c') t.length (sv (strsL t)) ∧ Below w.heap.size w w' := by
  subst hn; subst hm
  refine (refRound_any T S (h.wide (Nat.zero_le _) (Nat.le_refl _)) (hS.wide (Nat.zero_le _) (Nat.le_refl _)) (rightT_iff.1 hr).2.1 (right_small hr).1 hSl hSb hbag).mono ?_
  rintro r w' ⟨u, A', c', rfl, hu, ho, hb⟩
  obtain rfl := hu.one ht
  exact ⟨A', c', rfl, ho, hb⟩
theorem train_some {w : World} (S : List ByteArray) (N : Int) {lo n d : Nat} {B : Option Addr} (hS : Rd w lo w.heap.size B d (sv S)) (hSl : S.length ≤ 400) (hSb : ∀ s ∈ S, s.size ≤ 100000) (hN : -9223372036854775808 ≤ N ∧ N ≤ 9223372036854775807) {k : Nat} (hk : roundsN N = k) (hn : S.length = n) :
    Calls Try.prog 18 #[.slice B n d, .int .i64 N] w fun r w' => ∃ t A' c', r = .returned (.slice A' t.length c') ∧ Trained (bytL2 S) k t ∧ w'.ownsRow w.heap.size 9 1 (.slice A' t.length c') t.length (sv (strsL t)) ∧ Below w.heap.size w w' := by
  subst hn; subst hk
  exact train_any S N (hS.wide (Nat.zero_le _) (Nat.le_refl _)) hSl hSb hN
theorem train_is {w : World} (S : List ByteArray) (N : Int) (t : List (List UInt8)) {lo n d : Nat} {B : Option Addr} (hS : Rd w lo w.heap.size B d (sv S)) (hSl : S.length ≤ 400) (hSb : ∀ s ∈ S, s.size ≤ 100000) (hN : -9223372036854775808 ≤ N ∧ N ≤ 9223372036854775807) {k : Nat} (hk : roundsN N = k) (ht : Trained (bytL2 S) k t) (hn : S.length = n) :
    Calls Try.prog 18 #[.slice B n d, .int .i64 N] w fun r w' => ∃ A' c', r = .returned (.slice A' t.length c') ∧ w'.ownsRow w.heap.size 9 1 (.slice A' t.length c') t.length (sv (strsL t)) ∧ Below w.heap.size w w' := by
  refine (train_some S N hS hSl hSb hN hk hn).mono ?_
  rintro r w' ⟨u, A', c', rfl, hu, ho, hb⟩
  obtain rfl := hu.one ht
  exact ⟨A', c', rfl, ho, hb⟩
theorem reftrain_is {w : World} (S : List ByteArray) (N : Int) (t : List (List UInt8)) {lo n d : Nat} {B : Option Addr} (hS : Rd w lo w.heap.size B d (sv S)) (hSl : S.length ≤ 100) (hSb : ∀ s ∈ S, s.size ≤ 100000) (hbag : ∀ T, (bagL T (bytL2 S)).length ≤ 5000) {k : Nat} (hk : roundsN N = k) (ht : Trained (bytL2 S) k t) (hn : S.length = n) :
    Calls Try.prog 19 #[.slice B n d, .int .i64 N] w fun r w' => ∃ A' c', r = .returned (.slice A' t.length c') ∧ w'.ownsRow w.heap.size 9 1 (.slice A' t.length c') t.length (sv (strsL t)) ∧ Below w.heap.size w w' := by
  subst hn; subst hk
  refine (refTrain_any S N (hS.wide (Nat.zero_le _) (Nat.le_refl _)) hSl hSb hbag).mono ?_
  rintro r w' ⟨u, A', c', rfl, hu, ho, hb⟩
  obtain rfl := hu.one ht
  exact ⟨A', c', rfl, ho, hb⟩
theorem size_le_sum {l : List ByteArray} {s : ByteArray} (h : s ∈ l) : s.size ≤ sumS l := by
  induction l with
  | nil => cases h
  | cons a l ih =>
    have e : sumS (a :: l) = a.size + sumS l := by simp [sumS]
    rcases List.mem_cons.1 h with rfl | h
    · omega
    · have := ih h
      omega
/-- what is few: no more than 60 strings, of no more than 600 bytes -/
theorem fewT_facts {S : List ByteArray} (h : FewT S) : S.length ≤ 60 ∧ (∀ s ∈ S, s.size ≤ 100000) ∧ ∀ T, (bagL T (bytL2 S)).length ≤ 5000 := by
  obtain ⟨h1, h2⟩ := h
  have h3 : ((bytL2 S).map List.length).sum = sumS S := by
    unfold bytL2 sumS
    rw [List.map_map]
    congr 1
  refine ⟨h1, fun s hs => ?_, fun T => ?_⟩
  · have := size_le_sum hs
    omega
  · have := bag_len T (bytL2 S)
    omega

set_option maxRecDepth 20000 in
set_option maxHeartbeats 4000000 in
theorem awake12_any {w : World} : Calls Try.prog 9 #[] w fun r w' => r = .returned (.bool true) ∧ Below w.heap.size w w' := by
  have hrd : IsRound (bagL (bytL2 []) (bytL2 [⟨#[97, 98, 97, 98]⟩])) [[97], [97, 98], [98], [98, 97]] :=
    ⟨[[97], [97, 98], [98], [98, 97]], ⟨by decide, by decide, by decide, fun y hy hn => absurd ((show ∀ y ∈ bagL (bytL2 []) (bytL2 [⟨#[97, 98, 97, 98]⟩]), y ∈ [[97], [97, 98], [98], [98, 97]] by decide) y hy) hn⟩, IsOrder.self (by decide)⟩
  have HRD := Lib.hid hrd
  have HSA : Hid (sampleL [⟨#[120]⟩, ⟨#[121]⟩] [3, -2] = [⟨#[121]⟩, ⟨#[120]⟩]) := by unfold Hid; decide
  have HTR : Hid (Trained (bytL2 [⟨#[97, 98]⟩]) 0 []) := rfl
  clear hrd
  obtain ⟨w1, hw_w1⟩ : ∃ q, w.alloc (.cells #[.string ⟨#[97, 98, 97, 98]⟩] 9) = q := ⟨_, rfl⟩
  have Hs_w1 : Hid (Rd w1 0 w1.heap.size (some ⟨w.heap.size, 0, none⟩) 1 (sv [⟨#[97, 98, 97, 98]⟩])) := by unfold Hid; rw [← hw_w1]; exact (rd_strs w 9 [⟨#[97, 98, 97, 98]⟩] _ rfl (by decide)).wide (Nat.le_refl _) (by simp)
  have HB_w1 : Hid (Below w.heap.size w w1) := by unfold Hid; rw [← hw_w1]; exact (Below.refl _ w).alloc (Nat.le_refl _) _
  have S_w1 := HB_w1.out.size
  go_enter Try.func9, Try.ntmps9
  go_wp2_with fail
  refine (round_is [] [⟨#[97, 98, 97, 98]⟩] [[97], [97, 98], [98], [98, 97]] (lo := 0) (Rd.nil _ _ _) Hs_w1.out rfl (by decide) (by decide) HRD.out rfl rfl).mono ?_
  rintro r w2 ⟨A2, c2, rfl, ho_w2, b_w2⟩
  have Hs_w2 := Lib.hid ((Hs_w1.out.below b_w2 (Nat.le_refl _)).wide (Nat.zero_le _) b_w2.size)
  have HB_w2 := Lib.hid (below_below HB_w1.out b_w2 S_w1)
  have S_w2 := HB_w2.out.size
  have Ht_w2 := Lib.hid ((Rd.of_own ho_w2).wide (Nat.zero_le _) (Nat.le_refl _))
  clear b_w2 Hs_w1 HB_w1 ho_w2 
  clear hw_w1
  obtain ⟨w3, hw_w3⟩ : ∃ q, w2.alloc (.cells #[.string ⟨#[97]⟩, .string ⟨#[97, 98]⟩, .string ⟨#[98]⟩, .string ⟨#[98, 97]⟩] 9) = q := ⟨_, rfl⟩
  have Hs_w3 : Hid (Rd w3 0 w3.heap.size (some ⟨w.heap.size, 0, none⟩) 1 (sv [⟨#[97, 98, 97, 98]⟩])) := by unfold Hid; rw [← hw_w3]; exact (Hs_w2.out.alloc (Nat.le_refl _) _).wide (Nat.le_refl _) (by simp)
  have Ht_w3 : Hid (Rd w3 0 w3.heap.size A2 c2 (sv (strsL [[97], [97, 98], [98], [98, 97]]))) := by unfold Hid; rw [← hw_w3]; exact (Ht_w2.out.alloc (Nat.le_refl _) _).wide (Nat.le_refl _) (by simp)
  have Hu_w3 : Hid (Rd w3 0 w3.heap.size (some ⟨w2.heap.size, 0, none⟩) 4 (sv [⟨#[97]⟩, ⟨#[97, 98]⟩, ⟨#[98]⟩, ⟨#[98, 97]⟩])) := by unfold Hid; rw [← hw_w3]; exact (rd_strs w2 9 [⟨#[97]⟩, ⟨#[97, 98]⟩, ⟨#[98]⟩, ⟨#[98, 97]⟩] _ rfl (by decide)).wide (Nat.le_refl _) (by simp)
  have HB_w3 : Hid (Below w.heap.size w w3) := by unfold Hid; rw [← hw_w3]; exact HB_w2.out.alloc S_w2 _
  have S_w3 := HB_w3.out.size
  clear Hs_w2 Ht_w2 HB_w2
  go_wp2_with fail
  refine (nsame_is (strsL [[97], [97, 98], [98], [98, 97]]) [⟨#[97]⟩, ⟨#[97, 98]⟩, ⟨#[98]⟩, ⟨#[98, 97]⟩] true Ht_w3.out Hu_w3.out rfl rfl (by decide)).mono ?_
  rintro r w4 ⟨rfl, m_w4, rfl⟩
  obtain ⟨w4, hw_w4⟩ : ∃ q, w3.drewN m_w4 = q := ⟨_, rfl⟩
  have Hs_w4 : Hid (Rd w4 0 w4.heap.size (some ⟨w.heap.size, 0, none⟩) 1 (sv [⟨#[97, 98, 97, 98]⟩])) := by unfold Hid; rw [← hw_w4]; exact Hs_w3.out.drewN m_w4
  have Ht_w4 : Hid (Rd w4 0 w4.heap.size A2 c2 (sv (strsL [[97], [97, 98], [98], [98, 97]]))) := by unfold Hid; rw [← hw_w4]; exact Ht_w3.out.drewN m_w4
  have Hu_w4 : Hid (Rd w4 0 w4.heap.size (some ⟨w2.heap.size, 0, none⟩) 4 (sv [⟨#[97]⟩, ⟨#[97, 98]⟩, ⟨#[98]⟩, ⟨#[98, 97]⟩])) := by unfold Hid; rw [← hw_w4]; exact Hu_w3.out.drewN m_w4
  have HB_w4 : Hid (Below w.heap.size w w4) := by unfold Hid; rw [← hw_w4]; exact below_drewN' HB_w3.out m_w4
  have S_w4 := HB_w4.out.size
  rw [hw_w4]
  clear hw_w4 Hs_w3 Ht_w3 Hu_w3 HB_w3
  clear hw_w3
  obtain ⟨w5, hw_w5⟩ : ∃ q, w4.alloc (.cells #[.string ⟨#[120]⟩, .string ⟨#[121]⟩] 9) = q := ⟨_, rfl⟩
  have Hs_w5 : Hid (Rd w5 0 w5.heap.size (some ⟨w.heap.size, 0, none⟩) 1 (sv [⟨#[97, 98, 97, 98]⟩])) := by unfold Hid; rw [← hw_w5]; exact (Hs_w4.out.alloc (Nat.le_refl _) _).wide (Nat.le_refl _) (by simp)
  have Ht_w5 : Hid (Rd w5 0 w5.heap.size A2 c2 (sv (strsL [[97], [97, 98], [98], [98, 97]]))) := by unfold Hid; rw [← hw_w5]; exact (Ht_w4.out.alloc (Nat.le_refl _) _).wide (Nat.le_refl _) (by simp)
  have Hu_w5 : Hid (Rd w5 0 w5.heap.size (some ⟨w2.heap.size, 0, none⟩) 4 (sv [⟨#[97]⟩, ⟨#[97, 98]⟩, ⟨#[98]⟩, ⟨#[98, 97]⟩])) := by unfold Hid; rw [← hw_w5]; exact (Hu_w4.out.alloc (Nat.le_refl _) _).wide (Nat.le_refl _) (by simp)
  have Hx_w5 : Hid (Rd w5 0 w5.heap.size (some ⟨w4.heap.size, 0, none⟩) 2 (sv [⟨#[120]⟩, ⟨#[121]⟩])) := by unfold Hid; rw [← hw_w5]; exact (rd_strs w4 9 [⟨#[120]⟩, ⟨#[121]⟩] _ rfl (by decide)).wide (Nat.le_refl _) (by simp)
  have HB_w5 : Hid (Below w.heap.size w w5) := by unfold Hid; rw [← hw_w5]; exact HB_w4.out.alloc S_w4 _
  have S_w5 := HB_w5.out.size
  clear Hs_w4 Ht_w4 Hu_w4 HB_w4
  obtain ⟨w6, hw_w6⟩ : ∃ q, w5.alloc (.cells #[.int .i64 3, .int .i64 (-2)] 3) = q := ⟨_, rfl⟩
  have Hs_w6 : Hid (Rd w6 0 w6.heap.size (some ⟨w.heap.size, 0, none⟩) 1 (sv [⟨#[97, 98, 97, 98]⟩])) := by unfold Hid; rw [← hw_w6]; exact (Hs_w5.out.alloc (Nat.le_refl _) _).wide (Nat.le_refl _) (by simp)
  have Ht_w6 : Hid (Rd w6 0 w6.heap.size A2 c2 (sv (strsL [[97], [97, 98], [98], [98, 97]]))) := by unfold Hid; rw [← hw_w6]; exact (Ht_w5.out.alloc (Nat.le_refl _) _).wide (Nat.le_refl _) (by simp)
  have Hu_w6 : Hid (Rd w6 0 w6.heap.size (some ⟨w2.heap.size, 0, none⟩) 4 (sv [⟨#[97]⟩, ⟨#[97, 98]⟩, ⟨#[98]⟩, ⟨#[98, 97]⟩])) := by unfold Hid; rw [← hw_w6]; exact (Hu_w5.out.alloc (Nat.le_refl _) _).wide (Nat.le_refl _) (by simp)
  have Hx_w6 : Hid (Rd w6 0 w6.heap.size (some ⟨w4.heap.size, 0, none⟩) 2 (sv [⟨#[120]⟩, ⟨#[121]⟩])) := by unfold Hid; rw [← hw_w6]; exact (Hx_w5.out.alloc (Nat.le_refl _) _).wide (Nat.le_refl _) (by simp)
  have Hd_w6 : Hid (Rd w6 0 w6.heap.size (some ⟨w5.heap.size, 0, none⟩) 2 (iv [3, -2])) := by unfold Hid; rw [← hw_w6]; exact (rd_ints w5 3 [3, -2] _ rfl (by decide)).wide (Nat.le_refl _) (by simp)
  have HB_w6 : Hid (Below w.heap.size w w6) := by unfold Hid; rw [← hw_w6]; exact HB_w5.out.alloc S_w5 _
  have S_w6 := HB_w6.out.size
  clear Hs_w5 Ht_w5 Hu_w5 Hx_w5 HB_w5
  go_wp2_with fail
  refine (tsample_is [⟨#[120]⟩, ⟨#[121]⟩] [3, -2] [⟨#[121]⟩, ⟨#[120]⟩] Hx_w6.out Hd_w6.out (by decide) (by decide) (by decide) (by unfold Word; decide) HSA.out rfl rfl).mono ?_
  rintro r w7 ⟨A7, c7, rfl, ho_w7, b_w7⟩
  have Hs_w7 := Lib.hid ((Hs_w6.out.below b_w7 (Nat.le_refl _)).wide (Nat.zero_le _) b_w7.size)
  have Ht_w7 := Lib.hid ((Ht_w6.out.below b_w7 (Nat.le_refl _)).wide (Nat.zero_le _) b_w7.size)
  have Hu_w7 := Lib.hid ((Hu_w6.out.below b_w7 (Nat.le_refl _)).wide (Nat.zero_le _) b_w7.size)
  have Hx_w7 := Lib.hid ((Hx_w6.out.below b_w7 (Nat.le_refl _)).wide (Nat.zero_le _) b_w7.size)
  have Hd_w7 := Lib.hid ((Hd_w6.out.below b_w7 (Nat.le_refl _)).wide (Nat.zero_le _) b_w7.size)
  have HB_w7 := Lib.hid (below_below HB_w6.out b_w7 S_w6)
  have S_w7 := HB_w7.out.size
  have Hy_w7 := Lib.hid ((Rd.of_own ho_w7).wide (Nat.zero_le _) (Nat.le_refl _))
  clear b_w7 Hs_w6 Ht_w6 Hu_w6 Hx_w6 Hd_w6 HB_w6 ho_w7 
  clear hw_w5 hw_w6
  obtain ⟨w8, hw_w8⟩ : ∃ q, w7.alloc (.cells #[.string ⟨#[121]⟩, .string ⟨#[120]⟩] 9) = q := ⟨_, rfl⟩
  have Hs_w8 : Hid (Rd w8 0 w8.heap.size (some ⟨w.heap.size, 0, none⟩) 1 (sv [⟨#[97, 98, 97, 98]⟩])) := by unfold Hid; rw [← hw_w8]; exact (Hs_w7.out.alloc (Nat.le_refl _) _).wide (Nat.le_refl _) (by simp)
  have Ht_w8 : Hid (Rd w8 0 w8.heap.size A2 c2 (sv (strsL [[97], [97, 98], [98], [98, 97]]))) := by unfold Hid; rw [← hw_w8]; exact (Ht_w7.out.alloc (Nat.le_refl _) _).wide (Nat.le_refl _) (by simp)
  have Hu_w8 : Hid (Rd w8 0 w8.heap.size (some ⟨w2.heap.size, 0, none⟩) 4 (sv [⟨#[97]⟩, ⟨#[97, 98]⟩, ⟨#[98]⟩, ⟨#[98, 97]⟩])) := by unfold Hid; rw [← hw_w8]; exact (Hu_w7.out.alloc (Nat.le_refl _) _).wide (Nat.le_refl _) (by simp)
  have Hx_w8 : Hid (Rd w8 0 w8.heap.size (some ⟨w4.heap.size, 0, none⟩) 2 (sv [⟨#[120]⟩, ⟨#[121]⟩])) := by unfold Hid; rw [← hw_w8]; exact (Hx_w7.out.alloc (Nat.le_refl _) _).wide (Nat.le_refl _) (by simp)
  have Hd_w8 : Hid (Rd w8 0 w8.heap.size (some ⟨w5.heap.size, 0, none⟩) 2 (iv [3, -2])) := by unfold Hid; rw [← hw_w8]; exact (Hd_w7.out.alloc (Nat.le_refl _) _).wide (Nat.le_refl _) (by simp)
  have Hy_w8 : Hid (Rd w8 0 w8.heap.size A7 c7 (sv [⟨#[121]⟩, ⟨#[120]⟩])) := by unfold Hid; rw [← hw_w8]; exact (Hy_w7.out.alloc (Nat.le_refl _) _).wide (Nat.le_refl _) (by simp)
  have Hz_w8 : Hid (Rd w8 0 w8.heap.size (some ⟨w7.heap.size, 0, none⟩) 2 (sv [⟨#[121]⟩, ⟨#[120]⟩])) := by unfold Hid; rw [← hw_w8]; exact (rd_strs w7 9 [⟨#[121]⟩, ⟨#[120]⟩] _ rfl (by decide)).wide (Nat.le_refl _) (by simp)
  have HB_w8 : Hid (Below w.heap.size w w8) := by unfold Hid; rw [← hw_w8]; exact HB_w7.out.alloc S_w7 _
  have S_w8 := HB_w8.out.size
  clear Hs_w7 Ht_w7 Hu_w7 Hx_w7 Hd_w7 Hy_w7 HB_w7
  go_wp2_with fail
  refine (nsame_is [⟨#[121]⟩, ⟨#[120]⟩] [⟨#[121]⟩, ⟨#[120]⟩] true Hy_w8.out Hz_w8.out rfl rfl (by decide)).mono ?_
  rintro r w9 ⟨rfl, m_w9, rfl⟩
  obtain ⟨w9, hw_w9⟩ : ∃ q, w8.drewN m_w9 = q := ⟨_, rfl⟩
  have Hs_w9 : Hid (Rd w9 0 w9.heap.size (some ⟨w.heap.size, 0, none⟩) 1 (sv [⟨#[97, 98, 97, 98]⟩])) := by unfold Hid; rw [← hw_w9]; exact Hs_w8.out.drewN m_w9
  have Ht_w9 : Hid (Rd w9 0 w9.heap.size A2 c2 (sv (strsL [[97], [97, 98], [98], [98, 97]]))) := by unfold Hid; rw [← hw_w9]; exact Ht_w8.out.drewN m_w9
  have Hu_w9 : Hid (Rd w9 0 w9.heap.size (some ⟨w2.heap.size, 0, none⟩) 4 (sv [⟨#[97]⟩, ⟨#[97, 98]⟩, ⟨#[98]⟩, ⟨#[98, 97]⟩])) := by unfold Hid; rw [← hw_w9]; exact Hu_w8.out.drewN m_w9
  have Hx_w9 : Hid (Rd w9 0 w9.heap.size (some ⟨w4.heap.size, 0, none⟩) 2 (sv [⟨#[120]⟩, ⟨#[121]⟩])) := by unfold Hid; rw [← hw_w9]; exact Hx_w8.out.drewN m_w9
  have Hd_w9 : Hid (Rd w9 0 w9.heap.size (some ⟨w5.heap.size, 0, none⟩) 2 (iv [3, -2])) := by unfold Hid; rw [← hw_w9]; exact Hd_w8.out.drewN m_w9
  have Hy_w9 : Hid (Rd w9 0 w9.heap.size A7 c7 (sv [⟨#[121]⟩, ⟨#[120]⟩])) := by unfold Hid; rw [← hw_w9]; exact Hy_w8.out.drewN m_w9
  have Hz_w9 : Hid (Rd w9 0 w9.heap.size (some ⟨w7.heap.size, 0, none⟩) 2 (sv [⟨#[121]⟩, ⟨#[120]⟩])) := by unfold Hid; rw [← hw_w9]; exact Hz_w8.out.drewN m_w9
  have HB_w9 : Hid (Below w.heap.size w w9) := by unfold Hid; rw [← hw_w9]; exact below_drewN' HB_w8.out m_w9
  have S_w9 := HB_w9.out.size
  rw [hw_w9]
  clear hw_w9 Hs_w8 Ht_w8 Hu_w8 Hx_w8 Hd_w8 Hy_w8 Hz_w8 HB_w8
  clear hw_w8
  obtain ⟨wa, hw_wa⟩ : ∃ q, w9.alloc (.cells #[.string ⟨#[97, 98]⟩] 9) = q := ⟨_, rfl⟩
  have Hs_wa : Hid (Rd wa 0 wa.heap.size (some ⟨w.heap.size, 0, none⟩) 1 (sv [⟨#[97, 98, 97, 98]⟩])) := by unfold Hid; rw [← hw_wa]; exact (Hs_w9.out.alloc (Nat.le_refl _) _).wide (Nat.le_refl _) (by simp)
  have Ht_wa : Hid (Rd wa 0 wa.heap.size A2 c2 (sv (strsL [[97], [97, 98], [98], [98, 97]]))) := by unfold Hid; rw [← hw_wa]; exact (Ht_w9.out.alloc (Nat.le_refl _) _).wide (Nat.le_refl _) (by simp)
  have Hu_wa : Hid (Rd wa 0 wa.heap.size (some ⟨w2.heap.size, 0, none⟩) 4 (sv [⟨#[97]⟩, ⟨#[97, 98]⟩, ⟨#[98]⟩, ⟨#[98, 97]⟩])) := by unfold Hid; rw [← hw_wa]; exact (Hu_w9.out.alloc (Nat.le_refl _) _).wide (Nat.le_refl _) (by simp)
  have Hx_wa : Hid (Rd wa 0 wa.heap.size (some ⟨w4.heap.size, 0, none⟩) 2 (sv [⟨#[120]⟩, ⟨#[121]⟩])) := by unfold Hid; rw [← hw_wa]; exact (Hx_w9.out.alloc (Nat.le_refl _) _).wide (Nat.le_refl _) (by simp)
  have Hd_wa : Hid (Rd wa 0 wa.heap.size (some ⟨w5.heap.size, 0, none⟩) 2 (iv [3, -2])) := by unfold Hid; rw [← hw_wa]; exact (Hd_w9.out.alloc (Nat.le_refl _) _).wide (Nat.le_refl _) (by simp)
  have Hy_wa : Hid (Rd wa 0 wa.heap.size A7 c7 (sv [⟨#[121]⟩, ⟨#[120]⟩])) := by unfold Hid; rw [← hw_wa]; exact (Hy_w9.out.alloc (Nat.le_refl _) _).wide (Nat.le_refl _) (by simp)
  have Hz_wa : Hid (Rd wa 0 wa.heap.size (some ⟨w7.heap.size, 0, none⟩) 2 (sv [⟨#[121]⟩, ⟨#[120]⟩])) := by unfold Hid; rw [← hw_wa]; exact (Hz_w9.out.alloc (Nat.le_refl _) _).wide (Nat.le_refl _) (by simp)
  have Hv_wa : Hid (Rd wa 0 wa.heap.size (some ⟨w9.heap.size, 0, none⟩) 1 (sv [⟨#[97, 98]⟩])) := by unfold Hid; rw [← hw_wa]; exact (rd_strs w9 9 [⟨#[97, 98]⟩] _ rfl (by decide)).wide (Nat.le_refl _) (by simp)
  have HB_wa : Hid (Below w.heap.size w wa) := by unfold Hid; rw [← hw_wa]; exact HB_w9.out.alloc S_w9 _
  have S_wa := HB_wa.out.size
  clear Hs_w9 Ht_w9 Hu_w9 Hx_w9 Hd_w9 Hy_w9 Hz_w9 HB_w9
  go_wp2_with fail
  refine (train_is [⟨#[97, 98]⟩] 0 [] Hv_wa.out (by decide) (by decide) (by decide) rfl HTR.out rfl).mono ?_
  rintro r wb ⟨Ab, cb, rfl, ho_wb, b_wb⟩
  have Hs_wb := Lib.hid ((Hs_wa.out.below b_wb (Nat.le_refl _)).wide (Nat.zero_le _) b_wb.size)
  have Ht_wb := Lib.hid ((Ht_wa.out.below b_wb (Nat.le_refl _)).wide (Nat.zero_le _) b_wb.size)
  have Hu_wb := Lib.hid ((Hu_wa.out.below b_wb (Nat.le_refl _)).wide (Nat.zero_le _) b_wb.size)
  have Hx_wb := Lib.hid ((Hx_wa.out.below b_wb (Nat.le_refl _)).wide (Nat.zero_le _) b_wb.size)
  have Hd_wb := Lib.hid ((Hd_wa.out.below b_wb (Nat.le_refl _)).wide (Nat.zero_le _) b_wb.size)
  have Hy_wb := Lib.hid ((Hy_wa.out.below b_wb (Nat.le_refl _)).wide (Nat.zero_le _) b_wb.size)
  have Hz_wb := Lib.hid ((Hz_wa.out.below b_wb (Nat.le_refl _)).wide (Nat.zero_le _) b_wb.size)
  have Hv_wb := Lib.hid ((Hv_wa.out.below b_wb (Nat.le_refl _)).wide (Nat.zero_le _) b_wb.size)
  have HB_wb := Lib.hid (below_below HB_wa.out b_wb S_wa)
  have S_wb := HB_wb.out.size
  have Hk_wb := Lib.hid ((Rd.of_own ho_wb).wide (Nat.zero_le _) (Nat.le_refl _))
  clear b_wb Hs_wa Ht_wa Hu_wa Hx_wa Hd_wa Hy_wa Hz_wa Hv_wa HB_wa ho_wb 
  clear hw_wa
  go_wp2_with fail
  go_ret
  exact ⟨rfl, HB_wb.out⟩
end Go.Proofs.Ytpollebfehdnjaa
