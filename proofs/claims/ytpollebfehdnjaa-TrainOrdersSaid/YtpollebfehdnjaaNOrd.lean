/-
  Proved: TrainOrders of layer 12: of whatever sample, what is trained hangs on no order of its strings; twice the sample is as once; what came in reads as it did. Conditions: none of our own.
-/
import Derived.Test.YtpollebfehdnjaaTnL
import Derived.Test.YtpollebfehdnjaaMgH
import Derived.Test.YtpollebfehdnjaaApW
import Derived.Deep.RegionHeld3
namespace Go.Proofs.Ytpollebfehdnjaa
set_option linter.unusedSimpArgs false
set_option linter.unusedVariables false
open Go.ChangeShapes Go.WideShapes Go.ChangeAt Go.RowKit
open Go.ChangeMaps (open_string shut_string)

/-- what is trained hangs on how often each piece is counted, up to a factor -/
theorem Trained.alike {S S2 : List (List UInt8)} {m : Nat} (hm : 0 < m) (hc : ∀ T x, (bagL T S2).count x = m * (bagL T S).count x) : ∀ {k : Nat} {t : List (List UInt8)}, Trained S k t → Trained S2 k t
  | 0, _, h => h
  | _ + 1, _, ⟨u, h1, h2⟩ => ⟨u, h1.alike hm hc, h2.times hm (hc u)⟩
theorem rd_tail {w : World} {lo hi b off d k : Nat} {l : List ByteArray} (h : Rd w lo hi (some ⟨b, off, none⟩) d (sv l)) (hk : k < l.length) : Rd w lo hi (some ⟨b, off + k, none⟩) (d - k) (sv (l.drop k)) := by
  have hl := h.len
  have hm := h.cap
  rw [sv_length] at hl
  obtain ⟨b', off', e, h1, h2, h3⟩ := h.at_ (by rw [sv_length]; omega)
  injection e with e
  injection e with e1 e2
  subst e1 e2
  refine ⟨by rw [sv_length, List.length_drop]; omega, by omega, fun _ => ⟨b, off + k, rfl, h1, h2, fun j u hu => ?_⟩⟩
  rw [sv_drop, List.getElem?_drop] at hu
  rw [Nat.add_assoc]
  exact h3 (k + j) u hu

set_option maxRecDepth 20000 in
set_option maxHeartbeats 4000000 in
theorem trainOrders_walk {w : World} {B : Option Addr} {S : List ByteArray} {d : Nat} (hS : Rd w 0 w.heap.size B d (sv S) ∧ (∀ s ∈ S, s.size ≤ 140737488351232) ∧ S.length ≤ 8796093021952) (turn rounds : UInt8) :
    Calls Try.prog 7 #[.slice B S.length d, .int .u8 (turn.toNat : Int), .int .u8 (rounds.toNat : Int)] w fun e w' => e = .returned (.bool true) ∧ Below w.heap.size w w' := by
  obtain ⟨hS, hSz, hSn⟩ := hS
  have HS_w := Lib.hid hS
  have hSl := hS.len
  have hSm := hS.cap
  rw [sv_length] at hSl
  unfold maxLen at hSm
  have HZS := Lib.hid hSz
  clear hS hSz
  by_cases ht : FewT S
  · obtain ⟨hs60, hsb, hbag⟩ := fewT_facts ht
    have HFT : Hid (decide (FewT S) = true) := decide_eq_true ht
    have HSB := Lib.hid hsb
    have HBG := Lib.hid hbag
    clear ht hsb hbag
    by_cases hz : S.length = 0
    · have iz : (S.length : Int) = 0 := by omega
      have dz : ((S.length : Int) == 0) = true := beq_iff_eq.2 iz
      have IZ := Lib.hid iz
      clear iz hz
      go_enter Try.func7, Try.ntmps7
      go_wp2_with fail
      refine (awake12_any (w := _)).mono ?_
      rintro r w1 ⟨rfl, b_w1⟩
      have HS_w1 := Lib.hid ((HS_w.out.below b_w1 (Nat.le_refl _)).wide (Nat.zero_le _) b_w1.size)
      have HB_w1 := Lib.hid b_w1
      have S_w1 := HB_w1.out.size
      clear b_w1 HS_w 
      go_wp2_with fail
      refine (fewT_is S true HS_w1.out HZS.out HFT.out).mono ?_
      rintro r w2 ⟨rfl, m_w2, rfl⟩
      obtain ⟨w2, hw_w2⟩ : ∃ q, w1.drewN m_w2 = q := ⟨_, rfl⟩
      have HS_w2 : Hid (Rd w2 0 w2.heap.size B d (sv S)) := by unfold Hid; rw [← hw_w2]; exact HS_w1.out.drewN m_w2
      have HB_w2 : Hid (Below w.heap.size w w2) := by unfold Hid; rw [← hw_w2]; exact below_drewN' HB_w1.out m_w2
      have S_w2 := HB_w2.out.size
      rw [hw_w2]
      clear hw_w2 HS_w1 HB_w1
      go_wp2_with fail
      refine (awake12_any (w := _)).mono ?_
      rintro r w3 ⟨rfl, b_w3⟩
      have HS_w3 := Lib.hid ((HS_w2.out.below b_w3 (Nat.le_refl _)).wide (Nat.zero_le _) b_w3.size)
      have HB_w3 := Lib.hid (below_below HB_w2.out b_w3 S_w2)
      have S_w3 := HB_w3.out.size
      clear b_w3 HS_w2 HB_w2 
      go_wp2_with fail
      go_ret
      exact ⟨rfl, HB_w3.out⟩
    · have iz : ¬ (S.length : Int) = 0 := by omega
      have dz : ((S.length : Int) == 0) = false := beq_eq_false_iff_ne.2 iz
      obtain ⟨b, off, rfl, -, -, -⟩ := HS_w.out.str (k := 0) (by omega)
      obtain ⟨k, hk⟩ : ∃ k, turn.toNat % S.length = k := ⟨_, rfl⟩
      have hkl : k < S.length := by rw [← hk]; exact Nat.mod_lt _ (by omega)
      have hmod : (turn.toNat : Int) % (S.length : Int) = (k : Int) := by rw [← hk]; push_cast; rfl
      obtain ⟨n, hn⟩ : ∃ n, rounds.toNat % 6 = n := ⟨_, rfl⟩
      have hmod2 : (rounds.toNat : Int) % 6 = (n : Int) := by omega
      have hn6 : n ≤ 5 := by omega
      have HN : Hid (roundsN (n : Int) = n) := by unfold Hid roundsN; split <;> omega
      have htn := UInt8.toNat_lt turn
      have hrn := UInt8.toNat_lt rounds
      generalize turn.toNat = z1 at *
      generalize rounds.toNat = z2 at *
      obtain ⟨P, hP⟩ : ∃ P, S.drop k = P := ⟨_, rfl⟩
      obtain ⟨Q, hQ⟩ : ∃ Q, S.take k = Q := ⟨_, rfl⟩
      obtain ⟨O, hO⟩ : ∃ O, P ++ Q = O := ⟨_, rfl⟩
      obtain ⟨V, hV⟩ : ∃ V, S ++ S = V := ⟨_, rfl⟩
      have hPl : P.length = S.length - k := by rw [← hP, List.length_drop]
      have hQl : Q.length = k := by rw [← hQ, List.length_take]; omega
      have hOl : O.length = S.length := by rw [← hO, List.length_append]; omega
      have hVl : V.length = S.length + S.length := by rw [← hV, List.length_append]
      have hsq : S = Q ++ P := by rw [← hP, ← hQ, List.take_append_drop]
      have HTU : Hid (∀ {j : Nat} {t : List (List UInt8)}, Trained (bytL2 S) j t → Trained (bytL2 O) j t) := fun {j t} h => h.alike (m := 1) (by decide) (fun T x => by
        rw [Nat.one_mul, ← hO, hsq]
        unfold bytL2
        rw [List.map_append, List.map_append]
        exact bag_turn T _ _ x)
      have HTW : Hid (∀ {j : Nat} {t : List (List UInt8)}, Trained (bytL2 S) j t → Trained (bytL2 V) j t) := fun {j t} h => h.alike (m := 2) (by decide) (fun T x => by
        rw [← hV]
        unfold bytL2
        rw [List.map_append]
        exact bag_twice T _ x)
      have HOB : Hid (∀ s ∈ O, s.size ≤ 100000) := fun s hs => HSB.out s (by
        rw [hsq]
        rw [← hO] at hs
        rcases List.mem_append.1 hs with h | h
        · exact List.mem_append_right _ h
        · exact List.mem_append_left _ h)
      have HVB : Hid (∀ s ∈ V, s.size ≤ 100000) := fun s hs => HSB.out s (by
        rw [← hV] at hs
        rcases List.mem_append.1 hs with h | h <;> exact h)
      have HP := Lib.hid hP
      have HQ := Lib.hid hQ
      have HO := Lib.hid hO
      have HV := Lib.hid hV
      have HPL := Lib.hid hPl
      have HQL := Lib.hid hQl
      have HOL := Lib.hid hOl
      have HVL := Lib.hid hVl
      have hn0 : (0 : Int) ≤ (n : Int) := by omega
      have hk0 : (0 : Int) ≤ (k : Int) := by omega
      have hk1 : (k : Int) ≤ (S.length : Int) := by omega
      have hk2 : ¬ d = k := by omega
      have hk3 : ¬ (d : Int) = (k : Int) := by omega
      have hk4 : (k : Int) ≤ (d : Int) := by omega
      have hkn : ((k : Int)).toNat = k := by omega
      clear hk hn hP hQ hO hV hsq hz hOl hVl hPl hQl
      go_enter Try.func7, Try.ntmps7
      go_wp2_with fail
      refine (awake12_any (w := _)).mono ?_
      rintro r w1 ⟨rfl, b_w1⟩
      have HS_w1 := Lib.hid ((HS_w.out.below b_w1 (Nat.le_refl _)).wide (Nat.zero_le _) b_w1.size)
      have HB_w1 := Lib.hid b_w1
      have S_w1 := HB_w1.out.size
      clear b_w1 HS_w 
      go_wp2_with fail
      refine (fewT_is S true HS_w1.out HZS.out HFT.out).mono ?_
      rintro r w2 ⟨rfl, m_w2, rfl⟩
      obtain ⟨w2, hw_w2⟩ : ∃ q, w1.drewN m_w2 = q := ⟨_, rfl⟩
      have HS_w2 : Hid (Rd w2 0 w2.heap.size (some ⟨b, off, none⟩) d (sv S)) := by unfold Hid; rw [← hw_w2]; exact HS_w1.out.drewN m_w2
      have HB_w2 : Hid (Below w.heap.size w w2) := by unfold Hid; rw [← hw_w2]; exact below_drewN' HB_w1.out m_w2
      have S_w2 := HB_w2.out.size
      rw [hw_w2]
      clear hw_w2 HS_w1 HB_w1
      have HTL2 : Hid (Rd w2 0 w2.heap.size (some ⟨b, off + k, none⟩) (d - k) (sv P)) := by unfold Hid; rw [← HP.out]; exact rd_tail HS_w2.out hkl
      have HHD2 : Hid (Rd w2 0 w2.heap.size (some ⟨b, off, none⟩) d (sv Q)) := by unfold Hid; rw [← HQ.out, sv_take]; exact HS_w2.out.take_ k
      obtain ⟨A4, c4, w4, hrun4, ho4, hg4⟩ := append_strs (w2.drew.alloc (.cells #[] 9)) w2.drew.heap.size (.slice (some ⟨w2.drew.heap.size, 0, none⟩) 0 0) [] P P (List.nil_append _) (own_empty _) (HTL2.out.drew.alloc (Nat.le_refl _) _) (by have := HPL.out; simp; omega) (by simp)
      have b4 : Below w2.heap.size w2 w4 := ((Below.drew (Below.refl _ _)).alloc (Nat.le_refl _) _).grown hg4 (by simp) (by simp [Value.ownBlock])
      obtain ⟨A5, c5, w5, hrun5, ho5, hg5⟩ := append_strs w4 w2.drew.heap.size _ P Q O HO.out ho4 (HHD2.out.below b4 (Nat.le_refl _)) (by have := HPL.out; have := HQL.out; omega) b4.size
      have b5 : Below w2.heap.size w2 w5 := b4.grown hg5 b4.size (fun q hq => (own_lt ho4 hq).1)
      rw [HPL.out] at hrun4 hrun5
      rw [HQL.out] at hrun5
      have HRUN4 := Lib.hid hrun4
      have HRUN5 := Lib.hid hrun5
      have B4 := Lib.hid b4
      have B5 := Lib.hid b5
      have HO5 := Lib.hid ho5
      clear hrun4 hrun5 ho4 ho5 hg4 hg5 b4 HTL2 HHD2 b5
      go_wp2_with fail
      refine wp_region_held_drew (S := fun w' => Below w2.heap.size w2 w') (by kernel_rfl) (Below.drew (Below.refl _ _)) (fun hHeld => ?_)
      refine wpAnyH_take (i := 1) (oi := _) (v := ?_) rfl (by kernel_rfl) (by kernel_rfl) (by kernel_rfl) (fun _ _ _ h => h) (Or.inl ⟨by rfl, ?_⟩) hHeld ?_
      rotate_left
      focus (intro W hSw; go_simp; try with_reducible rfl)
      try simp only [List.getElem_toArray, List.getElem_cons_zero, List.getElem_cons_succ, Act.put, List.setIfInBounds_toArray, List.set_cons_zero, List.set_cons_succ]
      refine wpAnyH_take (i := 2) (oi := _) (v := ?_) rfl (by kernel_rfl) (by kernel_rfl) (by kernel_rfl) (fun _ _ _ h => h) (Or.inl ⟨by rfl, ?_⟩) hHeld ?_
      rotate_left
      focus (intro W hSw; go_simp; try with_reducible rfl)
      try simp only [List.getElem_toArray, List.getElem_cons_zero, List.getElem_cons_succ, Act.put, List.setIfInBounds_toArray, List.set_cons_zero, List.set_cons_succ]
      refine wpAnyH_take (i := 3) (oi := _) (v := .slice (some ⟨b, off + k, none⟩) (S.length - k) (d - k)) rfl (by kernel_rfl) (by kernel_rfl) (by kernel_rfl) (fun _ _ _ h => h) (Or.inl ⟨by rfl, ?_⟩) hHeld ?_
      focus (intro W hSw; go_simp; try with_reducible rfl)
      try simp only [List.getElem_toArray, List.getElem_cons_zero, List.getElem_cons_succ, Act.put, List.setIfInBounds_toArray, List.set_cons_zero, List.set_cons_succ]
      refine wpAnyH_take (i := 5) (oi := _) (v := ?_) rfl (by kernel_rfl) (by kernel_rfl) (by kernel_rfl) (fun _ _ _ h => h) (Or.inl ⟨by rfl, ?_⟩) hHeld ?_
      rotate_left
      focus (intro W hSw; go_simp; try with_reducible rfl)
      try simp only [List.getElem_toArray, List.getElem_cons_zero, List.getElem_cons_succ, Act.put, List.setIfInBounds_toArray, List.set_cons_zero, List.set_cons_succ]
      refine wpAnyH_take (i := 6) (oi := _) (v := ?_) rfl (by kernel_rfl) (by kernel_rfl) (by kernel_rfl) (fun _ _ _ h => h) (Or.inl ⟨by rfl, ?_⟩) hHeld ?_
      rotate_left
      focus (intro W hSw; go_simp; try with_reducible rfl)
      try simp only [List.getElem_toArray, List.getElem_cons_zero, List.getElem_cons_succ, Act.put, List.setIfInBounds_toArray, List.set_cons_zero, List.set_cons_succ]
      refine wpAnyH_take (i := 7) (oi := _) (v := .slice (some ⟨b, off, none⟩) k d) rfl (by kernel_rfl) (by kernel_rfl) (by kernel_rfl) (fun _ _ _ h => h) (Or.inl ⟨by rfl, ?_⟩) hHeld ?_
      focus (intro W hSw; go_simp; try with_reducible rfl)
      try simp only [List.getElem_toArray, List.getElem_cons_zero, List.getElem_cons_succ, Act.put, List.setIfInBounds_toArray, List.set_cons_zero, List.set_cons_succ]
      refine wpAnyH_ready (rs := [0]) (by kernel_rfl) (by simp) ?_
      refine AllReadyH.cons (o := _) rfl (fun K hK => ?_) AllReadyH.nil
      go_simp
      refine hK.out _ _ ((Below.drew (Below.refl _ _)).alloc (Nat.le_refl _) _) (fun hHeld => ?_)
      clear hK K
      try simp only [List.getElem_toArray, List.getElem_cons_zero, List.getElem_cons_succ, Act.put, List.setIfInBounds_toArray, List.set_cons_zero, List.set_cons_succ]
      refine wpAnyH_ready (rs := [4]) (by kernel_rfl) (by simp) ?_
      refine AllReadyH.cons (o := _) rfl (fun K hK => ?_) AllReadyH.nil
      refine oper_append_run (.tmp 29) (.tmp 32) _ _ rfl rfl rfl HRUN4.out ?_
      refine hK.out _ _ B4.out (fun hHeld => ?_)
      clear hK K
      try simp only [List.getElem_toArray, List.getElem_cons_zero, List.getElem_cons_succ, Act.put, List.setIfInBounds_toArray, List.set_cons_zero, List.set_cons_succ]
      refine wpAnyH_ready (rs := [8]) (by kernel_rfl) (by simp) ?_
      refine AllReadyH.cons (o := _) rfl (fun K hK => ?_) AllReadyH.nil
      refine oper_append_run (.tmp 33) (.tmp 36) _ _ rfl rfl rfl HRUN5.out ?_
      refine hK.out _ _ B5.out (fun hHeld => ?_)
      clear hK K
      try simp only [List.getElem_toArray, List.getElem_cons_zero, List.getElem_cons_succ, Act.put, List.setIfInBounds_toArray, List.set_cons_zero, List.set_cons_succ]
      refine wpAnyH_take (i := 9) (oi := _) (v := ?_) rfl (by kernel_rfl) (by kernel_rfl) (by kernel_rfl) (fun _ _ _ h => h) (Or.inl ⟨by rfl, ?_⟩) hHeld ?_
      rotate_left
      focus (intro W hSw; go_simp; try with_reducible rfl)
      try simp only [List.getElem_toArray, List.getElem_cons_zero, List.getElem_cons_succ, Act.put, List.setIfInBounds_toArray, List.set_cons_zero, List.set_cons_succ]
      refine wpAnyH_done (by kernel_rfl) ?_ _
      have b_w5 := B5.out
      have ho_w5 := HO5.out
      clear HRUN4 HRUN5 B4 B5 HO5
      have HS_w5 := Lib.hid ((HS_w2.out.below b_w5 (Nat.le_refl _)).wide (Nat.zero_le _) b_w5.size)
      have HB_w5 := Lib.hid (below_below HB_w2.out b_w5 S_w2)
      have S_w5 := HB_w5.out.size
      have Ho_w5 := Lib.hid ((Rd.of_own ho_w5).wide (Nat.zero_le _) (Nat.le_refl _))
      clear b_w5 HS_w2 HB_w2 ho_w5 
      go_wp2_with fail
      refine (train_some S (n : Int) HS_w5.out (by omega) HSB.out (by omega) HN.out rfl).mono ?_
      rintro r w6 ⟨t, A_w6, c_w6, rfl, ht, ho_w6, b_w6⟩
      have HT := Lib.hid ht
      have HTL := Lib.hid (strsL_length t)
      clear ht
      have HS_w6 := Lib.hid ((HS_w5.out.below b_w6 (Nat.le_refl _)).wide (Nat.zero_le _) b_w6.size)
      have Ho_w6 := Lib.hid ((Ho_w5.out.below b_w6 (Nat.le_refl _)).wide (Nat.zero_le _) b_w6.size)
      have HB_w6 := Lib.hid (below_below HB_w5.out b_w6 S_w5)
      have S_w6 := HB_w6.out.size
      have Ht_w6 := Lib.hid ((Rd.of_own ho_w6).wide (Nat.zero_le _) (Nat.le_refl _))
      clear b_w6 HS_w5 Ho_w5 HB_w5 ho_w6 
      go_wp2_with fail
      refine (train_is O (n : Int) t Ho_w6.out (by have := HOL.out; omega) HOB.out (by omega) HN.out (HTU.out HT.out) rfl).mono ?_
      rintro r w7 ⟨A7, c7, rfl, ho_w7, b_w7⟩
      have HS_w7 := Lib.hid ((HS_w6.out.below b_w7 (Nat.le_refl _)).wide (Nat.zero_le _) b_w7.size)
      have Ho_w7 := Lib.hid ((Ho_w6.out.below b_w7 (Nat.le_refl _)).wide (Nat.zero_le _) b_w7.size)
      have Ht_w7 := Lib.hid ((Ht_w6.out.below b_w7 (Nat.le_refl _)).wide (Nat.zero_le _) b_w7.size)
      have HB_w7 := Lib.hid (below_below HB_w6.out b_w7 S_w6)
      have S_w7 := HB_w7.out.size
      have Hx_w7 := Lib.hid ((Rd.of_own ho_w7).wide (Nat.zero_le _) (Nat.le_refl _))
      clear b_w7 HS_w6 Ho_w6 Ht_w6 HB_w6 ho_w7 
      go_wp2_with fail
      refine (nsame_is (strsL t) (strsL t) true Hx_w7.out Ht_w7.out HTL.out HTL.out (decide_eq_true rfl)).mono ?_
      rintro r w8 ⟨rfl, m_w8, rfl⟩
      obtain ⟨w8, hw_w8⟩ : ∃ q, w7.drewN m_w8 = q := ⟨_, rfl⟩
      have HS_w8 : Hid (Rd w8 0 w8.heap.size (some ⟨b, off, none⟩) d (sv S)) := by unfold Hid; rw [← hw_w8]; exact HS_w7.out.drewN m_w8
      have Ho_w8 : Hid (Rd w8 0 w8.heap.size A5 c5 (sv O)) := by unfold Hid; rw [← hw_w8]; exact Ho_w7.out.drewN m_w8
      have Ht_w8 : Hid (Rd w8 0 w8.heap.size A_w6 c_w6 (sv (strsL t))) := by unfold Hid; rw [← hw_w8]; exact Ht_w7.out.drewN m_w8
      have Hx_w8 : Hid (Rd w8 0 w8.heap.size A7 c7 (sv (strsL t))) := by unfold Hid; rw [← hw_w8]; exact Hx_w7.out.drewN m_w8
      have HB_w8 : Hid (Below w.heap.size w w8) := by unfold Hid; rw [← hw_w8]; exact below_drewN' HB_w7.out m_w8
      have S_w8 := HB_w8.out.size
      rw [hw_w8]
      clear hw_w8 HS_w7 Ho_w7 Ht_w7 Hx_w7 HB_w7
      obtain ⟨A9, c9, w9, hrun9, ho9, hg9⟩ := append_strs (w8.alloc (.cells #[] 9)) w8.heap.size (.slice (some ⟨w8.heap.size, 0, none⟩) 0 0) [] S S (List.nil_append _) (own_empty _) (HS_w8.out.alloc (Nat.le_refl _) _) (by simp; omega) (by simp)
      have b9 : Below w8.heap.size w8 w9 := ((Below.refl _ _).alloc (Nat.le_refl _) _).grown hg9 (by simp) (by simp [Value.ownBlock])
      obtain ⟨Aa, ca, wa, hruna, ho_wa, hga⟩ := append_strs w9 w8.heap.size _ S S V HV.out ho9 (HS_w8.out.below b9 (Nat.le_refl _)) (by omega) b9.size
      have b_wa : Below w8.heap.size w8 wa := b9.grown hga b9.size (fun q hq => (own_lt ho9 hq).1)
      have HRUN9 := Lib.hid hrun9
      have HRUNA := Lib.hid hruna
      clear hrun9 hruna ho9 hg9 hga b9
      have HS_wa := Lib.hid ((HS_w8.out.below b_wa (Nat.le_refl _)).wide (Nat.zero_le _) b_wa.size)
      have Ho_wa := Lib.hid ((Ho_w8.out.below b_wa (Nat.le_refl _)).wide (Nat.zero_le _) b_wa.size)
      have Ht_wa := Lib.hid ((Ht_w8.out.below b_wa (Nat.le_refl _)).wide (Nat.zero_le _) b_wa.size)
      have Hx_wa := Lib.hid ((Hx_w8.out.below b_wa (Nat.le_refl _)).wide (Nat.zero_le _) b_wa.size)
      have HB_wa := Lib.hid (below_below HB_w8.out b_wa S_w8)
      have S_wa := HB_wa.out.size
      have Hv_wa := Lib.hid ((Rd.of_own ho_wa).wide (Nat.zero_le _) (Nat.le_refl _))
      clear b_wa HS_w8 Ho_w8 Ht_w8 Hx_w8 HB_w8 ho_wa 
      go_wp2_with (at_builtin; refine wpList_append_want (by first | rfl | (go_simp; done) | (go_simp; omega)) _ _ _ _ rfl rfl rfl HRUN9.out ?_; refine held ?_)
      refine ⟨?_⟩
      go_wp2_with (at_builtin; refine wpList_append_want (by first | rfl | (go_simp; done) | (go_simp; omega)) _ _ _ _ rfl rfl rfl HRUNA.out ?_)
      clear HRUN9 HRUNA
      refine (train_is V (n : Int) t Hv_wa.out (by have := HVL.out; omega) HVB.out (by omega) HN.out (HTW.out HT.out) rfl).mono ?_
      rintro r wb ⟨Ab, cb, rfl, ho_wb, b_wb⟩
      have HS_wb := Lib.hid ((HS_wa.out.below b_wb (Nat.le_refl _)).wide (Nat.zero_le _) b_wb.size)
      have Ho_wb := Lib.hid ((Ho_wa.out.below b_wb (Nat.le_refl _)).wide (Nat.zero_le _) b_wb.size)
      have Ht_wb := Lib.hid ((Ht_wa.out.below b_wb (Nat.le_refl _)).wide (Nat.zero_le _) b_wb.size)
      have Hx_wb := Lib.hid ((Hx_wa.out.below b_wb (Nat.le_refl _)).wide (Nat.zero_le _) b_wb.size)
      have Hv_wb := Lib.hid ((Hv_wa.out.below b_wb (Nat.le_refl _)).wide (Nat.zero_le _) b_wb.size)
      have HB_wb := Lib.hid (below_below HB_wa.out b_wb S_wa)
      have S_wb := HB_wb.out.size
      have Hy_wb := Lib.hid ((Rd.of_own ho_wb).wide (Nat.zero_le _) (Nat.le_refl _))
      clear b_wb HS_wa Ho_wa Ht_wa Hx_wa Hv_wa HB_wa ho_wb 
      go_wp2_with fail
      refine (nsame_is (strsL t) (strsL t) true Hy_wb.out Ht_wb.out HTL.out HTL.out (decide_eq_true rfl)).mono ?_
      rintro r wc ⟨rfl, m_wc, rfl⟩
      obtain ⟨wc, hw_wc⟩ : ∃ q, wb.drewN m_wc = q := ⟨_, rfl⟩
      have HS_wc : Hid (Rd wc 0 wc.heap.size (some ⟨b, off, none⟩) d (sv S)) := by unfold Hid; rw [← hw_wc]; exact HS_wb.out.drewN m_wc
      have Ho_wc : Hid (Rd wc 0 wc.heap.size A5 c5 (sv O)) := by unfold Hid; rw [← hw_wc]; exact Ho_wb.out.drewN m_wc
      have Ht_wc : Hid (Rd wc 0 wc.heap.size A_w6 c_w6 (sv (strsL t))) := by unfold Hid; rw [← hw_wc]; exact Ht_wb.out.drewN m_wc
      have Hx_wc : Hid (Rd wc 0 wc.heap.size A7 c7 (sv (strsL t))) := by unfold Hid; rw [← hw_wc]; exact Hx_wb.out.drewN m_wc
      have Hv_wc : Hid (Rd wc 0 wc.heap.size Aa ca (sv V)) := by unfold Hid; rw [← hw_wc]; exact Hv_wb.out.drewN m_wc
      have Hy_wc : Hid (Rd wc 0 wc.heap.size Ab cb (sv (strsL t))) := by unfold Hid; rw [← hw_wc]; exact Hy_wb.out.drewN m_wc
      have HB_wc : Hid (Below w.heap.size w wc) := by unfold Hid; rw [← hw_wc]; exact below_drewN' HB_wb.out m_wc
      have S_wc := HB_wc.out.size
      rw [hw_wc]
      clear hw_wc HS_wb Ho_wb Ht_wb Hx_wb Hv_wb Hy_wb HB_wb
      go_wp2_with fail
      go_ret
      exact ⟨rfl, HB_wc.out⟩
  · have HNT : Hid (decide (FewT S) = false) := decide_eq_false ht
    clear ht
    go_enter Try.func7, Try.ntmps7
    go_wp2_with fail
    refine (awake12_any (w := _)).mono ?_
    rintro r w1 ⟨rfl, b_w1⟩
    have HS_w1 := Lib.hid ((HS_w.out.below b_w1 (Nat.le_refl _)).wide (Nat.zero_le _) b_w1.size)
    have HB_w1 := Lib.hid b_w1
    have S_w1 := HB_w1.out.size
    clear b_w1 HS_w 
    go_wp2_with fail
    refine (fewT_is S false HS_w1.out HZS.out HNT.out).mono ?_
    rintro r w2 ⟨rfl, m_w2, rfl⟩
    obtain ⟨w2, hw_w2⟩ : ∃ q, w1.drewN m_w2 = q := ⟨_, rfl⟩
    have HS_w2 : Hid (Rd w2 0 w2.heap.size B d (sv S)) := by unfold Hid; rw [← hw_w2]; exact HS_w1.out.drewN m_w2
    have HB_w2 : Hid (Below w.heap.size w w2) := by unfold Hid; rw [← hw_w2]; exact below_drewN' HB_w1.out m_w2
    have S_w2 := HB_w2.out.size
    rw [hw_w2]
    clear hw_w2 HS_w1 HB_w1
    go_wp2_with fail
    refine (awake12_any (w := _)).mono ?_
    rintro r w3 ⟨rfl, b_w3⟩
    have HS_w3 := Lib.hid ((HS_w2.out.below b_w3 (Nat.le_refl _)).wide (Nat.zero_le _) b_w3.size)
    have HB_w3 := Lib.hid (below_below HB_w2.out b_w3 S_w2)
    have S_w3 := HB_w3.out.size
    clear b_w3 HS_w2 HB_w2 
    go_wp2_with fail
    go_ret
    exact ⟨rfl, HB_w3.out⟩

set_option maxRecDepth 100000 in
theorem trainOrders_lifted (os : Os) (started : os.Started) (H : Type) (enc : TypeId × Value → H) :
    ReturnsInHanded {} Try.checked os 7 .any (Rows.trainOrdersSpec.pre6 enc Try.prog Try.f7 Rows.trainOrdersRow.domain false) (Rows.trainOrdersSpec.post enc Try.prog Try.f7 false true false false) := by
  refine returnsInHanded_of_change_sized (C := Try.checked) own started (by kernel_rfl) Try.func7
    (ChangeSpec.witness6 (enc := enc) (C := Try.checked) false ⟨#[], #[.slice none 0 0, .int .u8 0, .int .u8 0], []⟩ 8 (by kernel_rfl) (by kernel_rfl) (by kernel_rfl) (by kernel_rfl)) ?_
  intro W base args ds gs before hval0 hW hcnd hsz0 _
  have hsz : (DataW.weightsEach Try.prog (Try.f7.params.toList ++ Rows.trainOrdersSpec.plain.varTypes Try.prog) (ds ++ gs)).all (· ≤ reachBytes) = true := hsz0
  have hval : ∀ (j : Nat) t v, Try.f7.params[j]? = some t → args[j]? = some v → Value.okWide Try.prog W .any base t v := hval0
  have hW' := hW
  obtain ⟨p, q, hA0, hV, rfl, hfz, hnd⟩ := hW
  have hA : DataW.TrodAll enc Try.prog W 0 (fun _ => true) true Try.f7.params.toList args.toList ds p := hA0
  have hA1 : DataW.TrodAll enc Try.prog W 0 (fun _ => true) true Try.f7.params.toList args.toList ds p := hA0
  rw [Try.params7] at hA hval hsz
  obtain ⟨v0, vs0, d0, ds0, p0, q0, hargs, rfl, rfl, h0, r0⟩ := trodAll_cons hA
  obtain ⟨v1, vs1, d1, ds1, p1, q1, rfl, rfl, rfl, h1, r1⟩ := trodAll_cons r0
  obtain ⟨v2, vs2, d2, ds2, p2, q2, rfl, rfl, rfl, h2, r2⟩ := trodAll_cons r1
  obtain ⟨rfl, rfl, rfl⟩ := trodAll_nil r2
  obtain rfl : args = #[v0, v1, v2] := by cases args; simp_all
  obtain ⟨rfl, rfl⟩ := trodVars_none hV
  obtain ⟨A0, a0, c0, rfl, w0⟩ := open_strs_sized Try.underlying22 Try.underlying9 (by kernel_rfl) (by kernel_rfl) (hval 0 22 v0 rfl rfl) h0 (fun n hn => by have := List.all_eq_true.1 hsz n (DataW.weights_mem_each (j := 0) (t := 22) rfl rfl n hn); simpa using this)
  obtain ⟨a1, rfl, rfl, rfl, w1⟩ := open_int Try.underlying5 (hval 1 5 v1 rfl rfl) h1
  obtain ⟨b1, rfl⟩ := u8_of_wf w1
  obtain ⟨a2, rfl, rfl, rfl, w2⟩ := open_int Try.underlying5 (hval 2 5 v2 rfl rfl) h2
  obtain ⟨b2, rfl⟩ := u8_of_wf w2
  clear hA0 hval0
  refine (trainOrders_walk (w := W) w0 b1 b2).mono fun e W' ⟨he, bel⟩ => ?_
  subst he
  exact ⟨_, rfl, _, _, _, [], _, [], hW', trodAll_mk1 (shut_bool Try.underlying4 _), trodAll_below laidOut bel _ _ _ _ (by kernel_rfl) hA1, rfl, bel.frame _, fun h => by cases h⟩

theorem trainOrders_over : Rows.trainOrdersRow.holds Try.pinned (OpenSpec.ofChange Rows.trainOrdersSpec) :=
  OpenClaim.holds_of_wide 7 Try.f7 rfl rfl rfl rfl rfl rfl rfl ⟨rfl, rfl, rfl, rfl, rfl⟩ rfl rfl rfl rfl rfl (by kernel_rfl) Try.func7 (by kernel_rfl)
    (of_decide_eq_true (by kernel_rfl)) (by unfold Func.isWrapper; first | (rw [if_pos (by decide +kernel)]; kernel_rfl) | (rw [if_neg (by decide +kernel)]; exact ⟨rfl, rfl⟩))
    (fun os started H enc _ => trainOrders_lifted os started H enc)

/-- The statement. -/
theorem trainOrders_proved : Rows.TrainOrdersSaid := trainOrders_over


end Go.Proofs.Ytpollebfehdnjaa
