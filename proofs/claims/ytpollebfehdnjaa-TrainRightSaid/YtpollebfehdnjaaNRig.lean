/-
  Proved: TrainRight of layer 12: of whatever sample the table is right, each symbol stands in a string of it, and with one round, of few symbols, nothing is escaped; what came in reads as it did. Conditions: none of our own.
-/
import Derived.Test.YtpollebfehdnjaaTnL
import Derived.Test.YtpollebfehdnjaaMgH
import Derived.Test.YtpollebfehdnjaaTnP
import Derived.Test.YtpollebfehdnjaaShc
import Derived.Deep.RegionHeld3
import Derived.HandedShaped
namespace Go.Proofs.Ytpollebfehdnjaa
set_option linter.unusedSimpArgs false
set_option linter.unusedVariables false
open Go.ChangeShapes Go.WideShapes Go.ChangeAt Go.RowKit
open Go.ChangeMaps (open_string shut_string)

theorem nenc_is {w : World} (l : List ByteArray) (s : ByteArray) (E : List UInt8) {lo n c : Nat} {A : Option Addr} (h : Rd w lo w.heap.size A c (sv l)) (hr : rightT (bytL2 l) = true) (hs : s.size ≤ 100000000) (he : encL (bytL2 l) s.data.toList = E) (hn : l.length = n) :
    Calls Try.prog 22 #[.slice A n c, .string s] w fun r w' => ∃ A' c', r = .returned (.slice A' E.length c') ∧ w'.ownsRow w.heap.size 5 1 (.slice A' E.length c') E.length (bv E) ∧ Below w.heap.size w w' := by
  subst hn; subst he
  exact fencode_any l s (h.wide (Nat.zero_le _) (Nat.le_refl _)) hr hs
theorem nright_is {w : World} (t : List (List UInt8)) {lo hi n c : Nat} {A : Option Addr} (h : Rd w lo hi A c (sv (strsL t))) (hr : rightT t = true) (hn : t.length = n) :
    Calls Try.prog 20 #[.slice A n c] w fun r w' => r = .returned (.bool true) ∧ ∃ m, w' = w.drewN m := by
  have hb := bytL2_strs t
  have h8 := (right_small (l := strsL t) (by rw [hb]; exact hr)).2
  have h1 := refRightT_any (strsL t) h (fun s hs => by have := h8 s hs; omega)
  rw [hb, hr, strsL_length, hn] at h1
  exact h1

set_option maxRecDepth 20000 in
set_option maxHeartbeats 4000000 in
theorem trainRight_walk {w : World} {B : Option Addr} {S : List ByteArray} {d : Nat} (hS : Rd w 0 w.heap.size B d (sv S) ∧ (∀ s ∈ S, s.size ≤ 140737488351232) ∧ S.length ≤ 8796093021952) (rounds : UInt8) (hML : ∃ m, MaxLenIs m w) :
    Calls Try.prog 6 #[.slice B S.length d, .int .u8 (rounds.toNat : Int)] w fun e w' => e = .returned (.bool true) ∧ Below w.heap.size w w' := by
  obtain ⟨hS, hSz, hSn⟩ := hS
  have HS_w := Lib.hid hS
  have hSl := hS.len
  have hSm := hS.cap
  rw [sv_length] at hSl
  unfold maxLen at hSm
  have HZS := Lib.hid hSz
  clear hS hSz
  obtain ⟨m, hML⟩ := hML
  have HML := Lib.hid hML
  clear hML
  by_cases ht : FewT S
  · obtain ⟨hs60, hsb, hbag⟩ := fewT_facts ht
    have HFT : Hid (decide (FewT S) = true) := decide_eq_true ht
    have HSB := Lib.hid hsb
    have HBG := Lib.hid hbag
    clear ht hsb hbag
    obtain ⟨n, hn⟩ : ∃ n, rounds.toNat % 10 = n := ⟨_, rfl⟩
    have hmod : (rounds.toNat : Int) % 10 = (n : Int) := by omega
    have hn9 : n ≤ 9 := by omega
    have hn0 : (0 : Int) ≤ (n : Int) := by omega
    have hrn := UInt8.toNat_lt rounds
    generalize rounds.toNat = z at *
    obtain ⟨j, hj⟩ : ∃ j, roundsN (n : Int) = j := ⟨_, rfl⟩
    have HJ := Lib.hid hj
    have H1 : Hid (roundsN 1 = 1) := rfl
    clear hj hn
    have hSl2 : (bytL2 S).length = S.length := bytL2_length S
    have HSL2 := Lib.hid hSl2
    clear hSl2
    go_enter Try.func6, Try.ntmps6
    go_wp2_with fail
    refine (awake12_any (w := _)).mono ?_
    rintro r w1 ⟨rfl, b_w1⟩
    have HS_w1 := Lib.hid ((HS_w.out.below b_w1 (Nat.le_refl _)).wide (Nat.zero_le _) b_w1.size)
    have HB_w1 := Lib.hid b_w1
    have S_w1 := HB_w1.out.size
    clear b_w1 HS_w 
    go_wp2_with fail
    refine (fewT_is S true HS_w1.out HZS.out HFT.out).mono ?_
    rintro r w2 ⟨rfl, m_w2, rfl⟩
    obtain ⟨w2, hw_w2⟩ : ∃ q, w1.drewN m_w2 = q := ⟨_, rfl⟩
    have HS_w2 : Hid (Rd w2 0 w2.heap.size B d (sv S)) := by unfold Hid; rw [← hw_w2]; exact HS_w1.out.drewN m_w2
    have HB_w2 : Hid (Below w.heap.size w w2) := by unfold Hid; rw [← hw_w2]; exact below_drewN' HB_w1.out m_w2
    have S_w2 := HB_w2.out.size
    rw [hw_w2]
    clear hw_w2 HS_w1 HB_w1
    go_wp2_with fail
    refine (train_some S (n : Int) HS_w2.out (by omega) HSB.out (by omega) HJ.out rfl).mono ?_
    rintro r w3 ⟨t, A_w3, c_w3, rfl, ht, ho_w3, b_w3⟩
    have HT := Lib.hid ht
    have HTL := Lib.hid (strsL_length t)
    clear ht
    have HS_w3 := Lib.hid ((HS_w2.out.below b_w3 (Nat.le_refl _)).wide (Nat.zero_le _) b_w3.size)
    have HB_w3 := Lib.hid (below_below HB_w2.out b_w3 S_w2)
    have S_w3 := HB_w3.out.size
    have Ht_w3 := Lib.hid ((Rd.of_own ho_w3).wide (Nat.zero_le _) (Nat.le_refl _))
    clear b_w3 HS_w2 HB_w2 ho_w3 
    go_wp2_with fail
    refine (nright_is t Ht_w3.out HT.out.right rfl).mono ?_
    rintro r w4 ⟨rfl, m_w4, rfl⟩
    obtain ⟨w4, hw_w4⟩ : ∃ q, w3.drewN m_w4 = q := ⟨_, rfl⟩
    have HS_w4 : Hid (Rd w4 0 w4.heap.size B d (sv S)) := by unfold Hid; rw [← hw_w4]; exact HS_w3.out.drewN m_w4
    have Ht_w4 : Hid (Rd w4 0 w4.heap.size A_w3 c_w3 (sv (strsL t))) := by unfold Hid; rw [← hw_w4]; exact Ht_w3.out.drewN m_w4
    have HB_w4 : Hid (Below w.heap.size w w4) := by unfold Hid; rw [← hw_w4]; exact below_drewN' HB_w3.out m_w4
    have S_w4 := HB_w4.out.size
    rw [hw_w4]
    clear hw_w4 HS_w3 Ht_w3 HB_w3
    have HSTD : Hid (∀ x ∈ t, ∃ k, ∃ h : k < S.length, Lib.contains S[k].data.toList x = true) := fun x hx => by
      obtain ⟨s, hs, h⟩ := HT.out.stands x hx
      obtain ⟨u, hu, rfl⟩ := List.mem_map.1 hs
      obtain ⟨k, hk, rfl⟩ := List.getElem_of_mem hu
      exact ⟨k, hk, h⟩
    go_wp2_with fail
    have ht255 := HT.out.ok.2
    go_loopw [6] (fun x6 wq => ∃ (i q : Nat), i ≤ t.length ∧ x6 = .int .i64 (i : Int) ∧ wq = w4.drewN q) (fun x6 _ => t.length - (intOf x6).toNat)
    case atStart => exact ⟨0, 0, Nat.zero_le _, rfl, rfl⟩
    case round =>
      obtain ⟨i, q0, hi, rfl, rfl⟩ := hrel
      by_cases hlt : i < t.length
      · have hiL : i < (strsL t).length := by rw [HTL.out]; exact hlt
        obtain ⟨tb, toff, rfl, -, -, hct⟩ := Ht_w4.out.str hiL
        obtain ⟨kx, hkx, hcx⟩ := HSTD.out t[i] (List.getElem_mem hlt)
        have hti : (strsL t)[i].data.toList = t[i] := by simp [strsL]
        have HTI := Lib.hid hti
        have HTC := Lib.hid (Ht_w4.out.len)
        have HCX : Hid (Lib.contains S[kx].data.toList (strsL t)[i].data.toList = true) := by unfold Hid; rw [hti]; exact hcx
        clear hcx hti
        have hsz8 : (strsL t)[i].size ≤ 9223372036854775807 := by rw [← lenS, HTI.out]; have := (HT.out.ok.1 _ (List.getElem_mem hlt)); have := (okS_iff.1 this).2; omega
        generalize (strsL t)[i] = x at *
        clear HTI
        go_wp2_with fail
        obtain ⟨wo, hwo⟩ : ∃ wo, w4.drewN q0 = wo := ⟨_, rfl⟩
        have HWO := Lib.hid hwo
        have HCT : Hid (w4.cell? ⟨tb, toff + i, none⟩ = some (.string x)) := hct
        have tlen := HTC.out
        rw [sv_length, HTL.out] at tlen
        clear hct HTC hwo
        go_loopw [7, 8] (fun x7 x8 wq => ∃ (k p : Nat) (f : Bool), k ≤ S.length ∧ x8 = .int .i64 (k : Int) ∧ x7 = .bool f ∧ wq = w4.drewN p ∧ (kx < k → f = true)) (fun _ x8 _ => S.length - (intOf x8).toNat)
        case atStart => exact ⟨0, q0, false, Nat.zero_le _, rfl, rfl, rfl, fun h => absurd h (Nat.not_lt_zero _)⟩
        case round =>
          obtain ⟨k, p, f, hk, rfl, rfl, rfl, hf⟩ := hrel
          have HF := Lib.hid hf
          clear hf
          by_cases hlk : k < S.length
          · obtain ⟨sb, soff, hB, -, -, hcs⟩ := HS_w4.out.str hlk
            subst hB
            have ct := HCT.out
            have hs1 := HSB.out _ (List.getElem_mem hlk)
            have HCN := Lib.hid (fun p2 => (contains_any (w := w4.drewN p2) S[k] x m (by omega) (HML.out.on (below_drewN' HB_w4.out p2))).mono (fun e w' h => (⟨h.1, h.2.symm⟩ : e = .returned (.bool (Lib.contains S[k].data.toList x.data.toList)) ∧ w4.drewN p2 = w')))
            have HGO : Hid (k = kx → Lib.contains S[k].data.toList x.data.toList = true) := fun e => by subst e; exact HCX.out
            have ilk : (k : Int) < (S.length : Int) := by omega
            have ilt : (i : Int) < (t.length : Int) := by omega
            cases f with
            | true =>
              go_wp2_with fail
              go_quiet (fail)
              go_wp2
              go_roundw
              case rel => exact ⟨k + 1, _, true, by omega, by go_num, rfl, by first | rfl | (simp only [World.drewN_drewN]; rfl), fun _ => rfl⟩
              case measure => simp [intOf] <;> omega
            | false =>
              obtain ⟨v, hv⟩ : ∃ v, Lib.contains S[k].data.toList x.data.toList = v := ⟨_, rfl⟩
              rw [hv] at HCN HGO
              clear hv
              generalize S[k] = s at *
              go_wp2_with fail
              go_quiet ((go_at_call 21; exact quiet_pure_on (HCN.out _)))
              go_wp2
              go_roundw
              case rel => exact ⟨k + 1, _, v, by omega, by go_num, rfl, by first | rfl | (simp only [World.drewN_drewN]; rfl), fun h => by
                by_cases hx : k = kx
                · exact HGO.out hx
                · exact absurd (HF.out (by omega)) (by decide)⟩
              case measure => simp [intOf] <;> omega
          · obtain rfl : f = true := HF.out (by omega)
            obtain rfl : k = S.length := by omega
            have ilt : (i : Int) < (t.length : Int) := by omega
            go_wp2_with fail
            go_roundw
            case rel => exact ⟨i + 1, p, by omega, by go_num, by first | rfl | trivial⟩
            case measure => simp [intOf] <;> omega
      · obtain rfl : i = t.length := by omega
        go_wp2_with fail
        obtain ⟨w5, hw_w5⟩ : ∃ q, w4.drewN q0 = q := ⟨_, rfl⟩
        have HS_w5 : Hid (Rd w5 0 w5.heap.size B d (sv S)) := by unfold Hid; rw [← hw_w5]; exact HS_w4.out.drewN q0
        have Ht_w5 : Hid (Rd w5 0 w5.heap.size A_w3 c_w3 (sv (strsL t))) := by unfold Hid; rw [← hw_w5]; exact Ht_w4.out.drewN q0
        have HB_w5 : Hid (Below w.heap.size w w5) := by unfold Hid; rw [← hw_w5]; exact below_drewN' HB_w4.out q0
        have S_w5 := HB_w5.out.size
        rw [hw_w5]
        clear hw_w5 HS_w4 Ht_w4 HB_w4
        refine (train_some S 1 HS_w5.out (by omega) HSB.out (by decide) H1.out rfl).mono ?_
        rintro r w6 ⟨u, A_w6, c_w6, rfl, hu, ho_w6, b_w6⟩
        have HU := Lib.hid hu
        have HUL := Lib.hid (strsL_length u)
        clear hu
        have HS_w6 := Lib.hid ((HS_w5.out.below b_w6 (Nat.le_refl _)).wide (Nat.zero_le _) b_w6.size)
        have Ht_w6 := Lib.hid ((Ht_w5.out.below b_w6 (Nat.le_refl _)).wide (Nat.zero_le _) b_w6.size)
        have HB_w6 := Lib.hid (below_below HB_w5.out b_w6 S_w5)
        have S_w6 := HB_w6.out.size
        have Hu_w6 := Lib.hid ((Rd.of_own ho_w6).wide (Nat.zero_le _) (Nat.le_refl _))
        clear b_w6 HS_w5 Ht_w5 HB_w5 ho_w6 
        go_wp2_with fail
        have HUR := Lib.hid HU.out.right
        have hu255 := HU.out.ok.2
        by_cases hlu : u.length < 255
        · have HSH : Hid (∀ k (h : k < S.length), (encL u S[k].data.toList).length ≤ S[k].size) := fun k h => by
            have := HU.out.short hlu S[k].data.toList (List.mem_map.2 ⟨S[k], List.getElem_mem h, rfl⟩)
            rwa [lenS] at this
          have iu : (u.length : Int) < 255 := by omega
          have du : decide ((u.length : Int) < 255) = true := decide_eq_true iu
          go_loopw [10] (fun x10 wq => ∃ k : Nat, k ≤ S.length ∧ x10 = .int .i64 (k : Int) ∧ Below w6.heap.size w6 wq) (fun x10 _ => S.length - (intOf x10).toNat)
          case atStart => exact ⟨0, Nat.zero_le _, rfl, Below.refl _ _⟩
          case round =>
            obtain ⟨k, hk, rfl, hb⟩ := hrel
            have HBW := Lib.hid hb
            clear hb
            by_cases hlk : k < S.length
            · obtain ⟨sb, soff, hB, -, -, hcs⟩ := HS_w6.out.str hlk
              subst hB
              have hlt6 := cell_lt' hcs
              have HC0 : Hid (∀ W, Below w6.heap.size w6 W → W.cell? ⟨sb, soff + k, none⟩ = some (.string S[k])) := fun W hW => (hW.cell hlt6).trans hcs
              have hsz := HSB.out _ (List.getElem_mem hlk)
              have hel := HSH.out k hlk
              have HEN := Lib.hid (fun W (hW : Below w6.heap.size w6 W) => nenc_is (w := W) (strsL u) S[k] (encL u S[k].data.toList) ((Hu_w6.out.below hW (Nat.le_refl _)).wide (Nat.zero_le _) hW.size) (by rw [bytL2_strs]; exact HUR.out) (by omega) (by rw [bytL2_strs]) HUL.out)
              clear hcs hlt6
              generalize (encL u S[k].data.toList) = E at *
              generalize S[k] = s at *
              have ie : ¬ (s.size : Int) < (E.length : Int) := by omega
              have de : decide ((s.size : Int) < (E.length : Int)) = false := decide_eq_false ie
              have ilk : (k : Int) < (S.length : Int) := by omega
              have dk : decide ((k : Int) < (S.length : Int)) = true := decide_eq_true ilk
              have ik0 : (0 : Int) ≤ (k : Int) := by omega
              go_wp2_with fail
              refine wp_region_held_drew (S := fun W => Below w6.heap.size w6 W) (by kernel_rfl) (Below.drew HBW.out) (fun hHeld => ?_)
              refine wpAnyH_take (i := 0) (oi := _) (v := ?_) rfl (by kernel_rfl) (by kernel_rfl) (by kernel_rfl) (fun _ _ _ h => h) (Or.inl ⟨by rfl, ?_⟩) hHeld ?_
              rotate_left
              focus (intro W hSw; go_simp; try with_reducible rfl)
              try simp only [List.getElem_toArray, List.getElem_cons_zero, List.getElem_cons_succ, Act.put, List.setIfInBounds_toArray, List.set_cons_zero, List.set_cons_succ]
              refine wpAnyH_take (i := 1) (oi := _) (v := ?_) rfl (by kernel_rfl) (by kernel_rfl) (by kernel_rfl) (fun _ _ _ h => h) (Or.inl ⟨by rfl, ?_⟩) hHeld ?_
              rotate_left
              focus (intro W hSw; go_simp; try with_reducible rfl)
              try simp only [List.getElem_toArray, List.getElem_cons_zero, List.getElem_cons_succ, Act.put, List.setIfInBounds_toArray, List.set_cons_zero, List.set_cons_succ]
              refine wpAnyH_take (i := 2) (oi := _) (v := ?_) rfl (by kernel_rfl) (by kernel_rfl) (by kernel_rfl) (fun _ _ _ h => h) (Or.inl ⟨by rfl, ?_⟩) hHeld ?_
              rotate_left
              focus (intro W hSw; go_simp; try with_reducible rfl)
              try simp only [List.getElem_toArray, List.getElem_cons_zero, List.getElem_cons_succ, Act.put, List.setIfInBounds_toArray, List.set_cons_zero, List.set_cons_succ]
              refine wpAnyH_take (i := 3) (oi := _) (v := ?_) rfl (by kernel_rfl) (by kernel_rfl) (by kernel_rfl) (fun _ _ _ h => h) (Or.inl ⟨by rfl, ?_⟩) hHeld ?_
              rotate_left
              focus (intro W hSw; go_simp; try with_reducible rfl)
              try simp only [List.getElem_toArray, List.getElem_cons_zero, List.getElem_cons_succ, Act.put, List.setIfInBounds_toArray, List.set_cons_zero, List.set_cons_succ]
              refine wpAnyH_take (i := 4) (oi := _) (v := ?_) rfl (by kernel_rfl) (by kernel_rfl) (by kernel_rfl) (fun _ _ _ h => h) (Or.inl ⟨by rfl, ?_⟩) hHeld ?_
              rotate_left
              focus (intro W hSw; have hcv := HC0.out W hSw; go_simp; try with_reducible rfl)
              try simp only [List.getElem_toArray, List.getElem_cons_zero, List.getElem_cons_succ, Act.put, List.setIfInBounds_toArray, List.set_cons_zero, List.set_cons_succ]
              refine wpAnyH_take (i := 7) (oi := _) (v := ?_) rfl (by kernel_rfl) (by kernel_rfl) (by kernel_rfl) (fun _ _ _ h => h) (Or.inl ⟨by rfl, ?_⟩) hHeld ?_
              rotate_left
              focus (intro W hSw; go_simp; try with_reducible rfl)
              try simp only [List.getElem_toArray, List.getElem_cons_zero, List.getElem_cons_succ, Act.put, List.setIfInBounds_toArray, List.set_cons_zero, List.set_cons_succ]
              refine wpAnyH_take (i := 8) (oi := _) (v := ?_) rfl (by kernel_rfl) (by kernel_rfl) (by kernel_rfl) (fun _ _ _ h => h) (Or.inl ⟨by rfl, ?_⟩) hHeld ?_
              rotate_left
              focus (intro W hSw; go_simp; try with_reducible rfl)
              try simp only [List.getElem_toArray, List.getElem_cons_zero, List.getElem_cons_succ, Act.put, List.setIfInBounds_toArray, List.set_cons_zero, List.set_cons_succ]
              refine wpAnyH_take (i := 9) (oi := _) (v := ?_) rfl (by kernel_rfl) (by kernel_rfl) (by kernel_rfl) (fun _ _ _ h => h) (Or.inl ⟨by rfl, ?_⟩) hHeld ?_
              rotate_left
              focus (intro W hSw; go_simp; try with_reducible rfl)
              try simp only [List.getElem_toArray, List.getElem_cons_zero, List.getElem_cons_succ, Act.put, List.setIfInBounds_toArray, List.set_cons_zero, List.set_cons_succ]
              refine wpAnyH_take (i := 10) (oi := _) (v := ?_) rfl (by kernel_rfl) (by kernel_rfl) (by kernel_rfl) (fun _ _ _ h => h) (Or.inl ⟨by rfl, ?_⟩) hHeld ?_
              rotate_left
              focus (intro W hSw; have hcv := HC0.out W hSw; go_simp; try with_reducible rfl)
              try simp only [List.getElem_toArray, List.getElem_cons_zero, List.getElem_cons_succ, Act.put, List.setIfInBounds_toArray, List.set_cons_zero, List.set_cons_succ]
              refine wpAnyH_take (i := 11) (oi := _) (v := ?_) rfl (by kernel_rfl) (by kernel_rfl) (by kernel_rfl) (fun _ _ _ h => h) (Or.inl ⟨by rfl, ?_⟩) hHeld ?_
              rotate_left
              focus (intro W hSw; go_simp; try with_reducible rfl)
              try simp only [List.getElem_toArray, List.getElem_cons_zero, List.getElem_cons_succ, Act.put, List.setIfInBounds_toArray, List.set_cons_zero, List.set_cons_succ]
              refine wpAnyH_ready (rs := [5]) (by kernel_rfl) (by simp) ?_
              refine AllReadyH.cons (o := _) rfl (fun K hK => ?_) AllReadyH.nil
              go_simp
              refine (HEN.out _ hHeld).mono ?_
              rintro r w7 ⟨A7, c7, rfl, ho7, b7⟩
              have B7 := Lib.hid (below_below hHeld b7 hHeld.size)
              clear ho7 b7
              refine hK.out _ _ B7.out (fun hHeld => ?_)
              clear hK K
              try simp only [List.getElem_toArray, List.getElem_cons_zero, List.getElem_cons_succ, Act.put, List.setIfInBounds_toArray, List.set_cons_zero, List.set_cons_succ]
              refine wpAnyH_take (i := 6) (oi := _) (v := ?_) rfl (by kernel_rfl) (by kernel_rfl) (by kernel_rfl) (fun _ _ _ h => h) (Or.inl ⟨by rfl, ?_⟩) hHeld ?_
              rotate_left
              focus (intro W hSw; go_simp; try with_reducible rfl)
              try simp only [List.getElem_toArray, List.getElem_cons_zero, List.getElem_cons_succ, Act.put, List.setIfInBounds_toArray, List.set_cons_zero, List.set_cons_succ]
              refine wpAnyH_take (i := 12) (oi := _) (v := .bool false) rfl (by kernel_rfl) (by kernel_rfl) (by kernel_rfl) (fun _ _ _ h => h) (Or.inl ⟨by rfl, ?_⟩) hHeld ?_
              focus (intro W hSw; go_simp; try with_reducible rfl)
              try simp only [List.getElem_toArray, List.getElem_cons_zero, List.getElem_cons_succ, Act.put, List.setIfInBounds_toArray, List.set_cons_zero, List.set_cons_succ]
              refine wpAnyH_done (by kernel_rfl) ?_ _
              go_wp2_with fail
              go_roundw
              case rel => exact ⟨k + 1, by omega, by go_num, B7.out⟩
              case measure => simp [intOf] <;> omega
            · obtain rfl : k = S.length := by omega
              go_wp2_with fail
              go_ret
              exact ⟨rfl, below_below HB_w6.out HBW.out S_w6⟩
        · have iu : ¬ (u.length : Int) < 255 := by omega
          have du : decide ((u.length : Int) < 255) = false := decide_eq_false iu
          go_loopw [10] (fun x10 wq => x10 = .int .i64 0 ∧ wq = w6) (fun _ _ => 0)
          case atStart => exact ⟨rfl, rfl⟩
          case round =>
            obtain ⟨rfl, rfl⟩ := hrel
            by_cases h0 : 0 < S.length
            · have i0 : (0 : Int) < (S.length : Int) := by omega
              go_wp2_with fail
              go_ret
              exact ⟨rfl, HB_w6.out⟩
            · have i0 : ¬ (0 : Int) < (S.length : Int) := by omega
              go_wp2_with fail
              go_ret
              exact ⟨rfl, HB_w6.out⟩
  · have HNT : Hid (decide (FewT S) = false) := decide_eq_false ht
    clear ht
    go_enter Try.func6, Try.ntmps6
    go_wp2_with fail
    refine (awake12_any (w := _)).mono ?_
    rintro r w1 ⟨rfl, b_w1⟩
    have HS_w1 := Lib.hid ((HS_w.out.below b_w1 (Nat.le_refl _)).wide (Nat.zero_le _) b_w1.size)
    have HB_w1 := Lib.hid b_w1
    have S_w1 := HB_w1.out.size
    clear b_w1 HS_w 
    go_wp2_with fail
    refine (fewT_is S false HS_w1.out HZS.out HNT.out).mono ?_
    rintro r w2 ⟨rfl, m_w2, rfl⟩
    obtain ⟨w2, hw_w2⟩ : ∃ q, w1.drewN m_w2 = q := ⟨_, rfl⟩
    have HS_w2 : Hid (Rd w2 0 w2.heap.size B d (sv S)) := by unfold Hid; rw [← hw_w2]; exact HS_w1.out.drewN m_w2
    have HB_w2 : Hid (Below w.heap.size w w2) := by unfold Hid; rw [← hw_w2]; exact below_drewN' HB_w1.out m_w2
    have S_w2 := HB_w2.out.size
    rw [hw_w2]
    clear hw_w2 HS_w1 HB_w1
    go_wp2_with fail
    refine (awake12_any (w := _)).mono ?_
    rintro r w3 ⟨rfl, b_w3⟩
    have HS_w3 := Lib.hid ((HS_w2.out.below b_w3 (Nat.le_refl _)).wide (Nat.zero_le _) b_w3.size)
    have HB_w3 := Lib.hid (below_below HB_w2.out b_w3 S_w2)
    have S_w3 := HB_w3.out.size
    clear b_w3 HS_w2 HB_w2 
    go_wp2_with fail
    go_ret
    exact ⟨rfl, HB_w3.out⟩

set_option maxRecDepth 100000 in
theorem trainRight_lifted (os : Os) (started : os.Started) (H : Type) (enc : TypeId × Value → H) :
    ReturnsInHanded {} Try.checked os 6 .any (Rows.trainRightSpec.pre6 enc Try.prog Try.f6 Rows.trainRightRow.domain false) (Rows.trainRightSpec.post enc Try.prog Try.f6 false true false false) := by
  refine returnsInHanded_of_change_shaped (C := Try.checked) own started (by kernel_rfl) Try.func6
    (ChangeSpec.witness6 (enc := enc) (C := Try.checked) false ⟨#[], #[.slice none 0 0, .int .u8 0], []⟩ 8 (by kernel_rfl) (by kernel_rfl) (by kernel_rfl) (by kernel_rfl)) ?_
  intro W base args ds gs before hval0 hW hcnd hsz0 hsh _
  have hsz : (DataW.weightsEach Try.prog (Try.f6.params.toList ++ Rows.trainRightSpec.plain.varTypes Try.prog) (ds ++ gs)).all (· ≤ reachBytes) = true := hsz0
  have hval : ∀ (j : Nat) t v, Try.f6.params[j]? = some t → args[j]? = some v → Value.okWide Try.prog W .any base t v := hval0
  have hW' := hW
  obtain ⟨p, q, hA0, hV, rfl, hfz, hnd⟩ := hW
  have hA : DataW.TrodAll enc Try.prog W 0 (fun _ => true) true Try.f6.params.toList args.toList ds p := hA0
  have hA1 : DataW.TrodAll enc Try.prog W 0 (fun _ => true) true Try.f6.params.toList args.toList ds p := hA0
  rw [Try.params6] at hA hval hsz
  obtain ⟨v0, vs0, d0, ds0, p0, q0, hargs, rfl, rfl, h0, r0⟩ := trodAll_cons hA
  obtain ⟨v1, vs1, d1, ds1, p1, q1, rfl, rfl, rfl, h1, r1⟩ := trodAll_cons r0
  obtain ⟨rfl, rfl, rfl⟩ := trodAll_nil r1
  obtain rfl : args = #[v0, v1] := by cases args; simp_all
  obtain ⟨rfl, rfl⟩ := trodVars_none hV
  obtain ⟨A0, a0, c0, rfl, w0⟩ := open_strs_sized Try.underlying22 Try.underlying9 (by kernel_rfl) (by kernel_rfl) (hval 0 22 v0 rfl rfl) h0 (fun n hn => by have := List.all_eq_true.1 hsz n (DataW.weights_mem_each (j := 0) (t := 22) rfl rfl n hn); simpa using this)
  obtain ⟨a1, rfl, rfl, rfl, w1⟩ := open_int Try.underlying5 (hval 1 5 v1 rfl rfl) h1
  obtain ⟨b1, rfl⟩ := u8_of_wf w1
  clear hA0 hval0
  refine (trainRight_walk (w := W) w0 b1 (maxlen_of hsh)).mono fun e W' ⟨he, bel⟩ => ?_
  subst he
  exact ⟨_, rfl, _, _, _, [], _, [], hW', trodAll_mk1 (shut_bool Try.underlying4 _), trodAll_below laidOut bel _ _ _ _ (by kernel_rfl) hA1, rfl, bel.frame _, fun h => by cases h⟩

theorem trainRight_over : Rows.trainRightRow.holds Try.pinned (OpenSpec.ofChange Rows.trainRightSpec) :=
  OpenClaim.holds_of_wide 6 Try.f6 rfl rfl rfl rfl rfl rfl rfl ⟨rfl, rfl, rfl, rfl, rfl⟩ rfl rfl rfl rfl rfl (by kernel_rfl) Try.func6 (by kernel_rfl)
    (of_decide_eq_true (by kernel_rfl)) (by unfold Func.isWrapper; first | (rw [if_pos (by decide +kernel)]; kernel_rfl) | (rw [if_neg (by decide +kernel)]; exact ⟨rfl, rfl⟩))
    (fun os started H enc _ => trainRight_lifted os started H enc)

/-- The statement. -/
theorem trainRight_proved : Rows.TrainRightSaid := trainRight_over


end Go.Proofs.Ytpollebfehdnjaa
