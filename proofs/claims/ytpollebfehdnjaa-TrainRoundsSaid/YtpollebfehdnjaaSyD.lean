/-
  The symbol package: Longest.
-/
import Derived.Test.YtpollebfehdnjaaSyS
import Derived.Test.YtpollebfehdnjaaSyM
import Derived.Test.YtpollebfehdnjaaLngM
namespace Go.Proofs.Ytpollebfehdnjaa
set_option linter.unusedSimpArgs false
set_option linter.unusedVariables false
open Go.RowKit

/-- what is looked for yet: symbols of at most n bytes, among the first k -/
def Yet (T : List (List UInt8)) (l : List UInt8) (n k : Nat) : Prop := ∀ j (hj : j < T.length), List.IsPrefix T[j] l → T[j].length ≤ n ∧ (T[j].length ≤ n → j < k)
theorem Yet.start {T : List (List UInt8)} {l : List UInt8} (h : ∀ t ∈ T, okS t = true) : Yet T l (min l.length 8) T.length := fun j hj hp => by
  have h1 := (okS_iff.1 (h _ (List.getElem_mem hj))).2
  have h2 := hp.length_le
  exact ⟨by omega, fun _ => hj⟩
theorem Yet.found {T : List (List UInt8)} {l : List UInt8} {n k i : Nat} (h : Yet T l n k) (hr : risesL T = true) (hi : i < T.length) (he : T[i] = l.take n) (h0 : 0 < n) (hn : n ≤ l.length) : longP T l = ((i : Int), n) := by
  have hl : (l.take n).length = n := by rw [List.length_take]; omega
  have := longP_is (s := l.take n) hr hi he (List.take_prefix _ _) (by omega) fun u hu hp => by
    obtain ⟨j, hj, rfl⟩ := List.getElem_of_mem hu
    have := (h j hj hp).1
    omega
  rw [hl] at this
  exact this
theorem Yet.next {T : List (List UInt8)} {l : List UInt8} {n k i : Nat} (h : Yet T l n k) (hk : k ≤ T.length) (hn : n ≤ l.length) (h0 : 0 < n) (hi : ∀ j (hj : j < T.length), j < k → (j < i ↔ cmpL T[j] (l.take n) < 0)) (hf : ∀ (hik : i < k), T[i]'(by omega) ≠ l.take n) (hr : risesL T = true) : Yet T l (n - 1) i := fun j hj hp => by
  obtain ⟨h1, h2⟩ := h j hj hp
  have h3 := h2 h1
  have h5 : T[j] = l.take T[j].length := by
    obtain ⟨r, hr⟩ := hp
    rw [← hr, List.take_left]
  have h4 : T[j].length ≠ n := fun e => by
    have he : T[j] = l.take n := by rw [← e]; exact h5
    -- then it stands at i
    have h6 : ¬ j < i := fun h7 => by
      have := (hi j hj h3).1 h7
      rw [he, cmpL_same] at this
      omega
    by_cases h8 : j = i
    · subst h8
      exact hf h3 he
    · have h9 : i < j := by omega
      have := rises_at hr h9 hj
      rw [he] at this
      have := (hi i (by omega) (by omega)).2 this
      omega
  refine ⟨by omega, fun _ => (hi j hj h3).2 ?_⟩
  rw [h5]
  exact cmpL_takes (by omega) hn
theorem Yet.none {T : List (List UInt8)} {l : List UInt8} {k : Nat} (h : Yet T l 0 k) : longP T l = (-1, 0) := longP_none fun u hu hp => by
  obtain ⟨j, hj, rfl⟩ := List.getElem_of_mem hu
  have := (h j hj hp).1
  omega

set_option maxRecDepth 20000 in
set_option maxHeartbeats 2000000 in
theorem slongest_any {w : World} (l : List ByteArray) (s : ByteArray) {lo hi c : Nat} {A : Option Addr} (h : Rd w lo hi A c (sv l)) (hr : rightT (bytL2 l) = true) (hs : s.size ≤ 9223372036854775807) :
    Calls Try.prog 31 #[.slice A l.length c, .string s] w fun r w' => r = .returned (.tuple #[.int .i64 (longP (bytL2 l) s.data.toList).1, .int .i64 ((longP (bytL2 l) s.data.toList).2 : Int)]) ∧ ∃ m, w' = w.drewN m := by
  have hl := h.len
  have hm := h.cap
  rw [sv_length] at hl
  unfold maxLen at hm
  obtain ⟨hl5, hok, hri⟩ := rightT_iff.1 hr
  rw [bytL2_length] at hl5
  have H := Lib.hid h
  have HRI := Lib.hid hri
  have hsl : s.data.toList.length = s.size := by rw [Array.length_toList]; rfl
  have HSL := Lib.hid hsl
  have HST := Lib.hid (Yet.start (l := s.data.toList) hok)
  rw [bytL2_length, hsl] at HST
  obtain ⟨V, hV⟩ : ∃ V, longP (bytL2 l) s.data.toList = V := ⟨_, rfl⟩
  rw [hV]
  have HV := Lib.hid hV
  clear h hr hok hri hsl hV
  obtain ⟨N, hN⟩ : ∃ N, min s.size 8 = N := ⟨_, rfl⟩
  have hN1 : N ≤ s.size := by omega
  have hN8 : N ≤ 8 := by omega
  have hNI : min (s.size : Int) 8 = (N : Int) := by omega
  rw [hN] at HST
  clear hN
  go_enter Try.func31, Try.ntmps31
  go_wp2_with fail
  go_loopw [0, 1] (fun x0 x1 wr => ∃ (n k m : Nat) (u : ByteArray), x0 = .slice A k c ∧ x1 = .string u ∧ u.data.toList = s.data.toList.take n ∧ u.size = n ∧ n ≤ N ∧ k ≤ l.length ∧ Yet (bytL2 l) s.data.toList n k ∧ wr = w.drewN m) (fun _ x1 _ => match x1 with | .string u => u.size | _ => 0)
  case atStart => exact ⟨N, l.length, 0, _, rfl, rfl, headS s N, by simp [ByteArray.size_extract]; omega, Nat.le_refl _, Nat.le_refl _, HST.out, rfl⟩
  case round =>
    clear HST
    obtain ⟨n, k, m, u, rfl, rfl, hu, hus, hn, hk, hy, rfl⟩ := hrel
    have HU := Lib.hid hu
    have HY := Lib.hid hy
    clear hu hy
    rcases Nat.eq_zero_or_pos n with hn0 | hn0
    · have hue : u = ⟨#[]⟩ := by
        have := HU.out
        rw [hn0, List.take_zero] at this
        rw [← str_eta u, this]
      have HVV : Hid (V = (-1, 0)) := by
        unfold Hid
        rw [← HV.out]
        have := HY.out
        rw [hn0] at this
        exact this.none
      clear hn hus hn0
      subst hue
      go_wp2_with fail
      go_ret2
      exact ⟨by rw [HVV.out]; rfl, m, rfl⟩
    · have hne : u.toList ≠ [] := fun e => by
        rw [Lib.toList_data] at e
        have h1 := congrArg List.length e
        rw [Array.length_toList] at h1
        have h2 : u.size = 0 := h1
        omega
      have hne2 : u.toList.isEmpty = false := by
        rw [List.isEmpty_eq_false_iff]
        exact hne
      clear hne
      have hkl : (l.take k).length = k := by rw [List.length_take]; omega
      have hri2 : risesL (bytL2 (l.take k)) = true := by
        have := rises_take k HRI.out
        rw [bytL2, List.map_take]
        exact this
      have HRT : Hid (∀ w' : World, w'.heap = w.heap → Rd w' lo hi A c (sv (l.take k))) := fun w' e => by
        rw [sv_take]
        exact (H.out.take_ k).keep fun p _ _ => by unfold World.cell?; rw [e]
      have HSE := Lib.hid (search_any (w := w.drewN m) (l.take k) u (HRT.out _ rfl) hri2 (by omega) hkl)
      clear hri2
      go_wp2_with fail
      refine HSE.out.mono ?_
      rintro r w1 ⟨i, hik, hij, rfl, m2, rfl⟩
      have hij' : ∀ j (hj : j < (bytL2 l).length), j < k → (j < i ↔ cmpL (bytL2 l)[j] (s.data.toList.take n) < 0) := fun j hj hjk => by
        rw [bytL2_length] at hj
        have := hij j (by rw [hkl]; exact hjk)
        simp only [List.getElem_take] at this
        rw [HU.out] at this
        rw [bytL2_get l j hj]
        exact this
      have HIJ := Lib.hid hij'
      clear hij hij'
      obtain ⟨f, hf⟩ : ∃ f, decide ((l.take k)[i]? = some u) = f := ⟨_, rfl⟩
      rw [hf]
      have HF := Lib.hid hf
      clear hf
      have hcut : n ≤ s.data.toList.length := by rw [HSL.out]; omega
      cases f with
      | true =>
        have hfe := of_decide_eq_true HF.out
        obtain ⟨hi1, hi2⟩ := List.getElem?_eq_some_iff.1 hfe
        rw [hkl] at hi1
        simp only [List.getElem_take] at hi2
        have HVV : Hid (V = ((i : Int), n)) := by
          unfold Hid
          rw [← HV.out]
          exact HY.out.found HRI.out (i := i) (by rw [bytL2_length]; omega) (by rw [bytL2_get l i (by omega), hi2]; exact HU.out) hn0 hcut
        clear hfe hi2 hcut
        go_wp2_with fail
        go_ret2
        exact ⟨by rw [HVV.out, ← hus]; rfl, m + m2, rfl⟩
      | false =>
        have HYN : Hid (Yet (bytL2 l) s.data.toList (n - 1) i) := by
          refine HY.out.next (by rw [bytL2_length]; exact hk) hcut hn0 HIJ.out (fun hik e => ?_) HRI.out
          have := of_decide_eq_false HF.out
          apply this
          rw [List.getElem?_take_of_lt hik, List.getElem?_eq_getElem (by omega)]
          congr 1
          rw [bytL2_get l i (by omega)] at e
          rw [← str_eta l[i], e, ← HU.out]
        have HUD : Hid ((u.extract 0 (n - 1)).data.toList = s.data.toList.take (n - 1)) := by
          unfold Hid
          rw [headS, HU.out, List.take_take]
          congr 1
          omega
        have hus2 : (u.extract 0 (n - 1)).size = n - 1 := by simp [ByteArray.size_extract]; omega
        have HUS := Lib.hid hus2
        clear hus2 hcut
        go_wp2_with fail
        go_roundw
        case rel => exact ⟨n - 1, i, m + m2, u.extract 0 (n - 1), rfl, by first | rfl | go_num, HUD.out, HUS.out, by omega, by omega, HYN.out, rfl⟩
        case measure => simp <;> omega
end Go.Proofs.Ytpollebfehdnjaa
