/-
  The document's Sub, ByPoints and ByFold of layer 8.
-/
import Derived.Test.YtjffbjlniieciaaDoorRefY
import Derived.Test.YtjffbjlniieciaaDoorRefW
namespace Go.Proofs.YtjffbjlniieciaaDoor
set_option linter.unusedSimpArgs false
set_option linter.unusedVariables false
open Go.RowKit

theorem ints_at (ns : List Nat) (k : Nat) (h : k < ns.length) : (ints ns)[k]'(by rw [ints_length]; exact h) = (ns[k] : Int) := by simp [ints]
theorem rd_pt {w : World} {lo hi c : Nat} {A : Option Addr} {ns : List Nat} (h : Rd w lo hi A c (iv (ints ns))) {k : Nat} (hk : k < ns.length) :
    ∃ b off, A = some ⟨b, off, none⟩ ∧ w.cell? ⟨b, off + k, none⟩ = some (.int .i64 (ns[k] : Int)) := by
  obtain ⟨b, off, e, _, _, hc⟩ := h.num (k := k) (by rw [ints_length]; exact hk)
  exact ⟨b, off, e, by rw [hc, ints_at ns k hk]⟩

set_option maxRecDepth 20000 in
set_option maxHeartbeats 2000000 in
theorem refByPoints_any {w : World} (a b : ByteArray) (ha : a.size ≤ 1000000) (hb : b.size ≤ 1000000) :
    Calls Tryd.prog 42 #[.string a, .string b] w fun r w' => r = .returned (.int .i64 (cmpP (ptsL a.data.toList) (ptsL b.data.toList))) ∧ Below w.heap.size w w' := by
  have hla := pts_le a.data.toList
  have hlb := pts_le b.data.toList
  rw [size_toL] at hla hlb
  have h1 := fun w0 => refPoints_any (w := w0) a ha
  have h2 := fun w0 => refPoints_any (w := w0) b hb
  obtain ⟨v, hv⟩ : ∃ v, cmpP (ptsL a.data.toList) (ptsL b.data.toList) = v := ⟨_, rfl⟩
  rw [hv]
  generalize ptsL a.data.toList = x at *
  generalize ptsL b.data.toList = y at *
  have HAT : Hid (∀ k (h1 : k < x.length) (h2 : k < y.length), x.take k = y.take k → x[k] ≠ y[k] → v = if x[k] < y[k] then -1 else 1) := fun k h1 h2 ht hne => by
    rw [← hv]
    exact cmpP_at ht h1 h2 hne
  have HNX : Hid (∀ k (h1 : k < x.length) (h2 : k < y.length), x.take k = y.take k → x[k] = y[k] → x.take (k + 1) = y.take (k + 1)) := fun k h1 h2 ht he => by
    rw [List.take_succ_eq_append_getElem h1, List.take_succ_eq_append_getElem h2, ht, he]
  have HEND : Hid (∀ k, x.take k = y.take k → k = min x.length y.length → v = if x.length < y.length then -1 else if y.length < x.length then 1 else 0) := fun k ht hk => by
    rw [← hv]
    exact cmpP_end ht hk
  have H1 := Lib.hid h1
  have H2 := Lib.hid h2
  clear h1 h2 hv
  go_enter Tryd.func42, Tryd.ntmps42
  go_wp2_with fail
  refine (H1.out _).mono ?_
  rintro r w1 ⟨A, c, rfl, ho1, hb1⟩
  have HO1 := Lib.hid ho1
  have HB1 := Lib.hid hb1
  clear ho1 hb1
  go_wp2_with fail
  refine (H2.out _).mono ?_
  rintro r w2 ⟨B, d, rfl, ho2, hb2⟩
  have hx := (Rd.own HO1.out).below hb2 (Nat.le_refl _)
  have hy := Rd.own ho2
  have HX := Lib.hid hx
  have HY := Lib.hid hy
  have hcx := hx.len
  have hcx2 := hx.cap
  have hcy := hy.len
  have hcy2 := hy.cap
  rw [iv_length, ints_length] at hcx hcy
  unfold maxLen at hcx2 hcy2
  have HB2 := Lib.hid (below_below HB1.out hb2 HB1.out.size)
  clear hx hy ho2 hb2 HO1 HB1
  go_wp2_with fail
  go_loopw [7] (fun i wr => ∃ k m : Nat, k ≤ x.length ∧ k ≤ y.length ∧ i = .int .i64 (k : Int) ∧ x.take k = y.take k ∧ wr = w2.drewN m) (fun i _ => x.length - (intOf i).toNat)
  case atStart => exact ⟨0, 0, by omega, by omega, rfl, by simp, rfl⟩
  case round =>
    obtain ⟨k, m, hka, hkb, rfl, ht, rfl⟩ := hrel
    have HT := Lib.hid ht
    have HBW := Lib.hid (below_drewN' HB2.out m)
    clear ht
    by_cases hl : k < x.length ∧ k < y.length
    · obtain ⟨h1, h2⟩ := hl
      have i1 : (k : Int) < (x.length : Int) := by omega
      have i2 : (k : Int) < (y.length : Int) := by omega
      obtain ⟨g1, o1, rfl, hc1⟩ := rd_pt HX.out h1
      obtain ⟨g2, o2, rfl, hc2⟩ := rd_pt HY.out h2
      have HA := Lib.hid (HAT.out k h1 h2 HT.out)
      have HN := Lib.hid (HNX.out k h1 h2 HT.out)
      clear HAT HNX
      generalize x[k] = p at *
      generalize y[k] = q at *
      rcases Nat.lt_trichotomy p q with h3 | h3 | h3
      · go_wp2
        go_quiet (fail)
        go_wp2
        go_ret
        exact ⟨ret_int' (by rw [HA.out (by omega), if_pos h3]), below_drewN' HBW.out _⟩
      · go_wp2
        go_quiet (fail)
        go_wp2
        go_quiet (fail)
        go_wp2
        go_roundw
        case rel => exact ⟨k + 1, _, by omega, by omega, by go_num, HN.out h3, by first | rfl | (rw [World.drewN_drewN]) | (rw [World.drewN_drewN, World.drewN_drewN])⟩
        case measure => simp [intOf]; omega
      · go_wp2
        go_quiet (fail)
        go_wp2
        go_quiet (fail)
        go_wp2
        go_ret
        exact ⟨ret_int' (by rw [HA.out (by omega), if_neg (by omega)]), below_drewN' (below_drewN' HBW.out _) _⟩
    · have HE := Lib.hid (HEND.out k HT.out)
      have HK : Hid (k = min x.length y.length) := by unfold Hid; omega
      rcases Nat.lt_trichotomy x.length y.length with h3 | h3 | h3
      · go_wp2
        go_ret
        exact ⟨ret_int' (by rw [HE.out HK.out, if_pos h3]), HBW.out⟩
      · go_wp2
        go_ret
        exact ⟨ret_int' (by rw [HE.out HK.out, if_neg (by omega), if_neg (by omega)]), HBW.out⟩
      · go_wp2
        go_ret
        exact ⟨ret_int' (by rw [HE.out HK.out, if_neg (by omega), if_pos h3]), HBW.out⟩

theorem refByFold_any {w : World} (a b : ByteArray) (ha : a.size ≤ 100000) (hb : b.size ≤ 100000) :
    Calls Tryd.prog 41 #[.string a, .string b] w fun r w' => r = .returned (.int .i64 (cmpL (foldL a.data.toList) (foldL b.data.toList))) ∧ Below w.heap.size w w' := by
  have h1 := fun w0 => refFold_any (w := w0) a (by omega)
  have h2 := fun w0 => refFold_any (w := w0) b (by omega)
  have h3 := fun w0 => refCompare_any (w := w0) ⟨(foldL a.data.toList).toArray⟩ ⟨(foldL b.data.toList).toArray⟩ (by show (foldL a.data.toList).toArray.size ≤ _; rw [List.size_toArray, foldL_length, size_toL]; exact ha) (by show (foldL b.data.toList).toArray.size ≤ _; rw [List.size_toArray, foldL_length, size_toL]; exact hb)
  change ∀ w0, Calls _ _ _ w0 (fun r w' => r = .returned (.int .i64 (cmpL (foldL a.data.toList) (foldL b.data.toList))) ∧ ∃ m, w' = w0.drewN m) at h3
  generalize cmpL (foldL a.data.toList) (foldL b.data.toList) = z at *
  generalize (⟨(foldL a.data.toList).toArray⟩ : ByteArray) = x at *
  generalize (⟨(foldL b.data.toList).toArray⟩ : ByteArray) = y at *
  have H1 := Lib.hid h1
  have H2 := Lib.hid h2
  have H3 := Lib.hid h3
  clear h1 h2 h3
  go_enter Tryd.func41, Tryd.ntmps41
  go_wp2_with fail
  refine (H1.out _).mono ?_
  rintro r w1 ⟨rfl, hb1⟩
  have HB1 := Lib.hid hb1
  clear hb1
  go_wp2_with fail
  refine (H2.out _).mono ?_
  rintro r w2 ⟨rfl, hb2⟩
  have HB2 := Lib.hid (below_below HB1.out hb2 HB1.out.size)
  clear hb2
  go_wp2_with fail
  refine (H3.out _).mono ?_
  rintro r w3 ⟨rfl, m, rfl⟩
  go_wp2_with fail
  go_ret
  exact ⟨rfl, below_drewN' HB2.out m⟩
end Go.Proofs.YtjffbjlniieciaaDoor
