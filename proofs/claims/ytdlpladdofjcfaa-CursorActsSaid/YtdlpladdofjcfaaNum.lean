/-
  The document's own Number: it is 'vnum' of what stands behind the place.
-/
import Derived.Test.YtdlpladdofjcfaaCurC
import Derived.Test.YtdlpladdofjcfaaLawA
namespace Go.Proofs.Ytdlpladdofjcfaa
set_option linter.unusedSimpArgs false
set_option linter.unusedVariables false
open Go.RowKit

theorem vnum_here' (bs : List UInt8) (k : Nat) (hk : k ≤ lead bs) (hl : k < bs.length) (h9 : k < 9) (hx : bs[k].toNat < 128) :
    vnum bs = if 0 < k ∧ bs[k].toNat = 0 then (0, 0, 3) else (val (bs.take (k + 1)), k + 1, 0) := by
  rw [vnum_here bs k hk hl h9 hx, List.take_succ_eq_append_getElem hl, val_snoc, List.length_take, Nat.min_eq_left (by omega)]

theorem drop_at (bs : List UInt8) (p : Nat) : ∀ j (hj : j < (bs.drop p).length) (hj2 : p + j < bs.length), (bs.drop p)[j] = bs[p + j] := by
  intro j hj hj2
  rw [List.getElem_drop]

set_option maxRecDepth 20000 in
set_option maxHeartbeats 1000000 in
theorem refNumber_any {w : World} {lo h' : Nat} {A : Option Addr} {c : Nat} (bs : List UInt8) (p : Nat) (h : Rd w lo h' A c (bv bs)) (hp : p ≤ bs.length) :
    Calls Try.prog 25 #[.slice A bs.length c, .int .i64 (p : Int)] w fun r w' => r = .returned (.tuple #[.int .i64 ((vnum (bs.drop p)).1 : Int), .int .i64 ((vnum (bs.drop p)).2.1 : Int), .int .i64 (vnum (bs.drop p)).2.2]) ∧ w = w' := by
  have hl := h.len
  have hc := h.cap
  rw [bv_length] at hl
  unfold maxLen at hc
  have H := Lib.hid h
  clear h
  have hdl : (bs.drop p).length = bs.length - p := List.length_drop
  have HDL := Lib.hid hdl
  have HAT := Lib.hid (drop_at bs p)
  clear hdl
  generalize hL : bs.drop p = L at *
  clear hL
  go_enter Try.func25, Try.ntmps25
  go_wp2_with fail
  go_loop [7] (fun t => ∃ k : Nat, k < 9 ∧ p + k ≤ bs.length ∧ t = .int .i64 (k : Int) ∧ k ≤ lead L) (fun t => 9 - (intOf t).toNat)
  case atStart => exact ⟨0, by omega, by omega, rfl, by omega⟩
  case round =>
    obtain ⟨k, hk9, hkl, rfl, hlead⟩ := hrel
    have hdl := HDL.out
    by_cases hlt : p + k < bs.length
    · have hkL : k < L.length := by omega
      obtain ⟨b, off, rfl, _, _, hcell⟩ := H.out.get (k := p + k) (by rw [bv_length]; exact hlt)
      have hv := bv_get bs (p + k) hlt
      rw [List.getElem?_eq_getElem (by rw [bv_length]; exact hlt)] at hv
      injection hv with hv
      rw [hv] at hcell
      clear hv
      have hx256 : bs[p + k].toNat < 256 := UInt8.toNat_lt _
      have hLk := HAT.out k hkL hlt
      have hn1 := (lead_at L k hlead hkL).1
      have hn2 := vnum_here' L k hlead hkL hk9
      rw [hLk] at hn1 hn2
      clear hLk hdl
      by_cases hx : 128 ≤ bs[p + k].toNat
      · have hlead' := hn1 hx
        clear hn1 hn2
        generalize bs[p + k].toNat = x at *
        by_cases h8 : k = 8
        · have hov := Lib.hid (vnum_over L (by omega))
          subst h8
          have hdl := HDL.out
          by_cases h9 : p + 9 < bs.length
          all_goals
            go_wp2
            go_ret3
            rw [hov.out]
            first
            | (rw [if_pos (by omega)]; exact ⟨rfl, rfl⟩)
            | (rw [if_neg (by omega)]; exact ⟨rfl, rfl⟩)
        · go_wp2
          go_round
          case rel => exact ⟨k + 1, by omega, by omega, by go_num, hlead'⟩
          case measure => simp [intOf]; omega
      · have hnum := Lib.hid (hn2 (by omega))
        clear hn1 hn2
        have hvl : ∀ j, j ≤ k + 1 → val ((L.take (k + 1)).drop j) < 9223372036854775808 := by
          intro j hj
          have h1 := val_lt ((L.take (k + 1)).drop j)
          have h2 : 128 ^ ((L.take (k + 1)).drop j).length ≤ 128 ^ 9 := Nat.pow_le_pow_right (by omega) (by rw [List.length_drop, List.length_take]; omega)
          omega
        have HVL := Lib.hid hvl
        have hstep : ∀ m, m < k + 1 → ∀ hm : p + m < bs.length, val ((L.take (k + 1)).drop m) = bs[p + m].toNat % 128 + 128 * val ((L.take (k + 1)).drop (m + 1)) := by
          intro m hm1 hm
          have hdl := HDL.out
          rw [List.drop_eq_getElem_cons (by rw [List.length_take]; omega)]
          simp only [val]
          rw [List.getElem_take, HAT.out m (by omega) hm]
        have HST := Lib.hid hstep
        clear hvl hstep
        have hxs := Lib.hid hx
        generalize hX : bs[p + k].toNat = x at *
        have HX := Lib.hid hX
        clear hX
        go_wp2_with fail
        go_loop [8, 9] (fun s i => ∃ j : Nat, j ≤ k + 1 ∧ i = .int .i64 ((j : Int) - 1) ∧ s = .int .i64 (val ((L.take (k + 1)).drop j) : Int)) (fun _ i => (intOf i + 1).toNat)
        case atStart => exact ⟨k + 1, by omega, by congr 1; omega, by rw [List.drop_of_length_le (by rw [List.length_take]; omega)]; rfl⟩
        case round =>
          obtain ⟨j, hj, rfl, rfl⟩ := hrel
          rcases j with _ | m
          · have hx' : ¬ 128 ≤ x := by have := hxs.out; omega
            by_cases hz : 0 < k ∧ x = 0
            all_goals
              go_wp2
              all_goals
                go_ret3
                rw [hnum.out]
                first
                | (rw [if_pos (by omega)]; exact ⟨rfl, rfl⟩)
                | (rw [if_neg (by omega)]; exact ⟨rfl, rfl⟩)
          · have hm : p + m < bs.length := by omega
            obtain ⟨b', off', hbb, _, _, hcellm⟩ := H.out.get (k := p + m) (by rw [bv_length]; exact hm)
            injection hbb with hbb
            injection hbb with h1 h2 h3
            subst h1 h2
            have hv := bv_get bs (p + m) hm
            rw [List.getElem?_eq_getElem (by rw [bv_length]; exact hm)] at hv
            injection hv with hv
            rw [hv] at hcellm
            clear hv
            have hy256 : bs[p + m].toNat < 256 := UInt8.toNat_lt _
            have hs1 := HST.out m (by omega) hm
            have hs2 := HVL.out m (by omega)
            generalize bs[p + m].toNat = y at *
            rw [hs1] at hs2
            have HS1 := Lib.hid hs1
            clear hs1
            rw [show ((m + 1 : Nat) : Int) - 1 = (m : Int) from by omega]
            generalize val ((L.take (k + 1)).drop (m + 1)) = V at *
            go_wp2
            go_round
            case rel => exact ⟨m, by omega, rfl, by rw [HS1.out]; congr 1 <;> omega⟩
            case measure => simp [intOf]
    · have hov := Lib.hid (vnum_over L (by omega))
      clear hdl
      go_wp2
      go_ret3
      rw [hov.out, if_neg (by have := HDL.out; omega)]
      exact ⟨rfl, rfl⟩
end Go.Proofs.Ytdlpladdofjcfaa
