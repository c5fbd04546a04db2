/-
  The pick's Right, Of, Bits, Through; the places that the document's statements speak of.
-/
import Derived.Test.YtfjclconpiibgaaIntA
import Derived.Test.YtfjclconpiibgaaBoolB
import Derived.Test.YtfjclconpiibgaaPikM
namespace Go.Proofs.Ytfjclconpiibgaa
set_option linter.unusedSimpArgs false
set_option linter.unusedVariables false
open Go.RowKit

/-- Right -/
theorem right_any {w : World} (zs : List Int) (n : Int) (b : Bool) (hb : rightL n (-1) zs = b) {lo h' : Nat} {A : Option Addr} {c : Nat} (h : Rd w lo h' A c (iv zs)) :
    Calls Try.prog 9 #[.slice A zs.length c, .int .i64 n] w fun r w' => r = .returned (.bool b) ∧ w = w' := by
  have hl := h.len
  have hc := h.cap
  rw [iv_length] at hl
  unfold maxLen at hc
  have H := Lib.hid h
  have HB := Lib.hid hb
  clear h hb
  go_enter Try.func9, Try.ntmps9
  go_wp2_with fail
  go_loop [5, 10] (fun l i => ∃ (k : Nat) (last : Int), k ≤ zs.length ∧ i = .int .i64 (k : Int) ∧ l = .int .i64 last ∧ rightL n last (zs.drop k) = b) (fun _ i => zs.length - (intOf i).toNat)
  case atStart => exact ⟨0, -1, Nat.zero_le _, rfl, rfl, by simpa using HB.out⟩
  case round =>
    obtain ⟨k, last, hk, rfl, rfl, hr⟩ := hrel
    have HR := Lib.hid hr
    clear hr
    by_cases hlt : k < zs.length
    · obtain ⟨b0, off, rfl, _, _, hcell⟩ := H.out.num hlt
      have HD : Hid (zs.drop k = zs[k] :: zs.drop (k + 1)) := List.drop_eq_getElem_cons hlt
      generalize zs[k] = z at *
      by_cases h1 : z ≤ last
      · have HF : Hid (b = false) := by
          unfold Hid
          rw [← HR.out, HD.out, rightL, if_pos (.inl h1)]
        go_wp2
        go_ret
        exact ⟨ret_bool HF.out.symm, rfl⟩
      · by_cases h2 : n ≤ z
        · have HF : Hid (b = false) := by
            unfold Hid
            rw [← HR.out, HD.out, rightL, if_pos (.inr h2)]
          go_wp2
          go_ret
          exact ⟨ret_bool HF.out.symm, rfl⟩
        · have HN : Hid (rightL n z (zs.drop (k + 1)) = b) := by
            unfold Hid
            rw [← HR.out, HD.out, rightL, if_neg (by omega)]
          go_wp2
          go_round
          case rel => exact ⟨k + 1, z, by omega, by go_num, rfl, HN.out⟩
          case measure => simp [intOf]; omega
    · obtain rfl : k = zs.length := by omega
      have HT : Hid (b = true) := by
        unfold Hid
        rw [← HR.out, List.drop_length, rightL]
      go_wp2
      go_ret
      exact ⟨ret_bool HT.out.symm, rfl⟩

/-- Of -/
theorem of_any {w : World} (l : List Bool) (us : List Int) (hus : plc l = us) {h' : Nat} {A : Option Addr} {c : Nat} (h : Rd w 0 h' A c (lv l)) (hh : h' ≤ w.heap.size) (hlen : l.length ≤ 1000000000000) :
    Calls Try.prog 10 #[.slice A l.length c] w fun r w' => ∃ A' c', r = .returned (.slice A' us.length c') ∧
      w'.ownsRow w.heap.size 3 1 (.slice A' us.length c') us.length (iv us) ∧ Below w.heap.size w w' := by
  have hl := h.len
  have hc := h.cap
  rw [lv_length] at hl
  unfold maxLen at hc
  have hul : us.length ≤ l.length := by rw [← hus, plc_len]; exact cnt_le l
  have H := Lib.hid h
  have HUS := Lib.hid hus
  clear h hus
  go_enter Try.func10, Try.ntmps10
  go_wp2_with fail
  go_loopw [3, 8] (fun v i wr => ∃ (k : Nat) (zs : List Int) (A' : Option Addr) (c' : Nat), k ≤ l.length ∧ i = .int .i64 (k : Int) ∧ v = .slice A' zs.length c' ∧ zs ++ plcF k (l.drop k) = us ∧
      wr.ownsRow w.heap.size 3 1 (.slice A' zs.length c') zs.length (iv zs) ∧ Below w.heap.size w wr) (fun _ i _ => l.length - (intOf i).toNat)
  case atStart => exact ⟨0, [], none, 0, Nat.zero_le _, rfl, rfl, by simpa [plc] using HUS.out, World.ownsRow_nil .., Below.refl _ _⟩
  case round =>
    obtain ⟨k, zs, A', c', hk, rfl, rfl, hzs, hown, hbel⟩ := hrel
    have hzl : zs.length ≤ us.length := by rw [← hzs, List.length_append]; omega
    have HZ := Lib.hid hzs
    have HO := Lib.hid hown
    have HB := Lib.hid hbel
    have hsz := hbel.size
    clear hzs hown hbel
    by_cases hlt : k < l.length
    · obtain ⟨b, off, rfl, _, _, hcell⟩ := (H.out.below HB.out hh).row hlt
      have HD := Lib.hid (plcF_drop l k hlt)
      generalize l[k] = x at *
      cases x
      · have HN : Hid (zs ++ plcF (k + 1) (l.drop (k + 1)) = us) := by
          have := HZ.out
          rw [HD.out, if_neg (by simp), List.nil_append] at this
          exact this
        go_wp2
        go_roundw
        case rel => exact ⟨k + 1, zs, A', c', by omega, by go_num, rfl, HN.out, HO.out, HB.out⟩
        case measure => simp [intOf]; omega
      · have HN : Hid ((zs ++ [(k : Int)]) ++ plcF (k + 1) (l.drop (k + 1)) = us) := by
          have := HZ.out
          rw [HD.out, if_pos rfl, ← List.append_assoc] at this
          exact this
        go_wp2_with (at_builtin; refine wpList_push_num (v := .slice A' zs.length c') w.heap.size zs (k : Int) rfl _ _ rfl rfl rfl rfl (by rw [World.cell?_alloc_at _ _ _ _ rfl]; rfl) (HO.out.alloc _) (by omega) (by simp; omega) ?_; intro A2 c2 w2 hown2 hgr2)
        have HO2 := Lib.hid hown2
        have HG2 := Lib.hid hgr2
        clear hown2 hgr2
        go_wp2
        go_roundw
        case rel =>
          refine ⟨k + 1, zs ++ [(k : Int)], A2, c2, by omega, by go_num, by simp, HN.out, HO2.out, ?_⟩
          exact (HB.out.alloc hsz _).grown HG2.out (by simp; omega) (fun j hj => own_row HO.out j hj)
        case measure => simp [intOf]; omega
    · obtain rfl : k = l.length := by omega
      have hz := HZ.out
      rw [List.drop_length, plcF, List.append_nil] at hz
      subst hz
      go_wp2
      go_ret
      exact ⟨_, _, rfl, HO.out, HB.out⟩

/-- the statements' own places -/
theorem places_any {w : World} (l : List Bool) (us : List Int) (hus : plc l = us) {h' : Nat} {A : Option Addr} {c : Nat} (h : Rd w 0 h' A c (lv l)) (hh : h' ≤ w.heap.size) (hlen : l.length ≤ 1000000000000) :
    Calls Try.prog 12 #[.slice A l.length c] w fun r w' => ∃ A' c', r = .returned (.slice A' us.length c') ∧
      w'.ownsRow w.heap.size 3 1 (.slice A' us.length c') us.length (iv us) ∧ Below w.heap.size w w' := by
  have hl := h.len
  have hc := h.cap
  rw [lv_length] at hl
  unfold maxLen at hc
  have hul : us.length ≤ l.length := by rw [← hus, plc_len]; exact cnt_le l
  have H := Lib.hid h
  have HUS := Lib.hid hus
  clear h hus
  go_enter Try.func12, Try.ntmps12
  go_wp2_with fail
  go_loopw [3, 4] (fun v i wr => ∃ (k : Nat) (zs : List Int) (A' : Option Addr) (c' : Nat), k ≤ l.length ∧ i = .int .i64 (k : Int) ∧ v = .slice A' zs.length c' ∧ zs ++ plcF k (l.drop k) = us ∧
      wr.ownsRow w.heap.size 3 1 (.slice A' zs.length c') zs.length (iv zs) ∧ Below w.heap.size w wr) (fun _ i _ => l.length - (intOf i).toNat)
  case atStart => exact ⟨0, [], none, 0, Nat.zero_le _, rfl, rfl, by simpa [plc] using HUS.out, World.ownsRow_nil .., Below.refl _ _⟩
  case round =>
    obtain ⟨k, zs, A', c', hk, rfl, rfl, hzs, hown, hbel⟩ := hrel
    have hzl : zs.length ≤ us.length := by rw [← hzs, List.length_append]; omega
    have HZ := Lib.hid hzs
    have HO := Lib.hid hown
    have HB := Lib.hid hbel
    have hsz := hbel.size
    clear hzs hown hbel
    by_cases hlt : k < l.length
    · obtain ⟨b, off, rfl, _, _, hcell⟩ := (H.out.below HB.out hh).row hlt
      have HD := Lib.hid (plcF_drop l k hlt)
      generalize l[k] = x at *
      cases x
      · have HN : Hid (zs ++ plcF (k + 1) (l.drop (k + 1)) = us) := by
          have := HZ.out
          rw [HD.out, if_neg (by simp), List.nil_append] at this
          exact this
        go_wp2
        go_roundw
        case rel => exact ⟨k + 1, zs, A', c', by omega, by go_num, rfl, HN.out, HO.out, HB.out⟩
        case measure => simp [intOf]; omega
      · have HN : Hid ((zs ++ [(k : Int)]) ++ plcF (k + 1) (l.drop (k + 1)) = us) := by
          have := HZ.out
          rw [HD.out, if_pos rfl, ← List.append_assoc] at this
          exact this
        go_wp2_with (at_builtin; refine wpList_push_num (v := .slice A' zs.length c') w.heap.size zs (k : Int) rfl _ _ rfl rfl rfl rfl (by rw [World.cell?_alloc_at _ _ _ _ rfl]; rfl) (HO.out.alloc _) (by omega) (by simp; omega) ?_; intro A2 c2 w2 hown2 hgr2)
        have HO2 := Lib.hid hown2
        have HG2 := Lib.hid hgr2
        clear hown2 hgr2
        go_wp2
        go_roundw
        case rel =>
          refine ⟨k + 1, zs ++ [(k : Int)], A2, c2, by omega, by go_num, by simp, HN.out, HO2.out, ?_⟩
          exact (HB.out.alloc hsz _).grown HG2.out (by simp; omega) (fun j hj => own_row HO.out j hj)
        case measure => simp [intOf]; omega
    · obtain rfl : k = l.length := by omega
      have hz := HZ.out
      rw [List.drop_length, plcF, List.append_nil] at hz
      subst hz
      go_wp2
      go_ret
      exact ⟨_, _, rfl, HO.out, HB.out⟩

theorem places_len {w : World} (l : List Bool) (us : List Int) (n : Nat) (hn : l.length = n) (hus : plc l = us) {h' : Nat} {A : Option Addr} {c : Nat} (h : Rd w 0 h' A c (lv l)) (hh : h' ≤ w.heap.size) (hlen : n ≤ 1000000000000) :
    Calls Try.prog 12 #[.slice A n c] w fun r w' => ∃ A' c', r = .returned (.slice A' us.length c') ∧
      w'.ownsRow w.heap.size 3 1 (.slice A' us.length c') us.length (iv us) ∧ Below w.heap.size w w' := by
  subst hn
  exact places_any l us hus h hh hlen

theorem within_yes {w : World} (x n : Int) (h : 0 ≤ x) (h2 : x < n) : Calls Try.prog 19 #[.int .i64 x, .int .i64 n] w fun r w' => r = .returned (.bool true) ∧ w = w' := by
  go_enter Try.func19, Try.ntmps19
  go_wp2
  go_ret
  exact ⟨rfl, rfl⟩
theorem within_no {w : World} (x n : Int) (h : ¬(0 ≤ x ∧ x < n)) : Calls Try.prog 19 #[.int .i64 x, .int .i64 n] w fun r w' => r = .returned (.bool false) ∧ w = w' := by
  by_cases h0 : 0 ≤ x
  · have h1 : ¬x < n := fun h1 => h ⟨h0, h1⟩
    clear h
    go_enter Try.func19, Try.ntmps19
    go_wp2
    go_ret
    exact ⟨rfl, rfl⟩
  · clear h
    go_enter Try.func19, Try.ntmps19
    go_wp2
    go_ret
    exact ⟨rfl, rfl⟩

/-- numbers' room made ahead -/
theorem make_room (w : World) (n : Nat) (h : n ≤ 1000000000000) : ∃ w1, (Instr.makeSlice 22 (.int .i64 0) (.int .i64 (n : Int))).run Try.prog w = .ok (.slice (some ⟨w.heap.size, 0, none⟩) 0 n) w1 ∧
    w1.ownsRow w.heap.size 3 1 (.slice (some ⟨w.heap.size, 0, none⟩) 0 n) 0 [] ∧ w.grownBy w1 none := by
  obtain ⟨i0, hi0, hz0, hz1, hz2⟩ := info_parts Try.infoI64
  have := run_make_own (P := Try.prog) w w.heap.size 22 3 i0 _ 1 Try.underlying22 hi0 hz0 hz1 .i64 .i64 n (by rw [hz2]; omega) (by simp only [maxLen]; omega) (Nat.le_refl _)
  simpa using this
end Go.Proofs.Ytfjclconpiibgaa
