/-
  The document's Order of layer 10, walked.
  Rows that are made anew, in this program; cells that are filled up to a place.
-/
import Derived.Test.YtmffpbhiehjlpaaGreatZ02
import Derived.Test.YtmffpbhiehjlpaaGreatRows
import Derived.Test.YtmffpbhiehjlpaaGreatZ12
import Derived.Laws.OwnMore
namespace Go.Proofs.YtmffpbhiehjlpaaGreat
set_option linter.unusedSimpArgs false
set_option linter.unusedVariables false
open Go.RowKit
theorem strsL_bytL2 (l : List ByteArray) : strsL (bytL2 l) = l := by
  unfold strsL bytL2
  rw [List.map_map]
  conv => rhs; rw [← List.map_id l]
  apply List.map_congr_left
  intro s _
  exact str_eta s
set_option maxRecDepth 20000 in
set_option maxHeartbeats 4000000 in
theorem refOrder_any {w : World} (l : List ByteArray) {c : Nat} {A : Option Addr} (h : Rd w 0 w.heap.size A c (sv l)) (h1k : ∀ s ∈ l, s.size ≤ 100000) (hln : l.length ≤ 100000) :
    Calls Tryz.prog 90 #[.slice A l.length c] w fun r w' => ∃ t A' c', r = .returned (.slice A' t.length c') ∧ IsOrder (bytL2 l) t ∧ w'.ownsRow w.heap.size 9 1 (.slice A' t.length c') t.length (sv (strsL t)) ∧ Below w.heap.size w w' := by
  have hl := h.len
  have hm := h.cap
  rw [sv_length] at hl
  unfold maxLen at hm
  have H := Lib.hid h
  have H1 : Hid (∀ k (hk : k < l.length), l[k].size ≤ 100000) := fun k hk => h1k _ (List.getElem_mem hk)
  have HBL := Lib.hid (bytL2_length l)
  clear h h1k
  go_enter Tryz.func90, Tryz.ntmps90
  go_wp2_with fail
  go_loopw [3] (fun x3 wr => ∃ (os : List ByteArray) (n : Nat) (A' : Option Addr) (c' : Nat), x3 = .slice A' n c' ∧ os.length = n ∧ n ≤ 255 ∧ (∀ s ∈ os, s.size ≤ 100000) ∧ Ord (bytL2 l) (bytL2 os) ∧ wr.ownsRow w.heap.size 9 1 (.slice A' n c') n (sv os) ∧ Below w.heap.size w wr) (fun x3 _ => (match x3 with | .slice _ n _ => 255 - n | _ => 0))
  case atStart => exact ⟨[], 0, none, 0, rfl, rfl, by omega, fun s hs => (by cases hs), Ord.nil _, World.ownsRow_nil _ _ _ _, Below.refl _ _⟩
  case round =>
    obtain ⟨os, n, A', c', rfl, hon, hn5, hos, hord, hown, hb⟩ := hrel
    obtain ⟨wo, hwo⟩ : ∃ wo, wo = wr := ⟨_, rfl⟩
    subst hwo
    have HON := Lib.hid hon
    have HOS := Lib.hid hos
    have HOR := Lib.hid hord
    have HO := Lib.hid hown
    have HB := Lib.hid hb
    have hsz := hb.size
    clear hon hos hord hown hb
    by_cases hn0 : n = 0
    · subst hn0
      go_wp2_with fail
      go_loopw [4, 5] (fun x4 x5 wr => ∃ (k m : Nat) (b : ByteArray), k ≤ l.length ∧ x5 = .int .i64 (k : Int) ∧ x4 = .string b ∧ b.size ≤ 100000 ∧ Inn (bytL2 l) (bytL2 os) k b.data.toList ∧ wr = wo.drewN m) (fun _ x5 _ => l.length - (intOf x5).toNat)
      case atStart => exact ⟨0, 0, ⟨#[]⟩, Nat.zero_le _, rfl, rfl, Nat.zero_le _, inn_zero _ _, rfl⟩
      case round =>
        obtain ⟨k, m, b, hk, rfl, rfl, hbs, hinn, rfl⟩ := hrel
        have HI := Lib.hid hinn
        clear hinn
        by_cases hkl : k < l.length
        · have ik : (k : Int) < (l.length : Int) := by omega
          obtain ⟨bb, off, rfl, _, hbh, hcell0⟩ := H.out.str hkl
          have hcell : (wo.drewN m).cell? ⟨bb, off + k, none⟩ = some (.string l[k]) := (HB.out.cell (p := ⟨bb, off + k, none⟩) hbh).trans hcell0
          clear hcell0
          have hs1 := H1.out k hkl
          have hgk : (bytL2 l)[k]'(by rw [HBL.out]; exact hkl) = l[k].data.toList := bytL2_get l k hkl
          have hkl2 : k < (bytL2 l).length := by rw [HBL.out]; exact hkl
          have hos := ok_size l[k]
          have HSKIP : Hid (¬ Cand (bytL2 os) l[k].data.toList → Inn (bytL2 l) (bytL2 os) (k + 1) b.data.toList) := fun hc => inn_skip HI.out hkl2 (by rw [hgk]; exact hc)
          have HFIRST : Hid (b.data.toList = [] → Cand (bytL2 os) l[k].data.toList → Inn (bytL2 l) (bytL2 os) (k + 1) l[k].data.toList) := fun he hc => by
            have := inn_first (by rw [← he]; exact HI.out) hkl2 (by rw [hgk]; exact hc)
            rw [hgk] at this
            exact this
          have HLESS : Hid (b.data.toList ≠ [] → Cand (bytL2 os) l[k].data.toList → cmpL l[k].data.toList b.data.toList < 0 → Inn (bytL2 l) (bytL2 os) (k + 1) l[k].data.toList) := fun he hc hl => by
            have := inn_less HI.out he hkl2 (by rw [hgk]; exact hc) (by rw [hgk]; exact hl)
            rw [hgk] at this
            exact this
          have HKEEP : Hid (b.data.toList ≠ [] → ¬ cmpL l[k].data.toList b.data.toList < 0 → Inn (bytL2 l) (bytL2 os) (k + 1) b.data.toList) := fun he hl => inn_keep HI.out he hkl2 (by rw [hgk]; exact hl)
          clear hgk hkl2
          generalize l[k] = s at *
          by_cases h1 : s.size < 1
          · have i1 : ¬ (1 : Int) ≤ (s.size : Int) := by omega
            have HIN := Lib.hid (HSKIP.out (fun hc => by have := hc.1; rw [hos, decide_eq_false (p := 1 ≤ s.size) (by omega)] at this; cases this))
            clear hos
            go_wp2_with fail
            go_roundw
            case rel => exact ⟨k + 1, m, b, by omega, by go_num, rfl, hbs, HIN.out, rfl⟩
            case measure => simp [intOf] <;> omega
          · have i1 : (1 : Int) ≤ (s.size : Int) := by omega
            by_cases h8 : 8 < s.size
            · have i8 : ¬ (s.size : Int) ≤ 8 := by omega
              have HIN := Lib.hid (HSKIP.out (fun hc => by have := hc.1; rw [hos, decide_eq_false (p := s.size ≤ 8) (by omega), Bool.and_false] at this; cases this))
              clear hos
              go_wp2_with fail
              go_roundw
              case rel => exact ⟨k + 1, m, b, by omega, by go_num, rfl, hbs, HIN.out, rfl⟩
              case measure => simp [intOf] <;> omega
            · have i8 : (s.size : Int) ≤ 8 := by omega
              have HOKS : Hid (okS s.data.toList = true) := by unfold Hid; rw [hos, decide_eq_true (by omega), decide_eq_true (by omega)]; rfl
              clear hos
              have HCB := Lib.hid (fun w => refCompare_any (w := w) s b hs1 hbs)
              have hose : os = [] := List.eq_nil_of_length_eq_zero HON.out
              have HC : Hid (Cand (bytL2 os) s.data.toList) := by unfold Hid; rw [hose]; exact cand_nil.2 HOKS.out
              clear hose
              by_cases hb0 : b.data.toList = []
              · have hbe : b.toList.isEmpty = true := by rw [Lib.toList_data, hb0]; rfl
                have HIN := Lib.hid (HFIRST.out hb0 HC.out)
                clear hb0
                go_wp2_with fail
                go_roundw
                case rel => exact ⟨k + 1, _, s, by omega, by go_num, rfl, hs1, HIN.out, rfl⟩
                case measure => simp [intOf] <;> omega
              · have hbe : b.toList.isEmpty = false := by rw [Lib.toList_data]; exact List.isEmpty_eq_false_iff.2 hb0
                have HL2 := Lib.hid (HLESS.out hb0 HC.out)
                have HK2 := Lib.hid (HKEEP.out hb0)
                clear hb0
                generalize cmpL s.data.toList b.data.toList = y at *
                by_cases hy : y < 0
                · have HIN := Lib.hid (HL2.out hy)
                  go_wp2_with fail
                  refine (HCB.out _).mono ?_
                  rintro r wz ⟨rfl, my, rfl⟩
                  go_wp2_with fail
                  go_roundw
                  case rel => exact ⟨k + 1, _, s, by omega, by go_num, rfl, hs1, HIN.out, by first | rfl | (rw [World.drewN_drewN])⟩
                  case measure => simp [intOf] <;> omega
                · have HIN : Hid (Inn (bytL2 l) (bytL2 os) (k + 1) b.data.toList) := HK2.out (by omega)
                  go_wp2_with fail
                  refine (HCB.out _).mono ?_
                  rintro r wz ⟨rfl, my, rfl⟩
                  go_wp2_with fail
                  go_roundw
                  case rel => exact ⟨k + 1, _, b, by omega, by go_num, rfl, hbs, HIN.out, by first | rfl | (rw [World.drewN_drewN])⟩
                  case measure => simp [intOf] <;> omega
        · have ik : ¬ (k : Int) < (l.length : Int) := by omega
          have hke : k = l.length := by omega
          by_cases hb0 : b.data.toList = []
          · have hbe : b.toList.isEmpty = true := by rw [Lib.toList_data, hb0]; rfl
            have HDN : Hid (IsOrder (bytL2 l) (bytL2 os)) := by
              refine HOR.out.done (fun s hs => ?_) (by rw [bytL2_length, HON.out]; exact hn5)
              rcases HI.out with ⟨_, h2⟩ | ⟨h1, _, _⟩
              · obtain ⟨j, hj, rfl⟩ := List.getElem_of_mem hs
                exact h2 j hj (by rw [HBL.out] at hj; omega)
              · exact absurd hb0 (cand_ne h1)
            have HLN : Hid ((bytL2 os).length = 0) := by unfold Hid; rw [bytL2_length, HON.out]
            have HST : Hid (strsL (bytL2 os) = os) := strsL_bytL2 os
            clear hb0
            go_wp2_with fail
            go_ret
            exact ⟨bytL2 os, A', c', by rw [HLN.out]; first | rfl | simp, HDN.out, by rw [HLN.out, HST.out]; exact own_keep HO.out (fun _ _ => rfl), below_drewN' HB.out m⟩
          · have hbe : b.toList.isEmpty = false := by rw [Lib.toList_data]; exact List.isEmpty_eq_false_iff.2 hb0
            have HNX : Hid (Ord (bytL2 l) (bytL2 (os ++ [b]))) := by
              rcases HI.out with ⟨h1, _⟩ | ⟨h1, h2, h3⟩
              · exact absurd h1 hb0
              · unfold Hid
                rw [bytL2_snoc]
                refine HOR.out.push h2 h1 fun s hs hcs => ?_
                obtain ⟨j, hj, rfl⟩ := List.getElem_of_mem hs
                exact h3 j hj (by rw [HBL.out] at hj; omega) hcs
            have hod : (wo.drewN m).ownsRow w.heap.size 9 1 (.slice A' os.length c') os.length (sv os) := by rw [HON.out]; exact own_keep HO.out (fun _ _ => rfl)
            have HOD := Lib.hid hod
            have HBD := Lib.hid (below_drewN' HB.out m)
            have hszd : w.heap.size ≤ (wo.drewN m).heap.size := hsz
            have honl : os.length ≤ 255 := by rw [HON.out]; exact hn5
            clear hb0 hod
            generalize wo.drewN m = w5 at *
            go_wp2_with (at_builtin; refine wpList_push_str (v := .slice A' 0 c') w.heap.size os b rfl _ _ rfl rfl rfl rfl (by rw [World.cell?_alloc_at _ _ _ _ rfl]; rfl) (by have := HOD.out.alloc (.cells #[.string b] 9); rw [HON.out] at this ⊢; exact this) (by omega) (by simp; omega) ?_; intro A2 c2 w2 ho2 hg2)
            go_roundw
            case rel =>
              refine ⟨os ++ [b], 0 + 1, A2, c2, by rw [HON.out], by rw [List.length_append, HON.out]; rfl, by omega, ?_, HNX.out, by rw [List.length_append, HON.out] at ho2; exact ho2, (HBD.out.alloc hszd _).grown hg2 (by simp; omega) (fun q hq => (own_lt HOD.out (by rw [HON.out]; exact hq)).1)⟩
              intro s hs
              rcases List.mem_append.1 hs with hs | hs
              · exact HOS.out s hs
              · rw [List.mem_singleton.1 hs]; exact hbs
            case measure => simp [HON.out] <;> omega
    · obtain ⟨j, rfl⟩ : ∃ j, n = j + 1 := ⟨n - 1, by omega⟩
      have hjl : j < os.length := by rw [HON.out]; omega
      by_cases hlt : j + 1 < 255
      · have i255 : ((j : Int) + 1) < 255 := by omega
        go_wp2_with fail
        go_loopw [4, 5] (fun x4 x5 wr => ∃ (k m : Nat) (b : ByteArray), k ≤ l.length ∧ x5 = .int .i64 (k : Int) ∧ x4 = .string b ∧ b.size ≤ 100000 ∧ Inn (bytL2 l) (bytL2 os) k b.data.toList ∧ wr = wo.drewN m) (fun _ x5 _ => l.length - (intOf x5).toNat)
        case atStart => exact ⟨0, 0, ⟨#[]⟩, Nat.zero_le _, rfl, rfl, Nat.zero_le _, inn_zero _ _, rfl⟩
        case round =>
          obtain ⟨k, m, b, hk, rfl, rfl, hbs, hinn, rfl⟩ := hrel
          have HI := Lib.hid hinn
          clear hinn
          by_cases hkl : k < l.length
          · have ik : (k : Int) < (l.length : Int) := by omega
            obtain ⟨bb, off, rfl, _, hbh, hcell0⟩ := H.out.str hkl
            have hcell : (wo.drewN m).cell? ⟨bb, off + k, none⟩ = some (.string l[k]) := (HB.out.cell (p := ⟨bb, off + k, none⟩) hbh).trans hcell0
            clear hcell0
            have hs1 := H1.out k hkl
            have hgk : (bytL2 l)[k]'(by rw [HBL.out]; exact hkl) = l[k].data.toList := bytL2_get l k hkl
            have hkl2 : k < (bytL2 l).length := by rw [HBL.out]; exact hkl
            have hos := ok_size l[k]
            have HSKIP : Hid (¬ Cand (bytL2 os) l[k].data.toList → Inn (bytL2 l) (bytL2 os) (k + 1) b.data.toList) := fun hc => inn_skip HI.out hkl2 (by rw [hgk]; exact hc)
            have HFIRST : Hid (b.data.toList = [] → Cand (bytL2 os) l[k].data.toList → Inn (bytL2 l) (bytL2 os) (k + 1) l[k].data.toList) := fun he hc => by
              have := inn_first (by rw [← he]; exact HI.out) hkl2 (by rw [hgk]; exact hc)
              rw [hgk] at this
              exact this
            have HLESS : Hid (b.data.toList ≠ [] → Cand (bytL2 os) l[k].data.toList → cmpL l[k].data.toList b.data.toList < 0 → Inn (bytL2 l) (bytL2 os) (k + 1) l[k].data.toList) := fun he hc hl => by
              have := inn_less HI.out he hkl2 (by rw [hgk]; exact hc) (by rw [hgk]; exact hl)
              rw [hgk] at this
              exact this
            have HKEEP : Hid (b.data.toList ≠ [] → ¬ cmpL l[k].data.toList b.data.toList < 0 → Inn (bytL2 l) (bytL2 os) (k + 1) b.data.toList) := fun he hl => inn_keep HI.out he hkl2 (by rw [hgk]; exact hl)
            clear hgk hkl2
            generalize l[k] = s at *
            by_cases h1 : s.size < 1
            · have i1 : ¬ (1 : Int) ≤ (s.size : Int) := by omega
              have HIN := Lib.hid (HSKIP.out (fun hc => by have := hc.1; rw [hos, decide_eq_false (p := 1 ≤ s.size) (by omega)] at this; cases this))
              clear hos
              go_wp2_with fail
              go_roundw
              case rel => exact ⟨k + 1, m, b, by omega, by go_num, rfl, hbs, HIN.out, rfl⟩
              case measure => simp [intOf] <;> omega
            · have i1 : (1 : Int) ≤ (s.size : Int) := by omega
              by_cases h8 : 8 < s.size
              · have i8 : ¬ (s.size : Int) ≤ 8 := by omega
                have HIN := Lib.hid (HSKIP.out (fun hc => by have := hc.1; rw [hos, decide_eq_false (p := s.size ≤ 8) (by omega), Bool.and_false] at this; cases this))
                clear hos
                go_wp2_with fail
                go_roundw
                case rel => exact ⟨k + 1, m, b, by omega, by go_num, rfl, hbs, HIN.out, rfl⟩
                case measure => simp [intOf] <;> omega
              · have i8 : (s.size : Int) ≤ 8 := by omega
                have HOKS : Hid (okS s.data.toList = true) := by unfold Hid; rw [hos, decide_eq_true (by omega), decide_eq_true (by omega)]; rfl
                clear hos
                have HCB := Lib.hid (fun w => refCompare_any (w := w) s b hs1 hbs)
                obtain ⟨g, off2, hA, _, _, hcl⟩ := ((Rd.of_own HO.out).drewN m).str hjl
                have hsz2 := HOS.out _ (List.getElem_mem hjl)
                have hob : bytL2 os = bytL2 (os.take j) ++ [os[j].data.toList] := by
                  rw [← bytL2_snoc, ← List.take_succ_eq_append_getElem hjl, List.take_of_length_le (by rw [HON.out]; exact Nat.le_refl _)]
                have HCD : Hid (Cand (bytL2 os) s.data.toList ↔ 0 < cmpL s.data.toList os[j].data.toList) := by
                  unfold Hid
                  have h2 := HOR.out.rises
                  rw [hob] at h2 ⊢
                  exact cand_last h2 HOKS.out
                clear hob
                have HCA := Lib.hid (fun w => refCompare_any (w := w) s os[j] hs1 hsz2)
                generalize os[j] = a at *
                generalize cmpL s.data.toList a.data.toList = z at *
                subst hA
                have hj0 : ¬ ((j : Int) + 1 = 0) := by omega
                by_cases hz : 0 < z
                · have HC : Hid (Cand (bytL2 os) s.data.toList) := HCD.out.2 hz
                  go_wp2_with fail
                  refine (HCA.out _).mono ?_
                  rintro r wz ⟨rfl, mz, rfl⟩
                  rw [World.drewN_drewN]
                  generalize m + mz = m at *
                  by_cases hb0 : b.data.toList = []
                  · have hbe : b.toList.isEmpty = true := by rw [Lib.toList_data, hb0]; rfl
                    have HIN := Lib.hid (HFIRST.out hb0 HC.out)
                    clear hb0
                    go_wp2_with fail
                    go_roundw
                    case rel => exact ⟨k + 1, _, s, by omega, by go_num, rfl, hs1, HIN.out, rfl⟩
                    case measure => simp [intOf] <;> omega
                  · have hbe : b.toList.isEmpty = false := by rw [Lib.toList_data]; exact List.isEmpty_eq_false_iff.2 hb0
                    have HL2 := Lib.hid (HLESS.out hb0 HC.out)
                    have HK2 := Lib.hid (HKEEP.out hb0)
                    clear hb0
                    generalize cmpL s.data.toList b.data.toList = y at *
                    by_cases hy : y < 0
                    · have HIN := Lib.hid (HL2.out hy)
                      go_wp2_with fail
                      refine (HCB.out _).mono ?_
                      rintro r wz ⟨rfl, my, rfl⟩
                      go_wp2_with fail
                      go_roundw
                      case rel => exact ⟨k + 1, _, s, by omega, by go_num, rfl, hs1, HIN.out, by first | rfl | (rw [World.drewN_drewN])⟩
                      case measure => simp [intOf] <;> omega
                    · have HIN : Hid (Inn (bytL2 l) (bytL2 os) (k + 1) b.data.toList) := HK2.out (by omega)
                      go_wp2_with fail
                      refine (HCB.out _).mono ?_
                      rintro r wz ⟨rfl, my, rfl⟩
                      go_wp2_with fail
                      go_roundw
                      case rel => exact ⟨k + 1, _, b, by omega, by go_num, rfl, hbs, HIN.out, by first | rfl | (rw [World.drewN_drewN])⟩
                      case measure => simp [intOf] <;> omega
                · have HIN := Lib.hid (HSKIP.out (fun hc => hz (HCD.out.1 hc)))
                  have hz2 : ¬ (0 < z) := hz
                  go_wp2_with fail
                  refine (HCA.out _).mono ?_
                  rintro r wz ⟨rfl, mz, rfl⟩
                  go_wp2_with fail
                  go_roundw
                  case rel => exact ⟨k + 1, _, b, by omega, by go_num, rfl, hbs, HIN.out, by first | rfl | (rw [World.drewN_drewN])⟩
                  case measure => simp [intOf] <;> omega
          · have ik : ¬ (k : Int) < (l.length : Int) := by omega
            have hke : k = l.length := by omega
            by_cases hb0 : b.data.toList = []
            · have hbe : b.toList.isEmpty = true := by rw [Lib.toList_data, hb0]; rfl
              have HDN : Hid (IsOrder (bytL2 l) (bytL2 os)) := by
                refine HOR.out.done (fun s hs => ?_) (by rw [bytL2_length, HON.out]; exact hn5)
                rcases HI.out with ⟨_, h2⟩ | ⟨h1, _, _⟩
                · obtain ⟨j, hj, rfl⟩ := List.getElem_of_mem hs
                  exact h2 j hj (by rw [HBL.out] at hj; omega)
                · exact absurd hb0 (cand_ne h1)
              have HLN : Hid ((bytL2 os).length = (j + 1)) := by unfold Hid; rw [bytL2_length, HON.out]
              have HST : Hid (strsL (bytL2 os) = os) := strsL_bytL2 os
              clear hb0
              go_wp2_with fail
              go_ret
              exact ⟨bytL2 os, A', c', by rw [HLN.out]; first | rfl | simp, HDN.out, by rw [HLN.out, HST.out]; exact own_keep HO.out (fun _ _ => rfl), below_drewN' HB.out m⟩
            · have hbe : b.toList.isEmpty = false := by rw [Lib.toList_data]; exact List.isEmpty_eq_false_iff.2 hb0
              have HNX : Hid (Ord (bytL2 l) (bytL2 (os ++ [b]))) := by
                rcases HI.out with ⟨h1, _⟩ | ⟨h1, h2, h3⟩
                · exact absurd h1 hb0
                · unfold Hid
                  rw [bytL2_snoc]
                  refine HOR.out.push h2 h1 fun s hs hcs => ?_
                  obtain ⟨j, hj, rfl⟩ := List.getElem_of_mem hs
                  exact h3 j hj (by rw [HBL.out] at hj; omega) hcs
              have hod : (wo.drewN m).ownsRow w.heap.size 9 1 (.slice A' os.length c') os.length (sv os) := by rw [HON.out]; exact own_keep HO.out (fun _ _ => rfl)
              have HOD := Lib.hid hod
              have HBD := Lib.hid (below_drewN' HB.out m)
              have hszd : w.heap.size ≤ (wo.drewN m).heap.size := hsz
              have honl : os.length ≤ 255 := by rw [HON.out]; exact hn5
              clear hb0 hod
              generalize wo.drewN m = w5 at *
              go_wp2_with (at_builtin; refine wpList_push_str (v := .slice A' (j + 1) c') w.heap.size os b rfl _ _ rfl rfl rfl rfl (by rw [World.cell?_alloc_at _ _ _ _ rfl]; rfl) (by have := HOD.out.alloc (.cells #[.string b] 9); rw [HON.out] at this ⊢; exact this) (by omega) (by simp; omega) ?_; intro A2 c2 w2 ho2 hg2)
              go_roundw
              case rel =>
                refine ⟨os ++ [b], (j + 1) + 1, A2, c2, by rw [HON.out], by rw [List.length_append, HON.out]; rfl, by omega, ?_, HNX.out, by rw [List.length_append, HON.out] at ho2; exact ho2, (HBD.out.alloc hszd _).grown hg2 (by simp; omega) (fun q hq => (own_lt HOD.out (by rw [HON.out]; exact hq)).1)⟩
                intro s hs
                rcases List.mem_append.1 hs with hs | hs
                · exact HOS.out s hs
                · rw [List.mem_singleton.1 hs]; exact hbs
              case measure => simp [HON.out] <;> omega
      · have i255 : ¬ ((j : Int) + 1) < 255 := by omega
        have hj5 : j + 1 = 255 := by omega
        have HDN : Hid (IsOrder (bytL2 l) (bytL2 os)) := HOR.out.full (by rw [bytL2_length, HON.out]; exact hj5)
        have HLN : Hid ((bytL2 os).length = j + 1) := by unfold Hid; rw [bytL2_length, HON.out]
        have HST : Hid (strsL (bytL2 os) = os) := strsL_bytL2 os
        clear hj5
        go_wp2_with fail
        go_ret
        exact ⟨bytL2 os, A', c', by rw [HLN.out]; first | rfl | simp, HDN.out, by rw [HLN.out, HST.out]; exact HO.out, HB.out⟩
end Go.Proofs.YtmffpbhiehjlpaaGreat
namespace Go.Proofs.YtmffpbhiehjlpaaGreat
set_option linter.unusedSimpArgs false
set_option linter.unusedVariables false
open Go.RowKit
theorem Tryz.infoBool : (Tryz.prog.info? 4).map (fun i => (i.zero, i.size, i.bytes)) = some (some (.bool false), 1, 1) := by kernel_rfl
theorem make_bools (w : World) (n : Nat) (h : n ≤ 281474976710656) : ∃ w1, (Instr.makeSlice 36 (.int .i64 (n : Int)) (.int .i64 (n : Int))).run Tryz.prog w = .ok (.slice (some ⟨w.heap.size, 0, none⟩) n n) w1 ∧
    w1.ownsRow w.heap.size 4 1 (.slice (some ⟨w.heap.size, 0, none⟩) n n) n (List.replicate n (.bool false)) ∧ w.grownBy w1 none := by
  obtain ⟨i0, hi0, hz0, hz1, hz2⟩ := info_parts Tryz.infoBool
  have := run_make_full (P := Tryz.prog) w w.heap.size 36 4 i0 _ 1 Tryz.underlying36 hi0 hz0 hz1 .i64 .i64 n (by rw [hz2]; omega) (by simp only [maxLen]; omega) (Nat.le_refl _)
  rw [Nat.mul_one, show (Value.bool false).cells = #[.bool false] from rfl, toList_madeCells_one] at this
  exact this
def Fill (ys : List Value) (k : Nat) (xs : List Value) : Prop := xs.length = ys.length ∧ ∀ j, j < k → xs[j]? = ys[j]?
theorem fill_zero {ys xs : List Value} (h : xs.length = ys.length) : Fill ys 0 xs := ⟨h, fun j hj => absurd hj (Nat.not_lt_zero j)⟩
theorem fill_all {ys xs : List Value} {k : Nat} (h : Fill ys k xs) (hk : ys.length ≤ k) : xs = ys := by
  apply List.ext_getElem?
  intro j
  by_cases hj : j < k
  · exact h.2 j hj
  · rw [List.getElem?_eq_none (by rw [h.1]; omega), List.getElem?_eq_none (by omega)]
theorem fill_succ {ys xs : List Value} {k : Nat} (h : Fill ys k xs) (u : Value) (hu : ys[k]? = some u) : Fill ys (k + 1) (xs.set k u) := by
  have hk : k < ys.length := (List.getElem?_eq_some_iff.1 hu).1
  refine ⟨by rw [List.length_set]; exact h.1, fun j hj => ?_⟩
  by_cases e : j = k
  · subst e
    rw [List.getElem?_set_self (by rw [h.1]; exact hk), hu]
  · rw [List.getElem?_set_ne (by omega)]
    exact h.2 j (by omega)
theorem rd_own {w : World} {base n c : Nat} {A : Option Addr} {e : TypeId} {xs : List Value} (h : w.ownsRow base e 1 (.slice A n c) n xs) : Rd w 0 w.heap.size A c xs := (Rd.own h).wide (Nat.zero_le _) (Nat.le_refl _)
end Go.Proofs.YtmffpbhiehjlpaaGreat
