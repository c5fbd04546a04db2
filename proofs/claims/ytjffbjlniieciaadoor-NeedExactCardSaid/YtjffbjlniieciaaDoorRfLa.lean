/-
  The document's Parse and Right of layer 9.
-/
import Derived.Test.YtjffbjlniieciaaDoorRows
import Derived.Test.YtjffbjlniieciaaDoorLikN
import Derived.Test.YtjffbjlniieciaaDoorIntA
import Derived.Test.YtjffbjlniieciaaDoorOutM
import Derived.Outline
import Derived.BigQuiet
import Derived.Deep.QuietTactic
namespace Go.Proofs.YtjffbjlniieciaaDoor
set_option linter.unusedSimpArgs false
set_option linter.unusedVariables false
open Go.RowKit

/-- a pattern's signs, or none: of any escape byte and length -/
def parseF (esc : Int) (l : List UInt8) : Option (List Nat) := if esc < -1 ∨ 255 < esc ∨ 4096 < l.length then none else parseL esc l
theorem lenB (s : ByteArray) : s.data.toList.length = s.size := by rw [Array.length_toList]; rfl
theorem dropB {s : ByteArray} {i : Nat} (h : i < s.size) : s.data.toList.drop i = s[i] :: s.data.toList.drop (i + 1) := by
  rw [List.drop_eq_getElem_cons (by rw [lenB]; exact h)]
  rfl
theorem dropB2 {s : ByteArray} {i : Nat} (h : i + 1 < s.size) : s.data.toList.drop i = s[i] :: s[i + 1] :: s.data.toList.drop (i + 2) := by
  rw [dropB (i := i) (by omega), dropB (i := i + 1) h]

set_option maxRecDepth 20000 in
set_option maxHeartbeats 2000000 in
theorem refParse_any {w : World} (s : ByteArray) (E : Int) (o : Option (List Nat)) (ho : parseF E s.data.toList = o) :
    Calls Tryd.prog 23 #[.string s, .int .i64 E] w fun r w' => ∃ A c, r = .returned (.tuple #[.slice A (o.getD []).length c, .int .i64 (if o.isSome then 0 else 8)]) ∧ Rd w' 0 w'.heap.size A c (iv (ints (o.getD []))) ∧ Below w.heap.size w w' := by
  unfold parseF at ho
  rw [lenB] at ho
  by_cases hbad : E < -1 ∨ 255 < E ∨ 4096 < s.size
  · rw [if_pos hbad] at ho
    subst ho
    have hor : (decide (E < -1) = true) ∨ (decide (E < -1) = false ∧ decide (255 < E) = true) ∨ (decide (E < -1) = false ∧ decide (255 < E) = false ∧ decide ((4096 : Int) < (s.size : Int)) = true) := by
      by_cases h : E < -1
      · exact Or.inl (decide_eq_true h)
      · by_cases h2 : 255 < E
        · exact Or.inr (Or.inl ⟨decide_eq_false (by omega), decide_eq_true h2⟩)
        · exact Or.inr (Or.inr ⟨decide_eq_false (by omega), decide_eq_false (by omega), decide_eq_true (by omega)⟩)
    clear hbad
    rcases hor with h1 | ⟨h1, h2⟩ | ⟨h1, h2, h3⟩
    all_goals
      go_enter Tryd.func23, Tryd.ntmps23
      go_wp2_with fail
      go_ret2
      exact ⟨none, 0, rfl, Rd.nil _ _ _, Below.refl _ _⟩
  · rw [if_neg hbad] at ho
    have h1 : ¬ E < -1 := by omega
    have h2 : ¬ 255 < E := by omega
    have h3 : ¬ (4096 : Int) < (s.size : Int) := by omega
    have hs : s.size ≤ 4096 := by omega
    clear hbad
    go_enter Tryd.func23, Tryd.ntmps23
    go_wp2_with fail
    go_loopw [6, 7] (fun x6 x7 wr => ∃ (i : Nat) (zs : List Int) (A : Option Addr) (c : Nat), i ≤ s.size ∧ x7 = .int .i64 (i : Int) ∧ x6 = .slice A zs.length c ∧ zs.length ≤ i ∧ (parseL E (s.data.toList.drop i)).map (fun p => zs ++ ints p) = o.map ints ∧
      wr.ownsRow w.heap.size 3 1 (.slice A zs.length c) zs.length (iv zs) ∧ Below w.heap.size w wr) (fun _ i _ => s.size - (intOf i).toNat)
    case atStart => exact ⟨0, [], none, 0, Nat.zero_le _, rfl, rfl, Nat.le_refl _, by rw [← ho]; simp, World.ownsRow_nil _ _ _ _, Below.refl _ _⟩
    case round =>
      obtain ⟨i, zs, A, c, hi, rfl, rfl, hyi, hys, hown, hb⟩ := hrel
      have HYS := Lib.hid hys
      have HO := Lib.hid hown
      have HB := Lib.hid hb
      have hsz := hb.size
      clear hys hown hb
      by_cases hlt : i < s.size
      · have ik : (i : Int) < (s.size : Int) := by omega
        have lk : s[i].toNat < 256 := UInt8.toNat_lt _
        by_cases he : (s[i].toNat : Int) = E
        · by_cases hl : i + 1 = s.size
          · have hno : o.map ints = none := by
              rw [← HYS.out, dropB hlt, List.drop_of_length_le (by rw [lenB]; omega), parse_last he]
              rfl
            have hno2 : o = none := by simpa using hno
            have hnl : (i : Int) + 1 = (s.size : Int) := by omega
            subst hno2
            have HE := Lib.hid he
            go_wp2_with fail
            go_ret2
            exact ⟨none, 0, rfl, Rd.nil _ _ _, HB.out⟩
          · have i1 : (i : Int) + 1 < (s.size : Int) := by omega
            have inl : ¬ (i : Int) + 1 = (s.size : Int) := by omega
            have ly : s[i + 1].toNat < 256 := UInt8.toNat_lt _
            have HP : Hid (parseL E (s.data.toList.drop i) = (parseL E (s.data.toList.drop (i + 2))).map (s[i + 1].toNat :: ·)) := by
              unfold Hid
              rw [dropB2 (by omega), parse_esc he]
            go_wp2_with (at_builtin; refine wpList_push_num (v := .slice A zs.length c) w.heap.size zs ((s[i + 1].toNat : Int)) rfl _ _ rfl rfl rfl rfl (by rw [World.cell?_alloc_at _ _ _ _ rfl]; rfl) (HO.out.alloc _) (by omega) (by simp; omega) ?_; intro A' c' w2 ho2 hg2)
            go_roundw
            case rel =>
              refine ⟨i + 2, zs ++ [((s[i + 1].toNat : Int) : Int)], A', c', by omega, by go_num, by rw [List.length_append]; rfl, by rw [List.length_append, List.length_cons, List.length_nil]; omega, ?_, ho2, (HB.out.alloc (by omega) _).grown hg2 (by simp; omega) (fun i hi => (own_lt HO.out hi).1)⟩
              rw [← HYS.out, HP.out, Option.map_map]
              congr 1
              funext p
              simp [ints]
            case measure => simp [intOf]; omega
        · have HP : Hid (parseL E (s.data.toList.drop i) = (parseL E (s.data.toList.drop (i + 1))).map (sgn s[i] :: ·)) := by
            unfold Hid
            rw [dropB hlt, parse_plain he]
          by_cases h37 : s[i].toNat = 37
          · have HS : Hid (sgn s[i] = 257) := by unfold Hid sgn; rw [if_pos h37]
            have j37 : (s[i].toNat : Int) = 37 := by omega
            rw [HS.out] at HP
            have hne : ¬ (37 : Int) = E := by omega
            go_wp2_with (at_builtin; refine wpList_push_num (v := .slice A zs.length c) w.heap.size zs (257) rfl _ _ rfl rfl rfl rfl (by rw [World.cell?_alloc_at _ _ _ _ rfl]; rfl) (HO.out.alloc _) (by omega) (by simp; omega) ?_; intro A' c' w2 ho2 hg2)
            go_roundw
            case rel =>
              refine ⟨i + 1, zs ++ [(257 : Int)], A', c', by omega, by go_num, by rw [List.length_append]; rfl, by rw [List.length_append, List.length_cons, List.length_nil]; omega, ?_, ho2, (HB.out.alloc (by omega) _).grown hg2 (by simp; omega) (fun i hi => (own_lt HO.out hi).1)⟩
              rw [← HYS.out, HP.out, Option.map_map]
              congr 1
              funext p
              simp [ints]
            case measure => simp [intOf]; omega
          · have j37 : ¬ (s[i].toNat : Int) = 37 := by omega
            by_cases h95 : s[i].toNat = 95
            · have HS : Hid (sgn s[i] = 256) := by unfold Hid sgn; rw [if_neg h37, if_pos h95]
              have j95 : (s[i].toNat : Int) = 95 := by omega
              have hne : ¬ (95 : Int) = E := by omega
              rw [HS.out] at HP
              go_wp2_with (at_builtin; refine wpList_push_num (v := .slice A zs.length c) w.heap.size zs (256) rfl _ _ rfl rfl rfl rfl (by rw [World.cell?_alloc_at _ _ _ _ rfl]; rfl) (HO.out.alloc _) (by omega) (by simp; omega) ?_; intro A' c' w2 ho2 hg2)
              go_roundw
              case rel =>
                refine ⟨i + 1, zs ++ [(256 : Int)], A', c', by omega, by go_num, by rw [List.length_append]; rfl, by rw [List.length_append, List.length_cons, List.length_nil]; omega, ?_, ho2, (HB.out.alloc (by omega) _).grown hg2 (by simp; omega) (fun i hi => (own_lt HO.out hi).1)⟩
                rw [← HYS.out, HP.out, Option.map_map]
                congr 1
                funext p
                simp [ints]
              case measure => simp [intOf]; omega
            · have HS : Hid (sgn s[i] = s[i].toNat) := by unfold Hid sgn; rw [if_neg h37, if_neg h95]
              have j95 : ¬ (s[i].toNat : Int) = 95 := by omega
              rw [HS.out] at HP
              go_wp2_with (at_builtin; refine wpList_push_num (v := .slice A zs.length c) w.heap.size zs ((s[i].toNat : Int)) rfl _ _ rfl rfl rfl rfl (by rw [World.cell?_alloc_at _ _ _ _ rfl]; rfl) (HO.out.alloc _) (by omega) (by simp; omega) ?_; intro A' c' w2 ho2 hg2)
              go_roundw
              case rel =>
                refine ⟨i + 1, zs ++ [((s[i].toNat : Int) : Int)], A', c', by omega, by go_num, by rw [List.length_append]; rfl, by rw [List.length_append, List.length_cons, List.length_nil]; omega, ?_, ho2, (HB.out.alloc (by omega) _).grown hg2 (by simp; omega) (fun i hi => (own_lt HO.out hi).1)⟩
                rw [← HYS.out, HP.out, Option.map_map]
                congr 1
                funext p
                simp [ints]
              case measure => simp [intOf]; omega
      · have ik : ¬ (i : Int) < (s.size : Int) := by omega
        have hy := HYS.out
        rw [List.drop_of_length_le (by rw [lenB]; omega)] at hy
        obtain ⟨p, hp, hz⟩ : ∃ p, o = some p ∧ ints p = zs := by
          cases o with
          | none => simp [parseL] at hy
          | some p =>
            refine ⟨p, rfl, ?_⟩
            simp [parseL] at hy
            rw [← hy]
            simp [ints]
        subst hp
        have HZ := Lib.hid hz
        have HZL : Hid (zs.length = p.length) := by unfold Hid; rw [← hz, ints_length]
        clear hz hy
        go_wp2_with fail
        go_ret2
        refine ⟨A, c, ?_, ?_, HB.out⟩
        · show _ = Ending.returned (.tuple #[.slice A p.length c, .int .i64 0])
          rw [← HZL.out]
          rfl
        · show Rd wr 0 wr.heap.size A c (iv (ints p))
          rw [HZ.out]
          exact (Rd.of_own HO.out).wide (Nat.zero_le _) (Nat.le_refl _)
end Go.Proofs.YtjffbjlniieciaaDoor
