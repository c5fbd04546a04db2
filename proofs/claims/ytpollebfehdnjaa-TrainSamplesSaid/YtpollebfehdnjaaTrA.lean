/-
  The document's Sample and Few of layer 12.
-/
import Derived.Test.YtpollebfehdnjaaTrM
import Derived.Test.YtpollebfehdnjaaStrA
import Derived.Test.YtpollebfehdnjaaOutM
import Derived.Test.YtpollebfehdnjaaMgM
namespace Go.Proofs.Ytpollebfehdnjaa
set_option linter.unusedSimpArgs false
set_option linter.unusedVariables false
open Go.RowKit

theorem getD_at {l : List ByteArray} {q : Nat} (h : q < l.length) (d : ByteArray) : l.getD q d = l[q] := by
  rw [List.getD_eq_getElem?_getD, List.getElem?_eq_getElem h]
  rfl

set_option maxRecDepth 20000 in
set_option maxHeartbeats 2000000 in
theorem refSample_any {w : World} (l : List ByteArray) (ds : List Int) {c d : Nat} {A B : Option Addr} (h : Rd w 0 w.heap.size A c (sv l)) (hd : Rd w 0 w.heap.size B d (iv ds)) (hln : l.length ≤ 1000000) (hdn : ds.length ≤ 1000000) :
    Calls Try.prog 13 #[.slice A l.length c, .slice B ds.length d] w fun r w' => ∃ A' c', r = .returned (.slice A' (sampleL l ds).length c') ∧
      w'.ownsRow w.heap.size 9 1 (.slice A' (sampleL l ds).length c') (sampleL l ds).length (sv (sampleL l ds)) ∧ Below w.heap.size w w' := by
  have hl := h.len
  have hc := h.cap
  have hl2 := hd.len
  have hc2 := hd.cap
  rw [sv_length] at hl
  rw [iv_length] at hl2
  unfold maxLen at hc hc2
  have H := Lib.hid h
  have HD := Lib.hid hd
  clear h hd
  by_cases h0 : l = []
  · have hl0 : l.length = 0 := by rw [h0]; rfl
    have HS : Hid (sampleL l ds = []) := if_pos h0
    have i0 : ¬ (0 : Int) < (l.length : Int) := by omega
    have d0 : decide ((0 : Int) < (l.length : Int)) = false := decide_eq_false i0
    clear h0
    by_cases hd0 : 0 < ds.length
    all_goals
      have := hd0
      go_enter Try.func13, Try.ntmps13
      go_wp2_with fail
      go_loopw [5, 6] (fun x5 x6 wr => x5 = .slice none 0 0 ∧ x6 = .int .i64 0 ∧ wr = w) (fun _ _ _ => 0)
      case atStart => exact ⟨rfl, rfl, rfl⟩
      case round =>
        obtain ⟨rfl, rfl, rfl⟩ := hrel
        first
          | (have ik : (0 : Int) < (ds.length : Int) := by omega
             go_wp2_with fail
             go_ret
             exact ⟨none, 0, by rw [HS.out]; rfl, by rw [HS.out]; exact World.ownsRow_nil _ _ _ _, Below.refl _ _⟩)
          | (have ik : ¬ (0 : Int) < (ds.length : Int) := by omega
             go_wp2_with fail
             go_ret
             exact ⟨none, 0, by rw [HS.out]; rfl, by rw [HS.out]; exact World.ownsRow_nil _ _ _ _, Below.refl _ _⟩)
  · have hln0 : l.length ≠ 0 := fun e => h0 (List.eq_nil_of_length_eq_zero e)
    have i0 : (0 : Int) < (l.length : Int) := by omega
    have d0 : decide ((0 : Int) < (l.length : Int)) = true := decide_eq_true i0
    have HLN := Lib.hid (sample_length h0 ds)
    have HGET : Hid (∀ k (hk : k < ds.length), (sampleL l ds)[k]'(by rw [HLN.out]; exact hk) = l.getD (ds[k].natAbs % l.length) ⟨#[]⟩) := fun k hk => by simp [sampleL, if_neg h0]
    clear h0
    go_enter Try.func13, Try.ntmps13
    go_wp2_with fail
    go_loopw [5, 6] (fun x5 x6 wr => ∃ (k : Nat) (A' : Option Addr) (c' : Nat), k ≤ ds.length ∧ x6 = .int .i64 (k : Int) ∧ x5 = .slice A' k c' ∧ wr.ownsRow w.heap.size 9 1 (.slice A' k c') k (sv ((sampleL l ds).take k)) ∧ Below w.heap.size w wr) (fun _ i _ => ds.length - (intOf i).toNat)
    case atStart => exact ⟨0, none, 0, Nat.zero_le _, rfl, rfl, World.ownsRow_nil _ _ _ _, Below.refl _ _⟩
    case round =>
      obtain ⟨k, A', c', hk, rfl, rfl, hown, hb⟩ := hrel
      have HO := Lib.hid hown
      have HB := Lib.hid hb
      have hsz := hb.size
      clear hown hb
      by_cases hlt : k < ds.length
      · have ik : (k : Int) < (ds.length : Int) := by omega
        obtain ⟨b2, off2, rfl, _, hbh2, hcell2⟩ := (HD.out.below HB.out (Nat.le_refl _)).num hlt
        have hql : ds[k].natAbs % l.length < l.length := Nat.mod_lt _ (by omega)
        obtain ⟨b, off, rfl, _, hbh, hcell⟩ := (H.out.below HB.out (Nat.le_refl _)).str hql
        have HTK : Hid ((sampleL l ds).take (k + 1) = (sampleL l ds).take k ++ [l[ds[k].natAbs % l.length]]) := by
          unfold Hid
          rw [List.take_succ_eq_append_getElem (by rw [HLN.out]; exact hlt), HGET.out k hlt, getD_at hql]
        have hkl : ((sampleL l ds).take k).length = k := by rw [List.length_take, HLN.out]; omega
        have HKL := Lib.hid hkl
        clear hkl
        have hdec : ds[k].tmod (l.length : Int) = ((ds[k].natAbs % l.length : Nat) : Int) ∨ (ds[k].tmod (l.length : Int) = -((ds[k].natAbs % l.length : Nat) : Int) ∧ 0 < ds[k].natAbs % l.length) := by
          rcases Int.le_total 0 ds[k] with h | h
          · obtain ⟨e, he⟩ : ∃ e : Nat, ds[k] = (e : Int) := ⟨ds[k].toNat, by omega⟩
            rw [he, Int.natAbs_natCast]
            exact Or.inl rfl
          · obtain ⟨e, he⟩ : ∃ e : Nat, ds[k] = -(e : Int) := ⟨(-ds[k]).toNat, by omega⟩
            rw [he, Int.natAbs_neg, Int.natAbs_natCast, tmod_neg]
            rcases Nat.eq_zero_or_pos (e % l.length) with h1 | h1
            · left
              rw [h1]
              rfl
            · exact Or.inr ⟨rfl, h1⟩
        generalize ds[k].natAbs % l.length = q at *
        generalize ds[k] = z at *
        generalize l[q] = s at *
        rcases hdec with ht | ⟨ht, hq0⟩
        · have iq : ¬ (q : Int) < 0 := by omega
          go_wp2_with (at_builtin; refine wpList_push_str (v := .slice A' k c') w.heap.size ((sampleL l ds).take k) s rfl _ _ rfl rfl rfl rfl (by rw [World.cell?_alloc_at _ _ _ _ rfl]; rfl) (by rw [HKL.out]; exact HO.out.alloc _) (by rw [HKL.out]; omega) (by simp; omega) ?_; intro A2 c2 w2 ho2 hg2)
          go_roundw
          case rel =>
            have hl3 : ((sampleL l ds).take k ++ [s]).length = k + 1 := by rw [List.length_append, HKL.out]; rfl
            refine ⟨k + 1, A2, c2, by omega, by go_num, by rw [show min k (sampleL l ds).length = k by rw [HLN.out]; omega], ?_, (HB.out.alloc hsz _).grown hg2 (by simp; omega) (fun q hq => (own_lt HO.out hq).1)⟩
            rw [hl3] at ho2
            rw [HTK.out]
            exact ho2
          case measure => simp [intOf] <;> omega
        · have iq : -(q : Int) < 0 := by omega
          go_wp2_with (at_builtin; refine wpList_push_str (v := .slice A' k c') w.heap.size ((sampleL l ds).take k) s rfl _ _ rfl rfl rfl rfl (by rw [World.cell?_alloc_at _ _ _ _ rfl]; rfl) (by rw [HKL.out]; exact HO.out.alloc _) (by rw [HKL.out]; omega) (by simp; omega) ?_; intro A2 c2 w2 ho2 hg2)
          go_roundw
          case rel =>
            have hl3 : ((sampleL l ds).take k ++ [s]).length = k + 1 := by rw [List.length_append, HKL.out]; rfl
            refine ⟨k + 1, A2, c2, by omega, by go_num, by rw [show min k (sampleL l ds).length = k by rw [HLN.out]; omega], ?_, (HB.out.alloc hsz _).grown hg2 (by simp; omega) (fun q hq => (own_lt HO.out hq).1)⟩
            rw [hl3] at ho2
            rw [HTK.out]
            exact ho2
          case measure => simp [intOf] <;> omega
      · have ik : ¬ (k : Int) < (ds.length : Int) := by omega
        have hke : k = (sampleL l ds).length := by rw [HLN.out]; omega
        have HKE := Lib.hid hke
        have HT : Hid ((sampleL l ds).take k = sampleL l ds) := List.take_of_length_le (by omega)
        clear hke
        go_wp2_with fail
        go_ret
        exact ⟨A', c', by rw [← HKE.out]; rfl, by rw [← HKE.out]; have := HO.out; rw [HT.out] at this; exact this, HB.out⟩
end Go.Proofs.Ytpollebfehdnjaa
