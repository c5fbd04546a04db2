/-
  The document's Rows of layer 16.
-/
import Derived.Test.YtjffbjlniieciaaDoorNdA
import Derived.Lib.Strings
namespace Go.Proofs.YtjffbjlniieciaaDoor
set_option linter.unusedSimpArgs false
set_option linter.unusedVariables false
open Go.RowKit

/-- is a value short, and empty where there is none? -/
def cellP (v : Vl) : Bool := decide (v.s.size ≤ 100 ∧ (v.null = true → v.s.size = 0))
def rowP (cols : Int) (r : List Vl) : Bool := decide ((r.length : Int) = cols) && r.all cellP
/-- have all rows so many columns, and are they few, with short values? -/
def rowsP (rs : List (List Vl)) (cols : Int) : Bool := decide (1 ≤ cols ∧ cols ≤ 8 ∧ rs.length ≤ 100) && rs.all (rowP cols)
theorem bytes_ne {s : ByteArray} (h : ¬ s.size = 0) : s.toList.isEmpty = false := by
  rw [List.isEmpty_eq_false_iff]
  intro e
  rw [Lib.toList_data] at e
  have := congrArg List.length e
  rw [Array.length_toList] at this
  exact h this
theorem bytes_nil {s : ByteArray} (h : s.size = 0) : s = ⟨#[]⟩ := by
  have : s.data = #[] := Array.eq_empty_of_size_eq_zero h
  cases s
  simp only at this
  rw [this]

set_option maxRecDepth 20000 in
set_option maxHeartbeats 8000000 in
theorem rowsp_any {w : World} {lo hi c : Nat} {A : Option Addr} {rs : List (List Vl)} {rA : Nat → Option Addr} {rc : Nat → Nat} (h : Rows2 w lo hi A c rs rA rc) (hhi : hi ≤ w.heap.size) (cols : Int) :
    Calls Tryd.prog 14 #[.slice A rs.length c, .int .i64 cols] w fun r w' => r = .returned (.bool (rowsP rs cols)) ∧ Below w.heap.size w w' := by
  obtain ⟨hl1, hl2⟩ := h.len
  have H := Lib.hid h
  clear h
  obtain ⟨V, hV⟩ : ∃ V, rowsP rs cols = V := ⟨_, rfl⟩
  rw [hV]
  have HV := Lib.hid hV
  clear hV
  have HNO : Hid (¬ (1 ≤ cols ∧ cols ≤ 8 ∧ rs.length ≤ 100) → V = false) := fun h => by rw [← HV.out, rowsP, decide_eq_false h]; rfl
  by_cases h1 : cols < 1
  · have HVV : Hid (V = false) := HNO.out (fun h => by omega)
    go_enter Tryd.func14, Tryd.ntmps14
    go_wp2_with fail
    go_ret
    exact ⟨ret_bool HVV.out.symm, Below.refl _ _⟩
  · by_cases h2 : 8 < cols
    · have HVV : Hid (V = false) := HNO.out (fun h => by omega)
      go_enter Tryd.func14, Tryd.ntmps14
      go_wp2_with fail
      go_ret
      exact ⟨ret_bool HVV.out.symm, Below.refl _ _⟩
    · by_cases h3 : 100 < rs.length
      · have i3 : (100 : Int) < (rs.length : Int) := by omega
        have HVV : Hid (V = false) := HNO.out (fun h => by omega)
        go_enter Tryd.func14, Tryd.ntmps14
        go_wp2_with fail
        go_ret
        exact ⟨ret_bool HVV.out.symm, Below.refl _ _⟩
      · have i3 : ¬ (100 : Int) < (rs.length : Int) := by omega
        have HVA : Hid (rs.all (rowP cols) = V) := by
          unfold Hid
          rw [← HV.out, rowsP, decide_eq_true (show 1 ≤ cols ∧ cols ≤ 8 ∧ rs.length ≤ 100 by omega)]
          rfl
        clear HV HNO
        go_enter Tryd.func14, Tryd.ntmps14
        go_wp2_with fail
        go_loopw [5] (fun x5 wr => ∃ k : Nat, k ≤ rs.length ∧ x5 = .int .i64 (k : Int) ∧ (∀ q ∈ rs.take k, rowP cols q = true) ∧ Below w.heap.size w wr) (fun x5 _ => rs.length - (intOf x5).toNat)
        case atStart => exact ⟨0, Nat.zero_le _, rfl, by simp, Below.refl _ _⟩
        case round =>
          obtain ⟨k, hk, rfl, ha, hb⟩ := hrel
          obtain ⟨wy, hwy⟩ : ∃ wy, wy = wr := ⟨_, rfl⟩
          subst hwy
          have HA := Lib.hid ha
          have HB := Lib.hid hb
          have hsz := hb.size
          clear ha hb
          by_cases hlt : k < rs.length
          · have ik : (k : Int) < (rs.length : Int) := by omega
            obtain ⟨b, off, rfl, hlo, hbh, c0, hrow⟩ := (H.out.below HB.out hhi).get hlt
            have HC0 : Hid (∀ W, Below wy.heap.size wy W → W.cell? ⟨b, off + k, none⟩ = some (.slice (rA k) rs[k].length (rc k))) := fun W hW => (hW.cell (by show b < _; omega)).trans c0
            have HR := Lib.hid hrow
            obtain ⟨hr1, hr2⟩ := hrow.len
            have HT : Hid (rs.take (k + 1) = rs.take k ++ [rs[k]]) := List.take_succ_eq_append_getElem hlt
            have HM : Hid (rs[k] ∈ rs) := List.getElem_mem hlt
            clear hrow
            generalize rs[k] = r at *
            have HFL : Hid (rowP cols r = false → V = false) := fun hf => by
              rw [← HVA.out]
              refine Bool.eq_false_iff.2 fun h => ?_
              have := List.all_eq_true.1 h r HM.out
              rw [hf] at this
              cases this
            by_cases hln : (r.length : Int) = cols
            · have e1 : ((r.length : Int) != cols) = false := by rw [hln]; exact bne_self_eq_false cols
              have HFC : Hid (∀ (j : Nat) (hj : j < r.length), cellP r[j] = false → V = false) := fun j hj hc => HFL.out (by
                rw [rowP, Bool.and_eq_false_iff]
                refine .inr (Bool.eq_false_iff.2 fun h => ?_)
                have := List.all_eq_true.1 h _ (List.getElem_mem hj)
                rw [hc] at this
                cases this)
              have HTR : Hid ((∀ q ∈ r.take r.length, cellP q = true) → ∀ q ∈ rs.take (k + 1), rowP cols q = true) := fun hc q hq => by
                rw [HT.out] at hq
                rcases List.mem_append.1 hq with hq | hq
                · exact HA.out q hq
                · rw [List.mem_singleton.1 hq, rowP, decide_eq_true hln, Bool.true_and]
                  refine List.all_eq_true.2 fun x hx => hc x ?_
                  rw [List.take_length]
                  exact hx
              subst hln
              go_wp2_with fail
              go_loopw [6] (fun x6 wr => ∃ j : Nat, j ≤ r.length ∧ x6 = .int .i64 (j : Int) ∧ (∀ q ∈ r.take j, cellP q = true) ∧ Below wy.heap.size wy wr) (fun x6 _ => r.length - (intOf x6).toNat)
              case atStart => exact ⟨0, Nat.zero_le _, rfl, by simp, Below.refl _ _⟩
              case round =>
                obtain ⟨j, hj, rfl, hc, hbz⟩ := hrel
                obtain ⟨wz, hwz⟩ : ∃ wz, wz = wr := ⟨_, rfl⟩
                subst hwz
                have HC := Lib.hid hc
                have HBZ := Lib.hid hbz
                have hc0 := HC0.out wz hbz
                clear hc hbz
                by_cases hjl : j < r.length
                · have ij : (j : Int) < (r.length : Int) := by omega
                  obtain ⟨b2, off2, hA2, hlo2, hbh2, d0, d1⟩ := (HR.out.below HBZ.out (by omega)).get hjl
                  rw [hA2] at hc0
                  have HFJ := Lib.hid (HFC.out j hjl)
                  have HTJ : Hid (r.take (j + 1) = r.take j ++ [r[j]]) := List.take_succ_eq_append_getElem hjl
                  have hok := HR.out.ok r[j] (List.getElem_mem hjl)
                  generalize r[j] = v at *
                  have HNX : Hid (cellP v = true → ∀ q ∈ r.take (j + 1), cellP q = true) := fun h q hq => by
                    rw [HTJ.out] at hq
                    rcases List.mem_append.1 hq with hq | hq
                    · exact HC.out q hq
                    · rw [List.mem_singleton.1 hq]; exact h
                  obtain ⟨vn, vs⟩ := v
                  simp only at d0 d1 hok
                  by_cases h5 : 100 < vs.size
                  · have i5 : (100 : Int) < (vs.size : Int) := by omega
                    have HVV : Hid (V = false) := HFJ.out (decide_eq_false fun h => by have := h.1; simp only at this; omega)
                    go_wp2_with fail
                    go_ret
                    exact ⟨ret_bool HVV.out.symm, below_up HB.out HBZ.out hsz⟩
                  · have i5 : ¬ (100 : Int) < (vs.size : Int) := by omega
                    cases vn with
                    | true =>
                      by_cases h6 : vs.size = 0
                      · have h7 := bytes_nil h6
                        subst h7
                        have HNX2 := Lib.hid (HNX.out (decide_eq_true ⟨by simp only; omega, fun _ => h6⟩))
                        go_wp2_with fail
                        go_roundw
                        case rel => exact ⟨j + 1, by omega, by go_num, HNX2.out, HBZ.out⟩
                        case measure => simp [intOf] <;> omega
                      · have e6 := bytes_ne h6
                        have HVV : Hid (V = false) := HFJ.out (decide_eq_false fun h => h6 (h.2 rfl))
                        go_wp2_with fail
                        go_ret
                        exact ⟨ret_bool HVV.out.symm, below_up HB.out HBZ.out hsz⟩
                    | false =>
                      have HNX2 := Lib.hid (HNX.out (decide_eq_true ⟨by simp only; omega, fun h => by cases h⟩))
                      go_wp2_with fail
                      go_roundw
                      case rel => exact ⟨j + 1, by omega, by go_num, HNX2.out, HBZ.out⟩
                      case measure => simp [intOf] <;> omega
                · have ij : ¬ (j : Int) < (r.length : Int) := by omega
                  have hjr : j = r.length := by omega
                  have HA2 : Hid (∀ q ∈ rs.take (k + 1), rowP (r.length : Int) q = true) := HTR.out (by rw [← hjr]; exact HC.out)
                  have HB2 := Lib.hid (below_up HB.out HBZ.out hsz)
                  go_wp2_with fail
                  go_roundw
                  case rel => exact ⟨k + 1, by omega, by go_num, HA2.out, HB2.out⟩
                  case measure => simp [intOf] <;> omega
            · have e1 : ((r.length : Int) != cols) = true := by rw [bne_iff_ne]; exact hln
              have HVV : Hid (V = false) := HFL.out (by rw [rowP, decide_eq_false hln]; rfl)
              have hc0 := HC0.out wy (Below.refl _ _)
              go_wp2_with fail
              go_ret
              exact ⟨ret_bool HVV.out.symm, HB.out⟩
          · have ik : ¬ (k : Int) < (rs.length : Int) := by omega
            have HVV : Hid (V = true) := by
              unfold Hid
              rw [← HVA.out]
              refine List.all_eq_true.2 fun x hx => HA.out x ?_
              rw [List.take_of_length_le (by omega)]
              exact hx
            go_wp2_with fail
            go_ret
            exact ⟨ret_bool HVV.out.symm, HB.out⟩
end Go.Proofs.YtjffbjlniieciaaDoor
