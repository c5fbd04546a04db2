/-
  The program's train: Sample.
-/
import Derived.Test.YtpollebfehdnjaaTrA
import Derived.Test.YtpollebfehdnjaaSyC
namespace Go.Proofs.Ytpollebfehdnjaa
set_option linter.unusedSimpArgs false
set_option linter.unusedVariables false
open Go.RowKit

theorem dist_any (z : Int) (w : World) (h1 : -9223372036854775808 ≤ z) (h2 : z ≤ 9223372036854775807) :
    Calls Try.prog 23 #[.int .i64 z] w fun e w' => e = .returned (.int .u64 (z.natAbs : Int)) ∧ w = w' := by
  by_cases hz : z < 0
  · have e1 : IntKind.u64.wrap (-IntKind.u64.wrap z) = (z.natAbs : Int) := by rw [IntKind.wrap_u64, IntKind.wrap_u64]; omega
    have E1 := Lib.hid e1
    clear e1
    go_enter Try.func23, Try.ntmps23
    go_wp2
    go_ret
    exact ⟨ret_int' E1.out, rfl⟩
  · have e1 : z = (z.natAbs : Int) := by omega
    have E1 := Lib.hid e1
    clear e1
    go_enter Try.func23, Try.ntmps23
    go_wp2
    go_ret
    exact ⟨ret_int' E1.out, rfl⟩

set_option maxRecDepth 20000 in
set_option maxHeartbeats 2000000 in
theorem tsample_any {w : World} (l : List ByteArray) (ds : List Int) {c d : Nat} {A B : Option Addr} (h : Rd w 0 w.heap.size A c (sv l)) (hd : Rd w 0 w.heap.size B d (iv ds)) (hln : l.length ≤ 1000000) (hdn : ds.length ≤ 1000000) (hsz : ∀ s ∈ l, s.size ≤ 281474976710656)
    (hdw : ∀ z ∈ ds, -9223372036854775808 ≤ z ∧ z ≤ 9223372036854775807) :
    Calls Try.prog 12 #[.slice A l.length c, .slice B ds.length d] w fun r w' => ∃ A' c', r = .returned (.slice A' (sampleL l ds).length c') ∧
      w'.ownsRow w.heap.size 9 1 (.slice A' (sampleL l ds).length c') (sampleL l ds).length (sv (sampleL l ds)) ∧ Below w.heap.size w w' := by
  have hl := h.len
  have hc := h.cap
  have hl2 := hd.len
  have hc2 := hd.cap
  rw [sv_length] at hl
  rw [iv_length] at hl2
  unfold maxLen at hc hc2
  have H := Lib.hid h
  have HD := Lib.hid hd
  have HZ : Hid (∀ k (hk : k < l.length), l[k].size ≤ 281474976710656) := fun k hk => hsz _ (List.getElem_mem hk)
  have HW : Hid (∀ k (hk : k < ds.length), -9223372036854775808 ≤ ds[k] ∧ ds[k] ≤ 9223372036854775807) := fun k hk => hdw _ (List.getElem_mem hk)
  clear h hd hsz hdw
  by_cases h0 : l = []
  · have hl0 : l.length = 0 := by rw [h0]; rfl
    have HS : Hid (sampleL l ds = []) := if_pos h0
    have i0 : (l.length : Int) = 0 := by omega
    have HI := Lib.hid i0
    have d0 : decide ((l.length : Int) = 0) = true := decide_eq_true i0
    clear h0 i0
    go_enter Try.func12, Try.ntmps12
    go_wp2_with fail
    go_ret
    exact ⟨none, 0, by rw [HS.out]; rfl, by rw [HS.out]; exact World.ownsRow_nil _ _ _ _, Below.refl _ _⟩
  · have hln0 : l.length ≠ 0 := fun e => h0 (List.eq_nil_of_length_eq_zero e)
    have i0 : ¬ (l.length : Int) = 0 := by omega
    have d0 : ((l.length : Int) == 0) = false := beq_eq_false_iff_ne.2 i0
    have HLN := Lib.hid (sample_length h0 ds)
    have HGET : Hid (∀ k (hk : k < ds.length), (sampleL l ds)[k]'(by rw [HLN.out]; exact hk) = l.getD (ds[k].natAbs % l.length) ⟨#[]⟩) := fun k hk => by simp [sampleL, if_neg h0]
    clear h0
    go_enter Try.func12, Try.ntmps12
    go_wp2_with fail
    go_loopw [5, 14] (fun x5 x6 wr => ∃ (k : Nat) (A' : Option Addr) (c' : Nat), k ≤ ds.length ∧ x6 = .int .i64 (k : Int) ∧ x5 = .slice A' k c' ∧ wr.ownsRow w.heap.size 9 1 (.slice A' k c') k (sv ((sampleL l ds).take k)) ∧ Below w.heap.size w wr) (fun _ i _ => ds.length - (intOf i).toNat)
    case atStart => exact ⟨0, none, 0, Nat.zero_le _, rfl, rfl, World.ownsRow_nil _ _ _ _, Below.refl _ _⟩
    case round =>
      obtain ⟨k, A', c', hk, rfl, rfl, hown, hb⟩ := hrel
      have HO := Lib.hid hown
      have HB := Lib.hid hb
      have hsz := hb.size
      clear hown hb
      by_cases hlt : k < ds.length
      · obtain ⟨b1, off1, rfl, -, -, hc1⟩ := (HD.out.below HB.out (Nat.le_refl _)).num hlt
        have hq : ds[k].natAbs % l.length < l.length := Nat.mod_lt _ (by omega)
        obtain ⟨b2, off2, rfl, -, -, hc3⟩ := (H.out.below HB.out (Nat.le_refl _)).str hq
        have hz2 := HZ.out _ hq
        have HKL : Hid (((sampleL l ds).take k).length = k) := by unfold Hid; rw [List.length_take, HLN.out]; omega
        have HTK : Hid ((sampleL l ds).take (k + 1) = (sampleL l ds).take k ++ [l[ds[k].natAbs % l.length]]) := by
          unfold Hid
          rw [List.take_succ_eq_append_getElem (by rw [HLN.out]; exact hlt), HGET.out k hlt, getD_at hq]
        have hw := HW.out k hlt
        have hmod : ((ds[k].natAbs : Nat) : Int) % (l.length : Int) = ((ds[k].natAbs % l.length : Nat) : Int) := by push_cast; rfl
        have hab : ((ds[k].natAbs : Nat) : Int) ≤ 9223372036854775808 := by omega
        have HDI := Lib.hid (fun w => dist_any ds[k] w hw.1 hw.2)
        generalize ds[k].natAbs = a at *
        generalize ds[k] = z at *
        have hlu : IntKind.u64.wrap (l.length : Int) = (l.length : Int) := by rw [IntKind.wrap_u64]; omega
        have HSC := Lib.hid (fun w2 => sclone_any (w := w2) l[a % l.length] hz2)
        generalize l[a % l.length] = s at *
        generalize a % l.length = q at *
        clear hw
        go_wp2_with fail
        refine (HDI.out _).mono ?_
        rintro r w2 ⟨rfl, rfl⟩
        go_wp2_with fail
        refine (HSC.out _).mono ?_
        rintro r w2 ⟨rfl, hb2⟩
        have HO2 := Lib.hid (own_below HO.out hb2 (Nat.le_refl _))
        have HB2 := Lib.hid (below_below HB.out hb2 hsz)
        have hz3 := HB2.out.size
        clear hb2
        go_wp2_with (at_builtin; refine wpList_push_str (v := .slice A' k c') w.heap.size ((sampleL l ds).take k) s rfl _ _ rfl rfl rfl rfl (by rw [World.cell?_alloc_at _ _ _ _ rfl]; rfl) (by rw [HKL.out]; exact HO2.out.alloc _) (by rw [HKL.out]; omega) (by simp; omega) ?_; intro A2 c2 w3 ho3 hg3)
        go_roundw
        case rel =>
          have hl3 : ((sampleL l ds).take k ++ [s]).length = k + 1 := by rw [List.length_append, HKL.out]; rfl
          refine ⟨k + 1, A2, c2, by omega, by go_num, by rw [show min k (sampleL l ds).length = k by rw [HLN.out]; omega], ?_, (HB2.out.alloc hz3 _).grown hg3 (by simp; omega) (fun q hq => (own_lt HO2.out hq).1)⟩
          rw [hl3] at ho3
          rw [HTK.out]
          exact ho3
        case measure => simp [intOf] <;> omega
      · have hke : k = (sampleL l ds).length := by rw [HLN.out]; omega
        have HKE := Lib.hid hke
        have HT : Hid ((sampleL l ds).take k = sampleL l ds) := List.take_of_length_le (by omega)
        clear hke
        go_wp2_with fail
        go_ret
        exact ⟨A', c', by rw [← HKE.out]; rfl, by rw [← HKE.out]; have := HO.out; rw [HT.out] at this; exact this, HB.out⟩
end Go.Proofs.Ytpollebfehdnjaa
