/-
  The program's Match: by going back to the last sign of any bytes.
-/
import Derived.Test.YtcpllbfpbhnjeaaLkA
import Derived.Test.YtcpllbfpbhnjeaaLkM
import Derived.Test.YtcpllbfpbhnjeaaScj
import Derived.Test.YtcpllbfpbhnjeaaRfLc
namespace Go.Proofs.Ytcpllbfpbhnjeaa
set_option linter.unusedSimpArgs false
set_option linter.unusedVariables false
open Go.RowKit

/-- how far the bytes of the last sign are -/
def farOf (a : Act) : Nat := ((intOf (a.tmps.getD 8 undef)) + 1).toNat
/-- what holds at the try (1), and ahead of going back (0) -/
def MatJ (ns : List Nat) (s : ByteArray) (v : Bool) (A : Option Addr) (c : Nat) (w : World) (l : Nat) (a : Act) (w' : World) : Prop :=
  (l = 1 ∧ ∃ (i k : Nat) (la en : Int) (n : Nat) (u4 u9 u10 u11 u12 u13 u14 u15 u16 u17 u18 u19 u20 u21 u22 u23 u24 u25 u26 u27 u28 u29 u30 u31 u32 u33 u34 u35 u36 u37 u38 u39 u40 u41 u42 u43 u44 u45 u46 u47 u48 : Value), a = { tmps := #[.slice A ns.length c, .string s, undef, undef, u4, .int .i64 (i : Int), .int .i64 (k : Int), .int .i64 la, .int .i64 en, u9, u10, u11, u12, u13, u14, u15, u16, u17, u18, u19, u20, u21, u22, u23, u24, u25, u26, u27, u28, u29, u30, u31, u32, u33, u34, u35, u36, u37, u38, u39, u40, u41, u42, u43, u44, u45, u46, u47, u48], defers := [] } ∧ Tries ns s.data.toList v i k la en ∧ w.drewN n = w') ∨
  (l = 0 ∧ ∃ (la en : Int) (n : Nat) (u5 u6 u4 u9 u10 u11 u12 u13 u14 u15 u16 u17 u18 u19 u20 u21 u22 u23 u24 u25 u26 u27 u28 u29 u30 u31 u32 u33 u34 u35 u36 u37 u38 u39 u40 u41 u42 u43 u44 u45 u46 u47 u48 : Value), a = { tmps := #[.slice A ns.length c, .string s, undef, undef, u4, u5, u6, .int .i64 la, .int .i64 en, u9, u10, u11, u12, u13, u14, u15, u16, u17, u18, u19, u20, u21, u22, u23, u24, u25, u26, u27, u28, u29, u30, u31, u32, u33, u34, u35, u36, u37, u38, u39, u40, u41, u42, u43, u44, u45, u46, u47, u48], defers := [] } ∧ Backs ns s.data.toList v la en ∧ w.drewN n = w')
def MatM (s : ByteArray) (l : Nat) (a : Act) (w' : World) : Nat := 2 * (s.size + 2 - farOf a) + l

set_option maxRecDepth 20000 in
set_option maxHeartbeats 4000000 in
theorem lmatch_any {w : World} (ns : List Nat) (s : ByteArray) {lo hi c : Nat} {A : Option Addr} (h : Rd w lo hi A c (iv (ints ns))) (h7 : ∀ n ∈ ns, n ≤ 257) (hs : s.size ≤ 1000000) :
    Calls Try.prog 15 #[.slice A ns.length c, .string s] w fun r w' => r = .returned (.bool (mat ns s.data.toList)) ∧ ∃ n, w.drewN n = w' := by
  have hl := h.len
  have hc := h.cap
  rw [iv_length, ints_length] at hl
  unfold maxLen at hc
  have H := Lib.hid h
  have H7 : Hid (∀ i (hi : i < ns.length), ns[i] ≤ 257) := fun i hi => h7 _ (List.getElem_mem hi)
  have HS := Lib.hid (lenB s)
  clear h h7
  obtain ⟨v, hv⟩ : ∃ v, mat ns s.data.toList = v := ⟨_, rfl⟩
  rw [hv]
  have HV := Lib.hid hv
  clear hv
  go_enter Try.func15, Try.ntmps15
  go_wp2_with fail
  refine wp_scope_labels (MatJ ns s v A c w) (MatM s) ?_ ?_
  · intro l a w' hJ
    rcases hJ with ⟨rfl, i0, k0, la0, en0, n0, u4, u9, u10, u11, u12, u13, u14, u15, u16, u17, u18, u19, u20, u21, u22, u23, u24, u25, u26, u27, u28, u29, u30, u31, u32, u33, u34, u35, u36, u37, u38, u39, u40, u41, u42, u43, u44, u45, u46, u47, u48, rfl, hT, rfl⟩ | ⟨rfl, la, en, n0, u5, u6, u4, u9, u10, u11, u12, u13, u14, u15, u16, u17, u18, u19, u20, u21, u22, u23, u24, u25, u26, u27, u28, u29, u30, u31, u32, u33, u34, u35, u36, u37, u38, u39, u40, u41, u42, u43, u44, u45, u46, u47, u48, rfl, hB, rfl⟩
    · refine ⟨_, rfl, ?_⟩
      have HT := Lib.hid hT
      clear hT
      generalize hQ : jumpTo _ _ = Qx
      go_wp2_with fail
      go_loopw [5, 6, 7, 8] (fun x5 x6 x7 x8 wr => ∃ (i k : Nat) (la en : Int) (n : Nat), x5 = .int .i64 (i : Int) ∧ x6 = .int .i64 (k : Int) ∧ x7 = .int .i64 la ∧ x8 = .int .i64 en ∧ Tries ns s.data.toList v i k la en ∧ en0 ≤ en ∧ w.drewN n = wr) (fun x5 _ _ _ _ => ns.length - (intOf x5).toNat)
      case atStart => exact ⟨i0, k0, la0, en0, n0, rfl, rfl, rfl, rfl, HT.out, Int.le_refl _, rfl⟩
      case round =>
        obtain ⟨i, k, la, en, n, rfl, rfl, rfl, rfl, hT2, hle, rfl⟩ := hrel
        have hel := hT2.end_le
        have hik := And.intro hT2.1 hT2.2.1
        rw [HS.out] at hik
        have HT := Lib.hid hT2
        clear hT2
        by_cases hlt : i < ns.length
        · have ik : (i : Int) < (ns.length : Int) := by omega
          obtain ⟨b, off, rfl, hsig⟩ := rd_sig H.out hlt
          have hsig2 : (w.drewN n).cell? ⟨b, off + i, none⟩ = some (.int .i64 (ns[i] : Int)) := hsig
          have hc7 := H7.out i hlt
          by_cases h257 : ns[i] = 257
          · rw [h257] at hsig hsig2
            have HT2 := Lib.hid (HT.out.any hlt h257)
            clear h257
            go_wp2_with fail
            go_roundw
            case rel => exact ⟨i + 1, k, ((i + 1 : Nat) : Int), (k : Int), n, by go_num, rfl, by go_num, rfl, HT2.out, by omega, rfl⟩
            case measure => simp [intOf] <;> omega
          · have i257 : ((ns[i] : Int) == 257) = false := by rw [beq_eq_false_iff_ne]; omega
            by_cases hk : k = s.size
            · have hv := HT.out.full hlt h257 (by rw [HS.out]; exact hk)
              have ikk : ((k : Int) == (s.size : Int)) = true := by rw [hk]; exact beq_self_eq_true _
              clear hk
              go_wp2_with fail
              change Qx .ret _ _
              subst hQ
              refine jumpTo_ret ?_
              go_ret
              exact ⟨ret_bool hv.symm, n, rfl⟩
            · have hks : k < s.size := by omega
              have ikk : ((k : Int) == (s.size : Int)) = false := by rw [beq_eq_false_iff_ne]; omega
              have iks : (k : Int) < (s.size : Int) := by omega
              have HSY := Lib.hid (fun w => says_any (w := w) ns[i] s[k])
              have HTM := Lib.hid (HT.out.miss hlt h257 (k := k) (by rw [HS.out]; exact hks))
              have HTH := Lib.hid (HT.out.hit hlt h257 (k := k) (by rw [HS.out]; exact hks))
              have HOE : Hid (one ns[i] s.data.toList[k] = one ns[i] s[k]) := by unfold Hid; rfl
              generalize one ns[i] s[k] = o at *
              cases o
              · go_wp2_with fail
                go_quiet ((go_at_call 24; exact quiet_pure_on (HSY.out _)))
                go_wp2
                go_step3
                change Qx (.goto 0) _ _
                subst hQ
                refine ⟨Or.inr ⟨rfl, la, en, _, _, _, _, _, _, _, _, _, _, _, _, _, _, _, _, _, _, _, _, _, _, _, _, _, _, _, _, _, _, _, _, _, _, _, _, _, _, _, _, _, _, _, _, rfl, HTM.out HOE.out, (World.drewN_drewN ..).symm⟩, ?_⟩
                unfold MatM farOf
                simp [intOf]
                omega
              · go_wp2_with fail
                go_quiet ((go_at_call 24; exact quiet_pure_on (HSY.out _)))
                go_wp2
                go_roundw
                case rel => exact ⟨i + 1, k + 1, la, en, _, by go_num, by go_num, rfl, rfl, (HTH.out HOE.out), hle, rfl⟩
                case measure => simp [intOf] <;> omega
        · have ik : ¬ (i : Int) < (ns.length : Int) := by omega
          by_cases hk : k = s.size
          · have ikk : ((k : Int) == (s.size : Int)) = true := by rw [hk]; exact beq_self_eq_true _
            have hv := HT.out.done (by omega) (by rw [HS.out]; exact hk)
            clear hk
            go_wp2_with fail
            change Qx .ret _ _
            subst hQ
            refine jumpTo_ret ?_
            go_ret
            exact ⟨ret_bool hv.symm, n, rfl⟩
          · have ikk : ((k : Int) == (s.size : Int)) = false := by rw [beq_eq_false_iff_ne]; omega
            have HB := Lib.hid (HT.out.left (by omega) (by rw [HS.out]; omega))
            by_cases hla : la < 0
            · have hv := HB.out.none hla
              go_wp2_with fail
              go_step3
              go_wp2_with fail
              subst hQ
              refine jumpTo_ret ?_
              go_ret
              exact ⟨ret_bool hv.symm, n, rfl⟩
            · obtain ⟨L, e, rfl, rfl, he, hL, hT2⟩ := HB.out.some hla
              have HT2 := Lib.hid hT2
              rw [HS.out] at he
              clear hT2
              go_wp2_with fail
              go_step3
              go_wp2_with fail
              go_step3
              subst hQ
              refine ⟨Or.inl ⟨rfl, L, e + 1, _, _, _, _, _, _, _, _, _, _, _, _, _, _, _, _, _, _, _, _, _, _, _, _, _, _, _, _, _, _, _, _, _, _, _, _, _, _, _, _, _, _, _, _, rfl, HT2.out, rfl⟩, ?_⟩
              unfold MatM farOf
              simp [intOf]
              omega
    · refine ⟨_, rfl, ?_⟩
      have HB := Lib.hid hB
      clear hB
      generalize hQ : jumpTo _ _ = Qx
      by_cases hla : la < 0
      · have hv := HB.out.none hla
        go_wp2_with fail
        subst hQ
        refine jumpTo_ret ?_
        go_ret
        exact ⟨ret_bool hv.symm, n0, rfl⟩
      · obtain ⟨L, e, rfl, rfl, he, hL, hT2⟩ := HB.out.some hla
        have HT2 := Lib.hid hT2
        rw [HS.out] at he
        clear hT2
        go_wp2_with fail
        go_step3
        subst hQ
        refine ⟨Or.inl ⟨rfl, L, e + 1, _, _, _, _, _, _, _, _, _, _, _, _, _, _, _, _, _, _, _, _, _, _, _, _, _, _, _, _, _, _, _, _, _, _, _, _, _, _, _, _, _, _, _, _, rfl, HT2.out, rfl⟩, ?_⟩
        unfold MatM farOf
        simp [intOf]
        omega
  · intro hp
    go_wp2_with fail
    go_step3
    rename_i K hK
    refine hK _ _ ?_
    refine of_pass (hp 1 _ _ (Or.inl ⟨rfl, 0, 0, -1, -1, 0, _, _, _, _, _, _, _, _, _, _, _, _, _, _, _, _, _, _, _, _, _, _, _, _, _, _, _, _, _, _, _, _, _, _, _, _, _, _, _, _, _, rfl, tries_start HV.out, rfl⟩)) rfl
end Go.Proofs.Ytcpllbfpbhnjeaa
