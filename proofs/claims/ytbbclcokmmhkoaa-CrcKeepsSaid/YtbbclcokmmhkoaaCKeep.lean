/-
  Proved: CrcKeeps returns true for every slice of bytes, and leaves what was there as it was. No condition.
-/
import Derived.Test.YtbbclcokmmhkoaaCrcL
import Derived.Test.YtbbclcokmmhkoaaShell
namespace Go.Proofs.Ytbbclcokmmhkoaa
set_option linter.unusedSimpArgs false
set_option linter.unusedVariables false
open Go.ChangeShapes Go.WideShapes Go.ChangeAt Go.RowKit
open Go.ChangeMaps (open_string shut_string)

set_option maxRecDepth 20000 in
theorem crcKeeps_walk {w : World} {A : Option Addr} {bs : List UInt8} {c : Nat} (h : Rd w 0 w.heap.size A c (bv bs)) :
    Calls Try.prog 7 #[.slice A bs.length c] w fun e w' => e = .returned (.bool true) ∧ Below w.heap.size w w' := by
  have hl := h.len
  have hc := h.cap
  rw [bv_length] at hl
  unfold maxLen at hc
  have H := Lib.hid h
  clear h
  by_cases h5 : bs.length ≤ 1000
  · go_enter Try.func7, Try.ntmps7
    go_wp2_with fail
    refine (awake2_any _).mono ?_
    rintro r w1 ⟨rfl, hb1⟩
    have HB1 := Lib.hid hb1
    have s1 := hb1.size
    clear hb1
    obtain ⟨A1, c1, w2, hrun, hown, hg2⟩ := append_bytes (w1.alloc (.cells #[] 5)) w1.heap.size (.slice (some ⟨w1.heap.size, 0, none⟩) 0 0) [] bs (own_lit w1 [] #[] rfl (by simp)) ((H.out.below HB1.out (Nat.le_refl _)).alloc s1 _) (by simp; omega) (by simp)
    simp only [List.length_nil, Nat.zero_add, List.nil_append] at hrun hown
    have k2 : Below w.heap.size w w2 := (HB1.out.alloc s1 _).grown hg2 (by simp; omega) (by simp [Value.ownBlock]; omega)
    have HO := Lib.hid hown
    have HK2 := Lib.hid k2
    have s2 := k2.size
    clear hown hg2 k2
    go_wp2_with (at_builtin; refine wpList_append_run rfl _ _ _ _ rfl rfl rfl hrun ?_)
    refine (Seal_any bs (H.out.below HK2.out (Nat.le_refl _)) s2 (by omega)).mono ?_
    rintro r w3 ⟨As, cs, rfl, hos, hb3⟩
    have HOS := Lib.hid hos
    have HO3 := Lib.hid (own_below HO.out hb3 (Nat.le_refl _))
    have HB3 := Lib.hid hb3
    have HK3 := Lib.hid (below_below HK2.out hb3 s2)
    have s3 := hb3.size
    clear hos hb3
    go_wp2_with fail
    refine (open_seal bs ((Rd.own HOS.out).wide (Nat.zero_le _) (Nat.le_refl _)) (Nat.le_refl _) (by omega)).mono ?_
    rintro r w4 ⟨Ax, cx, rfl, hox, hb4⟩
    have HOX := Lib.hid hox
    have HO4 := Lib.hid (own_below HO3.out hb4 (Nat.le_refl _))
    have HOS4 := Lib.hid (own_below HOS.out hb4 (Nat.le_refl _))
    have HK4 := Lib.hid (below_below HK3.out hb4 (Nat.le_trans s2 s3))
    have HB4 := Lib.hid hb4
    have s4 := hb4.size
    clear hox hb4
    go_wp2_with fail
    go_loopw [7] (fun i wr => ∃ (k : Nat) (xs : List Value), k ≤ bs.length ∧ i = .int .i64 (k : Int) ∧ wr.ownsRow w3.heap.size 5 1 (.slice Ax bs.length cx) bs.length xs ∧ (∀ j, k ≤ j → xs[j]? = (bv bs)[j]?) ∧ w4.grownBy wr (Value.ownBlock (.slice Ax bs.length cx))) (fun i _ => bs.length - (intOf i).toNat)
    case atStart => exact ⟨0, _, Nat.zero_le _, rfl, HOX.out, fun _ _ => rfl, gb_refl _ _⟩
    case round =>
      obtain ⟨k, xs, hk, rfl, hown, hxs, hgr⟩ := hrel
      have HX := Lib.hid hxs
      have HG := Lib.hid hgr
      clear hxs hgr
      by_cases hlt : k < bs.length
      · obtain ⟨go, rfl, hgo, hgo2⟩ := own_spot hown (by omega)
        have hcell : wr.cell? ⟨go, k, none⟩ = some (.int .u8 (bs[k].toNat : Int)) := by
          rw [hown.cellAt k (by omega), HX.out k (Nat.le_refl _), bv_get bs k hlt]
        have hfr := hown.frozenAt k
        have HS := fun u => Lib.hid (hown.stored k u)
        have hx256 : bs[k].toNat < 256 := UInt8.toNat_lt _
        generalize bs[k].toNat = x at *
        clear hown
        go_wp2
        go_roundw
        case rel => 
          refine ⟨k + 1, _, by omega, by go_num, (HS _).out.1, fun j hj => ?_, HG.out.trans (HS _).out.2⟩
          rw [List.getElem?_set_ne (by omega)]
          exact HX.out j (by omega)
        case measure => simp [intOf]; omega
      · clear hown
        have hlx : ∀ g, Value.ownBlock (.slice Ax bs.length cx) = some g → w3.heap.size ≤ g := fun g hg => own_row HOX.out g hg
        have kr := HK4.out.grown HG.out (by omega) (fun g hg => by have := hlx g hg; omega)
        have HKR := Lib.hid kr
        have sr := kr.size
        have hrs := ((((Rd.own HOS.out).wide (Nat.zero_le _) (Nat.le_refl _)).below HB4.out (Nat.le_refl _)).grown HG.out s4 (fun g hg => .inr (hlx g hg)))
        have hr1 := (((((Rd.own HO.out).wide (Nat.zero_le _) (Nat.le_refl _)).below HB3.out (Nat.le_refl _)).below HB4.out s3).grown HG.out (by omega) (fun g hg => .inr (by have := hlx g hg; omega)))
        have sg := HG.out.size
        have HRS := Lib.hid hrs
        have HR1 := Lib.hid hr1
        clear kr hrs hr1
        go_wp2_with fail
        refine (open_seal bs HRS.out (by omega) (by omega)).mono ?_
        rintro r w5 ⟨Ay, cy, rfl, hoy, hb5⟩
        have HOY := Lib.hid hoy
        have HR5 := Lib.hid (HR1.out.below hb5 (by omega))
        have HK5 := Lib.hid (below_below HKR.out hb5 sr)
        clear hoy hb5
        go_wp2_with fail
        refine (same_any bs bs (Rd.own HOY.out) HR5.out).mono ?_
        rintro r w6 ⟨rfl, rfl⟩
        rw [decide_eq_true (rfl : bs = bs)]
        go_wp2_with fail
        refine (same_any bs bs (H.out.below HK5.out (Nat.le_refl _)) HR5.out).mono ?_
        rintro r w7 ⟨rfl, rfl⟩
        rw [decide_eq_true (rfl : bs = bs)]
        go_wp2
        go_ret
        exact ⟨rfl, HK5.out⟩
  · go_enter Try.func7, Try.ntmps7
    go_wp2_with fail
    refine (awake2_any _).mono ?_
    rintro r w1 ⟨rfl, hb1⟩
    have HB1 := Lib.hid hb1
    clear hb1
    go_wp2_with fail
    refine (awake2_any _).mono ?_
    rintro r w2 ⟨rfl, hb2⟩
    have HB2 := Lib.hid hb2
    clear hb2
    go_wp2
    go_ret
    exact ⟨rfl, below_below HB1.out HB2.out HB1.out.size⟩

set_option maxRecDepth 100000 in
theorem crcKeeps_lifted (os : Os) (started : os.Started) (H : Type) (enc : TypeId × Value → H) :
    ReturnsInHanded {} Try.checked os 7 .any (Rows.crcKeepsSpec.pre6 enc Try.prog Try.f7 Rows.crcKeepsRow.domain false) (Rows.crcKeepsSpec.post enc Try.prog Try.f7 false true false false) := by
  refine returnsInHanded_of_change (C := Try.checked) own started (by kernel_rfl) Try.func7
    (ChangeSpec.witness6 (enc := enc) (C := Try.checked) false ⟨#[], #[.slice none 0 0], []⟩ 8 (by kernel_rfl) (by kernel_rfl) (by kernel_rfl) (by kernel_rfl)) ?_
  intro W base args ds gs before hval0 hW hcnd _
  have hval : ∀ (j : Nat) t v, Try.f7.params[j]? = some t → args[j]? = some v → Value.okWide Try.prog W .any base t v := hval0
  have hW' := hW
  obtain ⟨p, q, hA0, hV, rfl, hfz, hnd⟩ := hW
  have hA : DataW.TrodAll enc Try.prog W 0 (fun _ => true) true Try.f7.params.toList args.toList ds p := hA0
  have hA1 : DataW.TrodAll enc Try.prog W 0 (fun _ => true) true Try.f7.params.toList args.toList ds p := hA0
  rw [Try.params7] at hA hval
  obtain ⟨v0, vs0, d0, ds0, p0, q0, hargs, rfl, rfl, h0, r0⟩ := trodAll_cons hA
  obtain ⟨rfl, rfl, rfl⟩ := trodAll_nil r0
  obtain rfl : args = #[v0] := by cases args; simp_all
  obtain ⟨rfl, rfl⟩ := trodVars_none hV
  obtain ⟨A0, a0, c0, rfl, w0⟩ := open_bytes Try.underlying22 Try.underlying5 (by kernel_rfl) (hval 0 22 v0 rfl rfl) h0
  clear hA0 hval0
  refine (crcKeeps_walk (w := W) w0).mono fun e W' ⟨he, bel⟩ => ?_
  subst he
  exact ⟨_, rfl, _, _, _, [], _, [], hW', trodAll_mk1 (shut_bool Try.underlying4 _), trodAll_below laidOut bel _ _ _ _ (by kernel_rfl) hA1, rfl, bel.frame _, fun h => by cases h⟩

theorem crcKeeps_over : Rows.crcKeepsRow.holds Try.pinned (OpenSpec.ofChange Rows.crcKeepsSpec) :=
  OpenClaim.holds_of_wide 7 Try.f7 rfl rfl rfl rfl rfl rfl rfl ⟨rfl, rfl, rfl, rfl, rfl⟩ rfl rfl rfl rfl rfl (by kernel_rfl) Try.func7 (by kernel_rfl)
    (of_decide_eq_true (by kernel_rfl)) (by unfold Func.isWrapper; first | (rw [if_pos (by decide +kernel)]; kernel_rfl) | (rw [if_neg (by decide +kernel)]; exact ⟨rfl, rfl⟩))
    (fun os started H enc _ => crcKeeps_lifted os started H enc)

/-- The statement. -/
theorem crcKeeps_proved : Rows.CrcKeepsSaid := crcKeeps_over


end Go.Proofs.Ytbbclcokmmhkoaa
