/-
  Proved: CursorKeeps returns true for every slice of bytes, and leaves what was there as it was. No condition.
-/
import Derived.Test.YtdlpladdofjcfaaLawA
import Derived.Test.YtdlpladdofjcfaaShell
namespace Go.Proofs.Ytdlpladdofjcfaa
open Go.ChangeShapes Go.WideShapes Go.ChangeAt Go.RowKit
open Go.ChangeMaps (open_string shut_string)

theorem own_spot {w : World} {base n c : Nat} {A : Option Addr} {e : TypeId} {xs : List Value} (h : w.ownsRow base e 1 (.slice A n c) n xs) (hn : 0 < n) : ∃ g, A = some ⟨g, 0, none⟩ ∧ base ≤ g ∧ g < w.heap.size := by
  rcases h.2 with ⟨h1, h2⟩ | ⟨g, cap, cur, hv, hb, hg, _⟩
  · omega
  · injection hv with hv
    exact ⟨g, hv, hb, (Array.getElem?_eq_some_iff.1 hg).1⟩

theorem takeR_all (bs : List UInt8) : takeR bs 0 0 0 (bs.length : Int) = (bs, bs.length, 0) := by
  have h : ¬ ((bs.length : Int) < 0) := by omega
  simp [takeR, h]
theorem own_row {w : World} {base n : Nat} {e : TypeId} {size : Nat} {v : Value} {xs : List Value} (h : w.ownsRow base e size v n xs) : ∀ k, v.ownBlock = some k → base ≤ k := fun k hk => (h.lt k hk).1

set_option maxRecDepth 20000 in
theorem cursorKeeps_walk {w : World} {A : Option Addr} {bs : List UInt8} {c : Nat} (h : Rd w 0 w.heap.size A c (bv bs)) :
    Calls Try.prog 6 #[.slice A bs.length c] w fun e w' => e = .returned (.bool true) ∧ Below w.heap.size w w' := by
  have hl := h.len
  have hc := h.cap
  rw [bv_length] at hl
  unfold maxLen at hc
  have H := Lib.hid h
  clear h
  by_cases h5 : bs.length ≤ 500
  · go_enter Try.func6, Try.ntmps6
    go_wp2_with fail
    refine (awake_any _).mono ?_
    rintro r w1 ⟨rfl, hb1⟩
    have HB1 := Lib.hid hb1
    have s1 := hb1.size
    clear hb1
    obtain ⟨A1, c1, w2, hrun, hown, hg2⟩ := append_bytes (w1.alloc (.cells #[] 5)) w1.heap.size (.slice (some ⟨w1.heap.size, 0, none⟩) 0 0) [] bs (own_lit w1 [] #[] rfl (by simp)) ((H.out.below HB1.out (Nat.le_refl _)).alloc s1 _) (by simp; omega) (by simp)
    simp only [List.length_nil, Nat.zero_add, List.nil_append] at hrun hown
    have k2 : Below w.heap.size w w2 := (HB1.out.alloc s1 _).grown hg2 (by simp; omega) (by simp [Value.ownBlock]; omega)
    have HO := Lib.hid hown
    have HK2 := Lib.hid k2
    have s2 := k2.size
    clear hown hg2 k2
    go_wp2_with (at_builtin; refine wpList_append_run rfl _ _ _ _ rfl rfl rfl hrun ?_)
    refine (new_any bs _ (Rd.own HO.out) (by omega)).mono ?_
    rintro r w3 ⟨g, rfl, hc3, hb3⟩
    have HC3 := Lib.hid hc3
    have HB3 := Lib.hid hb3
    have s3 := hb3.size
    have HO3 := Lib.hid (own_below HO.out hb3 (Nat.le_refl _))
    have l3 := hc3.base
    have g3 := hc3.lt
    clear hc3 hb3
    go_wp2_with fail
    go_loopw [5] (fun i wr => ∃ (k : Nat) (xs : List Value), k ≤ bs.length ∧ i = .int .i64 (k : Int) ∧ wr.ownsRow w1.heap.size 5 1 (.slice A1 bs.length c1) bs.length xs ∧ (∀ j, k ≤ j → xs[j]? = (bv bs)[j]?) ∧ w3.grownBy wr (Value.ownBlock (.slice A1 bs.length c1))) (fun i _ => bs.length - (intOf i).toNat)
    case atStart => exact ⟨0, _, Nat.zero_le _, rfl, HO3.out, fun _ _ => rfl, gb_refl _ _⟩
    case round =>
      obtain ⟨k, xs, hk, rfl, hown, hxs, hgr⟩ := hrel
      have HOR := Lib.hid hown
      have HX := Lib.hid hxs
      have HG := Lib.hid hgr
      clear hxs hgr
      by_cases hlt : k < bs.length
      · obtain ⟨go, rfl, hgo, hgo2⟩ := own_spot hown (by omega)
        have hcell : wr.cell? ⟨go, k, none⟩ = some (.int .u8 (bs[k].toNat : Int)) := by
          rw [hown.cellAt k (by omega), HX.out k (Nat.le_refl _), bv_get bs k hlt]
        have hfr := hown.frozenAt k
        have HS := fun u => Lib.hid (hown.stored k u)
        have hx256 : bs[k].toNat < 256 := UInt8.toNat_lt _
        generalize bs[k].toNat = x at *
        clear hown
        go_wp2
        go_roundw
        case rel => 
          refine ⟨k + 1, _, by omega, by go_num, (HS _).out.1, fun j hj => ?_, HG.out.trans (HS _).out.2⟩
          rw [List.getElem?_set_ne (by omega)]
          exact HX.out j (by omega)
        case measure => simp [intOf]; omega
      · clear hown
        have hcr := HC3.out.grown HG.out (fun x hx => .inl (HO.out.lt x hx).2)
        have kr : Below w.heap.size w wr := ((HK2.out.trans (HB3.out.mono s2))).grown HG.out (by omega) (fun x hx => by have := own_row HO.out x hx; omega)
        have HCR := Lib.hid hcr
        have HKR := Lib.hid kr
        have sr := kr.size
        clear hcr kr
        go_wp2_with fail
        refine (bytes_any (bs.length : Int) HCR.out (by omega)).mono ?_
        rw [takeR_all]
        rintro r w4 ⟨A4, c4, rfl, ho4, hc4, hg4⟩
        have HO4 := Lib.hid ho4
        have k4 := below_some HKR.out hg4 sr (by omega)
        have HK4 := Lib.hid k4
        have s4 := k4.size
        have s4' := hg4.size
        clear ho4 hc4 hg4 k4
        go_wp2_with fail
        refine (same_any bs bs (Rd.own HO4.out) (H.out.below HK4.out (Nat.le_refl _))).mono ?_
        rintro r w5 ⟨rfl, rfl⟩
        rw [decide_eq_true (rfl : bs = bs)]
        go_wp2_with fail
        go_loopw [8] (fun i wq => ∃ (k : Nat) (xs : List Value), k ≤ bs.length ∧ i = .int .i64 (k : Int) ∧ wq.ownsRow wr.heap.size 5 1 (.slice A4 bs.length c4) bs.length xs ∧ w4.grownBy wq (Value.ownBlock (.slice A4 bs.length c4))) (fun i _ => bs.length - (intOf i).toNat)
        case atStart => exact ⟨0, _, Nat.zero_le _, rfl, HO4.out, gb_refl _ _⟩
        case round =>
          obtain ⟨k, xs, hk, rfl, hown, hgr⟩ := hrel
          have HOQ := Lib.hid hown
          have HGQ := Lib.hid hgr
          clear hgr
          by_cases hlt : k < bs.length
          · obtain ⟨gp, rfl, hgp, hgp2⟩ := own_spot hown (by omega)
            obtain ⟨v0, hcell⟩ : ∃ v0, wr.cell? ⟨gp, k, none⟩ = some v0 := by
              have hxl := hown.1
              exact ⟨xs[k]'(by omega), by rw [hown.cellAt k (by omega), List.getElem?_eq_getElem]⟩
            have hfr := hown.frozenAt k
            have HS := fun u => Lib.hid (hown.stored k u)
            clear hown
            go_wp2
            go_roundw
            case rel => exact ⟨k + 1, _, by omega, by go_num, (HS _).out.1, HGQ.out.trans (HS _).out.2⟩
            case measure => simp [intOf]; omega
          · clear hown
            have kq := HK4.out.grown HGQ.out s4 (fun x hx => by have := own_row HO4.out x hx; omega)
            have HKQ := Lib.hid kq
            have sq := kq.size
            clear kq
            go_wp2_with fail
            refine (new_any bs _ (H.out.below HKQ.out (Nat.le_refl _)) (by omega)).mono ?_
            rintro r w6 ⟨gd, rfl, hc6, hb6⟩
            have HC6 := Lib.hid hc6
            have k6 := below_below HKQ.out hb6 sq
            have HK6 := Lib.hid k6
            have s6 := k6.size
            have l6 := hc6.base
            clear hc6 hb6 k6
            go_wp2_with fail
            refine (bytes_any (bs.length : Int) HC6.out (by omega)).mono ?_
            rw [takeR_all]
            rintro r w7 ⟨A7, c7, rfl, ho7, hc7, hg7⟩
            have HO7 := Lib.hid ho7
            have k7 := below_some HK6.out hg7 s6 (by omega)
            have HK7 := Lib.hid k7
            clear ho7 hc7 hg7 k7
            go_wp2_with fail
            refine (same_any bs bs (Rd.own HO7.out) (H.out.below HK7.out (Nat.le_refl _))).mono ?_
            rintro r w8 ⟨rfl, rfl⟩
            rw [decide_eq_true (rfl : bs = bs)]
            go_wp2
            go_ret
            exact ⟨rfl, HK7.out⟩
  · go_enter Try.func6, Try.ntmps6
    go_wp2_with fail
    refine (awake_any _).mono ?_
    rintro r w1 ⟨rfl, hb1⟩
    have HB1 := Lib.hid hb1
    clear hb1
    go_wp2_with fail
    refine (awake_any _).mono ?_
    rintro r w2 ⟨rfl, hb2⟩
    have HB2 := Lib.hid hb2
    clear hb2
    go_wp2
    go_ret
    exact ⟨rfl, below_below HB1.out HB2.out HB1.out.size⟩

set_option maxRecDepth 100000 in
theorem cursorKeeps_lifted (os : Os) (started : os.Started) (H : Type) (enc : TypeId × Value → H) :
    ReturnsInHanded {} Try.checked os 6 .any (Rows.cursorKeepsSpec.pre6 enc Try.prog Try.f6 Rows.cursorKeepsRow.domain false) (Rows.cursorKeepsSpec.post enc Try.prog Try.f6 false true false false) := by
  refine returnsInHanded_of_change (C := Try.checked) own started (by kernel_rfl) Try.func6
    (ChangeSpec.witness6 (enc := enc) (C := Try.checked) false ⟨#[], #[.slice none 0 0], []⟩ 8 (by kernel_rfl) (by kernel_rfl) (by kernel_rfl) (by kernel_rfl)) ?_
  intro W base args ds gs before hval0 hW hcnd _
  have hval : ∀ (j : Nat) t v, Try.f6.params[j]? = some t → args[j]? = some v → Value.okWide Try.prog W .any base t v := hval0
  have hW' := hW
  obtain ⟨p, q, hA0, hV, rfl, hfz, hnd⟩ := hW
  have hA : DataW.TrodAll enc Try.prog W 0 (fun _ => true) true Try.f6.params.toList args.toList ds p := hA0
  have hA1 : DataW.TrodAll enc Try.prog W 0 (fun _ => true) true Try.f6.params.toList args.toList ds p := hA0
  rw [Try.params6] at hA hval
  obtain ⟨v0, vs0, d0, ds0, p0, q0, hargs, rfl, rfl, h0, r0⟩ := trodAll_cons hA
  obtain ⟨rfl, rfl, rfl⟩ := trodAll_nil r0
  obtain rfl : args = #[v0] := by cases args; simp_all
  obtain ⟨rfl, rfl⟩ := trodVars_none hV
  obtain ⟨A0, a0, c0, rfl, w0⟩ := open_bytes Try.underlying24 Try.underlying5 (by kernel_rfl) (hval 0 24 v0 rfl rfl) h0
  clear hA0 hval0
  refine (cursorKeeps_walk (w := W) w0).mono fun e W' ⟨he, bel⟩ => ?_
  subst he
  exact ⟨_, rfl, _, _, _, [], _, [], hW', trodAll_mk1 (shut_bool Try.underlying4 _), trodAll_below laidOut bel _ _ _ _ (by kernel_rfl) hA1, rfl, bel.frame _, fun h => by cases h⟩

theorem cursorKeeps_over : Rows.cursorKeepsRow.holds Try.pinned (OpenSpec.ofChange Rows.cursorKeepsSpec) :=
  OpenClaim.holds_of_wide 6 Try.f6 rfl rfl rfl rfl rfl rfl rfl ⟨rfl, rfl, rfl, rfl, rfl⟩ rfl rfl rfl rfl rfl (by kernel_rfl) Try.func6 (by kernel_rfl)
    (of_decide_eq_true (by kernel_rfl)) (by unfold Func.isWrapper; first | (rw [if_pos (by decide +kernel)]; kernel_rfl) | (rw [if_neg (by decide +kernel)]; exact ⟨rfl, rfl⟩))
    (fun os started H enc _ => cursorKeeps_lifted os started H enc)

/-- The statement. -/
theorem cursorKeeps_proved : Rows.CursorKeepsSaid := cursorKeeps_over

end Go.Proofs.Ytdlpladdofjcfaa
