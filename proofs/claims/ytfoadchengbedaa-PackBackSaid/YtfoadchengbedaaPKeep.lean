/-
  Proved: PackKeeps returns true for every list of numbers, and leaves what was there as it was. No condition.
-/
import Derived.Test.YtfoadchengbedaaPPuts
import Derived.Test.YtfoadchengbedaaIntA
import Derived.Laws.BitsAll
namespace Go.Proofs.Ytfoadchengbedaa
set_option linter.unusedSimpArgs false
set_option linter.unusedVariables false
open Go.ChangeShapes Go.WideShapes Go.ChangeAt Go.RowKit

theorem ints_len {w : World} {lo h' lo2 h2 n m : Nat} {A B : Option Addr} {c d : Nat} (xs ys : List Int) (b : Bool) (hx : Rd w lo h' A c (iv xs)) (hy : Rd w lo2 h2 B d (iv ys)) (hn : xs.length = n) (hm : ys.length = m) (he : decide (xs = ys) = b) :
    Calls Try.prog 24 #[.slice A n c, .slice B m d] w fun r w' => r = .returned (.bool b) ∧ ∃ k, w.drewN k = w' := by
  subst hn hm he
  exact ints_any xs ys hx hy

set_option maxRecDepth 20000 in
set_option maxHeartbeats 1000000 in
theorem packKeeps_walk {w : World} {A : Option Addr} {zs : List Int} {c : Nat} (hz : Rd w 0 w.heap.size A c (iv zs) ∧ Word zs) :
    Calls Try.prog 8 #[.slice A zs.length c] w fun e w' => e = .returned (.bool true) ∧ Below w.heap.size w w' := by
  obtain ⟨h, hword⟩ := hz
  have hl := h.len
  have hc := h.cap
  rw [iv_length] at hl
  unfold maxLen at hc
  have H := Lib.hid h
  clear h hword
  by_cases h300 : zs.length ≤ 300
  · by_cases hmay : May zs
    · have HMB : Hid (mayB zs = true) := decide_eq_true hmay
      have HPP := fun (w1 : World) (h : Rd w1 0 w.heap.size A c (iv zs)) (hh : w.heap.size ≤ w1.heap.size) => Lib.hid (pwrite_yes (w := w1) zs hmay h hh (by omega))
      have HRP := fun (w1 : World) (A : Option Addr) (c h' : Nat) (h : Rd w1 0 h' A c (iv zs)) (hh : h' ≤ w1.heap.size) => Lib.hid (rwrite_any (w := w1) zs hmay h hh (by omega))
      have hpl := writeL_length hmay (by omega)
      generalize writeL zs = pk at *
      clear hmay
      go_enter Try.func8, Try.ntmps8
      go_wp2_with fail
      refine (awake3_any _).mono ?_
      rintro r w1 ⟨rfl, hb1⟩
      have K1 := Lib.hid hb1
      have s1 := hb1.size
      clear hb1
      go_wp2_with fail
      refine (may_is zs true HMB.out (H.out.below K1.out (Nat.le_refl _))).mono ?_
      rintro r w' ⟨rfl, rfl⟩
      obtain ⟨A2, c2, w2, hrun, hown, hg2⟩ := append_nums (w1.alloc (.cells #[] 3)) w1.heap.size (.slice (some ⟨w1.heap.size, 0, none⟩) 0 0) [] zs zs (by simp) (own_none w1 _) ((H.out.below K1.out (Nat.le_refl _)).alloc s1 _) (by simp; omega) (by simp)
      have k2 : Below w.heap.size w w2 := (K1.out.alloc s1 _).grown hg2 (by simp; omega) (by simp [Value.ownBlock]; omega)
      have HO2 := Lib.hid hown
      have K2 := Lib.hid k2
      have s2 := k2.size
      clear hown hg2 k2
      go_wp2_with (at_builtin; refine wpList_append_run rfl _ _ _ _ rfl rfl rfl hrun ?_)
      refine (HPP w2 (H.out.below K2.out (Nat.le_refl _)) s2).out.mono ?_
      rintro r w3 ⟨A3, c3, rfl, ho3, hb3⟩
      have HO3 := Lib.hid ho3
      have HW3 := Lib.hid (((Rd.own HO2.out).wide (Nat.zero_le _) (Nat.le_refl _)).below hb3 (Nat.le_refl _))
      have K3 := Lib.hid (below_below K2.out hb3 s2)
      have s3 := hb3.size
      clear ho3 hb3
      go_wp2_with fail
      go_loopw [6] (fun i wr => ∃ (k : Nat) (xs : List Value), k ≤ pk.length ∧ i = .int .i64 (k : Int) ∧ wr.ownsRow w2.heap.size 5 1 (.slice A3 pk.length c3) pk.length xs ∧ (∀ j, k ≤ j → xs[j]? = (bv pk)[j]?) ∧ w3.grownBy wr (Value.ownBlock (.slice A3 pk.length c3))) (fun i _ => pk.length - (intOf i).toNat)
      case atStart => exact ⟨0, _, Nat.zero_le _, rfl, HO3.out, fun _ _ => rfl, gb_refl _ _⟩
      case round =>
        obtain ⟨k, xs, hk, rfl, hown, hxs, hgr⟩ := hrel
        have HX := Lib.hid hxs
        have HG := Lib.hid hgr
        clear hxs hgr
        by_cases hlt : k < pk.length
        · obtain ⟨go, rfl, hgo, hgo2⟩ := own_spot hown (by omega)
          have hcell : wr.cell? ⟨go, k, none⟩ = some (.int .u8 (pk[k].toNat : Int)) := by
            rw [hown.cellAt k (by omega), HX.out k (Nat.le_refl _), bv_get pk k hlt]
          have hfr := hown.frozenAt k
          have HS := fun u => Lib.hid (hown.stored k u)
          have hx256 : pk[k].toNat < 256 := UInt8.toNat_lt _
          generalize pk[k].toNat = x at *
          clear hown
          go_wp2
          go_roundw
          case rel =>
            refine ⟨k + 1, _, by omega, by go_num, (HS _).out.1, fun j hj => ?_, HG.out.trans (HS _).out.2⟩
            rw [List.getElem?_set_ne (by omega)]
            exact HX.out j (by omega)
          case measure => simp [intOf]; omega
        · clear hown
          have hlx : ∀ g, Value.ownBlock (.slice A3 pk.length c3) = some g → w2.heap.size ≤ g := fun g hg => own_row HO3.out g hg
          have kr := K3.out.grown HG.out (by omega) (fun g hg => by have := hlx g hg; omega)
          have KR := Lib.hid kr
          have sr := kr.size
          have sg := HG.out.size
          have HWR := Lib.hid (HW3.out.grown HG.out (by omega) (fun g hg => .inr (hlx g hg)))
          clear kr
          go_wp2_with fail
          refine (HPP wr (H.out.below KR.out (Nat.le_refl _)) sr).out.mono ?_
          rintro r w4 ⟨A4, c4, rfl, ho4, hb4⟩
          have HO4 := Lib.hid ho4
          have HW4 := Lib.hid (HWR.out.below hb4 (by omega))
          have K4 := Lib.hid (below_below KR.out hb4 sr)
          have s4 := hb4.size
          clear ho4 hb4
          go_wp2_with fail
          refine (ints_len zs zs true (H.out.below K4.out (Nat.le_refl _)) HW4.out rfl rfl (decide_eq_true rfl)).mono ?_
          rintro r w5 ⟨rfl, n, rfl⟩
          go_wp2_with fail
          refine (HRP (w4.drewN n) A2 c2 w2.heap.size (HW4.out.drewN n) (by show w2.heap.size ≤ w4.heap.size; omega)).out.mono ?_
          rintro r w6 ⟨A6, c6, rfl, ho6, hb6⟩
          have HO6 := Lib.hid ho6
          have hb6' : Below w4.heap.size w4 w6 := below_below (below_drewN' (Below.refl w4.heap.size w4) n) hb6 (Nat.le_refl _)
          have HO46 := Lib.hid (own_below HO4.out hb6' (Nat.le_refl _))
          have K6 := Lib.hid (below_below K4.out hb6' (by omega))
          clear ho6 hb6 hb6'
          go_wp2_with fail
          refine (same_len pk pk true (Rd.own HO46.out) (Rd.own HO6.out) rfl rfl (decide_eq_true rfl)).mono ?_
          rintro r w' ⟨rfl, rfl⟩
          go_wp2
          go_ret
          exact ⟨rfl, K6.out⟩
    · have HMB : Hid (mayB zs = false) := decide_eq_false hmay
      clear hmay
      go_enter Try.func8, Try.ntmps8
      go_wp2_with fail
      refine (awake3_any _).mono ?_
      rintro r w1 ⟨rfl, hb1⟩
      have K1 := Lib.hid hb1
      have s1 := hb1.size
      clear hb1
      go_wp2_with fail
      refine (may_is zs false HMB.out (H.out.below K1.out (Nat.le_refl _))).mono ?_
      rintro r w' ⟨rfl, rfl⟩
      go_wp2_with fail
      refine (awake3_any _).mono ?_
      rintro r w2 ⟨rfl, hb2⟩
      have K2 := Lib.hid (below_below K1.out hb2 s1)
      clear hb2
      go_wp2
      go_ret
      exact ⟨rfl, K2.out⟩
  · go_enter Try.func8, Try.ntmps8
    go_wp2_with fail
    refine (awake3_any _).mono ?_
    rintro r w1 ⟨rfl, hb1⟩
    have HB1 := Lib.hid hb1
    clear hb1
    go_wp2_with fail
    refine (awake3_any _).mono ?_
    rintro r w2 ⟨rfl, hb2⟩
    have HB2 := Lib.hid hb2
    clear hb2
    go_wp2
    go_ret
    exact ⟨rfl, below_below HB1.out HB2.out HB1.out.size⟩

set_option maxRecDepth 100000 in
theorem packKeeps_lifted (os : Os) (started : os.Started) (H : Type) (enc : TypeId × Value → H) :
    ReturnsInHanded {} Try.checked os 8 .any (Rows.packKeepsSpec.pre6 enc Try.prog Try.f8 Rows.packKeepsRow.domain false) (Rows.packKeepsSpec.post enc Try.prog Try.f8 false true false false) := by
  refine returnsInHanded_of_change (C := Try.checked) own started (by kernel_rfl) Try.func8
    (ChangeSpec.witness6 (enc := enc) (C := Try.checked) false ⟨#[], #[.slice none 0 0], []⟩ 8 (by kernel_rfl) (by kernel_rfl) (by kernel_rfl) (by kernel_rfl)) ?_
  intro W base args ds gs before hval0 hW hcnd _
  have hval : ∀ (j : Nat) t v, Try.f8.params[j]? = some t → args[j]? = some v → Value.okWide Try.prog W .any base t v := hval0
  have hW' := hW
  obtain ⟨p, q, hA0, hV, rfl, hfz, hnd⟩ := hW
  have hA : DataW.TrodAll enc Try.prog W 0 (fun _ => true) true Try.f8.params.toList args.toList ds p := hA0
  have hA1 : DataW.TrodAll enc Try.prog W 0 (fun _ => true) true Try.f8.params.toList args.toList ds p := hA0
  rw [Try.params8] at hA hval
  obtain ⟨v0, vs0, d0, ds0, p0, q0, hargs, rfl, rfl, h0, r0⟩ := trodAll_cons hA
  obtain ⟨rfl, rfl, rfl⟩ := trodAll_nil r0
  obtain rfl : args = #[v0] := by cases args; simp_all
  obtain ⟨rfl, rfl⟩ := trodVars_none hV
  obtain ⟨A0, a0, c0, rfl, w0⟩ := open_i64s Try.underlying22 Try.underlying3 (by kernel_rfl) (hval 0 22 v0 rfl rfl) h0
  clear hA0 hval0
  refine (packKeeps_walk (w := W) w0).mono fun e W' ⟨he, bel⟩ => ?_
  subst he
  exact ⟨_, rfl, _, _, _, [], _, [], hW', trodAll_mk1 (shut_bool Try.underlying4 _), trodAll_below laidOut bel _ _ _ _ (by kernel_rfl) hA1, rfl, bel.frame _, fun h => by cases h⟩

theorem packKeeps_over : Rows.packKeepsRow.holds Try.pinned (OpenSpec.ofChange Rows.packKeepsSpec) :=
  OpenClaim.holds_of_wide 8 Try.f8 rfl rfl rfl rfl rfl rfl rfl ⟨rfl, rfl, rfl, rfl, rfl⟩ rfl rfl rfl rfl rfl (by kernel_rfl) Try.func8 (by kernel_rfl)
    (of_decide_eq_true (by kernel_rfl)) (by unfold Func.isWrapper; first | (rw [if_pos (by decide +kernel)]; kernel_rfl) | (rw [if_neg (by decide +kernel)]; exact ⟨rfl, rfl⟩))
    (fun os started H enc _ => packKeeps_lifted os started H enc)

/-- The statement. -/
theorem packKeeps_proved : Rows.PackKeepsSaid := packKeeps_over


end Go.Proofs.Ytfoadchengbedaa
