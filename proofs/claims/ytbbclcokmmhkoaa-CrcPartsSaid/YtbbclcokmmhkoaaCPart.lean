/-
  Proved: CrcParts returns true for every slice of bytes, every place and every turn, and leaves what was there as it was. No condition.
-/
import Derived.Test.YtbbclcokmmhkoaaCrcL
import Derived.Test.YtbbclcokmmhkoaaShell
namespace Go.Proofs.Ytbbclcokmmhkoaa
set_option linter.unusedSimpArgs false
set_option linter.unusedVariables false
open Go.ChangeShapes Go.WideShapes Go.ChangeAt Go.RowKit
open Go.ChangeMaps (open_string shut_string)

theorem u8_turn (x t : UInt8) : bits .xor .u8 (x.toNat : Int) (t.toNat : Int) = ((x ^^^ t).toNat : Int) := by
  rw [u8_xor_nat _ _ (UInt8.toNat_lt x) (UInt8.toNat_lt t), UInt8.toNat_xor]

theorem open_yes_len {w : World} {n : Nat} (bs : List UInt8) {h' : Nat} {A : Option Addr} {c : Nat} (h : Rd w 0 h' A c (bv bs)) (hh : h' ≤ w.heap.size) (hn : bs.length = n) (hs : sealedB bs = true) (hbig : bs.length ≤ 1000000000) :
    Calls Try.prog 14 #[.slice A n c] w fun r w' => ∃ A' c' m, r = .returned (.tuple #[.slice A' m c', .bool true]) ∧ Below w.heap.size w w' := by
  subst hn
  refine (open_yes bs h hh hs hbig).mono ?_
  rintro r w' ⟨A', c', rfl, _, hb⟩
  exact ⟨A', c', _, rfl, hb⟩
theorem open_no_len {w : World} {n : Nat} (bs : List UInt8) {h' : Nat} {A : Option Addr} {c : Nat} (h : Rd w 0 h' A c (bv bs)) (hh : h' ≤ w.heap.size) (hn : bs.length = n) (h4 : 4 ≤ bs.length) (hs : sealedB bs = false) :
    Calls Try.prog 14 #[.slice A n c] w fun r w' => r = .returned (.tuple #[.slice none 0 0, .bool false]) ∧ Below w.heap.size w w' := by
  subst hn
  exact open_no bs h hh h4 hs
theorem bv_set (l : List UInt8) (k : Nat) (y : UInt8) : bv (l.set k y) = (bv l).set k (.int .u8 (y.toNat : Int)) := by
  simp [bv, List.map_set]

set_option maxRecDepth 20000 in
theorem crcParts_walk {w : World} {A : Option Addr} {bs : List UInt8} {c : Nat} (h : Rd w 0 w.heap.size A c (bv bs)) (p : Nat) (hp : p < 65536) (t : UInt8) :
    Calls Try.prog 5 #[.slice A bs.length c, .int .u16 (p : Int), .int .u8 (t.toNat : Int)] w fun e w' => e = .returned (.bool true) ∧ Below w.heap.size w w' := by
  have hl := h.len
  have hc := h.cap
  rw [bv_length] at hl
  unfold maxLen at hc
  have H := Lib.hid h
  clear h
  by_cases h5 : bs.length ≤ 2000
  · go_enter Try.func5, Try.ntmps5
    go_wp2_with fail
    refine (awake2_any _).mono ?_
    rintro r w1 ⟨rfl, hb1⟩
    have HK1 := Lib.hid hb1
    have s1 := hb1.size
    clear hb1
    go_wp2_with fail
    refine (Seal_any bs (H.out.below HK1.out (Nat.le_refl _)) s1 (by omega)).mono ?_
    rintro r w2 ⟨A2, c2, rfl, ho2, hb2⟩
    have HO2 := Lib.hid ho2
    have HK2 := Lib.hid (below_below HK1.out hb2 s1)
    have s2 := HK2.out.size
    have z2 := hb2.size
    clear ho2 hb2
    go_wp2_with fail
    refine (open_seal bs ((Rd.own HO2.out).wide (Nat.zero_le _) (Nat.le_refl _)) (Nat.le_refl _) (by omega)).mono ?_
    rintro r w3 ⟨A3, c3, rfl, ho3, hb3⟩
    have HO3 := Lib.hid ho3
    have HO23 := Lib.hid (own_below HO2.out hb3 (Nat.le_refl _))
    have HK3 := Lib.hid (below_below HK2.out hb3 s2)
    have s3 := HK3.out.size
    have z3 := hb3.size
    clear ho3 hb3
    go_wp2_with fail
    refine (same_any bs bs (Rd.own HO3.out) (H.out.below HK3.out (Nat.le_refl _))).mono ?_
    rintro r w4 ⟨rfl, rfl⟩
    rw [decide_eq_true (rfl : bs = bs)]
    have hsl := sealL_length bs
    have h1 : (0 : Int) < ((sealL bs).length : Int) := by omega
    have h2 : ((sealL bs).length : Int) ≤ 3000 := by omega
    obtain ⟨k, hmod, hk⟩ : ∃ k : Nat, (p : Int) % ((sealL bs).length : Int) = (k : Int) ∧ k < (sealL bs).length :=
      ⟨p % (sealL bs).length, by omega, Nat.mod_lt _ (by omega)⟩
    have hk0 : (0 : Int) ≤ (k : Int) := by omega
    have hk1 : (k : Int) < ((sealL bs).length : Int) := by omega
    have hset := sealedB_set hk ((sealL bs)[k] ^^^ t)
    have hself := u8_xor_self (sealL bs)[k] t
    have hown := HO23.out
    obtain ⟨g, rfl, hg, hg2⟩ := own_spot hown (by omega)
    have hcell : w3.cell? ⟨g, k, none⟩ = some (.int .u8 ((sealL bs)[k].toNat : Int)) := by
      rw [hown.cellAt k (by omega), bv_get _ k hk]
    have hfr := hown.frozenAt k
    have hst := hown.stored k (.int .u8 (((sealL bs)[k] ^^^ t).toNat : Int))
    rw [← bv_set] at hst
    have hlen : ((sealL bs).set k ((sealL bs)[k] ^^^ t)).length = (sealL bs).length := List.length_set
    have h4 : 4 ≤ ((sealL bs).set k ((sealL bs)[k] ^^^ t)).length := by rw [hlen]; omega
    have hx := UInt8.toNat_lt (sealL bs)[k]
    have ht := UInt8.toNat_lt t
    have hturn := u8_turn (sealL bs)[k] t
    have HST := Lib.hid hst
    have HSET := Lib.hid hset
    have HSELF := Lib.hid hself
    have HLEN := Lib.hid hlen
    have H4 := Lib.hid h4
    have sg := hst.2.size
    clear hst hset hself hlen h4 hown hsl
    have hcase : (t = 0 ∧ t.toNat = 0) ∨ (t ≠ 0 ∧ 0 < t.toNat) := by
      by_cases h0 : t = 0
      · exact .inl ⟨h0, by rw [h0]; rfl⟩
      · refine .inr ⟨h0, ?_⟩
        rcases Nat.eq_zero_or_pos t.toNat with h1 | h1
        · exact absurd (UInt8.toNat_inj.1 (h1.trans rfl)) h0
        · exact h1
    generalize (sealL bs)[k] = x at *
    generalize hy : x ^^^ t = y at *
    clear hy
    have hy256 := UInt8.toNat_lt y
    rcases hcase with ⟨h0, h00⟩ | ⟨h0, h00⟩
    · have HS2 : Hid (sealedB ((sealL bs).set k y) = true) := by
        unfold Hid
        rw [HSET.out]
        exact decide_eq_true (HSELF.out.2 h0)
      clear h0
      generalize t.toNat = tv at *
      subst h00
      have hturn0 : bits .xor .u8 (x.toNat : Int) 0 = (y.toNat : Int) := hturn
      clear hturn
      go_wp2_with fail
      refine (open_yes_len ((sealL bs).set k y) ((Rd.own HST.out.1).wide (Nat.zero_le _) (Nat.le_refl _)) (Nat.le_refl _) HLEN.out HS2.out (by have := HLEN.out; omega)).mono ?_
      rintro r w5 ⟨A5, c5, m5, rfl, hb5⟩
      have k5 := below_below (below_some HK3.out HST.out.2 s3 (by omega)) hb5 (Nat.le_trans s3 sg)
      have HK5 := Lib.hid k5
      clear hb5 k5
      go_wp2
      go_ret
      exact ⟨rfl, HK5.out⟩
    · have HS2 : Hid (sealedB ((sealL bs).set k y) = false) := by
        unfold Hid
        rw [HSET.out]
        exact decide_eq_false (fun h => h0 (HSELF.out.1 h))
      clear h0
      generalize t.toNat = tv at *
      have h01 : (0 : Int) < (tv : Int) := by omega
      have h02 : ((tv : Int) == 0) = false := by simp; omega
      go_wp2_with fail
      refine (open_no_len ((sealL bs).set k y) ((Rd.own HST.out.1).wide (Nat.zero_le _) (Nat.le_refl _)) (Nat.le_refl _) HLEN.out H4.out HS2.out).mono ?_
      rintro r w5 ⟨rfl, hb5⟩
      have k5 := below_below (below_some HK3.out HST.out.2 s3 (by omega)) hb5 (Nat.le_trans s3 sg)
      have HK5 := Lib.hid k5
      clear hb5 k5
      go_wp2
      go_ret
      exact ⟨rfl, HK5.out⟩
  · go_enter Try.func5, Try.ntmps5
    go_wp2_with fail
    refine (awake2_any _).mono ?_
    rintro r w1 ⟨rfl, hb1⟩
    have HB1 := Lib.hid hb1
    clear hb1
    go_wp2_with fail
    refine (awake2_any _).mono ?_
    rintro r w2 ⟨rfl, hb2⟩
    have HB2 := Lib.hid hb2
    clear hb2
    go_wp2
    go_ret
    exact ⟨rfl, below_below HB1.out HB2.out HB1.out.size⟩

set_option maxRecDepth 100000 in
theorem crcParts_lifted (os : Os) (started : os.Started) (H : Type) (enc : TypeId × Value → H) :
    ReturnsInHanded {} Try.checked os 5 .any (Rows.crcPartsSpec.pre6 enc Try.prog Try.f5 Rows.crcPartsRow.domain false) (Rows.crcPartsSpec.post enc Try.prog Try.f5 false true false false) := by
  refine returnsInHanded_of_change (C := Try.checked) own started (by kernel_rfl) Try.func5
    (ChangeSpec.witness6 (enc := enc) (C := Try.checked) false ⟨#[], #[.slice none 0 0, .int .u16 0, .int .u8 0], []⟩ 8 (by kernel_rfl) (by kernel_rfl) (by kernel_rfl) (by kernel_rfl)) ?_
  intro W base args ds gs before hval0 hW hcnd _
  have hval : ∀ (j : Nat) t v, Try.f5.params[j]? = some t → args[j]? = some v → Value.okWide Try.prog W .any base t v := hval0
  have hW' := hW
  obtain ⟨p, q, hA0, hV, rfl, hfz, hnd⟩ := hW
  have hA : DataW.TrodAll enc Try.prog W 0 (fun _ => true) true Try.f5.params.toList args.toList ds p := hA0
  have hA1 : DataW.TrodAll enc Try.prog W 0 (fun _ => true) true Try.f5.params.toList args.toList ds p := hA0
  rw [Try.params5] at hA hval
  obtain ⟨v0, vs0, d0, ds0, p0, q0, hargs, rfl, rfl, h0, r0⟩ := trodAll_cons hA
  obtain ⟨v1, vs1, d1, ds1, p1, q1, rfl, rfl, rfl, h1, r1⟩ := trodAll_cons r0
  obtain ⟨v2, vs2, d2, ds2, p2, q2, rfl, rfl, rfl, h2, r2⟩ := trodAll_cons r1
  obtain ⟨rfl, rfl, rfl⟩ := trodAll_nil r2
  obtain rfl : args = #[v0, v1, v2] := by cases args; simp_all
  obtain ⟨rfl, rfl⟩ := trodVars_none hV
  obtain ⟨A0, a0, c0, rfl, w0⟩ := open_bytes Try.underlying22 Try.underlying5 (by kernel_rfl) (hval 0 22 v0 rfl rfl) h0
  obtain ⟨a1, rfl, rfl, rfl, w1⟩ := open_int Try.underlying33 (hval 1 33 v1 rfl rfl) h1
  obtain ⟨b1, rfl, l1⟩ := u16_of_wf w1
  obtain ⟨a2, rfl, rfl, rfl, w2⟩ := open_int Try.underlying5 (hval 2 5 v2 rfl rfl) h2
  obtain ⟨b2, rfl⟩ := u8_of_wf w2
  clear hA0 hval0
  refine (crcParts_walk (w := W) w0 b1 l1 b2).mono fun e W' ⟨he, bel⟩ => ?_
  subst he
  exact ⟨_, rfl, _, _, _, [], _, [], hW', trodAll_mk1 (shut_bool Try.underlying4 _), trodAll_below laidOut bel _ _ _ _ (by kernel_rfl) hA1, rfl, bel.frame _, fun h => by cases h⟩

theorem crcParts_over : Rows.crcPartsRow.holds Try.pinned (OpenSpec.ofChange Rows.crcPartsSpec) :=
  OpenClaim.holds_of_wide 5 Try.f5 rfl rfl rfl rfl rfl rfl rfl ⟨rfl, rfl, rfl, rfl, rfl⟩ rfl rfl rfl rfl rfl (by kernel_rfl) Try.func5 (by kernel_rfl)
    (of_decide_eq_true (by kernel_rfl)) (by unfold Func.isWrapper; first | (rw [if_pos (by decide +kernel)]; kernel_rfl) | (rw [if_neg (by decide +kernel)]; exact ⟨rfl, rfl⟩))
    (fun os started H enc _ => crcParts_lifted os started H enc)

/-- The statement. -/
theorem crcParts_proved : Rows.CrcPartsSaid := crcParts_over


end Go.Proofs.Ytbbclcokmmhkoaa
