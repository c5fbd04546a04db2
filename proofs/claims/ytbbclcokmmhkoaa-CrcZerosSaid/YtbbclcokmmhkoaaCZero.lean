/-
  Proved: CrcZeros returns true for every two slices of bytes and every two bytes, and leaves what was there as it was. No condition.
-/
import Derived.Test.YtbbclcokmmhkoaaCrcL
import Derived.Test.YtbbclcokmmhkoaaShell
namespace Go.Proofs.Ytbbclcokmmhkoaa
set_option linter.unusedSimpArgs false
set_option linter.unusedVariables false
open Go.ChangeShapes Go.WideShapes Go.ChangeAt Go.RowKit
open Go.ChangeMaps (open_string shut_string)

/-- the sum of two parts -/
theorem of_two {w : World} {g n m : Nat} (xs bs l : List UInt8) {A B : Option Addr} {c d : Nat} (h : Rd w 0 w.heap.size A c (bv xs)) (h2 : Rd w 0 w.heap.size B d (bv bs)) (hg : w.heap.size = g) (hn : xs.length = n) (hm : bs.length = m) (hl : xs ++ bs = l) :
    Calls Try.prog 9 #[.slice (some ⟨g, 0, none⟩) 2 2] (w.alloc (.cells #[.slice A n c, .slice B m d] 22)) fun r w' => r = .returned (.int .u32 (bn (crcL l))) ∧ Below w.heap.size w w' := by
  subst hg hn hm hl
  refine (of_any (w := w.alloc (.cells #[.slice A xs.length c, .slice B bs.length d] 22)) [⟨A, c, xs⟩, ⟨B, d, bs⟩] (rd_lit w 22 #[.slice A xs.length c, .slice B bs.length d] (by simp)) (by simp) ?_).mono ?_
  · intro p hp
    have hp' : p = ⟨A, c, xs⟩ ∨ p = ⟨B, d, bs⟩ := by simpa using hp
    rcases hp' with rfl | rfl
    · exact (h.alloc (Nat.le_refl _) _).wide (Nat.le_refl _) (by simp)
    · exact (h2.alloc (Nat.le_refl _) _).wide (Nat.le_refl _) (by simp)
  · rintro r w' ⟨rfl, hb⟩
    refine ⟨ret_int' (by simp [partsL]), ?_⟩
    exact below_below ((Below.refl _ _).alloc (Nat.le_refl _) _) hb (by simp)

/-- bytes and one more, in memory of the call's own -/
theorem one_more (w : World) (xs l : List UInt8) (x : UInt8) {A : Option Addr} {c : Nat} (h : Rd w 0 w.heap.size A c (bv xs)) (hl : xs ++ [x] = l) (hb : xs.length ≤ 1000) :
    ∃ A1 c1 w1 A2 c2 w2, (Builtin.append_ #[22, 22] 22 #[.slice (some ⟨w.heap.size, 0, none⟩) 0 0, .slice A xs.length c]).run Try.prog (w.alloc (.cells #[] 5)) = .ok (.slice A1 xs.length c1) w1 ∧
      (Builtin.append_ #[22, 22] 22 #[.slice A1 xs.length c1, .slice (some ⟨w1.heap.size, 0, none⟩) 1 1]).run Try.prog (w1.alloc (.cells #[.int .u8 (x.toNat : Int)] 5)) = .ok (.slice A2 l.length c2) w2 ∧
      w2.ownsRow w.heap.size 5 1 (.slice A2 l.length c2) l.length (bv l) ∧ Below w.heap.size w w2 := by
  obtain ⟨A1, c1, w1, hrun1, hown1, hg1⟩ := append_named (w.alloc (.cells #[] 5)) w.heap.size (.slice (some ⟨w.heap.size, 0, none⟩) 0 0) [] xs xs (by simp) (own_lit w [] #[] rfl (by simp)) (h.alloc (Nat.le_refl _) _) (by simp; omega) (by simp)
  have k1 : Below w.heap.size w w1 := ((Below.refl _ _).alloc (Nat.le_refl _) _).grown hg1 (by simp) (by simp [Value.ownBlock])
  have s1 := k1.size
  have h1 := own_lit w1 [x] #[.int .u8 (x.toNat : Int)] rfl (by simp)
  obtain ⟨A2, c2, w2, hrun2, hown2, hg2⟩ := append_named (w1.alloc (.cells #[.int .u8 (x.toNat : Int)] 5)) w.heap.size _ xs [x] l hl (hown1.alloc _) (Rd.own h1) (by simp; omega) (by simp; omega)
  exact ⟨A1, c1, w1, A2, c2, w2, hrun1, hrun2, hown2, (k1.alloc s1 _).grown hg2 (by simp; omega) (fun g hg => own_row hown1 g hg)⟩

set_option maxRecDepth 20000 in
set_option maxHeartbeats 4000000 in
theorem crcZeros_walk {w : World} {A : Option Addr} {xs : List UInt8} {c : Nat} (h : Rd w 0 w.heap.size A c (bv xs)) {B : Option Addr} {bs : List UInt8} {d : Nat} (h2 : Rd w 0 w.heap.size B d (bv bs)) (x y : UInt8) :
    Calls Try.prog 6 #[.slice A xs.length c, .slice B bs.length d, .int .u8 (x.toNat : Int), .int .u8 (y.toNat : Int)] w fun r w' => r = .returned (.bool true) ∧ Below w.heap.size w w' := by
  have hl := h.len
  have hc := h.cap
  have hl2 := h2.len
  have hc2 := h2.cap
  rw [bv_length] at hl hl2
  unfold maxLen at hc hc2
  have H := Lib.hid h
  have H2 := Lib.hid h2
  clear h h2
  by_cases ha : xs.length ≤ 1000
  · by_cases hb : bs.length ≤ 1000
    · go_enter Try.func6, Try.ntmps6
      go_wp2_with fail
      refine (awake2_any _).mono ?_
      rintro r w1 ⟨rfl, hb1⟩
      have HK1 := Lib.hid hb1
      have s1 := hb1.size
      clear hb1
      obtain ⟨l1, hl1⟩ : ∃ l1, xs ++ [x] = l1 := ⟨_, rfl⟩
      obtain ⟨l2, hl2⟩ : ∃ l2, xs ++ [y] = l2 := ⟨_, rfl⟩
      obtain ⟨A1, c1, w2, A2, c2, w3, hrun1, hrun2, hown2, hk2⟩ := one_more w1 xs l1 x ((H.out.below HK1.out (Nat.le_refl _)).wide (Nat.le_refl _) s1) hl1 ha
      have k3 := below_below HK1.out hk2 s1
      have s3 := k3.size
      obtain ⟨A3, c3, w4, A4, c4, w5, hrun3, hrun4, hown4, hk4⟩ := one_more w3 xs l2 y ((H.out.below k3 (Nat.le_refl _)).wide (Nat.le_refl _) s3) hl2 ha
      have k5 := below_below k3 hk4 s3
      have HK5 := Lib.hid k5
      have s5 := k5.size
      have HO1 := Lib.hid (own_below hown2 hk4 (Nat.le_refl _))
      have HO2 := Lib.hid hown4
      have z5 := hk4.size
      obtain ⟨m1, hm1⟩ : ∃ m1, l1 ++ bs = m1 := ⟨_, rfl⟩
      obtain ⟨m2, hm2⟩ : ∃ m2, l2 ++ bs = m2 := ⟨_, rfl⟩
      have hiff : bn (crcL m1) = bn (crcL m2) ↔ x.toNat = y.toNat := by
        rw [← hm1, ← hm2, ← hl1, ← hl2]
        have hinj := crcL_inj_at xs bs x y
        constructor
        · intro q
          rw [hinj.1 (bn_inj q)]
        · intro q
          rw [show x = y from UInt8.toNat_inj.1 q]
      have HF := Lib.hid hiff
      have HM1 := Lib.hid hm1
      have HM2 := Lib.hid hm2
      clear hiff hm1 hm2
      have HL1 := Lib.hid hl1
      have HL2 := Lib.hid hl2
      clear hown2 hk2 k3 hown4 hk4 k5 hl1 hl2
      go_wp2_with (at_builtin; refine wpList_append_run rfl _ _ _ _ rfl rfl rfl hrun1 ?_; refine held ?_)
      refine ⟨?_⟩
      clear hrun1
      go_wp2_with (at_builtin; refine wpList_append_run rfl _ _ _ _ rfl rfl rfl hrun2 ?_; refine held ?_)
      refine ⟨?_⟩
      clear hrun2
      go_wp2_with (at_builtin; refine wpList_append_run rfl _ _ _ _ rfl rfl rfl hrun3 ?_; refine held ?_)
      refine ⟨?_⟩
      clear hrun3
      go_wp2_with (at_builtin; refine wpList_append_run rfl _ _ _ _ rfl rfl rfl hrun4 ?_; refine held ?_)
      refine ⟨?_⟩
      clear hrun4
      go_wp2_with fail
      refine (of_two l1 bs m1 ((Rd.own HO1.out).wide (Nat.zero_le _) (Nat.le_refl _)) ((H2.out.below HK5.out (Nat.le_refl _)).wide (Nat.le_refl _) s5) rfl rfl rfl HM1.out).mono ?_
      rintro r w6 ⟨rfl, hb6⟩
      have HO6 := Lib.hid (own_below HO2.out hb6 (Nat.le_refl _))
      have HK6 := Lib.hid (below_below HK5.out hb6 s5)
      have s6 := HK6.out.size
      clear hb6
      go_wp2_with fail
      refine (of_two l2 bs m2 ((Rd.own HO6.out).wide (Nat.zero_le _) (Nat.le_refl _)) ((H2.out.below HK6.out (Nat.le_refl _)).wide (Nat.le_refl _) s6) rfl rfl rfl HM2.out).mono ?_
      rintro r w7 ⟨rfl, hb7⟩
      have HK7 := Lib.hid (below_below HK6.out hb7 s6)
      have s7 := HK7.out.size
      clear hb7
      have hiff := HF.out
      clear HF HL1 HL2 HM1 HM2
      have hx := UInt8.toNat_lt x
      have hy := UInt8.toNat_lt y
      generalize bn (crcL m1) = P at *
      generalize bn (crcL m2) = Q at *
      generalize x.toNat = X at *
      generalize y.toNat = Y at *
      by_cases hPQ : P = Q
      · obtain rfl : X = Y := hiff.1 hPQ
        clear hiff
        subst hPQ
        go_wp2_with fail
        refine (Seal_any xs (H.out.below HK7.out (Nat.le_refl _)) s7 (by omega)).mono ?_
        rintro r w8 ⟨A8, c8, rfl, ho8, hb8⟩
        have HO8 := Lib.hid ho8
        have HK8 := Lib.hid (below_below HK7.out hb8 s7)
        have s8 := HK8.out.size
        clear ho8 hb8
        go_wp2_with fail
        refine (of_len (sealL xs) ((Rd.own HO8.out).wide (Nat.zero_le _) (Nat.le_refl _)) (Nat.le_refl _) rfl rfl).mono ?_
        rintro r w9 ⟨rfl, hb9⟩
        have HK9 := Lib.hid (below_below HK8.out hb9 s8)
        have s9 := HK9.out.size
        clear hb9
        go_wp2_with fail
        refine (Seal_any bs (H2.out.below HK9.out (Nat.le_refl _)) s9 (by omega)).mono ?_
        rintro r w10 ⟨A10, c10, rfl, ho10, hb10⟩
        have HO10 := Lib.hid ho10
        have HK10 := Lib.hid (below_below HK9.out hb10 s9)
        have s10 := HK10.out.size
        clear ho10 hb10
        go_wp2_with fail
        refine (of_len (sealL bs) ((Rd.own HO10.out).wide (Nat.zero_le _) (Nat.le_refl _)) (Nat.le_refl _) rfl rfl).mono ?_
        rw [crcL_seal_eq xs bs]
        rintro r w11 ⟨rfl, hb11⟩
        have HK11 := Lib.hid (below_below HK10.out hb11 s10)
        clear hb11
        go_wp2
        go_ret
        exact ⟨rfl, HK11.out⟩
      · have hXY : ¬ X = Y := fun q => hPQ (hiff.2 q)
        have hq1 : (P == Q) = false := by simpa using hPQ
        have hq2 : ((X : Int) == (Y : Int)) = false := by simp; omega
        clear hiff hXY hPQ
        go_wp2_with fail
        refine (Seal_any xs (H.out.below HK7.out (Nat.le_refl _)) s7 (by omega)).mono ?_
        rintro r w8 ⟨A8, c8, rfl, ho8, hb8⟩
        have HO8 := Lib.hid ho8
        have HK8 := Lib.hid (below_below HK7.out hb8 s7)
        have s8 := HK8.out.size
        clear ho8 hb8
        go_wp2_with fail
        refine (of_len (sealL xs) ((Rd.own HO8.out).wide (Nat.zero_le _) (Nat.le_refl _)) (Nat.le_refl _) rfl rfl).mono ?_
        rintro r w9 ⟨rfl, hb9⟩
        have HK9 := Lib.hid (below_below HK8.out hb9 s8)
        have s9 := HK9.out.size
        clear hb9
        go_wp2_with fail
        refine (Seal_any bs (H2.out.below HK9.out (Nat.le_refl _)) s9 (by omega)).mono ?_
        rintro r w10 ⟨A10, c10, rfl, ho10, hb10⟩
        have HO10 := Lib.hid ho10
        have HK10 := Lib.hid (below_below HK9.out hb10 s9)
        have s10 := HK10.out.size
        clear ho10 hb10
        go_wp2_with fail
        refine (of_len (sealL bs) ((Rd.own HO10.out).wide (Nat.zero_le _) (Nat.le_refl _)) (Nat.le_refl _) rfl rfl).mono ?_
        rw [crcL_seal_eq xs bs]
        rintro r w11 ⟨rfl, hb11⟩
        have HK11 := Lib.hid (below_below HK10.out hb11 s10)
        clear hb11
        go_wp2
        go_ret
        exact ⟨rfl, HK11.out⟩
    · go_enter Try.func6, Try.ntmps6
      go_wp2_with fail
      refine (awake2_any _).mono ?_
      rintro r w1 ⟨rfl, hb1⟩
      have HB1 := Lib.hid hb1
      clear hb1
      go_wp2_with fail
      refine (awake2_any _).mono ?_
      rintro r w2 ⟨rfl, hb2⟩
      have HB2 := Lib.hid hb2
      clear hb2
      go_wp2
      go_ret
      exact ⟨rfl, below_below HB1.out HB2.out HB1.out.size⟩
  · go_enter Try.func6, Try.ntmps6
    go_wp2_with fail
    refine (awake2_any _).mono ?_
    rintro r w1 ⟨rfl, hb1⟩
    have HB1 := Lib.hid hb1
    clear hb1
    go_wp2_with fail
    refine (awake2_any _).mono ?_
    rintro r w2 ⟨rfl, hb2⟩
    have HB2 := Lib.hid hb2
    clear hb2
    go_wp2
    go_ret
    exact ⟨rfl, below_below HB1.out HB2.out HB1.out.size⟩

set_option maxRecDepth 100000 in
theorem crcZeros_lifted (os : Os) (started : os.Started) (H : Type) (enc : TypeId × Value → H) :
    ReturnsInHanded {} Try.checked os 6 .any (Rows.crcZerosSpec.pre6 enc Try.prog Try.f6 Rows.crcZerosRow.domain false) (Rows.crcZerosSpec.post enc Try.prog Try.f6 false true false false) := by
  refine returnsInHanded_of_change (C := Try.checked) own started (by kernel_rfl) Try.func6
    (ChangeSpec.witness6 (enc := enc) (C := Try.checked) false ⟨#[], #[.slice none 0 0, .slice none 0 0, .int .u8 0, .int .u8 0], []⟩ 8 (by kernel_rfl) (by kernel_rfl) (by kernel_rfl) (by kernel_rfl)) ?_
  intro W base args ds gs before hval0 hW hcnd _
  have hval : ∀ (j : Nat) t v, Try.f6.params[j]? = some t → args[j]? = some v → Value.okWide Try.prog W .any base t v := hval0
  have hW' := hW
  obtain ⟨p, q, hA0, hV, rfl, hfz, hnd⟩ := hW
  have hA : DataW.TrodAll enc Try.prog W 0 (fun _ => true) true Try.f6.params.toList args.toList ds p := hA0
  have hA1 : DataW.TrodAll enc Try.prog W 0 (fun _ => true) true Try.f6.params.toList args.toList ds p := hA0
  rw [Try.params6] at hA hval
  obtain ⟨v0, vs0, d0, ds0, p0, q0, hargs, rfl, rfl, h0, r0⟩ := trodAll_cons hA
  obtain ⟨v1, vs1, d1, ds1, p1, q1, rfl, rfl, rfl, h1, r1⟩ := trodAll_cons r0
  obtain ⟨v2, vs2, d2, ds2, p2, q2, rfl, rfl, rfl, h2, r2⟩ := trodAll_cons r1
  obtain ⟨v3, vs3, d3, ds3, p3, q3, rfl, rfl, rfl, h3, r3⟩ := trodAll_cons r2
  obtain ⟨rfl, rfl, rfl⟩ := trodAll_nil r3
  obtain rfl : args = #[v0, v1, v2, v3] := by cases args; simp_all
  obtain ⟨rfl, rfl⟩ := trodVars_none hV
  obtain ⟨A0, a0, c0, rfl, w0⟩ := open_bytes Try.underlying22 Try.underlying5 (by kernel_rfl) (hval 0 22 v0 rfl rfl) h0
  obtain ⟨A1, a1, c1, rfl, w1⟩ := open_bytes Try.underlying22 Try.underlying5 (by kernel_rfl) (hval 1 22 v1 rfl rfl) h1
  obtain ⟨a2, rfl, rfl, rfl, w2⟩ := open_int Try.underlying5 (hval 2 5 v2 rfl rfl) h2
  obtain ⟨b2, rfl⟩ := u8_of_wf w2
  obtain ⟨a3, rfl, rfl, rfl, w3⟩ := open_int Try.underlying5 (hval 3 5 v3 rfl rfl) h3
  obtain ⟨b3, rfl⟩ := u8_of_wf w3
  clear hA0 hval0
  refine (crcZeros_walk (w := W) w0 w1 b2 b3).mono fun e W' ⟨he, bel⟩ => ?_
  subst he
  exact ⟨_, rfl, _, _, _, [], _, [], hW', trodAll_mk1 (shut_bool Try.underlying4 _), trodAll_below laidOut bel _ _ _ _ (by kernel_rfl) hA1, rfl, bel.frame _, fun h => by cases h⟩

theorem crcZeros_over : Rows.crcZerosRow.holds Try.pinned (OpenSpec.ofChange Rows.crcZerosSpec) :=
  OpenClaim.holds_of_wide 6 Try.f6 rfl rfl rfl rfl rfl rfl rfl ⟨rfl, rfl, rfl, rfl, rfl⟩ rfl rfl rfl rfl rfl (by kernel_rfl) Try.func6 (by kernel_rfl)
    (of_decide_eq_true (by kernel_rfl)) (by unfold Func.isWrapper; first | (rw [if_pos (by decide +kernel)]; kernel_rfl) | (rw [if_neg (by decide +kernel)]; exact ⟨rfl, rfl⟩))
    (fun os started H enc _ => crcZeros_lifted os started H enc)

/-- The statement. -/
theorem crcZeros_proved : Rows.CrcZerosSaid := crcZeros_over


end Go.Proofs.Ytbbclcokmmhkoaa
