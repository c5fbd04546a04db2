/-
  Proved: SymbolBack of layer 10: of whatever few strings and cut, the table's bytes are read as the table, and nothing is left; no beginning of them is read; what came in reads as it did. Conditions: none of our own.
-/
import Derived.Test.YtfekdbdkcfhkiaaLawS
import Derived.Test.YtfekdbdkcfhkiaaShellT
import Derived.Test.YtfekdbdkcfhkiaaShell
namespace Go.Proofs.Ytfekdbdkcfhkiaa
set_option linter.unusedSimpArgs false
set_option linter.unusedVariables false
open Go.ChangeShapes Go.WideShapes Go.ChangeAt Go.RowKit
open Go.ChangeMaps (open_string shut_string)

set_option maxRecDepth 20000 in
set_option maxHeartbeats 4000000 in
theorem symbolBack_walk {w : World} {A : Option Addr} {l : List ByteArray} {c : Nat} (h : Rd w 0 w.heap.size A c (sv l) ∧ ∀ s ∈ l, s.size ≤ maxLen) (k : Nat) (hk : k < 65536) :
    Calls Try.prog 5 #[.slice A l.length c, .int .u16 (k : Int)] w fun e w' => e = .returned (.bool true) ∧ Below w.heap.size w w' := by
  obtain ⟨h, -⟩ := h
  have H := Lib.hid h
  have hl := h.len
  have hm := h.cap
  rw [sv_length] at hl
  unfold maxLen at hm
  clear h
  by_cases hf : FewS l
  · obtain ⟨hl3, hl1, hl2, hz1, hz2⟩ := few_sizes hf
    have HFW : Hid (decide (FewS l) = true) := decide_eq_true hf
    have HZ1 := Lib.hid hz1
    have HZ2 := Lib.hid hz2
    clear hz1 hz2 hf
    obtain ⟨t, ht⟩ : ∃ t, ordL (bytL2 l) = t := ⟨_, rfl⟩
    obtain ⟨hr, htl, ht5, ht8, hto⟩ := ord_facts l ht
    obtain ⟨bs, hbs⟩ : ∃ bs, putT t = bs := ⟨_, rfl⟩
    have hrt : rightT t = true := by rw [bytL2_strs] at hr; exact hr
    have hbl : bs.length ≤ 2296 := by
      have h1 := putT_len (l := t) fun s hs => (okS_iff.1 ((rightT_iff.1 hrt).2.1 s hs)).2
      rw [hbs] at h1
      omega
    have hbp : 0 < bs.length := by rw [← hbs, putT_symB]; simp
    have HBS : Hid (putT (bytL2 (strsL t)) = bs) := by unfold Hid; rw [bytL2_strs]; exact hbs
    have HGL : Hid (getL bs = (t, bs.length, 0)) := by unfold Hid; rw [← hbs]; exact getL_put hrt
    obtain ⟨n, hn⟩ : ∃ n, k % bs.length = n := ⟨_, rfl⟩
    have hnb : n < bs.length := by rw [← hn]; exact Nat.mod_lt _ hbp
    obtain ⟨cs, hcs⟩ : ∃ cs, bs.take n = cs := ⟨_, rfl⟩
    have HCL : Hid (cs.length = n) := by unfold Hid; rw [← hcs, List.length_take]; omega
    have HGC : Hid ((getL cs).1 = [] ∧ (getL cs).2.2 = 2) := by unfold Hid; rw [← hcs, ← hbs]; exact getL_cut hrt (by rw [hbs]; exact hnb)
    have HN : Hid (((k : Int)) % ((bs.length : Int)) = (n : Int)) := by unfold Hid; rw [← hn]; exact (Int.natCast_emod _ _).symm
    have HCS := Lib.hid hcs
    have HT := Lib.hid ht
    have HR := Lib.hid hr
    have HTL := Lib.hid htl
    clear ht hr htl ht8 hto hbs hrt hn hcs
    go_enter Try.func5, Try.ntmps5
    go_wp2_with fail
    refine (awake10_any (w := _)).mono ?_
    rintro r w1 ⟨rfl, b1⟩
    have B1 := Lib.hid b1
    have HL1 := Lib.hid ((H.out.below b1 (Nat.le_refl _)).wide (Nat.le_refl _) b1.size)
    have S1 := b1.size
    clear b1
    go_wp2_with fail
    refine (few_is l true HL1.out HFW.out).mono ?_
    rintro r w2 ⟨rfl, rfl⟩
    go_wp2_with fail
    refine (sorder_is l t HL1.out hl2 HZ2.out HT.out rfl).mono ?_
    rintro r w2 ⟨A2, c2, rfl, ho2, b2⟩
    have HO2 := Lib.hid ((Rd.of_own ho2).wide (Nat.zero_le _) (Nat.le_refl _))
    have B2 := Lib.hid (below_below B1.out b2 S1)
    have S2 := B2.out.size
    clear ho2 b2 HL1
    go_wp2_with fail
    refine (sput_is (strsL t) bs HO2.out HR.out HBS.out HTL.out).mono ?_
    rintro r w3 ⟨A3, c3, rfl, ho3, b3⟩
    have HO3 := Lib.hid (Rd.of_own ho3)
    have HO23 := Lib.hid (HO2.out.below b3 (Nat.le_refl _))
    have B3 := Lib.hid (below_below B2.out b3 S2)
    have S23 := b3.size
    have S3 := B3.out.size
    clear ho3 b3 HO2
    go_wp2_with fail
    refine (new_any bs w3 HO3.out (by omega)).mono ?_
    rintro r w4 ⟨g4, rfl, hc4, b4⟩
    have HC4 := Lib.hid hc4
    have HO34 := Lib.hid (HO3.out.below b4 (Nat.le_refl _))
    have HO24 := Lib.hid (HO23.out.below b4 S23)
    have B4 := Lib.hid (below_below B3.out b4 S3)
    have S34 := b4.size
    have hg4 := hc4.base
    clear hc4 b4 HO3 HO23
    have HGT := Lib.hid (sget_any HC4.out (by omega))
    rw [HGL.out] at HGT
    unfold cp at HGT
    have S4 := B4.out.size
    go_wp2_with fail
    refine HGT.out.mono ?_
    rintro r w5 ⟨A5, c5, rfl, ho5, hc5, hg5⟩
    have HO5 := Lib.hid (Rd.of_own ho5)
    have HC5 := Lib.hid hc5
    have HO35 := Lib.hid (HO34.out.grown hg5 S34 (fun q e => by injection e with e; omega))
    have HO25 := Lib.hid (HO24.out.grown hg5 (by omega) (fun q e => by injection e with e; omega))
    have B5 : Hid (Below w.heap.size w w5) := below_some B4.out hg5 S4 (by omega)
    have S5 := B5.out.size
    have S45 := hg5.size
    clear ho5 hc5 hg5 HO34 HO24 HGT HC4
    go_wp2_with fail
    refine (same_strs_len (strsL t) (strsL t) true HO5.out HO25.out HTL.out HTL.out (decide_eq_true rfl)).mono ?_
    rintro r w6 ⟨rfl, m6, rfl⟩
    have HEN := Lib.hid (end_any (HC5.out.drewN m6))
    have he0 : endR bs bs.length 0 = 0 := by unfold endR; rw [if_neg (by decide), if_neg (Nat.lt_irrefl _)]
    rw [he0] at HEN
    unfold cp at HEN
    clear he0
    go_wp2_with fail
    refine HEN.out.mono ?_
    rintro r w7 ⟨rfl, m7, rfl⟩
    obtain ⟨w8, hw8⟩ : ∃ w8, (w5.drewN m6).drewN m7 = w8 := ⟨_, rfl⟩
    have HO8 : Hid (Rd w8 w2.heap.size w3.heap.size A3 c3 (bv cs)) := by unfold Hid; rw [← hw8, ← HCS.out, bv_take]; exact ((HO35.out.drewN _).drewN _).take_ n
    have hc3 := HO35.out.len
    rw [bv_length] at hc3
    have B8 : Hid (Below w.heap.size w w8) := by unfold Hid; rw [← hw8]; exact below_drewN' (below_drewN' B5.out _) _
    have S8 := B8.out.size
    rw [hw8]
    clear hw8 HO35 HO25 HO5 HC5 HEN
    have HNW := Lib.hid (new_any cs w8 HO8.out (by rw [HCL.out]; omega))
    rw [HCL.out] at HNW
    have hnn := HN.out
    have hbn : (bs.length : Int) ≠ 0 := by omega
    go_wp2_with fail
    refine HNW.out.mono ?_
    rintro r w9 ⟨g9, rfl, hc9, b9⟩
    have B9 := Lib.hid (below_below B8.out b9 S8)
    have S9 := B9.out.size
    have S89 := b9.size
    have hg9 := hc9.base
    have HGT := Lib.hid (sget_any hc9 (by rw [HCL.out]; omega))
    rw [HGC.out.1, HGC.out.2] at HGT
    unfold cp at HGT
    clear hc9 b9 HNW
    go_wp2_with fail
    refine HGT.out.mono ?_
    rintro r w10 ⟨A10, c10, rfl, -, hc10, hg10⟩
    have B10 : Hid (Below w.heap.size w w10) := below_some B9.out hg10 S9 (by omega)
    have HEN := Lib.hid (end_any hc10)
    have he0 : endR cs (getL cs).2.1 2 = 2 := by unfold endR; rw [if_pos (by decide)]
    rw [he0] at HEN
    unfold cp at HEN
    clear hc10 hg10 HGT he0
    go_wp2_with fail
    refine HEN.out.mono ?_
    rintro r w11 ⟨rfl, m11, rfl⟩
    go_wp2_with fail
    go_ret
    exact ⟨rfl, below_drewN' B10.out _⟩
  · have HNF : Hid (decide (FewS l) = false) := decide_eq_false hf
    clear hf
    go_enter Try.func5, Try.ntmps5
    go_wp2_with fail
    refine (awake10_any (w := _)).mono ?_
    rintro r w1 ⟨rfl, b1⟩
    go_wp2_with fail
    refine (few_is l false (H.out.below b1 (Nat.le_refl _)) HNF.out).mono ?_
    rintro r w2 ⟨rfl, rfl⟩
    go_wp2_with fail
    refine (awake10_any (w := _)).mono ?_
    rintro r w3 ⟨rfl, b3⟩
    go_wp2_with fail
    go_ret
    exact ⟨rfl, below_below b1 b3 b1.size⟩


set_option maxRecDepth 100000 in
theorem symbolBack_lifted (os : Os) (started : os.Started) (H : Type) (enc : TypeId × Value → H) :
    ReturnsInHanded {} Try.checked os 5 .any (Rows.symbolBackSpec.pre6 enc Try.prog Try.f5 Rows.symbolBackRow.domain false) (Rows.symbolBackSpec.post enc Try.prog Try.f5 false true false false) := by
  refine returnsInHanded_of_change (C := Try.checked) own started (by kernel_rfl) Try.func5
    (ChangeSpec.witness6 (enc := enc) (C := Try.checked) false ⟨#[], #[.slice none 0 0, .int .u16 0], []⟩ 8 (by kernel_rfl) (by kernel_rfl) (by kernel_rfl) (by kernel_rfl)) ?_
  intro W base args ds gs before hval0 hW hcnd _
  have hval : ∀ (j : Nat) t v, Try.f5.params[j]? = some t → args[j]? = some v → Value.okWide Try.prog W .any base t v := hval0
  have hW' := hW
  obtain ⟨p, q, hA0, hV, rfl, hfz, hnd⟩ := hW
  have hA : DataW.TrodAll enc Try.prog W 0 (fun _ => true) true Try.f5.params.toList args.toList ds p := hA0
  have hA1 : DataW.TrodAll enc Try.prog W 0 (fun _ => true) true Try.f5.params.toList args.toList ds p := hA0
  rw [Try.params5] at hA hval
  obtain ⟨v0, vs0, d0, ds0, p0, q0, hargs, rfl, rfl, h0, r0⟩ := trodAll_cons hA
  obtain ⟨v1, vs1, d1, ds1, p1, q1, rfl, rfl, rfl, h1, r1⟩ := trodAll_cons r0
  obtain ⟨rfl, rfl, rfl⟩ := trodAll_nil r1
  obtain rfl : args = #[v0, v1] := by cases args; simp_all
  obtain ⟨rfl, rfl⟩ := trodVars_none hV
  obtain ⟨A0, a0, c0, rfl, w0⟩ := open_strs Try.underlying22 Try.underlying9 (by kernel_rfl) (hval 0 22 v0 rfl rfl) h0
  obtain ⟨a1, rfl, rfl, rfl, w1⟩ := open_int Try.underlying37 (hval 1 37 v1 rfl rfl) h1
  obtain ⟨b1, rfl, l1⟩ := u16_of_wf w1
  clear hA0 hval0
  refine (symbolBack_walk (w := W) w0 b1 l1).mono fun e W' ⟨he, bel⟩ => ?_
  subst he
  exact ⟨_, rfl, _, _, _, [], _, [], hW', trodAll_mk1 (shut_bool Try.underlying4 _), trodAll_below laidOut bel _ _ _ _ (by kernel_rfl) hA1, rfl, bel.frame _, fun h => by cases h⟩

theorem symbolBack_over : Rows.symbolBackRow.holds Try.pinned (OpenSpec.ofChange Rows.symbolBackSpec) :=
  OpenClaim.holds_of_wide 5 Try.f5 rfl rfl rfl rfl rfl rfl rfl ⟨rfl, rfl, rfl, rfl, rfl⟩ rfl rfl rfl rfl rfl (by kernel_rfl) Try.func5 (by kernel_rfl)
    (of_decide_eq_true (by kernel_rfl)) (by unfold Func.isWrapper; first | (rw [if_pos (by decide +kernel)]; kernel_rfl) | (rw [if_neg (by decide +kernel)]; exact ⟨rfl, rfl⟩))
    (fun os started H enc _ => symbolBack_lifted os started H enc)

/-- The statement. -/
theorem symbolBack_proved : Rows.SymbolBackSaid := symbolBack_over


end Go.Proofs.Ytfekdbdkcfhkiaa
