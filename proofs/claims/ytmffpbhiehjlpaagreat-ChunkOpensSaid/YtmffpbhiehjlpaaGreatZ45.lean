/-
  The document's own Payload of any kind, and Chosen.
  The document's Put and Write of layer 4: bit by bit.
  Appends that a guard asks for. No program is named here.
  The document's own Code. (Printed by wip/tools/genchs.py.)
  What chunks that may be say of values, in plain.
-/
import Derived.Test.YtmffpbhiehjlpaaGreatZ44
import Derived.Test.YtmffpbhiehjlpaaGreatZ30
import Derived.Test.YtmffpbhiehjlpaaGreatZ04
import Derived.Test.YtmffpbhiehjlpaaGreatZ15
import Derived.Test.YtmffpbhiehjlpaaGreatZ05
import Derived.Deep.QuietTactic
import Derived.StillTailTactics
import Derived.Laws.OwnMore
import Derived.Test.YtmffpbhiehjlpaaGreatZ00
import Derived.BigFrame
import Derived.Test.YtmffpbhiehjlpaaGreatZ32
import Derived.Test.YtmffpbhiehjlpaaGreatZ31
import Derived.Test.YtmffpbhiehjlpaaGreatZ40
namespace Go.Proofs.YtmffpbhiehjlpaaGreat
set_option linter.unusedSimpArgs false
set_option linter.unusedVariables false
open Go.RowKit
theorem refPayload_v {w : World} {l : List ByteArray} {kd bl ro : Int} {ds : List Int} {A B : Option Addr} {c d : Nat} (h : PayIn w l kd bl ro ds A B c d) (hk : 1 ≤ kd) (hf : l.length ≤ 100) (hdr : ds.length ≤ 60) :
    Calls Tryz.prog 18 #[.slice A l.length c, .agg #[.int .i64 kd, .int .i64 bl, .int .i64 ro, .slice B ds.length d]] w fun r w' => ∃ A' c', r = .returned (.slice A' (payK l ⟨kd, bl, ro, ds⟩ kd).length c') ∧
      w'.ownsRow w.heap.size 5 1 (.slice A' (payK l ⟨kd, bl, ro, ds⟩ kd).length c') (payK l ⟨kd, bl, ro, ds⟩ kd).length (bv (payK l ⟨kd, bl, ro, ds⟩ kd)) ∧ Below w.heap.size w w' := by
  obtain ⟨o1, o2, o3, o4, o5, o6, o7⟩ := h.ok
  simp only at o1 o2 o3 o4 o5 o6 o7
  have h3 : kd = 1 ∨ kd = 2 ∨ kd = 3 := by omega
  rcases h3 with rfl | rfl | rfl
  · exact refPay1 l bl ro ds h.rd h.dr hf hdr h.size
  · exact refPay2 l bl ro ds h.rd h.dr hf hdr h.size
  · obtain ⟨K, rfl⟩ : ∃ K : Nat, bl = (K : Int) := ⟨bl.toNat, by omega⟩
    exact refPay3 l K ro ds h.rd hf (by omega) (by omega) h.size
set_option maxRecDepth 20000 in
set_option maxHeartbeats 4000000 in
theorem refChosen_v {w : World} {l : List ByteArray} {kd bl ro : Int} {ds : List Int} {A B : Option Addr} {c d : Nat} (h : PayIn w l kd bl ro ds A B c d) (hf : l.length ≤ 100) (hdr : ds.length ≤ 60) :
    Calls Tryz.prog 15 #[.slice A l.length c, .agg #[.int .i64 kd, .int .i64 bl, .int .i64 ro, .slice B ds.length d]] w fun r w' => r = .returned (.int .i64 (kindK l ⟨kd, bl, ro, ds⟩)) ∧ Below w.heap.size w w' := by
  obtain ⟨w1, hw1⟩ : ∃ w1, w.alloc (.cells #[.int .i64 kd, .int .i64 bl, .int .i64 ro, .slice B ds.length d] 25) = w1 := ⟨_, rfl⟩
  have B1 : Hid (Below w.heap.size w w1) := by unfold Hid; rw [← hw1]; exact (Below.refl _ w).alloc (Nat.le_refl _) _
  have hs1 : w1.heap.size = w.heap.size + 1 := by rw [← hw1]; simp
  have hbx : Blk w1 w.heap.size 25 #[.int .i64 kd, .int .i64 bl, .int .i64 ro, .slice B ds.length d] := by rw [← hw1]; exact Blk.new w _ _
  have b0 : w1.cell? ⟨w.heap.size, 0, none⟩ = some (.int .i64 kd) := hbx.cell 0
  have HBX := Lib.hid hbx
  have HI : Hid (∀ W (n : Int), Below w.heap.size w W → 1 ≤ n → n ≤ 3 → PayIn W l n bl ro ds A B c d) := fun W n hW h1 h2 => (h.on hW).kind (by omega) h2
  have HKD : Hid (kd ≠ 0 → kindK l ⟨kd, bl, ro, ds⟩ = kd) := fun h0 => by rw [kindK, if_neg h0]
  have HKB : Hid (kd = 0 → kindK l ⟨kd, bl, ro, ds⟩ = bestK l ⟨kd, bl, ro, ds⟩) := fun h0 => by rw [kindK, if_pos h0]
  obtain ⟨o, ho⟩ : ∃ o : Co, o = ⟨kd, bl, ro, ds⟩ := ⟨_, rfl⟩
  have HPK : Hid (∀ n, payK l ⟨n, bl, ro, ds⟩ n = payK l o n) := fun n => by rw [ho]; exact payK_kind ..
  rw [← ho] at HKD HKB ⊢
  generalize kindK l o = kk at *
  clear h hbx ho
  go_enter Tryz.func15, Tryz.ntmps15
  by_cases h0 : kd = 0
  · subst h0
    have HKE : Hid (kk = bestK l o) := HKB.out rfl
    clear HKB HKD
    go_wp2_with fail
    clear hw1 b0
    go_loopw [5, 6, 7] (fun x5 x6 x7 wr => ∃ (n : Nat) (b z kc : Int), 1 ≤ n ∧ n ≤ 4 ∧ x7 = .int .i64 (n : Int) ∧ x5 = .int .i64 b ∧ x6 = .int .i64 z ∧ Hid (n = 1 → b = 0) ∧ Hid (2 ≤ n → b = leastTo l o n ∧ z = ((payK l o (leastTo l o n)).length : Int)) ∧
      Blk wr w.heap.size 25 #[.int .i64 kc, .int .i64 bl, .int .i64 ro, .slice B ds.length d] ∧ Below w.heap.size w wr) (fun _ _ x7 _ => 4 - (intOf x7).toNat)
    case atStart => exact ⟨1, 0, 0, 0, Nat.le_refl _, by omega, rfl, rfl, rfl, fun _ => rfl, fun h => absurd h (by omega), HBX.out, B1.out⟩
    case round =>
      clear HBX
      obtain ⟨n, b, z, kc, hn1, hn4, rfl, rfl, rfl, HN1, HN2, hbx, hb⟩ := hrel
      have HBX := Lib.hid hbx
      have HB := Lib.hid hb
      have hsz := hb.size
      clear hb
      by_cases hn : n ≤ 3
      · have ik : (n : Int) ≤ 3 := by omega
        have z0 : wr.cell? ⟨w.heap.size, 0, none⟩ = some (.int .i64 kc) := hbx.cell 0
        have fz0 := hbx.frozen 0
        obtain ⟨wa, hwa⟩ : ∃ wa, wr.setCell ⟨w.heap.size, 0, none⟩ (.int .i64 (n : Int)) = wa := ⟨_, rfl⟩
        have hbxa : Blk wa w.heap.size 25 #[.int .i64 (n : Int), .int .i64 bl, .int .i64 ro, .slice B ds.length d] := by rw [← hwa]; exact hbx.put 0 _
        have b0 : wa.cell? ⟨w.heap.size, 0, none⟩ = some (.int .i64 (n : Int)) := hbxa.cell 0
        have b1 : wa.cell? ⟨w.heap.size, 1, none⟩ = some (.int .i64 bl) := hbxa.cell 1
        have b2 : wa.cell? ⟨w.heap.size, 2, none⟩ = some (.int .i64 ro) := hbxa.cell 2
        have b3 : wa.cell? ⟨w.heap.size, 3, none⟩ = some (.slice B ds.length d) := hbxa.cell 3
        have HBa : Hid (Below w.heap.size w wa) := by unfold Hid; rw [← hwa]; exact HB.out.setCell (p := ⟨w.heap.size, 0, none⟩) (Nat.le_refl _) _
        have HBXa := Lib.hid hbxa
        have HC := Lib.hid (refPayload_v (w := wa) (HI.out wa n HBa.out (by omega) (by omega)) (by omega) hf hdr)
        rw [HPK.out] at HC
        have hgl : w.heap.size < wa.heap.size := hbxa.lt
        obtain ⟨pn, hpn⟩ : ∃ pn, (payK l o (n : Int)).length = pn := ⟨_, rfl⟩
        have HPN := Lib.hid hpn
        rw [hpn] at HC
        clear hbx hbxa HBX HB hpn
        go_wp2_with fail
        refine HC.out.mono ?_
        rintro r wb ⟨Ab, cb, rfl, hob, hbb⟩
        have HBb : Hid (Below w.heap.size w wb) := HBa.out.trans (hbb.mono HBa.out.size)
        have HBXb := Lib.hid (HBXa.out.below hbb hgl)
        clear hob hbb hwa HC
        by_cases hn2 : n = 1
        · obtain rfl : b = 0 := HN1.out hn2
          have HE : Hid ((n : Int) = leastTo l o (n + 1) ∧ (pn : Int) = ((payK l o (leastTo l o (n + 1))).length : Int)) := by
            have e : leastTo l o (n + 1) = (n : Int) := by rw [hn2]; rfl
            unfold Hid
            rw [e, HPN.out]
            exact ⟨rfl, rfl⟩
          clear hn2 HN1 HN2
          go_wp2_with fail
          go_roundw
          case rel => exact ⟨n + 1, n, pn, n, by omega, by omega, by go_num, rfl, rfl, fun h => absurd h (by omega), fun _ => HE.out, HBXb.out, HBb.out⟩
          case measure => simp [intOf]; omega
        · obtain ⟨hb2, hz2⟩ := HN2.out (by omega)
          have hin := leastTo_in l o n
          have HS := Lib.hid (leastTo_succ l o (n := n) (by omega))
          rw [← hb2] at hin hz2
          have HB2 := Lib.hid hb2
          have HZ2 := Lib.hid hz2
          have hb0 : ¬ b = 0 := by omega
          have hb0' : (b == 0) = false := by rw [beq_eq_false_iff_ne]; exact hb0
          clear hb2 hz2 HN1 HN2 hin
          by_cases hlt : (pn : Int) < z
          · have HE : Hid ((n : Int) = leastTo l o (n + 1) ∧ (pn : Int) = ((payK l o (leastTo l o (n + 1))).length : Int)) := by
              have e : leastTo l o (n + 1) = (n : Int) := by
                rw [HS.out, if_pos]
                rw [HPN.out, ← HB2.out]
                have := HZ2.out
                omega
              unfold Hid
              rw [e, HPN.out]
              exact ⟨rfl, rfl⟩
            go_wp2_with fail
            go_roundw
            case rel => exact ⟨n + 1, n, pn, n, by omega, by omega, by go_num, rfl, rfl, fun h => absurd h (by omega), fun _ => HE.out, HBXb.out, HBb.out⟩
            case measure => simp [intOf]; omega
          · have HE : Hid (b = leastTo l o (n + 1) ∧ z = ((payK l o (leastTo l o (n + 1))).length : Int)) := by
              have e : leastTo l o (n + 1) = b := by
                rw [HS.out, if_neg, HB2.out]
                rw [HPN.out, ← HB2.out]
                have := HZ2.out
                omega
              unfold Hid
              rw [e]
              exact ⟨rfl, HZ2.out⟩
            go_wp2_with fail
            go_roundw
            case rel => exact ⟨n + 1, b, z, n, by omega, by omega, by go_num, rfl, rfl, fun h => absurd h (by omega), fun _ => HE.out, HBXb.out, HBb.out⟩
            case measure => simp [intOf]; omega
      · have ik : ¬ (n : Int) ≤ 3 := by omega
        have hb4 : Hid (b = kk) := by
          have h4 : n = 4 := by omega
          have := (HN2.out (by omega)).1
          rw [h4, leastTo_best] at this
          unfold Hid
          rw [this, HKE.out]
        go_wp2_with fail
        go_ret
        rw [hb4.out]
        exact ⟨rfl, HB.out⟩
  · have HKE : Hid (kk = kd) := HKD.out h0
    have h0' : (kd != 0) = true := by rw [bne_iff_ne]; exact h0
    clear HKB HKD
    go_wp2_with fail
    go_ret
    rw [HKE.out]
    exact ⟨rfl, B1.out⟩
end Go.Proofs.YtmffpbhiehjlpaaGreat
namespace Go.Proofs.YtmffpbhiehjlpaaGreat
set_option linter.unusedSimpArgs false
set_option linter.unusedVariables false
open Go.RowKit
theorem packB_bits {l : List Bool} {ys : List UInt8} (h : BitsAt l.length (bsum l l.length) ys) : ys = packB l := h.2
set_option maxRecDepth 20000 in
set_option maxHeartbeats 1000000 in
theorem rbput_any {w : World} (l : List Bool) {h' : Nat} {A : Option Addr} {c : Nat} (h : Rd w 0 h' A c (lv l)) (hh : h' ≤ w.heap.size) (hlen : l.length ≤ 140737488355328) :
    Calls Tryz.prog 67 #[.slice A l.length c] w fun r w' => ∃ A' c', r = .returned (.slice A' (packB l).length c') ∧
      w'.ownsRow w.heap.size 5 1 (.slice A' (packB l).length c') (packB l).length (bv (packB l)) ∧ Below w.heap.size w w' := by
  have hl := h.len
  have hc := h.cap
  rw [lv_length] at hl
  unfold maxLen at hc
  have H := Lib.hid h
  clear h
  go_enter Tryz.func67, Tryz.ntmps67
  go_wp2_with fail
  go_loopw [3, 4] (fun b i wr => ∃ (n : Nat) (ys : List UInt8) (A' : Option Addr) (c' : Nat), n ≤ l.length ∧ i = .int .i64 (n : Int) ∧ b = .slice A' ys.length c' ∧
      BitsAt n (bsum l n) ys ∧ wr.ownsRow w.heap.size 5 1 (.slice A' ys.length c') ys.length (bv ys) ∧ Below w.heap.size w wr) (fun _ i _ => l.length - (intOf i).toNat)
  case atStart => exact ⟨0, [], none, 0, Nat.zero_le _, rfl, rfl, bitsAt_zero, World.ownsRow_nil .., Below.refl _ _⟩
  case round =>
    obtain ⟨n, ys1, A1, c1, hn, rfl, rfl, hin, hown1, hbel1⟩ := hrel
    have HIN := Lib.hid hin
    have HO1 := Lib.hid hown1
    have HB1 := Lib.hid hbel1
    have hsz1 := hbel1.size
    have hyl := Nat.le_of_eq (bitsAt_len hin)
    clear hin hown1 hbel1
    by_cases hlt : n < l.length
    · obtain ⟨b, off, rfl, _, hbh0, hcw⟩ := H.out.row hlt
      have hbh : b < w.heap.size := Nat.lt_of_lt_of_le hbh0 hh
      have HCW := Lib.hid hcw
      have HNO := Lib.hid (bsum_no l n hlt)
      have HYES := Lib.hid (bsum_yes l n hlt)
      clear hcw
      generalize l[n] = x at *
      by_cases h8 : n % 8 = 0
      · have HOP := Lib.hid (openAt_push HIN.out h8)
        have hL : (ys1 ++ [0]).length = ys1.length + 1 := by simp
        go_wp2_with (at_builtin; refine wpList_push (v := .slice A1 ys1.length c1) w.heap.size ys1 0 rfl _ _ rfl rfl rfl rfl (by rw [World.cell?_alloc_at _ _ _ _ rfl]; rfl) (HO1.out.alloc _) (by omega) (by simp; omega) ?_; intro A2 c2 w2 hown2 hgr2; refine held ?_)
        refine ⟨?_⟩
        have HB2 := Lib.hid ((HB1.out.alloc hsz1 _).grown hgr2 (by simp; omega) (fun k hk => own_row HO1.out k hk))
        rw [hL] at hown2
        have HO2 := Lib.hid hown2
        have HL := Lib.hid hL
        clear hown2 hgr2 hL
        generalize ys1 ++ [0] = ys2 at *
        generalize hLe : ys1.length + 1 = L at *
        have hLn : L = n / 8 + 1 := by rw [← HL.out]; exact openAt_len HOP.out
        have hL1 : L ≤ n / 8 + 1 := by omega
        have hL2 : n / 8 < L := by omega
        have HN8 := Lib.hid h8
        clear hLe hLn h8
        obtain ⟨g, rfl, hg1, hg2⟩ := own_spot HO2.out (by omega)
        have hcell2 : w2.cell? ⟨b, off + n, none⟩ = some (.bool x) := (HB2.out.cell (p := ⟨b, off + n, none⟩) hbh).trans HCW.out
        cases x
        · have HNX := HNO.out rfl
          clear HNO HYES
          go_wp2
          go_roundw
          case rel =>
            refine ⟨n + 1, ys2, some ⟨g, 0, none⟩, c2, by omega, by go_num, ?_, ?_, ?_, HB2.out⟩
            · rw [HL.out]
            · rw [HNX]; exact bitsAt_none HOP.out
            · rw [HL.out]; exact HO2.out
          case measure => simp [intOf]; omega
        · have HNX := HYES.out rfl
          clear HNO HYES
          have HNXH := Lib.hid HNX
          clear HNX
          go_wp2_with fail
          have hy0 : n / 8 < ys2.length := by rw [HL.out]; exact hL2
          obtain ⟨y0, hy0e⟩ : ∃ y0, ys2[n / 8]? = some y0 := ⟨_, List.getElem?_eq_getElem hy0⟩
          have hload : w2.drew.cell? ⟨g, n / 8, none⟩ = some (.int .u8 (y0.toNat : Int)) := by
            have h1 := HO2.out.cellAt (n / 8) (by omega)
            have h2 : (bv ys2)[n / 8]? = some (.int .u8 (y0.toNat : Int)) := by simp [bv, hy0e]
            exact h1.trans h2
          have hfr : w2.drew.frozen? ⟨g, n / 8, none⟩ = false := HO2.out.frozenAt (n / 8)
          have HO3 : Hid (w2.drew.ownsRow w.heap.size 5 1 (.slice (some ⟨g, 0, none⟩) L c2) L (bv ys2)) := HO2.out
          have HB3 : Hid (Below w.heap.size w w2.drew) := below_drewN' HB2.out 1
          have HP3 := Lib.hid (power_any (w := w2.drew) (n % 8) (by omega))
          have hn8 : (n : Int) / 8 = ((n / 8 : Nat) : Int) := by omega
          have hn8' : (n : Int) % 8 = ((n % 8 : Nat) : Int) := by omega
          have hn8t : (n : Int).tmod 8 = ((n % 8 : Nat) : Int) := by rw [Int.tmod_eq_emod_of_nonneg (by omega)]; omega
          have HW := Lib.hid (bitsAt_one HOP.out y0 hy0e)
          have hyb := HW.out.1
          have hy256 := UInt8.toNat_lt y0
          generalize 2 ^ (n % 8) = pr at *
          refine wp_region_still_tail 13 (by kernel_rfl) (by kernel_rfl) ?_
          change wpStill _ _ w2.drew (fun a' => wpList _ _ _ _ a' w2.drew) _ _
          generalize w2.drew = w4 at *
          generalize hq8 : n / 8 = q at *
          generalize hr8 : n % 8 = r at *
          clear hq8 hr8
          simp only [List.take_succ_cons, List.take_zero, List.drop_succ_cons, List.drop_zero]
          have hqw : IntKind.i64.wrap (q : Int) = (q : Int) := IntWalk.i64_in _ (by omega)
          have hrw : IntKind.i64.wrap (r : Int) = (r : Int) := IntWalk.i64_in _ (by omega)
          have hpw : IntKind.u8.wrap (pr : Int) = (pr : Int) := by rw [IntKind.wrap_u8]; omega
          have hsum : IntKind.u8.wrap ((y0.toNat : Int) + (pr : Int)) = ((y0.toNat + pr : Nat) : Int) := by rw [IntKind.wrap_u8]; omega
          repeat still_step
          refine wpStill_step (fun K hK => ?_)
          go_simp
          refine ⟨_, HP3.out.mono fun _ _ ⟨a, b⟩ => ⟨a, b.symm⟩, hK _ ?_⟩
          clear hK K
          repeat still_step
          refine wpStill_nil ?_
          go_wp2
          go_roundw
          case rel =>
            have hst := HO3.out.stored q (.int .u8 ((y0.toNat : Int) + (pr : Int)))
            have hbn : (UInt8.ofNat (y0.toNat + pr)).toNat = y0.toNat + pr := by rw [UInt8.toNat_ofNat']; omega
            have hbs : bv (ys2.set q (UInt8.ofNat (y0.toNat + pr))) = (bv ys2).set q (.int .u8 ((y0.toNat : Int) + (pr : Int))) := by
              rw [bv_set, hbn]
              congr 2
            have hls : (ys2.set q (UInt8.ofNat (y0.toNat + pr))).length = L := by rw [List.length_set, HL.out]
            refine ⟨n + 1, ys2.set q (UInt8.ofNat (y0.toNat + pr)), some ⟨g, 0, none⟩, c2, by omega, by go_num, ?_, ?_, ?_, HB3.out.setCell (by simpa using hg1) _⟩
            · rw [hls]
            · rw [HNXH.out]; exact HW.out.2
            · rw [hls, hbs]; exact hst.1
          case measure => simp [intOf] <;> omega
      · have HOP := Lib.hid (openAt_same HIN.out h8)
        have HB2 := Lib.hid HB1.out
        have hL := openAt_len HOP.out
        generalize hLe : ys1.length = L at *
        have HL := Lib.hid hLe
        have hL1 : L ≤ n / 8 + 1 := by omega
        have hL2 : n / 8 < L := by omega
        have HO2 := Lib.hid HO1.out
        have HN8 := Lib.hid h8
        have hn80 : ((n : Int) % 8 == 0) = false := by rw [beq_eq_false_iff_ne]; omega
        clear hLe hL h8 HO1
        obtain ⟨g, rfl, hg1, hg2⟩ := own_spot HO2.out (by omega)
        have hcell2 : wr.cell? ⟨b, off + n, none⟩ = some (.bool x) := (HB2.out.cell (p := ⟨b, off + n, none⟩) hbh).trans HCW.out
        cases x
        · have HNX := HNO.out rfl
          clear HNO HYES
          go_wp2
          go_roundw
          case rel =>
            refine ⟨n + 1, ys1, some ⟨g, 0, none⟩, c1, by omega, by go_num, ?_, ?_, ?_, HB2.out⟩
            · rw [HL.out]
            · rw [HNX]; exact bitsAt_none HOP.out
            · rw [HL.out]; exact HO2.out
          case measure => simp [intOf]; omega
        · have HNX := HYES.out rfl
          clear HNO HYES
          have HNXH := Lib.hid HNX
          clear HNX
          go_wp2_with fail
          have hy0 : n / 8 < ys1.length := by rw [HL.out]; exact hL2
          obtain ⟨y0, hy0e⟩ : ∃ y0, ys1[n / 8]? = some y0 := ⟨_, List.getElem?_eq_getElem hy0⟩
          have hload : wr.drew.cell? ⟨g, n / 8, none⟩ = some (.int .u8 (y0.toNat : Int)) := by
            have h1 := HO2.out.cellAt (n / 8) (by omega)
            have h2 : (bv ys1)[n / 8]? = some (.int .u8 (y0.toNat : Int)) := by simp [bv, hy0e]
            exact h1.trans h2
          have hfr : wr.drew.frozen? ⟨g, n / 8, none⟩ = false := HO2.out.frozenAt (n / 8)
          have HO3 : Hid (wr.drew.ownsRow w.heap.size 5 1 (.slice (some ⟨g, 0, none⟩) L c1) L (bv ys1)) := HO2.out
          have HB3 : Hid (Below w.heap.size w wr.drew) := below_drewN' HB2.out 1
          have HP3 := Lib.hid (power_any (w := wr.drew) (n % 8) (by omega))
          have hn8 : (n : Int) / 8 = ((n / 8 : Nat) : Int) := by omega
          have hn8' : (n : Int) % 8 = ((n % 8 : Nat) : Int) := by omega
          have hn8t : (n : Int).tmod 8 = ((n % 8 : Nat) : Int) := by rw [Int.tmod_eq_emod_of_nonneg (by omega)]; omega
          have HW := Lib.hid (bitsAt_one HOP.out y0 hy0e)
          have hyb := HW.out.1
          have hy256 := UInt8.toNat_lt y0
          generalize 2 ^ (n % 8) = pr at *
          refine wp_region_still_tail 13 (by kernel_rfl) (by kernel_rfl) ?_
          change wpStill _ _ wr.drew (fun a' => wpList _ _ _ _ a' wr.drew) _ _
          generalize wr.drew = w4 at *
          generalize hq8 : n / 8 = q at *
          generalize hr8 : n % 8 = r at *
          clear hq8 hr8
          simp only [List.take_succ_cons, List.take_zero, List.drop_succ_cons, List.drop_zero]
          have hqw : IntKind.i64.wrap (q : Int) = (q : Int) := IntWalk.i64_in _ (by omega)
          have hrw : IntKind.i64.wrap (r : Int) = (r : Int) := IntWalk.i64_in _ (by omega)
          have hpw : IntKind.u8.wrap (pr : Int) = (pr : Int) := by rw [IntKind.wrap_u8]; omega
          have hsum : IntKind.u8.wrap ((y0.toNat : Int) + (pr : Int)) = ((y0.toNat + pr : Nat) : Int) := by rw [IntKind.wrap_u8]; omega
          repeat still_step
          refine wpStill_step (fun K hK => ?_)
          go_simp
          refine ⟨_, HP3.out.mono fun _ _ ⟨a, b⟩ => ⟨a, b.symm⟩, hK _ ?_⟩
          clear hK K
          repeat still_step
          refine wpStill_nil ?_
          go_wp2
          go_roundw
          case rel =>
            have hst := HO3.out.stored q (.int .u8 ((y0.toNat : Int) + (pr : Int)))
            have hbn : (UInt8.ofNat (y0.toNat + pr)).toNat = y0.toNat + pr := by rw [UInt8.toNat_ofNat']; omega
            have hbs : bv (ys1.set q (UInt8.ofNat (y0.toNat + pr))) = (bv ys1).set q (.int .u8 ((y0.toNat : Int) + (pr : Int))) := by
              rw [bv_set, hbn]
              congr 2
            have hls : (ys1.set q (UInt8.ofNat (y0.toNat + pr))).length = L := by rw [List.length_set, HL.out]
            refine ⟨n + 1, ys1.set q (UInt8.ofNat (y0.toNat + pr)), some ⟨g, 0, none⟩, c1, by omega, by go_num, ?_, ?_, ?_, HB3.out.setCell (by simpa using hg1) _⟩
            · rw [hls]
            · rw [HNXH.out]; exact HW.out.2
            · rw [hls, hbs]; exact hst.1
          case measure => simp [intOf] <;> omega
    · obtain rfl : n = l.length := by omega
      have HE := Lib.hid (packB_bits HIN.out)
      go_wp2
      go_ret
      rw [← HE.out]
      exact ⟨A1, c1, rfl, HO1.out, HB1.out⟩
theorem rbwrite_any {w : World} (l : List Bool) {h' : Nat} {A : Option Addr} {c : Nat} (h : Rd w 0 h' A c (lv l)) (hh : h' ≤ w.heap.size) (hlen : l.length ≤ 140737488355328) :
    Calls Tryz.prog 42 #[.slice A l.length c] w fun r w' => ∃ A' c', r = .returned (.slice A' (writeB l).length c') ∧
      w'.ownsRow w.heap.size 5 1 (.slice A' (writeB l).length c') (writeB l).length (bv (writeB l)) ∧ Below w.heap.size w w' := by
  have HE : Hid (putL l.length ++ packB l = writeB l) := rfl
  have h9 := putL_nine l.length (by omega)
  have hpl : (packB l).length ≤ 140737488355328 / 8 + 1 := by rw [packB_length]; omega
  have HP := fun (w1 : World) (h : Rd w1 0 h' A c (lv l)) (hh : h' ≤ w1.heap.size) => Lib.hid (rbput_any (w := w1) (A := A) (c := c) l h hh hlen)
  have H := Lib.hid h
  have hl := h.len
  have hc := h.cap
  rw [lv_length] at hl
  unfold maxLen at hc
  clear h
  generalize packB l = pk at *
  go_enter Tryz.func42, Tryz.ntmps42
  go_wp2_with fail
  refine (refPut_any l.length (by omega)).mono ?_
  rintro r w1 ⟨A1, c1, rfl, ho1, hb1⟩
  have HO1 := Lib.hid ho1
  have HB1 := Lib.hid hb1
  have s1 := hb1.size
  clear ho1 hb1
  generalize putL l.length = pl at *
  go_wp2_with fail
  refine (HP w1 (H.out.below HB1.out hh) (by omega)).out.mono ?_
  rintro r w2 ⟨A2, c2, rfl, ho2, hb2⟩
  have HO2 := Lib.hid ho2
  have HB2 := Lib.hid (below_below HB1.out hb2 s1)
  have s2 := hb2.size
  obtain ⟨A3, c3, w3, hrun3, ho3, hg3⟩ := append_named w2 w.heap.size _ pl pk (writeB l) HE.out (own_below HO1.out hb2 (Nat.le_refl _)) (Rd.own ho2) (by omega) (by omega)
  have HO3 := Lib.hid ho3
  have HB3 := Lib.hid (HB2.out.grown hg3 HB2.out.size (fun k hk => own_row HO1.out k hk))
  clear ho2 hb2 ho3 hg3
  go_wp2_with (at_builtin; refine wpList_append_run rfl _ _ _ _ rfl rfl rfl hrun3 ?_)
  go_ret
  exact ⟨A3, c3, rfl, HO3.out, HB3.out⟩
end Go.Proofs.YtmffpbhiehjlpaaGreat
namespace Go.Proofs.YtmffpbhiehjlpaaGreat
set_option linter.unusedSimpArgs false
set_option linter.unusedVariables false
theorem oper_append_run {P : Program} {o : Oper} {a : Act} {Q : Exit → Act → World → Prop} {K : Act → World → Prop} {w w' : World} {v1 v2 v' : Value} (s x : Operand) (t t' : TypeId)
    (ho : o.op = .call { callee := .builtin .append, args := #[s, x], argTypes := #[t, t'] }) (hs : a.eval s = v1) (hx : a.eval x = v2)
    (hr : (Builtin.append_ #[t, t'] o.type #[v1, v2]).run P w = .ok v' w') (h : K (a.put o.dst v') w') : Oper.wp P o a w K Q := by
  unfold Oper.wp execOp
  simp only [ho, resolve, invoke, builtin, Sem.run_bind, Sem.run_pure, Result.andThen_ok, List.map_toArray, List.map_cons, List.map_nil, hs, hx, hr]
  exact h
end Go.Proofs.YtmffpbhiehjlpaaGreat
namespace Go.Proofs.YtmffpbhiehjlpaaGreat
set_option linter.unusedSimpArgs false
set_option linter.unusedVariables false
open Go.RowKit
set_option maxRecDepth 100000 in
set_option maxHeartbeats 4000000 in
theorem refCode_v {w : World} {L : List Vl} {kd bl ro : Int} {ds : List Int} {A B : Option Addr} {c d : Nat} (h : CIn w L kd bl ro ds A B c d) {o : Co} (ho : o = ⟨kd, bl, ro, ds⟩) (hm : MayBe L o) (hf : L.length ≤ 100) (hdr : ds.length ≤ 60) (hpl : (payK (textsL L) o (kindK (textsL L) o)).length ≤ 1000000000000) :
    Calls Tryz.prog 17 #[.slice A L.length c, .agg #[.int .i64 kd, .int .i64 bl, .int .i64 ro, .slice B ds.length d]] w fun r w' => ∃ A' c', r = .returned (.slice A' (codeL L o).length c') ∧ w'.ownsRow w.heap.size 5 1 (.slice A' (codeL L o).length c') (codeL L o).length (bv (codeL L o)) ∧ Below w.heap.size w w' := by
  subst ho
  obtain ⟨w1, hw1⟩ : ∃ w1, w.alloc (.cells #[.int .i64 kd, .int .i64 bl, .int .i64 ro, .slice B ds.length d] 25) = w1 := ⟨_, rfl⟩
  have B1 : Hid (Below w.heap.size w w1) := by unfold Hid; rw [← hw1]; exact (Below.refl _ w).alloc (Nat.le_refl _) _
  have hs1 : w.heap.size < w1.heap.size := by rw [← hw1]; simp
  have hbx : Blk w1 w.heap.size 25 #[.int .i64 kd, .int .i64 bl, .int .i64 ro, .slice B ds.length d] := by rw [← hw1]; exact Blk.new w _ _
  have HBX := Lib.hid hbx
  have HIN : Hid (∀ W, Below w.heap.size w W → CIn W L kd bl ro ds A B c d) := fun W hW => h.on hW
  have hsl := (hm.few).1
  have hss := (hm.few).2
  have htl : (textsL L).length ≤ 100 := Nat.le_trans (textsL_le L) hf
  have HPI : Hid (∀ W A2 c2 k, 0 ≤ k → k ≤ 3 → Below w.heap.size w W → Rd W 0 W.heap.size A2 c2 (sv (textsL L)) → PayIn W (textsL L) k bl ro ds A2 B c2 d) := fun W A2 c2 k hk0 hk3 hW hr => ⟨hr, ((h.on hW).dr), h.word, ⟨hk0, hk3, hm.2.2.2⟩, hsl, by omega, hss⟩
  have HPR := Lib.hid (refPresent_v (w := w1) (A := A) (c := c) L (HIN.out w1 B1.out).row (by omega))
  have hkd := hm.2
  have HKI := Lib.hid (kindK_is (textsL L) hkd)
  have HWR : Hid (∀ W A2 c2, Rd W 0 W.heap.size A2 c2 (lv (thereL L)) → Calls Tryz.prog 42 #[.slice A2 L.length c2] W fun r w' => ∃ A'' c'', r = .returned (.slice A'' (writeB (thereL L)).length c'') ∧ w'.ownsRow W.heap.size 5 1 (.slice A'' (writeB (thereL L)).length c'') (writeB (thereL L)).length (bv (writeB (thereL L))) ∧ Below W.heap.size W w') := fun W A2 c2 hr => by
    have := rbwrite_any (w := W) (A := A2) (c := c2) (thereL L) hr (Nat.le_refl _) (by rw [thereL_length]; omega)
    rw [thereL_length] at this
    exact this
  have HWL : Hid ((writeB (thereL L)).length ≤ 1000000) := bitB_len (thereL L) (by rw [thereL_length]; omega)
  have HCH : Hid (∀ W A2 c2, Below w.heap.size w W → Rd W 0 W.heap.size A2 c2 (sv (textsL L)) → Calls Tryz.prog 15 #[.slice A2 (textsL L).length c2, .agg #[.int .i64 kd, .int .i64 bl, .int .i64 ro, .slice B ds.length d]] W fun r w' => r = .returned (.int .i64 (kindK (textsL L) ⟨kd, bl, ro, ds⟩)) ∧ Below W.heap.size W w') := fun W A2 c2 hW hr =>
    refChosen_v (HPI.out W A2 c2 kd hkd.1 hkd.2.1 hW hr) htl hdr
  have HPY : Hid (∀ W A2 c2, Below w.heap.size w W → Rd W 0 W.heap.size A2 c2 (sv (textsL L)) → Calls Tryz.prog 18 #[.slice A2 (textsL L).length c2, .agg #[.int .i64 (kindK (textsL L) ⟨kd, bl, ro, ds⟩), .int .i64 bl, .int .i64 ro, .slice B ds.length d]] W fun r w' => ∃ A' c', r = .returned (.slice A' (payK (textsL L) ⟨kd, bl, ro, ds⟩ (kindK (textsL L) ⟨kd, bl, ro, ds⟩)).length c') ∧
      w'.ownsRow W.heap.size 5 1 (.slice A' (payK (textsL L) ⟨kd, bl, ro, ds⟩ (kindK (textsL L) ⟨kd, bl, ro, ds⟩)).length c') (payK (textsL L) ⟨kd, bl, ro, ds⟩ (kindK (textsL L) ⟨kd, bl, ro, ds⟩)).length (bv (payK (textsL L) ⟨kd, bl, ro, ds⟩ (kindK (textsL L) ⟨kd, bl, ro, ds⟩))) ∧ Below W.heap.size W w') := fun W A2 c2 hW hr => by
    have hki := HKI.out
    have := refPayload_v (HPI.out W A2 c2 (kindK (textsL L) ⟨kd, bl, ro, ds⟩) (by omega) (by omega) hW hr) (by omega) htl hdr
    rw [payK_kind (textsL L) (kindK (textsL L) ⟨kd, bl, ro, ds⟩) kd] at this
    exact this
  have HPL := Lib.hid hpl
  have HCL : Hid (([UInt8.ofNat (kindK (textsL L) ⟨kd, bl, ro, ds⟩).toNat] ++ writeB (thereL L)) ++ payK (textsL L) ⟨kd, bl, ro, ds⟩ (kindK (textsL L) ⟨kd, bl, ro, ds⟩) = codeL L ⟨kd, bl, ro, ds⟩) := by
    unfold Hid
    rw [List.append_assoc]
    rfl
  clear h hm hkd hsl hss HIN HPI hbx hpl
  generalize codeL L ⟨kd, bl, ro, ds⟩ = F at *
  generalize kindK (textsL L) ⟨kd, bl, ro, ds⟩ = j at *
  generalize payK (textsL L) ⟨kd, bl, ro, ds⟩ j = P at *
  generalize textsL L = S at *
  generalize thereL L = TH at *
  generalize writeB TH = WB at *
  have b0 : w1.cell? ⟨w.heap.size, 0, none⟩ = some (.int .i64 kd) := HBX.out.cell 0
  go_enter Tryz.func17, Tryz.ntmps17
  go_wp2_with fail
  refine HPR.out.mono ?_
  rintro r w2 ⟨A1, c1, A2, c2, rfl, hot, hos, hb2⟩
  have HT2 : Hid (Rd w2 w1.heap.size w2.heap.size A1 c1 (lv TH)) := Rd.of_own hot
  have HS2 : Hid (Rd w2 w1.heap.size w2.heap.size A2 c2 (sv S)) := Rd.of_own hos
  have hsz2 := hb2.size
  have HB2 : Hid (Below w.heap.size w w2) := B1.out.trans (hb2.mono (by omega))
  have HBX2 := Lib.hid (HBX.out.below hb2 hs1)
  have d0 : w2.cell? ⟨w.heap.size, 0, none⟩ = some (.int .i64 kd) := HBX2.out.cell 0
  have d1 : w2.cell? ⟨w.heap.size, 1, none⟩ = some (.int .i64 bl) := HBX2.out.cell 1
  have d2 : w2.cell? ⟨w.heap.size, 2, none⟩ = some (.int .i64 ro) := HBX2.out.cell 2
  have d3 : w2.cell? ⟨w.heap.size, 3, none⟩ = some (.slice B ds.length d) := HBX2.out.cell 3
  have HC2 := Lib.hid (HCH.out w2 A2 c2 HB2.out (HS2.out.wide (Nat.zero_le _) (Nat.le_refl _)))
  clear hot hos hb2 HPR HBX hw1 b0 HCH
  go_wp2_with fail
  refine HC2.out.mono ?_
  rintro r w3 ⟨rfl, hb3⟩
  have HT3 : Hid (Rd w3 w1.heap.size w2.heap.size A1 c1 (lv TH)) := HT2.out.below hb3 (Nat.le_refl _)
  have HS3 : Hid (Rd w3 w1.heap.size w2.heap.size A2 c2 (sv S)) := HS2.out.below hb3 (Nat.le_refl _)
  have HBX3 := Lib.hid (HBX2.out.below hb3 (by omega))
  have hsz3 := hb3.size
  have HB3 : Hid (Below w.heap.size w w3) := HB2.out.trans (hb3.mono (by omega))
  have z0 : w3.cell? ⟨w.heap.size, 0, none⟩ = some (.int .i64 kd) := HBX3.out.cell 0
  have fz0 := HBX3.out.frozen 0
  obtain ⟨w4, hw4⟩ : ∃ w4, w3.setCell ⟨w.heap.size, 0, none⟩ (.int .i64 j) = w4 := ⟨_, rfl⟩
  have HBX4 : Hid (Blk w4 w.heap.size 25 #[.int .i64 j, .int .i64 bl, .int .i64 ro, .slice B ds.length d]) := by unfold Hid; rw [← hw4]; exact HBX3.out.put 0 _
  have hs4 : w4.heap.size = w3.heap.size := by rw [← hw4]; simp [World.setCell]
  have HB4 : Hid (Below w.heap.size w w4) := by unfold Hid; rw [← hw4]; exact HB3.out.setCell (p := ⟨w.heap.size, 0, none⟩) (Nat.le_refl _) _
  have HT4 : Hid (Rd w4 0 w4.heap.size A1 c1 (lv TH)) := by unfold Hid; rw [← hw4]; exact (HT3.out.setCell (p := ⟨w.heap.size, 0, none⟩) (.inl hs1) _).wide (Nat.zero_le _) (by simp [World.setCell]; omega)
  have HS4 : Hid (Rd w4 0 w4.heap.size A2 c2 (sv S)) := by unfold Hid; rw [← hw4]; exact (HS3.out.setCell (p := ⟨w.heap.size, 0, none⟩) (.inl hs1) _).wide (Nat.zero_le _) (by simp [World.setCell]; omega)
  have HCF : Hid (∀ W, Below w4.heap.size w4 W → W.cell? ⟨w.heap.size, 0, none⟩ = some (.int .i64 j) ∧ W.cell? ⟨w.heap.size, 1, none⟩ = some (.int .i64 bl) ∧ W.cell? ⟨w.heap.size, 2, none⟩ = some (.int .i64 ro) ∧ W.cell? ⟨w.heap.size, 3, none⟩ = some (.slice B ds.length d)) := fun W hW => ⟨(HBX4.out.below hW HBX4.out.lt).cell 0, (HBX4.out.below hW HBX4.out.lt).cell 1, (HBX4.out.below hW HBX4.out.lt).cell 2, (HBX4.out.below hW HBX4.out.lt).cell 3⟩
  have HPX : Hid (∀ W, Below w4.heap.size w4 W → Calls Tryz.prog 18 #[.slice A2 S.length c2, .agg #[.int .i64 j, .int .i64 bl, .int .i64 ro, .slice B ds.length d]] W fun r w' => ∃ A' c', r = .returned (.slice A' P.length c') ∧ w'.ownsRow W.heap.size 5 1 (.slice A' P.length c') P.length (bv P) ∧ Below W.heap.size W w') := fun W hW => HPY.out W A2 c2 (HB4.out.trans (hW.mono HB4.out.size)) ((HS4.out.below hW (Nat.le_refl _)).wide (Nat.le_refl _) hW.size)
  have HWX : Hid (∀ W, Below w4.heap.size w4 W → Calls Tryz.prog 42 #[.slice A1 L.length c1] W fun r w' => ∃ A' c', r = .returned (.slice A' WB.length c') ∧ w'.ownsRow W.heap.size 5 1 (.slice A' WB.length c') WB.length (bv WB) ∧ Below W.heap.size W w') := fun W hW => HWR.out W A1 c1 ((HT4.out.below hW (Nat.le_refl _)).wide (Nat.le_refl _) hW.size)
  have hwr : IntKind.u8.wrap j = j := u8_wrap (by have := HKI.out; omega) (by have := HKI.out; omega)
  have hjb : Hid (j = ((UInt8.ofNat j.toNat).toNat : Int)) := by unfold Hid; have := HKI.out; simp; omega
  obtain ⟨bj, hbj⟩ : ∃ bj, UInt8.ofNat j.toNat = bj := ⟨_, rfl⟩
  rw [hbj] at HCL hjb
  obtain ⟨X1, hX1⟩ : ∃ X1, [bj] ++ WB = X1 := ⟨_, rfl⟩
  have HX1 := Lib.hid hX1
  have HX1L : Hid (X1.length ≤ 1000001) := by unfold Hid; rw [← hX1, List.length_append]; have := HWL.out; simp; omega
  rw [hX1] at HCL
  clear hb3 HB2 HBX2 HC2 HBX3 HB3 HT3 HS3 hX1 hbj HWR HPY HT2 HS2 d0 d1 d2 d3
  go_wp2_with fail
  clear hw4 z0 fz0
  have KD : Hid (Below w4.heap.size w4 w4.drew) := (Below.refl _ _).drew
  refine wp_region_held_drew (S := fun w' => Below w4.heap.size w4 w') (by kernel_rfl) KD.out (fun hHeld => ?_)
  refine wpAnyH_take (i := 0) (oi := _) (v := ?_) rfl (by kernel_rfl) (by kernel_rfl) (by kernel_rfl) (fun _ _ _ h => h) (Or.inl ⟨by rfl, ?_⟩) hHeld ?_
  rotate_left
  focus (intro W hSw; obtain ⟨q0, q1, q2, q3⟩ := HCF.out W hSw; go_simp; try with_reducible rfl)
  try simp only [List.getElem_toArray, List.getElem_cons_zero, List.getElem_cons_succ, Act.put, List.setIfInBounds_toArray, List.set_cons_zero, List.set_cons_succ]
  refine wpAnyH_take (i := 1) (oi := _) (v := ?_) rfl (by kernel_rfl) (by kernel_rfl) (by kernel_rfl) (fun _ _ _ h => h) (Or.inl ⟨by rfl, ?_⟩) hHeld ?_
  rotate_left
  focus (intro W hSw; obtain ⟨q0, q1, q2, q3⟩ := HCF.out W hSw; go_simp; try with_reducible rfl)
  try simp only [List.getElem_toArray, List.getElem_cons_zero, List.getElem_cons_succ, Act.put, List.setIfInBounds_toArray, List.set_cons_zero, List.set_cons_succ]
  refine wpAnyH_take (i := 2) (oi := _) (v := ?_) rfl (by kernel_rfl) (by kernel_rfl) (by kernel_rfl) (fun _ _ _ h => h) (Or.inl ⟨by rfl, ?_⟩) hHeld ?_
  rotate_left
  focus (intro W hSw; obtain ⟨q0, q1, q2, q3⟩ := HCF.out W hSw; go_simp; try with_reducible rfl)
  try simp only [List.getElem_toArray, List.getElem_cons_zero, List.getElem_cons_succ, Act.put, List.setIfInBounds_toArray, List.set_cons_zero, List.set_cons_succ]
  refine wpAnyH_take (i := 4) (oi := _) (v := ?_) rfl (by kernel_rfl) (by kernel_rfl) (by kernel_rfl) (fun _ _ _ h => h) (Or.inl ⟨by rfl, ?_⟩) hHeld ?_
  rotate_left
  focus (intro W hSw; obtain ⟨q0, q1, q2, q3⟩ := HCF.out W hSw; go_simp; try with_reducible rfl)
  try simp only [List.getElem_toArray, List.getElem_cons_zero, List.getElem_cons_succ, Act.put, List.setIfInBounds_toArray, List.set_cons_zero, List.set_cons_succ]
  refine wpAnyH_take (i := 7) (oi := _) (v := ?_) rfl (by kernel_rfl) (by kernel_rfl) (by kernel_rfl) (fun _ _ _ h => h) (Or.inl ⟨by rfl, ?_⟩) hHeld ?_
  rotate_left
  focus (intro W hSw; obtain ⟨q0, q1, q2, q3⟩ := HCF.out W hSw; go_simp; try with_reducible rfl)
  try simp only [List.getElem_toArray, List.getElem_cons_zero, List.getElem_cons_succ, Act.put, List.setIfInBounds_toArray, List.set_cons_zero, List.set_cons_succ]
  refine wpAnyH_take (i := 8) (oi := _) (v := ?_) rfl (by kernel_rfl) (by kernel_rfl) (by kernel_rfl) (fun _ _ _ h => h) (Or.inl ⟨by rfl, ?_⟩) hHeld ?_
  rotate_left
  focus (intro W hSw; obtain ⟨q0, q1, q2, q3⟩ := HCF.out W hSw; go_simp; try with_reducible rfl)
  try simp only [List.getElem_toArray, List.getElem_cons_zero, List.getElem_cons_succ, Act.put, List.setIfInBounds_toArray, List.set_cons_zero, List.set_cons_succ]
  obtain ⟨wd, hwd⟩ : ∃ q, w4.drew = q := ⟨_, rfl⟩
  rw [hwd] at hHeld ⊢
  clear KD hwd
  have K_wd := Lib.hid hHeld
  refine wpAnyH_ready (rs := [3, 5]) (by kernel_rfl) (by simp) ?_
  refine AllReadyH.cons (o := _) rfl (fun K hK => ?_) (AllReadyH.cons (o := _) rfl (fun K hK => ?_) AllReadyH.nil)
  · go_simp
    obtain ⟨v1, hw_v1⟩ : ∃ q, wd.alloc (.cells #[.int .u8 j] 5) = q := ⟨_, rfl⟩
    rw [hw_v1]
    have hb_v1 : Below wd.heap.size wd v1 := by rw [← hw_v1]; exact (Below.refl _ _).alloc (Nat.le_refl _) _
    have z_v1 : wd.heap.size < v1.heap.size := by rw [← hw_v1]; simp
    have s_v1 : wd.heap.size ≤ v1.heap.size := hb_v1.size
    have K_v1 : Hid (Below w4.heap.size w4 v1) := Lib.hid (K_wd.out.trans (hb_v1.mono K_wd.out.size))
    have Hl_v1 : Hid (v1.ownsRow w4.heap.size 5 1 (.slice (some ⟨wd.heap.size, 0, none⟩) 1 1) 1 (bv [bj])) := by unfold Hid; rw [← hw_v1]; exact own_base (own_byte wd 5 j bj hjb.out) K_wd.out.size
    clear hb_v1
    clear hw_v1
    refine hK.out _ _ K_v1.out (fun hHeld => ?_)
    clear hK K
    try simp only [List.getElem_toArray, List.getElem_cons_zero, List.getElem_cons_succ, Act.put, List.setIfInBounds_toArray, List.set_cons_zero, List.set_cons_succ]
    refine wpAnyH_ready (rs := [5]) (by kernel_rfl) (by simp) ?_
    refine AllReadyH.cons (o := _) rfl (fun K hK => ?_) AllReadyH.nil
    go_simp
    refine (HWX.out _ K_v1.out).mono ?_
    rintro r v2 ⟨Ab, cb, rfl, hob, hb_v2⟩
    have s_v2 : v1.heap.size ≤ v2.heap.size := hb_v2.size
    have K_v2 : Hid (Below w4.heap.size w4 v2) := Lib.hid (K_v1.out.trans (hb_v2.mono K_v1.out.size))
    have Hl_v2 : Hid (v2.ownsRow w4.heap.size 5 1 (.slice (some ⟨wd.heap.size, 0, none⟩) 1 1) 1 (bv [bj])) := own_below Hl_v1.out hb_v2 (Nat.le_refl _)
    have Hb_v2 : Hid (Rd v2 0 v2.heap.size Ab cb (bv WB)) := (Rd.of_own hob).wide (Nat.zero_le _) (Nat.le_refl _)
    clear hb_v2
    clear hob
    refine hK.out _ _ K_v2.out (fun hHeld => ?_)
    clear hK K
    try simp only [List.getElem_toArray, List.getElem_cons_zero, List.getElem_cons_succ, Act.put, List.setIfInBounds_toArray, List.set_cons_zero, List.set_cons_succ]
    refine wpAnyH_ready (rs := [6]) (by kernel_rfl) (by simp) ?_
    refine AllReadyH.cons (o := _) rfl (fun K hK => ?_) AllReadyH.nil
    obtain ⟨A5, c5, v3, hrun_v3, hx_v3, hg_v3, -⟩ := append_bytes_at v2 w4.heap.size (.slice (some ⟨wd.heap.size, 0, none⟩) 1 1) [bj] WB X1 HX1.out Hl_v2.out Hb_v2.out (by have := HWL.out; simp; omega) K_v2.out.size
    have s_v3 : v2.heap.size ≤ v3.heap.size := hg_v3.size
    have K_v3 : Hid (Below w4.heap.size w4 v3) := Lib.hid (K_v2.out.grown hg_v3 K_v2.out.size (fun q hq => (own_lt Hl_v2.out hq).1))
    have Hx_v3 : Hid (v3.ownsRow w4.heap.size 5 1 (.slice A5 X1.length c5) X1.length (bv X1)) := hx_v3
    refine oper_append_run (.tmp 19) (.tmp 21) _ _ rfl rfl rfl hrun_v3 ?_
    clear hrun_v3 hx_v3 hg_v3
    refine hK.out _ _ K_v3.out (fun hHeld => ?_)
    clear hK K
    try simp only [List.getElem_toArray, List.getElem_cons_zero, List.getElem_cons_succ, Act.put, List.setIfInBounds_toArray, List.set_cons_zero, List.set_cons_succ]
    refine wpAnyH_ready (rs := [9]) (by kernel_rfl) (by simp) ?_
    refine AllReadyH.cons (o := _) rfl (fun K hK => ?_) AllReadyH.nil
    go_simp
    refine (HPX.out _ K_v3.out).mono ?_
    rintro r v4 ⟨Ap, cp, rfl, hop, hb_v4⟩
    have s_v4 : v3.heap.size ≤ v4.heap.size := hb_v4.size
    have K_v4 : Hid (Below w4.heap.size w4 v4) := Lib.hid (K_v3.out.trans (hb_v4.mono K_v3.out.size))
    have Hx_v4 : Hid (v4.ownsRow w4.heap.size 5 1 (.slice A5 X1.length c5) X1.length (bv X1)) := own_below Hx_v3.out hb_v4 (Nat.le_refl _)
    have Hp_v4 : Hid (Rd v4 v3.heap.size v4.heap.size Ap cp (bv P)) := Rd.of_own hop
    clear hb_v4
    clear hop
    refine hK.out _ _ K_v4.out (fun hHeld => ?_)
    clear hK K
    try simp only [List.getElem_toArray, List.getElem_cons_zero, List.getElem_cons_succ, Act.put, List.setIfInBounds_toArray, List.set_cons_zero, List.set_cons_succ]
    refine wpAnyH_ready (rs := [10]) (by kernel_rfl) (by simp) ?_
    refine AllReadyH.cons (o := _) rfl (fun K hK => ?_) AllReadyH.nil
    obtain ⟨A6, c6, v5, hrun_v5, hx_v5, hg_v5, -⟩ := append_bytes_at v4 w4.heap.size (.slice A5 X1.length c5) X1 P F HCL.out Hx_v4.out Hp_v4.out (by have := HX1L.out; have := HPL.out; omega) K_v4.out.size
    have s_v5 : v4.heap.size ≤ v5.heap.size := hg_v5.size
    have K_v5 : Hid (Below w4.heap.size w4 v5) := Lib.hid (K_v4.out.grown hg_v5 K_v4.out.size (fun q hq => (own_lt Hx_v4.out hq).1))
    have Hy_v5 : Hid (v5.ownsRow w4.heap.size 5 1 (.slice A6 F.length c6) F.length (bv F)) := hx_v5
    refine oper_append_run (.tmp 22) (.tmp 25) _ _ rfl rfl rfl hrun_v5 ?_
    clear hrun_v5 hx_v5 hg_v5
    refine hK.out _ _ K_v5.out (fun hHeld => ?_)
    clear hK K
    try simp only [List.getElem_toArray, List.getElem_cons_zero, List.getElem_cons_succ, Act.put, List.setIfInBounds_toArray, List.set_cons_zero, List.set_cons_succ]
    refine wpAnyH_take (i := 11) (oi := _) (v := ?_) rfl (by kernel_rfl) (by kernel_rfl) (by kernel_rfl) (fun _ _ _ h => h) (Or.inl ⟨by rfl, ?_⟩) hHeld ?_
    rotate_left
    focus (intro W hSw; obtain ⟨q0, q1, q2, q3⟩ := HCF.out W hSw; go_simp; try with_reducible rfl)
    try simp only [List.getElem_toArray, List.getElem_cons_zero, List.getElem_cons_succ, Act.put, List.setIfInBounds_toArray, List.set_cons_zero, List.set_cons_succ]
    refine wpAnyH_done (by kernel_rfl) ?_ _
    go_wp2_with fail
    go_ret
    exact ⟨_, _, rfl, own_base Hy_v5.out HB4.out.size, HB4.out.trans (K_v5.out.mono HB4.out.size)⟩
  · go_simp
    refine (HWX.out _ K_wd.out).mono ?_
    rintro r v6 ⟨Ab, cb, rfl, hob, hb_v6⟩
    have s_v6 : wd.heap.size ≤ v6.heap.size := hb_v6.size
    have K_v6 : Hid (Below w4.heap.size w4 v6) := Lib.hid (K_wd.out.trans (hb_v6.mono K_wd.out.size))
    have Hb_v6 : Hid (Rd v6 0 v6.heap.size Ab cb (bv WB)) := (Rd.of_own hob).wide (Nat.zero_le _) (Nat.le_refl _)
    clear hb_v6
    clear hob
    refine hK.out _ _ K_v6.out (fun hHeld => ?_)
    clear hK K
    try simp only [List.getElem_toArray, List.getElem_cons_zero, List.getElem_cons_succ, Act.put, List.setIfInBounds_toArray, List.set_cons_zero, List.set_cons_succ]
    refine wpAnyH_ready (rs := [3]) (by kernel_rfl) (by simp) ?_
    refine AllReadyH.cons (o := _) rfl (fun K hK => ?_) AllReadyH.nil
    go_simp
    obtain ⟨v7, hw_v7⟩ : ∃ q, v6.alloc (.cells #[.int .u8 j] 5) = q := ⟨_, rfl⟩
    rw [hw_v7]
    have hb_v7 : Below v6.heap.size v6 v7 := by rw [← hw_v7]; exact (Below.refl _ _).alloc (Nat.le_refl _) _
    have z_v7 : v6.heap.size < v7.heap.size := by rw [← hw_v7]; simp
    have s_v7 : v6.heap.size ≤ v7.heap.size := hb_v7.size
    have K_v7 : Hid (Below w4.heap.size w4 v7) := Lib.hid (K_v6.out.trans (hb_v7.mono K_v6.out.size))
    have Hb_v7 : Hid (Rd v7 0 v7.heap.size Ab cb (bv WB)) := (Hb_v6.out.below hb_v7 (Nat.le_refl _)).wide (Nat.le_refl _) hb_v7.size
    have Hl_v7 : Hid (v7.ownsRow w4.heap.size 5 1 (.slice (some ⟨v6.heap.size, 0, none⟩) 1 1) 1 (bv [bj])) := by unfold Hid; rw [← hw_v7]; exact own_base (own_byte v6 5 j bj hjb.out) K_v6.out.size
    clear hb_v7
    clear hw_v7
    refine hK.out _ _ K_v7.out (fun hHeld => ?_)
    clear hK K
    try simp only [List.getElem_toArray, List.getElem_cons_zero, List.getElem_cons_succ, Act.put, List.setIfInBounds_toArray, List.set_cons_zero, List.set_cons_succ]
    refine wpAnyH_ready (rs := [6]) (by kernel_rfl) (by simp) ?_
    refine AllReadyH.cons (o := _) rfl (fun K hK => ?_) AllReadyH.nil
    obtain ⟨A5, c5, v8, hrun_v8, hx_v8, hg_v8, -⟩ := append_bytes_at v7 w4.heap.size (.slice (some ⟨v6.heap.size, 0, none⟩) 1 1) [bj] WB X1 HX1.out Hl_v7.out Hb_v7.out (by have := HWL.out; simp; omega) K_v7.out.size
    have s_v8 : v7.heap.size ≤ v8.heap.size := hg_v8.size
    have K_v8 : Hid (Below w4.heap.size w4 v8) := Lib.hid (K_v7.out.grown hg_v8 K_v7.out.size (fun q hq => (own_lt Hl_v7.out hq).1))
    have Hx_v8 : Hid (v8.ownsRow w4.heap.size 5 1 (.slice A5 X1.length c5) X1.length (bv X1)) := hx_v8
    refine oper_append_run (.tmp 19) (.tmp 21) _ _ rfl rfl rfl hrun_v8 ?_
    clear hrun_v8 hx_v8 hg_v8
    refine hK.out _ _ K_v8.out (fun hHeld => ?_)
    clear hK K
    try simp only [List.getElem_toArray, List.getElem_cons_zero, List.getElem_cons_succ, Act.put, List.setIfInBounds_toArray, List.set_cons_zero, List.set_cons_succ]
    refine wpAnyH_ready (rs := [9]) (by kernel_rfl) (by simp) ?_
    refine AllReadyH.cons (o := _) rfl (fun K hK => ?_) AllReadyH.nil
    go_simp
    refine (HPX.out _ K_v8.out).mono ?_
    rintro r v9 ⟨Ap, cp, rfl, hop, hb_v9⟩
    have s_v9 : v8.heap.size ≤ v9.heap.size := hb_v9.size
    have K_v9 : Hid (Below w4.heap.size w4 v9) := Lib.hid (K_v8.out.trans (hb_v9.mono K_v8.out.size))
    have Hx_v9 : Hid (v9.ownsRow w4.heap.size 5 1 (.slice A5 X1.length c5) X1.length (bv X1)) := own_below Hx_v8.out hb_v9 (Nat.le_refl _)
    have Hp_v9 : Hid (Rd v9 v8.heap.size v9.heap.size Ap cp (bv P)) := Rd.of_own hop
    clear hb_v9
    clear hop
    refine hK.out _ _ K_v9.out (fun hHeld => ?_)
    clear hK K
    try simp only [List.getElem_toArray, List.getElem_cons_zero, List.getElem_cons_succ, Act.put, List.setIfInBounds_toArray, List.set_cons_zero, List.set_cons_succ]
    refine wpAnyH_ready (rs := [10]) (by kernel_rfl) (by simp) ?_
    refine AllReadyH.cons (o := _) rfl (fun K hK => ?_) AllReadyH.nil
    obtain ⟨A6, c6, v10, hrun_v10, hx_v10, hg_v10, -⟩ := append_bytes_at v9 w4.heap.size (.slice A5 X1.length c5) X1 P F HCL.out Hx_v9.out Hp_v9.out (by have := HX1L.out; have := HPL.out; omega) K_v9.out.size
    have s_v10 : v9.heap.size ≤ v10.heap.size := hg_v10.size
    have K_v10 : Hid (Below w4.heap.size w4 v10) := Lib.hid (K_v9.out.grown hg_v10 K_v9.out.size (fun q hq => (own_lt Hx_v9.out hq).1))
    have Hy_v10 : Hid (v10.ownsRow w4.heap.size 5 1 (.slice A6 F.length c6) F.length (bv F)) := hx_v10
    refine oper_append_run (.tmp 22) (.tmp 25) _ _ rfl rfl rfl hrun_v10 ?_
    clear hrun_v10 hx_v10 hg_v10
    refine hK.out _ _ K_v10.out (fun hHeld => ?_)
    clear hK K
    try simp only [List.getElem_toArray, List.getElem_cons_zero, List.getElem_cons_succ, Act.put, List.setIfInBounds_toArray, List.set_cons_zero, List.set_cons_succ]
    refine wpAnyH_take (i := 11) (oi := _) (v := ?_) rfl (by kernel_rfl) (by kernel_rfl) (by kernel_rfl) (fun _ _ _ h => h) (Or.inl ⟨by rfl, ?_⟩) hHeld ?_
    rotate_left
    focus (intro W hSw; obtain ⟨q0, q1, q2, q3⟩ := HCF.out W hSw; go_simp; try with_reducible rfl)
    try simp only [List.getElem_toArray, List.getElem_cons_zero, List.getElem_cons_succ, Act.put, List.setIfInBounds_toArray, List.set_cons_zero, List.set_cons_succ]
    refine wpAnyH_done (by kernel_rfl) ?_ _
    go_wp2_with fail
    go_ret
    exact ⟨_, _, rfl, own_base Hy_v10.out HB4.out.size, HB4.out.trans (K_v10.out.mono HB4.out.size)⟩
end Go.Proofs.YtmffpbhiehjlpaaGreat
namespace Go.Proofs.YtmffpbhiehjlpaaGreat
set_option linter.unusedSimpArgs false
set_option linter.unusedVariables false
open Go.RowKit
theorem spread_forms {α : Type} (P : α → Prop) : ∀ (t : List Bool) (l : List α) (d : α), P d → (∀ x ∈ l, P x) → ∀ x ∈ spreadL t l d, P x
  | [], l, d, hd, hl, x, hx => by cases l <;> cases hx
  | true :: t, [], d, hd, hl, x, hx => by
    rw [spreadL] at hx
    rcases List.mem_cons.1 hx with rfl | hx
    · exact hd
    · exact spread_forms P t [] d hd hl x hx
  | true :: t, a :: l, d, hd, hl, x, hx => by
    rw [spreadL] at hx
    rcases List.mem_cons.1 hx with rfl | hx
    · exact hl _ List.mem_cons_self
    · exact spread_forms P t l d hd (fun y hy => hl y (List.mem_cons_of_mem _ hy)) x hx
  | false :: t, l, d, hd, hl, x, hx => by
    have h : x ∈ d :: spreadL t l d := by cases l <;> simpa [spreadL] using hx
    rcases List.mem_cons.1 h with rfl | hx
    · exact hd
    · exact spread_forms P t l d hd hl x hx
theorem vals_fits {c : Chk} (h : ChkOk c) : FitsV (valsC c) := by
  refine ⟨by rw [valsC_length]; exact h.few, ?_⟩
  refine spread_forms VlOk _ _ _ ⟨Nat.zero_le _, fun _ => rfl⟩ fun x hx => ?_
  obtain ⟨s, hs, rfl⟩ := List.mem_map.1 hx
  exact ⟨strC_size h s hs, fun h => by cases h⟩
theorem spread_there : ∀ (t : List Bool) (l : List ByteArray), l.length = cnt t → thereL (spreadL t (l.map (Vl.mk false)) ⟨true, ⟨#[]⟩⟩) = t ∧ textsL (spreadL t (l.map (Vl.mk false)) ⟨true, ⟨#[]⟩⟩) = l
  | [], l, h => by
    obtain rfl : l = [] := List.eq_nil_of_length_eq_zero (by simpa [cnt] using h)
    exact ⟨rfl, rfl⟩
  | true :: t, [], h => by simp [cnt] at h
  | true :: t, a :: l, h => by
    obtain ⟨h1, h2⟩ := spread_there t l (by simpa [cnt] using h)
    rw [List.map_cons, spreadL]
    exact ⟨by simp [thereL] at h1 ⊢; exact h1, by simp [textsL] at h2 ⊢; exact h2⟩
  | false :: t, l, h => by
    obtain ⟨h1, h2⟩ := spread_there t l (by simpa [cnt] using h)
    have e : spreadL (false :: t) (l.map (Vl.mk false)) ⟨true, ⟨#[]⟩⟩ = ⟨true, ⟨#[]⟩⟩ :: spreadL t (l.map (Vl.mk false)) ⟨true, ⟨#[]⟩⟩ := by cases l <;> rfl
    rw [e]
    exact ⟨by simp [thereL] at h1 ⊢; exact h1, by simp [textsL] at h2 ⊢; exact h2⟩
theorem vals_there {c : Chk} (h : ChkOk c) : thereL (valsC c) = c.there := (spread_there _ _ (strC_length h)).1
theorem vals_texts {c : Chk} (h : ChkOk c) : textsL (valsC c) = strC c := (spread_there _ _ (strC_length h)).2
theorem plain_code {c : Chk} (h : ChkOk c) (h1 : c.kind = 1) (K : Nat) (o : Co) (ho : o.kind = 1) : codeL (valsC c) o = chkB K c ∧ kindK (textsL (valsC c)) o = 1 ∧ (payK (textsL (valsC c)) o 1).length < (chkB K c).length := by
  have hk : kindK (textsL (valsC c)) o = 1 := by rw [kindK, if_neg (by omega), ho]
  have hp : payK (textsL (valsC c)) o 1 = joinB c.raws := by
    rw [payK, if_neg (by decide), if_neg (by decide), vals_texts h, strC, if_neg (by omega), if_neg (by omega), bytL2_strsL]
  have he : chkB K c = UInt8.ofNat 1 :: (writeB c.there ++ joinB c.raws) := by rw [chkB, if_pos h1, h1]
  refine ⟨?_, hk, ?_⟩
  · rw [codeL, hk, hp, vals_there h, he]
    rfl
  · rw [hp, he]
    simp
    omega
theorem open_head {bs : List UInt8} {c : Chk} {K k2 : Nat} (h : bs.drop 0 = chkB K c ++ bs.drop k2) : bs[0]? = some (UInt8.ofNat c.kind) := by
  rw [List.drop_zero] at h
  rw [h]
  rfl
end Go.Proofs.YtmffpbhiehjlpaaGreat
