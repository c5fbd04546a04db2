/-
  The document's Put and Write of layer 4: bit by bit.
-/
import Derived.Test.YtepgkdmfoojppaaMgP
import Derived.Test.YtepgkdmfoojppaaMgB
import Derived.Test.YtepgkdmfoojppaaRefE
import Derived.Deep.QuietTactic
import Derived.StillTailTactics
import Derived.Laws.OwnMore
namespace Go.Proofs.Ytepgkdmfoojppaa
set_option linter.unusedSimpArgs false
set_option linter.unusedVariables false
open Go.RowKit

theorem packB_bits {l : List Bool} {ys : List UInt8} (h : BitsAt l.length (bsum l l.length) ys) : ys = packB l := h.2

set_option maxRecDepth 20000 in
set_option maxHeartbeats 1000000 in
theorem rbput_any {w : World} (l : List Bool) {h' : Nat} {A : Option Addr} {c : Nat} (h : Rd w 0 h' A c (lv l)) (hh : h' ≤ w.heap.size) (hlen : l.length ≤ 140737488355328) :
    Calls Try.prog 57 #[.slice A l.length c] w fun r w' => ∃ A' c', r = .returned (.slice A' (packB l).length c') ∧
      w'.ownsRow w.heap.size 5 1 (.slice A' (packB l).length c') (packB l).length (bv (packB l)) ∧ Below w.heap.size w w' := by
  have hl := h.len
  have hc := h.cap
  rw [lv_length] at hl
  unfold maxLen at hc
  have H := Lib.hid h
  clear h
  go_enter Try.func57, Try.ntmps57
  go_wp2_with fail
  go_loopw [3, 4] (fun b i wr => ∃ (n : Nat) (ys : List UInt8) (A' : Option Addr) (c' : Nat), n ≤ l.length ∧ i = .int .i64 (n : Int) ∧ b = .slice A' ys.length c' ∧
      BitsAt n (bsum l n) ys ∧ wr.ownsRow w.heap.size 5 1 (.slice A' ys.length c') ys.length (bv ys) ∧ Below w.heap.size w wr) (fun _ i _ => l.length - (intOf i).toNat)
  case atStart => exact ⟨0, [], none, 0, Nat.zero_le _, rfl, rfl, bitsAt_zero, World.ownsRow_nil .., Below.refl _ _⟩
  case round =>
    obtain ⟨n, ys1, A1, c1, hn, rfl, rfl, hin, hown1, hbel1⟩ := hrel
    have HIN := Lib.hid hin
    have HO1 := Lib.hid hown1
    have HB1 := Lib.hid hbel1
    have hsz1 := hbel1.size
    have hyl := Nat.le_of_eq (bitsAt_len hin)
    clear hin hown1 hbel1
    by_cases hlt : n < l.length
    · obtain ⟨b, off, rfl, _, hbh0, hcw⟩ := H.out.row hlt
      have hbh : b < w.heap.size := Nat.lt_of_lt_of_le hbh0 hh
      have HCW := Lib.hid hcw
      have HNO := Lib.hid (bsum_no l n hlt)
      have HYES := Lib.hid (bsum_yes l n hlt)
      clear hcw
      generalize l[n] = x at *
      by_cases h8 : n % 8 = 0
      · have HOP := Lib.hid (openAt_push HIN.out h8)
        have hL : (ys1 ++ [0]).length = ys1.length + 1 := by simp
        go_wp2_with (at_builtin; refine wpList_push (v := .slice A1 ys1.length c1) w.heap.size ys1 0 rfl _ _ rfl rfl rfl rfl (by rw [World.cell?_alloc_at _ _ _ _ rfl]; rfl) (HO1.out.alloc _) (by omega) (by simp; omega) ?_; intro A2 c2 w2 hown2 hgr2; refine held ?_)
        refine ⟨?_⟩
        have HB2 := Lib.hid ((HB1.out.alloc hsz1 _).grown hgr2 (by simp; omega) (fun k hk => own_row HO1.out k hk))
        rw [hL] at hown2
        have HO2 := Lib.hid hown2
        have HL := Lib.hid hL
        clear hown2 hgr2 hL
        generalize ys1 ++ [0] = ys2 at *
        generalize hLe : ys1.length + 1 = L at *
        have hLn : L = n / 8 + 1 := by rw [← HL.out]; exact openAt_len HOP.out
        have hL1 : L ≤ n / 8 + 1 := by omega
        have hL2 : n / 8 < L := by omega
        have HN8 := Lib.hid h8
        clear hLe hLn h8
        obtain ⟨g, rfl, hg1, hg2⟩ := own_spot HO2.out (by omega)
        have hcell2 : w2.cell? ⟨b, off + n, none⟩ = some (.bool x) := (HB2.out.cell (p := ⟨b, off + n, none⟩) hbh).trans HCW.out
        cases x
        · have HNX := HNO.out rfl
          clear HNO HYES
          go_wp2
          go_roundw
          case rel =>
            refine ⟨n + 1, ys2, some ⟨g, 0, none⟩, c2, by omega, by go_num, ?_, ?_, ?_, HB2.out⟩
            · rw [HL.out]
            · rw [HNX]; exact bitsAt_none HOP.out
            · rw [HL.out]; exact HO2.out
          case measure => simp [intOf]; omega
        · have HNX := HYES.out rfl
          clear HNO HYES
          have HNXH := Lib.hid HNX
          clear HNX
          go_wp2_with fail
          have hy0 : n / 8 < ys2.length := by rw [HL.out]; exact hL2
          obtain ⟨y0, hy0e⟩ : ∃ y0, ys2[n / 8]? = some y0 := ⟨_, List.getElem?_eq_getElem hy0⟩
          have hload : w2.drew.cell? ⟨g, n / 8, none⟩ = some (.int .u8 (y0.toNat : Int)) := by
            have h1 := HO2.out.cellAt (n / 8) (by omega)
            have h2 : (bv ys2)[n / 8]? = some (.int .u8 (y0.toNat : Int)) := by simp [bv, hy0e]
            exact h1.trans h2
          have hfr : w2.drew.frozen? ⟨g, n / 8, none⟩ = false := HO2.out.frozenAt (n / 8)
          have HO3 : Hid (w2.drew.ownsRow w.heap.size 5 1 (.slice (some ⟨g, 0, none⟩) L c2) L (bv ys2)) := HO2.out
          have HB3 : Hid (Below w.heap.size w w2.drew) := below_drewN' HB2.out 1
          have HP3 := Lib.hid (power_any (w := w2.drew) (n % 8) (by omega))
          have hn8 : (n : Int) / 8 = ((n / 8 : Nat) : Int) := by omega
          have hn8' : (n : Int) % 8 = ((n % 8 : Nat) : Int) := by omega
          have hn8t : (n : Int).tmod 8 = ((n % 8 : Nat) : Int) := by rw [Int.tmod_eq_emod_of_nonneg (by omega)]; omega
          have HW := Lib.hid (bitsAt_one HOP.out y0 hy0e)
          have hyb := HW.out.1
          have hy256 := UInt8.toNat_lt y0
          generalize 2 ^ (n % 8) = pr at *
          refine wp_region_still_tail 13 (by kernel_rfl) (by kernel_rfl) ?_
          change wpStill _ _ w2.drew (fun a' => wpList _ _ _ _ a' w2.drew) _ _
          generalize w2.drew = w4 at *
          generalize hq8 : n / 8 = q at *
          generalize hr8 : n % 8 = r at *
          clear hq8 hr8
          simp only [List.take_succ_cons, List.take_zero, List.drop_succ_cons, List.drop_zero]
          have hqw : IntKind.i64.wrap (q : Int) = (q : Int) := IntWalk.i64_in _ (by omega)
          have hrw : IntKind.i64.wrap (r : Int) = (r : Int) := IntWalk.i64_in _ (by omega)
          have hpw : IntKind.u8.wrap (pr : Int) = (pr : Int) := by rw [IntKind.wrap_u8]; omega
          have hsum : IntKind.u8.wrap ((y0.toNat : Int) + (pr : Int)) = ((y0.toNat + pr : Nat) : Int) := by rw [IntKind.wrap_u8]; omega
          repeat still_step
          refine wpStill_step (fun K hK => ?_)
          go_simp
          refine ⟨_, HP3.out.mono fun _ _ ⟨a, b⟩ => ⟨a, b.symm⟩, hK _ ?_⟩
          clear hK K
          repeat still_step
          refine wpStill_nil ?_
          go_wp2
          go_roundw
          case rel =>
            have hst := HO3.out.stored q (.int .u8 ((y0.toNat : Int) + (pr : Int)))
            have hbn : (UInt8.ofNat (y0.toNat + pr)).toNat = y0.toNat + pr := by rw [UInt8.toNat_ofNat']; omega
            have hbs : bv (ys2.set q (UInt8.ofNat (y0.toNat + pr))) = (bv ys2).set q (.int .u8 ((y0.toNat : Int) + (pr : Int))) := by
              rw [bv_set, hbn]
              congr 2
            have hls : (ys2.set q (UInt8.ofNat (y0.toNat + pr))).length = L := by rw [List.length_set, HL.out]
            refine ⟨n + 1, ys2.set q (UInt8.ofNat (y0.toNat + pr)), some ⟨g, 0, none⟩, c2, by omega, by go_num, ?_, ?_, ?_, HB3.out.setCell (by simpa using hg1) _⟩
            · rw [hls]
            · rw [HNXH.out]; exact HW.out.2
            · rw [hls, hbs]; exact hst.1
          case measure => simp [intOf] <;> omega
      · have HOP := Lib.hid (openAt_same HIN.out h8)
        have HB2 := Lib.hid HB1.out
        have hL := openAt_len HOP.out
        generalize hLe : ys1.length = L at *
        have HL := Lib.hid hLe
        have hL1 : L ≤ n / 8 + 1 := by omega
        have hL2 : n / 8 < L := by omega
        have HO2 := Lib.hid HO1.out
        have HN8 := Lib.hid h8
        have hn80 : ((n : Int) % 8 == 0) = false := by rw [beq_eq_false_iff_ne]; omega
        clear hLe hL h8 HO1
        obtain ⟨g, rfl, hg1, hg2⟩ := own_spot HO2.out (by omega)
        have hcell2 : wr.cell? ⟨b, off + n, none⟩ = some (.bool x) := (HB2.out.cell (p := ⟨b, off + n, none⟩) hbh).trans HCW.out
        cases x
        · have HNX := HNO.out rfl
          clear HNO HYES
          go_wp2
          go_roundw
          case rel =>
            refine ⟨n + 1, ys1, some ⟨g, 0, none⟩, c1, by omega, by go_num, ?_, ?_, ?_, HB2.out⟩
            · rw [HL.out]
            · rw [HNX]; exact bitsAt_none HOP.out
            · rw [HL.out]; exact HO2.out
          case measure => simp [intOf]; omega
        · have HNX := HYES.out rfl
          clear HNO HYES
          have HNXH := Lib.hid HNX
          clear HNX
          go_wp2_with fail
          have hy0 : n / 8 < ys1.length := by rw [HL.out]; exact hL2
          obtain ⟨y0, hy0e⟩ : ∃ y0, ys1[n / 8]? = some y0 := ⟨_, List.getElem?_eq_getElem hy0⟩
          have hload : wr.drew.cell? ⟨g, n / 8, none⟩ = some (.int .u8 (y0.toNat : Int)) := by
            have h1 := HO2.out.cellAt (n / 8) (by omega)
            have h2 : (bv ys1)[n / 8]? = some (.int .u8 (y0.toNat : Int)) := by simp [bv, hy0e]
            exact h1.trans h2
          have hfr : wr.drew.frozen? ⟨g, n / 8, none⟩ = false := HO2.out.frozenAt (n / 8)
          have HO3 : Hid (wr.drew.ownsRow w.heap.size 5 1 (.slice (some ⟨g, 0, none⟩) L c1) L (bv ys1)) := HO2.out
          have HB3 : Hid (Below w.heap.size w wr.drew) := below_drewN' HB2.out 1
          have HP3 := Lib.hid (power_any (w := wr.drew) (n % 8) (by omega))
          have hn8 : (n : Int) / 8 = ((n / 8 : Nat) : Int) := by omega
          have hn8' : (n : Int) % 8 = ((n % 8 : Nat) : Int) := by omega
          have hn8t : (n : Int).tmod 8 = ((n % 8 : Nat) : Int) := by rw [Int.tmod_eq_emod_of_nonneg (by omega)]; omega
          have HW := Lib.hid (bitsAt_one HOP.out y0 hy0e)
          have hyb := HW.out.1
          have hy256 := UInt8.toNat_lt y0
          generalize 2 ^ (n % 8) = pr at *
          refine wp_region_still_tail 13 (by kernel_rfl) (by kernel_rfl) ?_
          change wpStill _ _ wr.drew (fun a' => wpList _ _ _ _ a' wr.drew) _ _
          generalize wr.drew = w4 at *
          generalize hq8 : n / 8 = q at *
          generalize hr8 : n % 8 = r at *
          clear hq8 hr8
          simp only [List.take_succ_cons, List.take_zero, List.drop_succ_cons, List.drop_zero]
          have hqw : IntKind.i64.wrap (q : Int) = (q : Int) := IntWalk.i64_in _ (by omega)
          have hrw : IntKind.i64.wrap (r : Int) = (r : Int) := IntWalk.i64_in _ (by omega)
          have hpw : IntKind.u8.wrap (pr : Int) = (pr : Int) := by rw [IntKind.wrap_u8]; omega
          have hsum : IntKind.u8.wrap ((y0.toNat : Int) + (pr : Int)) = ((y0.toNat + pr : Nat) : Int) := by rw [IntKind.wrap_u8]; omega
          repeat still_step
          refine wpStill_step (fun K hK => ?_)
          go_simp
          refine ⟨_, HP3.out.mono fun _ _ ⟨a, b⟩ => ⟨a, b.symm⟩, hK _ ?_⟩
          clear hK K
          repeat still_step
          refine wpStill_nil ?_
          go_wp2
          go_roundw
          case rel =>
            have hst := HO3.out.stored q (.int .u8 ((y0.toNat : Int) + (pr : Int)))
            have hbn : (UInt8.ofNat (y0.toNat + pr)).toNat = y0.toNat + pr := by rw [UInt8.toNat_ofNat']; omega
            have hbs : bv (ys1.set q (UInt8.ofNat (y0.toNat + pr))) = (bv ys1).set q (.int .u8 ((y0.toNat : Int) + (pr : Int))) := by
              rw [bv_set, hbn]
              congr 2
            have hls : (ys1.set q (UInt8.ofNat (y0.toNat + pr))).length = L := by rw [List.length_set, HL.out]
            refine ⟨n + 1, ys1.set q (UInt8.ofNat (y0.toNat + pr)), some ⟨g, 0, none⟩, c1, by omega, by go_num, ?_, ?_, ?_, HB3.out.setCell (by simpa using hg1) _⟩
            · rw [hls]
            · rw [HNXH.out]; exact HW.out.2
            · rw [hls, hbs]; exact hst.1
          case measure => simp [intOf] <;> omega
    · obtain rfl : n = l.length := by omega
      have HE := Lib.hid (packB_bits HIN.out)
      go_wp2
      go_ret
      rw [← HE.out]
      exact ⟨A1, c1, rfl, HO1.out, HB1.out⟩

/-- the document's Write -/
theorem rbwrite_any {w : World} (l : List Bool) {h' : Nat} {A : Option Addr} {c : Nat} (h : Rd w 0 h' A c (lv l)) (hh : h' ≤ w.heap.size) (hlen : l.length ≤ 140737488355328) :
    Calls Try.prog 44 #[.slice A l.length c] w fun r w' => ∃ A' c', r = .returned (.slice A' (writeB l).length c') ∧
      w'.ownsRow w.heap.size 5 1 (.slice A' (writeB l).length c') (writeB l).length (bv (writeB l)) ∧ Below w.heap.size w w' := by
  have HE : Hid (putL l.length ++ packB l = writeB l) := rfl
  have h9 := putL_nine l.length (by omega)
  have hpl : (packB l).length ≤ 140737488355328 / 8 + 1 := by rw [packB_length]; omega
  have HP := fun (w1 : World) (h : Rd w1 0 h' A c (lv l)) (hh : h' ≤ w1.heap.size) => Lib.hid (rbput_any (w := w1) (A := A) (c := c) l h hh hlen)
  have H := Lib.hid h
  have hl := h.len
  have hc := h.cap
  rw [lv_length] at hl
  unfold maxLen at hc
  clear h
  generalize packB l = pk at *
  go_enter Try.func44, Try.ntmps44
  go_wp2_with fail
  refine (refPut_any l.length (by omega)).mono ?_
  rintro r w1 ⟨A1, c1, rfl, ho1, hb1⟩
  have HO1 := Lib.hid ho1
  have HB1 := Lib.hid hb1
  have s1 := hb1.size
  clear ho1 hb1
  generalize putL l.length = pl at *
  go_wp2_with fail
  refine (HP w1 (H.out.below HB1.out hh) (by omega)).out.mono ?_
  rintro r w2 ⟨A2, c2, rfl, ho2, hb2⟩
  have HO2 := Lib.hid ho2
  have HB2 := Lib.hid (below_below HB1.out hb2 s1)
  have s2 := hb2.size
  obtain ⟨A3, c3, w3, hrun3, ho3, hg3⟩ := append_named w2 w.heap.size _ pl pk (writeB l) HE.out (own_below HO1.out hb2 (Nat.le_refl _)) (Rd.own ho2) (by omega) (by omega)
  have HO3 := Lib.hid ho3
  have HB3 := Lib.hid (HB2.out.grown hg3 HB2.out.size (fun k hk => own_row HO1.out k hk))
  clear ho2 hb2 ho3 hg3
  go_wp2_with (at_builtin; refine wpList_append_run rfl _ _ _ _ rfl rfl rfl hrun3 ?_)
  go_ret
  exact ⟨A3, c3, rfl, HO3.out, HB3.out⟩
end Go.Proofs.Ytepgkdmfoojppaa
