/-
  The pack's Write, and the document's.
-/
import Derived.Test.YtfoadchengbedaaPakB
import Derived.Test.YtfoadchengbedaaRefR
import Derived.Test.YtfoadchengbedaaRefE
namespace Go.Proofs.Ytfoadchengbedaa
set_option linter.unusedSimpArgs false
set_option linter.unusedVariables false
open Go.RowKit

/-- numbers as bytes -/
def writeL (zs : List Int) : List UInt8 := putL zs.length ++ ([UInt8.ofNat (wide zs)] ++ packL (wide zs) (nats zs))
theorem writeL_length {zs : List Int} (h : May zs) (hlen : zs.length ≤ 4294967295) : (writeL zs).length ≤ 4294967295 * 5 := by
  have h1 := putL_nine zs.length (by omega)
  have h2 := h.wide_le
  have h3 : zs.length * wide zs ≤ 4294967295 * 32 := Nat.mul_le_mul hlen h2
  simp only [writeL, List.length_append, List.length_cons, List.length_nil, packL_length, nats_length]
  omega
theorem fits_wide_may {zs : List Int} (h : ¬ May zs) : ¬ Fits zs (wide zs : Int) := fun hf => h hf.may

theorem pwrite_no {w : World} (zs : List Int) (hz : Word zs) (hm : ¬ May zs) {h' : Nat} {A : Option Addr} {c : Nat} (h : Rd w 0 h' A c (iv zs)) (hh : h' ≤ w.heap.size) (hlen : zs.length ≤ 4294967295) :
    Calls Try.prog 18 #[.slice A zs.length c] w fun r w' => r = .returned (.tuple #[.slice none 0 0, .int .i64 1]) ∧ w = w' := by
  have HW := Lib.hid (width_any (w := w) zs hz h)
  have HP := Lib.hid (pput_no (w := w) zs (wide zs) (fits_wide_may hm) h)
  clear h hm hz
  go_enter Try.func18, Try.ntmps18
  go_wp2_with fail
  refine HW.out.mono ?_
  rintro r w' ⟨rfl, rfl⟩
  go_wp2_with fail
  refine HP.out.mono ?_
  rintro r w' ⟨rfl, rfl⟩
  go_wp2
  go_ret2
  exact ⟨rfl, rfl⟩

theorem ofNat_toNat_lt {n : Nat} (h : n < 256) : (UInt8.ofNat n).toNat = n := by rw [UInt8.toNat_ofNat']; omega

set_option maxHeartbeats 400000 in
theorem pwrite_yes {w : World} (zs : List Int) (hm : May zs) {h' : Nat} {A : Option Addr} {c : Nat} (h : Rd w 0 h' A c (iv zs)) (hh : h' ≤ w.heap.size) (hlen : zs.length ≤ 4294967295) :
    Calls Try.prog 18 #[.slice A zs.length c] w fun r w' => ∃ A' c', r = .returned (.tuple #[.slice A' (writeL zs).length c', .int .i64 0]) ∧
      w'.ownsRow w.heap.size 5 1 (.slice A' (writeL zs).length c') (writeL zs).length (bv (writeL zs)) ∧ Below w.heap.size w w' := by
  have HW := Lib.hid (width_any (w := w) zs hm.word h)
  have HP := Lib.hid (pput_yes (w := w) zs (wide zs) hm.fits h hh hlen)
  have h1 := putL_nine zs.length (by omega)
  have h2 := hm.wide_le
  have h3 : zs.length * wide zs ≤ 4294967295 * 32 := Nat.mul_le_mul hlen h2
  have h4 : (packL (wide zs) (nats zs)).length ≤ 4294967295 * 4 + 1 := by rw [packL_length, nats_length]; omega
  have h5 : (packL (wide zs) (nats zs)).length ≤ 140737488355328 := by omega
  have HE : Hid (putL zs.length ++ ([UInt8.ofNat (wide zs)] ++ packL (wide zs) (nats zs)) = writeL zs) := rfl
  have HB := Lib.hid (ofNat_toNat_lt (n := wide zs) (by omega))
  clear h hm
  generalize packL (wide zs) (nats zs) = pk at *
  generalize wide zs = wd at *
  go_enter Try.func18, Try.ntmps18
  go_wp2_with fail
  refine HW.out.mono ?_
  rintro r w' ⟨rfl, rfl⟩
  go_wp2_with fail
  refine HP.out.mono ?_
  rintro r w1 ⟨A1, c1, rfl, hown1, hb1⟩
  have HO1 := Lib.hid hown1
  have HB1 := Lib.hid hb1
  have s1 := hb1.size
  clear hown1 hb1
  go_wp2_with fail
  refine (put_any zs.length (by omega)).mono ?_
  rintro r w2 ⟨A2, c2, rfl, hown2, hb2⟩
  have HO2 := Lib.hid hown2
  have HB2 := Lib.hid (below_below HB1.out hb2 s1)
  have HK2 := Lib.hid (own_below HO1.out hb2 (Nat.le_refl _))
  have s2 := hb2.size
  have hb2' := hb2
  clear hown2 hb2
  generalize putL zs.length = pl at *
  go_wp2_with (at_builtin; refine wpList_push (v := .slice A2 pl.length c2) w1.heap.size pl (UInt8.ofNat wd) rfl _ _ rfl rfl rfl rfl (by rw [HB.out, World.cell?_alloc_at _ _ _ _ rfl]; first | rfl | (simp; omega)) (HO2.out.alloc _) (by omega) (by simp; omega) ?_; intro A3 c3 w3 hown3 hgr3; refine held ?_)
  refine ⟨?_⟩
  have HR3 := Lib.hid ((((Rd.own HO1.out).below hb2' (Nat.le_refl _)).alloc s2 (.cells #[.int .u8 (wd : Int)] 5)).grown hgr3 (by simp; omega) (fun k hk => .inr (own_row HO2.out k hk)))
  have k3 := (HB2.out.alloc (Nat.le_trans s1 s2) _).grown hgr3 (by simp; omega) (fun k hk => Nat.le_trans s1 (own_row HO2.out k hk))
  have HB3 := Lib.hid k3
  obtain ⟨A4, c4, w4, hrun4, hown4, hg4⟩ := append_named w3 w.heap.size _ (pl ++ [UInt8.ofNat wd]) pk (writeL zs) (by rw [List.append_assoc]; exact HE.out) (own_base hown3 s1) HR3.out (by simp; omega) k3.size
  rw [show (pl ++ [UInt8.ofNat wd]).length = pl.length + 1 from by simp] at hrun4 hown3 hg4
  have HO4 := Lib.hid hown4
  have HG4 := Lib.hid hg4
  have HO3 := Lib.hid hown3
  clear hown3 hgr3 hown4 hg4 k3 hb2'
  go_wp2_with (at_builtin; refine wpList_append_run rfl _ _ _ _ rfl rfl rfl hrun4 ?_)
  go_ret2
  exact ⟨A4, c4, rfl, HO4.out, HB3.out.grown HG4.out HB3.out.size (fun k hk => Nat.le_trans s1 (own_row HO3.out k hk))⟩

/-- the same, told of whatever numbers -/
theorem pput_may {w : World} (zs : List Int) (hm : May zs) {h' : Nat} {A : Option Addr} {c : Nat} (h : Rd w 0 h' A c (iv zs)) (hh : h' ≤ w.heap.size) (hlen : zs.length ≤ 4294967295) :
    Calls Try.prog 11 #[.slice A zs.length c, .int .i64 (wide zs : Int)] w fun r w' => ∃ A' c', r = .returned (.tuple #[.slice A' (packL (wide zs) (nats zs)).length c', .int .i64 0]) ∧
      w'.ownsRow w.heap.size 5 1 (.slice A' (packL (wide zs) (nats zs)).length c') (packL (wide zs) (nats zs)).length (bv (packL (wide zs) (nats zs))) ∧ Below w.heap.size w w' := by
  have := rput_any (w := w) zs (wide zs) h hh hlen
  rw [putR_yes hm.fits, Int.toNat_natCast] at this
  exact this

set_option maxHeartbeats 400000 in
theorem rwrite_any {w : World} (zs : List Int) (hm : May zs) {h' : Nat} {A : Option Addr} {c : Nat} (h : Rd w 0 h' A c (iv zs)) (hh : h' ≤ w.heap.size) (hlen : zs.length ≤ 4294967295) :
    Calls Try.prog 19 #[.slice A zs.length c] w fun r w' => ∃ A' c', r = .returned (.slice A' (writeL zs).length c') ∧
      w'.ownsRow w.heap.size 5 1 (.slice A' (writeL zs).length c') (writeL zs).length (bv (writeL zs)) ∧ Below w.heap.size w w' := by
  have h1 := putL_nine zs.length (by omega)
  have h2 := hm.wide_le
  have h3 : zs.length * wide zs ≤ 4294967295 * 32 := Nat.mul_le_mul hlen h2
  have h4 : (packL (wide zs) (nats zs)).length ≤ 4294967295 * 4 + 1 := by rw [packL_length, nats_length]; omega
  have h5 : (packL (wide zs) (nats zs)).length ≤ 140737488355328 := by omega
  have HE : Hid (putL zs.length ++ ([UInt8.ofNat (wide zs)] ++ packL (wide zs) (nats zs)) = writeL zs) := rfl
  have HB := Lib.hid (ofNat_toNat_lt (n := wide zs) (by omega))
  have HWD := fun (w1 : World) (h : Rd w1 0 h' A c (iv zs)) => Lib.hid (rwidth_any (w := w1) (A := A) (c := c) zs hm h)
  have HPT := fun (w1 : World) (h : Rd w1 0 h' A c (iv zs)) (hh : h' ≤ w1.heap.size) => Lib.hid (pput_may (w := w1) (A := A) (c := c) (h' := h') zs hm h hh hlen)
  have H := Lib.hid h
  clear h hm
  generalize packL (wide zs) (nats zs) = pk at *
  generalize wide zs = wd at *
  go_enter Try.func19, Try.ntmps19
  go_wp2_with fail
  refine (HWD _ H.out).out.mono ?_
  rintro r w' ⟨rfl, n0, rfl⟩
  go_wp2_with fail
  refine (HPT _ (H.out.drewN n0) hh).out.mono ?_
  rintro r w1 ⟨A1, c1, rfl, hown1, hb1⟩
  have hb1' : Below w.heap.size w w1 := below_below (below_drewN' (Below.refl w.heap.size w) n0) hb1 (Nat.le_refl _)
  have HO1 := Lib.hid hown1
  have HB1 := Lib.hid hb1'
  have s1 := hb1'.size
  clear hown1 hb1 hb1'
  go_wp2_with fail
  refine (refPut_any zs.length (by omega)).mono ?_
  rintro r w2 ⟨A2, c2, rfl, hown2, hb2⟩
  have HO2 := Lib.hid hown2
  have HB2 := Lib.hid (below_below HB1.out hb2 s1)
  have hb2' := hb2
  have s2 := hb2.size
  clear hown2 hb2
  generalize putL zs.length = pl at *
  go_wp2_with fail
  refine (HWD _ (H.out.below HB2.out hh)).out.mono ?_
  rintro r w' ⟨rfl, n1, rfl⟩
  have HO2' : Hid ((w2.drewN n1).ownsRow w1.heap.size 5 1 (.slice A2 pl.length c2) pl.length (bv pl)) := HO2.out
  have hb2n : Below w1.heap.size w1 (w2.drewN n1) := below_drewN' hb2' n1
  have HB2n := Lib.hid (below_drewN' HB2.out n1)
  have s2n : w1.heap.size ≤ (w2.drewN n1).heap.size := s2
  generalize w2.drewN n1 = w3 at *
  go_wp2_with (at_builtin; refine wpList_push (v := .slice A2 pl.length c2) w1.heap.size pl (UInt8.ofNat wd) rfl _ _ rfl rfl rfl rfl (by rw [HB.out, World.cell?_alloc_at _ _ _ _ rfl]; first | rfl | (simp; omega)) (HO2'.out.alloc _) (by omega) (by simp; omega) ?_; intro A4 c4 w4 hown4 hgr4; refine held ?_)
  refine ⟨?_⟩
  have HR4 := Lib.hid ((((Rd.own HO1.out).below hb2n (Nat.le_refl _)).alloc s2n (.cells #[.int .u8 (wd : Int)] 5)).grown hgr4 (by simp; omega) (fun k hk => .inr (own_row HO2'.out k hk)))
  have k4 := (HB2n.out.alloc (Nat.le_trans s1 s2n) _).grown hgr4 (by simp; omega) (fun k hk => Nat.le_trans s1 (own_row HO2'.out k hk))
  have HB4 := Lib.hid k4
  obtain ⟨A5, c5, w5, hrun5, hown5, hg5⟩ := append_named w4 w.heap.size _ (pl ++ [UInt8.ofNat wd]) pk (writeL zs) (by rw [List.append_assoc]; exact HE.out) (own_base hown4 s1) HR4.out (by simp; omega) k4.size
  rw [show (pl ++ [UInt8.ofNat wd]).length = pl.length + 1 from by simp] at hrun5 hown4 hg5
  have HO5 := Lib.hid hown5
  have HG5 := Lib.hid hg5
  have HO4 := Lib.hid hown4
  clear hown4 hgr4 hown5 hg5 k4 hb2' hb2n
  go_wp2_with (at_builtin; refine wpList_append_run rfl _ _ _ _ rfl rfl rfl hrun5 ?_)
  go_ret
  exact ⟨A5, c5, rfl, HO5.out, HB4.out.grown HG5.out HB4.out.size (fun k hk => Nat.le_trans s1 (own_row HO4.out k hk))⟩
end Go.Proofs.Ytfoadchengbedaa
