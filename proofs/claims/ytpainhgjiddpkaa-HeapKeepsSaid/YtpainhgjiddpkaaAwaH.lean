/-
  Layer 7's awake says true. (Printed by wip/tools/genawah.py.)
-/
import Derived.Test.YtpainhgjiddpkaaHepC
import Derived.Test.YtpainhgjiddpkaaHepG
import Derived.Test.YtpainhgjiddpkaaLawH
namespace Go.Proofs.Ytpainhgjiddpkaa
set_option linter.unusedSimpArgs false
set_option linter.unusedVariables false
open Go.RowKit

section
variable {w w0 w' : World} {lo g B : Nat} {most : Int} {bs : List UInt8} {es : List Nat} {M X : Nat → Prop}
theorem Hp.setRow (h : Hp w lo g most bs es M) {k : Nat} (hk : ¬ M k) (cs : Array Value) : Hp (w.setRow k cs) lo g most bs es M :=
  h.keep (by simp) (fun i hi => setRow_other w k i cs (fun e => hk (by rw [← e]; exact hi)))
/-- a view's variable, made and filled: what keeps -/
theorem Hp.var (h : Hp w lo g most bs es M) (v : List UInt8) : Hp ((w.alloc (.cells (vb zero16) 28)).setRow w.heap.size (vb v)) lo g most bs es M :=
  (h.below ((Below.refl w.heap.size w).alloc (Nat.le_refl _) _) (Nat.le_refl _)).setRow (fun hx => by have := (h.mine _ hx).2; omega) _
theorem var_blk (w : World) (v : List UInt8) : Blk ((w.alloc (.cells (vb zero16) 28)).setRow w.heap.size (vb v)) w.heap.size 28 (vb v) := setRowV_blk (Blk.new w _ _) _
theorem var_keep {t : TypeId} {cs : Array Value} (h : Blk w g t cs) (v : List UInt8) : Blk ((w.alloc (.cells (vb zero16) 28)).setRow w.heap.size (vb v)) g t cs := setRowV_far (h.alloc _) (Nat.ne_of_lt h.lt) _
theorem var_below (h : Below B w0 w) (hB : B ≤ w0.heap.size) (v : List UInt8) : Below B w0 ((w.alloc (.cells (vb zero16) 28)).setRow w.heap.size (vb v)) :=
  setRowV_below (h.alloc (Nat.le_trans hB h.size) _) (by simp; have := h.size; omega) (Nat.le_trans hB h.size) _
end

theorem make_row (w : World) (n : Nat) (h : n ≤ 281474976710656) : ∃ w1, (Instr.makeSlice 36 (.int .i64 (n : Int)) (.int .i64 (n : Int))).run Try.prog w = .ok (.slice (some ⟨w.heap.size, 0, none⟩) n n) w1 ∧
    w1.ownsRow w.heap.size 5 1 (.slice (some ⟨w.heap.size, 0, none⟩) n n) n (bv (List.replicate n 0)) ∧ w.grownBy w1 none := by
  obtain ⟨i0, hi0, hz0, hz1, hz2⟩ := info_parts Try.infoU8
  have := run_make_full (P := Try.prog) w w.heap.size 36 5 i0 _ 1 Try.underlying36 hi0 hz0 hz1 .i64 .i64 n (by rw [hz2]; omega) (by simp only [maxLen]; omega) (Nat.le_refl _)
  rw [Nat.mul_one, show (Value.int .u8 0).cells = #[.int .u8 0] from rfl, toList_madeCells_one, show List.replicate n (Value.int .u8 0) = bv (List.replicate n 0) from by simp [bv]] at this
  exact this

def s13 : List UInt8 := [116, 104, 105, 114, 116, 101, 101, 110, 32, 108, 111, 110, 103]
def v13 : List UInt8 := longL s13 0 0
def s5 : List UInt8 := [115, 104, 111, 114, 116]
theorem v13_find : findL s13 [13] v13 = some s13 := findL_new (bs := []) (s := s13) (es := []) (b := 0) (p := 0) Ends.nil rfl (.inl rfl) rfl (by omega) (by omega) (by decide) (by decide)
theorem s5_find : findL s13 [13] (shortL s5) = some s5 := findL_short (by decide)
theorem cmp_s : cmpL s13 s5 = 1 := by decide

set_option maxRecDepth 20000 in
set_option maxHeartbeats 4000000 in
theorem awake7_any (w : World) : Calls Try.prog 8 #[] w fun r w' => r = .returned (.bool true) ∧ Below w.heap.size w w' := by
  obtain ⟨hz, _⟩ := zero_of_info Try.infoV
  have hv : v13.length = 16 := by decide
  have hs : (shortL s5).length = 16 := by decide
  have g1 : gotL s13 [13] v13 = s13 := by unfold gotL; rw [v13_find]; rfl
  have g2 : gotL s13 [13] (shortL s5) = s5 := by unfold gotL; rw [s5_find]; rfl
  have h1 := new_any (w := w) 100
  have h2 := fun w0 lo M (h : Hp w0 lo w.heap.size 100 [] [] M) => add_long h ⟨#[116, 104, 105, 114, 116, 101, 101, 110, 32, 108, 111, 110, 103]⟩ (by decide) (by decide) (by decide) (by decide) (by decide) (by decide)
  change ∀ w0 lo M, Hp w0 lo w.heap.size 100 [] [] M → Calls _ _ #[_, .string ⟨#[116, 104, 105, 114, 116, 101, 101, 110, 32, 108, 111, 110, 103]⟩] w0 (fun r w' => r = .returned (.tuple #[.agg (vb v13), .int .i64 0]) ∧ ∃ M', Hp w' lo w.heap.size 100 s13 [13] M' ∧ Out w0 w' M ∧ ∀ i, M' i → M i ∨ w0.heap.size ≤ i) at h2
  have h3 := fun w0 lo M (h : Hp w0 lo w.heap.size 100 s13 [13] M) => add_short h ⟨#[115, 104, 111, 114, 116]⟩ (by decide)
  change ∀ w0 lo M, Hp w0 lo w.heap.size 100 s13 [13] M → Calls _ _ #[_, .string ⟨#[115, 104, 111, 114, 116]⟩] w0 (fun r w' => r = .returned (.tuple #[.agg (vb (shortL s5)), .int .i64 0]) ∧ Below w0.heap.size w0 w') at h3
  have h4 := fun w0 lo M (h : Hp w0 lo w.heap.size 100 s13 [13] M) => get_any h v13 hv
  rw [g1, v13_find] at h4
  change ∀ w0 lo M, Hp w0 lo w.heap.size 100 s13 [13] M → Calls _ _ _ w0 (fun r w' => r = .returned (.tuple #[.string ⟨#[116, 104, 105, 114, 116, 101, 101, 110, 32, 108, 111, 110, 103]⟩, .bool true]) ∧ Below w0.heap.size w0 w') at h4
  have h5 := fun w0 lo M (h : Hp w0 lo w.heap.size 100 s13 [13] M) => get_any h (shortL s5) hs
  rw [g2, s5_find] at h5
  change ∀ w0 lo M, Hp w0 lo w.heap.size 100 s13 [13] M → Calls _ _ _ w0 (fun r w' => r = .returned (.tuple #[.string ⟨#[115, 104, 111, 114, 116]⟩, .bool true]) ∧ Below w0.heap.size w0 w') at h5
  have h6 := fun w0 lo M (h : Hp w0 lo w.heap.size 100 s13 [13] M) (s : ByteArray) (h90 : s.size = 90) => add_full h s (by omega) (by omega) (by decide) (by rw [h90]; decide) (by decide)
  have h7 := fun w0 lo M (h : Hp w0 lo w.heap.size 100 s13 [13] M) => size_any h
  have h8 := fun w0 lo M (h : Hp w0 lo w.heap.size 100 s13 [13] M) => Compare_any h v13 (shortL s5) hv hs
  rw [g1, g2, cmp_s] at h8
  have h9 := fun w0 lo M (h : Hp w0 lo w.heap.size 100 s13 [13] M) => Equal_any h v13 v13 hv hv
  rw [decide_eq_true rfl] at h9
  have h10 := fun w0 lo M (h : Hp w0 lo w.heap.size 100 s13 [13] M) => bytes_any h
  have l13 : s13.length = 13 := rfl
  rw [l13] at h7 h10
  generalize s13 = x at *
  generalize v13 = v at *
  generalize shortL s5 = u at *
  have H1 := Lib.hid h1
  have H2 := Lib.hid h2
  have H3 := Lib.hid h3
  have H4 := Lib.hid h4
  have H5 := Lib.hid h5
  have H6 := Lib.hid h6
  have H7 := Lib.hid h7
  have H8 := Lib.hid h8
  have H9 := Lib.hid h9
  have H10 := Lib.hid h10
  have HV := Lib.hid hv
  have HU := Lib.hid hs
  clear h1 h2 h3 h4 h5 h6 h7 h8 h9 h10 hv hs g1 g2 l13
  unfold hp at H1 H2 H3 H4 H5 H6 H7 H8 H9 H10
  go_enter Try.func8, Try.ntmps8
  go_wp2_with fail
  refine H1.out.mono ?_
  rintro r w1 ⟨rfl, hp1, hb1⟩
  have P1 := Lib.hid (show Hp w1 w.heap.size w.heap.size 100 [] [] _ from hp1)
  have K1 := Lib.hid hb1
  clear hp1 hb1
  go_wp2_with fail
  refine (H2.out _ _ _ P1.out).mono ?_
  rintro r w2 ⟨rfl, M, hp2, ho2, _⟩
  have P2 := Lib.hid hp2
  have K2 := Lib.hid (K1.out.trans (ho2.below K1.out.size (fun k hk => (P1.out.mine k hk).1)))
  clear hp2 ho2
  have HQ := Lib.hid (Blk.new w2 28 (vb zero16))
  have hp := P2.out.var v
  have hx := var_blk w2 v
  have hk := var_below K2.out (Nat.le_refl _) v
  go_wp2_with (refine wpList_storeV HQ.out zero16_length HV.out rfl _ _ rfl rfl rfl ?_; refine held ?_)
  refine ⟨?_⟩
  generalize (w2.alloc (.cells (vb zero16) 28)).setRow w2.heap.size (vb v) = w3 at *
  generalize w2.heap.size = q3 at *
  have P3 := Lib.hid hp
  have K3 := Lib.hid hk
  have X3 := Lib.hid hx
  clear hp hx hk HQ
  go_wp2_with fail
  refine (H3.out _ _ _ P3.out).mono ?_
  rintro r w4 ⟨rfl, hb⟩
  have P4 := Lib.hid (P3.out.below hb (Nat.le_refl _))
  have K4 := Lib.hid (below_below K3.out hb K3.out.size)
  have X4 := Lib.hid (X3.out.below hb X3.out.lt)
  clear hb
  have HQ := Lib.hid (Blk.new w4 28 (vb zero16))
  have hp := P4.out.var u
  have hx := var_blk w4 u
  have hk := var_below K4.out (Nat.le_refl _) u
  have hX := var_keep X4.out u
  go_wp2_with (refine wpList_storeV HQ.out zero16_length HU.out rfl _ _ rfl rfl rfl ?_; refine held ?_)
  refine ⟨?_⟩
  generalize (w4.alloc (.cells (vb zero16) 28)).setRow w4.heap.size (vb u) = w5 at *
  generalize w4.heap.size = q5 at *
  have P5 := Lib.hid hp
  have K5 := Lib.hid hk
  have X5 := Lib.hid hX
  have Y5 := Lib.hid hx
  clear hp hx hk HQ hX
  go_wp2_with (refine wpList_loadV X5.out HV.out rfl _ rfl rfl ?_)
  refine (H4.out _ _ _ P5.out).mono ?_
  rintro r w6 ⟨rfl, hb⟩
  have P6 := Lib.hid (P5.out.below hb (Nat.le_refl _))
  have K6 := Lib.hid (below_below K5.out hb K5.out.size)
  have X6 := Lib.hid (X5.out.below hb X5.out.lt)
  have Y6 := Lib.hid (Y5.out.below hb Y5.out.lt)
  clear hb
  go_wp2_with (refine wpList_loadV Y6.out HU.out rfl _ rfl rfl ?_)
  refine (H5.out _ _ _ P6.out).mono ?_
  rintro r w7 ⟨rfl, hb⟩
  have P7 := Lib.hid (P6.out.below hb (Nat.le_refl _))
  have K7 := Lib.hid (below_below K6.out hb K6.out.size)
  have X7 := Lib.hid (X6.out.below hb X6.out.lt)
  have Y7 := Lib.hid (Y6.out.below hb Y6.out.lt)
  clear hb
  obtain ⟨w8, hmake, ho8, hg8⟩ := make_row w7 90 (by omega)
  rw [show ((90 : Nat) : Int) = 90 from rfl] at hmake
  have hb : Below w7.heap.size w7 w8 := below_of_gb (Nat.le_refl _) hg8 (by simp)
  have P8 := Lib.hid (P7.out.below hb (Nat.le_refl _))
  have K8 := Lib.hid (below_below K7.out hb K7.out.size)
  have X8 := Lib.hid (X7.out.below hb X7.out.lt)
  have Y8 := Lib.hid (Y7.out.below hb Y7.out.lt)
  clear hb
  have hst := run_string_rd (P := Try.prog) w8 36 9 5 Try.underlying36 Try.underlying5 Try.underlying9 _ _ _ _ (List.replicate 90 0) (Rd.of_own ho8)
  rw [List.length_replicate] at hst
  obtain ⟨s90, hs90⟩ : ∃ s : ByteArray, ⟨(List.replicate 90 (0 : UInt8)).toArray⟩ = s := ⟨_, rfl⟩
  rw [hs90] at hst
  have H90 : Hid (s90.size = 90) := by rw [← hs90]; rfl
  clear ho8 hg8 hs90
  go_wp2_with fail
  refine (H6.out _ _ _ P8.out s90 H90.out).mono ?_
  rintro r w9 ⟨rfl, hb⟩
  clear hmake hst
  have P9 := Lib.hid (P8.out.below hb (Nat.le_refl _))
  have K9 := Lib.hid (below_below K8.out hb K8.out.size)
  have X9 := Lib.hid (X8.out.below hb X8.out.lt)
  have Y9 := Lib.hid (Y8.out.below hb Y8.out.lt)
  clear hb
  have HQ := Lib.hid (Blk.new w9 28 (vb zero16))
  have hp := P9.out.var zero16
  have hx := var_blk w9 zero16
  have hk := var_below K9.out (Nat.le_refl _) zero16
  have hX := var_keep X9.out zero16
  have hY := var_keep Y9.out zero16
  go_wp2_with (refine wpList_storeV HQ.out zero16_length zero16_length rfl _ _ rfl rfl rfl ?_; refine held ?_)
  refine ⟨?_⟩
  generalize (w9.alloc (.cells (vb zero16) 28)).setRow w9.heap.size (vb zero16) = w10 at *
  generalize w9.heap.size = q10 at *
  have P10 := Lib.hid hp
  have K10 := Lib.hid hk
  have X10 := Lib.hid hX
  have Y10 := Lib.hid hY
  clear hp hx hk HQ hX hY
  go_wp2_with fail
  refine (H7.out _ _ _ P10.out).mono ?_
  rintro r w11 ⟨rfl, rfl⟩
  go_wp2_with (first | (refine wpList_loadG X10.out HV.out (by first | rfl | (go_simp; done) | (go_simp; omega)) _ rfl rfl ?_) | (refine wpList_loadG Y10.out HU.out (by first | rfl | (go_simp; done) | (go_simp; omega)) _ rfl rfl ?_))
  refine (H8.out _ _ _ P10.out).mono ?_
  rintro r w12 ⟨rfl, hb⟩
  have P12 := Lib.hid (P10.out.below hb (Nat.le_refl _))
  have K12 := Lib.hid (below_below K10.out hb K10.out.size)
  have X12 := Lib.hid (X10.out.below hb X10.out.lt)
  have Y12 := Lib.hid (Y10.out.below hb Y10.out.lt)
  clear hb
  go_wp2_with (refine wpList_loadG X12.out HV.out (by first | rfl | (go_simp; done) | (go_simp; omega)) _ rfl rfl ?_)
  refine (H9.out _ _ _ P12.out).mono ?_
  rintro r w13 ⟨rfl, hb⟩
  have P13 := Lib.hid (P12.out.below hb (Nat.le_refl _))
  have K13 := Lib.hid (below_below K12.out hb K12.out.size)
  clear hb
  go_wp2_with fail
  refine (H10.out _ _ _ P13.out).mono ?_
  rintro r w14 ⟨A, c, rfl, ho, hb⟩
  clear ho
  have P14 := Lib.hid (P13.out.below hb (Nat.le_refl _))
  have K14 := Lib.hid (below_below K13.out hb K13.out.size)
  clear hb
  go_wp2_with fail
  go_ret
  exact ⟨rfl, K14.out⟩
end Go.Proofs.Ytpainhgjiddpkaa
