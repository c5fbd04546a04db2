/-
  The pack's Read.
-/
import Derived.Test.YtfoadchengbedaaPakB
import Derived.Test.YtfoadchengbedaaPakC
import Derived.Test.YtfoadchengbedaaIntA
import Derived.Test.YtfoadchengbedaaCurD
import Derived.Laws.OwnMore
import Derived.Laws.BitsAll
namespace Go.Proofs.Ytfoadchengbedaa
set_option linter.unusedSimpArgs false
set_option linter.unusedVariables false
open Go.RowKit

/-- Fail, whatever stands there -/
theorem fail_any {w : World} {lo g k : Nat} {bs : List UInt8} {e : Int} (x : Int) (h : Cur w lo g bs k e) :
    Calls Try.prog 35 #[cp g, .int .i64 x] w fun r w' => r = .returned (.tuple #[]) ∧ Cur w' lo g bs k (if e = 0 then x else e) ∧ w.grownBy w' (some g) := by
  by_cases he : e = 0
  · subst he
    rw [if_pos rfl]
    refine (fail_good x h).mono ?_
    rintro r w' ⟨rfl, rfl⟩
    exact ⟨rfl, h.setErr x, gb_setCell (gb_refl w _) (.inl rfl) _⟩
  · rw [if_neg he]
    refine (fail_bad x h he).mono ?_
    rintro r w' ⟨rfl, rfl⟩
    exact ⟨rfl, h, gb_refl w _⟩

theorem last_get (bs : List UInt8) (h : 0 < bs.length) : bs[bs.length - 1] = bs.getLastD 0 := by
  rcases List.eq_nil_or_concat bs with rfl | ⟨r, x, rfl⟩
  · simp at h
  · simp

theorem filled_any {w : World} (bs : List UInt8) (n : Nat) (hl : bs.length = (n + 7) / 8) (hn : n ≤ 1000000000000) {lo h' : Nat} {A : Option Addr} {c : Nat} (h : Rd w lo h' A c (bv bs)) :
    Calls Try.prog 38 #[.slice A bs.length c, .int .i64 (n : Int)] w fun r w' => r = .returned (.bool (decide (bval bs < 2 ^ n))) ∧ w = w' := by
  have hll := h.len
  have hc := h.cap
  rw [bv_length] at hll
  unfold maxLen at hc
  have H := Lib.hid h
  clear h
  by_cases hr : n % 8 = 0
  · have HT : Hid (decide (bval bs < 2 ^ n) = true) := decide_eq_true (filled_all bs n hl hr)
    have h8 : ((n : Int) % 8 == 0) = true := by rw [beq_iff_eq]; omega
    have hlb : bs.length ≤ (n + 7) / 8 := Nat.le_of_eq hl
    clear hl hr
    go_enter Try.func38, Try.ntmps38
    go_wp2
    go_ret
    exact ⟨ret_bool HT.out.symm, rfl⟩
  · have hp : 0 < bs.length := by omega
    have HF := Lib.hid (filled_iff bs n hl hr)
    have h8 : ((n : Int) % 8 == 0) = false := by rw [beq_eq_false_iff_ne]; omega
    have hlb : bs.length ≤ (n + 7) / 8 := Nat.le_of_eq hl
    obtain ⟨b, off, rfl, _, _, hcell⟩ := H.out.byte (k := bs.length - 1) (by omega)
    rw [last_get bs hp] at hcell
    generalize bs.getLastD 0 = x8 at *
    have hx := UInt8.toNat_lt x8
    generalize x8.toNat = x at *
    clear hl
    go_enter Try.func38, Try.ntmps38
    go_wp2
    go_ret
    refine ⟨ret_bool ?_, rfl⟩
    have e : (x : Int) / 2 ^ (n % 8) = ((x / 2 ^ (n % 8) : Nat) : Int) := by push_cast; rfl
    rw [e, Bool.eq_iff_iff, beq_iff_eq, decide_eq_true_iff, ← HF.out]
    omega

theorem make_nums (w : World) (n : Nat) (h : n ≤ 4294967295) : ∃ w1, (Instr.makeSlice 22 (.int .i64 (n : Int)) (.int .i64 (n : Int))).run Try.prog w = .ok (.slice (some ⟨w.heap.size, 0, none⟩) n n) w1 ∧
    w1.ownsRow w.heap.size 3 1 (.slice (some ⟨w.heap.size, 0, none⟩) n n) n (List.replicate n (.int .i64 0)) ∧ w.grownBy w1 none := by
  obtain ⟨i0, hi0, hz0, hz1, hz2⟩ := info_parts Try.infoI64
  have := run_make_full (P := Try.prog) w w.heap.size 22 3 i0 _ 1 Try.underlying22 hi0 hz0 hz1 .i64 .i64 n (by rw [hz2]; omega) (by simp only [maxLen]; omega) (Nat.le_refl _)
  rw [Nat.mul_one, show (Value.int .i64 0).cells = #[.int .i64 0] from rfl, toList_madeCells_one] at this
  exact this

/-- what Read answers and leaves: the numbers, the place, the error -/
def readEnd (bs : List UInt8) (n wd k : Nat) (e : Int) : List Nat × Nat × Int :=
  if e ≠ 0 then ([], k, e) else if wd = wide (ints (getsN bs wd n)) ∧ bval bs < 2 ^ (n * wd) then (getsN bs wd n, k, 0) else ([], k, 3)
def widthE (wd : Nat) (e : Int) : Int := if wd ≤ 32 then e else if e = 0 then 3 else e
def readMid (bs : List UInt8) (n wd k : Nat) (e : Int) : List Nat × Nat × Int :=
  readEnd (takeR bs k (widthE wd e) 0 (((n * wd + 7) / 8 : Nat) : Int)).1 n wd (takeR bs k (widthE wd e) 0 (((n * wd + 7) / 8 : Nat) : Int)).2.1 (takeR bs k (widthE wd e) 0 (((n * wd + 7) / 8 : Nat) : Int)).2.2
def readR (bs : List UInt8) (k : Nat) (e most : Int) : List Nat × Nat × Int :=
  readMid bs (mostR bs k e (min most 2147483647)).1 ((takeR bs (mostR bs k e (min most 2147483647)).2.1 (mostR bs k e (min most 2147483647)).2.2 0 1).1.headD 0).toNat
    (takeR bs (mostR bs k e (min most 2147483647)).2.1 (mostR bs k e (min most 2147483647)).2.2 0 1).2.1 (takeR bs (mostR bs k e (min most 2147483647)).2.1 (mostR bs k e (min most 2147483647)).2.2 0 1).2.2

theorem mostR_le (bs : List UInt8) (k : Nat) (e most : Int) : (mostR bs k e most).1 = 0 ∨ ((mostR bs k e most).1 : Int) ≤ most := by
  unfold mostR peekR
  by_cases he : e ≠ 0
  · rw [if_pos he]; exact .inl rfl
  · rw [if_neg he]
    by_cases hp : peekE bs k most ≠ 0
    · rw [if_pos hp]; exact .inl rfl
    · rw [if_neg hp]
      refine .inr ?_
      have h : peekE bs k most = 0 := Decidable.not_not.1 hp
      unfold peekE at h
      split at h
      · contradiction
      · split at h
        · omega
        · simp only []; omega

theorem takeR_full (bs : List UInt8) (k : Nat) (e : Int) (s : Nat) (h : (takeR bs k e 0 (s : Int)).2.2 = 0) : (takeR bs k e 0 (s : Int)).1.length = s := by
  unfold takeR at h ⊢
  by_cases h1 : e ≠ 0
  · rw [if_pos h1] at h; exact absurd h h1
  · rw [if_neg h1] at h ⊢
    by_cases h2 : (s : Int) < 0
    · omega
    · rw [if_neg h2] at h ⊢
      by_cases h3 : (bs.length : Int) - k - ((0 : Nat) : Int) < s
      · rw [if_pos h3] at h; simp at h
      · rw [if_neg h3]
        simp only [List.length_take, List.length_drop, Int.toNat_natCast]
        omega
theorem gb_more {a w w' : World} {g x : Nat} (h : a.grownBy w (some g)) (h2 : w.grownBy w' (some x)) (hx : a.heap.size ≤ x) : a.grownBy w' (some g) :=
  ⟨h2.os.trans h.os, h2.tape.trans h.tape, h2.output.trans h.output, Nat.le_trans h.size h2.size, fun i hi hne =>
    (h2.block i (Nat.lt_of_lt_of_le hi h.size) (fun e => by injection e with e; omega)).trans (h.block i hi hne)⟩
theorem width_len {w : World} (zs : List Int) (n : Nat) (hz : Word zs) {lo h' : Nat} {A : Option Addr} {c : Nat} (h : Rd w lo h' A c (iv zs)) (hn : zs.length = n) :
    Calls Try.prog 14 #[.slice A n c] w fun r w' => r = .returned (.int .i64 (wide zs : Int)) ∧ w = w' := by
  subst hn
  exact width_any zs hz h

/-- the cells of a list that is filled up to k -/
def Upto (bs : List UInt8) (wd n k : Nat) (xs : List Value) : Prop := xs.length = n ∧ ∀ j, j < k → xs[j]? = some (.int .i64 (getN bs wd j : Int))
theorem upto_all {bs : List UInt8} {wd n : Nat} {xs : List Value} (h : Upto bs wd n n xs) : xs = iv (ints (getsN bs wd n)) := by
  apply List.ext_getElem?
  intro j
  by_cases hj : j < n
  · rw [h.2 j hj]
    have := getsN_get bs wd n j hj
    simp [iv, ints, this]
  · rw [List.getElem?_eq_none (by rw [h.1]; omega), List.getElem?_eq_none (by rw [iv_length, ints_length, getsN_length]; omega)]
theorem upto_succ {bs : List UInt8} {wd n k : Nat} {xs : List Value} (h : Upto bs wd n k xs) (hk : k < n) : Upto bs wd n (k + 1) (xs.set k (.int .i64 (getN bs wd k : Int))) := by
  refine ⟨by rw [List.length_set]; exact h.1, fun j hj => ?_⟩
  by_cases e : j = k
  · subst e
    rw [List.getElem?_set_self (by rw [h.1]; exact hk)]
  · rw [List.getElem?_set_ne (by omega)]
    exact h.2 j (by omega)
theorem ints_word {ns : List Nat} (h : ∀ x ∈ ns, x < 4294967296) : Word (ints ns) := by
  intro z hz
  obtain ⟨x, hx, rfl⟩ := List.mem_map.1 hz
  have := h x hx
  omega

set_option maxRecDepth 20000 in
set_option maxHeartbeats 1000000 in
theorem pread_any {w : World} {lo g k : Nat} {bs : List UInt8} {e : Int} (most : Int) (h : Cur w lo g bs k e) (hb : bs.length ≤ 1000000000000) :
    Calls Try.prog 21 #[cp g, .int .i64 most] w fun r w' => ∃ A c, r = .returned (.slice A (readR bs k e most).1.length c) ∧ w'.ownsRow w.heap.size 3 1 (.slice A (readR bs k e most).1.length c) (readR bs k e most).1.length (iv (ints (readR bs k e most).1)) ∧
      Cur w' lo g bs (readR bs k e most).2.1 (readR bs k e most).2.2 ∧ w.grownBy w' (some g) := by
  have hgl := h.lt
  have HM := Lib.hid (most_any (min most 2147483647) h)
  have hmle := mostR_le bs k e (min most 2147483647)
  unfold readR
  generalize mostR bs k e (min most 2147483647) = M at *
  obtain ⟨n, k1, e1⟩ := M
  dsimp only at HM hmle ⊢
  have hn : n ≤ 2147483647 := by omega
  have HBY := fun (w1 : World) (h1 : Cur w1 lo g bs k1 e1) => Lib.hid (byte_any h1)
  generalize takeR bs k1 e1 0 1 = T at *
  obtain ⟨tb, k2, e2⟩ := T
  dsimp only at HBY ⊢
  have hwd256 : (tb.headD 0).toNat < 256 := UInt8.toNat_lt _
  generalize (tb.headD 0).toNat = wd at *
  clear h hmle
  go_enter Try.func21, Try.ntmps21
  go_wp2_with fail
  refine HM.out.mono ?_
  rintro r w1 ⟨rfl, hc1, hg1⟩
  have HC1 := Lib.hid hc1
  have HG1 := Lib.hid hg1
  have s1 := hg1.size
  clear hc1 hg1
  go_wp2_with fail
  refine (HBY w1 HC1.out).out.mono ?_
  rintro r w2 ⟨rfl, hc2, hg2⟩
  have HC2 := Lib.hid hc2
  have HG2 := Lib.hid (HG1.out.trans hg2)
  have s2 := hg2.size
  clear hc2 hg2
  by_cases hw : wd ≤ 32
  · have HR : Hid (rightB (wd : Int) = true) := decide_eq_true (by omega)
    have hP : (n : Int) * (wd : Int) = ((n * wd : Nat) : Int) := (Int.natCast_mul n wd).symm
    have hPb : n * wd ≤ 2147483647 * 32 := Nat.mul_le_mul hn hw
    have HMID : Hid (readMid bs n wd k2 e2 = readEnd (takeR bs k2 e2 0 (((n * wd + 7) / 8 : Nat) : Int)).1 n wd (takeR bs k2 e2 0 (((n * wd + 7) / 8 : Nat) : Int)).2.1 (takeR bs k2 e2 0 (((n * wd + 7) / 8 : Nat) : Int)).2.2) := by
      unfold Hid readMid widthE
      rw [if_pos hw]
    generalize hs : (n * wd + 7) / 8 = s at HMID
    have HS := Lib.hid hs
    have hsb : s ≤ 2147483647 * 5 := by omega
    clear hs
    go_wp2_with fail
    refine (right_is _ true HR.out).mono ?_
    rintro r w' ⟨rfl, rfl⟩
    go_wp2_with fail
    refine (size_is n wd s (by omega) HS.out).mono ?_
    rintro r w' ⟨rfl, rfl⟩
    go_wp2_with fail
    refine (bytes_any (s : Int) HC2.out (by omega)).mono ?_
    have hT := takeR_full bs k2 e2 s
    generalize takeR bs k2 e2 0 (s : Int) = U at *
    obtain ⟨ub, k4, e4⟩ := U
    dsimp only at hT ⊢
    rintro r w4 ⟨A4, c4, rfl, ho4, hc4, hg4⟩
    have HO4 := Lib.hid ho4
    have HC4 := Lib.hid hc4
    have HG4 := Lib.hid (HG2.out.trans hg4)
    have s4 := hg4.size
    clear ho4 hc4 hg4
    by_cases he : e4 = 0
    · subst he
      have hul : ub.length = s := hT rfl
      have HUL := Lib.hid hul
      have hulb : ub.length ≤ s := Nat.le_of_eq hul
      clear hT hul
      obtain ⟨w5, hmake, ho5, hg5⟩ := make_nums w4 n (by omega)
      have HR5 := Lib.hid ((Rd.own HO4.out).grown hg5 (Nat.le_refl _) (by simp))
      have HC5 := Lib.hid (HC4.out.grown hg5 (by simp))
      have HG5 := Lib.hid (HG4.out.trans (gb_of_gb_none hg5))
      have HO5 := Lib.hid ho5
      have s5 := hg5.size
      have hg4l := HC4.out.lt
      clear ho5 hg5
      go_wp2_with fail
      refine (good_any HC4.out).mono ?_
      rintro r w' ⟨rfl, rfl⟩
      go_wp2_with fail
      go_loopw [32] (fun i wr => ∃ (j : Nat) (xs : List Value), j ≤ n ∧ i = .int .i64 (j : Int) ∧ wr.ownsRow w4.heap.size 3 1 (.slice (some ⟨w4.heap.size, 0, none⟩) n n) n xs ∧ Upto ub wd n j xs ∧ w5.grownBy wr (some w4.heap.size)) (fun i _ => n - (intOf i).toNat)
      case atStart => exact ⟨0, _, Nat.zero_le _, rfl, HO5.out, ⟨by simp, fun j hj => by omega⟩, gb_refl _ _⟩
      case round =>
        obtain ⟨j, xs, hj, rfl, ho6, hup, hg6⟩ := hrel
        have HO6 := Lib.hid ho6
        have HUP := Lib.hid hup
        have HG6 := Lib.hid hg6
        have s6 := hg6.size
        have HR6 := Lib.hid (HR5.out.grown hg6 s5 (fun x hx => .inr (by injection hx with hx; omega)))
        clear ho6 hup hg6
        by_cases hlt : j < n
        · have hfr := HO6.out.frozenAt j
          have hxj : j < xs.length := by rw [HUP.out.1]; exact hlt
          have hcell : wr.cell? ⟨w4.heap.size, j, none⟩ = some xs[j] := by
            rw [HO6.out.cellAt j (by omega), List.getElem?_eq_getElem hxj]
          have HST := fun (q : Nat) (u : Value) => Lib.hid (World.ownsRow.stored (w := wr.drewN q) HO6.out j u)
          generalize xs[j] = x0 at *
          go_wp2_with fail
          refine (pget_any ub wd j hw (by omega) (by omega) HR6.out).mono ?_
          rintro r w7 ⟨rfl, q, rfl⟩
          go_wp2
          go_roundw
          case rel =>
            refine ⟨j + 1, _, by omega, by go_num, (HST q _).out.1, upto_succ HUP.out hlt, ?_⟩
            exact (gb_drewN HG6.out q).trans (HST q _).out.2
          case measure => simp [intOf]; omega
        · obtain rfl : j = n := by omega
          have hall := upto_all HUP.out
          have hoL := HO6.out
          rw [hall] at hoL
          have HOL := Lib.hid hoL
          have HC6 := Lib.hid (HC5.out.grown HG6.out (fun x hx => .inr (by injection hx with hx; omega)))
          have HG7 := Lib.hid (gb_more HG5.out HG6.out (by omega))
          have hlen : (ints (getsN ub wd j)).length = j := by rw [ints_length, getsN_length]
          have HLEN := Lib.hid hlen
          have HWO := Lib.hid (ints_word (ns := getsN ub wd j) (fun x hx => by
            have h1 := getsN_lt ub wd j x hx
            have h2 : 2 ^ wd ≤ 2 ^ 32 := Nat.pow_le_pow_right (by omega) hw
            omega))
          have HWD := Lib.hid (width_len (w := wr) _ j HWO.out (Rd.own HOL.out) hlen)
          have HFI := Lib.hid (filled_any (w := wr) ub (j * wd) (by rw [HUL.out, HS.out]) (by omega) HR6.out)
          have hgl2 : (getsN ub wd j).length = j := getsN_length _ _ _
          have HGL := Lib.hid hgl2
          clear hall hoL hlen hgl2 hmake
          generalize hP2 : j * wd = P at *
          have HPP := Lib.hid hP2
          clear hP2
          by_cases hwd : wd = wide (ints (getsN ub wd j))
          · have hne : ((wd : Int) != (wide (ints (getsN ub wd j)) : Int)) = false := by rw [← hwd]; simp
            by_cases hfl : bval ub < 2 ^ P
            · have HE : Hid (readMid bs j wd k2 e2 = (getsN ub wd j, k4, 0)) := by
                unfold Hid
                rw [HMID.out]
                unfold readEnd
                rw [if_neg (by simp), HPP.out, if_pos ⟨hwd, hfl⟩]
              have HFT := Lib.hid (decide_eq_true hfl)
              rw [HFT.out] at HFI
              clear hfl hwd
              generalize wide (ints (getsN ub wd j)) = wl at *
              go_wp2_with (first
                | (go_at_call 14; refine HWD.out.mono ?_; rintro r w' ⟨rfl, rfl⟩)
                | (go_at_call 38; refine HFI.out.mono ?_; rintro r w' ⟨rfl, rfl⟩))
              go_ret
              rw [HE.out]
              exact ⟨_, _, by rw [HGL.out]; rfl, by rw [HGL.out]; exact own_base HOL.out (by omega), HC6.out, HG7.out⟩
            · have HE : Hid (readMid bs j wd k2 e2 = ([], k4, 3)) := by
                unfold Hid
                rw [HMID.out]
                unfold readEnd
                rw [if_neg (by simp), HPP.out, if_neg (fun h => hfl h.2)]
              have HFT := Lib.hid (decide_eq_false hfl)
              rw [HFT.out] at HFI
              clear hfl hwd
              generalize wide (ints (getsN ub wd j)) = wl at *
              go_wp2_with (first
                | (go_at_call 14; refine HWD.out.mono ?_; rintro r w' ⟨rfl, rfl⟩)
                | (go_at_call 38; refine HFI.out.mono ?_; rintro r w' ⟨rfl, rfl⟩)
                | (go_at_call 35; refine (fail_any 3 HC6.out).mono ?_; rintro r w8 ⟨rfl, hc8, hg8⟩; have HC8 := Lib.hid hc8; have HG8 := Lib.hid hg8; clear hc8 hg8))
              go_ret
              rw [HE.out]
              exact ⟨none, 0, rfl, World.ownsRow_nil .., by simpa using HC8.out, HG7.out.trans HG8.out⟩
          · have hne : ((wd : Int) != (wide (ints (getsN ub wd j)) : Int)) = true := by rw [bne_iff_ne]; omega
            have HE : Hid (readMid bs j wd k2 e2 = ([], k4, 3)) := by
              unfold Hid
              rw [HMID.out]
              unfold readEnd
              rw [if_neg (by simp), if_neg (fun h => hwd h.1)]
            clear hwd
            generalize wide (ints (getsN ub wd j)) = wl at *
            go_wp2_with (first
              | (go_at_call 14; refine HWD.out.mono ?_; rintro r w' ⟨rfl, rfl⟩)
              | (go_at_call 35; refine (fail_any 3 HC6.out).mono ?_; rintro r w8 ⟨rfl, hc8, hg8⟩; have HC8 := Lib.hid hc8; have HG8 := Lib.hid hg8; clear hc8 hg8))
            go_ret
            rw [HE.out]
            exact ⟨none, 0, rfl, World.ownsRow_nil .., by simpa using HC8.out, HG7.out.trans HG8.out⟩
    · have HE : Hid (readMid bs n wd k2 e2 = ([], k4, e4)) := by
        unfold Hid
        rw [HMID.out]
        unfold readEnd
        rw [if_pos he]
      have he' : (e4 == 0) = false := by simpa using he
      have HGD := Lib.hid (good_any HC4.out)
      rw [he'] at HGD
      clear hT he he'
      go_wp2_with fail
      refine HGD.out.mono ?_
      rintro r w' ⟨rfl, rfl⟩
      go_wp2
      go_ret
      rw [HE.out]
      exact ⟨none, 0, rfl, World.ownsRow_nil .., HC4.out, HG4.out⟩
  · have HR : Hid (rightB (wd : Int) = false) := decide_eq_false (by omega)
    have hP : (n : Int) * (wd : Int) = ((n * wd : Nat) : Int) := (Int.natCast_mul n wd).symm
    have hPb : n * wd ≤ 2147483647 * 255 := Nat.mul_le_mul hn (by omega)
    obtain ⟨e3, he3⟩ : ∃ e3, e3 = if e2 = 0 then (3 : Int) else e2 := ⟨_, rfl⟩
    have he30 : e3 ≠ 0 := by rw [he3]; split <;> omega
    have HE : Hid (readMid bs n wd k2 e2 = ([], k2, e3)) := by
      unfold Hid readMid widthE
      rw [if_neg hw, ← he3, takeR_err _ _ _ _ _ he30]
      unfold readEnd
      rw [if_pos he30]
    generalize hs : (n * wd + 7) / 8 = s
    have HS := Lib.hid hs
    have HT := Lib.hid (takeR_err bs k2 e3 0 (s : Int) he30)
    have hbe : (e3 == 0) = false := by simpa using he30
    have HBE := Lib.hid hbe
    have HE3 := Lib.hid he3
    clear hs he30 hbe he3
    go_wp2_with fail
    refine (right_is _ false HR.out).mono ?_
    rintro r w' ⟨rfl, rfl⟩
    go_wp2_with fail
    refine (fail_any 3 HC2.out).mono ?_
    rintro r w3 ⟨rfl, hc3, hg3⟩
    rw [← HE3.out] at hc3
    have HC3 := Lib.hid hc3
    have HG3 := Lib.hid (HG2.out.trans hg3)
    clear hc3 hg3
    go_wp2_with fail
    refine (size_is n wd s (by omega) HS.out).mono ?_
    rintro r w' ⟨rfl, rfl⟩
    go_wp2_with fail
    refine (bytes_any (s : Int) HC3.out (by omega)).mono ?_
    rw [HT.out]
    rintro r w4 ⟨A4, c4, rfl, ho4, hc4, hg4⟩
    have HC4 := Lib.hid hc4
    have HG4 := Lib.hid (HG3.out.trans hg4)
    have HGD := Lib.hid (good_any hc4)
    rw [HBE.out] at HGD
    clear ho4 hc4 hg4
    go_wp2_with fail
    refine HGD.out.mono ?_
    rintro r w' ⟨rfl, rfl⟩
    go_wp2
    go_ret
    rw [HE.out]
    exact ⟨none, 0, rfl, World.ownsRow_nil .., HC4.out, HG4.out⟩
end Go.Proofs.Ytfoadchengbedaa
