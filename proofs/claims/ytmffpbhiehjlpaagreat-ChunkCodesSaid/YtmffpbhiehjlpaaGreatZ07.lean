/-
  The pack's Read.
  Varints as lists: what is put is read as it was; each number has one form.
  What Read answers, in plain: what is written is read as it was; what is read is written as it stood.
  What the cursor's Most takes, in plain, at whatever place: what is taken without an error stands so; what stands so is taken.
  What the pack's Read takes, in plain, at whatever place: what is taken without an error stands so; what stands so is taken.
-/
import Derived.Test.YtmffpbhiehjlpaaGreatZ05
import Derived.Test.YtmffpbhiehjlpaaGreatZ04
import Derived.Test.YtmffpbhiehjlpaaGreatZ06
import Derived.Laws.OwnMore
import Derived.Laws.BitsAll
namespace Go.Proofs.YtmffpbhiehjlpaaGreat
set_option linter.unusedSimpArgs false
set_option linter.unusedVariables false
open Go.RowKit
theorem filled_any {w : World} (bs : List UInt8) (n : Nat) (hl : bs.length = (n + 7) / 8) (hn : n ≤ 1000000000000) {lo h' : Nat} {A : Option Addr} {c : Nat} (h : Rd w lo h' A c (bv bs)) :
    Calls Tryz.prog 119 #[.slice A bs.length c, .int .i64 (n : Int)] w fun r w' => r = .returned (.bool (decide (bval bs < 2 ^ n))) ∧ w = w' := by
  have hll := h.len
  have hc := h.cap
  rw [bv_length] at hll
  unfold maxLen at hc
  have H := Lib.hid h
  clear h
  by_cases hr : n % 8 = 0
  · have HT : Hid (decide (bval bs < 2 ^ n) = true) := decide_eq_true (filled_all bs n hl hr)
    have h8 : ((n : Int) % 8 == 0) = true := by rw [beq_iff_eq]; omega
    have hlb : bs.length ≤ (n + 7) / 8 := Nat.le_of_eq hl
    clear hl hr
    go_enter Tryz.func119, Tryz.ntmps119
    go_wp2
    go_ret
    exact ⟨ret_bool HT.out.symm, rfl⟩
  · have hp : 0 < bs.length := by omega
    have HF := Lib.hid (filled_iff bs n hl hr)
    have h8 : ((n : Int) % 8 == 0) = false := by rw [beq_eq_false_iff_ne]; omega
    have hlb : bs.length ≤ (n + 7) / 8 := Nat.le_of_eq hl
    obtain ⟨b, off, rfl, _, _, hcell⟩ := H.out.byte (k := bs.length - 1) (by omega)
    rw [last_get bs hp] at hcell
    generalize bs.getLastD 0 = x8 at *
    have hx := UInt8.toNat_lt x8
    generalize x8.toNat = x at *
    clear hl
    go_enter Tryz.func119, Tryz.ntmps119
    go_wp2
    go_ret
    refine ⟨ret_bool ?_, rfl⟩
    have e : (x : Int) / 2 ^ (n % 8) = ((x / 2 ^ (n % 8) : Nat) : Int) := by push_cast; rfl
    rw [e, Bool.eq_iff_iff, beq_iff_eq, decide_eq_true_iff, ← HF.out]
    omega
def readEnd (bs : List UInt8) (n wd k : Nat) (e : Int) : List Nat × Nat × Int :=
  if e ≠ 0 then ([], k, e) else if wd = wide (ints (getsN bs wd n)) ∧ bval bs < 2 ^ (n * wd) then (getsN bs wd n, k, 0) else ([], k, 3)
def widthE (wd : Nat) (e : Int) : Int := if wd ≤ 32 then e else if e = 0 then 3 else e
def readMid (bs : List UInt8) (n wd k : Nat) (e : Int) : List Nat × Nat × Int :=
  readEnd (takeR bs k (widthE wd e) 0 (((n * wd + 7) / 8 : Nat) : Int)).1 n wd (takeR bs k (widthE wd e) 0 (((n * wd + 7) / 8 : Nat) : Int)).2.1 (takeR bs k (widthE wd e) 0 (((n * wd + 7) / 8 : Nat) : Int)).2.2
def readR (bs : List UInt8) (k : Nat) (e most : Int) : List Nat × Nat × Int :=
  readMid bs (mostR bs k e (min most 2147483647)).1 ((takeR bs (mostR bs k e (min most 2147483647)).2.1 (mostR bs k e (min most 2147483647)).2.2 0 1).1.headD 0).toNat
    (takeR bs (mostR bs k e (min most 2147483647)).2.1 (mostR bs k e (min most 2147483647)).2.2 0 1).2.1 (takeR bs (mostR bs k e (min most 2147483647)).2.1 (mostR bs k e (min most 2147483647)).2.2 0 1).2.2
theorem width_len {w : World} (zs : List Int) (n : Nat) (hz : Word zs) {lo h' : Nat} {A : Option Addr} {c : Nat} (h : Rd w lo h' A c (iv zs)) (hn : zs.length = n) :
    Calls Tryz.prog 118 #[.slice A n c] w fun r w' => r = .returned (.int .i64 (wide zs : Int)) ∧ w = w' := by
  subst hn
  exact width_any zs hz h
def Upto (bs : List UInt8) (wd n k : Nat) (xs : List Value) : Prop := xs.length = n ∧ ∀ j, j < k → xs[j]? = some (.int .i64 (getN bs wd j : Int))
theorem upto_all {bs : List UInt8} {wd n : Nat} {xs : List Value} (h : Upto bs wd n n xs) : xs = iv (ints (getsN bs wd n)) := by
  apply List.ext_getElem?
  intro j
  by_cases hj : j < n
  · rw [h.2 j hj]
    have := getsN_get bs wd n j hj
    simp [iv, ints, this]
  · rw [List.getElem?_eq_none (by rw [h.1]; omega), List.getElem?_eq_none (by rw [iv_length, ints_length, getsN_length]; omega)]
theorem upto_succ {bs : List UInt8} {wd n k : Nat} {xs : List Value} (h : Upto bs wd n k xs) (hk : k < n) : Upto bs wd n (k + 1) (xs.set k (.int .i64 (getN bs wd k : Int))) := by
  refine ⟨by rw [List.length_set]; exact h.1, fun j hj => ?_⟩
  by_cases e : j = k
  · subst e
    rw [List.getElem?_set_self (by rw [h.1]; exact hk)]
  · rw [List.getElem?_set_ne (by omega)]
    exact h.2 j (by omega)
theorem ints_word {ns : List Nat} (h : ∀ x ∈ ns, x < 4294967296) : Word (ints ns) := by
  intro z hz
  obtain ⟨x, hx, rfl⟩ := List.mem_map.1 hz
  have := h x hx
  omega
set_option maxRecDepth 20000 in
set_option maxHeartbeats 1000000 in
theorem pread_any {w : World} {lo g k : Nat} {bs : List UInt8} {e : Int} (most : Int) (h : Cur w lo g bs k e) (hb : bs.length ≤ 1000000000000) :
    Calls Tryz.prog 99 #[cp g, .int .i64 most] w fun r w' => ∃ A c, r = .returned (.slice A (readR bs k e most).1.length c) ∧ w'.ownsRow w.heap.size 3 1 (.slice A (readR bs k e most).1.length c) (readR bs k e most).1.length (iv (ints (readR bs k e most).1)) ∧
      Cur w' lo g bs (readR bs k e most).2.1 (readR bs k e most).2.2 ∧ w.grownBy w' (some g) := by
  have hgl := h.lt
  have HM := Lib.hid (most_any (min most 2147483647) h)
  have hmle := mostR_le bs k e (min most 2147483647)
  unfold readR
  generalize mostR bs k e (min most 2147483647) = M at *
  obtain ⟨n, k1, e1⟩ := M
  dsimp only at HM hmle ⊢
  have hn : n ≤ 2147483647 := by omega
  have HBY := fun (w1 : World) (h1 : Cur w1 lo g bs k1 e1) => Lib.hid (byte_any h1)
  generalize takeR bs k1 e1 0 1 = T at *
  obtain ⟨tb, k2, e2⟩ := T
  dsimp only at HBY ⊢
  have hwd256 : (tb.headD 0).toNat < 256 := UInt8.toNat_lt _
  generalize (tb.headD 0).toNat = wd at *
  clear h hmle
  go_enter Tryz.func99, Tryz.ntmps99
  go_wp2_with fail
  refine HM.out.mono ?_
  rintro r w1 ⟨rfl, hc1, hg1⟩
  have HC1 := Lib.hid hc1
  have HG1 := Lib.hid hg1
  have s1 := hg1.size
  clear hc1 hg1
  go_wp2_with fail
  refine (HBY w1 HC1.out).out.mono ?_
  rintro r w2 ⟨rfl, hc2, hg2⟩
  have HC2 := Lib.hid hc2
  have HG2 := Lib.hid (HG1.out.trans hg2)
  have s2 := hg2.size
  clear hc2 hg2
  by_cases hw : wd ≤ 32
  · have HR : Hid (rightB (wd : Int) = true) := decide_eq_true (by omega)
    have hP : (n : Int) * (wd : Int) = ((n * wd : Nat) : Int) := (Int.natCast_mul n wd).symm
    have hPb : n * wd ≤ 2147483647 * 32 := Nat.mul_le_mul hn hw
    have HMID : Hid (readMid bs n wd k2 e2 = readEnd (takeR bs k2 e2 0 (((n * wd + 7) / 8 : Nat) : Int)).1 n wd (takeR bs k2 e2 0 (((n * wd + 7) / 8 : Nat) : Int)).2.1 (takeR bs k2 e2 0 (((n * wd + 7) / 8 : Nat) : Int)).2.2) := by
      unfold Hid readMid widthE
      rw [if_pos hw]
    generalize hs : (n * wd + 7) / 8 = s at HMID
    have HS := Lib.hid hs
    have hsb : s ≤ 2147483647 * 5 := by omega
    clear hs
    go_wp2_with fail
    refine (right_is _ true HR.out).mono ?_
    rintro r w' ⟨rfl, rfl⟩
    go_wp2_with fail
    refine (size_is n wd s (by omega) HS.out).mono ?_
    rintro r w' ⟨rfl, rfl⟩
    go_wp2_with fail
    refine (bytes_any (s : Int) HC2.out (by omega)).mono ?_
    have hT := takeR_full bs k2 e2 s
    generalize takeR bs k2 e2 0 (s : Int) = U at *
    obtain ⟨ub, k4, e4⟩ := U
    dsimp only at hT ⊢
    rintro r w4 ⟨A4, c4, rfl, ho4, hc4, hg4⟩
    have HO4 := Lib.hid ho4
    have HC4 := Lib.hid hc4
    have HG4 := Lib.hid (HG2.out.trans hg4)
    have s4 := hg4.size
    clear ho4 hc4 hg4
    by_cases he : e4 = 0
    · subst he
      have hul : ub.length = s := hT rfl
      have HUL := Lib.hid hul
      have hulb : ub.length ≤ s := Nat.le_of_eq hul
      clear hT hul
      obtain ⟨w5, hmake, ho5, hg5⟩ := make_nums w4 n (by omega)
      have HR5 := Lib.hid ((Rd.own HO4.out).grown hg5 (Nat.le_refl _) (by simp))
      have HC5 := Lib.hid (HC4.out.grown hg5 (by simp))
      have HG5 := Lib.hid (HG4.out.trans (gb_of_gb_none hg5))
      have HO5 := Lib.hid ho5
      have s5 := hg5.size
      have hg4l := HC4.out.lt
      clear ho5 hg5
      go_wp2_with fail
      refine (good_any HC4.out).mono ?_
      rintro r w' ⟨rfl, rfl⟩
      go_wp2_with fail
      go_loopw [32] (fun i wr => ∃ (j : Nat) (xs : List Value), j ≤ n ∧ i = .int .i64 (j : Int) ∧ wr.ownsRow w4.heap.size 3 1 (.slice (some ⟨w4.heap.size, 0, none⟩) n n) n xs ∧ Upto ub wd n j xs ∧ w5.grownBy wr (some w4.heap.size)) (fun i _ => n - (intOf i).toNat)
      case atStart => exact ⟨0, _, Nat.zero_le _, rfl, HO5.out, ⟨by simp, fun j hj => by omega⟩, gb_refl _ _⟩
      case round =>
        obtain ⟨j, xs, hj, rfl, ho6, hup, hg6⟩ := hrel
        have HO6 := Lib.hid ho6
        have HUP := Lib.hid hup
        have HG6 := Lib.hid hg6
        have s6 := hg6.size
        have HR6 := Lib.hid (HR5.out.grown hg6 s5 (fun x hx => .inr (by injection hx with hx; omega)))
        clear ho6 hup hg6
        by_cases hlt : j < n
        · have hfr := HO6.out.frozenAt j
          have hxj : j < xs.length := by rw [HUP.out.1]; exact hlt
          have hcell : wr.cell? ⟨w4.heap.size, j, none⟩ = some xs[j] := by
            rw [HO6.out.cellAt j (by omega), List.getElem?_eq_getElem hxj]
          have HST := fun (q : Nat) (u : Value) => Lib.hid (World.ownsRow.stored (w := wr.drewN q) HO6.out j u)
          generalize xs[j] = x0 at *
          go_wp2_with fail
          refine (pget_any ub wd j hw (by omega) (by omega) HR6.out).mono ?_
          rintro r w7 ⟨rfl, q, rfl⟩
          go_wp2
          go_roundw
          case rel =>
            refine ⟨j + 1, _, by omega, by go_num, (HST q _).out.1, upto_succ HUP.out hlt, ?_⟩
            exact (gb_drewN HG6.out q).trans (HST q _).out.2
          case measure => simp [intOf]; omega
        · obtain rfl : j = n := by omega
          have hall := upto_all HUP.out
          have hoL := HO6.out
          rw [hall] at hoL
          have HOL := Lib.hid hoL
          have HC6 := Lib.hid (HC5.out.grown HG6.out (fun x hx => .inr (by injection hx with hx; omega)))
          have HG7 := Lib.hid (gb_more HG5.out HG6.out (by omega))
          have hlen : (ints (getsN ub wd j)).length = j := by rw [ints_length, getsN_length]
          have HLEN := Lib.hid hlen
          have HWO := Lib.hid (ints_word (ns := getsN ub wd j) (fun x hx => by
            have h1 := getsN_lt ub wd j x hx
            have h2 : 2 ^ wd ≤ 2 ^ 32 := Nat.pow_le_pow_right (by omega) hw
            omega))
          have HWD := Lib.hid (width_len (w := wr) _ j HWO.out (Rd.own HOL.out) hlen)
          have HFI := Lib.hid (filled_any (w := wr) ub (j * wd) (by rw [HUL.out, HS.out]) (by omega) HR6.out)
          have hgl2 : (getsN ub wd j).length = j := getsN_length _ _ _
          have HGL := Lib.hid hgl2
          clear hall hoL hlen hgl2 hmake
          generalize hP2 : j * wd = P at *
          have HPP := Lib.hid hP2
          clear hP2
          by_cases hwd : wd = wide (ints (getsN ub wd j))
          · have hne : ((wd : Int) != (wide (ints (getsN ub wd j)) : Int)) = false := by rw [← hwd]; simp
            by_cases hfl : bval ub < 2 ^ P
            · have HE : Hid (readMid bs j wd k2 e2 = (getsN ub wd j, k4, 0)) := by
                unfold Hid
                rw [HMID.out]
                unfold readEnd
                rw [if_neg (by simp), HPP.out, if_pos ⟨hwd, hfl⟩]
              have HFT := Lib.hid (decide_eq_true hfl)
              rw [HFT.out] at HFI
              clear hfl hwd
              generalize wide (ints (getsN ub wd j)) = wl at *
              go_wp2_with (first
                | (go_at_call 118; refine HWD.out.mono ?_; rintro r w' ⟨rfl, rfl⟩)
                | (go_at_call 119; refine HFI.out.mono ?_; rintro r w' ⟨rfl, rfl⟩))
              go_ret
              rw [HE.out]
              exact ⟨_, _, by rw [HGL.out]; rfl, by rw [HGL.out]; exact own_base HOL.out (by omega), HC6.out, HG7.out⟩
            · have HE : Hid (readMid bs j wd k2 e2 = ([], k4, 3)) := by
                unfold Hid
                rw [HMID.out]
                unfold readEnd
                rw [if_neg (by simp), HPP.out, if_neg (fun h => hfl h.2)]
              have HFT := Lib.hid (decide_eq_false hfl)
              rw [HFT.out] at HFI
              clear hfl hwd
              generalize wide (ints (getsN ub wd j)) = wl at *
              go_wp2_with (first
                | (go_at_call 118; refine HWD.out.mono ?_; rintro r w' ⟨rfl, rfl⟩)
                | (go_at_call 119; refine HFI.out.mono ?_; rintro r w' ⟨rfl, rfl⟩)
                | (go_at_call 51; refine (fail_any 3 HC6.out).mono ?_; rintro r w8 ⟨rfl, hc8, hg8⟩; have HC8 := Lib.hid hc8; have HG8 := Lib.hid hg8; clear hc8 hg8))
              go_ret
              rw [HE.out]
              exact ⟨none, 0, rfl, World.ownsRow_nil .., by simpa using HC8.out, HG7.out.trans HG8.out⟩
          · have hne : ((wd : Int) != (wide (ints (getsN ub wd j)) : Int)) = true := by rw [bne_iff_ne]; omega
            have HE : Hid (readMid bs j wd k2 e2 = ([], k4, 3)) := by
              unfold Hid
              rw [HMID.out]
              unfold readEnd
              rw [if_neg (by simp), if_neg (fun h => hwd h.1)]
            clear hwd
            generalize wide (ints (getsN ub wd j)) = wl at *
            go_wp2_with (first
              | (go_at_call 118; refine HWD.out.mono ?_; rintro r w' ⟨rfl, rfl⟩)
              | (go_at_call 51; refine (fail_any 3 HC6.out).mono ?_; rintro r w8 ⟨rfl, hc8, hg8⟩; have HC8 := Lib.hid hc8; have HG8 := Lib.hid hg8; clear hc8 hg8))
            go_ret
            rw [HE.out]
            exact ⟨none, 0, rfl, World.ownsRow_nil .., by simpa using HC8.out, HG7.out.trans HG8.out⟩
    · have HE : Hid (readMid bs n wd k2 e2 = ([], k4, e4)) := by
        unfold Hid
        rw [HMID.out]
        unfold readEnd
        rw [if_pos he]
      have he' : (e4 == 0) = false := by simpa using he
      have HGD := Lib.hid (good_any HC4.out)
      rw [he'] at HGD
      clear hT he he'
      go_wp2_with fail
      refine HGD.out.mono ?_
      rintro r w' ⟨rfl, rfl⟩
      go_wp2
      go_ret
      rw [HE.out]
      exact ⟨none, 0, rfl, World.ownsRow_nil .., HC4.out, HG4.out⟩
  · have HR : Hid (rightB (wd : Int) = false) := decide_eq_false (by omega)
    have hP : (n : Int) * (wd : Int) = ((n * wd : Nat) : Int) := (Int.natCast_mul n wd).symm
    have hPb : n * wd ≤ 2147483647 * 255 := Nat.mul_le_mul hn (by omega)
    obtain ⟨e3, he3⟩ : ∃ e3, e3 = if e2 = 0 then (3 : Int) else e2 := ⟨_, rfl⟩
    have he30 : e3 ≠ 0 := by rw [he3]; split <;> omega
    have HE : Hid (readMid bs n wd k2 e2 = ([], k2, e3)) := by
      unfold Hid readMid widthE
      rw [if_neg hw, ← he3, takeR_err _ _ _ _ _ he30]
      unfold readEnd
      rw [if_pos he30]
    generalize hs : (n * wd + 7) / 8 = s
    have HS := Lib.hid hs
    have HT := Lib.hid (takeR_err bs k2 e3 0 (s : Int) he30)
    have hbe : (e3 == 0) = false := by simpa using he30
    have HBE := Lib.hid hbe
    have HE3 := Lib.hid he3
    clear hs he30 hbe he3
    go_wp2_with fail
    refine (right_is _ false HR.out).mono ?_
    rintro r w' ⟨rfl, rfl⟩
    go_wp2_with fail
    refine (fail_any 3 HC2.out).mono ?_
    rintro r w3 ⟨rfl, hc3, hg3⟩
    rw [← HE3.out] at hc3
    have HC3 := Lib.hid hc3
    have HG3 := Lib.hid (HG2.out.trans hg3)
    clear hc3 hg3
    go_wp2_with fail
    refine (size_is n wd s (by omega) HS.out).mono ?_
    rintro r w' ⟨rfl, rfl⟩
    go_wp2_with fail
    refine (bytes_any (s : Int) HC3.out (by omega)).mono ?_
    rw [HT.out]
    rintro r w4 ⟨A4, c4, rfl, ho4, hc4, hg4⟩
    have HC4 := Lib.hid hc4
    have HG4 := Lib.hid (HG3.out.trans hg4)
    have HGD := Lib.hid (good_any hc4)
    rw [HBE.out] at HGD
    clear ho4 hc4 hg4
    go_wp2_with fail
    refine HGD.out.mono ?_
    rintro r w' ⟨rfl, rfl⟩
    go_wp2
    go_ret
    rw [HE.out]
    exact ⟨none, 0, rfl, World.ownsRow_nil .., HC4.out, HG4.out⟩
end Go.Proofs.YtmffpbhiehjlpaaGreat
namespace Go.Proofs.YtmffpbhiehjlpaaGreat
set_option linter.unusedSimpArgs false
set_option linter.unusedVariables false
open Go.RowKit
theorem toNat_ofNat_lt {n : Nat} (h : n < 256) : (UInt8.ofNat n).toNat = n := by rw [UInt8.toNat_ofNat']; omega
theorem putL_facts (n : Nat) : ∀ rest : List UInt8, lead (putL n ++ rest) + 1 = (putL n).length ∧ val ((putL n ++ rest).take (lead (putL n ++ rest) + 1)) = n ∧
    (0 < n → ((putL n ++ rest)[lead (putL n ++ rest)]?.getD 0).toNat ≠ 0) := by
  induction n using Nat.strongRecOn with
  | ind n ih =>
    intro rest
    by_cases h : n < 128
    · rw [putL_small h]
      have e := toNat_ofNat_lt (n := n) (by omega)
      have hl : lead ([UInt8.ofNat n] ++ rest) = 0 := by
        simp only [List.cons_append, lead]
        rw [if_neg (by omega)]
      rw [hl]
      refine ⟨rfl, ?_, fun hp => ?_⟩
      · simp only [List.cons_append, List.nil_append, Nat.zero_add, List.take_succ_cons, List.take_zero, val, e]
        omega
      · simp only [List.cons_append, List.getElem?_cons_zero, Option.getD_some, e]
        omega
    · rw [putL_big (by omega)]
      obtain ⟨i1, i2, i3⟩ := ih (n / 128) (by omega) rest
      have e := toNat_ofNat_lt (n := n % 128 + 128) (by omega)
      have hl : lead (UInt8.ofNat (n % 128 + 128) :: putL (n / 128) ++ rest) = lead (putL (n / 128) ++ rest) + 1 := by
        simp only [List.cons_append, lead]
        rw [if_pos (by omega)]
      rw [hl]
      refine ⟨by simp only [List.length_cons]; omega, ?_, fun hp => ?_⟩
      · simp only [List.cons_append, List.take_succ_cons, val, e, i2]
        omega
      · simp only [List.cons_append, List.getElem?_cons_succ]
        exact i3 (by omega)
theorem vnum_putL (n : Nat) (h : n ≤ 9223372036854775807) (rest : List UInt8) : vnum (putL n ++ rest) = (n, (putL n).length, 0) := by
  obtain ⟨h1, h2, h3⟩ := putL_facts n rest
  have h9 := putL_nine n h
  have hlen : (putL n ++ rest).length = (putL n).length + rest.length := List.length_append
  unfold vnum
  rw [if_neg (by omega), if_neg (by omega), if_neg, h2, h1]
  rintro ⟨hp, hz⟩
  refine h3 ?_ hz
  rcases Nat.eq_zero_or_pos n with h0 | h0
  · subst h0
    rw [putL_small (by omega)] at h1
    simp only [List.length_cons, List.length_nil] at h1
    rw [putL_small (by omega)] at hp
    omega
  · exact h0
theorem val_pos : ∀ b : List UInt8, lead b < b.length → (b[lead b]?.getD 0).toNat ≠ 0 → 0 < val (b.take (lead b + 1))
  | [], h, _ => by simp at h
  | y :: r, h, hz => by
    by_cases hy : 128 ≤ y.toNat
    · have hl : lead (y :: r) = lead r + 1 := by simp only [lead]; rw [if_pos hy]
      rw [hl] at h hz ⊢
      simp only [List.length_cons, List.getElem?_cons_succ] at h hz
      have := val_pos r (by omega) hz
      simp only [List.take_succ_cons, val]
      omega
    · have hl : lead (y :: r) = 0 := by simp only [lead]; rw [if_neg hy]
      rw [hl] at hz ⊢
      simp only [List.getElem?_cons_zero, Option.getD_some] at hz
      simp only [Nat.zero_add, List.take_succ_cons, List.take_zero, val]
      omega
theorem putL_val : ∀ b : List UInt8, lead b < b.length → ¬ (0 < lead b ∧ (b[lead b]?.getD 0).toNat = 0) → putL (val (b.take (lead b + 1))) = b.take (lead b + 1)
  | [], h, _ => by simp at h
  | y :: r, h, hz => by
    have hy256 : y.toNat < 256 := UInt8.toNat_lt y
    by_cases hy : 128 ≤ y.toNat
    · have hl : lead (y :: r) = lead r + 1 := by simp only [lead]; rw [if_pos hy]
      rw [hl] at h hz ⊢
      simp only [List.length_cons, List.getElem?_cons_succ] at h hz
      have hz' : (r[lead r]?.getD 0).toNat ≠ 0 := fun e => hz ⟨by omega, e⟩
      have hp := val_pos r (by omega) hz'
      have hi := putL_val r (by omega) (fun e => hz' e.2)
      simp only [List.take_succ_cons, val]
      rw [putL_big (by omega)]
      rw [show (y.toNat % 128 + 128 * val (r.take (lead r + 1))) % 128 + 128 = y.toNat from by omega, show (y.toNat % 128 + 128 * val (r.take (lead r + 1))) / 128 = val (r.take (lead r + 1)) from by omega, hi]
      simp
    · have hl : lead (y :: r) = 0 := by simp only [lead]; rw [if_neg hy]
      rw [hl]
      simp only [Nat.zero_add, List.take_succ_cons, List.take_zero, val]
      rw [putL_small (by omega), show y.toNat % 128 + 128 * 0 = y.toNat from by omega]
      simp
theorem vnum_form (b : List UInt8) (h : (vnum b).2.2 = 0) : putL (vnum b).1 = b.take (vnum b).2.1 ∧ 0 < (vnum b).2.1 ∧ (vnum b).1 ≤ 9223372036854775807 := by
  unfold vnum at h ⊢
  by_cases h9 : 9 ≤ lead b
  · rw [if_pos h9] at h
    simp only [] at h
    split at h <;> omega
  · rw [if_neg h9] at h ⊢
    by_cases hl : b.length ≤ lead b
    · rw [if_pos hl] at h
      simp only [] at h
      omega
    · rw [if_neg hl] at h ⊢
      by_cases hz : 0 < lead b ∧ (b[lead b]?.getD 0).toNat = 0
      · rw [if_pos hz] at h
        simp only [] at h
        omega
      · rw [if_neg hz]
        refine ⟨putL_val b (by omega) hz, Nat.succ_pos _, ?_⟩
        have h1 := val_lt (b.take (lead b + 1))
        have h2 : 128 ^ (b.take (lead b + 1)).length ≤ 128 ^ 9 := Nat.pow_le_pow_right (by omega) (by rw [List.length_take]; omega)
        simp only []
        omega
end Go.Proofs.YtmffpbhiehjlpaaGreat
namespace Go.Proofs.YtmffpbhiehjlpaaGreat
set_option linter.unusedSimpArgs false
set_option linter.unusedVariables false
theorem readMid_err (bs : List UInt8) (n wd k : Nat) (e : Int) (he : e ≠ 0) : readMid bs n wd k e = ([], k, widthE wd e) ∧ widthE wd e ≠ 0 := by
  have h : widthE wd e = e := by
    unfold widthE
    by_cases hw : wd ≤ 32
    · rw [if_pos hw]
    · rw [if_neg hw, if_neg he]
  rw [h]
  refine ⟨?_, he⟩
  unfold readMid
  rw [h, takeR_err _ _ _ _ _ he]
  unfold readEnd
  rw [if_pos he]
theorem widthE_good {wd : Nat} (h : wd ≤ 32) : widthE wd 0 = 0 := by
  unfold widthE
  rw [if_pos h]
end Go.Proofs.YtmffpbhiehjlpaaGreat
namespace Go.Proofs.YtmffpbhiehjlpaaGreat
set_option linter.unusedSimpArgs false
set_option linter.unusedVariables false
theorem most_bad (bs : List UInt8) (k : Nat) {e : Int} (m : Int) (h : e ≠ 0) : mostR bs k e m = (0, k, e) := by simp [mostR, peekR, h]
theorem peek_split (bs : List UInt8) (k : Nat) (m : Int) : (∃ e, e ≠ 0 ∧ peekR bs k 0 m = (0, 0, e)) ∨ ((vnum (bs.drop k)).2.2 = 0 ∧ ((vnum (bs.drop k)).1 : Int) ≤ m ∧ peekR bs k 0 m = ((vnum (bs.drop k)).1, (vnum (bs.drop k)).2.1, 0)) := by
  by_cases hp : peekE bs k m = 0
  · refine .inr ?_
    have h2 := hp
    unfold peekE at h2
    split at h2
    · contradiction
    · rename_i h3
      split at h2
      · cases h2
      · exact ⟨Decidable.not_not.1 h3, by omega, by simp [peekR, hp]⟩
  · exact .inl ⟨_, hp, by simp [peekR, hp]⟩
theorem most_good {bs : List UInt8} {k n k2 : Nat} {m : Int} (hk : k ≤ bs.length) (h : mostR bs k 0 m = (n, k2, 0)) :
    (n : Int) ≤ m ∧ n ≤ 9223372036854775807 ∧ bs.drop k = putL n ++ bs.drop k2 ∧ k2 = k + (putL n).length ∧ k2 ≤ bs.length := by
  unfold mostR at h
  rcases peek_split bs k m with ⟨e, he, hr⟩ | ⟨h1, h2, hr⟩
  · rw [hr] at h
    simp only [Prod.mk.injEq] at h
    exact absurd h.2.2 he
  · rw [hr] at h
    simp only [Prod.mk.injEq] at h
    obtain ⟨rfl, rfl, -⟩ := h
    obtain ⟨f1, f2, f3⟩ := vnum_form _ h1
    have hs := vnum_size (bs.drop k)
    rw [List.length_drop] at hs
    have hl : (putL (vnum (bs.drop k)).1).length = (vnum (bs.drop k)).2.1 := by rw [f1, List.length_take, List.length_drop]; omega
    refine ⟨h2, f3, ?_, by rw [hl], by omega⟩
    rw [f1, ← List.drop_drop, List.take_append_drop]
theorem most_back {bs rest : List UInt8} {k n : Nat} {m : Int} (h : bs.drop k = putL n ++ rest) (hn : (n : Int) ≤ m) (h63 : n ≤ 9223372036854775807) : mostR bs k 0 m = (n, k + (putL n).length, 0) := by
  have hv := vnum_putL n h63 rest
  have h0 : peekE bs k m = 0 := by
    unfold peekE
    rw [h, hv, if_neg (by simp), if_neg (by simp only []; omega)]
  unfold mostR peekR
  rw [h, hv]
  simp [h0]
end Go.Proofs.YtmffpbhiehjlpaaGreat
namespace Go.Proofs.YtmffpbhiehjlpaaGreat
set_option linter.unusedSimpArgs false
set_option linter.unusedVariables false
theorem read_bad (bs : List UInt8) (k : Nat) {e : Int} (m : Int) (h : e ≠ 0) : readR bs k e m = ([], k, e) := by
  unfold readR
  rw [most_bad _ _ _ h]
  dsimp only
  rw [takeR_err _ _ _ _ _ h]
  have := readMid_err bs 0 (([] : List UInt8).headD 0).toNat k e h
  rw [this.1]
  have h2 : widthE (([] : List UInt8).headD 0).toNat e = e := by unfold widthE; simp [h]
  rw [h2]
theorem read_good {bs : List UInt8} {k k2 : Nat} {m : Nat} {ns : List Nat} (hk : k ≤ bs.length) (hm : m ≤ 2147483647) (h : readR bs k 0 (m : Int) = (ns, k2, 0)) :
    ns.length ≤ m ∧ May (ints ns) ∧ bs.drop k = writeL (ints ns) ++ bs.drop k2 ∧ k2 = k + (writeL (ints ns)).length ∧ k2 ≤ bs.length := by
  have hmm : min (m : Int) 2147483647 = (m : Int) := by omega
  unfold readR at h
  rw [hmm] at h
  obtain ⟨M, hM⟩ : ∃ M, mostR bs k 0 (m : Int) = M := ⟨_, rfl⟩
  rw [hM] at h
  obtain ⟨n, k1, e1⟩ := M
  dsimp only at h
  by_cases he1 : e1 = 0
  · subst he1
    obtain ⟨g1, g2, g3, g4, g5⟩ := most_good hk hM
    by_cases h1 : k1 + 1 ≤ bs.length
    · have hT : takeR bs k1 0 0 1 = ([bs[k1]], k1 + 1, 0) := by
        have := takeR_fit bs k1 1 h1
        rw [List.drop_eq_getElem_cons (by omega)] at this
        exact this
      rw [hT] at h
      dsimp only [List.headD_cons] at h
      have hbyte : UInt8.ofNat bs[k1].toNat = bs[k1] := by simp
      have hd1 : bs.drop k1 = bs[k1] :: bs.drop (k1 + 1) := List.drop_eq_getElem_cons (by omega)
      generalize hx : bs[k1].toNat = wd at *
      unfold readMid at h
      by_cases hw : wd ≤ 32
      · rw [widthE_good hw] at h
        by_cases h2 : k1 + 1 + (n * wd + 7) / 8 ≤ bs.length
        · have hUL : ((bs.drop (k1 + 1)).take ((n * wd + 7) / 8)).length = (n * wd + 7) / 8 := by simp; omega
          have hd2 : bs.drop (k1 + 1) = (bs.drop (k1 + 1)).take ((n * wd + 7) / 8) ++ bs.drop (k1 + 1 + (n * wd + 7) / 8) := (List.take_append_drop ((n * wd + 7) / 8) (bs.drop (k1 + 1))).symm.trans (by rw [List.drop_drop])
          rw [takeR_fit bs (k1 + 1) _ h2] at h
          dsimp only at h
          generalize (bs.drop (k1 + 1)).take ((n * wd + 7) / 8) = ub at *
          unfold readEnd at h
          rw [if_neg (by simp)] at h
          by_cases hc : wd = wide (ints (getsN ub wd n)) ∧ bval ub < 2 ^ (n * wd)
          · rw [if_pos hc] at h
            simp only [Prod.mk.injEq, and_true] at h
            obtain ⟨rfl, rfl⟩ := h
            have hgl : (getsN ub wd n).length = n := getsN_length _ _ _
            have hW : writeL (ints (getsN ub wd n)) = putL n ++ ([bs[k1]] ++ ub) := by
              unfold writeL
              rw [ints_length, hgl, ← hc.1, nats_ints, pack_gets ub wd n hUL hc.2, hbyte]
            refine ⟨by omega, ?_, ?_, ?_, h2⟩
            · intro z hz
              obtain ⟨x, hx, rfl⟩ := List.mem_map.1 hz
              have h3 := getsN_lt ub wd n x hx
              have h4 : 2 ^ wd ≤ 2 ^ 32 := Nat.pow_le_pow_right (by omega) hw
              omega
            · rw [hW, g3, hd1, hd2]
              simp
            · rw [hW, List.length_append, List.length_append, hUL, List.length_singleton]
              omega
          · rw [if_neg hc] at h
            simp at h
        · rw [takeR_short bs (k1 + 1) _ (by omega)] at h
          unfold readEnd at h
          rw [if_pos (show (2 : Int) ≠ 0 by decide)] at h
          simp at h
      · have h3 : widthE wd 0 = 3 := by
          unfold widthE
          rw [if_neg hw, if_pos rfl]
        rw [h3, takeR_err _ _ _ _ _ (by decide)] at h
        unfold readEnd at h
        rw [if_pos (show (3 : Int) ≠ 0 by decide)] at h
        simp at h
    · have hT : takeR bs k1 0 0 1 = ([], k1, 2) := takeR_short bs k1 1 (by omega)
      rw [hT] at h
      dsimp only at h
      have h4 := readMid_err bs n (([] : List UInt8).headD 0).toNat k1 2 (by decide)
      rw [h4.1] at h
      simp only [Prod.mk.injEq] at h
      exact absurd h.2.2 h4.2
  · rw [takeR_err _ _ _ _ _ he1] at h
    have h4 := readMid_err bs n (([] : List UInt8).headD 0).toNat k1 e1 he1
    dsimp only at h
    rw [h4.1] at h
    simp only [Prod.mk.injEq] at h
    exact absurd h.2.2 h4.2
theorem read_there {bs rest : List UInt8} {k : Nat} (zs : List Int) (hz : May zs) (m : Nat) (hk : k ≤ bs.length) (h : bs.drop k = writeL zs ++ rest) (hl : zs.length ≤ m) (hm : m ≤ 2147483647) : readR bs k 0 (m : Int) = (nats zs, k + (writeL zs).length, 0) := by
  have hmm : min (m : Int) 2147483647 = (m : Int) := by omega
  have hw := hz.wide_le
  have h1 : bs.drop k = putL zs.length ++ (UInt8.ofNat (wide zs) :: (packL (wide zs) (nats zs) ++ rest)) := by rw [h, writeL]; simp
  have hM := most_back (m := (m : Int)) h1 (by omega) (by omega)
  have hpl : (packL (wide zs) (nats zs)).length = (zs.length * wide zs + 7) / 8 := by rw [packL_length, nats_length]
  have hlen : bs.length - k = (putL zs.length).length + ((zs.length * wide zs + 7) / 8 + rest.length + 1) := by
    rw [← List.length_drop, h1]
    simp [hpl]
  have hd1 : bs.drop (k + (putL zs.length).length) = UInt8.ofNat (wide zs) :: (packL (wide zs) (nats zs) ++ rest) := by rw [← List.drop_drop, h1, List.drop_left]
  have hd2 : bs.drop (k + (putL zs.length).length + 1) = packL (wide zs) (nats zs) ++ rest := by
    rw [← List.drop_drop, hd1]
    rfl
  have hT : takeR bs (k + (putL zs.length).length) 0 0 1 = ([UInt8.ofNat (wide zs)], k + (putL zs.length).length + 1, 0) := by
    have := takeR_fit bs (k + (putL zs.length).length) 1 (by omega)
    rw [hd1] at this
    exact this
  have hU := takeR_fit bs (k + (putL zs.length).length + 1) ((zs.length * wide zs + 7) / 8) (by omega)
  rw [hd2, ← hpl, List.take_left] at hU
  rw [hpl] at hU
  have hlt : ∀ x ∈ nats zs, x < 2 ^ wide zs := by
    have := hz.fits.nats_lt
    rwa [Int.toNat_natCast] at this
  have hg : getsN (packL (wide zs) (nats zs)) (wide zs) zs.length = nats zs := by
    have := gets_pack (wide zs) (nats zs) hlt
    rwa [nats_length] at this
  have hwl : (writeL zs).length = (putL zs.length).length + ((zs.length * wide zs + 7) / 8 + 1) := by rw [writeL]; simp [hpl]
  unfold readR
  rw [hmm, hM]
  dsimp only
  rw [hT]
  dsimp only
  rw [show ([UInt8.ofNat (wide zs)].headD 0).toNat = wide zs from ofNat_toNat_lt (by omega)]
  unfold readMid
  rw [widthE_good hw, hU]
  unfold readEnd
  dsimp only
  rw [if_neg (by simp), hg, if_pos]
  · rw [hwl]
    simp only [Prod.mk.injEq, and_true, true_and]
    omega
  refine ⟨by rw [ints_nats (fun z h => (hz z h).1)], ?_⟩
  rw [bval_packL _ _ hlt]
  have := vsum_lt (wide zs) (nats zs) hlt
  rwa [nats_length, Nat.mul_comm] at this
end Go.Proofs.YtmffpbhiehjlpaaGreat
