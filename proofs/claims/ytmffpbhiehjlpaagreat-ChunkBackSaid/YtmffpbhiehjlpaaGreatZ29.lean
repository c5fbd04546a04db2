/-
  Whole numbers as float64: read back, compared, summed. No program is named here.
  The chunk package: payload, code, best, Code, Measure.
-/
import Derived.Laws.ComplexArith
import Derived.Test.YtmffpbhiehjlpaaGreatZ23
import Derived.Test.YtmffpbhiehjlpaaGreatZ28
import Derived.Test.YtmffpbhiehjlpaaGreatZ15
import Derived.Test.YtmffpbhiehjlpaaGreatZ26
import Derived.Deep.RegionHeld3
namespace Go.Proofs.YtmffpbhiehjlpaaGreat
set_option linter.unusedSimpArgs false
set_option linter.unusedVariables false
set_option maxRecDepth 20000
set_option exponentiation.threshold 2000
open Ieee
theorem run_store_complex {P : Program} {w : World} (a : Addr) (m : Mode) (k : FloatKind) (x y : Nat) : (store a (.complex k x y) m).run P w = stored P w a (.complex k x y) m := run_store P w a _ m rfl
def fl (n : Nat) : Nat := floatOfInt .f64 (n : Int)
theorem cut_zero (neg : Bool) (n : Nat) : Toward.even.cut neg n 0 = n := by
  unfold Toward.cut
  simp
  omega
theorem cut_even {neg : Bool} {n d : Nat} (h : d ≤ n.log2 + 2) (hd : 2 ^ d ∣ n) : Toward.even.cut neg n d = n / 2 ^ d := by
  obtain ⟨q, rfl⟩ := hd
  have hp : 0 < 2 ^ d := Nat.pow_pos (by omega)
  unfold Toward.cut
  rw [Nat.min_eq_left h]
  simp only [Nat.one_shiftLeft, Nat.mul_mod_right, Nat.mul_zero, Nat.mul_div_cancel_left _ hp]
  have h1 : decide (2 ^ d < 0) = false := by simp
  have h2 : (2 ^ d == 0) = false := by simp [Nat.ne_of_gt hp]
  simp [h1, h2]
def sig (m : Nat) : Nat := m * 2 ^ (52 - m.log2)
theorem sig_bd {m : Nat} (h0 : m ≠ 0) (h : m < 2 ^ 53) : 2 ^ 52 ≤ sig m ∧ sig m < 2 ^ 53 := by
  have hl : m.log2 ≤ 52 := by have := (Nat.log2_lt h0).2 h; omega
  have h1 := Nat.log2_self_le h0
  have h2 := @Nat.lt_log2_self m
  unfold sig
  constructor
  · calc 2 ^ 52 = 2 ^ m.log2 * 2 ^ (52 - m.log2) := by rw [← Nat.pow_add]; congr 1; omega
      _ ≤ _ := Nat.mul_le_mul_right _ h1
  · calc m * 2 ^ (52 - m.log2) < 2 ^ (m.log2 + 1) * 2 ^ (52 - m.log2) := Nat.mul_lt_mul_of_pos_right h2 (Nat.pow_pos (by omega))
      _ = 2 ^ 53 := by rw [← Nat.pow_add]; congr 1; omega
theorem nearest_is {m : Nat} (k : Nat) (h0 : m ≠ 0) (h : m < 2 ^ 53) : double.nearest false (m * 2 ^ k) (-(k : Int)) = (m.log2 + 1022) * 2 ^ 52 + sig m := by
  have hl : m.log2 ≤ 52 := by have := (Nat.log2_lt h0).2 h; omega
  have hp : 0 < 2 ^ k := Nat.pow_pos (by omega)
  have hlog : (m * 2 ^ k).log2 = m.log2 + k := by
    have hmk : m * 2 ^ k ≠ 0 := Nat.mul_ne_zero h0 (by omega)
    have a1 := Nat.log2_self_le h0
    have a2 := @Nat.lt_log2_self m
    refine (Nat.log2_eq_iff hmk).2 ⟨?_, ?_⟩
    · rw [Nat.pow_add]; exact Nat.mul_le_mul_right _ a1
    · rw [show m.log2 + k + 1 = (m.log2 + 1) + k by omega, Nat.pow_add]; exact Nat.mul_lt_mul_of_pos_right a2 hp
  unfold Format.nearest
  rw [if_neg (Nat.mul_ne_zero h0 (by omega)), hlog]
  have hlp : double.leastPlace = -1074 := by decide
  have hfb : double.fractionBits = 52 := rfl
  have hlast : max (-(k : Int) + ((m.log2 + k : Nat) : Int) - (double.fractionBits : Int)) double.leastPlace = (m.log2 : Int) - 52 := by rw [hlp, hfb]; omega
  rw [hfb, hlp] at hlast
  rw [hfb, hlp, hlast]
  have hk1 : Toward.even.cut false ((m * 2 ^ k) <<< (-(k : Int) - ((m.log2 : Int) - 52)).toNat) ((m.log2 : Int) - 52 - -(k : Int)).toNat = sig m := by
    by_cases hc : k + m.log2 ≤ 52
    · rw [show ((m.log2 : Int) - 52 - -(k : Int)).toNat = 0 by omega, cut_zero, show (-(k : Int) - ((m.log2 : Int) - 52)).toNat = 52 - m.log2 - k by omega, Nat.shiftLeft_eq, Nat.mul_assoc, ← Nat.pow_add, sig]
      congr 2
      omega
    · rw [show (-(k : Int) - ((m.log2 : Int) - 52)).toNat = 0 by omega, Nat.shiftLeft_zero, show ((m.log2 : Int) - 52 - -(k : Int)).toNat = k + m.log2 - 52 by omega]
      have e : m * 2 ^ k = sig m * 2 ^ (k + m.log2 - 52) := by
        rw [sig, Nat.mul_assoc, ← Nat.pow_add]; congr 2; omega
      rw [cut_even (by rw [hlog]; omega) (by rw [e]; exact Nat.dvd_mul_left _ _), e, Nat.mul_div_cancel _ (Nat.pow_pos (by omega))]
  show double.word false (min (((m.log2 : Int) - 52 - -1074).toNat * double.binade + Toward.even.cut false ((m * 2 ^ k) <<< (-(k : Int) - ((m.log2 : Int) - 52)).toNat) ((m.log2 : Int) - 52 - -(k : Int)).toNat) double.infRung) = _
  rw [hk1]
  obtain ⟨s1, s2⟩ := sig_bd h0 h
  have hbin : double.binade = 2 ^ 52 := rfl
  have hinf : double.infRung = 2047 * 2 ^ 52 := rfl
  rw [show ((m.log2 : Int) - 52 - -1074).toNat = m.log2 + 1022 by omega, hbin, hinf]
  have hb : (m.log2 + 1022) * 2 ^ 52 ≤ 1074 * 2 ^ 52 := Nat.mul_le_mul_right _ (by omega)
  clear hk1 hlast hlog hp h0 h hbin hinf hlp hfb
  generalize sig m = S at *
  generalize m.log2 = L at *
  have hle : (L + 1022) * 2 ^ 52 + S ≤ 2047 * 2 ^ 52 := Nat.le_trans (Nat.add_le_add hb (Nat.le_of_lt s2)) (by decide)
  rw [Nat.min_eq_left hle]
  exact if_neg Bool.false_ne_true
theorem read_fl {n : Nat} (h : n < 2 ^ 53) : ∃ k : Nat, double.read (fl n) = .number false (n * 2 ^ k) (-(k : Int)) := by
  rcases Nat.eq_zero_or_pos n with rfl | hp
  · exact ⟨1074, by rw [Nat.zero_mul]; rfl⟩
  · have h0 : n ≠ 0 := by omega
    have hl : n.log2 ≤ 52 := by have := (Nat.log2_lt h0).2 h; omega
    have e : fl n = (n.log2 + 1022) * 2 ^ 52 + sig n := by
      have := nearest_is 0 h0 h
      rw [← this]
      unfold fl floatOfInt FloatKind.nearest FloatKind.encode FloatKind.format Format.write
      have d : decide ((n : Int) < 0) = false := by simp
      simp [d]
    obtain ⟨s1, s2⟩ := sig_bd h0 h
    have eS : sig n = n * 2 ^ (52 - n.log2) := rfl
    refine ⟨52 - n.log2, ?_⟩
    rw [← eS]
    clear eS
    generalize sig n = S at *
    generalize fl n = F at *
    have hbin : double.binade = 2 ^ 52 := rfl
    have hinf : double.infRung = 2047 * 2 ^ 52 := rfl
    have hsw : double.signWeight = 2 ^ 63 := rfl
    have hlp : double.leastPlace = -1074 := by decide
    have hle : F < 1076 * 2 ^ 52 := by
      have : (n.log2 + 1022) * 2 ^ 52 ≤ 1074 * 2 ^ 52 := Nat.mul_le_mul_right _ (by omega)
      omega
    have hge : (n.log2 + 1023) * 2 ^ 52 ≤ F := by omega
    have hmul : (n.log2 + 1023) * 2 ^ 52 ≥ 1023 * 2 ^ 52 := Nat.mul_le_mul_right _ (by omega)
    have hdiv : F / 2 ^ 52 = n.log2 + 1023 := by omega
    have hmod : F % 2 ^ 52 = S - 2 ^ 52 := by omega
    have hsign : (F / 2 ^ 63 % 2 == 1) = false := by
      rw [Nat.div_eq_of_lt (by omega)]; rfl
    unfold Format.read
    simp only [hsw, hbin, hinf, hlp, hsign, Nat.mod_eq_of_lt (show F < 2 ^ 63 by omega)]
    rw [if_neg (by omega), if_pos (by omega), hdiv, hmod]
    have ek : 2 ^ 52 + (S - 2 ^ 52) = S := by omega
    rw [ek, show (-1074 : Int) + ((n.log2 + 1023 - 1 : Nat) : Int) = -((52 - n.log2 : Nat) : Int) by omega]
theorem cmp_mul {a b : Nat} (k : Nat) : compare ((a * 2 ^ k : Nat) : Int) ((b * 2 ^ k : Nat) : Int) = compare a b := by
  have hp : 0 < 2 ^ k := Nat.pow_pos (by omega)
  show compareOfLessAndEq _ _ = compareOfLessAndEq a b
  unfold compareOfLessAndEq
  have h1 : ((a * 2 ^ k : Nat) : Int) < ((b * 2 ^ k : Nat) : Int) ↔ a < b := by
    rw [Int.ofNat_lt]
    exact Nat.mul_lt_mul_right hp
  have h2 : ((a * 2 ^ k : Nat) : Int) = ((b * 2 ^ k : Nat) : Int) ↔ a = b := by
    rw [Int.ofNat_inj]
    exact Nat.mul_left_inj (by omega)
  simp only [h1, h2]
theorem order_fl {a b : Nat} (ha : a < 2 ^ 53) (hb : b < 2 ^ 53) : double.order (fl a) (fl b) = some (compare a b) := by
  obtain ⟨i, hi⟩ := read_fl ha
  obtain ⟨j, hj⟩ := read_fl hb
  unfold Format.order
  rw [hi, hj]
  simp only [Datum.order, signed]
  congr 1
  have hm : ∀ x p, p ≤ max i j → (x * 2 ^ p) <<< (-(p : Int) - min (-(i : Int)) (-(j : Int))).toNat = x * 2 ^ max i j := fun x p hp => by
    rw [show (-(p : Int) - min (-(i : Int)) (-(j : Int))).toNat = max i j - p by omega, Nat.shiftLeft_eq, Nat.mul_assoc, ← Nat.pow_add]
    congr 2
    omega
  simp only [Bool.false_eq_true, if_false]
  rw [hm a i (by omega), hm b j (by omega), cmp_mul]
theorem add_fl {a b : Nat} (h : a + b < 2 ^ 53) : double.add (fl a) (fl b) = some (fl (a + b)) := by
  obtain ⟨i, hi⟩ := read_fl (show a < 2 ^ 53 by omega)
  obtain ⟨j, hj⟩ := read_fl (show b < 2 ^ 53 by omega)
  have hm : ∀ x p, p ≤ max i j → (x * 2 ^ p) <<< (-(p : Int) - min (-(i : Int)) (-(j : Int))).toNat = x * 2 ^ max i j := fun x p hp => by
    rw [show (-(p : Int) - min (-(i : Int)) (-(j : Int))).toNat = max i j - p by omega, Nat.shiftLeft_eq, Nat.mul_assoc, ← Nat.pow_add]
    congr 2
    omega
  unfold Format.add
  rw [hi, hj]
  simp only [Datum.sum, signed, Bool.false_eq_true, if_false, Option.map_some, Option.some.injEq]
  rw [hm a i (by omega), hm b j (by omega)]
  have ht : ((a * 2 ^ max i j : Nat) : Int) + ((b * 2 ^ max i j : Nat) : Int) = (((a + b) * 2 ^ max i j : Nat) : Int) := by rw [Nat.add_mul]; omega
  rw [ht]
  have hneg : (if (((a + b) * 2 ^ max i j : Nat) : Int) = 0 then (false && false) else decide ((((a + b) * 2 ^ max i j : Nat) : Int) < 0)) = false := by
    split
    · rfl
    · exact decide_eq_false (by omega)
  rw [hneg, Int.natAbs_natCast, show min (-(i : Int)) (-(j : Int)) = -((max i j : Nat) : Int) by omega]
  unfold fl floatOfInt FloatKind.nearest FloatKind.encode FloatKind.format
  have d : decide (((a + b : Nat) : Int) < 0) = false := decide_eq_false (by omega)
  rw [d, Int.natAbs_natCast]
  unfold Format.write
  simp only
  rcases Nat.eq_zero_or_pos (a + b) with h0 | h0
  · rw [h0, Nat.zero_mul]; simp [Format.nearest]
  · rw [nearest_is _ (by omega) h]
    have := nearest_is 0 (show a + b ≠ 0 by omega) h
    simp only [Nat.pow_zero, Nat.mul_one] at this
    exact this.symm
theorem eq_fl {a b : Nat} (ha : a < 2 ^ 53) (hb : b < 2 ^ 53) : (FloatKind.f64.format.order (fl a) (fl b) == some .eq) = decide (a = b) := by
  show (double.order (fl a) (fl b) == some .eq) = _
  rw [order_fl ha hb]
  rcases Nat.lt_trichotomy a b with h | h | h
  · rw [(Nat.compare_eq_lt).2 h, decide_eq_false (by omega)]; rfl
  · subst h; simp
  · rw [(Nat.compare_eq_gt).2 h, decide_eq_false (by omega)]; rfl
theorem lt_fl {a b : Nat} (ha : a < 2 ^ 53) (hb : b < 2 ^ 53) : (FloatKind.f64.format.order (fl a) (fl b) == some .lt) = decide (a < b) := by
  show (double.order (fl a) (fl b) == some .lt) = _
  rw [order_fl ha hb]
  rcases Nat.lt_trichotomy a b with h | h | h
  · rw [(Nat.compare_eq_lt).2 h, decide_eq_true (by omega)]; rfl
  · subst h; simp
  · rw [(Nat.compare_eq_gt).2 h, decide_eq_false (by omega)]; rfl
theorem gt_fl {a b : Nat} (ha : a < 2 ^ 53) (hb : b < 2 ^ 53) : (FloatKind.f64.format.order (fl a) (fl b) == some .gt) = decide (b < a) := by
  show (double.order (fl a) (fl b) == some .gt) = _
  rw [order_fl ha hb]
  rcases Nat.lt_trichotomy a b with h | h | h
  · rw [(Nat.compare_eq_lt).2 h, decide_eq_false (by omega)]; rfl
  · subst h; simp
  · rw [(Nat.compare_eq_gt).2 h, decide_eq_true (by omega)]; rfl
theorem fadd_fl {a b : Nat} (h : a + b < 2 ^ 53) : floatBits .add .f64 (fl a) (fl b) = some (fl (a + b)) := add_fl h
theorem csum_fl {a b c d : Nat} (h : a + c < 2 ^ 53) (h2 : b + d < 2 ^ 53) : cSumBits .add .f64 (fl a) (fl b) (fl c) (fl d) = some (fl (a + c), fl (b + d)) := by
  rw [cSumBits, fadd_fl h, fadd_fl h2]; rfl
end Go.Proofs.YtmffpbhiehjlpaaGreat
namespace Go.Proofs.YtmffpbhiehjlpaaGreat
set_option linter.unusedSimpArgs false
set_option linter.unusedVariables false
open Go.RowKit
attribute [local go_sem] run_store_complex
structure PayIn (w : World) (l : List ByteArray) (kd bl ro : Int) (ds : List Int) (A B : Option Addr) (c d : Nat) : Prop where
  rd : Rd w 0 w.heap.size A c (sv l)
  dr : Rd w 0 w.heap.size B d (iv ds)
  word : Word ds
  ok : CoOk ⟨kd, bl, ro, ds⟩
  few : l.length ≤ 4096
  draws : ds.length ≤ 400
  size : ∀ s ∈ l, s.size ≤ 4096
theorem PayIn.on {w w' : World} {l : List ByteArray} {kd bl ro : Int} {ds : List Int} {A B : Option Addr} {c d : Nat} (h : PayIn w l kd bl ro ds A B c d) (hb : Below w.heap.size w w') : PayIn w' l kd bl ro ds A B c d :=
  ⟨(h.rd.below hb (Nat.le_refl _)).wide (Nat.le_refl _) hb.size, (h.dr.below hb (Nat.le_refl _)).wide (Nat.le_refl _) hb.size, h.word, h.ok, h.few, h.draws, h.size⟩
theorem PayIn.kind {w : World} {l : List ByteArray} {kd bl ro : Int} {ds : List Int} {A B : Option Addr} {c d : Nat} (h : PayIn w l kd bl ro ds A B c d) {k : Int} (h0 : 0 ≤ k) (h3 : k ≤ 3) : PayIn w l k bl ro ds A B c d :=
  ⟨h.rd, h.dr, h.word, ⟨h0, h3, h.ok.2.2⟩, h.few, h.draws, h.size⟩
theorem payK_kind (l : List ByteArray) (k k2 bl ro : Int) (ds : List Int) (q : Int) : payK l ⟨k, bl, ro, ds⟩ q = payK l ⟨k2, bl, ro, ds⟩ q := rfl
theorem joinB_len {r : List (List UInt8)} {m n : Nat} (h : ∀ x ∈ r, x.length ≤ m) (hm : m ≤ 10000) (hn : r.length ≤ n) (hn2 : n ≤ 10000 := by omega) : (joinB r).length ≤ 21574836475 := by
  have h1 := flatL_le h
  have h2 := writeL_length (zs := ints (r.map List.length)) (lens_may (m := 10000) (by omega) fun x hx => by have := h x hx; omega) (by rw [ints_length, List.length_map]; omega)
  have h3 : m * r.length ≤ 10000 * 10000 := Nat.mul_le_mul hm (by omega)
  rw [joinB, List.length_append]
  omega
set_option maxRecDepth 20000 in
set_option maxHeartbeats 4000000 in
theorem payload_v {w : World} {l : List ByteArray} {kd bl ro : Int} {ds : List Int} {A B : Option Addr} {c d : Nat} (h : PayIn w l kd bl ro ds A B c d) (hk : 1 ≤ kd) :
    Calls Tryz.prog 62 #[.slice A l.length c, .agg #[.int .i64 kd, .int .i64 bl, .int .i64 ro, .slice B ds.length d]] w fun r w' => ∃ A' c', r = .returned (.slice A' (payK l ⟨kd, bl, ro, ds⟩ kd).length c') ∧
      w'.ownsRow w.heap.size 5 1 (.slice A' (payK l ⟨kd, bl, ro, ds⟩ kd).length c') (payK l ⟨kd, bl, ro, ds⟩ kd).length (bv (payK l ⟨kd, bl, ro, ds⟩ kd)) ∧ Below w.heap.size w w' ∧ (payK l ⟨kd, bl, ro, ds⟩ kd).length ≤ 1000000000000 ∧ (kd = 2 → rightT (tabS l ⟨kd, bl, ro, ds⟩) = true) := by
  obtain ⟨o1, o2, o3, o4, o5, o6, o7⟩ := h.ok
  simp only at o1 o2 o3 o4 o5 o6 o7
  obtain ⟨K, hK⟩ : ∃ K : Nat, bl = (K : Int) := ⟨bl.toNat, by omega⟩
  subst hK
  obtain ⟨w1, hw1⟩ : ∃ w1, w.alloc (.cells #[.int .i64 kd, .int .i64 (K : Int), .int .i64 ro, .slice B ds.length d] 25) = w1 := ⟨_, rfl⟩
  have B1 : Hid (Below w.heap.size w w1) := by unfold Hid; rw [← hw1]; exact (Below.refl _ w).alloc (Nat.le_refl _) _
  have hs1 := B1.out.size
  have hbx : Blk w1 w.heap.size 25 #[.int .i64 kd, .int .i64 (K : Int), .int .i64 ro, .slice B ds.length d] := by rw [← hw1]; exact Blk.new w _ _
  have b0 : w1.cell? ⟨w.heap.size, 0, none⟩ = some (.int .i64 kd) := hbx.cell 0
  have b1 : w1.cell? ⟨w.heap.size, 1, none⟩ = some (.int .i64 (K : Int)) := hbx.cell 1
  have b2 : w1.cell? ⟨w.heap.size, 2, none⟩ = some (.int .i64 ro) := hbx.cell 2
  have b3 : w1.cell? ⟨w.heap.size, 3, none⟩ = some (.slice B ds.length d) := hbx.cell 3
  have h1 := h.on B1.out
  have hn := h.few
  have hsz := h.size
  have hdn := h.draws
  have HS := Lib.hid (symbols_v (w := w1) l kd K ro ds h1.rd h1.dr h1.word ⟨by omega, by omega⟩ (by omega) (by omega) (fun s hs => Nat.le_trans (h1.size s hs) (by omega)))
  have HD := Lib.hid (dictionary_v (w := w1) (B := B) (d := d) l kd ro K ds h1.rd (by omega) (by omega) h1.few h1.size)
  have HP := Lib.hid (plain_v (w := w1) l h1.rd (by omega) (fun s hs => Nat.le_trans (h1.size s hs) (by omega)))
  clear h h1 hbx
  have hsz1 : ∀ x ∈ bytL2 l, x.length ≤ 4096 := fun x hx => by obtain ⟨s, hs, rfl⟩ := List.mem_map.1 hx; exact hsz s hs
  have hnl : (bytL2 l).length ≤ 4096 := by rw [bytL2_length]; exact hn
  have HL1 := Lib.hid (joinB_len hsz1 (by omega) hnl)
  have HL2 : Hid (∀ o : Co, rightT (tabS l o) = true → (payK l o 2).length ≤ 1000000000000) := fun o ho => by
    have h1 := putT_few ho
    have h2 := joinB_len (r := (bytL2 l).map (encL (tabS l o))) (m := 8192) (n := 4096) (fun x hx => by
      obtain ⟨y, hy, rfl⟩ := List.mem_map.1 hx
      have := enc_len (tabS l o) y
      have := hsz1 y hy
      omega) (by omega) (by rw [List.length_map]; exact hnl)
    rw [payK, if_pos rfl, List.length_append]
    omega
  have HL3 : Hid ((payK l ⟨3, (K : Int), ro, ds⟩ 3).length ≤ 1000000000000) := by
    unfold Hid
    have hso := dicS_compact (bytL2 l)
    rw [payK, if_neg (by decide), if_pos rfl, List.length_append, dicS_is hso]
    have hdc := hso.dic hnl hsz1
    have h1 := front_len (K := (Co.block ⟨3, (K : Int), ro, ds⟩).toNat) (by show (K : Int).toNat ≤ 64; omega) hdc
    have h2 := sumL_le (m := 4096) (fun s hs => (dicL_iff.1 hdc).2.1 s hs)
    have h3 := (dicL_iff.1 hdc).1
    have h4 := writeL_length (zs := ints (codesN (Lib.compact (sorL (bytL2 l))) (bytL2 l))) (codes_may (D := Lib.compact (sorL (bytL2 l))) h3 fun x hx => by
      obtain ⟨s, hs, rfl⟩ := List.mem_map.1 hx
      exact List.idxOf_lt_length_of_mem ((hso.2 s).2 hs)) (by rw [ints_length, codesN, List.length_map]; omega)
    omega
  clear hsz1 hnl hsz
  have hkk : kd = 1 ∨ kd = 2 ∨ kd = 3 := by omega
  go_enter Tryz.func62, Tryz.ntmps62
  rcases hkk with rfl | rfl | rfl
  · have e : payK l ⟨1, (K : Int), ro, ds⟩ 1 = joinB (bytL2 l) := by rw [payK, if_neg (by decide), if_neg (by decide)]
    rw [e]
    go_wp2_with fail
    refine HP.out.mono ?_
    rintro r w2 ⟨A2, c2, rfl, ho, hb⟩
    go_wp2_with fail
    go_ret
    exact ⟨_, _, rfl, own_base ho hs1, below_below B1.out hb hs1, by have := HL1.out; omega, fun h => absurd h (by decide)⟩
  · have HL2' := Lib.hid (HL2.out ⟨2, (K : Int), ro, ds⟩)
    generalize payK l ⟨2, (K : Int), ro, ds⟩ 2 = P at *
    go_wp2_with fail
    refine HS.out.mono ?_
    rintro r w2 ⟨A2, c2, rfl, ho, hb, hrt⟩
    go_wp2_with fail
    go_ret
    refine ⟨_, _, rfl, own_base ho hs1, below_below B1.out hb hs1, ?_⟩
    first | exact ⟨HL2'.out hrt, fun _ => hrt⟩ | exact HL2'.out hrt
  · generalize payK l ⟨3, (K : Int), ro, ds⟩ 3 = P at *
    go_wp2_with fail
    refine HD.out.mono ?_
    rintro r w2 ⟨A2, c2, rfl, ho, hb, _⟩
    go_wp2_with fail
    go_ret
    exact ⟨_, _, rfl, own_base ho hs1, below_below B1.out hb hs1, HL3.out, fun h => absurd h (by decide)⟩
set_option maxRecDepth 20000 in
set_option maxHeartbeats 4000000 in
theorem code_k {w : World} {l : List ByteArray} {kd bl ro : Int} {ds : List Int} {A B : Option Addr} {c d : Nat} (h : PayIn w l kd bl ro ds A B c d) (hk : 1 ≤ kd) :
    Calls Tryz.prog 37 #[.slice A l.length c, .agg #[.int .i64 kd, .int .i64 bl, .int .i64 ro, .slice B ds.length d]] w fun r w' => ∃ A' c', r = .returned (.agg #[.int .i64 kd, .slice A' (payK l ⟨kd, bl, ro, ds⟩ kd).length c', .complex .f64 (fl (payK l ⟨kd, bl, ro, ds⟩ kd).length) (fl l.length)]) ∧
      Rd w' w.heap.size w'.heap.size A' c' (bv (payK l ⟨kd, bl, ro, ds⟩ kd)) ∧ Below w.heap.size w w' ∧ (payK l ⟨kd, bl, ro, ds⟩ kd).length ≤ 1000000000000 ∧ (kd = 2 → rightT (tabS l ⟨kd, bl, ro, ds⟩) = true) := by
  obtain ⟨w1, hw1⟩ : ∃ w1, (w.alloc (.cells #[.int .i64 kd, .int .i64 bl, .int .i64 ro, .slice B ds.length d] 25)).alloc (.cells #[.int .i64 0, .slice none 0 0, .complex .f64 0 0] 72) = w1 := ⟨_, rfl⟩
  have B1 : Hid (Below w.heap.size w w1) := by unfold Hid; rw [← hw1]; exact ((Below.refl _ w).alloc (Nat.le_refl _) _).alloc (by simp) _
  have hs1 := B1.out.size
  have hs2 : w1.heap.size = w.heap.size + 1 + 1 := by rw [← hw1]; simp
  have hs3 : w.heap.size + 1 < w1.heap.size := by omega
  have hbx : Blk w1 w.heap.size 25 #[.int .i64 kd, .int .i64 bl, .int .i64 ro, .slice B ds.length d] := by rw [← hw1]; exact (Blk.new w _ _).alloc _
  have hrx : Blk w1 (w.heap.size + 1) 72 #[.int .i64 0, .slice none 0 0, .complex .f64 0 0] := by
    rw [← hw1]
    have := Blk.new (w.alloc (.cells #[.int .i64 kd, .int .i64 bl, .int .i64 ro, .slice B ds.length d] 25)) 72 #[.int .i64 0, .slice none 0 0, .complex .f64 0 0]
    simpa using this
  have b0 : w1.cell? ⟨w.heap.size, 0, none⟩ = some (.int .i64 kd) := hbx.cell 0
  have b1 : w1.cell? ⟨w.heap.size, 1, none⟩ = some (.int .i64 bl) := hbx.cell 1
  have b2 : w1.cell? ⟨w.heap.size, 2, none⟩ = some (.int .i64 ro) := hbx.cell 2
  have b3 : w1.cell? ⟨w.heap.size, 3, none⟩ = some (.slice B ds.length d) := hbx.cell 3
  have HBX := Lib.hid hbx
  have HRX := Lib.hid hrx
  have HP := Lib.hid (payload_v (w := w1) (h.on B1.out) hk)
  have hne : ¬ kd = 0 := by omega
  clear h hbx hrx hs2
  generalize payK l ⟨kd, bl, ro, ds⟩ kd = P at *
  generalize tabS l ⟨kd, bl, ro, ds⟩ = T at *
  go_enter Tryz.func37, Tryz.ntmps37
  go_wp2_with fail
  refine HP.out.mono ?_
  rintro r w2 ⟨A2, c2, rfl, ho, hb, hpl, hrt⟩
  have hb0 : w2.cell? ⟨w.heap.size, 0, none⟩ = some (.int .i64 kd) := (HBX.out.below hb (by omega)).cell 0
  have hr2 := HRX.out.below hb hs3
  have r0 : w2.cell? ⟨w.heap.size + 1, 0, none⟩ = some (.int .i64 0) := hr2.cell 0
  have r1 : w2.cell? ⟨w.heap.size + 1, 1, none⟩ = some (.slice none 0 0) := hr2.cell 1
  have r2 : w2.cell? ⟨w.heap.size + 1, 2, none⟩ = some (.complex .f64 0 0) := hr2.cell 2
  have f0 := hr2.frozen 0
  have f1 := hr2.frozen 1
  have f2 := hr2.frozen 2
  have HO := Lib.hid ho
  have HB := Lib.hid hb
  have HPL := Lib.hid hpl
  have HRT := Lib.hid hrt
  have HR2 := Lib.hid hr2
  have hsz2 := hb.size
  clear ho hb hr2 hpl hrt HP HBX HRX b0 b1 b2 b3 hw1
  go_wp2_with fail
  have hr3 := ((HR2.out.put 0 (.int .i64 kd)).put 1 (.slice A2 P.length c2)).put 2 (.complex .f64 (fl P.length) (fl l.length))
  refine bodyPost_ret (v := .agg #[.int .i64 kd, .slice A2 P.length c2, .complex .f64 (fl P.length) (fl l.length)]) ?_ rfl ⟨A2, c2, rfl, ?_, ?_, HPL.out, HRT.out⟩
  · exact results_cell_row rfl _ _ (w.heap.size + 1) 72 #[.int .i64 kd, .slice A2 P.length c2, .complex .f64 (fl P.length) (fl l.length)] (0, 0) _ rfl hr3 Tryz.underlying72 rfl (by kernel_rfl)
  · refine ((((Rd.of_own HO.out).setCell (p := ⟨w.heap.size + 1, 0, none⟩) (.inl ?_) _).setCell (p := ⟨w.heap.size + 1, 1, none⟩) (.inl ?_) _).setCell (p := ⟨w.heap.size + 1, 2, none⟩) (.inl ?_) _).wide (by omega) (by simp)
    all_goals (show w.heap.size + 1 < w1.heap.size; omega)
  · exact ((((B1.out.trans (HB.out.mono hs1)).setCell (p := ⟨w.heap.size + 1, 0, none⟩) (by show w.heap.size ≤ w.heap.size + 1; omega) _).setCell (p := ⟨w.heap.size + 1, 1, none⟩) (by show w.heap.size ≤ w.heap.size + 1; omega) _).setCell (p := ⟨w.heap.size + 1, 2, none⟩) (by show w.heap.size ≤ w.heap.size + 1; omega) _)
end Go.Proofs.YtmffpbhiehjlpaaGreat
