/-
  Lists of whole numbers as cells. No program is named here.
  Widths of numbers in plain. No program is named here.
  The document's Power of layer 3.
  The document's Width of layer 3.
  Bits in plain: bytes that bits fill one by one. No program is named here.
  The document's Put of layer 3: bit by bit.
-/
import Derived.Test.YtmffpbhiehjlpaaGreatZ00
import Derived.Test.YtmffpbhiehjlpaaGreatZ03
import Derived.Shelf.Small.Bits
import Derived.Lib.ItoaNum
import Derived.Test.YtmffpbhiehjlpaaGreatRows
import Derived.Test.YtmffpbhiehjlpaaGreatZ02
import Derived.Deep.QuietTactic
import Derived.StillTailTactics
import Derived.Laws.OwnMore
namespace Go.Proofs.YtmffpbhiehjlpaaGreat
set_option linter.unusedSimpArgs false
set_option linter.unusedVariables false
def iv (l : List Int) : List Value := l.map fun z => .int .i64 z
theorem iv_length (l : List Int) : (iv l).length = l.length := by simp [iv]
theorem iv_append (a b : List Int) : iv (a ++ b) = iv a ++ iv b := by simp [iv]
theorem iv_get (l : List Int) (k : Nat) (h : k < l.length) : (iv l)[k]? = some (.int .i64 l[k]) := by
  simp [iv, List.getElem?_eq_getElem h]
theorem iv_one (l : List Int) : ∀ u ∈ iv l, u.oneCell' = true := by
  intro u hu
  obtain ⟨c, _, rfl⟩ := List.mem_map.1 hu
  rfl
theorem Rd.num {w : World} {lo hi c : Nat} {A : Option Addr} {zs : List Int} (h : Rd w lo hi A c (iv zs)) {k : Nat} (hk : k < zs.length) :
    ∃ b off, A = some ⟨b, off, none⟩ ∧ lo ≤ b ∧ b < hi ∧ w.cell? ⟨b, off + k, none⟩ = some (.int .i64 zs[k]) := by
  obtain ⟨b, off, e, h1, h2, h3⟩ := h.at_ (by rw [iv_length]; omega)
  exact ⟨b, off, e, h1, h2, h3 k _ (iv_get zs k hk)⟩
def Word (zs : List Int) : Prop := ∀ z ∈ zs, -9223372036854775808 ≤ z ∧ z ≤ 9223372036854775807
theorem Word.take {zs : List Int} (h : Word zs) (k : Nat) : Word (zs.take k) := fun z hz => h z (List.mem_of_mem_take hz)
def ints (ns : List Nat) : List Int := ns.map fun n : Nat => (n : Int)
theorem ints_length (ns : List Nat) : (ints ns).length = ns.length := by simp [ints]
theorem rd_ints (w : World) (t : TypeId) (zs : List Int) (cs : Array Value) (h : cs.toList = iv zs) (hm : zs.length ≤ 1000) :
    Rd (w.alloc (.cells cs t)) 0 (w.heap.size + 1) (some ⟨w.heap.size, 0, none⟩) zs.length (iv zs) := by
  refine ⟨by rw [iv_length]; exact Nat.le_refl _, by simp only [maxLen]; omega, fun _ => ⟨w.heap.size, 0, rfl, Nat.zero_le _, by omega, fun j u hu => ?_⟩⟩
  rw [Nat.zero_add, (Blk.new w t cs).cell]
  rw [← h] at hu
  simpa using hu
end Go.Proofs.YtmffpbhiehjlpaaGreat
namespace Go.Proofs.YtmffpbhiehjlpaaGreat
set_option linter.unusedSimpArgs false
set_option linter.unusedVariables false
theorem len_bounds (x : Nat) (hx : x < 2 ^ 64) (h0 : x ≠ 0) : 1 ≤ Lib.bitLen x ∧ 2 ^ (Lib.bitLen x - 1) ≤ x ∧ x < 2 ^ Lib.bitLen x := Lib.bitLenAux_bounds 64 x hx h0
theorem len_zero : Lib.bitLen 0 = 0 := Lib.bitLenAux_zero 64
theorem len_lt (x : Nat) (hx : x < 2 ^ 64) : x < 2 ^ Lib.bitLen x := by
  by_cases h0 : x = 0
  · subst h0; exact Nat.two_pow_pos _
  · exact (len_bounds x hx h0).2.2
theorem len_iff (x w : Nat) (hx : x < 2 ^ 64) : 2 ^ w ≤ x ↔ w < Lib.bitLen x := by
  constructor
  · intro h
    rcases Nat.lt_or_ge w (Lib.bitLen x) with h1 | h1
    · exact h1
    · have h2 := len_lt x hx
      have h3 : 2 ^ Lib.bitLen x ≤ 2 ^ w := Nat.pow_le_pow_right (by omega) h1
      omega
  · intro h
    have h0 : x ≠ 0 := by rintro rfl; rw [len_zero] at h; omega
    have h1 := (len_bounds x hx h0).2.1
    exact Nat.le_trans (Nat.pow_le_pow_right (by omega) (by omega)) h1
theorem len_max (a b : Nat) (ha : a < 2 ^ 64) (hb : b < 2 ^ 64) : Lib.bitLen (max a b) = max (Lib.bitLen a) (Lib.bitLen b) := by
  have mono : ∀ a b : Nat, a < 2 ^ 64 → b < 2 ^ 64 → a ≤ b → Lib.bitLen a ≤ Lib.bitLen b := by
    intro a b ha hb h
    rcases Nat.lt_or_ge (Lib.bitLen b) (Lib.bitLen a) with h1 | h1
    · have h2 := (len_iff a _ ha).2 h1
      have h3 := len_lt b hb
      omega
    · exact h1
  rcases Nat.le_total a b with h | h
  · rw [Nat.max_eq_right h, Nat.max_eq_right (mono a b ha hb h)]
  · rw [Nat.max_eq_left h, Nat.max_eq_left (mono b a hb ha h)]
def grt (zs : List Int) : Int := zs.foldl max 0
theorem grt_snoc (zs : List Int) (z : Int) : grt (zs ++ [z]) = max (grt zs) z := by simp [grt]
theorem grt_take (zs : List Int) (k : Nat) (h : k < zs.length) : grt (zs.take (k + 1)) = max (grt (zs.take k)) zs[k] := by
  rw [List.take_succ_eq_append_getElem h, grt_snoc]
theorem foldl_max (zs : List Int) : ∀ a : Int, a ≤ zs.foldl max a ∧ ∀ z ∈ zs, z ≤ zs.foldl max a := by
  induction zs with
  | nil => intro a; exact ⟨Int.le_refl _, by simp⟩
  | cons y r ih =>
    intro a
    obtain ⟨h1, h2⟩ := ih (max a y)
    refine ⟨by simp only [List.foldl_cons]; omega, fun z hz => ?_⟩
    simp only [List.foldl_cons]
    rcases List.mem_cons.1 hz with rfl | hz
    · omega
    · exact h2 z hz
theorem grt_ge (zs : List Int) : 0 ≤ grt zs := (foldl_max zs 0).1
theorem grt_all (zs : List Int) : ∀ z ∈ zs, z ≤ grt zs := (foldl_max zs 0).2
theorem foldl_max_le (zs : List Int) (m : Int) (h : ∀ z ∈ zs, z ≤ m) : ∀ a : Int, a ≤ m → zs.foldl max a ≤ m := by
  induction zs with
  | nil => intro a ha; exact ha
  | cons y r ih =>
    intro a ha
    simp only [List.foldl_cons]
    exact ih (fun z hz => h z (by simp [hz])) _ (by have := h y (by simp); omega)
theorem grt_le (zs : List Int) (m : Int) (hm : 0 ≤ m) (h : ∀ z ∈ zs, z ≤ m) : grt zs ≤ m := foldl_max_le zs m h 0 hm
def wide (zs : List Int) : Nat := Lib.bitLen (grt zs).toNat
theorem wide_nil : wide [] = 0 := len_zero
theorem word_grt {zs : List Int} (h : Word zs) : grt zs ≤ 9223372036854775807 := grt_le zs _ (by omega) fun z hz => (h z hz).2
theorem wide_le (zs : List Int) (m : Nat) (hm : m ≤ 64) (h : ∀ z ∈ zs, z < 2 ^ m) : wide zs ≤ m := by
  refine Lib.bitLen_le _ m hm ?_
  have hp : (0 : Int) < 2 ^ m := Int.pow_pos (by omega)
  have h1 := grt_le zs (2 ^ m - 1) (by omega) (fun z hz => by have := h z hz; omega)
  have e : ((2 ^ m : Nat) : Int) = 2 ^ m := by norm_cast
  omega
theorem wide_lt {zs : List Int} (hw : Word zs) : ∀ z ∈ zs, z < 2 ^ wide zs := by
  intro z hz
  have h1 := grt_all zs z hz
  have h2 := word_grt hw
  have h3 := len_lt (grt zs).toNat (by omega)
  have e : ((2 ^ wide zs : Nat) : Int) = 2 ^ wide zs := by norm_cast
  unfold wide at e ⊢
  have := grt_ge zs
  omega
theorem wide_take {zs : List Int} (hw : Word zs) (k : Nat) (h : k < zs.length) : wide (zs.take (k + 1)) = max (wide (zs.take k)) (Lib.bitLen zs[k].toNat) := by
  have h1 := word_grt (hw.take k)
  have h2 := (hw _ (List.getElem_mem h)).2
  unfold wide
  rw [grt_take zs k h, show (max (grt (zs.take k)) zs[k]).toNat = max (grt (zs.take k)).toNat zs[k].toNat from by omega, len_max _ _ (by omega) (by omega)]
def Fits (zs : List Int) (wd : Int) : Prop := 0 ≤ wd ∧ wd ≤ 32 ∧ ∀ z ∈ zs, 0 ≤ z ∧ z < 2 ^ wd.toNat
instance (zs : List Int) (wd : Int) : Decidable (Fits zs wd) := by unfold Fits; infer_instance
def fitB (zs : List Int) (wd : Int) : Bool := decide (Fits zs wd)
def rightB (wd : Int) : Bool := decide (0 ≤ wd ∧ wd ≤ 32)
def May (zs : List Int) : Prop := ∀ z ∈ zs, 0 ≤ z ∧ z ≤ 4294967295
instance (zs : List Int) : Decidable (May zs) := by unfold May; infer_instance
theorem May.word {zs : List Int} (h : May zs) : Word zs := fun z hz => by have := h z hz; omega
theorem May.wide_le {zs : List Int} (h : May zs) : wide zs ≤ 32 := Go.Proofs.YtmffpbhiehjlpaaGreat.wide_le zs 32 (by omega) fun z hz => by have := h z hz; omega
theorem May.fits {zs : List Int} (h : May zs) : Fits zs (wide zs : Int) :=
  ⟨by omega, by have := h.wide_le; omega, fun z hz => ⟨(h z hz).1, by rw [Int.toNat_natCast]; exact wide_lt h.word z hz⟩⟩
theorem Fits.may {zs : List Int} {wd : Int} (h : Fits zs wd) : May zs := fun z hz => by
  obtain ⟨h1, h2, h3⟩ := h
  have hz := h3 z hz
  have : (2 : Nat) ^ wd.toNat ≤ 2 ^ 32 := Nat.pow_le_pow_right (by omega) (by omega)
  have e : ((2 ^ wd.toNat : Nat) : Int) = 2 ^ wd.toNat := by norm_cast
  omega
def nats (zs : List Int) : List Nat := zs.map Int.toNat
theorem nats_length (zs : List Int) : (nats zs).length = zs.length := by simp [nats]
theorem Fits.nats_lt {zs : List Int} {wd : Int} (h : Fits zs wd) : ∀ x ∈ nats zs, x < 2 ^ wd.toNat := by
  intro x hx
  obtain ⟨z, hz, rfl⟩ := List.mem_map.1 hx
  have := h.2.2 z hz
  have e : ((2 ^ wd.toNat : Nat) : Int) = 2 ^ wd.toNat := by norm_cast
  omega
theorem nats_ints (ns : List Nat) : nats (ints ns) = ns := by
  unfold nats ints
  rw [List.map_map]
  conv => rhs; rw [← List.map_id ns]
  exact List.map_congr_left fun n _ => by simp
theorem ints_nats {zs : List Int} (h : ∀ z ∈ zs, 0 ≤ z) : ints (nats zs) = zs := by
  unfold nats ints
  rw [List.map_map]
  conv => rhs; rw [← List.map_id zs]
  exact List.map_congr_left fun z hz => by have := h z hz; simp; omega
def putR (zs : List Int) (wd : Int) : List UInt8 × Int := if Fits zs wd then (packL wd.toNat (nats zs), 0) else ([], 1)
theorem putR_yes {zs : List Int} {wd : Int} (h : Fits zs wd) : putR zs wd = (packL wd.toNat (nats zs), 0) := if_pos h
theorem putR_no {zs : List Int} {wd : Int} (h : ¬ Fits zs wd) : putR zs wd = ([], 1) := if_neg h
end Go.Proofs.YtmffpbhiehjlpaaGreat
namespace Go.Proofs.YtmffpbhiehjlpaaGreat
set_option linter.unusedSimpArgs false
set_option linter.unusedVariables false
open Go.RowKit
theorem pow_small {k n : Nat} (h : k ≤ n) (hn : n ≤ 62) : 2 ^ k ≤ 4611686018427387904 := Nat.le_trans (Nat.pow_le_pow_right (by omega) (Nat.le_trans h hn)) (by decide)
theorem power_any {w : World} (n : Nat) (hn : n ≤ 62) :
    Calls Tryz.prog 88 #[.int .i64 (n : Int)] w fun r w' => r = .returned (.int .i64 ((2 ^ n : Nat) : Int)) ∧ w = w' := by
  go_enter Tryz.func88, Tryz.ntmps88
  go_wp2_with fail
  go_loop [3, 4] (fun x i => ∃ k : Nat, k ≤ n ∧ i = .int .i64 (k : Int) ∧ x = .int .i64 ((2 ^ k : Nat) : Int)) (fun _ i => n - (intOf i).toNat)
  case atStart => exact ⟨0, Nat.zero_le _, rfl, rfl⟩
  case round =>
    obtain ⟨k, hk, rfl, rfl⟩ := hrel
    by_cases hlt : k < n
    · have hb := pow_small (k := k + 1) hlt hn
      have hs : Hid ((2 ^ (k + 1) : Nat) = 2 * 2 ^ k) := by unfold Hid; rw [Nat.pow_succ, Nat.mul_comm]
      rw [hs] at hb
      generalize 2 ^ k = p at *
      go_wp2
      go_round
      case rel => exact ⟨k + 1, by omega, by go_num, by rw [hs.out]; go_num⟩
      case measure => simp [intOf]; omega
    · obtain rfl : k = n := by omega
      go_wp2
      go_ret
      exact ⟨rfl, rfl⟩
end Go.Proofs.YtmffpbhiehjlpaaGreat
namespace Go.Proofs.YtmffpbhiehjlpaaGreat
set_option linter.unusedSimpArgs false
set_option linter.unusedVariables false
open Go.RowKit
theorem rwidth_any {w : World} (zs : List Int) (hz : May zs) {lo h' : Nat} {A : Option Addr} {c : Nat} (h : Rd w lo h' A c (iv zs)) :
    Calls Tryz.prog 70 #[.slice A zs.length c] w fun r w' => r = .returned (.int .i64 (wide zs : Int)) ∧ ∃ n, w.drewN n = w' := by
  have hl := h.len
  have hc := h.cap
  rw [iv_length] at hl
  unfold maxLen at hc
  have H := Lib.hid h
  have HZ := Lib.hid hz
  clear h hz
  go_enter Tryz.func70, Tryz.ntmps70
  go_wp2_with fail
  go_loopw [3, 4] (fun v i wr => ∃ k n : Nat, k ≤ zs.length ∧ i = .int .i64 (k : Int) ∧ v = .int .i64 (wide (zs.take k) : Int) ∧ w.drewN n = wr) (fun _ i _ => zs.length - (intOf i).toNat)
  case atStart => exact ⟨0, 0, Nat.zero_le _, rfl, by rw [List.take_zero, wide_nil]; rfl, rfl⟩
  case round =>
    obtain ⟨k, n, hk, rfl, rfl, rfl⟩ := hrel
    by_cases hlt : k < zs.length
    · obtain ⟨b, off, rfl, _, _, hcell⟩ := H.out.num hlt
      have hts := Lib.hid (wide_take HZ.out.word k hlt)
      have hm := HZ.out _ (List.getElem_mem hlt)
      have hw32 : wide (zs.take k) ≤ 32 := wide_le _ 32 (by omega) fun z hz => by have := HZ.out z (List.mem_of_mem_take hz); omega
      have hb32 : Lib.bitLen zs[k].toNat ≤ 32 := Lib.bitLen_le _ 32 (by omega) (by omega)
      have hiff := fun m => len_iff zs[k].toNat m (by omega)
      have HI := Lib.hid hiff
      obtain ⟨hm0, hm1⟩ := hm
      clear hiff
      generalize zs[k] = z at *
      generalize wide (zs.take k) = v0 at *
      generalize Lib.bitLen z.toNat = v1 at *
      go_wp2_with fail
      go_loopw [3] (fun v wr => ∃ m n : Nat, v0 ≤ m ∧ m ≤ max v0 v1 ∧ v = .int .i64 (m : Int) ∧ w.drewN n = wr) (fun v _ => 64 - (intOf v).toNat)
      case atStart => exact ⟨v0, n, by omega, by omega, rfl, rfl⟩
      case round =>
        obtain ⟨m, n, h1, h2, rfl, rfl⟩ := hrel
        have HP := fun j : Nat => Lib.hid (power_any (w := w.drewN j) m (by omega))
        have hge := (HI.out m)
        by_cases hlv : m < v1
        · have hpz : ((2 ^ m : Nat) : Int) ≤ z := by have := hge.2 hlv; omega
          clear hge
          generalize 2 ^ m = p at *
          go_wp2_with fail
          go_quiet ((go_at_call 88; exact quiet_pure_on (HP _).out))
          go_wp2
          go_roundw
          case rel => exact ⟨m + 1, _, by omega, by omega, by go_num, rfl⟩
          case measure => simp [intOf]; omega
        · have hpz : z < ((2 ^ m : Nat) : Int) := by
            have h3 : ¬ 2 ^ m ≤ z.toNat := fun h => hlv (hge.1 h)
            omega
          clear hge
          generalize 2 ^ m = p at *
          go_wp2_with fail
          go_quiet ((go_at_call 88; exact quiet_pure_on (HP _).out))
          go_wp2
          go_roundw
          case rel => exact ⟨k + 1, _, by omega, by go_num, by rw [hts.out]; go_num, rfl⟩
          case measure => simp [intOf]; omega
    · obtain rfl : k = zs.length := by omega
      rw [List.take_length]
      go_wp2
      go_ret
      exact ⟨rfl, _, rfl⟩
end Go.Proofs.YtmffpbhiehjlpaaGreat
namespace Go.Proofs.YtmffpbhiehjlpaaGreat
set_option linter.unusedSimpArgs false
set_option linter.unusedVariables false
def BitsAt (n V : Nat) (ys : List UInt8) : Prop := V < 2 ^ n ∧ ys = bytesN ((n + 7) / 8) V
def OpenAt (n V : Nat) (ys : List UInt8) : Prop := V < 2 ^ n ∧ ys = bytesN (n / 8 + 1) V
theorem bitsAt_zero : BitsAt 0 0 [] := ⟨by simp, rfl⟩
theorem bitsAt_len {n V : Nat} {ys : List UInt8} (h : BitsAt n V ys) : ys.length = (n + 7) / 8 := by rw [h.2, bytesN_length]
theorem openAt_len {n V : Nat} {ys : List UInt8} (h : OpenAt n V ys) : ys.length = n / 8 + 1 := by rw [h.2, bytesN_length]
theorem split256 (n : Nat) : 2 ^ n = 256 ^ (n / 8) * 2 ^ (n % 8) := by
  rw [← Nat.pow_mul 2 8 (n / 8), ← Nat.pow_add]
  congr 1
  omega
theorem openAt_same {n V : Nat} {ys : List UInt8} (h : BitsAt n V ys) (hn : n % 8 ≠ 0) : OpenAt n V ys := by
  obtain ⟨h1, rfl⟩ := h
  exact ⟨h1, by rw [show (n + 7) / 8 = n / 8 + 1 from by omega]⟩
theorem openAt_push {n V : Nat} {ys : List UInt8} (h : BitsAt n V ys) (hn : n % 8 = 0) : OpenAt n V (ys ++ [0]) := by
  obtain ⟨h1, rfl⟩ := h
  refine ⟨h1, ?_⟩
  rw [show (n + 7) / 8 = n / 8 from by omega, bytesN_snoc]
  rw [split256, hn, Nat.pow_zero, Nat.mul_one] at h1
  rw [Nat.div_eq_of_lt h1]
  rfl
theorem bitsAt_none {n V : Nat} {ys : List UInt8} (h : OpenAt n V ys) : BitsAt (n + 1) V ys := by
  obtain ⟨h1, rfl⟩ := h
  exact ⟨by rw [Nat.pow_succ]; omega, by rw [show (n + 1 + 7) / 8 = n / 8 + 1 from by omega]⟩
theorem bitsAt_one {n V : Nat} {ys : List UInt8} (h : OpenAt n V ys) (x : UInt8) (hx : ys[n / 8]? = some x) :
    x.toNat + 2 ^ (n % 8) < 256 ∧ BitsAt (n + 1) (V + 2 ^ n) (ys.set (n / 8) (UInt8.ofNat (x.toNat + 2 ^ (n % 8)))) := by
  obtain ⟨h1, rfl⟩ := h
  rw [bytesN_snoc, List.getElem?_append_right (by rw [bytesN_length]; exact Nat.le_refl _), bytesN_length, Nat.sub_self] at hx
  simp only [List.getElem?_cons_zero, Option.some.injEq] at hx
  have h2 := h1
  rw [split256] at h2
  have h3 := Nat.div_lt_of_lt_mul h2
  have h4 : 2 ^ (n % 8) ≤ 2 ^ 7 := Nat.pow_le_pow_right (by omega) (by omega)
  have hp : 0 < 256 ^ (n / 8) := Nat.pow_pos (by omega)
  have hxv : x.toNat = V / 256 ^ (n / 8) := by
    rw [← hx, byte_toNat, Nat.mod_eq_of_lt (by omega)]
  rw [hxv]
  refine ⟨by omega, by rw [Nat.pow_succ]; omega, ?_⟩
  rw [show (n + 1 + 7) / 8 = n / 8 + 1 from by omega, bytesN_snoc, bytesN_snoc, List.set_append_right _ _ (by rw [bytesN_length]; exact Nat.le_refl _), bytesN_length, Nat.sub_self]
  have e : (V + 2 ^ n) / 256 ^ (n / 8) = V / 256 ^ (n / 8) + 2 ^ (n % 8) := by rw [split256 n, Nat.add_mul_div_left _ _ hp]
  rw [e, Nat.mod_eq_of_lt (show V / 256 ^ (n / 8) + 2 ^ (n % 8) < 256 by omega)]
  congr 1
  rw [split256 n, bytesN_plus]
theorem bv_set (l : List UInt8) (j : Nat) (x : UInt8) : bv (l.set j x) = (bv l).set j (.int .u8 (x.toNat : Int)) := by simp [bv, List.map_set]
theorem bytesN_add (a b V : Nat) : bytesN (a + b) V = bytesN a V ++ bytesN b (V / 256 ^ a) := by
  induction a generalizing V with
  | zero => simp [bytesN]
  | succ a ih =>
    rw [Nat.add_right_comm, bytesN, ih (V / 256), bytesN, List.cons_append, Nat.div_div_eq_div_mul, Nat.pow_succ, Nat.mul_comm 256]
theorem last_get (bs : List UInt8) (h : 0 < bs.length) : bs[bs.length - 1] = bs.getLastD 0 := by
  rcases List.eq_nil_or_concat bs with rfl | ⟨r, x, rfl⟩
  · simp at h
  · simp
end Go.Proofs.YtmffpbhiehjlpaaGreat
namespace Go.Proofs.YtmffpbhiehjlpaaGreat
set_option linter.unusedSimpArgs false
set_option linter.unusedVariables false
open Go.RowKit
def partial_ (m : Nat) (l : List Nat) (x j : Nat) : Nat := vsum m l + 2 ^ (l.length * m) * (x % 2 ^ j)
theorem partial_zero (m : Nat) (l : List Nat) (x : Nat) : partial_ m l x 0 = vsum m l := by simp [partial_, Nat.mod_one]
theorem partial_all (m : Nat) (l : List Nat) (x : Nat) (hx : x < 2 ^ m) : partial_ m l x m = vsum m (l ++ [x]) := by
  rw [partial_, vsum_snoc, Nat.mod_eq_of_lt hx, Nat.mul_comm m]
theorem partial_succ (m : Nat) (l : List Nat) (x j t : Nat) (ht : x / 2 ^ j % 2 = t) : partial_ m l x (j + 1) = partial_ m l x j + 2 ^ (l.length * m + j) * t := by
  unfold partial_
  rw [Nat.pow_succ, Nat.mod_mul, ht, Nat.mul_add, Nat.pow_add, Nat.mul_assoc, Nat.add_assoc]
theorem bit_test (x pj : Nat) (hx : x ≤ 4294967295) : (x / pj % 2 = 1 → ((wrap64 ((x : Int) / (pj : Int))).tmod 2 == 1) = true) ∧ (¬ x / pj % 2 = 1 → ((wrap64 ((x : Int) / (pj : Int))).tmod 2 == 1) = false) := by
  have h1 : x / pj ≤ x := Nat.div_le_self _ _
  have e1 : (x : Int) / (pj : Int) = ((x / pj : Nat) : Int) := by push_cast; rfl
  rw [e1]
  generalize x / pj = y at *
  rw [IntWalk.wrap64_in (y : Int) (by omega), Int.tmod_eq_emod_of_nonneg (by omega)]
  refine ⟨fun h => ?_, fun h => ?_⟩
  · rw [beq_iff_eq]; omega
  · rw [beq_eq_false_iff_ne]; omega
def AheadR (m : Nat) (zs : List Int) (k n : Nat) (ys : List UInt8) : Prop :=
  (∀ z ∈ zs.take k, 0 ≤ z ∧ z < 2 ^ m) ∧ n = k * m ∧ BitsAt n (vsum m (nats (zs.take k))) ys
def InR (m : Nat) (zs : List Int) (k x j n : Nat) (ys : List UInt8) : Prop :=
  n = k * m + j ∧ BitsAt n (partial_ m (nats (zs.take k)) x j) ys
set_option maxRecDepth 20000 in
set_option maxHeartbeats 1000000 in
theorem rput_any {w : World} (zs : List Int) (wd : Int) {h' : Nat} {A : Option Addr} {c : Nat} (h : Rd w 0 h' A c (iv zs)) (hh : h' ≤ w.heap.size) (hlen : zs.length ≤ 4294967295) :
    Calls Tryz.prog 69 #[.slice A zs.length c, .int .i64 wd] w fun r w' => ∃ A' c', r = .returned (.tuple #[.slice A' (putR zs wd).1.length c', .int .i64 (putR zs wd).2]) ∧
      w'.ownsRow w.heap.size 5 1 (.slice A' (putR zs wd).1.length c') (putR zs wd).1.length (bv (putR zs wd).1) ∧ Below w.heap.size w w' := by
  by_cases hr : 0 ≤ wd ∧ wd ≤ 32
  · obtain ⟨hr0, hr1⟩ := hr
    obtain ⟨m, rfl⟩ := Int.eq_ofNat_of_zero_le hr0
    have hm : m ≤ 32 := by omega
    have hl := h.len
    have hc := h.cap
    rw [iv_length] at hl
    unfold maxLen at hc
    have H := Lib.hid h
    clear h
    have hnm : zs.length * m ≤ 4294967295 * 32 := Nat.mul_le_mul hlen hm
    go_enter Tryz.func69, Tryz.ntmps69
    go_wp2_with fail
    go_loopw [6, 7, 8] (fun b n i wr => ∃ (k N : Nat) (ys : List UInt8) (A' : Option Addr) (c' : Nat), k ≤ zs.length ∧ i = .int .i64 (k : Int) ∧ n = .int .i64 (N : Int) ∧ b = .slice A' ys.length c' ∧
        AheadR m zs k N ys ∧ wr.ownsRow w.heap.size 5 1 (.slice A' ys.length c') ys.length (bv ys) ∧ Below w.heap.size w wr) (fun _ _ i _ => zs.length - (intOf i).toNat)
    case atStart => exact ⟨0, 0, [], none, 0, Nat.zero_le _, rfl, rfl, rfl, ⟨by simp, by simp, bitsAt_zero⟩, World.ownsRow_nil .., Below.refl _ _⟩
    case round =>
      obtain ⟨k, N, ys, A', c', hk, rfl, rfl, rfl, hat, hown, hbel⟩ := hrel
      have HAT := Lib.hid hat
      have HOW := Lib.hid hown
      have HBL := Lib.hid hbel
      have hsz := hbel.size
      by_cases hlt : k < zs.length
      · obtain ⟨b, off, rfl, _, hbh0, hcw⟩ := H.out.num hlt
        have hbh : b < w.heap.size := Nat.lt_of_lt_of_le hbh0 hh
        have hcell := (hbel.cell (p := ⟨b, off + k, none⟩) hbh).trans hcw
        have HCW := Lib.hid hcw
        clear hcw
        have HP := fun q : Nat => Lib.hid (power_any (w := wr.drewN q) m (by omega))
        have hmem : Hid (zs[k] ∈ zs) := List.getElem_mem hlt
        have hts : Hid (zs.take (k + 1) = zs.take k ++ [zs[k]]) := by unfold Hid; exact List.take_succ_eq_append_getElem hlt
        have hpw : Hid (((2 ^ m : Nat) : Int) = 2 ^ m) := by unfold Hid; norm_cast
        generalize zs[k] = z0 at *
        clear hat hown hbel
        by_cases hneg : z0 < 0
        · have HE : Hid (putR zs m = ([], 1)) := by
            refine putR_no fun hf => ?_
            have := hf.2.2 z0 hmem
            omega
          go_wp2_with fail
          go_quiet (fail)
          go_wp2
          go_ret2
          rw [HE.out]
          exact ⟨none, 0, rfl, World.ownsRow_nil .., below_drewN' HBL.out _⟩
        · by_cases hbig : ((2 ^ m : Nat) : Int) ≤ z0
          · have HE : Hid (putR zs m = ([], 1)) := by
              refine putR_no fun hf => ?_
              have := (hf.2.2 z0 hmem).2
              rw [Int.toNat_natCast, ← hpw.out] at this
              omega
            have hneg' : decide (z0 < 0) = false := by simpa using hneg
            clear hpw
            generalize 2 ^ m = pm at *
            go_wp2_with fail
            go_quiet ((go_at_call 88; exact quiet_pure (HP _).out))
            go_wp2
            go_ret2
            rw [HE.out]
            exact ⟨none, 0, rfl, World.ownsRow_nil .., below_drewN' HBL.out _⟩
          · obtain ⟨x, rfl⟩ := Int.eq_ofNat_of_zero_le (show 0 ≤ z0 by omega)
            have hneg' : decide ((x : Int) < 0) = false := by simp
            have hxm : x < 2 ^ m := by omega
            have HXM := Lib.hid hxm
            have hxb : x ≤ 4294967295 := by
              have : 2 ^ m ≤ 2 ^ 32 := Nat.pow_le_pow_right (by omega) hm
              omega
            have hlt2 : (x : Int) < ((2 ^ m : Nat) : Int) := by omega
            have HXM2 : Hid (x < 2 ^ m) := hxm
            have HPM := hpw
            clear hpw hxm hbig hneg
            obtain ⟨pm, hpm⟩ : ∃ pm, pm = 2 ^ m := ⟨_, rfl⟩
            rw [← hpm] at HP hlt2 HPM HXM
            clear hpm
            have hdx : decide (pm ≤ x) = false := by simp; omega
            go_wp2_with fail
            go_quiet ((go_at_call 88; exact quiet_pure (HP _).out))
            go_wp2_with fail
            have hcell1 : (wr.drewN nq).cell? ⟨b, off + k, none⟩ = some (.int .i64 (x : Int)) := hcell
            have HO1 : Hid ((wr.drewN nq).ownsRow w.heap.size 5 1 (.slice A' ys.length c') ys.length (bv ys)) := HOW.out
            have HB1 := Lib.hid (below_drewN' HBL.out nq)
            clear hcell
            generalize wr.drewN nq = wo at *
            go_loopw [6, 7, 9] (fun b n i wr => ∃ (j N : Nat) (ys : List UInt8) (A' : Option Addr) (c' : Nat), j ≤ m ∧ i = .int .i64 (j : Int) ∧ n = .int .i64 (N : Int) ∧ b = .slice A' ys.length c' ∧
                InR m zs k x j N ys ∧ wr.ownsRow w.heap.size 5 1 (.slice A' ys.length c') ys.length (bv ys) ∧ Below w.heap.size w wr) (fun _ _ i _ => m - (intOf i).toNat)
            case atStart => exact ⟨0, N, ys, A', c', Nat.zero_le _, rfl, rfl, rfl, ⟨HAT.out.2.1, by rw [partial_zero]; exact HAT.out.2.2⟩, HO1.out, HB1.out⟩
            case round =>
              obtain ⟨j, n, ys1, A1, c1, hj, rfl, rfl, rfl, hin, hown1, hbel1⟩ := hrel
              have HIN := Lib.hid hin
              have HO1 := Lib.hid hown1
              have HB1 := Lib.hid hbel1
              have hsz1 := hbel1.size
              have hyl := Nat.le_of_eq (bitsAt_len hin.2)
              have hnb : n ≤ 4294967295 * 32 + 32 := by
                have h1 := hin.1
                have h2 : k * m ≤ zs.length * m := Nat.mul_le_mul_right _ hk
                omega
              clear hin hown1 hbel1
              by_cases hjm : j < m
              · by_cases h8 : n % 8 = 0
                · have HOP := Lib.hid (openAt_push HIN.out.2 h8)
                  have hL : (ys1 ++ [0]).length = ys1.length + 1 := by simp
                  go_wp2_with (at_builtin; refine wpList_push (v := .slice A1 ys1.length c1) w.heap.size ys1 0 rfl _ _ rfl rfl rfl rfl (by rw [World.cell?_alloc_at _ _ _ _ rfl]; rfl) (HO1.out.alloc _) (by omega) (by simp; omega) ?_; intro A2 c2 w2 hown2 hgr2)
                  have HB2 := Lib.hid ((HB1.out.alloc hsz1 _).grown hgr2 (by simp; omega) (fun k hk => own_row HO1.out k hk))
                  rw [hL] at hown2
                  have HO2 := Lib.hid hown2
                  have HL := Lib.hid hL
                  clear hown2 hgr2 hL
                  generalize ys1 ++ [0] = ys2 at *
                  generalize hLe : ys1.length + 1 = L at *
                  have hLn : L = n / 8 + 1 := by rw [← HL.out]; exact openAt_len HOP.out
                  have hL1 : L ≤ n / 8 + 1 := by omega
                  have hL2 : n / 8 < L := by omega
                  have HN8 := Lib.hid h8
                  clear hLe hLn h8
                  obtain ⟨g, rfl, hg1, hg2⟩ := own_spot HO2.out (by omega)
                  have hcell2 : w2.cell? ⟨b, off + k, none⟩ = some (.int .i64 (x : Int)) := (HB2.out.cell (p := ⟨b, off + k, none⟩) hbh).trans HCW.out
                  have HP2 := fun q : Nat => Lib.hid (power_any (w := w2.drewN q) j (by omega))
                  have hpj := Nat.two_pow_pos j
                  have hbq := bit_test x (2 ^ j) hxb
                  have HPS := fun t ht => partial_succ m (nats (zs.take k)) x j t ht
                  rw [nats_length, List.length_take, Nat.min_eq_left hk, ← HIN.out.1] at HPS
                  have HPT := Lib.hid HPS
                  clear HPS
                  by_cases hbit : x / 2 ^ j % 2 = 1
                  · have HPA := Lib.hid (HPT.out 1 hbit)
                    have hbt := hbq.1 hbit
                    clear hbq hbit
                    generalize 2 ^ j = pj at *
                    go_quiet ((go_at_call 88; exact quiet_pure (HP2 _).out))
                    go_wp2_with fail
                    have hy0 : n / 8 < ys2.length := by rw [HL.out]; exact hL2
                    obtain ⟨y0, hy0e⟩ : ∃ y0, ys2[n / 8]? = some y0 := ⟨_, List.getElem?_eq_getElem hy0⟩
                    have hload : (w2.drewN nq).drew.cell? ⟨g, n / 8, none⟩ = some (.int .u8 (y0.toNat : Int)) := by
                      have h1 := HO2.out.cellAt (n / 8) (by omega)
                      have h2 : (bv ys2)[n / 8]? = some (.int .u8 (y0.toNat : Int)) := by simp [bv, hy0e]
                      exact h1.trans h2
                    have hfr : (w2.drewN nq).drew.frozen? ⟨g, n / 8, none⟩ = false := HO2.out.frozenAt (n / 8)
                    have HO3 : Hid ((w2.drewN nq).drew.ownsRow w.heap.size 5 1 (.slice (some ⟨g, 0, none⟩) L c2) L (bv ys2)) := HO2.out
                    have HB3 : Hid (Below w.heap.size w (w2.drewN nq).drew) := below_drewN' (below_drewN' HB2.out nq) 1
                    have HP3 := Lib.hid (power_any (w := (w2.drewN nq).drew) (n % 8) (by omega))
                    have hn8 : (n : Int) / 8 = ((n / 8 : Nat) : Int) := by omega
                    have hn8' : (n : Int) % 8 = ((n % 8 : Nat) : Int) := by omega
                    have hn8t : (n : Int).tmod 8 = ((n % 8 : Nat) : Int) := by rw [Int.tmod_eq_emod_of_nonneg (by omega)]; omega
                    have HW := Lib.hid (bitsAt_one HOP.out y0 hy0e)
                    have hyb := HW.out.1
                    have hy256 := UInt8.toNat_lt y0
                    generalize 2 ^ (n % 8) = pr at *
                    refine wp_region_still_tail 13 (by kernel_rfl) (by kernel_rfl) ?_
                    change wpStill _ _ (w2.drewN nq).drew (fun a' => wpList _ _ _ _ a' (w2.drewN nq).drew) _ _
                    generalize (w2.drewN nq).drew = w4 at *
                    generalize hq8 : n / 8 = q at *
                    generalize hr8 : n % 8 = r at *
                    clear hq8 hr8
                    simp only [List.take_succ_cons, List.take_zero, List.drop_succ_cons, List.drop_zero]
                    have hqw : IntKind.i64.wrap (q : Int) = (q : Int) := IntWalk.i64_in _ (by omega)
                    have hrw : IntKind.i64.wrap (r : Int) = (r : Int) := IntWalk.i64_in _ (by omega)
                    have hpw : IntKind.u8.wrap (pr : Int) = (pr : Int) := by rw [IntKind.wrap_u8]; omega
                    have hsum : IntKind.u8.wrap ((y0.toNat : Int) + (pr : Int)) = ((y0.toNat + pr : Nat) : Int) := by rw [IntKind.wrap_u8]; omega
                    repeat still_step
                    refine wpStill_step (fun K hK => ?_)
                    go_simp
                    refine ⟨_, HP3.out.mono fun _ _ ⟨a, b⟩ => ⟨a, b.symm⟩, hK _ ?_⟩
                    clear hK K
                    repeat still_step
                    refine wpStill_nil ?_
                    go_wp2
                    go_roundw
                    case rel =>
                      have hst := HO3.out.stored q (.int .u8 ((y0.toNat : Int) + (pr : Int)))
                      have hbn : (UInt8.ofNat (y0.toNat + pr)).toNat = y0.toNat + pr := by rw [UInt8.toNat_ofNat']; omega
                      have hbs : bv (ys2.set q (UInt8.ofNat (y0.toNat + pr))) = (bv ys2).set q (.int .u8 ((y0.toNat : Int) + (pr : Int))) := by
                        rw [bv_set, hbn]
                        congr 2
                      have hls : (ys2.set q (UInt8.ofNat (y0.toNat + pr))).length = L := by rw [List.length_set, HL.out]
                      refine ⟨j + 1, n + 1, ys2.set q (UInt8.ofNat (y0.toNat + pr)), some ⟨g, 0, none⟩, c2, by omega, by go_num, by go_num, ?_, ⟨by have := HIN.out.1; omega, ?_⟩, ?_, HB3.out.setCell (by simpa using hg1) _⟩
                      · rw [hls]
                      · rw [HPA.out, Nat.mul_one]; exact HW.out.2
                      · rw [hls, hbs]; exact hst.1
                    case measure => simp [intOf] <;> omega
                  · have HPA := Lib.hid (HPT.out 0 (by omega))
                    have hbt := hbq.2 hbit
                    clear hbq hbit
                    generalize 2 ^ j = pj at *
                    go_quiet ((go_at_call 88; exact quiet_pure (HP2 _).out))
                    go_wp2
                    go_roundw
                    case rel =>
                      refine ⟨j + 1, n + 1, ys2, some ⟨g, 0, none⟩, c2, by omega, by go_num, by go_num, ?_, ⟨by have := HIN.out.1; omega, ?_⟩, ?_, below_drewN' HB2.out _⟩
                      · rw [HL.out]
                      · rw [HPA.out, Nat.mul_zero, Nat.add_zero]; exact bitsAt_none HOP.out
                      · rw [HL.out]; exact HO2.out
                    case measure => simp [intOf] <;> omega
                · have HOP := Lib.hid (openAt_same HIN.out.2 h8)
                  have HB2 := Lib.hid HB1.out
                  have hL := openAt_len HOP.out
                  generalize hLe : ys1.length = L at *
                  have HL := Lib.hid hLe
                  have hL1 : L ≤ n / 8 + 1 := by omega
                  have hL2 : n / 8 < L := by omega
                  have HO2 := Lib.hid HO1.out
                  have HN8 := Lib.hid h8
                  have hn80 : ((n : Int) % 8 == 0) = false := by rw [beq_eq_false_iff_ne]; omega
                  clear hLe hL h8 HO1
                  go_wp2_with fail
                  obtain ⟨g, rfl, hg1, hg2⟩ := own_spot HO2.out (by omega)
                  have hcell2 : wr.cell? ⟨b, off + k, none⟩ = some (.int .i64 (x : Int)) := (HB2.out.cell (p := ⟨b, off + k, none⟩) hbh).trans HCW.out
                  have HP2 := fun q : Nat => Lib.hid (power_any (w := wr.drewN q) j (by omega))
                  have hpj := Nat.two_pow_pos j
                  have hbq := bit_test x (2 ^ j) hxb
                  have HPS := fun t ht => partial_succ m (nats (zs.take k)) x j t ht
                  rw [nats_length, List.length_take, Nat.min_eq_left hk, ← HIN.out.1] at HPS
                  have HPT := Lib.hid HPS
                  clear HPS
                  by_cases hbit : x / 2 ^ j % 2 = 1
                  · have HPA := Lib.hid (HPT.out 1 hbit)
                    have hbt := hbq.1 hbit
                    clear hbq hbit
                    generalize 2 ^ j = pj at *
                    go_quiet ((go_at_call 88; exact quiet_pure (HP2 _).out))
                    go_wp2_with fail
                    have hy0 : n / 8 < ys1.length := by rw [HL.out]; exact hL2
                    obtain ⟨y0, hy0e⟩ : ∃ y0, ys1[n / 8]? = some y0 := ⟨_, List.getElem?_eq_getElem hy0⟩
                    have hload : (wr.drewN nq).drew.cell? ⟨g, n / 8, none⟩ = some (.int .u8 (y0.toNat : Int)) := by
                      have h1 := HO2.out.cellAt (n / 8) (by omega)
                      have h2 : (bv ys1)[n / 8]? = some (.int .u8 (y0.toNat : Int)) := by simp [bv, hy0e]
                      exact h1.trans h2
                    have hfr : (wr.drewN nq).drew.frozen? ⟨g, n / 8, none⟩ = false := HO2.out.frozenAt (n / 8)
                    have HO3 : Hid ((wr.drewN nq).drew.ownsRow w.heap.size 5 1 (.slice (some ⟨g, 0, none⟩) L c1) L (bv ys1)) := HO2.out
                    have HB3 : Hid (Below w.heap.size w (wr.drewN nq).drew) := below_drewN' (below_drewN' HB2.out nq) 1
                    have HP3 := Lib.hid (power_any (w := (wr.drewN nq).drew) (n % 8) (by omega))
                    have hn8 : (n : Int) / 8 = ((n / 8 : Nat) : Int) := by omega
                    have hn8' : (n : Int) % 8 = ((n % 8 : Nat) : Int) := by omega
                    have hn8t : (n : Int).tmod 8 = ((n % 8 : Nat) : Int) := by rw [Int.tmod_eq_emod_of_nonneg (by omega)]; omega
                    have HW := Lib.hid (bitsAt_one HOP.out y0 hy0e)
                    have hyb := HW.out.1
                    have hy256 := UInt8.toNat_lt y0
                    generalize 2 ^ (n % 8) = pr at *
                    refine wp_region_still_tail 13 (by kernel_rfl) (by kernel_rfl) ?_
                    change wpStill _ _ (wr.drewN nq).drew (fun a' => wpList _ _ _ _ a' (wr.drewN nq).drew) _ _
                    generalize (wr.drewN nq).drew = w4 at *
                    generalize hq8 : n / 8 = q at *
                    generalize hr8 : n % 8 = r at *
                    clear hq8 hr8
                    simp only [List.take_succ_cons, List.take_zero, List.drop_succ_cons, List.drop_zero]
                    have hqw : IntKind.i64.wrap (q : Int) = (q : Int) := IntWalk.i64_in _ (by omega)
                    have hrw : IntKind.i64.wrap (r : Int) = (r : Int) := IntWalk.i64_in _ (by omega)
                    have hpw : IntKind.u8.wrap (pr : Int) = (pr : Int) := by rw [IntKind.wrap_u8]; omega
                    have hsum : IntKind.u8.wrap ((y0.toNat : Int) + (pr : Int)) = ((y0.toNat + pr : Nat) : Int) := by rw [IntKind.wrap_u8]; omega
                    repeat still_step
                    refine wpStill_step (fun K hK => ?_)
                    go_simp
                    refine ⟨_, HP3.out.mono fun _ _ ⟨a, b⟩ => ⟨a, b.symm⟩, hK _ ?_⟩
                    clear hK K
                    repeat still_step
                    refine wpStill_nil ?_
                    go_wp2
                    go_roundw
                    case rel =>
                      have hst := HO3.out.stored q (.int .u8 ((y0.toNat : Int) + (pr : Int)))
                      have hbn : (UInt8.ofNat (y0.toNat + pr)).toNat = y0.toNat + pr := by rw [UInt8.toNat_ofNat']; omega
                      have hbs : bv (ys1.set q (UInt8.ofNat (y0.toNat + pr))) = (bv ys1).set q (.int .u8 ((y0.toNat : Int) + (pr : Int))) := by
                        rw [bv_set, hbn]
                        congr 2
                      have hls : (ys1.set q (UInt8.ofNat (y0.toNat + pr))).length = L := by rw [List.length_set, HL.out]
                      refine ⟨j + 1, n + 1, ys1.set q (UInt8.ofNat (y0.toNat + pr)), some ⟨g, 0, none⟩, c1, by omega, by go_num, by go_num, ?_, ⟨by have := HIN.out.1; omega, ?_⟩, ?_, HB3.out.setCell (by simpa using hg1) _⟩
                      · rw [hls]
                      · rw [HPA.out, Nat.mul_one]; exact HW.out.2
                      · rw [hls, hbs]; exact hst.1
                    case measure => simp [intOf] <;> omega
                  · have HPA := Lib.hid (HPT.out 0 (by omega))
                    have hbt := hbq.2 hbit
                    clear hbq hbit
                    generalize 2 ^ j = pj at *
                    go_quiet ((go_at_call 88; exact quiet_pure (HP2 _).out))
                    go_wp2
                    go_roundw
                    case rel =>
                      refine ⟨j + 1, n + 1, ys1, some ⟨g, 0, none⟩, c1, by omega, by go_num, by go_num, ?_, ⟨by have := HIN.out.1; omega, ?_⟩, ?_, below_drewN' HB2.out _⟩
                      · rw [HL.out]
                      · rw [HPA.out, Nat.mul_zero, Nat.add_zero]; exact bitsAt_none HOP.out
                      · rw [HL.out]; exact HO2.out
                    case measure => simp [intOf] <;> omega
              · obtain rfl : j = m := by omega
                have HNX : Hid (AheadR j zs (k + 1) n ys1) := by
                  refine ⟨?_, by rw [Nat.add_mul, Nat.one_mul]; exact HIN.out.1, ?_⟩
                  · intro y hy
                    rw [hts.out] at hy
                    rcases List.mem_append.1 hy with hy | hy
                    · exact HAT.out.1 y hy
                    · rw [List.mem_singleton.1 hy]
                      have e : ((pm : Nat) : Int) = 2 ^ j := HPM.out
                      omega
                  · have h1 := HIN.out.2
                    rw [partial_all _ _ _ HXM2.out] at h1
                    rw [hts.out]
                    have e : nats (zs.take k ++ [(x : Int)]) = nats (zs.take k) ++ [x] := by simp [nats]
                    rw [e]
                    exact h1
                go_wp2
                go_roundw
                case rel => exact ⟨k + 1, n, ys1, A1, c1, by omega, by go_num, rfl, rfl, HNX.out, HO1.out, HB1.out⟩
                case measure => simp [intOf] <;> omega
      · obtain rfl : k = zs.length := by omega
        have HE : Hid (putR zs m = (ys, 0)) := by
          obtain ⟨h1, h2, h3, h4⟩ := hat
          rw [List.take_length] at h1 h4
          unfold Hid
          rw [putR_yes ⟨hr0, hr1, by simpa using h1⟩, h4, Int.toNat_natCast]
          unfold packL
          rw [nats_length, h2]
        clear hat hown hbel
        go_wp2
        go_ret2
        rw [HE.out]
        exact ⟨A', c', rfl, HOW.out, HBL.out⟩
  · rw [putR_no fun hf => hr ⟨hf.1, hf.2.1⟩]
    by_cases hr0 : wd < 0
    · go_enter Tryz.func69, Tryz.ntmps69
      go_wp2
      go_ret2
      exact ⟨none, 0, rfl, World.ownsRow_nil .., Below.refl _ _⟩
    · have hr1 : 32 < wd := by omega
      go_enter Tryz.func69, Tryz.ntmps69
      go_wp2
      go_ret2
      exact ⟨none, 0, rfl, World.ownsRow_nil .., Below.refl _ _⟩
end Go.Proofs.YtmffpbhiehjlpaaGreat
