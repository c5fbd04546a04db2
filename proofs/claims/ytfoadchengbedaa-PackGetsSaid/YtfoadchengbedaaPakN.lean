/-
  Widths of numbers in plain; lists of whole numbers as cells. No program is named here.
-/
import Derived.Test.YtfoadchengbedaaPakM
import Derived.Shelf.Small.Bits
import Derived.Lib.ItoaNum
namespace Go.Proofs.Ytfoadchengbedaa
set_option linter.unusedSimpArgs false
set_option linter.unusedVariables false

/-- whole numbers as the values of their cells -/
def iv (l : List Int) : List Value := l.map fun z => .int .i64 z
theorem iv_length (l : List Int) : (iv l).length = l.length := by simp [iv]
theorem iv_append (a b : List Int) : iv (a ++ b) = iv a ++ iv b := by simp [iv]
theorem iv_take (l : List Int) (k : Nat) : iv (l.take k) = (iv l).take k := by simp [iv, List.map_take]
theorem iv_get (l : List Int) (k : Nat) (h : k < l.length) : (iv l)[k]? = some (.int .i64 l[k]) := by
  simp [iv, List.getElem?_eq_getElem h]
theorem iv_one (l : List Int) : ∀ u ∈ iv l, u.oneCell' = true := by
  intro u hu
  obtain ⟨c, _, rfl⟩ := List.mem_map.1 hu
  rfl
/-- the cell of a number that is read -/
theorem Rd.num {w : World} {lo hi c : Nat} {A : Option Addr} {zs : List Int} (h : Rd w lo hi A c (iv zs)) {k : Nat} (hk : k < zs.length) :
    ∃ b off, A = some ⟨b, off, none⟩ ∧ lo ≤ b ∧ b < hi ∧ w.cell? ⟨b, off + k, none⟩ = some (.int .i64 zs[k]) := by
  obtain ⟨b, off, e, h1, h2, h3⟩ := h.at_ (by rw [iv_length]; omega)
  exact ⟨b, off, e, h1, h2, h3 k _ (iv_get zs k hk)⟩

theorem len_bounds (x : Nat) (hx : x < 2 ^ 64) (h0 : x ≠ 0) : 1 ≤ Lib.bitLen x ∧ 2 ^ (Lib.bitLen x - 1) ≤ x ∧ x < 2 ^ Lib.bitLen x := Lib.bitLenAux_bounds 64 x hx h0
theorem len_zero : Lib.bitLen 0 = 0 := Lib.bitLenAux_zero 64
theorem len_lt (x : Nat) (hx : x < 2 ^ 64) : x < 2 ^ Lib.bitLen x := by
  by_cases h0 : x = 0
  · subst h0; exact Nat.two_pow_pos _
  · exact (len_bounds x hx h0).2.2
theorem len_iff (x w : Nat) (hx : x < 2 ^ 64) : 2 ^ w ≤ x ↔ w < Lib.bitLen x := by
  constructor
  · intro h
    rcases Nat.lt_or_ge w (Lib.bitLen x) with h1 | h1
    · exact h1
    · have h2 := len_lt x hx
      have h3 : 2 ^ Lib.bitLen x ≤ 2 ^ w := Nat.pow_le_pow_right (by omega) h1
      omega
  · intro h
    have h0 : x ≠ 0 := by rintro rfl; rw [len_zero] at h; omega
    have h1 := (len_bounds x hx h0).2.1
    exact Nat.le_trans (Nat.pow_le_pow_right (by omega) (by omega)) h1
theorem len_max (a b : Nat) (ha : a < 2 ^ 64) (hb : b < 2 ^ 64) : Lib.bitLen (max a b) = max (Lib.bitLen a) (Lib.bitLen b) := by
  have mono : ∀ a b : Nat, a < 2 ^ 64 → b < 2 ^ 64 → a ≤ b → Lib.bitLen a ≤ Lib.bitLen b := by
    intro a b ha hb h
    rcases Nat.lt_or_ge (Lib.bitLen b) (Lib.bitLen a) with h1 | h1
    · have h2 := (len_iff a _ ha).2 h1
      have h3 := len_lt b hb
      omega
    · exact h1
  rcases Nat.le_total a b with h | h
  · rw [Nat.max_eq_right h, Nat.max_eq_right (mono a b ha hb h)]
  · rw [Nat.max_eq_left h, Nat.max_eq_left (mono b a hb ha h)]

/-- the greatest of the numbers, and 0 -/
def grt (zs : List Int) : Int := zs.foldl max 0
theorem grt_snoc (zs : List Int) (z : Int) : grt (zs ++ [z]) = max (grt zs) z := by simp [grt]
theorem grt_take (zs : List Int) (k : Nat) (h : k < zs.length) : grt (zs.take (k + 1)) = max (grt (zs.take k)) zs[k] := by
  rw [List.take_succ_eq_append_getElem h, grt_snoc]
theorem foldl_max (zs : List Int) : ∀ a : Int, a ≤ zs.foldl max a ∧ ∀ z ∈ zs, z ≤ zs.foldl max a := by
  induction zs with
  | nil => intro a; exact ⟨Int.le_refl _, by simp⟩
  | cons y r ih =>
    intro a
    obtain ⟨h1, h2⟩ := ih (max a y)
    refine ⟨by simp only [List.foldl_cons]; omega, fun z hz => ?_⟩
    simp only [List.foldl_cons]
    rcases List.mem_cons.1 hz with rfl | hz
    · omega
    · exact h2 z hz
theorem grt_ge (zs : List Int) : 0 ≤ grt zs := (foldl_max zs 0).1
theorem grt_all (zs : List Int) : ∀ z ∈ zs, z ≤ grt zs := (foldl_max zs 0).2
theorem foldl_max_le (zs : List Int) (m : Int) (h : ∀ z ∈ zs, z ≤ m) : ∀ a : Int, a ≤ m → zs.foldl max a ≤ m := by
  induction zs with
  | nil => intro a ha; exact ha
  | cons y r ih =>
    intro a ha
    simp only [List.foldl_cons]
    exact ih (fun z hz => h z (by simp [hz])) _ (by have := h y (by simp); omega)
theorem grt_le (zs : List Int) (m : Int) (hm : 0 ≤ m) (h : ∀ z ∈ zs, z ≤ m) : grt zs ≤ m := foldl_max_le zs m h 0 hm

/-- the least width of the numbers -/
def wide (zs : List Int) : Nat := Lib.bitLen (grt zs).toNat
theorem wide_nil : wide [] = 0 := len_zero
def Word (zs : List Int) : Prop := ∀ z ∈ zs, -9223372036854775808 ≤ z ∧ z ≤ 9223372036854775807
theorem word_grt {zs : List Int} (h : Word zs) : grt zs ≤ 9223372036854775807 := grt_le zs _ (by omega) fun z hz => (h z hz).2
theorem Word.take {zs : List Int} (h : Word zs) (k : Nat) : Word (zs.take k) := fun z hz => h z (List.mem_of_mem_take hz)
theorem wide_le (zs : List Int) (m : Nat) (hm : m ≤ 64) (h : ∀ z ∈ zs, z < 2 ^ m) : wide zs ≤ m := by
  refine Lib.bitLen_le _ m hm ?_
  have hp : (0 : Int) < 2 ^ m := Int.pow_pos (by omega)
  have h1 := grt_le zs (2 ^ m - 1) (by omega) (fun z hz => by have := h z hz; omega)
  have e : ((2 ^ m : Nat) : Int) = 2 ^ m := by norm_cast
  omega
theorem wide_lt {zs : List Int} (hw : Word zs) : ∀ z ∈ zs, z < 2 ^ wide zs := by
  intro z hz
  have h1 := grt_all zs z hz
  have h2 := word_grt hw
  have h3 := len_lt (grt zs).toNat (by omega)
  have e : ((2 ^ wide zs : Nat) : Int) = 2 ^ wide zs := by norm_cast
  unfold wide at e ⊢
  have := grt_ge zs
  omega
theorem wide_take {zs : List Int} (hw : Word zs) (k : Nat) (h : k < zs.length) : wide (zs.take (k + 1)) = max (wide (zs.take k)) (Lib.bitLen zs[k].toNat) := by
  have h1 := word_grt (hw.take k)
  have h2 := (hw _ (List.getElem_mem h)).2
  unfold wide
  rw [grt_take zs k h, show (max (grt (zs.take k)) zs[k]).toNat = max (grt (zs.take k)).toNat zs[k].toNat from by omega, len_max _ _ (by omega) (by omega)]

/-- whether numbers may have that width, and fit it -/
def Fits (zs : List Int) (wd : Int) : Prop := 0 ≤ wd ∧ wd ≤ 32 ∧ ∀ z ∈ zs, 0 ≤ z ∧ z < 2 ^ wd.toNat
instance (zs : List Int) (wd : Int) : Decidable (Fits zs wd) := by unfold Fits; infer_instance
def fitB (zs : List Int) (wd : Int) : Bool := decide (Fits zs wd)
def rightB (wd : Int) : Bool := decide (0 ≤ wd ∧ wd ≤ 32)
/-- whether numbers are from 0 to 2^32 - 1 -/
def May (zs : List Int) : Prop := ∀ z ∈ zs, 0 ≤ z ∧ z ≤ 4294967295
instance (zs : List Int) : Decidable (May zs) := by unfold May; infer_instance
def mayB (zs : List Int) : Bool := decide (May zs)
theorem May.word {zs : List Int} (h : May zs) : Word zs := fun z hz => by have := h z hz; omega
theorem May.wide_le {zs : List Int} (h : May zs) : wide zs ≤ 32 := Go.Proofs.Ytfoadchengbedaa.wide_le zs 32 (by omega) fun z hz => by have := h z hz; omega
theorem May.fits {zs : List Int} (h : May zs) : Fits zs (wide zs : Int) :=
  ⟨by omega, by have := h.wide_le; omega, fun z hz => ⟨(h z hz).1, by rw [Int.toNat_natCast]; exact wide_lt h.word z hz⟩⟩
theorem Fits.may {zs : List Int} {wd : Int} (h : Fits zs wd) : May zs := fun z hz => by
  obtain ⟨h1, h2, h3⟩ := h
  have hz := h3 z hz
  have : (2 : Nat) ^ wd.toNat ≤ 2 ^ 32 := Nat.pow_le_pow_right (by omega) (by omega)
  have e : ((2 ^ wd.toNat : Nat) : Int) = 2 ^ wd.toNat := by norm_cast
  omega

/-- whole numbers as natural ones -/
def nats (zs : List Int) : List Nat := zs.map Int.toNat
theorem nats_length (zs : List Int) : (nats zs).length = zs.length := by simp [nats]
theorem nats_take (zs : List Int) (k : Nat) : nats (zs.take k) = (nats zs).take k := by simp [nats, List.map_take]
theorem Fits.nats_lt {zs : List Int} {wd : Int} (h : Fits zs wd) : ∀ x ∈ nats zs, x < 2 ^ wd.toNat := by
  intro x hx
  obtain ⟨z, hz, rfl⟩ := List.mem_map.1 hx
  have := h.2.2 z hz
  have e : ((2 ^ wd.toNat : Nat) : Int) = 2 ^ wd.toNat := by norm_cast
  omega
/-- natural numbers as whole ones -/
def ints (ns : List Nat) : List Int := ns.map fun n : Nat => (n : Int)
theorem ints_length (ns : List Nat) : (ints ns).length = ns.length := by simp [ints]
theorem nats_ints (ns : List Nat) : nats (ints ns) = ns := by
  unfold nats ints
  rw [List.map_map]
  conv => rhs; rw [← List.map_id ns]
  exact List.map_congr_left fun n _ => by simp
theorem ints_nats {zs : List Int} (h : ∀ z ∈ zs, 0 ≤ z) : ints (nats zs) = zs := by
  unfold nats ints
  rw [List.map_map]
  conv => rhs; rw [← List.map_id zs]
  exact List.map_congr_left fun z hz => by have := h z hz; simp; omega

/-- what Put answers -/
def putR (zs : List Int) (wd : Int) : List UInt8 × Int := if Fits zs wd then (packL wd.toNat (nats zs), 0) else ([], 1)
theorem putR_yes {zs : List Int} {wd : Int} (h : Fits zs wd) : putR zs wd = (packL wd.toNat (nats zs), 0) := if_pos h
theorem putR_no {zs : List Int} {wd : Int} (h : ¬ Fits zs wd) : putR zs wd = ([], 1) := if_neg h
end Go.Proofs.Ytfoadchengbedaa
