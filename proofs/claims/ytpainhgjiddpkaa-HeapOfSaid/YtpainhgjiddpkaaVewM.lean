/-
  Views in plain: a number's four bytes and back; the views of short and of long strings; what a view says.
-/
import Derived.Test.YtpainhgjiddpkaaMem
namespace Go.Proofs.Ytpainhgjiddpkaa
set_option linter.unusedSimpArgs false
set_option linter.unusedVariables false

/-- a number's four bytes, the lowest first -/
def le4 (n : Nat) : List UInt8 := [UInt8.ofNat n, UInt8.ofNat (n / 256), UInt8.ofNat (n / 65536), UInt8.ofNat (n / 16777216)]
/-- the number of bytes, the lowest first -/
def num : List UInt8 → Nat
  | [] => 0
  | x :: r => x.toNat + 256 * num r
theorem le4_length (n : Nat) : (le4 n).length = 4 := rfl
theorem num_le4 {n : Nat} (h : n < 4294967296) : num (le4 n) = n := by
  simp only [le4, num, UInt8.toNat_ofNat']
  omega
theorem le4_num : ∀ {l : List UInt8}, l.length = 4 → le4 (num l) = l
  | [a, b, c, d], _ => by
    have ha := UInt8.toNat_lt a
    have hb := UInt8.toNat_lt b
    have hc := UInt8.toNat_lt c
    have hd := UInt8.toNat_lt d
    simp only [le4, num, List.cons.injEq, and_true]
    refine ⟨?_, ?_, ?_, ?_⟩ <;> (apply UInt8.toNat_inj.1; rw [UInt8.toNat_ofNat']; omega)
theorem num_append : ∀ (l r : List UInt8), num (l ++ r) = num l + 256 ^ l.length * num r
  | [], r => by simp [num]
  | x :: l, r => by
    simp only [List.cons_append, num, num_append l r, List.length_cons, Nat.pow_succ, Nat.mul_add]
    rw [Nat.mul_comm (256 ^ l.length) 256, Nat.mul_assoc]
    omega
theorem num_lt : ∀ (l : List UInt8), num l < 256 ^ l.length
  | [] => by simp [num]
  | x :: l => by
    have := num_lt l
    have hx := UInt8.toNat_lt x
    simp only [num, List.length_cons, Nat.pow_succ]
    omega
theorem num_take {l : List UInt8} {k : Nat} (hk : k < l.length) : num (l.take (k + 1)) = num (l.take k) + 256 ^ k * l[k].toNat := by
  rw [List.take_succ_eq_append_getElem hk, num_append, List.length_take, Nat.min_eq_left (by omega)]
  simp [num]
theorem num_four {l : List UInt8} (h : l.length ≤ 4) : num l < 4294967296 := by
  have := num_lt l
  have h2 : 256 ^ l.length ≤ 256 ^ 4 := Nat.pow_le_pow_right (by omega) h
  omega

/-- the view of a short string -/
def shortL (s : List UInt8) : List UInt8 := le4 s.length ++ s ++ List.replicate (12 - s.length) 0
/-- the view of a long one -/
def longL (s : List UInt8) (b p : Nat) : List UInt8 := le4 s.length ++ s.take 4 ++ le4 b ++ le4 p
theorem shortL_length {s : List UInt8} (h : s.length ≤ 12) : (shortL s).length = 16 := by
  simp [shortL, le4_length]; omega
theorem longL_length {s : List UInt8} (h : 4 ≤ s.length) (b p : Nat) : (longL s b p).length = 16 := by
  simp [longL, le4_length]; omega

/-- the length that stands in a view -/
def lenV (l : List UInt8) : Nat := num (l.take 4)
def textV (l : List UInt8) : List UInt8 := if lenV l ≤ 12 then (l.drop 4).take (lenV l) else []
def prefV (l : List UInt8) : List UInt8 := (l.drop 4).take (min 4 (lenV l))
/-- the number that stands in four bytes from a place on -/
def numAt (l : List UInt8) (off : Nat) : Nat := num ((l.drop off).take 4)
theorem numAt_lt (l : List UInt8) (off : Nat) : numAt l off < 4294967296 := num_four (by rw [List.length_take]; omega)
def bufV (l : List UInt8) : Nat := if lenV l ≤ 12 then 0 else numAt l 8
def atV (l : List UInt8) : Nat := if lenV l ≤ 12 then 0 else numAt l 12
def rightV (l : List UInt8) : Bool := if lenV l ≤ 12 then decide (l = shortL (textV l)) else decide (lenV l ≤ 4096 ∧ bufV l ≤ 65535 ∧ atV l ≤ 65536)
theorem lenV_lt (l : List UInt8) : lenV l < 4294967296 := num_four (by rw [List.length_take]; omega)
theorem textV_length {l : List UInt8} (h : l.length = 16) : (textV l).length ≤ 12 := by
  unfold textV
  split
  · rw [List.length_take]; omega
  · simp
theorem prefV_length {l : List UInt8} : (prefV l).length ≤ 4 := by
  unfold prefV
  rw [List.length_take]; omega

/-- a long one may be told to stand there -/
def mayL (b p : Int) : Prop := 0 ≤ b ∧ b ≤ 65535 ∧ 0 ≤ p ∧ p ≤ 65536
instance (b p : Int) : Decidable (mayL b p) := by unfold mayL; infer_instance
/-- what Make answers: a view, and an error -/
def makeV (s : List UInt8) (b p : Int) : List UInt8 × Int :=
  if s.length ≤ 12 then (shortL s, 0) else if s.length ≤ 4096 ∧ mayL b p then (longL s b.toNat p.toNat, 0) else (List.replicate 16 0, 1)
theorem makeV_length (s : List UInt8) (b p : Int) : (makeV s b p).1.length = 16 := by
  unfold makeV
  split
  · exact shortL_length (by assumption)
  · split
    · exact longL_length (by omega) _ _
    · simp

section
variable {s : List UInt8}
theorem lenV_short (h : s.length ≤ 12) : lenV (shortL s) = s.length := by
  unfold lenV shortL
  rw [List.append_assoc, List.take_left' (le4_length _), num_le4 (by omega)]
theorem textV_short (h : s.length ≤ 12) : textV (shortL s) = s := by
  unfold textV
  rw [if_pos (by rw [lenV_short h]; exact h), lenV_short h]
  unfold shortL
  rw [List.append_assoc, List.drop_left' (le4_length _), List.take_left' rfl]
theorem prefV_short (h : s.length ≤ 12) : prefV (shortL s) = s.take 4 := by
  unfold prefV
  rw [lenV_short h]
  unfold shortL
  rw [List.append_assoc, List.drop_left' (le4_length _), List.take_append_of_le_length (by omega)]
  rcases Nat.le_total s.length 4 with h4 | h4
  · rw [Nat.min_eq_right h4, List.take_of_length_le (Nat.le_refl _), List.take_of_length_le h4]
  · rw [Nat.min_eq_left h4]
theorem rightV_short (h : s.length ≤ 12) : rightV (shortL s) = true := by
  unfold rightV
  rw [if_pos (by rw [lenV_short h]; exact h), textV_short h]
  simp
variable {b p : Nat}
theorem lenV_long (h : s.length ≤ 4096) : lenV (longL s b p) = s.length := by
  unfold lenV longL
  rw [List.append_assoc, List.append_assoc, List.take_left' (le4_length _), num_le4 (by omega)]
theorem prefV_long (h : 12 < s.length) (h2 : s.length ≤ 4096) : prefV (longL s b p) = s.take 4 := by
  unfold prefV
  rw [lenV_long h2, Nat.min_eq_left (by omega)]
  unfold longL
  rw [List.append_assoc, List.append_assoc, List.drop_left' (le4_length _), List.take_left' (by rw [List.length_take]; omega)]
theorem textV_long (h : 12 < s.length) (h2 : s.length ≤ 4096) : textV (longL s b p) = [] := by
  unfold textV
  rw [if_neg (by rw [lenV_long h2]; omega)]
theorem bufV_long (h : 12 < s.length) (h2 : s.length ≤ 4096) (hb : b ≤ 65535) : bufV (longL s b p) = b := by
  unfold bufV
  rw [if_neg (by rw [lenV_long h2]; omega)]
  unfold numAt longL
  rw [List.append_assoc, List.drop_left' (by simp [le4_length]; omega), List.take_left' (le4_length _), num_le4 (by omega)]
theorem atV_long (h : 12 < s.length) (h2 : s.length ≤ 4096) (hp : p ≤ 65536) : atV (longL s b p) = p := by
  unfold atV
  rw [if_neg (by rw [lenV_long h2]; omega)]
  unfold numAt longL
  rw [List.drop_left' (by simp [le4_length]; omega), List.take_of_length_le (by simp [le4_length]), num_le4 (by omega)]
theorem rightV_long (h : 12 < s.length) (h2 : s.length ≤ 4096) (hb : b ≤ 65535) (hp : p ≤ 65536) : rightV (longL s b p) = true := by
  unfold rightV
  rw [if_neg (by rw [lenV_long h2]; omega), lenV_long h2, bufV_long h h2 hb, atV_long h h2 hp]
  simp; omega
end
theorem shortL_inj {a b : List UInt8} (ha : a.length ≤ 12) (hb : b.length ≤ 12) (h : shortL a = shortL b) : a = b := by
  rw [← textV_short ha, ← textV_short hb, h]

/-- bytes as a row of cells -/
def vb (l : List UInt8) : Array Value := (bv l).toArray
theorem vb_size (l : List UInt8) : (vb l).size = l.length := by simp [vb, bv]
theorem vb_toList (l : List UInt8) : (vb l).toList = bv l := by simp [vb]
theorem vb_get (l : List UInt8) (k : Nat) (h : k < l.length) : (vb l)[k]? = some (.int .u8 (l[k].toNat : Int)) := by
  unfold vb
  rw [List.getElem?_toArray]
  exact bv_get l k h
theorem vb_one (l : List UInt8) : (vb l).all (·.oneCell') = true := by
  rw [Array.all_eq_true']
  intro x hx
  exact bv_one l x (by simpa [vb] using hx)
theorem vb_set (l : List UInt8) (k : Nat) (x : UInt8) : (vb l).setIfInBounds k (.int .u8 (x.toNat : Int)) = vb (l.set k x) := by
  apply Array.ext'
  simp [vb, bv, List.map_set]
theorem bv_inj : ∀ {a b : List UInt8}, bv a = bv b → a = b
  | [], [], _ => rfl
  | [], y :: b, h => by simp [bv] at h
  | x :: a, [], h => by simp [bv] at h
  | x :: a, y :: b, h => by
    simp only [bv, List.map_cons, List.cons.injEq, Value.int.injEq, true_and] at h
    have h1 : x = y := UInt8.toNat_inj.1 (by omega)
    rw [h1, bv_inj h.2]

/-- bytes n written into l from place off on, the first k of them -/
def putK (l : List UInt8) (off n k : Nat) : List UInt8 := l.take off ++ (le4 n).take k ++ l.drop (off + k)
def putL (l : List UInt8) (off n : Nat) : List UInt8 := l.take off ++ le4 n ++ l.drop (off + 4)
theorem putK_zero (l : List UInt8) (off n : Nat) : putK l off n 0 = l := by simp [putK]
theorem putK_four (l : List UInt8) (off n : Nat) : putK l off n 4 = putL l off n := rfl
theorem putK_length {l : List UInt8} {off n k : Nat} (h : off + 4 ≤ l.length) (hk : k ≤ 4) : (putK l off n k).length = l.length := by
  simp [putK, le4_length]; omega
theorem le4_get {n k : Nat} (hk : k < 4) : (le4 n)[k]? = some (UInt8.ofNat (n / 2 ^ (8 * k))) := by
  match k, hk with
  | 0, _ => simp [le4]
  | 1, _ => simp [le4]
  | 2, _ => simp [le4]
  | 3, _ => simp [le4]
theorem putK_set {l : List UInt8} {off n k : Nat} (h : off + 4 ≤ l.length) (hk : k < 4) : (putK l off n k).set (off + k) (UInt8.ofNat (n / 2 ^ (8 * k))) = putK l off n (k + 1) := by
  apply List.ext_getElem?
  intro i
  have hg := le4_get (n := n) hk
  unfold putK
  rw [List.getElem?_set]
  have e1 : (l.take off ++ (le4 n).take k ++ l.drop (off + k)).length = l.length := putK_length h (by omega)
  by_cases hi : off + k = i
  · subst hi
    rw [if_pos rfl, if_pos (by rw [e1]; omega)]
    rw [List.getElem?_append_left (by simp [le4_length]; omega), List.getElem?_append_right (by simp; omega)]
    rw [List.length_take, Nat.min_eq_left (by omega), show off + k - off = k by omega, List.getElem?_take, if_pos (by omega), hg]
  · rw [if_neg hi]
    by_cases h1 : i < off
    · rw [List.getElem?_append_left (by simp [le4_length]; omega), List.getElem?_append_left (by simp; omega), List.getElem?_append_left (by simp [le4_length]; omega), List.getElem?_append_left (by simp; omega)]
    · by_cases h2 : i < off + k
      · rw [List.getElem?_append_left (by simp [le4_length]; omega), List.getElem?_append_right (by simp; omega), List.getElem?_append_left (by simp [le4_length]; omega), List.getElem?_append_right (by simp; omega)]
        rw [List.getElem?_take, List.getElem?_take, if_pos (by simp; omega), if_pos (by simp; omega)]
      · rw [List.getElem?_append_right (by simp [le4_length]; omega), List.getElem?_append_right (by simp [le4_length]; omega)]
        simp only [List.length_append, List.length_take, le4_length, List.getElem?_drop]
        congr 1
        omega

theorem putL_length {l : List UInt8} {off n : Nat} (h : off + 4 ≤ l.length) : (putL l off n).length = l.length := by
  simp [putL, le4_length]; omega
theorem short_make {s : List UInt8} (h : s.length ≤ 12) :
    (putL (List.replicate 16 0) 0 s.length).take 4 ++ s.take 12 ++ (putL (List.replicate 16 0) 0 s.length).drop (4 + Nat.min s.length 12) = shortL s := by
  have e : putL (List.replicate 16 0) 0 s.length = le4 s.length ++ List.replicate 12 0 := rfl
  rw [e, List.take_left' (le4_length _), List.take_of_length_le h, show Nat.min s.length 12 = s.length from Nat.min_eq_left h]
  rw [List.drop_append, le4_length, List.drop_eq_nil_of_le (by rw [le4_length]; omega), List.nil_append, show 4 + s.length - 4 = s.length by omega, List.drop_replicate]
  rfl
theorem four_of : ∀ {x : List UInt8}, x.length = 4 → ∃ a b c d, x = [a, b, c, d]
  | [a, b, c, d], _ => ⟨a, b, c, d, rfl⟩
theorem long_make {s : List UInt8} (h : 12 < s.length) (b p : Nat) :
    putL (putL ((putL (List.replicate 16 0) 0 s.length).take 4 ++ s.take 4 ++ (putL (List.replicate 16 0) 0 s.length).drop (4 + Nat.min s.length 4)) 8 b) 12 p = longL s b p := by
  obtain ⟨x, y, z, u, e4⟩ := four_of (x := s.take 4) (by rw [List.length_take]; omega)
  unfold longL
  rw [show Nat.min s.length 4 = 4 from Nat.min_eq_right (by omega), e4]
  rfl

end Go.Proofs.Ytpainhgjiddpkaa
