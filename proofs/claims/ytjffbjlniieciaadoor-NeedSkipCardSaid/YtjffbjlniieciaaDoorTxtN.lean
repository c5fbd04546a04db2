/-
  Lists of bytes and their points, in plain: all points, their bytes, where the k-th begins, parts, how points compare, folded bytes.
-/
import Derived.Test.YtjffbjlniieciaaDoorTxtM
namespace Go.Proofs.YtjffbjlniieciaaDoor
set_option linter.unusedSimpArgs false
set_option linter.unusedVariables false

/-- a byte's number, 0 behind the end -/
def byt (l : List UInt8) (k : Nat) : Nat := (l.getD k 0).toNat
theorem byt_lt (l : List UInt8) (k : Nat) : byt l k < 256 := UInt8.toNat_lt _
theorem byt_get {l : List UInt8} {k : Nat} (h : k < l.length) : byt l k = l[k].toNat := by simp [byt, List.getD, List.getElem?_eq_getElem h]
theorem byt_take {l : List UInt8} {k m : Nat} (h : k < m) : byt (l.take m) k = byt l k := by
  simp [byt, List.getD, List.getElem?_take, h]
/-- the first point, and how many bytes it has -/
def ptL (l : List UInt8) : Nat × Nat := ptN l.length (byt l 0) (byt l 1) (byt l 2) (byt l 3)
theorem ptL_pos (l : List UInt8) : 1 ≤ (ptL l).2 := (ptN_size _ _ _ _ _).1
theorem ptL_four (l : List UInt8) : (ptL l).2 ≤ 4 := (ptN_size _ _ _ _ _).2.1
theorem ptL_le {l : List UInt8} (h : l ≠ []) : (ptL l).2 ≤ l.length := (ptN_size _ _ _ _ _).2.2 (List.length_pos_iff.2 h)
theorem ptL_max (l : List UInt8) : (ptL l).1 ≤ 1114367 := ptN_le _ _ _ _ _ (byt_lt _ _)
theorem ptL_take {l : List UInt8} {m : Nat} (hm : m ≤ l.length) (hs : (ptL l).2 ≤ m) : ptL (l.take m) = ptL l := by
  have h1 := ptL_pos l
  unfold ptL at hs ⊢
  rw [List.length_take, Nat.min_eq_left hm, byt_take (by unfold ptL at h1; omega)]
  exact ptN_cut hm hs (fun h => byt_take h) (fun h => byt_take h) (fun h => byt_take h)
/-- what the model decodes there -/
theorem decode_ptL (s : ByteArray) (i : Nat) (hi : i < s.size) : Utf8.decode s i = if (ptL (s.data.toList.drop i)).1 ≤ 1114111 then ptL (s.data.toList.drop i) else (65533, 1) := by
  have hb : ∀ k, (s.get! (i + k)).toNat = byt (s.data.toList.drop i) k := fun k => by
    unfold byt
    congr 1
    rw [List.getD_eq_getElem?_getD, List.getElem?_drop]
    show s.data[i + k]! = _
    by_cases hk : i + k < s.data.size
    · rw [getElem!_pos s.data (i + k) hk, List.getElem?_eq_getElem (by simpa using hk)]
      simp
    · rw [getElem!_neg s.data (i + k) hk, List.getElem?_eq_none (by simpa using hk)]
      rfl
  have h0 := hb 0
  rw [Nat.add_zero] at h0
  rw [Lib.decode_at, h0, hb 1, hb 2, hb 3, decodeN_pt _ _ _ _ _ (byt_lt _ _) (byt_lt _ _) (byt_lt _ _) (byt_lt _ _)]
  have hl : (s.data.toList.drop i).length = s.size - i := by rw [List.length_drop, Array.length_toList]; rfl
  unfold ptL
  rw [hl]

theorem ofN {k : Nat} {x : UInt8} (h : k = x.toNat) : UInt8.ofNat k = x := by rw [h]; simp
/-- a point's bytes are those that it has -/
theorem enc_ptL : ∀ {l : List UInt8}, l ≠ [] → encL (ptL l).1 = l.take (ptL l).2
  | x :: r, _ => by
    have e0 : byt (x :: r) 0 = x.toNat := rfl
    have l0 := UInt8.toNat_lt x
    unfold ptL ptN tailN
    rw [e0]
    split
    · simp only [encL, if_pos ‹x.toNat < 128›, List.take_succ_cons, List.take_zero]
      rw [ofN rfl]
    · split
      · rename_i h1 h2
        obtain ⟨y, r, rfl⟩ : ∃ y t, r = y :: t := by
          cases r with
          | nil => simp at h2
          | cons y t => exact ⟨y, t, rfl⟩
        have e1 : byt (x :: y :: r) 1 = y.toNat := rfl
        rw [e1] at h2 ⊢
        simp only [encL]
        rw [if_neg (by omega), if_pos (by omega)]
        simp only [List.take_succ_cons, List.take_zero]
        rw [ofN (x := x) (by omega), ofN (x := y) (by omega)]
      · split
        · rename_i h1 h2 h3
          obtain ⟨y, z, r, rfl⟩ : ∃ y z t, r = y :: z :: t := by
            match r, h3 with
            | [], h3 => simp at h3
            | [_], h3 => simp at h3
            | y :: z :: t, _ => exact ⟨y, z, t, rfl⟩
          have e1 : byt (x :: y :: z :: r) 1 = y.toNat := rfl
          have e2 : byt (x :: y :: z :: r) 2 = z.toNat := rfl
          rw [e1, e2] at h3 ⊢
          simp only [encL]
          rw [if_neg (by omega), if_neg (by omega), if_pos (by omega)]
          simp only [List.take_succ_cons, List.take_zero]
          rw [ofN (x := x) (by omega), ofN (x := y) (by omega), ofN (x := z) (by omega)]
        · split
          · rename_i h1 h2 h3 h4
            obtain ⟨y, z, u, r, rfl⟩ : ∃ y z u t, r = y :: z :: u :: t := by
              match r, h4 with
              | [], h4 => simp at h4
              | [_], h4 => simp at h4
              | [_, _], h4 => simp at h4
              | y :: z :: u :: t, _ => exact ⟨y, z, u, t, rfl⟩
            have e1 : byt (x :: y :: z :: u :: r) 1 = y.toNat := rfl
            have e2 : byt (x :: y :: z :: u :: r) 2 = z.toNat := rfl
            have e3 : byt (x :: y :: z :: u :: r) 3 = u.toNat := rfl
            rw [e1, e2, e3] at h4 ⊢
            simp only [encL]
            rw [if_neg (by omega), if_neg (by omega), if_neg (by omega), if_pos (by omega)]
            simp only [List.take_succ_cons, List.take_zero]
            rw [ofN (x := x) (by omega), ofN (x := y) (by omega), ofN (x := z) (by omega), ofN (x := u) (by omega)]
          · simp only [encL]
            rw [if_neg (by omega), if_neg (by omega), if_neg (by omega), if_neg (by omega)]
            simp only [List.take_succ_cons, List.take_zero]
            rw [ofN (x := x) (by omega)]

def ptsF : Nat → List UInt8 → List Nat
  | 0, _ => []
  | f + 1, l => if l = [] then [] else (ptL l).1 :: ptsF f (l.drop (ptL l).2)
/-- all points -/
def ptsL (l : List UInt8) : List Nat := ptsF l.length l
theorem ptsF_nil : ∀ f, ptsF f [] = []
  | 0 => rfl
  | f + 1 => rfl
theorem ptsF_more : ∀ (f g : Nat) (l : List UInt8), l.length ≤ f → l.length ≤ g → ptsF f l = ptsF g l
  | f, g, [], _, _ => by rw [ptsF_nil, ptsF_nil]
  | 0, _, x :: r, h, _ => by simp at h
  | _, 0, x :: r, _, h => by simp at h
  | f + 1, g + 1, x :: r, hf, hg => by
    have h1 := ptL_pos (x :: r)
    unfold ptsF
    rw [if_neg (by simp), if_neg (by simp), ptsF_more f g _ (by rw [List.length_drop]; omega) (by rw [List.length_drop]; omega)]
theorem ptsL_nil : ptsL [] = [] := rfl
theorem ptsL_cons {l : List UInt8} (h : l ≠ []) : ptsL l = (ptL l).1 :: ptsL (l.drop (ptL l).2) := by
  have h1 := ptL_pos l
  have hp := List.length_pos_iff.2 h
  unfold ptsL
  obtain ⟨f, hf⟩ : ∃ f, l.length = f + 1 := ⟨l.length - 1, by omega⟩
  rw [hf]
  show (if l = [] then [] else _) = _
  rw [if_neg h, ptsF_more f _ _ (by rw [List.length_drop]; omega) (Nat.le_refl _)]
/-- by whole points -/
theorem pts_ind {P : List UInt8 → Prop} (h0 : P []) (h1 : ∀ l, l ≠ [] → P (l.drop (ptL l).2) → P l) : ∀ l, P l := by
  have key : ∀ (n : Nat) (l : List UInt8), l.length ≤ n → P l := by
    intro n
    induction n with
    | zero =>
      intro l hl
      have he : l = [] := List.eq_nil_of_length_eq_zero (by omega)
      rw [he]
      exact h0
    | succ n ih =>
      intro l hl
      by_cases he : l = []
      · rw [he]; exact h0
      · exact h1 l he (ih _ (by have := ptL_pos l; rw [List.length_drop]; omega))
  exact fun l => key l.length l (Nat.le_refl _)
/-- the bytes of points, one behind the other -/
def bytL (ps : List Nat) : List UInt8 := ps.flatMap encL
theorem byt_pts : ∀ l, bytL (ptsL l) = l := pts_ind (P := fun l => bytL (ptsL l) = l) rfl fun l h ih => by
  rw [ptsL_cons h]
  show encL _ ++ bytL _ = l
  rw [ih, enc_ptL h, List.take_append_drop]
theorem pts_inj {a b : List UInt8} (h : ptsL a = ptsL b) : a = b := by rw [← byt_pts a, ← byt_pts b, h]
theorem pts_le : ∀ l, (ptsL l).length ≤ l.length := pts_ind (P := fun l => (ptsL l).length ≤ l.length) (Nat.le_refl _) fun l h ih => by
  have h1 := ptL_pos l
  have h2 := ptL_le h
  rw [ptsL_cons h, List.length_cons]
  rw [List.length_drop] at ih
  omega
/-- where the k-th point begins -/
def offL : Nat → List UInt8 → Nat
  | 0, _ => 0
  | k + 1, l => if l = [] then 0 else (ptL l).2 + offL k (l.drop (ptL l).2)
theorem off_nil : ∀ k, offL k [] = 0
  | 0 => rfl
  | k + 1 => rfl
theorem off_succ {l : List UInt8} (h : l ≠ []) (k : Nat) : offL (k + 1) l = (ptL l).2 + offL k (l.drop (ptL l).2) := by
  show (if l = [] then 0 else _) = _
  rw [if_neg h]
theorem off_le : ∀ (k : Nat) (l : List UInt8), offL k l ≤ l.length
  | 0, l => Nat.zero_le _
  | k + 1, l => by
    by_cases h : l = []
    · rw [h, off_nil]; exact Nat.le_refl _
    · have h1 := off_le k (l.drop (ptL l).2)
      have h2 := ptL_le h
      rw [List.length_drop] at h1
      rw [off_succ h]
      omega
theorem pts_drop : ∀ (k : Nat) (l : List UInt8), ptsL (l.drop (offL k l)) = (ptsL l).drop k
  | 0, l => rfl
  | k + 1, l => by
    by_cases h : l = []
    · rw [h, off_nil]; rfl
    · rw [off_succ h, ← List.drop_drop, pts_drop k, ptsL_cons h, List.drop_succ_cons]
theorem pts_take : ∀ (k : Nat) (l : List UInt8), ptsL (l.take (offL k l)) = (ptsL l).take k
  | 0, l => rfl
  | k + 1, l => by
    by_cases h : l = []
    · rw [h, off_nil]; rfl
    · have h1 := ptL_pos l
      have h2 := ptL_le h
      have h3 := off_le (k + 1) l
      have hs := off_succ h k
      have hne : l.take (offL (k + 1) l) ≠ [] := fun e => by
        have hz : (l.take (offL (k + 1) l)).length = 0 := by rw [e]; rfl
        rw [List.length_take] at hz
        omega
      have hp : ptL (l.take (offL (k + 1) l)) = ptL l := ptL_take h3 (by omega)
      rw [ptsL_cons hne, hp, ptsL_cons h, List.take_succ_cons]
      congr 1
      rw [← pts_take k, List.drop_take]
      congr 2
      omega
theorem off_all : ∀ (k : Nat) (l : List UInt8), (ptsL l).length ≤ k → offL k l = l.length
  | 0, l, h => by
    by_cases he : l = []
    · rw [he]; rfl
    · rw [ptsL_cons he] at h; simp at h
  | k + 1, l, h => by
    by_cases he : l = []
    · rw [he]; rfl
    · have h2 := ptL_le he
      rw [ptsL_cons he, List.length_cons] at h
      rw [off_succ he, off_all k _ (by omega), List.length_drop]
      omega
theorem off_add : ∀ (j k : Nat) (l : List UInt8), offL (j + k) l = offL j l + offL k (l.drop (offL j l))
  | 0, k, l => by rw [Nat.zero_add]; show _ = 0 + _; rw [Nat.zero_add]; rfl
  | j + 1, k, l => by
    by_cases h : l = []
    · rw [h, off_nil, off_nil, List.drop_nil, off_nil]
    · rw [show j + 1 + k = (j + k) + 1 by omega, off_succ h, off_succ h, off_add j k, List.drop_drop, Nat.add_assoc]
/-- at most n points from the k-th on -/
def subL (l : List UInt8) (k n : Nat) : List UInt8 := (l.drop (offL k l)).take (offL n (l.drop (offL k l)))
theorem sub_start (l : List UInt8) (n : Nat) : subL l 0 n = l.take (offL n l) := rfl
theorem sub_rest {l : List UInt8} {k n : Nat} (h : l.length ≤ n) : subL l k n = l.drop (offL k l) := by
  unfold subL
  rw [off_all n _ (by have := pts_le (l.drop (offL k l)); rw [List.length_drop] at this; omega), List.take_length]
theorem sub_parts (l : List UInt8) (k : Nat) {n : Nat} (h : l.length ≤ n) : subL l 0 k ++ subL l k n = l := by
  rw [sub_start, sub_rest h, List.take_append_drop]
theorem pts_sub (l : List UInt8) (k n : Nat) : ptsL (subL l k n) = ((ptsL l).drop k).take n := by
  unfold subL
  rw [pts_take, pts_drop]

/-- how lists of numbers compare, one by one, the shorter first -/
def cmpP : List Nat → List Nat → Int
  | [], [] => 0
  | [], _ :: _ => -1
  | _ :: _, [] => 1
  | x :: a, y :: b => if x < y then -1 else if y < x then 1 else cmpP a b
theorem cmpP_same : ∀ a, cmpP a a = 0
  | [] => rfl
  | x :: a => by simp [cmpP, cmpP_same a]
theorem cmpP_zero : ∀ {a b : List Nat}, cmpP a b = 0 → a = b
  | [], [], _ => rfl
  | [], _ :: _, h => by simp [cmpP] at h
  | _ :: _, [], h => by simp [cmpP] at h
  | x :: a, y :: b, h => by
    unfold cmpP at h
    split at h
    · cases h
    · split at h
      · cases h
      · obtain rfl : x = y := by omega
        rw [cmpP_zero h]
theorem cmpP_turn : ∀ (a b : List Nat), cmpP b a = - cmpP a b
  | [], [] => rfl
  | [], _ :: _ => rfl
  | _ :: _, [] => rfl
  | x :: a, y :: b => by
    unfold cmpP
    by_cases h1 : x < y
    · rw [if_pos h1, if_neg (by omega), if_pos h1]; rfl
    · by_cases h2 : y < x
      · rw [if_pos h2, if_neg h1, if_pos h2]
      · rw [if_neg h1, if_neg h2, if_neg h2, if_neg h1, cmpP_turn a b]
theorem cmpP_trans : ∀ {a b c : List Nat}, cmpP a b ≤ 0 → cmpP b c ≤ 0 → cmpP a c ≤ 0
  | [], _, [], _, _ => by simp [cmpP]
  | [], _, _ :: _, _, _ => by simp [cmpP]
  | _ :: _, [], _, h, _ => by simp [cmpP] at h
  | _ :: _, _ :: _, [], _, h => by simp [cmpP] at h
  | x :: a, y :: b, z :: c, h1, h2 => by
    unfold cmpP at h1 h2 ⊢
    by_cases e1 : x < y
    · by_cases e2 : y < z
      · rw [if_pos (by omega)]; omega
      · rw [if_neg e2] at h2
        by_cases e3 : z < y
        · rw [if_pos e3] at h2; omega
        · rw [if_pos (by omega)]; omega
    · rw [if_neg e1] at h1
      by_cases e4 : y < x
      · rw [if_pos e4] at h1; omega
      · rw [if_neg e4] at h1
        obtain rfl : x = y := by omega
        by_cases e2 : x < z
        · rw [if_pos e2]; omega
        · rw [if_neg e2] at h2 ⊢
          by_cases e3 : z < x
          · rw [if_pos e3] at h2; omega
          · rw [if_neg e3] at h2 ⊢
            exact cmpP_trans h1 h2
/-- the first k are alike, the next aren't -/
theorem cmpP_drop : ∀ {k : Nat} {a b : List Nat}, a.take k = b.take k → cmpP (a.drop k) (b.drop k) = cmpP a b
  | 0, a, b, _ => rfl
  | k + 1, [], [], _ => rfl
  | k + 1, [], _ :: _, h => by simp at h
  | k + 1, _ :: _, [], h => by simp at h
  | k + 1, x :: a, y :: b, h => by
    simp only [List.take_succ_cons, List.cons.injEq] at h
    obtain ⟨rfl, h⟩ := h
    rw [List.drop_succ_cons, List.drop_succ_cons, cmpP_drop h]
    simp [cmpP]
theorem cmpP_at {k : Nat} {a b : List Nat} (h : a.take k = b.take k) (ha : k < a.length) (hb : k < b.length) (hne : a[k] ≠ b[k]) : cmpP a b = if a[k] < b[k] then -1 else 1 := by
  rw [← cmpP_drop h, List.drop_eq_getElem_cons ha, List.drop_eq_getElem_cons hb]
  unfold cmpP
  by_cases h1 : a[k] < b[k]
  · rw [if_pos h1, if_pos h1]
  · rw [if_neg h1, if_neg h1, if_pos (by omega)]
theorem cmpP_end {k : Nat} {a b : List Nat} (h : a.take k = b.take k) (hk : k = min a.length b.length) : cmpP a b = if a.length < b.length then -1 else if b.length < a.length then 1 else 0 := by
  rw [← cmpP_drop h]
  subst hk
  rcases Nat.lt_trichotomy a.length b.length with h1 | h1 | h1
  · rw [if_pos h1, Nat.min_eq_left (by omega), List.drop_length, List.drop_eq_getElem_cons h1]
    rfl
  · rw [if_neg (by omega), if_neg (by omega), Nat.min_eq_left (by omega), List.drop_length, List.drop_eq_nil_of_le (by omega)]
    rfl
  · rw [if_neg (by omega), if_pos h1, Nat.min_eq_right (by omega), List.drop_length, List.drop_eq_getElem_cons h1]
    rfl
theorem cmpP_pts {a b : List UInt8} : cmpP (ptsL a) (ptsL b) = 0 ↔ a = b := ⟨fun h => pts_inj (cmpP_zero h), fun h => by rw [h, cmpP_same]⟩

/-- a folded byte -/
def foldB (c : UInt8) : UInt8 := if 65 ≤ c.toNat ∧ c.toNat ≤ 90 then UInt8.ofNat (c.toNat + 32) else c
def foldL (l : List UInt8) : List UInt8 := l.map foldB
theorem foldB_nat (c : UInt8) : (foldB c).toNat = if 65 ≤ c.toNat ∧ c.toNat ≤ 90 then c.toNat + 32 else c.toNat := by
  have := UInt8.toNat_lt c
  unfold foldB
  split
  · rw [UInt8.toNat_ofNat']; omega
  · rfl
theorem foldB_twice (c : UInt8) : foldB (foldB c) = foldB c := by
  apply UInt8.toNat_inj.1
  rw [foldB_nat, foldB_nat]
  by_cases h : 65 ≤ c.toNat ∧ c.toNat ≤ 90
  · rw [if_pos h, if_neg (by omega)]
  · rw [if_neg h, if_neg h]
theorem foldL_twice (l : List UInt8) : foldL (foldL l) = foldL l := by
  unfold foldL
  rw [List.map_map]
  congr 1
  funext c
  exact foldB_twice c
theorem foldL_length (l : List UInt8) : (foldL l).length = l.length := by simp [foldL]
end Go.Proofs.YtjffbjlniieciaaDoor
