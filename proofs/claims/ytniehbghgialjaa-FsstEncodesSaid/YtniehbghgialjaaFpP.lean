/-
  What the program's fsst goes through, in plain: pieces (what a code or an escape stands for, with its error), what is decoded of pieces, how many there are ahead of the first error.
-/
import Derived.Test.YtniehbghgialjaaFsD
namespace Go.Proofs.Ytniehbghgialjaa
set_option linter.unusedSimpArgs false
set_option linter.unusedVariables false

/-- a piece: a string of at most eight bytes, and an error -/
structure Pc where
  s : ByteArray
  e : Nat
  h : s.size ≤ 8
def Pc.lit (y : UInt8) : Pc := ⟨⟨#[y]⟩, 0, by show 1 ≤ 8; decide⟩
def Pc.err (k : Nat) : Pc := ⟨⟨#[]⟩, k, by show 0 ≤ 8; decide⟩

section
variable (l : List ByteArray) (h8 : ∀ t ∈ l, t.size ≤ 8)
/-- the pieces of bytes, an escape being open or not -/
def pcF : Bool → List UInt8 → List Pc
  | true, [] => [Pc.err 2]
  | false, [] => []
  | true, y :: r => Pc.lit y :: pcF false r
  | false, x :: r => if x.toNat = 255 then pcF true r else if hx : x.toNat < l.length then ⟨l[x.toNat], 0, h8 _ (List.getElem_mem hx)⟩ :: pcF false r else [Pc.err 3]
end
section
variable {l : List ByteArray} {h8 : ∀ t ∈ l, t.size ≤ 8} {bs : List UInt8} {k : Nat}
theorem pc_cut : pcF l h8 true (bs.drop bs.length) = [Pc.err 2] := by rw [List.drop_length, pcF]
theorem pc_end : pcF l h8 false (bs.drop bs.length) = [] := by rw [List.drop_length, pcF]
theorem pc_esc (h : k < bs.length) (hx : bs[k].toNat = 255) : pcF l h8 false (bs.drop k) = pcF l h8 true (bs.drop (k + 1)) := by
  rw [List.drop_eq_getElem_cons h, pcF, if_pos hx]
theorem pc_lit (h : k < bs.length) : pcF l h8 true (bs.drop k) = Pc.lit bs[k] :: pcF l h8 false (bs.drop (k + 1)) := by
  rw [List.drop_eq_getElem_cons h, pcF]
theorem pc_sym (h : k < bs.length) (hx : ¬ bs[k].toNat = 255) (hl : bs[k].toNat < l.length) : pcF l h8 false (bs.drop k) = ⟨l[bs[k].toNat], 0, h8 _ (List.getElem_mem hl)⟩ :: pcF l h8 false (bs.drop (k + 1)) := by
  rw [List.drop_eq_getElem_cons h, pcF, if_neg hx, dif_pos hl]
theorem pc_bad (h : k < bs.length) (hx : ¬ bs[k].toNat = 255) (hl : ¬ bs[k].toNat < l.length) : pcF l h8 false (bs.drop k) = [Pc.err 3] := by
  rw [List.drop_eq_getElem_cons h, pcF, if_neg hx, dif_neg hl]
theorem pc_len : ∀ (bs : List UInt8) (f : Bool), (pcF l h8 f bs).length ≤ bs.length + (if f then 1 else 0)
  | [], true => by rw [pcF]; simp
  | [], false => by rw [pcF]; simp
  | y :: r, true => by
    rw [pcF, List.length_cons, List.length_cons]
    have := pc_len r false
    simp at this ⊢
    omega
  | x :: r, false => by
    rw [pcF]
    have h1 := pc_len r true
    have h2 := pc_len r false
    simp only [if_true, Bool.false_eq_true, if_false, List.length_cons] at h1 h2 ⊢
    split
    · omega
    · split
      · rw [List.length_cons]; omega
      · simp
end

/-- what is decoded of pieces -/
def dP (most : Int) : List Pc → List UInt8 → List UInt8 × Nat
  | [], o => (o, 0)
  | x :: r, o => if x.e ≠ 0 then ([], x.e) else if most < ((o.length + x.s.size : Nat) : Int) then ([], 6) else dP most r (o ++ x.s.data.toList)
/-- how many pieces are ahead of the first error -/
def cntP : List Pc → Nat
  | [] => 0
  | x :: r => if x.e ≠ 0 then 0 else cntP r + 1

section
variable {l : List ByteArray} {h8 : ∀ t ∈ l, t.size ≤ 8} {most : Int}
/-- it is the document's -/
theorem dP_dec : ∀ (m : Nat) (bs o : List UInt8) (n : Nat), bs.length ≤ m → (decL (bytL2 l) most bs o n).1 = (dP most (pcF l h8 false bs) o).1 ∧ (decL (bytL2 l) most bs o n).2.1 = (dP most (pcF l h8 false bs) o).2 := by
  intro m
  induction m with
  | zero =>
    intro bs o n h
    obtain rfl : bs = [] := List.eq_nil_of_length_eq_zero (by omega)
    rw [dec_nil, pcF, dP]
    exact ⟨rfl, rfl⟩
  | succ m ih =>
    intro bs o n h
    rcases bs with _ | ⟨x, r⟩
    · rw [dec_nil, pcF, dP]
      exact ⟨rfl, rfl⟩
    · rw [List.length_cons] at h
      by_cases hx : x.toNat = 255
      · obtain rfl : x = 255 := UInt8.toNat_inj.1 hx
        rw [pcF, if_pos hx]
        rcases r with _ | ⟨y, r⟩
        · rw [dec_end, pcF, dP, if_pos (by decide)]
          exact ⟨rfl, rfl⟩
        · rw [List.length_cons] at h
          rw [dec_lit, pcF, dP, if_neg (show ¬ (Pc.lit y).e ≠ 0 from fun h => h rfl)]
          have e1 : ((o ++ [y]).length : Int) = ((o.length + (Pc.lit y).s.size : Nat) : Int) := by rw [List.length_append]; rfl
          rw [e1]
          split
          · exact ⟨rfl, rfl⟩
          · exact ih r (o ++ [y]) (n + 1) (by omega)
      · rw [pcF, if_neg hx]
        have hx2 : x ≠ 255 := fun e => hx (by rw [e]; rfl)
        by_cases hl : x.toNat < l.length
        · rw [dif_pos hl, dP, if_neg (by simp)]
          have hg : (bytL2 l)[x.toNat]? = some l[x.toNat].data.toList := by
            rw [List.getElem?_eq_getElem (by rw [bytL2_length]; exact hl), bytL2_get]
          rw [dec_sym _ _ _ hx2 hg]
          have e1 : ((o ++ l[x.toNat].data.toList).length : Int) = ((o.length + l[x.toNat].size : Nat) : Int) := by rw [List.length_append, lenS]
          rw [e1]
          split
          · exact ⟨rfl, rfl⟩
          · exact ih r _ (n + 1) (by omega)
        · rw [dif_neg hl, dP, if_pos (by decide), dec_wrong _ _ _ hx2 (by rw [bytL2_length]; omega)]
          exact ⟨rfl, rfl⟩
theorem cnt_dec : ∀ (m : Nat) (bs o : List UInt8) (n : Nat), bs.length ≤ m → ((o.length + 8 * bs.length : Nat) : Int) ≤ most → (decL (bytL2 l) most bs o n).2.2 = n + cntP (pcF l h8 false bs) := by
  intro m
  induction m with
  | zero =>
    intro bs o n h _
    obtain rfl : bs = [] := List.eq_nil_of_length_eq_zero (by omega)
    rw [dec_nil, pcF, cntP]
    rfl
  | succ m ih =>
    intro bs o n h hm
    rcases bs with _ | ⟨x, r⟩
    · rw [dec_nil, pcF, cntP]
      rfl
    · rw [List.length_cons] at h hm
      by_cases hx : x.toNat = 255
      · obtain rfl : x = 255 := UInt8.toNat_inj.1 hx
        rw [pcF, if_pos hx]
        rcases r with _ | ⟨y, r⟩
        · rw [dec_end, pcF, cntP, if_pos (by decide)]
          rfl
        · rw [List.length_cons] at h hm
          rw [dec_lit, pcF, cntP, if_neg (show ¬ (Pc.lit y).e ≠ 0 from fun h => h rfl)]
          rw [if_neg (by rw [List.length_append, List.length_cons, List.length_nil]; omega), ih r (o ++ [y]) (n + 1) (by omega) (by rw [List.length_append, List.length_cons, List.length_nil]; omega)]
          omega
      · rw [pcF, if_neg hx]
        have hx2 : x ≠ 255 := fun e => hx (by rw [e]; rfl)
        by_cases hl : x.toNat < l.length
        · rw [dif_pos hl, cntP, if_neg (by simp)]
          have hg : (bytL2 l)[x.toNat]? = some l[x.toNat].data.toList := by
            rw [List.getElem?_eq_getElem (by rw [bytL2_length]; exact hl), bytL2_get]
          have h88 := h8 _ (List.getElem_mem hl)
          rw [dec_sym _ _ _ hx2 hg, if_neg (by rw [List.length_append, lenS]; omega), ih r _ (n + 1) (by omega) (by rw [List.length_append, lenS]; omega)]
          omega
        · rw [dif_neg hl, cntP, if_pos (by decide), dec_wrong _ _ _ hx2 (by rw [bytL2_length]; omega)]
          rfl
end
end Go.Proofs.Ytniehbghgialjaa
