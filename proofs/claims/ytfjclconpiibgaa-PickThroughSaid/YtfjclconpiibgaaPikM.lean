/-
  Picks in plain: what each function of layer 5 answers of whatever numbers, and what follows of right picks. No program is named here.
-/
import Derived.Test.YtfjclconpiibgaaIvM
import Derived.Test.YtfjclconpiibgaaLvM
namespace Go.Proofs.Ytfjclconpiibgaa
set_option linter.unusedSimpArgs false
set_option linter.unusedVariables false

theorem filterMap_same {α β : Type} (f g : α → Option β) (l : List α) (h : ∀ x ∈ l, f x = g x) : l.filterMap f = l.filterMap g := by
  induction l with
  | nil => rfl
  | cons x r ih => rw [List.filterMap_cons, List.filterMap_cons, h x (by simp), ih fun y hy => h y (by simp [hy])]
/-- the places from i on that are so -/
def plcF : Nat → List Bool → List Int
  | _, [] => []
  | i, x :: r => (if x then [(i : Int)] else []) ++ plcF (i + 1) r
def plc (b : List Bool) : List Int := plcF 0 b
/-- is it rising from behind 'last' on, below n? -/
def rightL (n : Int) : Int → List Int → Bool
  | _, [] => true
  | last, x :: r => if x ≤ last ∨ n ≤ x then false else rightL n x r
def bitSet (n : Nat) (b : List Bool) (z : Int) : List Bool := if 0 ≤ z ∧ z < (n : Int) then b.set z.toNat true else b
def bitsL (n : Nat) (zs : List Int) : List Bool := zs.foldl (bitSet n) (List.replicate n false)
def andL : List Int → List Int → List Int
  | [], _ => []
  | _ :: _, [] => []
  | x :: r, y :: s => if x < y then andL r (y :: s) else if y = x then x :: andL (x :: r) s else andL (x :: r) s
termination_by a b => a.length + b.length
def orL : List Int → List Int → List Int
  | [], ys => ys
  | x :: r, [] => x :: orL r []
  | x :: r, y :: s => if y ≤ x then (if y = x then y :: orL r s else y :: orL (x :: r) s) else x :: orL r (y :: s)
termination_by a b => a.length + b.length
/-- of m rows from i on -/
def notL : Int → Nat → List Int → List Int
  | _, 0, _ => []
  | i, m + 1, [] => i :: notL (i + 1) m []
  | i, m + 1, y :: s => if y ≤ i then (if y = i then notL (i + 1) m s else notL i (m + 1) s) else i :: notL (i + 1) m (y :: s)
termination_by _ m s => m + s.length
def thrO (a : List Int) (i : Int) : Option Int := if 0 ≤ i then a[i.toNat]? else none
def thrL (a b : List Int) : List Int := b.filterMap (thrO a)

theorem plcF_len (i : Nat) (b : List Bool) : (plcF i b).length = cnt b := by
  induction b generalizing i with
  | nil => rfl
  | cons x r ih =>
    cases x <;> simp [plcF, ih, cnt]
theorem plc_len (b : List Bool) : (plc b).length = cnt b := plcF_len 0 b
theorem plcF_ge (i : Nat) (b : List Bool) : ∀ v ∈ plcF i b, (i : Int) ≤ v ∧ v < (i + b.length : Nat) := by
  induction b generalizing i with
  | nil => simp [plcF]
  | cons x r ih =>
    intro v hv
    simp only [plcF, List.mem_append] at hv
    rcases hv with hv | hv
    · cases x
      · simp at hv
      · simp at hv
        subst hv
        simp
        omega
    · have := ih (i + 1) v hv
      simp only [List.length_cons]
      omega
theorem plc_word (b : List Bool) (h : b.length ≤ 1000000000) : Word (plc b) := fun z hz => by
  have := plcF_ge 0 b z hz
  omega

theorem rightL_plcF (n : Int) (i : Nat) (b : List Bool) (last : Int) (h : last < i) (hn : ((i + b.length : Nat) : Int) ≤ n) : rightL n last (plcF i b) = true := by
  induction b generalizing i last with
  | nil => rfl
  | cons x r ih =>
    simp only [List.length_cons] at hn
    cases x
    · simp only [plcF, Bool.false_eq_true, if_false, List.nil_append]
      exact ih (i + 1) last (by omega) (by omega)
    · simp only [plcF, if_true, List.cons_append, List.nil_append, rightL]
      rw [if_neg (by omega)]
      exact ih (i + 1) i (by omega) (by omega)

/-- none of these is below or at i -/
def Above (i : Int) (l : List Int) : Prop := ∀ v ∈ l, i < v
theorem plcF_above (i : Nat) (b : List Bool) : Above i (plcF (i + 1) b) := fun v hv => by
  have := plcF_ge (i + 1) b v hv
  omega
theorem and_left (i : Int) (a b : List Int) (h : Above i b) : andL (i :: a) b = andL a b := by
  cases b with
  | nil => cases a <;> simp [andL]
  | cons y s =>
    rw [andL, if_pos (h y (by simp))]
theorem and_right (i : Int) (a b : List Int) (h : Above i a) : andL a (i :: b) = andL a b := by
  cases a with
  | nil => simp [andL]
  | cons x r =>
    have := h x (by simp)
    rw [andL, if_neg (by omega), if_neg (by omega)]
theorem and_same (i : Int) (a b : List Int) (h : Above i a) (h2 : Above i b) : andL (i :: a) (i :: b) = i :: andL a b := by
  rw [andL, if_neg (by omega), if_pos rfl, and_left i a b h2]
theorem andL_plcF (i : Nat) (a b : List Bool) (h : a.length = b.length) : andL (plcF i a) (plcF i b) = plcF i (List.zipWith and a b) := by
  induction a generalizing i b with
  | nil => simp [plcF, andL]
  | cons x r ih =>
    cases b with
    | nil => simp at h
    | cons y s =>
      have hi := ih (i + 1) s (by simpa using h)
      have h1 := plcF_above i r
      have h2 := plcF_above i s
      cases x <;> cases y <;> simp only [plcF, List.zipWith_cons_cons, Bool.and_true, Bool.and_false, Bool.false_and, Bool.true_and, Bool.and_self, Bool.false_eq_true, if_false, if_true, List.cons_append, List.nil_append]
      · exact hi
      · rw [and_right _ _ _ h1, hi]
      · rw [and_left _ _ _ h2, hi]
      · rw [and_same _ _ _ h1 h2, hi]
theorem or_nil (a : List Int) : orL a [] = a := by
  induction a with
  | nil => simp [orL]
  | cons x r ih => rw [orL, ih]
theorem or_left (i : Int) (a b : List Int) (h : Above i b) : orL (i :: a) b = i :: orL a b := by
  cases b with
  | nil => rw [orL]
  | cons y s =>
    have := h y (by simp)
    rw [orL, if_neg (by omega)]
theorem or_right (i : Int) (a b : List Int) (h : Above i a) : orL a (i :: b) = i :: orL a b := by
  cases a with
  | nil => simp [orL]
  | cons x r =>
    have := h x (by simp)
    rw [orL, if_pos (by omega), if_neg (by omega)]
theorem or_same (i : Int) (a b : List Int) : orL (i :: a) (i :: b) = i :: orL a b := by
  rw [orL, if_pos (by omega), if_pos rfl]
theorem orL_plcF (i : Nat) (a b : List Bool) (h : a.length = b.length) : orL (plcF i a) (plcF i b) = plcF i (List.zipWith or a b) := by
  induction a generalizing i b with
  | nil =>
    cases b with
    | nil => simp [plcF, orL]
    | cons => simp at h
  | cons x r ih =>
    cases b with
    | nil => simp at h
    | cons y s =>
      have hi := ih (i + 1) s (by simpa using h)
      have h1 := plcF_above i r
      have h2 := plcF_above i s
      cases x <;> cases y <;> simp only [plcF, List.zipWith_cons_cons, Bool.or_true, Bool.or_false, Bool.false_or, Bool.true_or, Bool.or_self, Bool.false_eq_true, if_false, if_true, List.cons_append, List.nil_append]
      · exact hi
      · rw [or_right _ _ _ h1, hi]
      · rw [or_left _ _ _ h2, hi]
      · rw [or_same, hi]
theorem notL_plcF (i : Nat) (a : List Bool) : notL i a.length (plcF i a) = plcF i (a.map not) := by
  induction a generalizing i with
  | nil => simp [plcF, notL]
  | cons x r ih =>
    have hi := ih (i + 1)
    have h1 := plcF_above i r
    cases x
    · simp only [plcF, List.map_cons, Bool.not_false, Bool.false_eq_true, if_false, if_true, List.cons_append, List.nil_append, List.length_cons]
      rw [← hi]
      cases hr : plcF (i + 1) r with
      | nil =>
        rw [notL]
        rfl
      | cons y s =>
        have := h1 y (by rw [hr]; simp)
        rw [notL, if_neg (by omega)]
        rfl
    · simp only [plcF, List.map_cons, Bool.not_true, Bool.false_eq_true, if_false, if_true, List.cons_append, List.nil_append, List.length_cons]
      rw [← hi, notL, if_pos (by omega), if_pos rfl]
      rfl
theorem notL_len (i : Int) (m : Nat) (l : List Int) : (notL i m l).length ≤ m := by
  induction i, m, l using notL.induct with
  | case1 => simp [notL]
  | case2 i m ih =>
    rw [notL]
    simp
    omega
  | case3 m i s h1 ih =>
    rw [notL, if_pos h1, if_pos rfl]
    omega
  | case4 i m y s h1 h2 ih =>
    rw [notL, if_pos h1, if_neg h2]
    exact ih
  | case5 i m y s h1 ih =>
    rw [notL, if_neg h1]
    simp
    omega
theorem andL_len (a b : List Int) : (andL a b).length ≤ b.length := by
  induction a, b using andL.induct with
  | case1 => simp [andL]
  | case2 => simp [andL]
  | case3 x r y s h1 ih =>
    rw [andL, if_pos h1]
    exact ih
  | case4 x r s h1 ih =>
    rw [andL, if_neg h1, if_pos rfl]
    simp
    exact ih
  | case5 x r y s h1 h2 ih =>
    rw [andL, if_neg h1, if_neg h2]
    simp
    omega
theorem orL_len (a b : List Int) : (orL a b).length ≤ a.length + b.length := by
  induction a, b using orL.induct with
  | case1 => simp [orL]
  | case2 x r ih =>
    rw [orL]
    simp at ih ⊢
    omega
  | case3 x r s h1 ih =>
    rw [orL, if_pos h1, if_pos rfl]
    simp
    omega
  | case4 x r y s h1 h2 ih =>
    rw [orL, if_pos h1, if_neg h2]
    simp at ih ⊢
    omega
  | case5 x r y s h1 ih =>
    rw [orL, if_neg h1]
    simp at ih ⊢
    omega

/-- what the rounds do -/
theorem plcF_drop (b : List Bool) (k : Nat) (h : k < b.length) : plcF k (b.drop k) = (if b[k] then [(k : Int)] else []) ++ plcF (k + 1) (b.drop (k + 1)) := by
  rw [List.drop_eq_getElem_cons h, plcF]
theorem thrL_take (a b : List Int) (k : Nat) (h : k < b.length) : thrL a (b.take (k + 1)) = thrL a (b.take k) ++ (thrO a b[k]).toList := by
  unfold thrL
  rw [List.take_succ_eq_append_getElem h, List.filterMap_append]
  cases h : thrO a b[k] <;> simp [h, List.filterMap_cons]
theorem bits_take (n : Nat) (zs : List Int) (k : Nat) (h : k < zs.length) : bitsL n (zs.take (k + 1)) = bitSet n (bitsL n (zs.take k)) zs[k] := by
  unfold bitsL
  rw [List.take_succ_eq_append_getElem h, List.foldl_append]
  rfl
theorem bits_len (n : Nat) (zs : List Int) : (bitsL n zs).length = n := by
  unfold bitsL
  have : ∀ (zs : List Int) (b : List Bool), (zs.foldl (bitSet n) b).length = b.length := by
    intro zs
    induction zs with
    | nil => intro b; rfl
    | cons z r ih =>
      intro b
      rw [List.foldl_cons, ih]
      unfold bitSet
      split <;> simp
  rw [this, List.length_replicate]
/-- a bitmap and its places -/
theorem fold_plcF (n i : Nat) (b : List Bool) (p : List Bool) (hp : p.length = i) (hn : i + b.length = n) : (plcF i b).foldl (bitSet n) (p ++ List.replicate b.length false) = p ++ b := by
  induction b generalizing i p with
  | nil => simp [plcF]
  | cons x r ih =>
    have h1 := ih (i + 1) (p ++ [x]) (by simp [hp]) (by simp at hn; omega)
    simp only [List.length_cons] at hn
    cases x
    · simp only [plcF, Bool.false_eq_true, if_false, List.nil_append, List.length_cons, List.replicate_succ]
      simpa using h1
    · simp only [plcF, if_true, List.cons_append, List.nil_append, List.length_cons, List.replicate_succ, List.foldl_cons]
      have e : bitSet n (p ++ false :: List.replicate r.length false) (i : Int) = p ++ true :: List.replicate r.length false := by
        unfold bitSet
        rw [if_pos (by omega), Int.toNat_natCast, ← hp, List.set_append_right _ _ (Nat.le_refl _), Nat.sub_self, List.set_cons_zero]
      rw [e]
      simpa using h1
theorem bits_plc (b : List Bool) : bitsL b.length (plc b) = b := by
  have := fold_plcF b.length 0 b [] rfl (by omega)
  simpa [bitsL, plc] using this

theorem thrL_nil (a : List Int) : thrL a [] = [] := rfl
theorem thrO_some (a : List Int) (i : Int) (h : 0 ≤ i) (h2 : i < a.length) : thrO a i = some (a[i.toNat]'(by omega)) := by
  unfold thrO
  rw [if_pos h, List.getElem?_eq_getElem]
theorem thrO_none (a : List Int) (i : Int) (h : ¬(0 ≤ i ∧ i < a.length)) : thrO a i = none := by
  unfold thrO
  split
  · rw [List.getElem?_eq_none (by omega)]
  · rfl
/-- all of m rows -/
theorem notL_all (i m : Nat) : notL i m [] = (List.range' i m).map fun k : Nat => (k : Int) := by
  induction m generalizing i with
  | zero => simp [notL]
  | succ m ih =>
    rw [notL, List.range'_succ, List.map_cons]
    have := ih (i + 1)
    rw [← this]
    rfl
theorem thr_all (a : List Int) : thrL a (notL 0 a.length []) = a := by
  have := notL_all 0 a.length
  rw [show ((0 : Nat) : Int) = 0 from rfl] at this
  rw [this]
  unfold thrL
  rw [List.filterMap_map]
  have e : List.filterMap ((thrO a) ∘ fun k : Nat => (k : Int)) (List.range' 0 a.length) = List.filterMap (fun k => a[k]?) (List.range' 0 a.length) := by
    refine filterMap_same _ _ _ ?_
    intro k hk
    simp [thrO]
  rw [e]
  have h2 : ∀ (a p : List Int), List.filterMap (fun k => (p ++ a)[k]?) (List.range' p.length a.length) = a := by
    intro a
    induction a with
    | nil => intro p; rfl
    | cons x r ih =>
      intro p
      have h3 := ih (p ++ [x])
      rw [List.length_cons, List.range'_succ, List.filterMap_cons]
      simp only [List.getElem?_append_right (Nat.le_refl _), Nat.sub_self, List.getElem?_cons_zero]
      congr 1
      simpa using h3
  exact h2 a []
/-- picks whose numbers are all places: as many come through, each its own -/
def In (n : Nat) (b : List Int) : Prop := ∀ v ∈ b, 0 ≤ v ∧ v < (n : Int)
theorem thr_map (a b : List Int) (h : In a.length b) : thrL a b = b.map fun i => a.getD i.toNat 0 := by
  unfold thrL
  induction b with
  | nil => rfl
  | cons x r ih =>
    have hx := h x (by simp)
    rw [List.filterMap_cons, thrO_some a x hx.1 hx.2]
    simp only [List.map_cons]
    rw [ih fun v hv => h v (by simp [hv])]
    congr 1
    rw [List.getD, List.getElem?_eq_getElem (by omega), Option.getD_some]
theorem thr_in_len (a b : List Int) (h : In a.length b) : (thrL a b).length = b.length := by rw [thr_map a b h, List.length_map]
theorem thr_get (a b : List Int) (h : In a.length b) (k : Nat) (hk : k < (thrL a b).length) (hb : k < b.length) (ha : b[k].toNat < a.length) : (thrL a b)[k] = a[b[k].toNat] := by
  have e : ∀ (l : List Int) (hl : k < l.length), l = (b.map fun i => a.getD i.toNat 0) → l[k] = a[b[k].toNat] := by
    intro l hl he
    subst he
    simp [List.getD, ha]
  exact e _ hk (thr_map a b h)
theorem in_plc (b : List Bool) : In b.length (plc b) := fun v hv => by
  have := plcF_ge 0 b v hv
  omega
theorem thr_thr (a b c : List Int) (h : In a.length b) : thrL (thrL a b) c = thrL a (thrL b c) := by
  have e : ∀ i, thrO (thrL a b) i = (thrO b i).bind (thrO a) := by
    intro i
    unfold thrO
    split
    · rw [thr_map a b h, List.getElem?_map]
      cases hb : b[i.toNat]? with
      | none => rfl
      | some v =>
        have hv := h v (List.mem_of_getElem? hb)
        simp only [Option.map_some, Option.bind_some]
        rw [if_pos hv.1, List.getD, List.getElem?_eq_getElem (by omega), Option.getD_some]
    · rfl
  unfold thrL at e ⊢
  rw [List.filterMap_filterMap]
  exact filterMap_same _ _ _ fun i _ => e i
/-- rising lists -/
def Rise (l : List Int) : Prop := l.Pairwise (· < ·)
theorem rise_plcF (i : Nat) (b : List Bool) : Rise (plcF i b) := by
  induction b generalizing i with
  | nil => exact List.Pairwise.nil
  | cons x r ih =>
    cases x
    · simpa [plcF] using ih (i + 1)
    · simp only [plcF, if_true, List.cons_append, List.nil_append]
      exact List.Pairwise.cons (plcF_above i r) (ih (i + 1))
theorem rightL_rise (n last : Int) (l : List Int) (h : Rise l) (h1 : ∀ v ∈ l, last < v ∧ v < n) : rightL n last l = true := by
  induction l generalizing last with
  | nil => rfl
  | cons x r ih =>
    have hx := h1 x (by simp)
    rw [rightL, if_neg (by omega)]
    obtain ⟨h2, h3⟩ := List.pairwise_cons.1 h
    exact ih x h3 fun v hv => ⟨h2 v hv, (h1 v (by simp [hv])).2⟩
theorem thr_right (a b : List Int) (n : Nat) (ha : Rise a) (hb : Rise b) (hi : In n a) (hj : In a.length b) : rightL n (-1) (thrL a b) = true := by
  rw [thr_map a b hj]
  refine rightL_rise _ _ _ ?_ ?_
  · unfold Rise
    rw [List.pairwise_map]
    refine List.Pairwise.imp_of_mem ?_ hb
    intro x y hx hy hxy
    have h1 := hj x hx
    have h2 := hj y hy
    rw [List.getD, List.getD, List.getElem?_eq_getElem (by omega), List.getElem?_eq_getElem (by omega), Option.getD_some, Option.getD_some]
    exact List.pairwise_iff_getElem.1 ha _ _ _ _ (by omega)
  · intro v hv
    obtain ⟨x, hx, rfl⟩ := List.mem_map.1 hv
    have h1 := hj x hx
    rw [List.getD, List.getElem?_eq_getElem (by omega), Option.getD_some]
    have := hi _ (List.getElem_mem (l := a) (n := x.toNat) (by omega))
    omega
theorem thrL_len (a b : List Int) : (thrL a b).length ≤ b.length := List.length_filterMap_le _ _
end Go.Proofs.Ytfjclconpiibgaa
