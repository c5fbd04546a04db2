/-
  An error, or ErrForm.
  How bytes compare, in plain: byte by byte; by what stands ahead first.
  Tables of symbols in plain: rows that rise, what is a table in order, its bytes, the table of strings.
  Strings as lists of bytes; rows that rise, one more, side by side. No program is named here.
  Appends of strings to lists of strings, in this program.
  What a call may touch: blocks that it is told, and new ones. Rows of a call's own: cut, kept, appended to, and where they lie behind it. No program is named here.
  What Put writes of one symbol more.
  How strings compare, byte by byte, of hopperref07.
  The document's Right of layer 10.
  The symbol package: fits.
  The model's order of strings is cmpL's.
-/
import Derived.Test.YtmffpbhiehjlpaaGreatZ00
import Derived.Test.YtmffpbhiehjlpaaGreatRows
import Derived.Laws.OwnMore
import Derived.Laws.MakeOwn
import Derived.Outline
import Derived.BigQuiet
import Derived.Deep.QuietTactic
import Derived.Lib.Strings
namespace Go.Proofs.YtmffpbhiehjlpaaGreat
set_option linter.unusedSimpArgs false
set_option linter.unusedVariables false
open Go.RowKit
def orForm (e : Int) : Int := if e = 0 then 3 else e
theorem orForm_ne (e : Int) : orForm e ≠ 0 := by unfold orForm; split <;> omega
theorem orForm_bad {e : Int} (h : e ≠ 0) : orForm e = e := by rw [orForm, if_neg h]
end Go.Proofs.YtmffpbhiehjlpaaGreat
namespace Go.Proofs.YtmffpbhiehjlpaaGreat
set_option linter.unusedSimpArgs false
set_option linter.unusedVariables false
def cmpL : List UInt8 → List UInt8 → Int
  | [], [] => 0
  | [], _ :: _ => -1
  | _ :: _, [] => 1
  | x :: a, y :: b => if x.toNat < y.toNat then -1 else if y.toNat < x.toNat then 1 else cmpL a b
theorem cmpL_same : ∀ (a : List UInt8), cmpL a a = 0
  | [] => rfl
  | x :: a => by simp [cmpL, cmpL_same a]
theorem cmpL_zero : ∀ {a b : List UInt8}, cmpL a b = 0 → a = b
  | [], [], _ => rfl
  | [], _ :: _, h => by simp [cmpL] at h
  | _ :: _, [], h => by simp [cmpL] at h
  | x :: a, y :: b, h => by
    unfold cmpL at h
    split at h
    · cases h
    · split at h
      · cases h
      · have hx : x = y := UInt8.toNat_inj.1 (by omega)
        rw [hx, cmpL_zero h]
theorem cmpL_turn : ∀ (a b : List UInt8), cmpL b a = - cmpL a b
  | [], [] => rfl
  | [], _ :: _ => rfl
  | _ :: _, [] => rfl
  | x :: a, y :: b => by
    unfold cmpL
    by_cases h1 : x.toNat < y.toNat
    · rw [if_pos h1, if_neg (by omega), if_pos h1]; rfl
    · by_cases h2 : y.toNat < x.toNat
      · rw [if_pos h2, if_neg h1, if_pos h2]
      · rw [if_neg h1, if_neg h2, if_neg h2, if_neg h1, cmpL_turn a b]
theorem cmpL_three (a b : List UInt8) : cmpL a b = -1 ∨ cmpL a b = 0 ∨ cmpL a b = 1 := by
  induction a generalizing b with
  | nil => cases b <;> simp [cmpL]
  | cons x a ih =>
    cases b with
    | nil => simp [cmpL]
    | cons y b =>
      unfold cmpL
      split
      · simp
      · split
        · simp
        · exact ih b
theorem cmpL_ahead : ∀ (p a b : List UInt8), cmpL (p ++ a) (p ++ b) = cmpL a b
  | [], a, b => rfl
  | x :: p, a, b => by simp [cmpL, cmpL_ahead p a b]
theorem cmpL_drop {k : Nat} {a b : List UInt8} (h : a.take k = b.take k) : cmpL (a.drop k) (b.drop k) = cmpL a b := by
  have h1 := cmpL_ahead (a.take k) (a.drop k) (b.drop k)
  rw [List.take_append_drop] at h1
  rw [← h1, h, List.take_append_drop]
theorem cmpL_at {k : Nat} {a b : List UInt8} (h : a.take k = b.take k) (ha : k < a.length) (hb : k < b.length) (hne : a[k] ≠ b[k]) : cmpL a b = if a[k].toNat < b[k].toNat then -1 else 1 := by
  rw [← cmpL_drop h, List.drop_eq_getElem_cons ha, List.drop_eq_getElem_cons hb]
  have hn : a[k].toNat ≠ b[k].toNat := fun e => hne (UInt8.toNat_inj.1 e)
  unfold cmpL
  by_cases h1 : a[k].toNat < b[k].toNat
  · rw [if_pos h1, if_pos h1]
  · rw [if_neg h1, if_neg h1, if_pos (by omega)]
theorem cmpL_end {k : Nat} {a b : List UInt8} (h : a.take k = b.take k) (hk : k = min a.length b.length) : cmpL a b = if a.length < b.length then -1 else if b.length < a.length then 1 else 0 := by
  rw [← cmpL_drop h]
  subst hk
  rcases Nat.lt_trichotomy a.length b.length with h1 | h1 | h1
  · rw [if_pos h1, Nat.min_eq_left (by omega), List.drop_length, List.drop_eq_getElem_cons h1]
    rfl
  · rw [if_neg (by omega), if_neg (by omega), Nat.min_eq_left (by omega), List.drop_length, List.drop_eq_nil_of_le (by omega)]
    rfl
  · rw [if_neg (by omega), if_pos h1, Nat.min_eq_right (by omega), List.drop_length, List.drop_eq_getElem_cons h1]
    rfl
end Go.Proofs.YtmffpbhiehjlpaaGreat
namespace Go.Proofs.YtmffpbhiehjlpaaGreat
set_option linter.unusedSimpArgs false
set_option linter.unusedVariables false
def okS (s : List UInt8) : Bool := decide (1 ≤ s.length) && decide (s.length ≤ 8)
theorem okS_iff {s : List UInt8} : okS s = true ↔ 1 ≤ s.length ∧ s.length ≤ 8 := by simp [okS]
def risesL : List (List UInt8) → Bool
  | [] => true
  | [_] => true
  | a :: b :: t => decide (cmpL a b < 0) && risesL (b :: t)
theorem rises_cons {a b : List UInt8} {t : List (List UInt8)} : risesL (a :: b :: t) = true ↔ cmpL a b < 0 ∧ risesL (b :: t) = true := by
  rw [risesL, Bool.and_eq_true, decide_eq_true_eq]
theorem rises_tail : ∀ {a : List UInt8} {t : List (List UInt8)}, risesL (a :: t) = true → risesL t = true
  | _, [], _ => rfl
  | _, _ :: _, h => (rises_cons.1 h).2
theorem cmpL_lt_trans : ∀ {a b c : List UInt8}, cmpL a b < 0 → cmpL b c < 0 → cmpL a c < 0
  | [], [], c, h1, _ => by simp [cmpL] at h1
  | [], y :: b, [], _, h2 => by simp [cmpL] at h2
  | [], y :: b, z :: c, _, _ => by simp [cmpL]
  | x :: a, [], c, h1, _ => by simp [cmpL] at h1
  | x :: a, y :: b, [], _, h2 => by simp [cmpL] at h2
  | x :: a, y :: b, z :: c, h1, h2 => by
    unfold cmpL at h1 h2 ⊢
    by_cases p1 : x.toNat < y.toNat
    · by_cases q1 : y.toNat < z.toNat
      · rw [if_pos (by omega)]; decide
      · rw [if_neg q1] at h2
        by_cases q2 : z.toNat < y.toNat
        · rw [if_pos q2] at h2; cases h2
        · rw [if_pos (by omega)]; decide
    · rw [if_neg p1] at h1
      by_cases p2 : y.toNat < x.toNat
      · rw [if_pos p2] at h1; cases h1
      · rw [if_neg p2] at h1
        by_cases q1 : y.toNat < z.toNat
        · rw [if_pos (by omega)]; decide
        · rw [if_neg q1] at h2
          by_cases q2 : z.toNat < y.toNat
          · rw [if_pos q2] at h2; cases h2
          · rw [if_neg q2] at h2
            rw [if_neg (by omega), if_neg (by omega)]
            exact cmpL_lt_trans h1 h2
theorem rises_head : ∀ {a : List UInt8} {t : List (List UInt8)}, risesL (a :: t) = true → ∀ x ∈ t, cmpL a x < 0
  | a, [], _, x, hx => by cases hx
  | a, b :: t, h, x, hx => by
    obtain ⟨h1, h2⟩ := rises_cons.1 h
    rcases List.mem_cons.1 hx with rfl | hx
    · exact h1
    · exact cmpL_lt_trans h1 (rises_head h2 x hx)
theorem cmpL_irrefl {a : List UInt8} : ¬ cmpL a a < 0 := by rw [cmpL_same]; omega
theorem rises_sub : ∀ {u t : List (List UInt8)}, risesL t = true → risesL u = true → (∀ x ∈ t, x ∈ u) → t.Sublist u
  | [], [], _, _, _ => List.Sublist.slnil
  | [], a :: t, _, _, h => by cases h a List.mem_cons_self
  | b :: u, [], _, _, _ => List.nil_sublist _
  | b :: u, a :: t, ht, hu, h => by
    have h1 := rises_head ht
    have h2 := rises_head hu
    rcases List.mem_cons.1 (h a List.mem_cons_self) with rfl | ha
    · refine List.Sublist.cons_cons _ (rises_sub (rises_tail ht) (rises_tail hu) fun x hx => ?_)
      rcases List.mem_cons.1 (h x (List.mem_cons_of_mem _ hx)) with rfl | h3
      · exact absurd (h1 _ hx) cmpL_irrefl
      · exact h3
    · refine List.Sublist.cons _ (rises_sub ht (rises_tail hu) fun x hx => ?_)
      rcases List.mem_cons.1 (h x hx) with rfl | h3
      · rcases List.mem_cons.1 hx with rfl | h4
        · exact ha
        · exact absurd (cmpL_lt_trans (h2 _ ha) (h1 _ h4)) cmpL_irrefl
      · exact h3
def rightT (t : List (List UInt8)) : Bool := decide (t.length ≤ 255) && t.all okS && risesL t
theorem rightT_iff {t : List (List UInt8)} : rightT t = true ↔ t.length ≤ 255 ∧ (∀ s ∈ t, okS s = true) ∧ risesL t = true := by
  unfold rightT
  rw [Bool.and_eq_true, Bool.and_eq_true, decide_eq_true_eq, List.all_eq_true, and_assoc]
def putT (t : List (List UInt8)) : List UInt8 := UInt8.ofNat t.length :: t.flatMap fun s => UInt8.ofNat s.length :: s
structure IsOrder (l t : List (List UInt8)) : Prop where
  rises : risesL t = true
  few : t.length ≤ 255
  of : ∀ x ∈ t, x ∈ l ∧ okS x = true
  all : ∀ s ∈ l, okS s = true → s ∈ t ∨ (t.length = 255 ∧ ∀ x ∈ t, cmpL x s < 0)
theorem IsOrder.right {l t : List (List UInt8)} (h : IsOrder l t) : rightT t = true := rightT_iff.2 ⟨h.few, fun s hs => (h.of s hs).2, h.rises⟩
theorem IsOrder.sub {l t u : List (List UInt8)} (h : IsOrder l t) (k : IsOrder l u) : ∀ x ∈ u, x ∈ t := by
  intro x hx
  obtain ⟨hxl, hxo⟩ := k.of x hx
  rcases h.all x hxl hxo with h1 | ⟨h1, h2⟩
  · exact h1
  · exfalso
    have hn : x ∉ t := fun h3 => cmpL_irrefl (h2 x h3)
    have htu : ∀ y ∈ t, y ∈ u := fun y hy => by
      obtain ⟨hyl, hyo⟩ := h.of y hy
      rcases k.all y hyl hyo with h3 | ⟨_, h3⟩
      · exact h3
      · exact absurd (cmpL_lt_trans (h3 x hx) (h2 y hy)) cmpL_irrefl
    have hs := rises_sub h.rises k.rises htu
    have he := hs.eq_of_length_le (by rw [h1]; exact k.few)
    exact hn (he ▸ hx)
theorem IsOrder.one {l t u : List (List UInt8)} (h : IsOrder l t) (k : IsOrder l u) : t = u :=
  (rises_sub h.rises k.rises (k.sub h)).eq_of_length_le (rises_sub k.rises h.rises (h.sub k)).length_le
end Go.Proofs.YtmffpbhiehjlpaaGreat
namespace Go.Proofs.YtmffpbhiehjlpaaGreat
set_option linter.unusedSimpArgs false
set_option linter.unusedVariables false
def bytL2 (l : List ByteArray) : List (List UInt8) := l.map fun s => s.data.toList
theorem bytL2_snoc (ys : List ByteArray) (s : ByteArray) : bytL2 (ys ++ [s]) = bytL2 ys ++ [s.data.toList] := by simp [bytL2]
theorem rises_snoc : ∀ (t : List (List UInt8)) (a b : List UInt8), risesL (t ++ [a, b]) = (risesL (t ++ [a]) && decide (cmpL a b < 0))
  | [], a, b => by simp [risesL]
  | [c], a, b => by simp [risesL, Bool.and_assoc]
  | c :: d :: t, a, b => by
    have := rises_snoc (d :: t) a b
    simp only [List.cons_append] at this ⊢
    rw [risesL, risesL, this, Bool.and_assoc]
theorem rises_adj : ∀ {t : List (List UInt8)} {k : Nat} (h : risesL t = true) (hk : k + 1 < t.length), cmpL t[k] t[k + 1] < 0
  | [], k, _, hk => by simp at hk
  | [_], k, _, hk => by simp at hk
  | a :: b :: t, 0, h, _ => (rises_cons.1 h).1
  | a :: b :: t, k + 1, h, hk => by
    have := rises_adj (rises_cons.1 h).2 (k := k) (by simpa using hk)
    exact this
theorem rises_take_succ {t : List (List UInt8)} {k : Nat} (hk : k + 1 < t.length) : risesL (t.take (k + 2)) = (risesL (t.take (k + 1)) && decide (cmpL t[k] t[k + 1] < 0)) := by
  rw [List.take_succ_eq_append_getElem (i := k + 1) (by omega), List.take_succ_eq_append_getElem (i := k) (by omega), List.append_assoc]
  exact rises_snoc _ _ _
theorem bytL2_length (l : List ByteArray) : (bytL2 l).length = l.length := by simp [bytL2]
theorem bytL2_get (l : List ByteArray) (k : Nat) (h : k < l.length) : (bytL2 l)[k]'(by rw [bytL2_length]; exact h) = l[k].data.toList := by simp [bytL2]
theorem rises_at : ∀ {T : List (List UInt8)} {i j : Nat} (h : risesL T = true) (hij : i < j) (hj : j < T.length), cmpL T[i] T[j] < 0
  | [], i, j, _, _, hj => by simp at hj
  | a :: t, 0, j + 1, h, _, hj => by
    have hj' : j < t.length := by simpa using hj
    exact rises_head h _ (List.getElem_mem hj')
  | a :: t, i + 1, j + 1, h, hij, hj => by
    have hj' : j < t.length := by simpa using hj
    exact rises_at (T := t) (rises_tail h) (by omega) hj'
theorem rises_inj {T : List (List UInt8)} {i j : Nat} (h : risesL T = true) (hi : i < T.length) (hj : j < T.length) (e : T[i] = T[j]) : i = j := by
  rcases Nat.lt_trichotomy i j with h1 | h1 | h1
  · have := rises_at h h1 hj
    rw [e, cmpL_same] at this
    omega
  · exact h1
  · have := rises_at h h1 hi
    rw [e, cmpL_same] at this
    omega
end Go.Proofs.YtmffpbhiehjlpaaGreat
namespace Go.Proofs.YtmffpbhiehjlpaaGreat
set_option linter.unusedSimpArgs false
set_option linter.unusedVariables false
open Go.RowKit
theorem Tryz.infoStr : (Tryz.prog.info? 9).map (fun i => (i.zero, i.size, i.bytes)) = some (some (.string ⟨#[]⟩), 1, 16) := by kernel_rfl
theorem append_strs (w : World) (base : Nat) (v : Value) (ys zs us : List ByteArray) (hus : ys ++ zs = us) (hown : w.ownsRow base 9 1 v ys.length (sv ys)) {lo h' : Nat} {A : Option Addr} {c : Nat} (hr : Rd w lo h' A c (sv zs))
    (hb : ys.length + zs.length ≤ 1000000000) (hbase : base ≤ w.heap.size) :
    ∃ A' c' w', (Builtin.append_ #[37, 37] 37 #[v, .slice A zs.length c]).run Tryz.prog w = .ok (.slice A' us.length c') w' ∧
      w'.ownsRow base 9 1 (.slice A' us.length c') us.length (sv us) ∧ w.grownBy w' v.ownBlock := by
  subst hus
  obtain ⟨i0, hi0, hz0, hz1, hz2⟩ := info_parts Tryz.infoStr
  have hl := sv_length zs
  obtain ⟨A', c', w', hrun, h2, h3, _⟩ := run_append_rd (P := Tryz.prog) w base 37 37 9 i0 _ 16 Tryz.underlying37 hi0 hz0 hz1 hz2 rfl v ys.length (sv ys) hown lo h' A c (sv zs) hr (sv_one _)
    (by rw [hl]; simp only [maxLen]; omega) (by rw [hl]; omega) hbase
  rw [hl] at hrun h2
  rw [List.length_append]
  exact ⟨A', c', w', hrun, by rw [sv_append]; exact h2, h3⟩
theorem wpList_push_str {ops : Array Oper} {rest : List Oper} {o : Oper} {a : Act} {Q : Exit → Act → World → Prop} {w : World} {v : Value} {g : Nat} (base : Nat) (ys : List ByteArray) (z : ByteArray) (hgd : o.guard = none) (s x : Operand)
    (ho : o.op = .call { callee := .builtin .append, args := #[s, x], argTypes := #[37, 37] }) (hty : o.type = 37)
    (hs : a.eval s = v) (hx : a.eval x = .slice (some ⟨g, 0, none⟩) 1 1) (hcell : w.cell? ⟨g, 0, none⟩ = some (.string z))
    (hown : w.ownsRow base 9 1 v ys.length (sv ys)) (hb : ys.length + 1 ≤ 1000000000) (hbase : base ≤ w.heap.size)
    (h : ∀ A' c' w', w'.ownsRow base 9 1 (.slice A' (ys ++ [z]).length c') (ys ++ [z]).length (sv (ys ++ [z])) → w.grownBy w' v.ownBlock → wpList Tryz.prog ops Q rest (a.put o.dst (.slice A' (ys.length + 1) c')) w') :
    wpList Tryz.prog ops Q (o :: rest) a w := by
  have hr : Rd w 0 w.heap.size (some ⟨g, 0, none⟩) 1 (sv [z]) := ⟨by simp [sv], by simp [maxLen], fun _ => ⟨g, 0, rfl, Nat.zero_le _, World.block_lt_of_cell? w _ hcell, fun j u hu => by
    match j, hu with
    | 0, hu =>
      simp [sv] at hu
      subst hu
      exact hcell
    | j + 1, hu => simp [sv] at hu⟩⟩
  obtain ⟨A', c', w', hrun, h2, h3⟩ := append_strs w base v ys [z] (ys ++ [z]) rfl hown hr (by simpa using hb) hbase
  rw [show (ys ++ [z]).length = ys.length + 1 from by simp] at hrun
  exact wpList_append_run hgd s x _ _ ho hs hx (by rw [hty]; exact hrun) (h A' c' w' h2 h3)
end Go.Proofs.YtmffpbhiehjlpaaGreat
namespace Go.Proofs.YtmffpbhiehjlpaaGreat
set_option linter.unusedSimpArgs false
set_option linter.unusedVariables false
open Go.RowKit
structure Out (w w' : World) (X : Nat → Prop) : Prop where
  os : w'.os = w.os
  tape : w'.tape = w.tape
  output : w'.output = w.output
  size : w.heap.size ≤ w'.heap.size
  block : ∀ k, k < w.heap.size → ¬ X k → w'.heap[k]? = w.heap[k]?
section
variable {w w' w2 : World} {X Y : Nat → Prop} {B : Nat}
theorem Out.refl (w : World) (X : Nat → Prop) : Out w w X := ⟨rfl, rfl, rfl, Nat.le_refl _, fun _ _ _ => rfl⟩
theorem Out.trans (h : Out w w' X) (k : Out w' w2 Y) (hY : ∀ i, i < w.heap.size → Y i → X i) : Out w w2 X :=
  ⟨k.os.trans h.os, k.tape.trans h.tape, k.output.trans h.output, Nat.le_trans h.size k.size, fun i hi hx => (k.block i (Nat.lt_of_lt_of_le hi h.size) (fun hy => hx (hY i hi hy))).trans (h.block i hi hx)⟩
theorem Out.of_gb {row : Option Nat} (h : w.grownBy w' row) (hr : ∀ k, row = some k → X k) : Out w w' X :=
  ⟨h.os, h.tape, h.output, h.size, fun i hi hx => h.block i hi (fun e => hx (hr i e.symm))⟩
theorem Out.of_below (h : Below w.heap.size w w') : Out w w' X := ⟨h.os, h.tape, h.output, h.size, fun i hi _ => h.block i hi⟩
theorem Out.below (h : Out w w' X) (hB : B ≤ w.heap.size) (hX : ∀ k, X k → B ≤ k) : Below B w w' :=
  ⟨h.os, h.tape, h.output, h.size, fun i hi => h.block i (by omega) (fun hx => by have := hX i hx; omega)⟩
theorem Out.drewN (h : Out w w' X) (n : Nat) : Out w (w'.drewN n) X := ⟨h.os, h.tape, h.output, h.size, h.block⟩
theorem Out.drew (h : Out w w' X) : Out w w'.drew X := ⟨h.os, h.tape, h.output, h.size, h.block⟩
theorem Out.alloc (h : Out w w' X) (o : Obj) : Out w (w'.alloc o) X := h.trans (Y := fun _ => False) (Out.of_below ((Below.refl _ _).alloc (Nat.le_refl _) o)) (fun _ _ h => h.elim)
theorem Out.setCell (h : Out w w' X) {p : Addr} (hp : X p.block ∨ w.heap.size ≤ p.block) (u : Value) : Out w (w'.setCell p u) X :=
  ⟨h.os, h.tape, h.output, by simpa [World.setCell] using h.size, fun i hi hx => (Below.heap_setCell w' p u i (by
    rintro rfl
    rcases hp with hp | hp
    · exact hx hp
    · omega)).trans (h.block i hi hx)⟩
theorem Blk.out {g : Nat} {t : TypeId} {cs : Array Value} (h : Blk w g t cs) (ho : Out w w' X) (hg : ¬ X g) : Blk w' g t cs := (ho.block g h.lt hg).trans h
theorem Rd.out {lo hi c : Nat} {A : Option Addr} {xs : List Value} (h : Rd w lo hi A c xs) (ho : Out w w' X) (hh : hi ≤ w.heap.size) (hX : ∀ k, lo ≤ k → k < hi → ¬ X k) : Rd w' lo hi A c xs :=
  h.keep fun p h1 h2 => World.cell?_of_block (ho.block p.block (by omega) (hX _ h1 h2))
variable {base n : Nat} {e : TypeId} {size : Nat} {v : Value} {xs : List Value}
theorem own_keep (h : w.ownsRow base e size v n xs) (hk : ∀ k, v.ownBlock = some k → w'.heap[k]? = w.heap[k]?) : w'.ownsRow base e size v n xs := by
  obtain ⟨hl, hr⟩ := h
  refine ⟨hl, ?_⟩
  rcases hr with h0 | ⟨g, cap, cur, hv, hg, hb, hrest⟩
  · exact .inl h0
  · exact .inr ⟨g, cap, cur, hv, hg, (hk g (by rw [hv]; rfl)).trans hb, hrest⟩
theorem own_lt (h : w.ownsRow base e size v n xs) {k : Nat} (hk : v.ownBlock = some k) : base ≤ k ∧ k < w.heap.size := h.lt k hk
end
section
variable {P : Program} (w : World)
theorem run_append_str (base : Nat) (t u ty e : TypeId) (i : TypeInfo) (ht : P.underlying t = some (.slice e)) (hu : P.underlying u = some .string) (hi : P.info? e = some i) (hz : i.zero = some (.int .u8 0))
    (hsize : i.size = 1) (hby : i.bytes = 1)
    (v : Value) (n : Nat) (xs : List Value) (hown : w.ownsRow base e 1 v n xs) (s : ByteArray)
    (hbytes : n + s.size ≤ 140737488355328) (hbase : base ≤ w.heap.size) :
    ∃ A' c' w', (Builtin.append_ #[t, u] ty #[v, .string s]).run P w = .ok (.slice A' (n + s.size) c') w' ∧ w'.ownsRow base e 1 (.slice A' (n + s.size) c') (n + s.size) (xs ++ bv s.data.toList) ∧ w.grownBy w' v.ownBlock ∧
      (∀ k, (Value.slice A' (n + s.size) c').ownBlock = some k → v.ownBlock = some k ∨ w.heap.size ≤ k) := by
  obtain ⟨v', w', hrun, ho, hg, _⟩ := Lib.run_append_own_string (P := P) w base t u ty e i ht hu hi hz hsize hby v n xs hown s (by simp only [maxLen]; omega) hbytes hbase
  obtain ⟨A', c', rfl, _⟩ := own_form w' ho
  refine ⟨A', c', w', hrun, by rw [← Lib.strCells_length] at *; exact ho, hg, fun k hk => ?_⟩
  have hxl : xs.length = n := by simpa using hown.1
  rcases hown.2 with ⟨rfl, rfl⟩ | ⟨g, cap, cur, rfl, hb, hgb, hnc, hcm, hcs, htk⟩
  · obtain ⟨v2, w2, hrun2, ho2, _, _⟩ := Lib.run_append_own_string (P := P) w w.heap.size t u ty e i ht hu hi hz hsize hby (.slice none 0 0) 0 xs (by
      have : xs = [] := List.eq_nil_of_length_eq_zero hxl
      subst this
      exact World.ownsRow_nil _ _ _ _) s (by simp only [maxLen]; omega) hbytes (Nat.le_refl _)
    rw [hrun] at hrun2
    injection hrun2 with h1 h2
    subst h1 h2
    exact .inr (own_lt ho2 hk).1
  · by_cases hroom : n + s.size ≤ cap
    · have hr := Lib.run_append_room_string (P := P) w t u ty e i ht hu hi hsize g n cap cur hgb s hroom (by omega)
      rw [hrun] at hr
      injection hr with h1 h2
      injection h1 with h3 h4 h5
      subst h3
      exact .inl hk
    · have hr := Lib.run_append_grow_string (P := P) w t u ty e i _ ht hu hi hz ⟨g, 0, none⟩ n cap xs (by rw [hsize, Nat.mul_one]; exact hxl) (by
        intro j y hj
        have := hown.cells (g := g) (by simp [Value.ownBlock]) j y hj
        exact this) s (by omega) (by simp only [maxLen] at hcm; omega) (by
        rw [hby]
        exact growslice_fits (by omega) (by omega))
      rw [hrun] at hr
      injection hr with h1 h2
      injection h1 with h3 h4 h5
      subst h3
      injection hk with hk
      right
      rw [← hk]
      exact Nat.le_refl _
end
end Go.Proofs.YtmffpbhiehjlpaaGreat
namespace Go.Proofs.YtmffpbhiehjlpaaGreat
set_option linter.unusedSimpArgs false
set_option linter.unusedVariables false
open Go.RowKit
theorem put_take {l : List ByteArray} {k : Nat} (h : k < l.length) : ((bytL2 l).take (k + 1)).flatMap (fun s => UInt8.ofNat s.length :: s) = (((bytL2 l).take k).flatMap fun s => UInt8.ofNat s.length :: s) ++ UInt8.ofNat l[k].size :: l[k].data.toList := by
  have hk : k < (bytL2 l).length := by simpa [bytL2] using h
  rw [List.take_succ_eq_append_getElem hk, List.flatMap_append, List.flatMap_cons, List.flatMap_nil, List.append_nil]
  have he : (bytL2 l)[k] = l[k].data.toList := by simp [bytL2]
  rw [he, Array.length_toList]
  rfl
end Go.Proofs.YtmffpbhiehjlpaaGreat
namespace Go.Proofs.YtmffpbhiehjlpaaGreat
set_option linter.unusedSimpArgs false
set_option linter.unusedVariables false
open Go.RowKit
theorem refCompare_any {w : World} (a b : ByteArray) (ha : a.size ≤ 100000) (hb : b.size ≤ 100000) :
    Calls Tryz.prog 58 #[.string a, .string b] w fun r w' => r = .returned (.int .i64 (cmpL a.data.toList b.data.toList)) ∧ ∃ m, w' = w.drewN m := by
  obtain ⟨v, hv⟩ : ∃ v, cmpL a.data.toList b.data.toList = v := ⟨_, rfl⟩
  rw [hv]
  have hsa : a.data.toList.length = a.size := by rw [Array.length_toList]; rfl
  have hsb : b.data.toList.length = b.size := by rw [Array.length_toList]; rfl
  have HAT : Hid (∀ k (h1 : k < a.size) (h2 : k < b.size), a.data.toList.take k = b.data.toList.take k → a[k] ≠ b[k] → v = if a[k].toNat < b[k].toNat then -1 else 1) := fun k h1 h2 ht hne => by
    rw [← hv]
    exact cmpL_at ht (by omega) (by omega) hne
  have HNX : Hid (∀ k (h1 : k < a.size) (h2 : k < b.size), a.data.toList.take k = b.data.toList.take k → a[k] = b[k] → a.data.toList.take (k + 1) = b.data.toList.take (k + 1)) := fun k h1 h2 ht he => by
    rw [List.take_succ_eq_append_getElem (by omega), List.take_succ_eq_append_getElem (by omega), ht]
    have he' : a.data.toList[k]'(by omega) = b.data.toList[k]'(by omega) := he
    rw [he']
  have HEND : Hid (∀ k, a.data.toList.take k = b.data.toList.take k → k = min a.size b.size → v = if a.size < b.size then -1 else if b.size < a.size then 1 else 0) := fun k ht hk => by
    rw [← hv, ← hsa, ← hsb]
    exact cmpL_end ht (by rw [hsa, hsb]; exact hk)
  clear hv hsa hsb
  go_enter Tryz.func58, Tryz.ntmps58
  go_wp2_with fail
  go_loopw [5] (fun i wr => ∃ k m : Nat, k ≤ a.size ∧ k ≤ b.size ∧ i = .int .i64 (k : Int) ∧ a.data.toList.take k = b.data.toList.take k ∧ wr = w.drewN m) (fun i _ => a.size - (intOf i).toNat)
  case atStart => exact ⟨0, 0, by omega, by omega, rfl, by simp, rfl⟩
  case round =>
    obtain ⟨k, m, hka, hkb, rfl, ht, rfl⟩ := hrel
    have HT := Lib.hid ht
    clear ht
    by_cases hl : k < a.size ∧ k < b.size
    · obtain ⟨h1, h2⟩ := hl
      have i1 : (k : Int) < (a.size : Int) := by omega
      have i2 : (k : Int) < (b.size : Int) := by omega
      have HA := Lib.hid (HAT.out k h1 h2 HT.out)
      have HN := Lib.hid (HNX.out k h1 h2 HT.out)
      clear HAT HNX
      rcases Nat.lt_trichotomy a[k].toNat b[k].toNat with h3 | h3 | h3
      · go_wp2
        go_quiet (fail)
        go_wp2
        go_ret
        exact ⟨ret_int' (by rw [HA.out (fun e => by rw [e] at h3; omega), if_pos h3]), m + nq, World.drewN_drewN _ _ _⟩
      · have he := UInt8.toNat_inj.1 h3
        go_wp2
        go_quiet (fail)
        go_wp2
        go_quiet (fail)
        go_wp2
        go_roundw
        case rel => exact ⟨k + 1, _, by omega, by omega, by go_num, HN.out he, by first | rfl | (rw [World.drewN_drewN]) | (rw [World.drewN_drewN, World.drewN_drewN])⟩
        case measure => simp [intOf]; omega
      · go_wp2
        go_quiet (fail)
        go_wp2
        go_quiet (fail)
        go_wp2
        go_ret
        exact ⟨ret_int' (by rw [HA.out (fun e => by rw [e] at h3; omega), if_neg (by omega)]), _, by first | rfl | (rw [World.drewN_drewN, World.drewN_drewN])⟩
    · have HE := Lib.hid (HEND.out k HT.out)
      have HK : Hid (k = min a.size b.size) := by unfold Hid; omega
      rcases Nat.lt_trichotomy a.size b.size with h3 | h3 | h3
      · obtain rfl : k = a.size := by omega
        go_wp2
        go_ret
        exact ⟨ret_int' (by rw [HE.out HK.out, if_pos h3]), _, rfl⟩
      · obtain rfl : k = a.size := by omega
        go_wp2
        go_ret
        exact ⟨ret_int' (by rw [HE.out HK.out, if_neg (by omega), if_neg (by omega)]), _, rfl⟩
      · obtain rfl : k = b.size := by omega
        go_wp2
        go_ret
        exact ⟨ret_int' (by rw [HE.out HK.out, if_neg (by omega), if_pos h3]), _, rfl⟩
end Go.Proofs.YtmffpbhiehjlpaaGreat
namespace Go.Proofs.YtmffpbhiehjlpaaGreat
set_option linter.unusedSimpArgs false
set_option linter.unusedVariables false
open Go.RowKit
theorem ok_size (s : ByteArray) : okS s.data.toList = (decide (1 ≤ s.size) && decide (s.size ≤ 8)) := by
  unfold okS
  rw [Array.length_toList]
  rfl
end Go.Proofs.YtmffpbhiehjlpaaGreat
namespace Go.Proofs.YtmffpbhiehjlpaaGreat
set_option linter.unusedSimpArgs false
set_option linter.unusedVariables false
open Go.RowKit
theorem fits_any {w : World} (z : Int) : Calls Tryz.prog 96 #[.int .i64 z] w fun r w' => r = .returned (.bool (decide (1 ≤ z) && decide (z ≤ 8))) ∧ w = w' := by
  by_cases h0 : z < 1
  · have hf : decide (1 ≤ z) = false := decide_eq_false (by omega)
    rw [hf]
    go_enter Tryz.func96, Tryz.ntmps96
    go_wp2
    go_ret
    exact ⟨rfl, rfl⟩
  · have ht : decide (1 ≤ z) = true := decide_eq_true (by omega)
    rw [ht]
    by_cases h1 : z ≤ 8
    · have h2 : decide (z ≤ 8) = true := decide_eq_true h1
      rw [h2]
      go_enter Tryz.func96, Tryz.ntmps96
      go_wp2
      go_ret
      exact ⟨rfl, rfl⟩
    · have h2 : decide (z ≤ 8) = false := decide_eq_false h1
      rw [h2]
      go_enter Tryz.func96, Tryz.ntmps96
      go_wp2
      go_ret
      exact ⟨rfl, rfl⟩
theorem fits_size (s : ByteArray) : (decide (1 ≤ (s.size : Int)) && decide ((s.size : Int) ≤ 8)) = okS s.data.toList := by
  rw [ok_size]
  congr 1 <;> (rw [decide_eq_decide]; omega)
end Go.Proofs.YtmffpbhiehjlpaaGreat
namespace Go.Proofs.YtmffpbhiehjlpaaGreat
set_option linter.unusedSimpArgs false
set_option linter.unusedVariables false
theorem less_cmp : ∀ (a b : List UInt8), Op.bytesLess a b = decide (cmpL a b < 0)
  | [], [] => by simp [Op.bytesLess, cmpL]
  | [], _ :: _ => by simp [Op.bytesLess, cmpL]
  | _ :: _, [] => by simp [Op.bytesLess, cmpL]
  | x :: a, y :: b => by
    unfold Op.bytesLess cmpL
    by_cases h1 : x.toNat < y.toNat
    · rw [if_pos h1, decide_eq_true (show x < y from h1)]; rfl
    · rw [if_neg h1, decide_eq_false (show ¬ x < y from h1), Bool.false_or]
      by_cases h2 : y.toNat < x.toNat
      · rw [if_pos h2, show (x == y) = false from beq_eq_false_iff_ne.2 (fun e => by subst e; omega)]; rfl
      · rw [if_neg h2, show (x == y) = true from beq_iff_eq.2 (UInt8.toNat_inj.1 (by omega)), Bool.true_and, less_cmp a b]
theorem less_str (a b : ByteArray) : Op.bytesLess a.toList b.toList = decide (cmpL a.data.toList b.data.toList < 0) := by rw [Lib.toList_data, Lib.toList_data, less_cmp]
end Go.Proofs.YtmffpbhiehjlpaaGreat
