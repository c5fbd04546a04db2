/-
  Appends of rows, in this program.
-/
import Derived.Test.YtfjclconpiibgaaBoolB
namespace Go.Proofs.Ytfjclconpiibgaa
set_option linter.unusedSimpArgs false
set_option linter.unusedVariables false
open Go.RowKit

/-- append of rows onto rows of the call's own, what comes of it under a name of its own -/
theorem append_bools (w : World) (base : Nat) (v : Value) (ys zs us : List Bool) (hus : ys ++ zs = us) (hown : w.ownsRow base 4 1 v ys.length (lv ys)) {lo h' : Nat} {A : Option Addr} {c : Nat} (hr : Rd w lo h' A c (lv zs))
    (hb : ys.length + zs.length ≤ 140737488355328) (hbase : base ≤ w.heap.size) :
    ∃ A' c' w', (Builtin.append_ #[25, 25] 25 #[v, .slice A zs.length c]).run Try.prog w = .ok (.slice A' us.length c') w' ∧
      w'.ownsRow base 4 1 (.slice A' us.length c') us.length (lv us) ∧ w.grownBy w' v.ownBlock := by
  subst hus
  obtain ⟨i0, hi0, hz0, hz1, hz2⟩ := info_parts Try.infoBool
  have hl := lv_length zs
  obtain ⟨A', c', w', hrun, h2, h3, _⟩ := run_append_rd (P := Try.prog) w base 25 25 4 i0 _ 1 Try.underlying25 hi0 hz0 hz1 hz2 rfl v ys.length (lv ys) hown lo h' A c (lv zs) hr (lv_one _)
    (by rw [hl]; simp only [maxLen]; omega) (by rw [hl]; omega) hbase
  rw [hl] at hrun h2
  rw [List.length_append]
  exact ⟨A', c', w', hrun, by rw [lv_append]; exact h2, h3⟩
/-- two slices that have no block of their own in common -/
def Apart (u v : Value) : Prop := ∀ g, u.ownBlock = some g → v.ownBlock = some g → False
theorem Apart.symm {u v : Value} (h : Apart u v) : Apart v u := fun g h1 h2 => h g h2 h1
theorem Apart.keeps {u v : Value} (h : Apart u v) : u.ownBlock = none ∨ u.ownBlock ≠ v.ownBlock := by
  cases hu : u.ownBlock with
  | none => exact .inl rfl
  | some g => exact .inr fun e => h g hu e.symm
/-- append of one row that a new block holds; what is answered lies where the rows lay, or in a block that is new -/
theorem wpList_push_bool {ops : Array Oper} {rest : List Oper} {o : Oper} {a : Act} {Q : Exit → Act → World → Prop} {w : World} {v : Value} {g : Nat} (base : Nat) (ys : List Bool) (z : Bool) (hgd : o.guard = none) (s x : Operand)
    (ho : o.op = .call { callee := .builtin .append, args := #[s, x], argTypes := #[25, 25] }) (hty : o.type = 25)
    (hs : a.eval s = v) (hx : a.eval x = .slice (some ⟨g, 0, none⟩) 1 1) (hcell : w.cell? ⟨g, 0, none⟩ = some (.bool z))
    (hown : w.ownsRow base 4 1 v ys.length (lv ys)) (hb : ys.length + 1 ≤ 17592186044416) (hbase : base ≤ w.heap.size)
    (h : ∀ A' c' w', w'.ownsRow base 4 1 (.slice A' (ys ++ [z]).length c') (ys ++ [z]).length (lv (ys ++ [z])) → w.grownBy w' v.ownBlock →
      ((Value.slice A' (ys ++ [z]).length c').ownBlock = v.ownBlock ∨ (Value.slice A' (ys ++ [z]).length c').ownBlock = some w.heap.size) → wpList Try.prog ops Q rest (a.put o.dst (.slice A' (ys.length + 1) c')) w') :
    wpList Try.prog ops Q (o :: rest) a w := by
  have hr : Rd w 0 w.heap.size (some ⟨g, 0, none⟩) 1 (lv [z]) := ⟨by simp [lv], by simp [maxLen], fun _ => ⟨g, 0, rfl, Nat.zero_le _, World.block_lt_of_cell? w _ hcell, fun j u hu => by
    match j, hu with
    | 0, hu =>
      simp [lv] at hu
      subst hu
      exact hcell
    | j + 1, hu => simp [lv] at hu⟩⟩
  obtain ⟨i0, hi0, hz0, hz1, hz2⟩ := info_parts Try.infoBool
  obtain ⟨A', c', w', hrun, h2, h3, h4⟩ := run_append_rd (P := Try.prog) w base 25 25 4 i0 _ 1 Try.underlying25 hi0 hz0 hz1 hz2 rfl v ys.length (lv ys) hown 0 w.heap.size _ 1 (lv [z]) hr (lv_one _)
    (by simp [lv, maxLen]; omega) (by simp [lv]; omega) hbase
  have hl : (lv [z]).length = 1 := rfl
  have hl2 : (ys ++ [z]).length = ys.length + 1 := by simp
  rw [hl] at hrun h2 h4
  exact wpList_append_run hgd s x _ _ ho hs hx (by rw [hty]; exact hrun) (h A' c' w' (by rw [lv_append, hl2]; exact h2) h3 (by rw [hl2]; exact h4))
/-- three lists of rows that grow, each in a block of its own -/
structure Tri (w : World) (base : Nat) (u v t : Value) (xs ys zs : List Bool) : Prop where
  o1 : w.ownsRow base 4 1 u xs.length (lv xs)
  o2 : w.ownsRow base 4 1 v ys.length (lv ys)
  o3 : w.ownsRow base 4 1 t zs.length (lv zs)
  a12 : Apart u v
  a13 : Apart u t
  a23 : Apart v t
theorem Tri.nil (w : World) (base : Nat) : Tri w base (.slice none 0 0) (.slice none 0 0) (.slice none 0 0) [] [] [] :=
  ⟨World.ownsRow_nil .., World.ownsRow_nil .., World.ownsRow_nil .., fun _ h => (by cases h), fun _ h => (by cases h), fun _ h => (by cases h)⟩
theorem Tri.rot {w : World} {base : Nat} {u v t : Value} {xs ys zs : List Bool} (h : Tri w base u v t xs ys zs) : Tri w base v t u ys zs xs :=
  ⟨h.o2, h.o3, h.o1, h.a23, h.a12.symm, h.a13.symm⟩
theorem Tri.push {w w2 : World} {base : Nat} {u v t u' : Value} {xs ys zs xs' : List Bool} (h : Tri w base u v t xs ys zs) (o : Obj) (h1 : w2.ownsRow base 4 1 u' xs'.length (lv xs')) (hg : (w.alloc o).grownBy w2 u.ownBlock)
    (hb : u'.ownBlock = u.ownBlock ∨ u'.ownBlock = some (w.alloc o).heap.size) : Tri w2 base u' v t xs' ys zs := by
  have hs : (w.alloc o).heap.size = w.heap.size + 1 := by simp
  have key : ∀ {s : Value} {ls : List Bool}, w.ownsRow base 4 1 s ls.length (lv ls) → Apart u s → Apart u' s := by
    intro s ls ho ha g hg1 hg2
    rcases hb with e | e
    · exact ha g (e ▸ hg1) hg2
    · rw [e] at hg1
      have := (ho.lt g hg2).2
      injection hg1 with hg1
      omega
  exact ⟨h1, (h.o2.alloc o).kept hg h.a12.symm.keeps, (h.o3.alloc o).kept hg h.a13.symm.keeps, key h.o2 h.a12, key h.o3 h.a13, h.a23⟩
theorem own_empty (w : World) (t : TypeId) : (w.alloc (.cells #[] t)).ownsRow w.heap.size t 1 (.slice (some ⟨w.heap.size, 0, none⟩) 0 0) 0 [] := by
  have := World.ownsRow_lit (e := t) (size := 1) (base := w.heap.size) w #[] 0 (Nat.le_refl _) (by simp [maxLen]) (by simp)
  exact this
end Go.Proofs.Ytfjclconpiibgaa
