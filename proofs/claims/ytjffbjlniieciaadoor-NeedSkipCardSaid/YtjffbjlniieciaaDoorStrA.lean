/-
  Appends of strings to lists of strings, in this program.
-/
import Derived.Test.YtjffbjlniieciaaDoorRows
import Derived.Test.YtjffbjlniieciaaDoorStrM
import Derived.Laws.OwnMore
import Derived.Laws.MakeOwn
import Derived.Outline
import Derived.BigQuiet
import Derived.Deep.QuietTactic
namespace Go.Proofs.YtjffbjlniieciaaDoor
set_option linter.unusedSimpArgs false
set_option linter.unusedVariables false
open Go.RowKit

theorem Tryd.infoStr : (Tryd.prog.info? 9).map (fun i => (i.zero, i.size, i.bytes)) = some (some (.string ⟨#[]⟩), 1, 16) := by kernel_rfl
/-- append of strings onto strings of the call's own -/
theorem append_strs (w : World) (base : Nat) (v : Value) (ys zs us : List ByteArray) (hus : ys ++ zs = us) (hown : w.ownsRow base 9 1 v ys.length (sv ys)) {lo h' : Nat} {A : Option Addr} {c : Nat} (hr : Rd w lo h' A c (sv zs))
    (hb : ys.length + zs.length ≤ 1000000000) (hbase : base ≤ w.heap.size) :
    ∃ A' c' w', (Builtin.append_ #[52, 52] 52 #[v, .slice A zs.length c]).run Tryd.prog w = .ok (.slice A' us.length c') w' ∧
      w'.ownsRow base 9 1 (.slice A' us.length c') us.length (sv us) ∧ w.grownBy w' v.ownBlock := by
  subst hus
  obtain ⟨i0, hi0, hz0, hz1, hz2⟩ := info_parts Tryd.infoStr
  have hl := sv_length zs
  obtain ⟨A', c', w', hrun, h2, h3, _⟩ := run_append_rd (P := Tryd.prog) w base 52 52 9 i0 _ 16 Tryd.underlying52 hi0 hz0 hz1 hz2 rfl v ys.length (sv ys) hown lo h' A c (sv zs) hr (sv_one _)
    (by rw [hl]; simp only [maxLen]; omega) (by rw [hl]; omega) hbase
  rw [hl] at hrun h2
  rw [List.length_append]
  exact ⟨A', c', w', hrun, by rw [sv_append]; exact h2, h3⟩
/-- append of one string that a new block holds -/
theorem wpList_push_str {ops : Array Oper} {rest : List Oper} {o : Oper} {a : Act} {Q : Exit → Act → World → Prop} {w : World} {v : Value} {g : Nat} (base : Nat) (ys : List ByteArray) (z : ByteArray) (hgd : o.guard = none) (s x : Operand)
    (ho : o.op = .call { callee := .builtin .append, args := #[s, x], argTypes := #[52, 52] }) (hty : o.type = 52)
    (hs : a.eval s = v) (hx : a.eval x = .slice (some ⟨g, 0, none⟩) 1 1) (hcell : w.cell? ⟨g, 0, none⟩ = some (.string z))
    (hown : w.ownsRow base 9 1 v ys.length (sv ys)) (hb : ys.length + 1 ≤ 1000000000) (hbase : base ≤ w.heap.size)
    (h : ∀ A' c' w', w'.ownsRow base 9 1 (.slice A' (ys ++ [z]).length c') (ys ++ [z]).length (sv (ys ++ [z])) → w.grownBy w' v.ownBlock → wpList Tryd.prog ops Q rest (a.put o.dst (.slice A' (ys.length + 1) c')) w') :
    wpList Tryd.prog ops Q (o :: rest) a w := by
  have hr : Rd w 0 w.heap.size (some ⟨g, 0, none⟩) 1 (sv [z]) := ⟨by simp [sv], by simp [maxLen], fun _ => ⟨g, 0, rfl, Nat.zero_le _, World.block_lt_of_cell? w _ hcell, fun j u hu => by
    match j, hu with
    | 0, hu =>
      simp [sv] at hu
      subst hu
      exact hcell
    | j + 1, hu => simp [sv] at hu⟩⟩
  obtain ⟨A', c', w', hrun, h2, h3⟩ := append_strs w base v ys [z] (ys ++ [z]) rfl hown hr (by simpa using hb) hbase
  rw [show (ys ++ [z]).length = ys.length + 1 from by simp] at hrun
  exact wpList_append_run hgd s x _ _ ho hs hx (by rw [hty]; exact hrun) (h A' c' w' h2 h3)
end Go.Proofs.YtjffbjlniieciaaDoor
