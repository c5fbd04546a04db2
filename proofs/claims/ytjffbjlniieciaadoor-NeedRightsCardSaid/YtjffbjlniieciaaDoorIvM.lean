/-
  Lists of whole numbers as cells. No program is named here.
-/
import Derived.Test.YtjffbjlniieciaaDoorMem
namespace Go.Proofs.YtjffbjlniieciaaDoor
set_option linter.unusedSimpArgs false
set_option linter.unusedVariables false

/-- whole numbers as the values of their cells -/
def iv (l : List Int) : List Value := l.map fun z => .int .i64 z
theorem iv_length (l : List Int) : (iv l).length = l.length := by simp [iv]
theorem iv_append (a b : List Int) : iv (a ++ b) = iv a ++ iv b := by simp [iv]
theorem iv_take (l : List Int) (k : Nat) : iv (l.take k) = (iv l).take k := by simp [iv, List.map_take]
theorem iv_get (l : List Int) (k : Nat) (h : k < l.length) : (iv l)[k]? = some (.int .i64 l[k]) := by
  simp [iv, List.getElem?_eq_getElem h]
theorem iv_one (l : List Int) : ∀ u ∈ iv l, u.oneCell' = true := by
  intro u hu
  obtain ⟨c, _, rfl⟩ := List.mem_map.1 hu
  rfl
/-- the cell of a number that is read -/
theorem Rd.num {w : World} {lo hi c : Nat} {A : Option Addr} {zs : List Int} (h : Rd w lo hi A c (iv zs)) {k : Nat} (hk : k < zs.length) :
    ∃ b off, A = some ⟨b, off, none⟩ ∧ lo ≤ b ∧ b < hi ∧ w.cell? ⟨b, off + k, none⟩ = some (.int .i64 zs[k]) := by
  obtain ⟨b, off, e, h1, h2, h3⟩ := h.at_ (by rw [iv_length]; omega)
  exact ⟨b, off, e, h1, h2, h3 k _ (iv_get zs k hk)⟩

def Word (zs : List Int) : Prop := ∀ z ∈ zs, -9223372036854775808 ≤ z ∧ z ≤ 9223372036854775807
theorem Word.take {zs : List Int} (h : Word zs) (k : Nat) : Word (zs.take k) := fun z hz => h z (List.mem_of_mem_take hz)
/-- natural numbers as whole ones -/
def ints (ns : List Nat) : List Int := ns.map fun n : Nat => (n : Int)
theorem ints_length (ns : List Nat) : (ints ns).length = ns.length := by simp [ints]
/-- a list that is written out -/
theorem rd_ints (w : World) (t : TypeId) (zs : List Int) (cs : Array Value) (h : cs.toList = iv zs) (hm : zs.length ≤ 1000) :
    Rd (w.alloc (.cells cs t)) 0 (w.heap.size + 1) (some ⟨w.heap.size, 0, none⟩) zs.length (iv zs) := by
  refine ⟨by rw [iv_length]; exact Nat.le_refl _, by simp only [maxLen]; omega, fun _ => ⟨w.heap.size, 0, rfl, Nat.zero_le _, by omega, fun j u hu => ?_⟩⟩
  rw [Nat.zero_add, (Blk.new w t cs).cell]
  rw [← h] at hu
  simpa using hu
end Go.Proofs.YtjffbjlniieciaaDoor
