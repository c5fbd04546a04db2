/-
  The best so far and the next one, held against one another: what is read of both, and who leads behind it.
-/
import Derived.Test.YtpollebfehdnjaaTrO
import Derived.Test.YtpollebfehdnjaaTrB
import Derived.Test.YtpollebfehdnjaaMgM
import Derived.OneCell
namespace Go.Proofs.Ytpollebfehdnjaa
set_option linter.unusedSimpArgs false
set_option linter.unusedVariables false
open Go.RowKit

theorem gain_at {bag : List (List UInt8)} {ns : List ByteArray} {cs : List Nat} (hc : Cnt bag (bytL2 ns) cs) {i : Nat} (hi : i < ns.length) (hic : i < cs.length) : gainL bag ns[i].data.toList = cs[i] * ns[i].size := by
  have := hc.cnt i (by rw [bytL2_length]; exact hi)
  rw [bytL2_get ns i hi] at this
  rw [gainL, ← this, lenS]
theorem wrap_gain {z s : Nat} (hz : z ≤ 5000) (hs : s ≤ 8) : IntKind.i64.wrap ((z : Int) * (s : Int)) = ((z * s : Nat) : Int) ∧ wrap64 ((z : Int) * (s : Int)) = ((z * s : Nat) : Int) := by
  have h1 : z * s ≤ 5000 * 8 := Nat.mul_le_mul hz hs
  rw [← Int.natCast_mul]
  exact ⟨IntWalk.i64_in _ (by omega), IntWalk.wrap64_in _ (by omega)⟩
/-- what a place of names and counts holds: its string, its count, its gain -/
structure Spot (w : World) (b1 o1 b2 o2 i : Nat) (t : ByteArray) (z G : Nat) : Prop where
  c1 : w.cell? ⟨b1, o1 + i, none⟩ = some (.string t)
  c2 : w.cell? ⟨b2, o2 + i, none⟩ = some (.int .i64 (z : Int))
  lt : t.size ≤ 8
  lz : z ≤ 5000
  w1 : Value.int .i64 (IntKind.i64.wrap ((z : Int) * (t.size : Int))) = .int .i64 (G : Int)
  w2 : Value.int .i64 (wrap64 ((z : Int) * (t.size : Int))) = .int .i64 (G : Int)
  lg : G ≤ 40000
theorem spot_of {w : World} {lo hi : Nat} {b1 o1 b2 o2 c1 d1 : Nat} {ns : List ByteArray} {cs : List Nat} {i : Nat} (h1 : Rd w lo hi (some ⟨b1, o1, none⟩) c1 (sv ns)) (h2 : Rd w lo hi (some ⟨b2, o2, none⟩) d1 (nz cs)) (hi1 : i < ns.length) (hi2 : i < cs.length)
    (hs : ns[i].size ≤ 8) (hz : cs[i] ≤ 5000) : Spot w b1 o1 b2 o2 i ns[i] cs[i] (cs[i] * ns[i].size) := by
  obtain ⟨b, off, he, _, _, hc1⟩ := h1.str hi1
  injection he with he
  injection he with e1 e2
  subst e1 e2
  obtain ⟨b, off, he, _, _, hc2⟩ := Rd.num (zs := cs.map fun (n : Nat) => (n : Int)) h2 (k := i) (by rw [List.length_map]; exact hi2)
  injection he with he
  injection he with e1 e2
  subst e1 e2
  rw [List.getElem_map] at hc2
  obtain ⟨hw1, hw2⟩ := wrap_gain hz hs
  exact ⟨hc1, hc2, hs, hz, by rw [hw1], by rw [hw2], Nat.le_trans (Nat.mul_le_mul hz hs) (by decide)⟩
/-- who leads behind one more -/
theorem rival {bag : List (List UInt8)} {ns : List ByteArray} {cs ks : List Nat} {i k : Nat} (hc : Cnt bag (bytL2 ns) cs) (hi : i < ns.length) (hic : i < cs.length) (hk : k < ns.length) (hkc : k < cs.length) (hki : k < i) (hkn : k ∉ ks) (hin : i ∉ ks)
    (hbt : ∀ j (hj : j < (bytL2 ns).length), j < i → j ∉ ks → j ≠ k → beats bag ((bytL2 ns)[k]'(by rw [bytL2_length]; exact hk)) (bytL2 ns)[j]) :
    (cs[k] * ns[k].size < cs[i] * ns[i].size → Lead bag (bytL2 ns) ks (i + 1) (i : Int)) ∧
    (cs[i] * ns[i].size = cs[k] * ns[k].size → cmpL ns[i].data.toList ns[k].data.toList < 0 → Lead bag (bytL2 ns) ks (i + 1) (i : Int)) ∧
    (cs[i] * ns[i].size = cs[k] * ns[k].size → ¬ cmpL ns[i].data.toList ns[k].data.toList < 0 → Lead bag (bytL2 ns) ks (i + 1) (k : Int)) ∧
    (cs[i] * ns[i].size < cs[k] * ns[k].size → Lead bag (bytL2 ns) ks (i + 1) (k : Int)) := by
  have hk2 : k < (bytL2 ns).length := by rw [bytL2_length]; exact hk
  have hi2 : i < (bytL2 ns).length := by rw [bytL2_length]; exact hi
  have hwin : beats bag ns[i].data.toList ns[k].data.toList → Lead bag (bytL2 ns) ks (i + 1) (i : Int) := fun h => lead_win hk2 hbt hi2 hin (by rw [bytL2_get ns i hi, bytL2_get ns k hk]; exact h)
  have hlose : beats bag ns[k].data.toList ns[i].data.toList → Lead bag (bytL2 ns) ks (i + 1) (k : Int) := fun h => lead_lose hk2 hki hkn hbt hi2 (by rw [bytL2_get ns i hi, bytL2_get ns k hk]; exact h)
  have hne : cmpL ns[i].data.toList ns[k].data.toList ≠ 0 := fun e => by
    have e2 := cmpL_zero e
    rw [← bytL2_get ns i hi, ← bytL2_get ns k hk] at e2
    have := (List.getElem_inj hc.once).1 e2
    omega
  have htn := cmpL_turn ns[i].data.toList ns[k].data.toList
  unfold beats at hwin hlose
  rw [gain_at hc hi hic, gain_at hc hk hkc] at hwin hlose
  rw [htn] at hlose
  exact ⟨fun h => hwin (Or.inl h), fun h1 h2 => hwin (Or.inr ⟨h1, h2⟩), fun h1 h2 => hlose (Or.inr ⟨h1.symm, by omega⟩), fun h => hlose (Or.inl h)⟩
theorem lit_add (g k : Nat) : (⟨g, 0, none⟩ : Addr).add k = ⟨g, k, none⟩ := by unfold Addr.add; by_cases h0 : k = 0 <;> simp [h0]
/-- one more is chosen: its flag is laid, its string appended -/
theorem chosen {wv : World} {u k n m c5 : Nat} {A5 : Option Addr} {ks : List Nat} {bs : List ByteArray} (t : ByteArray) (hO : wv.ownsRow u 4 1 (.slice (some ⟨u, 0, none⟩) n n) n (lv (usL n ks))) (hB : wv.ownsRow (u + 1) 9 1 (.slice A5 m c5) m (sv bs)) (hm : m = bs.length)
    (hk : k < n) (hn : k ∉ ks) (h254 : m ≤ 254) (hz : u + 1 ≤ wv.heap.size) :
    wv.frozen? ⟨u, k, none⟩ = false ∧ wv.cell? ⟨u, k, none⟩ = some (.bool false) ∧ ∃ A6 c6 w6, (Builtin.append_ #[22, 22] 22 #[.slice A5 m c5, .slice (some ⟨wv.heap.size, 0, none⟩) 1 1]).run Try.prog ((wv.setCell ⟨u, k, none⟩ (.bool true)).alloc (.cells #[.string t] 9)) = .ok (.slice A6 (m + 1) c6) w6 ∧
      w6.ownsRow u 4 1 (.slice (some ⟨u, 0, none⟩) n n) n (lv (usL n (ks ++ [k]))) ∧ w6.ownsRow (u + 1) 9 1 (.slice A6 (m + 1) c6) (m + 1) (sv (bs ++ [t])) ∧ Below u wv w6 ∧ u + 1 ≤ w6.heap.size := by
  subst hm
  have hz3 : (wv.setCell ⟨u, k, none⟩ (.bool true)).heap.size = wv.heap.size := by simp [World.setCell]
  have hcx := hO.cells (g := u) (by simp [Value.ownBlock]) k (.bool (decide (k ∈ ks))) (by rw [lv_get _ _ (by rw [usL_length]; exact hk), usL_get _ hk])
  rw [lit_add, decide_eq_false hn] at hcx
  obtain ⟨hO3, hg3⟩ := hO.stored k (.bool true)
  rw [← lv_set, usL_set ks hk] at hO3
  have hB3 := ownsRow_setCell_other hB (a := ⟨u, k, none⟩) (fun e => by have := (own_lt hB e).1; simp only at this; omega) (.bool true)
  obtain ⟨A6, c6, w6, hrun, ho6, hg6, _⟩ := append_str_at (wv.setCell ⟨u, k, none⟩ (.bool true)) (u + 1) (.slice A5 bs.length c5) bs t hB3 (by omega) (by rw [hz3]; exact hz)
  rw [hz3] at hrun
  have hb3 : Below u wv (wv.setCell ⟨u, k, none⟩ (.bool true)) := (Below.refl u wv).grown hg3 (by omega) (fun g hg => by simp [Value.ownBlock] at hg; omega)
  have hb6 : Below u wv w6 := (hb3.alloc (by rw [hz3]; omega) _).grown hg6 (by simp; omega) (fun g hg => by have := (own_lt hB3 hg).1; omega)
  refine ⟨hO.frozenAt k, hcx, A6, c6, w6, hrun, (hO3.alloc _).kept hg6 (Or.inr fun e => ?_), ho6, hb6, ?_⟩
  · have h2 : (Value.slice A5 bs.length c5).ownBlock = some u := e.symm
    have := (own_lt hB3 h2).1
    omega
  · have := hg6.size
    rw [World.size_alloc, hz3] at this
    omega
end Go.Proofs.Ytpollebfehdnjaa
