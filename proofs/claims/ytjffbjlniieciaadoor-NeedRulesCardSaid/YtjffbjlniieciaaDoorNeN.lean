/-
  The laws of layer 16: the contrary of a predicate, as the laws make it.
-/
import Derived.Test.YtjffbjlniieciaaDoorMgE
namespace Go.Proofs.YtjffbjlniieciaaDoor
set_option linter.unusedSimpArgs false
set_option linter.unusedVariables false
open Go.RowKit

set_option maxRecDepth 20000 in
set_option maxHeartbeats 4000000 in
theorem not_any {w : World} {p : Pr} {A : Option Addr} {c : Nat} (ho : PrOk p) (hk : Kin w 0 w.heap.size p.kids A c) :
    Calls Tryd.prog 20 #[.agg #[.int .i64 p.kind, .int .i64 p.col, .string p.s, .int .i64 p.esc, .int .i64 p.coll, .slice A p.kids.length c]] w fun r w' => ∃ b, r = .returned (.agg #[.int .i64 14, .int .i64 0, .string ⟨#[]⟩, .int .i64 0, .int .i64 0, .slice (some ⟨b, 0, none⟩) 1 1]) ∧ w.heap.size ≤ b ∧ Blk w' b 24 #[.int .i64 p.kind, .int .i64 p.col, .string p.s, .int .i64 p.esc, .int .i64 p.coll, .slice A p.kids.length c] ∧ Below w.heap.size w w' := by
  have hkl := hk.len
  have HO := Lib.hid ho
  have HK := Lib.hid hk
  clear ho hk
  go_enter Tryd.func20, Tryd.ntmps20
  go_wp2
  obtain ⟨w1, hw1⟩ : ∃ q, w.alloc (.cells #[.int .i64 p.kind, .int .i64 p.col, .string p.s, .int .i64 p.esc, .int .i64 p.coll, .slice A p.kids.length c] 24) = q := ⟨_, rfl⟩
  rw [hw1]
  have hb1 : Below w.heap.size w w1 := by rw [← hw1]; exact (Below.refl _ _).alloc (Nat.le_refl _) _
  have hz1 : w1.heap.size = w.heap.size + 1 := by rw [← hw1]; simp
  obtain ⟨w2, hw2⟩ : ∃ q, w1.alloc (.cells #[.int .i64 14, .int .i64 0, .string ⟨#[]⟩, .int .i64 0, .int .i64 0, .slice (some ⟨w.heap.size + 1 + 1, 0, none⟩) 1 1] 24) = q := ⟨_, rfl⟩
  rw [hw2]
  have hb2 : Below w1.heap.size w1 w2 := by rw [← hw2]; exact (Below.refl _ _).alloc (Nat.le_refl _) _
  have hz2 : w2.heap.size = w.heap.size + 1 + 1 := by rw [← hw2, World.size_alloc, hz1]
  have hk2 : Blk w2 (w.heap.size + 1) 24 #[.int .i64 14, .int .i64 0, .string ⟨#[]⟩, .int .i64 0, .int .i64 0, .slice (some ⟨w.heap.size + 1 + 1, 0, none⟩) 1 1] := by rw [← hw2, ← hz1]; exact Blk.new _ _ _
  have hbb : Below w.heap.size w w2 := hb1.trans (hb2.mono hb1.size)
  have hkin := Blk.new w2 24 #[.int .i64 p.kind, .int .i64 p.col, .string p.s, .int .i64 p.esc, .int .i64 p.coll, .slice A p.kids.length c]
  rw [hz2] at hkin
  have hk3 := hk2.alloc (.cells #[.int .i64 p.kind, .int .i64 p.col, .string p.s, .int .i64 p.esc, .int .i64 p.coll, .slice A p.kids.length c] 24)
  refine bodyPost_ret (v := .agg #[.int .i64 14, .int .i64 0, .string ⟨#[]⟩, .int .i64 0, .int .i64 0, .slice (some ⟨w.heap.size + 1 + 1, 0, none⟩) 1 1]) ?_ rfl ⟨w.heap.size + 1 + 1, rfl, by omega, hkin, hbb.alloc hbb.size _⟩
  exact results_cell_row rfl _ _ (w.heap.size + 1) 24 _ (0, 0) _ rfl hk3 Tryd.underlying24 rfl (by kernel_rfl)
/-- one predicate that a block holds, two that one holds side by side -/
theorem kin_blk1 {w : World} {t : TypeId} {p : Pr} {A : Option Addr} {c b : Nat} (ho : PrOk p) (hp : Kin w 0 w.heap.size p.kids A c) (hb : Blk w b t #[.int .i64 p.kind, .int .i64 p.col, .string p.s, .int .i64 p.esc, .int .i64 p.coll, .slice A p.kids.length c]) : Kin w 0 w.heap.size [p] (some ⟨b, 0, none⟩) 1 := by
  refine .mk [p] _ 1 (fun _ => A) (fun _ => c) ⟨by simp, by simp [maxLen], fun _ => ⟨b, 0, rfl, Nat.zero_le _, hb.lt, fun j hj i hi => ?_⟩⟩ (fun j hj => ?_) (fun j hj => ?_)
  · rw [Nat.zero_add, hb.cell]
    obtain rfl : j = 0 := by simpa using hj
    match i, hi with
    | 0, _ => rfl
    | 1, _ => rfl
    | 2, _ => rfl
    | 3, _ => rfl
    | 4, _ => rfl
    | 5, _ => rfl
  · obtain rfl : j = 0 := by simpa using hj
    exact ho
  · obtain rfl : j = 0 := by simpa using hj
    exact hp
theorem kin_blk2 {w : World} {t : TypeId} {p q : Pr} {A B : Option Addr} {c d b : Nat} (ho : PrOk p) (ho2 : PrOk q) (hp : Kin w 0 w.heap.size p.kids A c) (hq : Kin w 0 w.heap.size q.kids B d)
    (hb : Blk w b t #[.int .i64 p.kind, .int .i64 p.col, .string p.s, .int .i64 p.esc, .int .i64 p.coll, .slice A p.kids.length c, .int .i64 q.kind, .int .i64 q.col, .string q.s, .int .i64 q.esc, .int .i64 q.coll, .slice B q.kids.length d]) : Kin w 0 w.heap.size [p, q] (some ⟨b, 0, none⟩) 2 := by
  refine .mk [p, q] _ 2 (fun j => if j = 0 then A else B) (fun j => if j = 0 then c else d) ⟨by simp, by simp [maxLen], fun _ => ⟨b, 0, rfl, Nat.zero_le _, hb.lt, fun j hj i hi => ?_⟩⟩ (fun j hj => ?_) (fun j hj => ?_)
  · rw [Nat.zero_add, hb.cell]
    have hj2 : j = 0 ∨ j = 1 := by simp at hj; omega
    rcases hj2 with rfl | rfl
    · match i, hi with
      | 0, _ => rfl
      | 1, _ => rfl
      | 2, _ => rfl
      | 3, _ => rfl
      | 4, _ => rfl
      | 5, _ => rfl
    · match i, hi with
      | 0, _ => rfl
      | 1, _ => rfl
      | 2, _ => rfl
      | 3, _ => rfl
      | 4, _ => rfl
      | 5, _ => rfl
  · have hj2 : j = 0 ∨ j = 1 := by simp at hj; omega
    rcases hj2 with rfl | rfl
    · exact ho
    · exact ho2
  · have hj2 : j = 0 ∨ j = 1 := by simp at hj; omega
    rcases hj2 with rfl | rfl
    · exact hp
    · exact hq
/-- six cells stored one by one: what stands there, what stands elsewhere -/
theorem put6 {w : World} {g : Nat} {t : TypeId} {a0 a1 a2 a3 a4 a5 : Value} (b0 b1 b2 b3 b4 b5 : Value) (h : Blk w g t #[a0, a1, a2, a3, a4, a5]) :
    Blk ((((((w.setCell ⟨g, 0, none⟩ b0).setCell ⟨g, 1, none⟩ b1).setCell ⟨g, 2, none⟩ b2).setCell ⟨g, 3, none⟩ b3).setCell ⟨g, 4, none⟩ b4).setCell ⟨g, 5, none⟩ b5) g t #[b0, b1, b2, b3, b4, b5] :=
  (((((h.put 0 b0).put 1 b1).put 2 b2).put 3 b3).put 4 b4).put 5 b5
theorem far6 {w : World} {g b : Nat} {t : TypeId} {cs : Array Value} (b0 b1 b2 b3 b4 b5 : Value) (h : Blk w b t cs) (hn : b ≠ g) :
    Blk ((((((w.setCell ⟨g, 0, none⟩ b0).setCell ⟨g, 1, none⟩ b1).setCell ⟨g, 2, none⟩ b2).setCell ⟨g, 3, none⟩ b3).setCell ⟨g, 4, none⟩ b4).setCell ⟨g, 5, none⟩ b5) b t cs :=
  (((((h.far (p := ⟨g, 0, none⟩) hn _).far (p := ⟨g, 1, none⟩) hn _).far (p := ⟨g, 2, none⟩) hn _).far (p := ⟨g, 3, none⟩) hn _).far (p := ⟨g, 4, none⟩) hn _).far (p := ⟨g, 5, none⟩) hn _
theorem below6 {a w : World} {B g : Nat} (b0 b1 b2 b3 b4 b5 : Value) (h : Below B a w) (hg : B ≤ g) :
    Below B a ((((((w.setCell ⟨g, 0, none⟩ b0).setCell ⟨g, 1, none⟩ b1).setCell ⟨g, 2, none⟩ b2).setCell ⟨g, 3, none⟩ b3).setCell ⟨g, 4, none⟩ b4).setCell ⟨g, 5, none⟩ b5) :=
  (((((h.setCell (p := ⟨g, 0, none⟩) hg _).setCell (p := ⟨g, 1, none⟩) hg _).setCell (p := ⟨g, 2, none⟩) hg _).setCell (p := ⟨g, 3, none⟩) hg _).setCell (p := ⟨g, 4, none⟩) hg _).setCell (p := ⟨g, 5, none⟩) hg _
/-- the contrary of a predicate, as Says and not read it -/
theorem not_kin {w : World} {p : Pr} {A : Option Addr} {c : Nat} (ho : PrOk p) (hk : Kin w 0 w.heap.size p.kids A c) :
    Calls Tryd.prog 20 #[.agg #[.int .i64 p.kind, .int .i64 p.col, .string p.s, .int .i64 p.esc, .int .i64 p.coll, .slice A p.kids.length c]] w fun r w' => ∃ b, r = .returned (.agg #[.int .i64 14, .int .i64 0, .string ⟨#[]⟩, .int .i64 0, .int .i64 0, .slice (some ⟨b, 0, none⟩) 1 1]) ∧ Kin w' 0 w'.heap.size [p] (some ⟨b, 0, none⟩) 1 ∧ Below w.heap.size w w' := by
  refine (not_any ho hk).mono ?_
  rintro r w' ⟨b, rfl, _, hb, hbl⟩
  exact ⟨b, rfl, kin_blk1 ho (Kin.wide (Nat.le_refl _) hbl.size (hk.kept hbl (Nat.le_refl _))) hb, hbl⟩
end Go.Proofs.YtjffbjlniieciaaDoor
