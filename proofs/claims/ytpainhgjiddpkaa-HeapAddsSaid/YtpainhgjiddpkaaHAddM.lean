/-
  Heaps beside a list of views and a list of their strings: what HeapAdds' rounds keep.
-/
import Derived.Test.YtpainhgjiddpkaaHepR
import Derived.Test.YtpainhgjiddpkaaHGetM
namespace Go.Proofs.Ytpainhgjiddpkaa
set_option linter.unusedSimpArgs false
set_option linter.unusedVariables false
open Go.RowKit

theorem run_eq16 (w : World) (a b : List UInt8) (ha : a.length = 16) (hb : b.length = 16) : (Op.equalIn 10000 28 (.agg (vb a)) (.agg (vb b))).run Try.prog w = .ok (decide (a = b)) w :=
  run_equalIn_vb (P := Try.prog) w 9998 28 16 Try.underlying5 (by obtain ⟨i0, hi0, hz0, hz1, hz2⟩ := info_parts Try.infoU8; rw [hi0]; simp [hz1]) Try.underlying28 a b ha hb
theorem guard16 : Try.prog.eqGuardType Try.prog.depth 28 = false := by kernel_rfl
/-- a view out of a list's block -/
theorem wpList_loadM {ops : Array Oper} {rest : List Oper} {o : Oper} {a : Act} {w : World} {Q : Exit → Act → World → Prop} {g off : Nat} {l : List UInt8} (hr : w.rangeAt g off (bv l)) (hl : l.length = 16) (hw : Region.wanted o (yielded ops a.tmps) = true) (x : Operand)
    (ho : o.op = .load 28 x) (hx : a.eval x = .pointer (some ⟨g, off, none⟩)) (h : wpList Try.prog ops Q rest (a.put o.dst (.agg (vb l))) w) : wpList Try.prog ops Q (o :: rest) a w :=
  BigFrame.wpList_want hw fun _ hK => wp_load_mid _ x ho g off hx (bv l) _ hr Try.underlying28 rfl (sizeV (by rw [bv_length]; exact hl)) (hK _ _ h)
theorem str_append (a b : ByteArray) : (a ++ b).data.toList = a.data.toList ++ b.data.toList := by
  rw [ByteArray.data_append, Array.toList_append]

structure Adds (w : World) (base lo g : Nat) (most : Int) (bs : List UInt8) (es : List Nat) (M : Nat → Prop) (ss : List ByteArray) (n : Nat) (A : Option Addr) (c : Nat) (vs : List (List UInt8)) (A2 : Option Addr) (c2 : Nat) : Prop where
  v : Vws w base lo g most bs es M ss n A c vs
  row : w.ownsRow base 9 1 (.slice A2 n c2) n (sv ss)
  apart : ∀ i, (Value.slice A2 n c2).ownBlock = some i → ¬ M i
  twain : ∀ i, (Value.slice A2 n c2).ownBlock = some i → (Value.slice A n c).ownBlock ≠ some i
section
variable {w w' w1 w2 w3 w4 w5 : World} {base lo g n c c' c2 c2' : Nat} {most : Int} {bs bs' : List UInt8} {es es' : List Nat} {M M' : Nat → Prop} {ss : List ByteArray} {A A' A2 A2' : Option Addr} {vs : List (List UInt8)} {v : List UInt8} {s : ByteArray}
theorem Adds.below (h : Adds w base lo g most bs es M ss n A c vs A2 c2) (hb : Below w.heap.size w w') : Adds w' base lo g most bs es M ss n A c vs A2 c2 :=
  ⟨h.v.below hb, own_below h.row hb (Nat.le_refl _), h.apart, h.twain⟩
theorem Adds.rowIn (h : Adds w base lo g most bs es M ss n A c vs A2 c2) (ad : Added w w1 lo g most bs es M s.data.toList v bs' es' M') (hb1 : Below w1.heap.size w1 w2) : w2.ownsRow base 9 1 (.slice A2 n c2) n (sv ss) :=
  own_below (own_out h.row ad.out h.apart) hb1 (Nat.le_refl _)
theorem Adds.rowAt (h : Adds w base lo g most bs es M ss n A c vs A2 c2) (ad : Added w w1 lo g most bs es M s.data.toList v bs' es' M') (hb1 : Below w1.heap.size w1 w2) (hg : w2.grownBy w3 (Value.slice A2 n c2).ownBlock) (hb3 : Below w3.heap.size w3 w4) :
    w4.ownsRow base 28 16 (.slice A n c) n (vvs vs) :=
  own_below (own_out (h.v.row ad hb1) (Out.of_gb (X := fun i => (Value.slice A2 n c2).ownBlock = some i) hg (fun _ hk => hk)) (fun k hk hx => h.twain k hx hk)) hb3 (Nat.le_refl _)
theorem Adds.next (h : Adds w base lo g most bs es M ss n A c vs A2 c2) (ad : Added w w1 lo g most bs es M s.data.toList v bs' es' M') (hb1 : Below w1.heap.size w1 w2)
    (hi : w3.ownsRow base 9 1 (.slice A2' (n + 1) c2') (n + 1) (sv (ss ++ [s]))) (hgi : w2.grownBy w3 (Value.slice A2 n c2).ownBlock) (hki : ∀ k, (Value.slice A2' (n + 1) c2').ownBlock = some k → (Value.slice A2 n c2).ownBlock = some k ∨ k = w2.heap.size)
    (hb3 : Below w3.heap.size w3 w4)
    (ha : w5.ownsRow base 28 16 (.slice A' (n + 1) c') (n + 1) (vvs (vs ++ [v]))) (hga : w4.grownBy w5 (Value.slice A n c).ownBlock) (hka : ∀ k, (Value.slice A' (n + 1) c').ownBlock = some k → (Value.slice A n c).ownBlock = some k ∨ k = w4.heap.size) :
    Adds w5 base lo g most bs' es' M' (ss ++ [s]) (n + 1) A' c' (vs ++ [v]) A2' c2' ∧ Out w w5 (fun i => M i ∨ (Value.slice A n c).ownBlock = some i ∨ (Value.slice A2 n c2).ownBlock = some i) := by
  have hsz : s.data.toList.length = s.size := by rw [Array.length_toList]; rfl
  have hs1 := ad.out.size
  have hs2 := hb1.size
  have hs3 := hgi.size
  have hs4 := hb3.size
  have hownA : ∀ i, (Value.slice A n c).ownBlock = some i → ¬ M' i := fun i hi hm => by
    rcases ad.new i hm with h1 | h1
    · exact h.v.apart i hi h1
    · have := (own_lt h.v.own hi).2; omega
  have hownI : ∀ i, (Value.slice A2 n c2).ownBlock = some i → ¬ M' i := fun i hi hm => by
    rcases ad.new i hm with h1 | h1
    · exact h.apart i hi h1
    · have := (own_lt h.row hi).2; omega
  have hp3 : Hp w3 lo g most bs' es' M' := (ad.hp.below hb1 (Nat.le_refl _)).out (Out.of_gb (X := fun i => (Value.slice A2 n c2).ownBlock = some i) hgi (fun _ hk => hk)) (fun i hm hx => hownI i hx hm)
  have hp5 : Hp w5 lo g most bs' es' M' := (hp3.below hb3 (Nat.le_refl _)).out (Out.of_gb (X := fun i => (Value.slice A n c).ownBlock = some i) hga (fun _ hk => hk)) (fun i hm hx => hownA i hx hm)
  have htw : ∀ i, (Value.slice A2' (n + 1) c2').ownBlock = some i → (Value.slice A n c).ownBlock ≠ some i := fun i h1 h2 => by
    rcases hki i h1 with h3 | h3
    · exact h.twain i h3 h2
    · have := (own_lt h.v.own h2).2; omega
  refine ⟨⟨⟨hp5, ad.last, ha, by rw [List.length_append, h.v.cnt]; rfl, by rw [List.length_append, h.v.len]; rfl, h.v.all.snoc ad.len, ?_, ?_, ?_, ?_⟩, ?_, ?_, ?_⟩, ?_⟩
  · intro j h1 h2
    rcases Nat.lt_or_ge j n with hj | hj
    · rw [List.getElem_append_left (by rw [h.v.len]; exact hj), List.getElem_append_left (by rw [h.v.cnt]; exact hj)]
      exact ad.more _ _ (h.v.found j _ _)
    · have hj2 : j = n := by rw [List.length_append, h.v.cnt] at h2; simp at h2; omega
      subst hj2
      rw [List.getElem_append_right (by rw [h.v.len]; exact Nat.le_refl _), List.getElem_append_right (by rw [h.v.cnt]; exact Nat.le_refl _)]
      simp only [h.v.len, h.v.cnt, Nat.sub_self, List.getElem_cons_zero]
      exact ad.found
  · rw [longs_snoc, ad.bytes, h.v.bytes, hsz]
  · have := ad.ends; have := h.v.ends; omega
  · intro i hi hm
    rcases hka i hi with h1 | h1
    · exact hownA i h1 hm
    · have := (hp3.mine i hm).2; omega
  · exact own_out (own_below hi hb3 (Nat.le_refl _)) (Out.of_gb (X := fun i => (Value.slice A n c).ownBlock = some i) hga (fun _ hk => hk)) (fun k hk hx => htw k hk hx)
  · intro i h1 hm
    rcases hki i h1 with h3 | h3
    · exact hownI i h3 hm
    · have := ((ad.hp.below hb1 (Nat.le_refl _)).mine i hm).2; omega
  · intro i h1 h2
    rcases hka i h2 with h3 | h3
    · exact htw i h1 h3
    · have := (own_lt hi h1).2; omega
  · have o1 := ad.out.trans (Out.of_below (X := fun _ => False) hb1) (fun _ _ h => h.elim)
    have o2 := (o1.more (Y := fun i => M i ∨ (Value.slice A n c).ownBlock = some i ∨ (Value.slice A2 n c2).ownBlock = some i) (fun i hi => .inl hi)).trans (Y := fun i => (Value.slice A2 n c2).ownBlock = some i) (Out.of_gb hgi (fun _ hk => hk)) (fun i _ hi => .inr (.inr hi))
    have o3 := o2.trans (Out.of_below (X := fun _ => False) hb3) (fun _ _ h => h.elim)
    exact o3.trans (Y := fun i => (Value.slice A n c).ownBlock = some i) (Out.of_gb hga (fun _ hk => hk)) (fun i _ hi => .inr (.inl hi))
end
end Go.Proofs.Ytpainhgjiddpkaa
