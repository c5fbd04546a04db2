/-
  Heaps beside a list of views: each view is that of its string; one more added and put behind.
-/
import Derived.Test.YtpainhgjiddpkaaHepQ
import Derived.Test.YtpainhgjiddpkaaAwaH
namespace Go.Proofs.Ytpainhgjiddpkaa
set_option linter.unusedSimpArgs false
set_option linter.unusedVariables false
open Go.RowKit

theorem Out.more {w w' : World} {X Y : Nat → Prop} (h : Out w w' X) (hX : ∀ i, X i → Y i) : Out w w' Y := ⟨h.os, h.tape, h.output, h.size, fun k hk hy => h.block k hk (fun hx => hy (hX k hx))⟩

/-- the bytes of the long ones, one behind the other -/
def longs (ss : List ByteArray) : List UInt8 := ss.flatMap fun s => if s.size ≤ 12 then [] else s.data.toList
theorem longs_snoc (ss : List ByteArray) (s : ByteArray) : longs (ss ++ [s]) = longs ss ++ if s.size ≤ 12 then [] else s.data.toList := by simp [longs]
theorem longs_le : ∀ (ss : List ByteArray), (longs ss).length ≤ total ss
  | [] => by simp [longs, total]
  | s :: ss => by
    have h := longs_le ss
    have e : longs (s :: ss) = (if s.size ≤ 12 then [] else s.data.toList) ++ longs ss := rfl
    rw [e, List.length_append]
    have hs : s.data.toList.length = s.size := by rw [Array.length_toList]; rfl
    unfold total
    split
    · simp; omega
    · omega

structure Vws (w : World) (base lo g : Nat) (most : Int) (bs : List UInt8) (es : List Nat) (M : Nat → Prop) (ss : List ByteArray) (n : Nat) (A : Option Addr) (c : Nat) (vs : List (List UInt8)) : Prop where
  hp : Hp w lo g most bs es M
  last : ed es es.length = bs.length
  own : w.ownsRow base 28 16 (.slice A n c) n (vvs vs)
  cnt : ss.length = n
  len : vs.length = n
  all : All16 vs
  found : ∀ j (h1 : j < vs.length) (h2 : j < ss.length), findL bs es vs[j] = some ss[j].data.toList
  bytes : bs = longs ss
  ends : es.length ≤ n
  apart : ∀ i, (Value.slice A n c).ownBlock = some i → ¬ M i

section
variable {w w' w1 w3 w4 : World} {base lo g n c c' : Nat} {most : Int} {bs bs' : List UInt8} {es es' : List Nat} {M M' : Nat → Prop} {ss : List ByteArray} {A A' : Option Addr} {vs : List (List UInt8)} {v : List UInt8} {s : ByteArray}
theorem Vws.below (h : Vws w base lo g most bs es M ss n A c vs) (hb : Below w.heap.size w w') : Vws w' base lo g most bs es M ss n A c vs :=
  { h with hp := h.hp.below hb (Nat.le_refl _), own := own_below h.own hb (Nat.le_refl _) }
/-- the row where one more is put behind it -/
theorem Vws.row (h : Vws w base lo g most bs es M ss n A c vs) (ad : Added w w1 lo g most bs es M s.data.toList v bs' es' M') (hb : Below w1.heap.size w1 w3) : w3.ownsRow base 28 16 (.slice A n c) n (vvs vs) :=
  own_below (own_out h.own ad.out h.apart) hb (Nat.le_refl _)
theorem Vws.next (h : Vws w base lo g most bs es M ss n A c vs) (ad : Added w w1 lo g most bs es M s.data.toList v bs' es' M') (hb : Below w1.heap.size w1 w3)
    (h2 : w4.ownsRow base 28 16 (.slice A' (n + 1) c') (n + 1) (vvs (vs ++ [v]))) (hg : w3.grownBy w4 (Value.slice A n c).ownBlock) (hk : ∀ k, (Value.slice A' (n + 1) c').ownBlock = some k → (Value.slice A n c).ownBlock = some k ∨ k = w3.heap.size) :
    Vws w4 base lo g most bs' es' M' (ss ++ [s]) (n + 1) A' c' (vs ++ [v]) ∧ Out w w4 (fun i => M i ∨ (Value.slice A n c).ownBlock = some i) := by
  have hsz : s.data.toList.length = s.size := by rw [Array.length_toList]; rfl
  have hs1 := ad.out.size
  have hs3 := hb.size
  have hown : ∀ i, (Value.slice A n c).ownBlock = some i → ¬ M' i := fun i hi hm => by
    rcases ad.new i hm with h1 | h1
    · exact h.apart i hi h1
    · have := (own_lt h.own hi).2; omega
  refine ⟨⟨?_, ad.last, h2, by rw [List.length_append, h.cnt]; rfl, by rw [List.length_append, h.len]; rfl, h.all.snoc ad.len, ?_, ?_, ?_, ?_⟩, ?_⟩
  · exact (ad.hp.below hb (Nat.le_refl _)).out (Out.of_gb (X := fun i => (Value.slice A n c).ownBlock = some i) hg (fun k hk => hk)) (fun i hi hx => hown i hx hi)
  · intro j h1 h2
    rcases Nat.lt_or_ge j n with hj | hj
    · rw [List.getElem_append_left (by rw [h.len]; exact hj), List.getElem_append_left (by rw [h.cnt]; exact hj)]
      exact ad.more _ _ (h.found j _ _)
    · have hj2 : j = n := by rw [List.length_append, h.cnt] at h2; simp at h2; omega
      subst hj2
      rw [List.getElem_append_right (by rw [h.len]; exact Nat.le_refl _), List.getElem_append_right (by rw [h.cnt]; exact Nat.le_refl _)]
      simp only [h.len, h.cnt, Nat.sub_self, List.getElem_cons_zero]
      exact ad.found
  · rw [longs_snoc, ad.bytes, h.bytes, hsz]
  · have := ad.ends; have := h.ends; omega
  · intro i hi hm
    rcases hk i hi with h1 | h1
    · exact hown i h1 hm
    · have := (ad.hp.mine i hm).2; omega
  · exact ((ad.out.trans (Out.of_below (X := fun _ => False) hb) (fun _ _ h => h.elim)).more (fun i hi => .inl hi)).trans (Y := fun i => (Value.slice A n c).ownBlock = some i) (Out.of_gb hg (fun k hk => hk)) (fun i _ hi => .inr hi)
end
end Go.Proofs.Ytpainhgjiddpkaa
