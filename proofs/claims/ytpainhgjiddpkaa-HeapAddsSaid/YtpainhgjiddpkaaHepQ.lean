/-
  Heaps: Add where it may, as one; views and strings put behind others, and where they lie then.
-/
import Derived.Test.YtpainhgjiddpkaaHepC
import Derived.Test.YtpainhgjiddpkaaViwL
import Derived.Test.YtpainhgjiddpkaaStrM
import Derived.Great.BuildSlice
namespace Go.Proofs.Ytpainhgjiddpkaa
set_option linter.unusedSimpArgs false
set_option linter.unusedVariables false
open Go.RowKit

/-- what Add answers and leaves where a string may be added -/
structure Added (w w' : World) (lo g : Nat) (most : Int) (bs : List UInt8) (es : List Nat) (M : Nat → Prop) (s : List UInt8) (v bs' : List UInt8) (es' : List Nat) (M' : Nat → Prop) : Prop where
  len : v.length = 16
  hp : Hp w' lo g most bs' es' M'
  last : ed es' es'.length = bs'.length
  out : Out w w' M
  new : ∀ i, M' i → M i ∨ w.heap.size ≤ i
  found : findL bs' es' v = some s
  more : ∀ l x, findL bs es l = some x → findL bs' es' l = some x
  bytes : bs' = bs ++ if s.length ≤ 12 then [] else s
  ends : es'.length ≤ es.length + 1

theorem add_ok {w : World} {lo g : Nat} {most : Int} {bs : List UInt8} {es : List Nat} {M : Nat → Prop} (h : Hp w lo g most bs es M) (hl : ed es es.length = bs.length) (s : ByteArray) (hs : s.size ≤ 4096) (hes : es.length < 60000)
    (hroom : s.size ≤ 12 ∨ (s.size : Int) ≤ most - (bs.length : Int)) (hmo : 0 ≤ most ∧ most ≤ 9223372036854775807) (hbs : bs.length + s.size ≤ 1000000) :
    Calls Try.prog 11 #[hp g, .string s] w fun r w' => ∃ v bs' es' M', r = .returned (.tuple #[.agg (vb v), .int .i64 0]) ∧ Added w w' lo g most bs es M s.data.toList v bs' es' M' := by
  have hsz : s.data.toList.length = s.size := by rw [Array.length_toList]; rfl
  rcases Nat.lt_or_ge 12 s.size with h12 | h12
  · have hE := h.ends
    obtain ⟨hsp1, hsp2, hsp3⟩ := nextL_spot hE s.size
    have hfew := h.few
    have hle : (nextL es s.size).1 ≤ es.length := by omega
    refine (add_long h s h12 hs hes (by omega) hmo hbs).mono ?_
    rintro r w' ⟨rfl, M', hp', ho, hm⟩
    have hf := findL_new (bs := bs) (s := s.data.toList) hE hl hsp1 hsp2 hsp3 (by omega) (by omega) (by omega)
    have hmr := fun l x (hx : findL bs es l = some x) => findL_add (s := s.data.toList) hE hl hsp1 hx
    rw [hsz] at hf hmr
    refine ⟨_, _, _, M', rfl, longL_length (by omega) _ _, hp', ?_, ho, hm, hf, hmr, by rw [if_neg (by omega)], by rw [addE_length hle]; omega⟩
    rw [addE_last hle, List.length_append, hsz]
  · refine (add_short h s h12).mono ?_
    rintro r w' ⟨rfl, hb⟩
    refine ⟨_, bs, es, M, rfl, shortL_length (by omega), h.below hb (Nat.le_refl _), hl, Out.of_below hb, fun i hi => .inl hi, findL_short (by omega), fun l x hx => hx, by rw [if_pos (by omega), List.append_nil], by omega⟩

theorem Try.infoViw : (Try.prog.info? 28).map (fun i => (i.zero, i.size, i.bytes)) = some (some (.agg (vb zero16)), 16, 16) := by kernel_rfl
/-- a list of one view, laid -/
theorem wpList_buildView {ops : Array Oper} {rest : List Oper} {o : Oper} {a : Act} {w : World} {Q : Exit → Act → World → Prop} (v : List UInt8) (hl : v.length = 16) (hg : o.guard = none) (x : Operand) (ho : o.op = .buildSlice 27 1 #[(0, x)]) (hx : a.eval x = .agg (vb v))
    (h : wpList Try.prog ops Q rest (a.put o.dst (.slice (some ⟨w.heap.size, 0, none⟩) 1 1)) (w.alloc (.cells (vb v) 28))) : wpList Try.prog ops Q (o :: rest) a w := by
  obtain ⟨i0, hi0, hz0, hz1, hz2⟩ := info_parts Try.infoViw
  refine wpList_buildSlice hg _ _ 1 _ ho (vb v) i0 _ Try.underlying27 hi0 hz0 (by rw [hz1]; omega) (by rw [hz1]; omega) ?_ h
  have hf := Great.fill_whole (s := 16) (by omega) [.agg (vb v)] ((Array.range (1 * 16)).map ((Value.agg (vb zero16)).cells[· % (Value.agg (vb zero16)).cells.size]!)) (fun u hu => by
    rw [List.mem_singleton.1 hu]
    show (vb v).size = 16
    rw [vb_size, hl]) (by simp)
  have e : ([Value.agg (vb v)].flatMap fun u => u.cells.toList).toArray = vb v := by
    show ((vb v).toList ++ []).toArray = vb v
    rw [List.append_nil]
  rw [e] at hf
  rw [hz1]
  simp only [List.map_toArray, List.map_cons, List.map_nil, hx]
  exact hf
/-- append of one view that a block holds -/
theorem append_view (w : World) (base : Nat) (A : Option Addr) (n c : Nat) (ls : List (List UInt8)) (hn : ls.length = n) (l : List UInt8) (h16 : l.length = 16) (g : Nat) (hcells : w.rangeAt g 0 (bv l))
    (hown : w.ownsRow base 28 16 (.slice A n c) n (vvs ls)) (hb : n + 1 ≤ 1000000000) (hbase : base ≤ w.heap.size) :
    ∃ A' c' w', (Builtin.append_ #[27, 27] 27 #[.slice A n c, .slice (some ⟨g, 0, none⟩) 1 1]).run Try.prog w = .ok (.slice A' (n + 1) c') w' ∧
      w'.ownsRow base 28 16 (.slice A' (n + 1) c') (n + 1) (vvs (ls ++ [l])) ∧ w.grownBy w' (Value.slice A n c).ownBlock ∧ (∀ k, (Value.slice A' (n + 1) c').ownBlock = some k → (Value.slice A n c).ownBlock = some k ∨ k = w.heap.size) := by
  obtain ⟨i0, hi0, hz0, hz1, hz2⟩ := info_parts Try.infoViw
  obtain ⟨v', w', hrun, h2, h3, _, h5⟩ := run_append_own_at (P := Try.prog) w base 27 27 28 i0 _ 16 16 Try.underlying27 hi0 hz0 hz1 hz2 (by show (vb zero16).size = 16; rw [vb_size]; rfl) (by omega) _ n (vvs ls) hown ⟨g, 0, none⟩ 1 1 (bv l) (by rw [bv_length, h16])
    (fun j u hu => by
      have := hcells j u hu
      rwa [Nat.zero_add, show (⟨g, j, none⟩ : Addr) = (⟨g, 0, none⟩ : Addr).add j from by unfold Addr.add; by_cases h0 : j = 0 <;> simp [h0]] at this) (bv_one l) (by simp only [maxLen]; omega) (by omega) hbase
  obtain ⟨A', c', rfl, _⟩ := own_form w' h2
  refine ⟨A', c', w', hrun, by rw [vvs_snoc]; exact h2, h3, fun k hk => ?_⟩
  rcases h5 with h | h
  · exact .inl (h.symm.trans hk)
  · rw [hk] at h; injection h with h; exact .inr h

theorem Try.infoStr : (Try.prog.info? 9).map (fun i => (i.zero, i.size, i.bytes)) = some (some (.string ⟨#[]⟩), 1, 16) := by kernel_rfl
/-- append of one string that a block holds -/
theorem append_one (w : World) (base : Nat) (A : Option Addr) (n c : Nat) (ls : List ByteArray) (hn : ls.length = n) (s : ByteArray) (g : Nat) (hcell : w.cell? ⟨g, 0, none⟩ = some (.string s))
    (hown : w.ownsRow base 9 1 (.slice A n c) n (sv ls)) (hb : n + 1 ≤ 1000000000) (hbase : base ≤ w.heap.size) :
    ∃ A' c' w', (Builtin.append_ #[22, 22] 22 #[.slice A n c, .slice (some ⟨g, 0, none⟩) 1 1]).run Try.prog w = .ok (.slice A' (n + 1) c') w' ∧
      w'.ownsRow base 9 1 (.slice A' (n + 1) c') (n + 1) (sv (ls ++ [s])) ∧ w.grownBy w' (Value.slice A n c).ownBlock ∧ (∀ k, (Value.slice A' (n + 1) c').ownBlock = some k → (Value.slice A n c).ownBlock = some k ∨ k = w.heap.size) := by
  obtain ⟨i0, hi0, hz0, hz1, hz2⟩ := info_parts Try.infoStr
  obtain ⟨v', w', hrun, h2, h3, _, h5⟩ := run_append_own_at (P := Try.prog) w base 22 22 9 i0 _ 1 16 Try.underlying22 hi0 hz0 hz1 hz2 rfl (by omega) _ n (sv ls) hown ⟨g, 0, none⟩ 1 1 (sv [s]) (by simp [sv])
    (fun j u hu => by
      match j, hu with
      | 0, hu =>
        simp [sv] at hu
        subst hu
        exact hcell
      | j + 1, hu => simp [sv] at hu) (sv_one _) (by simp only [maxLen]; omega) (by omega) hbase
  obtain ⟨A', c', rfl, _⟩ := own_form w' h2
  refine ⟨A', c', w', hrun, by rw [sv_append]; exact h2, h3, fun k hk => ?_⟩
  rcases h5 with h | h
  · exact .inl (h.symm.trans hk)
  · rw [hk] at h; injection h with h; exact .inr h
end Go.Proofs.Ytpainhgjiddpkaa
