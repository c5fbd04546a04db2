/-
  Heaps: a string put behind all bytes.
-/
import Derived.Test.YtpainhgjiddpkaaHepB
import Derived.Deep.RegionLaw
namespace Go.Proofs.Ytpainhgjiddpkaa
set_option linter.unusedSimpArgs false
set_option linter.unusedVariables false
open Go.RowKit

/-- append of one number that a new block holds, where a region draws its order -/
theorem step_append_num {ops : Array Oper} {o : Oper} {a : Act} {w : World} {K : Act → World → Prop} {Q : Exit → Act → World → Prop} {F : Prop} {v : Value} {g : Nat} (base : Nat) (ys : List Int) (n : Nat) (hn : ys.length = n) (z : Int) (hgd : o.guard = none) (s x : Operand)
    (ho : o.op = .call { callee := .builtin .append, args := #[s, x], argTypes := #[51, 51] }) (hty : o.type = 51)
    (hs : a.eval s = v) (hx : a.eval x = .slice (some ⟨g, 0, none⟩) 1 1) (hcell : w.cell? ⟨g, 0, none⟩ = some (.int .i64 z))
    (hown : w.ownsRow base 3 1 v n (iv ys)) (hb : n + 1 ≤ 17592186044416) (hbase : base ≤ w.heap.size)
    (h : ∀ A' c' w', w'.ownsRow base 3 1 (.slice A' (n + 1) c') (n + 1) (iv (ys ++ [z])) → w.grownBy w' v.ownBlock → ((Value.slice A' (n + 1) c').ownBlock = v.ownBlock ∨ (Value.slice A' (n + 1) c').ownBlock = some w.heap.size) →
      K (a.put o.dst (.slice A' (n + 1) c')) w') :
    if Region.wanted o (yielded ops a.tmps) = true then Oper.wp Try.prog o a w K Q else F := by
  subst hn
  have hw : Region.wanted o (yielded ops a.tmps) = true := by simp [Region.wanted, hgd]
  rw [if_pos hw]
  have hr : Rd w 0 w.heap.size (some ⟨g, 0, none⟩) 1 (iv [z]) := ⟨by simp [iv], by simp [maxLen], fun _ => ⟨g, 0, rfl, Nat.zero_le _, World.block_lt_of_cell? w _ hcell, fun j u hu => by
    match j, hu with
    | 0, hu =>
      simp [iv] at hu
      subst hu
      exact hcell
    | j + 1, hu => simp [iv] at hu⟩⟩
  obtain ⟨i0, hi0, hz0, hz1, hz2⟩ := info_parts Try.infoI64
  obtain ⟨A', c', w', hrun, h2, h3, h4⟩ := run_append_rd (P := Try.prog) w base 51 51 3 i0 _ 8 Try.underlying51 hi0 hz0 hz1 hz2 rfl v ys.length (iv ys) hown 0 w.heap.size (some ⟨g, 0, none⟩) 1 (iv [z]) hr (iv_one _)
    (by simp only [maxLen, iv, List.length_map, List.length_cons, List.length_nil]; omega) (by simp only [iv, List.length_map, List.length_cons, List.length_nil]; omega) hbase
  rw [show (iv [z]).length = 1 from rfl] at hrun h2 h4
  unfold Oper.wp execOp
  simp only [ho, hty, resolve, invoke, builtin, Sem.run_bind, Sem.run_pure, Result.andThen_ok, List.map_toArray, List.map_cons, List.map_nil, hs, hx, hrun]
  exact h A' c' w' (by rw [iv_append]; exact h2) h3 h4

set_option maxRecDepth 20000 in
set_option maxHeartbeats 2000000 in
theorem put_any {w : World} {lo g : Nat} {most : Int} {bs : List UInt8} {es : List Nat} {M : Nat → Prop} (h : Hp w lo g most bs es M) (s : ByteArray) (b : Nat) (hb : b ≤ es.length) (hs : bs.length + s.size ≤ 1000000) (hb2 : b < 60000) (hlo : lo ≤ w.heap.size) :
    Calls Try.prog 28 #[hp g, .string s, .int .i64 (b : Int)] w fun r w' => r = .returned (.tuple #[]) ∧ ∃ M', Hp w' lo g most (bs ++ s.data.toList) (addE es b (bs.length + s.size)) M' ∧ Out w w' M ∧ ∀ i, M' i → M i ∨ w.heap.size ≤ i := by
  obtain ⟨⟨V, E, ha, hM⟩, hm, he, hf⟩ := h
  obtain ⟨A, c, rfl, _⟩ := own_form w ha.byt
  obtain ⟨A2, c2, rfl, hl2, hc2⟩ := own_form w ha.num
  obtain ⟨i0, hi0, hz0, hz1, hz2⟩ := info_parts Try.infoU8
  obtain ⟨A1, c1, w1, hrun, ho1, hg1, hk1⟩ := run_append_str (P := Try.prog) w lo 36 9 36 5 i0 Try.underlying36 Try.underlying9 hi0 hz0 hz1 hz2 _ bs.length (bv bs) ha.byt s (by omega) hlo
  have hsz : s.data.toList.length = s.size := by rw [Array.length_toList]; rfl
  have hlen : (bs ++ s.data.toList).length = bs.length + s.size := by rw [List.length_append, hsz]
  rw [← bv_append] at ho1
  obtain ⟨N, hN⟩ : ∃ N, bs.length + s.size = N := ⟨_, rfl⟩
  rw [hN] at hrun ho1 hk1 hlen ⊢
  have hcell1 := ha.blk.cell 1
  have hb1 := ha.blk.grown hg1 (fun e => ha.n1 e.symm)
  have hfr1 := hb1.frozen 1
  have hc1 := hb1.cell 1
  have hb2 : Blk (w1.setCell ⟨g, 1, none⟩ (.slice A1 N c1)) g 53 #[.int .i64 most, .slice A1 N c1, .slice A2 es.length c2] := hb1.put 1 (.slice A1 N c1)
  have ho2 : (w1.setCell ⟨g, 1, none⟩ (.slice A1 N c1)).ownsRow lo 5 1 (.slice A1 N c1) N (bv (bs ++ s.data.toList)) := own_keep ho1 fun k hk => Below.heap_setCell w1 _ _ k (fun (e : k = g) => by
    subst e
    rcases hk1 _ hk with h | h
    · exact ha.n1 h
    · have := hm k (hM k (.inl rfl)); omega)
  have hn1 : w1.ownsRow lo 3 1 (.slice A2 es.length c2) es.length (iv (ints es)) := own_keep ha.num fun k hk => hg1.block k (own_lt ha.num hk).2 (fun e => ha.n3 k e.symm hk)
  have hn2 : (w1.setCell ⟨g, 1, none⟩ (.slice A1 N c1)).ownsRow lo 3 1 (.slice A2 es.length c2) es.length (iv (ints es)) := own_keep hn1 fun k hk => Below.heap_setCell w1 _ _ k (fun (e : k = g) => by
    subst e
    exact ha.n2 hk)
  have ho : Out w (w1.setCell ⟨g, 1, none⟩ (.slice A1 N c1)) M := (Out.of_gb hg1 (fun k hk => hM k (.inr (.inl hk)))).setCell (.inl (hM g (.inl rfl))) _
  have hN2 : w.heap.size ≤ (w1.setCell ⟨g, 1, none⟩ (.slice A1 N c1)).heap.size := ho.size
  obtain ⟨ys, hys⟩ : ∃ ys, (ints es).take b = ys := ⟨_, rfl⟩
  have hyl : ys.length = b := by rw [← hys, List.length_take, ints_length]; omega
  have hn3 := own_cut hn2 hb
  rw [← iv_take, hys] at hn3
  have H1 := Lib.hid ha.n1
  have H2 := Lib.hid ha.n2
  have H3 := Lib.hid ha.n3
  have HL := Lib.hid (fun k => own_lt (k := k) ha.num)
  have HL1 := Lib.hid (fun k => own_lt (k := k) ho1)
  have HK := Lib.hid hk1
  have HO2 := Lib.hid ho2
  have HN3 := Lib.hid hn3
  have HO := Lib.hid ho
  have HM := Lib.hid hM
  have HMM := Lib.hid hm
  have HE := Lib.hid he
  have HB2 := Lib.hid hb2
  have HLEN := Lib.hid hlen
  have HYS := Lib.hid hys
  clear ha he hm hM ho1 hg1 hk1 hlen hb1 hb2 ho2 hn1 hn2 hn3 ho hys hsz hf hi0 hz0 hz1 hz2
  unfold hp
  go_enter Try.func28, Try.ntmps28
  go_wp2_with (at_builtin; refine wpList_append_run rfl _ _ _ _ rfl rfl rfl hrun ?_)
  generalize w1.setCell ⟨g, 1, none⟩ (.slice A1 N c1) = w2 at *
  have h21 := HB2.out.cell 1
  have h22 := HB2.out.cell 2
  have hbi : (b : Int) ≤ (c2 : Int) := by omega
  have eb : (Value.slice A2 b c2).ownBlock = (Value.slice A2 es.length c2).ownBlock := by cases A2 <;> rfl
  have EB := Lib.hid eb
  have HNA : Hid (∀ o, (w2.alloc o).drew.ownsRow lo 3 1 (.slice A2 b c2) b (iv ys)) := fun o => own_below (B := w2.heap.size) HN3.out (Below.drew ((Below.refl _ _).alloc (Nat.le_refl _) o)) (Nat.le_refl _)
  have HBA : Hid (∀ o, Blk (w2.alloc o).drew g 53 #[.int .i64 most, .slice A1 N c1, .slice A2 es.length c2]) := fun o => (HB2.out.alloc o).drew
  have HCE : Hid (∀ z, (w2.alloc (.cells #[z] 3)).drew.cell? ⟨w2.heap.size, 0, none⟩ = some z) := fun z => by
    show (w2.alloc (.cells #[z] 3)).cell? ⟨w2.heap.size, 0, none⟩ = some z
    rw [World.cell?_alloc_at _ _ _ _ rfl]; rfl
  have HVG : Hid ((Value.slice A1 N c1).ownBlock ≠ some g) := fun e => by
    rcases HK.out _ e with h | h
    · exact H1.out h
    · have := (HMM.out g (HM.out g (.inl rfl))).2; omega
  have HVE : Hid (∀ k, (Value.slice A1 N c1).ownBlock = some k → (Value.slice A2 es.length c2).ownBlock ≠ some k) := fun k e1 e2 => by
    rcases HK.out _ e1 with h | h
    · exact H3.out k h e2
    · have := (HL.out k e2).2; omega
  have KEY : Hid (∀ A3 c3 w3, w3.ownsRow lo 3 1 (.slice A3 (b + 1) c3) (b + 1) (iv (ys ++ [(N : Int)])) → (w2.alloc (.cells #[.int .i64 (N : Int)] 3)).drew.grownBy w3 (Value.slice A2 b c2).ownBlock →
      ((Value.slice A3 (b + 1) c3).ownBlock = (Value.slice A2 b c2).ownBlock ∨ (Value.slice A3 (b + 1) c3).ownBlock = some (w2.alloc (.cells #[.int .i64 (N : Int)] 3)).drew.heap.size) →
      ∃ M', Hp (w3.setCell ⟨g, 2, none⟩ (.slice A3 (b + 1) c3)) lo g most (bs ++ s.data.toList) (addE es b N) M' ∧ Out w (w3.setCell ⟨g, 2, none⟩ (.slice A3 (b + 1) c3)) M ∧ ∀ i, M' i → M i ∨ w.heap.size ≤ i) := by
    intro A3 c3 w3 ho3 hg3 hk3
    rw [eb] at hg3 hk3
    have hw2 : (w2.alloc (.cells #[.int .i64 (N : Int)] 3)).drew.heap.size = w2.heap.size + 1 := by show (w2.alloc _).heap.size = _; simp
    rw [hw2] at hk3
    have hg2 : g < w2.heap.size := HB2.out.lt
    have hsz3 : w2.heap.size + 1 ≤ w3.heap.size := by rw [← hw2]; exact hg3.size
    have hb3 := (HBA.out (.cells #[.int .i64 (N : Int)] 3)).grown hg3 (fun e => H2.out e.symm)
    have hb4 : Blk (w3.setCell ⟨g, 2, none⟩ (.slice A3 (b + 1) c3)) g 53 #[.int .i64 most, .slice A1 N c1, .slice A3 (b + 1) c3] := hb3.put 2 _
    have h3g : (Value.slice A3 (b + 1) c3).ownBlock ≠ some g := fun e => by
      rcases hk3 with h | h
      · exact H2.out (h.symm.trans e)
      · rw [h] at e; injection e with e; omega
    have h3v : ∀ k, (Value.slice A1 N c1).ownBlock = some k → (Value.slice A3 (b + 1) c3).ownBlock ≠ some k := fun k e1 e2 => by
      rcases hk3 with h | h
      · exact HVE.out k e1 (h.symm.trans e2)
      · rw [h] at e2; injection e2 with e2
        have := (own_lt HO2.out e1).2
        omega
    have hv3 : w3.ownsRow lo 5 1 (.slice A1 N c1) N (bv (bs ++ s.data.toList)) := own_keep HO2.out fun k hk =>
      (hg3.block k (by have := (own_lt HO2.out hk).2; omega) (fun e => HVE.out k hk e.symm)).trans (Below.heap_alloc w2 _ k (own_lt HO2.out hk).2)
    have hv4 : (w3.setCell ⟨g, 2, none⟩ (.slice A3 (b + 1) c3)).ownsRow lo 5 1 (.slice A1 N c1) N (bv (bs ++ s.data.toList)) := own_keep hv3 fun k hk => Below.heap_setCell w3 _ _ k (fun (e : k = g) => HVG.out (by rw [hk, e]))
    have hn4 : (w3.setCell ⟨g, 2, none⟩ (.slice A3 (b + 1) c3)).ownsRow lo 3 1 (.slice A3 (b + 1) c3) (b + 1) (iv (ys ++ [(N : Int)])) := own_keep ho3 fun k hk => Below.heap_setCell w3 _ _ k (fun (e : k = g) => h3g (by rw [hk, e]))
    have hey : iv (ys ++ [(N : Int)]) = iv (ints (addE es b N)) := by
      rw [← HYS.out]
      unfold addE ints
      rw [List.map_append, List.map_take]
      rfl
    rw [hey] at hn4
    have hal := addE_length (n := N) hb
    have hne := HLEN.out
    refine ⟨fun i => i = g ∨ (Value.slice A1 N c1).ownBlock = some i ∨ (Value.slice A3 (b + 1) c3).ownBlock = some i, ⟨⟨.slice A1 N c1, .slice A3 (b + 1) c3, ⟨hb4, by rw [hne]; exact hv4, by rw [hal]; exact hn4, HVG.out, h3g, h3v⟩, fun i hi => hi⟩, ?_, ?_, ?_⟩, ?_, ?_⟩
    · intro i hi
      rcases hi with rfl | hi | hi
      · exact ⟨(HMM.out i (HM.out i (.inl rfl))).1, hb4.lt⟩
      · exact own_lt hv4 hi
      · exact own_lt hn4 hi
    · have := addE_ends (s := s.data.toList) HE.out hb
      rw [← List.length_append, hne] at this
      rw [hne]
      exact this
    · rw [hne, hal]; omega
    · exact ((((HO.out.alloc (.cells #[.int .i64 (N : Int)] 3)).drew).trans (Out.of_gb (X := fun k => (Value.slice A2 es.length c2).ownBlock = some k) hg3 (fun k hk => hk)) (fun i _ hi => HM.out i (.inr (.inr hi))))).setCell (.inl (HM.out g (.inl rfl))) _
    · intro i hi
      rcases hi with rfl | hi | hi
      · exact .inl (HM.out i (.inl rfl))
      · rcases HK.out i hi with h | h
        · exact .inl (HM.out i (.inr (.inl h)))
        · exact .inr h
      · rcases hk3 with h | h
        · exact .inl (HM.out i (.inr (.inr (h.symm.trans hi))))
        · rw [h] at hi; injection hi with hi; right; omega
  clear eb
  have hca := (HBA.out (.cells #[.int .i64 (N : Int)] 3)).cell 2
  have hcb : (w2.alloc (.cells #[.int .i64 (N : Int)] 3)).cell? ⟨g, 2, none⟩ = _ := hca
  go_region_law (first | (refine step_append_num (v := .slice A2 b c2) lo ys b hyl (N : Int) rfl (.tmp 21) (.tmp 27) rfl rfl (by simp [Act.eval, Act.put]) (by simp [Act.eval, Act.put]) (HCE.out _) (HNA.out _) (by omega) (by show lo ≤ (w2.alloc _).heap.size; simp; omega) ?_; intro A3 c3 w3 ho3 hg3 hk3; have hb3 := (HBA.out _).grown hg3 (fun e => H2.out (EB.out.symm.trans e.symm)); have h32 := hb3.cell 2; have hf3 := hb3.frozen 2; have HO3 := Lib.hid ho3; have HG3 := Lib.hid hg3; have HK3 := Lib.hid hk3; have HB3 := Lib.hid hb3; clear ho3 hg3 hk3 hb3))
  all_goals
    go_wp2
    go_end0
    exact ⟨rfl, KEY.out _ _ _ HO3.out HG3.out HK3.out⟩
end Go.Proofs.Ytpainhgjiddpkaa
