/-
  Appends of rows, in this program.
  The document's own functions of values that chunks hold: Few, Right, Present, Same.
  Two rows of a call's own, apart, that both grow; the document's own functions of values: Present, Same.
-/
import Derived.Test.YtmffpbhiehjlpaaGreatZ13
import Derived.Test.YtmffpbhiehjlpaaGreatZ28
import Derived.Test.YtmffpbhiehjlpaaGreatZ27
namespace Go.Proofs.YtmffpbhiehjlpaaGreat
set_option linter.unusedSimpArgs false
set_option linter.unusedVariables false
open Go.RowKit
def Apart (u v : Value) : Prop := ∀ g, u.ownBlock = some g → v.ownBlock = some g → False
theorem Apart.symm {u v : Value} (h : Apart u v) : Apart v u := fun g h1 h2 => h g h2 h1
theorem Apart.keeps {u v : Value} (h : Apart u v) : u.ownBlock = none ∨ u.ownBlock ≠ v.ownBlock := by
  cases hu : u.ownBlock with
  | none => exact .inl rfl
  | some g => exact .inr fun e => h g hu e.symm
theorem wpList_push_bool {ops : Array Oper} {rest : List Oper} {o : Oper} {a : Act} {Q : Exit → Act → World → Prop} {w : World} {v : Value} {g : Nat} (base : Nat) (ys : List Bool) (z : Bool) (hgd : o.guard = none) (s x : Operand)
    (ho : o.op = .call { callee := .builtin .append, args := #[s, x], argTypes := #[36, 36] }) (hty : o.type = 36)
    (hs : a.eval s = v) (hx : a.eval x = .slice (some ⟨g, 0, none⟩) 1 1) (hcell : w.cell? ⟨g, 0, none⟩ = some (.bool z))
    (hown : w.ownsRow base 4 1 v ys.length (lv ys)) (hb : ys.length + 1 ≤ 17592186044416) (hbase : base ≤ w.heap.size)
    (h : ∀ A' c' w', w'.ownsRow base 4 1 (.slice A' (ys ++ [z]).length c') (ys ++ [z]).length (lv (ys ++ [z])) → w.grownBy w' v.ownBlock →
      ((Value.slice A' (ys ++ [z]).length c').ownBlock = v.ownBlock ∨ (Value.slice A' (ys ++ [z]).length c').ownBlock = some w.heap.size) → wpList Tryz.prog ops Q rest (a.put o.dst (.slice A' (ys.length + 1) c')) w') :
    wpList Tryz.prog ops Q (o :: rest) a w := by
  have hr : Rd w 0 w.heap.size (some ⟨g, 0, none⟩) 1 (lv [z]) := ⟨by simp [lv], by simp [maxLen], fun _ => ⟨g, 0, rfl, Nat.zero_le _, World.block_lt_of_cell? w _ hcell, fun j u hu => by
    match j, hu with
    | 0, hu =>
      simp [lv] at hu
      subst hu
      exact hcell
    | j + 1, hu => simp [lv] at hu⟩⟩
  obtain ⟨i0, hi0, hz0, hz1, hz2⟩ := info_parts Tryz.infoBool
  obtain ⟨A', c', w', hrun, h2, h3, h4⟩ := run_append_rd (P := Tryz.prog) w base 36 36 4 i0 _ 1 Tryz.underlying36 hi0 hz0 hz1 hz2 rfl v ys.length (lv ys) hown 0 w.heap.size _ 1 (lv [z]) hr (lv_one _)
    (by simp [lv, maxLen]; omega) (by simp [lv]; omega) hbase
  have hl : (lv [z]).length = 1 := rfl
  have hl2 : (ys ++ [z]).length = ys.length + 1 := by simp
  rw [hl] at hrun h2 h4
  exact wpList_append_run hgd s x _ _ ho hs hx (by rw [hty]; exact hrun) (h A' c' w' (by rw [lv_append, hl2]; exact h2) h3 (by rw [hl2]; exact h4))
structure Tri (w : World) (base : Nat) (u v t : Value) (xs ys zs : List Bool) : Prop where
  o1 : w.ownsRow base 4 1 u xs.length (lv xs)
  o2 : w.ownsRow base 4 1 v ys.length (lv ys)
  o3 : w.ownsRow base 4 1 t zs.length (lv zs)
  a12 : Apart u v
  a13 : Apart u t
  a23 : Apart v t
theorem Tri.nil (w : World) (base : Nat) : Tri w base (.slice none 0 0) (.slice none 0 0) (.slice none 0 0) [] [] [] :=
  ⟨World.ownsRow_nil .., World.ownsRow_nil .., World.ownsRow_nil .., fun _ h => (by cases h), fun _ h => (by cases h), fun _ h => (by cases h)⟩
theorem Tri.push {w w2 : World} {base : Nat} {u v t u' : Value} {xs ys zs xs' : List Bool} (h : Tri w base u v t xs ys zs) (o : Obj) (h1 : w2.ownsRow base 4 1 u' xs'.length (lv xs')) (hg : (w.alloc o).grownBy w2 u.ownBlock)
    (hb : u'.ownBlock = u.ownBlock ∨ u'.ownBlock = some (w.alloc o).heap.size) : Tri w2 base u' v t xs' ys zs := by
  have hs : (w.alloc o).heap.size = w.heap.size + 1 := by simp
  have key : ∀ {s : Value} {ls : List Bool}, w.ownsRow base 4 1 s ls.length (lv ls) → Apart u s → Apart u' s := by
    intro s ls ho ha g hg1 hg2
    rcases hb with e | e
    · exact ha g (e ▸ hg1) hg2
    · rw [e] at hg1
      have := (ho.lt g hg2).2
      injection hg1 with hg1
      omega
  exact ⟨h1, (h.o2.alloc o).kept hg h.a12.symm.keeps, (h.o3.alloc o).kept hg h.a13.symm.keeps, key h.o2 h.a12, key h.o3 h.a13, h.a23⟩
end Go.Proofs.YtmffpbhiehjlpaaGreat
namespace Go.Proofs.YtmffpbhiehjlpaaGreat
set_option linter.unusedSimpArgs false
set_option linter.unusedVariables false
open Go.RowKit
def sumV (L : List Vl) : Nat := (L.map (·.s.size)).sum
theorem sumV_take {L : List Vl} {k : Nat} (h : k < L.length) : sumV (L.take (k + 1)) = sumV (L.take k) + L[k].s.size := by
  unfold sumV
  rw [List.take_succ_eq_append_getElem h, List.map_append, List.sum_append]
  simp
def FewI (L : List Vl) (k : Nat) (z : Int) : Prop := FitsV L → z = (sumV (L.take k) : Int) ∧ z ≤ 5000
def FewR (L : List Vl) (r : Ending) : Prop := ∃ b, r = .returned (.bool b) ∧ (b = true → L.length ≤ 100 ∧ (FitsV L → sumV L ≤ 5000))
theorem FewR.no (L : List Vl) : FewR L (.returned (.bool false)) := ⟨false, rfl, fun h => by cases h⟩
set_option maxRecDepth 20000 in
set_option maxHeartbeats 2000000 in
theorem refFew_v {w : World} (L : List Vl) {lo c : Nat} {A : Option Addr} (h : Row w lo w.heap.size A c L) :
    Calls Tryz.prog 10 #[.slice A L.length c] w fun r w' => FewR L r ∧ w = w' := by
  obtain ⟨hl, hm⟩ := h.len
  have H := Lib.hid h
  clear h
  go_enter Tryz.func10, Tryz.ntmps10
  go_wp2_with fail
  go_loopw [3, 4] (fun x i wr => ∃ (k : Nat) (z : Int), k ≤ L.length ∧ k ≤ 200 ∧ i = .int .i64 (k : Int) ∧ x = .int .i64 z ∧ FewI L k z ∧ wr = w) (fun _ i _ => L.length - (intOf i).toNat)
  case atStart => exact ⟨0, 0, Nat.zero_le _, by omega, rfl, rfl, fun _ => ⟨rfl, by omega⟩, rfl⟩
  case round =>
    obtain ⟨k, z, hk, hk2, rfl, rfl, HZ, rfl⟩ := hrel
    by_cases hlt : k < L.length
    · have ik : (k : Int) < (L.length : Int) := by omega
      by_cases h2 : k < 200
      · have i2 : (k : Int) < 200 := by omega
        obtain ⟨b, off, rfl, _, hbl, hc0, hc1⟩ := H.out.get hlt
        have HS : Hid (FitsV L → L[k].s.size ≤ 4096) := fun hf => (hf.2 _ (List.getElem_mem hlt)).1
        have HT := Lib.hid (sumV_take hlt)
        generalize L[k].null = nb at *
        generalize L[k].s = s at *
        obtain ⟨z2, hz2⟩ : ∃ z2, IntKind.i64.wrap (z + (s.size : Int)) = z2 := ⟨_, rfl⟩
        have HZ2 : Hid (FitsV L → z2 = (sumV (L.take (k + 1)) : Int)) := fun hf => by
          have h1 := HZ hf
          have h3 := HS.out hf
          rw [← hz2, IntWalk.i64_in _ (by omega), HT.out, h1.1]
          omega
        by_cases h5 : 5000 < z2
        · go_wp2_with fail
          go_ret
          exact ⟨FewR.no L, rfl⟩
        · have HZ3 : Hid (FewI L (k + 1) z2) := fun hf => ⟨HZ2.out hf, by omega⟩
          go_wp2_with fail
          go_roundw
          case rel => exact ⟨k + 1, z2, by omega, by omega, by go_num, rfl, HZ3.out, trivial⟩
          case measure => simp [intOf]; omega
      · have i2 : ¬ (k : Int) < 200 := by omega
        have i3 : ¬ (L.length : Int) ≤ 100 := by omega
        go_wp2_with fail
        go_ret
        exact ⟨FewR.no L, rfl⟩
    · have ik : ¬ (k : Int) < (L.length : Int) := by omega
      have HE : Hid (L.take k = L) := List.take_of_length_le (by omega)
      by_cases h1 : L.length ≤ 100
      · have i3 : (L.length : Int) ≤ 100 := by omega
        go_wp2_with fail
        go_ret
        refine ⟨⟨true, rfl, fun _ => ⟨h1, fun hf => ?_⟩⟩, rfl⟩
        have h3 := HZ hf
        rw [HE.out] at h3
        omega
      · have i3 : ¬ (L.length : Int) ≤ 100 := by omega
        go_wp2_with fail
        go_ret
        exact ⟨FewR.no L, rfl⟩
set_option maxRecDepth 20000 in
set_option maxHeartbeats 2000000 in
theorem refRight_v {w : World} (L : List Vl) (o : Co) {lo c d : Nat} {A B : Option Addr} (h : Row w lo w.heap.size A c L) (hd : Rd w 0 w.heap.size B d (iv o.draws)) :
    Calls Tryz.prog 13 #[.slice A L.length c, .agg #[.int .i64 o.kind, .int .i64 o.block, .int .i64 o.rounds, .slice B o.draws.length d]] w fun r w' => r = .returned (.bool (decide (FitsV L ∧ CoOk o))) ∧ Below w.heap.size w w' := by
  obtain ⟨hl, hm⟩ := h.len
  obtain ⟨v, hv⟩ : ∃ v, decide (FitsV L ∧ CoOk o) = v := ⟨_, rfl⟩
  rw [hv]
  have HF : Hid (¬ CoOk o → v = false) := fun h => by rw [← hv]; exact decide_eq_false fun h1 => h h1.2
  have HT : Hid (FitsV L → CoOk o → v = true) := fun h h2 => by rw [← hv]; exact decide_eq_true ⟨h, h2⟩
  have HV0 : Hid (∀ k (hk : k < L.length), ¬ VlOk L[k] → v = false) := fun k hk h0 => by rw [← hv]; exact decide_eq_false fun h1 => h0 (h1.1.2 _ (List.getElem_mem hk))
  have HV1 : Hid (¬ L.length ≤ 4096 → v = false) := fun h0 => by rw [← hv]; exact decide_eq_false fun h1 => h0 h1.1.1
  have hl2 := hd.len
  have hm2 := hd.cap
  rw [iv_length] at hl2
  clear hv hd
  unfold CoOk at HF HT
  obtain ⟨kd, bl, ro, ds⟩ := o
  simp only at *
  generalize ds.length = n at *
  have H := Lib.hid h
  clear h
  go_enter Tryz.func13, Tryz.ntmps13
  by_cases h0 : L.length ≤ 4096
  · have i0 : ¬ 4096 < (L.length : Int) := by omega
    by_cases h1 : 0 ≤ kd
    · have i1 : ¬ kd < 0 := by omega
      by_cases h2 : kd ≤ 3
      · have i2 : ¬ 3 < kd := by omega
        by_cases h3 : 1 ≤ bl
        · have i3 : ¬ bl < 1 := by omega
          by_cases h4 : bl ≤ 64
          · have i4 : ¬ 64 < bl := by omega
            by_cases h5 : 0 ≤ ro
            · have i5 : ¬ ro < 0 := by omega
              by_cases h6 : ro ≤ 8
              · have i6 : ¬ 8 < ro := by omega
                by_cases h7 : n ≤ 4096
                · have i7 : ¬ 4096 < (n : Int) := by omega
                  have HT2 : Hid (FitsV L → v = true) := fun hf => HT.out hf ⟨h1, h2, h3, h4, h5, h6, h7⟩
                  clear HT HF
                  go_wp2_with fail
                  go_loopw [5] (fun i wr => ∃ k : Nat, k ≤ L.length ∧ i = .int .i64 (k : Int) ∧ (∀ j (hj : j < L.length), j < k → VlOk L[j]) ∧ Below w.heap.size w wr) (fun i _ => L.length - (intOf i).toNat)
                  case atStart => exact ⟨0, Nat.zero_le _, rfl, fun j hj h0 => by omega, (Below.refl _ _).alloc (Nat.le_refl _) _⟩
                  case round =>
                    obtain ⟨k, hk, rfl, ha, hb⟩ := hrel
                    have HA := Lib.hid ha
                    have HB := Lib.hid hb
                    clear ha hb
                    by_cases hlt : k < L.length
                    · have ik : (k : Int) < (L.length : Int) := by omega
                      obtain ⟨b, off, rfl, _, hbl, hc0, hc1⟩ := (H.out.below HB.out (Nat.le_refl _)).get hlt
                      have HN : Hid (VlOk L[k] → ∀ j (hj : j < L.length), j < k + 1 → VlOk L[j]) := fun h5 j hj hjk => by
                        by_cases e : j = k
                        · subst e; exact h5
                        · exact HA.out j hj (by omega)
                      have HF := Lib.hid (HV0.out k hlt)
                      clear HA
                      unfold VlOk at HN HF
                      generalize L[k].null = nb at *
                      generalize L[k].s = s at *
                      by_cases h5 : s.size ≤ 4096
                      · have i5 : ¬ (4096 : Int) < (s.size : Int) := by omega
                        cases nb with
                        | true =>
                          by_cases he : s = ⟨#[]⟩
                          · subst he
                            go_wp2_with fail
                            go_roundw
                            case rel => exact ⟨k + 1, by omega, by go_num, HN.out ⟨h5, fun _ => rfl⟩, HB.out⟩
                            case measure => simp [intOf]; omega
                          · have hne : s.toList.isEmpty = false := isEmpty_ne he
                            have hvf : v = false := HF.out (fun h => he (h.2 rfl))
                            subst hvf
                            go_wp2_with fail
                            go_ret
                            exact ⟨rfl, HB.out⟩
                        | false =>
                          go_wp2_with fail
                          go_roundw
                          case rel => exact ⟨k + 1, by omega, by go_num, HN.out ⟨h5, fun h => by cases h⟩, HB.out⟩
                          case measure => simp [intOf]; omega
                      · have i5 : (4096 : Int) < (s.size : Int) := by omega
                        have hvf : v = false := HF.out (fun h => h5 h.1)
                        subst hvf
                        go_wp2_with fail
                        go_ret
                        exact ⟨rfl, HB.out⟩
                    · have ik : ¬ (k : Int) < (L.length : Int) := by omega
                      have hvt : v = true := HT2.out ⟨h0, fun x hx => by obtain ⟨j, hj, rfl⟩ := List.getElem_of_mem hx; exact HA.out j hj (by omega)⟩
                      subst hvt
                      go_wp2_with fail
                      go_ret
                      exact ⟨rfl, HB.out⟩
                · have i7 : 4096 < (n : Int) := by omega
                  obtain rfl : v = false := HF.out (fun h => h7 h.2.2.2.2.2.2)
                  go_wp2_with fail
                  go_ret
                  exact ⟨rfl, (Below.refl _ _).alloc (Nat.le_refl _) _⟩
              · have i6 : 8 < ro := by omega
                obtain rfl : v = false := HF.out (fun h => h6 h.2.2.2.2.2.1)
                go_wp2_with fail
                go_ret
                exact ⟨rfl, (Below.refl _ _).alloc (Nat.le_refl _) _⟩
            · have i5 : ro < 0 := by omega
              obtain rfl : v = false := HF.out (fun h => h5 h.2.2.2.2.1)
              go_wp2_with fail
              go_ret
              exact ⟨rfl, (Below.refl _ _).alloc (Nat.le_refl _) _⟩
          · have i4 : 64 < bl := by omega
            obtain rfl : v = false := HF.out (fun h => h4 h.2.2.2.1)
            go_wp2_with fail
            go_ret
            exact ⟨rfl, (Below.refl _ _).alloc (Nat.le_refl _) _⟩
        · have i3 : bl < 1 := by omega
          obtain rfl : v = false := HF.out (fun h => h3 h.2.2.1)
          go_wp2_with fail
          go_ret
          exact ⟨rfl, (Below.refl _ _).alloc (Nat.le_refl _) _⟩
      · have i2 : 3 < kd := by omega
        obtain rfl : v = false := HF.out (fun h => h2 h.2.1)
        go_wp2_with fail
        go_ret
        exact ⟨rfl, (Below.refl _ _).alloc (Nat.le_refl _) _⟩
    · have i1 : kd < 0 := by omega
      obtain rfl : v = false := HF.out (fun h => h1 h.1)
      go_wp2_with fail
      go_ret
      exact ⟨rfl, (Below.refl _ _).alloc (Nat.le_refl _) _⟩
  · have i0 : 4096 < (L.length : Int) := by omega
    obtain rfl : v = false := HV1.out h0
    go_wp2_with fail
    go_ret
    exact ⟨rfl, (Below.refl _ _).alloc (Nat.le_refl _) _⟩
end Go.Proofs.YtmffpbhiehjlpaaGreat
namespace Go.Proofs.YtmffpbhiehjlpaaGreat
set_option linter.unusedSimpArgs false
set_option linter.unusedVariables false
open Go.RowKit
structure Tw (w : World) (base : Nat) (t1 t2 : TypeId) (u v : Value) (n m : Nat) (xs ys : List Value) : Prop where
  o1 : w.ownsRow base t1 1 u n xs
  o2 : w.ownsRow base t2 1 v m ys
  ap : Apart u v
section
variable {w w' : World} {base n m n' m' : Nat} {t1 t2 : TypeId} {u v u' v' : Value} {xs ys xs' ys' : List Value}
theorem Tw.nil (w : World) (base : Nat) (t1 t2 : TypeId) : Tw w base t1 t2 (.slice none 0 0) (.slice none 0 0) 0 0 [] [] := ⟨World.ownsRow_nil .., World.ownsRow_nil .., fun _ h => (by cases h)⟩
theorem Tw.below (h : Tw w base t1 t2 u v n m xs ys) (hb : Below w.heap.size w w') : Tw w' base t1 t2 u v n m xs ys := ⟨own_below h.o1 hb (Nat.le_refl _), own_below h.o2 hb (Nat.le_refl _), h.ap⟩
theorem Tw.alloc (h : Tw w base t1 t2 u v n m xs ys) (o : Obj) : Tw (w.alloc o) base t1 t2 u v n m xs ys := ⟨h.o1.alloc o, h.o2.alloc o, h.ap⟩
theorem Tw.symm (h : Tw w base t1 t2 u v n m xs ys) : Tw w base t2 t1 v u m n ys xs := ⟨h.o2, h.o1, h.ap.symm⟩
theorem Tw.left (h : Tw w base t1 t2 u v n m xs ys) (ho : w'.ownsRow base t1 1 u' n' xs') (hg : w.grownBy w' u.ownBlock) (hb : u'.ownBlock = u.ownBlock ∨ u'.ownBlock = some w.heap.size) : Tw w' base t1 t2 u' v n' m xs' ys := by
  refine ⟨ho, h.o2.kept hg h.ap.symm.keeps, fun g h1 h2 => ?_⟩
  rcases hb with e | e
  · exact h.ap g (e ▸ h1) h2
  · have h3 := (own_lt h.o2 h2).2
    rw [e] at h1
    injection h1 with h1
    omega
theorem Tw.right (h : Tw w base t1 t2 u v n m xs ys) (ho : w'.ownsRow base t2 1 v' m' ys') (hg : w.grownBy w' v.ownBlock) (hb : v'.ownBlock = v.ownBlock ∨ v'.ownBlock = some w.heap.size) : Tw w' base t1 t2 u v' n m' xs ys' :=
  (h.symm.left ho hg hb).symm
end
theorem push_str_at {ops : Array Oper} {rest : List Oper} {o : Oper} {a : Act} {Q : Exit → Act → World → Prop} {w : World} {v : Value} {g : Nat} (base : Nat) (ys : List ByteArray) (z : ByteArray) (hgd : o.guard = none) (s x : Operand)
    (ho : o.op = .call { callee := .builtin .append, args := #[s, x], argTypes := #[37, 37] }) (hty : o.type = 37)
    (hs : a.eval s = v) (hx : a.eval x = .slice (some ⟨g, 0, none⟩) 1 1) (hcell : w.cell? ⟨g, 0, none⟩ = some (.string z))
    (hown : w.ownsRow base 9 1 v ys.length (sv ys)) (hb : ys.length + 1 ≤ 1000000000) (hbase : base ≤ w.heap.size)
    (h : ∀ A' c' w', w'.ownsRow base 9 1 (.slice A' (ys.length + 1) c') (ys.length + 1) (sv (ys ++ [z])) → w.grownBy w' v.ownBlock → ((Value.slice A' (ys.length + 1) c').ownBlock = v.ownBlock ∨ (Value.slice A' (ys.length + 1) c').ownBlock = some w.heap.size) → wpList Tryz.prog ops Q rest (a.put o.dst (.slice A' (ys.length + 1) c')) w') :
    wpList Tryz.prog ops Q (o :: rest) a w := by
  have hr : Rd w 0 w.heap.size (some ⟨g, 0, none⟩) 1 (sv [z]) := ⟨by simp [sv], by simp [maxLen], fun _ => ⟨g, 0, rfl, Nat.zero_le _, World.block_lt_of_cell? w _ hcell, fun j u hu => by
    match j, hu with
    | 0, hu =>
      simp [sv] at hu
      subst hu
      exact hcell
    | j + 1, hu => simp [sv] at hu⟩⟩
  obtain ⟨i0, hi0, hz0, hz1, hz2⟩ := info_parts Tryz.infoStr
  obtain ⟨A', c', w', hrun, h2, h3, h4⟩ := run_append_rd (P := Tryz.prog) w base 37 37 9 i0 _ _ Tryz.underlying37 hi0 hz0 hz1 hz2 rfl v ys.length (sv ys) hown 0 w.heap.size _ 1 (sv [z]) hr (sv_one _)
    (by simp [sv, maxLen]; omega) (by simp [sv]; omega) hbase
  have hl : (sv [z]).length = 1 := rfl
  rw [hl] at hrun h2 h4
  exact wpList_append_run hgd s x _ _ ho hs hx (by rw [hty]; exact hrun) (h A' c' w' (by rw [sv_append]; exact h2) h3 h4)
set_option maxRecDepth 20000 in
set_option maxHeartbeats 2000000 in
theorem refPresent_v {w : World} (L : List Vl) {lo c : Nat} {A : Option Addr} (h : Row w lo w.heap.size A c L) (hn : L.length ≤ 1000000) :
    Calls Tryz.prog 14 #[.slice A L.length c] w fun r w' => ∃ A1 c1 A2 c2, r = .returned (.tuple #[.slice A1 L.length c1, .slice A2 (textsL L).length c2]) ∧
      w'.ownsRow w.heap.size 4 1 (.slice A1 L.length c1) L.length (lv (thereL L)) ∧ w'.ownsRow w.heap.size 9 1 (.slice A2 (textsL L).length c2) (textsL L).length (sv (textsL L)) ∧ Below w.heap.size w w' := by
  obtain ⟨hl, hm⟩ := h.len
  have H := Lib.hid h
  clear h
  go_enter Tryz.func14, Tryz.ntmps14
  go_wp2_with fail
  go_loopw [4, 5, 6] (fun x y i wr => ∃ (k : Nat) (ts : List Bool) (ys : List ByteArray) (A1 A2 : Option Addr) (c1 c2 n : Nat), k ≤ L.length ∧ i = .int .i64 (k : Int) ∧ thereL (L.take k) = ts ∧ ts.length = k ∧ textsL (L.take k) = ys ∧ ys.length = n ∧ n ≤ k ∧ x = .slice A1 k c1 ∧ y = .slice A2 n c2 ∧
    Tw wr w.heap.size 4 9 (.slice A1 k c1) (.slice A2 n c2) k n (lv ts) (sv ys) ∧ Below w.heap.size w wr) (fun _ _ i _ => L.length - (intOf i).toNat)
  case atStart => exact ⟨0, [], [], none, none, 0, 0, 0, Nat.zero_le _, rfl, rfl, rfl, rfl, rfl, Nat.le_refl _, rfl, rfl, Tw.nil _ _ _ _, Below.refl _ _⟩
  case round =>
    obtain ⟨k, ts, ys, A1, A2, c1, c2, n, hk, rfl, hts, htl, hys, hyn, hnk, rfl, rfl, ho, hb⟩ := hrel
    have HTS := Lib.hid hts
    have HTL := Lib.hid htl
    have HY := Lib.hid hys
    have HYN := Lib.hid hyn
    have HO := Lib.hid ho
    have HB := Lib.hid hb
    have hsz := hb.size
    clear ho hb hys hyn hts htl
    by_cases hlt : k < L.length
    · have ik : (k : Int) < (L.length : Int) := by omega
      obtain ⟨b, off, rfl, _, hbl, hc0, hc1⟩ := (H.out.below HB.out (Nat.le_refl _)).get hlt
      have hbw : b < wr.heap.size := by omega
      have hbw2 : b < w.heap.size := by omega
      have HT := Lib.hid (textsL_take hlt)
      have HR : Hid (thereL (L.take (k + 1)) = ts ++ [!L[k].null]) := by
        unfold Hid
        rw [← HTS.out, List.take_succ_eq_append_getElem hlt, thereL, List.map_append]
        rfl
      rw [HY.out] at HT
      generalize L[k].null = nb at *
      generalize L[k].s = s at *
      go_wp2_with (at_builtin; refine wpList_push_bool (v := .slice A1 k c1) w.heap.size ts (!nb) rfl _ _ rfl rfl rfl rfl (by rw [World.cell?_alloc_at _ _ _ _ rfl]; rfl) (by have := HO.out.o1.alloc (.cells #[.bool (!nb)] 4); rw [HTL.out]; exact this) (by rw [HTL.out]; omega) (by simp; omega) ?_; intro A7 c7 w7 ho7 hg7 hb7; refine held ?_)
      have hbB : Below w.heap.size w w7 := (HB.out.alloc hsz _).grown hg7 (by simp; omega) (fun q hq => (own_lt HO.out.o1 hq).1)
      have hl7 : (ts ++ [!nb]).length = k + 1 := by rw [List.length_append, HTL.out]; rfl
      rw [hl7] at ho7 hb7
      have HO7 := Lib.hid ((HO.out.alloc (.cells #[.bool (!nb)] 4)).left ho7 hg7 hb7)
      have HB7 := Lib.hid hbB
      have HL7 := Lib.hid hl7
      have HZV : Hid (Value.slice A7 (ts.length + 1) c7 = .slice A7 (k + 1) c7) := by unfold Hid; rw [HTL.out]
      have hs7 := hbB.size
      have d0 : w7.cell? ⟨b, off + k * 2, none⟩ = some (.bool nb) := by rw [HB7.out.cell (p := ⟨b, off + k * 2, none⟩) hbw2, ← HB.out.cell (p := ⟨b, off + k * 2, none⟩) hbw2]; exact hc0
      have d1 : w7.cell? ⟨b, off + k * 2 + 1, none⟩ = some (.string s) := by rw [HB7.out.cell (p := ⟨b, off + k * 2 + 1, none⟩) hbw2, ← HB.out.cell (p := ⟨b, off + k * 2 + 1, none⟩) hbw2]; exact hc1
      clear ho7 hg7 hb7 hl7 HO HB hbB hc0 hc1
      refine ⟨?_⟩
      cases nb with
      | true =>
        have HT2 : Hid (textsL (L.take (k + 1)) = ys) := by unfold Hid; rw [HT.out]; simp
        clear HT
        go_wp2_with fail
        go_roundw
        case rel => exact ⟨k + 1, _, ys, A7, A2, c7, c2, n, by omega, by go_num, HR.out, HL7.out, HT2.out, HYN.out, by omega, HZV.out, rfl, HO7.out, HB7.out⟩
        case measure => simp [intOf]; omega
      | false =>
        obtain ⟨zs, hzs⟩ : ∃ zs, ys ++ [s] = zs := ⟨_, rfl⟩
        have HT2 : Hid (textsL (L.take (k + 1)) = zs) := by unfold Hid; rw [HT.out, ← hzs]; simp
        have hzl : zs.length = n + 1 := by rw [← hzs, List.length_append, HYN.out]; rfl
        have HZL := Lib.hid hzl
        have HZS := Lib.hid hzs
        clear HT hzl hzs
        go_wp2_with (at_builtin; refine push_str_at (v := .slice A2 n c2) w.heap.size ys s rfl _ _ rfl rfl rfl rfl (by rw [World.cell?_alloc_at _ _ _ _ rfl]; rfl) (by have := HO7.out.o2.alloc (.cells #[.string s] 9); rw [HYN.out]; exact this) (by rw [HYN.out]; omega) (by simp; omega) ?_; intro A8 c8 w8 ho8 hg8 hb8; refine held ?_)
        have hbB : Below w.heap.size w w8 := (HB7.out.alloc hs7 _).grown hg8 (by simp; omega) (fun q hq => (own_lt HO7.out.o2 hq).1)
        rw [HZS.out, HYN.out] at ho8
        rw [HYN.out] at hb8
        have HO8 := Lib.hid ((HO7.out.alloc (.cells #[.string s] 9)).right ho8 hg8 hb8)
        have HB8 := Lib.hid hbB
        have HZV8 : Hid (Value.slice A8 (ys.length + 1) c8 = .slice A8 (n + 1) c8) := by unfold Hid; rw [HYN.out]
        clear ho8 hg8 hb8 hbB HO7 HB7 HZS
        refine ⟨?_⟩
        go_wp2_with fail
        go_roundw
        case rel => exact ⟨k + 1, _, zs, A7, A8, c7, c8, n + 1, by omega, by go_num, HR.out, HL7.out, HT2.out, HZL.out, by omega, HZV.out, HZV8.out, HO8.out, HB8.out⟩
        case measure => simp [intOf] <;> omega
    · have ik : ¬ (k : Int) < (L.length : Int) := by omega
      have hkl : k = L.length := by omega
      subst hkl
      have hke : L.take L.length = L := List.take_length
      rw [hke] at HY HTS
      go_wp2_with fail
      go_ret2
      rw [HY.out, HYN.out, HTS.out]
      exact ⟨_, _, _, _, rfl, HO.out.o1, HO.out.o2, HB.out⟩
set_option maxRecDepth 20000 in
set_option maxHeartbeats 2000000 in
theorem refSame_v {w : World} (L M : List Vl) {lo lo2 c d : Nat} {A B : Option Addr} (h : Row w lo w.heap.size A c L) (h2 : Row w lo2 w.heap.size B d M) :
    Calls Tryz.prog 23 #[.slice A L.length c, .slice B M.length d] w fun r w' => r = .returned (.bool (decide (L = M))) ∧ ∃ k, w.drewN k = w' := by
  obtain ⟨hl, hm⟩ := h.len
  obtain ⟨hl2, hm2⟩ := h2.len
  have H := Lib.hid h
  have H2 := Lib.hid h2
  clear h h2
  by_cases hlen : L.length = M.length
  · rw [← hlen]
    have HL := Lib.hid hlen
    clear hlen
    go_enter Tryz.func23, Tryz.ntmps23
    go_wp2_with fail
    go_loopw [5] (fun i wr => ∃ k q : Nat, k ≤ L.length ∧ i = .int .i64 (k : Int) ∧ Hid (L.take k = M.take k) ∧ w.drewN q = wr) (fun i _ => L.length - (intOf i).toNat)
    case atStart => exact ⟨0, 0, Nat.zero_le _, rfl, rfl, rfl⟩
    case round =>
      obtain ⟨k, q, hk, rfl, HE, rfl⟩ := hrel
      by_cases hlt : k < L.length
      · have ik : (k : Int) < (L.length : Int) := by omega
        have hlt2 : k < M.length := by have := HL.out; omega
        obtain ⟨b1, o1, rfl, _, _, x0, x1⟩ := H.out.get hlt
        obtain ⟨b2, o2, rfl, _, _, y0, y1⟩ := H2.out.get hlt2
        have ht1 : Hid (L.take (k + 1) = L.take k ++ [L[k]]) := List.take_succ_eq_append_getElem hlt
        have ht2 : Hid (M.take (k + 1) = M.take k ++ [M[k]]) := List.take_succ_eq_append_getElem hlt2
        have hq : Hid (L = M → L[k] = M[k]) := fun h => by subst h; rfl
        have i0 : (0 : Int) ≤ (k : Int) := by omega
        generalize L[k] = x at *
        generalize M[k] = y at *
        obtain ⟨xn, xs⟩ := x
        obtain ⟨yn, ys⟩ := y
        simp only at x0 x1 y0 y1
        by_cases hxy : xn = yn ∧ xs = ys
        · obtain ⟨rfl, rfl⟩ := hxy
          go_wp2_with fail
          go_quiet (fail)
          go_wp2_with fail
          go_roundw
          case rel => exact ⟨k + 1, _, by omega, by go_num, by unfold Hid; rw [ht1.out, ht2.out, HE.out], rfl⟩
          case measure => simp [intOf]; omega
        · have HX : Hid (decide (L = M) = false) := decide_eq_false fun h => hxy (by have := hq.out h; injection this with h1 h2; exact ⟨h1, h2⟩)
          by_cases hs : xs = ys
          · subst hs
            cases xn <;> cases yn
            · exact absurd ⟨rfl, rfl⟩ hxy
            · clear hxy
              go_wp2_with fail
              go_quiet (fail)
              go_wp2_with fail
              go_ret
              exact ⟨ret_bool HX.out.symm, _, (World.drewN_drewN _ _ _).symm⟩
            · clear hxy
              go_wp2_with fail
              go_quiet (fail)
              go_wp2_with fail
              go_ret
              exact ⟨ret_bool HX.out.symm, _, (World.drewN_drewN _ _ _).symm⟩
            · exact absurd ⟨rfl, rfl⟩ hxy
          · have hs2 : (xs.toList == ys.toList) = false := beq_eq_false_iff_ne.2 fun h => hs (ByteArray.ext (Array.toList_inj.1 (by rw [← Lib.toList_data, ← Lib.toList_data, h])))
            clear hxy
            cases xn <;> cases yn
            all_goals
              go_wp2_with fail
              go_quiet (fail)
              go_wp2_with fail
              go_ret
              exact ⟨ret_bool HX.out.symm, _, (World.drewN_drewN _ _ _).symm⟩
      · have ik : ¬ (k : Int) < (L.length : Int) := by omega
        have hall : Hid (L = M) := by
          have h := HE.out
          rw [List.take_of_length_le (by omega), List.take_of_length_le (by have := HL.out; omega)] at h
          exact h
        go_wp2_with fail
        go_ret
        exact ⟨ret_bool (decide_eq_true hall.out).symm, _, rfl⟩
  · have hne : ((L.length : Int) != (M.length : Int)) = true := by rw [bne_iff_ne]; omega
    have HN : Hid (decide (L = M) = false) := decide_eq_false fun h => hlen (by rw [h])
    go_enter Tryz.func23, Tryz.ntmps23
    go_wp2_with fail
    go_ret
    exact ⟨ret_bool HN.out.symm, 0, rfl⟩
end Go.Proofs.YtmffpbhiehjlpaaGreat
