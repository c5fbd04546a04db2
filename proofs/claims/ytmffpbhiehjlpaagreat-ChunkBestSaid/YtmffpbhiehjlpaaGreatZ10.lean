/-
  The document's Sorted of layer 13: strings put in order, each once.
  The longest symbol at a string's beginning, in plain.
-/
import Derived.Test.YtmffpbhiehjlpaaGreatZ09
import Derived.Test.YtmffpbhiehjlpaaGreatZ01
import Derived.Deep.RegionLaw
import Derived.BigQuiet
import Derived.Deep.QuietTactic
import Derived.Test.YtmffpbhiehjlpaaGreatZ02
namespace Go.Proofs.YtmffpbhiehjlpaaGreat
set_option linter.unusedSimpArgs false
set_option linter.unusedVariables false
open Go.RowKit
def SortOf (l t : List (List UInt8)) : Prop := risesL t = true ∧ ∀ x, x ∈ t ↔ x ∈ l
theorem SortOf.one {l t u : List (List UInt8)} (h : SortOf l t) (k : SortOf l u) : t = u :=
  (rises_sub h.1 k.1 fun x hx => (k.2 x).2 ((h.2 x).1 hx)).eq_of_length_le (rises_sub k.1 h.1 fun x hx => (h.2 x).2 ((k.2 x).1 hx)).length_le
theorem rises_cons' {a : List UInt8} {t : List (List UInt8)} (h : ∀ b u, t = b :: u → cmpL a b < 0) (ht : risesL t = true) : risesL (a :: t) = true := by
  cases t with
  | nil => rfl
  | cons b u => exact rises_cons.2 ⟨h b u rfl, ht⟩
theorem rises_put (s : List UInt8) : ∀ (t : List (List UInt8)) (k : Nat), risesL t = true → (∀ j (hj : j < t.length), j < k → cmpL t[j] s < 0) → (∀ (hk : k < t.length), cmpL s t[k] < 0) → risesL (t.take k ++ s :: t.drop k) = true
  | t, 0, h, _, h2 => by
    rw [List.take_zero, List.nil_append, List.drop_zero]
    refine rises_cons' (fun b u e => ?_) h
    subst e
    exact h2 (by simp)
  | [], k + 1, _, _, _ => by simp [risesL]
  | a :: t, k + 1, h, h1, h2 => by
    rw [List.take_succ_cons, List.drop_succ_cons, List.cons_append]
    refine rises_cons' (fun b u e => ?_) (rises_put s t k (rises_tail h) (fun j hj hjk => h1 (j + 1) (by simpa using hj) (by omega)) (fun hk => h2 (by simpa using hk)))
    cases k with
    | zero =>
      rw [List.take_zero, List.nil_append] at e
      injection e with e1 e2
      subst e1
      exact h1 0 (by simp) (by omega)
    | succ k =>
      cases t with
      | nil =>
        simp at e
        obtain ⟨e1, _⟩ := e
        subst e1
        exact h1 0 (by simp) (by omega)
      | cons c t =>
        rw [List.take_succ_cons, List.cons_append] at e
        injection e with e1 e2
        subst e1
        exact (rises_cons.1 h).1
theorem bytL2_take (l : List ByteArray) (k : Nat) : bytL2 (l.take k) = (bytL2 l).take k := by simp [bytL2, List.map_take]
theorem bytL2_drop (l : List ByteArray) (k : Nat) : bytL2 (l.drop k) = (bytL2 l).drop k := by simp [bytL2, List.map_drop]
theorem bytL2_app (a b : List ByteArray) : bytL2 (a ++ b) = bytL2 a ++ bytL2 b := by simp [bytL2]
theorem str_inj {a b : ByteArray} (h : a.data.toList = b.data.toList) : a = b := by rw [← str_eta a, ← str_eta b, h]
theorem sv_take' (l : List ByteArray) (k : Nat) : sv (l.take k) = (sv l).take k := by simp [sv, List.map_take]
theorem sv_drop' (l : List ByteArray) (k : Nat) : sv (l.drop k) = (sv l).drop k := by simp [sv, List.map_drop]
theorem sort_put {L : List (List UInt8)} {t tm tn : List ByteArray} {s : ByteArray} {k : Nat} (h : SortOf L (bytL2 t)) (h1 : ∀ j (hj : j < t.length), j < k → cmpL t[j].data.toList s.data.toList < 0) (h2 : ∀ hk : k < t.length, cmpL s.data.toList t[k].data.toList < 0)
    (htm : t.take k ++ [s] = tm) (htn : tm ++ t.drop k = tn) : SortOf (L ++ [s.data.toList]) (bytL2 tn) := by
  subst htm htn
  have e : bytL2 (t.take k ++ [s] ++ t.drop k) = (bytL2 t).take k ++ s.data.toList :: (bytL2 t).drop k := by
    rw [bytL2_app, bytL2_app, bytL2_take, bytL2_drop, List.append_assoc]
    rfl
  rw [e]
  refine ⟨rises_put _ _ _ h.1 (fun j hj hjk => ?_) (fun hk => ?_), fun x => ?_⟩
  · rw [bytL2_length] at hj
    rw [bytL2_get t j hj]
    exact h1 j hj hjk
  · rw [bytL2_length] at hk
    rw [bytL2_get t k hk]
    exact h2 hk
  · rw [List.mem_append, List.mem_cons, List.mem_append, List.mem_singleton, ← h.2 x]
    conv => rhs; rw [← List.take_append_drop k (bytL2 t), List.mem_append]
    constructor
    · rintro (h | h | h)
      · exact Or.inl (Or.inl h)
      · exact Or.inr h
      · exact Or.inl (Or.inr h)
    · rintro ((h | h) | h)
      · exact Or.inl h
      · exact Or.inr (Or.inr h)
      · exact Or.inr (Or.inl h)
theorem sort_same {L : List (List UInt8)} {t : List ByteArray} {s : ByteArray} {k : Nat} (h : SortOf L (bytL2 t)) (hk : k < t.length) (he : t[k] = s) : SortOf (L ++ [s.data.toList]) (bytL2 t) := by
  refine ⟨h.1, fun x => ?_⟩
  rw [List.mem_append, List.mem_singleton, ← h.2 x]
  refine ⟨Or.inl, fun hx => hx.elim id fun e => ?_⟩
  subst e
  rw [← he, ← bytL2_get t k hk]
  exact List.getElem_mem _
theorem step_append_strs {ops : Array Oper} {o : Oper} {a : Act} {w : World} {K : Act → World → Prop} {Q : Exit → Act → World → Prop} {F : Prop} {v : Value} (base : Nat) (ys zs us : List ByteArray) (hus : ys ++ zs = us) (n m p : Nat) (hn : ys.length = n) (hm : zs.length = m) (hp : us.length = p) (hgd : o.guard = none) (s x : Operand)
    (ho : o.op = .call { callee := .builtin .append, args := #[s, x], argTypes := #[37, 37] }) (hty : o.type = 37)
    (hs : a.eval s = v) {A : Option Addr} {c : Nat} (hx : a.eval x = .slice A m c)
    (hown : w.ownsRow base 9 1 v n (sv ys)) {lo h' : Nat} (hr : Rd w lo h' A c (sv zs)) (hb : n + m ≤ 1000000000) (hbase : base ≤ w.heap.size)
    (h : ∀ A' c' w', w'.ownsRow base 9 1 (.slice A' p c') p (sv us) → w.grownBy w' v.ownBlock → K (a.put o.dst (.slice A' p c')) w') :
    if Region.wanted o (yielded ops a.tmps) = true then Oper.wp Tryz.prog o a w K Q else F := by
  subst hn hm hp
  have hw : Region.wanted o (yielded ops a.tmps) = true := by simp [Region.wanted, hgd]
  rw [if_pos hw]
  obtain ⟨A', c', w', hrun, h2, h3⟩ := append_strs w base v ys zs us hus hown hr hb hbase
  unfold Oper.wp execOp
  simp only [ho, hty, resolve, invoke, builtin, Sem.run_bind, Sem.run_pure, Result.andThen_ok, List.map_toArray, List.map_cons, List.map_nil, hs, hx, hrun]
  exact h A' c' w' h2 h3
theorem rd_one {w : World} {g : Nat} {s : ByteArray} (h : w.cell? ⟨g, 0, none⟩ = some (.string s)) : Rd w 0 w.heap.size (some ⟨g, 0, none⟩) 1 (sv [s]) := ⟨by simp [sv], by simp [maxLen], fun _ => ⟨g, 0, rfl, Nat.zero_le _, World.block_lt_of_cell? w _ h, fun j u hu => by
    match j, hu with
    | 0, hu =>
      simp [sv] at hu
      subst hu
      exact h
    | j + 1, hu => simp [sv] at hu⟩⟩
set_option maxRecDepth 20000 in
set_option maxHeartbeats 4000000 in
theorem refSorted_any {w : World} (l : List ByteArray) {c : Nat} {A : Option Addr} (h : Rd w 0 w.heap.size A c (sv l)) (hsz : ∀ s ∈ l, s.size ≤ 100000) (hlen : l.length ≤ 1000) :
    Calls Tryz.prog 31 #[.slice A l.length c] w fun r w' => ∃ (t : List ByteArray) (A' : Option Addr) (c' : Nat), r = .returned (.slice A' t.length c') ∧ SortOf (bytL2 l) (bytL2 t) ∧ t.length ≤ l.length ∧
      w'.ownsRow w.heap.size 9 1 (.slice A' t.length c') t.length (sv t) ∧ Below w.heap.size w w' := by
  have hl := h.len
  have hm := h.cap
  rw [sv_length] at hl
  unfold maxLen at hm
  have H := Lib.hid h
  have H1 : Hid (∀ k (hk : k < l.length), l[k].size ≤ 100000) := fun k hk => hsz _ (List.getElem_mem hk)
  clear h hsz
  go_enter Tryz.func31, Tryz.ntmps31
  go_wp2_with fail
  go_loopw [3, 4] (fun x3 x4 wr => ∃ (i : Nat) (t : List ByteArray) (A' : Option Addr) (c' : Nat), i ≤ l.length ∧ x4 = .int .i64 (i : Int) ∧ x3 = .slice A' t.length c' ∧ t.length ≤ i ∧ (∀ s ∈ t, s.size ≤ 100000) ∧ SortOf (bytL2 (l.take i)) (bytL2 t) ∧
    wr.ownsRow w.heap.size 9 1 (.slice A' t.length c') t.length (sv t) ∧ Below w.heap.size w wr) (fun _ x4 _ => l.length - (intOf x4).toNat)
  case atStart => exact ⟨0, [], none, 0, Nat.zero_le _, rfl, rfl, Nat.le_refl _, fun s hs => absurd hs List.not_mem_nil, ⟨rfl, fun x => Iff.rfl⟩, World.ownsRow_nil _ _ _ _, Below.refl _ _⟩
  case round =>
    obtain ⟨i, t, A', c', hi, rfl, rfl, hti, hts, hso, hown, hb⟩ := hrel
    obtain ⟨wy, hwy⟩ : ∃ wy, wy = wr := ⟨_, rfl⟩
    subst hwy
    have hr9 := Rd.own hown
    have htc := hr9.len
    have htm := hr9.cap
    rw [sv_length] at htc
    unfold maxLen at htm
    have HTS : Hid (∀ k (hk : k < t.length), t[k].size ≤ 100000) := fun k hk => hts _ (List.getElem_mem hk)
    have HTA := Lib.hid hts
    have HSO := Lib.hid hso
    have HR := Lib.hid hr9
    have HO := Lib.hid hown
    have HB := Lib.hid hb
    have hsz := hb.size
    clear hts hso hown hb hr9
    by_cases hlt : i < l.length
    · have ik : (i : Int) < (l.length : Int) := by omega
      obtain ⟨b1, off1, rfl, _, hb1, hcell0⟩ := H.out.str hlt
      have hcell : wy.cell? ⟨b1, off1 + i, none⟩ = some (.string l[i]) := (HB.out.cell hb1).trans hcell0
      have hss := H1.out i hlt
      have HTK : Hid (bytL2 (l.take (i + 1)) = bytL2 (l.take i) ++ [l[i].data.toList]) := by
        unfold Hid
        rw [List.take_succ_eq_append_getElem hlt, bytL2_app]
        rfl
      clear hcell0
      obtain ⟨s, hs⟩ : ∃ s, l[i] = s := ⟨_, rfl⟩
      rw [hs] at hcell hss HTK
      clear hs
      go_wp2_with fail
      go_loopw [5] (fun x5 wv => ∃ (k m : Nat), k ≤ t.length ∧ x5 = .int .i64 (k : Int) ∧ (∀ j (hj : j < t.length), j < k → cmpL t[j].data.toList s.data.toList < 0) ∧ wv = wy.drewN m) (fun x5 _ => t.length - (intOf x5).toNat)
      case atStart => exact ⟨0, 0, Nat.zero_le _, rfl, fun j _ h => absurd h (Nat.not_lt_zero j), rfl⟩
      case round =>
        obtain ⟨k, m, hk, rfl, hal, rfl⟩ := hrel
        have HAL := Lib.hid hal
        clear hal
        have hcell' : (wy.drewN m).cell? ⟨b1, off1 + i, none⟩ = some (.string s) := hcell
        by_cases hkt : k < t.length
        · have ikt : (k : Int) < (t.length : Int) := by omega
          have dkt : decide (k < t.length) = true := decide_eq_true hkt
          obtain ⟨b2, off2, rfl, _, _, hcell2⟩ := HR.out.str hkt
          have hks := HTS.out k hkt
          have hcell2' : (wy.drewN m).cell? ⟨b2, off2 + k, none⟩ = some (.string t[k]) := hcell2
          have HCM := Lib.hid (fun w => refCompare_any (w := w) t[k] s hks hss)
          have HNX : Hid (cmpL t[k].data.toList s.data.toList < 0 → ∀ j (hj : j < t.length), j < k + 1 → cmpL t[j].data.toList s.data.toList < 0) := fun h j hj hjk => by
            rcases Nat.lt_or_ge j k with h2 | h2
            · exact HAL.out j hj h2
            · have : j = k := by omega
              subst this
              exact h
          obtain ⟨z, hz⟩ : ∃ z, cmpL t[k].data.toList s.data.toList = z := ⟨_, rfl⟩
          have HZ := Lib.hid hz
          rw [hz] at HCM HNX
          clear hz
          by_cases hz0 : z < 0
          · have dz : decide (z < 0) = true := decide_eq_true hz0
            have HN2 := Lib.hid (HNX.out hz0)
            go_wp2_with fail
            go_quiet ((go_at_call 58; exact quiet_draws_on (HCM.out _)))
            go_wp2_with fail
            go_roundw
            case rel => exact ⟨k + 1, _, by omega, by go_num, HN2.out, by first | rfl | (rw [World.drewN_drewN])⟩
            case measure => simp [intOf] <;> omega
          · have dz : decide (z < 0) = false := decide_eq_false hz0
            go_wp2_with fail
            by_cases he : t[k] = s
            · have HSM : Hid (SortOf (bytL2 (l.take (i + 1))) (bytL2 t)) := by
                unfold Hid
                rw [HTK.out]
                exact sort_same HSO.out hkt he
              have e1 : (t[k].toList == s.toList) = true := by rw [he]; exact beq_self_eq_true _
              have e2 : t[k].toList = s.toList := by rw [he]
              clear he
              go_quiet ((go_at_call 58; exact quiet_draws_on (HCM.out _)))
              go_wp2_with fail
              go_quiet (fail)
              go_wp2_with fail
              go_roundw
              case rel => exact ⟨i + 1, t, _, c', by omega, by go_num, rfl, by omega, HTA.out, HSM.out, own_keep HO.out (fun _ _ => rfl), below_drewN' HB.out _⟩
              case measure => simp [intOf] <;> omega
            · have e2 : ¬ t[k].toList = s.toList := fun e => he (str_inj (by rw [Lib.toList_data, Lib.toList_data] at e; exact e))
              have e1 : (t[k].toList == s.toList) = false := beq_eq_false_iff_ne.2 e2
              have HGT : Hid (∀ hk : k < t.length, cmpL s.data.toList t[k].data.toList < 0) := fun h => by
                have h1 := cmpL_turn t[k].data.toList s.data.toList
                have h2 := HZ.out
                have h3 : z ≠ 0 := fun e => he (str_inj (cmpL_zero (h2.trans e)))
                omega
              clear he
              go_quiet ((go_at_call 58; exact quiet_draws_on (HCM.out _)))
              go_wp2_with fail
              go_quiet (fail)
              go_wp2_with fail
              have hkc : k ≤ c' := by omega
              have HT1 : Hid ((t.take k).length = k) := by unfold Hid; rw [List.length_take]; omega
              have HT2 : Hid ((t.drop k).length = t.length - k) := by unfold Hid; rw [List.length_drop]
              have HRT : Hid (∀ wx, Below wy.heap.size wy wx → Rd wx 0 wx.heap.size (some ⟨b2, off2, none⟩) c' (sv (t.take k))) := fun wx hx => by
                rw [sv_take']
                exact ((HR.out.below hx (Nat.le_refl _)).take_ k).wide (Nat.zero_le _) hx.size
              have HRD : Hid (∀ wx, Below wy.heap.size wy wx → Rd wx 0 wx.heap.size (if c' = k then some ⟨b2, off2, none⟩ else some ⟨b2, off2 + k, none⟩) (c' - k) (sv (t.drop k))) := fun wx hx => by
                have h1 := (HR.out.below hx (Nat.le_refl _)).cut (k := k) (n := t.length) hk (by rw [sv_length]; exact Nat.le_refl _)
                rw [sv_drop', ← List.take_of_length_le (l := (sv t).drop k) (i := t.length - k) (by rw [List.length_drop, sv_length]; exact Nat.le_refl _)]
                have e9 : (some ⟨b2, off2, none⟩ : Option Addr).map (·.add k) = some ⟨b2, off2 + k, none⟩ := by
                  show some (Addr.add ⟨b2, off2, none⟩ k) = _
                  unfold Addr.add
                  by_cases h0 : k = 0 <;> simp [h0]
                rw [e9] at h1
                exact h1.wide (Nat.zero_le _) hx.size
              have HBM : Hid (∀ M, Below wy.heap.size wy (wy.drewN M)) := fun M => below_drewN' (Below.refl _ wy) M
              have HBA : Hid (∀ wx o, Below wy.heap.size wy wx → Below wy.heap.size wy (wx.alloc o)) := fun wx o hx => hx.alloc hx.size o
              have HBG : Hid (∀ (wx wx' : World) (row : Option Nat), Below wy.heap.size wy wx → wx.grownBy wx' row → (∀ g, row = some g → wy.heap.size ≤ g) → Below wy.heap.size wy wx') := fun wx wx' row hx hg hr => hx.grown hg hx.size hr
              have HCL : Hid (∀ wx, Below wy.heap.size wy wx → wx.cell? ⟨b1, off1 + i, none⟩ = some (.string s)) := fun wx hx => (hx.cell (Nat.lt_of_lt_of_le hb1 hsz)).trans hcell
              have hcA : ∀ M o, ((wy.drewN M).alloc o).cell? ⟨b1, off1 + i, none⟩ = some (.string s) := fun M o => HCL.out _ (HBA.out _ _ (HBM.out M))
              have hcB : ∀ M, (wy.drewN M).cell? ⟨b1, off1 + i, none⟩ = some (.string s) := fun M => HCL.out _ (HBM.out M)
              obtain ⟨tm, htm⟩ : ∃ tm, t.take k ++ [s] = tm := ⟨_, rfl⟩
              obtain ⟨tn, htn⟩ : ∃ tn, tm ++ t.drop k = tn := ⟨_, rfl⟩
              have HTM := Lib.hid htm
              have HTN := Lib.hid htn
              have HT3 : Hid (tm.length = k + 1) := by unfold Hid; rw [← htm, List.length_append, HT1.out]; rfl
              have HT4 : Hid (tn.length = k + 1 + (t.length - k)) := by unfold Hid; rw [← htn, List.length_append, HT3.out, HT2.out]
              have HSN : Hid (SortOf (bytL2 (l.take (i + 1))) (bytL2 tn)) := by
                unfold Hid
                rw [HTK.out]
                exact sort_put HSO.out HAL.out HGT.out htm htn
              have HSZ : Hid (∀ x ∈ tn, x.size ≤ 100000) := fun x hx => by
                rw [← htn, ← htm] at hx
                rcases List.mem_append.1 hx with hx | hx
                · rcases List.mem_append.1 hx with hx | hx
                  · exact HTA.out x (List.mem_of_mem_take hx)
                  · rw [List.mem_singleton.1 hx]; exact hss
                · exact HTA.out x (List.mem_of_mem_drop hx)
              clear htm htn
              go_region_law (first
                | (refine step_append_strs (v := .slice (some ⟨wy.heap.size, 0, none⟩) 0 0) wy.heap.size [] (t.take k) (t.take k) rfl 0 k k rfl HT1.out HT1.out rfl (.tmp 45) (.tmp 48) rfl rfl (by simp [Act.eval, Act.put]) (by simp [Act.eval, Act.put]) (by first | exact own_none' _ _ | exact (own_none' _ _).alloc _) (HRT.out _ (by first | exact HBA.out _ _ (HBM.out _) | exact HBA.out _ _ (HBA.out _ _ (HBM.out _)))) (by omega) (by simp <;> omega) ?_; intro A4 c4 w4 ho4 hg4; have hb4 : Below wy.heap.size wy w4 := HBG.out _ _ _ (by first | exact HBA.out _ _ (HBM.out _) | exact HBA.out _ _ (HBA.out _ _ (HBM.out _))) hg4 (fun g hg => by simp [Value.ownBlock] at hg; omega); have hcl := HCL.out _ hb4)
                | (refine step_append_strs (v := .slice (some ⟨wy.heap.size + 1, 0, none⟩) 0 0) wy.heap.size [] (t.take k) (t.take k) rfl 0 k k rfl HT1.out HT1.out rfl (.tmp 45) (.tmp 48) rfl rfl (by simp [Act.eval, Act.put]) (by simp [Act.eval, Act.put]) (own_none2 _ _ _) (HRT.out _ (HBA.out _ _ (HBA.out _ _ (HBM.out _)))) (by omega) (by simp <;> omega) ?_; intro A4 c4 w4 ho4 hg4; have hb4 : Below wy.heap.size wy w4 := HBG.out _ _ _ (HBA.out _ _ (HBA.out _ _ (HBM.out _))) hg4 (fun g hg => by simp [Value.ownBlock] at hg; omega); have hcl := HCL.out _ hb4)
                | (refine step_append_strs (v := .slice A4 k c4) wy.heap.size (t.take k) [s] tm HTM.out k 1 (k + 1) HT1.out rfl HT3.out rfl (.tmp 49) (.tmp 54) rfl rfl (by simp [Act.eval, Act.put]) (by simp [Act.eval, Act.put]; rfl) (by first | exact ho4 | exact ho4.alloc _) (rd_one (by first | exact cell_new _ _ _ | exact cell_grown hg4 (cell_after _ _ _ _) (by simp [Value.ownBlock]) | exact cell_grown hg4 (cell_before _ _ _ _) (by simp [Value.ownBlock]))) (by omega) (by first | exact hb4.size | exact (HBA.out _ _ hb4).size) ?_; intro A5 c5 w5 ho5 hg5; have hb5 : Below wy.heap.size wy w5 := HBG.out _ _ _ (by first | exact hb4 | exact HBA.out _ _ hb4) hg5 (fun g hg => (own_lt ho4 hg).1))
                | (refine step_append_strs (v := .slice A5 (k + 1) c5) wy.heap.size tm (t.drop k) tn HTN.out (k + 1) (t.length - k) (k + 1 + (t.length - k)) HT3.out HT2.out HT4.out rfl (.tmp 55) (.tmp 58) rfl rfl (by simp [Act.eval, Act.put]) (by simp [Act.eval, Act.put]) ho5 (HRD.out _ hb5) (by omega) hb5.size ?_; intro A6 c6 w6 ho6 hg6; have HB6 := Lib.hid (HBG.out _ _ _ hb5 hg6 (fun g hg => (own_lt ho5 hg).1)); have HO6 := Lib.hid ho6; clear ho6 hg6))
              all_goals
                go_wp2_with fail
                go_roundw
                case rel => exact ⟨i + 1, tn, A6, c6, by omega, by go_num, by rw [HT4.out], by rw [HT4.out]; omega, HSZ.out, HSN.out, by rw [HT4.out]; exact own_base HO6.out hsz, HB.out.trans (HB6.out.mono hsz)⟩
                case measure => simp [intOf] <;> omega
        · have ikt : ¬ (k : Int) < (t.length : Int) := by omega
          have dkt : decide (k < t.length) = false := decide_eq_false hkt
          go_wp2_with fail
          go_quiet (fail)
          go_wp2_with fail
          go_quiet (fail)
          go_wp2_with fail
          have HGT : Hid (∀ hk : k < t.length, cmpL s.data.toList t[k].data.toList < 0) := fun h => absurd h hkt
          have hkc : k ≤ c' := by omega
          have HT1 : Hid ((t.take k).length = k) := by unfold Hid; rw [List.length_take]; omega
          have HT2 : Hid ((t.drop k).length = t.length - k) := by unfold Hid; rw [List.length_drop]
          have HRT : Hid (∀ wx, Below wy.heap.size wy wx → Rd wx 0 wx.heap.size A' c' (sv (t.take k))) := fun wx hx => by
            rw [sv_take']
            exact ((HR.out.below hx (Nat.le_refl _)).take_ k).wide (Nat.zero_le _) hx.size
          have HRD : Hid (∀ wx, Below wy.heap.size wy wx → Rd wx 0 wx.heap.size (if c' = k then A' else A'.map (·.add k)) (c' - k) (sv (t.drop k))) := fun wx hx => by
            have h1 := (HR.out.below hx (Nat.le_refl _)).cut (k := k) (n := t.length) hk (by rw [sv_length]; exact Nat.le_refl _)
            rw [sv_drop', ← List.take_of_length_le (l := (sv t).drop k) (i := t.length - k) (by rw [List.length_drop, sv_length]; exact Nat.le_refl _)]
            exact h1.wide (Nat.zero_le _) hx.size
          have HBM : Hid (∀ M, Below wy.heap.size wy (wy.drewN M)) := fun M => below_drewN' (Below.refl _ wy) M
          have HBA : Hid (∀ wx o, Below wy.heap.size wy wx → Below wy.heap.size wy (wx.alloc o)) := fun wx o hx => hx.alloc hx.size o
          have HBG : Hid (∀ (wx wx' : World) (row : Option Nat), Below wy.heap.size wy wx → wx.grownBy wx' row → (∀ g, row = some g → wy.heap.size ≤ g) → Below wy.heap.size wy wx') := fun wx wx' row hx hg hr => hx.grown hg hx.size hr
          have HCL : Hid (∀ wx, Below wy.heap.size wy wx → wx.cell? ⟨b1, off1 + i, none⟩ = some (.string s)) := fun wx hx => (hx.cell (Nat.lt_of_lt_of_le hb1 hsz)).trans hcell
          have hcA : ∀ M o, ((wy.drewN M).alloc o).cell? ⟨b1, off1 + i, none⟩ = some (.string s) := fun M o => HCL.out _ (HBA.out _ _ (HBM.out M))
          have hcB : ∀ M, (wy.drewN M).cell? ⟨b1, off1 + i, none⟩ = some (.string s) := fun M => HCL.out _ (HBM.out M)
          obtain ⟨tm, htm⟩ : ∃ tm, t.take k ++ [s] = tm := ⟨_, rfl⟩
          obtain ⟨tn, htn⟩ : ∃ tn, tm ++ t.drop k = tn := ⟨_, rfl⟩
          have HTM := Lib.hid htm
          have HTN := Lib.hid htn
          have HT3 : Hid (tm.length = k + 1) := by unfold Hid; rw [← htm, List.length_append, HT1.out]; rfl
          have HT4 : Hid (tn.length = k + 1 + (t.length - k)) := by unfold Hid; rw [← htn, List.length_append, HT3.out, HT2.out]
          have HSN : Hid (SortOf (bytL2 (l.take (i + 1))) (bytL2 tn)) := by
            unfold Hid
            rw [HTK.out]
            exact sort_put HSO.out HAL.out HGT.out htm htn
          have HSZ : Hid (∀ x ∈ tn, x.size ≤ 100000) := fun x hx => by
            rw [← htn, ← htm] at hx
            rcases List.mem_append.1 hx with hx | hx
            · rcases List.mem_append.1 hx with hx | hx
              · exact HTA.out x (List.mem_of_mem_take hx)
              · rw [List.mem_singleton.1 hx]; exact hss
            · exact HTA.out x (List.mem_of_mem_drop hx)
          clear htm htn
          go_region_law (first
            | (refine step_append_strs (v := .slice (some ⟨wy.heap.size, 0, none⟩) 0 0) wy.heap.size [] (t.take k) (t.take k) rfl 0 k k rfl HT1.out HT1.out rfl (.tmp 45) (.tmp 48) rfl rfl (by simp [Act.eval, Act.put]) (by simp [Act.eval, Act.put]) (by first | exact own_none' _ _ | exact (own_none' _ _).alloc _) (HRT.out _ (by first | exact HBA.out _ _ (HBM.out _) | exact HBA.out _ _ (HBA.out _ _ (HBM.out _)))) (by omega) (by simp <;> omega) ?_; intro A4 c4 w4 ho4 hg4; have hb4 : Below wy.heap.size wy w4 := HBG.out _ _ _ (by first | exact HBA.out _ _ (HBM.out _) | exact HBA.out _ _ (HBA.out _ _ (HBM.out _))) hg4 (fun g hg => by simp [Value.ownBlock] at hg; omega); have hcl := HCL.out _ hb4)
            | (refine step_append_strs (v := .slice (some ⟨wy.heap.size + 1, 0, none⟩) 0 0) wy.heap.size [] (t.take k) (t.take k) rfl 0 k k rfl HT1.out HT1.out rfl (.tmp 45) (.tmp 48) rfl rfl (by simp [Act.eval, Act.put]) (by simp [Act.eval, Act.put]) (own_none2 _ _ _) (HRT.out _ (HBA.out _ _ (HBA.out _ _ (HBM.out _)))) (by omega) (by simp <;> omega) ?_; intro A4 c4 w4 ho4 hg4; have hb4 : Below wy.heap.size wy w4 := HBG.out _ _ _ (HBA.out _ _ (HBA.out _ _ (HBM.out _))) hg4 (fun g hg => by simp [Value.ownBlock] at hg; omega); have hcl := HCL.out _ hb4)
            | (refine step_append_strs (v := .slice A4 k c4) wy.heap.size (t.take k) [s] tm HTM.out k 1 (k + 1) HT1.out rfl HT3.out rfl (.tmp 49) (.tmp 54) rfl rfl (by simp [Act.eval, Act.put]) (by simp [Act.eval, Act.put]; rfl) (by first | exact ho4 | exact ho4.alloc _) (rd_one (by first | exact cell_new _ _ _ | exact cell_grown hg4 (cell_after _ _ _ _) (by simp [Value.ownBlock]) | exact cell_grown hg4 (cell_before _ _ _ _) (by simp [Value.ownBlock]))) (by omega) (by first | exact hb4.size | exact (HBA.out _ _ hb4).size) ?_; intro A5 c5 w5 ho5 hg5; have hb5 : Below wy.heap.size wy w5 := HBG.out _ _ _ (by first | exact hb4 | exact HBA.out _ _ hb4) hg5 (fun g hg => (own_lt ho4 hg).1))
            | (refine step_append_strs (v := .slice A5 (k + 1) c5) wy.heap.size tm (t.drop k) tn HTN.out (k + 1) (t.length - k) (k + 1 + (t.length - k)) HT3.out HT2.out HT4.out rfl (.tmp 55) (.tmp 58) rfl rfl (by simp [Act.eval, Act.put]) (by simp [Act.eval, Act.put]) ho5 (HRD.out _ hb5) (by omega) hb5.size ?_; intro A6 c6 w6 ho6 hg6; have HB6 := Lib.hid (HBG.out _ _ _ hb5 hg6 (fun g hg => (own_lt ho5 hg).1)); have HO6 := Lib.hid ho6; clear ho6 hg6))
          all_goals
            go_wp2_with fail
            go_roundw
            case rel => exact ⟨i + 1, tn, A6, c6, by omega, by go_num, by rw [HT4.out], by rw [HT4.out]; omega, HSZ.out, HSN.out, by rw [HT4.out]; exact own_base HO6.out hsz, HB.out.trans (HB6.out.mono hsz)⟩
            case measure => simp [intOf] <;> omega
    · have ik : ¬ (i : Int) < (l.length : Int) := by omega
      have hil : i = l.length := by omega
      have HSF : Hid (SortOf (bytL2 l) (bytL2 t)) := by
        have := HSO.out
        rw [List.take_of_length_le (by omega)] at this
        exact this
      go_wp2_with fail
      go_ret
      exact ⟨t, A', c', rfl, HSF.out, by omega, HO.out, HB.out⟩
end Go.Proofs.YtmffpbhiehjlpaaGreat
namespace Go.Proofs.YtmffpbhiehjlpaaGreat
set_option linter.unusedSimpArgs false
set_option linter.unusedVariables false
def longP (T : List (List UInt8)) (l : List UInt8) : Int × Nat := longF T 0 (-1) 0 l
theorem longF_spec (l : List UInt8) : ∀ (T : List (List UInt8)) (i : Nat) (c : Int) (n : Nat), longF T i c n l = (c, n) ∨ ∃ j s, T[j]? = some s ∧ longF T i c n l = (((i + j : Nat) : Int), s.length) ∧ n < s.length ∧ s.isPrefixOf l = true
  | [], i, c, n => Or.inl rfl
  | t :: ts, i, c, n => by
    unfold longF
    by_cases h : n < t.length ∧ t.isPrefixOf l = true
    · rw [if_pos h]
      rcases longF_spec l ts (i + 1) (i : Int) t.length with h1 | ⟨j, s, h1, h2, h3, h4⟩
      · exact Or.inr ⟨0, t, rfl, h1, h.1, h.2⟩
      · exact Or.inr ⟨j + 1, s, by simpa using h1, by rw [h2, show i + 1 + j = i + (j + 1) by omega], by omega, h4⟩
    · rw [if_neg h]
      rcases longF_spec l ts (i + 1) c n with h1 | ⟨j, s, h1, h2, h3, h4⟩
      · exact Or.inl h1
      · exact Or.inr ⟨j + 1, s, by simpa using h1, by rw [h2, show i + 1 + j = i + (j + 1) by omega], h3, h4⟩
theorem longP_spec (T : List (List UInt8)) (l : List UInt8) : longP T l = (-1, 0) ∨ ∃ (j : Nat) (s : List UInt8), T[j]? = some s ∧ longP T l = ((j : Int), s.length) ∧ 0 < s.length ∧ List.IsPrefix s l := by
  rcases longF_spec l T 0 (-1) 0 with h | ⟨j, s, h1, h2, h3, h4⟩
  · exact Or.inl h
  · exact Or.inr ⟨j, s, h1, by rw [longP, h2, Nat.zero_add], h3, List.isPrefixOf_iff_prefix.1 h4⟩
theorem longP_nil (T : List (List UInt8)) : longP T [] = (-1, 0) := by
  rcases longP_spec T [] with h | ⟨j, s, _, _, h3, h4⟩
  · exact h
  · have := h4.length_le
    rw [List.length_nil] at this
    omega
theorem longF_most (l : List UInt8) : ∀ (T : List (List UInt8)) (i : Nat) (c : Int) (n : Nat), n ≤ (longF T i c n l).2 ∧ ∀ u ∈ T, u.isPrefixOf l = true → u.length ≤ (longF T i c n l).2
  | [], i, c, n => ⟨Nat.le_refl _, fun u hu => by cases hu⟩
  | t :: ts, i, c, n => by
    unfold longF
    by_cases h : n < t.length ∧ t.isPrefixOf l = true
    · rw [if_pos h]
      have ih := longF_most l ts (i + 1) (i : Int) t.length
      refine ⟨by omega, fun u hu hp => ?_⟩
      rcases List.mem_cons.1 hu with rfl | hu
      · exact ih.1
      · exact ih.2 u hu hp
    · rw [if_neg h]
      have ih := longF_most l ts (i + 1) c n
      refine ⟨ih.1, fun u hu hp => ?_⟩
      rcases List.mem_cons.1 hu with rfl | hu
      · have : ¬ n < u.length := fun h2 => h ⟨h2, hp⟩
        omega
      · exact ih.2 u hu hp
theorem longP_is {T : List (List UInt8)} {l s : List UInt8} {i : Nat} (hr : risesL T = true) (hi : i < T.length) (he : T[i] = s) (hp : List.IsPrefix s l) (h0 : 0 < s.length) (hm : ∀ u ∈ T, List.IsPrefix u l → u.length ≤ s.length) : longP T l = ((i : Int), s.length) := by
  have hmost := (longF_most l T 0 (-1) 0).2 s (he ▸ List.getElem_mem hi) (List.isPrefixOf_iff_prefix.2 hp)
  rcases longP_spec T l with h | ⟨j, s2, h1, h2, h3, h4⟩
  · rw [show longF T 0 (-1) 0 l = longP T l from rfl, h] at hmost
    exact absurd hmost (by show ¬ s.length ≤ 0; omega)
  · rw [show longF T 0 (-1) 0 l = longP T l from rfl, h2] at hmost
    obtain ⟨hj, hje⟩ := List.getElem?_eq_some_iff.1 h1
    have hle := hm s2 (hje ▸ List.getElem_mem hj) h4
    have hlen : s.length = s2.length := by show _ = _; simp only at hmost; omega
    have hes : s = s2 := by
      obtain ⟨r1, e1⟩ := hp
      obtain ⟨r2, e2⟩ := h4
      exact (List.append_inj (e1.trans e2.symm) hlen).1
    have : i = j := rises_inj hr hi hj (by rw [he, hje, hes])
    rw [h2, this, hlen]
theorem longP_none {T : List (List UInt8)} {l : List UInt8} (h : ∀ u ∈ T, List.IsPrefix u l → u.length = 0) : longP T l = (-1, 0) := by
  rcases longP_spec T l with h1 | ⟨j, s, h1, h2, h3, h4⟩
  · exact h1
  · obtain ⟨hj, hje⟩ := List.getElem?_eq_some_iff.1 h1
    have := h s (hje ▸ List.getElem_mem hj) h4
    omega
theorem cmpL_prefix {p q : List UInt8} (h : q ≠ []) : cmpL p (p ++ q) < 0 := by
  have := cmpL_ahead p [] q
  rw [List.append_nil] at this
  rw [this]
  cases q with
  | nil => exact absurd rfl h
  | cons => simp [cmpL]
theorem cmpL_takes {l : List UInt8} {m n : Nat} (h : m < n) (hn : n ≤ l.length) : cmpL (l.take m) (l.take n) < 0 := by
  have e : l.take n = l.take m ++ (l.drop m).take (n - m) := by
    rw [← List.take_add, show m + (n - m) = n by omega]
  rw [e]
  refine cmpL_prefix fun h2 => ?_
  have := congrArg List.length h2
  rw [List.length_take, List.length_drop, List.length_nil] at this
  omega
end Go.Proofs.YtmffpbhiehjlpaaGreat
