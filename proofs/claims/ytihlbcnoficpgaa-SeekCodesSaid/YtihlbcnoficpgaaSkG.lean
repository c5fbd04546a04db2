/-
  The seek package: Merge. (Printed by wip/tools/genskg.py.)
-/
import Derived.Test.YtihlbcnoficpgaaSkC
import Derived.Test.YtihlbcnoficpgaaMgF
import Derived.Deep.RegionLaw
namespace Go.Proofs.Ytihlbcnoficpgaa
set_option linter.unusedSimpArgs false
set_option linter.unusedVariables false
open Go.RowKit

/-- room for n strings -/
theorem room_strs (w : World) (n : Nat) (h : n ≤ 1000000000) : ∃ w1, (Instr.makeSlice 22 (.int .i64 0) (.int .i64 (n : Int))).run Try.prog w = .ok (.slice (some ⟨w.heap.size, 0, none⟩) 0 n) w1 ∧
    w1.ownsRow w.heap.size 9 1 (.slice (some ⟨w.heap.size, 0, none⟩) 0 n) 0 [] ∧ w.grownBy w1 none := by
  obtain ⟨i0, hi0, hz0, hz1, hz2⟩ := info_parts Try.infoStr
  have := run_make_own (P := Try.prog) w w.heap.size 22 9 i0 _ 1 Try.underlying22 hi0 hz0 hz1 .i64 .i64 n (by rw [hz2]; omega) (by simp only [maxLen]; omega) (Nat.le_refl _)
  simpa using this
theorem run_sliceAt_tail {A : Option Addr} (w : World) (p c : Nat) (h1 : 1 ≤ p) (h2 : p ≤ c) :
    (Instr.sliceAt 22 (.slice A p c) (some (.int .i64 1)) none none).run Try.prog w = .ok (.slice (if c = 1 then A else A.map (·.add 1)) (p - 1) (c - 1)) w := by
  obtain ⟨i0, hi0, hz0, hz1, hz2⟩ := info_parts Try.infoStr
  have c1 : (0 : Int) ≤ 1 ∧ (1 : Int) ≤ (p : Int) := by omega
  have c2 : p ≤ c := h2
  have c3 : (1 : Int).toNat = 1 := rfl
  simp only [Instr.sliceAt, Instr.slice, Sem.run_bind, run_underlying Try.underlying22, Result.andThen_ok, Sem.run_pure, Instr.sliceBounds, Instr.sliceBound, asIntOf, if_pos c1, if_pos c2, c3, sizeOf, typeInfo, run_program, hi0, hz1, Nat.mul_one]
/-- the first string of what is left, and what is left behind it -/
theorem rest_strs {w : World} {hi c p i : Nat} {A : Option Addr} {t : List ByteArray} (h : Rd w 0 hi A c (sv (t.drop i))) (hp : p + i = t.length) (hp0 : 0 < p) : ∃ hi' : i < t.length, (∃ b off, A = some ⟨b, off, none⟩ ∧ b < hi ∧ w.cell? ⟨b, off, none⟩ = some (.string t[i])) ∧
    ∃ A' c', (∀ w0, (Instr.sliceAt 22 (.slice A p c) (some (.int .i64 1)) none none).run Try.prog w0 = .ok (.slice A' (p - 1) c') w0) ∧ Rd w 0 hi A' c' (sv (t.drop (i + 1))) ∧ p ≤ c ∧ c ≤ 9223372036854775807 := by
  have hlt : i < t.length := by omega
  have hl := h.len
  have hm := h.cap
  rw [sv_length, List.length_drop] at hl
  unfold maxLen at hm
  refine ⟨hlt, ?_, _, _, fun w0 => run_sliceAt_tail w0 p c hp0 (by omega), ?_, by omega, by omega⟩
  · obtain ⟨b, off, rfl, _, hb, hcell⟩ := h.str (k := 0) (by rw [List.length_drop]; omega)
    refine ⟨b, off, rfl, hb, ?_⟩
    rw [List.getElem_drop] at hcell
    simpa using hcell
  · have h1 := h.cut (k := 1) (n := p) (by omega) (by rw [sv_length, List.length_drop]; omega)
    have e : ((sv (t.drop i)).drop 1).take (p - 1) = sv (t.drop (i + 1)) := by
      rw [← sv_drop', List.drop_drop, List.take_of_length_le (by rw [sv_length, List.length_drop]; omega)]
    rw [e] at h1
    exact h1
def slLen : Value → Nat
  | .slice _ n _ => n
  | _ => 0
theorem bytL2_drop' (t : List ByteArray) (k : Nat) : bytL2 (t.drop k) = (bytL2 t).drop k := by simp [bytL2]
/-- all of one taken, and what is left of the other one put behind: both in order -/
theorem mrg_left {t u v : List (List UInt8)} {j : Nat} (ht : risesL t = true) : ∀ (n : Nat) {i : Nat} {v : List (List UInt8)}, Mrg t u i j v → j = u.length → i + n = t.length → Mrg t u t.length j (v ++ t.drop i)
  | 0, i, v, h, hj, hn => by
    obtain rfl : i = t.length := by omega
    rw [List.drop_length, List.append_nil]
    exact h
  | n + 1, i, v, h, hj, hn => by
    have hi : i < t.length := by omega
    have h1 := mrg_left (v := v) ht n (h.left ht hi (fun hj2 => by omega)) hj (by omega)
    rw [List.append_assoc, List.singleton_append, List.getElem_cons_drop] at h1
    exact h1
theorem mrg_end {t u v : List (List UInt8)} {i j : Nat} (h : Mrg t u i j v) (ht : risesL t = true) (hu : risesL u = true) (hi : i ≤ t.length) (hj : j ≤ u.length) (he : i = t.length ∨ j = u.length) : SortOf (t ++ u) (v ++ t.drop i ++ u.drop j) := by
  rcases he with rfl | rfl
  · rw [List.drop_length, List.append_nil]
    have h1 := (mrg_left (v := v) hu (u.length - j) h.turn rfl (by omega)).turn
    exact h1.done
  · rw [List.drop_length, List.append_nil]
    exact (mrg_left (v := v) ht (t.length - i) h rfl (by omega)).done
/-- append of one string that a new block holds, the length a number of its own -/
theorem step_push_one {ops : Array Oper} {rest : List Oper} {o : Oper} {a : Act} {Q : Exit → Act → World → Prop} {w : World} {v : Value} {g : Nat} (base : Nat) (ys : List ByteArray) (z : ByteArray) (n : Nat) (hn : ys.length = n) (hgd : o.guard = none) (s x : Operand)
    (ho : o.op = .call { callee := .builtin .append, args := #[s, x], argTypes := #[22, 22] }) (hty : o.type = 22)
    (hs : a.eval s = v) (hx : a.eval x = .slice (some ⟨g, 0, none⟩) 1 1) (hcell : w.cell? ⟨g, 0, none⟩ = some (.string z))
    (hown : w.ownsRow base 9 1 v n (sv ys)) (hb : n + 1 ≤ 1000000000) (hbase : base ≤ w.heap.size)
    (h : ∀ A' c' w', w'.ownsRow base 9 1 (.slice A' (n + 1) c') (n + 1) (sv (ys ++ [z])) → w.grownBy w' v.ownBlock → wpList Try.prog ops Q rest (a.put o.dst (.slice A' (n + 1) c')) w') :
    wpList Try.prog ops Q (o :: rest) a w := by
  subst hn
  refine wpList_push_str base ys z hgd s x ho hty hs hx hcell hown hb hbase fun A' c' w' h1 h2 => h A' c' w' ?_ h2
  have e : (ys ++ [z]).length = ys.length + 1 := by simp
  rw [e] at h1
  exact h1
set_option maxRecDepth 20000 in
set_option maxHeartbeats 4000000 in
theorem smerge_any {w : World} {d e : Nat} {t u : List ByteArray} (h : Dk w d t) (k : Dk w e u) :
    Calls Try.prog 18 #[.pointer (some ⟨d, 0, none⟩), .pointer (some ⟨e, 0, none⟩)] w fun r w' => ∃ (v : List ByteArray) (A : Option Addr) (c : Nat), r = .returned (.slice A v.length c) ∧ SortOf (bytL2 t ++ bytL2 u) (bytL2 v) ∧ w'.ownsRow w.heap.size 9 1 (.slice A v.length c) v.length (sv v) ∧ Below w.heap.size w w' := by
  have hlt := h.len
  have hlu := k.len
  have HRT := Lib.hid h.rises
  have HRU := Lib.hid k.rises
  have HA := Lib.hid (fall_any h.dc (by omega) (fun s hs => by have := h.size s hs; omega))
  have HA2 : Hid (∀ wx, Below w.heap.size w wx → Calls Try.prog 20 #[.pointer (some ⟨e, 0, none⟩)] wx fun r w' => ∃ A c, r = .returned (.slice A u.length c) ∧ w'.ownsRow wx.heap.size 9 1 (.slice A u.length c) u.length (sv u) ∧ Below wx.heap.size wx w') := fun wx hb => fall_any (k.below hb).dc (by omega) (fun s hs => by have := k.size s hs; omega)
  clear h k
  go_enter Try.func18, Try.ntmps18
  go_wp2_with fail
  refine HA.out.mono ?_
  rintro r w1 ⟨A1, c1, rfl, ho1, hb1⟩
  have HR1 := Lib.hid ((Rd.of_own ho1).wide (Nat.zero_le _) (Nat.le_refl _))
  have HB1 := Lib.hid hb1
  have hs1 := hb1.size
  clear ho1 hb1 HA
  go_wp2_with fail
  refine (HA2.out _ HB1.out).mono ?_
  rintro r w2 ⟨A2, c2, rfl, ho2, hb2⟩
  have HR2 := Lib.hid ((Rd.of_own ho2).wide (Nat.zero_le _) (Nat.le_refl _))
  have HR1b := Lib.hid ((HR1.out.below hb2 (Nat.le_refl _)).wide (Nat.le_refl _) hb2.size)
  have HB2 := Lib.hid (below_below HB1.out hb2 hs1)
  have hs2 := HB2.out.size
  clear ho2 hb2 HA2 HR1
  obtain ⟨w3, hmake, ho3, hg3⟩ := room_strs w2 (t.length + u.length) (by omega)
  have HO3 := Lib.hid ho3
  have HB3 := Lib.hid (below_of_gb (Nat.le_refl _) hg3 (fun g hg => by cases hg))
  rw [show ((t.length + u.length : Nat) : Int) = (t.length : Int) + (u.length : Int) from by omega] at hmake
  clear ho3 hg3
  go_wp2_with fail
  clear hmake
  go_loopw [5, 6, 7] (fun x5 x6 x7 wr => ∃ (i j p q : Nat) (v : List ByteArray) (A5 A6 A7 : Option Addr) (c5 c6 c7 n : Nat), p + i = t.length ∧ q + j = u.length ∧ x5 = .slice A5 p c5 ∧ x6 = .slice A6 q c6 ∧ x7 = .slice A7 n c7 ∧ v.length = n ∧ Rd w2 0 w2.heap.size A5 c5 (sv (t.drop i)) ∧ Rd w2 0 w2.heap.size A6 c6 (sv (u.drop j)) ∧
    Mrg (bytL2 t) (bytL2 u) i j (bytL2 v) ∧ wr.ownsRow w2.heap.size 9 1 (.slice A7 n c7) n (sv v) ∧ Below w2.heap.size w2 wr) (fun x5 x6 _ _ => slLen x5 + slLen x6)
  case atStart => exact ⟨0, 0, t.length, u.length, [], _, _, _, _, _, _, 0, rfl, rfl, rfl, rfl, rfl, rfl, HR1b.out, HR2.out, Mrg.nil _ _, HO3.out, HB3.out⟩
  case round =>
    clear HR1b HR2 HO3 HB3
    obtain ⟨i, j, p, q, v, A5, A6, A7, c5, c6, c7, n, hpi, hqj, rfl, rfl, rfl, hvn, hr5, hr6, hm, ho, hb⟩ := hrel
    have HR5 := Lib.hid hr5
    have HR6 := Lib.hid hr6
    have HM := Lib.hid hm
    have HO := Lib.hid ho
    have HB := Lib.hid hb
    have HVN := Lib.hid hvn
    have HPI := Lib.hid hpi
    have HQJ := Lib.hid hqj
    have hn : n ≤ 8192 := by
      have h1 := hm.len
      rw [bytL2_length] at h1
      omega
    have hsz := hb.size
    have hp5 : p ≤ t.length := by omega
    have hq6 : q ≤ u.length := by omega
    clear hr5 hr6 hm ho hb hvn hpi hqj
    by_cases hp : 0 < p
    · by_cases hq : 0 < q
      · have ip : (0 : Int) < (p : Int) := by omega
        have iq : (0 : Int) < (q : Int) := by omega
        have dp : decide ((0 : Int) < (p : Int)) = true := decide_eq_true ip
        have dq : decide ((0 : Int) < (q : Int)) = true := decide_eq_true iq
        obtain ⟨hi, ⟨b5, o5, rfl, hb5, hc5⟩, A5', c5', hsl5, hr5, hpc, hcm⟩ := rest_strs HR5.out HPI.out hp
        obtain ⟨hj, ⟨b6, o6, rfl, hb6, hc6⟩, A6', c6', hsl6, hr6, hqc, hcm6⟩ := rest_strs HR6.out HQJ.out hq
        have HR5' := Lib.hid hr5
        have HR6' := Lib.hid hr6
        have hcell5 : wr.cell? ⟨b5, o5, none⟩ = some (.string t[i]) := (HB.out.cell hb5).trans hc5
        have hcell6 : wr.cell? ⟨b6, o6, none⟩ = some (.string u[j]) := (HB.out.cell hb6).trans hc6
        have HTI : Hid (∀ h, (bytL2 t)[i]'h = t[i].data.toList) := fun h => bytL2_get t i hi
        have HUJ : Hid (∀ h, (bytL2 u)[j]'h = u[j].data.toList) := fun h => bytL2_get u j hj
        have HTL : Hid (i < (bytL2 t).length ∧ j < (bytL2 u).length) := by unfold Hid; rw [bytL2_length, bytL2_length]; exact ⟨hi, hj⟩
        have HSL5 := Lib.hid hsl5
        have HSL6 := Lib.hid hsl6
        clear hr5 hr6 hc5 hc6 hsl5 hsl6
        obtain ⟨p', hp'⟩ : ∃ p', p - 1 = p' := ⟨_, rfl⟩
        obtain ⟨q', hq'⟩ : ∃ q', q - 1 = q' := ⟨_, rfl⟩
        rw [hp'] at HSL5
        rw [hq'] at HSL6
        have HP' := Lib.hid hp'
        have HQ' := Lib.hid hq'
        clear hp' hq'
        have hless := less_str t[i] u[j]
        have hless2 := less_str u[j] t[i]
        have hturn : cmpL u[j].data.toList t[i].data.toList = - cmpL t[i].data.toList u[j].data.toList := cmpL_turn _ _
        obtain ⟨x, hx⟩ : ∃ x, t[i] = x := ⟨_, rfl⟩
        obtain ⟨y, hy⟩ : ∃ y, u[j] = y := ⟨_, rfl⟩
        rw [hx] at hcell5 HTI hless hless2 hturn
        rw [hy] at hcell6 HUJ hless hless2 hturn
        clear hx hy
        have hdx : ∀ M, (wr.drewN M).cell? ⟨b5, o5, none⟩ = some (.string x) := fun _ => hcell5
        have hdy : ∀ M, (wr.drewN M).cell? ⟨b6, o6, none⟩ = some (.string y) := fun _ => hcell6
        have HOW : Hid (∀ wx : World, wx.heap = wr.heap → ∀ o, (wx.alloc o).ownsRow w2.heap.size 9 1 (.slice A7 n c7) n (sv v)) := fun wx hw o => (own_keep HO.out (fun k hk => by rw [hw])).alloc o
        have HBW : Hid (∀ wx : World, Below w2.heap.size wr wx → Below w2.heap.size w2 wx) := fun wx hw => HB.out.trans hw
        have HBA : Hid (∀ M o, Below w2.heap.size wr ((wr.drewN M).alloc o)) := fun M o => (below_drewN' (Below.refl _ wr) M).alloc hsz o
        rcases Int.lt_trichotomy (cmpL x.data.toList y.data.toList) 0 with hz | hz | hz
        · have d1 : decide (cmpL x.data.toList y.data.toList < 0) = true := decide_eq_true hz
          have d2 : decide (cmpL y.data.toList x.data.toList < 0) = false := decide_eq_false (by omega)
          have hne : ¬ x.data.toList = y.data.toList := fun e => by rw [e, cmpL_same] at hz; omega
          have he1 : (x.toList == y.toList) = false := beq_eq_false_iff_ne.2 fun e => by rw [Lib.toList_data, Lib.toList_data] at e; exact hne e
          have he2 : (y.toList == x.toList) = false := beq_eq_false_iff_ne.2 fun e => by rw [Lib.toList_data, Lib.toList_data] at e; exact hne e.symm
          have HMN : Hid (Mrg (bytL2 t) (bytL2 u) (i + 1) j (bytL2 (v ++ [x]))) := by
            have h1 := HM.out.left HRT.out HTL.out.1 (fun hj => by rw [HTI.out, HUJ.out]; exact hz)
            rw [HTI.out] at h1
            unfold Hid
            rw [bytL2_app]
            exact h1
          have HV1 : Hid ((v ++ [x]).length = n + 1) := by unfold Hid; rw [List.length_append, HVN.out]; rfl
          rw [d1] at hless
          rw [d2] at hless2
          have hsl5 := HSL5.out
          clear hz d1 d2 hturn hne
          go_wp2_with fail
          go_quiet (fail)
          go_wp2_with fail
          go_region_law (first
            | (refine step_append_strs (v := .slice A7 n c7) w2.heap.size v [x] (v ++ [x]) rfl n 1 (n + 1) HVN.out rfl HV1.out rfl (.tmp 37) (.tmp 39) rfl rfl (by simp [Act.eval, Act.put]) (by simp [Act.eval, Act.put]; rfl) (by first | exact HOW.out wr rfl _ | exact HOW.out _ rfl _) (rd_one (by exact cell_new _ _ _)) (by omega) (by simp <;> omega) ?_; intro A8 c8 w8 ho8 hg8; have HO8 := Lib.hid ho8; have HB8 : Hid (Below w2.heap.size w2 w8) := (HBW.out _ (by first | exact HBA.out _ _ | exact HBA.out 0 _ | exact HBA.out 1 _)).grown hg8 (by simp <;> omega) (fun g hg => (own_lt HO.out hg).1); clear ho8 hg8))
          all_goals
            go_wp2_with fail
            go_roundw
            case rel => exact ⟨i + 1, j, p', q, v ++ [x], A5', _, A8, c5', c6, c8, n + 1, by have := HP'.out; have := HPI.out; omega, by have := HQ'.out; have := HQJ.out; omega, rfl, rfl, rfl, HV1.out, HR5'.out, HR6.out, HMN.out, HO8.out, HB8.out⟩
            case measure => have := HP'.out; have := HQ'.out; simp [slLen] <;> omega
        · have d1 : decide (cmpL x.data.toList y.data.toList < 0) = false := decide_eq_false (by omega)
          have d2 : decide (cmpL y.data.toList x.data.toList < 0) = false := decide_eq_false (by omega)
          have hne : x.data.toList = y.data.toList := cmpL_zero hz
          have he1 : (x.toList == y.toList) = true := beq_iff_eq.2 (by rw [Lib.toList_data, Lib.toList_data]; exact hne)
          have he2 : (y.toList == x.toList) = true := beq_iff_eq.2 (by rw [Lib.toList_data, Lib.toList_data]; exact hne.symm)
          have HMN : Hid (Mrg (bytL2 t) (bytL2 u) (i + 1) (j + 1) (bytL2 (v ++ [x]))) := by
            have h1 := HM.out.both HRT.out HRU.out HTL.out.1 HTL.out.2 (by rw [HTI.out, HUJ.out]; exact hne)
            rw [HTI.out] at h1
            unfold Hid
            rw [bytL2_app]
            exact h1
          have HV1 : Hid ((v ++ [x]).length = n + 1) := by unfold Hid; rw [List.length_append, HVN.out]; rfl
          rw [d1] at hless
          rw [d2] at hless2
          have hsl5 := HSL5.out
          have hsl6 := HSL6.out
          clear hz d1 d2 hturn hne
          go_wp2_with fail
          go_quiet (fail)
          go_wp2_with fail
          go_region_law (first
            | (refine step_append_strs (v := .slice A7 n c7) w2.heap.size v [x] (v ++ [x]) rfl n 1 (n + 1) HVN.out rfl HV1.out rfl (.tmp 37) (.tmp 39) rfl rfl (by simp [Act.eval, Act.put]) (by simp [Act.eval, Act.put]; rfl) (by first | exact HOW.out wr rfl _ | exact HOW.out _ rfl _) (rd_one (by exact cell_new _ _ _)) (by omega) (by simp <;> omega) ?_; intro A8 c8 w8 ho8 hg8; have HO8 := Lib.hid ho8; have HB8 : Hid (Below w2.heap.size w2 w8) := (HBW.out _ (by first | exact HBA.out _ _ | exact HBA.out 0 _ | exact HBA.out 1 _)).grown hg8 (by simp <;> omega) (fun g hg => (own_lt HO.out hg).1); clear ho8 hg8))
          all_goals
            go_wp2_with fail
            go_roundw
            case rel => exact ⟨i + 1, j + 1, p', q', v ++ [x], A5', A6', A8, c5', c6', c8, n + 1, by have := HP'.out; have := HPI.out; omega, by have := HQ'.out; have := HQJ.out; omega, rfl, rfl, rfl, HV1.out, HR5'.out, HR6'.out, HMN.out, HO8.out, HB8.out⟩
            case measure => have := HP'.out; have := HQ'.out; simp [slLen] <;> omega
        · have d1 : decide (cmpL x.data.toList y.data.toList < 0) = false := decide_eq_false (by omega)
          have d2 : decide (cmpL y.data.toList x.data.toList < 0) = true := decide_eq_true (by omega)
          have hne : ¬ x.data.toList = y.data.toList := fun e => by rw [e, cmpL_same] at hz; omega
          have he1 : (x.toList == y.toList) = false := beq_eq_false_iff_ne.2 fun e => by rw [Lib.toList_data, Lib.toList_data] at e; exact hne e
          have he2 : (y.toList == x.toList) = false := beq_eq_false_iff_ne.2 fun e => by rw [Lib.toList_data, Lib.toList_data] at e; exact hne e.symm
          have HMN : Hid (Mrg (bytL2 t) (bytL2 u) i (j + 1) (bytL2 (v ++ [y]))) := by
            have h1 := HM.out.right HRU.out HTL.out.2 (fun hi => by rw [HTI.out, HUJ.out]; omega)
            rw [HUJ.out] at h1
            unfold Hid
            rw [bytL2_app]
            exact h1
          have HV1 : Hid ((v ++ [y]).length = n + 1) := by unfold Hid; rw [List.length_append, HVN.out]; rfl
          rw [d1] at hless
          rw [d2] at hless2
          have hsl6 := HSL6.out
          clear hz d1 d2 hturn hne
          go_wp2_with fail
          go_quiet (fail)
          go_wp2_with (at_builtin; refine step_push_one w2.heap.size v y n HVN.out rfl _ _ rfl rfl rfl rfl (by exact cell_new _ _ _) (by first | exact HOW.out wr rfl _ | exact HOW.out _ rfl _) (by omega) (Nat.le_trans hsz (HBA.out _ _).size) ?_; intro A8 c8 w8 ho8 hg8)
          have HO8 := Lib.hid ho8
          have HB8 : Hid (Below w2.heap.size w2 w8) := (HBW.out _ (by first | exact HBA.out _ _ | exact HBA.out 0 _ | exact HBA.out 1 _)).grown hg8 (by simp <;> omega) (fun g hg => (own_lt HO.out hg).1)
          clear ho8 hg8
          go_wp2_with fail
          go_roundw
          case rel => exact ⟨i, j + 1, p, q', v ++ [y], _, A6', A8, c5, c6', c8, n + 1, by have := HP'.out; have := HPI.out; omega, by have := HQ'.out; have := HQJ.out; omega, rfl, rfl, rfl, HV1.out, HR5.out, HR6'.out, HMN.out, HO8.out, HB8.out⟩
          case measure => have := HP'.out; have := HQ'.out; simp [slLen] <;> omega
      · obtain rfl : q = 0 := by omega
        have ip : (0 : Int) < (p : Int) := by omega
        have dp : decide ((0 : Int) < (p : Int)) = true := decide_eq_true ip
        have HQ0 : Hid (i = t.length ∨ j = u.length) := Or.inr (by have := HQJ.out; omega)
        obtain ⟨V, hV⟩ : ∃ V, v ++ t.drop i = V := ⟨_, rfl⟩
        obtain ⟨W, hW⟩ : ∃ W, V ++ u.drop j = W := ⟨_, rfl⟩
        have HVL : Hid (V.length = n + p) := by unfold Hid; rw [← hV, List.length_append, List.length_drop, HVN.out]; have := HPI.out; omega
        have HWL : Hid (W.length = n + p) := by unfold Hid; rw [← hW, List.length_append, List.length_drop, HVL.out]; have := HQJ.out; omega
        have HSO : Hid (SortOf (bytL2 t ++ bytL2 u) (bytL2 W)) := by
          unfold Hid
          rw [← hW, ← hV, bytL2_app, bytL2_app, bytL2_drop', bytL2_drop']
          exact mrg_end HM.out HRT.out HRU.out (by rw [bytL2_length]; have := HPI.out; omega) (by rw [bytL2_length]; have := HQJ.out; omega) (by rw [bytL2_length, bytL2_length]; exact HQ0.out)
        have HOV : Hid (wr.ownsRow w2.heap.size 9 1 (.slice A7 v.length c7) v.length (sv v)) := by unfold Hid; rw [HVN.out]; exact HO.out
        obtain ⟨A8, c8, w8, hrun8, ho8, hg8⟩ := append_strs wr w2.heap.size _ v (t.drop i) V hV HOV.out (HR5.out.below HB.out (Nat.le_refl _)) (by rw [HVN.out, List.length_drop]; omega) hsz
        have hb8 : Below w2.heap.size w2 w8 := HB.out.grown hg8 hsz (fun g hg => (own_lt HOV.out hg).1)
        obtain ⟨A9, c9, w9, hrun9, ho9, hg9⟩ := append_strs w8 w2.heap.size _ V (u.drop j) W hW ho8 (HR6.out.below hb8 (Nat.le_refl _)) (by rw [HVL.out, List.length_drop]; omega) hb8.size
        have hb9 : Below w2.heap.size w2 w9 := hb8.grown hg9 hb8.size (fun g hg => (own_lt ho8 hg).1)
        rw [List.length_drop, show t.length - i = p by have := HPI.out; omega, HVN.out, HVL.out] at hrun8
        rw [List.length_drop, show u.length - j = 0 by have := HQJ.out; omega, HVL.out, HWL.out] at hrun9
        have HO9 : Hid (w9.ownsRow w2.heap.size 9 1 (.slice A9 (n + p) c9) (n + p) (sv W)) := by unfold Hid; have h1 := ho9; rw [HWL.out] at h1; exact h1
        have HB9 := Lib.hid hb9
        have HRUN8 := Lib.hid hrun8
        have HRUN9 := Lib.hid hrun9
        clear hrun8 hrun9 ho8 ho9 hg8 hg9 hb8 hb9 hV hW
        go_wp2_with (at_builtin; refine wpList_append_run rfl _ _ _ _ rfl rfl rfl HRUN8.out ?_; refine held ?_)
        refine ⟨?_⟩
        go_wp2_with (at_builtin; refine wpList_append_run rfl _ _ _ _ rfl rfl rfl HRUN9.out ?_)
        go_ret
        exact ⟨W, A9, c9, by rw [HWL.out]; rfl, HSO.out, by rw [HWL.out]; exact own_base HO9.out hs2, HB2.out.trans (HB9.out.mono hs2)⟩
    · obtain rfl : p = 0 := by omega
      have HQ0 : Hid (i = t.length ∨ j = u.length) := Or.inl (by have := HPI.out; omega)
      obtain ⟨V, hV⟩ : ∃ V, v ++ t.drop i = V := ⟨_, rfl⟩
      obtain ⟨W, hW⟩ : ∃ W, V ++ u.drop j = W := ⟨_, rfl⟩
      have HVL : Hid (V.length = n + 0) := by unfold Hid; rw [← hV, List.length_append, List.length_drop, HVN.out]; have := HPI.out; omega
      have HWL : Hid (W.length = n + q) := by unfold Hid; rw [← hW, List.length_append, List.length_drop, HVL.out]; have := HQJ.out; omega
      have HSO : Hid (SortOf (bytL2 t ++ bytL2 u) (bytL2 W)) := by
        unfold Hid
        rw [← hW, ← hV, bytL2_app, bytL2_app, bytL2_drop', bytL2_drop']
        exact mrg_end HM.out HRT.out HRU.out (by rw [bytL2_length]; have := HPI.out; omega) (by rw [bytL2_length]; have := HQJ.out; omega) (by rw [bytL2_length, bytL2_length]; exact HQ0.out)
      have HOV : Hid (wr.ownsRow w2.heap.size 9 1 (.slice A7 v.length c7) v.length (sv v)) := by unfold Hid; rw [HVN.out]; exact HO.out
      obtain ⟨A8, c8, w8, hrun8, ho8, hg8⟩ := append_strs wr w2.heap.size _ v (t.drop i) V hV HOV.out (HR5.out.below HB.out (Nat.le_refl _)) (by rw [HVN.out, List.length_drop]; omega) hsz
      have hb8 : Below w2.heap.size w2 w8 := HB.out.grown hg8 hsz (fun g hg => (own_lt HOV.out hg).1)
      obtain ⟨A9, c9, w9, hrun9, ho9, hg9⟩ := append_strs w8 w2.heap.size _ V (u.drop j) W hW ho8 (HR6.out.below hb8 (Nat.le_refl _)) (by rw [HVL.out, List.length_drop]; omega) hb8.size
      have hb9 : Below w2.heap.size w2 w9 := hb8.grown hg9 hb8.size (fun g hg => (own_lt ho8 hg).1)
      rw [List.length_drop, show t.length - i = 0 by have := HPI.out; omega, HVN.out, HVL.out] at hrun8
      rw [List.length_drop, show u.length - j = q by have := HQJ.out; omega, HVL.out, HWL.out] at hrun9
      have HO9 : Hid (w9.ownsRow w2.heap.size 9 1 (.slice A9 (n + q) c9) (n + q) (sv W)) := by unfold Hid; have h1 := ho9; rw [HWL.out] at h1; exact h1
      have HB9 := Lib.hid hb9
      have HRUN8 := Lib.hid hrun8
      have HRUN9 := Lib.hid hrun9
      clear hrun8 hrun9 ho8 ho9 hg8 hg9 hb8 hb9 hV hW
      go_wp2_with (at_builtin; refine wpList_append_run rfl _ _ _ _ rfl rfl rfl HRUN8.out ?_; refine held ?_)
      refine ⟨?_⟩
      go_wp2_with (at_builtin; refine wpList_append_run rfl _ _ _ _ rfl rfl rfl HRUN9.out ?_)
      go_ret
      exact ⟨W, A9, c9, by rw [HWL.out]; rfl, HSO.out, by rw [HWL.out]; exact own_base HO9.out hs2, HB2.out.trans (HB9.out.mono hs2)⟩
end Go.Proofs.Ytihlbcnoficpgaa
