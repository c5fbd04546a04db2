/-
  The front package: a dictionary in memory; take. (Printed by wip/tools/genftt.py.)
-/
import Derived.Test.YtmffpbhiehjlpaaGreatZ36
import Derived.Test.YtmffpbhiehjlpaaGreatZ35
import Derived.Test.YtmffpbhiehjlpaaGreatZ01
namespace Go.Proofs.YtmffpbhiehjlpaaGreat
set_option linter.unusedSimpArgs false
set_option linter.unusedVariables false
open Go.RowKit
def Dc (w : World) (d : Nat) (ys : List ByteArray) : Prop :=
  ∃ A c, Blk w d 95 #[.slice A ys.length c] ∧ w.ownsRow (d + 1) 9 1 (.slice A ys.length c) ys.length (sv ys)
section
variable {w w' : World} {d g : Nat} {ys : List ByteArray}
theorem Dc.lt (h : Dc w d ys) : d < w.heap.size := by obtain ⟨A, c, hb, _⟩ := h; exact hb.lt
theorem Dc.cur (h : Dc w d ys) (hg : w.grownBy w' (some g)) (hgd : g < d) : Dc w' d ys := by
  obtain ⟨A, c, hb, ho⟩ := h
  exact ⟨A, c, hb.grown hg (fun e => by injection e with e; omega), own_keep ho (fun k hk => hg.block k (own_lt ho hk).2 (fun e => by injection e with e; have := (own_lt ho hk).1; omega))⟩
theorem Dc.drewN (h : Dc w d ys) (m : Nat) : Dc (w.drewN m) d ys := by
  obtain ⟨A, c, hb, ho⟩ := h
  exact ⟨A, c, hb, own_keep ho (fun _ _ => rfl)⟩
theorem Dc.below {B : Nat} (h : Dc w d ys) (hb : Below B w w') (hB : w.heap.size ≤ B) : Dc w' d ys := by
  obtain ⟨A, c, hbk, ho⟩ := h
  exact ⟨A, c, hbk.below hb (by have := hbk.lt; omega), own_below ho hb hB⟩
theorem Dc.open_ (h : Dc w d ys) : ∃ A c, w.cell? ⟨d, 0, none⟩ = some (.slice A ys.length c) ∧ w.frozen? ⟨d, 0, none⟩ = false ∧ Rd w (d + 1) w.heap.size A c (sv ys) := by
  obtain ⟨A, c, hb, ho⟩ := h
  refine ⟨A, c, ?_, hb.frozen 0, Rd.of_own ho⟩
  have := hb.cell 0
  simpa using this
theorem Dc.push {A : Option Addr} {c : Nat} (h : Dc w d ys) (hc : w.cell? ⟨d, 0, none⟩ = some (.slice A ys.length c)) (s : ByteArray) (hl : ys.length ≤ 10000000) :
    ∃ A' c' w2, (Builtin.append_ #[37, 37] 37 #[.slice A ys.length c, .slice (some ⟨w.heap.size, 0, none⟩) 1 1]).run Tryz.prog (w.alloc (.cells #[.string s] 9)) = .ok (.slice A' (ys.length + 1) c') w2 ∧
      w2.cell? ⟨d, 0, none⟩ = some (.slice A ys.length c) ∧ w2.frozen? ⟨d, 0, none⟩ = false ∧ Dc (w2.setCell ⟨d, 0, none⟩ (.slice A' (ys.length + 1) c')) d (ys ++ [s]) ∧ Below d w (w2.setCell ⟨d, 0, none⟩ (.slice A' (ys.length + 1) c')) := by
  obtain ⟨A0, c0, hb, ho⟩ := h
  have h0 := hb.cell 0
  simp only [hc] at h0
  have hA : A0 = A ∧ c0 = c := by
    have : Value.slice A ys.length c = Value.slice A0 ys.length c0 := by simpa using h0
    injection this with h1 h2 h3
    exact ⟨h1.symm, h3.symm⟩
  obtain ⟨rfl, rfl⟩ := hA
  have hsz := hb.lt
  have hr : Rd (w.alloc (.cells #[.string s] 9)) 0 (w.alloc (.cells #[.string s] 9)).heap.size (some ⟨w.heap.size, 0, none⟩) 1 (sv [s]) := by
    have hcell : (w.alloc (.cells #[.string s] 9)).cell? ⟨w.heap.size, 0, none⟩ = some (.string s) := by rw [World.cell?_alloc_at _ _ _ _ rfl]; rfl
    refine ⟨by simp [sv], by simp [maxLen], fun _ => ⟨w.heap.size, 0, rfl, Nat.zero_le _, by simp, fun j u hu => ?_⟩⟩
    match j, hu with
    | 0, hu =>
      simp [sv] at hu
      subst hu
      exact hcell
    | j + 1, hu => simp [sv] at hu
  obtain ⟨A', c', w2, hrun, hown, hg⟩ := append_strs (w.alloc (.cells #[.string s] 9)) (d + 1) _ ys [s] (ys ++ [s]) rfl (ho.alloc (.cells #[.string s] 9)) hr (by simp; omega) (by simp; omega)
  have hlen : (ys ++ [s]).length = ys.length + 1 := by simp
  rw [hlen] at hrun hown
  have hrow : ∀ q, (Value.slice A0 ys.length c0).ownBlock = some q → d + 1 ≤ q := fun q hq => (own_lt ho hq).1
  have hbd : Blk w2 d 95 #[.slice A0 ys.length c0] := (hb.alloc _).grown hg (fun e => by have := hrow d e.symm; omega)
  have hbe : Below d w w2 := ((Below.refl d w).alloc (by omega) _).grown hg (by simp; omega) (fun q hq => by have := hrow q hq; omega)
  refine ⟨A', c', w2, hrun, by have := hbd.cell 0; simpa using this, hbd.frozen 0, ⟨A', c', ?_, ?_⟩, hbe.setCell (p := ⟨d, 0, none⟩) (Nat.le_refl _) _⟩
  · rw [hlen]
    exact hbd.put 0 _
  · rw [hlen]
    exact own_keep hown (fun k hk => Below.heap_setCell _ _ _ _ (by have := (own_lt hown hk).1; show k ≠ d; omega))
end
theorem entR_len (f : Bool) (bs : List UInt8) (k : Nat) (e : Int) (last : List UInt8) : (entR f bs k e last).1.length ≤ last.length + 4096 := by
  unfold entR
  split
  · have := textR_len bs k e; omega
  · unfold nextR
    simp only [List.length_append, List.length_take]
    have := textR_len bs (mostR bs k e last.length).2.1 (mostR bs k e last.length).2.2
    omega
theorem good_le {l : List (List UInt8)} {s : List UInt8} (h : follL l s = true) : s.length ≤ 4096 := by
  unfold follL at h
  rw [Bool.and_eq_true, decide_eq_true_eq] at h
  exact h.1
set_option maxRecDepth 20000 in
set_option maxHeartbeats 8000000 in
theorem ftake_any {w : World} {lo g d k : Nat} {bs : List UInt8} {e : Int} {ys : List ByteArray} (hc : Cur w lo g bs k e) (hd : Dc w d ys) (hgd : g < d) (n size : Nat) (hn : n ≤ 64) (hsz : size ≤ 4294967295) (hyl : ys.length + n ≤ 1000000) (hbs : bs.length ≤ 1000000000000) :
    Calls Tryz.prog 100 #[.pointer (some ⟨d, 0, none⟩), cp g, .int .i64 (n : Int), .int .i64 (size : Int)] w fun r w' => r = .returned (.tuple #[]) ∧ ∃ ys' : List ByteArray, bytL2 ys' = (takeT bs (bytL2 ys) k e n size).1 ∧ ys'.length ≤ ys.length + n ∧
      Dc w' d ys' ∧ Cur w' lo g bs (takeT bs (bytL2 ys) k e n size).2.1 (takeT bs (bytL2 ys) k e n size).2.2 ∧ Out w w' (fun i => i = g ∨ d ≤ i) := by
  have hk := hc.le
  obtain ⟨TT, hTT⟩ : ∃ TT, takeT bs (bytL2 ys) k e n size = TT := ⟨_, rfl⟩
  rw [hTT]
  unfold takeT at hTT
  simp only at hTT
  obtain ⟨E, hE⟩ : ∃ E, ((bs.length - k : Nat) : Int) - (size : Int) = E := ⟨_, rfl⟩
  rw [hE] at hTT
  obtain ⟨F, hF⟩ : ∃ F, takeF bs E n true (bytL2 ys) [] k e = F := ⟨_, rfl⟩
  rw [hF] at hTT
  have HL := Lib.hid (left_any hc)
  have HE : Hid (((bs.length - k : Nat) : Int) - (size : Int) = E) := hE
  have hEb : -4294967296 ≤ E ∧ E ≤ 1000000000000 := by omega
  have HC := Lib.hid hc
  have HD := Lib.hid hd
  have HF := Lib.hid hF
  have HTT := Lib.hid hTT
  obtain ⟨y0, hy0⟩ : ∃ y0, ys.length = y0 := ⟨_, rfl⟩
  have HY0 := Lib.hid hy0
  rw [hy0] at hyl
  obtain ⟨lf, hlf⟩ : ∃ lf : Nat, bs.length - k = lf := ⟨_, rfl⟩
  rw [hlf] at HE HL
  have hlfb : lf ≤ 1000000000000 := by omega
  have hwE : IntKind.i64.wrap ((lf : Int) - (size : Int)) = E := by rw [HE.out]; exact IntWalk.i64_in _ (by omega)
  have hsub : (lf : Int) - (size : Int) = E := HE.out
  clear hc hd hE hF hTT hy0 hlf
  unfold cp at *
  go_enter Tryz.func100, Tryz.ntmps100
  go_wp2_with fail
  refine HL.out.mono ?_
  rintro r w1 ⟨rfl, m0, rfl⟩
  go_wp2_with fail
  clear hwE hsub
  go_loopw [9, 17] (fun x9 x17 wr => ∃ (i k' : Nat) (e' : Int) (last : ByteArray) (zs : List ByteArray), i ≤ n ∧ x17 = .int .i64 (i : Int) ∧ x9 = .string last ∧ last.size ≤ 4096 ∧ zs.length = y0 + i ∧ takeF bs E (n - i) (decide (i = 0)) (bytL2 zs) last.data.toList k' e' = F ∧
    Dc wr d zs ∧ Cur wr lo g bs k' e' ∧ Out w wr (fun i => i = g ∨ d ≤ i)) (fun _ i _ => n - (intOf i).toNat)
  case atStart => exact ⟨0, k, e, ⟨#[]⟩, ys, Nat.zero_le _, rfl, rfl, by decide, HY0.out, HF.out, HD.out.drewN _, HC.out.drewN _, (Out.refl _ _).drewN _⟩
  case round =>
    clear HC HD HL HF HE
    obtain ⟨i, k', e', last, zs, hi, rfl, rfl, hls, hzl, htf, hdc, hcur, hout⟩ := hrel
    have HZL := Lib.hid hzl
    have HTF := Lib.hid htf
    have HD := Lib.hid hdc
    have HC := Lib.hid hcur
    have HO := Lib.hid hout
    have hk' := hcur.le
    clear hzl htf hdc hcur hout
    by_cases hlt : i < n
    · have ik : (i : Int) < (n : Int) := by omega
      obtain ⟨m, hm⟩ : ∃ m, n - i = m + 1 := ⟨n - i - 1, by omega⟩
      have HM : Hid (n - (i + 1) = m) := by unfold Hid; omega
      have htf := HTF.out
      rw [hm, takeF] at htf
      clear HTF hm
      by_cases hi0 : i = 0
      · have b0 : ((i : Int) == 0) = true := by rw [beq_iff_eq]; omega
        rw [decide_eq_true hi0] at htf
        have HI0 := Lib.hid hi0
        clear hi0
        have hel := entR_len true bs k' e' last.data.toList
        have HT := Lib.hid (text_any HC.out)
        rw [show textR bs k' e' = entR true bs k' e' last.data.toList from rfl] at HT
        unfold stepF at htf
        simp only at htf
        generalize entR true bs k' e' last.data.toList = R at *
        obtain ⟨s0, k1, e1⟩ := R
        dsimp only at HT hel htf
        obtain ⟨s, hs⟩ : ∃ s : ByteArray, (⟨s0.toArray⟩ : ByteArray) = s := ⟨_, rfl⟩
        have hsd : s0 = s.data.toList := by rw [← hs]
        rw [hs] at HT
        rw [hsd] at htf hel
        rw [lenD, lenD] at hel
        clear hs hsd
        go_wp2_with fail
        refine HT.out.mono ?_
        rintro r w2 ⟨rfl, hc2, hg2⟩
        have HC2 := Lib.hid hc2
        have HD2 := Lib.hid (HD.out.cur hg2 hgd)
        have HO2 : Hid (Out w w2 (fun i => i = g ∨ d ≤ i)) := HO.out.trans (Out.of_gb (X := fun i => i = g ∨ d ≤ i) hg2 (fun q hq => by injection hq with hq; exact Or.inl hq.symm)) (fun _ _ h => h)
        clear hc2 hg2 HT HC HD HO
        obtain ⟨Aq, cq, hcq, hfq, hrq⟩ := HD2.out.open_
        have hzl := HZL.out
        have HFO := Lib.hid (ffollows_any zs s hzl hrq (by omega))
        rw [hzl] at hcq
        clear hrq hzl
        have HL2 := Lib.hid (left_any HC2.out)
        have hgl := @good_le (bytL2 zs) s.data.toList
        rw [lenD] at hgl
        obtain ⟨f1, hf1⟩ : ∃ f1, follL (bytL2 zs) s.data.toList = f1 := ⟨_, rfl⟩
        rw [hf1] at HFO htf hgl
        clear hf1
        obtain ⟨l1, hl1⟩ : ∃ l1 : Nat, bs.length - k1 = l1 := ⟨_, rfl⟩
        rw [hl1] at HL2 htf
        clear hl1
        have HTF := Lib.hid htf
        clear htf
        cases f1 with
        | false =>
          have htf := HTF.out
          rw [if_neg (show ¬ ((false : Bool) = true ∧ E ≤ (l1 : Int)) from fun h => by cases h.1), if_neg (orForm_ne e1)] at htf
          subst htf
          go_wp2_with fail
          refine HFO.out.mono ?_
          rintro r w' ⟨rfl, rfl⟩
          go_wp2_with fail
          refine (fail_any 3 HC2.out).mono ?_
          rintro r w3 ⟨rfl, hc3, hg3⟩
          have HC3 : Hid (Cur w3 lo g bs k1 (orForm e1)) := hc3
          have HD3 := Lib.hid (HD2.out.cur hg3 hgd)
          have HO3 : Hid (Out w w3 (fun i => i = g ∨ d ≤ i)) := HO2.out.trans (Out.of_gb (X := fun i => i = g ∨ d ≤ i) hg3 (fun q hq => by injection hq with hq; exact Or.inl hq.symm)) (fun _ _ h => h)
          have HGD := Lib.hid (good_any HC3.out)
          rw [show (orForm e1 == 0) = false from beq_eq_false_iff_ne.2 (orForm_ne e1)] at HGD
          clear hc3 hg3
          go_wp2_with fail
          refine HGD.out.mono ?_
          rintro r w' ⟨rfl, rfl⟩
          go_wp2_with fail
          refine bodyPost_ret (results_none rfl _ _ _) rfl ?_
          have hT := HTT.out
          simp only [orForm_bad (orForm_ne e1), ite_self] at hT
          subst hT
          exact ⟨rfl, zs, rfl, by rw [HZL.out, HY0.out]; omega, HD3.out, HC3.out, HO3.out⟩
        | true =>
          have hs4 := hgl rfl
          clear hgl
          by_cases hE1 : E ≤ (l1 : Int)
          · have iE : ¬ (l1 : Int) < E := by omega
            have dE : decide ((l1 : Int) < E) = false := decide_eq_false iE
            have htf := HTF.out
            rw [if_pos (show (true : Bool) = true ∧ E ≤ (l1 : Int) from ⟨rfl, hE1⟩)] at htf
            by_cases he1 : e1 = 0
            · subst he1
              rw [if_pos rfl] at htf
              have HTF2 := Lib.hid htf
              have HGD := Lib.hid (fun m => good_any (HC2.out.drewN m))
              rw [show ((0 : Int) == 0) = true from rfl] at HGD
              clear htf HTF
              go_wp2_with fail
              refine HFO.out.mono ?_
              rintro r w' ⟨rfl, rfl⟩
              go_wp2_with fail
              refine HL2.out.mono ?_
              rintro r w' ⟨rfl, m3, rfl⟩
              go_wp2_with fail
              refine (HGD.out m3).mono ?_
              rintro r w' ⟨rfl, rfl⟩
              have hcq3 : (w2.drewN m3).cell? ⟨d, 0, none⟩ = some (.slice Aq zs.length cq) := by rw [HZL.out]; exact hcq
              obtain ⟨A5, c5, w5, hrun5, hc5, hf5, hd5, hb5⟩ := (HD2.out.drewN m3).push hcq3 s (by rw [HZL.out]; omega)
              rw [HZL.out] at hrun5 hc5 hd5 hb5
              have HD5 := Lib.hid hd5
              have HC5 := Lib.hid ((HC2.out.drewN m3).behind hb5 hgd)
              have HO5 : Hid (Out w (w5.setCell ⟨d, 0, none⟩ (.slice A5 (y0 + i + 1) c5)) (fun i => i = g ∨ d ≤ i)) := (HO2.out.drewN m3).trans (Y := fun i => d ≤ i) ⟨hb5.os, hb5.tape, hb5.output, hb5.size, fun q _ hq2 => hb5.block q (by omega)⟩ (fun _ _ h => Or.inr h)
              clear hd5 hb5 hcq3 HGD HL2 HFO
              go_wp2_with (at_builtin; refine wpList_append_run rfl _ _ _ _ rfl rfl rfl hrun5 ?_; refine held ?_)
              refine ⟨?_⟩
              clear hrun5
              go_wp2_with fail
              go_roundw
              case rel => exact ⟨i + 1, k1, 0, s, zs ++ [s], by omega, by go_num, rfl, hs4, by rw [List.length_append, HZL.out, List.length_singleton]; omega, by rw [HM.out, decide_eq_false (p := i + 1 = 0) (by omega), bytL2_snoc]; exact HTF2.out, HD5.out, HC5.out, HO5.out⟩
              case measure => simp [intOf]; omega
            · rw [if_neg he1] at htf
              subst htf
              have HGD := Lib.hid (fun m => good_any (HC2.out.drewN m))
              rw [show (e1 == 0) = false from beq_eq_false_iff_ne.2 he1] at HGD
              go_wp2_with fail
              refine HFO.out.mono ?_
              rintro r w' ⟨rfl, rfl⟩
              go_wp2_with fail
              refine HL2.out.mono ?_
              rintro r w' ⟨rfl, m3, rfl⟩
              go_wp2_with fail
              refine (HGD.out m3).mono ?_
              rintro r w' ⟨rfl, rfl⟩
              go_wp2_with fail
              refine bodyPost_ret (results_none rfl _ _ _) rfl ?_
              have hT := HTT.out
              simp only [orForm_bad he1, ite_self] at hT
              subst hT
              exact ⟨rfl, zs, rfl, by rw [HZL.out, HY0.out]; omega, HD2.out.drewN _, HC2.out.drewN _, HO2.out.drewN _⟩
          · have iE : (l1 : Int) < E := by omega
            have dE : decide ((l1 : Int) < E) = true := decide_eq_true iE
            have htf := HTF.out
            rw [if_neg (show ¬ ((true : Bool) = true ∧ E ≤ (l1 : Int)) from fun h => hE1 h.2), if_neg (orForm_ne e1)] at htf
            subst htf
            go_wp2_with fail
            refine HFO.out.mono ?_
            rintro r w' ⟨rfl, rfl⟩
            go_wp2_with fail
            refine HL2.out.mono ?_
            rintro r w' ⟨rfl, m3, rfl⟩
            go_wp2_with fail
            refine (fail_any 3 (HC2.out.drewN m3)).mono ?_
            rintro r w3 ⟨rfl, hc3, hg3⟩
            have HC3 : Hid (Cur w3 lo g bs k1 (orForm e1)) := hc3
            have HD3 := Lib.hid ((HD2.out.drewN m3).cur hg3 hgd)
            have HO3 : Hid (Out w w3 (fun i => i = g ∨ d ≤ i)) := (HO2.out.drewN m3).trans (Out.of_gb (X := fun i => i = g ∨ d ≤ i) hg3 (fun q hq => by injection hq with hq; exact Or.inl hq.symm)) (fun _ _ h => h)
            have HGD := Lib.hid (good_any HC3.out)
            rw [show (orForm e1 == 0) = false from beq_eq_false_iff_ne.2 (orForm_ne e1)] at HGD
            clear hc3 hg3
            go_wp2_with fail
            refine HGD.out.mono ?_
            rintro r w' ⟨rfl, rfl⟩
            go_wp2_with fail
            refine bodyPost_ret (results_none rfl _ _ _) rfl ?_
            have hT := HTT.out
            simp only [orForm_bad (orForm_ne e1), ite_self] at hT
            subst hT
            exact ⟨rfl, zs, rfl, by rw [HZL.out, HY0.out]; omega, HD3.out, HC3.out, HO3.out⟩
      · have i0 : ¬ (i : Int) = 0 := by omega
        have b0 : ((i : Int) == 0) = false := by rw [beq_eq_false_iff_ne]; exact i0
        rw [decide_eq_false hi0] at htf
        have hel := entR_len false bs k' e' last.data.toList
        have HT := Lib.hid (fnext_any HC.out last (by omega))
        rw [show nextR bs k' e' last.data.toList = entR false bs k' e' last.data.toList from rfl] at HT
        unfold stepF at htf
        simp only at htf
        generalize entR false bs k' e' last.data.toList = R at *
        obtain ⟨s0, k1, e1⟩ := R
        dsimp only at HT hel htf
        go_wp2_with fail
        refine HT.out.mono ?_
        rintro r w2 ⟨s, rfl, hsd, hc2, hg2⟩
        rw [← hsd] at htf hel
        rw [lenD, lenD] at hel
        clear hsd
        have HC2 := Lib.hid hc2
        have HD2 := Lib.hid (HD.out.cur hg2 hgd)
        have HO2 : Hid (Out w w2 (fun i => i = g ∨ d ≤ i)) := HO.out.trans (Out.of_gb (X := fun i => i = g ∨ d ≤ i) hg2 (fun q hq => by injection hq with hq; exact Or.inl hq.symm)) (fun _ _ h => h)
        clear hc2 hg2 HT HC HD HO
        obtain ⟨Aq, cq, hcq, hfq, hrq⟩ := HD2.out.open_
        have hzl := HZL.out
        have HFO := Lib.hid (ffollows_any zs s hzl hrq (by omega))
        rw [hzl] at hcq
        clear hrq hzl
        have HL2 := Lib.hid (left_any HC2.out)
        have hgl := @good_le (bytL2 zs) s.data.toList
        rw [lenD] at hgl
        obtain ⟨f1, hf1⟩ : ∃ f1, follL (bytL2 zs) s.data.toList = f1 := ⟨_, rfl⟩
        rw [hf1] at HFO htf hgl
        clear hf1
        obtain ⟨l1, hl1⟩ : ∃ l1 : Nat, bs.length - k1 = l1 := ⟨_, rfl⟩
        rw [hl1] at HL2 htf
        clear hl1
        have HTF := Lib.hid htf
        clear htf
        cases f1 with
        | false =>
          have htf := HTF.out
          rw [if_neg (show ¬ ((false : Bool) = true ∧ E ≤ (l1 : Int)) from fun h => by cases h.1), if_neg (orForm_ne e1)] at htf
          subst htf
          go_wp2_with fail
          refine HFO.out.mono ?_
          rintro r w' ⟨rfl, rfl⟩
          go_wp2_with fail
          refine (fail_any 3 HC2.out).mono ?_
          rintro r w3 ⟨rfl, hc3, hg3⟩
          have HC3 : Hid (Cur w3 lo g bs k1 (orForm e1)) := hc3
          have HD3 := Lib.hid (HD2.out.cur hg3 hgd)
          have HO3 : Hid (Out w w3 (fun i => i = g ∨ d ≤ i)) := HO2.out.trans (Out.of_gb (X := fun i => i = g ∨ d ≤ i) hg3 (fun q hq => by injection hq with hq; exact Or.inl hq.symm)) (fun _ _ h => h)
          have HGD := Lib.hid (good_any HC3.out)
          rw [show (orForm e1 == 0) = false from beq_eq_false_iff_ne.2 (orForm_ne e1)] at HGD
          clear hc3 hg3
          go_wp2_with fail
          refine HGD.out.mono ?_
          rintro r w' ⟨rfl, rfl⟩
          go_wp2_with fail
          refine bodyPost_ret (results_none rfl _ _ _) rfl ?_
          have hT := HTT.out
          simp only [orForm_bad (orForm_ne e1), ite_self] at hT
          subst hT
          exact ⟨rfl, zs, rfl, by rw [HZL.out, HY0.out]; omega, HD3.out, HC3.out, HO3.out⟩
        | true =>
          have hs4 := hgl rfl
          clear hgl
          by_cases hE1 : E ≤ (l1 : Int)
          · have iE : ¬ (l1 : Int) < E := by omega
            have dE : decide ((l1 : Int) < E) = false := decide_eq_false iE
            have htf := HTF.out
            rw [if_pos (show (true : Bool) = true ∧ E ≤ (l1 : Int) from ⟨rfl, hE1⟩)] at htf
            by_cases he1 : e1 = 0
            · subst he1
              rw [if_pos rfl] at htf
              have HTF2 := Lib.hid htf
              have HGD := Lib.hid (fun m => good_any (HC2.out.drewN m))
              rw [show ((0 : Int) == 0) = true from rfl] at HGD
              clear htf HTF
              go_wp2_with fail
              refine HFO.out.mono ?_
              rintro r w' ⟨rfl, rfl⟩
              go_wp2_with fail
              refine HL2.out.mono ?_
              rintro r w' ⟨rfl, m3, rfl⟩
              go_wp2_with fail
              refine (HGD.out m3).mono ?_
              rintro r w' ⟨rfl, rfl⟩
              have hcq3 : (w2.drewN m3).cell? ⟨d, 0, none⟩ = some (.slice Aq zs.length cq) := by rw [HZL.out]; exact hcq
              obtain ⟨A5, c5, w5, hrun5, hc5, hf5, hd5, hb5⟩ := (HD2.out.drewN m3).push hcq3 s (by rw [HZL.out]; omega)
              rw [HZL.out] at hrun5 hc5 hd5 hb5
              have HD5 := Lib.hid hd5
              have HC5 := Lib.hid ((HC2.out.drewN m3).behind hb5 hgd)
              have HO5 : Hid (Out w (w5.setCell ⟨d, 0, none⟩ (.slice A5 (y0 + i + 1) c5)) (fun i => i = g ∨ d ≤ i)) := (HO2.out.drewN m3).trans (Y := fun i => d ≤ i) ⟨hb5.os, hb5.tape, hb5.output, hb5.size, fun q _ hq2 => hb5.block q (by omega)⟩ (fun _ _ h => Or.inr h)
              clear hd5 hb5 hcq3 HGD HL2 HFO
              go_wp2_with (at_builtin; refine wpList_append_run rfl _ _ _ _ rfl rfl rfl hrun5 ?_; refine held ?_)
              refine ⟨?_⟩
              clear hrun5
              go_wp2_with fail
              go_roundw
              case rel => exact ⟨i + 1, k1, 0, s, zs ++ [s], by omega, by go_num, rfl, hs4, by rw [List.length_append, HZL.out, List.length_singleton]; omega, by rw [HM.out, decide_eq_false (p := i + 1 = 0) (by omega), bytL2_snoc]; exact HTF2.out, HD5.out, HC5.out, HO5.out⟩
              case measure => simp [intOf]; omega
            · rw [if_neg he1] at htf
              subst htf
              have HGD := Lib.hid (fun m => good_any (HC2.out.drewN m))
              rw [show (e1 == 0) = false from beq_eq_false_iff_ne.2 he1] at HGD
              go_wp2_with fail
              refine HFO.out.mono ?_
              rintro r w' ⟨rfl, rfl⟩
              go_wp2_with fail
              refine HL2.out.mono ?_
              rintro r w' ⟨rfl, m3, rfl⟩
              go_wp2_with fail
              refine (HGD.out m3).mono ?_
              rintro r w' ⟨rfl, rfl⟩
              go_wp2_with fail
              refine bodyPost_ret (results_none rfl _ _ _) rfl ?_
              have hT := HTT.out
              simp only [orForm_bad he1, ite_self] at hT
              subst hT
              exact ⟨rfl, zs, rfl, by rw [HZL.out, HY0.out]; omega, HD2.out.drewN _, HC2.out.drewN _, HO2.out.drewN _⟩
          · have iE : (l1 : Int) < E := by omega
            have dE : decide ((l1 : Int) < E) = true := decide_eq_true iE
            have htf := HTF.out
            rw [if_neg (show ¬ ((true : Bool) = true ∧ E ≤ (l1 : Int)) from fun h => hE1 h.2), if_neg (orForm_ne e1)] at htf
            subst htf
            go_wp2_with fail
            refine HFO.out.mono ?_
            rintro r w' ⟨rfl, rfl⟩
            go_wp2_with fail
            refine HL2.out.mono ?_
            rintro r w' ⟨rfl, m3, rfl⟩
            go_wp2_with fail
            refine (fail_any 3 (HC2.out.drewN m3)).mono ?_
            rintro r w3 ⟨rfl, hc3, hg3⟩
            have HC3 : Hid (Cur w3 lo g bs k1 (orForm e1)) := hc3
            have HD3 := Lib.hid ((HD2.out.drewN m3).cur hg3 hgd)
            have HO3 : Hid (Out w w3 (fun i => i = g ∨ d ≤ i)) := (HO2.out.drewN m3).trans (Out.of_gb (X := fun i => i = g ∨ d ≤ i) hg3 (fun q hq => by injection hq with hq; exact Or.inl hq.symm)) (fun _ _ h => h)
            have HGD := Lib.hid (good_any HC3.out)
            rw [show (orForm e1 == 0) = false from beq_eq_false_iff_ne.2 (orForm_ne e1)] at HGD
            clear hc3 hg3
            go_wp2_with fail
            refine HGD.out.mono ?_
            rintro r w' ⟨rfl, rfl⟩
            go_wp2_with fail
            refine bodyPost_ret (results_none rfl _ _ _) rfl ?_
            have hT := HTT.out
            simp only [orForm_bad (orForm_ne e1), ite_self] at hT
            subst hT
            exact ⟨rfl, zs, rfl, by rw [HZL.out, HY0.out]; omega, HD3.out, HC3.out, HO3.out⟩
    · have ik : ¬ (i : Int) < (n : Int) := by omega
      have hin : n - i = 0 := by omega
      have htf := HTF.out
      rw [hin, takeF] at htf
      subst htf
      have HLF := Lib.hid (left_any HC.out)
      obtain ⟨l1, hl1⟩ : ∃ l1 : Nat, bs.length - k' = l1 := ⟨_, rfl⟩
      have hT := HTT.out
      dsimp only at hT
      rw [hl1] at HLF hT
      clear hl1 hin HTF
      by_cases hle : (l1 : Int) = E
      · rw [if_pos hle] at hT
        subst hT
        have bl : ((l1 : Int) == E) = true := by rw [beq_iff_eq]; exact hle
        go_wp2_with fail
        refine HLF.out.mono ?_
        rintro r w' ⟨rfl, m3, rfl⟩
        go_wp2_with fail
        go_end0
        exact ⟨rfl, zs, rfl, by rw [HZL.out, HY0.out]; omega, HD.out.drewN _, HC.out.drewN _, HO.out.drewN _⟩
      · rw [if_neg hle] at hT
        subst hT
        have bl : ((l1 : Int) == E) = false := by rw [beq_eq_false_iff_ne]; exact hle
        go_wp2_with fail
        refine HLF.out.mono ?_
        rintro r w' ⟨rfl, m3, rfl⟩
        go_wp2_with fail
        refine (fail_any 3 (HC.out.drewN m3)).mono ?_
        rintro r w3 ⟨rfl, hc3, hg3⟩
        have HC3 := Lib.hid hc3
        have HD3 := Lib.hid ((HD.out.drewN m3).cur hg3 hgd)
        have HO3 : Hid (Out w w3 (fun i => i = g ∨ d ≤ i)) := (HO.out.drewN m3).trans (Out.of_gb (X := fun i => i = g ∨ d ≤ i) hg3 (fun q hq => by injection hq with hq; exact Or.inl hq.symm)) (fun _ _ h => h)
        clear hc3 hg3
        go_wp2_with fail
        go_end0
        exact ⟨rfl, zs, rfl, by rw [HZL.out, HY0.out]; omega, HD3.out, HC3.out, HO3.out⟩
end Go.Proofs.YtmffpbhiehjlpaaGreat
