/-
  The symbol package: Get.
  The bitmap's Count.
  The document's Encode of layer 11.
-/
import Derived.Test.YtmffpbhiehjlpaaGreatZ03
import Derived.Test.YtmffpbhiehjlpaaGreatZ15
import Derived.Test.YtmffpbhiehjlpaaGreatZ06
import Derived.Test.YtmffpbhiehjlpaaGreatZ01
import Derived.Test.YtmffpbhiehjlpaaGreatZ13
import Derived.Outline
import Derived.BigQuiet
import Derived.Deep.QuietTactic
import Derived.Test.YtmffpbhiehjlpaaGreatZ11
import Derived.Test.YtmffpbhiehjlpaaGreatZ02
import Derived.Test.YtmffpbhiehjlpaaGreatZ20
namespace Go.Proofs.YtmffpbhiehjlpaaGreat
set_option linter.unusedSimpArgs false
set_option linter.unusedVariables false
open Go.RowKit
theorem gb_own {a w w' : World} {g : Nat} {v : Value} (h : a.grownBy w (some g)) (h2 : w.grownBy w' v.ownBlock) (hx : ∀ q, v.ownBlock = some q → a.heap.size ≤ q) : a.grownBy w' (some g) := by
  cases ho : v.ownBlock with
  | none => rw [ho] at h2; exact h.trans (gb_of_gb_none h2)
  | some q => rw [ho] at h2; exact gb_more h h2 (hx q ho)
theorem own_gb {w w' : World} {base n g : Nat} {e : TypeId} {size : Nat} {v : Value} {xs : List Value} (h : w.ownsRow base e size v n xs) (hg : w.grownBy w' (some g)) (hb : g < base) : w'.ownsRow base e size v n xs :=
  own_keep h fun k hk => hg.block k (own_lt h hk).2 (fun e => by injection e with e; have := (own_lt h hk).1; omega)
theorem fits_nat {w : World} (n : Nat) : Calls Tryz.prog 96 #[.int .i64 (n : Int)] w fun r w' => r = .returned (.bool (sizeOk n)) ∧ w = w' := fits_any (n : Int)
set_option maxRecDepth 20000 in
set_option maxHeartbeats 4000000 in
theorem sget_at {w : World} {lo g k0 : Nat} {e0 : Int} {bs : List UInt8} (h : Cur w lo g bs k0 e0) (hb : bs.length ≤ 1000000) :
    Calls Tryz.prog 79 #[cp g] w fun r w' => ∃ A c, r = .returned (.slice A (getK bs k0 e0).1.length c) ∧ w'.ownsRow w.heap.size 9 1 (.slice A (getK bs k0 e0).1.length c) (getK bs k0 e0).1.length (sv (strsL (getK bs k0 e0).1)) ∧
      Cur w' lo g bs (getK bs k0 e0).2.1 (getK bs k0 e0).2.2 ∧ w.grownBy w' (some g) := by
  have hlt := h.lt
  have HBY := Lib.hid (byte_any h)
  have HLL : Hid (getK bs k0 e0 = if (getAk bs k0 e0).2.2 = 0 then getAk bs k0 e0 else ([], (getAk bs k0 e0).2)) := rfl
  have HAA : Hid (getAk bs k0 e0 = getF bs (symK bs k0 e0) (takeR bs k0 e0 0 1).2.1 (takeR bs k0 e0 0 1).2.2 []) := rfl
  have hN : ((takeR bs k0 e0 0 1).1.headD 0).toNat = symK bs k0 e0 := rfl
  have hN5 : symK bs k0 e0 ≤ 255 := by have := UInt8.toNat_lt ((takeR bs k0 e0 0 1).1.headD 0); rw [← hN]; omega
  rw [hN] at HBY
  clear hN h
  generalize getK bs k0 e0 = L at *
  generalize takeR bs k0 e0 0 1 = T at *
  generalize symK bs k0 e0 = N at *
  generalize getAk bs k0 e0 = G at *
  unfold cp at *
  go_enter Tryz.func79, Tryz.ntmps79
  go_wp2_with fail
  refine HBY.out.mono ?_
  rintro r w1 ⟨rfl, hc1, hg1⟩
  have HC1 := Lib.hid hc1
  have HG1 := Lib.hid hg1
  clear hc1 hg1 HBY
  go_wp2_with fail
  go_loopw [3, 4, 9] (fun x3 x4 x9 wr => ∃ (i p : Nat) (e : Int) (last : ByteArray) (ys : List ByteArray) (A : Option Addr) (c : Nat), i ≤ N ∧ x9 = .int .i64 (i : Int) ∧ x4 = .string last ∧ x3 = .slice A i c ∧ ys.length = i ∧
    G = (bytL2 ys ++ (getF bs (N - i) p e last.data.toList).1, (getF bs (N - i) p e last.data.toList).2) ∧ last.size ≤ 1000000 ∧
    wr.ownsRow w.heap.size 9 1 (.slice A i c) i (sv ys) ∧ Cur wr lo g bs p e ∧ w.grownBy wr (some g)) (fun _ _ i _ => N - (intOf i).toNat)
  case atStart => exact ⟨0, T.2.1, T.2.2, ⟨#[]⟩, [], none, 0, Nat.zero_le _, rfl, rfl, rfl, rfl, by rw [HAA.out]; rfl, by decide, ⟨rfl, .inl ⟨rfl, rfl⟩⟩, HC1.out, HG1.out⟩
  case round =>
    clear HC1 HG1
    obtain ⟨i, p, e, last, ys, A, c, hi, rfl, rfl, rfl, hyl, hGe, hls, hown, hcur, hgb⟩ := hrel
    have HYL := Lib.hid hyl
    have HGE := Lib.hid hGe
    have HO := Lib.hid hown
    have HC := Lib.hid hcur
    have HG := Lib.hid hgb
    have hsz := hgb.size
    clear hyl hGe hown hcur hgb
    by_cases hiN : i < N
    · have ik : (i : Int) < (N : Int) := by omega
      obtain ⟨d, hd⟩ : ∃ d, N - i = d + 1 := ⟨N - i - 1, by omega⟩
      have HD : Hid (N - (i + 1) = d) := by unfold Hid; omega
      have HBY := Lib.hid (byte_any HC.out)
      obtain ⟨S, hS⟩ : ∃ S, gstep bs p e last.data.toList = S := ⟨_, rfl⟩
      have HGN : Hid (G = (bytL2 ys ++ (S.1 :: (getF bs d S.2.1 S.2.2 S.1).1), (getF bs d S.2.1 S.2.2 S.1).2)) := by
        unfold Hid
        rw [HGE.out, hd, getF, hS]
      clear hd HGE
      unfold gstep at hS
      simp only at hS
      generalize takeR bs p e 0 1 = R at *
      obtain ⟨n, hn⟩ : ∃ n, (R.1.headD 0).toNat = n := ⟨_, rfl⟩
      have hn5 : n ≤ 255 := by have := UInt8.toNat_lt (R.1.headD 0); rw [← hn]; omega
      rw [hn] at HBY hS
      clear hn
      obtain ⟨e2, he2⟩ : ∃ e2, (if sizeOk n = true then R.2.2 else orForm R.2.2) = e2 := ⟨_, rfl⟩
      rw [he2] at hS
      have HE2 := Lib.hid he2
      clear he2
      have HTL : Hid ((takeR bs R.2.1 e2 0 n).1.length ≤ bs.length) := by
        unfold Hid takeR
        repeat' split
        all_goals simp
        all_goals omega
      obtain ⟨Q, hQ⟩ : ∃ Q, takeR bs R.2.1 e2 0 n = Q := ⟨_, rfl⟩
      rw [hQ] at hS HTL
      have HQ := Lib.hid hQ
      have HS := Lib.hid hS
      clear hQ hS
      have HFI := Lib.hid (fun w => fits_nat (w := w) n)
      obtain ⟨f1, hf1⟩ : ∃ f1, sizeOk n = f1 := ⟨_, rfl⟩
      rw [hf1] at HFI HE2
      clear hf1
      obtain ⟨x, hx⟩ : ∃ x : ByteArray, x = ⟨Q.1.toArray⟩ := ⟨_, rfl⟩
      have hxl : x.data.toList = Q.1 := by rw [hx]
      have hxs : x.size ≤ 1000000 := by
        have h1 := HTL.out
        rw [← hxl, Array.length_toList] at h1
        have h2 : x.data.size = x.size := rfl
        omega
      have HXL := Lib.hid hxl
      have HFO := Lib.hid (fun w => follows_any (w := w) last x (by omega))
      rw [hxl] at HFO
      obtain ⟨f2, hf2⟩ : ∃ f2, folL last.data.toList Q.1 = f2 := ⟨_, rfl⟩
      rw [hf2] at HFO HS
      have HX := Lib.hid hx
      clear hf2 hx hxl
      -- ARMS
      cases f1 with
      | true =>
        cases f2 with
        | true =>
          go_wp2_with fail
          refine HBY.out.mono ?_
          rintro r w2 ⟨rfl, hc2, hg2⟩
          have HC2 := Lib.hid hc2
          have HO2 := Lib.hid (own_gb HO.out hg2 hlt)
          have HG2 := Lib.hid (HG.out.trans hg2)
          clear hc2 hg2 HBY HO
          go_wp2_with fail
          refine (HFI.out _).mono ?_
          rintro r w' ⟨rfl, rfl⟩
          have HE3 : Hid (R.2.2 = e2) := HE2.out
          have HC3 : Hid (Cur w2 lo g bs R.2.1 e2) := by unfold Hid; rw [← HE3.out]; exact HC2.out
          have HO3 := Lib.hid HO2.out
          have HG3 := Lib.hid HG2.out
          have hsz3 := HG3.out.size
          have HB := Lib.hid (bytes_any (n : Int) HC3.out (by omega))
          rw [HQ.out] at HB
          clear HC2 HO2 HG2
          go_wp2_with fail
          refine HB.out.mono ?_
          rintro r w4 ⟨A4, c4, rfl, hrd4, hc4, hg4⟩
          have hst := run_string_rd (P := Tryz.prog) w4 28 9 5 Tryz.underlying28 Tryz.underlying5 Tryz.underlying9 _ _ A4 c4 Q.1 (Rd.of_own hrd4)
          rw [← HX.out] at hst
          have HC4 := Lib.hid hc4
          have HO4 := Lib.hid (own_gb HO3.out hg4 hlt)
          have HG4 := Lib.hid (HG3.out.trans hg4)
          have hsz4 := HG4.out.size
          clear hc4 hg4 hrd4 HB HC3 HO3 HG3
          go_wp2_with fail
          refine (HFO.out _).mono ?_
          rintro r w5 ⟨rfl, m, rfl⟩
          clear hst
          have HC6 : Hid (Cur (w4.drewN m) lo g bs S.2.1 S.2.2) := by unfold Hid; rw [← HS.out]; exact HC4.out.drewN m
          obtain ⟨w6, hw6⟩ : ∃ w6, w4.drewN m = w6 := ⟨_, rfl⟩
          have HO6 : Hid (w6.ownsRow w.heap.size 9 1 (.slice A i c) i (sv ys)) := by unfold Hid; rw [← hw6]; exact own_keep HO4.out fun k hk => rfl
          have HG6 : Hid (w.grownBy w6 (some g)) := by unfold Hid; rw [← hw6]; exact gb_drewN HG4.out m
          rw [hw6] at HC6 ⊢
          clear hw6
          have hsz6 := HG6.out.size
          clear HC4 HO4 HG4
          rw [← HYL.out] at HO6
          go_wp2_with (at_builtin; refine wpList_push_str (v := .slice A i c) w.heap.size ys x rfl _ _ rfl rfl rfl rfl (by rw [World.cell?_alloc_at _ _ _ _ rfl]; rfl) (by have := HO6.out.alloc (.cells #[.string x] 9); rw [HYL.out] at this ⊢; exact this) (by rw [HYL.out]; omega) (by simp; omega) ?_; intro A7 c7 w7 ho7 hg7; refine held ?_)
          have hgb7 : w.grownBy w7 (some g) := gb_own (gb_alloc HG6.out _) hg7 (fun q hq => (own_lt HO6.out (by rw [HYL.out]; exact hq)).1)
          have hcu7 : Cur w7 lo g bs S.2.1 S.2.2 := (HC6.out.grown (row := none) (by exact gb_alloc (gb_refl _ _) _) (by simp)).grown hg7 (fun q hq => .inr (Nat.lt_of_lt_of_le hlt (own_lt HO6.out (by rw [HYL.out]; exact hq)).1))
          obtain ⟨zs, hzs⟩ : ∃ zs, ys ++ [x] = zs := ⟨_, rfl⟩
          rw [hzs] at ho7
          have hzl : zs.length = i + 1 := by rw [← hzs, List.length_append, HYL.out]; rfl
          rw [hzl] at ho7
          have HZV : Hid (Value.slice A7 (ys.length + 1) c7 = .slice A7 (i + 1) c7) := by unfold Hid; rw [HYL.out]
          have HGF : Hid (G = (bytL2 zs ++ (getF bs (N - (i + 1)) S.2.1 S.2.2 x.data.toList).1, (getF bs (N - (i + 1)) S.2.1 S.2.2 x.data.toList).2)) := by
            unfold Hid
            have h1 : S.1 = x.data.toList := by rw [← HS.out, HXL.out]
            rw [HGN.out, HD.out, ← hzs, h1]
            simp [bytL2]
          have HZL := Lib.hid hzl
          have HO7 := Lib.hid ho7
          have HC7 := Lib.hid hcu7
          have HG7 := Lib.hid hgb7
          clear ho7 hg7 hgb7 hcu7 hzs hzl HO6 HC6 HG6
          refine ⟨?_⟩
          go_wp2_with fail
          go_roundw
          case rel => exact ⟨i + 1, S.2.1, S.2.2, x, zs, A7, c7, by omega, by go_num, rfl, HZV.out, HZL.out, HGF.out, hxs, HO7.out, HC7.out, HG7.out⟩
          case measure => simp [intOf] <;> omega
        | false =>
          go_wp2_with fail
          refine HBY.out.mono ?_
          rintro r w2 ⟨rfl, hc2, hg2⟩
          have HC2 := Lib.hid hc2
          have HO2 := Lib.hid (own_gb HO.out hg2 hlt)
          have HG2 := Lib.hid (HG.out.trans hg2)
          clear hc2 hg2 HBY HO
          go_wp2_with fail
          refine (HFI.out _).mono ?_
          rintro r w' ⟨rfl, rfl⟩
          have HE3 : Hid (R.2.2 = e2) := HE2.out
          have HC3 : Hid (Cur w2 lo g bs R.2.1 e2) := by unfold Hid; rw [← HE3.out]; exact HC2.out
          have HO3 := Lib.hid HO2.out
          have HG3 := Lib.hid HG2.out
          have hsz3 := HG3.out.size
          have HB := Lib.hid (bytes_any (n : Int) HC3.out (by omega))
          rw [HQ.out] at HB
          clear HC2 HO2 HG2
          go_wp2_with fail
          refine HB.out.mono ?_
          rintro r w4 ⟨A4, c4, rfl, hrd4, hc4, hg4⟩
          have hst := run_string_rd (P := Tryz.prog) w4 28 9 5 Tryz.underlying28 Tryz.underlying5 Tryz.underlying9 _ _ A4 c4 Q.1 (Rd.of_own hrd4)
          rw [← HX.out] at hst
          have HC4 := Lib.hid hc4
          have HO4 := Lib.hid (own_gb HO3.out hg4 hlt)
          have HG4 := Lib.hid (HG3.out.trans hg4)
          have hsz4 := HG4.out.size
          clear hc4 hg4 hrd4 HB HC3 HO3 HG3
          go_wp2_with fail
          refine (HFO.out _).mono ?_
          rintro r w5 ⟨rfl, m, rfl⟩
          clear hst
          go_wp2_with fail
          refine (fail_any 3 (HC4.out.drewN m)).mono ?_
          rintro r w6 ⟨rfl, hc6, hg6⟩
          have HC6 : Hid (Cur w6 lo g bs S.2.1 S.2.2) := by unfold Hid; rw [← HS.out]; exact hc6
          have HO6 : Hid (w6.ownsRow w.heap.size 9 1 (.slice A i c) i (sv ys)) := own_gb (w := w4.drewN m) (own_keep HO4.out fun k hk => rfl) hg6 hlt
          have HG6 : Hid (w.grownBy w6 (some g)) := (gb_drewN HG4.out m).trans hg6
          clear hc6 hg6
          have hsz6 := HG6.out.size
          clear HC4 HO4 HG4
          rw [← HYL.out] at HO6
          go_wp2_with (at_builtin; refine wpList_push_str (v := .slice A i c) w.heap.size ys x rfl _ _ rfl rfl rfl rfl (by rw [World.cell?_alloc_at _ _ _ _ rfl]; rfl) (by have := HO6.out.alloc (.cells #[.string x] 9); rw [HYL.out] at this ⊢; exact this) (by rw [HYL.out]; omega) (by simp; omega) ?_; intro A7 c7 w7 ho7 hg7; refine held ?_)
          have hgb7 : w.grownBy w7 (some g) := gb_own (gb_alloc HG6.out _) hg7 (fun q hq => (own_lt HO6.out (by rw [HYL.out]; exact hq)).1)
          have hcu7 : Cur w7 lo g bs S.2.1 S.2.2 := (HC6.out.grown (row := none) (by exact gb_alloc (gb_refl _ _) _) (by simp)).grown hg7 (fun q hq => .inr (Nat.lt_of_lt_of_le hlt (own_lt HO6.out (by rw [HYL.out]; exact hq)).1))
          obtain ⟨zs, hzs⟩ : ∃ zs, ys ++ [x] = zs := ⟨_, rfl⟩
          rw [hzs] at ho7
          have hzl : zs.length = i + 1 := by rw [← hzs, List.length_append, HYL.out]; rfl
          rw [hzl] at ho7
          have HZV : Hid (Value.slice A7 (ys.length + 1) c7 = .slice A7 (i + 1) c7) := by unfold Hid; rw [HYL.out]
          have HGF : Hid (G = (bytL2 zs ++ (getF bs (N - (i + 1)) S.2.1 S.2.2 x.data.toList).1, (getF bs (N - (i + 1)) S.2.1 S.2.2 x.data.toList).2)) := by
            unfold Hid
            have h1 : S.1 = x.data.toList := by rw [← HS.out, HXL.out]
            rw [HGN.out, HD.out, ← hzs, h1]
            simp [bytL2]
          have HZL := Lib.hid hzl
          have HO7 := Lib.hid ho7
          have HC7 := Lib.hid hcu7
          have HG7 := Lib.hid hgb7
          clear ho7 hg7 hgb7 hcu7 hzs hzl HO6 HC6 HG6
          refine ⟨?_⟩
          go_wp2_with fail
          go_roundw
          case rel => exact ⟨i + 1, S.2.1, S.2.2, x, zs, A7, c7, by omega, by go_num, rfl, HZV.out, HZL.out, HGF.out, hxs, HO7.out, HC7.out, HG7.out⟩
          case measure => simp [intOf] <;> omega
      | false =>
        cases f2 with
        | true =>
          go_wp2_with fail
          refine HBY.out.mono ?_
          rintro r w2 ⟨rfl, hc2, hg2⟩
          have HC2 := Lib.hid hc2
          have HO2 := Lib.hid (own_gb HO.out hg2 hlt)
          have HG2 := Lib.hid (HG.out.trans hg2)
          clear hc2 hg2 HBY HO
          go_wp2_with fail
          refine (HFI.out _).mono ?_
          rintro r w' ⟨rfl, rfl⟩
          go_wp2_with fail
          refine (fail_any 3 HC2.out).mono ?_
          rintro r w3 ⟨rfl, hc3, hg3⟩
          have HE3 : Hid (orForm R.2.2 = e2) := HE2.out
          have HC3 : Hid (Cur w3 lo g bs R.2.1 e2) := by unfold Hid; rw [← HE3.out]; exact hc3
          have HO3 := Lib.hid (own_gb HO2.out hg3 hlt)
          have HG3 := Lib.hid (HG2.out.trans hg3)
          clear hc3 hg3
          have hsz3 := HG3.out.size
          have HB := Lib.hid (bytes_any (n : Int) HC3.out (by omega))
          rw [HQ.out] at HB
          clear HC2 HO2 HG2
          go_wp2_with fail
          refine HB.out.mono ?_
          rintro r w4 ⟨A4, c4, rfl, hrd4, hc4, hg4⟩
          have hst := run_string_rd (P := Tryz.prog) w4 28 9 5 Tryz.underlying28 Tryz.underlying5 Tryz.underlying9 _ _ A4 c4 Q.1 (Rd.of_own hrd4)
          rw [← HX.out] at hst
          have HC4 := Lib.hid hc4
          have HO4 := Lib.hid (own_gb HO3.out hg4 hlt)
          have HG4 := Lib.hid (HG3.out.trans hg4)
          have hsz4 := HG4.out.size
          clear hc4 hg4 hrd4 HB HC3 HO3 HG3
          go_wp2_with fail
          refine (HFO.out _).mono ?_
          rintro r w5 ⟨rfl, m, rfl⟩
          clear hst
          have HC6 : Hid (Cur (w4.drewN m) lo g bs S.2.1 S.2.2) := by unfold Hid; rw [← HS.out]; exact HC4.out.drewN m
          obtain ⟨w6, hw6⟩ : ∃ w6, w4.drewN m = w6 := ⟨_, rfl⟩
          have HO6 : Hid (w6.ownsRow w.heap.size 9 1 (.slice A i c) i (sv ys)) := by unfold Hid; rw [← hw6]; exact own_keep HO4.out fun k hk => rfl
          have HG6 : Hid (w.grownBy w6 (some g)) := by unfold Hid; rw [← hw6]; exact gb_drewN HG4.out m
          rw [hw6] at HC6 ⊢
          clear hw6
          have hsz6 := HG6.out.size
          clear HC4 HO4 HG4
          rw [← HYL.out] at HO6
          go_wp2_with (at_builtin; refine wpList_push_str (v := .slice A i c) w.heap.size ys x rfl _ _ rfl rfl rfl rfl (by rw [World.cell?_alloc_at _ _ _ _ rfl]; rfl) (by have := HO6.out.alloc (.cells #[.string x] 9); rw [HYL.out] at this ⊢; exact this) (by rw [HYL.out]; omega) (by simp; omega) ?_; intro A7 c7 w7 ho7 hg7; refine held ?_)
          have hgb7 : w.grownBy w7 (some g) := gb_own (gb_alloc HG6.out _) hg7 (fun q hq => (own_lt HO6.out (by rw [HYL.out]; exact hq)).1)
          have hcu7 : Cur w7 lo g bs S.2.1 S.2.2 := (HC6.out.grown (row := none) (by exact gb_alloc (gb_refl _ _) _) (by simp)).grown hg7 (fun q hq => .inr (Nat.lt_of_lt_of_le hlt (own_lt HO6.out (by rw [HYL.out]; exact hq)).1))
          obtain ⟨zs, hzs⟩ : ∃ zs, ys ++ [x] = zs := ⟨_, rfl⟩
          rw [hzs] at ho7
          have hzl : zs.length = i + 1 := by rw [← hzs, List.length_append, HYL.out]; rfl
          rw [hzl] at ho7
          have HZV : Hid (Value.slice A7 (ys.length + 1) c7 = .slice A7 (i + 1) c7) := by unfold Hid; rw [HYL.out]
          have HGF : Hid (G = (bytL2 zs ++ (getF bs (N - (i + 1)) S.2.1 S.2.2 x.data.toList).1, (getF bs (N - (i + 1)) S.2.1 S.2.2 x.data.toList).2)) := by
            unfold Hid
            have h1 : S.1 = x.data.toList := by rw [← HS.out, HXL.out]
            rw [HGN.out, HD.out, ← hzs, h1]
            simp [bytL2]
          have HZL := Lib.hid hzl
          have HO7 := Lib.hid ho7
          have HC7 := Lib.hid hcu7
          have HG7 := Lib.hid hgb7
          clear ho7 hg7 hgb7 hcu7 hzs hzl HO6 HC6 HG6
          refine ⟨?_⟩
          go_wp2_with fail
          go_roundw
          case rel => exact ⟨i + 1, S.2.1, S.2.2, x, zs, A7, c7, by omega, by go_num, rfl, HZV.out, HZL.out, HGF.out, hxs, HO7.out, HC7.out, HG7.out⟩
          case measure => simp [intOf] <;> omega
        | false =>
          go_wp2_with fail
          refine HBY.out.mono ?_
          rintro r w2 ⟨rfl, hc2, hg2⟩
          have HC2 := Lib.hid hc2
          have HO2 := Lib.hid (own_gb HO.out hg2 hlt)
          have HG2 := Lib.hid (HG.out.trans hg2)
          clear hc2 hg2 HBY HO
          go_wp2_with fail
          refine (HFI.out _).mono ?_
          rintro r w' ⟨rfl, rfl⟩
          go_wp2_with fail
          refine (fail_any 3 HC2.out).mono ?_
          rintro r w3 ⟨rfl, hc3, hg3⟩
          have HE3 : Hid (orForm R.2.2 = e2) := HE2.out
          have HC3 : Hid (Cur w3 lo g bs R.2.1 e2) := by unfold Hid; rw [← HE3.out]; exact hc3
          have HO3 := Lib.hid (own_gb HO2.out hg3 hlt)
          have HG3 := Lib.hid (HG2.out.trans hg3)
          clear hc3 hg3
          have hsz3 := HG3.out.size
          have HB := Lib.hid (bytes_any (n : Int) HC3.out (by omega))
          rw [HQ.out] at HB
          clear HC2 HO2 HG2
          go_wp2_with fail
          refine HB.out.mono ?_
          rintro r w4 ⟨A4, c4, rfl, hrd4, hc4, hg4⟩
          have hst := run_string_rd (P := Tryz.prog) w4 28 9 5 Tryz.underlying28 Tryz.underlying5 Tryz.underlying9 _ _ A4 c4 Q.1 (Rd.of_own hrd4)
          rw [← HX.out] at hst
          have HC4 := Lib.hid hc4
          have HO4 := Lib.hid (own_gb HO3.out hg4 hlt)
          have HG4 := Lib.hid (HG3.out.trans hg4)
          have hsz4 := HG4.out.size
          clear hc4 hg4 hrd4 HB HC3 HO3 HG3
          go_wp2_with fail
          refine (HFO.out _).mono ?_
          rintro r w5 ⟨rfl, m, rfl⟩
          clear hst
          go_wp2_with fail
          refine (fail_any 3 (HC4.out.drewN m)).mono ?_
          rintro r w6 ⟨rfl, hc6, hg6⟩
          have HC6 : Hid (Cur w6 lo g bs S.2.1 S.2.2) := by unfold Hid; rw [← HS.out]; exact hc6
          have HO6 : Hid (w6.ownsRow w.heap.size 9 1 (.slice A i c) i (sv ys)) := own_gb (w := w4.drewN m) (own_keep HO4.out fun k hk => rfl) hg6 hlt
          have HG6 : Hid (w.grownBy w6 (some g)) := (gb_drewN HG4.out m).trans hg6
          clear hc6 hg6
          have hsz6 := HG6.out.size
          clear HC4 HO4 HG4
          rw [← HYL.out] at HO6
          go_wp2_with (at_builtin; refine wpList_push_str (v := .slice A i c) w.heap.size ys x rfl _ _ rfl rfl rfl rfl (by rw [World.cell?_alloc_at _ _ _ _ rfl]; rfl) (by have := HO6.out.alloc (.cells #[.string x] 9); rw [HYL.out] at this ⊢; exact this) (by rw [HYL.out]; omega) (by simp; omega) ?_; intro A7 c7 w7 ho7 hg7; refine held ?_)
          have hgb7 : w.grownBy w7 (some g) := gb_own (gb_alloc HG6.out _) hg7 (fun q hq => (own_lt HO6.out (by rw [HYL.out]; exact hq)).1)
          have hcu7 : Cur w7 lo g bs S.2.1 S.2.2 := (HC6.out.grown (row := none) (by exact gb_alloc (gb_refl _ _) _) (by simp)).grown hg7 (fun q hq => .inr (Nat.lt_of_lt_of_le hlt (own_lt HO6.out (by rw [HYL.out]; exact hq)).1))
          obtain ⟨zs, hzs⟩ : ∃ zs, ys ++ [x] = zs := ⟨_, rfl⟩
          rw [hzs] at ho7
          have hzl : zs.length = i + 1 := by rw [← hzs, List.length_append, HYL.out]; rfl
          rw [hzl] at ho7
          have HZV : Hid (Value.slice A7 (ys.length + 1) c7 = .slice A7 (i + 1) c7) := by unfold Hid; rw [HYL.out]
          have HGF : Hid (G = (bytL2 zs ++ (getF bs (N - (i + 1)) S.2.1 S.2.2 x.data.toList).1, (getF bs (N - (i + 1)) S.2.1 S.2.2 x.data.toList).2)) := by
            unfold Hid
            have h1 : S.1 = x.data.toList := by rw [← HS.out, HXL.out]
            rw [HGN.out, HD.out, ← hzs, h1]
            simp [bytL2]
          have HZL := Lib.hid hzl
          have HO7 := Lib.hid ho7
          have HC7 := Lib.hid hcu7
          have HG7 := Lib.hid hgb7
          clear ho7 hg7 hgb7 hcu7 hzs hzl HO6 HC6 HG6
          refine ⟨?_⟩
          go_wp2_with fail
          go_roundw
          case rel => exact ⟨i + 1, S.2.1, S.2.2, x, zs, A7, c7, by omega, by go_num, rfl, HZV.out, HZL.out, HGF.out, hxs, HO7.out, HC7.out, HG7.out⟩
          case measure => simp [intOf] <;> omega
      -- END ARMS
    · have ik : ¬ (i : Int) < (N : Int) := by omega
      have hiN2 : i = N := by omega
      have hG2 : G = (bytL2 ys, p, e) := by
        rw [HGE.out, show N - i = 0 by omega, getF, List.append_nil]
      have hLL := HLL.out
      rw [hG2] at hLL
      simp only at hLL
      have HGO := Lib.hid (good_any HC.out)
      clear hG2 HLL HGE HAA
      by_cases he : e = 0
      · rw [if_pos he] at hLL
        have HLV := Lib.hid hLL
        have hg1 : (e == 0) = true := by simpa using he
        rw [hg1] at HGO
        clear hLL he hg1
        unfold cp at *
        go_wp2_with fail
        refine HGO.out.mono ?_
        rintro r w' ⟨rfl, rfl⟩
        go_wp2_with fail
        go_ret
        rw [HLV.out]
        simp only [bytL2_length, HYL.out, strsL_bytL2]
        exact ⟨A, c, by rw [hiN2]; rfl, HO.out, HC.out, HG.out⟩
      · rw [if_neg he] at hLL
        have HLV := Lib.hid hLL
        have hg1 : (e == 0) = false := by simpa using he
        rw [hg1] at HGO
        clear hLL he hg1
        unfold cp at *
        go_wp2_with fail
        refine HGO.out.mono ?_
        rintro r w' ⟨rfl, rfl⟩
        go_wp2_with fail
        go_ret
        rw [HLV.out]
        exact ⟨none, 0, rfl, ⟨rfl, .inl ⟨rfl, rfl⟩⟩, HC.out, HG.out⟩
end Go.Proofs.YtmffpbhiehjlpaaGreat
namespace Go.Proofs.YtmffpbhiehjlpaaGreat
set_option linter.unusedSimpArgs false
set_option linter.unusedVariables false
open Go.RowKit
theorem count_any {w : World} (l : List Bool) {lo h' : Nat} {A : Option Addr} {c : Nat} (h : Rd w lo h' A c (lv l)) :
    Calls Tryz.prog 93 #[.slice A l.length c] w fun r w' => r = .returned (.int .i64 (cnt l : Int)) ∧ w = w' := by
  have hl := h.len
  have hc := h.cap
  rw [lv_length] at hl
  unfold maxLen at hc
  have H := Lib.hid h
  clear h
  go_enter Tryz.func93, Tryz.ntmps93
  go_wp2_with fail
  go_loop [3, 8] (fun n i => ∃ k : Nat, k ≤ l.length ∧ i = .int .i64 (k : Int) ∧ n = .int .i64 (cnt (l.take k) : Int)) (fun _ i => l.length - (intOf i).toNat)
  case atStart => exact ⟨0, Nat.zero_le _, rfl, rfl⟩
  case round =>
    obtain ⟨k, hk, rfl, rfl⟩ := hrel
    by_cases hlt : k < l.length
    · obtain ⟨b, off, rfl, _, _, hcell⟩ := H.out.row hlt
      have hts := Lib.hid (cnt_take l k hlt)
      have hle := cnt_take_le l k
      generalize cnt (l.take k) = m at *
      cases hx : l[k]
      · rw [hx] at hcell hts
        go_wp2
        go_round
        case rel => exact ⟨k + 1, by omega, by go_num, by rw [hts.out]; rfl⟩
        case measure => simp [intOf]; omega
      · rw [hx] at hcell hts
        go_wp2
        go_round
        case rel => exact ⟨k + 1, by omega, by go_num, by rw [hts.out]; go_num⟩
        case measure => simp [intOf]; omega
    · obtain rfl : k = l.length := by omega
      rw [List.take_length]
      go_wp2
      go_ret
      exact ⟨rfl, rfl⟩
end Go.Proofs.YtmffpbhiehjlpaaGreat
namespace Go.Proofs.YtmffpbhiehjlpaaGreat
set_option linter.unusedSimpArgs false
set_option linter.unusedVariables false
open Go.RowKit
theorem refLongP_any {w2 : World} (l : List ByteArray) (s : ByteArray) (k : Nat) {lo hi c : Nat} {A : Option Addr} (h : Rd w2 lo hi A c (sv l)) (h8 : ∀ t ∈ l, t.size ≤ 8) (hs : s.size ≤ 100000) (hln : l.length ≤ 255) (v : Int × Nat) (hv : longP (bytL2 l) (s.data.toList.drop k) = v) :
    Calls Tryz.prog 72 #[.slice A l.length c, .string (s.extract k s.size)] w2 fun r w' => r = .returned (.tuple #[.int .i64 v.1, .int .i64 (v.2 : Int)]) ∧ ∃ m, w' = w2.drewN m := by
  have h1 := refLongest_any (w := w2) l (s.extract k s.size) h (fun t ht => Nat.le_trans (h8 t ht) (by omega)) (by rw [ByteArray.size_extract]; omega) (by omega)
  rw [tailS] at h1
  rw [← hv]
  exact h1
set_option maxRecDepth 20000 in
set_option maxHeartbeats 2000000 in
theorem refEncode_any {w : World} (l : List ByteArray) (s : ByteArray) {c : Nat} {A : Option Addr} (h : Rd w 0 w.heap.size A c (sv l)) (h8 : ∀ t ∈ l, t.size ≤ 8) (hln : l.length ≤ 255) (hs : s.size ≤ 100000) :
    Calls Tryz.prog 48 #[.slice A l.length c, .string s] w fun r w' => ∃ A' c', r = .returned (.slice A' (encL (bytL2 l) s.data.toList).length c') ∧
      w'.ownsRow w.heap.size 5 1 (.slice A' (encL (bytL2 l) s.data.toList).length c') (encL (bytL2 l) s.data.toList).length (bv (encL (bytL2 l) s.data.toList)) ∧ Below w.heap.size w w' := by
  have H := Lib.hid h
  have H8 := Lib.hid h8
  clear h h8
  obtain ⟨v, hv⟩ : ∃ v, encL (bytL2 l) s.data.toList = v := ⟨_, rfl⟩
  rw [hv]
  have HV := Lib.hid hv
  clear hv
  have HSL := Lib.hid (lenS s)
  have HTL : Hid ((bytL2 l).length = l.length) := bytL2_length l
  go_enter Tryz.func48, Tryz.ntmps48
  go_wp2_with fail
  go_loopw [5, 6] (fun x5 x6 wr => ∃ (k : Nat) (ys : List UInt8) (A' : Option Addr) (c' : Nat), k ≤ s.size ∧ x6 = .int .i64 (k : Int) ∧ x5 = .slice A' ys.length c' ∧ ys.length ≤ 2 * k ∧ ys ++ encL (bytL2 l) (s.data.toList.drop k) = v ∧
    wr.ownsRow w.heap.size 5 1 (.slice A' ys.length c') ys.length (bv ys) ∧ Below w.heap.size w wr) (fun _ i _ => s.size - (intOf i).toNat)
  case atStart => exact ⟨0, [], none, 0, Nat.zero_le _, rfl, rfl, Nat.zero_le _, by rw [List.drop_zero, HV.out]; rfl, World.ownsRow_nil _ _ _ _, Below.refl _ _⟩
  case round =>
    obtain ⟨k, ys, A', c', hk, rfl, rfl, hyl, hys, hown, hb⟩ := hrel
    have HYS := Lib.hid hys
    have HO := Lib.hid hown
    have HB := Lib.hid hb
    have hsz := hb.size
    clear hys hown hb
    by_cases hlt : k < s.size
    · have ik : (k : Int) < (s.size : Int) := by omega
      have HDR := Lib.hid (dropS hlt)
      rcases longP_spec (bytL2 l) (s.data.toList.drop k) with hp | ⟨j, t, hj, hp, hn0, hpre⟩
      · have HLG := Lib.hid (fun w2 (hb2 : Below w.heap.size w w2) => refLongP_any (w2 := w2) l s k (H.out.below hb2 (Nat.le_refl _)) H8.out hs hln _ hp)
        have HEQ : Hid (encL (bytL2 l) (s.data.toList.drop k) = 255 :: s[k] :: encL (bytL2 l) (s.data.toList.drop (k + 1))) := by
          unfold Hid
          have hp2 := hp
          rw [HDR.out] at hp2
          rw [HDR.out, enc_esc hp2]
        clear hp
        have lx : s[k].toNat < 256 := UInt8.toNat_lt _
        go_wp2_with fail
        refine (HLG.out _ (by first | exact HB.out | exact below_drewN' HB.out _)).mono ?_
        rintro r w1 ⟨rfl, m, rfl⟩
        have hb1 : Below w.heap.size w (wr.drewN m) := below_drewN' HB.out m
        have ho1 : (wr.drewN m).ownsRow w.heap.size 5 1 (.slice A' ys.length c') ys.length (bv ys) := own_keep HO.out (fun _ _ => rfl)
        have hz1 : w.heap.size ≤ (wr.drewN m).heap.size := hb1.size
        generalize wr.drewN m = w1 at *
        have hlit : (w1.alloc (.cells #[.int .u8 255, .int .u8 (s[k].toNat : Int)] 5)).ownsRow w1.heap.size 5 1 (.slice (some ⟨w1.heap.size, 0, none⟩) 2 2) 2 (bv [255, s[k]]) := own_lit w1 [255, s[k]] #[.int .u8 255, .int .u8 (s[k].toNat : Int)] rfl (by simp)
        obtain ⟨A3, c3, w3, hrun, hown3, hg3⟩ := append_named _ w.heap.size _ ys [255, s[k]] (ys ++ [255, s[k]]) rfl (ho1.alloc _) (Rd.own hlit) (by simp; omega) (by simp; omega)
        have hb3 : Below w.heap.size w w3 := (hb1.alloc hz1 _).grown hg3 (by simp; omega) (fun q hq => (own_lt ho1 hq).1)
        have hrun2 : (Builtin.append_ #[28, 28] 28 #[.slice A' ys.length c', .slice (some ⟨w1.heap.size, 0, none⟩) 2 2]).run Tryz.prog (w1.alloc (.cells #[.int .u8 255, .int .u8 (s[k].toNat : Int)] 5)) = .ok (.slice A3 (ys ++ [255, s[k]]).length c3) w3 := hrun
        have HRUN := Lib.hid hrun2
        have HO3 := Lib.hid hown3
        have HB3 := Lib.hid hb3
        clear hrun hrun2 hown3 hb3 hg3 hb1 ho1 hlit
        go_wp2_with (at_builtin; refine wpList_append_run rfl _ _ _ _ rfl rfl rfl HRUN.out ?_)
        go_roundw
        case rel =>
          refine ⟨k + 1, ys ++ [255, s[k]], A3, c3, by omega, by go_num, by first | rfl | (rw [List.length_append]; rfl), by rw [List.length_append, List.length_cons, List.length_cons, List.length_nil]; omega, ?_, HO3.out, HB3.out⟩
          rw [List.append_assoc, ← HYS.out, HEQ.out]
          rfl
        case measure => simp [intOf] <;> omega
      · have HLG := Lib.hid (fun w2 (hb2 : Below w.heap.size w w2) => refLongP_any (w2 := w2) l s k (H.out.below hb2 (Nat.le_refl _)) H8.out hs hln _ hp)
        have hjl : j < l.length := by
          have := (List.getElem?_eq_some_iff.1 hj).1
          rwa [bytL2_length] at this
        have hnl := hpre.length_le
        rw [List.length_drop, HSL.out] at hnl
        have HEQ : Hid (encL (bytL2 l) (s.data.toList.drop k) = UInt8.ofNat j :: encL (bytL2 l) (s.data.toList.drop (k + t.length))) := by
          unfold Hid
          rw [enc_code hp hn0, List.drop_drop]
        clear hp hj hpre HTL HDR
        generalize t.length = n at *
        have j0 : (0 : Int) ≤ (j : Int) := by omega
        have j1 : (j : Int) < 256 := by omega
        have hbs : (UInt8.ofNat j).toNat = j := by simp; omega
        go_wp2_with fail
        refine (HLG.out _ (by first | exact HB.out | exact below_drewN' HB.out _)).mono ?_
        rintro r w1 ⟨rfl, m, rfl⟩
        have hb1 : Below w.heap.size w (wr.drewN m) := below_drewN' HB.out m
        have ho1 : (wr.drewN m).ownsRow w.heap.size 5 1 (.slice A' ys.length c') ys.length (bv ys) := own_keep HO.out (fun _ _ => rfl)
        have hz1 : w.heap.size ≤ (wr.drewN m).heap.size := hb1.size
        generalize wr.drewN m = w1 at *
        have HO1 := Lib.hid ho1
        have HB1 := Lib.hid hb1
        clear ho1 hb1
        go_wp2_with (at_builtin; refine wpList_push (v := .slice A' ys.length c') w.heap.size ys (UInt8.ofNat j) rfl _ _ rfl rfl rfl rfl (by rw [hbs, World.cell?_alloc_at _ _ _ _ rfl]; rfl) (HO1.out.alloc _) (by omega) (by simp; omega) ?_; intro A2 c2 w2 ho2 hg2)
        go_roundw
        case rel =>
          refine ⟨k + n, ys ++ [UInt8.ofNat j], A2, c2, by omega, by go_num, by rw [List.length_append]; rfl, by rw [List.length_append, List.length_cons, List.length_nil]; omega, ?_, ho2, (HB1.out.alloc hz1 _).grown hg2 (by simp; omega) (fun q hq => (own_lt HO1.out hq).1)⟩
          rw [List.append_assoc, ← HYS.out, HEQ.out]
          rfl
        case measure => simp [intOf] <;> omega
    · have ik : ¬ (k : Int) < (s.size : Int) := by omega
      have hfin : ys = v := by
        rw [← HYS.out, List.drop_of_length_le (by rw [HSL.out]; omega), enc_nil, List.append_nil]
      have HF := Lib.hid hfin
      clear hfin
      go_wp2_with fail
      go_ret
      exact ⟨A', c', by rw [← HF.out]; rfl, by rw [← HF.out]; exact HO.out, HB.out⟩
end Go.Proofs.YtmffpbhiehjlpaaGreat
