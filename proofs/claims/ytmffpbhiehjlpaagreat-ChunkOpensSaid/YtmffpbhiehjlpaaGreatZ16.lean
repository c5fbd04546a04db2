/-
  The bitmap's Read.
  What the bitmap's Read answers, in plain: what is written is read as it was; what is read is written as it stood.
  What the bitmap's Read takes, in plain, at whatever place: what is taken without an error stands so; what stands so is taken.
-/
import Derived.Test.YtmffpbhiehjlpaaGreatZ15
import Derived.Test.YtmffpbhiehjlpaaGreatZ06
import Derived.Test.YtmffpbhiehjlpaaGreatZ07
namespace Go.Proofs.YtmffpbhiehjlpaaGreat
set_option linter.unusedSimpArgs false
set_option linter.unusedVariables false
open Go.RowKit
theorem bfilled_any {w : World} (bs : List UInt8) (n : Nat) (b : Bool) (hl : bs = [] ∨ bs.length = (n + 7) / 8) (hb : decide (bs = [] ∨ bval bs < 2 ^ n) = b) (hn : n ≤ 9223372036854775807) {lo h' : Nat} {A : Option Addr} {c : Nat} (h : Rd w lo h' A c (bv bs)) :
    Calls Tryz.prog 77 #[.slice A bs.length c, .int .i64 (n : Int)] w fun r w' => r = .returned (.bool b) ∧ w = w' := by
  have hll := h.len
  have hc := h.cap
  rw [bv_length] at hll
  unfold maxLen at hc
  have H := Lib.hid h
  clear h
  by_cases he : bs = []
  · subst he
    have HB : Hid (b = true) := by rw [← hb]; exact decide_eq_true (.inl rfl)
    clear hl hb
    go_enter Tryz.func77, Tryz.ntmps77
    go_wp2
    go_ret
    exact ⟨ret_bool HB.out.symm, rfl⟩
  · have hlen : bs.length = (n + 7) / 8 := hl.resolve_left he
    have hp : 0 < bs.length := by
      rcases Nat.eq_zero_or_pos bs.length with h0 | h0
      · exact absurd (List.eq_nil_of_length_eq_zero h0) he
      · exact h0
    have hlb : bs.length ≤ (n + 7) / 8 := Nat.le_of_eq hlen
    have hne : ((bs.length : Int) == 0) = false := by rw [beq_eq_false_iff_ne]; omega
    by_cases hr : n % 8 = 0
    · have HB : Hid (b = true) := by rw [← hb]; exact decide_eq_true (.inr (filled_all bs n hlen hr))
      have h8 : ((n : Int) % 8 == 0) = true := by rw [beq_iff_eq]; omega
      clear hl hlen hr hb he
      go_enter Tryz.func77, Tryz.ntmps77
      go_wp2
      go_ret
      exact ⟨ret_bool HB.out.symm, rfl⟩
    · have HF := Lib.hid (filled_iff bs n hlen hr)
      have HB : Hid (decide (bval bs < 2 ^ n) = b) := by
        rw [← hb]
        unfold Hid
        simp [he]
      have h8 : ((n : Int) % 8 == 0) = false := by rw [beq_eq_false_iff_ne]; omega
      obtain ⟨b0, off, rfl, _, _, hcell⟩ := H.out.byte (k := bs.length - 1) (by omega)
      rw [last_get bs hp] at hcell
      generalize bs.getLastD 0 = x8 at *
      have hx := UInt8.toNat_lt x8
      generalize x8.toNat = x at *
      clear hl hlen hb he
      go_enter Tryz.func77, Tryz.ntmps77
      go_wp2
      go_ret
      refine ⟨ret_bool ?_, rfl⟩
      have e : (x : Int) / 2 ^ (n % 8) = ((x / 2 ^ (n % 8) : Nat) : Int) := by push_cast; rfl
      rw [e, ← HB.out, Bool.eq_iff_iff, beq_iff_eq, decide_eq_true_iff, ← HF.out]
      omega
def breadEnd (ub : List UInt8) (n k : Nat) (e : Int) : List Bool × Nat × Int :=
  if e ≠ 0 then ([], k, e) else if bval ub < 2 ^ n then (getsB ub n, k, 0) else ([], k, 3)
def breadR (bs : List UInt8) (k : Nat) (e most : Int) : List Bool × Nat × Int :=
  breadEnd (takeR bs (mostR bs k e most).2.1 (mostR bs k e most).2.2 0 ((((mostR bs k e most).1 + 7) / 8 : Nat) : Int)).1 (mostR bs k e most).1
    (takeR bs (mostR bs k e most).2.1 (mostR bs k e most).2.2 0 ((((mostR bs k e most).1 + 7) / 8 : Nat) : Int)).2.1
    (takeR bs (mostR bs k e most).2.1 (mostR bs k e most).2.2 0 ((((mostR bs k e most).1 + 7) / 8 : Nat) : Int)).2.2
theorem takeR_len (bs : List UInt8) (k : Nat) (e : Int) (skip : Nat) (n : Int) : (takeR bs k e skip n).1.length ≤ bs.length := by
  unfold takeR
  repeat' split
  all_goals simp
  all_goals omega
theorem takeR_none (bs : List UInt8) (k : Nat) (e : Int) (skip : Nat) (n : Int) (h : (takeR bs k e skip n).2.2 ≠ 0) : (takeR bs k e skip n).1 = [] := by
  unfold takeR at h ⊢
  repeat' split
  all_goals simp_all
theorem and_bit (x r : Nat) (hx : x < 256) : bits .and .u8 ((x : Int) / 2 ^ r) 1 = ((x / 2 ^ r % 2 : Nat) : Int) := by
  have h1 : x / 2 ^ r ≤ x := Nat.div_le_self _ _
  have e : (x : Int) / 2 ^ r = ((x / 2 ^ r : Nat) : Int) := by push_cast; rfl
  have h2 := u8_and_nat (x / 2 ^ r) 1 (by omega) (by omega)
  rw [Nat.and_one_is_mod] at h2
  rw [e]
  exact h2
theorem row_bit (ub : List UInt8) (j x : Nat) (hj : j / 8 < ub.length) (hx : ub[j / 8].toNat = x) : (((x / 2 ^ (j % 8) % 2 : Nat) : Int) == 1) = getB ub j := by
  unfold getB
  rw [getN_byte ub j hj, hx, Bool.eq_iff_iff, beq_iff_eq, beq_iff_eq]
  omega
set_option maxRecDepth 20000 in
set_option maxHeartbeats 1000000 in
theorem bread_any {w : World} {lo g k : Nat} {bs : List UInt8} {e : Int} (most : Int) (hm : most ≤ 9223372036854775807) (h : Cur w lo g bs k e) (hb : bs.length ≤ 1000000000000) :
    Calls Tryz.prog 52 #[cp g, .int .i64 most] w fun r w' => ∃ A c, r = .returned (.slice A (breadR bs k e most).1.length c) ∧ w'.ownsRow w.heap.size 4 1 (.slice A (breadR bs k e most).1.length c) (breadR bs k e most).1.length (lv (breadR bs k e most).1) ∧
      Cur w' lo g bs (breadR bs k e most).2.1 (breadR bs k e most).2.2 ∧ w.grownBy w' (some g) := by
  have hgl := h.lt
  have HM := Lib.hid (most_any most h)
  have hmle := mostR_le bs k e most
  unfold breadR
  generalize mostR bs k e most = M at *
  obtain ⟨n, k1, e1⟩ := M
  dsimp only at HM hmle ⊢
  have hn : n ≤ 9223372036854775807 := by omega
  generalize hs : (n + 7) / 8 = s
  have HSZ := fun w1 : World => Lib.hid (bsize_any (w := w1) n s hn hs)
  have HBY := fun (w1 : World) (h1 : Cur w1 lo g bs k1 e1) => Lib.hid (bytes_any (s : Int) h1 (by omega))
  have hT := takeR_full bs k1 e1 s
  have hTl := takeR_len bs k1 e1 0 (s : Int)
  have hTn := takeR_none bs k1 e1 0 (s : Int)
  generalize takeR bs k1 e1 0 (s : Int) = U at *
  obtain ⟨ub, k4, e4⟩ := U
  dsimp only at hT hTl hTn HBY ⊢
  have HS := Lib.hid hs
  clear h hmle hs
  go_enter Tryz.func52, Tryz.ntmps52
  go_wp2_with fail
  refine HM.out.mono ?_
  rintro r w1 ⟨rfl, hc1, hg1⟩
  have HC1 := Lib.hid hc1
  have HG1 := Lib.hid hg1
  have s1 := hg1.size
  clear hc1 hg1
  go_wp2_with fail
  refine (HSZ w1).out.mono ?_
  rintro r w' ⟨rfl, rfl⟩
  go_wp2_with fail
  refine (HBY w1 HC1.out).out.mono ?_
  rintro r w4 ⟨A4, c4, rfl, ho4, hc4, hg4⟩
  have HO4 := Lib.hid ho4
  have HC4 := Lib.hid hc4
  have HG4 := Lib.hid (HG1.out.trans hg4)
  have s4 := hg4.size
  have hg4l := hc4.lt
  clear ho4 hc4 hg4
  by_cases he : e4 = 0
  · subst he
    have hul : ub.length = s := hT rfl
    have hls : ub.length = (n + 7) / 8 := by rw [hul, HS.out]
    have hn8 : n ≤ 8 * ub.length := by omega
    by_cases hfl : bval ub < 2 ^ n
    · have HE : Hid (breadEnd ub n k4 0 = (getsB ub n, k4, 0)) := by
        unfold Hid breadEnd
        rw [if_neg (by simp), if_pos hfl]
      have HFI := Lib.hid (bfilled_any (w := w4) ub n true (.inr hls) (decide_eq_true (.inr hfl)) hn (Rd.own HO4.out))
      obtain ⟨w5, hmake, ho5, hg5⟩ := make_bools w4 n (by omega)
      have HR5 := Lib.hid ((Rd.own HO4.out).grown hg5 (Nat.le_refl _) (by simp))
      have HC5 := Lib.hid (HC4.out.grown hg5 (by simp))
      have HG5 := Lib.hid (HG4.out.trans (gb_of_gb_none hg5))
      have HO5 := Lib.hid ho5
      have s5 := hg5.size
      have hlsb : (n + 7) / 8 ≤ ub.length := Nat.le_of_eq hls.symm
      have hub : ub.length ≤ 1000000000000 := by omega
      clear ho5 hg5 hul hls hT hTl hTn hfl
      go_wp2_with fail
      refine HFI.out.mono ?_
      rintro r w' ⟨rfl, rfl⟩
      go_wp2_with fail
      refine (good_any HC4.out).mono ?_
      rintro r w' ⟨rfl, rfl⟩
      go_wp2_with fail
      go_loopw [29] (fun i wr => ∃ (j : Nat) (xs : List Value), j ≤ n ∧ i = .int .i64 (j : Int) ∧ wr.ownsRow w4.heap.size 4 1 (.slice (some ⟨w4.heap.size, 0, none⟩) n n) n xs ∧ Fill (lv (getsB ub n)) j xs ∧ w5.grownBy wr (some w4.heap.size)) (fun i _ => n - (intOf i).toNat)
      case atStart => exact ⟨0, _, Nat.zero_le _, rfl, HO5.out, fill_zero (by rw [List.length_replicate, lv_length, getsB_length]), gb_refl _ _⟩
      case round =>
        obtain ⟨j, xs, hj, rfl, ho6, hup, hg6⟩ := hrel
        have HO6 := Lib.hid ho6
        have HUP := Lib.hid hup
        have HG6 := Lib.hid hg6
        have s6 := hg6.size
        have HR6 := Lib.hid (HR5.out.grown hg6 s5 (fun x hx => .inr (by injection hx with hx; omega)))
        clear ho6 hup hg6
        by_cases hlt : j < n
        · have hj8 : j / 8 < ub.length := by omega
          obtain ⟨b0, off, rfl, _, hbh, hcell⟩ := HR6.out.byte hj8
          have hfr := HO6.out.frozenAt j
          have hxj : j < xs.length := by rw [HUP.out.1, lv_length, getsB_length]; exact hlt
          have hcx : wr.cell? ⟨w4.heap.size, j, none⟩ = some xs[j] := by
            rw [HO6.out.cellAt j (by omega), List.getElem?_eq_getElem hxj]
          have HST := fun u => Lib.hid (HO6.out.stored j u)
          have hu : (lv (getsB ub n))[j]? = some (.bool (getB ub j)) := by simp [lv, getsB_get ub n j hlt]
          have HU := Lib.hid hu
          have hx256 := UInt8.toNat_lt ub[j / 8]
          have HRB := Lib.hid (row_bit ub j _ hj8 rfl)
          generalize xs[j] = x0 at *
          generalize ub[j / 8].toNat = x at *
          have hand := and_bit x (j % 8) hx256
          have hj8' : (j : Int) / 8 = ((j / 8 : Nat) : Int) := by omega
          have hj8m : (j : Int) % 8 = ((j % 8 : Nat) : Int) := by omega
          have hj8t : (j : Int).tmod 8 = ((j % 8 : Nat) : Int) := by rw [Int.tmod_eq_emod_of_nonneg (by omega)]; omega
          have hr8 : j % 8 < 8 := Nat.mod_lt _ (by decide)
          clear hu
          generalize j / 8 = q at *
          generalize j % 8 = r at *
          have hqw : IntKind.i64.wrap (q : Int) = (q : Int) := IntWalk.i64_in _ (by omega)
          have hrw : IntKind.i64.wrap (r : Int) = (r : Int) := IntWalk.i64_in _ (by omega)
          go_wp2
          go_roundw
          case rel =>
            have e : ((x : Int) / 2 ^ r % 2 == 1) = getB ub j := by
              rw [← HRB.out]
              push_cast
              rfl
            rw [e]
            exact ⟨j + 1, _, by omega, by go_num, (HST _).out.1, fill_succ HUP.out _ HU.out, HG6.out.trans (HST _).out.2⟩
          case measure => simp [intOf]; omega
        · obtain rfl : j = n := by omega
          have hall := fill_all HUP.out (by rw [lv_length, getsB_length]; exact Nat.le_refl _)
          have hoL := HO6.out
          rw [hall] at hoL
          have HOL := Lib.hid hoL
          have HC6 := Lib.hid (HC5.out.grown HG6.out (fun x hx => .inr (by injection hx with hx; omega)))
          have HG7 := Lib.hid (gb_more HG5.out HG6.out (by omega))
          have hlen : (getsB ub j).length = j := getsB_length _ _
          have HLEN := Lib.hid hlen
          clear hall hoL hlen
          go_wp2
          go_ret
          rw [HE.out]
          exact ⟨_, _, by rw [HLEN.out]; rfl, by rw [HLEN.out]; exact own_base HOL.out (by omega), HC6.out, HG7.out⟩
    · have HE : Hid (breadEnd ub n k4 0 = ([], k4, 3)) := by
        unfold Hid breadEnd
        rw [if_neg (by simp), if_neg hfl]
      have hne : ub ≠ [] := by
        rintro rfl
        apply hfl
        have := Nat.two_pow_pos n
        simpa [bval] using this
      have HFI := Lib.hid (bfilled_any (w := w4) ub n false (.inr hls) (decide_eq_false (fun h => h.elim hne hfl)) hn (Rd.own HO4.out))
      clear hul hls hT hTl hTn hfl hne
      go_wp2_with fail
      refine HFI.out.mono ?_
      rintro r w' ⟨rfl, rfl⟩
      go_wp2_with fail
      refine (fail_any 3 HC4.out).mono ?_
      rintro r w5 ⟨rfl, hc5, hg5⟩
      rw [if_pos rfl] at hc5
      have HC5 := Lib.hid hc5
      have HG5 := Lib.hid (HG4.out.trans hg5)
      clear hc5 hg5
      go_wp2_with fail
      refine (good_any HC5.out).mono ?_
      rintro r w' ⟨rfl, rfl⟩
      go_wp2
      go_ret
      rw [HE.out]
      exact ⟨none, 0, rfl, World.ownsRow_nil .., HC5.out, HG5.out⟩
  · have HE : Hid (breadEnd ub n k4 e4 = ([], k4, e4)) := by
      unfold Hid breadEnd
      rw [if_pos he]
    have hue : ub = [] := hTn he
    subst hue
    have HFI := Lib.hid (bfilled_any (w := w4) [] n true (.inl rfl) (decide_eq_true (.inl rfl)) hn (Rd.own HO4.out))
    have he' : (e4 == 0) = false := by simpa using he
    have HGD := Lib.hid (good_any HC4.out)
    rw [he'] at HGD
    clear hT hTl hTn he he'
    go_wp2_with fail
    refine HFI.out.mono ?_
    rintro r w' ⟨rfl, rfl⟩
    go_wp2_with fail
    refine HGD.out.mono ?_
    rintro r w' ⟨rfl, rfl⟩
    go_wp2
    go_ret
    rw [HE.out]
    exact ⟨none, 0, rfl, World.ownsRow_nil .., HC4.out, HG4.out⟩
end Go.Proofs.YtmffpbhiehjlpaaGreat
namespace Go.Proofs.YtmffpbhiehjlpaaGreat
set_option linter.unusedSimpArgs false
set_option linter.unusedVariables false
theorem breadEnd_err (ub : List UInt8) (n k : Nat) (e : Int) (he : e ≠ 0) : breadEnd ub n k e = ([], k, e) := by
  unfold breadEnd
  rw [if_pos he]
end Go.Proofs.YtmffpbhiehjlpaaGreat
namespace Go.Proofs.YtmffpbhiehjlpaaGreat
set_option linter.unusedSimpArgs false
set_option linter.unusedVariables false
theorem bread_bad (bs : List UInt8) (k : Nat) {e : Int} (m : Int) (h : e ≠ 0) : breadR bs k e m = ([], k, e) := by
  unfold breadR
  rw [most_bad _ _ _ h]
  dsimp only
  rw [takeR_err _ _ _ _ _ h, breadEnd_err _ _ _ _ h]
theorem bread_good {bs : List UInt8} {k k2 : Nat} {m : Int} {rs : List Bool} (hk : k ≤ bs.length) (h : breadR bs k 0 m = (rs, k2, 0)) :
    (rs.length : Int) ≤ m ∧ bs.drop k = writeB rs ++ bs.drop k2 ∧ k2 = k + (writeB rs).length ∧ k2 ≤ bs.length := by
  unfold breadR at h
  obtain ⟨M, hM⟩ : ∃ M, mostR bs k 0 m = M := ⟨_, rfl⟩
  rw [hM] at h
  obtain ⟨n, k1, e1⟩ := M
  dsimp only at h
  by_cases he1 : e1 = 0
  · subst he1
    obtain ⟨g1, g2, g3, g4, g5⟩ := most_good hk hM
    by_cases h2 : k1 + (n + 7) / 8 ≤ bs.length
    · have hUL : ((bs.drop k1).take ((n + 7) / 8)).length = (n + 7) / 8 := by simp; omega
      have hd2 : bs.drop k1 = (bs.drop k1).take ((n + 7) / 8) ++ bs.drop (k1 + (n + 7) / 8) := (List.take_append_drop ((n + 7) / 8) (bs.drop k1)).symm.trans (by rw [List.drop_drop])
      rw [takeR_fit bs k1 _ h2] at h
      dsimp only at h
      generalize (bs.drop k1).take ((n + 7) / 8) = ub at *
      unfold breadEnd at h
      rw [if_neg (by simp)] at h
      by_cases hc : bval ub < 2 ^ n
      · rw [if_pos hc] at h
        simp only [Prod.mk.injEq, and_true] at h
        obtain ⟨rfl, rfl⟩ := h
        have hW : writeB (getsB ub n) = putL n ++ ub := by
          unfold writeB
          rw [getsB_length, packB_getsB ub n hUL hc]
        refine ⟨by rw [getsB_length]; exact g1, ?_, ?_, h2⟩
        · rw [hW, g3, hd2, List.append_assoc]
        · rw [hW, List.length_append, hUL]
          omega
      · rw [if_neg hc] at h
        simp at h
    · rw [takeR_short bs k1 _ (by omega)] at h
      dsimp only at h
      rw [breadEnd_err _ _ _ _ (show (2 : Int) ≠ 0 by decide)] at h
      simp at h
  · rw [takeR_err _ _ _ _ _ he1] at h
    rw [breadEnd_err _ _ _ _ he1] at h
    simp only [Prod.mk.injEq] at h
    exact absurd h.2.2 he1
theorem bread_there {bs rest : List UInt8} {k : Nat} (rs : List Bool) (m : Int) (hk : k ≤ bs.length) (h : bs.drop k = writeB rs ++ rest) (hl : (rs.length : Int) ≤ m) (h63 : rs.length ≤ 9223372036854775807) : breadR bs k 0 m = (rs, k + (writeB rs).length, 0) := by
  have h1 : bs.drop k = putL rs.length ++ (packB rs ++ rest) := by rw [h, writeB, List.append_assoc]
  have hM := most_back (m := m) h1 hl h63
  have hpl : (packB rs).length = (rs.length + 7) / 8 := packB_length rs
  have hlen : bs.length - k = (putL rs.length).length + ((rs.length + 7) / 8 + rest.length) := by
    rw [← List.length_drop, h1, List.length_append, List.length_append, hpl]
  have hd1 : bs.drop (k + (putL rs.length).length) = packB rs ++ rest := by rw [← List.drop_drop, h1, List.drop_left]
  have hU := takeR_fit bs (k + (putL rs.length).length) ((rs.length + 7) / 8) (by omega)
  rw [hd1, ← hpl, List.take_left] at hU
  rw [hpl] at hU
  unfold breadR
  rw [hM]
  dsimp only
  rw [hU]
  unfold breadEnd
  dsimp only
  rw [if_neg (by simp), if_pos (bval_packB rs), getsB_packB, writeB, List.length_append, hpl]
  simp only [Prod.mk.injEq, and_true, true_and]
  omega
end Go.Proofs.YtmffpbhiehjlpaaGreat
