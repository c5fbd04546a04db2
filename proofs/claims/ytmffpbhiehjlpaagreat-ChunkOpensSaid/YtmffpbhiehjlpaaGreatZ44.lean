/-
  The document's own payloads of kind 2. (wip/tools/genchi.py)
  The document's own payload of kind 3.
-/
import Derived.Test.YtmffpbhiehjlpaaGreatZ43
import Derived.Test.YtmffpbhiehjlpaaGreatZ05
import Derived.Test.YtmffpbhiehjlpaaGreatZ33
import Derived.Test.YtmffpbhiehjlpaaGreatZ15
import Derived.Test.YtmffpbhiehjlpaaGreatZ28
import Derived.Test.YtmffpbhiehjlpaaGreatZ25
import Derived.Test.YtmffpbhiehjlpaaGreatZ10
namespace Go.Proofs.YtmffpbhiehjlpaaGreat
set_option linter.unusedSimpArgs false
set_option linter.unusedVariables false
open Go.RowKit
set_option maxRecDepth 20000 in
set_option maxHeartbeats 4000000 in
theorem refPay2 {w : World} (l : List ByteArray) (bl ro : Int) (ds : List Int) {c d : Nat} {A B : Option Addr} (h : Rd w 0 w.heap.size A c (sv l)) (hd : Rd w 0 w.heap.size B d (iv ds)) (hn : l.length ≤ 100) (hdn : ds.length ≤ 60) (h4 : ∀ s ∈ l, s.size ≤ 4096) :
    Calls Tryz.prog 18 #[.slice A l.length c, .agg #[.int .i64 2, .int .i64 bl, .int .i64 ro, .slice B ds.length d]] w fun r w' => ∃ A' c', r = .returned (.slice A' (payK l ⟨2, bl, ro, ds⟩ 2).length c') ∧
      w'.ownsRow w.heap.size 5 1 (.slice A' (payK l ⟨2, bl, ro, ds⟩ 2).length c') (payK l ⟨2, bl, ro, ds⟩ 2).length (bv (payK l ⟨2, bl, ro, ds⟩ 2)) ∧ Below w.heap.size w w' := by
  have hl := h.len
  have hm := h.cap
  have hdl := hd.len
  have hdm := hd.cap
  rw [sv_length] at hl
  rw [iv_length] at hdl
  unfold maxLen at hm hdm
  obtain ⟨w1, hw1⟩ : ∃ w1, w.alloc (.cells #[.int .i64 2, .int .i64 bl, .int .i64 ro, .slice B ds.length d] 25) = w1 := ⟨_, rfl⟩
  have B1 : Hid (Below w.heap.size w w1) := by unfold Hid; rw [← hw1]; exact (Below.refl _ w).alloc (Nat.le_refl _) _
  have hs1 : w1.heap.size = w.heap.size + 1 := by rw [← hw1]; simp
  have hb : Blk w1 w.heap.size 25 #[.int .i64 2, .int .i64 bl, .int .i64 ro, .slice B ds.length d] := by rw [← hw1]; exact Blk.new w _ _
  have HCF : Hid (∀ W, Below w1.heap.size w1 W → W.cell? ⟨w.heap.size, 0, none⟩ = some (.int .i64 2) ∧ W.cell? ⟨w.heap.size, 2, none⟩ = some (.int .i64 ro) ∧ W.cell? ⟨w.heap.size, 3, none⟩ = some (.slice B ds.length d)) := fun W hW => ⟨(hb.below hW (by omega)).cell 0, (hb.below hW (by omega)).cell 2, (hb.below hW (by omega)).cell 3⟩
  have hS0 := HCF.out _ (Below.refl _ _)
  have H : Hid (∀ W, Below w.heap.size w W → Rd W 0 W.heap.size A c (sv l)) := fun W hW => (h.below hW (Nat.le_refl _)).wide (Nat.le_refl _) hW.size
  have HH4 := Lib.hid h4
  have hS1 := HCF.out _ ((Below.refl _ _).drew)
  have KD : Hid (Below w1.heap.size w1 w1.drew) := (Below.refl _ _).drew
  have HS : Hid (∀ W, Below w1.heap.size w1 W → Calls Tryz.prog 46 #[.slice A l.length c, .slice B ds.length d] W fun r w' => ∃ A' c', r = .returned (.slice A' (sampleL l ds).length c') ∧
      w'.ownsRow W.heap.size 9 1 (.slice A' (sampleL l ds).length c') (sampleL l ds).length (sv (sampleL l ds)) ∧ Below W.heap.size W w') := fun W hW =>
    refSample_any l ds ((h.below (B1.out.trans (hW.mono (by omega))) (Nat.le_refl _)).wide (Nat.le_refl _) (by have := hW.size; omega)) ((hd.below (B1.out.trans (hW.mono (by omega))) (Nat.le_refl _)).wide (Nat.le_refl _) (by have := hW.size; omega)) (by omega) (by omega)
  have HT : Hid (∀ W A2 c2, W.ownsRow w1.heap.size 9 1 (.slice A2 (sampleL l ds).length c2) (sampleL l ds).length (sv (sampleL l ds)) → Calls Tryz.prog 45 #[.slice A2 (sampleL l ds).length c2, .int .i64 ro] W fun r w' => ∃ t A' c', r = .returned (.slice A' t.length c') ∧ Trained (bytL2 (sampleL l ds)) (roundsN ro) t ∧
      w'.ownsRow W.heap.size 9 1 (.slice A' t.length c') t.length (sv (strsL t)) ∧ Below W.heap.size W w') := fun W A2 c2 ho =>
    refTrain_any (sampleL l ds) ro ((Rd.of_own ho).wide (Nat.zero_le _) (Nat.le_refl _)) (Nat.le_trans (sample_few l ds) (by omega)) (fun s hs => Nat.le_trans (sample_mem h4 s hs) (by omega)) (fun T => bag_few T (Nat.le_trans (sample_few l ds) hdn) (sample_mem h4))
  obtain ⟨o, ho⟩ : ∃ o : Co, o = ⟨2, bl, ro, ds⟩ := ⟨_, rfl⟩
  have HTS : Hid (∀ t, Trained (bytL2 (sampleL l ds)) (roundsN ro) t → tabS l o = t) := fun t ht => by rw [ho]; exact tabS_is ht
  have HPY : Hid (payK l o 2 = putT (tabS l o) ++ joinB ((bytL2 l).map (encL (tabS l o)))) := by unfold Hid; rw [payK, if_pos rfl]
  rw [← ho]
  generalize sampleL l ds = S at *
  generalize payK l o 2 = PY at *
  generalize tabS l o = T at *
  clear h hd hb ho h4
  go_enter Tryz.func18, Tryz.ntmps18
  go_wp2_with fail
  clear hw1
  go_region_held3 (fun w' => w'.cell? ⟨w.heap.size, 2, none⟩ = some (.int .i64 ro) ∧ w'.cell? ⟨w.heap.size, 3, none⟩ = some (.slice B ds.length d)) (first | assumption | (constructor <;> assumption) | go_keep) (first
    | (go_at_call 45; have ho2 := HO2.out; refine (HT.out _ _ _ ho2).mono ?_; rintro r wz ⟨t, A3, c3, rfl, htr, ho3, hbz⟩; have hte := HTS.out t htr; subst hte; have HTR := Lib.hid htr; have HO3 := Lib.hid ho3; have KZ : Hid (Below w1.heap.size w1 wz) := KY.out.trans (hbz.mono KY.out.size); have hSz := (HCF.out _ KZ.out).2; clear hbz htr ho3)
    | (go_at_call 46; refine (HS.out _ KD.out).mono ?_; rintro r wy ⟨A2, c2, rfl, ho2, hby⟩; have HO2 := Lib.hid (own_base ho2 KD.out.size); have KY : Hid (Below w1.heap.size w1 wy) := KD.out.trans (hby.mono KD.out.size); have hSy := (HCF.out _ KY.out).2; clear hby ho2))
  clear HS HT KD hS0 hS1 hSy hSz HO2
  have hR : rightT T = true := HTR.out.right
  have HR := Lib.hid hR
  obtain ⟨ht5, ht8⟩ := small_tab hR
  have hT8 := Lib.hid ht8
  have hsz1 := KZ.out.size
  have HP := Lib.hid (refPutT_any (w := wz) (c := c3) (A := A3) (strsL T) (by exact (Rd.of_own HO3.out).wide (Nat.zero_le _) (Nat.le_refl _)) (by rw [strsL_length]; exact ht5) ht8)
  rw [strsL_length, bytL2_strsL] at HP
  clear hR KY HTS ht8
  go_wp2_with fail
  refine HP.out.mono ?_
  rintro r w3 ⟨A4, c4, rfl, ho4, hb4⟩
  have HO4 := Lib.hid (own_base (base' := w.heap.size) ho4 (by omega))
  have K3 : Hid (Below w1.heap.size w1 w3) := below_below KZ.out hb4 (by omega)
  have hsz3 := K3.out.size
  have HRT : Hid (Rd w3 0 w3.heap.size A3 c3 (sv (strsL T))) := ((Rd.of_own HO3.out).wide (Nat.zero_le _) (Nat.le_refl _)).below hb4 (Nat.le_refl _) |>.wide (Nat.le_refl _) hb4.size
  have HE : Hid (∀ W, Below w3.heap.size w3 W → ∀ s : ByteArray, s.size ≤ 4096 → Calls Tryz.prog 48 #[.slice A3 T.length c3, .string s] W fun r w' => ∃ A' c', r = .returned (.slice A' (encL T s.data.toList).length c') ∧
      w'.ownsRow W.heap.size 5 1 (.slice A' (encL T s.data.toList).length c') (encL T s.data.toList).length (bv (encL T s.data.toList)) ∧ Below W.heap.size W w') := fun W hW s hs => by
    have := refEncode_any (w := W) (c := c3) (A := A3) (strsL T) s ((HRT.out.below hW (Nat.le_refl _)).wide (Nat.le_refl _) hW.size) hT8.out (by rw [strsL_length]; exact ht5) (by omega)
    rw [strsL_length, bytL2_strsL] at this
    exact this
  have HEL : Hid (∀ s : ByteArray, s.size ≤ 4096 → (encL T s.data.toList).length ≤ 8192) := fun s hs => Nat.le_trans (enc_len T s.data.toList) (by rw [show s.data.toList.length = s.size by simp]; omega)
  have HPL : Hid ((putT T).length ≤ 3000) := putT_few HR.out
  obtain ⟨RR, hRR⟩ : ∃ RR, (bytL2 l).map (encL T) = RR := ⟨_, rfl⟩
  have HRL : Hid (RR.length = l.length) := by unfold Hid; rw [← hRR, List.length_map, bytL2_length]
  have HRG : Hid (∀ k (hk : k < l.length), RR[k]? = some (encL T l[k].data.toList)) := fun k hk => by rw [← hRR]; simp [bytL2, List.getElem?_eq_getElem hk]
  rw [hRR] at HPY
  clear hb4 ho4 HP HO3 HRT KZ HTR hRR
  generalize putT T = O at *
  go_wp2_with fail
  go_loopw [6, 7, 12] (fun x y i wr => ∃ (k n : Nat) (rs : List (List UInt8)) (A1 A2 : Option Addr) (c1 c2 : Nat), k ≤ l.length ∧ i = .int .i64 (k : Int) ∧ Hid (RR.take k = rs) ∧ Hid (rs.flatten.length = n) ∧ n ≤ 8192 * k ∧ x = .slice A1 k c1 ∧ y = .slice A2 n c2 ∧
    Tw wr w3.heap.size 3 5 (.slice A1 k c1) (.slice A2 n c2) k n (iv (ints (rs.map List.length))) (bv rs.flatten) ∧ Below w3.heap.size w3 wr) (fun _ _ i _ => l.length - (intOf i).toNat)
  case atStart => exact ⟨0, 0, [], none, none, 0, 0, Nat.zero_le _, rfl, rfl, rfl, Nat.zero_le _, rfl, rfl, Tw.nil _ _ _ _, Below.refl _ _⟩
  case round =>
    obtain ⟨k, n, rs, A1, A2, c1, c2, hk, rfl, HRS, HN, hn8, rfl, rfl, ho, hb⟩ := hrel
    have HO := Lib.hid ho
    have HB := Lib.hid hb
    have hsz := hb.size
    have HBW : Hid (Below w1.heap.size w1 wr) := K3.out.trans (hb.mono K3.out.size)
    have HBWW : Hid (Below w.heap.size w wr) := B1.out.trans (HBW.out.mono (by omega))
    clear ho hb
    have hrl : rs.length = k := by rw [← HRS.out, List.length_take, HRL.out]; omega
    have HRSL := Lib.hid hrl
    clear hrl
    by_cases hlt : k < l.length
    · have ik : (k : Int) < (l.length : Int) := by omega
      obtain ⟨b, off, rfl, _, hbl, hc0⟩ := (H.out wr HBWW.out).str hlt
      have HS4 := Lib.hid (HH4.out _ (List.getElem_mem hlt))
      have HR1 := Lib.hid (HRG.out k hlt)
      generalize l[k] = s at *
      have hcv := Lib.run_convert_string_bytes (P := Tryz.prog) wr 9 28 5 s Tryz.underlying9 Tryz.underlying28 Tryz.underlying5
      have hcap := grownCap_le_maxLen wr s.size 0 5 (by have := HS4.out; simp only [maxLen]; omega)
      have hrd := bytesWorld_rd wr 5 s hcap
      have hb2 := bytesWorld_below wr 5 s (Nat.le_refl _)
      have hs2 : wr.heap.size + 1 ≤ (Lib.bytesWorld wr 5 s).heap.size := by rw [Lib.bytesWorld_size]; exact Nat.le_refl _
      clear hcap
      generalize grownCap wr s.size 0 5 = gc at *
      generalize Lib.bytesWorld wr 5 s = w2 at *
      have HB2 := Lib.hid (below_below HB.out hb2 hsz)
      have HO2 := Lib.hid (HO.out.below hb2)
      have HLT : Hid (∀ q, (Value.slice A1 k c1).ownBlock = some q → q < wr.heap.size) := fun q hq => (own_lt HO.out.o1 hq).2
      have hsz2 : w3.heap.size ≤ w2.heap.size := HB2.out.size
      have hkd := (HCF.out w2 (K3.out.trans (HB2.out.mono K3.out.size))).1
      have HRD2 := Lib.hid hrd
      have hc02 : w2.cell? ⟨b, off + k, none⟩ = some (.string s) := (hb2.cell (p := ⟨b, off + k, none⟩) hbl).trans hc0
      clear hrd hb2 HB HO HBW HBWW
      have HE2 := Lib.hid (HE.out w2 HB2.out s HS4.out)
      have HEL2 := HEL.out s HS4.out
      generalize encL T s.data.toList = e at *
      generalize hen : e.length = en at *
      have HEN := Lib.hid hen
      clear hen
      go_wp2_with fail
      refine HE2.out.mono ?_
      rintro r w4 ⟨A3', c3', rfl, ho3, hb3⟩
      have HB4 := Lib.hid (below_below HB2.out hb3 hsz2)
      have HO4' := Lib.hid (HO2.out.below hb3)
      have hsz4 : w3.heap.size ≤ w4.heap.size := HB4.out.size
      have HRD4 : Hid (Rd w4 wr.heap.size w4.heap.size A3' c3' (bv e)) := (Rd.of_own ho3).wide (by omega) (Nat.le_refl _)
      clear ho3 hb3 HB2 HO2 HRD2 HE2
      have HRS2 : Hid (RR.take (k + 1) = rs ++ [e]) := by
        unfold Hid
        have h1 : k < RR.length := by rw [HRL.out]; exact hlt
        rw [List.take_succ_eq_append_getElem h1, HRS.out]
        have h2 := HR1.out
        rw [List.getElem?_eq_getElem h1] at h2
        rw [Option.some.inj h2]
      have HML : Hid ((ints (rs.map List.length)).length = k) := by unfold Hid; rw [ints_length, List.length_map, HRSL.out]
      have HMS : Hid (ints (rs.map List.length) ++ [(en : Int)] = ints ((rs ++ [e]).map List.length)) := by unfold Hid; rw [List.map_append, List.map_cons, List.map_nil, HEN.out]; simp [ints]
      go_wp2_with (at_builtin; refine push_num_at (v := .slice A1 k c1) w3.heap.size (ints (rs.map List.length)) (en : Int) rfl _ _ rfl rfl rfl rfl (by rw [World.cell?_alloc_at _ _ _ _ rfl]; rfl) (by have := HO4'.out.o1.alloc (.cells #[.int .i64 (en : Int)] 3); rw [HML.out]; exact this) (by rw [HML.out]; omega) (by simp; omega) ?_; intro A5 c5 w5 ho5 hg5 hb5; refine held ?_)
      have hbB : Below w3.heap.size w3 w5 := (HB4.out.alloc (by omega) _).grown hg5 (by simp; omega) (fun q hq => (own_lt HO4'.out.o1 hq).1)
      rw [HMS.out, HML.out] at ho5
      rw [HML.out] at hb5
      have HO5 := Lib.hid ((HO4'.out.alloc (.cells #[.int .i64 (en : Int)] 3)).left ho5 hg5 hb5)
      have HZ5 : Hid (Value.slice A5 ((ints (rs.map List.length)).length + 1) c5 = .slice A5 (k + 1) c5) := by unfold Hid; rw [HML.out]
      have HRD5 : Hid (Rd w5 wr.heap.size w5.heap.size A3' c3' (bv e)) := ((HRD4.out.alloc (Nat.le_refl _) _).grown hg5 (by simp) (fun q hq => .inl (HLT.out q hq))).wide (Nat.le_refl _) (by have := hg5.size; simp at this; omega)
      have HB5 := Lib.hid hbB
      have hsz5 := hbB.size
      clear ho5 hg5 hb5 hbB HO4' HB4 HRD4 HLT
      have hal : (rs ++ [e]).flatten.length = n + en := by rw [List.flatten_append, List.length_append, HN.out]; simp [HEN.out]
      obtain ⟨A8, c8, w8, hrun8, ho8, hg8, hb8⟩ := append_bytes_at w5 w3.heap.size (.slice A2 n c2) rs.flatten e (rs ++ [e]).flatten (by simp) (by rw [HN.out]; exact HO5.out.o2) HRD5.out (by rw [HN.out, HEN.out]; omega) hsz5
      rw [hal] at hrun8 ho8 hb8
      rw [HEN.out] at hrun8
      have HAL := Lib.hid hal
      have HO8 := Lib.hid (HO5.out.right ho8 hg8 hb8)
      have HB8 : Hid (Below w3.heap.size w3 w8) := HB5.out.grown hg8 hsz5 (fun q hq => (own_lt HO5.out.o2 hq).1)
      clear hal ho8 hg8 hb8 HO5 HB5 HRD5 HMS
      refine ⟨?_⟩
      go_wp2_with (at_builtin; refine wpList_append_run rfl _ _ _ _ rfl rfl rfl hrun8 ?_)
      go_roundw
      case rel => exact ⟨k + 1, n + en, rs ++ [e], A5, A8, c5, c8, by omega, by go_num, HRS2, HAL, by omega, HZ5.out, rfl, HO8.out, HB8.out⟩
      case measure => simp [intOf] <;> omega
    · have ik : ¬ (k : Int) < (l.length : Int) := by omega
      have hrs : rs = RR := by rw [← HRS.out, List.take_of_length_le (by rw [HRL.out]; omega)]
      subst hrs
      obtain ⟨zs, hzs⟩ : ∃ zs, ints (rs.map List.length) = zs := ⟨_, rfl⟩
      have hzl : zs.length = k := by rw [← hzs, ints_length, List.length_map, HRSL.out]
      have HMY : May zs := by
        rw [← hzs]
        refine lens_may (m := 8192) (by omega) fun x hx => ?_
        obtain ⟨j, hj, rfl⟩ := List.getElem_of_mem hx
        have h1 := HRG.out j (by rw [← HRL.out]; exact hj)
        rw [List.getElem?_eq_getElem hj] at h1
        rw [Option.some.inj h1]
        refine Int.le_trans (Int.ofNat_le.2 (HEL.out _ (HH4.out _ (List.getElem_mem _)))) (by omega)
      rw [hzs] at HO
      have HW := Lib.hid (rwrite_any (w := wr) (c := c1) (A := A1) zs HMY ((Rd.of_own HO.out.o1).wide (Nat.zero_le _) (Nat.le_refl _)) (Nat.le_refl _) (by omega))
      rw [hzl] at HW
      have hwl : (writeL zs).length ≤ 1000000000000 := Nat.le_trans (writeL_length HMY (by omega)) (by omega)
      have HPY2 : Hid (PY = (O ++ writeL zs) ++ rs.flatten) := by unfold Hid; rw [HPY.out, joinB, hzs, List.append_assoc]
      clear hzs hzl HMY HPY
      generalize hwz : writeL zs = wz at *
      clear hwz
      generalize hwn : wz.length = wn at *
      have HWN := Lib.hid hwn
      clear hwn
      go_wp2_with fail
      refine HW.out.mono ?_
      rintro r w6 ⟨A6, c6, rfl, ho6, hb6⟩
      have HO6 := Lib.hid ho6
      have HT6 := Lib.hid (HO.out.below hb6)
      have hsz6 := hb6.size
      have HB6 : Hid (Below w3.heap.size w3 w6) := below_below HB.out hb6 hsz
      have HU6 : Hid (∀ q, (Value.slice A2 n c2).ownBlock = some q → w3.heap.size ≤ q ∧ q < w6.heap.size) := fun q hq => own_lt HT6.out.o2 hq
      clear ho6 hb6 HW HO HB
      have hoo : w6.ownsRow w.heap.size 5 1 (.slice A4 O.length c4) O.length (bv O) := own_below HO4.out HB6.out (Nat.le_refl _)
      obtain ⟨A7, c7, w7, hrun7, ho7, hg7, hb7⟩ := append_bytes_at w6 w.heap.size (.slice A4 O.length c4) O wz (O ++ wz) rfl hoo (Rd.of_own HO6.out) (by rw [HWN.out]; have := HPL.out; omega) (by omega)
      have hal7 : (O ++ wz).length = O.length + wn := by rw [List.length_append, HWN.out]
      rw [HWN.out, hal7] at hrun7
      rw [hal7] at ho7
      have hap : (Value.slice A2 n c2).ownBlock = none ∨ (Value.slice A2 n c2).ownBlock ≠ ((.slice A4 O.length c4) : Value).ownBlock := by
        cases hx : (Value.slice A2 n c2).ownBlock with
        | none => exact Or.inl rfl
        | some q => exact Or.inr fun e => by have h1 := (HU6.out q hx).1; have h2 := (own_lt HO4.out (e.symm)).2; omega
      have hAll7 := HT6.out.o2.kept hg7 hap
      obtain ⟨A8, c8, w8, hrun8, ho8, hg8, hb8⟩ := append_bytes_at w7 w.heap.size (.slice A7 (O.length + wn) c7) (O ++ wz) rs.flatten ((O ++ wz) ++ rs.flatten) rfl (by rw [hal7]; exact ho7) (Rd.of_own hAll7) (by rw [hal7, HN.out]; have := HPL.out; omega) (by have := hg7.size; omega)
      rw [← HPY2.out, HN.out] at hrun8
      rw [← HPY2.out] at ho8
      have HO8 := Lib.hid ho8
      have HB7 : Hid (Below w.heap.size w w7) := (B1.out.trans ((K3.out.trans (HB6.out.mono K3.out.size)).mono (by omega))).grown hg7 (by omega) (fun q hq => (own_lt hoo hq).1)
      have HB8 : Hid (Below w.heap.size w w8) := HB7.out.grown hg8 HB7.out.size (fun q hq => (own_lt ho7 hq).1)
      clear ho7 hg7 hb7 hal7 hap hAll7 ho8 hg8 hb8 hoo HPY2
      go_wp2_with (at_builtin; refine wpList_append_run rfl _ _ _ _ rfl rfl rfl hrun7 ?_; refine held ?_)
      clear hrun7
      refine ⟨?_⟩
      go_wp2_with (at_builtin; refine wpList_append_run rfl _ _ _ _ rfl rfl rfl hrun8 ?_)
      go_ret
      exact ⟨_, _, rfl, HO8.out, HB8.out⟩
end Go.Proofs.YtmffpbhiehjlpaaGreat
namespace Go.Proofs.YtmffpbhiehjlpaaGreat
set_option linter.unusedSimpArgs false
set_option linter.unusedVariables false
open Go.RowKit
theorem str_ne {a b : ByteArray} (h : ¬ a = b) : (a.toList == b.toList) = false := beq_eq_false_iff_ne.2 fun e => h (ByteArray.ext (Array.toList_inj.1 (by rw [← Lib.toList_data, ← Lib.toList_data, e])))
set_option maxRecDepth 20000 in
set_option maxHeartbeats 4000000 in
theorem refPay3 {w : World} (l : List ByteArray) (K : Nat) (ro : Int) (ds : List Int) {c d : Nat} {A B : Option Addr} (h : Rd w 0 w.heap.size A c (sv l)) (hn : l.length ≤ 100) (hK : 1 ≤ K) (hK2 : K ≤ 64) (h4 : ∀ s ∈ l, s.size ≤ 4096) :
    Calls Tryz.prog 18 #[.slice A l.length c, .agg #[.int .i64 3, .int .i64 (K : Int), .int .i64 ro, .slice B ds.length d]] w fun r w' => ∃ A' c', r = .returned (.slice A' (payK l ⟨3, K, ro, ds⟩ 3).length c') ∧
      w'.ownsRow w.heap.size 5 1 (.slice A' (payK l ⟨3, K, ro, ds⟩ 3).length c') (payK l ⟨3, K, ro, ds⟩ 3).length (bv (payK l ⟨3, K, ro, ds⟩ 3)) ∧ Below w.heap.size w w' := by
  have hl := h.len
  have hm := h.cap
  rw [sv_length] at hl
  unfold maxLen at hm
  obtain ⟨w1, hw1⟩ : ∃ w1, w.alloc (.cells #[.int .i64 3, .int .i64 (K : Int), .int .i64 ro, .slice B ds.length d] 25) = w1 := ⟨_, rfl⟩
  have B1 : Hid (Below w.heap.size w w1) := by unfold Hid; rw [← hw1]; exact (Below.refl _ w).alloc (Nat.le_refl _) _
  have hs1 : w1.heap.size = w.heap.size + 1 := by rw [← hw1]; simp
  have hb : Blk w1 w.heap.size 25 #[.int .i64 3, .int .i64 (K : Int), .int .i64 ro, .slice B ds.length d] := by rw [← hw1]; exact Blk.new w _ _
  have HCF : Hid (∀ W, Below w1.heap.size w1 W → W.cell? ⟨w.heap.size, 0, none⟩ = some (.int .i64 3) ∧ W.cell? ⟨w.heap.size, 1, none⟩ = some (.int .i64 (K : Int))) := fun W hW => ⟨(hb.below hW (by omega)).cell 0, (hb.below hW (by omega)).cell 1⟩
  obtain ⟨hS0, hS1⟩ := HCF.out _ (Below.refl _ _)
  have H : Hid (∀ W, Below w.heap.size w W → Rd W 0 W.heap.size A c (sv l)) := fun W hW => (h.below hW (Nat.le_refl _)).wide (Nat.le_refl _) hW.size
  have HH4 := Lib.hid h4
  have HPY : Hid (∀ t : List ByteArray, SortOf (bytL2 l) (bytL2 t) → payK l ⟨3, K, ro, ds⟩ 3 = frontL K (bytL2 t) ++ writeL (ints (codesN (bytL2 t) (bytL2 l)))) := fun t ht => by rw [payK, if_neg (by decide), if_pos rfl, dicS_is ht]; rfl
  generalize payK l ⟨3, K, ro, ds⟩ 3 = PY at *
  have HSO := Lib.hid (refSorted_any (w := w1) (A := A) (c := c) l (H.out w1 B1.out) (fun s hs => Nat.le_trans (h4 s hs) (by omega)) (by omega))
  clear h hb h4
  go_enter Tryz.func18, Tryz.ntmps18
  go_wp2_with fail
  clear hw1
  refine HSO.out.mono ?_
  rintro r w2 ⟨t, At, ct, rfl, hso, htl, hot, hbt⟩
  have HPY2 := Lib.hid (HPY.out t hso)
  have hdic := hso.dic (by rw [bytL2_length]; omega) (fun x hx => by obtain ⟨s, hs, rfl⟩ := List.mem_map.1 hx; exact HH4.out s hs)
  have HDIC := Lib.hid hdic
  have hris : risesL (bytL2 t) = true := hso.1
  have hnd := rises_nodup hris
  obtain ⟨ALL, hALL⟩ : ∃ ALL, ints (codesN (bytL2 t) (bytL2 l)) = ALL := ⟨_, rfl⟩
  have HAL : Hid (ALL.length = l.length) := by unfold Hid; rw [← hALL, ints_length, codesN, List.length_map, bytL2_length]
  have HQ : Hid (∀ k (hk : k < l.length), ∃ q : Nat, q < t.length ∧ t[q]? = some l[k] ∧ (∀ j, t[j]? = some l[k] → j = q) ∧ ALL[k]? = some (q : Int)) := fun k hk => by
    have hmem : l[k].data.toList ∈ bytL2 t := (hso.2 _).2 (List.mem_map_of_mem (List.getElem_mem hk))
    have hlt : (bytL2 t).idxOf l[k].data.toList < (bytL2 t).length := List.idxOf_lt_length_of_mem hmem
    have hlt2 : (bytL2 t).idxOf l[k].data.toList < t.length := by rw [← bytL2_length]; exact hlt
    have hinj : ∀ a b : ByteArray, a.data.toList = b.data.toList → a = b := fun a b e => ByteArray.ext (Array.toList_inj.1 e)
    have hg : ∀ j (hj : j < t.length), (bytL2 t)[j]? = some t[j].data.toList := fun j hj => by simp [bytL2, List.getElem?_eq_getElem hj]
    refine ⟨_, hlt2, ?_, fun j hj => ?_, by rw [← hALL]; simp [ints, codesN, bytL2, List.getElem?_eq_getElem hk]⟩
    · have h1 := List.getElem_idxOf hlt
      have h2 := hg _ hlt2
      rw [List.getElem?_eq_getElem hlt, h1] at h2
      rw [List.getElem?_eq_getElem hlt2]
      exact congrArg some (hinj _ _ (Option.some.inj h2)).symm
    · obtain ⟨hj2, e⟩ := List.getElem?_eq_some_iff.1 hj
      have h1 := hg j hj2
      rw [e] at h1
      have hj3 : j < (bytL2 t).length := by rw [bytL2_length]; exact hj2
      rw [List.getElem?_eq_getElem hj3] at h1
      have h2 : (bytL2 t)[j] = l[k].data.toList := Option.some.inj h1
      rw [← h2]
      exact (hnd.idxOf_getElem j hj3).symm
  have HMY : Hid (May ALL) := by
    unfold Hid
    rw [← hALL]
    refine codes_may (D := bytL2 t) (by rw [bytL2_length]; omega) fun x hx => ?_
    obtain ⟨s, hs, rfl⟩ := List.mem_map.1 hx
    exact List.idxOf_lt_length_of_mem ((hso.2 s).2 hs)
  rw [hALL] at HPY2
  have HFL : Hid ((frontL K (bytL2 t)).length ≤ 1000000000) := by
    have h1 := front_len hK2 hdic
    have h2 := sumL_le (m := 4096) (fun s hs => (dicL_iff.1 hdic).2.1 s hs)
    have h3 : (bytL2 t).length ≤ 100 := by rw [bytL2_length]; omega
    unfold Hid
    omega
  have HOT := Lib.hid hot
  have HBT : Hid (Below w.heap.size w w2) := B1.out.trans (hbt.mono (by omega))
  have hs2 := hbt.size
  have hc2 := HCF.out w2 hbt
  have HD : Hid (∀ W, Below w2.heap.size w2 W → Rd W 0 W.heap.size At ct (sv t)) := fun W hW => ((Rd.of_own HOT.out).below hW (Nat.le_refl _)).wide (Nat.zero_le _) hW.size
  have HCG : Hid (∀ W, Below w2.heap.size w2 W → W.cell? ⟨w.heap.size, 1, none⟩ = some (.int .i64 (K : Int))) := fun W hW => (HCF.out W (hbt.trans (hW.mono hs2))).2
  have hctt : t.length ≤ ct := (by have := (HD.out w2 (Below.refl _ _)).len; rwa [sv_length] at this)
  clear hso hdic hris hnd hALL hot hbt HSO HPY HCF hS0 hS1 hc2
  go_wp2_with fail
  go_loopw [6, 9] (fun x i wr => ∃ (k : Nat) (zs : List Int) (A1 : Option Addr) (c1 : Nat), k ≤ l.length ∧ i = .int .i64 (k : Int) ∧ Hid (ALL.take k = zs) ∧ x = .slice A1 k c1 ∧ Hid (wr.ownsRow w2.heap.size 3 1 (.slice A1 k c1) k (iv zs)) ∧ Below w2.heap.size w2 wr) (fun _ i _ => l.length - (intOf i).toNat)
  case atStart => exact ⟨0, [], none, 0, Nat.zero_le _, rfl, rfl, rfl, World.ownsRow_nil .., Below.refl _ _⟩
  case round =>
    obtain ⟨k, zs, A1, c1, hk, rfl, HZ, rfl, HO, hb⟩ := hrel
    have HB := Lib.hid hb
    have hsz := hb.size
    clear hb
    have HZL : Hid (zs.length = k) := by unfold Hid; rw [← HZ.out, List.length_take, HAL.out]; omega
    by_cases hlt : k < l.length
    · have ik : (k : Int) < (l.length : Int) := by omega
      obtain ⟨q, hq1, hq2, hq3, hq4⟩ := HQ.out k hlt
      have HQ2 := Lib.hid hq2
      have HQ3 := Lib.hid hq3
      have HZ2 : Hid (ALL.take (k + 1) = zs ++ [(q : Int)]) := by
        have h1 : k < ALL.length := by rw [HAL.out]; exact hlt
        unfold Hid
        rw [List.take_succ_eq_append_getElem h1, HZ.out]
        rw [List.getElem?_eq_getElem h1] at hq4
        rw [Option.some.inj hq4]
      have HSX : Hid (∀ W, Below w2.heap.size w2 W → ∃ b off, A = some ⟨b, off, none⟩ ∧ W.cell? ⟨b, off + k, none⟩ = some (.string l[k])) := fun W hW => by
        obtain ⟨b, off, e, _, _, hc⟩ := (H.out W (HBT.out.trans (hW.mono (by omega)))).str hlt
        exact ⟨b, off, e, hc⟩
      clear hq2 hq3 hq4
      generalize l[k] = s at *
      go_wp2_with fail
      go_loopw [6, 10] (fun x i wv => ∃ (j n : Nat) (ys : List Int) (A2 : Option Addr) (c2 : Nat), j ≤ t.length ∧ i = .int .i64 (j : Int) ∧ Hid (ys = if q < j then zs ++ [(q : Int)] else zs) ∧ Hid (ys.length = n) ∧ n ≤ k + 1 ∧ x = .slice A2 n c2 ∧ Hid (wv.ownsRow w2.heap.size 3 1 (.slice A2 n c2) n (iv ys)) ∧ Below w2.heap.size w2 wv) (fun _ i _ => t.length - (intOf i).toNat)
      case atStart => exact ⟨0, k, zs, A1, c1, Nat.zero_le _, rfl, by unfold Hid; rw [if_neg (Nat.not_lt_zero _)], HZL, by omega, rfl, HO, HB.out⟩
      case round =>
        clear HO HB
        obtain ⟨j, n, ys, A2, c2, hj, rfl, HY, HYN, hnk, rfl, HO, hb⟩ := hrel
        have HB := Lib.hid hb
        have hsz3 := hb.size
        clear hb
        by_cases hjt : j < t.length
        · have ij : (j : Int) < (t.length : Int) := by omega
          obtain ⟨b, off, rfl, hcs⟩ := HSX.out _ HB.out
          obtain ⟨b2, off2, rfl, _, _, hct⟩ := (HD.out _ HB.out).str hjt
          have hs3 : Hid (t[j] = s → j = q) := fun e => HQ3.out j (by rw [List.getElem?_eq_getElem hjt, e])
          have hs4 : Hid (j = q → t[j] = s) := fun e => by
            have := HQ2.out
            subst e
            rw [List.getElem?_eq_getElem hjt] at this
            exact Option.some.inj this
          generalize t[j] = u at *
          have i0 : (0 : Int) ≤ (j : Int) := by omega
          have i1 : (0 : Int) ≤ (k : Int) := by omega
          by_cases hus : u = s
          · subst hus
            obtain rfl := hs3.out rfl
            have HYE : Hid (ys = zs) := by unfold Hid; rw [HY.out, if_neg (Nat.lt_irrefl _)]
            have HYE2 : Hid (ys ++ [(j : Int)] = if j < j + 1 then zs ++ [(j : Int)] else zs) := by unfold Hid; rw [HYE.out, if_pos (Nat.lt_succ_self _)]
            have HNK2 : Hid (n = k) := by unfold Hid; rw [← HYN.out, HYE.out, HZL.out]
            go_wp2_with fail
            go_quiet (fail)
            have HO4 : Hid ((wr.drewN nq).ownsRow w2.heap.size 3 1 (.slice A2 n c2) n (iv ys)) := own_keep HO.out (fun _ _ => rfl)
            have HB4 : Hid (Below w2.heap.size w2 (wr.drewN nq)) := below_drewN' HB.out _
            clear HO HB hcs hct
            generalize wr.drewN nq = w4 at *
            have hsz4 := HB4.out.size
            go_wp2_with (at_builtin; refine push_num_at (v := .slice A2 n c2) w2.heap.size ys (j : Int) rfl _ _ rfl rfl rfl rfl (by rw [World.cell?_alloc_at _ _ _ _ rfl]; rfl) (by rw [HYN.out]; exact HO4.out.alloc _) (by rw [HYN.out]; omega) (by simp; omega) ?_; intro A5 c5 w5 ho5 hg5 hb5; refine held ?_)
            have hbB : Below w2.heap.size w2 w5 := (HB4.out.alloc hsz4 _).grown hg5 (by simp; omega) (fun q hq => (own_lt HO4.out hq).1)
            rw [HYN.out] at ho5
            have HO5 := Lib.hid ho5
            have HB5 := Lib.hid hbB
            have HYL : Hid ((ys ++ [(j : Int)]).length = n + 1) := by unfold Hid; rw [List.length_append, HYN.out]; rfl
            have HZV : Hid (Value.slice A5 (ys.length + 1) c5 = .slice A5 (n + 1) c5) := by unfold Hid; rw [HYN.out]
            clear ho5 hg5 hb5 hbB HO4 HB4
            refine ⟨?_⟩
            go_wp2_with fail
            go_roundw
            case rel => exact ⟨j + 1, n + 1, ys ++ [(j : Int)], A5, c5, by omega, by go_num, HYE2, HYL, by have := HNK2.out; omega, HZV.out, HO5, HB5.out⟩
            case measure => simp [intOf] <;> omega
          · have hne := str_ne hus
            have hjq : ¬ j = q := fun e => hus (hs4.out e)
            have HY2 : Hid (ys = if q < j + 1 then zs ++ [(q : Int)] else zs) := by
              unfold Hid
              rw [HY.out]
              by_cases h5 : q < j
              · rw [if_pos h5, if_pos (by omega)]
              · rw [if_neg h5, if_neg (by omega)]
            go_wp2_with fail
            go_quiet (fail)
            go_wp2_with fail
            go_roundw
            case rel => exact ⟨j + 1, n, ys, A2, c2, by omega, by go_num, HY2, HYN, hnk, rfl, own_keep HO.out (fun _ _ => rfl), below_drewN' HB.out _⟩
            case measure => simp [intOf]; omega
        · have ij : ¬ (j : Int) < (t.length : Int) := by omega
          have HY3 : Hid (ALL.take (k + 1) = ys) := by
            unfold Hid
            rw [HY.out, if_pos (by omega), HZ2.out]
          have hn1 : n = k + 1 := by
            rw [← HYN.out, HY.out, if_pos (by omega), List.length_append, HZL.out]
            rfl
          subst hn1
          go_wp2_with fail
          go_roundw
          case rel => exact ⟨k + 1, ys, A2, c2, by omega, by go_num, HY3, rfl, HO, HB.out⟩
          case measure => simp [intOf]; omega
    · have ik : ¬ (k : Int) < (l.length : Int) := by omega
      have hzs : zs = ALL := by rw [← HZ.out, List.take_of_length_le (by rw [HAL.out]; omega)]
      subst hzs
      have hK1 := HCG.out wr HB.out
      have HBU := Lib.hid (refBuild_any (w := wr) (A := At) (c := ct) t K HDIC.out hK hK2 (HD.out wr HB.out))
      have hwl : Hid ((writeL zs).length ≤ 1000000000000) := Nat.le_trans (writeL_length HMY.out (by rw [HZL.out]; omega)) (by omega)
      generalize frontL K (bytL2 t) = FL at *
      have HWR : Hid (∀ W, Below wr.heap.size wr W → Calls Tryz.prog 44 #[.slice A1 k c1] W fun r w' => ∃ A' c', r = .returned (.slice A' (writeL zs).length c') ∧ w'.ownsRow W.heap.size 5 1 (.slice A' (writeL zs).length c') (writeL zs).length (bv (writeL zs)) ∧ Below W.heap.size W w') := fun W hW => by
        have := rwrite_any (w := W) (A := A1) (c := c1) zs HMY.out (((Rd.of_own HO.out).below hW (Nat.le_refl _)).wide (Nat.zero_le _) hW.size) (Nat.le_refl _) (by rw [HZL.out]; omega)
        rw [HZL.out] at this
        exact this
      generalize writeL zs = WL at *
      generalize hfn : FL.length = fn at *
      generalize hwn : WL.length = wn at *
      have HFN := Lib.hid hfn
      have HWN := Lib.hid hwn
      clear hfn hwn
      go_wp2_with fail
      refine HBU.out.mono ?_
      rintro r w5 ⟨A5, c5, rfl, ho5, hb5⟩
      have HO5 := Lib.hid ho5
      have HB5 := Lib.hid hb5
      have hsz5 := hb5.size
      have HW5 := Lib.hid (HWR.out w5 hb5)
      clear ho5 hb5 HBU HWR
      go_wp2_with fail
      refine HW5.out.mono ?_
      rintro r w6 ⟨A6, c6, rfl, ho6, hb6⟩
      have HO6 := Lib.hid ho6
      have HB6 := Lib.hid hb6
      have hsz6 := hb6.size
      have hoo : w6.ownsRow w.heap.size 5 1 (.slice A5 fn c5) fn (bv FL) := own_base (own_below HO5.out hb6 (Nat.le_refl _)) (by omega)
      clear ho6 hb6 HW5
      obtain ⟨A7, c7, w7, hrun7, ho7, hg7, hb7⟩ := append_bytes_at w6 w.heap.size (.slice A5 fn c5) FL WL PY HPY2.out.symm (by rw [HFN.out]; exact hoo) (Rd.of_own HO6.out) (by rw [HFN.out, HWN.out]; have := HFL.out; have := hwl.out; omega) (by omega)
      rw [HWN.out] at hrun7
      have HO7 := Lib.hid ho7
      have HB7 : Hid (Below w.heap.size w w7) := ((HBT.out.trans (HB.out.mono (by omega))).trans ((HB5.out.mono (by omega)).trans (HB6.out.mono (by omega)))).grown hg7 (by omega) (fun q hq => (own_lt hoo hq).1)
      clear ho7 hg7 hb7 hoo
      go_wp2_with (at_builtin; refine wpList_append_run rfl _ _ _ _ rfl rfl rfl hrun7 ?_)
      go_ret
      exact ⟨_, _, rfl, HO7.out, HB7.out⟩
end Go.Proofs.YtmffpbhiehjlpaaGreat
