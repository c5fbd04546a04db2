/-
  Proved: GramAsks of layer 15: of whatever filter, string and gram: a string's grams; whether it has them; what came in reads as it did. Conditions: none of our own.
-/
import Derived.Test.YtepgkdmfoojppaaGqW
import Derived.Test.YtepgkdmfoojppaaMgS
namespace Go.Proofs.Ytepgkdmfoojppaa
set_option linter.unusedSimpArgs false
set_option linter.unusedVariables false
open Go.ChangeShapes Go.WideShapes Go.ChangeAt Go.RowKit
open Go.ChangeMaps (open_string shut_string)

set_option maxRecDepth 20000 in
set_option maxHeartbeats 4000000 in
theorem gramAsks_walk {w : World} {A : Option Addr} {l : List ByteArray} {c : Nat} (h : Rd w 0 w.heap.size A c (sv l) ∧ (∀ s ∈ l, s.size ≤ 140737488351232) ∧ l.length ≤ 8796093021952) (u : Nat) (hu : u < 65536) (s : ByteArray) (hs : s.size ≤ 140737488351232) (x : Nat) (hx : x < 4294967296) :
    Calls Try.prog 4 #[.slice A l.length c, .int .u16 (u : Int), .string s, .int .u32 (x : Int)] w fun e w' => e = .returned (.bool true) ∧ Below w.heap.size w w' := by
  obtain ⟨h, hz, -⟩ := h
  have Hl_w := Lib.hid h
  have HZ := Lib.hid hz
  have hl := h.len
  have hm := h.cap
  rw [sv_length] at hl
  unfold maxLen at hm
  clear h hz
  by_cases hf : FewG l
  · obtain ⟨hl150, hs1, hal⟩ := few_facts hf
    have HFW : Hid (decide (FewG l) = true) := decide_eq_true hf
    have HS1 := Lib.hid hs1
    have HAL := Lib.hid hal
    clear hf hs1 hal
    by_cases hs5 : s.size ≤ 500
    · have i10 : ¬ (500 : Int) < (s.size : Int) := by omega
      have d10 : decide ((500 : Int) < (s.size : Int)) = false := decide_eq_false i10
      obtain ⟨m, hm⟩ : ∃ m, u % 2000 = m := ⟨_, rfl⟩
      have hm3 : m < 2000 := by omega
      have hmod : (u : Int) % 2000 = (m : Int) := by omega
      have htmod : (u : Int).tmod 2000 = (m : Int) := by rw [Int.tmod_eq_emod_of_nonneg (by omega)]; exact hmod
      clear hm
      obtain ⟨n, hn⟩ : ∃ n, x % 16777216 = n := ⟨_, rfl⟩
      have hn3 : n < 16777216 := by omega
      have hmod2 : (x : Int) % 16777216 = (n : Int) := by omega
      have htmod2 : (x : Int).tmod 16777216 = (n : Int) := by rw [Int.tmod_eq_emod_of_nonneg (by omega)]; exact hmod2
      clear hn
      go_enter Try.func4, Try.ntmps4
      go_wp2_with fail
      refine (awake15_any (w := _)).mono ?_
      rintro r w1 ⟨rfl, b_w1⟩
      have Hl_w1 := Lib.hid ((Hl_w.out.below b_w1 (Nat.le_refl _)).wide (Nat.zero_le _) b_w1.size)
      have HB_w1 := Lib.hid b_w1
      have S_w1 := HB_w1.out.size
      clear b_w1 Hl_w   
      go_wp2_with fail
      refine (fewg_is l true Hl_w1.out HFW.out HZ.out).mono ?_
      rintro r wq ⟨rfl, m_w2, rfl⟩
      obtain ⟨w2, hw_w2⟩ : ∃ q, w1.drewN m_w2 = q := ⟨_, rfl⟩
      have Hl_w2 : Hid (Rd w2 0 w2.heap.size A c (sv l)) := by unfold Hid; rw [← hw_w2]; exact Hl_w1.out.drewN m_w2
      have HB_w2 : Hid (Below w.heap.size w w2) := by unfold Hid; rw [← hw_w2]; exact below_drewN' HB_w1.out m_w2
      have S_w2 := HB_w2.out.size
      rw [hw_w2]
      clear hw_w2 Hl_w1 HB_w1
      go_wp2_with fail
      clear hmod htmod
      refine (refmake_fil l Hl_w2.out HS1.out (by omega) HAL.out m (by omega)).mono ?_
      rintro r w3 ⟨A3, c3, B3, d3, gs, rs, rfl, hfil, -, -, hflt, b_w3⟩
      have HFIL := Lib.hid hfil
      have HFL := Lib.hid hflt
      clear hfil hflt
      have HB_w3 := Lib.hid (below_below HB_w2.out b_w3 S_w2)
      have S_w3 := HB_w3.out.size
      clear b_w3 HB_w2   
      have HFf_w3 : Hid (Flt w3 0 w3.heap.size (.agg #[.int .i64 (m : Int), .slice A3 gs.length c3, .slice B3 rs.length d3]) m gs rs) := (HFL.out.wide (Nat.zero_le _) (Nat.le_refl _))
      go_wp2_with fail
      obtain ⟨w4, hw_w4⟩ : ∃ q, w3.alloc (.cells #[.int .i64 (m : Int), .slice A3 gs.length c3, .slice B3 rs.length d3] 28) = q := ⟨_, rfl⟩
      have b_w4 : Below w3.heap.size w3 w4 := by rw [← hw_w4]; exact (Below.refl _ _).alloc (Nat.le_refl _) _
      rw [hw_w4]
      have HVxf : Hid (Blk w4 w3.heap.size 28 #[.int .i64 (m : Int), .slice A3 gs.length c3, .slice B3 rs.length d3]) := by unfold Hid; rw [← hw_w4]; exact Blk.new _ _ _
      have HFf_w4 := Lib.hid ((HFf_w3.out.below b_w4 (Nat.le_refl _)).wide (Nat.zero_le _) b_w4.size)
      have HB_w4 := Lib.hid (below_below HB_w3.out b_w4 S_w3)
      have S_w4 := HB_w4.out.size
      clear b_w4 HB_w3  HFf_w3 
      have HVf_w4 := Lib.hid HVxf.out
      clear HVxf hw_w4
      clear HFL hmod2 htmod2
      have HG := Lib.hid (fun w => ggrams_any (w := w) s (by omega))
      have HA : Hid (∀ wx : World, Calls Try.prog 15 #[.slice (some ⟨wx.heap.size, 0, none⟩) 1 1] (wx.alloc (.cells #[.string s] 9)) fun r w' => ∃ (t : List Nat) (A' : Option Addr) (c' : Nat), r = .returned (.slice A' t.length c') ∧ Rise (gramsL s.data.toList) t ∧ Rd w' (wx.heap.size + 1) w'.heap.size A' c' (iv (ints t)) ∧ Below (wx.heap.size + 1) (wx.alloc (.cells #[.string s] 9)) w') := fun wx => alls_any s (by omega)
      have HH : Hid (∀ wx, Below w4.heap.size w4 wx → Calls Try.prog 16 #[.agg #[.int .i64 (m : Int), .slice A3 gs.length c3, .slice B3 rs.length d3], .int .i64 (n : Int)] wx fun r w' => r = .returned (.bool (hasF m gs rs n)) ∧ Below wx.heap.size wx w') := fun wx hb => ghas_any (HFf_w4.out.below hb (Nat.le_refl _)) hb.size HFIL.out n hn3
      have HH2 : Hid (∀ wx, Below w4.heap.size w4 wx → Calls Try.prog 17 #[.agg #[.int .i64 (m : Int), .slice A3 gs.length c3, .slice B3 rs.length d3], .int .i64 (n : Int)] wx fun r w' => r = .returned (.bool (hasF m gs rs n)) ∧ Below wx.heap.size wx w') := fun wx hb => hasg_any (HFf_w4.out.below hb (Nat.le_refl _)) hb.size (fun _ => HFIL.out.rows) (by omega) n hn3
      have HM : Hid (∀ wx, Below w4.heap.size w4 wx → Calls Try.prog 18 #[.agg #[.int .i64 (m : Int), .slice A3 gs.length c3, .slice B3 rs.length d3], .string s] wx fun r w' => r = .returned (.bool ((gramsL s.data.toList).all (hasF m gs rs))) ∧ Below wx.heap.size wx w') := fun wx hb => gmay_any (HFf_w4.out.below hb (Nat.le_refl _)) hb.size HFIL.out s (by omega)
      have HM2 : Hid (∀ wx, Below w4.heap.size w4 wx → Calls Try.prog 19 #[.agg #[.int .i64 (m : Int), .slice A3 gs.length c3, .slice B3 rs.length d3], .string s] wx fun r w' => r = .returned (.bool ((gramsL s.data.toList).all (hasF m gs rs))) ∧ Below wx.heap.size wx w') := fun wx hb => mayg_any (HFf_w4.out.below hb (Nat.le_refl _)) hb.size (fun _ => HFIL.out.rows) (by omega) s (by omega)
      generalize hasF m gs rs n = y1 at *
      generalize (gramsL s.data.toList).all (hasF m gs rs) = y2 at *
      have KD2 : Hid (Below w4.heap.size w4 (w4.alloc (.cells #[.string s] 9)).drew) := ((Below.refl _ _).alloc (Nat.le_refl _) _).drew
      have HL : Hid (Rd (w4.alloc (.cells #[.string s] 9)).drew 0 (w4.alloc (.cells #[.string s] 9)).drew.heap.size (some ⟨w4.heap.size, 0, none⟩) 1 (sv [s])) := (one_str w4 _ s).drew
      have HA2 : Hid (∀ (wx : World) (b : Nat), Rd wx 0 wx.heap.size (some ⟨b, 0, none⟩) 1 (sv [s]) → Calls Try.prog 15 #[.slice (some ⟨b, 0, none⟩) 1 1] wx fun r w' => ∃ (t : List Nat) (A' : Option Addr) (c' : Nat), r = .returned (.slice A' t.length c') ∧ Rise (gramsL s.data.toList) t ∧ Rd w' wx.heap.size w'.heap.size A' c' (iv (ints t)) ∧ Below wx.heap.size wx w') := fun wx b h => alls_at s (by omega) h
      have HCF : Hid (∀ wx, Below w4.heap.size w4 wx → wx.cell? ⟨w3.heap.size, 0, none⟩ = some (.int .i64 (m : Int)) ∧ wx.cell? ⟨w3.heap.size, 1, none⟩ = some (.slice A3 gs.length c3) ∧ wx.cell? ⟨w3.heap.size, 2, none⟩ = some (.slice B3 rs.length d3)) := fun wx hb => ⟨(hb.cell (p := ⟨w3.heap.size, 0, none⟩) HVf_w4.out.lt).trans (HVf_w4.out.cell 0), (hb.cell (p := ⟨w3.heap.size, 1, none⟩) HVf_w4.out.lt).trans (HVf_w4.out.cell 1), (hb.cell (p := ⟨w3.heap.size, 2, none⟩) HVf_w4.out.lt).trans (HVf_w4.out.cell 2)⟩
      have hS0 := HCF.out _ (Below.refl _ _)
      have hS1 := HCF.out _ ((Below.refl _ _).drew)
      have KD : Hid (Below w4.heap.size w4 w4.drew) := (Below.refl _ _).drew
      go_region_held3 (fun w' => w'.cell? ⟨w3.heap.size, 0, none⟩ = some (.int .i64 (m : Int)) ∧ w'.cell? ⟨w3.heap.size, 1, none⟩ = some (.slice A3 gs.length c3) ∧ w'.cell? ⟨w3.heap.size, 2, none⟩ = some (.slice B3 rs.length d3)) (first | assumption | go_keep) (first
        | (go_at_call 14; refine (HG.out _).mono ?_; rintro r wy ⟨t1, Ay, cy, rfl, hr1, ho1, hby⟩; have HR1 := Lib.hid hr1; (first | (have Ky0 : Below w4.heap.size w4 wy := (by with_reducible exact KD.out.trans (hby.mono KD.out.size)); have Ky := Lib.hid Ky0; clear Ky0; have HL2 : Hid True := trivial) | (have Ky0 : Below w4.heap.size w4 wy := (by with_reducible exact KD2.out.trans (hby.mono KD2.out.size)); have Ky := Lib.hid Ky0; clear Ky0; have HL2 : Hid (Rd wy 0 wy.heap.size (some ⟨w4.heap.size, 0, none⟩) 1 (sv [s])) := (HL.out.below hby (Nat.le_refl _)).wide (Nat.le_refl _) hby.size)); have HO1 := Lib.hid (own_rd ho1); have hSy := HCF.out _ Ky.out; clear hr1 ho1 hby)
        | (go_at_call 15; (first | (have hT : Hid True := (by with_reducible exact HL2); refine (HA.out wy).mono ?_; rintro r wz ⟨t2, Az, cz, rfl, hr2, hz2, hbz⟩; have hbz2 : Below wy.heap.size wy wz := ((Below.refl _ wy).alloc (Nat.le_refl _) _).trans (hbz.mono (Nat.le_succ _)); have HO2 := Lib.hid (hz2.wide (Nat.zero_le _) (Nat.le_refl _))) | (refine (HA2.out wy _ HL2.out).mono ?_; rintro r wz ⟨t2, Az, cz, rfl, hr2, hz2, hbz⟩; have hbz2 : Below wy.heap.size wy wz := hbz; have HO2 := Lib.hid (hz2.wide (Nat.zero_le _) (Nat.le_refl _)))); have ht : t2 = t1 := hr2.one HR1.out; subst ht; have HO3 := Lib.hid (HO1.out.below hbz2 (Nat.le_refl _)); have KZ : Hid (Below w4.heap.size w4 wz) := Ky.out.trans (hbz2.mono Ky.out.size); have hSz := HCF.out _ KZ.out; clear hr2 hz2 hbz hbz2)
        | (go_at_call 13; refine (ints_is (ints t2) (ints t2) true HO3.out HO2.out (ints_length _) (ints_length _) (decide_eq_true rfl)).mono ?_; rintro r wv ⟨rfl, qv, rfl⟩; have KV : Hid (Below w4.heap.size w4 (wz.drewN qv)) := below_drewN' KZ.out qv; have hSv := HCF.out _ KV.out)
        | (go_at_call 16; refine (HH.out _ KV.out).mono ?_; rintro r wu ⟨rfl, hbu⟩; have Ku : Hid (Below w4.heap.size w4 wu) := KV.out.trans (hbu.mono KV.out.size); have hSu := HCF.out _ Ku.out; clear hbu)
        | (go_at_call 17; refine (HH2.out _ Ku.out).mono ?_; rintro r wt ⟨rfl, hbt⟩; have Kt : Hid (Below w4.heap.size w4 wt) := Ku.out.trans (hbt.mono Ku.out.size); have hSt := HCF.out _ Kt.out; clear hbt)
        | (go_at_call 18; refine (HM.out _ Kt.out).mono ?_; rintro r ws ⟨rfl, hbs⟩; have Ks : Hid (Below w4.heap.size w4 ws) := Kt.out.trans (hbs.mono Kt.out.size); have hSs := HCF.out _ Ks.out; clear hbs)
        | (go_at_call 19; refine (HM2.out _ Ks.out).mono ?_; rintro r wr ⟨rfl, hbr⟩; have Kr : Hid (Below w4.heap.size w4 wr) := Ks.out.trans (hbr.mono Ks.out.size); have hSr := HCF.out _ Kr.out; clear hbr))
      all_goals
        go_wp2
        go_ret
        exact ⟨rfl, below_below HB_w4.out Kr.out S_w4⟩
    · have i10 : (500 : Int) < (s.size : Int) := by omega
      have d10 : decide ((500 : Int) < (s.size : Int)) = true := decide_eq_true i10
      go_enter Try.func4, Try.ntmps4
      go_wp2_with fail
      refine (awake15_any (w := _)).mono ?_
      rintro r w1 ⟨rfl, b_w1⟩
      have Hl_w1 := Lib.hid ((Hl_w.out.below b_w1 (Nat.le_refl _)).wide (Nat.zero_le _) b_w1.size)
      have HB_w1 := Lib.hid b_w1
      have S_w1 := HB_w1.out.size
      clear b_w1 Hl_w   
      go_wp2_with fail
      refine (fewg_is l true Hl_w1.out HFW.out HZ.out).mono ?_
      rintro r wq ⟨rfl, m_w2, rfl⟩
      obtain ⟨w2, hw_w2⟩ : ∃ q, w1.drewN m_w2 = q := ⟨_, rfl⟩
      have Hl_w2 : Hid (Rd w2 0 w2.heap.size A c (sv l)) := by unfold Hid; rw [← hw_w2]; exact Hl_w1.out.drewN m_w2
      have HB_w2 : Hid (Below w.heap.size w w2) := by unfold Hid; rw [← hw_w2]; exact below_drewN' HB_w1.out m_w2
      have S_w2 := HB_w2.out.size
      rw [hw_w2]
      clear hw_w2 Hl_w1 HB_w1
      go_wp2_with fail
      refine (awake15_any (w := _)).mono ?_
      rintro r w3 ⟨rfl, b_w3⟩
      have Hl_w3 := Lib.hid ((Hl_w2.out.below b_w3 (Nat.le_refl _)).wide (Nat.zero_le _) b_w3.size)
      have HB_w3 := Lib.hid (below_below HB_w2.out b_w3 S_w2)
      have S_w3 := HB_w3.out.size
      clear b_w3 Hl_w2 HB_w2   
      go_wp2_with fail
      go_ret
      exact ⟨rfl, HB_w3.out⟩
  · have HNF : Hid (decide (FewG l) = false) := decide_eq_false hf
    clear hf
    go_enter Try.func4, Try.ntmps4
    go_wp2_with fail
    refine (awake15_any (w := _)).mono ?_
    rintro r w1 ⟨rfl, b_w1⟩
    have Hl_w1 := Lib.hid ((Hl_w.out.below b_w1 (Nat.le_refl _)).wide (Nat.zero_le _) b_w1.size)
    have HB_w1 := Lib.hid b_w1
    have S_w1 := HB_w1.out.size
    clear b_w1 Hl_w   
    go_wp2_with fail
    refine (fewg_is l false Hl_w1.out HNF.out HZ.out).mono ?_
    rintro r wq ⟨rfl, m_w2, rfl⟩
    obtain ⟨w2, hw_w2⟩ : ∃ q, w1.drewN m_w2 = q := ⟨_, rfl⟩
    have Hl_w2 : Hid (Rd w2 0 w2.heap.size A c (sv l)) := by unfold Hid; rw [← hw_w2]; exact Hl_w1.out.drewN m_w2
    have HB_w2 : Hid (Below w.heap.size w w2) := by unfold Hid; rw [← hw_w2]; exact below_drewN' HB_w1.out m_w2
    have S_w2 := HB_w2.out.size
    rw [hw_w2]
    clear hw_w2 Hl_w1 HB_w1
    go_wp2_with fail
    refine (awake15_any (w := _)).mono ?_
    rintro r w3 ⟨rfl, b_w3⟩
    have Hl_w3 := Lib.hid ((Hl_w2.out.below b_w3 (Nat.le_refl _)).wide (Nat.zero_le _) b_w3.size)
    have HB_w3 := Lib.hid (below_below HB_w2.out b_w3 S_w2)
    have S_w3 := HB_w3.out.size
    clear b_w3 Hl_w2 HB_w2   
    go_wp2_with fail
    go_ret
    exact ⟨rfl, HB_w3.out⟩

set_option maxRecDepth 100000 in
theorem gramAsks_lifted (os : Os) (started : os.Started) (H : Type) (enc : TypeId × Value → H) :
    ReturnsInHanded {} Try.checked os 4 .any (Rows.gramAsksSpec.pre6 enc Try.prog Try.f4 Rows.gramAsksRow.domain false) (Rows.gramAsksSpec.post enc Try.prog Try.f4 false true false false) := by
  refine returnsInHanded_of_change_sized (C := Try.checked) own started (by kernel_rfl) Try.func4
    (ChangeSpec.witness6 (enc := enc) (C := Try.checked) false ⟨#[], #[.slice none 0 0, .int .u16 0, .string ByteArray.empty, .int .u32 0], []⟩ 8 (by kernel_rfl) (by kernel_rfl) (by kernel_rfl) (by kernel_rfl)) ?_
  intro W base args ds gs before hval0 hW hcnd hsz0 _
  have hsz : (DataW.weightsEach Try.prog (Try.f4.params.toList ++ Rows.gramAsksSpec.plain.varTypes Try.prog) (ds ++ gs)).all (· ≤ reachBytes) = true := hsz0
  have hval : ∀ (j : Nat) t v, Try.f4.params[j]? = some t → args[j]? = some v → Value.okWide Try.prog W .any base t v := hval0
  have hW' := hW
  obtain ⟨p, q, hA0, hV, rfl, hfz, hnd⟩ := hW
  have hA : DataW.TrodAll enc Try.prog W 0 (fun _ => true) true Try.f4.params.toList args.toList ds p := hA0
  have hA1 : DataW.TrodAll enc Try.prog W 0 (fun _ => true) true Try.f4.params.toList args.toList ds p := hA0
  rw [Try.params4] at hA hval hsz
  obtain ⟨v0, vs0, d0, ds0, p0, q0, hargs, rfl, rfl, h0, r0⟩ := trodAll_cons hA
  obtain ⟨v1, vs1, d1, ds1, p1, q1, rfl, rfl, rfl, h1, r1⟩ := trodAll_cons r0
  obtain ⟨v2, vs2, d2, ds2, p2, q2, rfl, rfl, rfl, h2, r2⟩ := trodAll_cons r1
  obtain ⟨v3, vs3, d3, ds3, p3, q3, rfl, rfl, rfl, h3, r3⟩ := trodAll_cons r2
  obtain ⟨rfl, rfl, rfl⟩ := trodAll_nil r3
  obtain rfl : args = #[v0, v1, v2, v3] := by cases args; simp_all
  obtain ⟨rfl, rfl⟩ := trodVars_none hV
  obtain ⟨A0, a0, c0, rfl, w0⟩ := open_strs_sized Try.underlying22 Try.underlying9 (by kernel_rfl) (by kernel_rfl) (hval 0 22 v0 rfl rfl) h0 (fun n hn => by have := List.all_eq_true.1 hsz n (DataW.weights_mem_each (j := 0) (t := 22) rfl rfl n hn); simpa using this)
  obtain ⟨a1, rfl, rfl, rfl, w1⟩ := open_int Try.underlying35 (hval 1 35 v1 rfl rfl) h1
  obtain ⟨b1, rfl, l1⟩ := u16_of_wf w1
  obtain ⟨a2, rfl, rfl, rfl, w2⟩ := open_string Try.underlying9 (hval 2 9 v2 rfl rfl) h2
  have z2 : a2.size ≤ 140737488351232 := by have := sized_string hsz (j := 2) (t := 9) rfl rfl; rw [Array.length_toList] at this; exact this
  obtain ⟨a3, rfl, rfl, rfl, w3⟩ := open_int Try.underlying36 (hval 3 36 v3 rfl rfl) h3
  obtain ⟨b3, rfl, l3⟩ := u32_of_wf w3
  clear hA0 hval0
  refine (gramAsks_walk (w := W) w0 b1 l1 a2 z2 b3 l3).mono fun e W' ⟨he, bel⟩ => ?_
  subst he
  exact ⟨_, rfl, _, _, _, [], _, [], hW', trodAll_mk1 (shut_bool Try.underlying4 _), trodAll_below laidOut bel _ _ _ _ (by kernel_rfl) hA1, rfl, bel.frame _, fun h => by cases h⟩

theorem gramAsks_over : Rows.gramAsksRow.holds Try.pinned (OpenSpec.ofChange Rows.gramAsksSpec) :=
  OpenClaim.holds_of_wide 4 Try.f4 rfl rfl rfl rfl rfl rfl rfl ⟨rfl, rfl, rfl, rfl, rfl⟩ rfl rfl rfl rfl rfl (by kernel_rfl) Try.func4 (by kernel_rfl)
    (of_decide_eq_true (by kernel_rfl)) (by unfold Func.isWrapper; first | (rw [if_pos (by decide +kernel)]; kernel_rfl) | (rw [if_neg (by decide +kernel)]; exact ⟨rfl, rfl⟩))
    (fun os started H enc _ => gramAsks_lifted os started H enc)

/-- The statement. -/
theorem gramAsks_proved : Rows.GramAsksSaid := gramAsks_over


end Go.Proofs.Ytepgkdmfoojppaa
