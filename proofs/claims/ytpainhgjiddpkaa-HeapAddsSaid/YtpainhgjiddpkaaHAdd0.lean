/-
  HeapAdds of a most below 0. (Printed by wip/tools/genhadd.py.)
-/
import Derived.Test.YtpainhgjiddpkaaHAddM
namespace Go.Proofs.Ytpainhgjiddpkaa
set_option linter.unusedSimpArgs false
set_option linter.unusedVariables false
open Go.RowKit

set_option maxRecDepth 20000 in
set_option maxHeartbeats 8000000 in
theorem heapAdds_neg {w : World} (l : List ByteArray) (A0 : Option Addr) (c0 : Nat) (h : Rd w 0 w.heap.size A0 c0 (sv l)) (hf : FewL l) (most : Int) (hm : most < 0) :
    Calls Try.prog 3 #[.slice A0 l.length c0, .int .i64 most] w fun e w' => e = .returned (.bool true) ∧ Below w.heap.size w w' := by
  obtain ⟨hz, _⟩ := zero_of_info Try.infoV
  have heq := fun w0 => run_eq16 w0 zero16 zero16 zero16_length zero16_length
  simp only [decide_eq_true_eq, decide_true] at heq
  have hguard := guard16
  have hbuild := build_zero
  have hll := h.len
  have hlc := h.cap
  rw [sv_length] at hll
  unfold maxLen at hlc
  have hfl := hf.1
  have hft := hf.2.1
  have HF := Lib.hid hf
  have HR := Lib.hid h
  have HEQ := Lib.hid heq
  have hdm : decide (most < 0) = true := by simp; omega
  clear h hf heq
  go_enter Try.func3, Try.ntmps3
  go_wp2_with fail
  refine (awake7_any _).mono ?_
  rintro r w1 ⟨rfl, hb1⟩
  have HB1 := Lib.hid hb1
  have hfw := few_any (w := w1) l (HR.out.below hb1 (Nat.le_refl _))
  rw [decide_eq_true HF.out] at hfw
  have HFW := Lib.hid hfw
  clear hb1 hfw
  go_wp2_with fail
  refine HFW.out.mono ?_
  rintro r w2 ⟨rfl, rfl⟩
  go_wp2_with fail
  refine (new_any (w := w1) most).mono ?_
  rintro r w2 ⟨rfl, hp2, hb2⟩
  rw [Int.max_eq_right (by omega)] at hp2
  have HP2 := Lib.hid hp2
  have HB2 := Lib.hid (below_below HB1.out hb2 HB1.out.size)
  have HS1 := Lib.hid HB1.out.size
  clear hp2 hb2 HFW
  generalize w1.heap.size = g at *
  unfold hp
  go_wp2_with fail
  go_loopw [6, 7, 8, 9] (fun x6 x7 x8 x9 wr => ∃ (k n : Nat) (bs : List UInt8) (es : List Nat) (M : Nat → Prop) (ss : List ByteArray) (A : Option Addr) (c : Nat) (vs : List (List UInt8)) (A2 : Option Addr) (c2 : Nat) (al : ByteArray),
    k ≤ l.length ∧ n ≤ k ∧ total ss ≤ total (l.take k) ∧ x9 = .int .i64 (k : Int) ∧ x8 = .string al ∧ x7 = .slice A n c ∧ x6 = .slice A2 n c2 ∧ al.data.toList = bs ∧
    Adds wr w2.heap.size g g 0 bs es M ss n A c vs A2 c2 ∧ Below w.heap.size w wr ∧ w2.heap.size ≤ wr.heap.size) (fun _ _ _ i _ => 300 - (intOf i).toNat)
  case atStart =>
    exact ⟨0, 0, [], [], _, [], none, 0, [], none, 0, ⟨#[]⟩, by omega, by omega, by simp [total], rfl, rfl, rfl, rfl, rfl,
      ⟨⟨HP2.out, rfl, World.ownsRow_nil _ _ _ _, rfl, rfl, All16.nil, fun j h1 => absurd h1 (by simp), rfl, Nat.le_refl _, fun i hi => by simp [Value.ownBlock] at hi⟩, World.ownsRow_nil _ _ _ _, fun i hi => by simp [Value.ownBlock] at hi, fun i hi => by simp [Value.ownBlock] at hi⟩, HB2.out, Nat.le_refl _⟩
  case round =>
    obtain ⟨k, n, bs, es, M, ss, A, c, vs, A2, c2, al, hk, hnk, htt, rfl, rfl, rfl, rfl, hal, hv, hbw, hsz⟩ := hrel
    have hasz : al.size = bs.length := by rw [← hal, Array.length_toList]; rfl
    have htl := total_le l k
    have hbt : bs.length ≤ total ss := by rw [hv.v.bytes]; exact longs_le _
    have hen := hv.v.ends
    have HV := Lib.hid hv
    have HBW := Lib.hid hbw
    have HSZ := Lib.hid hsz
    have HAL := Lib.hid hal
    clear hv hbw hsz hal
    by_cases hlt : k < l.length
    · obtain ⟨b, off, rfl, _, _, hc⟩ := HR.out.str hlt
      have HTK := Lib.hid (total_take hlt)
      have h5k : l[k].size ≤ 5000 := HF.out.2.2 _ (List.getElem_mem hlt)
      have hbk : off + k = off + k := rfl
      have HC : Hid (∀ W, Below w.heap.size w W → W.cell? ⟨b, off + k, none⟩ = some (.string l[k])) := fun W hW => (hW.cell (p := ⟨b, off + k, none⟩) (World.block_lt_of_cell? w _ hc)).trans hc
      clear hc hbk
      generalize l[k] = s at *
      have hcr := HC.out _ HBW.out
      rcases Nat.lt_or_ge 4096 s.size with h4 | h4
      · have had := add_great HV.out.v.hp s h4 (by omega)
        have HAD := Lib.hid had
        have hbb : bs.length ≤ 300000 := by omega
        clear had htl hbt hen
        unfold hp at HAD
        go_wp2_with fail
        refine HAD.out.mono ?_
        rintro r w4 ⟨rfl, hb4⟩
        have HA4 := Lib.hid (HV.out.below hb4)
        have HB4 := Lib.hid (HBW.out.trans (hb4.mono HBW.out.size))
        have HS4 := Lib.hid (Nat.le_trans HSZ.out hb4.size)
        have HQ := Lib.hid (Blk.new w4 28 (vb zero16))
        have hv5 := var_blk w4 zero16
        have hb5 := var_below (Below.refl w4.heap.size w4) (Nat.le_refl _) zero16
        have HV5 := Lib.hid hv5
        have HA5 := Lib.hid (HA4.out.below hb5)
        have HB5 := Lib.hid (HB4.out.trans (hb5.mono HB4.out.size))
        have HS5 := Lib.hid (Nat.le_trans HS4.out hb5.size)
        clear hv5 hb5 hb4
        go_wp2_with (refine wpList_storeV HQ.out zero16_length zero16_length rfl _ _ rfl rfl rfl ?_; refine held ?_)
        refine ⟨?_⟩
        generalize (w4.alloc (.cells (vb zero16) 28)).setRow w4.heap.size (vb zero16) = w5 at *
        generalize w4.heap.size = q at *
        have hc5 := HC.out _ HB5.out
        have heq := HEQ.out
        go_wp2_with (refine wpList_loadG HV5.out zero16_length (by first | rfl | (go_simp; done) | (go_simp; omega)) _ rfl rfl ?_)
        go_roundw
        case rel => exact ⟨k + 1, n, bs, es, M, ss, A, c, vs, A2, c2, al, by omega, by omega, by rw [HTK.out]; omega, by go_num, rfl, rfl, rfl, HAL.out, HA5.out, HB5.out, HS5.out⟩
        case measure => simp [intOf]; omega
      · rcases Nat.lt_or_ge 12 s.size with h12 | h12
        · by_cases hroom : 0 - (bs.length : Int) < (s.size : Int)
          · have had := add_full HV.out.v.hp s h12 h4 (by omega) hroom (by omega)
            have HAD := Lib.hid had
            have hbb : bs.length ≤ 300000 := by omega
            clear had htl hbt hen
            unfold hp at HAD
            go_wp2_with fail
            refine HAD.out.mono ?_
            rintro r w4 ⟨rfl, hb4⟩
            have HA4 := Lib.hid (HV.out.below hb4)
            have HB4 := Lib.hid (HBW.out.trans (hb4.mono HBW.out.size))
            have HS4 := Lib.hid (Nat.le_trans HSZ.out hb4.size)
            have HQ := Lib.hid (Blk.new w4 28 (vb zero16))
            have hv5 := var_blk w4 zero16
            have hb5 := var_below (Below.refl w4.heap.size w4) (Nat.le_refl _) zero16
            have HV5 := Lib.hid hv5
            have HA5 := Lib.hid (HA4.out.below hb5)
            have HB5 := Lib.hid (HB4.out.trans (hb5.mono HB4.out.size))
            have HS5 := Lib.hid (Nat.le_trans HS4.out hb5.size)
            clear hv5 hb5 hb4
            go_wp2_with (refine wpList_storeV HQ.out zero16_length zero16_length rfl _ _ rfl rfl rfl ?_; refine held ?_)
            refine ⟨?_⟩
            generalize (w4.alloc (.cells (vb zero16) 28)).setRow w4.heap.size (vb zero16) = w5 at *
            generalize w4.heap.size = q at *
            have hc5 := HC.out _ HB5.out
            have heq := HEQ.out
            go_wp2_with (refine wpList_loadG HV5.out zero16_length (by first | rfl | (go_simp; done) | (go_simp; omega)) _ rfl rfl ?_)
            go_roundw
            case rel => exact ⟨k + 1, n, bs, es, M, ss, A, c, vs, A2, c2, al, by omega, by omega, by rw [HTK.out]; omega, by go_num, rfl, rfl, rfl, HAL.out, HA5.out, HB5.out, HS5.out⟩
            case measure => simp [intOf]; omega
          · exfalso; omega
        · have had := add_ok HV.out.v.hp HV.out.v.last s (by omega) (by omega) (.inl h12) (by omega) (by omega)
          have HAD := Lib.hid had
          clear had htl
          unfold hp at HAD
          go_wp2_with fail
          refine HAD.out.mono ?_
          rintro r w4 ⟨v, bs', es', M', rfl, had⟩
          have HA4 := Lib.hid had
          have HB4 := Lib.hid (HBW.out.trans (had.out.below HBW.out.size (fun i hi => by have := (HV.out.v.hp.mine i hi).1; have := HS1.out; omega)))
          have HS4 := Lib.hid had.out.size
          have HQ := Lib.hid (Blk.new w4 28 (vb zero16))
          have hv5 := var_blk w4 v
          have hb5 := var_below (Below.refl w4.heap.size w4) (Nat.le_refl _) v
          have HV5 := Lib.hid hv5
          have HB5 := Lib.hid hb5
          have HW5 := Lib.hid (HB4.out.trans (hb5.mono HB4.out.size))
          have HVL := Lib.hid had.len
          clear had hv5 hb5
          go_wp2_with (refine wpList_storeV HQ.out zero16_length HVL.out rfl _ _ rfl rfl rfl ?_; refine held ?_)
          refine ⟨?_⟩
          generalize (w4.alloc (.cells (vb zero16) 28)).setRow w4.heap.size (vb v) = w5 at *
          generalize hwq : w4.heap.size = q at *
          have HWQ := Lib.hid hwq
          clear hwq
          have hc5 := HC.out _ HW5.out
          have hb6 : Below q w4 (w5.alloc (.cells #[.string s] 9)) := HB5.out.alloc (by rw [← HWQ.out]; exact HB5.out.size) _
          have hq4 : w4.heap.size = q := HWQ.out
          have hs5 : q ≤ w5.heap.size := by rw [← HWQ.out]; exact HB5.out.size
          have hsq : wr.heap.size ≤ q := HS4.out
          obtain ⟨A7, c7, w7, hrun1, ho7, hg7, hk7⟩ := append_one (w5.alloc (.cells #[.string s] 9)) w2.heap.size A2 n c2 ss HV.out.v.cnt s w5.heap.size (by rw [World.cell?_alloc_at _ _ _ _ rfl]; rfl) (HV.out.rowIn HA4.out (by rw [hq4]; exact hb6)) (by omega) (by have := HSZ.out; simp; omega)
          have hs7 := hg7.size
          have hs6 : (w5.alloc (.cells #[.string s] 9)).heap.size = w5.heap.size + 1 := by simp
          have hv7 : Blk w7 q 28 (vb v) := (HV5.out.alloc _).grown hg7 (fun e => by have := (own_lt HV.out.row e.symm).2; omega)
          have hb8 := (Below.refl w7.heap.size w7).alloc (Nat.le_refl _) (.cells (vb v) 28)
          obtain ⟨A9, c9, w9, hrun2, ho9, hg9, hk9⟩ := append_view (w7.alloc (.cells (vb v) 28)) w2.heap.size A n c vs HV.out.v.len v HVL.out w7.heap.size (rangeV (Blk.new w7 28 (vb v))) (HV.out.rowAt HA4.out (by rw [hq4]; exact hb6) hg7 hb8) (by omega) (by have := HSZ.out; simp; omega)
          obtain ⟨hv9, ho⟩ := HV.out.next HA4.out (by rw [hq4]; exact hb6) ho7 hg7 hk7 hb8 ho9 hg9 hk9
          have hbw9 : Below w.heap.size w w9 := HBW.out.trans (ho.below HBW.out.size (fun i hi => by
            rcases hi with h | h | h
            · have := (HV.out.v.hp.mine i h).1; have := HS1.out; omega
            · have := (own_lt HV.out.v.own h).1; have := HB2.out.size; omega
            · have := (own_lt HV.out.row h).1; have := HB2.out.size; omega))
          have hby := HA4.out.bytes
          rw [if_pos (by rw [Array.length_toList]; exact h12), List.append_nil] at hby
          have HBY := Lib.hid hby
          have HV7 := Lib.hid hv7
          have HV9 := Lib.hid hv9
          have HBW9 := Lib.hid hbw9
          have HSZ9 := Lib.hid (Nat.le_trans HSZ.out ho.size)
          have HTS : Hid (total (ss ++ [s]) = total ss + s.size) := by unfold Hid; rw [total_append]; simp [total]
          clear hb6 hq4 hs5 hsq ho7 hg7 hk7 hs7 hs6 hv7 hb8 ho9 hg9 hk9 hv9 ho hbw9 hby
          go_wp2_with (at_builtin; refine wpList_append_run rfl _ _ _ _ rfl rfl rfl hrun1 ?_; refine held ?_)
          refine ⟨?_⟩
          clear hrun1
          go_wp2_with (first | (refine wpList_loadV HV7.out HVL.out rfl _ rfl rfl ?_) | (refine wpList_buildView v HVL.out rfl _ rfl rfl ?_) | (at_builtin; refine wpList_append_run rfl _ _ _ _ rfl rfl rfl hrun2 ?_))
          go_roundw
          case rel => exact ⟨k + 1, n + 1, bs', es', M', ss ++ [s], A9, c9, _, A7, c7, al, by omega, by omega, by rw [HTS.out, HTK.out]; omega, by go_num, rfl, rfl, rfl, by rw [HBY.out, HAL.out], HV9.out, HBW9.out, HSZ9.out⟩
          case measure => simp [intOf]; omega
    · obtain ⟨w8, hw8⟩ : ∃ w8, w8 = wr := ⟨_, rfl⟩
      subst hw8
      have hcnt := HV.out.v.cnt
      have hvln := HV.out.v.len
      have hn3 : n ≤ 300 := by omega
      go_wp2_with fail
      go_loopw [14] (fun i wr => ∃ j : Nat, j ≤ n ∧ i = .int .i64 (j : Int) ∧ Below w8.heap.size w8 wr) (fun i _ => 300 - (intOf i).toNat)
      case atStart => exact ⟨0, by omega, rfl, Below.refl _ _⟩
      case round =>
        obtain ⟨j, hj, rfl, hb2⟩ := hrel
        have HO2 := Lib.hid hb2
        clear hb2
        by_cases hlj : j < n
        · have hx1 : j < vs.length := by omega
          have hy1 : j < ss.length := by omega
          have hf1 := HV.out.v.found j hx1 hy1
          have hl1 : vs[j].length = 16 := HV.out.v.all _ (List.getElem_mem hx1)
          obtain ⟨gv, rfl, hgv1, hgv2, hr1⟩ := own_view HV.out.v.own HV.out.v.all hx1
          obtain ⟨gi, rfl, hgi1, hgi2⟩ := own_spot HV.out.row (by omega)
          have hc1 : w8.cell? ⟨gi, j, none⟩ = some (.string ss[j]) := by
            have := HV.out.row.cellAt j (by rw [Nat.mul_one]; exact hlj)
            rw [this]
            exact sv_get ss j hy1
          generalize vs[j] = v1 at *
          generalize ss[j] = s1 at *
          have HR1 : Hid (∀ W, Below w8.heap.size w8 W → W.rangeAt gv (j * 16) (bv v1)) := fun W hW x u hu => (hW.cell (p := ⟨gv, j * 16 + x, none⟩) hgv2).trans (hr1 x u hu)
          have HC1 : Hid (∀ W, Below w8.heap.size w8 W → W.cell? ⟨gi, j, none⟩ = some (.string s1)) := fun W hW => (hW.cell (p := ⟨gi, j, none⟩) hgi2).trans hc1
          have hget := get_any (HV.out.v.hp.below HO2.out (Nat.le_refl _)) v1 hl1
          rw [gotL_some hf1, hf1, str_eta] at hget
          change Calls _ _ _ _ (fun r w' => r = .returned (.tuple #[.string s1, .bool true]) ∧ Below wr.heap.size wr w') at hget
          have hvl := fun W => vlen_any (w := W) v1 hl1
          rw [(findL_says hl1 hf1).2.1, show s1.data.toList.length = s1.size from by rw [Array.length_toList]; rfl] at hvl
          have HGET := Lib.hid hget
          have HVLN := Lib.hid hvl
          have hrw := HR1.out _ HO2.out
          clear hget hvl hr1 hc1 hf1 hgv1 hgv2 hgi1 hgi2 hx1 hy1 hcnt hvln
          unfold hp at HGET
          go_wp2_with (refine wpList_loadM hrw hl1 (by first | rfl | (go_simp; done) | (go_simp; omega)) _ rfl rfl ?_)
          refine HGET.out.mono ?_
          rintro r u1 ⟨rfl, hb0⟩
          have HO3 := Lib.hid (HO2.out.trans (hb0.mono HO2.out.size))
          have hr3 := HR1.out _ HO3.out
          have hc3 := HC1.out _ HO3.out
          clear hb0 hrw
          go_wp2_with (refine wpList_loadM hr3 hl1 (by first | rfl | (go_simp; done) | (go_simp; omega)) _ rfl rfl ?_)
          refine (HVLN.out _).mono ?_
          rintro r u2 ⟨rfl, hb0⟩
          have HO4 := Lib.hid (HO3.out.trans (hb0.mono HO3.out.size))
          clear hb0 hr3 hc3
          go_wp2_with fail
          go_roundw
          case rel => exact ⟨j + 1, by omega, by go_num, HO4.out⟩
          case measure => simp [intOf]; omega
        · have hpf := HV.out.v.hp.below HO2.out (Nat.le_refl _)
          have hsf := size_any hpf
          rw [← hasz] at hsf
          have hbf := bytes_any hpf
          have HSF := Lib.hid hsf
          have HBF := Lib.hid hbf
          clear hpf hsf hbf
          unfold hp at HSF HBF
          go_wp2_with fail
          refine HSF.out.mono ?_
          rintro r u1 ⟨rfl, rfl⟩
          go_wp2_with fail
          refine HBF.out.mono ?_
          rintro r u2 ⟨A8, c8, rfl, ho8, hb8⟩
          have hst8 := run_string_rd (P := Try.prog) u2 36 9 5 Try.underlying36 Try.underlying5 Try.underlying9 _ _ _ _ bs (Rd.of_own ho8)
          have hae : (⟨bs.toArray⟩ : ByteArray) = al := by rw [← HAL.out, str_eta]
          rw [hae] at hst8
          have HE := Lib.hid (HBW.out.trans ((HO2.out.trans (hb8.mono HO2.out.size)).mono HBW.out.size))
          clear ho8 hb8 hae
          go_wp2_with fail
          go_ret
          exact ⟨rfl, HE.out⟩

end Go.Proofs.Ytpainhgjiddpkaa
