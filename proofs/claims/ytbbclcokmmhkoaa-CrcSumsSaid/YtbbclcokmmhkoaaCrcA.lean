/-
  The project's table of layer 2, and its sum of parts.
-/
import Derived.Test.YtbbclcokmmhkoaaCrcM
import Derived.Test.YtbbclcokmmhkoaaRefB
import Derived.Test.YtbbclcokmmhkoaaByt
import Derived.Laws.BitsAll
import Derived.Deep.WholeRow
namespace Go.Proofs.Ytbbclcokmmhkoaa
set_option linter.unusedSimpArgs false
set_option linter.unusedVariables false
open Go.RowKit

def zero256 : Array Value := ⟨List.replicate 256 (.int .u32 0)⟩
theorem Try.infoTab : (Try.prog.info? 37).map (fun i => (i.zero, i.size)) = some (some (.agg zero256), 256) := by kernel_rfl

/-- the word of a byte -/
def tabV (j : Nat) : Value := .int .u32 (bn (cstep8 (BitVec.ofNat 32 j)))
/-- the table's cells, the first k of them filled -/
def tabTo (k : Nat) : Array Value := Array.ofFn (n := 256) fun i => if i.val < k then tabV i.val else .int .u32 0
theorem tabTo_size (k : Nat) : (tabTo k).size = 256 := Array.size_ofFn
theorem zero256_rep : zero256 = Array.replicate 256 (.int .u32 0) := by kernel_rfl
theorem tabTo_zero : tabTo 0 = zero256 := by
  rw [zero256_rep]
  apply Array.ext
  · rw [tabTo_size, Array.size_replicate]
  · intro i h1 h2
    rw [Array.getElem_replicate]
    simp only [tabTo, Array.getElem_ofFn]
    rw [if_neg (by omega)]
theorem tabTo_get {k j : Nat} (hj : j < 256) : (tabTo k)[j]? = some (if j < k then tabV j else .int .u32 0) := by
  unfold tabTo
  rw [Array.getElem?_ofFn, dif_pos hj]
theorem tabTo_put {k : Nat} (hk : k < 256) : (tabTo k).setIfInBounds k (tabV k) = tabTo (k + 1) := by
  apply Array.ext
  · rw [Array.size_setIfInBounds, tabTo_size, tabTo_size]
  · intro i h1 h2
    rw [tabTo_size] at h2
    rw [Array.getElem_setIfInBounds (by rw [tabTo_size]; exact h2)]
    simp only [tabTo, Array.getElem_ofFn]
    by_cases e : k = i
    · subst e; simp
    · by_cases h : i < k
      · simp [e, h, show i < k + 1 from by omega]
      · simp [e, h, show ¬ i < k + 1 from by omega]
theorem tabTo_one (k : Nat) : (tabTo k).all (·.oneCell') = true := by
  rw [Array.all_eq_true]
  intro i hi
  simp only [tabTo, Array.getElem_ofFn]
  split <;> rfl
def tabAll : Array Value := tabTo 256
theorem tabAll_get {j : Nat} (hj : j < 256) : tabAll[j]? = some (.int .u32 (bn (cstep8 (BitVec.ofNat 32 j)))) := by
  unfold tabAll
  rw [tabTo_get hj, if_pos hj]
  rfl

theorem and_one (s : BitVec 32) : bits .and .u32 (bn s) 1 = bn s % 2 := by
  have hs := s.isLt
  unfold bn
  rw [show (1 : Int) = ((1 : Nat) : Int) from rfl, u32_and_nat _ _ hs (by omega), Nat.and_one_is_mod]
  omega
theorem xor_none {s : BitVec 32} (h : bn s % 2 = 0) : bits .xor .u32 (bn s / 2) 0 = bn (cstep s) := by
  have hs := s.isLt
  have e := bn_even h
  rw [← e]
  unfold bn
  rw [show ((s.toNat : Int) / 2) = ((s.toNat / 2 : Nat) : Int) from by omega, show (0 : Int) = ((0 : Nat) : Int) from rfl, u32_xor_nat _ _ (by omega) (by omega), Nat.xor_zero]

theorem setRow_blk {w : World} {g : Nat} {t : TypeId} {cs : Array Value} (h : Blk w g t cs) (cs' : Array Value) : Blk (w.setRow g cs') g t cs' := setRow_heap w g cs cs' t _ h
theorem setRow_gb {a w : World} {g : Nat} (h : a.grownBy w (some g)) (cs : Array Value) : a.grownBy (w.setRow g cs) (some g) :=
  ⟨h.os, h.tape, h.output, by simpa using h.size, fun i hi hne => (setRow_other w g i cs (fun e => hne (by rw [e]))).trans (h.block i hi hne)⟩

set_option maxRecDepth 20000 in
set_option maxHeartbeats 400000 in
theorem table_any {w : World} : Calls Try.prog 15 #[] w fun r w' => r = .returned (.agg tabAll) ∧ Below w.heap.size w w' := by
  obtain ⟨hz, hsz⟩ := zero_of_info Try.infoTab
  have HSZ := Lib.hid hsz
  clear hsz
  go_enter Try.func15, Try.ntmps15
  go_wp2_with fail
  rw [← tabTo_zero]
  go_loopw [5] (fun i wr => ∃ k : Nat, k ≤ 256 ∧ i = .int .i64 (k : Int) ∧ Blk wr (w.heap.size + 1) 37 (tabTo k) ∧ Blk wr w.heap.size 37 (tabTo 0) ∧ Below w.heap.size w wr) (fun i _ => 256 - (intOf i).toNat)
  case atStart => 
    refine ⟨0, by omega, rfl, ?_, ?_, ((Below.refl _ _).alloc (Nat.le_refl _) _).alloc (by simp) _⟩
    · have := Blk.new (w.alloc (.cells (tabTo 0) 37)) 37 (tabTo 0)
      simpa using this
    · exact (Blk.new w 37 (tabTo 0)).alloc _
  case round =>
    obtain ⟨k, hk, rfl, hb1, hb0, hbel⟩ := hrel
    have HB1 := Lib.hid hb1
    have HB0 := Lib.hid hb0
    have HBL := Lib.hid hbel
    by_cases hlt : k < 256
    · have hcell : wr.cell? ⟨w.heap.size + 1, k, none⟩ = some (.int .u32 0) := by
        rw [hb1.cell, tabTo_get hlt, if_neg (by omega)]
      have hfr := hb1.frozen k
      have hkn : Hid ((k : Int) = bn (BitVec.ofNat 32 k)) := by
        unfold Hid bn
        rw [BitVec.toNat_ofNat]
        omega
      clear hb1 hb0 hbel
      go_wp2_with fail
      go_loop [10, 3] (fun j q => ∃ n : Nat, n ≤ 8 ∧ j = .int .i64 (n : Int) ∧ q = .int .u32 (bn (cstepN n (BitVec.ofNat 32 k)))) (fun j _ => 8 - (intOf j).toNat)
      case atStart => exact ⟨0, by omega, rfl, by rw [hkn.out]; rfl⟩
      case round =>
        obtain ⟨n, hn, rfl, rfl⟩ := hrel
        by_cases hlt8 : n < 8
        · have hq := bn_bd (cstepN n (BitVec.ofNat 32 k))
          have hand := and_one (cstepN n (BitVec.ofNat 32 k))
          by_cases hodd : bn (cstepN n (BitVec.ofNat 32 k)) % 2 = 1
          · have hst := xor_cdiv hodd
            rw [cstepN_succ] at hst
            rw [hodd] at hand
            clear hodd
            generalize cstepN n (BitVec.ofNat 32 k) = q at *
            generalize hq' : bn (cstepN (n + 1) (BitVec.ofNat 32 k)) = q' at hst
            have HQ := Lib.hid hq'
            clear hq'
            go_wp2
            go_round
            case rel => exact ⟨n + 1, by omega, by go_num, by rw [HQ.out]⟩
            case measure => simp [intOf]; omega
          · have hodd0 : bn (cstepN n (BitVec.ofNat 32 k)) % 2 = 0 := by omega
            have hst := xor_none hodd0
            rw [cstepN_succ] at hst
            rw [hodd0] at hand
            clear hodd hodd0
            generalize cstepN n (BitVec.ofNat 32 k) = q at *
            generalize hq' : bn (cstepN (n + 1) (BitVec.ofNat 32 k)) = q' at hst
            have HQ := Lib.hid hq'
            clear hq'
            go_wp2
            go_round
            case rel => exact ⟨n + 1, by omega, by go_num, by rw [HQ.out]⟩
            case measure => simp [intOf]; omega
        · obtain rfl : n = 8 := by omega
          go_wp2
          go_roundw
          case rel =>
            refine ⟨k + 1, by omega, by go_num, ?_, HB0.out.far (by simp) _, HBL.out.setCell (by simp) _⟩
            rw [← tabTo_put hlt]
            exact HB1.out.put k _
          case measure => simp [intOf]; omega
    · obtain rfl : k = 256 := by omega
      clear hb1 hb0 hbel
      go_wp2_with (first | (refine wpList_load_row rfl 37 _ rfl (w.heap.size + 1) rfl 37 (tabTo 256) (0, 0) _ HB1.out Try.underlying37 rfl (by rw [tabTo_size]; exact HSZ.out) ?_; refine held ?_))
      refine ⟨?_⟩
      go_wp2_with (refine wpList_store_row rfl 37 _ _ rfl w.heap.size (tabTo 256) rfl rfl 37 (tabTo 0) HB0.out (by rw [tabTo_size]; exact HSZ.out) (by rw [tabTo_size, tabTo_size]) (tabTo_one _) ?_)
      refine bodyPost_ret (v := .agg tabAll) ?_ rfl ⟨rfl, ?_⟩
      · exact results_cell_row rfl _ _ w.heap.size 37 (tabTo 256) (0, 0) _ rfl (setRow_blk HB0.out _) Try.underlying37 rfl (by rw [tabTo_size]; exact HSZ.out)
      · exact HBL.out.grown (row := some w.heap.size) (setRow_gb (gb_refl _ _) _) HBL.out.size (fun g hg => by injection hg with hg; omega)

/-- a part: a slice of bytes, and what it reads as -/
structure Part where
  A : Option Addr
  c : Nat
  bs : List UInt8
def Part.val (p : Part) : Value := .slice p.A p.bs.length p.c
def Part.rd (p : Part) (w : World) (hi : Nat) : Prop := Rd w 0 hi p.A p.c (bv p.bs)
def partsL (ps : List Part) : List UInt8 := ps.flatMap (·.bs)
theorem partsL_take (ps : List Part) {k : Nat} (hk : k < ps.length) : partsL (ps.take (k + 1)) = partsL (ps.take k) ++ ps[k].bs := by
  unfold partsL
  rw [List.take_succ_eq_append_getElem hk, List.flatMap_append]
  simp

theorem tab_index (s : BitVec 32) (x : UInt8) : bits .xor .u8 (bn s % 256) (x.toNat : Int) = (((s.toNat % 256) ^^^ x.toNat : Nat) : Int) := by
  have hx := UInt8.toNat_lt x
  unfold bn
  rw [show ((s.toNat : Int) % 256) = ((s.toNat % 256 : Nat) : Int) from by omega, u8_xor_nat _ _ (by omega) (by omega)]
theorem tab_lt (s : BitVec 32) (x : UInt8) : (s.toNat % 256) ^^^ x.toNat < 256 := by
  have hx := UInt8.toNat_lt x
  exact Nat.xor_lt_two_pow (n := 8) (by omega) (by omega)
theorem tab_next (s : BitVec 32) (x : UInt8) : bits .xor .u32 (bn (cstep8 (BitVec.ofNat 32 ((s.toNat % 256) ^^^ x.toNat)))) (bn s / 256) = bn (cupd s x) := by
  have hs := s.isLt
  rw [cupd_table]
  have h1 := (cstep8 (BitVec.ofNat 32 ((s.toNat % 256) ^^^ x.toNat))).isLt
  unfold bn
  rw [show ((s.toNat : Int) / 256) = ((s.toNat / 256 : Nat) : Int) from by omega, u32_xor_nat _ _ h1 (by omega), BitVec.toNat_xor, BitVec.toNat_ushiftRight, Nat.shiftRight_eq_div_pow]
theorem xor_end (s : BitVec 32) : bits .xor .u32 (bn s) 4294967295 = bn (s ^^^ call1) := by
  have hs := s.isLt
  unfold bn
  rw [show (4294967295 : Int) = ((4294967295 : Nat) : Int) from rfl, u32_xor_nat _ _ hs (by omega), BitVec.toNat_xor]
  rfl

set_option maxRecDepth 20000 in
set_option maxHeartbeats 400000 in
theorem of_any {w : World} (ps : List Part) {h' : Nat} {A : Option Addr} {c : Nat} (h : Rd w 0 h' A c (ps.map Part.val)) (hh : h' ≤ w.heap.size) (hp : ∀ p ∈ ps, p.rd w w.heap.size) :
    Calls Try.prog 9 #[.slice A ps.length c] w fun r w' => r = .returned (.int .u32 (bn (crcL (partsL ps)))) ∧ Below w.heap.size w w' := by
  obtain ⟨hz, hsz⟩ := zero_of_info Try.infoTab
  have HSZ := Lib.hid hsz
  clear hsz
  have hl := h.len
  have hc := h.cap
  rw [List.length_map] at hl
  unfold maxLen at hc
  have H := Lib.hid h
  have HP := Lib.hid hp
  clear h hp
  go_enter Try.func9, Try.ntmps9
  go_wp2_with fail
  refine table_any.mono ?_
  rintro r w1 ⟨rfl, hb1⟩
  have HB1 := Lib.hid hb1
  have s1 := hb1.size
  clear hb1
  go_wp2_with (refine wpList_store_row rfl 37 _ _ rfl w1.heap.size tabAll rfl rfl 37 zero256 (Blk.new w1 _ _) (by rw [show tabAll.size = 256 from tabTo_size _]; exact HSZ.out) (by rw [show tabAll.size = 256 from tabTo_size _]; rfl) (tabTo_one _) ?_; rw [World.setRow_alloc_new]; refine held ?_)
  refine ⟨?_⟩
  have HT := Lib.hid (Blk.new w1 37 tabAll)
  have HW := Lib.hid (HB1.out.alloc s1 (.cells tabAll 37))
  have HA := Lib.hid ((H.out.below HB1.out hh).alloc (Nat.le_trans hh s1) (.cells tabAll 37))
  have hpa : ∀ p ∈ ps, p.rd (w1.alloc (.cells tabAll 37)) w.heap.size := fun p hp => ((HP.out p hp).below HB1.out (Nat.le_refl _)).alloc s1 _
  have HPA := Lib.hid hpa
  clear hpa
  generalize w1.alloc (.cells tabAll 37) = w2 at *
  go_wp2_with fail
  go_loop [4, 12] (fun q i => ∃ k : Nat, k ≤ ps.length ∧ i = .int .i64 (k : Int) ∧ q = .int .u32 (bn (cfold call1 (partsL (ps.take k))))) (fun _ i => ps.length - (intOf i).toNat)
  case atStart => exact ⟨0, Nat.zero_le _, rfl, rfl⟩
  case round =>
    obtain ⟨k, hk, rfl, rfl⟩ := hrel
    by_cases hlt : k < ps.length
    · have hsn := Lib.hid (partsL_take ps hlt)
      have HR := Lib.hid (HPA.out ps[k] (List.getElem_mem hlt))
      obtain ⟨b, off, rfl, _, _, hcell⟩ := HA.out.get (k := k) (by rw [List.length_map]; exact hlt)
      rw [List.getElem_map] at hcell
      generalize ps[k] = p at *
      generalize partsL (ps.take k) = pre at *
      obtain ⟨A1, c1, bs⟩ := p
      unfold Part.rd at HR
      unfold Part.val at hcell
      dsimp only at hcell HR
      have hlb := HR.out.len
      have hcb := HR.out.cap
      rw [bv_length] at hlb
      unfold maxLen at hcb
      go_wp2_with fail
      clear hcell
      go_loop [18, 4] (fun i q => ∃ j : Nat, j ≤ bs.length ∧ i = .int .i64 (j : Int) ∧ q = .int .u32 (bn (cfold (cfold call1 pre) (bs.take j)))) (fun i _ => bs.length - (intOf i).toNat)
      case atStart => exact ⟨0, Nat.zero_le _, rfl, rfl⟩
      case round =>
        obtain ⟨j, hj, rfl, rfl⟩ := hrel
        by_cases hlj : j < bs.length
        · have hst : Hid (cfold (cfold call1 pre) (bs.take (j + 1)) = cupd (cfold (cfold call1 pre) (bs.take j)) bs[j]) := by
            unfold Hid
            rw [List.take_succ_eq_append_getElem hlj, cfold_snoc]
          obtain ⟨b2, off2, rfl, _, _, hcell⟩ := HR.out.byte hlj
          have hs := bn_bd (cfold (cfold call1 pre) (bs.take j))
          generalize cfold (cfold call1 pre) (bs.take j) = s at *
          generalize bs[j] = x at *
          have hx := UInt8.toNat_lt x
          have hti := tab_index s x
          have htl := tab_lt s x
          have htn := tab_next s x
          have htc : w2.cell? ⟨w1.heap.size, (s.toNat % 256) ^^^ x.toNat, none⟩ = some (.int .u32 (bn (cstep8 (BitVec.ofNat 32 ((s.toNat % 256) ^^^ x.toNat))))) := by
            rw [HT.out.cell, tabAll_get htl]
          have htb := bn_bd (cstep8 (BitVec.ofNat 32 ((s.toNat % 256) ^^^ x.toNat)))
          generalize bn (cstep8 (BitVec.ofNat 32 ((s.toNat % 256) ^^^ x.toNat))) = v at *
          generalize (s.toNat % 256) ^^^ x.toNat = d at *
          go_wp2
          go_round
          case rel => exact ⟨j + 1, by omega, by go_num, by rw [hst.out]⟩
          case measure => simp [intOf]; omega
        · obtain rfl : j = bs.length := by omega
          go_wp2
          go_round
          case rel => exact ⟨k + 1, by omega, by go_num, by rw [hsn.out, cfold_append, List.take_length]⟩
          case measure => simp [intOf]; omega
    · obtain rfl : k = ps.length := by omega
      have hs := bn_bd (cfold call1 (partsL (ps.take ps.length)))
      have hnot := xor_end (cfold call1 (partsL (ps.take ps.length)))
      have HE : Hid (cfold call1 (partsL (ps.take ps.length)) ^^^ call1 = crcL (partsL ps)) := by
        unfold Hid crcL
        rw [List.take_length]
      generalize cfold call1 (partsL (ps.take ps.length)) = s at *
      go_wp2
      go_ret
      exact ⟨ret_int' (by rw [HE.out]), HW.out⟩
end Go.Proofs.Ytbbclcokmmhkoaa
