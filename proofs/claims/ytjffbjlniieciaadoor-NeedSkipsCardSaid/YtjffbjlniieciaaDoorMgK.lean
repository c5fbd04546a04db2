/-
  Whether rows can be skipped, in plain; filters as they lie.
  The document's Skip of layer 16.
-/
import Derived.Test.YtjffbjlniieciaaDoorNdF
import Derived.Test.YtjffbjlniieciaaDoorMgG
import Derived.Test.YtjffbjlniieciaaDoorRfLd
import Derived.Deep.RegionHeld3
namespace Go.Proofs.YtjffbjlniieciaaDoor
set_option linter.unusedSimpArgs false
set_option linter.unusedVariables false
open Go.RowKit

theorem runA_le : ∀ (p : List Nat) (acc : List UInt8), ∀ r ∈ runA acc p, r.length ≤ acc.length + p.length
  | [], acc, r, h => by
    rw [runA] at h
    split at h
    · cases h
    · rw [List.mem_singleton.1 h]; simp
  | c :: p, acc, r, h => by
    rw [runA] at h
    rw [List.length_cons]
    split at h
    · have := runA_le p _ r h
      rw [List.length_append, List.length_singleton] at this
      omega
    · rcases List.mem_append.1 h with h | h
      · split at h
        · cases h
        · rw [List.mem_singleton.1 h]; omega
      · have := runA_le p _ r h
        rw [List.length_nil] at this
        omega
theorem runsL_le {p : List Nat} {r : List UInt8} (h : r ∈ runsL p) : r.length ≤ p.length := by
  have := runA_le p [] r h
  rw [List.length_nil] at this
  omega
theorem runA_few : ∀ (p : List Nat) (acc : List UInt8), (runA acc p).length ≤ p.length + 1
  | [], acc => by rw [runA]; split <;> simp
  | c :: p, acc => by
    rw [runA, List.length_cons]
    split
    · have := runA_few p (acc ++ [UInt8.ofNat c])
      omega
    · have := runA_few p []
      rw [List.length_append]
      split
      · rw [List.length_nil]; omega
      · rw [List.length_singleton]; omega

/-- a filter -/
structure Fl where
  b : Nat
  gs : List Nat
  rs : List Bool
structure FlOk (f : Fl) : Prop where
  rows : 0 < f.b → f.rs.length = f.b
  few : f.b ≤ 70000
/-- may it have a string? -/
def mayP (f : Fl) (s : ByteArray) : Bool := (gramsL s.data.toList).all (hasF f.b f.gs f.rs)
/-- filters lie at A -/
structure Fls (w : World) (lo hi : Nat) (A : Option Addr) (c : Nat) (fs : List Fl) (gA : Nat → Option Addr) (gc : Nat → Nat) (rA : Nat → Option Addr) (rc : Nat → Nat) : Prop where
  els : Els w lo hi A c 3 fs.length (fun j i => (fs[j]?).bind fun f => [Value.int .i64 (f.b : Int), .slice (gA j) f.gs.length (gc j), .slice (rA j) f.rs.length (rc j)][i]?)
  grams : ∀ j (hj : j < fs.length), Rd w lo hi (gA j) (gc j) (iv (ints fs[j].gs))
  rows : ∀ j (hj : j < fs.length), Rd w lo hi (rA j) (rc j) (lv fs[j].rs)
theorem Fls.below {w w' : World} {lo hi B c : Nat} {A : Option Addr} {fs : List Fl} {gA : Nat → Option Addr} {gc : Nat → Nat} {rA : Nat → Option Addr} {rc : Nat → Nat} (h : Fls w lo hi A c fs gA gc rA rc) (hb : Below B w w') (hB : hi ≤ B) : Fls w' lo hi A c fs gA gc rA rc :=
  ⟨h.els.below hb hB, fun j hj => (h.grams j hj).below hb hB, fun j hj => (h.rows j hj).below hb hB⟩
theorem Fls.len {w : World} {lo hi c : Nat} {A : Option Addr} {fs : List Fl} {gA : Nat → Option Addr} {gc : Nat → Nat} {rA : Nat → Option Addr} {rc : Nat → Nat} (h : Fls w lo hi A c fs gA gc rA rc) : fs.length ≤ c ∧ c ≤ 9223372036854775807 := ⟨h.els.len, by have := h.els.cap; simpa [maxLen] using this⟩
theorem Fls.get {w : World} {lo hi c : Nat} {A : Option Addr} {fs : List Fl} {gA : Nat → Option Addr} {gc : Nat → Nat} {rA : Nat → Option Addr} {rc : Nat → Nat} (h : Fls w lo hi A c fs gA gc rA rc) {j : Nat} (hj : j < fs.length) :
    ∃ b off, A = some ⟨b, off, none⟩ ∧ lo ≤ b ∧ b < hi ∧ w.cell? ⟨b, off + j * 3, none⟩ = some (.int .i64 (fs[j].b : Int)) ∧ w.cell? ⟨b, off + j * 3 + 1, none⟩ = some (.slice (gA j) fs[j].gs.length (gc j)) ∧
      w.cell? ⟨b, off + j * 3 + 2, none⟩ = some (.slice (rA j) fs[j].rs.length (rc j)) ∧ Flt w lo hi (.agg #[.int .i64 (fs[j].b : Int), .slice (gA j) fs[j].gs.length (gc j), .slice (rA j) fs[j].rs.length (rc j)]) fs[j].b fs[j].gs fs[j].rs := by
  obtain ⟨b, off, h1, h2, h3, h4⟩ := h.els.lies (by omega)
  have h5 := h4 j hj 0 (by omega)
  have h6 := h4 j hj 1 (by omega)
  have h7 := h4 j hj 2 (by omega)
  rw [List.getElem?_eq_getElem hj] at h5 h6 h7
  exact ⟨b, off, h1, h2, h3, h5, h6, h7, _, _, _, _, rfl, h.grams j hj, h.rows j hj⟩

/-- can some rows be skipped, by their columns' filters? -/
def leafK (kd co ec : Int) (s : ByteArray) (f : Fl) : Bool :=
  if kd = 1 ∧ co = 0 ∨ 7 ≤ kd ∧ kd ≤ 9 then !mayP f s else if kd = 10 then (strsL (runsL ((parseF ec s.data.toList).getD []))).any (fun r => !mayP f r) else false
def headK (kd : Int) (n len : Nat) : Bool := decide (kd = 12 ∧ 0 < n ∨ kd = 13 ∧ n = len)
def skipP (p : Pr) (fs : List Fl) : Bool :=
  if 12 ≤ p.kind then headK p.kind ((p.kids.attach.map fun q => skipP q.1 fs).count true) p.kids.length
  else leafK p.kind p.coll p.esc p.s (fs[p.col.toNat]?.getD ⟨0, [], []⟩)
termination_by SizeOf.sizeOf p
decreasing_by all_goals exact Pr.kid_lt q.2
theorem skipP_eq (p : Pr) (fs : List Fl) : skipP p fs =
    if 12 ≤ p.kind then headK p.kind ((p.kids.map fun q => skipP q fs).count true) p.kids.length
    else leafK p.kind p.coll p.esc p.s (fs[p.col.toNat]?.getD ⟨0, [], []⟩) := by
  rw [skipP]
  have h : (p.kids.attach.map fun q => skipP q.1 fs) = p.kids.map fun q => skipP q fs := by simp
  rw [h]
end Go.Proofs.YtjffbjlniieciaaDoor
namespace Go.Proofs.YtjffbjlniieciaaDoor
set_option linter.unusedSimpArgs false
set_option linter.unusedVariables false
open Go.RowKit

theorem Rd.str_get {w : World} {lo hi c : Nat} {A : Option Addr} {l : List ByteArray} (h : Rd w lo hi A c (sv l)) {k : Nat} (hk : k < l.length) : ∃ b off, A = some ⟨b, off, none⟩ ∧ lo ≤ b ∧ b < hi ∧ w.cell? ⟨b, off + k, none⟩ = some (.string l[k]) := h.str hk

set_option maxRecDepth 20000 in
set_option maxHeartbeats 16000000 in
theorem skipp_any : ∀ (p : Pr) {w : World} {lo hi flo fhi : Nat} {A fA : Option Addr} {c fc : Nat} {gA rA : Nat → Option Addr} {gc rc : Nat → Nat} (fs : List Fl) (deep : Int), PrOk p → Kin w lo hi p.kids A c → Fls w flo fhi fA fc fs gA gc rA rc → hi ≤ w.heap.size → fhi ≤ w.heap.size → (∀ f ∈ fs, FlOk f) → rightP p fs.length deep = true →
    Calls Tryd.prog 19 #[.agg #[.int .i64 p.kind, .int .i64 p.col, .string p.s, .int .i64 p.esc, .int .i64 p.coll, .slice A p.kids.length c], .slice fA fs.length fc] w fun r w' => r = .returned (.bool (skipP p fs)) ∧ Below w.heap.size w w' :=
  Pr.ind fun p ih w lo hi flo fhi A fA c fc gA rA gc rc fs deep ho hk hfls hhi hfhi hfo hr => by
    have HIH := Lib.hid ih
    have HK := Lib.hid hk
    have HFS := Lib.hid hfls
    have HFO := Lib.hid hfo
    have HR := Lib.hid hr
    have hs63 := ho.s
    obtain ⟨hl1, hl2⟩ := hk.len
    obtain ⟨hr1, hr2⟩ := hfls.len
    clear ih hk ho hfls hfo hr
    obtain ⟨V, hV⟩ : ∃ V, skipP p fs = V := ⟨_, rfl⟩
    rw [hV]
    rw [skipP_eq] at hV
    have HRH := Lib.hid (fun h => rightP_head HR.out h)
    have HRL := Lib.hid (fun h => rightP_leaf HR.out h)
    clear HR
    obtain ⟨kd, hkd⟩ : ∃ x, p.kind = x := ⟨_, rfl⟩
    obtain ⟨cl, hcl⟩ : ∃ x, p.col = x := ⟨_, rfl⟩
    obtain ⟨ec, hec⟩ : ∃ x, p.esc = x := ⟨_, rfl⟩
    obtain ⟨co, hco⟩ : ∃ x, p.coll = x := ⟨_, rfl⟩
    obtain ⟨s, hs⟩ : ∃ x, p.s = x := ⟨_, rfl⟩
    obtain ⟨ks, hks⟩ : ∃ x, p.kids = x := ⟨_, rfl⟩
    rw [hkd, hcl, hec, hco, hs, hks] at hV
    rw [hkd, hks] at HRH
    rw [hkd, hcl, hec, hs, hks] at HRL
    rw [hks] at HIH HK hl1
    rw [hs] at hs63
    rw [hkd, hcl, hec, hco, hs, hks]
    clear hkd hcl hec hco hs hks
    have HV := Lib.hid hV
    clear hV
    obtain ⟨w1, hw1⟩ : ∃ w1, w.alloc (.cells #[.int .i64 kd, .int .i64 cl, .string s, .int .i64 ec, .int .i64 co, .slice A ks.length c] 24) = w1 := ⟨_, rfl⟩
    have B1 : Hid (Below w.heap.size w w1) := by unfold Hid; rw [← hw1]; exact (Below.refl _ w).alloc (Nat.le_refl _) _
    have hb : Blk w1 w.heap.size 24 #[.int .i64 kd, .int .i64 cl, .string s, .int .i64 ec, .int .i64 co, .slice A ks.length c] := by rw [← hw1]; exact Blk.new w _ _
    have hs1 : w1.heap.size = w.heap.size + 1 := by rw [← hw1]; simp
    have HKK : Hid (∀ W, Below w1.heap.size w1 W → Blk W w.heap.size 24 #[.int .i64 kd, .int .i64 cl, .string s, .int .i64 ec, .int .i64 co, .slice A ks.length c]) := fun W hW => hb.below hW (by omega)
    have HK1 := Lib.hid (HK.out.kept B1.out hhi)
    have HFS1 := Lib.hid (HFS.out.below B1.out hfhi)
    clear hb HK HFS
    by_cases g12 : 12 ≤ kd
    · obtain ⟨k14, k16, k1, _, HRK⟩ := HRH.out g12
      have HRK := Lib.hid HRK
      clear HRL HRH
      have HVT : Hid (headK kd ((ks.map fun q => skipP q fs).count true) ks.length = V) := by unfold Hid; rw [← HV.out, if_pos g12]
      clear HV
      have g12' : decide (12 ≤ kd) = true := decide_eq_true g12
      have b5 := (HKK.out w1 (Below.refl _ _)).cell 5
      simp only [List.getElem?_toArray, List.getElem?_cons_zero, List.getElem?_cons_succ] at b5
      go_enter Tryd.func19, Tryd.ntmps19
      go_wp2_with fail
      go_loopw [5, 6] (fun x5 x6 wr => ∃ k n : Nat, k ≤ ks.length ∧ n ≤ k ∧ x5 = .int .i64 (n : Int) ∧ x6 = .int .i64 (k : Int) ∧ ((ks.take k).map fun q => skipP q fs).count true = n ∧ Below w1.heap.size w1 wr) (fun _ x6 _ => ks.length - (intOf x6).toNat)
      case atStart => exact ⟨0, 0, Nat.zero_le _, Nat.le_refl _, rfl, rfl, rfl, Below.refl _ _⟩
      case round =>
        clear b5
        obtain ⟨k, n, hk, hn, rfl, rfl, hct, hb⟩ := hrel
        have HT := Lib.hid hct
        have HB := Lib.hid hb
        have hsz := hb.size
        have hbb := HKK.out wr hb
        have b0 : wr.cell? ⟨w.heap.size, 0, none⟩ = some (.int .i64 kd) := hbb.cell 0
        have b5 : wr.cell? ⟨w.heap.size, 5, none⟩ = some (.slice A ks.length c) := hbb.cell 5
        clear hct hb hbb
        by_cases hlt : k < ks.length
        · have ik : (k : Int) < (ks.length : Int) := by omega
          obtain ⟨bk, off, kA, kc, rfl, hlo, hbh, c0, c1, c2, c3, c4, c5, hok, hkk⟩ := (HK1.out.kept HB.out (by omega)).six hlt
          have HQ := Lib.hid (HIH.out ks[k] (List.getElem_mem hlt) (w := wr) fs (deep - 1) hok hkk (HFS1.out.below HB.out (by omega)) (by omega) (by omega) HFO.out (HRK.out _ (List.getElem_mem hlt)))
          have HTK : Hid ((ks.take (k + 1)).map (fun q => skipP q fs) = (ks.take k).map (fun q => skipP q fs) ++ [skipP ks[k] fs]) := by unfold Hid; rw [List.take_succ_eq_append_getElem hlt, List.map_append]; rfl
          generalize ks[k] = q at *
          obtain ⟨z, hz⟩ : ∃ z, skipP q fs = z := ⟨_, rfl⟩
          rw [hz] at HQ HTK
          clear hz hok hkk
          cases z with
          | true =>
            have HN : Hid (((ks.take (k + 1)).map fun q => skipP q fs).count true = n + 1) := by unfold Hid; rw [HTK.out, List.count_append, HT.out]; rfl
            clear HTK
            go_wp2_with fail
            refine HQ.out.mono ?_
            rintro r w3 ⟨rfl, q3⟩
            have HB3 := Lib.hid (below_up HB.out q3 hsz)
            clear q3
            go_wp2_with fail
            go_roundw
            case rel => exact ⟨k + 1, n + 1, by omega, by omega, by go_num, by go_num, HN.out, HB3.out⟩
            case measure => simp [intOf] <;> omega
          | false =>
            have HN : Hid (((ks.take (k + 1)).map fun q => skipP q fs).count true = n) := by unfold Hid; rw [HTK.out, List.count_append, HT.out]; rfl
            clear HTK
            go_wp2_with fail
            refine HQ.out.mono ?_
            rintro r w3 ⟨rfl, q3⟩
            have HB3 := Lib.hid (below_up HB.out q3 hsz)
            clear q3
            go_wp2_with fail
            go_roundw
            case rel => exact ⟨k + 1, n, by omega, by omega, rfl, by go_num, HN.out, HB3.out⟩
            case measure => simp [intOf] <;> omega
        · have ik : ¬ (k : Int) < (ks.length : Int) := by omega
          have HVH : Hid (headK kd n ks.length = V) := by
            unfold Hid
            have := HT.out
            rw [List.take_of_length_le (by omega)] at this
            rw [← HVT.out, this]
          clear HT HVT
          rcases (show kd = 12 ∨ kd = 13 ∨ kd = 14 by omega) with hkd | hkd | hkd
          · subst hkd
            clear g12 g12'
            by_cases h : 0 < n
            · have HVV : Hid (V = true) := by unfold Hid; rw [← HVH.out]; exact decide_eq_true (by omega)
              have i1 : (0 : Int) < (n : Int) := by omega
              clear HVH
              go_wp2_with fail
              go_ret
              exact ⟨ret_bool HVV.out.symm, below_up B1.out HB.out (by omega)⟩
            · have HVV : Hid (V = false) := by unfold Hid; rw [← HVH.out]; exact decide_eq_false (by omega)
              have i1 : ¬ (0 : Int) < (n : Int) := by omega
              clear HVH
              go_wp2_with fail
              go_ret
              exact ⟨ret_bool HVV.out.symm, below_up B1.out HB.out (by omega)⟩
          · subst hkd
            clear g12 g12'
            by_cases h : n = ks.length
            · have HVV : Hid (V = true) := by unfold Hid; rw [← HVH.out]; exact decide_eq_true (by omega)
              have i1 : ((n : Int) == (ks.length : Int)) = true := by rw [beq_iff_eq]; omega
              clear HVH
              go_wp2_with fail
              go_ret
              exact ⟨ret_bool HVV.out.symm, below_up B1.out HB.out (by omega)⟩
            · have HVV : Hid (V = false) := by unfold Hid; rw [← HVH.out]; exact decide_eq_false (by omega)
              have i1 : ((n : Int) == (ks.length : Int)) = false := by rw [beq_eq_false_iff_ne]; omega
              clear HVH
              go_wp2_with fail
              go_ret
              exact ⟨ret_bool HVV.out.symm, below_up B1.out HB.out (by omega)⟩
          · subst hkd
            clear g12 g12'
            have HVV : Hid (V = false) := by unfold Hid; rw [← HVH.out]; exact decide_eq_false (by omega)
            clear HVH
            go_wp2_with fail
            go_ret
            exact ⟨ret_bool HVV.out.symm, below_up B1.out HB.out (by omega)⟩
    · have g12' : decide (12 ≤ kd) = false := decide_eq_false g12
      obtain ⟨l1, l2, l3, l4, hks0, HPF⟩ := HRL.out g12
      have HPF := Lib.hid HPF
      have hk0 : ks.length = 0 := by rw [hks0]; rfl
      clear HRL HRH HIH HK1 hks0
      rw [hk0] at hw1 ⊢
      have HVL : Hid (leafK kd co ec s (fs[cl.toNat]?.getD ⟨0, [], []⟩) = V) := by unfold Hid; rw [← HV.out, if_neg g12]
      clear HV
      obtain ⟨j, rfl⟩ : ∃ j : Nat, cl = (j : Int) := ⟨cl.toNat, by omega⟩
      have hjl : j < fs.length := by omega
      rw [Int.toNat_natCast, List.getElem?_eq_getElem hjl, Option.getD_some] at HVL
      obtain ⟨bk, off, rfl, hlo2, hbh2, d0, d1, d2, hflt⟩ := HFS1.out.get hjl
      have hfok := HFO.out fs[j] (List.getElem_mem hjl)
      generalize fs[j] = f at *
      have HMY : Hid (∀ (W : World) (t : ByteArray), Below w1.heap.size w1 W → t.size ≤ 100000 → Calls Tryd.prog 32 #[.agg #[.int .i64 (f.b : Int), .slice (gA j) f.gs.length (gc j), .slice (rA j) f.rs.length (rc j)], .string t] W fun r w' => r = .returned (.bool (mayP f t)) ∧ Below W.heap.size W w') :=
        fun W t hW ht => mayg_any (hflt.below hW (by omega)) (by have := hW.size; omega) hfok.rows hfok.few t ht
      have HD0 : Hid (∀ W, Below w1.heap.size w1 W → W.cell? ⟨bk, off + j * 3, none⟩ = some (.int .i64 (f.b : Int))) := fun W hW => (hW.cell (by show bk < _; omega)).trans d0
      have HD1 : Hid (∀ W, Below w1.heap.size w1 W → W.cell? ⟨bk, off + j * 3 + 1, none⟩ = some (.slice (gA j) f.gs.length (gc j))) := fun W hW => (hW.cell (by show bk < _; omega)).trans d1
      have HD2 : Hid (∀ W, Below w1.heap.size w1 W → W.cell? ⟨bk, off + j * 3 + 2, none⟩ = some (.slice (rA j) f.rs.length (rc j))) := fun W hW => (hW.cell (by show bk < _; omega)).trans d2
      have HP1 : Hid (∀ W, Below w1.heap.size w1 W → W.cell? ⟨w.heap.size, 1, none⟩ = some (.int .i64 (j : Int))) := fun W hW => (HKK.out W hW).cell 1
      have HP2 : Hid (∀ W, Below w1.heap.size w1 W → W.cell? ⟨w.heap.size, 2, none⟩ = some (.string s)) := fun W hW => (HKK.out W hW).cell 2
      have b0 := (HKK.out w1 (Below.refl _ _)).cell 0
      have b2 := (HKK.out w1 (Below.refl _ _)).cell 2
      have b3 := (HKK.out w1 (Below.refl _ _)).cell 3
      have b4 := (HKK.out w1 (Below.refl _ _)).cell 4
      have b5 := (HKK.out w1 (Below.refl _ _)).cell 5
      simp only [List.getElem?_toArray, List.getElem?_cons_zero, List.getElem?_cons_succ] at b0 b2 b3 b4 b5
      rw [hk0] at b5
      clear HFS1 HFO HKK hflt hfok d0 d1 d2 hk0
      by_cases kA : kd = 1 ∧ co = 0 ∨ 7 ≤ kd ∧ kd ≤ 9
      · have HVV : Hid (V = !mayP f s) := by unfold Hid; rw [← HVL.out, leafK, if_pos kA]
        clear HVL
        rcases kA with ⟨hk1, hk2⟩ | ⟨hk1, hk2⟩
        · subst hk1
          subst hk2
          clear g12 g12'
          go_enter Tryd.func19, Tryd.ntmps19
          go_wp2_with fail
          go_loopw [5, 6] (fun x5 x6 wr => x5 = .int .i64 0 ∧ x6 = .int .i64 0 ∧ w1 = wr) (fun _ x6 _ => 0)
          case atStart => exact ⟨rfl, rfl, rfl⟩
          case round =>
            obtain ⟨rfl, rfl, rfl⟩ := hrel
            go_wp2_with fail
            refine wp_region_held_drew (S := fun w' => Below w1.heap.size w1 w') (by kernel_rfl) (Below.drew (Below.refl _ _)) (fun hHeld => ?_)
            refine wpAnyH_take (i := 0) (oi := _) (v := ?_) rfl (by kernel_rfl) (by kernel_rfl) (by kernel_rfl) (fun _ _ _ h => h) (Or.inl ⟨by rfl, ?_⟩) hHeld ?_
            rotate_left
            focus (intro W hSw; go_simp; try with_reducible rfl)
            try simp only [List.getElem_toArray, List.getElem_cons_zero, List.getElem_cons_succ, Act.put, List.setIfInBounds_toArray, List.set_cons_zero, List.set_cons_succ]
            refine wpAnyH_take (i := 1) (oi := _) (v := ?_) rfl (by kernel_rfl) (by kernel_rfl) (by kernel_rfl) (fun _ _ _ h => h) (Or.inl ⟨by rfl, ?_⟩) hHeld ?_
            rotate_left
            focus (intro W hSw; go_simp; try with_reducible rfl)
            try simp only [List.getElem_toArray, List.getElem_cons_zero, List.getElem_cons_succ, Act.put, List.setIfInBounds_toArray, List.set_cons_zero, List.set_cons_succ]
            refine wpAnyH_take (i := 2) (oi := _) (v := ?_) rfl (by kernel_rfl) (by kernel_rfl) (by kernel_rfl) (fun _ _ _ h => h) (Or.inl ⟨by rfl, ?_⟩) hHeld ?_
            rotate_left
            focus (intro W hSw; have hc0 := HP1.out W hSw; go_simp; try with_reducible rfl)
            try simp only [List.getElem_toArray, List.getElem_cons_zero, List.getElem_cons_succ, Act.put, List.setIfInBounds_toArray, List.set_cons_zero, List.set_cons_succ]
            refine wpAnyH_take (i := 3) (oi := _) (v := ?_) rfl (by kernel_rfl) (by kernel_rfl) (by kernel_rfl) (fun _ _ _ h => h) (Or.inl ⟨by rfl, ?_⟩) hHeld ?_
            rotate_left
            focus (intro W hSw; go_simp; try with_reducible rfl)
            try simp only [List.getElem_toArray, List.getElem_cons_zero, List.getElem_cons_succ, Act.put, List.setIfInBounds_toArray, List.set_cons_zero, List.set_cons_succ]
            refine wpAnyH_take (i := 4) (oi := _) (v := ?_) rfl (by kernel_rfl) (by kernel_rfl) (by kernel_rfl) (fun _ _ _ h => h) (Or.inl ⟨by rfl, ?_⟩) hHeld ?_
            rotate_left
            focus (intro W hSw; have hc0 := HD0.out W hSw; have hc1 := HD1.out W hSw; have hc2 := HD2.out W hSw; go_simp; try with_reducible rfl)
            try simp only [List.getElem_toArray, List.getElem_cons_zero, List.getElem_cons_succ, Act.put, List.setIfInBounds_toArray, List.set_cons_zero, List.set_cons_succ]
            refine wpAnyH_take (i := 5) (oi := _) (v := ?_) rfl (by kernel_rfl) (by kernel_rfl) (by kernel_rfl) (fun _ _ _ h => h) (Or.inl ⟨by rfl, ?_⟩) hHeld ?_
            rotate_left
            focus (intro W hSw; go_simp; try with_reducible rfl)
            try simp only [List.getElem_toArray, List.getElem_cons_zero, List.getElem_cons_succ, Act.put, List.setIfInBounds_toArray, List.set_cons_zero, List.set_cons_succ]
            refine wpAnyH_take (i := 6) (oi := _) (v := ?_) rfl (by kernel_rfl) (by kernel_rfl) (by kernel_rfl) (fun _ _ _ h => h) (Or.inl ⟨by rfl, ?_⟩) hHeld ?_
            rotate_left
            focus (intro W hSw; have hc0 := HP2.out W hSw; go_simp; try with_reducible rfl)
            try simp only [List.getElem_toArray, List.getElem_cons_zero, List.getElem_cons_succ, Act.put, List.setIfInBounds_toArray, List.set_cons_zero, List.set_cons_succ]
            refine wpAnyH_ready (rs := [7]) (by kernel_rfl) (by simp) ?_
            refine AllReadyH.cons (o := _) rfl (fun K hK => ?_) AllReadyH.nil
            go_simp
            refine (HMY.out _ s hHeld (by omega)).mono ?_
            rintro r w9 ⟨rfl, q9⟩
            have HB9 := Lib.hid (below_up hHeld q9 hHeld.size)
            clear q9
            refine hK.out _ _ HB9.out (fun hHeld => ?_)
            clear hK K
            try simp only [List.getElem_toArray, List.getElem_cons_zero, List.getElem_cons_succ, Act.put, List.setIfInBounds_toArray, List.set_cons_zero, List.set_cons_succ]
            refine wpAnyH_take (i := 8) (oi := _) (v := ?_) rfl (by kernel_rfl) (by kernel_rfl) (by kernel_rfl) (fun _ _ _ h => h) (Or.inl ⟨by rfl, ?_⟩) hHeld ?_
            rotate_left
            focus (intro W hSw; go_simp; try with_reducible rfl)
            try simp only [List.getElem_toArray, List.getElem_cons_zero, List.getElem_cons_succ, Act.put, List.setIfInBounds_toArray, List.set_cons_zero, List.set_cons_succ]
            refine wpAnyH_take (i := 9) (oi := _) (v := ?_) rfl (by kernel_rfl) (by kernel_rfl) (by kernel_rfl) (fun _ _ _ h => h) (Or.inl ⟨by rfl, ?_⟩) hHeld ?_
            rotate_left
            focus (intro W hSw; go_simp; try with_reducible rfl)
            try simp only [List.getElem_toArray, List.getElem_cons_zero, List.getElem_cons_succ, Act.put, List.setIfInBounds_toArray, List.set_cons_zero, List.set_cons_succ]
            refine wpAnyH_done (by kernel_rfl) ?_ _
            go_wp2_with fail
            go_ret
            exact ⟨ret_bool HVV.out.symm, below_up B1.out HB9.out (by omega)⟩
        · have e1 : (kd == 1) = false := by rw [beq_eq_false_iff_ne]; omega
          have e7 : decide (7 ≤ kd) = true := decide_eq_true hk1
          have e9 : decide (kd ≤ 9) = true := decide_eq_true hk2
          go_enter Tryd.func19, Tryd.ntmps19
          go_wp2_with fail
          go_loopw [5, 6] (fun x5 x6 wr => x5 = .int .i64 0 ∧ x6 = .int .i64 0 ∧ w1 = wr) (fun _ x6 _ => 0)
          case atStart => exact ⟨rfl, rfl, rfl⟩
          case round =>
            obtain ⟨rfl, rfl, rfl⟩ := hrel
            go_wp2_with fail
            refine wp_region_held_drew (S := fun w' => Below w1.heap.size w1 w') (by kernel_rfl) (Below.drew (Below.refl _ _)) (fun hHeld => ?_)
            refine wpAnyH_take (i := 0) (oi := _) (v := ?_) rfl (by kernel_rfl) (by kernel_rfl) (by kernel_rfl) (fun _ _ _ h => h) (Or.inl ⟨by rfl, ?_⟩) hHeld ?_
            rotate_left
            focus (intro W hSw; go_simp; try with_reducible rfl)
            try simp only [List.getElem_toArray, List.getElem_cons_zero, List.getElem_cons_succ, Act.put, List.setIfInBounds_toArray, List.set_cons_zero, List.set_cons_succ]
            refine wpAnyH_take (i := 1) (oi := _) (v := ?_) rfl (by kernel_rfl) (by kernel_rfl) (by kernel_rfl) (fun _ _ _ h => h) (Or.inl ⟨by rfl, ?_⟩) hHeld ?_
            rotate_left
            focus (intro W hSw; go_simp; try with_reducible rfl)
            try simp only [List.getElem_toArray, List.getElem_cons_zero, List.getElem_cons_succ, Act.put, List.setIfInBounds_toArray, List.set_cons_zero, List.set_cons_succ]
            refine wpAnyH_take (i := 2) (oi := _) (v := ?_) rfl (by kernel_rfl) (by kernel_rfl) (by kernel_rfl) (fun _ _ _ h => h) (Or.inl ⟨by rfl, ?_⟩) hHeld ?_
            rotate_left
            focus (intro W hSw; have hc0 := HP1.out W hSw; go_simp; try with_reducible rfl)
            try simp only [List.getElem_toArray, List.getElem_cons_zero, List.getElem_cons_succ, Act.put, List.setIfInBounds_toArray, List.set_cons_zero, List.set_cons_succ]
            refine wpAnyH_take (i := 3) (oi := _) (v := ?_) rfl (by kernel_rfl) (by kernel_rfl) (by kernel_rfl) (fun _ _ _ h => h) (Or.inl ⟨by rfl, ?_⟩) hHeld ?_
            rotate_left
            focus (intro W hSw; go_simp; try with_reducible rfl)
            try simp only [List.getElem_toArray, List.getElem_cons_zero, List.getElem_cons_succ, Act.put, List.setIfInBounds_toArray, List.set_cons_zero, List.set_cons_succ]
            refine wpAnyH_take (i := 4) (oi := _) (v := ?_) rfl (by kernel_rfl) (by kernel_rfl) (by kernel_rfl) (fun _ _ _ h => h) (Or.inl ⟨by rfl, ?_⟩) hHeld ?_
            rotate_left
            focus (intro W hSw; have hc0 := HD0.out W hSw; have hc1 := HD1.out W hSw; have hc2 := HD2.out W hSw; go_simp; try with_reducible rfl)
            try simp only [List.getElem_toArray, List.getElem_cons_zero, List.getElem_cons_succ, Act.put, List.setIfInBounds_toArray, List.set_cons_zero, List.set_cons_succ]
            refine wpAnyH_take (i := 5) (oi := _) (v := ?_) rfl (by kernel_rfl) (by kernel_rfl) (by kernel_rfl) (fun _ _ _ h => h) (Or.inl ⟨by rfl, ?_⟩) hHeld ?_
            rotate_left
            focus (intro W hSw; go_simp; try with_reducible rfl)
            try simp only [List.getElem_toArray, List.getElem_cons_zero, List.getElem_cons_succ, Act.put, List.setIfInBounds_toArray, List.set_cons_zero, List.set_cons_succ]
            refine wpAnyH_take (i := 6) (oi := _) (v := ?_) rfl (by kernel_rfl) (by kernel_rfl) (by kernel_rfl) (fun _ _ _ h => h) (Or.inl ⟨by rfl, ?_⟩) hHeld ?_
            rotate_left
            focus (intro W hSw; have hc0 := HP2.out W hSw; go_simp; try with_reducible rfl)
            try simp only [List.getElem_toArray, List.getElem_cons_zero, List.getElem_cons_succ, Act.put, List.setIfInBounds_toArray, List.set_cons_zero, List.set_cons_succ]
            refine wpAnyH_ready (rs := [7]) (by kernel_rfl) (by simp) ?_
            refine AllReadyH.cons (o := _) rfl (fun K hK => ?_) AllReadyH.nil
            go_simp
            refine (HMY.out _ s hHeld (by omega)).mono ?_
            rintro r w9 ⟨rfl, q9⟩
            have HB9 := Lib.hid (below_up hHeld q9 hHeld.size)
            clear q9
            refine hK.out _ _ HB9.out (fun hHeld => ?_)
            clear hK K
            try simp only [List.getElem_toArray, List.getElem_cons_zero, List.getElem_cons_succ, Act.put, List.setIfInBounds_toArray, List.set_cons_zero, List.set_cons_succ]
            refine wpAnyH_take (i := 8) (oi := _) (v := ?_) rfl (by kernel_rfl) (by kernel_rfl) (by kernel_rfl) (fun _ _ _ h => h) (Or.inl ⟨by rfl, ?_⟩) hHeld ?_
            rotate_left
            focus (intro W hSw; go_simp; try with_reducible rfl)
            try simp only [List.getElem_toArray, List.getElem_cons_zero, List.getElem_cons_succ, Act.put, List.setIfInBounds_toArray, List.set_cons_zero, List.set_cons_succ]
            refine wpAnyH_take (i := 9) (oi := _) (v := ?_) rfl (by kernel_rfl) (by kernel_rfl) (by kernel_rfl) (fun _ _ _ h => h) (Or.inl ⟨by rfl, ?_⟩) hHeld ?_
            rotate_left
            focus (intro W hSw; go_simp; try with_reducible rfl)
            try simp only [List.getElem_toArray, List.getElem_cons_zero, List.getElem_cons_succ, Act.put, List.setIfInBounds_toArray, List.set_cons_zero, List.set_cons_succ]
            refine wpAnyH_done (by kernel_rfl) ?_ _
            go_wp2_with fail
            go_ret
            exact ⟨ret_bool HVV.out.symm, below_up B1.out HB9.out (by omega)⟩
      · by_cases k10 : kd = 10
        · subst k10
          clear kA g12 g12'
          obtain ⟨ns, hns⟩ := HPF.out rfl
          have hnle := parseF_le hns
          have HVA : Hid ((strsL (runsL ns)).any (fun r => !mayP f r) = V) := by
            unfold Hid
            rw [← HVL.out, leafK, if_neg (by omega), if_pos rfl, hns, Option.getD_some]
          clear HVL
          have HRS : Hid (∀ r ∈ strsL (runsL ns), r.size ≤ 100000) := fun r hr => by
            obtain ⟨u, hu, rfl⟩ := List.mem_map.1 hr
            have h1 := runsL_le hu
            have h2 := hnle.2
            have h3 : s.data.toList.length = s.size := by rw [Array.length_toList]; rfl
            show u.toArray.size ≤ _
            rw [List.size_toArray]
            omega
          have hnl : ns.length ≤ 1000000 := by
            have h2 := hnle.2
            have h3 : s.data.toList.length = s.size := by rw [Array.length_toList]; rfl
            omega
          have HP := Lib.hid (fun w => refParse_any (w := w) s ec _ hns)
          have HRN := Lib.hid (fun (W : World) (A : Option Addr) (c : Nat) (h : Rd W 0 W.heap.size A c (iv (ints ns))) => refRuns_any (w := W) ns h hnle.1 hnl)
          clear hns hnle hnl
          go_enter Tryd.func19, Tryd.ntmps19
          go_wp2_with fail
          go_loopw [5, 6] (fun x5 x6 wr => x5 = .int .i64 0 ∧ x6 = .int .i64 0 ∧ w1 = wr) (fun _ x6 _ => 0)
          case atStart => exact ⟨rfl, rfl, rfl⟩
          case round =>
            obtain ⟨rfl, rfl, rfl⟩ := hrel
            go_wp2_with fail
            refine (HP.out _).mono ?_
            rintro r w2 ⟨A2, c2, rfl, hrd, q2⟩
            rw [Option.getD_some] at hrd
            have HRD := Lib.hid hrd
            have HQ2 := Lib.hid q2
            have hs2 := q2.size
            have hc2 := hrd.len
            have hm2 := hrd.cap
            rw [iv_length, ints_length] at hc2
            unfold maxLen at hm2
            clear hrd q2 b0 b2 b3 b4 b5
            go_wp2_with fail
            refine (HRN.out _ _ _ HRD.out).mono ?_
            rintro r w3 ⟨A3, c3, rfl, hrd3, q3⟩
            have hsl := strsL_length (runsL ns)
            rw [← hsl]
            generalize strsL (runsL ns) = rs at *
            have HR3 := Lib.hid hrd3
            have HB3 := Lib.hid (below_up HQ2.out q3 hs2)
            have hs3 := q3.size
            have hc3 := hrd3.len
            have hm3 := hrd3.cap
            rw [sv_length] at hc3
            unfold maxLen at hm3
            clear hrd3 q3 hsl HRD HRN HP
            go_wp2_with fail
            go_loopw [10] (fun x10 wr => ∃ k : Nat, k ≤ rs.length ∧ x10 = .int .i64 (k : Int) ∧ (∀ r ∈ rs.take k, mayP f r = true) ∧ Below w3.heap.size w3 wr) (fun x10 _ => rs.length - (intOf x10).toNat)
            case atStart => exact ⟨0, Nat.zero_le _, rfl, by simp, Below.refl _ _⟩
            case round =>
              obtain ⟨k, hk, rfl, ha, hb⟩ := hrel
              obtain ⟨wz, hwz⟩ : ∃ wz, wz = wr := ⟨_, rfl⟩
              subst hwz
              have HA := Lib.hid ha
              have HB := Lib.hid hb
              have hszb := hb.size
              have HBZ := Lib.hid (below_up HB3.out hb (by omega))
              have hszz := HBZ.out.size
              clear ha hb
              by_cases hlt : k < rs.length
              · have ik : (k : Int) < (rs.length : Int) := by omega
                obtain ⟨b5, off5, rfl, _, hbh5, c5⟩ := HR3.out.str_get hlt
                have HM : Hid (rs[k] ∈ rs) := List.getElem_mem hlt
                have HTK : Hid (rs.take (k + 1) = rs.take k ++ [rs[k]]) := List.take_succ_eq_append_getElem hlt
                have hts := HRS.out _ (List.getElem_mem hlt)
                generalize rs[k] = t at *
                have HZ8 : Hid (∀ W, Below wz.heap.size wz W → W.cell? ⟨b5, off5 + k, none⟩ = some (.string t)) := fun W hW => ((below_up HB.out hW hszb).cell (by show b5 < _; omega)).trans c5
                have HZ1 : Hid (∀ W, Below wz.heap.size wz W → W.cell? ⟨w.heap.size, 1, none⟩ = some (.int .i64 (j : Int))) := fun W hW => HP1.out W (below_up HBZ.out hW hszz)
                have HY0 : Hid (∀ W, Below wz.heap.size wz W → W.cell? ⟨bk, off + j * 3, none⟩ = some (.int .i64 (f.b : Int))) := fun W hW => HD0.out W (below_up HBZ.out hW hszz)
                have HY1 : Hid (∀ W, Below wz.heap.size wz W → W.cell? ⟨bk, off + j * 3 + 1, none⟩ = some (.slice (gA j) f.gs.length (gc j))) := fun W hW => HD1.out W (below_up HBZ.out hW hszz)
                have HY2 : Hid (∀ W, Below wz.heap.size wz W → W.cell? ⟨bk, off + j * 3 + 2, none⟩ = some (.slice (rA j) f.rs.length (rc j))) := fun W hW => HD2.out W (below_up HBZ.out hW hszz)
                clear c5
                obtain ⟨m, hmt⟩ : ∃ m, mayP f t = m := ⟨_, rfl⟩
                cases m with
                | true =>
                  have HA2 : Hid (∀ r ∈ rs.take (k + 1), mayP f r = true) := fun x hx => by
                    rw [HTK.out] at hx
                    rcases List.mem_append.1 hx with hx | hx
                    · exact HA.out x hx
                    · rw [List.mem_singleton.1 hx]; exact hmt
                  go_wp2_with fail
                  refine wp_region_held_drew (S := fun w' => Below wz.heap.size wz w') (by kernel_rfl) (Below.drew (Below.refl _ _)) (fun hHeld => ?_)
                  refine wpAnyH_take (i := 0) (oi := _) (v := ?_) rfl (by kernel_rfl) (by kernel_rfl) (by kernel_rfl) (fun _ _ _ h => h) (Or.inl ⟨by rfl, ?_⟩) hHeld ?_
                  rotate_left
                  focus (intro W hSw; go_simp; try with_reducible rfl)
                  try simp only [List.getElem_toArray, List.getElem_cons_zero, List.getElem_cons_succ, Act.put, List.setIfInBounds_toArray, List.set_cons_zero, List.set_cons_succ]
                  refine wpAnyH_take (i := 1) (oi := _) (v := ?_) rfl (by kernel_rfl) (by kernel_rfl) (by kernel_rfl) (fun _ _ _ h => h) (Or.inl ⟨by rfl, ?_⟩) hHeld ?_
                  rotate_left
                  focus (intro W hSw; go_simp; try with_reducible rfl)
                  try simp only [List.getElem_toArray, List.getElem_cons_zero, List.getElem_cons_succ, Act.put, List.setIfInBounds_toArray, List.set_cons_zero, List.set_cons_succ]
                  refine wpAnyH_take (i := 2) (oi := _) (v := ?_) rfl (by kernel_rfl) (by kernel_rfl) (by kernel_rfl) (fun _ _ _ h => h) (Or.inl ⟨by rfl, ?_⟩) hHeld ?_
                  rotate_left
                  focus (intro W hSw; have hc0 := HZ1.out W hSw; go_simp; try with_reducible rfl)
                  try simp only [List.getElem_toArray, List.getElem_cons_zero, List.getElem_cons_succ, Act.put, List.setIfInBounds_toArray, List.set_cons_zero, List.set_cons_succ]
                  refine wpAnyH_take (i := 3) (oi := _) (v := ?_) rfl (by kernel_rfl) (by kernel_rfl) (by kernel_rfl) (fun _ _ _ h => h) (Or.inl ⟨by rfl, ?_⟩) hHeld ?_
                  rotate_left
                  focus (intro W hSw; go_simp; try with_reducible rfl)
                  try simp only [List.getElem_toArray, List.getElem_cons_zero, List.getElem_cons_succ, Act.put, List.setIfInBounds_toArray, List.set_cons_zero, List.set_cons_succ]
                  refine wpAnyH_take (i := 4) (oi := _) (v := ?_) rfl (by kernel_rfl) (by kernel_rfl) (by kernel_rfl) (fun _ _ _ h => h) (Or.inl ⟨by rfl, ?_⟩) hHeld ?_
                  rotate_left
                  focus (intro W hSw; have hc0 := HY0.out W hSw; have hc1 := HY1.out W hSw; have hc2 := HY2.out W hSw; go_simp; try with_reducible rfl)
                  try simp only [List.getElem_toArray, List.getElem_cons_zero, List.getElem_cons_succ, Act.put, List.setIfInBounds_toArray, List.set_cons_zero, List.set_cons_succ]
                  refine wpAnyH_take (i := 5) (oi := _) (v := ?_) rfl (by kernel_rfl) (by kernel_rfl) (by kernel_rfl) (fun _ _ _ h => h) (Or.inl ⟨by rfl, ?_⟩) hHeld ?_
                  rotate_left
                  focus (intro W hSw; go_simp; try with_reducible rfl)
                  try simp only [List.getElem_toArray, List.getElem_cons_zero, List.getElem_cons_succ, Act.put, List.setIfInBounds_toArray, List.set_cons_zero, List.set_cons_succ]
                  refine wpAnyH_take (i := 6) (oi := _) (v := ?_) rfl (by kernel_rfl) (by kernel_rfl) (by kernel_rfl) (fun _ _ _ h => h) (Or.inl ⟨by rfl, ?_⟩) hHeld ?_
                  rotate_left
                  focus (intro W hSw; go_simp; try with_reducible rfl)
                  try simp only [List.getElem_toArray, List.getElem_cons_zero, List.getElem_cons_succ, Act.put, List.setIfInBounds_toArray, List.set_cons_zero, List.set_cons_succ]
                  refine wpAnyH_take (i := 7) (oi := _) (v := ?_) rfl (by kernel_rfl) (by kernel_rfl) (by kernel_rfl) (fun _ _ _ h => h) (Or.inl ⟨by rfl, ?_⟩) hHeld ?_
                  rotate_left
                  focus (intro W hSw; go_simp; try with_reducible rfl)
                  try simp only [List.getElem_toArray, List.getElem_cons_zero, List.getElem_cons_succ, Act.put, List.setIfInBounds_toArray, List.set_cons_zero, List.set_cons_succ]
                  refine wpAnyH_take (i := 8) (oi := _) (v := ?_) rfl (by kernel_rfl) (by kernel_rfl) (by kernel_rfl) (fun _ _ _ h => h) (Or.inl ⟨by rfl, ?_⟩) hHeld ?_
                  rotate_left
                  focus (intro W hSw; have hc0 := HZ8.out W hSw; go_simp; try with_reducible rfl)
                  try simp only [List.getElem_toArray, List.getElem_cons_zero, List.getElem_cons_succ, Act.put, List.setIfInBounds_toArray, List.set_cons_zero, List.set_cons_succ]
                  refine wpAnyH_ready (rs := [9]) (by kernel_rfl) (by simp) ?_
                  refine AllReadyH.cons (o := _) rfl (fun K hK => ?_) AllReadyH.nil
                  go_simp
                  refine (HMY.out _ t (below_up HBZ.out hHeld hszz) hts).mono ?_
                  rw [hmt]
                  rintro r w9 ⟨rfl, q9⟩
                  have HB9 := Lib.hid (below_up hHeld q9 hHeld.size)
                  clear q9
                  refine hK.out _ _ HB9.out (fun hHeld => ?_)
                  clear hK K
                  try simp only [List.getElem_toArray, List.getElem_cons_zero, List.getElem_cons_succ, Act.put, List.setIfInBounds_toArray, List.set_cons_zero, List.set_cons_succ]
                  refine wpAnyH_take (i := 10) (oi := _) (v := ?_) rfl (by kernel_rfl) (by kernel_rfl) (by kernel_rfl) (fun _ _ _ h => h) (Or.inl ⟨by rfl, ?_⟩) hHeld ?_
                  rotate_left
                  focus (intro W hSw; go_simp; try with_reducible rfl)
                  try simp only [List.getElem_toArray, List.getElem_cons_zero, List.getElem_cons_succ, Act.put, List.setIfInBounds_toArray, List.set_cons_zero, List.set_cons_succ]
                  refine wpAnyH_done (by kernel_rfl) ?_ _
                  go_wp2_with fail
                  go_roundw
                  case rel => exact ⟨k + 1, by omega, by go_num, HA2.out, below_up HB.out HB9.out hszb⟩
                  case measure => simp [intOf] <;> omega
                | false =>
                  have HVV : Hid (V = true) := by
                    unfold Hid
                    rw [← HVA.out]
                    exact List.any_eq_true.2 ⟨t, HM.out, by rw [hmt]; rfl⟩
                  go_wp2_with fail
                  refine wp_region_held_drew (S := fun w' => Below wz.heap.size wz w') (by kernel_rfl) (Below.drew (Below.refl _ _)) (fun hHeld => ?_)
                  refine wpAnyH_take (i := 0) (oi := _) (v := ?_) rfl (by kernel_rfl) (by kernel_rfl) (by kernel_rfl) (fun _ _ _ h => h) (Or.inl ⟨by rfl, ?_⟩) hHeld ?_
                  rotate_left
                  focus (intro W hSw; go_simp; try with_reducible rfl)
                  try simp only [List.getElem_toArray, List.getElem_cons_zero, List.getElem_cons_succ, Act.put, List.setIfInBounds_toArray, List.set_cons_zero, List.set_cons_succ]
                  refine wpAnyH_take (i := 1) (oi := _) (v := ?_) rfl (by kernel_rfl) (by kernel_rfl) (by kernel_rfl) (fun _ _ _ h => h) (Or.inl ⟨by rfl, ?_⟩) hHeld ?_
                  rotate_left
                  focus (intro W hSw; go_simp; try with_reducible rfl)
                  try simp only [List.getElem_toArray, List.getElem_cons_zero, List.getElem_cons_succ, Act.put, List.setIfInBounds_toArray, List.set_cons_zero, List.set_cons_succ]
                  refine wpAnyH_take (i := 2) (oi := _) (v := ?_) rfl (by kernel_rfl) (by kernel_rfl) (by kernel_rfl) (fun _ _ _ h => h) (Or.inl ⟨by rfl, ?_⟩) hHeld ?_
                  rotate_left
                  focus (intro W hSw; have hc0 := HZ1.out W hSw; go_simp; try with_reducible rfl)
                  try simp only [List.getElem_toArray, List.getElem_cons_zero, List.getElem_cons_succ, Act.put, List.setIfInBounds_toArray, List.set_cons_zero, List.set_cons_succ]
                  refine wpAnyH_take (i := 3) (oi := _) (v := ?_) rfl (by kernel_rfl) (by kernel_rfl) (by kernel_rfl) (fun _ _ _ h => h) (Or.inl ⟨by rfl, ?_⟩) hHeld ?_
                  rotate_left
                  focus (intro W hSw; go_simp; try with_reducible rfl)
                  try simp only [List.getElem_toArray, List.getElem_cons_zero, List.getElem_cons_succ, Act.put, List.setIfInBounds_toArray, List.set_cons_zero, List.set_cons_succ]
                  refine wpAnyH_take (i := 4) (oi := _) (v := ?_) rfl (by kernel_rfl) (by kernel_rfl) (by kernel_rfl) (fun _ _ _ h => h) (Or.inl ⟨by rfl, ?_⟩) hHeld ?_
                  rotate_left
                  focus (intro W hSw; have hc0 := HY0.out W hSw; have hc1 := HY1.out W hSw; have hc2 := HY2.out W hSw; go_simp; try with_reducible rfl)
                  try simp only [List.getElem_toArray, List.getElem_cons_zero, List.getElem_cons_succ, Act.put, List.setIfInBounds_toArray, List.set_cons_zero, List.set_cons_succ]
                  refine wpAnyH_take (i := 5) (oi := _) (v := ?_) rfl (by kernel_rfl) (by kernel_rfl) (by kernel_rfl) (fun _ _ _ h => h) (Or.inl ⟨by rfl, ?_⟩) hHeld ?_
                  rotate_left
                  focus (intro W hSw; go_simp; try with_reducible rfl)
                  try simp only [List.getElem_toArray, List.getElem_cons_zero, List.getElem_cons_succ, Act.put, List.setIfInBounds_toArray, List.set_cons_zero, List.set_cons_succ]
                  refine wpAnyH_take (i := 6) (oi := _) (v := ?_) rfl (by kernel_rfl) (by kernel_rfl) (by kernel_rfl) (fun _ _ _ h => h) (Or.inl ⟨by rfl, ?_⟩) hHeld ?_
                  rotate_left
                  focus (intro W hSw; go_simp; try with_reducible rfl)
                  try simp only [List.getElem_toArray, List.getElem_cons_zero, List.getElem_cons_succ, Act.put, List.setIfInBounds_toArray, List.set_cons_zero, List.set_cons_succ]
                  refine wpAnyH_take (i := 7) (oi := _) (v := ?_) rfl (by kernel_rfl) (by kernel_rfl) (by kernel_rfl) (fun _ _ _ h => h) (Or.inl ⟨by rfl, ?_⟩) hHeld ?_
                  rotate_left
                  focus (intro W hSw; go_simp; try with_reducible rfl)
                  try simp only [List.getElem_toArray, List.getElem_cons_zero, List.getElem_cons_succ, Act.put, List.setIfInBounds_toArray, List.set_cons_zero, List.set_cons_succ]
                  refine wpAnyH_take (i := 8) (oi := _) (v := ?_) rfl (by kernel_rfl) (by kernel_rfl) (by kernel_rfl) (fun _ _ _ h => h) (Or.inl ⟨by rfl, ?_⟩) hHeld ?_
                  rotate_left
                  focus (intro W hSw; have hc0 := HZ8.out W hSw; go_simp; try with_reducible rfl)
                  try simp only [List.getElem_toArray, List.getElem_cons_zero, List.getElem_cons_succ, Act.put, List.setIfInBounds_toArray, List.set_cons_zero, List.set_cons_succ]
                  refine wpAnyH_ready (rs := [9]) (by kernel_rfl) (by simp) ?_
                  refine AllReadyH.cons (o := _) rfl (fun K hK => ?_) AllReadyH.nil
                  go_simp
                  refine (HMY.out _ t (below_up HBZ.out hHeld hszz) hts).mono ?_
                  rw [hmt]
                  rintro r w9 ⟨rfl, q9⟩
                  have HB9 := Lib.hid (below_up hHeld q9 hHeld.size)
                  clear q9
                  refine hK.out _ _ HB9.out (fun hHeld => ?_)
                  clear hK K
                  try simp only [List.getElem_toArray, List.getElem_cons_zero, List.getElem_cons_succ, Act.put, List.setIfInBounds_toArray, List.set_cons_zero, List.set_cons_succ]
                  refine wpAnyH_take (i := 10) (oi := _) (v := ?_) rfl (by kernel_rfl) (by kernel_rfl) (by kernel_rfl) (fun _ _ _ h => h) (Or.inl ⟨by rfl, ?_⟩) hHeld ?_
                  rotate_left
                  focus (intro W hSw; go_simp; try with_reducible rfl)
                  try simp only [List.getElem_toArray, List.getElem_cons_zero, List.getElem_cons_succ, Act.put, List.setIfInBounds_toArray, List.set_cons_zero, List.set_cons_succ]
                  refine wpAnyH_done (by kernel_rfl) ?_ _
                  go_wp2_with fail
                  go_ret
                  exact ⟨ret_bool HVV.out.symm, below_up B1.out (below_up HBZ.out HB9.out hszz) (by omega)⟩
              · have ik : ¬ (k : Int) < (rs.length : Int) := by omega
                have HVV : Hid (V = false) := by
                  unfold Hid
                  rw [← HVA.out]
                  refine Bool.eq_false_iff.2 fun h => ?_
                  obtain ⟨x, hx, hm⟩ := List.any_eq_true.1 h
                  have := HA.out x (by rw [List.take_of_length_le (by omega)]; exact hx)
                  rw [this] at hm
                  cases hm
                go_wp2_with fail
                go_ret
                exact ⟨ret_bool HVV.out.symm, below_up B1.out HBZ.out (by omega)⟩
        · have HVV : Hid (V = false) := by unfold Hid; rw [← HVL.out, leafK, if_neg kA, if_neg k10]
          clear HVL
          have e10 : (kd == 10) = false := by rw [beq_eq_false_iff_ne]; exact k10
          by_cases k1 : kd = 1
          · subst k1
            have e0 : (co == 0) = false := by rw [beq_eq_false_iff_ne]; omega
            clear kA k10 e10 g12 g12'
            go_enter Tryd.func19, Tryd.ntmps19
            go_wp2_with fail
            go_loopw [5, 6] (fun x5 x6 wr => x5 = .int .i64 0 ∧ x6 = .int .i64 0 ∧ w1 = wr) (fun _ x6 _ => 0)
            case atStart => exact ⟨rfl, rfl, rfl⟩
            case round =>
              obtain ⟨rfl, rfl, rfl⟩ := hrel
              go_wp2_with fail
              go_ret
              exact ⟨ret_bool HVV.out.symm, B1.out⟩
          · have e1 : (kd == 1) = false := by rw [beq_eq_false_iff_ne]; exact k1
            by_cases k7 : 7 ≤ kd
            · have k9 : ¬ kd ≤ 9 := by omega
              have e7 : decide (7 ≤ kd) = true := decide_eq_true k7
              have e9 : decide (kd ≤ 9) = false := decide_eq_false k9
              go_enter Tryd.func19, Tryd.ntmps19
              go_wp2_with fail
              go_loopw [5, 6] (fun x5 x6 wr => x5 = .int .i64 0 ∧ x6 = .int .i64 0 ∧ w1 = wr) (fun _ x6 _ => 0)
              case atStart => exact ⟨rfl, rfl, rfl⟩
              case round =>
                obtain ⟨rfl, rfl, rfl⟩ := hrel
                go_wp2_with fail
                go_ret
                exact ⟨ret_bool HVV.out.symm, B1.out⟩
            · have e7 : decide (7 ≤ kd) = false := decide_eq_false k7
              go_enter Tryd.func19, Tryd.ntmps19
              go_wp2_with fail
              go_loopw [5, 6] (fun x5 x6 wr => x5 = .int .i64 0 ∧ x6 = .int .i64 0 ∧ w1 = wr) (fun _ x6 _ => 0)
              case atStart => exact ⟨rfl, rfl, rfl⟩
              case round =>
                obtain ⟨rfl, rfl, rfl⟩ := hrel
                go_wp2_with fail
                go_ret
                exact ⟨ret_bool HVV.out.symm, B1.out⟩
end Go.Proofs.YtjffbjlniieciaaDoor
