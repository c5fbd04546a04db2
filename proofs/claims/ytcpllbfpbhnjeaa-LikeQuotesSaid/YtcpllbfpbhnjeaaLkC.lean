/-
  Runs of literals, and strings quoted, by builders.
-/
import Derived.Test.YtcpllbfpbhnjeaaLkA
import Derived.Test.YtcpllbfpbhnjeaaRfLd
import Derived.Test.YtcpllbfpbhnjeaaShl
namespace Go.Proofs.Ytcpllbfpbhnjeaa
set_option linter.unusedSimpArgs false
set_option linter.unusedVariables false
open Go.RowKit

/-- the bytes at the signs' beginning -/
def litL : List Nat → List UInt8
  | [] => []
  | c :: p => if c < 256 then UInt8.ofNat c :: litL p else []
theorem lit_byte {c : Nat} (h : c < 256) (p : List Nat) : litL (c :: p) = UInt8.ofNat c :: litL p := by rw [litL, if_pos h]
theorem lit_wild {c : Nat} (h : ¬ c < 256) (p : List Nat) : litL (c :: p) = [] := by rw [litL, if_neg h]
theorem lit_le : ∀ p, (litL p).length ≤ p.length
  | [] => Nat.le_refl _
  | c :: p => by
    unfold litL
    split
    · have := lit_le p
      simpa using this
    · simp
/-- runs: what is at the beginning, and those of what is left -/
theorem run_acc : ∀ (p : List Nat) (acc : List UInt8), runA acc p = (if acc ++ litL p = [] then [] else [acc ++ litL p]) ++ runA [] (p.drop (litL p).length)
  | [], acc => by simp [litL, runA]
  | c :: p, acc => by
    by_cases h : c < 256
    · rw [run_lit h, run_acc p, lit_byte h]
      simp
    · rw [run_wild h, lit_wild h]
      rw [List.length_nil, List.drop_zero, run_wild h, List.append_nil]
      simp
theorem runs_some {p : List Nat} (h : litL p ≠ []) : runsL p = litL p :: runsL (p.drop (litL p).length) := by
  unfold runsL
  rw [run_acc p [], List.nil_append, if_neg h]
  rfl
theorem runs_none {c : Nat} {p : List Nat} (h : litL (c :: p) = []) : runsL (c :: p) = runsL p := by
  unfold runsL
  by_cases hc : c < 256
  · rw [lit_byte hc] at h
    cases h
  · rw [run_wild hc, if_pos rfl]
    rfl

set_option maxRecDepth 20000 in
set_option maxHeartbeats 2000000 in
theorem lliteral_any {w : World} (ns : List Nat) {hi c : Nat} {A : Option Addr} (h : Rd w 0 hi A c (iv (ints ns))) (hh : hi ≤ w.heap.size) (hn : ns.length ≤ 1000000) :
    Calls Try.prog 25 #[.slice A ns.length c] w fun r w' => r = .returned (.string ⟨(litL ns).toArray⟩) ∧ Below w.heap.size w w' := by
  have hl := h.len
  have hc := h.cap
  rw [iv_length, ints_length] at hl
  unfold maxLen at hc
  have H := Lib.hid h
  have HBY : Hid (∀ (w : World) (z : Int), Calls Try.prog 22 #[.int .i64 z] w fun r w' => r = .returned (.bool (decide (0 ≤ z) && decide (z ≤ 255))) ∧ w = w') := fun w z => isByte_any z
  clear h
  go_enter Try.func25, Try.ntmps25
  go_wp2_with fail
  go_loopw [5, 8] (fun x5 x8 wr => ∃ (k : Nat) (ys : List UInt8), k ≤ ns.length ∧ x8 = .int .i64 (k : Int) ∧ ys.length = k ∧ ys ++ litL (ns.drop k) = litL ns ∧ Bld w.heap.size w.heap.size ys wr ∧ Below w.heap.size w wr) (fun _ x8 _ => ns.length - (intOf x8).toNat)
  case atStart => exact ⟨0, [], Nat.zero_le _, rfl, rfl, rfl, fresh, (Below.refl _ w).alloc (Nat.le_refl _) _⟩
  case round =>
    obtain ⟨k, ys, hk, rfl, hyl, hys, hbl, hb⟩ := hrel
    have HYS := Lib.hid hys
    have HYL := Lib.hid hyl
    have hyle : ys.length ≤ ns.length := by omega
    have hsz := hb.size
    have HBL := Lib.hid hbl
    have HB := Lib.hid hb
    clear hys hyl hbl hb
    by_cases hlt : k < ns.length
    · have ik : (k : Int) < (ns.length : Int) := by omega
      obtain ⟨b, off, rfl, hsig⟩ := rd_sig (H.out.below HB.out hh) hlt
      have HDN : Hid (ns.drop k = ns[k] :: ns.drop (k + 1)) := List.drop_eq_getElem_cons hlt
      generalize ns[k] = x at *
      have hx0 : decide (0 ≤ (x : Int)) = true := decide_eq_true (by omega)
      by_cases h256 : x < 256
      · have hx1 : decide ((x : Int) ≤ 255) = true := decide_eq_true (by omega)
        have HLE : Hid ((ys ++ [UInt8.ofNat x]) ++ litL (ns.drop (k + 1)) = litL ns) := by
          unfold Hid
          rw [← HYS.out, HDN.out, lit_byte h256, List.append_assoc]
          rfl
        have hx : (UInt8.ofNat x).toNat = x := by simp; omega
        have hw := write_byte (w := wr) w.heap.size w.heap.size ys (UInt8.ofNat x) HBL.out (by omega) hsz
        rw [hx] at hw
        have HWB := Lib.hid hw
        clear hw hx
        generalize UInt8.ofNat x = y at *
        go_wp2_with fail
        refine (HBY.out _ _).mono ?_
        rw [hx0, hx1]
        rintro r w2 ⟨rfl, rfl⟩
        go_wp2_with fail
        refine HWB.out.mono ?_
        rintro r w2 ⟨rfl, hbl2, hb2, _⟩
        go_wp2_with fail
        go_roundw
        case rel => exact ⟨k + 1, ys ++ [y], by omega, by go_num, by rw [List.length_append, HYL.out]; rfl, HLE.out, hbl2, HB.out.trans hb2⟩
        case measure => simp [intOf] <;> omega
      · have hx1 : decide ((x : Int) ≤ 255) = false := decide_eq_false (by omega)
        have hfin : ys = litL ns := by rw [← HYS.out, HDN.out, lit_wild h256, List.append_nil]
        have HFU := Lib.hid hfin
        clear hfin
        go_wp2_with fail
        refine (HBY.out _ _).mono ?_
        rw [hx0, hx1]
        rintro r w2 ⟨rfl, rfl⟩
        go_wp2_with fail
        refine (built w.heap.size w.heap.size ys HBL.out hsz).mono ?_
        rintro r w2 ⟨rfl, hb2⟩
        go_wp2_with fail
        go_ret
        exact ⟨by rw [← HFU.out]; rfl, HB.out.trans hb2⟩
    · have ik : ¬ (k : Int) < (ns.length : Int) := by omega
      have hfin : ys = litL ns := by rw [← HYS.out, List.drop_of_length_le (by omega), litL, List.append_nil]
      have HFU := Lib.hid hfin
      clear hfin
      go_wp2_with fail
      refine (built w.heap.size w.heap.size ys HBL.out hsz).mono ?_
      rintro r w2 ⟨rfl, hb2⟩
      go_wp2_with fail
      go_ret
      exact ⟨by rw [← HFU.out]; rfl, HB.out.trans hb2⟩

theorem quote_len (e : UInt8) : ∀ l, (quoteL e l).length ≤ 2 * l.length
  | [] => Nat.le_refl _
  | x :: t => by
    rw [quote_cons, List.length_append, List.length_cons]
    have := quote_len e t
    split <;> simp <;> omega

/-- a slice's length -/
def slen : Value → Nat | .slice _ n _ => n | _ => 0
theorem iv_ints_drop (ms : List Nat) (k : Nat) : iv (ints (ms.drop k)) = (iv (ints ms)).drop k := by simp [iv, ints, List.map_drop]
theorem rd_rest {w : World} {lo hi c : Nat} {A : Option Addr} {ms : List Nat} (h : Rd w lo hi A c (iv (ints ms))) {k : Nat} (hk : k ≤ ms.length) :
    Rd w lo hi (if c = k then A else A.map (·.add k)) (c - k) (iv (ints (ms.drop k))) := by
  have h1 := h.cut (k := k) (n := ms.length) hk (by rw [iv_length, ints_length]; exact Nat.le_refl _)
  rw [iv_ints_drop, ← List.take_of_length_le (l := (iv (ints ms)).drop k) (i := ms.length - k) (by rw [List.length_drop, iv_length, ints_length]; exact Nat.le_refl _)]
  exact h1

set_option maxRecDepth 20000 in
set_option maxHeartbeats 2000000 in
theorem lruns_any {w : World} (ns : List Nat) {c : Nat} {A : Option Addr} (h : Rd w 0 w.heap.size A c (iv (ints ns))) (hn : ns.length ≤ 1000000) :
    Calls Try.prog 18 #[.slice A ns.length c] w fun r w' => ∃ A' c', r = .returned (.slice A' (runsL ns).length c') ∧ Rd w' 0 w'.heap.size A' c' (sv (strsL (runsL ns))) ∧ Below w.heap.size w w' := by
  have H := Lib.hid h
  clear h
  go_enter Try.func18, Try.ntmps18
  go_wp2_with fail
  go_loopw [0, 3] (fun x0 x3 wr => ∃ (ms : List Nat) (os : List ByteArray) (B : Option Addr) (d : Nat) (A' : Option Addr) (c' : Nat), x0 = .slice B ms.length d ∧ x3 = .slice A' os.length c' ∧ Rd w 0 w.heap.size B d (iv (ints ms)) ∧ os.length + ms.length ≤ ns.length ∧
    os ++ strsL (runsL ms) = strsL (runsL ns) ∧ wr.ownsRow w.heap.size 9 1 (.slice A' os.length c') os.length (sv os) ∧ Below w.heap.size w wr) (fun x0 _ _ => slen x0)
  case atStart => exact ⟨ns, [], A, c, none, 0, rfl, rfl, H.out, by simp, rfl, World.ownsRow_nil _ _ _ _, Below.refl _ _⟩
  case round =>
    obtain ⟨ms, os, B, d, A', c', rfl, rfl, hrd, hle, hinv, hown, hb⟩ := hrel
    have hl := hrd.len
    have hc := hrd.cap
    rw [iv_length, ints_length] at hl
    unfold maxLen at hc
    have HR := Lib.hid hrd
    have HI := Lib.hid hinv
    have HO := Lib.hid hown
    have HB := Lib.hid hb
    have hsz := hb.size
    clear hrd hinv hown hb
    by_cases hpos : 0 < ms.length
    · have ip : (0 : Int) < (ms.length : Int) := by omega
      have HLT := Lib.hid (lliteral_any (w := wr) ms (HR.out.below HB.out (Nat.le_refl _)) hsz (by omega))
      have hll := lit_le ms
      obtain ⟨y, hy⟩ : ∃ y, litL ms = y := ⟨_, rfl⟩
      by_cases h0 : y = []
      · have hne : y.isEmpty = true := by rw [h0]; rfl
        have HFI : Hid (os ++ strsL (runsL (ms.drop 1)) = strsL (runsL ns)) := by
          unfold Hid
          rw [← HI.out]
          cases ms with
          | nil => simp at hpos
          | cons a p => rw [runs_none (by rw [hy, h0])]; rfl
        have HR1 := Lib.hid (rd_rest HR.out (k := 1) hpos)
        rw [hy] at HLT hll
        clear hy h0
        go_wp2_with fail
        refine HLT.out.mono ?_
        rintro r w2 ⟨rfl, hb2⟩
        have HB2 := Lib.hid (HB.out.trans (hb2.mono hsz))
        have HO2 := Lib.hid (own_below HO.out hb2 (Nat.le_refl _))
        clear hb2
        go_wp2_with fail
        go_roundw
        case rel => exact ⟨ms.drop 1, os, _, _, A', c', by rw [List.length_drop]; rfl, rfl, HR1.out, by rw [List.length_drop]; omega, HFI.out, HO2.out, HB2.out⟩
        case measure => simp [slen] <;> omega
      · have hne : y.isEmpty = false := List.isEmpty_eq_false_iff.2 h0
        have HFI : Hid ((os ++ [⟨y.toArray⟩]) ++ strsL (runsL (ms.drop y.length)) = strsL (runsL ns)) := by
          unfold Hid
          have hr : runsL ms = y :: runsL (ms.drop y.length) := by rw [runs_some (p := ms) (by rw [hy]; exact h0), hy]
          rw [← HI.out, hr, List.append_assoc]
          rfl
        have HR1 := Lib.hid (rd_rest HR.out (k := y.length) (by rw [← hy]; exact hll))
        have hpy : 0 < y.length := List.length_pos_iff.2 h0
        rw [hy] at HLT hll
        have HYZ : Hid ((⟨y.toArray⟩ : ByteArray).size = y.length) := by unfold Hid; rfl
        clear hy h0
        go_wp2_with fail
        refine HLT.out.mono ?_
        rintro r w2 ⟨rfl, hb2⟩
        have HB2 := Lib.hid (HB.out.trans (hb2.mono hsz))
        have HO2 := Lib.hid (own_below HO.out hb2 (Nat.le_refl _))
        have hsz2 := HB2.out.size
        clear hb2
        go_wp2_with (at_builtin; refine wpList_push_str (v := .slice A' os.length c') w.heap.size os (⟨y.toArray⟩) rfl _ _ rfl rfl rfl rfl (by rw [World.cell?_alloc_at _ _ _ _ rfl]; rfl) (HO2.out.alloc _) (by omega) (by simp; omega) ?_; intro A2 c2 w3 ho3 hg3)
        go_roundw
        case rel => exact ⟨ms.drop y.length, os ++ [⟨y.toArray⟩], _, _, A2, c2, by rw [List.length_drop], by rw [List.length_append]; rfl, HR1.out, by rw [List.length_append, List.length_drop, List.length_cons, List.length_nil]; omega, HFI.out, ho3, (HB2.out.alloc hsz2 _).grown hg3 (by simp; omega) (fun q hq => (own_lt HO2.out hq).1)⟩
        case measure => simp [slen] <;> omega
    · have ip : ¬ (0 : Int) < (ms.length : Int) := by omega
      have hf : os = strsL (runsL ns) := by
        have hm : ms = [] := List.eq_nil_of_length_eq_zero (by omega)
        rw [← HI.out, hm]
        simp [runsL, runA, strsL]
      have HF := Lib.hid hf
      have HFL : Hid (os.length = (runsL ns).length) := by unfold Hid; rw [hf, strsL_length]
      clear hf
      go_wp2_with fail
      go_ret
      exact ⟨A', c', by rw [← HFL.out]; rfl, by rw [← HF.out]; exact (Rd.of_own HO.out).wide (Nat.zero_le _) (Nat.le_refl _), HB.out⟩

set_option maxRecDepth 20000 in
set_option maxHeartbeats 2000000 in
theorem lquote_any {w : World} (s : ByteArray) (e : UInt8) (hs : s.size ≤ 1000000) :
    Calls Try.prog 20 #[.string s, .int .i64 (e.toNat : Int)] w fun r w' => r = .returned (.string ⟨(quoteL e s.data.toList).toArray⟩) ∧ Below w.heap.size w w' := by
  have he : e.toNat < 256 := UInt8.toNat_lt _
  have hby := fun w => isByte_any (w := w) (e.toNat : Int)
  rw [decide_eq_true (p := (0 : Int) ≤ (e.toNat : Int)) (by omega), decide_eq_true (p := (e.toNat : Int) ≤ 255) (by omega)] at hby
  have HBY := Lib.hid hby
  clear hby
  have HG := Lib.hid (grow_any (w := w.alloc (.cells #[.pointer none, .slice none 0 0] 46)) w.heap.size w.heap.size s.size (Nat.le_refl _) (heap_alloc_new w _) (by simp) (by omega))
  have HB0 : Hid (Below w.heap.size w (w.alloc (.cells #[.pointer none, .slice none 0 0] 46))) := (Below.refl _ w).alloc (Nat.le_refl _) _
  go_enter Try.func20, Try.ntmps20
  go_wp2_with fail
  refine (HBY.out _).mono ?_
  rintro r w1 ⟨rfl, rfl⟩
  go_wp2_with fail
  refine HG.out.mono ?_
  rintro r w1 ⟨rfl, hbl, hb1⟩
  have HBL := Lib.hid hbl
  have HB1 := Lib.hid (HB0.out.trans hb1)
  clear hbl hb1
  go_wp2_with fail
  go_loopw [6, 15] (fun x6 x15 wr => ∃ (k : Nat) (ys : List UInt8), k ≤ s.size ∧ x15 = .int .i64 (k : Int) ∧ ys.length ≤ 2 * k ∧ ys ++ quoteL e (s.data.toList.drop k) = quoteL e s.data.toList ∧ Bld w.heap.size w.heap.size ys wr ∧ Below w.heap.size w wr) (fun _ i _ => s.size - (intOf i).toNat)
  case atStart => exact ⟨0, [], Nat.zero_le _, rfl, Nat.le_refl _, rfl, HBL.out, HB1.out⟩
  case round =>
    obtain ⟨k, ys, hk, rfl, hyl, hys, hbl, hb⟩ := hrel
    have HYS := Lib.hid hys
    have HYL := Lib.hid hyl
    have hyle : ys.length ≤ 2 * s.size := by omega
    have hsz := hb.size
    have HBL := Lib.hid hbl
    have HB := Lib.hid hb
    clear hys hyl hbl hb
    by_cases hlt : k < s.size
    · have ik : (k : Int) < (s.size : Int) := by omega
      have HDB := Lib.hid (dropB hlt)
      have HSG := fun w => Lib.hid (sign_any (w := w) s[k])
      have lx : s[k].toNat < 256 := UInt8.toNat_lt _
      have HQE : ((s[k].toNat = 37 ∨ s[k].toNat = 95 ∨ s[k] = e) ∧ Hid ((ys ++ [e, s[k]]) ++ quoteL e (s.data.toList.drop (k + 1)) = quoteL e s.data.toList)) ∨
          (¬ (s[k].toNat = 37 ∨ s[k].toNat = 95 ∨ s[k] = e) ∧ Hid ((ys ++ [s[k]]) ++ quoteL e (s.data.toList.drop (k + 1)) = quoteL e s.data.toList)) := by
        by_cases h : s[k].toNat = 37 ∨ s[k].toNat = 95 ∨ s[k] = e
        · refine Or.inl ⟨h, ?_⟩
          unfold Hid
          rw [← HYS.out, HDB.out, quote_cons, if_pos h, List.append_assoc]
        · refine Or.inr ⟨h, ?_⟩
          unfold Hid
          rw [← HYS.out, HDB.out, quote_cons, if_neg h, List.append_assoc]
      have HWB := Lib.hid (fun wq ys c (h : Bld w.heap.size w.heap.size ys wq) h2 h3 => write_byte (w := wq) w.heap.size w.heap.size ys c h h2 h3)
      rcases HQE with ⟨hq, HF⟩ | ⟨hq, HF⟩
      · by_cases hxe : s[k] = e
        · have hie : ((s[k].toNat : Int) == (e.toNat : Int)) = true := by rw [hxe]; exact beq_self_eq_true _
          clear hxe
          go_wp2_with fail
          refine (HWB.out wr ys e HBL.out (by omega) hsz).mono ?_
          rintro r w2 ⟨rfl, hbl2, hb2, _⟩
          have HBL2 := Lib.hid hbl2
          have HB2 := Lib.hid (HB.out.trans hb2)
          clear hbl2 hb2
          go_wp2_with fail
          refine (HWB.out _ (ys ++ [e]) s[k] HBL2.out (by rw [List.length_append, List.length_cons, List.length_nil]; omega) HB2.out.size).mono ?_
          rintro r w3 ⟨rfl, hbl3, hb3, _⟩
          go_wp2_with fail
          go_roundw
          case rel => exact ⟨k + 1, (ys ++ [e]) ++ [s[k]], by omega, by go_num, by rw [List.length_append, List.length_append]; have := HYL.out; simp; omega, by rw [List.append_assoc ys]; exact HF.out, hbl3, HB2.out.trans hb3⟩
          case measure => simp [intOf] <;> omega
        · have hie : ((s[k].toNat : Int) == (e.toNat : Int)) = false := by rw [beq_eq_false_iff_ne]; intro h; exact hxe (UInt8.toNat_inj.1 (by omega))
          have hsg : (255 : Int) < (sgn s[k] : Int) := by
            unfold sgn
            rcases hq with hq | hq | hq
            · rw [if_pos hq]; omega
            · rw [if_neg (by omega), if_pos hq]; omega
            · exact absurd hq hxe
          generalize sgn s[k] = v at *
          go_wp2_with fail
          refine (HSG _).out.mono ?_
          rintro r w4 ⟨rfl, rfl⟩
          go_wp2_with fail
          refine (HWB.out _ ys e HBL.out (by omega) hsz).mono ?_
          rintro r w2 ⟨rfl, hbl2, hb2, _⟩
          have HBL2 := Lib.hid hbl2
          have HB2 := Lib.hid (HB.out.trans hb2)
          clear hbl2 hb2
          go_wp2_with fail
          refine (HWB.out _ (ys ++ [e]) s[k] HBL2.out (by rw [List.length_append, List.length_cons, List.length_nil]; omega) HB2.out.size).mono ?_
          rintro r w3 ⟨rfl, hbl3, hb3, _⟩
          go_wp2_with fail
          go_roundw
          case rel => exact ⟨k + 1, (ys ++ [e]) ++ [s[k]], by omega, by go_num, by rw [List.length_append, List.length_append]; have := HYL.out; simp; omega, by rw [List.append_assoc ys]; exact HF.out, hbl3, HB2.out.trans hb3⟩
          case measure => simp [intOf] <;> omega
      · have hie : ((s[k].toNat : Int) == (e.toNat : Int)) = false := by rw [beq_eq_false_iff_ne]; intro h; exact hq (Or.inr (Or.inr (UInt8.toNat_inj.1 (by omega))))
        have hsg : ¬ (255 : Int) < (sgn s[k] : Int) := by
          unfold sgn
          rw [if_neg (fun h => hq (Or.inl h)), if_neg (fun h => hq (Or.inr (Or.inl h)))]
          omega
        generalize sgn s[k] = v at *
        go_wp2_with fail
        refine (HSG _).out.mono ?_
        rintro r w4 ⟨rfl, rfl⟩
        go_wp2_with fail
        refine (HWB.out _ ys s[k] HBL.out (by omega) hsz).mono ?_
        rintro r w2 ⟨rfl, hbl2, hb2, _⟩
        go_wp2_with fail
        go_roundw
        case rel => exact ⟨k + 1, ys ++ [s[k]], by omega, by go_num, by rw [List.length_append]; have := HYL.out; simp; omega, HF.out, hbl2, HB.out.trans hb2⟩
        case measure => simp [intOf] <;> omega
    · have ik : ¬ (k : Int) < (s.size : Int) := by omega
      have hfin : ys = quoteL e s.data.toList := by
        rw [← HYS.out, List.drop_of_length_le (by rw [lenB]; omega)]
        simp [quoteL]
      have HFU := Lib.hid hfin
      clear hfin
      go_wp2_with fail
      refine (built w.heap.size w.heap.size ys HBL.out hsz).mono ?_
      rintro r w2 ⟨rfl, hb2⟩
      go_wp2_with fail
      go_ret
      exact ⟨by rw [← HFU.out]; rfl, HB.out.trans hb2⟩
end Go.Proofs.Ytcpllbfpbhnjeaa
