/-
  The document's Runs of layer 9.
-/
import Derived.Test.YtjffbjlniieciaaDoorRfLc
import Derived.Test.YtjffbjlniieciaaDoorStrA
namespace Go.Proofs.YtjffbjlniieciaaDoor
set_option linter.unusedSimpArgs false
set_option linter.unusedVariables false
open Go.RowKit

theorem run_lit {c : Nat} (h : c < 256) (acc : List UInt8) (p : List Nat) : runA acc (c :: p) = runA (acc ++ [UInt8.ofNat c]) p := by
  rw [runA, if_pos h]
theorem run_wild {c : Nat} (h : ¬ c < 256) (acc : List UInt8) (p : List Nat) : runA acc (c :: p) = (if acc = [] then [] else [acc]) ++ runA [] p := by
  rw [runA, if_neg h]
theorem run_end (acc : List UInt8) : runA acc [] = if acc = [] then [] else [acc] := by rw [runA]
theorem snoc_str (r : ByteArray) (c : UInt8) : (r ++ ⟨#[c]⟩).data.toList = r.data.toList ++ [c] := by rw [ByteArray.data_append, Array.toList_append]
theorem snoc_size (r : ByteArray) (c : UInt8) : (r ++ ⟨#[c]⟩ : ByteArray).size = r.size + 1 := by rw [← lenB, snoc_str, List.length_append, lenB]; rfl
theorem of_str (r : ByteArray) : (⟨r.data.toList.toArray⟩ : ByteArray) = r := str_eta r

theorem rd_byte (w : World) (x : UInt8) : Rd (w.alloc (.cells #[.int .u8 (x.toNat : Int)] 5)) 0 (w.heap.size + 1) (some ⟨w.heap.size, 0, none⟩) 1 (bv [x]) := by
  refine ⟨by simp [bv], by simp [maxLen], fun _ => ⟨w.heap.size, 0, rfl, Nat.zero_le _, by omega, fun j u hu => ?_⟩⟩
  rw [Nat.zero_add, (Blk.new w 5 #[.int .u8 (x.toNat : Int)]).cell]
  simpa [bv] using hu

set_option maxRecDepth 20000 in
set_option maxHeartbeats 2000000 in
theorem refRuns_any {w : World} (ns : List Nat) {c : Nat} {A : Option Addr} (h : Rd w 0 w.heap.size A c (iv (ints ns))) (h7 : ∀ n ∈ ns, n ≤ 257) (hn : ns.length ≤ 1000000) :
    Calls Tryd.prog 33 #[.slice A ns.length c] w fun r w' => ∃ A' c', r = .returned (.slice A' (runsL ns).length c') ∧ Rd w' 0 w'.heap.size A' c' (sv (strsL (runsL ns))) ∧ Below w.heap.size w w' := by
  have hl := h.len
  have hc := h.cap
  rw [iv_length, ints_length] at hl
  unfold maxLen at hc
  have H := Lib.hid h
  have H7 : Hid (∀ i (hi : i < ns.length), ns[i] ≤ 257) := fun i hi => h7 _ (List.getElem_mem hi)
  clear h h7
  go_enter Tryd.func33, Tryd.ntmps33
  go_wp2_with fail
  go_loopw [3, 4, 5] (fun x3 x4 x5 wr => ∃ (i : Nat) (os : List ByteArray) (r : ByteArray) (A' : Option Addr) (c' : Nat), i ≤ ns.length ∧ x5 = .int .i64 (i : Int) ∧ x4 = .string r ∧ x3 = .slice A' os.length c' ∧ os.length ≤ i ∧ r.size ≤ i ∧ (i = ns.length → r.data.toList = []) ∧
    os ++ strsL (runA r.data.toList (ns.drop i)) = strsL (runsL ns) ∧ wr.ownsRow w.heap.size 9 1 (.slice A' os.length c') os.length (sv os) ∧ Below w.heap.size w wr) (fun _ _ x5 _ => ns.length - (intOf x5).toNat)
  case atStart => exact ⟨0, [], ⟨#[]⟩, none, 0, Nat.zero_le _, rfl, rfl, rfl, Nat.le_refl _, Nat.le_refl _, fun _ => rfl, rfl, World.ownsRow_nil _ _ _ _, Below.refl _ _⟩
  case round =>
    obtain ⟨i, os, r, A', c', hi, rfl, rfl, rfl, hoi, hri, hre, hinv, hown, hb⟩ := hrel
    have HI := Lib.hid hinv
    have HO := Lib.hid hown
    have HB := Lib.hid hb
    have HRE := Lib.hid hre
    have hsz := hb.size
    clear hinv hown hb hre
    by_cases hlt : i < ns.length
    · have ik : (i : Int) < (ns.length : Int) := by omega
      obtain ⟨b, off, rfl, hsig⟩ := rd_sig (H.out.below HB.out (Nat.le_refl _)) hlt
      have hc7 := H7.out i hlt
      have HDC : Hid (ns.drop i = ns[i] :: ns.drop (i + 1)) := List.drop_eq_getElem_cons hlt
      by_cases h256 : ns[i] < 256
      · have hrun := HI.out
        rw [HDC.out, run_lit h256] at hrun
        have HRN := Lib.hid hrun
        clear hrun HI
        have hx : (UInt8.ofNat ns[i]).toNat = ns[i] := by simp; omega
        have hst : (convert 71 9 (.slice (some ⟨wr.heap.size, 0, none⟩) 1 1)).run Tryd.prog (wr.alloc (.cells #[.int .u8 ((UInt8.ofNat ns[i]).toNat : Int)] 5)) = .ok (.string ⟨#[UInt8.ofNat ns[i]]⟩) (wr.alloc (.cells #[.int .u8 ((UInt8.ofNat ns[i]).toNat : Int)] 5)) :=
          run_string_rd (P := Tryd.prog) _ 71 9 5 Tryd.underlying71 Tryd.underlying5 Tryd.underlying9 _ _ _ _ [UInt8.ofNat ns[i]] (rd_byte wr _)
        rw [hx] at hst
        have hsig2 : ∀ o, (wr.alloc o).cell? ⟨b, off + i, none⟩ = some (.int .i64 (ns[i] : Int)) := fun o => (World.cell?_alloc_lt wr o _ (World.block_lt_of_cell? wr _ hsig)).trans hsig
        generalize hcx : UInt8.ofNat ns[i] = x at *
        generalize ns[i] = cc at *
        have icc : (cc : Int) < 256 := by omega
        have iccz : (0 : Int) ≤ (cc : Int) := by omega
        have hne : (r ++ ⟨#[x]⟩ : ByteArray).toList.isEmpty = false := by
          rw [Lib.toList_data, snoc_str]
          simp
        by_cases hl : i + 1 = ns.length
        · have il : (i : Int) + 1 = (ns.length : Int) := by omega
          have hfin := HRN.out
          rw [List.drop_of_length_le (by omega), run_end, if_neg (by simp), ← snoc_str] at hfin
          have HFIN : Hid ((os ++ [r ++ ⟨#[x]⟩]) ++ strsL (runA [] (ns.drop (i + 1))) = strsL (runsL ns)) := by
            unfold Hid
            rw [List.drop_of_length_le (by omega), run_end, if_pos rfl, ← hfin]
            simp only [strsL, List.map_cons, List.map_nil, List.append_nil]
            try rw [str_eta]
          clear hfin HRN
          clear hcx
          go_wp2_with (at_builtin; refine wpList_push_str (v := .slice A' os.length c') w.heap.size os (r ++ ⟨#[x]⟩) rfl _ _ rfl rfl rfl rfl (by rw [World.cell?_alloc_at _ _ _ _ (by simp)]; rfl) ((HO.out.alloc _).alloc _) (by omega) (by simp; omega) ?_; intro A2 c2 w2 ho2 hg2)
          go_roundw
          case rel =>
            refine ⟨i + 1, os ++ [r ++ ⟨#[x]⟩], ⟨#[]⟩, A2, c2, by omega, by go_num, rfl, by rw [List.length_append]; rfl, by rw [List.length_append, List.length_cons, List.length_nil]; omega, Nat.zero_le _, fun _ => rfl, HFIN.out, ho2, ?_⟩
            exact ((HB.out.alloc hsz _).alloc (by simp; omega) _).grown hg2 (by simp; omega) (fun q hq => (own_lt HO.out hq).1)
          case measure => simp [intOf] <;> omega
        · have il : ¬ (i : Int) + 1 = (ns.length : Int) := by omega
          have HFIN : Hid (os ++ strsL (runA (r ++ ⟨#[x]⟩ : ByteArray).data.toList (ns.drop (i + 1))) = strsL (runsL ns)) := by
            unfold Hid
            rw [snoc_str]
            exact HRN.out
          have hrz : (r ++ ⟨#[x]⟩ : ByteArray).size ≤ i + 1 := by rw [snoc_size]; omega
          clear hcx
          go_wp2_with fail
          go_roundw
          case rel => exact ⟨i + 1, os, r ++ ⟨#[x]⟩, A', c', by omega, by go_num, rfl, rfl, by omega, hrz, fun h => absurd h hl, HFIN.out, HO.out.alloc _, HB.out.alloc hsz _⟩
          case measure => simp [intOf] <;> omega
      · have hrun := HI.out
        rw [HDC.out, run_wild h256] at hrun
        have HRN := Lib.hid hrun
        clear hrun HI
        generalize ns[i] = cc at *
        have icc : ¬ (cc : Int) < 256 := by omega
        by_cases hr0 : r.data.toList = []
        · have hne : r.toList.isEmpty = true := by rw [Lib.toList_data, hr0]; rfl
          have HFIN : Hid (os ++ strsL (runA r.data.toList (ns.drop (i + 1))) = strsL (runsL ns)) := by
            unfold Hid
            rw [hr0]
            have := HRN.out
            rw [if_pos hr0, List.nil_append] at this
            exact this
          have HR0 := Lib.hid hr0
          clear hr0
          go_wp2_with fail
          go_roundw
          case rel => exact ⟨i + 1, os, r, A', c', by omega, by go_num, rfl, rfl, by omega, by omega, fun _ => HR0.out, HFIN.out, HO.out, HB.out⟩
          case measure => simp [intOf] <;> omega
        · have hne : r.toList.isEmpty = false := by rw [Lib.toList_data]; exact List.isEmpty_eq_false_iff.2 hr0
          have HFIN : Hid ((os ++ [r]) ++ strsL (runA [] (ns.drop (i + 1))) = strsL (runsL ns)) := by
            unfold Hid
            have := HRN.out
            rw [if_neg hr0, strsL_append] at this
            rw [← this, List.append_assoc]
            congr 2
          go_wp2_with (at_builtin; refine wpList_push_str (v := .slice A' os.length c') w.heap.size os (r) rfl _ _ rfl rfl rfl rfl (by rw [World.cell?_alloc_at _ _ _ _ rfl]; rfl) (HO.out.alloc _) (by omega) (by simp; omega) ?_; intro A2 c2 w2 ho2 hg2)
          go_roundw
          case rel =>
            refine ⟨i + 1, os ++ [r], ⟨#[]⟩, A2, c2, by omega, by go_num, rfl, by rw [List.length_append]; rfl, by rw [List.length_append, List.length_cons, List.length_nil]; omega, Nat.zero_le _, fun _ => rfl, HFIN.out, ho2, ?_⟩
            exact (HB.out.alloc hsz _).grown hg2 (by simp; omega) (fun q hq => (own_lt HO.out hq).1)
          case measure => simp [intOf] <;> omega
    · have ik : ¬ (i : Int) < (ns.length : Int) := by omega
      have hf : os = strsL (runsL ns) := by
        have := HI.out
        rw [List.drop_of_length_le (by omega), HRE.out (by omega), run_end, if_pos rfl] at this
        simpa [strsL] using this
      have HF := Lib.hid hf
      have HFL : Hid (os.length = (runsL ns).length) := by unfold Hid; rw [hf, strsL_length]
      clear hf
      go_wp2_with fail
      go_ret
      exact ⟨A', c', by rw [← HFL.out]; rfl, by rw [← HF.out]; exact (Rd.of_own HO.out).wide (Nat.zero_le _) (Nat.le_refl _), HB.out⟩
end Go.Proofs.YtjffbjlniieciaaDoor
