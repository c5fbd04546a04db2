/-
  The document's Put of layer 10.
-/
import Derived.Test.YtfekdbdkcfhkiaaSymR
import Derived.Test.YtfekdbdkcfhkiaaByt
namespace Go.Proofs.Ytfekdbdkcfhkiaa
set_option linter.unusedSimpArgs false
set_option linter.unusedVariables false
open Go.RowKit

set_option maxRecDepth 20000 in
set_option maxHeartbeats 2000000 in
theorem refPutT_any {w : World} (l : List ByteArray) {c : Nat} {A : Option Addr} (h : Rd w 0 w.heap.size A c (sv l)) (hl5 : l.length ≤ 255) (h8 : ∀ s ∈ l, s.size ≤ 8) :
    Calls Try.prog 15 #[.slice A l.length c] w fun r w' => ∃ A' c', r = .returned (.slice A' (putT (bytL2 l)).length c') ∧ w'.ownsRow w.heap.size 5 1 (.slice A' (putT (bytL2 l)).length c') (putT (bytL2 l)).length (bv (putT (bytL2 l))) ∧ Below w.heap.size w w' := by
  have hl := h.len
  have hm := h.cap
  rw [sv_length] at hl
  unfold maxLen at hm
  have H := Lib.hid h
  have H8 : Hid (∀ k (hk : k < l.length), l[k].size ≤ 8) := fun k hk => h8 _ (List.getElem_mem hk)
  have hb0 : (UInt8.ofNat l.length).toNat = l.length := by simp; omega
  have hlit : (w.alloc (.cells #[.int .u8 (l.length : Int)] 5)).ownsRow w.heap.size 5 1 (.slice (some ⟨w.heap.size, 0, none⟩) 1 1) 1 (bv [UInt8.ofNat l.length]) := by
    have := World.ownsRow_lit (e := 5) (size := 1) (base := w.heap.size) w #[.int .u8 (l.length : Int)] 1 (Nat.le_refl _) (by simp [maxLen]) (by simp)
    simpa [bv, hb0] using this
  have HL := Lib.hid hlit
  have HB0 : Hid (Below w.heap.size w (w.alloc (.cells #[.int .u8 (l.length : Int)] 5))) := (Below.refl _ w).alloc (Nat.le_refl _) _
  clear h h8 hlit hb0
  go_enter Try.func15, Try.ntmps15
  go_wp2_with fail
  go_loopw [3, 4] (fun x3 x4 wr => ∃ (k : Nat) (ys : List UInt8) (A' : Option Addr) (c' : Nat), k ≤ l.length ∧ x4 = .int .i64 (k : Int) ∧ x3 = .slice A' ys.length c' ∧ ys.length ≤ 1 + 9 * k ∧ ys = UInt8.ofNat l.length :: ((bytL2 l).take k).flatMap (fun s => UInt8.ofNat s.length :: s) ∧
    wr.ownsRow w.heap.size 5 1 (.slice A' ys.length c') ys.length (bv ys) ∧ Below w.heap.size w wr) (fun _ i _ => l.length - (intOf i).toNat)
  case atStart => exact ⟨0, [UInt8.ofNat l.length], _, _, Nat.zero_le _, rfl, rfl, by simp, by simp, HL.out, HB0.out⟩
  case round =>
    clear HL HB0
    obtain ⟨k, ys, A', c', hk, rfl, rfl, hyl, hys, hown, hb⟩ := hrel
    have HYS := Lib.hid hys
    have HO := Lib.hid hown
    have HB := Lib.hid hb
    have hsz := hb.size
    clear hys hown hb
    by_cases hlt : k < l.length
    · have ik : (k : Int) < (l.length : Int) := by omega
      obtain ⟨b, off, rfl, _, hbh, hcell⟩ := (H.out.below HB.out (Nat.le_refl _)).str hlt
      have hs8 := H8.out k hlt
      have HPT := Lib.hid (put_take hlt)
      generalize l[k] = s at *
      have hbs : (UInt8.ofNat s.size).toNat = s.size := by simp; omega
      have hsl : s.data.toList.length = s.size := by rw [Array.length_toList]; rfl
      go_wp2_with (at_builtin; refine wpList_push (v := .slice A' ys.length c') w.heap.size ys (UInt8.ofNat s.size) rfl _ _ rfl rfl rfl rfl (by rw [hbs, World.cell?_alloc_at _ _ _ _ rfl]; rfl) (HO.out.alloc _) (by omega) (by simp; omega) ?_; intro A2 c2 w2 ho2 hg2; refine held ?_)
      have hb2w : Below w.heap.size w w2 := (HB.out.alloc hsz _).grown hg2 (by simp; omega) (fun q hq => (own_lt HO.out hq).1)
      have hcell2 : w2.cell? ⟨b, off + k, none⟩ = some (.string s) := by
        have h1 : wr.cell? ⟨b, off + k, none⟩ = w.cell? ⟨b, off + k, none⟩ := HB.out.cell hbh
        rw [hb2w.cell (p := ⟨b, off + k, none⟩) hbh, ← h1]
        exact hcell
      have hcv := Lib.run_convert_string_bytes (P := Try.prog) w2 9 25 5 s Try.underlying9 Try.underlying25 Try.underlying5
      have hcap := grownCap_le_maxLen w2 s.size 0 5 (by simp only [maxLen]; omega)
      have hrd := bytesWorld_rd w2 5 s hcap
      have hb3 := bytesWorld_below w2 5 s (Nat.le_refl _)
      have hsz2 := hb2w.size
      have hsz3 := hb3.size
      have hyl2 : (ys ++ [UInt8.ofNat s.size]).length = ys.length + 1 := by simp
      obtain ⟨A3, c3, w3, hrun, hown3, hg3⟩ := append_named (Lib.bytesWorld w2 5 s) w.heap.size _ (ys ++ [UInt8.ofNat s.size]) s.data.toList (ys ++ UInt8.ofNat s.size :: s.data.toList) (by simp) (own_below ho2 hb3 (Nat.le_refl _)) hrd (by omega) (by omega)
      have hb3w : Below w.heap.size w w3 := (hb2w.trans (hb3.mono hsz2)).grown hg3 (by omega) (fun q hq => (own_lt ho2 hq).1)
      rw [hyl2, hsl] at hrun
      have HO3 := Lib.hid hown3
      have HB3 := Lib.hid hb3w
      clear hown3 hg3 hb3w hrd hb3 ho2 hg2 hb2w
      refine ⟨?_⟩
      go_wp2_with (at_builtin; refine wpList_append_run rfl _ _ _ _ rfl rfl rfl hrun ?_)
      go_roundw
      case rel =>
        refine ⟨k + 1, ys ++ UInt8.ofNat s.size :: s.data.toList, A3, c3, by omega, by go_num, by rw [List.length_append, List.length_cons, hsl], ?_, ?_, HO3.out, HB3.out⟩
        · rw [List.length_append, List.length_cons, hsl]; omega
        · rw [HPT.out, HYS.out]; rfl
      case measure => simp [intOf] <;> omega
    · have ik : ¬ (k : Int) < (l.length : Int) := by omega
      have hfin : ys = putT (bytL2 l) := by
        rw [HYS.out, List.take_of_length_le (by simp [bytL2]; omega)]
        simp [putT, bytL2]
      have HF := Lib.hid hfin
      clear hfin
      go_wp2_with fail
      go_ret
      exact ⟨A', c', by rw [← HF.out]; rfl, by rw [← HF.out]; exact HO.out, HB.out⟩
end Go.Proofs.Ytfekdbdkcfhkiaa
