/-
  Heaps: how bytes compare, and whether they begin so (of the library); the bytes of a view's string; Get.
-/
import Derived.Test.YtpainhgjiddpkaaHepB
import Derived.Test.YtpainhgjiddpkaaVewF
import Derived.Lib.Bytealg
import Derived.Lib.BytesEntry
namespace Go.Proofs.Ytpainhgjiddpkaa
set_option linter.unusedSimpArgs false
set_option linter.unusedVariables false
open Go.RowKit

theorem cmpL_lib : ∀ (a b : List UInt8), Lib.compareBytes a b = cmpL a b
  | [], [] => rfl
  | [], _ :: _ => rfl
  | _ :: _, [] => rfl
  | x :: a, y :: b => by
    unfold Lib.compareBytes cmpL
    rw [cmpL_lib a b]
    rfl

set_option maxRecDepth 100000 in
theorem compareString_any (a b : ByteArray) (w : World) :
    Calls Try.prog 44 #[.string a, .string b] w fun r w' => r = .returned (.int .i64 (cmpL a.data.toList b.data.toList)) ∧ w = w' := by
  go_enter Try.func44, Try.ntmps44
  go_wp2
  rw [run_callFunc_extern Try.func46 (by kernel_rfl) (by kernel_rfl) (by kernel_rfl) (e := Extern.BytealgCompare.compare) (by kernel_rfl), Lib.run_compareString, cmpL_lib]
  simp only [Result.andThen]
  rw [Oper.upon_value]
  go_wp2
  go_ret
  exact ⟨rfl, rfl⟩
theorem scompare_any (a b : ByteArray) (w : World) :
    Calls Try.prog 40 #[.string a, .string b] w fun r w' => r = .returned (.int .i64 (cmpL a.data.toList b.data.toList)) ∧ w = w' := by
  go_enter Try.func40, Try.ntmps40
  go_wp2_with (go_at_call 44; refine (compareString_any _ _ _).mono ?_; rintro e w' ⟨rfl, rfl⟩)
  go_ret
  exact ⟨rfl, rfl⟩

/-- the entry's reading of bytes -/
theorem run_bytesOf_rd {P : Program} {w : World} {lo hi c : Nat} {A : Option Addr} {xs : List UInt8} (h : Rd w lo hi A c (bv xs)) : (Extern.Bytes.bytesOf (.slice A xs.length c)).run P w = .ok ⟨xs.toArray⟩ w := by
  rcases A with _ | ad
  · have hm : xs = [] := by
      rcases Nat.eq_zero_or_pos (bv xs).length with h0 | h0
      · exact List.eq_nil_of_length_eq_zero (by simpa [bv] using h0)
      · obtain ⟨_, _, h, _⟩ := h.at_ h0
        cases h
    subst hm
    rfl
  · have hl := Lib.run_loadBytesX (P := P) w (xs.map fun c => (c.toNat : Int)) ad .empty (fun j x hj => by
      rw [List.getElem?_map] at hj
      rcases Nat.lt_or_ge j xs.length with hjl | hjl
      · rw [List.getElem?_eq_getElem hjl] at hj
        injection hj with hj
        obtain ⟨b, off, e, _, _, hc⟩ := h.byte hjl
        injection e with e
        subst e
        have e1 : (⟨b, off, none⟩ : Addr).add j = ⟨b, off + j, none⟩ := by unfold Addr.add; by_cases h0 : j = 0 <;> simp [h0]
        rw [e1, hc, ← hj]
      · rw [List.getElem?_eq_none hjl] at hj; cases hj)
    have e : (⟨ByteArray.empty.data ++ (Lib.bytesOf (xs.map fun c => (c.toNat : Int))).toArray⟩ : ByteArray) = ⟨xs.toArray⟩ := by
      apply ByteArray.ext
      show (#[] : Array UInt8) ++ _ = xs.toArray
      rw [show Lib.bytesOf (xs.map fun c => (c.toNat : Int)) = xs from nums_bytes xs]
      simp
    rw [e, List.length_map] at hl
    exact hl
theorem run_compare_rd {P : Program} {w : World} {lo hi c lo2 hi2 c2 : Nat} {A B : Option Addr} {xs ys : List UInt8} (h : Rd w lo hi A c (bv xs)) (h2 : Rd w lo2 hi2 B c2 (bv ys)) :
    (Extern.BytealgCompare.compare #[.slice A xs.length c, .slice B ys.length c2]).run P w = .ok (.int .i64 (cmpL xs ys)) w := by
  have hs := Lib.run_compareString (P := P) ⟨xs.toArray⟩ ⟨ys.toArray⟩ w
  change Sem.run P (do pure (goInt (Extern.BytealgCompare.cmp (← Extern.Bytes.bytesOf (.slice A xs.length c)) (← Extern.Bytes.bytesOf (.slice B ys.length c2))))) w = _
  change Sem.run P (do pure (goInt (Extern.BytealgCompare.cmp (← Extern.Bytes.bytesOf (.string ⟨xs.toArray⟩)) (← Extern.Bytes.bytesOf (.string ⟨ys.toArray⟩))))) w = _ at hs
  rw [← cmpL_lib]
  simp only [Sem.run_bind, run_bytesOf_rd h, run_bytesOf_rd h2, Result.andThen]
  simp only [Extern.Bytes.bytesOf, Sem.run_bind, Sem.run_pure, Result.andThen] at hs
  exact hs

set_option maxRecDepth 100000 in
theorem bcompare_any {w : World} {lo hi c lo2 hi2 c2 : Nat} {A B : Option Addr} {xs ys : List UInt8} (h : Rd w lo hi A c (bv xs)) (h2 : Rd w lo2 hi2 B c2 (bv ys)) :
    Calls Try.prog 41 #[.slice A xs.length c, .slice B ys.length c2] w fun r w' => r = .returned (.int .i64 (cmpL xs ys)) ∧ w = w' := by
  have hr := run_compare_rd (P := Try.prog) h h2
  clear h h2
  go_enter Try.func41, Try.ntmps41
  go_wp2
  rw [run_callFunc_extern Try.func45 (by kernel_rfl) (by kernel_rfl) (by kernel_rfl) (e := Extern.BytealgCompare.compare) (by kernel_rfl), hr]
  simp only [Result.andThen]
  rw [Oper.upon_value]
  go_wp2
  go_ret
  exact ⟨rfl, rfl⟩

theorem equal_any {w : World} {lo h' lo2 h2 : Nat} {A B : Option Addr} {c d : Nat} (xs ys : List UInt8) (hx : Rd w lo h' A c (bv xs)) (hy : Rd w lo2 h2 B d (bv ys)) :
    Calls Try.prog 43 #[.slice A xs.length c, .slice B ys.length d] w fun r w' => r = .returned (.bool (decide (xs = ys))) ∧ w = w' := by
  have h1 := run_string_rd (P := Try.prog) w 36 9 5 Try.underlying36 Try.underlying5 Try.underlying9 lo h' A c xs hx
  have h2 := run_string_rd (P := Try.prog) w 36 9 5 Try.underlying36 Try.underlying5 Try.underlying9 lo2 h2 B d ys hy
  clear hx hy
  go_enter Try.func43, Try.ntmps43
  go_wp2
  go_ret
  refine ⟨ret_bool ?_, rfl⟩
  by_cases h : xs = ys
  · simp [h]
  · simp [h]

/-- whether bytes begin with four others, or fewer -/
theorem hasPrefix_any {w : World} {lo h' lo2 h2 : Nat} {A B : Option Addr} {c d : Nat} (xs ys : List UInt8) (hx : Rd w lo h' A c (bv xs)) (hy : Rd w lo2 h2 B d (bv ys)) (hle : ys.length ≤ xs.length) :
    Calls Try.prog 39 #[.slice A xs.length c, .slice B ys.length d] w fun r w' => r = .returned (.bool (decide (xs.take ys.length = ys))) ∧ w = w' := by
  have hl := hx.len
  rw [bv_length] at hl
  have hm := hx.cap
  unfold maxLen at hm
  have h3 := equal_any (w := w) (xs.take ys.length) ys (by rw [bv_take]; exact hx.take_ ys.length) hy
  rw [List.length_take, Nat.min_eq_left hle] at h3
  have i1 : (ys.length : Int) ≤ (xs.length : Int) := by omega
  have i2 : (ys.length : Int) ≤ (c : Int) := by omega
  generalize decide (xs.take ys.length = ys) = b at *
  have H3 := Lib.hid h3
  clear h3 hx hy
  go_enter Try.func39, Try.ntmps39
  go_wp2_with fail
  refine H3.out.mono ?_
  rintro r w' ⟨rfl, rfl⟩
  go_wp2
  go_ret
  exact ⟨rfl, rfl⟩
theorem hasPrefix_len {w : World} {lo h' lo2 h2 n m : Nat} {A B : Option Addr} {c d : Nat} (xs ys : List UInt8) (b : Bool) (hx : Rd w lo h' A c (bv xs)) (hy : Rd w lo2 h2 B d (bv ys)) (hn : xs.length = n) (hm : ys.length = m) (hle : m ≤ n) (he : decide (xs.take m = ys) = b) :
    Calls Try.prog 39 #[.slice A n c, .slice B m d] w fun r w' => r = .returned (.bool b) ∧ w = w' := by
  subst hn hm he
  exact hasPrefix_any xs ys hx hy hle

section
variable {w : World} {lo g : Nat} {most : Int} {bs : List UInt8} {es : List Nat} {M : Nat → Prop}
theorem find_wrong (l : List UInt8) (hl : l.length = 16) (hr : rightV l = false) :
    Calls Try.prog 29 #[hp g, .agg (vb l)] w fun r w' => r = .returned (.tuple #[.slice none 0 0, .bool false]) ∧ Below w.heap.size w w' := by
  have h1 := fun w0 => vright_any (w := w0) l hl
  rw [hr] at h1
  have hb := (Below.refl w.heap.size w).alloc (Nat.le_refl _) (.cells (vb l) 28)
  have H1 := Lib.hid h1
  have HB := Lib.hid hb
  clear h1 hb hr
  unfold hp
  go_enter Try.func29, Try.ntmps29
  go_wp2_with (refine wpList_loadV (Blk.new _ _ _) hl rfl _ rfl rfl ?_)
  refine (H1.out _).mono ?_
  rintro r w1 ⟨rfl, hb1⟩
  have HB1 := Lib.hid (below_below HB.out hb1 (by simp))
  clear hb1
  go_wp2_with fail
  go_ret2
  exact ⟨rfl, HB1.out⟩

theorem find_short (l : List UInt8) (hl : l.length = 16) (hr : rightV l = true) (hn : lenV l ≤ 12) :
    Calls Try.prog 29 #[hp g, .agg (vb l)] w fun r w' => ∃ A c, r = .returned (.tuple #[.slice A (textV l).length c, .bool true]) ∧ Rd w' 0 w'.heap.size A c (bv (textV l)) ∧ Below w.heap.size w w' := by
  have h1 := fun w0 => vright_any (w := w0) l hl
  rw [hr] at h1
  have h2 := fun w0 => vshort_any (w := w0) l hl
  rw [decide_eq_true hn] at h2
  have h3 := fun w0 => vtext_any (w := w0) l hl
  have hxl := textV_length hl
  obtain ⟨x, hx⟩ : ∃ x, textV l = x := ⟨_, rfl⟩
  rw [hx] at h3 hxl ⊢
  obtain ⟨s, hs⟩ : ∃ s : ByteArray, ⟨x.toArray⟩ = s := ⟨_, rfl⟩
  have hsl : s.data.toList = x := by rw [← hs]
  have hss : x.length = s.size := by rw [← hsl, Array.length_toList]; rfl
  rw [hs] at h3
  rw [hss] at hxl ⊢
  have hb := (Below.refl w.heap.size w).alloc (Nat.le_refl _) (.cells (vb l) 28)
  have HV0 := Lib.hid (Blk.new w 28 (vb l))
  have H1 := Lib.hid h1
  have H2 := Lib.hid h2
  have H3 := Lib.hid h3
  have HB := Lib.hid hb
  have HSL := Lib.hid hsl
  clear h1 h2 h3 hb hr hn hx hs hsl hss
  unfold hp
  go_enter Try.func29, Try.ntmps29
  go_wp2_with (refine wpList_loadV (Blk.new _ _ _) hl rfl _ rfl rfl ?_)
  refine (H1.out _).mono ?_
  rintro r w1 ⟨rfl, hb1⟩
  have HB1 := Lib.hid (below_below HB.out hb1 (by simp))
  have HV1 := Lib.hid (HV0.out.below hb1 (by simp))
  clear hb1
  go_wp2_with (refine wpList_loadV HV1.out hl rfl _ rfl rfl ?_)
  refine (H2.out _).mono ?_
  rintro r w2 ⟨rfl, hb2⟩
  have HB2 := Lib.hid (below_below HB1.out hb2 HB1.out.size)
  have HV2 := Lib.hid (HV1.out.below hb2 HV1.out.lt)
  clear hb2
  go_wp2_with (refine wpList_loadV HV2.out hl rfl _ rfl rfl ?_)
  refine (H3.out _).mono ?_
  rintro r w3 ⟨rfl, hb3⟩
  have HB3 := Lib.hid (below_below HB2.out hb3 HB2.out.size)
  have hcv := Lib.run_convert_string_bytes (P := Try.prog) w3 9 36 5 s Try.underlying9 Try.underlying36 Try.underlying5
  have hcap := grownCap_le_maxLen w3 s.size 0 5 (by simp only [maxLen]; omega)
  have hrd := bytesWorld_rd w3 5 s hcap
  have hb4 := bytesWorld_below w3 5 s (Nat.le_refl _)
  have HB4 := Lib.hid (below_below HB3.out hb4 HB3.out.size)
  have HRD := Lib.hid hrd
  clear hb3 hb4 hcap hrd
  go_wp2_with fail
  go_ret2
  refine ⟨_, _, rfl, ?_, HB4.out⟩
  rw [← HSL.out]
  exact HRD.out.wide (Nat.zero_le _) (by rw [Lib.bytesWorld_size]; exact Nat.le_refl _)
end
end Go.Proofs.Ytpainhgjiddpkaa
