/-
  What ViewRights' parts want: a view that came in; zeros behind a short string; bytes read as a string in a region that draws its order.
-/
import Derived.Test.YtoimomcmbkclpaaAwaV
import Derived.Test.YtoimomcmbkclpaaShell
namespace Go.Proofs.Ytoimomcmbkclpaa
set_option linter.unusedSimpArgs false
set_option linter.unusedVariables false
open Go.ChangeShapes Go.WideShapes Go.ChangeAt Go.RowKit

def wit16 : Value := .agg (vb zero16)

/-- sixteen bytes that came in, as an array -/
theorem open_view {H : Type} {enc : TypeId × Value → H} {P : Program} {W : World} {b0 : Nat} {t e : TypeId} {v : Value} {d : DataW H} {p : List MemPlace} (ht : P.underlying t = some (.array 16 e)) (he : P.underlying e = some (.int .u8)) (hc : P.cellsOf e = 1) (hct : P.cellsOf t = 16)
    (hok : Value.okWide P W .any b0 t v) (h : DataW.Trod enc P W 0 (fun _ => true) true t v d p) : ∃ (A : Nat) (l : List UInt8) (c : Nat), v = .agg (vb l) ∧ l.length = 16 := by
  simp only [Value.okWide, ht] at hok
  obtain ⟨cs, rfl, hcs, _⟩ := hok
  obtain ⟨fuel, hf⟩ := h
  obtain ⟨xs, m, _, _, hl, hxl, hx⟩ := DataW.trod_array ht hf
  have hcl : (Value.agg cs).cells.toList = cs.toList := rfl
  rw [hcl] at hx hl
  rw [hct] at hl
  have key : ∀ i (hi : i < cs.toList.length), ∃ b : UInt8, cs.toList[i] = .int .u8 (b.toNat : Int) := by
    intro i hi
    have h1 := hx i (by omega)
    rw [hc, Nat.mul_one, List.getElem?_eq_getElem (by omega)] at h1
    obtain ⟨z, hz, _, hw⟩ := DataW.trod_int he h1
    have h2 : cs.toList[i]? = some (.int .u8 z) := by
      have := congrArg (·[0]?) hz
      simpa [List.getElem?_take, List.getElem?_drop] using this
    have hb : 0 ≤ z ∧ z < 256 := by
      have := bounds_u8 hw
      omega
    refine ⟨UInt8.ofNat z.toNat, ?_⟩
    rw [List.getElem?_eq_getElem hi] at h2
    injection h2 with h2
    rw [h2, UInt8.toNat_ofNat']
    congr 1
    omega
  have hall : ∀ (ys : List Value), (∀ i (hi : i < ys.length), ∃ b : UInt8, ys[i] = .int .u8 (b.toNat : Int)) → ∃ l : List UInt8, ys = bv l := by
    intro ys
    induction ys with
    | nil => intro _; exact ⟨[], rfl⟩
    | cons y ys ih =>
      intro h
      obtain ⟨b, hb⟩ := h 0 (by simp)
      obtain ⟨l, hl2⟩ := ih (fun i hi => by
        have := h (i + 1) (by simp; omega)
        simpa using this)
      exact ⟨b :: l, by rw [hl2]; simp only [List.getElem_cons_zero] at hb; rw [hb]; rfl⟩
  obtain ⟨l, hl2⟩ := hall _ key
  refine ⟨0, l, 0, ?_, ?_⟩
  · congr 1
    apply Array.ext'
    rw [hl2, vb_toList]
  · rw [hl2, bv_length] at hl
    exact hl

theorem open_view16 {H : Type} {enc : TypeId × Value → H} {W : World} {b0 : Nat} {v : Value} {d : DataW H} {p : List MemPlace}
    (hok : Value.okWide Try.prog W .any b0 23 v) (h : DataW.Trod enc Try.prog W 0 (fun _ => true) true 23 v d p) : ∃ (A : Nat) (l : List UInt8) (c : Nat), v = .agg (vb l) ∧ l.length = 16 :=
  open_view Try.underlying23 Try.underlying5 (by kernel_rfl) (by kernel_rfl) hok h

/-- are the bytes from m on, up to j, zeros? -/
def zr (l : List UInt8) (m j : Nat) : Bool := ((l.take j).drop m).all (· == 0)
theorem zr_start (l : List UInt8) (m : Nat) : zr l m m = true := by
  unfold zr
  rw [List.drop_eq_nil_of_le (by rw [List.length_take]; omega)]
  rfl
theorem zr_next {l : List UInt8} {m j : Nat} (hm : m ≤ j) (hj : j < l.length) : zr l m (j + 1) = (zr l m j && (l[j] == 0)) := by
  unfold zr
  rw [List.take_succ_eq_append_getElem hj, List.drop_append_of_le_length (by rw [List.length_take]; omega), List.all_append]
  simp
theorem right_zr {l : List UInt8} (hl : l.length = 16) (hn : lenV l ≤ 12) : rightV l = zr l (4 + lenV l) 16 := by
  unfold rightV
  rw [if_pos hn]
  unfold zr
  rw [List.take_of_length_le (by omega)]
  have h4 : le4 (lenV l) = l.take 4 := le4_num (by rw [List.length_take]; omega)
  have ht : textV l = (l.drop 4).take (lenV l) := by unfold textV; rw [if_pos hn]
  have htl : (textV l).length = lenV l := by rw [ht, List.length_take, List.length_drop]; omega
  have hsh : shortL (textV l) = l.take 4 ++ (l.drop 4).take (lenV l) ++ List.replicate (12 - lenV l) 0 := by
    unfold shortL
    rw [htl, h4, ht]
  have hsp : l = l.take 4 ++ (l.drop 4).take (lenV l) ++ l.drop (4 + lenV l) := by
    rw [List.append_assoc, ← List.drop_drop, List.take_append_drop, List.take_append_drop]
  have hrl : (l.drop (4 + lenV l)).length = 12 - lenV l := by rw [List.length_drop]; omega
  rw [hsh]
  generalize lenV l = n at *
  generalize l.take 4 ++ (l.drop 4).take n = x at *
  generalize l.drop (4 + n) = y at *
  rw [hsp]
  have e : (x ++ y = x ++ List.replicate (12 - n) 0) ↔ (y = List.replicate (12 - n) 0) := ⟨fun h => List.append_cancel_left h, fun h => by rw [h]⟩
  rw [Bool.eq_iff_iff, decide_eq_true_iff, e, ← hrl, List.eq_replicate_iff, List.all_eq_true]
  simp

/-- bytes of a view read as a string, in every world that has them still -/
theorem conv_range {w : World} {g : Nat} {l : List UInt8} (h : w.rangeAt g 0 (bv l)) (hl : l.length = 16) (off n c : Nat) (ho : off + n ≤ 16) (hc : c = 16 - off) :
    (convert 27 9 (.slice (some ⟨g, off, none⟩) n c)).run Try.prog w = .ok (.string ⟨((l.drop off).take n).toArray⟩) w := by
  have hrd : Rd w g (g + 1) (some ⟨g, off, none⟩) c (bv ((l.drop off).take n)) := by
    refine ⟨by rw [bv_length, List.length_take, List.length_drop]; omega, by simp only [maxLen]; omega, fun _ => ⟨g, off, rfl, Nat.le_refl _, by omega, fun j u hu => ?_⟩⟩
    have hj : j < n := by
      rcases Nat.lt_or_ge j n with h1 | h1
      · exact h1
      · rw [List.getElem?_eq_none (by rw [bv_length, List.length_take]; omega)] at hu; cases hu
    have := h (off + j) u (by rw [← hu]; simp [bv, List.getElem?_take, hj])
    rwa [Nat.zero_add] at this
  have h1 := run_string_rd (P := Try.prog) w 27 9 5 Try.underlying27 Try.underlying5 Try.underlying9 g (g + 1) (some ⟨g, off, none⟩) c ((l.drop off).take n) hrd
  have e : ((l.drop off).take n).length = n := by rw [List.length_take, List.length_drop]; omega
  rwa [e] at h1

theorem run_slice48 (w : World) (g : Nat) : (Instr.sliceAt 23 (.pointer (some ⟨g, 0, none⟩)) (some (.int .i64 4)) (some (.int .i64 8)) none).run Try.prog w = .ok (.slice (some ⟨g, 4, none⟩) 4 12) w := by
  have h := run_sliceV w g .i64 .i64 4 8 4 8 rfl rfl (by omega) (by omega) (by omega)
  rwa [if_neg (by omega)] at h
theorem lenV_at (l : List UInt8) : numAt l 0 = lenV l := by
  unfold numAt lenV
  rw [List.drop_zero]

end Go.Proofs.Ytoimomcmbkclpaa
