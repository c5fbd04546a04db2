/-
  What every law's proof wants at its ends: arguments opened; arguments read again behind a call that writes nothing that was there.
  Arguments opened: slices of strings.
  What comes in, with the form's own reach: lists of strings.
  Arguments opened: slices of whole numbers, and of words of 32 bits.
  What comes in: a word of 32 bits.
-/
import Derived.Test.YtepgkdmfoojppaaRows
import Derived.Test.YtepgkdmfoojppaaMem
import Derived.OpenShut
import Derived.ShutString
import Derived.ChangeOld
import Derived.Test.YtepgkdmfoojppaaStrM
import Derived.SliceStrings
import Derived.SizedLaws
import Derived.Test.YtepgkdmfoojppaaIvM
namespace Go.Proofs.Ytepgkdmfoojppaa
set_option linter.unusedSimpArgs false
set_option linter.unusedVariables false
open Go.ChangeShapes Go.WideShapes Go.ChangeAt Go.RowKit

theorem own : ownKnob Try.prog.godebug = none := by kernel_rfl
theorem laidOut : laidOutB Try.prog = true := by kernel_rfl

theorem trodAll_below {H : Type} {enc : TypeId × Value → H} {P : Program} (hl : laidOutB P = true) {W W' : World} (hb : Below W.heap.size W W') :
    ∀ (ts : List TypeId) (vs : List Value) (ds : List (DataW H)) (ps : List MemPlace), (ts.all fun t => P.readableRec t && decide (t < P.types.size)) = true →
      DataW.TrodAll enc P W 0 (fun _ => true) true ts vs ds ps → DataW.TrodAll enc P W' 0 (fun b => decide (b < W.heap.size)) true ts vs ds ps
  | [], [], [], _, _, h => h
  | [], [], _ :: _, _, _, h => h.elim
  | [], _ :: _, _, _, _, h => by cases ‹List (DataW H)› <;> exact h.elim
  | _ :: _, [], _, _, _, h => by cases ‹List (DataW H)› <;> exact h.elim
  | _ :: _, _ :: _, [], _, _, h => h.elim
  | t :: ts, v :: vs, d :: ds, ps, hr, h => by
    obtain ⟨p, q, h1, h2, h3⟩ := h
    simp only [List.all_cons, Bool.and_eq_true, decide_eq_true_eq] at hr
    refine ⟨p, q, Below.trod hl hr.1.1 hr.1.2 h1 hb ?_, trodAll_below hl hb ts vs ds q hr.2 h2, h3⟩
    intro x hx
    obtain ⟨m, hm⟩ := h1
    exact DataW.trod_lt m _ _ _ hm x hx

/-- a slice of bytes that came in -/
theorem open_bytes {H : Type} {enc : TypeId × Value → H} {P : Program} {W : World} {b0 : Nat} {t e : TypeId} {v : Value} {d : DataW H} {p : List MemPlace} (ht : P.underlying t = some (.slice e)) (he : P.underlying e = some (.int .u8)) (hc : P.cellsOf e = 1)
    (hok : Value.okWide P W .any b0 t v) (h : DataW.Trod enc P W 0 (fun _ => true) true t v d p) : ∃ (A : Option Addr) (bs : List UInt8) (c : Nat), v = .slice A bs.length c ∧ Rd W 0 W.heap.size A c (bv bs) := by
  obtain ⟨a0, len0, cap0, rfl⟩ := okWide_slice ht hok
  obtain ⟨fuel, hf⟩ := h
  rcases open_ints ht he hc hf with ⟨hcs, _⟩ | ⟨x, l, c, zs, hcs, _, hl, hm, hz, _, hcell, hwz⟩
  · simp [Value.cells] at hcs
    obtain ⟨rfl, rfl, rfl⟩ := hcs
    exact ⟨none, [], 0, rfl, Rd.nil _ _ _⟩
  · simp [Value.cells] at hcs
    obtain ⟨rfl, rfl, rfl⟩ := hcs
    have hz' : zs.length = cap0 := by simpa using hz
    refine ⟨some x, (zs.take len0).map fun n => UInt8.ofNat n.toNat, cap0, ?_, ?_, hm, ?_⟩
    · simp; omega
    · simp [bv]; omega
    · intro hp
      have hp' : 0 < len0 := by simp [bv] at hp; omega
      have h0 := hcell 0 (by omega)
      obtain ⟨b, off, spot⟩ := x
      have hspot : spot = none := by simpa [Addr.add] using World.cell?_spot h0
      subst hspot
      refine ⟨b, off, rfl, Nat.zero_le _, ?_, fun j u hu => ?_⟩
      · have := World.block_lt_of_cell? W _ h0
        simpa [Addr.add] using this
      · have hj : j < len0 := by
          rcases Nat.lt_or_ge j len0 with h1 | h1
          · exact h1
          · rw [List.getElem?_eq_none (by simp [bv]; omega)] at hu; cases hu
        have hjz : j < zs.length := by omega
        have h1 := hcell j hjz
        have e1 : (⟨b, off, none⟩ : Addr).add j = ⟨b, off + j, none⟩ := by unfold Addr.add; by_cases h0 : j = 0 <;> simp [h0]
        rw [e1] at h1
        rw [h1]
        have hw := hwz zs[j] (List.getElem_mem hjz)
        have hbd : 0 ≤ zs[j] ∧ zs[j] < 256 := by
          have := bounds_u8 hw
          omega
        simp only [bv, List.map_map, List.getElem?_map, List.getElem?_take, if_pos hj, List.getElem?_eq_getElem hjz, Option.map_some, Function.comp] at hu
        rw [← hu, List.getD, List.getElem?_eq_getElem hjz, Option.getD_some]
        congr 2
        rw [UInt8.toNat_ofNat']
        omega
theorem u8_of_wf {a : Int} (h : (Lit.int .u8 a).wf = true) : ∃ b : UInt8, a = (b.toNat : Int) := by
  have hb := bounds_u8 h
  exact ⟨UInt8.ofNat a.toNat, by rw [UInt8.toNat_ofNat']; omega⟩
theorem u16_of_wf {a : Int} (h : (Lit.int .u16 a).wf = true) : ∃ n : Nat, a = (n : Int) ∧ n < 65536 := by
  have hb := bounds_u16 h
  exact ⟨a.toNat, by omega, by omega⟩
end Go.Proofs.Ytepgkdmfoojppaa
namespace Go.Proofs.Ytepgkdmfoojppaa
set_option linter.unusedSimpArgs false
set_option linter.unusedVariables false
open Go.ChangeShapes Go.WideShapes Go.ChangeAt Go.RowKit

/-- a slice of strings that came in -/
theorem open_strs {H : Type} {enc : TypeId × Value → H} {P : Program} {W : World} {b0 : Nat} {t e : TypeId} {v : Value} {d : DataW H} {p : List MemPlace} (ht : P.underlying t = some (.slice e)) (he : P.underlying e = some .string) (hc : P.cellsOf e = 1)
    (hok : Value.okWide P W .any b0 t v) (h : DataW.Trod enc P W 0 (fun _ => true) true t v d p) : ∃ (A : Option Addr) (l : List ByteArray) (c : Nat), v = .slice A l.length c ∧ (Rd W 0 W.heap.size A c (sv l) ∧ ∀ s ∈ l, s.size ≤ maxLen) := by
  obtain ⟨a0, len0, cap0, rfl⟩ := okWide_slice ht hok
  obtain ⟨fuel, hf⟩ := h
  rcases open_strings ht he hc hf with ⟨hcs, _⟩ | ⟨x, l, c, ss, hcs, _, hl, hm, hz, _, hcell, hw⟩
  · simp [Value.cells] at hcs
    obtain ⟨rfl, rfl, rfl⟩ := hcs
    exact ⟨none, [], 0, rfl, Rd.nil _ _ _, by simp⟩
  · simp [Value.cells] at hcs
    obtain ⟨rfl, rfl, rfl⟩ := hcs
    have hz' : ss.length = cap0 := by simpa using hz
    refine ⟨some x, ss.take len0, cap0, by simp; omega, ⟨by simp [sv]; omega, hm, ?_⟩, fun s hs => hw s (List.mem_of_mem_take hs)⟩
    intro hp
    have hp' : 0 < len0 := by simp [sv] at hp; omega
    have h0 := hcell 0 (by omega)
    obtain ⟨b, off, spot⟩ := x
    have hspot : spot = none := by simpa [Addr.add] using World.cell?_spot h0
    subst hspot
    refine ⟨b, off, rfl, Nat.zero_le _, ?_, fun j u hu => ?_⟩
    · have := World.block_lt_of_cell? W _ h0
      simpa [Addr.add] using this
    · have hj : j < len0 := by
        rcases Nat.lt_or_ge j len0 with h1 | h1
        · exact h1
        · rw [List.getElem?_eq_none (by simp [sv]; omega)] at hu; cases hu
      have hjz : j < ss.length := by omega
      have h1 := hcell j hjz
      have e1 : (⟨b, off, none⟩ : Addr).add j = ⟨b, off + j, none⟩ := by unfold Addr.add; by_cases h0 : j = 0 <;> simp [h0]
      rw [e1] at h1
      rw [h1]
      rw [sv_get _ _ (by rw [List.length_take]; omega)] at hu
      rw [← hu]
      simp [List.getD, List.getElem?_eq_getElem hjz]
end Go.Proofs.Ytepgkdmfoojppaa
namespace Go.Proofs.Ytepgkdmfoojppaa
set_option linter.unusedSimpArgs false
set_option linter.unusedVariables false
open Go.RowKit Go.ChangeShapes Go.WideShapes Go.ChangeAt

theorem weights_strs {H : Type} {P : Program} {e : TypeId} : ∀ (l : List ByteArray) (s : ByteArray), s ∈ l → s.data.toList.length ∈ DataW.weightsAll P e (strs l : List (DataW H))
  | [], s, h => by cases h
  | a :: l, s, h => by
    show _ ∈ DataW.weights P e (.lit (.string a.data.toList)) ++ DataW.weightsAll P e (strs l)
    rcases List.mem_cons.1 h with rfl | h
    · exact List.mem_append_left _ (by simp [DataW.weights])
    · exact List.mem_append_right _ (weights_strs l s h)

/-- a slice of strings that came in, each within the reach, and the slice itself -/
theorem open_strs_sized {H : Type} {enc : TypeId × Value → H} {P : Program} {W : World} {b0 : Nat} {t e : TypeId} {v : Value} {d : DataW H} {p : List MemPlace} (ht : P.underlying t = some (.slice e)) (he : P.underlying e = some .string) (hc : P.cellsOf e = 1) (hbe : P.bytesOf e = 16)
    (hok : Value.okWide P W .any b0 t v) (h : DataW.Trod enc P W 0 (fun _ => true) true t v d p) (hw : ∀ n ∈ d.weights P t, n ≤ reachBytes) :
    ∃ (A : Option Addr) (l : List ByteArray) (c : Nat), v = .slice A l.length c ∧ (Rd W 0 W.heap.size A c (sv l) ∧ (∀ s ∈ l, s.size ≤ 140737488351232) ∧ l.length ≤ 8796093021952) := by
  obtain ⟨A, l, c, hv, hrd, _⟩ := open_strs ht he hc hok h
  obtain ⟨fuel, hf⟩ := h
  rcases open_strings ht he hc hf with ⟨hcs, hd⟩ | ⟨x, len, cap, ss, hcs, _, hl, hm, hz, hd, hcell, _⟩
  · rw [hv] at hcs
    simp [Value.cells] at hcs
    have hl0 : l = [] := List.eq_nil_of_length_eq_zero (by simp [hcs])
    subst hl0
    exact ⟨A, [], c, hv, hrd, by simp, by simp⟩
  · have hcs2 := hcs
    rw [hv] at hcs
    simp [Value.cells] at hcs
    obtain ⟨hA, hlen, hcap⟩ := hcs
    injection hd with hd1 hd2
    have hzc : ss.length = cap := by simpa using hz
    have hls : l = ss.take len := by
      apply List.ext_getElem
      · rw [List.length_take]; omega
      · intro i h1 h2
        have hi : i < ss.length := by rw [List.length_take] at h2; omega
        have hc1 := hcell i hi
        obtain ⟨b, off, hx, _, _, hc2⟩ := hrd.str h1
        rw [hx] at hA
        injection hA with hA
        subst hA
        have e1 : (⟨b, off, none⟩ : Addr).add i = ⟨b, off + i, none⟩ := by unfold Addr.add; by_cases h0 : i = 0 <;> simp [h0]
        rw [e1, hc2] at hc1
        injection hc1 with hc1
        injection hc1 with hc1
        rw [hc1, List.getElem_take]
        simp [List.getD, List.getElem?_eq_getElem hi]
    have hwd : ∀ n ∈ DataW.weights P t (DataW.slice (strs (ss.take len)) (strs (ss.drop len)) : DataW H), n ≤ reachBytes := by rw [← hd1]; exact hw
    refine ⟨A, l, c, hv, hrd, fun s hs => ?_, ?_⟩
    · have := hwd s.data.toList.length (by
        simp only [DataW.weights, ht]
        exact List.mem_cons_of_mem _ (List.mem_append_left _ (weights_strs _ s (hls ▸ hs))))
      rw [Array.length_toList] at this
      exact this
    · have := hwd (((strs (ss.take len) : List (DataW H)).length + (strs (ss.drop len) : List (DataW H)).length) * P.bytesOf e) (by simp only [DataW.weights, ht]; exact List.mem_cons_self)
      rw [hbe] at this
      simp [strs] at this
      simp only [reachBytes] at this
      omega
end Go.Proofs.Ytepgkdmfoojppaa
namespace Go.Proofs.Ytepgkdmfoojppaa
set_option linter.unusedSimpArgs false
set_option linter.unusedVariables false
open Go.ChangeShapes Go.WideShapes Go.ChangeAt Go.RowKit

/-- a slice of numbers of one kind that came in -/
theorem open_nums {H : Type} {enc : TypeId × Value → H} {P : Program} {W : World} {b0 : Nat} {t e : TypeId} {v : Value} {d : DataW H} {p : List MemPlace} {k : IntKind} (ht : P.underlying t = some (.slice e)) (he : P.underlying e = some (.int k)) (hc : P.cellsOf e = 1)
    (hok : Value.okWide P W .any b0 t v) (h : DataW.Trod enc P W 0 (fun _ => true) true t v d p) : ∃ (A : Option Addr) (zs : List Int) (c : Nat), v = .slice A zs.length c ∧ Rd W 0 W.heap.size A c (zs.map fun z => .int k z) ∧ ∀ z ∈ zs, (Lit.int k z).wf = true := by
  obtain ⟨a0, len0, cap0, rfl⟩ := okWide_slice ht hok
  obtain ⟨fuel, hf⟩ := h
  rcases open_ints ht he hc hf with ⟨hcs, _⟩ | ⟨x, l, c, zs, hcs, _, hl, hm, hz, _, hcell, hwz⟩
  · simp [Value.cells] at hcs
    obtain ⟨rfl, rfl, rfl⟩ := hcs
    exact ⟨none, [], 0, rfl, Rd.nil _ _ _, by simp⟩
  · simp [Value.cells] at hcs
    obtain ⟨rfl, rfl, rfl⟩ := hcs
    have hz' : zs.length = cap0 := by simpa using hz
    refine ⟨some x, zs.take len0, cap0, ?_, ⟨?_, hm, ?_⟩, fun z hz => hwz z (List.mem_of_mem_take hz)⟩
    · simp; omega
    · simp; omega
    · intro hp
      have hp' : 0 < len0 := by simp at hp; omega
      have h0 := hcell 0 (by omega)
      obtain ⟨b, off, spot⟩ := x
      have hspot : spot = none := by simpa [Addr.add] using World.cell?_spot h0
      subst hspot
      refine ⟨b, off, rfl, Nat.zero_le _, ?_, fun j u hu => ?_⟩
      · have := World.block_lt_of_cell? W _ h0
        simpa [Addr.add] using this
      · have hj : j < len0 := by
          rcases Nat.lt_or_ge j len0 with h1 | h1
          · exact h1
          · rw [List.getElem?_eq_none (by simp; omega)] at hu; cases hu
        have hjz : j < zs.length := by omega
        have h1 := hcell j hjz
        have e1 : (⟨b, off, none⟩ : Addr).add j = ⟨b, off + j, none⟩ := by unfold Addr.add; by_cases h0 : j = 0 <;> simp [h0]
        rw [e1] at h1
        rw [h1]
        simp only [List.getElem?_map, List.getElem?_take, if_pos hj, List.getElem?_eq_getElem hjz, Option.map_some] at hu
        rw [← hu, List.getD, List.getElem?_eq_getElem hjz, Option.getD_some]
/-- a slice of whole numbers that came in -/
theorem open_i64s {H : Type} {enc : TypeId × Value → H} {P : Program} {W : World} {b0 : Nat} {t e : TypeId} {v : Value} {d : DataW H} {p : List MemPlace} (ht : P.underlying t = some (.slice e)) (he : P.underlying e = some (.int .i64)) (hc : P.cellsOf e = 1)
    (hok : Value.okWide P W .any b0 t v) (h : DataW.Trod enc P W 0 (fun _ => true) true t v d p) : ∃ (A : Option Addr) (zs : List Int) (c : Nat), v = .slice A zs.length c ∧ (Rd W 0 W.heap.size A c (iv zs) ∧ Word zs) := by
  obtain ⟨A, zs, c, h1, h2, h3⟩ := open_nums ht he hc hok h
  exact ⟨A, zs, c, h1, h2, fun z hz => by have := bounds_i64 (h3 z hz); omega⟩
/-- words of 32 bits as the values of their cells -/
def uv (l : List Nat) : List Value := l.map fun n : Nat => .int .u32 (n : Int)
/-- a slice of words of 32 bits that came in -/
theorem open_u32s {H : Type} {enc : TypeId × Value → H} {P : Program} {W : World} {b0 : Nat} {t e : TypeId} {v : Value} {d : DataW H} {p : List MemPlace} (ht : P.underlying t = some (.slice e)) (he : P.underlying e = some (.int .u32)) (hc : P.cellsOf e = 1)
    (hok : Value.okWide P W .any b0 t v) (h : DataW.Trod enc P W 0 (fun _ => true) true t v d p) : ∃ (A : Option Addr) (ns : List Nat) (c : Nat), v = .slice A ns.length c ∧ (Rd W 0 W.heap.size A c (uv ns) ∧ ∀ n ∈ ns, n ≤ 4294967295) := by
  obtain ⟨A, zs, c, h1, h2, h3⟩ := open_nums ht he hc hok h
  refine ⟨A, zs.map Int.toNat, c, by rw [h1, List.length_map], ?_, ?_⟩
  · have e : uv (zs.map Int.toNat) = zs.map fun z => .int .u32 z := by
      unfold uv
      rw [List.map_map]
      refine List.map_congr_left fun z hz => ?_
      have := bounds_u32 (h3 z hz)
      simp
      omega
    rw [e]
    exact h2
  · intro n hn
    obtain ⟨z, hz, rfl⟩ := List.mem_map.1 hn
    have := bounds_u32 (h3 z hz)
    omega
end Go.Proofs.Ytepgkdmfoojppaa
namespace Go.Proofs.Ytepgkdmfoojppaa
open Go.RowKit Go.ChangeShapes Go.WideShapes Go.ChangeAt

theorem u32_of_wf {a : Int} (h : (Lit.int .u32 a).wf = true) : ∃ n : Nat, a = (n : Int) ∧ n < 4294967296 := by
  have hb := bounds_u32 h
  exact ⟨a.toNat, by omega, by omega⟩
end Go.Proofs.Ytepgkdmfoojppaa
