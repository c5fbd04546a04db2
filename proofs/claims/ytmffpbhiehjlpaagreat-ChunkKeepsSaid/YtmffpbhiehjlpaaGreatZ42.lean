/-
  Values of a row, and codings, that came in.
  The document's own Same: whether two lists of bytes are alike.
  What every law's proof wants at its ends: arguments opened; arguments read again behind a call that writes nothing that was there.
  How long the bytes of few values are, in plain.
  What a chunk of values says of how they are coded: of a dictionary each value's code; else bytes that are alike just if strings are.
  Arguments opened: slices of strings.
  Parts of values, and the least payload, in plain; a part of a row of values.
-/
import Derived.Test.YtmffpbhiehjlpaaGreatRows
import Derived.Test.YtmffpbhiehjlpaaGreatZ00
import Derived.Test.YtmffpbhiehjlpaaGreatZ17
import Derived.Test.YtmffpbhiehjlpaaGreatZ04
import Derived.KernelRfl
import Derived.Outline
import Derived.BigQuiet
import Derived.Deep.QuietTactic
import Derived.OpenShut
import Derived.ShutString
import Derived.ChangeOld
import Derived.Test.YtmffpbhiehjlpaaGreatZ32
import Derived.Test.YtmffpbhiehjlpaaGreatZ40
import Derived.Test.YtmffpbhiehjlpaaGreatZ31
import Derived.Test.YtmffpbhiehjlpaaGreatZ41
import Derived.Test.YtmffpbhiehjlpaaGreatZ10
import Derived.SliceStrings
namespace Go.Proofs.YtmffpbhiehjlpaaGreat
set_option linter.unusedSimpArgs false
set_option linter.unusedVariables false
set_option maxRecDepth 100000
open Go.RowKit Go.ChangeShapes Go.WideShapes Go.ChangeAt
theorem i64_wf {z : Int} (h : (Lit.int .i64 z).wf = true) : I64 z := by
  simp [Lit.wf] at h
  unfold I64
  first | exact h | (constructor <;> omega) | (simp [IntKind.min, IntKind.max] at h; omega)
variable {H : Type} {enc : TypeId × Value → H} {W : World}
theorem row_fuel {fuel : Nat} {cs : List Value} {x : DataW H × List MemPlace} (h : DataW.trod enc Tryz.prog W 0 (fun _ => true) true fuel 22 cs = some x) :
    ∃ A r c, cs = [.slice A r.length c] ∧ Row W 0 W.heap.size A c r := by
  have c1 : Tryz.prog.cellsOf 4 = 1 := by kernel_rfl
  have c2 : Tryz.prog.cellsOf 9 = 1 := by kernel_rfl
  have c6 : Tryz.prog.cellsOf 55 = 2 := by kernel_rfl
  obtain ⟨A, c, css, m, hm, e5, hels, hcs⟩ := open_els Tryz.underlying22 c6 (by omega) h
  have hv : ∀ j, j < css.length → ∃ v : Vl, css[j]? = some (vlVals v) ∧ v.s.size ≤ 9223372036854775807 := fun j hj => by
    obtain ⟨_, y, hy⟩ := hcs j hj
    obtain ⟨xs, n, rfl, rfl, hl, hlen, hf⟩ := DataW.trod_struct Tryz.underlying55 hy
    have hx2 : xs.length = 2 := hlen
    have h0 := hf 0 _ rfl
    have h1 := hf 1 _ rfl
    rw [List.getElem?_eq_getElem (by omega)] at h0 h1
    have hl2 : css[j].length = 2 := hl.trans (by kernel_rfl)
    obtain ⟨l, hle⟩ : ∃ l, css[j] = l := ⟨_, rfl⟩
    rw [hle] at hl2 h0 h1
    match l, hl2 with
    | [a0, a1], _ =>
      obtain ⟨z0, e0, _⟩ := DataW.trod_bool Tryz.underlying4 h0
      obtain ⟨s1, e1, _, w1⟩ := DataW.trod_string Tryz.underlying9 h1
      simp [c1, c2] at e0 e1
      subst e0 e1
      exact ⟨⟨z0, s1⟩, by rw [List.getElem?_eq_getElem hj, hle]; rfl, w1⟩
  obtain ⟨r, hrl, hr⟩ := list_of hv
  refine ⟨A, r, c, by rw [e5, hrl], ⟨?_, fun v hvm => ?_⟩⟩
  · rw [hrl]
    refine ⟨hels.len, hels.cap, fun hp => ?_⟩
    obtain ⟨b, off, g1, g2, g3, g4⟩ := hels.lies hp
    refine ⟨b, off, g1, g2, g3, fun j hj i hi => (g4 j hj i hi).trans ?_⟩
    have hjq : j < r.length := by omega
    have := (hr j hjq).1
    simp [this, List.getElem?_eq_getElem hjq]
  · obtain ⟨j, hj, rfl⟩ := List.getElem_of_mem hvm
    exact (hr j hj).2
theorem open_row {b0 : Nat} {v : Value} {d : DataW H} {q : List MemPlace} (hok : Value.okWide Tryz.prog W .any b0 22 v) (h : DataW.Trod enc Tryz.prog W 0 (fun _ => true) true 22 v d q) :
    ∃ A r c, v = .slice A r.length c ∧ Row W 0 W.heap.size A c r := by
  obtain ⟨a0, l0, c0, rfl⟩ := okWide_slice Tryz.underlying22 hok
  obtain ⟨fuel, hf⟩ := h
  obtain ⟨A, r, c, he, hr⟩ := row_fuel hf
  simp [Value.cells] at he
  obtain ⟨rfl, rfl, rfl⟩ := he
  exact ⟨_, r, _, rfl, hr⟩
theorem nums_fuel {fuel : Nat} {cs : List Value} {x : DataW H × List MemPlace} (h : DataW.trod enc Tryz.prog W 0 (fun _ => true) true fuel 23 cs = some x) :
    ∃ A zs c, cs = [.slice A zs.length c] ∧ Rd W 0 W.heap.size A c (iv zs) ∧ Word zs := by
  have c1 : Tryz.prog.cellsOf 3 = 1 := by kernel_rfl
  obtain ⟨A, c, css, m, hm, e5, hels, hcs⟩ := open_els Tryz.underlying23 c1 (by omega) h
  have hv : ∀ j, j < css.length → ∃ z : Int, css[j]? = some [.int .i64 z] ∧ I64 z := fun j hj => by
    obtain ⟨_, y, hy⟩ := hcs j hj
    obtain ⟨z, e, _, wz⟩ := DataW.trod_int Tryz.underlying3 hy
    exact ⟨z, by rw [List.getElem?_eq_getElem hj, e], i64_wf wz⟩
  obtain ⟨zs, hzl, hz⟩ := list_of hv
  refine ⟨A, zs, c, by rw [e5, hzl], ⟨by rw [iv_length, hzl]; exact hels.len, hels.cap, fun hp => ?_⟩, fun z hzm => ?_⟩
  · rw [iv_length, hzl] at hp
    obtain ⟨b, off, g1, g2, g3, g4⟩ := hels.lies hp
    refine ⟨b, off, g1, g2, g3, fun j u hu => ?_⟩
    have hj : j < zs.length := by
      have := (List.getElem?_eq_some_iff.1 hu).1
      rwa [iv_length] at this
    have h1 := g4 j (by omega) 0 (by omega)
    rw [Nat.mul_one, Nat.add_zero] at h1
    rw [h1, (hz j hj).1]
    have h2 : (iv zs)[j]? = some (.int .i64 zs[j]) := by simp [iv, List.getElem?_eq_getElem hj]
    rw [h2] at hu
    rw [← Option.some.inj hu]
    rfl
  · obtain ⟨j, hj, rfl⟩ := List.getElem_of_mem hzm
    exact (hz j hj).2
theorem open_coding {b0 : Nat} {v : Value} {d : DataW H} {q : List MemPlace} (hok : Value.okWide Tryz.prog W .any b0 25 v) (h : DataW.Trod enc Tryz.prog W 0 (fun _ => true) true 25 v d q) :
    ∃ (A : Option Addr) (o : Co) (c : Nat), v = .agg #[.int .i64 o.kind, .int .i64 o.block, .int .i64 o.rounds, .slice A o.draws.length c] ∧ Rd W 0 W.heap.size A c (iv o.draws) ∧ Word o.draws := by
  obtain ⟨cs, rfl, _⟩ := okWide_struct Tryz.underlying25 hok
  obtain ⟨fuel, hf0⟩ := h
  obtain ⟨xs, n, rfl, -, hl, hlen, hf⟩ := DataW.trod_struct Tryz.underlying25 hf0
  obtain ⟨l, hle⟩ : ∃ l, (Value.agg cs).cells.toList = l := ⟨_, rfl⟩
  rw [hle] at hl hf
  have hl4 : l.length = 4 := hl.trans (by kernel_rfl)
  have hx4 : xs.length = 4 := hlen
  have c1 : Tryz.prog.cellsOf 3 = 1 := by kernel_rfl
  have c2 : Tryz.prog.cellsOf 23 = 1 := by kernel_rfl
  match l, hl4 with
  | [a0, a1, a2, a3], _ =>
    have h0 := hf 0 _ rfl
    have h1 := hf 1 _ rfl
    have h2 := hf 2 _ rfl
    have h3 := hf 3 _ rfl
    rw [List.getElem?_eq_getElem (by omega)] at h0 h1 h2 h3
    obtain ⟨z0, e0, _, w0⟩ := DataW.trod_int Tryz.underlying3 h0
    obtain ⟨z1, e1, _, w1⟩ := DataW.trod_int Tryz.underlying3 h1
    obtain ⟨z2, e2, _, w2⟩ := DataW.trod_int Tryz.underlying3 h2
    obtain ⟨A, zs, c, e3, hr, hw⟩ := nums_fuel h3
    simp [c1, c2] at e0 e1 e2 e3
    subst e0 e1 e2 e3
    refine ⟨A, ⟨z0, z1, z2, zs⟩, c, ?_, hr, hw⟩
    congr 1
    apply Array.toList_inj.1
    simpa [Value.cells] using hle
end Go.Proofs.YtmffpbhiehjlpaaGreat
namespace Go.Proofs.YtmffpbhiehjlpaaGreat
set_option linter.unusedSimpArgs false
set_option linter.unusedVariables false
open Go.RowKit
theorem same_any {w : World} {lo h' lo2 h2 : Nat} {A B : Option Addr} {c d : Nat} (xs ys : List UInt8) (hx : Rd w lo h' A c (bv xs)) (hy : Rd w lo2 h2 B d (bv ys)) :
    Calls Tryz.prog 16 #[.slice A xs.length c, .slice B ys.length d] w fun r w' => r = .returned (.bool (decide (xs = ys))) ∧ w = w' := by
  have h1 := run_string_rd (P := Tryz.prog) w 28 9 5 Tryz.underlying28 Tryz.underlying5 Tryz.underlying9 lo h' A c xs hx
  have h2 := run_string_rd (P := Tryz.prog) w 28 9 5 Tryz.underlying28 Tryz.underlying5 Tryz.underlying9 lo2 h2 B d ys hy
  clear hx hy
  go_enter Tryz.func16, Tryz.ntmps16
  go_wp2
  go_ret
  refine ⟨ret_bool ?_, rfl⟩
  by_cases h : xs = ys
  · simp [h]
  · simp [h]
theorem same_take {w : World} {lo h' lo2 h2 : Nat} {A B : Option Addr} {c d : Nat} (xs ys : List UInt8) (k : Nat) (hk : k ≤ ys.length) (hx : Rd w lo h' A c (bv xs)) (hy : Rd w lo2 h2 B d (bv ys)) (he : xs = ys.take k) :
    Calls Tryz.prog 16 #[.slice A xs.length c, .slice B k d] w fun r w' => r = .returned (.bool true) ∧ w = w' := by
  have h := same_any xs (ys.take k) hx (by rw [bv_take]; exact hy.take_ k)
  rw [List.length_take, Nat.min_eq_left hk, decide_eq_true he] at h
  exact h
theorem same_len {w : World} {lo h' lo2 h2 n m : Nat} {A B : Option Addr} {c d : Nat} (xs ys : List UInt8) (b : Bool) (hx : Rd w lo h' A c (bv xs)) (hy : Rd w lo2 h2 B d (bv ys)) (hn : xs.length = n) (hm : ys.length = m) (he : decide (xs = ys) = b) :
    Calls Tryz.prog 16 #[.slice A n c, .slice B m d] w fun r w' => r = .returned (.bool b) ∧ w = w' := by
  subst hn hm he
  exact same_any xs ys hx hy
end Go.Proofs.YtmffpbhiehjlpaaGreat
namespace Go.Proofs.YtmffpbhiehjlpaaGreat
set_option linter.unusedSimpArgs false
set_option linter.unusedVariables false
open Go.ChangeShapes Go.WideShapes Go.ChangeAt Go.RowKit
theorem own : ownKnob Tryz.prog.godebug = none := by kernel_rfl
theorem laidOut : laidOutB Tryz.prog = true := by kernel_rfl
theorem trodAll_below {H : Type} {enc : TypeId × Value → H} {P : Program} (hl : laidOutB P = true) {W W' : World} (hb : Below W.heap.size W W') :
    ∀ (ts : List TypeId) (vs : List Value) (ds : List (DataW H)) (ps : List MemPlace), (ts.all fun t => P.readableRec t && decide (t < P.types.size)) = true →
      DataW.TrodAll enc P W 0 (fun _ => true) true ts vs ds ps → DataW.TrodAll enc P W' 0 (fun b => decide (b < W.heap.size)) true ts vs ds ps
  | [], [], [], _, _, h => h
  | [], [], _ :: _, _, _, h => h.elim
  | [], _ :: _, _, _, _, h => by cases ‹List (DataW H)› <;> exact h.elim
  | _ :: _, [], _, _, _, h => by cases ‹List (DataW H)› <;> exact h.elim
  | _ :: _, _ :: _, [], _, _, h => h.elim
  | t :: ts, v :: vs, d :: ds, ps, hr, h => by
    obtain ⟨p, q, h1, h2, h3⟩ := h
    simp only [List.all_cons, Bool.and_eq_true, decide_eq_true_eq] at hr
    refine ⟨p, q, Below.trod hl hr.1.1 hr.1.2 h1 hb ?_, trodAll_below hl hb ts vs ds q hr.2 h2, h3⟩
    intro x hx
    obtain ⟨m, hm⟩ := h1
    exact DataW.trod_lt m _ _ _ hm x hx
theorem open_bytes {H : Type} {enc : TypeId × Value → H} {P : Program} {W : World} {b0 : Nat} {t e : TypeId} {v : Value} {d : DataW H} {p : List MemPlace} (ht : P.underlying t = some (.slice e)) (he : P.underlying e = some (.int .u8)) (hc : P.cellsOf e = 1)
    (hok : Value.okWide P W .any b0 t v) (h : DataW.Trod enc P W 0 (fun _ => true) true t v d p) : ∃ (A : Option Addr) (bs : List UInt8) (c : Nat), v = .slice A bs.length c ∧ Rd W 0 W.heap.size A c (bv bs) := by
  obtain ⟨a0, len0, cap0, rfl⟩ := okWide_slice ht hok
  obtain ⟨fuel, hf⟩ := h
  rcases open_ints ht he hc hf with ⟨hcs, _⟩ | ⟨x, l, c, zs, hcs, _, hl, hm, hz, _, hcell, hwz⟩
  · simp [Value.cells] at hcs
    obtain ⟨rfl, rfl, rfl⟩ := hcs
    exact ⟨none, [], 0, rfl, Rd.nil _ _ _⟩
  · simp [Value.cells] at hcs
    obtain ⟨rfl, rfl, rfl⟩ := hcs
    have hz' : zs.length = cap0 := by simpa using hz
    refine ⟨some x, (zs.take len0).map fun n => UInt8.ofNat n.toNat, cap0, ?_, ?_, hm, ?_⟩
    · simp; omega
    · simp [bv]; omega
    · intro hp
      have hp' : 0 < len0 := by simp [bv] at hp; omega
      have h0 := hcell 0 (by omega)
      obtain ⟨b, off, spot⟩ := x
      have hspot : spot = none := by simpa [Addr.add] using World.cell?_spot h0
      subst hspot
      refine ⟨b, off, rfl, Nat.zero_le _, ?_, fun j u hu => ?_⟩
      · have := World.block_lt_of_cell? W _ h0
        simpa [Addr.add] using this
      · have hj : j < len0 := by
          rcases Nat.lt_or_ge j len0 with h1 | h1
          · exact h1
          · rw [List.getElem?_eq_none (by simp [bv]; omega)] at hu; cases hu
        have hjz : j < zs.length := by omega
        have h1 := hcell j hjz
        have e1 : (⟨b, off, none⟩ : Addr).add j = ⟨b, off + j, none⟩ := by unfold Addr.add; by_cases h0 : j = 0 <;> simp [h0]
        rw [e1] at h1
        rw [h1]
        have hw := hwz zs[j] (List.getElem_mem hjz)
        have hbd : 0 ≤ zs[j] ∧ zs[j] < 256 := by
          have := bounds_u8 hw
          omega
        simp only [bv, List.map_map, List.getElem?_map, List.getElem?_take, if_pos hj, List.getElem?_eq_getElem hjz, Option.map_some, Function.comp] at hu
        rw [← hu, List.getD, List.getElem?_eq_getElem hjz, Option.getD_some]
        congr 2
        rw [UInt8.toNat_ofNat']
        omega
theorem u8_of_wf {a : Int} (h : (Lit.int .u8 a).wf = true) : ∃ b : UInt8, a = (b.toNat : Int) := by
  have hb := bounds_u8 h
  exact ⟨UInt8.ofNat a.toNat, by rw [UInt8.toNat_ofNat']; omega⟩
theorem u16_of_wf {a : Int} (h : (Lit.int .u16 a).wf = true) : ∃ n : Nat, a = (n : Int) ∧ n < 65536 := by
  have hb := bounds_u16 h
  exact ⟨a.toNat, by omega, by omega⟩
end Go.Proofs.YtmffpbhiehjlpaaGreat
namespace Go.Proofs.YtmffpbhiehjlpaaGreat
set_option linter.unusedSimpArgs false
set_option linter.unusedVariables false
open Go.RowKit
theorem write_few {ns : List Nat} (hl : ns.length ≤ 100) (h : ∀ x ∈ ns, x < 16384) : (writeL (ints ns)).length ≤ 3 + 2 * ns.length := by
  have hw : wide (ints ns) ≤ 14 := wide_le (ints ns) 14 (by omega) fun z hz => by
    obtain ⟨n, hn, rfl⟩ := List.mem_map.1 hz
    have := h n hn
    show (n : Int) < 2 ^ 14
    omega
  have h1 : ns.length * wide (ints ns) ≤ ns.length * 14 := Nat.mul_le_mul_left _ hw
  rw [writeL, putL_small (by rw [ints_length]; omega), List.length_append, List.length_append, packL_length, nats_length, ints_length]
  simp only [List.length_singleton]
  omega
theorem texts_sum : ∀ L : List Vl, ((textsL L).map ByteArray.size).sum ≤ sumV L
  | [] => Nat.le_refl _
  | v :: L => by
    have ih := texts_sum L
    unfold textsL sumV at *
    cases hn : v.null
    · simp [List.filter_cons, hn] at ih ⊢
      exact ih
    · simp [List.filter_cons, hn] at ih ⊢
      omega
theorem flat_texts (S : List ByteArray) : (bytL2 S).flatten.length = (S.map ByteArray.size).sum := by
  induction S with
  | nil => rfl
  | cons a S ih =>
    show (a.data.toList ++ (bytL2 S).flatten).length = _
    rw [List.length_append, ih, bytS_len]
    rfl
theorem flat_enc (T : List (List UInt8)) (S : List ByteArray) : ((bytL2 S).map (encL T)).flatten.length ≤ 2 * (S.map ByteArray.size).sum := by
  induction S with
  | nil => exact Nat.le_refl _
  | cons a S ih =>
    have h1 := enc_len T a.data.toList
    show (encL T a.data.toList ++ ((bytL2 S).map (encL T)).flatten).length ≤ 2 * (a.size + (S.map ByteArray.size).sum)
    rw [List.length_append]
    rw [bytS_len] at h1
    omega
theorem sum_erase {x : List UInt8} : ∀ {l : List (List UInt8)}, x ∈ l → sumL l = x.length + sumL (l.erase x)
  | [], h => by cases h
  | y :: l, h => by
    by_cases e : y = x
    · subst e
      rw [List.erase_cons_head]
      rfl
    · have h2 : x ∈ l := by
        rcases List.mem_cons.1 h with h | h
        · exact absurd h.symm e
        · exact h
      have ih := sum_erase h2
      rw [List.erase_cons_tail (by simpa using e)]
      show y.length + sumL l = x.length + (y.length + sumL (l.erase x))
      omega
theorem sum_sub : ∀ {D l : List (List UInt8)}, D.Nodup → (∀ x ∈ D, x ∈ l) → sumL D ≤ sumL l
  | [], l, _, _ => Nat.zero_le _
  | x :: D, l, hn, hs => by
    obtain ⟨h1, h2⟩ := List.nodup_cons.1 hn
    have h3 := sum_erase (hs x List.mem_cons_self)
    have h4 := sum_sub (D := D) (l := l.erase x) h2 fun y hy => (List.mem_erase_of_ne (fun e : y = x => h1 (by rw [← e]; exact hy))).2 (hs y (List.mem_cons_of_mem _ hy))
    show x.length + sumL D ≤ _
    omega
theorem sumL_texts (S : List ByteArray) : sumL (bytL2 S) = (S.map ByteArray.size).sum := by
  induction S with
  | nil => rfl
  | cons a S ih =>
    show a.data.toList.length + sumL (bytL2 S) = _
    rw [ih, bytS_len]
    rfl
section
variable {L : List Vl} {o : Co}
theorem few_mem (hf : FitsV L) : ∀ x ∈ bytL2 (textsL L), x.length ≤ 4096 := fun x hx => by
  obtain ⟨s, hs, rfl⟩ := List.mem_map.1 hx
  obtain ⟨v, hv, rfl⟩ := textsL_mem hs
  rw [bytS_len]
  exact (hf.2 v hv).1
theorem pay_one (hf : FitsV L) (hl : L.length ≤ 100) : (payK (textsL L) o 1).length ≤ sumV L + 2 * L.length + 3 := by
  have h1 := textsL_le L
  have h2 := texts_sum L
  have h3 := write_few (ns := (bytL2 (textsL L)).map List.length) (by rw [List.length_map, bytL2_length]; omega) fun x hx => by
    obtain ⟨y, hy, rfl⟩ := List.mem_map.1 hx
    have := few_mem hf y hy
    omega
  rw [List.length_map, bytL2_length] at h3
  rw [payK, if_neg (by decide), if_neg (by decide), joinB, List.length_append, flat_texts]
  omega
theorem putT_most {t : List (List UInt8)} (h : rightT t = true) : (putT t).length ≤ 2296 := by
  obtain ⟨h1, h2, -⟩ := rightT_iff.1 h
  have h3 : ∀ {u : List (List UInt8)}, (∀ s ∈ u, okS s = true) → (symB u).length ≤ 9 * u.length := by
    intro u
    induction u with
    | nil => intro _; simp [symB]
    | cons a u ih =>
      intro hu
      have h4 := ih fun s hs => hu s (List.mem_cons_of_mem _ hs)
      have h5 := (okS_iff.1 (hu a List.mem_cons_self)).2
      rw [symB_cons, List.length_cons, List.length_append, List.length_cons]
      omega
  have h4 := h3 h2
  rw [putT_symB, List.length_cons]
  omega
theorem pay_two (hf : FitsV L) (hl : L.length ≤ 100) (ht : rightT (tabS (textsL L) o) = true) : (payK (textsL L) o 2).length ≤ 2 * sumV L + 2 * L.length + 2299 := by
  have h1 := textsL_le L
  have h2 := texts_sum L
  have h3 := write_few (ns := ((bytL2 (textsL L)).map (encL (tabS (textsL L) o))).map List.length) (by rw [List.length_map, List.length_map, bytL2_length]; omega) fun x hx => by
    obtain ⟨y, hy, rfl⟩ := List.mem_map.1 hx
    obtain ⟨z, hz, rfl⟩ := List.mem_map.1 hy
    have h4 := few_mem hf z hz
    have h5 := enc_len (tabS (textsL L) o) z
    omega
  rw [List.length_map, List.length_map, bytL2_length] at h3
  have h6 := flat_enc (tabS (textsL L) o) (textsL L)
  have h7 := putT_most ht
  rw [payK, if_pos rfl, List.length_append, joinB, List.length_append]
  omega
theorem pay_three (hf : FitsV L) (hl : L.length ≤ 100) (hK : o.block.toNat ≤ 64) : (payK (textsL L) o 3).length ≤ sumV L + 12 * L.length + 13 := by
  have h1 := textsL_le L
  have h2 := texts_sum L
  have hd := dic_of (bytL2 (textsL L))
  have h4 := hd.len
  rw [bytL2_length] at h4
  have hdic := hd.dic (by rw [bytL2_length]; omega) (few_mem hf)
  have h5 := front_len hK hdic
  have h6 := sum_sub (rises_nodup hd.1) (fun x hx => (hd.2 x).1 hx)
  rw [sumL_texts] at h6
  have h3 := write_few (ns := codesN (dicS (bytL2 (textsL L))) (bytL2 (textsL L))) (by rw [codesN, List.length_map, bytL2_length]; omega) fun x hx => by
    obtain ⟨y, hy, rfl⟩ := List.mem_map.1 hx
    have := List.idxOf_lt_length_of_mem ((hd.2 y).2 hy)
    omega
  rw [codesN, List.length_map, bytL2_length] at h3
  rw [payK, if_neg (by decide), if_pos rfl, List.length_append, codesN]
  omega
theorem code_len (hf : FitsV L) (hc : CoOk o) (ht : kindK (textsL L) o = 2 → rightT (tabS (textsL L) o) = true) (hl : L.length ≤ 100) (hs : sumV L ≤ 5000) : (codeL L o).length ≤ 1000000 := by
  have h1 := bitB_len (thereL L) (by rw [thereL_length]; omega)
  have h0 : (writeB (thereL L)).length ≤ 500000 := by
    have := writeB_length (thereL L) (by rw [thereL_length]; omega)
    rw [thereL_length] at this
    omega
  have hk := kindK_is (textsL L) hc
  obtain ⟨_, _, hb1, hb2, _⟩ := hc
  rw [codeL, List.length_cons, List.length_append]
  rcases hk with hk | hk | hk
  · rw [hk]
    have := pay_one (o := o) hf hl
    omega
  · have := pay_two (o := o) hf hl (ht hk)
    rw [hk]
    omega
  · rw [hk]
    have := pay_three (o := o) hf hl (by omega)
    omega
end
end Go.Proofs.YtmffpbhiehjlpaaGreat
namespace Go.Proofs.YtmffpbhiehjlpaaGreat
set_option linter.unusedSimpArgs false
set_option linter.unusedVariables false
open Go.RowKit
theorem DcR.below {w w' : World} {d : Nat} {ys : List ByteArray} (h : DcR w d ys) (hb : Below w.heap.size w w') : DcR w' d ys := by
  obtain ⟨A, c, h1, h2, h3⟩ := h
  have hlt := World.block_lt_of_cell? w _ h1
  refine ⟨A, c, (hb.cell (p := ⟨d, 0, none⟩) hlt).trans h1, ?_, (h3.below hb (Nat.le_refl _)).wide (Nat.le_refl _) hb.size⟩
  rw [← h2]
  unfold World.frozen?
  rw [hb.block d hlt]
theorem texts_at {L : List Vl} (hL : ∀ v ∈ L, VlOk v) {i : Nat} (hi : i < L.length) (hn : L[i].null = false) : ∃ j, cnt ((thereL L).take i) = j ∧ (textsL L)[j]? = some L[i].s := by
  have ht : (thereL L)[i]? = some true := by
    rw [thereL, List.getElem?_map, List.getElem?_eq_getElem hi]
    simp [hn]
  obtain ⟨j, h1, h2, h3⟩ := spread_is (thereL L) ((textsL L).map (Vl.mk false)) ⟨true, ⟨#[]⟩⟩ ht (by rw [List.length_map, texts_cnt]; exact Nat.le_refl _)
  rw [spread_vals hL, List.getElem?_eq_getElem hi, List.getElem?_map] at h3
  rw [List.length_map] at h2
  rw [List.getElem?_eq_getElem h2] at h3
  refine ⟨j, h1, ?_⟩
  rw [List.getElem?_eq_getElem h2]
  have h4 : L[i] = Vl.mk false (textsL L)[j] := by simpa using h3
  rw [h4]
theorem there_at {L : List Vl} {i : Nat} (hi : i < L.length) : (thereL L)[i]? = some (!L[i].null) := by
  rw [thereL, List.getElem?_map, List.getElem?_eq_getElem hi]
  rfl
def CodesAt (L : List Vl) (ys : List ByteArray) (cs : List Int) : Prop :=
  ∀ i (hi : i < L.length), (L[i].null = true → cs[i]? = some (-1)) ∧ (L[i].null = false → ∃ n : Nat, ∃ hn : n < ys.length, cs[i]? = some (n : Int) ∧ ys[n] = L[i].s)
theorem chkOf_two {L : List Vl} {o : Co} (h : kindK (textsL L) o = 2) : chkOf L o = ⟨2, thereL L, (bytL2 (textsL L)).map (encL (tabS (textsL L) o)), tabS (textsL L) o, [], []⟩ := by rw [chkOf, if_pos h]
theorem chkOf_three {L : List Vl} {o : Co} (h : kindK (textsL L) o = 3) : chkOf L o = ⟨3, thereL L, [], [], dicS (bytL2 (textsL L)), codesN (dicS (bytL2 (textsL L))) (bytL2 (textsL L))⟩ := by
  rw [chkOf, if_neg (by rw [h]; decide), if_pos h]
theorem chkOf_one {L : List Vl} {o : Co} (h : kindK (textsL L) o = 1) : chkOf L o = ⟨1, thereL L, bytL2 (textsL L), [], [], []⟩ := by
  rw [chkOf, if_neg (by rw [h]; decide), if_neg (by rw [h]; decide)]
theorem codes_at {L : List Vl} (hL : ∀ v ∈ L, VlOk v) {D : List (List UInt8)} {ys : List ByteArray} (hys : bytL2 ys = D) (hD : SortOf (bytL2 (textsL L)) D) :
    CodesAt L ys (spreadL (thereL L) (ints (codesN D (bytL2 (textsL L)))) (-1)) := by
  intro i hi
  have ht := there_at hi
  refine ⟨fun hn => ?_, fun hn => ?_⟩
  · rw [hn] at ht
    exact spread_not _ _ _ ht
  · rw [hn] at ht
    have hcl : cnt (thereL L) ≤ (ints (codesN D (bytL2 (textsL L)))).length := by rw [ints_length, codesN, List.length_map, bytL2_length, texts_cnt]; exact Nat.le_refl _
    obtain ⟨j, h1, h2, h3⟩ := spread_is (thereL L) (ints (codesN D (bytL2 (textsL L)))) (-1) ht hcl
    obtain ⟨j2, h4, h5⟩ := texts_at hL hi hn
    have hj : j2 = j := h4.symm.trans h1
    subst hj
    have hb : (bytL2 (textsL L))[j2]? = some L[i].s.data.toList := by rw [bytL2, List.getElem?_map, h5]; rfl
    have hm : L[i].s.data.toList ∈ D := (hD.2 _).2 (List.mem_of_getElem? hb)
    have hx := List.idxOf_lt_length_of_mem hm
    have hy : D.idxOf L[i].s.data.toList < ys.length := by rw [← hys, bytL2_length] at hx; rw [← hys]; exact hx
    refine ⟨D.idxOf L[i].s.data.toList, hy, ?_, ?_⟩
    · rw [h3, ints, codesN, List.getElem?_map, List.getElem?_map, hb]
      rfl
    · have h6 : D[D.idxOf L[i].s.data.toList]'hx = L[i].s.data.toList := List.getElem_idxOf hx
      apply str_inj
      have h7 : (bytL2 ys)[D.idxOf L[i].s.data.toList]? = some (ys[D.idxOf L[i].s.data.toList]'hy).data.toList := by rw [bytL2, List.getElem?_map, List.getElem?_eq_getElem hy]; rfl
      rw [hys, List.getElem?_eq_getElem hx, h6] at h7
      exact (Option.some.inj h7).symm
section
variable {w : World} {lo G : Nat} {L : List Vl} {o : Co}
theorem kind_enc (h : ChkM w lo G (chkOf L o)) (hf : FitsV L) (hc : CoOk o) (ht : kindK (textsL L) o = 2 → rightT (tabS (textsL L) o) = true) (h3 : kindK (textsL L) o ≠ 3) (s : ByteArray) (hs : s.size ≤ 1000000) :
    ∃ enc : List UInt8 → List UInt8, (∀ a b, enc a = enc b → a = b) ∧
      (∀ W, Below w.heap.size w W → Calls Tryz.prog 29 #[.pointer (some ⟨G, 0, none⟩), .string s] W fun r w' => ∃ A' c', r = .returned (.tuple #[.slice A' (enc s.data.toList).length c', .bool true]) ∧ Rd w' W.heap.size w'.heap.size A' c' (bv (enc s.data.toList)) ∧ Below W.heap.size W w') ∧
      ∀ W, Below w.heap.size w W → ∀ k (hk : k < L.length), L[k].null = false → Calls Tryz.prog 33 #[.pointer (some ⟨G, 0, none⟩), .int .i64 (k : Int)] W fun r w' => ∃ A' c', r = .returned (.slice A' (enc L[k].s.data.toList).length c') ∧ Rd w' W.heap.size w'.heap.size A' c' (bv (enc L[k].s.data.toList)) ∧ Below W.heap.size W w' := by
  have hk := kindK_is (textsL L) hc
  have hmem : ∀ x ∈ bytL2 (textsL L), x.length ≤ 4096 := fun x hx => by
    obtain ⟨s, hs, rfl⟩ := List.mem_map.1 hx
    obtain ⟨v, hv, rfl⟩ := textsL_mem hs
    rw [bytS_len]
    exact (hf.2 v hv).1
  have hrows : ∀ (enc : List UInt8 → List UInt8), (chkOf L o).kind = 1 ∨ (chkOf L o).kind = 2 → (chkOf L o).raws = (bytL2 (textsL L)).map enc → (∀ x, (enc x).length ≤ 2 * x.length) →
      ∀ W, Below w.heap.size w W → ∀ k (hk : k < L.length), L[k].null = false → Calls Tryz.prog 33 #[.pointer (some ⟨G, 0, none⟩), .int .i64 (k : Int)] W fun r w' => ∃ A' c', r = .returned (.slice A' (enc L[k].s.data.toList).length c') ∧ Rd w' W.heap.size w'.heap.size A' c' (bv (enc L[k].s.data.toList)) ∧ Below W.heap.size W w' := by
    intro enc hkd hraws hsz W hW k hk hn
    obtain ⟨j, h4, h5⟩ := texts_at hf.2 hk hn
    have hb : (bytL2 (textsL L))[j]? = some L[k].s.data.toList := by rw [bytL2, List.getElem?_map, h5]; rfl
    refine (raw_some (h.below hW) hkd (by rw [hraws, List.length_map, bytL2_length, chkOf_there, texts_cnt]) (k := k) (by rw [chkOf_there, there_at hk, hn]; rfl) (fun x hx => ?_) (b := enc L[k].s.data.toList) (by rw [chkOf_there, h4, hraws, List.getElem?_map, hb]; rfl)).mono ?_
    · rw [hraws] at hx
      obtain ⟨y, hy, rfl⟩ := List.mem_map.1 hx
      have := hmem y hy
      have := hsz y
      omega
    · rintro r w' ⟨A', c', h6, h7, h8⟩
      exact ⟨A', c', h6, Rd.of_own h7, h8⟩
  rcases hk with hk | hk | hk
  · have e := chkOf_one hk
    refine ⟨id, fun a b hab => hab, fun W hW => coded_one (h.below hW) (by rw [e]) s hs, hrows id (.inl (by rw [e])) (by rw [e, List.map_id]) fun x => ?_⟩
    show x.length ≤ _
    omega
  · have e := chkOf_two hk
    have hT := ht hk
    refine ⟨encL (tabS (textsL L) o), fun a b hab => enc_inj (rightT_iff.1 hT).1 hab, fun W hW => ?_, hrows _ (.inr (by rw [e])) (by rw [e]) (enc_len _)⟩
    have := coded_two (h.below hW) (by rw [e]) (by rw [e]; exact hT) s hs
    rw [e] at this
    exact this
  · exact absurd hk h3
theorem kind_dic (h : ChkM w lo G (chkOf L o)) (hf : FitsV L) (h3 : kindK (textsL L) o = 3) :
    ∀ W, Below w.heap.size w W → Calls Tryz.prog 28 #[.pointer (some ⟨G, 0, none⟩)] W fun r w' => ∃ (dg : Nat) (ys : List ByteArray) (A' : Option Addr) (c' : Nat) (cs : List Int), r = .returned (.tuple #[.pointer (some ⟨dg, 0, none⟩), .slice A' L.length c']) ∧ DcR w' dg ys ∧ SortOf (bytL2 (textsL L)) (bytL2 ys) ∧ cs.length = L.length ∧ Rd w' W.heap.size w'.heap.size A' c' (iv cs) ∧ CodesAt L ys cs ∧ Below W.heap.size W w' := by
  intro W hW
  have e := chkOf_three h3
  have hlen : (codesC (chkOf L o)).length = L.length := by rw [codesC_length, chkOf_there, thereL_length]
  have hd := dic_of (bytL2 (textsL L))
  refine (dict_yes (h.below hW) (by rw [e]) (by rw [chkOf_there, thereL_length]; exact hf.1)).mono ?_
  rintro r w' ⟨dg, ys, A', c', h1, h2, h4, h5, h6, -⟩
  have h7 : bytL2 ys = dicS (bytL2 (textsL L)) := by rw [h4, e]
  have h8 : codesC (chkOf L o) = spreadL (thereL L) (ints (codesN (dicS (bytL2 (textsL L))) (bytL2 (textsL L)))) (-1) := by rw [codesC, e]
  have h9 := Rd.of_own h5
  rw [hlen] at h1
  refine ⟨dg, ys, A', c', codesC (chkOf L o), h1, h2, by rw [h7]; exact hd, hlen, h9, ?_, h6⟩
  rw [h8]
  exact codes_at hf.2 h7 hd
end
end Go.Proofs.YtmffpbhiehjlpaaGreat
namespace Go.Proofs.YtmffpbhiehjlpaaGreat
set_option linter.unusedSimpArgs false
set_option linter.unusedVariables false
open Go.ChangeShapes Go.WideShapes Go.ChangeAt Go.RowKit
end Go.Proofs.YtmffpbhiehjlpaaGreat
namespace Go.Proofs.YtmffpbhiehjlpaaGreat
set_option linter.unusedSimpArgs false
set_option linter.unusedVariables false
open Go.RowKit
theorem textsL_append (a b : List Vl) : textsL (a ++ b) = textsL a ++ textsL b := by
  unfold textsL
  rw [List.filter_append, List.map_append]
theorem texts_parts (L : List Vl) (k : Nat) : (textsL (L.take k)).length + (textsL (L.drop k)).length = (textsL L).length := by
  rw [← List.length_append, ← textsL_append, List.take_append_drop]
theorem fits_take {L : List Vl} (h : FitsV L) (k : Nat) : FitsV (L.take k) := ⟨Nat.le_trans (by rw [List.length_take]; omega) h.1, fun v hv => h.2 v (List.mem_of_mem_take hv)⟩
theorem fits_drop {L : List Vl} (h : FitsV L) (k : Nat) : FitsV (L.drop k) := ⟨Nat.le_trans (by rw [List.length_drop]; omega) h.1, fun v hv => h.2 v (List.mem_of_mem_drop hv)⟩
theorem co_with {o : Co} (h : CoOk o) {k : Int} (h0 : 0 ≤ k) (h3 : k ≤ 3) : CoOk ⟨k, o.block, o.rounds, o.draws⟩ := ⟨h0, h3, h.2.2⟩
def leastN (a b c : Nat) : Nat := if c < (if b < a then b else a) then c else (if b < a then b else a)
theorem best_least (S : List ByteArray) (o : Co) : (payK S o (bestK S o)).length = leastN (payK S o 1).length (payK S o 2).length (payK S o 3).length := by
  unfold bestK leastN
  by_cases h : (payK S o 2).length < (payK S o 1).length
  · rw [if_pos h, if_pos h]
    split <;> rfl
  · rw [if_neg h, if_neg h]
    split <;> rfl
theorem kind_same {S : List ByteArray} {o : Co} {k : Int} (hk : k ≠ 0) : kindK S ⟨k, o.block, o.rounds, o.draws⟩ = k := by rw [kindK, if_neg hk]
theorem kind_best (S : List ByteArray) (o : Co) : kindK S ⟨0, o.block, o.rounds, o.draws⟩ = bestK S o := by rw [kindK, if_pos rfl]; rfl
theorem ord_self {n : Nat} (h : n ≤ 1000000000000) {x : Nat} (hx : fl n = x) : (FloatKind.f64.format.order x x == some .eq) = true := by
  have := eq_fl (a := n) (b := n) (by omega) (by omega)
  rw [hx] at this
  rw [this, decide_eq_true rfl]
section
variable {w : World} {lo hi c : Nat} {A : Option Addr} {L : List Vl}
theorem Row.take_ (h : Row w lo hi A c L) {k : Nat} (hk : k ≤ L.length) : Row w lo hi A c (L.take k) := by
  have hl : (L.take k).length = k := by rw [List.length_take]; omega
  refine ⟨⟨by rw [hl]; exact Nat.le_trans hk h.els.len, h.els.cap, fun hp => ?_⟩, fun v hv => h.ok v (List.mem_of_mem_take hv)⟩
  rw [hl] at hp
  obtain ⟨b, off, e, h1, h2, h3⟩ := h.els.lies (by omega)
  refine ⟨b, off, e, h1, h2, fun j hj i hi => ?_⟩
  rw [hl] at hj
  rw [h3 j (by omega) i hi, List.getElem?_take_of_lt hj]
theorem Row.drop_ {b off : Nat} (h : Row w lo hi (some ⟨b, off, none⟩) c L) {k : Nat} (hk : k ≤ L.length) : Row w lo hi (some ⟨b, off + k * 2, none⟩) (c - k) (L.drop k) := by
  have hl : (L.drop k).length = L.length - k := List.length_drop
  refine ⟨⟨by rw [hl]; have := h.els.len; omega, by have := h.els.cap; omega, fun hp => ?_⟩, fun v hv => h.ok v (List.mem_of_mem_drop hv)⟩
  rw [hl] at hp
  obtain ⟨b', off', e, h1, h2, h3⟩ := h.els.lies (by omega)
  injection e with e
  injection e with e1 e2
  subst e1 e2
  refine ⟨b, off + k * 2, rfl, h1, h2, fun j hj i hi => ?_⟩
  rw [hl] at hj
  have h4 := h3 (k + j) (by omega) i hi
  rw [show off + (k + j) * 2 + i = off + k * 2 + j * 2 + i by omega] at h4
  rw [h4, List.getElem?_drop]
end
end Go.Proofs.YtmffpbhiehjlpaaGreat
