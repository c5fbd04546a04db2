/-
  A row of values appended to nothing of the call's own; Raw of any row, as new memory.
  The document's Put of layer 10.
  The document's own payloads of kind 1. (wip/tools/genchi.py)
-/
import Derived.Test.YtmffpbhiehjlpaaGreatZ41
import Derived.Laws.OwnMore
import Derived.Test.YtmffpbhiehjlpaaGreatZ01
import Derived.Test.YtmffpbhiehjlpaaGreatZ02
import Derived.Test.YtmffpbhiehjlpaaGreatZ32
import Derived.Test.YtmffpbhiehjlpaaGreatZ23
import Derived.Test.YtmffpbhiehjlpaaGreatZ05
import Derived.Test.YtmffpbhiehjlpaaGreatZ33
import Derived.Test.YtmffpbhiehjlpaaGreatZ15
namespace Go.Proofs.YtmffpbhiehjlpaaGreat
set_option linter.unusedSimpArgs false
set_option linter.unusedVariables false
open Go.RowKit
theorem vv_one (r : List Vl) : ∀ u ∈ vv r, u.oneCell' = true := by
  intro u hu
  obtain ⟨v, _, hv⟩ := List.mem_flatMap.1 hu
  rcases List.mem_cons.1 hv with rfl | hv
  · rfl
  · rw [List.mem_singleton.1 hv]
    rfl
set_option maxRecDepth 20000 in
theorem append_vals {w : World} {base : Nat} {v : Value} (hown : w.ownsRow base 55 2 v 0 []) {A : Option Addr} {c : Nat} {row : List Vl} (hr : Row w 0 w.heap.size A c row) (h8 : row.length ≤ 1000) (hbase : base ≤ w.heap.size) :
    ∃ A' c' w', (Builtin.append_ #[22, 22] 22 #[v, .slice A row.length c]).run Tryz.prog w = .ok (.slice A' row.length c') w' ∧ w'.ownsRow base 55 2 (.slice A' row.length c') row.length (vv row) ∧ w.grownBy w' v.ownBlock := by
  obtain ⟨i0, hi0, hz0, hz1, hz2⟩ := info_parts Tryz.infoVal
  rcases A with _ | ad
  · have hm : row = [] := by
      rcases Nat.eq_zero_or_pos row.length with h0 | h0
      · exact List.eq_nil_of_length_eq_zero h0
      · obtain ⟨_, _, h, _⟩ := hr.els.lies h0
        cases h
    subst hm
    obtain ⟨A', c', rfl, _⟩ := own_form w hown
    refine ⟨A', c', w, ?_, hown, gb_refl _ _⟩
    rcases hown.2 with ⟨hv, _⟩ | ⟨g, cap, cur, hv, _, _, hnc, _⟩
    · simp [hv, Builtin.append_, run_underlying Tryz.underlying22, sizeOf, typeInfo, hi0, Builtin.lenOf, Builtin.firstCells]
    · injection hv with h1 h2 h3
      subst h1 h3
      simp [Builtin.append_, run_underlying Tryz.underlying22, sizeOf, typeInfo, hi0, Builtin.lenOf, Builtin.firstCells, hnc, storeCells]
  · have hcells : ∀ j u, (vv row)[j]? = some u → w.cell? (ad.add j) = some u := fun j u hu => by
      have hjl : j < (vv row).length := (List.getElem?_eq_some_iff.1 hu).1
      rw [vv_length] at hjl
      obtain ⟨b, off, e, _, _, hcs⟩ := hr.els.lies (by omega)
      obtain rfl := Option.some.inj e
      have h2 := hcs (j / 2) (by omega) (j % 2) (by omega)
      have h3 := vv_get row (j / 2) (j % 2) (by omega)
      rw [show j / 2 * 2 + j % 2 = j by omega, hu] at h3
      rw [← h3] at h2
      have e : (⟨b, off, none⟩ : Addr).add j = ⟨b, off + j / 2 * 2 + j % 2, none⟩ := by
        unfold Addr.add
        by_cases h0 : j = 0
        · simp [h0]
        · simp [h0]; omega
      rw [e]
      exact h2
    obtain ⟨v', w', hrun, h2, h3, _, _⟩ := run_append_own_at (P := Tryz.prog) w base 22 22 55 i0 _ 2 24 Tryz.underlying22 hi0 hz0 hz1 hz2 rfl (by omega) v 0 [] hown ad row.length c (vv row) (vv_length row) hcells (vv_one row) (by simp only [maxLen]; omega) (by omega) hbase
    rw [Nat.zero_add, List.nil_append] at h2
    obtain ⟨A', c', rfl, _⟩ := own_form w' h2
    exact ⟨A', c', w', hrun, h2, h3⟩
theorem own_empty17 (w : World) (t : TypeId) : (w.alloc (.cells #[] t)).ownsRow w.heap.size t 2 (.slice (some ⟨w.heap.size, 0, none⟩) 0 0) 0 [] := World.ownsRow_lit (e := t) (size := 2) (base := w.heap.size) w #[] 0 (Nat.le_refl _) (by simp [maxLen]) (by simp)
theorem raw_any {w : World} {lo G : Nat} {c : Chk} (h : ChkM w lo G c) (ho : ChkOk c) {k : Nat} (hk : k < c.there.length) :
    Calls Tryz.prog 33 #[.pointer (some ⟨G, 0, none⟩), .int .i64 (k : Int)] w fun r w' => ∃ bb A' c', r = .returned (.slice A' bb.length c') ∧ w'.ownsRow w.heap.size 5 1 (.slice A' bb.length c') bb.length (bv bb) ∧ Below w.heap.size w w' := by
  have hg : c.there[k]? = some c.there[k] := List.getElem?_eq_getElem hk
  have hnone : (c.there[k]? = some false ∨ (c.there[k]? = some true ∧ c.kind = 3)) → Calls Tryz.prog 33 #[.pointer (some ⟨G, 0, none⟩), .int .i64 (k : Int)] w fun r w' => ∃ bb A' c', r = .returned (.slice A' bb.length c') ∧ w'.ownsRow w.heap.size 5 1 (.slice A' bb.length c') bb.length (bv bb) ∧ Below w.heap.size w w' := fun hh => by
    refine (raw_none h hh).mono ?_
    rintro r w' ⟨rfl, rfl⟩
    exact ⟨[], none, 0, rfl, World.ownsRow_nil .., Below.refl _ _⟩
  cases hb : c.there[k] with
  | false => exact hnone (.inl (by rw [hg, hb]))
  | true =>
    have ht : c.there[k]? = some true := by rw [hg, hb]
    have key : (c.kind = 1 ∨ c.kind = 2) → c.raws.length = cnt c.there → (∀ x ∈ c.raws, x.length ≤ 1000000) → Calls Tryz.prog 33 #[.pointer (some ⟨G, 0, none⟩), .int .i64 (k : Int)] w fun r w' => ∃ bb A' c', r = .returned (.slice A' bb.length c') ∧ w'.ownsRow w.heap.size 5 1 (.slice A' bb.length c') bb.length (bv bb) ∧ Below w.heap.size w w' := fun h1 h2 h3 => by
      obtain ⟨_, hlt⟩ := spread_at (xs := c.raws) [] ht (by omega)
      refine (raw_some h h1 h2 ht h3 (List.getElem?_eq_getElem hlt)).mono ?_
      rintro r w' ⟨A', c', h4, h5, h6⟩
      exact ⟨_, A', c', h4, h5, h6⟩
    rcases ho.kinds with ⟨h1, h2, h3, _⟩ | ⟨h1, h2, _, h3, _⟩ | ⟨h1, _⟩
    · exact key (.inl h1) h2 fun x hx => Nat.le_trans (h3 x hx) (by omega)
    · exact key (.inr h1) h2 fun x hx => Nat.le_trans (h3 x hx).2 (by omega)
    · exact hnone (.inr ⟨ht, h1⟩)
end Go.Proofs.YtmffpbhiehjlpaaGreat
namespace Go.Proofs.YtmffpbhiehjlpaaGreat
set_option linter.unusedSimpArgs false
set_option linter.unusedVariables false
open Go.RowKit
set_option maxRecDepth 20000 in
set_option maxHeartbeats 2000000 in
theorem refPutT_any {w : World} (l : List ByteArray) {c : Nat} {A : Option Addr} (h : Rd w 0 w.heap.size A c (sv l)) (hl5 : l.length ≤ 255) (h8 : ∀ s ∈ l, s.size ≤ 8) :
    Calls Tryz.prog 47 #[.slice A l.length c] w fun r w' => ∃ A' c', r = .returned (.slice A' (putT (bytL2 l)).length c') ∧ w'.ownsRow w.heap.size 5 1 (.slice A' (putT (bytL2 l)).length c') (putT (bytL2 l)).length (bv (putT (bytL2 l))) ∧ Below w.heap.size w w' := by
  have hl := h.len
  have hm := h.cap
  rw [sv_length] at hl
  unfold maxLen at hm
  have H := Lib.hid h
  have H8 : Hid (∀ k (hk : k < l.length), l[k].size ≤ 8) := fun k hk => h8 _ (List.getElem_mem hk)
  have hb0 : (UInt8.ofNat l.length).toNat = l.length := by simp; omega
  have hlit : (w.alloc (.cells #[.int .u8 (l.length : Int)] 5)).ownsRow w.heap.size 5 1 (.slice (some ⟨w.heap.size, 0, none⟩) 1 1) 1 (bv [UInt8.ofNat l.length]) := by
    have := World.ownsRow_lit (e := 5) (size := 1) (base := w.heap.size) w #[.int .u8 (l.length : Int)] 1 (Nat.le_refl _) (by simp [maxLen]) (by simp)
    simpa [bv, hb0] using this
  have HL := Lib.hid hlit
  have HB0 : Hid (Below w.heap.size w (w.alloc (.cells #[.int .u8 (l.length : Int)] 5))) := (Below.refl _ w).alloc (Nat.le_refl _) _
  clear h h8 hlit hb0
  go_enter Tryz.func47, Tryz.ntmps47
  go_wp2_with fail
  go_loopw [3, 4] (fun x3 x4 wr => ∃ (k : Nat) (ys : List UInt8) (A' : Option Addr) (c' : Nat), k ≤ l.length ∧ x4 = .int .i64 (k : Int) ∧ x3 = .slice A' ys.length c' ∧ ys.length ≤ 1 + 9 * k ∧ ys = UInt8.ofNat l.length :: ((bytL2 l).take k).flatMap (fun s => UInt8.ofNat s.length :: s) ∧
    wr.ownsRow w.heap.size 5 1 (.slice A' ys.length c') ys.length (bv ys) ∧ Below w.heap.size w wr) (fun _ i _ => l.length - (intOf i).toNat)
  case atStart => exact ⟨0, [UInt8.ofNat l.length], _, _, Nat.zero_le _, rfl, rfl, by simp, by simp, HL.out, HB0.out⟩
  case round =>
    clear HL HB0
    obtain ⟨k, ys, A', c', hk, rfl, rfl, hyl, hys, hown, hb⟩ := hrel
    have HYS := Lib.hid hys
    have HO := Lib.hid hown
    have HB := Lib.hid hb
    have hsz := hb.size
    clear hys hown hb
    by_cases hlt : k < l.length
    · have ik : (k : Int) < (l.length : Int) := by omega
      obtain ⟨b, off, rfl, _, hbh, hcell⟩ := (H.out.below HB.out (Nat.le_refl _)).str hlt
      have hs8 := H8.out k hlt
      have HPT := Lib.hid (put_take hlt)
      generalize l[k] = s at *
      have hbs : (UInt8.ofNat s.size).toNat = s.size := by simp; omega
      have hsl : s.data.toList.length = s.size := by rw [Array.length_toList]; rfl
      go_wp2_with (at_builtin; refine wpList_push (v := .slice A' ys.length c') w.heap.size ys (UInt8.ofNat s.size) rfl _ _ rfl rfl rfl rfl (by rw [hbs, World.cell?_alloc_at _ _ _ _ rfl]; rfl) (HO.out.alloc _) (by omega) (by simp; omega) ?_; intro A2 c2 w2 ho2 hg2; refine held ?_)
      have hb2w : Below w.heap.size w w2 := (HB.out.alloc hsz _).grown hg2 (by simp; omega) (fun q hq => (own_lt HO.out hq).1)
      have hcell2 : w2.cell? ⟨b, off + k, none⟩ = some (.string s) := by
        have h1 : wr.cell? ⟨b, off + k, none⟩ = w.cell? ⟨b, off + k, none⟩ := HB.out.cell hbh
        rw [hb2w.cell (p := ⟨b, off + k, none⟩) hbh, ← h1]
        exact hcell
      have hcv := Lib.run_convert_string_bytes (P := Tryz.prog) w2 9 28 5 s Tryz.underlying9 Tryz.underlying28 Tryz.underlying5
      have hcap := grownCap_le_maxLen w2 s.size 0 5 (by simp only [maxLen]; omega)
      have hrd := bytesWorld_rd w2 5 s hcap
      have hb3 := bytesWorld_below w2 5 s (Nat.le_refl _)
      have hsz2 := hb2w.size
      have hsz3 := hb3.size
      have hyl2 : (ys ++ [UInt8.ofNat s.size]).length = ys.length + 1 := by simp
      obtain ⟨A3, c3, w3, hrun, hown3, hg3⟩ := append_named (Lib.bytesWorld w2 5 s) w.heap.size _ (ys ++ [UInt8.ofNat s.size]) s.data.toList (ys ++ UInt8.ofNat s.size :: s.data.toList) (by simp) (own_below ho2 hb3 (Nat.le_refl _)) hrd (by omega) (by omega)
      have hb3w : Below w.heap.size w w3 := (hb2w.trans (hb3.mono hsz2)).grown hg3 (by omega) (fun q hq => (own_lt ho2 hq).1)
      rw [hyl2, hsl] at hrun
      have HO3 := Lib.hid hown3
      have HB3 := Lib.hid hb3w
      clear hown3 hg3 hb3w hrd hb3 ho2 hg2 hb2w
      refine ⟨?_⟩
      go_wp2_with (at_builtin; refine wpList_append_run rfl _ _ _ _ rfl rfl rfl hrun ?_)
      go_roundw
      case rel =>
        refine ⟨k + 1, ys ++ UInt8.ofNat s.size :: s.data.toList, A3, c3, by omega, by go_num, by rw [List.length_append, List.length_cons, hsl], ?_, ?_, HO3.out, HB3.out⟩
        · rw [List.length_append, List.length_cons, hsl]; omega
        · rw [HPT.out, HYS.out]; rfl
      case measure => simp [intOf] <;> omega
    · have ik : ¬ (k : Int) < (l.length : Int) := by omega
      have hfin : ys = putT (bytL2 l) := by
        rw [HYS.out, List.take_of_length_le (by simp [bytL2]; omega)]
        simp [putT, bytL2]
      have HF := Lib.hid hfin
      clear hfin
      go_wp2_with fail
      go_ret
      exact ⟨A', c', by rw [← HF.out]; rfl, by rw [← HF.out]; exact HO.out, HB.out⟩
end Go.Proofs.YtmffpbhiehjlpaaGreat
namespace Go.Proofs.YtmffpbhiehjlpaaGreat
set_option linter.unusedSimpArgs false
set_option linter.unusedVariables false
open Go.RowKit
theorem push_num_at {ops : Array Oper} {rest : List Oper} {o : Oper} {a : Act} {Q : Exit → Act → World → Prop} {w : World} {v : Value} {g : Nat} (base : Nat) (ys : List Int) (z : Int) (hgd : o.guard = none) (s x : Operand)
    (ho : o.op = .call { callee := .builtin .append, args := #[s, x], argTypes := #[23, 23] }) (hty : o.type = 23)
    (hs : a.eval s = v) (hx : a.eval x = .slice (some ⟨g, 0, none⟩) 1 1) (hcell : w.cell? ⟨g, 0, none⟩ = some (.int .i64 z))
    (hown : w.ownsRow base 3 1 v ys.length (iv ys)) (hb : ys.length + 1 ≤ 17592186044416) (hbase : base ≤ w.heap.size)
    (h : ∀ A' c' w', w'.ownsRow base 3 1 (.slice A' (ys.length + 1) c') (ys.length + 1) (iv (ys ++ [z])) → w.grownBy w' v.ownBlock → ((Value.slice A' (ys.length + 1) c').ownBlock = v.ownBlock ∨ (Value.slice A' (ys.length + 1) c').ownBlock = some w.heap.size) → wpList Tryz.prog ops Q rest (a.put o.dst (.slice A' (ys.length + 1) c')) w') :
    wpList Tryz.prog ops Q (o :: rest) a w := by
  have hr : Rd w 0 w.heap.size (some ⟨g, 0, none⟩) 1 (iv [z]) := ⟨by simp [iv], by simp [maxLen], fun _ => ⟨g, 0, rfl, Nat.zero_le _, World.block_lt_of_cell? w _ hcell, fun j u hu => by
    match j, hu with
    | 0, hu =>
      simp [iv] at hu
      subst hu
      exact hcell
    | j + 1, hu => simp [iv] at hu⟩⟩
  obtain ⟨A', c', w', hrun, h2, h3, h4⟩ := append_ints_at w base v ys [z] (ys ++ [z]) rfl hown hr (by simpa using hb) hbase
  have hl : (ys ++ [z]).length = ys.length + 1 := by simp
  rw [hl] at hrun h2 h4
  exact wpList_append_run hgd s x _ _ ho hs hx (by rw [hty]; exact hrun) (h A' c' w' h2 h3 h4)
theorem bag_few (T : List (List UInt8)) {S : List ByteArray} (hl : S.length ≤ 60) (h : ∀ s ∈ S, s.size ≤ 4096) : (bagL T (bytL2 S)).length ≤ 1000000 := by
  have h1 := bag_len T (bytL2 S)
  have h2 : ∀ l : List ByteArray, (∀ s ∈ l, s.size ≤ 4096) → ((bytL2 l).map List.length).sum ≤ 4096 * l.length := by
    intro l
    induction l with
    | nil => intro _; simp [bytL2]
    | cons a t ih =>
      intro hh
      have h3 := ih fun s hs => hh s (List.mem_cons_of_mem _ hs)
      have h4 := hh a List.mem_cons_self
      have h5 : a.data.toList.length = a.size := by simp
      show ((bytL2 (a :: t)).map List.length).sum ≤ _
      have h6 : ((bytL2 (a :: t)).map List.length).sum = a.data.toList.length + ((bytL2 t).map List.length).sum := by simp [bytL2]
      rw [h6, List.length_cons]
      omega
  have h3 := h2 S h
  omega
set_option maxRecDepth 20000 in
set_option maxHeartbeats 4000000 in
theorem refPay1 {w : World} (l : List ByteArray) (bl ro : Int) (ds : List Int) {c d : Nat} {A B : Option Addr} (h : Rd w 0 w.heap.size A c (sv l)) (hd : Rd w 0 w.heap.size B d (iv ds)) (hn : l.length ≤ 100) (hdn : ds.length ≤ 60) (h4 : ∀ s ∈ l, s.size ≤ 4096) :
    Calls Tryz.prog 18 #[.slice A l.length c, .agg #[.int .i64 1, .int .i64 bl, .int .i64 ro, .slice B ds.length d]] w fun r w' => ∃ A' c', r = .returned (.slice A' (payK l ⟨1, bl, ro, ds⟩ 1).length c') ∧
      w'.ownsRow w.heap.size 5 1 (.slice A' (payK l ⟨1, bl, ro, ds⟩ 1).length c') (payK l ⟨1, bl, ro, ds⟩ 1).length (bv (payK l ⟨1, bl, ro, ds⟩ 1)) ∧ Below w.heap.size w w' := by
  have hl := h.len
  have hm := h.cap
  have hdl := hd.len
  have hdm := hd.cap
  rw [sv_length] at hl
  rw [iv_length] at hdl
  unfold maxLen at hm hdm
  obtain ⟨w1, hw1⟩ : ∃ w1, w.alloc (.cells #[.int .i64 1, .int .i64 bl, .int .i64 ro, .slice B ds.length d] 25) = w1 := ⟨_, rfl⟩
  have B1 : Hid (Below w.heap.size w w1) := by unfold Hid; rw [← hw1]; exact (Below.refl _ w).alloc (Nat.le_refl _) _
  have hs1 : w1.heap.size = w.heap.size + 1 := by rw [← hw1]; simp
  have hb : Blk w1 w.heap.size 25 #[.int .i64 1, .int .i64 bl, .int .i64 ro, .slice B ds.length d] := by rw [← hw1]; exact Blk.new w _ _
  have HCF : Hid (∀ W, Below w1.heap.size w1 W → W.cell? ⟨w.heap.size, 0, none⟩ = some (.int .i64 1) ∧ W.cell? ⟨w.heap.size, 2, none⟩ = some (.int .i64 ro) ∧ W.cell? ⟨w.heap.size, 3, none⟩ = some (.slice B ds.length d)) := fun W hW => ⟨(hb.below hW (by omega)).cell 0, (hb.below hW (by omega)).cell 2, (hb.below hW (by omega)).cell 3⟩
  have hS0 := HCF.out _ (Below.refl _ _)
  have H : Hid (∀ W, Below w.heap.size w W → Rd W 0 W.heap.size A c (sv l)) := fun W hW => (h.below hW (Nat.le_refl _)).wide (Nat.le_refl _) hW.size
  have HH4 := Lib.hid h4
  have HPY : Hid (payK l ⟨1, bl, ro, ds⟩ 1 = [] ++ joinB (bytL2 l)) := by unfold Hid; rw [payK, if_neg (by decide), if_neg (by decide)]; rfl
  generalize payK l ⟨1, bl, ro, ds⟩ 1 = PY at *
  clear h hd hb h4
  go_enter Tryz.func18, Tryz.ntmps18
  go_wp2_with fail
  clear hw1
  obtain ⟨w3, hw3⟩ : ∃ w3, w1 = w3 := ⟨_, rfl⟩
  have K3 : Hid (Below w1.heap.size w1 w1) := Below.refl _ _
  subst hw3
  obtain ⟨RR, hRR⟩ : ∃ RR, bytL2 l = RR := ⟨_, rfl⟩
  have HRL : Hid (RR.length = l.length) := by unfold Hid; rw [← hRR, bytL2_length]
  have HRG : Hid (∀ k (hk : k < l.length), RR[k]? = some l[k].data.toList) := fun k hk => by rw [← hRR]; simp [bytL2, List.getElem?_eq_getElem hk]
  rw [hRR] at HPY
  clear hRR hS0
  go_loopw [6, 7, 12] (fun x y i wr => ∃ (k n : Nat) (rs : List (List UInt8)) (A1 A2 : Option Addr) (c1 c2 : Nat), k ≤ l.length ∧ i = .int .i64 (k : Int) ∧ Hid (RR.take k = rs) ∧ Hid (rs.flatten.length = n) ∧ n ≤ 8192 * k ∧ x = .slice A1 k c1 ∧ y = .slice A2 n c2 ∧
    Tw wr w1.heap.size 3 5 (.slice A1 k c1) (.slice A2 n c2) k n (iv (ints (rs.map List.length))) (bv rs.flatten) ∧ Below w1.heap.size w1 wr) (fun _ _ i _ => l.length - (intOf i).toNat)
  case atStart => exact ⟨0, 0, [], none, none, 0, 0, Nat.zero_le _, rfl, rfl, rfl, Nat.zero_le _, rfl, rfl, Tw.nil _ _ _ _, Below.refl _ _⟩
  case round =>
    obtain ⟨k, n, rs, A1, A2, c1, c2, hk, rfl, HRS, HN, hn8, rfl, rfl, ho, hb⟩ := hrel
    have HO := Lib.hid ho
    have HB := Lib.hid hb
    have hsz := hb.size
    have HBW : Hid (Below w1.heap.size w1 wr) := K3.out.trans (hb.mono K3.out.size)
    have HBWW : Hid (Below w.heap.size w wr) := B1.out.trans (HBW.out.mono (by omega))
    clear ho hb
    have hrl : rs.length = k := by rw [← HRS.out, List.length_take, HRL.out]; omega
    have HRSL := Lib.hid hrl
    clear hrl
    by_cases hlt : k < l.length
    · have ik : (k : Int) < (l.length : Int) := by omega
      obtain ⟨b, off, rfl, _, hbl, hc0⟩ := (H.out wr HBWW.out).str hlt
      have HS4 := Lib.hid (HH4.out _ (List.getElem_mem hlt))
      have HR1 := Lib.hid (HRG.out k hlt)
      generalize l[k] = s at *
      have hcv := Lib.run_convert_string_bytes (P := Tryz.prog) wr 9 28 5 s Tryz.underlying9 Tryz.underlying28 Tryz.underlying5
      have hcap := grownCap_le_maxLen wr s.size 0 5 (by have := HS4.out; simp only [maxLen]; omega)
      have hrd := bytesWorld_rd wr 5 s hcap
      have hb2 := bytesWorld_below wr 5 s (Nat.le_refl _)
      have hs2 : wr.heap.size + 1 ≤ (Lib.bytesWorld wr 5 s).heap.size := by rw [Lib.bytesWorld_size]; exact Nat.le_refl _
      clear hcap
      generalize grownCap wr s.size 0 5 = gc at *
      generalize Lib.bytesWorld wr 5 s = w2 at *
      have HB2 := Lib.hid (below_below HB.out hb2 hsz)
      have HO2 := Lib.hid (HO.out.below hb2)
      have HLT : Hid (∀ q, (Value.slice A1 k c1).ownBlock = some q → q < wr.heap.size) := fun q hq => (own_lt HO.out.o1 hq).2
      have hsz2 : w1.heap.size ≤ w2.heap.size := HB2.out.size
      have hkd := (HCF.out w2 (K3.out.trans (HB2.out.mono K3.out.size))).1
      have HRD2 := Lib.hid hrd
      have hc02 : w2.cell? ⟨b, off + k, none⟩ = some (.string s) := (hb2.cell (p := ⟨b, off + k, none⟩) hbl).trans hc0
      clear hrd hb2 HB HO HBW HBWW
      obtain ⟨e, he⟩ : ∃ e, s.data.toList = e := ⟨_, rfl⟩
      have hen : e.length = s.size := by rw [← he]; simp
      have HEN := Lib.hid hen
      have HEL2 : e.length ≤ 8192 := by have := HS4.out; omega
      rw [hen] at HEL2
      rw [he] at HR1
      have HRD4 : Hid (Rd w2 wr.heap.size w2.heap.size (some ⟨wr.heap.size, 0, none⟩) gc (bv e)) := by unfold Hid; rw [← he]; exact HRD2.out.wide (Nat.le_refl _) (by omega)
      clear he hen
      generalize hen : s.size = en at *
      clear hen
      have HRS2 : Hid (RR.take (k + 1) = rs ++ [e]) := by
        unfold Hid
        have h1 : k < RR.length := by rw [HRL.out]; exact hlt
        rw [List.take_succ_eq_append_getElem h1, HRS.out]
        have h2 := HR1.out
        rw [List.getElem?_eq_getElem h1] at h2
        rw [Option.some.inj h2]
      have HML : Hid ((ints (rs.map List.length)).length = k) := by unfold Hid; rw [ints_length, List.length_map, HRSL.out]
      have HMS : Hid (ints (rs.map List.length) ++ [(en : Int)] = ints ((rs ++ [e]).map List.length)) := by unfold Hid; rw [List.map_append, List.map_cons, List.map_nil, HEN.out]; simp [ints]
      go_wp2_with (at_builtin; refine push_num_at (v := .slice A1 k c1) w1.heap.size (ints (rs.map List.length)) (en : Int) rfl _ _ rfl rfl rfl rfl (by rw [World.cell?_alloc_at _ _ _ _ rfl]; rfl) (by have := HO2.out.o1.alloc (.cells #[.int .i64 (en : Int)] 3); rw [HML.out]; exact this) (by rw [HML.out]; omega) (by simp; omega) ?_; intro A5 c5 w5 ho5 hg5 hb5; refine held ?_)
      have hbB : Below w1.heap.size w1 w5 := (HB2.out.alloc (by omega) _).grown hg5 (by simp; omega) (fun q hq => (own_lt HO2.out.o1 hq).1)
      rw [HMS.out, HML.out] at ho5
      rw [HML.out] at hb5
      have HO5 := Lib.hid ((HO2.out.alloc (.cells #[.int .i64 (en : Int)] 3)).left ho5 hg5 hb5)
      have HZ5 : Hid (Value.slice A5 ((ints (rs.map List.length)).length + 1) c5 = .slice A5 (k + 1) c5) := by unfold Hid; rw [HML.out]
      have HRD5 : Hid (Rd w5 wr.heap.size w5.heap.size (some ⟨wr.heap.size, 0, none⟩) gc (bv e)) := ((HRD4.out.alloc (Nat.le_refl _) _).grown hg5 (by simp) (fun q hq => .inl (HLT.out q hq))).wide (Nat.le_refl _) (by have := hg5.size; simp at this; omega)
      have HB5 := Lib.hid hbB
      have hsz5 := hbB.size
      clear ho5 hg5 hb5 hbB HO2 HB2 HRD4 HLT
      have hal : (rs ++ [e]).flatten.length = n + en := by rw [List.flatten_append, List.length_append, HN.out]; simp [HEN.out]
      obtain ⟨A8, c8, w8, hrun8, ho8, hg8, hb8⟩ := append_bytes_at w5 w1.heap.size (.slice A2 n c2) rs.flatten e (rs ++ [e]).flatten (by simp) (by rw [HN.out]; exact HO5.out.o2) HRD5.out (by rw [HN.out, HEN.out]; omega) hsz5
      rw [hal] at hrun8 ho8 hb8
      rw [HEN.out] at hrun8
      have HAL := Lib.hid hal
      have HO8 := Lib.hid (HO5.out.right ho8 hg8 hb8)
      have HB8 : Hid (Below w1.heap.size w1 w8) := HB5.out.grown hg8 hsz5 (fun q hq => (own_lt HO5.out.o2 hq).1)
      clear hal ho8 hg8 hb8 HO5 HB5 HRD5 HMS
      refine ⟨?_⟩
      go_wp2_with (at_builtin; refine wpList_append_run rfl _ _ _ _ rfl rfl rfl hrun8 ?_)
      go_roundw
      case rel => exact ⟨k + 1, n + en, rs ++ [e], A5, A8, c5, c8, by omega, by go_num, HRS2, HAL, by omega, HZ5.out, rfl, HO8.out, HB8.out⟩
      case measure => simp [intOf] <;> omega
    · have ik : ¬ (k : Int) < (l.length : Int) := by omega
      have hrs : rs = RR := by rw [← HRS.out, List.take_of_length_le (by rw [HRL.out]; omega)]
      subst hrs
      obtain ⟨zs, hzs⟩ : ∃ zs, ints (rs.map List.length) = zs := ⟨_, rfl⟩
      have hzl : zs.length = k := by rw [← hzs, ints_length, List.length_map, HRSL.out]
      have HMY : May zs := by
        rw [← hzs]
        refine lens_may (m := 8192) (by omega) fun x hx => ?_
        obtain ⟨j, hj, rfl⟩ := List.getElem_of_mem hx
        have h1 := HRG.out j (by rw [← HRL.out]; exact hj)
        rw [List.getElem?_eq_getElem hj] at h1
        rw [Option.some.inj h1]
        have := HH4.out _ (List.getElem_mem (l := l) (n := j) (by rw [← HRL.out]; exact hj))
        have e : (l[j]'(by rw [← HRL.out]; exact hj)).data.toList.length = (l[j]'(by rw [← HRL.out]; exact hj)).size := by simp
        omega
      rw [hzs] at HO
      have HW := Lib.hid (rwrite_any (w := wr) (c := c1) (A := A1) zs HMY ((Rd.of_own HO.out.o1).wide (Nat.zero_le _) (Nat.le_refl _)) (Nat.le_refl _) (by omega))
      rw [hzl] at HW
      have hwl : (writeL zs).length ≤ 1000000000000 := Nat.le_trans (writeL_length HMY (by omega)) (by omega)
      have HPY2 : Hid (PY = ([] ++ writeL zs) ++ rs.flatten) := by unfold Hid; rw [HPY.out, joinB, hzs, List.append_assoc]
      clear hzs hzl HMY HPY
      generalize hwz : writeL zs = wz at *
      clear hwz
      generalize hwn : wz.length = wn at *
      have HWN := Lib.hid hwn
      clear hwn
      go_wp2_with fail
      refine HW.out.mono ?_
      rintro r w6 ⟨A6, c6, rfl, ho6, hb6⟩
      have HO6 := Lib.hid ho6
      have HT6 := Lib.hid (HO.out.below hb6)
      have hsz6 := hb6.size
      have HB6 : Hid (Below w1.heap.size w1 w6) := below_below HB.out hb6 hsz
      have HU6 : Hid (∀ q, (Value.slice A2 n c2).ownBlock = some q → w1.heap.size ≤ q ∧ q < w6.heap.size) := fun q hq => own_lt HT6.out.o2 hq
      clear ho6 hb6 HW HO HB
      have hoo : w6.ownsRow w.heap.size 5 1 (.slice none 0 0) 0 (bv []) := World.ownsRow_nil ..
      obtain ⟨A7, c7, w7, hrun7, ho7, hg7, hb7⟩ := append_bytes_at w6 w.heap.size (.slice none 0 0) [] wz ([] ++ wz) rfl hoo (Rd.of_own HO6.out) (by rw [HWN.out]; simp only [List.length_nil]; omega) (by omega)
      have hal7 : ([] ++ wz).length = wn := by rw [List.nil_append, HWN.out]
      rw [HWN.out, hal7] at hrun7
      rw [hal7] at ho7
      have hap : (Value.slice A2 n c2).ownBlock = none ∨ (Value.slice A2 n c2).ownBlock ≠ ((.slice none 0 0) : Value).ownBlock := by
        cases hx : (Value.slice A2 n c2).ownBlock with
        | none => exact Or.inl rfl
        | some q => exact Or.inr fun e => by have h1 := (HU6.out q hx).1; exact absurd (show (none : Option Nat) = some q from e.symm) (by simp)
      have hAll7 := HT6.out.o2.kept hg7 hap
      obtain ⟨A8, c8, w8, hrun8, ho8, hg8, hb8⟩ := append_bytes_at w7 w.heap.size (.slice A7 (wn) c7) ([] ++ wz) rs.flatten (([] ++ wz) ++ rs.flatten) rfl (by rw [hal7]; exact ho7) (Rd.of_own hAll7) (by rw [hal7, HN.out]; omega) (by have := hg7.size; omega)
      rw [← HPY2.out, HN.out] at hrun8
      rw [← HPY2.out] at ho8
      have HO8 := Lib.hid ho8
      have HB7 : Hid (Below w.heap.size w w7) := (B1.out.trans ((K3.out.trans (HB6.out.mono K3.out.size)).mono (by omega))).grown hg7 (by omega) (fun q hq => (own_lt hoo hq).1)
      have HB8 : Hid (Below w.heap.size w w8) := HB7.out.grown hg8 HB7.out.size (fun q hq => (own_lt ho7 hq).1)
      clear ho7 hg7 hb7 hal7 hap hAll7 ho8 hg8 hb8 hoo HPY2
      go_wp2_with (at_builtin; refine wpList_append_run rfl _ _ _ _ rfl rfl rfl hrun7 ?_; refine held ?_)
      clear hrun7
      refine ⟨?_⟩
      go_wp2_with (at_builtin; refine wpList_append_run rfl _ _ _ _ rfl rfl rfl hrun8 ?_)
      go_ret
      exact ⟨_, _, rfl, HO8.out, HB8.out⟩
end Go.Proofs.YtmffpbhiehjlpaaGreat
