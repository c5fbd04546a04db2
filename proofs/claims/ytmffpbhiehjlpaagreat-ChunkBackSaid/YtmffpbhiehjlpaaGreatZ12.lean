/-
  The document's add of layer 12: one string more is counted.
  Rows that are so or not, in plain: their cells, how many are so. No program is named here.
  The best so far and the next one, held against one another: what is read of both, and who leads behind it.
-/
import Derived.Test.YtmffpbhiehjlpaaGreatZ11
import Derived.Test.YtmffpbhiehjlpaaGreatZ06
import Derived.Test.YtmffpbhiehjlpaaGreatZ01
import Derived.Test.YtmffpbhiehjlpaaGreatZ00
import Derived.OneCell
namespace Go.Proofs.YtmffpbhiehjlpaaGreat
set_option linter.unusedSimpArgs false
set_option linter.unusedVariables false
open Go.RowKit
def nz (cs : List Nat) : List Value := iv (cs.map fun (n : Nat) => (n : Int))
theorem nz_length (cs : List Nat) : (nz cs).length = cs.length := by simp [nz, iv]
theorem nz_append (cs ds : List Nat) : nz (cs ++ ds) = nz cs ++ nz ds := by simp [nz, iv]
theorem nz_set (cs : List Nat) (i n : Nat) : nz (cs.set i n) = (nz cs).set i (.int .i64 (n : Int)) := by simp [nz, iv, List.map_set]
structure Two (w : World) (base : Nat) (u v : Value) (ns : List ByteArray) (cs : List Nat) : Prop where
  o1 : w.ownsRow base 9 1 u ns.length (sv ns)
  o2 : w.ownsRow base 3 1 v cs.length (nz cs)
  ap : ∀ g, u.ownBlock = some g → v.ownBlock = some g → False
theorem Two.nil (w : World) (base : Nat) : Two w base (.slice none 0 0) (.slice none 0 0) [] [] := ⟨World.ownsRow_nil .., World.ownsRow_nil .., fun _ h => (by cases h)⟩
theorem Two.drewN {w : World} {base : Nat} {u v : Value} {ns : List ByteArray} {cs : List Nat} (h : Two w base u v ns cs) (m : Nat) : Two (w.drewN m) base u v ns cs :=
  ⟨own_keep h.o1 (fun _ _ => rfl), own_keep h.o2 (fun _ _ => rfl), h.ap⟩
theorem append_str_at (w : World) (base : Nat) (v : Value) (ys : List ByteArray) (z : ByteArray) (hown : w.ownsRow base 9 1 v ys.length (sv ys)) (hb : ys.length + 1 ≤ 1000000000) (hbase : base ≤ w.heap.size) :
    ∃ A' c' w', (Builtin.append_ #[37, 37] 37 #[v, .slice (some ⟨w.heap.size, 0, none⟩) 1 1]).run Tryz.prog (w.alloc (.cells #[.string z] 9)) = .ok (.slice A' (ys.length + 1) c') w' ∧
      w'.ownsRow base 9 1 (.slice A' (ys.length + 1) c') (ys.length + 1) (sv (ys ++ [z])) ∧ (w.alloc (.cells #[.string z] 9)).grownBy w' v.ownBlock ∧
      ((Value.slice A' (ys.length + 1) c').ownBlock = v.ownBlock ∨ (Value.slice A' (ys.length + 1) c').ownBlock = some (w.heap.size + 1)) := by
  obtain ⟨i0, hi0, hz0, hz1, hz2⟩ := info_parts Tryz.infoStr
  have hr : Rd (w.alloc (.cells #[.string z] 9)) 0 (w.heap.size + 1) (some ⟨w.heap.size, 0, none⟩) 1 (sv [z]) := by
    refine ⟨by simp [sv], by simp [maxLen], fun _ => ⟨w.heap.size, 0, rfl, Nat.zero_le _, by omega, fun j u hu => ?_⟩⟩
    rw [Nat.zero_add, (Blk.new w 9 #[.string z]).cell]
    simpa [sv] using hu
  obtain ⟨A', c', w', hrun, h2, h3, h4⟩ := run_append_rd (P := Tryz.prog) (w.alloc (.cells #[.string z] 9)) base 37 37 9 i0 _ 16 Tryz.underlying37 hi0 hz0 hz1 hz2 rfl v ys.length (sv ys) (hown.alloc _) _ _ _ _ (sv [z]) hr (sv_one _)
    (by simp only [sv, List.length_map, List.length_singleton, maxLen]; omega) (by simp only [sv, List.length_map, List.length_singleton]; omega) (by simp; omega)
  rw [show (sv [z]).length = 1 from rfl] at hrun h2 h4
  exact ⟨A', c', w', hrun, by rw [sv_append]; exact h2, h3, by rwa [show (w.alloc (.cells #[.string z] 9)).heap.size = w.heap.size + 1 by simp] at h4⟩
theorem append_one_at (w : World) (base : Nat) (v : Value) (cs : List Nat) (hown : w.ownsRow base 3 1 v cs.length (nz cs)) (hb : cs.length + 1 ≤ 1000000000) (hbase : base ≤ w.heap.size) :
    ∃ A' c' w', (Builtin.append_ #[23, 23] 23 #[v, .slice (some ⟨w.heap.size, 0, none⟩) 1 1]).run Tryz.prog (w.alloc (.cells #[.int .i64 1] 3)) = .ok (.slice A' (cs.length + 1) c') w' ∧
      w'.ownsRow base 3 1 (.slice A' (cs.length + 1) c') (cs.length + 1) (nz (cs ++ [1])) ∧ (w.alloc (.cells #[.int .i64 1] 3)).grownBy w' v.ownBlock ∧
      ((Value.slice A' (cs.length + 1) c').ownBlock = v.ownBlock ∨ (Value.slice A' (cs.length + 1) c').ownBlock = some (w.heap.size + 1)) := by
  obtain ⟨i0, hi0, hz0, hz1, hz2⟩ := info_parts Tryz.infoI64
  have hr : Rd (w.alloc (.cells #[.int .i64 1] 3)) 0 (w.heap.size + 1) (some ⟨w.heap.size, 0, none⟩) 1 (nz [1]) := by
    refine ⟨by simp [nz, iv], by simp [maxLen], fun _ => ⟨w.heap.size, 0, rfl, Nat.zero_le _, by omega, fun j u hu => ?_⟩⟩
    rw [Nat.zero_add, (Blk.new w 3 #[.int .i64 1]).cell]
    simpa [nz, iv] using hu
  obtain ⟨A', c', w', hrun, h2, h3, h4⟩ := run_append_rd (P := Tryz.prog) (w.alloc (.cells #[.int .i64 1] 3)) base 23 23 3 i0 _ 8 Tryz.underlying23 hi0 hz0 hz1 hz2 rfl v cs.length (nz cs) (hown.alloc _) _ _ _ _ (nz [1]) hr (iv_one _)
    (by rw [nz_length]; simp only [List.length_singleton, maxLen]; omega) (by rw [nz_length]; simp only [List.length_singleton]; omega) (by simp; omega)
  rw [show (nz [1]).length = 1 from rfl] at hrun h2 h4
  exact ⟨A', c', w', hrun, by rw [nz_append]; exact h2, h3, by rwa [show (w.alloc (.cells #[.int .i64 1] 3)).heap.size = w.heap.size + 1 by simp] at h4⟩
theorem Two.set {w : World} {base : Nat} {u : Value} {g n cap : Nat} {ns : List ByteArray} {cs : List Nat} (h : Two w base u (.slice (some ⟨g, 0, none⟩) n cap) ns cs) (hn : n = cs.length) (i x : Nat) :
    Two (w.setCell ⟨g, i, none⟩ (.int .i64 (x : Int))) base u (.slice (some ⟨g, 0, none⟩) n cap) ns (cs.set i x) := by
  subst hn
  refine ⟨ownsRow_setCell_other h.o1 (fun e => h.ap g e rfl) _, ?_, h.ap⟩
  rw [nz_set, List.length_set]
  exact (h.o2.stored i _).1
theorem mem_bytL2 {ns : List ByteArray} {s : ByteArray} (h : s.data.toList ∈ bytL2 ns) : ∃ j, ∃ hj : j < ns.length, ns[j] = s := by
  obtain ⟨j, hj, he⟩ := List.getElem_of_mem h
  rw [bytL2_length] at hj
  rw [bytL2_get ns j hj] at he
  refine ⟨j, hj, ?_⟩
  have h2 : (⟨ns[j].data.toList.toArray⟩ : ByteArray) = ⟨s.data.toList.toArray⟩ := by rw [he]
  exact ByteArray.ext (by simpa using h2)
set_option maxRecDepth 20000 in
set_option maxHeartbeats 2000000 in
theorem add_any {w : World} (base : Nat) (ns : List ByteArray) (cs : List Nat) (s : ByteArray) {A B : Option Addr} {c d n : Nat} (hn : n = ns.length) (h : Two w base (.slice A n c) (.slice B n d) ns cs) (P : List (List UInt8)) (hP : Cnt P (bytL2 ns) cs) (hPl : P.length ≤ 100000000) (hbase : base ≤ w.heap.size) :
    Calls Tryz.prog 89 #[.slice A n c, .slice B n d, .string s] w fun r w' => ∃ (ns' : List ByteArray) (cs' : List Nat) (A' B' : Option Addr) (c' d' n' : Nat), r = .returned (.tuple #[.slice A' n' c', .slice B' n' d']) ∧ n' = ns'.length ∧
      Two w' base (.slice A' n' c') (.slice B' n' d') ns' cs' ∧ Cnt (P ++ [s.data.toList]) (bytL2 ns') cs' ∧ Below base w w' := by
  subst hn
  have hln : ns.length = cs.length := by have := hP.len; rwa [bytL2_length] at this
  have hlp : ns.length ≤ 100000000 := by have := hP.few; rw [bytL2_length] at this; omega
  have HR1 := Lib.hid (Rd.own h.o1)
  have H := Lib.hid h
  have HC := Lib.hid hP
  have HLN := Lib.hid hln
  have hlc : cs.length ≤ 100000000 := by omega
  clear h hP hln
  go_enter Tryz.func89, Tryz.ntmps89
  go_wp2_with fail
  go_loopw [8] (fun x8 wr => ∃ k m : Nat, k ≤ ns.length ∧ x8 = .int .i64 (k : Int) ∧ (∀ j (hj : j < ns.length), j < k → ns[j] ≠ s) ∧ wr = w.drewN m) (fun i _ => ns.length - (intOf i).toNat)
  case atStart => exact ⟨0, 0, Nat.zero_le _, rfl, fun j _ h => absurd h (Nat.not_lt_zero j), rfl⟩
  case round =>
    obtain ⟨k, m, hk, rfl, hno, rfl⟩ := hrel
    have HNO := Lib.hid hno
    clear hno
    by_cases hlt : k < ns.length
    · have ik : (k : Int) < (ns.length : Int) := by omega
      obtain ⟨b, off, rfl, _, _, hcell⟩ := HR1.out.str hlt
      by_cases he : ns[k] = s
      · have e1 : (ns[k].toList == s.toList) = true := by rw [he]; exact beq_self_eq_true _
        have e2 : ns[k].toList = s.toList := by rw [he]
        have hkc : k < cs.length := by have := HLN.out; omega
        have HCN : Hid (Cnt (P ++ [s.data.toList]) (bytL2 ns) (cs.set k (cs[k] + 1))) := by
          have h2 := HC.out.old (i := k) (by rw [bytL2_length]; exact hlt) hkc
          rw [bytL2_get ns k hlt, he] at h2
          exact h2
        have hlow : cs[k] ≤ 100000000 := Nat.le_trans (HC.out.low hkc) hPl
        obtain ⟨g, rfl⟩ : ∃ g, B = some ⟨g, 0, none⟩ := by
          rcases H.out.o2.2 with ⟨hv, h0⟩ | ⟨g, cap, cur, hv, _⟩
          · have h1 := nz_length cs
            have h2 := H.out.o2.1
            omega
          · injection hv with h1 h2 h3
            exact ⟨g, h1⟩
        have hcell2 : w.cell? ⟨g, 0 + k, none⟩ = some (.int .i64 (cs[k] : Int)) := by
          rw [Nat.zero_add]
          have hc9 := H.out.o2.cells (g := g) (by simp [Value.ownBlock]) k (.int .i64 (cs[k] : Int)) (by simp [nz, iv, hkc])
          have ha9 : (⟨g, 0, none⟩ : Addr).add k = ⟨g, k, none⟩ := by unfold Addr.add; by_cases h0 : k = 0 <;> simp [h0]
          rw [ha9] at hc9
          exact hc9
        have hcell3 : w.cell? ⟨g, k, none⟩ = some (.int .i64 (cs[k] : Int)) := by
          rw [Nat.zero_add] at hcell2
          exact hcell2
        have hfr : w.frozen? ⟨g, k, none⟩ = false := by
          have h1 := H.out.o2
          rw [HLN.out] at h1
          exact h1.frozenAt k
        have hbg : base ≤ g := (own_lt H.out.o2 (k := g) (by simp [Value.ownBlock])).1
        have HT : Hid (Two ((w.drewN m).setCell ⟨g, k, none⟩ (.int .i64 ((cs[k] : Int) + 1))) base (.slice (some ⟨b, off, none⟩) ns.length c) (.slice (some ⟨g, 0, none⟩) ns.length d) ns (cs.set k (cs[k] + 1)) ∧ Below base w ((w.drewN m).setCell ⟨g, k, none⟩ (.int .i64 ((cs[k] : Int) + 1)))) := by
          have hT := (H.out.drewN m).set HLN.out k (cs[k] + 1)
          rw [show ((cs[k] + 1 : Nat) : Int) = (cs[k] : Int) + 1 by omega] at hT
          exact ⟨hT, (below_drewN' (Below.refl _ _) m).setCell hbg _⟩
        clear he
        generalize cs[k] = z at *
        generalize ns[k] = t at *
        go_wp2_with fail
        go_ret2
        exact ⟨ns, _, _, _, c, d, ns.length, rfl, rfl, HT.out.1, HCN.out, HT.out.2⟩
      · have e1 : (ns[k].toList == s.toList) = false := by
          rw [beq_eq_false_iff_ne, ne_eq, Lib.toList_data, Lib.toList_data]
          exact fun e => he (ByteArray.ext (Array.toList_inj.1 e))
        have e2 : ¬ ns[k].toList = s.toList := by
          rw [Lib.toList_data, Lib.toList_data]
          exact fun e => he (ByteArray.ext (Array.toList_inj.1 e))
        have HNO2 : Hid (∀ j (hj : j < ns.length), j < k + 1 → ns[j] ≠ s) := fun j hj hjk => by
          rcases Nat.lt_or_ge j k with h2 | h2
          · exact HNO.out j hj h2
          · have : j = k := by omega
            subst this
            exact he
        clear he
        generalize ns[k] = t at *
        go_wp2_with fail
        go_roundw
        case rel => exact ⟨k + 1, m, by omega, by go_num, HNO2.out, rfl⟩
        case measure => simp [intOf] <;> omega
    · have ik : ¬ (k : Int) < (ns.length : Int) := by omega
      have HCN : Hid (Cnt (P ++ [s.data.toList]) (bytL2 (ns ++ [s])) (cs ++ [1])) := by
        have h2 := HC.out.new (s := s.data.toList) (fun hx => by
          obtain ⟨j, hj, e⟩ := mem_bytL2 hx
          exact HNO.out j hj (by omega) e)
        have h3 : bytL2 (ns ++ [s]) = bytL2 ns ++ [s.data.toList] := by simp [bytL2]
        rw [h3]
        exact h2
      have HT := Lib.hid (H.out.drewN m)
      have hb0 : Below base w (w.drewN m) := below_drewN' (Below.refl _ _) m
      have hz0 : base ≤ (w.drewN m).heap.size := hbase
      generalize w.drewN m = w0 at *
      obtain ⟨A2, c2, w2, hrun2, ho2, hg2, hB2⟩ := append_str_at w0 base _ ns s HT.out.o1 (by omega) hz0
      have hz2 : base ≤ w2.heap.size := by have := hg2.size; simp at this; omega
      have hob : w2.ownsRow base 3 1 (.slice B ns.length d) cs.length (nz cs) := (HT.out.o2.alloc _).kept hg2 (by
        cases hB : (Value.slice B ns.length d).ownBlock with
        | none => exact .inl rfl
        | some g => exact .inr fun e => HT.out.ap g e.symm hB)
      obtain ⟨A3, c3, w3, hrun3, ho3, hg3, hB3⟩ := append_one_at w2 base _ cs hob (by omega) hz2
      have HR2 := Lib.hid hrun2
      have HFIN : Hid (Two w3 base (.slice A2 (ns.length + 1) c2) (.slice A3 (ns.length + 1) c3) (ns ++ [s]) (cs ++ [1]) ∧ Below base w w3) := by
        have hs2 : (w0.alloc (.cells #[.string s] 9)).heap.size = w0.heap.size + 1 := by simp
        have hs3 : (w2.alloc (.cells #[.int .i64 1] 3)).heap.size = w2.heap.size + 1 := by simp
        have hb2 : Below base w w2 := (hb0.alloc hz0 _).grown hg2 (by omega) (fun q hq => (own_lt HT.out.o1 hq).1)
        have hg2s := hg2.size
        refine ⟨⟨?_, by rw [HLN.out, List.length_append]; exact ho3, ?_⟩, (hb2.alloc hz2 _).grown hg3 (by omega) (fun q hq => (own_lt hob hq).1)⟩
        · rw [List.length_append]
          refine (ho2.alloc _).kept hg3 ?_
          cases hA : (Value.slice A2 (ns.length + 1) c2).ownBlock with
          | none => exact .inl rfl
          | some q =>
            right
            intro e
            rcases hB2 with h1 | h1
            · exact HT.out.ap q (h1 ▸ hA) e.symm
            · rw [h1] at hA
              injection hA with hA
              have := (own_lt HT.out.o2 e.symm).2
              omega
        · intro q h1 h2
          have hq := (own_lt ho2 h1).2
          rcases hB3 with h3 | h3
          · have h2' : (Value.slice B ns.length d).ownBlock = some q := by
              rw [← h3]
              cases A3 <;> exact h2
            rcases hB2 with h4 | h4
            · exact HT.out.ap q (h4 ▸ h1) h2'
            · rw [h4] at h1
              injection h1 with h1
              have := (own_lt HT.out.o2 h2').2
              omega
          · have h2' : (Value.slice A3 (cs.length + 1) c3).ownBlock = some q := by cases A3 <;> exact h2
            rw [h3] at h2'
            injection h2' with h2'
            omega
      have hl3 := HLN.out
      rw [← hl3] at hrun3
      have HR3 := Lib.hid hrun3
      clear hl3
      clear hrun2 hrun3 ho2 hg2 hB2 hob ho3 hg3 hB3
      go_wp2_with (at_builtin; refine wpList_append_run rfl _ _ _ _ rfl rfl rfl HR2.out ?_; refine held ?_)
      refine ⟨?_⟩
      go_wp2_with (at_builtin; refine wpList_append_run rfl _ _ _ _ rfl rfl rfl HR3.out ?_)
      go_ret2
      exact ⟨ns ++ [s], cs ++ [1], A2, A3, c2, c3, ns.length + 1, rfl, by simp, HFIN.out.1, HCN.out, HFIN.out.2⟩
end Go.Proofs.YtmffpbhiehjlpaaGreat
namespace Go.Proofs.YtmffpbhiehjlpaaGreat
set_option linter.unusedSimpArgs false
set_option linter.unusedVariables false
def lv (l : List Bool) : List Value := l.map fun b => .bool b
theorem lv_length (l : List Bool) : (lv l).length = l.length := by simp [lv]
theorem lv_append (a b : List Bool) : lv (a ++ b) = lv a ++ lv b := by simp [lv]
theorem lv_set (l : List Bool) (j : Nat) (x : Bool) : lv (l.set j x) = (lv l).set j (.bool x) := by simp [lv, List.map_set]
theorem lv_get (l : List Bool) (k : Nat) (h : k < l.length) : (lv l)[k]? = some (.bool l[k]) := by
  simp [lv, List.getElem?_eq_getElem h]
theorem lv_one (l : List Bool) : ∀ u ∈ lv l, u.oneCell' = true := by
  intro u hu
  obtain ⟨c, _, rfl⟩ := List.mem_map.1 hu
  rfl
theorem Rd.row {w : World} {lo hi c : Nat} {A : Option Addr} {l : List Bool} (h : Rd w lo hi A c (lv l)) {k : Nat} (hk : k < l.length) :
    ∃ b off, A = some ⟨b, off, none⟩ ∧ lo ≤ b ∧ b < hi ∧ w.cell? ⟨b, off + k, none⟩ = some (.bool l[k]) := by
  obtain ⟨b, off, e, h1, h2, h3⟩ := h.at_ (by rw [lv_length]; omega)
  exact ⟨b, off, e, h1, h2, h3 k _ (lv_get l k hk)⟩
def cnt (l : List Bool) : Nat := l.count true
theorem cnt_take (l : List Bool) (k : Nat) (h : k < l.length) : cnt (l.take (k + 1)) = cnt (l.take k) + (l[k]).toNat := by
  unfold cnt
  rw [List.take_succ_eq_append_getElem h, List.count_append]
  cases l[k] <;> rfl
theorem cnt_le (l : List Bool) : cnt l ≤ l.length := List.count_le_length
theorem cnt_take_le (l : List Bool) (k : Nat) : cnt (l.take k) ≤ k := Nat.le_trans (cnt_le _) (by rw [List.length_take]; omega)
end Go.Proofs.YtmffpbhiehjlpaaGreat
namespace Go.Proofs.YtmffpbhiehjlpaaGreat
set_option linter.unusedSimpArgs false
set_option linter.unusedVariables false
open Go.RowKit
theorem gain_at {bag : List (List UInt8)} {ns : List ByteArray} {cs : List Nat} (hc : Cnt bag (bytL2 ns) cs) {i : Nat} (hi : i < ns.length) (hic : i < cs.length) : gainL bag ns[i].data.toList = cs[i] * ns[i].size := by
  have := hc.cnt i (by rw [bytL2_length]; exact hi)
  rw [bytL2_get ns i hi] at this
  rw [gainL, ← this, lenS]
theorem wrap_gain {z s : Nat} (hz : z ≤ 1000000) (hs : s ≤ 8) : IntKind.i64.wrap ((z : Int) * (s : Int)) = ((z * s : Nat) : Int) ∧ wrap64 ((z : Int) * (s : Int)) = ((z * s : Nat) : Int) := by
  have h1 : z * s ≤ 1000000 * 8 := Nat.mul_le_mul hz hs
  rw [← Int.natCast_mul]
  exact ⟨IntWalk.i64_in _ (by omega), IntWalk.wrap64_in _ (by omega)⟩
structure Spot (w : World) (b1 o1 b2 o2 i : Nat) (t : ByteArray) (z G : Nat) : Prop where
  c1 : w.cell? ⟨b1, o1 + i, none⟩ = some (.string t)
  c2 : w.cell? ⟨b2, o2 + i, none⟩ = some (.int .i64 (z : Int))
  lt : t.size ≤ 8
  lz : z ≤ 1000000
  w1 : Value.int .i64 (IntKind.i64.wrap ((z : Int) * (t.size : Int))) = .int .i64 (G : Int)
  w2 : Value.int .i64 (wrap64 ((z : Int) * (t.size : Int))) = .int .i64 (G : Int)
  lg : G ≤ 8000000
theorem spot_of {w : World} {lo hi : Nat} {b1 o1 b2 o2 c1 d1 : Nat} {ns : List ByteArray} {cs : List Nat} {i : Nat} (h1 : Rd w lo hi (some ⟨b1, o1, none⟩) c1 (sv ns)) (h2 : Rd w lo hi (some ⟨b2, o2, none⟩) d1 (nz cs)) (hi1 : i < ns.length) (hi2 : i < cs.length)
    (hs : ns[i].size ≤ 8) (hz : cs[i] ≤ 1000000) : Spot w b1 o1 b2 o2 i ns[i] cs[i] (cs[i] * ns[i].size) := by
  obtain ⟨b, off, he, _, _, hc1⟩ := h1.str hi1
  injection he with he
  injection he with e1 e2
  subst e1 e2
  obtain ⟨b, off, he, _, _, hc2⟩ := Rd.num (zs := cs.map fun (n : Nat) => (n : Int)) h2 (k := i) (by rw [List.length_map]; exact hi2)
  injection he with he
  injection he with e1 e2
  subst e1 e2
  rw [List.getElem_map] at hc2
  obtain ⟨hw1, hw2⟩ := wrap_gain hz hs
  exact ⟨hc1, hc2, hs, hz, by rw [hw1], by rw [hw2], Nat.le_trans (Nat.mul_le_mul hz hs) (by decide)⟩
theorem rival {bag : List (List UInt8)} {ns : List ByteArray} {cs ks : List Nat} {i k : Nat} (hc : Cnt bag (bytL2 ns) cs) (hi : i < ns.length) (hic : i < cs.length) (hk : k < ns.length) (hkc : k < cs.length) (hki : k < i) (hkn : k ∉ ks) (hin : i ∉ ks)
    (hbt : ∀ j (hj : j < (bytL2 ns).length), j < i → j ∉ ks → j ≠ k → beats bag ((bytL2 ns)[k]'(by rw [bytL2_length]; exact hk)) (bytL2 ns)[j]) :
    (cs[k] * ns[k].size < cs[i] * ns[i].size → Lead bag (bytL2 ns) ks (i + 1) (i : Int)) ∧
    (cs[i] * ns[i].size = cs[k] * ns[k].size → cmpL ns[i].data.toList ns[k].data.toList < 0 → Lead bag (bytL2 ns) ks (i + 1) (i : Int)) ∧
    (cs[i] * ns[i].size = cs[k] * ns[k].size → ¬ cmpL ns[i].data.toList ns[k].data.toList < 0 → Lead bag (bytL2 ns) ks (i + 1) (k : Int)) ∧
    (cs[i] * ns[i].size < cs[k] * ns[k].size → Lead bag (bytL2 ns) ks (i + 1) (k : Int)) := by
  have hk2 : k < (bytL2 ns).length := by rw [bytL2_length]; exact hk
  have hi2 : i < (bytL2 ns).length := by rw [bytL2_length]; exact hi
  have hwin : beats bag ns[i].data.toList ns[k].data.toList → Lead bag (bytL2 ns) ks (i + 1) (i : Int) := fun h => lead_win hk2 hbt hi2 hin (by rw [bytL2_get ns i hi, bytL2_get ns k hk]; exact h)
  have hlose : beats bag ns[k].data.toList ns[i].data.toList → Lead bag (bytL2 ns) ks (i + 1) (k : Int) := fun h => lead_lose hk2 hki hkn hbt hi2 (by rw [bytL2_get ns i hi, bytL2_get ns k hk]; exact h)
  have hne : cmpL ns[i].data.toList ns[k].data.toList ≠ 0 := fun e => by
    have e2 := cmpL_zero e
    rw [← bytL2_get ns i hi, ← bytL2_get ns k hk] at e2
    have := (List.getElem_inj hc.once).1 e2
    omega
  have htn := cmpL_turn ns[i].data.toList ns[k].data.toList
  unfold beats at hwin hlose
  rw [gain_at hc hi hic, gain_at hc hk hkc] at hwin hlose
  rw [htn] at hlose
  exact ⟨fun h => hwin (Or.inl h), fun h1 h2 => hwin (Or.inr ⟨h1, h2⟩), fun h1 h2 => hlose (Or.inr ⟨h1.symm, by omega⟩), fun h => hlose (Or.inl h)⟩
theorem lit_add (g k : Nat) : (⟨g, 0, none⟩ : Addr).add k = ⟨g, k, none⟩ := by unfold Addr.add; by_cases h0 : k = 0 <;> simp [h0]
theorem chosen {wv : World} {u k n m c5 : Nat} {A5 : Option Addr} {ks : List Nat} {bs : List ByteArray} (t : ByteArray) (hO : wv.ownsRow u 4 1 (.slice (some ⟨u, 0, none⟩) n n) n (lv (usL n ks))) (hB : wv.ownsRow (u + 1) 9 1 (.slice A5 m c5) m (sv bs)) (hm : m = bs.length)
    (hk : k < n) (hn : k ∉ ks) (h254 : m ≤ 254) (hz : u + 1 ≤ wv.heap.size) :
    wv.frozen? ⟨u, k, none⟩ = false ∧ wv.cell? ⟨u, k, none⟩ = some (.bool false) ∧ ∃ A6 c6 w6, (Builtin.append_ #[37, 37] 37 #[.slice A5 m c5, .slice (some ⟨wv.heap.size, 0, none⟩) 1 1]).run Tryz.prog ((wv.setCell ⟨u, k, none⟩ (.bool true)).alloc (.cells #[.string t] 9)) = .ok (.slice A6 (m + 1) c6) w6 ∧
      w6.ownsRow u 4 1 (.slice (some ⟨u, 0, none⟩) n n) n (lv (usL n (ks ++ [k]))) ∧ w6.ownsRow (u + 1) 9 1 (.slice A6 (m + 1) c6) (m + 1) (sv (bs ++ [t])) ∧ Below u wv w6 ∧ u + 1 ≤ w6.heap.size := by
  subst hm
  have hz3 : (wv.setCell ⟨u, k, none⟩ (.bool true)).heap.size = wv.heap.size := by simp [World.setCell]
  have hcx := hO.cells (g := u) (by simp [Value.ownBlock]) k (.bool (decide (k ∈ ks))) (by rw [lv_get _ _ (by rw [usL_length]; exact hk), usL_get _ hk])
  rw [lit_add, decide_eq_false hn] at hcx
  obtain ⟨hO3, hg3⟩ := hO.stored k (.bool true)
  rw [← lv_set, usL_set ks hk] at hO3
  have hB3 := ownsRow_setCell_other hB (a := ⟨u, k, none⟩) (fun e => by have := (own_lt hB e).1; simp only at this; omega) (.bool true)
  obtain ⟨A6, c6, w6, hrun, ho6, hg6, _⟩ := append_str_at (wv.setCell ⟨u, k, none⟩ (.bool true)) (u + 1) (.slice A5 bs.length c5) bs t hB3 (by omega) (by rw [hz3]; exact hz)
  rw [hz3] at hrun
  have hb3 : Below u wv (wv.setCell ⟨u, k, none⟩ (.bool true)) := (Below.refl u wv).grown hg3 (by omega) (fun g hg => by simp [Value.ownBlock] at hg; omega)
  have hb6 : Below u wv w6 := (hb3.alloc (by rw [hz3]; omega) _).grown hg6 (by simp; omega) (fun g hg => by have := (own_lt hB3 hg).1; omega)
  refine ⟨hO.frozenAt k, hcx, A6, c6, w6, hrun, (hO3.alloc _).kept hg6 (Or.inr fun e => ?_), ho6, hb6, ?_⟩
  · have h2 : (Value.slice A5 bs.length c5).ownBlock = some u := e.symm
    have := (own_lt hB3 h2).1
    omega
  · have := hg6.size
    rw [World.size_alloc, hz3] at this
    omega
end Go.Proofs.YtmffpbhiehjlpaaGreat
