/-
  The chunk package: Len, Kind, has, text, At.
  What values that are coded come to, in plain: the chunk of values. No program is named here.
  The chunk package: text, At, Raw.
-/
import Derived.Test.YtmffpbhiehjlpaaGreatZ39
import Derived.Test.YtmffpbhiehjlpaaGreatZ28
import Derived.Test.YtmffpbhiehjlpaaGreatZ23
namespace Go.Proofs.YtmffpbhiehjlpaaGreat
set_option linter.unusedSimpArgs false
set_option linter.unusedVariables false
open Go.RowKit
def strC (c : Chk) : List ByteArray :=
  if c.kind = 2 then c.raws.map fun b => ⟨(decL c.tab 4096 b [] 0).1.toArray⟩
  else if c.kind = 3 then c.codes.map fun n => (strsL c.dic).getD n ⟨#[]⟩
  else strsL c.raws
def valsC (c : Chk) : List Vl := spreadL c.there ((strC c).map (Vl.mk false)) ⟨true, ⟨#[]⟩⟩
theorem valsC_length (c : Chk) : (valsC c).length = c.there.length := spread_length _ _ _
theorem strC_length {c : Chk} (h : ChkOk c) : (strC c).length = cnt c.there := by
  rcases h.kinds with ⟨h1, h2, _⟩ | ⟨h1, h2, _⟩ | ⟨h1, _, _, _, h2, _⟩
  · rw [strC, if_neg (by omega), if_neg (by omega), strsL_length, h2]
  · rw [strC, if_pos h1, List.length_map, h2]
  · rw [strC, if_neg (by omega), if_pos h1, List.length_map, h2]
theorem strC_size {c : Chk} (h : ChkOk c) : ∀ s ∈ strC c, s.size ≤ 4096 := by
  intro s hs
  rcases h.kinds with ⟨h1, _, h2, _⟩ | ⟨h1, _, _, h2, _⟩ | ⟨h1, _, _, h2, _, h3⟩
  · rw [strC, if_neg (by omega), if_neg (by omega)] at hs
    obtain ⟨x, hx, rfl⟩ := List.mem_map.1 hs
    have := h2 x hx
    show x.toArray.size ≤ 4096
    simpa using this
  · rw [strC, if_pos h1] at hs
    obtain ⟨x, hx, rfl⟩ := List.mem_map.1 hs
    have := dec_le (T := c.tab) (most := 4096) (by omega) x.length x [] 0 (Nat.le_refl _) (by simp)
    show (decL c.tab 4096 x [] 0).1.toArray.size ≤ 4096
    rw [List.size_toArray]
    omega
  · rw [strC, if_neg (by omega), if_pos h1] at hs
    obtain ⟨n, hn, rfl⟩ := List.mem_map.1 hs
    have hl := h3 n hn
    rw [List.getD_eq_getElem?_getD, List.getElem?_eq_getElem (by rw [strsL_length]; exact hl)]
    have := (dicL_iff.1 h2).2.1 c.dic[n] (List.getElem_mem hl)
    have e : (strsL c.dic)[n]'(by rw [strsL_length]; exact hl) = ⟨c.dic[n].toArray⟩ := by simp [strsL]
    show ((strsL c.dic)[n]'(by rw [strsL_length]; exact hl)).size ≤ 4096
    rw [e]
    show c.dic[n].toArray.size ≤ 4096
    simpa using this
theorem vals_at {c : Chk} (h : ChkOk c) {k : Nat} (hk : c.there[k]? = some true) : ∃ j, ∃ hj : j < (strC c).length, cnt (c.there.take k) = j ∧ (valsC c)[k]? = some ⟨false, (strC c)[j]⟩ := by
  obtain ⟨j, h1, h2, h3⟩ := spread_is c.there ((strC c).map (Vl.mk false)) ⟨true, ⟨#[]⟩⟩ hk (by rw [List.length_map, strC_length h]; exact Nat.le_refl _)
  rw [List.length_map] at h2
  refine ⟨j, h2, h1, ?_⟩
  rw [valsC, h3, List.getElem?_map, List.getElem?_eq_getElem h2]
  rfl
theorem vals_not {c : Chk} {k : Nat} (hk : c.there[k]? = some false) : (valsC c)[k]? = some ⟨true, ⟨#[]⟩⟩ := spread_not _ _ _ hk
theorem vals_size {c : Chk} (h : ChkOk c) : ∀ v ∈ valsC c, v.s.size ≤ 4096 := by
  intro v hv
  obtain ⟨k, hk, rfl⟩ := List.getElem_of_mem hv
  have hkt : k < c.there.length := by rw [← valsC_length c]; exact hk
  have hg : (valsC c)[k]? = some (valsC c)[k] := List.getElem?_eq_getElem hk
  have ht : c.there[k]? = some c.there[k] := List.getElem?_eq_getElem hkt
  cases hb : c.there[k] with
  | true =>
    obtain ⟨j, hj, _, h2⟩ := vals_at h (by rw [ht, hb])
    rw [hg] at h2
    rw [Option.some.inj h2]
    exact strC_size h _ (List.getElem_mem hj)
  | false =>
    have h2 := vals_not (c := c) (by rw [ht, hb])
    rw [hg] at h2
    rw [Option.some.inj h2]
    exact Nat.zero_le _
section
variable {w : World} {lo G : Nat} {c : Chk}
theorem ChkM.lt (h : ChkM w lo G c) : G < w.heap.size := by
  obtain ⟨A0, c0, A2, n2, c2, A3, n3, c3, d, A5, n5, c5, h1, -⟩ := h
  exact h1.lt
theorem ChkM.few (h : ChkM w lo G c) : c.there.length ≤ 9223372036854775807 := by
  obtain ⟨A0, c0, A2, n2, c2, A3, n3, c3, d, A5, n5, c5, -, -, h3, -⟩ := h
  have h1 := h3.len
  have h2 := h3.cap
  rw [lv_length] at h1
  unfold maxLen at h2
  omega
theorem len_v (h : ChkM w lo G c) :
    Calls Tryz.prog 22 #[.pointer (some ⟨G, 0, none⟩)] w fun r w' => r = .returned (.int .i64 (c.there.length : Int)) ∧ w = w' := by
  obtain ⟨A0, c0, A2, n2, c2, A3, n3, c3, d, A5, n5, c5, h1, -⟩ := h
  have x1 := h1.cell 1
  simp only [List.getElem?_toArray, List.getElem?_cons_zero, List.getElem?_cons_succ] at x1
  clear h1
  go_enter Tryz.func22, Tryz.ntmps22
  go_wp2_with fail
  go_ret
  exact ⟨rfl, rfl⟩
theorem kind_v (h : ChkM w lo G c) :
    Calls Tryz.prog 25 #[.pointer (some ⟨G, 0, none⟩)] w fun r w' => r = .returned (.int .i64 (c.kind : Int)) ∧ w = w' := by
  obtain ⟨A0, c0, A2, n2, c2, A3, n3, c3, d, A5, n5, c5, h1, -⟩ := h
  have x0 := h1.cell 0
  simp only [List.getElem?_toArray, List.getElem?_cons_zero, List.getElem?_cons_succ] at x0
  clear h1
  go_enter Tryz.func25, Tryz.ntmps25
  go_wp2_with fail
  go_ret
  exact ⟨rfl, rfl⟩
theorem has_out (h : ChkM w lo G c) (z : Int) (hz : z < 0 ∨ (c.there.length : Int) ≤ z) :
    Calls Tryz.prog 54 #[.pointer (some ⟨G, 0, none⟩), .int .i64 z] w fun r w' => r = .returned (.bool false) ∧ w = w' := by
  have HL := Lib.hid (len_v h)
  clear h
  go_enter Tryz.func54, Tryz.ntmps54
  by_cases h0 : 0 ≤ z
  · have h1 : ¬ z < (c.there.length : Int) := by omega
    go_wp2_with fail
    refine HL.out.mono ?_
    rintro r w' ⟨rfl, rfl⟩
    go_wp2_with fail
    go_ret
    exact ⟨rfl, rfl⟩
  · go_wp2_with fail
    go_ret
    exact ⟨rfl, rfl⟩
theorem has_in (h : ChkM w lo G c) {k : Nat} {b : Bool} (hk : c.there[k]? = some b) :
    Calls Tryz.prog 54 #[.pointer (some ⟨G, 0, none⟩), .int .i64 (k : Int)] w fun r w' => r = .returned (.bool b) ∧ w = w' := by
  have HL := Lib.hid (len_v h)
  have hlt : k < c.there.length := (List.getElem?_eq_some_iff.1 hk).1
  have hke : c.there[k] = b := (List.getElem?_eq_some_iff.1 hk).2
  have ik : (k : Int) < (c.there.length : Int) := by omega
  have i0 : (0 : Int) ≤ (k : Int) := by omega
  have hfew := h.few
  obtain ⟨A0, c0, A2, n2, c2, A3, n3, c3, d, A5, n5, c5, h1, h2, h3, -⟩ := h
  obtain ⟨b0, off, rfl, _, _, hcell⟩ := h3.row hlt
  rw [hke] at hcell
  have x1 := h1.cell 1
  simp only [List.getElem?_toArray, List.getElem?_cons_zero, List.getElem?_cons_succ] at x1
  clear h1 h3 hk hke
  generalize c.there.length = n at *
  go_enter Tryz.func54, Tryz.ntmps54
  go_wp2_with fail
  refine HL.out.mono ?_
  rintro r w' ⟨rfl, rfl⟩
  go_wp2_with fail
  go_ret
  exact ⟨rfl, rfl⟩
end
end Go.Proofs.YtmffpbhiehjlpaaGreat
namespace Go.Proofs.YtmffpbhiehjlpaaGreat
set_option linter.unusedSimpArgs false
set_option linter.unusedVariables false
open Go.RowKit
theorem dic_of (S : List (List UInt8)) : SortOf S (dicS S) := by
  have h := dicS_compact S
  rw [dicS_is h]
  exact h
theorem dec_all {T : List (List UInt8)} (hT : T.length ≤ 255) {l : List UInt8} (hl : l.length ≤ 4096) : (decL T 4096 (encL T l) [] 0).1 = l ∧ (decL T 4096 (encL T l) [] 0).2.1 = 0 := by
  obtain ⟨k, hk⟩ := dec_enc hT l
  have h := hk 4096 [] [] 0 (by simp; omega)
  rw [List.append_nil] at h
  rw [h, decL]
  exact ⟨List.nil_append _, rfl⟩
noncomputable def chkOf (l : List Vl) (o : Co) : Chk :=
  if kindK (textsL l) o = 2 then ⟨2, thereL l, (bytL2 (textsL l)).map (encL (tabS (textsL l) o)), tabS (textsL l) o, [], []⟩
  else if kindK (textsL l) o = 3 then ⟨3, thereL l, [], [], dicS (bytL2 (textsL l)), codesN (dicS (bytL2 (textsL l))) (bytL2 (textsL l))⟩
  else ⟨1, thereL l, bytL2 (textsL l), [], [], []⟩
theorem chkOf_there (l : List Vl) (o : Co) : (chkOf l o).there = thereL l := by unfold chkOf; repeat' split
                                                                                all_goals rfl
theorem chkOf_kind {l : List Vl} {o : Co} (h : CoOk o) : ((chkOf l o).kind : Int) = kindK (textsL l) o := by
  have h1 := kindK_is (textsL l) h
  unfold chkOf
  split
  · rename_i h2; rw [h2]; rfl
  · split
    · rename_i h2; rw [h2]; rfl
    · show (1 : Int) = _
      omega
theorem codeL_chk {l : List Vl} {o : Co} (h : CoOk o) : codeL l o = chkB o.block.toNat (chkOf l o) := by
  have hk := chkOf_kind (l := l) h
  have h1 := kindK_is (textsL l) h
  unfold codeL chkB
  rw [← hk, chkOf_there, Int.toNat_natCast]
  refine congrArg _ (congrArg _ ?_)
  rcases h1 with h1 | h1 | h1
  · have e : chkOf l o = ⟨1, thereL l, bytL2 (textsL l), [], [], []⟩ := by rw [chkOf, if_neg (by omega), if_neg (by omega)]
    rw [e, payK, if_neg (by simp), if_neg (by simp)]
    rfl
  · have e : chkOf l o = ⟨2, thereL l, (bytL2 (textsL l)).map (encL (tabS (textsL l) o)), tabS (textsL l) o, [], []⟩ := by rw [chkOf, if_pos h1]
    rw [e, payK, if_pos (by simp)]
    rfl
  · have e : chkOf l o = ⟨3, thereL l, [], [], dicS (bytL2 (textsL l)), codesN (dicS (bytL2 (textsL l))) (bytL2 (textsL l))⟩ := by rw [chkOf, if_neg (by omega), if_pos h1]
    rw [e, payK, if_neg (by simp), if_pos (by simp)]
    rfl
theorem bytS_len (s : ByteArray) : s.data.toList.length = s.size := by simp
theorem chkOf_ok {l : List Vl} {o : Co} (hf : FitsV l) (hc : CoOk o) (ht : kindK (textsL l) o = 2 → rightT (tabS (textsL l) o) = true) : ChkOk (chkOf l o) := by
  have hts : ∀ s ∈ textsL l, s.size ≤ 4096 := fun s hs => by obtain ⟨v, hv, rfl⟩ := textsL_mem hs; exact (hf.2 v hv).1
  have hbs : ∀ x ∈ bytL2 (textsL l), x.length ≤ 4096 := fun x hx => by
    obtain ⟨s, hs, rfl⟩ := List.mem_map.1 hx
    rw [bytS_len]
    exact hts s hs
  have hln : (bytL2 (textsL l)).length = cnt (thereL l) := by rw [bytL2_length, texts_cnt]
  have h4 : (thereL l).length ≤ 4096 := by rw [thereL_length]; exact hf.1
  have h1 := kindK_is (textsL l) hc
  rcases h1 with h1 | h1 | h1
  · have e : chkOf l o = ⟨1, thereL l, bytL2 (textsL l), [], [], []⟩ := by rw [chkOf, if_neg (by omega), if_neg (by omega)]
    rw [e]
    exact ⟨h4, .inl ⟨rfl, hln, hbs, rfl, rfl, rfl⟩⟩
  · have e : chkOf l o = ⟨2, thereL l, (bytL2 (textsL l)).map (encL (tabS (textsL l) o)), tabS (textsL l) o, [], []⟩ := by rw [chkOf, if_pos h1]
    rw [e]
    have hr := ht h1
    have h255 := (small_tab hr).1
    refine ⟨h4, .inr (.inl ⟨rfl, by rw [List.length_map]; exact hln, hr, fun x hx => ?_, rfl, rfl⟩)⟩
    obtain ⟨y, hy, rfl⟩ := List.mem_map.1 hx
    obtain ⟨d1, d2⟩ := dec_all h255 (hbs y hy)
    refine ⟨?_, Nat.le_trans (enc_len _ y) (by have := hbs y hy; omega)⟩
    rw [encOk, d1, d2]
    simp
  · have e : chkOf l o = ⟨3, thereL l, [], [], dicS (bytL2 (textsL l)), codesN (dicS (bytL2 (textsL l))) (bytL2 (textsL l))⟩ := by rw [chkOf, if_neg (by omega), if_pos h1]
    rw [e]
    have hd := dic_of (bytL2 (textsL l))
    have hlt : (bytL2 (textsL l)).length ≤ 4096 := by rw [bytL2_length]; exact Nat.le_trans (textsL_le l) hf.1
    refine ⟨h4, .inr (.inr ⟨rfl, rfl, rfl, hd.dic hlt hbs, by rw [← hln]; simp [codesN], fun x hx => ?_⟩)⟩
    obtain ⟨y, hy, rfl⟩ := List.mem_map.1 hx
    exact List.idxOf_lt_length_of_mem ((hd.2 y).2 hy)
theorem chkOf_str {l : List Vl} {o : Co} (hf : FitsV l) (hc : CoOk o) (ht : kindK (textsL l) o = 2 → rightT (tabS (textsL l) o) = true) : strC (chkOf l o) = textsL l := by
  have hts : ∀ s ∈ textsL l, s.size ≤ 4096 := fun s hs => by obtain ⟨v, hv, rfl⟩ := textsL_mem hs; exact (hf.2 v hv).1
  have h1 := kindK_is (textsL l) hc
  rcases h1 with h1 | h1 | h1
  · have e : chkOf l o = ⟨1, thereL l, bytL2 (textsL l), [], [], []⟩ := by rw [chkOf, if_neg (by omega), if_neg (by omega)]
    rw [e, strC, if_neg (by simp), if_neg (by simp)]
    exact strsL_bytL2 _
  · have e : chkOf l o = ⟨2, thereL l, (bytL2 (textsL l)).map (encL (tabS (textsL l) o)), tabS (textsL l) o, [], []⟩ := by rw [chkOf, if_pos h1]
    rw [e, strC, if_pos (by simp)]
    have h255 := (small_tab (ht h1)).1
    show ((bytL2 (textsL l)).map (encL (tabS (textsL l) o))).map (fun b => (⟨(decL (tabS (textsL l) o) 4096 b [] 0).1.toArray⟩ : ByteArray)) = textsL l
    generalize tabS (textsL l) o = T at *
    generalize textsL l = S at *
    clear e h1 ht hf
    induction S with
    | nil => rfl
    | cons a S ih =>
      have h2 := (dec_all h255 (l := a.data.toList) (by rw [bytS_len]; exact hts a List.mem_cons_self)).1
      have h3 := ih (fun s hs => hts s (List.mem_cons_of_mem _ hs))
      show (⟨(decL T 4096 (encL T a.data.toList) [] 0).1.toArray⟩ : ByteArray) :: _ = a :: S
      rw [h2]
      exact congrArg _ h3
  · have e : chkOf l o = ⟨3, thereL l, [], [], dicS (bytL2 (textsL l)), codesN (dicS (bytL2 (textsL l))) (bytL2 (textsL l))⟩ := by rw [chkOf, if_neg (by omega), if_pos h1]
    rw [e, strC, if_neg (by simp), if_pos (by simp)]
    have hd := (dic_of (bytL2 (textsL l))).2
    show (codesN (dicS (bytL2 (textsL l))) (bytL2 (textsL l))).map (fun n => (strsL (dicS (bytL2 (textsL l)))).getD n ⟨#[]⟩) = textsL l
    generalize dicS (bytL2 (textsL l)) = D at *
    generalize textsL l = S at *
    have hm : ∀ s ∈ S, s.data.toList ∈ D := fun s hs => (hd _).2 (List.mem_map_of_mem hs)
    clear hd e h1 hts ht hf
    induction S with
    | nil => rfl
    | cons a S ih =>
      have h2 := hm a List.mem_cons_self
      have hlt := List.idxOf_lt_length_of_mem h2
      have h3 := ih (fun s hs => hm s (List.mem_cons_of_mem _ hs))
      show (strsL D).getD (D.idxOf a.data.toList) ⟨#[]⟩ :: _ = a :: S
      rw [List.getD_eq_getElem?_getD, List.getElem?_eq_getElem (by rw [strsL_length]; exact hlt)]
      have e : (strsL D)[D.idxOf a.data.toList]'(by rw [strsL_length]; exact hlt) = ⟨(D[D.idxOf a.data.toList]).toArray⟩ := by simp [strsL]
      show (strsL D)[D.idxOf a.data.toList]'(by rw [strsL_length]; exact hlt) :: _ = a :: S
      rw [e, List.getElem_idxOf hlt]
      exact congrArg _ h3
theorem chkOf_vals {l : List Vl} {o : Co} (hf : FitsV l) (hc : CoOk o) (ht : kindK (textsL l) o = 2 → rightT (tabS (textsL l) o) = true) : valsC (chkOf l o) = l := by
  rw [valsC, chkOf_str hf hc ht, chkOf_there]
  exact spread_vals hf.2
theorem open_code {l : List Vl} {o : Co} (hf : FitsV l) (hc : CoOk o) (ht : kindK (textsL l) o = 2 → rightT (tabS (textsL l) o) = true) : openC (codeL l o) 0 0 = (chkOf l o, (codeL l o).length, 0) := by
  have h := codeL_chk (l := l) hc
  obtain ⟨_, _, h3, h4, _⟩ := hc
  have := openC_there (bs := codeL l o) (rest := []) (k := 0) (K := o.block.toNat) (c := chkOf l o) (Nat.zero_le _) (chkOf_ok hf ⟨‹_›, ‹_›, h3, h4, ‹_›⟩ ht) (by omega) (by omega) (by rw [List.drop_zero, List.append_nil, h])
  rw [this, ← h, Nat.zero_add]
theorem cut_code {l : List Vl} {o : Co} (hf : FitsV l) (hc : CoOk o) (ht : kindK (textsL l) o = 2 → rightT (tabS (textsL l) o) = true) {m : Nat} (hm : m < (codeL l o).length) :
    (openC ((codeL l o).take m) 0 0).1 = Chk.none ∧ (openC ((codeL l o).take m) 0 0).2.2 ≠ 0 := by
  have h := codeL_chk (l := l) hc
  have hb := hc
  obtain ⟨_, _, h3, h4, _⟩ := hb
  rw [h] at hm ⊢
  have h5 := openC_cut (chkOf_ok hf hc ht) (by omega) (by omega) hm
  refine ⟨?_, h5⟩
  generalize (chkB o.block.toNat (chkOf l o)).take m = bs at *
  unfold openC at h5 ⊢
  split
  · rename_i h6
    rw [if_pos h6] at h5
    exact absurd h6 h5
  · rfl
end Go.Proofs.YtmffpbhiehjlpaaGreat
namespace Go.Proofs.YtmffpbhiehjlpaaGreat
set_option linter.unusedSimpArgs false
set_option linter.unusedVariables false
open Go.RowKit
theorem spread_at {α : Type} {there : List Bool} {xs : List α} (d : α) {k : Nat} (hk : there[k]? = some true) (hl : cnt there ≤ xs.length) : (spreadL there xs d)[k]? = xs[cnt (there.take k)]? ∧ cnt (there.take k) < xs.length := by
  obtain ⟨j, h1, h2, h3⟩ := spread_is there xs d hk hl
  rw [h1]
  exact ⟨h3, h2⟩
theorem ChkM.raw {w : World} {lo G : Nat} {c : Chk} (h : ChkM w lo G c) (hk2 : c.kind = 1 ∨ c.kind = 2) (hl : c.raws.length = cnt c.there) {k : Nat} (hk : c.there[k]? = some true) :
    ∃ (b off c2 : Nat) (p : Part), w.cell? ⟨G, 2, none⟩ = some (.slice (some ⟨b, off, none⟩) c.there.length c2) ∧ b < w.heap.size ∧ w.cell? ⟨b, off + k, none⟩ = some (.slice p.A p.bs.length p.c) ∧ Rd w lo w.heap.size p.A p.c (bv p.bs) ∧ c.raws[cnt (c.there.take k)]? = some p.bs := by
  obtain ⟨A0, c0, A2, n2, c2, A3, n3, c3, d, A5, n5, c5, h1, h2, h3, h4, h5, h6⟩ := h
  obtain ⟨e1, ps, e2, e3, e4⟩ := h4 hk2
  subst e1
  have hlp : ps.length = cnt c.there := by rw [← hl, ← e2, bsL_length]
  obtain ⟨g1, g2⟩ := spread_at (.slice none 0 0) hk (xs := pv ps) (by rw [pv_length, hlp]; exact Nat.le_refl _)
  rw [pv_length] at g2
  have hlt : k < c.there.length := (List.getElem?_eq_some_iff.1 hk).1
  obtain ⟨b, off, rfl, _, hb, hall⟩ := e3.at_ (by rw [spread_length]; omega)
  have x2 := h1.cell 2
  simp only [List.getElem?_toArray, List.getElem?_cons_zero, List.getElem?_cons_succ] at x2
  have hp := pv_get ps _ g2
  rw [hp] at g1
  refine ⟨b, off, c2, ps[cnt (c.there.take k)], x2, hb, hall k _ g1, e4 _ (List.getElem_mem g2), ?_⟩
  rw [← e2, bsL, List.getElem?_map, List.getElem?_eq_getElem g2]
  rfl
theorem ChkM.kindCell {w : World} {lo G : Nat} {c : Chk} (h : ChkM w lo G c) : w.cell? ⟨G, 0, none⟩ = some (.int .i64 (c.kind : Int)) := by
  obtain ⟨A0, c0, A2, n2, c2, A3, n3, c3, d, A5, n5, c5, h1, -⟩ := h
  have x0 := h1.cell 0
  simpa using x0
theorem ChkM.tabCell {w : World} {lo G : Nat} {c : Chk} (h : ChkM w lo G c) (h2 : c.kind = 2) : ∃ A3 c3, w.cell? ⟨G, 3, none⟩ = some (.slice A3 c.tab.length c3) ∧ Rd w lo w.heap.size A3 c3 (sv (strsL c.tab)) := by
  obtain ⟨A0, c0, A2, n2, c2, A3, n3, c3, d, A5, n5, c5, h1, _, _, _, h5, _⟩ := h
  obtain ⟨e1, e2⟩ := h5 h2
  subst e1
  have x3 := h1.cell 3
  exact ⟨A3, c3, by simpa using x3, e2⟩
theorem ChkM.dicCell {w : World} {lo G : Nat} {c : Chk} (h : ChkM w lo G c) (h3 : c.kind = 3) : ∃ (dg : Nat) (ys : List ByteArray) (A5 : Option Addr) (c5 : Nat), w.cell? ⟨G, 4, none⟩ = some (.pointer (some ⟨dg, 0, none⟩)) ∧ w.cell? ⟨G, 5, none⟩ = some (.slice A5 c.there.length c5) ∧
    Dc w dg ys ∧ bytL2 ys = c.dic ∧ Rd w lo w.heap.size A5 c5 (spreadL c.there (iv (ints c.codes)) (.int .i64 (-1))) := by
  obtain ⟨A0, c0, A2, n2, c2, A3, n3, c3, d, A5, n5, c5, h1, _, _, _, _, h6⟩ := h
  obtain ⟨dg, ys, rfl, e2, e3, rfl, e5⟩ := h6 h3
  have x4 := h1.cell 4
  have x5 := h1.cell 5
  exact ⟨dg, ys, A5, c5, by simpa using x4, by simpa using x5, e2, e3, e5⟩
theorem strs_of {ys : List ByteArray} {D : List (List UInt8)} (h : bytL2 ys = D) : ys = strsL D := by rw [← h, strsL_bytL2]
set_option maxRecDepth 100000 in
set_option maxHeartbeats 4000000 in
theorem text_v {w : World} {lo G : Nat} {c : Chk} (h : ChkM w lo G c) (ho : ChkOk c) {k : Nat} (hk : c.there[k]? = some true) {s : ByteArray} (hs : (valsC c)[k]? = some ⟨false, s⟩) :
    Calls Tryz.prog 55 #[.pointer (some ⟨G, 0, none⟩), .int .i64 (k : Int)] w fun r w' => r = .returned (.string s) ∧ Below w.heap.size w w' := by
  obtain ⟨j, hj, hcj, hv⟩ := vals_at ho hk
  rw [hv] at hs
  have hse : (strC c)[j] = s := by injection hs with hs; injection hs
  have hlt : k < c.there.length := (List.getElem?_eq_some_iff.1 hk).1
  have hfew := h.few
  have x0 := h.kindCell
  have hGl := h.lt
  have ik : (k : Int) < (c.there.length : Int) := by omega
  have i0 : (0 : Int) ≤ (k : Int) := by omega
  rcases ho.kinds with ⟨h1, hl, h4, _⟩ | ⟨h1, hl, htr, h4, _⟩ | ⟨h1, _, _, hdc, hl, h4⟩
  · obtain ⟨b, off, c2, q, x2, hb, hcell, hrd, hrw⟩ := h.raw (.inl h1) hl hk
    have hst := run_string_rd (P := Tryz.prog) w 28 9 5 Tryz.underlying28 Tryz.underlying5 Tryz.underlying9 _ _ q.A q.c q.bs hrd
    have hsq : (⟨q.bs.toArray⟩ : ByteArray) = s := by
      rw [← hse]
      have e : strC c = strsL c.raws := by rw [strC, if_neg (by omega), if_neg (by omega)]
      rw [hcj] at hrw
      have h5 := (List.getElem?_eq_some_iff.1 hrw).2
      simp [e, strsL, h5]
    rw [hsq] at hst
    rw [h1] at x0
    clear h ho hk hs hv hrw hsq hrd hcj hse
    generalize c.there.length = n at *
    generalize q.bs.length = qn at *
    go_enter Tryz.func55, Tryz.ntmps55
    go_wp2_with fail
    go_ret
    exact ⟨rfl, Below.refl _ _⟩
  · obtain ⟨b, off, c2, q, x2, hb, hcell, hrd, hrw⟩ := h.raw (.inr h1) hl hk
    obtain ⟨A3, c3, x3, hrt⟩ := h.tabCell h1
    have hq := h4 q.bs (List.mem_of_getElem? hrw)
    obtain ⟨h5, h8⟩ := strs_small htr
    have HCF : Hid (∀ W, Below w.heap.size w W → W.cell? ⟨G, 3, none⟩ = some (.slice A3 c.tab.length c3) ∧ W.cell? ⟨G, 2, none⟩ = some (.slice (some ⟨b, off, none⟩) c.there.length c2) ∧ W.cell? ⟨b, off + k, none⟩ = some (.slice q.A q.bs.length q.c)) := fun W hW => ⟨(hW.cell (p := ⟨G, 3, none⟩) hGl).trans x3, (hW.cell (p := ⟨G, 2, none⟩) hGl).trans x2, (hW.cell (p := ⟨b, off + k, none⟩) hb).trans hcell⟩
    have HDE : Hid (∀ W, Below w.heap.size w W → Calls Tryz.prog 82 #[.slice A3 c.tab.length c3, .slice q.A q.bs.length q.c, .int .i64 4096] W fun r w' => ∃ e : Int, r = .returned (.tuple #[.string s, .int .i64 e]) ∧ Below W.heap.size W w') := fun W hW => by
      have h9 := fdecode_any (w := W) (c := c3) (A := A3) (c2 := q.c) (B := q.A) (strsL c.tab) h8 h5 q.bs (by omega) 4096 (by omega) (by omega) ((hrt.below hW (Nat.le_refl _)).wide (Nat.zero_le _) hW.size) ((hrd.below hW (Nat.le_refl _)).wide (Nat.zero_le _) hW.size)
      rw [strsL_length, bytL2_strsL] at h9
      have hsq : (⟨(decL c.tab 4096 q.bs [] 0).1.toArray⟩ : ByteArray) = s := by
        rw [← hse]
        have e : strC c = c.raws.map fun b => ⟨(decL c.tab 4096 b [] 0).1.toArray⟩ := by rw [strC, if_pos h1]
        rw [hcj] at hrw
        have h7 := (List.getElem?_eq_some_iff.1 hrw).2
        simp [e, h7]
      rw [hsq] at h9
      refine h9.mono ?_
      rintro r w' ⟨rfl, hb⟩
      exact ⟨_, rfl, hb⟩
    rw [h1] at x0
    clear h ho hk hs hv hrw hrd hcj hse hrt h8 x2 x3 hcell hq h4
    generalize c.there.length = n at *
    generalize q.bs.length = qn at *
    generalize c.tab.length = tn at *
    go_enter Tryz.func55, Tryz.ntmps55
    go_wp2_with fail
    have KD : Hid (Below w.heap.size w w.drew) := (Below.refl _ _).drew
    refine wp_region_held_drew (S := fun w' => Below w.heap.size w w') (by kernel_rfl) KD.out (fun hHeld => ?_)
    refine wpAnyH_take (i := 0) (oi := _) (v := ?_) rfl (by kernel_rfl) (by kernel_rfl) (by kernel_rfl) (fun _ _ _ h => h) (Or.inl ⟨by rfl, ?_⟩) hHeld ?_
    rotate_left
    focus (intro W hSw; obtain ⟨q1, q2, q3⟩ := HCF.out W hSw; go_simp; try with_reducible rfl)
    try simp only [List.getElem_toArray, List.getElem_cons_zero, List.getElem_cons_succ, Act.put, List.setIfInBounds_toArray, List.set_cons_zero, List.set_cons_succ]
    refine wpAnyH_take (i := 1) (oi := _) (v := ?_) rfl (by kernel_rfl) (by kernel_rfl) (by kernel_rfl) (fun _ _ _ h => h) (Or.inl ⟨by rfl, ?_⟩) hHeld ?_
    rotate_left
    focus (intro W hSw; obtain ⟨q1, q2, q3⟩ := HCF.out W hSw; go_simp; try with_reducible rfl)
    try simp only [List.getElem_toArray, List.getElem_cons_zero, List.getElem_cons_succ, Act.put, List.setIfInBounds_toArray, List.set_cons_zero, List.set_cons_succ]
    refine wpAnyH_take (i := 2) (oi := _) (v := ?_) rfl (by kernel_rfl) (by kernel_rfl) (by kernel_rfl) (fun _ _ _ h => h) (Or.inl ⟨by rfl, ?_⟩) hHeld ?_
    rotate_left
    focus (intro W hSw; obtain ⟨q1, q2, q3⟩ := HCF.out W hSw; go_simp; try with_reducible rfl)
    try simp only [List.getElem_toArray, List.getElem_cons_zero, List.getElem_cons_succ, Act.put, List.setIfInBounds_toArray, List.set_cons_zero, List.set_cons_succ]
    refine wpAnyH_take (i := 3) (oi := _) (v := ?_) rfl (by kernel_rfl) (by kernel_rfl) (by kernel_rfl) (fun _ _ _ h => h) (Or.inl ⟨by rfl, ?_⟩) hHeld ?_
    rotate_left
    focus (intro W hSw; obtain ⟨q1, q2, q3⟩ := HCF.out W hSw; go_simp; try with_reducible rfl)
    try simp only [List.getElem_toArray, List.getElem_cons_zero, List.getElem_cons_succ, Act.put, List.setIfInBounds_toArray, List.set_cons_zero, List.set_cons_succ]
    refine wpAnyH_take (i := 4) (oi := _) (v := ?_) rfl (by kernel_rfl) (by kernel_rfl) (by kernel_rfl) (fun _ _ _ h => h) (Or.inl ⟨by rfl, ?_⟩) hHeld ?_
    rotate_left
    focus (intro W hSw; obtain ⟨q1, q2, q3⟩ := HCF.out W hSw; go_simp; try with_reducible rfl)
    try simp only [List.getElem_toArray, List.getElem_cons_zero, List.getElem_cons_succ, Act.put, List.setIfInBounds_toArray, List.set_cons_zero, List.set_cons_succ]
    refine wpAnyH_take (i := 5) (oi := _) (v := ?_) rfl (by kernel_rfl) (by kernel_rfl) (by kernel_rfl) (fun _ _ _ h => h) (Or.inl ⟨by rfl, ?_⟩) hHeld ?_
    rotate_left
    focus (intro W hSw; obtain ⟨q1, q2, q3⟩ := HCF.out W hSw; go_simp; try with_reducible rfl)
    try simp only [List.getElem_toArray, List.getElem_cons_zero, List.getElem_cons_succ, Act.put, List.setIfInBounds_toArray, List.set_cons_zero, List.set_cons_succ]
    refine wpAnyH_take (i := 6) (oi := _) (v := ?_) rfl (by kernel_rfl) (by kernel_rfl) (by kernel_rfl) (fun _ _ _ h => h) (Or.inl ⟨by rfl, ?_⟩) hHeld ?_
    rotate_left
    focus (intro W hSw; obtain ⟨q1, q2, q3⟩ := HCF.out W hSw; go_simp; try with_reducible rfl)
    try simp only [List.getElem_toArray, List.getElem_cons_zero, List.getElem_cons_succ, Act.put, List.setIfInBounds_toArray, List.set_cons_zero, List.set_cons_succ]
    refine wpAnyH_take (i := 7) (oi := _) (v := ?_) rfl (by kernel_rfl) (by kernel_rfl) (by kernel_rfl) (fun _ _ _ h => h) (Or.inl ⟨by rfl, ?_⟩) hHeld ?_
    rotate_left
    focus (intro W hSw; obtain ⟨q1, q2, q3⟩ := HCF.out W hSw; go_simp; try with_reducible rfl)
    try simp only [List.getElem_toArray, List.getElem_cons_zero, List.getElem_cons_succ, Act.put, List.setIfInBounds_toArray, List.set_cons_zero, List.set_cons_succ]
    refine wpAnyH_take (i := 8) (oi := _) (v := ?_) rfl (by kernel_rfl) (by kernel_rfl) (by kernel_rfl) (fun _ _ _ h => h) (Or.inl ⟨by rfl, ?_⟩) hHeld ?_
    rotate_left
    focus (intro W hSw; obtain ⟨q1, q2, q3⟩ := HCF.out W hSw; go_simp; try with_reducible rfl)
    try simp only [List.getElem_toArray, List.getElem_cons_zero, List.getElem_cons_succ, Act.put, List.setIfInBounds_toArray, List.set_cons_zero, List.set_cons_succ]
    refine wpAnyH_take (i := 9) (oi := _) (v := ?_) rfl (by kernel_rfl) (by kernel_rfl) (by kernel_rfl) (fun _ _ _ h => h) (Or.inl ⟨by rfl, ?_⟩) hHeld ?_
    rotate_left
    focus (intro W hSw; obtain ⟨q1, q2, q3⟩ := HCF.out W hSw; go_simp; try with_reducible rfl)
    try simp only [List.getElem_toArray, List.getElem_cons_zero, List.getElem_cons_succ, Act.put, List.setIfInBounds_toArray, List.set_cons_zero, List.set_cons_succ]
    refine wpAnyH_take (i := 10) (oi := _) (v := ?_) rfl (by kernel_rfl) (by kernel_rfl) (by kernel_rfl) (fun _ _ _ h => h) (Or.inl ⟨by rfl, ?_⟩) hHeld ?_
    rotate_left
    focus (intro W hSw; obtain ⟨q1, q2, q3⟩ := HCF.out W hSw; go_simp; try with_reducible rfl)
    try simp only [List.getElem_toArray, List.getElem_cons_zero, List.getElem_cons_succ, Act.put, List.setIfInBounds_toArray, List.set_cons_zero, List.set_cons_succ]
    obtain ⟨wd, hwd⟩ : ∃ q, w.drew = q := ⟨_, rfl⟩
    rw [hwd] at hHeld ⊢
    clear KD hwd
    have K_wd := Lib.hid hHeld
    refine wpAnyH_ready (rs := [11]) (by kernel_rfl) (by simp) ?_
    refine AllReadyH.cons (o := _) rfl (fun K hK => ?_) AllReadyH.nil
    go_simp
    refine (HDE.out _ K_wd.out).mono ?_
    rintro r v1 ⟨e9, rfl, hb_v1⟩
    have s_v1 : wd.heap.size ≤ v1.heap.size := hb_v1.size
    have K_v1 : Hid (Below w.heap.size w v1) := Lib.hid (K_wd.out.trans (hb_v1.mono K_wd.out.size))
    clear hb_v1
    refine hK.out _ _ K_v1.out (fun hHeld => ?_)
    clear hK K
    try simp only [List.getElem_toArray, List.getElem_cons_zero, List.getElem_cons_succ, Act.put, List.setIfInBounds_toArray, List.set_cons_zero, List.set_cons_succ]
    refine wpAnyH_take (i := 12) (oi := _) (v := ?_) rfl (by kernel_rfl) (by kernel_rfl) (by kernel_rfl) (fun _ _ _ h => h) (Or.inl ⟨by rfl, ?_⟩) hHeld ?_
    rotate_left
    focus (intro W hSw; obtain ⟨q1, q2, q3⟩ := HCF.out W hSw; go_simp; try with_reducible rfl)
    try simp only [List.getElem_toArray, List.getElem_cons_zero, List.getElem_cons_succ, Act.put, List.setIfInBounds_toArray, List.set_cons_zero, List.set_cons_succ]
    refine wpAnyH_take (i := 13) (oi := _) (v := ?_) rfl (by kernel_rfl) (by kernel_rfl) (by kernel_rfl) (fun _ _ _ h => h) (Or.inl ⟨by rfl, ?_⟩) hHeld ?_
    rotate_left
    focus (intro W hSw; obtain ⟨q1, q2, q3⟩ := HCF.out W hSw; go_simp; try with_reducible rfl)
    try simp only [List.getElem_toArray, List.getElem_cons_zero, List.getElem_cons_succ, Act.put, List.setIfInBounds_toArray, List.set_cons_zero, List.set_cons_succ]
    refine wpAnyH_take (i := 14) (oi := _) (v := ?_) rfl (by kernel_rfl) (by kernel_rfl) (by kernel_rfl) (fun _ _ _ h => h) (Or.inl ⟨by rfl, ?_⟩) hHeld ?_
    rotate_left
    focus (intro W hSw; obtain ⟨q1, q2, q3⟩ := HCF.out W hSw; go_simp; try with_reducible rfl)
    try simp only [List.getElem_toArray, List.getElem_cons_zero, List.getElem_cons_succ, Act.put, List.setIfInBounds_toArray, List.set_cons_zero, List.set_cons_succ]
    refine wpAnyH_take (i := 15) (oi := _) (v := ?_) rfl (by kernel_rfl) (by kernel_rfl) (by kernel_rfl) (fun _ _ _ h => h) (Or.inl ⟨by rfl, ?_⟩) hHeld ?_
    rotate_left
    focus (intro W hSw; obtain ⟨q1, q2, q3⟩ := HCF.out W hSw; go_simp; try with_reducible rfl)
    try simp only [List.getElem_toArray, List.getElem_cons_zero, List.getElem_cons_succ, Act.put, List.setIfInBounds_toArray, List.set_cons_zero, List.set_cons_succ]
    refine wpAnyH_take (i := 16) (oi := _) (v := ?_) rfl (by kernel_rfl) (by kernel_rfl) (by kernel_rfl) (fun _ _ _ h => h) (Or.inl ⟨by rfl, ?_⟩) hHeld ?_
    rotate_left
    focus (intro W hSw; obtain ⟨q1, q2, q3⟩ := HCF.out W hSw; go_simp; try with_reducible rfl)
    try simp only [List.getElem_toArray, List.getElem_cons_zero, List.getElem_cons_succ, Act.put, List.setIfInBounds_toArray, List.set_cons_zero, List.set_cons_succ]
    refine wpAnyH_done (by kernel_rfl) ?_ _
    go_wp2_with fail
    go_ret
    exact ⟨rfl, K_v1.out⟩
  · obtain ⟨dg, ys, A5, c5, x4, x5, hd, hys, hr5⟩ := h.dicCell h1
    obtain ⟨g1, g2⟩ := spread_at (.int .i64 (-1)) hk (xs := iv (ints c.codes)) (by rw [iv_length, ints_length, hl]; exact Nat.le_refl _)
    rw [iv_length, ints_length] at g2
    rw [hcj] at g1 g2
    have hz := h4 c.codes[j] (List.getElem_mem g2)
    have hzz : (iv (ints c.codes))[j]? = some (.int .i64 (c.codes[j] : Int)) := by simp [iv, ints, List.getElem?_eq_getElem g2]
    rw [hzz] at g1
    obtain ⟨b, off, rfl, _, hb, hall⟩ := hr5.at_ (by rw [spread_length]; omega)
    have hcell := hall k _ g1
    have hyl : c.codes[j] < ys.length := by rw [strs_of hys, strsL_length]; exact hz
    have hsy : ys[c.codes[j]] = s := by
      rw [← hse]
      have e : strC c = c.codes.map fun n => (strsL c.dic).getD n ⟨#[]⟩ := by rw [strC, if_neg (by omega), if_pos h1]
      have e2 : (strC c)[j] = (strsL c.dic).getD c.codes[j] ⟨#[]⟩ := by simp [e]
      rw [e2, List.getD_eq_getElem?_getD, ← strs_of hys, List.getElem?_eq_getElem hyl]
      rfl
    have hss : s.size ≤ 4096 := by rw [← hse]; exact strC_size ho _ (List.getElem_mem hj)
    have HCF : Hid (∀ W, Below w.heap.size w W → W.cell? ⟨G, 4, none⟩ = some (.pointer (some ⟨dg, 0, none⟩)) ∧ W.cell? ⟨G, 5, none⟩ = some (.slice (some ⟨b, off, none⟩) c.there.length c5) ∧ W.cell? ⟨b, off + k, none⟩ = some (.int .i64 (c.codes[j] : Int))) := fun W hW => ⟨(hW.cell (p := ⟨G, 4, none⟩) hGl).trans x4, (hW.cell (p := ⟨G, 5, none⟩) hGl).trans x5, (hW.cell (p := ⟨b, off + k, none⟩) hb).trans hcell⟩
    have HDE : Hid (∀ W, Below w.heap.size w W → Calls Tryz.prog 32 #[.pointer (some ⟨dg, 0, none⟩), .int .i64 (c.codes[j] : Int)] W fun r w' => r = .returned (.string s) ∧ Below W.heap.size W w') := fun W hW => by
      have := fat_in (hd.below hW (Nat.le_refl _)) c.codes[j] hyl (by rw [hsy]; omega)
      rw [hsy] at this
      exact this
    rw [h1] at x0
    clear h ho hk hs hv hcj hse x4 x5 hcell hd hys hr5 hall g1 hzz hsy hyl hz h4 hdc
    generalize c.there.length = n at *
    generalize c.codes[j] = cj at *
    go_enter Tryz.func55, Tryz.ntmps55
    go_wp2_with fail
    have KD : Hid (Below w.heap.size w w.drew) := (Below.refl _ _).drew
    refine wp_region_held_drew (S := fun w' => Below w.heap.size w w') (by kernel_rfl) KD.out (fun hHeld => ?_)
    refine wpAnyH_take (i := 0) (oi := _) (v := ?_) rfl (by kernel_rfl) (by kernel_rfl) (by kernel_rfl) (fun _ _ _ h => h) (Or.inl ⟨by rfl, ?_⟩) hHeld ?_
    rotate_left
    focus (intro W hSw; obtain ⟨q1, q2, q3⟩ := HCF.out W hSw; go_simp; try with_reducible rfl)
    try simp only [List.getElem_toArray, List.getElem_cons_zero, List.getElem_cons_succ, Act.put, List.setIfInBounds_toArray, List.set_cons_zero, List.set_cons_succ]
    refine wpAnyH_take (i := 1) (oi := _) (v := ?_) rfl (by kernel_rfl) (by kernel_rfl) (by kernel_rfl) (fun _ _ _ h => h) (Or.inl ⟨by rfl, ?_⟩) hHeld ?_
    rotate_left
    focus (intro W hSw; obtain ⟨q1, q2, q3⟩ := HCF.out W hSw; go_simp; try with_reducible rfl)
    try simp only [List.getElem_toArray, List.getElem_cons_zero, List.getElem_cons_succ, Act.put, List.setIfInBounds_toArray, List.set_cons_zero, List.set_cons_succ]
    refine wpAnyH_take (i := 2) (oi := _) (v := ?_) rfl (by kernel_rfl) (by kernel_rfl) (by kernel_rfl) (fun _ _ _ h => h) (Or.inl ⟨by rfl, ?_⟩) hHeld ?_
    rotate_left
    focus (intro W hSw; obtain ⟨q1, q2, q3⟩ := HCF.out W hSw; go_simp; try with_reducible rfl)
    try simp only [List.getElem_toArray, List.getElem_cons_zero, List.getElem_cons_succ, Act.put, List.setIfInBounds_toArray, List.set_cons_zero, List.set_cons_succ]
    refine wpAnyH_take (i := 3) (oi := _) (v := ?_) rfl (by kernel_rfl) (by kernel_rfl) (by kernel_rfl) (fun _ _ _ h => h) (Or.inl ⟨by rfl, ?_⟩) hHeld ?_
    rotate_left
    focus (intro W hSw; obtain ⟨q1, q2, q3⟩ := HCF.out W hSw; go_simp; try with_reducible rfl)
    try simp only [List.getElem_toArray, List.getElem_cons_zero, List.getElem_cons_succ, Act.put, List.setIfInBounds_toArray, List.set_cons_zero, List.set_cons_succ]
    refine wpAnyH_take (i := 4) (oi := _) (v := ?_) rfl (by kernel_rfl) (by kernel_rfl) (by kernel_rfl) (fun _ _ _ h => h) (Or.inl ⟨by rfl, ?_⟩) hHeld ?_
    rotate_left
    focus (intro W hSw; obtain ⟨q1, q2, q3⟩ := HCF.out W hSw; go_simp; try with_reducible rfl)
    try simp only [List.getElem_toArray, List.getElem_cons_zero, List.getElem_cons_succ, Act.put, List.setIfInBounds_toArray, List.set_cons_zero, List.set_cons_succ]
    refine wpAnyH_take (i := 5) (oi := _) (v := ?_) rfl (by kernel_rfl) (by kernel_rfl) (by kernel_rfl) (fun _ _ _ h => h) (Or.inl ⟨by rfl, ?_⟩) hHeld ?_
    rotate_left
    focus (intro W hSw; obtain ⟨q1, q2, q3⟩ := HCF.out W hSw; go_simp; try with_reducible rfl)
    try simp only [List.getElem_toArray, List.getElem_cons_zero, List.getElem_cons_succ, Act.put, List.setIfInBounds_toArray, List.set_cons_zero, List.set_cons_succ]
    refine wpAnyH_take (i := 6) (oi := _) (v := ?_) rfl (by kernel_rfl) (by kernel_rfl) (by kernel_rfl) (fun _ _ _ h => h) (Or.inl ⟨by rfl, ?_⟩) hHeld ?_
    rotate_left
    focus (intro W hSw; obtain ⟨q1, q2, q3⟩ := HCF.out W hSw; go_simp; try with_reducible rfl)
    try simp only [List.getElem_toArray, List.getElem_cons_zero, List.getElem_cons_succ, Act.put, List.setIfInBounds_toArray, List.set_cons_zero, List.set_cons_succ]
    refine wpAnyH_take (i := 7) (oi := _) (v := ?_) rfl (by kernel_rfl) (by kernel_rfl) (by kernel_rfl) (fun _ _ _ h => h) (Or.inl ⟨by rfl, ?_⟩) hHeld ?_
    rotate_left
    focus (intro W hSw; obtain ⟨q1, q2, q3⟩ := HCF.out W hSw; go_simp; try with_reducible rfl)
    try simp only [List.getElem_toArray, List.getElem_cons_zero, List.getElem_cons_succ, Act.put, List.setIfInBounds_toArray, List.set_cons_zero, List.set_cons_succ]
    refine wpAnyH_take (i := 8) (oi := _) (v := ?_) rfl (by kernel_rfl) (by kernel_rfl) (by kernel_rfl) (fun _ _ _ h => h) (Or.inl ⟨by rfl, ?_⟩) hHeld ?_
    rotate_left
    focus (intro W hSw; obtain ⟨q1, q2, q3⟩ := HCF.out W hSw; go_simp; try with_reducible rfl)
    try simp only [List.getElem_toArray, List.getElem_cons_zero, List.getElem_cons_succ, Act.put, List.setIfInBounds_toArray, List.set_cons_zero, List.set_cons_succ]
    refine wpAnyH_take (i := 9) (oi := _) (v := ?_) rfl (by kernel_rfl) (by kernel_rfl) (by kernel_rfl) (fun _ _ _ h => h) (Or.inl ⟨by rfl, ?_⟩) hHeld ?_
    rotate_left
    focus (intro W hSw; obtain ⟨q1, q2, q3⟩ := HCF.out W hSw; go_simp; try with_reducible rfl)
    try simp only [List.getElem_toArray, List.getElem_cons_zero, List.getElem_cons_succ, Act.put, List.setIfInBounds_toArray, List.set_cons_zero, List.set_cons_succ]
    refine wpAnyH_take (i := 10) (oi := _) (v := ?_) rfl (by kernel_rfl) (by kernel_rfl) (by kernel_rfl) (fun _ _ _ h => h) (Or.inl ⟨by rfl, ?_⟩) hHeld ?_
    rotate_left
    focus (intro W hSw; obtain ⟨q1, q2, q3⟩ := HCF.out W hSw; go_simp; try with_reducible rfl)
    try simp only [List.getElem_toArray, List.getElem_cons_zero, List.getElem_cons_succ, Act.put, List.setIfInBounds_toArray, List.set_cons_zero, List.set_cons_succ]
    obtain ⟨wd, hwd⟩ : ∃ q, w.drew = q := ⟨_, rfl⟩
    rw [hwd] at hHeld ⊢
    clear KD hwd
    have K_wd := Lib.hid hHeld
    refine wpAnyH_ready (rs := [11]) (by kernel_rfl) (by simp) ?_
    refine AllReadyH.cons (o := _) rfl (fun K hK => ?_) AllReadyH.nil
    go_simp
    refine (HDE.out _ K_wd.out).mono ?_
    rintro r v1 ⟨rfl, hb_v1⟩
    have s_v1 : wd.heap.size ≤ v1.heap.size := hb_v1.size
    have K_v1 : Hid (Below w.heap.size w v1) := Lib.hid (K_wd.out.trans (hb_v1.mono K_wd.out.size))
    clear hb_v1
    refine hK.out _ _ K_v1.out (fun hHeld => ?_)
    clear hK K
    try simp only [List.getElem_toArray, List.getElem_cons_zero, List.getElem_cons_succ, Act.put, List.setIfInBounds_toArray, List.set_cons_zero, List.set_cons_succ]
    refine wpAnyH_take (i := 12) (oi := _) (v := ?_) rfl (by kernel_rfl) (by kernel_rfl) (by kernel_rfl) (fun _ _ _ h => h) (Or.inl ⟨by rfl, ?_⟩) hHeld ?_
    rotate_left
    focus (intro W hSw; obtain ⟨q1, q2, q3⟩ := HCF.out W hSw; go_simp; try with_reducible rfl)
    try simp only [List.getElem_toArray, List.getElem_cons_zero, List.getElem_cons_succ, Act.put, List.setIfInBounds_toArray, List.set_cons_zero, List.set_cons_succ]
    refine wpAnyH_done (by kernel_rfl) ?_ _
    go_wp2_with fail
    go_ret
    exact ⟨rfl, K_v1.out⟩
-- AT
end Go.Proofs.YtmffpbhiehjlpaaGreat
