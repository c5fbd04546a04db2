/-
  The laws of layer 15: contracts at known answers, what is few.
-/
import Derived.Test.YtepgkdmfoojppaaMgN
import Derived.Test.YtepgkdmfoojppaaMgS
import Derived.Test.YtepgkdmfoojppaaSame
import Derived.Test.YtepgkdmfoojppaaMgC
import Derived.BigQuiet
import Derived.Deep.RegionHeld3
namespace Go.Proofs.Ytepgkdmfoojppaa
set_option linter.unusedSimpArgs false
set_option linter.unusedVariables false
open Go.RowKit

theorem flt_mk {w : World} {lo hi b c d n m : Nat} {A B : Option Addr} {gs : List Nat} {rs : List Bool} {z : Int} (h1 : Rd w lo hi A c (iv (ints gs))) (h2 : Rd w lo hi B d (lv rs)) (hz : z = (b : Int)) (hn : gs.length = n) (hm : rs.length = m) :
    Flt w lo hi (.agg #[.int .i64 z, .slice A n c, .slice B m d]) b gs rs := by
  subst hz hn hm
  exact ⟨A, c, B, d, rfl, h1, h2⟩
theorem own_rd {w : World} {base n c : Nat} {A : Option Addr} {e : TypeId} {xs : List Value} (h : w.ownsRow base e 1 (.slice A n c) n xs) : Rd w 0 w.heap.size A c xs := (Rd.of_own h).wide (Nat.zero_le _) (Nat.le_refl _)
theorem ints_is {w : World} (xs ys : List Int) (b : Bool) {lo hi lo2 hi2 n m c d : Nat} {A B : Option Addr} (h : Rd w lo hi A c (iv xs)) (k : Rd w lo2 hi2 B d (iv ys)) (hn : xs.length = n) (hm : ys.length = m) (hb : decide (xs = ys) = b) :
    Calls Try.prog 13 #[.slice A n c, .slice B m d] w fun r w' => r = .returned (.bool b) ∧ ∃ q, w' = w.drewN q := by
  subst hn; subst hm; subst hb
  refine (ints_any xs ys h k).mono ?_
  rintro r w' ⟨rfl, q, rfl⟩
  exact ⟨rfl, q, rfl⟩
theorem may_is {w : World} {lo hi b : Nat} {v : Value} {gs : List Nat} {rs : List Bool} (h : Flt w lo hi v b gs rs) (hhi : hi ≤ w.heap.size) (hf : FilG b gs rs) (s : ByteArray) (hs : s.size ≤ 100000) (y : Bool) (hy : (gramsL s.data.toList).all (hasF b gs rs) = y) :
    Calls Try.prog 18 #[v, .string s] w fun r w' => r = .returned (.bool y) ∧ Below w.heap.size w w' := hy ▸ gmay_any h hhi hf s hs
theorem Flt.empty (w : World) : Flt w 0 0 (.agg #[.int .i64 0, .slice none 0 0, .slice none 0 0]) 0 [] [] := flt_mk (b := 0) (gs := []) (rs := []) (Rd.nil _ _ _) (Rd.nil _ _ _) rfl rfl rfl
theorem same_is {w : World} (y : Bool) {lo hi lo' hi' b b' : Nat} {v v' : Value} {gs gs' : List Nat} {rs rs' : List Bool} (h : Flt w lo hi v b gs rs) (h' : Flt w lo' hi' v' b' gs' rs') (hhi : hi ≤ w.heap.size) (hhi' : hi' ≤ w.heap.size) (hy : decide (b = b' ∧ gs = gs' ∧ rs = rs') = y) :
    Calls Try.prog 11 #[v, v'] w fun r w' => r = .returned (.bool y) ∧ Below w.heap.size w w' := hy ▸ sameg_any h h' hhi hhi'
theorem cnew_is {w : World} (bs : List UInt8) {lo hi n c : Nat} {A : Option Addr} (h : Rd w lo hi A c (bv bs)) (hb : bs.length ≤ 140737488355328) (hn : bs.length = n) :
    Calls Try.prog 22 #[.slice A n c] w fun e w' => ∃ g, e = .returned (cp g) ∧ Cur w' w.heap.size g bs 0 0 ∧ Below w.heap.size w w' := by
  subst hn
  exact new_any bs w h hb
theorem cgood_is {w : World} {lo g k : Nat} {bs : List UInt8} {e : Int} (b : Bool) (h : Cur w lo g bs k e) (hb : (e == 0) = b) : Calls Try.prog 27 #[cp g] w fun r w' => r = .returned (.bool b) ∧ w = w' := hb ▸ good_any h
theorem cleft_is {w : World} {lo g k n : Nat} {bs : List UInt8} {e : Int} (h : Cur w lo g bs k e) (hn : bs.length - k = n) : Calls Try.prog 28 #[cp g] w fun r w' => r = .returned (.int .i64 (n : Int)) ∧ ∃ m, w' = w.drewN m := hn ▸ left_any h
theorem cend_is {w : World} {lo g k : Nat} {bs : List UInt8} {e : Int} (x : Int) (h : Cur w lo g bs k e) (hx : endR bs k e = x) : Calls Try.prog 26 #[cp g] w fun r w' => r = .returned (.int .i64 x) ∧ ∃ m, w' = w.drewN m := by
  subst hx
  refine (end_any h).mono ?_
  rintro r w' ⟨rfl, m, rfl⟩
  exact ⟨rfl, m, rfl⟩
theorem end_all {bs : List UInt8} : endR bs bs.length 0 = 0 := by
  unfold endR
  rw [if_neg (by simp), if_neg (by omega)]
/-- the document's Make: a right filter, its cells -/
theorem refmake_fil {w : World} (l : List ByteArray) {c : Nat} {A : Option Addr} (h : Rd w 0 w.heap.size A c (sv l)) (hsz : ∀ s ∈ l, s.size ≤ 100000) (hlen : l.length ≤ 1000) (hf : (allL (bytG l)).length ≤ 65536) (b : Nat) (hb : b ≤ 65536) :
    Calls Try.prog 12 #[.slice A l.length c, .int .i64 (b : Int)] w fun r w' => ∃ (A' : Option Addr) (c' : Nat) (B' : Option Addr) (d' : Nat) (gs : List Nat) (rs : List Bool),
      r = .returned (.agg #[.int .i64 (b : Int), .slice A' gs.length c', .slice B' rs.length d']) ∧ FilG b gs rs ∧ (∀ g, g ∈ allL (bytG l) → hasF b gs rs g = true) ∧ (b = 0 → ∀ g, hasF b gs rs g = true → g ∈ allL (bytG l)) ∧ Flt w' w.heap.size w'.heap.size (.agg #[.int .i64 (b : Int), .slice A' gs.length c', .slice B' rs.length d']) b gs rs ∧ Below w.heap.size w w' := by
  by_cases hb0 : b = 0
  · subst hb0
    refine (makeg_zero l h hsz hlen).mono ?_
    rintro r w' ⟨v, t, rfl, hr, ⟨A', c', B', d', rfl, h1, h2⟩, hbl⟩
    exact ⟨A', c', B', d', t, [], rfl, FilG.list hr hf, fun g hg => by rw [has_list]; exact decide_eq_true ((hr.mem g).2 hg), fun _ g hg => by rw [has_list] at hg; exact (hr.mem g).1 (of_decide_eq_true hg), ⟨A', c', B', d', rfl, h1, h2⟩, hbl⟩
  · refine (makeg_bits l h hsz hlen b (by omega) (by omega)).mono ?_
    rintro r w' ⟨v, t, rfl, hr, ⟨A', c', B', d', rfl, h1, h2⟩, hbl⟩
    exact ⟨A', c', B', d', [], setB b t, rfl, FilG.set t hb, fun g hg => has_set (by omega) ((hr.mem g).2 hg), fun h => absurd h hb0, ⟨A', c', B', d', rfl, h1, h2⟩, hbl⟩
/-- the program's Make: a right filter, its cells -/
theorem gmake_fil {w : World} (l : List ByteArray) {c : Nat} {A : Option Addr} (h : Rd w 0 w.heap.size A c (sv l)) (hsz : ∀ s ∈ l, s.size ≤ 100000) (hlen : l.length ≤ 1000) (hf : (allL (bytG l)).length ≤ 65536) (b : Nat) (hb : b ≤ 65536) (z : Int) (hz : z = (b : Int)) :
    Calls Try.prog 10 #[.slice A l.length c, .int .i64 z] w fun r w' => ∃ (A' : Option Addr) (c' : Nat) (B' : Option Addr) (d' : Nat) (gs : List Nat) (rs : List Bool),
      r = .returned (.tuple #[.agg #[.int .i64 z, .slice A' gs.length c', .slice B' rs.length d'], .int .i64 0]) ∧ FilG b gs rs ∧ (∀ g, g ∈ allL (bytG l) → hasF b gs rs g = true) ∧ (b = 0 → ∀ g, hasF b gs rs g = true → g ∈ allL (bytG l)) ∧ Flt w' w.heap.size w'.heap.size (.agg #[.int .i64 z, .slice A' gs.length c', .slice B' rs.length d']) b gs rs ∧ Below w.heap.size w w' := by
  subst hz
  by_cases hb0 : b = 0
  · subst hb0
    refine (gmake_zero l h hsz hlen hf).mono ?_
    rintro r w' ⟨t, A', c', rfl, hr, ho, hbl⟩
    exact ⟨A', c', none, 0, t, [], rfl, FilG.list hr hf, fun g hg => by rw [has_list]; exact decide_eq_true ((hr.mem g).2 hg), fun _ g hg => by rw [has_list] at hg; exact (hr.mem g).1 (of_decide_eq_true hg), flt_mk (b := 0) (rs := []) (Rd.of_own ho) (Rd.nil _ _ _) rfl rfl rfl, hbl⟩
  · refine (gmake_bits l h hsz hlen hf b (by omega) hb).mono ?_
    rintro r w' ⟨t, B', d', rfl, hr, ho, hbl⟩
    have hl := setB_length b t
    exact ⟨none, 0, B', d', [], setB b t, by rw [hl]; rfl, FilG.set t hb, fun g hg => has_set (by omega) ((hr.mem g).2 hg), fun h => absurd h hb0, flt_mk (gs := []) (rs := setB b t) (Rd.nil _ _ _) (Rd.of_own ho) rfl rfl rfl, hbl⟩
theorem extract_list (s : ByteArray) (a b : Nat) : (s.extract a b).data.toList = (s.data.toList.drop a).take (b - a) := by
  rw [ByteArray.data_extract]
  simp [List.drop_take]
/-- the document's grams of one string, of a list that is laid for it -/
theorem alls_any {w : World} (s : ByteArray) (hs : s.size ≤ 100000) :
    Calls Try.prog 15 #[.slice (some ⟨w.heap.size, 0, none⟩) 1 1] (w.alloc (.cells #[.string s] 9)) fun r w' => ∃ (t : List Nat) (A' : Option Addr) (c' : Nat), r = .returned (.slice A' t.length c') ∧ Rise (gramsL s.data.toList) t ∧ Rd w' (w.heap.size + 1) w'.heap.size A' c' (iv (ints t)) ∧ Below (w.heap.size + 1) (w.alloc (.cells #[.string s] 9)) w' := by
  have h := allg_any [s] (one_str w 9 s) (fun x hx => by rw [List.mem_singleton.1 hx]; exact hs) (by simp)
  refine h.mono ?_
  rintro r w' ⟨t, A', c', rfl, hr, -, hrd, hb⟩
  have e : allL (bytG [s]) = gramsL s.data.toList := by simp [allL, bytG]
  rw [e] at hr
  rw [World.size_alloc] at hrd hb
  exact ⟨t, A', c', rfl, hr, hrd, hb⟩
theorem alls_at {w : World} (s : ByteArray) (hs : s.size ≤ 100000) {b : Nat} (h : Rd w 0 w.heap.size (some ⟨b, 0, none⟩) 1 (sv [s])) :
    Calls Try.prog 15 #[.slice (some ⟨b, 0, none⟩) 1 1] w fun r w' => ∃ (t : List Nat) (A' : Option Addr) (c' : Nat), r = .returned (.slice A' t.length c') ∧ Rise (gramsL s.data.toList) t ∧ Rd w' w.heap.size w'.heap.size A' c' (iv (ints t)) ∧ Below w.heap.size w w' := by
  have h := allg_any [s] h (fun x hx => by rw [List.mem_singleton.1 hx]; exact hs) (by simp)
  refine h.mono ?_
  rintro r w' ⟨t, A', c', rfl, hr, -, hrd, hb⟩
  have e : allL (bytG [s]) = gramsL s.data.toList := by simp [allL, bytG]
  rw [e] at hr
  exact ⟨t, A', c', rfl, hr, hrd, hb⟩
/-- all grams of a part of one of the strings are there -/
theorem may_part {l : List ByteArray} {b : Nat} {gs : List Nat} {rs : List Bool} (h : ∀ g, g ∈ allL (bytG l) → hasF b gs rs g = true) {i : Nat} (hi : i < l.length) {x : List UInt8} (hx : List.IsInfix x l[i].data.toList) : (gramsL x).all (hasF b gs rs) = true :=
  List.all_eq_true.2 fun g hg => h g (mem_allL.2 ⟨_, List.mem_map_of_mem (List.getElem_mem hi), grams_infix hx hg⟩)
/-- three bytes: all their grams are there just where they stand in one of the strings -/
theorem may_three {l : List ByteArray} {gs : List Nat} {rs : List Bool} (h : ∀ g, g ∈ allL (bytG l) → hasF 0 gs rs g = true) (h2 : ∀ g, hasF 0 gs rs g = true → g ∈ allL (bytG l)) {s : ByteArray} (hs : s.size = 3) :
    (gramsL s.data.toList).all (hasF 0 gs rs) = l.any fun x => Lib.contains x.data.toList s.data.toList := by
  have hl : s.data.toList.length = 3 := by simpa using hs
  generalize s.data.toList = y at *
  match y, hl with
  | [a, b, c], _ =>
    have e : gramsL [a, b, c] = [gramN a b c] := by simp [gramsL, List.range_succ]
    rw [e, Bool.eq_iff_iff, List.all_cons, List.all_nil, Bool.and_true, List.any_eq_true]
    constructor
    · intro hg
      obtain ⟨x, hx, hgx⟩ := mem_allL.1 (h2 _ hg)
      obtain ⟨z, hz, rfl⟩ := List.mem_map.1 hx
      exact ⟨z, hz, (contains_iff _ _).2 ((gram_stands _ _ _ _).1 hgx)⟩
    · rintro ⟨z, hz, hc⟩
      exact h _ (mem_allL.2 ⟨_, List.mem_map_of_mem hz, (gram_stands _ _ _ _).2 ((contains_iff _ _).1 hc)⟩)
theorem may_three' {l : List ByteArray} {b : Nat} {gs : List Nat} {rs : List Bool} (h : ∀ g, g ∈ allL (bytG l) → hasF b gs rs g = true) {s : ByteArray} (hs : s.size = 3) (hc : (l.any fun x => Lib.contains x.data.toList s.data.toList) = true) : (gramsL s.data.toList).all (hasF b gs rs) = true := by
  obtain ⟨x, hx, hx2⟩ := List.any_eq_true.1 hc
  exact List.all_eq_true.2 fun g hg => h g (mem_allL.2 ⟨_, List.mem_map_of_mem hx, grams_infix ((contains_iff _ _).1 hx2) hg⟩)
theorem any_take {l : List ByteArray} {p : ByteArray → Bool} {k : Nat} (h : k < l.length) : (l.take (k + 1)).any p = ((l.take k).any p || p l[k]) := by
  rw [List.take_succ_eq_append_getElem h, List.any_append]
  simp
/-- the document's Write, of a right filter -/
theorem refwrite_fil {w : World} {hi b : Nat} {v : Value} {gs : List Nat} {rs : List Bool} (W : List UInt8) (h : Flt w 0 hi v b gs rs) (hhi : hi ≤ w.heap.size) (hf : FilG b gs rs) (hW : writeG b gs rs = W) :
    Calls Try.prog 24 #[v] w fun r w' => ∃ A' c', r = .returned (.slice A' W.length c') ∧ w'.ownsRow w.heap.size 5 1 (.slice A' W.length c') W.length (bv W) ∧ Below w.heap.size w w' := by
  subst hW
  by_cases hb0 : b = 0
  · subst hb0
    exact writeg_list h hhi (by have := hf.few; omega) hf.up hf.lt
  · exact writeg_bits h hhi (by omega) (by have := hf.le; omega) (by have := hf.rows; have := hf.le; omega)
theorem write_is {w : World} {hi b : Nat} {v : Value} {gs : List Nat} {rs : List Bool} (W : List UInt8) (h : Flt w 0 hi v b gs rs) (hhi : hi ≤ w.heap.size) (hf : FilG b gs rs) (hW : writeG b gs rs = W) :
    Calls Try.prog 21 #[v] w fun r w' => ∃ A' c', r = .returned (.slice A' W.length c') ∧ w'.ownsRow w.heap.size 5 1 (.slice A' W.length c') W.length (bv W) ∧ Below w.heap.size w w' := hW ▸ gwrite_any h hhi hf
theorem putL_len9 (n : Nat) (h : n ≤ 9223372036854775807) : (putL n).length ≤ 9 := putL_nine n h
/-- a right filter's bytes are not too many -/
theorem writeG_len {b : Nat} {gs : List Nat} {rs : List Bool} (hf : FilG b gs rs) : (writeG b gs rs).length ≤ 1000000 := by
  unfold writeG
  split
  · have h1 := putL_nine b (by have := hf.le; omega)
    have h2 := putL_nine rs.length (by have := hf.rows; have := hf.le; omega)
    have h3 := hf.rows
    have h4 := hf.le
    rw [List.length_append, writeB, List.length_append, packB_length]
    omega
  · have h1 := putL_nine 0 (by omega)
    have hm := stepsG_may hf.up hf.lt
    have h2 := putL_nine (stepsG gs).length (by have := hf.few; rw [stepsG_length]; omega)
    have h3 := hm.wide_le
    have h4 := hf.few
    have h5 : (packL (wide (stepsG gs)) (nats (stepsG gs))).length = ((stepsG gs).length * wide (stepsG gs) + 7) / 8 := by rw [packL_length, nats_length]
    have h6 : (stepsG gs).length * wide (stepsG gs) ≤ 65536 * 32 := Nat.mul_le_mul (by rw [stepsG_length]; exact h4) h3
    rw [List.length_append, writeL]
    simp only [List.length_append, List.length_cons, List.length_nil]
    omega
/-- what is written is read as it was -/
theorem gread_back {w : World} {lo g m : Nat} {W : List UInt8} {gs : List Nat} {rs : List Bool} (hc : Cur w lo g W 0 0) (hf : FilG m gs rs) (hW : writeG m gs rs = W) (hl : W.length ≤ 1000000000) :
    Calls Try.prog 25 #[cp g] w fun r w' => ∃ v, r = .returned v ∧ Flt w' w.heap.size w'.heap.size v m gs rs ∧ Cur w' lo g W W.length 0 ∧ Out w w' (fun i => i = g) := by
  refine (gread_any hc hl).mono ?_
  rintro r w8 ⟨v8, b8, gs8, rs8, k8, e8, rfl, htk, hf8, hc8, ho8⟩
  obtain ⟨rfl, rfl, rfl, rfl⟩ := htk.there m gs rs [] rfl hf (by rw [hW, List.append_nil, List.drop_zero])
  have hk : k8 = W.length := by
    have h1 := (htk.good rfl).2.2.2.1
    rw [hW] at h1
    omega
  subst hk
  exact ⟨v8, rfl, hf8, hc8, ho8⟩
theorem fewg_is {w : World} (l : List ByteArray) (b : Bool) {lo hi c : Nat} {A : Option Addr} (h : Rd w lo hi A c (sv l)) (hb : decide (FewG l) = b) (hs : ∀ s ∈ l, s.size ≤ 140737488351232) :
    Calls Try.prog 9 #[.slice A l.length c] w fun r w' => r = .returned (.bool b) ∧ ∃ m, w' = w.drewN m := hb ▸ refFewG_any l h (fun s hm => by have := hs s hm; omega)
theorem allL_length (l : List ByteArray) : (allL (bytG l)).length ≤ sumG l := by
  induction l with
  | nil => simp [allL, bytG, sumG]
  | cons s l ih =>
    have h1 : (allL (bytG (s :: l))).length = (gramsL s.data.toList).length + (allL (bytG l)).length := by simp [allL, bytG]
    have h2 : sumG (s :: l) = s.size + sumG l := by simp [sumG]
    have h3 : s.data.toList.length = s.size := by simp
    rw [h1, h2, gramsL_length]
    omega
theorem few_facts {l : List ByteArray} (h : FewG l) : l.length ≤ 150 ∧ (∀ s ∈ l, s.size ≤ 100000) ∧ (allL (bytG l)).length ≤ 65536 := ⟨h.1, fun s hs => by have := h.size s hs; omega, by have := allL_length l; have := h.2; omega⟩
theorem rise_abcd : Rise (allL (bytG [⟨#[97, 98, 99, 100]⟩])) [6382179, 6447972] := by
  have e : allL (bytG [⟨#[97, 98, 99, 100]⟩]) = [6382179, 6447972] := by decide
  rw [e]
  exact ⟨by decide, fun _ => Iff.rfl⟩
theorem rise_abcd2 : Rise (gramsL [97, 98, 99, 100]) [6382179, 6447972] := rise_abcd.same fun x => by rw [show allL (bytG [⟨#[97, 98, 99, 100]⟩]) = gramsL [97, 98, 99, 100] by decide]
theorem write_abcd : (writeG 0 [6382179, 6447972] []).length = 9 := by
  have h0 : putL 0 = [0] := putL_small (by decide)
  have h2 : putL 2 = [2] := putL_small (by decide)
  show (putL 0 ++ writeL (stepsG [6382179, 6447972])).length = 9
  have e : stepsG [6382179, 6447972] = [6382179, 65793] := by decide
  rw [e, writeL, h0]
  show ([0] ++ (putL 2 ++ _)).length = 9
  rw [h2]
  decide
end Go.Proofs.Ytepgkdmfoojppaa
