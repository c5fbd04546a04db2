/-
  Patterns read as signs: what single bytes and signs say, and Parse.
  Matching by going back to the last sign of any bytes, in plain: what holds at the try, and ahead of going back.
  A scope with several labels, jumped to forwards and back: what holds at each jump to each label, and a measure that every pass from a label to the next jump lowers. No program is named here.
  The program's Match: by going back to the last sign of any bytes.
  The library's contracts on strings.Builder (WriteByte, String), laid at this program's numbers.
  Runs of literals, and strings quoted, by builders.
-/
import Derived.Test.YtjffbjlniieciaaDoorRfLa
import Derived.Test.YtjffbjlniieciaaDoorLikN
import Derived.Test.YtjffbjlniieciaaDoorMem
import Derived.WalkMore
import Derived.Test.YtjffbjlniieciaaDoorRfLc
import Derived.Shelf.Strings.Builder2
import Derived.Shelf.Strings.BuilderK
import Derived.Test.YtjffbjlniieciaaDoorRows
import Derived.Test.YtjffbjlniieciaaDoorRfLd
namespace Go.Proofs.YtjffbjlniieciaaDoor
set_option linter.unusedSimpArgs false
set_option linter.unusedVariables false
open Go.RowKit

theorem isByte_any {w : World} (z : Int) : Calls Tryd.prog 70 #[.int .i64 z] w fun r w' => r = .returned (.bool (decide (0 ≤ z) && decide (z ≤ 255))) ∧ w = w' := by
  by_cases h0 : z < 0
  · have hf : decide (0 ≤ z) = false := decide_eq_false (by omega)
    rw [hf]
    go_enter Tryd.func70, Tryd.ntmps70
    go_wp2
    go_ret
    exact ⟨rfl, rfl⟩
  · have ht : decide (0 ≤ z) = true := decide_eq_true (by omega)
    rw [ht]
    by_cases h1 : z ≤ 255
    · have h2 : decide (z ≤ 255) = true := decide_eq_true h1
      rw [h2]
      go_enter Tryd.func70, Tryd.ntmps70
      go_wp2
      go_ret
      exact ⟨rfl, rfl⟩
    · have h2 : decide (z ≤ 255) = false := decide_eq_false h1
      rw [h2]
      go_enter Tryd.func70, Tryd.ntmps70
      go_wp2
      go_ret
      exact ⟨rfl, rfl⟩

theorem sign_any {w : World} (x : UInt8) : Calls Tryd.prog 71 #[.int .u8 (x.toNat : Int)] w fun r w' => r = .returned (.int .i64 (sgn x : Int)) ∧ w = w' := by
  have hx : x.toNat < 256 := UInt8.toNat_lt _
  have HS : Hid (sgn x = if x.toNat = 37 then 257 else if x.toNat = 95 then 256 else x.toNat) := by unfold Hid; rfl
  generalize sgn x = v at *
  generalize x.toNat = n at *
  by_cases h37 : n = 37
  · have hv : v = 257 := by rw [HS.out, if_pos h37]
    subst hv
    subst h37
    go_enter Tryd.func71, Tryd.ntmps71
    go_wp2
    go_ret
    exact ⟨rfl, rfl⟩
  · by_cases h95 : n = 95
    · have hv : v = 256 := by rw [HS.out, if_neg h37, if_pos h95]
      subst hv
      subst h95
      go_enter Tryd.func71, Tryd.ntmps71
      go_wp2
      go_ret
      exact ⟨rfl, rfl⟩
    · have hv : v = n := by rw [HS.out, if_neg h37, if_neg h95]
      subst hv
      have i37 : ¬ (v : Int) = 37 := by omega
      have i95 : ¬ (v : Int) = 95 := by omega
      go_enter Tryd.func71, Tryd.ntmps71
      go_wp2
      go_ret
      exact ⟨rfl, rfl⟩

theorem says_any {w : World} (c : Nat) (x : UInt8) : Calls Tryd.prog 78 #[.int .i64 (c : Int), .int .u8 (x.toNat : Int)] w fun r w' => r = .returned (.bool (one c x)) ∧ w = w' := by
  have hx : x.toNat < 256 := UInt8.toNat_lt _
  have HS : Hid (one c x = (c == 256 || c == x.toNat)) := by unfold Hid; rfl
  generalize one c x = v at *
  generalize x.toNat = n at *
  by_cases h256 : c = 256
  · have hv : v = true := by rw [HS.out, h256]; rfl
    subst hv
    subst h256
    go_enter Tryd.func78, Tryd.ntmps78
    go_wp2
    go_ret
    exact ⟨rfl, rfl⟩
  · have i256 : ¬ (c : Int) = 256 := by omega
    by_cases hn : c = n
    · have hv : v = true := by rw [HS.out, hn]; simp
      subst hv
      subst hn
      go_enter Tryd.func78, Tryd.ntmps78
      go_wp2
      go_ret
      exact ⟨rfl, rfl⟩
    · have hv : v = false := by rw [HS.out]; simp [h256, hn]
      have b1 : ((c : Int) == 256) = false := by rw [beq_eq_false_iff_ne]; exact i256
      have b2 : ((c : Int) == (n : Int)) = false := by rw [beq_eq_false_iff_ne]; omega
      subst hv
      go_enter Tryd.func78, Tryd.ntmps78
      go_wp2
      go_ret
      exact ⟨rfl, rfl⟩

theorem make_signs (w : World) (n : Nat) (h : n ≤ 1000000000000) : ∃ w1, (Instr.makeSlice 44 (.int .i64 0) (.int .i64 (n : Int))).run Tryd.prog w = .ok (.slice (some ⟨w.heap.size, 0, none⟩) 0 n) w1 ∧
    w1.ownsRow w.heap.size 3 1 (.slice (some ⟨w.heap.size, 0, none⟩) 0 n) 0 [] ∧ w.grownBy w1 none := by
  obtain ⟨i0, hi0, hz0, hz1, hz2⟩ := info_parts Tryd.infoI64
  have := run_make_own (P := Tryd.prog) w w.heap.size 44 3 i0 _ 1 Tryd.underlying44 hi0 hz0 hz1 .i64 .i64 n (by rw [hz2]; omega) (by simp only [maxLen]; omega) (Nat.le_refl _)
  simpa using this

/-- what is left of a pattern, behind an escape byte or not -/
def parseE (esc : Int) (b : Bool) (l : List UInt8) : Option (List Nat) :=
  if b = true then (match l with
    | [] => none
    | y :: t => (parseL esc t).map (y.toNat :: ·)) else parseL esc l
theorem parseE_plain {esc : Int} {x : UInt8} (h : ¬ (x.toNat : Int) = esc) (t : List UInt8) : parseE esc false (x :: t) = (parseE esc false t).map (sgn x :: ·) := by
  unfold parseE
  rw [if_neg (by simp), if_neg (by simp)]
  exact parse_plain h t
theorem parseE_esc {esc : Int} {x : UInt8} (h : (x.toNat : Int) = esc) (t : List UInt8) : parseE esc false (x :: t) = parseE esc true t := by
  unfold parseE
  rw [if_neg (by simp), if_pos rfl]
  cases t with
  | nil => exact parse_last h
  | cons y t => exact parse_esc h y t
theorem parseE_next (esc : Int) (y : UInt8) (t : List UInt8) : parseE esc true (y :: t) = (parseE esc false t).map (y.toNat :: ·) := rfl
theorem parse_map {zs : List Int} {o : Option (List Nat)} {r : Option (List Int)} {c : Nat} (h : (o.map (c :: ·)).map (fun p => zs ++ ints p) = r) : o.map (fun p => (zs ++ [(c : Int)]) ++ ints p) = r := by
  rw [← h, Option.map_map]
  congr 1
  funext p
  simp [ints]

set_option maxRecDepth 20000 in
set_option maxHeartbeats 2000000 in
theorem lparse_any {w : World} (s : ByteArray) (E : Int) (o : Option (List Nat)) (ho : parseF E s.data.toList = o) :
    Calls Tryd.prog 55 #[.string s, .int .i64 E] w fun r w' => ∃ A c, r = .returned (.tuple #[.slice A (o.getD []).length c, .int .i64 (if o.isSome then 0 else 8)]) ∧ Rd w' 0 w'.heap.size A c (iv (ints (o.getD []))) ∧ Below w.heap.size w w' := by
  unfold parseF at ho
  rw [lenB] at ho
  have HB := fun w => Lib.hid (isByte_any (w := w) E)
  by_cases hbad : E < -1 ∨ 255 < E ∨ 4096 < s.size
  · rw [if_pos hbad] at ho
    subst ho
    by_cases hm : E = -1
    · subst hm
      have h3 : (4096 : Int) < (s.size : Int) := by omega
      clear hbad
      go_enter Tryd.func55, Tryd.ntmps55
      go_wp2_with fail
      go_ret2
      exact ⟨none, 0, rfl, Rd.nil _ _ _, Below.refl _ _⟩
    · by_cases hb : 0 ≤ E ∧ E ≤ 255
      · have hd : decide (0 ≤ E) = true := decide_eq_true hb.1
        have hd2 : decide (E ≤ 255) = true := decide_eq_true hb.2
        have h3 : (4096 : Int) < (s.size : Int) := by omega
        rw [hd, hd2] at HB
        clear hbad
        go_enter Tryd.func55, Tryd.ntmps55
        go_wp2_with fail
        refine (HB _).out.mono ?_
        rintro r w1 ⟨rfl, rfl⟩
        go_wp2_with fail
        go_ret2
        exact ⟨none, 0, rfl, Rd.nil _ _ _, Below.refl _ _⟩
      · have hd : (decide (0 ≤ E) && decide (E ≤ 255)) = false := by
          rw [Bool.and_eq_false_iff, decide_eq_false_iff_not, decide_eq_false_iff_not]
          omega
        rw [hd] at HB
        clear hbad
        go_enter Tryd.func55, Tryd.ntmps55
        go_wp2_with fail
        refine (HB _).out.mono ?_
        rintro r w1 ⟨rfl, rfl⟩
        go_wp2_with fail
        go_ret2
        exact ⟨none, 0, rfl, Rd.nil _ _ _, Below.refl _ _⟩
  · rw [if_neg hbad] at ho
    have h3 : ¬ (4096 : Int) < (s.size : Int) := by omega
    have hs : s.size ≤ 4096 := by omega
    have HV : Hid ((parseE E false (s.data.toList.drop 0)).map (fun p => ([] : List Int) ++ ints p) = o.map ints) := by unfold Hid; rw [← ho]; rfl
    clear ho
    obtain ⟨w2, hmake, ho2, hg2⟩ := make_signs w s.size (by omega)
    have HO2 := Lib.hid ho2
    have HB2 := Lib.hid ((Below.refl _ w).grown hg2 (Nat.le_refl _) (by simp) : Below w.heap.size w w2)
    clear ho2 hg2
    have key : (E != -1) = false ∨ (¬ E = -1 ∧ (decide (0 ≤ E) && decide (E ≤ 255)) = true) := by
      by_cases hm : E = -1
      · exact Or.inl (by rw [hm]; rfl)
      · exact Or.inr ⟨hm, by rw [Bool.and_eq_true, decide_eq_true_eq, decide_eq_true_eq]; omega⟩
    clear hbad
    rcases key with hm | ⟨hm, hd⟩
    all_goals
      try rw [hd] at HB
      go_enter Tryd.func55, Tryd.ntmps55
      go_wp2_with fail
      try
        refine (HB _).out.mono ?_
        rintro r w1 ⟨rfl, rfl⟩
        go_wp2_with fail
      clear hmake
      go_loopw [6, 7, 26] (fun x6 x7 x26 wr => ∃ (i : Nat) (b : Bool) (zs : List Int) (A : Option Addr) (c : Nat), i ≤ s.size ∧ x26 = .int .i64 (i : Int) ∧ x7 = .bool b ∧ x6 = .slice A zs.length c ∧ zs.length ≤ i ∧ (parseE E b (s.data.toList.drop i)).map (fun p => zs ++ ints p) = o.map ints ∧
        wr.ownsRow w.heap.size 3 1 (.slice A zs.length c) zs.length (iv zs) ∧ Below w.heap.size w wr) (fun _ _ i _ => s.size - (intOf i).toNat)
      case atStart => exact ⟨0, false, [], _, _, Nat.zero_le _, rfl, rfl, rfl, Nat.le_refl _, HV.out, HO2.out, HB2.out⟩
      case round =>
        obtain ⟨i, b, zs, A, c, hi, rfl, rfl, rfl, hyi, hys, hown, hb⟩ := hrel
        have HYS := Lib.hid hys
        have HO := Lib.hid hown
        have HBW := Lib.hid hb
        have hsz := hb.size
        clear hys hown hb
        by_cases hlt : i < s.size
        · have ik : (i : Int) < (s.size : Int) := by omega
          have HDB := Lib.hid (dropB hlt)
          have HSG := fun w => Lib.hid (sign_any (w := w) s[i])
          have lx : s[i].toNat < 256 := UInt8.toNat_lt _
          cases b
          · by_cases he : (s[i].toNat : Int) = E
            · have HF : Hid ((parseE E true (s.data.toList.drop (i + 1))).map (fun p => zs ++ ints p) = o.map ints) := by
                unfold Hid
                rw [← parseE_esc he, ← HDB.out]
                exact HYS.out
              have hb : ((s[i].toNat : Int) == E) = true := by rw [he]; exact beq_self_eq_true _
              clear he
              go_wp2_with fail
              go_roundw
              case rel => exact ⟨i + 1, true, zs, A, c, by omega, by go_num, rfl, rfl, by omega, HF.out, HO.out, HBW.out⟩
              case measure => simp [intOf] <;> omega
            · have HF : Hid (((parseE E false (s.data.toList.drop (i + 1))).map (sgn s[i] :: ·)).map (fun p => zs ++ ints p) = o.map ints) := by
                unfold Hid
                rw [← parseE_plain he, ← HDB.out]
                exact HYS.out
              generalize sgn s[i] = v at *
              have hb : ((s[i].toNat : Int) == E) = false := by rw [beq_eq_false_iff_ne]; exact he
              go_wp2_with fail
              refine (HSG _).out.mono ?_
              rintro r w4 ⟨rfl, rfl⟩
              go_wp2_with (at_builtin; refine wpList_push_num (v := .slice A zs.length c) w.heap.size zs ((v : Int)) rfl _ _ rfl rfl rfl rfl (by rw [World.cell?_alloc_at _ _ _ _ rfl]; rfl) (HO.out.alloc _) (by omega) (by simp; omega) ?_; intro A' c' w3 ho3 hg3)
              go_roundw
              case rel => exact ⟨i + 1, false, zs ++ [(v : Int)], A', c', by omega, by go_num, rfl, by rw [List.length_append]; rfl, by rw [List.length_append, List.length_cons, List.length_nil]; omega, parse_map HF.out, ho3, (HBW.out.alloc (by omega) _).grown hg3 (by simp; omega) (fun q hq => (own_lt HO.out hq).1)⟩
              case measure => simp [intOf] <;> omega
          · have HF : Hid (((parseE E false (s.data.toList.drop (i + 1))).map (s[i].toNat :: ·)).map (fun p => zs ++ ints p) = o.map ints) := by
              unfold Hid
              rw [← parseE_next, ← HDB.out]
              exact HYS.out
            go_wp2_with (at_builtin; refine wpList_push_num (v := .slice A zs.length c) w.heap.size zs ((s[i].toNat : Int)) rfl _ _ rfl rfl rfl rfl (by rw [World.cell?_alloc_at _ _ _ _ rfl]; rfl) (HO.out.alloc _) (by omega) (by simp; omega) ?_; intro A' c' w3 ho3 hg3)
            go_roundw
            case rel => exact ⟨i + 1, false, zs ++ [(s[i].toNat : Int)], A', c', by omega, by go_num, rfl, by rw [List.length_append]; rfl, by rw [List.length_append, List.length_cons, List.length_nil]; omega, parse_map HF.out, ho3, (HBW.out.alloc (by omega) _).grown hg3 (by simp; omega) (fun q hq => (own_lt HO.out hq).1)⟩
            case measure => simp [intOf] <;> omega
        · have ik : ¬ (i : Int) < (s.size : Int) := by omega
          have hy := HYS.out
          rw [List.drop_of_length_le (by rw [lenB]; omega)] at hy
          cases b
          · obtain ⟨p, hp, hz⟩ : ∃ p, o = some p ∧ ints p = zs := by
              cases o with
              | none => simp [parseE, parseL] at hy
              | some p =>
                refine ⟨p, rfl, ?_⟩
                simp [parseE, parseL] at hy
                rw [← hy]
                simp [ints]
            subst hp
            have HZ := Lib.hid hz
            have HZL : Hid (zs.length = p.length) := by unfold Hid; rw [← hz, ints_length]
            clear hz hy
            go_wp2_with fail
            go_ret2
            refine ⟨A, c, ?_, ?_, HBW.out⟩
            · show _ = Ending.returned (.tuple #[.slice A p.length c, .int .i64 0])
              rw [← HZL.out]
              rfl
            · show Rd wr 0 wr.heap.size A c (iv (ints p))
              rw [HZ.out]
              exact (Rd.of_own HO.out).wide (Nat.zero_le _) (Nat.le_refl _)
          · have ho : o = none := by
              cases o with
              | none => rfl
              | some p => simp [parseE] at hy
            subst ho
            clear hy
            go_wp2_with fail
            go_ret2
            exact ⟨none, 0, rfl, Rd.nil _ _ _, HBW.out⟩
end Go.Proofs.YtjffbjlniieciaaDoor
namespace Go.Proofs.YtjffbjlniieciaaDoor
set_option linter.unusedSimpArgs false
set_option linter.unusedVariables false

theorem dropN {ns : List Nat} {i : Nat} (h : i < ns.length) : ns.drop i = ns[i] :: ns.drop (i + 1) := List.drop_eq_getElem_cons h
/-- signs and bytes done up to i and k; the last sign of any bytes that was met, and where its bytes end -/
def Tries (ns : List Nat) (l : List UInt8) (v : Bool) (i k : Nat) (la en : Int) : Prop :=
  i ≤ ns.length ∧ k ≤ l.length ∧ ((la = -1 ∧ en = -1 ∧ mat (ns.drop i) (l.drop k) = v) ∨
    ∃ L e : Nat, la = (L : Int) ∧ en = (e : Int) ∧ L ≤ i ∧ k = e + (i - L) ∧ (∀ c ∈ (ns.take i).drop L, c ≠ 257) ∧
      mat (257 :: ns.drop L) (l.drop e) = v ∧ mat (ns.drop L) (l.drop e) = mat (ns.drop i) (l.drop k))
/-- what stands there ahead of going back: one byte more of the last sign of any bytes, or none matches -/
def Backs (ns : List Nat) (l : List UInt8) (v : Bool) (la en : Int) : Prop :=
  (la = -1 ∧ en = -1 ∧ v = false) ∨ ∃ L e : Nat, la = (L : Int) ∧ en = (e : Int) ∧ L ≤ ns.length ∧ e < l.length ∧ mat (257 :: ns.drop L) (l.drop (e + 1)) = v

section
variable {ns : List Nat} {l : List UInt8} {v : Bool} {i k : Nat} {la en : Int}
theorem tries_start (h : mat ns l = v) : Tries ns l v 0 0 (-1) (-1) := ⟨Nat.zero_le _, Nat.zero_le _, Or.inl ⟨rfl, rfl, h⟩⟩
theorem Tries.end_le (h : Tries ns l v i k la en) : -1 ≤ en ∧ en ≤ k := by
  obtain ⟨_, _, ⟨_, rfl, _⟩ | ⟨L, e, _, rfl, _, hk, _⟩⟩ := h <;> omega
theorem seg_take {L : Nat} (hL : L ≤ i) (hi : i ≤ ns.length) : ns.drop L = (ns.take i).drop L ++ ns.drop i := by
  conv => lhs; rw [← List.take_append_drop i ns]
  rw [List.drop_append_of_le_length (by rw [List.length_take]; omega)]
theorem seg_length {L : Nat} (hi : i ≤ ns.length) : ((ns.take i).drop L).length = i - L := by rw [List.length_drop, List.length_take]; omega
theorem Tries.any (h : Tries ns l v i k la en) (hi : i < ns.length) (hc : ns[i] = 257) : Tries ns l v (i + 1) k ((i + 1 : Nat) : Int) (k : Int) := by
  obtain ⟨_, hk, h⟩ := h
  have hd := dropN hi
  rw [hc] at hd
  refine ⟨hi, hk, Or.inr ⟨i + 1, k, rfl, rfl, Nat.le_refl _, by omega, ?_, ?_, rfl⟩⟩
  · intro c hm
    rw [List.drop_of_length_le (by rw [List.length_take]; omega)] at hm
    cases hm
  · rcases h with ⟨_, _, h⟩ | ⟨L, e, _, _, hL, rfl, hq, hv, heq⟩
    · rw [← h, hd]
    · rw [← hv, Bool.eq_iff_iff]
      rw [hd] at heq
      constructor
      · intro hm
        rw [← heq] at hm
        exact (mat_any _ _).2 ⟨0, Nat.zero_le _, hm⟩
      · intro hm
        rw [seg_take hL (by omega), hd] at hm
        exact star_far hq hm (by rw [seg_length (by omega)]; omega)
theorem Tries.full (h : Tries ns l v i k la en) (hi : i < ns.length) (hc : ns[i] ≠ 257) (hk : k = l.length) : v = false := by
  obtain ⟨_, _, ⟨_, _, h⟩ | ⟨L, e, _, _, hL, hke, hq, hv, heq⟩⟩ := h
  · rw [← h, dropN hi, List.drop_of_length_le (l := l) (by omega), mat_none hc]
  · rw [← hv, Bool.eq_false_iff]
    intro hm
    have hn := mat_need _ _ hm
    rw [need_cons_any, seg_take hL (by omega), need_append, need_plain hq, seg_length (by omega), dropN hi, need_cons_one hc, List.length_drop] at hn
    omega
theorem tries_missed (h : Tries ns l v i k la en) (hm : mat (ns.drop i) (l.drop k) = false) (hk : k < l.length) : Backs ns l v la en := by
  obtain ⟨_, _, ⟨h1, h2, h⟩ | ⟨L, e, h1, h2, hL, hke, hq, hv, heq⟩⟩ := h
  · exact Or.inl ⟨h1, h2, by rw [← h, hm]⟩
  · have he : e < l.length := by omega
    refine Or.inr ⟨L, e, h1, h2, by omega, he, ?_⟩
    rw [← hv, List.drop_eq_getElem_cons he, mat_any_step, ← List.drop_eq_getElem_cons he, heq, hm, Bool.false_or]
theorem Tries.miss (h : Tries ns l v i k la en) (hi : i < ns.length) (hc : ns[i] ≠ 257) (hk : k < l.length) (ho : one ns[i] l[k] = false) : Backs ns l v la en :=
  tries_missed h (by rw [dropN hi, List.drop_eq_getElem_cons hk, mat_one hc, ho, Bool.false_and]) hk
theorem Tries.hit (h : Tries ns l v i k la en) (hi : i < ns.length) (hc : ns[i] ≠ 257) (hk : k < l.length) (ho : one ns[i] l[k] = true) : Tries ns l v (i + 1) (k + 1) la en := by
  have hs : mat (ns.drop i) (l.drop k) = mat (ns.drop (i + 1)) (l.drop (k + 1)) := by rw [dropN hi, List.drop_eq_getElem_cons hk, mat_one hc, ho, Bool.true_and]
  obtain ⟨_, _, ⟨h1, h2, h⟩ | ⟨L, e, h1, h2, hL, hke, hq, hv, heq⟩⟩ := h
  · exact ⟨hi, hk, Or.inl ⟨h1, h2, by rw [← h, hs]⟩⟩
  · refine ⟨hi, hk, Or.inr ⟨L, e, h1, h2, by omega, by omega, ?_, hv, by rw [heq, hs]⟩⟩
    intro c hm
    rw [List.take_succ_eq_append_getElem hi, List.drop_append_of_le_length (by rw [List.length_take]; omega)] at hm
    rcases List.mem_append.1 hm with hm | hm
    · exact hq c hm
    · rw [List.mem_singleton.1 hm]; exact hc
theorem Tries.done (h : Tries ns l v i k la en) (hi : i = ns.length) (hk : k = l.length) : v = true := by
  have hm : mat (ns.drop i) (l.drop k) = true := by rw [List.drop_of_length_le (by omega), List.drop_of_length_le (by omega)]; rfl
  obtain ⟨_, _, ⟨h1, h2, h⟩ | ⟨L, e, h1, h2, hL, hke, hq, hv, heq⟩⟩ := h
  · rw [← h, hm]
  · rw [← hv]
    exact (mat_any _ _).2 ⟨0, Nat.zero_le _, by rw [List.drop_zero, heq, hm]⟩
theorem Tries.left (h : Tries ns l v i k la en) (hi : i = ns.length) (hk : k < l.length) : Backs ns l v la en :=
  tries_missed h (by rw [List.drop_of_length_le (by omega), List.drop_eq_getElem_cons hk]; rfl) hk
theorem Backs.none (h : Backs ns l v la en) (hl : la < 0) : v = false := by
  rcases h with ⟨_, _, h⟩ | ⟨L, e, rfl, _⟩
  · exact h
  · omega
theorem Backs.some (h : Backs ns l v la en) (hl : ¬ la < 0) : ∃ L e : Nat, la = (L : Int) ∧ en = (e : Int) ∧ e < l.length ∧ L ≤ ns.length ∧ Tries ns l v L (e + 1) (L : Int) ((e + 1 : Nat) : Int) := by
  rcases h with ⟨rfl, _, _⟩ | ⟨L, e, rfl, rfl, hL, he, hv⟩
  · omega
  · refine ⟨L, e, rfl, rfl, he, hL, hL, he, Or.inr ⟨L, e + 1, rfl, rfl, Nat.le_refl _, by omega, ?_, hv, rfl⟩⟩
    intro c hm
    rw [List.drop_of_length_le (by rw [List.length_take]; omega)] at hm
    cases hm
end
end Go.Proofs.YtjffbjlniieciaaDoor
namespace Go.Proofs.YtjffbjlniieciaaDoor
set_option linter.unusedSimpArgs false
set_option linter.unusedVariables false

/-- by a goto to a label: what holds there; by any other way: Q -/
def jumpTo (J : Nat → Act → World → Prop) (Q : Exit → Act → World → Prop) : Exit → Act → World → Prop
  | .goto l, a, w => J l a w
  | e, a, w => Q e a w

section
variable {P : Program} {Q : Exit → Act → World → Prop}
theorem jumpTo_goto {J : Nat → Act → World → Prop} {l : Nat} {a : Act} {w : World} (h : J l a w) : jumpTo J Q (.goto l) a w := h
theorem jumpTo_ret {J : Nat → Act → World → Prop} {a : Act} {w : World} (h : Q .ret a w) : jumpTo J Q .ret a w := h
/-- what one pass from label l must show -/
def Pass (P : Program) (Q : Exit → Act → World → Prop) (c : Code) (J : Nat → Act → World → Prop) (m : Nat → Act → World → Nat) (l : Nat) (a : Act) (w : World) : Prop :=
  ∃ rest, findLabel c l = some (.seq .skip rest) ∧ rest.wp P (jumpTo (fun l' a' w' => J l' a' w' ∧ m l' a' w' < m l a w) Q) a w
/-- at the label itself -/
theorem of_pass {c R : Code} {a : Act} {w : World} {J : Nat → Act → World → Prop} {m : Nat → Act → World → Nat} {l : Nat} (h : Pass P Q c J m l a w) (hf : findLabel c l = some (.seq .skip R)) : R.wp P (jumpTo J Q) a w := by
  obtain ⟨R', h1, h2⟩ := h
  rw [hf] at h1
  injection h1 with h1
  injection h1 with _ h1
  subst h1
  refine wp_mono h2 fun e a w hq => ?_
  cases e with
  | goto l1 => exact hq.1
  | _ => exact hq

theorem wp_scope_labels {c : Code} {a : Act} {w : World} (J : Nat → Act → World → Prop) (m : Nat → Act → World → Nat) (pass : ∀ l a w, J l a w → Pass P Q c J m l a w)
    (first : (∀ l a w, J l a w → Pass P Q c J m l a w) → c.wp P (jumpTo J Q) a w) : (Code.scope c).wp P Q a w := by
  intro b k cs
  have again : ∀ n l a w, m l a w = n → J l a w → ∃ rest, findLabel c l = some rest ∧ ∃ e a' w', Q e a' w' ∧ Arrives P (lone (b.at a (.code rest :: .inScope c :: k)) cs w) b k cs e a' w' := by
    intro n
    induction n using Nat.strongRecOn with
    | _ n ih =>
      intro l a w hn hJ
      obtain ⟨rest, hr, hrest⟩ := pass l a w hJ
      refine ⟨_, hr, ?_⟩
      have hwp : (Code.seq .skip rest).wp P (jumpTo (fun l' a' w' => J l' a' w' ∧ m l' a' w' < m l a w) Q) a w := wp_seq (wp_skip hrest)
      obtain ⟨e, a1, w1, hq, har⟩ := hwp b (.inScope c :: k) cs
      cases e with
      | goto l1 =>
        obtain ⟨hJ1, hlt⟩ := hq
        obtain ⟨rest1, hr1, e2, a2, w2, hq2, har2⟩ := ih (m l1 a1 w1) (by omega) l1 a1 w1 rfl hJ1
        exact ⟨e2, a2, w2, hq2, .of_steps (har (.code rest1 :: .inScope c :: k) (by simp [gotoIn, hr1])) har2⟩
      | normal => exact ⟨.normal, a1, w1, hq, Steps.trans har (.one step_inScope)⟩
      | exit id => exact ⟨.exit id, a1, w1, hq, fun k' hk => har k' (by simp [exitTo, hk])⟩
      | ret => exact ⟨_, a1, w1, hq, har⟩
      | panic ch => exact ⟨_, a1, w1, hq, har⟩
      | outgrown => exact ⟨_, a1, w1, hq, har⟩
  obtain ⟨e, a1, w1, hq, har⟩   := first pass b (.inScope c :: k) cs
  cases e with
  | goto l1 =>
    obtain ⟨rest1, hr1, e2, a2, w2, hq2, har2⟩ := again _ l1 a1 w1 rfl hq
    exact ⟨e2, a2, w2, hq2, .of_steps (.head step_scope (har (.code rest1 :: .inScope c :: k) (by simp [gotoIn, hr1]))) har2⟩
  | normal => exact ⟨.normal, a1, w1, hq, .head step_scope (Steps.trans har (.one step_inScope))⟩
  | exit id => exact ⟨.exit id, a1, w1, hq, fun k' hk => .head step_scope (har k' (by simp [exitTo, hk]))⟩
  | ret => exact ⟨_, a1, w1, hq, .of_steps (.one step_scope) har⟩
  | panic ch => exact ⟨_, a1, w1, hq, .of_steps (.one step_scope) har⟩
  | outgrown => exact ⟨_, a1, w1, hq, .of_steps (.one step_scope) har⟩
end
end Go.Proofs.YtjffbjlniieciaaDoor
namespace Go.Proofs.YtjffbjlniieciaaDoor
set_option linter.unusedSimpArgs false
set_option linter.unusedVariables false
open Go.RowKit

/-- how far the bytes of the last sign are -/
def farOf (a : Act) : Nat := ((intOf (a.tmps.getD 8 undef)) + 1).toNat
/-- what holds at the try (1), and ahead of going back (0) -/
def MatJ (ns : List Nat) (s : ByteArray) (v : Bool) (A : Option Addr) (c : Nat) (w : World) (l : Nat) (a : Act) (w' : World) : Prop :=
  (l = 1 ∧ ∃ (i k : Nat) (la en : Int) (n : Nat) (u4 u9 u10 u11 u12 u13 u14 u15 u16 u17 u18 u19 u20 u21 u22 u23 u24 u25 u26 u27 u28 u29 u30 u31 u32 u33 u34 u35 u36 u37 u38 u39 u40 u41 u42 u43 u44 u45 u46 u47 u48 : Value), a = { tmps := #[.slice A ns.length c, .string s, undef, undef, u4, .int .i64 (i : Int), .int .i64 (k : Int), .int .i64 la, .int .i64 en, u9, u10, u11, u12, u13, u14, u15, u16, u17, u18, u19, u20, u21, u22, u23, u24, u25, u26, u27, u28, u29, u30, u31, u32, u33, u34, u35, u36, u37, u38, u39, u40, u41, u42, u43, u44, u45, u46, u47, u48], defers := [] } ∧ Tries ns s.data.toList v i k la en ∧ w.drewN n = w') ∨
  (l = 0 ∧ ∃ (la en : Int) (n : Nat) (u5 u6 u4 u9 u10 u11 u12 u13 u14 u15 u16 u17 u18 u19 u20 u21 u22 u23 u24 u25 u26 u27 u28 u29 u30 u31 u32 u33 u34 u35 u36 u37 u38 u39 u40 u41 u42 u43 u44 u45 u46 u47 u48 : Value), a = { tmps := #[.slice A ns.length c, .string s, undef, undef, u4, u5, u6, .int .i64 la, .int .i64 en, u9, u10, u11, u12, u13, u14, u15, u16, u17, u18, u19, u20, u21, u22, u23, u24, u25, u26, u27, u28, u29, u30, u31, u32, u33, u34, u35, u36, u37, u38, u39, u40, u41, u42, u43, u44, u45, u46, u47, u48], defers := [] } ∧ Backs ns s.data.toList v la en ∧ w.drewN n = w')
def MatM (s : ByteArray) (l : Nat) (a : Act) (w' : World) : Nat := 2 * (s.size + 2 - farOf a) + l

set_option maxRecDepth 20000 in
set_option maxHeartbeats 4000000 in
theorem lmatch_any {w : World} (ns : List Nat) (s : ByteArray) {lo hi c : Nat} {A : Option Addr} (h : Rd w lo hi A c (iv (ints ns))) (h7 : ∀ n ∈ ns, n ≤ 257) (hs : s.size ≤ 1000000) :
    Calls Tryd.prog 60 #[.slice A ns.length c, .string s] w fun r w' => r = .returned (.bool (mat ns s.data.toList)) ∧ ∃ n, w.drewN n = w' := by
  have hl := h.len
  have hc := h.cap
  rw [iv_length, ints_length] at hl
  unfold maxLen at hc
  have H := Lib.hid h
  have H7 : Hid (∀ i (hi : i < ns.length), ns[i] ≤ 257) := fun i hi => h7 _ (List.getElem_mem hi)
  have HS := Lib.hid (lenB s)
  clear h h7
  obtain ⟨v, hv⟩ : ∃ v, mat ns s.data.toList = v := ⟨_, rfl⟩
  rw [hv]
  have HV := Lib.hid hv
  clear hv
  go_enter Tryd.func60, Tryd.ntmps60
  go_wp2_with fail
  refine wp_scope_labels (MatJ ns s v A c w) (MatM s) ?_ ?_
  · intro l a w' hJ
    rcases hJ with ⟨rfl, i0, k0, la0, en0, n0, u4, u9, u10, u11, u12, u13, u14, u15, u16, u17, u18, u19, u20, u21, u22, u23, u24, u25, u26, u27, u28, u29, u30, u31, u32, u33, u34, u35, u36, u37, u38, u39, u40, u41, u42, u43, u44, u45, u46, u47, u48, rfl, hT, rfl⟩ | ⟨rfl, la, en, n0, u5, u6, u4, u9, u10, u11, u12, u13, u14, u15, u16, u17, u18, u19, u20, u21, u22, u23, u24, u25, u26, u27, u28, u29, u30, u31, u32, u33, u34, u35, u36, u37, u38, u39, u40, u41, u42, u43, u44, u45, u46, u47, u48, rfl, hB, rfl⟩
    · refine ⟨_, rfl, ?_⟩
      have HT := Lib.hid hT
      clear hT
      generalize hQ : jumpTo _ _ = Qx
      go_wp2_with fail
      go_loopw [5, 6, 7, 8] (fun x5 x6 x7 x8 wr => ∃ (i k : Nat) (la en : Int) (n : Nat), x5 = .int .i64 (i : Int) ∧ x6 = .int .i64 (k : Int) ∧ x7 = .int .i64 la ∧ x8 = .int .i64 en ∧ Tries ns s.data.toList v i k la en ∧ en0 ≤ en ∧ w.drewN n = wr) (fun x5 _ _ _ _ => ns.length - (intOf x5).toNat)
      case atStart => exact ⟨i0, k0, la0, en0, n0, rfl, rfl, rfl, rfl, HT.out, Int.le_refl _, rfl⟩
      case round =>
        obtain ⟨i, k, la, en, n, rfl, rfl, rfl, rfl, hT2, hle, rfl⟩ := hrel
        have hel := hT2.end_le
        have hik := And.intro hT2.1 hT2.2.1
        rw [HS.out] at hik
        have HT := Lib.hid hT2
        clear hT2
        by_cases hlt : i < ns.length
        · have ik : (i : Int) < (ns.length : Int) := by omega
          obtain ⟨b, off, rfl, hsig⟩ := rd_sig H.out hlt
          have hsig2 : (w.drewN n).cell? ⟨b, off + i, none⟩ = some (.int .i64 (ns[i] : Int)) := hsig
          have hc7 := H7.out i hlt
          by_cases h257 : ns[i] = 257
          · rw [h257] at hsig hsig2
            have HT2 := Lib.hid (HT.out.any hlt h257)
            clear h257
            go_wp2_with fail
            go_roundw
            case rel => exact ⟨i + 1, k, ((i + 1 : Nat) : Int), (k : Int), n, by go_num, rfl, by go_num, rfl, HT2.out, by omega, rfl⟩
            case measure => simp [intOf] <;> omega
          · have i257 : ((ns[i] : Int) == 257) = false := by rw [beq_eq_false_iff_ne]; omega
            by_cases hk : k = s.size
            · have hv := HT.out.full hlt h257 (by rw [HS.out]; exact hk)
              have ikk : ((k : Int) == (s.size : Int)) = true := by rw [hk]; exact beq_self_eq_true _
              clear hk
              go_wp2_with fail
              change Qx .ret _ _
              subst hQ
              refine jumpTo_ret ?_
              go_ret
              exact ⟨ret_bool hv.symm, n, rfl⟩
            · have hks : k < s.size := by omega
              have ikk : ((k : Int) == (s.size : Int)) = false := by rw [beq_eq_false_iff_ne]; omega
              have iks : (k : Int) < (s.size : Int) := by omega
              have HSY := Lib.hid (fun w => says_any (w := w) ns[i] s[k])
              have HTM := Lib.hid (HT.out.miss hlt h257 (k := k) (by rw [HS.out]; exact hks))
              have HTH := Lib.hid (HT.out.hit hlt h257 (k := k) (by rw [HS.out]; exact hks))
              have HOE : Hid (one ns[i] s.data.toList[k] = one ns[i] s[k]) := by unfold Hid; rfl
              generalize one ns[i] s[k] = o at *
              cases o
              · go_wp2_with fail
                go_quiet ((go_at_call 78; exact quiet_pure_on (HSY.out _)))
                go_wp2
                go_step3
                change Qx (.goto 0) _ _
                subst hQ
                refine ⟨Or.inr ⟨rfl, la, en, _, _, _, _, _, _, _, _, _, _, _, _, _, _, _, _, _, _, _, _, _, _, _, _, _, _, _, _, _, _, _, _, _, _, _, _, _, _, _, _, _, _, _, _, rfl, HTM.out HOE.out, (World.drewN_drewN ..).symm⟩, ?_⟩
                unfold MatM farOf
                simp [intOf]
                omega
              · go_wp2_with fail
                go_quiet ((go_at_call 78; exact quiet_pure_on (HSY.out _)))
                go_wp2
                go_roundw
                case rel => exact ⟨i + 1, k + 1, la, en, _, by go_num, by go_num, rfl, rfl, (HTH.out HOE.out), hle, rfl⟩
                case measure => simp [intOf] <;> omega
        · have ik : ¬ (i : Int) < (ns.length : Int) := by omega
          by_cases hk : k = s.size
          · have ikk : ((k : Int) == (s.size : Int)) = true := by rw [hk]; exact beq_self_eq_true _
            have hv := HT.out.done (by omega) (by rw [HS.out]; exact hk)
            clear hk
            go_wp2_with fail
            change Qx .ret _ _
            subst hQ
            refine jumpTo_ret ?_
            go_ret
            exact ⟨ret_bool hv.symm, n, rfl⟩
          · have ikk : ((k : Int) == (s.size : Int)) = false := by rw [beq_eq_false_iff_ne]; omega
            have HB := Lib.hid (HT.out.left (by omega) (by rw [HS.out]; omega))
            by_cases hla : la < 0
            · have hv := HB.out.none hla
              go_wp2_with fail
              go_step3
              go_wp2_with fail
              subst hQ
              refine jumpTo_ret ?_
              go_ret
              exact ⟨ret_bool hv.symm, n, rfl⟩
            · obtain ⟨L, e, rfl, rfl, he, hL, hT2⟩ := HB.out.some hla
              have HT2 := Lib.hid hT2
              rw [HS.out] at he
              clear hT2
              go_wp2_with fail
              go_step3
              go_wp2_with fail
              go_step3
              subst hQ
              refine ⟨Or.inl ⟨rfl, L, e + 1, _, _, _, _, _, _, _, _, _, _, _, _, _, _, _, _, _, _, _, _, _, _, _, _, _, _, _, _, _, _, _, _, _, _, _, _, _, _, _, _, _, _, _, _, rfl, HT2.out, rfl⟩, ?_⟩
              unfold MatM farOf
              simp [intOf]
              omega
    · refine ⟨_, rfl, ?_⟩
      have HB := Lib.hid hB
      clear hB
      generalize hQ : jumpTo _ _ = Qx
      by_cases hla : la < 0
      · have hv := HB.out.none hla
        go_wp2_with fail
        subst hQ
        refine jumpTo_ret ?_
        go_ret
        exact ⟨ret_bool hv.symm, n0, rfl⟩
      · obtain ⟨L, e, rfl, rfl, he, hL, hT2⟩ := HB.out.some hla
        have HT2 := Lib.hid hT2
        rw [HS.out] at he
        clear hT2
        go_wp2_with fail
        go_step3
        subst hQ
        refine ⟨Or.inl ⟨rfl, L, e + 1, _, _, _, _, _, _, _, _, _, _, _, _, _, _, _, _, _, _, _, _, _, _, _, _, _, _, _, _, _, _, _, _, _, _, _, _, _, _, _, _, _, _, _, _, rfl, HT2.out, rfl⟩, ?_⟩
        unfold MatM farOf
        simp [intOf]
        omega
  · intro hp
    go_wp2_with fail
    go_step3
    rename_i K hK
    refine hK _ _ ?_
    refine of_pass (hp 1 _ _ (Or.inl ⟨rfl, 0, 0, -1, -1, 0, _, _, _, _, _, _, _, _, _, _, _, _, _, _, _, _, _, _, _, _, _, _, _, _, _, _, _, _, _, _, _, _, _, _, _, _, _, _, _, _, _, rfl, tries_start HV.out, rfl⟩)) rfl
end Go.Proofs.YtjffbjlniieciaaDoor
namespace Go.Proofs.YtjffbjlniieciaaDoor
set_option maxRecDepth 100000
open Go.RowKit

/-- this program's numbers of the shelf's functions, types and variables -/
def renw : Go.Shelf.Ren := ⟨fun | 167 => 82 | 169 => 83 | 240 => 94 | 276 => 103 | n => n, fun | 0 => 0 | 3 => 3 | 4 => 4 | 5 => 5 | 9 => 9 | 20 => 20 | 37 => 71 | 70 => 88 | 72 => 90 | 75 => 92 | 80 => 94 | 127 => 102 | 164 => 104 | n => n, fun n => n⟩

theorem laysw167 : Go.Proofs.Lays.n167 Tryd.prog renw := {
  mixed := by kernel_rfl
  f167 := Tryd.func82.trans (congrArg some (by kernel_rfl))
  f240 := Tryd.func94.trans (congrArg some (by kernel_rfl))
  f276 := Tryd.func103.trans (congrArg some (by kernel_rfl))
  t0 := Tryd.underlying0
  a0 := Tryd.isAgg0
  z0 := Tryd.sizeOf0
  v0 := Tryd.zeroValue0
  t4 := Tryd.underlying4
  a4 := Tryd.isAgg4
  z4 := Tryd.sizeOf4
  v4 := Tryd.zeroValue4
  t5 := Tryd.underlying5
  a5 := Tryd.isAgg5
  z5 := Tryd.sizeOf5
  v5 := Tryd.zeroValue5
  t9 := Tryd.underlying9
  a9 := Tryd.isAgg9
  z9 := Tryd.sizeOf9
  v9 := Tryd.zeroValue9
  t20 := Tryd.underlying20
  a20 := Tryd.isAgg20
  z20 := Tryd.sizeOf20
  v20 := Tryd.zeroValue20
  t37 := Tryd.underlying71
  a37 := Tryd.isAgg71
  z37 := Tryd.sizeOf71
  v37 := Tryd.zeroValue71
  t70 := Tryd.underlying88
  a70 := Tryd.isAgg88
  z70 := Tryd.sizeOf88
  v70 := Tryd.zeroValue88
  t72 := Tryd.underlying90
  a72 := Tryd.isAgg90
  z72 := Tryd.sizeOf90
  v72 := Tryd.zeroValue90
  t75 := Tryd.underlying92
  a75 := Tryd.isAgg92
  z75 := Tryd.sizeOf92
  v75 := Tryd.zeroValue92
  t164 := Tryd.underlying104
  a164 := Tryd.isAgg104
  z164 := Tryd.sizeOf104
  v164 := Tryd.zeroValue104 }

theorem laysw169 : Go.Proofs.Lays.n169 Tryd.prog renw := {
  mixed := by kernel_rfl
  f169 := Tryd.func83.trans (congrArg some (by kernel_rfl))
  t0 := Tryd.underlying0
  a0 := Tryd.isAgg0
  z0 := Tryd.sizeOf0
  v0 := Tryd.zeroValue0
  t3 := Tryd.underlying3
  a3 := Tryd.isAgg3
  z3 := Tryd.sizeOf3
  v3 := Tryd.zeroValue3
  t9 := Tryd.underlying9
  a9 := Tryd.isAgg9
  z9 := Tryd.sizeOf9
  v9 := Tryd.zeroValue9
  t37 := Tryd.underlying71
  a37 := Tryd.isAgg71
  z37 := Tryd.sizeOf71
  v37 := Tryd.zeroValue71
  t70 := Tryd.underlying88
  a70 := Tryd.isAgg88
  z70 := Tryd.sizeOf88
  v70 := Tryd.zeroValue88
  t72 := Tryd.underlying90
  a72 := Tryd.isAgg90
  z72 := Tryd.sizeOf90
  v72 := Tryd.zeroValue90
  t127 := Tryd.underlying102
  a127 := Tryd.isAgg102
  z127 := Tryd.sizeOf102
  v127 := Tryd.zeroValue102 }

theorem extraw : Builder.Extra Tryd.prog renw := {
  sizeBuilder := by kernel_rfl
  liesBuilder := by kernel_rfl
  t5 := Tryd.underlying5
  a5 := Tryd.isAgg5
  z5 := Tryd.sizeOf5
  v5 := Tryd.zeroValue5
  infoByte := by kernel_rfl
  cellsByte := by kernel_rfl
  sizeByte := by kernel_rfl
  neB5 := by decide }

/-- a builder at block b, its bytes -/
abbrev Bld (B b : Nat) (l : List UInt8) (w : World) : Prop := Lib.IsBuilderF 90 5 B b (Lib.byteCells l) w
/-- every other block but rows of bytes is kept -/
abbrev Kept (b : Nat) (w w' : World) : Prop := Lib.OthersKept 5 (some b) w w'
theorem write_byte {w : World} (B b : Nat) (l : List UInt8) (c : UInt8) (h : Bld B b l w) (hl : l.length + 1 ≤ 140737488355328) (hBw : B ≤ w.heap.size) :
    Calls Tryd.prog 82 #[.pointer (some ⟨b, 0, none⟩), .int .u8 (c.toNat : Int)] w fun e w' => e = .returned .nilIface ∧ Bld B b (l ++ [c]) w' ∧ Below B w w' ∧ Kept b w w' :=
  (Any.Builder_WriteByte_k laysw167 extraw B b _ _ w h (by rw [Lib.byteCells_length]; exact hl) hBw).mono fun _ _ h => ⟨h.1, by unfold Bld; rw [Lib.byteCells_append]; exact Or.inr h.2.1, h.2.2.1, h.2.2.2⟩
theorem built {w : World} (B b : Nat) (l : List UInt8) (h : Bld B b l w) (hBw : B ≤ w.heap.size) :
    Calls Tryd.prog 83 #[.pointer (some ⟨b, 0, none⟩)] w fun e w' => e = .returned (.string ⟨l.toArray⟩) ∧ Below B w w' :=
  (Any.Builder_String_any_k laysw169 extraw B b l w h hBw).mono fun _ _ h => ⟨h.1, h.2.2.1⟩
theorem fresh {w : World} : Bld w.heap.size w.heap.size [] (w.alloc (.cells #[.pointer none, .slice none 0 0] 90)) := Lib.IsBuilderF.of (Lib.fresh_isBuilder 90 5 w)
end Go.Proofs.YtjffbjlniieciaaDoor
namespace Go.Proofs.YtjffbjlniieciaaDoor
set_option linter.unusedSimpArgs false
set_option linter.unusedVariables false
open Go.RowKit

/-- the bytes at the signs' beginning -/
def litL : List Nat → List UInt8
  | [] => []
  | c :: p => if c < 256 then UInt8.ofNat c :: litL p else []
theorem lit_byte {c : Nat} (h : c < 256) (p : List Nat) : litL (c :: p) = UInt8.ofNat c :: litL p := by rw [litL, if_pos h]
theorem lit_wild {c : Nat} (h : ¬ c < 256) (p : List Nat) : litL (c :: p) = [] := by rw [litL, if_neg h]
theorem lit_le : ∀ p, (litL p).length ≤ p.length
  | [] => Nat.le_refl _
  | c :: p => by
    unfold litL
    split
    · have := lit_le p
      simpa using this
    · simp
/-- runs: what is at the beginning, and those of what is left -/
theorem run_acc : ∀ (p : List Nat) (acc : List UInt8), runA acc p = (if acc ++ litL p = [] then [] else [acc ++ litL p]) ++ runA [] (p.drop (litL p).length)
  | [], acc => by simp [litL, runA]
  | c :: p, acc => by
    by_cases h : c < 256
    · rw [run_lit h, run_acc p, lit_byte h]
      simp
    · rw [run_wild h, lit_wild h]
      rw [List.length_nil, List.drop_zero, run_wild h, List.append_nil]
      simp
theorem runs_some {p : List Nat} (h : litL p ≠ []) : runsL p = litL p :: runsL (p.drop (litL p).length) := by
  unfold runsL
  rw [run_acc p [], List.nil_append, if_neg h]
  rfl
theorem runs_none {c : Nat} {p : List Nat} (h : litL (c :: p) = []) : runsL (c :: p) = runsL p := by
  unfold runsL
  by_cases hc : c < 256
  · rw [lit_byte hc] at h
    cases h
  · rw [run_wild hc, if_pos rfl]
    rfl

set_option maxRecDepth 20000 in
set_option maxHeartbeats 2000000 in
theorem lliteral_any {w : World} (ns : List Nat) {hi c : Nat} {A : Option Addr} (h : Rd w 0 hi A c (iv (ints ns))) (hh : hi ≤ w.heap.size) (hn : ns.length ≤ 1000000) :
    Calls Tryd.prog 69 #[.slice A ns.length c] w fun r w' => r = .returned (.string ⟨(litL ns).toArray⟩) ∧ Below w.heap.size w w' := by
  have hl := h.len
  have hc := h.cap
  rw [iv_length, ints_length] at hl
  unfold maxLen at hc
  have H := Lib.hid h
  have HBY : Hid (∀ (w : World) (z : Int), Calls Tryd.prog 70 #[.int .i64 z] w fun r w' => r = .returned (.bool (decide (0 ≤ z) && decide (z ≤ 255))) ∧ w = w') := fun w z => isByte_any z
  clear h
  go_enter Tryd.func69, Tryd.ntmps69
  go_wp2_with fail
  go_loopw [5, 8] (fun x5 x8 wr => ∃ (k : Nat) (ys : List UInt8), k ≤ ns.length ∧ x8 = .int .i64 (k : Int) ∧ ys.length = k ∧ ys ++ litL (ns.drop k) = litL ns ∧ Bld w.heap.size w.heap.size ys wr ∧ Below w.heap.size w wr) (fun _ x8 _ => ns.length - (intOf x8).toNat)
  case atStart => exact ⟨0, [], Nat.zero_le _, rfl, rfl, rfl, fresh, (Below.refl _ w).alloc (Nat.le_refl _) _⟩
  case round =>
    obtain ⟨k, ys, hk, rfl, hyl, hys, hbl, hb⟩ := hrel
    have HYS := Lib.hid hys
    have HYL := Lib.hid hyl
    have hyle : ys.length ≤ ns.length := by omega
    have hsz := hb.size
    have HBL := Lib.hid hbl
    have HB := Lib.hid hb
    clear hys hyl hbl hb
    by_cases hlt : k < ns.length
    · have ik : (k : Int) < (ns.length : Int) := by omega
      obtain ⟨b, off, rfl, hsig⟩ := rd_sig (H.out.below HB.out hh) hlt
      have HDN : Hid (ns.drop k = ns[k] :: ns.drop (k + 1)) := List.drop_eq_getElem_cons hlt
      generalize ns[k] = x at *
      have hx0 : decide (0 ≤ (x : Int)) = true := decide_eq_true (by omega)
      by_cases h256 : x < 256
      · have hx1 : decide ((x : Int) ≤ 255) = true := decide_eq_true (by omega)
        have HLE : Hid ((ys ++ [UInt8.ofNat x]) ++ litL (ns.drop (k + 1)) = litL ns) := by
          unfold Hid
          rw [← HYS.out, HDN.out, lit_byte h256, List.append_assoc]
          rfl
        have hx : (UInt8.ofNat x).toNat = x := by simp; omega
        have hw := write_byte (w := wr) w.heap.size w.heap.size ys (UInt8.ofNat x) HBL.out (by omega) hsz
        rw [hx] at hw
        have HWB := Lib.hid hw
        clear hw hx
        generalize UInt8.ofNat x = y at *
        go_wp2_with fail
        refine (HBY.out _ _).mono ?_
        rw [hx0, hx1]
        rintro r w2 ⟨rfl, rfl⟩
        go_wp2_with fail
        refine HWB.out.mono ?_
        rintro r w2 ⟨rfl, hbl2, hb2, _⟩
        go_wp2_with fail
        go_roundw
        case rel => exact ⟨k + 1, ys ++ [y], by omega, by go_num, by rw [List.length_append, HYL.out]; rfl, HLE.out, hbl2, HB.out.trans hb2⟩
        case measure => simp [intOf] <;> omega
      · have hx1 : decide ((x : Int) ≤ 255) = false := decide_eq_false (by omega)
        have hfin : ys = litL ns := by rw [← HYS.out, HDN.out, lit_wild h256, List.append_nil]
        have HFU := Lib.hid hfin
        clear hfin
        go_wp2_with fail
        refine (HBY.out _ _).mono ?_
        rw [hx0, hx1]
        rintro r w2 ⟨rfl, rfl⟩
        go_wp2_with fail
        refine (built w.heap.size w.heap.size ys HBL.out hsz).mono ?_
        rintro r w2 ⟨rfl, hb2⟩
        go_wp2_with fail
        go_ret
        exact ⟨by rw [← HFU.out]; rfl, HB.out.trans hb2⟩
    · have ik : ¬ (k : Int) < (ns.length : Int) := by omega
      have hfin : ys = litL ns := by rw [← HYS.out, List.drop_of_length_le (by omega), litL, List.append_nil]
      have HFU := Lib.hid hfin
      clear hfin
      go_wp2_with fail
      refine (built w.heap.size w.heap.size ys HBL.out hsz).mono ?_
      rintro r w2 ⟨rfl, hb2⟩
      go_wp2_with fail
      go_ret
      exact ⟨by rw [← HFU.out]; rfl, HB.out.trans hb2⟩

/-- a slice's length -/
def slen : Value → Nat | .slice _ n _ => n | _ => 0
theorem iv_ints_drop (ms : List Nat) (k : Nat) : iv (ints (ms.drop k)) = (iv (ints ms)).drop k := by simp [iv, ints, List.map_drop]
theorem rd_rest {w : World} {lo hi c : Nat} {A : Option Addr} {ms : List Nat} (h : Rd w lo hi A c (iv (ints ms))) {k : Nat} (hk : k ≤ ms.length) :
    Rd w lo hi (if c = k then A else A.map (·.add k)) (c - k) (iv (ints (ms.drop k))) := by
  have h1 := h.cut (k := k) (n := ms.length) hk (by rw [iv_length, ints_length]; exact Nat.le_refl _)
  rw [iv_ints_drop, ← List.take_of_length_le (l := (iv (ints ms)).drop k) (i := ms.length - k) (by rw [List.length_drop, iv_length, ints_length]; exact Nat.le_refl _)]
  exact h1

set_option maxRecDepth 20000 in
set_option maxHeartbeats 2000000 in
theorem lruns_any {w : World} (ns : List Nat) {c : Nat} {A : Option Addr} (h : Rd w 0 w.heap.size A c (iv (ints ns))) (hn : ns.length ≤ 1000000) :
    Calls Tryd.prog 50 #[.slice A ns.length c] w fun r w' => ∃ A' c', r = .returned (.slice A' (runsL ns).length c') ∧ Rd w' 0 w'.heap.size A' c' (sv (strsL (runsL ns))) ∧ Below w.heap.size w w' := by
  have H := Lib.hid h
  clear h
  go_enter Tryd.func50, Tryd.ntmps50
  go_wp2_with fail
  go_loopw [0, 3] (fun x0 x3 wr => ∃ (ms : List Nat) (os : List ByteArray) (B : Option Addr) (d : Nat) (A' : Option Addr) (c' : Nat), x0 = .slice B ms.length d ∧ x3 = .slice A' os.length c' ∧ Rd w 0 w.heap.size B d (iv (ints ms)) ∧ os.length + ms.length ≤ ns.length ∧
    os ++ strsL (runsL ms) = strsL (runsL ns) ∧ wr.ownsRow w.heap.size 9 1 (.slice A' os.length c') os.length (sv os) ∧ Below w.heap.size w wr) (fun x0 _ _ => slen x0)
  case atStart => exact ⟨ns, [], A, c, none, 0, rfl, rfl, H.out, by simp, rfl, World.ownsRow_nil _ _ _ _, Below.refl _ _⟩
  case round =>
    obtain ⟨ms, os, B, d, A', c', rfl, rfl, hrd, hle, hinv, hown, hb⟩ := hrel
    have hl := hrd.len
    have hc := hrd.cap
    rw [iv_length, ints_length] at hl
    unfold maxLen at hc
    have HR := Lib.hid hrd
    have HI := Lib.hid hinv
    have HO := Lib.hid hown
    have HB := Lib.hid hb
    have hsz := hb.size
    clear hrd hinv hown hb
    by_cases hpos : 0 < ms.length
    · have ip : (0 : Int) < (ms.length : Int) := by omega
      have HLT := Lib.hid (lliteral_any (w := wr) ms (HR.out.below HB.out (Nat.le_refl _)) hsz (by omega))
      have hll := lit_le ms
      obtain ⟨y, hy⟩ : ∃ y, litL ms = y := ⟨_, rfl⟩
      by_cases h0 : y = []
      · have hne : y.isEmpty = true := by rw [h0]; rfl
        have HFI : Hid (os ++ strsL (runsL (ms.drop 1)) = strsL (runsL ns)) := by
          unfold Hid
          rw [← HI.out]
          cases ms with
          | nil => simp at hpos
          | cons a p => rw [runs_none (by rw [hy, h0])]; rfl
        have HR1 := Lib.hid (rd_rest HR.out (k := 1) hpos)
        rw [hy] at HLT hll
        clear hy h0
        go_wp2_with fail
        refine HLT.out.mono ?_
        rintro r w2 ⟨rfl, hb2⟩
        have HB2 := Lib.hid (HB.out.trans (hb2.mono hsz))
        have HO2 := Lib.hid (own_below HO.out hb2 (Nat.le_refl _))
        clear hb2
        go_wp2_with fail
        go_roundw
        case rel => exact ⟨ms.drop 1, os, _, _, A', c', by rw [List.length_drop]; rfl, rfl, HR1.out, by rw [List.length_drop]; omega, HFI.out, HO2.out, HB2.out⟩
        case measure => simp [slen] <;> omega
      · have hne : y.isEmpty = false := List.isEmpty_eq_false_iff.2 h0
        have HFI : Hid ((os ++ [⟨y.toArray⟩]) ++ strsL (runsL (ms.drop y.length)) = strsL (runsL ns)) := by
          unfold Hid
          have hr : runsL ms = y :: runsL (ms.drop y.length) := by rw [runs_some (p := ms) (by rw [hy]; exact h0), hy]
          rw [← HI.out, hr, List.append_assoc]
          rfl
        have HR1 := Lib.hid (rd_rest HR.out (k := y.length) (by rw [← hy]; exact hll))
        have hpy : 0 < y.length := List.length_pos_iff.2 h0
        rw [hy] at HLT hll
        have HYZ : Hid ((⟨y.toArray⟩ : ByteArray).size = y.length) := by unfold Hid; rfl
        clear hy h0
        go_wp2_with fail
        refine HLT.out.mono ?_
        rintro r w2 ⟨rfl, hb2⟩
        have HB2 := Lib.hid (HB.out.trans (hb2.mono hsz))
        have HO2 := Lib.hid (own_below HO.out hb2 (Nat.le_refl _))
        have hsz2 := HB2.out.size
        clear hb2
        go_wp2_with (at_builtin; refine wpList_push_str (v := .slice A' os.length c') w.heap.size os (⟨y.toArray⟩) rfl _ _ rfl rfl rfl rfl (by rw [World.cell?_alloc_at _ _ _ _ rfl]; rfl) (HO2.out.alloc _) (by omega) (by simp; omega) ?_; intro A2 c2 w3 ho3 hg3)
        go_roundw
        case rel => exact ⟨ms.drop y.length, os ++ [⟨y.toArray⟩], _, _, A2, c2, by rw [List.length_drop], by rw [List.length_append]; rfl, HR1.out, by rw [List.length_append, List.length_drop, List.length_cons, List.length_nil]; omega, HFI.out, ho3, (HB2.out.alloc hsz2 _).grown hg3 (by simp; omega) (fun q hq => (own_lt HO2.out hq).1)⟩
        case measure => simp [slen] <;> omega
    · have ip : ¬ (0 : Int) < (ms.length : Int) := by omega
      have hf : os = strsL (runsL ns) := by
        have hm : ms = [] := List.eq_nil_of_length_eq_zero (by omega)
        rw [← HI.out, hm]
        simp [runsL, runA, strsL]
      have HF := Lib.hid hf
      have HFL : Hid (os.length = (runsL ns).length) := by unfold Hid; rw [hf, strsL_length]
      clear hf
      go_wp2_with fail
      go_ret
      exact ⟨A', c', by rw [← HFL.out]; rfl, by rw [← HF.out]; exact (Rd.of_own HO.out).wide (Nat.zero_le _) (Nat.le_refl _), HB.out⟩

end Go.Proofs.YtjffbjlniieciaaDoor
