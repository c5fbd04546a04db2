/-
  Patterns read as signs: what single bytes and signs say, and Parse.
-/
import Derived.Test.YtcpllbfpbhnjeaaRfLb
namespace Go.Proofs.Ytcpllbfpbhnjeaa
set_option linter.unusedSimpArgs false
set_option linter.unusedVariables false
open Go.RowKit

theorem isByte_any {w : World} (z : Int) : Calls Try.prog 22 #[.int .i64 z] w fun r w' => r = .returned (.bool (decide (0 ≤ z) && decide (z ≤ 255))) ∧ w = w' := by
  by_cases h0 : z < 0
  · have hf : decide (0 ≤ z) = false := decide_eq_false (by omega)
    rw [hf]
    go_enter Try.func22, Try.ntmps22
    go_wp2
    go_ret
    exact ⟨rfl, rfl⟩
  · have ht : decide (0 ≤ z) = true := decide_eq_true (by omega)
    rw [ht]
    by_cases h1 : z ≤ 255
    · have h2 : decide (z ≤ 255) = true := decide_eq_true h1
      rw [h2]
      go_enter Try.func22, Try.ntmps22
      go_wp2
      go_ret
      exact ⟨rfl, rfl⟩
    · have h2 : decide (z ≤ 255) = false := decide_eq_false h1
      rw [h2]
      go_enter Try.func22, Try.ntmps22
      go_wp2
      go_ret
      exact ⟨rfl, rfl⟩

theorem sign_any {w : World} (x : UInt8) : Calls Try.prog 23 #[.int .u8 (x.toNat : Int)] w fun r w' => r = .returned (.int .i64 (sgn x : Int)) ∧ w = w' := by
  have hx : x.toNat < 256 := UInt8.toNat_lt _
  have HS : Hid (sgn x = if x.toNat = 37 then 257 else if x.toNat = 95 then 256 else x.toNat) := by unfold Hid; rfl
  generalize sgn x = v at *
  generalize x.toNat = n at *
  by_cases h37 : n = 37
  · have hv : v = 257 := by rw [HS.out, if_pos h37]
    subst hv
    subst h37
    go_enter Try.func23, Try.ntmps23
    go_wp2
    go_ret
    exact ⟨rfl, rfl⟩
  · by_cases h95 : n = 95
    · have hv : v = 256 := by rw [HS.out, if_neg h37, if_pos h95]
      subst hv
      subst h95
      go_enter Try.func23, Try.ntmps23
      go_wp2
      go_ret
      exact ⟨rfl, rfl⟩
    · have hv : v = n := by rw [HS.out, if_neg h37, if_neg h95]
      subst hv
      have i37 : ¬ (v : Int) = 37 := by omega
      have i95 : ¬ (v : Int) = 95 := by omega
      go_enter Try.func23, Try.ntmps23
      go_wp2
      go_ret
      exact ⟨rfl, rfl⟩

theorem says_any {w : World} (c : Nat) (x : UInt8) : Calls Try.prog 24 #[.int .i64 (c : Int), .int .u8 (x.toNat : Int)] w fun r w' => r = .returned (.bool (one c x)) ∧ w = w' := by
  have hx : x.toNat < 256 := UInt8.toNat_lt _
  have HS : Hid (one c x = (c == 256 || c == x.toNat)) := by unfold Hid; rfl
  generalize one c x = v at *
  generalize x.toNat = n at *
  by_cases h256 : c = 256
  · have hv : v = true := by rw [HS.out, h256]; rfl
    subst hv
    subst h256
    go_enter Try.func24, Try.ntmps24
    go_wp2
    go_ret
    exact ⟨rfl, rfl⟩
  · have i256 : ¬ (c : Int) = 256 := by omega
    by_cases hn : c = n
    · have hv : v = true := by rw [HS.out, hn]; simp
      subst hv
      subst hn
      go_enter Try.func24, Try.ntmps24
      go_wp2
      go_ret
      exact ⟨rfl, rfl⟩
    · have hv : v = false := by rw [HS.out]; simp [h256, hn]
      have b1 : ((c : Int) == 256) = false := by rw [beq_eq_false_iff_ne]; exact i256
      have b2 : ((c : Int) == (n : Int)) = false := by rw [beq_eq_false_iff_ne]; omega
      subst hv
      go_enter Try.func24, Try.ntmps24
      go_wp2
      go_ret
      exact ⟨rfl, rfl⟩

theorem make_signs (w : World) (n : Nat) (h : n ≤ 1000000000000) : ∃ w1, (Instr.makeSlice 23 (.int .i64 0) (.int .i64 (n : Int))).run Try.prog w = .ok (.slice (some ⟨w.heap.size, 0, none⟩) 0 n) w1 ∧
    w1.ownsRow w.heap.size 3 1 (.slice (some ⟨w.heap.size, 0, none⟩) 0 n) 0 [] ∧ w.grownBy w1 none := by
  obtain ⟨i0, hi0, hz0, hz1, hz2⟩ := info_parts Try.infoI64
  have := run_make_own (P := Try.prog) w w.heap.size 23 3 i0 _ 1 Try.underlying23 hi0 hz0 hz1 .i64 .i64 n (by rw [hz2]; omega) (by simp only [maxLen]; omega) (Nat.le_refl _)
  simpa using this

/-- what is left of a pattern, behind an escape byte or not -/
def parseE (esc : Int) (b : Bool) (l : List UInt8) : Option (List Nat) :=
  if b = true then (match l with
    | [] => none
    | y :: t => (parseL esc t).map (y.toNat :: ·)) else parseL esc l
theorem parseE_plain {esc : Int} {x : UInt8} (h : ¬ (x.toNat : Int) = esc) (t : List UInt8) : parseE esc false (x :: t) = (parseE esc false t).map (sgn x :: ·) := by
  unfold parseE
  rw [if_neg (by simp), if_neg (by simp)]
  exact parse_plain h t
theorem parseE_esc {esc : Int} {x : UInt8} (h : (x.toNat : Int) = esc) (t : List UInt8) : parseE esc false (x :: t) = parseE esc true t := by
  unfold parseE
  rw [if_neg (by simp), if_pos rfl]
  cases t with
  | nil => exact parse_last h
  | cons y t => exact parse_esc h y t
theorem parseE_next (esc : Int) (y : UInt8) (t : List UInt8) : parseE esc true (y :: t) = (parseE esc false t).map (y.toNat :: ·) := rfl
theorem parse_map {zs : List Int} {o : Option (List Nat)} {r : Option (List Int)} {c : Nat} (h : (o.map (c :: ·)).map (fun p => zs ++ ints p) = r) : o.map (fun p => (zs ++ [(c : Int)]) ++ ints p) = r := by
  rw [← h, Option.map_map]
  congr 1
  funext p
  simp [ints]

set_option maxRecDepth 20000 in
set_option maxHeartbeats 2000000 in
theorem lparse_any {w : World} (s : ByteArray) (E : Int) (o : Option (List Nat)) (ho : parseF E s.data.toList = o) :
    Calls Try.prog 11 #[.string s, .int .i64 E] w fun r w' => ∃ A c, r = .returned (.tuple #[.slice A (o.getD []).length c, .int .i64 (if o.isSome then 0 else 8)]) ∧ Rd w' 0 w'.heap.size A c (iv (ints (o.getD []))) ∧ Below w.heap.size w w' := by
  unfold parseF at ho
  rw [lenB] at ho
  have HB := fun w => Lib.hid (isByte_any (w := w) E)
  by_cases hbad : E < -1 ∨ 255 < E ∨ 4096 < s.size
  · rw [if_pos hbad] at ho
    subst ho
    by_cases hm : E = -1
    · subst hm
      have h3 : (4096 : Int) < (s.size : Int) := by omega
      clear hbad
      go_enter Try.func11, Try.ntmps11
      go_wp2_with fail
      go_ret2
      exact ⟨none, 0, rfl, Rd.nil _ _ _, Below.refl _ _⟩
    · by_cases hb : 0 ≤ E ∧ E ≤ 255
      · have hd : decide (0 ≤ E) = true := decide_eq_true hb.1
        have hd2 : decide (E ≤ 255) = true := decide_eq_true hb.2
        have h3 : (4096 : Int) < (s.size : Int) := by omega
        rw [hd, hd2] at HB
        clear hbad
        go_enter Try.func11, Try.ntmps11
        go_wp2_with fail
        refine (HB _).out.mono ?_
        rintro r w1 ⟨rfl, rfl⟩
        go_wp2_with fail
        go_ret2
        exact ⟨none, 0, rfl, Rd.nil _ _ _, Below.refl _ _⟩
      · have hd : (decide (0 ≤ E) && decide (E ≤ 255)) = false := by
          rw [Bool.and_eq_false_iff, decide_eq_false_iff_not, decide_eq_false_iff_not]
          omega
        rw [hd] at HB
        clear hbad
        go_enter Try.func11, Try.ntmps11
        go_wp2_with fail
        refine (HB _).out.mono ?_
        rintro r w1 ⟨rfl, rfl⟩
        go_wp2_with fail
        go_ret2
        exact ⟨none, 0, rfl, Rd.nil _ _ _, Below.refl _ _⟩
  · rw [if_neg hbad] at ho
    have h3 : ¬ (4096 : Int) < (s.size : Int) := by omega
    have hs : s.size ≤ 4096 := by omega
    have HV : Hid ((parseE E false (s.data.toList.drop 0)).map (fun p => ([] : List Int) ++ ints p) = o.map ints) := by unfold Hid; rw [← ho]; rfl
    clear ho
    obtain ⟨w2, hmake, ho2, hg2⟩ := make_signs w s.size (by omega)
    have HO2 := Lib.hid ho2
    have HB2 := Lib.hid ((Below.refl _ w).grown hg2 (Nat.le_refl _) (by simp) : Below w.heap.size w w2)
    clear ho2 hg2
    have key : (E != -1) = false ∨ (¬ E = -1 ∧ (decide (0 ≤ E) && decide (E ≤ 255)) = true) := by
      by_cases hm : E = -1
      · exact Or.inl (by rw [hm]; rfl)
      · exact Or.inr ⟨hm, by rw [Bool.and_eq_true, decide_eq_true_eq, decide_eq_true_eq]; omega⟩
    clear hbad
    rcases key with hm | ⟨hm, hd⟩
    all_goals
      try rw [hd] at HB
      go_enter Try.func11, Try.ntmps11
      go_wp2_with fail
      try
        refine (HB _).out.mono ?_
        rintro r w1 ⟨rfl, rfl⟩
        go_wp2_with fail
      clear hmake
      go_loopw [6, 7, 26] (fun x6 x7 x26 wr => ∃ (i : Nat) (b : Bool) (zs : List Int) (A : Option Addr) (c : Nat), i ≤ s.size ∧ x26 = .int .i64 (i : Int) ∧ x7 = .bool b ∧ x6 = .slice A zs.length c ∧ zs.length ≤ i ∧ (parseE E b (s.data.toList.drop i)).map (fun p => zs ++ ints p) = o.map ints ∧
        wr.ownsRow w.heap.size 3 1 (.slice A zs.length c) zs.length (iv zs) ∧ Below w.heap.size w wr) (fun _ _ i _ => s.size - (intOf i).toNat)
      case atStart => exact ⟨0, false, [], _, _, Nat.zero_le _, rfl, rfl, rfl, Nat.le_refl _, HV.out, HO2.out, HB2.out⟩
      case round =>
        obtain ⟨i, b, zs, A, c, hi, rfl, rfl, rfl, hyi, hys, hown, hb⟩ := hrel
        have HYS := Lib.hid hys
        have HO := Lib.hid hown
        have HBW := Lib.hid hb
        have hsz := hb.size
        clear hys hown hb
        by_cases hlt : i < s.size
        · have ik : (i : Int) < (s.size : Int) := by omega
          have HDB := Lib.hid (dropB hlt)
          have HSG := fun w => Lib.hid (sign_any (w := w) s[i])
          have lx : s[i].toNat < 256 := UInt8.toNat_lt _
          cases b
          · by_cases he : (s[i].toNat : Int) = E
            · have HF : Hid ((parseE E true (s.data.toList.drop (i + 1))).map (fun p => zs ++ ints p) = o.map ints) := by
                unfold Hid
                rw [← parseE_esc he, ← HDB.out]
                exact HYS.out
              have hb : ((s[i].toNat : Int) == E) = true := by rw [he]; exact beq_self_eq_true _
              clear he
              go_wp2_with fail
              go_roundw
              case rel => exact ⟨i + 1, true, zs, A, c, by omega, by go_num, rfl, rfl, by omega, HF.out, HO.out, HBW.out⟩
              case measure => simp [intOf] <;> omega
            · have HF : Hid (((parseE E false (s.data.toList.drop (i + 1))).map (sgn s[i] :: ·)).map (fun p => zs ++ ints p) = o.map ints) := by
                unfold Hid
                rw [← parseE_plain he, ← HDB.out]
                exact HYS.out
              generalize sgn s[i] = v at *
              have hb : ((s[i].toNat : Int) == E) = false := by rw [beq_eq_false_iff_ne]; exact he
              go_wp2_with fail
              refine (HSG _).out.mono ?_
              rintro r w4 ⟨rfl, rfl⟩
              go_wp2_with (at_builtin; refine wpList_push_num (v := .slice A zs.length c) w.heap.size zs ((v : Int)) rfl _ _ rfl rfl rfl rfl (by rw [World.cell?_alloc_at _ _ _ _ rfl]; rfl) (HO.out.alloc _) (by omega) (by simp; omega) ?_; intro A' c' w3 ho3 hg3)
              go_roundw
              case rel => exact ⟨i + 1, false, zs ++ [(v : Int)], A', c', by omega, by go_num, rfl, by rw [List.length_append]; rfl, by rw [List.length_append, List.length_cons, List.length_nil]; omega, parse_map HF.out, ho3, (HBW.out.alloc (by omega) _).grown hg3 (by simp; omega) (fun q hq => (own_lt HO.out hq).1)⟩
              case measure => simp [intOf] <;> omega
          · have HF : Hid (((parseE E false (s.data.toList.drop (i + 1))).map (s[i].toNat :: ·)).map (fun p => zs ++ ints p) = o.map ints) := by
              unfold Hid
              rw [← parseE_next, ← HDB.out]
              exact HYS.out
            go_wp2_with (at_builtin; refine wpList_push_num (v := .slice A zs.length c) w.heap.size zs ((s[i].toNat : Int)) rfl _ _ rfl rfl rfl rfl (by rw [World.cell?_alloc_at _ _ _ _ rfl]; rfl) (HO.out.alloc _) (by omega) (by simp; omega) ?_; intro A' c' w3 ho3 hg3)
            go_roundw
            case rel => exact ⟨i + 1, false, zs ++ [(s[i].toNat : Int)], A', c', by omega, by go_num, rfl, by rw [List.length_append]; rfl, by rw [List.length_append, List.length_cons, List.length_nil]; omega, parse_map HF.out, ho3, (HBW.out.alloc (by omega) _).grown hg3 (by simp; omega) (fun q hq => (own_lt HO.out hq).1)⟩
            case measure => simp [intOf] <;> omega
        · have ik : ¬ (i : Int) < (s.size : Int) := by omega
          have hy := HYS.out
          rw [List.drop_of_length_le (by rw [lenB]; omega)] at hy
          cases b
          · obtain ⟨p, hp, hz⟩ : ∃ p, o = some p ∧ ints p = zs := by
              cases o with
              | none => simp [parseE, parseL] at hy
              | some p =>
                refine ⟨p, rfl, ?_⟩
                simp [parseE, parseL] at hy
                rw [← hy]
                simp [ints]
            subst hp
            have HZ := Lib.hid hz
            have HZL : Hid (zs.length = p.length) := by unfold Hid; rw [← hz, ints_length]
            clear hz hy
            go_wp2_with fail
            go_ret2
            refine ⟨A, c, ?_, ?_, HBW.out⟩
            · show _ = Ending.returned (.tuple #[.slice A p.length c, .int .i64 0])
              rw [← HZL.out]
              rfl
            · show Rd wr 0 wr.heap.size A c (iv (ints p))
              rw [HZ.out]
              exact (Rd.of_own HO.out).wide (Nat.zero_le _) (Nat.le_refl _)
          · have ho : o = none := by
              cases o with
              | none => rfl
              | some p => simp [parseE] at hy
            subst ho
            clear hy
            go_wp2_with fail
            go_ret2
            exact ⟨none, 0, rfl, Rd.nil _ _ _, HBW.out⟩
end Go.Proofs.Ytcpllbfpbhnjeaa
