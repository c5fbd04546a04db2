/-
  The document's Decode of layer 11.
-/
import Derived.Test.YtniehbghgialjaaFsE
import Derived.OwnWalk
namespace Go.Proofs.Ytniehbghgialjaa
set_option linter.unusedSimpArgs false
set_option linter.unusedVariables false
open Go.RowKit

theorem app_strS (o t : ByteArray) : (o ++ t).data.toList = o.data.toList ++ t.data.toList := by rw [ByteArray.data_append, Array.toList_append]
theorem app_sizeS (o t : ByteArray) : (o ++ t).size = o.size + t.size := by rw [← lenS, app_strS, List.length_append, lenS, lenS]
theorem str_etaS (s : ByteArray) : (⟨s.data.toList.toArray⟩ : ByteArray) = s := by
  rcases s with ⟨d⟩
  rfl
theorem dec_last {T : List (List UInt8)} {most : Int} {bs : List UInt8} {k : Nat} (h : k < bs.length) (hx : bs[k].toNat = 255) (hl : k + 1 = bs.length) (o : List UInt8) (n : Nat) : decL T most (bs.drop k) o n = ([], 2, n) := by
  have hx2 : bs[k] = 255 := UInt8.toNat_inj.1 hx
  rw [List.drop_eq_getElem_cons h, List.drop_of_length_le (by omega), hx2, dec_end]
theorem dec_next {T : List (List UInt8)} {most : Int} {bs : List UInt8} {k : Nat} (h : k + 1 < bs.length) (hx : (bs[k]'(by omega)).toNat = 255) (o : List UInt8) (n : Nat) : decL T most (bs.drop k) o n = if most < ((o ++ [bs[k + 1]]).length : Int) then ([], 6, n + 1) else decL T most (bs.drop (k + 2)) (o ++ [bs[k + 1]]) (n + 1) := by
  have hx2 : bs[k]'(by omega) = 255 := UInt8.toNat_inj.1 hx
  rw [List.drop_eq_getElem_cons (by omega : k < bs.length), List.drop_eq_getElem_cons h, hx2, dec_lit]
theorem dec_bad {T : List (List UInt8)} {most : Int} {bs : List UInt8} {k : Nat} (h : k < bs.length) (hx : ¬ bs[k].toNat = 255) (hl : T.length ≤ bs[k].toNat) (o : List UInt8) (n : Nat) : decL T most (bs.drop k) o n = ([], 3, n) := by
  rw [List.drop_eq_getElem_cons h, dec_wrong _ _ _ (fun e => hx (by rw [e]; rfl)) hl]
theorem dec_good {T : List (List UInt8)} {most : Int} {bs : List UInt8} {k : Nat} (h : k < bs.length) (hx : ¬ bs[k].toNat = 255) {s : List UInt8} (hs : T[bs[k].toNat]? = some s) (o : List UInt8) (n : Nat) : decL T most (bs.drop k) o n = if most < ((o ++ s).length : Int) then ([], 6, n + 1) else decL T most (bs.drop (k + 1)) (o ++ s) (n + 1) := by
  rw [List.drop_eq_getElem_cons h, dec_sym _ _ _ (fun e => hx (by rw [e]; rfl)) hs]

set_option maxRecDepth 20000 in
set_option maxHeartbeats 2000000 in
theorem refDecode_any {w : World} (l : List ByteArray) (bs : List UInt8) (most : Int) {lo hi c lo2 hi2 c2 : Nat} {A B : Option Addr} (h : Rd w lo hi A c (sv l)) (hb : Rd w lo2 hi2 B c2 (bv bs)) (h8 : ∀ t ∈ l, t.size ≤ 8) (hln : l.length ≤ 255) (hbl : bs.length ≤ 100000) (v : List UInt8 × Nat × Nat) (hv : decL (bytL2 l) most bs [] 0 = v) :
    Calls Try.prog 15 #[.slice A l.length c, .slice B bs.length c2, .int .i64 most] w fun r w' => r = .returned (.tuple #[.string ⟨v.1.toArray⟩, .int .i64 (v.2.1 : Int), .int .i64 (v.2.2 : Int)]) ∧ ∃ m, w' = w.drewN m := by
  have hl := hb.len
  have hm := hb.cap
  have hl1 := h.len
  have hm1 := h.cap
  rw [sv_length] at hl1
  rw [bv_length] at hl
  unfold maxLen at hm hm1
  have H := Lib.hid h
  have HBS := Lib.hid hb
  have H8 : Hid (∀ k (hk : k < l.length), l[k].size ≤ 8) := fun k hk => h8 _ (List.getElem_mem hk)
  have HV := Lib.hid hv
  clear h hb h8 hv
  go_enter Try.func15, Try.ntmps15
  go_wp2_with fail
  go_loopw [9, 10, 11] (fun x9 x10 x11 wr => ∃ (k n m : Nat) (o : ByteArray), k ≤ bs.length ∧ x10 = .int .i64 (k : Int) ∧ x11 = .int .i64 (n : Int) ∧ x9 = .string o ∧ n ≤ k ∧ o.size ≤ 8 * k ∧ decL (bytL2 l) most (bs.drop k) o.data.toList n = v ∧ wr = w.drewN m) (fun _ i _ _ => bs.length - (intOf i).toNat)
  case atStart => exact ⟨0, 0, 0, ⟨#[]⟩, Nat.zero_le _, rfl, rfl, rfl, Nat.le_refl _, Nat.le_refl _, by rw [List.drop_zero]; exact HV.out, rfl⟩
  case round =>
    clear HV
    obtain ⟨k, n, m, o, hk, rfl, rfl, rfl, hn, ho, hinv, rfl⟩ := hrel
    have HI := Lib.hid hinv
    clear hinv
    by_cases hlt : k < bs.length
    · have ik : (k : Int) < (bs.length : Int) := by omega
      obtain ⟨b, off, rfl, hb1, hb2, hcell⟩ := HBS.out.byte hlt
      have lx : bs[k].toNat < 256 := UInt8.toNat_lt _
      by_cases hx : bs[k].toNat = 255
      · rw [hx] at hcell
        by_cases hl2 : k + 1 = bs.length
        · have il : (k : Int) + 1 = (bs.length : Int) := by omega
          have HF := Lib.hid ((dec_last (T := bytL2 l) (most := most) hlt hx hl2 o.data.toList n).symm.trans HI.out)
          clear hx
          go_wp2_with fail
          go_ret3
          exact ⟨by rw [← HF.out]; rfl, m, rfl⟩
        · have il : ¬ (k : Int) + 1 = (bs.length : Int) := by omega
          have hlt2 : k + 1 < bs.length := by omega
          have il2 : (k : Int) + 1 < (bs.length : Int) := by omega
          have hst := HI.out
          rw [dec_next hlt2 hx] at hst
          clear hx HI
          obtain ⟨b', off', he, _, _, hcell2⟩ := HBS.out.byte hlt2
          injection he with he
          injection he with he1 he2
          subst he1 he2
          have hcv : ∀ q, (convert 27 9 (.slice (some ⟨b, off + (k + 1), none⟩) 1 (c2 - (k + 1)))).run Try.prog (w.drewN q) = .ok (.string ⟨#[bs[k + 1]]⟩) (w.drewN q) := fun q => by
            refine run_string_rd (P := Try.prog) (w.drewN q) 27 9 5 Try.underlying27 Try.underlying5 Try.underlying9 0 (b + 1) _ _ [bs[k + 1]] ⟨by simp [bv]; omega, by simp only [maxLen]; omega, fun _ => ⟨b, off + (k + 1), rfl, Nat.zero_le _, by omega, fun j u hu => ?_⟩⟩
            match j, hu with
            | 0, hu =>
              simp [bv] at hu
              subst hu
              exact hcell2
            | j + 1, hu => simp [bv] at hu
          have hos : (o ++ ⟨#[bs[k + 1]]⟩ : ByteArray).size ≤ 8 * (k + 2) := by rw [app_sizeS]; show o.size + 1 ≤ _; omega
          have hsz : (o ++ ⟨#[bs[k + 1]]⟩ : ByteArray).size = o.size + 1 := by rw [app_sizeS]; rfl
          have hap : o.data.toList ++ [bs[k + 1]] = (o ++ ⟨#[bs[k + 1]]⟩ : ByteArray).data.toList := (app_strS o ⟨#[bs[k + 1]]⟩).symm
          rw [hap, lenS] at hst
          clear hap
          by_cases hmo : most < ((o ++ ⟨#[bs[k + 1]]⟩ : ByteArray).size : Int)
          · rw [if_pos hmo] at hst
            have HF := Lib.hid hst
            have d2 : decide (most < ((o ++ ⟨#[bs[k + 1]]⟩ : ByteArray).size : Int)) = true := decide_eq_true hmo
            have hmo2 : most < (o.size : Int) + 1 := by omega
            clear hst hsz
            go_wp2_with fail
            go_ret3
            exact ⟨by rw [← HF.out]; rfl, m, rfl⟩
          · rw [if_neg hmo] at hst
            have HF := Lib.hid hst
            have d2 : decide (most < ((o ++ ⟨#[bs[k + 1]]⟩ : ByteArray).size : Int)) = false := decide_eq_false hmo
            have hmo2 : ¬ most < (o.size : Int) + 1 := by omega
            clear hst hsz
            go_wp2_with fail
            go_roundw
            case rel => exact ⟨k + 2, n + 1, m, o ++ ⟨#[bs[k + 1]]⟩, by omega, by go_num, by go_num, rfl, by omega, hos, HF.out, rfl⟩
            case measure => simp [intOf] <;> omega
      · have ix : ¬ (bs[k].toNat : Int) = 255 := by omega
        have bx : ((bs[k].toNat : Int) == 255) = false := by rw [beq_eq_false_iff_ne]; exact ix
        by_cases hxl : bs[k].toNat < l.length
        · have i1 : (bs[k].toNat : Int) < (l.length : Int) := by omega
          have d1 : decide ((l.length : Int) ≤ (bs[k].toNat : Int)) = false := decide_eq_false (by omega)
          obtain ⟨b1, off1, rfl, _, _, hcell1⟩ := H.out.str hxl
          have hs8 := H8.out _ hxl
          have hgd : (bytL2 l)[bs[k].toNat]? = some l[bs[k].toNat].data.toList := by
            rw [List.getElem?_eq_getElem (by rw [bytL2_length]; exact hxl), bytL2_get]
          have hst := HI.out
          rw [dec_good hlt hx hgd] at hst
          clear hx HI hgd
          generalize bs[k].toNat = i at *
          generalize l[i] = t at *
          rw [← app_strS, lenS] at hst
          have hos : (o ++ t).size ≤ 8 * (k + 1) := by rw [app_sizeS]; omega
          have hsz := app_sizeS o t
          by_cases hmo : most < ((o ++ t).size : Int)
          · rw [if_pos hmo] at hst
            have HF := Lib.hid hst
            have d2 : decide (most < ((o ++ t).size : Int)) = true := decide_eq_true hmo
            have hmo2 : most < (o.size : Int) + (t.size : Int) := by omega
            clear hst hsz
            go_wp2_with fail
            go_ret3
            exact ⟨by rw [← HF.out]; rfl, m, rfl⟩
          · rw [if_neg hmo] at hst
            have HF := Lib.hid hst
            have d2 : decide (most < ((o ++ t).size : Int)) = false := decide_eq_false hmo
            have hmo2 : ¬ most < (o.size : Int) + (t.size : Int) := by omega
            clear hst hsz
            go_wp2_with fail
            go_roundw
            case rel => exact ⟨k + 1, n + 1, m, o ++ t, by omega, by go_num, by go_num, rfl, by omega, hos, HF.out, rfl⟩
            case measure => simp [intOf] <;> omega
        · have d1 : decide ((l.length : Int) ≤ (bs[k].toNat : Int)) = true := decide_eq_true (by omega)
          have HF := Lib.hid ((dec_bad (T := bytL2 l) (most := most) hlt hx (by rw [bytL2_length]; omega) o.data.toList n).symm.trans HI.out)
          clear hx HI
          generalize bs[k].toNat = i at *
          go_wp2_with fail
          go_ret3
          exact ⟨by rw [← HF.out]; rfl, m, rfl⟩
    · have ik : ¬ (k : Int) < (bs.length : Int) := by omega
      have hfin := HI.out
      rw [List.drop_of_length_le (by omega), dec_nil] at hfin
      have HF := Lib.hid hfin
      clear hfin HI
      go_wp2_with fail
      go_ret3
      exact ⟨by rw [← HF.out, str_etaS]; rfl, m, rfl⟩
end Go.Proofs.Ytniehbghgialjaa
