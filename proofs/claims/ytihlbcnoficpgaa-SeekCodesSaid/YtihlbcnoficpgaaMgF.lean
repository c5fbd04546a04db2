/-
  Dictionaries in plain: what is one, its entries, its bytes; strings put in order.
  The document's Right and Few of layer 13.
  A row of numbers and a row of bytes of a call's own, apart, that both grow.
  The document's Build of layer 13. (Printed by wip/tools/genfrb.py.)
  The document's Sorted of layer 13: strings put in order, each once.
-/
import Derived.Test.YtihlbcnoficpgaaRisM
import Derived.Test.YtihlbcnoficpgaaMgK
import Derived.Test.YtihlbcnoficpgaaMgC
import Derived.Test.YtihlbcnoficpgaaRefW
import Derived.Test.YtihlbcnoficpgaaLawH
import Derived.BigQuiet
import Derived.Deep.QuietTactic
import Derived.Test.YtihlbcnoficpgaaIntA
import Derived.Test.YtihlbcnoficpgaaByt
import Derived.Test.YtihlbcnoficpgaaOutM
import Derived.OneCell
import Derived.Test.YtihlbcnoficpgaaRefT
import Derived.Test.YtihlbcnoficpgaaStrA
import Derived.Test.YtihlbcnoficpgaaDrwM
import Derived.Deep.RegionLaw
namespace Go.Proofs.Ytihlbcnoficpgaa
set_option linter.unusedSimpArgs false
set_option linter.unusedVariables false

/-- strings that rise, not too long, not too many -/
def dicL (l : List (List UInt8)) : Bool := decide (l.length ≤ 4096) && l.all (fun s => decide (s.length ≤ 4096)) && risesL l
theorem dicL_iff {l : List (List UInt8)} : dicL l = true ↔ l.length ≤ 4096 ∧ (∀ s ∈ l, s.length ≤ 4096) ∧ risesL l = true := by
  unfold dicL
  rw [Bool.and_eq_true, Bool.and_eq_true, decide_eq_true_eq, List.all_eq_true, and_assoc]
  simp only [decide_eq_true_eq]
/-- a dictionary, with its block -/
def rightD (l : List (List UInt8)) (block : Int) : Bool := decide (1 ≤ block) && decide (block ≤ 64) && dicL l
theorem rightD_iff {l : List (List UInt8)} {block : Int} : rightD l block = true ↔ (1 ≤ block ∧ block ≤ 64) ∧ dicL l = true := by
  unfold rightD
  rw [Bool.and_eq_true, Bool.and_eq_true, decide_eq_true_eq, decide_eq_true_eq]
/-- how many bytes two strings share at the beginning -/
def shareN : List UInt8 → List UInt8 → Nat
  | x :: a, y :: b => if x = y then shareN a b + 1 else 0
  | _, _ => 0
theorem share_le : ∀ a b : List UInt8, shareN a b ≤ a.length ∧ shareN a b ≤ b.length
  | [], _ => ⟨Nat.zero_le _, Nat.zero_le _⟩
  | _ :: _, [] => ⟨Nat.zero_le _, Nat.zero_le _⟩
  | x :: a, y :: b => by
    unfold shareN
    have := share_le a b
    split <;> simp <;> omega
/-- so far alike, and not any more: that many are shared -/
theorem share_is : ∀ {a b : List UInt8} {n : Nat} (hn : n ≤ a.length) (hm : n ≤ b.length), a.take n = b.take n → (∀ (h1 : n < a.length) (h2 : n < b.length), a[n] ≠ b[n]) → shareN a b = n
  | [], b, n, hn, _, _, _ => by
    obtain rfl : n = 0 := Nat.le_zero.1 hn
    cases b <;> rfl
  | x :: a, [], n, _, hm, _, _ => by
    obtain rfl : n = 0 := Nat.le_zero.1 hm
    rfl
  | x :: a, y :: b, 0, _, _, _, h => by
    have := h (by simp) (by simp)
    simp only [List.getElem_cons_zero] at this
    unfold shareN
    rw [if_neg this]
  | x :: a, y :: b, n + 1, hn, hm, he, h => by
    simp only [List.take_succ_cons, List.cons.injEq] at he
    unfold shareN
    rw [if_pos he.1, share_is (n := n) (by simpa using hn) (by simpa using hm) he.2 (fun h1 h2 => by
      have := h (by simpa using h1) (by simpa using h2)
      simpa using this)]
/-- an entry: of the first of a block the string whole, of another one what it doesn't share -/
def entL (block i : Nat) (prev cur : List UInt8) : List UInt8 :=
  if i % block = 0 then textL cur else putL (shareN prev cur) ++ textL (cur.drop (shareN prev cur))
/-- the i-th entry -/
def entI (block : Nat) (l : List (List UInt8)) (i : Nat) : List UInt8 := entL block i (l.getD (i - 1) []) (l.getD i [])
/-- the first k entries -/
def entsL (block : Nat) (l : List (List UInt8)) (k : Nat) : List UInt8 := ((List.range k).map (entI block l)).flatten
theorem ents_zero (block : Nat) (l : List (List UInt8)) : entsL block l 0 = [] := rfl
theorem ents_succ (block : Nat) (l : List (List UInt8)) (k : Nat) : entsL block l (k + 1) = entsL block l k ++ entI block l k := by
  unfold entsL
  rw [List.range_succ, List.map_append, List.flatten_append]
  simp
/-- the last one more -/
def bumpL (ss : List Nat) (n : Nat) : List Nat := ss.set (ss.length - 1) (ss.getLastD 0 + n)
theorem bump_length (ss : List Nat) (n : Nat) : (bumpL ss n).length = ss.length := by simp [bumpL]
/-- how many bytes the entries of each block have, of the first k -/
def sizesN (block : Nat) (l : List (List UInt8)) : Nat → List Nat
  | 0 => []
  | k + 1 => bumpL (if k % block = 0 then sizesN block l k ++ [0] else sizesN block l k) (entI block l k).length
theorem sizes_len (block : Nat) (l : List (List UInt8)) : ∀ k, (sizesN block l k).length ≤ k
  | 0 => Nat.le_refl _
  | k + 1 => by
    have := sizes_len block l k
    unfold sizesN
    rw [bump_length]
    split
    · rw [List.length_append]; simp; omega
    · omega
theorem sizes_pos (block : Nat) (l : List (List UInt8)) : ∀ k, 0 < k → 0 < (sizesN block l k).length
  | 0, h => absurd h (by omega)
  | k + 1, _ => by
    unfold sizesN
    rw [bump_length]
    split
    · rw [List.length_append]; simp
    · rename_i h
      have hk : 0 < k := Nat.pos_of_ne_zero fun e => h (by rw [e]; exact Nat.zero_mod _)
      exact sizes_pos block l k hk
theorem getLastD_mem {ss : List Nat} : ss.getLastD 0 = 0 ∨ ss.getLastD 0 ∈ ss := by
  cases ss with
  | nil => exact Or.inl rfl
  | cons a t =>
    right
    rw [List.getLastD_eq_getLast?, List.getLast?_eq_some_getLast (by simp)]
    exact List.getLast_mem _
theorem sizes_le (block : Nat) (l : List (List UInt8)) : ∀ k, ∀ x ∈ sizesN block l k, x ≤ (entsL block l k).length
  | 0, x, hx => by cases hx
  | k + 1, x, hx => by
    have ih := sizes_le block l k
    have hl : ∀ y ∈ (if k % block = 0 then sizesN block l k ++ [0] else sizesN block l k), y ≤ (entsL block l k).length := by
      intro y hy
      split at hy
      · rcases List.mem_append.1 hy with h | h
        · exact ih y h
        · rw [List.mem_singleton.1 h]; exact Nat.zero_le _
      · exact ih y hy
    unfold sizesN bumpL at hx
    generalize (if k % block = 0 then sizesN block l k ++ [0] else sizesN block l k) = ss at *
    rw [ents_succ, List.length_append]
    rcases List.mem_or_eq_of_mem_set hx with h | rfl
    · have := hl x h; omega
    · rcases getLastD_mem (ss := ss) with h | h
      · rw [h]; omega
      · have := hl _ h; omega
theorem entI_len (block : Nat) {l : List (List UInt8)} (h : ∀ s ∈ l, s.length ≤ 4096) (k : Nat) : (entI block l k).length ≤ 4200 := by
  have hd : ∀ i, (l.getD i []).length ≤ 4096 := fun i => by
    rw [List.getD_eq_getElem?_getD]
    cases he : l[i]? with
    | none => simp
    | some s => exact h s (List.mem_of_getElem? he)
  have hp : ∀ n, n ≤ 4096 → (putL n).length ≤ 9 := fun n hn => putL_nine n (by omega)
  have h1 := hd k
  have h2 := share_le (l.getD (k - 1) []) (l.getD k [])
  unfold entI entL textL
  split
  · rw [List.length_append]
    have := hp _ h1
    omega
  · rw [List.length_append, List.length_append]
    have h3 := hp (shareN (l.getD (k - 1) []) (l.getD k [])) (by omega)
    have h4 := hp (List.drop (shareN (l.getD (k - 1) []) (l.getD k [])) (l.getD k [])).length (by rw [List.length_drop]; omega)
    have h5 := List.length_drop (i := shareN (l.getD (k - 1) []) (l.getD k [])) (l := l.getD k [])
    omega
theorem ents_len (block : Nat) {l : List (List UInt8)} (h : ∀ s ∈ l, s.length ≤ 4096) : ∀ k, (entsL block l k).length ≤ 4200 * k
  | 0 => Nat.le_refl _
  | k + 1 => by
    rw [ents_succ, List.length_append]
    have h1 := ents_len block h k
    have h2 := entI_len block h k
    omega
/-- a dictionary's bytes -/
def frontL (block : Nat) (l : List (List UInt8)) : List UInt8 := putL l.length ++ putL block ++ writeL (ints (sizesN block l l.length)) ++ entsL block l l.length
end Go.Proofs.Ytihlbcnoficpgaa
namespace Go.Proofs.Ytihlbcnoficpgaa
set_option linter.unusedSimpArgs false
set_option linter.unusedVariables false
open Go.RowKit

theorem lenD (s : ByteArray) : s.data.toList.length = s.size := by rw [Array.length_toList]; rfl
set_option maxRecDepth 20000 in
set_option maxHeartbeats 2000000 in
theorem refRightD_any {w : World} (l : List ByteArray) (B : Int) {lo hi c : Nat} {A : Option Addr} (h : Rd w lo hi A c (sv l)) (h1k : ∀ s ∈ l, s.size ≤ 1000000000) :
    Calls Try.prog 22 #[.slice A l.length c, .int .i64 B] w fun r w' => r = .returned (.bool (rightD (bytL2 l) B)) ∧ ∃ m, w' = w.drewN m := by
  have hl := h.len
  have hm := h.cap
  rw [sv_length] at hl
  unfold maxLen at hm
  have H := Lib.hid h
  have H1 : Hid (∀ k (hk : k < l.length), l[k].size ≤ 1000000000) := fun k hk => h1k _ (List.getElem_mem hk)
  clear h h1k
  by_cases hB : B < 1
  · have hv : rightD (bytL2 l) B = false := by unfold rightD; rw [decide_eq_false (p := 1 ≤ B) (by omega)]; rfl
    rw [hv]
    have d1 : decide (B < 1) = true := decide_eq_true hB
    go_enter Try.func22, Try.ntmps22
    go_wp2_with fail
    go_ret
    exact ⟨rfl, 0, rfl⟩
  · have d1 : decide (B < 1) = false := decide_eq_false hB
    by_cases hB2 : 64 < B
    · have hv : rightD (bytL2 l) B = false := by unfold rightD; rw [decide_eq_false (p := B ≤ 64) (by omega), Bool.and_false]; rfl
      rw [hv]
      have d2 : decide (64 < B) = true := decide_eq_true hB2
      go_enter Try.func22, Try.ntmps22
      go_wp2_with fail
      go_ret
      exact ⟨rfl, 0, rfl⟩
    · have d2 : decide (64 < B) = false := decide_eq_false hB2
      by_cases h40 : 4096 < l.length
      · have hv : rightD (bytL2 l) B = false := by unfold rightD dicL; rw [decide_eq_false (p := (bytL2 l).length ≤ 4096) (by rw [bytL2_length]; omega), Bool.false_and, Bool.false_and, Bool.and_false]
        rw [hv]
        have d3 : decide ((4096 : Int) < (l.length : Int)) = true := decide_eq_true (by omega)
        go_enter Try.func22, Try.ntmps22
        go_wp2_with fail
        go_ret
        exact ⟨rfl, 0, rfl⟩
      · have d3 : decide ((4096 : Int) < (l.length : Int)) = false := decide_eq_false (by omega)
        obtain ⟨v, hv⟩ : ∃ v, rightD (bytL2 l) B = v := ⟨_, rfl⟩
        rw [hv]
        have HOK : Hid (∀ k (hk : k < l.length), 4096 < l[k].size → v = false) := fun k hk h => by
          cases hvv : v with
          | false => rfl
          | true =>
            rw [hvv] at hv
            have := (dicL_iff.1 (rightD_iff.1 hv).2).2.1 _ (List.getElem_mem (l := bytL2 l) (n := k) (by rw [bytL2_length]; exact hk))
            rw [bytL2_get l k hk, lenD] at this
            omega
        have HRI : Hid (∀ k (hk : k + 1 < l.length), ¬ cmpL l[k].data.toList l[k + 1].data.toList < 0 → v = false) := fun k hk h => by
          cases hvv : v with
          | false => rfl
          | true =>
            rw [hvv] at hv
            have := rises_adj (dicL_iff.1 (rightD_iff.1 hv).2).2.2 (k := k) (by rw [bytL2_length]; exact hk)
            rw [bytL2_get l k (by omega), bytL2_get l (k + 1) hk] at this
            exact absurd this h
        have HFI : Hid ((∀ k (hk : k < l.length), l[k].size ≤ 4096) → risesL ((bytL2 l).take l.length) = true → v = true) := fun h3 h4 => by
          rw [← hv, rightD_iff, dicL_iff]
          refine ⟨⟨by omega, by omega⟩, by rw [bytL2_length]; omega, fun s hs => ?_, ?_⟩
          · obtain ⟨k, hk, rfl⟩ := List.getElem_of_mem hs
            rw [bytL2_length] at hk
            rw [bytL2_get l k hk, lenD]
            exact h3 k hk
          · rw [List.take_of_length_le (by rw [bytL2_length]; exact Nat.le_refl _)] at h4
            exact h4
        clear hv
        go_enter Try.func22, Try.ntmps22
        go_wp2_with fail
        go_loopw [5] (fun i wr => ∃ k m : Nat, k ≤ l.length ∧ i = .int .i64 (k : Int) ∧ (∀ j (hj : j < l.length), j < k → l[j].size ≤ 4096) ∧ risesL ((bytL2 l).take k) = true ∧ wr = w.drewN m) (fun i _ => l.length - (intOf i).toNat)
        case atStart => exact ⟨0, 0, Nat.zero_le _, rfl, fun j _ h => absurd h (Nat.not_lt_zero j), rfl, rfl⟩
        case round =>
          obtain ⟨k, m, hk, rfl, hok, hri, rfl⟩ := hrel
          have HO := Lib.hid hok
          have HR := Lib.hid hri
          clear hok hri
          by_cases hlt : k < l.length
          · have ik : (k : Int) < (l.length : Int) := by omega
            obtain ⟨b, off, rfl, _, _, hcell⟩ := H.out.str hlt
            have hsz1 := H1.out k hlt
            have HKO := Lib.hid (HOK.out k hlt)
            have HNO : Hid (l[k].size ≤ 4096 → ∀ j (hj : j < l.length), j < k + 1 → l[j].size ≤ 4096) := fun h j hj hjk => by
              rcases Nat.lt_or_ge j k with h2 | h2
              · exact HO.out j hj h2
              · have : j = k := by omega
                subst this
                exact h
            by_cases hs8 : 4096 < l[k].size
            · have d8 : decide ((4096 : Int) < (l[k].size : Int)) = true := decide_eq_true (by omega)
              have HV : Hid (v = false) := HKO.out hs8
              go_wp2_with fail
              go_quiet (fail)
              go_wp2_with fail
              go_ret
              exact ⟨ret_bool HV.out.symm, m + nq, World.drewN_drewN _ _ _⟩
            · have d8 : decide ((4096 : Int) < (l[k].size : Int)) = false := decide_eq_false (by omega)
              have HOKK := Lib.hid (HNO.out (by omega))
              by_cases hk0 : k = 0
              · subst hk0
                rw [Nat.add_zero] at hcell
                have HR1 : Hid (risesL ((bytL2 l).take 1) = true) := by
                  unfold Hid
                  rw [List.take_succ_eq_append_getElem (by rw [bytL2_length]; omega)]
                  rfl
                go_wp2_with fail
                go_quiet (fail)
                go_wp2_with fail
                go_roundw
                case rel => exact ⟨0 + 1, _, by omega, by first | rfl | go_num, HOKK.out, HR1.out, by first | rfl | (rw [World.drewN_drewN])⟩
                case measure => simp [intOf] <;> omega
              · obtain ⟨j, rfl⟩ : ∃ j, k = j + 1 := ⟨k - 1, by omega⟩
                obtain ⟨b2, off2, he, _, _, hcell2⟩ := H.out.str (k := j) (by omega)
                injection he with he
                injection he with he1 he2
                subst he1 he2
                have hsz2 := HO.out j (by omega) (by omega)
                have HCM := Lib.hid (fun w => refCompare_any (w := w) l[j] l[j + 1] (by omega) (by omega))
                have HRS : Hid (risesL ((bytL2 l).take (j + 2)) = (risesL ((bytL2 l).take (j + 1)) && decide (cmpL l[j].data.toList l[j + 1].data.toList < 0))) := by
                  unfold Hid
                  rw [rises_take_succ (by rw [bytL2_length]; omega), bytL2_get l j (by omega), bytL2_get l (j + 1) hlt]
                have HRJ := Lib.hid (HRI.out j hlt)
                have i0 : (0 : Int) < (j : Int) + 1 := by omega
                have d0 : decide ((0 : Int) < (j : Int) + 1) = true := decide_eq_true i0
                have hjw : IntKind.i64.wrap (j : Int) = (j : Int) := IntWalk.i64_in _ (by omega)
                generalize cmpL l[j].data.toList l[j + 1].data.toList = z at *
                generalize l[j] = x at *
                generalize l[j + 1] = y at *
                by_cases hz : z < 0
                · have dz : decide ((0 : Int) ≤ z) = false := decide_eq_false (by omega)
                  have HR2 : Hid (risesL ((bytL2 l).take (j + 2)) = true) := by
                    unfold Hid
                    rw [HRS.out, HR.out, decide_eq_true hz]
                    rfl
                  go_wp2_with fail
                  go_quiet ((go_at_call 10; exact quiet_draws_on (HCM.out _)))
                  go_wp2_with fail
                  go_roundw
                  case rel => exact ⟨j + 1 + 1, _, by omega, by first | rfl | go_num, HOKK.out, HR2.out, by first | rfl | (rw [World.drewN_drewN])⟩
                  case measure => simp [intOf] <;> omega
                · have dz : decide ((0 : Int) ≤ z) = true := decide_eq_true (by omega)
                  have HV : Hid (v = false) := HRJ.out (by omega)
                  go_wp2_with fail
                  go_quiet ((go_at_call 10; exact quiet_draws_on (HCM.out _)))
                  go_wp2_with fail
                  go_ret
                  exact ⟨ret_bool HV.out.symm, m + nq, World.drewN_drewN _ _ _⟩
          · have ik : ¬ (k : Int) < (l.length : Int) := by omega
            have hke : k = l.length := by omega
            have HV : Hid (v = true) := HFI.out (fun j hj => HO.out j hj (by omega)) (by rw [← hke]; exact HR.out)
            go_wp2_with fail
            go_ret
            exact ⟨ret_bool HV.out.symm, m, rfl⟩

/-- few strings: at most 150, and few as layer 7's laws say -/
def FewD (l : List ByteArray) : Prop := l.length ≤ 150 ∧ FewL l
theorem refFewD_any {w : World} {lo h' c : Nat} {A : Option Addr} (l : List ByteArray) (h : Rd w lo h' A c (sv l)) [Decidable (FewD l)] :
    Calls Try.prog 21 #[.slice A l.length c] w fun r w' => r = .returned (.bool (decide (FewD l))) ∧ w = w' := by
  have hl := h.len
  have hm := h.cap
  rw [sv_length] at hl
  unfold maxLen at hm
  have HF := Lib.hid (few_any (w := w) l h)
  clear h
  by_cases h1 : l.length ≤ 150
  · have hv : decide (FewD l) = decide (FewL l) := by
      by_cases hf : FewL l
      · rw [decide_eq_true hf, decide_eq_true (show FewD l from ⟨h1, hf⟩)]
      · rw [decide_eq_false hf, decide_eq_false (fun h => hf h.2)]
    rw [hv]
    have i1 : (l.length : Int) ≤ 150 := by omega
    go_enter Try.func21, Try.ntmps21
    go_wp2_with fail
    refine HF.out.mono ?_
    rintro r w1 ⟨rfl, rfl⟩
    go_wp2_with fail
    go_ret
    exact ⟨rfl, rfl⟩
  · have hv : decide (FewD l) = false := decide_eq_false (fun h => h1 h.1)
    rw [hv]
    have i1 : ¬ (l.length : Int) ≤ 150 := by omega
    go_enter Try.func21, Try.ntmps21
    go_wp2_with fail
    go_ret
    exact ⟨rfl, rfl⟩
end Go.Proofs.Ytihlbcnoficpgaa
namespace Go.Proofs.Ytihlbcnoficpgaa
set_option linter.unusedSimpArgs false
set_option linter.unusedVariables false
open Go.RowKit

theorem append_ints_at (w : World) (base : Nat) (v : Value) (ys zs us : List Int) (hus : ys ++ zs = us) (hown : w.ownsRow base 3 1 v ys.length (iv ys)) {lo h' : Nat} {A : Option Addr} {c : Nat} (hr : Rd w lo h' A c (iv zs))
    (hb : ys.length + zs.length ≤ 17592186044416) (hbase : base ≤ w.heap.size) :
    ∃ A' c' w', (Builtin.append_ #[35, 35] 35 #[v, .slice A zs.length c]).run Try.prog w = .ok (.slice A' us.length c') w' ∧
      w'.ownsRow base 3 1 (.slice A' us.length c') us.length (iv us) ∧ w.grownBy w' v.ownBlock ∧ ((Value.slice A' us.length c').ownBlock = v.ownBlock ∨ (Value.slice A' us.length c').ownBlock = some w.heap.size) := by
  subst hus
  obtain ⟨i0, hi0, hz0, hz1, hz2⟩ := info_parts Try.infoI64
  have hl := iv_length zs
  obtain ⟨A', c', w', hrun, h2, h3, h4⟩ := run_append_rd (P := Try.prog) w base 35 35 3 i0 _ 8 Try.underlying35 hi0 hz0 hz1 hz2 rfl v ys.length (iv ys) hown lo h' A c (iv zs) hr (iv_one _)
    (by rw [hl]; simp only [maxLen]; omega) (by rw [hl]; omega) hbase
  rw [hl] at hrun h2 h4
  rw [List.length_append]
  exact ⟨A', c', w', hrun, by rw [iv_append]; exact h2, h3, h4⟩
theorem append_bytes_at (w : World) (base : Nat) (v : Value) (ys zs us : List UInt8) (hus : ys ++ zs = us) (hown : w.ownsRow base 5 1 v ys.length (bv ys)) {lo h' : Nat} {A : Option Addr} {c : Nat} (hr : Rd w lo h' A c (bv zs))
    (hb : ys.length + zs.length ≤ 140737488355328) (hbase : base ≤ w.heap.size) :
    ∃ A' c' w', (Builtin.append_ #[46, 46] 46 #[v, .slice A zs.length c]).run Try.prog w = .ok (.slice A' us.length c') w' ∧
      w'.ownsRow base 5 1 (.slice A' us.length c') us.length (bv us) ∧ w.grownBy w' v.ownBlock ∧ ((Value.slice A' us.length c').ownBlock = v.ownBlock ∨ (Value.slice A' us.length c').ownBlock = some w.heap.size) := by
  subst hus
  obtain ⟨i0, hi0, hz0, hz1, hz2⟩ := info_parts Try.infoU8
  have hl := bv_length zs
  obtain ⟨A', c', w', hrun, h2, h3, h4⟩ := run_append_rd (P := Try.prog) w base 46 46 5 i0 _ 1 Try.underlying46 hi0 hz0 hz1 hz2 rfl v ys.length (bv ys) hown lo h' A c (bv zs) hr (bv_one _)
    (by rw [hl]; simp only [maxLen]; omega) (by rw [hl]; omega) hbase
  rw [hl] at hrun h2 h4
  rw [List.length_append]
  exact ⟨A', c', w', hrun, by rw [bv_append]; exact h2, h3, h4⟩

/-- numbers u and bytes v of a call's own, in blocks from lo on, below hi, apart -/
structure SB (w : World) (lo hi : Nat) (u v : Value) (ss : List Nat) (bs : List UInt8) : Prop where
  o1 : w.ownsRow lo 3 1 u ss.length (iv (ints ss))
  o2 : w.ownsRow lo 5 1 v bs.length (bv bs)
  h1 : ∀ g, u.ownBlock = some g → g < hi
  h2 : ∀ g, v.ownBlock = some g → g < hi
  ap : ∀ g, u.ownBlock = some g → v.ownBlock = some g → False
section
variable {w w' : World} {lo hi : Nat} {u v : Value} {ss : List Nat} {bs : List UInt8}
theorem SB.nil (w : World) (lo hi : Nat) : SB w lo hi (.slice none 0 0) (.slice none 0 0) [] [] := ⟨World.ownsRow_nil .., World.ownsRow_nil .., fun _ h => (by cases h), fun _ h => (by cases h), fun _ h => (by cases h)⟩
theorem SB.top (h : SB w lo hi u v ss bs) : SB w lo w.heap.size u v ss bs := ⟨h.o1, h.o2, fun g hg => (own_lt h.o1 hg).2, fun g hg => (own_lt h.o2 hg).2, h.ap⟩
theorem SB.drewN (h : SB w lo hi u v ss bs) (m : Nat) : SB (w.drewN m) lo hi u v ss bs := ⟨own_keep h.o1 (fun _ _ => rfl), own_keep h.o2 (fun _ _ => rfl), h.h1, h.h2, h.ap⟩
theorem SB.below {B : Nat} (h : SB w lo hi u v ss bs) (hb : Below B w w') (hB : hi ≤ B) : SB w' lo hi u v ss bs :=
  ⟨own_keep h.o1 (fun k hk => hb.block k (by have := h.h1 k hk; omega)), own_keep h.o2 (fun k hk => hb.block k (by have := h.h2 k hk; omega)), h.h1, h.h2, h.ap⟩
theorem SB.grown {row : Option Nat} (h : SB w lo hi u v ss bs) (hg : w.grownBy w' row) (hr : ∀ g, row = some g → hi ≤ g) : SB w' lo hi u v ss bs :=
  ⟨own_keep h.o1 (fun k hk => hg.block k (own_lt h.o1 hk).2 (fun e => by have := h.h1 k hk; have := hr k e.symm; omega)), own_keep h.o2 (fun k hk => hg.block k (own_lt h.o2 hk).2 (fun e => by have := h.h2 k hk; have := hr k e.symm; omega)), h.h1, h.h2, h.ap⟩
/-- one number more, of nothing yet -/
theorem SB.push {A : Option Addr} {n c : Nat} (h : SB w lo hi (.slice A n c) v ss bs) (hn : n = ss.length) (hl : n ≤ 1000000000) (hlo : lo ≤ w.heap.size) :
    ∃ A' c' w', (Builtin.append_ #[35, 35] 35 #[.slice A n c, .slice (some ⟨w.heap.size, 0, none⟩) 1 1]).run Try.prog (w.alloc (.cells #[.int .i64 0] 3)) = .ok (.slice A' (n + 1) c') w' ∧
      SB w' lo w'.heap.size (.slice A' (n + 1) c') v (ss ++ [0]) bs ∧ Below lo w w' := by
  subst hn
  have hil := ints_length ss
  have h1 : (w.alloc (.cells #[.int .i64 0] 3)).ownsRow lo 3 1 (.slice A ss.length c) (ints ss).length (iv (ints ss)) := by rw [hil]; exact h.o1.alloc _
  obtain ⟨A', c', w', hrun, ho, hg, hb⟩ := append_ints_at (w.alloc (.cells #[.int .i64 0] 3)) lo (.slice A ss.length c) (ints ss) [0] (ints (ss ++ [0])) (by simp [ints]) h1 (rd_ints w 3 [0] #[.int .i64 0] rfl (by simp)) (by rw [hil]; simp; omega) (by simp; omega)
  rw [ints_length, List.length_append] at hrun ho hb
  have hv : v.ownBlock = none ∨ v.ownBlock ≠ (Value.slice A ss.length c).ownBlock := by
    cases hx : v.ownBlock with
    | none => exact Or.inl rfl
    | some g => exact Or.inr fun e => h.ap g e.symm hx
  have ho2 := (h.o2.alloc (.cells #[.int .i64 0] 3)).kept hg hv
  refine ⟨A', c', w', hrun, ⟨by rw [List.length_append]; exact ho, ho2, fun g hg2 => (own_lt ho hg2).2, fun g hg2 => (own_lt ho2 hg2).2, fun g hg2 hg3 => ?_⟩, ((Below.refl lo w).alloc hlo _).grown hg (by simp; omega) (fun g hg2 => (own_lt h.o1 hg2).1)⟩
  rcases hb with e | e
  · exact h.ap g (e.symm.trans hg2) hg3
  · have h3 := (own_lt h.o2 hg3).2
    have h4 : (Value.slice A' (ss.length + 1) c').ownBlock = some g := hg2
    have h5 : some g = some (w.alloc (.cells #[.int .i64 0] 3)).heap.size := h4.symm.trans e
    injection h5 with h5
    simp at h5
    omega
/-- the last number is turned -/
theorem SB.set {g n c : Nat} (h : SB w lo hi (.slice (some ⟨g, 0, none⟩) n c) v ss bs) (hn : n = ss.length) (i x : Nat) : SB (w.setCell ⟨g, i, none⟩ (.int .i64 (x : Int))) lo hi (.slice (some ⟨g, 0, none⟩) n c) v (ss.set i x) bs := by
  subst hn
  refine ⟨?_, ownsRow_setCell_other h.o2 (fun e => h.ap g rfl e) _, h.h1, h.h2, h.ap⟩
  have := (h.o1.stored i (.int .i64 (x : Int))).1
  rw [List.length_set]
  have e : iv (ints (ss.set i x)) = (iv (ints ss)).set i (.int .i64 (x : Int)) := by simp [iv, ints, List.map_set]
  rw [e]
  exact this
/-- more bytes -/
theorem SB.more {A B : Option Addr} {n c k d lo2 hi2 : Nat} {news all : List UInt8} (h : SB w lo hi u (.slice A n c) ss bs) (hn : n = bs.length) (hk : k = news.length) (ha : bs ++ news = all) (hr : Rd w lo2 hi2 B d (bv news)) (hl : n + k ≤ 140737488355328) (hlo : lo ≤ w.heap.size) :
    ∃ A' c' w', (Builtin.append_ #[46, 46] 46 #[.slice A n c, .slice B k d]).run Try.prog w = .ok (.slice A' (n + k) c') w' ∧ SB w' lo w'.heap.size u (.slice A' (n + k) c') ss all ∧ Below lo w w' := by
  subst hn hk
  obtain ⟨A', c', w', hrun, ho, hg, hb⟩ := append_bytes_at w lo (.slice A bs.length c) bs news all ha h.o2 hr hl hlo
  have hal : all.length = bs.length + news.length := by rw [← ha, List.length_append]
  rw [hal] at hrun ho hb
  have hu : u.ownBlock = none ∨ u.ownBlock ≠ (Value.slice A bs.length c).ownBlock := by
    cases hx : u.ownBlock with
    | none => exact Or.inl rfl
    | some g => exact Or.inr fun e => h.ap g hx e.symm
  have ho1 := h.o1.kept hg hu
  refine ⟨A', c', w', hrun, ⟨ho1, by rw [hal]; exact ho, fun g hg2 => (own_lt ho1 hg2).2, fun g hg2 => (own_lt ho hg2).2, fun g hg2 hg3 => ?_⟩, (Below.refl lo w).grown hg hlo (fun g hg2 => (own_lt h.o2 hg2).1)⟩
  rcases hb with e | e
  · exact h.ap g hg2 (e.symm.trans hg3)
  · have h3 := (own_lt h.o1 hg2).2
    have h5 : some g = some w.heap.size := hg3.symm.trans e
    injection h5 with h5
    omega
end
end Go.Proofs.Ytihlbcnoficpgaa
namespace Go.Proofs.Ytihlbcnoficpgaa
set_option linter.unusedSimpArgs false
set_option linter.unusedVariables false
open Go.RowKit

theorem tailD (s : ByteArray) (k : Nat) : (s.extract k s.size).data.toList = s.data.toList.drop k := by
  rw [ByteArray.data_extract, Array.toList_extract]
  rw [List.extract_eq_take_drop, List.take_of_length_le (by rw [List.length_drop, lenD]; omega)]
theorem tailD_size (s : ByteArray) (k : Nat) : (s.extract k s.size).size = s.size - k := by rw [ByteArray.size_extract]; omega
theorem getD_bytL2 {l : List ByteArray} {i : Nat} (h : i < l.length) : (bytL2 l).getD i [] = l[i].data.toList := by
  rw [List.getD_eq_getElem?_getD, List.getElem?_eq_getElem (by rw [bytL2_length]; exact h), bytL2_get l i h]
  rfl
theorem bump_set {ss : List Nat} {m n : Nat} (h : ss.length = m + 1) : bumpL ss n = ss.set m (ss[m]'(by omega) + n) := by
  have h1 : ss.getLastD 0 = ss[m]'(by omega) := by
    rw [List.getLastD_eq_getLast?, List.getLast?_eq_getElem?]
    simp only [h, Nat.add_sub_cancel]
    rw [List.getElem?_eq_getElem (by omega)]
    rfl
  unfold bumpL
  rw [h1, show ss.length - 1 = m by omega]

set_option maxRecDepth 20000 in
set_option maxHeartbeats 4000000 in
theorem refBuild_any {w : World} (l : List ByteArray) (K : Nat) (hR : dicL (bytL2 l) = true) (hK : 1 ≤ K) (hK2 : K ≤ 64) {c : Nat} {A : Option Addr} (h : Rd w 0 w.heap.size A c (sv l)) :
    Calls Try.prog 25 #[.slice A l.length c, .int .i64 (K : Int)] w fun r w' => ∃ A' c', r = .returned (.slice A' (frontL K (bytL2 l)).length c') ∧
      w'.ownsRow w.heap.size 5 1 (.slice A' (frontL K (bytL2 l)).length c') (frontL K (bytL2 l)).length (bv (frontL K (bytL2 l))) ∧ Below w.heap.size w w' := by
  have hl := h.len
  have hm := h.cap
  rw [sv_length] at hl
  unfold maxLen at hm
  obtain ⟨hD1, hD2, _⟩ := dicL_iff.1 hR
  rw [bytL2_length] at hD1
  have H := Lib.hid h
  have H1 : Hid (∀ k (hk : k < l.length), l[k].size ≤ 4096) := fun k hk => by
    have := hD2 _ (List.getElem_mem (l := bytL2 l) (n := k) (by rw [bytL2_length]; exact hk))
    rw [bytL2_get l k hk, lenD] at this
    exact this
  have HEL : Hid (∀ k, (entsL K (bytL2 l) k).length ≤ 4200 * k) := ents_len K hD2
  have HE1 : Hid (∀ k, (entI K (bytL2 l) k).length ≤ 4200) := entI_len K hD2
  have HSL : Hid (∀ k, (sizesN K (bytL2 l) k).length ≤ k) := sizes_len K (bytL2 l)
  have HSP : Hid (∀ k, 0 < k → 0 < (sizesN K (bytL2 l) k).length) := sizes_pos K (bytL2 l)
  have HSX : Hid (∀ k, ∀ x ∈ sizesN K (bytL2 l) k, x ≤ (entsL K (bytL2 l) k).length) := sizes_le K (bytL2 l)
  have HBL := Lib.hid (bytL2_length l)
  obtain ⟨fr, hfr⟩ : ∃ fr, frontL K (bytL2 l) = fr := ⟨_, rfl⟩
  rw [hfr]
  have HFD := Lib.hid hfr
  clear h hR hD2 hfr
  go_enter Try.func25, Try.ntmps25
  go_wp2_with fail
  go_loopw [5, 6, 7] (fun x5 x6 x7 wr => ∃ (i n m : Nat) (As Aa : Option Addr) (cs ca : Nat), i ≤ l.length ∧ x7 = .int .i64 (i : Int) ∧ x5 = .slice As n cs ∧ x6 = .slice Aa m ca ∧ n = (sizesN K (bytL2 l) i).length ∧ m = (entsL K (bytL2 l) i).length ∧
    SB wr w.heap.size wr.heap.size (.slice As n cs) (.slice Aa m ca) (sizesN K (bytL2 l) i) (entsL K (bytL2 l) i) ∧ Below w.heap.size w wr) (fun _ _ x7 _ => l.length - (intOf x7).toNat)
  case atStart => exact ⟨0, 0, 0, none, none, 0, 0, Nat.zero_le _, rfl, rfl, rfl, rfl, rfl, SB.nil _ _ _, Below.refl _ _⟩
  case round =>
    obtain ⟨i, n, m, As, Aa, cs, ca, hi, rfl, rfl, rfl, hn, hm2, hsb, hb⟩ := hrel
    obtain ⟨wy, hwy⟩ : ∃ wy, wy = wr := ⟨_, rfl⟩
    subst hwy
    have HN := Lib.hid hn
    have HM2 := Lib.hid hm2
    have HS := Lib.hid hsb
    have HB := Lib.hid hb
    have hsz := hb.size
    have hnb : n ≤ 4096 := by have := HSL.out i; omega
    have hmb : m ≤ 4200 * 4096 := by have := HEL.out i; omega
    clear hn hm2 hsb hb
    by_cases hlt : i < l.length
    · have ik : (i : Int) < (l.length : Int) := by omega
      obtain ⟨b1, off1, rfl, _, hb1, hcell0⟩ := H.out.str hlt
      have HCELL : Hid (∀ w', Below w.heap.size w w' → w'.cell? ⟨b1, off1 + i, none⟩ = some (.string l[i])) := fun w' hb => (hb.cell hb1).trans hcell0
      clear hcell0
      have hts := H1.out i hlt
      have HGT := Lib.hid (getD_bytL2 hlt)
      have hKi : ¬ (K : Int) = 0 := by omega
      by_cases hmod : i % K = 0
      · have hmi : ((i : Int).tmod (K : Int)) = 0 := by
          have := Int.ofNat_tmod i K
          omega
        have HEI : Hid (entI K (bytL2 l) i = [] ++ textL l[i].data.toList) := by
          unfold Hid entI entL
          rw [if_pos hmod, HGT.out]
          rfl
        have HSI : Hid (sizesN K (bytL2 l) (i + 1) = bumpL (sizesN K (bytL2 l) i ++ [0]) (entI K (bytL2 l) i).length) := by
          unfold Hid
          rw [sizesN, if_pos hmod]
        clear hmod HGT
        obtain ⟨t, ht⟩ : ∃ t, l[i] = t := ⟨_, rfl⟩
        rw [ht] at HCELL HEI hts
        obtain ⟨As2, cs2, w2, hrun2, hsb2, hb2⟩ := HS.out.push HN.out (by omega) hsz
        have HS2 := Lib.hid hsb2
        have HB2 : Hid (Below w.heap.size w w2) := HB.out.trans hb2
        have hlen2 : n + 1 = (sizesN K (bytL2 l) i ++ [0]).length := by rw [List.length_append, HN.out]; rfl
        have hlb2 : ∀ x ∈ sizesN K (bytL2 l) i ++ [0], x ≤ 4200 * 4096 := fun x hx => by
          rcases List.mem_append.1 hx with h | h
          · have := HSX.out i x h; have := HEL.out i; omega
          · rw [List.mem_singleton.1 h]; omega
        have HL2 := Lib.hid hlen2
        have HX2 := Lib.hid hlb2
        clear hsb2 hb2 HS HB HN hlen2 hlb2
        go_wp2_with (at_builtin; refine wpList_append_run rfl _ _ _ _ rfl rfl rfl hrun2 ?_; refine held ?_)
        refine ⟨?_⟩
        clear hrun2
        generalize sizesN K (bytL2 l) i ++ [0] = ss at *
        have hz2 := HB2.out.size
        have hcell := HCELL.out _ HB2.out
        have HO2 : Hid (w2.ownsRow w2.heap.size 5 1 (.slice none 0 0) ([] : List UInt8).length (bv [])) := World.ownsRow_nil _ _ _ _
        have htx := refText_any (w := w2) t (by omega)
        obtain ⟨tx, htxe⟩ : ∃ tx, textL t.data.toList = tx := ⟨_, rfl⟩
        rw [htxe] at htx HEI
        have HTX := Lib.hid htx
        have hel := HE1.out i
        have HES := Lib.hid (ents_succ K (bytL2 l) i)
        generalize entI K (bytL2 l) i = en at *
        clear htx htxe
        have hpl : ([] : List UInt8).length + tx.length ≤ 4200 := by
          have := congrArg List.length HEI.out
          rw [List.length_append] at this
          omega
        go_wp2_with fail
        refine HTX.out.mono ?_
        rintro r w3 ⟨At, ct, rfl, hot, hbt⟩
        obtain ⟨A4, c4, w4, hrun4, ho4, hg4⟩ := append_named w3 w2.heap.size (.slice none 0 0) (([] : List UInt8)) tx en HEI.out.symm (own_below HO2.out hbt (Nat.le_refl _)) (Rd.own hot) (by omega) (by have := hbt.size; omega)
        have hr4 : ∀ q, (.slice none 0 0 : Value).ownBlock = some q → w2.heap.size ≤ q := fun q hq => (own_lt HO2.out hq).1
        have HS4 := Lib.hid ((HS2.out.below hbt (Nat.le_refl _)).grown hg4 hr4)
        have HB4 : Hid (Below w.heap.size w w4) := (below_below HB2.out hbt (by omega)).grown hg4 (by have := hbt.size; omega) (fun q hq => by have := hr4 q hq; omega)
        have HO4 := Lib.hid ho4
        have hz4 := HB4.out.size
        clear hot hbt ho4 hg4 HS2 HB2 hr4
        go_wp2_with (at_builtin; refine wpList_append_run rfl _ _ _ _ rfl rfl rfl hrun4 ?_; refine held ?_)
        refine ⟨?_⟩
        clear hrun4
        have hlq := HL2.out
        obtain ⟨g, rfl, hg1, hg2⟩ := own_spot (by have := HS4.out.o1; rw [← HL2.out] at this; exact this) (Nat.succ_pos _)
        have hqs : n < ss.length := by omega
        have hcl : w4.cell? ⟨g, n, none⟩ = some (.int .i64 (ss[n] : Int)) := by
          have h9 := HS4.out.o1
          rw [← HL2.out] at h9
          rw [h9.cellAt n (by omega)]
          simp [iv, ints, hqs]
        have hfr : w4.frozen? ⟨g, n, none⟩ = false := by
          have h9 := HS4.out.o1
          rw [← HL2.out] at h9
          exact h9.frozenAt n
        have hlast := HX2.out _ (List.getElem_mem hqs)
        have HS5 := Lib.hid (HS4.out.set HL2.out n (ss[n] + en.length))
        have HSI2 : Hid (sizesN K (bytL2 l) (i + 1) = ss.set n (ss[n] + en.length)) := by unfold Hid; rw [HSI.out, bump_set HL2.out.symm]
        have hgz : g < w2.heap.size := HS4.out.h1 g (by rfl)
        have HR5 := Lib.hid ((Rd.own HO4.out).setCell (p := ⟨g, n, none⟩) (Or.inl hgz) (.int .i64 ((ss[n] + en.length : Nat) : Int)))
        have HB5 : Hid (Below w.heap.size w (w4.setCell ⟨g, n, none⟩ (.int .i64 ((ss[n] + en.length : Nat) : Int)))) := HB4.out.setCell hg1 _
        obtain ⟨A6, c6, w6, hrun6, hsb6, hb6⟩ := HS5.out.more HM2.out rfl (all := entsL K (bytL2 l) (i + 1)) HES.out.symm HR5.out (by omega) HB5.out.size
        have hcs : ((ss[n] + en.length : Nat) : Int) = (ss[n] : Int) + (en.length : Int) := by omega
        rw [hcs] at hrun6
        have HS6 := Lib.hid hsb6
        have HB6 : Hid (Below w.heap.size w w6) := HB5.out.trans hb6
        clear hcs hsb6 hb6 HS5 HR5 HB5 HS4 HO4
        generalize ss[n] = la at *
        have i1 : (0 : Int) ≤ (n : Int) := by omega
        have HM6 : Hid (m + en.length = (entsL K (bytL2 l) (i + 1)).length) := by unfold Hid; rw [HES.out, List.length_append, HM2.out]
        have HN6 : Hid (n + 1 = (sizesN K (bytL2 l) (i + 1)).length) := by unfold Hid; rw [HSI2.out, List.length_set]; exact HL2.out
        rw [← HSI2.out] at HS6
        clear HL2 HX2 HES hlq hqs HSI HSI2 HEI
        go_wp2_with (at_builtin; refine wpList_append_run rfl _ _ _ _ rfl rfl rfl hrun6 ?_)
        go_roundw
        case rel => exact ⟨i + 1, n + 1, m + en.length, some ⟨g, 0, none⟩, A6, cs2, c6, by omega, by go_num, rfl, rfl, HN6.out, HM6.out, HS6.out, HB6.out⟩
        case measure => simp [intOf] <;> omega
      · have hi0 : 0 < i := Nat.pos_of_ne_zero fun e => hmod (by rw [e]; exact Nat.zero_mod _)
        obtain ⟨j, hij⟩ : ∃ j, i = j + 1 := ⟨i - 1, by omega⟩
        have hmi0 : ¬ ((i : Int) % (K : Int)) = 0 := by
          intro e
          have := Int.natCast_emod i K
          omega
        have hmi : (((i : Int) % (K : Int)) == 0) = false := by rw [beq_eq_false_iff_ne]; exact hmi0
        have hjl : j < l.length := by omega
        obtain ⟨b2, off2, he, _, _, hcellp⟩ := H.out.str hjl
        injection he with he
        injection he with he1 he2
        subst he1 he2
        have HCELP : Hid (∀ w', Below w.heap.size w w' → w'.cell? ⟨b1, off1 + j, none⟩ = some (.string l[j])) := fun w' hb => (hb.cell hb1).trans hcellp
        clear hcellp
        have hps := H1.out j hjl
        have HSH : Hid (shareN l[j].data.toList l[i].data.toList = shareN ((bytL2 l).getD (i - 1) []) ((bytL2 l).getD i [])) := by
          unfold Hid
          rw [HGT.out, show i - 1 = j by omega, getD_bytL2 hjl]
        have HEJ : Hid (entI K (bytL2 l) i = putL (shareN l[j].data.toList l[i].data.toList) ++ textL (l[i].data.toList.drop (shareN l[j].data.toList l[i].data.toList))) := by
          have h9 := HSH.out
          unfold Hid entI entL
          rw [if_neg hmod, ← h9, HGT.out]
        have HSI : Hid (sizesN K (bytL2 l) (i + 1) = bumpL (sizesN K (bytL2 l) i) (entI K (bytL2 l) i).length) := by
          unfold Hid
          rw [sizesN, if_neg hmod]
        have hnp := HSP.out i hi0
        obtain ⟨q, hq⟩ : ∃ q, n = q + 1 := ⟨n - 1, by have := HN.out; omega⟩
        subst hq
        have HX2 : Hid (∀ x ∈ sizesN K (bytL2 l) i, x ≤ 4200 * 4096) := fun x hx => by have := HSX.out i x hx; have := HEL.out i; omega
        have hij2 : (i : Int) - 1 = (j : Int) := by omega
        have ijl : (j : Int) < (l.length : Int) := by omega
        have ij0 : (0 : Int) ≤ (j : Int) := by omega
        clear hmod HGT HSH hnp hi0 hij
        obtain ⟨t, ht⟩ : ∃ t, l[i] = t := ⟨_, rfl⟩
        obtain ⟨p, hp⟩ : ∃ p, l[j] = p := ⟨_, rfl⟩
        rw [ht] at HCELL HEJ hts
        rw [hp] at HCELP HEJ hps
        clear ht hp
        have HL2 : Hid (q + 1 = (sizesN K (bytL2 l) i).length) := HN.out
        generalize sizesN K (bytL2 l) i = ss at *
        clear HN
        go_wp2_with fail
        go_loopw [9] (fun x9 wr => ∃ (n2 m2 : Nat), x9 = .int .i64 (n2 : Int) ∧ n2 ≤ p.size ∧ n2 ≤ t.size ∧ p.data.toList.take n2 = t.data.toList.take n2 ∧ wr = wy.drewN m2) (fun x9 _ => p.size - (intOf x9).toNat)
        case atStart => exact ⟨0, 0, rfl, Nat.zero_le _, Nat.zero_le _, rfl, rfl⟩
        case round =>
          obtain ⟨n2, m2, rfl, hnp, hnt, htk, rfl⟩ := hrel
          have hcell0 := HCELL.out _ HB.out
          have hcell0' : (wy.drewN m2).cell? ⟨b1, off1 + i, none⟩ = some (.string t) := hcell0
          have hcelp0 := HCELP.out _ HB.out
          have hcelp0' : (wy.drewN m2).cell? ⟨b1, off1 + j, none⟩ = some (.string p) := hcelp0
          have in2 : (0 : Int) ≤ (n2 : Int) := by omega
          have hll : p.data.toList.length = p.size := lenD p
          have hlt2 : t.data.toList.length = t.size := lenD t
          have hcase : (∃ (h1 : n2 < p.size) (h2 : n2 < t.size), p[n2] = t[n2] ∧ Hid (p.data.toList.take (n2 + 1) = t.data.toList.take (n2 + 1))) ∨
              (¬ n2 < p.size ∧ Hid (shareN p.data.toList t.data.toList = n2)) ∨ (n2 < p.size ∧ ¬ n2 < t.size ∧ Hid (shareN p.data.toList t.data.toList = n2)) ∨
              (∃ (h1 : n2 < p.size) (h2 : n2 < t.size), ¬ p[n2] = t[n2] ∧ Hid (shareN p.data.toList t.data.toList = n2)) := by
            by_cases h1 : n2 < p.size
            · by_cases h2 : n2 < t.size
              · by_cases h3 : p[n2] = t[n2]
                · refine Or.inl ⟨h1, h2, h3, ?_⟩
                  unfold Hid
                  rw [List.take_succ_eq_append_getElem (by rw [hll]; exact h1), List.take_succ_eq_append_getElem (by rw [hlt2]; exact h2), htk]
                  congr 2
                · exact Or.inr (Or.inr (Or.inr ⟨h1, h2, h3, share_is (by omega) (by omega) htk (fun _ _ => h3)⟩))
              · exact Or.inr (Or.inr (Or.inl ⟨h1, h2, share_is (by omega) (by omega) htk (fun _ h => absurd h (by omega))⟩))
            · exact Or.inr (Or.inl ⟨h1, share_is (by omega) (by omega) htk (fun h _ => absurd h (by omega))⟩)
          clear htk hll hlt2
          rcases hcase with ⟨h1, h2, h3, HTK⟩ | ⟨h1, HSN⟩ | ⟨h1, h2, HSN⟩ | ⟨h1, h2, h3, HSN⟩
          · have d1 : decide (n2 < p.size) = true := decide_eq_true h1
            have d2 : decide (n2 < t.size) = true := decide_eq_true h2
            have i1 : (n2 : Int) < (p.size : Int) := by omega
            have i2 : (n2 : Int) < (t.size : Int) := by omega
            have e1 : ((p[n2].toNat : Int) == (t[n2].toNat : Int)) = true := by rw [h3]; exact beq_self_eq_true _
            have e2 : (p[n2].toNat == t[n2].toNat) = true := by rw [h3]; exact beq_self_eq_true _
            clear h3
            go_wp2_with fail
            go_quiet (fail)
            go_wp2_with fail
            go_roundw
            case rel => exact ⟨n2 + 1, _, by go_num, by omega, by omega, HTK.out, by first | rfl | (rw [World.drewN_drewN])⟩
            case measure => simp [intOf] <;> omega
          · have d1 : decide (n2 < p.size) = false := decide_eq_false h1
            obtain ⟨pl, hpl⟩ : ∃ pl, putL n2 = pl := ⟨_, rfl⟩
            have HEI : Hid (entI K (bytL2 l) i = pl ++ textL (t.data.toList.drop n2)) := by
              unfold Hid
              rw [HEJ.out, HSN.out, hpl]
            have HPU := Lib.hid (fun w => refPut_any n2 (w := w) (by omega))
            rw [hpl] at HPU
            have int2 : (n2 : Int) ≤ (t.size : Int) := by omega
            clear HEJ HSN hpl
            go_wp2_with fail
            go_quiet (fail)
            go_wp2_with fail
            refine (HPU.out _).mono ?_
            rintro r w2 ⟨Ap, cp, rfl, hop, hbp⟩
            have hbw : Below wy.heap.size wy w2 := by first | exact below_below (below_drewN' (Below.refl _ wy) _) hbp (Nat.le_refl _) | exact below_below (below_drewN' (below_drewN' (Below.refl _ wy) _) _) hbp (Nat.le_refl _)
            have HO2 : Hid (w2.ownsRow wy.heap.size 5 1 (.slice Ap pl.length cp) pl.length (bv pl)) := hop
            have HS2 := Lib.hid (HS.out.below hbw (Nat.le_refl _))
            have HB2 : Hid (Below w.heap.size w w2) := below_below HB.out hbw hsz
            have hz2 := HB2.out.size
            have hwz := hbw.size
            have hcell := HCELL.out _ HB2.out
            clear hop hbp hbw HS HB HPU hcell0 hcell0' hcelp0 hcelp0'
            have htx := refText_any (w := w2) (t.extract n2 t.size) (by rw [tailD_size]; omega)
            rw [tailD] at htx
            obtain ⟨tx, htxe⟩ : ∃ tx, textL (t.data.toList.drop n2) = tx := ⟨_, rfl⟩
            rw [htxe] at htx HEI
            have HTX := Lib.hid htx
            have hel := HE1.out i
            have HES := Lib.hid (ents_succ K (bytL2 l) i)
            generalize entI K (bytL2 l) i = en at *
            clear htx htxe
            have hpl : pl.length + tx.length ≤ 4200 := by
              have := congrArg List.length HEI.out
              rw [List.length_append] at this
              omega
            go_wp2_with fail
            refine HTX.out.mono ?_
            rintro r w3 ⟨At, ct, rfl, hot, hbt⟩
            obtain ⟨A4, c4, w4, hrun4, ho4, hg4⟩ := append_named w3 wy.heap.size (.slice Ap pl.length cp) (pl) tx en HEI.out.symm (own_below HO2.out hbt (Nat.le_refl _)) (Rd.own hot) (by omega) (by have := hbt.size; omega)
            have hr4 : ∀ q, (.slice Ap pl.length cp : Value).ownBlock = some q → wy.heap.size ≤ q := fun q hq => (own_lt HO2.out hq).1
            have HS4 := Lib.hid ((HS2.out.below hbt hwz).grown hg4 hr4)
            have HB4 : Hid (Below w.heap.size w w4) := (below_below HB2.out hbt (by omega)).grown hg4 (by have := hbt.size; omega) (fun q hq => by have := hr4 q hq; omega)
            have HO4 := Lib.hid ho4
            have hz4 := HB4.out.size
            clear hot hbt ho4 hg4 HS2 HB2 hr4
            go_wp2_with (at_builtin; refine wpList_append_run rfl _ _ _ _ rfl rfl rfl hrun4 ?_; refine held ?_)
            refine ⟨?_⟩
            clear hrun4
            have hlq := HL2.out
            obtain ⟨g, rfl, hg1, hg2⟩ := own_spot (by have := HS4.out.o1; rw [← HL2.out] at this; exact this) (Nat.succ_pos _)
            have hqs : q < ss.length := by omega
            have hcl : w4.cell? ⟨g, q, none⟩ = some (.int .i64 (ss[q] : Int)) := by
              have h9 := HS4.out.o1
              rw [← HL2.out] at h9
              rw [h9.cellAt q (by omega)]
              simp [iv, ints, hqs]
            have hfr : w4.frozen? ⟨g, q, none⟩ = false := by
              have h9 := HS4.out.o1
              rw [← HL2.out] at h9
              exact h9.frozenAt q
            have hlast := HX2.out _ (List.getElem_mem hqs)
            have HS5 := Lib.hid (HS4.out.set HL2.out q (ss[q] + en.length))
            have HSI2 : Hid (sizesN K (bytL2 l) (i + 1) = ss.set q (ss[q] + en.length)) := by unfold Hid; rw [HSI.out, bump_set HL2.out.symm]
            have hgz : g < wy.heap.size := HS4.out.h1 g (by rfl)
            have HR5 := Lib.hid ((Rd.own HO4.out).setCell (p := ⟨g, q, none⟩) (Or.inl hgz) (.int .i64 ((ss[q] + en.length : Nat) : Int)))
            have HB5 : Hid (Below w.heap.size w (w4.setCell ⟨g, q, none⟩ (.int .i64 ((ss[q] + en.length : Nat) : Int)))) := HB4.out.setCell hg1 _
            obtain ⟨A6, c6, w6, hrun6, hsb6, hb6⟩ := HS5.out.more HM2.out rfl (all := entsL K (bytL2 l) (i + 1)) HES.out.symm HR5.out (by omega) HB5.out.size
            have hcs : ((ss[q] + en.length : Nat) : Int) = (ss[q] : Int) + (en.length : Int) := by omega
            rw [hcs] at hrun6
            have HS6 := Lib.hid hsb6
            have HB6 : Hid (Below w.heap.size w w6) := HB5.out.trans hb6
            clear hcs hsb6 hb6 HS5 HR5 HB5 HS4 HO4
            generalize ss[q] = la at *
            have i1 : (0 : Int) ≤ (q : Int) := by omega
            have HM6 : Hid (m + en.length = (entsL K (bytL2 l) (i + 1)).length) := by unfold Hid; rw [HES.out, List.length_append, HM2.out]
            have HN6 : Hid (q + 1 = (sizesN K (bytL2 l) (i + 1)).length) := by unfold Hid; rw [HSI2.out, List.length_set]; exact HL2.out
            rw [← HSI2.out] at HS6
            clear HL2 HX2 HES hlq hqs HSI HSI2 HEI
            go_wp2_with (at_builtin; refine wpList_append_run rfl _ _ _ _ rfl rfl rfl hrun6 ?_)
            go_roundw
            case rel => exact ⟨i + 1, q + 1, m + en.length, some ⟨g, 0, none⟩, A6, cs, c6, by omega, by go_num, rfl, rfl, HN6.out, HM6.out, HS6.out, HB6.out⟩
            case measure => simp [intOf] <;> omega
          · have d1 : decide (n2 < p.size) = true := decide_eq_true h1
            have d2 : decide (n2 < t.size) = false := decide_eq_false h2
            obtain ⟨pl, hpl⟩ : ∃ pl, putL n2 = pl := ⟨_, rfl⟩
            have HEI : Hid (entI K (bytL2 l) i = pl ++ textL (t.data.toList.drop n2)) := by
              unfold Hid
              rw [HEJ.out, HSN.out, hpl]
            have HPU := Lib.hid (fun w => refPut_any n2 (w := w) (by omega))
            rw [hpl] at HPU
            have int2 : (n2 : Int) ≤ (t.size : Int) := by omega
            clear HEJ HSN hpl
            go_wp2_with fail
            go_quiet (fail)
            go_wp2_with fail
            refine (HPU.out _).mono ?_
            rintro r w2 ⟨Ap, cp, rfl, hop, hbp⟩
            have hbw : Below wy.heap.size wy w2 := by first | exact below_below (below_drewN' (Below.refl _ wy) _) hbp (Nat.le_refl _) | exact below_below (below_drewN' (below_drewN' (Below.refl _ wy) _) _) hbp (Nat.le_refl _)
            have HO2 : Hid (w2.ownsRow wy.heap.size 5 1 (.slice Ap pl.length cp) pl.length (bv pl)) := hop
            have HS2 := Lib.hid (HS.out.below hbw (Nat.le_refl _))
            have HB2 : Hid (Below w.heap.size w w2) := below_below HB.out hbw hsz
            have hz2 := HB2.out.size
            have hwz := hbw.size
            have hcell := HCELL.out _ HB2.out
            clear hop hbp hbw HS HB HPU hcell0 hcell0' hcelp0 hcelp0'
            have htx := refText_any (w := w2) (t.extract n2 t.size) (by rw [tailD_size]; omega)
            rw [tailD] at htx
            obtain ⟨tx, htxe⟩ : ∃ tx, textL (t.data.toList.drop n2) = tx := ⟨_, rfl⟩
            rw [htxe] at htx HEI
            have HTX := Lib.hid htx
            have hel := HE1.out i
            have HES := Lib.hid (ents_succ K (bytL2 l) i)
            generalize entI K (bytL2 l) i = en at *
            clear htx htxe
            have hpl : pl.length + tx.length ≤ 4200 := by
              have := congrArg List.length HEI.out
              rw [List.length_append] at this
              omega
            go_wp2_with fail
            refine HTX.out.mono ?_
            rintro r w3 ⟨At, ct, rfl, hot, hbt⟩
            obtain ⟨A4, c4, w4, hrun4, ho4, hg4⟩ := append_named w3 wy.heap.size (.slice Ap pl.length cp) (pl) tx en HEI.out.symm (own_below HO2.out hbt (Nat.le_refl _)) (Rd.own hot) (by omega) (by have := hbt.size; omega)
            have hr4 : ∀ q, (.slice Ap pl.length cp : Value).ownBlock = some q → wy.heap.size ≤ q := fun q hq => (own_lt HO2.out hq).1
            have HS4 := Lib.hid ((HS2.out.below hbt hwz).grown hg4 hr4)
            have HB4 : Hid (Below w.heap.size w w4) := (below_below HB2.out hbt (by omega)).grown hg4 (by have := hbt.size; omega) (fun q hq => by have := hr4 q hq; omega)
            have HO4 := Lib.hid ho4
            have hz4 := HB4.out.size
            clear hot hbt ho4 hg4 HS2 HB2 hr4
            go_wp2_with (at_builtin; refine wpList_append_run rfl _ _ _ _ rfl rfl rfl hrun4 ?_; refine held ?_)
            refine ⟨?_⟩
            clear hrun4
            have hlq := HL2.out
            obtain ⟨g, rfl, hg1, hg2⟩ := own_spot (by have := HS4.out.o1; rw [← HL2.out] at this; exact this) (Nat.succ_pos _)
            have hqs : q < ss.length := by omega
            have hcl : w4.cell? ⟨g, q, none⟩ = some (.int .i64 (ss[q] : Int)) := by
              have h9 := HS4.out.o1
              rw [← HL2.out] at h9
              rw [h9.cellAt q (by omega)]
              simp [iv, ints, hqs]
            have hfr : w4.frozen? ⟨g, q, none⟩ = false := by
              have h9 := HS4.out.o1
              rw [← HL2.out] at h9
              exact h9.frozenAt q
            have hlast := HX2.out _ (List.getElem_mem hqs)
            have HS5 := Lib.hid (HS4.out.set HL2.out q (ss[q] + en.length))
            have HSI2 : Hid (sizesN K (bytL2 l) (i + 1) = ss.set q (ss[q] + en.length)) := by unfold Hid; rw [HSI.out, bump_set HL2.out.symm]
            have hgz : g < wy.heap.size := HS4.out.h1 g (by rfl)
            have HR5 := Lib.hid ((Rd.own HO4.out).setCell (p := ⟨g, q, none⟩) (Or.inl hgz) (.int .i64 ((ss[q] + en.length : Nat) : Int)))
            have HB5 : Hid (Below w.heap.size w (w4.setCell ⟨g, q, none⟩ (.int .i64 ((ss[q] + en.length : Nat) : Int)))) := HB4.out.setCell hg1 _
            obtain ⟨A6, c6, w6, hrun6, hsb6, hb6⟩ := HS5.out.more HM2.out rfl (all := entsL K (bytL2 l) (i + 1)) HES.out.symm HR5.out (by omega) HB5.out.size
            have hcs : ((ss[q] + en.length : Nat) : Int) = (ss[q] : Int) + (en.length : Int) := by omega
            rw [hcs] at hrun6
            have HS6 := Lib.hid hsb6
            have HB6 : Hid (Below w.heap.size w w6) := HB5.out.trans hb6
            clear hcs hsb6 hb6 HS5 HR5 HB5 HS4 HO4
            generalize ss[q] = la at *
            have i1 : (0 : Int) ≤ (q : Int) := by omega
            have HM6 : Hid (m + en.length = (entsL K (bytL2 l) (i + 1)).length) := by unfold Hid; rw [HES.out, List.length_append, HM2.out]
            have HN6 : Hid (q + 1 = (sizesN K (bytL2 l) (i + 1)).length) := by unfold Hid; rw [HSI2.out, List.length_set]; exact HL2.out
            rw [← HSI2.out] at HS6
            clear HL2 HX2 HES hlq hqs HSI HSI2 HEI
            go_wp2_with (at_builtin; refine wpList_append_run rfl _ _ _ _ rfl rfl rfl hrun6 ?_)
            go_roundw
            case rel => exact ⟨i + 1, q + 1, m + en.length, some ⟨g, 0, none⟩, A6, cs, c6, by omega, by go_num, rfl, rfl, HN6.out, HM6.out, HS6.out, HB6.out⟩
            case measure => simp [intOf] <;> omega
          · have d1 : decide (n2 < p.size) = true := decide_eq_true h1
            have d2 : decide (n2 < t.size) = true := decide_eq_true h2
            have i1 : (n2 : Int) < (p.size : Int) := by omega
            have i2 : (n2 : Int) < (t.size : Int) := by omega
            have e2 : (p[n2].toNat == t[n2].toNat) = false := by rw [beq_eq_false_iff_ne]; exact fun e => h3 (UInt8.toNat_inj.1 e)
            have e1 : ((p[n2].toNat : Int) == (t[n2].toNat : Int)) = false := by rw [beq_eq_false_iff_ne]; exact fun e => h3 (UInt8.toNat_inj.1 (by omega))
            clear h3
            obtain ⟨pl, hpl⟩ : ∃ pl, putL n2 = pl := ⟨_, rfl⟩
            have HEI : Hid (entI K (bytL2 l) i = pl ++ textL (t.data.toList.drop n2)) := by
              unfold Hid
              rw [HEJ.out, HSN.out, hpl]
            have HPU := Lib.hid (fun w => refPut_any n2 (w := w) (by omega))
            rw [hpl] at HPU
            have int2 : (n2 : Int) ≤ (t.size : Int) := by omega
            clear HEJ HSN hpl
            go_wp2_with fail
            go_quiet (fail)
            go_wp2_with fail
            refine (HPU.out _).mono ?_
            rintro r w2 ⟨Ap, cp, rfl, hop, hbp⟩
            have hbw : Below wy.heap.size wy w2 := by first | exact below_below (below_drewN' (Below.refl _ wy) _) hbp (Nat.le_refl _) | exact below_below (below_drewN' (below_drewN' (Below.refl _ wy) _) _) hbp (Nat.le_refl _)
            have HO2 : Hid (w2.ownsRow wy.heap.size 5 1 (.slice Ap pl.length cp) pl.length (bv pl)) := hop
            have HS2 := Lib.hid (HS.out.below hbw (Nat.le_refl _))
            have HB2 : Hid (Below w.heap.size w w2) := below_below HB.out hbw hsz
            have hz2 := HB2.out.size
            have hwz := hbw.size
            have hcell := HCELL.out _ HB2.out
            clear hop hbp hbw HS HB HPU hcell0 hcell0' hcelp0 hcelp0'
            have htx := refText_any (w := w2) (t.extract n2 t.size) (by rw [tailD_size]; omega)
            rw [tailD] at htx
            obtain ⟨tx, htxe⟩ : ∃ tx, textL (t.data.toList.drop n2) = tx := ⟨_, rfl⟩
            rw [htxe] at htx HEI
            have HTX := Lib.hid htx
            have hel := HE1.out i
            have HES := Lib.hid (ents_succ K (bytL2 l) i)
            generalize entI K (bytL2 l) i = en at *
            clear htx htxe
            have hpl : pl.length + tx.length ≤ 4200 := by
              have := congrArg List.length HEI.out
              rw [List.length_append] at this
              omega
            go_wp2_with fail
            refine HTX.out.mono ?_
            rintro r w3 ⟨At, ct, rfl, hot, hbt⟩
            obtain ⟨A4, c4, w4, hrun4, ho4, hg4⟩ := append_named w3 wy.heap.size (.slice Ap pl.length cp) (pl) tx en HEI.out.symm (own_below HO2.out hbt (Nat.le_refl _)) (Rd.own hot) (by omega) (by have := hbt.size; omega)
            have hr4 : ∀ q, (.slice Ap pl.length cp : Value).ownBlock = some q → wy.heap.size ≤ q := fun q hq => (own_lt HO2.out hq).1
            have HS4 := Lib.hid ((HS2.out.below hbt hwz).grown hg4 hr4)
            have HB4 : Hid (Below w.heap.size w w4) := (below_below HB2.out hbt (by omega)).grown hg4 (by have := hbt.size; omega) (fun q hq => by have := hr4 q hq; omega)
            have HO4 := Lib.hid ho4
            have hz4 := HB4.out.size
            clear hot hbt ho4 hg4 HS2 HB2 hr4
            go_wp2_with (at_builtin; refine wpList_append_run rfl _ _ _ _ rfl rfl rfl hrun4 ?_; refine held ?_)
            refine ⟨?_⟩
            clear hrun4
            have hlq := HL2.out
            obtain ⟨g, rfl, hg1, hg2⟩ := own_spot (by have := HS4.out.o1; rw [← HL2.out] at this; exact this) (Nat.succ_pos _)
            have hqs : q < ss.length := by omega
            have hcl : w4.cell? ⟨g, q, none⟩ = some (.int .i64 (ss[q] : Int)) := by
              have h9 := HS4.out.o1
              rw [← HL2.out] at h9
              rw [h9.cellAt q (by omega)]
              simp [iv, ints, hqs]
            have hfr : w4.frozen? ⟨g, q, none⟩ = false := by
              have h9 := HS4.out.o1
              rw [← HL2.out] at h9
              exact h9.frozenAt q
            have hlast := HX2.out _ (List.getElem_mem hqs)
            have HS5 := Lib.hid (HS4.out.set HL2.out q (ss[q] + en.length))
            have HSI2 : Hid (sizesN K (bytL2 l) (i + 1) = ss.set q (ss[q] + en.length)) := by unfold Hid; rw [HSI.out, bump_set HL2.out.symm]
            have hgz : g < wy.heap.size := HS4.out.h1 g (by rfl)
            have HR5 := Lib.hid ((Rd.own HO4.out).setCell (p := ⟨g, q, none⟩) (Or.inl hgz) (.int .i64 ((ss[q] + en.length : Nat) : Int)))
            have HB5 : Hid (Below w.heap.size w (w4.setCell ⟨g, q, none⟩ (.int .i64 ((ss[q] + en.length : Nat) : Int)))) := HB4.out.setCell hg1 _
            obtain ⟨A6, c6, w6, hrun6, hsb6, hb6⟩ := HS5.out.more HM2.out rfl (all := entsL K (bytL2 l) (i + 1)) HES.out.symm HR5.out (by omega) HB5.out.size
            have hcs : ((ss[q] + en.length : Nat) : Int) = (ss[q] : Int) + (en.length : Int) := by omega
            rw [hcs] at hrun6
            have HS6 := Lib.hid hsb6
            have HB6 : Hid (Below w.heap.size w w6) := HB5.out.trans hb6
            clear hcs hsb6 hb6 HS5 HR5 HB5 HS4 HO4
            generalize ss[q] = la at *
            have i1 : (0 : Int) ≤ (q : Int) := by omega
            have HM6 : Hid (m + en.length = (entsL K (bytL2 l) (i + 1)).length) := by unfold Hid; rw [HES.out, List.length_append, HM2.out]
            have HN6 : Hid (q + 1 = (sizesN K (bytL2 l) (i + 1)).length) := by unfold Hid; rw [HSI2.out, List.length_set]; exact HL2.out
            rw [← HSI2.out] at HS6
            clear HL2 HX2 HES hlq hqs HSI HSI2 HEI
            go_wp2_with (at_builtin; refine wpList_append_run rfl _ _ _ _ rfl rfl rfl hrun6 ?_)
            go_roundw
            case rel => exact ⟨i + 1, q + 1, m + en.length, some ⟨g, 0, none⟩, A6, cs, c6, by omega, by go_num, rfl, rfl, HN6.out, HM6.out, HS6.out, HB6.out⟩
            case measure => simp [intOf] <;> omega
    · have ik : ¬ (i : Int) < (l.length : Int) := by omega
      have hil : i = l.length := by omega
      have hss : Rd wy 0 wy.heap.size As cs (iv (ints (sizesN K (bytL2 l) i))) := by
        have h9 := HS.out.o1
        rw [← HN.out] at h9
        exact (Rd.own h9).wide (Nat.zero_le _) (Nat.le_refl _)
      have hal : Rd wy 0 wy.heap.size Aa ca (bv (entsL K (bytL2 l) i)) := by
        have h9 := HS.out.o2
        rw [← HM2.out] at h9
        exact (Rd.own h9).wide (Nat.zero_le _) (Nat.le_refl _)
      have hmay : May (ints (sizesN K (bytL2 l) i)) := fun z hz => by
        obtain ⟨x, hx, rfl⟩ := List.mem_map.1 hz
        have := HSX.out i x hx
        have := HEL.out i
        omega
      have HFR : Hid (fr = putL l.length ++ putL K ++ writeL (ints (sizesN K (bytL2 l) i)) ++ entsL K (bytL2 l) i) := by
        unfold Hid
        rw [← HFD.out, frontL, HBL.out, hil]
      have hp1 := putL_nine l.length (by omega)
      have hp2 := putL_nine K (by omega)
      have hil2 := ints_length (sizesN K (bytL2 l) i)
      have hsl2 := HSL.out i
      have hwl := writeL_length hmay (by omega)
      have hnl : n = (ints (sizesN K (bytL2 l) i)).length := by rw [hil2]; exact HN.out
      have HWR := Lib.hid (fun w' (h' : Below wy.heap.size wy w') => rwrite_any (w := w') (ints (sizesN K (bytL2 l) i)) hmay (hss.below h' (Nat.le_refl _)) h'.size (by omega))
      rw [← hnl] at HWR
      have HAL := Lib.hid hal
      have HPL := Lib.hid (fun w => refPut_any l.length (w := w) (by omega))
      have HPK := Lib.hid (fun w => refPut_any K (w := w) (by omega))
      generalize writeL (ints (sizesN K (bytL2 l) i)) = wl at *
      generalize entsL K (bytL2 l) i = al at *
      generalize putL l.length = p1 at *
      generalize putL K = p2 at *
      obtain ⟨pa, hpa⟩ : ∃ pa, p1 ++ p2 = pa := ⟨_, rfl⟩
      obtain ⟨pb, hpb⟩ : ∃ pb, pa ++ wl = pb := ⟨_, rfl⟩
      rw [hpa, hpb] at HFR
      have hpal : pa.length ≤ 18 := by rw [← hpa, List.length_append]; omega
      have hpbl : pb.length ≤ 18 + wl.length := by rw [← hpb, List.length_append]; omega
      have HPA := Lib.hid hpa
      have HPB := Lib.hid hpb
      clear hpa hpb
      clear hss hal hmay HS HN hil hnl hil2 hsl2
      go_wp2_with fail
      refine (HPL.out _).mono ?_
      rintro r w1 ⟨A1, c1, rfl, ho1, hb1⟩
      have HO1 := Lib.hid ho1
      have HB1 := Lib.hid hb1
      have hz1 := hb1.size
      clear ho1 hb1
      go_wp2_with fail
      refine (HPK.out _).mono ?_
      rintro r w2 ⟨A2, c2, rfl, ho2, hb2⟩
      obtain ⟨A3, c3, w3, hrun3, ho3, hg3⟩ := append_named w2 wy.heap.size (.slice A1 p1.length c1) p1 p2 pa HPA.out (own_below HO1.out hb2 (Nat.le_refl _)) (Rd.own ho2) (by omega) (by have := hb2.size; omega)
      have hb3 : Below wy.heap.size wy w3 := (HB1.out.trans (hb2.mono hz1)).grown hg3 (by have := hb2.size; omega) (fun q hq => (own_lt HO1.out hq).1)
      have HO3 := Lib.hid ho3
      have HB3 := Lib.hid hb3
      have hz3 := hb3.size
      clear ho2 hb2 ho3 hg3 hb3
      go_wp2_with (at_builtin; refine wpList_append_run rfl _ _ _ _ rfl rfl rfl hrun3 ?_; refine held ?_)
      refine ⟨?_⟩
      clear hrun3
      go_wp2_with fail
      refine (HWR.out _ HB3.out).mono ?_
      rintro r w4 ⟨A4, c4, rfl, ho4, hb4⟩
      obtain ⟨A5, c5, w5, hrun5, ho5, hg5⟩ := append_named w4 wy.heap.size (.slice A3 pa.length c3) pa wl pb HPB.out (own_below HO3.out hb4 (Nat.le_refl _)) (Rd.own ho4) (by omega) (by have := hb4.size; omega)
      have hb5 : Below wy.heap.size wy w5 := (HB3.out.trans (hb4.mono hz3)).grown hg5 (by have := hb4.size; omega) (fun q hq => (own_lt HO3.out hq).1)
      have HO5 := Lib.hid ho5
      have HB5 := Lib.hid hb5
      have hz5 := hb5.size
      clear ho4 hb4 ho5 hg5 hb5
      go_wp2_with (at_builtin; refine wpList_append_run rfl _ _ _ _ rfl rfl rfl hrun5 ?_; refine held ?_)
      refine ⟨?_⟩
      clear hrun5
      have har := HAL.out.below HB5.out (Nat.le_refl _)
      obtain ⟨A6, c6, w6, hrun6, ho6, hg6⟩ := append_named w5 wy.heap.size (.slice A5 pb.length c5) pb al fr HFR.out.symm HO5.out har (by have := HM2.out; omega) hz5
      rw [← HM2.out] at hrun6
      have hb6 : Below w.heap.size w w6 := HB.out.trans ((HB5.out.grown hg6 hz5 (fun q hq => (own_lt HO5.out hq).1)).mono hsz)
      have HO6 := Lib.hid (own_base ho6 hsz)
      have HB6 := Lib.hid hb6
      clear ho6 hg6 hb6 har
      go_wp2_with (at_builtin; refine wpList_append_run rfl _ _ _ _ rfl rfl rfl hrun6 ?_; refine held ?_)
      refine ⟨?_⟩
      clear hrun6
      go_wp2_with fail
      go_ret
      exact ⟨A6, c6, rfl, HO6.out, HB6.out⟩
end Go.Proofs.Ytihlbcnoficpgaa
namespace Go.Proofs.Ytihlbcnoficpgaa
set_option linter.unusedSimpArgs false
set_option linter.unusedVariables false
open Go.RowKit

/-- these strings in order, each once -/
def SortOf (l t : List (List UInt8)) : Prop := risesL t = true ∧ ∀ x, x ∈ t ↔ x ∈ l
theorem SortOf.one {l t u : List (List UInt8)} (h : SortOf l t) (k : SortOf l u) : t = u :=
  (rises_sub h.1 k.1 fun x hx => (k.2 x).2 ((h.2 x).1 hx)).eq_of_length_le (rises_sub k.1 h.1 fun x hx => (h.2 x).2 ((k.2 x).1 hx)).length_le
theorem rises_cons' {a : List UInt8} {t : List (List UInt8)} (h : ∀ b u, t = b :: u → cmpL a b < 0) (ht : risesL t = true) : risesL (a :: t) = true := by
  cases t with
  | nil => rfl
  | cons b u => exact rises_cons.2 ⟨h b u rfl, ht⟩
theorem rises_put (s : List UInt8) : ∀ (t : List (List UInt8)) (k : Nat), risesL t = true → (∀ j (hj : j < t.length), j < k → cmpL t[j] s < 0) → (∀ (hk : k < t.length), cmpL s t[k] < 0) → risesL (t.take k ++ s :: t.drop k) = true
  | t, 0, h, _, h2 => by
    rw [List.take_zero, List.nil_append, List.drop_zero]
    refine rises_cons' (fun b u e => ?_) h
    subst e
    exact h2 (by simp)
  | [], k + 1, _, _, _ => by simp [risesL]
  | a :: t, k + 1, h, h1, h2 => by
    rw [List.take_succ_cons, List.drop_succ_cons, List.cons_append]
    refine rises_cons' (fun b u e => ?_) (rises_put s t k (rises_tail h) (fun j hj hjk => h1 (j + 1) (by simpa using hj) (by omega)) (fun hk => h2 (by simpa using hk)))
    cases k with
    | zero =>
      rw [List.take_zero, List.nil_append] at e
      injection e with e1 e2
      subst e1
      exact h1 0 (by simp) (by omega)
    | succ k =>
      cases t with
      | nil =>
        simp at e
        obtain ⟨e1, _⟩ := e
        subst e1
        exact h1 0 (by simp) (by omega)
      | cons c t =>
        rw [List.take_succ_cons, List.cons_append] at e
        injection e with e1 e2
        subst e1
        exact (rises_cons.1 h).1
theorem bytL2_take (l : List ByteArray) (k : Nat) : bytL2 (l.take k) = (bytL2 l).take k := by simp [bytL2, List.map_take]
theorem bytL2_drop (l : List ByteArray) (k : Nat) : bytL2 (l.drop k) = (bytL2 l).drop k := by simp [bytL2, List.map_drop]
theorem bytL2_app (a b : List ByteArray) : bytL2 (a ++ b) = bytL2 a ++ bytL2 b := by simp [bytL2]
theorem str_inj {a b : ByteArray} (h : a.data.toList = b.data.toList) : a = b := by rw [← str_eta a, ← str_eta b, h]
theorem sv_take' (l : List ByteArray) (k : Nat) : sv (l.take k) = (sv l).take k := by simp [sv, List.map_take]
theorem sv_drop' (l : List ByteArray) (k : Nat) : sv (l.drop k) = (sv l).drop k := by simp [sv, List.map_drop]

theorem sort_put {L : List (List UInt8)} {t tm tn : List ByteArray} {s : ByteArray} {k : Nat} (h : SortOf L (bytL2 t)) (h1 : ∀ j (hj : j < t.length), j < k → cmpL t[j].data.toList s.data.toList < 0) (h2 : ∀ hk : k < t.length, cmpL s.data.toList t[k].data.toList < 0)
    (htm : t.take k ++ [s] = tm) (htn : tm ++ t.drop k = tn) : SortOf (L ++ [s.data.toList]) (bytL2 tn) := by
  subst htm htn
  have e : bytL2 (t.take k ++ [s] ++ t.drop k) = (bytL2 t).take k ++ s.data.toList :: (bytL2 t).drop k := by
    rw [bytL2_app, bytL2_app, bytL2_take, bytL2_drop, List.append_assoc]
    rfl
  rw [e]
  refine ⟨rises_put _ _ _ h.1 (fun j hj hjk => ?_) (fun hk => ?_), fun x => ?_⟩
  · rw [bytL2_length] at hj
    rw [bytL2_get t j hj]
    exact h1 j hj hjk
  · rw [bytL2_length] at hk
    rw [bytL2_get t k hk]
    exact h2 hk
  · rw [List.mem_append, List.mem_cons, List.mem_append, List.mem_singleton, ← h.2 x]
    conv => rhs; rw [← List.take_append_drop k (bytL2 t), List.mem_append]
    constructor
    · rintro (h | h | h)
      · exact Or.inl (Or.inl h)
      · exact Or.inr h
      · exact Or.inl (Or.inr h)
    · rintro ((h | h) | h)
      · exact Or.inl h
      · exact Or.inr (Or.inr h)
      · exact Or.inr (Or.inl h)
theorem sort_same {L : List (List UInt8)} {t : List ByteArray} {s : ByteArray} {k : Nat} (h : SortOf L (bytL2 t)) (hk : k < t.length) (he : t[k] = s) : SortOf (L ++ [s.data.toList]) (bytL2 t) := by
  refine ⟨h.1, fun x => ?_⟩
  rw [List.mem_append, List.mem_singleton, ← h.2 x]
  refine ⟨Or.inl, fun hx => hx.elim id fun e => ?_⟩
  subst e
  rw [← he, ← bytL2_get t k hk]
  exact List.getElem_mem _

/-- append of strings, as one step of a region that draws its order -/
theorem step_append_strs {ops : Array Oper} {o : Oper} {a : Act} {w : World} {K : Act → World → Prop} {Q : Exit → Act → World → Prop} {F : Prop} {v : Value} (base : Nat) (ys zs us : List ByteArray) (hus : ys ++ zs = us) (n m p : Nat) (hn : ys.length = n) (hm : zs.length = m) (hp : us.length = p) (hgd : o.guard = none) (s x : Operand)
    (ho : o.op = .call { callee := .builtin .append, args := #[s, x], argTypes := #[22, 22] }) (hty : o.type = 22)
    (hs : a.eval s = v) {A : Option Addr} {c : Nat} (hx : a.eval x = .slice A m c)
    (hown : w.ownsRow base 9 1 v n (sv ys)) {lo h' : Nat} (hr : Rd w lo h' A c (sv zs)) (hb : n + m ≤ 1000000000) (hbase : base ≤ w.heap.size)
    (h : ∀ A' c' w', w'.ownsRow base 9 1 (.slice A' p c') p (sv us) → w.grownBy w' v.ownBlock → K (a.put o.dst (.slice A' p c')) w') :
    if Region.wanted o (yielded ops a.tmps) = true then Oper.wp Try.prog o a w K Q else F := by
  subst hn hm hp
  have hw : Region.wanted o (yielded ops a.tmps) = true := by simp [Region.wanted, hgd]
  rw [if_pos hw]
  obtain ⟨A', c', w', hrun, h2, h3⟩ := append_strs w base v ys zs us hus hown hr hb hbase
  unfold Oper.wp execOp
  simp only [ho, hty, resolve, invoke, builtin, Sem.run_bind, Sem.run_pure, Result.andThen_ok, List.map_toArray, List.map_cons, List.map_nil, hs, hx, hrun]
  exact h A' c' w' h2 h3
/-- one string that a block holds -/
theorem rd_one {w : World} {g : Nat} {s : ByteArray} (h : w.cell? ⟨g, 0, none⟩ = some (.string s)) : Rd w 0 w.heap.size (some ⟨g, 0, none⟩) 1 (sv [s]) := ⟨by simp [sv], by simp [maxLen], fun _ => ⟨g, 0, rfl, Nat.zero_le _, World.block_lt_of_cell? w _ h, fun j u hu => by
    match j, hu with
    | 0, hu =>
      simp [sv] at hu
      subst hu
      exact h
    | j + 1, hu => simp [sv] at hu⟩⟩
set_option maxRecDepth 20000 in
set_option maxHeartbeats 4000000 in
theorem refSorted_any {w : World} (l : List ByteArray) {c : Nat} {A : Option Addr} (h : Rd w 0 w.heap.size A c (sv l)) (hsz : ∀ s ∈ l, s.size ≤ 100000) (hlen : l.length ≤ 1000) :
    Calls Try.prog 19 #[.slice A l.length c] w fun r w' => ∃ (t : List ByteArray) (A' : Option Addr) (c' : Nat), r = .returned (.slice A' t.length c') ∧ SortOf (bytL2 l) (bytL2 t) ∧ t.length ≤ l.length ∧
      w'.ownsRow w.heap.size 9 1 (.slice A' t.length c') t.length (sv t) ∧ Below w.heap.size w w' := by
  have hl := h.len
  have hm := h.cap
  rw [sv_length] at hl
  unfold maxLen at hm
  have H := Lib.hid h
  have H1 : Hid (∀ k (hk : k < l.length), l[k].size ≤ 100000) := fun k hk => hsz _ (List.getElem_mem hk)
  clear h hsz
  go_enter Try.func19, Try.ntmps19
  go_wp2_with fail
  go_loopw [3, 4] (fun x3 x4 wr => ∃ (i : Nat) (t : List ByteArray) (A' : Option Addr) (c' : Nat), i ≤ l.length ∧ x4 = .int .i64 (i : Int) ∧ x3 = .slice A' t.length c' ∧ t.length ≤ i ∧ (∀ s ∈ t, s.size ≤ 100000) ∧ SortOf (bytL2 (l.take i)) (bytL2 t) ∧
    wr.ownsRow w.heap.size 9 1 (.slice A' t.length c') t.length (sv t) ∧ Below w.heap.size w wr) (fun _ x4 _ => l.length - (intOf x4).toNat)
  case atStart => exact ⟨0, [], none, 0, Nat.zero_le _, rfl, rfl, Nat.le_refl _, fun s hs => absurd hs List.not_mem_nil, ⟨rfl, fun x => Iff.rfl⟩, World.ownsRow_nil _ _ _ _, Below.refl _ _⟩
  case round =>
    obtain ⟨i, t, A', c', hi, rfl, rfl, hti, hts, hso, hown, hb⟩ := hrel
    obtain ⟨wy, hwy⟩ : ∃ wy, wy = wr := ⟨_, rfl⟩
    subst hwy
    have hr9 := Rd.own hown
    have htc := hr9.len
    have htm := hr9.cap
    rw [sv_length] at htc
    unfold maxLen at htm
    have HTS : Hid (∀ k (hk : k < t.length), t[k].size ≤ 100000) := fun k hk => hts _ (List.getElem_mem hk)
    have HTA := Lib.hid hts
    have HSO := Lib.hid hso
    have HR := Lib.hid hr9
    have HO := Lib.hid hown
    have HB := Lib.hid hb
    have hsz := hb.size
    clear hts hso hown hb hr9
    by_cases hlt : i < l.length
    · have ik : (i : Int) < (l.length : Int) := by omega
      obtain ⟨b1, off1, rfl, _, hb1, hcell0⟩ := H.out.str hlt
      have hcell : wy.cell? ⟨b1, off1 + i, none⟩ = some (.string l[i]) := (HB.out.cell hb1).trans hcell0
      have hss := H1.out i hlt
      have HTK : Hid (bytL2 (l.take (i + 1)) = bytL2 (l.take i) ++ [l[i].data.toList]) := by
        unfold Hid
        rw [List.take_succ_eq_append_getElem hlt, bytL2_app]
        rfl
      clear hcell0
      obtain ⟨s, hs⟩ : ∃ s, l[i] = s := ⟨_, rfl⟩
      rw [hs] at hcell hss HTK
      clear hs
      go_wp2_with fail
      go_loopw [5] (fun x5 wv => ∃ (k m : Nat), k ≤ t.length ∧ x5 = .int .i64 (k : Int) ∧ (∀ j (hj : j < t.length), j < k → cmpL t[j].data.toList s.data.toList < 0) ∧ wv = wy.drewN m) (fun x5 _ => t.length - (intOf x5).toNat)
      case atStart => exact ⟨0, 0, Nat.zero_le _, rfl, fun j _ h => absurd h (Nat.not_lt_zero j), rfl⟩
      case round =>
        obtain ⟨k, m, hk, rfl, hal, rfl⟩ := hrel
        have HAL := Lib.hid hal
        clear hal
        have hcell' : (wy.drewN m).cell? ⟨b1, off1 + i, none⟩ = some (.string s) := hcell
        by_cases hkt : k < t.length
        · have ikt : (k : Int) < (t.length : Int) := by omega
          have dkt : decide (k < t.length) = true := decide_eq_true hkt
          obtain ⟨b2, off2, rfl, _, _, hcell2⟩ := HR.out.str hkt
          have hks := HTS.out k hkt
          have hcell2' : (wy.drewN m).cell? ⟨b2, off2 + k, none⟩ = some (.string t[k]) := hcell2
          have HCM := Lib.hid (fun w => refCompare_any (w := w) t[k] s hks hss)
          have HNX : Hid (cmpL t[k].data.toList s.data.toList < 0 → ∀ j (hj : j < t.length), j < k + 1 → cmpL t[j].data.toList s.data.toList < 0) := fun h j hj hjk => by
            rcases Nat.lt_or_ge j k with h2 | h2
            · exact HAL.out j hj h2
            · have : j = k := by omega
              subst this
              exact h
          obtain ⟨z, hz⟩ : ∃ z, cmpL t[k].data.toList s.data.toList = z := ⟨_, rfl⟩
          have HZ := Lib.hid hz
          rw [hz] at HCM HNX
          clear hz
          by_cases hz0 : z < 0
          · have dz : decide (z < 0) = true := decide_eq_true hz0
            have HN2 := Lib.hid (HNX.out hz0)
            go_wp2_with fail
            go_quiet ((go_at_call 10; exact quiet_draws_on (HCM.out _)))
            go_wp2_with fail
            go_roundw
            case rel => exact ⟨k + 1, _, by omega, by go_num, HN2.out, by first | rfl | (rw [World.drewN_drewN])⟩
            case measure => simp [intOf] <;> omega
          · have dz : decide (z < 0) = false := decide_eq_false hz0
            go_wp2_with fail
            by_cases he : t[k] = s
            · have HSM : Hid (SortOf (bytL2 (l.take (i + 1))) (bytL2 t)) := by
                unfold Hid
                rw [HTK.out]
                exact sort_same HSO.out hkt he
              have e1 : (t[k].toList == s.toList) = true := by rw [he]; exact beq_self_eq_true _
              have e2 : t[k].toList = s.toList := by rw [he]
              clear he
              go_quiet ((go_at_call 10; exact quiet_draws_on (HCM.out _)))
              go_wp2_with fail
              go_quiet (fail)
              go_wp2_with fail
              go_roundw
              case rel => exact ⟨i + 1, t, _, c', by omega, by go_num, rfl, by omega, HTA.out, HSM.out, own_keep HO.out (fun _ _ => rfl), below_drewN' HB.out _⟩
              case measure => simp [intOf] <;> omega
            · have e2 : ¬ t[k].toList = s.toList := fun e => he (str_inj (by rw [Lib.toList_data, Lib.toList_data] at e; exact e))
              have e1 : (t[k].toList == s.toList) = false := beq_eq_false_iff_ne.2 e2
              have HGT : Hid (∀ hk : k < t.length, cmpL s.data.toList t[k].data.toList < 0) := fun h => by
                have h1 := cmpL_turn t[k].data.toList s.data.toList
                have h2 := HZ.out
                have h3 : z ≠ 0 := fun e => he (str_inj (cmpL_zero (h2.trans e)))
                omega
              clear he
              go_quiet ((go_at_call 10; exact quiet_draws_on (HCM.out _)))
              go_wp2_with fail
              go_quiet (fail)
              go_wp2_with fail
              have hkc : k ≤ c' := by omega
              have HT1 : Hid ((t.take k).length = k) := by unfold Hid; rw [List.length_take]; omega
              have HT2 : Hid ((t.drop k).length = t.length - k) := by unfold Hid; rw [List.length_drop]
              have HRT : Hid (∀ wx, Below wy.heap.size wy wx → Rd wx 0 wx.heap.size (some ⟨b2, off2, none⟩) c' (sv (t.take k))) := fun wx hx => by
                rw [sv_take']
                exact ((HR.out.below hx (Nat.le_refl _)).take_ k).wide (Nat.zero_le _) hx.size
              have HRD : Hid (∀ wx, Below wy.heap.size wy wx → Rd wx 0 wx.heap.size (if c' = k then some ⟨b2, off2, none⟩ else some ⟨b2, off2 + k, none⟩) (c' - k) (sv (t.drop k))) := fun wx hx => by
                have h1 := (HR.out.below hx (Nat.le_refl _)).cut (k := k) (n := t.length) hk (by rw [sv_length]; exact Nat.le_refl _)
                rw [sv_drop', ← List.take_of_length_le (l := (sv t).drop k) (i := t.length - k) (by rw [List.length_drop, sv_length]; exact Nat.le_refl _)]
                have e9 : (some ⟨b2, off2, none⟩ : Option Addr).map (·.add k) = some ⟨b2, off2 + k, none⟩ := by
                  show some (Addr.add ⟨b2, off2, none⟩ k) = _
                  unfold Addr.add
                  by_cases h0 : k = 0 <;> simp [h0]
                rw [e9] at h1
                exact h1.wide (Nat.zero_le _) hx.size
              have HBM : Hid (∀ M, Below wy.heap.size wy (wy.drewN M)) := fun M => below_drewN' (Below.refl _ wy) M
              have HBA : Hid (∀ wx o, Below wy.heap.size wy wx → Below wy.heap.size wy (wx.alloc o)) := fun wx o hx => hx.alloc hx.size o
              have HBG : Hid (∀ (wx wx' : World) (row : Option Nat), Below wy.heap.size wy wx → wx.grownBy wx' row → (∀ g, row = some g → wy.heap.size ≤ g) → Below wy.heap.size wy wx') := fun wx wx' row hx hg hr => hx.grown hg hx.size hr
              have HCL : Hid (∀ wx, Below wy.heap.size wy wx → wx.cell? ⟨b1, off1 + i, none⟩ = some (.string s)) := fun wx hx => (hx.cell (Nat.lt_of_lt_of_le hb1 hsz)).trans hcell
              have hcA : ∀ M o, ((wy.drewN M).alloc o).cell? ⟨b1, off1 + i, none⟩ = some (.string s) := fun M o => HCL.out _ (HBA.out _ _ (HBM.out M))
              have hcB : ∀ M, (wy.drewN M).cell? ⟨b1, off1 + i, none⟩ = some (.string s) := fun M => HCL.out _ (HBM.out M)
              obtain ⟨tm, htm⟩ : ∃ tm, t.take k ++ [s] = tm := ⟨_, rfl⟩
              obtain ⟨tn, htn⟩ : ∃ tn, tm ++ t.drop k = tn := ⟨_, rfl⟩
              have HTM := Lib.hid htm
              have HTN := Lib.hid htn
              have HT3 : Hid (tm.length = k + 1) := by unfold Hid; rw [← htm, List.length_append, HT1.out]; rfl
              have HT4 : Hid (tn.length = k + 1 + (t.length - k)) := by unfold Hid; rw [← htn, List.length_append, HT3.out, HT2.out]
              have HSN : Hid (SortOf (bytL2 (l.take (i + 1))) (bytL2 tn)) := by
                unfold Hid
                rw [HTK.out]
                exact sort_put HSO.out HAL.out HGT.out htm htn
              have HSZ : Hid (∀ x ∈ tn, x.size ≤ 100000) := fun x hx => by
                rw [← htn, ← htm] at hx
                rcases List.mem_append.1 hx with hx | hx
                · rcases List.mem_append.1 hx with hx | hx
                  · exact HTA.out x (List.mem_of_mem_take hx)
                  · rw [List.mem_singleton.1 hx]; exact hss
                · exact HTA.out x (List.mem_of_mem_drop hx)
              clear htm htn
              go_region_law (first
                | (refine step_append_strs (v := .slice (some ⟨wy.heap.size, 0, none⟩) 0 0) wy.heap.size [] (t.take k) (t.take k) rfl 0 k k rfl HT1.out HT1.out rfl (.tmp 45) (.tmp 48) rfl rfl (by simp [Act.eval, Act.put]) (by simp [Act.eval, Act.put]) (by first | exact own_none' _ _ | exact (own_none' _ _).alloc _) (HRT.out _ (by first | exact HBA.out _ _ (HBM.out _) | exact HBA.out _ _ (HBA.out _ _ (HBM.out _)))) (by omega) (by simp <;> omega) ?_; intro A4 c4 w4 ho4 hg4; have hb4 : Below wy.heap.size wy w4 := HBG.out _ _ _ (by first | exact HBA.out _ _ (HBM.out _) | exact HBA.out _ _ (HBA.out _ _ (HBM.out _))) hg4 (fun g hg => by simp [Value.ownBlock] at hg; omega); have hcl := HCL.out _ hb4)
                | (refine step_append_strs (v := .slice (some ⟨wy.heap.size + 1, 0, none⟩) 0 0) wy.heap.size [] (t.take k) (t.take k) rfl 0 k k rfl HT1.out HT1.out rfl (.tmp 45) (.tmp 48) rfl rfl (by simp [Act.eval, Act.put]) (by simp [Act.eval, Act.put]) (own_none2 _ _ _) (HRT.out _ (HBA.out _ _ (HBA.out _ _ (HBM.out _)))) (by omega) (by simp <;> omega) ?_; intro A4 c4 w4 ho4 hg4; have hb4 : Below wy.heap.size wy w4 := HBG.out _ _ _ (HBA.out _ _ (HBA.out _ _ (HBM.out _))) hg4 (fun g hg => by simp [Value.ownBlock] at hg; omega); have hcl := HCL.out _ hb4)
                | (refine step_append_strs (v := .slice A4 k c4) wy.heap.size (t.take k) [s] tm HTM.out k 1 (k + 1) HT1.out rfl HT3.out rfl (.tmp 49) (.tmp 54) rfl rfl (by simp [Act.eval, Act.put]) (by simp [Act.eval, Act.put]; rfl) (by first | exact ho4 | exact ho4.alloc _) (rd_one (by first | exact cell_new _ _ _ | exact cell_grown hg4 (cell_after _ _ _ _) (by simp [Value.ownBlock]) | exact cell_grown hg4 (cell_before _ _ _ _) (by simp [Value.ownBlock]))) (by omega) (by first | exact hb4.size | exact (HBA.out _ _ hb4).size) ?_; intro A5 c5 w5 ho5 hg5; have hb5 : Below wy.heap.size wy w5 := HBG.out _ _ _ (by first | exact hb4 | exact HBA.out _ _ hb4) hg5 (fun g hg => (own_lt ho4 hg).1))
                | (refine step_append_strs (v := .slice A5 (k + 1) c5) wy.heap.size tm (t.drop k) tn HTN.out (k + 1) (t.length - k) (k + 1 + (t.length - k)) HT3.out HT2.out HT4.out rfl (.tmp 55) (.tmp 58) rfl rfl (by simp [Act.eval, Act.put]) (by simp [Act.eval, Act.put]) ho5 (HRD.out _ hb5) (by omega) hb5.size ?_; intro A6 c6 w6 ho6 hg6; have HB6 := Lib.hid (HBG.out _ _ _ hb5 hg6 (fun g hg => (own_lt ho5 hg).1)); have HO6 := Lib.hid ho6; clear ho6 hg6))
              all_goals
                go_wp2_with fail
                go_roundw
                case rel => exact ⟨i + 1, tn, A6, c6, by omega, by go_num, by rw [HT4.out], by rw [HT4.out]; omega, HSZ.out, HSN.out, by rw [HT4.out]; exact own_base HO6.out hsz, HB.out.trans (HB6.out.mono hsz)⟩
                case measure => simp [intOf] <;> omega
        · have ikt : ¬ (k : Int) < (t.length : Int) := by omega
          have dkt : decide (k < t.length) = false := decide_eq_false hkt
          go_wp2_with fail
          go_quiet (fail)
          go_wp2_with fail
          go_quiet (fail)
          go_wp2_with fail
          have HGT : Hid (∀ hk : k < t.length, cmpL s.data.toList t[k].data.toList < 0) := fun h => absurd h hkt
          have hkc : k ≤ c' := by omega
          have HT1 : Hid ((t.take k).length = k) := by unfold Hid; rw [List.length_take]; omega
          have HT2 : Hid ((t.drop k).length = t.length - k) := by unfold Hid; rw [List.length_drop]
          have HRT : Hid (∀ wx, Below wy.heap.size wy wx → Rd wx 0 wx.heap.size A' c' (sv (t.take k))) := fun wx hx => by
            rw [sv_take']
            exact ((HR.out.below hx (Nat.le_refl _)).take_ k).wide (Nat.zero_le _) hx.size
          have HRD : Hid (∀ wx, Below wy.heap.size wy wx → Rd wx 0 wx.heap.size (if c' = k then A' else A'.map (·.add k)) (c' - k) (sv (t.drop k))) := fun wx hx => by
            have h1 := (HR.out.below hx (Nat.le_refl _)).cut (k := k) (n := t.length) hk (by rw [sv_length]; exact Nat.le_refl _)
            rw [sv_drop', ← List.take_of_length_le (l := (sv t).drop k) (i := t.length - k) (by rw [List.length_drop, sv_length]; exact Nat.le_refl _)]
            exact h1.wide (Nat.zero_le _) hx.size
          have HBM : Hid (∀ M, Below wy.heap.size wy (wy.drewN M)) := fun M => below_drewN' (Below.refl _ wy) M
          have HBA : Hid (∀ wx o, Below wy.heap.size wy wx → Below wy.heap.size wy (wx.alloc o)) := fun wx o hx => hx.alloc hx.size o
          have HBG : Hid (∀ (wx wx' : World) (row : Option Nat), Below wy.heap.size wy wx → wx.grownBy wx' row → (∀ g, row = some g → wy.heap.size ≤ g) → Below wy.heap.size wy wx') := fun wx wx' row hx hg hr => hx.grown hg hx.size hr
          have HCL : Hid (∀ wx, Below wy.heap.size wy wx → wx.cell? ⟨b1, off1 + i, none⟩ = some (.string s)) := fun wx hx => (hx.cell (Nat.lt_of_lt_of_le hb1 hsz)).trans hcell
          have hcA : ∀ M o, ((wy.drewN M).alloc o).cell? ⟨b1, off1 + i, none⟩ = some (.string s) := fun M o => HCL.out _ (HBA.out _ _ (HBM.out M))
          have hcB : ∀ M, (wy.drewN M).cell? ⟨b1, off1 + i, none⟩ = some (.string s) := fun M => HCL.out _ (HBM.out M)
          obtain ⟨tm, htm⟩ : ∃ tm, t.take k ++ [s] = tm := ⟨_, rfl⟩
          obtain ⟨tn, htn⟩ : ∃ tn, tm ++ t.drop k = tn := ⟨_, rfl⟩
          have HTM := Lib.hid htm
          have HTN := Lib.hid htn
          have HT3 : Hid (tm.length = k + 1) := by unfold Hid; rw [← htm, List.length_append, HT1.out]; rfl
          have HT4 : Hid (tn.length = k + 1 + (t.length - k)) := by unfold Hid; rw [← htn, List.length_append, HT3.out, HT2.out]
          have HSN : Hid (SortOf (bytL2 (l.take (i + 1))) (bytL2 tn)) := by
            unfold Hid
            rw [HTK.out]
            exact sort_put HSO.out HAL.out HGT.out htm htn
          have HSZ : Hid (∀ x ∈ tn, x.size ≤ 100000) := fun x hx => by
            rw [← htn, ← htm] at hx
            rcases List.mem_append.1 hx with hx | hx
            · rcases List.mem_append.1 hx with hx | hx
              · exact HTA.out x (List.mem_of_mem_take hx)
              · rw [List.mem_singleton.1 hx]; exact hss
            · exact HTA.out x (List.mem_of_mem_drop hx)
          clear htm htn
          go_region_law (first
            | (refine step_append_strs (v := .slice (some ⟨wy.heap.size, 0, none⟩) 0 0) wy.heap.size [] (t.take k) (t.take k) rfl 0 k k rfl HT1.out HT1.out rfl (.tmp 45) (.tmp 48) rfl rfl (by simp [Act.eval, Act.put]) (by simp [Act.eval, Act.put]) (by first | exact own_none' _ _ | exact (own_none' _ _).alloc _) (HRT.out _ (by first | exact HBA.out _ _ (HBM.out _) | exact HBA.out _ _ (HBA.out _ _ (HBM.out _)))) (by omega) (by simp <;> omega) ?_; intro A4 c4 w4 ho4 hg4; have hb4 : Below wy.heap.size wy w4 := HBG.out _ _ _ (by first | exact HBA.out _ _ (HBM.out _) | exact HBA.out _ _ (HBA.out _ _ (HBM.out _))) hg4 (fun g hg => by simp [Value.ownBlock] at hg; omega); have hcl := HCL.out _ hb4)
            | (refine step_append_strs (v := .slice (some ⟨wy.heap.size + 1, 0, none⟩) 0 0) wy.heap.size [] (t.take k) (t.take k) rfl 0 k k rfl HT1.out HT1.out rfl (.tmp 45) (.tmp 48) rfl rfl (by simp [Act.eval, Act.put]) (by simp [Act.eval, Act.put]) (own_none2 _ _ _) (HRT.out _ (HBA.out _ _ (HBA.out _ _ (HBM.out _)))) (by omega) (by simp <;> omega) ?_; intro A4 c4 w4 ho4 hg4; have hb4 : Below wy.heap.size wy w4 := HBG.out _ _ _ (HBA.out _ _ (HBA.out _ _ (HBM.out _))) hg4 (fun g hg => by simp [Value.ownBlock] at hg; omega); have hcl := HCL.out _ hb4)
            | (refine step_append_strs (v := .slice A4 k c4) wy.heap.size (t.take k) [s] tm HTM.out k 1 (k + 1) HT1.out rfl HT3.out rfl (.tmp 49) (.tmp 54) rfl rfl (by simp [Act.eval, Act.put]) (by simp [Act.eval, Act.put]; rfl) (by first | exact ho4 | exact ho4.alloc _) (rd_one (by first | exact cell_new _ _ _ | exact cell_grown hg4 (cell_after _ _ _ _) (by simp [Value.ownBlock]) | exact cell_grown hg4 (cell_before _ _ _ _) (by simp [Value.ownBlock]))) (by omega) (by first | exact hb4.size | exact (HBA.out _ _ hb4).size) ?_; intro A5 c5 w5 ho5 hg5; have hb5 : Below wy.heap.size wy w5 := HBG.out _ _ _ (by first | exact hb4 | exact HBA.out _ _ hb4) hg5 (fun g hg => (own_lt ho4 hg).1))
            | (refine step_append_strs (v := .slice A5 (k + 1) c5) wy.heap.size tm (t.drop k) tn HTN.out (k + 1) (t.length - k) (k + 1 + (t.length - k)) HT3.out HT2.out HT4.out rfl (.tmp 55) (.tmp 58) rfl rfl (by simp [Act.eval, Act.put]) (by simp [Act.eval, Act.put]) ho5 (HRD.out _ hb5) (by omega) hb5.size ?_; intro A6 c6 w6 ho6 hg6; have HB6 := Lib.hid (HBG.out _ _ _ hb5 hg6 (fun g hg => (own_lt ho5 hg).1)); have HO6 := Lib.hid ho6; clear ho6 hg6))
          all_goals
            go_wp2_with fail
            go_roundw
            case rel => exact ⟨i + 1, tn, A6, c6, by omega, by go_num, by rw [HT4.out], by rw [HT4.out]; omega, HSZ.out, HSN.out, by rw [HT4.out]; exact own_base HO6.out hsz, HB.out.trans (HB6.out.mono hsz)⟩
            case measure => simp [intOf] <;> omega
    · have ik : ¬ (i : Int) < (l.length : Int) := by omega
      have hil : i = l.length := by omega
      have HSF : Hid (SortOf (bytL2 l) (bytL2 t)) := by
        have := HSO.out
        rw [List.take_of_length_le (by omega)] at this
        exact this
      go_wp2_with fail
      go_ret
      exact ⟨t, A', c', rfl, HSF.out, by omega, HO.out, HB.out⟩
end Go.Proofs.Ytihlbcnoficpgaa
