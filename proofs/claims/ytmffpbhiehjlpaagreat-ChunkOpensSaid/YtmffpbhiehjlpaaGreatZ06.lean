/-
  Appends of whole numbers, in this program.
  A cursor, open; Bytes.
  The cursor's Byte.
  Or of two whole numbers.
  varint, and the document's own Number: both are 'vnum'.
  The cursor's peek, and Most.
  The cursor's Most in plain.
-/
import Derived.Test.YtmffpbhiehjlpaaGreatRows
import Derived.Test.YtmffpbhiehjlpaaGreatZ00
import Derived.Test.YtmffpbhiehjlpaaGreatZ04
import Derived.Laws.OwnMore
import Derived.Laws.MakeOwn
import Derived.Outline
import Derived.BigQuiet
import Derived.Deep.QuietTactic
import Derived.Test.YtmffpbhiehjlpaaGreatZ03
namespace Go.Proofs.YtmffpbhiehjlpaaGreat
set_option linter.unusedSimpArgs false
set_option linter.unusedVariables false
open Go.RowKit
theorem Tryz.infoI64 : (Tryz.prog.info? 3).map (fun i => (i.zero, i.size, i.bytes)) = some (some (.int .i64 0), 1, 8) := by kernel_rfl
theorem append_nums (w : World) (base : Nat) (v : Value) (ys zs us : List Int) (hus : ys ++ zs = us) (hown : w.ownsRow base 3 1 v ys.length (iv ys)) {lo h' : Nat} {A : Option Addr} {c : Nat} (hr : Rd w lo h' A c (iv zs))
    (hb : ys.length + zs.length ≤ 17592186044416) (hbase : base ≤ w.heap.size) :
    ∃ A' c' w', (Builtin.append_ #[23, 23] 23 #[v, .slice A zs.length c]).run Tryz.prog w = .ok (.slice A' us.length c') w' ∧
      w'.ownsRow base 3 1 (.slice A' us.length c') us.length (iv us) ∧ w.grownBy w' v.ownBlock := by
  subst hus
  obtain ⟨i0, hi0, hz0, hz1, hz2⟩ := info_parts Tryz.infoI64
  have hl := iv_length zs
  obtain ⟨A', c', w', hrun, h2, h3, _⟩ := run_append_rd (P := Tryz.prog) w base 23 23 3 i0 _ 8 Tryz.underlying23 hi0 hz0 hz1 hz2 rfl v ys.length (iv ys) hown lo h' A c (iv zs) hr (iv_one _)
    (by rw [hl]; simp only [maxLen]; omega) (by rw [hl]; omega) hbase
  rw [hl] at hrun h2
  rw [List.length_append]
  exact ⟨A', c', w', hrun, by rw [iv_append]; exact h2, h3⟩
theorem make_nums (w : World) (n : Nat) (h : n ≤ 4294967295) : ∃ w1, (Instr.makeSlice 23 (.int .i64 (n : Int)) (.int .i64 (n : Int))).run Tryz.prog w = .ok (.slice (some ⟨w.heap.size, 0, none⟩) n n) w1 ∧
    w1.ownsRow w.heap.size 3 1 (.slice (some ⟨w.heap.size, 0, none⟩) n n) n (List.replicate n (.int .i64 0)) ∧ w.grownBy w1 none := by
  obtain ⟨i0, hi0, hz0, hz1, hz2⟩ := info_parts Tryz.infoI64
  have := run_make_full (P := Tryz.prog) w w.heap.size 23 3 i0 _ 1 Tryz.underlying23 hi0 hz0 hz1 .i64 .i64 n (by rw [hz2]; omega) (by simp only [maxLen]; omega) (Nat.le_refl _)
  rw [Nat.mul_one, show (Value.int .i64 0).cells = #[.int .i64 0] from rfl, toList_madeCells_one] at this
  exact this
end Go.Proofs.YtmffpbhiehjlpaaGreat
namespace Go.Proofs.YtmffpbhiehjlpaaGreat
set_option linter.unusedSimpArgs false
set_option linter.unusedVariables false
open Go.RowKit
theorem Cur.open_ {w : World} {lo g k : Nat} {bs : List UInt8} {e : Int} (h : Cur w lo g bs k e) : ∃ A c, w.cell? ⟨g, 0, none⟩ = some (.slice A bs.length c) ∧ w.cell? ⟨g, 1, none⟩ = some (.int .i64 (k : Int)) ∧ w.cell? ⟨g, 2, none⟩ = some (.int .i64 e) ∧ Rd w lo g A c (bv bs) ∧ k ≤ bs.length ∧ bs.length ≤ c ∧ c ≤ 9223372036854775807 := by
  obtain ⟨A, c, hb, hrd, hk, -⟩ := h
  have h0 := hb.cell 0
  have h1 := hb.cell 1
  have h2 := hb.cell 2
  have h3 := hrd.len
  have h4 := hrd.cap
  rw [bv_length] at h3
  exact ⟨A, c, h0, h1, h2, hrd, hk, h3, by simpa [maxLen] using h4⟩
theorem Cur.le {w : World} {lo g k : Nat} {bs : List UInt8} {e : Int} (h : Cur w lo g bs k e) : k ≤ bs.length := by obtain ⟨_, _, _, _, hk, _⟩ := h; exact hk
theorem takeR_err (bs : List UInt8) (k : Nat) (e : Int) (skip : Nat) (n : Int) (he : e ≠ 0) : takeR bs k e skip n = ([], k, e) := by simp [takeR, he]
theorem takeR_one (bs : List UInt8) (k : Nat) (e : Int) : (takeR bs k e 0 1).1.length ≤ 1 := by
  unfold takeR
  repeat' split
  all_goals simp
  all_goals omega
theorem bytes_any {w : World} {lo g k : Nat} {bs : List UInt8} {e : Int} (n : Int) (h : Cur w lo g bs k e) (hb : bs.length ≤ 140737488355328) :
    Calls Tryz.prog 75 #[cp g, .int .i64 n] w fun r w' => ∃ A c, r = .returned (.slice A (takeR bs k e 0 n).1.length c) ∧ w'.ownsRow w.heap.size 5 1 (.slice A (takeR bs k e 0 n).1.length c) (takeR bs k e 0 n).1.length (bv (takeR bs k e 0 n).1) ∧
      Cur w' lo g bs (takeR bs k e 0 n).2.1 (takeR bs k e 0 n).2.2 ∧ w.grownBy w' (some g) := by
  have hk := h.le
  have hgl := h.lt
  have HT := Lib.hid (take_any 0 n h (by omega))
  have hl : (takeR bs k e 0 n).1.length ≤ bs.length := by
    unfold takeR
    repeat' split
    all_goals simp
    all_goals omega
  clear h
  generalize takeR bs k e 0 n = T at *
  go_enter Tryz.func75, Tryz.ntmps75
  go_wp2_with fail
  refine HT.out.mono ?_
  rintro r w1 ⟨A, c, rfl, hrd, hc1, hg1⟩
  have HC := Lib.hid hc1
  have HR := Lib.hid hrd
  have HG := Lib.hid hg1
  have hs := hg1.size
  clear hc1 hrd hg1
  go_wp2_with fail
  refine (clone_any _ _ HR.out (by omega)).mono ?_
  rintro r w2 ⟨A', c', rfl, hown, hbel⟩
  have HO := Lib.hid hown
  clear hown
  go_wp2_with fail
  go_ret
  have hg2 : w1.grownBy w2 none := below_gb_none (Nat.le_refl _) hbel
  refine ⟨_, _, rfl, ?_, HC.out.grown hg2 (by simp), HG.out.trans (gb_of_gb_none hg2)⟩
  obtain ⟨hlen, hrest⟩ := HO.out
  refine ⟨hlen, ?_⟩
  rcases hrest with h0 | ⟨g', cap, cur, hv, hb', hr⟩
  · exact .inl h0
  · exact .inr ⟨g', cap, cur, hv, by omega, hr⟩
end Go.Proofs.YtmffpbhiehjlpaaGreat
namespace Go.Proofs.YtmffpbhiehjlpaaGreat
set_option linter.unusedSimpArgs false
set_option linter.unusedVariables false
open Go.RowKit
theorem byte_any {w : World} {lo g k : Nat} {bs : List UInt8} {e : Int} (h : Cur w lo g bs k e) :
    Calls Tryz.prog 50 #[cp g] w fun r w' => r = .returned (.int .i64 (((takeR bs k e 0 1).1.headD 0).toNat : Int)) ∧
      Cur w' lo g bs (takeR bs k e 0 1).2.1 (takeR bs k e 0 1).2.2 ∧ w.grownBy w' (some g) := by
  have hk := h.le
  have HT := Lib.hid (take_any 0 1 h (by omega))
  have h1 := takeR_one bs k e
  clear h
  generalize takeR bs k e 0 1 = T at *
  obtain ⟨l, k', e'⟩ := T
  simp only [] at *
  rcases l with _ | ⟨x, r⟩
  · go_enter Tryz.func50, Tryz.ntmps50
    go_wp2_with fail
    refine HT.out.mono ?_
    rintro r w1 ⟨A, c, rfl, hrd, hc1, hg1⟩
    have HC := Lib.hid hc1
    clear hc1 hrd
    go_wp2_with fail
    go_ret
    exact ⟨rfl, HC.out, hg1⟩
  · have hr : r = [] := by simp at h1; exact h1
    subst hr
    have hx : x.toNat < 256 := UInt8.toNat_lt _
    go_enter Tryz.func50, Tryz.ntmps50
    go_wp2_with fail
    refine HT.out.mono ?_
    rintro r w1 ⟨A, c, rfl, hrd, hc1, hg1⟩
    have HC := Lib.hid hc1
    obtain ⟨b, off, rfl, _, _, hcell⟩ := hrd.get (k := 0) (by simp [bv])
    rw [Nat.add_zero] at hcell
    have hcell' : w1.cell? ⟨b, off, none⟩ = some (.int .u8 (x.toNat : Int)) := hcell
    have HG := Lib.hid hg1
    clear hc1 hrd hcell h1 hg1
    go_wp2
    go_ret
    exact ⟨rfl, HC.out, HG.out⟩
end Go.Proofs.YtmffpbhiehjlpaaGreat
namespace Go.Proofs.YtmffpbhiehjlpaaGreat
set_option linter.unusedSimpArgs false
set_option linter.unusedVariables false
open Go.RowKit
theorem or_i64 (a b : Nat) (ha : a < 9223372036854775808) (hb : b < 9223372036854775808) : bits .or .i64 (a : Int) (b : Int) = ((a ||| b : Nat) : Int) := by
  have e : ∀ n : Nat, n < 9223372036854775808 → (BitVec.ofInt 64 (n : Int)).toNat = n := fun n hn => by
    rw [BitVec.ofInt_natCast, BitVec.toNat_ofNat]; exact Nat.mod_eq_of_lt (by omega)
  have hx : a ||| b < 2 ^ 63 := Nat.or_lt_two_pow (by omega) (by omega)
  show IntKind.i64.wrap ((BitVec.ofInt 64 (a : Int) ||| BitVec.ofInt 64 (b : Int)).toNat : Int) = _
  rw [BitVec.toNat_or, e a ha, e b hb, IntKind.wrap_i64]
  omega
end Go.Proofs.YtmffpbhiehjlpaaGreat
namespace Go.Proofs.YtmffpbhiehjlpaaGreat
set_option linter.unusedSimpArgs false
set_option linter.unusedVariables false
open Go.RowKit
def val : List UInt8 → Nat
  | [] => 0
  | b :: r => b.toNat % 128 + 128 * val r
theorem val_snoc (l : List UInt8) (b : UInt8) : val (l ++ [b]) = val l + 128 ^ l.length * (b.toNat % 128) := by
  induction l with
  | nil => simp [val]
  | cons x r ih =>
    simp only [List.cons_append, val, ih, List.length_cons, Nat.pow_succ]
    rw [Nat.mul_add, Nat.mul_comm (128 ^ r.length) 128, ← Nat.mul_assoc, Nat.add_assoc]
theorem val_lt (l : List UInt8) : val l < 128 ^ l.length := by
  induction l with
  | nil => simp [val]
  | cons x r ih =>
    simp only [val, List.length_cons, Nat.pow_succ]
    have := Nat.mod_lt x.toNat (show 0 < 128 by omega)
    omega
def lead : List UInt8 → Nat
  | [] => 0
  | b :: r => if 128 ≤ b.toNat then lead r + 1 else 0
theorem lead_le (l : List UInt8) : lead l ≤ l.length := by
  induction l with
  | nil => simp [lead]
  | cons b r ih => simp only [lead, List.length_cons]; split <;> omega
theorem lead_at (l : List UInt8) (k : Nat) (hk : k ≤ lead l) (hl : k < l.length) : (128 ≤ l[k].toNat → k + 1 ≤ lead l) ∧ (l[k].toNat < 128 → lead l = k) := by
  induction l generalizing k with
  | nil => simp at hl
  | cons b r ih =>
    simp only [lead] at hk ⊢
    rcases k with _ | k
    · simp only [List.getElem_cons_zero]
      constructor
      · intro h; rw [if_pos h]; omega
      · intro h; rw [if_neg (by omega)]
    · simp only [List.getElem_cons_succ]
      by_cases hb : 128 ≤ b.toNat
      · rw [if_pos hb] at hk ⊢
        have := ih k (by omega) (by simpa using hl)
        constructor
        · intro h; have := this.1 h; omega
        · intro h; have := this.2 h; omega
      · rw [if_neg hb] at hk; omega
def vnum (bs : List UInt8) : Nat × Nat × Int :=
  if 9 ≤ lead bs then (0, 0, if 9 < bs.length then 3 else 2)
  else if bs.length ≤ lead bs then (0, 0, 2)
  else if 0 < lead bs ∧ (bs[lead bs]?.getD 0).toNat = 0 then (0, 0, 3)
  else (val (bs.take (lead bs + 1)), lead bs + 1, 0)
theorem vnum_here (bs : List UInt8) (k : Nat) (hk : k ≤ lead bs) (hl : k < bs.length) (h9 : k < 9) (hx : bs[k].toNat < 128) :
    vnum bs = if 0 < k ∧ bs[k].toNat = 0 then (0, 0, 3) else (val (bs.take k) + 128 ^ k * (bs[k].toNat % 128), k + 1, 0) := by
  have e := (lead_at bs k hk hl).2 hx
  unfold vnum
  rw [e, if_neg (by omega), if_neg (by omega), List.getElem?_eq_getElem hl, Option.getD_some]
  split
  · rfl
  · rw [List.take_succ_eq_append_getElem hl, val_snoc, List.length_take, Nat.min_eq_left (by omega)]
theorem vnum_over (bs : List UInt8) (h : min bs.length 9 ≤ lead bs) : vnum bs = (0, 0, if 9 < bs.length then 3 else 2) := by
  have := lead_le bs
  unfold vnum
  by_cases h9 : 9 ≤ lead bs
  · rw [if_pos h9]
  · rw [if_neg h9, if_pos (by omega), if_neg (by omega)]
theorem and127 (x : Nat) : x &&& 127 = x % 128 := Nat.and_two_pow_sub_one_eq_mod x 7
theorem digit_in (V x k : Nat) (hV : V < 128 ^ k) (hx : x < 256) (hk : k < 9) :
    bits .or .i64 (V : Int) (wrap64 (wrap64 (bits .andNot .u8 (x : Int) 128) * 2 ^ (7 * k))) = ((V + 128 ^ k * (x % 128) : Nat) : Int) := by
  have e1 : bits .andNot .u8 (x : Int) 128 = ((x % 128 : Nat) : Int) := by
    have := u8_andNot_nat x 128 hx (by omega)
    rw [← and127]
    exact this
  have hd := Nat.mod_lt x (show 0 < 128 by omega)
  have e2 : (2 : Int) ^ (7 * k) = ((128 ^ k : Nat) : Int) := by
    rw [Int.pow_mul]; norm_cast
  have hp : 128 ^ k ≤ 128 ^ 8 := Nat.pow_le_pow_right (by omega) (by omega)
  have hb : x % 128 * 128 ^ k < 9223372036854775808 := by
    calc x % 128 * 128 ^ k ≤ 127 * 128 ^ 8 := Nat.mul_le_mul (by omega) hp
      _ < 9223372036854775808 := by decide
  have e4 : wrap64 ((x % 128 : Nat) : Int) = ((x % 128 : Nat) : Int) := IntWalk.wrap64_in _ (by omega)
  have e5 : wrap64 ((x % 128 * 128 ^ k : Nat) : Int) = ((x % 128 * 128 ^ k : Nat) : Int) := IntWalk.wrap64_in _ (by omega)
  rw [e1, e2, e4, ← Int.natCast_mul, e5, or_i64 V _ (by omega) hb]
  congr 1
  have e3 : 128 ^ k = 2 ^ (7 * k) := by rw [Nat.pow_mul]
  rw [e3] at hV ⊢
  rw [Nat.or_comm, ← Nat.shiftLeft_eq, ← Nat.shiftLeft_add_eq_or_of_lt hV, Nat.shiftLeft_eq]
  rw [Nat.add_comm, Nat.mul_comm]
set_option maxRecDepth 10000 in
theorem varint_any {w : World} {lo h' : Nat} {A : Option Addr} {c : Nat} (bs : List UInt8) (h : Rd w lo h' A c (bv bs)) :
    Calls Tryz.prog 113 #[.slice A bs.length c] w fun r w' => r = .returned (.tuple #[.int .i64 ((vnum bs).1 : Int), .int .i64 ((vnum bs).2.1 : Int), .int .i64 (vnum bs).2.2]) ∧ w = w' := by
  have hl := h.len
  have hc := h.cap
  rw [bv_length] at hl
  unfold maxLen at hc
  have H := Lib.hid h
  clear h
  by_cases h9 : bs.length ≤ 9
  all_goals
    go_enter Tryz.func113, Tryz.ntmps113
    go_wp2_with fail
    go_loop [2, 13] (fun n i => ∃ k : Nat, k ≤ min bs.length 9 ∧ i = .int .i64 k ∧ k ≤ lead bs ∧ n = .int .i64 (val (bs.take k))) (fun _ i => bs.length - (intOf i).toNat)
    case atStart => exact ⟨0, by omega, rfl, by omega, by simp [val]⟩
    case round =>
      obtain ⟨k, hk, rfl, hlead, rfl⟩ := hrel
      by_cases hlt : k < min bs.length 9
      · obtain ⟨b, off, rfl, _, _, hcell⟩ := H.out.get (k := k) (by rw [bv_length]; omega)
        have hv := bv_get bs k (by omega)
        rw [List.getElem?_eq_getElem (by rw [bv_length]; omega)] at hv
        injection hv with hv
        rw [hv] at hcell
        clear hv
        have hlast := Lib.hid (vnum_here bs k hlead (by omega) (by omega))
        have hnext := Lib.hid ((lead_at bs k hlead (by omega)).1)
        have hV := val_lt (bs.take k)
        have hx256 : bs[k].toNat < 256 := UInt8.toNat_lt _
        rw [List.length_take, Nat.min_eq_left (by omega)] at hV
        have HD := Lib.hid (digit_in (val (bs.take k)) bs[k].toNat k hV hx256 (by omega))
        have hS : val (bs.take (k + 1)) = val (bs.take k) + 128 ^ k * (bs[k].toNat % 128) := by
          rw [List.take_succ_eq_append_getElem (by omega), val_snoc, List.length_take, Nat.min_eq_left (by omega)]
        have HS := Lib.hid hS
        generalize bs[k].toNat = x at *
        generalize val (bs.take k) = V at *
        clear hV hS hlead
        go_wp2
        case roundEnd => 
          have hge : 128 ≤ x := by omega
          exact ⟨⟨k + 1, by omega, by go_num, hnext.out hge, by rw [HS.out, HD.out]⟩, by simp [intOf]; omega⟩
        all_goals
          go_ret3
          have hlt' : x < 128 := by omega
          rw [hlast.out hlt']
          first
          | (rw [if_pos (by omega)]; exact ⟨rfl, rfl⟩)
          | (rw [if_neg (by omega)]; exact ⟨by rw [← HD.out]; rfl, rfl⟩)
          | (rw [if_neg (by omega)]; have hx0 : x = 0 := by omega
             subst hx0; exact ⟨by rw [← HD.out]; rfl, rfl⟩)
      · have hv := Lib.hid (vnum_over bs (by omega))
        go_wp2
        all_goals
          go_ret3
          rw [hv.out]
          first
          | (rw [if_pos (by omega)]; exact ⟨rfl, rfl⟩)
          | (rw [if_neg (by omega)]; exact ⟨rfl, rfl⟩)
end Go.Proofs.YtmffpbhiehjlpaaGreat
namespace Go.Proofs.YtmffpbhiehjlpaaGreat
set_option linter.unusedSimpArgs false
set_option linter.unusedVariables false
open Go.RowKit
def peekE (bs : List UInt8) (k : Nat) (most : Int) : Int :=
  if (vnum (bs.drop k)).2.2 ≠ 0 then (vnum (bs.drop k)).2.2 else if most < (vnum (bs.drop k)).1 then 3 else 0
theorem peek_bad {w : World} {lo g k : Nat} {bs : List UInt8} {e : Int} (most : Int) (h : Cur w lo g bs k e) (he : e ≠ 0) :
    Calls Tryz.prog 91 #[cp g, .int .i64 most] w fun r w' => r = .returned (.tuple #[.int .i64 0, .int .i64 0]) ∧ w = w' := by
  have hg := good_any h
  have h0 : (e == 0) = false := by simpa using he
  rw [h0] at hg
  clear h h0 he
  unfold cp at hg ⊢
  go_enter Tryz.func91, Tryz.ntmps91
  go_wp2_with fail
  refine hg.mono ?_
  rintro e w' ⟨rfl, rfl⟩
  go_wp2_with fail
  go_ret2
  exact ⟨rfl, rfl⟩
theorem peek_good {w : World} {lo g k : Nat} {bs : List UInt8} (most : Int) (h : Cur w lo g bs k 0) (he : peekE bs k most = 0) :
    Calls Tryz.prog 91 #[cp g, .int .i64 most] w fun r w' => r = .returned (.tuple #[.int .i64 ((vnum (bs.drop k)).1 : Int), .int .i64 ((vnum (bs.drop k)).2.1 : Int)]) ∧ ∃ m, w.drewN m = w' := by
  have H := Lib.hid h
  obtain ⟨A, c, h0, h1, h2, hrd, hk, hl, hc⟩ := h.open_
  have hcut := hrd.cut (k := k) (n := bs.length) hk (by rw [bv_length]; exact Nat.le_refl _)
  rw [List.take_of_length_le (by simp [bv_length]), ← bv_drop] at hcut
  have HC := Lib.hid hcut
  have hdl : (bs.drop k).length = bs.length - k := by simp
  have HV := fun (m : Nat) => Lib.hid (varint_any (bs.drop k) (HC.out.drewN m))
  rw [hdl] at HV
  have h3 : ((vnum (bs.drop k)).2.2 == 0) = true := by
    rw [beq_iff_eq]
    unfold peekE at he
    split at he
    · contradiction
    · rename_i hn; exact Decidable.not_not.1 hn
  have h4 : ((vnum (bs.drop k)).1 : Int) ≤ most := by
    unfold peekE at he
    split at he
    · contradiction
    · split at he <;> omega
  clear hcut hrd h he hdl
  generalize vnum (bs.drop k) = V at *
  have h5 : V.2.2 = 0 := by simpa using h3
  unfold cp
  go_enter Tryz.func91, Tryz.ntmps91
  go_wp2_with fail
  refine (good_any H.out).mono ?_
  rintro e w' ⟨rfl, rfl⟩
  go_wp2_with fail
  go_quiet ((go_at_call 113; exact quiet_pure (HV _).out))
  go_wp2
  all_goals go_ret2
  all_goals exact ⟨rfl, _, rfl⟩
theorem peek_form {w : World} {lo g k : Nat} {bs : List UInt8} (most : Int) (h : Cur w lo g bs k 0) (h3 : (vnum (bs.drop k)).2.2 ≠ 0) :
    Calls Tryz.prog 91 #[cp g, .int .i64 most] w fun r w' => r = .returned (.tuple #[.int .i64 0, .int .i64 0]) ∧ ∃ m, (w.drewN m).setCell ⟨g, 2, none⟩ (.int .i64 (vnum (bs.drop k)).2.2) = w' := by
  have H := Lib.hid h
  obtain ⟨A, c, h0, h1, h2, hrd, hk, hl, hc⟩ := h.open_
  have hcut := hrd.cut (k := k) (n := bs.length) hk (by rw [bv_length]; exact Nat.le_refl _)
  rw [List.take_of_length_le (by simp [bv_length]), ← bv_drop] at hcut
  have HC := Lib.hid hcut
  have hdl : (bs.drop k).length = bs.length - k := by simp
  have HV := fun (m : Nat) => Lib.hid (varint_any (bs.drop k) (HC.out.drewN m))
  rw [hdl] at HV
  have h5 : ((vnum (bs.drop k)).2.2 == 0) = false := by simpa using h3
  have h6 : ((vnum (bs.drop k)).2.2 != 0) = true := by simpa using h3
  clear hcut hrd h hdl
  generalize vnum (bs.drop k) = V at *
  unfold cp
  go_enter Tryz.func91, Tryz.ntmps91
  go_wp2_with fail
  refine (good_any H.out).mono ?_
  rintro e w' ⟨rfl, rfl⟩
  go_wp2_with fail
  go_quiet ((go_at_call 113; exact quiet_pure (HV _).out))
  go_wp2_with (go_at_call 51; refine (fail_good _ (H.out.drewN _)).mono ?_; rintro e w' ⟨rfl, rfl⟩)
  all_goals go_ret2
  all_goals exact ⟨rfl, _, rfl⟩
theorem peek_above {w : World} {lo g k : Nat} {bs : List UInt8} (most : Int) (h : Cur w lo g bs k 0) (h3 : (vnum (bs.drop k)).2.2 = 0) (h4 : most < (vnum (bs.drop k)).1) :
    Calls Tryz.prog 91 #[cp g, .int .i64 most] w fun r w' => r = .returned (.tuple #[.int .i64 0, .int .i64 0]) ∧ ∃ m, (w.drewN m).setCell ⟨g, 2, none⟩ (.int .i64 3) = w' := by
  have H := Lib.hid h
  obtain ⟨A, c, h0, h1, h2, hrd, hk, hl, hc⟩ := h.open_
  have hcut := hrd.cut (k := k) (n := bs.length) hk (by rw [bv_length]; exact Nat.le_refl _)
  rw [List.take_of_length_le (by simp [bv_length]), ← bv_drop] at hcut
  have HC := Lib.hid hcut
  have hdl : (bs.drop k).length = bs.length - k := by simp
  have HV := fun (m : Nat) => Lib.hid (varint_any (bs.drop k) (HC.out.drewN m))
  rw [hdl] at HV
  clear hcut hrd h hdl
  generalize vnum (bs.drop k) = V at *
  unfold cp
  go_enter Tryz.func91, Tryz.ntmps91
  go_wp2_with fail
  refine (good_any H.out).mono ?_
  rintro e w' ⟨rfl, rfl⟩
  go_wp2_with fail
  go_quiet ((go_at_call 113; exact quiet_pure (HV _).out))
  go_wp2_with (go_at_call 51; refine (fail_good _ (H.out.drewN _)).mono ?_; rintro e w' ⟨rfl, rfl⟩)
  all_goals go_ret2
  all_goals exact ⟨rfl, _, rfl⟩
def peekR (bs : List UInt8) (k : Nat) (e most : Int) : Nat × Nat × Int :=
  if e ≠ 0 then (0, 0, e) else if peekE bs k most ≠ 0 then (0, 0, peekE bs k most) else ((vnum (bs.drop k)).1, (vnum (bs.drop k)).2.1, 0)
theorem vnum_size (bs : List UInt8) : (vnum bs).2.1 ≤ bs.length := by
  unfold vnum
  have := lead_le bs
  repeat' split
  all_goals (simp only []; omega)
theorem peekR_size (bs : List UInt8) (k : Nat) (e most : Int) (hk : k ≤ bs.length) : k + (peekR bs k e most).2.1 ≤ bs.length := by
  have := vnum_size (bs.drop k)
  simp only [List.length_drop] at this
  unfold peekR
  repeat' split
  all_goals (simp only []; omega)
theorem peek_any {w : World} {lo g k : Nat} {bs : List UInt8} {e : Int} (most : Int) (h : Cur w lo g bs k e) :
    Calls Tryz.prog 91 #[cp g, .int .i64 most] w fun r w' => r = .returned (.tuple #[.int .i64 ((peekR bs k e most).1 : Int), .int .i64 ((peekR bs k e most).2.1 : Int)]) ∧
      Cur w' lo g bs k (peekR bs k e most).2.2 ∧ w.grownBy w' (some g) := by
  by_cases he : e = 0
  · subst he
    by_cases h3 : (vnum (bs.drop k)).2.2 = 0
    · by_cases h4 : most < ((vnum (bs.drop k)).1 : Int)
      · rw [show peekR bs k 0 most = (0, 0, 3) from by simp [peekR, peekE, h3, h4]]
        refine (peek_above most h h3 h4).mono ?_
        rintro r w' ⟨rfl, m, rfl⟩
        exact ⟨rfl, (h.drewN m).setErr 3, gb_setCell (gb_drewN (gb_refl w _) m) (.inl rfl) _⟩
      · have h0 : peekE bs k most = 0 := by simp [peekE, h3]; omega
        rw [show peekR bs k 0 most = ((vnum (bs.drop k)).1, (vnum (bs.drop k)).2.1, 0) from by simp [peekR, h0]]
        refine (peek_good most h h0).mono ?_
        rintro r w' ⟨rfl, m, rfl⟩
        exact ⟨rfl, h.drewN m, gb_drewN (gb_refl w _) m⟩
    · rw [show peekR bs k 0 most = (0, 0, (vnum (bs.drop k)).2.2) from by simp [peekR, peekE, h3]]
      refine (peek_form most h h3).mono ?_
      rintro r w' ⟨rfl, m, rfl⟩
      exact ⟨rfl, (h.drewN m).setErr _, gb_setCell (gb_drewN (gb_refl w _) m) (.inl rfl) _⟩
  · rw [show peekR bs k e most = (0, 0, e) from by simp [peekR, he]]
    refine (peek_bad most h he).mono ?_
    rintro r w' ⟨rfl, rfl⟩
    exact ⟨rfl, h, gb_refl w _⟩
def mostR (bs : List UInt8) (k : Nat) (e most : Int) : Nat × Nat × Int := ((peekR bs k e most).1, k + (peekR bs k e most).2.1, (peekR bs k e most).2.2)
theorem takeR_skip (bs : List UInt8) (k : Nat) (e most : Int) (hk : k ≤ bs.length) :
    takeR bs k (peekR bs k e most).2.2 (peekR bs k e most).2.1 0 = ([], (mostR bs k e most).2.1, (mostR bs k e most).2.2) := by
  have hs := peekR_size bs k e most hk
  by_cases h : (peekR bs k e most).2.2 = 0
  · unfold mostR
    rw [h]
    have h2 : ¬ ((bs.length : Int) - k - ((peekR bs k e most).2.1 : Int) < 0) := by omega
    simp [takeR, h2]
  · have h1 : (peekR bs k e most).2.1 = 0 := by
      unfold peekR at h ⊢
      repeat' split
      all_goals first | rfl | (rename_i a b; simp [a, b] at h)
    simp [takeR, h, mostR, h1]
theorem most_any {w : World} {lo g k : Nat} {bs : List UInt8} {e : Int} (most : Int) (h : Cur w lo g bs k e) :
    Calls Tryz.prog 74 #[cp g, .int .i64 most] w fun r w' => r = .returned (.int .i64 ((mostR bs k e most).1 : Int)) ∧
      Cur w' lo g bs (mostR bs k e most).2.1 (mostR bs k e most).2.2 ∧ w.grownBy w' (some g) := by
  have hk := h.le
  have HP := Lib.hid (peek_any most h)
  have hs := peekR_size bs k e most hk
  have HT := Lib.hid (takeR_skip bs k e most hk)
  have HE0 : (mostR bs k e most).1 = (peekR bs k e most).1 := rfl
  have HE := Lib.hid HE0
  clear h HE0
  generalize mostR bs k e most = M at *
  generalize peekR bs k e most = R at *
  go_enter Tryz.func74, Tryz.ntmps74
  go_wp2_with fail
  refine HP.out.mono ?_
  rintro r w1 ⟨rfl, hc1, hg1⟩
  have HC := Lib.hid hc1
  clear hc1
  go_wp2_with fail
  refine (take_any _ _ HC.out hs).mono ?_
  rintro r w2 ⟨A, c, rfl, hrd, hc2, hg2⟩
  rw [HT.out] at hc2
  clear hrd
  have HC2 := Lib.hid hc2
  clear hc2
  go_wp2_with fail
  go_ret
  exact ⟨by rw [HE.out]; rfl, HC2.out, hg1.trans hg2⟩
end Go.Proofs.YtmffpbhiehjlpaaGreat
namespace Go.Proofs.YtmffpbhiehjlpaaGreat
set_option linter.unusedSimpArgs false
set_option linter.unusedVariables false
open Go.RowKit
theorem mostR_le (bs : List UInt8) (k : Nat) (e most : Int) : (mostR bs k e most).1 = 0 ∨ ((mostR bs k e most).1 : Int) ≤ most := by
  unfold mostR peekR
  by_cases he : e ≠ 0
  · rw [if_pos he]; exact .inl rfl
  · rw [if_neg he]
    by_cases hp : peekE bs k most ≠ 0
    · rw [if_pos hp]; exact .inl rfl
    · rw [if_neg hp]
      refine .inr ?_
      have h : peekE bs k most = 0 := Decidable.not_not.1 hp
      unfold peekE at h
      split at h
      · contradiction
      · split at h
        · omega
        · simp only []; omega
end Go.Proofs.YtmffpbhiehjlpaaGreat
