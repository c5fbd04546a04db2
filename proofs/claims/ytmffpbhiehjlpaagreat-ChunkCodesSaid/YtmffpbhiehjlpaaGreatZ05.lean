/-
  The bytes of a varint, in plain.
  The document's own Put.
  The bytes of numbers, in plain; the document's Write of layer 3.
  The bytes of a text, in plain; append of a string.
  Dictionaries in plain: what is one, its entries, its bytes; strings put in order.
  math/bits.Len in this program: the library's own contract, laid at this program's numbers.
  The pack's small functions: right, size, Width.
  The pack's size, by its answer.
  The pack's Get.
-/
import Derived.Test.YtmffpbhiehjlpaaGreatZ02
import Derived.Test.YtmffpbhiehjlpaaGreatZ03
import Derived.Test.YtmffpbhiehjlpaaGreatZ04
import Derived.Test.YtmffpbhiehjlpaaGreatZ01
import Derived.Test.YtmffpbhiehjlpaaGreatRows
import Derived.Laws.BitsAll
namespace Go.Proofs.YtmffpbhiehjlpaaGreat
set_option linter.unusedSimpArgs false
set_option linter.unusedVariables false
open Go.RowKit
def putL (n : Nat) : List UInt8 :=
  if h : n < 128 then [UInt8.ofNat n] else UInt8.ofNat (n % 128 + 128) :: putL (n / 128)
termination_by n
decreasing_by omega
theorem putL_small {n : Nat} (h : n < 128) : putL n = [UInt8.ofNat n] := by rw [putL, dif_pos h]
theorem putL_big {n : Nat} (h : 128 ≤ n) : putL n = UInt8.ofNat (n % 128 + 128) :: putL (n / 128) := by rw [putL, dif_neg (by omega)]
theorem putL_le (k : Nat) : ∀ n : Nat, n < 128 ^ (k + 1) → (putL n).length ≤ k + 1 := by
  induction k with
  | zero => intro n h; rw [putL_small (by simpa using h)]; simp
  | succ k ih =>
    intro n h
    by_cases hn : n < 128
    · rw [putL_small hn]; simp
    · rw [putL_big (by omega)]
      have := ih (n / 128) (by rw [Nat.pow_succ] at h; omega)
      simp only [List.length_cons]
      omega
theorem putL_pos (n : Nat) : 0 < (putL n).length := by
  by_cases hn : n < 128
  · rw [putL_small hn]; simp
  · rw [putL_big (by omega)]; simp
theorem putL_nine (n : Nat) (h : n ≤ 9223372036854775807) : (putL n).length ≤ 9 := putL_le 8 n (by omega)
theorem or128 : ∀ x : Fin 256, x.val ||| 128 = x.val % 128 + 128 := by decide +kernel
theorem or_more (m : Nat) : bits .or .u8 ((m : Int) % 256) 128 = ((UInt8.ofNat (m % 128 + 128)).toNat : Int) := by
  have h1 : bits .or .u8 ((m % 256 : Nat) : Int) ((128 : Nat) : Int) = ((m % 256 ||| 128 : Nat) : Int) := u8_or_nat _ _ (by omega) (by omega)
  have h2 := or128 ⟨m % 256, by omega⟩
  simp only [] at h2
  have h3 : (UInt8.ofNat (m % 128 + 128)).toNat = m % 128 + 128 := by rw [UInt8.toNat_ofNat']; omega
  rw [h3, show m % 128 + 128 = m % 256 % 128 + 128 from by omega, ← h2, ← h1, Int.natCast_emod]
  rfl
end Go.Proofs.YtmffpbhiehjlpaaGreat
namespace Go.Proofs.YtmffpbhiehjlpaaGreat
set_option linter.unusedSimpArgs false
set_option linter.unusedVariables false
open Go.RowKit
set_option maxRecDepth 20000 in
theorem refPut_any (n : Nat) : ∀ {w : World}, n ≤ 9223372036854775807 →
    Calls Tryz.prog 66 #[.int .i64 (n : Int)] w fun r w' => ∃ A c, r = .returned (.slice A (putL n).length c) ∧ w'.ownsRow w.heap.size 5 1 (.slice A (putL n).length c) (putL n).length (bv (putL n)) ∧ Below w.heap.size w w' := by
  induction n using Nat.strongRecOn with
  | ind n ih =>
    intro w hn
    have h9 := putL_nine n hn
    have HI := Lib.hid ih
    clear ih
    by_cases hlt : n < 128
    · have HE := Lib.hid (putL_small hlt)
      have HA : Hid ((UInt8.ofNat n).toNat = n) := by
        unfold Hid
        rw [UInt8.toNat_ofNat']; omega
      go_enter Tryz.func66, Tryz.ntmps66
      go_wp2
      go_ret
      rw [HE.out]
      have hv : bv [UInt8.ofNat n] = [.int .u8 (n : Int)] := by simp only [bv, List.map_cons, List.map_nil, HA.out]
      refine ⟨_, _, rfl, ?_, (Below.refl _ _).alloc (Nat.le_refl _) _⟩
      rw [hv]
      exact World.ownsRow_lit w #[_] 1 (Nat.le_refl _) (by simp [maxLen]) rfl
    · have HE := Lib.hid (putL_big (n := n) (by omega))
      have h10 := putL_nine (n / 128) (by omega)
      have HA : Hid ((UInt8.ofNat (n % 128 + 128)).toNat = n % 128 + 128) := by
        unfold Hid
        rw [UInt8.toNat_ofNat']; omega
      go_enter Tryz.func66, Tryz.ntmps66
      go_wp2_with fail
      rw [show ((n : Int) / 128) = ((n / 128 : Nat) : Int) from by omega]
      refine (HI.out (n / 128) (by omega) (by omega)).mono ?_
      rintro r w1 ⟨A, c, rfl, hown, hbel⟩
      have hsz := hbel.size
      simp only [World.size_alloc] at hsz
      have hlit := own_below (own_byte w 5 _ (UInt8.ofNat (n % 128 + 128)) (by rw [HA.out]; omega)) hbel (by simp)
      obtain ⟨A', c', w2, hrun, hown2, hg2⟩ := append_bytes w1 w.heap.size _ _ _ hlit (Rd.own hown) (by simp; omega) (by omega)
      have HO2 := Lib.hid hown2
      have HG2 := Lib.hid hg2
      have HB := Lib.hid hbel
      clear hown hown2 hg2 hbel hlit
      go_wp2_with (at_builtin; refine wpList_append_run rfl _ _ _ _ rfl rfl rfl hrun ?_)
      go_ret
      have e : (putL n).length = 1 + (putL (n / 128)).length := by rw [HE.out]; simp; omega
      refine ⟨A', c', by rw [e]; rfl, ?_, ?_⟩
      · rw [e, HE.out]; exact HO2.out
      · exact (((Below.refl _ _).alloc (Nat.le_refl _) _).trans (HB.out.mono (by simp))).grown HG2.out (by omega) (by simp [Value.ownBlock])
end Go.Proofs.YtmffpbhiehjlpaaGreat
namespace Go.Proofs.YtmffpbhiehjlpaaGreat
set_option linter.unusedSimpArgs false
set_option linter.unusedVariables false
open Go.RowKit
def writeL (zs : List Int) : List UInt8 := putL zs.length ++ ([UInt8.ofNat (wide zs)] ++ packL (wide zs) (nats zs))
theorem writeL_length {zs : List Int} (h : May zs) (hlen : zs.length ≤ 4294967295) : (writeL zs).length ≤ 4294967295 * 5 := by
  have h1 := putL_nine zs.length (by omega)
  have h2 := h.wide_le
  have h3 : zs.length * wide zs ≤ 4294967295 * 32 := Nat.mul_le_mul hlen h2
  simp only [writeL, List.length_append, List.length_cons, List.length_nil, packL_length, nats_length]
  omega
theorem ofNat_toNat_lt {n : Nat} (h : n < 256) : (UInt8.ofNat n).toNat = n := by rw [UInt8.toNat_ofNat']; omega
theorem pput_may {w : World} (zs : List Int) (hm : May zs) {h' : Nat} {A : Option Addr} {c : Nat} (h : Rd w 0 h' A c (iv zs)) (hh : h' ≤ w.heap.size) (hlen : zs.length ≤ 4294967295) :
    Calls Tryz.prog 69 #[.slice A zs.length c, .int .i64 (wide zs : Int)] w fun r w' => ∃ A' c', r = .returned (.tuple #[.slice A' (packL (wide zs) (nats zs)).length c', .int .i64 0]) ∧
      w'.ownsRow w.heap.size 5 1 (.slice A' (packL (wide zs) (nats zs)).length c') (packL (wide zs) (nats zs)).length (bv (packL (wide zs) (nats zs))) ∧ Below w.heap.size w w' := by
  have := rput_any (w := w) zs (wide zs) h hh hlen
  rw [putR_yes hm.fits, Int.toNat_natCast] at this
  exact this
set_option maxHeartbeats 400000 in
theorem rwrite_any {w : World} (zs : List Int) (hm : May zs) {h' : Nat} {A : Option Addr} {c : Nat} (h : Rd w 0 h' A c (iv zs)) (hh : h' ≤ w.heap.size) (hlen : zs.length ≤ 4294967295) :
    Calls Tryz.prog 44 #[.slice A zs.length c] w fun r w' => ∃ A' c', r = .returned (.slice A' (writeL zs).length c') ∧
      w'.ownsRow w.heap.size 5 1 (.slice A' (writeL zs).length c') (writeL zs).length (bv (writeL zs)) ∧ Below w.heap.size w w' := by
  have h1 := putL_nine zs.length (by omega)
  have h2 := hm.wide_le
  have h3 : zs.length * wide zs ≤ 4294967295 * 32 := Nat.mul_le_mul hlen h2
  have h4 : (packL (wide zs) (nats zs)).length ≤ 4294967295 * 4 + 1 := by rw [packL_length, nats_length]; omega
  have h5 : (packL (wide zs) (nats zs)).length ≤ 140737488355328 := by omega
  have HE : Hid (putL zs.length ++ ([UInt8.ofNat (wide zs)] ++ packL (wide zs) (nats zs)) = writeL zs) := rfl
  have HB := Lib.hid (ofNat_toNat_lt (n := wide zs) (by omega))
  have HWD := fun (w1 : World) (h : Rd w1 0 h' A c (iv zs)) => Lib.hid (rwidth_any (w := w1) (A := A) (c := c) zs hm h)
  have HPT := fun (w1 : World) (h : Rd w1 0 h' A c (iv zs)) (hh : h' ≤ w1.heap.size) => Lib.hid (pput_may (w := w1) (A := A) (c := c) (h' := h') zs hm h hh hlen)
  have H := Lib.hid h
  clear h hm
  generalize packL (wide zs) (nats zs) = pk at *
  generalize wide zs = wd at *
  go_enter Tryz.func44, Tryz.ntmps44
  go_wp2_with fail
  refine (HWD _ H.out).out.mono ?_
  rintro r w' ⟨rfl, n0, rfl⟩
  go_wp2_with fail
  refine (HPT _ (H.out.drewN n0) hh).out.mono ?_
  rintro r w1 ⟨A1, c1, rfl, hown1, hb1⟩
  have hb1' : Below w.heap.size w w1 := below_below (below_drewN' (Below.refl w.heap.size w) n0) hb1 (Nat.le_refl _)
  have HO1 := Lib.hid hown1
  have HB1 := Lib.hid hb1'
  have s1 := hb1'.size
  clear hown1 hb1 hb1'
  go_wp2_with fail
  refine (refPut_any zs.length (by omega)).mono ?_
  rintro r w2 ⟨A2, c2, rfl, hown2, hb2⟩
  have HO2 := Lib.hid hown2
  have HB2 := Lib.hid (below_below HB1.out hb2 s1)
  have hb2' := hb2
  have s2 := hb2.size
  clear hown2 hb2
  generalize putL zs.length = pl at *
  go_wp2_with fail
  refine (HWD _ (H.out.below HB2.out hh)).out.mono ?_
  rintro r w' ⟨rfl, n1, rfl⟩
  have HO2' : Hid ((w2.drewN n1).ownsRow w1.heap.size 5 1 (.slice A2 pl.length c2) pl.length (bv pl)) := HO2.out
  have hb2n : Below w1.heap.size w1 (w2.drewN n1) := below_drewN' hb2' n1
  have HB2n := Lib.hid (below_drewN' HB2.out n1)
  have s2n : w1.heap.size ≤ (w2.drewN n1).heap.size := s2
  generalize w2.drewN n1 = w3 at *
  go_wp2_with (at_builtin; refine wpList_push (v := .slice A2 pl.length c2) w1.heap.size pl (UInt8.ofNat wd) rfl _ _ rfl rfl rfl rfl (by rw [HB.out, World.cell?_alloc_at _ _ _ _ rfl]; first | rfl | (simp; omega)) (HO2'.out.alloc _) (by omega) (by simp; omega) ?_; intro A4 c4 w4 hown4 hgr4; refine held ?_)
  refine ⟨?_⟩
  have HR4 := Lib.hid ((((Rd.own HO1.out).below hb2n (Nat.le_refl _)).alloc s2n (.cells #[.int .u8 (wd : Int)] 5)).grown hgr4 (by simp; omega) (fun k hk => .inr (own_row HO2'.out k hk)))
  have k4 := (HB2n.out.alloc (Nat.le_trans s1 s2n) _).grown hgr4 (by simp; omega) (fun k hk => Nat.le_trans s1 (own_row HO2'.out k hk))
  have HB4 := Lib.hid k4
  obtain ⟨A5, c5, w5, hrun5, hown5, hg5⟩ := append_named w4 w.heap.size _ (pl ++ [UInt8.ofNat wd]) pk (writeL zs) (by rw [List.append_assoc]; exact HE.out) (own_base hown4 s1) HR4.out (by simp; omega) k4.size
  rw [show (pl ++ [UInt8.ofNat wd]).length = pl.length + 1 from by simp] at hrun5 hown4 hg5
  have HO5 := Lib.hid hown5
  have HG5 := Lib.hid hg5
  have HO4 := Lib.hid hown4
  clear hown4 hgr4 hown5 hg5 k4 hb2' hb2n
  go_wp2_with (at_builtin; refine wpList_append_run rfl _ _ _ _ rfl rfl rfl hrun5 ?_)
  go_ret
  exact ⟨A5, c5, rfl, HO5.out, HB4.out.grown HG5.out HB4.out.size (fun k hk => Nat.le_trans s1 (own_row HO4.out k hk))⟩
end Go.Proofs.YtmffpbhiehjlpaaGreat
namespace Go.Proofs.YtmffpbhiehjlpaaGreat
set_option linter.unusedSimpArgs false
set_option linter.unusedVariables false
open Go.RowKit
theorem append_string (w : World) (base : Nat) (v : Value) (ys : List UInt8) (s : ByteArray) (hown : w.ownsRow base 5 1 v ys.length (bv ys))
    (hb : ys.length + s.size ≤ 140737488355328) (hbase : base ≤ w.heap.size) :
    ∃ A' c' w', (Builtin.append_ #[28, 9] 28 #[v, .string s]).run Tryz.prog w = .ok (.slice A' (ys.length + s.size) c') w' ∧
      w'.ownsRow base 5 1 (.slice A' (ys.length + s.size) c') (ys.length + s.size) (bv (ys ++ s.data.toList)) ∧ w.grownBy w' v.ownBlock := by
  obtain ⟨i0, hi0, hz0, hz1, hz2⟩ := info_parts Tryz.infoU8
  obtain ⟨v', w', hrun, h2, h3, _⟩ := Lib.run_append_own_string (P := Tryz.prog) w base 28 9 28 5 i0 Tryz.underlying28 Tryz.underlying9 hi0 hz0 hz1 hz2 v ys.length (bv ys) hown s (by simp only [maxLen]; omega) hb hbase
  obtain ⟨A', c', rfl, _⟩ := own_form w' h2
  exact ⟨A', c', w', hrun, by rw [bv_append]; exact h2, h3⟩
def textL (s : List UInt8) : List UInt8 := putL s.length ++ s
end Go.Proofs.YtmffpbhiehjlpaaGreat
namespace Go.Proofs.YtmffpbhiehjlpaaGreat
set_option linter.unusedSimpArgs false
set_option linter.unusedVariables false
def dicL (l : List (List UInt8)) : Bool := decide (l.length ≤ 4096) && l.all (fun s => decide (s.length ≤ 4096)) && risesL l
theorem dicL_iff {l : List (List UInt8)} : dicL l = true ↔ l.length ≤ 4096 ∧ (∀ s ∈ l, s.length ≤ 4096) ∧ risesL l = true := by
  unfold dicL
  rw [Bool.and_eq_true, Bool.and_eq_true, decide_eq_true_eq, List.all_eq_true, and_assoc]
  simp only [decide_eq_true_eq]
def shareN : List UInt8 → List UInt8 → Nat
  | x :: a, y :: b => if x = y then shareN a b + 1 else 0
  | _, _ => 0
theorem share_le : ∀ a b : List UInt8, shareN a b ≤ a.length ∧ shareN a b ≤ b.length
  | [], _ => ⟨Nat.zero_le _, Nat.zero_le _⟩
  | _ :: _, [] => ⟨Nat.zero_le _, Nat.zero_le _⟩
  | x :: a, y :: b => by
    unfold shareN
    have := share_le a b
    split <;> simp <;> omega
theorem share_is : ∀ {a b : List UInt8} {n : Nat} (hn : n ≤ a.length) (hm : n ≤ b.length), a.take n = b.take n → (∀ (h1 : n < a.length) (h2 : n < b.length), a[n] ≠ b[n]) → shareN a b = n
  | [], b, n, hn, _, _, _ => by
    obtain rfl : n = 0 := Nat.le_zero.1 hn
    cases b <;> rfl
  | x :: a, [], n, _, hm, _, _ => by
    obtain rfl : n = 0 := Nat.le_zero.1 hm
    rfl
  | x :: a, y :: b, 0, _, _, _, h => by
    have := h (by simp) (by simp)
    simp only [List.getElem_cons_zero] at this
    unfold shareN
    rw [if_neg this]
  | x :: a, y :: b, n + 1, hn, hm, he, h => by
    simp only [List.take_succ_cons, List.cons.injEq] at he
    unfold shareN
    rw [if_pos he.1, share_is (n := n) (by simpa using hn) (by simpa using hm) he.2 (fun h1 h2 => by
      have := h (by simpa using h1) (by simpa using h2)
      simpa using this)]
def entL (block i : Nat) (prev cur : List UInt8) : List UInt8 :=
  if i % block = 0 then textL cur else putL (shareN prev cur) ++ textL (cur.drop (shareN prev cur))
def entI (block : Nat) (l : List (List UInt8)) (i : Nat) : List UInt8 := entL block i (l.getD (i - 1) []) (l.getD i [])
def entsL (block : Nat) (l : List (List UInt8)) (k : Nat) : List UInt8 := ((List.range k).map (entI block l)).flatten
theorem ents_zero (block : Nat) (l : List (List UInt8)) : entsL block l 0 = [] := rfl
theorem ents_succ (block : Nat) (l : List (List UInt8)) (k : Nat) : entsL block l (k + 1) = entsL block l k ++ entI block l k := by
  unfold entsL
  rw [List.range_succ, List.map_append, List.flatten_append]
  simp
def bumpL (ss : List Nat) (n : Nat) : List Nat := ss.set (ss.length - 1) (ss.getLastD 0 + n)
theorem bump_length (ss : List Nat) (n : Nat) : (bumpL ss n).length = ss.length := by simp [bumpL]
def sizesN (block : Nat) (l : List (List UInt8)) : Nat → List Nat
  | 0 => []
  | k + 1 => bumpL (if k % block = 0 then sizesN block l k ++ [0] else sizesN block l k) (entI block l k).length
theorem sizes_len (block : Nat) (l : List (List UInt8)) : ∀ k, (sizesN block l k).length ≤ k
  | 0 => Nat.le_refl _
  | k + 1 => by
    have := sizes_len block l k
    unfold sizesN
    rw [bump_length]
    split
    · rw [List.length_append]; simp; omega
    · omega
theorem sizes_pos (block : Nat) (l : List (List UInt8)) : ∀ k, 0 < k → 0 < (sizesN block l k).length
  | 0, h => absurd h (by omega)
  | k + 1, _ => by
    unfold sizesN
    rw [bump_length]
    split
    · rw [List.length_append]; simp
    · rename_i h
      have hk : 0 < k := Nat.pos_of_ne_zero fun e => h (by rw [e]; exact Nat.zero_mod _)
      exact sizes_pos block l k hk
theorem getLastD_mem {ss : List Nat} : ss.getLastD 0 = 0 ∨ ss.getLastD 0 ∈ ss := by
  cases ss with
  | nil => exact Or.inl rfl
  | cons a t =>
    right
    rw [List.getLastD_eq_getLast?, List.getLast?_eq_some_getLast (by simp)]
    exact List.getLast_mem _
theorem sizes_le (block : Nat) (l : List (List UInt8)) : ∀ k, ∀ x ∈ sizesN block l k, x ≤ (entsL block l k).length
  | 0, x, hx => by cases hx
  | k + 1, x, hx => by
    have ih := sizes_le block l k
    have hl : ∀ y ∈ (if k % block = 0 then sizesN block l k ++ [0] else sizesN block l k), y ≤ (entsL block l k).length := by
      intro y hy
      split at hy
      · rcases List.mem_append.1 hy with h | h
        · exact ih y h
        · rw [List.mem_singleton.1 h]; exact Nat.zero_le _
      · exact ih y hy
    unfold sizesN bumpL at hx
    generalize (if k % block = 0 then sizesN block l k ++ [0] else sizesN block l k) = ss at *
    rw [ents_succ, List.length_append]
    rcases List.mem_or_eq_of_mem_set hx with h | rfl
    · have := hl x h; omega
    · rcases getLastD_mem (ss := ss) with h | h
      · rw [h]; omega
      · have := hl _ h; omega
theorem entI_len (block : Nat) {l : List (List UInt8)} (h : ∀ s ∈ l, s.length ≤ 4096) (k : Nat) : (entI block l k).length ≤ 4200 := by
  have hd : ∀ i, (l.getD i []).length ≤ 4096 := fun i => by
    rw [List.getD_eq_getElem?_getD]
    cases he : l[i]? with
    | none => simp
    | some s => exact h s (List.mem_of_getElem? he)
  have hp : ∀ n, n ≤ 4096 → (putL n).length ≤ 9 := fun n hn => putL_nine n (by omega)
  have h1 := hd k
  have h2 := share_le (l.getD (k - 1) []) (l.getD k [])
  unfold entI entL textL
  split
  · rw [List.length_append]
    have := hp _ h1
    omega
  · rw [List.length_append, List.length_append]
    have h3 := hp (shareN (l.getD (k - 1) []) (l.getD k [])) (by omega)
    have h4 := hp (List.drop (shareN (l.getD (k - 1) []) (l.getD k [])) (l.getD k [])).length (by rw [List.length_drop]; omega)
    have h5 := List.length_drop (i := shareN (l.getD (k - 1) []) (l.getD k [])) (l := l.getD k [])
    omega
theorem ents_len (block : Nat) {l : List (List UInt8)} (h : ∀ s ∈ l, s.length ≤ 4096) : ∀ k, (entsL block l k).length ≤ 4200 * k
  | 0 => Nat.le_refl _
  | k + 1 => by
    rw [ents_succ, List.length_append]
    have h1 := ents_len block h k
    have h2 := entI_len block h k
    omega
def frontL (block : Nat) (l : List (List UInt8)) : List UInt8 := putL l.length ++ putL block ++ writeL (ints (sizesN block l l.length)) ++ entsL block l l.length
end Go.Proofs.YtmffpbhiehjlpaaGreat
namespace Go.Proofs.YtmffpbhiehjlpaaGreat
set_option linter.unusedSimpArgs false
set_option linter.unusedVariables false
open Go.Shelf
def lenRen : Go.Shelf.Ren := ⟨fun | 125 => 131 | 128 => 149 | 129 => 150 | n => n, fun | 46 => 115 | 3 => 3 | 51 => 167 | 53 => 155 | 4 => 4 | 5 => 5 | 9 => 9 | n => n, fun | n => n⟩
theorem lenLays : Go.Proofs.Lays.n125 Tryz.prog lenRen := {
  mixed := by kernel_rfl
  f125 := Tryz.func131.trans (congrArg some (by kernel_rfl))
  f128 := Tryz.func149.trans (congrArg some (by kernel_rfl))
  f129 := Tryz.func150.trans (congrArg some (by kernel_rfl))
  t3 := Tryz.underlying3
  a3 := Tryz.isAgg3
  z3 := Tryz.sizeOf3
  v3 := Tryz.zeroValue3
  t4 := Tryz.underlying4
  a4 := Tryz.isAgg4
  z4 := Tryz.sizeOf4
  v4 := Tryz.zeroValue4
  t5 := Tryz.underlying5
  a5 := Tryz.isAgg5
  z5 := Tryz.sizeOf5
  v5 := Tryz.zeroValue5
  t9 := Tryz.underlying9
  a9 := Tryz.isAgg9
  z9 := Tryz.sizeOf9
  v9 := Tryz.zeroValue9
  t46 := Tryz.underlying115
  a46 := Tryz.isAgg115
  z46 := Tryz.sizeOf115
  v46 := Tryz.zeroValue115
  t51 := Tryz.underlying167
  a51 := Tryz.isAgg167
  z51 := Tryz.sizeOf167
  v51 := Tryz.zeroValue167
  t53 := Tryz.underlying155
  a53 := Tryz.isAgg155
  z53 := Tryz.sizeOf155
  v53 := Tryz.zeroValue155 }
theorem len_any {w : World} (x : Int) (h0 : 0 ≤ x) (h1 : x ≤ 18446744073709551615) :
    Calls Tryz.prog 131 #[.int .u64 x] w fun e w' => e = .returned (.int .i64 (Lib.bitLen x.toNat)) ∧ w = w' :=
  (Any.bits_Len lenLays x w h0 h1).mono fun _ _ ⟨h, e⟩ => ⟨h, e.symm⟩
end Go.Proofs.YtmffpbhiehjlpaaGreat
namespace Go.Proofs.YtmffpbhiehjlpaaGreat
set_option linter.unusedSimpArgs false
set_option linter.unusedVariables false
open Go.RowKit
theorem right_any {w : World} (n : Int) :
    Calls Tryz.prog 115 #[.int .i64 n] w fun r w' => r = .returned (.bool (rightB n)) ∧ w = w' := by
  unfold rightB
  by_cases h0 : 0 ≤ n
  · by_cases h1 : n ≤ 32
    · rw [decide_eq_true (by omega)]
      go_enter Tryz.func115, Tryz.ntmps115
      go_wp2
      go_ret
      exact ⟨rfl, rfl⟩
    · rw [decide_eq_false (by omega)]
      go_enter Tryz.func115, Tryz.ntmps115
      go_wp2
      go_ret
      exact ⟨rfl, rfl⟩
  · rw [decide_eq_false (by omega)]
    go_enter Tryz.func115, Tryz.ntmps115
    go_wp2
    go_ret
    exact ⟨rfl, rfl⟩
theorem right_is {w : World} (n : Int) (b : Bool) (h : rightB n = b) :
    Calls Tryz.prog 115 #[.int .i64 n] w fun r w' => r = .returned (.bool b) ∧ w = w' := by
  subst h
  exact right_any n
theorem size_any {w : World} (n wd : Nat) (h : n * wd ≤ 1000000000000000) :
    Calls Tryz.prog 116 #[.int .i64 (n : Int), .int .i64 (wd : Int)] w fun r w' => r = .returned (.int .i64 (((n * wd + 7) / 8 : Nat) : Int)) ∧ w = w' := by
  have e0 : (n : Int) * (wd : Int) = ((n * wd : Nat) : Int) := (Int.natCast_mul n wd).symm
  have h1 : 0 ≤ (n : Int) * (wd : Int) := by omega
  have h2 : (n : Int) * (wd : Int) ≤ 1000000000000000 := by omega
  have E := Lib.hid e0
  clear e0 h
  go_enter Tryz.func116, Tryz.ntmps116
  go_wp2
  go_ret
  exact ⟨ret_int' (by rw [E.out]; omega), rfl⟩
theorem greatest_u {g : Int} (h0 : 0 ≤ g) (h1 : g ≤ 9223372036854775807) : IntKind.u64.wrap g = g := by
  rw [IntKind.wrap_u64]; omega
theorem width_any {w : World} (zs : List Int) (hz : Word zs) {lo h' : Nat} {A : Option Addr} {c : Nat} (h : Rd w lo h' A c (iv zs)) :
    Calls Tryz.prog 118 #[.slice A zs.length c] w fun r w' => r = .returned (.int .i64 (wide zs : Int)) ∧ w = w' := by
  have hl := h.len
  have hc := h.cap
  rw [iv_length] at hl
  unfold maxLen at hc
  have H := Lib.hid h
  have HZ := Lib.hid hz
  clear h hz
  go_enter Tryz.func118, Tryz.ntmps118
  go_wp2_with fail
  go_loop [3, 8] (fun g i => ∃ k : Nat, k ≤ zs.length ∧ i = .int .i64 (k : Int) ∧ g = .int .i64 (grt (zs.take k))) (fun _ i => zs.length - (intOf i).toNat)
  case atStart => exact ⟨0, Nat.zero_le _, rfl, rfl⟩
  case round =>
    obtain ⟨k, hk, rfl, rfl⟩ := hrel
    by_cases hlt : k < zs.length
    · obtain ⟨b, off, rfl, _, _, hcell⟩ := H.out.num hlt
      have hts := Lib.hid (grt_take zs k hlt)
      generalize zs[k] = z at *
      generalize grt (zs.take k) = g at *
      go_wp2
      go_round
      case rel => exact ⟨k + 1, by omega, by go_num, by rw [hts.out]⟩
      case measure => simp [intOf]; omega
    · obtain rfl : k = zs.length := by omega
      have h0 := grt_ge zs
      have h1 := word_grt HZ.out
      have HU := Lib.hid (greatest_u h0 h1)
      have HL := Lib.hid (len_any (w := w) (grt zs) h0 (by omega))
      rw [List.take_length]
      have HE : Hid (wide zs = Lib.bitLen (grt zs).toNat) := rfl
      generalize grt zs = g at *
      go_wp2_with (go_at_call 131; refine HL.out.mono ?_; rintro r w' ⟨rfl, rfl⟩)
      go_ret
      exact ⟨ret_int' (by rw [HE.out]), rfl⟩
end Go.Proofs.YtmffpbhiehjlpaaGreat
namespace Go.Proofs.YtmffpbhiehjlpaaGreat
set_option linter.unusedSimpArgs false
set_option linter.unusedVariables false
open Go.RowKit
theorem size_is {w : World} (n wd s : Nat) (h : n * wd ≤ 1000000000000000) (hs : (n * wd + 7) / 8 = s) :
    Calls Tryz.prog 116 #[.int .i64 (n : Int), .int .i64 (wd : Int)] w fun r w' => r = .returned (.int .i64 (s : Int)) ∧ w = w' := by
  subst hs
  exact size_any n wd h
end Go.Proofs.YtmffpbhiehjlpaaGreat
namespace Go.Proofs.YtmffpbhiehjlpaaGreat
set_option linter.unusedSimpArgs false
set_option linter.unusedVariables false
open Go.RowKit
theorem mod_shift (Y n r w : Nat) (h : r + w ≤ n) : Y % 2 ^ n / 2 ^ r % 2 ^ w = Y / 2 ^ r % 2 ^ w := by
  obtain ⟨d, rfl⟩ : ∃ d, n = r + (w + d) := ⟨n - r - w, by omega⟩
  rw [Nat.pow_add, Nat.mod_mul_right_div_self, Nat.pow_add, Nat.mod_mul_right_mod]
theorem get_word (bs : List UInt8) (p f M wd : Nat) (hf : p / 8 = f) (hM : min 5 (bs.length - f) = M) (hw : wd ≤ 32) :
    bval bs / 256 ^ f % 256 ^ M / 2 ^ (p % 8) % 2 ^ wd = bval bs / 2 ^ p % 2 ^ wd := by
  have e : bval bs / 2 ^ p = bval bs / 256 ^ f / 2 ^ (p % 8) := by
    rw [pow256, Nat.div_div_eq_div_mul, ← Nat.pow_add]
    congr 2
    omega
  rw [e]
  by_cases h5 : M = 5
  · subst h5
    rw [show (256 : Nat) ^ 5 = 2 ^ 40 from by decide]
    exact mod_shift _ 40 _ _ (by omega)
  · have hlt : bval bs / 256 ^ f < 256 ^ M := by
      by_cases hfl : f ≤ bs.length
      · apply Nat.div_lt_of_lt_mul
        rw [← Nat.pow_add, show f + M = bs.length from by omega]
        exact bval_lt bs
      · have h0 : bval bs / 256 ^ f = 0 := by rw [pow256]; exact bval_over bs _ (by omega)
        rw [h0]
        exact Nat.pow_pos (by omega)
    rw [Nat.mod_eq_of_lt hlt]
theorem get_next (bs : List UInt8) (f j : Nat) (h : f + j < bs.length) : bval bs / 256 ^ f % 256 ^ (j + 1) = bval bs / 256 ^ f % 256 ^ j + 2 ^ (8 * j) * bs[f + j].toNat := by
  rw [Nat.pow_succ, Nat.mod_mul, ← bval_at bs (f + j) h, pow256 j, Nat.pow_add, ← Nat.div_div_eq_div_mul, pow256 j]
theorem or_byte (W x j : Nat) (hW : W < 2 ^ (8 * j)) (hx : x < 256) (hj : j < 5) :
    bits .or .u64 (W : Int) (IntKind.u64.wrap ((x : Int) * 2 ^ (8 * j))) = ((W + 2 ^ (8 * j) * x : Nat) : Int) ∧ W + 2 ^ (8 * j) * x < 1099511627776 := by
  have hp : 2 ^ (8 * j) ≤ 2 ^ 32 := Nat.pow_le_pow_right (by omega) (by omega)
  have hb : 2 ^ (8 * j) * x ≤ 2 ^ 32 * 255 := Nat.mul_le_mul hp (by omega)
  have e2 : (2 : Int) ^ (8 * j) = ((2 ^ (8 * j) : Nat) : Int) := by norm_cast
  have e3 : IntKind.u64.wrap ((2 ^ (8 * j) * x : Nat) : Int) = ((2 ^ (8 * j) * x : Nat) : Int) := by rw [IntKind.wrap_u64]; omega
  refine ⟨?_, by omega⟩
  rw [e2, Int.mul_comm, ← Int.natCast_mul, e3, u64_or_nat _ _ (by omega) (by omega)]
  congr 1
  rw [Nat.or_comm, Nat.mul_comm, ← Nat.shiftLeft_eq, ← Nat.shiftLeft_add_eq_or_of_lt hW, Nat.add_comm]
theorem mask_at (W r wd : Nat) (hW : W < 1099511627776) (hw : wd ≤ 32) :
    wrap64 (bits .and .u64 ((W : Int) / 2 ^ r) (IntKind.u64.wrap (IntKind.u64.wrap ((2 : Int) ^ wd) - 1))) = ((W / 2 ^ r % 2 ^ wd : Nat) : Int) := by
  have hp : 2 ^ wd ≤ 2 ^ 32 := Nat.pow_le_pow_right (by omega) hw
  have hp0 : 0 < 2 ^ wd := Nat.two_pow_pos wd
  have e1 : (2 : Int) ^ wd = ((2 ^ wd : Nat) : Int) := by norm_cast
  have e2 : IntKind.u64.wrap ((2 ^ wd : Nat) : Int) = ((2 ^ wd : Nat) : Int) := by rw [IntKind.wrap_u64]; omega
  have e3 : IntKind.u64.wrap (((2 ^ wd : Nat) : Int) - 1) = ((2 ^ wd - 1 : Nat) : Int) := by rw [IntKind.wrap_u64]; omega
  have e4 : (W : Int) / 2 ^ r = ((W / 2 ^ r : Nat) : Int) := by push_cast; rfl
  have hq : W / 2 ^ r ≤ W := Nat.div_le_self _ _
  have hm := Nat.mod_lt (W / 2 ^ r) hp0
  rw [e1, e2, e3, e4, u64_and_nat _ _ (by omega) (by omega), Nat.and_two_pow_sub_one_eq_mod]
  exact IntWalk.wrap64_in _ (by omega)
def GetAt (bs : List UInt8) (f j W : Nat) : Prop := W = bval bs / 256 ^ f % 256 ^ j
theorem getAt_lt {bs : List UInt8} {f j W : Nat} (h : GetAt bs f j W) : W < 2 ^ (8 * j) := by
  rw [h, ← pow256]; exact Nat.mod_lt _ (Nat.pow_pos (by omega))
set_option maxRecDepth 20000 in
set_option maxHeartbeats 400000 in
theorem pget_any {w : World} (bs : List UInt8) (wd i : Nat) (hw : wd ≤ 32) (hi : i ≤ 1000000000000) (hb : bs.length ≤ 1000000000000) {lo h' : Nat} {A : Option Addr} {c : Nat} (h : Rd w lo h' A c (bv bs)) :
    Calls Tryz.prog 117 #[.slice A bs.length c, .int .i64 (wd : Int), .int .i64 (i : Int)] w fun r w' => r = .returned (.int .i64 (getN bs wd i : Int)) ∧ ∃ n, w.drewN n = w' := by
  have hl := h.len
  have hc := h.cap
  rw [bv_length] at hl
  unfold maxLen at hc
  have H := Lib.hid h
  clear h
  have HR : Hid (rightB (wd : Int) = true) := decide_eq_true (by omega)
  by_cases h0 : wd = 0
  · have HE : Hid (getN bs wd i = 0) := by unfold Hid getN; rw [h0, Nat.pow_zero, Nat.mod_one]
    have hb0 : ((wd : Int) == 0) = true := by rw [beq_iff_eq]; omega
    clear h0
    go_enter Tryz.func117, Tryz.ntmps117
    go_wp2_with fail
    refine (right_is _ true HR.out).mono ?_
    rintro r w' ⟨rfl, rfl⟩
    go_wp2
    go_ret
    exact ⟨ret_int' (by rw [HE.out]; rfl), 0, rfl⟩
  · have hb0 : ((wd : Int) == 0) = false := by rw [beq_eq_false_iff_ne]; omega
    have hwp : 1 ≤ (wd : Int) := by omega
    have hq : Hid (((bs.length : Int) * 8 / (wd : Int)) = ((bs.length * 8 / wd : Nat) : Int)) := by unfold Hid; push_cast; rfl
    by_cases hov : bs.length * 8 / wd < i
    · have hov' : (bs.length : Int) * 8 / (wd : Int) < (i : Int) := by rw [hq.out]; omega
      have HE : Hid (getN bs wd i = 0) := by
        unfold Hid getN
        rw [bval_over bs _ ?_, Nat.zero_mod]
        have := (Nat.div_lt_iff_lt_mul (show 0 < wd by omega)).1 hov
        rw [Nat.mul_comm wd]
        omega
      clear hov h0
      go_enter Tryz.func117, Tryz.ntmps117
      go_wp2_with fail
      refine (right_is _ true HR.out).mono ?_
      rintro r w' ⟨rfl, rfl⟩
      go_wp2
      go_ret
      exact ⟨ret_int' (by rw [HE.out]; rfl), 0, rfl⟩
    · have hov' : (i : Int) ≤ (bs.length : Int) * 8 / (wd : Int) := by rw [hq.out]; omega
      have hp8 : i * wd ≤ bs.length * 8 := (Nat.le_div_iff_mul_le (show 0 < wd by omega)).1 (by omega)
      have hp : (i : Int) * (wd : Int) = ((i * wd : Nat) : Int) := (Int.natCast_mul i wd).symm
      have hpe : Hid (wd * i = i * wd) := Nat.mul_comm _ _
      generalize i * wd = p at *
      have hf : (p : Int) / 8 = ((p / 8 : Nat) : Int) := by omega
      have hfb : p / 8 ≤ bs.length := by omega
      generalize hfq : p / 8 = f at *
      have HF := Lib.hid hfq
      clear hfq h0 hov
      have hM : min (5 : Int) ((bs.length : Int) - (f : Int)) = ((min 5 (bs.length - f) : Nat) : Int) := by omega
      generalize hMe : min 5 (bs.length - f) = M at *
      have hM5 : M ≤ 5 := by omega
      have hMl : f + M ≤ bs.length := by omega
      have HM := Lib.hid hMe
      clear hMe
      go_enter Tryz.func117, Tryz.ntmps117
      go_wp2_with fail
      refine (right_is _ true HR.out).mono ?_
      rintro r w' ⟨rfl, rfl⟩
      go_wp2_with fail
      go_loop [8, 39] (fun x i => ∃ j W : Nat, j ≤ M ∧ i = .int .i64 (j : Int) ∧ x = .int .u64 (W : Int) ∧ GetAt bs f j W) (fun _ i => M - (intOf i).toNat)
      case atStart => exact ⟨0, 0, Nat.zero_le _, rfl, rfl, by unfold GetAt; rw [Nat.pow_zero, Nat.mod_one]⟩
      case round =>
        obtain ⟨j, W, hj, rfl, rfl, hat⟩ := hrel
        by_cases hlt : j < M
        · obtain ⟨b, off, rfl, _, _, hcell⟩ := H.out.byte (k := f + j) (by omega)
          have hnext := get_next bs f j (by omega)
          rw [← hat] at hnext
          have hW := getAt_lt hat
          generalize bs[f + j] = x8 at *
          have hx := UInt8.toNat_lt x8
          generalize x8.toNat = x at *
          obtain ⟨hor, hT⟩ := or_byte W x j hW hx (by omega)
          have HX : Hid (GetAt bs f (j + 1) (W + 2 ^ (8 * j) * x)) := hnext.symm
          clear hnext hat hW
          generalize W + 2 ^ (8 * j) * x = T at *
          go_wp2
          go_round
          case rel => exact ⟨j + 1, T, by omega, by go_num, rfl, HX.out⟩
          case measure => simp [intOf]; omega
        · obtain rfl : j = M := by omega
          have hW := getAt_lt hat
          have hW40 : W < 1099511627776 := Nat.lt_of_lt_of_le hW (Nat.pow_le_pow_right (by omega) (show 8 * j ≤ 40 by omega))
          have HE : Hid (wrap64 (bits .and .u64 ((W : Int) / 2 ^ (p % 8)) (IntKind.u64.wrap (IntKind.u64.wrap ((2 : Int) ^ wd) - 1))) = (getN bs wd i : Int)) := by
            unfold Hid getN
            rw [mask_at W (p % 8) wd hW40 hw]
            rw [hpe.out, ← get_word bs p f j wd HF.out HM.out hw, ← hat]
          clear hat hW
          go_wp2_with fail
          go_quiet (fail)
          go_wp2
          go_ret
          exact ⟨ret_int' HE.out, _, rfl⟩
end Go.Proofs.YtmffpbhiehjlpaaGreat
