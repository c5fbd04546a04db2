/-
  The pack's small functions: right, size, Width.
  The pack's small functions, and the document's: right, fit, size, Width; Power, May, Width, Ints.
  The pack's size, by its answer.
  The pack's Put.
  The pack's Get.
  The bytes of numbers, in plain; the document's Write of layer 3.
  The pack's Write, and the document's.
  The pack's Read.
-/
import Derived.Test.YtepgkdmfoojppaaLen
import Derived.Test.YtepgkdmfoojppaaByt
import Derived.Test.YtepgkdmfoojppaaMgP
import Derived.Laws.MakeOwn
import Derived.Laws.BitsAll
import Derived.Test.YtepgkdmfoojppaaRefE
import Derived.Test.YtepgkdmfoojppaaCurE
import Derived.Test.YtepgkdmfoojppaaIntA
import Derived.Test.YtepgkdmfoojppaaMgC
import Derived.Laws.OwnMore
namespace Go.Proofs.Ytepgkdmfoojppaa
set_option linter.unusedSimpArgs false
set_option linter.unusedVariables false
open Go.RowKit

theorem right_any {w : World} (n : Int) :
    Calls Try.prog 80 #[.int .i64 n] w fun r w' => r = .returned (.bool (rightB n)) ∧ w = w' := by
  unfold rightB
  by_cases h0 : 0 ≤ n
  · by_cases h1 : n ≤ 32
    · rw [decide_eq_true (by omega)]
      go_enter Try.func80, Try.ntmps80
      go_wp2
      go_ret
      exact ⟨rfl, rfl⟩
    · rw [decide_eq_false (by omega)]
      go_enter Try.func80, Try.ntmps80
      go_wp2
      go_ret
      exact ⟨rfl, rfl⟩
  · rw [decide_eq_false (by omega)]
    go_enter Try.func80, Try.ntmps80
    go_wp2
    go_ret
    exact ⟨rfl, rfl⟩

theorem right_is {w : World} (n : Int) (b : Bool) (h : rightB n = b) :
    Calls Try.prog 80 #[.int .i64 n] w fun r w' => r = .returned (.bool b) ∧ w = w' := by
  subst h
  exact right_any n

theorem size_any {w : World} (n wd : Nat) (h : n * wd ≤ 1000000000000000) :
    Calls Try.prog 76 #[.int .i64 (n : Int), .int .i64 (wd : Int)] w fun r w' => r = .returned (.int .i64 (((n * wd + 7) / 8 : Nat) : Int)) ∧ w = w' := by
  have e0 : (n : Int) * (wd : Int) = ((n * wd : Nat) : Int) := (Int.natCast_mul n wd).symm
  have h1 : 0 ≤ (n : Int) * (wd : Int) := by omega
  have h2 : (n : Int) * (wd : Int) ≤ 1000000000000000 := by omega
  have E := Lib.hid e0
  clear e0 h
  go_enter Try.func76, Try.ntmps76
  go_wp2
  go_ret
  exact ⟨ret_int' (by rw [E.out]; omega), rfl⟩

theorem greatest_u {g : Int} (h0 : 0 ≤ g) (h1 : g ≤ 9223372036854775807) : IntKind.u64.wrap g = g := by
  rw [IntKind.wrap_u64]; omega

/-- Width, of whatever numbers -/
theorem width_any {w : World} (zs : List Int) (hz : Word zs) {lo h' : Nat} {A : Option Addr} {c : Nat} (h : Rd w lo h' A c (iv zs)) :
    Calls Try.prog 55 #[.slice A zs.length c] w fun r w' => r = .returned (.int .i64 (wide zs : Int)) ∧ w = w' := by
  have hl := h.len
  have hc := h.cap
  rw [iv_length] at hl
  unfold maxLen at hc
  have H := Lib.hid h
  have HZ := Lib.hid hz
  clear h hz
  go_enter Try.func55, Try.ntmps55
  go_wp2_with fail
  go_loop [3, 8] (fun g i => ∃ k : Nat, k ≤ zs.length ∧ i = .int .i64 (k : Int) ∧ g = .int .i64 (grt (zs.take k))) (fun _ i => zs.length - (intOf i).toNat)
  case atStart => exact ⟨0, Nat.zero_le _, rfl, rfl⟩
  case round =>
    obtain ⟨k, hk, rfl, rfl⟩ := hrel
    by_cases hlt : k < zs.length
    · obtain ⟨b, off, rfl, _, _, hcell⟩ := H.out.num hlt
      have hts := Lib.hid (grt_take zs k hlt)
      generalize zs[k] = z at *
      generalize grt (zs.take k) = g at *
      go_wp2
      go_round
      case rel => exact ⟨k + 1, by omega, by go_num, by rw [hts.out]⟩
      case measure => simp [intOf]; omega
    · obtain rfl : k = zs.length := by omega
      have h0 := grt_ge zs
      have h1 := word_grt HZ.out
      have HU := Lib.hid (greatest_u h0 h1)
      have HL := Lib.hid (len_any (w := w) (grt zs) h0 (by omega))
      rw [List.take_length]
      have HE : Hid (wide zs = Lib.bitLen (grt zs).toNat) := rfl
      generalize grt zs = g at *
      go_wp2_with (go_at_call 74; refine HL.out.mono ?_; rintro r w' ⟨rfl, rfl⟩)
      go_ret
      exact ⟨ret_int' (by rw [HE.out]), rfl⟩
end Go.Proofs.Ytepgkdmfoojppaa
namespace Go.Proofs.Ytepgkdmfoojppaa
set_option linter.unusedSimpArgs false
set_option linter.unusedVariables false
open Go.RowKit

theorem shr_no {z : Int} {n : Nat} (h : (z / 2 ^ n != 0) = true) : ¬ (0 ≤ z ∧ z < 2 ^ n) := by
  rintro ⟨h0, h1⟩
  rw [Int.ediv_eq_zero_of_lt h0 h1] at h
  cases h
theorem shr_yes {z : Int} {n : Nat} (h : (z / 2 ^ n != 0) = false) : 0 ≤ z ∧ z < 2 ^ n := by
  have hp : (0 : Int) < 2 ^ n := Int.pow_pos (by omega)
  have h0 : z / 2 ^ n = 0 := by simpa using h
  have h1 := Int.mul_ediv_add_emod z (2 ^ n)
  rw [h0, Int.mul_zero] at h1
  have h2 := Int.emod_nonneg z (show (2 : Int) ^ n ≠ 0 by omega)
  have h3 := Int.emod_lt_of_pos z hp
  omega

theorem fit_any {w : World} (zs : List Int) (wd : Int) {lo h' : Nat} {A : Option Addr} {c : Nat} (h : Rd w lo h' A c (iv zs)) :
    Calls Try.prog 75 #[.slice A zs.length c, .int .i64 wd] w fun r w' => r = .returned (.bool (fitB zs wd)) ∧ w = w' := by
  have hl := h.len
  have hc := h.cap
  rw [iv_length] at hl
  unfold maxLen at hc
  have H := Lib.hid h
  clear h
  by_cases hr : 0 ≤ wd ∧ wd ≤ 32
  · have hr' : rightB wd = true := decide_eq_true hr
    have HR := Lib.hid hr'
    obtain ⟨hr0, hr1⟩ := hr
    clear hr'
    go_enter Try.func75, Try.ntmps75
    go_wp2_with fail
    refine (right_is wd true HR.out).mono ?_
    rintro r w' ⟨rfl, rfl⟩
    go_wp2_with fail
    go_loop [12] (fun i => ∃ k : Nat, k ≤ zs.length ∧ i = .int .i64 (k : Int) ∧ ∀ z ∈ zs.take k, 0 ≤ z ∧ z < 2 ^ wd.toNat) (fun i => zs.length - (intOf i).toNat)
    case atStart => exact ⟨0, Nat.zero_le _, rfl, by simp⟩
    case round =>
      obtain ⟨k, hk, rfl, hf⟩ := hrel
      have HF := Lib.hid hf
      clear hf
      by_cases hlt : k < zs.length
      · obtain ⟨b, off, rfl, _, _, hcell⟩ := H.out.num hlt
        have hts : Hid (zs.take (k + 1) = zs.take k ++ [zs[k]]) := by unfold Hid; exact List.take_succ_eq_append_getElem hlt
        have hmem : Hid (zs[k] ∈ zs) := List.getElem_mem hlt
        generalize zs[k] = z at *
        go_wp2
        case roundEnd =>
          have hz := shr_yes (by assumption)
          refine ⟨⟨k + 1, by omega, by go_num, ?_⟩, by simp [intOf]; omega⟩
          intro y hy
          rw [hts.out] at hy
          rcases List.mem_append.1 hy with hy | hy
          · exact HF.out y hy
          · rw [List.mem_singleton.1 hy]; exact hz
        all_goals
          have hz := shr_no (by assumption)
          go_ret
          exact ⟨ret_bool (decide_eq_false fun hf => hz (hf.2.2 _ hmem)).symm, rfl⟩
      · obtain rfl : k = zs.length := by omega
        go_wp2
        go_ret
        exact ⟨ret_bool (decide_eq_true ⟨hr0, hr1, by rw [← List.take_length (l := zs)]; exact HF.out⟩).symm, rfl⟩
  · have hr' : rightB wd = false := decide_eq_false hr
    have HR := Lib.hid hr'
    have hn : Hid (fitB zs wd = false) := decide_eq_false fun hf => hr ⟨hf.1, hf.2.1⟩
    clear hr' hr
    go_enter Try.func75, Try.ntmps75
    go_wp2_with fail
    refine (right_is wd false HR.out).mono ?_
    rintro r w' ⟨rfl, rfl⟩
    go_wp2
    go_ret
    exact ⟨ret_bool hn.out.symm, rfl⟩
end Go.Proofs.Ytepgkdmfoojppaa
namespace Go.Proofs.Ytepgkdmfoojppaa
set_option linter.unusedSimpArgs false
set_option linter.unusedVariables false
open Go.RowKit

theorem size_is {w : World} (n wd s : Nat) (h : n * wd ≤ 1000000000000000) (hs : (n * wd + 7) / 8 = s) :
    Calls Try.prog 76 #[.int .i64 (n : Int), .int .i64 (wd : Int)] w fun r w' => r = .returned (.int .i64 (s : Int)) ∧ w = w' := by
  subst hs
  exact size_any n wd h
end Go.Proofs.Ytepgkdmfoojppaa
namespace Go.Proofs.Ytepgkdmfoojppaa
set_option linter.unusedSimpArgs false
set_option linter.unusedVariables false
open Go.RowKit

/-- one number more: the bytes that are full, the bits behind them -/
theorem put_step (S n x m : Nat) (hx : x < 2 ^ m) (hS : S < 2 ^ n) (T : Nat) (hT : T = S / 256 ^ (n / 8) + 2 ^ (n % 8) * x) :
    S / 256 ^ (n / 8) < 2 ^ (n % 8) ∧ bytesN ((n + m) / 8) (S + 2 ^ n * x) = bytesN (n / 8) S ++ bytesN ((n % 8 + m) / 8) T ∧ (S + 2 ^ n * x) / 256 ^ ((n + m) / 8) = T / 256 ^ ((n % 8 + m) / 8) := by
  have e2 : 2 ^ n = 256 ^ (n / 8) * 2 ^ (n % 8) := by
    rw [pow256, ← Nat.pow_add]
    congr 1
    omega
  have hp : 0 < 256 ^ (n / 8) := Nat.pow_pos (by omega)
  have hd : (S + 2 ^ n * x) / 256 ^ (n / 8) = T := by
    rw [e2, Nat.mul_assoc, Nat.add_mul_div_left _ _ hp, hT]
  have hq : (n + m) / 8 = n / 8 + (n % 8 + m) / 8 := by omega
  refine ⟨?_, ?_, ?_⟩
  · rw [e2] at hS
    exact Nat.div_lt_of_lt_mul hS
  · rw [hq, bytesN_add, hd, e2, Nat.mul_assoc, bytesN_plus]
  · rw [hq, Nat.pow_add, ← Nat.div_div_eq_div_mul, hd]

/-- what Put has, ahead of the k-th number: the full bytes, the bits behind them, how many these are -/
def PutAt (m : Nat) (ns : List Nat) (k : Nat) (ys : List UInt8) (x hd : Nat) : Prop :=
  ys = bytesN (k * m / 8) (vsum m (ns.take k)) ∧ x = vsum m (ns.take k) / 256 ^ (k * m / 8) ∧ hd = k * m % 8
theorem putAt_zero (m : Nat) (ns : List Nat) : PutAt m ns 0 [] 0 0 := by simp [PutAt, bytesN, vsum]
theorem putAt_len {m k : Nat} {ns : List Nat} {ys : List UInt8} {x hd : Nat} (h : PutAt m ns k ys x hd) : ys.length = k * m / 8 := by rw [h.1, bytesN_length]
theorem vsum_take {m : Nat} {ns : List Nat} (hf : ∀ x ∈ ns, x < 2 ^ m) {k : Nat} (hk : k ≤ ns.length) : vsum m (ns.take k) < 2 ^ (k * m) := by
  have := vsum_lt m (ns.take k) fun x hx => hf x (List.mem_of_mem_take hx)
  rwa [List.length_take, Nat.min_eq_left hk, Nat.mul_comm] at this
theorem putAt_step {m k : Nat} {ns : List Nat} {ys : List UInt8} {x hd : Nat} (hf : ∀ x ∈ ns, x < 2 ^ m) (h : PutAt m ns k ys x hd) (hk : k < ns.length) (z : Nat) (hz : ns[k] = z) :
    x < 2 ^ hd ∧ z < 2 ^ m ∧ PutAt m ns (k + 1) (ys ++ bytesN ((hd + m) / 8) (x + 2 ^ hd * z)) ((x + 2 ^ hd * z) / 256 ^ ((hd + m) / 8)) ((hd + m) % 8) := by
  obtain ⟨rfl, rfl, rfl⟩ := h
  have hzm : z < 2 ^ m := by rw [← hz]; exact hf _ (List.getElem_mem hk)
  have hS := vsum_take hf (Nat.le_of_lt hk)
  obtain ⟨h1, h2, h3⟩ := put_step (vsum m (ns.take k)) (k * m) z m hzm hS _ rfl
  have e : vsum m (ns.take (k + 1)) = vsum m (ns.take k) + 2 ^ (k * m) * z := by
    rw [List.take_succ_eq_append_getElem hk, vsum_snoc, List.length_take, Nat.min_eq_left (Nat.le_of_lt hk), hz, Nat.mul_comm m]
  have e2 : (k + 1) * m = k * m + m := by rw [Nat.add_mul, Nat.one_mul]
  refine ⟨h1, hzm, ?_, ?_, ?_⟩
  · rw [e2, e, h2]
  · rw [e2, e, h3]
  · rw [e2]; omega
theorem putAt_full {m : Nat} {ns : List Nat} {ys : List UInt8} {x : Nat} (h : PutAt m ns ns.length ys x 0) : ys = packL m ns := by
  obtain ⟨rfl, -, h3⟩ := h
  unfold packL
  rw [List.take_length, show (ns.length * m + 7) / 8 = ns.length * m / 8 from by omega]
theorem putAt_rest {m : Nat} {ns : List Nat} {ys : List UInt8} {x hd : Nat} (h : PutAt m ns ns.length ys x hd) (hd0 : 0 < hd) : ys ++ [UInt8.ofNat (x % 256)] = packL m ns := by
  obtain ⟨rfl, rfl, h3⟩ := h
  unfold packL
  rw [List.take_length, show (ns.length * m + 7) / 8 = ns.length * m / 8 + 1 from by omega, bytesN_snoc]

/-- what Put has ahead of the j-th byte of the bits that it holds -/
def InAt (ys : List UInt8) (T j : Nat) (us : List UInt8) (y : Nat) : Prop := us = ys ++ bytesN j T ∧ y = T / 256 ^ j
theorem inAt_zero (ys : List UInt8) (T : Nat) : InAt ys T 0 ys T := by simp [InAt, bytesN]
theorem inAt_len {ys us : List UInt8} {T j y : Nat} (h : InAt ys T j us y) : us.length = ys.length + j := by rw [h.1, List.length_append, bytesN_length]
theorem inAt_le {ys us : List UInt8} {T j y : Nat} (h : InAt ys T j us y) : y ≤ T := by rw [h.2]; exact Nat.div_le_self _ _
theorem inAt_step {ys us : List UInt8} {T j y : Nat} (h : InAt ys T j us y) : InAt ys T (j + 1) (us ++ [UInt8.ofNat (y % 256)]) (y / 256) := by
  obtain ⟨rfl, rfl⟩ := h
  refine ⟨?_, ?_⟩
  · rw [bytesN_snoc, List.append_assoc]
  · rw [Nat.pow_succ, Nat.div_div_eq_div_mul]
theorem or_add (X z D : Nat) (hX : X < 2 ^ D) (hD : D < 8) (hz : z < 2 ^ 32) :
    bits .or .u64 (X : Int) (IntKind.u64.wrap (IntKind.u64.wrap (z : Int) * 2 ^ D)) = ((X + 2 ^ D * z : Nat) : Int) ∧ X + 2 ^ D * z < 1099511627776 := by
  have hp : 2 ^ D ≤ 2 ^ 7 := Nat.pow_le_pow_right (by omega) (by omega)
  have hb : 2 ^ D * z ≤ 2 ^ 7 * (2 ^ 32 - 1) := Nat.mul_le_mul hp (by omega)
  have e1 : IntKind.u64.wrap (z : Int) = (z : Int) := by rw [IntKind.wrap_u64]; omega
  have e2 : (2 : Int) ^ D = ((2 ^ D : Nat) : Int) := by norm_cast
  have e3 : IntKind.u64.wrap ((2 ^ D * z : Nat) : Int) = ((2 ^ D * z : Nat) : Int) := by rw [IntKind.wrap_u64]; omega
  refine ⟨?_, by omega⟩
  rw [e1, e2, Int.mul_comm, ← Int.natCast_mul, e3, u64_or_nat _ _ (by omega) (by omega)]
  congr 1
  rw [Nat.or_comm, Nat.mul_comm, ← Nat.shiftLeft_eq, ← Nat.shiftLeft_add_eq_or_of_lt hX, Nat.add_comm]

theorem make_bytes (w : World) (n : Nat) (h : n ≤ 100000000000000) : ∃ w1, (Instr.makeSlice 45 (.int .i64 0) (.int .i64 (n : Int))).run Try.prog w = .ok (.slice (some ⟨w.heap.size, 0, none⟩) 0 n) w1 ∧
    w1.ownsRow w.heap.size 5 1 (.slice (some ⟨w.heap.size, 0, none⟩) 0 n) 0 [] ∧ w.grownBy w1 none := by
  obtain ⟨i0, hi0, hz0, hz1, hz2⟩ := info_parts Try.infoU8
  have := run_make_own (P := Try.prog) w w.heap.size 45 5 i0 _ 1 Try.underlying45 hi0 hz0 hz1 .i64 .i64 n (by rw [hz2]; omega) (by simp only [maxLen]; omega) (Nat.le_refl _)
  simpa using this

theorem fit_is {w : World} (zs : List Int) (wd : Int) (b : Bool) (hb : fitB zs wd = b) {lo h' : Nat} {A : Option Addr} {c : Nat} (h : Rd w lo h' A c (iv zs)) :
    Calls Try.prog 75 #[.slice A zs.length c, .int .i64 wd] w fun r w' => r = .returned (.bool b) ∧ w = w' := by
  subst hb
  exact fit_any zs wd h

theorem pput_no {w : World} (zs : List Int) (wd : Int) (hf : ¬ Fits zs wd) {lo h' : Nat} {A : Option Addr} {c : Nat} (h : Rd w lo h' A c (iv zs)) :
    Calls Try.prog 56 #[.slice A zs.length c, .int .i64 wd] w fun r w' => r = .returned (.tuple #[.slice none 0 0, .int .i64 1]) ∧ w = w' := by
  have HF := Lib.hid (fit_is (w := w) zs wd false (decide_eq_false hf) h)
  clear h hf
  go_enter Try.func56, Try.ntmps56
  go_wp2_with fail
  refine HF.out.mono ?_
  rintro r w' ⟨rfl, rfl⟩
  go_wp2
  go_ret2
  exact ⟨rfl, rfl⟩

set_option maxRecDepth 20000 in
set_option maxHeartbeats 1000000 in
theorem pput_yes {w : World} (zs : List Int) (m : Nat) (hf : Fits zs (m : Int)) {h' : Nat} {A : Option Addr} {c : Nat} (h : Rd w 0 h' A c (iv zs)) (hh : h' ≤ w.heap.size) (hlen : zs.length ≤ 4294967295) :
    Calls Try.prog 56 #[.slice A zs.length c, .int .i64 (m : Int)] w fun r w' => ∃ A' c', r = .returned (.tuple #[.slice A' (packL m (nats zs)).length c', .int .i64 0]) ∧
      w'.ownsRow w.heap.size 5 1 (.slice A' (packL m (nats zs)).length c') (packL m (nats zs)).length (bv (packL m (nats zs))) ∧ Below w.heap.size w w' := by
  have hm : m ≤ 32 := by have := hf.2.1; omega
  have hnm : zs.length * m ≤ 4294967295 * 32 := Nat.mul_le_mul hlen hm
  generalize hs : (zs.length * m + 7) / 8 = s
  obtain ⟨w1, hmake, hown1, hg1⟩ := make_bytes w s (by omega)
  have k1 : Below w.heap.size w w1 := (Below.refl _ _).grown hg1 (Nat.le_refl _) (by simp)
  have hl := h.len
  have hc := h.cap
  rw [iv_length] at hl
  unfold maxLen at hc
  have H := Lib.hid h
  have H1 := Lib.hid (h.below k1 hh)
  have HS := Lib.hid hs
  have HF := Lib.hid hf
  have HO := Lib.hid hown1
  have K1 := Lib.hid k1
  clear h hs hf hown1 hg1 k1
  go_enter Try.func56, Try.ntmps56
  go_wp2_with fail
  refine (fit_is zs m true (decide_eq_true HF.out) H.out).mono ?_
  rintro r w' ⟨rfl, rfl⟩
  go_wp2_with fail
  refine (size_is zs.length m s (by omega) HS.out).mono ?_
  rintro r w' ⟨rfl, rfl⟩
  go_wp2_with fail
  have hK := Lib.hid HF.out.nats_lt
  have hN := nats_length zs
  have HN := Lib.hid hN
  clear hN
  go_loopw [6, 7, 8, 22] (fun b x hd i wr => ∃ (k : Nat) (ys : List UInt8) (A' : Option Addr) (c' X D : Nat), k ≤ zs.length ∧ i = .int .i64 (k : Int) ∧ b = .slice A' ys.length c' ∧ x = .int .u64 (X : Int) ∧ hd = .int .i64 (D : Int) ∧
      PutAt m (nats zs) k ys X D ∧ wr.ownsRow w.heap.size 5 1 (.slice A' ys.length c') ys.length (bv ys) ∧ Below w.heap.size w wr) (fun _ _ _ i _ => zs.length - (intOf i).toNat)
  case atStart => exact ⟨0, [], _, _, 0, 0, Nat.zero_le _, rfl, rfl, rfl, rfl, putAt_zero _ _, HO.out, K1.out⟩
  case round =>
    obtain ⟨k, ys, A', c', X, D, hk, rfl, rfl, rfl, rfl, hat, hown, hbel⟩ := hrel
    have HAT := Lib.hid hat
    have HOW := Lib.hid hown
    have HBL := Lib.hid hbel
    have hD : D < 8 := by have := hat.2.2; omega
    by_cases hlt : k < zs.length
    · obtain ⟨b, off, rfl, _, _, hcell⟩ := (H.out.below hbel hh).num hlt
      have hkn : k < (nats zs).length := by rw [nats_length]; exact hlt
      have hzk : (nats zs)[k] = zs[k].toNat := by simp [nats]
      have hz0 := (HF.out.2.2 _ (List.getElem_mem hlt)).1
      obtain ⟨hX, hZ, hnext⟩ := putAt_step HF.out.nats_lt hat hkn _ hzk
      have HX := Lib.hid hnext
      generalize zs[k] = z0 at *
      obtain ⟨z, rfl⟩ := Int.eq_ofNat_of_zero_le hz0
      simp only [Int.toNat_natCast] at HX hZ
      have hz32 : z < 2 ^ 32 := Nat.lt_of_lt_of_le hZ (Nat.pow_le_pow_right (by omega) hm)
      obtain ⟨hor, hT⟩ := or_add X z D hX hD hz32
      have hlen : ys.length ≤ k * m / 8 := Nat.le_of_eq (putAt_len hat)
      have hkm : k * m ≤ zs.length * m := Nat.mul_le_mul_right _ hk
      have hq : (((D : Int) + (m : Int)) / 8) ≤ (((D + m) / 8 : Nat) : Int) := by omega
      have hq' : (((D + m) / 8 : Nat) : Int) ≤ (((D : Int) + (m : Int)) / 8) := by omega
      have hN4 : (D + m) / 8 ≤ 4 := by omega
      have HM : Hid ((((D : Int) + (m : Int)) % 8) = (((D + m) % 8 : Nat) : Int)) := by unfold Hid; omega
      clear hat hown hbel hzk hnext hz0 hX hZ hz32
      generalize X + 2 ^ D * z = T at *
      generalize (D + m) / 8 = N at *
      generalize (D + m) % 8 = D' at *
      obtain ⟨wo, rfl⟩ : ∃ wo : World, wo = wr := ⟨_, rfl⟩
      go_wp2_with fail
      go_loopw [6, 7, 37] (fun b x i wr => ∃ (j : Nat) (us : List UInt8) (A' : Option Addr) (c' y : Nat), j ≤ N ∧ i = .int .i64 (j : Int) ∧ b = .slice A' us.length c' ∧ x = .int .u64 (y : Int) ∧
          InAt ys T j us y ∧ wr.ownsRow w.heap.size 5 1 (.slice A' us.length c') us.length (bv us) ∧ Below w.heap.size w wr) (fun _ _ i _ => N - (intOf i).toNat)
      case atStart => exact ⟨0, ys, _, _, T, Nat.zero_le _, rfl, rfl, rfl, inAt_zero _ _, HOW.out, HBL.out⟩
      case round =>
        obtain ⟨j, us, A2, c2, y, hj, rfl, rfl, rfl, hin, hown, hbel⟩ := hrel
        have HIN := Lib.hid hin
        have HO2 := Lib.hid hown
        have HB2 := Lib.hid hbel
        have hsz := hbel.size
        have hul : us.length ≤ ys.length + j := Nat.le_of_eq (inAt_len hin)
        have hyT := inAt_le hin
        clear hin hown hbel
        by_cases hlj : j < N
        · have HA : Hid ((UInt8.ofNat (y % 256)).toNat = y % 256) := byte_toNat y
          clear hor
          go_wp2_with (at_builtin; refine wpList_push (v := .slice A2 us.length c2) w.heap.size us (UInt8.ofNat (y % 256)) rfl _ _ rfl rfl rfl rfl (by rw [HA.out, World.cell?_alloc_at _ _ _ _ rfl]; rfl) (HO2.out.alloc _) (by omega) (by simp; omega) ?_; intro A3 c3 w3 hown3 hgr3)
          have HO3 := Lib.hid hown3
          have HG3 := Lib.hid hgr3
          clear hown3 hgr3
          go_wp2
          go_roundw
          case rel =>
            refine ⟨j + 1, us ++ [UInt8.ofNat (y % 256)], A3, c3, y / 256, by omega, by go_num, by simp, by go_num, inAt_step HIN.out, HO3.out, ?_⟩
            exact (HB2.out.alloc hsz _).grown HG3.out (by simp; omega) (fun k hk => own_row HO2.out k hk)
          case measure => simp [intOf]; omega
        · obtain rfl : j = N := by omega
          go_wp2
          go_roundw
          case rel =>
            refine ⟨k + 1, us, A2, c2, y, D', by omega, by go_num, rfl, rfl, by rw [HM.out], ?_, HO2.out, HB2.out⟩
            rw [HIN.out.1, HIN.out.2]
            exact HX.out
          case measure => simp [intOf]; omega
    · obtain rfl : k = zs.length := by omega
      have hlen : ys.length ≤ zs.length * m / 8 := Nat.le_of_eq (putAt_len hat)
      have hX := (HF.out.nats_lt)
      have hXD : X < 2 ^ D := by
        have h1 := vsum_take (m := m) (ns := nats zs) (by simpa using HF.out.nats_lt) (k := zs.length) (by rw [HN.out]; exact Nat.le_refl _)
        have h2 := (put_step _ _ 0 0 (by simp) h1 _ rfl).1
        rw [← hat.2.1, ← hat.2.2] at h2
        exact h2
      have hX128 : X < 128 := Nat.lt_of_lt_of_le hXD (Nat.pow_le_pow_right (by omega) (show D ≤ 7 by omega))
      have hsz := hbel.size
      have hat' : PutAt m (nats zs) (nats zs).length ys X D := by rw [HN.out]; exact hat
      by_cases hD0 : D = 0
      · subst hD0
        have HE := Lib.hid (putAt_full hat')
        clear hat hat' hown hbel hX
        go_wp2
        go_ret2
        exact ⟨A', c', by rw [← HE.out]; rfl, by rw [← HE.out]; exact HOW.out, HBL.out⟩
      · have hrest := putAt_rest hat' (by omega)
        rw [Nat.mod_eq_of_lt (show X < 256 by omega)] at hrest
        have HE := Lib.hid hrest
        have hDp : 0 < D := by omega
        have HA : Hid ((UInt8.ofNat X).toNat = X) := by unfold Hid; rw [UInt8.toNat_ofNat']; omega
        clear hat hat' hown hbel hX hrest
        go_wp2_with (at_builtin; refine wpList_push (v := .slice A' ys.length c') w.heap.size ys (UInt8.ofNat X) rfl _ _ rfl rfl rfl rfl (by rw [HA.out, World.cell?_alloc_at _ _ _ _ rfl]; rfl) (HOW.out.alloc _) (by omega) (by simp; omega) ?_; intro A3 c3 w3 hown3 hgr3)
        have HO3 := Lib.hid hown3
        have HG3 := Lib.hid hgr3
        clear hown3 hgr3
        go_wp2
        go_ret2
        refine ⟨A3, c3, by rw [← HE.out, List.length_append]; rfl, by rw [← HE.out]; exact HO3.out, ?_⟩
        exact (HBL.out.alloc hsz _).grown HG3.out (by simp; omega) (fun k hk => own_row HOW.out k hk)

/-- Put, of whatever numbers and width -/
theorem pput_any {w : World} (zs : List Int) (wd : Int) {h' : Nat} {A : Option Addr} {c : Nat} (h : Rd w 0 h' A c (iv zs)) (hh : h' ≤ w.heap.size) (hlen : zs.length ≤ 4294967295) :
    Calls Try.prog 56 #[.slice A zs.length c, .int .i64 wd] w fun r w' => ∃ A' c', r = .returned (.tuple #[.slice A' (putR zs wd).1.length c', .int .i64 (putR zs wd).2]) ∧
      w'.ownsRow w.heap.size 5 1 (.slice A' (putR zs wd).1.length c') (putR zs wd).1.length (bv (putR zs wd).1) ∧ Below w.heap.size w w' := by
  by_cases hf : Fits zs wd
  · rw [putR_yes hf]
    obtain ⟨m, rfl⟩ := Int.eq_ofNat_of_zero_le hf.1
    rw [Int.toNat_natCast]
    exact pput_yes zs m hf h hh hlen
  · rw [putR_no hf]
    refine (pput_no zs wd hf h).mono ?_
    rintro r w' ⟨rfl, rfl⟩
    exact ⟨_, _, rfl, World.ownsRow_nil .., Below.refl _ _⟩
end Go.Proofs.Ytepgkdmfoojppaa
namespace Go.Proofs.Ytepgkdmfoojppaa
set_option linter.unusedSimpArgs false
set_option linter.unusedVariables false
open Go.RowKit

theorem mod_shift (Y n r w : Nat) (h : r + w ≤ n) : Y % 2 ^ n / 2 ^ r % 2 ^ w = Y / 2 ^ r % 2 ^ w := by
  obtain ⟨d, rfl⟩ : ∃ d, n = r + (w + d) := ⟨n - r - w, by omega⟩
  rw [Nat.pow_add, Nat.mod_mul_right_div_self, Nat.pow_add, Nat.mod_mul_right_mod]
/-- what Get reads: at most five bytes -/
theorem get_word (bs : List UInt8) (p f M wd : Nat) (hf : p / 8 = f) (hM : min 5 (bs.length - f) = M) (hw : wd ≤ 32) :
    bval bs / 256 ^ f % 256 ^ M / 2 ^ (p % 8) % 2 ^ wd = bval bs / 2 ^ p % 2 ^ wd := by
  have e : bval bs / 2 ^ p = bval bs / 256 ^ f / 2 ^ (p % 8) := by
    rw [pow256, Nat.div_div_eq_div_mul, ← Nat.pow_add]
    congr 2
    omega
  rw [e]
  by_cases h5 : M = 5
  · subst h5
    rw [show (256 : Nat) ^ 5 = 2 ^ 40 from by decide]
    exact mod_shift _ 40 _ _ (by omega)
  · have hlt : bval bs / 256 ^ f < 256 ^ M := by
      by_cases hfl : f ≤ bs.length
      · apply Nat.div_lt_of_lt_mul
        rw [← Nat.pow_add, show f + M = bs.length from by omega]
        exact bval_lt bs
      · have h0 : bval bs / 256 ^ f = 0 := by rw [pow256]; exact bval_over bs _ (by omega)
        rw [h0]
        exact Nat.pow_pos (by omega)
    rw [Nat.mod_eq_of_lt hlt]
theorem get_next (bs : List UInt8) (f j : Nat) (h : f + j < bs.length) : bval bs / 256 ^ f % 256 ^ (j + 1) = bval bs / 256 ^ f % 256 ^ j + 2 ^ (8 * j) * bs[f + j].toNat := by
  rw [Nat.pow_succ, Nat.mod_mul, ← bval_at bs (f + j) h, pow256 j, Nat.pow_add, ← Nat.div_div_eq_div_mul, pow256 j]
theorem or_byte (W x j : Nat) (hW : W < 2 ^ (8 * j)) (hx : x < 256) (hj : j < 5) :
    bits .or .u64 (W : Int) (IntKind.u64.wrap ((x : Int) * 2 ^ (8 * j))) = ((W + 2 ^ (8 * j) * x : Nat) : Int) ∧ W + 2 ^ (8 * j) * x < 1099511627776 := by
  have hp : 2 ^ (8 * j) ≤ 2 ^ 32 := Nat.pow_le_pow_right (by omega) (by omega)
  have hb : 2 ^ (8 * j) * x ≤ 2 ^ 32 * 255 := Nat.mul_le_mul hp (by omega)
  have e2 : (2 : Int) ^ (8 * j) = ((2 ^ (8 * j) : Nat) : Int) := by norm_cast
  have e3 : IntKind.u64.wrap ((2 ^ (8 * j) * x : Nat) : Int) = ((2 ^ (8 * j) * x : Nat) : Int) := by rw [IntKind.wrap_u64]; omega
  refine ⟨?_, by omega⟩
  rw [e2, Int.mul_comm, ← Int.natCast_mul, e3, u64_or_nat _ _ (by omega) (by omega)]
  congr 1
  rw [Nat.or_comm, Nat.mul_comm, ← Nat.shiftLeft_eq, ← Nat.shiftLeft_add_eq_or_of_lt hW, Nat.add_comm]
theorem mask_at (W r wd : Nat) (hW : W < 1099511627776) (hw : wd ≤ 32) :
    wrap64 (bits .and .u64 ((W : Int) / 2 ^ r) (IntKind.u64.wrap (IntKind.u64.wrap ((2 : Int) ^ wd) - 1))) = ((W / 2 ^ r % 2 ^ wd : Nat) : Int) := by
  have hp : 2 ^ wd ≤ 2 ^ 32 := Nat.pow_le_pow_right (by omega) hw
  have hp0 : 0 < 2 ^ wd := Nat.two_pow_pos wd
  have e1 : (2 : Int) ^ wd = ((2 ^ wd : Nat) : Int) := by norm_cast
  have e2 : IntKind.u64.wrap ((2 ^ wd : Nat) : Int) = ((2 ^ wd : Nat) : Int) := by rw [IntKind.wrap_u64]; omega
  have e3 : IntKind.u64.wrap (((2 ^ wd : Nat) : Int) - 1) = ((2 ^ wd - 1 : Nat) : Int) := by rw [IntKind.wrap_u64]; omega
  have e4 : (W : Int) / 2 ^ r = ((W / 2 ^ r : Nat) : Int) := by push_cast; rfl
  have hq : W / 2 ^ r ≤ W := Nat.div_le_self _ _
  have hm := Nat.mod_lt (W / 2 ^ r) hp0
  rw [e1, e2, e3, e4, u64_and_nat _ _ (by omega) (by omega), Nat.and_two_pow_sub_one_eq_mod]
  exact IntWalk.wrap64_in _ (by omega)

def GetAt (bs : List UInt8) (f j W : Nat) : Prop := W = bval bs / 256 ^ f % 256 ^ j
theorem getAt_lt {bs : List UInt8} {f j W : Nat} (h : GetAt bs f j W) : W < 2 ^ (8 * j) := by
  rw [h, ← pow256]; exact Nat.mod_lt _ (Nat.pow_pos (by omega))

set_option maxRecDepth 20000 in
set_option maxHeartbeats 400000 in
theorem pget_any {w : World} (bs : List UInt8) (wd i : Nat) (hw : wd ≤ 32) (hi : i ≤ 1000000000000) (hb : bs.length ≤ 1000000000000) {lo h' : Nat} {A : Option Addr} {c : Nat} (h : Rd w lo h' A c (bv bs)) :
    Calls Try.prog 82 #[.slice A bs.length c, .int .i64 (wd : Int), .int .i64 (i : Int)] w fun r w' => r = .returned (.int .i64 (getN bs wd i : Int)) ∧ ∃ n, w.drewN n = w' := by
  have hl := h.len
  have hc := h.cap
  rw [bv_length] at hl
  unfold maxLen at hc
  have H := Lib.hid h
  clear h
  have HR : Hid (rightB (wd : Int) = true) := decide_eq_true (by omega)
  by_cases h0 : wd = 0
  · have HE : Hid (getN bs wd i = 0) := by unfold Hid getN; rw [h0, Nat.pow_zero, Nat.mod_one]
    have hb0 : ((wd : Int) == 0) = true := by rw [beq_iff_eq]; omega
    clear h0
    go_enter Try.func82, Try.ntmps82
    go_wp2_with fail
    refine (right_is _ true HR.out).mono ?_
    rintro r w' ⟨rfl, rfl⟩
    go_wp2
    go_ret
    exact ⟨ret_int' (by rw [HE.out]; rfl), 0, rfl⟩
  · have hb0 : ((wd : Int) == 0) = false := by rw [beq_eq_false_iff_ne]; omega
    have hwp : 1 ≤ (wd : Int) := by omega
    have hq : Hid (((bs.length : Int) * 8 / (wd : Int)) = ((bs.length * 8 / wd : Nat) : Int)) := by unfold Hid; push_cast; rfl
    by_cases hov : bs.length * 8 / wd < i
    · have hov' : (bs.length : Int) * 8 / (wd : Int) < (i : Int) := by rw [hq.out]; omega
      have HE : Hid (getN bs wd i = 0) := by
        unfold Hid getN
        rw [bval_over bs _ ?_, Nat.zero_mod]
        have := (Nat.div_lt_iff_lt_mul (show 0 < wd by omega)).1 hov
        rw [Nat.mul_comm wd]
        omega
      clear hov h0
      go_enter Try.func82, Try.ntmps82
      go_wp2_with fail
      refine (right_is _ true HR.out).mono ?_
      rintro r w' ⟨rfl, rfl⟩
      go_wp2
      go_ret
      exact ⟨ret_int' (by rw [HE.out]; rfl), 0, rfl⟩
    · have hov' : (i : Int) ≤ (bs.length : Int) * 8 / (wd : Int) := by rw [hq.out]; omega
      have hp8 : i * wd ≤ bs.length * 8 := (Nat.le_div_iff_mul_le (show 0 < wd by omega)).1 (by omega)
      have hp : (i : Int) * (wd : Int) = ((i * wd : Nat) : Int) := (Int.natCast_mul i wd).symm
      have hpe : Hid (wd * i = i * wd) := Nat.mul_comm _ _
      generalize i * wd = p at *
      have hf : (p : Int) / 8 = ((p / 8 : Nat) : Int) := by omega
      have hfb : p / 8 ≤ bs.length := by omega
      generalize hfq : p / 8 = f at *
      have HF := Lib.hid hfq
      clear hfq h0 hov
      have hM : min (5 : Int) ((bs.length : Int) - (f : Int)) = ((min 5 (bs.length - f) : Nat) : Int) := by omega
      generalize hMe : min 5 (bs.length - f) = M at *
      have hM5 : M ≤ 5 := by omega
      have hMl : f + M ≤ bs.length := by omega
      have HM := Lib.hid hMe
      clear hMe
      go_enter Try.func82, Try.ntmps82
      go_wp2_with fail
      refine (right_is _ true HR.out).mono ?_
      rintro r w' ⟨rfl, rfl⟩
      go_wp2_with fail
      go_loop [8, 39] (fun x i => ∃ j W : Nat, j ≤ M ∧ i = .int .i64 (j : Int) ∧ x = .int .u64 (W : Int) ∧ GetAt bs f j W) (fun _ i => M - (intOf i).toNat)
      case atStart => exact ⟨0, 0, Nat.zero_le _, rfl, rfl, by unfold GetAt; rw [Nat.pow_zero, Nat.mod_one]⟩
      case round =>
        obtain ⟨j, W, hj, rfl, rfl, hat⟩ := hrel
        by_cases hlt : j < M
        · obtain ⟨b, off, rfl, _, _, hcell⟩ := H.out.byte (k := f + j) (by omega)
          have hnext := get_next bs f j (by omega)
          rw [← hat] at hnext
          have hW := getAt_lt hat
          generalize bs[f + j] = x8 at *
          have hx := UInt8.toNat_lt x8
          generalize x8.toNat = x at *
          obtain ⟨hor, hT⟩ := or_byte W x j hW hx (by omega)
          have HX : Hid (GetAt bs f (j + 1) (W + 2 ^ (8 * j) * x)) := hnext.symm
          clear hnext hat hW
          generalize W + 2 ^ (8 * j) * x = T at *
          go_wp2
          go_round
          case rel => exact ⟨j + 1, T, by omega, by go_num, rfl, HX.out⟩
          case measure => simp [intOf]; omega
        · obtain rfl : j = M := by omega
          have hW := getAt_lt hat
          have hW40 : W < 1099511627776 := Nat.lt_of_lt_of_le hW (Nat.pow_le_pow_right (by omega) (show 8 * j ≤ 40 by omega))
          have HE : Hid (wrap64 (bits .and .u64 ((W : Int) / 2 ^ (p % 8)) (IntKind.u64.wrap (IntKind.u64.wrap ((2 : Int) ^ wd) - 1))) = (getN bs wd i : Int)) := by
            unfold Hid getN
            rw [mask_at W (p % 8) wd hW40 hw]
            rw [hpe.out, ← get_word bs p f j wd HF.out HM.out hw, ← hat]
          clear hat hW
          go_wp2_with fail
          go_quiet (fail)
          go_wp2
          go_ret
          exact ⟨ret_int' HE.out, _, rfl⟩
end Go.Proofs.Ytepgkdmfoojppaa
namespace Go.Proofs.Ytepgkdmfoojppaa
set_option linter.unusedSimpArgs false
set_option linter.unusedVariables false
open Go.RowKit

/-- numbers as bytes -/
def writeL (zs : List Int) : List UInt8 := putL zs.length ++ ([UInt8.ofNat (wide zs)] ++ packL (wide zs) (nats zs))
theorem writeL_length {zs : List Int} (h : May zs) (hlen : zs.length ≤ 4294967295) : (writeL zs).length ≤ 4294967295 * 5 := by
  have h1 := putL_nine zs.length (by omega)
  have h2 := h.wide_le
  have h3 : zs.length * wide zs ≤ 4294967295 * 32 := Nat.mul_le_mul hlen h2
  simp only [writeL, List.length_append, List.length_cons, List.length_nil, packL_length, nats_length]
  omega
theorem ofNat_toNat_lt {n : Nat} (h : n < 256) : (UInt8.ofNat n).toNat = n := by rw [UInt8.toNat_ofNat']; omega

/-- the same, told of whatever numbers -/
theorem pput_may {w : World} (zs : List Int) (hm : May zs) {h' : Nat} {A : Option Addr} {c : Nat} (h : Rd w 0 h' A c (iv zs)) (hh : h' ≤ w.heap.size) (hlen : zs.length ≤ 4294967295) :
    Calls Try.prog 58 #[.slice A zs.length c, .int .i64 (wide zs : Int)] w fun r w' => ∃ A' c', r = .returned (.tuple #[.slice A' (packL (wide zs) (nats zs)).length c', .int .i64 0]) ∧
      w'.ownsRow w.heap.size 5 1 (.slice A' (packL (wide zs) (nats zs)).length c') (packL (wide zs) (nats zs)).length (bv (packL (wide zs) (nats zs))) ∧ Below w.heap.size w w' := by
  have := rput_any (w := w) zs (wide zs) h hh hlen
  rw [putR_yes hm.fits, Int.toNat_natCast] at this
  exact this
set_option maxHeartbeats 400000 in
theorem rwrite_any {w : World} (zs : List Int) (hm : May zs) {h' : Nat} {A : Option Addr} {c : Nat} (h : Rd w 0 h' A c (iv zs)) (hh : h' ≤ w.heap.size) (hlen : zs.length ≤ 4294967295) :
    Calls Try.prog 45 #[.slice A zs.length c] w fun r w' => ∃ A' c', r = .returned (.slice A' (writeL zs).length c') ∧
      w'.ownsRow w.heap.size 5 1 (.slice A' (writeL zs).length c') (writeL zs).length (bv (writeL zs)) ∧ Below w.heap.size w w' := by
  have h1 := putL_nine zs.length (by omega)
  have h2 := hm.wide_le
  have h3 : zs.length * wide zs ≤ 4294967295 * 32 := Nat.mul_le_mul hlen h2
  have h4 : (packL (wide zs) (nats zs)).length ≤ 4294967295 * 4 + 1 := by rw [packL_length, nats_length]; omega
  have h5 : (packL (wide zs) (nats zs)).length ≤ 140737488355328 := by omega
  have HE : Hid (putL zs.length ++ ([UInt8.ofNat (wide zs)] ++ packL (wide zs) (nats zs)) = writeL zs) := rfl
  have HB := Lib.hid (ofNat_toNat_lt (n := wide zs) (by omega))
  have HWD := fun (w1 : World) (h : Rd w1 0 h' A c (iv zs)) => Lib.hid (rwidth_any (w := w1) (A := A) (c := c) zs hm h)
  have HPT := fun (w1 : World) (h : Rd w1 0 h' A c (iv zs)) (hh : h' ≤ w1.heap.size) => Lib.hid (pput_may (w := w1) (A := A) (c := c) (h' := h') zs hm h hh hlen)
  have H := Lib.hid h
  clear h hm
  generalize packL (wide zs) (nats zs) = pk at *
  generalize wide zs = wd at *
  go_enter Try.func45, Try.ntmps45
  go_wp2_with fail
  refine (HWD _ H.out).out.mono ?_
  rintro r w' ⟨rfl, n0, rfl⟩
  go_wp2_with fail
  refine (HPT _ (H.out.drewN n0) hh).out.mono ?_
  rintro r w1 ⟨A1, c1, rfl, hown1, hb1⟩
  have hb1' : Below w.heap.size w w1 := below_below (below_drewN' (Below.refl w.heap.size w) n0) hb1 (Nat.le_refl _)
  have HO1 := Lib.hid hown1
  have HB1 := Lib.hid hb1'
  have s1 := hb1'.size
  clear hown1 hb1 hb1'
  go_wp2_with fail
  refine (refPut_any zs.length (by omega)).mono ?_
  rintro r w2 ⟨A2, c2, rfl, hown2, hb2⟩
  have HO2 := Lib.hid hown2
  have HB2 := Lib.hid (below_below HB1.out hb2 s1)
  have hb2' := hb2
  have s2 := hb2.size
  clear hown2 hb2
  generalize putL zs.length = pl at *
  go_wp2_with fail
  refine (HWD _ (H.out.below HB2.out hh)).out.mono ?_
  rintro r w' ⟨rfl, n1, rfl⟩
  have HO2' : Hid ((w2.drewN n1).ownsRow w1.heap.size 5 1 (.slice A2 pl.length c2) pl.length (bv pl)) := HO2.out
  have hb2n : Below w1.heap.size w1 (w2.drewN n1) := below_drewN' hb2' n1
  have HB2n := Lib.hid (below_drewN' HB2.out n1)
  have s2n : w1.heap.size ≤ (w2.drewN n1).heap.size := s2
  generalize w2.drewN n1 = w3 at *
  go_wp2_with (at_builtin; refine wpList_push (v := .slice A2 pl.length c2) w1.heap.size pl (UInt8.ofNat wd) rfl _ _ rfl rfl rfl rfl (by rw [HB.out, World.cell?_alloc_at _ _ _ _ rfl]; first | rfl | (simp; omega)) (HO2'.out.alloc _) (by omega) (by simp; omega) ?_; intro A4 c4 w4 hown4 hgr4; refine held ?_)
  refine ⟨?_⟩
  have HR4 := Lib.hid ((((Rd.own HO1.out).below hb2n (Nat.le_refl _)).alloc s2n (.cells #[.int .u8 (wd : Int)] 5)).grown hgr4 (by simp; omega) (fun k hk => .inr (own_row HO2'.out k hk)))
  have k4 := (HB2n.out.alloc (Nat.le_trans s1 s2n) _).grown hgr4 (by simp; omega) (fun k hk => Nat.le_trans s1 (own_row HO2'.out k hk))
  have HB4 := Lib.hid k4
  obtain ⟨A5, c5, w5, hrun5, hown5, hg5⟩ := append_named w4 w.heap.size _ (pl ++ [UInt8.ofNat wd]) pk (writeL zs) (by rw [List.append_assoc]; exact HE.out) (own_base hown4 s1) HR4.out (by simp; omega) k4.size
  rw [show (pl ++ [UInt8.ofNat wd]).length = pl.length + 1 from by simp] at hrun5 hown4 hg5
  have HO5 := Lib.hid hown5
  have HG5 := Lib.hid hg5
  have HO4 := Lib.hid hown4
  clear hown4 hgr4 hown5 hg5 k4 hb2' hb2n
  go_wp2_with (at_builtin; refine wpList_append_run rfl _ _ _ _ rfl rfl rfl hrun5 ?_)
  go_ret
  exact ⟨A5, c5, rfl, HO5.out, HB4.out.grown HG5.out HB4.out.size (fun k hk => Nat.le_trans s1 (own_row HO4.out k hk))⟩
end Go.Proofs.Ytepgkdmfoojppaa
namespace Go.Proofs.Ytepgkdmfoojppaa
set_option linter.unusedSimpArgs false
set_option linter.unusedVariables false
open Go.RowKit

theorem fits_wide_may {zs : List Int} (h : ¬ May zs) : ¬ Fits zs (wide zs : Int) := fun hf => h hf.may

theorem pwrite_no {w : World} (zs : List Int) (hz : Word zs) (hm : ¬ May zs) {h' : Nat} {A : Option Addr} {c : Nat} (h : Rd w 0 h' A c (iv zs)) (hh : h' ≤ w.heap.size) (hlen : zs.length ≤ 4294967295) :
    Calls Try.prog 40 #[.slice A zs.length c] w fun r w' => r = .returned (.tuple #[.slice none 0 0, .int .i64 1]) ∧ w = w' := by
  have HW := Lib.hid (width_any (w := w) zs hz h)
  have HP := Lib.hid (pput_no (w := w) zs (wide zs) (fits_wide_may hm) h)
  clear h hm hz
  go_enter Try.func40, Try.ntmps40
  go_wp2_with fail
  refine HW.out.mono ?_
  rintro r w' ⟨rfl, rfl⟩
  go_wp2_with fail
  refine HP.out.mono ?_
  rintro r w' ⟨rfl, rfl⟩
  go_wp2
  go_ret2
  exact ⟨rfl, rfl⟩

set_option maxHeartbeats 400000 in
theorem pwrite_yes {w : World} (zs : List Int) (hm : May zs) {h' : Nat} {A : Option Addr} {c : Nat} (h : Rd w 0 h' A c (iv zs)) (hh : h' ≤ w.heap.size) (hlen : zs.length ≤ 4294967295) :
    Calls Try.prog 40 #[.slice A zs.length c] w fun r w' => ∃ A' c', r = .returned (.tuple #[.slice A' (writeL zs).length c', .int .i64 0]) ∧
      w'.ownsRow w.heap.size 5 1 (.slice A' (writeL zs).length c') (writeL zs).length (bv (writeL zs)) ∧ Below w.heap.size w w' := by
  have HW := Lib.hid (width_any (w := w) zs hm.word h)
  have HP := Lib.hid (pput_yes (w := w) zs (wide zs) hm.fits h hh hlen)
  have h1 := putL_nine zs.length (by omega)
  have h2 := hm.wide_le
  have h3 : zs.length * wide zs ≤ 4294967295 * 32 := Nat.mul_le_mul hlen h2
  have h4 : (packL (wide zs) (nats zs)).length ≤ 4294967295 * 4 + 1 := by rw [packL_length, nats_length]; omega
  have h5 : (packL (wide zs) (nats zs)).length ≤ 140737488355328 := by omega
  have HE : Hid (putL zs.length ++ ([UInt8.ofNat (wide zs)] ++ packL (wide zs) (nats zs)) = writeL zs) := rfl
  have HB := Lib.hid (ofNat_toNat_lt (n := wide zs) (by omega))
  clear h hm
  generalize packL (wide zs) (nats zs) = pk at *
  generalize wide zs = wd at *
  go_enter Try.func40, Try.ntmps40
  go_wp2_with fail
  refine HW.out.mono ?_
  rintro r w' ⟨rfl, rfl⟩
  go_wp2_with fail
  refine HP.out.mono ?_
  rintro r w1 ⟨A1, c1, rfl, hown1, hb1⟩
  have HO1 := Lib.hid hown1
  have HB1 := Lib.hid hb1
  have s1 := hb1.size
  clear hown1 hb1
  go_wp2_with fail
  refine (put_any zs.length (by omega)).mono ?_
  rintro r w2 ⟨A2, c2, rfl, hown2, hb2⟩
  have HO2 := Lib.hid hown2
  have HB2 := Lib.hid (below_below HB1.out hb2 s1)
  have HK2 := Lib.hid (own_below HO1.out hb2 (Nat.le_refl _))
  have s2 := hb2.size
  have hb2' := hb2
  clear hown2 hb2
  generalize putL zs.length = pl at *
  go_wp2_with (at_builtin; refine wpList_push (v := .slice A2 pl.length c2) w1.heap.size pl (UInt8.ofNat wd) rfl _ _ rfl rfl rfl rfl (by rw [HB.out, World.cell?_alloc_at _ _ _ _ rfl]; first | rfl | (simp; omega)) (HO2.out.alloc _) (by omega) (by simp; omega) ?_; intro A3 c3 w3 hown3 hgr3; refine held ?_)
  refine ⟨?_⟩
  have HR3 := Lib.hid ((((Rd.own HO1.out).below hb2' (Nat.le_refl _)).alloc s2 (.cells #[.int .u8 (wd : Int)] 5)).grown hgr3 (by simp; omega) (fun k hk => .inr (own_row HO2.out k hk)))
  have k3 := (HB2.out.alloc (Nat.le_trans s1 s2) _).grown hgr3 (by simp; omega) (fun k hk => Nat.le_trans s1 (own_row HO2.out k hk))
  have HB3 := Lib.hid k3
  obtain ⟨A4, c4, w4, hrun4, hown4, hg4⟩ := append_named w3 w.heap.size _ (pl ++ [UInt8.ofNat wd]) pk (writeL zs) (by rw [List.append_assoc]; exact HE.out) (own_base hown3 s1) HR3.out (by simp; omega) k3.size
  rw [show (pl ++ [UInt8.ofNat wd]).length = pl.length + 1 from by simp] at hrun4 hown3 hg4
  have HO4 := Lib.hid hown4
  have HG4 := Lib.hid hg4
  have HO3 := Lib.hid hown3
  clear hown3 hgr3 hown4 hg4 k3 hb2'
  go_wp2_with (at_builtin; refine wpList_append_run rfl _ _ _ _ rfl rfl rfl hrun4 ?_)
  go_ret2
  exact ⟨A4, c4, rfl, HO4.out, HB3.out.grown HG4.out HB3.out.size (fun k hk => Nat.le_trans s1 (own_row HO3.out k hk))⟩
end Go.Proofs.Ytepgkdmfoojppaa
namespace Go.Proofs.Ytepgkdmfoojppaa
set_option linter.unusedSimpArgs false
set_option linter.unusedVariables false
open Go.RowKit

theorem filled_any {w : World} (bs : List UInt8) (n : Nat) (hl : bs.length = (n + 7) / 8) (hn : n ≤ 1000000000000) {lo h' : Nat} {A : Option Addr} {c : Nat} (h : Rd w lo h' A c (bv bs)) :
    Calls Try.prog 83 #[.slice A bs.length c, .int .i64 (n : Int)] w fun r w' => r = .returned (.bool (decide (bval bs < 2 ^ n))) ∧ w = w' := by
  have hll := h.len
  have hc := h.cap
  rw [bv_length] at hll
  unfold maxLen at hc
  have H := Lib.hid h
  clear h
  by_cases hr : n % 8 = 0
  · have HT : Hid (decide (bval bs < 2 ^ n) = true) := decide_eq_true (filled_all bs n hl hr)
    have h8 : ((n : Int) % 8 == 0) = true := by rw [beq_iff_eq]; omega
    have hlb : bs.length ≤ (n + 7) / 8 := Nat.le_of_eq hl
    clear hl hr
    go_enter Try.func83, Try.ntmps83
    go_wp2
    go_ret
    exact ⟨ret_bool HT.out.symm, rfl⟩
  · have hp : 0 < bs.length := by omega
    have HF := Lib.hid (filled_iff bs n hl hr)
    have h8 : ((n : Int) % 8 == 0) = false := by rw [beq_eq_false_iff_ne]; omega
    have hlb : bs.length ≤ (n + 7) / 8 := Nat.le_of_eq hl
    obtain ⟨b, off, rfl, _, _, hcell⟩ := H.out.byte (k := bs.length - 1) (by omega)
    rw [last_get bs hp] at hcell
    generalize bs.getLastD 0 = x8 at *
    have hx := UInt8.toNat_lt x8
    generalize x8.toNat = x at *
    clear hl
    go_enter Try.func83, Try.ntmps83
    go_wp2
    go_ret
    refine ⟨ret_bool ?_, rfl⟩
    have e : (x : Int) / 2 ^ (n % 8) = ((x / 2 ^ (n % 8) : Nat) : Int) := by push_cast; rfl
    rw [e, Bool.eq_iff_iff, beq_iff_eq, decide_eq_true_iff, ← HF.out]
    omega

/-- what Read answers and leaves: the numbers, the place, the error -/
def readEnd (bs : List UInt8) (n wd k : Nat) (e : Int) : List Nat × Nat × Int :=
  if e ≠ 0 then ([], k, e) else if wd = wide (ints (getsN bs wd n)) ∧ bval bs < 2 ^ (n * wd) then (getsN bs wd n, k, 0) else ([], k, 3)
def widthE (wd : Nat) (e : Int) : Int := if wd ≤ 32 then e else if e = 0 then 3 else e
def readMid (bs : List UInt8) (n wd k : Nat) (e : Int) : List Nat × Nat × Int :=
  readEnd (takeR bs k (widthE wd e) 0 (((n * wd + 7) / 8 : Nat) : Int)).1 n wd (takeR bs k (widthE wd e) 0 (((n * wd + 7) / 8 : Nat) : Int)).2.1 (takeR bs k (widthE wd e) 0 (((n * wd + 7) / 8 : Nat) : Int)).2.2
def readR (bs : List UInt8) (k : Nat) (e most : Int) : List Nat × Nat × Int :=
  readMid bs (mostR bs k e (min most 2147483647)).1 ((takeR bs (mostR bs k e (min most 2147483647)).2.1 (mostR bs k e (min most 2147483647)).2.2 0 1).1.headD 0).toNat
    (takeR bs (mostR bs k e (min most 2147483647)).2.1 (mostR bs k e (min most 2147483647)).2.2 0 1).2.1 (takeR bs (mostR bs k e (min most 2147483647)).2.1 (mostR bs k e (min most 2147483647)).2.2 0 1).2.2

theorem width_len {w : World} (zs : List Int) (n : Nat) (hz : Word zs) {lo h' : Nat} {A : Option Addr} {c : Nat} (h : Rd w lo h' A c (iv zs)) (hn : zs.length = n) :
    Calls Try.prog 55 #[.slice A n c] w fun r w' => r = .returned (.int .i64 (wide zs : Int)) ∧ w = w' := by
  subst hn
  exact width_any zs hz h

/-- the cells of a list that is filled up to k -/
def Upto (bs : List UInt8) (wd n k : Nat) (xs : List Value) : Prop := xs.length = n ∧ ∀ j, j < k → xs[j]? = some (.int .i64 (getN bs wd j : Int))
theorem upto_all {bs : List UInt8} {wd n : Nat} {xs : List Value} (h : Upto bs wd n n xs) : xs = iv (ints (getsN bs wd n)) := by
  apply List.ext_getElem?
  intro j
  by_cases hj : j < n
  · rw [h.2 j hj]
    have := getsN_get bs wd n j hj
    simp [iv, ints, this]
  · rw [List.getElem?_eq_none (by rw [h.1]; omega), List.getElem?_eq_none (by rw [iv_length, ints_length, getsN_length]; omega)]
theorem upto_succ {bs : List UInt8} {wd n k : Nat} {xs : List Value} (h : Upto bs wd n k xs) (hk : k < n) : Upto bs wd n (k + 1) (xs.set k (.int .i64 (getN bs wd k : Int))) := by
  refine ⟨by rw [List.length_set]; exact h.1, fun j hj => ?_⟩
  by_cases e : j = k
  · subst e
    rw [List.getElem?_set_self (by rw [h.1]; exact hk)]
  · rw [List.getElem?_set_ne (by omega)]
    exact h.2 j (by omega)
theorem ints_word {ns : List Nat} (h : ∀ x ∈ ns, x < 4294967296) : Word (ints ns) := by
  intro z hz
  obtain ⟨x, hx, rfl⟩ := List.mem_map.1 hz
  have := h x hx
  omega

set_option maxRecDepth 20000 in
set_option maxHeartbeats 1000000 in
theorem pread_any {w : World} {lo g k : Nat} {bs : List UInt8} {e : Int} (most : Int) (h : Cur w lo g bs k e) (hb : bs.length ≤ 1000000000000) :
    Calls Try.prog 62 #[cp g, .int .i64 most] w fun r w' => ∃ A c, r = .returned (.slice A (readR bs k e most).1.length c) ∧ w'.ownsRow w.heap.size 3 1 (.slice A (readR bs k e most).1.length c) (readR bs k e most).1.length (iv (ints (readR bs k e most).1)) ∧
      Cur w' lo g bs (readR bs k e most).2.1 (readR bs k e most).2.2 ∧ w.grownBy w' (some g) := by
  have hgl := h.lt
  have HM := Lib.hid (most_any (min most 2147483647) h)
  have hmle := mostR_le bs k e (min most 2147483647)
  unfold readR
  generalize mostR bs k e (min most 2147483647) = M at *
  obtain ⟨n, k1, e1⟩ := M
  dsimp only at HM hmle ⊢
  have hn : n ≤ 2147483647 := by omega
  have HBY := fun (w1 : World) (h1 : Cur w1 lo g bs k1 e1) => Lib.hid (byte_any h1)
  generalize takeR bs k1 e1 0 1 = T at *
  obtain ⟨tb, k2, e2⟩ := T
  dsimp only at HBY ⊢
  have hwd256 : (tb.headD 0).toNat < 256 := UInt8.toNat_lt _
  generalize (tb.headD 0).toNat = wd at *
  clear h hmle
  go_enter Try.func62, Try.ntmps62
  go_wp2_with fail
  refine HM.out.mono ?_
  rintro r w1 ⟨rfl, hc1, hg1⟩
  have HC1 := Lib.hid hc1
  have HG1 := Lib.hid hg1
  have s1 := hg1.size
  clear hc1 hg1
  go_wp2_with fail
  refine (HBY w1 HC1.out).out.mono ?_
  rintro r w2 ⟨rfl, hc2, hg2⟩
  have HC2 := Lib.hid hc2
  have HG2 := Lib.hid (HG1.out.trans hg2)
  have s2 := hg2.size
  clear hc2 hg2
  by_cases hw : wd ≤ 32
  · have HR : Hid (rightB (wd : Int) = true) := decide_eq_true (by omega)
    have hP : (n : Int) * (wd : Int) = ((n * wd : Nat) : Int) := (Int.natCast_mul n wd).symm
    have hPb : n * wd ≤ 2147483647 * 32 := Nat.mul_le_mul hn hw
    have HMID : Hid (readMid bs n wd k2 e2 = readEnd (takeR bs k2 e2 0 (((n * wd + 7) / 8 : Nat) : Int)).1 n wd (takeR bs k2 e2 0 (((n * wd + 7) / 8 : Nat) : Int)).2.1 (takeR bs k2 e2 0 (((n * wd + 7) / 8 : Nat) : Int)).2.2) := by
      unfold Hid readMid widthE
      rw [if_pos hw]
    generalize hs : (n * wd + 7) / 8 = s at HMID
    have HS := Lib.hid hs
    have hsb : s ≤ 2147483647 * 5 := by omega
    clear hs
    go_wp2_with fail
    refine (right_is _ true HR.out).mono ?_
    rintro r w' ⟨rfl, rfl⟩
    go_wp2_with fail
    refine (size_is n wd s (by omega) HS.out).mono ?_
    rintro r w' ⟨rfl, rfl⟩
    go_wp2_with fail
    refine (bytes_any (s : Int) HC2.out (by omega)).mono ?_
    have hT := takeR_full bs k2 e2 s
    generalize takeR bs k2 e2 0 (s : Int) = U at *
    obtain ⟨ub, k4, e4⟩ := U
    dsimp only at hT ⊢
    rintro r w4 ⟨A4, c4, rfl, ho4, hc4, hg4⟩
    have HO4 := Lib.hid ho4
    have HC4 := Lib.hid hc4
    have HG4 := Lib.hid (HG2.out.trans hg4)
    have s4 := hg4.size
    clear ho4 hc4 hg4
    by_cases he : e4 = 0
    · subst he
      have hul : ub.length = s := hT rfl
      have HUL := Lib.hid hul
      have hulb : ub.length ≤ s := Nat.le_of_eq hul
      clear hT hul
      obtain ⟨w5, hmake, ho5, hg5⟩ := make_nums w4 n (by omega)
      have HR5 := Lib.hid ((Rd.own HO4.out).grown hg5 (Nat.le_refl _) (by simp))
      have HC5 := Lib.hid (HC4.out.grown hg5 (by simp))
      have HG5 := Lib.hid (HG4.out.trans (gb_of_gb_none hg5))
      have HO5 := Lib.hid ho5
      have s5 := hg5.size
      have hg4l := HC4.out.lt
      clear ho5 hg5
      go_wp2_with fail
      refine (good_any HC4.out).mono ?_
      rintro r w' ⟨rfl, rfl⟩
      go_wp2_with fail
      go_loopw [32] (fun i wr => ∃ (j : Nat) (xs : List Value), j ≤ n ∧ i = .int .i64 (j : Int) ∧ wr.ownsRow w4.heap.size 3 1 (.slice (some ⟨w4.heap.size, 0, none⟩) n n) n xs ∧ Upto ub wd n j xs ∧ w5.grownBy wr (some w4.heap.size)) (fun i _ => n - (intOf i).toNat)
      case atStart => exact ⟨0, _, Nat.zero_le _, rfl, HO5.out, ⟨by simp, fun j hj => by omega⟩, gb_refl _ _⟩
      case round =>
        obtain ⟨j, xs, hj, rfl, ho6, hup, hg6⟩ := hrel
        have HO6 := Lib.hid ho6
        have HUP := Lib.hid hup
        have HG6 := Lib.hid hg6
        have s6 := hg6.size
        have HR6 := Lib.hid (HR5.out.grown hg6 s5 (fun x hx => .inr (by injection hx with hx; omega)))
        clear ho6 hup hg6
        by_cases hlt : j < n
        · have hfr := HO6.out.frozenAt j
          have hxj : j < xs.length := by rw [HUP.out.1]; exact hlt
          have hcell : wr.cell? ⟨w4.heap.size, j, none⟩ = some xs[j] := by
            rw [HO6.out.cellAt j (by omega), List.getElem?_eq_getElem hxj]
          have HST := fun (q : Nat) (u : Value) => Lib.hid (World.ownsRow.stored (w := wr.drewN q) HO6.out j u)
          generalize xs[j] = x0 at *
          go_wp2_with fail
          refine (pget_any ub wd j hw (by omega) (by omega) HR6.out).mono ?_
          rintro r w7 ⟨rfl, q, rfl⟩
          go_wp2
          go_roundw
          case rel =>
            refine ⟨j + 1, _, by omega, by go_num, (HST q _).out.1, upto_succ HUP.out hlt, ?_⟩
            exact (gb_drewN HG6.out q).trans (HST q _).out.2
          case measure => simp [intOf]; omega
        · obtain rfl : j = n := by omega
          have hall := upto_all HUP.out
          have hoL := HO6.out
          rw [hall] at hoL
          have HOL := Lib.hid hoL
          have HC6 := Lib.hid (HC5.out.grown HG6.out (fun x hx => .inr (by injection hx with hx; omega)))
          have HG7 := Lib.hid (gb_more HG5.out HG6.out (by omega))
          have hlen : (ints (getsN ub wd j)).length = j := by rw [ints_length, getsN_length]
          have HLEN := Lib.hid hlen
          have HWO := Lib.hid (ints_word (ns := getsN ub wd j) (fun x hx => by
            have h1 := getsN_lt ub wd j x hx
            have h2 : 2 ^ wd ≤ 2 ^ 32 := Nat.pow_le_pow_right (by omega) hw
            omega))
          have HWD := Lib.hid (width_len (w := wr) _ j HWO.out (Rd.own HOL.out) hlen)
          have HFI := Lib.hid (filled_any (w := wr) ub (j * wd) (by rw [HUL.out, HS.out]) (by omega) HR6.out)
          have hgl2 : (getsN ub wd j).length = j := getsN_length _ _ _
          have HGL := Lib.hid hgl2
          clear hall hoL hlen hgl2 hmake
          generalize hP2 : j * wd = P at *
          have HPP := Lib.hid hP2
          clear hP2
          by_cases hwd : wd = wide (ints (getsN ub wd j))
          · have hne : ((wd : Int) != (wide (ints (getsN ub wd j)) : Int)) = false := by rw [← hwd]; simp
            by_cases hfl : bval ub < 2 ^ P
            · have HE : Hid (readMid bs j wd k2 e2 = (getsN ub wd j, k4, 0)) := by
                unfold Hid
                rw [HMID.out]
                unfold readEnd
                rw [if_neg (by simp), HPP.out, if_pos ⟨hwd, hfl⟩]
              have HFT := Lib.hid (decide_eq_true hfl)
              rw [HFT.out] at HFI
              clear hfl hwd
              generalize wide (ints (getsN ub wd j)) = wl at *
              go_wp2_with (first
                | (go_at_call 55; refine HWD.out.mono ?_; rintro r w' ⟨rfl, rfl⟩)
                | (go_at_call 83; refine HFI.out.mono ?_; rintro r w' ⟨rfl, rfl⟩))
              go_ret
              rw [HE.out]
              exact ⟨_, _, by rw [HGL.out]; rfl, by rw [HGL.out]; exact own_base HOL.out (by omega), HC6.out, HG7.out⟩
            · have HE : Hid (readMid bs j wd k2 e2 = ([], k4, 3)) := by
                unfold Hid
                rw [HMID.out]
                unfold readEnd
                rw [if_neg (by simp), HPP.out, if_neg (fun h => hfl h.2)]
              have HFT := Lib.hid (decide_eq_false hfl)
              rw [HFT.out] at HFI
              clear hfl hwd
              generalize wide (ints (getsN ub wd j)) = wl at *
              go_wp2_with (first
                | (go_at_call 55; refine HWD.out.mono ?_; rintro r w' ⟨rfl, rfl⟩)
                | (go_at_call 83; refine HFI.out.mono ?_; rintro r w' ⟨rfl, rfl⟩)
                | (go_at_call 63; refine (fail_any 3 HC6.out).mono ?_; rintro r w8 ⟨rfl, hc8, hg8⟩; have HC8 := Lib.hid hc8; have HG8 := Lib.hid hg8; clear hc8 hg8))
              go_ret
              rw [HE.out]
              exact ⟨none, 0, rfl, World.ownsRow_nil .., by simpa using HC8.out, HG7.out.trans HG8.out⟩
          · have hne : ((wd : Int) != (wide (ints (getsN ub wd j)) : Int)) = true := by rw [bne_iff_ne]; omega
            have HE : Hid (readMid bs j wd k2 e2 = ([], k4, 3)) := by
              unfold Hid
              rw [HMID.out]
              unfold readEnd
              rw [if_neg (by simp), if_neg (fun h => hwd h.1)]
            clear hwd
            generalize wide (ints (getsN ub wd j)) = wl at *
            go_wp2_with (first
              | (go_at_call 55; refine HWD.out.mono ?_; rintro r w' ⟨rfl, rfl⟩)
              | (go_at_call 63; refine (fail_any 3 HC6.out).mono ?_; rintro r w8 ⟨rfl, hc8, hg8⟩; have HC8 := Lib.hid hc8; have HG8 := Lib.hid hg8; clear hc8 hg8))
            go_ret
            rw [HE.out]
            exact ⟨none, 0, rfl, World.ownsRow_nil .., by simpa using HC8.out, HG7.out.trans HG8.out⟩
    · have HE : Hid (readMid bs n wd k2 e2 = ([], k4, e4)) := by
        unfold Hid
        rw [HMID.out]
        unfold readEnd
        rw [if_pos he]
      have he' : (e4 == 0) = false := by simpa using he
      have HGD := Lib.hid (good_any HC4.out)
      rw [he'] at HGD
      clear hT he he'
      go_wp2_with fail
      refine HGD.out.mono ?_
      rintro r w' ⟨rfl, rfl⟩
      go_wp2
      go_ret
      rw [HE.out]
      exact ⟨none, 0, rfl, World.ownsRow_nil .., HC4.out, HG4.out⟩
  · have HR : Hid (rightB (wd : Int) = false) := decide_eq_false (by omega)
    have hP : (n : Int) * (wd : Int) = ((n * wd : Nat) : Int) := (Int.natCast_mul n wd).symm
    have hPb : n * wd ≤ 2147483647 * 255 := Nat.mul_le_mul hn (by omega)
    obtain ⟨e3, he3⟩ : ∃ e3, e3 = if e2 = 0 then (3 : Int) else e2 := ⟨_, rfl⟩
    have he30 : e3 ≠ 0 := by rw [he3]; split <;> omega
    have HE : Hid (readMid bs n wd k2 e2 = ([], k2, e3)) := by
      unfold Hid readMid widthE
      rw [if_neg hw, ← he3, takeR_err _ _ _ _ _ he30]
      unfold readEnd
      rw [if_pos he30]
    generalize hs : (n * wd + 7) / 8 = s
    have HS := Lib.hid hs
    have HT := Lib.hid (takeR_err bs k2 e3 0 (s : Int) he30)
    have hbe : (e3 == 0) = false := by simpa using he30
    have HBE := Lib.hid hbe
    have HE3 := Lib.hid he3
    clear hs he30 hbe he3
    go_wp2_with fail
    refine (right_is _ false HR.out).mono ?_
    rintro r w' ⟨rfl, rfl⟩
    go_wp2_with fail
    refine (fail_any 3 HC2.out).mono ?_
    rintro r w3 ⟨rfl, hc3, hg3⟩
    rw [← HE3.out] at hc3
    have HC3 := Lib.hid hc3
    have HG3 := Lib.hid (HG2.out.trans hg3)
    clear hc3 hg3
    go_wp2_with fail
    refine (size_is n wd s (by omega) HS.out).mono ?_
    rintro r w' ⟨rfl, rfl⟩
    go_wp2_with fail
    refine (bytes_any (s : Int) HC3.out (by omega)).mono ?_
    rw [HT.out]
    rintro r w4 ⟨A4, c4, rfl, ho4, hc4, hg4⟩
    have HC4 := Lib.hid hc4
    have HG4 := Lib.hid (HG3.out.trans hg4)
    have HGD := Lib.hid (good_any hc4)
    rw [HBE.out] at HGD
    clear ho4 hc4 hg4
    go_wp2_with fail
    refine HGD.out.mono ?_
    rintro r w' ⟨rfl, rfl⟩
    go_wp2
    go_ret
    rw [HE.out]
    exact ⟨none, 0, rfl, World.ownsRow_nil .., HC4.out, HG4.out⟩
end Go.Proofs.Ytepgkdmfoojppaa
