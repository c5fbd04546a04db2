/-
  The pack's Put.
-/
import Derived.Test.YtfoadchengbedaaPakA
import Derived.Laws.MakeOwn
import Derived.Laws.BitsAll
namespace Go.Proofs.Ytfoadchengbedaa
set_option linter.unusedSimpArgs false
set_option linter.unusedVariables false
open Go.RowKit

theorem bytesN_add (a b V : Nat) : bytesN (a + b) V = bytesN a V ++ bytesN b (V / 256 ^ a) := by
  induction a generalizing V with
  | zero => simp [bytesN]
  | succ a ih =>
    rw [Nat.add_right_comm, bytesN, ih (V / 256), bytesN, List.cons_append, Nat.div_div_eq_div_mul, Nat.pow_succ, Nat.mul_comm 256]

/-- one number more: the bytes that are full, the bits behind them -/
theorem put_step (S n x m : Nat) (hx : x < 2 ^ m) (hS : S < 2 ^ n) (T : Nat) (hT : T = S / 256 ^ (n / 8) + 2 ^ (n % 8) * x) :
    S / 256 ^ (n / 8) < 2 ^ (n % 8) ∧ bytesN ((n + m) / 8) (S + 2 ^ n * x) = bytesN (n / 8) S ++ bytesN ((n % 8 + m) / 8) T ∧ (S + 2 ^ n * x) / 256 ^ ((n + m) / 8) = T / 256 ^ ((n % 8 + m) / 8) := by
  have e2 : 2 ^ n = 256 ^ (n / 8) * 2 ^ (n % 8) := by
    rw [pow256, ← Nat.pow_add]
    congr 1
    omega
  have hp : 0 < 256 ^ (n / 8) := Nat.pow_pos (by omega)
  have hd : (S + 2 ^ n * x) / 256 ^ (n / 8) = T := by
    rw [e2, Nat.mul_assoc, Nat.add_mul_div_left _ _ hp, hT]
  have hq : (n + m) / 8 = n / 8 + (n % 8 + m) / 8 := by omega
  refine ⟨?_, ?_, ?_⟩
  · rw [e2] at hS
    exact Nat.div_lt_of_lt_mul hS
  · rw [hq, bytesN_add, hd, e2, Nat.mul_assoc, bytesN_plus]
  · rw [hq, Nat.pow_add, ← Nat.div_div_eq_div_mul, hd]

/-- what Put has, ahead of the k-th number: the full bytes, the bits behind them, how many these are -/
def PutAt (m : Nat) (ns : List Nat) (k : Nat) (ys : List UInt8) (x hd : Nat) : Prop :=
  ys = bytesN (k * m / 8) (vsum m (ns.take k)) ∧ x = vsum m (ns.take k) / 256 ^ (k * m / 8) ∧ hd = k * m % 8
theorem putAt_zero (m : Nat) (ns : List Nat) : PutAt m ns 0 [] 0 0 := by simp [PutAt, bytesN, vsum]
theorem putAt_len {m k : Nat} {ns : List Nat} {ys : List UInt8} {x hd : Nat} (h : PutAt m ns k ys x hd) : ys.length = k * m / 8 := by rw [h.1, bytesN_length]
theorem vsum_take {m : Nat} {ns : List Nat} (hf : ∀ x ∈ ns, x < 2 ^ m) {k : Nat} (hk : k ≤ ns.length) : vsum m (ns.take k) < 2 ^ (k * m) := by
  have := vsum_lt m (ns.take k) fun x hx => hf x (List.mem_of_mem_take hx)
  rwa [List.length_take, Nat.min_eq_left hk, Nat.mul_comm] at this
theorem putAt_step {m k : Nat} {ns : List Nat} {ys : List UInt8} {x hd : Nat} (hf : ∀ x ∈ ns, x < 2 ^ m) (h : PutAt m ns k ys x hd) (hk : k < ns.length) (z : Nat) (hz : ns[k] = z) :
    x < 2 ^ hd ∧ z < 2 ^ m ∧ PutAt m ns (k + 1) (ys ++ bytesN ((hd + m) / 8) (x + 2 ^ hd * z)) ((x + 2 ^ hd * z) / 256 ^ ((hd + m) / 8)) ((hd + m) % 8) := by
  obtain ⟨rfl, rfl, rfl⟩ := h
  have hzm : z < 2 ^ m := by rw [← hz]; exact hf _ (List.getElem_mem hk)
  have hS := vsum_take hf (Nat.le_of_lt hk)
  obtain ⟨h1, h2, h3⟩ := put_step (vsum m (ns.take k)) (k * m) z m hzm hS _ rfl
  have e : vsum m (ns.take (k + 1)) = vsum m (ns.take k) + 2 ^ (k * m) * z := by
    rw [List.take_succ_eq_append_getElem hk, vsum_snoc, List.length_take, Nat.min_eq_left (Nat.le_of_lt hk), hz, Nat.mul_comm m]
  have e2 : (k + 1) * m = k * m + m := by rw [Nat.add_mul, Nat.one_mul]
  refine ⟨h1, hzm, ?_, ?_, ?_⟩
  · rw [e2, e, h2]
  · rw [e2, e, h3]
  · rw [e2]; omega
theorem putAt_full {m : Nat} {ns : List Nat} {ys : List UInt8} {x : Nat} (h : PutAt m ns ns.length ys x 0) : ys = packL m ns := by
  obtain ⟨rfl, -, h3⟩ := h
  unfold packL
  rw [List.take_length, show (ns.length * m + 7) / 8 = ns.length * m / 8 from by omega]
theorem putAt_rest {m : Nat} {ns : List Nat} {ys : List UInt8} {x hd : Nat} (h : PutAt m ns ns.length ys x hd) (hd0 : 0 < hd) : ys ++ [UInt8.ofNat (x % 256)] = packL m ns := by
  obtain ⟨rfl, rfl, h3⟩ := h
  unfold packL
  rw [List.take_length, show (ns.length * m + 7) / 8 = ns.length * m / 8 + 1 from by omega, bytesN_snoc]

/-- what Put has ahead of the j-th byte of the bits that it holds -/
def InAt (ys : List UInt8) (T j : Nat) (us : List UInt8) (y : Nat) : Prop := us = ys ++ bytesN j T ∧ y = T / 256 ^ j
theorem inAt_zero (ys : List UInt8) (T : Nat) : InAt ys T 0 ys T := by simp [InAt, bytesN]
theorem inAt_len {ys us : List UInt8} {T j y : Nat} (h : InAt ys T j us y) : us.length = ys.length + j := by rw [h.1, List.length_append, bytesN_length]
theorem inAt_le {ys us : List UInt8} {T j y : Nat} (h : InAt ys T j us y) : y ≤ T := by rw [h.2]; exact Nat.div_le_self _ _
theorem inAt_step {ys us : List UInt8} {T j y : Nat} (h : InAt ys T j us y) : InAt ys T (j + 1) (us ++ [UInt8.ofNat (y % 256)]) (y / 256) := by
  obtain ⟨rfl, rfl⟩ := h
  refine ⟨?_, ?_⟩
  · rw [bytesN_snoc, List.append_assoc]
  · rw [Nat.pow_succ, Nat.div_div_eq_div_mul]
theorem or_add (X z D : Nat) (hX : X < 2 ^ D) (hD : D < 8) (hz : z < 2 ^ 32) :
    bits .or .u64 (X : Int) (IntKind.u64.wrap (IntKind.u64.wrap (z : Int) * 2 ^ D)) = ((X + 2 ^ D * z : Nat) : Int) ∧ X + 2 ^ D * z < 1099511627776 := by
  have hp : 2 ^ D ≤ 2 ^ 7 := Nat.pow_le_pow_right (by omega) (by omega)
  have hb : 2 ^ D * z ≤ 2 ^ 7 * (2 ^ 32 - 1) := Nat.mul_le_mul hp (by omega)
  have e1 : IntKind.u64.wrap (z : Int) = (z : Int) := by rw [IntKind.wrap_u64]; omega
  have e2 : (2 : Int) ^ D = ((2 ^ D : Nat) : Int) := by norm_cast
  have e3 : IntKind.u64.wrap ((2 ^ D * z : Nat) : Int) = ((2 ^ D * z : Nat) : Int) := by rw [IntKind.wrap_u64]; omega
  refine ⟨?_, by omega⟩
  rw [e1, e2, Int.mul_comm, ← Int.natCast_mul, e3, u64_or_nat _ _ (by omega) (by omega)]
  congr 1
  rw [Nat.or_comm, Nat.mul_comm, ← Nat.shiftLeft_eq, ← Nat.shiftLeft_add_eq_or_of_lt hX, Nat.add_comm]

theorem size_is {w : World} (n wd s : Nat) (h : n * wd ≤ 1000000000000000) (hs : (n * wd + 7) / 8 = s) :
    Calls Try.prog 26 #[.int .i64 (n : Int), .int .i64 (wd : Int)] w fun r w' => r = .returned (.int .i64 (s : Int)) ∧ w = w' := by
  subst hs
  exact size_any n wd h

theorem make_bytes (w : World) (n : Nat) (h : n ≤ 100000000000000) : ∃ w1, (Instr.makeSlice 24 (.int .i64 0) (.int .i64 (n : Int))).run Try.prog w = .ok (.slice (some ⟨w.heap.size, 0, none⟩) 0 n) w1 ∧
    w1.ownsRow w.heap.size 5 1 (.slice (some ⟨w.heap.size, 0, none⟩) 0 n) 0 [] ∧ w.grownBy w1 none := by
  obtain ⟨i0, hi0, hz0, hz1, hz2⟩ := info_parts Try.infoU8
  have := run_make_own (P := Try.prog) w w.heap.size 24 5 i0 _ 1 Try.underlying24 hi0 hz0 hz1 .i64 .i64 n (by rw [hz2]; omega) (by simp only [maxLen]; omega) (Nat.le_refl _)
  simpa using this

theorem fit_is {w : World} (zs : List Int) (wd : Int) (b : Bool) (hb : fitB zs wd = b) {lo h' : Nat} {A : Option Addr} {c : Nat} (h : Rd w lo h' A c (iv zs)) :
    Calls Try.prog 25 #[.slice A zs.length c, .int .i64 wd] w fun r w' => r = .returned (.bool b) ∧ w = w' := by
  subst hb
  exact fit_any zs wd h

theorem pput_no {w : World} (zs : List Int) (wd : Int) (hf : ¬ Fits zs wd) {lo h' : Nat} {A : Option Addr} {c : Nat} (h : Rd w lo h' A c (iv zs)) :
    Calls Try.prog 10 #[.slice A zs.length c, .int .i64 wd] w fun r w' => r = .returned (.tuple #[.slice none 0 0, .int .i64 1]) ∧ w = w' := by
  have HF := Lib.hid (fit_is (w := w) zs wd false (decide_eq_false hf) h)
  clear h hf
  go_enter Try.func10, Try.ntmps10
  go_wp2_with fail
  refine HF.out.mono ?_
  rintro r w' ⟨rfl, rfl⟩
  go_wp2
  go_ret2
  exact ⟨rfl, rfl⟩

set_option maxRecDepth 20000 in
set_option maxHeartbeats 1000000 in
theorem pput_yes {w : World} (zs : List Int) (m : Nat) (hf : Fits zs (m : Int)) {h' : Nat} {A : Option Addr} {c : Nat} (h : Rd w 0 h' A c (iv zs)) (hh : h' ≤ w.heap.size) (hlen : zs.length ≤ 4294967295) :
    Calls Try.prog 10 #[.slice A zs.length c, .int .i64 (m : Int)] w fun r w' => ∃ A' c', r = .returned (.tuple #[.slice A' (packL m (nats zs)).length c', .int .i64 0]) ∧
      w'.ownsRow w.heap.size 5 1 (.slice A' (packL m (nats zs)).length c') (packL m (nats zs)).length (bv (packL m (nats zs))) ∧ Below w.heap.size w w' := by
  have hm : m ≤ 32 := by have := hf.2.1; omega
  have hnm : zs.length * m ≤ 4294967295 * 32 := Nat.mul_le_mul hlen hm
  generalize hs : (zs.length * m + 7) / 8 = s
  obtain ⟨w1, hmake, hown1, hg1⟩ := make_bytes w s (by omega)
  have k1 : Below w.heap.size w w1 := (Below.refl _ _).grown hg1 (Nat.le_refl _) (by simp)
  have hl := h.len
  have hc := h.cap
  rw [iv_length] at hl
  unfold maxLen at hc
  have H := Lib.hid h
  have H1 := Lib.hid (h.below k1 hh)
  have HS := Lib.hid hs
  have HF := Lib.hid hf
  have HO := Lib.hid hown1
  have K1 := Lib.hid k1
  clear h hs hf hown1 hg1 k1
  go_enter Try.func10, Try.ntmps10
  go_wp2_with fail
  refine (fit_is zs m true (decide_eq_true HF.out) H.out).mono ?_
  rintro r w' ⟨rfl, rfl⟩
  go_wp2_with fail
  refine (size_is zs.length m s (by omega) HS.out).mono ?_
  rintro r w' ⟨rfl, rfl⟩
  go_wp2_with fail
  have hK := Lib.hid HF.out.nats_lt
  have hN := nats_length zs
  have HN := Lib.hid hN
  clear hN
  go_loopw [6, 7, 8, 22] (fun b x hd i wr => ∃ (k : Nat) (ys : List UInt8) (A' : Option Addr) (c' X D : Nat), k ≤ zs.length ∧ i = .int .i64 (k : Int) ∧ b = .slice A' ys.length c' ∧ x = .int .u64 (X : Int) ∧ hd = .int .i64 (D : Int) ∧
      PutAt m (nats zs) k ys X D ∧ wr.ownsRow w.heap.size 5 1 (.slice A' ys.length c') ys.length (bv ys) ∧ Below w.heap.size w wr) (fun _ _ _ i _ => zs.length - (intOf i).toNat)
  case atStart => exact ⟨0, [], _, _, 0, 0, Nat.zero_le _, rfl, rfl, rfl, rfl, putAt_zero _ _, HO.out, K1.out⟩
  case round =>
    obtain ⟨k, ys, A', c', X, D, hk, rfl, rfl, rfl, rfl, hat, hown, hbel⟩ := hrel
    have HAT := Lib.hid hat
    have HOW := Lib.hid hown
    have HBL := Lib.hid hbel
    have hD : D < 8 := by have := hat.2.2; omega
    by_cases hlt : k < zs.length
    · obtain ⟨b, off, rfl, _, _, hcell⟩ := (H.out.below hbel hh).num hlt
      have hkn : k < (nats zs).length := by rw [nats_length]; exact hlt
      have hzk : (nats zs)[k] = zs[k].toNat := by simp [nats]
      have hz0 := (HF.out.2.2 _ (List.getElem_mem hlt)).1
      obtain ⟨hX, hZ, hnext⟩ := putAt_step HF.out.nats_lt hat hkn _ hzk
      have HX := Lib.hid hnext
      generalize zs[k] = z0 at *
      obtain ⟨z, rfl⟩ := Int.eq_ofNat_of_zero_le hz0
      simp only [Int.toNat_natCast] at HX hZ
      have hz32 : z < 2 ^ 32 := Nat.lt_of_lt_of_le hZ (Nat.pow_le_pow_right (by omega) hm)
      obtain ⟨hor, hT⟩ := or_add X z D hX hD hz32
      have hlen : ys.length ≤ k * m / 8 := Nat.le_of_eq (putAt_len hat)
      have hkm : k * m ≤ zs.length * m := Nat.mul_le_mul_right _ hk
      have hq : (((D : Int) + (m : Int)) / 8) ≤ (((D + m) / 8 : Nat) : Int) := by omega
      have hq' : (((D + m) / 8 : Nat) : Int) ≤ (((D : Int) + (m : Int)) / 8) := by omega
      have hN4 : (D + m) / 8 ≤ 4 := by omega
      have HM : Hid ((((D : Int) + (m : Int)) % 8) = (((D + m) % 8 : Nat) : Int)) := by unfold Hid; omega
      clear hat hown hbel hzk hnext hz0 hX hZ hz32
      generalize X + 2 ^ D * z = T at *
      generalize (D + m) / 8 = N at *
      generalize (D + m) % 8 = D' at *
      obtain ⟨wo, rfl⟩ : ∃ wo : World, wo = wr := ⟨_, rfl⟩
      go_wp2_with fail
      go_loopw [6, 7, 37] (fun b x i wr => ∃ (j : Nat) (us : List UInt8) (A' : Option Addr) (c' y : Nat), j ≤ N ∧ i = .int .i64 (j : Int) ∧ b = .slice A' us.length c' ∧ x = .int .u64 (y : Int) ∧
          InAt ys T j us y ∧ wr.ownsRow w.heap.size 5 1 (.slice A' us.length c') us.length (bv us) ∧ Below w.heap.size w wr) (fun _ _ i _ => N - (intOf i).toNat)
      case atStart => exact ⟨0, ys, _, _, T, Nat.zero_le _, rfl, rfl, rfl, inAt_zero _ _, HOW.out, HBL.out⟩
      case round =>
        obtain ⟨j, us, A2, c2, y, hj, rfl, rfl, rfl, hin, hown, hbel⟩ := hrel
        have HIN := Lib.hid hin
        have HO2 := Lib.hid hown
        have HB2 := Lib.hid hbel
        have hsz := hbel.size
        have hul : us.length ≤ ys.length + j := Nat.le_of_eq (inAt_len hin)
        have hyT := inAt_le hin
        clear hin hown hbel
        by_cases hlj : j < N
        · have HA : Hid ((UInt8.ofNat (y % 256)).toNat = y % 256) := byte_toNat y
          clear hor
          go_wp2_with (at_builtin; refine wpList_push (v := .slice A2 us.length c2) w.heap.size us (UInt8.ofNat (y % 256)) rfl _ _ rfl rfl rfl rfl (by rw [HA.out, World.cell?_alloc_at _ _ _ _ rfl]; rfl) (HO2.out.alloc _) (by omega) (by simp; omega) ?_; intro A3 c3 w3 hown3 hgr3)
          have HO3 := Lib.hid hown3
          have HG3 := Lib.hid hgr3
          clear hown3 hgr3
          go_wp2
          go_roundw
          case rel =>
            refine ⟨j + 1, us ++ [UInt8.ofNat (y % 256)], A3, c3, y / 256, by omega, by go_num, by simp, by go_num, inAt_step HIN.out, HO3.out, ?_⟩
            exact (HB2.out.alloc hsz _).grown HG3.out (by simp; omega) (fun k hk => own_row HO2.out k hk)
          case measure => simp [intOf]; omega
        · obtain rfl : j = N := by omega
          go_wp2
          go_roundw
          case rel =>
            refine ⟨k + 1, us, A2, c2, y, D', by omega, by go_num, rfl, rfl, by rw [HM.out], ?_, HO2.out, HB2.out⟩
            rw [HIN.out.1, HIN.out.2]
            exact HX.out
          case measure => simp [intOf]; omega
    · obtain rfl : k = zs.length := by omega
      have hlen : ys.length ≤ zs.length * m / 8 := Nat.le_of_eq (putAt_len hat)
      have hX := (HF.out.nats_lt)
      have hXD : X < 2 ^ D := by
        have h1 := vsum_take (m := m) (ns := nats zs) (by simpa using HF.out.nats_lt) (k := zs.length) (by rw [HN.out]; exact Nat.le_refl _)
        have h2 := (put_step _ _ 0 0 (by simp) h1 _ rfl).1
        rw [← hat.2.1, ← hat.2.2] at h2
        exact h2
      have hX128 : X < 128 := Nat.lt_of_lt_of_le hXD (Nat.pow_le_pow_right (by omega) (show D ≤ 7 by omega))
      have hsz := hbel.size
      have hat' : PutAt m (nats zs) (nats zs).length ys X D := by rw [HN.out]; exact hat
      by_cases hD0 : D = 0
      · subst hD0
        have HE := Lib.hid (putAt_full hat')
        clear hat hat' hown hbel hX
        go_wp2
        go_ret2
        exact ⟨A', c', by rw [← HE.out]; rfl, by rw [← HE.out]; exact HOW.out, HBL.out⟩
      · have hrest := putAt_rest hat' (by omega)
        rw [Nat.mod_eq_of_lt (show X < 256 by omega)] at hrest
        have HE := Lib.hid hrest
        have hDp : 0 < D := by omega
        have HA : Hid ((UInt8.ofNat X).toNat = X) := by unfold Hid; rw [UInt8.toNat_ofNat']; omega
        clear hat hat' hown hbel hX hrest
        go_wp2_with (at_builtin; refine wpList_push (v := .slice A' ys.length c') w.heap.size ys (UInt8.ofNat X) rfl _ _ rfl rfl rfl rfl (by rw [HA.out, World.cell?_alloc_at _ _ _ _ rfl]; rfl) (HOW.out.alloc _) (by omega) (by simp; omega) ?_; intro A3 c3 w3 hown3 hgr3)
        have HO3 := Lib.hid hown3
        have HG3 := Lib.hid hgr3
        clear hown3 hgr3
        go_wp2
        go_ret2
        refine ⟨A3, c3, by rw [← HE.out, List.length_append]; rfl, by rw [← HE.out]; exact HO3.out, ?_⟩
        exact (HBL.out.alloc hsz _).grown HG3.out (by simp; omega) (fun k hk => own_row HOW.out k hk)

/-- Put, of whatever numbers and width -/
theorem pput_any {w : World} (zs : List Int) (wd : Int) {h' : Nat} {A : Option Addr} {c : Nat} (h : Rd w 0 h' A c (iv zs)) (hh : h' ≤ w.heap.size) (hlen : zs.length ≤ 4294967295) :
    Calls Try.prog 10 #[.slice A zs.length c, .int .i64 wd] w fun r w' => ∃ A' c', r = .returned (.tuple #[.slice A' (putR zs wd).1.length c', .int .i64 (putR zs wd).2]) ∧
      w'.ownsRow w.heap.size 5 1 (.slice A' (putR zs wd).1.length c') (putR zs wd).1.length (bv (putR zs wd).1) ∧ Below w.heap.size w w' := by
  by_cases hf : Fits zs wd
  · rw [putR_yes hf]
    obtain ⟨m, rfl⟩ := Int.eq_ofNat_of_zero_le hf.1
    rw [Int.toNat_natCast]
    exact pput_yes zs m hf h hh hlen
  · rw [putR_no hf]
    refine (pput_no zs wd hf h).mono ?_
    rintro r w' ⟨rfl, rfl⟩
    exact ⟨_, _, rfl, World.ownsRow_nil .., Below.refl _ _⟩
end Go.Proofs.Ytfoadchengbedaa
