/-
  Proved: PackBack returns true for all words of 32 bits and every byte, and leaves what was there as it was. No condition.
-/
import Derived.Test.YtfoadchengbedaaPKeep
import Derived.Test.YtfoadchengbedaaPRead
namespace Go.Proofs.Ytfoadchengbedaa
set_option linter.unusedSimpArgs false
set_option linter.unusedVariables false
open Go.ChangeShapes Go.WideShapes Go.ChangeAt Go.RowKit

theorem ints_take (ns : List Nat) (k : Nat) : ints (ns.take k) = (ints ns).take k := by simp [ints, List.map_take]
theorem ints_append (a b : List Nat) : ints (a ++ b) = ints a ++ ints b := by simp [ints]
theorem ints_may {ns : List Nat} (h : ∀ n ∈ ns, n ≤ 4294967295) : May (ints ns) := by
  intro z hz
  obtain ⟨n, hn, rfl⟩ := List.mem_map.1 hz
  have := h n hn
  omega
theorem fits_wider {zs : List Int} (h : May zs) (W : Nat) (h1 : wide zs ≤ W) (h2 : W ≤ 32) : Fits zs (W : Int) := by
  refine ⟨by omega, by omega, fun z hz => ⟨(h z hz).1, ?_⟩⟩
  have h3 := wide_lt h.word z hz
  have h4 : (2 : Nat) ^ wide zs ≤ 2 ^ W := Nat.pow_le_pow_right (by omega) h1
  have e1 : ((2 ^ wide zs : Nat) : Int) = 2 ^ wide zs := by norm_cast
  have e2 : ((2 ^ W : Nat) : Int) = 2 ^ W := by norm_cast
  rw [Int.toNat_natCast]
  omega
theorem pput_len {w : World} {n m : Nat} (zs : List Int) (xs : List UInt8) (hf : Fits zs (m : Int)) (hn : zs.length = n) (hx : packL m (nats zs) = xs) {h' : Nat} {A : Option Addr} {c : Nat} (h : Rd w 0 h' A c (iv zs)) (hh : h' ≤ w.heap.size) (hlen : zs.length ≤ 4294967295) :
    Calls Try.prog 10 #[.slice A n c, .int .i64 (m : Int)] w fun r w' => ∃ A' c', r = .returned (.tuple #[.slice A' xs.length c', .int .i64 0]) ∧
      w'.ownsRow w.heap.size 5 1 (.slice A' xs.length c') xs.length (bv xs) ∧ Below w.heap.size w w' := by
  subst hn hx
  exact pput_yes zs m hf h hh hlen
theorem pwrite_len {w : World} {n : Nat} (zs : List Int) (xs : List UInt8) (hm : May zs) (hn : zs.length = n) (hx : writeL zs = xs) {h' : Nat} {A : Option Addr} {c : Nat} (h : Rd w 0 h' A c (iv zs)) (hh : h' ≤ w.heap.size) (hlen : zs.length ≤ 4294967295) :
    Calls Try.prog 18 #[.slice A n c] w fun r w' => ∃ A' c', r = .returned (.tuple #[.slice A' xs.length c', .int .i64 0]) ∧
      w'.ownsRow w.heap.size 5 1 (.slice A' xs.length c') xs.length (bv xs) ∧ Below w.heap.size w w' := by
  subst hn hx
  exact pwrite_yes zs hm h hh hlen
theorem uv_length (l : List Nat) : (uv l).length = l.length := by simp [uv]
theorem uv_get (l : List Nat) (k : Nat) (h : k < l.length) : (uv l)[k]? = some (.int .u32 (l[k] : Int)) := by
  simp [uv, List.getElem?_eq_getElem h]

theorem pget_len {w : World} (bs : List UInt8) (wd i n : Nat) (z : Int) (hn : bs.length = n) (hz : (getN bs wd i : Int) = z) (hw : wd ≤ 32) (hi : i ≤ 1000000000000) (hb : n ≤ 1000000000000) {lo h' : Nat} {A : Option Addr} {c : Nat} (h : Rd w lo h' A c (bv bs)) :
    Calls Try.prog 16 #[.slice A n c, .int .i64 (wd : Int), .int .i64 (i : Int)] w fun r w' => r = .returned (.int .i64 z) ∧ ∃ m, w' = w.drewN m := by
  subst hn hz
  exact (pget_any bs wd i hw hi hb h).mono fun _ _ ⟨he, m, hm⟩ => ⟨he, m, hm.symm⟩

set_option maxRecDepth 20000 in
set_option maxHeartbeats 2000000 in
theorem packBack_walk {w : World} {A : Option Addr} {ns : List Nat} {c : Nat} (hz : Rd w 0 w.heap.size A c (uv ns) ∧ ∀ n ∈ ns, n ≤ 4294967295) (mb : UInt8) :
    Calls Try.prog 7 #[.slice A ns.length c, .int .u8 (mb.toNat : Int)] w fun e w' => e = .returned (.bool true) ∧ Below w.heap.size w w' := by
  obtain ⟨h, hns⟩ := hz
  have hl := h.len
  have hc := h.cap
  rw [uv_length] at hl
  unfold maxLen at hc
  have H := Lib.hid h
  have hm := UInt8.toNat_lt mb
  clear h
  generalize mb.toNat = more at *
  by_cases h300 : ns.length ≤ 300
  · have hmay := ints_may hns
    have HMY := Lib.hid hmay
    have HLN : Hid ((ints ns).length = ns.length) := ints_length ns
    have hw32 := hmay.wide_le
    have HWO := Lib.hid hmay.word
    have HNS := Lib.hid hns
    clear hmay hns
    go_enter Try.func7, Try.ntmps7
    go_wp2_with fail
    refine (awake3_any _).mono ?_
    rintro r w1 ⟨rfl, hb1⟩
    have K1 := Lib.hid hb1
    have s1 := hb1.size
    clear hb1
    go_wp2_with fail
    go_loopw [5, 6] (fun v i wr => ∃ (k : Nat) (zs : List Int) (A' : Option Addr) (c' : Nat), k ≤ ns.length ∧ i = .int .i64 (k : Int) ∧ v = .slice A' zs.length c' ∧ zs = ints (ns.take k) ∧ wr.ownsRow w1.heap.size 3 1 (.slice A' zs.length c') zs.length (iv zs) ∧ Below w1.heap.size w1 wr) (fun _ i _ => ns.length - (intOf i).toNat)
    case atStart => exact ⟨0, [], none, 0, Nat.zero_le _, rfl, rfl, rfl, World.ownsRow_nil .., Below.refl _ _⟩
    case round =>
      obtain ⟨k, zs, A', c', hk, rfl, rfl, hzs, hown, hbel⟩ := hrel
      have HZS := Lib.hid hzs
      have HOW := Lib.hid hown
      have HBL := Lib.hid hbel
      have hsz := hbel.size
      have hzl : zs.length ≤ k := by rw [hzs, ints_length, List.length_take]; omega
      by_cases hlt : k < ns.length
      · obtain ⟨b, off, rfl, _, _, hcell⟩ := ((H.out.below K1.out (Nat.le_refl _)).below hbel s1).get (k := k) (by rw [uv_length]; exact hlt)
        have hv := uv_get ns k hlt
        rw [List.getElem?_eq_getElem (by rw [uv_length]; exact hlt)] at hv
        injection hv with hv
        rw [hv] at hcell
        have HNX : Hid (zs ++ [(ns[k] : Int)] = ints (ns.take (k + 1))) := by
          unfold Hid
          rw [hzs, List.take_succ_eq_append_getElem hlt, ints_append]
          rfl
        have hnb := HNS.out _ (List.getElem_mem hlt)
        clear hv hzs hown hbel
        generalize ns[k] = n at *
        have hwn : IntKind.i64.wrap (n : Int) = (n : Int) := IntWalk.i64_in _ (by omega)
        go_wp2_with (at_builtin; refine wpList_push_num (v := .slice A' zs.length c') w1.heap.size zs (n : Int) rfl _ _ rfl rfl rfl rfl (by rw [World.cell?_alloc_at _ _ _ _ rfl]; rfl) (HOW.out.alloc _) (by omega) (by simp; omega) ?_; intro A2 c2 w2 hown2 hgr2)
        have HO2 := Lib.hid hown2
        have HG2 := Lib.hid hgr2
        clear hown2 hgr2
        go_wp2
        go_roundw
        case rel =>
          refine ⟨k + 1, zs ++ [(n : Int)], A2, c2, by omega, by go_num, by simp, HNX.out, HO2.out, ?_⟩
          exact (HBL.out.alloc hsz _).grown HG2.out (by simp; omega) (fun j hj => own_row HOW.out j hj)
        case measure => simp [intOf]; omega
      · obtain rfl : k = ns.length := by omega
        rw [List.take_length] at hzs
        have HMZ : Hid (May zs) := by unfold Hid; rw [hzs]; exact HMY.out
        have HWZ := Lib.hid HMZ.out.word
        have HNZ : Hid (nats zs = ns) := by unfold Hid; rw [hzs, nats_ints]
        obtain ⟨L, hL⟩ : ∃ L, zs.length = L := ⟨_, rfl⟩
        have hL300 : L ≤ 300 := by omega
        rw [hL] at hown
        have HL := Lib.hid hL
        have HOL := Lib.hid hown
        have KL := Lib.hid (below_below K1.out hbel s1)
        have sL : w.heap.size ≤ wr.heap.size := by omega
        have hwz := HMZ.out.wide_le
        have hcs := writeL_length HMZ.out (by omega)
        obtain ⟨cs, hcsd⟩ : ∃ cs, writeL zs = cs := ⟨_, rfl⟩
        rw [hcsd] at hcs
        have HCS := Lib.hid hcsd
        have HRB : Hid (readR cs 0 0 300 = (nats zs, cs.length, 0)) := by
          unfold Hid
          rw [← hcsd]
          exact read_back zs HMZ.out 300 (by omega) (by omega)
        have HIZ : Hid (ints (nats zs) = zs) := ints_nats (fun z hz => (HMZ.out z hz).1)
        have HNL : Hid ((nats zs).length = L) := by unfold Hid; rw [nats_length, hL]
        have HWD := Lib.hid (width_len (w := wr) zs L HWZ.out (Rd.own HOL.out) hL)
        have ht : (more : Int) % 3 = ((more % 3 : Nat) : Int) := by omega
        have ht2 : more % 3 ≤ 2 := by omega
        rw [hL]
        generalize more % 3 = t at *
        clear hzs hL hown hbel HZS HOW hcsd hw32 HMY HWO
        obtain ⟨wd, hwd⟩ : ∃ wd, wide zs = wd := ⟨_, rfl⟩
        rw [hwd] at HWD hwz
        go_wp2_with fail
        refine HWD.out.mono ?_
        rintro r w' ⟨rfl, rfl⟩
        by_cases hov : 32 < wd + t
        · have hov' : (32 : Int) < (wd : Int) + (t : Int) := by omega
          have HFT := Lib.hid (fits_wider HMZ.out 32 (by omega) (by omega))
          obtain ⟨pk, hpk⟩ : ∃ pk, packL 32 (nats zs) = pk := ⟨_, rfl⟩
          have hpl : pk.length = (L * 32 + 7) / 8 := by rw [← hpk, packL_length, nats_length, HL.out]
          have HGT : Hid (∀ i (hi : i < zs.length), (getN pk 32 i : Int) = zs[i]) := by
            intro i hi
            have h1 := HFT.out.nats_lt
            rw [Int.toNat_natCast] at h1
            have h2 := get_pack 32 (nats zs) h1 i (by rw [nats_length]; exact hi)
            rw [hpk] at h2
            have h3 := (HMZ.out _ (List.getElem_mem hi)).1
            have h4 : (nats zs)[i]'(by rw [nats_length]; exact hi) = zs[i].toNat := by simp [nats]
            rw [h2, h4]
            omega
          have hP : (L : Int) * (32 : Int) = ((L * 32 : Nat) : Int) := by first | exact (Int.natCast_mul _ _).symm | (rw [Int.natCast_mul]; rfl)
          have hPb : L * 32 ≤ 300 * 32 := Nat.mul_le_mul (by omega) (by omega)
          generalize L * 32 = P at *
          have hS : ((P : Int) + 7) / 8 = (((P + 7) / 8 : Nat) : Int) := by omega
          have hSb : (P + 7) / 8 ≤ 1201 := by omega
          generalize (P + 7) / 8 = S at *
          have HPK := Lib.hid hpk
          have HPL := Lib.hid hpl
          clear hpk hpl
          go_wp2_with fail
          refine (pput_len (m := 32) zs pk HFT.out HL.out HPK.out (Rd.own HOL.out |>.wide (Nat.zero_le _) (Nat.le_refl _)) (Nat.le_refl _) (by omega)).mono ?_
          rintro r w4 ⟨A4, c4, rfl, ho4, hb4⟩
          rw [HPL.out] at ho4 ⊢
          have HO4 := Lib.hid ho4
          have HM4 := Lib.hid (own_below HOL.out hb4 (Nat.le_refl _))
          have K4 := Lib.hid (below_below KL.out hb4 sL)
          have s4 := hb4.size
          clear ho4 hb4
          go_wp2_with fail
          refine (pwrite_len zs (writeL zs) HMZ.out HL.out rfl (Rd.own HM4.out |>.wide (Nat.zero_le _) (Nat.le_refl _)) (Nat.le_refl _) (by omega)).mono ?_
          rw [HCS.out]
          rintro r w5 ⟨A5, c5, rfl, ho5, hb5⟩
          have HO5 := Lib.hid ho5
          have HP5 := Lib.hid (own_below HO4.out hb5 (Nat.le_refl _))
          have HM5 := Lib.hid (own_below HM4.out hb5 (Nat.le_refl _))
          have K5 := Lib.hid (below_below K4.out hb5 (by omega))
          have s5 := hb5.size
          clear ho5 hb5
          have HPR := Lib.hid (Rd.own HP5.out)
          have HMR := Lib.hid (Rd.own HM5.out)
          go_wp2_with fail
          go_loopw [12] (fun i wr => ∃ k q : Nat, k ≤ L ∧ i = .int .i64 (k : Int) ∧ w5.drewN q = wr) (fun i _ => L - (intOf i).toNat)
          case atStart => exact ⟨0, 0, Nat.zero_le _, rfl, rfl⟩
          case round =>
            obtain ⟨k, q, hk, rfl, rfl⟩ := hrel
            by_cases hlt : k < L
            · have hkz : k < zs.length := by rw [HL.out]; exact hlt
              obtain ⟨b2, off2, rfl, _, _, hcell2⟩ := HMR.out.num (k := k) hkz
              have HG := fun a : Nat => Lib.hid (pget_len (w := w5.drewN (q + a)) pk 32 k S zs[k] HPL.out (HGT.out k hkz) (by omega) (by omega) (by omega) (HPR.out.drewN (q + a)))
              generalize zs[k] = z at *
              go_wp2_with fail
              go_quiet ((go_at_call 16; exact quiet_draws_on (HG _).out))
              go_wp2
              go_roundw
              case rel => exact ⟨k + 1, _, by omega, by go_num, rfl⟩
              case measure => simp [intOf] <;> omega
            · have K6 : Hid (Below w.heap.size w (w5.drewN q)) := below_drewN' K5.out q
              have HO6 : Hid ((w5.drewN q).ownsRow w4.heap.size 5 1 (.slice A5 cs.length c5) cs.length (bv cs)) := HO5.out
              have HM6 : Hid (Rd (w5.drewN q) w1.heap.size w5.heap.size A' c' (iv zs)) := HMR.out.drewN q
              have s6 : w5.heap.size = (w5.drewN q).heap.size := rfl
              have S6 := Lib.hid s6
              clear s6
              have S6b : Hid (w5.heap.size ≤ (w5.drewN q).heap.size) := Nat.le_refl _
              clear S6
              generalize w5.drewN q = w6 at *
              have s6 := S6b.out
              have s60 : w.heap.size ≤ w6.heap.size := by omega
              go_wp2_with fail
              refine (new_any cs _ (Rd.own HO6.out) (by omega)).mono ?_
              rintro r w7 ⟨g, rfl, hc7, hb7⟩
              have HC7 := Lib.hid hc7
              have K7 := Lib.hid (below_below K6.out hb7 s60)
              have HM7 := Lib.hid (HM6.out.below hb7 s6)
              have s7 := hb7.size
              have hg := hc7.base
              clear hc7 hb7
              go_wp2_with fail
              refine (pread_is 300 (nats zs, cs.length, 0) HRB.out HC7.out (by omega)).mono ?_
              dsimp only
              rw [HNL.out]
              rintro r w8 ⟨A8, c8, rfl, ho8, hc8, hg8⟩
              rw [HIZ.out] at ho8
              have HO8 := Lib.hid ho8
              have HC8 := Lib.hid hc8
              have HM8 := Lib.hid (HM7.out.grown hg8 (by omega) (fun x hx => .inr (by injection hx with hx; omega)))
              have K8 := Lib.hid (below_some K7.out hg8 (by omega) (by omega))
              clear ho8 hc8 hg8
              go_wp2_with fail
              refine (ints_len zs zs true (Rd.own HO8.out) HM8.out HL.out HL.out (decide_eq_true rfl)).mono ?_
              rintro r w9 ⟨rfl, q2, rfl⟩
              have hend : endR cs cs.length 0 = 0 := by simp [endR]
              have HEN := Lib.hid (end_any (HC8.out.drewN q2))
              rw [hend] at HEN
              clear hend
              go_wp2_with fail
              refine HEN.out.mono ?_
              rintro r w10 ⟨rfl, q3, rfl⟩
              go_wp2
              go_ret
              exact ⟨rfl, below_drewN' K8.out (q2 + q3)⟩
        · obtain ⟨W, hW⟩ : ∃ W, wd + t = W := ⟨_, rfl⟩
          have hWi : (wd : Int) + (t : Int) = (W : Int) := by omega
          have hW32 : W ≤ 32 := by omega
          have hW32i : (W : Int) ≤ 32 := by omega
          have hWw : wd ≤ W := by omega
          clear hW hov
          have HFT := Lib.hid (fits_wider HMZ.out W (by omega) (by omega))
          obtain ⟨pk, hpk⟩ : ∃ pk, packL W (nats zs) = pk := ⟨_, rfl⟩
          have hpl : pk.length = (L * W + 7) / 8 := by rw [← hpk, packL_length, nats_length, HL.out]
          have HGT : Hid (∀ i (hi : i < zs.length), (getN pk W i : Int) = zs[i]) := by
            intro i hi
            have h1 := HFT.out.nats_lt
            rw [Int.toNat_natCast] at h1
            have h2 := get_pack W (nats zs) h1 i (by rw [nats_length]; exact hi)
            rw [hpk] at h2
            have h3 := (HMZ.out _ (List.getElem_mem hi)).1
            have h4 : (nats zs)[i]'(by rw [nats_length]; exact hi) = zs[i].toNat := by simp [nats]
            rw [h2, h4]
            omega
          have hP : (L : Int) * (W : Int) = ((L * W : Nat) : Int) := by first | exact (Int.natCast_mul _ _).symm | (rw [Int.natCast_mul]; rfl)
          have hPb : L * W ≤ 300 * 32 := Nat.mul_le_mul (by omega) (by omega)
          generalize L * W = P at *
          have hS : ((P : Int) + 7) / 8 = (((P + 7) / 8 : Nat) : Int) := by omega
          have hSb : (P + 7) / 8 ≤ 1201 := by omega
          generalize (P + 7) / 8 = S at *
          have HPK := Lib.hid hpk
          have HPL := Lib.hid hpl
          clear hpk hpl
          go_wp2_with fail
          refine (pput_len (m := W) zs pk HFT.out HL.out HPK.out (Rd.own HOL.out |>.wide (Nat.zero_le _) (Nat.le_refl _)) (Nat.le_refl _) (by omega)).mono ?_
          rintro r w4 ⟨A4, c4, rfl, ho4, hb4⟩
          rw [HPL.out] at ho4 ⊢
          have HO4 := Lib.hid ho4
          have HM4 := Lib.hid (own_below HOL.out hb4 (Nat.le_refl _))
          have K4 := Lib.hid (below_below KL.out hb4 sL)
          have s4 := hb4.size
          clear ho4 hb4
          go_wp2_with fail
          refine (pwrite_len zs (writeL zs) HMZ.out HL.out rfl (Rd.own HM4.out |>.wide (Nat.zero_le _) (Nat.le_refl _)) (Nat.le_refl _) (by omega)).mono ?_
          rw [HCS.out]
          rintro r w5 ⟨A5, c5, rfl, ho5, hb5⟩
          have HO5 := Lib.hid ho5
          have HP5 := Lib.hid (own_below HO4.out hb5 (Nat.le_refl _))
          have HM5 := Lib.hid (own_below HM4.out hb5 (Nat.le_refl _))
          have K5 := Lib.hid (below_below K4.out hb5 (by omega))
          have s5 := hb5.size
          clear ho5 hb5
          have HPR := Lib.hid (Rd.own HP5.out)
          have HMR := Lib.hid (Rd.own HM5.out)
          go_wp2_with fail
          go_loopw [12] (fun i wr => ∃ k q : Nat, k ≤ L ∧ i = .int .i64 (k : Int) ∧ w5.drewN q = wr) (fun i _ => L - (intOf i).toNat)
          case atStart => exact ⟨0, 0, Nat.zero_le _, rfl, rfl⟩
          case round =>
            obtain ⟨k, q, hk, rfl, rfl⟩ := hrel
            by_cases hlt : k < L
            · have hkz : k < zs.length := by rw [HL.out]; exact hlt
              obtain ⟨b2, off2, rfl, _, _, hcell2⟩ := HMR.out.num (k := k) hkz
              have HG := fun a : Nat => Lib.hid (pget_len (w := w5.drewN (q + a)) pk W k S zs[k] HPL.out (HGT.out k hkz) (by omega) (by omega) (by omega) (HPR.out.drewN (q + a)))
              generalize zs[k] = z at *
              go_wp2_with fail
              go_quiet ((go_at_call 16; exact quiet_draws_on (HG _).out))
              go_wp2
              go_roundw
              case rel => exact ⟨k + 1, _, by omega, by go_num, rfl⟩
              case measure => simp [intOf] <;> omega
            · have K6 : Hid (Below w.heap.size w (w5.drewN q)) := below_drewN' K5.out q
              have HO6 : Hid ((w5.drewN q).ownsRow w4.heap.size 5 1 (.slice A5 cs.length c5) cs.length (bv cs)) := HO5.out
              have HM6 : Hid (Rd (w5.drewN q) w1.heap.size w5.heap.size A' c' (iv zs)) := HMR.out.drewN q
              have s6 : w5.heap.size = (w5.drewN q).heap.size := rfl
              have S6 := Lib.hid s6
              clear s6
              have S6b : Hid (w5.heap.size ≤ (w5.drewN q).heap.size) := Nat.le_refl _
              clear S6
              generalize w5.drewN q = w6 at *
              have s6 := S6b.out
              have s60 : w.heap.size ≤ w6.heap.size := by omega
              go_wp2_with fail
              refine (new_any cs _ (Rd.own HO6.out) (by omega)).mono ?_
              rintro r w7 ⟨g, rfl, hc7, hb7⟩
              have HC7 := Lib.hid hc7
              have K7 := Lib.hid (below_below K6.out hb7 s60)
              have HM7 := Lib.hid (HM6.out.below hb7 s6)
              have s7 := hb7.size
              have hg := hc7.base
              clear hc7 hb7
              go_wp2_with fail
              refine (pread_is 300 (nats zs, cs.length, 0) HRB.out HC7.out (by omega)).mono ?_
              dsimp only
              rw [HNL.out]
              rintro r w8 ⟨A8, c8, rfl, ho8, hc8, hg8⟩
              rw [HIZ.out] at ho8
              have HO8 := Lib.hid ho8
              have HC8 := Lib.hid hc8
              have HM8 := Lib.hid (HM7.out.grown hg8 (by omega) (fun x hx => .inr (by injection hx with hx; omega)))
              have K8 := Lib.hid (below_some K7.out hg8 (by omega) (by omega))
              clear ho8 hc8 hg8
              go_wp2_with fail
              refine (ints_len zs zs true (Rd.own HO8.out) HM8.out HL.out HL.out (decide_eq_true rfl)).mono ?_
              rintro r w9 ⟨rfl, q2, rfl⟩
              have hend : endR cs cs.length 0 = 0 := by simp [endR]
              have HEN := Lib.hid (end_any (HC8.out.drewN q2))
              rw [hend] at HEN
              clear hend
              go_wp2_with fail
              refine HEN.out.mono ?_
              rintro r w10 ⟨rfl, q3, rfl⟩
              go_wp2
              go_ret
              exact ⟨rfl, below_drewN' K8.out (q2 + q3)⟩
  · go_enter Try.func7, Try.ntmps7
    go_wp2_with fail
    refine (awake3_any _).mono ?_
    rintro r w1 ⟨rfl, hb1⟩
    have HB1 := Lib.hid hb1
    clear hb1
    go_wp2_with fail
    refine (awake3_any _).mono ?_
    rintro r w2 ⟨rfl, hb2⟩
    have HB2 := Lib.hid hb2
    clear hb2
    go_wp2
    go_ret
    exact ⟨rfl, below_below HB1.out HB2.out HB1.out.size⟩

set_option maxRecDepth 100000 in
theorem packBack_lifted (os : Os) (started : os.Started) (H : Type) (enc : TypeId × Value → H) :
    ReturnsInHanded {} Try.checked os 7 .any (Rows.packBackSpec.pre6 enc Try.prog Try.f7 Rows.packBackRow.domain false) (Rows.packBackSpec.post enc Try.prog Try.f7 false true false false) := by
  refine returnsInHanded_of_change (C := Try.checked) own started (by kernel_rfl) Try.func7
    (ChangeSpec.witness6 (enc := enc) (C := Try.checked) false ⟨#[], #[.slice none 0 0, .int .u8 0], []⟩ 8 (by kernel_rfl) (by kernel_rfl) (by kernel_rfl) (by kernel_rfl)) ?_
  intro W base args ds gs before hval0 hW hcnd _
  have hval : ∀ (j : Nat) t v, Try.f7.params[j]? = some t → args[j]? = some v → Value.okWide Try.prog W .any base t v := hval0
  have hW' := hW
  obtain ⟨p, q, hA0, hV, rfl, hfz, hnd⟩ := hW
  have hA : DataW.TrodAll enc Try.prog W 0 (fun _ => true) true Try.f7.params.toList args.toList ds p := hA0
  have hA1 : DataW.TrodAll enc Try.prog W 0 (fun _ => true) true Try.f7.params.toList args.toList ds p := hA0
  rw [Try.params7] at hA hval
  obtain ⟨v0, vs0, d0, ds0, p0, q0, hargs, rfl, rfl, h0, r0⟩ := trodAll_cons hA
  obtain ⟨v1, vs1, d1, ds1, p1, q1, rfl, rfl, rfl, h1, r1⟩ := trodAll_cons r0
  obtain ⟨rfl, rfl, rfl⟩ := trodAll_nil r1
  obtain rfl : args = #[v0, v1] := by cases args; simp_all
  obtain ⟨rfl, rfl⟩ := trodVars_none hV
  obtain ⟨A0, a0, c0, rfl, w0⟩ := open_u32s Try.underlying43 Try.underlying44 (by kernel_rfl) (hval 0 43 v0 rfl rfl) h0
  obtain ⟨a1, rfl, rfl, rfl, w1⟩ := open_int Try.underlying5 (hval 1 5 v1 rfl rfl) h1
  obtain ⟨b1, rfl⟩ := u8_of_wf w1
  clear hA0 hval0
  refine (packBack_walk (w := W) w0 b1).mono fun e W' ⟨he, bel⟩ => ?_
  subst he
  exact ⟨_, rfl, _, _, _, [], _, [], hW', trodAll_mk1 (shut_bool Try.underlying4 _), trodAll_below laidOut bel _ _ _ _ (by kernel_rfl) hA1, rfl, bel.frame _, fun h => by cases h⟩

theorem packBack_over : Rows.packBackRow.holds Try.pinned (OpenSpec.ofChange Rows.packBackSpec) :=
  OpenClaim.holds_of_wide 7 Try.f7 rfl rfl rfl rfl rfl rfl rfl ⟨rfl, rfl, rfl, rfl, rfl⟩ rfl rfl rfl rfl rfl (by kernel_rfl) Try.func7 (by kernel_rfl)
    (of_decide_eq_true (by kernel_rfl)) (by unfold Func.isWrapper; first | (rw [if_pos (by decide +kernel)]; kernel_rfl) | (rw [if_neg (by decide +kernel)]; exact ⟨rfl, rfl⟩))
    (fun os started H enc _ => packBack_lifted os started H enc)

/-- The statement. -/
theorem packBack_proved : Rows.PackBackSaid := packBack_over


end Go.Proofs.Ytfoadchengbedaa
