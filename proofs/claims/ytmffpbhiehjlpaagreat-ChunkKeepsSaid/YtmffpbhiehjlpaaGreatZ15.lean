/-
  The document's Train of layer 12: so many rounds, from the empty table on.
  The cursor's Bytes and End.
  Put.
  Rows that are so or not, in plain: their bits, their bytes. No program is named here.
  The bitmap's size.
  The bitmap's Put and Write.
-/
import Derived.Test.YtmffpbhiehjlpaaGreatZ14
import Derived.Test.YtmffpbhiehjlpaaGreatZ06
import Derived.Test.YtmffpbhiehjlpaaGreatZ05
import Derived.Test.YtmffpbhiehjlpaaGreatZ12
import Derived.Test.YtmffpbhiehjlpaaGreatZ04
import Derived.Test.YtmffpbhiehjlpaaGreatRows
import Derived.Outline
import Derived.BigQuiet
import Derived.Deep.QuietTactic
import Derived.Test.YtmffpbhiehjlpaaGreatZ13
import Derived.Laws.OwnMore
import Derived.Test.YtmffpbhiehjlpaaGreatZ02
import Derived.StillTailTactics
import Derived.Laws.BitsAll
namespace Go.Proofs.YtmffpbhiehjlpaaGreat
set_option linter.unusedSimpArgs false
set_option linter.unusedVariables false
open Go.RowKit
def Trained (S : List (List UInt8)) : Nat → List (List UInt8) → Prop
  | 0, t => t = []
  | k + 1, t => ∃ u, Trained S k u ∧ IsRound (bagL u S) t
theorem Trained.one {S : List (List UInt8)} : ∀ {k : Nat} {t u : List (List UInt8)}, Trained S k t → Trained S k u → t = u
  | 0, _, _, h1, h2 => h1.trans h2.symm
  | _ + 1, _, _, ⟨a, h1, h2⟩, ⟨b, k1, k2⟩ => by
    obtain rfl := Trained.one h1 k1
    exact h2.one k2
theorem IsRound.ok {P t : List (List UInt8)} (h : IsRound P t) : ∀ x ∈ t, okS x = true := by
  obtain ⟨b, _, h2⟩ := h
  exact fun x hx => (h2.of x hx).2
theorem IsRound.few {P t : List (List UInt8)} (h : IsRound P t) : t.length ≤ 255 := by
  obtain ⟨b, _, h2⟩ := h
  exact h2.few
theorem Trained.ok {S : List (List UInt8)} : ∀ {k : Nat} {t : List (List UInt8)}, Trained S k t → (∀ x ∈ t, okS x = true) ∧ t.length ≤ 255
  | 0, t, h => by
    obtain rfl : t = [] := h
    exact ⟨fun x hx => absurd hx List.not_mem_nil, Nat.zero_le _⟩
  | k + 1, t, ⟨u, _, h⟩ => ⟨h.ok, h.few⟩
theorem bytL2_strsL (l : List (List UInt8)) : bytL2 (strsL l) = l := by
  unfold bytL2 strsL
  rw [List.map_map]
  conv => rhs; rw [← List.map_id l]
  exact List.map_congr_left fun x _ => by simp
def roundsN (N : Int) : Nat := if 8 ≤ N then 8 else N.toNat
set_option maxRecDepth 20000 in
set_option maxHeartbeats 1000000 in
theorem refTrain_any {w : World} (S : List ByteArray) (N : Int) {d : Nat} {B : Option Addr} (hS : Rd w 0 w.heap.size B d (sv S)) (hSl : S.length ≤ 100) (hSb : ∀ s ∈ S, s.size ≤ 100000) (hbag : ∀ T, (bagL T (bytL2 S)).length ≤ 1000000) :
    Calls Tryz.prog 45 #[.slice B S.length d, .int .i64 N] w fun r w' => ∃ t A' c', r = .returned (.slice A' t.length c') ∧ Trained (bytL2 S) (roundsN N) t ∧ w'.ownsRow w.heap.size 9 1 (.slice A' t.length c') t.length (sv (strsL t)) ∧ Below w.heap.size w w' := by
  have HS := Lib.hid hS
  have HBG := Lib.hid hbag
  have HSB := Lib.hid hSb
  clear hS hbag hSb
  go_enter Tryz.func45, Tryz.ntmps45
  go_wp2_with fail
  go_loopw [5, 6] (fun x5 x6 wr => ∃ (i : Nat) (t : List (List UInt8)) (A' : Option Addr) (c' : Nat), i ≤ roundsN N ∧ x6 = .int .i64 (i : Int) ∧ x5 = .slice A' t.length c' ∧ Trained (bytL2 S) i t ∧ wr.ownsRow w.heap.size 9 1 (.slice A' t.length c') t.length (sv (strsL t)) ∧ Below w.heap.size w wr) (fun _ x6 _ => 8 - (intOf x6).toNat)
  case atStart => exact ⟨0, [], none, 0, Nat.zero_le _, rfl, rfl, rfl, World.ownsRow_nil _ _ _ _, Below.refl _ _⟩
  case round =>
    obtain ⟨i, t, A', c', hi, rfl, rfl, htr, hown, hb⟩ := hrel
    have HT := Lib.hid htr
    have HO := Lib.hid hown
    have HB := Lib.hid hb
    have hsz := hb.size
    clear htr hown hb
    unfold roundsN at hi
    by_cases hN : (i : Int) < N
    · by_cases h8 : (i : Int) < 8
      · have hgo : i + 1 ≤ roundsN N := by unfold roundsN; split <;> omega
        have hr1 := rd_own HO.out
        have hok := HT.out.ok
        have hbt := bytL2_strsL t
        have hsl := strsL_length t
        have HRN := Lib.hid (refRound_any (w := wr) (strsL t) S (c := c') (d := d) (A := A') (B := B) (by exact hr1.wide (Nat.zero_le _) (Nat.le_refl _)) ((HS.out.below HB.out (Nat.le_refl _)).wide (Nat.le_refl _) hsz) (by rw [hbt]; exact hok.1) (by rw [hsl]; exact hok.2) hSl HSB.out (HBG.out _))
        rw [hbt, hsl] at HRN
        clear hr1 hok hbt hsl hi
        go_wp2_with fail
        refine HRN.out.mono ?_
        rintro r w2 ⟨u, A2, c2, rfl, hrd, ho2, hb2⟩
        have HT2 : Hid (Trained (bytL2 S) (i + 1) u) := ⟨t, HT.out, hrd⟩
        have HO2 := Lib.hid (own_base ho2 hsz)
        have HB2 : Hid (Below w.heap.size w w2) := HB.out.trans (hb2.mono hsz)
        clear hrd ho2 hb2
        go_wp2_with fail
        go_roundw
        case rel => exact ⟨i + 1, u, A2, c2, hgo, by go_num, rfl, HT2.out, HO2.out, HB2.out⟩
        case measure => simp [intOf] <;> omega
      · have hfin : Hid (i = roundsN N) := by unfold Hid roundsN; split at hi <;> (split <;> omega)
        go_wp2_with fail
        go_ret
        exact ⟨t, A', c', rfl, by rw [← hfin.out]; exact HT.out, HO.out, HB.out⟩
    · have hfin : Hid (i = roundsN N) := by unfold Hid roundsN; split at hi <;> (split <;> omega)
      go_wp2_with fail
      go_ret
      exact ⟨t, A', c', rfl, by rw [← hfin.out]; exact HT.out, HO.out, HB.out⟩
end Go.Proofs.YtmffpbhiehjlpaaGreat
namespace Go.Proofs.YtmffpbhiehjlpaaGreat
set_option linter.unusedSimpArgs false
set_option linter.unusedVariables false
open Go.RowKit
def endR (bs : List UInt8) (k : Nat) (e : Int) : Int := if e ≠ 0 then e else if k < bs.length then 2 else 0
theorem end_any {w : World} {lo g k : Nat} {bs : List UInt8} {e : Int} (h : Cur w lo g bs k e) :
    Calls Tryz.prog 21 #[cp g] w fun r w' => r = .returned (.int .i64 (endR bs k e)) ∧ ∃ n, w.drewN n = w' := by
  have H := Lib.hid h
  have hk := h.le
  obtain ⟨A, c, h0, h1, h2, -, -, -, -⟩ := h.open_
  have HG := Lib.hid (good_any h)
  clear h h0 h1
  unfold cp at *
  by_cases he : e = 0
  · subst he
    by_cases hl : k < bs.length
    · rw [show endR bs k 0 = 2 from by simp [endR, hl]]
      go_enter Tryz.func21, Tryz.ntmps21
      go_wp2_with (first | (go_at_call 27; refine HG.out.mono ?_; rintro e w' ⟨rfl, rfl⟩) | (go_at_call 34; refine (left_any H.out).mono ?_; rintro e w' ⟨rfl, ⟨m, rfl⟩⟩))
      all_goals go_ret
      all_goals exact ⟨rfl, _, rfl⟩
    · rw [show endR bs k 0 = 0 from by simp [endR, hl]]
      go_enter Tryz.func21, Tryz.ntmps21
      go_wp2_with (first | (go_at_call 27; refine HG.out.mono ?_; rintro e w' ⟨rfl, rfl⟩) | (go_at_call 34; refine (left_any H.out).mono ?_; rintro e w' ⟨rfl, ⟨m, rfl⟩⟩))
      all_goals go_ret
      all_goals exact ⟨rfl, _, rfl⟩
  · rw [show endR bs k e = e from by simp [endR, he]]
    have he' : (e == 0) = false := by simpa using he
    rw [he'] at HG
    clear he he'
    go_enter Tryz.func21, Tryz.ntmps21
    go_wp2_with (first | (go_at_call 27; refine HG.out.mono ?_; rintro e w' ⟨rfl, rfl⟩) | (go_at_call 34; refine (left_any H.out).mono ?_; rintro e w' ⟨rfl, ⟨m, rfl⟩⟩))
    go_ret
    exact ⟨rfl, 0, rfl⟩
end Go.Proofs.YtmffpbhiehjlpaaGreat
namespace Go.Proofs.YtmffpbhiehjlpaaGreat
set_option linter.unusedSimpArgs false
set_option linter.unusedVariables false
open Go.RowKit
set_option maxRecDepth 20000 in
theorem put_any {w : World} (n : Nat) (hn : n ≤ 9223372036854775807) :
    Calls Tryz.prog 64 #[.int .i64 (n : Int)] w fun r w' => ∃ A c, r = .returned (.slice A (putL n).length c) ∧ w'.ownsRow w.heap.size 5 1 (.slice A (putL n).length c) (putL n).length (bv (putL n)) ∧ Below w.heap.size w w' := by
  have h9 := putL_nine n hn
  go_enter Tryz.func64, Tryz.ntmps64
  go_wp2_with fail
  go_loopw [0, 3] (fun i v wr => ∃ (m : Nat) (ys : List UInt8) (A : Option Addr) (c : Nat), m ≤ n ∧ i = .int .i64 (m : Int) ∧ v = .slice A ys.length c ∧ ys ++ putL m = putL n ∧ wr.ownsRow w.heap.size 5 1 (.slice A ys.length c) ys.length (bv ys) ∧ Below w.heap.size w wr) (fun i _ _ => (intOf i).toNat)
  case atStart => exact ⟨n, [], none, 0, by omega, rfl, rfl, rfl, World.ownsRow_nil .., Below.refl _ _⟩
  case round =>
    obtain ⟨m, ys, A, c, hm, rfl, rfl, hys, hown, hbel⟩ := hrel
    have hl : ys.length + 1 ≤ 9 := by
      have h1 := congrArg List.length hys
      have h2 := putL_pos m
      rw [List.length_append] at h1
      omega
    have HO := Lib.hid hown
    have HY := Lib.hid hys
    have HB := Lib.hid hbel
    have hsz := hbel.size
    clear hown hys hbel
    by_cases hlt : 128 ≤ m
    · have HA := Lib.hid (or_more m)
      go_wp2_with (at_builtin; refine wpList_push (v := .slice A ys.length c) w.heap.size ys (UInt8.ofNat (m % 128 + 128)) rfl _ _ rfl rfl rfl rfl (by rw [HA.out, World.cell?_alloc_at _ _ _ _ rfl]; rfl) (HO.out.alloc _) (by omega) (by simp; omega) ?_; intro A' c' w1 hown1 hgr1)
      have HO1 := Lib.hid hown1
      have HG1 := Lib.hid hgr1
      clear hown1 hgr1
      go_wp2
      go_roundw
      case rel =>
        refine ⟨m / 128, ys ++ [UInt8.ofNat (m % 128 + 128)], A', c', by omega, by go_num, by simp, ?_, HO1.out, ?_⟩
        · rw [← HY.out, putL_big hlt]; simp
        · exact (HB.out.alloc hsz _).grown HG1.out (by simp; omega) (fun k hk => (HO.out.lt k hk).1)
      case measure => simp [intOf]; omega
    · have HA : Hid ((UInt8.ofNat m).toNat = m) := by
        unfold Hid
        rw [UInt8.toNat_ofNat']; omega
      go_wp2_with (at_builtin; refine wpList_push (v := .slice A ys.length c) w.heap.size ys (UInt8.ofNat m) rfl _ _ rfl rfl rfl rfl (by rw [HA.out, World.cell?_alloc_at _ _ _ _ rfl]; first | rfl | (simp; omega)) (HO.out.alloc _) (by omega) (by simp; omega) ?_; intro A' c' w1 hown1 hgr1)
      have HO1 := Lib.hid hown1
      have HG1 := Lib.hid hgr1
      clear hown1 hgr1
      go_wp2
      go_ret
      have e : putL n = ys ++ [UInt8.ofNat m] := by rw [← HY.out, putL_small (by omega)]
      have e2 : (putL n).length = ys.length + 1 := by rw [e]; simp
      refine ⟨A', c', by rw [e2]; rfl, by rw [e]; exact HO1.out, ?_⟩
      exact (HB.out.alloc hsz _).grown HG1.out (by simp; omega) (fun k hk => (HO.out.lt k hk).1)
end Go.Proofs.YtmffpbhiehjlpaaGreat
namespace Go.Proofs.YtmffpbhiehjlpaaGreat
set_option linter.unusedSimpArgs false
set_option linter.unusedVariables false
open Go.RowKit
def bitsN (l : List Bool) : List Nat := l.map Bool.toNat
theorem bitsN_length (l : List Bool) : (bitsN l).length = l.length := by simp [bitsN]
theorem bitsN_lt (l : List Bool) : ∀ x ∈ bitsN l, x < 2 ^ 1 := by
  intro x hx
  obtain ⟨b, _, rfl⟩ := List.mem_map.1 hx
  cases b <;> decide
def bsum (l : List Bool) (k : Nat) : Nat := vsum 1 (bitsN (l.take k))
theorem bsum_succ (l : List Bool) (k : Nat) (h : k < l.length) : bsum l (k + 1) = bsum l k + 2 ^ k * (l[k]).toNat := by
  unfold bsum
  rw [List.take_succ_eq_append_getElem h]
  unfold bitsN
  rw [List.map_append, List.map_singleton, vsum_snoc, List.length_map, List.length_take, Nat.min_eq_left (Nat.le_of_lt h), Nat.one_mul]
theorem bsum_no (l : List Bool) (k : Nat) (h : k < l.length) (hb : l[k] = false) : bsum l (k + 1) = bsum l k := by rw [bsum_succ l k h, hb]; rfl
theorem bsum_yes (l : List Bool) (k : Nat) (h : k < l.length) (hb : l[k] = true) : bsum l (k + 1) = bsum l k + 2 ^ k := by rw [bsum_succ l k h, hb]; simp
theorem bsum_lt (l : List Bool) (k : Nat) (h : k ≤ l.length) : bsum l k < 2 ^ k := by
  have := vsum_lt 1 (bitsN (l.take k)) (bitsN_lt _)
  rwa [bitsN_length, List.length_take, Nat.min_eq_left h, Nat.one_mul] at this
def packB (l : List Bool) : List UInt8 := bytesN ((l.length + 7) / 8) (bsum l l.length)
theorem packB_length (l : List Bool) : (packB l).length = (l.length + 7) / 8 := bytesN_length _ _
theorem packB_packL (l : List Bool) : packB l = packL 1 (bitsN l) := by
  unfold packB packL bsum
  rw [bitsN_length, Nat.mul_one, List.take_length]
def writeB (l : List Bool) : List UInt8 := putL l.length ++ packB l
theorem writeB_length (l : List Bool) (h : l.length ≤ 9223372036854775807) : (writeB l).length ≤ 9 + (l.length + 7) / 8 := by
  have := putL_nine l.length h
  unfold writeB
  rw [List.length_append, packB_length]
  omega
def getB (bs : List UInt8) (i : Nat) : Bool := getN bs 1 i == 1
theorem getB_toNat (bs : List UInt8) (i : Nat) : (getB bs i).toNat = getN bs 1 i := by
  have h := getN_lt bs 1 i
  unfold getB
  rcases Nat.eq_zero_or_pos (getN bs 1 i) with h0 | h0
  · rw [h0]; rfl
  · rw [show getN bs 1 i = 1 by omega]; rfl
def getsB (bs : List UInt8) (n : Nat) : List Bool := (List.range n).map (getB bs)
theorem getsB_length (bs : List UInt8) (n : Nat) : (getsB bs n).length = n := by simp [getsB]
theorem getsB_get (bs : List UInt8) (n i : Nat) (h : i < n) : (getsB bs n)[i]? = some (getB bs i) := by simp [getsB, h]
theorem bitsN_getsB (bs : List UInt8) (n : Nat) : bitsN (getsB bs n) = getsN bs 1 n := by
  unfold bitsN getsB getsN
  rw [List.map_map]
  exact List.map_congr_left fun i _ => getB_toNat bs i
theorem packB_getsB (bs : List UInt8) (n : Nat) (hl : bs.length = (n + 7) / 8) (hb : bval bs < 2 ^ n) : packB (getsB bs n) = bs := by
  rw [packB_packL, bitsN_getsB, pack_gets bs 1 n (by rw [Nat.mul_one]; exact hl) (by rw [Nat.mul_one]; exact hb)]
theorem getsB_packB (l : List Bool) : getsB (packB l) l.length = l := by
  apply List.ext_getElem?
  intro i
  by_cases hi : i < l.length
  · rw [getsB_get _ _ _ hi, List.getElem?_eq_getElem hi]
    have h := get_pack 1 (bitsN l) (bitsN_lt l) i (by rw [bitsN_length]; exact hi)
    rw [← packB_packL] at h
    unfold getB
    rw [h]
    simp only [bitsN, List.getElem_map]
    cases l[i] <;> rfl
  · rw [List.getElem?_eq_none (by rw [getsB_length]; omega), List.getElem?_eq_none (by omega)]
theorem bval_packB (l : List Bool) : bval (packB l) < 2 ^ l.length := by
  rw [packB_packL, bval_packL 1 _ (bitsN_lt l)]
  have := vsum_lt 1 (bitsN l) (bitsN_lt l)
  rwa [bitsN_length, Nat.one_mul] at this
theorem getN_byte (bs : List UInt8) (i : Nat) (h : i / 8 < bs.length) : getN bs 1 i = bs[i / 8].toNat / 2 ^ (i % 8) % 2 := by
  unfold getN
  rw [Nat.one_mul, Nat.pow_one, ← bval_at bs (i / 8) h, split256 i, ← Nat.div_div_eq_div_mul]
  generalize bval bs / 256 ^ (i / 8) = y
  have hr : i % 8 < 8 := Nat.mod_lt _ (by decide)
  rw [show (256 : Nat) = 2 ^ (i % 8) * (2 * 2 ^ (7 - i % 8)) by rw [← Nat.pow_succ', ← Nat.pow_add, show i % 8 + (7 - i % 8).succ = 8 by omega]]
  rw [Nat.mod_mul_right_div_self, Nat.mod_mul_right_mod]
theorem bytesN_bit (s k V : Nat) (hs : k / 8 < s) (hV : V < 2 ^ k) (x : UInt8) (hx : (bytesN s V)[k / 8]? = some x) :
    x.toNat < 2 ^ (k % 8) ∧ x.toNat + 2 ^ (k % 8) < 256 ∧ bytesN s (V + 2 ^ k) = (bytesN s V).set (k / 8) (UInt8.ofNat (x.toNat + 2 ^ (k % 8))) := by
  have hsplit : ∀ U : Nat, bytesN s U = bytesN (k / 8 + 1) U ++ bytesN (s - (k / 8 + 1)) (U / 256 ^ (k / 8 + 1)) := fun U => by
    rw [← bytesN_add, show k / 8 + 1 + (s - (k / 8 + 1)) = s by omega]
  have hpow : 2 ^ (k + 1) ≤ 256 ^ (k / 8 + 1) := by rw [pow256]; exact Nat.pow_le_pow_right (by decide) (by omega)
  have hp2 : 2 ^ (k + 1) = 2 * 2 ^ k := by rw [Nat.pow_succ, Nat.mul_comm]
  have h0 : V / 256 ^ (k / 8 + 1) = 0 := Nat.div_eq_of_lt (by omega)
  have h1 : (V + 2 ^ k) / 256 ^ (k / 8 + 1) = 0 := Nat.div_eq_of_lt (by omega)
  have hlen : (bytesN (k / 8 + 1) V).length = k / 8 + 1 := bytesN_length _ _
  have hx' : (bytesN (k / 8 + 1) V)[k / 8]? = some x := by
    rw [hsplit V, List.getElem?_append_left (by omega)] at hx
    exact hx
  obtain ⟨h2, h3, h4⟩ := bitsAt_one (n := k) (V := V) (ys := bytesN (k / 8 + 1) V) ⟨hV, rfl⟩ x hx'
  refine ⟨?_, h2, ?_⟩
  · rw [bytesN_snoc, List.getElem?_append_right (by rw [bytesN_length]; exact Nat.le_refl _), bytesN_length, Nat.sub_self] at hx'
    simp only [List.getElem?_cons_zero, Option.some.injEq] at hx'
    rw [← hx', byte_toNat]
    have h5 := hV
    rw [split256] at h5
    have := Nat.div_lt_of_lt_mul h5
    exact Nat.lt_of_le_of_lt (Nat.mod_le _ _) this
  · rw [hsplit, hsplit V, h0, h1, List.set_append_left _ _ (by omega), h4, show (k + 1 + 7) / 8 = k / 8 + 1 by omega]
end Go.Proofs.YtmffpbhiehjlpaaGreat
namespace Go.Proofs.YtmffpbhiehjlpaaGreat
set_option linter.unusedSimpArgs false
set_option linter.unusedVariables false
open Go.RowKit
theorem bsize_any {w : World} (n s : Nat) (h : n ≤ 9223372036854775807) (hs : (n + 7) / 8 = s) :
    Calls Tryz.prog 76 #[.int .i64 (n : Int)] w fun r w' => r = .returned (.int .i64 (s : Int)) ∧ w = w' := by
  have h1 : Hid ((n : Int) / 8 + ((n : Int) % 8 + 8 - 1) / 8 = (s : Int)) := by unfold Hid; omega
  clear hs
  go_enter Tryz.func76, Tryz.ntmps76
  go_wp2
  go_ret
  exact ⟨ret_int' (by rw [← h1.out]), rfl⟩
end Go.Proofs.YtmffpbhiehjlpaaGreat
namespace Go.Proofs.YtmffpbhiehjlpaaGreat
set_option linter.unusedSimpArgs false
set_option linter.unusedVariables false
open Go.RowKit
theorem bytesN_zero (s : Nat) : bv (bytesN s 0) = List.replicate s (.int .u8 0) := by
  induction s with
  | zero => rfl
  | succ s ih =>
    rw [bytesN, List.replicate_succ, ← ih]
    rfl
theorem make_zeros (w : World) (n : Nat) (h : n ≤ 281474976710656) : ∃ w1, (Instr.makeSlice 28 (.int .i64 (n : Int)) (.int .i64 (n : Int))).run Tryz.prog w = .ok (.slice (some ⟨w.heap.size, 0, none⟩) n n) w1 ∧
    w1.ownsRow w.heap.size 5 1 (.slice (some ⟨w.heap.size, 0, none⟩) n n) n (bv (bytesN n 0)) ∧ w.grownBy w1 none := by
  obtain ⟨i0, hi0, hz0, hz1, hz2⟩ := info_parts Tryz.infoU8
  have := run_make_full (P := Tryz.prog) w w.heap.size 28 5 i0 _ 1 Tryz.underlying28 hi0 hz0 hz1 .i64 .i64 n (by rw [hz2]; omega) (by simp only [maxLen]; omega) (Nat.le_refl _)
  rw [Nat.mul_one, show (Value.int .u8 0).cells = #[.int .u8 0] from rfl, toList_madeCells_one, ← bytesN_zero] at this
  exact this
theorem or_bit (x r : Nat) (hr : r < 8) (hx : x < 2 ^ r) : bits .or .u8 (x : Int) (2 ^ r % 256) = ((x + 2 ^ r : Nat) : Int) := by
  have hp : 2 ^ r ≤ 2 ^ 7 := Nat.pow_le_pow_right (by omega) (by omega)
  have e2 : (2 : Int) ^ r = ((2 ^ r : Nat) : Int) := by norm_cast
  rw [e2, show ((2 ^ r : Nat) : Int) % 256 = ((2 ^ r : Nat) : Int) by omega, u8_or_nat _ _ (by omega) (by omega)]
  congr 1
  have := Nat.shiftLeft_add_eq_or_of_lt hx 1
  rw [Nat.shiftLeft_eq, Nat.one_mul] at this
  rw [Nat.or_comm, ← this, Nat.add_comm]
set_option maxRecDepth 20000 in
set_option maxHeartbeats 800000 in
theorem bput_any {w : World} (l : List Bool) {h' : Nat} {A : Option Addr} {c : Nat} (h : Rd w 0 h' A c (lv l)) (hh : h' ≤ w.heap.size) (hlen : l.length ≤ 140737488355328) :
    Calls Tryz.prog 65 #[.slice A l.length c] w fun r w' => ∃ A' c', r = .returned (.slice A' (packB l).length c') ∧
      w'.ownsRow w.heap.size 5 1 (.slice A' (packB l).length c') (packB l).length (bv (packB l)) ∧ Below w.heap.size w w' := by
  have hl := h.len
  have hc := h.cap
  rw [lv_length] at hl
  unfold maxLen at hc
  rw [packB_length]
  obtain ⟨s, hs⟩ : ∃ s, (l.length + 7) / 8 = s := ⟨_, rfl⟩
  have HP : Hid (packB l = bytesN s (bsum l l.length)) := by unfold Hid packB; rw [hs]
  rw [hs]
  obtain ⟨w1, hmake, ho1, hg1⟩ := make_zeros w s (by omega)
  have hb1 : Below w.heap.size w w1 := (Below.refl _ _).grown hg1 (Nat.le_refl _) (by simp)
  have HSZ := Lib.hid (bsize_any (w := w) l.length s (by omega) hs)
  have hs8 : l.length ≤ 8 * s := by omega
  have hsb : s ≤ 140737488355328 := by omega
  have HO1 := Lib.hid ho1
  have HB1 := Lib.hid hb1
  have H := Lib.hid h
  clear h ho1 hg1 hb1 hs
  go_enter Tryz.func65, Tryz.ntmps65
  go_wp2_with fail
  refine HSZ.out.mono ?_
  rintro r w' ⟨rfl, rfl⟩
  go_wp2_with fail
  go_loopw [12] (fun i wr => ∃ (k : Nat), k ≤ l.length ∧ i = .int .i64 (k : Int) ∧
      wr.ownsRow w.heap.size 5 1 (.slice (some ⟨w.heap.size, 0, none⟩) s s) s (bv (bytesN s (bsum l k))) ∧ Below w.heap.size w wr) (fun i _ => l.length - (intOf i).toNat)
  case atStart => exact ⟨0, Nat.zero_le _, rfl, HO1.out, HB1.out⟩
  case round =>
    obtain ⟨k, hk, rfl, ho, hb⟩ := hrel
    have HO := Lib.hid ho
    have HB := Lib.hid hb
    clear ho hb
    by_cases hlt : k < l.length
    · obtain ⟨b, off, rfl, _, hbh, hcell⟩ := (H.out.below HB.out hh).row hlt
      cases hx : l[k]
      · have HN := Lib.hid (bsum_no l k hlt hx)
        rw [hx] at hcell
        clear hx
        go_wp2
        go_roundw
        case rel => exact ⟨k + 1, by omega, by go_num, by rw [HN.out]; exact HO.out, HB.out⟩
        case measure => simp [intOf]; omega
      · have hks : k / 8 < s := by omega
        have hkl : k / 8 < (bytesN s (bsum l k)).length := by rw [bytesN_length]; exact hks
        obtain ⟨x0, hx0⟩ : ∃ x0, (bytesN s (bsum l k))[k / 8]? = some x0 := ⟨_, List.getElem?_eq_getElem hkl⟩
        obtain ⟨hx1, hx2, hx3⟩ := bytesN_bit s k (bsum l k) hks (bsum_lt l k hk) x0 hx0
        rw [← bsum_yes l k hlt hx] at hx3
        have HN := Lib.hid hx3
        rw [hx] at hcell
        have hor := or_bit x0.toNat (k % 8) (Nat.mod_lt _ (by decide)) hx1
        have hload : wr.drew.cell? ⟨w.heap.size, k / 8, none⟩ = some (.int .u8 (x0.toNat : Int)) := by
          have h1 := HO.out.cellAt (k / 8) (by omega)
          have h2 : (bv (bytesN s (bsum l k)))[k / 8]? = some (.int .u8 (x0.toNat : Int)) := by simp [bv, hx0]
          exact h1.trans h2
        have hfr : wr.drew.frozen? ⟨w.heap.size, k / 8, none⟩ = false := HO.out.frozenAt (k / 8)
        have hbn : (UInt8.ofNat (x0.toNat + 2 ^ (k % 8))).toNat = x0.toNat + 2 ^ (k % 8) := by rw [UInt8.toNat_ofNat']; omega
        have hbs : bv (bytesN s (bsum l (k + 1))) = (bv (bytesN s (bsum l k))).set (k / 8) (.int .u8 ((x0.toNat + 2 ^ (k % 8) : Nat) : Int)) := by
          rw [hx3, bv_set, hbn]
        have hst := World.ownsRow.stored (w := wr.drew) HO.out (k / 8) (.int .u8 ((x0.toNat + 2 ^ (k % 8) : Nat) : Int))
        rw [← hbs] at hst
        have HST := Lib.hid hst
        have HB3 : Hid (Below w.heap.size w wr.drew) := below_drewN' HB.out 1
        have hn8 : (k : Int) / 8 = ((k / 8 : Nat) : Int) := by omega
        have hn8' : (k : Int) % 8 = ((k % 8 : Nat) : Int) := by omega
        have hn8t : (k : Int).tmod 8 = ((k % 8 : Nat) : Int) := by rw [Int.tmod_eq_emod_of_nonneg (by omega)]; omega
        have hr8 : k % 8 < 8 := Nat.mod_lt _ (by decide)
        clear hx hx0 hx3 hbn hbs hst hkl
        go_wp2_with fail
        refine wp_region_still_tail 9 (by kernel_rfl) (by kernel_rfl) ?_
        change wpStill _ _ wr.drew (fun a' => wpList _ _ _ _ a' wr.drew) _ _
        generalize wr.drew = w4 at *
        generalize k / 8 = q at *
        generalize k % 8 = r at *
        simp only [List.take_succ_cons, List.take_zero, List.drop_succ_cons, List.drop_zero]
        have hqw : IntKind.i64.wrap (q : Int) = (q : Int) := IntWalk.i64_in _ (by omega)
        have hrw : IntKind.i64.wrap (r : Int) = (r : Int) := IntWalk.i64_in _ (by omega)
        repeat still_step
        refine wpStill_nil ?_
        go_wp2
        go_roundw
        case rel =>
          rw [show (x0.toNat : Int) + 2 ^ r = ((x0.toNat + 2 ^ r : Nat) : Int) by push_cast; rfl]
          exact ⟨k + 1, by omega, by go_num, HST.out.1, below_some HB3.out HST.out.2 HB3.out.size (Nat.le_refl _)⟩
        case measure => simp [intOf] <;> omega
    · obtain rfl : k = l.length := by omega
      go_wp2
      go_ret
      rw [HP.out]
      exact ⟨_, _, rfl, HO.out, HB.out⟩
theorem bwrite_any {w : World} (l : List Bool) {h' : Nat} {A : Option Addr} {c : Nat} (h : Rd w 0 h' A c (lv l)) (hh : h' ≤ w.heap.size) (hlen : l.length ≤ 140737488355328) :
    Calls Tryz.prog 40 #[.slice A l.length c] w fun r w' => ∃ A' c', r = .returned (.slice A' (writeB l).length c') ∧
      w'.ownsRow w.heap.size 5 1 (.slice A' (writeB l).length c') (writeB l).length (bv (writeB l)) ∧ Below w.heap.size w w' := by
  have HE : Hid (putL l.length ++ packB l = writeB l) := rfl
  have h9 := putL_nine l.length (by omega)
  have hpl : (packB l).length ≤ 140737488355328 / 8 + 1 := by rw [packB_length]; omega
  have HP := fun (w1 : World) (h : Rd w1 0 h' A c (lv l)) (hh : h' ≤ w1.heap.size) => Lib.hid (bput_any (w := w1) (A := A) (c := c) l h hh hlen)
  have H := Lib.hid h
  have hl := h.len
  have hc := h.cap
  rw [lv_length] at hl
  unfold maxLen at hc
  clear h
  generalize packB l = pk at *
  go_enter Tryz.func40, Tryz.ntmps40
  go_wp2_with fail
  refine (put_any l.length (by omega)).mono ?_
  rintro r w1 ⟨A1, c1, rfl, ho1, hb1⟩
  have HO1 := Lib.hid ho1
  have HB1 := Lib.hid hb1
  have s1 := hb1.size
  clear ho1 hb1
  generalize putL l.length = pl at *
  go_wp2_with fail
  refine (HP w1 (H.out.below HB1.out hh) (by omega)).out.mono ?_
  rintro r w2 ⟨A2, c2, rfl, ho2, hb2⟩
  have HO2 := Lib.hid ho2
  have HB2 := Lib.hid (below_below HB1.out hb2 s1)
  have s2 := hb2.size
  obtain ⟨A3, c3, w3, hrun3, ho3, hg3⟩ := append_named w2 w.heap.size _ pl pk (writeB l) HE.out (own_below HO1.out hb2 (Nat.le_refl _)) (Rd.own ho2) (by omega) (by omega)
  have HO3 := Lib.hid ho3
  have HB3 := Lib.hid (HB2.out.grown hg3 HB2.out.size (fun k hk => own_row HO1.out k hk))
  clear ho2 hb2 ho3 hg3
  go_wp2_with (at_builtin; refine wpList_append_run rfl _ _ _ _ rfl rfl rfl hrun3 ?_)
  go_ret
  exact ⟨A3, c3, rfl, HO3.out, HB3.out⟩
end Go.Proofs.YtmffpbhiehjlpaaGreat
