/-
  The program's train: Round and Train.
  append(b, s...) of a string's bytes.
  The symbol package: Put.
  The program's fsst: Encode.
  The chunk package: symbols.
-/
import Derived.Test.YtmffpbhiehjlpaaGreatZ22
import Derived.Test.YtmffpbhiehjlpaaGreatZ15
import Derived.Test.YtmffpbhiehjlpaaGreatZ19
import Derived.Carry
import Derived.Test.YtmffpbhiehjlpaaGreatZ02
import Derived.Test.YtmffpbhiehjlpaaGreatZ01
import Derived.Test.YtmffpbhiehjlpaaGreatZ11
import Derived.Test.YtmffpbhiehjlpaaGreatZ20
import Derived.Deep.RegionHeld3
namespace Go.Proofs.YtmffpbhiehjlpaaGreat
set_option linter.unusedSimpArgs false
set_option linter.unusedVariables false
open Go.RowKit Go.Maps Go.WideMaps
theorem bag_snoc (T : List (List UInt8)) {S : List (List UInt8)} {k : Nat} (hk : k < S.length) : bagL T (S.take (k + 1)) = bagL T (S.take k) ++ piecesL T [] S[k] := by
  unfold bagL
  rw [List.take_succ_eq_append_getElem hk, List.flatMap_append, List.flatMap_singleton]
theorem bag_take (T : List (List UInt8)) {S : List (List UInt8)} (h : ∀ s ∈ S, s.length ≤ 100000) : ∀ k, k ≤ S.length → (bagL T (S.take k)).length ≤ 200000 * k
  | 0, _ => by simp [bagL]
  | k + 1, hk => by
    have := bag_take T h k (by omega)
    have h2 := pieces_len T S[k] []
    have h3 := h _ (List.getElem_mem (show k < S.length by omega))
    rw [bag_snoc T (by omega), List.length_append]
    omega
set_option maxRecDepth 20000 in
set_option maxHeartbeats 2000000 in
theorem round_any {w : World} (T S : List ByteArray) {c d : Nat} {A B : Option Addr} (h : Rd w 0 w.heap.size A c (sv T)) (hr : rightT (bytL2 T) = true) (hS : Rd w 0 w.heap.size B d (sv S)) (hSl : S.length ≤ 400) (hSb : ∀ s ∈ S, s.size ≤ 100000) :
    Calls Tryz.prog 126 #[.slice A T.length c, .slice B S.length d] w fun r w' => ∃ t A' c', r = .returned (.slice A' t.length c') ∧ IsRound (bagL (bytL2 T) (bytL2 S)) t ∧ w'.ownsRow w.heap.size 9 1 (.slice A' t.length c') t.length (sv (strsL t)) ∧ Below w.heap.size w w' := by
  have H := Lib.hid h
  have HR := Lib.hid hr
  have HS := Lib.hid hS
  have hl2 := hS.len
  have hm2 := hS.cap
  rw [sv_length] at hl2
  unfold maxLen at hm2
  have HSB : Hid (∀ k (hk : k < S.length), S[k].size ≤ 100000) := fun k hk => hSb _ (List.getElem_mem hk)
  have HBL : Hid ((bytL2 S).length = S.length) := bytL2_length S
  have HBG : Hid (∀ k, k ≤ S.length → (bagL (bytL2 T) ((bytL2 S).take k)).length ≤ 200000 * k) := fun k hk => bag_take _ (fun s hs => by
    obtain ⟨u, hu, rfl⟩ := List.mem_map.1 hs
    rw [lenS]
    exact hSb u hu) k (by rw [HBL.out]; exact hk)
  have HOK : Hid (∀ x ∈ bagL (bytL2 T) (bytL2 S), x.length ≤ 8) := fun x hx => bag_ok (rightT_iff.1 hr).2.1 hx
  clear h hr hS hSb
  have hmm := @run_makeMap Tryz.prog
  go_enter Tryz.func126, Tryz.ntmps126
  go_wp2_with fail
  go_loopw [11] (fun x11 wr => ∃ (k n1 : Nat) (D1 : DataW Unit), k ≤ S.length ∧ x11 = .int .i64 (k : Int) ∧ MapB wr w.heap.size n1 D1 ∧ n1 ≤ 200000 * k ∧ Bag D1 (bagL (bytL2 T) ((bytL2 S).take k)) ∧ Below w.heap.size w wr) (fun i _ => S.length - (intOf i).toNat)
  case atStart => exact ⟨0, 0, .map [], Nat.zero_le _, rfl, World.ownsMap_made _ _ _ _, Nat.zero_le _, Bag.nil, (Below.refl _ _).alloc (Nat.le_refl _) _⟩
  case round =>
    obtain ⟨k, n1, D1, hk, rfl, hm1, hn1, hd1, hb⟩ := hrel
    have HM := Lib.hid hm1
    have HD := Lib.hid hd1
    have HB := Lib.hid hb
    have hsz := hb.size
    clear hm1 hd1 hb hmm
    by_cases hlt : k < S.length
    · obtain ⟨b, off, rfl, -, -, hcell⟩ := (HS.out.below HB.out (Nat.le_refl _)).str hlt
      have hs1 := HSB.out k hlt
      have HPC : Hid (bagL (bytL2 T) ((bytL2 S).take (k + 1)) = bagL (bytL2 T) ((bytL2 S).take k) ++ piecesL (bytL2 T) [] S[k].data.toList) := by
        unfold Hid
        rw [bag_snoc _ (by rw [HBL.out]; exact hlt)]
        unfold bytL2
        rw [List.getElem_map]
      have hq := HBG.out k hk
      have HCN := Lib.hid (tcount_any (w := wr) T S[k] (H.out.below HB.out (Nat.le_refl _)) HR.out (by omega) HM.out HD.out (by omega) (by omega) (Nat.le_refl _) hsz)
      rw [← HPC.out] at HCN
      generalize S[k] = s at *
      go_wp2_with fail
      refine HCN.out.mono ?_
      rintro r w2 ⟨rfl, n2, D2, hm2, hn2, hd2, ho2⟩
      have HM2 := Lib.hid hm2
      have HD2 := Lib.hid hd2
      have HB2 : Hid (Below w.heap.size w w2) := HB.out.trans (ho2.below hsz (fun k hk => by rw [hk]; exact Nat.le_refl _))
      clear hm2 hd2 ho2
      go_wp2_with fail
      go_roundw
      case rel => exact ⟨k + 1, n2, D2, by omega, by go_num, HM2.out, by omega, HD2.out, HB2.out⟩
      case measure => simp [intOf]; omega
    · obtain rfl : k = S.length := by omega
      have HT : Hid ((bytL2 S).take S.length = bytL2 S) := List.take_of_length_le (by rw [HBL.out]; exact Nat.le_refl _)
      have hq := HBG.out _ hk
      have HBS := Lib.hid (best_any (w := wr) HM.out HD.out (by omega) (by rw [HT.out]; exact HOK.out))
      rw [HT.out] at HBS
      go_wp2_with fail
      refine HBS.out.mono ?_
      rintro r w2 ⟨t, A2, c2, rfl, hrd, ho2, hb2⟩
      have HRD := Lib.hid hrd
      have HO2 := Lib.hid (own_base ho2 hsz)
      have HB2 := Lib.hid (below_below HB.out hb2 hsz)
      clear hrd ho2 hb2
      go_wp2_with fail
      go_ret
      exact ⟨t, A2, c2, rfl, HRD.out, HO2.out, HB2.out⟩
theorem Trained.right {S : List (List UInt8)} : ∀ {k : Nat} {t : List (List UInt8)}, Trained S k t → rightT t = true
  | 0, t, h => by
    obtain rfl : t = [] := h
    rfl
  | k + 1, t, ⟨u, _, b, _, h⟩ => h.right
set_option maxRecDepth 20000 in
set_option maxHeartbeats 1000000 in
theorem train_any {w : World} (S : List ByteArray) (N : Int) {d : Nat} {B : Option Addr} (hS : Rd w 0 w.heap.size B d (sv S)) (hSl : S.length ≤ 400) (hSb : ∀ s ∈ S, s.size ≤ 100000) (hN : -9223372036854775808 ≤ N ∧ N ≤ 9223372036854775807) :
    Calls Tryz.prog 104 #[.slice B S.length d, .int .i64 N] w fun r w' => ∃ t A' c', r = .returned (.slice A' t.length c') ∧ Trained (bytL2 S) (roundsN N) t ∧ w'.ownsRow w.heap.size 9 1 (.slice A' t.length c') t.length (sv (strsL t)) ∧ Below w.heap.size w w' := by
  have HS := Lib.hid hS
  have HSB := Lib.hid hSb
  clear hS hSb
  obtain ⟨R, hR⟩ : ∃ R, roundsN N = R := ⟨_, rfl⟩
  rw [hR]
  obtain ⟨M, hM⟩ : ∃ M : Int, min N 8 = M := ⟨_, rfl⟩
  have hMR : M ≤ 0 ∧ R = 0 ∨ M = (R : Int) ∧ R ≤ 8 := by
    rw [← hR]
    unfold roundsN
    split <;> omega
  have hM2 : M ≤ 8 := by omega
  clear hR
  go_enter Tryz.func104, Tryz.ntmps104
  go_wp2_with fail
  go_loopw [5, 8] (fun x5 x8 wr => ∃ (i : Nat) (t : List (List UInt8)) (A' : Option Addr) (c' : Nat), i ≤ R ∧ x8 = .int .i64 (i : Int) ∧ x5 = .slice A' t.length c' ∧ Trained (bytL2 S) i t ∧ wr.ownsRow w.heap.size 9 1 (.slice A' t.length c') t.length (sv (strsL t)) ∧ Below w.heap.size w wr) (fun _ x8 _ => 8 - (intOf x8).toNat)
  case atStart => exact ⟨0, [], none, 0, Nat.zero_le _, rfl, rfl, rfl, World.ownsRow_nil _ _ _ _, Below.refl _ _⟩
  case round =>
    obtain ⟨i, t, A', c', hi, rfl, rfl, htr, hown, hb⟩ := hrel
    have HT := Lib.hid htr
    have HO := Lib.hid hown
    have HB := Lib.hid hb
    have hsz := hb.size
    clear htr hown hb
    by_cases hiM : (i : Int) < M
    · have hgo : i + 1 ≤ R := by omega
      have hi8 : i < 8 := by omega
      have hr1 := (Rd.own HO.out).wide (Nat.zero_le _) (Nat.le_refl _)
      have hbt := bytL2_strsL t
      have hsl := strsL_length t
      have HRN := Lib.hid (round_any (w := wr) (strsL t) S (c := c') (d := d) (A := A') (B := B) hr1 (by rw [hbt]; exact HT.out.right) ((HS.out.below HB.out (Nat.le_refl _)).wide (Nat.le_refl _) hsz) hSl HSB.out)
      rw [hbt, hsl] at HRN
      clear hr1 hbt hsl hi
      go_wp2_with fail
      refine HRN.out.mono ?_
      rintro r w2 ⟨u, A2, c2, rfl, hrd, ho2, hb2⟩
      have HT2 : Hid (Trained (bytL2 S) (i + 1) u) := ⟨t, HT.out, hrd⟩
      have HO2 := Lib.hid (own_base ho2 hsz)
      have HB2 : Hid (Below w.heap.size w w2) := HB.out.trans (hb2.mono hsz)
      clear hrd ho2 hb2
      go_wp2_with fail
      go_roundw
      case rel => exact ⟨i + 1, u, A2, c2, hgo, by go_num, rfl, HT2.out, HO2.out, HB2.out⟩
      case measure => simp [intOf] <;> omega
    · have hfin : Hid (i = R) := by unfold Hid; omega
      go_wp2_with fail
      go_ret
      exact ⟨t, A', c', rfl, by rw [← hfin.out]; exact HT.out, HO.out, HB.out⟩
end Go.Proofs.YtmffpbhiehjlpaaGreat
namespace Go.Proofs.YtmffpbhiehjlpaaGreat
set_option linter.unusedSimpArgs false
set_option linter.unusedVariables false
open Go.RowKit
theorem append_str_named (w : World) (base : Nat) (v : Value) (ys cs : List UInt8) (s : ByteArray) (hcs : ys ++ s.data.toList = cs) (hown : w.ownsRow base 5 1 v ys.length (bv ys))
    (hb : ys.length + s.size ≤ 140737488355328) (hbase : base ≤ w.heap.size) :
    ∃ A' c' w', (Builtin.append_ #[28, 9] 28 #[v, .string s]).run Tryz.prog w = .ok (.slice A' cs.length c') w' ∧
      w'.ownsRow base 5 1 (.slice A' cs.length c') cs.length (bv cs) ∧ w.grownBy w' v.ownBlock := by
  subst hcs
  obtain ⟨i0, hi0, hi1⟩ := Option.map_eq_some_iff.1 Tryz.infoU8
  injection hi1 with hz0 hz1
  injection hz1 with hz1 hz2
  obtain ⟨A1, c1, w1, hrun, ho1, hg1, -⟩ := run_append_str (P := Tryz.prog) w base 28 9 28 5 i0 Tryz.underlying28 Tryz.underlying9 hi0 hz0 hz1 hz2 _ ys.length (bv ys) hown s hb hbase
  have hl : (ys ++ s.data.toList).length = ys.length + s.size := by rw [List.length_append, Array.length_toList]; rfl
  rw [hl, bv_append]
  exact ⟨A1, c1, w1, hrun, ho1, hg1⟩
end Go.Proofs.YtmffpbhiehjlpaaGreat
namespace Go.Proofs.YtmffpbhiehjlpaaGreat
set_option linter.unusedSimpArgs false
set_option linter.unusedVariables false
open Go.RowKit
set_option maxRecDepth 20000 in
set_option maxHeartbeats 2000000 in
theorem sput_yes {w : World} (l : List ByteArray) {c : Nat} {A : Option Addr} (h : Rd w 0 w.heap.size A c (sv l)) (hr : rightT (bytL2 l) = true) :
    Calls Tryz.prog 106 #[.slice A l.length c] w fun r w' => ∃ A' c', r = .returned (.tuple #[.slice A' (putT (bytL2 l)).length c', .int .i64 0]) ∧ w'.ownsRow w.heap.size 5 1 (.slice A' (putT (bytL2 l)).length c') (putT (bytL2 l)).length (bv (putT (bytL2 l))) ∧ Below w.heap.size w w' := by
  have hl := h.len
  have hm := h.cap
  rw [sv_length] at hl
  unfold maxLen at hm
  have hl5 : l.length ≤ 255 := by have := (rightT_iff.1 hr).1; rw [bytL2_length] at this; exact this
  have h8 : ∀ s ∈ l, s.size ≤ 8 := fun s hs => by
    have := (rightT_iff.1 hr).2.1 s.data.toList (List.mem_map_of_mem hs)
    have := (okS_iff.1 this).2
    rw [Array.length_toList] at this
    exact this
  have HR := Lib.hid (sright_any l h fun s hs => by have := h8 s hs; omega)
  rw [hr] at HR
  have H := Lib.hid h
  have H8 : Hid (∀ k (hk : k < l.length), l[k].size ≤ 8) := fun k hk => h8 _ (List.getElem_mem hk)
  have hb0 : (UInt8.ofNat l.length).toNat = l.length := by simp; omega
  have hlit : ∀ w : World, (w.alloc (.cells #[.int .u8 (l.length : Int)] 5)).ownsRow w.heap.size 5 1 (.slice (some ⟨w.heap.size, 0, none⟩) 1 1) 1 (bv [UInt8.ofNat l.length]) := fun w => by
    have := World.ownsRow_lit (e := 5) (size := 1) (base := w.heap.size) w #[.int .u8 (l.length : Int)] 1 (Nat.le_refl _) (by simp [maxLen]) (by simp)
    simpa [bv, hb0] using this
  have HL := Lib.hid hlit
  clear h h8 hlit hb0 hr
  go_enter Tryz.func106, Tryz.ntmps106
  go_wp2_with fail
  refine HR.out.mono ?_
  rintro r w' ⟨rfl, m, rfl⟩
  have HB0 : Hid (Below w.heap.size w ((w.drewN m).alloc (.cells #[.int .u8 (l.length : Int)] 5))) := (below_drewN' (Below.refl _ w) m).alloc (Nat.le_refl _) _
  clear HR
  go_wp2_with fail
  go_loopw [4, 16] (fun x3 x4 wr => ∃ (k : Nat) (ys : List UInt8) (A' : Option Addr) (c' : Nat), k ≤ l.length ∧ x4 = .int .i64 (k : Int) ∧ x3 = .slice A' ys.length c' ∧ ys.length ≤ 1 + 9 * k ∧ ys = UInt8.ofNat l.length :: ((bytL2 l).take k).flatMap (fun s => UInt8.ofNat s.length :: s) ∧
    wr.ownsRow w.heap.size 5 1 (.slice A' ys.length c') ys.length (bv ys) ∧ Below w.heap.size w wr) (fun _ i _ => l.length - (intOf i).toNat)
  case atStart => exact ⟨0, [UInt8.ofNat l.length], _, _, Nat.zero_le _, rfl, rfl, by simp, by simp, HL.out _, HB0.out⟩
  case round =>
    clear HL HB0
    obtain ⟨k, ys, A', c', hk, rfl, rfl, hyl, hys, hown, hb⟩ := hrel
    have HYS := Lib.hid hys
    have HO := Lib.hid hown
    have HB := Lib.hid hb
    have hsz := hb.size
    clear hys hown hb
    by_cases hlt : k < l.length
    · have ik : (k : Int) < (l.length : Int) := by omega
      obtain ⟨b, off, rfl, _, hbh, hcell⟩ := (H.out.below HB.out (Nat.le_refl _)).str hlt
      have hs8 := H8.out k hlt
      have HPT := Lib.hid (put_take hlt)
      generalize l[k] = s at *
      have hbs : (UInt8.ofNat s.size).toNat = s.size := by simp; omega
      have hsl : s.data.toList.length = s.size := by rw [Array.length_toList]; rfl
      go_wp2_with (at_builtin; refine wpList_push (v := .slice A' ys.length c') w.heap.size ys (UInt8.ofNat s.size) rfl _ _ rfl rfl rfl rfl (by rw [hbs, World.cell?_alloc_at _ _ _ _ rfl]; rfl) (HO.out.alloc _) (by omega) (by simp; omega) ?_; intro A2 c2 w2 ho2 hg2; refine held ?_)
      have hb2w : Below w.heap.size w w2 := (HB.out.alloc hsz _).grown hg2 (by simp; omega) (fun q hq => (own_lt HO.out hq).1)
      have hsz2 := hb2w.size
      have hyl2 : (ys ++ [UInt8.ofNat s.size]).length = ys.length + 1 := by simp
      obtain ⟨zs, hzs⟩ : ∃ zs, ys ++ UInt8.ofNat s.size :: s.data.toList = zs := ⟨_, rfl⟩
      have hzl : zs.length = ys.length + (s.size + 1) := by rw [← hzs, List.length_append, List.length_cons, hsl]
      obtain ⟨A3, c3, w3, hrun, hown3, hg3⟩ := append_str_named w2 w.heap.size _ (ys ++ [UInt8.ofNat s.size]) zs s (by rw [← hzs]; simp) ho2 (by omega) hsz2
      have hb3w : Below w.heap.size w w3 := hb2w.grown hg3 (by omega) (fun q hq => (own_lt ho2 hq).1)
      rw [hyl2] at hrun
      have HZL : Hid (zs.length ≤ 1 + 9 * (k + 1)) := by unfold Hid; omega
      have HZS := Lib.hid hzs
      have HO3 := Lib.hid hown3
      have HB3 := Lib.hid hb3w
      clear hown3 hg3 hb3w ho2 hg2 hb2w hzl hzs hyl2 hsl hbs
      refine ⟨?_⟩
      go_wp2_with (at_builtin; refine wpList_append_run rfl _ _ _ _ rfl rfl rfl hrun ?_)
      go_roundw
      case rel =>
        refine ⟨k + 1, zs, A3, c3, by omega, by go_num, rfl, HZL.out, ?_, HO3.out, HB3.out⟩
        rw [HPT.out, ← HZS.out, HYS.out]; rfl
      case measure => simp [intOf] <;> omega
    · have ik : ¬ (k : Int) < (l.length : Int) := by omega
      have hfin : ys = putT (bytL2 l) := by
        rw [HYS.out, List.take_of_length_le (by simp [bytL2]; omega)]
        simp [putT, bytL2]
      have HF := Lib.hid hfin
      clear hfin
      go_wp2_with fail
      go_ret2
      exact ⟨A', c', by rw [← HF.out]; rfl, by rw [← HF.out]; exact HO.out, HB.out⟩
end Go.Proofs.YtmffpbhiehjlpaaGreat
namespace Go.Proofs.YtmffpbhiehjlpaaGreat
set_option linter.unusedSimpArgs false
set_option linter.unusedVariables false
open Go.RowKit
set_option maxRecDepth 20000 in
set_option maxHeartbeats 2000000 in
theorem fencode_any {w : World} (l : List ByteArray) (s : ByteArray) {c : Nat} {A : Option Addr} (h : Rd w 0 w.heap.size A c (sv l)) (hr : rightT (bytL2 l) = true) (hs : s.size ≤ 100000000) :
    Calls Tryz.prog 57 #[.slice A l.length c, .string s] w fun r w' => ∃ A' c', r = .returned (.slice A' (encL (bytL2 l) s.data.toList).length c') ∧
      w'.ownsRow w.heap.size 5 1 (.slice A' (encL (bytL2 l) s.data.toList).length c') (encL (bytL2 l) s.data.toList).length (bv (encL (bytL2 l) s.data.toList)) ∧ Below w.heap.size w w' := by
  have hln := (rightT_iff.1 hr).1
  rw [bytL2_length] at hln
  have H := Lib.hid h
  have HR := Lib.hid hr
  clear h hr
  obtain ⟨v, hv⟩ : ∃ v, encL (bytL2 l) s.data.toList = v := ⟨_, rfl⟩
  rw [hv]
  have HV := Lib.hid hv
  clear hv
  have HSL := Lib.hid (lenS s)
  go_enter Tryz.func57, Tryz.ntmps57
  go_wp2_with fail
  go_loopw [1, 5] (fun x1 x5 wr => ∃ (k : Nat) (u : ByteArray) (ys : List UInt8) (A' : Option Addr) (c' : Nat), k ≤ s.size ∧ u.size = s.size - k ∧ u.data.toList = s.data.toList.drop k ∧ x1 = .string u ∧ x5 = .slice A' ys.length c' ∧ ys.length ≤ 2 * k ∧ ys ++ encL (bytL2 l) u.data.toList = v ∧
    wr.ownsRow w.heap.size 5 1 (.slice A' ys.length c') ys.length (bv ys) ∧ Below w.heap.size w wr) (fun x1 _ _ => match x1 with | .string u => u.size | _ => 0)
  case atStart => exact ⟨0, s, [], none, 0, Nat.zero_le _, rfl, by rw [List.drop_zero], rfl, rfl, Nat.zero_le _, by rw [HV.out]; rfl, World.ownsRow_nil _ _ _ _, Below.refl _ _⟩
  case round =>
    obtain ⟨k, u, ys, A', c', hk, hus, hud, rfl, rfl, hyl, hys, hown, hb⟩ := hrel
    have HYS := Lib.hid hys
    have HO := Lib.hid hown
    have HB := Lib.hid hb
    have HUD := Lib.hid hud
    have hsz := hb.size
    have huL : u.size ≤ s.size - k := by omega
    have huG : s.size - k ≤ u.size := by omega
    clear hys hown hb hud hus
    by_cases hu0 : u.size = 0
    · have hue : u = ⟨#[]⟩ := by
        have : u.data.toList = [] := List.eq_nil_of_length_eq_zero (by rw [lenS]; exact hu0)
        rw [← str_etaU u, this]
      have hfin : ys = v := by
        rw [← HYS.out, hue]
        exact (List.append_nil _).symm
      have HF := Lib.hid hfin
      clear hfin hu0 huL huG HUD
      subst hue
      go_wp2_with fail
      go_ret
      exact ⟨A', c', by rw [← HF.out]; rfl, by rw [← HF.out]; exact HO.out, HB.out⟩
    · have hup : 0 < u.size := by omega
      have hne : u.toList ≠ [] := fun e => by
        rw [Lib.toList_data] at e
        have h1 := congrArg List.length e
        rw [Array.length_toList] at h1
        exact hu0 h1
      have hne2 : u.toList.isEmpty = false := by
        rw [List.isEmpty_eq_false_iff]
        exact hne
      clear hne
      have HDR := Lib.hid (dropS hup)
      rw [List.drop_zero] at HDR
      rcases longP_spec (bytL2 l) u.data.toList with hp | ⟨j, t, hj, hp, hn0, hpre⟩
      · have HLG := Lib.hid (fun w2 (hb2 : Below w.heap.size w w2) => fslong_any (w2 := w2) l u (H.out.below hb2 (Nat.le_refl _)) HR.out (by omega) _ hp)
        have HEQ : Hid (encL (bytL2 l) u.data.toList = (255 : UInt8) :: u[0] :: encL (bytL2 l) (u.extract 1 u.size).data.toList) := by
          unfold Hid
          have hp2 := hp
          rw [HDR.out] at hp2
          rw [tailS, HDR.out, enc_esc hp2]
          rfl
        have HU1 : Hid ((u.extract 1 u.size).data.toList = s.data.toList.drop (k + 1)) := by
          unfold Hid
          rw [tailS, HUD.out, List.drop_drop]
        have hu1 : (u.extract 1 u.size).size = s.size - (k + 1) := by rw [ByteArray.size_extract]; omega
        have HUS := Lib.hid hu1
        clear hp hu1
        have lx : u[0].toNat < 256 := UInt8.toNat_lt _
        go_wp2_with fail
        refine (HLG.out _ (by first | exact HB.out | exact below_drewN' HB.out _)).mono ?_
        rintro r w1 ⟨rfl, m, rfl⟩
        have hb1 : Below w.heap.size w (wr.drewN m) := below_drewN' HB.out m
        have ho1 : (wr.drewN m).ownsRow w.heap.size 5 1 (.slice A' ys.length c') ys.length (bv ys) := own_keep HO.out (fun _ _ => rfl)
        have hz1 : w.heap.size ≤ (wr.drewN m).heap.size := hb1.size
        generalize wr.drewN m = w1 at *
        have hlit : (w1.alloc (.cells #[.int .u8 255, .int .u8 (u[0].toNat : Int)] 5)).ownsRow w1.heap.size 5 1 (.slice (some ⟨w1.heap.size, 0, none⟩) 2 2) 2 (bv [(255 : UInt8), u[0]]) := own_lit w1 [(255 : UInt8), u[0]] #[.int .u8 255, .int .u8 (u[0].toNat : Int)] rfl (by simp)
        obtain ⟨A3, c3, w3, hrun, hown3, hg3⟩ := append_named _ w.heap.size _ ys [(255 : UInt8), u[0]] (ys ++ [(255 : UInt8), u[0]]) rfl (ho1.alloc _) (Rd.own hlit) (by simp; omega) (by simp; omega)
        have hb3 : Below w.heap.size w w3 := (hb1.alloc hz1 _).grown hg3 (by simp; omega) (fun q hq => (own_lt ho1 hq).1)
        have hrun2 : (Builtin.append_ #[28, 28] 28 #[.slice A' ys.length c', .slice (some ⟨w1.heap.size, 0, none⟩) 2 2]).run Tryz.prog (w1.alloc (.cells #[.int .u8 255, .int .u8 (u[0].toNat : Int)] 5)) = .ok (.slice A3 (ys ++ [(255 : UInt8), u[0]]).length c3) w3 := hrun
        have HRUN := Lib.hid hrun2
        have HO3 := Lib.hid hown3
        have HB3 := Lib.hid hb3
        clear hrun hrun2 hown3 hb3 hg3 hb1 ho1 hlit
        go_wp2_with (at_builtin; refine wpList_append_run rfl _ _ _ _ rfl rfl rfl HRUN.out ?_)
        go_roundw
        case rel =>
          refine ⟨k + 1, u.extract 1 u.size, ys ++ [(255 : UInt8), u[0]], A3, c3, by omega, HUS.out, HU1.out, rfl, by first | rfl | (rw [List.length_append]; rfl), by rw [List.length_append, List.length_cons, List.length_cons, List.length_nil]; omega, ?_, HO3.out, HB3.out⟩
          rw [List.append_assoc, ← HYS.out, HEQ.out]
          rfl
        case measure =>
          have := HUS.out
          simp only [this]
          omega
      · have HLG := Lib.hid (fun w2 (hb2 : Below w.heap.size w w2) => fslong_any (w2 := w2) l u (H.out.below hb2 (Nat.le_refl _)) HR.out (by omega) _ hp)
        have hjl : j < l.length := by
          have := (List.getElem?_eq_some_iff.1 hj).1
          rwa [bytL2_length] at this
        have hnl := hpre.length_le
        rw [lenS] at hnl
        have HEQ : Hid (encL (bytL2 l) u.data.toList = UInt8.ofNat j :: encL (bytL2 l) (u.extract t.length u.size).data.toList) := by
          unfold Hid
          rw [enc_code hp hn0, tailS]
        have HU1 : Hid ((u.extract t.length u.size).data.toList = s.data.toList.drop (k + t.length)) := by
          unfold Hid
          rw [tailS, HUD.out, List.drop_drop]
        have hu1 : (u.extract t.length u.size).size = s.size - (k + t.length) := by rw [ByteArray.size_extract]; omega
        have HUS := Lib.hid hu1
        clear hp hj hpre hu1 HDR
        generalize t.length = n at *
        have j0 : (0 : Int) ≤ (j : Int) := by omega
        have j1 : (j : Int) < 256 := by omega
        have hbs : (UInt8.ofNat j).toNat = j := by simp; omega
        have n1 : ((n : Int) == 0) = false := by rw [beq_eq_false_iff_ne]; omega
        have n2 : ¬ (n : Int) = 0 := by omega
        go_wp2_with fail
        refine (HLG.out _ (by first | exact HB.out | exact below_drewN' HB.out _)).mono ?_
        rintro r w1 ⟨rfl, m, rfl⟩
        have hb1 : Below w.heap.size w (wr.drewN m) := below_drewN' HB.out m
        have ho1 : (wr.drewN m).ownsRow w.heap.size 5 1 (.slice A' ys.length c') ys.length (bv ys) := own_keep HO.out (fun _ _ => rfl)
        have hz1 : w.heap.size ≤ (wr.drewN m).heap.size := hb1.size
        generalize wr.drewN m = w1 at *
        have HO1 := Lib.hid ho1
        have HB1 := Lib.hid hb1
        clear ho1 hb1
        go_wp2_with (at_builtin; refine wpList_push (v := .slice A' ys.length c') w.heap.size ys (UInt8.ofNat j) rfl _ _ rfl rfl rfl rfl (by rw [hbs, World.cell?_alloc_at _ _ _ _ rfl]; rfl) (HO1.out.alloc _) (by omega) (by simp; omega) ?_; intro A2 c2 w2 ho2 hg2)
        go_roundw
        case rel =>
          refine ⟨k + n, u.extract n u.size, ys ++ [UInt8.ofNat j], A2, c2, by omega, HUS.out, HU1.out, rfl, by rw [List.length_append]; rfl, by rw [List.length_append, List.length_cons, List.length_nil]; omega, ?_, ho2, (HB1.out.alloc hz1 _).grown hg2 (by simp; omega) (fun q hq => (own_lt HO1.out hq).1)⟩
          rw [List.append_assoc, ← HYS.out, HEQ.out]
          rfl
        case measure =>
          have := HUS.out
          simp only [this]
          omega
end Go.Proofs.YtmffpbhiehjlpaaGreat
namespace Go.Proofs.YtmffpbhiehjlpaaGreat
set_option linter.unusedSimpArgs false
set_option linter.unusedVariables false
open Go.RowKit
theorem small_tab {t : List (List UInt8)} (h : rightT t = true) : t.length ≤ 255 ∧ ∀ s ∈ strsL t, s.size ≤ 8 := by
  obtain ⟨h1, h2, -⟩ := rightT_iff.1 h
  refine ⟨h1, fun s hs => ?_⟩
  obtain ⟨x, hx, rfl⟩ := List.mem_map.1 hs
  have := (okS_iff.1 (h2 x hx)).2
  show x.toArray.size ≤ 8
  simpa using this
theorem sample_mem {l : List ByteArray} {ds : List Int} {m : Nat} (h : ∀ s ∈ l, s.size ≤ m) : ∀ s ∈ sampleL l ds, s.size ≤ m := fun s hs => by
  unfold sampleL at hs
  split at hs
  · cases hs
  · rename_i hne
    obtain ⟨d, _, rfl⟩ := List.mem_map.1 hs
    have hp : 0 < l.length := List.length_pos_iff.2 hne
    have hm : d.natAbs % l.length < l.length := Nat.mod_lt _ hp
    rw [List.getD_eq_getElem?_getD, List.getElem?_eq_getElem hm]
    exact h _ (List.getElem_mem hm)
theorem sample_few (l : List ByteArray) (ds : List Int) : (sampleL l ds).length ≤ ds.length := by
  unfold sampleL
  split
  · exact Nat.zero_le _
  · rw [List.length_map]; exact Nat.le_refl _
theorem putT_few {t : List (List UInt8)} (h : rightT t = true) : (putT t).length ≤ 3000 := by
  obtain ⟨h1, h2, -⟩ := rightT_iff.1 h
  have h3 : ∀ {u : List (List UInt8)}, (∀ s ∈ u, okS s = true) → (symB u).length ≤ 9 * u.length := by
    intro u
    induction u with
    | nil => intro _; simp [symB]
    | cons a u ih =>
      intro hu
      have h4 := ih fun s hs => hu s (List.mem_cons_of_mem _ hs)
      have h5 := (okS_iff.1 (hu a List.mem_cons_self)).2
      rw [symB_cons, List.length_cons, List.length_append, List.length_cons]
      omega
  have h4 := h3 h2
  rw [putT_symB, List.length_cons]
  omega
set_option maxRecDepth 20000 in
set_option maxHeartbeats 4000000 in
theorem symbols_v {w : World} (l : List ByteArray) (kd bl ro : Int) (ds : List Int) {c d : Nat} {A B : Option Addr} (h : Rd w 0 w.heap.size A c (sv l)) (hd : Rd w 0 w.heap.size B d (iv ds)) (hw : Word ds) (hro : -9223372036854775808 ≤ ro ∧ ro ≤ 9223372036854775807)
    (hn : l.length ≤ 10000) (hdn : ds.length ≤ 400) (h4 : ∀ s ∈ l, s.size ≤ 10000) :
    Calls Tryz.prog 85 #[.slice A l.length c, .agg #[.int .i64 kd, .int .i64 bl, .int .i64 ro, .slice B ds.length d]] w fun r w' => ∃ A' c', r = .returned (.slice A' (payK l ⟨kd, bl, ro, ds⟩ 2).length c') ∧
      w'.ownsRow w.heap.size 5 1 (.slice A' (payK l ⟨kd, bl, ro, ds⟩ 2).length c') (payK l ⟨kd, bl, ro, ds⟩ 2).length (bv (payK l ⟨kd, bl, ro, ds⟩ 2)) ∧ Below w.heap.size w w' ∧ rightT (tabS l ⟨kd, bl, ro, ds⟩) = true := by
  have hl := h.len
  have hm := h.cap
  have hdl := hd.len
  have hdm := hd.cap
  rw [sv_length] at hl
  rw [iv_length] at hdl
  unfold maxLen at hm hdm
  obtain ⟨w1, hw1⟩ : ∃ w1, w.alloc (.cells #[.int .i64 kd, .int .i64 bl, .int .i64 ro, .slice B ds.length d] 25) = w1 := ⟨_, rfl⟩
  have B1 : Hid (Below w.heap.size w w1) := by unfold Hid; rw [← hw1]; exact (Below.refl _ w).alloc (Nat.le_refl _) _
  have hs1 : w1.heap.size = w.heap.size + 1 := by rw [← hw1]; simp
  have hb : Blk w1 w.heap.size 25 #[.int .i64 kd, .int .i64 bl, .int .i64 ro, .slice B ds.length d] := by rw [← hw1]; exact Blk.new w _ _
  have HCF : Hid (∀ W, Below w1.heap.size w1 W → W.cell? ⟨w.heap.size, 2, none⟩ = some (.int .i64 ro) ∧ W.cell? ⟨w.heap.size, 3, none⟩ = some (.slice B ds.length d)) := fun W hW => ⟨(hb.below hW (by omega)).cell 2, (hb.below hW (by omega)).cell 3⟩
  have hS0 := HCF.out _ (Below.refl _ _)
  have hS1 := HCF.out _ ((Below.refl _ _).drew)
  have KD : Hid (Below w1.heap.size w1 w1.drew) := (Below.refl _ _).drew
  have HS : Hid (∀ W, Below w1.heap.size w1 W → Calls Tryz.prog 105 #[.slice A l.length c, .slice B ds.length d] W fun r w' => ∃ A' c', r = .returned (.slice A' (sampleL l ds).length c') ∧
      w'.ownsRow W.heap.size 9 1 (.slice A' (sampleL l ds).length c') (sampleL l ds).length (sv (sampleL l ds)) ∧ Below W.heap.size W w') := fun W hW =>
    tsample_any l ds ((h.below (B1.out.trans (hW.mono (by omega))) (Nat.le_refl _)).wide (Nat.le_refl _) (by have := hW.size; omega)) ((hd.below (B1.out.trans (hW.mono (by omega))) (Nat.le_refl _)).wide (Nat.le_refl _) (by have := hW.size; omega)) (by omega) (by omega) (fun s hs => Nat.le_trans (h4 s hs) (by omega)) hw
  have HT : Hid (∀ W A2 c2, W.ownsRow w1.heap.size 9 1 (.slice A2 (sampleL l ds).length c2) (sampleL l ds).length (sv (sampleL l ds)) → Calls Tryz.prog 104 #[.slice A2 (sampleL l ds).length c2, .int .i64 ro] W fun r w' => ∃ t A' c', r = .returned (.slice A' t.length c') ∧ Trained (bytL2 (sampleL l ds)) (roundsN ro) t ∧
      w'.ownsRow W.heap.size 9 1 (.slice A' t.length c') t.length (sv (strsL t)) ∧ Below W.heap.size W w') := fun W A2 c2 ho =>
    train_any (sampleL l ds) ro ((Rd.of_own ho).wide (Nat.zero_le _) (Nat.le_refl _)) (Nat.le_trans (sample_few l ds) hdn) (fun s hs => Nat.le_trans (sample_mem h4 s hs) (by omega)) hro
  have H : Hid (∀ W, Below w.heap.size w W → Rd W 0 W.heap.size A c (sv l)) := fun W hW => (h.below hW (Nat.le_refl _)).wide (Nat.le_refl _) hW.size
  have HH4 := Lib.hid h4
  obtain ⟨o, ho⟩ : ∃ o : Co, o = ⟨kd, bl, ro, ds⟩ := ⟨_, rfl⟩
  have HTS : Hid (∀ t, Trained (bytL2 (sampleL l ds)) (roundsN ro) t → tabS l o = t) := fun t ht => by rw [ho]; exact tabS_is ht
  have HPY : Hid (payK l o 2 = putT (tabS l o) ++ joinB ((bytL2 l).map (encL (tabS l o)))) := by unfold Hid; rw [payK, if_pos rfl]
  rw [← ho]
  generalize sampleL l ds = S at *
  generalize payK l o 2 = PY at *
  generalize tabS l o = T at *
  clear h hd hb ho h4
  go_enter Tryz.func85, Tryz.ntmps85
  go_wp2_with fail
  clear hw1
  go_region_held3 (fun w' => w'.cell? ⟨w.heap.size, 2, none⟩ = some (.int .i64 ro) ∧ w'.cell? ⟨w.heap.size, 3, none⟩ = some (.slice B ds.length d)) (first | assumption | go_keep) (first
    | (go_at_call 104; have ho2 := HO2.out; refine (HT.out _ _ _ ho2).mono ?_; rintro r wz ⟨t, A3, c3, rfl, htr, ho3, hbz⟩; have hte := HTS.out t htr; subst hte; have HTR := Lib.hid htr; have HO3 := Lib.hid ho3; have KZ : Hid (Below w1.heap.size w1 wz) := KY.out.trans (hbz.mono KY.out.size); have hSz := HCF.out _ KZ.out; clear hbz htr ho3)
    | (go_at_call 105; refine (HS.out _ KD.out).mono ?_; rintro r wy ⟨A2, c2, rfl, ho2, hby⟩; have HO2 := Lib.hid (own_base ho2 KD.out.size); have KY : Hid (Below w1.heap.size w1 wy) := KD.out.trans (hby.mono KD.out.size); have hSy := HCF.out _ KY.out; clear hby ho2))
  clear HS HT HCF KD hS0 hS1 hSy hSz HO2
  have hR : rightT T = true := HTR.out.right
  have HR := Lib.hid hR
  obtain ⟨ht5, ht8⟩ := small_tab hR
  have hsz1 := KZ.out.size
  have KW : Hid (Below w.heap.size w wz) := B1.out.trans (KZ.out.mono (by omega))
  have HP := Lib.hid (sput_yes (w := wz) (c := c3) (A := A3) (strsL T) (by exact (Rd.of_own HO3.out).wide (Nat.zero_le _) (Nat.le_refl _)) (by rw [bytL2_strsL]; exact hR))
  rw [strsL_length, bytL2_strsL] at HP
  clear hR KY HTS
  go_wp2_with fail
  refine HP.out.mono ?_
  rintro r w3 ⟨A4, c4, rfl, ho4, hb4⟩
  have HO4 := Lib.hid ho4
  have K3 : Hid (Below w.heap.size w w3) := below_below KW.out hb4 (by omega)
  have hsz3 := K3.out.size
  have hszz := KW.out.size
  have HRT : Hid (Rd w3 0 w3.heap.size A3 c3 (sv (strsL T))) := ((Rd.of_own HO3.out).wide (Nat.zero_le _) (Nat.le_refl _)).below hb4 (Nat.le_refl _) |>.wide (Nat.le_refl _) hb4.size
  have HE : Hid (∀ W, Below w3.heap.size w3 W → ∀ s : ByteArray, s.size ≤ 10000 → Calls Tryz.prog 57 #[.slice A3 T.length c3, .string s] W fun r w' => ∃ A' c', r = .returned (.slice A' (encL T s.data.toList).length c') ∧
      w'.ownsRow W.heap.size 5 1 (.slice A' (encL T s.data.toList).length c') (encL T s.data.toList).length (bv (encL T s.data.toList)) ∧ Below W.heap.size W w') := fun W hW s hs => by
    have := fencode_any (w := W) (c := c3) (A := A3) (strsL T) s ((HRT.out.below hW (Nat.le_refl _)).wide (Nat.le_refl _) hW.size) (by rw [bytL2_strsL]; exact HR.out) (by omega)
    rw [strsL_length, bytL2_strsL] at this
    exact this
  clear hb4 ho4 HP HO3 HRT KZ KW HTR
  go_wp2_with fail
  go_loopw [8, 25] (fun x i wr => ∃ (k : Nat) (ps : List Part) (A' : Option Addr) (c' : Nat), k ≤ l.length ∧ i = .int .i64 (k : Int) ∧ bsL ps = ((bytL2 l).map (encL T)).take k ∧ x = .slice A' k c' ∧ PR wr w3.heap.size (.slice A' k c') k ps ∧ Below w3.heap.size w3 wr) (fun _ i _ => l.length - (intOf i).toNat)
  case atStart => exact ⟨0, [], none, 0, Nat.zero_le _, rfl, rfl, rfl, PR.nil _ _, Below.refl _ _⟩
  case round =>
    obtain ⟨k, ps, A', c', hk, rfl, hys, rfl, hp, hb⟩ := hrel
    have HY := Lib.hid hys
    have HP := Lib.hid hp
    have HB := Lib.hid hb
    have hsz := hb.size
    clear hb hys hp
    by_cases hlt : k < l.length
    · have ik : (k : Int) < (l.length : Int) := by omega
      obtain ⟨b, off, rfl, _, hbl, hc0⟩ := (H.out wr (K3.out.trans (HB.out.mono hsz3))).str hlt
      have HE1 := Lib.hid (HE.out wr HB.out l[k] (HH4.out _ (List.getElem_mem hlt)))
      have HT : Hid (((bytL2 l).map (encL T)).take (k + 1) = ((bytL2 l).map (encL T)).take k ++ [encL T l[k].data.toList]) := by
        unfold Hid
        rw [List.take_succ_eq_append_getElem (by rw [List.length_map, bytL2_length]; exact hlt), List.getElem_map, bytL2_get l k hlt]
      generalize l[k] = s at *
      generalize encL T s.data.toList = e at *
      go_wp2_with fail
      refine HE1.out.mono ?_
      rintro r w5 ⟨A5, c5, rfl, ho5, hb5⟩
      have hsz5 := hb5.size
      have HB5 := Lib.hid (below_below HB.out hb5 hsz)
      obtain ⟨q, hq⟩ : ∃ p : Part, p = ⟨A5, c5, e⟩ := ⟨_, rfl⟩
      have HQ := Lib.hid hq
      have hrd5 := Rd.of_own ho5
      have HRQ : Hid (Rd (w5.alloc (.cells #[.slice A5 e.length c5] 28)) w3.heap.size (w5.alloc (.cells #[.slice A5 e.length c5] 28)).heap.size q.A q.c (bv q.bs)) := by
        unfold Hid
        rw [hq]
        exact (hrd5.alloc (Nat.le_refl _) _).wide hsz (by simp)
      have HZA : Hid (0 < q.bs.length → ∀ b off, q.A = some ⟨b, off, none⟩ → (Value.slice A' k c').ownBlock ≠ some b) := by
        unfold Hid
        rw [hq]
        exact HP.out.fresh hrd5
      have HPA := Lib.hid ((HP.out.below hb5 (Nat.le_refl _)).alloc (.cells #[.slice A5 e.length c5] 28))
      have HBA := Lib.hid (HB5.out.alloc (by omega) (.cells #[.slice A5 e.length c5] 28))
      clear hrd5 hb5 ho5 HP HB hq HE1 HB5
      go_wp2_with (at_builtin; refine wpList_push_part (v := .slice A' k c') w3.heap.size ps q rfl _ _ rfl rfl rfl rfl (by rw [HQ.out, World.cell?_alloc_at _ _ _ _ rfl]; rfl) HPA.out HRQ.out HZA.out (by omega) (by simp; omega) ?_; intro A7 c7 w7 hp7 hg7; refine held ?_)
      have HB7 := Lib.hid (HBA.out.grown hg7 (by simp; omega) (fun q hq => (own_lt HPA.out.own hq).1))
      have HP7 := Lib.hid hp7
      have HY7 : Hid (bsL (ps ++ [q]) = ((bytL2 l).map (encL T)).take (k + 1)) := by
        unfold Hid
        rw [HT.out, ← HY.out, HQ.out]
        simp [bsL]
      clear hp7 hg7 HPA HRQ HZA HBA
      refine ⟨?_⟩
      go_wp2_with fail
      go_roundw
      case rel => exact ⟨k + 1, ps ++ [q], A7, c7, by omega, by go_num, HY7.out, rfl, HP7.out, HB7.out⟩
      case measure => simp [intOf] <;> omega
    · have ik : ¬ (k : Int) < (l.length : Int) := by omega
      have hke : ((bytL2 l).map (encL T)).take k = (bytL2 l).map (encL T) := List.take_of_length_le (by rw [List.length_map, bytL2_length]; omega)
      rw [hke] at HY
      have hpl := HP.out.len
      have hen : ∀ x ∈ (bytL2 l).map (encL T), x.length ≤ 20000 := fun x hx => by
        obtain ⟨y, hy, rfl⟩ := List.mem_map.1 hx
        obtain ⟨s, hs, rfl⟩ := List.mem_map.1 hy
        have h1 := enc_len T s.data.toList
        have h2 := HH4.out s hs
        have h3 : s.data.toList.length = s.size := rfl
        omega
      have hsum : (partsL ps).length ≤ 20000 * l.length := by
        rw [← partsL_bsL, HY.out]
        have := flatL_le hen
        rwa [List.length_map, bytL2_length] at this
      have HJ := Lib.hid (joined_v (w := wr) (A := A') (c := c') ps (HP.out.read.wide (Nat.zero_le _) (Nat.le_refl _)) (HP.out.rd.wide (Nat.zero_le _) (Nat.le_refl _)) (by omega) (by omega) (fun p hp => Nat.le_trans (hen p.bs (by rw [← HY.out]; exact List.mem_map_of_mem hp)) (by omega)))
      rw [HY.out, hpl] at HJ
      have HJL : Hid ((joinB ((bytL2 l).map (encL T))).length ≤ 1000000000000) := by
        unfold Hid
        have h1 := flatL_le hen
        rw [List.length_map, bytL2_length] at h1
        have h2 := writeL_length (zs := ints (((bytL2 l).map (encL T)).map List.length)) (lens_may (m := 20000) (by omega) fun x hx => by have := hen x hx; omega) (by rw [ints_length, List.length_map, List.length_map, bytL2_length]; omega)
        rw [joinB, List.length_append]
        omega
      have hpt : (putT T).length ≤ 3000 := putT_few HR.out
      clear hsum hpl hen
      generalize joinB ((bytL2 l).map (encL T)) = J at *
      generalize putT T = pt at *
      go_wp2_with fail
      refine HJ.out.mono ?_
      rintro r w6 ⟨A6, c6, rfl, ho6, hb6⟩
      have hsz6 := hb6.size
      have hb36 : Below w3.heap.size w3 w6 := below_below HB.out hb6 hsz
      obtain ⟨A8, c8, w8, hrun8, hown8, hg8⟩ := append_named w6 w.heap.size (.slice A4 pt.length c4) pt J PY HPY.out.symm (own_base (own_below HO4.out hb36 (Nat.le_refl _)) hszz) (Rd.of_own ho6) (by have := HJL.out; omega) (by omega)
      have hb8 : Below w.heap.size w w8 := (K3.out.trans (hb36.mono hsz3)).grown hg8 (by omega) (fun q hq => by have := (own_lt HO4.out hq).1; omega)
      have HO8 := Lib.hid hown8
      have HB8 := Lib.hid hb8
      clear ho6 hb6 hb36 hown8 hg8 hb8 HJ
      go_wp2_with (at_builtin; refine wpList_append_run rfl _ _ _ _ rfl rfl rfl hrun8 ?_)
      go_ret
      exact ⟨_, _, rfl, HO8.out, HB8.out, HR.out⟩
end Go.Proofs.YtmffpbhiehjlpaaGreat
