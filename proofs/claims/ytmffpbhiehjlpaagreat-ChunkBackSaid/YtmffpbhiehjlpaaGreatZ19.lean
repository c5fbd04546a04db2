/-
  The pack's Write, and the document's.
  The chunk package: numbers, joined, plain.
  slices.Sort and slices.Compact of strings, strings.Clone: the library's contracts at this program's numbers.
  slices.Sort, slices.Compact of a call's own strings; strings.Clone.
  The program's train: Sample.
-/
import Derived.Test.YtmffpbhiehjlpaaGreatZ05
import Derived.Test.YtmffpbhiehjlpaaGreatZ18
import Derived.Test.YtmffpbhiehjlpaaGreatZ15
import Derived.Test.YtmffpbhiehjlpaaGreatZ17
import Derived.Outline
import Derived.BigQuiet
import Derived.Deep.QuietTactic
import Derived.Shelf.Sort.Plain
import Derived.Shelf.Slices.In.SortNone
import Derived.Shelf.Slices.CompactS
import Derived.Shelf.LaysM
import Derived.Shelf.Strconv.Clone
import Derived.Test.YtmffpbhiehjlpaaGreatRows
import Derived.Test.YtmffpbhiehjlpaaGreatZ00
import Derived.Test.YtmffpbhiehjlpaaGreatZ01
import Derived.Lib.OwnBridge
import Derived.Sort.OwnSorted
import Derived.Test.YtmffpbhiehjlpaaGreatZ11
namespace Go.Proofs.YtmffpbhiehjlpaaGreat
set_option linter.unusedSimpArgs false
set_option linter.unusedVariables false
open Go.RowKit
set_option maxHeartbeats 400000 in
theorem pwrite_yes {w : World} (zs : List Int) (hm : May zs) {h' : Nat} {A : Option Addr} {c : Nat} (h : Rd w 0 h' A c (iv zs)) (hh : h' ≤ w.heap.size) (hlen : zs.length ≤ 4294967295) :
    Calls Tryz.prog 135 #[.slice A zs.length c] w fun r w' => ∃ A' c', r = .returned (.tuple #[.slice A' (writeL zs).length c', .int .i64 0]) ∧
      w'.ownsRow w.heap.size 5 1 (.slice A' (writeL zs).length c') (writeL zs).length (bv (writeL zs)) ∧ Below w.heap.size w w' := by
  have HW := Lib.hid (width_any (w := w) zs hm.word h)
  have HP := Lib.hid (pput_yes (w := w) zs (wide zs) hm.fits h hh hlen)
  have h1 := putL_nine zs.length (by omega)
  have h2 := hm.wide_le
  have h3 : zs.length * wide zs ≤ 4294967295 * 32 := Nat.mul_le_mul hlen h2
  have h4 : (packL (wide zs) (nats zs)).length ≤ 4294967295 * 4 + 1 := by rw [packL_length, nats_length]; omega
  have h5 : (packL (wide zs) (nats zs)).length ≤ 140737488355328 := by omega
  have HE : Hid (putL zs.length ++ ([UInt8.ofNat (wide zs)] ++ packL (wide zs) (nats zs)) = writeL zs) := rfl
  have HB := Lib.hid (ofNat_toNat_lt (n := wide zs) (by omega))
  clear h hm
  generalize packL (wide zs) (nats zs) = pk at *
  generalize wide zs = wd at *
  go_enter Tryz.func135, Tryz.ntmps135
  go_wp2_with fail
  refine HW.out.mono ?_
  rintro r w' ⟨rfl, rfl⟩
  go_wp2_with fail
  refine HP.out.mono ?_
  rintro r w1 ⟨A1, c1, rfl, hown1, hb1⟩
  have HO1 := Lib.hid hown1
  have HB1 := Lib.hid hb1
  have s1 := hb1.size
  clear hown1 hb1
  go_wp2_with fail
  refine (put_any zs.length (by omega)).mono ?_
  rintro r w2 ⟨A2, c2, rfl, hown2, hb2⟩
  have HO2 := Lib.hid hown2
  have HB2 := Lib.hid (below_below HB1.out hb2 s1)
  have HK2 := Lib.hid (own_below HO1.out hb2 (Nat.le_refl _))
  have s2 := hb2.size
  have hb2' := hb2
  clear hown2 hb2
  generalize putL zs.length = pl at *
  go_wp2_with (at_builtin; refine wpList_push (v := .slice A2 pl.length c2) w1.heap.size pl (UInt8.ofNat wd) rfl _ _ rfl rfl rfl rfl (by rw [HB.out, World.cell?_alloc_at _ _ _ _ rfl]; first | rfl | (simp; omega)) (HO2.out.alloc _) (by omega) (by simp; omega) ?_; intro A3 c3 w3 hown3 hgr3; refine held ?_)
  refine ⟨?_⟩
  have HR3 := Lib.hid ((((Rd.own HO1.out).below hb2' (Nat.le_refl _)).alloc s2 (.cells #[.int .u8 (wd : Int)] 5)).grown hgr3 (by simp; omega) (fun k hk => .inr (own_row HO2.out k hk)))
  have k3 := (HB2.out.alloc (Nat.le_trans s1 s2) _).grown hgr3 (by simp; omega) (fun k hk => Nat.le_trans s1 (own_row HO2.out k hk))
  have HB3 := Lib.hid k3
  obtain ⟨A4, c4, w4, hrun4, hown4, hg4⟩ := append_named w3 w.heap.size _ (pl ++ [UInt8.ofNat wd]) pk (writeL zs) (by rw [List.append_assoc]; exact HE.out) (own_base hown3 s1) HR3.out (by simp; omega) k3.size
  rw [show (pl ++ [UInt8.ofNat wd]).length = pl.length + 1 from by simp] at hrun4 hown3 hg4
  have HO4 := Lib.hid hown4
  have HG4 := Lib.hid hg4
  have HO3 := Lib.hid hown3
  clear hown3 hgr3 hown4 hg4 k3 hb2'
  go_wp2_with (at_builtin; refine wpList_append_run rfl _ _ _ _ rfl rfl rfl hrun4 ?_)
  go_ret2
  exact ⟨A4, c4, rfl, HO4.out, HB3.out.grown HG4.out HB3.out.size (fun k hk => Nat.le_trans s1 (own_row HO3.out k hk))⟩
end Go.Proofs.YtmffpbhiehjlpaaGreat
namespace Go.Proofs.YtmffpbhiehjlpaaGreat
set_option linter.unusedSimpArgs false
set_option linter.unusedVariables false
open Go.RowKit
theorem flatL_le {m : Nat} : ∀ {l : List (List UInt8)}, (∀ x ∈ l, x.length ≤ m) → l.flatten.length ≤ m * l.length
  | [], _ => by simp
  | x :: l, h => by
    have h1 := flatL_le (l := l) fun y hy => h y (List.mem_cons_of_mem _ hy)
    have h2 := h x List.mem_cons_self
    rw [List.flatten_cons, List.length_append, List.length_cons, Nat.mul_add]
    omega
theorem numbers_v {w : World} (zs : List Int) (hm : May zs) {h' : Nat} {A : Option Addr} {c : Nat} (h : Rd w 0 h' A c (iv zs)) (hh : h' ≤ w.heap.size) (hlen : zs.length ≤ 4294967295) :
    Calls Tryz.prog 112 #[.slice A zs.length c] w fun r w' => ∃ A' c', r = .returned (.slice A' (writeL zs).length c') ∧
      w'.ownsRow w.heap.size 5 1 (.slice A' (writeL zs).length c') (writeL zs).length (bv (writeL zs)) ∧ Below w.heap.size w w' := by
  have HP := Lib.hid (pwrite_yes (w := w) zs hm h hh hlen)
  clear h
  go_enter Tryz.func112, Tryz.ntmps112
  go_wp2_with fail
  refine HP.out.mono ?_
  rintro r w1 ⟨A1, c1, rfl, ho, hb⟩
  go_wp2_with fail
  go_ret
  exact ⟨_, _, rfl, ho, hb⟩
set_option maxRecDepth 20000 in
set_option maxHeartbeats 2000000 in
theorem joined_v {w : World} (ps : List Part) {c : Nat} {A : Option Addr} (h : Rd w 0 w.heap.size A c (pv ps)) (hp : Prt w 0 w.heap.size ps) (hn : ps.length ≤ 1000000) (hb : (partsL ps).length ≤ 1000000000) (h4 : ∀ p ∈ ps, p.bs.length ≤ 1000000000) :
    Calls Tryz.prog 107 #[.slice A ps.length c] w fun r w' => ∃ A' c', r = .returned (.slice A' (joinB (bsL ps)).length c') ∧
      w'.ownsRow w.heap.size 5 1 (.slice A' (joinB (bsL ps)).length c') (joinB (bsL ps)).length (bv (joinB (bsL ps))) ∧ Below w.heap.size w w' := by
  have hl := h.len
  have hm := h.cap
  rw [pv_length] at hl
  unfold maxLen at hm
  obtain ⟨w1, hmake, ho1, hg1⟩ := make_nums w ps.length (by omega)
  have HO1 := Lib.hid ho1
  have HB1 := Lib.hid (below_of_gb (Nat.le_refl _) hg1 (fun g hg => by cases hg))
  have H := Lib.hid h
  have HP := Lib.hid hp
  obtain ⟨zs, hzs⟩ : ∃ zs, ints ((bsL ps).map List.length) = zs := ⟨_, rfl⟩
  have HZ : Hid (∀ i (hi : i < ps.length), (iv zs)[i]? = some (.int .i64 (ps[i].bs.length : Int))) := fun i hi => by
    rw [← hzs]; simp [iv, ints, bsL, List.getElem?_eq_getElem hi]
  have hzl : zs.length = ps.length := by rw [← hzs]; simp [ints, bsL]
  have HZL : Hid (zs.length = ps.length) := hzl
  have HMay : Hid (May zs) := by
    unfold Hid
    rw [← hzs]
    exact lens_may (m := 1000000000) (by omega) fun x hx => by obtain ⟨p, hp, rfl⟩ := List.mem_map.1 hx; have := h4 p hp; omega
  obtain ⟨J, hJ⟩ : ∃ J, joinB (bsL ps) = J := ⟨_, rfl⟩
  have HJ : Hid (writeL zs ++ partsL ps = J) := by unfold Hid; rw [← hJ, joinB, hzs, partsL_bsL]
  have HH4 := Lib.hid h4
  rw [hJ]
  clear h ho1 hg1 hp hzs hzl hJ h4
  go_enter Tryz.func107, Tryz.ntmps107
  go_wp2_with fail
  clear hmake
  go_loopw [11] (fun i wr => ∃ (k : Nat) (xs : List Value), k ≤ ps.length ∧ i = .int .i64 (k : Int) ∧ wr.ownsRow w.heap.size 3 1 (.slice (some ⟨w.heap.size, 0, none⟩) ps.length ps.length) ps.length xs ∧ Fill (iv zs) k xs ∧ Below w.heap.size w wr) (fun i _ => ps.length - (intOf i).toNat)
  case atStart => exact ⟨0, _, Nat.zero_le _, rfl, HO1.out, fill_zero (by rw [iv_length, HZL.out]; simp), HB1.out⟩
  case round =>
    clear HO1 HB1
    obtain ⟨k, xs, hk, rfl, ho, hup, hbl⟩ := hrel
    have HO := Lib.hid ho
    have HUP := Lib.hid hup
    have HB := Lib.hid hbl
    have hsz := hbl.size
    clear ho hup hbl
    by_cases hlt : k < ps.length
    · have ik : (k : Int) < (ps.length : Int) := by omega
      obtain ⟨b, off, rfl, _, hbw, hc0⟩ := (H.out.below HB.out (Nat.le_refl _)).part hlt
      have HZ1 := Lib.hid (HZ.out k hlt)
      generalize ps[k].A = pA at *
      generalize ps[k].bs.length = pn at *
      generalize ps[k].c = pc at *
      have hfr := HO.out.frozenAt k
      have hxk : k < xs.length := by rw [HUP.out.1, iv_length, HZL.out]; exact hlt
      have hcell : wr.cell? ⟨w.heap.size, k, none⟩ = some xs[k] := by
        rw [HO.out.cellAt k (by omega), List.getElem?_eq_getElem hxk]
      have HST := Lib.hid (World.ownsRow.stored HO.out k (.int .i64 (pn : Int)))
      have HBS := Lib.hid (HB.out.setCell (p := ⟨w.heap.size, k, none⟩) (Nat.le_refl _) (.int .i64 (pn : Int)))
      have HUS := Lib.hid (fill_succ HUP.out (.int .i64 (pn : Int)) HZ1.out)
      generalize xs[k] = x0 at *
      go_wp2_with fail
      go_roundw
      case rel => exact ⟨k + 1, _, by omega, by go_num, HST.out.1, HUS.out, HBS.out⟩
      case measure => simp [intOf]; omega
    · have ik : ¬ (k : Int) < (ps.length : Int) := by omega
      have hx : xs = iv zs := fill_all HUP.out (by rw [iv_length, HZL.out]; omega)
      subst hx
      have HN := Lib.hid (numbers_v (w := wr) zs HMay.out ((Rd.of_own HO.out).wide (Nat.zero_le _) (Nat.le_refl _)) (Nat.le_refl _) (by rw [HZL.out]; omega))
      rw [HZL.out] at HN
      go_wp2_with fail
      refine HN.out.mono ?_
      rintro r w2 ⟨A2, c2, rfl, ho2, hb2⟩
      have HO2 := Lib.hid ho2
      have HB2 := Lib.hid (below_below HB.out hb2 hsz)
      have hsz2 := HB2.out.size
      have hs2 := hb2.size
      have HJN := Lib.hid (bjoin_any (w := w2) ps (H.out.below HB2.out (Nat.le_refl _)) (HP.out.below HB2.out (Nat.le_refl _)) hn (by omega))
      clear ho2 hb2 HN
      go_wp2_with fail
      refine HJN.out.mono ?_
      rintro r w3 ⟨A3, c3, rfl, hr3, hb3⟩
      have hsz3 := hb3.size
      have hwl := writeL_length HMay.out (by rw [HZL.out]; omega)
      obtain ⟨A4, c4, w4, hrun4, hown4, hg4⟩ := append_named w3 w.heap.size (.slice A2 (writeL zs).length c2) (writeL zs) (partsL ps) J HJ.out (own_base (own_below HO2.out hb3 (Nat.le_refl _)) hsz) hr3 (by omega) (by omega)
      have hb4 : Below w.heap.size w w4 := (below_below HB2.out hb3 hsz2).grown hg4 (by omega) (fun q hq => by have := (own_lt HO2.out hq).1; omega)
      have HO4 := Lib.hid hown4
      have HB4 := Lib.hid hb4
      clear hr3 hb3 hown4 hg4 hb4 HJN
      go_wp2_with (at_builtin; refine wpList_append_run rfl _ _ _ _ rfl rfl rfl hrun4 ?_)
      go_ret
      exact ⟨_, _, rfl, HO4.out, HB4.out⟩
set_option maxRecDepth 20000 in
set_option maxHeartbeats 2000000 in
theorem plain_v {w : World} (l : List ByteArray) {c : Nat} {A : Option Addr} (h : Rd w 0 w.heap.size A c (sv l)) (hn : l.length ≤ 100000) (h4 : ∀ s ∈ l, s.size ≤ 10000) :
    Calls Tryz.prog 87 #[.slice A l.length c] w fun r w' => ∃ A' c', r = .returned (.slice A' (joinB (bytL2 l)).length c') ∧
      w'.ownsRow w.heap.size 5 1 (.slice A' (joinB (bytL2 l)).length c') (joinB (bytL2 l)).length (bv (joinB (bytL2 l))) ∧ Below w.heap.size w w' := by
  have hl := h.len
  have hm := h.cap
  rw [sv_length] at hl
  unfold maxLen at hm
  have H := Lib.hid h
  have HH4 := Lib.hid h4
  clear h h4
  go_enter Tryz.func87, Tryz.ntmps87
  go_wp2_with fail
  go_loopw [3, 8] (fun x i wr => ∃ (k : Nat) (ps : List Part) (A' : Option Addr) (c' : Nat), k ≤ l.length ∧ i = .int .i64 (k : Int) ∧ bsL ps = (bytL2 l).take k ∧ x = .slice A' k c' ∧ PR wr w.heap.size (.slice A' k c') k ps ∧ Below w.heap.size w wr) (fun _ i _ => l.length - (intOf i).toNat)
  case atStart => exact ⟨0, [], none, 0, Nat.zero_le _, rfl, rfl, rfl, PR.nil _ _, Below.refl _ _⟩
  case round =>
    obtain ⟨k, ps, A', c', hk, rfl, hys, rfl, hp, hb⟩ := hrel
    have HY := Lib.hid hys
    have HP := Lib.hid hp
    have HB := Lib.hid hb
    have hsz := hb.size
    clear hb hys hp
    by_cases hlt : k < l.length
    · have ik : (k : Int) < (l.length : Int) := by omega
      obtain ⟨b, off, rfl, _, hbl, hc0⟩ := (H.out.below HB.out (Nat.le_refl _)).str hlt
      have HS4 := Lib.hid (HH4.out _ (List.getElem_mem hlt))
      have HT : Hid ((bytL2 l).take (k + 1) = (bytL2 l).take k ++ [l[k].data.toList]) := by
        unfold Hid
        rw [List.take_succ_eq_append_getElem (by rw [bytL2_length]; exact hlt), bytL2_get l k hlt]
      generalize l[k] = s at *
      have hcv := Lib.run_convert_string_bytes (P := Tryz.prog) wr 9 28 5 s Tryz.underlying9 Tryz.underlying28 Tryz.underlying5
      have hcap := grownCap_le_maxLen wr s.size 0 5 (by have := HS4.out; simp only [maxLen]; omega)
      have hrd := bytesWorld_rd wr 5 s hcap
      have hb2 := bytesWorld_below wr 5 s (Nat.le_refl _)
      have hs2 : wr.heap.size + 1 ≤ (Lib.bytesWorld wr 5 s).heap.size := by rw [Lib.bytesWorld_size]; exact Nat.le_refl _
      clear hcap
      generalize grownCap wr s.size 0 5 = gc at *
      generalize Lib.bytesWorld wr 5 s = w2 at *
      have HB2 := Lib.hid (below_below HB.out hb2 hsz)
      have hsz2 : w.heap.size ≤ w2.heap.size := HB2.out.size
      obtain ⟨q, hq⟩ : ∃ p : Part, p = ⟨some ⟨wr.heap.size, 0, none⟩, gc, s.data.toList⟩ := ⟨_, rfl⟩
      have HQ := Lib.hid hq
      have HQB : Hid (q.bs = s.data.toList) := by unfold Hid; rw [hq]
      have HRQ : Hid (Rd (w2.alloc (.cells #[.slice (some ⟨wr.heap.size, 0, none⟩) s.size gc] 28)) w.heap.size (w2.alloc (.cells #[.slice (some ⟨wr.heap.size, 0, none⟩) s.size gc] 28)).heap.size q.A q.c (bv q.bs)) := by
        unfold Hid
        rw [hq]
        exact (hrd.alloc hs2 _).wide hsz (by simp; omega)
      have HPA := Lib.hid ((HP.out.below hb2 (Nat.le_refl _)).alloc (.cells #[.slice (some ⟨wr.heap.size, 0, none⟩) s.size gc] 28))
      have HZA : Hid (∀ b off, q.A = some ⟨b, off, none⟩ → (Value.slice A' k c').ownBlock ≠ some b) := fun b off e e2 => by
        rw [hq] at e
        simp only [Option.some.injEq, Addr.mk.injEq] at e
        have := (own_lt HP.out.own e2).2
        omega
      have HBA := Lib.hid (HB2.out.alloc hsz2 (.cells #[.slice (some ⟨wr.heap.size, 0, none⟩) s.size gc] 28))
      clear hrd hb2 HP HB hq
      go_wp2_with (at_builtin; refine wpList_push_part (v := .slice A' k c') w.heap.size ps q rfl _ _ rfl rfl rfl rfl (by rw [HQ.out, World.cell?_alloc_at _ _ _ _ rfl]; rfl) HPA.out HRQ.out (fun _ => HZA.out) (by omega) (by simp; omega) ?_; intro A7 c7 w7 hp7 hg7; refine held ?_)
      have HB7 := Lib.hid (HBA.out.grown hg7 (by simp; omega) (fun q hq => (own_lt HPA.out.own hq).1))
      have HP7 := Lib.hid hp7
      have HY7 : Hid (bsL (ps ++ [q]) = (bytL2 l).take (k + 1)) := by
        unfold Hid
        rw [HT.out, ← HY.out, ← HQB.out]
        simp [bsL]
      clear hp7 hg7 HPA HRQ HZA HBA
      refine ⟨?_⟩
      go_wp2_with fail
      go_roundw
      case rel => exact ⟨k + 1, ps ++ [q], A7, c7, by omega, by go_num, HY7.out, rfl, HP7.out, HB7.out⟩
      case measure => simp [intOf] <;> omega
    · have ik : ¬ (k : Int) < (l.length : Int) := by omega
      have hke : (bytL2 l).take k = bytL2 l := List.take_of_length_le (by rw [bytL2_length]; omega)
      rw [hke] at HY
      have hpl := HP.out.len
      have hsum : (partsL ps).length ≤ 10000 * l.length := by
        rw [← partsL_bsL, HY.out]
        have := flatL_le (m := 10000) (l := bytL2 l) fun x hx => by obtain ⟨s, hs, rfl⟩ := List.mem_map.1 hx; exact HH4.out s hs
        rwa [bytL2_length] at this
      have HJ := Lib.hid (joined_v (w := wr) (A := A') (c := c') ps (HP.out.read.wide (Nat.zero_le _) (Nat.le_refl _)) (HP.out.rd.wide (Nat.zero_le _) (Nat.le_refl _)) (by omega) (by omega) (fun p hp => by
        have : p.bs ∈ bytL2 l := by rw [← HY.out]; exact List.mem_map_of_mem hp
        obtain ⟨s, hs, e⟩ := List.mem_map.1 this
        have h1 := HH4.out s hs
        rw [← e]
        show s.size ≤ _
        omega))
      rw [HY.out, hpl] at HJ
      clear hsum hpl
      go_wp2_with fail
      refine HJ.out.mono ?_
      rintro r w2 ⟨A2, c2, rfl, ho2, hb2⟩
      go_wp2_with fail
      go_ret
      exact ⟨_, _, rfl, own_base ho2 hsz, below_below HB.out hb2 hsz⟩
end Go.Proofs.YtmffpbhiehjlpaaGreat
namespace Go.Proofs.YtmffpbhiehjlpaaGreat
set_option maxRecDepth 100000
set_option linter.unusedSimpArgs false
set_option linter.unusedVariables false
open Go.RowKit
def ren1 : Go.Shelf.Ren := ⟨fun | 125 => 131 | 128 => 149 | 129 => 150 | 190 => 109 | 194 => 110 | 258 => 130 | 302 => 141 | 303 => 142 | 304 => 143 | 305 => 144 | 306 => 145 | 307 => 146 | 308 => 124 | 309 => 147 | 310 => 148 | 316 => 84 | 329 => 158 | 330 => 159 | 333 => 157 | 334 => 160 | 335 => 161 | 336 => 137 | 344 => 167 | n => n, fun | 0 => 0 | 3 => 3 | 4 => 4 | 5 => 5 | 9 => 9 | 31 => 37 | 37 => 28 | 46 => 115 | 51 => 167 | 53 => 155 | 127 => 132 | 131 => 130 | 182 => 160 | 183 => 161 | 218 => 174 | 222 => 177 | 228 => 182 | 229 => 104 | n => n, fun n => n⟩
theorem lays190 : Go.Proofs.Lays.n190 Tryz.prog ren1 := {
  mixed := by kernel_rfl
  f125 := Tryz.func131.trans (congrArg some (by kernel_rfl))
  f128 := Tryz.func149.trans (congrArg some (by kernel_rfl))
  f129 := Tryz.func150.trans (congrArg some (by kernel_rfl))
  f190 := Tryz.func109.trans (congrArg some (by kernel_rfl))
  f258 := Tryz.func130.trans (congrArg some (by kernel_rfl))
  f302 := Tryz.func141.trans (congrArg some (by kernel_rfl))
  f303 := Tryz.func142.trans (congrArg some (by kernel_rfl))
  f304 := Tryz.func143.trans (congrArg some (by kernel_rfl))
  f305 := Tryz.func144.trans (congrArg some (by kernel_rfl))
  f306 := Tryz.func145.trans (congrArg some (by kernel_rfl))
  f307 := Tryz.func146.trans (congrArg some (by kernel_rfl))
  f308 := Tryz.func124.trans (congrArg some (by kernel_rfl))
  f309 := Tryz.func147.trans (congrArg some (by kernel_rfl))
  f310 := Tryz.func148.trans (congrArg some (by kernel_rfl))
  f329 := Tryz.func158.trans (congrArg some (by kernel_rfl))
  f330 := Tryz.func159.trans (congrArg some (by kernel_rfl))
  f333 := Tryz.func157.trans (congrArg some (by kernel_rfl))
  f334 := Tryz.func160.trans (congrArg some (by kernel_rfl))
  f335 := Tryz.func161.trans (congrArg some (by kernel_rfl))
  f336 := Tryz.func137.trans (congrArg some (by kernel_rfl))
  f344 := Tryz.func167.trans (congrArg some (by kernel_rfl))
  t0 := Tryz.underlying0
  a0 := Tryz.isAgg0
  z0 := Tryz.sizeOf0
  v0 := Tryz.zeroValue0
  t3 := Tryz.underlying3
  a3 := Tryz.isAgg3
  z3 := Tryz.sizeOf3
  v3 := Tryz.zeroValue3
  t4 := Tryz.underlying4
  a4 := Tryz.isAgg4
  z4 := Tryz.sizeOf4
  v4 := Tryz.zeroValue4
  t5 := Tryz.underlying5
  a5 := Tryz.isAgg5
  z5 := Tryz.sizeOf5
  v5 := Tryz.zeroValue5
  t9 := Tryz.underlying9
  a9 := Tryz.isAgg9
  z9 := Tryz.sizeOf9
  v9 := Tryz.zeroValue9
  t31 := Tryz.underlying37
  a31 := Tryz.isAgg37
  z31 := Tryz.sizeOf37
  v31 := Tryz.zeroValue37
  t46 := Tryz.underlying115
  a46 := Tryz.isAgg115
  z46 := Tryz.sizeOf115
  v46 := Tryz.zeroValue115
  t51 := Tryz.underlying167
  a51 := Tryz.isAgg167
  z51 := Tryz.sizeOf167
  v51 := Tryz.zeroValue167
  t53 := Tryz.underlying155
  a53 := Tryz.isAgg155
  z53 := Tryz.sizeOf155
  v53 := Tryz.zeroValue155
  t131 := Tryz.underlying130
  a131 := Tryz.isAgg130
  z131 := Tryz.sizeOf130
  v131 := Tryz.zeroValue130
  t182 := Tryz.underlying160
  a182 := Tryz.isAgg160
  z182 := Tryz.sizeOf160
  v182 := Tryz.zeroValue160
  t183 := Tryz.underlying161
  a183 := Tryz.isAgg161
  z183 := Tryz.sizeOf161
  v183 := Tryz.zeroValue161
  t218 := Tryz.underlying174
  a218 := Tryz.isAgg174
  z218 := Tryz.sizeOf174
  v218 := Tryz.zeroValue174
  t222 := Tryz.underlying177
  a222 := Tryz.isAgg177
  z222 := Tryz.sizeOf177
  v222 := Tryz.zeroValue177
  t228 := Tryz.underlying182
  a228 := Tryz.isAgg182
  z228 := Tryz.sizeOf182
  v228 := Tryz.zeroValue182
  t229 := Tryz.underlying104
  a229 := Tryz.isAgg104
  z229 := Tryz.sizeOf104
  v229 := Tryz.zeroValue104 }
theorem lays194 : Go.Proofs.Lays.n194 Tryz.prog ren1 := {
  mixed := by kernel_rfl
  f194 := Tryz.func110.trans (congrArg some (by kernel_rfl))
  t0 := Tryz.underlying0
  a0 := Tryz.isAgg0
  z0 := Tryz.sizeOf0
  v0 := Tryz.zeroValue0
  t3 := Tryz.underlying3
  a3 := Tryz.isAgg3
  z3 := Tryz.sizeOf3
  v3 := Tryz.zeroValue3
  t4 := Tryz.underlying4
  a4 := Tryz.isAgg4
  z4 := Tryz.sizeOf4
  v4 := Tryz.zeroValue4
  t9 := Tryz.underlying9
  a9 := Tryz.isAgg9
  z9 := Tryz.sizeOf9
  v9 := Tryz.zeroValue9
  t31 := Tryz.underlying37
  a31 := Tryz.isAgg37
  z31 := Tryz.sizeOf37
  v31 := Tryz.zeroValue37 }
theorem lays316 : Go.Proofs.LaysM.n316 Tryz.prog ren1 := {
  mixed := by kernel_rfl
  f316 := Tryz.func84.trans (congrArg some (by kernel_rfl))
  t0 := Tryz.underlying0
  a0 := Tryz.isAgg0
  z0 := Tryz.sizeOf0
  v0 := Tryz.zeroValue0
  t3 := Tryz.underlying3
  a3 := Tryz.isAgg3
  z3 := Tryz.sizeOf3
  v3 := Tryz.zeroValue3
  t4 := Tryz.underlying4
  a4 := Tryz.isAgg4
  z4 := Tryz.sizeOf4
  v4 := Tryz.zeroValue4
  t9 := Tryz.underlying9
  a9 := Tryz.isAgg9
  z9 := Tryz.sizeOf9
  v9 := Tryz.zeroValue9
  t37 := Tryz.underlying28
  a37 := Tryz.isAgg28
  z37 := Tryz.sizeOf28
  v37 := Tryz.zeroValue28
  t127 := Tryz.underlying132
  a127 := Tryz.isAgg132
  z127 := Tryz.sizeOf132
  v127 := Tryz.zeroValue132
  t5 := Tryz.underlying5
  a5 := Tryz.isAgg5
  z5 := Tryz.sizeOf5
  v5 := Tryz.zeroValue5
  i0 := by kernel_rfl
  i3 := by kernel_rfl
  i4 := by kernel_rfl
  i5 := by kernel_rfl
  i9 := by kernel_rfl
  i37 := by kernel_rfl
  i127 := by kernel_rfl }
end Go.Proofs.YtmffpbhiehjlpaaGreat
namespace Go.Proofs.YtmffpbhiehjlpaaGreat
set_option linter.unusedSimpArgs false
set_option linter.unusedVariables false
open Go.RowKit Go.Sort Go.Shelf
theorem sv_enc (zs : List (List UInt8)) : sv (strsL zs) = zs.map encStr := by
  unfold sv strsL
  rw [List.map_map]
  rfl
theorem sort_own {w : World} {base : Nat} {v : Value} (zs : List (List UInt8)) (h : w.ownsRow base 9 1 v zs.length (sv (strsL zs))) (hn : zs.length < 4611686018427387904) :
    Calls Tryz.prog 109 #[v] w fun r w' => r = .returned (.tuple #[]) ∧ w'.ownsRow base 9 1 v zs.length (sv (strsL (zs.mergeSort fun x y => decide (x ≤ y)))) ∧ w.grownBy w' v.ownBlock := by
  rw [sv_enc] at h
  rw [sv_enc]
  rcases h.2 with ⟨rfl, h0⟩ | ⟨g, cap, cur, rfl, hbase, hb, h1, h2, h3, h4⟩
  · have hz : zs = [] := List.eq_nil_of_length_eq_zero h0
    subst hz
    refine (Any.slices_Sort_string_none lays190 none 0 w).mono ?_
    rintro r w' ⟨rfl, rfl⟩
    exact ⟨rfl, by simpa using h, gb_refl _ _⟩
  · refine (Any.slices_Sort_string lays190 g 0 cap zs w (holds_of_block hb (by simpa using h4)) (Array.getElem?_eq_some_iff.1 hb).1 hn).mono ?_
    rintro r w' ⟨rfl, n, os, rfl⟩
    exact ⟨rfl, ownsRow_sorted (List.length_mergeSort zs) hbase hb h1 h2 h3, grownBy_sorted _⟩
theorem compact_own {w : World} {base : Nat} {A : Option Addr} {c : Nat} (zs : List (List UInt8)) (h : w.ownsRow base 9 1 (.slice A zs.length c) zs.length (sv (strsL zs))) (hn : zs.length < 4611686018427387904) :
    Calls Tryz.prog 110 #[.slice A zs.length c] w fun r w' => r = .returned (.slice A (Lib.compact zs).length c) ∧ w'.ownsRow base 9 1 (.slice A (Lib.compact zs).length c) (Lib.compact zs).length (sv (strsL (Lib.compact zs))) ∧ w.grownBy w' (Value.slice A zs.length c).ownBlock := by
  rw [sv_enc] at h
  rw [sv_enc]
  rcases h.2 with ⟨he, h0⟩ | ⟨g, cap, cur, he, hbase, hb, h1, h2, h3, h4⟩
  · have hz : zs = [] := List.eq_nil_of_length_eq_zero h0
    subst hz
    refine (Any.slices_Compact_string_empty lays194 A c w).mono ?_
    rintro r w' ⟨rfl, rfl⟩
    exact ⟨rfl, h, gb_refl _ _⟩
  · injection he with he1 _ he3
    subst he1 he3
    refine (Any.slices_Compact_string lays194 g 0 c zs w (holds_of_block hb (by simpa using h4)) (by omega) h1).mono ?_
    rintro r w' ⟨rfl, q, rfl⟩
    have hle := Lib.compact_length_le zs
    have hc := Lib.ownsRow_putRow (q := q) (k := (Lib.compact zs).length) (ys := Lib.compact zs ++ List.replicate (zs.length - (Lib.compact zs).length) []) h (by simp; omega) (by omega)
    rw [List.take_left] at hc
    refine ⟨rfl, hc, ?_⟩
    have := grownBy_sorted (w := w) (g := g) (n := q) (os := #[]) (Lib.compact zs ++ List.replicate (zs.length - (Lib.compact zs).length) []).toArray
    rw [grow_empty] at this
    exact this
theorem sclone_any {w : World} (s : ByteArray) (hs : s.size ≤ 281474976710656) :
    Calls Tryz.prog 59 #[.string s] w fun e w' => e = .returned (.string s) ∧ Below w.heap.size w w' := by
  have h := fun w => Any.stringslite_Clone lays316 s w hs
  have H := Lib.hid h
  clear h
  go_enter Tryz.func59, Tryz.ntmps59
  go_wp2_with fail
  refine (H.out _).mono ?_
  rintro r w1 ⟨rfl, hb⟩
  go_wp2
  go_ret
  exact ⟨rfl, hb⟩
end Go.Proofs.YtmffpbhiehjlpaaGreat
namespace Go.Proofs.YtmffpbhiehjlpaaGreat
set_option linter.unusedSimpArgs false
set_option linter.unusedVariables false
open Go.RowKit
theorem dist_any (z : Int) (w : World) (h1 : -9223372036854775808 ≤ z) (h2 : z ≤ 9223372036854775807) :
    Calls Tryz.prog 127 #[.int .i64 z] w fun e w' => e = .returned (.int .u64 (z.natAbs : Int)) ∧ w = w' := by
  by_cases hz : z < 0
  · have e1 : IntKind.u64.wrap (-IntKind.u64.wrap z) = (z.natAbs : Int) := by rw [IntKind.wrap_u64, IntKind.wrap_u64]; omega
    have E1 := Lib.hid e1
    clear e1
    go_enter Tryz.func127, Tryz.ntmps127
    go_wp2
    go_ret
    exact ⟨ret_int' E1.out, rfl⟩
  · have e1 : z = (z.natAbs : Int) := by omega
    have E1 := Lib.hid e1
    clear e1
    go_enter Tryz.func127, Tryz.ntmps127
    go_wp2
    go_ret
    exact ⟨ret_int' E1.out, rfl⟩
set_option maxRecDepth 20000 in
set_option maxHeartbeats 2000000 in
theorem tsample_any {w : World} (l : List ByteArray) (ds : List Int) {c d : Nat} {A B : Option Addr} (h : Rd w 0 w.heap.size A c (sv l)) (hd : Rd w 0 w.heap.size B d (iv ds)) (hln : l.length ≤ 1000000) (hdn : ds.length ≤ 1000000) (hsz : ∀ s ∈ l, s.size ≤ 281474976710656)
    (hdw : ∀ z ∈ ds, -9223372036854775808 ≤ z ∧ z ≤ 9223372036854775807) :
    Calls Tryz.prog 105 #[.slice A l.length c, .slice B ds.length d] w fun r w' => ∃ A' c', r = .returned (.slice A' (sampleL l ds).length c') ∧
      w'.ownsRow w.heap.size 9 1 (.slice A' (sampleL l ds).length c') (sampleL l ds).length (sv (sampleL l ds)) ∧ Below w.heap.size w w' := by
  have hl := h.len
  have hc := h.cap
  have hl2 := hd.len
  have hc2 := hd.cap
  rw [sv_length] at hl
  rw [iv_length] at hl2
  unfold maxLen at hc hc2
  have H := Lib.hid h
  have HD := Lib.hid hd
  have HZ : Hid (∀ k (hk : k < l.length), l[k].size ≤ 281474976710656) := fun k hk => hsz _ (List.getElem_mem hk)
  have HW : Hid (∀ k (hk : k < ds.length), -9223372036854775808 ≤ ds[k] ∧ ds[k] ≤ 9223372036854775807) := fun k hk => hdw _ (List.getElem_mem hk)
  clear h hd hsz hdw
  by_cases h0 : l = []
  · have hl0 : l.length = 0 := by rw [h0]; rfl
    have HS : Hid (sampleL l ds = []) := if_pos h0
    have i0 : (l.length : Int) = 0 := by omega
    have HI := Lib.hid i0
    have d0 : decide ((l.length : Int) = 0) = true := decide_eq_true i0
    clear h0 i0
    go_enter Tryz.func105, Tryz.ntmps105
    go_wp2_with fail
    go_ret
    exact ⟨none, 0, by rw [HS.out]; rfl, by rw [HS.out]; exact World.ownsRow_nil _ _ _ _, Below.refl _ _⟩
  · have hln0 : l.length ≠ 0 := fun e => h0 (List.eq_nil_of_length_eq_zero e)
    have i0 : ¬ (l.length : Int) = 0 := by omega
    have d0 : ((l.length : Int) == 0) = false := beq_eq_false_iff_ne.2 i0
    have HLN := Lib.hid (sample_length h0 ds)
    have HGET : Hid (∀ k (hk : k < ds.length), (sampleL l ds)[k]'(by rw [HLN.out]; exact hk) = l.getD (ds[k].natAbs % l.length) ⟨#[]⟩) := fun k hk => by simp [sampleL, if_neg h0]
    clear h0
    go_enter Tryz.func105, Tryz.ntmps105
    go_wp2_with fail
    go_loopw [5, 14] (fun x5 x6 wr => ∃ (k : Nat) (A' : Option Addr) (c' : Nat), k ≤ ds.length ∧ x6 = .int .i64 (k : Int) ∧ x5 = .slice A' k c' ∧ wr.ownsRow w.heap.size 9 1 (.slice A' k c') k (sv ((sampleL l ds).take k)) ∧ Below w.heap.size w wr) (fun _ i _ => ds.length - (intOf i).toNat)
    case atStart => exact ⟨0, none, 0, Nat.zero_le _, rfl, rfl, World.ownsRow_nil _ _ _ _, Below.refl _ _⟩
    case round =>
      obtain ⟨k, A', c', hk, rfl, rfl, hown, hb⟩ := hrel
      have HO := Lib.hid hown
      have HB := Lib.hid hb
      have hsz := hb.size
      clear hown hb
      by_cases hlt : k < ds.length
      · obtain ⟨b1, off1, rfl, -, -, hc1⟩ := (HD.out.below HB.out (Nat.le_refl _)).num hlt
        have hq : ds[k].natAbs % l.length < l.length := Nat.mod_lt _ (by omega)
        obtain ⟨b2, off2, rfl, -, -, hc3⟩ := (H.out.below HB.out (Nat.le_refl _)).str hq
        have hz2 := HZ.out _ hq
        have HKL : Hid (((sampleL l ds).take k).length = k) := by unfold Hid; rw [List.length_take, HLN.out]; omega
        have HTK : Hid ((sampleL l ds).take (k + 1) = (sampleL l ds).take k ++ [l[ds[k].natAbs % l.length]]) := by
          unfold Hid
          rw [List.take_succ_eq_append_getElem (by rw [HLN.out]; exact hlt), HGET.out k hlt, getD_atS hq]
        have hw := HW.out k hlt
        have hmod : ((ds[k].natAbs : Nat) : Int) % (l.length : Int) = ((ds[k].natAbs % l.length : Nat) : Int) := by push_cast; rfl
        have hab : ((ds[k].natAbs : Nat) : Int) ≤ 9223372036854775808 := by omega
        have HDI := Lib.hid (fun w => dist_any ds[k] w hw.1 hw.2)
        generalize ds[k].natAbs = a at *
        generalize ds[k] = z at *
        have hlu : IntKind.u64.wrap (l.length : Int) = (l.length : Int) := by rw [IntKind.wrap_u64]; omega
        have HSC := Lib.hid (fun w2 => sclone_any (w := w2) l[a % l.length] hz2)
        generalize l[a % l.length] = s at *
        generalize a % l.length = q at *
        clear hw
        go_wp2_with fail
        refine (HDI.out _).mono ?_
        rintro r w2 ⟨rfl, rfl⟩
        go_wp2_with fail
        refine (HSC.out _).mono ?_
        rintro r w2 ⟨rfl, hb2⟩
        have HO2 := Lib.hid (own_below HO.out hb2 (Nat.le_refl _))
        have HB2 := Lib.hid (below_below HB.out hb2 hsz)
        have hz3 := HB2.out.size
        clear hb2
        go_wp2_with (at_builtin; refine wpList_push_str (v := .slice A' k c') w.heap.size ((sampleL l ds).take k) s rfl _ _ rfl rfl rfl rfl (by rw [World.cell?_alloc_at _ _ _ _ rfl]; rfl) (by rw [HKL.out]; exact HO2.out.alloc _) (by rw [HKL.out]; omega) (by simp; omega) ?_; intro A2 c2 w3 ho3 hg3)
        go_roundw
        case rel =>
          have hl3 : ((sampleL l ds).take k ++ [s]).length = k + 1 := by rw [List.length_append, HKL.out]; rfl
          refine ⟨k + 1, A2, c2, by omega, by go_num, by rw [show min k (sampleL l ds).length = k by rw [HLN.out]; omega], ?_, (HB2.out.alloc hz3 _).grown hg3 (by simp; omega) (fun q hq => (own_lt HO2.out hq).1)⟩
          rw [hl3] at ho3
          rw [HTK.out]
          exact ho3
        case measure => simp [intOf] <;> omega
      · have hke : k = (sampleL l ds).length := by rw [HLN.out]; omega
        have HKE := Lib.hid hke
        have HT : Hid ((sampleL l ds).take k = sampleL l ds) := List.take_of_length_le (by omega)
        clear hke
        go_wp2_with fail
        go_ret
        exact ⟨A', c', by rw [← HKE.out]; rfl, by rw [← HKE.out]; have := HO.out; rw [HT.out] at this; exact this, HB.out⟩
end Go.Proofs.YtmffpbhiehjlpaaGreat
