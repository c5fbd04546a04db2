/-
  The laws of layer 14: the dictionary that they make of whatever strings. (Printed by wip/tools/genfs.py.)
-/
import Derived.Test.YtihlbcnoficpgaaFtL
import Derived.Test.YtihlbcnoficpgaaSkM
import Derived.OwnWalk
namespace Go.Proofs.Ytihlbcnoficpgaa
set_option linter.unusedSimpArgs false
set_option linter.unusedVariables false
open Go.RowKit

theorem total_few {t : List ByteArray} {m : Nat} (h : ∀ s ∈ t, s.size ≤ m) : total t ≤ m * t.length := by
  induction t with
  | nil => simp [total]
  | cons s t ih =>
    have h1 := h s List.mem_cons_self
    have h2 := ih fun x hx => h x (List.mem_cons_of_mem _ hx)
    rw [total, List.length_cons, Nat.mul_add]
    omega
/-- what dict answers where there is one -/
structure Dic14 (l t : List ByteArray) (w : World) (d : Nat) (A : Option Addr) (c : Nat) : Prop where
  few : FewD l
  sort : SortOf (bytL2 l) (bytL2 t)
  dic : dicL (bytL2 t) = true
  len : t.length ≤ 150
  le : t.length ≤ l.length
  size : ∀ s ∈ t, s.size ≤ 4096
  dc : Dc w d t
  rd : Rd w 0 w.heap.size A c (sv t)
/-- a dictionary in memory: rising strings, not too long, not too many -/
structure Dk (w : World) (d : Nat) (t : List ByteArray) : Prop where
  dc : Dc w d t
  rises : risesL (bytL2 t) = true
  len : t.length ≤ 4096
  size : ∀ s ∈ t, s.size ≤ 4096
theorem Dic14.dk {l t : List ByteArray} {w : World} {d c : Nat} {A : Option Addr} (h : Dic14 l t w d A c) : Dk w d t := ⟨h.dc, (dicL_iff.1 h.dic).2.2, by have := h.len; omega, h.size⟩
def isN (t : List (List UInt8)) (s : List UInt8) : Bool := decide (lowN t s < upN t s)
def codeN (t : List (List UInt8)) (s : List UInt8) : Nat := if lowN t s < upN t s then lowN t s else 0
def mapN (t : List (List UInt8)) (s : List UInt8) : Int := if lowN t s < upN t s then (lowN t s : Int) else -1
theorem Dic14.below {l t : List ByteArray} {w w' : World} {d c : Nat} {A : Option Addr} (h : Dic14 l t w d A c) (hb : Below w.heap.size w w') : Dic14 l t w' d A c :=
  ⟨h.few, h.sort, h.dic, h.len, h.le, h.size, h.dc.below hb (Nat.le_refl _), (h.rd.below hb (Nat.le_refl _)).wide (Nat.le_refl _) hb.size⟩
theorem Dic14.drewN {l t : List ByteArray} {w : World} {d c : Nat} {A : Option Addr} (h : Dic14 l t w d A c) (m : Nat) : Dic14 l t (w.drewN m) d A c :=
  ⟨h.few, h.sort, h.dic, h.len, h.le, h.size, h.dc.drewN m, h.rd.drewN m⟩
set_option maxRecDepth 20000 in
set_option maxHeartbeats 4000000 in
theorem dict_any {w : World} (l : List ByteArray) {lo c : Nat} {A : Option Addr} (h : Rd w lo w.heap.size A c (sv l)) :
    Calls Try.prog 8 #[.slice A l.length c] w fun r w' => Below w.heap.size w w' ∧
      ((r = .returned (.tuple #[.pointer none, .slice none 0 0, .bool false]) ∧ (FewD l → ∀ t : List ByteArray, SortOf (bytL2 l) (bytL2 t) → dicL (bytL2 t) = false)) ∨
       (∃ d t A' c', r = .returned (.tuple #[.pointer (some ⟨d, 0, none⟩), .slice A' t.length c', .bool true]) ∧ Dic14 l t w' d A' c')) := by
  have Hl_w := Lib.hid (h.wide (Nat.zero_le _) (Nat.le_refl _))
  have hl := h.len
  have hm := h.cap
  rw [sv_length] at hl
  unfold maxLen at hm
  clear h
  by_cases hf : FewD l
  · obtain ⟨hl150, hs5⟩ := few_facts hf
    have HFW : Hid (decide (FewD l) = true) := decide_eq_true hf
    have HS5 := Lib.hid hs5
    have HF := Lib.hid hf
    clear hf hs5
    go_enter Try.func8, Try.ntmps8
    go_wp2_with fail
    refine (fewd_is l true Hl_w.out HFW.out).mono ?_
    rintro r wq ⟨rfl, rfl⟩
    go_wp2_with fail
    refine (refSorted_any l Hl_w.out (fun s hs => by have := HS5.out s hs; omega) (by omega)).mono ?_
    rintro r w2 ⟨t, A_w2, c_w2, rfl, hso, htl, ho_w2, b_w2⟩
    have Hl_w2 := Lib.hid ((Hl_w.out.below b_w2 (Nat.le_refl _)).wide (Nat.zero_le _) b_w2.size)
    have HB_w2 := Lib.hid b_w2
    have S_w2 := HB_w2.out.size
    have Ht_w2 := Lib.hid ((Rd.of_own ho_w2).wide (Nat.zero_le _) (Nat.le_refl _))
    clear b_w2 Hl_w ho_w2  
    have ht5 := sort_sizes hso HS5.out
    have HT5 := Lib.hid ht5
    have HSO := Lib.hid hso
    have ht150 : t.length ≤ 150 := by omega
    have htl2 : t.length ≤ l.length := htl
    obtain ⟨dv, hdv⟩ : ∃ v, dicL (bytL2 t) = v := ⟨_, rfl⟩
    have HDV := Lib.hid hdv
    clear hdv ht5 hso htl
    cases dv with
    | true =>
      have hrt : rightD (bytL2 t) 4 = true := rightD_iff.2 ⟨by omega, HDV.out⟩
      have HRT := Lib.hid hrt
      obtain ⟨F, hF⟩ : ∃ F, frontL 4 (bytL2 t) = F := ⟨_, rfl⟩
      have HF2 := Lib.hid hF
      have hFl : F.length ≤ 10000000 := by
        have h1 := front_len (K := 4) (by omega) HDV.out
        rw [hF, sum_total, bytL2_length] at h1
        have h2 : total t ≤ 5000 * t.length := total_few HT5.out
        have h3 := Nat.mul_le_mul_left 5000 ht150
        omega
      have HO : Hid (openR F 0 0 = (bytL2 t, F.length, 0)) := by
        have h1 := openR_there (bs := F) (rest := []) (k := 0) (K := 4) (l := bytL2 t) (Nat.zero_le _) (by decide) (by decide) HDV.out (by rw [hF]; simp)
        rw [hF, Nat.zero_add] at h1
        exact h1
      clear hrt hF
      go_wp2_with fail
      refine (rightd_is t 4 true Ht_w2.out (fun s hs => by have := HT5.out s hs; omega) HRT.out rfl).mono ?_
      rintro r w3 ⟨rfl, m_w3, rfl⟩
      obtain ⟨w3, hw_w3⟩ : ∃ q, w2.drewN m_w3 = q := ⟨_, rfl⟩
      have Hl_w3 : Hid (Rd w3 0 w3.heap.size A c (sv l)) := by unfold Hid; rw [← hw_w3]; exact Hl_w2.out.drewN m_w3
      have Ht_w3 : Hid (Rd w3 0 w3.heap.size A_w2 c_w2 (sv t)) := by unfold Hid; rw [← hw_w3]; exact Ht_w2.out.drewN m_w3
      have HB_w3 : Hid (Below w.heap.size w w3) := by unfold Hid; rw [← hw_w3]; exact below_drewN' HB_w2.out m_w3
      have S_w3 := HB_w3.out.size
      rw [hw_w3]
      clear hw_w3 Hl_w2 Ht_w2 HB_w2
      go_wp2_with fail
      refine (refbuild_is t 4 4 F Ht_w3.out HRT.out rfl HF2.out rfl).mono ?_
      rintro r w4 ⟨A_w4, c_w4, rfl, ho_w4, b_w4⟩
      have Hl_w4 := Lib.hid ((Hl_w3.out.below b_w4 (Nat.le_refl _)).wide (Nat.zero_le _) b_w4.size)
      have Ht_w4 := Lib.hid ((Ht_w3.out.below b_w4 (Nat.le_refl _)).wide (Nat.zero_le _) b_w4.size)
      have HB_w4 := Lib.hid (below_below HB_w3.out b_w4 S_w3)
      have S_w4 := HB_w4.out.size
      have Hb_w4 := Lib.hid ((Rd.of_own ho_w4).wide (Nat.zero_le _) (Nat.le_refl _))
      clear b_w4 Hl_w3 Ht_w3 HB_w3 ho_w4  
      go_wp2_with fail
      refine (fnew_is F Hb_w4.out (by omega) rfl).mono ?_
      rintro r wn ⟨g, rfl, hcn, hbn⟩
      have HCN := Lib.hid hcn
      have HBN := Lib.hid hbn
      clear hcn hbn
      go_wp2_with fail
      refine (fopen_is (wo := w4) HCN.out (by omega) HBN.out (bytL2 t) F.length 0 HO.out).mono ?_
      rintro r w5 ⟨d, rfl, hdc, hcu, b_w5⟩
      clear HCN HBN
      rw [strsL_bytL2'] at hdc
      have Hl_w5 := Lib.hid ((Hl_w4.out.below b_w5 (Nat.le_refl _)).wide (Nat.zero_le _) b_w5.size)
      have Ht_w5 := Lib.hid ((Ht_w4.out.below b_w5 (Nat.le_refl _)).wide (Nat.zero_le _) b_w5.size)
      have Hb_w5 := Lib.hid ((Hb_w4.out.below b_w5 (Nat.le_refl _)).wide (Nat.zero_le _) b_w5.size)
      have HB_w5 := Lib.hid (below_below HB_w4.out b_w5 S_w4)
      have S_w5 := HB_w5.out.size
      clear b_w5 Hl_w4 Ht_w4 Hb_w4 HB_w4  
      have HCc_w5 := Lib.hid hcu
      have HDd_w5 := Lib.hid hdc
      clear hcu hdc
      go_wp2_with fail
      refine (flen_is HDd_w5.out rfl).mono ?_
      rintro r wq ⟨rfl, rfl⟩
      go_wp2_with fail
      go_ret3
      exact ⟨HB_w5.out, .inr ⟨d, t, A_w2, c_w2, rfl, HF.out, HSO.out, HDV.out, ht150, htl2, fun s hs => by
        have h1 := (dicL_iff.1 HDV.out).2.1 _ (List.mem_map_of_mem hs)
        rw [lenD] at h1
        exact h1, HDd_w5.out, Ht_w5.out⟩⟩
    | false =>
      have hrt : rightD (bytL2 t) 4 = false := by unfold rightD; rw [HDV.out, Bool.and_false]
      have HRT := Lib.hid hrt
      clear hrt
      go_wp2_with fail
      refine (rightd_is t 4 false Ht_w2.out (fun s hs => by have := HT5.out s hs; omega) HRT.out rfl).mono ?_
      rintro r w3 ⟨rfl, m_w3, rfl⟩
      obtain ⟨w3, hw_w3⟩ : ∃ q, w2.drewN m_w3 = q := ⟨_, rfl⟩
      have Hl_w3 : Hid (Rd w3 0 w3.heap.size A c (sv l)) := by unfold Hid; rw [← hw_w3]; exact Hl_w2.out.drewN m_w3
      have Ht_w3 : Hid (Rd w3 0 w3.heap.size A_w2 c_w2 (sv t)) := by unfold Hid; rw [← hw_w3]; exact Ht_w2.out.drewN m_w3
      have HB_w3 : Hid (Below w.heap.size w w3) := by unfold Hid; rw [← hw_w3]; exact below_drewN' HB_w2.out m_w3
      have S_w3 := HB_w3.out.size
      rw [hw_w3]
      clear hw_w3 Hl_w2 Ht_w2 HB_w2
      go_wp2_with fail
      go_ret3
      exact ⟨HB_w3.out, .inl ⟨rfl, fun _ u hu => by rw [← HSO.out.one hu]; exact HDV.out⟩⟩
  · have HNF : Hid (decide (FewD l) = false) := decide_eq_false hf
    have HF := Lib.hid hf
    clear hf
    go_enter Try.func8, Try.ntmps8
    go_wp2_with fail
    refine (fewd_is l false Hl_w.out HNF.out).mono ?_
    rintro r wq ⟨rfl, rfl⟩
    go_wp2_with fail
    go_ret3
    exact ⟨Below.refl _ _, .inl ⟨rfl, fun hf => absurd hf HF.out⟩⟩
end Go.Proofs.Ytihlbcnoficpgaa
