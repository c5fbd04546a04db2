/-
  Proved: FsstBack of layer 11: of whatever few strings' table, what is encoded is decoded as it was, in at most twice as many bytes, with less room not; strings are alike just if they are encoded alike; what came in reads as it did. Conditions: none of our own.
-/
import Derived.Test.YtniehbghgialjaaLawF
import Derived.Test.YtniehbghgialjaaShellT
import Derived.Test.YtniehbghgialjaaShell
namespace Go.Proofs.Ytniehbghgialjaa
set_option linter.unusedSimpArgs false
set_option linter.unusedVariables false
open Go.ChangeShapes Go.WideShapes Go.ChangeAt Go.RowKit
open Go.ChangeMaps (open_string shut_string)

set_option maxRecDepth 20000 in
set_option maxHeartbeats 4000000 in
theorem fsstBack_walk {w : World} {A : Option Addr} {l : List ByteArray} {c : Nat} (h : Rd w 0 w.heap.size A c (sv l) ∧ ∀ s ∈ l, s.size ≤ maxLen) (a : ByteArray) (ha : a.size ≤ 9223372036854775807) (b : ByteArray) (hb : b.size ≤ 9223372036854775807) :
    Calls Try.prog 5 #[.slice A l.length c, .string a, .string b] w fun e w' => e = .returned (.bool true) ∧ Below w.heap.size w w' := by
  obtain ⟨h, -⟩ := h
  have Hl_w := Lib.hid h
  have hl := h.len
  have hm := h.cap
  rw [sv_length] at hl
  unfold maxLen at hm
  clear h
  by_cases hf : FewS l
  · obtain ⟨-, -⟩ := And.intro hl hm
    obtain ⟨hl3, hl1, hl2, hz1, hz2⟩ := few_sizes hf
    have HFW : Hid (decide (FewS l) = true) := decide_eq_true hf
    have HZ1 := Lib.hid hz1
    clear hz1 hz2 hf
    by_cases hs1 : a.size ≤ 1000
    · have i10 : ¬ (1000 : Int) < (a.size : Int) := by omega
      by_cases hs2 : b.size ≤ 1000
      · have i11 : ¬ (1000 : Int) < (b.size : Int) := by omega
        obtain ⟨t, ht⟩ : ∃ t, ordL (bytL2 l) = t := ⟨_, rfl⟩
        obtain ⟨hr, htl, ht5, ht8, hto⟩ := ord_facts l ht
        have htq : (strsL t).length ≤ 255 := by rw [htl]; exact ht5
        obtain ⟨T, hT⟩ : ∃ T, bytL2 (strsL t) = T := ⟨_, rfl⟩
        have hTl : T.length ≤ 255 := by rw [← hT, bytL2_length]; exact htq
        have HTT := Lib.hid hT
        have HT := Lib.hid ht
        have HR := Lib.hid hr
        have HTL := Lib.hid htl
        have HT8 := Lib.hid ht8
        have HTQ := Lib.hid htq
        clear ht hr htl ht8 hto hT htq
        have hTs := hTl
        obtain ⟨X, hX⟩ : ∃ E, encL T a.data.toList = E := ⟨_, rfl⟩
        obtain ⟨Y, hY⟩ : ∃ E, encL T b.data.toList = E := ⟨_, rfl⟩
        have hxl : X.length ≤ 2 * a.size := by rw [← hX, ← lenS a]; exact enc_len T _
        have hyl : Y.length ≤ 2 * b.size := by rw [← hY, ← lenS b]; exact enc_len T _
        obtain ⟨k1, hk1⟩ := dec_enc hTs a.data.toList
        rw [hX] at hk1
        rw [lenS] at hk1
        have hd : decL T (a.size : Int) X [] 0 = (a.data.toList, 0, k1) := by
          have q1 := hk1 a.size [] [] 0 (by simp)
          rw [List.append_nil, dec_nil] at q1
          rw [q1, List.nil_append, Nat.zero_add]
        have hs : 0 < a.size → ∃ k, decL T ((a.size : Int) - 1) X [] 0 = ((⟨#[]⟩ : ByteArray).data.toList, 6, k) := fun hp => by
          obtain ⟨k, q⟩ := dec_short hTs a.data.toList ((a.size : Int) - 1) [] [] 0 (by simp; omega) (by simp [lenS]; omega)
          rw [hX, List.append_nil] at q
          exact ⟨k, q⟩
        obtain ⟨f, hf2⟩ : ∃ f, decide (X = Y) = f := ⟨_, rfl⟩
        have hab : (a.toList == b.toList) = f := by
          rw [← hf2, eqS2]
          exact decide_eq_decide.2 ⟨fun e => by rw [← hX, ← hY, e], fun e => by rw [← str_etaS a, ← str_etaS b, enc_inj hTs (hX.trans (e.trans hY.symm))]⟩
        have HX := Lib.hid hX
        have HY := Lib.hid hY
        have HD := Lib.hid hd
        have HS := Lib.hid hs
        have HF2 := Lib.hid hf2
        clear hX hY hk1 hd hs hf2
        have i12 : ¬ 2 * (a.size : Int) < (X.length : Int) := by omega
        cases f with
        | true =>
          have hab2 : a.toList = b.toList := by simpa using hab
          rcases Nat.eq_zero_or_pos a.size with hz | hz
          · have iz : (a.size : Int) = 0 := by omega
            have HZ0 := Lib.hid iz
            have id : (a.size : Int) ≤ 0 := by omega
            clear iz hz
            go_enter Try.func5, Try.ntmps5
            go_wp2_with fail
            refine (awake11_any (w := _)).mono ?_
            rintro r w1 ⟨rfl, b_w1⟩
            have Hl_w1 := Lib.hid ((Hl_w.out.below b_w1 (Nat.le_refl _)).wide (Nat.zero_le _) b_w1.size)
            have HB_w1 := Lib.hid b_w1
            have S_w1 := HB_w1.out.size
            clear b_w1 Hl_w 
            go_wp2_with fail
            refine (few_is l true Hl_w1.out HFW.out).mono ?_
            rintro r w2 ⟨rfl, rfl⟩
            go_wp2_with fail
            refine (reforder_is l t Hl_w1.out HZ1.out hl1 HT.out rfl).mono ?_
            rintro r w2 ⟨A2, c2, rfl, ho_w2, b_w2⟩
            have Hl_w2 := Lib.hid ((Hl_w1.out.below b_w2 (Nat.le_refl _)).wide (Nat.zero_le _) b_w2.size)
            have HB_w2 := Lib.hid (below_below HB_w1.out b_w2 S_w1)
            have S_w2 := HB_w2.out.size
            have Ht_w2 := Lib.hid ((Rd.of_own ho_w2).wide (Nat.zero_le _) (Nat.le_refl _))
            clear b_w2 Hl_w1 HB_w1 ho_w2 
            go_wp2_with fail
            refine (fenc_is (strsL t) a X Ht_w2.out HR.out (by omega) (by rw [HTT.out]; exact HX.out) HTL.out).mono ?_
            rintro r w3 ⟨A_w3, c_w3, rfl, ho_w3, b_w3⟩
            have Hl_w3 := Lib.hid ((Hl_w2.out.below b_w3 (Nat.le_refl _)).wide (Nat.zero_le _) b_w3.size)
            have Ht_w3 := Lib.hid ((Ht_w2.out.below b_w3 (Nat.le_refl _)).wide (Nat.zero_le _) b_w3.size)
            have HB_w3 := Lib.hid (below_below HB_w2.out b_w3 S_w2)
            have S_w3 := HB_w3.out.size
            have Hx_w3 := Lib.hid ((Rd.of_own ho_w3).wide (Nat.zero_le _) (Nat.le_refl _))
            clear b_w3 Hl_w2 Ht_w2 HB_w2 ho_w3 
            go_wp2_with fail
            refine (fenc_is (strsL t) b Y Ht_w3.out HR.out (by omega) (by rw [HTT.out]; exact HY.out) HTL.out).mono ?_
            rintro r w4 ⟨A_w4, c_w4, rfl, ho_w4, b_w4⟩
            have Hl_w4 := Lib.hid ((Hl_w3.out.below b_w4 (Nat.le_refl _)).wide (Nat.zero_le _) b_w4.size)
            have Ht_w4 := Lib.hid ((Ht_w3.out.below b_w4 (Nat.le_refl _)).wide (Nat.zero_le _) b_w4.size)
            have Hx_w4 := Lib.hid ((Hx_w3.out.below b_w4 (Nat.le_refl _)).wide (Nat.zero_le _) b_w4.size)
            have HB_w4 := Lib.hid (below_below HB_w3.out b_w4 S_w3)
            have S_w4 := HB_w4.out.size
            have Hy_w4 := Lib.hid ((Rd.of_own ho_w4).wide (Nat.zero_le _) (Nat.le_refl _))
            clear b_w4 Hl_w3 Ht_w3 Hx_w3 HB_w3 ho_w4 
            go_wp2_with fail
            refine (fdec_is (strsL t) X (a.size : Int) a 0 k1 Ht_w4.out Hx_w4.out HT8.out HTQ.out (by omega) (by omega) (by omega) (by rw [HTT.out]; exact HD.out) HTL.out rfl).mono ?_
            rintro r w5 ⟨rfl, b_w5⟩
            have Hl_w5 := Lib.hid ((Hl_w4.out.below b_w5 (Nat.le_refl _)).wide (Nat.zero_le _) b_w5.size)
            have Ht_w5 := Lib.hid ((Ht_w4.out.below b_w5 (Nat.le_refl _)).wide (Nat.zero_le _) b_w5.size)
            have Hx_w5 := Lib.hid ((Hx_w4.out.below b_w5 (Nat.le_refl _)).wide (Nat.zero_le _) b_w5.size)
            have Hy_w5 := Lib.hid ((Hy_w4.out.below b_w5 (Nat.le_refl _)).wide (Nat.zero_le _) b_w5.size)
            have HB_w5 := Lib.hid (below_below HB_w4.out b_w5 S_w4)
            have S_w5 := HB_w5.out.size
            clear b_w5 Hl_w4 Ht_w4 Hx_w4 Hy_w4 HB_w4 
            go_wp2_with fail
            refine (same_len X Y true Hx_w5.out Hy_w5.out rfl rfl HF2.out).mono ?_
            rintro r w6 ⟨rfl, rfl⟩
            go_wp2_with fail
            refine (fdecode_less ((a.size : Int) - 1) (by omega)).mono ?_
            rintro r w7 ⟨rfl, b_w7⟩
            have Hl_w7 := Lib.hid ((Hl_w5.out.below b_w7 (Nat.le_refl _)).wide (Nat.zero_le _) b_w7.size)
            have Ht_w7 := Lib.hid ((Ht_w5.out.below b_w7 (Nat.le_refl _)).wide (Nat.zero_le _) b_w7.size)
            have Hx_w7 := Lib.hid ((Hx_w5.out.below b_w7 (Nat.le_refl _)).wide (Nat.zero_le _) b_w7.size)
            have Hy_w7 := Lib.hid ((Hy_w5.out.below b_w7 (Nat.le_refl _)).wide (Nat.zero_le _) b_w7.size)
            have HB_w7 := Lib.hid (below_below HB_w5.out b_w7 S_w5)
            have S_w7 := HB_w7.out.size
            clear b_w7 Hl_w5 Ht_w5 Hx_w5 Hy_w5 HB_w5 
            go_wp2_with fail
            all_goals (go_ret; exact ⟨rfl, HB_w7.out⟩)
          · have iz : ¬ (a.size : Int) = 0 := by omega
            obtain ⟨k3, hs3⟩ := HS.out hz
            have HS3 := Lib.hid hs3
            clear hs3
            go_enter Try.func5, Try.ntmps5
            go_wp2_with fail
            refine (awake11_any (w := _)).mono ?_
            rintro r w1 ⟨rfl, b_w1⟩
            have Hl_w1 := Lib.hid ((Hl_w.out.below b_w1 (Nat.le_refl _)).wide (Nat.zero_le _) b_w1.size)
            have HB_w1 := Lib.hid b_w1
            have S_w1 := HB_w1.out.size
            clear b_w1 Hl_w 
            go_wp2_with fail
            refine (few_is l true Hl_w1.out HFW.out).mono ?_
            rintro r w2 ⟨rfl, rfl⟩
            go_wp2_with fail
            refine (reforder_is l t Hl_w1.out HZ1.out hl1 HT.out rfl).mono ?_
            rintro r w2 ⟨A2, c2, rfl, ho_w2, b_w2⟩
            have Hl_w2 := Lib.hid ((Hl_w1.out.below b_w2 (Nat.le_refl _)).wide (Nat.zero_le _) b_w2.size)
            have HB_w2 := Lib.hid (below_below HB_w1.out b_w2 S_w1)
            have S_w2 := HB_w2.out.size
            have Ht_w2 := Lib.hid ((Rd.of_own ho_w2).wide (Nat.zero_le _) (Nat.le_refl _))
            clear b_w2 Hl_w1 HB_w1 ho_w2 
            go_wp2_with fail
            refine (fenc_is (strsL t) a X Ht_w2.out HR.out (by omega) (by rw [HTT.out]; exact HX.out) HTL.out).mono ?_
            rintro r w3 ⟨A_w3, c_w3, rfl, ho_w3, b_w3⟩
            have Hl_w3 := Lib.hid ((Hl_w2.out.below b_w3 (Nat.le_refl _)).wide (Nat.zero_le _) b_w3.size)
            have Ht_w3 := Lib.hid ((Ht_w2.out.below b_w3 (Nat.le_refl _)).wide (Nat.zero_le _) b_w3.size)
            have HB_w3 := Lib.hid (below_below HB_w2.out b_w3 S_w2)
            have S_w3 := HB_w3.out.size
            have Hx_w3 := Lib.hid ((Rd.of_own ho_w3).wide (Nat.zero_le _) (Nat.le_refl _))
            clear b_w3 Hl_w2 Ht_w2 HB_w2 ho_w3 
            go_wp2_with fail
            refine (fenc_is (strsL t) b Y Ht_w3.out HR.out (by omega) (by rw [HTT.out]; exact HY.out) HTL.out).mono ?_
            rintro r w4 ⟨A_w4, c_w4, rfl, ho_w4, b_w4⟩
            have Hl_w4 := Lib.hid ((Hl_w3.out.below b_w4 (Nat.le_refl _)).wide (Nat.zero_le _) b_w4.size)
            have Ht_w4 := Lib.hid ((Ht_w3.out.below b_w4 (Nat.le_refl _)).wide (Nat.zero_le _) b_w4.size)
            have Hx_w4 := Lib.hid ((Hx_w3.out.below b_w4 (Nat.le_refl _)).wide (Nat.zero_le _) b_w4.size)
            have HB_w4 := Lib.hid (below_below HB_w3.out b_w4 S_w3)
            have S_w4 := HB_w4.out.size
            have Hy_w4 := Lib.hid ((Rd.of_own ho_w4).wide (Nat.zero_le _) (Nat.le_refl _))
            clear b_w4 Hl_w3 Ht_w3 Hx_w3 HB_w3 ho_w4 
            go_wp2_with fail
            refine (fdec_is (strsL t) X (a.size : Int) a 0 k1 Ht_w4.out Hx_w4.out HT8.out HTQ.out (by omega) (by omega) (by omega) (by rw [HTT.out]; exact HD.out) HTL.out rfl).mono ?_
            rintro r w5 ⟨rfl, b_w5⟩
            have Hl_w5 := Lib.hid ((Hl_w4.out.below b_w5 (Nat.le_refl _)).wide (Nat.zero_le _) b_w5.size)
            have Ht_w5 := Lib.hid ((Ht_w4.out.below b_w5 (Nat.le_refl _)).wide (Nat.zero_le _) b_w5.size)
            have Hx_w5 := Lib.hid ((Hx_w4.out.below b_w5 (Nat.le_refl _)).wide (Nat.zero_le _) b_w5.size)
            have Hy_w5 := Lib.hid ((Hy_w4.out.below b_w5 (Nat.le_refl _)).wide (Nat.zero_le _) b_w5.size)
            have HB_w5 := Lib.hid (below_below HB_w4.out b_w5 S_w4)
            have S_w5 := HB_w5.out.size
            clear b_w5 Hl_w4 Ht_w4 Hx_w4 Hy_w4 HB_w4 
            go_wp2_with fail
            refine (same_len X Y true Hx_w5.out Hy_w5.out rfl rfl HF2.out).mono ?_
            rintro r w6 ⟨rfl, rfl⟩
            go_wp2_with fail
            refine (fdec_is (strsL t) X ((a.size : Int) - 1) ⟨#[]⟩ 6 k3 Ht_w5.out Hx_w5.out HT8.out HTQ.out (by omega) (by omega) (by omega) (by rw [HTT.out]; exact HS3.out) HTL.out rfl).mono ?_
            rintro r w7 ⟨rfl, b_w7⟩
            have Hl_w7 := Lib.hid ((Hl_w5.out.below b_w7 (Nat.le_refl _)).wide (Nat.zero_le _) b_w7.size)
            have Ht_w7 := Lib.hid ((Ht_w5.out.below b_w7 (Nat.le_refl _)).wide (Nat.zero_le _) b_w7.size)
            have Hx_w7 := Lib.hid ((Hx_w5.out.below b_w7 (Nat.le_refl _)).wide (Nat.zero_le _) b_w7.size)
            have Hy_w7 := Lib.hid ((Hy_w5.out.below b_w7 (Nat.le_refl _)).wide (Nat.zero_le _) b_w7.size)
            have HB_w7 := Lib.hid (below_below HB_w5.out b_w7 S_w5)
            have S_w7 := HB_w7.out.size
            clear b_w7 Hl_w5 Ht_w5 Hx_w5 Hy_w5 HB_w5 
            go_wp2_with fail
            all_goals (go_ret; exact ⟨rfl, HB_w7.out⟩)
        | false =>
          have hab2 : ¬ a.toList = b.toList := by simpa using hab
          rcases Nat.eq_zero_or_pos a.size with hz | hz
          · have iz : (a.size : Int) = 0 := by omega
            have HZ0 := Lib.hid iz
            have id : (a.size : Int) ≤ 0 := by omega
            clear iz hz
            go_enter Try.func5, Try.ntmps5
            go_wp2_with fail
            refine (awake11_any (w := _)).mono ?_
            rintro r w1 ⟨rfl, b_w1⟩
            have Hl_w1 := Lib.hid ((Hl_w.out.below b_w1 (Nat.le_refl _)).wide (Nat.zero_le _) b_w1.size)
            have HB_w1 := Lib.hid b_w1
            have S_w1 := HB_w1.out.size
            clear b_w1 Hl_w 
            go_wp2_with fail
            refine (few_is l true Hl_w1.out HFW.out).mono ?_
            rintro r w2 ⟨rfl, rfl⟩
            go_wp2_with fail
            refine (reforder_is l t Hl_w1.out HZ1.out hl1 HT.out rfl).mono ?_
            rintro r w2 ⟨A2, c2, rfl, ho_w2, b_w2⟩
            have Hl_w2 := Lib.hid ((Hl_w1.out.below b_w2 (Nat.le_refl _)).wide (Nat.zero_le _) b_w2.size)
            have HB_w2 := Lib.hid (below_below HB_w1.out b_w2 S_w1)
            have S_w2 := HB_w2.out.size
            have Ht_w2 := Lib.hid ((Rd.of_own ho_w2).wide (Nat.zero_le _) (Nat.le_refl _))
            clear b_w2 Hl_w1 HB_w1 ho_w2 
            go_wp2_with fail
            refine (fenc_is (strsL t) a X Ht_w2.out HR.out (by omega) (by rw [HTT.out]; exact HX.out) HTL.out).mono ?_
            rintro r w3 ⟨A_w3, c_w3, rfl, ho_w3, b_w3⟩
            have Hl_w3 := Lib.hid ((Hl_w2.out.below b_w3 (Nat.le_refl _)).wide (Nat.zero_le _) b_w3.size)
            have Ht_w3 := Lib.hid ((Ht_w2.out.below b_w3 (Nat.le_refl _)).wide (Nat.zero_le _) b_w3.size)
            have HB_w3 := Lib.hid (below_below HB_w2.out b_w3 S_w2)
            have S_w3 := HB_w3.out.size
            have Hx_w3 := Lib.hid ((Rd.of_own ho_w3).wide (Nat.zero_le _) (Nat.le_refl _))
            clear b_w3 Hl_w2 Ht_w2 HB_w2 ho_w3 
            go_wp2_with fail
            refine (fenc_is (strsL t) b Y Ht_w3.out HR.out (by omega) (by rw [HTT.out]; exact HY.out) HTL.out).mono ?_
            rintro r w4 ⟨A_w4, c_w4, rfl, ho_w4, b_w4⟩
            have Hl_w4 := Lib.hid ((Hl_w3.out.below b_w4 (Nat.le_refl _)).wide (Nat.zero_le _) b_w4.size)
            have Ht_w4 := Lib.hid ((Ht_w3.out.below b_w4 (Nat.le_refl _)).wide (Nat.zero_le _) b_w4.size)
            have Hx_w4 := Lib.hid ((Hx_w3.out.below b_w4 (Nat.le_refl _)).wide (Nat.zero_le _) b_w4.size)
            have HB_w4 := Lib.hid (below_below HB_w3.out b_w4 S_w3)
            have S_w4 := HB_w4.out.size
            have Hy_w4 := Lib.hid ((Rd.of_own ho_w4).wide (Nat.zero_le _) (Nat.le_refl _))
            clear b_w4 Hl_w3 Ht_w3 Hx_w3 HB_w3 ho_w4 
            go_wp2_with fail
            refine (fdec_is (strsL t) X (a.size : Int) a 0 k1 Ht_w4.out Hx_w4.out HT8.out HTQ.out (by omega) (by omega) (by omega) (by rw [HTT.out]; exact HD.out) HTL.out rfl).mono ?_
            rintro r w5 ⟨rfl, b_w5⟩
            have Hl_w5 := Lib.hid ((Hl_w4.out.below b_w5 (Nat.le_refl _)).wide (Nat.zero_le _) b_w5.size)
            have Ht_w5 := Lib.hid ((Ht_w4.out.below b_w5 (Nat.le_refl _)).wide (Nat.zero_le _) b_w5.size)
            have Hx_w5 := Lib.hid ((Hx_w4.out.below b_w5 (Nat.le_refl _)).wide (Nat.zero_le _) b_w5.size)
            have Hy_w5 := Lib.hid ((Hy_w4.out.below b_w5 (Nat.le_refl _)).wide (Nat.zero_le _) b_w5.size)
            have HB_w5 := Lib.hid (below_below HB_w4.out b_w5 S_w4)
            have S_w5 := HB_w5.out.size
            clear b_w5 Hl_w4 Ht_w4 Hx_w4 Hy_w4 HB_w4 
            go_wp2_with fail
            refine (same_len X Y false Hx_w5.out Hy_w5.out rfl rfl HF2.out).mono ?_
            rintro r w6 ⟨rfl, rfl⟩
            go_wp2_with fail
            refine (fdecode_less ((a.size : Int) - 1) (by omega)).mono ?_
            rintro r w7 ⟨rfl, b_w7⟩
            have Hl_w7 := Lib.hid ((Hl_w5.out.below b_w7 (Nat.le_refl _)).wide (Nat.zero_le _) b_w7.size)
            have Ht_w7 := Lib.hid ((Ht_w5.out.below b_w7 (Nat.le_refl _)).wide (Nat.zero_le _) b_w7.size)
            have Hx_w7 := Lib.hid ((Hx_w5.out.below b_w7 (Nat.le_refl _)).wide (Nat.zero_le _) b_w7.size)
            have Hy_w7 := Lib.hid ((Hy_w5.out.below b_w7 (Nat.le_refl _)).wide (Nat.zero_le _) b_w7.size)
            have HB_w7 := Lib.hid (below_below HB_w5.out b_w7 S_w5)
            have S_w7 := HB_w7.out.size
            clear b_w7 Hl_w5 Ht_w5 Hx_w5 Hy_w5 HB_w5 
            go_wp2_with fail
            all_goals (go_ret; exact ⟨rfl, HB_w7.out⟩)
          · have iz : ¬ (a.size : Int) = 0 := by omega
            obtain ⟨k3, hs3⟩ := HS.out hz
            have HS3 := Lib.hid hs3
            clear hs3
            go_enter Try.func5, Try.ntmps5
            go_wp2_with fail
            refine (awake11_any (w := _)).mono ?_
            rintro r w1 ⟨rfl, b_w1⟩
            have Hl_w1 := Lib.hid ((Hl_w.out.below b_w1 (Nat.le_refl _)).wide (Nat.zero_le _) b_w1.size)
            have HB_w1 := Lib.hid b_w1
            have S_w1 := HB_w1.out.size
            clear b_w1 Hl_w 
            go_wp2_with fail
            refine (few_is l true Hl_w1.out HFW.out).mono ?_
            rintro r w2 ⟨rfl, rfl⟩
            go_wp2_with fail
            refine (reforder_is l t Hl_w1.out HZ1.out hl1 HT.out rfl).mono ?_
            rintro r w2 ⟨A2, c2, rfl, ho_w2, b_w2⟩
            have Hl_w2 := Lib.hid ((Hl_w1.out.below b_w2 (Nat.le_refl _)).wide (Nat.zero_le _) b_w2.size)
            have HB_w2 := Lib.hid (below_below HB_w1.out b_w2 S_w1)
            have S_w2 := HB_w2.out.size
            have Ht_w2 := Lib.hid ((Rd.of_own ho_w2).wide (Nat.zero_le _) (Nat.le_refl _))
            clear b_w2 Hl_w1 HB_w1 ho_w2 
            go_wp2_with fail
            refine (fenc_is (strsL t) a X Ht_w2.out HR.out (by omega) (by rw [HTT.out]; exact HX.out) HTL.out).mono ?_
            rintro r w3 ⟨A_w3, c_w3, rfl, ho_w3, b_w3⟩
            have Hl_w3 := Lib.hid ((Hl_w2.out.below b_w3 (Nat.le_refl _)).wide (Nat.zero_le _) b_w3.size)
            have Ht_w3 := Lib.hid ((Ht_w2.out.below b_w3 (Nat.le_refl _)).wide (Nat.zero_le _) b_w3.size)
            have HB_w3 := Lib.hid (below_below HB_w2.out b_w3 S_w2)
            have S_w3 := HB_w3.out.size
            have Hx_w3 := Lib.hid ((Rd.of_own ho_w3).wide (Nat.zero_le _) (Nat.le_refl _))
            clear b_w3 Hl_w2 Ht_w2 HB_w2 ho_w3 
            go_wp2_with fail
            refine (fenc_is (strsL t) b Y Ht_w3.out HR.out (by omega) (by rw [HTT.out]; exact HY.out) HTL.out).mono ?_
            rintro r w4 ⟨A_w4, c_w4, rfl, ho_w4, b_w4⟩
            have Hl_w4 := Lib.hid ((Hl_w3.out.below b_w4 (Nat.le_refl _)).wide (Nat.zero_le _) b_w4.size)
            have Ht_w4 := Lib.hid ((Ht_w3.out.below b_w4 (Nat.le_refl _)).wide (Nat.zero_le _) b_w4.size)
            have Hx_w4 := Lib.hid ((Hx_w3.out.below b_w4 (Nat.le_refl _)).wide (Nat.zero_le _) b_w4.size)
            have HB_w4 := Lib.hid (below_below HB_w3.out b_w4 S_w3)
            have S_w4 := HB_w4.out.size
            have Hy_w4 := Lib.hid ((Rd.of_own ho_w4).wide (Nat.zero_le _) (Nat.le_refl _))
            clear b_w4 Hl_w3 Ht_w3 Hx_w3 HB_w3 ho_w4 
            go_wp2_with fail
            refine (fdec_is (strsL t) X (a.size : Int) a 0 k1 Ht_w4.out Hx_w4.out HT8.out HTQ.out (by omega) (by omega) (by omega) (by rw [HTT.out]; exact HD.out) HTL.out rfl).mono ?_
            rintro r w5 ⟨rfl, b_w5⟩
            have Hl_w5 := Lib.hid ((Hl_w4.out.below b_w5 (Nat.le_refl _)).wide (Nat.zero_le _) b_w5.size)
            have Ht_w5 := Lib.hid ((Ht_w4.out.below b_w5 (Nat.le_refl _)).wide (Nat.zero_le _) b_w5.size)
            have Hx_w5 := Lib.hid ((Hx_w4.out.below b_w5 (Nat.le_refl _)).wide (Nat.zero_le _) b_w5.size)
            have Hy_w5 := Lib.hid ((Hy_w4.out.below b_w5 (Nat.le_refl _)).wide (Nat.zero_le _) b_w5.size)
            have HB_w5 := Lib.hid (below_below HB_w4.out b_w5 S_w4)
            have S_w5 := HB_w5.out.size
            clear b_w5 Hl_w4 Ht_w4 Hx_w4 Hy_w4 HB_w4 
            go_wp2_with fail
            refine (same_len X Y false Hx_w5.out Hy_w5.out rfl rfl HF2.out).mono ?_
            rintro r w6 ⟨rfl, rfl⟩
            go_wp2_with fail
            refine (fdec_is (strsL t) X ((a.size : Int) - 1) ⟨#[]⟩ 6 k3 Ht_w5.out Hx_w5.out HT8.out HTQ.out (by omega) (by omega) (by omega) (by rw [HTT.out]; exact HS3.out) HTL.out rfl).mono ?_
            rintro r w7 ⟨rfl, b_w7⟩
            have Hl_w7 := Lib.hid ((Hl_w5.out.below b_w7 (Nat.le_refl _)).wide (Nat.zero_le _) b_w7.size)
            have Ht_w7 := Lib.hid ((Ht_w5.out.below b_w7 (Nat.le_refl _)).wide (Nat.zero_le _) b_w7.size)
            have Hx_w7 := Lib.hid ((Hx_w5.out.below b_w7 (Nat.le_refl _)).wide (Nat.zero_le _) b_w7.size)
            have Hy_w7 := Lib.hid ((Hy_w5.out.below b_w7 (Nat.le_refl _)).wide (Nat.zero_le _) b_w7.size)
            have HB_w7 := Lib.hid (below_below HB_w5.out b_w7 S_w5)
            have S_w7 := HB_w7.out.size
            clear b_w7 Hl_w5 Ht_w5 Hx_w5 Hy_w5 HB_w5 
            go_wp2_with fail
            all_goals (go_ret; exact ⟨rfl, HB_w7.out⟩)
      · have i11 : (1000 : Int) < (b.size : Int) := by omega
        go_enter Try.func5, Try.ntmps5
        go_wp2_with fail
        refine (awake11_any (w := _)).mono ?_
        rintro r w1 ⟨rfl, b1⟩
        go_wp2_with fail
        refine (few_is l true (Hl_w.out.below b1 (Nat.le_refl _)) HFW.out).mono ?_
        rintro r w2 ⟨rfl, rfl⟩
        go_wp2_with fail
        refine (awake11_any (w := _)).mono ?_
        rintro r w3 ⟨rfl, b3⟩
        go_wp2_with fail
        go_ret
        exact ⟨rfl, below_below b1 b3 b1.size⟩
    · have i10 : (1000 : Int) < (a.size : Int) := by omega
      go_enter Try.func5, Try.ntmps5
      go_wp2_with fail
      refine (awake11_any (w := _)).mono ?_
      rintro r w1 ⟨rfl, b1⟩
      go_wp2_with fail
      refine (few_is l true (Hl_w.out.below b1 (Nat.le_refl _)) HFW.out).mono ?_
      rintro r w2 ⟨rfl, rfl⟩
      go_wp2_with fail
      refine (awake11_any (w := _)).mono ?_
      rintro r w3 ⟨rfl, b3⟩
      go_wp2_with fail
      go_ret
      exact ⟨rfl, below_below b1 b3 b1.size⟩
  · have HNF : Hid (decide (FewS l) = false) := decide_eq_false hf
    clear hf
    go_enter Try.func5, Try.ntmps5
    go_wp2_with fail
    refine (awake11_any (w := _)).mono ?_
    rintro r w1 ⟨rfl, b1⟩
    go_wp2_with fail
    refine (few_is l false (Hl_w.out.below b1 (Nat.le_refl _)) HNF.out).mono ?_
    rintro r w2 ⟨rfl, rfl⟩
    go_wp2_with fail
    refine (awake11_any (w := _)).mono ?_
    rintro r w3 ⟨rfl, b3⟩
    go_wp2_with fail
    go_ret
    exact ⟨rfl, below_below b1 b3 b1.size⟩

set_option maxRecDepth 100000 in
theorem fsstBack_lifted (os : Os) (started : os.Started) (H : Type) (enc : TypeId × Value → H) :
    ReturnsInHanded {} Try.checked os 5 .any (Rows.fsstBackSpec.pre6 enc Try.prog Try.f5 Rows.fsstBackRow.domain false) (Rows.fsstBackSpec.post enc Try.prog Try.f5 false true false false) := by
  refine returnsInHanded_of_change (C := Try.checked) own started (by kernel_rfl) Try.func5
    (ChangeSpec.witness6 (enc := enc) (C := Try.checked) false ⟨#[], #[.slice none 0 0, .string ByteArray.empty, .string ByteArray.empty], []⟩ 8 (by kernel_rfl) (by kernel_rfl) (by kernel_rfl) (by kernel_rfl)) ?_
  intro W base args ds gs before hval0 hW hcnd _
  have hval : ∀ (j : Nat) t v, Try.f5.params[j]? = some t → args[j]? = some v → Value.okWide Try.prog W .any base t v := hval0
  have hW' := hW
  obtain ⟨p, q, hA0, hV, rfl, hfz, hnd⟩ := hW
  have hA : DataW.TrodAll enc Try.prog W 0 (fun _ => true) true Try.f5.params.toList args.toList ds p := hA0
  have hA1 : DataW.TrodAll enc Try.prog W 0 (fun _ => true) true Try.f5.params.toList args.toList ds p := hA0
  rw [Try.params5] at hA hval
  obtain ⟨v0, vs0, d0, ds0, p0, q0, hargs, rfl, rfl, h0, r0⟩ := trodAll_cons hA
  obtain ⟨v1, vs1, d1, ds1, p1, q1, rfl, rfl, rfl, h1, r1⟩ := trodAll_cons r0
  obtain ⟨v2, vs2, d2, ds2, p2, q2, rfl, rfl, rfl, h2, r2⟩ := trodAll_cons r1
  obtain ⟨rfl, rfl, rfl⟩ := trodAll_nil r2
  obtain rfl : args = #[v0, v1, v2] := by cases args; simp_all
  obtain ⟨rfl, rfl⟩ := trodVars_none hV
  obtain ⟨A0, a0, c0, rfl, w0⟩ := open_strs Try.underlying22 Try.underlying9 (by kernel_rfl) (hval 0 22 v0 rfl rfl) h0
  obtain ⟨a1, rfl, rfl, rfl, w1⟩ := open_string Try.underlying9 (hval 1 9 v1 rfl rfl) h1
  obtain ⟨a2, rfl, rfl, rfl, w2⟩ := open_string Try.underlying9 (hval 2 9 v2 rfl rfl) h2
  clear hA0 hval0
  refine (fsstBack_walk (w := W) w0 a1 w1 a2 w2).mono fun e W' ⟨he, bel⟩ => ?_
  subst he
  exact ⟨_, rfl, _, _, _, [], _, [], hW', trodAll_mk1 (shut_bool Try.underlying4 _), trodAll_below laidOut bel _ _ _ _ (by kernel_rfl) hA1, rfl, bel.frame _, fun h => by cases h⟩

theorem fsstBack_over : Rows.fsstBackRow.holds Try.pinned (OpenSpec.ofChange Rows.fsstBackSpec) :=
  OpenClaim.holds_of_wide 5 Try.f5 rfl rfl rfl rfl rfl rfl rfl ⟨rfl, rfl, rfl, rfl, rfl⟩ rfl rfl rfl rfl rfl (by kernel_rfl) Try.func5 (by kernel_rfl)
    (of_decide_eq_true (by kernel_rfl)) (by unfold Func.isWrapper; first | (rw [if_pos (by decide +kernel)]; kernel_rfl) | (rw [if_neg (by decide +kernel)]; exact ⟨rfl, rfl⟩))
    (fun os started H enc _ => fsstBack_lifted os started H enc)

/-- The statement. -/
theorem fsstBack_proved : Rows.FsstBackSaid := fsstBack_over


end Go.Proofs.Ytniehbghgialjaa
