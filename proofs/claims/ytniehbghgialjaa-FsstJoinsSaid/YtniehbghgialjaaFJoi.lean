/-
  Proved: FsstJoins of layer 11: of whatever few strings' table and two strings, what both are encoded to, one behind the other, is decoded to both of them; counts add up; what came in reads as it did. Conditions: none of our own.
-/
import Derived.Test.YtniehbghgialjaaLawF
import Derived.Test.YtniehbghgialjaaShellT
import Derived.Test.YtniehbghgialjaaShell
import Derived.Test.YtniehbghgialjaaApW
namespace Go.Proofs.Ytniehbghgialjaa
set_option linter.unusedSimpArgs false
set_option linter.unusedVariables false
open Go.ChangeShapes Go.WideShapes Go.ChangeAt Go.RowKit
open Go.ChangeMaps (open_string shut_string)

set_option maxRecDepth 20000 in
set_option maxHeartbeats 4000000 in
theorem fsstJoins_walk {w : World} {A : Option Addr} {l : List ByteArray} {c : Nat} (h : Rd w 0 w.heap.size A c (sv l) ∧ ∀ s ∈ l, s.size ≤ maxLen) (a : ByteArray) (ha : a.size ≤ 9223372036854775807) (b : ByteArray) (hb : b.size ≤ 9223372036854775807) :
    Calls Try.prog 6 #[.slice A l.length c, .string a, .string b] w fun e w' => e = .returned (.bool true) ∧ Below w.heap.size w w' := by
  obtain ⟨h, -⟩ := h
  have Hl_w := Lib.hid h
  have hl := h.len
  have hm := h.cap
  rw [sv_length] at hl
  unfold maxLen at hm
  clear h
  by_cases hf : FewS l
  · obtain ⟨-, -⟩ := And.intro hl hm
    obtain ⟨hl3, hl1, hl2, hz1, hz2⟩ := few_sizes hf
    have HFW : Hid (decide (FewS l) = true) := decide_eq_true hf
    have HZ1 := Lib.hid hz1
    clear hz1 hz2 hf
    by_cases hs1 : a.size ≤ 1000
    · have i10 : ¬ (1000 : Int) < (a.size : Int) := by omega
      by_cases hs2 : b.size ≤ 1000
      · have i11 : ¬ (1000 : Int) < (b.size : Int) := by omega
        obtain ⟨t, ht⟩ : ∃ t, ordL (bytL2 l) = t := ⟨_, rfl⟩
        obtain ⟨hr, htl, ht5, ht8, hto⟩ := ord_facts l ht
        have htq : (strsL t).length ≤ 255 := by rw [htl]; exact ht5
        obtain ⟨T, hT⟩ : ∃ T, bytL2 (strsL t) = T := ⟨_, rfl⟩
        have hTl : T.length ≤ 255 := by rw [← hT, bytL2_length]; exact htq
        have HTT := Lib.hid hT
        have HT := Lib.hid ht
        have HR := Lib.hid hr
        have HTL := Lib.hid htl
        have HT8 := Lib.hid ht8
        have HTQ := Lib.hid htq
        clear ht hr htl ht8 hto hT htq
        have hTs := hTl
        obtain ⟨X, hX⟩ : ∃ E, encL T a.data.toList = E := ⟨_, rfl⟩
        obtain ⟨Y, hY⟩ : ∃ E, encL T b.data.toList = E := ⟨_, rfl⟩
        have hxl : X.length ≤ 2 * a.size := by rw [← hX, ← lenS a]; exact enc_len T _
        have hyl : Y.length ≤ 2 * b.size := by rw [← hY, ← lenS b]; exact enc_len T _
        obtain ⟨k1, hk1⟩ := dec_enc hTs a.data.toList
        obtain ⟨k2, hk2⟩ := dec_enc hTs b.data.toList
        rw [hX] at hk1
        rw [hY] at hk2
        rw [lenS] at hk1 hk2
        obtain ⟨Z, hZ⟩ : ∃ Z, X ++ Y = Z := ⟨_, rfl⟩
        have hzl : Z.length ≤ 4000 := by rw [← hZ, List.length_append]; omega
        have hd : ∀ most : Int, 2000 ≤ most → decL T most Z [] 0 = ((a ++ b).data.toList, 0, k1 + k2) := fun most hm2 => by
          have q1 := hk1 most Y [] 0 (by simp; omega)
          have q2 := hk2 most [] ([] ++ a.data.toList) (0 + k1) (by simp [lenS]; omega)
          rw [List.append_nil, dec_nil] at q2
          rw [← hZ, q1, q2, app_strS, List.nil_append, Nat.zero_add]
        have HD5 := Lib.hid (hd 5000 (by omega))
        have HCZ : Hid ((decL T 100000 Z [] 0).2.2 = k1 + k2) := by unfold Hid; rw [hd 100000 (by omega)]
        have HCX : Hid ((decL T 100000 X [] 0).2.2 = k1) := by unfold Hid; have q1 := hk1 100000 [] [] 0 (by simp; omega); rw [List.append_nil, dec_nil] at q1; rw [q1, Nat.zero_add]
        have HCY : Hid ((decL T 100000 Y [] 0).2.2 = k2) := by unfold Hid; have q1 := hk2 100000 [] [] 0 (by simp; omega); rw [List.append_nil, dec_nil] at q1; rw [q1, Nat.zero_add]
        obtain ⟨V, hV⟩ : ∃ E, encL T (a ++ b).data.toList = E := ⟨_, rfl⟩
        have hvl : V.length ≤ 2 * (a.size + b.size) := by rw [← hV, ← app_sizeS, ← lenS (a ++ b)]; exact enc_len T _
        have hab : (a ++ b).size ≤ 2000 := by rw [app_sizeS]; omega
        have hk12 : k1 + k2 ≤ 1000000 := by
          have q1 := hd 100000 (by omega)
          have q2 := dec_cnt T 100000 Z.length Z [] 0 (Nat.le_refl _)
          rw [q1] at q2
          have q3 : k1 + k2 ≤ 0 + Z.length := q2
          omega
        have dV : decide ((V.length : Int) ≤ 2 * ((a.size : Int) + (b.size : Int))) = true := decide_eq_true (by omega)
        have HX := Lib.hid hX
        have HY := Lib.hid hY
        have HZ := Lib.hid hZ
        have HV := Lib.hid hV
        have HAB := Lib.hid hab
        clear hX hY hZ hV hk1 hk2 hd hab
        have hkk := hk12
        go_enter Try.func6, Try.ntmps6
        go_wp2_with fail
        refine (awake11_any (w := _)).mono ?_
        rintro r w1 ⟨rfl, b_w1⟩
        have Hl_w1 := Lib.hid ((Hl_w.out.below b_w1 (Nat.le_refl _)).wide (Nat.zero_le _) b_w1.size)
        have HB_w1 := Lib.hid b_w1
        have S_w1 := HB_w1.out.size
        clear b_w1 Hl_w 
        go_wp2_with fail
        refine (few_is l true Hl_w1.out HFW.out).mono ?_
        rintro r w2 ⟨rfl, rfl⟩
        go_wp2_with fail
        refine (reforder_is l t Hl_w1.out HZ1.out hl1 HT.out rfl).mono ?_
        rintro r w2 ⟨A2, c2, rfl, ho_w2, b_w2⟩
        have Hl_w2 := Lib.hid ((Hl_w1.out.below b_w2 (Nat.le_refl _)).wide (Nat.zero_le _) b_w2.size)
        have HB_w2 := Lib.hid (below_below HB_w1.out b_w2 S_w1)
        have S_w2 := HB_w2.out.size
        have Ht_w2 := Lib.hid ((Rd.of_own ho_w2).wide (Nat.zero_le _) (Nat.le_refl _))
        clear b_w2 Hl_w1 HB_w1 ho_w2 
        go_wp2_with fail
        refine (fenc_is (strsL t) a X Ht_w2.out HR.out (by omega) (by rw [HTT.out]; exact HX.out) HTL.out).mono ?_
        rintro r w3 ⟨A_w3, c_w3, rfl, ho_w3, b_w3⟩
        have Hl_w3 := Lib.hid ((Hl_w2.out.below b_w3 (Nat.le_refl _)).wide (Nat.zero_le _) b_w3.size)
        have Ht_w3 := Lib.hid ((Ht_w2.out.below b_w3 (Nat.le_refl _)).wide (Nat.zero_le _) b_w3.size)
        have HB_w3 := Lib.hid (below_below HB_w2.out b_w3 S_w2)
        have S_w3 := HB_w3.out.size
        have Hx_w3 := Lib.hid ((Rd.of_own ho_w3).wide (Nat.zero_le _) (Nat.le_refl _))
        clear b_w3 Hl_w2 Ht_w2 HB_w2 ho_w3 
        go_wp2_with fail
        refine (fenc_is (strsL t) b Y Ht_w3.out HR.out (by omega) (by rw [HTT.out]; exact HY.out) HTL.out).mono ?_
        rintro r w4 ⟨A_w4, c_w4, rfl, ho_w4, b_w4⟩
        have Hl_w4 := Lib.hid ((Hl_w3.out.below b_w4 (Nat.le_refl _)).wide (Nat.zero_le _) b_w4.size)
        have Ht_w4 := Lib.hid ((Ht_w3.out.below b_w4 (Nat.le_refl _)).wide (Nat.zero_le _) b_w4.size)
        have Hx_w4 := Lib.hid ((Hx_w3.out.below b_w4 (Nat.le_refl _)).wide (Nat.zero_le _) b_w4.size)
        have HB_w4 := Lib.hid (below_below HB_w3.out b_w4 S_w3)
        have S_w4 := HB_w4.out.size
        have Hy_w4 := Lib.hid ((Rd.of_own ho_w4).wide (Nat.zero_le _) (Nat.le_refl _))
        clear b_w4 Hl_w3 Ht_w3 Hx_w3 HB_w3 ho_w4 
        obtain ⟨A5, c5, w5, hrun5, ho_w5, hg5⟩ := append_named (w4.alloc (.cells #[] 5)) w4.heap.size (.slice (some ⟨w4.heap.size, 0, none⟩) 0 0) [] X X (List.nil_append X) (own_lit w4 [] #[] rfl (by decide)) (Hx_w4.out.alloc (Nat.le_refl _) _) (by simp; omega) (by simp)
        have b_w5 : Below w4.heap.size w4 w5 := ((Below.refl _ w4).alloc (Nat.le_refl _) _).grown hg5 (by simp) (by simp [Value.ownBlock])
        obtain ⟨A6, c6, w6, hrun6, ho_w6, hg6⟩ := append_named w5 w4.heap.size _ X Y Z HZ.out ho_w5 (Hy_w4.out.below b_w5 (Nat.le_refl _)) (by omega) b_w5.size
        have b_w6 : Below w4.heap.size w4 w6 := b_w5.grown hg6 b_w5.size (fun q hq => (own_lt ho_w5 hq).1)
        have HRUN5 := Lib.hid hrun5
        have HRUN6 := Lib.hid hrun6
        clear hrun5 hrun6 hg5 hg6 ho_w5 b_w5
        have Hl_w6 := Lib.hid ((Hl_w4.out.below b_w6 (Nat.le_refl _)).wide (Nat.zero_le _) b_w6.size)
        have Ht_w6 := Lib.hid ((Ht_w4.out.below b_w6 (Nat.le_refl _)).wide (Nat.zero_le _) b_w6.size)
        have Hx_w6 := Lib.hid ((Hx_w4.out.below b_w6 (Nat.le_refl _)).wide (Nat.zero_le _) b_w6.size)
        have Hy_w6 := Lib.hid ((Hy_w4.out.below b_w6 (Nat.le_refl _)).wide (Nat.zero_le _) b_w6.size)
        have HB_w6 := Lib.hid (below_below HB_w4.out b_w6 S_w4)
        have S_w6 := HB_w6.out.size
        have Hz_w6 := Lib.hid ((Rd.of_own ho_w6).wide (Nat.zero_le _) (Nat.le_refl _))
        clear b_w6 Hl_w4 Ht_w4 Hx_w4 Hy_w4 HB_w4 ho_w6 
        go_wp2_with (at_builtin; refine wpList_append_run rfl _ _ _ _ rfl rfl rfl HRUN5.out ?_; refine held ?_)
        refine ⟨?_⟩
        go_wp2_with (at_builtin; refine wpList_append_run rfl _ _ _ _ rfl rfl rfl HRUN6.out ?_)
        clear HRUN5 HRUN6
        refine (fdec_is (strsL t) Z 5000 (a ++ b) 0 (k1 + k2) Ht_w6.out Hz_w6.out HT8.out HTQ.out (by omega) (by omega) (by omega) (by rw [HTT.out]; exact HD5.out) HTL.out rfl).mono ?_
        rintro r w7 ⟨rfl, b_w7⟩
        have Hl_w7 := Lib.hid ((Hl_w6.out.below b_w7 (Nat.le_refl _)).wide (Nat.zero_le _) b_w7.size)
        have Ht_w7 := Lib.hid ((Ht_w6.out.below b_w7 (Nat.le_refl _)).wide (Nat.zero_le _) b_w7.size)
        have Hx_w7 := Lib.hid ((Hx_w6.out.below b_w7 (Nat.le_refl _)).wide (Nat.zero_le _) b_w7.size)
        have Hy_w7 := Lib.hid ((Hy_w6.out.below b_w7 (Nat.le_refl _)).wide (Nat.zero_le _) b_w7.size)
        have Hz_w7 := Lib.hid ((Hz_w6.out.below b_w7 (Nat.le_refl _)).wide (Nat.zero_le _) b_w7.size)
        have HB_w7 := Lib.hid (below_below HB_w6.out b_w7 S_w6)
        have S_w7 := HB_w7.out.size
        clear b_w7 Hl_w6 Ht_w6 Hx_w6 Hy_w6 Hz_w6 HB_w6 
        obtain ⟨A8, c8, w8, hrun8, ho_w8, hg8⟩ := append_named (w7.alloc (.cells #[] 5)) w7.heap.size (.slice (some ⟨w7.heap.size, 0, none⟩) 0 0) [] X X (List.nil_append X) (own_lit w7 [] #[] rfl (by decide)) (Hx_w7.out.alloc (Nat.le_refl _) _) (by simp; omega) (by simp)
        have b_w8 : Below w7.heap.size w7 w8 := ((Below.refl _ w7).alloc (Nat.le_refl _) _).grown hg8 (by simp) (by simp [Value.ownBlock])
        obtain ⟨A9, c9, w9, hrun9, ho_w9, hg9⟩ := append_named w8 w7.heap.size _ X Y Z HZ.out ho_w8 (Hy_w7.out.below b_w8 (Nat.le_refl _)) (by omega) b_w8.size
        have b_w9 : Below w7.heap.size w7 w9 := b_w8.grown hg9 b_w8.size (fun q hq => (own_lt ho_w8 hq).1)
        have HRUN8 := Lib.hid hrun8
        have HRUN9 := Lib.hid hrun9
        clear hrun8 hrun9 hg8 hg9 ho_w8 b_w8
        have Hl_w9 := Lib.hid ((Hl_w7.out.below b_w9 (Nat.le_refl _)).wide (Nat.zero_le _) b_w9.size)
        have Ht_w9 := Lib.hid ((Ht_w7.out.below b_w9 (Nat.le_refl _)).wide (Nat.zero_le _) b_w9.size)
        have Hx_w9 := Lib.hid ((Hx_w7.out.below b_w9 (Nat.le_refl _)).wide (Nat.zero_le _) b_w9.size)
        have Hy_w9 := Lib.hid ((Hy_w7.out.below b_w9 (Nat.le_refl _)).wide (Nat.zero_le _) b_w9.size)
        have Hz_w9 := Lib.hid ((Hz_w7.out.below b_w9 (Nat.le_refl _)).wide (Nat.zero_le _) b_w9.size)
        have HB_w9 := Lib.hid (below_below HB_w7.out b_w9 S_w7)
        have S_w9 := HB_w9.out.size
        have Hz_w9 := Lib.hid ((Rd.of_own ho_w9).wide (Nat.zero_le _) (Nat.le_refl _))
        clear b_w9 Hl_w7 Ht_w7 Hx_w7 Hy_w7 Hz_w7 HB_w7 ho_w9 
        go_wp2_with (at_builtin; refine wpList_append_want (by first | rfl | (go_simp; done) | (go_simp; omega)) _ _ _ _ rfl rfl rfl HRUN8.out ?_; refine held ?_)
        refine ⟨?_⟩
        go_wp2_with (at_builtin; refine wpList_append_want (by first | rfl | (go_simp; done) | (go_simp; omega)) _ _ _ _ rfl rfl rfl HRUN9.out ?_)
        clear HRUN8 HRUN9
        refine (fcnt_is (strsL t) Z (k1 + k2) Ht_w9.out Hz_w9.out HT8.out HTQ.out (by omega) (by rw [HTT.out]; exact HCZ.out) HTL.out rfl).mono ?_
        rintro r w10 ⟨rfl, b_w10⟩
        have Hl_w10 := Lib.hid ((Hl_w9.out.below b_w10 (Nat.le_refl _)).wide (Nat.zero_le _) b_w10.size)
        have Ht_w10 := Lib.hid ((Ht_w9.out.below b_w10 (Nat.le_refl _)).wide (Nat.zero_le _) b_w10.size)
        have Hx_w10 := Lib.hid ((Hx_w9.out.below b_w10 (Nat.le_refl _)).wide (Nat.zero_le _) b_w10.size)
        have Hy_w10 := Lib.hid ((Hy_w9.out.below b_w10 (Nat.le_refl _)).wide (Nat.zero_le _) b_w10.size)
        have Hz_w10 := Lib.hid ((Hz_w9.out.below b_w10 (Nat.le_refl _)).wide (Nat.zero_le _) b_w10.size)
        have HB_w10 := Lib.hid (below_below HB_w9.out b_w10 S_w9)
        have S_w10 := HB_w10.out.size
        clear b_w10 Hl_w9 Ht_w9 Hx_w9 Hy_w9 Hz_w9 HB_w9 
        go_wp2_with fail
        refine (fcnt_is (strsL t) X k1 Ht_w10.out Hx_w10.out HT8.out HTQ.out (by omega) (by rw [HTT.out]; exact HCX.out) HTL.out rfl).mono ?_
        rintro r w11 ⟨rfl, b_w11⟩
        have Hl_w11 := Lib.hid ((Hl_w10.out.below b_w11 (Nat.le_refl _)).wide (Nat.zero_le _) b_w11.size)
        have Ht_w11 := Lib.hid ((Ht_w10.out.below b_w11 (Nat.le_refl _)).wide (Nat.zero_le _) b_w11.size)
        have Hx_w11 := Lib.hid ((Hx_w10.out.below b_w11 (Nat.le_refl _)).wide (Nat.zero_le _) b_w11.size)
        have Hy_w11 := Lib.hid ((Hy_w10.out.below b_w11 (Nat.le_refl _)).wide (Nat.zero_le _) b_w11.size)
        have Hz_w11 := Lib.hid ((Hz_w10.out.below b_w11 (Nat.le_refl _)).wide (Nat.zero_le _) b_w11.size)
        have HB_w11 := Lib.hid (below_below HB_w10.out b_w11 S_w10)
        have S_w11 := HB_w11.out.size
        clear b_w11 Hl_w10 Ht_w10 Hx_w10 Hy_w10 Hz_w10 HB_w10 
        go_wp2_with fail
        refine (fcnt_is (strsL t) Y k2 Ht_w11.out Hy_w11.out HT8.out HTQ.out (by omega) (by rw [HTT.out]; exact HCY.out) HTL.out rfl).mono ?_
        rintro r w12 ⟨rfl, b_w12⟩
        have Hl_w12 := Lib.hid ((Hl_w11.out.below b_w12 (Nat.le_refl _)).wide (Nat.zero_le _) b_w12.size)
        have Ht_w12 := Lib.hid ((Ht_w11.out.below b_w12 (Nat.le_refl _)).wide (Nat.zero_le _) b_w12.size)
        have Hx_w12 := Lib.hid ((Hx_w11.out.below b_w12 (Nat.le_refl _)).wide (Nat.zero_le _) b_w12.size)
        have Hy_w12 := Lib.hid ((Hy_w11.out.below b_w12 (Nat.le_refl _)).wide (Nat.zero_le _) b_w12.size)
        have Hz_w12 := Lib.hid ((Hz_w11.out.below b_w12 (Nat.le_refl _)).wide (Nat.zero_le _) b_w12.size)
        have HB_w12 := Lib.hid (below_below HB_w11.out b_w12 S_w11)
        have S_w12 := HB_w12.out.size
        clear b_w12 Hl_w11 Ht_w11 Hx_w11 Hy_w11 Hz_w11 HB_w11 
        go_wp2_with fail
        refine (fenc_is (strsL t) (a ++ b) V Ht_w12.out HR.out (by have := HAB.out; omega) (by rw [HTT.out]; exact HV.out) HTL.out).mono ?_
        rintro r w13 ⟨A_w13, c_w13, rfl, ho_w13, b_w13⟩
        have Hl_w13 := Lib.hid ((Hl_w12.out.below b_w13 (Nat.le_refl _)).wide (Nat.zero_le _) b_w13.size)
        have Ht_w13 := Lib.hid ((Ht_w12.out.below b_w13 (Nat.le_refl _)).wide (Nat.zero_le _) b_w13.size)
        have Hx_w13 := Lib.hid ((Hx_w12.out.below b_w13 (Nat.le_refl _)).wide (Nat.zero_le _) b_w13.size)
        have Hy_w13 := Lib.hid ((Hy_w12.out.below b_w13 (Nat.le_refl _)).wide (Nat.zero_le _) b_w13.size)
        have Hz_w13 := Lib.hid ((Hz_w12.out.below b_w13 (Nat.le_refl _)).wide (Nat.zero_le _) b_w13.size)
        have HB_w13 := Lib.hid (below_below HB_w12.out b_w13 S_w12)
        have S_w13 := HB_w13.out.size
        have Hv_w13 := Lib.hid ((Rd.of_own ho_w13).wide (Nat.zero_le _) (Nat.le_refl _))
        clear b_w13 Hl_w12 Ht_w12 Hx_w12 Hy_w12 Hz_w12 HB_w12 ho_w13 
        go_wp2_with fail
        go_ret
        exact ⟨rfl, HB_w13.out⟩
      · have i11 : (1000 : Int) < (b.size : Int) := by omega
        go_enter Try.func6, Try.ntmps6
        go_wp2_with fail
        refine (awake11_any (w := _)).mono ?_
        rintro r w1 ⟨rfl, b1⟩
        go_wp2_with fail
        refine (few_is l true (Hl_w.out.below b1 (Nat.le_refl _)) HFW.out).mono ?_
        rintro r w2 ⟨rfl, rfl⟩
        go_wp2_with fail
        refine (awake11_any (w := _)).mono ?_
        rintro r w3 ⟨rfl, b3⟩
        go_wp2_with fail
        go_ret
        exact ⟨rfl, below_below b1 b3 b1.size⟩
    · have i10 : (1000 : Int) < (a.size : Int) := by omega
      go_enter Try.func6, Try.ntmps6
      go_wp2_with fail
      refine (awake11_any (w := _)).mono ?_
      rintro r w1 ⟨rfl, b1⟩
      go_wp2_with fail
      refine (few_is l true (Hl_w.out.below b1 (Nat.le_refl _)) HFW.out).mono ?_
      rintro r w2 ⟨rfl, rfl⟩
      go_wp2_with fail
      refine (awake11_any (w := _)).mono ?_
      rintro r w3 ⟨rfl, b3⟩
      go_wp2_with fail
      go_ret
      exact ⟨rfl, below_below b1 b3 b1.size⟩
  · have HNF : Hid (decide (FewS l) = false) := decide_eq_false hf
    clear hf
    go_enter Try.func6, Try.ntmps6
    go_wp2_with fail
    refine (awake11_any (w := _)).mono ?_
    rintro r w1 ⟨rfl, b1⟩
    go_wp2_with fail
    refine (few_is l false (Hl_w.out.below b1 (Nat.le_refl _)) HNF.out).mono ?_
    rintro r w2 ⟨rfl, rfl⟩
    go_wp2_with fail
    refine (awake11_any (w := _)).mono ?_
    rintro r w3 ⟨rfl, b3⟩
    go_wp2_with fail
    go_ret
    exact ⟨rfl, below_below b1 b3 b1.size⟩

set_option maxRecDepth 100000 in
theorem fsstJoins_lifted (os : Os) (started : os.Started) (H : Type) (enc : TypeId × Value → H) :
    ReturnsInHanded {} Try.checked os 6 .any (Rows.fsstJoinsSpec.pre6 enc Try.prog Try.f6 Rows.fsstJoinsRow.domain false) (Rows.fsstJoinsSpec.post enc Try.prog Try.f6 false true false false) := by
  refine returnsInHanded_of_change (C := Try.checked) own started (by kernel_rfl) Try.func6
    (ChangeSpec.witness6 (enc := enc) (C := Try.checked) false ⟨#[], #[.slice none 0 0, .string ByteArray.empty, .string ByteArray.empty], []⟩ 8 (by kernel_rfl) (by kernel_rfl) (by kernel_rfl) (by kernel_rfl)) ?_
  intro W base args ds gs before hval0 hW hcnd _
  have hval : ∀ (j : Nat) t v, Try.f6.params[j]? = some t → args[j]? = some v → Value.okWide Try.prog W .any base t v := hval0
  have hW' := hW
  obtain ⟨p, q, hA0, hV, rfl, hfz, hnd⟩ := hW
  have hA : DataW.TrodAll enc Try.prog W 0 (fun _ => true) true Try.f6.params.toList args.toList ds p := hA0
  have hA1 : DataW.TrodAll enc Try.prog W 0 (fun _ => true) true Try.f6.params.toList args.toList ds p := hA0
  rw [Try.params6] at hA hval
  obtain ⟨v0, vs0, d0, ds0, p0, q0, hargs, rfl, rfl, h0, r0⟩ := trodAll_cons hA
  obtain ⟨v1, vs1, d1, ds1, p1, q1, rfl, rfl, rfl, h1, r1⟩ := trodAll_cons r0
  obtain ⟨v2, vs2, d2, ds2, p2, q2, rfl, rfl, rfl, h2, r2⟩ := trodAll_cons r1
  obtain ⟨rfl, rfl, rfl⟩ := trodAll_nil r2
  obtain rfl : args = #[v0, v1, v2] := by cases args; simp_all
  obtain ⟨rfl, rfl⟩ := trodVars_none hV
  obtain ⟨A0, a0, c0, rfl, w0⟩ := open_strs Try.underlying22 Try.underlying9 (by kernel_rfl) (hval 0 22 v0 rfl rfl) h0
  obtain ⟨a1, rfl, rfl, rfl, w1⟩ := open_string Try.underlying9 (hval 1 9 v1 rfl rfl) h1
  obtain ⟨a2, rfl, rfl, rfl, w2⟩ := open_string Try.underlying9 (hval 2 9 v2 rfl rfl) h2
  clear hA0 hval0
  refine (fsstJoins_walk (w := W) w0 a1 w1 a2 w2).mono fun e W' ⟨he, bel⟩ => ?_
  subst he
  exact ⟨_, rfl, _, _, _, [], _, [], hW', trodAll_mk1 (shut_bool Try.underlying4 _), trodAll_below laidOut bel _ _ _ _ (by kernel_rfl) hA1, rfl, bel.frame _, fun h => by cases h⟩

theorem fsstJoins_over : Rows.fsstJoinsRow.holds Try.pinned (OpenSpec.ofChange Rows.fsstJoinsSpec) :=
  OpenClaim.holds_of_wide 6 Try.f6 rfl rfl rfl rfl rfl rfl rfl ⟨rfl, rfl, rfl, rfl, rfl⟩ rfl rfl rfl rfl rfl (by kernel_rfl) Try.func6 (by kernel_rfl)
    (of_decide_eq_true (by kernel_rfl)) (by unfold Func.isWrapper; first | (rw [if_pos (by decide +kernel)]; kernel_rfl) | (rw [if_neg (by decide +kernel)]; exact ⟨rfl, rfl⟩))
    (fun os started H enc _ => fsstJoins_lifted os started H enc)

/-- The statement. -/
theorem fsstJoins_proved : Rows.FsstJoinsSaid := fsstJoins_over


end Go.Proofs.Ytniehbghgialjaa
