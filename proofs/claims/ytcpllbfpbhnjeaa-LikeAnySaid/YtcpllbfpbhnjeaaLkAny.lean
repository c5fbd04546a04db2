/-
  Proved: LikeAny of layer 9: literals with the sign for any bytes between and around match just what has them in order, apart; as many signs of one byte match as many bytes, and no more; what came in reads as it did. Conditions: none of our own.
-/
import Derived.Test.YtcpllbfpbhnjeaaLawL
import Derived.Test.YtcpllbfpbhnjeaaShell
import Derived.Test.YtcpllbfpbhnjeaaShellN
import Derived.Test.YtcpllbfpbhnjeaaShi
import Derived.Test.YtcpllbfpbhnjeaaLkN
import Derived.Test.YtcpllbfpbhnjeaaApW
import Derived.Test.YtcpllbfpbhnjeaaShellT
import Derived.HandedShaped
namespace Go.Proofs.Ytcpllbfpbhnjeaa
set_option linter.unusedSimpArgs false
set_option linter.unusedVariables false
open Go.ChangeShapes Go.WideShapes Go.ChangeAt Go.RowKit
open Go.ChangeMaps (open_string shut_string)


/-- strings as rows of bytes -/
def wsL (l : List ByteArray) : List (List UInt8) := l.map fun s => s.data.toList
theorem wsL_length (l : List ByteArray) : (wsL l).length = l.length := by simp [wsL]
theorem pat_snoc (ws : List (List UInt8)) (x : List UInt8) : patL (ws ++ [x]) = patL ws ++ (lits x ++ [257]) := by simp [patL]
theorem pat_take {l : List ByteArray} {i : Nat} (h : i < l.length) : patL (wsL (l.take (i + 1))) = patL (wsL (l.take i)) ++ (lits l[i].data.toList ++ [257]) := by
  rw [List.take_succ_eq_append_getElem h, wsL, List.map_append]
  exact pat_snoc _ _
theorem wsL_drop {l : List ByteArray} {i : Nat} (h : i < l.length) : wsL (l.drop i) = l[i].data.toList :: wsL (l.drop (i + 1)) := by rw [List.drop_eq_getElem_cons h]; rfl
theorem lits_le (x : List UInt8) : ∀ n ∈ lits x, n ≤ 257 := by
  intro n hn
  obtain ⟨c, _, rfl⟩ := List.mem_map.1 hn
  have := UInt8.toNat_lt c
  omega
theorem pat_le (ws : List (List UInt8)) : ∀ n ∈ patL ws, n ≤ 257 := by
  intro n hn
  unfold patL at hn
  rcases List.mem_cons.1 hn with rfl | hn
  · exact Nat.le_refl _
  · obtain ⟨x, _, hx⟩ := List.mem_flatMap.1 hn
    rcases List.mem_append.1 hx with hx | hx
    · exact lits_le x n hx
    · rw [List.mem_singleton.1 hx]; exact Nat.le_refl _
theorem le_app {ds es : List Nat} (h : ∀ n ∈ ds, n ≤ 257) (h2 : ∀ n ∈ es, n ≤ 257) : ∀ n ∈ ds ++ es, n ≤ 257 := fun n hn => (List.mem_append.1 hn).elim (h n) (h2 n)
theorem ints_append (a b : List Nat) : ints (a ++ b) = ints a ++ ints b := by simp [ints]
theorem lits_take {s : ByteArray} {j : Nat} (h : j < s.size) : lits (s.data.toList.take (j + 1)) = lits (s.data.toList.take j) ++ [s[j].toNat] := by
  have h2 : j < s.data.toList.length := by rw [lenB]; exact h
  rw [List.take_succ_eq_append_getElem h2]
  simp [lits]
  rfl
/-- what is still to be shown of the strings from i on -/
def Still (l : List ByteArray) (s : ByteArray) (i : Nat) (b : Bool) (z : ByteArray) : Prop := hasL (wsL l) s.data.toList = (b && hasL (wsL (l.drop i)) z.data.toList)
theorem dots_match (s : ByteArray) : mat (List.replicate s.size 256) s.data.toList = true := by
  have := mat_dots s.size [] s.data.toList
  rw [List.append_nil, lenB, decide_eq_true (Nat.le_refl _), List.drop_of_length_le (by rw [lenB]; exact Nat.le_refl _)] at this
  rw [this]; rfl
theorem dots_more (s : ByteArray) : mat (List.replicate s.size 256 ++ [256]) s.data.toList = false := by
  rw [mat_dots, List.drop_of_length_le (by rw [lenB]; exact Nat.le_refl _), mat_none (by decide), Bool.and_false]
theorem dots_any (s : ByteArray) : mat (List.replicate s.size 256 ++ [257, 257]) s.data.toList = true := by
  rw [mat_dots, lenB, decide_eq_true (Nat.le_refl _), List.drop_of_length_le (by rw [lenB]; exact Nat.le_refl _)]
  rfl

set_option maxRecDepth 20000 in
set_option maxHeartbeats 4000000 in
theorem likeAny_walk {w : World} {A : Option Addr} {l : List ByteArray} {c : Nat} (h : Rd w 0 w.heap.size A c (sv l) ∧ ∀ s ∈ l, s.size ≤ maxLen) (s : ByteArray) (hs : s.size ≤ 9223372036854775807) (hml : ∃ m, MaxLenIs m w) :
    Calls Try.prog 7 #[.slice A l.length c, .string s] w fun e w' => e = .returned (.bool true) ∧ Below w.heap.size w w' := by
  obtain ⟨h, hsz⟩ := h
  obtain ⟨m, hm⟩ := hml
  have hl := h.len
  have hc := h.cap
  rw [sv_length] at hl
  unfold maxLen at hc
  have H := Lib.hid h
  have HM := Lib.hid hm
  clear h hm hsz
  by_cases h6 : (20 : Int) < (l.length : Int)
  · go_enter Try.func7, Try.ntmps7
    go_wp2_with fail
    refine (awake9_any (w := _)).mono ?_
    rintro r w1 ⟨rfl, b1⟩
    go_wp2_with fail
    refine (awake9_any (w := _)).mono ?_
    rintro r w2 ⟨rfl, b2⟩
    go_wp2_with fail
    go_ret
    exact ⟨rfl, below_below b1 b2 b1.size⟩
  · by_cases h2 : (300 : Int) < (s.size : Int)
    · go_enter Try.func7, Try.ntmps7
      go_wp2_with fail
      refine (awake9_any (w := _)).mono ?_
      rintro r w1 ⟨rfl, b1⟩
      go_wp2_with fail
      refine (awake9_any (w := _)).mono ?_
      rintro r w2 ⟨rfl, b2⟩
      go_wp2_with fail
      go_ret
      exact ⟨rfl, below_below b1 b2 b1.size⟩
    · go_enter Try.func7, Try.ntmps7
      go_wp2_with fail
      refine (awake9_any (w := _)).mono ?_
      rintro r w1 ⟨rfl, b1⟩
      have s1 := b1.size
      have HB1 := Lib.hid b1
      have HO1 : Hid ((w1.alloc (.cells #[.int .i64 257] 3)).ownsRow w.heap.size 3 1 (.slice (some ⟨w1.heap.size, 0, none⟩) 1 1) (ints (patL (wsL (l.take 0)))).length (iv (ints (patL (wsL (l.take 0)))))) := by
        have := World.ownsRow_lit (e := 3) (size := 1) (base := w.heap.size) w1 #[.int .i64 257] 1 s1 (by simp [maxLen]) (by simp)
        exact this
      clear b1
      go_wp2_with fail
      go_loopw [5, 6, 7, 8] (fun x5 x6 x7 x8 wr => ∃ (i : Nat) (z : ByteArray) (b : Bool) (zs : List Int) (A' : Option Addr) (c' : Nat), i ≤ l.length ∧ x5 = .slice A' zs.length c' ∧ x6 = .string z ∧ x7 = .bool b ∧ x8 = .int .i64 (i : Int) ∧ z.size ≤ s.size ∧ zs.length ≤ 1 + 51 * i ∧
        zs = ints (patL (wsL (l.take i))) ∧ Still l s i b z ∧ wr.ownsRow w.heap.size 3 1 (.slice A' zs.length c') zs.length (iv zs) ∧ Below w.heap.size w wr) (fun _ _ _ x8 _ => l.length - (intOf x8).toNat)
      case atStart => exact ⟨0, s, true, _, _, _, Nat.zero_le _, rfl, rfl, rfl, rfl, Nat.le_refl _, by simp [patL, ints, wsL], rfl, rfl, HO1.out, HB1.out.alloc s1 _⟩
      case round =>
        clear HO1 HB1 s1
        obtain ⟨i, z, b, zs, A', c', hi, rfl, rfl, rfl, rfl, hzs, hzl, hze, hst, hown, hb⟩ := hrel
        obtain ⟨wo, hwo⟩ : ∃ wo, wo = wr := ⟨_, rfl⟩
        subst hwo
        have HZE := Lib.hid hze
        have HST := Lib.hid hst
        have HO := Lib.hid hown
        have HB := Lib.hid hb
        have hsz := hb.size
        clear hze hst hown hb
        by_cases hlt : i < l.length
        · have ik : (i : Int) < (l.length : Int) := by omega
          obtain ⟨g, off, rfl, _, _, hcell0⟩ := H.out.str hlt
          have HCELL : Hid (∀ w', Below w.heap.size w w' → w'.cell? ⟨g, off + i, none⟩ = some (.string l[i])) := fun w' hb => (hb.cell (World.block_lt_of_cell? _ _ hcell0)).trans hcell0
          clear hcell0
          have hcell := HCELL.out _ HB.out
          have HPT := Lib.hid (pat_take hlt)
          have HWD := Lib.hid (wsL_drop hlt)
          generalize l[i] = y at *
          by_cases h50 : (50 : Int) < (y.size : Int)
          · go_wp2_with fail
            go_ret
            exact ⟨rfl, HB.out⟩
          · go_wp2_with fail
            clear hcell
            go_loopw [5, 9] (fun x5 x9 wr => ∃ (j : Nat) (ys : List Int) (A2 : Option Addr) (c2 : Nat), j ≤ y.size ∧ x9 = .int .i64 (j : Int) ∧ x5 = .slice A2 ys.length c2 ∧ ys.length = zs.length + j ∧ ys = zs ++ ints (lits (y.data.toList.take j)) ∧
              wr.ownsRow w.heap.size 3 1 (.slice A2 ys.length c2) ys.length (iv ys) ∧ Below w.heap.size w wr) (fun _ x9 _ => y.size - (intOf x9).toNat)
            case atStart => exact ⟨0, zs, A', c', Nat.zero_le _, rfl, rfl, rfl, by simp [lits, ints], HO.out, HB.out⟩
            case round =>
              clear HO HB
              obtain ⟨j, ys, A2, c2, hj, rfl, rfl, hyl, hye, hown, hb⟩ := hrel
              have HYE := Lib.hid hye
              have HYL := Lib.hid hyl
              have hyb : ys.length ≤ 2000 := by omega
              have HO := Lib.hid hown
              have HB := Lib.hid hb
              have hsz2 := hb.size
              have hcell := HCELL.out _ HB.out
              clear hye hown hb hyl
              by_cases hlj : j < y.size
              · have ij : (j : Int) < (y.size : Int) := by omega
                have HLT := Lib.hid (lits_take hlj)
                have ly : y[j].toNat < 256 := UInt8.toNat_lt _
                go_wp2_with (at_builtin; refine wpList_push_num (v := .slice A2 ys.length c2) w.heap.size ys ((y[j].toNat : Int)) rfl _ _ rfl rfl rfl rfl (by rw [World.cell?_alloc_at _ _ _ _ rfl]; rfl) (HO.out.alloc _) (by omega) (by simp; omega) ?_; intro A3 c3 w3 ho3 hg3)
                go_roundw
                case rel => exact ⟨j + 1, ys ++ [(y[j].toNat : Int)], A3, c3, by omega, by go_num, by rw [List.length_append]; rfl, by rw [List.length_append, HYL.out]; rfl, by rw [HYE.out, HLT.out, ints_append, List.append_assoc]; rfl, ho3, (HB.out.alloc (by omega) _).grown hg3 (by simp; omega) (fun q hq => (own_lt HO.out hq).1)⟩
                case measure => simp [intOf] <;> omega
              · have ij : ¬ (j : Int) < (y.size : Int) := by omega
                have hjy : j = y.size := by omega
                have HEND : Hid (ys ++ [(257 : Int)] = ints (patL (wsL (l.take (i + 1))))) := by
                  unfold Hid
                  rw [HPT.out, HYE.out, HZE.out, hjy, List.take_of_length_le (l := y.data.toList) (by rw [lenB]; exact Nat.le_refl _), ints_append, ints_append, List.append_assoc]
                  rfl
                have hyl2 : ys.length ≤ 1 + 51 * i + 50 := by have := HYL.out; omega
                clear hjy
                go_wp2_with (at_builtin; refine wpList_push_num (v := .slice A2 ys.length c2) w.heap.size ys (257) rfl _ _ rfl rfl rfl rfl (by rw [World.cell?_alloc_at _ _ _ _ rfl]; rfl) (HO.out.alloc _) (by omega) (by simp; omega) ?_; intro A3 c3 w3 ho3 hg3; refine held ?_)
                refine ⟨?_⟩
                have hb3 : Below w.heap.size w w3 := (HB.out.alloc (by omega) _).grown hg3 (by simp; omega) (fun q hq => (own_lt HO.out hq).1)
                have HB3 := Lib.hid hb3
                have HO3 := Lib.hid ho3
                have hcell3 := HCELL.out _ hb3
                have HIX := Lib.hid (index_any (w := w3) z y m (by omega) ((hb3.cell (cell_lt' HM.out)).trans HM.out))
                clear hb3 ho3 hg3 hcell
                rcases index_or z.data.toList y.data.toList with hx | ⟨q, hx, hq⟩
                · rw [hx] at HIX
                  have HNS : Hid (Still l s (i + 1) false z) := by
                    have := HST.out
                    unfold Still at this
                    unfold Hid Still
                    rw [this, HWD.out, has_none hx, Bool.and_false, Bool.false_and]
                  clear hx
                  go_wp2_with fail
                  refine HIX.out.mono ?_
                  rintro r w4 ⟨rfl, rfl⟩
                  go_wp2_with fail
                  go_roundw
                  case rel => exact ⟨i + 1, z, false, ys ++ [(257 : Int)], A3, c3, by omega, by rw [List.length_append]; rfl, rfl, rfl, by go_num, by first | (rw [HTZ.out]; omega) | omega, by rw [List.length_append, List.length_cons, List.length_nil]; omega, HEND.out, HNS.out, HO3.out, HB3.out⟩
                  case measure => simp [intOf] <;> omega
                · rw [hx] at HIX
                  rw [lenB, lenB] at hq
                  have HTB : Hid ((z.extract (q + y.size) z.size).data.toList = z.data.toList.drop (q + y.size)) := tailB _ _
                  have HTZ : Hid ((z.extract (q + y.size) z.size).size = z.size - (q + y.size)) := tailB_size _ _
                  have HNS : Hid (Still l s (i + 1) b (z.extract (q + y.size) z.size)) := by
                    have := HST.out
                    unfold Still at this
                    unfold Hid Still
                    rw [this, HWD.out, has_some hx, HTB.out, lenB]
                  clear hx
                  go_wp2_with fail
                  refine HIX.out.mono ?_
                  rintro r w4 ⟨rfl, rfl⟩
                  go_wp2_with fail
                  go_roundw
                  case rel => exact ⟨i + 1, _, b, ys ++ [(257 : Int)], A3, c3, by omega, by rw [List.length_append]; rfl, rfl, rfl, by go_num, by first | (rw [HTZ.out]; omega) | omega, by rw [List.length_append, List.length_cons, List.length_nil]; omega, HEND.out, HNS.out, HO3.out, HB3.out⟩
                  case measure => simp [intOf] <;> omega
        · have ik : ¬ (i : Int) < (l.length : Int) := by omega
          have hfin : hasL (wsL l) s.data.toList = b := by
            have := HST.out
            unfold Still at this
            rw [this, List.drop_of_length_le (by omega)]
            show (b && true) = b
            rw [Bool.and_true]
          have hns : patL (wsL (l.take i)) = patL (wsL l) := by rw [List.take_of_length_le (by omega)]
          have HMS : Hid (mat (patL (wsL l)) s.data.toList = b) := by unfold Hid; rw [mat_pat, hfin]
          have HSG : Hid (Rd wo 0 wo.heap.size A' c' (iv (ints (patL (wsL l))))) := by
            unfold Hid
            rw [← hns, ← HZE.out]
            exact (Rd.own HO.out).wide (Nat.zero_le _) (Nat.le_refl _)
          have HZL : Hid (zs.length = (patL (wsL l)).length) := by unfold Hid; rw [← hns, HZE.out, ints_length]
          have HP7 := Lib.hid (pat_le (wsL l))
          generalize patL (wsL l) = ps at *
          clear hfin hns HST HZE
          go_wp2_with fail
          go_loopw [11, 12] (fun x11 x12 wr => ∃ (k : Nat) (ys : List Int) (A2 : Option Addr) (c2 : Nat), k ≤ s.size ∧ x12 = .int .i64 (k : Int) ∧ x11 = .slice A2 ys.length c2 ∧ ys.length = k ∧ ys = ints (List.replicate k 256) ∧
            wr.ownsRow wo.heap.size 3 1 (.slice A2 ys.length c2) ys.length (iv ys) ∧ Below wo.heap.size wo wr) (fun _ x12 _ => s.size - (intOf x12).toNat)
          case atStart => exact ⟨0, [], none, 0, Nat.zero_le _, rfl, rfl, rfl, rfl, World.ownsRow_nil _ _ _ _, Below.refl _ _⟩
          case round =>
            obtain ⟨k, ys, A2, c2, hk, rfl, rfl, hyl, hye, hown, hb⟩ := hrel
            have HYE := Lib.hid hye
            have HYL := Lib.hid hyl
            have hyb : ys.length ≤ 300 := by omega
            have HO2 := Lib.hid hown
            have HB2 := Lib.hid hb
            have hsz2 := hb.size
            clear hye hown hb hyl
            by_cases hlk : k < s.size
            · have ikk : (k : Int) < (s.size : Int) := by omega
              go_wp2_with (at_builtin; refine wpList_push_num (v := .slice A2 ys.length c2) wo.heap.size ys (256) rfl _ _ rfl rfl rfl rfl (by rw [World.cell?_alloc_at _ _ _ _ rfl]; rfl) (HO2.out.alloc _) (by omega) (by simp; omega) ?_; intro A3 c3 w3 ho3 hg3)
              go_roundw
              case rel => exact ⟨k + 1, ys ++ [(256 : Int)], A3, c3, by omega, by go_num, by rw [List.length_append]; rfl, by rw [List.length_append, HYL.out]; rfl, by rw [HYE.out, List.replicate_succ', ints_append]; rfl, ho3, (HB2.out.alloc (by omega) _).grown hg3 (by simp; omega) (fun q hq => (own_lt HO2.out hq).1)⟩
              case measure => simp [intOf] <;> omega
            · have ikk : ¬ (k : Int) < (s.size : Int) := by omega
              have hks : k = s.size := by omega
              have HRD : Hid (Rd wr 0 wr.heap.size A2 c2 (iv (ints (List.replicate s.size 256)))) := by
                unfold Hid
                rw [← hks, ← HYE.out]
                exact (Rd.own HO2.out).wide (Nat.zero_le _) (Nat.le_refl _)
              have HYS : Hid (ys.length = (List.replicate s.size 256).length) := by unfold Hid; rw [List.length_replicate, HYL.out, hks]
              have HMD := Lib.hid (dots_match s)
              have HMM := Lib.hid (dots_more s)
              have HMA := Lib.hid (dots_any s)
              have HD7 : Hid (∀ n ∈ List.replicate s.size 256, n ≤ 257) := fun n hn => by rw [List.eq_of_mem_replicate hn]; decide
              have hdl : (List.replicate s.size 256).length ≤ 300 := by rw [List.length_replicate]; omega
              clear hks HYE
              generalize List.replicate s.size 256 = ds at *
              rw [HYS.out]
              rw [HZL.out]
              have HSG2 := Lib.hid (HSG.out.below HB2.out (Nat.le_refl _))
              have B2 := Lib.hid (below_below HB.out HB2.out hsz)
              go_wp2_with fail
              refine (lmatch_is ps s b HSG2.out HP7.out (by omega) HMS.out).mono ?_
              rintro r w4 ⟨rfl, n4, rfl⟩
              go_wp2_with fail
              refine (lmatch_is ds s true (HRD.out.drewN n4) HD7.out (by omega) HMD.out).mono ?_
              rintro r w4 ⟨rfl, n5, rfl⟩
              have HRD5 := Lib.hid ((HRD.out.drewN n4).drewN n5)
              have B5 := Lib.hid (below_drewN' (below_drewN' B2.out n4) n5)
              have s5 : wr.heap.size = ((wr.drewN n4).drewN n5).heap.size := rfl
              generalize (wr.drewN n4).drewN n5 = w5 at *
              rw [s5] at HRD5
              have hil := ints_length ds
              obtain ⟨A6, c6, w6, hrun6, ho6, hg6⟩ := append_nums (w5.alloc (.cells #[] 3)) w5.heap.size (.slice (some ⟨w5.heap.size, 0, none⟩) 0 0) [] (ints ds) (ints ds) (by simp) (own_none w5 _) (HRD5.out.alloc (Nat.le_refl _) _) (by simp; omega) (by simp)
              rw [hil] at hrun6 ho6
              have k6 : Below w5.heap.size w5 w6 := ((Below.refl _ w5).alloc (Nat.le_refl _) _).grown hg6 (by simp) (by simp [Value.ownBlock])
              have HO6 := Lib.hid ho6
              have K6 := Lib.hid k6
              have s6 := k6.size
              clear ho6 hg6 k6
              go_wp2_with (at_builtin; refine wpList_append_want (by first | rfl | (go_simp; done) | (go_simp; omega)) _ _ _ _ rfl rfl rfl hrun6 ?_; refine held ?_)
              refine ⟨?_⟩
              clear hrun6
              have hrd1 := rd_ints w6 3 [256] #[.int .i64 256] rfl (by simp)
              rw [← hil] at HO6
              obtain ⟨A7, c7, w7, hrun7, ho7, hg7⟩ := append_nums (w6.alloc (.cells #[.int .i64 256] 3)) w5.heap.size (.slice A6 (ints ds).length c6) (ints ds) [256] (ints (ds ++ [256])) (by rw [ints_append]; rfl) (HO6.out.alloc _) hrd1 (by simp; omega) (by simp; omega)
              simp only [ints_length] at hrun7 ho7
              have k7 : Below w5.heap.size w5 w7 := (K6.out.alloc s6 _).grown hg7 (by simp; omega) (fun q hq => (own_lt HO6.out hq).1)
              have HF7 : Hid (Rd w7 0 w7.heap.size A7 c7 (iv (ints (ds ++ [256])))) := (Rd.own (by rw [← ints_length] at ho7; exact ho7)).wide (Nat.zero_le _) (Nat.le_refl _)
              have K7 := Lib.hid k7
              have s7 := k7.size
              have hl7 : (ds ++ [256]).length ≤ 400 := by simp; omega
              clear ho7 hg7 k7 hrd1
              go_wp2_with (at_builtin; refine wpList_append_want (by first | rfl | (go_simp; done) | (go_simp; omega)) _ _ _ _ rfl rfl rfl hrun7 ?_; refine held ?_)
              refine ⟨?_⟩
              clear hrun7
              have hm7 := lmatch_is (ds ++ [256]) s false HF7.out (le_app HD7.out (by decide)) (by omega) HMM.out
              rw [List.length_append] at hm7
              have HM7 := Lib.hid hm7
              clear hm7
              go_wp2_with fail
              refine HM7.out.mono ?_
              rintro r w8 ⟨rfl, n8, rfl⟩
              have HRD8 := Lib.hid ((HRD5.out.below K7.out (Nat.le_refl _)).drewN n8)
              have K8 := Lib.hid (below_drewN' K7.out n8)
              have s8 : w5.heap.size ≤ (w7.drewN n8).heap.size := s7
              clear HF7 HO6 HM7 K6 K7
              generalize w7.drewN n8 = w8 at *
              obtain ⟨A9, c9, w9, hrun9, ho9, hg9⟩ := append_nums (w8.alloc (.cells #[] 3)) w8.heap.size (.slice (some ⟨w8.heap.size, 0, none⟩) 0 0) [] (ints ds) (ints ds) (by simp) (own_none w8 _) (HRD8.out.alloc s8 _) (by simp; omega) (by simp)
              rw [hil] at hrun9 ho9
              have k9 : Below w5.heap.size w5 w9 := (K8.out.alloc s8 _).grown hg9 (by simp; omega) (by simp [Value.ownBlock]; omega)
              have s89 : w8.heap.size ≤ w9.heap.size := by have := hg9.size; simp at this; omega
              have HO9 := Lib.hid ho9
              have K9 := Lib.hid k9
              have s9 := k9.size
              clear ho9 hg9 k9
              go_wp2_with (at_builtin; refine wpList_append_want (by first | rfl | (go_simp; done) | (go_simp; omega)) _ _ _ _ rfl rfl rfl hrun9 ?_; refine held ?_)
              refine ⟨?_⟩
              clear hrun9
              have hrd2 := rd_ints w9 3 [257, 257] #[.int .i64 257, .int .i64 257] rfl (by simp)
              rw [← hil] at HO9
              obtain ⟨A10, c10, w10, hrun10, ho10, hg10⟩ := append_nums (w9.alloc (.cells #[.int .i64 257, .int .i64 257] 3)) w8.heap.size (.slice A9 (ints ds).length c9) (ints ds) [257, 257] (ints (ds ++ [257, 257])) (by rw [ints_append]; rfl) (HO9.out.alloc _) hrd2 (by simp; omega) (by simp; omega)
              simp only [ints_length] at hrun10 ho10
              have k10 : Below w5.heap.size w5 w10 := (K9.out.alloc s9 _).grown hg10 (by simp; omega) (fun q hq => by have := (own_lt HO9.out hq).1; omega)
              have hf10 : Rd w10 0 w10.heap.size A10 c10 (iv (ints (ds ++ [257, 257]))) := (Rd.own (by rw [← ints_length] at ho10; exact ho10)).wide (Nat.zero_le _) (Nat.le_refl _)
              have K10 := Lib.hid k10
              have hm10 := lmatch_is (ds ++ [257, 257]) s true hf10 (le_app HD7.out (by decide)) (by omega) HMA.out
              rw [List.length_append] at hm10
              have HM10 := Lib.hid hm10
              clear ho10 hg10 k10 hrd2 hf10 hm10
              go_wp2_with (at_builtin; refine wpList_append_want (by first | rfl | (go_simp; done) | (go_simp; omega)) _ _ _ _ rfl rfl rfl hrun10 ?_; refine held ?_)
              refine ⟨?_⟩
              clear hrun10
              go_wp2_with fail
              refine HM10.out.mono ?_
              rintro r w11 ⟨rfl, n11, rfl⟩
              go_wp2_with fail
              go_ret
              exact ⟨rfl, below_below B5.out (below_drewN' K10.out n11) (by rw [← s5]; exact Nat.le_trans hsz hsz2)⟩


set_option maxRecDepth 100000 in
theorem likeAny_lifted (os : Os) (started : os.Started) (H : Type) (enc : TypeId × Value → H) :
    ReturnsInHanded {} Try.checked os 7 .any (Rows.likeAnySpec.pre6 enc Try.prog Try.f7 Rows.likeAnyRow.domain false) (Rows.likeAnySpec.post enc Try.prog Try.f7 false true false false) := by
  refine returnsInHanded_of_change_shaped (C := Try.checked) own started (by kernel_rfl) Try.func7
    (ChangeSpec.witness6 (enc := enc) (C := Try.checked) false ⟨#[], #[.slice none 0 0, .string ByteArray.empty], []⟩ 8 (by kernel_rfl) (by kernel_rfl) (by kernel_rfl) (by kernel_rfl)) ?_
  intro W base args ds gs before hval0 hW hcnd _ hsh _
  have hval : ∀ (j : Nat) t v, Try.f7.params[j]? = some t → args[j]? = some v → Value.okWide Try.prog W .any base t v := hval0
  have hW' := hW
  obtain ⟨p, q, hA0, hV, rfl, hfz, hnd⟩ := hW
  have hA : DataW.TrodAll enc Try.prog W 0 (fun _ => true) true Try.f7.params.toList args.toList ds p := hA0
  have hA1 : DataW.TrodAll enc Try.prog W 0 (fun _ => true) true Try.f7.params.toList args.toList ds p := hA0
  rw [Try.params7] at hA hval
  obtain ⟨v0, vs0, d0, ds0, p0, q0, hargs, rfl, rfl, h0, r0⟩ := trodAll_cons hA
  obtain ⟨v1, vs1, d1, ds1, p1, q1, rfl, rfl, rfl, h1, r1⟩ := trodAll_cons r0
  obtain ⟨rfl, rfl, rfl⟩ := trodAll_nil r1
  obtain rfl : args = #[v0, v1] := by cases args; simp_all
  obtain ⟨rfl, rfl⟩ := trodVars_none hV
  obtain ⟨A0, a0, c0, rfl, w0⟩ := open_strs Try.underlying32 Try.underlying9 (by kernel_rfl) (hval 0 32 v0 rfl rfl) h0
  obtain ⟨a1, rfl, rfl, rfl, w1⟩ := open_string Try.underlying9 (hval 1 9 v1 rfl rfl) h1
  clear hA0 hval0
  refine (likeAny_walk (w := W) w0 a1 w1 (maxlen_of hsh)).mono fun e W' ⟨he, bel⟩ => ?_
  subst he
  exact ⟨_, rfl, _, _, _, [], _, [], hW', trodAll_mk1 (shut_bool Try.underlying4 _), trodAll_below laidOut bel _ _ _ _ (by kernel_rfl) hA1, rfl, bel.frame _, fun h => by cases h⟩

theorem likeAny_over : Rows.likeAnyRow.holds Try.pinned (OpenSpec.ofChange Rows.likeAnySpec) :=
  OpenClaim.holds_of_wide 7 Try.f7 rfl rfl rfl rfl rfl rfl rfl ⟨rfl, rfl, rfl, rfl, rfl⟩ rfl rfl rfl rfl rfl (by kernel_rfl) Try.func7 (by kernel_rfl)
    (of_decide_eq_true (by kernel_rfl)) (by unfold Func.isWrapper; first | (rw [if_pos (by decide +kernel)]; kernel_rfl) | (rw [if_neg (by decide +kernel)]; exact ⟨rfl, rfl⟩))
    (fun os started H enc _ => likeAny_lifted os started H enc)

/-- The statement. -/
theorem likeAny_proved : Rows.LikeAnySaid := likeAny_over


end Go.Proofs.Ytcpllbfpbhnjeaa
