/-
  Proved: HeapKeeps returns true for every slice of bytes, and leaves what was there as it was. No condition.
-/
import Derived.Test.YtpainhgjiddpkaaAwaH
import Derived.Test.YtpainhgjiddpkaaHepO
import Derived.Test.YtpainhgjiddpkaaShell
namespace Go.Proofs.Ytpainhgjiddpkaa
set_option linter.unusedSimpArgs false
set_option linter.unusedVariables false
open Go.ChangeShapes Go.WideShapes Go.ChangeAt Go.RowKit
open Go.ChangeMaps (open_string shut_string)

set_option maxRecDepth 20000 in
set_option maxHeartbeats 4000000 in
theorem heapKeeps_walk {w : World} {A : Option Addr} {bs : List UInt8} {c : Nat} (h : Rd w 0 w.heap.size A c (bv bs)) :
    Calls Try.prog 7 #[.slice A bs.length c] w fun e w' => e = .returned (.bool true) ∧ Below w.heap.size w w' := by
  have hl := h.len
  have hc := h.cap
  rw [bv_length] at hl
  unfold maxLen at hc
  have H := Lib.hid h
  clear h
  by_cases h5 : bs.length ≤ 1000
  · go_enter Try.func7, Try.ntmps7
    go_wp2_with fail
    refine (awake7_any _).mono ?_
    rintro r w1 ⟨rfl, hb1⟩
    have HB1 := Lib.hid hb1
    have s1 := hb1.size
    clear hb1
    obtain ⟨A1, c1, w2, hrun, hown, hg2⟩ := append_bytes (w1.alloc (.cells #[] 5)) w1.heap.size (.slice (some ⟨w1.heap.size, 0, none⟩) 0 0) [] bs (own_lit w1 [] #[] rfl (by simp)) ((H.out.below HB1.out (Nat.le_refl _)).alloc s1 _) (by simp; omega) (by simp)
    simp only [List.length_nil, Nat.zero_add, List.nil_append] at hrun hown
    have k2 : Below w.heap.size w w2 := (HB1.out.alloc s1 _).grown hg2 (by simp; omega) (by simp [Value.ownBlock]; omega)
    have s12 : w1.heap.size ≤ w2.heap.size := by have := hg2.size; simp at this; omega
    have HO := Lib.hid hown
    have HK2 := Lib.hid k2
    have s2 := k2.size
    clear hown hg2 k2
    have hof := of_any bs 100 ((Rd.own HO.out).wide (Nat.zero_le _) (Nat.le_refl _)) (Nat.le_refl _) (by omega)
    have HOF := Lib.hid hof
    clear hof
    go_wp2_with (at_builtin; refine wpList_append_run rfl _ _ _ _ rfl rfl rfl hrun ?_)
    refine HOF.out.mono ?_
    rintro r w3 ⟨g, es, M, rfl, hp3, _, _, hb3⟩
    have HP3 := Lib.hid hp3
    have HO3 := Lib.hid (own_below HO.out hb3 (Nat.le_refl _))
    have HK3 := Lib.hid (below_below HK2.out hb3 s2)
    have s3 := hb3.size
    have HLO := Lib.hid (fun k => own_lt (k := k) HO.out)
    clear hp3 hb3 hrun
    unfold hp
    go_wp2_with fail
    go_loopw [5] (fun i wr => ∃ (k : Nat) (xs : List Value), k ≤ bs.length ∧ i = .int .i64 (k : Int) ∧ wr.ownsRow w1.heap.size 5 1 (.slice A1 bs.length c1) bs.length xs ∧ (∀ j, k ≤ j → xs[j]? = (bv bs)[j]?) ∧ w3.grownBy wr (Value.ownBlock (.slice A1 bs.length c1))) (fun i _ => bs.length - (intOf i).toNat)
    case atStart => exact ⟨0, _, Nat.zero_le _, rfl, HO3.out, fun _ _ => rfl, gb_refl _ _⟩
    case round =>
      obtain ⟨k, xs, hk, rfl, hown, hxs, hgr⟩ := hrel
      have HX := Lib.hid hxs
      have HG := Lib.hid hgr
      clear hxs hgr
      by_cases hlt : k < bs.length
      · obtain ⟨go, rfl, hgo, hgo2⟩ := own_spot hown (by omega)
        have hcell : wr.cell? ⟨go, k, none⟩ = some (.int .u8 (bs[k].toNat : Int)) := by
          rw [hown.cellAt k (by omega), HX.out k (Nat.le_refl _), bv_get bs k hlt]
        have hfr := hown.frozenAt k
        have HS := fun u => Lib.hid (hown.stored k u)
        have hx256 : bs[k].toNat < 256 := UInt8.toNat_lt _
        generalize bs[k].toNat = x at *
        clear hown
        go_wp2
        go_roundw
        case rel =>
          refine ⟨k + 1, _, by omega, by go_num, (HS _).out.1, fun j hj => ?_, HG.out.trans (HS _).out.2⟩
          rw [List.getElem?_set_ne (by omega)]
          exact HX.out j (by omega)
        case measure => simp [intOf]; omega
      · clear hown
        obtain ⟨w4, hw4⟩ : ∃ w4, w4 = wr := ⟨_, rfl⟩
        subst hw4
        have hlx : ∀ i, Value.ownBlock (.slice A1 bs.length c1) = some i → w1.heap.size ≤ i ∧ i < w2.heap.size := HLO.out
        have kr := HK3.out.grown HG.out (by omega) (fun i hi => by have := hlx i hi; omega)
        have hpr := HP3.out.out (Out.of_gb (X := fun i => Value.ownBlock (.slice A1 bs.length c1) = some i) HG.out (fun i hi => hi)) (fun i hi he => by have := (HP3.out.mine i hi).1; have := (hlx i he).2; omega)
        have hby := bytes_any hpr
        have HKR := Lib.hid kr
        have HPR := Lib.hid hpr
        have HBY := Lib.hid hby
        have sr := kr.size
        clear kr hpr hby hlx
        unfold hp at HBY
        go_wp2_with fail
        refine HBY.out.mono ?_
        rintro r w5 ⟨A5, c5, rfl, ho5, hb5⟩
        have hst5 := run_string_rd (P := Try.prog) w5 36 9 5 Try.underlying36 Try.underlying5 Try.underlying9 _ _ _ _ bs (Rd.of_own ho5)
        have HK5 := Lib.hid (below_below HKR.out hb5 sr)
        have hstb := run_string_rd (P := Try.prog) w5 36 9 5 Try.underlying36 Try.underlying5 Try.underlying9 _ _ _ _ bs (H.out.below HK5.out (Nat.le_refl _))
        have HP5 := Lib.hid (HPR.out.below hb5 (Nat.le_refl _))
        have HO5 := Lib.hid ho5
        have s5 := hb5.size
        have HL5 := Lib.hid (fun k => own_lt (k := k) ho5)
        clear ho5 hb5
        go_wp2_with fail
        clear hst5 hstb
        go_loopw [8] (fun i wq => ∃ (k : Nat) (xs : List Value), k ≤ bs.length ∧ i = .int .i64 (k : Int) ∧ wq.ownsRow w4.heap.size 5 1 (.slice A5 bs.length c5) bs.length xs ∧ w5.grownBy wq (Value.ownBlock (.slice A5 bs.length c5))) (fun i _ => bs.length - (intOf i).toNat)
        case atStart => exact ⟨0, _, Nat.zero_le _, rfl, HO5.out, gb_refl _ _⟩
        case round =>
          obtain ⟨k, xs, hk, rfl, hown, hgr⟩ := hrel
          have HG5 := Lib.hid hgr
          clear hgr
          by_cases hlt : k < bs.length
          · obtain ⟨go, rfl, hgo, hgo2⟩ := own_spot hown (by omega)
            have hxl : xs.length = bs.length := by simpa using hown.1
            obtain ⟨u0, hu0⟩ : ∃ u0, xs[k]? = some u0 := ⟨_, List.getElem?_eq_getElem (by omega)⟩
            have hcell : wr.cell? ⟨go, k, none⟩ = some u0 := by rw [hown.cellAt k (by omega), hu0]
            have hfr := hown.frozenAt k
            have HS := fun u => Lib.hid (hown.stored k u)
            clear hown hxl hu0
            go_wp2
            go_roundw
            case rel => exact ⟨k + 1, _, by omega, by go_num, (HS _).out.1, HG5.out.trans (HS _).out.2⟩
            case measure => simp [intOf]; omega
          · clear hown
            have hlx : ∀ i, Value.ownBlock (.slice A5 bs.length c5) = some i → w4.heap.size ≤ i ∧ i < w5.heap.size := HL5.out
            have kq := HK5.out.grown HG5.out (by omega) (fun i hi => by have := hlx i hi; omega)
            have hpq := HP5.out.out (Out.of_gb (X := fun i => Value.ownBlock (.slice A5 bs.length c5) = some i) HG5.out (fun i hi => hi)) (fun i hi he => by have := (HPR.out.mine i hi).2; have := (hlx i he).1; omega)
            have hrq := H.out.below kq (Nat.le_refl _)
            have sq := kq.size
            have HCV : Hid (∀ W, Below wr.heap.size wr W → (convert 36 9 (.slice A bs.length c)).run Try.prog W = .ok (.string ⟨bs.toArray⟩) W) := fun W hW =>
              run_string_rd (P := Try.prog) W 36 9 5 Try.underlying36 Try.underlying5 Try.underlying9 0 w.heap.size A c bs (hrq.below hW sq)
            have HBY2 := Lib.hid (fun W (hW : Below wr.heap.size wr W) => bytes_any (hpq.below hW (Nat.le_refl _)))
            have HKQ := Lib.hid kq
            clear kq hpq hrq hlx
            unfold hp at HBY2
            go_wp2_with fail
            refine wp_region_held_drew (S := fun w' => Below wr.heap.size wr w') (by kernel_rfl) (Below.drew (Below.refl _ _)) (fun hHeld => ?_)
            refine wpAnyH_take (i := 0) (oi := _) (v := ?_) rfl (by kernel_rfl) (by kernel_rfl) (by kernel_rfl) (fun _ _ _ h => h) (Or.inl ⟨by rfl, ?_⟩) hHeld ?_
            rotate_left
            focus (intro W hSw; go_simp; try with_reducible rfl)
            try simp only [List.getElem_toArray, List.getElem_cons_zero, List.getElem_cons_succ, Act.put, List.setIfInBounds_toArray, List.set_cons_zero, List.set_cons_succ]
            refine wpAnyH_take (i := 1) (oi := _) (v := ?_) rfl (by kernel_rfl) (by kernel_rfl) (by kernel_rfl) (fun _ _ _ h => h) (Or.inl ⟨by rfl, ?_⟩) hHeld ?_
            rotate_left
            focus (intro W hSw; go_simp; try with_reducible rfl)
            try simp only [List.getElem_toArray, List.getElem_cons_zero, List.getElem_cons_succ, Act.put, List.setIfInBounds_toArray, List.set_cons_zero, List.set_cons_succ]
            refine wpAnyH_take (i := 2) (oi := _) (v := ?_) rfl (by kernel_rfl) (by kernel_rfl) (by kernel_rfl) (fun _ _ _ h => h) (Or.inl ⟨by rfl, ?_⟩) hHeld ?_
            rotate_left
            focus (intro W hSw; go_simp; try with_reducible rfl)
            try simp only [List.getElem_toArray, List.getElem_cons_zero, List.getElem_cons_succ, Act.put, List.setIfInBounds_toArray, List.set_cons_zero, List.set_cons_succ]
            refine wpAnyH_take (i := 5) (oi := _) (v := ?_) rfl (by kernel_rfl) (by kernel_rfl) (by kernel_rfl) (fun _ _ _ h => h) (Or.inl ⟨by rfl, ?_⟩) hHeld ?_
            rotate_left
            focus (intro W hSw; go_simp; try with_reducible rfl)
            try simp only [List.getElem_toArray, List.getElem_cons_zero, List.getElem_cons_succ, Act.put, List.setIfInBounds_toArray, List.set_cons_zero, List.set_cons_succ]
            refine wpAnyH_take (i := 6) (oi := _) (v := .string ⟨bs.toArray⟩) rfl (by kernel_rfl) (by kernel_rfl) (by kernel_rfl) (fun _ _ _ h => h) (Or.inl ⟨by rfl, ?_⟩) hHeld ?_
            focus (intro W hSw; have hcv := HCV.out W hSw; go_simp; try with_reducible rfl)
            try simp only [List.getElem_toArray, List.getElem_cons_zero, List.getElem_cons_succ, Act.put, List.setIfInBounds_toArray, List.set_cons_zero, List.set_cons_succ]
            refine wpAnyH_ready (rs := [3]) (by kernel_rfl) (by simp) ?_
            refine AllReadyH.cons (o := _) rfl (fun K hK => ?_) AllReadyH.nil
            go_simp
            refine (HBY2.out _ hHeld).mono ?_
            rintro r w8 ⟨A8, c8, rfl, ho8, hb8⟩
            refine hK.out _ _ (below_below hHeld hb8 hHeld.size) (fun hHeld => ?_)
            clear hK K
            try simp only [List.getElem_toArray, List.getElem_cons_zero, List.getElem_cons_succ, Act.put, List.setIfInBounds_toArray, List.set_cons_zero, List.set_cons_succ]
            have hst8 := run_string_rd (P := Try.prog) w8 36 9 5 Try.underlying36 Try.underlying5 Try.underlying9 _ _ _ _ bs (Rd.of_own ho8)
            refine wpAnyH_ready (rs := [4]) (by kernel_rfl) (by simp) ?_
            refine AllReadyH.cons (o := _) rfl (fun K hK => ?_) AllReadyH.nil
            go_simp
            refine hK.out _ _ hHeld (fun hHeld => ?_)
            clear hK K
            try simp only [List.getElem_toArray, List.getElem_cons_zero, List.getElem_cons_succ, Act.put, List.setIfInBounds_toArray, List.set_cons_zero, List.set_cons_succ]
            refine wpAnyH_take (i := 7) (oi := _) (v := .bool true) rfl (by kernel_rfl) (by kernel_rfl) (by kernel_rfl) (fun _ _ _ h => h) (Or.inl ⟨by rfl, ?_⟩) hHeld ?_
            focus (intro W hSw; go_simp; try with_reducible rfl)
            try simp only [List.getElem_toArray, List.getElem_cons_zero, List.getElem_cons_succ, Act.put, List.setIfInBounds_toArray, List.set_cons_zero, List.set_cons_succ]
            refine wpAnyH_take (i := 8) (oi := _) (v := ?_) rfl (by kernel_rfl) (by kernel_rfl) (by kernel_rfl) (fun _ _ _ h => h) (Or.inl ⟨by rfl, ?_⟩) hHeld ?_
            rotate_left
            focus (intro W hSw; go_simp; try with_reducible rfl)
            try simp only [List.getElem_toArray, List.getElem_cons_zero, List.getElem_cons_succ, Act.put, List.setIfInBounds_toArray, List.set_cons_zero, List.set_cons_succ]
            refine wpAnyH_take (i := 9) (oi := _) (v := ?_) rfl (by kernel_rfl) (by kernel_rfl) (by kernel_rfl) (fun _ _ _ h => h) (Or.inl ⟨by rfl, ?_⟩) hHeld ?_
            rotate_left
            focus (intro W hSw; go_simp; try with_reducible rfl)
            try simp only [List.getElem_toArray, List.getElem_cons_zero, List.getElem_cons_succ, Act.put, List.setIfInBounds_toArray, List.set_cons_zero, List.set_cons_succ]
            refine wpAnyH_done (by kernel_rfl) ?_ _
            have HE := Lib.hid (below_below HKQ.out hHeld sq)
            clear hHeld hst8 ho8 hb8
            go_wp2_with fail
            go_ret
            exact ⟨rfl, HE.out⟩
  · go_enter Try.func7, Try.ntmps7
    go_wp2_with fail
    refine (awake7_any _).mono ?_
    rintro r w1 ⟨rfl, hb1⟩
    have HB1 := Lib.hid hb1
    clear hb1
    go_wp2_with fail
    refine (awake7_any _).mono ?_
    rintro r w2 ⟨rfl, hb2⟩
    have HB2 := Lib.hid hb2
    clear hb2
    go_wp2
    go_ret
    exact ⟨rfl, below_below HB1.out HB2.out HB1.out.size⟩


set_option maxRecDepth 100000 in
theorem heapKeeps_lifted (os : Os) (started : os.Started) (H : Type) (enc : TypeId × Value → H) :
    ReturnsInHanded {} Try.checked os 7 .any (Rows.heapKeepsSpec.pre6 enc Try.prog Try.f7 Rows.heapKeepsRow.domain false) (Rows.heapKeepsSpec.post enc Try.prog Try.f7 false true false false) := by
  refine returnsInHanded_of_change (C := Try.checked) own started (by kernel_rfl) Try.func7
    (ChangeSpec.witness6 (enc := enc) (C := Try.checked) false ⟨#[], #[.slice none 0 0], []⟩ 8 (by kernel_rfl) (by kernel_rfl) (by kernel_rfl) (by kernel_rfl)) ?_
  intro W base args ds gs before hval0 hW hcnd _
  have hval : ∀ (j : Nat) t v, Try.f7.params[j]? = some t → args[j]? = some v → Value.okWide Try.prog W .any base t v := hval0
  have hW' := hW
  obtain ⟨p, q, hA0, hV, rfl, hfz, hnd⟩ := hW
  have hA : DataW.TrodAll enc Try.prog W 0 (fun _ => true) true Try.f7.params.toList args.toList ds p := hA0
  have hA1 : DataW.TrodAll enc Try.prog W 0 (fun _ => true) true Try.f7.params.toList args.toList ds p := hA0
  rw [Try.params7] at hA hval
  obtain ⟨v0, vs0, d0, ds0, p0, q0, hargs, rfl, rfl, h0, r0⟩ := trodAll_cons hA
  obtain ⟨rfl, rfl, rfl⟩ := trodAll_nil r0
  obtain rfl : args = #[v0] := by cases args; simp_all
  obtain ⟨rfl, rfl⟩ := trodVars_none hV
  obtain ⟨A0, a0, c0, rfl, w0⟩ := open_bytes Try.underlying36 Try.underlying5 (by kernel_rfl) (hval 0 36 v0 rfl rfl) h0
  clear hA0 hval0
  refine (heapKeeps_walk (w := W) w0).mono fun e W' ⟨he, bel⟩ => ?_
  subst he
  exact ⟨_, rfl, _, _, _, [], _, [], hW', trodAll_mk1 (shut_bool Try.underlying4 _), trodAll_below laidOut bel _ _ _ _ (by kernel_rfl) hA1, rfl, bel.frame _, fun h => by cases h⟩

theorem heapKeeps_over : Rows.heapKeepsRow.holds Try.pinned (OpenSpec.ofChange Rows.heapKeepsSpec) :=
  OpenClaim.holds_of_wide 7 Try.f7 rfl rfl rfl rfl rfl rfl rfl ⟨rfl, rfl, rfl, rfl, rfl⟩ rfl rfl rfl rfl rfl (by kernel_rfl) Try.func7 (by kernel_rfl)
    (of_decide_eq_true (by kernel_rfl)) (by unfold Func.isWrapper; first | (rw [if_pos (by decide +kernel)]; kernel_rfl) | (rw [if_neg (by decide +kernel)]; exact ⟨rfl, rfl⟩))
    (fun os started H enc _ => heapKeeps_lifted os started H enc)

/-- The statement. -/
theorem heapKeeps_proved : Rows.HeapKeepsSaid := heapKeeps_over


end Go.Proofs.Ytpainhgjiddpkaa
