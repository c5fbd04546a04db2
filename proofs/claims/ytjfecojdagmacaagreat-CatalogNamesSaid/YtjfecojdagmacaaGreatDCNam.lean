/-
  Practice.
-/
import Derived.Test.YtjfecojdagmacaaGreatD24
import Derived.Test.YtjfecojdagmacaaGreatD36
import Derived.SliceStrings
import Derived.BigQuiet
import Derived.Deep.QuietTactic
import Derived.Deep.DeepCutAuto
namespace Go.Proofs.YtjfecojdagmacaaGreat
set_option linter.unusedSimpArgs false
set_option linter.unusedVariables false
open Go.RowKit Go.ChangeShapes Go.WideShapes Go.ChangeAt

/-- a name of the law: its first byte and how long it is -/
def nmB (i k : Nat) : ByteArray := ⟨(UInt8.ofNat (97 + i * 7 % 24) :: List.replicate (k - 1) 120).toArray⟩
theorem nmB_size (i k : Nat) (h : 1 ≤ k) : (nmB i k).size = k := by
  show (nmB i k).data.size = k
  simp [nmB]
  omega
theorem nmB_more (i k : Nat) (h : 1 ≤ k) : nmB i k ++ ⟨#[120]⟩ = nmB i (k + 1) := by
  apply ByteArray.ext
  rw [ByteArray.data_append]
  apply qdw.1
  rw [Array.toList_append]
  simp only [nmB]
  rw [jd]
  congr 1
  show List.replicate (k - 1) (120 : UInt8) ++ [120] = List.replicate (k + 1 - 1) 120
  rw [show k + 1 - 1 = (k - 1) + 1 by omega, List.replicate_succ']
theorem nm_apart : ∀ i j : Fin 24, i.val * 7 % 24 = j.val * 7 % 24 → i = j := by decide +kernel
theorem nmB_inj {i j k : Nat} (hi : i < 24) (hj : j < 24) (h : nmB i k = nmB j k) : i = j := by
  have h1 := congrArg (fun s : ByteArray => s.data.toList.head?) h
  simp only [nmB, List.head?_cons] at h1
  have h2 := congrArg UInt8.toNat (zr h1)
  rw [jq, jq] at h2
  have := nm_apart ⟨i, hi⟩ ⟨j, hj⟩ (by show i * 7 % 24 = j * 7 % 24; omega)
  exact congrArg Fin.val this

theorem rd_lit1 (w : World) (x : UInt8) : Rd (w.alloc (.cells #[.int .u8 (x.toNat : Int)] 5)) 0 (w.heap.size + 1) (some ⟨w.heap.size, 0, none⟩) 1 (bv [x]) :=
  ⟨by simp [bv], by simp [maxLen], fun _ => ⟨w.heap.size, 0, rfl, qi _, by omega, fun j u hu => by
    match j, hu with
    | 0, hu =>
      simp [bv] at hu
      subst hu
      exact qgf _ _ _
    | j + 1, hu => simp [bv] at hu⟩⟩

theorem nm_case {es : List En} {i L : Nat} {cols : Int} (hi : i < 24) (hL : 1 ≤ L) (hn : L ≤ 32 → es.map (fun e => e.name) = (List.range (min i 16)).map fun j => nmB j L) (hc : 1 ≤ cols ∧ cols ≤ 8) :
    (32 < L ∧ qj6 es (nmB i L) cols = 1) ∨ (L ≤ 32 ∧ i < 16 ∧ qj6 es (nmB i L) cols = 0) ∨ (L ≤ 32 ∧ 16 ≤ i ∧ qj6 es (nmB i L) cols = 6) := by
  have hsz := nmB_size i L hL
  rcases vf 32 L with h | h
  · refine .inl ⟨h, ?_⟩
    rw [qj6, if_neg (by omega), qhh, if_pos (by omega)]
  · have h1 := hn h
    have hel : es.length = min i 16 := by
      have := congrArg List.length h1
      simpa using this
    have hne : ∀ e ∈ es, e.name ≠ nmB i L ∨ 16 ≤ i ∧ e.name = nmB i L := fun e he => by
      have h2 : e.name ∈ es.map (fun e => e.name) := zl.2 ⟨e, he, rfl⟩
      rw [h1] at h2
      obtain ⟨j, hj, hje⟩ := zl.1 h2
      have hj2 := List.mem_range.1 hj
      refine .inl fun h3 => ?_
      rw [h3] at hje
      have := nmB_inj (by omega) hi hje
      omega
    have hn2 : ∀ e ∈ es, e.name ≠ nmB i L := fun e he => (hne e he).elim id fun h4 => by
      have h2 : e.name ∈ es.map (fun e => e.name) := zl.2 ⟨e, he, rfl⟩
      rw [h1] at h2
      obtain ⟨j, hj, hje⟩ := zl.1 h2
      have hj2 := List.mem_range.1 hj
      intro h3
      rw [h3] at hje
      have := nmB_inj (by omega) hi hje
      omega
    rcases vf i 16 with h16 | h16
    · refine .inr (.inl ⟨h, h16, ?_⟩)
      rw [qj6, if_neg (by omega)]
      exact free_yes (by omega) hn2 (by omega)
    · refine .inr (.inr ⟨h, h16, ?_⟩)
      rw [qj6, if_neg (by omega), qhh, if_neg (by omega), qhx hn2, if_neg (by simp), if_pos (by omega)]

set_option maxRecDepth 20000 in
set_option maxHeartbeats 16000000 in
theorem catalogNames_walk {w : World} (n long : UInt8) : Calls Tryz.prog 6 #[.int .u8 (n.toNat : Int), .int .u8 (long.toNat : Int)] w fun e w' => e = .returned (.bool true) ∧ Below w.heap.size w w' := by
  have HAW := qa (awake19_v (w := w))
  have hn256 : n.toNat < 256 := jj _
  have hl256 : long.toNat < 256 := jj _
  obtain ⟨n, hn⟩ : ∃ z, n.toNat = z := ⟨_, rfl⟩
  obtain ⟨m, hm⟩ : ∃ z, long.toNat = z := ⟨_, rfl⟩
  rw [hn] at hn256 ⊢
  rw [hm] at hl256 ⊢
  clear hn hm
  obtain ⟨N, hN⟩ : ∃ N, n % 24 = N := ⟨_, rfl⟩
  obtain ⟨L, hL⟩ : ∃ L, 1 + m % 40 = L := ⟨_, rfl⟩
  have hN24 : N < 24 := by omega
  have hL1 : 1 ≤ L := by omega
  have hL40 : L ≤ 40 := by omega
  go_enter Tryz.func6, Tryz.ntmps6
  go_wp2_with fail
  refine HAW.out.mono ?_
  rintro r w2 ⟨rfl, hb2⟩
  have B2 := qa hb2
  clear hb2 HAW
  go_wp2_with fail
  refine new19_v.mono ?_
  rintro r w3 ⟨rfl, hc3, hb3⟩
  obtain ⟨C, hC⟩ : ∃ C, w2.heap.size = C := ⟨_, rfl⟩
  have B3 : Hid (Below w.heap.size w w3) := B2.out.trans (hb3.mono B2.out.size)
  have hwC : w.heap.size ≤ C := by rw [← hC]; exact B2.out.size
  rw [hC] at hc3 ⊢
  have HC3 := qa hc3
  clear hb3 hc3 hC B2
  go_wp2_with fail
  go_loopw [6] (fun x6 wr => ∃ (i : Nat) (M : Nat → Prop) (es : List En), i ≤ N ∧ x6 = .int .i64 (i : Int) ∧ Hid (CatE wr C M C es) ∧ Hid (L ≤ 32 → es.map (fun e => e.name) = (List.range (min i 16)).map fun j => nmB j L) ∧ Below w.heap.size w wr) (fun x6 _ => N - (intOf x6).toNat)
  case atStart => exact ⟨0, _, [], qi _, rfl, HC3.out, fun _ => rfl, B3.out⟩
  case round =>
    obtain ⟨i, M, es, hi, rfl, HC, HN, hb⟩ := hrel
    obtain ⟨wk, rfl⟩ : ∃ x, x = wr := ⟨_, rfl⟩
    have HB := qa hb
    have hsz := hb.size
    clear hb
    have i1 : ((n : Int) % 24) = (N : Int) := by omega
    have i2 : Int.tmod (n : Int) 24 = (N : Int) := by rw [qaq (by omega)]; omega
    by_cases hlt : i < N
    · have ik : (i : Int) < (N : Int) := by omega
      have hi24 : i < 24 := by omega
      obtain ⟨x, hx⟩ : ∃ x, x = UInt8.ofNat (97 + i * 7 % 24) := ⟨_, rfl⟩
      have ix : (97 + (i : Int) * 7 % 24) = (x.toNat : Int) := by
        rw [hx, jq, vc (by omega)]
        omega
      have hx1 : nmB i 1 = ⟨[x].toArray⟩ := by rw [hx]; rfl
      have hst := ul (P := Tryz.prog) (wk.alloc (.cells #[.int .u8 (x.toNat : Int)] 5)) 36 9 5 Tryz.underlying36 Tryz.underlying5 Tryz.underlying9 0 (wk.heap.size + 1) (some ⟨wk.heap.size, 0, none⟩) 1 [x] (rd_lit1 wk x)
      rw [← hx1, show ([x] : List UInt8).length = 1 from rfl] at hst
      have HNX := qa hx1
      clear hx hx1
      go_wp2_with fail
      clear hst ix
      obtain ⟨wq, hwq⟩ : ∃ q, Hid (wk.alloc (.cells #[.int .u8 (x.toNat : Int)] 5) = q) := ⟨_, rfl⟩
      rw [hwq.out]
      have bq : Below wk.heap.size wk wq := by rw [← hwq.out]; exact (Below.refl _ wk).alloc (qc _) _
      have HBQ : Hid (Below w.heap.size w wq) := HB.out.trans (bq.mono HB.out.size)
      have HCQ : Hid (CatE wq C M C es) := HC.out.below bq
      have hszq := bq.size
      clear hwq bq HC HB HNX
      have m1 : (m : Int) % 40 = (L : Int) - 1 := by omega
      have m2 : Int.tmod (m : Int) 40 = (L : Int) - 1 := by rw [qaq (by omega)]; omega
      go_loopw [7] (fun x7 wy => ∃ k : Nat, 1 ≤ k ∧ k ≤ L ∧ x7 = .string (nmB i k) ∧ wq = wy) (fun x7 _ => L - (match x7 with | .string s => s.size | _ => 0))
      case atStart => exact ⟨1, qc _, hL1, rfl, rfl⟩
      case round =>
        obtain ⟨k, hk1, hkL, rfl, rfl⟩ := hrel
        have hsz1 := nmB_size i k hk1
        have hmo := nmB_more i k hk1
        have hsm : ((nmB i k).size : Int) = (k : Int) := by rw [hsz1]
        by_cases hkl : k < L
        · have il : (k : Int) < (L : Int) := by omega
          have i3 : (1 : Int) + ((L : Int) - 1) = (L : Int) := by omega
          go_wp2_with fail
          go_roundw
          case rel => exact ⟨k + 1, by omega, by omega, by rw [← hmo], trivial⟩
          case measure => simp [nmB_size, hsz1]; omega
        · have il : ¬ (k : Int) < (L : Int) := by omega
          have i3 : (1 : Int) + ((L : Int) - 1) = (L : Int) := by omega
          obtain rfl : k = L := by omega
          have HCR := qa (create19_v HCQ.out (nmB i k) (by omega) (1 + (i : Int) % 8))
          obtain ⟨v, hv⟩ : ∃ v, qj6 es (nmB i k) (1 + (i : Int) % 8) = v := ⟨_, rfl⟩
          have hcase := nm_case hi24 hk1 HN.out (cols := 1 + (i : Int) % 8) (by omega)
          rw [hv] at HCR hcase
          clear hv
          rcases hcase with ⟨hL32, rfl⟩ | ⟨hL32, hi16, rfl⟩ | ⟨hL32, hi16, rfl⟩
          · have j1 : (32 : Int) < (k : Int) := by omega
            go_wp2_with fail
            refine HCR.out.mono ?_
            rintro r w8 ⟨rfl, ⟨-, rfl⟩ | ⟨h0, -⟩⟩
            case inr => exact absurd h0 (by decide)
            go_wp2_with fail
            go_roundw
            case rel => exact ⟨i + 1, M, es, by omega, by go_num, HCQ.out, fun h => absurd h (by omega), HBQ.out⟩
            case measure => simp [intOf]; omega
          · have j1 : ¬ (32 : Int) < (k : Int) := by omega
            have j2 : (k : Int) ≤ 32 := by omega
            have j3 : (i : Int) < 16 := by omega
            have j4 : ¬ (16 : Int) ≤ (i : Int) := by omega
            go_wp2_with fail
            refine HCR.out.mono ?_
            rintro r w8 ⟨rfl, ⟨h0, -⟩ | ⟨-, M', g', S', hc8, hst⟩⟩
            · exact absurd rfl h0
            have B8 : Hid (Below w.heap.size w w8) := HBQ.out.trans (HCQ.out.after hst.out hwC)
            have HC8 := qa hc8
            clear hc8 hst HCR
            go_wp2_with fail
            go_roundw
            case rel =>
              refine ⟨i + 1, M', _, by omega, by go_num, HC8.out, fun h => ?_, B8.out⟩
              rw [jl, HN.out h, vj (by omega), vj (by omega), List.range_succ, jl]
              rfl
            case measure => simp [intOf]; omega
          · have j1 : ¬ (32 : Int) < (k : Int) := by omega
            have j2 : (k : Int) ≤ 32 := by omega
            have j3 : ¬ (i : Int) < 16 := by omega
            have j4 : (16 : Int) ≤ (i : Int) := by omega
            go_wp2_with fail
            refine HCR.out.mono ?_
            rintro r w8 ⟨rfl, ⟨-, rfl⟩ | ⟨h0, -⟩⟩
            case inr => exact absurd h0 (by decide)
            go_wp2_with fail
            go_roundw
            case rel =>
              refine ⟨i + 1, M, es, by omega, by go_num, HCQ.out, fun h => ?_, HBQ.out⟩
              rw [HN.out h, Nat.min_eq_right (by omega), Nat.min_eq_right (by omega)]
            case measure => simp [intOf]; omega
    · have ik : ¬ (i : Int) < (N : Int) := by omega
      have HFW := qa HC.out.few
      have HOK : Hid (∀ e ∈ es, e.name.size ≤ 32) := fun e he => (HC.out.ok e he).2.2
      have HNM := qa (names_v HC.out)
      clear HC HN
      go_wp2_with fail
      refine HNM.out.mono ?_
      rintro r w7 ⟨t, A7, c7, rfl, hso, htl, ho7, hb7⟩
      have B7 : Hid (Below w.heap.size w w7) := HB.out.trans (hb7.mono hsz)
      have ht16 : t.length ≤ 16 := by have := HFW.out; omega
      have HRT : Hid (Rd w7 0 w7.heap.size A7 c7 (sv t)) := (Rd.of_own ho7).wide (qi _) (qc _)
      have HSZ : Hid (∀ j (h : j < t.length), t[j].size ≤ 32) := fun j h => by
        have h1 : t[j].data.toList ∈ qm t := by rw [← yq t j h]; exact ql _
        obtain ⟨e, he, hk⟩ := zl.1 ((hso.2 _).1 h1)
        rw [← key_inj (show e.name.data.toList = _ from hk)]
        exact HOK.out e he
      have HRI : Hid (∀ j (h : j + 1 < t.length), yl t[j].data.toList t[j + 1].data.toList < 0) := fun j h => by
        have h1 := qh5 hso.1 (qbk j) (by rw [qv]; exact h)
        rw [yq t j (by omega), yq t (j + 1) h] at h1
        exact h1
      have htc : t.length ≤ c7 ∧ c7 ≤ 9223372036854775807 := by
        have h1 := HRT.out.len
        have h2 := HRT.out.cap
        rw [j7] at h1
        simp only [maxLen] at h2
        exact ⟨h1, by omega⟩
      clear HNM hso ho7 hb7 HB hsz
      go_wp2_with fail
      go_loopw [10] (fun x10 wy => ∃ j q : Nat, x10 = .int .i64 ((j : Int) + 1) ∧ (j + 1 ≤ t.length ∨ j = 0) ∧ wy = w7.drewN q) (fun x10 _ => t.length - (intOf x10).toNat)
      case atStart => exact ⟨0, 0, rfl, .inr rfl, rfl⟩
      case round =>
        obtain ⟨j, q, rfl, hj, rfl⟩ := hrel
        by_cases hjt : j + 1 < t.length
        · have il : (j : Int) + 1 < (t.length : Int) := by omega
          obtain ⟨b1, off1, hA1, _, _, hcell1⟩ := HRT.out.str (k := j) (by omega)
          obtain ⟨b2, off2, hA2, _, _, hcell2⟩ := HRT.out.str (k := j + 1) hjt
          obtain rfl := hA1
          injection hA2 with hA2
          injection hA2 with h1 h2
          subst h1 h2
          have hs1 := HSZ.out j (by omega)
          have hs2 := HSZ.out (j + 1) hjt
          have HCM := qa (fun w => qer (w := w) t[j] t[j + 1] (by omega) (by omega))
          have hz := HRI.out j hjt
          have hjw : IntKind.i64.wrap (j : Int) = (j : Int) := jf _ (by omega)
          generalize yl t[j].data.toList t[j + 1].data.toList = z at *
          generalize t[j] = x at *
          generalize t[j + 1] = y at *
          have dz : decide ((0 : Int) ≤ z) = false := qr (by omega)
          have iz : ¬ (0 : Int) ≤ z := by omega
          go_wp2_with fail
          go_quiet ((go_at_call 31; exact qes (HCM.out _)))
          go_wp2_with fail
          go_roundw
          case rel => exact ⟨j + 1, _, by first | rfl | go_num, .inl (by omega), by first | rfl | (rw [zt])⟩
          case measure => simp [intOf] <;> omega
        · have il : ¬ (j : Int) + 1 < (t.length : Int) := by omega
          have i16 : (t.length : Int) ≤ 16 := by omega
          go_wp2_with fail
          go_ret
          exact ⟨xg (by first | (simp; omega) | simp [i16]), zj B7.out _⟩

set_option maxRecDepth 100000 in
theorem catalogNames_lifted (os : Os) (started : os.Started) (H : Type) (enc : TypeId × Value → H) :
    ReturnsInHanded {} Tryz.checked os 6 .any (Rows.catalogNamesSpec.pre6 enc Tryz.prog Tryz.f6 Rows.catalogNamesRow.domain false) (Rows.catalogNamesSpec.post enc Tryz.prog Tryz.f6 false true false false) := by
  refine returnsInHanded_of_change (C := Tryz.checked) own started (by kernel_rfl) Tryz.func6
    (ChangeSpec.witness6 (enc := enc) (C := Tryz.checked) false ⟨#[], #[.int .u8 0, .int .u8 0], []⟩ 8 (by kernel_rfl) (by kernel_rfl) (by kernel_rfl) (by kernel_rfl)) ?_
  intro W base args ds gs before hval0 hW hcnd _
  have hval : ∀ (j : Nat) t v, Tryz.f6.params[j]? = some t → args[j]? = some v → Value.okWide Tryz.prog W .any base t v := hval0
  have hW' := hW
  obtain ⟨p, q, hA0, hV, rfl, hfz, hnd⟩ := hW
  have hA : DataW.TrodAll enc Tryz.prog W 0 (fun _ => true) true Tryz.f6.params.toList args.toList ds p := hA0
  have hA1 : DataW.TrodAll enc Tryz.prog W 0 (fun _ => true) true Tryz.f6.params.toList args.toList ds p := hA0
  rw [Tryz.params6] at hA hval
  obtain ⟨v0, vs0, d0, ds0, p0, q0, hargs, rfl, rfl, h0, r0⟩ := trodAll_cons hA
  obtain ⟨v1, vs1, d1, ds1, p1, q1, rfl, rfl, rfl, h1, r1⟩ := trodAll_cons r0
  obtain ⟨rfl, rfl, rfl⟩ := trodAll_nil r1
  obtain rfl : args = #[v0, v1] := by cases args; simp_all
  obtain ⟨rfl, rfl⟩ := trodVars_none hV
  obtain ⟨a0, rfl, rfl, rfl, w0⟩ := open_int Tryz.underlying5 (hval 0 5 v0 rfl rfl) h0
  obtain ⟨b0, rfl⟩ := u8_of_wf w0
  obtain ⟨a1, rfl, rfl, rfl, w1⟩ := open_int Tryz.underlying5 (hval 1 5 v1 rfl rfl) h1
  obtain ⟨b1, rfl⟩ := u8_of_wf w1
  clear hA0 hval0
  refine (catalogNames_walk (w := W) b0 b1).mono fun e W' ⟨he, bel⟩ => ?_
  subst he
  exact ⟨_, rfl, _, _, _, [], _, [], hW', trodAll_mk1 (shut_bool Tryz.underlying4 _), qmg laidOut bel _ _ _ _ (by kernel_rfl) hA1, rfl, bel.frame _, fun h => by cases h⟩

theorem catalogNames_over : Rows.catalogNamesRow.holds Tryz.pinned (OpenSpec.ofChange Rows.catalogNamesSpec) :=
  OpenClaim.holds_of_wide 6 Tryz.f6 rfl rfl rfl rfl rfl rfl rfl ⟨rfl, rfl, rfl, rfl, rfl⟩ rfl rfl rfl rfl rfl (by kernel_rfl) Tryz.func6 (by kernel_rfl)
    (of_decide_eq_true (by kernel_rfl)) (by unfold Func.isWrapper; first | (rw [if_pos (by decide +kernel)]; kernel_rfl) | (rw [if_neg (by decide +kernel)]; exact ⟨rfl, rfl⟩))
    (fun os started H enc _ => catalogNames_lifted os started H enc)

/-- The statement. -/
theorem catalogNames_proved : Rows.CatalogNamesSaid := catalogNames_over


end Go.Proofs.YtjfecojdagmacaaGreat
