/-
  Heaps: Of: a heap with these bytes, in buffers of so many each. (Printed by wip/tools/genof.py.)
-/
import Derived.Test.YtpainhgjiddpkaaHepB
namespace Go.Proofs.Ytpainhgjiddpkaa
set_option linter.unusedSimpArgs false
set_option linter.unusedVariables false
open Go.RowKit

/-- ends of buffers of s bytes each over n bytes, as far as they are laid -/
structure OfE (s n : Nat) (es : List Nat) : Prop where
  val : ∀ k, k ≤ es.length → ed es k = min (k * s) n
  mid : ∀ k, k < es.length → k * s < n
theorem OfE.nil (s n : Nat) : OfE s n [] := ⟨fun k h => by
  obtain rfl : k = 0 := by simpa using h
  simp [ed], by simp⟩
theorem ed_snoc {es : List Nat} {z k : Nat} (h : k ≤ es.length) : ed (es ++ [z]) k = ed es k := by
  have := ed_take (es := es) (b := es.length) h (Nat.le_refl _) [z]
  rwa [List.take_length] at this
theorem ed_end (es : List Nat) (z : Nat) : ed (es ++ [z]) (es.length + 1) = z := by
  have := ed_last (es := es) (b := es.length) (Nat.le_refl _) z
  rwa [List.take_length] at this
theorem OfE.snoc {s n : Nat} {es : List Nat} (h : OfE s n es) (hs : 0 < s) (he : ed es es.length < n) : OfE s n (es ++ [ed es es.length + min s (n - ed es es.length)]) := by
  have hl := h.val es.length (Nat.le_refl _)
  have hm : es.length * s < n := by omega
  have hq : ed es es.length = es.length * s := by omega
  refine ⟨fun k hk => ?_, fun k hk => ?_⟩
  · rw [List.length_append, List.length_cons, List.length_nil] at hk
    rcases Nat.lt_or_ge es.length k with h1 | h1
    · obtain rfl : k = es.length + 1 := by omega
      rw [ed_end, hq, Nat.succ_mul]
      omega
    · rw [ed_snoc h1]
      exact h.val k h1
  · rw [List.length_append, List.length_cons, List.length_nil] at hk
    rcases Nat.lt_or_ge k es.length with h1 | h1
    · exact h.mid k h1
    · obtain rfl : k = es.length := by omega
      exact hm
theorem OfE.few {s n : Nat} {es : List Nat} (h : OfE s n es) (hs : 0 < s) : es.length ≤ n := by
  rcases Nat.eq_zero_or_pos es.length with h0 | h0
  · omega
  · have := h.mid (es.length - 1) (by omega)
    have h2 : es.length - 1 ≤ (es.length - 1) * s := Nat.le_mul_of_pos_right _ hs
    omega
theorem OfE.ends {s n : Nat} {es : List Nat} (h : OfE s n es) : Ends es n := ⟨fun k hk => by
    rw [h.val k (by omega), h.val (k + 1) (by omega), Nat.succ_mul]
    omega, fun k hk => by
    rw [h.val k hk]
    omega⟩

/-- one more end put behind the others -/
theorem Hp.push {w : World} {lo g : Nat} {most : Int} {bs : List UInt8} {es : List Nat} {M : Nat → Prop} (h : Hp w lo g most bs es M) (z : Nat) (Z : Int) (hZ : Z = (z : Int)) (hE : Ends (es ++ [z]) bs.length) (hf : es.length < 60000) :
    ∃ A2 c2 A3 c3 w3, w.cell? ⟨g, 2, none⟩ = some (.slice A2 es.length c2) ∧ (w.alloc (.cells #[.int .i64 Z] 3)).cell? ⟨g, 2, none⟩ = some (.slice A2 es.length c2) ∧
      (Builtin.append_ #[51, 51] 51 #[.slice A2 es.length c2, .slice (some ⟨w.heap.size, 0, none⟩) 1 1]).run Try.prog (w.alloc (.cells #[.int .i64 Z] 3)) = .ok (.slice A3 (es.length + 1) c3) w3 ∧
      w3.cell? ⟨g, 2, none⟩ = some (.slice A2 es.length c2) ∧ w3.frozen? ⟨g, 2, none⟩ = false ∧
      ∃ M', Hp (w3.setCell ⟨g, 2, none⟩ (.slice A3 (es.length + 1) c3)) lo g most bs (es ++ [z]) M' ∧ Out w (w3.setCell ⟨g, 2, none⟩ (.slice A3 (es.length + 1) c3)) M ∧ ∀ i, M' i → M i ∨ w.heap.size ≤ i := by
  subst hZ
  have hgl := h.lt
  obtain ⟨⟨V, E, ha, hM⟩, hm, he, hfe⟩ := h
  obtain ⟨A2, c2, rfl, hl2, hc2⟩ := own_form w ha.num
  obtain ⟨i0, hi0, hz0, hz1, hz2⟩ := info_parts Try.infoI64
  obtain ⟨o, ho⟩ : ∃ o : Obj, .cells #[.int .i64 (z : Int)] 3 = o := ⟨_, rfl⟩
  rw [ho]
  have hcell : (w.alloc o).cell? ⟨w.heap.size, 0, none⟩ = some (.int .i64 (z : Int)) := by rw [← ho, World.cell?_alloc_at _ _ _ _ rfl]; rfl
  have hr : Rd (w.alloc o) 0 (w.alloc o).heap.size (some ⟨w.heap.size, 0, none⟩) 1 (iv [(z : Int)]) := ⟨by simp [iv], by simp [maxLen], fun _ => ⟨w.heap.size, 0, rfl, Nat.zero_le _, World.block_lt_of_cell? _ _ hcell, fun j u hu => by
    match j, hu with
    | 0, hu =>
      simp [iv] at hu
      subst hu
      exact hcell
    | j + 1, hu => simp [iv] at hu⟩⟩
  have hlo : lo ≤ w.heap.size := by have := (hm g (hM g (.inl rfl))).1; omega
  have hbo := (Below.refl w.heap.size w).alloc (Nat.le_refl _) o
  have hwo : (w.alloc o).heap.size = w.heap.size + 1 := by simp
  obtain ⟨A3, c3, w3, hrun, h2, hg3, hk3⟩ := run_append_rd (P := Try.prog) (w.alloc o) lo 51 51 3 i0 _ 8 Try.underlying51 hi0 hz0 hz1 hz2 rfl _ es.length (iv (ints es)) (own_below ha.num hbo (Nat.le_refl _)) 0 _ (some ⟨w.heap.size, 0, none⟩) 1 (iv [(z : Int)]) hr (iv_one _)
    (by simp only [maxLen, iv, List.length_map, List.length_cons, List.length_nil]; omega) (by simp only [iv, List.length_map, List.length_cons, List.length_nil]; omega) (by omega)
  rw [show (iv [(z : Int)]).length = 1 from rfl] at hrun h2 hk3
  rw [hwo] at hk3
  have hba := ha.blk.alloc o
  have hb3 := hba.grown hg3 (fun e => ha.n2 e.symm)
  have hb4 : Blk (w3.setCell ⟨g, 2, none⟩ (.slice A3 (es.length + 1) c3)) g 53 #[.int .i64 most, V, .slice A3 (es.length + 1) c3] := hb3.put 2 _
  have hsz3 : w.heap.size + 1 ≤ w3.heap.size := by rw [← hwo]; exact hg3.size
  have h3g : (Value.slice A3 (es.length + 1) c3).ownBlock ≠ some g := fun e => by
    rcases hk3 with h | h
    · exact ha.n2 (h.symm.trans e)
    · rw [h] at e; injection e with e; omega
  have h3v : ∀ k, V.ownBlock = some k → (Value.slice A3 (es.length + 1) c3).ownBlock ≠ some k := fun k e1 e2 => by
    rcases hk3 with h | h
    · exact ha.n3 k e1 (h.symm.trans e2)
    · rw [h] at e2; injection e2 with e2
      have := (own_lt ha.byt e1).2
      omega
  have hv3 : w3.ownsRow lo 5 1 V bs.length (bv bs) := own_keep ha.byt fun k hk =>
    (hg3.block k (by have := (own_lt ha.byt hk).2; omega) (fun e => ha.n3 k hk e.symm)).trans (Below.heap_alloc w _ k (own_lt ha.byt hk).2)
  have hv4 : (w3.setCell ⟨g, 2, none⟩ (.slice A3 (es.length + 1) c3)).ownsRow lo 5 1 V bs.length (bv bs) := own_keep hv3 fun k hk => Below.heap_setCell w3 _ _ k (fun (e : k = g) => ha.n1 (by rw [hk, e]))
  have hn4 : (w3.setCell ⟨g, 2, none⟩ (.slice A3 (es.length + 1) c3)).ownsRow lo 3 1 (.slice A3 (es.length + 1) c3) (es.length + 1) (iv (ints es) ++ iv [(z : Int)]) := own_keep h2 fun k hk => Below.heap_setCell w3 _ _ k (fun (e : k = g) => h3g (by rw [hk, e]))
  have hey : iv (ints es) ++ iv [(z : Int)] = iv (ints (es ++ [z])) := by
    rw [← iv_append]
    unfold ints
    rw [List.map_append]
    rfl
  rw [hey] at hn4
  have hal : (es ++ [z]).length = es.length + 1 := by simp
  refine ⟨A2, c2, A3, c3, w3, ha.blk.cell 2, hba.cell 2, hrun, hb3.cell 2, hb3.frozen 2, fun i => i = g ∨ V.ownBlock = some i ∨ (Value.slice A3 (es.length + 1) c3).ownBlock = some i,
    ⟨⟨V, .slice A3 (es.length + 1) c3, ⟨hb4, hv4, by rw [hal]; exact hn4, ha.n1, h3g, h3v⟩, fun i hi => hi⟩, ?_, hE, hfe.1, by rw [hal]; omega⟩, ?_, ?_⟩
  · intro i hi
    rcases hi with rfl | hi | hi
    · exact ⟨(hm i (hM i (.inl rfl))).1, hb4.lt⟩
    · exact own_lt hv4 hi
    · exact own_lt hn4 hi
  · exact (((Out.refl w M).alloc o).trans (Out.of_gb (X := fun k => (Value.slice A2 es.length c2).ownBlock = some k) hg3 (fun k hk => hk)) (fun i _ hi => hM i (.inr (.inr hi)))).setCell (.inl (hM g (.inl rfl))) _
  · intro i hi
    rcases hi with rfl | hi | hi
    · exact .inl (hM i (.inl rfl))
    · exact .inl (hM i (.inr (.inl hi)))
    · rcases hk3 with h | h
      · exact .inl (hM i (.inr (.inr (h.symm.trans hi))))
      · rw [h] at hi; injection hi with hi; right; omega

/-- how many bytes each buffer has -/
def stepL (n : Int) : Nat := if n ≤ 0 ∨ 65536 < n then 65536 else n.toNat
theorem stepL_pos (n : Int) : 0 < stepL n := by unfold stepL; split <;> omega

set_option maxRecDepth 20000 in
set_option maxHeartbeats 2000000 in
theorem of_zero {w : World} {lo h' c : Nat} {A : Option Addr} (bs : List UInt8) (n : Int) (hn : n ≤ 0) (h : Rd w lo h' A c (bv bs)) (hh : h' ≤ w.heap.size) (hb : bs.length ≤ 3000) :
    Calls Try.prog 19 #[.slice A bs.length c, .int .i64 n] w fun r w' => ∃ g es M, r = .returned (hp g) ∧ Hp w' w.heap.size g (bs.length : Int) bs es M ∧ OfE 65536 bs.length es ∧ bs.length ≤ es.length * 65536 ∧ Below w.heap.size w w' := by
  have hlen := h.len
  have hcap := h.cap
  rw [bv_length] at hlen
  unfold maxLen at hcap
  have h1 := sclone_any bs h hh (by omega)
  have H1 := Lib.hid h1
  clear h1 h
  unfold hp
  go_enter Try.func19, Try.ntmps19
  go_wp2_with fail
  refine H1.out.mono ?_
  rintro r w1 ⟨A1, c1, rfl, hown, hb1⟩
  have hblk := Blk.new w1 53 #[.int .i64 (bs.length : Int), .slice A1 bs.length c1, .slice none 0 0]
  have hb2 : Below w.heap.size w (w1.alloc (.cells #[.int .i64 (bs.length : Int), .slice A1 bs.length c1, .slice none 0 0] 53)) := hb1.alloc hb1.size _
  have hp2 : Hp (w1.alloc (.cells #[.int .i64 (bs.length : Int), .slice A1 bs.length c1, .slice none 0 0] 53)) w.heap.size w1.heap.size (bs.length : Int) bs [] (fun i => i = w1.heap.size ∨ (Value.slice A1 bs.length c1).ownBlock = some i) :=
    ⟨⟨.slice A1 bs.length c1, .slice none 0 0, ⟨hblk, own_below (B := w1.heap.size) hown ((Below.refl _ _).alloc (Nat.le_refl _) _) (Nat.le_refl _), World.ownsRow_nil _ _ _ _, fun e => by have := (own_lt hown e).2; omega, by simp [Value.ownBlock], by simp [Value.ownBlock]⟩, fun i hi => by
        rcases hi with h | h | h
        · exact .inl h
        · exact .inr h
        · simp [Value.ownBlock] at h⟩,
      fun i hi => by
        rcases hi with rfl | h
        · exact ⟨hb1.size, by simp⟩
        · have := own_lt hown h; exact ⟨this.1, by simp; omega⟩,
      ⟨by simp, fun k hk => by
        obtain rfl : k = 0 := by simpa using hk
        exact Nat.zero_le _⟩, by omega, by simp⟩
  have HP2 := Lib.hid hp2
  have HB2 := Lib.hid hb2
  clear hown hb1 hblk hb2 hp2
  go_wp2_with fail
  generalize w1.alloc (.cells #[.int .i64 (bs.length : Int), .slice A1 bs.length c1, .slice none 0 0] 53) = w2 at *
  generalize w1.heap.size = g at *
  go_loopw [6] (fun e wr => ∃ es M, e = .int .i64 (ed es es.length : Int) ∧ Hp wr w.heap.size g (bs.length : Int) bs es M ∧ OfE 65536 bs.length es ∧ Below w.heap.size w wr) (fun e _ => bs.length - (intOf e).toNat)
  case atStart => exact ⟨[], _, rfl, HP2.out, OfE.nil _ _, HB2.out⟩
  case round =>
    obtain ⟨es, M, rfl, hp3, hof, hb3⟩ := hrel
    have hfew := hof.few (by omega)
    have htop := hof.ends.top es.length (Nat.le_refl _)
    have hval := hof.val es.length (Nat.le_refl _)
    have HP := Lib.hid hp3
    have HB := Lib.hid hb3
    have HOF := Lib.hid hof
    clear hp3 hb3 hof
    by_cases he : ed es es.length < bs.length
    · have hsn := HOF.out.snoc (by omega) he
      rw [Nat.min_eq_right (by omega)] at hsn
      have HEN := Lib.hid hsn.ends
      have HSN := Lib.hid hsn
      clear hsn hval
      obtain ⟨A2, c2, A3, c3, w3, k2, k3, hrun, k4, k5, M', hp4, ho4, hm4⟩ := HP.out.push (ed es es.length + (bs.length - ed es es.length)) ((ed es es.length : Int) + ((bs.length : Int) - (ed es es.length : Int))) (by omega) HEN.out (by omega)
      have HP4 := Lib.hid hp4
      have HB4 := Lib.hid (below_below HB.out (ho4.below (Nat.le_trans (Nat.le_refl _) HB.out.size) (fun i hi => (HP.out.mine i hi).1)) (Nat.le_refl _))
      clear hp4 ho4 hm4
      have hm1 : (es.length : Int) < 65536 := by omega
      have hx1 : (ed es es.length : Int) < (bs.length : Int) := by omega
      have hmin : ¬ (65536 : Int) ≤ (bs.length : Int) - (ed es es.length : Int) := by omega
      generalize ed es es.length = x at *
      generalize es.length = m at *
      clear hfew htop hlen hcap
      go_wp2_with (at_builtin; refine wpList_append_run rfl _ _ _ _ rfl rfl rfl hrun ?_)
      go_roundw
      case rel => exact ⟨_, M', by rw [List.length_append, List.length_cons, List.length_nil, ed_end]; go_num, HP4.out, HSN.out, HB4.out⟩
      case measure => simp [intOf]; omega
    · have hfin : bs.length ≤ es.length * 65536 := by omega
      have HF := Lib.hid hfin
      clear hfin hval
      go_wp2_with fail
      go_ret
      exact ⟨g, es, M, rfl, HP.out, HOF.out, HF.out, HB.out⟩

set_option maxRecDepth 20000 in
set_option maxHeartbeats 2000000 in
theorem of_great {w : World} {lo h' c : Nat} {A : Option Addr} (bs : List UInt8) (n : Int) (hn0 : ¬ n ≤ 0) (hn : 65536 < n) (h : Rd w lo h' A c (bv bs)) (hh : h' ≤ w.heap.size) (hb : bs.length ≤ 3000) :
    Calls Try.prog 19 #[.slice A bs.length c, .int .i64 n] w fun r w' => ∃ g es M, r = .returned (hp g) ∧ Hp w' w.heap.size g (bs.length : Int) bs es M ∧ OfE 65536 bs.length es ∧ bs.length ≤ es.length * 65536 ∧ Below w.heap.size w w' := by
  have hlen := h.len
  have hcap := h.cap
  rw [bv_length] at hlen
  unfold maxLen at hcap
  have h1 := sclone_any bs h hh (by omega)
  have H1 := Lib.hid h1
  clear h1 h
  unfold hp
  go_enter Try.func19, Try.ntmps19
  go_wp2_with fail
  refine H1.out.mono ?_
  rintro r w1 ⟨A1, c1, rfl, hown, hb1⟩
  have hblk := Blk.new w1 53 #[.int .i64 (bs.length : Int), .slice A1 bs.length c1, .slice none 0 0]
  have hb2 : Below w.heap.size w (w1.alloc (.cells #[.int .i64 (bs.length : Int), .slice A1 bs.length c1, .slice none 0 0] 53)) := hb1.alloc hb1.size _
  have hp2 : Hp (w1.alloc (.cells #[.int .i64 (bs.length : Int), .slice A1 bs.length c1, .slice none 0 0] 53)) w.heap.size w1.heap.size (bs.length : Int) bs [] (fun i => i = w1.heap.size ∨ (Value.slice A1 bs.length c1).ownBlock = some i) :=
    ⟨⟨.slice A1 bs.length c1, .slice none 0 0, ⟨hblk, own_below (B := w1.heap.size) hown ((Below.refl _ _).alloc (Nat.le_refl _) _) (Nat.le_refl _), World.ownsRow_nil _ _ _ _, fun e => by have := (own_lt hown e).2; omega, by simp [Value.ownBlock], by simp [Value.ownBlock]⟩, fun i hi => by
        rcases hi with h | h | h
        · exact .inl h
        · exact .inr h
        · simp [Value.ownBlock] at h⟩,
      fun i hi => by
        rcases hi with rfl | h
        · exact ⟨hb1.size, by simp⟩
        · have := own_lt hown h; exact ⟨this.1, by simp; omega⟩,
      ⟨by simp, fun k hk => by
        obtain rfl : k = 0 := by simpa using hk
        exact Nat.zero_le _⟩, by omega, by simp⟩
  have HP2 := Lib.hid hp2
  have HB2 := Lib.hid hb2
  clear hown hb1 hblk hb2 hp2
  go_wp2_with fail
  generalize w1.alloc (.cells #[.int .i64 (bs.length : Int), .slice A1 bs.length c1, .slice none 0 0] 53) = w2 at *
  generalize w1.heap.size = g at *
  go_loopw [6] (fun e wr => ∃ es M, e = .int .i64 (ed es es.length : Int) ∧ Hp wr w.heap.size g (bs.length : Int) bs es M ∧ OfE 65536 bs.length es ∧ Below w.heap.size w wr) (fun e _ => bs.length - (intOf e).toNat)
  case atStart => exact ⟨[], _, rfl, HP2.out, OfE.nil _ _, HB2.out⟩
  case round =>
    obtain ⟨es, M, rfl, hp3, hof, hb3⟩ := hrel
    have hfew := hof.few (by omega)
    have htop := hof.ends.top es.length (Nat.le_refl _)
    have hval := hof.val es.length (Nat.le_refl _)
    have HP := Lib.hid hp3
    have HB := Lib.hid hb3
    have HOF := Lib.hid hof
    clear hp3 hb3 hof
    by_cases he : ed es es.length < bs.length
    · have hsn := HOF.out.snoc (by omega) he
      rw [Nat.min_eq_right (by omega)] at hsn
      have HEN := Lib.hid hsn.ends
      have HSN := Lib.hid hsn
      clear hsn hval
      obtain ⟨A2, c2, A3, c3, w3, k2, k3, hrun, k4, k5, M', hp4, ho4, hm4⟩ := HP.out.push (ed es es.length + (bs.length - ed es es.length)) ((ed es es.length : Int) + ((bs.length : Int) - (ed es es.length : Int))) (by omega) HEN.out (by omega)
      have HP4 := Lib.hid hp4
      have HB4 := Lib.hid (below_below HB.out (ho4.below (Nat.le_trans (Nat.le_refl _) HB.out.size) (fun i hi => (HP.out.mine i hi).1)) (Nat.le_refl _))
      clear hp4 ho4 hm4
      have hm1 : (es.length : Int) < 65536 := by omega
      have hx1 : (ed es es.length : Int) < (bs.length : Int) := by omega
      have hmin : ¬ (65536 : Int) ≤ (bs.length : Int) - (ed es es.length : Int) := by omega
      generalize ed es es.length = x at *
      generalize es.length = m at *
      clear hfew htop hlen hcap
      go_wp2_with (at_builtin; refine wpList_append_run rfl _ _ _ _ rfl rfl rfl hrun ?_)
      go_roundw
      case rel => exact ⟨_, M', by rw [List.length_append, List.length_cons, List.length_nil, ed_end]; go_num, HP4.out, HSN.out, HB4.out⟩
      case measure => simp [intOf]; omega
    · have hfin : bs.length ≤ es.length * 65536 := by omega
      have HF := Lib.hid hfin
      clear hfin hval
      go_wp2_with fail
      go_ret
      exact ⟨g, es, M, rfl, HP.out, HOF.out, HF.out, HB.out⟩

set_option maxRecDepth 20000 in
set_option maxHeartbeats 2000000 in
theorem of_mid {w : World} {lo h' c : Nat} {A : Option Addr} (bs : List UInt8) (s : Nat) (hs : 0 < s) (hs2 : s ≤ 65536) (h : Rd w lo h' A c (bv bs)) (hh : h' ≤ w.heap.size) (hb : bs.length ≤ 3000) :
    Calls Try.prog 19 #[.slice A bs.length c, .int .i64 (s : Int)] w fun r w' => ∃ g es M, r = .returned (hp g) ∧ Hp w' w.heap.size g (bs.length : Int) bs es M ∧ OfE s bs.length es ∧ bs.length ≤ es.length * s ∧ Below w.heap.size w w' := by
  have hlen := h.len
  have hcap := h.cap
  rw [bv_length] at hlen
  unfold maxLen at hcap
  have h1 := sclone_any bs h hh (by omega)
  have H1 := Lib.hid h1
  clear h1 h
  unfold hp
  go_enter Try.func19, Try.ntmps19
  go_wp2_with fail
  refine H1.out.mono ?_
  rintro r w1 ⟨A1, c1, rfl, hown, hb1⟩
  have hblk := Blk.new w1 53 #[.int .i64 (bs.length : Int), .slice A1 bs.length c1, .slice none 0 0]
  have hb2 : Below w.heap.size w (w1.alloc (.cells #[.int .i64 (bs.length : Int), .slice A1 bs.length c1, .slice none 0 0] 53)) := hb1.alloc hb1.size _
  have hp2 : Hp (w1.alloc (.cells #[.int .i64 (bs.length : Int), .slice A1 bs.length c1, .slice none 0 0] 53)) w.heap.size w1.heap.size (bs.length : Int) bs [] (fun i => i = w1.heap.size ∨ (Value.slice A1 bs.length c1).ownBlock = some i) :=
    ⟨⟨.slice A1 bs.length c1, .slice none 0 0, ⟨hblk, own_below (B := w1.heap.size) hown ((Below.refl _ _).alloc (Nat.le_refl _) _) (Nat.le_refl _), World.ownsRow_nil _ _ _ _, fun e => by have := (own_lt hown e).2; omega, by simp [Value.ownBlock], by simp [Value.ownBlock]⟩, fun i hi => by
        rcases hi with h | h | h
        · exact .inl h
        · exact .inr h
        · simp [Value.ownBlock] at h⟩,
      fun i hi => by
        rcases hi with rfl | h
        · exact ⟨hb1.size, by simp⟩
        · have := own_lt hown h; exact ⟨this.1, by simp; omega⟩,
      ⟨by simp, fun k hk => by
        obtain rfl : k = 0 := by simpa using hk
        exact Nat.zero_le _⟩, by omega, by simp⟩
  have HP2 := Lib.hid hp2
  have HB2 := Lib.hid hb2
  clear hown hb1 hblk hb2 hp2
  go_wp2_with fail
  generalize w1.alloc (.cells #[.int .i64 (bs.length : Int), .slice A1 bs.length c1, .slice none 0 0] 53) = w2 at *
  generalize w1.heap.size = g at *
  go_loopw [6] (fun e wr => ∃ es M, e = .int .i64 (ed es es.length : Int) ∧ Hp wr w.heap.size g (bs.length : Int) bs es M ∧ OfE s bs.length es ∧ Below w.heap.size w wr) (fun e _ => bs.length - (intOf e).toNat)
  case atStart => exact ⟨[], _, rfl, HP2.out, OfE.nil _ _, HB2.out⟩
  case round =>
    obtain ⟨es, M, rfl, hp3, hof, hb3⟩ := hrel
    have hfew := hof.few (by omega)
    have htop := hof.ends.top es.length (Nat.le_refl _)
    have hval := hof.val es.length (Nat.le_refl _)
    have HP := Lib.hid hp3
    have HB := Lib.hid hb3
    have HOF := Lib.hid hof
    clear hp3 hb3 hof
    by_cases he : ed es es.length < bs.length
    · have hsn := HOF.out.snoc (by omega) he
      by_cases hle : s ≤ bs.length - ed es es.length
      · rw [Nat.min_eq_left hle] at hsn
        have hle2 : (s : Int) ≤ (bs.length : Int) - (ed es es.length : Int) := by omega
        have HEN := Lib.hid hsn.ends
        have HSN := Lib.hid hsn
        clear hsn hval
        obtain ⟨A2, c2, A3, c3, w3, k2, k3, hrun, k4, k5, M', hp4, ho4, hm4⟩ := HP.out.push (ed es es.length + s) ((ed es es.length : Int) + (s : Int)) (by omega) HEN.out (by omega)
        have HP4 := Lib.hid hp4
        have HB4 := Lib.hid (below_below HB.out (ho4.below (Nat.le_trans (Nat.le_refl _) HB.out.size) (fun i hi => (HP.out.mine i hi).1)) (Nat.le_refl _))
        clear hp4 ho4 hm4
        have hm1 : (es.length : Int) < 65536 := by omega
        have hx1 : (ed es es.length : Int) < (bs.length : Int) := by omega
        clear hs hs2
        generalize ed es es.length = x at *
        generalize es.length = m at *
        clear hfew htop hlen hcap
        go_wp2_with (at_builtin; refine wpList_append_run rfl _ _ _ _ rfl rfl rfl hrun ?_)
        go_roundw
        case rel => exact ⟨_, M', by rw [List.length_append, List.length_cons, List.length_nil, ed_end]; go_num, HP4.out, HSN.out, HB4.out⟩
        case measure => simp [intOf]; omega
      · rw [Nat.min_eq_right (by omega)] at hsn
        have hle2 : ¬ (s : Int) ≤ (bs.length : Int) - (ed es es.length : Int) := by omega
        have HEN := Lib.hid hsn.ends
        have HSN := Lib.hid hsn
        clear hsn hval
        obtain ⟨A2, c2, A3, c3, w3, k2, k3, hrun, k4, k5, M', hp4, ho4, hm4⟩ := HP.out.push (ed es es.length + (bs.length - ed es es.length)) ((ed es es.length : Int) + ((bs.length : Int) - (ed es es.length : Int))) (by omega) HEN.out (by omega)
        have HP4 := Lib.hid hp4
        have HB4 := Lib.hid (below_below HB.out (ho4.below (Nat.le_trans (Nat.le_refl _) HB.out.size) (fun i hi => (HP.out.mine i hi).1)) (Nat.le_refl _))
        clear hp4 ho4 hm4
        have hm1 : (es.length : Int) < 65536 := by omega
        have hx1 : (ed es es.length : Int) < (bs.length : Int) := by omega
        clear hs hs2
        generalize ed es es.length = x at *
        generalize es.length = m at *
        clear hfew htop hlen hcap
        go_wp2_with (at_builtin; refine wpList_append_run rfl _ _ _ _ rfl rfl rfl hrun ?_)
        go_roundw
        case rel => exact ⟨_, M', by rw [List.length_append, List.length_cons, List.length_nil, ed_end]; go_num, HP4.out, HSN.out, HB4.out⟩
        case measure => simp [intOf]; omega
    · have hfin : bs.length ≤ es.length * s := by omega
      have HF := Lib.hid hfin
      clear hfin hval
      go_wp2_with fail
      go_ret
      exact ⟨g, es, M, rfl, HP.out, HOF.out, HF.out, HB.out⟩

theorem of_any {w : World} {lo h' c : Nat} {A : Option Addr} (bs : List UInt8) (n : Int) (h : Rd w lo h' A c (bv bs)) (hh : h' ≤ w.heap.size) (hb : bs.length ≤ 3000) :
    Calls Try.prog 19 #[.slice A bs.length c, .int .i64 n] w fun r w' => ∃ g es M, r = .returned (hp g) ∧ Hp w' w.heap.size g (bs.length : Int) bs es M ∧ OfE (stepL n) bs.length es ∧ bs.length ≤ es.length * stepL n ∧ Below w.heap.size w w' := by
  unfold stepL
  by_cases h1 : n ≤ 0
  · rw [if_pos (.inl h1)]
    exact of_zero bs n h1 h hh hb
  · by_cases h2 : 65536 < n
    · rw [if_pos (.inr h2)]
      exact of_great bs n h1 h2 h hh hb
    · rw [if_neg (by omega)]
      obtain ⟨s, rfl⟩ := Int.eq_ofNat_of_zero_le (show 0 ≤ n by omega)
      exact of_mid bs s (by omega) (by omega) h hh hb
end Go.Proofs.Ytpainhgjiddpkaa
