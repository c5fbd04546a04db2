/-
  What an act takes, as the law reckons it by the document's own Number: the cursor's own answers.
-/
import Derived.Test.YtdlpladdofjcfaaNum
import Derived.Test.YtdlpladdofjcfaaVar
namespace Go.Proofs.Ytdlpladdofjcfaa
set_option linter.unusedSimpArgs false
set_option linter.unusedVariables false
open Go.RowKit

theorem results_four {fn : Func} {t u v x : Tmp} (h : fn.results = #[.tmp t, .tmp u, .tmp v, .tmp x]) (tmps : Array Value) (P : Program) (w : World) :
    (results fn tmps).run P w = .ok (.tuple #[tmps.getD t undef, tmps.getD u undef, tmps.getD v undef, tmps.getD x undef]) w := by simp [results, h]

/-- what step answers -/
def StepIs (w : World) (lo hi : Nat) (num : Nat) (bytes : List UInt8) (size : Nat) (err : Int) (r : Ending) (w' : World) : Prop :=
  ∃ A' c', r = .returned (.tuple #[.int .i64 (num : Int), .slice A' bytes.length c', .int .i64 (size : Int), .int .i64 err]) ∧ Rd w' lo hi A' c' (bv bytes) ∧ Below w.heap.size w w'

section
variable {w : World} {lo hi : Nat} {A : Option Addr} {c : Nat} {bs : List UInt8} {p : Nat}

theorem step0 (n : Int) (h : Rd w lo hi A c (bv bs)) (hhi : hi ≤ w.heap.size) (hp : p ≤ bs.length) :
    Calls Try.prog 14 #[.slice A bs.length c, .int .i64 (p : Int), .agg #[.int .i64 0, .int .i64 n]] w
      (StepIs w lo hi ((takeR bs p 0 0 1).1.headD 0).toNat [] ((takeR bs p 0 0 1).2.1 - p) (takeR bs p 0 0 1).2.2) := by
  have hl := h.len
  have hc := h.cap
  rw [bv_length] at hl
  unfold maxLen at hc
  by_cases hlt : p < bs.length
  · have ht : takeR bs p 0 0 1 = ([bs[p]], p + 1, 0) := by
      have h1 : ¬ ((bs.length : Int) - p < 1) := by omega
      simp [takeR, h1]
      rw [List.drop_eq_getElem_cons hlt]
      rfl
    rw [ht]
    obtain ⟨b, off, rfl, _, hbh, hcell⟩ := h.get (k := p) (by rw [bv_length]; exact hlt)
    have hv := bv_get bs p hlt
    rw [List.getElem?_eq_getElem (by rw [bv_length]; exact hlt)] at hv
    injection hv with hv
    rw [hv] at hcell
    have hcell' : ∀ o : Obj, (w.alloc o).cell? ⟨b, off + p, none⟩ = some (.int .u8 (bs[p].toNat : Int)) := fun o => (World.cell?_alloc_lt w o _ (by simp; omega)).trans hcell
    have hx256 : bs[p].toNat < 256 := UInt8.toNat_lt _
    clear hv hcell h ht
    simp only [List.headD_cons, Nat.add_sub_cancel_left]
    generalize bs[p].toNat = x at *
    go_enter Try.func14, Try.ntmps14
    go_wp2
    refine bodyPost_ret (results_four rfl _ _ _) rfl ?_
    exact ⟨none, 0, rfl, Rd.nil _ _ _, (Below.refl _ _).alloc (Nat.le_refl _) _⟩
  · have ht : takeR bs p 0 0 1 = ([], p, 2) := by
      have h1 : (bs.length : Int) - p < 1 := by omega
      simp [takeR, h1]
    rw [ht]
    clear h ht
    simp only [List.headD_nil, Nat.sub_self]
    go_enter Try.func14, Try.ntmps14
    go_wp2
    refine bodyPost_ret (results_four rfl _ _ _) rfl ?_
    exact ⟨none, 0, rfl, Rd.nil _ _ _, (Below.refl _ _).alloc (Nat.le_refl _) _⟩

theorem step1 (n : Int) (h : Rd w lo hi A c (bv bs)) (hhi : hi ≤ w.heap.size) (hp : p ≤ bs.length) :
    Calls Try.prog 14 #[.slice A bs.length c, .int .i64 (p : Int), .agg #[.int .i64 1, .int .i64 n]] w
      (StepIs w lo hi 0 (takeR bs p 0 0 n).1 ((takeR bs p 0 0 n).2.1 - p) (takeR bs p 0 0 n).2.2) := by
  have hl := h.len
  have hc := h.cap
  rw [bv_length] at hl
  unfold maxLen at hc
  by_cases h0 : n < 0
  · rw [show takeR bs p 0 0 n = ([], p, 3) from by simp [takeR, h0]]
    clear h
    simp only [Nat.sub_self]
    go_enter Try.func14, Try.ntmps14
    go_wp2
    refine bodyPost_ret (results_four rfl _ _ _) rfl ?_
    exact ⟨none, 0, rfl, Rd.nil _ _ _, (Below.refl _ _).alloc (Nat.le_refl _) _⟩
  · by_cases h1 : (bs.length : Int) - p < n
    · rw [show takeR bs p 0 0 n = ([], p, 2) from by simp [takeR, h0, h1]]
      clear h
      simp only [Nat.sub_self]
      go_enter Try.func14, Try.ntmps14
      go_wp2
      refine bodyPost_ret (results_four rfl _ _ _) rfl ?_
      exact ⟨none, 0, rfl, Rd.nil _ _ _, (Below.refl _ _).alloc (Nat.le_refl _) _⟩
    · obtain ⟨m, rfl⟩ := Int.eq_ofNat_of_zero_le (show 0 ≤ n by omega)
      rw [show takeR bs p 0 0 (m : Int) = ((bs.drop p).take m, p + m, 0) from by simp [takeR, h1]]
      have hm : p + m ≤ bs.length := by omega
      have hcut := h.cut (k := p) (n := p + m) (by omega) (by rw [bv_length]; exact hm)
      rw [Nat.add_sub_cancel_left, ← bv_drop, ← bv_take] at hcut
      have HC := Lib.hid hcut
      have hlen : ((bs.drop p).take m).length = m := by rw [List.length_take, List.length_drop]; omega
      have HL := Lib.hid hlen
      clear h hcut hlen
      simp only [Nat.add_sub_cancel_left]
      go_enter Try.func14, Try.ntmps14
      go_wp2
      go_quiet (fail)
      all_goals go_wp2
      all_goals
        refine bodyPost_ret (results_four rfl _ _ _) rfl ?_
        refine ⟨if c = p then A else A.map (·.add p), c - p, ?_, ?_, ?_⟩
        · rw [HL.out]
          simp only [Ending.returned.injEq]
          first | (simp [*]; done) | (simp [*, Nat.add_sub_cancel_left]; done)
        · exact ((HC.out.alloc hhi _).drewN _)
        · exact below_drewN' ((Below.refl _ _).alloc (Nat.le_refl _) _) _

theorem most_all (bs : List UInt8) (p : Nat) : mostR bs p 0 9223372036854775807 = ((vnum (bs.drop p)).1, p + (vnum (bs.drop p)).2.1, (vnum (bs.drop p)).2.2) := by
  by_cases h : (vnum (bs.drop p)).2.2 = 0
  · have h1 := (vnum_form (bs.drop p) h).2.2
    have h2 : ¬ ((9223372036854775807 : Int) < ((vnum (bs.drop p)).1 : Int)) := by omega
    simp [mostR, peekR, peekE, h, h2]
  · have h3 := vnum_err (bs.drop p) h
    simp [mostR, peekR, peekE, h, h3.1, h3.2]

set_option maxRecDepth 20000 in
theorem step2 (n : Int) (h : Rd w lo hi A c (bv bs)) (hhi : hi ≤ w.heap.size) (hp : p ≤ bs.length) :
    Calls Try.prog 14 #[.slice A bs.length c, .int .i64 (p : Int), .agg #[.int .i64 2, .int .i64 n]] w
      (StepIs w lo hi (mostR bs p 0 9223372036854775807).1 [] ((mostR bs p 0 9223372036854775807).2.1 - p) (mostR bs p 0 9223372036854775807).2.2) := by
  have hl := h.len
  have hc := h.cap
  rw [bv_length] at hl
  unfold maxLen at hc
  rw [most_all]
  simp only [Nat.add_sub_cancel_left]
  have HN := fun o => Lib.hid (refNumber_any bs p (h.alloc hhi o) hp)
  have hz := vnum_size (bs.drop p)
  rw [List.length_drop] at hz
  clear h
  generalize vnum (bs.drop p) = V at *
  obtain ⟨x, k, e⟩ := V
  simp only [] at hz
  by_cases he : e = 0
  · subst he
    go_enter Try.func14, Try.ntmps14
    go_wp2_with (go_at_call 25; refine (HN _).out.mono ?_; rintro r w1 ⟨rfl, rfl⟩)
    all_goals refine bodyPost_ret (results_four rfl _ _ _) rfl ?_
    all_goals exact ⟨none, 0, rfl, Rd.nil _ _ _, (Below.refl _ _).alloc (Nat.le_refl _) _⟩
  · have h1 : (e == 0) = false := by simpa using he
    have h2 : (e != 0) = true := by simpa using he
    clear he
    go_enter Try.func14, Try.ntmps14
    go_wp2_with (go_at_call 25; refine (HN _).out.mono ?_; rintro r w1 ⟨rfl, rfl⟩)
    all_goals refine bodyPost_ret (results_four rfl _ _ _) rfl ?_
    all_goals exact ⟨none, 0, rfl, Rd.nil _ _ _, (Below.refl _ _).alloc (Nat.le_refl _) _⟩

set_option maxRecDepth 20000 in
theorem step3 (n : Int) (h : Rd w lo hi A c (bv bs)) (hhi : hi ≤ w.heap.size) (hp : p ≤ bs.length) :
    Calls Try.prog 14 #[.slice A bs.length c, .int .i64 (p : Int), .agg #[.int .i64 3, .int .i64 n]] w
      (StepIs w lo hi (mostR bs p 0 n).1 [] ((mostR bs p 0 n).2.1 - p) (mostR bs p 0 n).2.2) := by
  have hl := h.len
  have hc := h.cap
  rw [bv_length] at hl
  unfold maxLen at hc
  have HN := fun o => Lib.hid (refNumber_any bs p (h.alloc hhi o) hp)
  have hz := vnum_size (bs.drop p)
  rw [List.length_drop] at hz
  clear h
  by_cases he : (vnum (bs.drop p)).2.2 = 0
  · by_cases hx : n < ((vnum (bs.drop p)).1 : Int)
    · rw [show mostR bs p 0 n = (0, p, 3) from by simp [mostR, peekR, peekE, he, hx]]
      simp only [Nat.sub_self]
      generalize vnum (bs.drop p) = V at *
      obtain ⟨x, k, e⟩ := V
      simp only [] at hz he hx
      subst he
      go_enter Try.func14, Try.ntmps14
      go_wp2_with (go_at_call 25; refine (HN _).out.mono ?_; rintro r w1 ⟨rfl, rfl⟩)
      all_goals refine bodyPost_ret (results_four rfl _ _ _) rfl ?_
      all_goals exact ⟨none, 0, rfl, Rd.nil _ _ _, (Below.refl _ _).alloc (Nat.le_refl _) _⟩
    · rw [show mostR bs p 0 n = ((vnum (bs.drop p)).1, p + (vnum (bs.drop p)).2.1, 0) from by simp [mostR, peekR, peekE, he, hx]]
      simp only [Nat.add_sub_cancel_left]
      generalize vnum (bs.drop p) = V at *
      obtain ⟨x, k, e⟩ := V
      simp only [] at hz he hx
      subst he
      go_enter Try.func14, Try.ntmps14
      go_wp2_with (go_at_call 25; refine (HN _).out.mono ?_; rintro r w1 ⟨rfl, rfl⟩)
      all_goals refine bodyPost_ret (results_four rfl _ _ _) rfl ?_
      all_goals exact ⟨none, 0, rfl, Rd.nil _ _ _, (Below.refl _ _).alloc (Nat.le_refl _) _⟩
  · have h3 := vnum_err (bs.drop p) he
    rw [show mostR bs p 0 n = (0, p, (vnum (bs.drop p)).2.2) from by simp [mostR, peekR, peekE, he]]
    simp only [Nat.sub_self]
    generalize vnum (bs.drop p) = V at *
    obtain ⟨x, k, e⟩ := V
    simp only [] at hz he h3
    obtain ⟨rfl, rfl⟩ := h3
    have h1 : (e == 0) = false := by simpa using he
    have h2 : (e != 0) = true := by simpa using he
    clear he
    go_enter Try.func14, Try.ntmps14
    go_wp2_with (go_at_call 25; refine (HN _).out.mono ?_; rintro r w1 ⟨rfl, rfl⟩)
    all_goals refine bodyPost_ret (results_four rfl _ _ _) rfl ?_
    all_goals exact ⟨none, 0, rfl, Rd.nil _ _ _, (Below.refl _ _).alloc (Nat.le_refl _) _⟩

theorem step5 (n : Int) (h : Rd w lo hi A c (bv bs)) (hhi : hi ≤ w.heap.size) (hp : p ≤ bs.length) :
    Calls Try.prog 14 #[.slice A bs.length c, .int .i64 (p : Int), .agg #[.int .i64 5, .int .i64 n]] w (StepIs w lo hi 0 [] 0 n) := by
  have hl := h.len
  have hc := h.cap
  rw [bv_length] at hl
  unfold maxLen at hc
  clear h
  go_enter Try.func14, Try.ntmps14
  go_wp2
  go_quiet (fail)
  all_goals go_wp2
  all_goals refine bodyPost_ret (results_four rfl _ _ _) rfl ?_
  all_goals exact ⟨none, 0, rfl, Rd.nil _ _ _, below_drewN' ((Below.refl _ _).alloc (Nat.le_refl _) _) _⟩

set_option maxRecDepth 20000 in
set_option maxHeartbeats 1000000 in
theorem step4 (n : Int) (h : Rd w lo hi A c (bv bs)) (hhi : hi ≤ w.heap.size) (hp : p ≤ bs.length) :
    Calls Try.prog 14 #[.slice A bs.length c, .int .i64 (p : Int), .agg #[.int .i64 4, .int .i64 n]] w
      (StepIs w lo hi 0 (textR bs p 0).1 ((textR bs p 0).2.1 - p) (textR bs p 0).2.2) := by
  have hl := h.len
  have hc := h.cap
  rw [bv_length] at hl
  unfold maxLen at hc
  have HN := fun o => Lib.hid (refNumber_any bs p (h.alloc hhi o) hp)
  have hz := vnum_size (bs.drop p)
  rw [List.length_drop] at hz
  have H := Lib.hid h
  clear h
  by_cases he : (vnum (bs.drop p)).2.2 = 0
  · by_cases hx : (4096 : Int) < ((vnum (bs.drop p)).1 : Int)
    · rw [show textR bs p 0 = ([], p, 3) from by simp [textR, takeR, peekR, peekE, he, hx]]
      simp only [Nat.sub_self]
      generalize vnum (bs.drop p) = V at *
      obtain ⟨x, k, e⟩ := V
      simp only [] at hz he hx
      subst he
      go_enter Try.func14, Try.ntmps14
      go_wp2_with (go_at_call 25; refine (HN _).out.mono ?_; rintro r w1 ⟨rfl, rfl⟩)
      all_goals refine bodyPost_ret (results_four rfl _ _ _) rfl ?_
      all_goals exact ⟨none, 0, rfl, Rd.nil _ _ _, (Below.refl _ _).alloc (Nat.le_refl _) _⟩
    · have hpk : peekR bs p 0 4096 = ((vnum (bs.drop p)).1, (vnum (bs.drop p)).2.1, 0) := by simp [peekR, peekE, he, hx]
      have htx : textR bs p 0 = takeR bs p 0 (vnum (bs.drop p)).2.1 ((vnum (bs.drop p)).1 : Int) := by unfold textR; rw [hpk]
      rw [htx]
      clear hpk htx
      generalize vnum (bs.drop p) = V at *
      obtain ⟨x, k, e⟩ := V
      simp only [] at hz he hx ⊢
      subst he
      by_cases hov : (bs.length : Int) - p - k < (x : Int)
      · rw [show takeR bs p 0 k (x : Int) = ([], p, 2) from by
          have : ¬ ((x : Int) < 0) := by omega
          simp [takeR, hov]]
        simp only [Nat.sub_self]
        go_enter Try.func14, Try.ntmps14
        go_wp2_with (go_at_call 25; refine (HN _).out.mono ?_; rintro r w1 ⟨rfl, rfl⟩)
        all_goals refine bodyPost_ret (results_four rfl _ _ _) rfl ?_
        all_goals exact ⟨none, 0, rfl, Rd.nil _ _ _, (Below.refl _ _).alloc (Nat.le_refl _) _⟩
      · rw [show takeR bs p 0 k (x : Int) = ((bs.drop (p + k)).take x, p + k + x, 0) from by simp [takeR, hov]]
        have hm : p + k + x ≤ bs.length := by omega
        have hcut := H.out.cut (k := p + k) (n := p + k + x) (by omega) (by rw [bv_length]; exact hm)
        rw [Nat.add_sub_cancel_left, ← bv_drop, ← bv_take] at hcut
        have HC := Lib.hid hcut
        have hlen : ((bs.drop (p + k)).take x).length = x := by rw [List.length_take, List.length_drop]; omega
        have HL := Lib.hid hlen
        clear hcut hlen
        simp only [show p + k + x - p = k + x from by omega]
        go_enter Try.func14, Try.ntmps14
        go_wp2_with (go_at_call 25; refine (HN _).out.mono ?_; rintro r w1 ⟨rfl, rfl⟩)
        go_quiet (fail)
        all_goals go_wp2
        all_goals
          refine bodyPost_ret (results_four rfl _ _ _) rfl ?_
          refine ⟨if c = p + k then A else A.map (·.add (p + k)), c - (p + k), ?_, ?_, ?_⟩
          · rw [HL.out]
            simp only [Ending.returned.injEq]
            first | (simp [*]; done) | (simp [*, Nat.add_sub_cancel_left]; done)
          · exact ((HC.out.alloc hhi _).drewN _)
          · exact below_drewN' ((Below.refl _ _).alloc (Nat.le_refl _) _) _
  · have h3 := vnum_err (bs.drop p) he
    rw [show textR bs p 0 = ([], p, (vnum (bs.drop p)).2.2) from by simp [textR, takeR, peekR, peekE, he]]
    simp only [Nat.sub_self]
    generalize vnum (bs.drop p) = V at *
    obtain ⟨x, k, e⟩ := V
    simp only [] at hz he h3
    obtain ⟨rfl, rfl⟩ := h3
    have h1 : (e == 0) = false := by simpa using he
    have h2 : (e != 0) = true := by simpa using he
    clear he
    go_enter Try.func14, Try.ntmps14
    go_wp2_with (go_at_call 25; refine (HN _).out.mono ?_; rintro r w1 ⟨rfl, rfl⟩)
    all_goals refine bodyPost_ret (results_four rfl _ _ _) rfl ?_
    all_goals exact ⟨none, 0, rfl, Rd.nil _ _ _, (Below.refl _ _).alloc (Nat.le_refl _) _⟩
end
end Go.Proofs.Ytdlpladdofjcfaa
