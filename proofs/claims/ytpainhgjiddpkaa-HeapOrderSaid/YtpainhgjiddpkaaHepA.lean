/-
  Heaps in memory; New, orEmpty, Size, Bytes, buffer, next.
-/
import Derived.Test.YtpainhgjiddpkaaRows
import Derived.Test.YtpainhgjiddpkaaOutM
import Derived.Test.YtpainhgjiddpkaaHepM
import Derived.Test.YtpainhgjiddpkaaByt
import Derived.Test.YtpainhgjiddpkaaIvM
import Derived.Test.YtpainhgjiddpkaaIntA
import Derived.Outline
import Derived.BigQuiet
import Derived.Deep.QuietTactic
import Derived.Lib.SliceRun
import Derived.Lib.SlBytesConst
namespace Go.Proofs.Ytpainhgjiddpkaa
set_option linter.unusedSimpArgs false
set_option linter.unusedVariables false
open Go.RowKit

structure HpAt (w : World) (lo g : Nat) (most : Int) (bs : List UInt8) (es : List Nat) (V E : Value) : Prop where
  blk : Blk w g 53 #[.int .i64 most, V, E]
  byt : w.ownsRow lo 5 1 V bs.length (bv bs)
  num : w.ownsRow lo 3 1 E es.length (iv (ints es))
  n1 : V.ownBlock ≠ some g
  n2 : E.ownBlock ≠ some g
  n3 : ∀ k, V.ownBlock = some k → E.ownBlock ≠ some k
/-- At block g lies a heap over bs with ends es that may have so many bytes; its blocks are some of M, all from lo on. -/
structure Hp (w : World) (lo g : Nat) (most : Int) (bs : List UInt8) (es : List Nat) (M : Nat → Prop) : Prop where
  at_ : ∃ V E, HpAt w lo g most bs es V E ∧ ∀ i, i = g ∨ V.ownBlock = some i ∨ E.ownBlock = some i → M i
  mine : ∀ i, M i → lo ≤ i ∧ i < w.heap.size
  ends : Ends es bs.length
  few : bs.length ≤ 1000000 ∧ es.length ≤ 60000
def hp (g : Nat) : Value := .pointer (some ⟨g, 0, none⟩)
section
variable {w w' : World} {lo g : Nat} {most : Int} {bs : List UInt8} {es : List Nat} {M X : Nat → Prop}
theorem Hp.keep (h : Hp w lo g most bs es M) (hs : w.heap.size ≤ w'.heap.size) (hk : ∀ i, M i → w'.heap[i]? = w.heap[i]?) : Hp w' lo g most bs es M := by
  obtain ⟨⟨V, E, ha, hM⟩, hm, he, hf⟩ := h
  exact ⟨⟨V, E, ⟨(hk g (hM _ (.inl rfl))).trans ha.blk, own_keep ha.byt (fun k h => hk k (hM _ (.inr (.inl h)))), own_keep ha.num (fun k h => hk k (hM _ (.inr (.inr h)))), ha.n1, ha.n2, ha.n3⟩, hM⟩,
    fun i hi => ⟨(hm i hi).1, Nat.lt_of_lt_of_le (hm i hi).2 hs⟩, he, hf⟩
theorem Hp.below {B : Nat} (h : Hp w lo g most bs es M) (hb : Below B w w') (hB : w.heap.size ≤ B) : Hp w' lo g most bs es M :=
  h.keep hb.size fun i hi => hb.block i (by have := (h.mine i hi).2; omega)
theorem Hp.out (h : Hp w lo g most bs es M) (ho : Out w w' X) (hX : ∀ i, M i → ¬ X i) : Hp w' lo g most bs es M :=
  h.keep ho.size fun i hi => ho.block i (h.mine i hi).2 (hX i hi)
theorem Hp.drewN (h : Hp w lo g most bs es M) (n : Nat) : Hp (w.drewN n) lo g most bs es M := h.keep (Nat.le_refl _) fun _ _ => rfl
theorem Hp.drew (h : Hp w lo g most bs es M) : Hp w.drew lo g most bs es M := h.keep (Nat.le_refl _) fun _ _ => rfl
theorem Hp.has (h : Hp w lo g most bs es M) : M g := by
  obtain ⟨⟨V, E, ha, hM⟩, hm, he, hf⟩ := h
  exact hM _ (.inl rfl)
theorem Hp.lt (h : Hp w lo g most bs es M) : g < w.heap.size := (h.mine g h.has).2
/-- the three cells, and what the two slices read as -/
theorem Hp.cells (h : Hp w lo g most bs es M) : ∃ A c A2 c2, w.cell? ⟨g, 0, none⟩ = some (.int .i64 most) ∧ w.cell? ⟨g, 1, none⟩ = some (.slice A bs.length c) ∧ w.cell? ⟨g, 2, none⟩ = some (.slice A2 es.length c2) ∧
    Rd w lo w.heap.size A c (bv bs) ∧ Rd w lo w.heap.size A2 c2 (iv (ints es)) := by
  obtain ⟨⟨V, E, ha, hM⟩, hm, he, hf⟩ := h
  obtain ⟨A, c, rfl, _⟩ := own_form w ha.byt
  obtain ⟨A2, c2, rfl, _⟩ := own_form w ha.num
  have h0 := ha.blk.cell 0
  have h1 := ha.blk.cell 1
  have h2 := ha.blk.cell 2
  exact ⟨A, c, A2, c2, h0, h1, h2, Rd.of_own ha.byt, Rd.of_own ha.num⟩
end
theorem ints_get (ns : List Nat) (k : Nat) (h : k < ns.length) : (ints ns)[k]'(by rw [ints_length]; exact h) = (ns[k] : Int) := by simp [ints]

theorem new_any {w : World} (most : Int) :
    Calls Try.prog 10 #[.int .i64 most] w fun r w' => r = .returned (hp w.heap.size) ∧ Hp w' w.heap.size w.heap.size (max most 0) [] [] (fun i => i = w.heap.size) ∧ Below w.heap.size w w' := by
  have hp0 : ∀ m, Hp (w.alloc (.cells #[.int .i64 m, .slice none 0 0, .slice none 0 0] 53)) w.heap.size w.heap.size m [] [] (fun i => i = w.heap.size) := fun m =>
    ⟨⟨.slice none 0 0, .slice none 0 0, ⟨Blk.new _ _ _, World.ownsRow_nil _ _ _ _, World.ownsRow_nil _ _ _ _, by simp [Value.ownBlock], by simp [Value.ownBlock], by simp [Value.ownBlock]⟩, by simp [Value.ownBlock]⟩,
      fun i hi => by subst hi; exact ⟨Nat.le_refl _, by simp⟩, Ends.nil, by simp, by simp⟩
  have HP := Lib.hid hp0
  clear hp0
  rcases Int.lt_or_le most 0 with h | h
  · rw [Int.max_eq_right (by omega)]
    go_enter Try.func10, Try.ntmps10
    go_wp2
    go_ret
    exact ⟨rfl, HP.out _, (Below.refl _ _).alloc (Nat.le_refl _) _⟩
  · rw [Int.max_eq_left h]
    go_enter Try.func10, Try.ntmps10
    go_wp2
    go_ret
    exact ⟨rfl, HP.out _, (Below.refl _ _).alloc (Nat.le_refl _) _⟩

theorem orEmpty_any {w : World} (g : Nat) :
    Calls Try.prog 25 #[hp g] w fun r w' => r = .returned (hp g) ∧ w = w' := by
  unfold hp
  go_enter Try.func25, Try.ntmps25
  go_wp2
  go_ret
  exact ⟨rfl, rfl⟩

theorem size_any {w : World} {lo g : Nat} {most : Int} {bs : List UInt8} {es : List Nat} {M : Nat → Prop} (h : Hp w lo g most bs es M) :
    Calls Try.prog 14 #[hp g] w fun r w' => r = .returned (.int .i64 (bs.length : Int)) ∧ w = w' := by
  obtain ⟨A, c, A2, c2, h0, h1, h2, hr, hr2⟩ := h.cells
  have ho := orEmpty_any (w := w) g
  unfold hp at ho ⊢
  clear h hr hr2 h0 h2
  go_enter Try.func14, Try.ntmps14
  go_wp2_with fail
  refine ho.mono ?_
  rintro r w' ⟨rfl, rfl⟩
  go_wp2
  go_ret
  exact ⟨rfl, rfl⟩

theorem sclone_any {w : World} (bs : List UInt8) {lo h' : Nat} {A : Option Addr} {c : Nat} (h : Rd w lo h' A c (bv bs)) (hh : h' ≤ w.heap.size) (hb : bs.length ≤ 1000000000) :
    Calls Try.prog 31 #[.slice A bs.length c] w fun r w' => ∃ A' c', r = .returned (.slice A' bs.length c') ∧
      w'.ownsRow w.heap.size 5 1 (.slice A' bs.length c') bs.length (bv bs) ∧ Below w.heap.size w w' := by
  rcases A with _ | ad
  · obtain rfl : bs = [] := by
      rcases Nat.eq_zero_or_pos (bv bs).length with h0 | h0
      · exact List.eq_nil_of_length_eq_zero (by simpa [bv] using h0)
      · obtain ⟨_, _, h, _⟩ := h.at_ h0
        cases h
    clear h
    have hnil := Lib.run_eql_slice_nil (P := Try.prog) w 36 5 none 0 c 0 0 Try.underlying36
    go_enter Try.func31, Try.ntmps31
    go_wp2
    go_ret
    exact ⟨_, _, rfl, World.ownsRow_nil .., Below.refl _ _⟩
  · obtain ⟨A1, c1, w1, hrun, hown, hg1⟩ := append_named (w.alloc (.cells #[] 5)) w.heap.size (.slice (some ⟨w.heap.size, 0, none⟩) 0 0) [] bs bs (by simp) (own_lit w [] #[] rfl (by simp)) (h.alloc hh _) (by simp; omega) (by simp)
    have HO := Lib.hid hown
    have HG := Lib.hid hg1
    clear h hown hg1
    have hnil := Lib.run_eql_slice_nil (P := Try.prog) w 36 5 (some ad) bs.length c 0 0 Try.underlying36
    go_enter Try.func31, Try.ntmps31
    go_wp2_with (at_builtin; refine wpList_append_run rfl _ _ _ _ rfl rfl rfl hrun ?_)
    go_ret
    exact ⟨_, _, rfl, HO.out, ((Below.refl _ _).alloc (Nat.le_refl _) _).grown HG.out (by simp) (by simp [Value.ownBlock])⟩

theorem bytes_any {w : World} {lo g : Nat} {most : Int} {bs : List UInt8} {es : List Nat} {M : Nat → Prop} (h : Hp w lo g most bs es M) :
    Calls Try.prog 15 #[hp g] w fun r w' => ∃ A c, r = .returned (.slice A bs.length c) ∧ w'.ownsRow w.heap.size 5 1 (.slice A bs.length c) bs.length (bv bs) ∧ Below w.heap.size w w' := by
  obtain ⟨A, c, A2, c2, h0, h1, h2, hr, hr2⟩ := h.cells
  have ho := orEmpty_any (w := w) g
  have hc := sclone_any bs hr (Nat.le_refl _) (by have := h.few.1; omega)
  unfold hp at ho ⊢
  have HC := Lib.hid hc
  clear h hr hr2 h0 h2 hc
  go_enter Try.func15, Try.ntmps15
  go_wp2_with fail
  refine ho.mono ?_
  rintro r w' ⟨rfl, rfl⟩
  go_wp2_with fail
  refine HC.out.mono ?_
  rintro r w' ⟨A', c', rfl, hown, hb⟩
  have HO := Lib.hid hown
  have HB := Lib.hid hb
  clear hown hb
  go_wp2
  go_ret
  exact ⟨_, _, rfl, HO.out, HB.out⟩

theorem buffer_no {w : World} {lo g : Nat} {most : Int} {bs : List UInt8} {es : List Nat} {M : Nat → Prop} (h : Hp w lo g most bs es M) (i : Int) (hi : i < 0 ∨ (es.length : Int) ≤ i) :
    Calls Try.prog 37 #[hp g, .int .i64 i] w fun r w' => r = .returned (.slice none 0 0) ∧ w = w' := by
  obtain ⟨A, c, A2, c2, h0, h1, h2, hr, hr2⟩ := h.cells
  unfold hp
  clear h hr hr2 h0 h1
  by_cases h5 : i < 0
  · go_enter Try.func37, Try.ntmps37
    go_wp2
    go_ret
    exact ⟨rfl, rfl⟩
  · have h6 : (es.length : Int) ≤ i := by omega
    clear hi
    go_enter Try.func37, Try.ntmps37
    go_wp2
    go_ret
    exact ⟨rfl, rfl⟩

end Go.Proofs.Ytpainhgjiddpkaa
