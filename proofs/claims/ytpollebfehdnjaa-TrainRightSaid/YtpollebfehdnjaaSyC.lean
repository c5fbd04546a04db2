/-
  slices.Sort, slices.Compact of a call's own strings; strings.Clone.
-/
import Derived.Test.YtpollebfehdnjaaShS
import Derived.Test.YtpollebfehdnjaaMgM
import Derived.Test.YtpollebfehdnjaaOutM
import Derived.Lib.OwnBridge
import Derived.Sort.OwnSorted
namespace Go.Proofs.Ytpollebfehdnjaa
set_option linter.unusedSimpArgs false
set_option linter.unusedVariables false
open Go.RowKit Go.Sort Go.Shelf

theorem sv_enc (zs : List (List UInt8)) : sv (strsL zs) = zs.map encStr := by
  unfold sv strsL
  rw [List.map_map]
  rfl

theorem sort_own {w : World} {base : Nat} {v : Value} (zs : List (List UInt8)) (h : w.ownsRow base 9 1 v zs.length (sv (strsL zs))) (hn : zs.length < 4611686018427387904) :
    Calls Try.prog 44 #[v] w fun r w' => r = .returned (.tuple #[]) ∧ w'.ownsRow base 9 1 v zs.length (sv (strsL (zs.mergeSort fun x y => decide (x ≤ y)))) ∧ w.grownBy w' v.ownBlock := by
  rw [sv_enc] at h
  rw [sv_enc]
  rcases h.2 with ⟨rfl, h0⟩ | ⟨g, cap, cur, rfl, hbase, hb, h1, h2, h3, h4⟩
  · have hz : zs = [] := List.eq_nil_of_length_eq_zero h0
    subst hz
    refine (Any.slices_Sort_string_none lays190 none 0 w).mono ?_
    rintro r w' ⟨rfl, rfl⟩
    exact ⟨rfl, by simpa using h, gb_refl _ _⟩
  · refine (Any.slices_Sort_string lays190 g 0 cap zs w (holds_of_block hb (by simpa using h4)) (Array.getElem?_eq_some_iff.1 hb).1 hn).mono ?_
    rintro r w' ⟨rfl, n, os, rfl⟩
    exact ⟨rfl, ownsRow_sorted (List.length_mergeSort zs) hbase hb h1 h2 h3, grownBy_sorted _⟩

theorem compact_own {w : World} {base : Nat} {A : Option Addr} {c : Nat} (zs : List (List UInt8)) (h : w.ownsRow base 9 1 (.slice A zs.length c) zs.length (sv (strsL zs))) (hn : zs.length < 4611686018427387904) :
    Calls Try.prog 45 #[.slice A zs.length c] w fun r w' => r = .returned (.slice A (Lib.compact zs).length c) ∧ w'.ownsRow base 9 1 (.slice A (Lib.compact zs).length c) (Lib.compact zs).length (sv (strsL (Lib.compact zs))) ∧ w.grownBy w' (Value.slice A zs.length c).ownBlock := by
  rw [sv_enc] at h
  rw [sv_enc]
  rcases h.2 with ⟨he, h0⟩ | ⟨g, cap, cur, he, hbase, hb, h1, h2, h3, h4⟩
  · have hz : zs = [] := List.eq_nil_of_length_eq_zero h0
    subst hz
    refine (Any.slices_Compact_string_empty lays194 A c w).mono ?_
    rintro r w' ⟨rfl, rfl⟩
    exact ⟨rfl, h, gb_refl _ _⟩
  · injection he with he1 _ he3
    subst he1 he3
    refine (Any.slices_Compact_string lays194 g 0 c zs w (holds_of_block hb (by simpa using h4)) (by omega) h1).mono ?_
    rintro r w' ⟨rfl, q, rfl⟩
    have hle := Lib.compact_length_le zs
    have hc := Lib.ownsRow_putRow (q := q) (k := (Lib.compact zs).length) (ys := Lib.compact zs ++ List.replicate (zs.length - (Lib.compact zs).length) []) h (by simp; omega) (by omega)
    rw [List.take_left] at hc
    refine ⟨rfl, hc, ?_⟩
    have := grownBy_sorted (w := w) (g := g) (n := q) (os := #[]) (Lib.compact zs ++ List.replicate (zs.length - (Lib.compact zs).length) []).toArray
    rw [grow_empty] at this
    exact this

theorem sclone_any {w : World} (s : ByteArray) (hs : s.size ≤ 281474976710656) :
    Calls Try.prog 24 #[.string s] w fun e w' => e = .returned (.string s) ∧ Below w.heap.size w w' := by
  have h := fun w => Any.stringslite_Clone lays316 s w hs
  have H := Lib.hid h
  clear h
  go_enter Try.func24, Try.ntmps24
  go_wp2_with fail
  refine (H.out _).mono ?_
  rintro r w1 ⟨rfl, hb⟩
  go_wp2
  go_ret
  exact ⟨rfl, hb⟩

end Go.Proofs.Ytpollebfehdnjaa
