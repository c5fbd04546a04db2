/-
  slices.Sorted(maps.Keys(m)), slices.Sort, slices.BinarySearch of ints: the library's contracts at this program's numbers.
  Numbers in a map, in plain: what is put there, and its keys in order.
  The program's gram: places, gram, bit.
  The program's gather: the grams of strings, rising, each once.
  The program's gram: the bits of grams; how far each gram is from the one ahead.
  The program's gram: Grams, Make.
  The program's gram: Has, May.
  The program's gram: Write.
  The program's gram: the grams of an exact filter, taken from bytes; its bits.
  The program's gram: Read.
  The program's gram: its contracts, together.
-/
import Derived.Shelf.SlIterI.Sorted
import Derived.Shelf.SlIterI.Keys
import Derived.Shelf.SortM.Plain
import Derived.Shelf.SortM.SortNone
import Derived.Shelf.Slices.SearchI
import Derived.Shelf.Slices.Empties
import Derived.Test.YtepgkdmfoojppaaRows
import Derived.Test.YtepgkdmfoojppaaIvM
import Derived.Test.YtepgkdmfoojppaaGrmM
import Derived.Test.YtepgkdmfoojppaaOutM
import Derived.Maps.OwnSet
import Derived.Maps.OwnOps
import Derived.Test.YtepgkdmfoojppaaMgG
import Derived.Test.YtepgkdmfoojppaaMgC
import Derived.Test.YtepgkdmfoojppaaStrM
import Derived.Test.YtepgkdmfoojppaaMgQ
import Derived.Deep.RegionHeld3
import Derived.Test.YtepgkdmfoojppaaMgK
import Derived.Test.YtepgkdmfoojppaaMgB
import Derived.Test.YtepgkdmfoojppaaCurE
import Derived.Test.YtepgkdmfoojppaaMgR
namespace Go.Proofs.Ytepgkdmfoojppaa
set_option maxRecDepth 100000
set_option linter.unusedSimpArgs false
set_option linter.unusedVariables false
open Go.RowKit Go.Maps Go.Sort

theorem bears_of {P : Program} {f : FuncId} {B g : Func} (h : P.funcs[f]? = some g) (hb : g = { B with name := g.name }) (hn : (g.name == "runtime.NumGoroutine") = false) : Bears P f B := ⟨g.name, hn, h.trans (congrArg some hb)⟩

/-- this program's numbers of the shelf's functions and types (Ggz) -/
def gkren : Go.Shelf.Ren := ⟨fun | 6 => 49 | 7 => 50 | 8 => 65 | 9 => 66 | 10 => 67 | 11 => 85 | 12 => 86 | 13 => 74 | 14 => 91 | 15 => 92 | 16 => 93 | 17 => 94 | 18 => 95 | 19 => 96 | 20 => 51 | 21 => 97 | 22 => 98 | 23 => 89 | 24 => 90 | 25 => 99 | 26 => 100 | 27 => 101 | 28 => 102 | 29 => 103 | 30 => 68 | 31 => 104 | n => n, fun | 0 => 0 | 1 => 1 | 2 => 2 | 3 => 75 | 4 => 4 | 5 => 5 | 6 => 6 | 7 => 7 | 8 => 8 | 9 => 9 | 10 => 10 | 11 => 11 | 12 => 12 | 13 => 13 | 14 => 14 | 15 => 15 | 16 => 16 | 17 => 17 | 18 => 18 | 19 => 19 | 20 => 20 | 21 => 21 | 23 => 74 | 24 => 25 | 25 => 76 | 26 => 3 | 27 => 77 | 28 => 78 | 29 => 79 | 32 => 90 | 33 => 82 | 34 => 99 | 35 => 100 | 36 => 92 | 37 => 80 | 38 => 105 | 39 => 106 | 40 => 107 | 41 => 108 | 42 => 109 | 43 => 81 | 44 => 110 | 45 => 57 | 46 => 111 | 47 => 103 | 48 => 36 | 49 => 104 | 50 => 94 | 51 => 112 | 52 => 113 | 53 => 114 | 54 => 115 | 55 => 116 | 56 => 117 | 57 => 118 | 58 => 85 | 59 => 119 | 60 => 120 | 61 => 121 | 62 => 122 | 63 => 123 | 64 => 124 | 65 => 125 | 66 => 52 | 67 => 126 | 68 => 127 | 69 => 128 | 70 => 129 | 71 => 130 | 72 => 131 | 73 => 132 | 74 => 133 | 75 => 134 | n => n, fun n => n⟩
theorem gklays : Go.Proofs.SlLaysZI.n7 Try.prog gkren := {
  mixed := by kernel_rfl
  f7 := bears_of Try.func50 (by kernel_rfl) (by kernel_rfl)
  f10 := bears_of Try.func67 (by kernel_rfl) (by kernel_rfl)
  t0 := Try.underlying0
  a0 := Try.isAgg0
  z0 := Try.sizeOf0
  v0 := Try.zeroValue0
  t4 := Try.underlying4
  a4 := Try.isAgg4
  z4 := Try.sizeOf4
  v4 := Try.zeroValue4
  t23 := Try.underlying74
  a23 := Try.isAgg74
  z23 := Try.sizeOf74
  v23 := Try.zeroValue74
  t26 := Try.underlying3
  a26 := Try.isAgg3
  z26 := Try.sizeOf3
  v26 := Try.zeroValue3
  t27 := Try.underlying77
  a27 := Try.isAgg77
  z27 := Try.sizeOf77
  v27 := Try.zeroValue77
  t28 := Try.underlying78
  a28 := Try.isAgg78
  z28 := Try.sizeOf78
  v28 := Try.zeroValue78
  t33 := Try.underlying82
  a33 := Try.isAgg82
  z33 := Try.sizeOf82
  v33 := Try.zeroValue82
  }

/-- this program's numbers of the shelf's functions and types (Ggz) -/
def gdren : Go.Shelf.Ren := ⟨fun | 6 => 49 | 7 => 50 | 8 => 65 | 9 => 66 | 10 => 67 | 11 => 85 | 12 => 86 | 13 => 74 | 14 => 91 | 15 => 92 | 16 => 93 | 17 => 94 | 18 => 95 | 19 => 96 | 20 => 51 | 21 => 97 | 22 => 98 | 23 => 89 | 24 => 90 | 25 => 99 | 26 => 100 | 27 => 101 | 28 => 102 | 29 => 103 | 30 => 68 | 31 => 104 | n => n, fun | 0 => 0 | 1 => 1 | 2 => 2 | 3 => 3 | 4 => 4 | 5 => 5 | 6 => 6 | 7 => 7 | 8 => 8 | 9 => 9 | 10 => 10 | 11 => 11 | 12 => 12 | 13 => 13 | 14 => 14 | 15 => 15 | 16 => 16 | 17 => 17 | 18 => 18 | 19 => 19 | 20 => 20 | 21 => 21 | 23 => 74 | 24 => 25 | 25 => 76 | 26 => 3 | 27 => 77 | 28 => 78 | 29 => 79 | 32 => 90 | 33 => 82 | 34 => 99 | 35 => 100 | 36 => 92 | 37 => 80 | 38 => 105 | 39 => 106 | 40 => 107 | 41 => 108 | 42 => 109 | 43 => 81 | 44 => 110 | 45 => 57 | 46 => 111 | 47 => 103 | 48 => 36 | 49 => 104 | 50 => 94 | 51 => 112 | 52 => 113 | 53 => 114 | 54 => 115 | 55 => 116 | 56 => 117 | 57 => 118 | 58 => 85 | 59 => 119 | 60 => 120 | 61 => 121 | 62 => 122 | 63 => 123 | 64 => 124 | 65 => 125 | 66 => 52 | 67 => 126 | 68 => 127 | 69 => 128 | 70 => 129 | 71 => 130 | 72 => 131 | 73 => 132 | 74 => 133 | 75 => 134 | n => n, fun n => n⟩
theorem gdlays : Go.Proofs.SlLaysZI.n6 Try.prog gdren := {
  mixed := by kernel_rfl
  f6 := bears_of Try.func49 (by kernel_rfl) (by kernel_rfl)
  f8 := bears_of Try.func65 (by kernel_rfl) (by kernel_rfl)
  f11 := bears_of Try.func85 (by kernel_rfl) (by kernel_rfl)
  t0 := Try.underlying0
  a0 := Try.isAgg0
  z0 := Try.sizeOf0
  v0 := Try.zeroValue0
  t24 := Try.underlying25
  a24 := Try.isAgg25
  z24 := Try.sizeOf25
  v24 := Try.zeroValue25
  t26 := Try.underlying3
  a26 := Try.isAgg3
  z26 := Try.sizeOf3
  v26 := Try.zeroValue3
  t28 := Try.underlying78
  a28 := Try.isAgg78
  z28 := Try.sizeOf78
  v28 := Try.zeroValue78
  i26 := by kernel_rfl
  }

/-- this program's numbers of the shelf's functions and types (Slgm) -/
def gsren : Go.Shelf.Ren := ⟨fun | 5 => 66 | 7 => 86 | 8 => 74 | 10 => 91 | 11 => 92 | 12 => 93 | 13 => 94 | 14 => 95 | 15 => 96 | 16 => 51 | 17 => 97 | 18 => 98 | 19 => 89 | 20 => 90 | 30 => 99 | 31 => 100 | 32 => 101 | 33 => 102 | 34 => 103 | 35 => 68 | 40 => 104 | n => n, fun | 0 => 0 | 1 => 1 | 2 => 2 | 3 => 3 | 4 => 4 | 5 => 5 | 6 => 6 | 7 => 7 | 8 => 8 | 9 => 9 | 10 => 10 | 11 => 11 | 12 => 12 | 13 => 13 | 14 => 14 | 15 => 15 | 16 => 16 | 17 => 17 | 18 => 18 | 19 => 19 | 20 => 20 | 21 => 21 | 22 => 25 | 23 => 25 | 24 => 90 | 25 => 3 | 30 => 100 | 31 => 92 | 32 => 80 | 34 => 105 | 35 => 106 | 36 => 107 | 37 => 108 | 38 => 109 | 39 => 81 | 40 => 110 | 41 => 57 | 42 => 111 | 43 => 103 | 44 => 36 | 45 => 104 | 46 => 94 | 53 => 112 | 54 => 113 | 55 => 114 | 56 => 115 | 57 => 116 | 58 => 117 | 59 => 82 | 63 => 118 | 64 => 85 | 65 => 119 | 67 => 120 | 68 => 121 | 69 => 122 | 70 => 123 | 71 => 124 | 72 => 125 | 73 => 52 | 74 => 126 | 75 => 127 | 76 => 128 | 77 => 129 | 78 => 130 | 79 => 131 | 80 => 132 | 81 => 133 | 82 => 134 | n => n, fun n => n⟩
theorem gslays : Go.Proofs.SlLaysM.n5 Try.prog gsren := {
  mixed := by kernel_rfl
  f5 := bears_of Try.func66 (by kernel_rfl) (by kernel_rfl)
  f7 := bears_of Try.func86 (by kernel_rfl) (by kernel_rfl)
  f8 := Try.func74.trans (congrArg some (by kernel_rfl))
  f10 := bears_of Try.func91 (by kernel_rfl) (by kernel_rfl)
  f11 := bears_of Try.func92 (by kernel_rfl) (by kernel_rfl)
  f12 := bears_of Try.func93 (by kernel_rfl) (by kernel_rfl)
  f13 := bears_of Try.func94 (by kernel_rfl) (by kernel_rfl)
  f14 := bears_of Try.func95 (by kernel_rfl) (by kernel_rfl)
  f15 := bears_of Try.func96 (by kernel_rfl) (by kernel_rfl)
  f16 := bears_of Try.func51 (by kernel_rfl) (by kernel_rfl)
  f17 := bears_of Try.func97 (by kernel_rfl) (by kernel_rfl)
  f18 := bears_of Try.func98 (by kernel_rfl) (by kernel_rfl)
  f19 := Try.func89.trans (congrArg some (by kernel_rfl))
  f20 := Try.func90.trans (congrArg some (by kernel_rfl))
  f30 := bears_of Try.func99 (by kernel_rfl) (by kernel_rfl)
  f31 := Try.func100.trans (congrArg some (by kernel_rfl))
  f32 := Try.func101.trans (congrArg some (by kernel_rfl))
  f33 := bears_of Try.func102 (by kernel_rfl) (by kernel_rfl)
  f34 := bears_of Try.func103 (by kernel_rfl) (by kernel_rfl)
  f35 := bears_of Try.func68 (by kernel_rfl) (by kernel_rfl)
  f40 := bears_of Try.func104 (by kernel_rfl) (by kernel_rfl)
  t0 := Try.underlying0
  a0 := Try.isAgg0
  z0 := Try.sizeOf0
  v0 := Try.zeroValue0
  t3 := Try.underlying3
  a3 := Try.isAgg3
  z3 := Try.sizeOf3
  v3 := Try.zeroValue3
  t4 := Try.underlying4
  a4 := Try.isAgg4
  z4 := Try.sizeOf4
  v4 := Try.zeroValue4
  t5 := Try.underlying5
  a5 := Try.isAgg5
  z5 := Try.sizeOf5
  v5 := Try.zeroValue5
  t9 := Try.underlying9
  a9 := Try.isAgg9
  z9 := Try.sizeOf9
  v9 := Try.zeroValue9
  t22 := Try.underlying25
  a22 := Try.isAgg25
  z22 := Try.sizeOf25
  v22 := Try.zeroValue25
  t23 := Try.underlying25
  a23 := Try.isAgg25
  z23 := Try.sizeOf25
  v23 := Try.zeroValue25
  t25 := Try.underlying3
  a25 := Try.isAgg3
  z25 := Try.sizeOf3
  v25 := Try.zeroValue3
  t32 := Try.underlying80
  a32 := Try.isAgg80
  z32 := Try.sizeOf80
  v32 := Try.zeroValue80
  t35 := Try.underlying106
  a35 := Try.isAgg106
  z35 := Try.sizeOf106
  v35 := Try.zeroValue106
  t36 := Try.underlying107
  a36 := Try.isAgg107
  z36 := Try.sizeOf107
  v36 := Try.zeroValue107
  t41 := Try.underlying57
  a41 := Try.isAgg57
  z41 := Try.sizeOf57
  v41 := Try.zeroValue57
  t44 := Try.underlying36
  a44 := Try.isAgg36
  z44 := Try.sizeOf36
  v44 := Try.zeroValue36
  t46 := Try.underlying94
  a46 := Try.isAgg94
  z46 := Try.sizeOf94
  v46 := Try.zeroValue94
  t53 := Try.underlying112
  a53 := Try.isAgg112
  z53 := Try.sizeOf112
  v53 := Try.zeroValue112
  t57 := Try.underlying116
  a57 := Try.isAgg116
  z57 := Try.sizeOf116
  v57 := Try.zeroValue116
  t63 := Try.underlying118
  a63 := Try.isAgg118
  z63 := Try.sizeOf118
  v63 := Try.zeroValue118
  t64 := Try.underlying85
  a64 := Try.isAgg85
  z64 := Try.sizeOf85
  v64 := Try.zeroValue85
  }

/-- this program's numbers of the shelf's functions and types (Nm2) -/
def gbren : Go.Shelf.Ren := ⟨fun | 25 => 33 | 31 => 51 | 32 => 52 | 37 => 68 | n => n, fun | 0 => 0 | 1 => 1 | 2 => 2 | 3 => 3 | 4 => 4 | 5 => 5 | 6 => 6 | 7 => 7 | 8 => 8 | 9 => 9 | 10 => 10 | 11 => 11 | 12 => 12 | 13 => 13 | 14 => 14 | 15 => 15 | 16 => 16 | 17 => 17 | 18 => 18 | 19 => 19 | 20 => 20 | 21 => 21 | 22 => 25 | 23 => 66 | 24 => 22 | 33 => 57 | 34 => 58 | 36 => 37 | 40 => 80 | 41 => 81 | 42 => 82 | 43 => 43 | 45 => 90 | 46 => 120 | 47 => 121 | 48 => 122 | 49 => 123 | 50 => 124 | 51 => 125 | 52 => 52 | 53 => 36 | 54 => 126 | 55 => 127 | 56 => 128 | 57 => 129 | 58 => 130 | 59 => 131 | 60 => 132 | 61 => 133 | 62 => 134 | n => n, fun n => n⟩
theorem gblays : Go.Proofs.Lays2.n25 Try.prog gbren := {
  mixed := by kernel_rfl
  f25 := Try.func33.trans (congrArg some (by kernel_rfl))
  f31 := Try.func51.trans (congrArg some (by kernel_rfl))
  f32 := Try.func52.trans (congrArg some (by kernel_rfl))
  f37 := Try.func68.trans (congrArg some (by kernel_rfl))
  t0 := Try.underlying0
  a0 := Try.isAgg0
  z0 := Try.sizeOf0
  v0 := Try.zeroValue0
  t3 := Try.underlying3
  a3 := Try.isAgg3
  z3 := Try.sizeOf3
  v3 := Try.zeroValue3
  t4 := Try.underlying4
  a4 := Try.isAgg4
  z4 := Try.sizeOf4
  v4 := Try.zeroValue4
  t22 := Try.underlying25
  a22 := Try.isAgg25
  z22 := Try.sizeOf25
  v22 := Try.zeroValue25
  t40 := Try.underlying80
  a40 := Try.isAgg80
  z40 := Try.sizeOf80
  v40 := Try.zeroValue80
  }

theorem gsorts (m : Nat) : AnyZI.SortsIn Try.prog gdren Fence.wide m :=
  ⟨fun blk off cap ss W hH hblk hsz => callsIn_wide.2 (AnyM.slices_Sort_int gslays blk off cap ss W hH hblk hsz),
   fun p cap W => callsIn_wide.2 (AnyM.slices_Sort_int_none gslays p cap W)⟩
/-- maps.Keys: the map is boxed -/
theorem gkeys_any (mb : Option Nat) (W : World) : Calls Try.prog 50 #[.map mb] W fun e w' => e = .returned (.func (.func 67) #[] #[.pointer (some ⟨W.heap.size, 0, none⟩)]) ∧ w' = W.alloc (.cells #[.map mb] 74) :=
  (callsIn_wide (n := 5)).1 (AnyZI.keys_in gklays Fence.wide 5 trivial rfl mb W)

set_option maxHeartbeats 1000000 in
/-- slices.Sorted of what maps.Keys handed back: the keys, sorted, in a new slice -/
theorem gsorted_any (b nn : Nat) (D0 : DataW Unit) (w : World) (hown : w.ownsMap Try.prog 3 (unitElem (H := Unit)) b nn D0) (hmax : Maps.size D0 ≤ maxLen) (hbytes : Maps.size D0 * 8 ≤ 140737488355328) (w1 : World) (hw1 : w1 = w.alloc (.cells #[.map (some b)] 74)) :
    Calls Try.prog 49 #[.func (.func 67) #[] #[.pointer (some ⟨w.heap.size, 0, none⟩)]] w1 fun e w' => ∃ (v : Value) (ss : List Int), e = .returned v ∧ ss.Perm (intKeys D0) ∧
      w'.ownsRow w1.heap.size 3 1 v ss.length ((ss.mergeSort (fun x y => decide (x ≤ y))).map encZ) ∧ (v = .slice none 0 0 ↔ ss = []) ∧ Below w1.heap.size w1 w' := by
  subst hw1
  have hbl := hown.lt
  have hseq : SeqGives Fence.wide 2 Try.prog 67 #[.pointer (some ⟨w.heap.size, 0, none⟩)] encZ (fun ss => ss.Perm (intKeys D0)) (Maps.size D0) (w.alloc (.cells #[.map (some b)] 74)) :=
    AnyZI.keys_gives (ρ := gkren) { gklays with } Fence.wide _ trivial rfl (by omega) w.heap.size b nn D0 _ (by simp) (by simp) (by
      obtain ⟨es, clock, hb, Ft, hs, hD⟩ := hown
      exact ⟨es, clock, (Below.heap_alloc _ _ b hbl).trans hb, Ft, hs, hD⟩)
  exact (callsIn_wide (n := 5)).1 (AnyZI.sorted_in gdlays Fence.wide 5 trivial trivial trivial trivial rfl (by omega) (gsorts _) (enters_of Try.func66 (by kernel_rfl) rfl) 67 #[.pointer (some ⟨w.heap.size, 0, none⟩)] trivial (enters_of Try.func67 (by kernel_rfl) rfl) _ _ hmax hbytes _ hseq)

/-- slices.BinarySearch of whatever rising numbers: is it there? -/
theorem bsi_any {w : World} {lo hi c : Nat} {A : Option Addr} (gs : List Nat) (h : Rd w lo hi A c (iv (ints gs))) (hup : gs.Pairwise (· < ·)) (hn : gs.length ≤ 100000000) (g : Nat) :
    Calls Try.prog 33 #[.slice A gs.length c, .int .i64 (g : Int)] w fun r w' => ∃ k : Nat, r = .returned (.tuple #[.int .i64 (k : Int), .bool (decide (g ∈ gs))]) ∧ ∃ m, w' = w.drewN m := by
  by_cases h0 : gs = []
  · subst h0
    refine (Any.slices_BinarySearch_int_empty gblays A c _ w).mono ?_
    rintro r w' ⟨rfl, rfl⟩
    exact ⟨0, by simp, 0, rfl⟩
  · have hl := h.len
    have hm := h.cap
    rw [iv_length, ints_length] at hl
    unfold maxLen at hm
    have hp : 0 < gs.length := List.length_pos_iff.2 h0
    obtain ⟨b, off, rfl, _, _, hc⟩ := h.at_ (by rw [iv_length, ints_length]; exact hp)
    have hz : (ints gs).length = gs.length := ints_length gs
    have ht : (ints gs).take gs.length = ints gs := List.take_of_length_le (by omega)
    refine (Any.slices_BinarySearch_int gblays b off gs.length c (ints gs) (g : Int) w (by omega) (by omega) (fun j hj => hc j _ (by rw [iv_get _ j hj]; simp [List.getD, List.getElem?_eq_getElem hj])) (by
      rw [ht, ints, List.pairwise_map]
      exact hup.imp fun {a b} hab => by omega)).mono ?_
    rintro r w' ⟨rfl, q, rfl⟩
    refine ⟨(ints gs).countP (· < (g : Int)), ?_, q, rfl⟩
    rw [ht]
    congr 5
    refine congrArg Value.bool ?_
    rw [Bool.eq_iff_iff, decide_eq_true_iff, List.contains_iff_mem, ints, List.mem_map]
    constructor
    · rintro ⟨x, hx, e⟩
      have : x = g := by omega
      exact this ▸ hx
    · exact fun hx => ⟨g, hx, rfl⟩
end Go.Proofs.Ytepgkdmfoojppaa
namespace Go.Proofs.Ytepgkdmfoojppaa
set_option linter.unusedSimpArgs false
set_option linter.unusedVariables false
open Go.RowKit Go.Maps Go.Sort

/-- the map has just these numbers -/
structure SetN (D : DataW Unit) (P : List Nat) : Prop where
  map : IsMap D
  has : ∀ x : Int, Maps.has D (.int .i64 x) = decide (x ∈ ints P)
theorem SetN.nil : SetN (.map []) [] := ⟨isMap_empty, fun _ => rfl⟩
theorem SetN.put {D : DataW Unit} {P : List Nat} (h : SetN D P) (g : Nat) : SetN (D.put (.int .i64 (g : Int)) (.agg [])) (P ++ [g]) := by
  refine ⟨h.map.put _ _, fun y => ?_⟩
  by_cases hy : y = (g : Int)
  · subst hy
    rw [has_put_same h.map (show WideAt.IsKeyLit (Lit.int .i64 (g : Int)) from trivial)]
    simp [ints]
  · rw [has_put_other (fun e => hy (by injection e)), h.has y]
    simp [ints, hy]
theorem once_of : ∀ P : List Nat, ∃ u : List Nat, u.Nodup ∧ ∀ x, x ∈ u ↔ x ∈ P
  | [] => ⟨[], List.nodup_nil, fun _ => Iff.rfl⟩
  | a :: P => by
    obtain ⟨u, h1, h2⟩ := once_of P
    by_cases ha : a ∈ P
    · exact ⟨u, h1, fun x => by
        rw [h2 x, List.mem_cons]
        exact ⟨.inr, fun h => h.elim (fun e => e ▸ ha) id⟩⟩
    · exact ⟨a :: u, List.nodup_cons.2 ⟨fun h => ha ((h2 a).1 h), h1⟩, fun x => by rw [List.mem_cons, List.mem_cons, h2 x]⟩
theorem mem_ints {P : List Nat} {z : Int} : z ∈ ints P ↔ ∃ g ∈ P, (g : Int) = z := List.mem_map
theorem mem_ints_nat {P : List Nat} {g : Nat} : (g : Int) ∈ ints P ↔ g ∈ P := by
  rw [mem_ints]
  constructor
  · rintro ⟨x, hx, e⟩
    have : x = g := by omega
    exact this ▸ hx
  · exact fun h => ⟨g, h, rfl⟩
/-- a block is a map of numbers, of at most n entries, that reads as D -/
def MapN (w : World) (B n : Nat) (D : DataW Unit) : Prop := w.ownsMap Try.prog 3 (unitElem (H := Unit)) B n D
theorem MapN.out {w w' : World} {B n : Nat} {D : DataW Unit} {X : Nat → Prop} (h : MapN w B n D) (ho : Out w w' X) (hB : ¬ X B) : MapN w' B n D := by
  have hlt := h.lt
  obtain ⟨es, clock, hb, rest⟩ := h
  exact ⟨es, clock, (ho.block B hlt hB).trans hb, rest⟩
theorem SetN.perm {w : World} {B n : Nat} {D : DataW Unit} {P : List Nat} (h : SetN D P) (hown : MapN w B n D) : ∃ u : List Nat, u.Nodup ∧ (∀ x, x ∈ u ↔ x ∈ P) ∧ (ints u).Perm (intKeys D) := by
  obtain ⟨u, h1, h2⟩ := once_of P
  have hc : CollectedI D (fun _ => false) (ints u) := by
    refine ⟨List.pairwise_map.2 (h1.imp fun {a b} hab e => hab (by omega)), fun x => ?_⟩
    rw [h.has x, decide_eq_true_iff, mem_ints, mem_ints]
    constructor
    · rintro ⟨g, hg, e⟩
      exact ⟨⟨g, (h2 g).1 hg, e⟩, rfl⟩
    · rintro ⟨⟨g, hg, e⟩, -⟩
      exact ⟨g, (h2 g).2 hg, e⟩
  exact ⟨u, h1, h2, hc.perm hown (int_keyed Try.underlying3) Try.underlying3 (fun _ => rfl)⟩
theorem size_keys {D : DataW Unit} (h : IsMap D) : Maps.size D = (intKeys D).length := by
  obtain ⟨es, rfl⟩ := h
  simp [Maps.size, intKeys]
theorem SetN.size {w : World} {B n : Nat} {D : DataW Unit} {P : List Nat} (h : SetN D P) (hown : MapN w B n D) : Maps.size D ≤ P.length := by
  obtain ⟨u, h1, h2, hp⟩ := h.perm hown
  rw [size_keys h.map, ← hp.length_eq, ints_length]
  exact List.Nodup.length_le_of_subset h1 fun x hx => (h2 x).1 hx
/-- the keys, sorted, are the numbers, rising, each once -/
theorem SetN.keys {w : World} {B n : Nat} {D : DataW Unit} {P : List Nat} (h : SetN D P) (hown : MapN w B n D) {ss : List Int} (hp : ss.Perm (intKeys D)) :
    ∃ t : List Nat, Rise P t ∧ (ss.mergeSort (fun x y => decide (x ≤ y))).map encZ = iv (ints t) ∧ ss.length = t.length := by
  obtain ⟨u, h1, h2, hu⟩ := h.perm hown
  have hsu : ss.Perm (ints u) := hp.trans hu.symm
  have hz := List.mergeSort_perm ss (fun x y => decide (x ≤ y))
  have hzu := hz.trans hsu
  have tr : ∀ a b c : Int, decide (a ≤ b) = true → decide (b ≤ c) = true → decide (a ≤ c) = true := fun a b c h1 h2 => by simp only [decide_eq_true_eq] at *; omega
  have to : ∀ a b : Int, (decide (a ≤ b) || decide (b ≤ a)) = true := fun a b => by simp only [Bool.or_eq_true, decide_eq_true_eq]; omega
  have hord := List.pairwise_mergeSort (le := fun x y : Int => decide (x ≤ y)) tr to ss
  obtain ⟨zs, hzs⟩ : ∃ zs, ss.mergeSort (fun x y : Int => decide (x ≤ y)) = zs := ⟨_, rfl⟩
  rw [hzs] at hord hzu hz ⊢
  have hnd : zs.Nodup := hzu.nodup_iff.2 (List.pairwise_map.2 (h1.imp fun {a b} hab e => hab (by omega)))
  have hnat : ∀ z ∈ zs, ((z.toNat : Nat) : Int) = z := fun z hz => by
    obtain ⟨g, _, rfl⟩ := mem_ints.1 (hzu.mem_iff.1 hz)
    rfl
  have hit : ints (zs.map Int.toNat) = zs := by
    rw [ints, List.map_map]
    conv => rhs; rw [← List.map_id zs]
    exact List.map_congr_left fun z hz => hnat z hz
  refine ⟨zs.map Int.toNat, ⟨?_, fun x => ?_⟩, by rw [hit]; rfl, by rw [List.length_map]; exact hz.length_eq.symm⟩
  · refine List.pairwise_map.2 ((hord.and hnd).imp_of_mem fun {a b} ha hb hab => ?_)
    have e1 := hnat a ha
    have e2 := hnat b hb
    have h3 := hab.1
    have h4 := hab.2
    simp only [decide_eq_true_eq] at h3
    omega
  · rw [← mem_ints_nat, hit, hzu.mem_iff, mem_ints_nat, h2 x]
end Go.Proofs.Ytepgkdmfoojppaa
namespace Go.Proofs.Ytepgkdmfoojppaa
set_option linter.unusedSimpArgs false
set_option linter.unusedVariables false
open Go.RowKit

set_option maxRecDepth 20000 in
theorem gplaces_any {w : World} (s : ByteArray) (hs : s.size ≤ 100000) (n : Nat) (hn : s.size - 2 = n) :
    Calls Try.prog 35 #[.string s] w fun r w' => r = .returned (.int .i64 (n : Int)) ∧ w = w' := by
  have HN := Lib.hid hn
  clear hn
  go_enter Try.func35, Try.ntmps35
  go_wp2
  all_goals
    have hn := HN.out
    go_ret
    exact ⟨ret_int' (by omega), rfl⟩

set_option maxRecDepth 20000 in
/-- three bytes, each at its place -/
theorem or_three (a b c : Nat) (ha : a < 256) (hb : b < 256) (hc : c < 256) :
    bits .or .i64 (bits .or .i64 (wrap64 (wrap64 (a : Int) * 65536)) (wrap64 (wrap64 (b : Int) * 256))) (wrap64 (c : Int)) = ((65536 * a + 256 * b + c : Nat) : Int) := by
  have e1 : wrap64 (a : Int) = (a : Int) := IntWalk.wrap64_in _ (by omega)
  have e2 : wrap64 (b : Int) = (b : Int) := IntWalk.wrap64_in _ (by omega)
  have e3 : wrap64 (c : Int) = (c : Int) := IntWalk.wrap64_in _ (by omega)
  have e4 : wrap64 ((a : Int) * 65536) = ((65536 * a : Nat) : Int) := by rw [show (a : Int) * 65536 = ((65536 * a : Nat) : Int) by omega]; exact IntWalk.wrap64_in _ (by omega)
  have e5 : wrap64 ((b : Int) * 256) = ((256 * b : Nat) : Int) := by rw [show (b : Int) * 256 = ((256 * b : Nat) : Int) by omega]; exact IntWalk.wrap64_in _ (by omega)
  have f1 : 65536 * a ||| 256 * b = 65536 * a + 256 * b := by
    have := Nat.shiftLeft_add_eq_or_of_lt (a := a) (b := 256 * b) (i := 16) (by omega)
    rw [Nat.shiftLeft_eq, Nat.mul_comm a] at this
    exact this.symm
  have f2 : (65536 * a + 256 * b) ||| c = 65536 * a + 256 * b + c := by
    have := Nat.shiftLeft_add_eq_or_of_lt (a := 256 * a + b) (b := c) (i := 8) (by omega)
    rw [Nat.shiftLeft_eq, show (256 * a + b) * 2 ^ 8 = 65536 * a + 256 * b by omega] at this
    exact this.symm
  rw [e1, e2, e3, e4, e5, or_i64 _ _ (by omega) (by omega), f1, or_i64 _ _ (by omega) (by omega), f2]

set_option maxRecDepth 20000 in
set_option maxHeartbeats 4000000 in
theorem ggram_any {w : World} (s : ByteArray) (h : 2 < s.size) (hs : s.size ≤ 100000) (g : Nat) (hg : gramN (s[0]'(by omega)) (s[1]'(by omega)) (s[2]'(by omega)) = g) :
    Calls Try.prog 36 #[.string s] w fun r w' => r = .returned (.int .i64 (g : Int)) ∧ ∃ m, w' = w.drewN m := by
  have h0 : 0 < s.size := by omega
  have h1 : 1 < s.size := by omega
  have i0 : (0 : Int) < (s.size : Int) := by omega
  have i1 : (1 : Int) < (s.size : Int) := by omega
  have i2 : (2 : Int) < (s.size : Int) := by omega
  have HG := Lib.hid hg
  clear hg
  go_enter Try.func36, Try.ntmps36
  go_wp2_with fail
  go_quiet (fail)
  go_wp2_with fail
  go_ret
  refine ⟨ret_int' ?_, _, rfl⟩
  rw [← HG.out]
  exact or_three _ _ _ (UInt8.toNat_lt _) (UInt8.toNat_lt _) (UInt8.toNat_lt _)

set_option maxRecDepth 20000 in
theorem gbit_any {w : World} (g b q : Nat) (hg : g < 16777216) (hb0 : 0 < b) (hb : b ≤ 70000) (hq : bitG g b = q) :
    Calls Try.prog 34 #[.int .i64 (g : Int), .int .i64 (b : Int)] w fun r w' => r = .returned (.int .i64 (q : Int)) ∧ w = w' := by
  have hqz : ((g : Int) * 40503 % 65521) % (b : Int) = (q : Int) := by rw [← hq, bitG, Int.natCast_emod, Int.natCast_emod, Int.natCast_mul]; rfl
  have hbz : (b : Int) ≠ 0 := by omega
  have HQ := Lib.hid hqz
  clear hq hqz
  go_enter Try.func34, Try.ntmps34
  go_wp2
  go_ret
  exact ⟨ret_int' HQ.out, rfl⟩
end Go.Proofs.Ytepgkdmfoojppaa
namespace Go.Proofs.Ytepgkdmfoojppaa
set_option linter.unusedSimpArgs false
set_option linter.unusedVariables false
open Go.RowKit Go.Maps Go.Sort

theorem cut_get (s : ByteArray) (k j : Nat) (h : k + j < s.size) : (s.extract k s.size)[j]'(by rw [ByteArray.size_extract]; omega) = s[k + j] := by
  rw [ByteArray.getElem_extract]
/-- the gram at a string's place -/
theorem ggram_at {w : World} (s : ByteArray) (k : Nat) (h : k + 2 < s.size) (hs : s.size ≤ 100000) (g : Nat) (hg : gramN s[k] s[k + 1] s[k + 2] = g) :
    Calls Try.prog 36 #[.string (s.extract k s.size)] w fun r w' => r = .returned (.int .i64 (g : Int)) ∧ ∃ m, w' = w.drewN m :=
  ggram_any (s.extract k s.size) (by rw [ByteArray.size_extract]; omega) (by rw [ByteArray.size_extract]; omega) g (by
    rw [← hg, cut_get s k 0 (by omega), cut_get s k 1 (by omega), cut_get s k 2 h]
    rfl)

set_option maxRecDepth 20000 in
set_option maxHeartbeats 8000000 in
theorem ggather_any {w : World} (l : List ByteArray) {c : Nat} {A : Option Addr} (h : Rd w 0 w.heap.size A c (sv l)) (hsz : ∀ s ∈ l, s.size ≤ 100000) (hlen : l.length ≤ 1000) :
    Calls Try.prog 29 #[.slice A l.length c] w fun r w' => ∃ (t : List Nat) (A' : Option Addr) (c' : Nat), r = .returned (.slice A' t.length c') ∧ Rise (allL (bytG l)) t ∧
      w'.ownsRow w.heap.size 3 1 (.slice A' t.length c') t.length (iv (ints t)) ∧ Below w.heap.size w w' := by
  have hl := h.len
  have hm := h.cap
  rw [sv_length] at hl
  unfold maxLen at hm
  have H := Lib.hid h
  have H1 : Hid (∀ k (hk : k < l.length), l[k].size ≤ 100000) := fun k hk => hsz _ (List.getElem_mem hk)
  clear h hsz
  have hmm := @run_makeMap Try.prog
  go_enter Try.func29, Try.ntmps29
  go_wp2_with fail
  go_loopw [10] (fun x10 wr => ∃ (i n : Nat) (D : DataW Unit), i ≤ l.length ∧ x10 = .int .i64 (i : Int) ∧ MapN wr w.heap.size n D ∧ n ≤ 100000 * i ∧ SetN D (allL (bytG (l.take i))) ∧ (allL (bytG (l.take i))).length ≤ 100000 * i ∧ Below w.heap.size w wr ∧ w.heap.size < wr.heap.size) (fun x10 _ => l.length - (intOf x10).toNat)
  case atStart => exact ⟨0, 0, .map [], Nat.zero_le _, rfl, World.ownsMap_made _ _ _ _, Nat.le_refl _, SetN.nil, Nat.le_refl _, (Below.refl _ _).alloc (Nat.le_refl _) _, by simp⟩
  case round =>
    clear hmm
    obtain ⟨i, n, D, hi, rfl, hmp, hn, hset, hal, hb, hgt⟩ := hrel
    obtain ⟨wy, hwy⟩ : ∃ wy, wy = wr := ⟨_, rfl⟩
    subst hwy
    have HM := Lib.hid hmp
    have HS := Lib.hid hset
    have HA := Lib.hid hal
    have HB := Lib.hid hb
    clear hmp hset hal hb
    by_cases hlt : i < l.length
    · have ik : (i : Int) < (l.length : Int) := by omega
      obtain ⟨b1, off1, rfl, _, hb1, hcell0⟩ := H.out.str hlt
      have hss := H1.out i hlt
      have HTK := Lib.hid (bytG_take l i hlt)
      obtain ⟨s, hs⟩ : ∃ s, l[i] = s := ⟨_, rfl⟩
      rw [hs] at hcell0 hss HTK
      clear hs
      have hcell : wy.cell? ⟨b1, off1 + i, none⟩ = some (.string s) := (HB.out.cell hb1).trans hcell0
      obtain ⟨N, hN⟩ : ∃ N, s.size - 2 = N := ⟨_, rfl⟩
      have hN1 : N ≤ s.size := by omega
      have hN2 : N = 0 ∨ N + 2 = s.size := by omega
      have HPL := Lib.hid (gplaces_any (w := wy) s hss N hN)
      have HGL : Hid ((gramsL s.data.toList).take N = gramsL s.data.toList) := List.take_of_length_le (by rw [gramsL_length, Array.length_toList]; show s.size - 2 ≤ N; omega)
      clear hN hcell0
      go_wp2_with fail
      refine HPL.out.mono ?_
      rintro r w' ⟨rfl, rfl⟩
      clear HPL
      go_wp2_with fail
      go_loopw [16] (fun x16 wr => ∃ (k n : Nat) (D : DataW Unit), k ≤ N ∧ x16 = .int .i64 (k : Int) ∧ MapN wr w.heap.size n D ∧ n ≤ 100000 * i + k ∧ SetN D (allL (bytG (l.take i)) ++ (gramsL s.data.toList).take k) ∧ Below w.heap.size w wr ∧ w.heap.size < wr.heap.size) (fun x16 _ => N - (intOf x16).toNat)
      case atStart => exact ⟨0, n, D, Nat.zero_le _, rfl, HM.out, hn, by rw [List.take_zero, List.append_nil]; exact HS.out, HB.out, hgt⟩
      case round =>
        clear HM HS HB hn hgt hcell
        obtain ⟨k, n, D, hk, rfl, hmp, hn, hset, hb, hgt⟩ := hrel
        obtain ⟨wz, hwz⟩ : ∃ wz, wz = wr := ⟨_, rfl⟩
        subst hwz
        have HM := Lib.hid hmp
        have HS := Lib.hid hset
        have HB := Lib.hid hb
        clear hmp hset hb
        by_cases hkn : k < N
        · have jk : (k : Int) < (N : Int) := by omega
          have hk2 : k + 2 < s.size := by omega
          have hk1 : k < s.size := by omega
          have hkle : k ≤ s.size := by omega
          obtain ⟨g, hg⟩ : ∃ g, gramN s[k] s[k + 1] s[k + 2] = g := ⟨_, rfl⟩
          have HGA := Lib.hid (ggram_at (w := wz) s k hk2 hss g hg)
          have hgl : g < 16777216 := by rw [← hg]; exact gramN_lt _ _ _
          have HSN : Hid (SetN (D.put (.int .i64 (g : Int)) (.agg [])) (allL (bytG (l.take i)) ++ (gramsL s.data.toList).take (k + 1))) := by
            unfold Hid
            rw [gramsS_take s k hk2, hg, ← List.append_assoc]
            exact HS.out.put g
          have HKY := Lib.hid (keyOf_int_mk (P := Try.prog) Try.underlying3 (q := .i64) (a := (g : Int)) (by go_wf))
          clear hg
          go_wp2_with fail
          refine HGA.out.mono ?_
          rintro r w' ⟨rfl, m, rfl⟩
          have HM1 : Hid (MapN (wz.drewN m) w.heap.size n D) := HM.out.out (X := fun _ => False) ((Out.refl _ _).drewN m) (fun h => h)
          have HB1 := Lib.hid (below_drewN' HB.out m)
          have hgt1 : w.heap.size < (wz.drewN m).heap.size := hgt
          generalize wz.drewN m = w1 at *
          go_wp2_with (at_mapUpdate; refine wpList_mapUpdate_own _ rfl _ _ _ 74 rfl 3 75 (int_keyed Try.underlying3) Try.underlying74 (unitElem (H := Unit)) w.heap.size n D rfl HM1.out (by unfold maxLen; omega) _ _ _ rfl rfl HKY.out _ [] unitElem_mk ?_; refine held ?_)
          refine ⟨?_⟩
          intro w2 hm2 hg2
          have HM2 : Hid (MapN w2 w.heap.size (n + 1) _) := hm2
          have HB2 : Hid (Below w.heap.size w w2) := HB1.out.grown hg2 (by omega) (fun j hj => by cases hj; exact Nat.le_refl _)
          have hgt2 : w.heap.size < w2.heap.size := Nat.lt_of_lt_of_le hgt1 hg2.size
          clear hm2 hg2
          go_wp2_with fail
          go_roundw
          case rel => exact ⟨k + 1, n + 1, _, by omega, by go_num, HM2.out, by omega, HSN.out, HB2.out, hgt2⟩
          case measure => simp [intOf] <;> omega
        · have jk : ¬ (k : Int) < (N : Int) := by omega
          obtain rfl : k = N := by omega
          have HSN : Hid (SetN D (allL (bytG (l.take (i + 1))))) := by
            unfold Hid
            rw [HTK.out, ← HGL.out]
            exact HS.out
          have HAL : Hid ((allL (bytG (l.take (i + 1)))).length ≤ 100000 * (i + 1)) := by
            unfold Hid
            have h1 : (gramsL s.data.toList).length ≤ 100000 := by
              rw [gramsL_length, Array.length_toList]
              exact Nat.le_trans (Nat.sub_le _ _) hss
            have h2 := HA.out
            rw [HTK.out, List.length_append]
            omega
          go_wp2_with fail
          go_roundw
          case rel => exact ⟨i + 1, n, D, by omega, by go_num, HM.out, by omega, HSN.out, HAL.out, HB.out, hgt⟩
          case measure => simp [intOf] <;> omega
    · have ik : ¬ (i : Int) < (l.length : Int) := by omega
      have hkt : l.take i = l := List.take_of_length_le (by omega)
      rw [hkt] at HS HA
      have hsd := HS.out.size HM.out
      have hal := HA.out
      have HSO := Lib.hid (gsorted_any w.heap.size n D wy HM.out (by unfold maxLen; omega) (by omega) _ rfl)
      have HKE := Lib.hid (gkeys_any (some w.heap.size) wy)
      obtain ⟨w1, hw1⟩ : ∃ w1, wy.alloc (.cells #[.map (some w.heap.size)] 74) = w1 := ⟨_, rfl⟩
      have HB1 : Hid (Below w.heap.size w w1) := by unfold Hid; rw [← hw1]; exact HB.out.alloc (by omega) _
      have hgt1 : w.heap.size ≤ w1.heap.size := by rw [← hw1]; simp; omega
      rw [hw1] at HSO HKE
      clear hkt hw1 hsd hal
      go_wp2_with fail
      refine HKE.out.mono ?_
      rintro r w' ⟨rfl, rfl⟩
      go_wp2_with fail
      refine HSO.out.mono ?_
      rintro r w2 ⟨v, ss, rfl, hp, hown, -, hb2⟩
      obtain ⟨t, hri, hiv, htl⟩ := HS.out.keys HM.out hp
      rw [hiv, htl] at hown
      have HRI := Lib.hid hri
      have HO := Lib.hid hown
      have HB2 := Lib.hid (below_below HB1.out hb2 hgt1)
      clear hri hown hb2 hp hiv htl
      obtain ⟨A2, c2, rfl, -, -⟩ := own_form _ HO.out
      go_wp2_with fail
      go_ret
      exact ⟨t, A2, c2, rfl, HRI.out, own_base HO.out hgt1, HB2.out⟩
end Go.Proofs.Ytepgkdmfoojppaa
namespace Go.Proofs.Ytepgkdmfoojppaa
set_option linter.unusedSimpArgs false
set_option linter.unusedVariables false
open Go.RowKit

set_option maxRecDepth 20000 in
set_option maxHeartbeats 4000000 in
theorem gmark_any {w : World} (t : List Nat) (b : Nat) (hb0 : 0 < b) (hb : b ≤ 70000) (hlt : ∀ g ∈ t, g < 16777216) {lo hi c : Nat} {A : Option Addr} (h : Rd w lo hi A c (iv (ints t))) (hhi : hi ≤ w.heap.size) :
    Calls Try.prog 30 #[.slice A t.length c, .int .i64 (b : Int)] w fun r w' => r = .returned (.slice (some ⟨w.heap.size, 0, none⟩) b b) ∧
      w'.ownsRow w.heap.size 4 1 (.slice (some ⟨w.heap.size, 0, none⟩) b b) b (lv (setB b t)) ∧ Below w.heap.size w w' := by
  have hl := h.len
  have hm := h.cap
  rw [iv_length, ints_length] at hl
  unfold maxLen at hm
  have HLT : Hid (∀ k (hk : k < t.length), t[k] < 16777216) := fun k hk => hlt _ (List.getElem_mem hk)
  obtain ⟨w1, hmake, hown, hg1⟩ := make_bools w b (by omega)
  have HO1 : Hid (w1.ownsRow w.heap.size 4 1 (.slice (some ⟨w.heap.size, 0, none⟩) b b) b (lv (setB b []))) := by
    unfold Hid
    simpa [setB, lv] using hown
  have HB1 : Hid (Below w.heap.size w w1) := (Below.refl _ w).grown hg1 (Nat.le_refl _) (by simp)
  have H := Lib.hid h
  clear h hlt hown hg1
  go_enter Try.func30, Try.ntmps30
  go_wp2_with fail
  go_loopw [12] (fun x12 wr => ∃ k : Nat, k ≤ t.length ∧ x12 = .int .i64 (k : Int) ∧ wr.ownsRow w.heap.size 4 1 (.slice (some ⟨w.heap.size, 0, none⟩) b b) b (lv (setB b (t.take k))) ∧ Below w.heap.size w wr) (fun x12 _ => t.length - (intOf x12).toNat)
  case atStart => exact ⟨0, Nat.zero_le _, rfl, HO1.out, HB1.out⟩
  case round =>
    clear HO1 hmake
    obtain ⟨k, hk, rfl, hown, hbe⟩ := hrel
    obtain ⟨wz, hwz⟩ : ∃ wz, wz = wr := ⟨_, rfl⟩
    subst hwz
    have HO := Lib.hid hown
    have HB := Lib.hid hbe
    clear hown hbe
    by_cases hlt : k < t.length
    · have ik : (k : Int) < (t.length : Int) := by omega
      obtain ⟨bb, off, rfl, _, hbb, hcell0⟩ := H.out.nat hlt
      have hcell : wz.cell? ⟨bb, off + k, none⟩ = some (.int .i64 ((t[k] : Nat) : Int)) := (HB.out.cell (by show bb < _; omega)).trans hcell0
      have hgl := HLT.out k hlt
      obtain ⟨q, hqe⟩ : ∃ q, bitG t[k] b = q := ⟨_, rfl⟩
      have hqb : q < b := by rw [← hqe]; exact Nat.mod_lt _ hb0
      have HBT := Lib.hid (gbit_any (w := wz) t[k] b q hgl hb0 hb hqe)
      have HSN : Hid (setB b (t.take (k + 1)) = (setB b (t.take k)).set q true) := by
        unfold Hid
        rw [List.take_succ_eq_append_getElem hlt, setB_snoc, hqe]
      have hsl : (lv (setB b (t.take k))).length = b := by rw [lv_length, setB_length]
      obtain ⟨u0, hu0⟩ : ∃ u0, (lv (setB b (t.take k)))[q]? = some u0 := ⟨_, List.getElem?_eq_getElem (by omega)⟩
      have hrc : wz.cell? ⟨w.heap.size, q, none⟩ = some u0 := by rw [HO.out.cellAt q (by omega), hu0]
      have hrf := HO.out.frozenAt q
      have iqb : (q : Int) < (b : Int) := by omega
      clear hu0 hsl hqe hcell0
      generalize t[k] = g at *
      go_wp2_with fail
      refine HBT.out.mono ?_
      rintro r w' ⟨rfl, rfl⟩
      clear HBT
      go_wp2_with fail
      have hst := HO.out.stored q (.bool true)
      have hst1 : (wz.setCell ⟨w.heap.size, q, none⟩ (.bool true)).ownsRow w.heap.size 4 1 (.slice (some ⟨w.heap.size, 0, none⟩) b b) b (lv (setB b (t.take (k + 1)))) := by
        rw [HSN.out, lv_set]
        exact hst.1
      have HS1 := Lib.hid hst1
      have HBB : Hid (Below w.heap.size w (wz.setCell ⟨w.heap.size, q, none⟩ (.bool true))) := HB.out.setCell (p := ⟨w.heap.size, q, none⟩) (Nat.le_refl _) _
      clear hst hst1
      go_roundw
      case rel => exact ⟨k + 1, by omega, by go_num, HS1.out, HBB.out⟩
      case measure => simp [intOf] <;> omega
    · have ik : ¬ (k : Int) < (t.length : Int) := by omega
      have hkt : t.take k = t := List.take_of_length_le (by omega)
      rw [hkt] at HO
      clear hkt
      go_wp2_with fail
      go_ret
      exact ⟨rfl, HO.out, HB.out⟩

/-- the gram ahead, or 0 -/
def prevG (gs : List Nat) (k : Nat) : Nat := if k = 0 then 0 else gs.getD (k - 1) 0
theorem prevG_succ (gs : List Nat) (k : Nat) (h : k < gs.length) : prevG gs (k + 1) = gs[k] := by simp [prevG, List.getD, List.getElem?_eq_getElem h]
theorem stepsG_get (gs : List Nat) (k : Nat) (h : k < gs.length) : (iv (stepsG gs))[k]? = some (.int .i64 (((gs[k] : Nat) : Int) - (prevG gs k : Int))) := by
  rw [iv_get _ k (by rw [stepsG_length]; exact h)]
  congr 2
  match k, h with
  | 0, h => rw [stepsG_zero gs h]; simp [prevG]
  | k + 1, h => rw [stepsG_succ gs k h, prevG_succ gs k (by omega)]
theorem prevG_lt {gs : List Nat} (h : ∀ k (hk : k < gs.length), gs[k] < 16777216) (k : Nat) (hk : k ≤ gs.length) : prevG gs k < 16777216 := by
  match k, hk with
  | 0, _ => simp [prevG]
  | k + 1, hk => rw [prevG_succ gs k (by omega)]; exact h k (by omega)

set_option maxRecDepth 20000 in
set_option maxHeartbeats 4000000 in
theorem gsteps_any {w : World} (gs : List Nat) (hlen : gs.length ≤ 100000000) (hlt : ∀ g ∈ gs, g < 16777216) {lo hi c : Nat} {A : Option Addr} (h : Rd w lo hi A c (iv (ints gs))) (hhi : hi ≤ w.heap.size) :
    Calls Try.prog 41 #[.slice A gs.length c] w fun r w' => r = .returned (.slice (some ⟨w.heap.size, 0, none⟩) gs.length gs.length) ∧
      w'.ownsRow w.heap.size 3 1 (.slice (some ⟨w.heap.size, 0, none⟩) gs.length gs.length) gs.length (iv (stepsG gs)) ∧ Below w.heap.size w w' := by
  have hl := h.len
  have hm := h.cap
  rw [iv_length, ints_length] at hl
  unfold maxLen at hm
  have HLT : Hid (∀ k (hk : k < gs.length), gs[k] < 16777216) := fun k hk => hlt _ (List.getElem_mem hk)
  have HSL : Hid ((iv (stepsG gs)).length = gs.length) := by unfold Hid; rw [iv_length, stepsG_length]
  obtain ⟨w1, hmake, hown, hg1⟩ := make_nums w gs.length (by omega)
  have HO1 := Lib.hid hown
  have HB1 : Hid (Below w.heap.size w w1) := (Below.refl _ w).grown hg1 (Nat.le_refl _) (by simp)
  have H := Lib.hid h
  clear h hlt hown hg1
  go_enter Try.func41, Try.ntmps41
  go_wp2_with fail
  go_loopw [4, 12] (fun x4 x12 wr => ∃ (k : Nat) (xs : List Value), k ≤ gs.length ∧ x12 = .int .i64 (k : Int) ∧ x4 = .int .i64 (prevG gs k : Int) ∧ wr.ownsRow w.heap.size 3 1 (.slice (some ⟨w.heap.size, 0, none⟩) gs.length gs.length) gs.length xs ∧ Fill (iv (stepsG gs)) k xs ∧ Below w.heap.size w wr) (fun _ x12 _ => gs.length - (intOf x12).toNat)
  case atStart => exact ⟨0, _, Nat.zero_le _, rfl, rfl, HO1.out, fill_zero (by rw [List.length_replicate]; exact HSL.out.symm), HB1.out⟩
  case round =>
    clear HO1 hmake
    obtain ⟨k, xs, hk, rfl, rfl, hown, hfi, hbe⟩ := hrel
    obtain ⟨wz, hwz⟩ : ∃ wz, wz = wr := ⟨_, rfl⟩
    subst hwz
    have HO := Lib.hid hown
    have HF := Lib.hid hfi
    have HB := Lib.hid hbe
    clear hown hfi hbe
    by_cases hlt : k < gs.length
    · have ik : (k : Int) < (gs.length : Int) := by omega
      obtain ⟨bb, off, rfl, _, hbb, hcell0⟩ := H.out.nat hlt
      have hcell : wz.cell? ⟨bb, off + k, none⟩ = some (.int .i64 ((gs[k] : Nat) : Int)) := (HB.out.cell (by show bb < _; omega)).trans hcell0
      have hgl := HLT.out k hlt
      have hpl := prevG_lt HLT.out k hk
      have HPS := Lib.hid (prevG_succ gs k hlt)
      have HST := Lib.hid (stepsG_get gs k hlt)
      obtain ⟨p, hp⟩ : ∃ p, prevG gs k = p := ⟨_, rfl⟩
      have hsl : xs.length = gs.length := HF.out.1.trans HSL.out
      obtain ⟨u0, hu0⟩ : ∃ u0, xs[k]? = some u0 := ⟨_, List.getElem?_eq_getElem (by omega)⟩
      have hrc : wz.cell? ⟨w.heap.size, k, none⟩ = some u0 := by rw [HO.out.cellAt k (by omega), hu0]
      have hrf := HO.out.frozenAt k
      rw [hp] at hpl HST ⊢
      clear hu0 hsl hcell0 hp
      generalize gs[k] = g at *
      go_wp2_with fail
      have hst := HO.out.stored k (.int .i64 ((g : Int) - (p : Int)))
      have HS1 := Lib.hid hst.1
      have HF1 := Lib.hid (fill_succ HF.out _ HST.out)
      have HBB : Hid (Below w.heap.size w (wz.setCell ⟨w.heap.size, k, none⟩ (.int .i64 ((g : Int) - (p : Int))))) := HB.out.setCell (p := ⟨w.heap.size, k, none⟩) (Nat.le_refl _) _
      clear hst
      go_roundw
      case rel => exact ⟨k + 1, _, by omega, by go_num, by rw [HPS.out], HS1.out, HF1.out, HBB.out⟩
      case measure => simp [intOf] <;> omega
    · have ik : ¬ (k : Int) < (gs.length : Int) := by omega
      obtain rfl : k = gs.length := by omega
      have hall := fill_all HF.out (by rw [HSL.out]; exact Nat.le_refl _)
      have hoL := HO.out
      rw [hall] at hoL
      have HOL := Lib.hid hoL
      clear hall hoL
      go_wp2_with fail
      go_ret
      exact ⟨rfl, HOL.out, HB.out⟩
end Go.Proofs.Ytepgkdmfoojppaa
namespace Go.Proofs.Ytepgkdmfoojppaa
set_option linter.unusedSimpArgs false
set_option linter.unusedVariables false
open Go.RowKit

set_option maxRecDepth 20000 in
set_option maxHeartbeats 4000000 in
theorem ggrams_any {w : World} (s : ByteArray) (hs : s.size ≤ 100000) :
    Calls Try.prog 14 #[.string s] w fun r w' => ∃ (t : List Nat) (A : Option Addr) (c : Nat), r = .returned (.slice A t.length c) ∧ Rise (gramsL s.data.toList) t ∧ w'.ownsRow w.heap.size 3 1 (.slice A t.length c) t.length (iv (ints t)) ∧ Below w.heap.size w w' := by
  obtain ⟨w1, hw1⟩ : ∃ w1, w.alloc (.cells #[.string s] 9) = w1 := ⟨_, rfl⟩
  have HS1 : Hid (Rd w1 0 w1.heap.size (some ⟨w.heap.size, 0, none⟩) 1 (sv [s])) := by unfold Hid; rw [← hw1]; exact one_str w _ s
  have HB1 : Hid (Below w.heap.size w w1) := by unfold Hid; rw [← hw1]; exact (Below.refl _ w).alloc (Nat.le_refl _) _
  have HGA := Lib.hid (ggather_any [s] HS1.out (by simpa using hs) (by simp))
  go_enter Try.func14, Try.ntmps14
  go_wp2_with fail
  refine HGA.out.mono ?_
  rintro r w2 ⟨t, A2, c2, rfl, hri, hown, hb⟩
  have HRI : Hid (Rise (gramsL s.data.toList) t) := by
    unfold Hid
    simpa [allL, bytG] using hri
  have HO := Lib.hid (own_base hown HB1.out.size)
  have HB := Lib.hid (below_below HB1.out hb HB1.out.size)
  clear hri hown hb
  go_wp2_with fail
  go_ret
  exact ⟨t, A2, c2, rfl, HRI.out, HO.out, HB.out⟩

/-- a filter and an error answered: the filter lies in a variable -/
theorem results_flt {fn : Func} {p u : Tmp} (h : fn.results = #[.cell p 28, .tmp u]) (tmps : Array Value) (w : World) (g : Nat) (a b c : Value) (hp : tmps.getD p undef = .pointer (some ⟨g, 0, none⟩))
    (hb : Blk w g 28 #[a, b, c]) : (results fn tmps).run Try.prog w = .ok (.tuple #[.agg #[a, b, c], tmps.getD u undef]) w := by
  have h1 := run_loadVar_row (P := Try.prog) w g 28 28 #[a, b, c] (0, 0) _ hb Try.underlying28 rfl (by kernel_rfl)
  rw [results_cell_tmp h, hp]
  simp only [asAddr, Sem.run_pure, Result.andThen_ok, h1]
theorem build_flt (w : World) : (Instr.build 28 #[]).run Try.prog w = .ok (.agg #[.int .i64 0, .slice none 0 0, .slice none 0 0]) w := run_build w _ _ _ (by kernel_rfl)

set_option maxRecDepth 20000 in
set_option maxHeartbeats 4000000 in
theorem gmake_not {w : World} (l : List ByteArray) {c : Nat} {A : Option Addr} (h : Rd w 0 w.heap.size A c (sv l)) (z : Int) (hz : z < 0 ∨ 65536 < z) :
    Calls Try.prog 10 #[.slice A l.length c, .int .i64 z] w fun r w' => r = .returned (.tuple #[.agg #[.int .i64 0, .slice none 0 0, .slice none 0 0], .int .i64 1]) ∧ Below w.heap.size w w' := by
  have hbuild := build_flt
  by_cases h0 : z < 0
  · have d0 : decide (z < 0) = true := decide_eq_true h0
    go_enter Try.func10, Try.ntmps10
    go_wp2_with fail
    refine bodyPost_ret (v := .tuple #[.agg #[.int .i64 0, .slice none 0 0, .slice none 0 0], .int .i64 1]) ?_ rfl ⟨rfl, (Below.refl _ w).alloc (Nat.le_refl _) _⟩
    exact results_flt (p := 4) (u := 5) rfl _ _ w.heap.size _ _ _ rfl (Blk.new w _ _)
  · have d0 : decide (z < 0) = false := decide_eq_false h0
    have h1 : 65536 < z := by omega
    have d1 : decide (65536 < z) = true := decide_eq_true h1
    go_enter Try.func10, Try.ntmps10
    go_wp2_with fail
    refine bodyPost_ret (v := .tuple #[.agg #[.int .i64 0, .slice none 0 0, .slice none 0 0], .int .i64 1]) ?_ rfl ⟨rfl, (Below.refl _ w).alloc (Nat.le_refl _) _⟩
    exact results_flt (p := 4) (u := 5) rfl _ _ w.heap.size _ _ _ rfl (Blk.new w _ _)

set_option maxRecDepth 20000 in
set_option maxHeartbeats 4000000 in
theorem gmake_zero {w : World} (l : List ByteArray) {c : Nat} {A : Option Addr} (h : Rd w 0 w.heap.size A c (sv l)) (hsz : ∀ s ∈ l, s.size ≤ 100000) (hlen : l.length ≤ 1000) (hf : (allL (bytG l)).length ≤ 65536) :
    Calls Try.prog 10 #[.slice A l.length c, .int .i64 0] w fun r w' => ∃ (t : List Nat) (A' : Option Addr) (c' : Nat), r = .returned (.tuple #[.agg #[.int .i64 0, .slice A' t.length c', .slice none 0 0], .int .i64 0]) ∧ Rise (allL (bytG l)) t ∧ w'.ownsRow w.heap.size 3 1 (.slice A' t.length c') t.length (iv (ints t)) ∧ Below w.heap.size w w' := by
  obtain ⟨w1, hw1⟩ : ∃ w1, w.alloc (.cells #[.int .i64 0, .slice none 0 0, .slice none 0 0] 28) = w1 := ⟨_, rfl⟩
  have B1 : Hid (Below w.heap.size w w1) := by unfold Hid; rw [← hw1]; exact (Below.refl _ w).alloc (Nat.le_refl _) _
  have hk : Blk w1 w.heap.size 28 #[.int .i64 0, .slice none 0 0, .slice none 0 0] := by rw [← hw1]; exact Blk.new w _ _
  have hs1 : w1.heap.size = w.heap.size + 1 := by rw [← hw1]; simp
  have HGA := Lib.hid (ggather_any l ((h.below B1.out (Nat.le_refl _)).wide (Nat.le_refl _) B1.out.size) hsz hlen)
  have HK := Lib.hid hk
  have HF := Lib.hid hf
  clear h hsz hk hf
  go_enter Try.func10, Try.ntmps10
  go_wp2_with fail
  refine HGA.out.mono ?_
  rintro r w2 ⟨t, A2, c2, rfl, hri, hown, b2⟩
  have hk2 := HK.out.below b2 (by omega)
  have HK2 := Lib.hid hk2
  have q0 := hk2.cell 0
  have q1 := hk2.cell 1
  have q2 := hk2.cell 2
  have f0 := hk2.frozen 0
  have f1 := hk2.frozen 1
  have f2 := hk2.frozen 2
  have hlen2 : t.length ≤ 65536 := Nat.le_trans hri.len HF.out
  have HRI := Lib.hid hri
  have HO := Lib.hid hown
  have B2 := Lib.hid (B1.out.trans (b2.mono B1.out.size))
  have s2 := b2.size
  have hg2 : w.heap.size < w2.heap.size := by omega
  have il : ¬ (65536 : Int) < (t.length : Int) := by omega
  clear hk2 hri hown b2 HGA
  go_wp2_with fail
  obtain ⟨w3, hw3⟩ : ∃ w3, ((w2.setCell ⟨w.heap.size, 0, none⟩ (.int .i64 0)).setCell ⟨w.heap.size, 1, none⟩ (.slice A2 t.length c2)).setCell ⟨w.heap.size, 2, none⟩ (.slice none 0 0) = w3 := ⟨_, rfl⟩
  have hk3 : Blk w3 w.heap.size 28 #[.int .i64 0, .slice A2 t.length c2, .slice none 0 0] := by rw [← hw3]; exact ((HK2.out.put 0 _).put 1 _).put 2 _
  have ho3 : Out w2 w3 (fun k => k = w.heap.size) := by rw [← hw3]; exact (((Out.refl _ (fun k => k = w.heap.size)).setCell (p := ⟨w.heap.size, 0, none⟩) (.inl rfl) _).setCell (p := ⟨w.heap.size, 1, none⟩) (.inl rfl) _).setCell (p := ⟨w.heap.size, 2, none⟩) (.inl rfl) _
  have hb3 : Below w.heap.size w w3 := B2.out.trans (ho3.below (Nat.le_of_lt hg2) (fun k hk => by omega))
  have hr3 := own_out HO.out ho3 (fun k hk e => by have := own_lt HO.out hk; omega)
  rw [hw3]
  refine bodyPost_ret (v := .tuple #[.agg #[.int .i64 0, .slice A2 t.length c2, .slice none 0 0], .int .i64 0]) ?_ rfl ⟨t, A2, c2, rfl, HRI.out, own_base hr3 (by omega), hb3⟩
  exact results_flt (p := 4) (u := 5) rfl _ _ w.heap.size _ _ _ rfl hk3

set_option maxRecDepth 20000 in
set_option maxHeartbeats 4000000 in
theorem gmake_bits {w : World} (l : List ByteArray) {c : Nat} {A : Option Addr} (h : Rd w 0 w.heap.size A c (sv l)) (hsz : ∀ s ∈ l, s.size ≤ 100000) (hlen : l.length ≤ 1000) (hf : (allL (bytG l)).length ≤ 65536) (b : Nat) (hb0 : 0 < b) (hb : b ≤ 65536) :
    Calls Try.prog 10 #[.slice A l.length c, .int .i64 (b : Int)] w fun r w' => ∃ (t : List Nat) (B : Option Addr) (d : Nat), r = .returned (.tuple #[.agg #[.int .i64 (b : Int), .slice none 0 0, .slice B b d], .int .i64 0]) ∧ Rise (allL (bytG l)) t ∧ w'.ownsRow w.heap.size 4 1 (.slice B b d) b (lv (setB b t)) ∧ Below w.heap.size w w' := by
  obtain ⟨w1, hw1⟩ : ∃ w1, w.alloc (.cells #[.int .i64 0, .slice none 0 0, .slice none 0 0] 28) = w1 := ⟨_, rfl⟩
  have B1 : Hid (Below w.heap.size w w1) := by unfold Hid; rw [← hw1]; exact (Below.refl _ w).alloc (Nat.le_refl _) _
  have hk : Blk w1 w.heap.size 28 #[.int .i64 0, .slice none 0 0, .slice none 0 0] := by rw [← hw1]; exact Blk.new w _ _
  have hs1 : w1.heap.size = w.heap.size + 1 := by rw [← hw1]; simp
  have HGA := Lib.hid (ggather_any l ((h.below B1.out (Nat.le_refl _)).wide (Nat.le_refl _) B1.out.size) hsz hlen)
  have HK := Lib.hid hk
  have i0 : ¬ (b : Int) < 0 := by omega
  have d0 : decide ((b : Int) < 0) = false := decide_eq_false i0
  have i1 : ¬ (65536 : Int) < (b : Int) := by omega
  have d1 : decide ((65536 : Int) < (b : Int)) = false := decide_eq_false i1
  have i2 : (0 : Int) < (b : Int) := by omega
  clear h hsz hk hf
  go_enter Try.func10, Try.ntmps10
  go_wp2_with fail
  refine HGA.out.mono ?_
  rintro r w2 ⟨t, A2, c2, rfl, hri, hown, b2⟩
  have HRI := Lib.hid hri
  have HMK := Lib.hid (gmark_any t b hb0 (by omega) (fun g hg => allL_lt ((hri.mem g).1 hg)) (Rd.own hown) (Nat.le_refl _))
  have HK2 := Lib.hid (HK.out.below b2 (by omega))
  have B2 := Lib.hid (B1.out.trans (b2.mono B1.out.size))
  have s2 := b2.size
  have hg2 : w.heap.size < w2.heap.size := by omega
  clear hri hown b2 HGA
  go_wp2_with fail
  refine HMK.out.mono ?_
  rintro r w3 ⟨rfl, hown, b3⟩
  have hk3 := HK2.out.below b3 hg2
  have HK3 := Lib.hid hk3
  have q0 := hk3.cell 0
  have q1 := hk3.cell 1
  have q2 := hk3.cell 2
  have f0 := hk3.frozen 0
  have f1 := hk3.frozen 1
  have f2 := hk3.frozen 2
  have HO := Lib.hid hown
  have B3 := Lib.hid (B2.out.trans (b3.mono B2.out.size))
  have s3 := b3.size
  clear hk3 hown b3 HMK
  go_wp2_with fail
  obtain ⟨w4, hw4⟩ : ∃ w4, ((w3.setCell ⟨w.heap.size, 0, none⟩ (.int .i64 (b : Int))).setCell ⟨w.heap.size, 1, none⟩ (.slice none 0 0)).setCell ⟨w.heap.size, 2, none⟩ (.slice (some ⟨w2.heap.size, 0, none⟩) b b) = w4 := ⟨_, rfl⟩
  have hk4 : Blk w4 w.heap.size 28 #[.int .i64 (b : Int), .slice none 0 0, .slice (some ⟨w2.heap.size, 0, none⟩) b b] := by rw [← hw4]; exact ((HK3.out.put 0 _).put 1 _).put 2 _
  have ho4 : Out w3 w4 (fun k => k = w.heap.size) := by rw [← hw4]; exact (((Out.refl _ (fun k => k = w.heap.size)).setCell (p := ⟨w.heap.size, 0, none⟩) (.inl rfl) _).setCell (p := ⟨w.heap.size, 1, none⟩) (.inl rfl) _).setCell (p := ⟨w.heap.size, 2, none⟩) (.inl rfl) _
  have hb4 : Below w.heap.size w w4 := B3.out.trans (ho4.below (by omega) (fun k hk => by omega))
  have hr4 := own_out HO.out ho4 (fun k hk e => by have := own_lt HO.out hk; omega)
  rw [hw4]
  refine bodyPost_ret (v := .tuple #[.agg #[.int .i64 (b : Int), .slice none 0 0, .slice (some ⟨w2.heap.size, 0, none⟩) b b], .int .i64 0]) ?_ rfl ⟨t, _, b, rfl, HRI.out, own_base hr4 (by omega), hb4⟩
  exact results_flt (p := 4) (u := 5) rfl _ _ w.heap.size _ _ _ rfl hk4
end Go.Proofs.Ytepgkdmfoojppaa
namespace Go.Proofs.Ytepgkdmfoojppaa
set_option linter.unusedSimpArgs false
set_option linter.unusedVariables false
open Go.RowKit

set_option maxRecDepth 20000 in
set_option maxHeartbeats 4000000 in
theorem ghas_any {w : World} {lo hi b : Nat} {v : Value} {gs : List Nat} {rs : List Bool} (h : Flt w lo hi v b gs rs) (hhi : hi ≤ w.heap.size) (hf : FilG b gs rs) (g : Nat) (hg : g < 16777216) :
    Calls Try.prog 16 #[v, .int .i64 (g : Int)] w fun r w' => r = .returned (.bool (hasF b gs rs g)) ∧ Below w.heap.size w w' := by
  obtain ⟨A, c, B, d, rfl, h1, h2⟩ := h
  have hl1 := h1.len
  have hl2 := h2.len
  have hm1 := h1.cap
  have hm2 := h2.cap
  rw [iv_length, ints_length] at hl1
  rw [lv_length] at hl2
  unfold maxLen at hm1 hm2
  obtain ⟨w1, hw1⟩ : ∃ w1, w.alloc (.cells #[.int .i64 (b : Int), .slice A gs.length c, .slice B rs.length d] 28) = w1 := ⟨_, rfl⟩
  have HB1 : Hid (Below w.heap.size w w1) := by unfold Hid; rw [← hw1]; exact (Below.refl _ w).alloc (Nat.le_refl _) _
  have hk : Blk w1 w.heap.size 28 #[.int .i64 (b : Int), .slice A gs.length c, .slice B rs.length d] := by rw [← hw1]; exact Blk.new w _ _
  have hc0 : w1.cell? ⟨w.heap.size, 0, none⟩ = some (.int .i64 (b : Int)) := hk.cell 0
  have hc1 : w1.cell? ⟨w.heap.size, 1, none⟩ = some (.slice A gs.length c) := hk.cell 1
  have hc2 : w1.cell? ⟨w.heap.size, 2, none⟩ = some (.slice B rs.length d) := hk.cell 2
  have HR1 := Lib.hid (h1.below HB1.out hhi)
  have HR2 := Lib.hid (h2.below HB1.out hhi)
  have i0 : ¬ (g : Int) < 0 := by omega
  have d0 : decide ((g : Int) < 0) = false := decide_eq_false i0
  have i1 : ¬ (16777215 : Int) < (g : Int) := by omega
  have d1 : decide ((16777215 : Int) < (g : Int)) = false := decide_eq_false i1
  have HBS := fun (hup : gs.Pairwise (· < ·)) (hn : gs.length ≤ 100000000) => Lib.hid (bsi_any (w := w1) gs HR1.out hup hn g)
  have hf5 := hf.le
  clear h1 h2 hk
  obtain ⟨V, hV⟩ : ∃ V, hasF b gs rs g = V := ⟨_, rfl⟩
  rw [hV]
  unfold hasF at hV
  by_cases hb0 : 0 < b
  · rw [if_pos hb0] at hV
    have hrl := hf.rows
    obtain ⟨q, hq⟩ : ∃ q, bitG g b = q := ⟨_, rfl⟩
    have hqb : q < b := by rw [← hq]; exact Nat.mod_lt _ hb0
    have HBT := Lib.hid (gbit_any (w := w1) g b q hg hb0 (by omega) hq)
    rw [hq] at hV
    obtain ⟨bb, off, rfl, _, _, hcell⟩ := HR2.out.row (k := q) (by omega)
    have hV2 : rs[q] = V := by rw [← hV]; simp [List.getD, List.getElem?_eq_getElem (show q < rs.length by omega)]
    rw [hV2] at hcell
    have hbz : ¬ (b : Int) = 0 := by omega
    have hbe : ((b : Int) == 0) = false := by rw [beq_eq_false_iff_ne]; exact hbz
    have iq : (q : Int) < (rs.length : Int) := by omega
    have dq : decide ((q : Int) < (rs.length : Int)) = true := decide_eq_true iq
    have HRL := Lib.hid hrl
    clear hV hV2 hrl hf HBS hq
    go_enter Try.func16, Try.ntmps16
    go_wp2_with fail
    refine HBT.out.mono ?_
    rintro r w' ⟨rfl, rfl⟩
    clear HBT
    go_wp2_with fail
    go_ret
    exact ⟨rfl, HB1.out⟩
  · obtain rfl : b = 0 := by omega
    rw [if_neg hb0] at hV
    have HV := Lib.hid hV
    have HBS1 := HBS hf.up (by have := hf.few; omega)
    rw [show ((0 : Nat) : Int) = 0 from rfl] at hw1 hc0 ⊢
    clear hV hf HBS
    go_enter Try.func16, Try.ntmps16
    go_wp2_with fail
    refine HBS1.out.mono ?_
    rintro r w' ⟨k, rfl, m, rfl⟩
    clear HBS1
    go_wp2_with fail
    go_ret
    exact ⟨ret_bool HV.out, below_drewN' HB1.out m⟩

set_option maxRecDepth 20000 in
set_option maxHeartbeats 4000000 in
theorem gmay_any {w : World} {lo hi b : Nat} {v : Value} {gs : List Nat} {rs : List Bool} (h : Flt w lo hi v b gs rs) (hhi : hi ≤ w.heap.size) (hf : FilG b gs rs) (s : ByteArray) (hs : s.size ≤ 100000) :
    Calls Try.prog 18 #[v, .string s] w fun r w' => r = .returned (.bool ((gramsL s.data.toList).all (hasF b gs rs))) ∧ Below w.heap.size w w' := by
  have H := Lib.hid h
  have HFG := Lib.hid hf
  clear hf
  obtain ⟨A, c, B, d, rfl⟩ := flt_agg h
  obtain ⟨w1, hw1⟩ : ∃ w1, w.alloc (.cells #[.int .i64 (b : Int), .slice A gs.length c, .slice B rs.length d] 28) = w1 := ⟨_, rfl⟩
  have B1 : Hid (Below w.heap.size w w1) := by unfold Hid; rw [← hw1]; exact (Below.refl _ w).alloc (Nat.le_refl _) _
  have hk : Blk w1 w.heap.size 28 #[.int .i64 (b : Int), .slice A gs.length c, .slice B rs.length d] := by rw [← hw1]; exact Blk.new w _ _
  have hs1 : w1.heap.size = w.heap.size + 1 := by rw [← hw1]; simp
  have HK := Lib.hid hk
  have hgt1 : w.heap.size < w1.heap.size := by omega
  clear h hk hs1
  obtain ⟨V, hV⟩ : ∃ V, (gramsL s.data.toList).all (hasF b gs rs) = V := ⟨_, rfl⟩
  rw [hV]
  have HV := Lib.hid hV
  clear hV
  obtain ⟨N, hN⟩ : ∃ N, s.size - 2 = N := ⟨_, rfl⟩
  have hN1 : N ≤ s.size := by omega
  have hN2 : N = 0 ∨ N + 2 = s.size := by omega
  have HPL := Lib.hid (gplaces_any (w := w1) s hs N hN)
  have HGL : Hid ((gramsL s.data.toList).length = N) := by
    unfold Hid
    rw [gramsL_length, Array.length_toList]
    exact hN
  clear hN
  go_enter Try.func18, Try.ntmps18
  go_wp2_with fail
  refine HPL.out.mono ?_
  rintro r w' ⟨rfl, rfl⟩
  clear HPL hw1
  go_wp2_with fail
  go_loopw [8] (fun x8 wr => ∃ k : Nat, k ≤ N ∧ x8 = .int .i64 (k : Int) ∧ (∀ j (hj : j < (gramsL s.data.toList).length), j < k → hasF b gs rs (gramsL s.data.toList)[j] = true) ∧ Below w1.heap.size w1 wr) (fun x8 _ => N - (intOf x8).toNat)
  case atStart => exact ⟨0, Nat.zero_le _, rfl, fun j _ h => absurd h (Nat.not_lt_zero j), Below.refl _ _⟩
  case round =>
    obtain ⟨k, hk, rfl, hal, hb⟩ := hrel
    obtain ⟨wz, hwz⟩ : ∃ wz, wz = wr := ⟨_, rfl⟩
    subst hwz
    have HA := Lib.hid hal
    have HB := Lib.hid hb
    have hsz := hb.size
    clear hal hb
    have BZ : Hid (Below w.heap.size w wz) := below_below B1.out HB.out B1.out.size
    by_cases hkn : k < N
    · have jk : (k : Int) < (N : Int) := by omega
      have hk2 : k + 2 < s.size := by omega
      have hk1 : k < s.size := by omega
      have hkle : k ≤ s.size := by omega
      obtain ⟨g, hg⟩ : ∃ g, gramN s[k] s[k + 1] s[k + 2] = g := ⟨_, rfl⟩
      have hgl : g < 16777216 := by rw [← hg]; exact gramN_lt _ _ _
      have hget : (gramsL s.data.toList)[k]'(by rw [HGL.out]; exact hkn) = g := by rw [gramS s k hk2, hg]
      have HGA : Hid (∀ W, Below wz.heap.size wz W → Calls Try.prog 36 #[.string (s.extract k s.size)] W fun r w' => r = .returned (.int .i64 (g : Int)) ∧ ∃ m, w' = W.drewN m) := fun W _ => ggram_at (w := W) s k hk2 hs g hg
      have HC0 : Hid (∀ W, Below wz.heap.size wz W → W.cell? ⟨w.heap.size, 0, none⟩ = some (.int .i64 (b : Int)) ∧ W.cell? ⟨w.heap.size, 1, none⟩ = some (.slice A gs.length c) ∧ W.cell? ⟨w.heap.size, 2, none⟩ = some (.slice B rs.length d)) := fun W hW => by
        have hk := (HK.out.below HB.out (by omega)).below hW (by omega)
        exact ⟨hk.cell 0, hk.cell 1, hk.cell 2⟩
      have HHA : Hid (∀ W, Below wz.heap.size wz W → Calls Try.prog 16 #[.agg #[.int .i64 (b : Int), .slice A gs.length c, .slice B rs.length d], .int .i64 (g : Int)] W fun r w' => r = .returned (.bool (hasF b gs rs g)) ∧ Below W.heap.size W w') := fun W hW =>
        ghas_any (H.out.below (below_below BZ.out hW BZ.out.size) hhi) (by have := BZ.out.size; have := hW.size; omega) HFG.out g hgl
      have HNX : Hid (hasF b gs rs g = true → ∀ j (hj : j < (gramsL s.data.toList).length), j < k + 1 → hasF b gs rs (gramsL s.data.toList)[j] = true) := fun h j hj hjk => by
        rcases Nat.lt_or_ge j k with h2 | h2
        · exact HA.out j hj h2
        · have : j = k := by omega
          subst this
          rw [hget]
          exact h
      have HNO : Hid (hasF b gs rs g = false → V = false) := fun h => by
        rw [← HV.out]
        refine Bool.eq_false_iff.2 fun h2 => ?_
        have h3 := List.all_eq_true.1 h2 g (by rw [← hget]; exact List.getElem_mem _)
        rw [h] at h3
        cases h3
      obtain ⟨f, hf⟩ : ∃ f, hasF b gs rs g = f := ⟨_, rfl⟩
      rw [hf] at HHA HNX HNO
      clear hf hget hg
      go_wp2_with fail
      refine wp_region_held_drew (S := fun w' => Below wz.heap.size wz w') (by kernel_rfl) (Below.drew (Below.refl _ _)) (fun hHeld => ?_)
      refine wpAnyH_take (i := 0) (oi := _) (v := ?_) rfl (by kernel_rfl) (by kernel_rfl) (by kernel_rfl) (fun _ _ _ h => h) (Or.inl ⟨by rfl, ?_⟩) hHeld ?_
      rotate_left
      focus (intro W hSw; have hcv0 := (HC0.out W hSw).1; have hcv1 := (HC0.out W hSw).2.1; have hcv2 := (HC0.out W hSw).2.2; go_simp; try with_reducible rfl)
      try simp only [List.getElem_toArray, List.getElem_cons_zero, List.getElem_cons_succ, Act.put, List.setIfInBounds_toArray, List.set_cons_zero, List.set_cons_succ]
      refine wpAnyH_take (i := 1) (oi := _) (v := ?_) rfl (by kernel_rfl) (by kernel_rfl) (by kernel_rfl) (fun _ _ _ h => h) (Or.inl ⟨by rfl, ?_⟩) hHeld ?_
      rotate_left
      focus (intro W hSw; go_simp; try with_reducible rfl)
      try simp only [List.getElem_toArray, List.getElem_cons_zero, List.getElem_cons_succ, Act.put, List.setIfInBounds_toArray, List.set_cons_zero, List.set_cons_succ]
      refine wpAnyH_take (i := 2) (oi := _) (v := ?_) rfl (by kernel_rfl) (by kernel_rfl) (by kernel_rfl) (fun _ _ _ h => h) (Or.inl ⟨by rfl, ?_⟩) hHeld ?_
      rotate_left
      focus (intro W hSw; go_simp; try with_reducible rfl)
      try simp only [List.getElem_toArray, List.getElem_cons_zero, List.getElem_cons_succ, Act.put, List.setIfInBounds_toArray, List.set_cons_zero, List.set_cons_succ]
      refine wpAnyH_take (i := 3) (oi := _) (v := ?_) rfl (by kernel_rfl) (by kernel_rfl) (by kernel_rfl) (fun _ _ _ h => h) (Or.inl ⟨by rfl, ?_⟩) hHeld ?_
      rotate_left
      focus (intro W hSw; go_simp; try with_reducible rfl)
      try simp only [List.getElem_toArray, List.getElem_cons_zero, List.getElem_cons_succ, Act.put, List.setIfInBounds_toArray, List.set_cons_zero, List.set_cons_succ]
      refine wpAnyH_ready (rs := [4]) (by kernel_rfl) (by simp) ?_
      refine AllReadyH.cons (o := _) rfl (fun K hK => ?_) AllReadyH.nil
      go_simp
      refine (HGA.out _ hHeld).mono ?_
      rintro r w8 ⟨rfl, h8⟩
      have HB8 : Hid (Below wz.heap.size wz w8) := by
        obtain ⟨m8, rfl⟩ := h8
        exact below_drewN' hHeld m8
      clear h8
      refine hK.out _ _ HB8.out (fun hHeld => ?_)
      clear hK K
      try simp only [List.getElem_toArray, List.getElem_cons_zero, List.getElem_cons_succ, Act.put, List.setIfInBounds_toArray, List.set_cons_zero, List.set_cons_succ]
      refine wpAnyH_ready (rs := [5]) (by kernel_rfl) (by simp) ?_
      refine AllReadyH.cons (o := _) rfl (fun K hK => ?_) AllReadyH.nil
      go_simp
      refine (HHA.out _ hHeld).mono ?_
      rintro r w9 ⟨rfl, b9⟩
      have HB9 := Lib.hid (below_below hHeld b9 hHeld.size)
      clear b9
      refine hK.out _ _ HB9.out (fun hHeld => ?_)
      clear hK K
      try simp only [List.getElem_toArray, List.getElem_cons_zero, List.getElem_cons_succ, Act.put, List.setIfInBounds_toArray, List.set_cons_zero, List.set_cons_succ]
      refine wpAnyH_take (i := 6) (oi := _) (v := ?_) rfl (by kernel_rfl) (by kernel_rfl) (by kernel_rfl) (fun _ _ _ h => h) (Or.inl ⟨by rfl, ?_⟩) hHeld ?_
      rotate_left
      focus (intro W hSw; go_simp; try with_reducible rfl)
      try simp only [List.getElem_toArray, List.getElem_cons_zero, List.getElem_cons_succ, Act.put, List.setIfInBounds_toArray, List.set_cons_zero, List.set_cons_succ]
      refine wpAnyH_done (by kernel_rfl) ?_ _
      have HE := Lib.hid (below_below HB.out HB9.out hsz)
      clear hHeld
      cases f with
      | true =>
        have HN2 := Lib.hid (HNX.out rfl)
        clear HNX HNO
        go_wp2_with fail
        go_roundw
        case rel => exact ⟨k + 1, by omega, by go_num, HN2.out, HE.out⟩
        case measure => simp [intOf] <;> omega
      | false =>
        have HVV := Lib.hid (HNO.out rfl)
        clear HNX HNO
        go_wp2_with fail
        go_ret
        exact ⟨ret_bool HVV.out.symm, below_below BZ.out HB9.out BZ.out.size⟩
    · have jk : ¬ (k : Int) < (N : Int) := by omega
      have HVV : Hid (V = true) := by
        unfold Hid
        rw [← HV.out]
        refine List.all_eq_true.2 fun g hg => ?_
        obtain ⟨j, hj, rfl⟩ := List.getElem_of_mem hg
        exact HA.out j hj (by have := HGL.out; omega)
      go_wp2_with fail
      go_ret
      exact ⟨ret_bool HVV.out.symm, BZ.out⟩
end Go.Proofs.Ytepgkdmfoojppaa
namespace Go.Proofs.Ytepgkdmfoojppaa
set_option linter.unusedSimpArgs false
set_option linter.unusedVariables false
open Go.RowKit

set_option maxRecDepth 20000 in
set_option maxHeartbeats 4000000 in
theorem gwrite_bits {w : World} {hi b : Nat} {v : Value} {gs : List Nat} {rs : List Bool} (h : Flt w 0 hi v b gs rs) (hhi : hi ≤ w.heap.size) (hf : FilG b gs rs) (hb0 : 0 < b) :
    Calls Try.prog 21 #[v] w fun r w' => ∃ A' c', r = .returned (.slice A' (writeG b gs rs).length c') ∧ w'.ownsRow w.heap.size 5 1 (.slice A' (writeG b gs rs).length c') (writeG b gs rs).length (bv (writeG b gs rs)) ∧ Below w.heap.size w w' := by
  obtain ⟨A, c, B, d, rfl, h1, h2⟩ := h
  have hble := hf.le
  have hrl := hf.rows
  obtain ⟨w1, hw1⟩ : ∃ w1, w.alloc (.cells #[.int .i64 (b : Int), .slice A gs.length c, .slice B rs.length d] 28) = w1 := ⟨_, rfl⟩
  have B1 : Hid (Below w.heap.size w w1) := by unfold Hid; rw [← hw1]; exact (Below.refl _ w).alloc (Nat.le_refl _) _
  have hk : Blk w1 w.heap.size 28 #[.int .i64 (b : Int), .slice A gs.length c, .slice B rs.length d] := by rw [← hw1]; exact Blk.new w _ _
  have hs1 : w1.heap.size = w.heap.size + 1 := by rw [← hw1]; simp
  have hgt1 : w.heap.size < w1.heap.size := by omega
  have hc0 : w1.cell? ⟨w.heap.size, 0, none⟩ = some (.int .i64 (b : Int)) := hk.cell 0
  have HK := Lib.hid hk
  have HPU := Lib.hid (put_any (w := w1) b (by omega))
  have HR2 := Lib.hid ((h2.below B1.out hhi).wide (Nat.zero_le _) (Nat.le_refl _))
  have ib0 : ¬ (b : Int) = 0 := by omega
  have ib1 : ((b : Int) == 0) = false := by rw [beq_eq_false_iff_ne]; exact ib0
  have ib2 : ((b : Int) != 0) = true := by rw [bne, ib1]; rfl
  obtain ⟨V, hV⟩ : ∃ V, putL b ++ writeB rs = V := ⟨_, rfl⟩
  rw [show writeG b gs rs = V from (if_pos hb0).trans hV]
  have HV := Lib.hid hV
  have HWL : Hid ((putL b).length + (writeB rs).length ≤ 10000000) := by
    have h3 := putL_nine b (by omega)
    have h4 := writeB_length rs (by omega)
    unfold Hid
    omega
  have HWR := fun (W : World) (hW : Below w1.heap.size w1 W) => Lib.hid (bwrite_any (w := W) rs (HR2.out.below hW (by omega)) (by have := hW.size; omega) (by omega))
  clear h1 h2 hk hV hf hrl hs1
  generalize writeB rs = wb at *
  generalize putL b = pb at *
  go_enter Try.func21, Try.ntmps21
  go_wp2_with fail
  refine HPU.out.mono ?_
  rintro r w2 ⟨A2, c2, rfl, ho2, b2⟩
  have HO2 := Lib.hid ho2
  have HK2 := Lib.hid (HK.out.below b2 hgt1)
  have hd0 : w2.cell? ⟨w.heap.size, 0, none⟩ = some (.int .i64 (b : Int)) := HK2.out.cell 0
  have hd2 : w2.cell? ⟨w.heap.size, 2, none⟩ = some (.slice B rs.length d) := HK2.out.cell 2
  have HWR2 := HWR w2 b2
  have B2 := Lib.hid b2
  have S2 := b2.size
  clear ho2 b2 HPU HWR
  go_wp2_with fail
  refine HWR2.out.mono ?_
  rintro r w3 ⟨A3, c3, rfl, ho3, b3⟩
  have HO3 := Lib.hid (Rd.of_own ho3)
  have HO23 := Lib.hid (own_below HO2.out b3 (Nat.le_refl _))
  have B3 := Lib.hid (below_below B2.out b3 S2)
  have S3 := b3.size
  obtain ⟨A4, c4, w4, hrun, ho4, hg4⟩ := append_named w3 w1.heap.size _ pb wb V HV.out HO23.out HO3.out (by have := HWL.out; omega) B3.out.size
  have HO4 := Lib.hid ho4
  have B4 := Lib.hid (B3.out.grown hg4 B3.out.size (fun q hq => (own_lt HO23.out hq).1))
  clear ho3 b3 ho4 hg4 HWR2
  go_wp2_with (at_builtin; refine wpList_append_run rfl _ _ _ _ rfl rfl rfl hrun ?_)
  go_ret
  exact ⟨A4, c4, rfl, own_base HO4.out (by omega), below_below B1.out B4.out (by omega)⟩

set_option maxRecDepth 20000 in
set_option maxHeartbeats 4000000 in
theorem gwrite_list {w : World} {hi : Nat} {v : Value} {gs : List Nat} {rs : List Bool} (h : Flt w 0 hi v 0 gs rs) (hhi : hi ≤ w.heap.size) (hf : FilG 0 gs rs) :
    Calls Try.prog 21 #[v] w fun r w' => ∃ A' c', r = .returned (.slice A' (writeG 0 gs rs).length c') ∧ w'.ownsRow w.heap.size 5 1 (.slice A' (writeG 0 gs rs).length c') (writeG 0 gs rs).length (bv (writeG 0 gs rs)) ∧ Below w.heap.size w w' := by
  obtain ⟨A, c, B, d, rfl, h1, h2⟩ := h
  rw [show ((0 : Nat) : Int) = 0 from rfl]
  have hfew := hf.few
  have hmay := stepsG_may hf.up hf.lt
  obtain ⟨w1, hw1⟩ : ∃ w1, w.alloc (.cells #[.int .i64 0, .slice A gs.length c, .slice B rs.length d] 28) = w1 := ⟨_, rfl⟩
  have B1 : Hid (Below w.heap.size w w1) := by unfold Hid; rw [← hw1]; exact (Below.refl _ w).alloc (Nat.le_refl _) _
  have hk : Blk w1 w.heap.size 28 #[.int .i64 0, .slice A gs.length c, .slice B rs.length d] := by rw [← hw1]; exact Blk.new w _ _
  have hs1 : w1.heap.size = w.heap.size + 1 := by rw [← hw1]; simp
  have hgt1 : w.heap.size < w1.heap.size := by omega
  have hc0 : w1.cell? ⟨w.heap.size, 0, none⟩ = some (.int .i64 0) := hk.cell 0
  have HK := Lib.hid hk
  have HPU := Lib.hid (put_any (w := w1) 0 (by omega))
  rw [show ((0 : Nat) : Int) = 0 from rfl] at HPU
  have HR1 := Lib.hid ((h1.below B1.out hhi).wide (Nat.zero_le _) (Nat.le_refl _))
  obtain ⟨V, hV⟩ : ∃ V, putL 0 ++ writeL (stepsG gs) = V := ⟨_, rfl⟩
  rw [show writeG 0 gs rs = V from (if_neg (Nat.lt_irrefl 0)).trans hV]
  have HV := Lib.hid hV
  have HSL := Lib.hid (stepsG_length gs)
  have HST := fun (W : World) (hW : Below w1.heap.size w1 W) => Lib.hid (gsteps_any (w := W) gs (by omega) hf.lt (HR1.out.below hW (by omega)) (by have := hW.size; omega))
  have HPW := fun (W : World) (A : Option Addr) (c hi : Nat) (hR : Rd W 0 hi A c (iv (stepsG gs))) (hh : hi ≤ W.heap.size) => Lib.hid (pwrite_yes (w := W) (stepsG gs) hmay hR hh (by rw [stepsG_length]; omega))
  have HWL : Hid ((putL 0).length + (writeL (stepsG gs)).length ≤ 10000000) := by
    have h3 := putL_nine 0 (by omega)
    have h5 := putL_nine (stepsG gs).length (by rw [stepsG_length]; omega)
    have h6 := hmay.wide_le
    have h7 : (stepsG gs).length * wide (stepsG gs) ≤ 65536 * 32 := Nat.mul_le_mul (by rw [stepsG_length]; exact hfew) h6
    unfold Hid
    have h8 : (writeL (stepsG gs)).length = (putL (stepsG gs).length).length + (((stepsG gs).length * wide (stepsG gs) + 7) / 8 + 1) := by rw [writeL]; simp [packL_length, nats_length]
    omega
  rw [stepsG_length] at HPW
  clear h1 h2 hk hV hf hmay hs1
  generalize writeL (stepsG gs) = wb at *
  generalize putL 0 = pb at *
  go_enter Try.func21, Try.ntmps21
  go_wp2_with fail
  refine HPU.out.mono ?_
  rintro r w2 ⟨A2, c2, rfl, ho2, b2⟩
  have HO2 := Lib.hid ho2
  have HK2 := Lib.hid (HK.out.below b2 hgt1)
  have hd0 : w2.cell? ⟨w.heap.size, 0, none⟩ = some (.int .i64 0) := HK2.out.cell 0
  have hd1 : w2.cell? ⟨w.heap.size, 1, none⟩ = some (.slice A gs.length c) := HK2.out.cell 1
  have HST2 := HST w2 b2
  have B2 := Lib.hid b2
  have S2 := b2.size
  clear ho2 b2 HPU HST
  go_wp2_with fail
  refine HST2.out.mono ?_
  rintro r w3 ⟨rfl, ho3, b3⟩
  have HPW3 := HPW w3 _ _ _ ((Rd.of_own ho3).wide (Nat.zero_le _) (Nat.le_refl _)) (Nat.le_refl _)
  have HO23 := Lib.hid (own_below HO2.out b3 (Nat.le_refl _))
  have B3 := Lib.hid (below_below B2.out b3 S2)
  have S3 := b3.size
  clear ho3 b3 HST2 HPW
  go_wp2_with fail
  refine HPW3.out.mono ?_
  rintro r w4 ⟨A4, c4, rfl, ho4, b4⟩
  have HO4 := Lib.hid (Rd.of_own ho4)
  have HO24 := Lib.hid (own_below HO23.out b4 (Nat.le_refl _))
  have B4 := Lib.hid (below_below B3.out b4 B3.out.size)
  have S4 := b4.size
  obtain ⟨A5, c5, w5, hrun, ho5, hg5⟩ := append_named w4 w1.heap.size _ pb wb V HV.out HO24.out HO4.out (by have := HWL.out; omega) B4.out.size
  have HO5 := Lib.hid ho5
  have B5 := Lib.hid (B4.out.grown hg5 B4.out.size (fun q hq => (own_lt HO24.out hq).1))
  clear ho4 b4 ho5 hg5 HPW3
  go_wp2_with (at_builtin; refine wpList_append_run rfl _ _ _ _ rfl rfl rfl hrun ?_)
  go_ret
  exact ⟨A5, c5, rfl, own_base HO5.out (by omega), below_below B1.out B5.out (by omega)⟩

theorem gwrite_any {w : World} {hi b : Nat} {v : Value} {gs : List Nat} {rs : List Bool} (h : Flt w 0 hi v b gs rs) (hhi : hi ≤ w.heap.size) (hf : FilG b gs rs) :
    Calls Try.prog 21 #[v] w fun r w' => ∃ A' c', r = .returned (.slice A' (writeG b gs rs).length c') ∧ w'.ownsRow w.heap.size 5 1 (.slice A' (writeG b gs rs).length c') (writeG b gs rs).length (bv (writeG b gs rs)) ∧ Below w.heap.size w w' := by
  rcases Nat.eq_zero_or_pos b with rfl | hb0
  · exact gwrite_list h hhi hf
  · exact gwrite_bits h hhi hf hb0
end Go.Proofs.Ytepgkdmfoojppaa
namespace Go.Proofs.Ytepgkdmfoojppaa
set_option linter.unusedSimpArgs false
set_option linter.unusedVariables false
open Go.RowKit

/-- grams that rise -/
structure UpG (gs : List Nat) : Prop where
  up : gs.Pairwise (· < ·)
  lt : ∀ g ∈ gs, g < 16777216
theorem UpG.nil : UpG [] := ⟨List.Pairwise.nil, fun g h => absurd h List.not_mem_nil⟩
theorem UpG.take {gs : List Nat} (h : UpG gs) (k : Nat) : UpG (gs.take k) := ⟨h.up.sublist (List.take_sublist k gs), fun g hg => h.lt g (List.mem_of_mem_take hg)⟩
theorem getD_take (gs : List Nat) (i k : Nat) (h : i < k) : (gs.take k).getD i 0 = gs.getD i 0 := by
  simp [List.getD, List.getElem?_take, h]
theorem stepsG_take (gs : List Nat) (k : Nat) : stepsG (gs.take k) = (stepsG gs).take k := by
  apply List.ext_getElem
  · simp [stepsG]
  · intro i h1 h2
    simp only [stepsG, List.getElem_map, List.getElem_range, List.getElem_take]
    have hi : i < k := by
      rw [stepsG_length, List.length_take] at h1
      omega
    rw [getD_take gs i k hi, getD_take gs 0 k (by omega), getD_take gs (i - 1) k (by omega)]
theorem stepsG_snoc (gs : List Nat) (g : Nat) : stepsG (gs ++ [g]) = stepsG gs ++ [(g : Int) - (prevG gs gs.length : Int)] := by
  apply List.ext_getElem?
  intro i
  rcases Nat.lt_trichotomy i gs.length with h | h | h
  · rw [List.getElem?_append_left (by rw [stepsG_length]; exact h)]
    have e := stepsG_take (gs ++ [g]) gs.length
    rw [List.take_left] at e
    rw [e, List.getElem?_take, if_pos h]
  · subst h
    have hs : (stepsG (gs ++ [g])).length = gs.length + 1 := by rw [stepsG_length, List.length_append]; rfl
    rw [List.getElem?_append_right (by rw [stepsG_length]; exact Nat.le_refl _), stepsG_length, Nat.sub_self, List.getElem?_eq_getElem (by omega)]
    simp only [List.getElem?_cons_zero, Option.some.injEq]
    simp only [stepsG, List.getElem_map, List.getElem_range, prevG]
    by_cases h0 : gs.length = 0
    · have : gs = [] := List.eq_nil_of_length_eq_zero h0
      subst this
      simp
    · rw [if_neg h0, if_neg h0]
      have h5 : (gs ++ [g]).getD (gs.length - 1) 0 = gs.getD (gs.length - 1) 0 := by simp [List.getD, List.getElem?_append_left (show gs.length - 1 < gs.length by omega)]
      have h6 : (gs ++ [g]).getD gs.length 0 = g := by simp [List.getD]
      rw [h5, h6]
  · rw [List.getElem?_eq_none (by rw [stepsG_length, List.length_append, List.length_singleton]; omega), List.getElem?_eq_none (by rw [List.length_append, stepsG_length, List.length_singleton]; omega)]
theorem stepsG_inj : ∀ {a b : List Nat}, stepsG a = stepsG b → a = b := by
  intro a b h
  have hl : a.length = b.length := by rw [← stepsG_length a, h, stepsG_length]
  have key : ∀ k, k ≤ a.length → a.take k = b.take k := by
    intro k
    induction k with
    | zero => intro _; simp
    | succ k ih =>
      intro hk
      have e := ih (by omega)
      have h1 := stepsG_take a (k + 1)
      have h2 := stepsG_take b (k + 1)
      rw [h, ← h2, List.take_succ_eq_append_getElem (show k < a.length by omega), List.take_succ_eq_append_getElem (show k < b.length by omega), e, stepsG_snoc, stepsG_snoc] at h1
      have h3 := List.append_cancel_left h1
      simp only [List.cons.injEq, and_true] at h3
      rw [List.take_succ_eq_append_getElem (show k < a.length by omega), List.take_succ_eq_append_getElem (show k < b.length by omega), e]
      congr 2
      omega
  have := key a.length (Nat.le_refl _)
  rwa [List.take_length, hl, List.take_length] at this
/-- the last gram, or one less than the least -/
def lastG (gs : List Nat) : Int := if gs.length = 0 then -1 else ((gs.getD (gs.length - 1) 0 : Nat) : Int)
theorem lastG_snoc (gs : List Nat) (g : Nat) : lastG (gs ++ [g]) = (g : Int) := by simp [lastG, List.getD]
theorem lastG_max (gs : List Nat) : max (lastG gs) 0 = (prevG gs gs.length : Int) := by
  unfold lastG prevG
  split <;> omega
theorem lastG_lt {gs : List Nat} (h : UpG gs) : -1 ≤ lastG gs ∧ lastG gs < 16777216 := by
  unfold lastG
  split
  · omega
  · rename_i h0
    have := h.lt (gs.getD (gs.length - 1) 0) (by rw [List.getD, List.getElem?_eq_getElem (by omega)]; exact List.getElem_mem _)
    omega
theorem UpG.snoc {gs : List Nat} {g : Nat} (h : UpG gs) (h1 : lastG gs < (g : Int)) (h2 : g < 16777216) : UpG (gs ++ [g]) := by
  refine ⟨List.pairwise_append.2 ⟨h.up, List.pairwise_singleton _ _, fun a ha b hb => ?_⟩, fun x hx => ?_⟩
  · rw [List.mem_singleton] at hb
    subst hb
    obtain ⟨j, hj, rfl⟩ := List.getElem_of_mem ha
    unfold lastG at h1
    rw [if_neg (by omega)] at h1
    rw [List.getD, List.getElem?_eq_getElem (by omega), Option.getD_some] at h1
    rcases Nat.lt_or_ge j (gs.length - 1) with h3 | h3
    · have := List.pairwise_iff_getElem.1 h.up j (gs.length - 1) hj (by omega) h3
      omega
    · have : j = gs.length - 1 := by omega
      subst this
      omega
  · rcases List.mem_append.1 hx with hx | hx
    · exact h.lt x hx
    · rw [List.mem_singleton] at hx
      exact hx ▸ h2
/-- the next gram of a filter whose steps these are -/
theorem UpG.next {gs t : List Nat} {k : Nat} {ns : List Nat} (h : UpG gs) (hs : stepsG gs = ints ns) (ht : stepsG t = ints (ns.take k)) (hk : k < ns.length) :
    ∃ g : Nat, (g : Int) = (prevG t t.length : Int) + (ns[k] : Int) ∧ lastG t < (g : Int) ∧ g < 16777216 := by
  have hl : gs.length = ns.length := by rw [← stepsG_length, hs, ints_length]
  have e : gs.take k = t := stepsG_inj (by rw [stepsG_take, hs, ht, ints, ints, List.map_take])
  have hkg : k < gs.length := by omega
  have h2 := stepsG_take gs (k + 1)
  rw [List.take_succ_eq_append_getElem hkg, e, stepsG_snoc, hs] at h2
  rw [ints, ← List.map_take, List.take_succ_eq_append_getElem hk, List.map_append, ht, ints] at h2
  have h3 := List.append_cancel_left h2
  simp only [List.map_cons, List.map_nil, List.cons.injEq, and_true] at h3
  have htl : t.length = k := by rw [← e, List.length_take]; omega
  refine ⟨gs[k], by omega, ?_, h.lt _ (List.getElem_mem hkg)⟩
  unfold lastG
  split
  · omega
  · rename_i h0
    have h5 : t.getD (t.length - 1) 0 = gs[k - 1]'(by omega) := by
      have h6 := getD_take gs (k - 1) k (by omega)
      rw [e] at h6
      rw [htl, h6, List.getD, List.getElem?_eq_getElem (show k - 1 < gs.length by omega)]
      rfl
    rw [h5]
    have := List.pairwise_iff_getElem.1 h.up (k - 1) k (by omega) hkg (by omega)
    omega
/-- what a list's taking answers: its grams, or an error where there are none -/
structure ListG (ns : List Nat) (e : Int) (gs : List Nat) (e' : Int) : Prop where
  ok : e' = 0 → e = 0 ∧ stepsG gs = ints ns ∧ UpG gs
  there : e = 0 → ∀ gs0, UpG gs0 → stepsG gs0 = ints ns → e' = 0
/-- cells, of which the first are grams already -/
def HalfG (ns t : List Nat) (xs : List Value) : Prop := xs.length = ns.length ∧ (∀ j, j < t.length → xs[j]? = (iv (ints t))[j]?) ∧ ∀ j, t.length ≤ j → xs[j]? = (iv (ints ns))[j]?
theorem HalfG.zero (ns : List Nat) : HalfG ns [] (iv (ints ns)) := ⟨by rw [iv_length, ints_length], fun j h => absurd h (Nat.not_lt_zero j), fun _ _ => rfl⟩
theorem HalfG.snoc {ns t : List Nat} {xs : List Value} (h : HalfG ns t xs) (g : Nat) (ht : t.length < ns.length) : HalfG ns (t ++ [g]) (xs.set t.length (.int .i64 (g : Int))) := by
  refine ⟨by rw [List.length_set]; exact h.1, fun j hj => ?_, fun j hj => ?_⟩
  · rw [List.length_append, List.length_singleton] at hj
    have hgi : (iv (ints (t ++ [g]))) = iv (ints t) ++ [.int .i64 (g : Int)] := by simp [iv, ints]
    rw [hgi]
    by_cases e : j = t.length
    · subst e
      rw [List.getElem?_set_self (by rw [h.1]; exact ht), List.getElem?_append_right (by rw [iv_length, ints_length]; exact Nat.le_refl _), iv_length, ints_length, Nat.sub_self]
      rfl
    · rw [List.getElem?_set_ne (by omega), h.2.1 j (by omega), List.getElem?_append_left (by rw [iv_length, ints_length]; omega)]
  · rw [List.length_append, List.length_singleton] at hj
    rw [List.getElem?_set_ne (by omega)]
    exact h.2.2 j (by omega)
theorem HalfG.all {ns t : List Nat} {xs : List Value} (h : HalfG ns t xs) (ht : t.length = ns.length) : xs = iv (ints t) := by
  apply List.ext_getElem?
  intro j
  rcases Nat.lt_or_ge j t.length with hj | hj
  · exact h.2.1 j hj
  · rw [List.getElem?_eq_none (by rw [h.1]; omega), List.getElem?_eq_none (by rw [iv_length, ints_length]; omega)]
theorem HalfG.get {ns t : List Nat} {xs : List Value} (h : HalfG ns t xs) (ht : t.length < ns.length) : xs[t.length]? = some (.int .i64 ((ns[t.length] : Nat) : Int)) := by
  rw [h.2.2 _ (Nat.le_refl _), iv_get _ _ (by rw [ints_length]; exact ht)]
  simp [ints]

set_option maxRecDepth 20000 in
set_option maxHeartbeats 4000000 in
theorem gtakeList_any {w : World} {lo g k : Nat} {bs : List UInt8} {e : Int} (hc : Cur w lo g bs k e) (hbs : bs.length ≤ 1000000000) (ns : List Nat) (k1 : Nat) (e1 : Int) (hR : readR bs k e 65536 = (ns, k1, e1)) (hns : ∀ x ∈ ns, x < 4294967296) (hnl : ns.length ≤ 2147483647) :
    Calls Try.prog 47 #[cp g] w fun r w' => ∃ (gs : List Nat) (A : Option Addr) (c : Nat) (e' : Int), r = .returned (.slice A gs.length c) ∧ w'.ownsRow w.heap.size 3 1 (.slice A gs.length c) gs.length (iv (ints gs)) ∧
      Cur w' lo g bs k1 e' ∧ ListG ns e1 gs e' ∧ w.grownBy w' (some g) := by
  have hgl := hc.lt
  have HPR := Lib.hid (pread_any 65536 hc (by omega))
  rw [hR] at HPR
  dsimp only at HPR
  have HNS : Hid (∀ k (hk : k < ns.length), ns[k] < 4294967296) := fun k hk => hns _ (List.getElem_mem hk)
  clear hc hR hns
  unfold cp
  go_enter Try.func47, Try.ntmps47
  go_wp2_with fail
  refine HPR.out.mono ?_
  rintro r w1 ⟨A1, c1, rfl, ho1, hc1, hg1⟩
  have HO1 := Lib.hid ho1
  have HC1 := Lib.hid hc1
  have HG1 := Lib.hid hg1
  have s1 := hg1.size
  have hlc := (Rd.of_own ho1).len
  have hmc := (Rd.of_own ho1).cap
  rw [iv_length, ints_length] at hlc
  unfold maxLen at hmc
  clear ho1 hc1 hg1 HPR
  go_wp2_with fail
  go_loopw [4, 12] (fun x4 x12 wr => ∃ (k : Nat) (t : List Nat) (xs : List Value), k ≤ ns.length ∧ x12 = .int .i64 (k : Int) ∧ x4 = .int .i64 (lastG t) ∧ t.length = k ∧ UpG t ∧ stepsG t = ints (ns.take k) ∧ wr.ownsRow w.heap.size 3 1 (.slice A1 ns.length c1) ns.length xs ∧ HalfG ns t xs ∧ Cur wr lo g bs k1 e1 ∧ w.grownBy wr (some g)) (fun _ x12 _ => ns.length - (intOf x12).toNat)
  case atStart => exact ⟨0, [], _, Nat.zero_le _, rfl, rfl, rfl, UpG.nil, rfl, HO1.out, HalfG.zero ns, HC1.out, HG1.out⟩
  case round =>
    clear HO1 HC1 HG1
    obtain ⟨k, t, xs, hk, rfl, rfl, htl, hup, hst, hown, hha, hcu, hgb⟩ := hrel
    obtain ⟨wz, hwz⟩ : ∃ wz, wz = wr := ⟨_, rfl⟩
    subst hwz
    have HTL := Lib.hid htl
    have HU := Lib.hid hup
    have HS := Lib.hid hst
    have HO := Lib.hid hown
    have HH := Lib.hid hha
    have HC := Lib.hid hcu
    have HG := Lib.hid hgb
    clear htl hup hst hown hha hcu hgb
    by_cases hlt : k < ns.length
    · have ik : (k : Int) < (ns.length : Int) := by omega
      obtain ⟨gb, rfl, hgb1, hgb2⟩ := own_spot HO.out (by omega)
      have hget : xs[k]? = some (.int .i64 ((ns[k] : Nat) : Int)) := by
        have := HH.out.get (by rw [HTL.out]; exact hlt)
        simpa only [HTL.out] using this
      have hcell : wz.cell? ⟨gb, k, none⟩ = some (.int .i64 ((ns[k] : Nat) : Int)) := by rw [HO.out.cellAt k (by omega), hget]
      have hfr := HO.out.frozenAt k
      have hx := HNS.out k hlt
      have hzl := lastG_lt HU.out
      have hmx : max (lastG t) 0 = (prevG t k : Int) := by
        have := lastG_max t
        rwa [HTL.out] at this
      have HNX : Hid (∀ gs0, UpG gs0 → stepsG gs0 = ints ns → ∃ q : Nat, (q : Int) = (prevG t k : Int) + (ns[k] : Int) ∧ lastG t < (q : Int) ∧ q < 16777216) := fun gs0 h1 h2 => by
        have := h1.next h2 HS.out hlt
        rwa [HTL.out] at this
      have HSN : Hid (∀ q : Nat, (q : Int) = (prevG t k : Int) + (ns[k] : Int) → lastG t < (q : Int) → q < 16777216 → UpG (t ++ [q]) ∧ stepsG (t ++ [q]) = ints (ns.take (k + 1)) ∧ lastG (t ++ [q]) = (q : Int)) := fun q h1 h2 h3 => by
        refine ⟨HU.out.snoc h2 h3, ?_, lastG_snoc t q⟩
        rw [stepsG_snoc, HTL.out, HS.out, List.take_succ_eq_append_getElem hlt, ints, ints, List.map_append]
        congr 1
        simp only [List.map_cons, List.map_nil, List.cons.injEq, and_true]
        omega
      have HSET := fun q : Nat => Lib.hid (HH.out.snoc q (by rw [HTL.out]; exact hlt))
      rw [HTL.out] at HSET
      have HSTO := fun u => Lib.hid (HO.out.stored k u)
      obtain ⟨z, hz⟩ : ∃ z, lastG t = z := ⟨_, rfl⟩
      rw [hz] at hzl hmx HNX HSN ⊢
      have hpl : prevG t k < 16777216 := by omega
      generalize prevG t k = p at *
      generalize ns[k] = x at *
      obtain ⟨q, hq⟩ : ∃ q : Nat, q = p + x := ⟨_, rfl⟩
      have iq : (p : Int) + (x : Int) = (q : Int) := by omega
      have HQ := Lib.hid hq
      have hql : q < 8589934592 := by omega
      clear hget hz hq
      by_cases h1 : (q : Int) ≤ z
      · have d1 : decide ((q : Int) ≤ z) = true := decide_eq_true h1
        have HNO : Hid (∀ gs0, UpG gs0 → ¬ stepsG gs0 = ints ns) := fun gs0 h2 h3 => by
          obtain ⟨q2, e1, e2, e3⟩ := HNX.out gs0 h2 h3
          omega
        have HFA := Lib.hid (fail_any 3 HC.out)
        unfold cp at HFA
        clear HNX HSN HSET HSTO
        go_wp2_with fail
        refine HFA.out.mono ?_
        rintro r w5 ⟨rfl, hc5, hg5⟩
        have HC5 := Lib.hid hc5
        have HG5 := Lib.hid (HG.out.trans hg5)
        clear hc5 hg5 HFA
        go_wp2_with fail
        go_ret
        refine ⟨[], none, 0, _, rfl, World.ownsRow_nil .., HC5.out, ⟨fun h => ?_, fun _ gs0 h2 h3 => absurd h3 (HNO.out gs0 h2)⟩, HG5.out⟩
        exfalso
        split at h
        · exact absurd h (by decide)
        · rename_i h4; exact h4 h
      · have d1 : decide ((q : Int) ≤ z) = false := decide_eq_false h1
        by_cases h2 : (16777215 : Int) < (q : Int)
        · have d2 : decide ((16777215 : Int) < (q : Int)) = true := decide_eq_true h2
          have HNO : Hid (∀ gs0, UpG gs0 → ¬ stepsG gs0 = ints ns) := fun gs0 h2 h3 => by
            obtain ⟨q2, e1, e2, e3⟩ := HNX.out gs0 h2 h3
            omega
          have HFA := Lib.hid (fail_any 3 HC.out)
          unfold cp at HFA
          clear HNX HSN HSET HSTO
          go_wp2_with fail
          refine HFA.out.mono ?_
          rintro r w5 ⟨rfl, hc5, hg5⟩
          have HC5 := Lib.hid hc5
          have HG5 := Lib.hid (HG.out.trans hg5)
          clear hc5 hg5 HFA
          go_wp2_with fail
          go_ret
          refine ⟨[], none, 0, _, rfl, World.ownsRow_nil .., HC5.out, ⟨fun h => ?_, fun _ gs0 h2 h3 => absurd h3 (HNO.out gs0 h2)⟩, HG5.out⟩
          exfalso
          split at h
          · exact absurd h (by decide)
          · rename_i h4; exact h4 h
        · have d2 : decide ((16777215 : Int) < (q : Int)) = false := decide_eq_false h2
          obtain ⟨a1, a2, a3⟩ := HSN.out q iq.symm (by omega) (by omega)
          have HU2 := Lib.hid a1
          have HS2 := Lib.hid a2
          have HL2 := Lib.hid a3
          have HT2 : Hid ((t ++ [q]).length = k + 1) := by unfold Hid; rw [List.length_append, HTL.out]; rfl
          have HO2 := Lib.hid (HSTO (.int .i64 (q : Int))).out.1
          have HC2 := Lib.hid (HC.out.grown (HSTO (.int .i64 (q : Int))).out.2 (fun x hx => .inr (by injection hx with hx; omega)))
          have HG2 := Lib.hid (gb_setCell HG.out (p := ⟨gb, k, none⟩) (.inr hgb1) (.int .i64 (q : Int)))
          have HH2 := HSET q
          clear HNX HSN HSET HSTO a1 a2 a3
          go_wp2_with fail
          go_roundw
          case rel => exact ⟨k + 1, t ++ [q], _, by omega, by go_num, by rw [HL2.out], HT2.out, HU2.out, HS2.out, HO2.out, HH2.out, HC2.out, HG2.out⟩
          case measure => simp [intOf] <;> omega
    · have ik : ¬ (k : Int) < (ns.length : Int) := by omega
      obtain rfl : k = ns.length := by omega
      have hxs := HH.out.all HTL.out
      have hoL := HO.out
      rw [hxs, ← HTL.out] at hoL
      have hsL := HS.out
      rw [List.take_length] at hsL
      have HOL := Lib.hid hoL
      have HSL := Lib.hid hsL
      clear hxs hoL hsL
      go_wp2_with fail
      go_ret
      rw [← HTL.out]
      exact ⟨t, A1, c1, rfl, HOL.out, e1, HC.out, ⟨fun h => ⟨h, HSL.out, HU.out⟩, fun h _ _ _ => h⟩, HG.out⟩
end Go.Proofs.Ytepgkdmfoojppaa
namespace Go.Proofs.Ytepgkdmfoojppaa
set_option linter.unusedSimpArgs false
set_option linter.unusedVariables false
open Go.RowKit

theorem readEnd_nil (bs : List UInt8) (n wd k : Nat) (e : Int) : (readEnd bs n wd k e).2.2 ≠ 0 → (readEnd bs n wd k e).1 = [] := by
  unfold readEnd
  split
  · exact fun _ => rfl
  · split
    · exact fun h => absurd rfl h
    · exact fun _ => rfl
theorem readR_nil (bs : List UInt8) (k : Nat) (e m : Int) : (readR bs k e m).2.2 ≠ 0 → (readR bs k e m).1 = [] := readEnd_nil _ _ _ _ _
theorem readR_small {bs : List UInt8} {k : Nat} {e : Int} {m : Nat} (hm : m ≤ 2147483647) (hk : k ≤ bs.length) {ns : List Nat} {k2 : Nat} {e2 : Int} (h : readR bs k e (m : Int) = (ns, k2, e2)) : (∀ x ∈ ns, x < 4294967296) ∧ ns.length ≤ 2147483647 := by
  by_cases h2 : e2 = 0
  · subst h2
    by_cases h1 : e = 0
    · subst h1
      obtain ⟨a1, a2, -⟩ := read_good hk hm h
      refine ⟨fun x hx => ?_, by omega⟩
      have := a2 (x : Int) (List.mem_map.2 ⟨x, hx, rfl⟩)
      omega
    · rw [read_bad _ _ _ h1] at h
      simp only [Prod.mk.injEq] at h
      exact absurd h.2.2 h1
  · have := readR_nil bs k e m
    rw [h] at this
    have e3 := this h2
    dsimp only at e3
    subst e3
    exact ⟨fun x hx => absurd hx List.not_mem_nil, by simp⟩

/-- what is taken of an exact filter -/
theorem take_list {bs : List UInt8} {k k1 k2 : Nat} {e e1 e2 e' : Int} {ns gs : List Nat} (hk : k ≤ bs.length) (hM : mostR bs k e 65536 = (0, k1, e1)) (hR : readR bs k1 e1 65536 = (ns, k2, e2)) (hL : ListG ns e2 gs e') :
    TakeG bs k e 0 (if e' = 0 then gs else []) [] k2 e' := by
  refine ⟨fun h => ⟨rfl, if_neg h, rfl⟩, fun h => ?_, fun b0 gs0 rs0 rest he hf hd => ?_⟩
  · subst h
    rw [if_pos rfl]
    obtain ⟨h1, h2, h3⟩ := hL.ok rfl
    subst h1
    by_cases h4 : e1 = 0
    · subst h4
      by_cases h5 : e = 0
      · subst h5
        obtain ⟨-, -, m3, m4, m5⟩ := most_good hk hM
        obtain ⟨r1, -, r3, r4, r5⟩ := read_good (m := 65536) m5 (by omega) hR
        have hlen : gs.length = ns.length := by rw [← stepsG_length, h2, ints_length]
        have hw : writeG 0 gs [] = putL 0 ++ writeL (ints ns) := by rw [← h2]; exact if_neg (Nat.lt_irrefl 0)
        refine ⟨rfl, ⟨by omega, rfl, fun h => absurd h (Nat.lt_irrefl 0), h3.up, h3.lt, by omega⟩, ?_, ?_, r5⟩
        · rw [hw, m3, r3, List.append_assoc]
        · rw [hw, List.length_append]; omega
      · rw [most_bad _ _ _ h5] at hM
        simp only [Prod.mk.injEq] at hM
        exact absurd hM.2.2 h5
    · rw [read_bad _ _ _ h4] at hR
      simp only [Prod.mk.injEq] at hR
      exact absurd hR.2.2 h4
  · subst he
    have hle := hf.le
    rcases Nat.eq_zero_or_pos b0 with h0 | h0
    · subst h0
      have hw : writeG 0 gs0 rs0 = putL 0 ++ writeL (stepsG gs0) := if_neg (Nat.lt_irrefl 0)
      rw [hw, List.append_assoc] at hd
      have hmay := stepsG_may hf.up hf.lt
      have hM2 := most_back (m := 65536) hd (by omega) (by omega)
      rw [hM] at hM2
      simp only [Prod.mk.injEq, true_and] at hM2
      obtain ⟨hk1, he1⟩ := hM2
      subst he1
      have hd1 : bs.drop k1 = writeL (stepsG gs0) ++ rest := by rw [hk1, ← List.drop_drop, hd, List.drop_left]
      obtain ⟨-, -, -, -, m5⟩ := most_good hk hM
      have hR2 := read_there (stepsG gs0) hmay 65536 m5 hd1 (by rw [stepsG_length]; exact hf.few) (by omega)
      rw [show ((65536 : Nat) : Int) = 65536 from rfl, hR] at hR2
      simp only [Prod.mk.injEq] at hR2
      obtain ⟨hn, -, he2⟩ := hR2
      have hi : stepsG gs0 = ints ns := by rw [hn, ints_nats (fun z h => (hmay z h).1)]
      have he' := hL.there he2 gs0 ⟨hf.up, hf.lt⟩ hi
      subst he'
      refine ⟨rfl, rfl, ?_, ?_⟩
      · rw [if_pos rfl]
        exact stepsG_inj ((hL.ok rfl).2.1.trans hi.symm)
      · exact (List.eq_nil_of_length_eq_zero hf.rows).symm
    · have hw : writeG b0 gs0 rs0 = putL b0 ++ writeB rs0 := if_pos h0
      rw [hw, List.append_assoc] at hd
      have hM2 := most_back (m := 65536) hd (by omega) (by omega)
      rw [hM] at hM2
      simp only [Prod.mk.injEq] at hM2
      omega
/-- what is taken of a filter of bits -/
theorem take_set {bs : List UInt8} {k k1 k2 b : Nat} {e e1 e2 : Int} {rs : List Bool} (hk : k ≤ bs.length) (hb0 : 0 < b) (hM : mostR bs k e 65536 = (b, k1, e1)) (hR : breadR bs k1 e1 (b : Int) = (rs, k2, e2)) (e' : Int) (he' : e' = if rs.length = b then e2 else if e2 = 0 then 3 else e2) :
    TakeG bs k e (if e' = 0 then b else 0) [] (if e' = 0 then rs else []) k2 e' := by
  refine ⟨fun h => ⟨if_neg h, rfl, if_neg h⟩, fun h => ?_, fun b0 gs0 rs0 rest he hf hd => ?_⟩
  · rw [h] at he' ⊢
    rw [if_pos rfl, if_pos rfl]
    by_cases hl : rs.length = b
    · rw [if_pos hl] at he'
      subst he'
      by_cases h4 : e1 = 0
      · subst h4
        by_cases h5 : e = 0
        · subst h5
          obtain ⟨m1, -, m3, m4, m5⟩ := most_good hk hM
          obtain ⟨-, r3, r4, r5⟩ := bread_good m5 hR
          have hw : writeG b [] rs = putL b ++ writeB rs := if_pos hb0
          refine ⟨rfl, ⟨by omega, hl, fun _ => rfl, List.Pairwise.nil, fun g hg => absurd hg List.not_mem_nil, by simp⟩, ?_, ?_, r5⟩
          · rw [hw, m3, r3, List.append_assoc]
          · rw [hw, List.length_append]; omega
        · rw [most_bad _ _ _ h5] at hM
          simp only [Prod.mk.injEq] at hM
          exact absurd hM.2.2 h5
      · rw [bread_bad _ _ _ h4] at hR
        simp only [Prod.mk.injEq] at hR
        exact absurd hR.2.2 h4
    · rw [if_neg hl] at he'
      split at he'
      · exact absurd he'.symm (by decide)
      · rename_i h6; exact absurd he'.symm h6
  · subst he
    have hle := hf.le
    have hrl := hf.rows
    rcases Nat.eq_zero_or_pos b0 with h0 | h0
    · subst h0
      have hw : writeG 0 gs0 rs0 = putL 0 ++ writeL (stepsG gs0) := if_neg (Nat.lt_irrefl 0)
      rw [hw, List.append_assoc] at hd
      have hM2 := most_back (m := 65536) hd (by omega) (by omega)
      rw [hM] at hM2
      simp only [Prod.mk.injEq] at hM2
      omega
    · have hw : writeG b0 gs0 rs0 = putL b0 ++ writeB rs0 := if_pos h0
      rw [hw, List.append_assoc] at hd
      have hM2 := most_back (m := 65536) hd (by omega) (by omega)
      rw [hM] at hM2
      simp only [Prod.mk.injEq] at hM2
      obtain ⟨hb, hk1, he1⟩ := hM2
      subst hb he1
      have hd1 : bs.drop k1 = writeB rs0 ++ rest := by rw [hk1, ← List.drop_drop, hd, List.drop_left]
      obtain ⟨-, -, -, -, m5⟩ := most_good hk hM
      have hR2 := bread_there rs0 (b : Int) m5 hd1 (by omega) (by omega)
      rw [hR] at hR2
      simp only [Prod.mk.injEq] at hR2
      obtain ⟨hr, -, he2⟩ := hR2
      subst hr he2
      rw [if_pos hrl] at he'
      subst he'
      exact ⟨rfl, if_pos rfl, (hf.none hb0).symm, if_pos rfl⟩

set_option maxRecDepth 20000 in
set_option maxHeartbeats 4000000 in
theorem gtakeSet_any {w : World} {lo g k : Nat} {bs : List UInt8} {e : Int} (hc : Cur w lo g bs k e) (hbs : bs.length ≤ 1000000000) (b : Nat) (hb : b ≤ 65536) (rs : List Bool) (k1 : Nat) (e1 : Int) (hR : breadR bs k e (b : Int) = (rs, k1, e1)) (e' : Int) (he' : e' = if rs.length = b then e1 else if e1 = 0 then 3 else e1) :
    Calls Try.prog 48 #[cp g, .int .i64 (b : Int)] w fun r w' => ∃ (A : Option Addr) (c : Nat), r = .returned (.slice A rs.length c) ∧ w'.ownsRow w.heap.size 4 1 (.slice A rs.length c) rs.length (lv rs) ∧
      Cur w' lo g bs k1 e' ∧ w.grownBy w' (some g) := by
  have hgl := hc.lt
  have HPR := Lib.hid (bread_any (b : Int) (by omega) hc (by omega))
  rw [hR] at HPR
  dsimp only at HPR
  clear hc hR
  unfold cp
  go_enter Try.func48, Try.ntmps48
  go_wp2_with fail
  refine HPR.out.mono ?_
  rintro r w1 ⟨A1, c1, rfl, ho1, hc1, hg1⟩
  have HO1 := Lib.hid ho1
  have HC1 := Lib.hid hc1
  have HG1 := Lib.hid hg1
  have s1 := hg1.size
  have hlc := (Rd.of_own ho1).len
  have hmc := (Rd.of_own ho1).cap
  rw [lv_length] at hlc
  unfold maxLen at hmc
  clear ho1 hc1 hg1 HPR
  by_cases hl : rs.length = b
  · rw [if_pos hl] at he'
    subst hl he'
    go_wp2_with fail
    go_ret
    exact ⟨A1, c1, rfl, HO1.out, HC1.out, HG1.out⟩
  · rw [if_neg hl] at he'
    have i1 : ¬ (rs.length : Int) = (b : Int) := by omega
    have i2 : (((rs.length : Int)) == (b : Int)) = false := beq_eq_false_iff_ne.2 i1
    have i3 : (((rs.length : Int)) != (b : Int)) = true := by rw [bne, i2]; rfl
    have HFA := Lib.hid (fail_any 3 HC1.out)
    rw [← he'] at HFA
    unfold cp at HFA
    clear hl he'
    go_wp2_with fail
    refine HFA.out.mono ?_
    rintro r w5 ⟨rfl, hc5, hg5⟩
    have HC5 := Lib.hid hc5
    have HG5 := Lib.hid (HG1.out.trans hg5)
    have HO5 := Lib.hid (own_keep HO1.out (fun q hq => hg5.block q (own_lt HO1.out hq).2 (fun e => by have := (own_lt HO1.out hq).1; injection e with e; omega)))
    clear hc5 hg5 HFA
    go_wp2_with fail
    go_ret
    exact ⟨A1, c1, rfl, HO5.out, HC5.out, HG5.out⟩

set_option maxRecDepth 20000 in
set_option maxHeartbeats 4000000 in
theorem gread_any {w : World} {lo g k : Nat} {bs : List UInt8} {e : Int} (hc : Cur w lo g bs k e) (hbs : bs.length ≤ 1000000000) :
    Calls Try.prog 25 #[cp g] w fun r w' => ∃ (v : Value) (b : Nat) (gs : List Nat) (rs : List Bool) (k' : Nat) (e' : Int), r = .returned v ∧ TakeG bs k e b gs rs k' e' ∧ Flt w' w.heap.size w'.heap.size v b gs rs ∧ Cur w' lo g bs k' e' ∧ Out w w' (fun i => i = g) := by
  have hgl := hc.lt
  have hkl := hc.le
  obtain ⟨w1, hw1⟩ : ∃ w1, w.alloc (.cells #[.int .i64 0, .slice none 0 0, .slice none 0 0] 28) = w1 := ⟨_, rfl⟩
  have B1 : Hid (Below w.heap.size w w1) := by unfold Hid; rw [← hw1]; exact (Below.refl _ w).alloc (Nat.le_refl _) _
  have HK1 : Hid (Blk w1 w.heap.size 28 #[.int .i64 0, .slice none 0 0, .slice none 0 0]) := by unfold Hid; rw [← hw1]; exact Blk.new w _ _
  have hs1 : w.heap.size < w1.heap.size := by rw [← hw1]; simp
  have HC1 := Lib.hid (hc.behind B1.out hgl)
  have HM := Lib.hid (most_any 65536 HC1.out)
  have hml := mostR_le bs k e 65536
  obtain ⟨M, hM⟩ : ∃ M, mostR bs k e 65536 = M := ⟨_, rfl⟩
  rw [hM] at HM hml
  obtain ⟨b, k1, e1⟩ := M
  dsimp only at HM hml
  have hb : b ≤ 65536 := by omega
  have HMR := Lib.hid hM
  have hbuild := build_flt
  clear hc hM hml
  unfold cp at HM ⊢
  go_enter Try.func25, Try.ntmps25
  go_wp2_with fail
  refine HM.out.mono ?_
  rintro r w2 ⟨rfl, hc2, hg2⟩
  have HC2 := Lib.hid hc2
  have HG2 := Lib.hid hg2
  have s2 := hg2.size
  have HK2 := Lib.hid (HK1.out.grown hg2 (fun e => by injection e with e; omega))
  clear hc2 hg2 HM hw1
  by_cases hb0 : b = 0
  · subst hb0
    rw [show ((0 : Nat) : Int) = 0 from rfl]
    go_wp2_with fail
    obtain ⟨w3, hw3⟩ : ∃ w3, w2.alloc (.cells #[.int .i64 0, .slice none 0 0, .slice none 0 0] 28) = w3 := ⟨_, rfl⟩
    rw [hw3]
    have B23 : Below w2.heap.size w2 w3 := by rw [← hw3]; exact (Below.refl _ w2).alloc (Nat.le_refl _) _
    have HK3 := Lib.hid (HK2.out.below B23 (by omega))
    have HF3 : Hid (Blk w3 w2.heap.size 28 #[.int .i64 0, .slice none 0 0, .slice none 0 0]) := by unfold Hid; rw [← hw3]; exact Blk.new w2 _ _
    have HC3 := Lib.hid (HC2.out.behind B23 (by omega))
    have HO3 : Hid (Out w w3 (fun i => i = g)) := by
      unfold Hid
      rw [← hw3]
      exact ((Out.of_below (X := fun i => i = g) B1.out).trans (Out.of_gb (X := fun i => i = g) HG2.out (fun q hq => by injection hq with hq; exact hq.symm)) (fun _ _ h => h)).alloc _
    have s3 : w2.heap.size < w3.heap.size := by rw [← hw3]; simp
    obtain ⟨R, hR⟩ : ∃ R, readR bs k1 e1 65536 = R := ⟨_, rfl⟩
    obtain ⟨ns, k2, e2⟩ := R
    obtain ⟨hn1, hn2⟩ := readR_small (m := 65536) (by omega) HC2.out.le hR
    have HTK := Lib.hid (gtakeList_any HC3.out hbs ns k2 e2 hR hn1 hn2)
    unfold cp at HTK
    have HRR := Lib.hid hR
    clear hw3 B23 hR hn1
    refine HTK.out.mono ?_
    rintro r w4 ⟨gs, A4, c4, e4, rfl, ho4, hc4, hL, hg4⟩
    have HTG := Lib.hid (take_list hkl HMR.out HRR.out hL)
    clear hL
    have hF4 := HF3.out.grown hg4 (fun e => by injection e with e; omega)
    have HF4 := Lib.hid hF4
    have HK4 := Lib.hid (HK3.out.grown hg4 (fun e => by injection e with e; omega))
    have q1 := hF4.cell 1
    have f1 := hF4.frozen 1
    have HR4 := Lib.hid ho4
    have HC4 := Lib.hid hc4
    have HO4 := Lib.hid (HO3.out.trans (Out.of_gb (X := fun i => i = g) hg4 (fun q hq => by injection hq with hq; exact hq.symm)) (fun _ _ h => h))
    have s4 := hg4.size
    clear hF4 ho4 hc4 hg4 HTK
    go_wp2_with fail
    obtain ⟨w5, hw5⟩ : ∃ w5, w4.setCell ⟨w2.heap.size, 1, none⟩ (.slice A4 gs.length c4) = w5 := ⟨_, rfl⟩
    rw [hw5]
    have g45 : w4.grownBy w5 (some w2.heap.size) := by rw [← hw5]; exact gb_setCell (gb_refl w4 (some w2.heap.size)) (.inl rfl) _
    have hF5 : Blk w5 w2.heap.size 28 #[.int .i64 0, .slice A4 gs.length c4, .slice none 0 0] := by rw [← hw5]; exact HF4.out.put 1 _
    have HF5 := Lib.hid hF5
    have hK5 := HK4.out.grown g45 (fun e => by injection e with e; omega)
    have HK5 := Lib.hid hK5
    have HC5 := Lib.hid (HC4.out.grown g45 (fun x hx => .inr (by injection hx with hx; omega)))
    have HO5 : Hid (Out w w5 (fun i => i = g)) := by unfold Hid; rw [← hw5]; exact HO4.out.setCell (.inr (by show w.heap.size ≤ w2.heap.size; omega)) _
    have HR5 : Hid (w5.ownsRow w3.heap.size 3 1 (.slice A4 gs.length c4) gs.length (iv (ints gs))) := by
      unfold Hid
      rw [← hw5]
      exact own_out HR4.out ((Out.refl w4 (fun q => q = w2.heap.size)).setCell (p := ⟨w2.heap.size, 1, none⟩) (.inl rfl) _) (fun q hq e => by have := own_lt HR4.out hq; omega)
    have s5 := g45.size
    have HGD := Lib.hid (good_any HC5.out)
    unfold cp at HGD
    have u0 := hF5.cell 0
    have u1 := hF5.cell 1
    have u2 := hF5.cell 2
    have v0 := hK5.cell 0
    have v1 := hK5.cell 1
    have v2 := hK5.cell 2
    have y0 := hK5.frozen 0
    have y1 := hK5.frozen 1
    have y2 := hK5.frozen 2
    clear hw5 g45 hF5 hK5 q1 f1
    by_cases he : e4 = 0
    · subst he
      go_wp2_with fail
      refine HGD.out.mono ?_
      rintro r w' ⟨rfl, rfl⟩
      clear HGD
      go_wp2_with fail
      obtain ⟨w6, hw6⟩ : ∃ w6, ((w5.setCell ⟨w.heap.size, 0, none⟩ (.int .i64 0)).setCell ⟨w.heap.size, 1, none⟩ (.slice A4 gs.length c4)).setCell ⟨w.heap.size, 2, none⟩ (.slice none 0 0) = w6 := ⟨_, rfl⟩
      try rw [hw6]
      have hk6 : Blk w6 w.heap.size 28 #[.int .i64 0, .slice A4 gs.length c4, .slice none 0 0] := by rw [← hw6]; exact ((HK5.out.put 0 _).put 1 _).put 2 _
      have g56 : w5.grownBy w6 (some w.heap.size) := by rw [← hw6]; exact gb_setCell (gb_setCell (gb_setCell (gb_refl w5 (some w.heap.size)) (p := ⟨w.heap.size, 0, none⟩) (.inl rfl) _) (p := ⟨w.heap.size, 1, none⟩) (.inl rfl) _) (p := ⟨w.heap.size, 2, none⟩) (.inl rfl) _
      have ho6 := HO5.out.trans (Out.of_gb (X := fun q => q = w.heap.size) g56 (fun q hq => by injection hq with hq; exact hq.symm)) (fun q hq e => by omega)
      have hc6 := HC5.out.grown g56 (fun x hx => .inr (by injection hx with hx; omega))
      have hr6 := own_keep HR5.out (fun q hq => g56.block q (own_lt HR5.out hq).2 (fun e => by have := (own_lt HR5.out hq).1; injection e with e; omega))
      have htg : TakeG bs k e 0 gs [] k2 0 := by simpa only [if_true] using HTG.out
      refine bodyPost_ret (v := .agg #[.int .i64 0, .slice A4 gs.length c4, .slice none 0 0]) ?_ rfl ⟨_, 0, gs, [], k2, 0, rfl, htg, ⟨A4, c4, none, 0, rfl, (Rd.of_own hr6).wide (by omega) (Nat.le_refl _), Rd.nil _ _ _⟩, hc6, ho6⟩
      exact results_cell_row rfl _ _ w.heap.size 28 _ (0, 0) _ rfl hk6 Try.underlying28 rfl (by kernel_rfl)
    · have hbe : (e4 == 0) = false := beq_eq_false_iff_ne.2 he
      rw [hbe] at HGD
      have HE := Lib.hid he
      clear hbe he
      go_wp2_with fail
      refine HGD.out.mono ?_
      rintro r w' ⟨rfl, rfl⟩
      clear HGD
      go_wp2_with fail
      obtain ⟨w6, hw6⟩ : ∃ w6, ((w5.setCell ⟨w.heap.size, 0, none⟩ (.int .i64 0)).setCell ⟨w.heap.size, 1, none⟩ (.slice none 0 0)).setCell ⟨w.heap.size, 2, none⟩ (.slice none 0 0) = w6 := ⟨_, rfl⟩
      try rw [hw6]
      have hk6 : Blk w6 w.heap.size 28 #[.int .i64 0, .slice none 0 0, .slice none 0 0] := by rw [← hw6]; exact ((HK5.out.put 0 _).put 1 _).put 2 _
      have g56 : w5.grownBy w6 (some w.heap.size) := by rw [← hw6]; exact gb_setCell (gb_setCell (gb_setCell (gb_refl w5 (some w.heap.size)) (p := ⟨w.heap.size, 0, none⟩) (.inl rfl) _) (p := ⟨w.heap.size, 1, none⟩) (.inl rfl) _) (p := ⟨w.heap.size, 2, none⟩) (.inl rfl) _
      have ho6 := HO5.out.trans (Out.of_gb (X := fun q => q = w.heap.size) g56 (fun q hq => by injection hq with hq; exact hq.symm)) (fun q hq e => by omega)
      have hc6 := HC5.out.grown g56 (fun x hx => .inr (by injection hx with hx; omega))
      have htg := HTG.out
      rw [if_neg HE.out] at htg
      refine bodyPost_ret (v := .agg #[.int .i64 0, .slice none 0 0, .slice none 0 0]) ?_ rfl ⟨_, 0, [], [], k2, e4, rfl, htg, ⟨none, 0, none, 0, rfl, Rd.nil _ _ _, Rd.nil _ _ _⟩, hc6, ho6⟩
      exact results_cell_row rfl _ _ w.heap.size 28 _ (0, 0) _ rfl hk6 Try.underlying28 rfl (by kernel_rfl)
  · have ib0 : ¬ (b : Int) = 0 := by omega
    have ib1 : ((b : Int) == 0) = false := beq_eq_false_iff_ne.2 ib0
    go_wp2_with fail
    obtain ⟨w3, hw3⟩ : ∃ w3, w2.alloc (.cells #[.int .i64 (b : Int), .slice none 0 0, .slice none 0 0] 28) = w3 := ⟨_, rfl⟩
    rw [hw3]
    have B23 : Below w2.heap.size w2 w3 := by rw [← hw3]; exact (Below.refl _ w2).alloc (Nat.le_refl _) _
    have HK3 := Lib.hid (HK2.out.below B23 (by omega))
    have HF3 : Hid (Blk w3 w2.heap.size 28 #[.int .i64 (b : Int), .slice none 0 0, .slice none 0 0]) := by unfold Hid; rw [← hw3]; exact Blk.new w2 _ _
    have HC3 := Lib.hid (HC2.out.behind B23 (by omega))
    have HO3 : Hid (Out w w3 (fun i => i = g)) := by
      unfold Hid
      rw [← hw3]
      exact ((Out.of_below (X := fun i => i = g) B1.out).trans (Out.of_gb (X := fun i => i = g) HG2.out (fun q hq => by injection hq with hq; exact hq.symm)) (fun _ _ h => h)).alloc _
    have s3 : w2.heap.size < w3.heap.size := by rw [← hw3]; simp
    obtain ⟨R, hR⟩ : ∃ R, breadR bs k1 e1 (b : Int) = R := ⟨_, rfl⟩
    obtain ⟨rs, k2, e2⟩ := R
    obtain ⟨e4, he4⟩ : ∃ e4, e4 = if rs.length = b then e2 else if e2 = 0 then 3 else e2 := ⟨_, rfl⟩
    have HTG := Lib.hid (take_set hkl (by omega) HMR.out hR e4 he4)
    have HLB : Hid (e4 = 0 → rs.length = b) := fun h => by
      rw [h] at he4
      split at he4
      · assumption
      · split at he4
        · exact absurd he4 (by decide)
        · rename_i h6; exact absurd he4.symm h6
    have HTK := Lib.hid (gtakeSet_any HC3.out hbs b hb rs k2 e2 hR e4 he4)
    unfold cp at HTK
    clear hw3 B23 hR he4
    refine HTK.out.mono ?_
    rintro r w4 ⟨A4, c4, rfl, ho4, hc4, hg4⟩
    have hF4 := HF3.out.grown hg4 (fun e => by injection e with e; omega)
    have HF4 := Lib.hid hF4
    have HK4 := Lib.hid (HK3.out.grown hg4 (fun e => by injection e with e; omega))
    have q1 := hF4.cell 2
    have f1 := hF4.frozen 2
    have HR4 := Lib.hid ho4
    have HC4 := Lib.hid hc4
    have HO4 := Lib.hid (HO3.out.trans (Out.of_gb (X := fun i => i = g) hg4 (fun q hq => by injection hq with hq; exact hq.symm)) (fun _ _ h => h))
    have s4 := hg4.size
    clear hF4 ho4 hc4 hg4 HTK
    go_wp2_with fail
    obtain ⟨w5, hw5⟩ : ∃ w5, w4.setCell ⟨w2.heap.size, 2, none⟩ (.slice A4 rs.length c4) = w5 := ⟨_, rfl⟩
    rw [hw5]
    have g45 : w4.grownBy w5 (some w2.heap.size) := by rw [← hw5]; exact gb_setCell (gb_refl w4 (some w2.heap.size)) (.inl rfl) _
    have hF5 : Blk w5 w2.heap.size 28 #[.int .i64 (b : Int), .slice none 0 0, .slice A4 rs.length c4] := by rw [← hw5]; exact HF4.out.put 2 _
    have HF5 := Lib.hid hF5
    have hK5 := HK4.out.grown g45 (fun e => by injection e with e; omega)
    have HK5 := Lib.hid hK5
    have HC5 := Lib.hid (HC4.out.grown g45 (fun x hx => .inr (by injection hx with hx; omega)))
    have HO5 : Hid (Out w w5 (fun i => i = g)) := by unfold Hid; rw [← hw5]; exact HO4.out.setCell (.inr (by show w.heap.size ≤ w2.heap.size; omega)) _
    have HR5 : Hid (w5.ownsRow w3.heap.size 4 1 (.slice A4 rs.length c4) rs.length (lv rs)) := by
      unfold Hid
      rw [← hw5]
      exact own_out HR4.out ((Out.refl w4 (fun q => q = w2.heap.size)).setCell (p := ⟨w2.heap.size, 2, none⟩) (.inl rfl) _) (fun q hq e => by have := own_lt HR4.out hq; omega)
    have s5 := g45.size
    have HGD := Lib.hid (good_any HC5.out)
    unfold cp at HGD
    have u0 := hF5.cell 0
    have u1 := hF5.cell 1
    have u2 := hF5.cell 2
    have v0 := hK5.cell 0
    have v1 := hK5.cell 1
    have v2 := hK5.cell 2
    have y0 := hK5.frozen 0
    have y1 := hK5.frozen 1
    have y2 := hK5.frozen 2
    clear hw5 g45 hF5 hK5 q1 f1
    by_cases he : e4 = 0
    · subst he
      go_wp2_with fail
      refine HGD.out.mono ?_
      rintro r w' ⟨rfl, rfl⟩
      clear HGD
      go_wp2_with fail
      obtain ⟨w6, hw6⟩ : ∃ w6, ((w5.setCell ⟨w.heap.size, 0, none⟩ (.int .i64 (b : Int))).setCell ⟨w.heap.size, 1, none⟩ (.slice none 0 0)).setCell ⟨w.heap.size, 2, none⟩ (.slice A4 rs.length c4) = w6 := ⟨_, rfl⟩
      try rw [hw6]
      have hk6 : Blk w6 w.heap.size 28 #[.int .i64 (b : Int), .slice none 0 0, .slice A4 rs.length c4] := by rw [← hw6]; exact ((HK5.out.put 0 _).put 1 _).put 2 _
      have g56 : w5.grownBy w6 (some w.heap.size) := by rw [← hw6]; exact gb_setCell (gb_setCell (gb_setCell (gb_refl w5 (some w.heap.size)) (p := ⟨w.heap.size, 0, none⟩) (.inl rfl) _) (p := ⟨w.heap.size, 1, none⟩) (.inl rfl) _) (p := ⟨w.heap.size, 2, none⟩) (.inl rfl) _
      have ho6 := HO5.out.trans (Out.of_gb (X := fun q => q = w.heap.size) g56 (fun q hq => by injection hq with hq; exact hq.symm)) (fun q hq e => by omega)
      have hc6 := HC5.out.grown g56 (fun x hx => .inr (by injection hx with hx; omega))
      have hr6 := own_keep HR5.out (fun q hq => g56.block q (own_lt HR5.out hq).2 (fun e => by have := (own_lt HR5.out hq).1; injection e with e; omega))
      have htg : TakeG bs k e b [] rs k2 0 := by simpa only [if_true] using HTG.out
      refine bodyPost_ret (v := .agg #[.int .i64 (b : Int), .slice none 0 0, .slice A4 rs.length c4]) ?_ rfl ⟨_, b, [], rs, k2, 0, rfl, htg, ⟨none, 0, A4, c4, rfl, Rd.nil _ _ _, (Rd.of_own hr6).wide (by omega) (Nat.le_refl _)⟩, hc6, ho6⟩
      exact results_cell_row rfl _ _ w.heap.size 28 _ (0, 0) _ rfl hk6 Try.underlying28 rfl (by kernel_rfl)
    · have hbe : (e4 == 0) = false := beq_eq_false_iff_ne.2 he
      rw [hbe] at HGD
      have HE := Lib.hid he
      clear hbe he
      go_wp2_with fail
      refine HGD.out.mono ?_
      rintro r w' ⟨rfl, rfl⟩
      clear HGD
      go_wp2_with fail
      obtain ⟨w6, hw6⟩ : ∃ w6, ((w5.setCell ⟨w.heap.size, 0, none⟩ (.int .i64 0)).setCell ⟨w.heap.size, 1, none⟩ (.slice none 0 0)).setCell ⟨w.heap.size, 2, none⟩ (.slice none 0 0) = w6 := ⟨_, rfl⟩
      try rw [hw6]
      have hk6 : Blk w6 w.heap.size 28 #[.int .i64 0, .slice none 0 0, .slice none 0 0] := by rw [← hw6]; exact ((HK5.out.put 0 _).put 1 _).put 2 _
      have g56 : w5.grownBy w6 (some w.heap.size) := by rw [← hw6]; exact gb_setCell (gb_setCell (gb_setCell (gb_refl w5 (some w.heap.size)) (p := ⟨w.heap.size, 0, none⟩) (.inl rfl) _) (p := ⟨w.heap.size, 1, none⟩) (.inl rfl) _) (p := ⟨w.heap.size, 2, none⟩) (.inl rfl) _
      have ho6 := HO5.out.trans (Out.of_gb (X := fun q => q = w.heap.size) g56 (fun q hq => by injection hq with hq; exact hq.symm)) (fun q hq e => by omega)
      have hc6 := HC5.out.grown g56 (fun x hx => .inr (by injection hx with hx; omega))
      have htg := HTG.out
      rw [if_neg HE.out, if_neg HE.out] at htg
      refine bodyPost_ret (v := .agg #[.int .i64 0, .slice none 0 0, .slice none 0 0]) ?_ rfl ⟨_, 0, [], [], k2, e4, rfl, htg, ⟨none, 0, none, 0, rfl, Rd.nil _ _ _, Rd.nil _ _ _⟩, hc6, ho6⟩
      exact results_cell_row rfl _ _ w.heap.size 28 _ (0, 0) _ rfl hk6 Try.underlying28 rfl (by kernel_rfl)
end Go.Proofs.Ytepgkdmfoojppaa
namespace Go.Proofs.Ytepgkdmfoojppaa
end Go.Proofs.Ytepgkdmfoojppaa
