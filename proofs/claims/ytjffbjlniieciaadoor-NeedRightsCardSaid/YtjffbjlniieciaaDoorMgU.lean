/-
  strings.Compare.
  The text package, what only reads: how two numbers compare, a byte folded, how many points a string has, where a point begins, a point of a rune.
  The text package, strings gone through by their runes: the next one.
  The library's contracts on what strings begin and end with, and on their first rune, laid at this program's numbers.
  strings.Contains, laid at this program's numbers; it asks one cell: the library's variable holds some number.
  The text package: the point of a rune; parts of strings; how strings compare, folded, and by points.
  The text package: how strings compare, folded.
  The text package: how strings compare by points.
-/
import Derived.Test.YtjffbjlniieciaaDoorRows
import Derived.Test.YtjffbjlniieciaaDoorCmpM
import Derived.Lib.Bytealg
import Derived.Lib.BytesEntry
import Derived.Test.YtjffbjlniieciaaDoorTxtN
import Derived.Outline
import Derived.BigQuiet
import Derived.Deep.QuietTactic
import Derived.Test.YtjffbjlniieciaaDoorRefY
import Derived.Lib.OthersKept
import Derived.Shelf.Small.Utf8
import Derived.Shelf.Strings.Prefix
import Derived.Shelf.Unicode.DecodeAny
import Derived.Lib.LaidU8
import Derived.Shelf.Strings.Search3
import Derived.Shelf.Vars
import Derived.Test.YtjffbjlniieciaaDoorMem
namespace Go.Proofs.YtjffbjlniieciaaDoor
set_option linter.unusedSimpArgs false
set_option linter.unusedVariables false
open Go.RowKit

theorem cmpL_lib : ∀ (a b : List UInt8), Lib.compareBytes a b = cmpL a b
  | [], [] => rfl
  | [], _ :: _ => rfl
  | _ :: _, [] => rfl
  | x :: a, y :: b => by
    unfold Lib.compareBytes cmpL
    rw [cmpL_lib a b]
    rfl

set_option maxRecDepth 100000 in
theorem compareString_any (a b : ByteArray) (w : World) :
    Calls Tryd.prog 89 #[.string a, .string b] w fun r w' => r = .returned (.int .i64 (cmpL a.data.toList b.data.toList)) ∧ w = w' := by
  go_enter Tryd.func89, Tryd.ntmps89
  go_wp2
  rw [run_callFunc_extern Tryd.func98 (by kernel_rfl) (by kernel_rfl) (by kernel_rfl) (e := Extern.BytealgCompare.compare) (by kernel_rfl), Lib.run_compareString, cmpL_lib]
  simp only [Result.andThen]
  rw [Oper.upon_value]
  go_wp2
  go_ret
  exact ⟨rfl, rfl⟩
theorem scompare_any (a b : ByteArray) (w : World) :
    Calls Tryd.prog 74 #[.string a, .string b] w fun r w' => r = .returned (.int .i64 (cmpL a.data.toList b.data.toList)) ∧ w = w' := by
  go_enter Tryd.func74, Tryd.ntmps74
  go_wp2_with (go_at_call 89; refine (compareString_any _ _ _).mono ?_; rintro e w' ⟨rfl, rfl⟩)
  go_ret
  exact ⟨rfl, rfl⟩

end Go.Proofs.YtjffbjlniieciaaDoor
namespace Go.Proofs.YtjffbjlniieciaaDoor
set_option linter.unusedSimpArgs false
set_option linter.unusedVariables false
open Go.RowKit

/-- how two numbers compare -/
def cmpI (x y : Int) : Int := if x < y then -1 else if y < x then 1 else 0
theorem cmpI_lt {x y : Int} (h : x < y) : cmpI x y = -1 := by unfold cmpI; rw [if_pos h]
theorem cmpI_gt {x y : Int} (h : y < x) : cmpI x y = 1 := by unfold cmpI; rw [if_neg (by omega), if_pos h]
theorem cmpI_eq {x y : Int} (h : x = y) : cmpI x y = 0 := by unfold cmpI; rw [if_neg (by omega), if_neg (by omega)]
theorem cmpI_zero {x y : Int} : cmpI x y = 0 ↔ x = y := by
  unfold cmpI
  split
  · constructor
    · intro h; cases h
    · omega
  · split
    · constructor
      · intro h; cases h
      · omega
    · constructor <;> intro <;> first | omega | rfl

theorem cmpInt_any {w : World} (x y : Int) :
    Calls Tryd.prog 86 #[.int .i64 x, .int .i64 y] w fun r w' => r = .returned (.int .i64 (cmpI x y)) ∧ w = w' := by
  rcases Int.lt_trichotomy x y with h | h | h
  · rw [cmpI_lt h]
    go_enter Tryd.func86, Tryd.ntmps86
    go_wp2
    go_ret
    first | exact ⟨rfl, rfl⟩ | trivial
  · rw [cmpI_eq h]
    subst h
    go_enter Tryd.func86, Tryd.ntmps86
    go_wp2
    go_ret
    first | exact ⟨rfl, rfl⟩ | trivial
  · rw [cmpI_gt h]
    have h2 : ¬ x < y := by omega
    go_enter Tryd.func86, Tryd.ntmps86
    go_wp2
    go_ret
    first | exact ⟨rfl, rfl⟩ | trivial

theorem cmpByte_any {w : World} (x y : Int) :
    Calls Tryd.prog 84 #[.int .u8 x, .int .u8 y] w fun r w' => r = .returned (.int .i64 (cmpI x y)) ∧ w = w' := by
  rcases Int.lt_trichotomy x y with h | h | h
  · rw [cmpI_lt h]
    go_enter Tryd.func84, Tryd.ntmps84
    go_wp2
    go_ret
    first | exact ⟨rfl, rfl⟩ | trivial
  · rw [cmpI_eq h]
    subst h
    go_enter Tryd.func84, Tryd.ntmps84
    go_wp2
    go_ret
    first | exact ⟨rfl, rfl⟩ | trivial
  · rw [cmpI_gt h]
    have h2 : ¬ x < y := by omega
    go_enter Tryd.func84, Tryd.ntmps84
    go_wp2
    go_ret
    first | exact ⟨rfl, rfl⟩ | trivial

theorem fold_any {w : World} (c : UInt8) :
    Calls Tryd.prog 85 #[.int .u8 (c.toNat : Int)] w fun r w' => r = .returned (.int .u8 ((foldB c).toNat : Int)) ∧ w = w' := by
  have hfb := foldB_nat c
  have hc : c.toNat < 256 := UInt8.toNat_lt _
  generalize (foldB c).toNat = f at *
  generalize c.toNat = x at *
  by_cases h1 : 65 ≤ x
  · by_cases h2 : x ≤ 90
    · rw [if_pos ⟨h1, h2⟩] at hfb
      have HF := Lib.hid hfb
      clear hfb
      go_enter Tryd.func85, Tryd.ntmps85
      go_wp2
      go_ret
      exact ⟨by rw [HF.out]; first | rfl | (simp; omega), rfl⟩
    · rw [if_neg (fun h => h2 h.2)] at hfb
      subst hfb
      go_enter Tryd.func85, Tryd.ntmps85
      go_wp2
      go_ret
      first | exact ⟨rfl, rfl⟩ | trivial
  · rw [if_neg (fun h => h1 h.1)] at hfb
    subst hfb
    go_enter Tryd.func85, Tryd.ntmps85
    go_wp2
    go_ret
    first | exact ⟨rfl, rfl⟩ | trivial
end Go.Proofs.YtjffbjlniieciaaDoor
namespace Go.Proofs.YtjffbjlniieciaaDoor
set_option linter.unusedSimpArgs false
set_option linter.unusedVariables false
open Go.RowKit

/-- a point that is none is one byte's -/
theorem ptN_bad {n b0 b1 b2 b3 : Nat} (h0 : b0 < 256) (h : 1114111 < (ptN n b0 b1 b2 b3).1) : ptN n b0 b1 b2 b3 = (1114112 + b0, 1) := by
  unfold ptN tailN at h ⊢
  repeat' split at h
  all_goals first
    | (simp only at h; omega)
    | (repeat' split
       all_goals first | rfl | (exfalso; omega))
theorem ptL_bad {l : List UInt8} (h : 1114111 < (ptL l).1) : ptL l = (1114112 + byt l 0, 1) := ptN_bad (byt_lt _ _) h
/-- the rune that stands for the first point -/
def runeL (l : List UInt8) : Nat := if (ptL l).1 ≤ 1114111 then (ptL l).1 else 65533
theorem runeL_le (l : List UInt8) : runeL l ≤ 1114111 := by unfold runeL; split <;> omega
theorem decode_run (s : ByteArray) (i : Nat) (hi : i < s.size) : Utf8.decode s i = (runeL (s.data.toList.drop i), (ptL (s.data.toList.drop i)).2) := by
  rw [decode_ptL s i hi]
  unfold runeL
  split
  · rfl
  · rw [ptL_bad (by omega)]
theorem drop_ne {s : ByteArray} {i : Nat} (h : i < s.size) : s.data.toList.drop i ≠ [] := fun e => by
  have := congrArg List.length e
  rw [List.length_drop, size_toL] at this
  simp at this
  omega
theorem pt_fits {s : ByteArray} {i : Nat} (h : i < s.size) : 1 ≤ (ptL (s.data.toList.drop i)).2 ∧ i + (ptL (s.data.toList.drop i)).2 ≤ s.size := by
  have h1 := ptL_pos (s.data.toList.drop i)
  have h2 := ptL_le (drop_ne h)
  rw [List.length_drop, size_toL] at h2
  omega
/-- a string's next rune, wherever its iterator stands -/
theorem next_any {w : World} {g : Nat} {s : ByteArray} {i : Nat} (hit : w.heap[g]? = some (.stringIter s i)) (h : i < s.size) (ty : TypeId) :
    (Instr.next (.pointer (some ⟨g, 0, none⟩)) true ty).run Tryd.prog w = .ok (.tuple #[.bool true, .int .i64 (i : Int), .int .i32 (runeL (s.data.toList.drop i) : Int)]) (w.iterAt g s (i + (ptL (s.data.toList.drop i)).2)) := by
  rw [Lib.run_next_any_at w g s i ty hit h, decode_run s i h]

end Go.Proofs.YtjffbjlniieciaaDoor
namespace Go.Proofs.YtjffbjlniieciaaDoor
set_option maxRecDepth 100000
open Go.RowKit

/-- this program's numbers of the shelf's functions, types and variables -/
def renu : Go.Shelf.Ren := ⟨fun | 99 => 57 | 100 => 58 | 197 => 87 | 206 => 75 | 207 => 76 | 260 => 97 | n => n, fun | 0 => 0 | 3 => 3 | 4 => 4 | 5 => 5 | 9 => 9 | 21 => 21 | 46 => 87 | 70 => 88 | 72 => 90 | 80 => 94 | 105 => 97 | 119 => 106 | 138 => 108 | 139 => 109 | n => n, fun | 3 => 1 | 4 => 2 | n => n⟩

theorem laysu99 : Go.Proofs.Lays.n99 Tryd.prog renu := {
  mixed := by kernel_rfl
  f99 := Tryd.func57.trans (congrArg some (by kernel_rfl))
  f206 := Tryd.func75.trans (congrArg some (by kernel_rfl))
  t3 := Tryd.underlying3
  a3 := Tryd.isAgg3
  z3 := Tryd.sizeOf3
  v3 := Tryd.zeroValue3
  t4 := Tryd.underlying4
  a4 := Tryd.isAgg4
  z4 := Tryd.sizeOf4
  v4 := Tryd.zeroValue4
  t9 := Tryd.underlying9
  a9 := Tryd.isAgg9
  z9 := Tryd.sizeOf9
  v9 := Tryd.zeroValue9 }

theorem laysu100 : Go.Proofs.Lays.n100 Tryd.prog renu := {
  mixed := by kernel_rfl
  f100 := Tryd.func58.trans (congrArg some (by kernel_rfl))
  f207 := Tryd.func76.trans (congrArg some (by kernel_rfl))
  t3 := Tryd.underlying3
  a3 := Tryd.isAgg3
  z3 := Tryd.sizeOf3
  v3 := Tryd.zeroValue3
  t4 := Tryd.underlying4
  a4 := Tryd.isAgg4
  z4 := Tryd.sizeOf4
  v4 := Tryd.zeroValue4
  t9 := Tryd.underlying9
  a9 := Tryd.isAgg9
  z9 := Tryd.sizeOf9
  v9 := Tryd.zeroValue9 }

theorem laysu197 : Go.Proofs.Lays.n197 Tryd.prog renu := {
  mixed := by kernel_rfl
  f197 := Tryd.func87.trans (congrArg some (by kernel_rfl))
  f260 := Tryd.func97.trans (congrArg some (by kernel_rfl))
  t0 := Tryd.underlying0
  a0 := Tryd.isAgg0
  z0 := Tryd.sizeOf0
  v0 := Tryd.zeroValue0
  t3 := Tryd.underlying3
  a3 := Tryd.isAgg3
  z3 := Tryd.sizeOf3
  v3 := Tryd.zeroValue3
  t4 := Tryd.underlying4
  a4 := Tryd.isAgg4
  z4 := Tryd.sizeOf4
  v4 := Tryd.zeroValue4
  t5 := Tryd.underlying5
  a5 := Tryd.isAgg5
  z5 := Tryd.sizeOf5
  v5 := Tryd.zeroValue5
  t9 := Tryd.underlying9
  a9 := Tryd.isAgg9
  z9 := Tryd.sizeOf9
  v9 := Tryd.zeroValue9
  t21 := Tryd.underlying21
  a21 := Tryd.isAgg21
  z21 := Tryd.sizeOf21
  v21 := Tryd.zeroValue21
  t46 := Tryd.underlying87
  a46 := Tryd.isAgg87
  z46 := Tryd.sizeOf87
  v46 := Tryd.zeroValue87
  t105 := Tryd.underlying97
  a105 := Tryd.isAgg97
  z105 := Tryd.sizeOf97
  v105 := Tryd.zeroValue97
  t119 := Tryd.underlying106
  a119 := Tryd.isAgg106
  z119 := Tryd.sizeOf106
  t138 := Tryd.underlying108
  a138 := Tryd.isAgg108
  z138 := Tryd.sizeOf108
  v138 := Tryd.zeroValue108
  t139 := Tryd.underlying109
  a139 := Tryd.isAgg109
  z139 := Tryd.sizeOf109
  v139 := Tryd.zeroValue109
  g3 := by kernel_rfl
  g4 := by kernel_rfl }

theorem laysu260 : Go.Proofs.Lays.n260 Tryd.prog renu := {
  mixed := by kernel_rfl
  f260 := Tryd.func97.trans (congrArg some (by kernel_rfl))
  t0 := Tryd.underlying0
  a0 := Tryd.isAgg0
  z0 := Tryd.sizeOf0
  v0 := Tryd.zeroValue0
  t3 := Tryd.underlying3
  a3 := Tryd.isAgg3
  z3 := Tryd.sizeOf3
  v3 := Tryd.zeroValue3
  t4 := Tryd.underlying4
  a4 := Tryd.isAgg4
  z4 := Tryd.sizeOf4
  v4 := Tryd.zeroValue4
  t5 := Tryd.underlying5
  a5 := Tryd.isAgg5
  z5 := Tryd.sizeOf5
  v5 := Tryd.zeroValue5
  t9 := Tryd.underlying9
  a9 := Tryd.isAgg9
  z9 := Tryd.sizeOf9
  v9 := Tryd.zeroValue9
  t21 := Tryd.underlying21
  a21 := Tryd.isAgg21
  z21 := Tryd.sizeOf21
  v21 := Tryd.zeroValue21
  t46 := Tryd.underlying87
  a46 := Tryd.isAgg87
  z46 := Tryd.sizeOf87
  v46 := Tryd.zeroValue87
  t119 := Tryd.underlying106
  a119 := Tryd.isAgg106
  z119 := Tryd.sizeOf106
  t138 := Tryd.underlying108
  a138 := Tryd.isAgg108
  z138 := Tryd.sizeOf108
  v138 := Tryd.zeroValue108
  t139 := Tryd.underlying109
  a139 := Tryd.isAgg109
  z139 := Tryd.sizeOf109
  v139 := Tryd.zeroValue109
  g3 := by kernel_rfl
  g4 := by kernel_rfl }

theorem u8extra : U8Extra Tryd.prog renu := ⟨by kernel_rfl, by kernel_rfl, by kernel_rfl, by kernel_rfl, by kernel_rfl, by kernel_rfl, by kernel_rfl⟩
/-- utf8's two tables -/
def Tabs (w : World) : Prop := Lib.Utf8Tabs 1 2 w
theorem prefix_any {w : World} (s p : ByteArray) :
    Calls Tryd.prog 57 #[.string s, .string p] w fun e w' => e = .returned (.bool (Lib.hasPrefix s.data.toList p.data.toList)) ∧ w' = w := Any.strings_HasPrefix laysu99 s p w
theorem suffix_any {w : World} (s p : ByteArray) (hs : s.size ≤ 9223372036854775807) :
    Calls Tryd.prog 58 #[.string s, .string p] w fun e w' => e = .returned (.bool (Lib.hasSuffix s.data.toList p.data.toList)) ∧ w' = w := Any.strings_HasSuffix laysu100 s p w hs
theorem decode_any {w : World} (s : ByteArray) (hT : Tabs w) :
    Calls Tryd.prog 87 #[.string s] w fun e w' => e = .returned (.tuple #[.int .i32 (Lib.decodeGo s).1, .int .i64 (Lib.decodeGo s).2]) ∧ Below w.heap.size w w' := Any.utf8_DecodeRuneInString laysu197 s w hT
theorem cell_lt {w : World} {a : Addr} {v : Value} (h : w.cell? a = some v) : a.block < w.heap.size := by
  rcases Nat.lt_or_ge a.block w.heap.size with h1 | h1
  · exact h1
  · simp [World.cell?, Array.getElem?_eq_none h1] at h
theorem Tabs.size {w : World} (h : Tabs w) : 1 < w.heap.size ∧ 2 < w.heap.size := ⟨cell_lt (h.1 0 (by omega)), cell_lt (h.2 0 (by omega)).1⟩
theorem Tabs.below {w w' : World} {B : Nat} (h : Tabs w) (hb : Below B w w') (hB : 1 < B ∧ 2 < B) : Tabs w' :=
  ⟨fun c hc => (hb.cell (by simp only; omega)).trans (h.1 c hc), fun i hi => ⟨(hb.cell (by simp only; omega)).trans (h.2 i hi).1, (hb.cell (by simp only; omega)).trans (h.2 i hi).2⟩⟩
theorem Tabs.on {w w' : World} (h : Tabs w) (hb : Below w.heap.size w w') : Tabs w' := h.below hb h.size
end Go.Proofs.YtjffbjlniieciaaDoor
namespace Go.Proofs.YtjffbjlniieciaaDoor
set_option maxRecDepth 100000
set_option linter.unusedSimpArgs false
set_option linter.unusedVariables false
open Go.RowKit

/-- this program's numbers of the shelf's functions, types and variables (Lays) -/
def ren4 : Go.Shelf.Ren := ⟨fun | 143 => 77 | 144 => 59 | 217 => 99 | 219 => 90 | 224 => 101 | 225 => 100 | 266 => 104 | 267 => 102 | 314 => 105 | n => n, fun | 3 => 3 | 4 => 4 | 5 => 5 | 9 => 9 | 46 => 87 | 51 => 110 | 146 => 111 | n => n, fun | 1 => 0 | n => n⟩

theorem lays144 : Go.Proofs.Lays.n144 Tryd.prog ren4 := {
  mixed := by kernel_rfl
  f143 := Tryd.func77.trans (congrArg some (by kernel_rfl))
  f144 := Tryd.func59.trans (congrArg some (by kernel_rfl))
  f217 := Tryd.func99.trans (congrArg some (by kernel_rfl))
  f219 := Tryd.func90.trans (congrArg some (by kernel_rfl))
  f224 := Tryd.func101.trans (congrArg some (by kernel_rfl))
  f225 := Tryd.func100.trans (congrArg some (by kernel_rfl))
  f266 := Tryd.func104.trans (congrArg some (by kernel_rfl))
  f267 := Tryd.func102.trans (congrArg some (by kernel_rfl))
  f314 := Tryd.func105.trans (congrArg some (by kernel_rfl))
  t3 := Tryd.underlying3
  a3 := Tryd.isAgg3
  z3 := Tryd.sizeOf3
  v3 := Tryd.zeroValue3
  t4 := Tryd.underlying4
  a4 := Tryd.isAgg4
  z4 := Tryd.sizeOf4
  v4 := Tryd.zeroValue4
  t5 := Tryd.underlying5
  a5 := Tryd.isAgg5
  z5 := Tryd.sizeOf5
  v5 := Tryd.zeroValue5
  t9 := Tryd.underlying9
  a9 := Tryd.isAgg9
  z9 := Tryd.sizeOf9
  v9 := Tryd.zeroValue9
  t46 := Tryd.underlying87
  a46 := Tryd.isAgg87
  z46 := Tryd.sizeOf87
  v46 := Tryd.zeroValue87
  t51 := Tryd.underlying110
  a51 := Tryd.isAgg110
  z51 := Tryd.sizeOf110
  v51 := Tryd.zeroValue110
  t146 := Tryd.underlying111
  a146 := Tryd.isAgg111
  z146 := Tryd.sizeOf111
  v146 := Tryd.zeroValue111
  g1 := by kernel_rfl }

/-- the library's variable holds some number -/
def MaxLenIs (m : Int) (w : World) : Prop := w.cell? ⟨0, 0, none⟩ = some (.int .i64 m)
theorem maxlen_of {w : World} (h : w.ShapedOpen Tryd.prog) : ∃ m, MaxLenIs m w :=
  Go.Proofs.cell_of_shapedOpen_int (zero := #[.int .i64 0]) (t := 3) h (of_decide_eq_true (by kernel_rfl)) (by kernel_rfl) rfl (by kernel_rfl) (by kernel_rfl) Tryd.underlying3
theorem cell_lt' {w : World} {a : Addr} {v : Value} (h : w.cell? a = some v) : a.block < w.heap.size := World.block_lt_of_cell? w _ h
theorem MaxLenIs.on {m : Int} {w w' : World} (h : MaxLenIs m w) (hb : Below w.heap.size w w') : MaxLenIs m w' := (hb.cell (cell_lt' h)).trans h
theorem contains_any {w : World} (s t : ByteArray) (m : Int) (hs : s.size < 4294967281) (hm : MaxLenIs m w) :
    Calls Tryd.prog 59 #[.string s, .string t] w fun e w' => e = .returned (.bool (Lib.contains s.data.toList t.data.toList)) ∧ w' = w := Any.strings_Contains lays144 s t m w hs hm
end Go.Proofs.YtjffbjlniieciaaDoor
namespace Go.Proofs.YtjffbjlniieciaaDoor
set_option linter.unusedSimpArgs false
set_option linter.unusedVariables false
open Go.RowKit

/-- the rune that stands for none stands there itself just if its three bytes do -/
theorem fffd_iff (l : List UInt8) : Lib.hasPrefix l [239, 191, 189] = decide ((ptL l).1 = 65533) := by
  by_cases h : (ptL l).1 = 65533
  · rw [decide_eq_true h]
    by_cases hl : l = []
    · subst hl
      cases h
    · have he := enc_ptL hl
      rw [h] at he
      have hb : encL 65533 = [239, 191, 189] := by decide
      rw [hb] at he
      unfold Lib.hasPrefix
      rw [List.isPrefixOf_iff_prefix, he]
      exact List.take_prefix _ _
  · rw [decide_eq_false h]
    cases hp : Lib.hasPrefix l [239, 191, 189] with
    | false => rfl
    | true =>
      exfalso
      unfold Lib.hasPrefix at hp
      rw [List.isPrefixOf_iff_prefix] at hp
      obtain ⟨t, rfl⟩ := hp
      exact h (by simp [ptL, ptN, tailN, byt])
theorem fffd_yes {w : World} (s : ByteArray) (h : (ptL s.data.toList).1 = 65533) :
    Calls Tryd.prog 57 #[.string s, .string ⟨#[239, 191, 189]⟩] w fun e w' => e = .returned (.bool true) ∧ w' = w := by
  refine (prefix_any s ⟨#[239, 191, 189]⟩).mono ?_
  rintro r w' ⟨rfl, rfl⟩
  exact ⟨by rw [show Lib.hasPrefix s.data.toList (⟨#[239, 191, 189]⟩ : ByteArray).data.toList = true from (fffd_iff _).trans (decide_eq_true h)], rfl⟩
theorem fffd_no {w : World} (s : ByteArray) (h : (ptL s.data.toList).1 ≠ 65533) :
    Calls Tryd.prog 57 #[.string s, .string ⟨#[239, 191, 189]⟩] w fun e w' => e = .returned (.bool false) ∧ w' = w := by
  refine (prefix_any s ⟨#[239, 191, 189]⟩).mono ?_
  rintro r w' ⟨rfl, rfl⟩
  exact ⟨by rw [show Lib.hasPrefix s.data.toList (⟨#[239, 191, 189]⟩ : ByteArray).data.toList = false from (fffd_iff _).trans (decide_eq_false h)], rfl⟩

theorem pnt_any {w : World} (s : ByteArray) (h0 : 0 < s.size) :
    Calls Tryd.prog 88 #[.string s, .int .i32 (runeL s.data.toList : Int)] w fun r w' => r = .returned (.int .i64 ((ptL s.data.toList).1 : Int)) ∧ w = w' := by
  by_cases h1 : (ptL s.data.toList).1 ≤ 1114111
  · have hr : runeL s.data.toList = (ptL s.data.toList).1 := by unfold runeL; rw [if_pos h1]
    rw [hr]
    by_cases h2 : (ptL s.data.toList).1 = 65533
    · have HY := fun w => fffd_yes (w := w) s h2
      have HYH := Lib.hid HY
      clear HY
      rw [h2]
      clear h1 hr h2
      go_enter Tryd.func88, Tryd.ntmps88
      go_wp2_with fail
      refine (HYH.out _).mono ?_
      rintro r w1 ⟨rfl, rfl⟩
      go_wp2
      go_ret
      first | exact ⟨rfl, rfl⟩ | trivial
    · generalize (ptL s.data.toList).1 = p at *
      have ip : ¬ (p : Int) = 65533 := by omega
      have ip2 : (p : Int) ≤ 1114111 := by omega
      go_enter Tryd.func88, Tryd.ntmps88
      go_wp2
      go_ret
      first | exact ⟨rfl, rfl⟩ | exact ⟨by go_num, rfl⟩
  · have hr : runeL s.data.toList = 65533 := by unfold runeL; rw [if_neg h1]
    have hb := ptL_bad (l := s.data.toList) (by omega)
    have h2 : (ptL s.data.toList).1 ≠ 65533 := by omega
    have HN := fun w => fffd_no (w := w) s h2
    have HNH := Lib.hid HN
    have hb1 : (ptL s.data.toList).1 = 1114112 + s[0].toNat := by
      rw [hb]
      show 1114112 + byt s.data.toList 0 = _
      rw [byt_get (by rw [size_toL]; exact h0)]
      rfl
    rw [hr, hb1]
    clear HN h1 h2 hb hb1 hr
    have lk : s[0].toNat < 256 := UInt8.toNat_lt _
    have i0 : (0 : Int) < (s.size : Int) := by omega
    go_enter Tryd.func88, Tryd.ntmps88
    go_wp2_with fail
    refine (HNH.out _).mono ?_
    rintro r w1 ⟨rfl, rfl⟩
    go_wp2
    go_ret
    first | exact ⟨rfl, rfl⟩ | exact ⟨by go_num, rfl⟩
end Go.Proofs.YtjffbjlniieciaaDoor
namespace Go.Proofs.YtjffbjlniieciaaDoor
set_option linter.unusedSimpArgs false
set_option linter.unusedVariables false
open Go.RowKit

theorem below_on {w w1 w2 : World} (h : Below w.heap.size w w1) (k : Below w1.heap.size w1 w2) : Below w.heap.size w w2 := h.trans (k.mono h.size)
theorem str_eq {t : ByteArray} {l : List UInt8} (h : t.data.toList = l) : t = ⟨l.toArray⟩ := by subst h; rfl

theorem fold_at (l : List UInt8) (k : Nat) (h : k < l.length) : (foldL l)[k]'(by rw [foldL_length]; exact h) = foldB l[k] := by simp [foldL]
theorem cmpByte_lt {w : World} {x y : Int} (h : x < y) : Calls Tryd.prog 84 #[.int .u8 x, .int .u8 y] w fun r w' => r = .returned (.int .i64 (-1)) ∧ w = w' := by rw [← cmpI_lt h]; exact cmpByte_any x y
theorem cmpByte_gt {w : World} {x y : Int} (h : y < x) : Calls Tryd.prog 84 #[.int .u8 x, .int .u8 y] w fun r w' => r = .returned (.int .i64 1) ∧ w = w' := by rw [← cmpI_gt h]; exact cmpByte_any x y
theorem cmpByte_eq {w : World} {x y : Int} (h : x = y) : Calls Tryd.prog 84 #[.int .u8 x, .int .u8 y] w fun r w' => r = .returned (.int .i64 0) ∧ w = w' := by rw [← cmpI_eq h]; exact cmpByte_any x y

set_option maxRecDepth 20000 in
set_option maxHeartbeats 1000000 in
theorem byFold_any {w : World} (a b : ByteArray) (ha : a.size ≤ 1000000) (hb : b.size ≤ 1000000) :
    Calls Tryd.prog 72 #[.string a, .string b] w fun r w' => r = .returned (.int .i64 (cmpL (foldL a.data.toList) (foldL b.data.toList))) ∧ Below w.heap.size w w' := by
  obtain ⟨v, hv⟩ : ∃ v, cmpL (foldL a.data.toList) (foldL b.data.toList) = v := ⟨_, rfl⟩
  rw [hv]
  have hsa : (foldL a.data.toList).length = a.size := by rw [foldL_length, size_toL]
  have hsb : (foldL b.data.toList).length = b.size := by rw [foldL_length, size_toL]
  have fa : ∀ k (h : k < a.size), (foldL a.data.toList)[k]'(by rw [hsa]; exact h) = foldB a[k] := fun k h => fold_at _ k (by rw [size_toL]; exact h)
  have fb : ∀ k (h : k < b.size), (foldL b.data.toList)[k]'(by rw [hsb]; exact h) = foldB b[k] := fun k h => fold_at _ k (by rw [size_toL]; exact h)
  have HAT : Hid (∀ k (h1 : k < a.size) (h2 : k < b.size), (foldL a.data.toList).take k = (foldL b.data.toList).take k → foldB a[k] ≠ foldB b[k] → v = if (foldB a[k]).toNat < (foldB b[k]).toNat then -1 else 1) := fun k h1 h2 ht hne => by
    rw [← hv, cmpL_at ht (by omega) (by omega) (by rw [fa k h1, fb k h2]; exact hne), fa k h1, fb k h2]
  have HNX : Hid (∀ k (h1 : k < a.size) (h2 : k < b.size), (foldL a.data.toList).take k = (foldL b.data.toList).take k → foldB a[k] = foldB b[k] → (foldL a.data.toList).take (k + 1) = (foldL b.data.toList).take (k + 1)) := fun k h1 h2 ht he => by
    rw [List.take_succ_eq_append_getElem (by omega), List.take_succ_eq_append_getElem (by omega), ht, fa k h1, fb k h2, he]
  have HEND : Hid (∀ k, (foldL a.data.toList).take k = (foldL b.data.toList).take k → k = min a.size b.size → v = cmpI a.size b.size) := fun k ht hk => by
    rw [← hv, cmpL_end ht (by rw [hsa, hsb]; exact hk), hsa, hsb]
    unfold cmpI
    simp only [Int.ofNat_lt]
  clear hv hsa hsb fa fb
  rcases Nat.lt_or_ge b.size a.size with hlt | hlt
  all_goals
    go_enter Tryd.func72, Tryd.ntmps72
    go_wp2_with fail
    go_loopw [12] (fun x12 wr => ∃ k m : Nat, k ≤ a.size ∧ k ≤ b.size ∧ x12 = .int .i64 (k : Int) ∧ (foldL a.data.toList).take k = (foldL b.data.toList).take k ∧ wr = w.drewN m) (fun i _ => a.size - (intOf i).toNat)
    case atStart => exact ⟨0, 0, by omega, by omega, rfl, by simp, rfl⟩
    case round =>
      obtain ⟨k, m, hka, hkb, rfl, ht, rfl⟩ := hrel
      have HT := Lib.hid ht
      clear ht
      by_cases hl : k < a.size ∧ k < b.size
      · obtain ⟨h1, h2⟩ := hl
        have i1 : (k : Int) < (a.size : Int) := by omega
        have i2 : (k : Int) < (b.size : Int) := by omega
        have HA := Lib.hid (HAT.out k h1 h2 HT.out)
        have HN := Lib.hid (HNX.out k h1 h2 HT.out)
        clear HAT HNX
        have HF : Hid (∀ (w : World) (c : UInt8), Calls Tryd.prog 85 #[.int .u8 (c.toNat : Int)] w fun r w' => r = .returned (.int .u8 ((foldB c).toNat : Int)) ∧ w = w') := fun w c => fold_any c
        rcases Nat.lt_trichotomy (foldB a[k]).toNat (foldB b[k]).toNat with h3 | h3 | h3
        · have HC : Hid (∀ w, Calls Tryd.prog 84 #[.int .u8 ((foldB a[k]).toNat : Int), .int .u8 ((foldB b[k]).toNat : Int)] w fun r w' => r = .returned (.int .i64 (-1)) ∧ w = w') := fun w => cmpByte_lt (by omega)
          go_wp2_with fail
          go_quiet (first | (go_at_call 85; exact quiet_pure_on (HF.out _ _)) | (go_at_call 84; exact quiet_pure_on (HC.out _)))
          go_wp2_with fail
          go_ret
          exact ⟨ret_int' (by rw [HA.out (fun e => by rw [e] at h3; omega), if_pos h3]), below_drewN' (Below.refl _ _) _⟩
        · have he := UInt8.toNat_inj.1 h3
          have HC : Hid (∀ w, Calls Tryd.prog 84 #[.int .u8 ((foldB a[k]).toNat : Int), .int .u8 ((foldB b[k]).toNat : Int)] w fun r w' => r = .returned (.int .i64 0) ∧ w = w') := fun w => cmpByte_eq (by omega)
          have HE := Lib.hid he
          clear he h3
          go_wp2_with fail
          go_quiet (first | (go_at_call 85; exact quiet_pure_on (HF.out _ _)) | (go_at_call 84; exact quiet_pure_on (HC.out _)))
          go_wp2_with fail
          go_roundw
          case rel => exact ⟨k + 1, _, by omega, by omega, by go_num, HN.out HE.out, by first | rfl | (rw [World.drewN_drewN])⟩
          case measure => simp [intOf]; omega
        · have HC : Hid (∀ w, Calls Tryd.prog 84 #[.int .u8 ((foldB a[k]).toNat : Int), .int .u8 ((foldB b[k]).toNat : Int)] w fun r w' => r = .returned (.int .i64 1) ∧ w = w') := fun w => cmpByte_gt (by omega)
          go_wp2_with fail
          go_quiet (first | (go_at_call 85; exact quiet_pure_on (HF.out _ _)) | (go_at_call 84; exact quiet_pure_on (HC.out _)))
          go_wp2_with fail
          go_ret
          exact ⟨ret_int' (by rw [HA.out (fun e => by rw [e] at h3; omega), if_neg (by omega)]), below_drewN' (Below.refl _ _) _⟩
      · have hk : k = min a.size b.size := by omega
        have HV := Lib.hid (HEND.out k HT.out hk)
        have hnl : ¬ (k : Int) < min (a.size : Int) (b.size : Int) := by omega
        have hci := fun w => cmpInt_any (w := w) (a.size : Int) (b.size : Int)
        have HCI := Lib.hid hci
        clear hci
        go_wp2_with fail
        refine (HCI.out _).mono ?_
        rintro r w1 ⟨rfl, rfl⟩
        go_wp2_with fail
        go_ret
        exact ⟨ret_int' HV.out.symm, below_drewN' (Below.refl _ _) _⟩
end Go.Proofs.YtjffbjlniieciaaDoor
namespace Go.Proofs.YtjffbjlniieciaaDoor
set_option linter.unusedSimpArgs false
set_option linter.unusedVariables false
open Go.RowKit

/-- a point tells how many bytes it has -/
theorem width_eq {a b : List UInt8} (ha : a ≠ []) (hb : b ≠ []) (h : (ptL a).1 = (ptL b).1) : (ptL a).2 = (ptL b).2 := by
  have h1 := congrArg List.length (enc_ptL ha)
  have h2 := congrArg List.length (enc_ptL hb)
  rw [List.length_take, Nat.min_eq_left (ptL_le ha)] at h1
  rw [List.length_take, Nat.min_eq_left (ptL_le hb), ← h] at h2
  omega
theorem ext_size (s : ByteArray) (k : Nat) : (s.extract k s.size).size = s.size - k := by rw [← size_toL, ext_toL, List.length_drop, size_toL]
theorem decodeGo_run (s : ByteArray) (h : 0 < s.size) : Lib.decodeGo s = (runeL s.data.toList, (ptL s.data.toList).2) := by
  unfold Lib.decodeGo
  rw [if_neg (by omega), decode_run s 0 h, List.drop_zero]
/-- the first rune of what is left of a string -/
theorem rest_rune {w : World} (s : ByteArray) (i : Nat) (h : i < s.size) (hT : Tabs w) :
    Calls Tryd.prog 87 #[.string (s.extract i s.size)] w fun e w' => e = .returned (.tuple #[.int .i32 (runeL (s.data.toList.drop i) : Int), .int .i64 ((ptL (s.data.toList.drop i)).2 : Int)]) ∧ Below w.heap.size w w' := by
  refine (decode_any (s.extract i s.size) hT).mono ?_
  rintro r w' ⟨rfl, hb⟩
  rw [decodeGo_run _ (by rw [ext_size]; omega), ext_toL]
  exact ⟨rfl, hb⟩
theorem rest_point {w : World} (s : ByteArray) (i : Nat) (h : i < s.size) :
    Calls Tryd.prog 88 #[.string (s.extract i s.size), .int .i32 (runeL (s.data.toList.drop i) : Int)] w fun r w' => r = .returned (.int .i64 ((ptL (s.data.toList.drop i)).1 : Int)) ∧ w = w' := by
  have := pnt_any (w := w) (s.extract i s.size) (by rw [ext_size]; omega)
  rw [ext_toL] at this
  exact this
theorem cmpP_nil_pts (l : List UInt8) : cmpP [] (ptsL l) = if l = [] then 0 else -1 := by
  by_cases h : l = []
  · subst h; rfl
  · rw [if_neg h, ptsL_cons h]; rfl
theorem cmpP_pts_nil {l : List UInt8} (h : l ≠ []) : cmpP (ptsL l) (ptsL []) = 1 := by rw [ptsL_cons h]; rfl
theorem cmpP_pts_cons {a b : List UInt8} (ha : a ≠ []) (hb : b ≠ []) : cmpP (ptsL a) (ptsL b) = if (ptL a).1 < (ptL b).1 then -1 else if (ptL b).1 < (ptL a).1 then 1 else cmpP (ptsL (a.drop (ptL a).2)) (ptsL (b.drop (ptL b).2)) := by
  rw [ptsL_cons ha, ptsL_cons hb]; rfl

set_option maxRecDepth 20000 in
set_option maxHeartbeats 2000000 in
theorem byPoints_any {w : World} (a b : ByteArray) (ha : a.size ≤ 1000000) (hb : b.size ≤ 1000000) (hT : Tabs w) :
    Calls Tryd.prog 73 #[.string a, .string b] w fun r w' => r = .returned (.int .i64 (cmpP (ptsL a.data.toList) (ptsL b.data.toList))) ∧ Below w.heap.size w w' := by
  obtain ⟨v, hv⟩ : ∃ v, cmpP (ptsL a.data.toList) (ptsL b.data.toList) = v := ⟨_, rfl⟩
  rw [hv]
  have hws := hT.size
  have HT := Lib.hid hT
  clear hT
  go_enter Tryd.func73, Tryd.ntmps73
  go_wp2_with fail
  go_loopw [] (fun wr => ∃ i : Nat, wr.heap[w.heap.size]? = some (.stringIter a i) ∧ i ≤ a.size ∧ i ≤ b.size ∧ cmpP (ptsL (a.data.toList.drop i)) (ptsL (b.data.toList.drop i)) = v ∧ Below w.heap.size w wr) (fun wr => a.size - wr.iterPos w.heap.size)
  case atStart => exact ⟨0, World.iter_heap w a 0, Nat.zero_le _, Nat.zero_le _, by rw [← hv]; simp, (Below.refl _ w).alloc (Nat.le_refl _) _⟩
  case round =>
    obtain ⟨i, hit, hia, hib, hinv, hbw⟩ := hrel
    have HI := Lib.hid hinv
    clear hinv
    by_cases hp : i < a.size
    · have hnx := fun ty => next_any hit hp ty
      have hk := pt_fits hp
      have hit2 := Lib.iterAt_heap wr _ a i (i + (ptL (a.data.toList.drop i)).2) hit
      have hb2 := Lib.below_iterAt hbw (Nat.le_refl _) a (i + (ptL (a.data.toList.drop i)).2)
      have hsz2 : w.heap.size < (wr.iterAt w.heap.size a (i + (ptL (a.data.toList.drop i)).2)).heap.size := by rw [Lib.iterAt_size]; exact (Array.getElem?_eq_some_iff.1 hit).1
      have hT2 : Tabs (wr.iterAt w.heap.size a (i + (ptL (a.data.toList.drop i)).2)) := HT.out.below hb2 hws
      generalize wr.iterAt w.heap.size a (i + (ptL (a.data.toList.drop i)).2) = w2 at *
      have HIT := Lib.hid hit2
      have HB := Lib.hid hb2
      have HT2 := Lib.hid hT2
      clear hit2 hb2 hT2
      have ia : (i : Int) ≤ (a.size : Int) := by omega
      have ib : (i : Int) ≤ (b.size : Int) := by omega
      by_cases hq : i < b.size
      · have HCC := Lib.hid (cmpP_pts_cons (drop_ne hp) (drop_ne hq))
        have hkb := pt_fits hq
        have HRB := Lib.hid (fun w hT => rest_rune (w := w) b i hq hT)
        have HPA := Lib.hid (fun w => rest_point (w := w) a i hp)
        have HPB := Lib.hid (fun w => rest_point (w := w) b i hq)
        have hwe := width_eq (drop_ne hp) (drop_ne hq)
        have hne : (b.extract i b.size).toList.isEmpty = false := by rw [Lib.toList_data, ext_toL]; exact List.isEmpty_eq_false_iff.2 (drop_ne hq)
        generalize runeL (a.data.toList.drop i) = ra at *
        generalize runeL (b.data.toList.drop i) = rb at *
        generalize (ptL (a.data.toList.drop i)).1 = p at *
        generalize (ptL (b.data.toList.drop i)).1 = q at *
        generalize (ptL (a.data.toList.drop i)).2 = ka at *
        generalize (ptL (b.data.toList.drop i)).2 = kb at *
        have HWE := Lib.hid hwe
        clear hwe
        go_wp2_with fail
        refine (HRB.out w2 HT2.out).mono ?_
        rintro r w3 ⟨rfl, b3⟩
        have hit3 : w3.heap[w.heap.size]? = some (.stringIter a (i + ka)) := (b3.block _ hsz2).trans HIT.out
        have HIT3 := Lib.hid hit3
        have HB3 := Lib.hid (HB.out.trans (b3.mono (Nat.le_of_lt hsz2)))
        clear hit3 b3
        rcases Nat.lt_trichotomy p q with h3 | h3 | h3
        · have hcv : v = -1 := by rw [← HI.out, HCC.out, if_pos h3]
          have HCV := Lib.hid hcv
          clear hcv
          have HC : Hid (∀ w, Calls Tryd.prog 86 #[.int .i64 (p : Int), .int .i64 (q : Int)] w fun r w' => r = .returned (.int .i64 (-1)) ∧ w = w') := fun w => by rw [← cmpI_lt (x := (p : Int)) (y := (q : Int)) (by omega)]; exact cmpInt_any _ _
          go_wp2_with fail
          refine (HPA.out _).mono ?_
          rintro r w4 ⟨rfl, rfl⟩
          go_wp2_with fail
          refine (HPB.out _).mono ?_
          rintro r w4 ⟨rfl, rfl⟩
          go_wp2_with fail
          refine (HC.out _).mono ?_
          rintro r w4 ⟨rfl, rfl⟩
          go_wp2_with fail
          go_ret
          exact ⟨ret_int' HCV.out.symm, HB3.out⟩
        · have HPQ := Lib.hid h3
          have HC : Hid (∀ w, Calls Tryd.prog 86 #[.int .i64 (p : Int), .int .i64 (q : Int)] w fun r w' => r = .returned (.int .i64 0) ∧ w = w') := fun w => by rw [← cmpI_eq (x := (p : Int)) (y := (q : Int)) (by omega)]; exact cmpInt_any _ _
          clear h3
          go_wp2_with fail
          refine (HPA.out _).mono ?_
          rintro r w4 ⟨rfl, rfl⟩
          go_wp2_with fail
          refine (HPB.out _).mono ?_
          rintro r w4 ⟨rfl, rfl⟩
          go_wp2_with fail
          refine (HC.out _).mono ?_
          rintro r w4 ⟨rfl, rfl⟩
          go_wp2_with fail
          go_roundw
          case rel =>
            have hkk := HWE.out HPQ.out
            refine ⟨i + ka, HIT3.out, by omega, by omega, ?_, HB3.out⟩
            have h5 := HCC.out
            have h6 := HPQ.out
            rw [if_neg (by omega), if_neg (by omega), List.drop_drop, List.drop_drop, ← hkk] at h5
            rw [← h5]
            exact HI.out
          case measure =>
            simp only [World.iterPos, HIT3.out, hit]
            omega
        · have hcv : v = 1 := by rw [← HI.out, HCC.out, if_neg (by omega), if_pos h3]
          have HCV := Lib.hid hcv
          clear hcv
          have HC : Hid (∀ w, Calls Tryd.prog 86 #[.int .i64 (p : Int), .int .i64 (q : Int)] w fun r w' => r = .returned (.int .i64 1) ∧ w = w') := fun w => by rw [← cmpI_gt (x := (p : Int)) (y := (q : Int)) (by omega)]; exact cmpInt_any _ _
          go_wp2_with fail
          refine (HPA.out _).mono ?_
          rintro r w4 ⟨rfl, rfl⟩
          go_wp2_with fail
          refine (HPB.out _).mono ?_
          rintro r w4 ⟨rfl, rfl⟩
          go_wp2_with fail
          refine (HC.out _).mono ?_
          rintro r w4 ⟨rfl, rfl⟩
          go_wp2_with fail
          go_ret
          exact ⟨ret_int' HCV.out.symm, HB3.out⟩
      · have hbn : b.data.toList.drop i = [] := List.drop_of_length_le (by rw [size_toL]; omega)
        have hv1 : v = 1 := by rw [← HI.out, hbn]; exact cmpP_pts_nil (drop_ne hp)
        have he : (b.extract i b.size).toList.isEmpty = true := by rw [Lib.toList_data, ext_toL, hbn]; rfl
        have HV := Lib.hid hv1
        clear hv1
        go_wp2_with fail
        go_ret
        exact ⟨ret_int' HV.out.symm, HB.out⟩
    · have hnx : ∀ ty, (Instr.next (.pointer (some ⟨w.heap.size, 0, none⟩)) true ty).run Tryd.prog wr = _ := fun ty => Lib.run_next_end_at wr w.heap.size a i ty hit hp
      have hi : i = a.size := by omega
      have hy : v = cmpI a.size b.size := by
        rw [← HI.out, List.drop_of_length_le (by rw [size_toL]; omega), ptsL_nil, cmpP_nil_pts]
        by_cases hbe : b.data.toList.drop i = []
        · rw [if_pos hbe]
          have := congrArg List.length hbe
          rw [List.length_drop, size_toL] at this
          simp at this
          exact (cmpI_eq (by omega)).symm
        · rw [if_neg hbe]
          have := List.length_pos_iff.2 hbe
          rw [List.length_drop, size_toL] at this
          exact (cmpI_lt (by omega)).symm
      have HV := Lib.hid hy
      clear hy
      have HCI := Lib.hid (fun w => cmpInt_any (w := w) (a.size : Int) (b.size : Int))
      go_wp2_with fail
      refine (HCI.out _).mono ?_
      rintro r w1 ⟨rfl, rfl⟩
      go_wp2_with fail
      go_ret
      exact ⟨ret_int' HV.out.symm, hbw⟩
end Go.Proofs.YtjffbjlniieciaaDoor
