/-
  Proved: CursorActs returns true for every slice of bytes and every slice of acts, and leaves what was there as it was. No condition.
-/
import Derived.Test.YtdlpladdofjcfaaLawA
import Derived.Test.YtdlpladdofjcfaaStep
import Derived.Test.YtdlpladdofjcfaaActsA
import Derived.Test.YtdlpladdofjcfaaActsB
import Derived.Deep.RegionWith
import Derived.Deep.RegionHeld3
namespace Go.Proofs.Ytdlpladdofjcfaa
set_option linter.unusedSimpArgs false
set_option linter.unusedVariables false
open Go.ChangeShapes Go.WideShapes Go.ChangeAt Go.RowKit
open Go.ChangeMaps (open_string shut_string)

/-- operation 0 of the law's test -/
def r20o0 : Oper := { dst := some 75, op := Op.fieldAddr 33 (Operand.tmp 9) 0, type := 0, pos := "law.go:96", after := #[], guard := none }
/-- operation 1 of the law's test -/
def r20o1 : Oper := { dst := some 76, op := Op.load 3 (Operand.tmp 75), type := 3, pos := "law.go:96", after := #[{ on := 0, ground := Ground.data }], guard := none }
/-- operation 2 of the law's test -/
def r20o2 : Oper := { dst := some 77, op := Op.binOp BinOp.eql 3 (Operand.tmp 76) (Operand.const (Value.int IntKind.i64 0)) 3, type := 4, pos := "law.go:96", after := #[{ on := 1, ground := Ground.data }], guard := none }
/-- operation 3 of the law's test -/
def r20o3 : Oper := { dst := some 78, op := Op.move (Operand.tmp 77), type := 4, pos := "law.go:96", after := #[{ on := 2, ground := Ground.data }], guard := none }
/-- operation 4 of the law's test -/
def r20o4 : Oper := { dst := some 79, op := Op.move (Operand.tmp 5), type := 29, pos := "law.go:96", after := #[{ on := 3, ground := Ground.guard }], guard := some (3, true) }
/-- operation 5 of the law's test -/
def r20o5 : Oper := { dst := some 80, op := Op.call { callee := Callee.value (Operand.func 15), args := #[Operand.tmp 79], argTypes := #[29] }, type := 3, pos := "law.go:96", after := #[{ on := 4, ground := Ground.data }, { on := 3, ground := Ground.chain }, { on := 3, ground := Ground.guard }], guard := some (3, true) }
/-- operation 6 of the law's test -/
def r20o6 : Oper := { dst := some 81, op := Op.move (Operand.tmp 10), type := 3, pos := "law.go:96", after := #[{ on := 3, ground := Ground.guard }], guard := some (3, true) }
/-- operation 7 of the law's test -/
def r20o7 : Oper := { dst := some 82, op := Op.binOp BinOp.neq 3 (Operand.tmp 80) (Operand.tmp 81) 3, type := 4, pos := "law.go:96", after := #[{ on := 5, ground := Ground.data }, { on := 6, ground := Ground.data }, { on := 3, ground := Ground.guard }], guard := some (3, true) }
/-- operation 8 of the law's test -/
def r20o8 : Oper := { dst := some 83, op := Op.pick (Operand.tmp 78) (Operand.tmp 82) (Operand.const (Value.bool false)), type := 4, pos := "law.go:96", after := #[{ on := 3, ground := Ground.data }, { on := 7, ground := Ground.data }], guard := none }
/-- operation 9 of the law's test -/
def r20o9 : Oper := { dst := some 84, op := Op.move (Operand.tmp 83), type := 4, pos := "law.go:96", after := #[{ on := 8, ground := Ground.data }, { on := 5, ground := Ground.chain }], guard := none }
/-- operation 10 of the law's test -/
def r20o10 : Oper := { dst := some 85, op := Op.fieldAddr 33 (Operand.tmp 9) 0, type := 0, pos := "law.go:96", after := #[{ on := 9, ground := Ground.guard }], guard := some (9, false) }
/-- operation 11 of the law's test -/
def r20o11 : Oper := { dst := some 86, op := Op.load 3 (Operand.tmp 85), type := 3, pos := "law.go:96", after := #[{ on := 10, ground := Ground.data }, { on := 9, ground := Ground.guard }], guard := some (9, false) }
/-- operation 12 of the law's test -/
def r20o12 : Oper := { dst := some 87, op := Op.binOp BinOp.eql 3 (Operand.tmp 86) (Operand.const (Value.int IntKind.i64 1)) 3, type := 4, pos := "law.go:96", after := #[{ on := 11, ground := Ground.data }, { on := 9, ground := Ground.guard }], guard := some (9, false) }
/-- operation 13 of the law's test -/
def r20o13 : Oper := { dst := some 88, op := Op.move (Operand.tmp 87), type := 4, pos := "law.go:96", after := #[{ on := 12, ground := Ground.data }, { on := 9, ground := Ground.chain }, { on := 9, ground := Ground.guard }], guard := some (9, false) }
/-- operation 14 of the law's test -/
def r20o14 : Oper := { dst := some 89, op := Op.move (Operand.tmp 5), type := 29, pos := "law.go:96", after := #[{ on := 13, ground := Ground.guard }], guard := some (13, true) }
/-- operation 15 of the law's test -/
def r20o15 : Oper := { dst := some 90, op := Op.fieldAddr 33 (Operand.tmp 9) 1, type := 0, pos := "law.go:96", after := #[{ on := 13, ground := Ground.guard }], guard := some (13, true) }
/-- operation 16 of the law's test -/
def r20o16 : Oper := { dst := some 91, op := Op.load 3 (Operand.tmp 90), type := 3, pos := "law.go:96", after := #[{ on := 15, ground := Ground.data }, { on := 13, ground := Ground.guard }], guard := some (13, true) }
/-- operation 17 of the law's test -/
def r20o17 : Oper := { dst := some 92, op := Op.call { callee := Callee.value (Operand.func 16), args := #[Operand.tmp 89, Operand.tmp 91], argTypes := #[29, 3] }, type := 24, pos := "law.go:96", after := #[{ on := 14, ground := Ground.data }, { on := 16, ground := Ground.data }, { on := 13, ground := Ground.chain }, { on := 13, ground := Ground.guard }], guard := some (13, true) }
/-- operation 18 of the law's test -/
def r20o18 : Oper := { dst := some 93, op := Op.move (Operand.tmp 11), type := 24, pos := "law.go:96", after := #[{ on := 13, ground := Ground.guard }], guard := some (13, true) }
/-- operation 19 of the law's test -/
def r20o19 : Oper := { dst := some 94, op := Op.call { callee := Callee.value (Operand.func 8), args := #[Operand.tmp 92, Operand.tmp 93], argTypes := #[24, 24] }, type := 4, pos := "law.go:96", after := #[{ on := 17, ground := Ground.data }, { on := 18, ground := Ground.data }, { on := 17, ground := Ground.chain }, { on := 13, ground := Ground.guard }], guard := some (13, true) }
/-- operation 20 of the law's test -/
def r20o20 : Oper := { dst := some 95, op := Op.unOp UnOp.not 4 (Operand.tmp 94), type := 4, pos := "law.go:96", after := #[{ on := 19, ground := Ground.data }, { on := 13, ground := Ground.guard }], guard := some (13, true) }
/-- operation 21 of the law's test -/
def r20o21 : Oper := { dst := some 96, op := Op.pick (Operand.tmp 88) (Operand.tmp 95) (Operand.const (Value.bool false)), type := 4, pos := "law.go:96", after := #[{ on := 13, ground := Ground.data }, { on := 20, ground := Ground.data }, { on := 9, ground := Ground.guard }], guard := some (9, false) }
/-- operation 22 of the law's test -/
def r20o22 : Oper := { dst := some 97, op := Op.pick (Operand.tmp 84) (Operand.const (Value.bool true)) (Operand.tmp 96), type := 4, pos := "law.go:96", after := #[{ on := 9, ground := Ground.data }, { on := 21, ground := Ground.data }], guard := none }
/-- operation 23 of the law's test -/
def r20o23 : Oper := { dst := some 98, op := Op.move (Operand.tmp 97), type := 4, pos := "law.go:96", after := #[{ on := 22, ground := Ground.data }, { on := 19, ground := Ground.chain }], guard := none }
/-- operation 24 of the law's test -/
def r20o24 : Oper := { dst := some 99, op := Op.fieldAddr 33 (Operand.tmp 9) 0, type := 0, pos := "law.go:96", after := #[{ on := 23, ground := Ground.guard }], guard := some (23, false) }
/-- operation 25 of the law's test -/
def r20o25 : Oper := { dst := some 100, op := Op.load 3 (Operand.tmp 99), type := 3, pos := "law.go:96", after := #[{ on := 24, ground := Ground.data }, { on := 23, ground := Ground.guard }], guard := some (23, false) }
/-- operation 26 of the law's test -/
def r20o26 : Oper := { dst := some 101, op := Op.binOp BinOp.eql 3 (Operand.tmp 100) (Operand.const (Value.int IntKind.i64 2)) 3, type := 4, pos := "law.go:96", after := #[{ on := 25, ground := Ground.data }, { on := 23, ground := Ground.guard }], guard := some (23, false) }
/-- operation 27 of the law's test -/
def r20o27 : Oper := { dst := some 102, op := Op.move (Operand.tmp 101), type := 4, pos := "law.go:96", after := #[{ on := 26, ground := Ground.data }, { on := 23, ground := Ground.chain }, { on := 23, ground := Ground.guard }], guard := some (23, false) }
/-- operation 28 of the law's test -/
def r20o28 : Oper := { dst := some 103, op := Op.move (Operand.tmp 5), type := 29, pos := "law.go:96", after := #[{ on := 27, ground := Ground.guard }], guard := some (27, true) }
/-- operation 29 of the law's test -/
def r20o29 : Oper := { dst := some 104, op := Op.call { callee := Callee.value (Operand.func 17), args := #[Operand.tmp 103], argTypes := #[29] }, type := 3, pos := "law.go:96", after := #[{ on := 28, ground := Ground.data }, { on := 27, ground := Ground.chain }, { on := 27, ground := Ground.guard }], guard := some (27, true) }
/-- operation 30 of the law's test -/
def r20o30 : Oper := { dst := some 105, op := Op.move (Operand.tmp 10), type := 3, pos := "law.go:96", after := #[{ on := 27, ground := Ground.guard }], guard := some (27, true) }
/-- operation 31 of the law's test -/
def r20o31 : Oper := { dst := some 106, op := Op.binOp BinOp.neq 3 (Operand.tmp 104) (Operand.tmp 105) 3, type := 4, pos := "law.go:96", after := #[{ on := 29, ground := Ground.data }, { on := 30, ground := Ground.data }, { on := 27, ground := Ground.guard }], guard := some (27, true) }
/-- operation 32 of the law's test -/
def r20o32 : Oper := { dst := some 107, op := Op.pick (Operand.tmp 102) (Operand.tmp 106) (Operand.const (Value.bool false)), type := 4, pos := "law.go:96", after := #[{ on := 27, ground := Ground.data }, { on := 31, ground := Ground.data }, { on := 23, ground := Ground.guard }], guard := some (23, false) }
/-- operation 33 of the law's test -/
def r20o33 : Oper := { dst := some 108, op := Op.pick (Operand.tmp 98) (Operand.const (Value.bool true)) (Operand.tmp 107), type := 4, pos := "law.go:96", after := #[{ on := 23, ground := Ground.data }, { on := 32, ground := Ground.data }], guard := none }
/-- operation 34 of the law's test -/
def r20o34 : Oper := { dst := some 109, op := Op.move (Operand.tmp 108), type := 4, pos := "law.go:96", after := #[{ on := 33, ground := Ground.data }, { on := 29, ground := Ground.chain }], guard := none }
/-- operation 35 of the law's test -/
def r20o35 : Oper := { dst := some 110, op := Op.fieldAddr 33 (Operand.tmp 9) 0, type := 0, pos := "law.go:96", after := #[{ on := 34, ground := Ground.guard }], guard := some (34, false) }
/-- operation 36 of the law's test -/
def r20o36 : Oper := { dst := some 111, op := Op.load 3 (Operand.tmp 110), type := 3, pos := "law.go:96", after := #[{ on := 35, ground := Ground.data }, { on := 34, ground := Ground.guard }], guard := some (34, false) }
/-- operation 37 of the law's test -/
def r20o37 : Oper := { dst := some 112, op := Op.binOp BinOp.eql 3 (Operand.tmp 111) (Operand.const (Value.int IntKind.i64 3)) 3, type := 4, pos := "law.go:96", after := #[{ on := 36, ground := Ground.data }, { on := 34, ground := Ground.guard }], guard := some (34, false) }
/-- operation 38 of the law's test -/
def r20o38 : Oper := { dst := some 113, op := Op.move (Operand.tmp 112), type := 4, pos := "law.go:96", after := #[{ on := 37, ground := Ground.data }, { on := 34, ground := Ground.chain }, { on := 34, ground := Ground.guard }], guard := some (34, false) }
/-- operation 39 of the law's test -/
def r20o39 : Oper := { dst := some 114, op := Op.move (Operand.tmp 5), type := 29, pos := "law.go:96", after := #[{ on := 38, ground := Ground.guard }], guard := some (38, true) }
/-- operation 40 of the law's test -/
def r20o40 : Oper := { dst := some 115, op := Op.fieldAddr 33 (Operand.tmp 9) 1, type := 0, pos := "law.go:96", after := #[{ on := 38, ground := Ground.guard }], guard := some (38, true) }
/-- operation 41 of the law's test -/
def r20o41 : Oper := { dst := some 116, op := Op.load 3 (Operand.tmp 115), type := 3, pos := "law.go:96", after := #[{ on := 40, ground := Ground.data }, { on := 38, ground := Ground.guard }], guard := some (38, true) }
/-- operation 42 of the law's test -/
def r20o42 : Oper := { dst := some 117, op := Op.call { callee := Callee.value (Operand.func 18), args := #[Operand.tmp 114, Operand.tmp 116], argTypes := #[29, 3] }, type := 3, pos := "law.go:96", after := #[{ on := 39, ground := Ground.data }, { on := 41, ground := Ground.data }, { on := 38, ground := Ground.chain }, { on := 38, ground := Ground.guard }], guard := some (38, true) }
/-- operation 43 of the law's test -/
def r20o43 : Oper := { dst := some 118, op := Op.move (Operand.tmp 10), type := 3, pos := "law.go:96", after := #[{ on := 38, ground := Ground.guard }], guard := some (38, true) }
/-- operation 44 of the law's test -/
def r20o44 : Oper := { dst := some 119, op := Op.binOp BinOp.neq 3 (Operand.tmp 117) (Operand.tmp 118) 3, type := 4, pos := "law.go:96", after := #[{ on := 42, ground := Ground.data }, { on := 43, ground := Ground.data }, { on := 38, ground := Ground.guard }], guard := some (38, true) }
/-- operation 45 of the law's test -/
def r20o45 : Oper := { dst := some 120, op := Op.pick (Operand.tmp 113) (Operand.tmp 119) (Operand.const (Value.bool false)), type := 4, pos := "law.go:96", after := #[{ on := 38, ground := Ground.data }, { on := 44, ground := Ground.data }, { on := 34, ground := Ground.guard }], guard := some (34, false) }
/-- operation 46 of the law's test -/
def r20o46 : Oper := { dst := some 121, op := Op.pick (Operand.tmp 109) (Operand.const (Value.bool true)) (Operand.tmp 120), type := 4, pos := "law.go:96", after := #[{ on := 34, ground := Ground.data }, { on := 45, ground := Ground.data }], guard := none }
/-- operation 47 of the law's test -/
def r20o47 : Oper := { dst := some 122, op := Op.move (Operand.tmp 121), type := 4, pos := "law.go:96", after := #[{ on := 46, ground := Ground.data }, { on := 42, ground := Ground.chain }], guard := none }
/-- operation 48 of the law's test -/
def r20o48 : Oper := { dst := some 123, op := Op.fieldAddr 33 (Operand.tmp 9) 0, type := 0, pos := "law.go:96", after := #[{ on := 47, ground := Ground.guard }], guard := some (47, false) }
/-- operation 49 of the law's test -/
def r20o49 : Oper := { dst := some 124, op := Op.load 3 (Operand.tmp 123), type := 3, pos := "law.go:96", after := #[{ on := 48, ground := Ground.data }, { on := 47, ground := Ground.guard }], guard := some (47, false) }
/-- operation 50 of the law's test -/
def r20o50 : Oper := { dst := some 125, op := Op.binOp BinOp.eql 3 (Operand.tmp 124) (Operand.const (Value.int IntKind.i64 4)) 3, type := 4, pos := "law.go:96", after := #[{ on := 49, ground := Ground.data }, { on := 47, ground := Ground.guard }], guard := some (47, false) }
/-- operation 51 of the law's test -/
def r20o51 : Oper := { dst := some 126, op := Op.move (Operand.tmp 125), type := 4, pos := "law.go:96", after := #[{ on := 50, ground := Ground.data }, { on := 47, ground := Ground.chain }, { on := 47, ground := Ground.guard }], guard := some (47, false) }
/-- operation 52 of the law's test -/
def r20o52 : Oper := { dst := some 127, op := Op.move (Operand.tmp 5), type := 29, pos := "law.go:96", after := #[{ on := 51, ground := Ground.guard }], guard := some (51, true) }
/-- operation 53 of the law's test -/
def r20o53 : Oper := { dst := some 128, op := Op.call { callee := Callee.value (Operand.func 19), args := #[Operand.tmp 127], argTypes := #[29] }, type := 9, pos := "law.go:96", after := #[{ on := 52, ground := Ground.data }, { on := 51, ground := Ground.chain }, { on := 51, ground := Ground.guard }], guard := some (51, true) }
/-- operation 54 of the law's test -/
def r20o54 : Oper := { dst := some 129, op := Op.move (Operand.tmp 11), type := 24, pos := "law.go:96", after := #[{ on := 51, ground := Ground.guard }], guard := some (51, true) }
/-- operation 55 of the law's test -/
def r20o55 : Oper := { dst := some 130, op := Op.convert 24 9 (Operand.tmp 129), type := 9, pos := "law.go:96", after := #[{ on := 54, ground := Ground.data }, { on := 51, ground := Ground.guard }], guard := some (51, true) }
/-- operation 56 of the law's test -/
def r20o56 : Oper := { dst := some 131, op := Op.binOp BinOp.neq 9 (Operand.tmp 128) (Operand.tmp 130) 9, type := 4, pos := "law.go:96", after := #[{ on := 53, ground := Ground.data }, { on := 55, ground := Ground.data }, { on := 51, ground := Ground.guard }], guard := some (51, true) }
/-- operation 57 of the law's test -/
def r20o57 : Oper := { dst := some 132, op := Op.pick (Operand.tmp 126) (Operand.tmp 131) (Operand.const (Value.bool false)), type := 4, pos := "law.go:96", after := #[{ on := 51, ground := Ground.data }, { on := 56, ground := Ground.data }, { on := 47, ground := Ground.guard }], guard := some (47, false) }
/-- operation 58 of the law's test -/
def r20o58 : Oper := { dst := some 133, op := Op.pick (Operand.tmp 122) (Operand.const (Value.bool true)) (Operand.tmp 132), type := 4, pos := "law.go:96", after := #[{ on := 47, ground := Ground.data }, { on := 57, ground := Ground.data }], guard := none }

set_option maxHeartbeats 60000000 in
set_option maxRecDepth 20000 in
theorem cursorActs_small {w : World} {A : Option Addr} {bs : List UInt8} {c : Nat} (h : Rd w 0 w.heap.size A c (bv bs)) {B : Option Addr} {n c2 : Nat} {d m : Nat → Int} (hl2 : RdP w 0 w.heap.size B n c2 d m)
    (h1 : bs.length ≤ 2000) (h2 : n ≤ 80) :
    Calls Try.prog 4 #[.slice A bs.length c, .slice B n c2] w fun e w' => e = .returned (.bool true) ∧ Below w.heap.size w w' := by
  have hl := h.len
  have hc := h.cap
  rw [bv_length] at hl
  unfold maxLen at hc
  have H := Lib.hid h
  have H2 := Lib.hid hl2
  clear h hl2
  go_enter Try.func4, Try.ntmps4
  go_wp2_with fail
  refine (awake_any _).mono ?_
  rintro r w1 ⟨rfl, hb1⟩
  have HB1 := Lib.hid hb1
  have s1 := hb1.size
  clear hb1
  go_wp2_with fail
  refine (new_any bs _ (H.out.below HB1.out (Nat.le_refl _)) (by omega)).mono ?_
  rintro r w2 ⟨g, rfl, hc2, hb2⟩
  have HC2 := Lib.hid hc2
  have k2 := below_below HB1.out hb2 s1
  have HK2 := Lib.hid k2
  have s2 := k2.size
  have l2 := hc2.base
  clear hc2 hb2 k2
  go_wp2_with fail
  go_loopw [6, 7, 8] (fun a e i wr => ∃ (k p : Nat) (er : Int), k ≤ n ∧ i = .int .i64 (k : Int) ∧ a = .int .i64 (p : Int) ∧ e = .int .i64 er ∧ Cur wr w1.heap.size g bs p er ∧ Below w.heap.size w wr) (fun _ _ i _ => n - (intOf i).toNat)
  case atStart => exact ⟨0, 0, 0, Nat.zero_le _, rfl, rfl, rfl, HC2.out, HK2.out⟩
  case round =>
    obtain ⟨k, p, er, hk, rfl, rfl, rfl, hcur, hkr⟩ := hrel
    have HC := Lib.hid hcur
    have HK := Lib.hid hkr
    have sr := hkr.size
    have hp := hcur.le
    have gr := hcur.lt
    clear hcur hkr
    by_cases hlt : k < n
    · obtain ⟨b, off, rfl, _, _, hcells⟩ := (H2.out.below HK.out (Nat.le_refl _)).at_ (by omega)
      obtain ⟨hc0, hc1⟩ := hcells k hlt
      clear hcells
      generalize d k = dk at *
      generalize m k = mk at *
      by_cases hd0 : dk = 0
      · subst hd0
        obtain ⟨num, size, f, hps, hstep, hact⟩ := byteAct mk hp
        have HS := Lib.hid hstep
        have HA := Lib.hid hact
        clear hstep hact
        go_wp2_with fail
        refine (HS.out _ 0 w.heap.size A c ((H.out.below HK.out (Nat.le_refl _)).alloc sr _) (by simp; omega)).mono ?_
        rintro r w3 ⟨A', c', rfl, hrd, hb3⟩
        have hca : w3.cell? ⟨wr.heap.size, 0, none⟩ = some (.int .i64 0) := (hb3.cell (p := ⟨wr.heap.size, 0, none⟩) (by simp)).trans (World.cell?_alloc_at _ _ _ _ rfl)
        have hcb : w3.cell? ⟨wr.heap.size, 1, none⟩ = some (.int .i64 mk) := (hb3.cell (p := ⟨wr.heap.size, 1, none⟩) (by simp)).trans (World.cell?_alloc_at _ _ _ _ rfl)
        have HC3 := Lib.hid ((HC.out.grown (gb_alloc (gb_refl _ none) _) (by simp)).grown (below_gb_none (Nat.le_refl _) hb3) (by simp))
        have HR3 := Lib.hid hrd
        have k3 := below_below (HK.out.alloc sr _) hb3 (by simp; omega)
        have HK3 := Lib.hid k3
        have s3 := k3.size
        have z3 := hb3.size
        simp only [World.size_alloc] at z3
        clear hrd hb3 k3
        by_cases her : er = 0
        · as_aux_lemma =>
            subst her
            go_wp2_with fail
            refine wp_region_held_drew (S := fun W => W.cell? ⟨wr.heap.size, 0, none⟩ = some (.int .i64 0) ∧ W.cell? ⟨wr.heap.size, 1, none⟩ = some (.int .i64 mk)) (by kernel_rfl) ⟨hca, hcb⟩ (fun hHeld => ?_)
            refine wpAnyH_take (i := 0) (oi := r20o0) (v := ?_) rfl (by kernel_rfl) (by kernel_rfl) (by kernel_rfl) (fun _ _ _ h => h) (Or.inl ⟨by rfl, ?_⟩) hHeld ?_
            rotate_left
            focus (intro W hSw; obtain ⟨hq0, hq1⟩ := hSw; unfold r20o0; go_simp; try with_reducible rfl)
            simp only [Act.put, r20o0, List.setIfInBounds_toArray, List.set_cons_zero, List.set_cons_succ]
            refine wpAnyH_take (i := 1) (oi := r20o1) (v := ?_) rfl (by kernel_rfl) (by kernel_rfl) (by kernel_rfl) (fun _ _ _ h => h) (Or.inl ⟨by rfl, ?_⟩) hHeld ?_
            rotate_left
            focus (intro W hSw; obtain ⟨hq0, hq1⟩ := hSw; unfold r20o1; go_simp; try with_reducible rfl)
            simp only [Act.put, r20o1, List.setIfInBounds_toArray, List.set_cons_zero, List.set_cons_succ]
            refine wpAnyH_take (i := 2) (oi := r20o2) (v := ?_) rfl (by kernel_rfl) (by kernel_rfl) (by kernel_rfl) (fun _ _ _ h => h) (Or.inl ⟨by rfl, ?_⟩) hHeld ?_
            rotate_left
            focus (intro W hSw; obtain ⟨hq0, hq1⟩ := hSw; unfold r20o2; go_simp; try with_reducible rfl)
            simp only [Act.put, r20o2, List.setIfInBounds_toArray, List.set_cons_zero, List.set_cons_succ]
            refine wpAnyH_take (i := 3) (oi := r20o3) (v := ?_) rfl (by kernel_rfl) (by kernel_rfl) (by kernel_rfl) (fun _ _ _ h => h) (Or.inl ⟨by rfl, ?_⟩) hHeld ?_
            rotate_left
            focus (intro W hSw; obtain ⟨hq0, hq1⟩ := hSw; unfold r20o3; go_simp; try with_reducible rfl)
            simp only [Act.put, r20o3, List.setIfInBounds_toArray, List.set_cons_zero, List.set_cons_succ]
            refine wpAnyH_take (i := 4) (oi := r20o4) (v := ?_) rfl (by kernel_rfl) (by kernel_rfl) (by kernel_rfl) (fun _ _ _ h => h) (Or.inl ⟨by rfl, ?_⟩) hHeld ?_
            rotate_left
            focus (intro W hSw; obtain ⟨hq0, hq1⟩ := hSw; unfold r20o4; go_simp; try with_reducible rfl)
            simp only [Act.put, r20o4, List.setIfInBounds_toArray, List.set_cons_zero, List.set_cons_succ]
            refine wpAnyH_take (i := 6) (oi := r20o6) (v := ?_) rfl (by kernel_rfl) (by kernel_rfl) (by kernel_rfl) (fun _ _ _ h => h) (Or.inl ⟨by rfl, ?_⟩) hHeld ?_
            rotate_left
            focus (intro W hSw; obtain ⟨hq0, hq1⟩ := hSw; unfold r20o6; go_simp; try with_reducible rfl)
            simp only [Act.put, r20o6, List.setIfInBounds_toArray, List.set_cons_zero, List.set_cons_succ]
            refine wpAnyH_ready (rs := [5]) (by kernel_rfl) (by simp) ?_
            refine AllReadyH.cons (o := r20o5) rfl (fun K hK => ?_) AllReadyH.nil
            unfold r20o5
            go_simp
            refine (HA.out _ _ _ HC3.out.drew).mono ?_
            rintro r w4 ⟨rfl, hc4, hg4⟩
            have hca4 := hg4.cell (a := ⟨wr.heap.size, 0, none⟩) hca (by simp; omega)
            have hcb4 := hg4.cell (a := ⟨wr.heap.size, 1, none⟩) hcb (by simp; omega)
            have k4 := below_some (Below.drew HK3.out) hg4 s3 (by omega)
            have HC4 := Lib.hid hc4
            have HK4 := Lib.hid k4
            have HG4 := Lib.hid hg4
            have s4 := k4.size
            clear hc4 hg4 k4
            refine hK.out _ _ ⟨hca4, hcb4⟩ (fun hHeld => ?_)
            clear hK K
            refine wpAnyH_take (i := 7) (oi := r20o7) (v := ?_) rfl (by kernel_rfl) (by kernel_rfl) (by kernel_rfl) (fun _ _ _ h => h) (Or.inl ⟨by rfl, ?_⟩) hHeld ?_
            rotate_left
            focus (intro W hSw; obtain ⟨hq0, hq1⟩ := hSw; unfold r20o7; go_simp; try with_reducible rfl)
            simp only [Act.put, r20o7, List.setIfInBounds_toArray, List.set_cons_zero, List.set_cons_succ]
            refine wpAnyH_take (i := 8) (oi := r20o8) (v := ?_) rfl (by kernel_rfl) (by kernel_rfl) (by kernel_rfl) (fun _ _ _ h => h) (Or.inl ⟨by rfl, ?_⟩) hHeld ?_
            rotate_left
            focus (intro W hSw; obtain ⟨hq0, hq1⟩ := hSw; unfold r20o8; go_simp; try with_reducible rfl)
            simp only [Act.put, r20o8, List.setIfInBounds_toArray, List.set_cons_zero, List.set_cons_succ]
            refine wpAnyH_take (i := 9) (oi := r20o9) (v := ?_) rfl (by kernel_rfl) (by kernel_rfl) (by kernel_rfl) (fun _ _ _ h => h) (Or.inl ⟨by rfl, ?_⟩) hHeld ?_
            rotate_left
            focus (intro W hSw; obtain ⟨hq0, hq1⟩ := hSw; unfold r20o9; go_simp; try with_reducible rfl)
            simp only [Act.put, r20o9, List.setIfInBounds_toArray, List.set_cons_zero, List.set_cons_succ]
            refine wpAnyH_take (i := 10) (oi := r20o10) (v := ?_) rfl (by kernel_rfl) (by kernel_rfl) (by kernel_rfl) (fun _ _ _ h => h) (Or.inl ⟨by rfl, ?_⟩) hHeld ?_
            rotate_left
            focus (intro W hSw; obtain ⟨hq0, hq1⟩ := hSw; unfold r20o10; go_simp; try with_reducible rfl)
            simp only [Act.put, r20o10, List.setIfInBounds_toArray, List.set_cons_zero, List.set_cons_succ]
            refine wpAnyH_take (i := 11) (oi := r20o11) (v := ?_) rfl (by kernel_rfl) (by kernel_rfl) (by kernel_rfl) (fun _ _ _ h => h) (Or.inl ⟨by rfl, ?_⟩) hHeld ?_
            rotate_left
            focus (intro W hSw; obtain ⟨hq0, hq1⟩ := hSw; unfold r20o11; go_simp; try with_reducible rfl)
            simp only [Act.put, r20o11, List.setIfInBounds_toArray, List.set_cons_zero, List.set_cons_succ]
            refine wpAnyH_take (i := 12) (oi := r20o12) (v := ?_) rfl (by kernel_rfl) (by kernel_rfl) (by kernel_rfl) (fun _ _ _ h => h) (Or.inl ⟨by rfl, ?_⟩) hHeld ?_
            rotate_left
            focus (intro W hSw; obtain ⟨hq0, hq1⟩ := hSw; unfold r20o12; go_simp; try with_reducible rfl)
            simp only [Act.put, r20o12, List.setIfInBounds_toArray, List.set_cons_zero, List.set_cons_succ]
            refine wpAnyH_take (i := 13) (oi := r20o13) (v := ?_) rfl (by kernel_rfl) (by kernel_rfl) (by kernel_rfl) (fun _ _ _ h => h) (Or.inl ⟨by rfl, ?_⟩) hHeld ?_
            rotate_left
            focus (intro W hSw; obtain ⟨hq0, hq1⟩ := hSw; unfold r20o13; go_simp; try with_reducible rfl)
            simp only [Act.put, r20o13, List.setIfInBounds_toArray, List.set_cons_zero, List.set_cons_succ]
            refine wpAnyH_take (i := 14) (oi := r20o14) (v := undef) rfl (by kernel_rfl) (by kernel_rfl) (by kernel_rfl) (fun _ _ _ h => h) (Or.inr ⟨by rfl, rfl⟩) hHeld ?_
            simp only [Act.put, r20o14, List.setIfInBounds_toArray, List.set_cons_zero, List.set_cons_succ]
            refine wpAnyH_take (i := 15) (oi := r20o15) (v := undef) rfl (by kernel_rfl) (by kernel_rfl) (by kernel_rfl) (fun _ _ _ h => h) (Or.inr ⟨by rfl, rfl⟩) hHeld ?_
            simp only [Act.put, r20o15, List.setIfInBounds_toArray, List.set_cons_zero, List.set_cons_succ]
            refine wpAnyH_take (i := 16) (oi := r20o16) (v := undef) rfl (by kernel_rfl) (by kernel_rfl) (by kernel_rfl) (fun _ _ _ h => h) (Or.inr ⟨by rfl, rfl⟩) hHeld ?_
            simp only [Act.put, r20o16, List.setIfInBounds_toArray, List.set_cons_zero, List.set_cons_succ]
            refine wpAnyH_take (i := 17) (oi := r20o17) (v := undef) rfl (by kernel_rfl) (by kernel_rfl) (by kernel_rfl) (fun _ _ _ h => h) (Or.inr ⟨by rfl, rfl⟩) hHeld ?_
            simp only [Act.put, r20o17, List.setIfInBounds_toArray, List.set_cons_zero, List.set_cons_succ]
            refine wpAnyH_take (i := 18) (oi := r20o18) (v := undef) rfl (by kernel_rfl) (by kernel_rfl) (by kernel_rfl) (fun _ _ _ h => h) (Or.inr ⟨by rfl, rfl⟩) hHeld ?_
            simp only [Act.put, r20o18, List.setIfInBounds_toArray, List.set_cons_zero, List.set_cons_succ]
            refine wpAnyH_take (i := 19) (oi := r20o19) (v := undef) rfl (by kernel_rfl) (by kernel_rfl) (by kernel_rfl) (fun _ _ _ h => h) (Or.inr ⟨by rfl, rfl⟩) hHeld ?_
            simp only [Act.put, r20o19, List.setIfInBounds_toArray, List.set_cons_zero, List.set_cons_succ]
            refine wpAnyH_take (i := 20) (oi := r20o20) (v := undef) rfl (by kernel_rfl) (by kernel_rfl) (by kernel_rfl) (fun _ _ _ h => h) (Or.inr ⟨by rfl, rfl⟩) hHeld ?_
            simp only [Act.put, r20o20, List.setIfInBounds_toArray, List.set_cons_zero, List.set_cons_succ]
            refine wpAnyH_take (i := 21) (oi := r20o21) (v := ?_) rfl (by kernel_rfl) (by kernel_rfl) (by kernel_rfl) (fun _ _ _ h => h) (Or.inl ⟨by rfl, ?_⟩) hHeld ?_
            rotate_left
            focus (intro W hSw; obtain ⟨hq0, hq1⟩ := hSw; unfold r20o21; go_simp; try with_reducible rfl)
            simp only [Act.put, r20o21, List.setIfInBounds_toArray, List.set_cons_zero, List.set_cons_succ]
            refine wpAnyH_take (i := 22) (oi := r20o22) (v := ?_) rfl (by kernel_rfl) (by kernel_rfl) (by kernel_rfl) (fun _ _ _ h => h) (Or.inl ⟨by rfl, ?_⟩) hHeld ?_
            rotate_left
            focus (intro W hSw; obtain ⟨hq0, hq1⟩ := hSw; unfold r20o22; go_simp; try with_reducible rfl)
            simp only [Act.put, r20o22, List.setIfInBounds_toArray, List.set_cons_zero, List.set_cons_succ]
            refine wpAnyH_take (i := 23) (oi := r20o23) (v := ?_) rfl (by kernel_rfl) (by kernel_rfl) (by kernel_rfl) (fun _ _ _ h => h) (Or.inl ⟨by rfl, ?_⟩) hHeld ?_
            rotate_left
            focus (intro W hSw; obtain ⟨hq0, hq1⟩ := hSw; unfold r20o23; go_simp; try with_reducible rfl)
            simp only [Act.put, r20o23, List.setIfInBounds_toArray, List.set_cons_zero, List.set_cons_succ]
            refine wpAnyH_take (i := 24) (oi := r20o24) (v := ?_) rfl (by kernel_rfl) (by kernel_rfl) (by kernel_rfl) (fun _ _ _ h => h) (Or.inl ⟨by rfl, ?_⟩) hHeld ?_
            rotate_left
            focus (intro W hSw; obtain ⟨hq0, hq1⟩ := hSw; unfold r20o24; go_simp; try with_reducible rfl)
            simp only [Act.put, r20o24, List.setIfInBounds_toArray, List.set_cons_zero, List.set_cons_succ]
            refine wpAnyH_take (i := 25) (oi := r20o25) (v := ?_) rfl (by kernel_rfl) (by kernel_rfl) (by kernel_rfl) (fun _ _ _ h => h) (Or.inl ⟨by rfl, ?_⟩) hHeld ?_
            rotate_left
            focus (intro W hSw; obtain ⟨hq0, hq1⟩ := hSw; unfold r20o25; go_simp; try with_reducible rfl)
            simp only [Act.put, r20o25, List.setIfInBounds_toArray, List.set_cons_zero, List.set_cons_succ]
            refine wpAnyH_take (i := 26) (oi := r20o26) (v := ?_) rfl (by kernel_rfl) (by kernel_rfl) (by kernel_rfl) (fun _ _ _ h => h) (Or.inl ⟨by rfl, ?_⟩) hHeld ?_
            rotate_left
            focus (intro W hSw; obtain ⟨hq0, hq1⟩ := hSw; unfold r20o26; go_simp; try with_reducible rfl)
            simp only [Act.put, r20o26, List.setIfInBounds_toArray, List.set_cons_zero, List.set_cons_succ]
            refine wpAnyH_take (i := 27) (oi := r20o27) (v := ?_) rfl (by kernel_rfl) (by kernel_rfl) (by kernel_rfl) (fun _ _ _ h => h) (Or.inl ⟨by rfl, ?_⟩) hHeld ?_
            rotate_left
            focus (intro W hSw; obtain ⟨hq0, hq1⟩ := hSw; unfold r20o27; go_simp; try with_reducible rfl)
            simp only [Act.put, r20o27, List.setIfInBounds_toArray, List.set_cons_zero, List.set_cons_succ]
            refine wpAnyH_take (i := 28) (oi := r20o28) (v := undef) rfl (by kernel_rfl) (by kernel_rfl) (by kernel_rfl) (fun _ _ _ h => h) (Or.inr ⟨by rfl, rfl⟩) hHeld ?_
            simp only [Act.put, r20o28, List.setIfInBounds_toArray, List.set_cons_zero, List.set_cons_succ]
            refine wpAnyH_take (i := 29) (oi := r20o29) (v := undef) rfl (by kernel_rfl) (by kernel_rfl) (by kernel_rfl) (fun _ _ _ h => h) (Or.inr ⟨by rfl, rfl⟩) hHeld ?_
            simp only [Act.put, r20o29, List.setIfInBounds_toArray, List.set_cons_zero, List.set_cons_succ]
            refine wpAnyH_take (i := 30) (oi := r20o30) (v := undef) rfl (by kernel_rfl) (by kernel_rfl) (by kernel_rfl) (fun _ _ _ h => h) (Or.inr ⟨by rfl, rfl⟩) hHeld ?_
            simp only [Act.put, r20o30, List.setIfInBounds_toArray, List.set_cons_zero, List.set_cons_succ]
            refine wpAnyH_take (i := 31) (oi := r20o31) (v := undef) rfl (by kernel_rfl) (by kernel_rfl) (by kernel_rfl) (fun _ _ _ h => h) (Or.inr ⟨by rfl, rfl⟩) hHeld ?_
            simp only [Act.put, r20o31, List.setIfInBounds_toArray, List.set_cons_zero, List.set_cons_succ]
            refine wpAnyH_take (i := 32) (oi := r20o32) (v := ?_) rfl (by kernel_rfl) (by kernel_rfl) (by kernel_rfl) (fun _ _ _ h => h) (Or.inl ⟨by rfl, ?_⟩) hHeld ?_
            rotate_left
            focus (intro W hSw; obtain ⟨hq0, hq1⟩ := hSw; unfold r20o32; go_simp; try with_reducible rfl)
            simp only [Act.put, r20o32, List.setIfInBounds_toArray, List.set_cons_zero, List.set_cons_succ]
            refine wpAnyH_take (i := 33) (oi := r20o33) (v := ?_) rfl (by kernel_rfl) (by kernel_rfl) (by kernel_rfl) (fun _ _ _ h => h) (Or.inl ⟨by rfl, ?_⟩) hHeld ?_
            rotate_left
            focus (intro W hSw; obtain ⟨hq0, hq1⟩ := hSw; unfold r20o33; go_simp; try with_reducible rfl)
            simp only [Act.put, r20o33, List.setIfInBounds_toArray, List.set_cons_zero, List.set_cons_succ]
            refine wpAnyH_take (i := 34) (oi := r20o34) (v := ?_) rfl (by kernel_rfl) (by kernel_rfl) (by kernel_rfl) (fun _ _ _ h => h) (Or.inl ⟨by rfl, ?_⟩) hHeld ?_
            rotate_left
            focus (intro W hSw; obtain ⟨hq0, hq1⟩ := hSw; unfold r20o34; go_simp; try with_reducible rfl)
            simp only [Act.put, r20o34, List.setIfInBounds_toArray, List.set_cons_zero, List.set_cons_succ]
            refine wpAnyH_take (i := 35) (oi := r20o35) (v := ?_) rfl (by kernel_rfl) (by kernel_rfl) (by kernel_rfl) (fun _ _ _ h => h) (Or.inl ⟨by rfl, ?_⟩) hHeld ?_
            rotate_left
            focus (intro W hSw; obtain ⟨hq0, hq1⟩ := hSw; unfold r20o35; go_simp; try with_reducible rfl)
            simp only [Act.put, r20o35, List.setIfInBounds_toArray, List.set_cons_zero, List.set_cons_succ]
            refine wpAnyH_take (i := 36) (oi := r20o36) (v := ?_) rfl (by kernel_rfl) (by kernel_rfl) (by kernel_rfl) (fun _ _ _ h => h) (Or.inl ⟨by rfl, ?_⟩) hHeld ?_
            rotate_left
            focus (intro W hSw; obtain ⟨hq0, hq1⟩ := hSw; unfold r20o36; go_simp; try with_reducible rfl)
            simp only [Act.put, r20o36, List.setIfInBounds_toArray, List.set_cons_zero, List.set_cons_succ]
            refine wpAnyH_take (i := 37) (oi := r20o37) (v := ?_) rfl (by kernel_rfl) (by kernel_rfl) (by kernel_rfl) (fun _ _ _ h => h) (Or.inl ⟨by rfl, ?_⟩) hHeld ?_
            rotate_left
            focus (intro W hSw; obtain ⟨hq0, hq1⟩ := hSw; unfold r20o37; go_simp; try with_reducible rfl)
            simp only [Act.put, r20o37, List.setIfInBounds_toArray, List.set_cons_zero, List.set_cons_succ]
            refine wpAnyH_take (i := 38) (oi := r20o38) (v := ?_) rfl (by kernel_rfl) (by kernel_rfl) (by kernel_rfl) (fun _ _ _ h => h) (Or.inl ⟨by rfl, ?_⟩) hHeld ?_
            rotate_left
            focus (intro W hSw; obtain ⟨hq0, hq1⟩ := hSw; unfold r20o38; go_simp; try with_reducible rfl)
            simp only [Act.put, r20o38, List.setIfInBounds_toArray, List.set_cons_zero, List.set_cons_succ]
            refine wpAnyH_take (i := 39) (oi := r20o39) (v := undef) rfl (by kernel_rfl) (by kernel_rfl) (by kernel_rfl) (fun _ _ _ h => h) (Or.inr ⟨by rfl, rfl⟩) hHeld ?_
            simp only [Act.put, r20o39, List.setIfInBounds_toArray, List.set_cons_zero, List.set_cons_succ]
            refine wpAnyH_take (i := 40) (oi := r20o40) (v := undef) rfl (by kernel_rfl) (by kernel_rfl) (by kernel_rfl) (fun _ _ _ h => h) (Or.inr ⟨by rfl, rfl⟩) hHeld ?_
            simp only [Act.put, r20o40, List.setIfInBounds_toArray, List.set_cons_zero, List.set_cons_succ]
            refine wpAnyH_take (i := 41) (oi := r20o41) (v := undef) rfl (by kernel_rfl) (by kernel_rfl) (by kernel_rfl) (fun _ _ _ h => h) (Or.inr ⟨by rfl, rfl⟩) hHeld ?_
            simp only [Act.put, r20o41, List.setIfInBounds_toArray, List.set_cons_zero, List.set_cons_succ]
            refine wpAnyH_take (i := 42) (oi := r20o42) (v := undef) rfl (by kernel_rfl) (by kernel_rfl) (by kernel_rfl) (fun _ _ _ h => h) (Or.inr ⟨by rfl, rfl⟩) hHeld ?_
            simp only [Act.put, r20o42, List.setIfInBounds_toArray, List.set_cons_zero, List.set_cons_succ]
            refine wpAnyH_take (i := 43) (oi := r20o43) (v := undef) rfl (by kernel_rfl) (by kernel_rfl) (by kernel_rfl) (fun _ _ _ h => h) (Or.inr ⟨by rfl, rfl⟩) hHeld ?_
            simp only [Act.put, r20o43, List.setIfInBounds_toArray, List.set_cons_zero, List.set_cons_succ]
            refine wpAnyH_take (i := 44) (oi := r20o44) (v := undef) rfl (by kernel_rfl) (by kernel_rfl) (by kernel_rfl) (fun _ _ _ h => h) (Or.inr ⟨by rfl, rfl⟩) hHeld ?_
            simp only [Act.put, r20o44, List.setIfInBounds_toArray, List.set_cons_zero, List.set_cons_succ]
            refine wpAnyH_take (i := 45) (oi := r20o45) (v := ?_) rfl (by kernel_rfl) (by kernel_rfl) (by kernel_rfl) (fun _ _ _ h => h) (Or.inl ⟨by rfl, ?_⟩) hHeld ?_
            rotate_left
            focus (intro W hSw; obtain ⟨hq0, hq1⟩ := hSw; unfold r20o45; go_simp; try with_reducible rfl)
            simp only [Act.put, r20o45, List.setIfInBounds_toArray, List.set_cons_zero, List.set_cons_succ]
            refine wpAnyH_take (i := 46) (oi := r20o46) (v := ?_) rfl (by kernel_rfl) (by kernel_rfl) (by kernel_rfl) (fun _ _ _ h => h) (Or.inl ⟨by rfl, ?_⟩) hHeld ?_
            rotate_left
            focus (intro W hSw; obtain ⟨hq0, hq1⟩ := hSw; unfold r20o46; go_simp; try with_reducible rfl)
            simp only [Act.put, r20o46, List.setIfInBounds_toArray, List.set_cons_zero, List.set_cons_succ]
            refine wpAnyH_take (i := 47) (oi := r20o47) (v := ?_) rfl (by kernel_rfl) (by kernel_rfl) (by kernel_rfl) (fun _ _ _ h => h) (Or.inl ⟨by rfl, ?_⟩) hHeld ?_
            rotate_left
            focus (intro W hSw; obtain ⟨hq0, hq1⟩ := hSw; unfold r20o47; go_simp; try with_reducible rfl)
            simp only [Act.put, r20o47, List.setIfInBounds_toArray, List.set_cons_zero, List.set_cons_succ]
            refine wpAnyH_take (i := 48) (oi := r20o48) (v := ?_) rfl (by kernel_rfl) (by kernel_rfl) (by kernel_rfl) (fun _ _ _ h => h) (Or.inl ⟨by rfl, ?_⟩) hHeld ?_
            rotate_left
            focus (intro W hSw; obtain ⟨hq0, hq1⟩ := hSw; unfold r20o48; go_simp; try with_reducible rfl)
            simp only [Act.put, r20o48, List.setIfInBounds_toArray, List.set_cons_zero, List.set_cons_succ]
            refine wpAnyH_take (i := 49) (oi := r20o49) (v := ?_) rfl (by kernel_rfl) (by kernel_rfl) (by kernel_rfl) (fun _ _ _ h => h) (Or.inl ⟨by rfl, ?_⟩) hHeld ?_
            rotate_left
            focus (intro W hSw; obtain ⟨hq0, hq1⟩ := hSw; unfold r20o49; go_simp; try with_reducible rfl)
            simp only [Act.put, r20o49, List.setIfInBounds_toArray, List.set_cons_zero, List.set_cons_succ]
            refine wpAnyH_take (i := 50) (oi := r20o50) (v := ?_) rfl (by kernel_rfl) (by kernel_rfl) (by kernel_rfl) (fun _ _ _ h => h) (Or.inl ⟨by rfl, ?_⟩) hHeld ?_
            rotate_left
            focus (intro W hSw; obtain ⟨hq0, hq1⟩ := hSw; unfold r20o50; go_simp; try with_reducible rfl)
            simp only [Act.put, r20o50, List.setIfInBounds_toArray, List.set_cons_zero, List.set_cons_succ]
            refine wpAnyH_take (i := 51) (oi := r20o51) (v := ?_) rfl (by kernel_rfl) (by kernel_rfl) (by kernel_rfl) (fun _ _ _ h => h) (Or.inl ⟨by rfl, ?_⟩) hHeld ?_
            rotate_left
            focus (intro W hSw; obtain ⟨hq0, hq1⟩ := hSw; unfold r20o51; go_simp; try with_reducible rfl)
            simp only [Act.put, r20o51, List.setIfInBounds_toArray, List.set_cons_zero, List.set_cons_succ]
            refine wpAnyH_take (i := 52) (oi := r20o52) (v := undef) rfl (by kernel_rfl) (by kernel_rfl) (by kernel_rfl) (fun _ _ _ h => h) (Or.inr ⟨by rfl, rfl⟩) hHeld ?_
            simp only [Act.put, r20o52, List.setIfInBounds_toArray, List.set_cons_zero, List.set_cons_succ]
            refine wpAnyH_take (i := 53) (oi := r20o53) (v := undef) rfl (by kernel_rfl) (by kernel_rfl) (by kernel_rfl) (fun _ _ _ h => h) (Or.inr ⟨by rfl, rfl⟩) hHeld ?_
            simp only [Act.put, r20o53, List.setIfInBounds_toArray, List.set_cons_zero, List.set_cons_succ]
            refine wpAnyH_take (i := 54) (oi := r20o54) (v := undef) rfl (by kernel_rfl) (by kernel_rfl) (by kernel_rfl) (fun _ _ _ h => h) (Or.inr ⟨by rfl, rfl⟩) hHeld ?_
            simp only [Act.put, r20o54, List.setIfInBounds_toArray, List.set_cons_zero, List.set_cons_succ]
            refine wpAnyH_take (i := 55) (oi := r20o55) (v := undef) rfl (by kernel_rfl) (by kernel_rfl) (by kernel_rfl) (fun _ _ _ h => h) (Or.inr ⟨by rfl, rfl⟩) hHeld ?_
            simp only [Act.put, r20o55, List.setIfInBounds_toArray, List.set_cons_zero, List.set_cons_succ]
            refine wpAnyH_take (i := 56) (oi := r20o56) (v := undef) rfl (by kernel_rfl) (by kernel_rfl) (by kernel_rfl) (fun _ _ _ h => h) (Or.inr ⟨by rfl, rfl⟩) hHeld ?_
            simp only [Act.put, r20o56, List.setIfInBounds_toArray, List.set_cons_zero, List.set_cons_succ]
            refine wpAnyH_take (i := 57) (oi := r20o57) (v := ?_) rfl (by kernel_rfl) (by kernel_rfl) (by kernel_rfl) (fun _ _ _ h => h) (Or.inl ⟨by rfl, ?_⟩) hHeld ?_
            rotate_left
            focus (intro W hSw; obtain ⟨hq0, hq1⟩ := hSw; unfold r20o57; go_simp; try with_reducible rfl)
            simp only [Act.put, r20o57, List.setIfInBounds_toArray, List.set_cons_zero, List.set_cons_succ]
            refine wpAnyH_take (i := 58) (oi := r20o58) (v := ?_) rfl (by kernel_rfl) (by kernel_rfl) (by kernel_rfl) (fun _ _ _ h => h) (Or.inl ⟨by rfl, ?_⟩) hHeld ?_
            rotate_left
            focus (intro W hSw; obtain ⟨hq0, hq1⟩ := hSw; unfold r20o58; go_simp; try with_reducible rfl)
            simp only [Act.put, r20o58, List.setIfInBounds_toArray, List.set_cons_zero, List.set_cons_succ]
            refine wpAnyH_done (by kernel_rfl) ?_ _
            all_goals go_wp2_with (first | (go_at_call 21; refine (left_any HC4.out).mono ?_; rintro r w6 ⟨rfl, mm, rfl⟩) | (go_at_call 22; refine (good_any (HC4.out.drewN _)).mono ?_; rintro r w7 ⟨rfl, rfl⟩))
            all_goals go_roundw
            all_goals first | (case rel => exact ⟨k + 1, p + size, f, by omega, by go_num, by go_num, rfl, HC4.out.drewN _, below_drewN' HK4.out _⟩) | (case measure => simp [intOf]; omega)
        · as_aux_lemma =>
            have HB := Lib.hid ((byteBad her : Act1 15 bs p er 0 0 er))
            have e1 : (er == 0) = false := by simpa using her
            have e2 : (er != 0) = true := by simpa using her
            have HER := Lib.hid her
            clear her HA HS
            go_wp2_with fail
            refine wp_region_held_drew (S := fun W => W.cell? ⟨wr.heap.size, 0, none⟩ = some (.int .i64 0) ∧ W.cell? ⟨wr.heap.size, 1, none⟩ = some (.int .i64 mk)) (by kernel_rfl) ⟨hca, hcb⟩ (fun hHeld => ?_)
            refine wpAnyH_take (i := 0) (oi := r20o0) (v := ?_) rfl (by kernel_rfl) (by kernel_rfl) (by kernel_rfl) (fun _ _ _ h => h) (Or.inl ⟨by rfl, ?_⟩) hHeld ?_
            rotate_left
            focus (intro W hSw; obtain ⟨hq0, hq1⟩ := hSw; unfold r20o0; go_simp; try with_reducible rfl)
            simp only [Act.put, r20o0, List.setIfInBounds_toArray, List.set_cons_zero, List.set_cons_succ]
            refine wpAnyH_take (i := 1) (oi := r20o1) (v := ?_) rfl (by kernel_rfl) (by kernel_rfl) (by kernel_rfl) (fun _ _ _ h => h) (Or.inl ⟨by rfl, ?_⟩) hHeld ?_
            rotate_left
            focus (intro W hSw; obtain ⟨hq0, hq1⟩ := hSw; unfold r20o1; go_simp; try with_reducible rfl)
            simp only [Act.put, r20o1, List.setIfInBounds_toArray, List.set_cons_zero, List.set_cons_succ]
            refine wpAnyH_take (i := 2) (oi := r20o2) (v := ?_) rfl (by kernel_rfl) (by kernel_rfl) (by kernel_rfl) (fun _ _ _ h => h) (Or.inl ⟨by rfl, ?_⟩) hHeld ?_
            rotate_left
            focus (intro W hSw; obtain ⟨hq0, hq1⟩ := hSw; unfold r20o2; go_simp; try with_reducible rfl)
            simp only [Act.put, r20o2, List.setIfInBounds_toArray, List.set_cons_zero, List.set_cons_succ]
            refine wpAnyH_take (i := 3) (oi := r20o3) (v := ?_) rfl (by kernel_rfl) (by kernel_rfl) (by kernel_rfl) (fun _ _ _ h => h) (Or.inl ⟨by rfl, ?_⟩) hHeld ?_
            rotate_left
            focus (intro W hSw; obtain ⟨hq0, hq1⟩ := hSw; unfold r20o3; go_simp; try with_reducible rfl)
            simp only [Act.put, r20o3, List.setIfInBounds_toArray, List.set_cons_zero, List.set_cons_succ]
            refine wpAnyH_take (i := 4) (oi := r20o4) (v := ?_) rfl (by kernel_rfl) (by kernel_rfl) (by kernel_rfl) (fun _ _ _ h => h) (Or.inl ⟨by rfl, ?_⟩) hHeld ?_
            rotate_left
            focus (intro W hSw; obtain ⟨hq0, hq1⟩ := hSw; unfold r20o4; go_simp; try with_reducible rfl)
            simp only [Act.put, r20o4, List.setIfInBounds_toArray, List.set_cons_zero, List.set_cons_succ]
            refine wpAnyH_take (i := 6) (oi := r20o6) (v := ?_) rfl (by kernel_rfl) (by kernel_rfl) (by kernel_rfl) (fun _ _ _ h => h) (Or.inl ⟨by rfl, ?_⟩) hHeld ?_
            rotate_left
            focus (intro W hSw; obtain ⟨hq0, hq1⟩ := hSw; unfold r20o6; go_simp; try with_reducible rfl)
            simp only [Act.put, r20o6, List.setIfInBounds_toArray, List.set_cons_zero, List.set_cons_succ]
            refine wpAnyH_ready (rs := [5]) (by kernel_rfl) (by simp) ?_
            refine AllReadyH.cons (o := r20o5) rfl (fun K hK => ?_) AllReadyH.nil
            unfold r20o5
            go_simp
            refine (HB.out _ _ _ HC3.out.drew).mono ?_
            rintro r w4 ⟨rfl, hc4, hg4⟩
            have hca4 := hg4.cell (a := ⟨wr.heap.size, 0, none⟩) hca (by simp; omega)
            have hcb4 := hg4.cell (a := ⟨wr.heap.size, 1, none⟩) hcb (by simp; omega)
            have k4 := below_some (Below.drew HK3.out) hg4 s3 (by omega)
            have HC4 := Lib.hid hc4
            have HK4 := Lib.hid k4
            have HG4 := Lib.hid hg4
            have s4 := k4.size
            clear hc4 hg4 k4
            refine hK.out _ _ ⟨hca4, hcb4⟩ (fun hHeld => ?_)
            clear hK K
            refine wpAnyH_take (i := 7) (oi := r20o7) (v := ?_) rfl (by kernel_rfl) (by kernel_rfl) (by kernel_rfl) (fun _ _ _ h => h) (Or.inl ⟨by rfl, ?_⟩) hHeld ?_
            rotate_left
            focus (intro W hSw; obtain ⟨hq0, hq1⟩ := hSw; unfold r20o7; go_simp; try with_reducible rfl)
            simp only [Act.put, r20o7, List.setIfInBounds_toArray, List.set_cons_zero, List.set_cons_succ]
            refine wpAnyH_take (i := 8) (oi := r20o8) (v := ?_) rfl (by kernel_rfl) (by kernel_rfl) (by kernel_rfl) (fun _ _ _ h => h) (Or.inl ⟨by rfl, ?_⟩) hHeld ?_
            rotate_left
            focus (intro W hSw; obtain ⟨hq0, hq1⟩ := hSw; unfold r20o8; go_simp; try with_reducible rfl)
            simp only [Act.put, r20o8, List.setIfInBounds_toArray, List.set_cons_zero, List.set_cons_succ]
            refine wpAnyH_take (i := 9) (oi := r20o9) (v := ?_) rfl (by kernel_rfl) (by kernel_rfl) (by kernel_rfl) (fun _ _ _ h => h) (Or.inl ⟨by rfl, ?_⟩) hHeld ?_
            rotate_left
            focus (intro W hSw; obtain ⟨hq0, hq1⟩ := hSw; unfold r20o9; go_simp; try with_reducible rfl)
            simp only [Act.put, r20o9, List.setIfInBounds_toArray, List.set_cons_zero, List.set_cons_succ]
            refine wpAnyH_take (i := 10) (oi := r20o10) (v := ?_) rfl (by kernel_rfl) (by kernel_rfl) (by kernel_rfl) (fun _ _ _ h => h) (Or.inl ⟨by rfl, ?_⟩) hHeld ?_
            rotate_left
            focus (intro W hSw; obtain ⟨hq0, hq1⟩ := hSw; unfold r20o10; go_simp; try with_reducible rfl)
            simp only [Act.put, r20o10, List.setIfInBounds_toArray, List.set_cons_zero, List.set_cons_succ]
            refine wpAnyH_take (i := 11) (oi := r20o11) (v := ?_) rfl (by kernel_rfl) (by kernel_rfl) (by kernel_rfl) (fun _ _ _ h => h) (Or.inl ⟨by rfl, ?_⟩) hHeld ?_
            rotate_left
            focus (intro W hSw; obtain ⟨hq0, hq1⟩ := hSw; unfold r20o11; go_simp; try with_reducible rfl)
            simp only [Act.put, r20o11, List.setIfInBounds_toArray, List.set_cons_zero, List.set_cons_succ]
            refine wpAnyH_take (i := 12) (oi := r20o12) (v := ?_) rfl (by kernel_rfl) (by kernel_rfl) (by kernel_rfl) (fun _ _ _ h => h) (Or.inl ⟨by rfl, ?_⟩) hHeld ?_
            rotate_left
            focus (intro W hSw; obtain ⟨hq0, hq1⟩ := hSw; unfold r20o12; go_simp; try with_reducible rfl)
            simp only [Act.put, r20o12, List.setIfInBounds_toArray, List.set_cons_zero, List.set_cons_succ]
            refine wpAnyH_take (i := 13) (oi := r20o13) (v := ?_) rfl (by kernel_rfl) (by kernel_rfl) (by kernel_rfl) (fun _ _ _ h => h) (Or.inl ⟨by rfl, ?_⟩) hHeld ?_
            rotate_left
            focus (intro W hSw; obtain ⟨hq0, hq1⟩ := hSw; unfold r20o13; go_simp; try with_reducible rfl)
            simp only [Act.put, r20o13, List.setIfInBounds_toArray, List.set_cons_zero, List.set_cons_succ]
            refine wpAnyH_take (i := 14) (oi := r20o14) (v := undef) rfl (by kernel_rfl) (by kernel_rfl) (by kernel_rfl) (fun _ _ _ h => h) (Or.inr ⟨by rfl, rfl⟩) hHeld ?_
            simp only [Act.put, r20o14, List.setIfInBounds_toArray, List.set_cons_zero, List.set_cons_succ]
            refine wpAnyH_take (i := 15) (oi := r20o15) (v := undef) rfl (by kernel_rfl) (by kernel_rfl) (by kernel_rfl) (fun _ _ _ h => h) (Or.inr ⟨by rfl, rfl⟩) hHeld ?_
            simp only [Act.put, r20o15, List.setIfInBounds_toArray, List.set_cons_zero, List.set_cons_succ]
            refine wpAnyH_take (i := 16) (oi := r20o16) (v := undef) rfl (by kernel_rfl) (by kernel_rfl) (by kernel_rfl) (fun _ _ _ h => h) (Or.inr ⟨by rfl, rfl⟩) hHeld ?_
            simp only [Act.put, r20o16, List.setIfInBounds_toArray, List.set_cons_zero, List.set_cons_succ]
            refine wpAnyH_take (i := 17) (oi := r20o17) (v := undef) rfl (by kernel_rfl) (by kernel_rfl) (by kernel_rfl) (fun _ _ _ h => h) (Or.inr ⟨by rfl, rfl⟩) hHeld ?_
            simp only [Act.put, r20o17, List.setIfInBounds_toArray, List.set_cons_zero, List.set_cons_succ]
            refine wpAnyH_take (i := 18) (oi := r20o18) (v := undef) rfl (by kernel_rfl) (by kernel_rfl) (by kernel_rfl) (fun _ _ _ h => h) (Or.inr ⟨by rfl, rfl⟩) hHeld ?_
            simp only [Act.put, r20o18, List.setIfInBounds_toArray, List.set_cons_zero, List.set_cons_succ]
            refine wpAnyH_take (i := 19) (oi := r20o19) (v := undef) rfl (by kernel_rfl) (by kernel_rfl) (by kernel_rfl) (fun _ _ _ h => h) (Or.inr ⟨by rfl, rfl⟩) hHeld ?_
            simp only [Act.put, r20o19, List.setIfInBounds_toArray, List.set_cons_zero, List.set_cons_succ]
            refine wpAnyH_take (i := 20) (oi := r20o20) (v := undef) rfl (by kernel_rfl) (by kernel_rfl) (by kernel_rfl) (fun _ _ _ h => h) (Or.inr ⟨by rfl, rfl⟩) hHeld ?_
            simp only [Act.put, r20o20, List.setIfInBounds_toArray, List.set_cons_zero, List.set_cons_succ]
            refine wpAnyH_take (i := 21) (oi := r20o21) (v := ?_) rfl (by kernel_rfl) (by kernel_rfl) (by kernel_rfl) (fun _ _ _ h => h) (Or.inl ⟨by rfl, ?_⟩) hHeld ?_
            rotate_left
            focus (intro W hSw; obtain ⟨hq0, hq1⟩ := hSw; unfold r20o21; go_simp; try with_reducible rfl)
            simp only [Act.put, r20o21, List.setIfInBounds_toArray, List.set_cons_zero, List.set_cons_succ]
            refine wpAnyH_take (i := 22) (oi := r20o22) (v := ?_) rfl (by kernel_rfl) (by kernel_rfl) (by kernel_rfl) (fun _ _ _ h => h) (Or.inl ⟨by rfl, ?_⟩) hHeld ?_
            rotate_left
            focus (intro W hSw; obtain ⟨hq0, hq1⟩ := hSw; unfold r20o22; go_simp; try with_reducible rfl)
            simp only [Act.put, r20o22, List.setIfInBounds_toArray, List.set_cons_zero, List.set_cons_succ]
            refine wpAnyH_take (i := 23) (oi := r20o23) (v := ?_) rfl (by kernel_rfl) (by kernel_rfl) (by kernel_rfl) (fun _ _ _ h => h) (Or.inl ⟨by rfl, ?_⟩) hHeld ?_
            rotate_left
            focus (intro W hSw; obtain ⟨hq0, hq1⟩ := hSw; unfold r20o23; go_simp; try with_reducible rfl)
            simp only [Act.put, r20o23, List.setIfInBounds_toArray, List.set_cons_zero, List.set_cons_succ]
            refine wpAnyH_take (i := 24) (oi := r20o24) (v := ?_) rfl (by kernel_rfl) (by kernel_rfl) (by kernel_rfl) (fun _ _ _ h => h) (Or.inl ⟨by rfl, ?_⟩) hHeld ?_
            rotate_left
            focus (intro W hSw; obtain ⟨hq0, hq1⟩ := hSw; unfold r20o24; go_simp; try with_reducible rfl)
            simp only [Act.put, r20o24, List.setIfInBounds_toArray, List.set_cons_zero, List.set_cons_succ]
            refine wpAnyH_take (i := 25) (oi := r20o25) (v := ?_) rfl (by kernel_rfl) (by kernel_rfl) (by kernel_rfl) (fun _ _ _ h => h) (Or.inl ⟨by rfl, ?_⟩) hHeld ?_
            rotate_left
            focus (intro W hSw; obtain ⟨hq0, hq1⟩ := hSw; unfold r20o25; go_simp; try with_reducible rfl)
            simp only [Act.put, r20o25, List.setIfInBounds_toArray, List.set_cons_zero, List.set_cons_succ]
            refine wpAnyH_take (i := 26) (oi := r20o26) (v := ?_) rfl (by kernel_rfl) (by kernel_rfl) (by kernel_rfl) (fun _ _ _ h => h) (Or.inl ⟨by rfl, ?_⟩) hHeld ?_
            rotate_left
            focus (intro W hSw; obtain ⟨hq0, hq1⟩ := hSw; unfold r20o26; go_simp; try with_reducible rfl)
            simp only [Act.put, r20o26, List.setIfInBounds_toArray, List.set_cons_zero, List.set_cons_succ]
            refine wpAnyH_take (i := 27) (oi := r20o27) (v := ?_) rfl (by kernel_rfl) (by kernel_rfl) (by kernel_rfl) (fun _ _ _ h => h) (Or.inl ⟨by rfl, ?_⟩) hHeld ?_
            rotate_left
            focus (intro W hSw; obtain ⟨hq0, hq1⟩ := hSw; unfold r20o27; go_simp; try with_reducible rfl)
            simp only [Act.put, r20o27, List.setIfInBounds_toArray, List.set_cons_zero, List.set_cons_succ]
            refine wpAnyH_take (i := 28) (oi := r20o28) (v := undef) rfl (by kernel_rfl) (by kernel_rfl) (by kernel_rfl) (fun _ _ _ h => h) (Or.inr ⟨by rfl, rfl⟩) hHeld ?_
            simp only [Act.put, r20o28, List.setIfInBounds_toArray, List.set_cons_zero, List.set_cons_succ]
            refine wpAnyH_take (i := 29) (oi := r20o29) (v := undef) rfl (by kernel_rfl) (by kernel_rfl) (by kernel_rfl) (fun _ _ _ h => h) (Or.inr ⟨by rfl, rfl⟩) hHeld ?_
            simp only [Act.put, r20o29, List.setIfInBounds_toArray, List.set_cons_zero, List.set_cons_succ]
            refine wpAnyH_take (i := 30) (oi := r20o30) (v := undef) rfl (by kernel_rfl) (by kernel_rfl) (by kernel_rfl) (fun _ _ _ h => h) (Or.inr ⟨by rfl, rfl⟩) hHeld ?_
            simp only [Act.put, r20o30, List.setIfInBounds_toArray, List.set_cons_zero, List.set_cons_succ]
            refine wpAnyH_take (i := 31) (oi := r20o31) (v := undef) rfl (by kernel_rfl) (by kernel_rfl) (by kernel_rfl) (fun _ _ _ h => h) (Or.inr ⟨by rfl, rfl⟩) hHeld ?_
            simp only [Act.put, r20o31, List.setIfInBounds_toArray, List.set_cons_zero, List.set_cons_succ]
            refine wpAnyH_take (i := 32) (oi := r20o32) (v := ?_) rfl (by kernel_rfl) (by kernel_rfl) (by kernel_rfl) (fun _ _ _ h => h) (Or.inl ⟨by rfl, ?_⟩) hHeld ?_
            rotate_left
            focus (intro W hSw; obtain ⟨hq0, hq1⟩ := hSw; unfold r20o32; go_simp; try with_reducible rfl)
            simp only [Act.put, r20o32, List.setIfInBounds_toArray, List.set_cons_zero, List.set_cons_succ]
            refine wpAnyH_take (i := 33) (oi := r20o33) (v := ?_) rfl (by kernel_rfl) (by kernel_rfl) (by kernel_rfl) (fun _ _ _ h => h) (Or.inl ⟨by rfl, ?_⟩) hHeld ?_
            rotate_left
            focus (intro W hSw; obtain ⟨hq0, hq1⟩ := hSw; unfold r20o33; go_simp; try with_reducible rfl)
            simp only [Act.put, r20o33, List.setIfInBounds_toArray, List.set_cons_zero, List.set_cons_succ]
            refine wpAnyH_take (i := 34) (oi := r20o34) (v := ?_) rfl (by kernel_rfl) (by kernel_rfl) (by kernel_rfl) (fun _ _ _ h => h) (Or.inl ⟨by rfl, ?_⟩) hHeld ?_
            rotate_left
            focus (intro W hSw; obtain ⟨hq0, hq1⟩ := hSw; unfold r20o34; go_simp; try with_reducible rfl)
            simp only [Act.put, r20o34, List.setIfInBounds_toArray, List.set_cons_zero, List.set_cons_succ]
            refine wpAnyH_take (i := 35) (oi := r20o35) (v := ?_) rfl (by kernel_rfl) (by kernel_rfl) (by kernel_rfl) (fun _ _ _ h => h) (Or.inl ⟨by rfl, ?_⟩) hHeld ?_
            rotate_left
            focus (intro W hSw; obtain ⟨hq0, hq1⟩ := hSw; unfold r20o35; go_simp; try with_reducible rfl)
            simp only [Act.put, r20o35, List.setIfInBounds_toArray, List.set_cons_zero, List.set_cons_succ]
            refine wpAnyH_take (i := 36) (oi := r20o36) (v := ?_) rfl (by kernel_rfl) (by kernel_rfl) (by kernel_rfl) (fun _ _ _ h => h) (Or.inl ⟨by rfl, ?_⟩) hHeld ?_
            rotate_left
            focus (intro W hSw; obtain ⟨hq0, hq1⟩ := hSw; unfold r20o36; go_simp; try with_reducible rfl)
            simp only [Act.put, r20o36, List.setIfInBounds_toArray, List.set_cons_zero, List.set_cons_succ]
            refine wpAnyH_take (i := 37) (oi := r20o37) (v := ?_) rfl (by kernel_rfl) (by kernel_rfl) (by kernel_rfl) (fun _ _ _ h => h) (Or.inl ⟨by rfl, ?_⟩) hHeld ?_
            rotate_left
            focus (intro W hSw; obtain ⟨hq0, hq1⟩ := hSw; unfold r20o37; go_simp; try with_reducible rfl)
            simp only [Act.put, r20o37, List.setIfInBounds_toArray, List.set_cons_zero, List.set_cons_succ]
            refine wpAnyH_take (i := 38) (oi := r20o38) (v := ?_) rfl (by kernel_rfl) (by kernel_rfl) (by kernel_rfl) (fun _ _ _ h => h) (Or.inl ⟨by rfl, ?_⟩) hHeld ?_
            rotate_left
            focus (intro W hSw; obtain ⟨hq0, hq1⟩ := hSw; unfold r20o38; go_simp; try with_reducible rfl)
            simp only [Act.put, r20o38, List.setIfInBounds_toArray, List.set_cons_zero, List.set_cons_succ]
            refine wpAnyH_take (i := 39) (oi := r20o39) (v := undef) rfl (by kernel_rfl) (by kernel_rfl) (by kernel_rfl) (fun _ _ _ h => h) (Or.inr ⟨by rfl, rfl⟩) hHeld ?_
            simp only [Act.put, r20o39, List.setIfInBounds_toArray, List.set_cons_zero, List.set_cons_succ]
            refine wpAnyH_take (i := 40) (oi := r20o40) (v := undef) rfl (by kernel_rfl) (by kernel_rfl) (by kernel_rfl) (fun _ _ _ h => h) (Or.inr ⟨by rfl, rfl⟩) hHeld ?_
            simp only [Act.put, r20o40, List.setIfInBounds_toArray, List.set_cons_zero, List.set_cons_succ]
            refine wpAnyH_take (i := 41) (oi := r20o41) (v := undef) rfl (by kernel_rfl) (by kernel_rfl) (by kernel_rfl) (fun _ _ _ h => h) (Or.inr ⟨by rfl, rfl⟩) hHeld ?_
            simp only [Act.put, r20o41, List.setIfInBounds_toArray, List.set_cons_zero, List.set_cons_succ]
            refine wpAnyH_take (i := 42) (oi := r20o42) (v := undef) rfl (by kernel_rfl) (by kernel_rfl) (by kernel_rfl) (fun _ _ _ h => h) (Or.inr ⟨by rfl, rfl⟩) hHeld ?_
            simp only [Act.put, r20o42, List.setIfInBounds_toArray, List.set_cons_zero, List.set_cons_succ]
            refine wpAnyH_take (i := 43) (oi := r20o43) (v := undef) rfl (by kernel_rfl) (by kernel_rfl) (by kernel_rfl) (fun _ _ _ h => h) (Or.inr ⟨by rfl, rfl⟩) hHeld ?_
            simp only [Act.put, r20o43, List.setIfInBounds_toArray, List.set_cons_zero, List.set_cons_succ]
            refine wpAnyH_take (i := 44) (oi := r20o44) (v := undef) rfl (by kernel_rfl) (by kernel_rfl) (by kernel_rfl) (fun _ _ _ h => h) (Or.inr ⟨by rfl, rfl⟩) hHeld ?_
            simp only [Act.put, r20o44, List.setIfInBounds_toArray, List.set_cons_zero, List.set_cons_succ]
            refine wpAnyH_take (i := 45) (oi := r20o45) (v := ?_) rfl (by kernel_rfl) (by kernel_rfl) (by kernel_rfl) (fun _ _ _ h => h) (Or.inl ⟨by rfl, ?_⟩) hHeld ?_
            rotate_left
            focus (intro W hSw; obtain ⟨hq0, hq1⟩ := hSw; unfold r20o45; go_simp; try with_reducible rfl)
            simp only [Act.put, r20o45, List.setIfInBounds_toArray, List.set_cons_zero, List.set_cons_succ]
            refine wpAnyH_take (i := 46) (oi := r20o46) (v := ?_) rfl (by kernel_rfl) (by kernel_rfl) (by kernel_rfl) (fun _ _ _ h => h) (Or.inl ⟨by rfl, ?_⟩) hHeld ?_
            rotate_left
            focus (intro W hSw; obtain ⟨hq0, hq1⟩ := hSw; unfold r20o46; go_simp; try with_reducible rfl)
            simp only [Act.put, r20o46, List.setIfInBounds_toArray, List.set_cons_zero, List.set_cons_succ]
            refine wpAnyH_take (i := 47) (oi := r20o47) (v := ?_) rfl (by kernel_rfl) (by kernel_rfl) (by kernel_rfl) (fun _ _ _ h => h) (Or.inl ⟨by rfl, ?_⟩) hHeld ?_
            rotate_left
            focus (intro W hSw; obtain ⟨hq0, hq1⟩ := hSw; unfold r20o47; go_simp; try with_reducible rfl)
            simp only [Act.put, r20o47, List.setIfInBounds_toArray, List.set_cons_zero, List.set_cons_succ]
            refine wpAnyH_take (i := 48) (oi := r20o48) (v := ?_) rfl (by kernel_rfl) (by kernel_rfl) (by kernel_rfl) (fun _ _ _ h => h) (Or.inl ⟨by rfl, ?_⟩) hHeld ?_
            rotate_left
            focus (intro W hSw; obtain ⟨hq0, hq1⟩ := hSw; unfold r20o48; go_simp; try with_reducible rfl)
            simp only [Act.put, r20o48, List.setIfInBounds_toArray, List.set_cons_zero, List.set_cons_succ]
            refine wpAnyH_take (i := 49) (oi := r20o49) (v := ?_) rfl (by kernel_rfl) (by kernel_rfl) (by kernel_rfl) (fun _ _ _ h => h) (Or.inl ⟨by rfl, ?_⟩) hHeld ?_
            rotate_left
            focus (intro W hSw; obtain ⟨hq0, hq1⟩ := hSw; unfold r20o49; go_simp; try with_reducible rfl)
            simp only [Act.put, r20o49, List.setIfInBounds_toArray, List.set_cons_zero, List.set_cons_succ]
            refine wpAnyH_take (i := 50) (oi := r20o50) (v := ?_) rfl (by kernel_rfl) (by kernel_rfl) (by kernel_rfl) (fun _ _ _ h => h) (Or.inl ⟨by rfl, ?_⟩) hHeld ?_
            rotate_left
            focus (intro W hSw; obtain ⟨hq0, hq1⟩ := hSw; unfold r20o50; go_simp; try with_reducible rfl)
            simp only [Act.put, r20o50, List.setIfInBounds_toArray, List.set_cons_zero, List.set_cons_succ]
            refine wpAnyH_take (i := 51) (oi := r20o51) (v := ?_) rfl (by kernel_rfl) (by kernel_rfl) (by kernel_rfl) (fun _ _ _ h => h) (Or.inl ⟨by rfl, ?_⟩) hHeld ?_
            rotate_left
            focus (intro W hSw; obtain ⟨hq0, hq1⟩ := hSw; unfold r20o51; go_simp; try with_reducible rfl)
            simp only [Act.put, r20o51, List.setIfInBounds_toArray, List.set_cons_zero, List.set_cons_succ]
            refine wpAnyH_take (i := 52) (oi := r20o52) (v := undef) rfl (by kernel_rfl) (by kernel_rfl) (by kernel_rfl) (fun _ _ _ h => h) (Or.inr ⟨by rfl, rfl⟩) hHeld ?_
            simp only [Act.put, r20o52, List.setIfInBounds_toArray, List.set_cons_zero, List.set_cons_succ]
            refine wpAnyH_take (i := 53) (oi := r20o53) (v := undef) rfl (by kernel_rfl) (by kernel_rfl) (by kernel_rfl) (fun _ _ _ h => h) (Or.inr ⟨by rfl, rfl⟩) hHeld ?_
            simp only [Act.put, r20o53, List.setIfInBounds_toArray, List.set_cons_zero, List.set_cons_succ]
            refine wpAnyH_take (i := 54) (oi := r20o54) (v := undef) rfl (by kernel_rfl) (by kernel_rfl) (by kernel_rfl) (fun _ _ _ h => h) (Or.inr ⟨by rfl, rfl⟩) hHeld ?_
            simp only [Act.put, r20o54, List.setIfInBounds_toArray, List.set_cons_zero, List.set_cons_succ]
            refine wpAnyH_take (i := 55) (oi := r20o55) (v := undef) rfl (by kernel_rfl) (by kernel_rfl) (by kernel_rfl) (fun _ _ _ h => h) (Or.inr ⟨by rfl, rfl⟩) hHeld ?_
            simp only [Act.put, r20o55, List.setIfInBounds_toArray, List.set_cons_zero, List.set_cons_succ]
            refine wpAnyH_take (i := 56) (oi := r20o56) (v := undef) rfl (by kernel_rfl) (by kernel_rfl) (by kernel_rfl) (fun _ _ _ h => h) (Or.inr ⟨by rfl, rfl⟩) hHeld ?_
            simp only [Act.put, r20o56, List.setIfInBounds_toArray, List.set_cons_zero, List.set_cons_succ]
            refine wpAnyH_take (i := 57) (oi := r20o57) (v := ?_) rfl (by kernel_rfl) (by kernel_rfl) (by kernel_rfl) (fun _ _ _ h => h) (Or.inl ⟨by rfl, ?_⟩) hHeld ?_
            rotate_left
            focus (intro W hSw; obtain ⟨hq0, hq1⟩ := hSw; unfold r20o57; go_simp; try with_reducible rfl)
            simp only [Act.put, r20o57, List.setIfInBounds_toArray, List.set_cons_zero, List.set_cons_succ]
            refine wpAnyH_take (i := 58) (oi := r20o58) (v := ?_) rfl (by kernel_rfl) (by kernel_rfl) (by kernel_rfl) (fun _ _ _ h => h) (Or.inl ⟨by rfl, ?_⟩) hHeld ?_
            rotate_left
            focus (intro W hSw; obtain ⟨hq0, hq1⟩ := hSw; unfold r20o58; go_simp; try with_reducible rfl)
            simp only [Act.put, r20o58, List.setIfInBounds_toArray, List.set_cons_zero, List.set_cons_succ]
            refine wpAnyH_done (by kernel_rfl) ?_ _
            all_goals go_wp2_with (first | (go_at_call 21; refine (left_any HC4.out).mono ?_; rintro r w6 ⟨rfl, mm, rfl⟩) | (go_at_call 22; refine (good_any (HC4.out.drewN _)).mono ?_; rintro r w7 ⟨rfl, rfl⟩))
            all_goals go_roundw
            all_goals first | (case rel => exact ⟨k + 1, p, er, by omega, by go_num, by go_num, rfl, HC4.out.drewN _, below_drewN' HK4.out _⟩) | (case measure => simp [intOf]; omega)
      by_cases hd1 : dk = 1
      · subst hd1
        obtain ⟨by_, size, f, hps, hstep, hact⟩ := bytesAct mk hp h1
        have HS := Lib.hid hstep
        have HA := Lib.hid hact
        clear hstep hact
        go_wp2_with fail
        refine (HS.out _ 0 w.heap.size A c ((H.out.below HK.out (Nat.le_refl _)).alloc sr _) (by simp; omega)).mono ?_
        rintro r w3 ⟨A', c', rfl, hrd, hb3⟩
        have hca : w3.cell? ⟨wr.heap.size, 0, none⟩ = some (.int .i64 1) := (hb3.cell (p := ⟨wr.heap.size, 0, none⟩) (by simp)).trans (World.cell?_alloc_at _ _ _ _ rfl)
        have hcb : w3.cell? ⟨wr.heap.size, 1, none⟩ = some (.int .i64 mk) := (hb3.cell (p := ⟨wr.heap.size, 1, none⟩) (by simp)).trans (World.cell?_alloc_at _ _ _ _ rfl)
        have HC3 := Lib.hid ((HC.out.grown (gb_alloc (gb_refl _ none) _) (by simp)).grown (below_gb_none (Nat.le_refl _) hb3) (by simp))
        have HR3 := Lib.hid hrd
        have k3 := below_below (HK.out.alloc sr _) hb3 (by simp; omega)
        have HK3 := Lib.hid k3
        have s3 := k3.size
        have z3 := hb3.size
        simp only [World.size_alloc] at z3
        clear hrd hb3 k3
        by_cases her : er = 0
        · as_aux_lemma =>
            subst her
            go_wp2_with fail
            refine wp_region_held_drew (S := fun W => W.cell? ⟨wr.heap.size, 0, none⟩ = some (.int .i64 1) ∧ W.cell? ⟨wr.heap.size, 1, none⟩ = some (.int .i64 mk)) (by kernel_rfl) ⟨hca, hcb⟩ (fun hHeld => ?_)
            refine wpAnyH_take (i := 0) (oi := r20o0) (v := ?_) rfl (by kernel_rfl) (by kernel_rfl) (by kernel_rfl) (fun _ _ _ h => h) (Or.inl ⟨by rfl, ?_⟩) hHeld ?_
            rotate_left
            focus (intro W hSw; obtain ⟨hq0, hq1⟩ := hSw; unfold r20o0; go_simp; try with_reducible rfl)
            simp only [Act.put, r20o0, List.setIfInBounds_toArray, List.set_cons_zero, List.set_cons_succ]
            refine wpAnyH_take (i := 1) (oi := r20o1) (v := ?_) rfl (by kernel_rfl) (by kernel_rfl) (by kernel_rfl) (fun _ _ _ h => h) (Or.inl ⟨by rfl, ?_⟩) hHeld ?_
            rotate_left
            focus (intro W hSw; obtain ⟨hq0, hq1⟩ := hSw; unfold r20o1; go_simp; try with_reducible rfl)
            simp only [Act.put, r20o1, List.setIfInBounds_toArray, List.set_cons_zero, List.set_cons_succ]
            refine wpAnyH_take (i := 2) (oi := r20o2) (v := ?_) rfl (by kernel_rfl) (by kernel_rfl) (by kernel_rfl) (fun _ _ _ h => h) (Or.inl ⟨by rfl, ?_⟩) hHeld ?_
            rotate_left
            focus (intro W hSw; obtain ⟨hq0, hq1⟩ := hSw; unfold r20o2; go_simp; try with_reducible rfl)
            simp only [Act.put, r20o2, List.setIfInBounds_toArray, List.set_cons_zero, List.set_cons_succ]
            refine wpAnyH_take (i := 3) (oi := r20o3) (v := ?_) rfl (by kernel_rfl) (by kernel_rfl) (by kernel_rfl) (fun _ _ _ h => h) (Or.inl ⟨by rfl, ?_⟩) hHeld ?_
            rotate_left
            focus (intro W hSw; obtain ⟨hq0, hq1⟩ := hSw; unfold r20o3; go_simp; try with_reducible rfl)
            simp only [Act.put, r20o3, List.setIfInBounds_toArray, List.set_cons_zero, List.set_cons_succ]
            refine wpAnyH_take (i := 4) (oi := r20o4) (v := undef) rfl (by kernel_rfl) (by kernel_rfl) (by kernel_rfl) (fun _ _ _ h => h) (Or.inr ⟨by rfl, rfl⟩) hHeld ?_
            simp only [Act.put, r20o4, List.setIfInBounds_toArray, List.set_cons_zero, List.set_cons_succ]
            refine wpAnyH_take (i := 5) (oi := r20o5) (v := undef) rfl (by kernel_rfl) (by kernel_rfl) (by kernel_rfl) (fun _ _ _ h => h) (Or.inr ⟨by rfl, rfl⟩) hHeld ?_
            simp only [Act.put, r20o5, List.setIfInBounds_toArray, List.set_cons_zero, List.set_cons_succ]
            refine wpAnyH_take (i := 6) (oi := r20o6) (v := undef) rfl (by kernel_rfl) (by kernel_rfl) (by kernel_rfl) (fun _ _ _ h => h) (Or.inr ⟨by rfl, rfl⟩) hHeld ?_
            simp only [Act.put, r20o6, List.setIfInBounds_toArray, List.set_cons_zero, List.set_cons_succ]
            refine wpAnyH_take (i := 7) (oi := r20o7) (v := undef) rfl (by kernel_rfl) (by kernel_rfl) (by kernel_rfl) (fun _ _ _ h => h) (Or.inr ⟨by rfl, rfl⟩) hHeld ?_
            simp only [Act.put, r20o7, List.setIfInBounds_toArray, List.set_cons_zero, List.set_cons_succ]
            refine wpAnyH_take (i := 8) (oi := r20o8) (v := ?_) rfl (by kernel_rfl) (by kernel_rfl) (by kernel_rfl) (fun _ _ _ h => h) (Or.inl ⟨by rfl, ?_⟩) hHeld ?_
            rotate_left
            focus (intro W hSw; obtain ⟨hq0, hq1⟩ := hSw; unfold r20o8; go_simp; try with_reducible rfl)
            simp only [Act.put, r20o8, List.setIfInBounds_toArray, List.set_cons_zero, List.set_cons_succ]
            refine wpAnyH_take (i := 9) (oi := r20o9) (v := ?_) rfl (by kernel_rfl) (by kernel_rfl) (by kernel_rfl) (fun _ _ _ h => h) (Or.inl ⟨by rfl, ?_⟩) hHeld ?_
            rotate_left
            focus (intro W hSw; obtain ⟨hq0, hq1⟩ := hSw; unfold r20o9; go_simp; try with_reducible rfl)
            simp only [Act.put, r20o9, List.setIfInBounds_toArray, List.set_cons_zero, List.set_cons_succ]
            refine wpAnyH_take (i := 10) (oi := r20o10) (v := ?_) rfl (by kernel_rfl) (by kernel_rfl) (by kernel_rfl) (fun _ _ _ h => h) (Or.inl ⟨by rfl, ?_⟩) hHeld ?_
            rotate_left
            focus (intro W hSw; obtain ⟨hq0, hq1⟩ := hSw; unfold r20o10; go_simp; try with_reducible rfl)
            simp only [Act.put, r20o10, List.setIfInBounds_toArray, List.set_cons_zero, List.set_cons_succ]
            refine wpAnyH_take (i := 11) (oi := r20o11) (v := ?_) rfl (by kernel_rfl) (by kernel_rfl) (by kernel_rfl) (fun _ _ _ h => h) (Or.inl ⟨by rfl, ?_⟩) hHeld ?_
            rotate_left
            focus (intro W hSw; obtain ⟨hq0, hq1⟩ := hSw; unfold r20o11; go_simp; try with_reducible rfl)
            simp only [Act.put, r20o11, List.setIfInBounds_toArray, List.set_cons_zero, List.set_cons_succ]
            refine wpAnyH_take (i := 12) (oi := r20o12) (v := ?_) rfl (by kernel_rfl) (by kernel_rfl) (by kernel_rfl) (fun _ _ _ h => h) (Or.inl ⟨by rfl, ?_⟩) hHeld ?_
            rotate_left
            focus (intro W hSw; obtain ⟨hq0, hq1⟩ := hSw; unfold r20o12; go_simp; try with_reducible rfl)
            simp only [Act.put, r20o12, List.setIfInBounds_toArray, List.set_cons_zero, List.set_cons_succ]
            refine wpAnyH_take (i := 13) (oi := r20o13) (v := ?_) rfl (by kernel_rfl) (by kernel_rfl) (by kernel_rfl) (fun _ _ _ h => h) (Or.inl ⟨by rfl, ?_⟩) hHeld ?_
            rotate_left
            focus (intro W hSw; obtain ⟨hq0, hq1⟩ := hSw; unfold r20o13; go_simp; try with_reducible rfl)
            simp only [Act.put, r20o13, List.setIfInBounds_toArray, List.set_cons_zero, List.set_cons_succ]
            refine wpAnyH_take (i := 14) (oi := r20o14) (v := ?_) rfl (by kernel_rfl) (by kernel_rfl) (by kernel_rfl) (fun _ _ _ h => h) (Or.inl ⟨by rfl, ?_⟩) hHeld ?_
            rotate_left
            focus (intro W hSw; obtain ⟨hq0, hq1⟩ := hSw; unfold r20o14; go_simp; try with_reducible rfl)
            simp only [Act.put, r20o14, List.setIfInBounds_toArray, List.set_cons_zero, List.set_cons_succ]
            refine wpAnyH_take (i := 15) (oi := r20o15) (v := ?_) rfl (by kernel_rfl) (by kernel_rfl) (by kernel_rfl) (fun _ _ _ h => h) (Or.inl ⟨by rfl, ?_⟩) hHeld ?_
            rotate_left
            focus (intro W hSw; obtain ⟨hq0, hq1⟩ := hSw; unfold r20o15; go_simp; try with_reducible rfl)
            simp only [Act.put, r20o15, List.setIfInBounds_toArray, List.set_cons_zero, List.set_cons_succ]
            refine wpAnyH_take (i := 16) (oi := r20o16) (v := ?_) rfl (by kernel_rfl) (by kernel_rfl) (by kernel_rfl) (fun _ _ _ h => h) (Or.inl ⟨by rfl, ?_⟩) hHeld ?_
            rotate_left
            focus (intro W hSw; obtain ⟨hq0, hq1⟩ := hSw; unfold r20o16; go_simp; try with_reducible rfl)
            simp only [Act.put, r20o16, List.setIfInBounds_toArray, List.set_cons_zero, List.set_cons_succ]
            refine wpAnyH_take (i := 18) (oi := r20o18) (v := ?_) rfl (by kernel_rfl) (by kernel_rfl) (by kernel_rfl) (fun _ _ _ h => h) (Or.inl ⟨by rfl, ?_⟩) hHeld ?_
            rotate_left
            focus (intro W hSw; obtain ⟨hq0, hq1⟩ := hSw; unfold r20o18; go_simp; try with_reducible rfl)
            simp only [Act.put, r20o18, List.setIfInBounds_toArray, List.set_cons_zero, List.set_cons_succ]
            refine wpAnyH_ready (rs := [17]) (by kernel_rfl) (by simp) ?_
            refine AllReadyH.cons (o := r20o17) rfl (fun K hK => ?_) AllReadyH.nil
            unfold r20o17
            go_simp
            refine (HA.out _ _ _ HC3.out.drew).mono ?_
            rintro r w4 ⟨A4, c4, rfl, hr4, hc4, hg4⟩
            have hca4 := hg4.cell (a := ⟨wr.heap.size, 0, none⟩) hca (by simp; omega)
            have hcb4 := hg4.cell (a := ⟨wr.heap.size, 1, none⟩) hcb (by simp; omega)
            have k4 := below_some (Below.drew HK3.out) hg4 s3 (by omega)
            have HC4 := Lib.hid hc4
            have HK4 := Lib.hid k4
            have HG4 := Lib.hid hg4
            have s4 := k4.size
            have HR4 := Lib.hid hr4
            clear hr4 hc4 hg4 k4
            refine hK.out _ _ ⟨hca4, hcb4⟩ (fun hHeld => ?_)
            clear hK K
            refine wpAnyH_ready (rs := [19]) (by kernel_rfl) (by simp) ?_
            refine AllReadyH.cons (o := r20o19) rfl (fun K hK => ?_) AllReadyH.nil
            unfold r20o19
            go_simp
            refine (same_any by_ by_ HR4.out (HR3.out.drew.grown HG4.out (by show w.heap.size ≤ w3.heap.size; exact s3) (fun x hx => .inr (by injection hx with hx; omega)))).mono ?_
            rintro r w5 ⟨rfl, rfl⟩
            rw [decide_eq_true (rfl : (by_ : List UInt8) = by_)]
            refine hK.out _ _ ⟨hca4, hcb4⟩ (fun hHeld => ?_)
            clear hK K
            refine wpAnyH_take (i := 20) (oi := r20o20) (v := ?_) rfl (by kernel_rfl) (by kernel_rfl) (by kernel_rfl) (fun _ _ _ h => h) (Or.inl ⟨by rfl, ?_⟩) hHeld ?_
            rotate_left
            focus (intro W hSw; obtain ⟨hq0, hq1⟩ := hSw; unfold r20o20; go_simp; try with_reducible rfl)
            simp only [Act.put, r20o20, List.setIfInBounds_toArray, List.set_cons_zero, List.set_cons_succ]
            refine wpAnyH_take (i := 21) (oi := r20o21) (v := ?_) rfl (by kernel_rfl) (by kernel_rfl) (by kernel_rfl) (fun _ _ _ h => h) (Or.inl ⟨by rfl, ?_⟩) hHeld ?_
            rotate_left
            focus (intro W hSw; obtain ⟨hq0, hq1⟩ := hSw; unfold r20o21; go_simp; try with_reducible rfl)
            simp only [Act.put, r20o21, List.setIfInBounds_toArray, List.set_cons_zero, List.set_cons_succ]
            refine wpAnyH_take (i := 22) (oi := r20o22) (v := ?_) rfl (by kernel_rfl) (by kernel_rfl) (by kernel_rfl) (fun _ _ _ h => h) (Or.inl ⟨by rfl, ?_⟩) hHeld ?_
            rotate_left
            focus (intro W hSw; obtain ⟨hq0, hq1⟩ := hSw; unfold r20o22; go_simp; try with_reducible rfl)
            simp only [Act.put, r20o22, List.setIfInBounds_toArray, List.set_cons_zero, List.set_cons_succ]
            refine wpAnyH_take (i := 23) (oi := r20o23) (v := ?_) rfl (by kernel_rfl) (by kernel_rfl) (by kernel_rfl) (fun _ _ _ h => h) (Or.inl ⟨by rfl, ?_⟩) hHeld ?_
            rotate_left
            focus (intro W hSw; obtain ⟨hq0, hq1⟩ := hSw; unfold r20o23; go_simp; try with_reducible rfl)
            simp only [Act.put, r20o23, List.setIfInBounds_toArray, List.set_cons_zero, List.set_cons_succ]
            refine wpAnyH_take (i := 24) (oi := r20o24) (v := ?_) rfl (by kernel_rfl) (by kernel_rfl) (by kernel_rfl) (fun _ _ _ h => h) (Or.inl ⟨by rfl, ?_⟩) hHeld ?_
            rotate_left
            focus (intro W hSw; obtain ⟨hq0, hq1⟩ := hSw; unfold r20o24; go_simp; try with_reducible rfl)
            simp only [Act.put, r20o24, List.setIfInBounds_toArray, List.set_cons_zero, List.set_cons_succ]
            refine wpAnyH_take (i := 25) (oi := r20o25) (v := ?_) rfl (by kernel_rfl) (by kernel_rfl) (by kernel_rfl) (fun _ _ _ h => h) (Or.inl ⟨by rfl, ?_⟩) hHeld ?_
            rotate_left
            focus (intro W hSw; obtain ⟨hq0, hq1⟩ := hSw; unfold r20o25; go_simp; try with_reducible rfl)
            simp only [Act.put, r20o25, List.setIfInBounds_toArray, List.set_cons_zero, List.set_cons_succ]
            refine wpAnyH_take (i := 26) (oi := r20o26) (v := ?_) rfl (by kernel_rfl) (by kernel_rfl) (by kernel_rfl) (fun _ _ _ h => h) (Or.inl ⟨by rfl, ?_⟩) hHeld ?_
            rotate_left
            focus (intro W hSw; obtain ⟨hq0, hq1⟩ := hSw; unfold r20o26; go_simp; try with_reducible rfl)
            simp only [Act.put, r20o26, List.setIfInBounds_toArray, List.set_cons_zero, List.set_cons_succ]
            refine wpAnyH_take (i := 27) (oi := r20o27) (v := ?_) rfl (by kernel_rfl) (by kernel_rfl) (by kernel_rfl) (fun _ _ _ h => h) (Or.inl ⟨by rfl, ?_⟩) hHeld ?_
            rotate_left
            focus (intro W hSw; obtain ⟨hq0, hq1⟩ := hSw; unfold r20o27; go_simp; try with_reducible rfl)
            simp only [Act.put, r20o27, List.setIfInBounds_toArray, List.set_cons_zero, List.set_cons_succ]
            refine wpAnyH_take (i := 28) (oi := r20o28) (v := undef) rfl (by kernel_rfl) (by kernel_rfl) (by kernel_rfl) (fun _ _ _ h => h) (Or.inr ⟨by rfl, rfl⟩) hHeld ?_
            simp only [Act.put, r20o28, List.setIfInBounds_toArray, List.set_cons_zero, List.set_cons_succ]
            refine wpAnyH_take (i := 29) (oi := r20o29) (v := undef) rfl (by kernel_rfl) (by kernel_rfl) (by kernel_rfl) (fun _ _ _ h => h) (Or.inr ⟨by rfl, rfl⟩) hHeld ?_
            simp only [Act.put, r20o29, List.setIfInBounds_toArray, List.set_cons_zero, List.set_cons_succ]
            refine wpAnyH_take (i := 30) (oi := r20o30) (v := undef) rfl (by kernel_rfl) (by kernel_rfl) (by kernel_rfl) (fun _ _ _ h => h) (Or.inr ⟨by rfl, rfl⟩) hHeld ?_
            simp only [Act.put, r20o30, List.setIfInBounds_toArray, List.set_cons_zero, List.set_cons_succ]
            refine wpAnyH_take (i := 31) (oi := r20o31) (v := undef) rfl (by kernel_rfl) (by kernel_rfl) (by kernel_rfl) (fun _ _ _ h => h) (Or.inr ⟨by rfl, rfl⟩) hHeld ?_
            simp only [Act.put, r20o31, List.setIfInBounds_toArray, List.set_cons_zero, List.set_cons_succ]
            refine wpAnyH_take (i := 32) (oi := r20o32) (v := ?_) rfl (by kernel_rfl) (by kernel_rfl) (by kernel_rfl) (fun _ _ _ h => h) (Or.inl ⟨by rfl, ?_⟩) hHeld ?_
            rotate_left
            focus (intro W hSw; obtain ⟨hq0, hq1⟩ := hSw; unfold r20o32; go_simp; try with_reducible rfl)
            simp only [Act.put, r20o32, List.setIfInBounds_toArray, List.set_cons_zero, List.set_cons_succ]
            refine wpAnyH_take (i := 33) (oi := r20o33) (v := ?_) rfl (by kernel_rfl) (by kernel_rfl) (by kernel_rfl) (fun _ _ _ h => h) (Or.inl ⟨by rfl, ?_⟩) hHeld ?_
            rotate_left
            focus (intro W hSw; obtain ⟨hq0, hq1⟩ := hSw; unfold r20o33; go_simp; try with_reducible rfl)
            simp only [Act.put, r20o33, List.setIfInBounds_toArray, List.set_cons_zero, List.set_cons_succ]
            refine wpAnyH_take (i := 34) (oi := r20o34) (v := ?_) rfl (by kernel_rfl) (by kernel_rfl) (by kernel_rfl) (fun _ _ _ h => h) (Or.inl ⟨by rfl, ?_⟩) hHeld ?_
            rotate_left
            focus (intro W hSw; obtain ⟨hq0, hq1⟩ := hSw; unfold r20o34; go_simp; try with_reducible rfl)
            simp only [Act.put, r20o34, List.setIfInBounds_toArray, List.set_cons_zero, List.set_cons_succ]
            refine wpAnyH_take (i := 35) (oi := r20o35) (v := ?_) rfl (by kernel_rfl) (by kernel_rfl) (by kernel_rfl) (fun _ _ _ h => h) (Or.inl ⟨by rfl, ?_⟩) hHeld ?_
            rotate_left
            focus (intro W hSw; obtain ⟨hq0, hq1⟩ := hSw; unfold r20o35; go_simp; try with_reducible rfl)
            simp only [Act.put, r20o35, List.setIfInBounds_toArray, List.set_cons_zero, List.set_cons_succ]
            refine wpAnyH_take (i := 36) (oi := r20o36) (v := ?_) rfl (by kernel_rfl) (by kernel_rfl) (by kernel_rfl) (fun _ _ _ h => h) (Or.inl ⟨by rfl, ?_⟩) hHeld ?_
            rotate_left
            focus (intro W hSw; obtain ⟨hq0, hq1⟩ := hSw; unfold r20o36; go_simp; try with_reducible rfl)
            simp only [Act.put, r20o36, List.setIfInBounds_toArray, List.set_cons_zero, List.set_cons_succ]
            refine wpAnyH_take (i := 37) (oi := r20o37) (v := ?_) rfl (by kernel_rfl) (by kernel_rfl) (by kernel_rfl) (fun _ _ _ h => h) (Or.inl ⟨by rfl, ?_⟩) hHeld ?_
            rotate_left
            focus (intro W hSw; obtain ⟨hq0, hq1⟩ := hSw; unfold r20o37; go_simp; try with_reducible rfl)
            simp only [Act.put, r20o37, List.setIfInBounds_toArray, List.set_cons_zero, List.set_cons_succ]
            refine wpAnyH_take (i := 38) (oi := r20o38) (v := ?_) rfl (by kernel_rfl) (by kernel_rfl) (by kernel_rfl) (fun _ _ _ h => h) (Or.inl ⟨by rfl, ?_⟩) hHeld ?_
            rotate_left
            focus (intro W hSw; obtain ⟨hq0, hq1⟩ := hSw; unfold r20o38; go_simp; try with_reducible rfl)
            simp only [Act.put, r20o38, List.setIfInBounds_toArray, List.set_cons_zero, List.set_cons_succ]
            refine wpAnyH_take (i := 39) (oi := r20o39) (v := undef) rfl (by kernel_rfl) (by kernel_rfl) (by kernel_rfl) (fun _ _ _ h => h) (Or.inr ⟨by rfl, rfl⟩) hHeld ?_
            simp only [Act.put, r20o39, List.setIfInBounds_toArray, List.set_cons_zero, List.set_cons_succ]
            refine wpAnyH_take (i := 40) (oi := r20o40) (v := undef) rfl (by kernel_rfl) (by kernel_rfl) (by kernel_rfl) (fun _ _ _ h => h) (Or.inr ⟨by rfl, rfl⟩) hHeld ?_
            simp only [Act.put, r20o40, List.setIfInBounds_toArray, List.set_cons_zero, List.set_cons_succ]
            refine wpAnyH_take (i := 41) (oi := r20o41) (v := undef) rfl (by kernel_rfl) (by kernel_rfl) (by kernel_rfl) (fun _ _ _ h => h) (Or.inr ⟨by rfl, rfl⟩) hHeld ?_
            simp only [Act.put, r20o41, List.setIfInBounds_toArray, List.set_cons_zero, List.set_cons_succ]
            refine wpAnyH_take (i := 42) (oi := r20o42) (v := undef) rfl (by kernel_rfl) (by kernel_rfl) (by kernel_rfl) (fun _ _ _ h => h) (Or.inr ⟨by rfl, rfl⟩) hHeld ?_
            simp only [Act.put, r20o42, List.setIfInBounds_toArray, List.set_cons_zero, List.set_cons_succ]
            refine wpAnyH_take (i := 43) (oi := r20o43) (v := undef) rfl (by kernel_rfl) (by kernel_rfl) (by kernel_rfl) (fun _ _ _ h => h) (Or.inr ⟨by rfl, rfl⟩) hHeld ?_
            simp only [Act.put, r20o43, List.setIfInBounds_toArray, List.set_cons_zero, List.set_cons_succ]
            refine wpAnyH_take (i := 44) (oi := r20o44) (v := undef) rfl (by kernel_rfl) (by kernel_rfl) (by kernel_rfl) (fun _ _ _ h => h) (Or.inr ⟨by rfl, rfl⟩) hHeld ?_
            simp only [Act.put, r20o44, List.setIfInBounds_toArray, List.set_cons_zero, List.set_cons_succ]
            refine wpAnyH_take (i := 45) (oi := r20o45) (v := ?_) rfl (by kernel_rfl) (by kernel_rfl) (by kernel_rfl) (fun _ _ _ h => h) (Or.inl ⟨by rfl, ?_⟩) hHeld ?_
            rotate_left
            focus (intro W hSw; obtain ⟨hq0, hq1⟩ := hSw; unfold r20o45; go_simp; try with_reducible rfl)
            simp only [Act.put, r20o45, List.setIfInBounds_toArray, List.set_cons_zero, List.set_cons_succ]
            refine wpAnyH_take (i := 46) (oi := r20o46) (v := ?_) rfl (by kernel_rfl) (by kernel_rfl) (by kernel_rfl) (fun _ _ _ h => h) (Or.inl ⟨by rfl, ?_⟩) hHeld ?_
            rotate_left
            focus (intro W hSw; obtain ⟨hq0, hq1⟩ := hSw; unfold r20o46; go_simp; try with_reducible rfl)
            simp only [Act.put, r20o46, List.setIfInBounds_toArray, List.set_cons_zero, List.set_cons_succ]
            refine wpAnyH_take (i := 47) (oi := r20o47) (v := ?_) rfl (by kernel_rfl) (by kernel_rfl) (by kernel_rfl) (fun _ _ _ h => h) (Or.inl ⟨by rfl, ?_⟩) hHeld ?_
            rotate_left
            focus (intro W hSw; obtain ⟨hq0, hq1⟩ := hSw; unfold r20o47; go_simp; try with_reducible rfl)
            simp only [Act.put, r20o47, List.setIfInBounds_toArray, List.set_cons_zero, List.set_cons_succ]
            refine wpAnyH_take (i := 48) (oi := r20o48) (v := ?_) rfl (by kernel_rfl) (by kernel_rfl) (by kernel_rfl) (fun _ _ _ h => h) (Or.inl ⟨by rfl, ?_⟩) hHeld ?_
            rotate_left
            focus (intro W hSw; obtain ⟨hq0, hq1⟩ := hSw; unfold r20o48; go_simp; try with_reducible rfl)
            simp only [Act.put, r20o48, List.setIfInBounds_toArray, List.set_cons_zero, List.set_cons_succ]
            refine wpAnyH_take (i := 49) (oi := r20o49) (v := ?_) rfl (by kernel_rfl) (by kernel_rfl) (by kernel_rfl) (fun _ _ _ h => h) (Or.inl ⟨by rfl, ?_⟩) hHeld ?_
            rotate_left
            focus (intro W hSw; obtain ⟨hq0, hq1⟩ := hSw; unfold r20o49; go_simp; try with_reducible rfl)
            simp only [Act.put, r20o49, List.setIfInBounds_toArray, List.set_cons_zero, List.set_cons_succ]
            refine wpAnyH_take (i := 50) (oi := r20o50) (v := ?_) rfl (by kernel_rfl) (by kernel_rfl) (by kernel_rfl) (fun _ _ _ h => h) (Or.inl ⟨by rfl, ?_⟩) hHeld ?_
            rotate_left
            focus (intro W hSw; obtain ⟨hq0, hq1⟩ := hSw; unfold r20o50; go_simp; try with_reducible rfl)
            simp only [Act.put, r20o50, List.setIfInBounds_toArray, List.set_cons_zero, List.set_cons_succ]
            refine wpAnyH_take (i := 51) (oi := r20o51) (v := ?_) rfl (by kernel_rfl) (by kernel_rfl) (by kernel_rfl) (fun _ _ _ h => h) (Or.inl ⟨by rfl, ?_⟩) hHeld ?_
            rotate_left
            focus (intro W hSw; obtain ⟨hq0, hq1⟩ := hSw; unfold r20o51; go_simp; try with_reducible rfl)
            simp only [Act.put, r20o51, List.setIfInBounds_toArray, List.set_cons_zero, List.set_cons_succ]
            refine wpAnyH_take (i := 52) (oi := r20o52) (v := undef) rfl (by kernel_rfl) (by kernel_rfl) (by kernel_rfl) (fun _ _ _ h => h) (Or.inr ⟨by rfl, rfl⟩) hHeld ?_
            simp only [Act.put, r20o52, List.setIfInBounds_toArray, List.set_cons_zero, List.set_cons_succ]
            refine wpAnyH_take (i := 53) (oi := r20o53) (v := undef) rfl (by kernel_rfl) (by kernel_rfl) (by kernel_rfl) (fun _ _ _ h => h) (Or.inr ⟨by rfl, rfl⟩) hHeld ?_
            simp only [Act.put, r20o53, List.setIfInBounds_toArray, List.set_cons_zero, List.set_cons_succ]
            refine wpAnyH_take (i := 54) (oi := r20o54) (v := undef) rfl (by kernel_rfl) (by kernel_rfl) (by kernel_rfl) (fun _ _ _ h => h) (Or.inr ⟨by rfl, rfl⟩) hHeld ?_
            simp only [Act.put, r20o54, List.setIfInBounds_toArray, List.set_cons_zero, List.set_cons_succ]
            refine wpAnyH_take (i := 55) (oi := r20o55) (v := undef) rfl (by kernel_rfl) (by kernel_rfl) (by kernel_rfl) (fun _ _ _ h => h) (Or.inr ⟨by rfl, rfl⟩) hHeld ?_
            simp only [Act.put, r20o55, List.setIfInBounds_toArray, List.set_cons_zero, List.set_cons_succ]
            refine wpAnyH_take (i := 56) (oi := r20o56) (v := undef) rfl (by kernel_rfl) (by kernel_rfl) (by kernel_rfl) (fun _ _ _ h => h) (Or.inr ⟨by rfl, rfl⟩) hHeld ?_
            simp only [Act.put, r20o56, List.setIfInBounds_toArray, List.set_cons_zero, List.set_cons_succ]
            refine wpAnyH_take (i := 57) (oi := r20o57) (v := ?_) rfl (by kernel_rfl) (by kernel_rfl) (by kernel_rfl) (fun _ _ _ h => h) (Or.inl ⟨by rfl, ?_⟩) hHeld ?_
            rotate_left
            focus (intro W hSw; obtain ⟨hq0, hq1⟩ := hSw; unfold r20o57; go_simp; try with_reducible rfl)
            simp only [Act.put, r20o57, List.setIfInBounds_toArray, List.set_cons_zero, List.set_cons_succ]
            refine wpAnyH_take (i := 58) (oi := r20o58) (v := ?_) rfl (by kernel_rfl) (by kernel_rfl) (by kernel_rfl) (fun _ _ _ h => h) (Or.inl ⟨by rfl, ?_⟩) hHeld ?_
            rotate_left
            focus (intro W hSw; obtain ⟨hq0, hq1⟩ := hSw; unfold r20o58; go_simp; try with_reducible rfl)
            simp only [Act.put, r20o58, List.setIfInBounds_toArray, List.set_cons_zero, List.set_cons_succ]
            refine wpAnyH_done (by kernel_rfl) ?_ _
            all_goals go_wp2_with (first | (go_at_call 21; refine (left_any HC4.out).mono ?_; rintro r w6 ⟨rfl, mm, rfl⟩) | (go_at_call 22; refine (good_any (HC4.out.drewN _)).mono ?_; rintro r w7 ⟨rfl, rfl⟩))
            all_goals go_roundw
            all_goals first | (case rel => exact ⟨k + 1, p + size, f, by omega, by go_num, by go_num, rfl, HC4.out.drewN _, below_drewN' HK4.out _⟩) | (case measure => simp [intOf]; omega)
        · as_aux_lemma =>
            have HB := Lib.hid ((bytesBad mk h1 her : ActB bs mk p er [] 0 er))
            have e1 : (er == 0) = false := by simpa using her
            have e2 : (er != 0) = true := by simpa using her
            have HER := Lib.hid her
            clear her HA HS
            go_wp2_with fail
            refine wp_region_held_drew (S := fun W => W.cell? ⟨wr.heap.size, 0, none⟩ = some (.int .i64 1) ∧ W.cell? ⟨wr.heap.size, 1, none⟩ = some (.int .i64 mk)) (by kernel_rfl) ⟨hca, hcb⟩ (fun hHeld => ?_)
            refine wpAnyH_take (i := 0) (oi := r20o0) (v := ?_) rfl (by kernel_rfl) (by kernel_rfl) (by kernel_rfl) (fun _ _ _ h => h) (Or.inl ⟨by rfl, ?_⟩) hHeld ?_
            rotate_left
            focus (intro W hSw; obtain ⟨hq0, hq1⟩ := hSw; unfold r20o0; go_simp; try with_reducible rfl)
            simp only [Act.put, r20o0, List.setIfInBounds_toArray, List.set_cons_zero, List.set_cons_succ]
            refine wpAnyH_take (i := 1) (oi := r20o1) (v := ?_) rfl (by kernel_rfl) (by kernel_rfl) (by kernel_rfl) (fun _ _ _ h => h) (Or.inl ⟨by rfl, ?_⟩) hHeld ?_
            rotate_left
            focus (intro W hSw; obtain ⟨hq0, hq1⟩ := hSw; unfold r20o1; go_simp; try with_reducible rfl)
            simp only [Act.put, r20o1, List.setIfInBounds_toArray, List.set_cons_zero, List.set_cons_succ]
            refine wpAnyH_take (i := 2) (oi := r20o2) (v := ?_) rfl (by kernel_rfl) (by kernel_rfl) (by kernel_rfl) (fun _ _ _ h => h) (Or.inl ⟨by rfl, ?_⟩) hHeld ?_
            rotate_left
            focus (intro W hSw; obtain ⟨hq0, hq1⟩ := hSw; unfold r20o2; go_simp; try with_reducible rfl)
            simp only [Act.put, r20o2, List.setIfInBounds_toArray, List.set_cons_zero, List.set_cons_succ]
            refine wpAnyH_take (i := 3) (oi := r20o3) (v := ?_) rfl (by kernel_rfl) (by kernel_rfl) (by kernel_rfl) (fun _ _ _ h => h) (Or.inl ⟨by rfl, ?_⟩) hHeld ?_
            rotate_left
            focus (intro W hSw; obtain ⟨hq0, hq1⟩ := hSw; unfold r20o3; go_simp; try with_reducible rfl)
            simp only [Act.put, r20o3, List.setIfInBounds_toArray, List.set_cons_zero, List.set_cons_succ]
            refine wpAnyH_take (i := 4) (oi := r20o4) (v := undef) rfl (by kernel_rfl) (by kernel_rfl) (by kernel_rfl) (fun _ _ _ h => h) (Or.inr ⟨by rfl, rfl⟩) hHeld ?_
            simp only [Act.put, r20o4, List.setIfInBounds_toArray, List.set_cons_zero, List.set_cons_succ]
            refine wpAnyH_take (i := 5) (oi := r20o5) (v := undef) rfl (by kernel_rfl) (by kernel_rfl) (by kernel_rfl) (fun _ _ _ h => h) (Or.inr ⟨by rfl, rfl⟩) hHeld ?_
            simp only [Act.put, r20o5, List.setIfInBounds_toArray, List.set_cons_zero, List.set_cons_succ]
            refine wpAnyH_take (i := 6) (oi := r20o6) (v := undef) rfl (by kernel_rfl) (by kernel_rfl) (by kernel_rfl) (fun _ _ _ h => h) (Or.inr ⟨by rfl, rfl⟩) hHeld ?_
            simp only [Act.put, r20o6, List.setIfInBounds_toArray, List.set_cons_zero, List.set_cons_succ]
            refine wpAnyH_take (i := 7) (oi := r20o7) (v := undef) rfl (by kernel_rfl) (by kernel_rfl) (by kernel_rfl) (fun _ _ _ h => h) (Or.inr ⟨by rfl, rfl⟩) hHeld ?_
            simp only [Act.put, r20o7, List.setIfInBounds_toArray, List.set_cons_zero, List.set_cons_succ]
            refine wpAnyH_take (i := 8) (oi := r20o8) (v := ?_) rfl (by kernel_rfl) (by kernel_rfl) (by kernel_rfl) (fun _ _ _ h => h) (Or.inl ⟨by rfl, ?_⟩) hHeld ?_
            rotate_left
            focus (intro W hSw; obtain ⟨hq0, hq1⟩ := hSw; unfold r20o8; go_simp; try with_reducible rfl)
            simp only [Act.put, r20o8, List.setIfInBounds_toArray, List.set_cons_zero, List.set_cons_succ]
            refine wpAnyH_take (i := 9) (oi := r20o9) (v := ?_) rfl (by kernel_rfl) (by kernel_rfl) (by kernel_rfl) (fun _ _ _ h => h) (Or.inl ⟨by rfl, ?_⟩) hHeld ?_
            rotate_left
            focus (intro W hSw; obtain ⟨hq0, hq1⟩ := hSw; unfold r20o9; go_simp; try with_reducible rfl)
            simp only [Act.put, r20o9, List.setIfInBounds_toArray, List.set_cons_zero, List.set_cons_succ]
            refine wpAnyH_take (i := 10) (oi := r20o10) (v := ?_) rfl (by kernel_rfl) (by kernel_rfl) (by kernel_rfl) (fun _ _ _ h => h) (Or.inl ⟨by rfl, ?_⟩) hHeld ?_
            rotate_left
            focus (intro W hSw; obtain ⟨hq0, hq1⟩ := hSw; unfold r20o10; go_simp; try with_reducible rfl)
            simp only [Act.put, r20o10, List.setIfInBounds_toArray, List.set_cons_zero, List.set_cons_succ]
            refine wpAnyH_take (i := 11) (oi := r20o11) (v := ?_) rfl (by kernel_rfl) (by kernel_rfl) (by kernel_rfl) (fun _ _ _ h => h) (Or.inl ⟨by rfl, ?_⟩) hHeld ?_
            rotate_left
            focus (intro W hSw; obtain ⟨hq0, hq1⟩ := hSw; unfold r20o11; go_simp; try with_reducible rfl)
            simp only [Act.put, r20o11, List.setIfInBounds_toArray, List.set_cons_zero, List.set_cons_succ]
            refine wpAnyH_take (i := 12) (oi := r20o12) (v := ?_) rfl (by kernel_rfl) (by kernel_rfl) (by kernel_rfl) (fun _ _ _ h => h) (Or.inl ⟨by rfl, ?_⟩) hHeld ?_
            rotate_left
            focus (intro W hSw; obtain ⟨hq0, hq1⟩ := hSw; unfold r20o12; go_simp; try with_reducible rfl)
            simp only [Act.put, r20o12, List.setIfInBounds_toArray, List.set_cons_zero, List.set_cons_succ]
            refine wpAnyH_take (i := 13) (oi := r20o13) (v := ?_) rfl (by kernel_rfl) (by kernel_rfl) (by kernel_rfl) (fun _ _ _ h => h) (Or.inl ⟨by rfl, ?_⟩) hHeld ?_
            rotate_left
            focus (intro W hSw; obtain ⟨hq0, hq1⟩ := hSw; unfold r20o13; go_simp; try with_reducible rfl)
            simp only [Act.put, r20o13, List.setIfInBounds_toArray, List.set_cons_zero, List.set_cons_succ]
            refine wpAnyH_take (i := 14) (oi := r20o14) (v := ?_) rfl (by kernel_rfl) (by kernel_rfl) (by kernel_rfl) (fun _ _ _ h => h) (Or.inl ⟨by rfl, ?_⟩) hHeld ?_
            rotate_left
            focus (intro W hSw; obtain ⟨hq0, hq1⟩ := hSw; unfold r20o14; go_simp; try with_reducible rfl)
            simp only [Act.put, r20o14, List.setIfInBounds_toArray, List.set_cons_zero, List.set_cons_succ]
            refine wpAnyH_take (i := 15) (oi := r20o15) (v := ?_) rfl (by kernel_rfl) (by kernel_rfl) (by kernel_rfl) (fun _ _ _ h => h) (Or.inl ⟨by rfl, ?_⟩) hHeld ?_
            rotate_left
            focus (intro W hSw; obtain ⟨hq0, hq1⟩ := hSw; unfold r20o15; go_simp; try with_reducible rfl)
            simp only [Act.put, r20o15, List.setIfInBounds_toArray, List.set_cons_zero, List.set_cons_succ]
            refine wpAnyH_take (i := 16) (oi := r20o16) (v := ?_) rfl (by kernel_rfl) (by kernel_rfl) (by kernel_rfl) (fun _ _ _ h => h) (Or.inl ⟨by rfl, ?_⟩) hHeld ?_
            rotate_left
            focus (intro W hSw; obtain ⟨hq0, hq1⟩ := hSw; unfold r20o16; go_simp; try with_reducible rfl)
            simp only [Act.put, r20o16, List.setIfInBounds_toArray, List.set_cons_zero, List.set_cons_succ]
            refine wpAnyH_take (i := 18) (oi := r20o18) (v := ?_) rfl (by kernel_rfl) (by kernel_rfl) (by kernel_rfl) (fun _ _ _ h => h) (Or.inl ⟨by rfl, ?_⟩) hHeld ?_
            rotate_left
            focus (intro W hSw; obtain ⟨hq0, hq1⟩ := hSw; unfold r20o18; go_simp; try with_reducible rfl)
            simp only [Act.put, r20o18, List.setIfInBounds_toArray, List.set_cons_zero, List.set_cons_succ]
            refine wpAnyH_ready (rs := [17]) (by kernel_rfl) (by simp) ?_
            refine AllReadyH.cons (o := r20o17) rfl (fun K hK => ?_) AllReadyH.nil
            unfold r20o17
            go_simp
            refine (HB.out _ _ _ HC3.out.drew).mono ?_
            rintro r w4 ⟨A4, c4, rfl, hr4, hc4, hg4⟩
            have hca4 := hg4.cell (a := ⟨wr.heap.size, 0, none⟩) hca (by simp; omega)
            have hcb4 := hg4.cell (a := ⟨wr.heap.size, 1, none⟩) hcb (by simp; omega)
            have k4 := below_some (Below.drew HK3.out) hg4 s3 (by omega)
            have HC4 := Lib.hid hc4
            have HK4 := Lib.hid k4
            have HG4 := Lib.hid hg4
            have s4 := k4.size
            have HR4 := Lib.hid hr4
            clear hr4 hc4 hg4 k4
            refine hK.out _ _ ⟨hca4, hcb4⟩ (fun hHeld => ?_)
            clear hK K
            refine wpAnyH_ready (rs := [19]) (by kernel_rfl) (by simp) ?_
            refine AllReadyH.cons (o := r20o19) rfl (fun K hK => ?_) AllReadyH.nil
            unfold r20o19
            go_simp
            refine (same_any [] [] HR4.out (Rd.nil _ 0 0)).mono ?_
            rintro r w5 ⟨rfl, rfl⟩
            rw [decide_eq_true (rfl : ([] : List UInt8) = [])]
            refine hK.out _ _ ⟨hca4, hcb4⟩ (fun hHeld => ?_)
            clear hK K
            refine wpAnyH_take (i := 20) (oi := r20o20) (v := ?_) rfl (by kernel_rfl) (by kernel_rfl) (by kernel_rfl) (fun _ _ _ h => h) (Or.inl ⟨by rfl, ?_⟩) hHeld ?_
            rotate_left
            focus (intro W hSw; obtain ⟨hq0, hq1⟩ := hSw; unfold r20o20; go_simp; try with_reducible rfl)
            simp only [Act.put, r20o20, List.setIfInBounds_toArray, List.set_cons_zero, List.set_cons_succ]
            refine wpAnyH_take (i := 21) (oi := r20o21) (v := ?_) rfl (by kernel_rfl) (by kernel_rfl) (by kernel_rfl) (fun _ _ _ h => h) (Or.inl ⟨by rfl, ?_⟩) hHeld ?_
            rotate_left
            focus (intro W hSw; obtain ⟨hq0, hq1⟩ := hSw; unfold r20o21; go_simp; try with_reducible rfl)
            simp only [Act.put, r20o21, List.setIfInBounds_toArray, List.set_cons_zero, List.set_cons_succ]
            refine wpAnyH_take (i := 22) (oi := r20o22) (v := ?_) rfl (by kernel_rfl) (by kernel_rfl) (by kernel_rfl) (fun _ _ _ h => h) (Or.inl ⟨by rfl, ?_⟩) hHeld ?_
            rotate_left
            focus (intro W hSw; obtain ⟨hq0, hq1⟩ := hSw; unfold r20o22; go_simp; try with_reducible rfl)
            simp only [Act.put, r20o22, List.setIfInBounds_toArray, List.set_cons_zero, List.set_cons_succ]
            refine wpAnyH_take (i := 23) (oi := r20o23) (v := ?_) rfl (by kernel_rfl) (by kernel_rfl) (by kernel_rfl) (fun _ _ _ h => h) (Or.inl ⟨by rfl, ?_⟩) hHeld ?_
            rotate_left
            focus (intro W hSw; obtain ⟨hq0, hq1⟩ := hSw; unfold r20o23; go_simp; try with_reducible rfl)
            simp only [Act.put, r20o23, List.setIfInBounds_toArray, List.set_cons_zero, List.set_cons_succ]
            refine wpAnyH_take (i := 24) (oi := r20o24) (v := ?_) rfl (by kernel_rfl) (by kernel_rfl) (by kernel_rfl) (fun _ _ _ h => h) (Or.inl ⟨by rfl, ?_⟩) hHeld ?_
            rotate_left
            focus (intro W hSw; obtain ⟨hq0, hq1⟩ := hSw; unfold r20o24; go_simp; try with_reducible rfl)
            simp only [Act.put, r20o24, List.setIfInBounds_toArray, List.set_cons_zero, List.set_cons_succ]
            refine wpAnyH_take (i := 25) (oi := r20o25) (v := ?_) rfl (by kernel_rfl) (by kernel_rfl) (by kernel_rfl) (fun _ _ _ h => h) (Or.inl ⟨by rfl, ?_⟩) hHeld ?_
            rotate_left
            focus (intro W hSw; obtain ⟨hq0, hq1⟩ := hSw; unfold r20o25; go_simp; try with_reducible rfl)
            simp only [Act.put, r20o25, List.setIfInBounds_toArray, List.set_cons_zero, List.set_cons_succ]
            refine wpAnyH_take (i := 26) (oi := r20o26) (v := ?_) rfl (by kernel_rfl) (by kernel_rfl) (by kernel_rfl) (fun _ _ _ h => h) (Or.inl ⟨by rfl, ?_⟩) hHeld ?_
            rotate_left
            focus (intro W hSw; obtain ⟨hq0, hq1⟩ := hSw; unfold r20o26; go_simp; try with_reducible rfl)
            simp only [Act.put, r20o26, List.setIfInBounds_toArray, List.set_cons_zero, List.set_cons_succ]
            refine wpAnyH_take (i := 27) (oi := r20o27) (v := ?_) rfl (by kernel_rfl) (by kernel_rfl) (by kernel_rfl) (fun _ _ _ h => h) (Or.inl ⟨by rfl, ?_⟩) hHeld ?_
            rotate_left
            focus (intro W hSw; obtain ⟨hq0, hq1⟩ := hSw; unfold r20o27; go_simp; try with_reducible rfl)
            simp only [Act.put, r20o27, List.setIfInBounds_toArray, List.set_cons_zero, List.set_cons_succ]
            refine wpAnyH_take (i := 28) (oi := r20o28) (v := undef) rfl (by kernel_rfl) (by kernel_rfl) (by kernel_rfl) (fun _ _ _ h => h) (Or.inr ⟨by rfl, rfl⟩) hHeld ?_
            simp only [Act.put, r20o28, List.setIfInBounds_toArray, List.set_cons_zero, List.set_cons_succ]
            refine wpAnyH_take (i := 29) (oi := r20o29) (v := undef) rfl (by kernel_rfl) (by kernel_rfl) (by kernel_rfl) (fun _ _ _ h => h) (Or.inr ⟨by rfl, rfl⟩) hHeld ?_
            simp only [Act.put, r20o29, List.setIfInBounds_toArray, List.set_cons_zero, List.set_cons_succ]
            refine wpAnyH_take (i := 30) (oi := r20o30) (v := undef) rfl (by kernel_rfl) (by kernel_rfl) (by kernel_rfl) (fun _ _ _ h => h) (Or.inr ⟨by rfl, rfl⟩) hHeld ?_
            simp only [Act.put, r20o30, List.setIfInBounds_toArray, List.set_cons_zero, List.set_cons_succ]
            refine wpAnyH_take (i := 31) (oi := r20o31) (v := undef) rfl (by kernel_rfl) (by kernel_rfl) (by kernel_rfl) (fun _ _ _ h => h) (Or.inr ⟨by rfl, rfl⟩) hHeld ?_
            simp only [Act.put, r20o31, List.setIfInBounds_toArray, List.set_cons_zero, List.set_cons_succ]
            refine wpAnyH_take (i := 32) (oi := r20o32) (v := ?_) rfl (by kernel_rfl) (by kernel_rfl) (by kernel_rfl) (fun _ _ _ h => h) (Or.inl ⟨by rfl, ?_⟩) hHeld ?_
            rotate_left
            focus (intro W hSw; obtain ⟨hq0, hq1⟩ := hSw; unfold r20o32; go_simp; try with_reducible rfl)
            simp only [Act.put, r20o32, List.setIfInBounds_toArray, List.set_cons_zero, List.set_cons_succ]
            refine wpAnyH_take (i := 33) (oi := r20o33) (v := ?_) rfl (by kernel_rfl) (by kernel_rfl) (by kernel_rfl) (fun _ _ _ h => h) (Or.inl ⟨by rfl, ?_⟩) hHeld ?_
            rotate_left
            focus (intro W hSw; obtain ⟨hq0, hq1⟩ := hSw; unfold r20o33; go_simp; try with_reducible rfl)
            simp only [Act.put, r20o33, List.setIfInBounds_toArray, List.set_cons_zero, List.set_cons_succ]
            refine wpAnyH_take (i := 34) (oi := r20o34) (v := ?_) rfl (by kernel_rfl) (by kernel_rfl) (by kernel_rfl) (fun _ _ _ h => h) (Or.inl ⟨by rfl, ?_⟩) hHeld ?_
            rotate_left
            focus (intro W hSw; obtain ⟨hq0, hq1⟩ := hSw; unfold r20o34; go_simp; try with_reducible rfl)
            simp only [Act.put, r20o34, List.setIfInBounds_toArray, List.set_cons_zero, List.set_cons_succ]
            refine wpAnyH_take (i := 35) (oi := r20o35) (v := ?_) rfl (by kernel_rfl) (by kernel_rfl) (by kernel_rfl) (fun _ _ _ h => h) (Or.inl ⟨by rfl, ?_⟩) hHeld ?_
            rotate_left
            focus (intro W hSw; obtain ⟨hq0, hq1⟩ := hSw; unfold r20o35; go_simp; try with_reducible rfl)
            simp only [Act.put, r20o35, List.setIfInBounds_toArray, List.set_cons_zero, List.set_cons_succ]
            refine wpAnyH_take (i := 36) (oi := r20o36) (v := ?_) rfl (by kernel_rfl) (by kernel_rfl) (by kernel_rfl) (fun _ _ _ h => h) (Or.inl ⟨by rfl, ?_⟩) hHeld ?_
            rotate_left
            focus (intro W hSw; obtain ⟨hq0, hq1⟩ := hSw; unfold r20o36; go_simp; try with_reducible rfl)
            simp only [Act.put, r20o36, List.setIfInBounds_toArray, List.set_cons_zero, List.set_cons_succ]
            refine wpAnyH_take (i := 37) (oi := r20o37) (v := ?_) rfl (by kernel_rfl) (by kernel_rfl) (by kernel_rfl) (fun _ _ _ h => h) (Or.inl ⟨by rfl, ?_⟩) hHeld ?_
            rotate_left
            focus (intro W hSw; obtain ⟨hq0, hq1⟩ := hSw; unfold r20o37; go_simp; try with_reducible rfl)
            simp only [Act.put, r20o37, List.setIfInBounds_toArray, List.set_cons_zero, List.set_cons_succ]
            refine wpAnyH_take (i := 38) (oi := r20o38) (v := ?_) rfl (by kernel_rfl) (by kernel_rfl) (by kernel_rfl) (fun _ _ _ h => h) (Or.inl ⟨by rfl, ?_⟩) hHeld ?_
            rotate_left
            focus (intro W hSw; obtain ⟨hq0, hq1⟩ := hSw; unfold r20o38; go_simp; try with_reducible rfl)
            simp only [Act.put, r20o38, List.setIfInBounds_toArray, List.set_cons_zero, List.set_cons_succ]
            refine wpAnyH_take (i := 39) (oi := r20o39) (v := undef) rfl (by kernel_rfl) (by kernel_rfl) (by kernel_rfl) (fun _ _ _ h => h) (Or.inr ⟨by rfl, rfl⟩) hHeld ?_
            simp only [Act.put, r20o39, List.setIfInBounds_toArray, List.set_cons_zero, List.set_cons_succ]
            refine wpAnyH_take (i := 40) (oi := r20o40) (v := undef) rfl (by kernel_rfl) (by kernel_rfl) (by kernel_rfl) (fun _ _ _ h => h) (Or.inr ⟨by rfl, rfl⟩) hHeld ?_
            simp only [Act.put, r20o40, List.setIfInBounds_toArray, List.set_cons_zero, List.set_cons_succ]
            refine wpAnyH_take (i := 41) (oi := r20o41) (v := undef) rfl (by kernel_rfl) (by kernel_rfl) (by kernel_rfl) (fun _ _ _ h => h) (Or.inr ⟨by rfl, rfl⟩) hHeld ?_
            simp only [Act.put, r20o41, List.setIfInBounds_toArray, List.set_cons_zero, List.set_cons_succ]
            refine wpAnyH_take (i := 42) (oi := r20o42) (v := undef) rfl (by kernel_rfl) (by kernel_rfl) (by kernel_rfl) (fun _ _ _ h => h) (Or.inr ⟨by rfl, rfl⟩) hHeld ?_
            simp only [Act.put, r20o42, List.setIfInBounds_toArray, List.set_cons_zero, List.set_cons_succ]
            refine wpAnyH_take (i := 43) (oi := r20o43) (v := undef) rfl (by kernel_rfl) (by kernel_rfl) (by kernel_rfl) (fun _ _ _ h => h) (Or.inr ⟨by rfl, rfl⟩) hHeld ?_
            simp only [Act.put, r20o43, List.setIfInBounds_toArray, List.set_cons_zero, List.set_cons_succ]
            refine wpAnyH_take (i := 44) (oi := r20o44) (v := undef) rfl (by kernel_rfl) (by kernel_rfl) (by kernel_rfl) (fun _ _ _ h => h) (Or.inr ⟨by rfl, rfl⟩) hHeld ?_
            simp only [Act.put, r20o44, List.setIfInBounds_toArray, List.set_cons_zero, List.set_cons_succ]
            refine wpAnyH_take (i := 45) (oi := r20o45) (v := ?_) rfl (by kernel_rfl) (by kernel_rfl) (by kernel_rfl) (fun _ _ _ h => h) (Or.inl ⟨by rfl, ?_⟩) hHeld ?_
            rotate_left
            focus (intro W hSw; obtain ⟨hq0, hq1⟩ := hSw; unfold r20o45; go_simp; try with_reducible rfl)
            simp only [Act.put, r20o45, List.setIfInBounds_toArray, List.set_cons_zero, List.set_cons_succ]
            refine wpAnyH_take (i := 46) (oi := r20o46) (v := ?_) rfl (by kernel_rfl) (by kernel_rfl) (by kernel_rfl) (fun _ _ _ h => h) (Or.inl ⟨by rfl, ?_⟩) hHeld ?_
            rotate_left
            focus (intro W hSw; obtain ⟨hq0, hq1⟩ := hSw; unfold r20o46; go_simp; try with_reducible rfl)
            simp only [Act.put, r20o46, List.setIfInBounds_toArray, List.set_cons_zero, List.set_cons_succ]
            refine wpAnyH_take (i := 47) (oi := r20o47) (v := ?_) rfl (by kernel_rfl) (by kernel_rfl) (by kernel_rfl) (fun _ _ _ h => h) (Or.inl ⟨by rfl, ?_⟩) hHeld ?_
            rotate_left
            focus (intro W hSw; obtain ⟨hq0, hq1⟩ := hSw; unfold r20o47; go_simp; try with_reducible rfl)
            simp only [Act.put, r20o47, List.setIfInBounds_toArray, List.set_cons_zero, List.set_cons_succ]
            refine wpAnyH_take (i := 48) (oi := r20o48) (v := ?_) rfl (by kernel_rfl) (by kernel_rfl) (by kernel_rfl) (fun _ _ _ h => h) (Or.inl ⟨by rfl, ?_⟩) hHeld ?_
            rotate_left
            focus (intro W hSw; obtain ⟨hq0, hq1⟩ := hSw; unfold r20o48; go_simp; try with_reducible rfl)
            simp only [Act.put, r20o48, List.setIfInBounds_toArray, List.set_cons_zero, List.set_cons_succ]
            refine wpAnyH_take (i := 49) (oi := r20o49) (v := ?_) rfl (by kernel_rfl) (by kernel_rfl) (by kernel_rfl) (fun _ _ _ h => h) (Or.inl ⟨by rfl, ?_⟩) hHeld ?_
            rotate_left
            focus (intro W hSw; obtain ⟨hq0, hq1⟩ := hSw; unfold r20o49; go_simp; try with_reducible rfl)
            simp only [Act.put, r20o49, List.setIfInBounds_toArray, List.set_cons_zero, List.set_cons_succ]
            refine wpAnyH_take (i := 50) (oi := r20o50) (v := ?_) rfl (by kernel_rfl) (by kernel_rfl) (by kernel_rfl) (fun _ _ _ h => h) (Or.inl ⟨by rfl, ?_⟩) hHeld ?_
            rotate_left
            focus (intro W hSw; obtain ⟨hq0, hq1⟩ := hSw; unfold r20o50; go_simp; try with_reducible rfl)
            simp only [Act.put, r20o50, List.setIfInBounds_toArray, List.set_cons_zero, List.set_cons_succ]
            refine wpAnyH_take (i := 51) (oi := r20o51) (v := ?_) rfl (by kernel_rfl) (by kernel_rfl) (by kernel_rfl) (fun _ _ _ h => h) (Or.inl ⟨by rfl, ?_⟩) hHeld ?_
            rotate_left
            focus (intro W hSw; obtain ⟨hq0, hq1⟩ := hSw; unfold r20o51; go_simp; try with_reducible rfl)
            simp only [Act.put, r20o51, List.setIfInBounds_toArray, List.set_cons_zero, List.set_cons_succ]
            refine wpAnyH_take (i := 52) (oi := r20o52) (v := undef) rfl (by kernel_rfl) (by kernel_rfl) (by kernel_rfl) (fun _ _ _ h => h) (Or.inr ⟨by rfl, rfl⟩) hHeld ?_
            simp only [Act.put, r20o52, List.setIfInBounds_toArray, List.set_cons_zero, List.set_cons_succ]
            refine wpAnyH_take (i := 53) (oi := r20o53) (v := undef) rfl (by kernel_rfl) (by kernel_rfl) (by kernel_rfl) (fun _ _ _ h => h) (Or.inr ⟨by rfl, rfl⟩) hHeld ?_
            simp only [Act.put, r20o53, List.setIfInBounds_toArray, List.set_cons_zero, List.set_cons_succ]
            refine wpAnyH_take (i := 54) (oi := r20o54) (v := undef) rfl (by kernel_rfl) (by kernel_rfl) (by kernel_rfl) (fun _ _ _ h => h) (Or.inr ⟨by rfl, rfl⟩) hHeld ?_
            simp only [Act.put, r20o54, List.setIfInBounds_toArray, List.set_cons_zero, List.set_cons_succ]
            refine wpAnyH_take (i := 55) (oi := r20o55) (v := undef) rfl (by kernel_rfl) (by kernel_rfl) (by kernel_rfl) (fun _ _ _ h => h) (Or.inr ⟨by rfl, rfl⟩) hHeld ?_
            simp only [Act.put, r20o55, List.setIfInBounds_toArray, List.set_cons_zero, List.set_cons_succ]
            refine wpAnyH_take (i := 56) (oi := r20o56) (v := undef) rfl (by kernel_rfl) (by kernel_rfl) (by kernel_rfl) (fun _ _ _ h => h) (Or.inr ⟨by rfl, rfl⟩) hHeld ?_
            simp only [Act.put, r20o56, List.setIfInBounds_toArray, List.set_cons_zero, List.set_cons_succ]
            refine wpAnyH_take (i := 57) (oi := r20o57) (v := ?_) rfl (by kernel_rfl) (by kernel_rfl) (by kernel_rfl) (fun _ _ _ h => h) (Or.inl ⟨by rfl, ?_⟩) hHeld ?_
            rotate_left
            focus (intro W hSw; obtain ⟨hq0, hq1⟩ := hSw; unfold r20o57; go_simp; try with_reducible rfl)
            simp only [Act.put, r20o57, List.setIfInBounds_toArray, List.set_cons_zero, List.set_cons_succ]
            refine wpAnyH_take (i := 58) (oi := r20o58) (v := ?_) rfl (by kernel_rfl) (by kernel_rfl) (by kernel_rfl) (fun _ _ _ h => h) (Or.inl ⟨by rfl, ?_⟩) hHeld ?_
            rotate_left
            focus (intro W hSw; obtain ⟨hq0, hq1⟩ := hSw; unfold r20o58; go_simp; try with_reducible rfl)
            simp only [Act.put, r20o58, List.setIfInBounds_toArray, List.set_cons_zero, List.set_cons_succ]
            refine wpAnyH_done (by kernel_rfl) ?_ _
            all_goals go_wp2_with (first | (go_at_call 21; refine (left_any HC4.out).mono ?_; rintro r w6 ⟨rfl, mm, rfl⟩) | (go_at_call 22; refine (good_any (HC4.out.drewN _)).mono ?_; rintro r w7 ⟨rfl, rfl⟩))
            all_goals go_roundw
            all_goals first | (case rel => exact ⟨k + 1, p, er, by omega, by go_num, by go_num, rfl, HC4.out.drewN _, below_drewN' HK4.out _⟩) | (case measure => simp [intOf]; omega)
      by_cases hd2 : dk = 2
      · subst hd2
        obtain ⟨num, size, f, hps, hstep, hact⟩ := numberAct mk hp
        have HS := Lib.hid hstep
        have HA := Lib.hid hact
        clear hstep hact
        go_wp2_with fail
        refine (HS.out _ 0 w.heap.size A c ((H.out.below HK.out (Nat.le_refl _)).alloc sr _) (by simp; omega)).mono ?_
        rintro r w3 ⟨A', c', rfl, hrd, hb3⟩
        have hca : w3.cell? ⟨wr.heap.size, 0, none⟩ = some (.int .i64 2) := (hb3.cell (p := ⟨wr.heap.size, 0, none⟩) (by simp)).trans (World.cell?_alloc_at _ _ _ _ rfl)
        have hcb : w3.cell? ⟨wr.heap.size, 1, none⟩ = some (.int .i64 mk) := (hb3.cell (p := ⟨wr.heap.size, 1, none⟩) (by simp)).trans (World.cell?_alloc_at _ _ _ _ rfl)
        have HC3 := Lib.hid ((HC.out.grown (gb_alloc (gb_refl _ none) _) (by simp)).grown (below_gb_none (Nat.le_refl _) hb3) (by simp))
        have HR3 := Lib.hid hrd
        have k3 := below_below (HK.out.alloc sr _) hb3 (by simp; omega)
        have HK3 := Lib.hid k3
        have s3 := k3.size
        have z3 := hb3.size
        simp only [World.size_alloc] at z3
        clear hrd hb3 k3
        by_cases her : er = 0
        · as_aux_lemma =>
            subst her
            go_wp2_with fail
            refine wp_region_held_drew (S := fun W => W.cell? ⟨wr.heap.size, 0, none⟩ = some (.int .i64 2) ∧ W.cell? ⟨wr.heap.size, 1, none⟩ = some (.int .i64 mk)) (by kernel_rfl) ⟨hca, hcb⟩ (fun hHeld => ?_)
            refine wpAnyH_take (i := 0) (oi := r20o0) (v := ?_) rfl (by kernel_rfl) (by kernel_rfl) (by kernel_rfl) (fun _ _ _ h => h) (Or.inl ⟨by rfl, ?_⟩) hHeld ?_
            rotate_left
            focus (intro W hSw; obtain ⟨hq0, hq1⟩ := hSw; unfold r20o0; go_simp; try with_reducible rfl)
            simp only [Act.put, r20o0, List.setIfInBounds_toArray, List.set_cons_zero, List.set_cons_succ]
            refine wpAnyH_take (i := 1) (oi := r20o1) (v := ?_) rfl (by kernel_rfl) (by kernel_rfl) (by kernel_rfl) (fun _ _ _ h => h) (Or.inl ⟨by rfl, ?_⟩) hHeld ?_
            rotate_left
            focus (intro W hSw; obtain ⟨hq0, hq1⟩ := hSw; unfold r20o1; go_simp; try with_reducible rfl)
            simp only [Act.put, r20o1, List.setIfInBounds_toArray, List.set_cons_zero, List.set_cons_succ]
            refine wpAnyH_take (i := 2) (oi := r20o2) (v := ?_) rfl (by kernel_rfl) (by kernel_rfl) (by kernel_rfl) (fun _ _ _ h => h) (Or.inl ⟨by rfl, ?_⟩) hHeld ?_
            rotate_left
            focus (intro W hSw; obtain ⟨hq0, hq1⟩ := hSw; unfold r20o2; go_simp; try with_reducible rfl)
            simp only [Act.put, r20o2, List.setIfInBounds_toArray, List.set_cons_zero, List.set_cons_succ]
            refine wpAnyH_take (i := 3) (oi := r20o3) (v := ?_) rfl (by kernel_rfl) (by kernel_rfl) (by kernel_rfl) (fun _ _ _ h => h) (Or.inl ⟨by rfl, ?_⟩) hHeld ?_
            rotate_left
            focus (intro W hSw; obtain ⟨hq0, hq1⟩ := hSw; unfold r20o3; go_simp; try with_reducible rfl)
            simp only [Act.put, r20o3, List.setIfInBounds_toArray, List.set_cons_zero, List.set_cons_succ]
            refine wpAnyH_take (i := 4) (oi := r20o4) (v := undef) rfl (by kernel_rfl) (by kernel_rfl) (by kernel_rfl) (fun _ _ _ h => h) (Or.inr ⟨by rfl, rfl⟩) hHeld ?_
            simp only [Act.put, r20o4, List.setIfInBounds_toArray, List.set_cons_zero, List.set_cons_succ]
            refine wpAnyH_take (i := 5) (oi := r20o5) (v := undef) rfl (by kernel_rfl) (by kernel_rfl) (by kernel_rfl) (fun _ _ _ h => h) (Or.inr ⟨by rfl, rfl⟩) hHeld ?_
            simp only [Act.put, r20o5, List.setIfInBounds_toArray, List.set_cons_zero, List.set_cons_succ]
            refine wpAnyH_take (i := 6) (oi := r20o6) (v := undef) rfl (by kernel_rfl) (by kernel_rfl) (by kernel_rfl) (fun _ _ _ h => h) (Or.inr ⟨by rfl, rfl⟩) hHeld ?_
            simp only [Act.put, r20o6, List.setIfInBounds_toArray, List.set_cons_zero, List.set_cons_succ]
            refine wpAnyH_take (i := 7) (oi := r20o7) (v := undef) rfl (by kernel_rfl) (by kernel_rfl) (by kernel_rfl) (fun _ _ _ h => h) (Or.inr ⟨by rfl, rfl⟩) hHeld ?_
            simp only [Act.put, r20o7, List.setIfInBounds_toArray, List.set_cons_zero, List.set_cons_succ]
            refine wpAnyH_take (i := 8) (oi := r20o8) (v := ?_) rfl (by kernel_rfl) (by kernel_rfl) (by kernel_rfl) (fun _ _ _ h => h) (Or.inl ⟨by rfl, ?_⟩) hHeld ?_
            rotate_left
            focus (intro W hSw; obtain ⟨hq0, hq1⟩ := hSw; unfold r20o8; go_simp; try with_reducible rfl)
            simp only [Act.put, r20o8, List.setIfInBounds_toArray, List.set_cons_zero, List.set_cons_succ]
            refine wpAnyH_take (i := 9) (oi := r20o9) (v := ?_) rfl (by kernel_rfl) (by kernel_rfl) (by kernel_rfl) (fun _ _ _ h => h) (Or.inl ⟨by rfl, ?_⟩) hHeld ?_
            rotate_left
            focus (intro W hSw; obtain ⟨hq0, hq1⟩ := hSw; unfold r20o9; go_simp; try with_reducible rfl)
            simp only [Act.put, r20o9, List.setIfInBounds_toArray, List.set_cons_zero, List.set_cons_succ]
            refine wpAnyH_take (i := 10) (oi := r20o10) (v := ?_) rfl (by kernel_rfl) (by kernel_rfl) (by kernel_rfl) (fun _ _ _ h => h) (Or.inl ⟨by rfl, ?_⟩) hHeld ?_
            rotate_left
            focus (intro W hSw; obtain ⟨hq0, hq1⟩ := hSw; unfold r20o10; go_simp; try with_reducible rfl)
            simp only [Act.put, r20o10, List.setIfInBounds_toArray, List.set_cons_zero, List.set_cons_succ]
            refine wpAnyH_take (i := 11) (oi := r20o11) (v := ?_) rfl (by kernel_rfl) (by kernel_rfl) (by kernel_rfl) (fun _ _ _ h => h) (Or.inl ⟨by rfl, ?_⟩) hHeld ?_
            rotate_left
            focus (intro W hSw; obtain ⟨hq0, hq1⟩ := hSw; unfold r20o11; go_simp; try with_reducible rfl)
            simp only [Act.put, r20o11, List.setIfInBounds_toArray, List.set_cons_zero, List.set_cons_succ]
            refine wpAnyH_take (i := 12) (oi := r20o12) (v := ?_) rfl (by kernel_rfl) (by kernel_rfl) (by kernel_rfl) (fun _ _ _ h => h) (Or.inl ⟨by rfl, ?_⟩) hHeld ?_
            rotate_left
            focus (intro W hSw; obtain ⟨hq0, hq1⟩ := hSw; unfold r20o12; go_simp; try with_reducible rfl)
            simp only [Act.put, r20o12, List.setIfInBounds_toArray, List.set_cons_zero, List.set_cons_succ]
            refine wpAnyH_take (i := 13) (oi := r20o13) (v := ?_) rfl (by kernel_rfl) (by kernel_rfl) (by kernel_rfl) (fun _ _ _ h => h) (Or.inl ⟨by rfl, ?_⟩) hHeld ?_
            rotate_left
            focus (intro W hSw; obtain ⟨hq0, hq1⟩ := hSw; unfold r20o13; go_simp; try with_reducible rfl)
            simp only [Act.put, r20o13, List.setIfInBounds_toArray, List.set_cons_zero, List.set_cons_succ]
            refine wpAnyH_take (i := 14) (oi := r20o14) (v := undef) rfl (by kernel_rfl) (by kernel_rfl) (by kernel_rfl) (fun _ _ _ h => h) (Or.inr ⟨by rfl, rfl⟩) hHeld ?_
            simp only [Act.put, r20o14, List.setIfInBounds_toArray, List.set_cons_zero, List.set_cons_succ]
            refine wpAnyH_take (i := 15) (oi := r20o15) (v := undef) rfl (by kernel_rfl) (by kernel_rfl) (by kernel_rfl) (fun _ _ _ h => h) (Or.inr ⟨by rfl, rfl⟩) hHeld ?_
            simp only [Act.put, r20o15, List.setIfInBounds_toArray, List.set_cons_zero, List.set_cons_succ]
            refine wpAnyH_take (i := 16) (oi := r20o16) (v := undef) rfl (by kernel_rfl) (by kernel_rfl) (by kernel_rfl) (fun _ _ _ h => h) (Or.inr ⟨by rfl, rfl⟩) hHeld ?_
            simp only [Act.put, r20o16, List.setIfInBounds_toArray, List.set_cons_zero, List.set_cons_succ]
            refine wpAnyH_take (i := 17) (oi := r20o17) (v := undef) rfl (by kernel_rfl) (by kernel_rfl) (by kernel_rfl) (fun _ _ _ h => h) (Or.inr ⟨by rfl, rfl⟩) hHeld ?_
            simp only [Act.put, r20o17, List.setIfInBounds_toArray, List.set_cons_zero, List.set_cons_succ]
            refine wpAnyH_take (i := 18) (oi := r20o18) (v := undef) rfl (by kernel_rfl) (by kernel_rfl) (by kernel_rfl) (fun _ _ _ h => h) (Or.inr ⟨by rfl, rfl⟩) hHeld ?_
            simp only [Act.put, r20o18, List.setIfInBounds_toArray, List.set_cons_zero, List.set_cons_succ]
            refine wpAnyH_take (i := 19) (oi := r20o19) (v := undef) rfl (by kernel_rfl) (by kernel_rfl) (by kernel_rfl) (fun _ _ _ h => h) (Or.inr ⟨by rfl, rfl⟩) hHeld ?_
            simp only [Act.put, r20o19, List.setIfInBounds_toArray, List.set_cons_zero, List.set_cons_succ]
            refine wpAnyH_take (i := 20) (oi := r20o20) (v := undef) rfl (by kernel_rfl) (by kernel_rfl) (by kernel_rfl) (fun _ _ _ h => h) (Or.inr ⟨by rfl, rfl⟩) hHeld ?_
            simp only [Act.put, r20o20, List.setIfInBounds_toArray, List.set_cons_zero, List.set_cons_succ]
            refine wpAnyH_take (i := 21) (oi := r20o21) (v := ?_) rfl (by kernel_rfl) (by kernel_rfl) (by kernel_rfl) (fun _ _ _ h => h) (Or.inl ⟨by rfl, ?_⟩) hHeld ?_
            rotate_left
            focus (intro W hSw; obtain ⟨hq0, hq1⟩ := hSw; unfold r20o21; go_simp; try with_reducible rfl)
            simp only [Act.put, r20o21, List.setIfInBounds_toArray, List.set_cons_zero, List.set_cons_succ]
            refine wpAnyH_take (i := 22) (oi := r20o22) (v := ?_) rfl (by kernel_rfl) (by kernel_rfl) (by kernel_rfl) (fun _ _ _ h => h) (Or.inl ⟨by rfl, ?_⟩) hHeld ?_
            rotate_left
            focus (intro W hSw; obtain ⟨hq0, hq1⟩ := hSw; unfold r20o22; go_simp; try with_reducible rfl)
            simp only [Act.put, r20o22, List.setIfInBounds_toArray, List.set_cons_zero, List.set_cons_succ]
            refine wpAnyH_take (i := 23) (oi := r20o23) (v := ?_) rfl (by kernel_rfl) (by kernel_rfl) (by kernel_rfl) (fun _ _ _ h => h) (Or.inl ⟨by rfl, ?_⟩) hHeld ?_
            rotate_left
            focus (intro W hSw; obtain ⟨hq0, hq1⟩ := hSw; unfold r20o23; go_simp; try with_reducible rfl)
            simp only [Act.put, r20o23, List.setIfInBounds_toArray, List.set_cons_zero, List.set_cons_succ]
            refine wpAnyH_take (i := 24) (oi := r20o24) (v := ?_) rfl (by kernel_rfl) (by kernel_rfl) (by kernel_rfl) (fun _ _ _ h => h) (Or.inl ⟨by rfl, ?_⟩) hHeld ?_
            rotate_left
            focus (intro W hSw; obtain ⟨hq0, hq1⟩ := hSw; unfold r20o24; go_simp; try with_reducible rfl)
            simp only [Act.put, r20o24, List.setIfInBounds_toArray, List.set_cons_zero, List.set_cons_succ]
            refine wpAnyH_take (i := 25) (oi := r20o25) (v := ?_) rfl (by kernel_rfl) (by kernel_rfl) (by kernel_rfl) (fun _ _ _ h => h) (Or.inl ⟨by rfl, ?_⟩) hHeld ?_
            rotate_left
            focus (intro W hSw; obtain ⟨hq0, hq1⟩ := hSw; unfold r20o25; go_simp; try with_reducible rfl)
            simp only [Act.put, r20o25, List.setIfInBounds_toArray, List.set_cons_zero, List.set_cons_succ]
            refine wpAnyH_take (i := 26) (oi := r20o26) (v := ?_) rfl (by kernel_rfl) (by kernel_rfl) (by kernel_rfl) (fun _ _ _ h => h) (Or.inl ⟨by rfl, ?_⟩) hHeld ?_
            rotate_left
            focus (intro W hSw; obtain ⟨hq0, hq1⟩ := hSw; unfold r20o26; go_simp; try with_reducible rfl)
            simp only [Act.put, r20o26, List.setIfInBounds_toArray, List.set_cons_zero, List.set_cons_succ]
            refine wpAnyH_take (i := 27) (oi := r20o27) (v := ?_) rfl (by kernel_rfl) (by kernel_rfl) (by kernel_rfl) (fun _ _ _ h => h) (Or.inl ⟨by rfl, ?_⟩) hHeld ?_
            rotate_left
            focus (intro W hSw; obtain ⟨hq0, hq1⟩ := hSw; unfold r20o27; go_simp; try with_reducible rfl)
            simp only [Act.put, r20o27, List.setIfInBounds_toArray, List.set_cons_zero, List.set_cons_succ]
            refine wpAnyH_take (i := 28) (oi := r20o28) (v := ?_) rfl (by kernel_rfl) (by kernel_rfl) (by kernel_rfl) (fun _ _ _ h => h) (Or.inl ⟨by rfl, ?_⟩) hHeld ?_
            rotate_left
            focus (intro W hSw; obtain ⟨hq0, hq1⟩ := hSw; unfold r20o28; go_simp; try with_reducible rfl)
            simp only [Act.put, r20o28, List.setIfInBounds_toArray, List.set_cons_zero, List.set_cons_succ]
            refine wpAnyH_take (i := 30) (oi := r20o30) (v := ?_) rfl (by kernel_rfl) (by kernel_rfl) (by kernel_rfl) (fun _ _ _ h => h) (Or.inl ⟨by rfl, ?_⟩) hHeld ?_
            rotate_left
            focus (intro W hSw; obtain ⟨hq0, hq1⟩ := hSw; unfold r20o30; go_simp; try with_reducible rfl)
            simp only [Act.put, r20o30, List.setIfInBounds_toArray, List.set_cons_zero, List.set_cons_succ]
            refine wpAnyH_ready (rs := [29]) (by kernel_rfl) (by simp) ?_
            refine AllReadyH.cons (o := r20o29) rfl (fun K hK => ?_) AllReadyH.nil
            unfold r20o29
            go_simp
            refine (HA.out _ _ _ HC3.out.drew).mono ?_
            rintro r w4 ⟨rfl, hc4, hg4⟩
            have hca4 := hg4.cell (a := ⟨wr.heap.size, 0, none⟩) hca (by simp; omega)
            have hcb4 := hg4.cell (a := ⟨wr.heap.size, 1, none⟩) hcb (by simp; omega)
            have k4 := below_some (Below.drew HK3.out) hg4 s3 (by omega)
            have HC4 := Lib.hid hc4
            have HK4 := Lib.hid k4
            have HG4 := Lib.hid hg4
            have s4 := k4.size
            clear hc4 hg4 k4
            refine hK.out _ _ ⟨hca4, hcb4⟩ (fun hHeld => ?_)
            clear hK K
            refine wpAnyH_take (i := 31) (oi := r20o31) (v := ?_) rfl (by kernel_rfl) (by kernel_rfl) (by kernel_rfl) (fun _ _ _ h => h) (Or.inl ⟨by rfl, ?_⟩) hHeld ?_
            rotate_left
            focus (intro W hSw; obtain ⟨hq0, hq1⟩ := hSw; unfold r20o31; go_simp; try with_reducible rfl)
            simp only [Act.put, r20o31, List.setIfInBounds_toArray, List.set_cons_zero, List.set_cons_succ]
            refine wpAnyH_take (i := 32) (oi := r20o32) (v := ?_) rfl (by kernel_rfl) (by kernel_rfl) (by kernel_rfl) (fun _ _ _ h => h) (Or.inl ⟨by rfl, ?_⟩) hHeld ?_
            rotate_left
            focus (intro W hSw; obtain ⟨hq0, hq1⟩ := hSw; unfold r20o32; go_simp; try with_reducible rfl)
            simp only [Act.put, r20o32, List.setIfInBounds_toArray, List.set_cons_zero, List.set_cons_succ]
            refine wpAnyH_take (i := 33) (oi := r20o33) (v := ?_) rfl (by kernel_rfl) (by kernel_rfl) (by kernel_rfl) (fun _ _ _ h => h) (Or.inl ⟨by rfl, ?_⟩) hHeld ?_
            rotate_left
            focus (intro W hSw; obtain ⟨hq0, hq1⟩ := hSw; unfold r20o33; go_simp; try with_reducible rfl)
            simp only [Act.put, r20o33, List.setIfInBounds_toArray, List.set_cons_zero, List.set_cons_succ]
            refine wpAnyH_take (i := 34) (oi := r20o34) (v := ?_) rfl (by kernel_rfl) (by kernel_rfl) (by kernel_rfl) (fun _ _ _ h => h) (Or.inl ⟨by rfl, ?_⟩) hHeld ?_
            rotate_left
            focus (intro W hSw; obtain ⟨hq0, hq1⟩ := hSw; unfold r20o34; go_simp; try with_reducible rfl)
            simp only [Act.put, r20o34, List.setIfInBounds_toArray, List.set_cons_zero, List.set_cons_succ]
            refine wpAnyH_take (i := 35) (oi := r20o35) (v := ?_) rfl (by kernel_rfl) (by kernel_rfl) (by kernel_rfl) (fun _ _ _ h => h) (Or.inl ⟨by rfl, ?_⟩) hHeld ?_
            rotate_left
            focus (intro W hSw; obtain ⟨hq0, hq1⟩ := hSw; unfold r20o35; go_simp; try with_reducible rfl)
            simp only [Act.put, r20o35, List.setIfInBounds_toArray, List.set_cons_zero, List.set_cons_succ]
            refine wpAnyH_take (i := 36) (oi := r20o36) (v := ?_) rfl (by kernel_rfl) (by kernel_rfl) (by kernel_rfl) (fun _ _ _ h => h) (Or.inl ⟨by rfl, ?_⟩) hHeld ?_
            rotate_left
            focus (intro W hSw; obtain ⟨hq0, hq1⟩ := hSw; unfold r20o36; go_simp; try with_reducible rfl)
            simp only [Act.put, r20o36, List.setIfInBounds_toArray, List.set_cons_zero, List.set_cons_succ]
            refine wpAnyH_take (i := 37) (oi := r20o37) (v := ?_) rfl (by kernel_rfl) (by kernel_rfl) (by kernel_rfl) (fun _ _ _ h => h) (Or.inl ⟨by rfl, ?_⟩) hHeld ?_
            rotate_left
            focus (intro W hSw; obtain ⟨hq0, hq1⟩ := hSw; unfold r20o37; go_simp; try with_reducible rfl)
            simp only [Act.put, r20o37, List.setIfInBounds_toArray, List.set_cons_zero, List.set_cons_succ]
            refine wpAnyH_take (i := 38) (oi := r20o38) (v := ?_) rfl (by kernel_rfl) (by kernel_rfl) (by kernel_rfl) (fun _ _ _ h => h) (Or.inl ⟨by rfl, ?_⟩) hHeld ?_
            rotate_left
            focus (intro W hSw; obtain ⟨hq0, hq1⟩ := hSw; unfold r20o38; go_simp; try with_reducible rfl)
            simp only [Act.put, r20o38, List.setIfInBounds_toArray, List.set_cons_zero, List.set_cons_succ]
            refine wpAnyH_take (i := 39) (oi := r20o39) (v := undef) rfl (by kernel_rfl) (by kernel_rfl) (by kernel_rfl) (fun _ _ _ h => h) (Or.inr ⟨by rfl, rfl⟩) hHeld ?_
            simp only [Act.put, r20o39, List.setIfInBounds_toArray, List.set_cons_zero, List.set_cons_succ]
            refine wpAnyH_take (i := 40) (oi := r20o40) (v := undef) rfl (by kernel_rfl) (by kernel_rfl) (by kernel_rfl) (fun _ _ _ h => h) (Or.inr ⟨by rfl, rfl⟩) hHeld ?_
            simp only [Act.put, r20o40, List.setIfInBounds_toArray, List.set_cons_zero, List.set_cons_succ]
            refine wpAnyH_take (i := 41) (oi := r20o41) (v := undef) rfl (by kernel_rfl) (by kernel_rfl) (by kernel_rfl) (fun _ _ _ h => h) (Or.inr ⟨by rfl, rfl⟩) hHeld ?_
            simp only [Act.put, r20o41, List.setIfInBounds_toArray, List.set_cons_zero, List.set_cons_succ]
            refine wpAnyH_take (i := 42) (oi := r20o42) (v := undef) rfl (by kernel_rfl) (by kernel_rfl) (by kernel_rfl) (fun _ _ _ h => h) (Or.inr ⟨by rfl, rfl⟩) hHeld ?_
            simp only [Act.put, r20o42, List.setIfInBounds_toArray, List.set_cons_zero, List.set_cons_succ]
            refine wpAnyH_take (i := 43) (oi := r20o43) (v := undef) rfl (by kernel_rfl) (by kernel_rfl) (by kernel_rfl) (fun _ _ _ h => h) (Or.inr ⟨by rfl, rfl⟩) hHeld ?_
            simp only [Act.put, r20o43, List.setIfInBounds_toArray, List.set_cons_zero, List.set_cons_succ]
            refine wpAnyH_take (i := 44) (oi := r20o44) (v := undef) rfl (by kernel_rfl) (by kernel_rfl) (by kernel_rfl) (fun _ _ _ h => h) (Or.inr ⟨by rfl, rfl⟩) hHeld ?_
            simp only [Act.put, r20o44, List.setIfInBounds_toArray, List.set_cons_zero, List.set_cons_succ]
            refine wpAnyH_take (i := 45) (oi := r20o45) (v := ?_) rfl (by kernel_rfl) (by kernel_rfl) (by kernel_rfl) (fun _ _ _ h => h) (Or.inl ⟨by rfl, ?_⟩) hHeld ?_
            rotate_left
            focus (intro W hSw; obtain ⟨hq0, hq1⟩ := hSw; unfold r20o45; go_simp; try with_reducible rfl)
            simp only [Act.put, r20o45, List.setIfInBounds_toArray, List.set_cons_zero, List.set_cons_succ]
            refine wpAnyH_take (i := 46) (oi := r20o46) (v := ?_) rfl (by kernel_rfl) (by kernel_rfl) (by kernel_rfl) (fun _ _ _ h => h) (Or.inl ⟨by rfl, ?_⟩) hHeld ?_
            rotate_left
            focus (intro W hSw; obtain ⟨hq0, hq1⟩ := hSw; unfold r20o46; go_simp; try with_reducible rfl)
            simp only [Act.put, r20o46, List.setIfInBounds_toArray, List.set_cons_zero, List.set_cons_succ]
            refine wpAnyH_take (i := 47) (oi := r20o47) (v := ?_) rfl (by kernel_rfl) (by kernel_rfl) (by kernel_rfl) (fun _ _ _ h => h) (Or.inl ⟨by rfl, ?_⟩) hHeld ?_
            rotate_left
            focus (intro W hSw; obtain ⟨hq0, hq1⟩ := hSw; unfold r20o47; go_simp; try with_reducible rfl)
            simp only [Act.put, r20o47, List.setIfInBounds_toArray, List.set_cons_zero, List.set_cons_succ]
            refine wpAnyH_take (i := 48) (oi := r20o48) (v := ?_) rfl (by kernel_rfl) (by kernel_rfl) (by kernel_rfl) (fun _ _ _ h => h) (Or.inl ⟨by rfl, ?_⟩) hHeld ?_
            rotate_left
            focus (intro W hSw; obtain ⟨hq0, hq1⟩ := hSw; unfold r20o48; go_simp; try with_reducible rfl)
            simp only [Act.put, r20o48, List.setIfInBounds_toArray, List.set_cons_zero, List.set_cons_succ]
            refine wpAnyH_take (i := 49) (oi := r20o49) (v := ?_) rfl (by kernel_rfl) (by kernel_rfl) (by kernel_rfl) (fun _ _ _ h => h) (Or.inl ⟨by rfl, ?_⟩) hHeld ?_
            rotate_left
            focus (intro W hSw; obtain ⟨hq0, hq1⟩ := hSw; unfold r20o49; go_simp; try with_reducible rfl)
            simp only [Act.put, r20o49, List.setIfInBounds_toArray, List.set_cons_zero, List.set_cons_succ]
            refine wpAnyH_take (i := 50) (oi := r20o50) (v := ?_) rfl (by kernel_rfl) (by kernel_rfl) (by kernel_rfl) (fun _ _ _ h => h) (Or.inl ⟨by rfl, ?_⟩) hHeld ?_
            rotate_left
            focus (intro W hSw; obtain ⟨hq0, hq1⟩ := hSw; unfold r20o50; go_simp; try with_reducible rfl)
            simp only [Act.put, r20o50, List.setIfInBounds_toArray, List.set_cons_zero, List.set_cons_succ]
            refine wpAnyH_take (i := 51) (oi := r20o51) (v := ?_) rfl (by kernel_rfl) (by kernel_rfl) (by kernel_rfl) (fun _ _ _ h => h) (Or.inl ⟨by rfl, ?_⟩) hHeld ?_
            rotate_left
            focus (intro W hSw; obtain ⟨hq0, hq1⟩ := hSw; unfold r20o51; go_simp; try with_reducible rfl)
            simp only [Act.put, r20o51, List.setIfInBounds_toArray, List.set_cons_zero, List.set_cons_succ]
            refine wpAnyH_take (i := 52) (oi := r20o52) (v := undef) rfl (by kernel_rfl) (by kernel_rfl) (by kernel_rfl) (fun _ _ _ h => h) (Or.inr ⟨by rfl, rfl⟩) hHeld ?_
            simp only [Act.put, r20o52, List.setIfInBounds_toArray, List.set_cons_zero, List.set_cons_succ]
            refine wpAnyH_take (i := 53) (oi := r20o53) (v := undef) rfl (by kernel_rfl) (by kernel_rfl) (by kernel_rfl) (fun _ _ _ h => h) (Or.inr ⟨by rfl, rfl⟩) hHeld ?_
            simp only [Act.put, r20o53, List.setIfInBounds_toArray, List.set_cons_zero, List.set_cons_succ]
            refine wpAnyH_take (i := 54) (oi := r20o54) (v := undef) rfl (by kernel_rfl) (by kernel_rfl) (by kernel_rfl) (fun _ _ _ h => h) (Or.inr ⟨by rfl, rfl⟩) hHeld ?_
            simp only [Act.put, r20o54, List.setIfInBounds_toArray, List.set_cons_zero, List.set_cons_succ]
            refine wpAnyH_take (i := 55) (oi := r20o55) (v := undef) rfl (by kernel_rfl) (by kernel_rfl) (by kernel_rfl) (fun _ _ _ h => h) (Or.inr ⟨by rfl, rfl⟩) hHeld ?_
            simp only [Act.put, r20o55, List.setIfInBounds_toArray, List.set_cons_zero, List.set_cons_succ]
            refine wpAnyH_take (i := 56) (oi := r20o56) (v := undef) rfl (by kernel_rfl) (by kernel_rfl) (by kernel_rfl) (fun _ _ _ h => h) (Or.inr ⟨by rfl, rfl⟩) hHeld ?_
            simp only [Act.put, r20o56, List.setIfInBounds_toArray, List.set_cons_zero, List.set_cons_succ]
            refine wpAnyH_take (i := 57) (oi := r20o57) (v := ?_) rfl (by kernel_rfl) (by kernel_rfl) (by kernel_rfl) (fun _ _ _ h => h) (Or.inl ⟨by rfl, ?_⟩) hHeld ?_
            rotate_left
            focus (intro W hSw; obtain ⟨hq0, hq1⟩ := hSw; unfold r20o57; go_simp; try with_reducible rfl)
            simp only [Act.put, r20o57, List.setIfInBounds_toArray, List.set_cons_zero, List.set_cons_succ]
            refine wpAnyH_take (i := 58) (oi := r20o58) (v := ?_) rfl (by kernel_rfl) (by kernel_rfl) (by kernel_rfl) (fun _ _ _ h => h) (Or.inl ⟨by rfl, ?_⟩) hHeld ?_
            rotate_left
            focus (intro W hSw; obtain ⟨hq0, hq1⟩ := hSw; unfold r20o58; go_simp; try with_reducible rfl)
            simp only [Act.put, r20o58, List.setIfInBounds_toArray, List.set_cons_zero, List.set_cons_succ]
            refine wpAnyH_done (by kernel_rfl) ?_ _
            all_goals go_wp2_with (first | (go_at_call 21; refine (left_any HC4.out).mono ?_; rintro r w6 ⟨rfl, mm, rfl⟩) | (go_at_call 22; refine (good_any (HC4.out.drewN _)).mono ?_; rintro r w7 ⟨rfl, rfl⟩))
            all_goals go_roundw
            all_goals first | (case rel => exact ⟨k + 1, p + size, f, by omega, by go_num, by go_num, rfl, HC4.out.drewN _, below_drewN' HK4.out _⟩) | (case measure => simp [intOf]; omega)
        · as_aux_lemma =>
            have HB := Lib.hid ((numberBad her : Act1 17 bs p er 0 0 er))
            have e1 : (er == 0) = false := by simpa using her
            have e2 : (er != 0) = true := by simpa using her
            have HER := Lib.hid her
            clear her HA HS
            go_wp2_with fail
            refine wp_region_held_drew (S := fun W => W.cell? ⟨wr.heap.size, 0, none⟩ = some (.int .i64 2) ∧ W.cell? ⟨wr.heap.size, 1, none⟩ = some (.int .i64 mk)) (by kernel_rfl) ⟨hca, hcb⟩ (fun hHeld => ?_)
            refine wpAnyH_take (i := 0) (oi := r20o0) (v := ?_) rfl (by kernel_rfl) (by kernel_rfl) (by kernel_rfl) (fun _ _ _ h => h) (Or.inl ⟨by rfl, ?_⟩) hHeld ?_
            rotate_left
            focus (intro W hSw; obtain ⟨hq0, hq1⟩ := hSw; unfold r20o0; go_simp; try with_reducible rfl)
            simp only [Act.put, r20o0, List.setIfInBounds_toArray, List.set_cons_zero, List.set_cons_succ]
            refine wpAnyH_take (i := 1) (oi := r20o1) (v := ?_) rfl (by kernel_rfl) (by kernel_rfl) (by kernel_rfl) (fun _ _ _ h => h) (Or.inl ⟨by rfl, ?_⟩) hHeld ?_
            rotate_left
            focus (intro W hSw; obtain ⟨hq0, hq1⟩ := hSw; unfold r20o1; go_simp; try with_reducible rfl)
            simp only [Act.put, r20o1, List.setIfInBounds_toArray, List.set_cons_zero, List.set_cons_succ]
            refine wpAnyH_take (i := 2) (oi := r20o2) (v := ?_) rfl (by kernel_rfl) (by kernel_rfl) (by kernel_rfl) (fun _ _ _ h => h) (Or.inl ⟨by rfl, ?_⟩) hHeld ?_
            rotate_left
            focus (intro W hSw; obtain ⟨hq0, hq1⟩ := hSw; unfold r20o2; go_simp; try with_reducible rfl)
            simp only [Act.put, r20o2, List.setIfInBounds_toArray, List.set_cons_zero, List.set_cons_succ]
            refine wpAnyH_take (i := 3) (oi := r20o3) (v := ?_) rfl (by kernel_rfl) (by kernel_rfl) (by kernel_rfl) (fun _ _ _ h => h) (Or.inl ⟨by rfl, ?_⟩) hHeld ?_
            rotate_left
            focus (intro W hSw; obtain ⟨hq0, hq1⟩ := hSw; unfold r20o3; go_simp; try with_reducible rfl)
            simp only [Act.put, r20o3, List.setIfInBounds_toArray, List.set_cons_zero, List.set_cons_succ]
            refine wpAnyH_take (i := 4) (oi := r20o4) (v := undef) rfl (by kernel_rfl) (by kernel_rfl) (by kernel_rfl) (fun _ _ _ h => h) (Or.inr ⟨by rfl, rfl⟩) hHeld ?_
            simp only [Act.put, r20o4, List.setIfInBounds_toArray, List.set_cons_zero, List.set_cons_succ]
            refine wpAnyH_take (i := 5) (oi := r20o5) (v := undef) rfl (by kernel_rfl) (by kernel_rfl) (by kernel_rfl) (fun _ _ _ h => h) (Or.inr ⟨by rfl, rfl⟩) hHeld ?_
            simp only [Act.put, r20o5, List.setIfInBounds_toArray, List.set_cons_zero, List.set_cons_succ]
            refine wpAnyH_take (i := 6) (oi := r20o6) (v := undef) rfl (by kernel_rfl) (by kernel_rfl) (by kernel_rfl) (fun _ _ _ h => h) (Or.inr ⟨by rfl, rfl⟩) hHeld ?_
            simp only [Act.put, r20o6, List.setIfInBounds_toArray, List.set_cons_zero, List.set_cons_succ]
            refine wpAnyH_take (i := 7) (oi := r20o7) (v := undef) rfl (by kernel_rfl) (by kernel_rfl) (by kernel_rfl) (fun _ _ _ h => h) (Or.inr ⟨by rfl, rfl⟩) hHeld ?_
            simp only [Act.put, r20o7, List.setIfInBounds_toArray, List.set_cons_zero, List.set_cons_succ]
            refine wpAnyH_take (i := 8) (oi := r20o8) (v := ?_) rfl (by kernel_rfl) (by kernel_rfl) (by kernel_rfl) (fun _ _ _ h => h) (Or.inl ⟨by rfl, ?_⟩) hHeld ?_
            rotate_left
            focus (intro W hSw; obtain ⟨hq0, hq1⟩ := hSw; unfold r20o8; go_simp; try with_reducible rfl)
            simp only [Act.put, r20o8, List.setIfInBounds_toArray, List.set_cons_zero, List.set_cons_succ]
            refine wpAnyH_take (i := 9) (oi := r20o9) (v := ?_) rfl (by kernel_rfl) (by kernel_rfl) (by kernel_rfl) (fun _ _ _ h => h) (Or.inl ⟨by rfl, ?_⟩) hHeld ?_
            rotate_left
            focus (intro W hSw; obtain ⟨hq0, hq1⟩ := hSw; unfold r20o9; go_simp; try with_reducible rfl)
            simp only [Act.put, r20o9, List.setIfInBounds_toArray, List.set_cons_zero, List.set_cons_succ]
            refine wpAnyH_take (i := 10) (oi := r20o10) (v := ?_) rfl (by kernel_rfl) (by kernel_rfl) (by kernel_rfl) (fun _ _ _ h => h) (Or.inl ⟨by rfl, ?_⟩) hHeld ?_
            rotate_left
            focus (intro W hSw; obtain ⟨hq0, hq1⟩ := hSw; unfold r20o10; go_simp; try with_reducible rfl)
            simp only [Act.put, r20o10, List.setIfInBounds_toArray, List.set_cons_zero, List.set_cons_succ]
            refine wpAnyH_take (i := 11) (oi := r20o11) (v := ?_) rfl (by kernel_rfl) (by kernel_rfl) (by kernel_rfl) (fun _ _ _ h => h) (Or.inl ⟨by rfl, ?_⟩) hHeld ?_
            rotate_left
            focus (intro W hSw; obtain ⟨hq0, hq1⟩ := hSw; unfold r20o11; go_simp; try with_reducible rfl)
            simp only [Act.put, r20o11, List.setIfInBounds_toArray, List.set_cons_zero, List.set_cons_succ]
            refine wpAnyH_take (i := 12) (oi := r20o12) (v := ?_) rfl (by kernel_rfl) (by kernel_rfl) (by kernel_rfl) (fun _ _ _ h => h) (Or.inl ⟨by rfl, ?_⟩) hHeld ?_
            rotate_left
            focus (intro W hSw; obtain ⟨hq0, hq1⟩ := hSw; unfold r20o12; go_simp; try with_reducible rfl)
            simp only [Act.put, r20o12, List.setIfInBounds_toArray, List.set_cons_zero, List.set_cons_succ]
            refine wpAnyH_take (i := 13) (oi := r20o13) (v := ?_) rfl (by kernel_rfl) (by kernel_rfl) (by kernel_rfl) (fun _ _ _ h => h) (Or.inl ⟨by rfl, ?_⟩) hHeld ?_
            rotate_left
            focus (intro W hSw; obtain ⟨hq0, hq1⟩ := hSw; unfold r20o13; go_simp; try with_reducible rfl)
            simp only [Act.put, r20o13, List.setIfInBounds_toArray, List.set_cons_zero, List.set_cons_succ]
            refine wpAnyH_take (i := 14) (oi := r20o14) (v := undef) rfl (by kernel_rfl) (by kernel_rfl) (by kernel_rfl) (fun _ _ _ h => h) (Or.inr ⟨by rfl, rfl⟩) hHeld ?_
            simp only [Act.put, r20o14, List.setIfInBounds_toArray, List.set_cons_zero, List.set_cons_succ]
            refine wpAnyH_take (i := 15) (oi := r20o15) (v := undef) rfl (by kernel_rfl) (by kernel_rfl) (by kernel_rfl) (fun _ _ _ h => h) (Or.inr ⟨by rfl, rfl⟩) hHeld ?_
            simp only [Act.put, r20o15, List.setIfInBounds_toArray, List.set_cons_zero, List.set_cons_succ]
            refine wpAnyH_take (i := 16) (oi := r20o16) (v := undef) rfl (by kernel_rfl) (by kernel_rfl) (by kernel_rfl) (fun _ _ _ h => h) (Or.inr ⟨by rfl, rfl⟩) hHeld ?_
            simp only [Act.put, r20o16, List.setIfInBounds_toArray, List.set_cons_zero, List.set_cons_succ]
            refine wpAnyH_take (i := 17) (oi := r20o17) (v := undef) rfl (by kernel_rfl) (by kernel_rfl) (by kernel_rfl) (fun _ _ _ h => h) (Or.inr ⟨by rfl, rfl⟩) hHeld ?_
            simp only [Act.put, r20o17, List.setIfInBounds_toArray, List.set_cons_zero, List.set_cons_succ]
            refine wpAnyH_take (i := 18) (oi := r20o18) (v := undef) rfl (by kernel_rfl) (by kernel_rfl) (by kernel_rfl) (fun _ _ _ h => h) (Or.inr ⟨by rfl, rfl⟩) hHeld ?_
            simp only [Act.put, r20o18, List.setIfInBounds_toArray, List.set_cons_zero, List.set_cons_succ]
            refine wpAnyH_take (i := 19) (oi := r20o19) (v := undef) rfl (by kernel_rfl) (by kernel_rfl) (by kernel_rfl) (fun _ _ _ h => h) (Or.inr ⟨by rfl, rfl⟩) hHeld ?_
            simp only [Act.put, r20o19, List.setIfInBounds_toArray, List.set_cons_zero, List.set_cons_succ]
            refine wpAnyH_take (i := 20) (oi := r20o20) (v := undef) rfl (by kernel_rfl) (by kernel_rfl) (by kernel_rfl) (fun _ _ _ h => h) (Or.inr ⟨by rfl, rfl⟩) hHeld ?_
            simp only [Act.put, r20o20, List.setIfInBounds_toArray, List.set_cons_zero, List.set_cons_succ]
            refine wpAnyH_take (i := 21) (oi := r20o21) (v := ?_) rfl (by kernel_rfl) (by kernel_rfl) (by kernel_rfl) (fun _ _ _ h => h) (Or.inl ⟨by rfl, ?_⟩) hHeld ?_
            rotate_left
            focus (intro W hSw; obtain ⟨hq0, hq1⟩ := hSw; unfold r20o21; go_simp; try with_reducible rfl)
            simp only [Act.put, r20o21, List.setIfInBounds_toArray, List.set_cons_zero, List.set_cons_succ]
            refine wpAnyH_take (i := 22) (oi := r20o22) (v := ?_) rfl (by kernel_rfl) (by kernel_rfl) (by kernel_rfl) (fun _ _ _ h => h) (Or.inl ⟨by rfl, ?_⟩) hHeld ?_
            rotate_left
            focus (intro W hSw; obtain ⟨hq0, hq1⟩ := hSw; unfold r20o22; go_simp; try with_reducible rfl)
            simp only [Act.put, r20o22, List.setIfInBounds_toArray, List.set_cons_zero, List.set_cons_succ]
            refine wpAnyH_take (i := 23) (oi := r20o23) (v := ?_) rfl (by kernel_rfl) (by kernel_rfl) (by kernel_rfl) (fun _ _ _ h => h) (Or.inl ⟨by rfl, ?_⟩) hHeld ?_
            rotate_left
            focus (intro W hSw; obtain ⟨hq0, hq1⟩ := hSw; unfold r20o23; go_simp; try with_reducible rfl)
            simp only [Act.put, r20o23, List.setIfInBounds_toArray, List.set_cons_zero, List.set_cons_succ]
            refine wpAnyH_take (i := 24) (oi := r20o24) (v := ?_) rfl (by kernel_rfl) (by kernel_rfl) (by kernel_rfl) (fun _ _ _ h => h) (Or.inl ⟨by rfl, ?_⟩) hHeld ?_
            rotate_left
            focus (intro W hSw; obtain ⟨hq0, hq1⟩ := hSw; unfold r20o24; go_simp; try with_reducible rfl)
            simp only [Act.put, r20o24, List.setIfInBounds_toArray, List.set_cons_zero, List.set_cons_succ]
            refine wpAnyH_take (i := 25) (oi := r20o25) (v := ?_) rfl (by kernel_rfl) (by kernel_rfl) (by kernel_rfl) (fun _ _ _ h => h) (Or.inl ⟨by rfl, ?_⟩) hHeld ?_
            rotate_left
            focus (intro W hSw; obtain ⟨hq0, hq1⟩ := hSw; unfold r20o25; go_simp; try with_reducible rfl)
            simp only [Act.put, r20o25, List.setIfInBounds_toArray, List.set_cons_zero, List.set_cons_succ]
            refine wpAnyH_take (i := 26) (oi := r20o26) (v := ?_) rfl (by kernel_rfl) (by kernel_rfl) (by kernel_rfl) (fun _ _ _ h => h) (Or.inl ⟨by rfl, ?_⟩) hHeld ?_
            rotate_left
            focus (intro W hSw; obtain ⟨hq0, hq1⟩ := hSw; unfold r20o26; go_simp; try with_reducible rfl)
            simp only [Act.put, r20o26, List.setIfInBounds_toArray, List.set_cons_zero, List.set_cons_succ]
            refine wpAnyH_take (i := 27) (oi := r20o27) (v := ?_) rfl (by kernel_rfl) (by kernel_rfl) (by kernel_rfl) (fun _ _ _ h => h) (Or.inl ⟨by rfl, ?_⟩) hHeld ?_
            rotate_left
            focus (intro W hSw; obtain ⟨hq0, hq1⟩ := hSw; unfold r20o27; go_simp; try with_reducible rfl)
            simp only [Act.put, r20o27, List.setIfInBounds_toArray, List.set_cons_zero, List.set_cons_succ]
            refine wpAnyH_take (i := 28) (oi := r20o28) (v := ?_) rfl (by kernel_rfl) (by kernel_rfl) (by kernel_rfl) (fun _ _ _ h => h) (Or.inl ⟨by rfl, ?_⟩) hHeld ?_
            rotate_left
            focus (intro W hSw; obtain ⟨hq0, hq1⟩ := hSw; unfold r20o28; go_simp; try with_reducible rfl)
            simp only [Act.put, r20o28, List.setIfInBounds_toArray, List.set_cons_zero, List.set_cons_succ]
            refine wpAnyH_take (i := 30) (oi := r20o30) (v := ?_) rfl (by kernel_rfl) (by kernel_rfl) (by kernel_rfl) (fun _ _ _ h => h) (Or.inl ⟨by rfl, ?_⟩) hHeld ?_
            rotate_left
            focus (intro W hSw; obtain ⟨hq0, hq1⟩ := hSw; unfold r20o30; go_simp; try with_reducible rfl)
            simp only [Act.put, r20o30, List.setIfInBounds_toArray, List.set_cons_zero, List.set_cons_succ]
            refine wpAnyH_ready (rs := [29]) (by kernel_rfl) (by simp) ?_
            refine AllReadyH.cons (o := r20o29) rfl (fun K hK => ?_) AllReadyH.nil
            unfold r20o29
            go_simp
            refine (HB.out _ _ _ HC3.out.drew).mono ?_
            rintro r w4 ⟨rfl, hc4, hg4⟩
            have hca4 := hg4.cell (a := ⟨wr.heap.size, 0, none⟩) hca (by simp; omega)
            have hcb4 := hg4.cell (a := ⟨wr.heap.size, 1, none⟩) hcb (by simp; omega)
            have k4 := below_some (Below.drew HK3.out) hg4 s3 (by omega)
            have HC4 := Lib.hid hc4
            have HK4 := Lib.hid k4
            have HG4 := Lib.hid hg4
            have s4 := k4.size
            clear hc4 hg4 k4
            refine hK.out _ _ ⟨hca4, hcb4⟩ (fun hHeld => ?_)
            clear hK K
            refine wpAnyH_take (i := 31) (oi := r20o31) (v := ?_) rfl (by kernel_rfl) (by kernel_rfl) (by kernel_rfl) (fun _ _ _ h => h) (Or.inl ⟨by rfl, ?_⟩) hHeld ?_
            rotate_left
            focus (intro W hSw; obtain ⟨hq0, hq1⟩ := hSw; unfold r20o31; go_simp; try with_reducible rfl)
            simp only [Act.put, r20o31, List.setIfInBounds_toArray, List.set_cons_zero, List.set_cons_succ]
            refine wpAnyH_take (i := 32) (oi := r20o32) (v := ?_) rfl (by kernel_rfl) (by kernel_rfl) (by kernel_rfl) (fun _ _ _ h => h) (Or.inl ⟨by rfl, ?_⟩) hHeld ?_
            rotate_left
            focus (intro W hSw; obtain ⟨hq0, hq1⟩ := hSw; unfold r20o32; go_simp; try with_reducible rfl)
            simp only [Act.put, r20o32, List.setIfInBounds_toArray, List.set_cons_zero, List.set_cons_succ]
            refine wpAnyH_take (i := 33) (oi := r20o33) (v := ?_) rfl (by kernel_rfl) (by kernel_rfl) (by kernel_rfl) (fun _ _ _ h => h) (Or.inl ⟨by rfl, ?_⟩) hHeld ?_
            rotate_left
            focus (intro W hSw; obtain ⟨hq0, hq1⟩ := hSw; unfold r20o33; go_simp; try with_reducible rfl)
            simp only [Act.put, r20o33, List.setIfInBounds_toArray, List.set_cons_zero, List.set_cons_succ]
            refine wpAnyH_take (i := 34) (oi := r20o34) (v := ?_) rfl (by kernel_rfl) (by kernel_rfl) (by kernel_rfl) (fun _ _ _ h => h) (Or.inl ⟨by rfl, ?_⟩) hHeld ?_
            rotate_left
            focus (intro W hSw; obtain ⟨hq0, hq1⟩ := hSw; unfold r20o34; go_simp; try with_reducible rfl)
            simp only [Act.put, r20o34, List.setIfInBounds_toArray, List.set_cons_zero, List.set_cons_succ]
            refine wpAnyH_take (i := 35) (oi := r20o35) (v := ?_) rfl (by kernel_rfl) (by kernel_rfl) (by kernel_rfl) (fun _ _ _ h => h) (Or.inl ⟨by rfl, ?_⟩) hHeld ?_
            rotate_left
            focus (intro W hSw; obtain ⟨hq0, hq1⟩ := hSw; unfold r20o35; go_simp; try with_reducible rfl)
            simp only [Act.put, r20o35, List.setIfInBounds_toArray, List.set_cons_zero, List.set_cons_succ]
            refine wpAnyH_take (i := 36) (oi := r20o36) (v := ?_) rfl (by kernel_rfl) (by kernel_rfl) (by kernel_rfl) (fun _ _ _ h => h) (Or.inl ⟨by rfl, ?_⟩) hHeld ?_
            rotate_left
            focus (intro W hSw; obtain ⟨hq0, hq1⟩ := hSw; unfold r20o36; go_simp; try with_reducible rfl)
            simp only [Act.put, r20o36, List.setIfInBounds_toArray, List.set_cons_zero, List.set_cons_succ]
            refine wpAnyH_take (i := 37) (oi := r20o37) (v := ?_) rfl (by kernel_rfl) (by kernel_rfl) (by kernel_rfl) (fun _ _ _ h => h) (Or.inl ⟨by rfl, ?_⟩) hHeld ?_
            rotate_left
            focus (intro W hSw; obtain ⟨hq0, hq1⟩ := hSw; unfold r20o37; go_simp; try with_reducible rfl)
            simp only [Act.put, r20o37, List.setIfInBounds_toArray, List.set_cons_zero, List.set_cons_succ]
            refine wpAnyH_take (i := 38) (oi := r20o38) (v := ?_) rfl (by kernel_rfl) (by kernel_rfl) (by kernel_rfl) (fun _ _ _ h => h) (Or.inl ⟨by rfl, ?_⟩) hHeld ?_
            rotate_left
            focus (intro W hSw; obtain ⟨hq0, hq1⟩ := hSw; unfold r20o38; go_simp; try with_reducible rfl)
            simp only [Act.put, r20o38, List.setIfInBounds_toArray, List.set_cons_zero, List.set_cons_succ]
            refine wpAnyH_take (i := 39) (oi := r20o39) (v := undef) rfl (by kernel_rfl) (by kernel_rfl) (by kernel_rfl) (fun _ _ _ h => h) (Or.inr ⟨by rfl, rfl⟩) hHeld ?_
            simp only [Act.put, r20o39, List.setIfInBounds_toArray, List.set_cons_zero, List.set_cons_succ]
            refine wpAnyH_take (i := 40) (oi := r20o40) (v := undef) rfl (by kernel_rfl) (by kernel_rfl) (by kernel_rfl) (fun _ _ _ h => h) (Or.inr ⟨by rfl, rfl⟩) hHeld ?_
            simp only [Act.put, r20o40, List.setIfInBounds_toArray, List.set_cons_zero, List.set_cons_succ]
            refine wpAnyH_take (i := 41) (oi := r20o41) (v := undef) rfl (by kernel_rfl) (by kernel_rfl) (by kernel_rfl) (fun _ _ _ h => h) (Or.inr ⟨by rfl, rfl⟩) hHeld ?_
            simp only [Act.put, r20o41, List.setIfInBounds_toArray, List.set_cons_zero, List.set_cons_succ]
            refine wpAnyH_take (i := 42) (oi := r20o42) (v := undef) rfl (by kernel_rfl) (by kernel_rfl) (by kernel_rfl) (fun _ _ _ h => h) (Or.inr ⟨by rfl, rfl⟩) hHeld ?_
            simp only [Act.put, r20o42, List.setIfInBounds_toArray, List.set_cons_zero, List.set_cons_succ]
            refine wpAnyH_take (i := 43) (oi := r20o43) (v := undef) rfl (by kernel_rfl) (by kernel_rfl) (by kernel_rfl) (fun _ _ _ h => h) (Or.inr ⟨by rfl, rfl⟩) hHeld ?_
            simp only [Act.put, r20o43, List.setIfInBounds_toArray, List.set_cons_zero, List.set_cons_succ]
            refine wpAnyH_take (i := 44) (oi := r20o44) (v := undef) rfl (by kernel_rfl) (by kernel_rfl) (by kernel_rfl) (fun _ _ _ h => h) (Or.inr ⟨by rfl, rfl⟩) hHeld ?_
            simp only [Act.put, r20o44, List.setIfInBounds_toArray, List.set_cons_zero, List.set_cons_succ]
            refine wpAnyH_take (i := 45) (oi := r20o45) (v := ?_) rfl (by kernel_rfl) (by kernel_rfl) (by kernel_rfl) (fun _ _ _ h => h) (Or.inl ⟨by rfl, ?_⟩) hHeld ?_
            rotate_left
            focus (intro W hSw; obtain ⟨hq0, hq1⟩ := hSw; unfold r20o45; go_simp; try with_reducible rfl)
            simp only [Act.put, r20o45, List.setIfInBounds_toArray, List.set_cons_zero, List.set_cons_succ]
            refine wpAnyH_take (i := 46) (oi := r20o46) (v := ?_) rfl (by kernel_rfl) (by kernel_rfl) (by kernel_rfl) (fun _ _ _ h => h) (Or.inl ⟨by rfl, ?_⟩) hHeld ?_
            rotate_left
            focus (intro W hSw; obtain ⟨hq0, hq1⟩ := hSw; unfold r20o46; go_simp; try with_reducible rfl)
            simp only [Act.put, r20o46, List.setIfInBounds_toArray, List.set_cons_zero, List.set_cons_succ]
            refine wpAnyH_take (i := 47) (oi := r20o47) (v := ?_) rfl (by kernel_rfl) (by kernel_rfl) (by kernel_rfl) (fun _ _ _ h => h) (Or.inl ⟨by rfl, ?_⟩) hHeld ?_
            rotate_left
            focus (intro W hSw; obtain ⟨hq0, hq1⟩ := hSw; unfold r20o47; go_simp; try with_reducible rfl)
            simp only [Act.put, r20o47, List.setIfInBounds_toArray, List.set_cons_zero, List.set_cons_succ]
            refine wpAnyH_take (i := 48) (oi := r20o48) (v := ?_) rfl (by kernel_rfl) (by kernel_rfl) (by kernel_rfl) (fun _ _ _ h => h) (Or.inl ⟨by rfl, ?_⟩) hHeld ?_
            rotate_left
            focus (intro W hSw; obtain ⟨hq0, hq1⟩ := hSw; unfold r20o48; go_simp; try with_reducible rfl)
            simp only [Act.put, r20o48, List.setIfInBounds_toArray, List.set_cons_zero, List.set_cons_succ]
            refine wpAnyH_take (i := 49) (oi := r20o49) (v := ?_) rfl (by kernel_rfl) (by kernel_rfl) (by kernel_rfl) (fun _ _ _ h => h) (Or.inl ⟨by rfl, ?_⟩) hHeld ?_
            rotate_left
            focus (intro W hSw; obtain ⟨hq0, hq1⟩ := hSw; unfold r20o49; go_simp; try with_reducible rfl)
            simp only [Act.put, r20o49, List.setIfInBounds_toArray, List.set_cons_zero, List.set_cons_succ]
            refine wpAnyH_take (i := 50) (oi := r20o50) (v := ?_) rfl (by kernel_rfl) (by kernel_rfl) (by kernel_rfl) (fun _ _ _ h => h) (Or.inl ⟨by rfl, ?_⟩) hHeld ?_
            rotate_left
            focus (intro W hSw; obtain ⟨hq0, hq1⟩ := hSw; unfold r20o50; go_simp; try with_reducible rfl)
            simp only [Act.put, r20o50, List.setIfInBounds_toArray, List.set_cons_zero, List.set_cons_succ]
            refine wpAnyH_take (i := 51) (oi := r20o51) (v := ?_) rfl (by kernel_rfl) (by kernel_rfl) (by kernel_rfl) (fun _ _ _ h => h) (Or.inl ⟨by rfl, ?_⟩) hHeld ?_
            rotate_left
            focus (intro W hSw; obtain ⟨hq0, hq1⟩ := hSw; unfold r20o51; go_simp; try with_reducible rfl)
            simp only [Act.put, r20o51, List.setIfInBounds_toArray, List.set_cons_zero, List.set_cons_succ]
            refine wpAnyH_take (i := 52) (oi := r20o52) (v := undef) rfl (by kernel_rfl) (by kernel_rfl) (by kernel_rfl) (fun _ _ _ h => h) (Or.inr ⟨by rfl, rfl⟩) hHeld ?_
            simp only [Act.put, r20o52, List.setIfInBounds_toArray, List.set_cons_zero, List.set_cons_succ]
            refine wpAnyH_take (i := 53) (oi := r20o53) (v := undef) rfl (by kernel_rfl) (by kernel_rfl) (by kernel_rfl) (fun _ _ _ h => h) (Or.inr ⟨by rfl, rfl⟩) hHeld ?_
            simp only [Act.put, r20o53, List.setIfInBounds_toArray, List.set_cons_zero, List.set_cons_succ]
            refine wpAnyH_take (i := 54) (oi := r20o54) (v := undef) rfl (by kernel_rfl) (by kernel_rfl) (by kernel_rfl) (fun _ _ _ h => h) (Or.inr ⟨by rfl, rfl⟩) hHeld ?_
            simp only [Act.put, r20o54, List.setIfInBounds_toArray, List.set_cons_zero, List.set_cons_succ]
            refine wpAnyH_take (i := 55) (oi := r20o55) (v := undef) rfl (by kernel_rfl) (by kernel_rfl) (by kernel_rfl) (fun _ _ _ h => h) (Or.inr ⟨by rfl, rfl⟩) hHeld ?_
            simp only [Act.put, r20o55, List.setIfInBounds_toArray, List.set_cons_zero, List.set_cons_succ]
            refine wpAnyH_take (i := 56) (oi := r20o56) (v := undef) rfl (by kernel_rfl) (by kernel_rfl) (by kernel_rfl) (fun _ _ _ h => h) (Or.inr ⟨by rfl, rfl⟩) hHeld ?_
            simp only [Act.put, r20o56, List.setIfInBounds_toArray, List.set_cons_zero, List.set_cons_succ]
            refine wpAnyH_take (i := 57) (oi := r20o57) (v := ?_) rfl (by kernel_rfl) (by kernel_rfl) (by kernel_rfl) (fun _ _ _ h => h) (Or.inl ⟨by rfl, ?_⟩) hHeld ?_
            rotate_left
            focus (intro W hSw; obtain ⟨hq0, hq1⟩ := hSw; unfold r20o57; go_simp; try with_reducible rfl)
            simp only [Act.put, r20o57, List.setIfInBounds_toArray, List.set_cons_zero, List.set_cons_succ]
            refine wpAnyH_take (i := 58) (oi := r20o58) (v := ?_) rfl (by kernel_rfl) (by kernel_rfl) (by kernel_rfl) (fun _ _ _ h => h) (Or.inl ⟨by rfl, ?_⟩) hHeld ?_
            rotate_left
            focus (intro W hSw; obtain ⟨hq0, hq1⟩ := hSw; unfold r20o58; go_simp; try with_reducible rfl)
            simp only [Act.put, r20o58, List.setIfInBounds_toArray, List.set_cons_zero, List.set_cons_succ]
            refine wpAnyH_done (by kernel_rfl) ?_ _
            all_goals go_wp2_with (first | (go_at_call 21; refine (left_any HC4.out).mono ?_; rintro r w6 ⟨rfl, mm, rfl⟩) | (go_at_call 22; refine (good_any (HC4.out.drewN _)).mono ?_; rintro r w7 ⟨rfl, rfl⟩))
            all_goals go_roundw
            all_goals first | (case rel => exact ⟨k + 1, p, er, by omega, by go_num, by go_num, rfl, HC4.out.drewN _, below_drewN' HK4.out _⟩) | (case measure => simp [intOf]; omega)
      by_cases hd3 : dk = 3
      · subst hd3
        obtain ⟨num, size, f, hps, hstep, hact⟩ := mostAct mk hp
        have HS := Lib.hid hstep
        have HA := Lib.hid hact
        clear hstep hact
        go_wp2_with fail
        refine (HS.out _ 0 w.heap.size A c ((H.out.below HK.out (Nat.le_refl _)).alloc sr _) (by simp; omega)).mono ?_
        rintro r w3 ⟨A', c', rfl, hrd, hb3⟩
        have hca : w3.cell? ⟨wr.heap.size, 0, none⟩ = some (.int .i64 3) := (hb3.cell (p := ⟨wr.heap.size, 0, none⟩) (by simp)).trans (World.cell?_alloc_at _ _ _ _ rfl)
        have hcb : w3.cell? ⟨wr.heap.size, 1, none⟩ = some (.int .i64 mk) := (hb3.cell (p := ⟨wr.heap.size, 1, none⟩) (by simp)).trans (World.cell?_alloc_at _ _ _ _ rfl)
        have HC3 := Lib.hid ((HC.out.grown (gb_alloc (gb_refl _ none) _) (by simp)).grown (below_gb_none (Nat.le_refl _) hb3) (by simp))
        have HR3 := Lib.hid hrd
        have k3 := below_below (HK.out.alloc sr _) hb3 (by simp; omega)
        have HK3 := Lib.hid k3
        have s3 := k3.size
        have z3 := hb3.size
        simp only [World.size_alloc] at z3
        clear hrd hb3 k3
        by_cases her : er = 0
        · as_aux_lemma =>
            subst her
            go_wp2_with fail
            refine wp_region_held_drew (S := fun W => W.cell? ⟨wr.heap.size, 0, none⟩ = some (.int .i64 3) ∧ W.cell? ⟨wr.heap.size, 1, none⟩ = some (.int .i64 mk)) (by kernel_rfl) ⟨hca, hcb⟩ (fun hHeld => ?_)
            refine wpAnyH_take (i := 0) (oi := r20o0) (v := ?_) rfl (by kernel_rfl) (by kernel_rfl) (by kernel_rfl) (fun _ _ _ h => h) (Or.inl ⟨by rfl, ?_⟩) hHeld ?_
            rotate_left
            focus (intro W hSw; obtain ⟨hq0, hq1⟩ := hSw; unfold r20o0; go_simp; try with_reducible rfl)
            simp only [Act.put, r20o0, List.setIfInBounds_toArray, List.set_cons_zero, List.set_cons_succ]
            refine wpAnyH_take (i := 1) (oi := r20o1) (v := ?_) rfl (by kernel_rfl) (by kernel_rfl) (by kernel_rfl) (fun _ _ _ h => h) (Or.inl ⟨by rfl, ?_⟩) hHeld ?_
            rotate_left
            focus (intro W hSw; obtain ⟨hq0, hq1⟩ := hSw; unfold r20o1; go_simp; try with_reducible rfl)
            simp only [Act.put, r20o1, List.setIfInBounds_toArray, List.set_cons_zero, List.set_cons_succ]
            refine wpAnyH_take (i := 2) (oi := r20o2) (v := ?_) rfl (by kernel_rfl) (by kernel_rfl) (by kernel_rfl) (fun _ _ _ h => h) (Or.inl ⟨by rfl, ?_⟩) hHeld ?_
            rotate_left
            focus (intro W hSw; obtain ⟨hq0, hq1⟩ := hSw; unfold r20o2; go_simp; try with_reducible rfl)
            simp only [Act.put, r20o2, List.setIfInBounds_toArray, List.set_cons_zero, List.set_cons_succ]
            refine wpAnyH_take (i := 3) (oi := r20o3) (v := ?_) rfl (by kernel_rfl) (by kernel_rfl) (by kernel_rfl) (fun _ _ _ h => h) (Or.inl ⟨by rfl, ?_⟩) hHeld ?_
            rotate_left
            focus (intro W hSw; obtain ⟨hq0, hq1⟩ := hSw; unfold r20o3; go_simp; try with_reducible rfl)
            simp only [Act.put, r20o3, List.setIfInBounds_toArray, List.set_cons_zero, List.set_cons_succ]
            refine wpAnyH_take (i := 4) (oi := r20o4) (v := undef) rfl (by kernel_rfl) (by kernel_rfl) (by kernel_rfl) (fun _ _ _ h => h) (Or.inr ⟨by rfl, rfl⟩) hHeld ?_
            simp only [Act.put, r20o4, List.setIfInBounds_toArray, List.set_cons_zero, List.set_cons_succ]
            refine wpAnyH_take (i := 5) (oi := r20o5) (v := undef) rfl (by kernel_rfl) (by kernel_rfl) (by kernel_rfl) (fun _ _ _ h => h) (Or.inr ⟨by rfl, rfl⟩) hHeld ?_
            simp only [Act.put, r20o5, List.setIfInBounds_toArray, List.set_cons_zero, List.set_cons_succ]
            refine wpAnyH_take (i := 6) (oi := r20o6) (v := undef) rfl (by kernel_rfl) (by kernel_rfl) (by kernel_rfl) (fun _ _ _ h => h) (Or.inr ⟨by rfl, rfl⟩) hHeld ?_
            simp only [Act.put, r20o6, List.setIfInBounds_toArray, List.set_cons_zero, List.set_cons_succ]
            refine wpAnyH_take (i := 7) (oi := r20o7) (v := undef) rfl (by kernel_rfl) (by kernel_rfl) (by kernel_rfl) (fun _ _ _ h => h) (Or.inr ⟨by rfl, rfl⟩) hHeld ?_
            simp only [Act.put, r20o7, List.setIfInBounds_toArray, List.set_cons_zero, List.set_cons_succ]
            refine wpAnyH_take (i := 8) (oi := r20o8) (v := ?_) rfl (by kernel_rfl) (by kernel_rfl) (by kernel_rfl) (fun _ _ _ h => h) (Or.inl ⟨by rfl, ?_⟩) hHeld ?_
            rotate_left
            focus (intro W hSw; obtain ⟨hq0, hq1⟩ := hSw; unfold r20o8; go_simp; try with_reducible rfl)
            simp only [Act.put, r20o8, List.setIfInBounds_toArray, List.set_cons_zero, List.set_cons_succ]
            refine wpAnyH_take (i := 9) (oi := r20o9) (v := ?_) rfl (by kernel_rfl) (by kernel_rfl) (by kernel_rfl) (fun _ _ _ h => h) (Or.inl ⟨by rfl, ?_⟩) hHeld ?_
            rotate_left
            focus (intro W hSw; obtain ⟨hq0, hq1⟩ := hSw; unfold r20o9; go_simp; try with_reducible rfl)
            simp only [Act.put, r20o9, List.setIfInBounds_toArray, List.set_cons_zero, List.set_cons_succ]
            refine wpAnyH_take (i := 10) (oi := r20o10) (v := ?_) rfl (by kernel_rfl) (by kernel_rfl) (by kernel_rfl) (fun _ _ _ h => h) (Or.inl ⟨by rfl, ?_⟩) hHeld ?_
            rotate_left
            focus (intro W hSw; obtain ⟨hq0, hq1⟩ := hSw; unfold r20o10; go_simp; try with_reducible rfl)
            simp only [Act.put, r20o10, List.setIfInBounds_toArray, List.set_cons_zero, List.set_cons_succ]
            refine wpAnyH_take (i := 11) (oi := r20o11) (v := ?_) rfl (by kernel_rfl) (by kernel_rfl) (by kernel_rfl) (fun _ _ _ h => h) (Or.inl ⟨by rfl, ?_⟩) hHeld ?_
            rotate_left
            focus (intro W hSw; obtain ⟨hq0, hq1⟩ := hSw; unfold r20o11; go_simp; try with_reducible rfl)
            simp only [Act.put, r20o11, List.setIfInBounds_toArray, List.set_cons_zero, List.set_cons_succ]
            refine wpAnyH_take (i := 12) (oi := r20o12) (v := ?_) rfl (by kernel_rfl) (by kernel_rfl) (by kernel_rfl) (fun _ _ _ h => h) (Or.inl ⟨by rfl, ?_⟩) hHeld ?_
            rotate_left
            focus (intro W hSw; obtain ⟨hq0, hq1⟩ := hSw; unfold r20o12; go_simp; try with_reducible rfl)
            simp only [Act.put, r20o12, List.setIfInBounds_toArray, List.set_cons_zero, List.set_cons_succ]
            refine wpAnyH_take (i := 13) (oi := r20o13) (v := ?_) rfl (by kernel_rfl) (by kernel_rfl) (by kernel_rfl) (fun _ _ _ h => h) (Or.inl ⟨by rfl, ?_⟩) hHeld ?_
            rotate_left
            focus (intro W hSw; obtain ⟨hq0, hq1⟩ := hSw; unfold r20o13; go_simp; try with_reducible rfl)
            simp only [Act.put, r20o13, List.setIfInBounds_toArray, List.set_cons_zero, List.set_cons_succ]
            refine wpAnyH_take (i := 14) (oi := r20o14) (v := undef) rfl (by kernel_rfl) (by kernel_rfl) (by kernel_rfl) (fun _ _ _ h => h) (Or.inr ⟨by rfl, rfl⟩) hHeld ?_
            simp only [Act.put, r20o14, List.setIfInBounds_toArray, List.set_cons_zero, List.set_cons_succ]
            refine wpAnyH_take (i := 15) (oi := r20o15) (v := undef) rfl (by kernel_rfl) (by kernel_rfl) (by kernel_rfl) (fun _ _ _ h => h) (Or.inr ⟨by rfl, rfl⟩) hHeld ?_
            simp only [Act.put, r20o15, List.setIfInBounds_toArray, List.set_cons_zero, List.set_cons_succ]
            refine wpAnyH_take (i := 16) (oi := r20o16) (v := undef) rfl (by kernel_rfl) (by kernel_rfl) (by kernel_rfl) (fun _ _ _ h => h) (Or.inr ⟨by rfl, rfl⟩) hHeld ?_
            simp only [Act.put, r20o16, List.setIfInBounds_toArray, List.set_cons_zero, List.set_cons_succ]
            refine wpAnyH_take (i := 17) (oi := r20o17) (v := undef) rfl (by kernel_rfl) (by kernel_rfl) (by kernel_rfl) (fun _ _ _ h => h) (Or.inr ⟨by rfl, rfl⟩) hHeld ?_
            simp only [Act.put, r20o17, List.setIfInBounds_toArray, List.set_cons_zero, List.set_cons_succ]
            refine wpAnyH_take (i := 18) (oi := r20o18) (v := undef) rfl (by kernel_rfl) (by kernel_rfl) (by kernel_rfl) (fun _ _ _ h => h) (Or.inr ⟨by rfl, rfl⟩) hHeld ?_
            simp only [Act.put, r20o18, List.setIfInBounds_toArray, List.set_cons_zero, List.set_cons_succ]
            refine wpAnyH_take (i := 19) (oi := r20o19) (v := undef) rfl (by kernel_rfl) (by kernel_rfl) (by kernel_rfl) (fun _ _ _ h => h) (Or.inr ⟨by rfl, rfl⟩) hHeld ?_
            simp only [Act.put, r20o19, List.setIfInBounds_toArray, List.set_cons_zero, List.set_cons_succ]
            refine wpAnyH_take (i := 20) (oi := r20o20) (v := undef) rfl (by kernel_rfl) (by kernel_rfl) (by kernel_rfl) (fun _ _ _ h => h) (Or.inr ⟨by rfl, rfl⟩) hHeld ?_
            simp only [Act.put, r20o20, List.setIfInBounds_toArray, List.set_cons_zero, List.set_cons_succ]
            refine wpAnyH_take (i := 21) (oi := r20o21) (v := ?_) rfl (by kernel_rfl) (by kernel_rfl) (by kernel_rfl) (fun _ _ _ h => h) (Or.inl ⟨by rfl, ?_⟩) hHeld ?_
            rotate_left
            focus (intro W hSw; obtain ⟨hq0, hq1⟩ := hSw; unfold r20o21; go_simp; try with_reducible rfl)
            simp only [Act.put, r20o21, List.setIfInBounds_toArray, List.set_cons_zero, List.set_cons_succ]
            refine wpAnyH_take (i := 22) (oi := r20o22) (v := ?_) rfl (by kernel_rfl) (by kernel_rfl) (by kernel_rfl) (fun _ _ _ h => h) (Or.inl ⟨by rfl, ?_⟩) hHeld ?_
            rotate_left
            focus (intro W hSw; obtain ⟨hq0, hq1⟩ := hSw; unfold r20o22; go_simp; try with_reducible rfl)
            simp only [Act.put, r20o22, List.setIfInBounds_toArray, List.set_cons_zero, List.set_cons_succ]
            refine wpAnyH_take (i := 23) (oi := r20o23) (v := ?_) rfl (by kernel_rfl) (by kernel_rfl) (by kernel_rfl) (fun _ _ _ h => h) (Or.inl ⟨by rfl, ?_⟩) hHeld ?_
            rotate_left
            focus (intro W hSw; obtain ⟨hq0, hq1⟩ := hSw; unfold r20o23; go_simp; try with_reducible rfl)
            simp only [Act.put, r20o23, List.setIfInBounds_toArray, List.set_cons_zero, List.set_cons_succ]
            refine wpAnyH_take (i := 24) (oi := r20o24) (v := ?_) rfl (by kernel_rfl) (by kernel_rfl) (by kernel_rfl) (fun _ _ _ h => h) (Or.inl ⟨by rfl, ?_⟩) hHeld ?_
            rotate_left
            focus (intro W hSw; obtain ⟨hq0, hq1⟩ := hSw; unfold r20o24; go_simp; try with_reducible rfl)
            simp only [Act.put, r20o24, List.setIfInBounds_toArray, List.set_cons_zero, List.set_cons_succ]
            refine wpAnyH_take (i := 25) (oi := r20o25) (v := ?_) rfl (by kernel_rfl) (by kernel_rfl) (by kernel_rfl) (fun _ _ _ h => h) (Or.inl ⟨by rfl, ?_⟩) hHeld ?_
            rotate_left
            focus (intro W hSw; obtain ⟨hq0, hq1⟩ := hSw; unfold r20o25; go_simp; try with_reducible rfl)
            simp only [Act.put, r20o25, List.setIfInBounds_toArray, List.set_cons_zero, List.set_cons_succ]
            refine wpAnyH_take (i := 26) (oi := r20o26) (v := ?_) rfl (by kernel_rfl) (by kernel_rfl) (by kernel_rfl) (fun _ _ _ h => h) (Or.inl ⟨by rfl, ?_⟩) hHeld ?_
            rotate_left
            focus (intro W hSw; obtain ⟨hq0, hq1⟩ := hSw; unfold r20o26; go_simp; try with_reducible rfl)
            simp only [Act.put, r20o26, List.setIfInBounds_toArray, List.set_cons_zero, List.set_cons_succ]
            refine wpAnyH_take (i := 27) (oi := r20o27) (v := ?_) rfl (by kernel_rfl) (by kernel_rfl) (by kernel_rfl) (fun _ _ _ h => h) (Or.inl ⟨by rfl, ?_⟩) hHeld ?_
            rotate_left
            focus (intro W hSw; obtain ⟨hq0, hq1⟩ := hSw; unfold r20o27; go_simp; try with_reducible rfl)
            simp only [Act.put, r20o27, List.setIfInBounds_toArray, List.set_cons_zero, List.set_cons_succ]
            refine wpAnyH_take (i := 28) (oi := r20o28) (v := undef) rfl (by kernel_rfl) (by kernel_rfl) (by kernel_rfl) (fun _ _ _ h => h) (Or.inr ⟨by rfl, rfl⟩) hHeld ?_
            simp only [Act.put, r20o28, List.setIfInBounds_toArray, List.set_cons_zero, List.set_cons_succ]
            refine wpAnyH_take (i := 29) (oi := r20o29) (v := undef) rfl (by kernel_rfl) (by kernel_rfl) (by kernel_rfl) (fun _ _ _ h => h) (Or.inr ⟨by rfl, rfl⟩) hHeld ?_
            simp only [Act.put, r20o29, List.setIfInBounds_toArray, List.set_cons_zero, List.set_cons_succ]
            refine wpAnyH_take (i := 30) (oi := r20o30) (v := undef) rfl (by kernel_rfl) (by kernel_rfl) (by kernel_rfl) (fun _ _ _ h => h) (Or.inr ⟨by rfl, rfl⟩) hHeld ?_
            simp only [Act.put, r20o30, List.setIfInBounds_toArray, List.set_cons_zero, List.set_cons_succ]
            refine wpAnyH_take (i := 31) (oi := r20o31) (v := undef) rfl (by kernel_rfl) (by kernel_rfl) (by kernel_rfl) (fun _ _ _ h => h) (Or.inr ⟨by rfl, rfl⟩) hHeld ?_
            simp only [Act.put, r20o31, List.setIfInBounds_toArray, List.set_cons_zero, List.set_cons_succ]
            refine wpAnyH_take (i := 32) (oi := r20o32) (v := ?_) rfl (by kernel_rfl) (by kernel_rfl) (by kernel_rfl) (fun _ _ _ h => h) (Or.inl ⟨by rfl, ?_⟩) hHeld ?_
            rotate_left
            focus (intro W hSw; obtain ⟨hq0, hq1⟩ := hSw; unfold r20o32; go_simp; try with_reducible rfl)
            simp only [Act.put, r20o32, List.setIfInBounds_toArray, List.set_cons_zero, List.set_cons_succ]
            refine wpAnyH_take (i := 33) (oi := r20o33) (v := ?_) rfl (by kernel_rfl) (by kernel_rfl) (by kernel_rfl) (fun _ _ _ h => h) (Or.inl ⟨by rfl, ?_⟩) hHeld ?_
            rotate_left
            focus (intro W hSw; obtain ⟨hq0, hq1⟩ := hSw; unfold r20o33; go_simp; try with_reducible rfl)
            simp only [Act.put, r20o33, List.setIfInBounds_toArray, List.set_cons_zero, List.set_cons_succ]
            refine wpAnyH_take (i := 34) (oi := r20o34) (v := ?_) rfl (by kernel_rfl) (by kernel_rfl) (by kernel_rfl) (fun _ _ _ h => h) (Or.inl ⟨by rfl, ?_⟩) hHeld ?_
            rotate_left
            focus (intro W hSw; obtain ⟨hq0, hq1⟩ := hSw; unfold r20o34; go_simp; try with_reducible rfl)
            simp only [Act.put, r20o34, List.setIfInBounds_toArray, List.set_cons_zero, List.set_cons_succ]
            refine wpAnyH_take (i := 35) (oi := r20o35) (v := ?_) rfl (by kernel_rfl) (by kernel_rfl) (by kernel_rfl) (fun _ _ _ h => h) (Or.inl ⟨by rfl, ?_⟩) hHeld ?_
            rotate_left
            focus (intro W hSw; obtain ⟨hq0, hq1⟩ := hSw; unfold r20o35; go_simp; try with_reducible rfl)
            simp only [Act.put, r20o35, List.setIfInBounds_toArray, List.set_cons_zero, List.set_cons_succ]
            refine wpAnyH_take (i := 36) (oi := r20o36) (v := ?_) rfl (by kernel_rfl) (by kernel_rfl) (by kernel_rfl) (fun _ _ _ h => h) (Or.inl ⟨by rfl, ?_⟩) hHeld ?_
            rotate_left
            focus (intro W hSw; obtain ⟨hq0, hq1⟩ := hSw; unfold r20o36; go_simp; try with_reducible rfl)
            simp only [Act.put, r20o36, List.setIfInBounds_toArray, List.set_cons_zero, List.set_cons_succ]
            refine wpAnyH_take (i := 37) (oi := r20o37) (v := ?_) rfl (by kernel_rfl) (by kernel_rfl) (by kernel_rfl) (fun _ _ _ h => h) (Or.inl ⟨by rfl, ?_⟩) hHeld ?_
            rotate_left
            focus (intro W hSw; obtain ⟨hq0, hq1⟩ := hSw; unfold r20o37; go_simp; try with_reducible rfl)
            simp only [Act.put, r20o37, List.setIfInBounds_toArray, List.set_cons_zero, List.set_cons_succ]
            refine wpAnyH_take (i := 38) (oi := r20o38) (v := ?_) rfl (by kernel_rfl) (by kernel_rfl) (by kernel_rfl) (fun _ _ _ h => h) (Or.inl ⟨by rfl, ?_⟩) hHeld ?_
            rotate_left
            focus (intro W hSw; obtain ⟨hq0, hq1⟩ := hSw; unfold r20o38; go_simp; try with_reducible rfl)
            simp only [Act.put, r20o38, List.setIfInBounds_toArray, List.set_cons_zero, List.set_cons_succ]
            refine wpAnyH_take (i := 39) (oi := r20o39) (v := ?_) rfl (by kernel_rfl) (by kernel_rfl) (by kernel_rfl) (fun _ _ _ h => h) (Or.inl ⟨by rfl, ?_⟩) hHeld ?_
            rotate_left
            focus (intro W hSw; obtain ⟨hq0, hq1⟩ := hSw; unfold r20o39; go_simp; try with_reducible rfl)
            simp only [Act.put, r20o39, List.setIfInBounds_toArray, List.set_cons_zero, List.set_cons_succ]
            refine wpAnyH_take (i := 40) (oi := r20o40) (v := ?_) rfl (by kernel_rfl) (by kernel_rfl) (by kernel_rfl) (fun _ _ _ h => h) (Or.inl ⟨by rfl, ?_⟩) hHeld ?_
            rotate_left
            focus (intro W hSw; obtain ⟨hq0, hq1⟩ := hSw; unfold r20o40; go_simp; try with_reducible rfl)
            simp only [Act.put, r20o40, List.setIfInBounds_toArray, List.set_cons_zero, List.set_cons_succ]
            refine wpAnyH_take (i := 41) (oi := r20o41) (v := ?_) rfl (by kernel_rfl) (by kernel_rfl) (by kernel_rfl) (fun _ _ _ h => h) (Or.inl ⟨by rfl, ?_⟩) hHeld ?_
            rotate_left
            focus (intro W hSw; obtain ⟨hq0, hq1⟩ := hSw; unfold r20o41; go_simp; try with_reducible rfl)
            simp only [Act.put, r20o41, List.setIfInBounds_toArray, List.set_cons_zero, List.set_cons_succ]
            refine wpAnyH_take (i := 43) (oi := r20o43) (v := ?_) rfl (by kernel_rfl) (by kernel_rfl) (by kernel_rfl) (fun _ _ _ h => h) (Or.inl ⟨by rfl, ?_⟩) hHeld ?_
            rotate_left
            focus (intro W hSw; obtain ⟨hq0, hq1⟩ := hSw; unfold r20o43; go_simp; try with_reducible rfl)
            simp only [Act.put, r20o43, List.setIfInBounds_toArray, List.set_cons_zero, List.set_cons_succ]
            refine wpAnyH_ready (rs := [42]) (by kernel_rfl) (by simp) ?_
            refine AllReadyH.cons (o := r20o42) rfl (fun K hK => ?_) AllReadyH.nil
            unfold r20o42
            go_simp
            refine (HA.out _ _ _ HC3.out.drew).mono ?_
            rintro r w4 ⟨rfl, hc4, hg4⟩
            have hca4 := hg4.cell (a := ⟨wr.heap.size, 0, none⟩) hca (by simp; omega)
            have hcb4 := hg4.cell (a := ⟨wr.heap.size, 1, none⟩) hcb (by simp; omega)
            have k4 := below_some (Below.drew HK3.out) hg4 s3 (by omega)
            have HC4 := Lib.hid hc4
            have HK4 := Lib.hid k4
            have HG4 := Lib.hid hg4
            have s4 := k4.size
            clear hc4 hg4 k4
            refine hK.out _ _ ⟨hca4, hcb4⟩ (fun hHeld => ?_)
            clear hK K
            refine wpAnyH_take (i := 44) (oi := r20o44) (v := ?_) rfl (by kernel_rfl) (by kernel_rfl) (by kernel_rfl) (fun _ _ _ h => h) (Or.inl ⟨by rfl, ?_⟩) hHeld ?_
            rotate_left
            focus (intro W hSw; obtain ⟨hq0, hq1⟩ := hSw; unfold r20o44; go_simp; try with_reducible rfl)
            simp only [Act.put, r20o44, List.setIfInBounds_toArray, List.set_cons_zero, List.set_cons_succ]
            refine wpAnyH_take (i := 45) (oi := r20o45) (v := ?_) rfl (by kernel_rfl) (by kernel_rfl) (by kernel_rfl) (fun _ _ _ h => h) (Or.inl ⟨by rfl, ?_⟩) hHeld ?_
            rotate_left
            focus (intro W hSw; obtain ⟨hq0, hq1⟩ := hSw; unfold r20o45; go_simp; try with_reducible rfl)
            simp only [Act.put, r20o45, List.setIfInBounds_toArray, List.set_cons_zero, List.set_cons_succ]
            refine wpAnyH_take (i := 46) (oi := r20o46) (v := ?_) rfl (by kernel_rfl) (by kernel_rfl) (by kernel_rfl) (fun _ _ _ h => h) (Or.inl ⟨by rfl, ?_⟩) hHeld ?_
            rotate_left
            focus (intro W hSw; obtain ⟨hq0, hq1⟩ := hSw; unfold r20o46; go_simp; try with_reducible rfl)
            simp only [Act.put, r20o46, List.setIfInBounds_toArray, List.set_cons_zero, List.set_cons_succ]
            refine wpAnyH_take (i := 47) (oi := r20o47) (v := ?_) rfl (by kernel_rfl) (by kernel_rfl) (by kernel_rfl) (fun _ _ _ h => h) (Or.inl ⟨by rfl, ?_⟩) hHeld ?_
            rotate_left
            focus (intro W hSw; obtain ⟨hq0, hq1⟩ := hSw; unfold r20o47; go_simp; try with_reducible rfl)
            simp only [Act.put, r20o47, List.setIfInBounds_toArray, List.set_cons_zero, List.set_cons_succ]
            refine wpAnyH_take (i := 48) (oi := r20o48) (v := ?_) rfl (by kernel_rfl) (by kernel_rfl) (by kernel_rfl) (fun _ _ _ h => h) (Or.inl ⟨by rfl, ?_⟩) hHeld ?_
            rotate_left
            focus (intro W hSw; obtain ⟨hq0, hq1⟩ := hSw; unfold r20o48; go_simp; try with_reducible rfl)
            simp only [Act.put, r20o48, List.setIfInBounds_toArray, List.set_cons_zero, List.set_cons_succ]
            refine wpAnyH_take (i := 49) (oi := r20o49) (v := ?_) rfl (by kernel_rfl) (by kernel_rfl) (by kernel_rfl) (fun _ _ _ h => h) (Or.inl ⟨by rfl, ?_⟩) hHeld ?_
            rotate_left
            focus (intro W hSw; obtain ⟨hq0, hq1⟩ := hSw; unfold r20o49; go_simp; try with_reducible rfl)
            simp only [Act.put, r20o49, List.setIfInBounds_toArray, List.set_cons_zero, List.set_cons_succ]
            refine wpAnyH_take (i := 50) (oi := r20o50) (v := ?_) rfl (by kernel_rfl) (by kernel_rfl) (by kernel_rfl) (fun _ _ _ h => h) (Or.inl ⟨by rfl, ?_⟩) hHeld ?_
            rotate_left
            focus (intro W hSw; obtain ⟨hq0, hq1⟩ := hSw; unfold r20o50; go_simp; try with_reducible rfl)
            simp only [Act.put, r20o50, List.setIfInBounds_toArray, List.set_cons_zero, List.set_cons_succ]
            refine wpAnyH_take (i := 51) (oi := r20o51) (v := ?_) rfl (by kernel_rfl) (by kernel_rfl) (by kernel_rfl) (fun _ _ _ h => h) (Or.inl ⟨by rfl, ?_⟩) hHeld ?_
            rotate_left
            focus (intro W hSw; obtain ⟨hq0, hq1⟩ := hSw; unfold r20o51; go_simp; try with_reducible rfl)
            simp only [Act.put, r20o51, List.setIfInBounds_toArray, List.set_cons_zero, List.set_cons_succ]
            refine wpAnyH_take (i := 52) (oi := r20o52) (v := undef) rfl (by kernel_rfl) (by kernel_rfl) (by kernel_rfl) (fun _ _ _ h => h) (Or.inr ⟨by rfl, rfl⟩) hHeld ?_
            simp only [Act.put, r20o52, List.setIfInBounds_toArray, List.set_cons_zero, List.set_cons_succ]
            refine wpAnyH_take (i := 53) (oi := r20o53) (v := undef) rfl (by kernel_rfl) (by kernel_rfl) (by kernel_rfl) (fun _ _ _ h => h) (Or.inr ⟨by rfl, rfl⟩) hHeld ?_
            simp only [Act.put, r20o53, List.setIfInBounds_toArray, List.set_cons_zero, List.set_cons_succ]
            refine wpAnyH_take (i := 54) (oi := r20o54) (v := undef) rfl (by kernel_rfl) (by kernel_rfl) (by kernel_rfl) (fun _ _ _ h => h) (Or.inr ⟨by rfl, rfl⟩) hHeld ?_
            simp only [Act.put, r20o54, List.setIfInBounds_toArray, List.set_cons_zero, List.set_cons_succ]
            refine wpAnyH_take (i := 55) (oi := r20o55) (v := undef) rfl (by kernel_rfl) (by kernel_rfl) (by kernel_rfl) (fun _ _ _ h => h) (Or.inr ⟨by rfl, rfl⟩) hHeld ?_
            simp only [Act.put, r20o55, List.setIfInBounds_toArray, List.set_cons_zero, List.set_cons_succ]
            refine wpAnyH_take (i := 56) (oi := r20o56) (v := undef) rfl (by kernel_rfl) (by kernel_rfl) (by kernel_rfl) (fun _ _ _ h => h) (Or.inr ⟨by rfl, rfl⟩) hHeld ?_
            simp only [Act.put, r20o56, List.setIfInBounds_toArray, List.set_cons_zero, List.set_cons_succ]
            refine wpAnyH_take (i := 57) (oi := r20o57) (v := ?_) rfl (by kernel_rfl) (by kernel_rfl) (by kernel_rfl) (fun _ _ _ h => h) (Or.inl ⟨by rfl, ?_⟩) hHeld ?_
            rotate_left
            focus (intro W hSw; obtain ⟨hq0, hq1⟩ := hSw; unfold r20o57; go_simp; try with_reducible rfl)
            simp only [Act.put, r20o57, List.setIfInBounds_toArray, List.set_cons_zero, List.set_cons_succ]
            refine wpAnyH_take (i := 58) (oi := r20o58) (v := ?_) rfl (by kernel_rfl) (by kernel_rfl) (by kernel_rfl) (fun _ _ _ h => h) (Or.inl ⟨by rfl, ?_⟩) hHeld ?_
            rotate_left
            focus (intro W hSw; obtain ⟨hq0, hq1⟩ := hSw; unfold r20o58; go_simp; try with_reducible rfl)
            simp only [Act.put, r20o58, List.setIfInBounds_toArray, List.set_cons_zero, List.set_cons_succ]
            refine wpAnyH_done (by kernel_rfl) ?_ _
            all_goals go_wp2_with (first | (go_at_call 21; refine (left_any HC4.out).mono ?_; rintro r w6 ⟨rfl, mm, rfl⟩) | (go_at_call 22; refine (good_any (HC4.out.drewN _)).mono ?_; rintro r w7 ⟨rfl, rfl⟩))
            all_goals go_roundw
            all_goals first | (case rel => exact ⟨k + 1, p + size, f, by omega, by go_num, by go_num, rfl, HC4.out.drewN _, below_drewN' HK4.out _⟩) | (case measure => simp [intOf]; omega)
        · as_aux_lemma =>
            have HB := Lib.hid ((mostBad mk her : Act2 bs mk p er 0 0 er))
            have e1 : (er == 0) = false := by simpa using her
            have e2 : (er != 0) = true := by simpa using her
            have HER := Lib.hid her
            clear her HA HS
            go_wp2_with fail
            refine wp_region_held_drew (S := fun W => W.cell? ⟨wr.heap.size, 0, none⟩ = some (.int .i64 3) ∧ W.cell? ⟨wr.heap.size, 1, none⟩ = some (.int .i64 mk)) (by kernel_rfl) ⟨hca, hcb⟩ (fun hHeld => ?_)
            refine wpAnyH_take (i := 0) (oi := r20o0) (v := ?_) rfl (by kernel_rfl) (by kernel_rfl) (by kernel_rfl) (fun _ _ _ h => h) (Or.inl ⟨by rfl, ?_⟩) hHeld ?_
            rotate_left
            focus (intro W hSw; obtain ⟨hq0, hq1⟩ := hSw; unfold r20o0; go_simp; try with_reducible rfl)
            simp only [Act.put, r20o0, List.setIfInBounds_toArray, List.set_cons_zero, List.set_cons_succ]
            refine wpAnyH_take (i := 1) (oi := r20o1) (v := ?_) rfl (by kernel_rfl) (by kernel_rfl) (by kernel_rfl) (fun _ _ _ h => h) (Or.inl ⟨by rfl, ?_⟩) hHeld ?_
            rotate_left
            focus (intro W hSw; obtain ⟨hq0, hq1⟩ := hSw; unfold r20o1; go_simp; try with_reducible rfl)
            simp only [Act.put, r20o1, List.setIfInBounds_toArray, List.set_cons_zero, List.set_cons_succ]
            refine wpAnyH_take (i := 2) (oi := r20o2) (v := ?_) rfl (by kernel_rfl) (by kernel_rfl) (by kernel_rfl) (fun _ _ _ h => h) (Or.inl ⟨by rfl, ?_⟩) hHeld ?_
            rotate_left
            focus (intro W hSw; obtain ⟨hq0, hq1⟩ := hSw; unfold r20o2; go_simp; try with_reducible rfl)
            simp only [Act.put, r20o2, List.setIfInBounds_toArray, List.set_cons_zero, List.set_cons_succ]
            refine wpAnyH_take (i := 3) (oi := r20o3) (v := ?_) rfl (by kernel_rfl) (by kernel_rfl) (by kernel_rfl) (fun _ _ _ h => h) (Or.inl ⟨by rfl, ?_⟩) hHeld ?_
            rotate_left
            focus (intro W hSw; obtain ⟨hq0, hq1⟩ := hSw; unfold r20o3; go_simp; try with_reducible rfl)
            simp only [Act.put, r20o3, List.setIfInBounds_toArray, List.set_cons_zero, List.set_cons_succ]
            refine wpAnyH_take (i := 4) (oi := r20o4) (v := undef) rfl (by kernel_rfl) (by kernel_rfl) (by kernel_rfl) (fun _ _ _ h => h) (Or.inr ⟨by rfl, rfl⟩) hHeld ?_
            simp only [Act.put, r20o4, List.setIfInBounds_toArray, List.set_cons_zero, List.set_cons_succ]
            refine wpAnyH_take (i := 5) (oi := r20o5) (v := undef) rfl (by kernel_rfl) (by kernel_rfl) (by kernel_rfl) (fun _ _ _ h => h) (Or.inr ⟨by rfl, rfl⟩) hHeld ?_
            simp only [Act.put, r20o5, List.setIfInBounds_toArray, List.set_cons_zero, List.set_cons_succ]
            refine wpAnyH_take (i := 6) (oi := r20o6) (v := undef) rfl (by kernel_rfl) (by kernel_rfl) (by kernel_rfl) (fun _ _ _ h => h) (Or.inr ⟨by rfl, rfl⟩) hHeld ?_
            simp only [Act.put, r20o6, List.setIfInBounds_toArray, List.set_cons_zero, List.set_cons_succ]
            refine wpAnyH_take (i := 7) (oi := r20o7) (v := undef) rfl (by kernel_rfl) (by kernel_rfl) (by kernel_rfl) (fun _ _ _ h => h) (Or.inr ⟨by rfl, rfl⟩) hHeld ?_
            simp only [Act.put, r20o7, List.setIfInBounds_toArray, List.set_cons_zero, List.set_cons_succ]
            refine wpAnyH_take (i := 8) (oi := r20o8) (v := ?_) rfl (by kernel_rfl) (by kernel_rfl) (by kernel_rfl) (fun _ _ _ h => h) (Or.inl ⟨by rfl, ?_⟩) hHeld ?_
            rotate_left
            focus (intro W hSw; obtain ⟨hq0, hq1⟩ := hSw; unfold r20o8; go_simp; try with_reducible rfl)
            simp only [Act.put, r20o8, List.setIfInBounds_toArray, List.set_cons_zero, List.set_cons_succ]
            refine wpAnyH_take (i := 9) (oi := r20o9) (v := ?_) rfl (by kernel_rfl) (by kernel_rfl) (by kernel_rfl) (fun _ _ _ h => h) (Or.inl ⟨by rfl, ?_⟩) hHeld ?_
            rotate_left
            focus (intro W hSw; obtain ⟨hq0, hq1⟩ := hSw; unfold r20o9; go_simp; try with_reducible rfl)
            simp only [Act.put, r20o9, List.setIfInBounds_toArray, List.set_cons_zero, List.set_cons_succ]
            refine wpAnyH_take (i := 10) (oi := r20o10) (v := ?_) rfl (by kernel_rfl) (by kernel_rfl) (by kernel_rfl) (fun _ _ _ h => h) (Or.inl ⟨by rfl, ?_⟩) hHeld ?_
            rotate_left
            focus (intro W hSw; obtain ⟨hq0, hq1⟩ := hSw; unfold r20o10; go_simp; try with_reducible rfl)
            simp only [Act.put, r20o10, List.setIfInBounds_toArray, List.set_cons_zero, List.set_cons_succ]
            refine wpAnyH_take (i := 11) (oi := r20o11) (v := ?_) rfl (by kernel_rfl) (by kernel_rfl) (by kernel_rfl) (fun _ _ _ h => h) (Or.inl ⟨by rfl, ?_⟩) hHeld ?_
            rotate_left
            focus (intro W hSw; obtain ⟨hq0, hq1⟩ := hSw; unfold r20o11; go_simp; try with_reducible rfl)
            simp only [Act.put, r20o11, List.setIfInBounds_toArray, List.set_cons_zero, List.set_cons_succ]
            refine wpAnyH_take (i := 12) (oi := r20o12) (v := ?_) rfl (by kernel_rfl) (by kernel_rfl) (by kernel_rfl) (fun _ _ _ h => h) (Or.inl ⟨by rfl, ?_⟩) hHeld ?_
            rotate_left
            focus (intro W hSw; obtain ⟨hq0, hq1⟩ := hSw; unfold r20o12; go_simp; try with_reducible rfl)
            simp only [Act.put, r20o12, List.setIfInBounds_toArray, List.set_cons_zero, List.set_cons_succ]
            refine wpAnyH_take (i := 13) (oi := r20o13) (v := ?_) rfl (by kernel_rfl) (by kernel_rfl) (by kernel_rfl) (fun _ _ _ h => h) (Or.inl ⟨by rfl, ?_⟩) hHeld ?_
            rotate_left
            focus (intro W hSw; obtain ⟨hq0, hq1⟩ := hSw; unfold r20o13; go_simp; try with_reducible rfl)
            simp only [Act.put, r20o13, List.setIfInBounds_toArray, List.set_cons_zero, List.set_cons_succ]
            refine wpAnyH_take (i := 14) (oi := r20o14) (v := undef) rfl (by kernel_rfl) (by kernel_rfl) (by kernel_rfl) (fun _ _ _ h => h) (Or.inr ⟨by rfl, rfl⟩) hHeld ?_
            simp only [Act.put, r20o14, List.setIfInBounds_toArray, List.set_cons_zero, List.set_cons_succ]
            refine wpAnyH_take (i := 15) (oi := r20o15) (v := undef) rfl (by kernel_rfl) (by kernel_rfl) (by kernel_rfl) (fun _ _ _ h => h) (Or.inr ⟨by rfl, rfl⟩) hHeld ?_
            simp only [Act.put, r20o15, List.setIfInBounds_toArray, List.set_cons_zero, List.set_cons_succ]
            refine wpAnyH_take (i := 16) (oi := r20o16) (v := undef) rfl (by kernel_rfl) (by kernel_rfl) (by kernel_rfl) (fun _ _ _ h => h) (Or.inr ⟨by rfl, rfl⟩) hHeld ?_
            simp only [Act.put, r20o16, List.setIfInBounds_toArray, List.set_cons_zero, List.set_cons_succ]
            refine wpAnyH_take (i := 17) (oi := r20o17) (v := undef) rfl (by kernel_rfl) (by kernel_rfl) (by kernel_rfl) (fun _ _ _ h => h) (Or.inr ⟨by rfl, rfl⟩) hHeld ?_
            simp only [Act.put, r20o17, List.setIfInBounds_toArray, List.set_cons_zero, List.set_cons_succ]
            refine wpAnyH_take (i := 18) (oi := r20o18) (v := undef) rfl (by kernel_rfl) (by kernel_rfl) (by kernel_rfl) (fun _ _ _ h => h) (Or.inr ⟨by rfl, rfl⟩) hHeld ?_
            simp only [Act.put, r20o18, List.setIfInBounds_toArray, List.set_cons_zero, List.set_cons_succ]
            refine wpAnyH_take (i := 19) (oi := r20o19) (v := undef) rfl (by kernel_rfl) (by kernel_rfl) (by kernel_rfl) (fun _ _ _ h => h) (Or.inr ⟨by rfl, rfl⟩) hHeld ?_
            simp only [Act.put, r20o19, List.setIfInBounds_toArray, List.set_cons_zero, List.set_cons_succ]
            refine wpAnyH_take (i := 20) (oi := r20o20) (v := undef) rfl (by kernel_rfl) (by kernel_rfl) (by kernel_rfl) (fun _ _ _ h => h) (Or.inr ⟨by rfl, rfl⟩) hHeld ?_
            simp only [Act.put, r20o20, List.setIfInBounds_toArray, List.set_cons_zero, List.set_cons_succ]
            refine wpAnyH_take (i := 21) (oi := r20o21) (v := ?_) rfl (by kernel_rfl) (by kernel_rfl) (by kernel_rfl) (fun _ _ _ h => h) (Or.inl ⟨by rfl, ?_⟩) hHeld ?_
            rotate_left
            focus (intro W hSw; obtain ⟨hq0, hq1⟩ := hSw; unfold r20o21; go_simp; try with_reducible rfl)
            simp only [Act.put, r20o21, List.setIfInBounds_toArray, List.set_cons_zero, List.set_cons_succ]
            refine wpAnyH_take (i := 22) (oi := r20o22) (v := ?_) rfl (by kernel_rfl) (by kernel_rfl) (by kernel_rfl) (fun _ _ _ h => h) (Or.inl ⟨by rfl, ?_⟩) hHeld ?_
            rotate_left
            focus (intro W hSw; obtain ⟨hq0, hq1⟩ := hSw; unfold r20o22; go_simp; try with_reducible rfl)
            simp only [Act.put, r20o22, List.setIfInBounds_toArray, List.set_cons_zero, List.set_cons_succ]
            refine wpAnyH_take (i := 23) (oi := r20o23) (v := ?_) rfl (by kernel_rfl) (by kernel_rfl) (by kernel_rfl) (fun _ _ _ h => h) (Or.inl ⟨by rfl, ?_⟩) hHeld ?_
            rotate_left
            focus (intro W hSw; obtain ⟨hq0, hq1⟩ := hSw; unfold r20o23; go_simp; try with_reducible rfl)
            simp only [Act.put, r20o23, List.setIfInBounds_toArray, List.set_cons_zero, List.set_cons_succ]
            refine wpAnyH_take (i := 24) (oi := r20o24) (v := ?_) rfl (by kernel_rfl) (by kernel_rfl) (by kernel_rfl) (fun _ _ _ h => h) (Or.inl ⟨by rfl, ?_⟩) hHeld ?_
            rotate_left
            focus (intro W hSw; obtain ⟨hq0, hq1⟩ := hSw; unfold r20o24; go_simp; try with_reducible rfl)
            simp only [Act.put, r20o24, List.setIfInBounds_toArray, List.set_cons_zero, List.set_cons_succ]
            refine wpAnyH_take (i := 25) (oi := r20o25) (v := ?_) rfl (by kernel_rfl) (by kernel_rfl) (by kernel_rfl) (fun _ _ _ h => h) (Or.inl ⟨by rfl, ?_⟩) hHeld ?_
            rotate_left
            focus (intro W hSw; obtain ⟨hq0, hq1⟩ := hSw; unfold r20o25; go_simp; try with_reducible rfl)
            simp only [Act.put, r20o25, List.setIfInBounds_toArray, List.set_cons_zero, List.set_cons_succ]
            refine wpAnyH_take (i := 26) (oi := r20o26) (v := ?_) rfl (by kernel_rfl) (by kernel_rfl) (by kernel_rfl) (fun _ _ _ h => h) (Or.inl ⟨by rfl, ?_⟩) hHeld ?_
            rotate_left
            focus (intro W hSw; obtain ⟨hq0, hq1⟩ := hSw; unfold r20o26; go_simp; try with_reducible rfl)
            simp only [Act.put, r20o26, List.setIfInBounds_toArray, List.set_cons_zero, List.set_cons_succ]
            refine wpAnyH_take (i := 27) (oi := r20o27) (v := ?_) rfl (by kernel_rfl) (by kernel_rfl) (by kernel_rfl) (fun _ _ _ h => h) (Or.inl ⟨by rfl, ?_⟩) hHeld ?_
            rotate_left
            focus (intro W hSw; obtain ⟨hq0, hq1⟩ := hSw; unfold r20o27; go_simp; try with_reducible rfl)
            simp only [Act.put, r20o27, List.setIfInBounds_toArray, List.set_cons_zero, List.set_cons_succ]
            refine wpAnyH_take (i := 28) (oi := r20o28) (v := undef) rfl (by kernel_rfl) (by kernel_rfl) (by kernel_rfl) (fun _ _ _ h => h) (Or.inr ⟨by rfl, rfl⟩) hHeld ?_
            simp only [Act.put, r20o28, List.setIfInBounds_toArray, List.set_cons_zero, List.set_cons_succ]
            refine wpAnyH_take (i := 29) (oi := r20o29) (v := undef) rfl (by kernel_rfl) (by kernel_rfl) (by kernel_rfl) (fun _ _ _ h => h) (Or.inr ⟨by rfl, rfl⟩) hHeld ?_
            simp only [Act.put, r20o29, List.setIfInBounds_toArray, List.set_cons_zero, List.set_cons_succ]
            refine wpAnyH_take (i := 30) (oi := r20o30) (v := undef) rfl (by kernel_rfl) (by kernel_rfl) (by kernel_rfl) (fun _ _ _ h => h) (Or.inr ⟨by rfl, rfl⟩) hHeld ?_
            simp only [Act.put, r20o30, List.setIfInBounds_toArray, List.set_cons_zero, List.set_cons_succ]
            refine wpAnyH_take (i := 31) (oi := r20o31) (v := undef) rfl (by kernel_rfl) (by kernel_rfl) (by kernel_rfl) (fun _ _ _ h => h) (Or.inr ⟨by rfl, rfl⟩) hHeld ?_
            simp only [Act.put, r20o31, List.setIfInBounds_toArray, List.set_cons_zero, List.set_cons_succ]
            refine wpAnyH_take (i := 32) (oi := r20o32) (v := ?_) rfl (by kernel_rfl) (by kernel_rfl) (by kernel_rfl) (fun _ _ _ h => h) (Or.inl ⟨by rfl, ?_⟩) hHeld ?_
            rotate_left
            focus (intro W hSw; obtain ⟨hq0, hq1⟩ := hSw; unfold r20o32; go_simp; try with_reducible rfl)
            simp only [Act.put, r20o32, List.setIfInBounds_toArray, List.set_cons_zero, List.set_cons_succ]
            refine wpAnyH_take (i := 33) (oi := r20o33) (v := ?_) rfl (by kernel_rfl) (by kernel_rfl) (by kernel_rfl) (fun _ _ _ h => h) (Or.inl ⟨by rfl, ?_⟩) hHeld ?_
            rotate_left
            focus (intro W hSw; obtain ⟨hq0, hq1⟩ := hSw; unfold r20o33; go_simp; try with_reducible rfl)
            simp only [Act.put, r20o33, List.setIfInBounds_toArray, List.set_cons_zero, List.set_cons_succ]
            refine wpAnyH_take (i := 34) (oi := r20o34) (v := ?_) rfl (by kernel_rfl) (by kernel_rfl) (by kernel_rfl) (fun _ _ _ h => h) (Or.inl ⟨by rfl, ?_⟩) hHeld ?_
            rotate_left
            focus (intro W hSw; obtain ⟨hq0, hq1⟩ := hSw; unfold r20o34; go_simp; try with_reducible rfl)
            simp only [Act.put, r20o34, List.setIfInBounds_toArray, List.set_cons_zero, List.set_cons_succ]
            refine wpAnyH_take (i := 35) (oi := r20o35) (v := ?_) rfl (by kernel_rfl) (by kernel_rfl) (by kernel_rfl) (fun _ _ _ h => h) (Or.inl ⟨by rfl, ?_⟩) hHeld ?_
            rotate_left
            focus (intro W hSw; obtain ⟨hq0, hq1⟩ := hSw; unfold r20o35; go_simp; try with_reducible rfl)
            simp only [Act.put, r20o35, List.setIfInBounds_toArray, List.set_cons_zero, List.set_cons_succ]
            refine wpAnyH_take (i := 36) (oi := r20o36) (v := ?_) rfl (by kernel_rfl) (by kernel_rfl) (by kernel_rfl) (fun _ _ _ h => h) (Or.inl ⟨by rfl, ?_⟩) hHeld ?_
            rotate_left
            focus (intro W hSw; obtain ⟨hq0, hq1⟩ := hSw; unfold r20o36; go_simp; try with_reducible rfl)
            simp only [Act.put, r20o36, List.setIfInBounds_toArray, List.set_cons_zero, List.set_cons_succ]
            refine wpAnyH_take (i := 37) (oi := r20o37) (v := ?_) rfl (by kernel_rfl) (by kernel_rfl) (by kernel_rfl) (fun _ _ _ h => h) (Or.inl ⟨by rfl, ?_⟩) hHeld ?_
            rotate_left
            focus (intro W hSw; obtain ⟨hq0, hq1⟩ := hSw; unfold r20o37; go_simp; try with_reducible rfl)
            simp only [Act.put, r20o37, List.setIfInBounds_toArray, List.set_cons_zero, List.set_cons_succ]
            refine wpAnyH_take (i := 38) (oi := r20o38) (v := ?_) rfl (by kernel_rfl) (by kernel_rfl) (by kernel_rfl) (fun _ _ _ h => h) (Or.inl ⟨by rfl, ?_⟩) hHeld ?_
            rotate_left
            focus (intro W hSw; obtain ⟨hq0, hq1⟩ := hSw; unfold r20o38; go_simp; try with_reducible rfl)
            simp only [Act.put, r20o38, List.setIfInBounds_toArray, List.set_cons_zero, List.set_cons_succ]
            refine wpAnyH_take (i := 39) (oi := r20o39) (v := ?_) rfl (by kernel_rfl) (by kernel_rfl) (by kernel_rfl) (fun _ _ _ h => h) (Or.inl ⟨by rfl, ?_⟩) hHeld ?_
            rotate_left
            focus (intro W hSw; obtain ⟨hq0, hq1⟩ := hSw; unfold r20o39; go_simp; try with_reducible rfl)
            simp only [Act.put, r20o39, List.setIfInBounds_toArray, List.set_cons_zero, List.set_cons_succ]
            refine wpAnyH_take (i := 40) (oi := r20o40) (v := ?_) rfl (by kernel_rfl) (by kernel_rfl) (by kernel_rfl) (fun _ _ _ h => h) (Or.inl ⟨by rfl, ?_⟩) hHeld ?_
            rotate_left
            focus (intro W hSw; obtain ⟨hq0, hq1⟩ := hSw; unfold r20o40; go_simp; try with_reducible rfl)
            simp only [Act.put, r20o40, List.setIfInBounds_toArray, List.set_cons_zero, List.set_cons_succ]
            refine wpAnyH_take (i := 41) (oi := r20o41) (v := ?_) rfl (by kernel_rfl) (by kernel_rfl) (by kernel_rfl) (fun _ _ _ h => h) (Or.inl ⟨by rfl, ?_⟩) hHeld ?_
            rotate_left
            focus (intro W hSw; obtain ⟨hq0, hq1⟩ := hSw; unfold r20o41; go_simp; try with_reducible rfl)
            simp only [Act.put, r20o41, List.setIfInBounds_toArray, List.set_cons_zero, List.set_cons_succ]
            refine wpAnyH_take (i := 43) (oi := r20o43) (v := ?_) rfl (by kernel_rfl) (by kernel_rfl) (by kernel_rfl) (fun _ _ _ h => h) (Or.inl ⟨by rfl, ?_⟩) hHeld ?_
            rotate_left
            focus (intro W hSw; obtain ⟨hq0, hq1⟩ := hSw; unfold r20o43; go_simp; try with_reducible rfl)
            simp only [Act.put, r20o43, List.setIfInBounds_toArray, List.set_cons_zero, List.set_cons_succ]
            refine wpAnyH_ready (rs := [42]) (by kernel_rfl) (by simp) ?_
            refine AllReadyH.cons (o := r20o42) rfl (fun K hK => ?_) AllReadyH.nil
            unfold r20o42
            go_simp
            refine (HB.out _ _ _ HC3.out.drew).mono ?_
            rintro r w4 ⟨rfl, hc4, hg4⟩
            have hca4 := hg4.cell (a := ⟨wr.heap.size, 0, none⟩) hca (by simp; omega)
            have hcb4 := hg4.cell (a := ⟨wr.heap.size, 1, none⟩) hcb (by simp; omega)
            have k4 := below_some (Below.drew HK3.out) hg4 s3 (by omega)
            have HC4 := Lib.hid hc4
            have HK4 := Lib.hid k4
            have HG4 := Lib.hid hg4
            have s4 := k4.size
            clear hc4 hg4 k4
            refine hK.out _ _ ⟨hca4, hcb4⟩ (fun hHeld => ?_)
            clear hK K
            refine wpAnyH_take (i := 44) (oi := r20o44) (v := ?_) rfl (by kernel_rfl) (by kernel_rfl) (by kernel_rfl) (fun _ _ _ h => h) (Or.inl ⟨by rfl, ?_⟩) hHeld ?_
            rotate_left
            focus (intro W hSw; obtain ⟨hq0, hq1⟩ := hSw; unfold r20o44; go_simp; try with_reducible rfl)
            simp only [Act.put, r20o44, List.setIfInBounds_toArray, List.set_cons_zero, List.set_cons_succ]
            refine wpAnyH_take (i := 45) (oi := r20o45) (v := ?_) rfl (by kernel_rfl) (by kernel_rfl) (by kernel_rfl) (fun _ _ _ h => h) (Or.inl ⟨by rfl, ?_⟩) hHeld ?_
            rotate_left
            focus (intro W hSw; obtain ⟨hq0, hq1⟩ := hSw; unfold r20o45; go_simp; try with_reducible rfl)
            simp only [Act.put, r20o45, List.setIfInBounds_toArray, List.set_cons_zero, List.set_cons_succ]
            refine wpAnyH_take (i := 46) (oi := r20o46) (v := ?_) rfl (by kernel_rfl) (by kernel_rfl) (by kernel_rfl) (fun _ _ _ h => h) (Or.inl ⟨by rfl, ?_⟩) hHeld ?_
            rotate_left
            focus (intro W hSw; obtain ⟨hq0, hq1⟩ := hSw; unfold r20o46; go_simp; try with_reducible rfl)
            simp only [Act.put, r20o46, List.setIfInBounds_toArray, List.set_cons_zero, List.set_cons_succ]
            refine wpAnyH_take (i := 47) (oi := r20o47) (v := ?_) rfl (by kernel_rfl) (by kernel_rfl) (by kernel_rfl) (fun _ _ _ h => h) (Or.inl ⟨by rfl, ?_⟩) hHeld ?_
            rotate_left
            focus (intro W hSw; obtain ⟨hq0, hq1⟩ := hSw; unfold r20o47; go_simp; try with_reducible rfl)
            simp only [Act.put, r20o47, List.setIfInBounds_toArray, List.set_cons_zero, List.set_cons_succ]
            refine wpAnyH_take (i := 48) (oi := r20o48) (v := ?_) rfl (by kernel_rfl) (by kernel_rfl) (by kernel_rfl) (fun _ _ _ h => h) (Or.inl ⟨by rfl, ?_⟩) hHeld ?_
            rotate_left
            focus (intro W hSw; obtain ⟨hq0, hq1⟩ := hSw; unfold r20o48; go_simp; try with_reducible rfl)
            simp only [Act.put, r20o48, List.setIfInBounds_toArray, List.set_cons_zero, List.set_cons_succ]
            refine wpAnyH_take (i := 49) (oi := r20o49) (v := ?_) rfl (by kernel_rfl) (by kernel_rfl) (by kernel_rfl) (fun _ _ _ h => h) (Or.inl ⟨by rfl, ?_⟩) hHeld ?_
            rotate_left
            focus (intro W hSw; obtain ⟨hq0, hq1⟩ := hSw; unfold r20o49; go_simp; try with_reducible rfl)
            simp only [Act.put, r20o49, List.setIfInBounds_toArray, List.set_cons_zero, List.set_cons_succ]
            refine wpAnyH_take (i := 50) (oi := r20o50) (v := ?_) rfl (by kernel_rfl) (by kernel_rfl) (by kernel_rfl) (fun _ _ _ h => h) (Or.inl ⟨by rfl, ?_⟩) hHeld ?_
            rotate_left
            focus (intro W hSw; obtain ⟨hq0, hq1⟩ := hSw; unfold r20o50; go_simp; try with_reducible rfl)
            simp only [Act.put, r20o50, List.setIfInBounds_toArray, List.set_cons_zero, List.set_cons_succ]
            refine wpAnyH_take (i := 51) (oi := r20o51) (v := ?_) rfl (by kernel_rfl) (by kernel_rfl) (by kernel_rfl) (fun _ _ _ h => h) (Or.inl ⟨by rfl, ?_⟩) hHeld ?_
            rotate_left
            focus (intro W hSw; obtain ⟨hq0, hq1⟩ := hSw; unfold r20o51; go_simp; try with_reducible rfl)
            simp only [Act.put, r20o51, List.setIfInBounds_toArray, List.set_cons_zero, List.set_cons_succ]
            refine wpAnyH_take (i := 52) (oi := r20o52) (v := undef) rfl (by kernel_rfl) (by kernel_rfl) (by kernel_rfl) (fun _ _ _ h => h) (Or.inr ⟨by rfl, rfl⟩) hHeld ?_
            simp only [Act.put, r20o52, List.setIfInBounds_toArray, List.set_cons_zero, List.set_cons_succ]
            refine wpAnyH_take (i := 53) (oi := r20o53) (v := undef) rfl (by kernel_rfl) (by kernel_rfl) (by kernel_rfl) (fun _ _ _ h => h) (Or.inr ⟨by rfl, rfl⟩) hHeld ?_
            simp only [Act.put, r20o53, List.setIfInBounds_toArray, List.set_cons_zero, List.set_cons_succ]
            refine wpAnyH_take (i := 54) (oi := r20o54) (v := undef) rfl (by kernel_rfl) (by kernel_rfl) (by kernel_rfl) (fun _ _ _ h => h) (Or.inr ⟨by rfl, rfl⟩) hHeld ?_
            simp only [Act.put, r20o54, List.setIfInBounds_toArray, List.set_cons_zero, List.set_cons_succ]
            refine wpAnyH_take (i := 55) (oi := r20o55) (v := undef) rfl (by kernel_rfl) (by kernel_rfl) (by kernel_rfl) (fun _ _ _ h => h) (Or.inr ⟨by rfl, rfl⟩) hHeld ?_
            simp only [Act.put, r20o55, List.setIfInBounds_toArray, List.set_cons_zero, List.set_cons_succ]
            refine wpAnyH_take (i := 56) (oi := r20o56) (v := undef) rfl (by kernel_rfl) (by kernel_rfl) (by kernel_rfl) (fun _ _ _ h => h) (Or.inr ⟨by rfl, rfl⟩) hHeld ?_
            simp only [Act.put, r20o56, List.setIfInBounds_toArray, List.set_cons_zero, List.set_cons_succ]
            refine wpAnyH_take (i := 57) (oi := r20o57) (v := ?_) rfl (by kernel_rfl) (by kernel_rfl) (by kernel_rfl) (fun _ _ _ h => h) (Or.inl ⟨by rfl, ?_⟩) hHeld ?_
            rotate_left
            focus (intro W hSw; obtain ⟨hq0, hq1⟩ := hSw; unfold r20o57; go_simp; try with_reducible rfl)
            simp only [Act.put, r20o57, List.setIfInBounds_toArray, List.set_cons_zero, List.set_cons_succ]
            refine wpAnyH_take (i := 58) (oi := r20o58) (v := ?_) rfl (by kernel_rfl) (by kernel_rfl) (by kernel_rfl) (fun _ _ _ h => h) (Or.inl ⟨by rfl, ?_⟩) hHeld ?_
            rotate_left
            focus (intro W hSw; obtain ⟨hq0, hq1⟩ := hSw; unfold r20o58; go_simp; try with_reducible rfl)
            simp only [Act.put, r20o58, List.setIfInBounds_toArray, List.set_cons_zero, List.set_cons_succ]
            refine wpAnyH_done (by kernel_rfl) ?_ _
            all_goals go_wp2_with (first | (go_at_call 21; refine (left_any HC4.out).mono ?_; rintro r w6 ⟨rfl, mm, rfl⟩) | (go_at_call 22; refine (good_any (HC4.out.drewN _)).mono ?_; rintro r w7 ⟨rfl, rfl⟩))
            all_goals go_roundw
            all_goals first | (case rel => exact ⟨k + 1, p, er, by omega, by go_num, by go_num, rfl, HC4.out.drewN _, below_drewN' HK4.out _⟩) | (case measure => simp [intOf]; omega)
      by_cases hd4 : dk = 4
      · subst hd4
        obtain ⟨by_, size, f, hps, hstep, hact⟩ := textAct mk hp
        have HS := Lib.hid hstep
        have HA := Lib.hid hact
        clear hstep hact
        go_wp2_with fail
        refine (HS.out _ 0 w.heap.size A c ((H.out.below HK.out (Nat.le_refl _)).alloc sr _) (by simp; omega)).mono ?_
        rintro r w3 ⟨A', c', rfl, hrd, hb3⟩
        have hca : w3.cell? ⟨wr.heap.size, 0, none⟩ = some (.int .i64 4) := (hb3.cell (p := ⟨wr.heap.size, 0, none⟩) (by simp)).trans (World.cell?_alloc_at _ _ _ _ rfl)
        have hcb : w3.cell? ⟨wr.heap.size, 1, none⟩ = some (.int .i64 mk) := (hb3.cell (p := ⟨wr.heap.size, 1, none⟩) (by simp)).trans (World.cell?_alloc_at _ _ _ _ rfl)
        have HC3 := Lib.hid ((HC.out.grown (gb_alloc (gb_refl _ none) _) (by simp)).grown (below_gb_none (Nat.le_refl _) hb3) (by simp))
        have HR3 := Lib.hid hrd
        have k3 := below_below (HK.out.alloc sr _) hb3 (by simp; omega)
        have HK3 := Lib.hid k3
        have s3 := k3.size
        have z3 := hb3.size
        simp only [World.size_alloc] at z3
        clear hrd hb3 k3
        by_cases her : er = 0
        · as_aux_lemma =>
            subst her
            go_wp2_with fail
            have hst3 := run_string_rd (P := Try.prog) w3.drew 24 9 5 Try.underlying24 Try.underlying5 Try.underlying9 _ _ A' c' by_ HR3.out.drew
            refine wp_region_held_drew (S := fun W => W.cell? ⟨wr.heap.size, 0, none⟩ = some (.int .i64 4) ∧ W.cell? ⟨wr.heap.size, 1, none⟩ = some (.int .i64 mk) ∧ (convert 24 9 (.slice A' by_.length c')).run Try.prog W = .ok (.string ⟨by_.toArray⟩) W) (by kernel_rfl) ⟨hca, hcb, hst3⟩ (fun hHeld => ?_)
            refine wpAnyH_take (i := 0) (oi := r20o0) (v := ?_) rfl (by kernel_rfl) (by kernel_rfl) (by kernel_rfl) (fun _ _ _ h => h) (Or.inl ⟨by rfl, ?_⟩) hHeld ?_
            rotate_left
            focus (intro W hSw; obtain ⟨hq0, hq1⟩ := hSw; unfold r20o0; go_simp; try with_reducible rfl)
            simp only [Act.put, r20o0, List.setIfInBounds_toArray, List.set_cons_zero, List.set_cons_succ]
            refine wpAnyH_take (i := 1) (oi := r20o1) (v := ?_) rfl (by kernel_rfl) (by kernel_rfl) (by kernel_rfl) (fun _ _ _ h => h) (Or.inl ⟨by rfl, ?_⟩) hHeld ?_
            rotate_left
            focus (intro W hSw; obtain ⟨hq0, hq1⟩ := hSw; unfold r20o1; go_simp; try with_reducible rfl)
            simp only [Act.put, r20o1, List.setIfInBounds_toArray, List.set_cons_zero, List.set_cons_succ]
            refine wpAnyH_take (i := 2) (oi := r20o2) (v := ?_) rfl (by kernel_rfl) (by kernel_rfl) (by kernel_rfl) (fun _ _ _ h => h) (Or.inl ⟨by rfl, ?_⟩) hHeld ?_
            rotate_left
            focus (intro W hSw; obtain ⟨hq0, hq1⟩ := hSw; unfold r20o2; go_simp; try with_reducible rfl)
            simp only [Act.put, r20o2, List.setIfInBounds_toArray, List.set_cons_zero, List.set_cons_succ]
            refine wpAnyH_take (i := 3) (oi := r20o3) (v := ?_) rfl (by kernel_rfl) (by kernel_rfl) (by kernel_rfl) (fun _ _ _ h => h) (Or.inl ⟨by rfl, ?_⟩) hHeld ?_
            rotate_left
            focus (intro W hSw; obtain ⟨hq0, hq1⟩ := hSw; unfold r20o3; go_simp; try with_reducible rfl)
            simp only [Act.put, r20o3, List.setIfInBounds_toArray, List.set_cons_zero, List.set_cons_succ]
            refine wpAnyH_take (i := 4) (oi := r20o4) (v := undef) rfl (by kernel_rfl) (by kernel_rfl) (by kernel_rfl) (fun _ _ _ h => h) (Or.inr ⟨by rfl, rfl⟩) hHeld ?_
            simp only [Act.put, r20o4, List.setIfInBounds_toArray, List.set_cons_zero, List.set_cons_succ]
            refine wpAnyH_take (i := 5) (oi := r20o5) (v := undef) rfl (by kernel_rfl) (by kernel_rfl) (by kernel_rfl) (fun _ _ _ h => h) (Or.inr ⟨by rfl, rfl⟩) hHeld ?_
            simp only [Act.put, r20o5, List.setIfInBounds_toArray, List.set_cons_zero, List.set_cons_succ]
            refine wpAnyH_take (i := 6) (oi := r20o6) (v := undef) rfl (by kernel_rfl) (by kernel_rfl) (by kernel_rfl) (fun _ _ _ h => h) (Or.inr ⟨by rfl, rfl⟩) hHeld ?_
            simp only [Act.put, r20o6, List.setIfInBounds_toArray, List.set_cons_zero, List.set_cons_succ]
            refine wpAnyH_take (i := 7) (oi := r20o7) (v := undef) rfl (by kernel_rfl) (by kernel_rfl) (by kernel_rfl) (fun _ _ _ h => h) (Or.inr ⟨by rfl, rfl⟩) hHeld ?_
            simp only [Act.put, r20o7, List.setIfInBounds_toArray, List.set_cons_zero, List.set_cons_succ]
            refine wpAnyH_take (i := 8) (oi := r20o8) (v := ?_) rfl (by kernel_rfl) (by kernel_rfl) (by kernel_rfl) (fun _ _ _ h => h) (Or.inl ⟨by rfl, ?_⟩) hHeld ?_
            rotate_left
            focus (intro W hSw; obtain ⟨hq0, hq1⟩ := hSw; unfold r20o8; go_simp; try with_reducible rfl)
            simp only [Act.put, r20o8, List.setIfInBounds_toArray, List.set_cons_zero, List.set_cons_succ]
            refine wpAnyH_take (i := 9) (oi := r20o9) (v := ?_) rfl (by kernel_rfl) (by kernel_rfl) (by kernel_rfl) (fun _ _ _ h => h) (Or.inl ⟨by rfl, ?_⟩) hHeld ?_
            rotate_left
            focus (intro W hSw; obtain ⟨hq0, hq1⟩ := hSw; unfold r20o9; go_simp; try with_reducible rfl)
            simp only [Act.put, r20o9, List.setIfInBounds_toArray, List.set_cons_zero, List.set_cons_succ]
            refine wpAnyH_take (i := 10) (oi := r20o10) (v := ?_) rfl (by kernel_rfl) (by kernel_rfl) (by kernel_rfl) (fun _ _ _ h => h) (Or.inl ⟨by rfl, ?_⟩) hHeld ?_
            rotate_left
            focus (intro W hSw; obtain ⟨hq0, hq1⟩ := hSw; unfold r20o10; go_simp; try with_reducible rfl)
            simp only [Act.put, r20o10, List.setIfInBounds_toArray, List.set_cons_zero, List.set_cons_succ]
            refine wpAnyH_take (i := 11) (oi := r20o11) (v := ?_) rfl (by kernel_rfl) (by kernel_rfl) (by kernel_rfl) (fun _ _ _ h => h) (Or.inl ⟨by rfl, ?_⟩) hHeld ?_
            rotate_left
            focus (intro W hSw; obtain ⟨hq0, hq1⟩ := hSw; unfold r20o11; go_simp; try with_reducible rfl)
            simp only [Act.put, r20o11, List.setIfInBounds_toArray, List.set_cons_zero, List.set_cons_succ]
            refine wpAnyH_take (i := 12) (oi := r20o12) (v := ?_) rfl (by kernel_rfl) (by kernel_rfl) (by kernel_rfl) (fun _ _ _ h => h) (Or.inl ⟨by rfl, ?_⟩) hHeld ?_
            rotate_left
            focus (intro W hSw; obtain ⟨hq0, hq1⟩ := hSw; unfold r20o12; go_simp; try with_reducible rfl)
            simp only [Act.put, r20o12, List.setIfInBounds_toArray, List.set_cons_zero, List.set_cons_succ]
            refine wpAnyH_take (i := 13) (oi := r20o13) (v := ?_) rfl (by kernel_rfl) (by kernel_rfl) (by kernel_rfl) (fun _ _ _ h => h) (Or.inl ⟨by rfl, ?_⟩) hHeld ?_
            rotate_left
            focus (intro W hSw; obtain ⟨hq0, hq1⟩ := hSw; unfold r20o13; go_simp; try with_reducible rfl)
            simp only [Act.put, r20o13, List.setIfInBounds_toArray, List.set_cons_zero, List.set_cons_succ]
            refine wpAnyH_take (i := 14) (oi := r20o14) (v := undef) rfl (by kernel_rfl) (by kernel_rfl) (by kernel_rfl) (fun _ _ _ h => h) (Or.inr ⟨by rfl, rfl⟩) hHeld ?_
            simp only [Act.put, r20o14, List.setIfInBounds_toArray, List.set_cons_zero, List.set_cons_succ]
            refine wpAnyH_take (i := 15) (oi := r20o15) (v := undef) rfl (by kernel_rfl) (by kernel_rfl) (by kernel_rfl) (fun _ _ _ h => h) (Or.inr ⟨by rfl, rfl⟩) hHeld ?_
            simp only [Act.put, r20o15, List.setIfInBounds_toArray, List.set_cons_zero, List.set_cons_succ]
            refine wpAnyH_take (i := 16) (oi := r20o16) (v := undef) rfl (by kernel_rfl) (by kernel_rfl) (by kernel_rfl) (fun _ _ _ h => h) (Or.inr ⟨by rfl, rfl⟩) hHeld ?_
            simp only [Act.put, r20o16, List.setIfInBounds_toArray, List.set_cons_zero, List.set_cons_succ]
            refine wpAnyH_take (i := 17) (oi := r20o17) (v := undef) rfl (by kernel_rfl) (by kernel_rfl) (by kernel_rfl) (fun _ _ _ h => h) (Or.inr ⟨by rfl, rfl⟩) hHeld ?_
            simp only [Act.put, r20o17, List.setIfInBounds_toArray, List.set_cons_zero, List.set_cons_succ]
            refine wpAnyH_take (i := 18) (oi := r20o18) (v := undef) rfl (by kernel_rfl) (by kernel_rfl) (by kernel_rfl) (fun _ _ _ h => h) (Or.inr ⟨by rfl, rfl⟩) hHeld ?_
            simp only [Act.put, r20o18, List.setIfInBounds_toArray, List.set_cons_zero, List.set_cons_succ]
            refine wpAnyH_take (i := 19) (oi := r20o19) (v := undef) rfl (by kernel_rfl) (by kernel_rfl) (by kernel_rfl) (fun _ _ _ h => h) (Or.inr ⟨by rfl, rfl⟩) hHeld ?_
            simp only [Act.put, r20o19, List.setIfInBounds_toArray, List.set_cons_zero, List.set_cons_succ]
            refine wpAnyH_take (i := 20) (oi := r20o20) (v := undef) rfl (by kernel_rfl) (by kernel_rfl) (by kernel_rfl) (fun _ _ _ h => h) (Or.inr ⟨by rfl, rfl⟩) hHeld ?_
            simp only [Act.put, r20o20, List.setIfInBounds_toArray, List.set_cons_zero, List.set_cons_succ]
            refine wpAnyH_take (i := 21) (oi := r20o21) (v := ?_) rfl (by kernel_rfl) (by kernel_rfl) (by kernel_rfl) (fun _ _ _ h => h) (Or.inl ⟨by rfl, ?_⟩) hHeld ?_
            rotate_left
            focus (intro W hSw; obtain ⟨hq0, hq1⟩ := hSw; unfold r20o21; go_simp; try with_reducible rfl)
            simp only [Act.put, r20o21, List.setIfInBounds_toArray, List.set_cons_zero, List.set_cons_succ]
            refine wpAnyH_take (i := 22) (oi := r20o22) (v := ?_) rfl (by kernel_rfl) (by kernel_rfl) (by kernel_rfl) (fun _ _ _ h => h) (Or.inl ⟨by rfl, ?_⟩) hHeld ?_
            rotate_left
            focus (intro W hSw; obtain ⟨hq0, hq1⟩ := hSw; unfold r20o22; go_simp; try with_reducible rfl)
            simp only [Act.put, r20o22, List.setIfInBounds_toArray, List.set_cons_zero, List.set_cons_succ]
            refine wpAnyH_take (i := 23) (oi := r20o23) (v := ?_) rfl (by kernel_rfl) (by kernel_rfl) (by kernel_rfl) (fun _ _ _ h => h) (Or.inl ⟨by rfl, ?_⟩) hHeld ?_
            rotate_left
            focus (intro W hSw; obtain ⟨hq0, hq1⟩ := hSw; unfold r20o23; go_simp; try with_reducible rfl)
            simp only [Act.put, r20o23, List.setIfInBounds_toArray, List.set_cons_zero, List.set_cons_succ]
            refine wpAnyH_take (i := 24) (oi := r20o24) (v := ?_) rfl (by kernel_rfl) (by kernel_rfl) (by kernel_rfl) (fun _ _ _ h => h) (Or.inl ⟨by rfl, ?_⟩) hHeld ?_
            rotate_left
            focus (intro W hSw; obtain ⟨hq0, hq1⟩ := hSw; unfold r20o24; go_simp; try with_reducible rfl)
            simp only [Act.put, r20o24, List.setIfInBounds_toArray, List.set_cons_zero, List.set_cons_succ]
            refine wpAnyH_take (i := 25) (oi := r20o25) (v := ?_) rfl (by kernel_rfl) (by kernel_rfl) (by kernel_rfl) (fun _ _ _ h => h) (Or.inl ⟨by rfl, ?_⟩) hHeld ?_
            rotate_left
            focus (intro W hSw; obtain ⟨hq0, hq1⟩ := hSw; unfold r20o25; go_simp; try with_reducible rfl)
            simp only [Act.put, r20o25, List.setIfInBounds_toArray, List.set_cons_zero, List.set_cons_succ]
            refine wpAnyH_take (i := 26) (oi := r20o26) (v := ?_) rfl (by kernel_rfl) (by kernel_rfl) (by kernel_rfl) (fun _ _ _ h => h) (Or.inl ⟨by rfl, ?_⟩) hHeld ?_
            rotate_left
            focus (intro W hSw; obtain ⟨hq0, hq1⟩ := hSw; unfold r20o26; go_simp; try with_reducible rfl)
            simp only [Act.put, r20o26, List.setIfInBounds_toArray, List.set_cons_zero, List.set_cons_succ]
            refine wpAnyH_take (i := 27) (oi := r20o27) (v := ?_) rfl (by kernel_rfl) (by kernel_rfl) (by kernel_rfl) (fun _ _ _ h => h) (Or.inl ⟨by rfl, ?_⟩) hHeld ?_
            rotate_left
            focus (intro W hSw; obtain ⟨hq0, hq1⟩ := hSw; unfold r20o27; go_simp; try with_reducible rfl)
            simp only [Act.put, r20o27, List.setIfInBounds_toArray, List.set_cons_zero, List.set_cons_succ]
            refine wpAnyH_take (i := 28) (oi := r20o28) (v := undef) rfl (by kernel_rfl) (by kernel_rfl) (by kernel_rfl) (fun _ _ _ h => h) (Or.inr ⟨by rfl, rfl⟩) hHeld ?_
            simp only [Act.put, r20o28, List.setIfInBounds_toArray, List.set_cons_zero, List.set_cons_succ]
            refine wpAnyH_take (i := 29) (oi := r20o29) (v := undef) rfl (by kernel_rfl) (by kernel_rfl) (by kernel_rfl) (fun _ _ _ h => h) (Or.inr ⟨by rfl, rfl⟩) hHeld ?_
            simp only [Act.put, r20o29, List.setIfInBounds_toArray, List.set_cons_zero, List.set_cons_succ]
            refine wpAnyH_take (i := 30) (oi := r20o30) (v := undef) rfl (by kernel_rfl) (by kernel_rfl) (by kernel_rfl) (fun _ _ _ h => h) (Or.inr ⟨by rfl, rfl⟩) hHeld ?_
            simp only [Act.put, r20o30, List.setIfInBounds_toArray, List.set_cons_zero, List.set_cons_succ]
            refine wpAnyH_take (i := 31) (oi := r20o31) (v := undef) rfl (by kernel_rfl) (by kernel_rfl) (by kernel_rfl) (fun _ _ _ h => h) (Or.inr ⟨by rfl, rfl⟩) hHeld ?_
            simp only [Act.put, r20o31, List.setIfInBounds_toArray, List.set_cons_zero, List.set_cons_succ]
            refine wpAnyH_take (i := 32) (oi := r20o32) (v := ?_) rfl (by kernel_rfl) (by kernel_rfl) (by kernel_rfl) (fun _ _ _ h => h) (Or.inl ⟨by rfl, ?_⟩) hHeld ?_
            rotate_left
            focus (intro W hSw; obtain ⟨hq0, hq1⟩ := hSw; unfold r20o32; go_simp; try with_reducible rfl)
            simp only [Act.put, r20o32, List.setIfInBounds_toArray, List.set_cons_zero, List.set_cons_succ]
            refine wpAnyH_take (i := 33) (oi := r20o33) (v := ?_) rfl (by kernel_rfl) (by kernel_rfl) (by kernel_rfl) (fun _ _ _ h => h) (Or.inl ⟨by rfl, ?_⟩) hHeld ?_
            rotate_left
            focus (intro W hSw; obtain ⟨hq0, hq1⟩ := hSw; unfold r20o33; go_simp; try with_reducible rfl)
            simp only [Act.put, r20o33, List.setIfInBounds_toArray, List.set_cons_zero, List.set_cons_succ]
            refine wpAnyH_take (i := 34) (oi := r20o34) (v := ?_) rfl (by kernel_rfl) (by kernel_rfl) (by kernel_rfl) (fun _ _ _ h => h) (Or.inl ⟨by rfl, ?_⟩) hHeld ?_
            rotate_left
            focus (intro W hSw; obtain ⟨hq0, hq1⟩ := hSw; unfold r20o34; go_simp; try with_reducible rfl)
            simp only [Act.put, r20o34, List.setIfInBounds_toArray, List.set_cons_zero, List.set_cons_succ]
            refine wpAnyH_take (i := 35) (oi := r20o35) (v := ?_) rfl (by kernel_rfl) (by kernel_rfl) (by kernel_rfl) (fun _ _ _ h => h) (Or.inl ⟨by rfl, ?_⟩) hHeld ?_
            rotate_left
            focus (intro W hSw; obtain ⟨hq0, hq1⟩ := hSw; unfold r20o35; go_simp; try with_reducible rfl)
            simp only [Act.put, r20o35, List.setIfInBounds_toArray, List.set_cons_zero, List.set_cons_succ]
            refine wpAnyH_take (i := 36) (oi := r20o36) (v := ?_) rfl (by kernel_rfl) (by kernel_rfl) (by kernel_rfl) (fun _ _ _ h => h) (Or.inl ⟨by rfl, ?_⟩) hHeld ?_
            rotate_left
            focus (intro W hSw; obtain ⟨hq0, hq1⟩ := hSw; unfold r20o36; go_simp; try with_reducible rfl)
            simp only [Act.put, r20o36, List.setIfInBounds_toArray, List.set_cons_zero, List.set_cons_succ]
            refine wpAnyH_take (i := 37) (oi := r20o37) (v := ?_) rfl (by kernel_rfl) (by kernel_rfl) (by kernel_rfl) (fun _ _ _ h => h) (Or.inl ⟨by rfl, ?_⟩) hHeld ?_
            rotate_left
            focus (intro W hSw; obtain ⟨hq0, hq1⟩ := hSw; unfold r20o37; go_simp; try with_reducible rfl)
            simp only [Act.put, r20o37, List.setIfInBounds_toArray, List.set_cons_zero, List.set_cons_succ]
            refine wpAnyH_take (i := 38) (oi := r20o38) (v := ?_) rfl (by kernel_rfl) (by kernel_rfl) (by kernel_rfl) (fun _ _ _ h => h) (Or.inl ⟨by rfl, ?_⟩) hHeld ?_
            rotate_left
            focus (intro W hSw; obtain ⟨hq0, hq1⟩ := hSw; unfold r20o38; go_simp; try with_reducible rfl)
            simp only [Act.put, r20o38, List.setIfInBounds_toArray, List.set_cons_zero, List.set_cons_succ]
            refine wpAnyH_take (i := 39) (oi := r20o39) (v := undef) rfl (by kernel_rfl) (by kernel_rfl) (by kernel_rfl) (fun _ _ _ h => h) (Or.inr ⟨by rfl, rfl⟩) hHeld ?_
            simp only [Act.put, r20o39, List.setIfInBounds_toArray, List.set_cons_zero, List.set_cons_succ]
            refine wpAnyH_take (i := 40) (oi := r20o40) (v := undef) rfl (by kernel_rfl) (by kernel_rfl) (by kernel_rfl) (fun _ _ _ h => h) (Or.inr ⟨by rfl, rfl⟩) hHeld ?_
            simp only [Act.put, r20o40, List.setIfInBounds_toArray, List.set_cons_zero, List.set_cons_succ]
            refine wpAnyH_take (i := 41) (oi := r20o41) (v := undef) rfl (by kernel_rfl) (by kernel_rfl) (by kernel_rfl) (fun _ _ _ h => h) (Or.inr ⟨by rfl, rfl⟩) hHeld ?_
            simp only [Act.put, r20o41, List.setIfInBounds_toArray, List.set_cons_zero, List.set_cons_succ]
            refine wpAnyH_take (i := 42) (oi := r20o42) (v := undef) rfl (by kernel_rfl) (by kernel_rfl) (by kernel_rfl) (fun _ _ _ h => h) (Or.inr ⟨by rfl, rfl⟩) hHeld ?_
            simp only [Act.put, r20o42, List.setIfInBounds_toArray, List.set_cons_zero, List.set_cons_succ]
            refine wpAnyH_take (i := 43) (oi := r20o43) (v := undef) rfl (by kernel_rfl) (by kernel_rfl) (by kernel_rfl) (fun _ _ _ h => h) (Or.inr ⟨by rfl, rfl⟩) hHeld ?_
            simp only [Act.put, r20o43, List.setIfInBounds_toArray, List.set_cons_zero, List.set_cons_succ]
            refine wpAnyH_take (i := 44) (oi := r20o44) (v := undef) rfl (by kernel_rfl) (by kernel_rfl) (by kernel_rfl) (fun _ _ _ h => h) (Or.inr ⟨by rfl, rfl⟩) hHeld ?_
            simp only [Act.put, r20o44, List.setIfInBounds_toArray, List.set_cons_zero, List.set_cons_succ]
            refine wpAnyH_take (i := 45) (oi := r20o45) (v := ?_) rfl (by kernel_rfl) (by kernel_rfl) (by kernel_rfl) (fun _ _ _ h => h) (Or.inl ⟨by rfl, ?_⟩) hHeld ?_
            rotate_left
            focus (intro W hSw; obtain ⟨hq0, hq1⟩ := hSw; unfold r20o45; go_simp; try with_reducible rfl)
            simp only [Act.put, r20o45, List.setIfInBounds_toArray, List.set_cons_zero, List.set_cons_succ]
            refine wpAnyH_take (i := 46) (oi := r20o46) (v := ?_) rfl (by kernel_rfl) (by kernel_rfl) (by kernel_rfl) (fun _ _ _ h => h) (Or.inl ⟨by rfl, ?_⟩) hHeld ?_
            rotate_left
            focus (intro W hSw; obtain ⟨hq0, hq1⟩ := hSw; unfold r20o46; go_simp; try with_reducible rfl)
            simp only [Act.put, r20o46, List.setIfInBounds_toArray, List.set_cons_zero, List.set_cons_succ]
            refine wpAnyH_take (i := 47) (oi := r20o47) (v := ?_) rfl (by kernel_rfl) (by kernel_rfl) (by kernel_rfl) (fun _ _ _ h => h) (Or.inl ⟨by rfl, ?_⟩) hHeld ?_
            rotate_left
            focus (intro W hSw; obtain ⟨hq0, hq1⟩ := hSw; unfold r20o47; go_simp; try with_reducible rfl)
            simp only [Act.put, r20o47, List.setIfInBounds_toArray, List.set_cons_zero, List.set_cons_succ]
            refine wpAnyH_take (i := 48) (oi := r20o48) (v := ?_) rfl (by kernel_rfl) (by kernel_rfl) (by kernel_rfl) (fun _ _ _ h => h) (Or.inl ⟨by rfl, ?_⟩) hHeld ?_
            rotate_left
            focus (intro W hSw; obtain ⟨hq0, hq1⟩ := hSw; unfold r20o48; go_simp; try with_reducible rfl)
            simp only [Act.put, r20o48, List.setIfInBounds_toArray, List.set_cons_zero, List.set_cons_succ]
            refine wpAnyH_take (i := 49) (oi := r20o49) (v := ?_) rfl (by kernel_rfl) (by kernel_rfl) (by kernel_rfl) (fun _ _ _ h => h) (Or.inl ⟨by rfl, ?_⟩) hHeld ?_
            rotate_left
            focus (intro W hSw; obtain ⟨hq0, hq1⟩ := hSw; unfold r20o49; go_simp; try with_reducible rfl)
            simp only [Act.put, r20o49, List.setIfInBounds_toArray, List.set_cons_zero, List.set_cons_succ]
            refine wpAnyH_take (i := 50) (oi := r20o50) (v := ?_) rfl (by kernel_rfl) (by kernel_rfl) (by kernel_rfl) (fun _ _ _ h => h) (Or.inl ⟨by rfl, ?_⟩) hHeld ?_
            rotate_left
            focus (intro W hSw; obtain ⟨hq0, hq1⟩ := hSw; unfold r20o50; go_simp; try with_reducible rfl)
            simp only [Act.put, r20o50, List.setIfInBounds_toArray, List.set_cons_zero, List.set_cons_succ]
            refine wpAnyH_take (i := 51) (oi := r20o51) (v := ?_) rfl (by kernel_rfl) (by kernel_rfl) (by kernel_rfl) (fun _ _ _ h => h) (Or.inl ⟨by rfl, ?_⟩) hHeld ?_
            rotate_left
            focus (intro W hSw; obtain ⟨hq0, hq1⟩ := hSw; unfold r20o51; go_simp; try with_reducible rfl)
            simp only [Act.put, r20o51, List.setIfInBounds_toArray, List.set_cons_zero, List.set_cons_succ]
            refine wpAnyH_take (i := 52) (oi := r20o52) (v := ?_) rfl (by kernel_rfl) (by kernel_rfl) (by kernel_rfl) (fun _ _ _ h => h) (Or.inl ⟨by rfl, ?_⟩) hHeld ?_
            rotate_left
            focus (intro W hSw; obtain ⟨hq0, hq1⟩ := hSw; unfold r20o52; go_simp; try with_reducible rfl)
            simp only [Act.put, r20o52, List.setIfInBounds_toArray, List.set_cons_zero, List.set_cons_succ]
            refine wpAnyH_take (i := 54) (oi := r20o54) (v := ?_) rfl (by kernel_rfl) (by kernel_rfl) (by kernel_rfl) (fun _ _ _ h => h) (Or.inl ⟨by rfl, ?_⟩) hHeld ?_
            rotate_left
            focus (intro W hSw; obtain ⟨hq0, hq1⟩ := hSw; unfold r20o54; go_simp; try with_reducible rfl)
            simp only [Act.put, r20o54, List.setIfInBounds_toArray, List.set_cons_zero, List.set_cons_succ]
            refine wpAnyH_take (i := 55) (oi := r20o55) (v := ?_) rfl (by kernel_rfl) (by kernel_rfl) (by kernel_rfl) (fun _ _ _ h => h) (Or.inl ⟨by rfl, ?_⟩) hHeld ?_
            rotate_left
            focus (intro W hSw; obtain ⟨hq0, hq1⟩ := hSw; unfold r20o55; go_simp; try with_reducible rfl)
            simp only [Act.put, r20o55, List.setIfInBounds_toArray, List.set_cons_zero, List.set_cons_succ]
            refine wpAnyH_ready (rs := [53]) (by kernel_rfl) (by simp) ?_
            refine AllReadyH.cons (o := r20o53) rfl (fun K hK => ?_) AllReadyH.nil
            unfold r20o53
            go_simp
            refine (HA.out _ _ _ HC3.out.drew).mono ?_
            rintro r w4 ⟨rfl, hc4, hg4⟩
            have hst4 := run_string_rd (P := Try.prog) w4 24 9 5 Try.underlying24 Try.underlying5 Try.underlying9 _ _ A' c' by_ (HR3.out.drew.grown hg4 (by show w.heap.size ≤ w3.heap.size; exact s3) (fun x hx => .inr (by injection hx with hx; omega)))
            have hca4 := hg4.cell (a := ⟨wr.heap.size, 0, none⟩) hca (by simp; omega)
            have hcb4 := hg4.cell (a := ⟨wr.heap.size, 1, none⟩) hcb (by simp; omega)
            have k4 := below_some (Below.drew HK3.out) hg4 s3 (by omega)
            have HC4 := Lib.hid hc4
            have HK4 := Lib.hid k4
            have HG4 := Lib.hid hg4
            have s4 := k4.size
            clear hc4 hg4 k4
            refine hK.out _ _ ⟨hca4, hcb4, hst4⟩ (fun hHeld => ?_)
            clear hK K
            refine wpAnyH_take (i := 56) (oi := r20o56) (v := ?_) rfl (by kernel_rfl) (by kernel_rfl) (by kernel_rfl) (fun _ _ _ h => h) (Or.inl ⟨by rfl, ?_⟩) hHeld ?_
            rotate_left
            focus (intro W hSw; obtain ⟨hq0, hq1⟩ := hSw; unfold r20o56; go_simp; try with_reducible rfl)
            simp only [Act.put, r20o56, List.setIfInBounds_toArray, List.set_cons_zero, List.set_cons_succ]
            refine wpAnyH_take (i := 57) (oi := r20o57) (v := ?_) rfl (by kernel_rfl) (by kernel_rfl) (by kernel_rfl) (fun _ _ _ h => h) (Or.inl ⟨by rfl, ?_⟩) hHeld ?_
            rotate_left
            focus (intro W hSw; obtain ⟨hq0, hq1⟩ := hSw; unfold r20o57; go_simp; try with_reducible rfl)
            simp only [Act.put, r20o57, List.setIfInBounds_toArray, List.set_cons_zero, List.set_cons_succ]
            refine wpAnyH_take (i := 58) (oi := r20o58) (v := ?_) rfl (by kernel_rfl) (by kernel_rfl) (by kernel_rfl) (fun _ _ _ h => h) (Or.inl ⟨by rfl, ?_⟩) hHeld ?_
            rotate_left
            focus (intro W hSw; obtain ⟨hq0, hq1⟩ := hSw; unfold r20o58; go_simp; try with_reducible rfl)
            simp only [Act.put, r20o58, List.setIfInBounds_toArray, List.set_cons_zero, List.set_cons_succ]
            refine wpAnyH_done (by kernel_rfl) ?_ _
            all_goals go_wp2_with (first | (go_at_call 21; refine (left_any HC4.out).mono ?_; rintro r w6 ⟨rfl, mm, rfl⟩) | (go_at_call 22; refine (good_any (HC4.out.drewN _)).mono ?_; rintro r w7 ⟨rfl, rfl⟩))
            all_goals go_roundw
            all_goals first | (case rel => exact ⟨k + 1, p + size, f, by omega, by go_num, by go_num, rfl, HC4.out.drewN _, below_drewN' HK4.out _⟩) | (case measure => simp [intOf]; omega)
        · as_aux_lemma =>
            have HB := Lib.hid ((textBad her : ActT bs p er [] 0 er))
            have e1 : (er == 0) = false := by simpa using her
            have e2 : (er != 0) = true := by simpa using her
            have HER := Lib.hid her
            clear her HA HS
            go_wp2_with fail
            have hst3 := run_string_rd (P := Try.prog) w3.drew 24 9 5 Try.underlying24 Try.underlying5 Try.underlying9 0 0 none 0 [] (Rd.nil _ 0 0)
            refine wp_region_held_drew (S := fun W => W.cell? ⟨wr.heap.size, 0, none⟩ = some (.int .i64 4) ∧ W.cell? ⟨wr.heap.size, 1, none⟩ = some (.int .i64 mk) ∧ (convert 24 9 (.slice none 0 0)).run Try.prog W = .ok (.string ⟨([] : List UInt8).toArray⟩) W) (by kernel_rfl) ⟨hca, hcb, hst3⟩ (fun hHeld => ?_)
            refine wpAnyH_take (i := 0) (oi := r20o0) (v := ?_) rfl (by kernel_rfl) (by kernel_rfl) (by kernel_rfl) (fun _ _ _ h => h) (Or.inl ⟨by rfl, ?_⟩) hHeld ?_
            rotate_left
            focus (intro W hSw; obtain ⟨hq0, hq1⟩ := hSw; unfold r20o0; go_simp; try with_reducible rfl)
            simp only [Act.put, r20o0, List.setIfInBounds_toArray, List.set_cons_zero, List.set_cons_succ]
            refine wpAnyH_take (i := 1) (oi := r20o1) (v := ?_) rfl (by kernel_rfl) (by kernel_rfl) (by kernel_rfl) (fun _ _ _ h => h) (Or.inl ⟨by rfl, ?_⟩) hHeld ?_
            rotate_left
            focus (intro W hSw; obtain ⟨hq0, hq1⟩ := hSw; unfold r20o1; go_simp; try with_reducible rfl)
            simp only [Act.put, r20o1, List.setIfInBounds_toArray, List.set_cons_zero, List.set_cons_succ]
            refine wpAnyH_take (i := 2) (oi := r20o2) (v := ?_) rfl (by kernel_rfl) (by kernel_rfl) (by kernel_rfl) (fun _ _ _ h => h) (Or.inl ⟨by rfl, ?_⟩) hHeld ?_
            rotate_left
            focus (intro W hSw; obtain ⟨hq0, hq1⟩ := hSw; unfold r20o2; go_simp; try with_reducible rfl)
            simp only [Act.put, r20o2, List.setIfInBounds_toArray, List.set_cons_zero, List.set_cons_succ]
            refine wpAnyH_take (i := 3) (oi := r20o3) (v := ?_) rfl (by kernel_rfl) (by kernel_rfl) (by kernel_rfl) (fun _ _ _ h => h) (Or.inl ⟨by rfl, ?_⟩) hHeld ?_
            rotate_left
            focus (intro W hSw; obtain ⟨hq0, hq1⟩ := hSw; unfold r20o3; go_simp; try with_reducible rfl)
            simp only [Act.put, r20o3, List.setIfInBounds_toArray, List.set_cons_zero, List.set_cons_succ]
            refine wpAnyH_take (i := 4) (oi := r20o4) (v := undef) rfl (by kernel_rfl) (by kernel_rfl) (by kernel_rfl) (fun _ _ _ h => h) (Or.inr ⟨by rfl, rfl⟩) hHeld ?_
            simp only [Act.put, r20o4, List.setIfInBounds_toArray, List.set_cons_zero, List.set_cons_succ]
            refine wpAnyH_take (i := 5) (oi := r20o5) (v := undef) rfl (by kernel_rfl) (by kernel_rfl) (by kernel_rfl) (fun _ _ _ h => h) (Or.inr ⟨by rfl, rfl⟩) hHeld ?_
            simp only [Act.put, r20o5, List.setIfInBounds_toArray, List.set_cons_zero, List.set_cons_succ]
            refine wpAnyH_take (i := 6) (oi := r20o6) (v := undef) rfl (by kernel_rfl) (by kernel_rfl) (by kernel_rfl) (fun _ _ _ h => h) (Or.inr ⟨by rfl, rfl⟩) hHeld ?_
            simp only [Act.put, r20o6, List.setIfInBounds_toArray, List.set_cons_zero, List.set_cons_succ]
            refine wpAnyH_take (i := 7) (oi := r20o7) (v := undef) rfl (by kernel_rfl) (by kernel_rfl) (by kernel_rfl) (fun _ _ _ h => h) (Or.inr ⟨by rfl, rfl⟩) hHeld ?_
            simp only [Act.put, r20o7, List.setIfInBounds_toArray, List.set_cons_zero, List.set_cons_succ]
            refine wpAnyH_take (i := 8) (oi := r20o8) (v := ?_) rfl (by kernel_rfl) (by kernel_rfl) (by kernel_rfl) (fun _ _ _ h => h) (Or.inl ⟨by rfl, ?_⟩) hHeld ?_
            rotate_left
            focus (intro W hSw; obtain ⟨hq0, hq1⟩ := hSw; unfold r20o8; go_simp; try with_reducible rfl)
            simp only [Act.put, r20o8, List.setIfInBounds_toArray, List.set_cons_zero, List.set_cons_succ]
            refine wpAnyH_take (i := 9) (oi := r20o9) (v := ?_) rfl (by kernel_rfl) (by kernel_rfl) (by kernel_rfl) (fun _ _ _ h => h) (Or.inl ⟨by rfl, ?_⟩) hHeld ?_
            rotate_left
            focus (intro W hSw; obtain ⟨hq0, hq1⟩ := hSw; unfold r20o9; go_simp; try with_reducible rfl)
            simp only [Act.put, r20o9, List.setIfInBounds_toArray, List.set_cons_zero, List.set_cons_succ]
            refine wpAnyH_take (i := 10) (oi := r20o10) (v := ?_) rfl (by kernel_rfl) (by kernel_rfl) (by kernel_rfl) (fun _ _ _ h => h) (Or.inl ⟨by rfl, ?_⟩) hHeld ?_
            rotate_left
            focus (intro W hSw; obtain ⟨hq0, hq1⟩ := hSw; unfold r20o10; go_simp; try with_reducible rfl)
            simp only [Act.put, r20o10, List.setIfInBounds_toArray, List.set_cons_zero, List.set_cons_succ]
            refine wpAnyH_take (i := 11) (oi := r20o11) (v := ?_) rfl (by kernel_rfl) (by kernel_rfl) (by kernel_rfl) (fun _ _ _ h => h) (Or.inl ⟨by rfl, ?_⟩) hHeld ?_
            rotate_left
            focus (intro W hSw; obtain ⟨hq0, hq1⟩ := hSw; unfold r20o11; go_simp; try with_reducible rfl)
            simp only [Act.put, r20o11, List.setIfInBounds_toArray, List.set_cons_zero, List.set_cons_succ]
            refine wpAnyH_take (i := 12) (oi := r20o12) (v := ?_) rfl (by kernel_rfl) (by kernel_rfl) (by kernel_rfl) (fun _ _ _ h => h) (Or.inl ⟨by rfl, ?_⟩) hHeld ?_
            rotate_left
            focus (intro W hSw; obtain ⟨hq0, hq1⟩ := hSw; unfold r20o12; go_simp; try with_reducible rfl)
            simp only [Act.put, r20o12, List.setIfInBounds_toArray, List.set_cons_zero, List.set_cons_succ]
            refine wpAnyH_take (i := 13) (oi := r20o13) (v := ?_) rfl (by kernel_rfl) (by kernel_rfl) (by kernel_rfl) (fun _ _ _ h => h) (Or.inl ⟨by rfl, ?_⟩) hHeld ?_
            rotate_left
            focus (intro W hSw; obtain ⟨hq0, hq1⟩ := hSw; unfold r20o13; go_simp; try with_reducible rfl)
            simp only [Act.put, r20o13, List.setIfInBounds_toArray, List.set_cons_zero, List.set_cons_succ]
            refine wpAnyH_take (i := 14) (oi := r20o14) (v := undef) rfl (by kernel_rfl) (by kernel_rfl) (by kernel_rfl) (fun _ _ _ h => h) (Or.inr ⟨by rfl, rfl⟩) hHeld ?_
            simp only [Act.put, r20o14, List.setIfInBounds_toArray, List.set_cons_zero, List.set_cons_succ]
            refine wpAnyH_take (i := 15) (oi := r20o15) (v := undef) rfl (by kernel_rfl) (by kernel_rfl) (by kernel_rfl) (fun _ _ _ h => h) (Or.inr ⟨by rfl, rfl⟩) hHeld ?_
            simp only [Act.put, r20o15, List.setIfInBounds_toArray, List.set_cons_zero, List.set_cons_succ]
            refine wpAnyH_take (i := 16) (oi := r20o16) (v := undef) rfl (by kernel_rfl) (by kernel_rfl) (by kernel_rfl) (fun _ _ _ h => h) (Or.inr ⟨by rfl, rfl⟩) hHeld ?_
            simp only [Act.put, r20o16, List.setIfInBounds_toArray, List.set_cons_zero, List.set_cons_succ]
            refine wpAnyH_take (i := 17) (oi := r20o17) (v := undef) rfl (by kernel_rfl) (by kernel_rfl) (by kernel_rfl) (fun _ _ _ h => h) (Or.inr ⟨by rfl, rfl⟩) hHeld ?_
            simp only [Act.put, r20o17, List.setIfInBounds_toArray, List.set_cons_zero, List.set_cons_succ]
            refine wpAnyH_take (i := 18) (oi := r20o18) (v := undef) rfl (by kernel_rfl) (by kernel_rfl) (by kernel_rfl) (fun _ _ _ h => h) (Or.inr ⟨by rfl, rfl⟩) hHeld ?_
            simp only [Act.put, r20o18, List.setIfInBounds_toArray, List.set_cons_zero, List.set_cons_succ]
            refine wpAnyH_take (i := 19) (oi := r20o19) (v := undef) rfl (by kernel_rfl) (by kernel_rfl) (by kernel_rfl) (fun _ _ _ h => h) (Or.inr ⟨by rfl, rfl⟩) hHeld ?_
            simp only [Act.put, r20o19, List.setIfInBounds_toArray, List.set_cons_zero, List.set_cons_succ]
            refine wpAnyH_take (i := 20) (oi := r20o20) (v := undef) rfl (by kernel_rfl) (by kernel_rfl) (by kernel_rfl) (fun _ _ _ h => h) (Or.inr ⟨by rfl, rfl⟩) hHeld ?_
            simp only [Act.put, r20o20, List.setIfInBounds_toArray, List.set_cons_zero, List.set_cons_succ]
            refine wpAnyH_take (i := 21) (oi := r20o21) (v := ?_) rfl (by kernel_rfl) (by kernel_rfl) (by kernel_rfl) (fun _ _ _ h => h) (Or.inl ⟨by rfl, ?_⟩) hHeld ?_
            rotate_left
            focus (intro W hSw; obtain ⟨hq0, hq1⟩ := hSw; unfold r20o21; go_simp; try with_reducible rfl)
            simp only [Act.put, r20o21, List.setIfInBounds_toArray, List.set_cons_zero, List.set_cons_succ]
            refine wpAnyH_take (i := 22) (oi := r20o22) (v := ?_) rfl (by kernel_rfl) (by kernel_rfl) (by kernel_rfl) (fun _ _ _ h => h) (Or.inl ⟨by rfl, ?_⟩) hHeld ?_
            rotate_left
            focus (intro W hSw; obtain ⟨hq0, hq1⟩ := hSw; unfold r20o22; go_simp; try with_reducible rfl)
            simp only [Act.put, r20o22, List.setIfInBounds_toArray, List.set_cons_zero, List.set_cons_succ]
            refine wpAnyH_take (i := 23) (oi := r20o23) (v := ?_) rfl (by kernel_rfl) (by kernel_rfl) (by kernel_rfl) (fun _ _ _ h => h) (Or.inl ⟨by rfl, ?_⟩) hHeld ?_
            rotate_left
            focus (intro W hSw; obtain ⟨hq0, hq1⟩ := hSw; unfold r20o23; go_simp; try with_reducible rfl)
            simp only [Act.put, r20o23, List.setIfInBounds_toArray, List.set_cons_zero, List.set_cons_succ]
            refine wpAnyH_take (i := 24) (oi := r20o24) (v := ?_) rfl (by kernel_rfl) (by kernel_rfl) (by kernel_rfl) (fun _ _ _ h => h) (Or.inl ⟨by rfl, ?_⟩) hHeld ?_
            rotate_left
            focus (intro W hSw; obtain ⟨hq0, hq1⟩ := hSw; unfold r20o24; go_simp; try with_reducible rfl)
            simp only [Act.put, r20o24, List.setIfInBounds_toArray, List.set_cons_zero, List.set_cons_succ]
            refine wpAnyH_take (i := 25) (oi := r20o25) (v := ?_) rfl (by kernel_rfl) (by kernel_rfl) (by kernel_rfl) (fun _ _ _ h => h) (Or.inl ⟨by rfl, ?_⟩) hHeld ?_
            rotate_left
            focus (intro W hSw; obtain ⟨hq0, hq1⟩ := hSw; unfold r20o25; go_simp; try with_reducible rfl)
            simp only [Act.put, r20o25, List.setIfInBounds_toArray, List.set_cons_zero, List.set_cons_succ]
            refine wpAnyH_take (i := 26) (oi := r20o26) (v := ?_) rfl (by kernel_rfl) (by kernel_rfl) (by kernel_rfl) (fun _ _ _ h => h) (Or.inl ⟨by rfl, ?_⟩) hHeld ?_
            rotate_left
            focus (intro W hSw; obtain ⟨hq0, hq1⟩ := hSw; unfold r20o26; go_simp; try with_reducible rfl)
            simp only [Act.put, r20o26, List.setIfInBounds_toArray, List.set_cons_zero, List.set_cons_succ]
            refine wpAnyH_take (i := 27) (oi := r20o27) (v := ?_) rfl (by kernel_rfl) (by kernel_rfl) (by kernel_rfl) (fun _ _ _ h => h) (Or.inl ⟨by rfl, ?_⟩) hHeld ?_
            rotate_left
            focus (intro W hSw; obtain ⟨hq0, hq1⟩ := hSw; unfold r20o27; go_simp; try with_reducible rfl)
            simp only [Act.put, r20o27, List.setIfInBounds_toArray, List.set_cons_zero, List.set_cons_succ]
            refine wpAnyH_take (i := 28) (oi := r20o28) (v := undef) rfl (by kernel_rfl) (by kernel_rfl) (by kernel_rfl) (fun _ _ _ h => h) (Or.inr ⟨by rfl, rfl⟩) hHeld ?_
            simp only [Act.put, r20o28, List.setIfInBounds_toArray, List.set_cons_zero, List.set_cons_succ]
            refine wpAnyH_take (i := 29) (oi := r20o29) (v := undef) rfl (by kernel_rfl) (by kernel_rfl) (by kernel_rfl) (fun _ _ _ h => h) (Or.inr ⟨by rfl, rfl⟩) hHeld ?_
            simp only [Act.put, r20o29, List.setIfInBounds_toArray, List.set_cons_zero, List.set_cons_succ]
            refine wpAnyH_take (i := 30) (oi := r20o30) (v := undef) rfl (by kernel_rfl) (by kernel_rfl) (by kernel_rfl) (fun _ _ _ h => h) (Or.inr ⟨by rfl, rfl⟩) hHeld ?_
            simp only [Act.put, r20o30, List.setIfInBounds_toArray, List.set_cons_zero, List.set_cons_succ]
            refine wpAnyH_take (i := 31) (oi := r20o31) (v := undef) rfl (by kernel_rfl) (by kernel_rfl) (by kernel_rfl) (fun _ _ _ h => h) (Or.inr ⟨by rfl, rfl⟩) hHeld ?_
            simp only [Act.put, r20o31, List.setIfInBounds_toArray, List.set_cons_zero, List.set_cons_succ]
            refine wpAnyH_take (i := 32) (oi := r20o32) (v := ?_) rfl (by kernel_rfl) (by kernel_rfl) (by kernel_rfl) (fun _ _ _ h => h) (Or.inl ⟨by rfl, ?_⟩) hHeld ?_
            rotate_left
            focus (intro W hSw; obtain ⟨hq0, hq1⟩ := hSw; unfold r20o32; go_simp; try with_reducible rfl)
            simp only [Act.put, r20o32, List.setIfInBounds_toArray, List.set_cons_zero, List.set_cons_succ]
            refine wpAnyH_take (i := 33) (oi := r20o33) (v := ?_) rfl (by kernel_rfl) (by kernel_rfl) (by kernel_rfl) (fun _ _ _ h => h) (Or.inl ⟨by rfl, ?_⟩) hHeld ?_
            rotate_left
            focus (intro W hSw; obtain ⟨hq0, hq1⟩ := hSw; unfold r20o33; go_simp; try with_reducible rfl)
            simp only [Act.put, r20o33, List.setIfInBounds_toArray, List.set_cons_zero, List.set_cons_succ]
            refine wpAnyH_take (i := 34) (oi := r20o34) (v := ?_) rfl (by kernel_rfl) (by kernel_rfl) (by kernel_rfl) (fun _ _ _ h => h) (Or.inl ⟨by rfl, ?_⟩) hHeld ?_
            rotate_left
            focus (intro W hSw; obtain ⟨hq0, hq1⟩ := hSw; unfold r20o34; go_simp; try with_reducible rfl)
            simp only [Act.put, r20o34, List.setIfInBounds_toArray, List.set_cons_zero, List.set_cons_succ]
            refine wpAnyH_take (i := 35) (oi := r20o35) (v := ?_) rfl (by kernel_rfl) (by kernel_rfl) (by kernel_rfl) (fun _ _ _ h => h) (Or.inl ⟨by rfl, ?_⟩) hHeld ?_
            rotate_left
            focus (intro W hSw; obtain ⟨hq0, hq1⟩ := hSw; unfold r20o35; go_simp; try with_reducible rfl)
            simp only [Act.put, r20o35, List.setIfInBounds_toArray, List.set_cons_zero, List.set_cons_succ]
            refine wpAnyH_take (i := 36) (oi := r20o36) (v := ?_) rfl (by kernel_rfl) (by kernel_rfl) (by kernel_rfl) (fun _ _ _ h => h) (Or.inl ⟨by rfl, ?_⟩) hHeld ?_
            rotate_left
            focus (intro W hSw; obtain ⟨hq0, hq1⟩ := hSw; unfold r20o36; go_simp; try with_reducible rfl)
            simp only [Act.put, r20o36, List.setIfInBounds_toArray, List.set_cons_zero, List.set_cons_succ]
            refine wpAnyH_take (i := 37) (oi := r20o37) (v := ?_) rfl (by kernel_rfl) (by kernel_rfl) (by kernel_rfl) (fun _ _ _ h => h) (Or.inl ⟨by rfl, ?_⟩) hHeld ?_
            rotate_left
            focus (intro W hSw; obtain ⟨hq0, hq1⟩ := hSw; unfold r20o37; go_simp; try with_reducible rfl)
            simp only [Act.put, r20o37, List.setIfInBounds_toArray, List.set_cons_zero, List.set_cons_succ]
            refine wpAnyH_take (i := 38) (oi := r20o38) (v := ?_) rfl (by kernel_rfl) (by kernel_rfl) (by kernel_rfl) (fun _ _ _ h => h) (Or.inl ⟨by rfl, ?_⟩) hHeld ?_
            rotate_left
            focus (intro W hSw; obtain ⟨hq0, hq1⟩ := hSw; unfold r20o38; go_simp; try with_reducible rfl)
            simp only [Act.put, r20o38, List.setIfInBounds_toArray, List.set_cons_zero, List.set_cons_succ]
            refine wpAnyH_take (i := 39) (oi := r20o39) (v := undef) rfl (by kernel_rfl) (by kernel_rfl) (by kernel_rfl) (fun _ _ _ h => h) (Or.inr ⟨by rfl, rfl⟩) hHeld ?_
            simp only [Act.put, r20o39, List.setIfInBounds_toArray, List.set_cons_zero, List.set_cons_succ]
            refine wpAnyH_take (i := 40) (oi := r20o40) (v := undef) rfl (by kernel_rfl) (by kernel_rfl) (by kernel_rfl) (fun _ _ _ h => h) (Or.inr ⟨by rfl, rfl⟩) hHeld ?_
            simp only [Act.put, r20o40, List.setIfInBounds_toArray, List.set_cons_zero, List.set_cons_succ]
            refine wpAnyH_take (i := 41) (oi := r20o41) (v := undef) rfl (by kernel_rfl) (by kernel_rfl) (by kernel_rfl) (fun _ _ _ h => h) (Or.inr ⟨by rfl, rfl⟩) hHeld ?_
            simp only [Act.put, r20o41, List.setIfInBounds_toArray, List.set_cons_zero, List.set_cons_succ]
            refine wpAnyH_take (i := 42) (oi := r20o42) (v := undef) rfl (by kernel_rfl) (by kernel_rfl) (by kernel_rfl) (fun _ _ _ h => h) (Or.inr ⟨by rfl, rfl⟩) hHeld ?_
            simp only [Act.put, r20o42, List.setIfInBounds_toArray, List.set_cons_zero, List.set_cons_succ]
            refine wpAnyH_take (i := 43) (oi := r20o43) (v := undef) rfl (by kernel_rfl) (by kernel_rfl) (by kernel_rfl) (fun _ _ _ h => h) (Or.inr ⟨by rfl, rfl⟩) hHeld ?_
            simp only [Act.put, r20o43, List.setIfInBounds_toArray, List.set_cons_zero, List.set_cons_succ]
            refine wpAnyH_take (i := 44) (oi := r20o44) (v := undef) rfl (by kernel_rfl) (by kernel_rfl) (by kernel_rfl) (fun _ _ _ h => h) (Or.inr ⟨by rfl, rfl⟩) hHeld ?_
            simp only [Act.put, r20o44, List.setIfInBounds_toArray, List.set_cons_zero, List.set_cons_succ]
            refine wpAnyH_take (i := 45) (oi := r20o45) (v := ?_) rfl (by kernel_rfl) (by kernel_rfl) (by kernel_rfl) (fun _ _ _ h => h) (Or.inl ⟨by rfl, ?_⟩) hHeld ?_
            rotate_left
            focus (intro W hSw; obtain ⟨hq0, hq1⟩ := hSw; unfold r20o45; go_simp; try with_reducible rfl)
            simp only [Act.put, r20o45, List.setIfInBounds_toArray, List.set_cons_zero, List.set_cons_succ]
            refine wpAnyH_take (i := 46) (oi := r20o46) (v := ?_) rfl (by kernel_rfl) (by kernel_rfl) (by kernel_rfl) (fun _ _ _ h => h) (Or.inl ⟨by rfl, ?_⟩) hHeld ?_
            rotate_left
            focus (intro W hSw; obtain ⟨hq0, hq1⟩ := hSw; unfold r20o46; go_simp; try with_reducible rfl)
            simp only [Act.put, r20o46, List.setIfInBounds_toArray, List.set_cons_zero, List.set_cons_succ]
            refine wpAnyH_take (i := 47) (oi := r20o47) (v := ?_) rfl (by kernel_rfl) (by kernel_rfl) (by kernel_rfl) (fun _ _ _ h => h) (Or.inl ⟨by rfl, ?_⟩) hHeld ?_
            rotate_left
            focus (intro W hSw; obtain ⟨hq0, hq1⟩ := hSw; unfold r20o47; go_simp; try with_reducible rfl)
            simp only [Act.put, r20o47, List.setIfInBounds_toArray, List.set_cons_zero, List.set_cons_succ]
            refine wpAnyH_take (i := 48) (oi := r20o48) (v := ?_) rfl (by kernel_rfl) (by kernel_rfl) (by kernel_rfl) (fun _ _ _ h => h) (Or.inl ⟨by rfl, ?_⟩) hHeld ?_
            rotate_left
            focus (intro W hSw; obtain ⟨hq0, hq1⟩ := hSw; unfold r20o48; go_simp; try with_reducible rfl)
            simp only [Act.put, r20o48, List.setIfInBounds_toArray, List.set_cons_zero, List.set_cons_succ]
            refine wpAnyH_take (i := 49) (oi := r20o49) (v := ?_) rfl (by kernel_rfl) (by kernel_rfl) (by kernel_rfl) (fun _ _ _ h => h) (Or.inl ⟨by rfl, ?_⟩) hHeld ?_
            rotate_left
            focus (intro W hSw; obtain ⟨hq0, hq1⟩ := hSw; unfold r20o49; go_simp; try with_reducible rfl)
            simp only [Act.put, r20o49, List.setIfInBounds_toArray, List.set_cons_zero, List.set_cons_succ]
            refine wpAnyH_take (i := 50) (oi := r20o50) (v := ?_) rfl (by kernel_rfl) (by kernel_rfl) (by kernel_rfl) (fun _ _ _ h => h) (Or.inl ⟨by rfl, ?_⟩) hHeld ?_
            rotate_left
            focus (intro W hSw; obtain ⟨hq0, hq1⟩ := hSw; unfold r20o50; go_simp; try with_reducible rfl)
            simp only [Act.put, r20o50, List.setIfInBounds_toArray, List.set_cons_zero, List.set_cons_succ]
            refine wpAnyH_take (i := 51) (oi := r20o51) (v := ?_) rfl (by kernel_rfl) (by kernel_rfl) (by kernel_rfl) (fun _ _ _ h => h) (Or.inl ⟨by rfl, ?_⟩) hHeld ?_
            rotate_left
            focus (intro W hSw; obtain ⟨hq0, hq1⟩ := hSw; unfold r20o51; go_simp; try with_reducible rfl)
            simp only [Act.put, r20o51, List.setIfInBounds_toArray, List.set_cons_zero, List.set_cons_succ]
            refine wpAnyH_take (i := 52) (oi := r20o52) (v := ?_) rfl (by kernel_rfl) (by kernel_rfl) (by kernel_rfl) (fun _ _ _ h => h) (Or.inl ⟨by rfl, ?_⟩) hHeld ?_
            rotate_left
            focus (intro W hSw; obtain ⟨hq0, hq1⟩ := hSw; unfold r20o52; go_simp; try with_reducible rfl)
            simp only [Act.put, r20o52, List.setIfInBounds_toArray, List.set_cons_zero, List.set_cons_succ]
            refine wpAnyH_take (i := 54) (oi := r20o54) (v := ?_) rfl (by kernel_rfl) (by kernel_rfl) (by kernel_rfl) (fun _ _ _ h => h) (Or.inl ⟨by rfl, ?_⟩) hHeld ?_
            rotate_left
            focus (intro W hSw; obtain ⟨hq0, hq1⟩ := hSw; unfold r20o54; go_simp; try with_reducible rfl)
            simp only [Act.put, r20o54, List.setIfInBounds_toArray, List.set_cons_zero, List.set_cons_succ]
            refine wpAnyH_take (i := 55) (oi := r20o55) (v := ?_) rfl (by kernel_rfl) (by kernel_rfl) (by kernel_rfl) (fun _ _ _ h => h) (Or.inl ⟨by rfl, ?_⟩) hHeld ?_
            rotate_left
            focus (intro W hSw; obtain ⟨hq0, hq1⟩ := hSw; unfold r20o55; go_simp; try with_reducible rfl)
            simp only [Act.put, r20o55, List.setIfInBounds_toArray, List.set_cons_zero, List.set_cons_succ]
            refine wpAnyH_ready (rs := [53]) (by kernel_rfl) (by simp) ?_
            refine AllReadyH.cons (o := r20o53) rfl (fun K hK => ?_) AllReadyH.nil
            unfold r20o53
            go_simp
            refine (HB.out _ _ _ HC3.out.drew).mono ?_
            rintro r w4 ⟨rfl, hc4, hg4⟩
            have hst4 := run_string_rd (P := Try.prog) w4 24 9 5 Try.underlying24 Try.underlying5 Try.underlying9 _ _ none 0 [] (Rd.nil _ 0 0)
            have hca4 := hg4.cell (a := ⟨wr.heap.size, 0, none⟩) hca (by simp; omega)
            have hcb4 := hg4.cell (a := ⟨wr.heap.size, 1, none⟩) hcb (by simp; omega)
            have k4 := below_some (Below.drew HK3.out) hg4 s3 (by omega)
            have HC4 := Lib.hid hc4
            have HK4 := Lib.hid k4
            have HG4 := Lib.hid hg4
            have s4 := k4.size
            clear hc4 hg4 k4
            refine hK.out _ _ ⟨hca4, hcb4, hst4⟩ (fun hHeld => ?_)
            clear hK K
            refine wpAnyH_take (i := 56) (oi := r20o56) (v := ?_) rfl (by kernel_rfl) (by kernel_rfl) (by kernel_rfl) (fun _ _ _ h => h) (Or.inl ⟨by rfl, ?_⟩) hHeld ?_
            rotate_left
            focus (intro W hSw; obtain ⟨hq0, hq1⟩ := hSw; unfold r20o56; go_simp; try with_reducible rfl)
            simp only [Act.put, r20o56, List.setIfInBounds_toArray, List.set_cons_zero, List.set_cons_succ]
            refine wpAnyH_take (i := 57) (oi := r20o57) (v := ?_) rfl (by kernel_rfl) (by kernel_rfl) (by kernel_rfl) (fun _ _ _ h => h) (Or.inl ⟨by rfl, ?_⟩) hHeld ?_
            rotate_left
            focus (intro W hSw; obtain ⟨hq0, hq1⟩ := hSw; unfold r20o57; go_simp; try with_reducible rfl)
            simp only [Act.put, r20o57, List.setIfInBounds_toArray, List.set_cons_zero, List.set_cons_succ]
            refine wpAnyH_take (i := 58) (oi := r20o58) (v := ?_) rfl (by kernel_rfl) (by kernel_rfl) (by kernel_rfl) (fun _ _ _ h => h) (Or.inl ⟨by rfl, ?_⟩) hHeld ?_
            rotate_left
            focus (intro W hSw; obtain ⟨hq0, hq1⟩ := hSw; unfold r20o58; go_simp; try with_reducible rfl)
            simp only [Act.put, r20o58, List.setIfInBounds_toArray, List.set_cons_zero, List.set_cons_succ]
            refine wpAnyH_done (by kernel_rfl) ?_ _
            all_goals go_wp2_with (first | (go_at_call 21; refine (left_any HC4.out).mono ?_; rintro r w6 ⟨rfl, mm, rfl⟩) | (go_at_call 22; refine (good_any (HC4.out.drewN _)).mono ?_; rintro r w7 ⟨rfl, rfl⟩))
            all_goals go_roundw
            all_goals first | (case rel => exact ⟨k + 1, p, er, by omega, by go_num, by go_num, rfl, HC4.out.drewN _, below_drewN' HK4.out _⟩) | (case measure => simp [intOf]; omega)
      by_cases hd5 : dk = 5
      · subst hd5
        by_cases hm1 : mk < 1
        · go_wp2
          all_goals go_ret
          all_goals exact ⟨rfl, HK.out.alloc sr _⟩
        by_cases hm2 : 8 < mk
        · go_wp2
          all_goals go_ret
          all_goals exact ⟨rfl, HK.out.alloc sr _⟩
        have HS := Lib.hid (fun (W : World) (hi : Nat) (A : Option Addr) (c : Nat) (h : Rd W 0 hi A c (bv bs)) (hh : hi ≤ W.heap.size) => step5 (p := p) mk h hh hp)
        go_wp2_with fail
        refine (HS.out _ w.heap.size A c ((H.out.below HK.out (Nat.le_refl _)).alloc sr _) (by simp; omega)).mono ?_
        rintro r w3 ⟨A', c', rfl, hrd, hb3⟩
        have hca : w3.cell? ⟨wr.heap.size, 0, none⟩ = some (.int .i64 5) := (hb3.cell (p := ⟨wr.heap.size, 0, none⟩) (by simp)).trans (World.cell?_alloc_at _ _ _ _ rfl)
        have hcb : w3.cell? ⟨wr.heap.size, 1, none⟩ = some (.int .i64 mk) := (hb3.cell (p := ⟨wr.heap.size, 1, none⟩) (by simp)).trans (World.cell?_alloc_at _ _ _ _ rfl)
        have HC3 := Lib.hid ((HC.out.grown (gb_alloc (gb_refl _ none) _) (by simp)).grown (below_gb_none (Nat.le_refl _) hb3) (by simp))
        have k3 := below_below (HK.out.alloc sr _) hb3 (by simp; omega)
        have HK3 := Lib.hid k3
        have s3 := k3.size
        clear hrd hb3 k3 HS
        by_cases her : er = 0
        · as_aux_lemma =>
            subst her
            go_wp2_with fail
            go_quiet (fail)
            go_wp2_with (first | (go_at_call 20; refine (fail_good _ (HC3.out.drewN _)).mono ?_; rintro r w4 ⟨rfl, rfl⟩) | (go_at_call 21; refine (left_any ((HC3.out.drewN _).setErr mk)).mono ?_; rintro r w6 ⟨rfl, mm, rfl⟩) | (go_at_call 22; refine (good_any (((HC3.out.drewN _).setErr mk).drewN _)).mono ?_; rintro r w7 ⟨rfl, rfl⟩))
            all_goals go_roundw
            all_goals first | (case rel => exact ⟨k + 1, p, mk, by omega, by go_num, by go_num, rfl, (((HC3.out.drewN _).setErr mk).drewN _), below_drewN' ((below_drewN' HK3.out _).setCell (p := ⟨g, 2, none⟩) (by simp; omega) _) _⟩) | (case measure => simp [intOf]; omega)
        · have e1 : (er == 0) = false := by simpa using her
          have e2 : (er != 0) = true := by simpa using her
          have HER := Lib.hid her
          clear her
          go_wp2_with fail
          go_quiet (fail)
          go_wp2_with (first | (go_at_call 20; refine (fail_bad _ (HC3.out.drewN _) HER.out).mono ?_; rintro r w4 ⟨rfl, rfl⟩) | (go_at_call 21; refine (left_any (HC3.out.drewN _)).mono ?_; rintro r w6 ⟨rfl, mm, rfl⟩) | (go_at_call 22; refine (good_any (HC3.out.drewN _)).mono ?_; rintro r w7 ⟨rfl, rfl⟩))
          all_goals go_roundw
          all_goals first | (case rel => exact ⟨k + 1, p, er, by omega, by go_num, by go_num, rfl, HC3.out.drewN _, below_drewN' HK3.out _⟩) | (case measure => simp [intOf]; omega)
      · by_cases hd6 : dk < 0
        · go_wp2
          all_goals go_ret
          all_goals exact ⟨rfl, HK.out.alloc sr _⟩
        · have hd7 : 5 < dk := by omega
          go_wp2
          all_goals go_ret
          all_goals exact ⟨rfl, HK.out.alloc sr _⟩
    · by_cases her : er = 0
      · as_aux_lemma =>
          subst her
          by_cases hpl : p < bs.length
          all_goals
            go_wp2_with (go_at_call 23; refine (end_any HC.out).mono ?_; rintro r w6 ⟨rfl, mm, rfl⟩; first | rw [show endR bs p 0 = 2 from by simp [endR]; omega] | rw [show endR bs p 0 = 0 from by simp [endR]; omega])
            all_goals go_ret
            all_goals exact ⟨rfl, below_drewN' HK.out _⟩
      · have e1 : (er == 0) = false := by simpa using her
        have e2 : (er != 0) = true := by simpa using her
        have HEN := Lib.hid (show endR bs p er = er from by simp [endR, her])
        clear her
        go_wp2_with (go_at_call 23; refine (end_any HC.out).mono ?_; rintro r w6 ⟨rfl, mm, rfl⟩; rw [HEN.out])
        all_goals go_ret
        all_goals exact ⟨rfl, below_drewN' HK.out _⟩
end Go.Proofs.Ytdlpladdofjcfaa

