/-
  Each act: what the cursor answers and what the law reckons are the same, under one name.
-/
import Derived.Test.YtdlpladdofjcfaaStep
namespace Go.Proofs.Ytdlpladdofjcfaa
set_option linter.unusedSimpArgs false
set_option linter.unusedVariables false
open Go.RowKit

theorem Cur.drew {w : World} {lo g k : Nat} {bs : List UInt8} {e : Int} (h : Cur w lo g bs k e) : Cur w.drew lo g bs k e := h.drewN 1

/-- a taking that answers a number -/
def Act1 (K : Nat) (bs : List UInt8) (p : Nat) (e : Int) (num size : Nat) (f : Int) : Prop :=
  ∀ (W : World) (lo g : Nat), Cur W lo g bs p e → Calls Try.prog K #[.pointer (some ⟨g, 0, none⟩)] W fun r w' => r = .returned (.int .i64 (num : Int)) ∧ Cur w' lo g bs (p + size) f ∧ W.grownBy w' (some g)
def Act2 (bs : List UInt8) (mk : Int) (p : Nat) (e : Int) (num size : Nat) (f : Int) : Prop :=
  ∀ (W : World) (lo g : Nat), Cur W lo g bs p e → Calls Try.prog 18 #[.pointer (some ⟨g, 0, none⟩), .int .i64 mk] W fun r w' => r = .returned (.int .i64 (num : Int)) ∧ Cur w' lo g bs (p + size) f ∧ W.grownBy w' (some g)
def ActB (bs : List UInt8) (mk : Int) (p : Nat) (e : Int) (by_ : List UInt8) (size : Nat) (f : Int) : Prop :=
  ∀ (W : World) (lo g : Nat), Cur W lo g bs p e → Calls Try.prog 16 #[.pointer (some ⟨g, 0, none⟩), .int .i64 mk] W fun r w' => ∃ A c, r = .returned (.slice A by_.length c) ∧ Rd w' 0 w'.heap.size A c (bv by_) ∧ Cur w' lo g bs (p + size) f ∧ W.grownBy w' (some g)
def ActT (bs : List UInt8) (p : Nat) (e : Int) (by_ : List UInt8) (size : Nat) (f : Int) : Prop :=
  ∀ (W : World) (lo g : Nat), Cur W lo g bs p e → Calls Try.prog 19 #[.pointer (some ⟨g, 0, none⟩)] W fun r w' => r = .returned (.string ⟨by_.toArray⟩) ∧ Cur w' lo g bs (p + size) f ∧ W.grownBy w' (some g)
/-- the law's own reckoning -/
def StepAct (dk mk : Int) (bs : List UInt8) (p num : Nat) (by_ : List UInt8) (size : Nat) (f : Int) : Prop :=
  ∀ (W : World) (lo hi : Nat) (A : Option Addr) (c : Nat), Rd W lo hi A c (bv bs) → hi ≤ W.heap.size →
    Calls Try.prog 14 #[.slice A bs.length c, .int .i64 (p : Int), .agg #[.int .i64 dk, .int .i64 mk]] W (StepIs W lo hi num by_ size f)

variable {bs : List UInt8} {p : Nat}
theorem byteAct (mk : Int) (hp : p ≤ bs.length) : ∃ (num size : Nat) (f : Int), p + size ≤ bs.length ∧ StepAct 0 mk bs p num [] size f ∧ Act1 15 bs p 0 num size f := by
  obtain ⟨h1, h2⟩ := takeR_le bs p 0 0 1 (by omega)
  refine ⟨_, _, _, ?_, fun W lo hi A c h hh => step0 mk h hh hp, fun W lo g h => ?_⟩
  · omega
  · rw [show p + ((takeR bs p 0 0 1).2.1 - p) = (takeR bs p 0 0 1).2.1 from by omega]
    exact byte_any h
theorem byteBad {e : Int} (he : e ≠ 0) : Act1 15 bs p e 0 0 e := fun W lo g h => by
  have := byte_any h
  rw [takeR_err bs p e 0 1 he] at this
  exact this
theorem bytesAct (mk : Int) (hp : p ≤ bs.length) (hb : bs.length ≤ 2000) : ∃ (by_ : List UInt8) (size : Nat) (f : Int), p + size ≤ bs.length ∧ StepAct 1 mk bs p 0 by_ size f ∧ ActB bs mk p 0 by_ size f := by
  obtain ⟨h1, h2⟩ := takeR_le bs p 0 0 mk (by omega)
  refine ⟨_, _, _, ?_, fun W lo hi A c h hh => step1 mk h hh hp, fun W lo g h => ?_⟩
  · omega
  · rw [show p + ((takeR bs p 0 0 mk).2.1 - p) = (takeR bs p 0 0 mk).2.1 from by omega]
    refine (bytes_any mk h (by omega)).mono ?_
    rintro r w' ⟨A, c, rfl, ho, hc, hg⟩
    exact ⟨A, c, rfl, (Rd.own ho).wide (Nat.zero_le _) (Nat.le_refl _), hc, hg⟩
theorem bytesBad {e : Int} (mk : Int) (hb : bs.length ≤ 2000) (he : e ≠ 0) : ActB bs mk p e [] 0 e := fun W lo g h => by
  refine (bytes_any mk h (by omega)).mono ?_
  rw [takeR_err bs p e 0 mk he]
  rintro r w' ⟨A, c, rfl, ho, hc, hg⟩
  exact ⟨A, c, rfl, (Rd.own ho).wide (Nat.zero_le _) (Nat.le_refl _), hc, hg⟩
theorem peekR_bad (bs : List UInt8) (p : Nat) {e : Int} (most : Int) (he : e ≠ 0) : peekR bs p e most = (0, 0, e) := by simp [peekR, he]
theorem numberAct (mk : Int) (hp : p ≤ bs.length) : ∃ (num size : Nat) (f : Int), p + size ≤ bs.length ∧ StepAct 2 mk bs p num [] size f ∧ Act1 17 bs p 0 num size f := by
  have h1 := peekR_size bs p 0 9223372036854775807 hp
  refine ⟨_, _, _, ?_, fun W lo hi A c h hh => step2 mk h hh hp, fun W lo g h => ?_⟩
  · simp only [mostR]; omega
  · rw [show p + ((mostR bs p 0 9223372036854775807).2.1 - p) = (mostR bs p 0 9223372036854775807).2.1 from by simp only [mostR]; omega]
    exact number_any h
theorem numberBad {e : Int} (he : e ≠ 0) : Act1 17 bs p e 0 0 e := fun W lo g h => by
  have := number_any h
  rw [mostR, peekR_bad bs p _ he] at this
  exact this
theorem mostAct (mk : Int) (hp : p ≤ bs.length) : ∃ (num size : Nat) (f : Int), p + size ≤ bs.length ∧ StepAct 3 mk bs p num [] size f ∧ Act2 bs mk p 0 num size f := by
  have h1 := peekR_size bs p 0 mk hp
  refine ⟨_, _, _, ?_, fun W lo hi A c h hh => step3 mk h hh hp, fun W lo g h => ?_⟩
  · simp only [mostR]; omega
  · rw [show p + ((mostR bs p 0 mk).2.1 - p) = (mostR bs p 0 mk).2.1 from by simp only [mostR]; omega]
    exact most_any mk h
theorem mostBad {e : Int} (mk : Int) (he : e ≠ 0) : Act2 bs mk p e 0 0 e := fun W lo g h => by
  have := most_any mk h
  rw [mostR, peekR_bad bs p _ he] at this
  exact this
theorem textAct (mk : Int) (hp : p ≤ bs.length) : ∃ (by_ : List UInt8) (size : Nat) (f : Int), p + size ≤ bs.length ∧ StepAct 4 mk bs p 0 by_ size f ∧ ActT bs p 0 by_ size f := by
  have h0 := peekR_size bs p 0 4096 hp
  obtain ⟨h1, h2⟩ := takeR_le bs p (peekR bs p 0 4096).2.2 (peekR bs p 0 4096).2.1 ((peekR bs p 0 4096).1 : Int) h0
  refine ⟨_, _, _, ?_, fun W lo hi A c h hh => step4 mk h hh hp, fun W lo g h => ?_⟩
  · simp only [textR]; omega
  · rw [show p + ((textR bs p 0).2.1 - p) = (textR bs p 0).2.1 from by simp only [textR]; omega]
    exact text_any h
theorem textBad {e : Int} (he : e ≠ 0) : ActT bs p e [] 0 e := fun W lo g h => by
  have := text_any h
  rw [textR, peekR_bad bs p _ he, takeR_err bs p e _ _ he] at this
  exact this
end Go.Proofs.Ytdlpladdofjcfaa
