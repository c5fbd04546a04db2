/-
  The cursor's Byte.
-/
import Derived.Test.YtfekdbdkcfhkiaaCurG
namespace Go.Proofs.Ytfekdbdkcfhkiaa
set_option linter.unusedSimpArgs false
set_option linter.unusedVariables false
open Go.RowKit

/-- Byte: the first byte taken, or 0 -/
theorem byte_any {w : World} {lo g k : Nat} {bs : List UInt8} {e : Int} (h : Cur w lo g bs k e) :
    Calls Try.prog 28 #[cp g] w fun r w' => r = .returned (.int .i64 (((takeR bs k e 0 1).1.headD 0).toNat : Int)) ∧
      Cur w' lo g bs (takeR bs k e 0 1).2.1 (takeR bs k e 0 1).2.2 ∧ w.grownBy w' (some g) := by
  have hk := h.le
  have HT := Lib.hid (take_any 0 1 h (by omega))
  have h1 := takeR_one bs k e
  clear h
  generalize takeR bs k e 0 1 = T at *
  obtain ⟨l, k', e'⟩ := T
  simp only [] at *
  rcases l with _ | ⟨x, r⟩
  · go_enter Try.func28, Try.ntmps28
    go_wp2_with fail
    refine HT.out.mono ?_
    rintro r w1 ⟨A, c, rfl, hrd, hc1, hg1⟩
    have HC := Lib.hid hc1
    clear hc1 hrd
    go_wp2_with fail
    go_ret
    exact ⟨rfl, HC.out, hg1⟩
  · have hr : r = [] := by simp at h1; exact h1
    subst hr
    have hx : x.toNat < 256 := UInt8.toNat_lt _
    go_enter Try.func28, Try.ntmps28
    go_wp2_with fail
    refine HT.out.mono ?_
    rintro r w1 ⟨A, c, rfl, hrd, hc1, hg1⟩
    have HC := Lib.hid hc1
    obtain ⟨b, off, rfl, _, _, hcell⟩ := hrd.get (k := 0) (by simp [bv])
    rw [Nat.add_zero] at hcell
    have hcell' : w1.cell? ⟨b, off, none⟩ = some (.int .u8 (x.toNat : Int)) := hcell
    have HG := Lib.hid hg1
    clear hc1 hrd hcell h1 hg1
    go_wp2
    go_ret
    exact ⟨rfl, HC.out, HG.out⟩

end Go.Proofs.Ytfekdbdkcfhkiaa
