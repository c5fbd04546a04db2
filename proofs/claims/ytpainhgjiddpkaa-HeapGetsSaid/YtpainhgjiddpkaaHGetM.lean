/-
  What a view tells of in a heap that is made of bytes, in plain.
-/
import Derived.Test.YtpainhgjiddpkaaAwaH
import Derived.Test.YtpainhgjiddpkaaHepO
import Derived.IntWalk
namespace Go.Proofs.Ytpainhgjiddpkaa
set_option linter.unusedSimpArgs false
set_option linter.unusedVariables false
open Go.RowKit

theorem findL_of {bs v : List UInt8} {es : List Nat} {s : Nat} (hof : OfE s bs.length es) (hcov : bs.length ≤ es.length * s) (hr : rightV v = true) (hL : 12 < lenV v) :
    findL bs es v = if bufV v * s + atV v + lenV v ≤ min ((bufV v + 1) * s) bs.length ∧ (bs.drop (bufV v * s + atV v)).take 4 = prefV v then some ((bs.drop (bufV v * s + atV v)).take (lenV v)) else none := by
  unfold findL
  rw [if_pos hr, if_neg (by omega)]
  generalize bufV v = k
  generalize atV v = p
  generalize lenV v = n at *
  rw [Nat.succ_mul]
  by_cases hk : k < es.length
  · have h1 := hof.val k (by omega)
    have h2 := hof.val (k + 1) (by omega)
    have h3 := hof.mid k hk
    have hb : bufL bs es k = (bs.drop (k * s)).take (min (k * s + s) bs.length - k * s) := by
      unfold bufL
      have h1' : ed es k = k * s := by omega
      rw [if_pos hk, h1', h2, Nat.succ_mul]
    rw [hb]
    generalize k * s = q at *
    obtain ⟨e, he⟩ : ∃ e, min (q + s) bs.length = e := ⟨_, rfl⟩
    rw [he]
    have hl : ((bs.drop q).take (e - q)).length = e - q := by rw [List.length_take, List.length_drop]; omega
    rw [hl]
    by_cases hc : q + p + n ≤ e
    · have hp : (((bs.drop q).take (e - q)).drop p).take n = (bs.drop (q + p)).take n := by
        rw [List.drop_take, List.take_take, List.drop_drop, Nat.min_eq_left (by omega)]
      rw [hp, List.take_take, Nat.min_eq_left (by omega)]
      by_cases h4 : (bs.drop (q + p)).take 4 = prefV v
      · rw [if_pos ⟨by omega, h4⟩, if_pos ⟨hc, h4⟩]
      · rw [if_neg (fun h => h4 h.2), if_neg (fun h => h4 h.2)]
    · rw [if_neg (fun h => hc (by have := h.1; omega)), if_neg (fun h => hc h.1)]
  · have hb : bufL bs es k = [] := by unfold bufL; rw [if_neg hk]
    have hm : es.length * s ≤ k * s := Nat.mul_le_mul_right s (by omega)
    rw [hb, if_neg (fun h => by have := h.1; simp at this; omega), if_neg (fun h => by have := h.1; omega)]
theorem rightV_says {v : List UInt8} (hr : rightV v = true) (hL : 12 < lenV v) : lenV v ≤ 4096 ∧ bufV v ≤ 65535 ∧ atV v ≤ 65536 := by
  unfold rightV at hr
  rw [if_neg (by omega)] at hr
  simpa using hr
theorem gotL_some {bs v x : List UInt8} {es : List Nat} (h : findL bs es v = some x) : gotL bs es v = x := by unfold gotL; rw [h]; rfl
theorem gotL_none {bs v : List UInt8} {es : List Nat} (h : findL bs es v = none) : gotL bs es v = [] := by unfold gotL; rw [h]; rfl
theorem str_inj {a b : ByteArray} (h : a.toList = b.toList) : a = b := by
  rw [ByteArray.toList_eq, ByteArray.toList_eq] at h
  obtain ⟨⟨x⟩⟩ := a
  obtain ⟨⟨y⟩⟩ := b
  have h2 : x = y := h
  rw [h2]
end Go.Proofs.Ytpainhgjiddpkaa
