/-
  The document's Train of layer 12: so many rounds, from the empty table on.
-/
import Derived.Test.YtpollebfehdnjaaTrR
namespace Go.Proofs.Ytpollebfehdnjaa
set_option linter.unusedSimpArgs false
set_option linter.unusedVariables false
open Go.RowKit

/-- trained in so many rounds -/
def Trained (S : List (List UInt8)) : Nat → List (List UInt8) → Prop
  | 0, t => t = []
  | k + 1, t => ∃ u, Trained S k u ∧ IsRound (bagL u S) t
theorem Trained.one {S : List (List UInt8)} : ∀ {k : Nat} {t u : List (List UInt8)}, Trained S k t → Trained S k u → t = u
  | 0, _, _, h1, h2 => h1.trans h2.symm
  | _ + 1, _, _, ⟨a, h1, h2⟩, ⟨b, k1, k2⟩ => by
    obtain rfl := Trained.one h1 k1
    exact h2.one k2
theorem IsRound.ok {P t : List (List UInt8)} (h : IsRound P t) : ∀ x ∈ t, okS x = true := by
  obtain ⟨b, _, h2⟩ := h
  exact fun x hx => (h2.of x hx).2
theorem IsRound.few {P t : List (List UInt8)} (h : IsRound P t) : t.length ≤ 255 := by
  obtain ⟨b, _, h2⟩ := h
  exact h2.few
theorem Trained.ok {S : List (List UInt8)} : ∀ {k : Nat} {t : List (List UInt8)}, Trained S k t → (∀ x ∈ t, okS x = true) ∧ t.length ≤ 255
  | 0, t, h => by
    obtain rfl : t = [] := h
    exact ⟨fun x hx => absurd hx List.not_mem_nil, Nat.zero_le _⟩
  | k + 1, t, ⟨u, _, h⟩ => ⟨h.ok, h.few⟩
theorem bytL2_strsL (l : List (List UInt8)) : bytL2 (strsL l) = l := by
  unfold bytL2 strsL
  rw [List.map_map]
  conv => rhs; rw [← List.map_id l]
  exact List.map_congr_left fun x _ => by simp
/-- how many rounds there are -/
def roundsN (N : Int) : Nat := if 8 ≤ N then 8 else N.toNat

set_option maxRecDepth 20000 in
set_option maxHeartbeats 1000000 in
theorem refTrain_any {w : World} (S : List ByteArray) (N : Int) {d : Nat} {B : Option Addr} (hS : Rd w 0 w.heap.size B d (sv S)) (hSl : S.length ≤ 100) (hSb : ∀ s ∈ S, s.size ≤ 100000) (hbag : ∀ T, (bagL T (bytL2 S)).length ≤ 5000) :
    Calls Try.prog 19 #[.slice B S.length d, .int .i64 N] w fun r w' => ∃ t A' c', r = .returned (.slice A' t.length c') ∧ Trained (bytL2 S) (roundsN N) t ∧ w'.ownsRow w.heap.size 9 1 (.slice A' t.length c') t.length (sv (strsL t)) ∧ Below w.heap.size w w' := by
  have HS := Lib.hid hS
  have HBG := Lib.hid hbag
  have HSB := Lib.hid hSb
  clear hS hbag hSb
  go_enter Try.func19, Try.ntmps19
  go_wp2_with fail
  go_loopw [5, 6] (fun x5 x6 wr => ∃ (i : Nat) (t : List (List UInt8)) (A' : Option Addr) (c' : Nat), i ≤ roundsN N ∧ x6 = .int .i64 (i : Int) ∧ x5 = .slice A' t.length c' ∧ Trained (bytL2 S) i t ∧ wr.ownsRow w.heap.size 9 1 (.slice A' t.length c') t.length (sv (strsL t)) ∧ Below w.heap.size w wr) (fun _ x6 _ => 8 - (intOf x6).toNat)
  case atStart => exact ⟨0, [], none, 0, Nat.zero_le _, rfl, rfl, rfl, World.ownsRow_nil _ _ _ _, Below.refl _ _⟩
  case round =>
    obtain ⟨i, t, A', c', hi, rfl, rfl, htr, hown, hb⟩ := hrel
    have HT := Lib.hid htr
    have HO := Lib.hid hown
    have HB := Lib.hid hb
    have hsz := hb.size
    clear htr hown hb
    unfold roundsN at hi
    by_cases hN : (i : Int) < N
    · by_cases h8 : (i : Int) < 8
      · have hgo : i + 1 ≤ roundsN N := by unfold roundsN; split <;> omega
        have hr1 := rd_own HO.out
        have hok := HT.out.ok
        have hbt := bytL2_strsL t
        have hsl := strsL_length t
        have HRN := Lib.hid (refRound_any (w := wr) (strsL t) S (c := c') (d := d) (A := A') (B := B) (by exact hr1.wide (Nat.zero_le _) (Nat.le_refl _)) ((HS.out.below HB.out (Nat.le_refl _)).wide (Nat.le_refl _) hsz) (by rw [hbt]; exact hok.1) (by rw [hsl]; exact hok.2) hSl HSB.out (HBG.out _))
        rw [hbt, hsl] at HRN
        clear hr1 hok hbt hsl hi
        go_wp2_with fail
        refine HRN.out.mono ?_
        rintro r w2 ⟨u, A2, c2, rfl, hrd, ho2, hb2⟩
        have HT2 : Hid (Trained (bytL2 S) (i + 1) u) := ⟨t, HT.out, hrd⟩
        have HO2 := Lib.hid (own_base ho2 hsz)
        have HB2 : Hid (Below w.heap.size w w2) := HB.out.trans (hb2.mono hsz)
        clear hrd ho2 hb2
        go_wp2_with fail
        go_roundw
        case rel => exact ⟨i + 1, u, A2, c2, hgo, by go_num, rfl, HT2.out, HO2.out, HB2.out⟩
        case measure => simp [intOf] <;> omega
      · have hfin : Hid (i = roundsN N) := by unfold Hid roundsN; split at hi <;> (split <;> omega)
        go_wp2_with fail
        go_ret
        exact ⟨t, A', c', rfl, by rw [← hfin.out]; exact HT.out, HO.out, HB.out⟩
    · have hfin : Hid (i = roundsN N) := by unfold Hid roundsN; split at hi <;> (split <;> omega)
      go_wp2_with fail
      go_ret
      exact ⟨t, A', c', rfl, by rw [← hfin.out]; exact HT.out, HO.out, HB.out⟩
end Go.Proofs.Ytpollebfehdnjaa
