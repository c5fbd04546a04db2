/-
  Proved: HeapGets returns true for all bytes, every number and every sixteen bytes, and leaves what was there as it was. No condition.
-/
import Derived.Test.YtpainhgjiddpkaaHGet0
import Derived.Test.YtpainhgjiddpkaaHGet1
import Derived.Test.YtpainhgjiddpkaaHGet2
import Derived.Test.YtpainhgjiddpkaaViwO
import Derived.Test.YtpainhgjiddpkaaShell
namespace Go.Proofs.Ytpainhgjiddpkaa
set_option linter.unusedSimpArgs false
set_option linter.unusedVariables false
open Go.ChangeShapes Go.WideShapes Go.ChangeAt Go.RowKit
open Go.ChangeMaps (open_string shut_string)

theorem heapGets_walk {w : World} {A : Option Addr} {bs : List UInt8} {c : Nat} (h : Rd w 0 w.heap.size A c (bv bs)) (n : Int) (hn : (Lit.int .i64 n).wf = true) {v : List UInt8} (hv : v.length = 16) :
    Calls Try.prog 5 #[.slice A bs.length c, .int .i64 n, .agg (vb v)] w fun e w' => e = .returned (.bool true) ∧ Below w.heap.size w w' := by
  have hl := h.len
  have hc := h.cap
  rw [bv_length] at hl
  unfold maxLen at hc
  by_cases h1 : 3000 < bs.length
  · exact heapGets_g0 bs A c n v hv h1 (by omega)
  · by_cases h2 : n < 0
    · exact heapGets_g1 bs A c n v hv (by omega) h2
    · have hb : bs.length ≤ 3000 := by omega
      by_cases h5 : n = 0
      · subst h5
        by_cases hr : rightV v = true
        · rcases Nat.lt_or_ge 12 (lenV v) with hL | hL
          · rcases Nat.lt_or_ge (min ((bufV v + 1) * 65536) bs.length) (bufV v * 65536 + atV v + lenV v) with hf | hf
            · exact heapGets_far_zero bs A c v hv h hb trivial hr hL hf
            · by_cases h4 : (bs.drop (bufV v * 65536 + atV v)).take 4 = prefV v
              · exact heapGets_there_zero bs A c v hv h hb trivial hr hL hf h4
              · exact heapGets_other_zero bs A c v hv h hb trivial hr hL hf h4
          · exact heapGets_short_zero bs A c v hv h hb trivial hr hL
        · exact heapGets_wrong_zero bs A c v hv h hb trivial (by simpa using hr)
      · by_cases h6 : 65536 < n
        · skip
          by_cases hr : rightV v = true
          · rcases Nat.lt_or_ge 12 (lenV v) with hL | hL
            · rcases Nat.lt_or_ge (min ((bufV v + 1) * 65536) bs.length) (bufV v * 65536 + atV v + lenV v) with hf | hf
              · exact heapGets_far_great bs A c n v hv h hb h5 h2 h6 hr hL hf
              · by_cases h4 : (bs.drop (bufV v * 65536 + atV v)).take 4 = prefV v
                · exact heapGets_there_great bs A c n v hv h hb h5 h2 h6 hr hL hf h4
                · exact heapGets_other_great bs A c n v hv h hb h5 h2 h6 hr hL hf h4
            · exact heapGets_short_great bs A c n v hv h hb h5 h2 h6 hr hL
          · exact heapGets_wrong_great bs A c n v hv h hb h5 h2 h6 (by simpa using hr)
        · obtain ⟨s, rfl⟩ := Int.eq_ofNat_of_zero_le (show 0 ≤ n by omega)
          by_cases hr : rightV v = true
          · rcases Nat.lt_or_ge 12 (lenV v) with hL | hL
            · rcases Nat.lt_or_ge (min ((bufV v + 1) * s) bs.length) (bufV v * s + atV v + lenV v) with hf | hf
              · exact heapGets_far_mid bs A c s v hv h hb (by omega) (by omega) hr hL hf
              · by_cases h4 : (bs.drop (bufV v * s + atV v)).take 4 = prefV v
                · exact heapGets_there_mid bs A c s v hv h hb (by omega) (by omega) hr hL hf h4
                · exact heapGets_other_mid bs A c s v hv h hb (by omega) (by omega) hr hL hf h4
            · exact heapGets_short_mid bs A c s v hv h hb (by omega) (by omega) hr hL
          · exact heapGets_wrong_mid bs A c s v hv h hb (by omega) (by omega) (by simpa using hr)


set_option maxRecDepth 100000 in
theorem heapGets_lifted (os : Os) (started : os.Started) (H : Type) (enc : TypeId × Value → H) :
    ReturnsInHanded {} Try.checked os 5 .any (Rows.heapGetsSpec.pre6 enc Try.prog Try.f5 Rows.heapGetsRow.domain false) (Rows.heapGetsSpec.post enc Try.prog Try.f5 false true false false) := by
  refine returnsInHanded_of_change (C := Try.checked) own started (by kernel_rfl) Try.func5
    (ChangeSpec.witness6 (enc := enc) (C := Try.checked) false ⟨#[], #[.slice none 0 0, .int .i64 0, wit16], []⟩ 8 (by kernel_rfl) (by kernel_rfl) (by kernel_rfl) (by kernel_rfl)) ?_
  intro W base args ds gs before hval0 hW hcnd _
  have hval : ∀ (j : Nat) t v, Try.f5.params[j]? = some t → args[j]? = some v → Value.okWide Try.prog W .any base t v := hval0
  have hW' := hW
  obtain ⟨p, q, hA0, hV, rfl, hfz, hnd⟩ := hW
  have hA : DataW.TrodAll enc Try.prog W 0 (fun _ => true) true Try.f5.params.toList args.toList ds p := hA0
  have hA1 : DataW.TrodAll enc Try.prog W 0 (fun _ => true) true Try.f5.params.toList args.toList ds p := hA0
  rw [Try.params5] at hA hval
  obtain ⟨v0, vs0, d0, ds0, p0, q0, hargs, rfl, rfl, h0, r0⟩ := trodAll_cons hA
  obtain ⟨v1, vs1, d1, ds1, p1, q1, rfl, rfl, rfl, h1, r1⟩ := trodAll_cons r0
  obtain ⟨v2, vs2, d2, ds2, p2, q2, rfl, rfl, rfl, h2, r2⟩ := trodAll_cons r1
  obtain ⟨rfl, rfl, rfl⟩ := trodAll_nil r2
  obtain rfl : args = #[v0, v1, v2] := by cases args; simp_all
  obtain ⟨rfl, rfl⟩ := trodVars_none hV
  obtain ⟨A0, a0, c0, rfl, w0⟩ := open_bytes Try.underlying36 Try.underlying5 (by kernel_rfl) (hval 0 36 v0 rfl rfl) h0
  obtain ⟨a1, rfl, rfl, rfl, w1⟩ := open_int Try.underlying3 (hval 1 3 v1 rfl rfl) h1
  obtain ⟨A2, a2, c2, rfl, w2⟩ := open_view16 (hval 2 28 v2 rfl rfl) h2
  clear hA0 hval0
  refine (heapGets_walk (w := W) w0 a1 w1 w2).mono fun e W' ⟨he, bel⟩ => ?_
  subst he
  exact ⟨_, rfl, _, _, _, [], _, [], hW', trodAll_mk1 (shut_bool Try.underlying4 _), trodAll_below laidOut bel _ _ _ _ (by kernel_rfl) hA1, rfl, bel.frame _, fun h => by cases h⟩

theorem heapGets_over : Rows.heapGetsRow.holds Try.pinned (OpenSpec.ofChange Rows.heapGetsSpec) :=
  OpenClaim.holds_of_wide 5 Try.f5 rfl rfl rfl rfl rfl rfl rfl ⟨rfl, rfl, rfl, rfl, rfl⟩ rfl rfl rfl rfl rfl (by kernel_rfl) Try.func5 (by kernel_rfl)
    (of_decide_eq_true (by kernel_rfl)) (by unfold Func.isWrapper; first | (rw [if_pos (by decide +kernel)]; kernel_rfl) | (rw [if_neg (by decide +kernel)]; exact ⟨rfl, rfl⟩))
    (fun os started H enc _ => heapGets_lifted os started H enc)

/-- The statement. -/
theorem heapGets_proved : Rows.HeapGetsSaid := heapGets_over


end Go.Proofs.Ytpainhgjiddpkaa
