/-
  The walk of TextKeeps.
-/
import Derived.Test.YtbbpfehfceapbaaDoorTPts
import Derived.Test.YtbbpfehfceapbaaDoorRefZ
import Derived.Laws.OwnMore
namespace Go.Proofs.YtbbpfehfceapbaaDoor
set_option linter.unusedSimpArgs false
set_option linter.unusedVariables false
open Go.RowKit

theorem own_head {w : World} {B n c : Nat} {A : Option Addr} {xs : List Value} {e : TypeId} (h : w.ownsRow B e 1 (.slice A n c) n xs) (hn : 0 < n) : ∃ g, A = some ⟨g, 0, none⟩ ∧ B ≤ g ∧ g < w.heap.size := by
  rcases h.2 with ⟨_, h0⟩ | ⟨g, cap, cur, hv, hb, hg, _⟩
  · omega
  · injection hv with h1
    exact ⟨g, h1, hb, (Array.getElem?_eq_some_iff.1 hg).1⟩
theorem iv_at (ns : List Nat) (k : Nat) (h : k < ns.length) : (iv (ints ns))[k]? = some (.int .i64 (ns[k] : Int)) := by
  simp [iv, ints, List.getElem?_map, List.getElem?_eq_getElem h]

set_option maxRecDepth 20000 in
set_option maxHeartbeats 2000000 in
theorem textKeeps_walk {w : World} (s : ByteArray) (hT : Tabs w) :
    Calls Tryd.prog 8 #[.string s] w fun r w' => r = .returned (.bool true) ∧ Below w.heap.size w w' := by
  have HT := Lib.hid hT
  clear hT
  by_cases hs : 1000 < s.size
  · have is : (1000 : Int) < (s.size : Int) := by omega
    go_enter Tryd.func8, Tryd.ntmps8
    go_wp2_with fail
    refine (awake8_any HT.out).mono ?_
    rintro r w1 ⟨rfl, b1⟩
    have HB1 := Lib.hid b1
    clear b1
    go_wp2_with fail
    refine (awake8_any (HT.out.on HB1.out)).mono ?_
    rintro r w2 ⟨rfl, b2⟩
    go_wp2_with fail
    go_ret
    exact ⟨rfl, below_on HB1.out b2⟩
  · have is : ¬ (1000 : Int) < (s.size : Int) := by omega
    have hs6 : s.size ≤ 1000000 := by omega
    have hle := pts_le s.data.toList
    rw [size_toL] at hle
    have HP := Lib.hid (fun w => points_any (w := w) s hs6)
    have HPR := Lib.hid (fun w => points_rd (w := w) s hs6)
    have HRR := Lib.hid (fun w => refPoints_rd (w := w) s hs6)
    generalize ptsL s.data.toList = pk at *
    go_enter Tryd.func8, Tryd.ntmps8
    go_wp2_with fail
    refine (awake8_any HT.out).mono ?_
    rintro r w1 ⟨rfl, b1⟩
    have HB1 := Lib.hid b1
    clear b1
    go_wp2_with fail
    refine (HP.out _).mono ?_
    rintro r w2 ⟨A, c, rfl, ho2, b2⟩
    have HO2 := Lib.hid ho2
    have HB2 := Lib.hid (below_on HB1.out b2)
    have s1 := HB1.out.size
    have s2 := HB2.out.size
    clear b2 ho2
    go_wp2_with fail
    go_loopw [4] (fun x4 wr => ∃ (k : Nat) (xs : List Value), k ≤ pk.length ∧ x4 = .int .i64 (k : Int) ∧ wr.ownsRow w1.heap.size 3 1 (.slice A pk.length c) pk.length xs ∧ (∀ j, k ≤ j → xs[j]? = (iv (ints pk))[j]?) ∧ Below w.heap.size w wr) (fun i _ => pk.length - (intOf i).toNat)
    case atStart => exact ⟨0, _, Nat.zero_le _, rfl, HO2.out, fun _ _ => rfl, HB2.out⟩
    case round =>
      obtain ⟨k, xs, hk, rfl, hown, hxs, hb⟩ := hrel
      have HX := Lib.hid hxs
      have HB := Lib.hid hb
      have sr := hb.size
      clear hxs hb
      by_cases hlt : k < pk.length
      · have ik : (k : Int) < (pk.length : Int) := by omega
        obtain ⟨g, rfl, hg1, hg2⟩ := own_head hown (by omega)
        have hcell : wr.cell? ⟨g, k, none⟩ = some (.int .i64 (pk[k] : Int)) := by
          rw [hown.cellAt k (by omega), HX.out k (Nat.le_refl _), iv_at pk k hlt]
        have hfr := hown.frozenAt k
        have HS := fun u => Lib.hid (hown.stored k u)
        generalize pk[k] = x at *
        clear hown
        go_wp2_with fail
        go_roundw
        case rel =>
          refine ⟨k + 1, _, by omega, by go_num, (HS _).out.1, fun j hj => ?_, HB.out.setCell (p := ⟨g, k, none⟩) (by show w.heap.size ≤ g; omega) _⟩
          rw [List.getElem?_set_ne (by omega)]
          exact HX.out j (by omega)
        case measure => simp [intOf]; omega
      · have ik : ¬ (k : Int) < (pk.length : Int) := by omega
        clear hown
        go_wp2_with fail
        refine (HPR.out _).mono ?_
        rintro r w3 ⟨A3, c3, rfl, hr3, b3⟩
        have HR3 := Lib.hid hr3
        have HB3 := Lib.hid (HB.out.trans (b3.mono sr))
        clear b3 hr3
        go_wp2_with fail
        refine (HRR.out _).mono ?_
        rintro r w4 ⟨A4, c4, rfl, hr4, b4⟩
        have HR4 := Lib.hid hr4
        have HR3' := Lib.hid (rd_on HR3.out b4)
        have HB4 := Lib.hid (below_on HB3.out b4)
        clear b4 hr4
        go_wp2_with fail
        refine (ints_len _ _ true HR3'.out HR4.out (ints_length _) (ints_length _) (decide_eq_true rfl)).mono ?_
        rintro r w' ⟨rfl, q, rfl⟩
        go_wp2_with fail
        go_ret
        exact ⟨rfl, below_drewN' HB4.out q⟩
end Go.Proofs.YtbbpfehfceapbaaDoor
