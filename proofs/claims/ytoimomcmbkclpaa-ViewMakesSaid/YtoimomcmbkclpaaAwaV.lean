/-
  Layer 6's awake says true.
-/
import Derived.Test.YtoimomcmbkclpaaLawV
namespace Go.Proofs.Ytoimomcmbkclpaa
set_option linter.unusedSimpArgs false
set_option linter.unusedVariables false
open Go.RowKit

def abV : List UInt8 := [2, 0, 0, 0, 97, 98, 0, 0, 0, 0, 0, 0, 0, 0, 0, 0]
/-- the literal, as the walk writes it -/
def abW : Array Value := ((((((vb zero16).setIfInBounds 0 (.int .u8 2)).setIfInBounds 1 (.int .u8 0)).setIfInBounds 2 (.int .u8 0)).setIfInBounds 3 (.int .u8 0)).setIfInBounds 4 (.int .u8 97)).setIfInBounds 5 (.int .u8 98)
theorem abW_eq : abW = vb abV := by
  unfold abW abV vb zero16
  rfl
theorem run_eqV (w : World) (a b : List UInt8) (ha : a.length = 16) (hb : b.length = 16) : (Op.equalIn 10000 23 (.agg (vb a)) (.agg (vb b))).run Try.prog w = .ok (decide (a = b)) w :=
  run_equalIn_vb (P := Try.prog) w 9998 23 16 Try.underlying5 (by obtain ⟨i0, hi0, hz0, hz1, hz2⟩ := info_parts Try.infoU8; rw [hi0]; simp [hz1]) Try.underlying23 a b ha hb
theorem guardV : Try.prog.eqGuardType Try.prog.depth 23 = false := by kernel_rfl

set_option maxRecDepth 20000 in
set_option maxHeartbeats 1000000 in
theorem awake6_any (w : World) : Calls Try.prog 6 #[] w fun r w' => r = .returned (.bool true) ∧ Below w.heap.size w w' := by
  obtain ⟨hz, _⟩ := zero_of_info Try.infoV
  have h1 := fun w0 => make_any (w := w0) ⟨#[97, 98]⟩ 0 0 (by decide)
  have e1 : makeV ((⟨#[97, 98]⟩ : ByteArray).data.toList) 0 0 = (abV, 0) := by decide
  rw [e1] at h1
  have h2 := fun w0 => make_any (w := w0) ⟨#[116, 104, 105, 114, 116, 101, 101, 110, 32, 108, 111, 110, 103]⟩ (-1) 0 (by decide)
  have e2 : makeV ((⟨#[116, 104, 105, 114, 116, 101, 101, 110, 32, 108, 111, 110, 103]⟩ : ByteArray).data.toList) (-1) 0 = (zero16, 1) := by decide
  rw [e2] at h2
  have ha : abV.length = 16 := rfl
  have h3 := fun w0 => vlen_any (w := w0) abV ha
  rw [show lenV abV = 2 from rfl] at h3
  have h4 := fun w0 => vshort_any (w := w0) abV ha
  rw [show decide (lenV abV ≤ 12) = true from rfl] at h4
  have h5 := fun w0 => vtext_any (w := w0) abV ha
  rw [show (textV abV).toArray = #[97, 98] from rfl] at h5
  have h6 := fun w0 => vright_any (w := w0) abV ha
  rw [show rightV abV = true from by decide] at h6
  have heq : ∀ w0, (Op.equalIn 10000 23 (.agg (vb abV)) (.agg abW)).run Try.prog w0 = .ok true w0 := fun w0 => by
    rw [abW_eq, run_eqV w0 abV abV ha ha, decide_eq_true rfl]
  unfold abW at heq
  have hguard := guardV
  have H1 := Lib.hid h1
  have H2 := Lib.hid h2
  have H3 := Lib.hid h3
  have H4 := Lib.hid h4
  have H5 := Lib.hid h5
  have H6 := Lib.hid h6
  clear h1 h2 h3 h4 h5 h6 e1 e2
  generalize abV = v at *
  go_enter Try.func6, Try.ntmps6
  go_wp2_with fail
  refine (H1.out _).mono ?_
  rintro r w1 ⟨rfl, hb1⟩
  have HV0 := Lib.hid (Blk.new w1 23 (vb zero16))
  have HK0 := Lib.hid (below_below hb1 ((Below.refl w1.heap.size w1).alloc (Nat.le_refl _) (.cells (vb zero16) 23)) hb1.size)
  have HG := Lib.hid hb1.size
  clear hb1
  go_wp2_with (refine wpList_storeV HV0.out zero16_length ha rfl _ _ rfl rfl rfl ?_; refine held ?_)
  refine ⟨?_⟩
  have hv1 := setRowV_blk HV0.out (vb v)
  have hk1 := setRowV_below HK0.out HK0.out.size HG.out (vb v)
  generalize (w1.alloc (.cells (vb zero16) 23)).setRow w1.heap.size (vb v) = w2 at *
  generalize w1.heap.size = g at *
  have HV2 := Lib.hid hv1
  have HK2 := Lib.hid hk1
  clear hv1 hk1 HV0 HK0
  go_wp2_with fail
  refine (H2.out _).mono ?_
  rintro r w3 ⟨rfl, hb⟩
  have HV3 := Lib.hid (HV2.out.below hb HV2.out.lt)
  have HK3 := Lib.hid (below_below HK2.out hb HK2.out.size)
  clear hb
  have hq0 := Blk.new w3 23 (vb zero16)
  have hv4 : Blk (w3.alloc (.cells (vb zero16) 23)) g 23 (vb v) := HV3.out.alloc _
  have hk4 : Below w.heap.size w (w3.alloc (.cells (vb zero16) 23)) := HK3.out.alloc HK3.out.size _
  have hne : g ≠ w3.heap.size := Nat.ne_of_lt HV3.out.lt
  have hv5 := setRowV_far hv4 hne (vb zero16)
  have hk5 := setRowV_below hk4 hk4.size HK3.out.size (vb zero16)
  have HQ0 := Lib.hid hq0
  have HV4 := Lib.hid hv5
  have HK4 := Lib.hid hk5
  clear hq0 hv4 hk4 hne hv5 hk5
  go_wp2_with (refine wpList_storeV HQ0.out zero16_length zero16_length rfl _ _ rfl rfl rfl ?_; refine held ?_)
  refine ⟨?_⟩
  generalize (w3.alloc (.cells (vb zero16) 23)).setRow w3.heap.size (vb zero16) = w4 at *
  go_wp2_with (refine wpList_loadG HV4.out ha (by first | rfl | (go_simp; done)) _ rfl rfl ?_)
  refine (H3.out _).mono ?_
  rintro r w5 ⟨rfl, hb⟩
  have HV5 := Lib.hid (HV4.out.below hb HV4.out.lt)
  have HK5 := Lib.hid (below_below HK4.out hb HK4.out.size)
  clear hb
  go_wp2_with (refine wpList_loadG HV5.out ha (by first | rfl | (go_simp; done)) _ rfl rfl ?_)
  refine (H4.out _).mono ?_
  rintro r w6 ⟨rfl, hb⟩
  have HV6 := Lib.hid (HV5.out.below hb HV5.out.lt)
  have HK6 := Lib.hid (below_below HK5.out hb HK5.out.size)
  clear hb
  go_wp2_with (refine wpList_loadG HV6.out ha (by first | rfl | (go_simp; done)) _ rfl rfl ?_)
  refine (H5.out _).mono ?_
  rintro r w7 ⟨rfl, hb⟩
  have HV7 := Lib.hid (HV6.out.below hb HV6.out.lt)
  have HK7 := Lib.hid (below_below HK6.out hb HK6.out.size)
  clear hb
  go_wp2_with (refine wpList_loadG HV7.out ha (by first | rfl | (go_simp; done)) _ rfl rfl ?_)
  refine (H6.out _).mono ?_
  rintro r w8 ⟨rfl, hb⟩
  have HV8 := Lib.hid (HV7.out.below hb HV7.out.lt)
  have HK8 := Lib.hid (below_below HK7.out hb HK7.out.size)
  clear hb
  go_wp2_with fail
  go_ret
  exact ⟨rfl, HK8.out⟩

/-- append of bytes that read, where a region draws its order -/
theorem wp_append_bytes {o : Oper} {a : Act} {w : World} {K : Act → World → Prop} {Q : Exit → Act → World → Prop} {v : Value} (base : Nat) (ys bs cs : List UInt8) (hcs : ys ++ bs = cs) (s x : Operand)
    (ho : o.op = .call { callee := .builtin .append, args := #[s, x], argTypes := #[27, 27] }) (hty : o.type = 27) (hs : a.eval s = v) {A : Option Addr} {n c : Nat} (hn : bs.length = n) (hx : a.eval x = .slice A n c)
    (hown : w.ownsRow base 5 1 v ys.length (bv ys)) {lo h' : Nat} (hr : Rd w lo h' A c (bv bs)) (hb : ys.length + bs.length ≤ 140737488355328) (hbase : base ≤ w.heap.size)
    (h : ∀ A' c' w', w'.ownsRow base 5 1 (.slice A' cs.length c') cs.length (bv cs) → w.grownBy w' v.ownBlock → K (a.put o.dst (.slice A' cs.length c')) w') : o.wp Try.prog a w K Q := by
  subst hn
  obtain ⟨A', c', w', hrun, h2, h3⟩ := append_named w base v ys bs cs hcs hown hr hb hbase
  unfold Oper.wp execOp
  simp only [ho, hty, resolve, invoke, builtin, Sem.run_bind, Sem.run_pure, Result.andThen_ok, List.map_toArray, List.map_cons, List.map_nil, hs, hx, hrun]
  exact h A' c' w' h2 h3

end Go.Proofs.Ytoimomcmbkclpaa
