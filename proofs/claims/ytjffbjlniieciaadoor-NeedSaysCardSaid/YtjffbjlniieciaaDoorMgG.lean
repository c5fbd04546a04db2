/-
  New blocks in a region that draws its order: empty literals and literals of one cell, in whichever order. No program is named here.
  gram in plain: the grams of strings; numbers that rise, each once.
  The document's put of layer 15: a number put into a list that rises, if it isn't there.
  The document's All of layer 15: the grams of strings.
  The document's Has, May, Same, Few of layer 15.
  The document's May, Same, Few of layer 15.
  The document's Make of layer 15.
-/
import Derived.Test.YtjffbjlniieciaaDoorMem
import Derived.Test.YtjffbjlniieciaaDoorIvM
import Derived.Test.YtjffbjlniieciaaDoorIntA
import Derived.Test.YtjffbjlniieciaaDoorOutM
import Derived.Deep.RegionLaw
import Derived.BigQuiet
import Derived.Deep.QuietTactic
import Derived.Lib.Hide
import Derived.Test.YtjffbjlniieciaaDoorStrM
import Derived.Lib.Strings
import Derived.Deep.RegionHeld3
import Derived.Test.YtjffbjlniieciaaDoorLvM
import Derived.Test.YtjffbjlniieciaaDoorBoolB
namespace Go.Proofs.YtjffbjlniieciaaDoor
set_option linter.unusedSimpArgs false
set_option linter.unusedVariables false

theorem own_none' (w : World) (t : TypeId) : (w.alloc (.cells #[] t)).ownsRow w.heap.size t 1 (.slice (some ⟨w.heap.size, 0, none⟩) 0 0) 0 [] := by
  have := World.ownsRow_lit (e := t) (size := 1) (base := w.heap.size) w #[] 0 (Nat.le_refl _) (by simp [maxLen]) (by simp)
  exact this
theorem cell_new (w : World) (t : TypeId) (v : Value) : (w.alloc (.cells #[v] t)).cell? ⟨w.heap.size, 0, none⟩ = some v := by rw [World.cell?_alloc_at _ _ _ _ rfl]; rfl
theorem own_none2 (w : World) (o : Obj) (t : TypeId) : ((w.alloc o).alloc (.cells #[] t)).ownsRow w.heap.size t 1 (.slice (some ⟨w.heap.size + 1, 0, none⟩) 0 0) 0 [] := by
  have h := own_none' (w.alloc o) t
  rw [World.size_alloc] at h
  exact own_base h (Nat.le_succ _)
theorem cell_after (w : World) (t t' : TypeId) (v : Value) : ((w.alloc (.cells #[] t')).alloc (.cells #[v] t)).cell? ⟨w.heap.size + 1, 0, none⟩ = some v := by
  have h := cell_new (w.alloc (.cells #[] t')) t v
  rw [World.size_alloc] at h
  exact h
theorem cell_before (w : World) (t t' : TypeId) (v : Value) : ((w.alloc (.cells #[v] t)).alloc (.cells #[] t')).cell? ⟨w.heap.size, 0, none⟩ = some v :=
  (World.cell?_alloc_lt (w.alloc (.cells #[v] t)) _ _ (by rw [World.size_alloc]; exact Nat.lt_succ_self _)).trans (cell_new w t v)
theorem cell_grown {w w' : World} {row : Option Nat} {g : Nat} {v : Value} (hg : w.grownBy w' row) (hc : w.cell? ⟨g, 0, none⟩ = some v) (hne : some g ≠ row) : w'.cell? ⟨g, 0, none⟩ = some v :=
  (World.cell?_of_block (hg.block g (World.block_lt_of_cell? w _ hc) hne)).trans hc
end Go.Proofs.YtjffbjlniieciaaDoor
namespace Go.Proofs.YtjffbjlniieciaaDoor
set_option linter.unusedSimpArgs false
set_option linter.unusedVariables false

/-- three bytes as a number -/
def gramN (a b c : UInt8) : Nat := 65536 * a.toNat + 256 * b.toNat + c.toNat
theorem gramN_lt (a b c : UInt8) : gramN a b c < 16777216 := by
  have h1 := UInt8.toNat_lt a
  have h2 := UInt8.toNat_lt b
  have h3 := UInt8.toNat_lt c
  unfold gramN
  omega
theorem gramN_inj {a b c a' b' c' : UInt8} (h : gramN a b c = gramN a' b' c') : a = a' ∧ b = b' ∧ c = c' := by
  have h1 := UInt8.toNat_lt a
  have h2 := UInt8.toNat_lt b
  have h3 := UInt8.toNat_lt c
  have h4 := UInt8.toNat_lt a'
  have h5 := UInt8.toNat_lt b'
  have h6 := UInt8.toNat_lt c'
  unfold gramN at h
  exact ⟨UInt8.toNat_inj.1 (by omega), UInt8.toNat_inj.1 (by omega), UInt8.toNat_inj.1 (by omega)⟩
/-- the grams of a string, as they stand -/
def gramsL (s : List UInt8) : List Nat := (List.range (s.length - 2)).map fun k => gramN (s.getD k 0) (s.getD (k + 1) 0) (s.getD (k + 2) 0)
theorem gramsL_length (s : List UInt8) : (gramsL s).length = s.length - 2 := by simp [gramsL]
theorem gramsL_get (s : List UInt8) (k : Nat) (h : k < s.length - 2) : (gramsL s)[k]'(by rw [gramsL_length]; exact h) = gramN (s[k]'(by omega)) (s[k + 1]'(by omega)) (s[k + 2]'(by omega)) := by
  simp [gramsL, List.getD, List.getElem?_eq_getElem (show k < s.length by omega), List.getElem?_eq_getElem (show k + 1 < s.length by omega), List.getElem?_eq_getElem (show k + 2 < s.length by omega)]
theorem mem_gramsL {s : List UInt8} {g : Nat} : g ∈ gramsL s ↔ ∃ k, ∃ (h : k + 2 < s.length), g = gramN s[k] s[k + 1] s[k + 2] := by
  constructor
  · intro h
    obtain ⟨k, hk, rfl⟩ := List.getElem_of_mem h
    rw [gramsL_length] at hk
    exact ⟨k, by omega, gramsL_get s k hk⟩
  · rintro ⟨k, h, rfl⟩
    rw [← gramsL_get s k (by omega)]
    exact List.getElem_mem _
theorem gramsL_lt {s : List UInt8} {g : Nat} (h : g ∈ gramsL s) : g < 16777216 := by
  obtain ⟨k, hk, rfl⟩ := mem_gramsL.1 h
  exact gramN_lt _ _ _
/-- the grams of strings, as they stand -/
def allL (l : List (List UInt8)) : List Nat := l.flatMap gramsL
/-- these numbers, rising, each once -/
structure Rise (L t : List Nat) : Prop where
  up : t.Pairwise (· < ·)
  mem : ∀ x, x ∈ t ↔ x ∈ L
theorem Rise.nil : Rise [] [] := ⟨List.Pairwise.nil, fun _ => Iff.rfl⟩
theorem up_one : ∀ {t u : List Nat}, t.Pairwise (· < ·) → u.Pairwise (· < ·) → (∀ x, x ∈ t ↔ x ∈ u) → t = u
  | [], [], _, _, _ => rfl
  | [], b :: u, _, _, h => absurd ((h b).2 List.mem_cons_self) List.not_mem_nil
  | a :: t, [], _, _, h => absurd ((h a).1 List.mem_cons_self) List.not_mem_nil
  | a :: t, b :: u, h1, h2, h => by
    have ha := List.pairwise_cons.1 h1
    have hb := List.pairwise_cons.1 h2
    have hab : a = b := by
      rcases List.mem_cons.1 ((h a).1 List.mem_cons_self) with e | e
      · exact e
      · rcases List.mem_cons.1 ((h b).2 List.mem_cons_self) with e2 | e2
        · exact e2.symm
        · have := ha.1 b e2
          have := hb.1 a e
          omega
    subst hab
    rw [up_one ha.2 hb.2 fun x => ⟨fun hx => ?_, fun hx => ?_⟩]
    · rcases List.mem_cons.1 ((h x).1 (List.mem_cons_of_mem _ hx)) with e | e
      · have := ha.1 x hx; omega
      · exact e
    · rcases List.mem_cons.1 ((h x).2 (List.mem_cons_of_mem _ hx)) with e | e
      · have := hb.1 x hx; omega
      · exact e
theorem Rise.one {L t u : List Nat} (h : Rise L t) (k : Rise L u) : t = u := up_one h.up k.up fun x => (h.mem x).trans (k.mem x).symm
theorem Rise.same {L M t : List Nat} (h : Rise L t) (hm : ∀ x, x ∈ L ↔ x ∈ M) : Rise M t := ⟨h.up, fun x => (h.mem x).trans (hm x)⟩
/-- a number that is there -/
theorem Rise.there {L t : List Nat} {g : Nat} (h : Rise L t) (hg : g ∈ t) : Rise (L ++ [g]) t := ⟨h.up, fun x => by
  rw [List.mem_append, List.mem_singleton]
  exact ⟨fun hx => .inl ((h.mem x).1 hx), fun hx => hx.elim (h.mem x).2 fun e => e ▸ hg⟩⟩
/-- a number put at its place -/
theorem Rise.put {L t : List Nat} {g k : Nat} (h : Rise L t) (h1 : ∀ j (hj : j < t.length), j < k → t[j] < g) (h2 : ∀ hk : k < t.length, g < t[k]) : Rise (L ++ [g]) (t.take k ++ g :: t.drop k) := by
  have hup := h.up
  rw [← List.take_append_drop k t] at hup
  obtain ⟨p1, p2, p3⟩ := List.pairwise_append.1 hup
  have hl : ∀ x ∈ t.take k, x < g := fun x hx => by
    obtain ⟨j, hj, rfl⟩ := List.getElem_of_mem hx
    rw [List.length_take] at hj
    rw [List.getElem_take]
    exact h1 j (by omega) (by omega)
  have hr : ∀ x ∈ t.drop k, g < x := fun x hx => by
    obtain ⟨j, hj, rfl⟩ := List.getElem_of_mem hx
    rw [List.length_drop] at hj
    rw [List.getElem_drop]
    have hk : k < t.length := by omega
    have h3 := h2 hk
    rcases Nat.eq_zero_or_pos j with e | e
    · subst e; exact h3
    · have := List.pairwise_iff_getElem.1 h.up k (k + j) hk (by omega) (by omega)
      omega
  refine ⟨List.pairwise_append.2 ⟨p1, List.pairwise_cons.2 ⟨hr, p2⟩, fun a ha b hb => ?_⟩, fun x => ?_⟩
  · rcases List.mem_cons.1 hb with rfl | hb
    · exact hl a ha
    · exact p3 a ha b hb
  · rw [List.mem_append, List.mem_cons, List.mem_append, List.mem_singleton, ← h.mem x]
    conv => rhs; rw [← List.take_append_drop k t, List.mem_append]
    constructor
    · rintro (h | h | h)
      · exact .inl (.inl h)
      · exact .inr h
      · exact .inl (.inr h)
    · rintro ((h | h) | h)
      · exact .inl h
      · exact .inr (.inr h)
      · exact .inr (.inl h)
theorem Rise.len {L t : List Nat} (h : Rise L t) : t.length ≤ L.length := by
  have hn : t.Nodup := h.up.imp fun {a b} hab => by omega
  exact List.Nodup.length_le_of_subset hn fun x hx => (h.mem x).1 hx
/-- the bit of a gram -/
def bitG (g bits : Nat) : Nat := g * 40503 % 65521 % bits
end Go.Proofs.YtjffbjlniieciaaDoor
namespace Go.Proofs.YtjffbjlniieciaaDoor
set_option linter.unusedSimpArgs false
set_option linter.unusedVariables false
open Go.RowKit

/-- append of whole numbers, as one step of a region that draws its order -/
theorem step_append_nums {ops : Array Oper} {o : Oper} {a : Act} {w : World} {K : Act → World → Prop} {Q : Exit → Act → World → Prop} {F : Prop} {v : Value} (base : Nat) (ys zs us : List Int) (hus : ys ++ zs = us) (n m p : Nat) (hn : ys.length = n) (hm : zs.length = m) (hp : us.length = p) (hgd : o.guard = none) (s x : Operand)
    (ho : o.op = .call { callee := .builtin .append, args := #[s, x], argTypes := #[44, 44] }) (hty : o.type = 44)
    (hs : a.eval s = v) {A : Option Addr} {c : Nat} (hx : a.eval x = .slice A m c)
    (hown : w.ownsRow base 3 1 v n (iv ys)) {lo h' : Nat} (hr : Rd w lo h' A c (iv zs)) (hb : n + m ≤ 1000000000) (hbase : base ≤ w.heap.size)
    (h : ∀ A' c' w', w'.ownsRow base 3 1 (.slice A' p c') p (iv us) → w.grownBy w' v.ownBlock → K (a.put o.dst (.slice A' p c')) w') :
    if Region.wanted o (yielded ops a.tmps) = true then Oper.wp Tryd.prog o a w K Q else F := by
  subst hn hm hp
  have hw : Region.wanted o (yielded ops a.tmps) = true := by simp [Region.wanted, hgd]
  rw [if_pos hw]
  obtain ⟨A', c', w', hrun, h2, h3⟩ := append_nums w base v ys zs us hus hown hr (by omega) hbase
  unfold Oper.wp execOp
  simp only [ho, hty, resolve, invoke, builtin, Sem.run_bind, Sem.run_pure, Result.andThen_ok, List.map_toArray, List.map_cons, List.map_nil, hs, hx, hrun]
  exact h A' c' w' h2 h3
/-- one number that a block holds -/
theorem rd_num1 {w : World} {g : Nat} {z : Int} (h : w.cell? ⟨g, 0, none⟩ = some (.int .i64 z)) : Rd w 0 w.heap.size (some ⟨g, 0, none⟩) 1 (iv [z]) := ⟨by simp [iv], by simp [maxLen], fun _ => ⟨g, 0, rfl, Nat.zero_le _, World.block_lt_of_cell? w _ h, fun j u hu => by
    match j, hu with
    | 0, hu =>
      simp [iv] at hu
      subst hu
      exact h
    | j + 1, hu => simp [iv] at hu⟩⟩
theorem ints_app (a b : List Nat) : ints (a ++ b) = ints a ++ ints b := by simp [ints]
theorem ints_take (l : List Nat) (k : Nat) : ints (l.take k) = (ints l).take k := by simp [ints, List.map_take]
theorem ints_drop (l : List Nat) (k : Nat) : ints (l.drop k) = (ints l).drop k := by simp [ints, List.map_drop]
theorem iv_drop (l : List Int) (k : Nat) : iv (l.drop k) = (iv l).drop k := by simp [iv, List.map_drop]
theorem ints_get (l : List Nat) (k : Nat) (h : k < l.length) : (ints l)[k]'(by rw [ints_length]; exact h) = ((l[k] : Nat) : Int) := by simp [ints]
theorem Rd.nat {w : World} {lo hi c : Nat} {A : Option Addr} {l : List Nat} (h : Rd w lo hi A c (iv (ints l))) {k : Nat} (hk : k < l.length) :
    ∃ b off, A = some ⟨b, off, none⟩ ∧ lo ≤ b ∧ b < hi ∧ w.cell? ⟨b, off + k, none⟩ = some (.int .i64 ((l[k] : Nat) : Int)) := by
  obtain ⟨b, off, h1, h2, h3, h4⟩ := h.num (k := k) (by rw [ints_length]; exact hk)
  rw [ints_get l k hk] at h4
  exact ⟨b, off, h1, h2, h3, h4⟩

set_option maxRecDepth 20000 in
set_option maxHeartbeats 4000000 in
theorem putg_any {w : World} (L t : List Nat) (g : Nat) {lo c : Nat} {A : Option Addr} (h : Rd w lo w.heap.size A c (iv (ints t))) (hlo : lo ≤ w.heap.size) (hs : Rise L t) (hlen : t.length ≤ 100000000) :
    Calls Tryd.prog 63 #[.slice A t.length c, .int .i64 (g : Int)] w fun r w' => ∃ (u : List Nat) (A' : Option Addr) (c' : Nat), r = .returned (.slice A' u.length c') ∧ Rise (L ++ [g]) u ∧
      Rd w' lo w'.heap.size A' c' (iv (ints u)) ∧ Below w.heap.size w w' := by
  have hl := h.len
  have hm := h.cap
  rw [iv_length, ints_length] at hl
  unfold maxLen at hm
  have H := Lib.hid h
  have HS := Lib.hid hs
  clear h hs
  go_enter Tryd.func63, Tryd.ntmps63
  go_wp2_with fail
  go_loopw [5] (fun x5 wv => ∃ (k m : Nat), k ≤ t.length ∧ x5 = .int .i64 (k : Int) ∧ (∀ j (hj : j < t.length), j < k → t[j] < g) ∧ wv = w.drewN m) (fun x5 _ => t.length - (intOf x5).toNat)
  case atStart => exact ⟨0, 0, Nat.zero_le _, rfl, fun j _ h => absurd h (Nat.not_lt_zero j), rfl⟩
  case round =>
    obtain ⟨k, m, hk, rfl, hal, rfl⟩ := hrel
    have HAL := Lib.hid hal
    clear hal
    by_cases hkt : k < t.length
    · have ikt : (k : Int) < (t.length : Int) := by omega
      have dkt : decide (k < t.length) = true := decide_eq_true hkt
      obtain ⟨b2, off2, rfl, _, _, hcell⟩ := H.out.nat hkt
      have hcell2 : (w.drewN m).cell? ⟨b2, off2 + k, none⟩ = some (.int .i64 ((t[k] : Nat) : Int)) := hcell
      have HNX : Hid (t[k] < g → ∀ j (hj : j < t.length), j < k + 1 → t[j] < g) := fun h j hj hjk => by
        rcases Nat.lt_or_ge j k with h2 | h2
        · exact HAL.out j hj h2
        · have : j = k := by omega
          subst this
          exact h
      obtain ⟨z, hz⟩ : ∃ z, t[k] = z := ⟨_, rfl⟩
      have HZ := Lib.hid hz
      rw [hz] at hcell hcell2 HNX
      clear hz
      by_cases hzg : z < g
      · have dz : decide (z < g) = true := decide_eq_true hzg
        have dz2 : decide ((z : Int) < (g : Int)) = true := decide_eq_true (by omega)
        have HN2 := Lib.hid (HNX.out hzg)
        go_wp2_with fail
        go_roundw
        case rel => exact ⟨k + 1, _, by omega, by go_num, HN2.out, by first | rfl | (rw [World.drewN_drewN])⟩
        case measure => simp [intOf] <;> omega
      · have dz : decide (z < g) = false := decide_eq_false hzg
        have dz2 : decide ((z : Int) < (g : Int)) = false := decide_eq_false (by omega)
        by_cases hze : z = g
        · have HRS : Hid (Rise (L ++ [g]) t) := HS.out.there (by rw [← hze, ← HZ.out]; exact List.getElem_mem hkt)
          have e1 : ((z : Int) == (g : Int)) = true := by rw [hze]; exact beq_self_eq_true _
          have e2 : (z : Int) = (g : Int) := by omega
          have HH : Hid (Rd (w.drewN m) lo (w.drewN m).heap.size (some ⟨b2, off2, none⟩) c (iv (ints t))) := H.out.drewN m
          clear hze
          go_wp2_with fail
          go_ret
          exact ⟨t, _, c, rfl, HRS.out, HH.out, below_drewN' (Below.refl _ w) m⟩
        · have e1 : ((z : Int) == (g : Int)) = false := by rw [beq_eq_false_iff_ne]; omega
          have e2 : ¬ (z : Int) = (g : Int) := by omega
          have HGT : Hid (∀ hk : k < t.length, g < t[k]) := fun h => by have := HZ.out; omega
          clear hze
          go_wp2_with fail
          have hkc : k ≤ c := by omega
          have HT1 : Hid ((ints (t.take k)).length = k) := by unfold Hid; rw [ints_length, List.length_take]; omega
          have HT2 : Hid ((ints (t.drop k)).length = t.length - k) := by unfold Hid; rw [ints_length, List.length_drop]
          have HRT : Hid (∀ wx, Below w.heap.size w wx → Rd wx 0 wx.heap.size (some ⟨b2, off2, none⟩) c (iv (ints (t.take k)))) := fun wx hx => by
            rw [ints_take, iv_take]
            exact ((H.out.below hx (Nat.le_refl _)).take_ k).wide (Nat.zero_le _) hx.size
          have HRD : Hid (∀ wx, Below w.heap.size w wx → Rd wx 0 wx.heap.size (if c = k then some ⟨b2, off2, none⟩ else some ⟨b2, off2 + k, none⟩) (c - k) (iv (ints (t.drop k)))) := fun wx hx => by
            have h1 := (H.out.below hx (Nat.le_refl _)).cut (k := k) (n := t.length) hk (by rw [iv_length, ints_length]; exact Nat.le_refl _)
            rw [ints_drop, iv_drop, ← List.take_of_length_le (l := (iv (ints t)).drop k) (i := t.length - k) (by rw [List.length_drop, iv_length, ints_length]; exact Nat.le_refl _)]
            have e9 : (some ⟨b2, off2, none⟩ : Option Addr).map (·.add k) = some ⟨b2, off2 + k, none⟩ := by
              show some (Addr.add ⟨b2, off2, none⟩ k) = _
              unfold Addr.add
              by_cases h0 : k = 0 <;> simp [h0]
            rw [e9] at h1
            exact h1.wide (Nat.zero_le _) hx.size
          have HBM : Hid (∀ M, Below w.heap.size w (w.drewN M)) := fun M => below_drewN' (Below.refl _ w) M
          have HBA : Hid (∀ wx o, Below w.heap.size w wx → Below w.heap.size w (wx.alloc o)) := fun wx o hx => hx.alloc hx.size o
          have HBG : Hid (∀ (wx wx' : World) (row : Option Nat), Below w.heap.size w wx → wx.grownBy wx' row → (∀ g, row = some g → w.heap.size ≤ g) → Below w.heap.size w wx') := fun wx wx' row hx hg hr => hx.grown hg hx.size hr
          obtain ⟨tm, htm⟩ : ∃ tm, ints (t.take k) ++ [(g : Int)] = tm := ⟨_, rfl⟩
          obtain ⟨tn, htn⟩ : ∃ tn, tm ++ ints (t.drop k) = tn := ⟨_, rfl⟩
          have HTM := Lib.hid htm
          have HTN := Lib.hid htn
          have HT3 : Hid (tm.length = k + 1) := by unfold Hid; rw [← htm, List.length_append, HT1.out]; rfl
          have HT4 : Hid (tn.length = k + 1 + (t.length - k)) := by unfold Hid; rw [← htn, List.length_append, HT3.out, HT2.out]
          obtain ⟨u, hu⟩ : ∃ u, t.take k ++ g :: t.drop k = u := ⟨_, rfl⟩
          have HUN : Hid (tn = ints u) := by
            unfold Hid
            rw [← htn, ← htm, ← hu, ints_app]
            simp [ints]
          have HUL : Hid (u.length = k + 1 + (t.length - k)) := by have := HT4.out; rw [HUN.out, ints_length] at this; exact this
          have HRI : Hid (Rise (L ++ [g]) u) := by unfold Hid; rw [← hu]; exact HS.out.put HAL.out HGT.out
          clear htm htn hu
          go_region_law (first
            | (refine step_append_nums (v := .slice (some ⟨w.heap.size, 0, none⟩) 0 0) w.heap.size [] (ints (t.take k)) (ints (t.take k)) rfl 0 k k rfl HT1.out HT1.out rfl (.tmp 33) (.tmp 36) rfl rfl (by simp [Act.eval, Act.put]) (by simp [Act.eval, Act.put]) (by first | exact own_none' _ _ | exact (own_none' _ _).alloc _) (HRT.out _ (by first | exact HBA.out _ _ (HBM.out _) | exact HBA.out _ _ (HBA.out _ _ (HBM.out _)))) (by omega) (by simp <;> omega) ?_; intro A4 c4 w4 ho4 hg4; have hb4 : Below w.heap.size w w4 := HBG.out _ _ _ (by first | exact HBA.out _ _ (HBM.out _) | exact HBA.out _ _ (HBA.out _ _ (HBM.out _))) hg4 (fun g hg => by simp [Value.ownBlock] at hg; omega))
            | (refine step_append_nums (v := .slice (some ⟨w.heap.size + 1, 0, none⟩) 0 0) w.heap.size [] (ints (t.take k)) (ints (t.take k)) rfl 0 k k rfl HT1.out HT1.out rfl (.tmp 33) (.tmp 36) rfl rfl (by simp [Act.eval, Act.put]) (by simp [Act.eval, Act.put]) (own_none2 _ _ _) (HRT.out _ (HBA.out _ _ (HBA.out _ _ (HBM.out _)))) (by omega) (by simp <;> omega) ?_; intro A4 c4 w4 ho4 hg4; have hb4 : Below w.heap.size w w4 := HBG.out _ _ _ (HBA.out _ _ (HBA.out _ _ (HBM.out _))) hg4 (fun g hg => by simp [Value.ownBlock] at hg; omega))
            | (refine step_append_nums (v := .slice A4 k c4) w.heap.size (ints (t.take k)) [(g : Int)] tm HTM.out k 1 (k + 1) HT1.out rfl HT3.out rfl (.tmp 37) (.tmp 39) rfl rfl (by simp [Act.eval, Act.put]) (by simp [Act.eval, Act.put]; rfl) (by first | exact ho4 | exact ho4.alloc _) (rd_num1 (by first | exact cell_new _ _ _ | exact cell_grown hg4 (cell_after _ _ _ _) (by simp [Value.ownBlock]) | exact cell_grown hg4 (cell_before _ _ _ _) (by simp [Value.ownBlock]))) (by omega) (by first | exact hb4.size | exact (HBA.out _ _ hb4).size) ?_; intro A5 c5 w5 ho5 hg5; have hb5 : Below w.heap.size w w5 := HBG.out _ _ _ (by first | exact hb4 | exact HBA.out _ _ hb4) hg5 (fun g hg => (own_lt ho4 hg).1))
            | (refine step_append_nums (v := .slice A5 (k + 1) c5) w.heap.size tm (ints (t.drop k)) tn HTN.out (k + 1) (t.length - k) (k + 1 + (t.length - k)) HT3.out HT2.out HT4.out rfl (.tmp 40) (.tmp 43) rfl rfl (by simp [Act.eval, Act.put]) (by simp [Act.eval, Act.put]) ho5 (HRD.out _ hb5) (by omega) hb5.size ?_; intro A6 c6 w6 ho6 hg6; have HB6 := Lib.hid (HBG.out _ _ _ hb5 hg6 (fun g hg => (own_lt ho5 hg).1)); have HO6 := Lib.hid ho6; clear ho6 hg6))
          all_goals
            go_wp2_with fail
            all_goals go_ret
            all_goals exact ⟨u, A6, c6, by rw [HUL.out]; rfl, HRI.out, by rw [← HUN.out]; exact (Rd.of_own HO6.out).wide hlo (Nat.le_refl _), HB6.out⟩
    · have ikt : ¬ (k : Int) < (t.length : Int) := by omega
      have dkt : decide (k < t.length) = false := decide_eq_false hkt
      have HGT : Hid (∀ hk : k < t.length, g < t[k]) := fun h => absurd h hkt
      go_wp2_with fail
      have hkc : k ≤ c := by omega
      have HT1 : Hid ((ints (t.take k)).length = k) := by unfold Hid; rw [ints_length, List.length_take]; omega
      have HT2 : Hid ((ints (t.drop k)).length = t.length - k) := by unfold Hid; rw [ints_length, List.length_drop]
      have HRT : Hid (∀ wx, Below w.heap.size w wx → Rd wx 0 wx.heap.size A c (iv (ints (t.take k)))) := fun wx hx => by
        rw [ints_take, iv_take]
        exact ((H.out.below hx (Nat.le_refl _)).take_ k).wide (Nat.zero_le _) hx.size
      have HRD : Hid (∀ wx, Below w.heap.size w wx → Rd wx 0 wx.heap.size (if c = k then A else A.map (·.add k)) (c - k) (iv (ints (t.drop k)))) := fun wx hx => by
        have h1 := (H.out.below hx (Nat.le_refl _)).cut (k := k) (n := t.length) hk (by rw [iv_length, ints_length]; exact Nat.le_refl _)
        rw [ints_drop, iv_drop, ← List.take_of_length_le (l := (iv (ints t)).drop k) (i := t.length - k) (by rw [List.length_drop, iv_length, ints_length]; exact Nat.le_refl _)]
        exact h1.wide (Nat.zero_le _) hx.size
      have HBM : Hid (∀ M, Below w.heap.size w (w.drewN M)) := fun M => below_drewN' (Below.refl _ w) M
      have HBA : Hid (∀ wx o, Below w.heap.size w wx → Below w.heap.size w (wx.alloc o)) := fun wx o hx => hx.alloc hx.size o
      have HBG : Hid (∀ (wx wx' : World) (row : Option Nat), Below w.heap.size w wx → wx.grownBy wx' row → (∀ g, row = some g → w.heap.size ≤ g) → Below w.heap.size w wx') := fun wx wx' row hx hg hr => hx.grown hg hx.size hr
      obtain ⟨tm, htm⟩ : ∃ tm, ints (t.take k) ++ [(g : Int)] = tm := ⟨_, rfl⟩
      obtain ⟨tn, htn⟩ : ∃ tn, tm ++ ints (t.drop k) = tn := ⟨_, rfl⟩
      have HTM := Lib.hid htm
      have HTN := Lib.hid htn
      have HT3 : Hid (tm.length = k + 1) := by unfold Hid; rw [← htm, List.length_append, HT1.out]; rfl
      have HT4 : Hid (tn.length = k + 1 + (t.length - k)) := by unfold Hid; rw [← htn, List.length_append, HT3.out, HT2.out]
      obtain ⟨u, hu⟩ : ∃ u, t.take k ++ g :: t.drop k = u := ⟨_, rfl⟩
      have HUN : Hid (tn = ints u) := by
        unfold Hid
        rw [← htn, ← htm, ← hu, ints_app]
        simp [ints]
      have HUL : Hid (u.length = k + 1 + (t.length - k)) := by have := HT4.out; rw [HUN.out, ints_length] at this; exact this
      have HRI : Hid (Rise (L ++ [g]) u) := by unfold Hid; rw [← hu]; exact HS.out.put HAL.out HGT.out
      clear htm htn hu
      go_region_law (first
        | (refine step_append_nums (v := .slice (some ⟨w.heap.size, 0, none⟩) 0 0) w.heap.size [] (ints (t.take k)) (ints (t.take k)) rfl 0 k k rfl HT1.out HT1.out rfl (.tmp 33) (.tmp 36) rfl rfl (by simp [Act.eval, Act.put]) (by simp [Act.eval, Act.put]) (by first | exact own_none' _ _ | exact (own_none' _ _).alloc _) (HRT.out _ (by first | exact HBA.out _ _ (HBM.out _) | exact HBA.out _ _ (HBA.out _ _ (HBM.out _)))) (by omega) (by simp <;> omega) ?_; intro A4 c4 w4 ho4 hg4; have hb4 : Below w.heap.size w w4 := HBG.out _ _ _ (by first | exact HBA.out _ _ (HBM.out _) | exact HBA.out _ _ (HBA.out _ _ (HBM.out _))) hg4 (fun g hg => by simp [Value.ownBlock] at hg; omega))
        | (refine step_append_nums (v := .slice (some ⟨w.heap.size + 1, 0, none⟩) 0 0) w.heap.size [] (ints (t.take k)) (ints (t.take k)) rfl 0 k k rfl HT1.out HT1.out rfl (.tmp 33) (.tmp 36) rfl rfl (by simp [Act.eval, Act.put]) (by simp [Act.eval, Act.put]) (own_none2 _ _ _) (HRT.out _ (HBA.out _ _ (HBA.out _ _ (HBM.out _)))) (by omega) (by simp <;> omega) ?_; intro A4 c4 w4 ho4 hg4; have hb4 : Below w.heap.size w w4 := HBG.out _ _ _ (HBA.out _ _ (HBA.out _ _ (HBM.out _))) hg4 (fun g hg => by simp [Value.ownBlock] at hg; omega))
        | (refine step_append_nums (v := .slice A4 k c4) w.heap.size (ints (t.take k)) [(g : Int)] tm HTM.out k 1 (k + 1) HT1.out rfl HT3.out rfl (.tmp 37) (.tmp 39) rfl rfl (by simp [Act.eval, Act.put]) (by simp [Act.eval, Act.put]; rfl) (by first | exact ho4 | exact ho4.alloc _) (rd_num1 (by first | exact cell_new _ _ _ | exact cell_grown hg4 (cell_after _ _ _ _) (by simp [Value.ownBlock]) | exact cell_grown hg4 (cell_before _ _ _ _) (by simp [Value.ownBlock]))) (by omega) (by first | exact hb4.size | exact (HBA.out _ _ hb4).size) ?_; intro A5 c5 w5 ho5 hg5; have hb5 : Below w.heap.size w w5 := HBG.out _ _ _ (by first | exact hb4 | exact HBA.out _ _ hb4) hg5 (fun g hg => (own_lt ho4 hg).1))
        | (refine step_append_nums (v := .slice A5 (k + 1) c5) w.heap.size tm (ints (t.drop k)) tn HTN.out (k + 1) (t.length - k) (k + 1 + (t.length - k)) HT3.out HT2.out HT4.out rfl (.tmp 40) (.tmp 43) rfl rfl (by simp [Act.eval, Act.put]) (by simp [Act.eval, Act.put]) ho5 (HRD.out _ hb5) (by omega) hb5.size ?_; intro A6 c6 w6 ho6 hg6; have HB6 := Lib.hid (HBG.out _ _ _ hb5 hg6 (fun g hg => (own_lt ho5 hg).1)); have HO6 := Lib.hid ho6; clear ho6 hg6))
      all_goals
        go_wp2_with fail
        all_goals go_ret
        all_goals exact ⟨u, A6, c6, by rw [HUL.out]; rfl, HRI.out, by rw [← HUN.out]; exact (Rd.of_own HO6.out).wide hlo (Nat.le_refl _), HB6.out⟩
end Go.Proofs.YtjffbjlniieciaaDoor
namespace Go.Proofs.YtjffbjlniieciaaDoor
set_option linter.unusedSimpArgs false
set_option linter.unusedVariables false
open Go.RowKit

/-- strings as lists of bytes -/
def bytG (l : List ByteArray) : List (List UInt8) := l.map fun s => s.data.toList
theorem bytG_take (l : List ByteArray) (i : Nat) (h : i < l.length) : allL (bytG (l.take (i + 1))) = allL (bytG (l.take i)) ++ gramsL l[i].data.toList := by
  rw [List.take_succ_eq_append_getElem h, bytG, List.map_append, allL, List.flatMap_append, bytG, allL]
  congr 1
  simp
theorem gramS (s : ByteArray) (k : Nat) (h : k + 2 < s.size) : (gramsL s.data.toList)[k]'(by rw [gramsL_length, Array.length_toList]; show k < s.size - 2; omega) = gramN s[k] s[k + 1] s[k + 2] := by
  have hl : s.data.toList.length = s.size := by rw [Array.length_toList]; rfl
  rw [gramsL_get s.data.toList k (by omega)]
  rfl
theorem gramsS_take (s : ByteArray) (k : Nat) (h : k + 2 < s.size) : (gramsL s.data.toList).take (k + 1) = (gramsL s.data.toList).take k ++ [gramN s[k] s[k + 1] s[k + 2]] := by
  have hl : s.data.toList.length = s.size := by rw [Array.length_toList]; rfl
  rw [List.take_succ_eq_append_getElem (by rw [gramsL_length]; omega), gramS s k h]

set_option maxRecDepth 20000 in
set_option maxHeartbeats 8000000 in
theorem allg_any {w : World} (l : List ByteArray) {c : Nat} {A : Option Addr} (h : Rd w 0 w.heap.size A c (sv l)) (hsz : ∀ s ∈ l, s.size ≤ 100000) (hlen : l.length ≤ 1000) :
    Calls Tryd.prog 44 #[.slice A l.length c] w fun r w' => ∃ (t : List Nat) (A' : Option Addr) (c' : Nat), r = .returned (.slice A' t.length c') ∧ Rise (allL (bytG l)) t ∧ t.length ≤ 100000000 ∧
      Rd w' w.heap.size w'.heap.size A' c' (iv (ints t)) ∧ Below w.heap.size w w' := by
  have hl := h.len
  have hm := h.cap
  rw [sv_length] at hl
  unfold maxLen at hm
  have H := Lib.hid h
  have H1 : Hid (∀ k (hk : k < l.length), l[k].size ≤ 100000) := fun k hk => hsz _ (List.getElem_mem hk)
  have HLN : Hid (∀ i, (allL (bytG (l.take i))).length ≤ 100000 * i) := fun i => by
    induction i with
    | zero => simp [bytG, allL]
    | succ i ih =>
      by_cases hi : i < l.length
      · have h2 : l[i].data.toList.length = l[i].size := by rw [Array.length_toList]; rfl
        rw [bytG_take l i hi, List.length_append, gramsL_length, h2]
        have := H1.out i hi
        omega
      · rw [List.take_of_length_le (by omega)]
        rw [List.take_of_length_le (by omega)] at ih
        omega
  clear h hsz
  go_enter Tryd.func44, Tryd.ntmps44
  go_wp2_with fail
  go_loopw [3, 4] (fun x3 x4 wr => ∃ (i : Nat) (t : List Nat) (A' : Option Addr) (c' : Nat), i ≤ l.length ∧ x4 = .int .i64 (i : Int) ∧ x3 = .slice A' t.length c' ∧ Rise (allL (bytG (l.take i))) t ∧
    Rd wr w.heap.size wr.heap.size A' c' (iv (ints t)) ∧ Below w.heap.size w wr) (fun _ x4 _ => l.length - (intOf x4).toNat)
  case atStart => exact ⟨0, [], none, 0, Nat.zero_le _, rfl, rfl, Rise.nil, Rd.nil _ _ _, Below.refl _ _⟩
  case round =>
    obtain ⟨i, t, A', c', hi, rfl, rfl, hri, hrd, hb⟩ := hrel
    obtain ⟨wy, hwy⟩ : ∃ wy, wy = wr := ⟨_, rfl⟩
    subst hwy
    have HRI := Lib.hid hri
    have HRD := Lib.hid hrd
    have HB := Lib.hid hb
    have hszy := hb.size
    clear hri hrd hb
    by_cases hlt : i < l.length
    · have ik : (i : Int) < (l.length : Int) := by omega
      obtain ⟨b1, off1, rfl, _, hb1, hcell0⟩ := H.out.str hlt
      have hss := H1.out i hlt
      have HLI := Lib.hid (HLN.out i)
      have HTK := Lib.hid (bytG_take l i hlt)
      obtain ⟨s, hs⟩ : ∃ s, l[i] = s := ⟨_, rfl⟩
      rw [hs] at hcell0 hss HTK
      clear hs
      have HC0 := Lib.hid hcell0
      clear hcell0
      go_wp2_with fail
      go_loopw [3, 5] (fun x3 x5 wr => ∃ (k : Nat) (t : List Nat) (A' : Option Addr) (c' : Nat), (k = 0 ∨ k + 1 < s.size) ∧ x5 = .int .i64 (k : Int) ∧ x3 = .slice A' t.length c' ∧ Rise (allL (bytG (l.take i)) ++ (gramsL s.data.toList).take k) t ∧
        Rd wr w.heap.size wr.heap.size A' c' (iv (ints t)) ∧ Below w.heap.size w wr) (fun _ x5 _ => s.size - (intOf x5).toNat)
      case atStart => exact ⟨0, t, A', c', .inl rfl, rfl, rfl, by rw [List.take_zero, List.append_nil]; exact HRI.out, HRD.out, HB.out⟩
      case round =>
        clear HRI HRD HB
        obtain ⟨k, t, A', c', hk, rfl, rfl, hri, hrd, hb⟩ := hrel
        obtain ⟨wz, hwz⟩ : ∃ wz, wz = wr := ⟨_, rfl⟩
        subst hwz
        have HRI := Lib.hid hri
        have HRD := Lib.hid hrd
        have HB := Lib.hid hb
        have hszz := hb.size
        have hlt1 := hri.len
        have hcell : wz.cell? ⟨b1, off1 + i, none⟩ = some (.string s) := (hb.cell hb1).trans HC0.out
        clear hri hrd hb
        by_cases hk2 : k + 2 < s.size
        · have ik2 : (k : Int) + 2 < (s.size : Int) := by omega
          have htl : t.length ≤ 100000000 := by
            rw [List.length_append, List.length_take] at hlt1
            have := HLI.out
            omega
          clear hlt1
          have hc3 : ∀ x : UInt8, x.toNat < 256 := fun x => UInt8.toNat_lt x
          have hx1 := hc3 s[k]
          have hx2 := hc3 s[k + 1]
          have hx3 := hc3 s[k + 2]
          clear hc3
          have hk0 : k < s.size := by omega
          have hk1 : k + 1 < s.size := by omega
          have hw1 : IntKind.i64.wrap ((k : Int) + 1) = (k : Int) + 1 := IntWalk.i64_in _ (by omega)
          have hw2 : IntKind.i64.wrap ((k : Int) + 2) = (k : Int) + 2 := IntWalk.i64_in _ (by omega)
          have l1 : (0 : Int) ≤ (k : Int) + 1 := by omega
          have l1' : (k : Int) + 1 < (s.size : Int) := by omega
          have l2 : (0 : Int) ≤ (k : Int) + 2 := by omega
          have e1 : ((k : Int) + 1).toNat = k + 1 := by omega
          have e2 : ((k : Int) + 2).toNat = k + 2 := by omega
          have HCL : Hid (∀ W, Below wz.heap.size wz W → W.cell? ⟨b1, off1 + i, none⟩ = some (.string s)) := fun W hW => (hW.cell (Nat.lt_of_lt_of_le hb1 hszz)).trans hcell
          have HGT := Lib.hid (gramsS_take s k hk2)
          obtain ⟨g, hg⟩ : ∃ g, gramN s[k] s[k + 1] s[k + 2] = g := ⟨_, rfl⟩
          have HGV : Hid (Value.int .i64 (IntKind.i64.wrap (IntKind.i64.wrap (IntKind.i64.wrap (65536 * IntKind.i64.wrap (s[k].toNat : Int)) + IntKind.i64.wrap (256 * IntKind.i64.wrap (s[k + 1].toNat : Int))) + IntKind.i64.wrap (s[k + 2].toNat : Int))) = .int .i64 (g : Int)) := by
            unfold Hid
            rw [← hg, gramN]
            generalize s[k].toNat = x at *
            generalize s[k + 1].toNat = y at *
            generalize s[k + 2].toNat = z at *
            rw [IntWalk.i64_in (x : Int) (by omega), IntWalk.i64_in (y : Int) (by omega), IntWalk.i64_in (z : Int) (by omega), IntWalk.i64_in (65536 * (x : Int)) (by omega), IntWalk.i64_in (256 * (y : Int)) (by omega), IntWalk.i64_in (65536 * (x : Int) + 256 * (y : Int)) (by omega), IntWalk.i64_in (65536 * (x : Int) + 256 * (y : Int) + (z : Int)) (by omega)]
            congr 1
          rw [hg] at HGT
          clear hg
          have HPG := Lib.hid (fun W (hW : Below wz.heap.size wz W) => putg_any (w := W) _ t g ((HRD.out.below hW (Nat.le_refl _)).wide (Nat.le_refl _) hW.size) (Nat.le_trans hszz hW.size) HRI.out htl)
          go_wp2_with fail
          refine wp_region_held_drew (S := fun w' => Below wz.heap.size wz w') (by kernel_rfl) (Below.drew (Below.refl _ _)) (fun hHeld => ?_)
          refine wpAnyH_take (i := 0) (oi := _) (v := ?_) rfl (by kernel_rfl) (by kernel_rfl) (by kernel_rfl) (fun _ _ _ h => h) (Or.inl ⟨by rfl, ?_⟩) hHeld ?_
          rotate_left
          focus (intro W hSw; go_simp; try with_reducible rfl)
          try simp only [List.getElem_toArray, List.getElem_cons_zero, List.getElem_cons_succ, Act.put, List.setIfInBounds_toArray, List.set_cons_zero, List.set_cons_succ]
          refine wpAnyH_take (i := 1) (oi := _) (v := ?_) rfl (by kernel_rfl) (by kernel_rfl) (by kernel_rfl) (fun _ _ _ h => h) (Or.inl ⟨by rfl, ?_⟩) hHeld ?_
          rotate_left
          focus (intro W hSw; go_simp; try with_reducible rfl)
          try simp only [List.getElem_toArray, List.getElem_cons_zero, List.getElem_cons_succ, Act.put, List.setIfInBounds_toArray, List.set_cons_zero, List.set_cons_succ]
          refine wpAnyH_take (i := 2) (oi := _) (v := ?_) rfl (by kernel_rfl) (by kernel_rfl) (by kernel_rfl) (fun _ _ _ h => h) (Or.inl ⟨by rfl, ?_⟩) hHeld ?_
          rotate_left
          focus (intro W hSw; go_simp; try with_reducible rfl)
          try simp only [List.getElem_toArray, List.getElem_cons_zero, List.getElem_cons_succ, Act.put, List.setIfInBounds_toArray, List.set_cons_zero, List.set_cons_succ]
          refine wpAnyH_take (i := 3) (oi := _) (v := ?_) rfl (by kernel_rfl) (by kernel_rfl) (by kernel_rfl) (fun _ _ _ h => h) (Or.inl ⟨by rfl, ?_⟩) hHeld ?_
          rotate_left
          focus (intro W hSw; go_simp; try with_reducible rfl)
          try simp only [List.getElem_toArray, List.getElem_cons_zero, List.getElem_cons_succ, Act.put, List.setIfInBounds_toArray, List.set_cons_zero, List.set_cons_succ]
          refine wpAnyH_take (i := 4) (oi := _) (v := ?_) rfl (by kernel_rfl) (by kernel_rfl) (by kernel_rfl) (fun _ _ _ h => h) (Or.inl ⟨by rfl, ?_⟩) hHeld ?_
          rotate_left
          focus (intro W hSw; have hcv := HCL.out W hSw; go_simp; try with_reducible rfl)
          try simp only [List.getElem_toArray, List.getElem_cons_zero, List.getElem_cons_succ, Act.put, List.setIfInBounds_toArray, List.set_cons_zero, List.set_cons_succ]
          refine wpAnyH_take (i := 5) (oi := _) (v := ?_) rfl (by kernel_rfl) (by kernel_rfl) (by kernel_rfl) (fun _ _ _ h => h) (Or.inl ⟨by rfl, ?_⟩) hHeld ?_
          rotate_left
          focus (intro W hSw; go_simp; try with_reducible rfl)
          try simp only [List.getElem_toArray, List.getElem_cons_zero, List.getElem_cons_succ, Act.put, List.setIfInBounds_toArray, List.set_cons_zero, List.set_cons_succ]
          refine wpAnyH_take (i := 6) (oi := _) (v := ?_) rfl (by kernel_rfl) (by kernel_rfl) (by kernel_rfl) (fun _ _ _ h => h) (Or.inl ⟨by rfl, ?_⟩) hHeld ?_
          rotate_left
          focus (intro W hSw; go_simp; try with_reducible rfl)
          try simp only [List.getElem_toArray, List.getElem_cons_zero, List.getElem_cons_succ, Act.put, List.setIfInBounds_toArray, List.set_cons_zero, List.set_cons_succ]
          refine wpAnyH_take (i := 7) (oi := _) (v := ?_) rfl (by kernel_rfl) (by kernel_rfl) (by kernel_rfl) (fun _ _ _ h => h) (Or.inl ⟨by rfl, ?_⟩) hHeld ?_
          rotate_left
          focus (intro W hSw; go_simp; try with_reducible rfl)
          try simp only [List.getElem_toArray, List.getElem_cons_zero, List.getElem_cons_succ, Act.put, List.setIfInBounds_toArray, List.set_cons_zero, List.set_cons_succ]
          refine wpAnyH_take (i := 8) (oi := _) (v := ?_) rfl (by kernel_rfl) (by kernel_rfl) (by kernel_rfl) (fun _ _ _ h => h) (Or.inl ⟨by rfl, ?_⟩) hHeld ?_
          rotate_left
          focus (intro W hSw; go_simp; try with_reducible rfl)
          try simp only [List.getElem_toArray, List.getElem_cons_zero, List.getElem_cons_succ, Act.put, List.setIfInBounds_toArray, List.set_cons_zero, List.set_cons_succ]
          refine wpAnyH_take (i := 9) (oi := _) (v := ?_) rfl (by kernel_rfl) (by kernel_rfl) (by kernel_rfl) (fun _ _ _ h => h) (Or.inl ⟨by rfl, ?_⟩) hHeld ?_
          rotate_left
          focus (intro W hSw; go_simp; try with_reducible rfl)
          try simp only [List.getElem_toArray, List.getElem_cons_zero, List.getElem_cons_succ, Act.put, List.setIfInBounds_toArray, List.set_cons_zero, List.set_cons_succ]
          refine wpAnyH_take (i := 10) (oi := _) (v := ?_) rfl (by kernel_rfl) (by kernel_rfl) (by kernel_rfl) (fun _ _ _ h => h) (Or.inl ⟨by rfl, ?_⟩) hHeld ?_
          rotate_left
          focus (intro W hSw; go_simp; try with_reducible rfl)
          try simp only [List.getElem_toArray, List.getElem_cons_zero, List.getElem_cons_succ, Act.put, List.setIfInBounds_toArray, List.set_cons_zero, List.set_cons_succ]
          refine wpAnyH_take (i := 11) (oi := _) (v := ?_) rfl (by kernel_rfl) (by kernel_rfl) (by kernel_rfl) (fun _ _ _ h => h) (Or.inl ⟨by rfl, ?_⟩) hHeld ?_
          rotate_left
          focus (intro W hSw; go_simp; try with_reducible rfl)
          try simp only [List.getElem_toArray, List.getElem_cons_zero, List.getElem_cons_succ, Act.put, List.setIfInBounds_toArray, List.set_cons_zero, List.set_cons_succ]
          refine wpAnyH_take (i := 12) (oi := _) (v := ?_) rfl (by kernel_rfl) (by kernel_rfl) (by kernel_rfl) (fun _ _ _ h => h) (Or.inl ⟨by rfl, ?_⟩) hHeld ?_
          rotate_left
          focus (intro W hSw; have hcv := HCL.out W hSw; go_simp; try with_reducible rfl)
          try simp only [List.getElem_toArray, List.getElem_cons_zero, List.getElem_cons_succ, Act.put, List.setIfInBounds_toArray, List.set_cons_zero, List.set_cons_succ]
          refine wpAnyH_take (i := 13) (oi := _) (v := ?_) rfl (by kernel_rfl) (by kernel_rfl) (by kernel_rfl) (fun _ _ _ h => h) (Or.inl ⟨by rfl, ?_⟩) hHeld ?_
          rotate_left
          focus (intro W hSw; go_simp; try with_reducible rfl)
          try simp only [List.getElem_toArray, List.getElem_cons_zero, List.getElem_cons_succ, Act.put, List.setIfInBounds_toArray, List.set_cons_zero, List.set_cons_succ]
          refine wpAnyH_take (i := 14) (oi := _) (v := ?_) rfl (by kernel_rfl) (by kernel_rfl) (by kernel_rfl) (fun _ _ _ h => h) (Or.inl ⟨by rfl, ?_⟩) hHeld ?_
          rotate_left
          focus (intro W hSw; go_simp; try with_reducible rfl)
          try simp only [List.getElem_toArray, List.getElem_cons_zero, List.getElem_cons_succ, Act.put, List.setIfInBounds_toArray, List.set_cons_zero, List.set_cons_succ]
          refine wpAnyH_take (i := 15) (oi := _) (v := ?_) rfl (by kernel_rfl) (by kernel_rfl) (by kernel_rfl) (fun _ _ _ h => h) (Or.inl ⟨by rfl, ?_⟩) hHeld ?_
          rotate_left
          focus (intro W hSw; go_simp; try with_reducible rfl)
          try simp only [List.getElem_toArray, List.getElem_cons_zero, List.getElem_cons_succ, Act.put, List.setIfInBounds_toArray, List.set_cons_zero, List.set_cons_succ]
          refine wpAnyH_take (i := 16) (oi := _) (v := ?_) rfl (by kernel_rfl) (by kernel_rfl) (by kernel_rfl) (fun _ _ _ h => h) (Or.inl ⟨by rfl, ?_⟩) hHeld ?_
          rotate_left
          focus (intro W hSw; go_simp; try with_reducible rfl)
          try simp only [List.getElem_toArray, List.getElem_cons_zero, List.getElem_cons_succ, Act.put, List.setIfInBounds_toArray, List.set_cons_zero, List.set_cons_succ]
          refine wpAnyH_take (i := 17) (oi := _) (v := ?_) rfl (by kernel_rfl) (by kernel_rfl) (by kernel_rfl) (fun _ _ _ h => h) (Or.inl ⟨by rfl, ?_⟩) hHeld ?_
          rotate_left
          focus (intro W hSw; go_simp; try with_reducible rfl)
          try simp only [List.getElem_toArray, List.getElem_cons_zero, List.getElem_cons_succ, Act.put, List.setIfInBounds_toArray, List.set_cons_zero, List.set_cons_succ]
          refine wpAnyH_take (i := 18) (oi := _) (v := ?_) rfl (by kernel_rfl) (by kernel_rfl) (by kernel_rfl) (fun _ _ _ h => h) (Or.inl ⟨by rfl, ?_⟩) hHeld ?_
          rotate_left
          focus (intro W hSw; go_simp; try with_reducible rfl)
          try simp only [List.getElem_toArray, List.getElem_cons_zero, List.getElem_cons_succ, Act.put, List.setIfInBounds_toArray, List.set_cons_zero, List.set_cons_succ]
          refine wpAnyH_take (i := 19) (oi := _) (v := ?_) rfl (by kernel_rfl) (by kernel_rfl) (by kernel_rfl) (fun _ _ _ h => h) (Or.inl ⟨by rfl, ?_⟩) hHeld ?_
          rotate_left
          focus (intro W hSw; go_simp; try with_reducible rfl)
          try simp only [List.getElem_toArray, List.getElem_cons_zero, List.getElem_cons_succ, Act.put, List.setIfInBounds_toArray, List.set_cons_zero, List.set_cons_succ]
          refine wpAnyH_take (i := 20) (oi := _) (v := ?_) rfl (by kernel_rfl) (by kernel_rfl) (by kernel_rfl) (fun _ _ _ h => h) (Or.inl ⟨by rfl, ?_⟩) hHeld ?_
          rotate_left
          focus (intro W hSw; go_simp; try with_reducible rfl)
          try simp only [List.getElem_toArray, List.getElem_cons_zero, List.getElem_cons_succ, Act.put, List.setIfInBounds_toArray, List.set_cons_zero, List.set_cons_succ]
          refine wpAnyH_take (i := 21) (oi := _) (v := ?_) rfl (by kernel_rfl) (by kernel_rfl) (by kernel_rfl) (fun _ _ _ h => h) (Or.inl ⟨by rfl, ?_⟩) hHeld ?_
          rotate_left
          focus (intro W hSw; go_simp; try with_reducible rfl)
          try simp only [List.getElem_toArray, List.getElem_cons_zero, List.getElem_cons_succ, Act.put, List.setIfInBounds_toArray, List.set_cons_zero, List.set_cons_succ]
          refine wpAnyH_take (i := 22) (oi := _) (v := ?_) rfl (by kernel_rfl) (by kernel_rfl) (by kernel_rfl) (fun _ _ _ h => h) (Or.inl ⟨by rfl, ?_⟩) hHeld ?_
          rotate_left
          focus (intro W hSw; have hcv := HCL.out W hSw; go_simp; try with_reducible rfl)
          try simp only [List.getElem_toArray, List.getElem_cons_zero, List.getElem_cons_succ, Act.put, List.setIfInBounds_toArray, List.set_cons_zero, List.set_cons_succ]
          refine wpAnyH_take (i := 23) (oi := _) (v := ?_) rfl (by kernel_rfl) (by kernel_rfl) (by kernel_rfl) (fun _ _ _ h => h) (Or.inl ⟨by rfl, ?_⟩) hHeld ?_
          rotate_left
          focus (intro W hSw; go_simp; try with_reducible rfl)
          try simp only [List.getElem_toArray, List.getElem_cons_zero, List.getElem_cons_succ, Act.put, List.setIfInBounds_toArray, List.set_cons_zero, List.set_cons_succ]
          refine wpAnyH_take (i := 24) (oi := _) (v := ?_) rfl (by kernel_rfl) (by kernel_rfl) (by kernel_rfl) (fun _ _ _ h => h) (Or.inl ⟨by rfl, ?_⟩) hHeld ?_
          rotate_left
          focus (intro W hSw; go_simp; try with_reducible rfl)
          try simp only [List.getElem_toArray, List.getElem_cons_zero, List.getElem_cons_succ, Act.put, List.setIfInBounds_toArray, List.set_cons_zero, List.set_cons_succ]
          refine wpAnyH_take (i := 25) (oi := _) (v := ?_) rfl (by kernel_rfl) (by kernel_rfl) (by kernel_rfl) (fun _ _ _ h => h) (Or.inl ⟨by rfl, ?_⟩) hHeld ?_
          rotate_left
          focus (intro W hSw; go_simp; try with_reducible rfl)
          try simp only [List.getElem_toArray, List.getElem_cons_zero, List.getElem_cons_succ, Act.put, List.setIfInBounds_toArray, List.set_cons_zero, List.set_cons_succ]
          refine wpAnyH_take (i := 26) (oi := _) (v := ?_) rfl (by kernel_rfl) (by kernel_rfl) (by kernel_rfl) (fun _ _ _ h => h) (Or.inl ⟨by rfl, ?_⟩) hHeld ?_
          rotate_left
          focus (intro W hSw; go_simp; try with_reducible rfl)
          try simp only [List.getElem_toArray, List.getElem_cons_zero, List.getElem_cons_succ, Act.put, List.setIfInBounds_toArray, List.set_cons_zero, List.set_cons_succ]
          refine wpAnyH_take (i := 27) (oi := _) (v := ?_) rfl (by kernel_rfl) (by kernel_rfl) (by kernel_rfl) (fun _ _ _ h => h) (Or.inl ⟨by rfl, ?_⟩) hHeld ?_
          rotate_left
          focus (intro W hSw; go_simp; try with_reducible rfl)
          try simp only [List.getElem_toArray, List.getElem_cons_zero, List.getElem_cons_succ, Act.put, List.setIfInBounds_toArray, List.set_cons_zero, List.set_cons_succ]
          refine wpAnyH_ready (rs := [28]) (by kernel_rfl) (by simp) ?_
          refine AllReadyH.cons (o := _) rfl (fun K hK => ?_) AllReadyH.nil
          go_simp
          rw [HGV.out]
          refine (HPG.out _ hHeld).mono ?_
          rintro r w9 ⟨u, A9, c9, rfl, hri9, hrd9, hb9⟩
          have HR9 := Lib.hid hri9
          have HD9 := Lib.hid hrd9
          have HB9 := Lib.hid (below_below hHeld hb9 hHeld.size)
          clear hri9 hrd9 hb9
          refine hK.out _ _ HB9.out (fun hHeld => ?_)
          clear hK K
          try simp only [List.getElem_toArray, List.getElem_cons_zero, List.getElem_cons_succ, Act.put, List.setIfInBounds_toArray, List.set_cons_zero, List.set_cons_succ]
          refine wpAnyH_take (i := 29) (oi := _) (v := ?_) rfl (by kernel_rfl) (by kernel_rfl) (by kernel_rfl) (fun _ _ _ h => h) (Or.inl ⟨by rfl, ?_⟩) hHeld ?_
          rotate_left
          focus (intro W hSw; go_simp; try with_reducible rfl)
          try simp only [List.getElem_toArray, List.getElem_cons_zero, List.getElem_cons_succ, Act.put, List.setIfInBounds_toArray, List.set_cons_zero, List.set_cons_succ]
          refine wpAnyH_done (by kernel_rfl) ?_ _
          have HE := Lib.hid (below_below HB.out HB9.out hszz)
          clear hHeld
          go_wp2_with fail
          go_roundw
          case rel => exact ⟨k + 1, u, A9, c9, .inr (by omega), by go_num, rfl, by rw [HGT.out, ← List.append_assoc]; exact HR9.out, HD9.out, HE.out⟩
          case measure => simp [intOf] <;> omega
        · have ik2 : ¬ (k : Int) + 2 < (s.size : Int) := by omega
          have hkl : (k : Int) ≤ 9223372036854775805 := by omega
          have HEQ : Hid (Rise (allL (bytG (l.take (i + 1)))) t) := by
            unfold Hid
            have := HRI.out
            rw [List.take_of_length_le (l := gramsL s.data.toList) (by rw [gramsL_length, Array.length_toList]; show s.size - 2 ≤ k; omega)] at this
            rw [HTK.out]
            exact this
          clear hlt1
          go_wp2_with fail
          go_roundw
          case rel => exact ⟨i + 1, t, A', c', by omega, by go_num, rfl, HEQ.out, HRD.out, HB.out⟩
          case measure => simp [intOf] <;> omega
    · have ik : ¬ (i : Int) < (l.length : Int) := by omega
      have hil : i = l.length := by omega
      have HSF : Hid (Rise (allL (bytG l)) t) := by
        have := HRI.out
        rw [List.take_of_length_le (by omega)] at this
        exact this
      have htl : t.length ≤ 100000000 := by
        have h1 := HRI.out.len
        have h2 := HLN.out i
        omega
      go_wp2_with fail
      go_ret
      exact ⟨t, A', c', rfl, HSF.out, htl, HRD.out, HB.out⟩
end Go.Proofs.YtjffbjlniieciaaDoor
namespace Go.Proofs.YtjffbjlniieciaaDoor
set_option linter.unusedSimpArgs false
set_option linter.unusedVariables false
open Go.RowKit

/-- a filter as a value: how many bits, its grams, its rows -/
def Flt (w : World) (lo hi : Nat) (v : Value) (b : Nat) (gs : List Nat) (rs : List Bool) : Prop :=
  ∃ A c B d, v = .agg #[.int .i64 (b : Int), .slice A gs.length c, .slice B rs.length d] ∧ Rd w lo hi A c (iv (ints gs)) ∧ Rd w lo hi B d (lv rs)
theorem Flt.below {w w' : World} {lo hi B b : Nat} {v : Value} {gs : List Nat} {rs : List Bool} (h : Flt w lo hi v b gs rs) (hb : Below B w w') (hB : hi ≤ B) : Flt w' lo hi v b gs rs := by
  obtain ⟨A, c, B', d, rfl, h1, h2⟩ := h
  exact ⟨A, c, B', d, rfl, h1.below hb hB, h2.below hb hB⟩
theorem Flt.wide {w : World} {lo hi lo' hi' b : Nat} {v : Value} {gs : List Nat} {rs : List Bool} (h : Flt w lo hi v b gs rs) (h1 : lo' ≤ lo) (h2 : hi ≤ hi') : Flt w lo' hi' v b gs rs := by
  obtain ⟨A, c, B', d, rfl, h3, h4⟩ := h
  exact ⟨A, c, B', d, rfl, h3.wide h1 h2, h4.wide h1 h2⟩
theorem Flt.drewN {w : World} {lo hi b : Nat} {v : Value} {gs : List Nat} {rs : List Bool} (h : Flt w lo hi v b gs rs) (m : Nat) : Flt (w.drewN m) lo hi v b gs rs := by
  obtain ⟨A, c, B', d, rfl, h1, h2⟩ := h
  exact ⟨A, c, B', d, rfl, h1.drewN m, h2.drewN m⟩
/-- does it have the gram? -/
def hasF (b : Nat) (gs : List Nat) (rs : List Bool) (g : Nat) : Bool := if 0 < b then rs.getD (bitG g b) false else decide (g ∈ gs)

set_option maxRecDepth 20000 in
set_option maxHeartbeats 4000000 in
theorem hasg_any {w : World} {lo hi b : Nat} {v : Value} {gs : List Nat} {rs : List Bool} (h : Flt w lo hi v b gs rs) (hhi : hi ≤ w.heap.size) (hb1 : 0 < b → rs.length = b) (hb2 : b ≤ 70000) (g : Nat) (hg : g < 16777216) :
    Calls Tryd.prog 53 #[v, .int .i64 (g : Int)] w fun r w' => r = .returned (.bool (hasF b gs rs g)) ∧ Below w.heap.size w w' := by
  obtain ⟨A, c, B, d, rfl, h1, h2⟩ := h
  have hl1 := h1.len
  have hl2 := h2.len
  have hm1 := h1.cap
  have hm2 := h2.cap
  rw [iv_length, ints_length] at hl1
  rw [lv_length] at hl2
  unfold maxLen at hm1 hm2
  obtain ⟨w1, hw1⟩ : ∃ w1, w.alloc (.cells #[.int .i64 (b : Int), .slice A gs.length c, .slice B rs.length d] 55) = w1 := ⟨_, rfl⟩
  have HB1 : Hid (Below w.heap.size w w1) := by unfold Hid; rw [← hw1]; exact (Below.refl _ w).alloc (Nat.le_refl _) _
  have hk : Blk w1 w.heap.size 55 #[.int .i64 (b : Int), .slice A gs.length c, .slice B rs.length d] := by rw [← hw1]; exact Blk.new w _ _
  have hc0 : w1.cell? ⟨w.heap.size, 0, none⟩ = some (.int .i64 (b : Int)) := hk.cell 0
  have hc1 : w1.cell? ⟨w.heap.size, 1, none⟩ = some (.slice A gs.length c) := hk.cell 1
  have hc2 : w1.cell? ⟨w.heap.size, 2, none⟩ = some (.slice B rs.length d) := hk.cell 2
  have HR1 := Lib.hid (h1.below HB1.out hhi)
  have HR2 := Lib.hid (h2.below HB1.out hhi)
  clear h1 h2 hk
  obtain ⟨V, hV⟩ : ∃ V, hasF b gs rs g = V := ⟨_, rfl⟩
  rw [hV]
  unfold hasF at hV
  by_cases hb0 : 0 < b
  · have ib : (0 : Int) < (b : Int) := by omega
    rw [if_pos hb0] at hV
    have hrl := hb1 hb0
    obtain ⟨q, hq⟩ : ∃ q, bitG g b = q := ⟨_, rfl⟩
    have hqb : q < b := by rw [← hq]; exact Nat.mod_lt _ hb0
    rw [hq] at hV
    obtain ⟨bb, off, rfl, _, _, hcell⟩ := HR2.out.row (k := q) (by omega)
    have hV2 : rs[q] = V := by rw [← hV]; simp [List.getD, List.getElem?_eq_getElem (show q < rs.length by omega)]
    rw [hV2] at hcell
    have hqz : ((g : Int) * 40503 % 65521) % (b : Int) = (q : Int) := by rw [← hq, bitG, Int.natCast_emod, Int.natCast_emod, Int.natCast_mul]; rfl
    have hbz : (b : Int) ≠ 0 := by omega
    have iq : (q : Int) < (rs.length : Int) := by omega
    have HRL := Lib.hid hrl
    clear hV hV2 hrl hb1
    go_enter Tryd.func53, Tryd.ntmps53
    go_wp2_with fail
    go_quiet (fail)
    go_wp2_with fail
    go_ret
    exact ⟨rfl, below_drewN' HB1.out _⟩
  · have ib : ¬ (0 : Int) < (b : Int) := by omega
    rw [if_neg hb0] at hV
    have HV := Lib.hid hV
    clear hV
    go_enter Tryd.func53, Tryd.ntmps53
    go_wp2_with fail
    go_loopw [5] (fun x5 wr => ∃ k : Nat, k ≤ gs.length ∧ x5 = .int .i64 (k : Int) ∧ (∀ j (hj : j < gs.length), j < k → gs[j] ≠ g) ∧ w1 = wr) (fun x5 _ => gs.length - (intOf x5).toNat)
    case atStart => exact ⟨0, Nat.zero_le _, rfl, fun j _ h => absurd h (Nat.not_lt_zero j), rfl⟩
    case round =>
      obtain ⟨k, hk, rfl, hne, rfl⟩ := hrel
      have HNE := Lib.hid hne
      clear hne
      by_cases hlt : k < gs.length
      · have ik : (k : Int) < (gs.length : Int) := by omega
        obtain ⟨bb, off, rfl, _, _, hcell⟩ := HR1.out.nat hlt
        by_cases he : gs[k] = g
        · have e1 : (((gs[k] : Nat) : Int) == (g : Int)) = true := by rw [he]; exact beq_self_eq_true _
          have e2 : ((gs[k] : Nat) : Int) = (g : Int) := by omega
          have HVV : Hid (V = true) := by
            unfold Hid
            rw [← HV.out]
            exact decide_eq_true (by rw [← he]; exact List.getElem_mem hlt)
          clear he
          go_wp2_with fail
          go_ret
          exact ⟨ret_bool HVV.out.symm, HB1.out⟩
        · have e2 : ¬ ((gs[k] : Nat) : Int) = (g : Int) := by omega
          have e1 : (((gs[k] : Nat) : Int) == (g : Int)) = false := by rw [beq_eq_false_iff_ne]; exact e2
          have HN2 : Hid (∀ j (hj : j < gs.length), j < k + 1 → gs[j] ≠ g) := fun j hj hjk => by
            rcases Nat.lt_or_ge j k with h2 | h2
            · exact HNE.out j hj h2
            · have : j = k := by omega
              subst this
              exact he
          clear he
          go_wp2_with fail
          go_roundw
          case rel => exact ⟨k + 1, by omega, by go_num, HN2.out, by first | rfl | trivial⟩
          case measure => simp [intOf] <;> omega
      · have ik : ¬ (k : Int) < (gs.length : Int) := by omega
        have HVV : Hid (V = false) := by
          unfold Hid
          rw [← HV.out]
          refine decide_eq_false fun h => ?_
          obtain ⟨j, hj, he⟩ := List.getElem_of_mem h
          exact HNE.out j hj (by omega) he
        go_wp2_with fail
        go_ret
        exact ⟨ret_bool HVV.out.symm, HB1.out⟩
end Go.Proofs.YtjffbjlniieciaaDoor
namespace Go.Proofs.YtjffbjlniieciaaDoor
set_option linter.unusedSimpArgs false
set_option linter.unusedVariables false
open Go.RowKit

theorem one_str (w : World) (t : TypeId) (s : ByteArray) : Rd (w.alloc (.cells #[.string s] t)) 0 (w.alloc (.cells #[.string s] t)).heap.size (some ⟨w.heap.size, 0, none⟩) 1 (sv [s]) := ⟨by simp [sv], by simp [maxLen], fun _ => ⟨w.heap.size, 0, rfl, Nat.zero_le _, by simp, fun j u hu => by
  rw [Nat.zero_add, (Blk.new w t _).cell]
  match j, hu with
  | 0, hu => simpa [sv] using hu
  | j + 1, hu => simp [sv] at hu⟩⟩
theorem flt_agg {w : World} {lo hi b : Nat} {v : Value} {gs : List Nat} {rs : List Bool} (h : Flt w lo hi v b gs rs) : ∃ A c B d, v = .agg #[.int .i64 (b : Int), .slice A gs.length c, .slice B rs.length d] := by
  obtain ⟨A, c, B, d, h, _⟩ := h
  exact ⟨A, c, B, d, h⟩

set_option maxRecDepth 20000 in
set_option maxHeartbeats 4000000 in
theorem mayg_any {w : World} {lo hi b : Nat} {v : Value} {gs : List Nat} {rs : List Bool} (h : Flt w lo hi v b gs rs) (hhi : hi ≤ w.heap.size) (hb1 : 0 < b → rs.length = b) (hb2 : b ≤ 70000) (s : ByteArray) (hs : s.size ≤ 100000) :
    Calls Tryd.prog 32 #[v, .string s] w fun r w' => r = .returned (.bool ((gramsL s.data.toList).all (hasF b gs rs))) ∧ Below w.heap.size w w' := by
  have H := Lib.hid h
  have HB1 := Lib.hid hb1
  clear hb1
  obtain ⟨A, c, B, d, rfl⟩ := flt_agg h
  obtain ⟨w1, hw1⟩ : ∃ w1, w.alloc (.cells #[.int .i64 (b : Int), .slice A gs.length c, .slice B rs.length d] 55) = w1 := ⟨_, rfl⟩
  have B1 : Hid (Below w.heap.size w w1) := by unfold Hid; rw [← hw1]; exact (Below.refl _ w).alloc (Nat.le_refl _) _
  have hk : Blk w1 w.heap.size 55 #[.int .i64 (b : Int), .slice A gs.length c, .slice B rs.length d] := by rw [← hw1]; exact Blk.new w _ _
  have hs1 : w1.heap.size = w.heap.size + 1 := by rw [← hw1]; simp
  have HK := Lib.hid hk
  have HS1 := Lib.hid hs1
  clear h hk hs1
  obtain ⟨V, hV⟩ : ∃ V, (gramsL s.data.toList).all (hasF b gs rs) = V := ⟨_, rfl⟩
  rw [hV]
  have HV := Lib.hid hV
  clear hV
  obtain ⟨w2, hw2⟩ : ∃ w2, w1.alloc (.cells #[.string s] 9) = w2 := ⟨_, rfl⟩
  have HS2 : Hid (Rd w2 0 w2.heap.size (some ⟨w1.heap.size, 0, none⟩) 1 (sv [s])) := by unfold Hid; rw [← hw2]; exact one_str w1 _ s
  have B12 : Hid (Below w1.heap.size w1 w2) := by unfold Hid; rw [← hw2]; exact (Below.refl _ w1).alloc (Nat.le_refl _) _
  have HAL := Lib.hid (allg_any [s] HS2.out (by simpa using hs) (by simp))
  go_enter Tryd.func32, Tryd.ntmps32
  go_wp2_with fail
  refine HAL.out.mono ?_
  rintro r w3 ⟨t, A3, c3, rfl, hri, htl, hrd, b3⟩
  have HRI := Lib.hid hri
  have HRD := Lib.hid hrd
  have B13 : Hid (Below w1.heap.size w1 w3) := B12.out.trans (b3.mono B12.out.size)
  have hs13 := B13.out.size
  have hs1 := HS1.out
  have hc3 := hrd.len
  have hm3 := hrd.cap
  rw [iv_length, ints_length] at hc3
  unfold maxLen at hm3
  clear hri hrd b3 HAL hw2 hw1
  go_wp2_with fail
  go_loopw [6] (fun x6 wr => ∃ k : Nat, k ≤ t.length ∧ x6 = .int .i64 (k : Int) ∧ (∀ j (hj : j < t.length), j < k → hasF b gs rs t[j] = true) ∧ Below w3.heap.size w3 wr) (fun x6 _ => t.length - (intOf x6).toNat)
  case atStart => exact ⟨0, Nat.zero_le _, rfl, fun j _ h => absurd h (Nat.not_lt_zero j), Below.refl _ _⟩
  case round =>
    obtain ⟨k, hk, rfl, hal, hb⟩ := hrel
    obtain ⟨wz, hwz⟩ : ∃ wz, wz = wr := ⟨_, rfl⟩
    subst hwz
    have HA := Lib.hid hal
    have HB := Lib.hid hb
    have hsz := hb.size
    clear hal hb
    have BZ : Hid (Below w.heap.size w wz) := below_below (below_below B1.out B13.out (by omega)) HB.out (by omega)
    by_cases hlt : k < t.length
    · have ik : (k : Int) < (t.length : Int) := by omega
      have dk : decide (k < t.length) = true := decide_eq_true hlt
      obtain ⟨bb, off, rfl, _, hbb, hcell0⟩ := (HRD.out.below HB.out (Nat.le_refl _)).nat hlt
      have HCG : Hid (∀ W, Below wz.heap.size wz W → W.cell? ⟨bb, off + k, none⟩ = some (.int .i64 ((t[k] : Nat) : Int))) := fun W hW => (hW.cell (by show bb < _; omega)).trans hcell0
      have HC0 : Hid (∀ W, Below wz.heap.size wz W → W.cell? ⟨w.heap.size, 0, none⟩ = some (.int .i64 (b : Int)) ∧ W.cell? ⟨w.heap.size, 1, none⟩ = some (.slice A gs.length c) ∧ W.cell? ⟨w.heap.size, 2, none⟩ = some (.slice B rs.length d)) := fun W hW => by
        have hk := ((HK.out.below B13.out (by omega)).below HB.out (by omega)).below hW (by omega)
        exact ⟨hk.cell 0, hk.cell 1, hk.cell 2⟩
      have HBL : Hid (∀ W, Below wz.heap.size wz W → W.heap[w.heap.size]? = some (.cells #[.int .i64 (b : Int), .slice A gs.length c, .slice B rs.length d] 55 (0, 0))) := fun W hW => ((HK.out.below B13.out (by omega)).below HB.out (by omega)).below hW (by omega)
      have hgl : t[k] < 16777216 := by
        have := (HRI.out.mem t[k]).1 (List.getElem_mem hlt)
        simp [allL, bytG] at this
        exact gramsL_lt this
      have HHA : Hid (∀ W, Below wz.heap.size wz W → Calls Tryd.prog 53 #[.agg #[.int .i64 (b : Int), .slice A gs.length c, .slice B rs.length d], .int .i64 ((t[k] : Nat) : Int)] W fun r w' => r = .returned (.bool (hasF b gs rs t[k])) ∧ Below W.heap.size W w') := fun W hW =>
        hasg_any ((H.out.below (below_below BZ.out hW BZ.out.size) hhi)) (by have := BZ.out.size; have := hW.size; omega) HB1.out hb2 t[k] hgl
      have HNX : Hid (hasF b gs rs t[k] = true → ∀ j (hj : j < t.length), j < k + 1 → hasF b gs rs t[j] = true) := fun h j hj hjk => by
        rcases Nat.lt_or_ge j k with h2 | h2
        · exact HA.out j hj h2
        · have : j = k := by omega
          subst this
          exact h
      have HNO : Hid (hasF b gs rs t[k] = false → V = false) := fun h => by
        rw [← HV.out]
        refine Bool.eq_false_iff.2 fun h2 => ?_
        have h3 := List.all_eq_true.1 h2 t[k] (by have := (HRI.out.mem t[k]).1 (List.getElem_mem hlt); simpa [allL, bytG] using this)
        rw [h] at h3
        cases h3
      obtain ⟨f, hf⟩ : ∃ f, hasF b gs rs t[k] = f := ⟨_, rfl⟩
      rw [hf] at HHA HNX HNO
      clear hf hcell0 hgl
      go_wp2_with fail
      refine wp_region_held_drew (S := fun w' => Below wz.heap.size wz w') (by kernel_rfl) (Below.drew (Below.refl _ _)) (fun hHeld => ?_)
      refine wpAnyH_take (i := 0) (oi := _) (v := ?_) rfl (by kernel_rfl) (by kernel_rfl) (by kernel_rfl) (fun _ _ _ h => h) (Or.inl ⟨by rfl, ?_⟩) hHeld ?_
      rotate_left
      focus (intro W hSw; have hcv0 := (HC0.out W hSw).1; have hcv1 := (HC0.out W hSw).2.1; have hcv2 := (HC0.out W hSw).2.2; go_simp; try with_reducible rfl)
      try simp only [List.getElem_toArray, List.getElem_cons_zero, List.getElem_cons_succ, Act.put, List.setIfInBounds_toArray, List.set_cons_zero, List.set_cons_succ]
      refine wpAnyH_take (i := 1) (oi := _) (v := ?_) rfl (by kernel_rfl) (by kernel_rfl) (by kernel_rfl) (fun _ _ _ h => h) (Or.inl ⟨by rfl, ?_⟩) hHeld ?_
      rotate_left
      focus (intro W hSw; go_simp; try with_reducible rfl)
      try simp only [List.getElem_toArray, List.getElem_cons_zero, List.getElem_cons_succ, Act.put, List.setIfInBounds_toArray, List.set_cons_zero, List.set_cons_succ]
      refine wpAnyH_take (i := 2) (oi := _) (v := ?_) rfl (by kernel_rfl) (by kernel_rfl) (by kernel_rfl) (fun _ _ _ h => h) (Or.inl ⟨by rfl, ?_⟩) hHeld ?_
      rotate_left
      focus (intro W hSw; go_simp; try with_reducible rfl)
      try simp only [List.getElem_toArray, List.getElem_cons_zero, List.getElem_cons_succ, Act.put, List.setIfInBounds_toArray, List.set_cons_zero, List.set_cons_succ]
      refine wpAnyH_take (i := 3) (oi := _) (v := ?_) rfl (by kernel_rfl) (by kernel_rfl) (by kernel_rfl) (fun _ _ _ h => h) (Or.inl ⟨by rfl, ?_⟩) hHeld ?_
      rotate_left
      focus (intro W hSw; go_simp; try with_reducible rfl)
      try simp only [List.getElem_toArray, List.getElem_cons_zero, List.getElem_cons_succ, Act.put, List.setIfInBounds_toArray, List.set_cons_zero, List.set_cons_succ]
      refine wpAnyH_take (i := 4) (oi := _) (v := ?_) rfl (by kernel_rfl) (by kernel_rfl) (by kernel_rfl) (fun _ _ _ h => h) (Or.inl ⟨by rfl, ?_⟩) hHeld ?_
      rotate_left
      focus (intro W hSw; have hcv := HCG.out W hSw; go_simp; try with_reducible rfl)
      try simp only [List.getElem_toArray, List.getElem_cons_zero, List.getElem_cons_succ, Act.put, List.setIfInBounds_toArray, List.set_cons_zero, List.set_cons_succ]
      refine wpAnyH_ready (rs := [5]) (by kernel_rfl) (by simp) ?_
      refine AllReadyH.cons (o := _) rfl (fun K hK => ?_) AllReadyH.nil
      go_simp
      refine (HHA.out _ hHeld).mono ?_
      rintro r w9 ⟨rfl, b9⟩
      have HB9 := Lib.hid (below_below hHeld b9 hHeld.size)
      clear b9
      refine hK.out _ _ HB9.out (fun hHeld => ?_)
      clear hK K
      try simp only [List.getElem_toArray, List.getElem_cons_zero, List.getElem_cons_succ, Act.put, List.setIfInBounds_toArray, List.set_cons_zero, List.set_cons_succ]
      refine wpAnyH_take (i := 6) (oi := _) (v := ?_) rfl (by kernel_rfl) (by kernel_rfl) (by kernel_rfl) (fun _ _ _ h => h) (Or.inl ⟨by rfl, ?_⟩) hHeld ?_
      rotate_left
      focus (intro W hSw; go_simp; try with_reducible rfl)
      try simp only [List.getElem_toArray, List.getElem_cons_zero, List.getElem_cons_succ, Act.put, List.setIfInBounds_toArray, List.set_cons_zero, List.set_cons_succ]
      refine wpAnyH_done (by kernel_rfl) ?_ _
      have HE := Lib.hid (below_below HB.out HB9.out hsz)
      clear hHeld
      cases f with
      | true =>
        have HN2 := Lib.hid (HNX.out rfl)
        clear HNX HNO
        go_wp2_with fail
        go_roundw
        case rel => exact ⟨k + 1, by omega, by go_num, HN2.out, HE.out⟩
        case measure => simp [intOf] <;> omega
      | false =>
        have HVV := Lib.hid (HNO.out rfl)
        clear HNX HNO
        go_wp2_with fail
        go_ret
        exact ⟨ret_bool HVV.out.symm, below_below BZ.out HB9.out BZ.out.size⟩
    · have ik : ¬ (k : Int) < (t.length : Int) := by omega
      have HVV : Hid (V = true) := by
        unfold Hid
        rw [← HV.out]
        refine List.all_eq_true.2 fun g hg => ?_
        have : g ∈ t := (HRI.out.mem g).2 (by simpa [allL, bytG] using hg)
        obtain ⟨j, hj, rfl⟩ := List.getElem_of_mem this
        exact HA.out j hj (by omega)
      go_wp2_with fail
      go_ret
      exact ⟨ret_bool HVV.out.symm, BZ.out⟩
end Go.Proofs.YtjffbjlniieciaaDoor
namespace Go.Proofs.YtjffbjlniieciaaDoor
set_option linter.unusedSimpArgs false
set_option linter.unusedVariables false
open Go.RowKit

set_option maxRecDepth 20000 in
set_option maxHeartbeats 4000000 in
theorem makeg_zero {w : World} (l : List ByteArray) {c : Nat} {A : Option Addr} (h : Rd w 0 w.heap.size A c (sv l)) (hsz : ∀ s ∈ l, s.size ≤ 100000) (hlen : l.length ≤ 1000) :
    Calls Tryd.prog 30 #[.slice A l.length c, .int .i64 0] w fun r w' => ∃ (v : Value) (t : List Nat), r = .returned v ∧ Rise (allL (bytG l)) t ∧ Flt w' w.heap.size w'.heap.size v 0 t [] ∧ Below w.heap.size w w' := by
  obtain ⟨w1, hw1⟩ : ∃ w1, w.alloc (.cells #[.int .i64 0, .slice none 0 0, .slice none 0 0] 55) = w1 := ⟨_, rfl⟩
  have B1 : Hid (Below w.heap.size w w1) := by unfold Hid; rw [← hw1]; exact (Below.refl _ w).alloc (Nat.le_refl _) _
  have hk : Blk w1 w.heap.size 55 #[.int .i64 0, .slice none 0 0, .slice none 0 0] := by rw [← hw1]; exact Blk.new w _ _
  have hs1 : w1.heap.size = w.heap.size + 1 := by rw [← hw1]; simp
  have HAL := Lib.hid (allg_any l ((h.below B1.out (Nat.le_refl _)).wide (Nat.le_refl _) B1.out.size) hsz hlen)
  have HK := Lib.hid hk
  clear h hsz hk
  go_enter Tryd.func30, Tryd.ntmps30
  go_wp2_with fail
  refine HAL.out.mono ?_
  rintro r w2 ⟨t, A2, c2, rfl, hri, htl, hrd, b2⟩
  have hk2 := HK.out.below b2 (by omega)
  have HK2 := Lib.hid hk2
  have q0 := hk2.cell 0
  have q1 := hk2.cell 1
  have q2 := hk2.cell 2
  have f0 := hk2.frozen 0
  have f1 := hk2.frozen 1
  have f2 := hk2.frozen 2
  clear hk2
  have HRI := Lib.hid hri
  have HRD := Lib.hid hrd
  have B2 := Lib.hid (B1.out.trans (b2.mono B1.out.size))
  have s2 := b2.size
  have hg2 : w.heap.size < w2.heap.size := by omega
  clear hri hrd b2
  go_wp2_with fail
  obtain ⟨w3, hw3⟩ : ∃ w3, ((w2.setCell ⟨w.heap.size, 0, none⟩ (.int .i64 0)).setCell ⟨w.heap.size, 1, none⟩ (.slice A2 t.length c2)).setCell ⟨w.heap.size, 2, none⟩ (.slice none 0 0) = w3 := ⟨_, rfl⟩
  have hk3 : Blk w3 w.heap.size 55 #[.int .i64 0, .slice A2 t.length c2, .slice none 0 0] := by rw [← hw3]; exact ((HK2.out.put 0 _).put 1 _).put 2 _
  have hb3 : Below w.heap.size w w3 := by rw [← hw3]; exact ((B2.out.setCell (Nat.le_refl _) _).setCell (Nat.le_refl _) _).setCell (Nat.le_refl _) _
  have hr3 : Rd w3 (w.heap.size + 1) w3.heap.size A2 c2 (iv (ints t)) := by
    have h9 : Rd w2 (w.heap.size + 1) w2.heap.size A2 c2 (iv (ints t)) := HRD.out.wide (by omega) (Nat.le_refl _)
    rw [← hw3]
    exact (((h9.setCell (p := ⟨w.heap.size, 0, none⟩) (.inl (Nat.lt_succ_self _)) _).setCell (p := ⟨w.heap.size, 1, none⟩) (.inl (Nat.lt_succ_self _)) _).setCell (p := ⟨w.heap.size, 2, none⟩) (.inl (Nat.lt_succ_self _)) _).wide (Nat.le_refl _) (by simp)
  rw [hw3]
  refine bodyPost_ret (v := .agg #[.int .i64 0, .slice A2 t.length c2, .slice none 0 0]) ?_ rfl ⟨_, t, rfl, HRI.out, ⟨A2, c2, none, 0, rfl, hr3.wide (Nat.le_succ _) (Nat.le_refl _), Rd.nil _ _ _⟩, hb3⟩
  exact results_cell_row rfl _ _ w.heap.size 55 _ (0, 0) _ rfl hk3 Tryd.underlying55 rfl (by kernel_rfl)

/-- the bits of grams -/
def setB (b : Nat) (ts : List Nat) : List Bool := ts.foldl (fun r g => r.set (bitG g b) true) (List.replicate b false)
theorem setB_length (b : Nat) (ts : List Nat) : (setB b ts).length = b := by
  unfold setB
  have : ∀ (ts : List Nat) (r : List Bool), (ts.foldl (fun r g => r.set (bitG g b) true) r).length = r.length := by
    intro ts
    induction ts with
    | nil => intro r; rfl
    | cons g ts ih => intro r; rw [List.foldl_cons, ih]; simp
  rw [this, List.length_replicate]
theorem setB_snoc (b : Nat) (ts : List Nat) (g : Nat) : setB b (ts ++ [g]) = (setB b ts).set (bitG g b) true := by
  unfold setB
  rw [List.foldl_append]
  rfl

set_option maxRecDepth 20000 in
set_option maxHeartbeats 8000000 in
theorem makeg_bits {w : World} (l : List ByteArray) {c : Nat} {A : Option Addr} (h : Rd w 0 w.heap.size A c (sv l)) (hsz : ∀ s ∈ l, s.size ≤ 100000) (hlen : l.length ≤ 1000) (b : Nat) (hb0 : 0 < b) (hb : b ≤ 70000) :
    Calls Tryd.prog 30 #[.slice A l.length c, .int .i64 (b : Int)] w fun r w' => ∃ (v : Value) (t : List Nat), r = .returned v ∧ Rise (allL (bytG l)) t ∧ Flt w' w.heap.size w'.heap.size v b [] (setB b t) ∧ Below w.heap.size w w' := by
  obtain ⟨w1, hw1⟩ : ∃ w1, w.alloc (.cells #[.int .i64 0, .slice none 0 0, .slice none 0 0] 55) = w1 := ⟨_, rfl⟩
  have B1 : Hid (Below w.heap.size w w1) := by unfold Hid; rw [← hw1]; exact (Below.refl _ w).alloc (Nat.le_refl _) _
  have hk : Blk w1 w.heap.size 55 #[.int .i64 0, .slice none 0 0, .slice none 0 0] := by rw [← hw1]; exact Blk.new w _ _
  have hs1 : w1.heap.size = w.heap.size + 1 := by rw [← hw1]; simp
  have HAL := Lib.hid (allg_any l ((h.below B1.out (Nat.le_refl _)).wide (Nat.le_refl _) B1.out.size) hsz hlen)
  have HK := Lib.hid hk
  have ib0 : ¬ (b : Int) = 0 := by omega
  have ib1 : ((b : Int) == 0) = false := by rw [beq_eq_false_iff_ne]; exact ib0
  clear h hsz hk
  go_enter Tryd.func30, Tryd.ntmps30
  go_wp2_with fail
  refine HAL.out.mono ?_
  rintro r w2 ⟨t, A2, c2, rfl, hri, htl, hrd, b2⟩
  have hk2 := HK.out.below b2 (by omega)
  have HK2 := Lib.hid hk2
  have HRI := Lib.hid hri
  have HRD := Lib.hid hrd
  have B2 := Lib.hid (B1.out.trans (b2.mono B1.out.size))
  have s2 := b2.size
  have hg2 : w.heap.size < w2.heap.size := by omega
  have hlc := hrd.len
  have hmc := hrd.cap
  rw [iv_length, ints_length] at hlc
  unfold maxLen at hmc
  clear hri hrd b2 hk2 HAL hw1
  obtain ⟨w3, hmake, hown, hg3⟩ := make_bools w2 b (by omega)
  have B3 := Lib.hid (B2.out.grown hg3 (by omega) (by simp))
  have HK3 := Lib.hid (HK2.out.grown hg3 (by simp))
  have HRD3 := Lib.hid (HRD.out.grown hg3 (Nat.le_refl _) (by simp))
  have HO3 := Lib.hid hown
  have s3 := hg3.size
  have hlt3 : w2.heap.size < w3.heap.size := (own_lt hown (k := w2.heap.size) rfl).2
  clear hown hg3 HK2 HRD
  obtain ⟨w4, hw4⟩ : ∃ w4, w3.alloc (.cells #[.int .i64 (b : Int), .slice none 0 0, .slice (some ⟨w2.heap.size, 0, none⟩) b b] 55) = w4 := ⟨_, rfl⟩
  have B4 : Hid (Below w.heap.size w w4) := by unfold Hid; rw [← hw4]; exact B3.out.alloc (by omega) _
  have HQ4 : Hid (Blk w4 w3.heap.size 55 #[.int .i64 (b : Int), .slice none 0 0, .slice (some ⟨w2.heap.size, 0, none⟩) b b]) := by unfold Hid; rw [← hw4]; exact Blk.new w3 _ _
  have HK4 : Hid (Blk w4 w.heap.size 55 #[.int .i64 0, .slice none 0 0, .slice none 0 0]) := by unfold Hid; rw [← hw4]; exact HK3.out.alloc _
  have HT4 : Hid (Rd w4 w1.heap.size w2.heap.size A2 c2 (iv (ints t))) := by unfold Hid; rw [← hw4]; exact HRD3.out.alloc s3 _
  have HO4 : Hid (w4.ownsRow w2.heap.size 4 1 (.slice (some ⟨w2.heap.size, 0, none⟩) b b) b (lv (setB b []))) := by
    unfold Hid
    rw [← hw4]
    have := HO3.out.alloc (.cells #[.int .i64 (b : Int), .slice none 0 0, .slice (some ⟨w2.heap.size, 0, none⟩) b b] 55)
    simpa [setB, lv] using this
  have s4 : w4.heap.size = w3.heap.size + 1 := by rw [← hw4]; simp
  clear HK3 HRD3 HO3
  go_wp2_with fail
  go_loopw [7] (fun x7 wr => ∃ k : Nat, k ≤ t.length ∧ x7 = .int .i64 (k : Int) ∧ wr.ownsRow w2.heap.size 4 1 (.slice (some ⟨w2.heap.size, 0, none⟩) b b) b (lv (setB b (t.take k))) ∧
    Blk wr w3.heap.size 55 #[.int .i64 (b : Int), .slice none 0 0, .slice (some ⟨w2.heap.size, 0, none⟩) b b] ∧ Blk wr w.heap.size 55 #[.int .i64 0, .slice none 0 0, .slice none 0 0] ∧ Rd wr w1.heap.size w2.heap.size A2 c2 (iv (ints t)) ∧ Below w.heap.size w wr) (fun x7 _ => t.length - (intOf x7).toNat)
  case atStart => exact ⟨0, Nat.zero_le _, rfl, HO4.out, HQ4.out, HK4.out, HT4.out, B4.out⟩
  case round =>
    clear HO4 HQ4 HK4 HT4
    obtain ⟨k, hk, rfl, hown, hq, hz, hrd, hbe⟩ := hrel
    obtain ⟨wz, hwz⟩ : ∃ wz, wz = wr := ⟨_, rfl⟩
    subst hwz
    have HO := Lib.hid hown
    have HQ := Lib.hid hq
    have HZ := Lib.hid hz
    have HR := Lib.hid hrd
    have HB := Lib.hid hbe
    clear hown hq hz hrd hbe
    by_cases hlt : k < t.length
    · have ik : (k : Int) < (t.length : Int) := by omega
      obtain ⟨bb, off, rfl, hbl, hbb, hcell⟩ := HR.out.nat hlt
      have hgl : t[k] < 16777216 := by
        have := (HRI.out.mem t[k]).1 (List.getElem_mem hlt)
        obtain ⟨s, _, h2⟩ := List.mem_flatMap.1 this
        exact gramsL_lt h2
      obtain ⟨q, hqe⟩ : ∃ q, bitG t[k] b = q := ⟨_, rfl⟩
      have hqb : q < b := by rw [← hqe]; exact Nat.mod_lt _ hb0
      have hqz : (((t[k] : Nat) : Int) * 40503 % 65521) % (b : Int) = (q : Int) := by rw [← hqe, bitG, Int.natCast_emod, Int.natCast_emod, Int.natCast_mul]; rfl
      have hbz : (b : Int) ≠ 0 := by omega
      have HSN : Hid (setB b (t.take (k + 1)) = (setB b (t.take k)).set q true) := by
        unfold Hid
        rw [List.take_succ_eq_append_getElem hlt, setB_snoc, hqe]
      have hqc : wz.cell? ⟨w3.heap.size, 2, none⟩ = some (.slice (some ⟨w2.heap.size, 0, none⟩) b b) := HQ.out.cell 2
      have hsl : (lv (setB b (t.take k))).length = b := by rw [lv_length, setB_length]
      obtain ⟨u0, hu0⟩ : ∃ u0, (lv (setB b (t.take k)))[q]? = some u0 := ⟨_, List.getElem?_eq_getElem (by omega)⟩
      have hrc : wz.cell? ⟨w2.heap.size, q, none⟩ = some u0 := by rw [HO.out.cellAt q (by omega), hu0]
      have hrf := HO.out.frozenAt q
      have iqb : (q : Int) < (b : Int) := by omega
      clear hu0 hsl hqe
      generalize t[k] = g at *
      go_wp2_with fail
      go_region
      have hst := HO.out.stored q (.bool true)
      have hst1 : (wz.setCell ⟨w2.heap.size, q, none⟩ (.bool true)).drew.ownsRow w2.heap.size 4 1 (.slice (some ⟨w2.heap.size, 0, none⟩) b b) b (lv (setB b (t.take (k + 1)))) := by
        rw [HSN.out, lv_set]
        exact own_keep hst.1 (fun _ _ => rfl)
      have HS1 := Lib.hid hst1
      have HQ1 : Hid (Blk (wz.setCell ⟨w2.heap.size, q, none⟩ (.bool true)).drew w3.heap.size 55 #[.int .i64 (b : Int), .slice none 0 0, .slice (some ⟨w2.heap.size, 0, none⟩) b b]) := (HQ.out.far (p := ⟨w2.heap.size, q, none⟩) (by show w3.heap.size ≠ w2.heap.size; omega) _).drew
      have HZ1 : Hid (Blk (wz.setCell ⟨w2.heap.size, q, none⟩ (.bool true)).drew w.heap.size 55 #[.int .i64 0, .slice none 0 0, .slice none 0 0]) := (HZ.out.far (p := ⟨w2.heap.size, q, none⟩) (by show w.heap.size ≠ w2.heap.size; omega) _).drew
      have HR1 : Hid (Rd (wz.setCell ⟨w2.heap.size, q, none⟩ (.bool true)).drew w1.heap.size w2.heap.size (some ⟨bb, off, none⟩) c2 (iv (ints t))) := (HR.out.setCell (p := ⟨w2.heap.size, q, none⟩) (.inr (Nat.le_refl _)) _).drew
      have HBB : Hid (Below w.heap.size w (wz.setCell ⟨w2.heap.size, q, none⟩ (.bool true)).drew) := (HB.out.setCell (p := ⟨w2.heap.size, q, none⟩) (by show w.heap.size ≤ w2.heap.size; omega) _).drew
      clear hst hst1
      go_wp2_with fail
      go_roundw
      case rel => exact ⟨k + 1, by omega, by go_num, HS1.out, HQ1.out, HZ1.out, HR1.out, HBB.out⟩
      case measure => simp [intOf] <;> omega
    · have ik : ¬ (k : Int) < (t.length : Int) := by omega
      have hkt : t.take k = t := List.take_of_length_le (by omega)
      rw [hkt] at HO
      have q0 := HQ.out.cell 0
      have q1 := HQ.out.cell 1
      have q2 := HQ.out.cell 2
      have z0 := HZ.out.cell 0
      have z1 := HZ.out.cell 1
      have z2 := HZ.out.cell 2
      have f0 := HZ.out.frozen 0
      have f1 := HZ.out.frozen 1
      have f2 := HZ.out.frozen 2
      clear hkt
      go_wp2_with fail
      obtain ⟨w5, hw5⟩ : ∃ w5, ((wz.setCell ⟨w.heap.size, 0, none⟩ (.int .i64 (b : Int))).setCell ⟨w.heap.size, 1, none⟩ (.slice none 0 0)).setCell ⟨w.heap.size, 2, none⟩ (.slice (some ⟨w2.heap.size, 0, none⟩) b b) = w5 := ⟨_, rfl⟩
      have hk5 : Blk w5 w.heap.size 55 #[.int .i64 (b : Int), .slice none 0 0, .slice (some ⟨w2.heap.size, 0, none⟩) b b] := by rw [← hw5]; exact ((HZ.out.put 0 _).put 1 _).put 2 _
      have hb5 : Below w.heap.size w w5 := by rw [← hw5]; exact ((HB.out.setCell (Nat.le_refl _) _).setCell (Nat.le_refl _) _).setCell (Nat.le_refl _) _
      have hr5 : Rd w5 w2.heap.size w5.heap.size (some ⟨w2.heap.size, 0, none⟩) b (lv (setB b t)) := by
        have h9 := Rd.of_own HO.out
        rw [← hw5]
        exact (((h9.setCell (p := ⟨w.heap.size, 0, none⟩) (.inl hg2) _).setCell (p := ⟨w.heap.size, 1, none⟩) (.inl hg2) _).setCell (p := ⟨w.heap.size, 2, none⟩) (.inl hg2) _).wide (Nat.le_refl _) (by simp)
      rw [hw5]
      refine bodyPost_ret (v := .agg #[.int .i64 (b : Int), .slice none 0 0, .slice (some ⟨w2.heap.size, 0, none⟩) b b]) ?_ rfl ⟨_, rfl, t, HRI.out, ⟨none, 0, _, b, by rw [setB_length]; rfl, Rd.nil _ _ _, hr5.wide (by omega) (Nat.le_refl _)⟩, hb5⟩
      exact results_cell_row rfl _ _ w.heap.size 55 _ (0, 0) _ rfl hk5 Tryd.underlying55 rfl (by kernel_rfl)
end Go.Proofs.YtjffbjlniieciaaDoor
