/-
  Plain facts on memory: a slice that reads as a list, a block known whole, and what keeps them. No program is named here.
  Slices of structs that came in: what lies in memory, element by element, cell by cell. No program is named here.
  Strings as cells.
  Predicates, and values: in plain, and as they lie in memory. No program is named here.
-/
import Derived.WalkKit
import Derived.ProofKit
import Derived.WalkLawsBesides
import Derived.WalkSpells
import Derived.Deep.AppendLies
import Derived.Deep.Draws
import Derived.Below
import Derived.Laws.BytesArg
import Derived.BigQuiet
import Derived.Deep.QuietTactic
import Derived.Lib.Hide
import Derived.Lib.AppendStr
import Derived.Lib.ConvBytes
import Derived.ChangeShapes
import Derived.SizedLaws
import Derived.WideShapes
namespace Go.Proofs.YtmffpbhiehjlpaaGreat
set_option linter.unusedSimpArgs false
set_option linter.unusedVariables false
open Go.RowKit
structure Held (p : Prop) : Prop where
  out : p
theorem held {p : Prop} (h : Held p) : p := h.out
theorem ret_bool {a b : Bool} (h : a = b) : Ending.returned (.bool a) = .returned (.bool b) := by rw [h]
theorem ret_int' {k : IntKind} {a b : Int} (h : a = b) : Ending.returned (.int k a) = .returned (.int k b) := by rw [h]
def bv (l : List UInt8) : List Value := l.map fun c => .int .u8 (c.toNat : Int)
theorem bv_length (l : List UInt8) : (bv l).length = l.length := by simp [bv]
theorem bv_append (a b : List UInt8) : bv (a ++ b) = bv a ++ bv b := by simp [bv]
theorem bv_drop (l : List UInt8) (k : Nat) : bv (l.drop k) = (bv l).drop k := by simp [bv, List.map_drop]
theorem bv_take (l : List UInt8) (k : Nat) : bv (l.take k) = (bv l).take k := by simp [bv, List.map_take]
theorem bv_get (l : List UInt8) (k : Nat) (h : k < l.length) : (bv l)[k]? = some (.int .u8 (l[k].toNat : Int)) := by
  simp [bv, List.getElem?_eq_getElem h]
theorem bv_one (l : List UInt8) : ∀ u ∈ bv l, u.oneCell' = true := by
  intro u hu
  obtain ⟨c, _, rfl⟩ := List.mem_map.1 hu
  rfl
structure Rd (w : World) (lo hi : Nat) (A : Option Addr) (c : Nat) (xs : List Value) : Prop where
  len : xs.length ≤ c
  cap : c ≤ maxLen
  at_ : 0 < xs.length → ∃ b off, A = some ⟨b, off, none⟩ ∧ lo ≤ b ∧ b < hi ∧ ∀ j u, xs[j]? = some u → w.cell? ⟨b, off + j, none⟩ = some u
section
variable {w w' : World} {lo hi lo' hi' c : Nat} {A : Option Addr} {xs : List Value}
theorem Rd.nil (w : World) (lo hi : Nat) : Rd w lo hi none 0 [] := ⟨by simp, by simp [maxLen], fun h => by simp at h⟩
theorem Rd.empty (w : World) (lo hi : Nat) (A : Option Addr) (c : Nat) (hc : c ≤ maxLen) : Rd w lo hi A c [] := ⟨by simp, hc, fun h => by simp at h⟩
theorem Rd.keep (h : Rd w lo hi A c xs) (hk : ∀ p : Addr, lo ≤ p.block → p.block < hi → w'.cell? p = w.cell? p) : Rd w' lo hi A c xs :=
  ⟨h.len, h.cap, fun hn => by
    obtain ⟨b, off, e, h1, h2, h3⟩ := h.at_ hn
    exact ⟨b, off, e, h1, h2, fun j u hu => (hk ⟨b, off + j, none⟩ h1 h2).trans (h3 j u hu)⟩⟩
theorem Rd.wide (h : Rd w lo hi A c xs) (h1 : lo' ≤ lo) (h2 : hi ≤ hi') : Rd w lo' hi' A c xs :=
  ⟨h.len, h.cap, fun hn => by
    obtain ⟨b, off, e, g1, g2, h3⟩ := h.at_ hn
    exact ⟨b, off, e, by omega, by omega, h3⟩⟩
theorem Rd.below {B : Nat} (h : Rd w lo hi A c xs) (hb : Below B w w') (hB : hi ≤ B) : Rd w' lo hi A c xs := h.keep fun _ _ hp => hb.cell (by omega)
theorem Rd.grown {row : Option Nat} (h : Rd w lo hi A c xs) (hg : w.grownBy w' row) (hB : hi ≤ w.heap.size) (hr : ∀ g, row = some g → g < lo ∨ hi ≤ g) : Rd w' lo hi A c xs :=
  h.keep fun p h1 h2 => World.cell?_of_block (hg.block p.block (by omega) (fun e => by have := hr _ e.symm; omega))
theorem Rd.drew (h : Rd w lo hi A c xs) : Rd w.drew lo hi A c xs := h.keep fun _ _ _ => rfl
theorem Rd.drewN (h : Rd w lo hi A c xs) (k : Nat) : Rd (w.drewN k) lo hi A c xs := h.keep fun _ _ _ => rfl
theorem Rd.alloc (h : Rd w lo hi A c xs) (hB : hi ≤ w.heap.size) (o : Obj) : Rd (w.alloc o) lo hi A c xs := h.keep fun p _ hp => World.cell?_alloc_lt w o p (by omega)
theorem Rd.setCell (h : Rd w lo hi A c xs) {p : Addr} (hB : p.block < lo ∨ hi ≤ p.block) (u : Value) : Rd (w.setCell p u) lo hi A c xs :=
  h.keep fun q h1 h2 => World.cell?_setCell_other w p q u (fun e => by subst e; omega)
theorem Rd.get (h : Rd w lo hi A c xs) {k : Nat} (hk : k < xs.length) : ∃ b off, A = some ⟨b, off, none⟩ ∧ lo ≤ b ∧ b < hi ∧ w.cell? ⟨b, off + k, none⟩ = some xs[k] := by
  obtain ⟨b, off, e, h1, h2, h3⟩ := h.at_ (by omega)
  exact ⟨b, off, e, h1, h2, h3 k _ (List.getElem?_eq_getElem hk)⟩
theorem Rd.cut (h : Rd w lo hi A c xs) {k n : Nat} (hk : k ≤ n) (hn : n ≤ xs.length) :
    Rd w lo hi (if c = k then A else A.map (·.add k)) (c - k) ((xs.drop k).take (n - k)) := by
  have hl := h.len
  refine ⟨by simp; omega, by have := h.cap; omega, fun hp => ?_⟩
  have hp' : k < n := by simp at hp; omega
  obtain ⟨b, off, rfl, h1, h2, h3⟩ := h.at_ (by omega)
  rw [if_neg (by omega)]
  refine ⟨b, off + k, by unfold Addr.add; by_cases h0 : k = 0 <;> simp [h0], h1, h2, fun j u hu => ?_⟩
  rw [Nat.add_assoc]
  refine h3 _ u ?_
  rw [List.getElem?_take] at hu
  split at hu
  · rw [← hu, List.getElem?_drop]
  · cases hu
theorem Rd.take_ (h : Rd w lo hi A c xs) (k : Nat) : Rd w lo hi A c (xs.take k) :=
  ⟨by have := h.len; rw [List.length_take]; omega, h.cap, fun hn => by
    obtain ⟨b, off, e, h1, h2, h3⟩ := h.at_ (by rw [List.length_take] at hn; omega)
    refine ⟨b, off, e, h1, h2, fun j u hu => h3 j u ?_⟩
    rw [List.getElem?_take] at hu
    split at hu
    · exact hu
    · cases hu⟩
theorem Rd.of_own {base n : Nat} {e : TypeId} (h : w.ownsRow base e 1 (.slice A n c) n xs) : Rd w base w.heap.size A c xs := by
  rcases h.2 with ⟨hv, hn⟩ | ⟨g, cap, cur, hv, hb, hg, hnc, hcm, hcs, htake⟩
  · injection hv with h1 h2 h3
    subst h1 h2 h3
    have : xs = [] := List.eq_nil_of_length_eq_zero (by simpa using h.1)
    subst this
    exact Rd.nil _ _ _
  · injection hv with h1 h2 h3
    subst h1 h3
    refine ⟨by have := h.1; omega, hcm, fun _ => ⟨g, 0, rfl, hb, (Array.getElem?_eq_some_iff.1 hg).1, fun j u hu => ?_⟩⟩
    have := h.cells (g := g) (by simp [Value.ownBlock]) j u hu
    rw [Nat.zero_add]
    have e : (⟨g, 0, none⟩ : Addr).add j = ⟨g, j, none⟩ := by unfold Addr.add; by_cases h0 : j = 0 <;> simp [h0]
    rwa [e] at this
end
def Blk (w : World) (g : Nat) (t : TypeId) (cs : Array Value) : Prop := w.heap[g]? = some (.cells cs t (0, 0))
section
variable {w w' : World} {g : Nat} {t : TypeId} {cs : Array Value}
theorem Blk.lt (h : Blk w g t cs) : g < w.heap.size := by
  rcases Nat.lt_or_ge g w.heap.size with hlt | hge
  · exact hlt
  · unfold Blk at h; rw [Array.getElem?_eq_none hge] at h; cases h
theorem Blk.cell (h : Blk w g t cs) (i : Nat) : w.cell? ⟨g, i, none⟩ = cs[i]? := cell_of_row w g i cs t (0, 0) h
theorem Blk.frozen (h : Blk w g t cs) (i : Nat) : w.frozen? ⟨g, i, none⟩ = false := by
  unfold Blk at h
  simp [World.frozen?, h]
theorem Blk.new (w : World) (t : TypeId) (cs : Array Value) : Blk (w.alloc (.cells cs t)) w.heap.size t cs := heap_alloc_new w _
theorem Blk.drew (h : Blk w g t cs) : Blk w.drew g t cs := h
theorem Blk.drewN (h : Blk w g t cs) (n : Nat) : Blk (w.drewN n) g t cs := h
theorem Blk.alloc (h : Blk w g t cs) (o : Obj) : Blk (w.alloc o) g t cs := (Below.heap_alloc w o g h.lt).trans h
theorem Blk.put (h : Blk w g t cs) (i : Nat) (u : Value) : Blk (w.setCell ⟨g, i, none⟩ u) g t (cs.setIfInBounds i u) := by
  unfold Blk at h ⊢
  simp [World.setCell, Array.getElem?_modify, h]
theorem Blk.far (h : Blk w g t cs) {p : Addr} (hp : g ≠ p.block) (u : Value) : Blk (w.setCell p u) g t cs := (Below.heap_setCell w p u g hp).trans h
theorem Blk.below {B : Nat} (h : Blk w g t cs) (hb : Below B w w') (hg : g < B) : Blk w' g t cs := (hb.block g hg).trans h
theorem Blk.grown {row : Option Nat} (h : Blk w g t cs) (hb : w.grownBy w' row) (hg : some g ≠ row) : Blk w' g t cs := (hb.block g h.lt hg).trans h
end
section
variable {a w w' : World} {row : Option Nat}
theorem gb_drewN (h : a.grownBy w row) (n : Nat) : a.grownBy (w.drewN n) row := ⟨h.os, h.tape, h.output, h.size, h.block⟩
theorem gb_drew (h : a.grownBy w row) : a.grownBy w.drew row := ⟨h.os, h.tape, h.output, h.size, h.block⟩
theorem gb_alloc (h : a.grownBy w row) (o : Obj) : a.grownBy (w.alloc o) row :=
  ⟨h.os, h.tape, h.output, Nat.le_trans h.size (by simp), fun i hi hne => (Below.heap_alloc w o i (Nat.lt_of_lt_of_le hi h.size)).trans (h.block i hi hne)⟩
theorem gb_setCell {g : Nat} (h : a.grownBy w (some g)) {p : Addr} (hp : p.block = g ∨ a.heap.size ≤ p.block) (u : Value) : a.grownBy (w.setCell p u) (some g) :=
  ⟨h.os, h.tape, h.output, by simpa [World.setCell] using h.size, fun i hi hne => (Below.heap_setCell w p u i (by
    rintro rfl
    rcases hp with hp | hp
    · exact hne (by rw [hp])
    · omega)).trans (h.block i hi hne)⟩
theorem gb_below (h : Below a.heap.size a w) : a.grownBy w row := ⟨h.os, h.tape, h.output, h.size, fun i hi _ => h.block i hi⟩
theorem gb_refl (w : World) (row : Option Nat) : w.grownBy w row := ⟨rfl, rfl, rfl, Nat.le_refl _, fun _ _ _ => rfl⟩
theorem below_of_gb {B : Nat} (hB : B ≤ w.heap.size) (hg : w.grownBy w' row) (hr : ∀ g, row = some g → B ≤ g) : Below B w w' :=
  (Below.refl B w).grown hg hB hr
theorem gb_of_gb_none (h : a.grownBy w none) : a.grownBy w row := ⟨h.os, h.tape, h.output, h.size, fun i hi _ => h.block i hi (by simp)⟩
theorem below_gb_none {B : Nat} (hB : a.heap.size ≤ B) (h : Below B a w) : a.grownBy w none := ⟨h.os, h.tape, h.output, h.size, fun i hi _ => h.block i (by omega)⟩
end
section
variable {P : Program} (w : World)
theorem own_form {base n : Nat} {e : TypeId} {size : Nat} {v : Value} {xs : List Value} (h : w.ownsRow base e size v n xs) : ∃ A c, v = .slice A n c ∧ n ≤ c ∧ c ≤ maxLen := by
  rcases h.2 with ⟨rfl, rfl⟩ | ⟨g, cap, cur, rfl, _, _, h1, h2, _⟩
  · exact ⟨_, _, rfl, Nat.le_refl _, by simp [maxLen]⟩
  · exact ⟨_, _, rfl, h1, h2⟩
theorem run_append_rd (base : Nat) (t ty e : TypeId) (i : TypeInfo) (z : Value) (bytes : Nat) (ht : P.underlying t = some (.slice e)) (hi : P.info? e = some i) (hz : i.zero = some z)
    (hsize : i.size = 1) (hby : i.bytes = bytes) (hzs : z.cells.size = 1)
    (v : Value) (n : Nat) (xs : List Value) (hown : w.ownsRow base e 1 v n xs)
    (lo h' : Nat) (A : Option Addr) (c : Nat) (news : List Value) (hr : Rd w lo h' A c news) (h1 : ∀ u ∈ news, u.oneCell' = true)
    (h63 : n + news.length ≤ maxLen) (hbytes : (n + news.length) * bytes ≤ 140737488355328) (hbase : base ≤ w.heap.size) :
    ∃ A' c' w', (Builtin.append_ #[t, t] ty #[v, .slice A news.length c]).run P w = .ok (.slice A' (n + news.length) c') w' ∧
      w'.ownsRow base e 1 (.slice A' (n + news.length) c') (n + news.length) (xs ++ news) ∧ w.grownBy w' v.ownBlock ∧
      ((Value.slice A' (n + news.length) c').ownBlock = v.ownBlock ∨ (Value.slice A' (n + news.length) c').ownBlock = some w.heap.size) := by
  rcases A with _ | ad
  · have hm : news = [] := by
      rcases Nat.eq_zero_or_pos news.length with h0 | h0
      · exact List.eq_nil_of_length_eq_zero h0
      · obtain ⟨_, _, h, _⟩ := hr.at_ h0
        cases h
    subst hm
    obtain ⟨A', c', rfl, _⟩ := own_form w hown
    refine ⟨A', c', w, ?_, by simpa using hown, gb_refl _ _, .inl rfl⟩
    rcases hown.2 with ⟨hv, rfl⟩ | ⟨g, cap, cur, hv, _, _, hnc, _⟩
    · simp [hv, Builtin.append_, run_underlying ht, sizeOf, typeInfo, hi, Builtin.lenOf, Builtin.firstCells]
    · injection hv with h1 h2 h3
      subst h1 h3
      simp [Builtin.append_, run_underlying ht, sizeOf, typeInfo, hi, Builtin.lenOf, Builtin.firstCells, hnc, storeCells]
  · have hcells : ∀ j u, news[j]? = some u → w.cell? (ad.add j) = some u := by
      intro j u hu
      have hp : 0 < news.length := by
        rcases Nat.eq_zero_or_pos news.length with h0 | h0
        · have hn := List.eq_nil_of_length_eq_zero h0
          subst hn
          simp at hu
        · exact h0
      obtain ⟨b, off, h, _, _, hc⟩ := hr.at_ hp
      injection h with h
      subst h
      have e : (⟨b, off, none⟩ : Addr).add j = ⟨b, off + j, none⟩ := by unfold Addr.add; by_cases h0 : j = 0 <;> simp [h0]
      rw [e]
      exact hc j u hu
    obtain ⟨v', w', hrun, h2, h3, _, h5⟩ := run_append_own_at (P := P) w base t ty e i z 1 bytes ht hi hz hsize hby hzs (by omega) v n xs hown ad news.length c news (by simp) hcells h1 h63 hbytes hbase
    obtain ⟨A', c', rfl, _⟩ := own_form w' h2
    exact ⟨A', c', w', hrun, h2, h3, h5⟩
theorem wpList_append_run {ops : Array Oper} {rest : List Oper} {o : Oper} {a : Act} {Q : Exit → Act → World → Prop} {w w' : World} {v1 v2 v' : Value} (hgd : o.guard = none) (s x : Operand) (t t' : TypeId)
    (ho : o.op = .call { callee := .builtin .append, args := #[s, x], argTypes := #[t, t'] }) (hs : a.eval s = v1) (hx : a.eval x = v2)
    (hr : (Builtin.append_ #[t, t'] o.type #[v1, v2]).run P w = .ok v' w') (h : wpList P ops Q rest (a.put o.dst v') w') : wpList P ops Q (o :: rest) a w := by
  refine wpList_plain hgd fun K hK => ?_
  unfold Oper.wp execOp
  simp only [ho, resolve, invoke, builtin, Sem.run_bind, Sem.run_pure, Result.andThen_ok, List.map_toArray, List.map_cons, List.map_nil, hs, hx, hr]
  exact hK _ _ h
theorem nums_bytes (bs : List UInt8) : (bs.map fun c => (c.toNat : Int)).map (fun n => UInt8.ofNat n.toNat) = bs := by
  rw [List.map_map]
  conv => rhs; rw [← List.map_id bs]
  apply List.map_congr_left
  intro c _
  simp
theorem run_string_rd (src dst e : TypeId) (hs : P.underlying src = some (.slice e)) (he : P.underlying e = some (.int .u8)) (hd : P.underlying dst = some .string)
    (lo hi : Nat) (A : Option Addr) (c : Nat) (bs : List UInt8) (hr : Rd w lo hi A c (bv bs)) :
    (convert src dst (.slice A bs.length c)).run P w = .ok (.string ⟨bs.toArray⟩) w := by
  rcases A with _ | ad
  · have hm : bs = [] := by
      rcases Nat.eq_zero_or_pos (bv bs).length with h0 | h0
      · exact List.eq_nil_of_length_eq_zero (by simpa [bv] using h0)
      · obtain ⟨_, _, h, _⟩ := hr.at_ h0
        cases h
    subst hm
    rw [run_convert_bytes_string w src dst e _ _ c hs he hd]
    rfl
  · rcases bs with _ | ⟨x, r⟩
    · rw [run_convert_bytes_string w src dst e _ _ c hs he hd]
      have := run_bytesToString (P := P) w ad 0 c [] (by simp [loadCells, loadCellsFrom, Sem.run_pure])
      exact this
    · obtain ⟨b, off, h, _, _, hc⟩ := hr.at_ (by simp [bv])
      injection h with h
      subst h
      have := run_convert_bytes_arg (P := P) w src e hs he b off (x :: r).length c ((x :: r).map fun c => (c.toNat : Int)) (by simp) (fun i hi => by
        refine hc i _ ?_
        rw [bv_get _ _ hi]
        have e : ((x :: r).map fun c : UInt8 => (c.toNat : Int))[i]? = some ((x :: r)[i].toNat : Int) := by rw [List.getElem?_map, List.getElem?_eq_getElem hi]; rfl
        unfold List.getD
        rw [e]
        rfl) dst hd
      rw [this]
      unfold strOfNums
      rw [nums_bytes]
end
section
variable {P : Program} {f : FuncId} {args : Array Value} {w : World} {v : Value}
theorem quiet_pure {n : Nat} (h : Calls P f args (w.drewN n) fun e w' => e = .returned v ∧ w.drewN n = w') : Calls P f args (w.drewN n) fun e w'' => e = .returned v ∧ ∃ m, w'' = w.drewN m :=
  h.mono fun _ _ ⟨he, hm⟩ => ⟨he, n, hm.symm⟩
theorem quiet_pure_on {a n : Nat} (h : Calls P f args (w.drewN (a + n)) fun e w' => e = .returned v ∧ w.drewN (a + n) = w') : Calls P f args (w.drewN (a + n)) fun e w'' => e = .returned v ∧ ∃ m, w'' = w.drewN (a + m) :=
  h.mono fun _ _ ⟨he, hm⟩ => ⟨he, n, hm.symm⟩
theorem quiet_draws_on {a n : Nat} (h : Calls P f args (w.drewN (a + n)) fun e w' => e = .returned v ∧ ∃ m, w' = (w.drewN (a + n)).drewN m) : Calls P f args (w.drewN (a + n)) fun e w'' => e = .returned v ∧ ∃ m, w'' = w.drewN (a + m) :=
  h.mono fun _ _ ⟨he, m, hm⟩ => ⟨he, n + m, by rw [hm, World.drewN_drewN, Nat.add_assoc]⟩
end
section
variable (w : World) (e : TypeId) (s : ByteArray)
theorem bytesWorld_below {B : Nat} (hB : B ≤ w.heap.size) : Below B w (Lib.bytesWorld w e s) :=
  ⟨rfl, rfl, rfl, by rw [Lib.bytesWorld_size]; omega, fun k hk => Lib.bytesWorld_at_old w e s k (by omega)⟩
theorem bytesWorld_rd (h : grownCap w s.size 0 e ≤ maxLen) : Rd (Lib.bytesWorld w e s) w.heap.size (w.heap.size + 1) (some ⟨w.heap.size, 0, none⟩) (grownCap w s.size 0 e) (bv s.data.toList) := by
  have hg := grownCap_ge w s.size 0 e
  refine ⟨by rw [bv_length]; exact hg, h, fun _ => ⟨w.heap.size, 0, rfl, Nat.le_refl _, by omega, fun j u hu => ?_⟩⟩
  have hj : j < s.size := by
    rcases Nat.lt_or_ge j s.size with h1 | h1
    · exact h1
    · rw [List.getElem?_eq_none (by rw [bv_length]; exact h1)] at hu; cases hu
  rw [Nat.zero_add, Lib.bytesWorld_cell w e s j hj]
  have hjl : j < s.data.toList.length := hj
  rw [bv_get _ _ hjl] at hu
  injection hu with hu
  rw [← hu, List.getD, List.getElem?_eq_getElem hjl, Option.getD_some]
end
theorem Rd.own {w : World} {base n c : Nat} {A : Option Addr} {e : TypeId} {xs : List Value} (h : w.ownsRow base e 1 (.slice A n c) n xs) : Rd w base w.heap.size A c xs := Rd.of_own h
theorem own_base {w : World} {base base' n : Nat} {e : TypeId} {size : Nat} {v : Value} {xs : List Value} (h : w.ownsRow base e size v n xs) (hb : base' ≤ base) : w.ownsRow base' e size v n xs := by
  obtain ⟨hl, hr⟩ := h
  refine ⟨hl, ?_⟩
  rcases hr with h0 | ⟨g, cap, cur, hv, hg, hrest⟩
  · exact .inl h0
  · exact .inr ⟨g, cap, cur, hv, by omega, hrest⟩
theorem own_below {w w' : World} {base n B : Nat} {e : TypeId} {size : Nat} {v : Value} {xs : List Value} (h : w.ownsRow base e size v n xs) (hb : Below B w w') (hB : w.heap.size ≤ B) : w'.ownsRow base e size v n xs :=
  h.kept (below_gb_none hB hb) (by cases hv : v.ownBlock <;> simp)
theorem own_byte (w : World) (e : TypeId) (X : Int) (b : UInt8) (h : X = (b.toNat : Int)) : (w.alloc (.cells #[.int .u8 X] e)).ownsRow w.heap.size e 1 (.slice (some ⟨w.heap.size, 0, none⟩) 1 1) [b].length (bv [b]) := by
  subst h
  exact World.ownsRow_lit w #[_] 1 (Nat.le_refl _) (by simp [maxLen]) rfl
theorem below_some {B g : Nat} {a w w' : World} (h : Below B a w) (hg : w.grownBy w' (some g)) (hB : B ≤ w.heap.size) (hl : B ≤ g) : Below B a w' :=
  h.grown hg hB (fun k hk => by injection hk with hk; omega)
theorem below_drewN' {B : Nat} {a w : World} (h : Below B a w) (n : Nat) : Below B a (w.drewN n) := ⟨h.os, h.tape, h.output, h.size, h.block⟩
theorem below_below {B B' : Nat} {a w w' : World} (h : Below B a w) (h' : Below B' w w') (hB : B ≤ B') : Below B a w' := h.trans (h'.mono hB)
theorem own_spot {w : World} {base n c : Nat} {A : Option Addr} {e : TypeId} {xs : List Value} (h : w.ownsRow base e 1 (.slice A n c) n xs) (hn : 0 < n) : ∃ g, A = some ⟨g, 0, none⟩ ∧ base ≤ g ∧ g < w.heap.size := by
  rcases h.2 with ⟨h1, h2⟩ | ⟨g, cap, cur, hv, hb, hg, _⟩
  · omega
  · injection hv with hv
    exact ⟨g, hv, hb, (Array.getElem?_eq_some_iff.1 hg).1⟩
theorem own_row {w : World} {base n : Nat} {e : TypeId} {size : Nat} {v : Value} {xs : List Value} (h : w.ownsRow base e size v n xs) : ∀ k, v.ownBlock = some k → base ≤ k := fun k hk => (h.lt k hk).1
theorem str_eta (s : ByteArray) : (⟨s.data.toList.toArray⟩ : ByteArray) = s := by cases s; simp
end Go.Proofs.YtmffpbhiehjlpaaGreat
namespace Go.Proofs.YtmffpbhiehjlpaaGreat
set_option linter.unusedSimpArgs false
set_option linter.unusedVariables false
open Go.RowKit Go.ChangeShapes Go.WideShapes Go.ChangeAt
theorem list_of {α : Type} {n : Nat} {Q : Nat → α → Prop} (h : ∀ i, i < n → ∃ x, Q i x) : ∃ l : List α, l.length = n ∧ ∀ i (hi : i < l.length), Q i l[i] := by
  induction n with
  | zero => exact ⟨[], rfl, fun i hi => absurd hi (Nat.not_lt_zero i)⟩
  | succ n ih =>
    obtain ⟨l, hl, hq⟩ := ih fun i hi => h i (by omega)
    obtain ⟨x, hx⟩ := h n (by omega)
    refine ⟨l ++ [x], by simp [hl], fun i hi => ?_⟩
    rw [List.length_append, List.length_singleton] at hi
    by_cases e : i < l.length
    · rw [List.getElem_append_left e]; exact hq i e
    · have : i = n := by omega
      subst this
      rw [List.getElem_append_right (by omega)]
      simpa [hl] using hx
structure Els (w : World) (lo hi : Nat) (A : Option Addr) (c k n : Nat) (cell : Nat → Nat → Option Value) : Prop where
  len : n ≤ c
  cap : c ≤ maxLen
  lies : 0 < n → ∃ b off, A = some ⟨b, off, none⟩ ∧ lo ≤ b ∧ b < hi ∧ ∀ j, j < n → ∀ i, i < k → w.cell? ⟨b, off + j * k + i, none⟩ = cell j i
theorem Els.keep {w w' : World} {lo hi c k n : Nat} {A : Option Addr} {cell : Nat → Nat → Option Value} (h : Els w lo hi A c k n cell) (hk : ∀ p : Addr, lo ≤ p.block → p.block < hi → w'.cell? p = w.cell? p) : Els w' lo hi A c k n cell :=
  ⟨h.len, h.cap, fun h0 => by
    obtain ⟨b, off, e, h1, h2, h3⟩ := h.lies h0
    exact ⟨b, off, e, h1, h2, fun j hj i hi => (hk ⟨b, off + j * k + i, none⟩ h1 h2).trans (h3 j hj i hi)⟩⟩
theorem Els.below {w w' : World} {lo hi c k n B : Nat} {A : Option Addr} {cell : Nat → Nat → Option Value} (h : Els w lo hi A c k n cell) (hb : Below B w w') (hB : hi ≤ B) : Els w' lo hi A c k n cell :=
  h.keep fun _ _ hp => hb.cell (by omega)
theorem Els.wide {w : World} {lo hi lo' hi' c k n : Nat} {A : Option Addr} {cell : Nat → Nat → Option Value} (h : Els w lo hi A c k n cell) (h1 : lo' ≤ lo) (h2 : hi ≤ hi') : Els w lo' hi' A c k n cell :=
  ⟨h.len, h.cap, fun h0 => by
    obtain ⟨b, off, e, h3, h4, h5⟩ := h.lies h0
    exact ⟨b, off, e, by omega, by omega, h5⟩⟩
theorem Els.nil (w : World) (lo hi k : Nat) (cell : Nat → Nat → Option Value) : Els w lo hi none 0 k 0 cell := ⟨Nat.le_refl _, by simp [maxLen], fun h => absurd h (Nat.lt_irrefl 0)⟩
variable {H : Type} {enc : TypeId × Value → H} {P : Program} {W : World}
theorem open_els {t e : TypeId} {fuel k : Nat} {cs : List Value} {x : DataW H × List MemPlace} (ht : P.underlying t = some (.slice e)) (hk : P.cellsOf e = k) (h0 : 0 < k)
    (h : DataW.trod enc P W 0 (fun _ => true) true fuel t cs = some x) :
    ∃ (A : Option Addr) (c : Nat) (css : List (List Value)) (m : Nat), m < fuel ∧ cs = [.slice A css.length c] ∧ Els W 0 W.heap.size A c k css.length (fun j i => (css[j]?).bind (·[i]?)) ∧
      ∀ j (hj : j < css.length), css[j].length = k ∧ ∃ y, DataW.trod enc P W 0 (fun _ => true) true m e css[j] = some y := by
  rcases DataW.trod_slice ht h with ⟨rfl, _⟩ | ⟨a, len, cap, elems, rest, n, rfl, rfl, _, hb, hl, hm, hlen, hel, _, _⟩
  · refine ⟨none, 0, [], 0, ?_, rfl, Els.nil _ _ _ _ _, fun j hj => absurd hj (Nat.not_lt_zero j)⟩
    cases fuel with
    | zero => simp [DataW.trod] at h
    | succ n => omega
  · have hex : ∀ i, i < len → ∃ cs', W.cells? 0 (a.add (i * k)) k = some cs' ∧ ∃ y, DataW.trod enc P W 0 (fun _ => true) true n e cs' = some y := fun i hi => by
      have h1 := hel i hi
      rw [hk] at h1
      have h2 : elems[i]? = some elems[i] := List.getElem?_eq_getElem (by omega)
      rw [h2, Option.bind_eq_some_iff] at h1
      obtain ⟨cs', h3, h4⟩ := h1
      exact ⟨cs', h3, _, h4⟩
    obtain ⟨css, hcl, hcs⟩ := list_of hex
    subst hcl
    refine ⟨some a, cap, css, n, Nat.lt_succ_self n, rfl, ⟨hl, hm, fun hp => ?_⟩, fun j hj => ⟨(World.cells?_some (hcs j hj).1).2.1, (hcs j hj).2⟩⟩
    have hfirst : ∃ u, W.cell? a = some u := by
      obtain ⟨_, h2, h3⟩ := World.cells?_some (hcs 0 hp).1
      have h4 := h3 0 h0
      rw [Nat.zero_mul, show (a.add 0).add 0 = a from rfl, List.getElem?_eq_getElem (by omega)] at h4
      exact ⟨_, h4⟩
    obtain ⟨u, hu⟩ := hfirst
    obtain ⟨b, off, spot⟩ := a
    have hspot : spot = none := World.cell?_spot hu
    subst hspot
    have hlt : b < W.heap.size := World.block_lt_of_cell? W _ hu
    have hadd : ∀ d, (⟨b, off, none⟩ : Addr).add d = ⟨b, off + d, none⟩ := fun d => by unfold Addr.add; by_cases h : d = 0 <;> simp [h]
    have hadd2 : ∀ o d, (⟨b, o, none⟩ : Addr).add d = ⟨b, o + d, none⟩ := fun o d => by unfold Addr.add; by_cases h : d = 0 <;> simp [h]
    refine ⟨b, off, rfl, Nat.zero_le _, hlt, fun j hj i hi => ?_⟩
    obtain ⟨_, h2, h3⟩ := World.cells?_some (hcs j hj).1
    have h4 := h3 i hi
    rw [hadd2, hadd2] at h4
    rw [h4, List.getElem?_eq_getElem hj]
    rfl
end Go.Proofs.YtmffpbhiehjlpaaGreat
namespace Go.Proofs.YtmffpbhiehjlpaaGreat
set_option linter.unusedSimpArgs false
set_option linter.unusedVariables false
def sv (l : List ByteArray) : List Value := l.map .string
theorem sv_length (l : List ByteArray) : (sv l).length = l.length := by simp [sv]
theorem sv_append (a b : List ByteArray) : sv (a ++ b) = sv a ++ sv b := by simp [sv]
theorem sv_drop (l : List ByteArray) (k : Nat) : sv (l.drop k) = (sv l).drop k := by simp [sv, List.map_drop]
theorem sv_take (l : List ByteArray) (k : Nat) : sv (l.take k) = (sv l).take k := by simp [sv, List.map_take]
theorem sv_get (l : List ByteArray) (k : Nat) (h : k < l.length) : (sv l)[k]? = some (.string l[k]) := by simp [sv, List.getElem?_eq_getElem h]
theorem sv_one (l : List ByteArray) : ∀ u ∈ sv l, u.oneCell' = true := by
  intro u hu
  obtain ⟨c, _, rfl⟩ := List.mem_map.1 hu
  rfl
theorem Rd.str {w : World} {lo hi c : Nat} {A : Option Addr} {l : List ByteArray} (h : Rd w lo hi A c (sv l)) {k : Nat} (hk : k < l.length) :
    ∃ b off, A = some ⟨b, off, none⟩ ∧ lo ≤ b ∧ b < hi ∧ w.cell? ⟨b, off + k, none⟩ = some (.string l[k]) := by
  obtain ⟨b, off, e, h1, h2, h3⟩ := h.at_ (by rw [sv_length]; omega)
  exact ⟨b, off, e, h1, h2, h3 k _ (sv_get l k hk)⟩
def strsL (ls : List (List UInt8)) : List ByteArray := ls.map fun l => ⟨l.toArray⟩
theorem strsL_length (ls : List (List UInt8)) : (strsL ls).length = ls.length := by simp [strsL]
end Go.Proofs.YtmffpbhiehjlpaaGreat
namespace Go.Proofs.YtmffpbhiehjlpaaGreat
set_option linter.unusedSimpArgs false
set_option linter.unusedVariables false
open Go.RowKit
inductive Pr where
  | mk (kind col : Int) (s : ByteArray) (esc coll : Int) (kids : List Pr)
def Pr.kind : Pr → Int | .mk k _ _ _ _ _ => k
def Pr.col : Pr → Int | .mk _ c _ _ _ _ => c
def Pr.s : Pr → ByteArray | .mk _ _ s _ _ _ => s
def Pr.esc : Pr → Int | .mk _ _ _ e _ _ => e
def Pr.coll : Pr → Int | .mk _ _ _ _ c _ => c
def Pr.kids : Pr → List Pr | .mk _ _ _ _ _ l => l
theorem Pr.kid_lt {p q : Pr} (h : q ∈ p.kids) : SizeOf.sizeOf q < SizeOf.sizeOf p := by
  cases p with
  | mk k c s e o l =>
    have := List.sizeOf_lt_of_mem (show q ∈ l from h)
    simp only [Pr.mk.sizeOf_spec]
    omega
theorem Pr.ind {Q : Pr → Prop} (h : ∀ p, (∀ q ∈ p.kids, Q q) → Q p) : ∀ p, Q p := by
  intro p
  generalize hn : SizeOf.sizeOf p = n
  induction n using Nat.strongRecOn generalizing p with
  | _ n ih => exact h p fun q hq => ih (SizeOf.sizeOf q) (hn ▸ Pr.kid_lt hq) q rfl
def I64 (z : Int) : Prop := -9223372036854775808 ≤ z ∧ z ≤ 9223372036854775807
structure PrOk (p : Pr) : Prop where
  s : p.s.size ≤ 9223372036854775807
  kind : I64 p.kind
  col : I64 p.col
  esc : I64 p.esc
  coll : I64 p.coll
def prVals (p : Pr) (A : Option Addr) (c : Nat) : List Value := [.int .i64 p.kind, .int .i64 p.col, .string p.s, .int .i64 p.esc, .int .i64 p.coll, .slice A p.kids.length c]
inductive Kin (w : World) (lo hi : Nat) : List Pr → Option Addr → Nat → Prop
  | mk (l : List Pr) (A : Option Addr) (c : Nat) (kA : Nat → Option Addr) (kc : Nat → Nat) (he : Els w lo hi A c 6 l.length (fun j i => (l[j]?).bind fun p => (prVals p (kA j) (kc j))[i]?))
      (ho : ∀ j (hj : j < l.length), PrOk l[j]) (hk : ∀ j (hj : j < l.length), Kin w lo hi l[j].kids (kA j) (kc j)) : Kin w lo hi l A c
theorem Kin.kept {w w' : World} {lo hi B : Nat} (hb : Below B w w') (hB : hi ≤ B) {l : List Pr} {A : Option Addr} {c : Nat} (h : Kin w lo hi l A c) : Kin w' lo hi l A c := by
  induction h with
  | mk l A c kA kc he ho hk ih => exact .mk l A c kA kc (he.below hb hB) ho ih
theorem Kin.drewN {w : World} {lo hi : Nat} {l : List Pr} {A : Option Addr} {c : Nat} (h : Kin w lo hi l A c) (m : Nat) : Kin (w.drewN m) lo hi l A c := by
  induction h with
  | mk l A c kA kc he ho hk ih => exact .mk l A c kA kc (he.keep fun _ _ _ => rfl) ho ih
theorem Kin.wide {w : World} {lo hi lo' hi' : Nat} {l : List Pr} {A : Option Addr} {c : Nat} (h1 : lo' ≤ lo) (h2 : hi ≤ hi') (h : Kin w lo hi l A c) : Kin w lo' hi' l A c := by
  induction h with
  | mk l A c kA kc he ho hk ih => exact .mk l A c kA kc (he.wide h1 h2) ho ih
theorem Kin.len {w : World} {lo hi : Nat} {l : List Pr} {A : Option Addr} {c : Nat} (h : Kin w lo hi l A c) : l.length ≤ c ∧ c ≤ 9223372036854775807 := by
  cases h with
  | mk l A c kA kc he ho hk => exact ⟨he.len, by have := he.cap; simpa [maxLen] using this⟩
theorem Kin.get {w : World} {lo hi : Nat} {l : List Pr} {A : Option Addr} {c : Nat} (h : Kin w lo hi l A c) {j : Nat} (hj : j < l.length) :
    ∃ b off kA kc, A = some ⟨b, off, none⟩ ∧ lo ≤ b ∧ b < hi ∧ (∀ i, i < 6 → w.cell? ⟨b, off + j * 6 + i, none⟩ = (prVals l[j] kA kc)[i]?) ∧ PrOk l[j] ∧ Kin w lo hi l[j].kids kA kc := by
  cases h with
  | mk l A c kA kc he ho hk =>
    obtain ⟨b, off, h1, h2, h3, h4⟩ := he.lies (by omega)
    refine ⟨b, off, kA j, kc j, h1, h2, h3, fun i hi => ?_, ho j hj, hk j hj⟩
    have := h4 j hj i hi
    rw [List.getElem?_eq_getElem hj] at this
    exact this
def PrV (w : World) (lo hi : Nat) (v : Value) (p : Pr) : Prop := ∃ A c, v = .agg #[.int .i64 p.kind, .int .i64 p.col, .string p.s, .int .i64 p.esc, .int .i64 p.coll, .slice A p.kids.length c] ∧ PrOk p ∧ Kin w lo hi p.kids A c
theorem PrV.below {w w' : World} {lo hi B : Nat} {v : Value} {p : Pr} (h : PrV w lo hi v p) (hb : Below B w w') (hB : hi ≤ B) : PrV w' lo hi v p := by
  obtain ⟨A, c, h1, h2, h3⟩ := h
  exact ⟨A, c, h1, h2, h3.kept hb hB⟩
theorem PrV.drewN {w : World} {lo hi : Nat} {v : Value} {p : Pr} (h : PrV w lo hi v p) (m : Nat) : PrV (w.drewN m) lo hi v p := by
  obtain ⟨A, c, h1, h2, h3⟩ := h
  exact ⟨A, c, h1, h2, h3.drewN m⟩
theorem PrV.wide {w : World} {lo hi lo' hi' : Nat} {v : Value} {p : Pr} (h : PrV w lo hi v p) (h1 : lo' ≤ lo) (h2 : hi ≤ hi') : PrV w lo' hi' v p := by
  obtain ⟨A, c, h3, h4, h5⟩ := h
  exact ⟨A, c, h3, h4, h5.wide h1 h2⟩
structure Vl where
  null : Bool
  s : ByteArray
  deriving DecidableEq
def vlVals (v : Vl) : List Value := [.bool v.null, .string v.s]
structure Row (w : World) (lo hi : Nat) (A : Option Addr) (c : Nat) (r : List Vl) : Prop where
  els : Els w lo hi A c 2 r.length (fun j i => (r[j]?).bind fun v => (vlVals v)[i]?)
  ok : ∀ v ∈ r, v.s.size ≤ 9223372036854775807
theorem Row.below {w w' : World} {lo hi B c : Nat} {A : Option Addr} {r : List Vl} (h : Row w lo hi A c r) (hb : Below B w w') (hB : hi ≤ B) : Row w' lo hi A c r := ⟨h.els.below hb hB, h.ok⟩
theorem Row.drewN {w : World} {lo hi c : Nat} {A : Option Addr} {r : List Vl} (h : Row w lo hi A c r) (m : Nat) : Row (w.drewN m) lo hi A c r := ⟨h.els.keep fun _ _ _ => rfl, h.ok⟩
theorem Row.wide {w : World} {lo hi lo' hi' c : Nat} {A : Option Addr} {r : List Vl} (h : Row w lo hi A c r) (h1 : lo' ≤ lo) (h2 : hi ≤ hi') : Row w lo' hi' A c r := ⟨h.els.wide h1 h2, h.ok⟩
theorem Row.len {w : World} {lo hi c : Nat} {A : Option Addr} {r : List Vl} (h : Row w lo hi A c r) : r.length ≤ c ∧ c ≤ 9223372036854775807 := ⟨h.els.len, by have := h.els.cap; simpa [maxLen] using this⟩
theorem Row.get {w : World} {lo hi c : Nat} {A : Option Addr} {r : List Vl} (h : Row w lo hi A c r) {j : Nat} (hj : j < r.length) :
    ∃ b off, A = some ⟨b, off, none⟩ ∧ lo ≤ b ∧ b < hi ∧ w.cell? ⟨b, off + j * 2, none⟩ = some (.bool r[j].null) ∧ w.cell? ⟨b, off + j * 2 + 1, none⟩ = some (.string r[j].s) := by
  obtain ⟨b, off, h1, h2, h3, h4⟩ := h.els.lies (by omega)
  have h5 := h4 j hj 0 (by omega)
  have h6 := h4 j hj 1 (by omega)
  rw [List.getElem?_eq_getElem hj] at h5 h6
  exact ⟨b, off, h1, h2, h3, h5, h6⟩
structure Rows2 (w : World) (lo hi : Nat) (A : Option Addr) (c : Nat) (rs : List (List Vl)) (rA : Nat → Option Addr) (rc : Nat → Nat) : Prop where
  els : Els w lo hi A c 1 rs.length (fun j i => (rs[j]?).bind fun r => [Value.slice (rA j) r.length (rc j)][i]?)
  row : ∀ j (hj : j < rs.length), Row w lo hi (rA j) (rc j) rs[j]
theorem Rows2.below {w w' : World} {lo hi B c : Nat} {A : Option Addr} {rs : List (List Vl)} {rA : Nat → Option Addr} {rc : Nat → Nat} (h : Rows2 w lo hi A c rs rA rc) (hb : Below B w w') (hB : hi ≤ B) : Rows2 w' lo hi A c rs rA rc :=
  ⟨h.els.below hb hB, fun j hj => (h.row j hj).below hb hB⟩
theorem Rows2.drewN {w : World} {lo hi c : Nat} {A : Option Addr} {rs : List (List Vl)} {rA : Nat → Option Addr} {rc : Nat → Nat} (h : Rows2 w lo hi A c rs rA rc) (m : Nat) : Rows2 (w.drewN m) lo hi A c rs rA rc :=
  ⟨h.els.keep fun _ _ _ => rfl, fun j hj => (h.row j hj).drewN m⟩
theorem Rows2.wide {w : World} {lo hi lo' hi' c : Nat} {A : Option Addr} {rs : List (List Vl)} {rA : Nat → Option Addr} {rc : Nat → Nat} (h : Rows2 w lo hi A c rs rA rc) (h1 : lo' ≤ lo) (h2 : hi ≤ hi') : Rows2 w lo' hi' A c rs rA rc :=
  ⟨h.els.wide h1 h2, fun j hj => (h.row j hj).wide h1 h2⟩
theorem Rows2.len {w : World} {lo hi c : Nat} {A : Option Addr} {rs : List (List Vl)} {rA : Nat → Option Addr} {rc : Nat → Nat} (h : Rows2 w lo hi A c rs rA rc) : rs.length ≤ c ∧ c ≤ 9223372036854775807 := ⟨h.els.len, by have := h.els.cap; simpa [maxLen] using this⟩
theorem Rows2.get {w : World} {lo hi c : Nat} {A : Option Addr} {rs : List (List Vl)} {rA : Nat → Option Addr} {rc : Nat → Nat} (h : Rows2 w lo hi A c rs rA rc) {j : Nat} (hj : j < rs.length) :
    ∃ b off, A = some ⟨b, off, none⟩ ∧ lo ≤ b ∧ b < hi ∧ w.cell? ⟨b, off + j, none⟩ = some (.slice (rA j) rs[j].length (rc j)) ∧ Row w lo hi (rA j) (rc j) rs[j] := by
  obtain ⟨b, off, h1, h2, h3, h4⟩ := h.els.lies (by omega)
  have h5 := h4 j hj 0 (by omega)
  rw [List.getElem?_eq_getElem hj, Nat.mul_one] at h5
  exact ⟨b, off, h1, h2, h3, h5, h.row j hj⟩
end Go.Proofs.YtmffpbhiehjlpaaGreat
