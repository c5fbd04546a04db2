/-
  The symbol package: Put.
-/
import Derived.Test.YtfekdbdkcfhkiaaSyA
import Derived.Test.YtfekdbdkcfhkiaaApS
namespace Go.Proofs.Ytfekdbdkcfhkiaa
set_option linter.unusedSimpArgs false
set_option linter.unusedVariables false
open Go.RowKit

theorem putT_len {l : List (List UInt8)} (h : ∀ s ∈ l, s.length ≤ 8) : (putT l).length ≤ 1 + 9 * l.length := by
  unfold putT
  rw [List.length_cons]
  have : ∀ l : List (List UInt8), (∀ s ∈ l, s.length ≤ 8) → (l.flatMap fun s => UInt8.ofNat s.length :: s).length ≤ 9 * l.length := by
    intro l
    induction l with
    | nil => intro _; simp
    | cons a l ih =>
      intro h
      rw [List.flatMap_cons, List.length_append, List.length_cons, List.length_cons]
      have h1 := h a List.mem_cons_self
      have h2 := ih fun s hs => h s (List.mem_cons_of_mem _ hs)
      omega
  have := this l h
  omega

theorem sput_no {w : World} (l : List ByteArray) {lo hi c : Nat} {A : Option Addr} (h : Rd w lo hi A c (sv l)) (h1k : ∀ s ∈ l, s.size ≤ 9223372036854775807) (hr : rightT (bytL2 l) = false) :
    Calls Try.prog 11 #[.slice A l.length c] w fun r w' => r = .returned (.tuple #[.slice none 0 0, .int .i64 1]) ∧ ∃ m, w' = w.drewN m := by
  have HR := Lib.hid (sright_any l h h1k)
  rw [hr] at HR
  clear h h1k hr
  go_enter Try.func11, Try.ntmps11
  go_wp2_with fail
  refine HR.out.mono ?_
  rintro r w' ⟨rfl, m, rfl⟩
  go_wp2_with fail
  go_ret2
  exact ⟨rfl, m, rfl⟩

set_option maxRecDepth 20000 in
set_option maxHeartbeats 2000000 in
theorem sput_yes {w : World} (l : List ByteArray) {c : Nat} {A : Option Addr} (h : Rd w 0 w.heap.size A c (sv l)) (hr : rightT (bytL2 l) = true) :
    Calls Try.prog 11 #[.slice A l.length c] w fun r w' => ∃ A' c', r = .returned (.tuple #[.slice A' (putT (bytL2 l)).length c', .int .i64 0]) ∧ w'.ownsRow w.heap.size 5 1 (.slice A' (putT (bytL2 l)).length c') (putT (bytL2 l)).length (bv (putT (bytL2 l))) ∧ Below w.heap.size w w' := by
  have hl := h.len
  have hm := h.cap
  rw [sv_length] at hl
  unfold maxLen at hm
  have hl5 : l.length ≤ 255 := by have := (rightT_iff.1 hr).1; rw [bytL2_length] at this; exact this
  have h8 : ∀ s ∈ l, s.size ≤ 8 := fun s hs => by
    have := (rightT_iff.1 hr).2.1 s.data.toList (List.mem_map_of_mem hs)
    have := (okS_iff.1 this).2
    rw [Array.length_toList] at this
    exact this
  have HR := Lib.hid (sright_any l h fun s hs => by have := h8 s hs; omega)
  rw [hr] at HR
  have H := Lib.hid h
  have H8 : Hid (∀ k (hk : k < l.length), l[k].size ≤ 8) := fun k hk => h8 _ (List.getElem_mem hk)
  have hb0 : (UInt8.ofNat l.length).toNat = l.length := by simp; omega
  have hlit : ∀ w : World, (w.alloc (.cells #[.int .u8 (l.length : Int)] 5)).ownsRow w.heap.size 5 1 (.slice (some ⟨w.heap.size, 0, none⟩) 1 1) 1 (bv [UInt8.ofNat l.length]) := fun w => by
    have := World.ownsRow_lit (e := 5) (size := 1) (base := w.heap.size) w #[.int .u8 (l.length : Int)] 1 (Nat.le_refl _) (by simp [maxLen]) (by simp)
    simpa [bv, hb0] using this
  have HL := Lib.hid hlit
  clear h h8 hlit hb0 hr
  go_enter Try.func11, Try.ntmps11
  go_wp2_with fail
  refine HR.out.mono ?_
  rintro r w' ⟨rfl, m, rfl⟩
  have HB0 : Hid (Below w.heap.size w ((w.drewN m).alloc (.cells #[.int .u8 (l.length : Int)] 5))) := (below_drewN' (Below.refl _ w) m).alloc (Nat.le_refl _) _
  clear HR
  go_wp2_with fail
  go_loopw [4, 16] (fun x3 x4 wr => ∃ (k : Nat) (ys : List UInt8) (A' : Option Addr) (c' : Nat), k ≤ l.length ∧ x4 = .int .i64 (k : Int) ∧ x3 = .slice A' ys.length c' ∧ ys.length ≤ 1 + 9 * k ∧ ys = UInt8.ofNat l.length :: ((bytL2 l).take k).flatMap (fun s => UInt8.ofNat s.length :: s) ∧
    wr.ownsRow w.heap.size 5 1 (.slice A' ys.length c') ys.length (bv ys) ∧ Below w.heap.size w wr) (fun _ i _ => l.length - (intOf i).toNat)
  case atStart => exact ⟨0, [UInt8.ofNat l.length], _, _, Nat.zero_le _, rfl, rfl, by simp, by simp, HL.out _, HB0.out⟩
  case round =>
    clear HL HB0
    obtain ⟨k, ys, A', c', hk, rfl, rfl, hyl, hys, hown, hb⟩ := hrel
    have HYS := Lib.hid hys
    have HO := Lib.hid hown
    have HB := Lib.hid hb
    have hsz := hb.size
    clear hys hown hb
    by_cases hlt : k < l.length
    · have ik : (k : Int) < (l.length : Int) := by omega
      obtain ⟨b, off, rfl, _, hbh, hcell⟩ := (H.out.below HB.out (Nat.le_refl _)).str hlt
      have hs8 := H8.out k hlt
      have HPT := Lib.hid (put_take hlt)
      generalize l[k] = s at *
      have hbs : (UInt8.ofNat s.size).toNat = s.size := by simp; omega
      have hsl : s.data.toList.length = s.size := by rw [Array.length_toList]; rfl
      go_wp2_with (at_builtin; refine wpList_push (v := .slice A' ys.length c') w.heap.size ys (UInt8.ofNat s.size) rfl _ _ rfl rfl rfl rfl (by rw [hbs, World.cell?_alloc_at _ _ _ _ rfl]; rfl) (HO.out.alloc _) (by omega) (by simp; omega) ?_; intro A2 c2 w2 ho2 hg2; refine held ?_)
      have hb2w : Below w.heap.size w w2 := (HB.out.alloc hsz _).grown hg2 (by simp; omega) (fun q hq => (own_lt HO.out hq).1)
      have hsz2 := hb2w.size
      have hyl2 : (ys ++ [UInt8.ofNat s.size]).length = ys.length + 1 := by simp
      obtain ⟨zs, hzs⟩ : ∃ zs, ys ++ UInt8.ofNat s.size :: s.data.toList = zs := ⟨_, rfl⟩
      have hzl : zs.length = ys.length + (s.size + 1) := by rw [← hzs, List.length_append, List.length_cons, hsl]
      obtain ⟨A3, c3, w3, hrun, hown3, hg3⟩ := append_str_named w2 w.heap.size _ (ys ++ [UInt8.ofNat s.size]) zs s (by rw [← hzs]; simp) ho2 (by omega) hsz2
      have hb3w : Below w.heap.size w w3 := hb2w.grown hg3 (by omega) (fun q hq => (own_lt ho2 hq).1)
      rw [hyl2] at hrun
      have HZL : Hid (zs.length ≤ 1 + 9 * (k + 1)) := by unfold Hid; omega
      have HZS := Lib.hid hzs
      have HO3 := Lib.hid hown3
      have HB3 := Lib.hid hb3w
      clear hown3 hg3 hb3w ho2 hg2 hb2w hzl hzs hyl2 hsl hbs
      refine ⟨?_⟩
      go_wp2_with (at_builtin; refine wpList_append_run rfl _ _ _ _ rfl rfl rfl hrun ?_)
      go_roundw
      case rel =>
        refine ⟨k + 1, zs, A3, c3, by omega, by go_num, rfl, HZL.out, ?_, HO3.out, HB3.out⟩
        rw [HPT.out, ← HZS.out, HYS.out]; rfl
      case measure => simp [intOf] <;> omega
    · have ik : ¬ (k : Int) < (l.length : Int) := by omega
      have hfin : ys = putT (bytL2 l) := by
        rw [HYS.out, List.take_of_length_le (by simp [bytL2]; omega)]
        simp [putT, bytL2]
      have HF := Lib.hid hfin
      clear hfin
      go_wp2_with fail
      go_ret2
      exact ⟨A', c', by rw [← HF.out]; rfl, by rw [← HF.out]; exact HO.out, HB.out⟩
end Go.Proofs.Ytfekdbdkcfhkiaa
