/-
  Lemmas.
-/
import Derived.Test.YtjfecojdagmacaaGreatE00
import Derived.ChangeOld
import Derived.OpenShut
import Derived.ShutString
namespace Go.Proofs.YtjfecojdagmacaaGreat
open Go.RowKit
set_option maxRecDepth 20000
set_option maxHeartbeats 16000000
set_option linter.unusedSimpArgs false
set_option linter.unusedVariables false
theorem same_any{w:World}{lo h' lo2 h2:Nat}{A B:Option Addr}{c d:Nat}(xs ys:List UInt8)(hx:Rd w lo h' A c (bv xs))(hy:Rd w lo2 h2 B d (bv ys)) :
  Calls Tryz.prog 18 #[.slice A xs.length c,.slice B ys.length d] w fun r w'=>r= .returned (.bool (decide (xs=ys)))∧w=w':=by
 have h1:=vk (P:=Tryz.prog) w 36 9 5 Tryz.underlying36 Tryz.underlying5 Tryz.underlying9 lo h' A c xs hx
 have h2:=vk (P:=Tryz.prog) w 36 9 5 Tryz.underlying36 Tryz.underlying5 Tryz.underlying9 lo2 h2 B d ys hy
 clear hx hy
 go_enter Tryz.func18,Tryz.ntmps18
 go_wp2
 go_ret
 refine⟨yc ?_,rfl⟩
 by_cases h:xs=ys
 ·
  simp[h]
 ·
  simp[h]
section
open Go.ChangeShapes Go.WideShapes Go.ChangeAt Go.RowKit
theorem own:ownKnob Tryz.prog.godebug=none:=by kernel_rfl
theorem laidOut:laidOutB Tryz.prog=true:=by kernel_rfl
theorem qgm{H:Type}{enc:TypeId×Value→H}{P:Program}(hl:laidOutB P=true){W W':World}(hb:Below W.heap.size W W') :
  ∀(ts:List TypeId) (vs:List Value) (ds:List (DataW H)) (ps:List MemPlace),(ts.all fun t=>P.readableRec t&&decide (t<P.types.size))=true→
   DataW.TrodAll enc P W 0 (fun _=>true) true ts vs ds ps→DataW.TrodAll enc P W' 0 (fun b=>decide (b<W.heap.size)) true ts vs ds ps
 | [],[],[],_,_,h=>h
 | [],[],_ :: _,_,_,h=>h.elim
 | [],_ :: _,_,_,_,h=>by cases ‹List (DataW H)› <;> exact h.elim
 | _ :: _,[],_,_,_,h=>by cases ‹List (DataW H)› <;> exact h.elim
 | _ :: _,_ :: _,[],_,_,h=>h.elim
 | t :: ts,v :: vs,d :: ds,ps,hr,h=>by
  obtain⟨p,q,h1,h2,h3⟩:=h
  simp only[List.all_cons,jq,decide_eq_true_eq] at hr
  refine⟨p,q,Below.trod hl hr.1.1 hr.1.2 h1 hb ?_,qgm hl hb ts vs ds q hr.2 h2,h3⟩
  intro x hx
  obtain⟨m,hm⟩:=h1
  exact DataW.trod_lt m _ _ _ hm x hx
end
end Go.Proofs.YtjfecojdagmacaaGreat
