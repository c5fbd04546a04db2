/-
  Lemmas.
-/
import Derived.Test.YtnjkipnklpkaoaaGreatA13
import Derived.ChangeOld
import Derived.OpenShut
import Derived.ShutString
namespace Go.Proofs.YtnjkipnklpkaoaaGreat
open Go.RowKit
set_option maxRecDepth 20000
set_option maxHeartbeats 16000000
set_option linter.unusedSimpArgs false
set_option linter.unusedVariables false
section
open Go.ChangeShapes Go.WideShapes Go.ChangeAt Go.RowKit
theorem own:ownKnob Tryz.prog.godebug=none:=by kernel_rfl
theorem qpe:laidOutB Tryz.prog=true:=by kernel_rfl
theorem qd7{H:Type}{enc:TypeId×Value→H}{P:Program}(hl:laidOutB P=true){W W':World}(hb:Below W.heap.size W W') :
  ∀(ts:List TypeId) (vs:List Value) (ds:List (DataW H)) (ps:List MemPlace),(ts.all fun t=>P.readableRec t&&decide (t<P.types.size))=true→
   DataW.TrodAll enc P W 0 (fun _=>true) true ts vs ds ps→DataW.TrodAll enc P W' 0 (fun b=>decide (b<W.heap.size)) true ts vs ds ps
 | [],[],[],_,_,h=>h
 | [],[],_ :: _,_,_,h=>h.elim
 | [],_ :: _,_,_,_,h=>by cases ‹List (DataW H)› <;> exact h.elim
 | _ :: _,[],_,_,_,h=>by cases ‹List (DataW H)› <;> exact h.elim
 | _ :: _,_ :: _,[],_,_,h=>h.elim
 | t :: ts,v :: vs,d :: ds,ps,hr,h=>by
  obtain⟨p,q,h1,h2,h3⟩:=h
  simp only[List.all_cons,jl,decide_eq_true_eq] at hr
  refine⟨p,q,Below.trod hl hr.1.1 hr.1.2 h1 hb ?_,qd7 hl hb ts vs ds q hr.2 h2,h3⟩
  intro x hx
  obtain⟨m,hm⟩:=h1
  exact DataW.trod_lt m _ _ _ hm x hx
end
theorem qr6.cells{w:World}{lo G n:Nat}{GS:List GrpS}(h:qr6 w lo G n GS):w.cell? ⟨G,0,none⟩=some (.int .i64 (n:Int))∧∃A c,w.cell? ⟨G,1,none⟩=some (.slice A GS.length c)∧GS.length≤c∧c≤9223372036854775807∧
  ∀i (hi:i<GS.length),∃b off r,A=some ⟨b,off,none⟩∧b<w.heap.size∧GrM w lo r∧r.toS=GS[i]∧w.cell? ⟨b,off+i*3,none⟩=some (.int .i64 (GS[i].rows:Int))∧w.cell? ⟨b,off+i*3+1,none⟩=some (.slice r.fA GS[i].cols.length r.fc)∧w.cell? ⟨b,off+i*3+2,none⟩=some (.slice r.kA GS[i].cols.length r.kc):=by
 obtain⟨rs,A,c,rfl,h2,h3,h4,h5⟩:=h
 refine⟨h2.cell 0,A,c,?_,?_,?_,fun i hi => ?_⟩
 ·
  rw[q8]
  exact h2.cell 1
 ·
  rw[q8]
  exact h4.len
 ·
  have:=h4.cap
  simpa[maxLen] using this
 ·
  rw[q8] at hi
  obtain⟨b,off,e1,e2,e3,e4⟩:=h4.lies (by omega)
  have g:=fun k hk=>e4 i hi k hk
  simp only[qe hi,vb] at g
  have h6:rs[i].its.length=(rs[i].toS).cols.length:=by simp[Gr.toS]
  refine⟨b,off,rs[i],e1,e3,h5 _ (qj hi),by rw[yz],?_,?_,?_⟩
  ·
   rw[yz]
   exact g 0 (by omega)
  ·
   rw[yz,←h6]
   exact g 1 (by omega)
  ·
   rw[yz,←h6]
   exact g 2 (by omega)
end Go.Proofs.YtnjkipnklpkaoaaGreat
