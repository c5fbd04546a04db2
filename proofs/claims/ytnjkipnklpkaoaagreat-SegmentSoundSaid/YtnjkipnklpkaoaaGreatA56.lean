/-
  Lemmas.
-/
import Derived.Test.YtnjkipnklpkaoaaGreatA22
namespace Go.Proofs.YtnjkipnklpkaoaaGreat
open Go.RowKit
set_option maxRecDepth 20000
set_option maxHeartbeats 16000000
set_option linter.unusedSimpArgs false
set_option linter.unusedVariables false
section
open Go.RowKit Go.ChangeShapes Go.WideShapes Go.ChangeAt
variable {H:Type}{enc:TypeId×Value→H}{P:Program}{W:World}
theorem open_els{t e:TypeId}{fuel k:Nat}{cs:List Value}{x:DataW H×List MemPlace}(ht:P.underlying t=some (.slice e))(hk:P.cellsOf e=k)(h0:0<k)
  (h:DataW.trod enc P W 0 (fun _=>true) true fuel t cs=some x) :
  ∃(A:Option Addr) (c:Nat) (css:List (List Value)) (m:Nat),m<fuel∧cs=[.slice A css.length c]∧Els W 0 W.heap.size A c k css.length (fun j i=>(css[j]?).bind (·[i]?))∧
   ∀j (hj:j<css.length),css[j].length=k∧∃y,DataW.trod enc P W 0 (fun _=>true) true m e css[j]=some y:=by
 rcases DataW.trod_slice ht h with ⟨rfl,_⟩ | ⟨a,len,cap,elems,rest,n,rfl,rfl,_,hb,hl,hm,hlen,hel,_,_⟩
 ·
  refine⟨none,0,[],0,?_,rfl,Els.nil _ _ _ _ _,fun j hj=>absurd hj (jp j)⟩
  cases fuel with
  | zero=>simp[DataW.trod] at h
  | succ n=>omega
 ·
  have hex:∀i,i<len→∃cs',W.cells? 0 (a.add (i*k)) k=some cs'∧∃y,DataW.trod enc P W 0 (fun _=>true) true n e cs'=some y:=fun i hi=>by
   have h1:=hel i hi
   rw[hk] at h1
   have h2:elems[i]? = some elems[i]:=qe (by omega)
   rw[h2,qah] at h1
   obtain⟨cs',h3,h4⟩:=h1
   exact⟨cs',h3,_,h4⟩
  obtain⟨css,hcl,hcs⟩:=qg5 hex
  subst hcl
  refine⟨some a,cap,css,n,Nat.lt_succ_self n,rfl,⟨hl,hm,fun hp => ?_⟩,fun j hj=>⟨(World.cells?_some (hcs j hj).1).2.1,(hcs j hj).2⟩⟩
  have hfirst:∃u,W.cell? a=some u:=by
   obtain⟨_,h2,h3⟩:=World.cells?_some (hcs 0 hp).1
   have h4:=h3 0 h0
   rw[Nat.zero_mul,show(a.add 0).add 0=a from rfl,qe (by omega)] at h4
   exact⟨_,h4⟩
  obtain⟨u,hu⟩:=hfirst
  obtain⟨b,off,spot⟩:=a
  have hspot:spot=none:=World.cell?_spot hu
  subst hspot
  have hlt:b<W.heap.size:=yv W _ hu
  have hadd:∀d,(⟨b,off,none⟩:Addr).add d=⟨b,off+d,none⟩:=fun d=>by unfold Addr.add;by_cases h:d=0 <;> simp[h]
  have hadd2:∀o d,(⟨b,o,none⟩:Addr).add d=⟨b,o+d,none⟩:=fun o d=>by unfold Addr.add;by_cases h:d=0 <;> simp[h]
  refine⟨b,off,rfl,qi _,hlt,fun j hj i hi => ?_⟩
  obtain⟨_,h2,h3⟩:=World.cells?_some (hcs j hj).1
  have h4:=h3 i hi
  rw[hadd2,hadd2] at h4
  rw[h4,qe hj]
  rfl
end
def qgo(gs:List (List (List Vl)))(os:List Co)(r:Ending):Prop:=∃b,r= .returned (.bool b)∧(b=true→FewSg gs os)
theorem qgo.no(gs:List (List (List Vl)))(os:List Co):qgo gs os (.returned (.bool false)):=⟨false,rfl,fun h=>by cases h⟩
section
set_option maxRecDepth 100000
open Go.RowKit Go.ChangeShapes Go.WideShapes Go.ChangeAt
theorem i64_wf{z:Int}(h:(Lit.int .i64 z).wf=true):I64 z:=by
 simp[Lit.wf] at h
 unfold I64
 first | exact h | (constructor <;> omega) | (simp[IntKind.min,IntKind.max] at h;omega)
variable {H:Type}{enc:TypeId×Value→H}{W:World}
end
theorem vr.cut{w:World}{lo hi c k m:Nat}{A:Option Addr}{rs:List (List Vl)}(h:vr w lo hi A c rs)(hk:k≤m)(hm:m≤rs.length):vr w lo hi (if c=k then A else A.map (·.add k)) (c-k) ((rs.drop k).take (m-k)):=by
 obtain⟨xs,hr,hx⟩:=h.cells
 have hxl:=hx.1
 refine qgg.rows (xs:=(xs.drop k).take (m-k)) ⟨by simp[hxl],fun j hj => ?_⟩ (hr.cut hk (by omega))
 have hj1:j<m-k∧k+j<rs.length:=by simp at hj;omega
 obtain⟨A',c',h1,h2⟩:=hx.2 (k+j) hj1.2
 refine⟨A',c',?_,?_⟩
 ·
  rw[qe8 hj1.1,List.getElem?_drop,h1,qb0,List.getElem_drop]
 ·
  rw[qb0,List.getElem_drop]
  exact h2
theorem vr.take{w:World}{lo hi c:Nat}{A:Option Addr}{rs:List (List Vl)}(h:vr w lo hi A c rs)(k:Nat):vr w lo hi A c (rs.take k):=by
 obtain⟨xs,hr,hx⟩:=h.cells
 have hxl:=hx.1
 refine qgg.rows (xs:=xs.take k) ⟨by simp[hxl],fun j hj => ?_⟩ (hr.take_ k)
 have hj1:j<k∧j<rs.length:=by simp at hj;omega
 obtain⟨A',c',h1,h2⟩:=hx.2 j hj1.2
 exact⟨A',c',by rw[qe8 hj1.1,h1,qb0],by rw[qb0];exact h2⟩
theorem yd{B B':Nat}{a w w':World}(h:Below B a w)(h':Below B' w w')(hB:B≤B'):Below B a w':=h.trans (h'.mono hB)
end Go.Proofs.YtnjkipnklpkaoaaGreat
