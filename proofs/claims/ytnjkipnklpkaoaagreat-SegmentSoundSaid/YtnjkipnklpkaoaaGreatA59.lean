/-
  Lemmas.
-/
import Derived.Test.YtnjkipnklpkaoaaGreatA25
import Derived.Test.YtnjkipnklpkaoaaGreatA27
import Derived.Test.YtnjkipnklpkaoaaGreatA28
namespace Go.Proofs.YtnjkipnklpkaoaaGreat
open Go.RowKit
set_option maxRecDepth 20000
set_option maxHeartbeats 16000000
set_option linter.unusedSimpArgs false
set_option linter.unusedVariables false
section
open Go.ChangeShapes Go.WideShapes Go.ChangeAt Go.RowKit
theorem open_bytes{H:Type}{enc:TypeId×Value→H}{P:Program}{W:World}{b0:Nat}{t e:TypeId}{v:Value}{d:DataW H}{p:List MemPlace}(ht:P.underlying t=some (.slice e))(he:P.underlying e=some (.int .u8))(hc:P.cellsOf e=1)
  (hok:Value.okWide P W .any b0 t v) (h:DataW.Trod enc P W 0 (fun _=>true) true t v d p):∃(A:Option Addr) (bs:List UInt8) (c:Nat),v= .slice A bs.length c∧Rd W 0 W.heap.size A c (bv bs):=by
 obtain⟨a0,len0,cap0,rfl⟩:=okWide_slice ht hok
 obtain⟨fuel,hf⟩:=h
 rcases open_ints ht he hc hf with ⟨hcs,_⟩ | ⟨x,l,c,zs,hcs,_,hl,hm,hz,_,hcell,hwz⟩
 ·
  simp[Value.cells] at hcs
  obtain⟨rfl,rfl,rfl⟩:=hcs
  exact⟨none,[],0,rfl,Rd.nil _ _ _⟩
 ·
  simp[Value.cells] at hcs
  obtain⟨rfl,rfl,rfl⟩:=hcs
  have hz':zs.length=cap0:=by simpa using hz
  refine⟨some x,(zs.take len0).map fun n=>UInt8.ofNat n.toNat,cap0,?_,?_,hm,?_⟩
  ·
   simp;omega
  ·
   simp[bv];omega
  ·
   intro hp
   have hp':0<len0:=by simp[bv] at hp;omega
   have h0:=hcell 0 (by omega)
   obtain⟨b,off,spot⟩:=x
   have hspot:spot=none:=by simpa[Addr.add] using World.cell?_spot h0
   subst hspot
   refine⟨b,off,rfl,qi _,?_,fun j u hu => ?_⟩
   ·
    have:=yv W _ h0
    simpa[Addr.add] using this
   ·
    have hj:j<len0:=by
     rcases xc j len0 with h1 | h1
     ·
      exact h1
     ·
      rw[jz (by simp[bv];omega)] at hu;cases hu
    have hjz:j<zs.length:=by omega
    have h1:=hcell j hjz
    have e1:(⟨b,off,none⟩:Addr).add j=⟨b,off+j,none⟩:=by unfold Addr.add;by_cases h0:j=0 <;> simp[h0]
    rw[e1] at h1
    rw[h1]
    have hw:=hwz zs[j] (qj hjz)
    have hbd:0≤zs[j]∧zs[j]<256:=by
     have:=bounds_u8 hw
     omega
    simp only[bv,ut,ke,qbh,if_pos hj,qe hjz,qap,Function.comp] at hu
    rw[←hu,List.getD,qe hjz,xj]
    congr 2
    rw[xh]
    omega
end
theorem GrM.parts{w:World}{lo:Nat}{r:Gr}{g:GrpS}(h:GrM w lo r)(hg:r.toS=g){j:Nat}(hj:j<g.cols.length):∃bf of bk ok,∃t:It,r.fA=some ⟨bf,of,none⟩∧r.kA=some ⟨bk,ok,none⟩∧ItM w lo t∧t.c=g.cols[j]∧
  (∀i v,(qfk t.e)[i]? = some v→w.cell? ⟨bf,of+j*3+i,none⟩=some v)∧w.cell? ⟨bk,ok+j,none⟩=some (.pointer (some ⟨t.g,0,none⟩))∧bf<w.heap.size∧bk<w.heap.size∧g.cols.length≤r.fc∧g.cols.length≤r.kc:=by
 subst hg
 have hj2:j<r.its.length:=by simpa[Gr.toS] using hj
 obtain⟨bf,of,e1,e2,e3,e4⟩:=h.fil.lies (by omega)
 obtain⟨bk,ok,d1,d2,d3,d4⟩:=h.chk.lies (by omega)
 have g1:=e4 j hj2
 have g2:=d4 j hj2 0 (by omega)
 simp only[qe hj2,vb] at g1 g2
 rw[va,xx] at g2
 refine⟨bf,of,bk,ok,r.its[j],e1,d1,h.its _ (qj hj2),by simp[Gr.toS],fun i v hv => ?_,g2,e3,d3,?_,?_⟩
 ·
  have hi:i<3:=by
   have:=(zw.1 hv).1
   simpa[qfk] using this
  rw[g1 i hi,hv]
 ·
  have:=h.fil.len
  simpa[Gr.toS] using this
 ·
  have:=h.chk.len
  simpa[Gr.toS] using this
end Go.Proofs.YtnjkipnklpkaoaaGreat
