/-
  Lemmas.
-/
import Derived.Test.YtnjkipnklpkaoaaGreatA24
import Derived.Test.YtnjkipnklpkaoaaGreatA57
namespace Go.Proofs.YtnjkipnklpkaoaaGreat
open Go.RowKit
set_option maxRecDepth 20000
set_option maxHeartbeats 16000000
set_option linter.unusedSimpArgs false
set_option linter.unusedVariables false
theorem Els.out{w w':World}{X:Nat→Prop}{lo hi c k n:Nat}{A:Option Addr}{cell:Nat→Nat→Option Value}(h:Els w lo hi A c k n cell)(ho:Out w w' X)(hh:hi≤w.heap.size)(hX:∀k,lo≤k→k<hi→¬X k):Els w' lo hi A c k n cell :=
 h.keep fun p h1 h2=>qbk (ho.block p.block (by omega) (hX _ h1 h2))
theorem qr6.out{w w':World}{lo G n:Nat}{gs:List GrpS}{X:Nat→Prop}(h:qr6 w lo G n gs)(hb:Out w w' X)(hX:∀k,lo≤k→k<w.heap.size→¬X k):qr6 w' lo G n gs:=by
 obtain⟨rs,A,c,h1,h2,h3,h4,h5⟩:=h
 have up:∀ {A:Option Addr} {c k n:Nat} {cell:Nat→Nat→Option Value},Els w lo w.heap.size A c k n cell→Els w' lo w'.heap.size A c k n cell:=fun hr=>(hr.out hb (qc _) hX).wide (qc _) hb.size
 have ur:∀ {A:Option Addr} {c:Nat} {xs:List Value},Rd w lo w.heap.size A c xs→Rd w' lo w'.heap.size A c xs:=fun hr=>(hr.out hb (qc _) hX).wide (qc _) hb.size
 exact⟨rs,A,c,h1,h2.out hb (hX G h3 h2.lt),h3,up h4,fun r hr=>⟨up (h5 r hr).fil,up (h5 r hr).chk,fun t ht=>⟨((h5 r hr).its t ht).b,((h5 r hr).its t ht).gs,((h5 r hr).its t ht).rs,ur ((h5 r hr).its t ht).list,ur ((h5 r hr).its t ht).set,((h5 r hr).its t ht).chk.out hb hX⟩⟩⟩
def qqv(w:World)(base:Nat)(o:Option Nat)(xs:List Value)(m n:Nat):Prop:=xs.length=m∧∀j,j<m→∃g c ys,xs[j]? = some (.slice (some ⟨g,0,none⟩) n c)∧w.ownsRow base 60 2 (.slice (some ⟨g,0,none⟩) n c) n ys∧o≠some g
theorem qdn.any{w:World}{base m n:Nat}{o:Option Nat}{xs:List Value}{rs:List (List Vl)}(h:qdn w base o xs rs)(hm:rs.length=m)(hn:∀r∈rs,r.length=n)(hp:0<n):qqv w base o xs m n:=by
 subst hm
 refine⟨h.1,fun j hj => ?_⟩
 obtain⟨A,c,h1,h2,h3⟩:=h.2 j hj
 have hl:=hn _ (qj hj)
 rw[hl] at h1 h2 h3
 rcases h2.2 with ⟨hv,h0⟩ | ⟨g,cap,cur,hv,_⟩
 ·
  have:=h2.1
  injection hv with e1 e2 e3
  omega
 ·
  injection hv with e1 e2 e3
  subst e1
  exact⟨g,c,_,h1,h2,h3 g rfl⟩
theorem qqv.set{w:World}{base m n:Nat}{o:Option Nat}{xs:List Value}(h:qqv w base o xs m n){k:Nat}(hk:k<m){g c:Nat}(hg:xs[k]? = some (.slice (some ⟨g,0,none⟩) n c))(p:Nat)(u:Value):qqv (w.setCell ⟨g,p,none⟩ u) base o xs m n:=by
 refine⟨h.1,fun j hj => ?_⟩
 obtain⟨g',c',ys,h1,h2,h3⟩:=h.2 j hj
 by_cases e:g'=g
 ·
  subst e
  exact⟨g',c',_,h1,(h2.stored p u).1,h3⟩
 ·
  exact⟨g',c',ys,h1,ownsRow_setCell_other (a:=⟨g,p,none⟩) h2 (fun h=>e (jh h)) u,h3⟩
end Go.Proofs.YtnjkipnklpkaoaaGreat
