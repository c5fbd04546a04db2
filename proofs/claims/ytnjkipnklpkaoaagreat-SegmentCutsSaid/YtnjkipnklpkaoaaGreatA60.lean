/-
  Lemmas.
-/
import Derived.Test.YtnjkipnklpkaoaaGreatA58
namespace Go.Proofs.YtnjkipnklpkaoaaGreat
open Go.RowKit
set_option maxRecDepth 20000
set_option maxHeartbeats 16000000
set_option linter.unusedSimpArgs false
set_option linter.unusedVariables false
theorem fits_iff{rs:List (List Vl)}{i k:Nat}(hl:rs.length≤4096):kj (vg rs i)↔kj (vg (rs.take k) i)∧kj (vg (rs.drop k) i):=by
 have e:vg rs i=vg (rs.take k) i++vg (rs.drop k) i:=by
  unfold vg
  rw[←jg,zx]
 unfold kj
 rw[e,qd]
 have h1:(vg (rs.take k) i).length≤rs.length:=by rw[qa7,qy];omega
 have h2:(vg (rs.take k) i).length+(vg (rs.drop k) i).length=rs.length:=by rw[qa7,qa7,qy,qu];omega
 constructor
 ·
  rintro⟨_,h⟩
  exact⟨⟨by omega,fun v hv=>h v (List.mem_append_left _ hv)⟩,by omega,fun v hv=>h v (qcg _ hv)⟩
 ·
  rintro⟨⟨_,g1⟩,_,g2⟩
  refine⟨by omega,fun v hv => ?_⟩
  rcases zt.1 hv with h | h
  ·
   exact g1 v h
  ·
   exact g2 v h
theorem grp_cut{n k:Nat}{rs:List (List Vl)}(hk0:0<k)(hk:k<rs.length)(hl:rs.length≤4096):qj9 n rs↔qj9 n (rs.take k)∧qj9 n (rs.drop k):=by
 unfold qj9
 have h1:(rs.take k).length=k:=by rw[qy];omega
 have h2:(rs.drop k).length=rs.length-k:=qu
 constructor
 ·
  rintro⟨_,g1,g2⟩
  exact⟨⟨by omega,fun r hr=>g1 r (xk hr),fun i hi=>((fits_iff (k:=k) hl).1 (g2 i hi)).1⟩,by omega,fun r hr=>g1 r (qem hr),fun i hi=>((fits_iff (k:=k) hl).1 (g2 i hi)).2⟩
 ·
  rintro⟨⟨_,g1,g2⟩,_,g3,g4⟩
  refine⟨by omega,fun r hr => ?_,fun i hi=>(fits_iff (k:=k) hl).2 ⟨g2 i hi,g4 i hi⟩⟩
  rw[←zx k rs] at hr
  rcases zt.1 hr with h | h
  ·
   exact g1 r h
  ·
   exact g3 r h
theorem right_cut{cols bits:Int}{k:Nat}{rs:List (List Vl)}{os:List Co}(hb:0≤bits∧bits≤65536)(hk0:0<k)(hk:k<rs.length):jaa cols [rs] os 0↔jaa cols [rs.take k,rs.drop k] os bits:=by
 have e1:ki [rs]=rs.length:=by simp[ki]
 have e2:ki [rs.take k,rs.drop k]=rs.length:=by simp[ki];omega
 unfold jaa
 rw[e1,e2]
 constructor
 ·
  rintro⟨a1,a2,a3,a4,a5,a6,a7,a8⟩
  have h:=(grp_cut hk0 hk a7).1 (a8 rs (by simp))
  refine⟨a1,a2,a3,hb.1,hb.2,a6,a7,fun g hg => ?_⟩
  simp only[jc,ve,or_false] at hg
  rcases hg with rfl | rfl
  ·
   exact h.1
  ·
   exact h.2
 ·
  rintro⟨a1,a2,a3,a4,a5,a6,a7,a8⟩
  refine⟨a1,a2,a3,Int.le_refl _,by decide,a6,a7,fun g hg => ?_⟩
  obtain rfl:g=rs:=by simpa using hg
  exact(grp_cut hk0 hk a7).2 ⟨a8 _ (by simp),a8 _ (by simp)⟩
theorem few_cut{k:Nat}{rs:List (List Vl)}{os:List Co}(h:FewSg [rs] os):FewSg [rs.take k,rs.drop k] os:=by
 have e1:qhu rs=qhu (rs.take k)+qhu (rs.drop k):=by
  unfold qhu
  rw[←qbe,←jg,zx]
 refine⟨by simp,h.cods,?_,?_,fun g hg r hr => ?_,h.draws⟩
 ·
  have:=h.rows
  simp[ki] at this ⊢
  omega
 ·
  have:=h.bytes
  show qhu (rs.take k)+(qhu (rs.drop k)+0)≤3000
  have e3:qjb [rs]=qhu rs+0:=rfl
  omega
 ·
  simp only[jc,ve,or_false] at hg
  rcases hg with rfl | rfl
  ·
   exact h.cols rs (by simp) r (xk hr)
  ·
   exact h.cols rs (by simp) r (qem hr)
theorem grp_lit2{w w2:World}{A B:Option Addr}{c d n m:Nat}{rs ts:List (List Vl)}(h:vr w 0 w.heap.size A c rs)(h2:vr w 0 w.heap.size B d ts)(hn:rs.length=n)(hm:ts.length=m)(hw:w.alloc (.cells #[.slice A n c,.slice B m d] 41)=w2):qax w2 0 w2.heap.size (some ⟨w.heap.size,0,none⟩) 2 [rs,ts]:=by
 subst hn hm
 have b:Below w.heap.size w w2:=by rw[←hw];exact(Below.refl _ w).alloc (qc _) _
 have ho:=vm (size:=1) (e:=41) w #[.slice A rs.length c,.slice B ts.length d] 2 (qc _) (by simp[maxLen]) rfl
 rw[hw] at ho
 refine qax.of ((Rd.of_own ho).wide (qi _) (qc _)) rfl fun j hj => ?_
 have hj1:j<2:=hj
 match j,hj1 with
 | 0,_=>exact⟨_,_,rfl,(h.below b (qc _)).wide (qc _) b.size⟩
 | 1,_=>exact⟨_,_,rfl,(h2.below b (qc _)).wide (qc _) b.size⟩
end Go.Proofs.YtnjkipnklpkaoaaGreat
