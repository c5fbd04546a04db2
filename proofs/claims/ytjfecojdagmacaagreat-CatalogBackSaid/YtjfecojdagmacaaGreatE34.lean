/-
  Lemmas.
-/
import Derived.Test.YtjfecojdagmacaaGreatE33
namespace Go.Proofs.YtjfecojdagmacaaGreat
open Go.RowKit
set_option maxRecDepth 20000
set_option maxHeartbeats 16000000
set_option linter.unusedSimpArgs false
set_option linter.unusedVariables false
theorem qla.cells{w:World}{lo G n:Nat}{GS:List GrpS}(h:qla w lo G n GS):w.cell? ⟨G,0,none⟩=some (.int .i64 (n:Int))∧∃A c,w.cell? ⟨G,1,none⟩=some (.slice A GS.length c)∧GS.length≤c∧c≤9223372036854775807∧
  ∀i (hi:i<GS.length),∃b off r,A=some ⟨b,off,none⟩∧b<w.heap.size∧GrM w lo r∧r.toS=GS[i]∧w.cell? ⟨b,off+i*3,none⟩=some (.int .i64 (GS[i].rows:Int))∧w.cell? ⟨b,off+i*3+1,none⟩=some (.slice r.fA GS[i].cols.length r.fc)∧w.cell? ⟨b,off+i*3+2,none⟩=some (.slice r.kA GS[i].cols.length r.kc):=by
 obtain⟨rs,A,c,rfl,h2,h3,h4,h5⟩:=h
 refine⟨h2.cell 0,A,c,?_,?_,?_,fun i hi => ?_⟩
 ·
  rw[qz]
  exact h2.cell 1
 ·
  rw[qz]
  exact h4.len
 ·
  have:=h4.cap
  simpa[maxLen] using this
 ·
  rw[qz] at hi
  obtain⟨b,off,e1,e2,e3,e4⟩:=h4.lies (by omega)
  have g:=fun k hk=>e4 i hi k hk
  simp only[qe hi,vc] at g
  have h6:rs[i].its.length=(rs[i].toS).cols.length:=by simp[Gr.toS]
  refine⟨b,off,rs[i],e1,e3,h5 _ (ql hi),by rw[j5],?_,?_,?_⟩
  ·
   rw[j5]
   exact g 0 (by omega)
  ·
   rw[j5,←h6]
   exact g 1 (by omega)
  ·
   rw[j5,←h6]
   exact g 2 (by omega)
theorem GrM.parts{w:World}{lo:Nat}{r:Gr}{g:GrpS}(h:GrM w lo r)(hg:r.toS=g){j:Nat}(hj:j<g.cols.length):∃bf of bk ok,∃t:It,r.fA=some ⟨bf,of,none⟩∧r.kA=some ⟨bk,ok,none⟩∧ItM w lo t∧t.c=g.cols[j]∧
  (∀i v,(qec t.e)[i]? = some v→w.cell? ⟨bf,of+j*3+i,none⟩=some v)∧w.cell? ⟨bk,ok+j,none⟩=some (.pointer (some ⟨t.g,0,none⟩))∧bf<w.heap.size∧bk<w.heap.size∧g.cols.length≤r.fc∧g.cols.length≤r.kc:=by
 subst hg
 have hj2:j<r.its.length:=by simpa[Gr.toS] using hj
 obtain⟨bf,of,e1,e2,e3,e4⟩:=h.fil.lies (by omega)
 obtain⟨bk,ok,d1,d2,d3,d4⟩:=h.chk.lies (by omega)
 have g1:=e4 j hj2
 have g2:=d4 j hj2 0 (by omega)
 simp only[qe hj2,vc] at g1 g2
 rw[xl,y7] at g2
 refine⟨bf,of,bk,ok,r.its[j],e1,d1,h.its _ (ql hj2),by simp[Gr.toS],fun i v hv => ?_,g2,e3,d3,?_,?_⟩
 ·
  have hi:i<3:=by
   have:=(zt.1 hv).1
   simpa[qec] using this
  rw[g1 i hi,hv]
 ·
  have:=h.fil.len
  simpa[Gr.toS] using this
 ·
  have:=h.chk.len
  simpa[Gr.toS] using this
theorem ret_nat{a b:Int}(h:a=b):(Ending.returned (.int .i64 a):Ending)= .returned (.int .i64 b):=by rw[h]
theorem sgsize_v{w:World}(n:Nat)(hn:n≤4096)(A B:Option Addr)(m c k d:Nat) :
  Calls Tryz.prog 69 #[.agg #[.int .i64 (n:Int),.slice A m c,.slice B k d]] w fun r w'=>r= .returned (.int .i64 (n:Int))∧Below w.heap.size w w':=by
 obtain⟨w1,hw1⟩:∃w1,w.alloc (.cells #[.int .i64 (n:Int),.slice A m c,.slice B k d] 128)=w1:=⟨_,rfl⟩
 have hb1:j8 w1 w.heap.size 128 #[.int .i64 (n:Int),.slice A m c,.slice B k d]:=by rw[←hw1];exact j8.new w _ _
 have B1:Hid (Below w.heap.size w w1):=by unfold Hid;rw[←hw1];exact(Below.refl _ w).alloc (qc _) _
 have q0:w1.cell? ⟨w.heap.size,0,none⟩=some (.int .i64 (n:Int)):=hb1.cell 0
 go_enter Tryz.func69,Tryz.ntmps69
 go_wp2
 all_goals
  try go_ret
  exact⟨ret_nat (by omega),B1.out⟩
theorem Gr.val{w:World}{lo:Nat}{r:Gr}(h:GrM w lo r)(hok:∀t∈r.its,t.c.Ok r.rows){j i:Nat}(hj:j<r.its.length)(hi:i<r.rows) :
  Calls Tryz.prog 98 #[.pointer (some ⟨r.its[j].g,0,none⟩),.int .i64 (i:Int)] w fun res w'=>res= .returned (.agg #[.bool ((qjd (r.its.map It.c) i).getD j ⟨true,⟨#[]⟩⟩).null,.string ((qjd (r.its.map It.c) i).getD j ⟨true,⟨#[]⟩⟩).s])∧Below w.heap.size w w':=by
 have h1:=h.its _ (ql hj)
 have h2:=hok _ (ql hj)
 have h3:i<(qaj r.its[j].c.ck).length:=by rw[qdb,h2.len];exact hi
 refine at_v h1.chk (.inl h2.ck) ?_
 rw[qe h3]
 simp[qjd,List.getD,qe hj,qe h3]
theorem sgrow_v{w:World}{lo:Nat}{r:Gr}(h:GrM w lo r)(hok:∀t∈r.its,t.c.Ok r.rows)(i:Nat)(hi:i<r.rows)(hn:r.its.length≤1000000) :
  Calls Tryz.prog 70 #[.agg #[.int .i64 (r.rows:Int),.slice r.fA r.its.length r.fc,.slice r.kA r.its.length r.kc],.int .i64 (i:Int)] w fun res w'=>∃A' c',res= .returned (.slice A' r.its.length c')∧w'.ownsRow w.heap.size 72 2 (.slice A' r.its.length c') r.its.length (vv (qjd (r.its.map It.c) i))∧Below w.heap.size w w':=by
 obtain⟨w1,hw1⟩:∃w1,w.alloc (.cells #[.int .i64 (r.rows:Int),.slice r.fA r.its.length r.fc,.slice r.kA r.its.length r.kc] 128)=w1:=⟨_,rfl⟩
 have hb1:j8 w1 w.heap.size 128 #[.int .i64 (r.rows:Int),.slice r.fA r.its.length r.fc,.slice r.kA r.its.length r.kc]:=by rw[←hw1];exact j8.new w _ _
 have B1:Hid (Below w.heap.size w w1):=by unfold Hid;rw[←hw1];exact(Below.refl _ w).alloc (qc _) _
 have hs1:w1.heap.size=w.heap.size+1:=by rw[←hw1];simp
 have q2:w1.cell? ⟨w.heap.size,2,none⟩=some (.slice r.kA r.its.length r.kc):=hb1.cell 2
 obtain⟨L,hL⟩:∃L,qjd (r.its.map It.c) i=L:=⟨_,rfl⟩
 have HLN:Hid (L.length=r.its.length):=by unfold Hid;rw[←hL,qe3,qz]
 have HA:Hid (∀(W:World) (j:Nat) (hj:j<r.its.length),Below w.heap.size w W→∃b off,r.kA=some ⟨b,off,none⟩∧b<w.heap.size∧W.cell? ⟨b,off+j,none⟩=some (.pointer (some ⟨r.its[j].g,0,none⟩))∧
   ∃v:Vl,L[j]? = some v∧Calls Tryz.prog 98 #[.pointer (some ⟨r.its[j].g,0,none⟩),.int .i64 (i:Int)] W fun res w'=>res= .returned (.agg #[.bool v.null,.string v.s])∧Below W.heap.size W w'):=fun W j hj hW=>by
  obtain⟨b,off,e,h1,h2,h3⟩:=h.chk.lies (by omega)
  have h4:=h3 j hj 0 (by omega)
  rw[xl,y7,qe hj] at h4
  have hjL:j<L.length:=by rw[HLN.out];exact hj
  refine⟨b,off,e,h2,(hW.cell h2).trans h4,L[j],qe hjL,?_⟩
  have h5:=Gr.val (h.below hW) hok hj hi
  rw[hL] at h5
  simpa[List.getD,qe hjL] using h5
 obtain⟨n,hnn⟩:∃n,r.its.length=n:=⟨_,rfl⟩
 have HN:=qa hnn
 have hkl:=h.chk.len
 rw[hnn] at q2 HLN hn ⊢
 rw[hnn] at hkl hw1
 obtain⟨w2,xs0,hmake,ho2,hg2⟩:=qls w1 n (by omega)
 have B2:Hid (Below w.heap.size w w2):=B1.out.trans (qaq (by omega) hg2 (fun g hg=>by cases hg))
 have HB2:Hid (j8 w2 w.heap.size 128 #[.int .i64 (r.rows:Int),.slice r.fA n r.fc,.slice r.kA n r.kc]):=by unfold Hid;rw[←hnn];exact hb1.below (qaq (qc _) hg2 (fun g hg=>by cases hg)) (by omega)
 have HO2:=qa ho2
 have HX0:Hid (xs0.length=n*2):=ho2.1
 rw[hL]
 have p2:w2.cell? ⟨w.heap.size,2,none⟩=some (.slice r.kA n r.kc):=by have:=HB2.out.cell 2;simpa using this
 obtain⟨b1,hb1e⟩:∃b1,w1.heap.size=b1:=⟨_,rfl⟩
 have hb1w:w.heap.size≤b1:=by omega
 rw[hb1e] at hmake HO2
 generalize r.kA=kA at *
 generalize r.kc=kc at *
 generalize r.rows=rows at *
 generalize r.fA=fA at *
 generalize r.fc=fc at *
 clear h hok ho2 hg2 hb1 hL HB2
 go_enter Tryz.func70,Tryz.ntmps70
 go_wp2_with fail
 try rw[hw1]
 go_wp2_with fail
 clear hmake
 go_loopw [15] (fun x wr=>∃(k:Nat) (xs:List Value),k≤n∧x= .int .i64 (k:Int)∧wr.ownsRow b1 72 2 (.slice (some ⟨b1,0,none⟩) n n) n xs∧qhs (vv L) (k*2) xs∧Below w.heap.size w wr) (fun x _=>n-(intOf x).toNat)
 case atStart=>exact⟨0,xs0,qj _,rfl,HO2.out,qcb (by rw[HX0.out,qca,HLN.out]),B2.out⟩
 case round =>
  clear HO2 B2 HX0
  obtain⟨k,xs,hk,rfl,ho,hf,hb⟩:=hrel
  have HO:=qa ho
  have HF:=qa hf
  have HB:=qa hb
  have hsz:=hb.size
  clear ho hf hb
  by_cases hlt:k<n
  ·
   have ik:(k:Int)<(n:Int):=by omega
   obtain⟨b,off,rfl,hbl,e0,v,hvk,hat⟩:=HA.out wr k (by rw[HN.out];exact hlt) HB.out
   have HA1:=qa hat
   have HU0:Hid ((vv L)[k*2]? = some (.bool v.null)):=by
    have:=qh1 L k 0 (by omega)
    rw[y7,hvk] at this
    exact this
   have HU1:Hid ((vv L)[k*2+1]? = some (.string v.s)):=by
    have:=qh1 L k 1 (by omega)
    rw[hvk] at this
    exact this
   generalize v.null=nb at *
   generalize v.s=s at *
   generalize (r.its[k]'(by rw[HN.out];exact hlt)).g=G at *
   have HXL:Hid (xs.length=n*2):=by unfold Hid;rw[HF.out.1,qca,HLN.out]
   clear hat hvk
   go_wp2_with fail
   refine HA1.out.mono ?_
   rintro res w2 ⟨rfl,hb2⟩
   have HO2:=qa (ji HO.out hb2 (qc _))
   have HB2:=qa (zz HB.out hb2 hsz)
   have hsz2:=HB2.out.size
   have hxl:=HXL.out
   have fr0:=HO2.out.frozenAt (k*2)
   have fr1:=HO2.out.frozenAt (k*2+1)
   have c0:w2.cell? ⟨b1,k*2,none⟩=some (xs[k*2]'(by omega)):=by
    rw[HO2.out.cellAt (k*2) (by omega),qe (by omega)]
   have c1:w2.cell? ⟨b1,k*2+1,none⟩=some (xs[k*2+1]'(by omega)):=by
    rw[HO2.out.cellAt (k*2+1) (by omega),qe (by omega)]
   have HS1:=qa (World.ownsRow.stored HO2.out (k*2) (.bool nb))
   have HS2:=qa (World.ownsRow.stored HS1.out.1 (k*2+1) (.string s))
   have HBS:=qa ((HB2.out.setCell (p:=⟨b1,k*2,none⟩) hb1w (.bool nb)).setCell (p:=⟨b1,k*2+1,none⟩) hb1w (.string s))
   have HFS:Hid (qhs (vv L) ((k+1)*2) ((xs.set (k*2) (.bool nb)).set (k*2+1) (.string s))):=by
    have:=um (um HF.out (.bool nb) HU0.out) (.string s) HU1.out
    rw[show(k+1)*2=k*2+1+1 by omega]
    exact this
   generalize xs[k*2]'(by omega)=y0 at *
   generalize xs[k*2+1]'(by omega)=y1 at *
   clear hb2 HA1 HO HB HF HU0 HU1
   go_wp2_with fail
   go_roundw
   case rel=>exact⟨k+1,_,by omega,by go_num,HS2.out.1,HFS.out,HBS.out⟩
   case measure=>simp[intOf];omega
  ·
   have ik:¬(k:Int)<(n:Int):=by omega
   have hke:k=n:=by omega
   have hx:xs=vv L:=qdo HF.out (by rw[qca,HLN.out];omega)
   subst hx
   go_wp2_with fail
   go_ret
   exact⟨_,_,rfl,j9 HO.out hb1w,HB.out⟩
theorem Els.grp{w:World}{lo c:Nat}{A:Option Addr}{rs:List Gr}(h:Els w lo w.heap.size A c 3 rs.length (fun j i=>(rs[j]?).bind fun r=>(qgq r)[i]?)){j:Nat}(hj:j<rs.length) :
  ∃b off,A=some ⟨b,off,none⟩∧lo≤b∧b<w.heap.size∧w.cell? ⟨b,off+j*3,none⟩=some (.int .i64 (rs[j].rows:Int))∧w.cell? ⟨b,off+j*3+1,none⟩=some (.slice rs[j].fA rs[j].its.length rs[j].fc)∧w.cell? ⟨b,off+j*3+2,none⟩=some (.slice rs[j].kA rs[j].its.length rs[j].kc):=by
 obtain⟨b,off,e,h1,h2,h3⟩:=h.lies (by omega)
 have g:=fun i hi=>h3 j hj i hi
 simp only[qe hj,vc] at g
 exact⟨b,off,e,h1,h2,g 0 (by omega),g 1 (by omega),g 2 (by omega)⟩
theorem rowsT_take{gs:List GrpS}{i:Nat}(hi:i<gs.length):vi (gs.take (i+1))=vi (gs.take i)+gs[i].rows:=by
 rw[qi hi,rowsT_snoc]
theorem rowsT_le(gs:List GrpS)(i:Nat):vi (gs.take i)≤vi gs:=by
 have h:vi gs=vi (gs.take i)+vi (gs.drop i):=by
  unfold vi
  rw[←qcj,←jg,zw]
 omega
theorem sglen_v{w:World}{lo G n:Nat}{gs:List GrpS}(h:qla w lo G n gs)(ho:SegOk n gs) :
  Calls Tryz.prog 60 #[.pointer (some ⟨G,0,none⟩)] w fun r w'=>r= .returned (.int .i64 (vi gs:Int))∧Below w.heap.size w w':=by
 obtain⟨rs,A,c,rfl,hb,hlo,hels,hgr⟩:=h
 have hr4:=ho.rows
 have q1:w.cell? ⟨G,1,none⟩=some (.slice A rs.length c):=by have:=hb.cell 1;simpa using this
 have hl:=hels.len
 have hc:=hels.cap
 unfold maxLen at hc
 have HE:Hid (∀W,Below w.heap.size w W→∀j (hj:j<rs.length),∃b off,A=some ⟨b,off,none⟩∧b<w.heap.size∧W.cell? ⟨b,off+j*3,none⟩=some (.int .i64 (rs[j].rows:Int))∧W.cell? ⟨b,off+j*3+1,none⟩=some (.slice rs[j].fA rs[j].its.length rs[j].fc)∧W.cell? ⟨b,off+j*3+2,none⟩=some (.slice rs[j].kA rs[j].its.length rs[j].kc)):=fun W hW j hj=>by
  obtain⟨b,off,e,h1,h2,h3,h4,h5⟩:=hels.grp hj
  exact⟨b,off,e,h2,(hW.cell h2).trans h3,(hW.cell h2).trans h4,(hW.cell h2).trans h5⟩
 obtain⟨N,hN⟩:∃N:Nat→Nat,∀i,vi ((rs.map Gr.toS).take i)=N i:=⟨_,fun _=>rfl⟩
 have HN:Hid (∀i (hi:i<rs.length),N (i+1)=N i+rs[i].rows):=fun i hi=>by
  rw[←hN,←hN,rowsT_take (by simpa using hi)]
  simp[Gr.toS]
 have HM:Hid (∀i,N i≤vi (rs.map Gr.toS)):=fun i=>by rw[←hN];exact rowsT_le _ _
 have HZ:Hid (N 0=0):=by unfold Hid;rw[←hN];rfl
 have HF:Hid (N rs.length=vi (rs.map Gr.toS)):=by unfold Hid;rw[←hN,qp (by simp)]
 generalize vi (rs.map Gr.toS)=T at *
 clear hb hels hgr ho hN
 go_enter Tryz.func60,Tryz.ntmps60
 go_wp2_with fail
 go_loopw [3,13] (fun x3 x13 wr=>∃k:Nat,k≤rs.length∧x13= .int .i64 (k:Int)∧x3= .int .i64 (N k:Int)∧Below w.heap.size w wr) (fun _ x13 _=>rs.length-(intOf x13).toNat)
 case atStart=>exact⟨0,qj _,rfl,by rw[HZ.out];rfl,Below.refl _ _⟩
 case round =>
  obtain⟨k,hkl,rfl,rfl,hb⟩:=hrel
  have HB:=qa hb
  have hsz:=hb.size
  clear hb
  by_cases hlt:k<rs.length
  ·
   have ik:(k:Int)<(rs.length:Int):=by omega
   obtain⟨b,off,rfl,hbl,e0,e1,e2⟩:=HE.out wr HB.out k hlt
   have hn1:=HN.out k hlt
   have hn2:=HM.out (k+1)
   have hT:T≤4096:=hr4
   generalize rs[k].rows=m at *
   generalize rs[k].fA=fA at *
   generalize rs[k].its.length=il at *
   generalize rs[k].fc=fc at *
   generalize rs[k].kA=kA at *
   generalize rs[k].kc=kc at *
   obtain⟨w2,hw2⟩:∃w2,wr.alloc (.cells #[.int .i64 (m:Int),.slice fA il fc,.slice kA il kc] 128)=w2:=⟨_,rfl⟩
   have HB2:Hid (Below w.heap.size w w2):=by unfold Hid;rw[←hw2];exact HB.out.alloc hsz _
   have hgb:j8 w2 wr.heap.size 128 #[.int .i64 (m:Int),.slice fA il fc,.slice kA il kc]:=by rw[←hw2];exact j8.new wr _ _
   have p0:w2.cell? ⟨wr.heap.size,0,none⟩=some (.int .i64 (m:Int)):=hgb.cell 0
   have p1:w2.cell? ⟨wr.heap.size,1,none⟩=some (.slice fA il fc):=hgb.cell 1
   have p2:w2.cell? ⟨wr.heap.size,2,none⟩=some (.slice kA il kc):=hgb.cell 2
   have HS:=qa (sgsize_v (w:=w2) m (by omega) fA kA il fc il kc)
   have hsz2:=HB2.out.size
   go_wp2_with fail
   try rw[hw2]
   clear hw2 hgb
   go_wp2_with fail
   refine HS.out.mono ?_
   rintro r w3 ⟨rfl,hb3⟩
   have HB3:=qa (zz HB2.out hb3 hsz2)
   clear hb3 HS
   go_wp2_with fail
   go_roundw
   case rel=>exact⟨k+1,by omega,by go_num,by rw[hn1];go_num,HB3.out⟩
   case measure=>simp[intOf];omega
  ·
   have ik:¬(k:Int)<(rs.length:Int):=by omega
   obtain rfl:k=rs.length:=by omega
   rw[HF.out]
   go_wp2_with fail
   go_ret
   exact⟨rfl,HB.out⟩
def AddP(w w':World)(lo:Nat)(S:Nat→Prop)(G n:Nat)(l:List Pt)(b:List UInt8)(r:Ending):Prop :=
 (∃gs S',r= .returned (.int .i64 0)∧xo b n gs∧ui l+vi gs≤4096∧TabM w' lo S' G n (l++[⟨b,gs⟩])∧Step w w' S S')∨
  (∃e:Int,r= .returned (.int .i64 e)∧((e=4∧∀gs,¬xo b n gs)∨(e=6∧∃gs,xo b n gs∧4096<ui l+vi gs))∧Below w.heap.size w w')
section
variable {w w':World}{lo G n:Nat}{S:Nat→Prop}{l:List Pt}{b:List UInt8}
theorem AddP.four(h:∀gs,¬xo b n gs)(hb:Below w.heap.size w w'):AddP w w' lo S G n l b (.returned (.int .i64 4)):= .inr ⟨4,rfl,.inl ⟨rfl,h⟩,hb⟩
theorem AddP.six{gs:List GrpS}(h:xo b n gs)(ht:4096<ui l+vi gs)(hb:Below w.heap.size w w'):AddP w w' lo S G n l b (.returned (.int .i64 6)):= .inr ⟨6,rfl,.inr ⟨rfl,gs,h,ht⟩,hb⟩
end
theorem tadd_v{w:World}{lo G n:Nat}{S:Nat→Prop}{l:List Pt}(h:TabM w lo S G n l)(hok:ui l≤4096)(hcnt:l.length≤1000000000){b:List UInt8}{A:Option Addr}{c:Nat}(hb:Rd w 0 w.heap.size A c (bv b))(hbl:b.length≤1000000000) :
  Calls Tryz.prog 38 #[.pointer (some ⟨G,0,none⟩),.slice A b.length c] w fun r w'=>AddP w w' lo S G n l b r:=by
 obtain⟨A0,c0,xs,hat⟩:=h.parts
 have HRD:=qa (sgread_vW hb hbl (qmo hbl))
 have hlo:lo≤w.heap.size:=by have:=h.mine G h.own;omega
 have HAT:=qa hat
 have HBR:=qa hb
 obtain⟨T,hT⟩:∃T,ui l=T:=⟨_,rfl⟩
 rw[hT] at HAT hok
 have HT:=qa hT
 have hbc:b.length≤c∧c≤9223372036854775807:=by
  have h1:=hb.len
  have h2:=hb.cap
  rw[jj] at h1
  simp only[maxLen] at h2
  exact⟨h1,by omega⟩
 have hlc:l.length≤c0∧c0≤9223372036854775807:=by
  have h1:=(Rd.of_own hat.row).len
  have h2:=(Rd.of_own hat.row).cap
  rw[hat.row.1] at h1
  simp only[maxLen] at h2
  exact⟨by omega,by omega⟩
 clear h hb hat hT
 go_enter Tryz.func38,Tryz.ntmps38
 go_wp2_with fail
 refine HRD.out.mono ?_
 rintro r w1 ⟨hb1,⟨Gs,n',gs,rfl,hro,hsm⟩ | ⟨rfl,hno⟩⟩
 case inr =>
  have HNO:Hid (∀gs,¬xo b n gs):=fun gs=>hno n gs
  have HB1:=qa hb1
  clear hb1 hno HRD HAT HBR
  go_wp2_with fail
  go_quiet (fail)
  go_wp2_with fail
  go_ret
  exact AddP.four HNO.out (js HB1.out _)
 have HB1:=qa hb1
 have HRO:=qa hro
 have HSM:=qa hsm
 have HA1:=qa (HAT.out.below hb1)
 have HCF:Hid (∀W,Below w1.heap.size w1 W→W.cell? ⟨Gs,0,none⟩=some (.int .i64 (n':Int))∧W.cell? ⟨G,0,none⟩=some (.int .i64 (n:Int))):=fun W hW=>⟨((hsm.below hW).cells).1,(HA1.out.below hW).blk.cell 0⟩
 clear hb1 hro hsm HRD
 by_cases hn:n'=n
 case neg =>
  have i1:¬(n':Int)=(n:Int):=by omega
  have i2:((n':Int)==(n:Int))=false:=q9.2 i1
  have HNO:Hid (∀gs,¬xo b n gs):=fun gs h=>hn (HRO.out.one h).1
  obtain⟨q0,q1⟩:=HCF.out w1 (Below.refl _ _)
  clear HRO HSM HA1 HAT HBR
  go_wp2_with fail
  go_quiet (fail)
  go_wp2_with fail
  go_ret
  exact AddP.four HNO.out (js HB1.out _)
 subst hn
 obtain⟨q0,q1⟩:=HCF.out w1 (Below.refl _ _)
 go_wp2_with fail
 go_quiet (fail)
 go_wp2_with fail
 clear HCF q0 q1
 generalize hw2:w1.drewN nq=w2
 have b2:Below w1.heap.size w1 w2:=by rw[←hw2];exact js (Below.refl _ _) _
 have HB2:Hid (Below w.heap.size w w2):=HB1.out.trans (b2.mono HB1.out.size)
 have HA2:=qa (HA1.out.below b2)
 have HSM2:=qa (HSM.out.below b2)
 obtain⟨R,hR⟩:∃R,vi gs=R:=⟨_,rfl⟩
 have HR:=qa hR
 have hr46:R≤4096:=by rw[←hR];exact HRO.out.ok.rows
 have HLN:Hid (∀W,Below w2.heap.size w2 W→Calls Tryz.prog 60 #[.pointer (some ⟨Gs,0,none⟩)] W fun r w'=>r= .returned (.int .i64 (R:Int))∧Below W.heap.size W w'):=fun W hW=>by
  have:=sglen_v (HSM2.out.below hW) HRO.out.ok
  rw[HR.out] at this
  exact this
 have HC2:Hid (∀W,Below w2.heap.size w2 W→W.cell? ⟨G,1,none⟩=some (.int .i64 (T:Int))):=fun W hW=>(HA2.out.below hW).blk.cell 1
 clear b2 hw2 hR HA1 HSM HB1 HAT
 have iw:IntKind.i64.wrap (4096-(T:Int))=4096-(T:Int):=xa _ (by omega)
 by_cases h46:4096<T+R
 case pos =>
  have ik:(4096:Int)-(T:Int)<(R:Int):=by omega
  have ikb:decide ((4096:Int)-(T:Int)<(R:Int))=true:=qx ik
  go_wp2_with fail
  refine wp_region_held_drew (S:=fun W=>Below w2.heap.size w2 W) (by kernel_rfl) (Below.refl _ _).drew (fun hHeld => ?_)
  refine tk 0 ?_ rfl hHeld ?_ ?_
  rotate_left
  focus (intro W hSw;go_simp;try with_reducible rfl)
  try simp only[jt,Act.put]
  refine tk 2 ?_ rfl hHeld ?_ ?_
  rotate_left
  focus (intro W hSw;go_simp;try with_reducible rfl)
  try simp only[jt,Act.put]
  refine tk 3 ?_ rfl hHeld ?_ ?_
  rotate_left
  focus (intro W hSw;go_simp;try with_reducible rfl)
  try simp only[jt,Act.put]
  refine tk 4 ?_ rfl hHeld ?_ ?_
  rotate_left
  focus (intro W hSw;go_simp;try with_reducible rfl)
  try simp only[jt,Act.put]
  refine tk 5 ?_ rfl hHeld ?_ ?_
  rotate_left
  focus (intro W hSw;have q1:=HC2.out W hSw;go_simp;try with_reducible rfl)
  try simp only[jt,Act.put]
  refine tk 6 ?_ rfl hHeld ?_ ?_
  rotate_left
  focus (intro W hSw;go_simp;try with_reducible rfl)
  try simp only[jt,Act.put]
  obtain⟨wd,hwd⟩:∃q,w2.drew=q:=⟨_,rfl⟩
  rw[hwd] at hHeld ⊢
  clear hwd
  have K0:=qa hHeld
  refine wpAnyH_ready (rs:=[1]) (by kernel_rfl) (by simp) ?_
  refine qu (o:=_) rfl (fun K hK => ?_) q5
  go_simp
  refine(HLN.out wd K0.out).mono ?_
  rintro r w3 ⟨rfl,hb3⟩
  have K3:Hid (Below w2.heap.size w2 w3):=K0.out.trans (hb3.mono K0.out.size)
  clear hb3
  refine hK.out _ _ K3.out (fun hHeld => ?_)
  clear hK K
  try simp only[jt,Act.put]
  refine tk 7 ?_ rfl hHeld ?_ ?_
  rotate_left
  focus (intro W hSw;go_simp;try with_reducible rfl)
  try simp only[jt,Act.put]
  refine wpAnyH_done (by kernel_rfl) ?_ _
  try simp only[jt,Act.put]
  go_wp2_with fail
  go_ret
  exact AddP.six HRO.out (by rw[HT.out,HR.out];exact h46) (HB2.out.trans (K3.out.mono HB2.out.size))
 have ik:¬(4096:Int)-(T:Int)<(R:Int):=by omega
 have ikb:decide ((4096:Int)-(T:Int)<(R:Int))=false:=qw ik
 go_wp2_with fail
 refine wp_region_held_drew (S:=fun W=>Below w2.heap.size w2 W) (by kernel_rfl) (Below.refl _ _).drew (fun hHeld => ?_)
 refine tk 0 ?_ rfl hHeld ?_ ?_
 rotate_left
 focus (intro W hSw;go_simp;try with_reducible rfl)
 try simp only[jt,Act.put]
 refine tk 2 ?_ rfl hHeld ?_ ?_
 rotate_left
 focus (intro W hSw;go_simp;try with_reducible rfl)
 try simp only[jt,Act.put]
 refine tk 3 ?_ rfl hHeld ?_ ?_
 rotate_left
 focus (intro W hSw;go_simp;try with_reducible rfl)
 try simp only[jt,Act.put]
 refine tk 4 ?_ rfl hHeld ?_ ?_
 rotate_left
 focus (intro W hSw;go_simp;try with_reducible rfl)
 try simp only[jt,Act.put]
 refine tk 5 ?_ rfl hHeld ?_ ?_
 rotate_left
 focus (intro W hSw;have q1:=HC2.out W hSw;go_simp;try with_reducible rfl)
 try simp only[jt,Act.put]
 refine tk 6 ?_ rfl hHeld ?_ ?_
 rotate_left
 focus (intro W hSw;go_simp;try with_reducible rfl)
 try simp only[jt,Act.put]
 obtain⟨wd,hwd⟩:∃q,w2.drew=q:=⟨_,rfl⟩
 rw[hwd] at hHeld ⊢
 clear hwd
 have K0:=qa hHeld
 refine wpAnyH_ready (rs:=[1]) (by kernel_rfl) (by simp) ?_
 refine qu (o:=_) rfl (fun K hK => ?_) q5
 go_simp
 refine(HLN.out wd K0.out).mono ?_
 rintro r w3 ⟨rfl,hb3⟩
 have K3:Hid (Below w2.heap.size w2 w3):=K0.out.trans (hb3.mono K0.out.size)
 clear hb3
 refine hK.out _ _ K3.out (fun hHeld => ?_)
 clear hK K
 try simp only[jt,Act.put]
 refine tk 7 ?_ rfl hHeld ?_ ?_
 rotate_left
 focus (intro W hSw;go_simp;try with_reducible rfl)
 try simp only[jt,Act.put]
 refine wpAnyH_done (by kernel_rfl) ?_ _
 try simp only[jt,Act.put]
 go_wp2_with fail
 have HA3:=qa (HA2.out.below K3.out)
 have HB3:Hid (Below w.heap.size w w3):=HB2.out.trans (K3.out.mono HB2.out.size)
 have HLN2:Hid (∀W,Below w3.heap.size w3 W→Calls Tryz.prog 60 #[.pointer (some ⟨Gs,0,none⟩)] W fun r w'=>r= .returned (.int .i64 (R:Int))∧Below W.heap.size W w'):=fun W hW=>HLN.out W (K3.out.trans (hW.mono K3.out.size))
 have HC3:Hid (∀W,Below w3.heap.size w3 W→W.cell? ⟨G,1,none⟩=some (.int .i64 (T:Int))∧W.frozen? ⟨G,1,none⟩=false):=fun W hW=>⟨(HA3.out.below hW).blk.cell 1,(HA3.out.below hW).blk.frozen 1⟩
 have HT6:Hid (∀W,Below w3.heap.size w3 W→TabAt (W.setCell ⟨G,1,none⟩ (.int .i64 ((T:Int)+(R:Int)))) lo S G n' (T+R) l A0 c0 xs∧Out w3 (W.setCell ⟨G,1,none⟩ (.int .i64 ((T:Int)+(R:Int)))) (fun k=>k=G)):=fun W hW=>by
  rw[show(T:Int)+(R:Int)=((T+R:Nat):Int) by omega]
  exact⟨(HA3.out.below hW).put (T+R),Out.setCell (X:=fun k=>k=G) (Out.of_below hW) (.inl rfl) _⟩
 clear HLN HC2 HA2 HB2 K3 hHeld
 have iw2:IntKind.i64.wrap ((T:Int)+(R:Int))=(T:Int)+(R:Int):=xa _ (by omega)
 try simp only[jt,Act.put]
 go_cut [4] (fun x4 wx=>x4= .int .i64 0∧TabAt wx lo S G n' (T+R) l A0 c0 xs∧Out w3 wx (fun k=>k=G))
 case first =>
  refine wp_region_held_drew (S:=fun _=>True) (by kernel_rfl) trivial (fun hHeld => ?_)
  refine tk 0 ?_ rfl hHeld ?_ ?_
  rotate_left
  focus (intro W hSw;go_simp;try with_reducible rfl)
  try simp only[jt,Act.put]
  refine tk 1 ?_ rfl hHeld ?_ ?_
  rotate_left
  focus (intro W hSw;go_simp;try with_reducible rfl)
  try simp only[jt,Act.put]
  refine tk 2 ?_ rfl hHeld ?_ ?_
  rotate_left
  focus (intro W hSw;go_simp;try with_reducible rfl)
  try simp only[jt,Act.put]
  refine tk 4 ?_ rfl hHeld ?_ ?_
  rotate_left
  focus (intro W hSw;go_simp;try with_reducible rfl)
  try simp only[jt,Act.put]
  obtain⟨wd,hwd⟩:∃q,w3.drew=q:=⟨_,rfl⟩
  rw[hwd]
  have K0:Hid (Below w3.heap.size w3 wd):=by unfold Hid;rw[←hwd];exact(Below.refl _ _).drew
  clear hwd
  refine wpAnyH_ready (rs:=[3,5]) (by kernel_rfl) (by simp) ?_
  refine qu (o:=_) rfl (fun K hK => ?_) (qu (o:=_) rfl (fun K hK => ?_) q5)
  ·
   have q1:=(HC3.out wd K0.out).1
   go_simp
   refine hK.out _ _ trivial (fun hHeld => ?_)
   clear hK K
   try simp only[jt,Act.put]
   clear q1
   refine wpAnyH_ready (rs:=[5]) (by kernel_rfl) (by simp) ?_
   refine qu (o:=_) rfl (fun K hK => ?_) q5
   go_simp
   refine(HLN2.out wd K0.out).mono ?_
   rintro r wa ⟨rfl,hb_wa⟩
   have KA:Hid (Below w3.heap.size w3 wa):=K0.out.trans (hb_wa.mono K0.out.size)
   clear hb_wa
   refine hK.out _ _ trivial (fun hHeld => ?_)
   clear hK K
   try simp only[jt,Act.put]
   refine tk 6 ?_ rfl hHeld ?_ ?_
   rotate_left
   focus (intro W hSw;go_simp;try with_reducible rfl)
   try simp only[jt,Act.put]
   refine tk 7 ?_ rfl hHeld ?_ ?_
   rotate_left
   focus (intro W hSw;go_simp;try with_reducible rfl)
   try simp only[jt,Act.put]
   refine tk 8 ?_ rfl hHeld ?_ ?_
   rotate_left
   focus (intro W hSw;go_simp;try with_reducible rfl)
   try simp only[jt,Act.put]
   have q1:=(HC3.out wa KA.out).1
   have f1:=(HC3.out wa KA.out).2
   refine wpAnyH_ready (rs:=[9]) (by kernel_rfl) (by simp) ?_
   refine qu (o:=_) rfl (fun K hK => ?_) q5
   go_simp
   refine hK.out _ _ trivial (fun hHeld => ?_)
   clear hK K
   try simp only[jt,Act.put]
   refine wpAnyH_done (by kernel_rfl) ?_ _
   try simp only[jt,Act.put]
   go_wp2_with fail
   go_meet
   case rel=>exact⟨rfl,HT6.out wa KA.out⟩
  ·
   go_simp
   refine(HLN2.out wd K0.out).mono ?_
   rintro r wa ⟨rfl,hb_wa⟩
   have KA:Hid (Below w3.heap.size w3 wa):=K0.out.trans (hb_wa.mono K0.out.size)
   clear hb_wa
   refine hK.out _ _ trivial (fun hHeld => ?_)
   clear hK K
   try simp only[jt,Act.put]
   have q1:=(HC3.out wa KA.out).1
   refine wpAnyH_ready (rs:=[3]) (by kernel_rfl) (by simp) ?_
   refine qu (o:=_) rfl (fun K hK => ?_) q5
   go_simp
   refine hK.out _ _ trivial (fun hHeld => ?_)
   clear hK K
   try simp only[jt,Act.put]
   clear q1
   refine tk 6 ?_ rfl hHeld ?_ ?_
   rotate_left
   focus (intro W hSw;go_simp;try with_reducible rfl)
   try simp only[jt,Act.put]
   refine tk 7 ?_ rfl hHeld ?_ ?_
   rotate_left
   focus (intro W hSw;go_simp;try with_reducible rfl)
   try simp only[jt,Act.put]
   refine tk 8 ?_ rfl hHeld ?_ ?_
   rotate_left
   focus (intro W hSw;go_simp;try with_reducible rfl)
   try simp only[jt,Act.put]
   have q1:=(HC3.out wa KA.out).1
   have f1:=(HC3.out wa KA.out).2
   refine wpAnyH_ready (rs:=[9]) (by kernel_rfl) (by simp) ?_
   refine qu (o:=_) rfl (fun K hK => ?_) q5
   go_simp
   refine hK.out _ _ trivial (fun hHeld => ?_)
   clear hK K
   try simp only[jt,Act.put]
   refine wpAnyH_done (by kernel_rfl) ?_ _
   try simp only[jt,Act.put]
   go_wp2_with fail
   go_meet
   case rel=>exact⟨rfl,HT6.out wa KA.out⟩
 case rest =>
  obtain⟨rfl,hta,hou⟩:=hcut
  obtain⟨w7,hw7⟩:∃x,x=wc:=⟨_,rfl⟩
  subst hw7
  have HA7:=qa hta
  have HO7:=qa hou
  have hlo7:lo≤w7.heap.size:=by have:=hta.mine G hta.own;omega
  have hpos:0<b.length:=by have:=HRO.out.len4;omega
  have hrd7:Rd w7 0 w7.heap.size A c (bv b):=by
   obtain⟨g,h1,h2,h3,h4⟩:=HA3.out.far (HBR.out.below HB3.out (qc _)) hpos
   have:=HB3.out.size
   exact(h4.out hou (by omega) fun k h5 h6=>by omega).wide (qj _) (by have:=hou.size;omega)
  have HR7:=qa hrd7
  have HC7:Hid (∀W,Below w7.heap.size w7 W→W.cell? ⟨G,2,none⟩=some (.slice A0 l.length c0)∧W.frozen? ⟨G,2,none⟩=false):=fun W hW=>⟨(HA7.out.below hW).blk.cell 2,(HA7.out.below hW).blk.frozen 2⟩
  have HCL:Hid (∀W,Below w7.heap.size w7 W→Calls Tryz.prog 61 #[.slice A b.length c] W fun r w'=>∃A' c',r= .returned (.slice A' b.length c')∧w'.ownsRow W.heap.size 5 1 (.slice A' b.length c') b.length (bv b)∧Below W.heap.size W w'):=fun W hW=>bclone_any b ((HR7.out.below hW (qc _)).wide (qc _) hW.size) (qc _) hbl
  have HADD:Hid (∀W,Below w7.heap.size w7 W→∀wa A4 c4,Below W.heap.size W wa→wa.ownsRow W.heap.size 5 1 (.slice A4 b.length c4) b.length (bv b)→∀wb,wa.alloc (.cells #[.slice A4 b.length c4] 36)=wb→
   ∃A' c' we,(Builtin.append_ #[39,39] 39 #[.slice A0 l.length c0,.slice (some ⟨wa.heap.size,0,none⟩) 1 1]).run Tryz.prog wb= .ok (.slice A' (l.length+1) c') we∧we.cell? ⟨G,2,none⟩=some (.slice A0 l.length c0)∧we.frozen? ⟨G,2,none⟩=false∧
    AddP w (we.setCell ⟨G,2,none⟩ (.slice A' (l.length+1) c')) lo S G n' l b (.returned (.int .i64 0))):=fun W hW wa A4 c4 h1 h2 wb h3=>by
   obtain⟨A',c',we,g1,g2,g3,S',xs',g4,g5,g6⟩:=tab_add (gs:=gs) (HA7.out.below hW) (zc hlo7 hW.size) hcnt h1 h2 hpos h3
   refine⟨A',c',we,g1,g2,g3,.inl ⟨gs,S',rfl,HRO.out,by rw[HT.out,HR.out];omega,g4.whole (by rw[qct,HT.out,HR.out]),⟨?_,fun k hk => ?_⟩⟩⟩
   ·
    exact(((Out.of_below HB3.out).trans HO7.out fun k _ hk=>by subst hk;exact HA7.out.own).trans (Out.of_below (X:=S) hW) fun _ _ h=>h).trans g6 fun _ _ h=>h
   ·
    have:=HB3.out.size
    have:=HO7.out.size
    have:=hW.size
    exact(g5 k hk).imp id fun h=>by omega
  clear hta hou hrd7 HA7 HA3 HR7 HBR HLN2 HC3 HT6 hlo7 HSM2
  go_wp2_with fail
  refine wp_region_held_drew (S:=fun _=>True) (by kernel_rfl) trivial (fun hHeld => ?_)
  refine tk 0 ?_ rfl hHeld ?_ ?_
  rotate_left
  focus (intro W hSw;go_simp;try with_reducible rfl)
  try simp only[jt,Act.put]
  refine tk 1 ?_ rfl hHeld ?_ ?_
  rotate_left
  focus (intro W hSw;go_simp;try with_reducible rfl)
  try simp only[jt,Act.put]
  refine tk 2 ?_ rfl hHeld ?_ ?_
  rotate_left
  focus (intro W hSw;go_simp;try with_reducible rfl)
  try simp only[jt,Act.put]
  refine tk 3 ?_ rfl hHeld ?_ ?_
  rotate_left
  focus (intro W hSw;go_simp;try with_reducible rfl)
  try simp only[jt,Act.put]
  refine tk 5 ?_ rfl hHeld ?_ ?_
  rotate_left
  focus (intro W hSw;go_simp;try with_reducible rfl)
  try simp only[jt,Act.put]
  obtain⟨wd,hwd⟩:∃q,w7.drew=q:=⟨_,rfl⟩
  rw[hwd]
  have K0:Hid (Below w7.heap.size w7 wd):=by unfold Hid;rw[←hwd];exact(Below.refl _ _).drew
  clear hwd
  have cd7:=(HC7.out wd K0.out).1
  refine wpAnyH_ready (rs:=[4,6]) (by kernel_rfl) (by simp) ?_
  refine qu (o:=_) rfl (fun K hK => ?_) (qu (o:=_) rfl (fun K hK => ?_) q5)
  ·
   go_simp
   refine hK.out _ _ trivial (fun hHeld => ?_)
   clear hK K
   try simp only[jt,Act.put]
   refine wpAnyH_ready (rs:=[6]) (by kernel_rfl) (by simp) ?_
   refine qu (o:=_) rfl (fun K hK => ?_) q5
   go_simp
   refine(HCL.out wd K0.out).mono ?_
   rintro r wa ⟨A4,c4,rfl,ho4,hb4⟩
   obtain⟨wb,hwb⟩:∃q,wa.alloc (.cells #[.slice A4 b.length c4] 36)=q:=⟨_,rfl⟩
   obtain⟨A5,c5,we,hrun,g2,g3,hfin⟩:=HADD.out wd K0.out wa A4 c4 hb4 ho4 wb hwb
   have HFIN:=qa hfin
   have ca7:wa.cell? ⟨G,2,none⟩=some (.slice A0 l.length c0):=(HC7.out wa (K0.out.trans (hb4.mono K0.out.size))).1
   have cb7:wb.cell? ⟨G,2,none⟩=some (.slice A0 l.length c0):=by rw[←hwb];exact(HC7.out _ ((K0.out.trans (hb4.mono K0.out.size)).alloc (K0.out.trans (hb4.mono K0.out.size)).size _)).1
   have HWB:=qa hwb
   clear hb4 ho4 hfin hwb
   refine hK.out _ _ trivial (fun hHeld => ?_)
   clear hK K
   try simp only[jt,Act.put]
   refine wpAnyH_ready (rs:=[7]) (by kernel_rfl) (by simp) ?_
   refine qu (o:=_) rfl (fun K hK => ?_) q5
   go_simp
   rw[HWB.out]
   refine hK.out _ _ trivial (fun hHeld => ?_)
   clear hK K
   try simp only[jt,Act.put]
   refine wpAnyH_ready (rs:=[8]) (by kernel_rfl) (by simp) ?_
   refine qu (o:=_) rfl (fun K hK => ?_) q5
   refine qae (.tmp 46) (.tmp 49) _ _ rfl rfl rfl hrun ?_
   refine hK.out _ _ trivial (fun hHeld => ?_)
   clear hK K
   try simp only[jt,Act.put]
   refine tk 9 ?_ rfl hHeld ?_ ?_
   rotate_left
   focus (intro W hSw;go_simp;try with_reducible rfl)
   try simp only[jt,Act.put]
   refine tk 10 ?_ rfl hHeld ?_ ?_
   rotate_left
   focus (intro W hSw;go_simp;try with_reducible rfl)
   try simp only[jt,Act.put]
   refine wpAnyH_ready (rs:=[11]) (by kernel_rfl) (by simp) ?_
   refine qu (o:=_) rfl (fun K hK => ?_) q5
   go_simp
   refine hK.out _ _ trivial (fun hHeld => ?_)
   clear hK K
   try simp only[jt,Act.put]
   refine wpAnyH_done (by kernel_rfl) ?_ _
   try simp only[jt,Act.put]
   go_wp2_with fail
   go_ret
   exact HFIN.out
  ·
   go_simp
   refine(HCL.out wd K0.out).mono ?_
   rintro r wa ⟨A4,c4,rfl,ho4,hb4⟩
   obtain⟨wb,hwb⟩:∃q,wa.alloc (.cells #[.slice A4 b.length c4] 36)=q:=⟨_,rfl⟩
   obtain⟨A5,c5,we,hrun,g2,g3,hfin⟩:=HADD.out wd K0.out wa A4 c4 hb4 ho4 wb hwb
   have HFIN:=qa hfin
   have ca7:wa.cell? ⟨G,2,none⟩=some (.slice A0 l.length c0):=(HC7.out wa (K0.out.trans (hb4.mono K0.out.size))).1
   have cb7:wb.cell? ⟨G,2,none⟩=some (.slice A0 l.length c0):=by rw[←hwb];exact(HC7.out _ ((K0.out.trans (hb4.mono K0.out.size)).alloc (K0.out.trans (hb4.mono K0.out.size)).size _)).1
   have HWB:=qa hwb
   clear hb4 ho4 hfin hwb
   refine hK.out _ _ trivial (fun hHeld => ?_)
   clear hK K
   try simp only[jt,Act.put]
   refine wpAnyH_ready (rs:=[4,7]) (by kernel_rfl) (by simp) ?_
   refine qu (o:=_) rfl (fun K hK => ?_) (qu (o:=_) rfl (fun K hK => ?_) q5)
   ·
    go_simp
    refine hK.out _ _ trivial (fun hHeld => ?_)
    clear hK K
    try simp only[jt,Act.put]
    refine wpAnyH_ready (rs:=[7]) (by kernel_rfl) (by simp) ?_
    refine qu (o:=_) rfl (fun K hK => ?_) q5
    go_simp
    rw[HWB.out]
    refine hK.out _ _ trivial (fun hHeld => ?_)
    clear hK K
    try simp only[jt,Act.put]
    refine wpAnyH_ready (rs:=[8]) (by kernel_rfl) (by simp) ?_
    refine qu (o:=_) rfl (fun K hK => ?_) q5
    refine qae (.tmp 46) (.tmp 49) _ _ rfl rfl rfl hrun ?_
    refine hK.out _ _ trivial (fun hHeld => ?_)
    clear hK K
    try simp only[jt,Act.put]
    refine tk 9 ?_ rfl hHeld ?_ ?_
    rotate_left
    focus (intro W hSw;go_simp;try with_reducible rfl)
    try simp only[jt,Act.put]
    refine tk 10 ?_ rfl hHeld ?_ ?_
    rotate_left
    focus (intro W hSw;go_simp;try with_reducible rfl)
    try simp only[jt,Act.put]
    refine wpAnyH_ready (rs:=[11]) (by kernel_rfl) (by simp) ?_
    refine qu (o:=_) rfl (fun K hK => ?_) q5
    go_simp
    refine hK.out _ _ trivial (fun hHeld => ?_)
    clear hK K
    try simp only[jt,Act.put]
    refine wpAnyH_done (by kernel_rfl) ?_ _
    try simp only[jt,Act.put]
    go_wp2_with fail
    go_ret
    exact HFIN.out
   ·
    go_simp
    rw[HWB.out]
    refine hK.out _ _ trivial (fun hHeld => ?_)
    clear hK K
    try simp only[jt,Act.put]
    refine wpAnyH_ready (rs:=[4]) (by kernel_rfl) (by simp) ?_
    refine qu (o:=_) rfl (fun K hK => ?_) q5
    go_simp
    refine hK.out _ _ trivial (fun hHeld => ?_)
    clear hK K
    try simp only[jt,Act.put]
    refine wpAnyH_ready (rs:=[8]) (by kernel_rfl) (by simp) ?_
    refine qu (o:=_) rfl (fun K hK => ?_) q5
    refine qae (.tmp 46) (.tmp 49) _ _ rfl rfl rfl hrun ?_
    refine hK.out _ _ trivial (fun hHeld => ?_)
    clear hK K
    try simp only[jt,Act.put]
    refine tk 9 ?_ rfl hHeld ?_ ?_
    rotate_left
    focus (intro W hSw;go_simp;try with_reducible rfl)
    try simp only[jt,Act.put]
    refine tk 10 ?_ rfl hHeld ?_ ?_
    rotate_left
    focus (intro W hSw;go_simp;try with_reducible rfl)
    try simp only[jt,Act.put]
    refine wpAnyH_ready (rs:=[11]) (by kernel_rfl) (by simp) ?_
    refine qu (o:=_) rfl (fun K hK => ?_) q5
    go_simp
    refine hK.out _ _ trivial (fun hHeld => ?_)
    clear hK K
    try simp only[jt,Act.put]
    refine wpAnyH_done (by kernel_rfl) ?_ _
    try simp only[jt,Act.put]
    go_wp2_with fail
    go_ret
    exact HFIN.out
end Go.Proofs.YtjfecojdagmacaaGreat
