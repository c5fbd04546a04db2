/-
  Lemmas.
-/
import Derived.Test.YtnjkipnklpkaoaaGreatA23
namespace Go.Proofs.YtnjkipnklpkaoaaGreat
open Go.RowKit
set_option maxRecDepth 20000
set_option maxHeartbeats 16000000
set_option linter.unusedSimpArgs false
set_option linter.unusedVariables false
theorem ret_nat{a b:Int}(h:a=b):(Ending.returned (.int .i64 a):Ending)= .returned (.int .i64 b):=by rw[h]
theorem sgsize_v{w:World}(n:Nat)(hn:n≤4096)(A B:Option Addr)(m c k d:Nat) :
  Calls Tryz.prog 52 #[.agg #[.int .i64 (n:Int),.slice A m c,.slice B k d]] w fun r w'=>r= .returned (.int .i64 (n:Int))∧Below w.heap.size w w':=by
 obtain⟨w1,hw1⟩:∃w1,w.alloc (.cells #[.int .i64 (n:Int),.slice A m c,.slice B k d] 48)=w1:=⟨_,rfl⟩
 have hb1:j6 w1 w.heap.size 48 #[.int .i64 (n:Int),.slice A m c,.slice B k d]:=by rw[←hw1];exact j6.new w _ _
 have B1:Hid (Below w.heap.size w w1):=by unfold Hid;rw[←hw1];exact(Below.refl _ w).alloc (qc _) _
 have q0:w1.cell? ⟨w.heap.size,0,none⟩=some (.int .i64 (n:Int)):=hb1.cell 0
 go_enter Tryz.func52,Tryz.ntmps52
 go_wp2
 all_goals
  try go_ret
  exact⟨ret_nat (by omega),B1.out⟩
theorem Gr.val{w:World}{lo:Nat}{r:Gr}(h:GrM w lo r)(hok:∀t∈r.its,t.c.Ok r.rows){j i:Nat}(hj:j<r.its.length)(hi:i<r.rows) :
  Calls Tryz.prog 92 #[.pointer (some ⟨r.its[j].g,0,none⟩),.int .i64 (i:Int)] w fun res w'=>res= .returned (.agg #[.bool ((qln (r.its.map It.c) i).getD j ⟨true,⟨#[]⟩⟩).null,.string ((qln (r.its.map It.c) i).getD j ⟨true,⟨#[]⟩⟩).s])∧Below w.heap.size w w':=by
 have h1:=h.its _ (qj hj)
 have h2:=hok _ (qj hj)
 have h3:i<(qbn r.its[j].c.ck).length:=by rw[qdw,h2.len];exact hi
 refine at_v h1.chk (.inl h2.ck) ?_
 rw[qe h3]
 simp[qln,List.getD,qe hj,qe h3]
theorem sgrow_v{w:World}{lo:Nat}{r:Gr}(h:GrM w lo r)(hok:∀t∈r.its,t.c.Ok r.rows)(i:Nat)(hi:i<r.rows)(hn:r.its.length≤1000000) :
  Calls Tryz.prog 53 #[.agg #[.int .i64 (r.rows:Int),.slice r.fA r.its.length r.fc,.slice r.kA r.its.length r.kc],.int .i64 (i:Int)] w fun res w'=>∃A' c',res= .returned (.slice A' r.its.length c')∧w'.ownsRow w.heap.size 60 2 (.slice A' r.its.length c') r.its.length (vv (qln (r.its.map It.c) i))∧Below w.heap.size w w':=by
 obtain⟨w1,hw1⟩:∃w1,w.alloc (.cells #[.int .i64 (r.rows:Int),.slice r.fA r.its.length r.fc,.slice r.kA r.its.length r.kc] 48)=w1:=⟨_,rfl⟩
 have hb1:j6 w1 w.heap.size 48 #[.int .i64 (r.rows:Int),.slice r.fA r.its.length r.fc,.slice r.kA r.its.length r.kc]:=by rw[←hw1];exact j6.new w _ _
 have B1:Hid (Below w.heap.size w w1):=by unfold Hid;rw[←hw1];exact(Below.refl _ w).alloc (qc _) _
 have hs1:w1.heap.size=w.heap.size+1:=by rw[←hw1];simp
 have q2:w1.cell? ⟨w.heap.size,2,none⟩=some (.slice r.kA r.its.length r.kc):=hb1.cell 2
 obtain⟨L,hL⟩:∃L,qln (r.its.map It.c) i=L:=⟨_,rfl⟩
 have HLN:Hid (L.length=r.its.length):=by unfold Hid;rw[←hL,qgb,q8]
 have HA:Hid (∀(W:World) (j:Nat) (hj:j<r.its.length),Below w.heap.size w W→∃b off,r.kA=some ⟨b,off,none⟩∧b<w.heap.size∧W.cell? ⟨b,off+j,none⟩=some (.pointer (some ⟨r.its[j].g,0,none⟩))∧
   ∃v:Vl,L[j]? = some v∧Calls Tryz.prog 92 #[.pointer (some ⟨r.its[j].g,0,none⟩),.int .i64 (i:Int)] W fun res w'=>res= .returned (.agg #[.bool v.null,.string v.s])∧Below W.heap.size W w'):=fun W j hj hW=>by
  obtain⟨b,off,e,h1,h2,h3⟩:=h.chk.lies (by omega)
  have h4:=h3 j hj 0 (by omega)
  rw[va,xx,qe hj] at h4
  have hjL:j<L.length:=by rw[HLN.out];exact hj
  refine⟨b,off,e,h2,(hW.cell h2).trans h4,L[j],qe hjL,?_⟩
  have h5:=Gr.val (h.below hW) hok hj hi
  rw[hL] at h5
  simpa[List.getD,qe hjL] using h5
 obtain⟨n,hnn⟩:∃n,r.its.length=n:=⟨_,rfl⟩
 have HN:=qa hnn
 have hkl:=h.chk.len
 rw[hnn] at q2 HLN hn ⊢
 rw[hnn] at hkl hw1
 obtain⟨w2,xs0,hmake,ho2,hg2⟩:=qqe w1 n (by omega)
 have B2:Hid (Below w.heap.size w w2):=B1.out.trans (qcd (by omega) hg2 (fun g hg=>by cases hg))
 have HB2:Hid (j6 w2 w.heap.size 48 #[.int .i64 (r.rows:Int),.slice r.fA n r.fc,.slice r.kA n r.kc]):=by unfold Hid;rw[←hnn];exact hb1.below (qcd (qc _) hg2 (fun g hg=>by cases hg)) (by omega)
 have HO2:=qa ho2
 have HX0:Hid (xs0.length=n*2):=ho2.1
 rw[hL]
 have p2:w2.cell? ⟨w.heap.size,2,none⟩=some (.slice r.kA n r.kc):=by have:=HB2.out.cell 2;simpa using this
 obtain⟨b1,hb1e⟩:∃b1,w1.heap.size=b1:=⟨_,rfl⟩
 have hb1w:w.heap.size≤b1:=by omega
 rw[hb1e] at hmake HO2
 generalize r.kA=kA at *
 generalize r.kc=kc at *
 generalize r.rows=rows at *
 generalize r.fA=fA at *
 generalize r.fc=fc at *
 clear h hok ho2 hg2 hb1 hL HB2
 go_enter Tryz.func53,Tryz.ntmps53
 go_wp2_with fail
 try rw[hw1]
 go_wp2_with fail
 clear hmake
 go_loopw [15] (fun x wr=>∃(k:Nat) (xs:List Value),k≤n∧x= .int .i64 (k:Int)∧wr.ownsRow b1 60 2 (.slice (some ⟨b1,0,none⟩) n n) n xs∧qk0 (vv L) (k*2) xs∧Below w.heap.size w wr) (fun x _=>n-(intOf x).toNat)
 case atStart=>exact⟨0,xs0,qi _,rfl,HO2.out,qd9 (by rw[HX0.out,qdd,HLN.out]),B2.out⟩
 case round =>
  clear HO2 B2 HX0
  obtain⟨k,xs,hk,rfl,ho,hf,hb⟩:=hrel
  have HO:=qa ho
  have HF:=qa hf
  have HB:=qa hb
  have hsz:=hb.size
  clear ho hf hb
  by_cases hlt:k<n
  ·
   have ik:(k:Int)<(n:Int):=by omega
   obtain⟨b,off,rfl,hbl,e0,v,hvk,hat⟩:=HA.out wr k (by rw[HN.out];exact hlt) HB.out
   have HA1:=qa hat
   have HU0:Hid ((vv L)[k*2]? = some (.bool v.null)):=by
    have:=qlc L k 0 (by omega)
    rw[xx,hvk] at this
    exact this
   have HU1:Hid ((vv L)[k*2+1]? = some (.string v.s)):=by
    have:=qlc L k 1 (by omega)
    rw[hvk] at this
    exact this
   generalize v.null=nb at *
   generalize v.s=s at *
   generalize (r.its[k]'(by rw[HN.out];exact hlt)).g=G at *
   have HXL:Hid (xs.length=n*2):=by unfold Hid;rw[HF.out.1,qdd,HLN.out]
   clear hat hvk
   go_wp2_with fail
   refine HA1.out.mono ?_
   rintro res w2 ⟨rfl,hb2⟩
   have HO2:=qa (js HO.out hb2 (qc _))
   have HB2:=qa (qz HB.out hb2 hsz)
   have hsz2:=HB2.out.size
   have hxl:=HXL.out
   have fr0:=HO2.out.frozenAt (k*2)
   have fr1:=HO2.out.frozenAt (k*2+1)
   have c0:w2.cell? ⟨b1,k*2,none⟩=some (xs[k*2]'(by omega)):=by
    rw[HO2.out.cellAt (k*2) (by omega),qe (by omega)]
   have c1:w2.cell? ⟨b1,k*2+1,none⟩=some (xs[k*2+1]'(by omega)):=by
    rw[HO2.out.cellAt (k*2+1) (by omega),qe (by omega)]
   have HS1:=qa (World.ownsRow.stored HO2.out (k*2) (.bool nb))
   have HS2:=qa (World.ownsRow.stored HS1.out.1 (k*2+1) (.string s))
   have HBS:=qa ((HB2.out.setCell (p:=⟨b1,k*2,none⟩) hb1w (.bool nb)).setCell (p:=⟨b1,k*2+1,none⟩) hb1w (.string s))
   have HFS:Hid (qk0 (vv L) ((k+1)*2) ((xs.set (k*2) (.bool nb)).set (k*2+1) (.string s))):=by
    have:=qay (qay HF.out (.bool nb) HU0.out) (.string s) HU1.out
    rw[show(k+1)*2=k*2+1+1 by omega]
    exact this
   generalize xs[k*2]'(by omega)=y0 at *
   generalize xs[k*2+1]'(by omega)=y1 at *
   clear hb2 HA1 HO HB HF HU0 HU1
   go_wp2_with fail
   go_roundw
   case rel=>exact⟨k+1,_,by omega,by go_num,HS2.out.1,HFS.out,HBS.out⟩
   case measure=>simp[intOf];omega
  ·
   have ik:¬(k:Int)<(n:Int):=by omega
   have hke:k=n:=by omega
   have hx:xs=vv L:=qe1 HF.out (by rw[qdd,HLN.out];omega)
   subst hx
   go_wp2_with fail
   go_ret
   exact⟨_,_,rfl,j4 HO.out hb1w,HB.out⟩
theorem Els.grp{w:World}{lo c:Nat}{A:Option Addr}{rs:List Gr}(h:Els w lo w.heap.size A c 3 rs.length (fun j i=>(rs[j]?).bind fun r=>(qjd r)[i]?)){j:Nat}(hj:j<rs.length) :
  ∃b off,A=some ⟨b,off,none⟩∧lo≤b∧b<w.heap.size∧w.cell? ⟨b,off+j*3,none⟩=some (.int .i64 (rs[j].rows:Int))∧w.cell? ⟨b,off+j*3+1,none⟩=some (.slice rs[j].fA rs[j].its.length rs[j].fc)∧w.cell? ⟨b,off+j*3+2,none⟩=some (.slice rs[j].kA rs[j].its.length rs[j].kc):=by
 obtain⟨b,off,e,h1,h2,h3⟩:=h.lies (by omega)
 have g:=fun i hi=>h3 j hj i hi
 simp only[qe hj,vb] at g
 exact⟨b,off,e,h1,h2,g 0 (by omega),g 1 (by omega),g 2 (by omega)⟩
theorem qkg{gs:List GrpS}{i:Nat}(hi:i<gs.length):qas (gs.take (i+1))=qas (gs.take i)+gs[i].rows:=by
 rw[qg hi,rowsT_snoc]
theorem qot(gs:List GrpS)(i:Nat):qas (gs.take i)≤qas gs:=by
 have h:qas gs=qas (gs.take i)+qas (gs.drop i):=by
  unfold qas
  rw[←qbe,←jg,zx]
 omega
theorem qos{w:World}{lo G n:Nat}{gs:List GrpS}(h:qr6 w lo G n gs)(ho:SegOk n gs) :
  Calls Tryz.prog 19 #[.pointer (some ⟨G,0,none⟩)] w fun r w'=>r= .returned (.int .i64 (qas gs:Int))∧Below w.heap.size w w':=by
 obtain⟨rs,A,c,rfl,hb,hlo,hels,hgr⟩:=h
 have hr4:=ho.rows
 have q1:w.cell? ⟨G,1,none⟩=some (.slice A rs.length c):=by have:=hb.cell 1;simpa using this
 have hl:=hels.len
 have hc:=hels.cap
 unfold maxLen at hc
 have HE:Hid (∀W,Below w.heap.size w W→∀j (hj:j<rs.length),∃b off,A=some ⟨b,off,none⟩∧b<w.heap.size∧W.cell? ⟨b,off+j*3,none⟩=some (.int .i64 (rs[j].rows:Int))∧W.cell? ⟨b,off+j*3+1,none⟩=some (.slice rs[j].fA rs[j].its.length rs[j].fc)∧W.cell? ⟨b,off+j*3+2,none⟩=some (.slice rs[j].kA rs[j].its.length rs[j].kc)):=fun W hW j hj=>by
  obtain⟨b,off,e,h1,h2,h3,h4,h5⟩:=hels.grp hj
  exact⟨b,off,e,h2,(hW.cell h2).trans h3,(hW.cell h2).trans h4,(hW.cell h2).trans h5⟩
 obtain⟨N,hN⟩:∃N:Nat→Nat,∀i,qas ((rs.map Gr.toS).take i)=N i:=⟨_,fun _=>rfl⟩
 have HN:Hid (∀i (hi:i<rs.length),N (i+1)=N i+rs[i].rows):=fun i hi=>by
  rw[←hN,←hN,qkg (by simpa using hi)]
  simp[Gr.toS]
 have HM:Hid (∀i,N i≤qas (rs.map Gr.toS)):=fun i=>by rw[←hN];exact qot _ _
 have HZ:Hid (N 0=0):=by unfold Hid;rw[←hN];rfl
 have HF:Hid (N rs.length=qas (rs.map Gr.toS)):=by unfold Hid;rw[←hN,qo (by simp)]
 generalize qas (rs.map Gr.toS)=T at *
 clear hb hels hgr ho hN
 go_enter Tryz.func19,Tryz.ntmps19
 go_wp2_with fail
 go_loopw [3,13] (fun x3 x13 wr=>∃k:Nat,k≤rs.length∧x13= .int .i64 (k:Int)∧x3= .int .i64 (N k:Int)∧Below w.heap.size w wr) (fun _ x13 _=>rs.length-(intOf x13).toNat)
 case atStart=>exact⟨0,qi _,rfl,by rw[HZ.out];rfl,Below.refl _ _⟩
 case round =>
  obtain⟨k,hkl,rfl,rfl,hb⟩:=hrel
  have HB:=qa hb
  have hsz:=hb.size
  clear hb
  by_cases hlt:k<rs.length
  ·
   have ik:(k:Int)<(rs.length:Int):=by omega
   obtain⟨b,off,rfl,hbl,e0,e1,e2⟩:=HE.out wr HB.out k hlt
   have hn1:=HN.out k hlt
   have hn2:=HM.out (k+1)
   have hT:T≤4096:=hr4
   generalize rs[k].rows=m at *
   generalize rs[k].fA=fA at *
   generalize rs[k].its.length=il at *
   generalize rs[k].fc=fc at *
   generalize rs[k].kA=kA at *
   generalize rs[k].kc=kc at *
   obtain⟨w2,hw2⟩:∃w2,wr.alloc (.cells #[.int .i64 (m:Int),.slice fA il fc,.slice kA il kc] 48)=w2:=⟨_,rfl⟩
   have HB2:Hid (Below w.heap.size w w2):=by unfold Hid;rw[←hw2];exact HB.out.alloc hsz _
   have hgb:j6 w2 wr.heap.size 48 #[.int .i64 (m:Int),.slice fA il fc,.slice kA il kc]:=by rw[←hw2];exact j6.new wr _ _
   have p0:w2.cell? ⟨wr.heap.size,0,none⟩=some (.int .i64 (m:Int)):=hgb.cell 0
   have p1:w2.cell? ⟨wr.heap.size,1,none⟩=some (.slice fA il fc):=hgb.cell 1
   have p2:w2.cell? ⟨wr.heap.size,2,none⟩=some (.slice kA il kc):=hgb.cell 2
   have HS:=qa (sgsize_v (w:=w2) m (by omega) fA kA il fc il kc)
   have hsz2:=HB2.out.size
   go_wp2_with fail
   try rw[hw2]
   clear hw2 hgb
   go_wp2_with fail
   refine HS.out.mono ?_
   rintro r w3 ⟨rfl,hb3⟩
   have HB3:=qa (qz HB2.out hb3 hsz2)
   clear hb3 HS
   go_wp2_with fail
   go_roundw
   case rel=>exact⟨k+1,by omega,by go_num,by rw[hn1];go_num,HB3.out⟩
   case measure=>simp[intOf];omega
  ·
   have ik:¬(k:Int)<(rs.length:Int):=by omega
   obtain rfl:k=rs.length:=by omega
   rw[HF.out]
   go_wp2_with fail
   go_ret
   exact⟨rfl,HB.out⟩
def qdn(w:World)(base:Nat)(o:Option Nat)(xs:List Value)(rs:List (List Vl)):Prop:=xs.length=rs.length∧∀j (hj:j<rs.length),∃A c,xs[j]? = some (.slice A rs[j].length c)∧w.ownsRow base 60 2 (.slice A rs[j].length c) rs[j].length (vv rs[j])∧∀q,(Value.slice A rs[j].length c).ownBlock=some q→o≠some q
theorem qdn.nil(w:World)(base:Nat)(o:Option Nat):qdn w base o [] []:=⟨rfl,fun j hj=>absurd hj (jp j)⟩
theorem qdn.step{w w':World}{base:Nat}{o o':Option Nat}{xs:List Value}{rs:List (List Vl)}(h:qdn w base o xs rs)(hg:w.grownBy w' o)(ho:o'=o∨o'=some w.heap.size):qdn w' base o' xs rs:=by
 refine⟨h.1,fun j hj => ?_⟩
 obtain⟨A,c,h1,h2,h3⟩:=h.2 j hj
 refine⟨A,c,h1,ju h2 fun k hk=>hg.block k (zk h2 hk).2 (fun e=>h3 k hk e.symm),fun q hq => ?_⟩
 have:=(zk h2 hq).2
 rcases ho with ho | ho
 ·
  rw[ho];exact h3 q hq
 ·
  rw[ho];intro e;injection e with e;omega
theorem qdn.below{w w':World}{base:Nat}{o:Option Nat}{xs:List Value}{rs:List (List Vl)}(h:qdn w base o xs rs)(hb:Below w.heap.size w w'):qdn w' base o xs rs:=by
 refine⟨h.1,fun j hj => ?_⟩
 obtain⟨A,c,h1,h2,h3⟩:=h.2 j hj
 exact⟨A,c,h1,js h2 hb (qc _),h3⟩
theorem qdn.snoc{w:World}{base:Nat}{o:Option Nat}{xs:List Value}{rs:List (List Vl)}(h:qdn w base o xs rs){A:Option Addr}{c:Nat}{r:List Vl}(hr:w.ownsRow base 60 2 (.slice A r.length c) r.length (vv r))(hq:∀q,(Value.slice A r.length c).ownBlock=some q→o≠some q) :
  qdn w base o (xs++[.slice A r.length c]) (rs++[r]):=by
 refine⟨by rw[qd,qd,h.1];rfl,fun j hj => ?_⟩
 by_cases hlt:j<rs.length
 ·
  rw[vh (by rw[h.1];exact hlt)]
  simp only[qba hlt]
  exact h.2 j hlt
 ·
  rw[qd,jd] at hj
  obtain rfl:j=rs.length:=by omega
  refine⟨A,c,?_,?_,?_⟩
  ·
   rw[ku (by rw[h.1];exact qc _),h.1]
   simp
  ·
   simpa using hr
  ·
   simpa using hq
theorem qdn.rows{w:World}{base n c:Nat}{A:Option Addr}{xs:List Value}{rs:List (List Vl)}{o:Option Nat}(h:qdn w base o xs rs)(hx:w.ownsRow base 61 1 (.slice A n c) n xs)(hs:∀r∈rs,∀v∈r,v.s.size≤9223372036854775807):vr w base w.heap.size A c rs :=
 qgg.rows ⟨h.1,fun j hj=>by
  obtain⟨A',c',h1,h2,_⟩:=h.2 j hj
  exact⟨A',c',h1,qow h2 rfl (hs _ (qj hj))⟩⟩ (Rd.of_own hx)
theorem append_row1{w:World}{base n:Nat}{v:Value}{xs:List Value}(hown:w.ownsRow base 61 1 v n xs){g:Nat}{u:Value}(hc:w.cell? ⟨g,0,none⟩=some u)(hg:g<w.heap.size)(h1:u.oneCell'=true)(hb:n+1≤1000000)(hbase:base≤w.heap.size) :
  ∃A' c' w',(Builtin.append_ #[41,41] 41 #[v,.slice (some ⟨g,0,none⟩) 1 1]).run Tryz.prog w= .ok (.slice A' (n+1) c') w'∧w'.ownsRow base 61 1 (.slice A' (n+1) c') (n+1) (xs++[u])∧w.grownBy w' v.ownBlock∧
   ((Value.slice A' (n+1) c').ownBlock=v.ownBlock∨(Value.slice A' (n+1) c').ownBlock=some w.heap.size):=by
 obtain⟨i0,hi0,hz0,hz1,hz2⟩:=info_parts Tryz.infoRow
 have hr:Rd w 0 w.heap.size (some ⟨g,0,none⟩) 1 [u]:=⟨by simp,by simp[maxLen],fun _=>⟨g,0,rfl,qi _,hg,fun j y hj=>by
  match j,hj with
  | 0,hj=>simp at hj;subst hj;exact hc
  | j+1,hj=>simp at hj⟩⟩
 exact ui (P:=Tryz.prog) w base 41 41 61 i0 _ 24 Tryz.underlying41 hi0 hz0 hz1 hz2 rfl v n xs hown 0 _ _ 1 [u] hr (fun y hy=>by rw[zo.1 hy];exact h1) (by simp only[maxLen,jd];omega) (by simp;omega) hbase
theorem rowS_size{g:GrpS}{n:Nat}(h:g.Ok n){i:Nat}:∀v∈qln g.cols i,v.s.size≤4096:=fun v hv=>by
 obtain⟨c,hc,rfl⟩:=zn.1 hv
 have h1:=vals_fits (h.cols c hc).ck
 rw[List.getD]
 cases h2:(qbn c.ck)[i]? with
 | none=>exact qi _
 | some u=>exact(h1.2 u (List.mem_of_getElem? h2)).1
theorem qgz{n:Nat}{gs:List GrpS}(h:SegOk n gs):∀r∈qeu gs,∀v∈r,v.s.size≤4096:=fun r hr v hv=>by
 obtain⟨l,hl,hr⟩:=List.mem_flatten.1 hr
 obtain⟨g,hg,rfl⟩:=zn.1 hl
 obtain⟨i,_,rfl⟩:=zn.1 hr
 exact rowS_size (h.grp g hg) v hv
def qlm(g:GrpS)(i:Nat):List (List Vl):=(List.range i).map (qln g.cols)
theorem rowsK_succ(g:GrpS)(i:Nat):qlm g (i+1)=qlm g i++[qln g.cols i]:=by simp[qlm,List.range_succ]
theorem qhc{w:World}{lo G n:Nat}{gs:List GrpS}(h:qr6 w lo G n gs)(ho:SegOk n gs){T:Nat}(hT:qas gs=T) :
  Calls Tryz.prog 17 #[.pointer (some ⟨G,0,none⟩)] w fun r w'=>∃A' c' xs,r= .returned (.slice A' T c')∧w'.ownsRow w.heap.size 61 1 (.slice A' T c') T xs∧qdn w' w.heap.size (Value.slice A' T c').ownBlock xs (qeu gs)∧Below w.heap.size w w':=by
 obtain⟨rs,A,c,rfl,hb,hlo,hels,hgr⟩:=h
 have hr4:=ho.rows
 have q1:w.cell? ⟨G,1,none⟩=some (.slice A rs.length c):=by have:=hb.cell 1;simpa using this
 have hl:=hels.len
 have hc:=hels.cap
 unfold maxLen at hc
 have HE:Hid (∀W,Below w.heap.size w W→∀j (hj:j<rs.length),∃b off,A=some ⟨b,off,none⟩∧b<w.heap.size∧W.cell? ⟨b,off+j*3,none⟩=some (.int .i64 (rs[j].rows:Int))∧W.cell? ⟨b,off+j*3+1,none⟩=some (.slice rs[j].fA rs[j].its.length rs[j].fc)∧W.cell? ⟨b,off+j*3+2,none⟩=some (.slice rs[j].kA rs[j].its.length rs[j].kc)):=fun W hW j hj=>by
  obtain⟨b,off,e,h1,h2,h3,h4,h5⟩:=hels.grp hj
  exact⟨b,off,e,h2,(hW.cell h2).trans h3,(hW.cell h2).trans h4,(hW.cell h2).trans h5⟩
 have HG:Hid (∀W,Below w.heap.size w W→∀j (hj:j<rs.length),GrM W lo rs[j]):=fun W hW j hj=>(hgr _ (qj hj)).below hW
 have HOK:Hid (∀j (hj:j<rs.length),(rs[j].toS).Ok n):=fun j hj=>ho.grp _ (xq (qj hj))
 have hn8:=ho.eight
 obtain⟨N,hN⟩:∃N:Nat→Nat,∀i,qas ((rs.map Gr.toS).take i)=N i:=⟨_,fun _=>rfl⟩
 obtain⟨R,hR⟩:∃R:Nat→List (List Vl),∀i,qeu ((rs.map Gr.toS).take i)=R i:=⟨_,fun _=>rfl⟩
 have HN:Hid (∀i (hi:i<rs.length),N (i+1)=N i+rs[i].rows):=fun i hi=>by
  rw[←hN,←hN,qkg (by simpa using hi)]
  simp[Gr.toS]
 have HR:Hid (∀i (hi:i<rs.length),R (i+1)=R i++qlm rs[i].toS rs[i].rows):=fun i hi=>by
  rw[←hR,←hR,qg (by simpa using hi),rowsS_snoc]
  simp[qlm,qiw,Gr.toS]
 have HM:Hid (∀i,N i≤qas (rs.map Gr.toS)):=fun i=>by rw[←hN];exact qot _ _
 have HZ:Hid (N 0=0∧R 0=[]):=⟨by rw[←hN];rfl,by rw[←hR];rfl⟩
 have HF:Hid (N rs.length=qas (rs.map Gr.toS)∧R rs.length=qeu (rs.map Gr.toS)):=⟨by rw[←hN,qo (by simp)],by rw[←hR,qo (by simp)]⟩
 rw[hT] at HM HF hr4
 generalize qeu (rs.map Gr.toS)=RR at *
 clear hb hels hgr ho hN hR hT
 go_enter Tryz.func17,Tryz.ntmps17
 go_wp2_with fail
 go_loopw [3,14] (fun x3 x14 wr=>∃(k p:Nat) (A':Option Addr) (c':Nat) (xs:List Value),k≤rs.length∧x14= .int .i64 (k:Int)∧x3= .slice A' p c'∧Hid (N k=p)∧Hid (wr.ownsRow w.heap.size 61 1 (.slice A' p c') p xs)∧Hid (qdn wr w.heap.size (Value.slice A' p c').ownBlock xs (R k))∧Below w.heap.size w wr) (fun _ x14 _=>rs.length-(intOf x14).toNat)
 case atStart=>exact⟨0,0,none,0,[],qi _,rfl,rfl,HZ.out.1,zh _ _ _ _,by unfold Hid;rw[HZ.out.2];exact qdn.nil _ _ _,Below.refl _ _⟩
 case round =>
  obtain⟨k,p,A',c',xs,hkl,rfl,rfl,HP,HO,HX,hb⟩:=hrel
  obtain⟨wk,hwk⟩:∃wk,wk=wr:=⟨_,rfl⟩
  subst hwk
  have HB:=qa hb
  have hsz:=hb.size
  clear hb
  by_cases hlt:k<rs.length
  ·
   have ik:(k:Int)<(rs.length:Int):=by omega
   obtain⟨b,off,rfl,hbl,e0,e1,e2⟩:=HE.out wk HB.out k hlt
   have HN1:=qa (HN.out k hlt)
   have hn2:=HM.out (k+1)
   have hT:T≤4096:=hr4
   have HGK:=qa (fun W hW=>HG.out W hW k hlt)
   have HKO:=qa (HOK.out k hlt)
   have HRK:=qa (HR.out k hlt)
   obtain⟨r,hr⟩:∃r,rs[k]=r:=⟨_,rfl⟩
   rw[hr] at e0 e1 e2 HN1 HGK HKO HRK
   have hil:r.its.length=n:=by have:=HKO.out.len;simpa[Gr.toS] using this
   rw[hil] at e1 e2
   have HIT:Hid (∀t∈r.its,t.c.Ok r.rows):=fun t ht=>HKO.out.cols t.c (xq ht)
   obtain⟨w2,hw2⟩:∃w2,wk.alloc (.cells #[.int .i64 (r.rows:Int),.slice r.fA n r.fc,.slice r.kA n r.kc] 48)=w2:=⟨_,rfl⟩
   have HB2:Hid (Below w.heap.size w w2):=by unfold Hid;rw[←hw2];exact HB.out.alloc hsz _
   have hgb:j6 w2 wk.heap.size 48 #[.int .i64 (r.rows:Int),.slice r.fA n r.fc,.slice r.kA n r.kc]:=by rw[←hw2];exact j6.new wk _ _
   have B2:Below wk.heap.size wk w2:=by rw[←hw2];exact(Below.refl _ wk).alloc (qc _) _
   have hs2:w2.heap.size=wk.heap.size+1:=by rw[←hw2];simp
   have hm4:r.rows≤4096:=by have:=HN1.out;omega
   have HO2:Hid (w2.ownsRow w.heap.size 61 1 (.slice A' p c') p xs):=js HO.out B2 (qc _)
   have HX2:Hid (qdn w2 w.heap.size (Value.slice A' p c').ownBlock xs (R k++qlm r.toS 0)):=by
    unfold Hid
    rw[show qlm r.toS 0=[] from rfl,jj]
    exact HX.out.below B2
   have hob:∀q,(Value.slice A' p c').ownBlock=some q→q≠wk.heap.size:=fun q hq=>by have:=(zk HO.out hq).2;omega
   have HS:=qa (sgsize_v (w:=w2) r.rows hm4 r.fA r.kA n r.fc n r.kc)
   have p0:w2.cell? ⟨wk.heap.size,0,none⟩=some (.int .i64 (r.rows:Int)):=hgb.cell 0
   have p1:w2.cell? ⟨wk.heap.size,1,none⟩=some (.slice r.fA n r.fc):=hgb.cell 1
   have p2:w2.cell? ⟨wk.heap.size,2,none⟩=some (.slice r.kA n r.kc):=hgb.cell 2
   obtain⟨gB,hgB⟩:∃gB,wk.heap.size=gB:=⟨_,rfl⟩
   rw[hgB] at p0 p1 p2 hgb hob
   have HGB:=qa hgb
   have hszw2:=HB2.out.size
   clear hr HO HX
   go_wp2_with fail
   try rw[hw2]
   clear hw2 hgb B2
   go_wp2_with fail
   refine HS.out.mono ?_
   rintro res w3 ⟨rfl,hb3⟩
   have HB3:=qa (qz HB2.out hb3 hszw2)
   have HO3:=qa (js HO2.out hb3 (qc _))
   have HX3:=qa (HX2.out.below hb3)
   have HGB3:=qa (HGB.out.below hb3 (by omega))
   have hszw3:=hb3.size
   have hgB3:gB<w3.heap.size:=by omega
   have hgBw:w.heap.size≤gB:=by omega
   clear hb3 HS HO2 HX2 HGB p0 p1 p2
   go_wp2_with fail
   go_loopw [3,20] (fun x3 x20 wr=>∃(i p2:Nat) (A':Option Addr) (c':Nat) (xs:List Value),i≤r.rows∧x20= .int .i64 (i:Int)∧x3= .slice A' p2 c'∧Hid (p+i=p2)∧Hid (wr.ownsRow w.heap.size 61 1 (.slice A' p2 c') p2 xs)∧Hid (qdn wr w.heap.size (Value.slice A' p2 c').ownBlock xs (R k++qlm r.toS i))∧Hid (j6 wr gB 48 #[.int .i64 (r.rows:Int),.slice r.fA n r.fc,.slice r.kA n r.kc])∧Hid (∀q,(Value.slice A' p2 c').ownBlock=some q→q≠gB)∧gB<wr.heap.size∧Below w.heap.size w wr) (fun _ x20 _=>r.rows-(intOf x20).toNat)
   case atStart=>exact⟨0,p,A',c',xs,qi _,rfl,rfl,rfl,HO3.out,HX3.out,HGB3.out,hob,hgB3,HB3.out⟩
   case round =>
    clear HO3 HX3 HGB3 HB3 hob hgB3 hszw3 HB2 hszw2 hs2
    obtain⟨i,p2,A',c',xs,hil2,rfl,rfl,HPI,HO,HX,HGB,HQ,hgl,hb⟩:=hrel
    obtain⟨wi,hwi⟩:∃wi,wi=wr:=⟨_,rfl⟩
    subst hwi
    have HBI:=qa hb
    have hszi:=hb.size
    clear hb
    by_cases hlti:i<r.rows
    ·
     have ii:(i:Int)<(r.rows:Int):=by omega
     have hgb:=HGB.out
     have p0:wi.cell? ⟨gB,0,none⟩=some (.int .i64 (r.rows:Int)):=hgb.cell 0
     have p1:wi.cell? ⟨gB,1,none⟩=some (.slice r.fA n r.fc):=hgb.cell 1
     have p2c:wi.cell? ⟨gB,2,none⟩=some (.slice r.kA n r.kc):=hgb.cell 2
     have HRW:=qa (sgrow_v (w:=wi) (HGK.out wi HBI.out) HIT.out i hlti (by rw[hil];omega))
     rw[hil] at HRW
     have HRE:Hid (R k++qlm r.toS (i+1)=(R k++qlm r.toS i)++[qln (r.its.map It.c) i]):=by unfold Hid;rw[rowsK_succ,←qv];rfl
     have HRN:Hid ((qln (r.its.map It.c) i).length=n):=by unfold Hid;rw[qgb,q8,hil]
     have hpn:p2+1≤4096:=by have:=HPI.out;have:=HP.out;have:=HN1.out;omega
     generalize qln (r.its.map It.c) i=L at *
     clear hgb
     go_wp2_with fail
     refine HRW.out.mono ?_
     rintro res w4 ⟨A4,c4,rfl,ho4,hb4⟩
     have HB4:=qa (qz HBI.out hb4 hszi)
     have HO4:=qa (js HO.out hb4 (qc _))
     have HX4:=qa (HX.out.below hb4)
     have HGB4:=qa (HGB.out.below hb4 hgl)
     have hs4:=hb4.size
     have hrb:∀q,(Value.slice A4 n c4).ownBlock=some q→wi.heap.size≤q:=fun q hq=>(zk ho4 hq).1
     have hrb2:∀q,(Value.slice A' p2 c').ownBlock=some q→q<wi.heap.size:=fun q hq=>(zk HO.out hq).2
     have HR4:Hid (w4.ownsRow w.heap.size 60 2 (.slice A4 L.length c4) L.length (vv L)):=by unfold Hid;rw[HRN.out];exact j4 ho4 hszi
     have HS4:Hid (qdn w4 w.heap.size (Value.slice A' p2 c').ownBlock (xs++[.slice A4 L.length c4]) ((R k++qlm r.toS i)++[L])):=HX4.out.snoc HR4.out (fun q hq e=>by
      rw[HRN.out] at hq
      have h1:=hrb q hq
      have h2:=hrb2 q e
      omega)
     rw[HRN.out,←HRE.out] at HS4
     obtain⟨w5,hw5⟩:∃w5,w4.alloc (.cells #[.slice A4 n c4] 61)=w5:=⟨_,rfl⟩
     have B5:Below w4.heap.size w4 w5:=by rw[←hw5];exact(Below.refl _ w4).alloc (qc _) _
     have hs5:w5.heap.size=w4.heap.size+1:=by rw[←hw5];simp
     have hc5:w5.cell? ⟨w4.heap.size,0,none⟩=some (.slice A4 n c4):=by rw[←hw5,za _ _ _ _ rfl];rfl
     obtain⟨A6,c6,w6,hrun,ho6,hg6,hq6⟩:=append_row1 (js HO4.out B5 (qc _)) hc5 (by omega) rfl (by omega) (by have:=HB4.out.size;omega)
     have HS6:=qa ((HS4.out.below B5).step hg6 hq6)
     have HO6:=qa ho6
     have hbs6:=hg6.size
     have HB6:Hid (Below w.heap.size w w6):=(qz HB4.out B5 (by have:=HB4.out.size;omega)).grown hg6 (by have:=HB4.out.size;omega) (fun q hq=>(zk HO4.out hq).1)
     have HGB6:Hid (j6 w6 gB 48 #[.int .i64 (r.rows:Int),.slice r.fA n r.fc,.slice r.kA n r.kc]):=(HGB4.out.below B5 (by omega)).grown hg6 (fun e=>HQ.out gB e.symm rfl)
     have HQ6:Hid (∀q,(Value.slice A6 (p2+1) c6).ownBlock=some q→q≠gB):=fun q hq=>by
      rcases hq6 with e | e
      ·
       rw[e] at hq;exact HQ.out q hq
      ·
       rw[e] at hq;injection hq with hq;omega
     clear ho4 hb4 HRW HO HX HGB HQ HO4 HX4 HGB4 HR4 HS4 hc5 B5 ho6 hg6 hq6 hrb hrb2 HRE HRN
     go_wp2_with (at_builtin;refine wpList_append_run rfl _ _ _ _ rfl rfl rfl hrun ?_)
     go_roundw
     case rel=>exact⟨i+1,p2+1,A6,c6,_,by omega,by go_num,rfl,by unfold Hid;have:=HPI.out;omega,HO6.out,HS6.out,HGB6.out,HQ6.out,by omega,HB6.out⟩
     case measure=>simp[intOf];omega
    ·
     have ii:¬(i:Int)<(r.rows:Int):=by omega
     obtain rfl:i=r.rows:=by omega
     rw[←HRK.out] at HX
     go_wp2_with fail
     go_roundw
     case rel=>exact⟨k+1,p2,A',c',xs,by omega,by go_num,rfl,by unfold Hid;have:=HPI.out;have:=HP.out;have:=HN1.out;omega,HO,HX,HBI.out⟩
     case measure=>simp[intOf];omega
  ·
   have ik:¬(k:Int)<(rs.length:Int):=by omega
   obtain rfl:k=rs.length:=by omega
   obtain rfl:T=p:=HF.out.1.symm.trans HP.out
   rw[HF.out.2] at HX
   go_wp2_with fail
   go_ret
   exact⟨_,_,rfl,xs,HO.out,HX.out,HB.out⟩
section
attribute [local go_sem] qbp
def awG:List (List (List Vl)):=[[[⟨false,⟨#[97,98,99]⟩⟩],[⟨true,⟨#[]⟩⟩]],[[⟨false,⟨#[120]⟩⟩]]]
def awOs:List Co:=[⟨1,1,0,[]⟩]
theorem qpu:jaa 1 awG awOs 0:=by decide
theorem aw_few:FewSg awG awOs:=⟨by decide,by decide,by decide,by decide,by decide,by decide⟩
theorem aw_kind(l:List ByteArray):yu l (qdj awOs 0)=1:=by rw[show qdj awOs 0=⟨1,1,0,[]⟩ from rfl,yu,if_neg (by decide)]
theorem aw_tabs:qkx awG awOs:=fun g hg k hk h=>by
 obtain rfl:k=0:=by simp[awOs] at hk;exact hk
 rw[aw_kind] at h
 cases h
theorem aw_code:CodeG awG awOs:=codeG_plain (by decide)
theorem aw_fewg:qry awG awOs:=few_gr aw_few (by decide)
noncomputable def awB:List UInt8:=kr (qgh awOs 0 awG)
theorem aw_there:qbw awB 1 (awG.map (qjv awOs 0)):=sg_there (b:=0) qpu aw_tabs aw_fewg
theorem aw_rows:qeu (awG.map (qjv awOs 0))=awG.flatten:=rowsS_of (b:=0) qpu aw_tabs aw_fewg
theorem aw_len:qas (awG.map (qjv awOs 0))=3:=rowsT_of awOs 0 awG
theorem aw_le:awB.length≤1000000000:=by
 have:=segB_len (b:=0) qpu aw_tabs aw_few
 rw[awB,qdy]
 omega
theorem aw_open:qrx (awB.take (awB.length-4)):=by
 refine openH_plain aw_there.2 (fun g hg c hc => ?_) ?_
 ·
  obtain⟨rs,hrs,rfl⟩:=zn.1 hg
  obtain⟨k,hk,rfl⟩:=zn.1 hc
  obtain rfl:k=0:=by simpa[awOs] using hk
  show(qbs (vg rs 0) (qdj awOs 0)).kind=1
  rw[qbs,if_neg (by rw[aw_kind];decide),if_neg (by rw[aw_kind];decide)]
 ·
  rw[qy]
  have:=aw_le
  omega
theorem aw_two:∀n gs,¬qbw [1,0] n gs:=fun n gs h=>by
 have:=h.1
 revert this
 decide
theorem lit_row(w:World)(cs:Array Value)(n:Nat)(r:List Vl)(hr:r.length=n)(hc:cs.toList=vv r)(hn:n≤100)(hs:∀v∈r,v.s.size≤100):Row (w.alloc (.cells cs 60)) 0 (w.alloc (.cells cs 60)).heap.size (some ⟨w.heap.size,0,none⟩) n r:=by
 have hsz:cs.size=n*2:=by rw[←zy,hc,qdd,hr]
 have h:=vm (size:=2) (e:=60) w cs n (qc _) (by simp only[maxLen];omega) hsz
 rw[hc] at h
 exact(qow h hr fun v hv=>ze (hs v hv) (by decide)).wide (qi _) (qc _)
theorem aw_mem{w1 w2 w3 w4 w5 w6 w7:World}(h1:w1.alloc (.cells #[.bool false,.string ⟨#[97,98,99]⟩] 60)=w2)(h2:w2.alloc (.cells #[.bool true,.string ⟨#[]⟩] 60)=w3)
  (h3:w3.alloc (.cells #[.slice (some ⟨w1.heap.size,0,none⟩) 1 1,.slice (some ⟨w1.heap.size+1,0,none⟩) 1 1] 61)=w4) (h4:w4.alloc (.cells #[.bool false,.string ⟨#[120]⟩] 60)=w5)
  (h5:w5.alloc (.cells #[.slice (some ⟨w1.heap.size+1+1+1,0,none⟩) 1 1] 61)=w6) (h6:w6.alloc (.cells #[.slice (some ⟨w1.heap.size+1+1,0,none⟩) 2 2,.slice (some ⟨w1.heap.size+1+1+1+1,0,none⟩) 1 1] 41)=w7) :
  Below w1.heap.size w1 w7∧w7.heap.size=w1.heap.size+1+1+1+1+1+1∧qax w7 0 w7.heap.size (some ⟨w1.heap.size+1+1+1+1+1,0,none⟩) 2 awG:=by
 have s2:w2.heap.size=w1.heap.size+1:=by rw[←h1];simp
 have s3:w3.heap.size=w1.heap.size+1+1:=by rw[←h2];simp[s2]
 have s4:w4.heap.size=w1.heap.size+1+1+1:=by rw[←h3];simp[s3]
 have s5:w5.heap.size=w1.heap.size+1+1+1+1:=by rw[←h4];simp[s4]
 have s6:w6.heap.size=w1.heap.size+1+1+1+1+1:=by rw[←h5];simp[s5]
 have s7:w7.heap.size=w1.heap.size+1+1+1+1+1+1:=by rw[←h6];simp[s6]
 have b2:Below w2.heap.size w2 w7:=by
  rw[←h6,←h5,←h4,←h3,←h2]
  exact(((((Below.refl _ w2).alloc (qc _) _).alloc (by simp) _).alloc (by simp;omega) _).alloc (by simp;omega) _).alloc (by simp;omega) _
 have b3:Below w3.heap.size w3 w7:=by
  rw[←h6,←h5,←h4,←h3]
  exact((((Below.refl _ w3).alloc (qc _) _).alloc (by simp) _).alloc (by simp;omega) _).alloc (by simp;omega) _
 have b4:Below w4.heap.size w4 w7:=by
  rw[←h6,←h5,←h4]
  exact(((Below.refl _ w4).alloc (qc _) _).alloc (by simp) _).alloc (by simp;omega) _
 have b5:Below w5.heap.size w5 w7:=by
  rw[←h6,←h5]
  exact((Below.refl _ w5).alloc (qc _) _).alloc (by simp) _
 have b6:Below w6.heap.size w6 w7:=by
  rw[←h6]
  exact(Below.refl _ w6).alloc (qc _) _
 have hB:Below w1.heap.size w1 w7:=((Below.refl _ w1).alloc (qc _) _:Below w1.heap.size w1 _).trans (by rw[h1];exact b2.mono (by omega))
 have r1:Row w7 0 w7.heap.size (some ⟨w1.heap.size,0,none⟩) 1 [⟨false,⟨#[97,98,99]⟩⟩]:=((by rw[←h1];exact lit_row w1 _ 1 _ rfl rfl (by decide) (by decide):Row w2 0 w2.heap.size (some ⟨w1.heap.size,0,none⟩) 1 [⟨false,⟨#[97,98,99]⟩⟩]).below b2 (qc _)).wide (qc _) b2.size
 have r2:Row w7 0 w7.heap.size (some ⟨w1.heap.size+1,0,none⟩) 1 [⟨true,⟨#[]⟩⟩]:=((by rw[←s2,←h2];exact lit_row w2 _ 1 _ rfl rfl (by decide) (by decide):Row w3 0 w3.heap.size (some ⟨w1.heap.size+1,0,none⟩) 1 [⟨true,⟨#[]⟩⟩]).below b3 (qc _)).wide (qc _) b3.size
 have r3:Row w7 0 w7.heap.size (some ⟨w1.heap.size+1+1+1,0,none⟩) 1 [⟨false,⟨#[120]⟩⟩]:=((by rw[←s4,←h4];exact lit_row w4 _ 1 _ rfl rfl (by decide) (by decide):Row w5 0 w5.heap.size (some ⟨w1.heap.size+1+1+1,0,none⟩) 1 [⟨false,⟨#[120]⟩⟩]).below b5 (qc _)).wide (qc _) b5.size
 have g1:vr w7 0 w7.heap.size (some ⟨w1.heap.size+1+1,0,none⟩) 2 [[⟨false,⟨#[97,98,99]⟩⟩],[⟨true,⟨#[]⟩⟩]]:=by
  have ho:=vm (size:=1) (e:=61) w3 #[.slice (some ⟨w1.heap.size,0,none⟩) 1 1,.slice (some ⟨w1.heap.size+1,0,none⟩) 1 1] 2 (qc _) (by simp[maxLen]) rfl
  rw[h3,s3] at ho
  have hr:=((Rd.of_own ho).below b4 (qc _)).wide (qi _) b4.size
  refine qgg.rows ⟨rfl,fun j hj => ?_⟩ hr
  have hj2:j<2:=hj
  match j,hj2 with
  | 0,_=>exact⟨_,_,rfl,r1⟩
  | 1,_=>exact⟨_,_,rfl,r2⟩
 have g2:vr w7 0 w7.heap.size (some ⟨w1.heap.size+1+1+1+1,0,none⟩) 1 [[⟨false,⟨#[120]⟩⟩]]:=by
  have ho:=vm (size:=1) (e:=61) w5 #[.slice (some ⟨w1.heap.size+1+1+1,0,none⟩) 1 1] 1 (qc _) (by simp[maxLen]) rfl
  rw[h5,s5] at ho
  have hr:=((Rd.of_own ho).below b6 (qc _)).wide (qi _) b6.size
  refine qgg.rows ⟨rfl,fun j hj => ?_⟩ hr
  have hj2:j<1:=hj
  match j,hj2 with
  | 0,_=>exact⟨_,_,rfl,r3⟩
 refine⟨hB,s7,?_⟩
 have ho:=vm (size:=1) (e:=41) w6 #[.slice (some ⟨w1.heap.size+1+1,0,none⟩) 2 2,.slice (some ⟨w1.heap.size+1+1+1+1,0,none⟩) 1 1] 2 (qc _) (by simp[maxLen]) rfl
 rw[h6,s6] at ho
 have hr:=(Rd.of_own ho).wide (qi _) (qc _)
 refine qax.of hr rfl fun j hj => ?_
 have hj2:j<2:=hj
 match j,hj2 with
 | 0,_=>exact⟨_,_,rfl,g1⟩
 | 1,_=>exact⟨_,_,rfl,g2⟩
theorem uf{w:World}:Calls Tryz.prog 9 #[] w fun r w'=>r= .returned (.bool true)∧Below w.heap.size w w':=by
 have hb1:∀W,(Instr.build 60 #[(1,.string ⟨#[97,98,99]⟩)]).run Tryz.prog W= .ok (.agg #[.bool false,.string ⟨#[97,98,99]⟩]) W:=fun W=>run_build W _ _ _ (by kernel_rfl)
 have hb2:∀W,(Instr.build 60 #[(0,.bool true)]).run Tryz.prog W= .ok (.agg #[.bool true,.string ⟨#[]⟩]) W:=fun W=>run_build W _ _ _ (by kernel_rfl)
 have hb3:∀W,(Instr.build 60 #[(1,.string ⟨#[120]⟩)]).run Tryz.prog W= .ok (.agg #[.bool false,.string ⟨#[120]⟩]) W:=fun W=>run_build W _ _ _ (by kernel_rfl)
 have hb4:∀W,(Instr.build 76 #[(0,.int .i64 1),(1,.int .i64 1)]).run Tryz.prog W= .ok (.agg #[.int .i64 1,.int .i64 1,.int .i64 0,.slice none 0 0]) W:=fun W=>run_build W _ _ _ (by kernel_rfl)
 obtain⟨w2,hw2⟩:∃x,Hid (w.alloc (.cells #[.bool false,.string ⟨#[97,98,99]⟩] 60)=x):=⟨_,rfl⟩
 obtain⟨w3,hw3⟩:∃x,Hid (w2.alloc (.cells #[.bool true,.string ⟨#[]⟩] 60)=x):=⟨_,rfl⟩
 obtain⟨w4,hw4⟩:∃x,Hid (w3.alloc (.cells #[.slice (some ⟨w.heap.size,0,none⟩) 1 1,.slice (some ⟨w.heap.size+1,0,none⟩) 1 1] 61)=x):=⟨_,rfl⟩
 obtain⟨w5,hw5⟩:∃x,Hid (w4.alloc (.cells #[.bool false,.string ⟨#[120]⟩] 60)=x):=⟨_,rfl⟩
 obtain⟨w6,hw6⟩:∃x,Hid (w5.alloc (.cells #[.slice (some ⟨w.heap.size+1+1+1,0,none⟩) 1 1] 61)=x):=⟨_,rfl⟩
 obtain⟨w7,hw7⟩:∃x,Hid (w6.alloc (.cells #[.slice (some ⟨w.heap.size+1+1,0,none⟩) 2 2,.slice (some ⟨w.heap.size+1+1+1+1,0,none⟩) 1 1] 41)=x):=⟨_,rfl⟩
 obtain⟨w8,hw8⟩:∃x,Hid (w7.alloc (.cells #[.int .i64 1,.int .i64 1,.int .i64 0,.slice none 0 0] 76)=x):=⟨_,rfl⟩
 obtain⟨b7,s7,g7⟩:=aw_mem hw2.out hw3.out hw4.out hw5.out hw6.out hw7.out
 have b78:Below w7.heap.size w7 w8:=by rw[←hw8.out];exact(Below.refl _ w7).alloc (qc _) _
 have HB8:Hid (Below w.heap.size w w8):=b7.trans (b78.mono b7.size)
 have HG8:Hid (∀W,Below w8.heap.size w8 W→qax W 0 W.heap.size (some ⟨w.heap.size+1+1+1+1+1,0,none⟩) 2 awG):=fun W hW=>(((g7.below b78 (qc _)).wide (qc _) b78.size).below hW (qc _)).wide (qc _) hW.size
 have ho8:qbu w8 0 w8.heap.size (some ⟨w.heap.size+1+1+1+1+1+1,0,none⟩) 1 awOs:=by
  have hbk:j6 w8 w7.heap.size 76 #[.int .i64 1,.int .i64 1,.int .i64 0,.slice none 0 0]:=by rw[←hw8.out];exact j6.new w7 _ _
  rw[←s7]
  exact qbu.one (o:=⟨1,1,0,[]⟩) hbk (qi _) hbk.lt (Rd.nil _ _ _) (fun z hz=>by cases hz)
 have hwr:=qgy 1 0 (HG8.out w8 (Below.refl _ _)) ho8 aw_few aw_code
 rw[show kr (qgh awOs (0:Int).toNat awG)=awB from rfl] at hwr
 have HWR:=qa hwr
 clear hwr
 clear b7 s7 g7 b78 ho8
 go_enter Tryz.func9,Tryz.ntmps9
 go_wp2_with fail
 rw[hw2.out,hw3.out,hw4.out,hw5.out,hw6.out,hw7.out,hw8.out]
 refine HWR.out.mono ?_
 rintro r w9 ⟨hb9,⟨-, -,A9,c9,rfl,ho9⟩ | ⟨hn, -⟩⟩
 case inr=>exact absurd qpu hn
 have HRD:=qa (qe9 (A:=A9) (c:=c9) (b:=awB) (w:=w9) ((Rd.of_own ho9).wide (qi _) (qc _)) aw_le aw_open)
 have HB9:=qa hb9
 clear hb9 ho9 HWR hw2 hw3 hw4 hw5 hw6 hw7 hw8 hb1 hb2 hb3 hb4
 have HTR:=qa aw_there
 generalize awB=bs at *
 go_wp2_with fail
 refine HRD.out.mono ?_
 rintro r w10 ⟨hb10,⟨G,n,gs,rfl,hok,hsm⟩ | ⟨-,hn⟩⟩
 case inr=>exact absurd HTR.out (hn _ _)
 obtain⟨rfl,rfl⟩:=hok.one HTR.out
 have HB10:Hid (Below w8.heap.size w8 w10):=HB9.out.trans (hb10.mono HB9.out.size)
 obtain⟨w11,hw11⟩:∃x,Hid (w10.alloc (.cells #[.int .u8 1,.int .u8 0] 5)=x):=⟨_,rfl⟩
 have b11:Below w10.heap.size w10 w11:=by rw[←hw11.out];exact(Below.refl _ w10).alloc (qc _) _
 have r11:Rd w11 0 w11.heap.size (some ⟨w10.heap.size,0,none⟩) 2 (bv [1,0]):=by
  have h:=vm (size:=1) (e:=5) w10 #[.int .u8 1,.int .u8 0] 2 (qc _) (by simp[maxLen]) rfl
  rw[hw11.out] at h
  exact(Rd.of_own h).wide (qi _) (qc _)
 have HR2:=qa (qe9 (b:=[1,0]) r11 (by decide) openH_nil)
 have HS11:=qa (hsm.below b11)
 have HB11:Hid (Below w8.heap.size w8 w11):=HB10.out.trans (b11.mono HB10.out.size)
 have HSO:=qa hok.ok
 clear hok hsm b11 r11 hb10 HRD HTR
 go_wp2_with fail
 rw[hw11.out]
 refine HR2.out.mono ?_
 rintro r w12 ⟨hb12,⟨_,_,_,rfl,hok2, -⟩ | ⟨rfl, -⟩⟩
 case inl=>exact absurd hok2 (aw_two _ _)
 have HB12:Hid (Below w8.heap.size w8 w12):=HB11.out.trans (hb12.mono HB11.out.size)
 have HS12:=qa (HS11.out.below hb12)
 have hln:=qos HS12.out HSO.out
 rw[aw_len] at hln
 have HLN:=qa hln
 clear hb12 hln HR2 HS11 hw11
 go_wp2_with fail
 refine HLN.out.mono ?_
 rintro r w13 ⟨rfl,hb13⟩
 have HB13:Hid (Below w8.heap.size w8 w13):=HB12.out.trans (hb13.mono HB12.out.size)
 have HS13:=qa (HS12.out.below hb13)
 have hcell:∃A c,w13.cell? ⟨G,1,none⟩=some (.slice A 2 c):=by
  obtain⟨rs,A,c,h1,h2, -⟩:=HS13.out
  have h3:=congrArg List.length h1
  rw[q8,q8] at h3
  have h4:=h2.cell 1
  rw[←h3] at h4
  exact⟨A,c,h4⟩
 obtain⟨A13,c13,q13⟩:=hcell
 have HRW:=qa (qhc HS13.out HSO.out aw_len)
 clear hb13 HLN HS12
 go_wp2_with fail
 refine HRW.out.mono ?_
 rintro r w14 ⟨A14,c14,xs,rfl,ho14,hro14,hb14⟩
 have hr14:=qdn.rows hro14 ho14 fun r hr v hv=>ze (qgz HSO.out r hr v hv) (by decide)
 rw[aw_rows] at hr14
 have HB14:Hid (Below w8.heap.size w8 w14):=HB13.out.trans (hb14.mono HB13.out.size)
 have HAL:=qa (refAll_v (HG8.out w14 HB14.out) (by decide) (n:=3) rfl)
 have HR14:=qa hr14
 clear hb14 ho14 hro14 hr14 HRW
 go_wp2_with fail
 refine HAL.out.mono ?_
 rintro r w15 ⟨A15,c15,rfl,hr15,hb15⟩
 have hsm:=qig (la:=awG.flatten) (lb:=awG.flatten) ((HR14.out.below hb15 (qc _)).wide (qi _) hb15.size) hr15
 rw[show awG.flatten.length=3 from rfl,qp (rfl:awG.flatten=awG.flatten)] at hsm
 have HSM:=qa hsm
 have HB15:Hid (Below w8.heap.size w8 w15):=HB14.out.trans (hb15.mono HB14.out.size)
 clear hb15 hr15 hsm HAL
 go_wp2_with fail
 refine HSM.out.mono ?_
 rintro r w16 ⟨rfl,hb16⟩
 have HB16:Hid (Below w8.heap.size w8 w16):=HB15.out.trans (hb16.mono HB15.out.size)
 clear hb16 HSM
 go_wp2_with fail
 go_ret
 exact⟨rfl,HB8.out.trans (HB16.out.mono HB8.out.size)⟩
end
end Go.Proofs.YtnjkipnklpkaoaaGreat
