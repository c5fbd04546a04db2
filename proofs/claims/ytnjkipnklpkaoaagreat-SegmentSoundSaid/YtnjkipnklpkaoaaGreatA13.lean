/-
  Lemmas.
-/
import Derived.Test.YtnjkipnklpkaoaaGreatA12
import Derived.Great.BuildSlice
import Derived.Maps.AppendAt
namespace Go.Proofs.YtnjkipnklpkaoaaGreat
open Go.RowKit
set_option maxRecDepth 20000
set_option maxHeartbeats 16000000
set_option linter.unusedSimpArgs false
set_option linter.unusedVariables false
theorem spread_at{α:Type}{there:List Bool}{xs:List α}(d:α){k:Nat}(hk:there[k]? = some true)(hl:cnt there≤xs.length):(xw there xs d)[k]? = xs[cnt (there.take k)]?∧cnt (there.take k)<xs.length:=by
 obtain⟨j,h1,h2,h3⟩:=qh7 there xs d hk hl
 rw[h1]
 exact⟨h3,h2⟩
theorem qcp.raw{w:World}{lo G:Nat}{c:Chk}(h:qcp w lo G c)(hk2:c.kind=1∨c.kind=2)(hl:c.raws.length=cnt c.there){k:Nat}(hk:c.there[k]? = some true) :
  ∃(b off c2:Nat) (p:Part),w.cell? ⟨G,2,none⟩=some (.slice (some ⟨b,off,none⟩) c.there.length c2)∧b<w.heap.size∧w.cell? ⟨b,off+k,none⟩=some (.slice p.A p.bs.length p.c)∧Rd w lo w.heap.size p.A p.c (bv p.bs)∧c.raws[cnt (c.there.take k)]? = some p.bs:=by
 obtain⟨A0,c0,A2,n2,c2,A3,n3,c3,d,A5,n5,c5,h1,h2,h3,h4,h5,h6⟩:=h
 obtain⟨e1,ps,e2,e3,e4⟩:=h4 hk2
 subst e1
 have hlp:ps.length=cnt c.there:=by rw[←hl,←e2,qkt]
 obtain⟨g1,g2⟩:=spread_at (.slice none 0 0) hk (xs:=pv ps) (by rw[qfa,hlp];exact qc _)
 rw[qfa] at g2
 have hlt:k<c.there.length:=(zw.1 hk).1
 obtain⟨b,off,rfl,_,hb,hall⟩:=e3.at_ (by rw[qcb];omega)
 have x2:=h1.cell 2
 simp only[zl,q9,zb] at x2
 have hp:=pv_get ps _ g2
 rw[hp] at g1
 refine⟨b,off,c2,ps[cnt (c.there.take k)],x2,hb,hall k _ g1,e4 _ (qj g2),?_⟩
 rw[←e2,qm4,ke,qe g2]
 rfl
theorem qcp.kindCell{w:World}{lo G:Nat}{c:Chk}(h:qcp w lo G c):w.cell? ⟨G,0,none⟩=some (.int .i64 (c.kind:Int)):=by
 obtain⟨A0,c0,A2,n2,c2,A3,n3,c3,d,A5,n5,c5,h1, -⟩:=h
 have x0:=h1.cell 0
 simpa using x0
theorem qcp.tabCell{w:World}{lo G:Nat}{c:Chk}(h:qcp w lo G c)(h2:c.kind=2):∃A3 c3,w.cell? ⟨G,3,none⟩=some (.slice A3 c.tab.length c3)∧Rd w lo w.heap.size A3 c3 (sv (j7 c.tab)):=by
 obtain⟨A0,c0,A2,n2,c2,A3,n3,c3,d,A5,n5,c5,h1,_,_,_,h5,_⟩:=h
 obtain⟨e1,e2⟩:=h5 h2
 subst e1
 have x3:=h1.cell 3
 exact⟨A3,c3,by simpa using x3,e2⟩
theorem qcp.dicCell{w:World}{lo G:Nat}{c:Chk}(h:qcp w lo G c)(h3:c.kind=3):∃(dg:Nat) (ys:List ByteArray) (A5:Option Addr) (c5:Nat),w.cell? ⟨G,4,none⟩=some (.pointer (some ⟨dg,0,none⟩))∧w.cell? ⟨G,5,none⟩=some (.slice A5 c.there.length c5)∧
  Dc w dg ys∧qm ys=c.dic∧Rd w lo w.heap.size A5 c5 (xw c.there (iv (zu c.codes)) (.int .i64 (-1))):=by
 obtain⟨A0,c0,A2,n2,c2,A3,n3,c3,d,A5,n5,c5,h1,_,_,_,_,h6⟩:=h
 obtain⟨dg,ys,rfl,e2,e3,rfl,e5, -⟩:=h6 h3
 have x4:=h1.cell 4
 have x5:=h1.cell 5
 exact⟨dg,ys,A5,c5,by simpa using x4,by simpa using x5,e2,e3,e5⟩
theorem strs_of{ys:List ByteArray}{D:List (List UInt8)}(h:qm ys=D):ys=j7 D:=by rw[←h,qdu]
set_option maxRecDepth 100000 in
set_option maxHeartbeats 4000000 in
theorem text_v{w:World}{lo G:Nat}{c:Chk}(h:qcp w lo G c)(ho:ChkOk c){k:Nat}(hk:c.there[k]? = some true){s:ByteArray}(hs:(qbn c)[k]? = some ⟨false,s⟩) :
  Calls Tryz.prog 139 #[.pointer (some ⟨G,0,none⟩),.int .i64 (k:Int)] w fun r w'=>r= .returned (.string s)∧Below w.heap.size w w':=by
 obtain⟨j,hj,hcj,hv⟩:=vals_at ho hk
 rw[hv] at hs
 have hse:(qfx c)[j]=s:=by injection hs with hs;injection hs
 have hlt:k<c.there.length:=(zw.1 hk).1
 have hfew:=h.few
 have x0:=h.kindCell
 have hGl:=h.lt
 have ik:(k:Int)<(c.there.length:Int):=by omega
 have i0:(0:Int)≤(k:Int):=by omega
 rcases ho.kinds with ⟨h1,hl,h4,_⟩ | ⟨h1,hl,htr,h4,_⟩ | ⟨h1,_,_,hdc,hl,h4⟩
 ·
  obtain⟨b,off,c2,q,x2,hb,hcell,hrd,hrw⟩:=h.raw (.inl h1) hl hk
  have hst:=ko (P:=Tryz.prog) w 26 9 5 Tryz.underlying26 Tryz.underlying5 Tryz.underlying9 _ _ q.A q.c q.bs hrd
  have hsq:(⟨q.bs.toArray⟩:ByteArray)=s:=by
   rw[←hse]
   have e:qfx c=j7 c.raws:=by rw[qfx,if_neg (by omega),if_neg (by omega)]
   rw[hcj] at hrw
   have h5:=(zw.1 hrw).2
   simp[e,j7,h5]
  rw[hsq] at hst
  rw[h1] at x0
  clear h ho hk hs hv hrw hsq hrd hcj hse
  generalize c.there.length=n at *
  generalize q.bs.length=qn at *
  go_enter Tryz.func139,Tryz.ntmps139
  go_wp2_with fail
  go_ret
  exact⟨rfl,Below.refl _ _⟩
 ·
  obtain⟨b,off,c2,q,x2,hb,hcell,hrd,hrw⟩:=h.raw (.inr h1) hl hk
  obtain⟨A3,c3,x3,hrt⟩:=h.tabCell h1
  have hq:=h4 q.bs (List.mem_of_getElem? hrw)
  obtain⟨h5,h8⟩:=strs_small htr
  have HCF:Hid (∀W,Below w.heap.size w W→W.cell? ⟨G,3,none⟩=some (.slice A3 c.tab.length c3)∧W.cell? ⟨G,2,none⟩=some (.slice (some ⟨b,off,none⟩) c.there.length c2)∧W.cell? ⟨b,off+k,none⟩=some (.slice q.A q.bs.length q.c)):=fun W hW=>⟨(hW.cell (p:=⟨G,3,none⟩) hGl).trans x3,(hW.cell (p:=⟨G,2,none⟩) hGl).trans x2,(hW.cell (p:=⟨b,off+k,none⟩) hb).trans hcell⟩
  have HDE:Hid (∀W,Below w.heap.size w W→Calls Tryz.prog 180 #[.slice A3 c.tab.length c3,.slice q.A q.bs.length q.c,.int .i64 4096] W fun r w'=>∃e:Int,r= .returned (.tuple #[.string s,.int .i64 e])∧Below W.heap.size W w'):=fun W hW=>by
   have h9:=qro (w:=W) (c:=c3) (A:=A3) (c2:=q.c) (B:=q.A) (j7 c.tab) h8 h5 q.bs (by omega) 4096 (by omega) (by omega) ((hrt.below hW (qc _)).wide (qi _) hW.size) ((hrd.below hW (qc _)).wide (qi _) hW.size)
   rw[yo,ue] at h9
   have hsq:(⟨(qe3 c.tab 4096 q.bs [] 0).1.toArray⟩:ByteArray)=s:=by
    rw[←hse]
    have e:qfx c=c.raws.map fun b=>⟨(qe3 c.tab 4096 b [] 0).1.toArray⟩:=by rw[qfx,if_pos h1]
    rw[hcj] at hrw
    have h7:=(zw.1 hrw).2
    simp[e,h7]
   rw[hsq] at h9
   refine h9.mono ?_
   rintro r w' ⟨rfl,hb⟩
   exact⟨_,rfl,hb⟩
  rw[h1] at x0
  clear h ho hk hs hv hrw hrd hcj hse hrt h8 x2 x3 hcell hq h4
  generalize c.there.length=n at *
  generalize q.bs.length=qn at *
  generalize c.tab.length=tn at *
  go_enter Tryz.func139,Tryz.ntmps139
  go_wp2_with fail
  have KD:Hid (Below w.heap.size w w.drew):=(Below.refl _ _).drew
  refine wp_region_held_drew (S:=fun w'=>Below w.heap.size w w') (by kernel_rfl) KD.out (fun hHeld => ?_)
  refine tk 0 ?_ rfl hHeld ?_ ?_
  rotate_left
  focus (intro W hSw;obtain⟨q1,q2,q3⟩:=HCF.out W hSw;go_simp;try with_reducible rfl)
  try simp only[jv,Act.put]
  refine tk 1 ?_ rfl hHeld ?_ ?_
  rotate_left
  focus (intro W hSw;obtain⟨q1,q2,q3⟩:=HCF.out W hSw;go_simp;try with_reducible rfl)
  try simp only[jv,Act.put]
  refine tk 2 ?_ rfl hHeld ?_ ?_
  rotate_left
  focus (intro W hSw;obtain⟨q1,q2,q3⟩:=HCF.out W hSw;go_simp;try with_reducible rfl)
  try simp only[jv,Act.put]
  refine tk 3 ?_ rfl hHeld ?_ ?_
  rotate_left
  focus (intro W hSw;obtain⟨q1,q2,q3⟩:=HCF.out W hSw;go_simp;try with_reducible rfl)
  try simp only[jv,Act.put]
  refine tk 4 ?_ rfl hHeld ?_ ?_
  rotate_left
  focus (intro W hSw;obtain⟨q1,q2,q3⟩:=HCF.out W hSw;go_simp;try with_reducible rfl)
  try simp only[jv,Act.put]
  refine tk 5 ?_ rfl hHeld ?_ ?_
  rotate_left
  focus (intro W hSw;obtain⟨q1,q2,q3⟩:=HCF.out W hSw;go_simp;try with_reducible rfl)
  try simp only[jv,Act.put]
  refine tk 6 ?_ rfl hHeld ?_ ?_
  rotate_left
  focus (intro W hSw;obtain⟨q1,q2,q3⟩:=HCF.out W hSw;go_simp;try with_reducible rfl)
  try simp only[jv,Act.put]
  refine tk 7 ?_ rfl hHeld ?_ ?_
  rotate_left
  focus (intro W hSw;obtain⟨q1,q2,q3⟩:=HCF.out W hSw;go_simp;try with_reducible rfl)
  try simp only[jv,Act.put]
  refine tk 8 ?_ rfl hHeld ?_ ?_
  rotate_left
  focus (intro W hSw;obtain⟨q1,q2,q3⟩:=HCF.out W hSw;go_simp;try with_reducible rfl)
  try simp only[jv,Act.put]
  refine tk 9 ?_ rfl hHeld ?_ ?_
  rotate_left
  focus (intro W hSw;obtain⟨q1,q2,q3⟩:=HCF.out W hSw;go_simp;try with_reducible rfl)
  try simp only[jv,Act.put]
  refine tk 10 ?_ rfl hHeld ?_ ?_
  rotate_left
  focus (intro W hSw;obtain⟨q1,q2,q3⟩:=HCF.out W hSw;go_simp;try with_reducible rfl)
  try simp only[jv,Act.put]
  obtain⟨wd,hwd⟩:∃q,w.drew=q:=⟨_,rfl⟩
  rw[hwd] at hHeld ⊢
  clear KD hwd
  have K_wd:=qa hHeld
  refine wpAnyH_ready (rs:=[11]) (by kernel_rfl) (by simp) ?_
  refine zc (o:=_) rfl (fun K hK => ?_) zm
  go_simp
  refine(HDE.out _ K_wd.out).mono ?_
  rintro r v1 ⟨e9,rfl,hb_v1⟩
  have s_v1:wd.heap.size≤v1.heap.size:=hb_v1.size
  have K_v1:Hid (Below w.heap.size w v1):=qa (K_wd.out.trans (hb_v1.mono K_wd.out.size))
  clear hb_v1
  refine hK.out _ _ K_v1.out (fun hHeld => ?_)
  clear hK K
  try simp only[jv,Act.put]
  refine tk 12 ?_ rfl hHeld ?_ ?_
  rotate_left
  focus (intro W hSw;obtain⟨q1,q2,q3⟩:=HCF.out W hSw;go_simp;try with_reducible rfl)
  try simp only[jv,Act.put]
  refine tk 13 ?_ rfl hHeld ?_ ?_
  rotate_left
  focus (intro W hSw;obtain⟨q1,q2,q3⟩:=HCF.out W hSw;go_simp;try with_reducible rfl)
  try simp only[jv,Act.put]
  refine tk 14 ?_ rfl hHeld ?_ ?_
  rotate_left
  focus (intro W hSw;obtain⟨q1,q2,q3⟩:=HCF.out W hSw;go_simp;try with_reducible rfl)
  try simp only[jv,Act.put]
  refine tk 15 ?_ rfl hHeld ?_ ?_
  rotate_left
  focus (intro W hSw;obtain⟨q1,q2,q3⟩:=HCF.out W hSw;go_simp;try with_reducible rfl)
  try simp only[jv,Act.put]
  refine tk 16 ?_ rfl hHeld ?_ ?_
  rotate_left
  focus (intro W hSw;obtain⟨q1,q2,q3⟩:=HCF.out W hSw;go_simp;try with_reducible rfl)
  try simp only[jv,Act.put]
  refine wpAnyH_done (by kernel_rfl) ?_ _
  go_wp2_with fail
  go_ret
  exact⟨rfl,K_v1.out⟩
 ·
  obtain⟨dg,ys,A5,c5,x4,x5,hd,hys,hr5⟩:=h.dicCell h1
  obtain⟨g1,g2⟩:=spread_at (.int .i64 (-1)) hk (xs:=iv (zu c.codes)) (by rw[ji,zj,hl];exact qc _)
  rw[ji,zj] at g2
  rw[hcj] at g1 g2
  have hz:=h4 c.codes[j] (qj g2)
  have hzz:(iv (zu c.codes))[j]? = some (.int .i64 (c.codes[j]:Int)):=by simp[iv,zu,qe g2]
  rw[hzz] at g1
  obtain⟨b,off,rfl,_,hb,hall⟩:=hr5.at_ (by rw[qcb];omega)
  have hcell:=hall k _ g1
  have hyl:c.codes[j]<ys.length:=by rw[strs_of hys,yo];exact hz
  have hsy:ys[c.codes[j]]=s:=by
   rw[←hse]
   have e:qfx c=c.codes.map fun n=>(j7 c.dic).getD n ⟨#[]⟩:=by rw[qfx,if_neg (by omega),if_pos h1]
   have e2:(qfx c)[j]=(j7 c.dic).getD c.codes[j] ⟨#[]⟩:=by simp[e]
   rw[e2,yw,←strs_of hys,qe hyl]
   rfl
  have hss:s.size≤4096:=by rw[←hse];exact qmi ho _ (qj hj)
  have HCF:Hid (∀W,Below w.heap.size w W→W.cell? ⟨G,4,none⟩=some (.pointer (some ⟨dg,0,none⟩))∧W.cell? ⟨G,5,none⟩=some (.slice (some ⟨b,off,none⟩) c.there.length c5)∧W.cell? ⟨b,off+k,none⟩=some (.int .i64 (c.codes[j]:Int))):=fun W hW=>⟨(hW.cell (p:=⟨G,4,none⟩) hGl).trans x4,(hW.cell (p:=⟨G,5,none⟩) hGl).trans x5,(hW.cell (p:=⟨b,off+k,none⟩) hb).trans hcell⟩
  have HDE:Hid (∀W,Below w.heap.size w W→Calls Tryz.prog 181 #[.pointer (some ⟨dg,0,none⟩),.int .i64 (c.codes[j]:Int)] W fun r w'=>r= .returned (.string s)∧Below W.heap.size W w'):=fun W hW=>by
   have:=fat_in (hd.below hW (qc _)) c.codes[j] hyl (by rw[hsy];omega)
   rw[hsy] at this
   exact this
  rw[h1] at x0
  clear h ho hk hs hv hcj hse x4 x5 hcell hd hys hr5 hall g1 hzz hsy hyl hz h4 hdc
  generalize c.there.length=n at *
  generalize c.codes[j]=cj at *
  go_enter Tryz.func139,Tryz.ntmps139
  go_wp2_with fail
  have KD:Hid (Below w.heap.size w w.drew):=(Below.refl _ _).drew
  refine wp_region_held_drew (S:=fun w'=>Below w.heap.size w w') (by kernel_rfl) KD.out (fun hHeld => ?_)
  refine tk 0 ?_ rfl hHeld ?_ ?_
  rotate_left
  focus (intro W hSw;obtain⟨q1,q2,q3⟩:=HCF.out W hSw;go_simp;try with_reducible rfl)
  try simp only[jv,Act.put]
  refine tk 1 ?_ rfl hHeld ?_ ?_
  rotate_left
  focus (intro W hSw;obtain⟨q1,q2,q3⟩:=HCF.out W hSw;go_simp;try with_reducible rfl)
  try simp only[jv,Act.put]
  refine tk 2 ?_ rfl hHeld ?_ ?_
  rotate_left
  focus (intro W hSw;obtain⟨q1,q2,q3⟩:=HCF.out W hSw;go_simp;try with_reducible rfl)
  try simp only[jv,Act.put]
  refine tk 3 ?_ rfl hHeld ?_ ?_
  rotate_left
  focus (intro W hSw;obtain⟨q1,q2,q3⟩:=HCF.out W hSw;go_simp;try with_reducible rfl)
  try simp only[jv,Act.put]
  refine tk 4 ?_ rfl hHeld ?_ ?_
  rotate_left
  focus (intro W hSw;obtain⟨q1,q2,q3⟩:=HCF.out W hSw;go_simp;try with_reducible rfl)
  try simp only[jv,Act.put]
  refine tk 5 ?_ rfl hHeld ?_ ?_
  rotate_left
  focus (intro W hSw;obtain⟨q1,q2,q3⟩:=HCF.out W hSw;go_simp;try with_reducible rfl)
  try simp only[jv,Act.put]
  refine tk 6 ?_ rfl hHeld ?_ ?_
  rotate_left
  focus (intro W hSw;obtain⟨q1,q2,q3⟩:=HCF.out W hSw;go_simp;try with_reducible rfl)
  try simp only[jv,Act.put]
  refine tk 7 ?_ rfl hHeld ?_ ?_
  rotate_left
  focus (intro W hSw;obtain⟨q1,q2,q3⟩:=HCF.out W hSw;go_simp;try with_reducible rfl)
  try simp only[jv,Act.put]
  refine tk 8 ?_ rfl hHeld ?_ ?_
  rotate_left
  focus (intro W hSw;obtain⟨q1,q2,q3⟩:=HCF.out W hSw;go_simp;try with_reducible rfl)
  try simp only[jv,Act.put]
  refine tk 9 ?_ rfl hHeld ?_ ?_
  rotate_left
  focus (intro W hSw;obtain⟨q1,q2,q3⟩:=HCF.out W hSw;go_simp;try with_reducible rfl)
  try simp only[jv,Act.put]
  refine tk 10 ?_ rfl hHeld ?_ ?_
  rotate_left
  focus (intro W hSw;obtain⟨q1,q2,q3⟩:=HCF.out W hSw;go_simp;try with_reducible rfl)
  try simp only[jv,Act.put]
  obtain⟨wd,hwd⟩:∃q,w.drew=q:=⟨_,rfl⟩
  rw[hwd] at hHeld ⊢
  clear KD hwd
  have K_wd:=qa hHeld
  refine wpAnyH_ready (rs:=[11]) (by kernel_rfl) (by simp) ?_
  refine zc (o:=_) rfl (fun K hK => ?_) zm
  go_simp
  refine(HDE.out _ K_wd.out).mono ?_
  rintro r v1 ⟨rfl,hb_v1⟩
  have s_v1:wd.heap.size≤v1.heap.size:=hb_v1.size
  have K_v1:Hid (Below w.heap.size w v1):=qa (K_wd.out.trans (hb_v1.mono K_wd.out.size))
  clear hb_v1
  refine hK.out _ _ K_v1.out (fun hHeld => ?_)
  clear hK K
  try simp only[jv,Act.put]
  refine tk 12 ?_ rfl hHeld ?_ ?_
  rotate_left
  focus (intro W hSw;obtain⟨q1,q2,q3⟩:=HCF.out W hSw;go_simp;try with_reducible rfl)
  try simp only[jv,Act.put]
  refine wpAnyH_done (by kernel_rfl) ?_ _
  go_wp2_with fail
  go_ret
  exact⟨rfl,K_v1.out⟩
-- AT
theorem Tryz.infoVal:(Tryz.prog.info? 60).map (fun i=>(i.zero,i.size,i.bytes))=some (some (.agg #[.bool false,.string ⟨#[]⟩]),2,24):=by kernel_rfl
def vv(l:List Vl):List Value:=l.flatMap qcn
theorem qdd:∀l:List Vl,(vv l).length=l.length*2
 | []=>rfl
 | v :: l=>by
  have:=qdd l
  simp only[vv,qen,qd,qt,qcn,je] at *
  omega
theorem qlc:∀(l:List Vl) (j i:Nat),i<2→(vv l)[j*2+i]? = (l[j]?).bind fun v=>(qcn v)[i]?
 | [],j,i,hi=>by simp[vv]
 | v :: l,0,i,hi=>by
  match i,hi with
  | 0,_=>rfl
  | 1,_=>rfl
 | v :: l,j+1,i,hi=>by
  have:=qlc l j i hi
  rw[show(j+1)*2+i=j*2+i+1+1 by omega]
  simpa[vv,qcn] using this
theorem qow{w:World}{base n c:Nat}{A:Option Addr}{l:List Vl}(h:w.ownsRow base 60 2 (.slice A n c) n (vv l))(hn:l.length=n)(hs:∀v∈l,v.s.size≤9223372036854775807):Row w base w.heap.size A c l:=by
 subst hn
 refine⟨?_,hs⟩
 rcases h.2 with ⟨hv,h0⟩ | ⟨g,cap,cur,hv,hb,hg,hnc,hcm,hcs,htake⟩
 ·
  injection hv with e1 e2 e3
  subst e1 e3
  exact⟨by omega,by simp[maxLen],fun hp=>by omega⟩
 ·
  injection hv with e1 e2 e3
  subst e1 e3
  refine⟨hnc,hcm,fun _=>⟨g,0,rfl,hb,(vp.1 hg).1,fun j hj i hi => ?_⟩⟩
  have hlt:j*2+i<l.length*2:=by omega
  have h5:cur.toList[j*2+i]? = (vv l)[j*2+i]?:=by rw[←htake,qbh,if_pos hlt]
  rw[xa,cell_of_row w g (j*2+i) cur _ (0,0) hg,←Array.getElem?_toList,h5,qlc l j i hi]
theorem put2{w:World}{g:Nat}{t:TypeId}{a0 a1:Value}(b0 b1:Value)(h:j6 w g t #[a0,a1]):j6 ((w.setCell ⟨g,0,none⟩ b0).setCell ⟨g,1,none⟩ b1) g t #[b0,b1]:=by
 have:=(h.put 0 b0).put 1 b1
 simpa using this
theorem below2{a w:World}{B g:Nat}(b0 b1:Value)(h:Below B a w)(hg:B≤g):Below B a ((w.setCell ⟨g,0,none⟩ b0).setCell ⟨g,1,none⟩ b1) :=
 (h.setCell (p:=⟨g,0,none⟩) hg _).setCell (p:=⟨g,1,none⟩) hg _
theorem build_val1(W:World)(b:Bool):(Instr.build 60 #[(0,.bool b)]).run Tryz.prog W= .ok (.agg #[.bool b,.string ⟨#[]⟩]) W:=by cases b <;> exact run_build W _ _ _ (by kernel_rfl)
theorem build_val2(W:World)(s:ByteArray):(Instr.build 60 #[(1,.string s)]).run Tryz.prog W= .ok (.agg #[.bool false,.string s]) W:=run_build W _ _ _ (by kernel_rfl)
theorem at_none{w:World}{lo G:Nat}{c:Chk}(h:qcp w lo G c)(z:Int)(hz:(z<0∨(c.there.length:Int)≤z)∨∃k:Nat,z=(k:Int)∧c.there[k]? = some false) :
  Calls Tryz.prog 92 #[.pointer (some ⟨G,0,none⟩),.int .i64 z] w fun r w'=>r= .returned (.agg #[.bool true,.string ⟨#[]⟩])∧Below w.heap.size w w':=by
 obtain⟨w1,hw1⟩:∃w1,w.alloc (.cells #[.bool false,.string ⟨#[]⟩] 60)=w1:=⟨_,rfl⟩
 have hb1:Below w.heap.size w w1:=by rw[←hw1];exact(Below.refl _ _).alloc (qc _) _
 have hx:j6 w1 w.heap.size 60 #[.bool false,.string ⟨#[]⟩]:=by rw[←hw1];exact j6.new w _ _
 have h1:=h.below hb1
 have HH:Hid (Calls Tryz.prog 138 #[.pointer (some ⟨G,0,none⟩),.int .i64 z] w1 fun r w'=>r= .returned (.bool false)∧w1=w'):=by
  unfold Hid
  rcases hz with hz | ⟨k,rfl,hk⟩
  ·
   exact has_out h1 z hz
  ·
   exact has_in h1 hk
 have HX:=qa hx
 have HB1:=qa hb1
 have x0:=hx.cell 0
 have x1:=hx.cell 1
 have f0:=hx.frozen 0
 have f1:=hx.frozen 1
 simp only[zl,q9,zb] at x0 x1
 have hbv:=fun W=>build_val1 W true
 clear h hz h1 hb1 hx
 go_enter Tryz.func92,Tryz.ntmps92
 go_wp2_with fail
 refine HH.out.mono ?_
 rintro r w' ⟨rfl,rfl⟩
 clear hw1
 go_wp2_with fail
 have hr3:=put2 (.bool true) (.string ⟨#[]⟩) HX.out
 refine bodyPost_ret (v:= .agg #[.bool true,.string ⟨#[]⟩]) ?_ rfl ⟨rfl,below2 _ _ HB1.out (qc _)⟩
 exact results_cell_row rfl _ _ w.heap.size 60 #[.bool true,.string ⟨#[]⟩] (0,0) _ rfl hr3 Tryz.underlying60 rfl (by kernel_rfl)
theorem at_some{w:World}{lo G:Nat}{c:Chk}(h:qcp w lo G c)(ho:ChkOk c){k:Nat}(hk:c.there[k]? = some true){s:ByteArray}(hs:(qbn c)[k]? = some ⟨false,s⟩) :
  Calls Tryz.prog 92 #[.pointer (some ⟨G,0,none⟩),.int .i64 (k:Int)] w fun r w'=>r= .returned (.agg #[.bool false,.string s])∧Below w.heap.size w w':=by
 obtain⟨w1,hw1⟩:∃w1,w.alloc (.cells #[.bool false,.string ⟨#[]⟩] 60)=w1:=⟨_,rfl⟩
 have hb1:Below w.heap.size w w1:=by rw[←hw1];exact(Below.refl _ _).alloc (qc _) _
 have hx:j6 w1 w.heap.size 60 #[.bool false,.string ⟨#[]⟩]:=by rw[←hw1];exact j6.new w _ _
 have hs1:w.heap.size<w1.heap.size:=by rw[←hw1];simp
 have h1:=h.below hb1
 have HH:=qa (has_in h1 hk)
 have HT:=qa (text_v h1 ho hk hs)
 have HX:=qa hx
 have HB1:=qa hb1
 have hbv:=fun W=>build_val2 W s
 clear h h1 hb1 hx hk hs ho
 go_enter Tryz.func92,Tryz.ntmps92
 go_wp2_with fail
 refine HH.out.mono ?_
 rintro r w' ⟨rfl,rfl⟩
 go_wp2_with fail
 refine HT.out.mono ?_
 rintro r w2 ⟨rfl,hb2⟩
 have hx2:=HX.out.below hb2 hs1
 have HX2:=qa hx2
 have HB2:=qa (HB1.out.trans (hb2.mono (by omega)))
 have x0:=hx2.cell 0
 have x1:=hx2.cell 1
 have f0:=hx2.frozen 0
 have f1:=hx2.frozen 1
 simp only[zl,q9,zb] at x0 x1
 clear hw1 hb2 hx2
 go_wp2_with fail
 have hr3:=put2 (.bool false) (.string s) HX2.out
 refine bodyPost_ret (v:= .agg #[.bool false,.string s]) ?_ rfl ⟨rfl,below2 _ _ HB2.out (qc _)⟩
 exact results_cell_row rfl _ _ w.heap.size 60 #[.bool false,.string s] (0,0) _ rfl hr3 Tryz.underlying60 rfl (by kernel_rfl)
theorem at_v{w:World}{lo G:Nat}{c:Chk}(h:qcp w lo G c)(ho:ChkOk c∨c=Chk.none){k:Nat}{v:Vl}(hv:(qbn c)[k]? = some v) :
  Calls Tryz.prog 92 #[.pointer (some ⟨G,0,none⟩),.int .i64 (k:Int)] w fun r w'=>r= .returned (.agg #[.bool v.null,.string v.s])∧Below w.heap.size w w':=by
 have hlt:k<(qbn c).length:=(zw.1 hv).1
 rw[qdw] at hlt
 rcases ho with ho | rfl
 ·
  have hk:c.there[k]? = some c.there[k]:=qe hlt
  cases hb:c.there[k] with
  | true =>
   rw[hb] at hk
   obtain⟨j,hj,_,h2⟩:=vals_at ho hk
   rw[hv] at h2
   obtain rfl:=jh h2
   exact at_some h ho hk hv
  | false =>
   rw[hb] at hk
   have h2:=vals_not (c:=c) hk
   rw[hv] at h2
   obtain rfl:=jh h2
   exact at_none h _ (.inr ⟨k,rfl,hk⟩)
 ·
  exact absurd hlt (jp k)
theorem qqe(w:World)(n:Nat)(h:n≤4294967295):∃w1 xs,(Instr.makeSlice 61 (.int .i64 (n:Int)) (.int .i64 (n:Int))).run Tryz.prog w= .ok (.slice (some ⟨w.heap.size,0,none⟩) n n) w1∧
  w1.ownsRow w.heap.size 60 2 (.slice (some ⟨w.heap.size,0,none⟩) n n) n xs∧w.grownBy w1 none:=by
 obtain⟨i0,hi0,hz0,hz1,hz2⟩:=info_parts Tryz.infoVal
 obtain⟨w1,h1,h2,h3⟩:=run_make_full (P:=Tryz.prog) w w.heap.size 61 60 i0 _ 2 Tryz.underlying61 hi0 hz0 hz1 .i64 .i64 n (by rw[hz2];omega) (by simp only[maxLen];omega) (qc _)
 exact⟨w1,_,h1,h2,h3⟩
theorem all_v{w:World}{lo G:Nat}{c:Chk}(h:qcp w lo G c)(ho:ChkOk c∨c=Chk.none) :
  Calls Tryz.prog 49 #[.pointer (some ⟨G,0,none⟩)] w fun r w'=>∃A' c',r= .returned (.slice A' (qbn c).length c')∧Row w' w.heap.size w'.heap.size A' c' (qbn c)∧Below w.heap.size w w'∧∃g,A'=some ⟨g,0,none⟩∧w'.ownsRow w.heap.size 60 2 (.slice A' (qbn c).length c') (qbn c).length (vv (qbn c)):=by
 have HL:=qa (len_v h)
 have hlen:c.there.length≤4096:=by
  rcases ho with ho | rfl
  ·
   exact ho.few
  ·
   exact qi _
 have HSZ:Hid (∀v∈qbn c,v.s.size≤9223372036854775807):=fun v hv=>by
  rcases ho with h1 | rfl
  ·
   exact ze (vals_size h1 v hv) (by omega)
  ·
   cases hv
 obtain⟨n,hn⟩:∃n,c.there.length=n:=⟨_,rfl⟩
 have hvn:(qbn c).length=n:=by rw[qdw,hn]
 have HVN:=qa hvn
 rw[hvn]
 rw[hn] at HL hlen
 obtain⟨w1,xs0,hmake,ho1,hg1⟩:=qqe w n (by omega)
 have HO1:=qa ho1
 have HB1:=qa (qcd (qc _) hg1 (fun g hg=>by cases hg))
 have HX0:Hid (xs0.length=n*2):=ho1.1
 have HA:Hid (∀(W:World) (k:Nat) (v:Vl),Below w.heap.size w W→(qbn c)[k]? = some v→Calls Tryz.prog 92 #[.pointer (some ⟨G,0,none⟩),.int .i64 (k:Int)] W fun r w'=>r= .returned (.agg #[.bool v.null,.string v.s])∧Below W.heap.size W w'):=fun W k v hW hv=>at_v (h.below hW) ho hv
 generalize qbn c=L at *
 clear h ho ho1 hg1 hn hvn
 go_enter Tryz.func49,Tryz.ntmps49
 go_wp2_with fail
 refine HL.out.mono ?_
 rintro r w' ⟨rfl,rfl⟩
 go_wp2_with fail
 clear hmake HL
 go_loopw [10] (fun x wr=>∃(k:Nat) (xs:List Value),k≤n∧x= .int .i64 (k:Int)∧wr.ownsRow w.heap.size 60 2 (.slice (some ⟨w.heap.size,0,none⟩) n n) n xs∧qk0 (vv L) (k*2) xs∧Below w.heap.size w wr) (fun x _=>n-(intOf x).toNat)
 case atStart=>exact⟨0,xs0,qi _,rfl,HO1.out,qd9 (by rw[HX0.out,qdd,HVN.out]),HB1.out⟩
 case round =>
  clear HO1 HB1 HX0
  obtain⟨k,xs,hk,rfl,ho,hf,hb⟩:=hrel
  have HO:=qa ho
  have HF:=qa hf
  have HB:=qa hb
  have hsz:=hb.size
  clear ho hf hb
  by_cases hlt:k<n
  ·
   have ik:(k:Int)<(n:Int):=by omega
   have hkl:k<L.length:=by rw[HVN.out];exact hlt
   have HA1:=qa (HA.out wr k L[k] HB.out (qe hkl))
   have HU0:Hid ((vv L)[k*2]? = some (.bool L[k].null)):=by
    have:=qlc L k 0 (by omega)
    rw[xx,qe hkl] at this
    exact this
   have HU1:Hid ((vv L)[k*2+1]? = some (.string L[k].s)):=by
    have:=qlc L k 1 (by omega)
    rw[qe hkl] at this
    exact this
   generalize L[k].null=b at *
   generalize L[k].s=s at *
   have HXL:Hid (xs.length=n*2):=by unfold Hid;rw[HF.out.1,qdd,HVN.out]
   go_wp2_with fail
   refine HA1.out.mono ?_
   rintro r w2 ⟨rfl,hb2⟩
   have HO2:=qa (js HO.out hb2 (qc _))
   have HB2:=qa (qz HB.out hb2 hsz)
   have hsz2:=HB2.out.size
   have hxl:=HXL.out
   have fr0:=HO2.out.frozenAt (k*2)
   have fr1:=HO2.out.frozenAt (k*2+1)
   have c0:w2.cell? ⟨w.heap.size,k*2,none⟩=some (xs[k*2]'(by omega)):=by
    rw[HO2.out.cellAt (k*2) (by omega),qe (by omega)]
   have c1:w2.cell? ⟨w.heap.size,k*2+1,none⟩=some (xs[k*2+1]'(by omega)):=by
    rw[HO2.out.cellAt (k*2+1) (by omega),qe (by omega)]
   have HS1:=qa (World.ownsRow.stored HO2.out (k*2) (.bool b))
   have HS2:=qa (World.ownsRow.stored HS1.out.1 (k*2+1) (.string s))
   have HBS:=qa ((HB2.out.setCell (p:=⟨w.heap.size,k*2,none⟩) (qc _) (.bool b)).setCell (p:=⟨w.heap.size,k*2+1,none⟩) (qc _) (.string s))
   have HFS:Hid (qk0 (vv L) ((k+1)*2) ((xs.set (k*2) (.bool b)).set (k*2+1) (.string s))):=by
    have:=qay (qay HF.out (.bool b) HU0.out) (.string s) HU1.out
    rw[show(k+1)*2=k*2+1+1 by omega]
    exact this
   generalize xs[k*2]'(by omega)=y0 at *
   generalize xs[k*2+1]'(by omega)=y1 at *
   clear hb2 HA1 HO HB HF HU0 HU1
   go_wp2_with fail
   go_roundw
   case rel=>exact⟨k+1,_,by omega,by go_num,HS2.out.1,HFS.out,HBS.out⟩
   case measure=>simp[intOf];omega
  ·
   have ik:¬(k:Int)<(n:Int):=by omega
   have hke:k=n:=by omega
   have hx:xs=vv L:=qe1 HF.out (by rw[qdd,HVN.out];omega)
   subst hx
   go_wp2_with fail
   go_ret
   have hro:=qow HO.out HVN.out HSZ.out
   exact⟨_,_,rfl,hro,HB.out,⟨_,rfl⟩,HO.out⟩
structure Fc where
 b:Nat
 gs:List Nat
 rs:List Bool
 gA:Option Addr
 gc:Nat
 rA:Option Addr
 rc:Nat
def qfk(e:Fc):List Value:=[.int .i64 (e.b:Int),.slice e.gA e.gs.length e.gc,.slice e.rA e.rs.length e.rc]
def fcs(es:List Fc):List Value:=es.flatMap qfk
theorem fcs_snoc(es:List Fc)(e:Fc):fcs (es++[e])=fcs es++qfk e:=by simp[fcs]
theorem fc_one(e:Fc):∀u∈qfk e,u.oneCell'=true:=by
 intro u hu
 simp only[qfk,jc,ve,or_false] at hu
 rcases hu with rfl | rfl | rfl <;> rfl
theorem Tryz.infoFlt:(Tryz.prog.info? 67).map (fun i=>(i.zero,i.size,i.bytes))=some (some (.agg #[.int .i64 0,.slice none 0 0,.slice none 0 0]),3,56):=by kernel_rfl
def qfs(w:World)(X:Nat→Prop)(P:World→Prop):Prop:=∀W,Out w W X→P W
section
variable {w w':World}{X Y:Nat→Prop}{P Q:World→Prop}
theorem qfs.now(h:qfs w X P):P w:=h w (Out.refl w X)
theorem qfs.step(h:qfs w X P)(ho:Out w w' X)(hx:∀i,i<w.heap.size→Y i→X i):qfs w' Y P:=fun W hW=>h W (ho.trans hW hx)
theorem qfs.and(h:qfs w X P)(k:qfs w X Q):qfs w X (fun W=>P W∧Q W):=fun W hW=>⟨h W hW,k W hW⟩
theorem qfs.imp(h:qfs w X P)(hi:∀W,w.heap.size≤W.heap.size→P W→Q W):qfs w X Q:=fun W hW=>hi W hW.size (h W hW)
theorem qfs.of(p:Prop)(h:p):qfs w X (fun _=>p):=fun _ _=>h
theorem qfs.all{α:Type}{l:List α}{R:World→α→Prop}(h:∀a∈l,qfs w X (fun W=>R W a)):qfs w X (fun W=>∀a∈l,R W a):=fun W hW a ha=>h a ha W hW
theorem qfs.own{base n size:Nat}{e:TypeId}{v:Value}{xs:List Value}(h:w.ownsRow base e size v n xs)(hX:∀k,v.ownBlock=some k→¬X k):qfs w X (fun W=>W.ownsRow base e size v n xs):=fun W hW=>qfc h hW hX
theorem qfs.rd{lo c:Nat}{A:Option Addr}{xs:List Value}(h:Rd w lo w.heap.size A c xs)(hX:∀k,lo≤k→k<w.heap.size→¬X k):qfs w X (fun W=>Rd W lo W.heap.size A c xs) :=
 fun W hW=>(h.out hW (qc _) hX).wide (qc _) hW.size
theorem qfs.blk{g:Nat}{t:TypeId}{cs:Array Value}(h:j6 w g t cs)(hX:¬X g):qfs w X (fun W=>j6 W g t cs):=fun W hW=>h.out hW hX
end
theorem Dc.out{w w':World}{d:Nat}{ys:List ByteArray}{X:Nat→Prop}(h:Dc w d ys)(ho:Out w w' X)(hX:∀k,d≤k→k<w.heap.size→¬X k):Dc w' d ys:=by
 obtain⟨A,c,hb,hr⟩:=h
 exact⟨A,c,hb.out ho (hX d (qc _) hb.lt),qfc hr ho fun k hk=>by have:=zk hr hk;exact hX k (by omega) this.2⟩
theorem qcp.out{w w':World}{lo G:Nat}{c:Chk}{X:Nat→Prop}(h:qcp w lo G c)(hb:Out w w' X)(hX:∀k,lo≤k→k<w.heap.size→¬X k):qcp w' lo G c:=by
 obtain⟨A0,c0,A2,n2,c2,A3,n3,c3,d,A5,n5,c5,h1,h2,h3,h4,h5,h6⟩:=h
 have up:∀ {A:Option Addr} {c:Nat} {xs:List Value},Rd w lo w.heap.size A c xs→Rd w' lo w'.heap.size A c xs:=fun hr=>(hr.out hb (qc _) hX).wide (qc _) hb.size
 refine⟨A0,c0,A2,n2,c2,A3,n3,c3,d,A5,n5,c5,h1.out hb (hX G h2 h1.lt),h2,up h3,fun hk => ?_,fun hk => ?_,fun hk => ?_⟩
 ·
  obtain⟨e1,ps,e2,e3,e4⟩:=h4 hk
  exact⟨e1,ps,e2,up e3,fun p hp=>up (e4 p hp)⟩
 ·
  obtain⟨e1,e2⟩:=h5 hk
  exact⟨e1,up e2⟩
 ·
  obtain⟨dg,ys,e1,e2,e3,e4,e5,e6⟩:=h6 hk
  exact⟨dg,ys,e1,e2.out hb (fun k h1 h2=>hX k (by omega) h2),e3,e4,up e5,e6⟩
theorem qcp.wide{w:World}{lo lo' G:Nat}{c:Chk}(h:qcp w lo G c)(hl:lo'≤lo):qcp w lo' G c:=by
 obtain⟨A0,c0,A2,n2,c2,A3,n3,c3,d,A5,n5,c5,h1,h2,h3,h4,h5,h6⟩:=h
 refine⟨A0,c0,A2,n2,c2,A3,n3,c3,d,A5,n5,c5,h1,by omega,h3.wide hl (qc _),fun hk => ?_,fun hk => ?_,fun hk => ?_⟩
 ·
  obtain⟨e1,ps,e2,e3,e4⟩:=h4 hk
  exact⟨e1,ps,e2,e3.wide hl (qc _),fun p hp=>(e4 p hp).wide hl (qc _)⟩
 ·
  obtain⟨e1,e2⟩:=h5 hk
  exact⟨e1,e2.wide hl (qc _)⟩
 ·
  obtain⟨dg,ys,e1,e2,e3,e4,e5,e6⟩:=h6 hk
  exact⟨dg,ys,e1,e2,e3,e4,e5.wide hl (qc _),by omega⟩
theorem qfs.chk{w:World}{lo G:Nat}{c:Chk}{X:Nat→Prop}(h:qcp w lo G c)(hX:∀k,lo≤k→k<w.heap.size→¬X k):qfs w X (fun W=>qcp W lo G c):=fun W hW=>h.out hW hX
structure It where
 c:ColS
 e:Fc
 g:Nat
structure ItM (w:World) (lo:Nat) (t:It):Prop where
 b:t.e.b=t.c.b
 gs:t.e.gs=t.c.gs
 rs:t.e.rs=t.c.rs
 list:Rd w lo w.heap.size t.e.gA t.e.gc (iv (zu t.e.gs))
 set:Rd w lo w.heap.size t.e.rA t.e.rc (lv t.e.rs)
 chk:qcp w lo t.g t.c.ck
theorem ItM.wide{w:World}{lo lo':Nat}{t:It}(h:ItM w lo t)(hl:lo'≤lo):ItM w lo' t:=⟨h.b,h.gs,h.rs,h.list.wide hl (qc _),h.set.wide hl (qc _),h.chk.wide hl⟩
theorem ItM.below{w w':World}{lo:Nat}{t:It}(h:ItM w lo t)(hb:Below w.heap.size w w'):ItM w' lo t :=
 ⟨h.b,h.gs,h.rs,(h.list.below hb (qc _)).wide (qc _) hb.size,(h.set.below hb (qc _)).wide (qc _) hb.size,h.chk.below hb⟩
def ptV(ps:List Nat):List Value:=ps.map fun g=> .pointer (some ⟨g,0,none⟩)
theorem ptV_snoc(ps:List Nat)(g:Nat):ptV (ps++[g])=ptV ps++[.pointer (some ⟨g,0,none⟩)]:=by simp[ptV]
structure Gr where
 rows:Nat
 its:List It
 fA:Option Addr
 fc:Nat
 kA:Option Addr
 kc:Nat
def Gr.toS(r:Gr):GrpS:=⟨r.rows,r.its.map It.c⟩
def qjd(r:Gr):List Value:=[.int .i64 (r.rows:Int),.slice r.fA r.its.length r.fc,.slice r.kA r.its.length r.kc]
def grs(rs:List Gr):List Value:=rs.flatMap qjd
theorem grs_snoc(rs:List Gr)(r:Gr):grs (rs++[r])=grs rs++qjd r:=by simp[grs]
theorem gr_one(r:Gr):∀u∈qjd r,u.oneCell'=true:=by
 intro u hu
 simp only[qjd,jc,ve,or_false] at hu
 rcases hu with rfl | rfl | rfl <;> rfl
structure GrM (w:World) (lo:Nat) (r:Gr):Prop where
 fil:Els w lo w.heap.size r.fA r.fc 3 r.its.length (fun j i=>(r.its[j]?).bind fun t=>(qfk t.e)[i]?)
 chk:Els w lo w.heap.size r.kA r.kc 1 r.its.length (fun j i=>(r.its[j]?).bind fun t=>[Value.pointer (some ⟨t.g,0,none⟩)][i]?)
 its:∀t∈r.its,ItM w lo t
theorem GrM.below{w w':World}{lo:Nat}{r:Gr}(h:GrM w lo r)(hb:Below w.heap.size w w'):GrM w' lo r :=
 ⟨(h.fil.below hb (qc _)).wide (qc _) hb.size,(h.chk.below hb (qc _)).wide (qc _) hb.size,fun t ht=>(h.its t ht).below hb⟩
def qr6(w:World)(lo G n:Nat)(gs:List GrpS):Prop:=∃(rs:List Gr) (A:Option Addr) (c:Nat),gs=rs.map Gr.toS∧j6 w G 39 #[.int .i64 (n:Int),.slice A rs.length c]∧lo≤G∧
 Els w lo w.heap.size A c 3 rs.length (fun j i=>(rs[j]?).bind fun r=>(qjd r)[i]?)∧∀r∈rs,GrM w lo r
theorem qr6.below{w w':World}{lo G n:Nat}{gs:List GrpS}(h:qr6 w lo G n gs)(hb:Below w.heap.size w w'):qr6 w' lo G n gs:=by
 obtain⟨rs,A,c,h1,h2,h3,h4,h5⟩:=h
 exact⟨rs,A,c,h1,h2.below hb h2.lt,h3,(h4.below hb (qc _)).wide (qc _) hb.size,fun r hr=>(h5 r hr).below hb⟩
theorem els_own{α:Type}{w:World}{base k c:Nat}{A:Option Addr}{e:TypeId}(f:α→List Value)(hk:0<k)(hf:∀a,(f a).length=k){l:List α}(h:w.ownsRow base e k (.slice A l.length c) l.length (l.flatMap f)) :
  Els w base w.heap.size A c k l.length (fun j i=>(l[j]?).bind fun a=>(f a)[i]?):=by
 have hget:∀(l:List α) (j i:Nat),i<k→(l.flatMap f)[j*k+i]? = (l[j]?).bind fun a=>(f a)[i]?:=by
  intro l
  induction l with
  | nil=>intro j i hi;simp
  | cons a l ih =>
   intro j i hi
   rw[qen]
   match j with
   | 0 =>
    rw[Nat.zero_mul,xa,vh (by rw[hf];exact hi)]
    rfl
   | j+1 =>
    rw[ku (by rw[hf,Nat.succ_mul];omega),hf,show(j+1)*k+i-k=j*k+i by rw[Nat.succ_mul];omega]
    exact ih j i hi
 have hlen:∀l:List α,(l.flatMap f).length=l.length*k:=by
  intro l
  induction l with
  | nil=>simp
  | cons a l ih=>rw[qen,qd,hf,ih,qt,Nat.succ_mul];omega
 rcases h.2 with ⟨hv,h0⟩ | ⟨g,cap,cur,hv,hb,hg,hnc,hcm,hcs,htake⟩
 ·
  injection hv with e1 e2 e3
  subst e1 e3
  exact⟨by omega,by simp[maxLen],fun hp=>by omega⟩
 ·
  injection hv with e1 e2 e3
  subst e1 e3
  refine⟨hnc,hcm,fun _=>⟨g,0,rfl,hb,(vp.1 hg).1,fun j hj i hi => ?_⟩⟩
  have hlt:j*k+i<l.length*k:=by
   have:(j+1)*k≤l.length*k:=vy _ hj
   rw[Nat.succ_mul] at this
   omega
  have h5:cur.toList[j*k+i]? = (l.flatMap f)[j*k+i]?:=by rw[←htake,qbh,if_pos hlt]
  rw[xa,cell_of_row w g (j*k+i) cur _ (0,0) hg,←Array.getElem?_toList,h5,hget l j i hi]
theorem cut_get(s:ByteArray)(k j:Nat)(h:k+j<s.size):(s.extract k s.size)[j]'(by rw[yt];omega)=s[k+j]:=by
 rw[ByteArray.getElem_extract]
theorem ggram_at{w:World}(s:ByteArray)(k:Nat)(h:k+2<s.size)(hs:s.size≤100000)(g:Nat)(hg:qjw s[k] s[k+1] s[k+2]=g) :
  Calls Tryz.prog 146 #[.string (s.extract k s.size)] w fun r w'=>r= .returned (.int .i64 (g:Int))∧∃m,w'=w.drewN m :=
 ggram_any (s.extract k s.size) (by rw[yt];omega) (by rw[yt];omega) g (by
  rw[←hg,cut_get s k 0 (by omega),cut_get s k 1 (by omega),cut_get s k 2 h]
  rfl)
end Go.Proofs.YtnjkipnklpkaoaaGreat
