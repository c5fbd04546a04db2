/-
  Lemmas.
-/
import Derived.Test.YtjfecojdagmacaaGreatD14
import Derived.Shelf.SlIterI.Keys
import Derived.Shelf.SlIterI.Sorted
import Derived.Shelf.SortM.Plain
import Derived.Shelf.SortM.SortNone
namespace Go.Proofs.YtjfecojdagmacaaGreat
open Go.RowKit
set_option maxRecDepth 20000
set_option maxHeartbeats 16000000
set_option linter.unusedSimpArgs false
set_option linter.unusedVariables false
theorem spread_at{α:Type}{there:List Bool}{xs:List α}(d:α){k:Nat}(hk:there[k]? = some true)(hl:cnt there≤xs.length):(xz there xs d)[k]? = xs[cnt (there.take k)]?∧cnt (there.take k)<xs.length:=by
 obtain⟨j,h1,h2,h3⟩:=qhv there xs d hk hl
 rw[h1]
 exact⟨h3,h2⟩
theorem qcv.raw{w:World}{lo G:Nat}{c:Chk}(h:qcv w lo G c)(hk2:c.kind=1∨c.kind=2)(hl:c.raws.length=cnt c.there){k:Nat}(hk:c.there[k]? = some true) :
  ∃(b off c2:Nat) (p:Part),w.cell? ⟨G,2,none⟩=some (.slice (some ⟨b,off,none⟩) c.there.length c2)∧b<w.heap.size∧w.cell? ⟨b,off+k,none⟩=some (.slice p.A p.bs.length p.c)∧Rd w lo w.heap.size p.A p.c (bv p.bs)∧c.raws[cnt (c.there.take k)]? = some p.bs:=by
 obtain⟨A0,c0,A2,n2,c2,A3,n3,c3,d,A5,n5,c5,h1,h2,h3,h4,h5,h6⟩:=h
 obtain⟨e1,ps,e2,e3,e4⟩:=h4 hk2
 subst e1
 have hlp:ps.length=cnt c.there:=by rw[←hl,←e2,qj9]
 obtain⟨g1,g2⟩:=spread_at (.slice none 0 0) hk (xs:=pv ps) (by rw[qe5,hlp];exact qc _)
 rw[qe5] at g2
 have hlt:k<c.there.length:=(zw.1 hk).1
 obtain⟨b,off,rfl,_,hb,hall⟩:=e3.at_ (by rw[qb6];omega)
 have x2:=h1.cell 2
 simp only[jg,zq,zv] at x2
 have hp:=pv_get ps _ g2
 rw[hp] at g1
 refine⟨b,off,c2,ps[cnt (c.there.take k)],x2,hb,hall k _ g1,e4 _ (ql g2),?_⟩
 rw[←e2,qma,qae,qe g2]
 rfl
theorem qcv.kindCell{w:World}{lo G:Nat}{c:Chk}(h:qcv w lo G c):w.cell? ⟨G,0,none⟩=some (.int .i64 (c.kind:Int)):=by
 obtain⟨A0,c0,A2,n2,c2,A3,n3,c3,d,A5,n5,c5,h1, -⟩:=h
 have x0:=h1.cell 0
 simpa using x0
theorem qcv.tabCell{w:World}{lo G:Nat}{c:Chk}(h:qcv w lo G c)(h2:c.kind=2):∃A3 c3,w.cell? ⟨G,3,none⟩=some (.slice A3 c.tab.length c3)∧Rd w lo w.heap.size A3 c3 (sv (yj c.tab)):=by
 obtain⟨A0,c0,A2,n2,c2,A3,n3,c3,d,A5,n5,c5,h1,_,_,_,h5,_⟩:=h
 obtain⟨e1,e2⟩:=h5 h2
 subst e1
 have x3:=h1.cell 3
 exact⟨A3,c3,by simpa using x3,e2⟩
theorem qcv.dicCell{w:World}{lo G:Nat}{c:Chk}(h:qcv w lo G c)(h3:c.kind=3):∃(dg:Nat) (ys:List ByteArray) (A5:Option Addr) (c5:Nat),w.cell? ⟨G,4,none⟩=some (.pointer (some ⟨dg,0,none⟩))∧w.cell? ⟨G,5,none⟩=some (.slice A5 c.there.length c5)∧
  Dc w dg ys∧qm ys=c.dic∧Rd w lo w.heap.size A5 c5 (xz c.there (iv (z8 c.codes)) (.int .i64 (-1))):=by
 obtain⟨A0,c0,A2,n2,c2,A3,n3,c3,d,A5,n5,c5,h1,_,_,_,_,h6⟩:=h
 obtain⟨dg,ys,rfl,e2,e3,rfl,e5, -⟩:=h6 h3
 have x4:=h1.cell 4
 have x5:=h1.cell 5
 exact⟨dg,ys,A5,c5,by simpa using x4,by simpa using x5,e2,e3,e5⟩
theorem strs_of{ys:List ByteArray}{D:List (List UInt8)}(h:qm ys=D):ys=yj D:=by rw[←h,qdt]
set_option maxRecDepth 100000 in
set_option maxHeartbeats 4000000 in
theorem text_v{w:World}{lo G:Nat}{c:Chk}(h:qcv w lo G c)(ho:ChkOk c){k:Nat}(hk:c.there[k]? = some true){s:ByteArray}(hs:(qbw c)[k]? = some ⟨false,s⟩) :
  Calls Tryz.prog 135 #[.pointer (some ⟨G,0,none⟩),.int .i64 (k:Int)] w fun r w'=>r= .returned (.string s)∧Below w.heap.size w w':=by
 obtain⟨j,hj,hcj,hv⟩:=vals_at ho hk
 rw[hv] at hs
 have hse:(qf7 c)[j]=s:=by injection hs with hs;injection hs
 have hlt:k<c.there.length:=(zw.1 hk).1
 have hfew:=h.few
 have x0:=h.kindCell
 have hGl:=h.lt
 have ik:(k:Int)<(c.there.length:Int):=by omega
 have i0:(0:Int)≤(k:Int):=by omega
 rcases ho.kinds with ⟨h1,hl,h4,_⟩ | ⟨h1,hl,htr,h4,_⟩ | ⟨h1,_,_,hdc,hl,h4⟩
 ·
  obtain⟨b,off,c2,q,x2,hb,hcell,hrd,hrw⟩:=h.raw (.inl h1) hl hk
  have hst:=ul (P:=Tryz.prog) w 36 9 5 Tryz.underlying36 Tryz.underlying5 Tryz.underlying9 _ _ q.A q.c q.bs hrd
  have hsq:(⟨q.bs.toArray⟩:ByteArray)=s:=by
   rw[←hse]
   have e:qf7 c=yj c.raws:=by rw[qf7,if_neg (by omega),if_neg (by omega)]
   rw[hcj] at hrw
   have h5:=(zw.1 hrw).2
   simp[e,yj,h5]
  rw[hsq] at hst
  rw[h1] at x0
  clear h ho hk hs hv hrw hsq hrd hcj hse
  generalize c.there.length=n at *
  generalize q.bs.length=qn at *
  go_enter Tryz.func135,Tryz.ntmps135
  go_wp2_with fail
  go_ret
  exact⟨rfl,Below.refl _ _⟩
 ·
  obtain⟨b,off,c2,q,x2,hb,hcell,hrd,hrw⟩:=h.raw (.inr h1) hl hk
  obtain⟨A3,c3,x3,hrt⟩:=h.tabCell h1
  have hq:=h4 q.bs (List.mem_of_getElem? hrw)
  obtain⟨h5,h8⟩:=strs_small htr
  have HCF:Hid (∀W,Below w.heap.size w W→W.cell? ⟨G,3,none⟩=some (.slice A3 c.tab.length c3)∧W.cell? ⟨G,2,none⟩=some (.slice (some ⟨b,off,none⟩) c.there.length c2)∧W.cell? ⟨b,off+k,none⟩=some (.slice q.A q.bs.length q.c)):=fun W hW=>⟨(hW.cell (p:=⟨G,3,none⟩) hGl).trans x3,(hW.cell (p:=⟨G,2,none⟩) hGl).trans x2,(hW.cell (p:=⟨b,off+k,none⟩) hb).trans hcell⟩
  have HDE:Hid (∀W,Below w.heap.size w W→Calls Tryz.prog 169 #[.slice A3 c.tab.length c3,.slice q.A q.bs.length q.c,.int .i64 4096] W fun r w'=>∃e:Int,r= .returned (.tuple #[.string s,.int .i64 e])∧Below W.heap.size W w'):=fun W hW=>by
   have h9:=qp2 (w:=W) (c:=c3) (A:=A3) (c2:=q.c) (B:=q.A) (yj c.tab) h8 h5 q.bs (by omega) 4096 (by omega) (by omega) ((hrt.below hW (qc _)).wide (qi _) hW.size) ((hrd.below hW (qc _)).wide (qi _) hW.size)
   rw[yv,kx] at h9
   have hsq:(⟨(qey c.tab 4096 q.bs [] 0).1.toArray⟩:ByteArray)=s:=by
    rw[←hse]
    have e:qf7 c=c.raws.map fun b=>⟨(qey c.tab 4096 b [] 0).1.toArray⟩:=by rw[qf7,if_pos h1]
    rw[hcj] at hrw
    have h7:=(zw.1 hrw).2
    simp[e,h7]
   rw[hsq] at h9
   refine h9.mono ?_
   rintro r w' ⟨rfl,hb⟩
   exact⟨_,rfl,hb⟩
  rw[h1] at x0
  clear h ho hk hs hv hrw hrd hcj hse hrt h8 x2 x3 hcell hq h4
  generalize c.there.length=n at *
  generalize q.bs.length=qn at *
  generalize c.tab.length=tn at *
  go_enter Tryz.func135,Tryz.ntmps135
  go_wp2_with fail
  have KD:Hid (Below w.heap.size w w.drew):=(Below.refl _ _).drew
  refine wp_region_held_drew (S:=fun w'=>Below w.heap.size w w') (by kernel_rfl) KD.out (fun hHeld => ?_)
  refine tk 0 ?_ rfl hHeld ?_ ?_
  rotate_left
  focus (intro W hSw;obtain⟨q1,q2,q3⟩:=HCF.out W hSw;go_simp;try with_reducible rfl)
  try simp only[ju,Act.put]
  refine tk 1 ?_ rfl hHeld ?_ ?_
  rotate_left
  focus (intro W hSw;obtain⟨q1,q2,q3⟩:=HCF.out W hSw;go_simp;try with_reducible rfl)
  try simp only[ju,Act.put]
  refine tk 2 ?_ rfl hHeld ?_ ?_
  rotate_left
  focus (intro W hSw;obtain⟨q1,q2,q3⟩:=HCF.out W hSw;go_simp;try with_reducible rfl)
  try simp only[ju,Act.put]
  refine tk 3 ?_ rfl hHeld ?_ ?_
  rotate_left
  focus (intro W hSw;obtain⟨q1,q2,q3⟩:=HCF.out W hSw;go_simp;try with_reducible rfl)
  try simp only[ju,Act.put]
  refine tk 4 ?_ rfl hHeld ?_ ?_
  rotate_left
  focus (intro W hSw;obtain⟨q1,q2,q3⟩:=HCF.out W hSw;go_simp;try with_reducible rfl)
  try simp only[ju,Act.put]
  refine tk 5 ?_ rfl hHeld ?_ ?_
  rotate_left
  focus (intro W hSw;obtain⟨q1,q2,q3⟩:=HCF.out W hSw;go_simp;try with_reducible rfl)
  try simp only[ju,Act.put]
  refine tk 6 ?_ rfl hHeld ?_ ?_
  rotate_left
  focus (intro W hSw;obtain⟨q1,q2,q3⟩:=HCF.out W hSw;go_simp;try with_reducible rfl)
  try simp only[ju,Act.put]
  refine tk 7 ?_ rfl hHeld ?_ ?_
  rotate_left
  focus (intro W hSw;obtain⟨q1,q2,q3⟩:=HCF.out W hSw;go_simp;try with_reducible rfl)
  try simp only[ju,Act.put]
  refine tk 8 ?_ rfl hHeld ?_ ?_
  rotate_left
  focus (intro W hSw;obtain⟨q1,q2,q3⟩:=HCF.out W hSw;go_simp;try with_reducible rfl)
  try simp only[ju,Act.put]
  refine tk 9 ?_ rfl hHeld ?_ ?_
  rotate_left
  focus (intro W hSw;obtain⟨q1,q2,q3⟩:=HCF.out W hSw;go_simp;try with_reducible rfl)
  try simp only[ju,Act.put]
  refine tk 10 ?_ rfl hHeld ?_ ?_
  rotate_left
  focus (intro W hSw;obtain⟨q1,q2,q3⟩:=HCF.out W hSw;go_simp;try with_reducible rfl)
  try simp only[ju,Act.put]
  obtain⟨wd,hwd⟩:∃q,w.drew=q:=⟨_,rfl⟩
  rw[hwd] at hHeld ⊢
  clear KD hwd
  have K_wd:=qa hHeld
  refine wpAnyH_ready (rs:=[11]) (by kernel_rfl) (by simp) ?_
  refine qt (o:=_) rfl (fun K hK => ?_) za
  go_simp
  refine(HDE.out _ K_wd.out).mono ?_
  rintro r v1 ⟨e9,rfl,hb_v1⟩
  have s_v1:wd.heap.size≤v1.heap.size:=hb_v1.size
  have K_v1:Hid (Below w.heap.size w v1):=qa (K_wd.out.trans (hb_v1.mono K_wd.out.size))
  clear hb_v1
  refine hK.out _ _ K_v1.out (fun hHeld => ?_)
  clear hK K
  try simp only[ju,Act.put]
  refine tk 12 ?_ rfl hHeld ?_ ?_
  rotate_left
  focus (intro W hSw;obtain⟨q1,q2,q3⟩:=HCF.out W hSw;go_simp;try with_reducible rfl)
  try simp only[ju,Act.put]
  refine tk 13 ?_ rfl hHeld ?_ ?_
  rotate_left
  focus (intro W hSw;obtain⟨q1,q2,q3⟩:=HCF.out W hSw;go_simp;try with_reducible rfl)
  try simp only[ju,Act.put]
  refine tk 14 ?_ rfl hHeld ?_ ?_
  rotate_left
  focus (intro W hSw;obtain⟨q1,q2,q3⟩:=HCF.out W hSw;go_simp;try with_reducible rfl)
  try simp only[ju,Act.put]
  refine tk 15 ?_ rfl hHeld ?_ ?_
  rotate_left
  focus (intro W hSw;obtain⟨q1,q2,q3⟩:=HCF.out W hSw;go_simp;try with_reducible rfl)
  try simp only[ju,Act.put]
  refine tk 16 ?_ rfl hHeld ?_ ?_
  rotate_left
  focus (intro W hSw;obtain⟨q1,q2,q3⟩:=HCF.out W hSw;go_simp;try with_reducible rfl)
  try simp only[ju,Act.put]
  refine wpAnyH_done (by kernel_rfl) ?_ _
  go_wp2_with fail
  go_ret
  exact⟨rfl,K_v1.out⟩
 ·
  obtain⟨dg,ys,A5,c5,x4,x5,hd,hys,hr5⟩:=h.dicCell h1
  obtain⟨g1,g2⟩:=spread_at (.int .i64 (-1)) hk (xs:=iv (z8 c.codes)) (by rw[jz,zu,hl];exact qc _)
  rw[jz,zu] at g2
  rw[hcj] at g1 g2
  have hz:=h4 c.codes[j] (ql g2)
  have hzz:(iv (z8 c.codes))[j]? = some (.int .i64 (c.codes[j]:Int)):=by simp[iv,z8,qe g2]
  rw[hzz] at g1
  obtain⟨b,off,rfl,_,hb,hall⟩:=hr5.at_ (by rw[qb6];omega)
  have hcell:=hall k _ g1
  have hyl:c.codes[j]<ys.length:=by rw[strs_of hys,yv];exact hz
  have hsy:ys[c.codes[j]]=s:=by
   rw[←hse]
   have e:qf7 c=c.codes.map fun n=>(yj c.dic).getD n ⟨#[]⟩:=by rw[qf7,if_neg (by omega),if_pos h1]
   have e2:(qf7 c)[j]=(yj c.dic).getD c.codes[j] ⟨#[]⟩:=by simp[e]
   rw[e2,yb,←strs_of hys,qe hyl]
   rfl
  have hss:s.size≤4096:=by rw[←hse];exact qlr ho _ (ql hj)
  have HCF:Hid (∀W,Below w.heap.size w W→W.cell? ⟨G,4,none⟩=some (.pointer (some ⟨dg,0,none⟩))∧W.cell? ⟨G,5,none⟩=some (.slice (some ⟨b,off,none⟩) c.there.length c5)∧W.cell? ⟨b,off+k,none⟩=some (.int .i64 (c.codes[j]:Int))):=fun W hW=>⟨(hW.cell (p:=⟨G,4,none⟩) hGl).trans x4,(hW.cell (p:=⟨G,5,none⟩) hGl).trans x5,(hW.cell (p:=⟨b,off+k,none⟩) hb).trans hcell⟩
  have HDE:Hid (∀W,Below w.heap.size w W→Calls Tryz.prog 170 #[.pointer (some ⟨dg,0,none⟩),.int .i64 (c.codes[j]:Int)] W fun r w'=>r= .returned (.string s)∧Below W.heap.size W w'):=fun W hW=>by
   have:=fat_in (hd.below hW (qc _)) c.codes[j] hyl (by rw[hsy];omega)
   rw[hsy] at this
   exact this
  rw[h1] at x0
  clear h ho hk hs hv hcj hse x4 x5 hcell hd hys hr5 hall g1 hzz hsy hyl hz h4 hdc
  generalize c.there.length=n at *
  generalize c.codes[j]=cj at *
  go_enter Tryz.func135,Tryz.ntmps135
  go_wp2_with fail
  have KD:Hid (Below w.heap.size w w.drew):=(Below.refl _ _).drew
  refine wp_region_held_drew (S:=fun w'=>Below w.heap.size w w') (by kernel_rfl) KD.out (fun hHeld => ?_)
  refine tk 0 ?_ rfl hHeld ?_ ?_
  rotate_left
  focus (intro W hSw;obtain⟨q1,q2,q3⟩:=HCF.out W hSw;go_simp;try with_reducible rfl)
  try simp only[ju,Act.put]
  refine tk 1 ?_ rfl hHeld ?_ ?_
  rotate_left
  focus (intro W hSw;obtain⟨q1,q2,q3⟩:=HCF.out W hSw;go_simp;try with_reducible rfl)
  try simp only[ju,Act.put]
  refine tk 2 ?_ rfl hHeld ?_ ?_
  rotate_left
  focus (intro W hSw;obtain⟨q1,q2,q3⟩:=HCF.out W hSw;go_simp;try with_reducible rfl)
  try simp only[ju,Act.put]
  refine tk 3 ?_ rfl hHeld ?_ ?_
  rotate_left
  focus (intro W hSw;obtain⟨q1,q2,q3⟩:=HCF.out W hSw;go_simp;try with_reducible rfl)
  try simp only[ju,Act.put]
  refine tk 4 ?_ rfl hHeld ?_ ?_
  rotate_left
  focus (intro W hSw;obtain⟨q1,q2,q3⟩:=HCF.out W hSw;go_simp;try with_reducible rfl)
  try simp only[ju,Act.put]
  refine tk 5 ?_ rfl hHeld ?_ ?_
  rotate_left
  focus (intro W hSw;obtain⟨q1,q2,q3⟩:=HCF.out W hSw;go_simp;try with_reducible rfl)
  try simp only[ju,Act.put]
  refine tk 6 ?_ rfl hHeld ?_ ?_
  rotate_left
  focus (intro W hSw;obtain⟨q1,q2,q3⟩:=HCF.out W hSw;go_simp;try with_reducible rfl)
  try simp only[ju,Act.put]
  refine tk 7 ?_ rfl hHeld ?_ ?_
  rotate_left
  focus (intro W hSw;obtain⟨q1,q2,q3⟩:=HCF.out W hSw;go_simp;try with_reducible rfl)
  try simp only[ju,Act.put]
  refine tk 8 ?_ rfl hHeld ?_ ?_
  rotate_left
  focus (intro W hSw;obtain⟨q1,q2,q3⟩:=HCF.out W hSw;go_simp;try with_reducible rfl)
  try simp only[ju,Act.put]
  refine tk 9 ?_ rfl hHeld ?_ ?_
  rotate_left
  focus (intro W hSw;obtain⟨q1,q2,q3⟩:=HCF.out W hSw;go_simp;try with_reducible rfl)
  try simp only[ju,Act.put]
  refine tk 10 ?_ rfl hHeld ?_ ?_
  rotate_left
  focus (intro W hSw;obtain⟨q1,q2,q3⟩:=HCF.out W hSw;go_simp;try with_reducible rfl)
  try simp only[ju,Act.put]
  obtain⟨wd,hwd⟩:∃q,w.drew=q:=⟨_,rfl⟩
  rw[hwd] at hHeld ⊢
  clear KD hwd
  have K_wd:=qa hHeld
  refine wpAnyH_ready (rs:=[11]) (by kernel_rfl) (by simp) ?_
  refine qt (o:=_) rfl (fun K hK => ?_) za
  go_simp
  refine(HDE.out _ K_wd.out).mono ?_
  rintro r v1 ⟨rfl,hb_v1⟩
  have s_v1:wd.heap.size≤v1.heap.size:=hb_v1.size
  have K_v1:Hid (Below w.heap.size w v1):=qa (K_wd.out.trans (hb_v1.mono K_wd.out.size))
  clear hb_v1
  refine hK.out _ _ K_v1.out (fun hHeld => ?_)
  clear hK K
  try simp only[ju,Act.put]
  refine tk 12 ?_ rfl hHeld ?_ ?_
  rotate_left
  focus (intro W hSw;obtain⟨q1,q2,q3⟩:=HCF.out W hSw;go_simp;try with_reducible rfl)
  try simp only[ju,Act.put]
  refine wpAnyH_done (by kernel_rfl) ?_ _
  go_wp2_with fail
  go_ret
  exact⟨rfl,K_v1.out⟩
-- AT
theorem put2{w:World}{g:Nat}{t:TypeId}{a0 a1:Value}(b0 b1:Value)(h:yy w g t #[a0,a1]):yy ((w.setCell ⟨g,0,none⟩ b0).setCell ⟨g,1,none⟩ b1) g t #[b0,b1]:=by
 have:=(h.put 0 b0).put 1 b1
 simpa using this
theorem below2{a w:World}{B g:Nat}(b0 b1:Value)(h:Below B a w)(hg:B≤g):Below B a ((w.setCell ⟨g,0,none⟩ b0).setCell ⟨g,1,none⟩ b1) :=
 (h.setCell (p:=⟨g,0,none⟩) hg _).setCell (p:=⟨g,1,none⟩) hg _
theorem build_val1(W:World)(b:Bool):(Instr.build 72 #[(0,.bool b)]).run Tryz.prog W= .ok (.agg #[.bool b,.string ⟨#[]⟩]) W:=by cases b <;> exact run_build W _ _ _ (by kernel_rfl)
theorem build_val2(W:World)(s:ByteArray):(Instr.build 72 #[(1,.string s)]).run Tryz.prog W= .ok (.agg #[.bool false,.string s]) W:=run_build W _ _ _ (by kernel_rfl)
theorem at_none{w:World}{lo G:Nat}{c:Chk}(h:qcv w lo G c)(z:Int)(hz:(z<0∨(c.there.length:Int)≤z)∨∃k:Nat,z=(k:Int)∧c.there[k]? = some false) :
  Calls Tryz.prog 98 #[.pointer (some ⟨G,0,none⟩),.int .i64 z] w fun r w'=>r= .returned (.agg #[.bool true,.string ⟨#[]⟩])∧Below w.heap.size w w':=by
 obtain⟨w1,hw1⟩:∃w1,w.alloc (.cells #[.bool false,.string ⟨#[]⟩] 72)=w1:=⟨_,rfl⟩
 have hb1:Below w.heap.size w w1:=by rw[←hw1];exact(Below.refl _ _).alloc (qc _) _
 have hx:yy w1 w.heap.size 72 #[.bool false,.string ⟨#[]⟩]:=by rw[←hw1];exact yy.new w _ _
 have h1:=h.below hb1
 have HH:Hid (Calls Tryz.prog 134 #[.pointer (some ⟨G,0,none⟩),.int .i64 z] w1 fun r w'=>r= .returned (.bool false)∧w1=w'):=by
  unfold Hid
  rcases hz with hz | ⟨k,rfl,hk⟩
  ·
   exact has_out h1 z hz
  ·
   exact has_in h1 hk
 have HX:=qa hx
 have HB1:=qa hb1
 have x0:=hx.cell 0
 have x1:=hx.cell 1
 have f0:=hx.frozen 0
 have f1:=hx.frozen 1
 simp only[jg,zq,zv] at x0 x1
 have hbv:=fun W=>build_val1 W true
 clear h hz h1 hb1 hx
 go_enter Tryz.func98,Tryz.ntmps98
 go_wp2_with fail
 refine HH.out.mono ?_
 rintro r w' ⟨rfl,rfl⟩
 clear hw1
 go_wp2_with fail
 have hr3:=put2 (.bool true) (.string ⟨#[]⟩) HX.out
 refine bodyPost_ret (v:= .agg #[.bool true,.string ⟨#[]⟩]) ?_ rfl ⟨rfl,below2 _ _ HB1.out (qc _)⟩
 exact results_cell_row rfl _ _ w.heap.size 72 #[.bool true,.string ⟨#[]⟩] (0,0) _ rfl hr3 Tryz.underlying72 rfl (by kernel_rfl)
theorem at_some{w:World}{lo G:Nat}{c:Chk}(h:qcv w lo G c)(ho:ChkOk c){k:Nat}(hk:c.there[k]? = some true){s:ByteArray}(hs:(qbw c)[k]? = some ⟨false,s⟩) :
  Calls Tryz.prog 98 #[.pointer (some ⟨G,0,none⟩),.int .i64 (k:Int)] w fun r w'=>r= .returned (.agg #[.bool false,.string s])∧Below w.heap.size w w':=by
 obtain⟨w1,hw1⟩:∃w1,w.alloc (.cells #[.bool false,.string ⟨#[]⟩] 72)=w1:=⟨_,rfl⟩
 have hb1:Below w.heap.size w w1:=by rw[←hw1];exact(Below.refl _ _).alloc (qc _) _
 have hx:yy w1 w.heap.size 72 #[.bool false,.string ⟨#[]⟩]:=by rw[←hw1];exact yy.new w _ _
 have hs1:w.heap.size<w1.heap.size:=by rw[←hw1];simp
 have h1:=h.below hb1
 have HH:=qa (has_in h1 hk)
 have HT:=qa (text_v h1 ho hk hs)
 have HX:=qa hx
 have HB1:=qa hb1
 have hbv:=fun W=>build_val2 W s
 clear h h1 hb1 hx hk hs ho
 go_enter Tryz.func98,Tryz.ntmps98
 go_wp2_with fail
 refine HH.out.mono ?_
 rintro r w' ⟨rfl,rfl⟩
 go_wp2_with fail
 refine HT.out.mono ?_
 rintro r w2 ⟨rfl,hb2⟩
 have hx2:=HX.out.below hb2 hs1
 have HX2:=qa hx2
 have HB2:=qa (HB1.out.trans (hb2.mono (by omega)))
 have x0:=hx2.cell 0
 have x1:=hx2.cell 1
 have f0:=hx2.frozen 0
 have f1:=hx2.frozen 1
 simp only[jg,zq,zv] at x0 x1
 clear hw1 hb2 hx2
 go_wp2_with fail
 have hr3:=put2 (.bool false) (.string s) HX2.out
 refine bodyPost_ret (v:= .agg #[.bool false,.string s]) ?_ rfl ⟨rfl,below2 _ _ HB2.out (qc _)⟩
 exact results_cell_row rfl _ _ w.heap.size 72 #[.bool false,.string s] (0,0) _ rfl hr3 Tryz.underlying72 rfl (by kernel_rfl)
theorem at_v{w:World}{lo G:Nat}{c:Chk}(h:qcv w lo G c)(ho:ChkOk c∨c=Chk.none){k:Nat}{v:Vl}(hv:(qbw c)[k]? = some v) :
  Calls Tryz.prog 98 #[.pointer (some ⟨G,0,none⟩),.int .i64 (k:Int)] w fun r w'=>r= .returned (.agg #[.bool v.null,.string v.s])∧Below w.heap.size w w':=by
 have hlt:k<(qbw c).length:=(zw.1 hv).1
 rw[qe3] at hlt
 rcases ho with ho | rfl
 ·
  have hk:c.there[k]? = some c.there[k]:=qe hlt
  cases hb:c.there[k] with
  | true =>
   rw[hb] at hk
   obtain⟨j,hj,_,h2⟩:=vals_at ho hk
   rw[hv] at h2
   obtain rfl:=zr h2
   exact at_some h ho hk hv
  | false =>
   rw[hb] at hk
   have h2:=vals_not (c:=c) hk
   rw[hv] at h2
   obtain rfl:=zr h2
   exact at_none h _ (.inr ⟨k,rfl,hk⟩)
 ·
  exact absurd hlt (ja k)
theorem qo1(w:World)(n:Nat)(h:n≤4294967295):∃w1 xs,(Instr.makeSlice 73 (.int .i64 (n:Int)) (.int .i64 (n:Int))).run Tryz.prog w= .ok (.slice (some ⟨w.heap.size,0,none⟩) n n) w1∧
  w1.ownsRow w.heap.size 72 2 (.slice (some ⟨w.heap.size,0,none⟩) n n) n xs∧w.grownBy w1 none:=by
 obtain⟨i0,hi0,hz0,hz1,hz2⟩:=info_parts Tryz.infoVal
 obtain⟨w1,h1,h2,h3⟩:=run_make_full (P:=Tryz.prog) w w.heap.size 73 72 i0 _ 2 Tryz.underlying73 hi0 hz0 hz1 .i64 .i64 n (by rw[hz2];omega) (by simp only[maxLen];omega) (qc _)
 exact⟨w1,_,h1,h2,h3⟩
theorem all_v{w:World}{lo G:Nat}{c:Chk}(h:qcv w lo G c)(ho:ChkOk c∨c=Chk.none) :
  Calls Tryz.prog 90 #[.pointer (some ⟨G,0,none⟩)] w fun r w'=>∃A' c',r= .returned (.slice A' (qbw c).length c')∧Row w' w.heap.size w'.heap.size A' c' (qbw c)∧Below w.heap.size w w'∧∃g,A'=some ⟨g,0,none⟩∧w'.ownsRow w.heap.size 72 2 (.slice A' (qbw c).length c') (qbw c).length (vv (qbw c)):=by
 have HL:=qa (len_v h)
 have hlen:c.there.length≤4096:=by
  rcases ho with ho | rfl
  ·
   exact ho.few
  ·
   exact qi _
 have HSZ:Hid (∀v∈qbw c,v.s.size≤9223372036854775807):=fun v hv=>by
  rcases ho with h1 | rfl
  ·
   exact zb (vals_size h1 v hv) (by omega)
  ·
   cases hv
 obtain⟨n,hn⟩:∃n,c.there.length=n:=⟨_,rfl⟩
 have hvn:(qbw c).length=n:=by rw[qe3,hn]
 have HVN:=qa hvn
 rw[hvn]
 rw[hn] at HL hlen
 obtain⟨w1,xs0,hmake,ho1,hg1⟩:=qo1 w n (by omega)
 have HO1:=qa ho1
 have HB1:=qa (qb9 (qc _) hg1 (fun g hg=>by cases hg))
 have HX0:Hid (xs0.length=n*2):=ho1.1
 have HA:Hid (∀(W:World) (k:Nat) (v:Vl),Below w.heap.size w W→(qbw c)[k]? = some v→Calls Tryz.prog 98 #[.pointer (some ⟨G,0,none⟩),.int .i64 (k:Int)] W fun r w'=>r= .returned (.agg #[.bool v.null,.string v.s])∧Below W.heap.size W w'):=fun W k v hW hv=>at_v (h.below hW) ho hv
 generalize qbw c=L at *
 clear h ho ho1 hg1 hn hvn
 go_enter Tryz.func90,Tryz.ntmps90
 go_wp2_with fail
 refine HL.out.mono ?_
 rintro r w' ⟨rfl,rfl⟩
 go_wp2_with fail
 clear hmake HL
 go_loopw [10] (fun x wr=>∃(k:Nat) (xs:List Value),k≤n∧x= .int .i64 (k:Int)∧wr.ownsRow w.heap.size 72 2 (.slice (some ⟨w.heap.size,0,none⟩) n n) n xs∧qkc (vv L) (k*2) xs∧Below w.heap.size w wr) (fun x _=>n-(intOf x).toNat)
 case atStart=>exact⟨0,xs0,qi _,rfl,HO1.out,qd6 (by rw[HX0.out,qd5,HVN.out]),HB1.out⟩
 case round =>
  clear HO1 HB1 HX0
  obtain⟨k,xs,hk,rfl,ho,hf,hb⟩:=hrel
  have HO:=qa ho
  have HF:=qa hf
  have HB:=qa hb
  have hsz:=hb.size
  clear ho hf hb
  by_cases hlt:k<n
  ·
   have ik:(k:Int)<(n:Int):=by omega
   have hkl:k<L.length:=by rw[HVN.out];exact hlt
   have HA1:=qa (HA.out wr k L[k] HB.out (qe hkl))
   have HU0:Hid ((vv L)[k*2]? = some (.bool L[k].null)):=by
    have:=qkl L k 0 (by omega)
    rw[xj,qe hkl] at this
    exact this
   have HU1:Hid ((vv L)[k*2+1]? = some (.string L[k].s)):=by
    have:=qkl L k 1 (by omega)
    rw[qe hkl] at this
    exact this
   generalize L[k].null=b at *
   generalize L[k].s=s at *
   have HXL:Hid (xs.length=n*2):=by unfold Hid;rw[HF.out.1,qd5,HVN.out]
   go_wp2_with fail
   refine HA1.out.mono ?_
   rintro r w2 ⟨rfl,hb2⟩
   have HO2:=qa (jp HO.out hb2 (qc _))
   have HB2:=qa (zo HB.out hb2 hsz)
   have hsz2:=HB2.out.size
   have hxl:=HXL.out
   have fr0:=HO2.out.frozenAt (k*2)
   have fr1:=HO2.out.frozenAt (k*2+1)
   have c0:w2.cell? ⟨w.heap.size,k*2,none⟩=some (xs[k*2]'(by omega)):=by
    rw[HO2.out.cellAt (k*2) (by omega),qe (by omega)]
   have c1:w2.cell? ⟨w.heap.size,k*2+1,none⟩=some (xs[k*2+1]'(by omega)):=by
    rw[HO2.out.cellAt (k*2+1) (by omega),qe (by omega)]
   have HS1:=qa (World.ownsRow.stored HO2.out (k*2) (.bool b))
   have HS2:=qa (World.ownsRow.stored HS1.out.1 (k*2+1) (.string s))
   have HBS:=qa ((HB2.out.setCell (p:=⟨w.heap.size,k*2,none⟩) (qc _) (.bool b)).setCell (p:=⟨w.heap.size,k*2+1,none⟩) (qc _) (.string s))
   have HFS:Hid (qkc (vv L) ((k+1)*2) ((xs.set (k*2) (.bool b)).set (k*2+1) (.string s))):=by
    have:=qbe (qbe HF.out (.bool b) HU0.out) (.string s) HU1.out
    rw[show(k+1)*2=k*2+1+1 by omega]
    exact this
   generalize xs[k*2]'(by omega)=y0 at *
   generalize xs[k*2+1]'(by omega)=y1 at *
   clear hb2 HA1 HO HB HF HU0 HU1
   go_wp2_with fail
   go_roundw
   case rel=>exact⟨k+1,_,by omega,by go_num,HS2.out.1,HFS.out,HBS.out⟩
   case measure=>simp[intOf];omega
  ·
   have ik:¬(k:Int)<(n:Int):=by omega
   have hke:k=n:=by omega
   have hx:xs=vv L:=qfj HF.out (by rw[qd5,HVN.out];omega)
   subst hx
   go_wp2_with fail
   go_ret
   have hro:=row_own HO.out HVN.out HSZ.out
   exact⟨_,_,rfl,hro,HB.out,⟨_,rfl⟩,HO.out⟩
theorem sgtexts_v{w:World}(L:List Vl){c:Nat}{A:Option Addr}(h:Row w 0 w.heap.size A c L)(hn:L.length≤1000000) :
  Calls Tryz.prog 79 #[.slice A L.length c] w fun r w'=>∃A' c',r= .returned (.slice A' (qu L).length c')∧w'.ownsRow w.heap.size 9 1 (.slice A' (qu L).length c') (qu L).length (sv (qu L))∧Below w.heap.size w w':=by
 obtain⟨hl,hm⟩:=h.len
 have H:=qa h
 clear h
 go_enter Tryz.func79,Tryz.ntmps79
 go_wp2_with fail
 go_loopw [3,8] (fun x i wr=>∃(k:Nat) (ys:List ByteArray) (A':Option Addr) (c' n:Nat),k≤L.length∧i= .int .i64 (k:Int)∧qu (L.take k)=ys∧ys.length=n∧n≤k∧x= .slice A' n c'∧wr.ownsRow w.heap.size 9 1 (.slice A' n c') n (sv ys)∧Below w.heap.size w wr) (fun _ i _=>L.length-(intOf i).toNat)
 case atStart=>exact⟨0,[],none,0,0,qi _,rfl,rfl,rfl,qc _,rfl,⟨rfl,.inl ⟨rfl,rfl⟩⟩,Below.refl _ _⟩
 case round =>
  obtain⟨k,ys,A',c',n,hk,rfl,hys,hyn,hnk,rfl,ho,hb⟩:=hrel
  have HY:=qa hys
  have HYN:=qa hyn
  have HO:=qa ho
  have HB:=qa hb
  have hsz:=hb.size
  clear ho hb hys hyn
  by_cases hlt:k<L.length
  ·
   have ik:(k:Int)<(L.length:Int):=by omega
   obtain⟨b,off,rfl,_,hbl,hc0,hc1⟩:=(H.out.below HB.out (qc _)).get hlt
   have hbw:b<wr.heap.size:=by omega
   have HT:=qa (qko hlt)
   rw[HY.out] at HT
   generalize L[k].null=nb at *
   generalize L[k].s=s at *
   have HOA:=qa (HO.out.alloc (.cells #[.bool nb,.string s] 72))
   have HBA:=qa (HB.out.alloc hsz (.cells #[.bool nb,.string s] 72))
   cases nb with
   | true =>
    have HT2:Hid (qu (L.take (k+1))=ys):=by unfold Hid;rw[HT.out];simp
    clear HT
    go_wp2_with fail
    go_roundw
    case rel=>exact⟨k+1,ys,A',c',n,by omega,by go_num,HT2.out,HYN.out,by omega,rfl,HOA.out,HBA.out⟩
    case measure=>simp[intOf];omega
   | false =>
    obtain⟨zs,hzs⟩:∃zs,ys++[s]=zs:=⟨_,rfl⟩
    have HT2:Hid (qu (L.take (k+1))=zs):=by unfold Hid;rw[HT.out,←hzs];simp
    have hzl:zs.length=n+1:=by rw[←hzs,qd,HYN.out];rfl
    have HZL:=qa hzl
    have HZS:=qa hzs
    clear HT hzl hzs
    have HOB:=qa (HOA.out.alloc (.cells #[.string s] 9))
    have HBB:=qa (HBA.out.alloc (by simp;omega) (.cells #[.string s] 9))
    rw[←HYN.out] at HOB
    go_wp2_with (at_builtin;refine vh (v:= .slice A' n c') w.heap.size ys s rfl _ _ rfl rfl rfl rfl (by rw[zg _ _ _ _ (by simp)];rfl) (by have:=HOB.out;rw[HYN.out] at this ⊢;exact this) (by rw[HYN.out];omega) (by simp;omega) ?_;intro A7 c7 w7 ho7 hg7;refine qam ?_)
    have hb7:Below w.heap.size w w7:=HBB.out.grown hg7 (by simp;omega) (fun q hq=>(zk HOB.out (by rw[HYN.out];exact hq)).1)
    rw[HZS.out,HZL.out] at ho7
    have HO7:=qa ho7
    have HB7:=qa hb7
    have HZV:Hid (Value.slice A7 (ys.length+1) c7= .slice A7 (n+1) c7):=by unfold Hid;rw[HYN.out]
    clear ho7 hg7 hb7 HO HB HOA HBA HOB HBB
    refine⟨?_⟩
    go_wp2_with fail
    go_roundw
    case rel=>exact⟨k+1,zs,A7,c7,n+1,by omega,by go_num,HT2.out,HZL.out,by omega,HZV.out,HO7.out,HB7.out⟩
    case measure=>simp[intOf] <;> omega
  ·
   have ik:¬(k:Int)<(L.length:Int):=by omega
   have hke:L.take k=L:=qo (by omega)
   rw[hke] at HY
   go_wp2_with fail
   go_ret
   rw[HY.out,HYN.out]
   exact⟨_,_,rfl,HO.out,HB.out⟩
theorem cut_get(s:ByteArray)(k j:Nat)(h:k+j<s.size):(s.extract k s.size)[j]'(by rw[yt];omega)=s[k+j]:=by
 rw[ByteArray.getElem_extract]
theorem ggram_at{w:World}(s:ByteArray)(k:Nat)(h:k+2<s.size)(hs:s.size≤100000)(g:Nat)(hg:qke s[k] s[k+1] s[k+2]=g) :
  Calls Tryz.prog 150 #[.string (s.extract k s.size)] w fun r w'=>r= .returned (.int .i64 (g:Int))∧∃m,w'=w.drewN m :=
 ggram_any (s.extract k s.size) (by rw[yt];omega) (by rw[yt];omega) g (by
  rw[←hg,cut_get s k 0 (by omega),cut_get s k 1 (by omega),cut_get s k 2 h]
  rfl)
section
set_option maxRecDepth 100000
open Go.RowKit Go.Maps Go.Sort
theorem km{P : Program}{f : FuncId}{B g : Func}(h : P.funcs[f]? = some g)(hb : g = { B with name := g.name })(hn : (g.name == "runtime.NumGoroutine") = false) : Bears P f B := ⟨g.name, hn, h.trans (congrArg some hb)⟩
def gkren:Go.Shelf.Ren:=⟨fun | 6=>151 | 7=>152 | 8=>180 | 9=>181 | 10=>182 | 11=>213 | 12=>214 | 13=>101 | 14=>229 | 15=>230 | 16=>231 | 17=>232 | 18=>233 | 19=>234 | 20=>235 | 21=>236 | 22=>237 | 23=>145 | 24=>146 | 25=>244 | 26=>172 | 27=>173 | 28=>245 | 29=>246 | 30=>247 | 31=>251 | n=>n,fun | 0=>0 | 1=>1 | 2=>2 | 3=>210 | 4=>4 | 5=>5 | 6=>6 | 7=>7 | 8=>8 | 9=>9 | 10=>10 | 11=>11 | 12=>12 | 13=>13 | 14=>14 | 15=>15 | 16=>16 | 17=>17 | 18=>18 | 19=>19 | 20=>20 | 21=>21 | 23=>208 | 24=>58 | 25=>211 | 26=>3 | 27=>212 | 28=>213 | 29=>214 | 32=>233 | 33=>193 | 34=>256 | 35=>257 | 36=>160 | 37=>119 | 38=>267 | 39=>196 | 40=>197 | 41=>268 | 42=>269 | 43=>270 | 44=>271 | 45=>202 | 46=>272 | 47=>204 | 48=>102 | 49=>205 | 50=>206 | 51=>227 | 52=>228 | 53=>229 | 54=>277 | 55=>231 | 56=>278 | 57=>250 | 58=>154 | 59=>284 | 60=>258 | 61=>295 | 62=>296 | 63=>297 | 64=>298 | 65=>299 | 66=>118 | 67=>300 | 68=>301 | 69=>302 | 70=>273 | 71=>303 | 72=>304 | 73=>305 | 74=>306 | 75=>307 | n=>n,fun n=>n⟩
theorem gklays:Go.Proofs.SlLaysZI.n7 Tryz.prog gkren:={
 mixed:=by kernel_rfl
 f7:=km Tryz.func152 (by kernel_rfl) (by kernel_rfl)
 f10:=km Tryz.func182 (by kernel_rfl) (by kernel_rfl)
 t0:=Tryz.underlying0
 a0:=Tryz.isAgg0
 z0:=Tryz.sizeOf0
 v0:=Tryz.zeroValue0
 t4:=Tryz.underlying4
 a4:=Tryz.isAgg4
 z4:=Tryz.sizeOf4
 v4:=Tryz.zeroValue4
 t23:=Tryz.underlying208
 a23:=Tryz.isAgg208
 z23:=Tryz.sizeOf208
 v23:=Tryz.zeroValue208
 t26:=Tryz.underlying3
 a26:=Tryz.isAgg3
 z26:=Tryz.sizeOf3
 v26:=Tryz.zeroValue3
 t27:=Tryz.underlying212
 a27:=Tryz.isAgg212
 z27:=Tryz.sizeOf212
 v27:=Tryz.zeroValue212
 t28:=Tryz.underlying213
 a28:=Tryz.isAgg213
 z28:=Tryz.sizeOf213
 v28:=Tryz.zeroValue213
 t33:=Tryz.underlying193
 a33:=Tryz.isAgg193
 z33:=Tryz.sizeOf193
 v33:=Tryz.zeroValue193
 }
def gdren:Go.Shelf.Ren:=⟨fun | 6=>151 | 7=>152 | 8=>180 | 9=>181 | 10=>182 | 11=>213 | 12=>214 | 13=>101 | 14=>229 | 15=>230 | 16=>231 | 17=>232 | 18=>233 | 19=>234 | 20=>235 | 21=>236 | 22=>237 | 23=>145 | 24=>146 | 25=>244 | 26=>172 | 27=>173 | 28=>245 | 29=>246 | 30=>247 | 31=>251 | n=>n,fun | 0=>0 | 1=>1 | 2=>2 | 3=>3 | 4=>4 | 5=>5 | 6=>6 | 7=>7 | 8=>8 | 9=>9 | 10=>10 | 11=>11 | 12=>12 | 13=>13 | 14=>14 | 15=>15 | 16=>16 | 17=>17 | 18=>18 | 19=>19 | 20=>20 | 21=>21 | 23=>208 | 24=>58 | 25=>211 | 26=>3 | 27=>212 | 28=>213 | 29=>214 | 32=>233 | 33=>193 | 34=>256 | 35=>257 | 36=>160 | 37=>119 | 38=>267 | 39=>196 | 40=>197 | 41=>268 | 42=>269 | 43=>270 | 44=>271 | 45=>202 | 46=>272 | 47=>204 | 48=>102 | 49=>205 | 50=>206 | 51=>227 | 52=>228 | 53=>229 | 54=>277 | 55=>231 | 56=>278 | 57=>250 | 58=>154 | 59=>284 | 60=>258 | 61=>295 | 62=>296 | 63=>297 | 64=>298 | 65=>299 | 66=>118 | 67=>300 | 68=>301 | 69=>302 | 70=>273 | 71=>303 | 72=>304 | 73=>305 | 74=>306 | 75=>307 | n=>n,fun n=>n⟩
theorem gdlays:Go.Proofs.SlLaysZI.n6 Tryz.prog gdren:={
 mixed:=by kernel_rfl
 f6:=km Tryz.func151 (by kernel_rfl) (by kernel_rfl)
 f8:=km Tryz.func180 (by kernel_rfl) (by kernel_rfl)
 f11:=km Tryz.func213 (by kernel_rfl) (by kernel_rfl)
 t0:=Tryz.underlying0
 a0:=Tryz.isAgg0
 z0:=Tryz.sizeOf0
 v0:=Tryz.zeroValue0
 t24:=Tryz.underlying58
 a24:=Tryz.isAgg58
 z24:=Tryz.sizeOf58
 v24:=Tryz.zeroValue58
 t26:=Tryz.underlying3
 a26:=Tryz.isAgg3
 z26:=Tryz.sizeOf3
 v26:=Tryz.zeroValue3
 t28:=Tryz.underlying213
 a28:=Tryz.isAgg213
 z28:=Tryz.sizeOf213
 v28:=Tryz.zeroValue213
 i26:=by kernel_rfl
 }
def gmren:Go.Shelf.Ren:=⟨fun | 5=>181 | 7=>214 | 8=>101 | 10=>229 | 11=>230 | 12=>231 | 13=>232 | 14=>233 | 15=>234 | 16=>235 | 17=>236 | 18=>237 | 19=>145 | 20=>146 | 30=>244 | 31=>172 | 32=>173 | 33=>245 | 34=>246 | 35=>247 | 40=>251 | n=>n,fun | 0=>0 | 1=>1 | 2=>2 | 3=>3 | 4=>4 | 5=>5 | 6=>6 | 7=>7 | 8=>8 | 9=>9 | 10=>10 | 11=>11 | 12=>12 | 13=>13 | 14=>14 | 15=>15 | 16=>16 | 17=>17 | 18=>18 | 19=>19 | 20=>20 | 21=>21 | 22=>58 | 23=>58 | 24=>233 | 25=>3 | 30=>257 | 31=>160 | 32=>119 | 34=>267 | 35=>196 | 36=>197 | 37=>268 | 38=>269 | 39=>270 | 40=>271 | 41=>202 | 42=>272 | 43=>204 | 44=>102 | 45=>205 | 46=>206 | 53=>227 | 54=>228 | 55=>229 | 56=>277 | 57=>231 | 58=>278 | 59=>193 | 63=>250 | 64=>154 | 65=>284 | 67=>258 | 68=>295 | 69=>296 | 70=>297 | 71=>298 | 72=>299 | 73=>118 | 74=>300 | 75=>301 | 76=>302 | 77=>273 | 78=>303 | 79=>304 | 80=>305 | 81=>306 | 82=>307 | n=>n,fun n=>n⟩
theorem gmlays:Go.Proofs.SlLaysM.n5 Tryz.prog gmren:={
 mixed:=by kernel_rfl
 f5:=km Tryz.func181 (by kernel_rfl) (by kernel_rfl)
 f7:=km Tryz.func214 (by kernel_rfl) (by kernel_rfl)
 f8:=Tryz.func101.trans (congrArg some (by kernel_rfl))
 f10:=km Tryz.func229 (by kernel_rfl) (by kernel_rfl)
 f11:=km Tryz.func230 (by kernel_rfl) (by kernel_rfl)
 f12:=km Tryz.func231 (by kernel_rfl) (by kernel_rfl)
 f13:=km Tryz.func232 (by kernel_rfl) (by kernel_rfl)
 f14:=km Tryz.func233 (by kernel_rfl) (by kernel_rfl)
 f15:=km Tryz.func234 (by kernel_rfl) (by kernel_rfl)
 f16:=km Tryz.func235 (by kernel_rfl) (by kernel_rfl)
 f17:=km Tryz.func236 (by kernel_rfl) (by kernel_rfl)
 f18:=km Tryz.func237 (by kernel_rfl) (by kernel_rfl)
 f19:=Tryz.func145.trans (congrArg some (by kernel_rfl))
 f20:=Tryz.func146.trans (congrArg some (by kernel_rfl))
 f30:=km Tryz.func244 (by kernel_rfl) (by kernel_rfl)
 f31:=Tryz.func172.trans (congrArg some (by kernel_rfl))
 f32:=Tryz.func173.trans (congrArg some (by kernel_rfl))
 f33:=km Tryz.func245 (by kernel_rfl) (by kernel_rfl)
 f34:=km Tryz.func246 (by kernel_rfl) (by kernel_rfl)
 f35:=km Tryz.func247 (by kernel_rfl) (by kernel_rfl)
 f40:=km Tryz.func251 (by kernel_rfl) (by kernel_rfl)
 t0:=Tryz.underlying0
 a0:=Tryz.isAgg0
 z0:=Tryz.sizeOf0
 v0:=Tryz.zeroValue0
 t3:=Tryz.underlying3
 a3:=Tryz.isAgg3
 z3:=Tryz.sizeOf3
 v3:=Tryz.zeroValue3
 t4:=Tryz.underlying4
 a4:=Tryz.isAgg4
 z4:=Tryz.sizeOf4
 v4:=Tryz.zeroValue4
 t5:=Tryz.underlying5
 a5:=Tryz.isAgg5
 z5:=Tryz.sizeOf5
 v5:=Tryz.zeroValue5
 t9:=Tryz.underlying9
 a9:=Tryz.isAgg9
 z9:=Tryz.sizeOf9
 v9:=Tryz.zeroValue9
 t22:=Tryz.underlying58
 a22:=Tryz.isAgg58
 z22:=Tryz.sizeOf58
 v22:=Tryz.zeroValue58
 t23:=Tryz.underlying58
 a23:=Tryz.isAgg58
 z23:=Tryz.sizeOf58
 v23:=Tryz.zeroValue58
 t25:=Tryz.underlying3
 a25:=Tryz.isAgg3
 z25:=Tryz.sizeOf3
 v25:=Tryz.zeroValue3
 t32:=Tryz.underlying119
 a32:=Tryz.isAgg119
 z32:=Tryz.sizeOf119
 v32:=Tryz.zeroValue119
 t35:=Tryz.underlying196
 a35:=Tryz.isAgg196
 z35:=Tryz.sizeOf196
 v35:=Tryz.zeroValue196
 t36:=Tryz.underlying197
 a36:=Tryz.isAgg197
 z36:=Tryz.sizeOf197
 v36:=Tryz.zeroValue197
 t41:=Tryz.underlying202
 a41:=Tryz.isAgg202
 z41:=Tryz.sizeOf202
 v41:=Tryz.zeroValue202
 t44:=Tryz.underlying102
 a44:=Tryz.isAgg102
 z44:=Tryz.sizeOf102
 v44:=Tryz.zeroValue102
 t46:=Tryz.underlying206
 a46:=Tryz.isAgg206
 z46:=Tryz.sizeOf206
 v46:=Tryz.zeroValue206
 t53:=Tryz.underlying227
 a53:=Tryz.isAgg227
 z53:=Tryz.sizeOf227
 v53:=Tryz.zeroValue227
 t57:=Tryz.underlying231
 a57:=Tryz.isAgg231
 z57:=Tryz.sizeOf231
 v57:=Tryz.zeroValue231
 t63:=Tryz.underlying250
 a63:=Tryz.isAgg250
 z63:=Tryz.sizeOf250
 v63:=Tryz.zeroValue250
 t64:=Tryz.underlying154
 a64:=Tryz.isAgg154
 z64:=Tryz.sizeOf154
 v64:=Tryz.zeroValue154
 }
theorem gsorts(m:Nat):AnyZI.SortsIn Tryz.prog gdren Fence.wide m :=
 ⟨fun blk off cap ss W hH hblk hsz=>callsIn_wide.2 (AnyM.slices_Sort_int gmlays blk off cap ss W hH hblk hsz),
  fun p cap W=>callsIn_wide.2 (AnyM.slices_Sort_int_none gmlays p cap W)⟩
theorem gkeys_any(mb:Option Nat)(W:World):Calls Tryz.prog 152 #[.map mb] W fun e w'=>e= .returned (.func (.func 182) #[] #[.pointer (some ⟨W.heap.size,0,none⟩)])∧w'=W.alloc (.cells #[.map mb] 208) :=
 (callsIn_wide (n:=5)).1 (AnyZI.keys_in gklays Fence.wide 5 trivial rfl mb W)
theorem gsorted_any(b nn:Nat)(D0:DataW Unit)(w:World)(hown:w.ownsMap Tryz.prog 3 (unitElem (H:=Unit)) b nn D0)(hmax:Maps.size D0≤maxLen)(hbytes:Maps.size D0*8≤140737488355328)(w1:World)(hw1:w1=w.alloc (.cells #[.map (some b)] 208)) :
  Calls Tryz.prog 151 #[.func (.func 182) #[] #[.pointer (some ⟨w.heap.size,0,none⟩)]] w1 fun e w'=>∃(v:Value) (ss:List Int),e= .returned v∧ss.Perm (intKeys D0)∧
   w'.ownsRow w1.heap.size 3 1 v ss.length ((ss.mergeSort (fun x y=>decide (x≤y))).map encZ)∧(v= .slice none 0 0↔ss=[])∧Below w1.heap.size w1 w':=by
 subst hw1
 have hbl:=hown.lt
 have hseq:SeqGives Fence.wide 2 Tryz.prog 182 #[.pointer (some ⟨w.heap.size,0,none⟩)] encZ (fun ss=>ss.Perm (intKeys D0)) (Maps.size D0) (w.alloc (.cells #[.map (some b)] 208)) :=
  AnyZI.keys_gives (ρ:=gkren) { gklays with } Fence.wide _ trivial rfl (by omega) w.heap.size b nn D0 _ (by simp) (by simp) (by
   obtain⟨es,clock,hb,Ft,hs,hD⟩:=hown
   exact⟨es,clock,(Below.heap_alloc _ _ b hbl).trans hb,Ft,hs,hD⟩)
 exact(callsIn_wide (n:=5)).1 (AnyZI.sorted_in gdlays Fence.wide 5 trivial trivial trivial trivial rfl (by omega) (gsorts _) (enters_of Tryz.func181 (by kernel_rfl) rfl) 182 #[.pointer (some ⟨w.heap.size,0,none⟩)] trivial (enters_of Tryz.func182 (by kernel_rfl) rfl) _ _ hmax hbytes _ hseq)
end
end Go.Proofs.YtjfecojdagmacaaGreat
