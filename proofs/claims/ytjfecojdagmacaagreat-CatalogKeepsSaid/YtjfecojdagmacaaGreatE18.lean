/-
  Lemmas.
-/
import Derived.Test.YtjfecojdagmacaaGreatE17
import Derived.Shelf.Bytes.SlJoin
namespace Go.Proofs.YtjfecojdagmacaaGreat
open Go.RowKit
set_option maxRecDepth 20000
set_option maxHeartbeats 16000000
set_option linter.unusedSimpArgs false
set_option linter.unusedVariables false
theorem refSame2_v{w:World}{la lb:List (List Vl)}{c d:Nat}{A B:Option Addr}(h:ka w 0 w.heap.size A c la)(h2:ka w 0 w.heap.size B d lb) :
  Calls Tryz.prog 22 #[.slice A la.length c,.slice B lb.length d] w fun r w'=>r= .returned (.bool (decide (la=lb)))∧Below w.heap.size w w':=by
 obtain⟨hl,hm⟩:=h.len
 obtain⟨hl2,hm2⟩:=h2.len
 have H:Hid (∀W,Below w.heap.size w W→ka W 0 W.heap.size A c la):=fun W hW=>(h.below hW (qc _)).wide (qc _) hW.size
 have H2:Hid (∀W,Below w.heap.size w W→ka W 0 W.heap.size B d lb):=fun W hW=>(h2.below hW (qc _)).wide (qc _) hW.size
 obtain⟨v,hv⟩:∃v,decide (la=lb)=v:=⟨_,rfl⟩
 rw[hv]
 have HV:=qa hv
 clear h h2 hv
 go_enter Tryz.func22,Tryz.ntmps22
 by_cases hne:la.length=lb.length
 ·
  have in1:(la.length:Int)=(lb.length:Int):=by omega
  have HN:=qa hne
  obtain⟨n,hn⟩:∃n,lb.length=n:=⟨_,rfl⟩
  have HN2:Hid (la.length=n):=by unfold Hid;rw[hne,hn]
  have HN3:=qa hn
  rw[hne,hn]
  rw[hne] at hl
  rw[hn] at hl hl2
  clear hne in1 hn HN
  go_wp2_with fail
  go_loopw [5] (fun x wr=>∃i:Nat,i≤n∧x= .int .i64 (i:Int)∧Hid (la.take i=lb.take i)∧Below w.heap.size w wr) (fun x _=>n-(intOf x).toNat)
  case atStart=>exact⟨0,qj _,rfl,rfl,Below.refl _ _⟩
  case round =>
   obtain⟨i,hi,rfl,HT,hb⟩:=hrel
   have HB:=qa hb
   have hszr:=hb.size
   clear hb
   by_cases hlt:i<n
   ·
    have ii:(i:Int)<(n:Int):=by omega
    have ii0:(0:Int)≤(i:Int):=by omega
    have ha:i<la.length:=by rw[HN2.out];exact hlt
    have hb':i<lb.length:=by rw[HN3.out];exact hlt
    obtain⟨b,off,A2,c2,rfl,_,hbl,hcell,hrow⟩:=(H.out wr HB.out).get ha
    obtain⟨b2,off2,B2,d2,rfl,_,hbl2,hcell2,hrow2⟩:=(H2.out wr HB.out).get hb'
    have HXC:Hid (∀W,Below wr.heap.size wr W→W.cell? ⟨b,off+i,none⟩=some (.slice A2 la[i].length c2)∧W.cell? ⟨b2,off2+i,none⟩=some (.slice B2 lb[i].length d2)):=fun W hW=>⟨(hW.cell (p:=⟨b,off+i,none⟩) hbl).trans hcell,(hW.cell (p:=⟨b2,off2+i,none⟩) hbl2).trans hcell2⟩
    obtain⟨e,he⟩:∃e,decide (la[i]=lb[i])=e:=⟨_,rfl⟩
    have HSM:Hid (∀W,Below wr.heap.size wr W→Calls Tryz.prog 45 #[.slice A2 la[i].length c2,.slice B2 lb[i].length d2] W fun r w'=>r= .returned (.bool e)∧Below W.heap.size W w'):=fun W hW=>by
     refine(refSame_v _ _ ((hrow.below hW (qc _)).wide (qc _) hW.size) ((hrow2.below hW (qc _)).wide (qc _) hW.size)).mono ?_
     rw[he]
     rintro r w' ⟨h1,m,rfl⟩
     exact⟨h1,js (Below.refl _ _) m⟩
    have HE:=qa he
    clear hcell hcell2 hrow hrow2 he
    obtain⟨n1,hn1⟩:∃n1,la[i].length=n1:=⟨_,rfl⟩
    obtain⟨n2,hn2⟩:∃n2,lb[i].length=n2:=⟨_,rfl⟩
    rw[hn1,hn2] at HXC HSM
    clear hn1 hn2
    go_wp2_with fail
    have KD:Hid (Below wr.heap.size wr wr.drew):=(Below.refl _ _).drew
    refine wp_region_held_drew (S:=fun w'=>Below wr.heap.size wr w') (by kernel_rfl) KD.out (fun hHeld => ?_)
    refine tk 0 ?_ rfl hHeld ?_ ?_
    rotate_left
    focus (intro W hSw;obtain⟨q0,q1⟩:=HXC.out W hSw;go_simp;try with_reducible rfl)
    try simp only[jt,Act.put]
    refine tk 1 ?_ rfl hHeld ?_ ?_
    rotate_left
    focus (intro W hSw;obtain⟨q0,q1⟩:=HXC.out W hSw;go_simp;try with_reducible rfl)
    try simp only[jt,Act.put]
    refine tk 2 ?_ rfl hHeld ?_ ?_
    rotate_left
    focus (intro W hSw;obtain⟨q0,q1⟩:=HXC.out W hSw;go_simp;try with_reducible rfl)
    try simp only[jt,Act.put]
    refine tk 3 ?_ rfl hHeld ?_ ?_
    rotate_left
    focus (intro W hSw;obtain⟨q0,q1⟩:=HXC.out W hSw;go_simp;try with_reducible rfl)
    try simp only[jt,Act.put]
    refine tk 4 ?_ rfl hHeld ?_ ?_
    rotate_left
    focus (intro W hSw;obtain⟨q0,q1⟩:=HXC.out W hSw;go_simp;try with_reducible rfl)
    try simp only[jt,Act.put]
    refine tk 5 ?_ rfl hHeld ?_ ?_
    rotate_left
    focus (intro W hSw;obtain⟨q0,q1⟩:=HXC.out W hSw;go_simp;try with_reducible rfl)
    try simp only[jt,Act.put]
    refine tk 6 ?_ rfl hHeld ?_ ?_
    rotate_left
    focus (intro W hSw;obtain⟨q0,q1⟩:=HXC.out W hSw;go_simp;try with_reducible rfl)
    try simp only[jt,Act.put]
    refine tk 7 ?_ rfl hHeld ?_ ?_
    rotate_left
    focus (intro W hSw;obtain⟨q0,q1⟩:=HXC.out W hSw;go_simp;try with_reducible rfl)
    try simp only[jt,Act.put]
    obtain⟨wd,hwd⟩:∃q,wr.drew=q:=⟨_,rfl⟩
    rw[hwd] at hHeld ⊢
    clear KD hwd
    have K_wd:=qa hHeld
    refine wpAnyH_ready (rs:=[8]) (by kernel_rfl) (by simp) ?_
    refine qu (o:=_) rfl (fun K hK => ?_) q5
    go_simp
    refine(HSM.out _ K_wd.out).mono ?_
    rintro r v1 ⟨rfl,hb_v1⟩
    have s_v1:wd.heap.size≤v1.heap.size:=hb_v1.size
    have K_v1:Hid (Below wr.heap.size wr v1):=qa (K_wd.out.trans (hb_v1.mono K_wd.out.size))
    clear hb_v1
    refine hK.out _ _ K_v1.out (fun hHeld => ?_)
    clear hK K
    try simp only[jt,Act.put]
    refine tk 9 ?_ rfl hHeld ?_ ?_
    rotate_left
    focus (intro W hSw;obtain⟨q0,q1⟩:=HXC.out W hSw;go_simp;try with_reducible rfl)
    try simp only[jt,Act.put]
    refine wpAnyH_done (by kernel_rfl) ?_ _
    have KG:=K_v1
    cases e with
    | true =>
     have HT2:Hid (la.take (i+1)=lb.take (i+1)):=by unfold Hid;rw[qi ha,qi hb',HT.out,of_decide_eq_true HE.out]
     go_wp2_with fail
     go_roundw
     case rel=>exact⟨i+1,by omega,by go_num,HT2,HB.out.trans (KG.out.mono hszr)⟩
     case measure=>simp[intOf];omega
    | false =>
     have hvf:v=false:=by
      rw[←HV.out]
      refine qw fun h9=>of_decide_eq_false HE.out ?_
      subst h9
      rfl
     subst hvf
     go_wp2_with fail
     go_ret
     exact⟨rfl,HB.out.trans (KG.out.mono hszr)⟩
   ·
    have ii:¬(i:Int)<(n:Int):=by omega
    have hvt:v=true:=by
     rw[←HV.out]
     refine qx ?_
     have:=HT.out
     have e1:i=n:=by omega
     rwa [qp (by rw[HN2.out];omega),qp (by rw[HN3.out];omega)] at this
    subst hvt
    go_wp2_with fail
    go_ret
    exact⟨rfl,HB.out⟩
 ·
  have in1:¬(la.length:Int)=(lb.length:Int):=by omega
  have in1b:((la.length:Int) != (lb.length:Int))=true:=by rw[bne_iff_ne];exact in1
  have hvt:v=false:=by
   rw[←HV.out]
   exact qw fun e=>hne (by rw[e])
  subst hvt
  clear hne
  go_wp2_with fail
  go_ret
  exact⟨rfl,Below.refl _ _⟩
def qek(w:World)(lo hi:Nat)(xs:List Value)(rs:List (List Vl)):Prop:=xs.length=rs.length∧∀j (hj:j<rs.length),∃A c,xs[j]? = some (.slice A rs[j].length c)∧Row w lo hi A c rs[j]
theorem qek.below{w w':World}{lo hi B:Nat}{xs:List Value}{rs:List (List Vl)}(h:qek w lo hi xs rs)(hb:Below B w w')(hB:hi≤B):qek w' lo hi xs rs:=⟨h.1,fun j hj=>by
 obtain⟨A,c,h1,h2⟩:=h.2 j hj
 exact⟨A,c,h1,h2.below hb hB⟩⟩
theorem qek.append{w:World}{lo hi:Nat}{xs ys:List Value}{rs ts:List (List Vl)}(h:qek w lo hi xs rs)(k:qek w lo hi ys ts):qek w lo hi (xs++ys) (rs++ts):=by
 refine⟨by rw[qd,qd,h.1,k.1],fun j hj => ?_⟩
 by_cases hlt:j<rs.length
 ·
  rw[ju (by rw[h.1];exact hlt)]
  simp only[j6 hlt]
  exact h.2 j hlt
 ·
  rw[qd] at hj
  rw[yl (by rw[h.1];omega),h.1]
  simp only[xh (show rs.length≤j by omega)]
  exact k.2 (j-rs.length) (by omega)
theorem qek.one{w:World}{lo hi:Nat}{xs:List Value}{rs:List (List Vl)}(h:qek w lo hi xs rs):∀u∈xs,u.oneCell'=true:=by
 intro u hu
 obtain⟨j,hj,rfl⟩:=zl hu
 obtain⟨A,c,h1,_⟩:=h.2 j (by rw[←h.1];exact hj)
 rw[qe hj] at h1
 rw[zy h1]
 rfl
theorem ka.cells{w:World}{lo hi c:Nat}{A:Option Addr}{rs:List (List Vl)}(h:ka w lo hi A c rs):∃xs,Rd w lo hi A c xs∧qek w lo hi xs rs:=by
 obtain⟨rA,rc,h1,h2⟩:=h
 obtain⟨xs,hx,hxs⟩:=qhf (n:=rs.length) (Q:=fun j x=>x=Value.slice (rA j) ((rs[j]?).getD []).length (rc j)) fun j hj=>⟨_,rfl⟩
 refine⟨xs,⟨by rw[hx];exact h1.len,h1.cap,fun hp => ?_⟩,hx,fun j hj=>⟨rA j,rc j,?_,h2 j hj⟩⟩
 ·
  obtain⟨b,off,e,h3,h4,h5⟩:=h1.lies (by omega)
  refine⟨b,off,e,h3,h4,fun j u hu => ?_⟩
  have hj:j<xs.length:=(zt.1 hu).1
  have h6:=h5 j (by omega) 0 (by omega)
  rw[xl,y7,qe (by omega)] at h6
  rw[qe hj,hxs j hj,qe (by omega)] at hu
  rw[h6,←zy hu]
  rfl
 ·
  rw[qe (by omega),hxs j (by omega),qe hj]
  rfl
theorem qek.rows{w:World}{lo hi c:Nat}{A:Option Addr}{xs:List Value}{rs:List (List Vl)}(h:qek w lo hi xs rs)(hr:Rd w lo hi A c xs):ka w lo hi A c rs:=by
 obtain⟨ps,hp,hps⟩:=qhf (n:=rs.length) (Q:=fun j (q:Option Addr×Nat)=>∀hj:j<rs.length,xs[j]? = some (.slice q.1 rs[j].length q.2)∧Row w lo hi q.1 q.2 rs[j]) fun j hj=>by
  obtain⟨A',c',h1,h2⟩:=h.2 j hj
  exact⟨(A',c'),fun _=>⟨h1,h2⟩⟩
 refine⟨fun j=>(ps[j]?).bind (·.1),fun j=>((ps[j]?).map (·.2)).getD 0,⟨by rw[←h.1];exact hr.len,hr.cap,fun hq => ?_⟩,fun j hj => ?_⟩
 ·
  obtain⟨b,off,e,h3,h4,h5⟩:=hr.at_ (by rw[h.1];exact hq)
  refine⟨b,off,e,h3,h4,fun j hj i hi => ?_⟩
  have hi0:i=0:=by omega
  subst hi0
  have h6:=(hps j (by omega) hj).1
  have h7:=h5 j _ h6
  rw[xl,y7,h7]
  simp[qe hj,qe (show j<ps.length by omega)]
 ·
  have h6:=(hps j (by omega) hj).2
  simpa[qe (show j<ps.length by omega)] using h6
theorem Tryz.infoRow:(Tryz.prog.info? 73).map (fun i=>(i.zero,i.size,i.bytes))=some (some (.slice none 0 0),1,24):=by kernel_rfl
theorem append_rows{w:World}{base n:Nat}{v:Value}{xs:List Value}(hown:w.ownsRow base 73 1 v n xs){lo hi c:Nat}{A:Option Addr}{ys:List Value}(hr:Rd w lo hi A c ys)(h1:∀u∈ys,u.oneCell'=true){m:Nat}(hm:ys.length=m)(hb:n+m≤1000000)(hbase:base≤w.heap.size) :
  ∃A' c' w',(Builtin.append_ #[28,28] 28 #[v,.slice A m c]).run Tryz.prog w= .ok (.slice A' (n+m) c') w'∧w'.ownsRow base 73 1 (.slice A' (n+m) c') (n+m) (xs++ys)∧w.grownBy w' v.ownBlock:=by
 subst hm
 obtain⟨i0,hi0,hz0,hz1,hz2⟩:=info_parts Tryz.infoRow
 obtain⟨A',c',w',hrun,h2,h3,_⟩:=ky (P:=Tryz.prog) w base 28 28 73 i0 _ 24 Tryz.underlying28 hi0 hz0 hz1 hz2 rfl v n xs hown lo hi A c ys hr h1 (by simp only[maxLen];omega) (by omega) hbase
 exact⟨A',c',w',hrun,h2,h3⟩
theorem refAll_v{w:World}{gs:List (List (List Vl))}{c:Nat}{A:Option Addr}(h:qbg w 0 w.heap.size A c gs)(hn:vo gs≤1000000){n:Nat}(hfl:gs.flatten.length=n) :
  Calls Tryz.prog 29 #[.slice A gs.length c] w fun r w'=>∃A' c',r= .returned (.slice A' n c')∧ka w' 0 w'.heap.size A' c' gs.flatten∧Below w.heap.size w w':=by
 obtain⟨hl,hm⟩:=h.len
 have H:Hid (∀W,Below w.heap.size w W→qbg W 0 w.heap.size A c gs):=fun W hW=>h.below hW (qc _)
 have HRN:Hid (∀i,i≤gs.length→((gs.take i).flatten).length=vo (gs.take i)∧vo (gs.take i)≤1000000):=fun i hi=>⟨by rw[List.length_flatten];rfl,zc (qh9 gs i) hn⟩
 have HFL:=qa hfl
 clear h hn hfl
 go_enter Tryz.func29,Tryz.ntmps29
 go_wp2_with fail
 go_loopw [3,4] (fun x5 x6 wr=>∃(i p:Nat) (A':Option Addr) (c':Nat) (xs:List Value),i≤gs.length∧x6= .int .i64 (i:Int)∧x5= .slice A' p c'∧Hid ((gs.take i).flatten.length=p)∧Hid (wr.ownsRow w.heap.size 73 1 (.slice A' p c') p xs)∧Hid (qek wr 0 w.heap.size xs (gs.take i).flatten)∧Below w.heap.size w wr) (fun _ x6 _=>gs.length-(intOf x6).toNat)
 case atStart=>exact⟨0,0,none,0,[],qj _,rfl,rfl,rfl,zj _ _ _ _,⟨rfl,fun j hj=>absurd hj (jm j)⟩,Below.refl _ _⟩
 case round =>
  obtain⟨i,p,A',c',xs,hi,rfl,rfl,HP,HO,HX,hb⟩:=hrel
  have HB:=qa hb
  have hszr:=hb.size
  clear hb
  by_cases hlt:i<gs.length
  ·
   have ii:(i:Int)<(gs.length:Int):=by omega
   have ii0:(0:Int)≤(i:Int):=by omega
   obtain⟨b,off,A2,c2,rfl,_,hbl,hcell,hrows⟩:=(H.out wr HB.out).get hlt
   obtain⟨ys,hry,hys⟩:=hrows.cells
   have hpm:p+gs[i].length≤1000000:=by
    have h1:=(HRN.out i (by omega)).1
    have h2:=(HRN.out (i+1) (by omega)).2
    rw[qdt hlt] at h2
    have:=HP.out
    omega
   obtain⟨A5,c5,w5,hrun,ho5,hg5⟩:=append_rows HO.out hry hys.one hys.1 hpm hszr
   have hblk:∀q,(Value.slice A' p c').ownBlock=some q→w.heap.size≤q:=fun q hq=>(zk HO.out hq).1
   have HB5:Hid (Below w.heap.size w w5):=HB.out.grown hg5 hszr hblk
   have B5:Below w.heap.size wr w5:=(Below.refl _ _).grown hg5 hszr hblk
   have hft:(gs.take (i+1)).flatten=(gs.take i).flatten++gs[i]:=by
    rw[qi hlt,List.flatten_append]
    simp
   have HX5:Hid (qek w5 0 w.heap.size (xs++ys) (gs.take (i+1)).flatten):=by
    unfold Hid
    rw[hft]
    exact(HX.out.below B5 (qc _)).append (hys.below B5 (qc _))
   have HP5:Hid ((gs.take (i+1)).flatten.length=p+gs[i].length):=by
    unfold Hid
    rw[hft,qd,HP.out]
   have HO5:=qa ho5
   obtain⟨hcl2,hcm2⟩:=hrows.len
   obtain⟨n2,hn2⟩:∃n2,gs[i].length=n2:=⟨_,rfl⟩
   rw[hn2] at hrun hcell HP5 HO5 hcl2
   clear hry hys hrows hpm ho5 hg5 hblk B5 hft hn2 HX HP
   go_wp2_with (at_builtin;refine wpList_append_run rfl _ _ _ _ rfl rfl rfl hrun ?_)
   go_roundw
   case rel=>exact⟨i+1,_,A5,c5,_,by omega,by go_num,rfl,HP5,HO5,HX5,HB5.out⟩
   case measure=>simp[intOf];omega
  ·
   have ii:¬(i:Int)<(gs.length:Int):=by omega
   have HF:Hid (gs.take i=gs):=qp (by omega)
   rw[HF.out] at HP HX
   have HR:Hid (ka wr 0 wr.heap.size A' c' gs.flatten):=by
    have h1:=(Rd.of_own HO.out).wide (qj _) (qc wr.heap.size)
    obtain⟨h2,h3⟩:=HX.out
    exact qek.rows ⟨h2,fun j hj=>by
     obtain⟨A9,c9,h4,h5⟩:=h3 j hj
     exact⟨A9,c9,h4,h5.wide (qc _) hszr⟩⟩ h1
   obtain rfl:p=n:=HP.out.symm.trans HFL.out
   go_wp2_with fail
   go_ret
   exact⟨_,_,rfl,HR.out,HB.out⟩
def qel(L:List Vl):Nat:=(L.map (·.s.size)).sum
theorem sumV_take{L:List Vl}{k:Nat}(h:k<L.length):qel (L.take (k+1))=qel (L.take k)+L[k].s.size:=by
 unfold qel
 rw[qi h,jg,qcj]
 simp
def qjc(g:List (List Vl)):Nat:=(g.map qel).sum
theorem sumQ_take{g:List (List Vl)}{i:Nat}(h:i<g.length):qjc (g.take (i+1))=qjc (g.take i)+qel g[i]:=by
 unfold qjc
 rw[qi h,jg,qcj]
 simp
def qjr(gs:List (List (List Vl))):Nat:=(gs.map qjc).sum
theorem sumA_take{gs:List (List (List Vl))}{i:Nat}(h:i<gs.length):qjr (gs.take (i+1))=qjr (gs.take i)+qjc gs[i]:=by
 unfold qjr
 rw[qi h,jg,qcj]
 simp
theorem sumV_bd{M:Nat}:∀ {r:List Vl},(∀v∈r,v.s.size≤M)→qel r≤r.length*M
 | [],_=>qj _
 | v :: r,h=>by
  have h1:=sumV_bd (r:=r) fun x hx=>h x (jb _ hx)
  have h2:=h v zr
  show v.s.size+qel r≤(r.length+1)*M
  rw[Nat.add_mul]
  omega
theorem sumQ_bd{M:Nat}:∀ {g:List (List Vl)},(∀r∈g,qel r≤M)→qjc g≤g.length*M
 | [],_=>qj _
 | v :: r,h=>by
  have h1:=sumQ_bd (g:=r) fun x hx=>h x (jb _ hx)
  have h2:=h v zr
  show qel v+qjc r≤(r.length+1)*M
  rw[Nat.add_mul]
  omega
def SizedG(gs:List (List (List Vl))):Prop:=∀g∈gs,g.length≤140737488355328∧∀r∈g,r.length≤140737488355328∧∀v∈r,v.s.size≤140737488355328
structure FewSg (gs:List (List (List Vl))) (os:List Co):Prop where
 groups:gs.length≤40
 cods:os.length≤12
 rows:vo gs≤60
 bytes:qjr gs≤3000
 cols:∀g∈gs,∀r∈g,r.length≤9
 draws:∀o∈os,o.draws.length≤60
def qee(gs:List (List (List Vl)))(os:List Co)(r:Ending):Prop:=∃b,r= .returned (.bool b)∧(b=true→FewSg gs os)
theorem qee.no(gs:List (List (List Vl)))(os:List Co):qee gs os (.returned (.bool false)):=⟨false,rfl,fun h=>by cases h⟩
theorem refFewSg_v{w:World}{gs:List (List (List Vl))}{os:List Co}{A B:Option Addr}{c d:Nat}(h:qbg w 0 w.heap.size A c gs)(ho:qb8 w 0 w.heap.size B d os)(hz:SizedG gs) :
  Calls Tryz.prog 26 #[.slice A gs.length c,.slice B os.length d] w fun r w'=>qee gs os r∧w=w':=by
 obtain⟨hl,hm⟩:=h.len
 obtain⟨hl2,hm2⟩:=ho.len
 have H:=qa h
 have HO:=qa ho
 have HZ:Hid (∀i (hi:i<gs.length),gs[i].length≤140737488355328∧∀j (hj:j<gs[i].length),gs[i][j].length≤140737488355328∧∀v∈gs[i][j],v.s.size≤140737488355328):=fun i hi=>⟨(hz _ (ql hi)).1,fun j hj=>(hz _ (ql hi)).2 _ (ql hj)⟩
 clear h ho hz
 go_enter Tryz.func26,Tryz.ntmps26
 go_wp2_with fail
 go_loopw [5,6,7] (fun x5 x6 x7 wr=>∃(g n z:Nat),g≤gs.length∧g≤50∧x7= .int .i64 (g:Int)∧x5= .int .i64 (n:Int)∧x6= .int .i64 (z:Int)∧Hid (n=vo (gs.take g))∧Hid (z=qjr (gs.take g))∧n≤60∧z≤3000∧Hid (∀i (hi:i<gs.length),i<g→∀r∈gs[i],r.length≤9)∧w=wr) (fun _ _ x7 _=>gs.length-(intOf x7).toNat)
 case atStart=>exact⟨0,0,0,qj _,by omega,rfl,rfl,rfl,rfl,rfl,by omega,by omega,fun i hi h0=>absurd h0 (jm i),rfl⟩
 case round =>
  obtain⟨g,n,z,hg,hg50,rfl,rfl,rfl,HN,HS,hn60,hz3,HC,rfl⟩:=hrel
  by_cases hlt:g<gs.length
  ·
   have ig:(g:Int)<(gs.length:Int):=by omega
   have ig0:(0:Int)≤(g:Int):=by omega
   by_cases h50:g<50
   ·
    have i50:(g:Int)<50:=by omega
    obtain⟨b,off,A1,c1,rfl,_,hbl,hcell,hrows⟩:=H.out.get hlt
    have HRW:=qa hrows
    obtain⟨hz1,hz2⟩:=HZ.out g hlt
    have HZ2:=qa hz2
    have HNT:=qa (qdt hlt)
    have HST:=qa (sumA_take hlt)
    obtain⟨hrl,hrm⟩:=hrows.len
    obtain⟨G,hG⟩:∃G,gs[g]=G:=⟨_,rfl⟩
    have HG:=qa hG
    rw[hG] at hcell HRW hz1 HNT HST hrl
    obtain⟨gl,hgl⟩:∃gl,G.length=gl:=⟨_,rfl⟩
    have HGL:=qa hgl
    rw[hgl] at hcell hz1 hrl
    have hwn:IntKind.i64.wrap ((n:Int)+(gl:Int))=((n+gl:Nat):Int):=by rw[xa _ (by omega)];omega
    clear hz2 hrows hG hgl
    by_cases h60:n+gl≤60
    ·
     have i60:¬(60:Int)<((n+gl:Nat):Int):=by omega
     obtain⟨nn,hnn⟩:∃nn,n+gl=nn:=⟨_,rfl⟩
     rw[hnn] at hwn i60
     have HNN:=qa hnn
     clear hnn
     go_wp2_with fail
     go_loopw [6,8] (fun x6 x8 wr=>∃(i y:Nat),i≤gl∧x8= .int .i64 (i:Int)∧x6= .int .i64 (y:Int)∧Hid (y=z+qjc (G.take i))∧Hid (∀j (hj:j<G.length),j<i→G[j].length≤9)∧w=wr) (fun _ x8 _=>gl-(intOf x8).toNat)
     case atStart=>exact⟨0,z,qj _,rfl,rfl,rfl,fun j hj h0=>absurd h0 (jm j),rfl⟩
     case round =>
      obtain⟨i,y,hi,rfl,rfl,HY,HC2,rfl⟩:=hrel
      by_cases hil:i<gl
      ·
       have ii:(i:Int)<(gl:Int):=by omega
       have ii0:(0:Int)≤(i:Int):=by omega
       have hiG:i<G.length:=by rw[HGL.out];exact hil
       obtain⟨b2,off2,A2,c2,rfl,_,hbl2,hcell2,hrow⟩:=HRW.out.get hiG
       have HR:=qa hrow
       obtain⟨hrl2,hrm2⟩:=hrow.len
       have HGT:=qa (sumQ_take hiG)
       have hzr:G[i].length≤140737488355328∧∀v∈G[i],v.s.size≤140737488355328:=by
        have:=HZ2.out i (by rw[HG.out];exact hiG)
        simpa[HG.out] using this
       have HZR:=qa hzr.2
       have HBD:Hid (qjc (G.take i)≤60*(9*140737488355328)):=by
        have h1:∀r∈G.take i,qel r≤9*140737488355328:=fun r hr=>by
         obtain⟨j,hj,rfl⟩:=zl hr
         rw[qy] at hj
         have hjG:j<G.length:=by omega
         rw[qag]
         have h9:=HC2.out j hjG (by omega)
         have h3:∀v∈G[j],v.s.size≤140737488355328:=by
          have:=(HZ2.out j (by rw[HG.out];exact hjG)).2
          simpa[HG.out] using this
         exact zc (sumV_bd h3) (vf _ h9)
        refine zc (sumQ_bd h1) (vf _ ?_)
        rw[qy]
        have:=HNN.out
        omega
       obtain⟨R,hR⟩:∃R,G[i]=R:=⟨_,rfl⟩
       have HRE:=qa hR
       rw[hR] at hcell2 HR hrl2 HGT HZR
       obtain⟨rl,hrl3⟩:∃rl,R.length=rl:=⟨_,rfl⟩
       have HRL:=qa hrl3
       rw[hrl3] at hcell2 hrl2
       clear hrow hzr hR hrl3
       by_cases h9:rl≤9
       ·
        have i9:¬(9:Int)<(rl:Int):=by omega
        have HCN:Hid (∀j (hj:j<G.length),j<i+1→G[j].length≤9):=fun j hj hj2=>by
         by_cases e:j=i
         ·
          subst e
          rw[HRE.out,HRL.out]
          exact h9
         ·
          exact HC2.out j hj (by omega)
        clear HC2
        go_wp2_with fail
        go_loopw [6,9] (fun x6 x9 wr=>∃(k u:Nat),k≤rl∧x9= .int .i64 (k:Int)∧x6= .int .i64 (u:Int)∧Hid (u=y+qel (R.take k))∧w=wr) (fun _ x9 _=>rl-(intOf x9).toNat)
        case atStart=>exact⟨0,y,qj _,rfl,rfl,rfl,rfl⟩
        case round =>
         obtain⟨k,u,hk,rfl,rfl,HU,rfl⟩:=hrel
         by_cases hkl:k<rl
         ·
          have ik:(k:Int)<(rl:Int):=by omega
          have ik0:(0:Int)≤(k:Int):=by omega
          have hkR:k<R.length:=by rw[HRL.out];exact hkl
          obtain⟨b3,off3,rfl,_,hbl3,hx0,hx1⟩:=HR.out.get hkR
          have HVT:=qa (sumV_take hkR)
          have hsz:=HZR.out _ (ql hkR)
          have hbk:qel (R.take k)≤9*140737488355328:=by
           refine zc (sumV_bd (M:=140737488355328) fun v hv=>HZR.out v (vg hv)) (vf _ ?_)
           rw[qy]
           omega
          obtain⟨u2,hu2⟩:∃u2,u+R[k].s.size=u2:=⟨_,rfl⟩
          have hwu:IntKind.i64.wrap ((u:Int)+(R[k].s.size:Int))=(u2:Int):=by
           have h1:=HU.out
           have h2:=HY.out
           have h3:=HBD.out
           rw[xa _ (by omega)]
           omega
          have HU2:Hid (u2=y+qel (R.take (k+1))):=by
           unfold Hid
           rw[←hu2,HU.out,HVT.out]
           omega
          clear hsz hbk HVT hu2
          generalize R[k].null=nb at *
          generalize R[k].s=s at *
          go_wp2_with fail
          go_roundw
          case rel=>exact⟨k+1,u2,by omega,by go_num,rfl,HU2,by first | exact trivial | rfl⟩
          case measure=>simp[intOf];omega
         ·
          have ik:¬(k:Int)<(rl:Int):=by omega
          have HUE:Hid (u=z+qjc (G.take (i+1))):=by
           unfold Hid
           have ht:R.take k=R:=qp (by rw[HRL.out];omega)
           rw[HU.out,ht,HY.out,HGT.out]
           omega
          go_wp2_with fail
          go_roundw
          case rel=>exact⟨i+1,u,by omega,by go_num,rfl,HUE,HCN,by first | exact trivial | rfl⟩
          case measure=>simp[intOf];omega
       ·
        have i9:(9:Int)<(rl:Int):=by omega
        go_wp2_with fail
        go_ret
        exact⟨qee.no gs os,rfl⟩
      ·
       have ii:¬(i:Int)<(gl:Int):=by omega
       have HYE:Hid (y=qjr (gs.take (g+1))):=by
        unfold Hid
        have ht:G.take i=G:=qp (by rw[HGL.out];omega)
        rw[HY.out,ht,HST.out,←HS.out]
       have HNE:Hid (nn=vo (gs.take (g+1))):=by
        unfold Hid
        rw[HNT.out,←HN.out,HGL.out,HNN.out]
       have HCE:Hid (∀i (hi:i<gs.length),i<g+1→∀r∈gs[i],r.length≤9):=fun q hq hq2 r hr=>by
        by_cases e:q=g
        ·
         subst e
         rw[HG.out] at hr
         obtain⟨j,hj,rfl⟩:=zl hr
         exact HC2.out j hj (by have:=HGL.out;omega)
        ·
         exact HC.out q hq (by omega) r hr
       by_cases h3:y≤3000
       ·
        have i3:¬(3000:Int)<(y:Int):=by omega
        have hn2:nn≤60:=by have:=HNN.out;omega
        clear HC HN HS
        go_wp2_with fail
        go_roundw
        case rel=>exact⟨g+1,nn,y,by omega,by omega,by go_num,rfl,rfl,HNE,HYE,hn2,h3,HCE,by first | exact trivial | rfl⟩
        case measure=>simp[intOf];omega
       ·
        have i3:(3000:Int)<(y:Int):=by omega
        go_wp2_with fail
        go_ret
        exact⟨qee.no gs os,rfl⟩
    ·
     have i60:(60:Int)<((n+gl:Nat):Int):=by omega
     obtain⟨nn,hnn⟩:∃nn,n+gl=nn:=⟨_,rfl⟩
     rw[hnn] at hwn i60
     clear hnn
     go_wp2_with fail
     go_ret
     exact⟨qee.no gs os,rfl⟩
   ·
    have i50:¬(g:Int)<50:=by omega
    have i40:¬(gs.length:Int)≤40:=by omega
    go_wp2_with fail
    go_loopw [10] (fun x wr=>∃i:Nat,i≤os.length∧i≤20∧x= .int .i64 (i:Int)∧w=wr) (fun x _=>os.length-(intOf x).toNat)
    case atStart=>exact⟨0,qj _,by omega,rfl,rfl⟩
    case round =>
     obtain⟨i,hi,hi20,rfl,rfl⟩:=hrel
     by_cases hil:i<os.length
     ·
      have ii:(i:Int)<(os.length:Int):=by omega
      have ii0:(0:Int)≤(i:Int):=by omega
      by_cases h20:i<20
      ·
       have i20:(i:Int)<20:=by omega
       obtain⟨b9,off9,A9,c9,rfl,_,hbl9,e0,e1,e2,e3,hrd, -⟩:=HO.out.get hil
       obtain⟨dl,hdl⟩:∃dl,os[i].draws.length=dl:=⟨_,rfl⟩
       have HDL:=qa hdl
       have hrl:=hrd.len
       rw[yd] at hrl
       rw[hdl] at e3 hrl
       clear hrd hdl e0 e1 e2
       by_cases h60:dl≤60
       ·
        have i60:¬(60:Int)<(dl:Int):=by omega
        go_wp2_with fail
        go_roundw
        case rel=>exact⟨i+1,by omega,by omega,by go_num,by first | exact trivial | rfl⟩
        case measure=>simp[intOf];omega
       ·
        have i60:(60:Int)<(dl:Int):=by omega
        go_wp2_with fail
        go_ret
        exact⟨qee.no gs os,rfl⟩
      ·
       have i20:¬(i:Int)<20:=by omega
       go_wp2_with fail
       go_ret
       exact⟨qee.no gs os,rfl⟩
     ·
      have ii:¬(i:Int)<(os.length:Int):=by omega
      go_wp2_with fail
      go_ret
      exact⟨qee.no gs os,rfl⟩
  ·
   have ig:¬(g:Int)<(gs.length:Int):=by omega
   go_wp2_with fail
   go_loopw [10] (fun x wr=>∃i:Nat,i≤os.length∧i≤20∧x= .int .i64 (i:Int)∧Hid (∀j (hj:j<os.length),j<i→os[j].draws.length≤60)∧w=wr) (fun x _=>os.length-(intOf x).toNat)
   case atStart=>exact⟨0,qj _,by omega,rfl,fun j hj h0=>absurd h0 (jm j),rfl⟩
   case round =>
    obtain⟨i,hi,hi20,rfl,HD,rfl⟩:=hrel
    by_cases hil:i<os.length
    ·
     have ii:(i:Int)<(os.length:Int):=by omega
     have ii0:(0:Int)≤(i:Int):=by omega
     by_cases h20:i<20
     ·
      have i20:(i:Int)<20:=by omega
      obtain⟨b9,off9,A9,c9,rfl,_,hbl9,e0,e1,e2,e3,hrd, -⟩:=HO.out.get hil
      obtain⟨dl,hdl⟩:∃dl,os[i].draws.length=dl:=⟨_,rfl⟩
      have HDL:=qa hdl
      have hrl:=hrd.len
      rw[yd] at hrl
      rw[hdl] at e3 hrl
      clear hrd hdl e0 e1 e2
      by_cases h60:dl≤60
      ·
       have i60:¬(60:Int)<(dl:Int):=by omega
       have HDN:Hid (∀j (hj:j<os.length),j<i+1→os[j].draws.length≤60):=fun j hj hj2=>by
        by_cases e:j=i
        ·
         subst e
         rw[HDL.out]
         exact h60
        ·
         exact HD.out j hj (by omega)
       go_wp2_with fail
       go_roundw
       case rel=>exact⟨i+1,by omega,by omega,by go_num,HDN,by first | exact trivial | rfl⟩
       case measure=>simp[intOf];omega
      ·
       have i60:(60:Int)<(dl:Int):=by omega
       go_wp2_with fail
       go_ret
       exact⟨qee.no gs os,rfl⟩
     ·
      have i20:¬(i:Int)<20:=by omega
      have i12:¬(os.length:Int)≤12:=by omega
      by_cases h40:gs.length≤40
      ·
       have i40:(gs.length:Int)≤40:=by omega
       go_wp2_with fail
       go_ret
       exact⟨qee.no gs os,rfl⟩
      ·
       have i40:¬(gs.length:Int)≤40:=by omega
       go_wp2_with fail
       go_ret
       exact⟨qee.no gs os,rfl⟩
    ·
     have ii:¬(i:Int)<(os.length:Int):=by omega
     by_cases h40:gs.length≤40
     ·
      have i40:(gs.length:Int)≤40:=by omega
      by_cases h12:os.length≤12
      ·
       have i12:(os.length:Int)≤12:=by omega
       have HF:Hid (gs.take g=gs):=qp (by omega)
       have HFG:Hid (FewSg gs os):=⟨h40,h12,by rw[←HF.out,←HN.out];exact hn60,by rw[←HF.out,←HS.out];exact hz3,fun q hq r hr=>by
        obtain⟨j,hj,rfl⟩:=zl hq
        exact HC.out j hj (by omega) r hr,fun o ho=>by
        obtain⟨j,hj,rfl⟩:=zl ho
        exact HD.out j hj (by omega)⟩
       go_wp2_with fail
       go_ret
       exact⟨⟨true,rfl,fun _=>HFG.out⟩,rfl⟩
      ·
       have i12:¬(os.length:Int)≤12:=by omega
       go_wp2_with fail
       go_ret
       exact⟨qee.no gs os,rfl⟩
     ·
      have i40:¬(gs.length:Int)≤40:=by omega
      go_wp2_with fail
      go_ret
      exact⟨qee.no gs os,rfl⟩
section
set_option maxRecDepth 100000
def renJ:Go.Shelf.Ren:=⟨fun | 14=>224 | 15=>241 | n=>n,fun | 0=>0 | 3=>3 | 4=>4 | 5=>5 | 9=>9 | 20=>20 | 22=>36 | 26=>39 | n=>n,fun n=>n⟩
theorem laysJ14:Go.Proofs.SlLaysJ.n14 Tryz.prog renJ:={
 mixed:=by kernel_rfl
 f14:=Tryz.func224.trans (congrArg some (by kernel_rfl))
 f15:=Tryz.func241.trans (congrArg some (by kernel_rfl))
 t0:=Tryz.underlying0
 a0:=Tryz.isAgg0
 z0:=Tryz.sizeOf0
 v0:=Tryz.zeroValue0
 t3:=Tryz.underlying3
 a3:=Tryz.isAgg3
 z3:=Tryz.sizeOf3
 v3:=Tryz.zeroValue3
 t4:=Tryz.underlying4
 a4:=Tryz.isAgg4
 z4:=Tryz.sizeOf4
 v4:=Tryz.zeroValue4
 t9:=Tryz.underlying9
 a9:=Tryz.isAgg9
 z9:=Tryz.sizeOf9
 v9:=Tryz.zeroValue9
 t20:=Tryz.underlying20
 a20:=Tryz.isAgg20
 z20:=Tryz.sizeOf20
 v20:=Tryz.zeroValue20
 t22:=Tryz.underlying36
 a22:=Tryz.isAgg36
 z22:=Tryz.sizeOf36
 v22:=Tryz.zeroValue36
 t26:=Tryz.underlying39
 a26:=Tryz.isAgg39
 z26:=Tryz.sizeOf39
 v26:=Tryz.zeroValue39
 t5:=Tryz.underlying5
 z5:=Tryz.sizeOf5
 i5:=Tryz.infoU8 }
theorem join_flat(xs:List (List UInt8)):Lib.join xs []=xs.flatten:=by
 cases xs with
 | nil=>rfl
 | cons x r=>rw[Lib.join_cons,Lib.joinTail];simp
theorem lens_flat(xs:List (List UInt8)):Lib.lens xs=xs.flatten.length:=by simp[Lib.lens,List.length_flatten]
theorem qf2(ps:List Part):(qi6 ps).flatten=yg ps:=by simp[qi6,yg,List.flatMap]
theorem fresh_rd{B:Nat}{w':World}{v:Value}{l:List UInt8}(h:Lib.FreshBytes B w' v l):∃A' c',v= .slice A' l.length c'∧Rd w' B w'.heap.size A' c' (bv l):=by
 obtain⟨g,cap,zs,rfl,hB,hl,hc,hz,h256,hb,hcell,_⟩:=h
 refine⟨_,cap,rfl,⟨by rw[jj];exact hl,hc,fun hp => ?_⟩⟩
 rw[jj] at hp
 have h0:=hcell 0 (by omega)
 refine⟨g,0,rfl,hB,km w' _ h0,fun j u hu => ?_⟩
 have hj:j<l.length:=by
  have:=(zt.1 hu).1
  rwa [jj] at this
 rw[qgt l j hj] at hu
 cases hu
 have h1:=hcell j (by omega)
 rw[yk,h1]
 have hzj:j<zs.length:=by omega
 have e1:l[j]? = some (UInt8.ofNat zs[j].toNat):=by
  rw[←hb,Lib.bytesOf,qah,uo,if_pos hj,qe hzj]
  rfl
 rw[qe hj] at e1
 have e2:=zy e1
 have h2:=h256 zs[j] (ql hzj)
 rw[j7,qe hzj,e2]
 congr 2
 simp
 omega
theorem bjoin_any{w:World}(ps:List Part){lo hi c:Nat}{A:Option Addr}(h:Rd w lo hi A c (pv ps))(hp:qm3 w lo hi ps)(hn:ps.length≤1000000)(hb:(yg ps).length≤100000000000) :
  Calls Tryz.prog 224 #[.slice A ps.length c,.slice none 0 0] w fun r w'=>∃A' c',r= .returned (.slice A' (yg ps).length c')∧Rd w' w.heap.size w'.heap.size A' c' (bv (yg ps))∧Below w.heap.size w w':=by
 have hl:=h.len
 rw[qdc] at hl
 match ps,h,hp,hn,hb,hl with
 | [],h,hp,hn,hb,hl =>
  refine(Any.bytes_Join_none laysJ14 A c (.slice none 0 0) w).mono ?_
  rintro r w' ⟨rfl,rfl⟩
  exact⟨_,0,rfl,Rd.empty _ _ _ _ _ (by simp[maxLen]),(Below.refl _ _).alloc (qc _) _⟩
 | [p],h,hp,hn,hb,hl =>
  obtain⟨b,off,rfl,_,_,hcell⟩:=h.part (k:=0) (by simp)
  rw[y7] at hcell
  have hr:=hp p zr
  have e:yg [p]=p.bs:=by simp[yg]
  rw[e] at hb ⊢
  rcases jh p.bs.length with h0 | h0
  ·
   have hcell':w.cell? ⟨b,off,none⟩=some (.slice p.A 0 p.c):=by rw[←h0];exact hcell
   refine(Any.bytes_Join_one_empty laysJ14 b off c p.A p.c (.slice none 0 0) w hcell').mono ?_
   rintro r w' ⟨rfl,rfl⟩
   have e0:p.bs=[]:=ze h0
   rw[e0]
   exact⟨none,0,rfl,Rd.nil _ _ _,Below.refl _ _⟩
  ·
   obtain⟨g,o2,hA,_,_,hc⟩:=hr.at_ (by rw[jj];exact h0)
   have hcell':w.cell? ⟨b,off,none⟩=some (.slice (some ⟨g,o2,none⟩) p.bs.length p.c):=by rw[←hA];exact hcell
   refine(Any.bytes_Join_one laysJ14 b off c ⟨g,o2,none⟩ p.c p.bs (.slice none 0 0) w hcell' (fun i x hx => ?_) h0 (by omega)).mono ?_
   ·
    have hi:=(zt.1 hx).1
    have hxe:=(zt.1 hx).2
    rw[show(⟨g,o2,none⟩:Addr).add i=⟨g,o2+i,none⟩ from Lib.add_plain2 g o2 i]
    have:=hc i _ (qgt p.bs i hi)
    rw[hxe] at this
    exact this
   ·
    rintro r w' ⟨v',rfl,hf,hbl⟩
    obtain⟨A',c',rfl,hrd⟩:=fresh_rd hf
    exact⟨A',c',rfl,hrd,hbl⟩
 | p :: q :: ps,h,hp,hn,hb,hl =>
  obtain⟨b,off,rfl,_,_,hcell⟩:=h.part (k:=0) (by simp)
  obtain⟨b',off',hA,_,_,hall⟩:=h.at_ (by rw[qdc];simp)
  cases hA
  have hP:Lib.PartsAt w ⟨b,off,none⟩ (pv (p :: q :: ps)) (qi6 (p :: q :: ps)):=by
   refine⟨by rw[qdc,qho],fun i v hv => ?_,fun i v l hv hl2 => ?_⟩
   ·
    rw[Lib.add_plain2]
    exact hall i v hv
   ·
    have hi:i<(p :: q :: ps).length:=by
     have:=(zt.1 hv).1
     rwa [qdc] at this
    rw[pv_get _ i hi] at hv
    cases hv
    have hle:l=(p :: q :: ps)[i].bs:=by
     have:(qi6 (p :: q :: ps))[i]? = some (p :: q :: ps)[i].bs:=by rw[qi6,qah,qe hi];rfl
     rw[this] at hl2
     exact(zy hl2).symm
    subst hle
    have hr:=hp _ (ql hi)
    refine⟨_,_,rfl,fun hn => ?_,fun a ha j x hx => ?_⟩
    ·
     rcases jh ((p :: q :: ps)[i].bs).length with h0 | h0
     ·
      exact ze h0
     ·
      obtain⟨g,o2,hA,_⟩:=hr.at_ (by rw[jj];exact h0)
      rw[hn] at hA
      cases hA
    ·
     have hj:=(zt.1 hx).1
     have hxe:=(zt.1 hx).2
     obtain⟨g,o2,hA,_,_,hc⟩:=hr.at_ (by rw[jj];omega)
     rw[hA] at ha
     cases ha
     rw[Lib.add_plain2]
     have:=hc j _ (qgt _ j hj)
     rw[hxe] at this
     exact this
  have h2:=Any.bytes_Join_many laysJ14 b off (p :: q :: ps).length c (pv (p :: q :: ps)) (qi6 (p :: q :: ps)) (.slice none 0 0) [] w (qho _) (by simp) hP hl ⟨none,0,rfl,fun _=>rfl,fun a ha=>(by cases ha)⟩ (by omega)
   (by rw[lens_flat,qf2];simp;omega)
  refine h2.mono ?_
  rintro r w' ⟨v',rfl,hf,hbl⟩
  rw[join_flat,qf2] at hf
  obtain⟨A',c',rfl,hrd⟩:=fresh_rd hf
  exact⟨A',c',rfl,hrd,hbl⟩
end
end Go.Proofs.YtjfecojdagmacaaGreat
