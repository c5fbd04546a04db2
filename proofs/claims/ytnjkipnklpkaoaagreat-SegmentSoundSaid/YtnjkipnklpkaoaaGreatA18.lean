/-
  Lemmas.
-/
import Derived.Test.YtnjkipnklpkaoaaGreatA15
import Derived.Test.YtnjkipnklpkaoaaGreatA17
import Derived.Lib.OwnBridge
import Derived.Maps.Range
import Derived.Shelf.Bytes.SlJoin
import Derived.Shelf.SlSortCmp.NoneTotal
import Derived.Shelf.Slices.CompactS
import Derived.Shelf.Slices.In.SortNone
import Derived.Shelf.Sort.Plain
import Derived.Sort.OwnSorted
namespace Go.Proofs.YtnjkipnklpkaoaaGreat
open Go.RowKit
set_option maxRecDepth 20000
set_option maxHeartbeats 16000000
set_option linter.unusedSimpArgs false
set_option linter.unusedVariables false
theorem qig{w:World}{la lb:List (List Vl)}{c d:Nat}{A B:Option Addr}(h:vr w 0 w.heap.size A c la)(h2:vr w 0 w.heap.size B d lb) :
  Calls Tryz.prog 16 #[.slice A la.length c,.slice B lb.length d] w fun r w'=>r= .returned (.bool (decide (la=lb)))∧Below w.heap.size w w':=by
 obtain⟨hl,hm⟩:=h.len
 obtain⟨hl2,hm2⟩:=h2.len
 have H:Hid (∀W,Below w.heap.size w W→vr W 0 W.heap.size A c la):=fun W hW=>(h.below hW (qc _)).wide (qc _) hW.size
 have H2:Hid (∀W,Below w.heap.size w W→vr W 0 W.heap.size B d lb):=fun W hW=>(h2.below hW (qc _)).wide (qc _) hW.size
 obtain⟨v,hv⟩:∃v,decide (la=lb)=v:=⟨_,rfl⟩
 rw[hv]
 have HV:=qa hv
 clear h h2 hv
 go_enter Tryz.func16,Tryz.ntmps16
 by_cases hne:la.length=lb.length
 ·
  have in1:(la.length:Int)=(lb.length:Int):=by omega
  have HN:=qa hne
  obtain⟨n,hn⟩:∃n,lb.length=n:=⟨_,rfl⟩
  have HN2:Hid (la.length=n):=by unfold Hid;rw[hne,hn]
  have HN3:=qa hn
  rw[hne,hn]
  rw[hne] at hl
  rw[hn] at hl hl2
  clear hne in1 hn HN
  go_wp2_with fail
  go_loopw [5] (fun x wr=>∃i:Nat,i≤n∧x= .int .i64 (i:Int)∧Hid (la.take i=lb.take i)∧Below w.heap.size w wr) (fun x _=>n-(intOf x).toNat)
  case atStart=>exact⟨0,qi _,rfl,rfl,Below.refl _ _⟩
  case round =>
   obtain⟨i,hi,rfl,HT,hb⟩:=hrel
   have HB:=qa hb
   have hszr:=hb.size
   clear hb
   by_cases hlt:i<n
   ·
    have ii:(i:Int)<(n:Int):=by omega
    have ii0:(0:Int)≤(i:Int):=by omega
    have ha:i<la.length:=by rw[HN2.out];exact hlt
    have hb':i<lb.length:=by rw[HN3.out];exact hlt
    obtain⟨b,off,A2,c2,rfl,_,hbl,hcell,hrow⟩:=(H.out wr HB.out).get ha
    obtain⟨b2,off2,B2,d2,rfl,_,hbl2,hcell2,hrow2⟩:=(H2.out wr HB.out).get hb'
    have HXC:Hid (∀W,Below wr.heap.size wr W→W.cell? ⟨b,off+i,none⟩=some (.slice A2 la[i].length c2)∧W.cell? ⟨b2,off2+i,none⟩=some (.slice B2 lb[i].length d2)):=fun W hW=>⟨(hW.cell (p:=⟨b,off+i,none⟩) hbl).trans hcell,(hW.cell (p:=⟨b2,off2+i,none⟩) hbl2).trans hcell2⟩
    obtain⟨e,he⟩:∃e,decide (la[i]=lb[i])=e:=⟨_,rfl⟩
    have HSM:Hid (∀W,Below wr.heap.size wr W→Calls Tryz.prog 51 #[.slice A2 la[i].length c2,.slice B2 lb[i].length d2] W fun r w'=>r= .returned (.bool e)∧Below W.heap.size W w'):=fun W hW=>by
     refine(refSame_v _ _ ((hrow.below hW (qc _)).wide (qc _) hW.size) ((hrow2.below hW (qc _)).wide (qc _) hW.size)).mono ?_
     rw[he]
     rintro r w' ⟨h1,m,rfl⟩
     exact⟨h1,zg (Below.refl _ _) m⟩
    have HE:=qa he
    clear hcell hcell2 hrow hrow2 he
    obtain⟨n1,hn1⟩:∃n1,la[i].length=n1:=⟨_,rfl⟩
    obtain⟨n2,hn2⟩:∃n2,lb[i].length=n2:=⟨_,rfl⟩
    rw[hn1,hn2] at HXC HSM
    clear hn1 hn2
    go_wp2_with fail
    have KD:Hid (Below wr.heap.size wr wr.drew):=(Below.refl _ _).drew
    refine wp_region_held_drew (S:=fun w'=>Below wr.heap.size wr w') (by kernel_rfl) KD.out (fun hHeld => ?_)
    refine tk 0 ?_ rfl hHeld ?_ ?_
    rotate_left
    focus (intro W hSw;obtain⟨q0,q1⟩:=HXC.out W hSw;go_simp;try with_reducible rfl)
    try simp only[jv,Act.put]
    refine tk 1 ?_ rfl hHeld ?_ ?_
    rotate_left
    focus (intro W hSw;obtain⟨q0,q1⟩:=HXC.out W hSw;go_simp;try with_reducible rfl)
    try simp only[jv,Act.put]
    refine tk 2 ?_ rfl hHeld ?_ ?_
    rotate_left
    focus (intro W hSw;obtain⟨q0,q1⟩:=HXC.out W hSw;go_simp;try with_reducible rfl)
    try simp only[jv,Act.put]
    refine tk 3 ?_ rfl hHeld ?_ ?_
    rotate_left
    focus (intro W hSw;obtain⟨q0,q1⟩:=HXC.out W hSw;go_simp;try with_reducible rfl)
    try simp only[jv,Act.put]
    refine tk 4 ?_ rfl hHeld ?_ ?_
    rotate_left
    focus (intro W hSw;obtain⟨q0,q1⟩:=HXC.out W hSw;go_simp;try with_reducible rfl)
    try simp only[jv,Act.put]
    refine tk 5 ?_ rfl hHeld ?_ ?_
    rotate_left
    focus (intro W hSw;obtain⟨q0,q1⟩:=HXC.out W hSw;go_simp;try with_reducible rfl)
    try simp only[jv,Act.put]
    refine tk 6 ?_ rfl hHeld ?_ ?_
    rotate_left
    focus (intro W hSw;obtain⟨q0,q1⟩:=HXC.out W hSw;go_simp;try with_reducible rfl)
    try simp only[jv,Act.put]
    refine tk 7 ?_ rfl hHeld ?_ ?_
    rotate_left
    focus (intro W hSw;obtain⟨q0,q1⟩:=HXC.out W hSw;go_simp;try with_reducible rfl)
    try simp only[jv,Act.put]
    obtain⟨wd,hwd⟩:∃q,wr.drew=q:=⟨_,rfl⟩
    rw[hwd] at hHeld ⊢
    clear KD hwd
    have K_wd:=qa hHeld
    refine wpAnyH_ready (rs:=[8]) (by kernel_rfl) (by simp) ?_
    refine zc (o:=_) rfl (fun K hK => ?_) zm
    go_simp
    refine(HSM.out _ K_wd.out).mono ?_
    rintro r v1 ⟨rfl,hb_v1⟩
    have s_v1:wd.heap.size≤v1.heap.size:=hb_v1.size
    have K_v1:Hid (Below wr.heap.size wr v1):=qa (K_wd.out.trans (hb_v1.mono K_wd.out.size))
    clear hb_v1
    refine hK.out _ _ K_v1.out (fun hHeld => ?_)
    clear hK K
    try simp only[jv,Act.put]
    refine tk 9 ?_ rfl hHeld ?_ ?_
    rotate_left
    focus (intro W hSw;obtain⟨q0,q1⟩:=HXC.out W hSw;go_simp;try with_reducible rfl)
    try simp only[jv,Act.put]
    refine wpAnyH_done (by kernel_rfl) ?_ _
    have KG:=K_v1
    cases e with
    | true =>
     have HT2:Hid (la.take (i+1)=lb.take (i+1)):=by unfold Hid;rw[qg ha,qg hb',HT.out,of_decide_eq_true HE.out]
     go_wp2_with fail
     go_roundw
     case rel=>exact⟨i+1,by omega,by go_num,HT2,HB.out.trans (KG.out.mono hszr)⟩
     case measure=>simp[intOf];omega
    | false =>
     have hvf:v=false:=by
      rw[←HV.out]
      refine ql fun h9=>of_decide_eq_false HE.out ?_
      subst h9
      rfl
     subst hvf
     go_wp2_with fail
     go_ret
     exact⟨rfl,HB.out.trans (KG.out.mono hszr)⟩
   ·
    have ii:¬(i:Int)<(n:Int):=by omega
    have hvt:v=true:=by
     rw[←HV.out]
     refine qp ?_
     have:=HT.out
     have e1:i=n:=by omega
     rwa [qo (by rw[HN2.out];omega),qo (by rw[HN3.out];omega)] at this
    subst hvt
    go_wp2_with fail
    go_ret
    exact⟨rfl,HB.out⟩
 ·
  have in1:¬(la.length:Int)=(lb.length:Int):=by omega
  have in1b:((la.length:Int) != (lb.length:Int))=true:=by rw[bne_iff_ne];exact in1
  have hvt:v=false:=by
   rw[←HV.out]
   exact ql fun e=>hne (by rw[e])
  subst hvt
  clear hne
  go_wp2_with fail
  go_ret
  exact⟨rfl,Below.refl _ _⟩
def qgg(w:World)(lo hi:Nat)(xs:List Value)(rs:List (List Vl)):Prop:=xs.length=rs.length∧∀j (hj:j<rs.length),∃A c,xs[j]? = some (.slice A rs[j].length c)∧Row w lo hi A c rs[j]
theorem qgg.below{w w':World}{lo hi B:Nat}{xs:List Value}{rs:List (List Vl)}(h:qgg w lo hi xs rs)(hb:Below B w w')(hB:hi≤B):qgg w' lo hi xs rs:=⟨h.1,fun j hj=>by
 obtain⟨A,c,h1,h2⟩:=h.2 j hj
 exact⟨A,c,h1,h2.below hb hB⟩⟩
theorem qgg.append{w:World}{lo hi:Nat}{xs ys:List Value}{rs ts:List (List Vl)}(h:qgg w lo hi xs rs)(k:qgg w lo hi ys ts):qgg w lo hi (xs++ys) (rs++ts):=by
 refine⟨by rw[qd,qd,h.1,k.1],fun j hj => ?_⟩
 by_cases hlt:j<rs.length
 ·
  rw[vh (by rw[h.1];exact hlt)]
  simp only[qba hlt]
  exact h.2 j hlt
 ·
  rw[qd] at hj
  rw[ku (by rw[h.1];omega),h.1]
  simp only[qce (show rs.length≤j by omega)]
  exact k.2 (j-rs.length) (by omega)
theorem qgg.one{w:World}{lo hi:Nat}{xs:List Value}{rs:List (List Vl)}(h:qgg w lo hi xs rs):∀u∈xs,u.oneCell'=true:=by
 intro u hu
 obtain⟨j,hj,rfl⟩:=zq hu
 obtain⟨A,c,h1,_⟩:=h.2 j (by rw[←h.1];exact hj)
 rw[qe hj] at h1
 rw[jh h1]
 rfl
theorem vr.cells{w:World}{lo hi c:Nat}{A:Option Addr}{rs:List (List Vl)}(h:vr w lo hi A c rs):∃xs,Rd w lo hi A c xs∧qgg w lo hi xs rs:=by
 obtain⟨rA,rc,h1,h2⟩:=h
 obtain⟨xs,hx,hxs⟩:=qg5 (n:=rs.length) (Q:=fun j x=>x=Value.slice (rA j) ((rs[j]?).getD []).length (rc j)) fun j hj=>⟨_,rfl⟩
 refine⟨xs,⟨by rw[hx];exact h1.len,h1.cap,fun hp => ?_⟩,hx,fun j hj=>⟨rA j,rc j,?_,h2 j hj⟩⟩
 ·
  obtain⟨b,off,e,h3,h4,h5⟩:=h1.lies (by omega)
  refine⟨b,off,e,h3,h4,fun j u hu => ?_⟩
  have hj:j<xs.length:=(zw.1 hu).1
  have h6:=h5 j (by omega) 0 (by omega)
  rw[va,xx,qe (by omega)] at h6
  rw[qe hj,hxs j hj,qe (by omega)] at hu
  rw[h6,←jh hu]
  rfl
 ·
  rw[qe (by omega),hxs j (by omega),qe hj]
  rfl
theorem qgg.rows{w:World}{lo hi c:Nat}{A:Option Addr}{xs:List Value}{rs:List (List Vl)}(h:qgg w lo hi xs rs)(hr:Rd w lo hi A c xs):vr w lo hi A c rs:=by
 obtain⟨ps,hp,hps⟩:=qg5 (n:=rs.length) (Q:=fun j (q:Option Addr×Nat)=>∀hj:j<rs.length,xs[j]? = some (.slice q.1 rs[j].length q.2)∧Row w lo hi q.1 q.2 rs[j]) fun j hj=>by
  obtain⟨A',c',h1,h2⟩:=h.2 j hj
  exact⟨(A',c'),fun _=>⟨h1,h2⟩⟩
 refine⟨fun j=>(ps[j]?).bind (·.1),fun j=>((ps[j]?).map (·.2)).getD 0,⟨by rw[←h.1];exact hr.len,hr.cap,fun hq => ?_⟩,fun j hj => ?_⟩
 ·
  obtain⟨b,off,e,h3,h4,h5⟩:=hr.at_ (by rw[h.1];exact hq)
  refine⟨b,off,e,h3,h4,fun j hj i hi => ?_⟩
  have hi0:i=0:=by omega
  subst hi0
  have h6:=(hps j (by omega) hj).1
  have h7:=h5 j _ h6
  rw[va,xx,h7]
  simp[qe hj,qe (show j<ps.length by omega)]
 ·
  have h6:=(hps j (by omega) hj).2
  simpa[qe (show j<ps.length by omega)] using h6
theorem Tryz.infoRow:(Tryz.prog.info? 61).map (fun i=>(i.zero,i.size,i.bytes))=some (some (.slice none 0 0),1,24):=by kernel_rfl
theorem append_rows{w:World}{base n:Nat}{v:Value}{xs:List Value}(hown:w.ownsRow base 61 1 v n xs){lo hi c:Nat}{A:Option Addr}{ys:List Value}(hr:Rd w lo hi A c ys)(h1:∀u∈ys,u.oneCell'=true){m:Nat}(hm:ys.length=m)(hb:n+m≤1000000)(hbase:base≤w.heap.size) :
  ∃A' c' w',(Builtin.append_ #[41,41] 41 #[v,.slice A m c]).run Tryz.prog w= .ok (.slice A' (n+m) c') w'∧w'.ownsRow base 61 1 (.slice A' (n+m) c') (n+m) (xs++ys)∧w.grownBy w' v.ownBlock:=by
 subst hm
 obtain⟨i0,hi0,hz0,hz1,hz2⟩:=info_parts Tryz.infoRow
 obtain⟨A',c',w',hrun,h2,h3,_⟩:=ui (P:=Tryz.prog) w base 41 41 61 i0 _ 24 Tryz.underlying41 hi0 hz0 hz1 hz2 rfl v n xs hown lo hi A c ys hr h1 (by simp only[maxLen];omega) (by omega) hbase
 exact⟨A',c',w',hrun,h2,h3⟩
theorem refAll_v{w:World}{gs:List (List (List Vl))}{c:Nat}{A:Option Addr}(h:qax w 0 w.heap.size A c gs)(hn:ki gs≤1000000){n:Nat}(hfl:gs.flatten.length=n) :
  Calls Tryz.prog 18 #[.slice A gs.length c] w fun r w'=>∃A' c',r= .returned (.slice A' n c')∧vr w' 0 w'.heap.size A' c' gs.flatten∧Below w.heap.size w w':=by
 obtain⟨hl,hm⟩:=h.len
 have H:Hid (∀W,Below w.heap.size w W→qax W 0 w.heap.size A c gs):=fun W hW=>h.below hW (qc _)
 have HRN:Hid (∀i,i≤gs.length→((gs.take i).flatten).length=ki (gs.take i)∧ki (gs.take i)≤1000000):=fun i hi=>⟨by rw[List.length_flatten];rfl,ze (qjo gs i) hn⟩
 have HFL:=qa hfl
 clear h hn hfl
 go_enter Tryz.func18,Tryz.ntmps18
 go_wp2_with fail
 go_loopw [3,4] (fun x5 x6 wr=>∃(i p:Nat) (A':Option Addr) (c':Nat) (xs:List Value),i≤gs.length∧x6= .int .i64 (i:Int)∧x5= .slice A' p c'∧Hid ((gs.take i).flatten.length=p)∧Hid (wr.ownsRow w.heap.size 61 1 (.slice A' p c') p xs)∧Hid (qgg wr 0 w.heap.size xs (gs.take i).flatten)∧Below w.heap.size w wr) (fun _ x6 _=>gs.length-(intOf x6).toNat)
 case atStart=>exact⟨0,0,none,0,[],qi _,rfl,rfl,rfl,zh _ _ _ _,⟨rfl,fun j hj=>absurd hj (jp j)⟩,Below.refl _ _⟩
 case round =>
  obtain⟨i,p,A',c',xs,hi,rfl,rfl,HP,HO,HX,hb⟩:=hrel
  have HB:=qa hb
  have hszr:=hb.size
  clear hb
  by_cases hlt:i<gs.length
  ·
   have ii:(i:Int)<(gs.length:Int):=by omega
   have ii0:(0:Int)≤(i:Int):=by omega
   obtain⟨b,off,A2,c2,rfl,_,hbl,hcell,hrows⟩:=(H.out wr HB.out).get hlt
   obtain⟨ys,hry,hys⟩:=hrows.cells
   have hpm:p+gs[i].length≤1000000:=by
    have h1:=(HRN.out i (by omega)).1
    have h2:=(HRN.out (i+1) (by omega)).2
    rw[qfz hlt] at h2
    have:=HP.out
    omega
   obtain⟨A5,c5,w5,hrun,ho5,hg5⟩:=append_rows HO.out hry hys.one hys.1 hpm hszr
   have hblk:∀q,(Value.slice A' p c').ownBlock=some q→w.heap.size≤q:=fun q hq=>(zk HO.out hq).1
   have HB5:Hid (Below w.heap.size w w5):=HB.out.grown hg5 hszr hblk
   have B5:Below w.heap.size wr w5:=(Below.refl _ _).grown hg5 hszr hblk
   have hft:(gs.take (i+1)).flatten=(gs.take i).flatten++gs[i]:=by
    rw[qg hlt,qdb]
    simp
   have HX5:Hid (qgg w5 0 w.heap.size (xs++ys) (gs.take (i+1)).flatten):=by
    unfold Hid
    rw[hft]
    exact(HX.out.below B5 (qc _)).append (hys.below B5 (qc _))
   have HP5:Hid ((gs.take (i+1)).flatten.length=p+gs[i].length):=by
    unfold Hid
    rw[hft,qd,HP.out]
   have HO5:=qa ho5
   obtain⟨hcl2,hcm2⟩:=hrows.len
   obtain⟨n2,hn2⟩:∃n2,gs[i].length=n2:=⟨_,rfl⟩
   rw[hn2] at hrun hcell HP5 HO5 hcl2
   clear hry hys hrows hpm ho5 hg5 hblk B5 hft hn2 HX HP
   go_wp2_with (at_builtin;refine wpList_append_run rfl _ _ _ _ rfl rfl rfl hrun ?_)
   go_roundw
   case rel=>exact⟨i+1,_,A5,c5,_,by omega,by go_num,rfl,HP5,HO5,HX5,HB5.out⟩
   case measure=>simp[intOf];omega
  ·
   have ii:¬(i:Int)<(gs.length:Int):=by omega
   have HF:Hid (gs.take i=gs):=qo (by omega)
   rw[HF.out] at HP HX
   have HR:Hid (vr wr 0 wr.heap.size A' c' gs.flatten):=by
    have h1:=(Rd.of_own HO.out).wide (qi _) (qc wr.heap.size)
    obtain⟨h2,h3⟩:=HX.out
    exact qgg.rows ⟨h2,fun j hj=>by
     obtain⟨A9,c9,h4,h5⟩:=h3 j hj
     exact⟨A9,c9,h4,h5.wide (qc _) hszr⟩⟩ h1
   obtain rfl:p=n:=HP.out.symm.trans HFL.out
   go_wp2_with fail
   go_ret
   exact⟨_,_,rfl,HR.out,HB.out⟩
def qgp(L:List Vl):Nat:=(L.map (·.s.size)).sum
def qhu(g:List (List Vl)):Nat:=(g.map qgp).sum
def qjb(gs:List (List (List Vl))):Nat:=(gs.map qhu).sum
theorem qp4{gs:List (List (List Vl))}{i:Nat}(h:i<gs.length):qjb (gs.take (i+1))=qjb (gs.take i)+qhu gs[i]:=by
 unfold qjb
 rw[qg h,jg,qbe]
 simp
structure FewSg (gs:List (List (List Vl))) (os:List Co):Prop where
 groups:gs.length≤40
 cods:os.length≤12
 rows:ki gs≤60
 bytes:qjb gs≤3000
 cols:∀g∈gs,∀r∈g,r.length≤9
 draws:∀o∈os,o.draws.length≤60
section
set_option maxRecDepth 100000
def renJ:Go.Shelf.Ren:=⟨fun | 14=>232 | 15=>249 | n=>n,fun | 0=>0 | 3=>3 | 4=>4 | 5=>5 | 9=>9 | 20=>20 | 22=>26 | 26=>103 | n=>n,fun n=>n⟩
theorem laysJ14:Go.Proofs.SlLaysJ.n14 Tryz.prog renJ:={
 mixed:=by kernel_rfl
 f14:=Tryz.func232.trans (congrArg some (by kernel_rfl))
 f15:=Tryz.func249.trans (congrArg some (by kernel_rfl))
 t0:=Tryz.underlying0
 a0:=Tryz.isAgg0
 z0:=Tryz.sizeOf0
 v0:=Tryz.zeroValue0
 t3:=Tryz.underlying3
 a3:=Tryz.isAgg3
 z3:=Tryz.sizeOf3
 v3:=Tryz.zeroValue3
 t4:=Tryz.underlying4
 a4:=Tryz.isAgg4
 z4:=Tryz.sizeOf4
 v4:=Tryz.zeroValue4
 t9:=Tryz.underlying9
 a9:=Tryz.isAgg9
 z9:=Tryz.sizeOf9
 v9:=Tryz.zeroValue9
 t20:=Tryz.underlying20
 a20:=Tryz.isAgg20
 z20:=Tryz.sizeOf20
 v20:=Tryz.zeroValue20
 t22:=Tryz.underlying26
 a22:=Tryz.isAgg26
 z22:=Tryz.sizeOf26
 v22:=Tryz.zeroValue26
 t26:=Tryz.underlying103
 a26:=Tryz.isAgg103
 z26:=Tryz.sizeOf103
 v26:=Tryz.zeroValue103
 t5:=Tryz.underlying5
 z5:=Tryz.sizeOf5
 i5:=Tryz.infoU8 }
theorem join_flat(xs:List (List UInt8)):Lib.join xs []=xs.flatten:=by
 cases xs with
 | nil=>rfl
 | cons x r=>rw[Lib.join_cons,Lib.joinTail];simp
theorem lens_flat(xs:List (List UInt8)):Lib.lens xs=xs.flatten.length:=by simp[Lib.lens,List.length_flatten]
theorem qij(ps:List Part):(qm4 ps).flatten=xl ps:=by simp[qm4,xl,List.flatMap]
theorem fresh_rd{B:Nat}{w':World}{v:Value}{l:List UInt8}(h:Lib.FreshBytes B w' v l):∃A' c',v= .slice A' l.length c'∧Rd w' B w'.heap.size A' c' (bv l):=by
 obtain⟨g,cap,zs,rfl,hB,hl,hc,hz,h256,hb,hcell,_⟩:=h
 refine⟨_,cap,rfl,⟨by rw[yh];exact hl,hc,fun hp => ?_⟩⟩
 rw[yh] at hp
 have h0:=hcell 0 (by omega)
 refine⟨g,0,rfl,hB,yv w' _ h0,fun j u hu => ?_⟩
 have hj:j<l.length:=by
  have:=(zw.1 hu).1
  rwa [yh] at this
 rw[qks l j hj] at hu
 cases hu
 have h1:=hcell j (by omega)
 rw[xa,h1]
 have hzj:j<zs.length:=by omega
 have e1:l[j]? = some (UInt8.ofNat zs[j].toNat):=by
  rw[←hb,Lib.bytesOf,ke,qbh,if_pos hj,qe hzj]
  rfl
 rw[qe hj] at e1
 have e2:=jh e1
 have h2:=h256 zs[j] (qj hzj)
 rw[yw,qe hzj,e2]
 congr 2
 simp
 omega
theorem bjoin_any{w:World}(ps:List Part){lo hi c:Nat}{A:Option Addr}(h:Rd w lo hi A c (pv ps))(hp:qrw w lo hi ps)(hn:ps.length≤1000000)(hb:(xl ps).length≤100000000000) :
  Calls Tryz.prog 232 #[.slice A ps.length c,.slice none 0 0] w fun r w'=>∃A' c',r= .returned (.slice A' (xl ps).length c')∧Rd w' w.heap.size w'.heap.size A' c' (bv (xl ps))∧Below w.heap.size w w':=by
 have hl:=h.len
 rw[qfa] at hl
 match ps,h,hp,hn,hb,hl with
 | [],h,hp,hn,hb,hl =>
  refine(Any.bytes_Join_none laysJ14 A c (.slice none 0 0) w).mono ?_
  rintro r w' ⟨rfl,rfl⟩
  exact⟨_,0,rfl,Rd.empty _ _ _ _ _ (by simp[maxLen]),(Below.refl _ _).alloc (qc _) _⟩
 | [p],h,hp,hn,hb,hl =>
  obtain⟨b,off,rfl,_,_,hcell⟩:=h.part (k:=0) (by simp)
  rw[xx] at hcell
  have hr:=hp p jb
  have e:xl [p]=p.bs:=by simp[xl]
  rw[e] at hb ⊢
  rcases jr p.bs.length with h0 | h0
  ·
   have hcell':w.cell? ⟨b,off,none⟩=some (.slice p.A 0 p.c):=by rw[←h0];exact hcell
   refine(Any.bytes_Join_one_empty laysJ14 b off c p.A p.c (.slice none 0 0) w hcell').mono ?_
   rintro r w' ⟨rfl,rfl⟩
   have e0:p.bs=[]:=zd h0
   rw[e0]
   exact⟨none,0,rfl,Rd.nil _ _ _,Below.refl _ _⟩
  ·
   obtain⟨g,o2,hA,_,_,hc⟩:=hr.at_ (by rw[yh];exact h0)
   have hcell':w.cell? ⟨b,off,none⟩=some (.slice (some ⟨g,o2,none⟩) p.bs.length p.c):=by rw[←hA];exact hcell
   refine(Any.bytes_Join_one laysJ14 b off c ⟨g,o2,none⟩ p.c p.bs (.slice none 0 0) w hcell' (fun i x hx => ?_) h0 (by omega)).mono ?_
   ·
    have hi:=(zw.1 hx).1
    have hxe:=(zw.1 hx).2
    rw[show(⟨g,o2,none⟩:Addr).add i=⟨g,o2+i,none⟩ from Lib.add_plain2 g o2 i]
    have:=hc i _ (qks p.bs i hi)
    rw[hxe] at this
    exact this
   ·
    rintro r w' ⟨v',rfl,hf,hbl⟩
    obtain⟨A',c',rfl,hrd⟩:=fresh_rd hf
    exact⟨A',c',rfl,hrd,hbl⟩
 | p :: q :: ps,h,hp,hn,hb,hl =>
  obtain⟨b,off,rfl,_,_,hcell⟩:=h.part (k:=0) (by simp)
  obtain⟨b',off',hA,_,_,hall⟩:=h.at_ (by rw[qfa];simp)
  cases hA
  have hP:Lib.PartsAt w ⟨b,off,none⟩ (pv (p :: q :: ps)) (qm4 (p :: q :: ps)):=by
   refine⟨by rw[qfa,qkt],fun i v hv => ?_,fun i v l hv hl2 => ?_⟩
   ·
    rw[Lib.add_plain2]
    exact hall i v hv
   ·
    have hi:i<(p :: q :: ps).length:=by
     have:=(zw.1 hv).1
     rwa [qfa] at this
    rw[pv_get _ i hi] at hv
    cases hv
    have hle:l=(p :: q :: ps)[i].bs:=by
     have:(qm4 (p :: q :: ps))[i]? = some (p :: q :: ps)[i].bs:=by rw[qm4,ke,qe hi];rfl
     rw[this] at hl2
     exact(jh hl2).symm
    subst hle
    have hr:=hp _ (qj hi)
    refine⟨_,_,rfl,fun hn => ?_,fun a ha j x hx => ?_⟩
    ·
     rcases jr ((p :: q :: ps)[i].bs).length with h0 | h0
     ·
      exact zd h0
     ·
      obtain⟨g,o2,hA,_⟩:=hr.at_ (by rw[yh];exact h0)
      rw[hn] at hA
      cases hA
    ·
     have hj:=(zw.1 hx).1
     have hxe:=(zw.1 hx).2
     obtain⟨g,o2,hA,_,_,hc⟩:=hr.at_ (by rw[yh];omega)
     rw[hA] at ha
     cases ha
     rw[Lib.add_plain2]
     have:=hc j _ (qks _ j hj)
     rw[hxe] at this
     exact this
  have h2:=Any.bytes_Join_many laysJ14 b off (p :: q :: ps).length c (pv (p :: q :: ps)) (qm4 (p :: q :: ps)) (.slice none 0 0) [] w (qkt _) (by simp) hP hl ⟨none,0,rfl,fun _=>rfl,fun a ha=>(by cases ha)⟩ (by omega)
   (by rw[lens_flat,qij];simp;omega)
  refine h2.mono ?_
  rintro r w' ⟨v',rfl,hf,hbl⟩
  rw[join_flat,qij] at hf
  obtain⟨A',c',rfl,hrd⟩:=fresh_rd hf
  exact⟨A',c',rfl,hrd,hbl⟩
end
theorem ql3{m:Nat}:∀ {l:List (List UInt8)},(∀x∈l,x.length≤m)→l.flatten.length≤m*l.length
 | [],_=>by simp
 | x :: l,h=>by
  have h1:=ql3 (l:=l) fun y hy=>h y (jm _ hy)
  have h2:=h x jb
  rw[qaa,qd,qt,qds]
  omega
theorem numbers_v{w:World}(zs:List Int)(hm:qpw zs){h':Nat}{A:Option Addr}{c:Nat}(h:Rd w 0 h' A c (iv zs))(hh:h'≤w.heap.size)(hlen:zs.length≤4294967295) :
  Calls Tryz.prog 218 #[.slice A zs.length c] w fun r w'=>∃A' c',r= .returned (.slice A' (jq zs).length c')∧
   w'.ownsRow w.heap.size 5 1 (.slice A' (jq zs).length c') (jq zs).length (bv (jq zs))∧Below w.heap.size w w':=by
 have HP:=qa (qnv (w:=w) zs hm h hh hlen)
 clear h
 go_enter Tryz.func218,Tryz.ntmps218
 go_wp2_with fail
 refine HP.out.mono ?_
 rintro r w1 ⟨A1,c1,rfl,ho,hb⟩
 go_wp2_with fail
 go_ret
 exact⟨_,_,rfl,ho,hb⟩
theorem joined_v{w:World}(ps:List Part){c:Nat}{A:Option Addr}(h:Rd w 0 w.heap.size A c (pv ps))(hp:qrw w 0 w.heap.size ps)(hn:ps.length≤1000000)(hb:(xl ps).length≤1000000000)(h4:∀p∈ps,p.bs.length≤1000000000) :
  Calls Tryz.prog 212 #[.slice A ps.length c] w fun r w'=>∃A' c',r= .returned (.slice A' (uu (qm4 ps)).length c')∧
   w'.ownsRow w.heap.size 5 1 (.slice A' (uu (qm4 ps)).length c') (uu (qm4 ps)).length (bv (uu (qm4 ps)))∧Below w.heap.size w w':=by
 have hl:=h.len
 have hm:=h.cap
 rw[qfa] at hl
 unfold maxLen at hm
 obtain⟨w1,hmake,ho1,hg1⟩:=qjs w ps.length (by omega)
 have HO1:=qa ho1
 have HB1:=qa (qcd (qc _) hg1 (fun g hg=>by cases hg))
 have H:=qa h
 have HP:=qa hp
 obtain⟨zs,hzs⟩:∃zs,zu ((qm4 ps).map List.length)=zs:=⟨_,rfl⟩
 have HZ:Hid (∀i (hi:i<ps.length),(iv zs)[i]? = some (.int .i64 (ps[i].bs.length:Int))):=fun i hi=>by
  rw[←hzs];simp[iv,zu,qm4,qe hi]
 have hzl:zs.length=ps.length:=by rw[←hzs];simp[zu,qm4]
 have HZL:Hid (zs.length=ps.length):=hzl
 have HMay:Hid (qpw zs):=by
  unfold Hid
  rw[←hzs]
  exact qju (m:=1000000000) (by omega) fun x hx=>by obtain⟨p,hp,rfl⟩:=zn.1 hx;have:=h4 p hp;omega
 obtain⟨J,hJ⟩:∃J,uu (qm4 ps)=J:=⟨_,rfl⟩
 have HJ:Hid (jq zs++xl ps=J):=by unfold Hid;rw[←hJ,uu,hzs,qij]
 have HH4:=qa h4
 rw[hJ]
 clear h ho1 hg1 hp hzs hzl hJ h4
 go_enter Tryz.func212,Tryz.ntmps212
 go_wp2_with fail
 clear hmake
 go_loopw [11] (fun i wr=>∃(k:Nat) (xs:List Value),k≤ps.length∧i= .int .i64 (k:Int)∧wr.ownsRow w.heap.size 3 1 (.slice (some ⟨w.heap.size,0,none⟩) ps.length ps.length) ps.length xs∧qk0 (iv zs) k xs∧Below w.heap.size w wr) (fun i _=>ps.length-(intOf i).toNat)
 case atStart=>exact⟨0,_,qi _,rfl,HO1.out,qd9 (by rw[ji,HZL.out];simp),HB1.out⟩
 case round =>
  clear HO1 HB1
  obtain⟨k,xs,hk,rfl,ho,hup,hbl⟩:=hrel
  have HO:=qa ho
  have HUP:=qa hup
  have HB:=qa hbl
  have hsz:=hbl.size
  clear ho hup hbl
  by_cases hlt:k<ps.length
  ·
   have ik:(k:Int)<(ps.length:Int):=by omega
   obtain⟨b,off,rfl,_,hbw,hc0⟩:=(H.out.below HB.out (qc _)).part hlt
   have HZ1:=qa (HZ.out k hlt)
   generalize ps[k].A=pA at *
   generalize ps[k].bs.length=pn at *
   generalize ps[k].c=pc at *
   have hfr:=HO.out.frozenAt k
   have hxk:k<xs.length:=by rw[HUP.out.1,ji,HZL.out];exact hlt
   have hcell:wr.cell? ⟨w.heap.size,k,none⟩=some xs[k]:=by
    rw[HO.out.cellAt k (by omega),qe hxk]
   have HST:=qa (World.ownsRow.stored HO.out k (.int .i64 (pn:Int)))
   have HBS:=qa (HB.out.setCell (p:=⟨w.heap.size,k,none⟩) (qc _) (.int .i64 (pn:Int)))
   have HUS:=qa (qay HUP.out (.int .i64 (pn:Int)) HZ1.out)
   generalize xs[k]=x0 at *
   go_wp2_with fail
   go_roundw
   case rel=>exact⟨k+1,_,by omega,by go_num,HST.out.1,HUS.out,HBS.out⟩
   case measure=>simp[intOf];omega
  ·
   have ik:¬(k:Int)<(ps.length:Int):=by omega
   have hx:xs=iv zs:=qe1 HUP.out (by rw[ji,HZL.out];omega)
   subst hx
   have HN:=qa (numbers_v (w:=wr) zs HMay.out ((Rd.of_own HO.out).wide (qi _) (qc _)) (qc _) (by rw[HZL.out];omega))
   rw[HZL.out] at HN
   go_wp2_with fail
   refine HN.out.mono ?_
   rintro r w2 ⟨A2,c2,rfl,ho2,hb2⟩
   have HO2:=qa ho2
   have HB2:=qa (qz HB.out hb2 hsz)
   have hsz2:=HB2.out.size
   have hs2:=hb2.size
   have HJN:=qa (bjoin_any (w:=w2) ps (H.out.below HB2.out (qc _)) (HP.out.below HB2.out (qc _)) hn (by omega))
   clear ho2 hb2 HN
   go_wp2_with fail
   refine HJN.out.mono ?_
   rintro r w3 ⟨A3,c3,rfl,hr3,hb3⟩
   have hsz3:=hb3.size
   have hwl:=qab HMay.out (by rw[HZL.out];omega)
   obtain⟨A4,c4,w4,hrun4,hown4,hg4⟩:=j9 w3 w.heap.size (.slice A2 (jq zs).length c2) (jq zs) (xl ps) J HJ.out (j4 (js HO2.out hb3 (qc _)) hsz) hr3 (by omega) (by omega)
   have hb4:Below w.heap.size w w4:=(qz HB2.out hb3 hsz2).grown hg4 (by omega) (fun q hq=>by have:=(zk HO2.out hq).1;omega)
   have HO4:=qa hown4
   have HB4:=qa hb4
   clear hr3 hb3 hown4 hg4 hb4 HJN
   go_wp2_with (at_builtin;refine wpList_append_run rfl _ _ _ _ rfl rfl rfl hrun4 ?_)
   go_ret
   exact⟨_,_,rfl,HO4.out,HB4.out⟩
theorem plain_v{w:World}(l:List ByteArray){c:Nat}{A:Option Addr}(h:Rd w 0 w.heap.size A c (sv l))(hn:l.length≤100000)(h4:∀s∈l,s.size≤10000) :
  Calls Tryz.prog 191 #[.slice A l.length c] w fun r w'=>∃A' c',r= .returned (.slice A' (uu (qm l)).length c')∧
   w'.ownsRow w.heap.size 5 1 (.slice A' (uu (qm l)).length c') (uu (qm l)).length (bv (uu (qm l)))∧Below w.heap.size w w':=by
 have hl:=h.len
 have hm:=h.cap
 rw[yg] at hl
 unfold maxLen at hm
 have H:=qa h
 have HH4:=qa h4
 clear h h4
 go_enter Tryz.func191,Tryz.ntmps191
 go_wp2_with fail
 go_loopw [3,8] (fun x i wr=>∃(k:Nat) (ps:List Part) (A':Option Addr) (c':Nat),k≤l.length∧i= .int .i64 (k:Int)∧qm4 ps=(qm l).take k∧x= .slice A' k c'∧PR wr w.heap.size (.slice A' k c') k ps∧Below w.heap.size w wr) (fun _ i _=>l.length-(intOf i).toNat)
 case atStart=>exact⟨0,[],none,0,qi _,rfl,rfl,rfl,PR.nil _ _,Below.refl _ _⟩
 case round =>
  obtain⟨k,ps,A',c',hk,rfl,hys,rfl,hp,hb⟩:=hrel
  have HY:=qa hys
  have HP:=qa hp
  have HB:=qa hb
  have hsz:=hb.size
  clear hb hys hp
  by_cases hlt:k<l.length
  ·
   have ik:(k:Int)<(l.length:Int):=by omega
   obtain⟨b,off,rfl,_,hbl,hc0⟩:=(H.out.below HB.out (qc _)).str hlt
   have HS4:=qa (HH4.out _ (qj hlt))
   have HT:Hid ((qm l).take (k+1)=(qm l).take k++[l[k].data.toList]):=by
    unfold Hid
    rw[qg (by rw[qx];exact hlt),yq l k hlt]
   generalize l[k]=s at *
   have hcv:=qc6 (P:=Tryz.prog) wr 9 26 5 s Tryz.underlying9 Tryz.underlying26 Tryz.underlying5
   have hcap:=grownCap_le_maxLen wr s.size 0 5 (by have:=HS4.out;simp only[maxLen];omega)
   have hrd:=qfr wr 5 s hcap
   have hb2:=qdm wr 5 s (qc _)
   have hs2:wr.heap.size+1≤(Lib.bytesWorld wr 5 s).heap.size:=by rw[Lib.bytesWorld_size];exact qc _
   clear hcap
   generalize grownCap wr s.size 0 5=gc at *
   generalize Lib.bytesWorld wr 5 s=w2 at *
   have HB2:=qa (qz HB.out hb2 hsz)
   have hsz2:w.heap.size≤w2.heap.size:=HB2.out.size
   obtain⟨q,hq⟩:∃p:Part,p=⟨some ⟨wr.heap.size,0,none⟩,gc,s.data.toList⟩:=⟨_,rfl⟩
   have HQ:=qa hq
   have HQB:Hid (q.bs=s.data.toList):=by unfold Hid;rw[hq]
   have HRQ:Hid (Rd (w2.alloc (.cells #[.slice (some ⟨wr.heap.size,0,none⟩) s.size gc] 26)) w.heap.size (w2.alloc (.cells #[.slice (some ⟨wr.heap.size,0,none⟩) s.size gc] 26)).heap.size q.A q.c (bv q.bs)):=by
    unfold Hid
    rw[hq]
    exact(hrd.alloc hs2 _).wide hsz (by simp;omega)
   have HPA:=qa ((HP.out.below hb2 (qc _)).alloc (.cells #[.slice (some ⟨wr.heap.size,0,none⟩) s.size gc] 26))
   have HZA:Hid (∀b off,q.A=some ⟨b,off,none⟩→(Value.slice A' k c').ownBlock≠some b):=fun b off e e2=>by
    rw[hq] at e
    simp only[Option.some.injEq,Addr.mk.injEq] at e
    have:=(zk HP.out.own e2).2
    omega
   have HBA:=qa (HB2.out.alloc hsz2 (.cells #[.slice (some ⟨wr.heap.size,0,none⟩) s.size gc] 26))
   clear hrd hb2 HP HB hq
   go_wp2_with (at_builtin;refine qdc (v:= .slice A' k c') w.heap.size ps q rfl _ _ rfl rfl rfl rfl (by rw[HQ.out,za _ _ _ _ rfl];rfl) HPA.out HRQ.out (fun _=>HZA.out) (by omega) (by simp;omega) ?_;intro A7 c7 w7 hp7 hg7;refine qaz ?_)
   have HB7:=qa (HBA.out.grown hg7 (by simp;omega) (fun q hq=>(zk HPA.out.own hq).1))
   have HP7:=qa hp7
   have HY7:Hid (qm4 (ps++[q])=(qm l).take (k+1)):=by
    unfold Hid
    rw[HT.out,←HY.out,←HQB.out]
    simp[qm4]
   clear hp7 hg7 HPA HRQ HZA HBA
   refine⟨?_⟩
   go_wp2_with fail
   go_roundw
   case rel=>exact⟨k+1,ps++[q],A7,c7,by omega,by go_num,HY7.out,rfl,HP7.out,HB7.out⟩
   case measure=>simp[intOf] <;> omega
  ·
   have ik:¬(k:Int)<(l.length:Int):=by omega
   have hke:(qm l).take k=qm l:=qo (by rw[qx];omega)
   rw[hke] at HY
   have hpl:=HP.out.len
   have hsum:(xl ps).length≤10000*l.length:=by
    rw[←qij,HY.out]
    have:=ql3 (m:=10000) (l:=qm l) fun x hx=>by obtain⟨s,hs,rfl⟩:=zn.1 hx;exact HH4.out s hs
    rwa [qx] at this
   have HJ:=qa (joined_v (w:=wr) (A:=A') (c:=c') ps (HP.out.read.wide (qi _) (qc _)) (HP.out.rd.wide (qi _) (qc _)) (by omega) (by omega) (fun p hp=>by
    have:p.bs∈qm l:=by rw[←HY.out];exact xq hp
    obtain⟨s,hs,e⟩:=zn.1 this
    have h1:=HH4.out s hs
    rw[←e]
    show s.size≤_
    omega))
   rw[HY.out,hpl] at HJ
   clear hsum hpl
   go_wp2_with fail
   refine HJ.out.mono ?_
   rintro r w2 ⟨A2,c2,rfl,ho2,hb2⟩
   go_wp2_with fail
   go_ret
   exact⟨_,_,rfl,j4 ho2 hsz,qz HB.out hb2 hsz⟩
def qit(l:List (List UInt8)):List (List UInt8):=l.mergeSort fun x y=>decide (x≤y)
theorem sorL_rises(l:List (List UInt8)):∀i j,i<j→j<(qit l).toArray.size→yr (qit l).toArray[i]! (qit l).toArray[j]! ≤0:=by
 have h:=List.pairwise_mergeSort (le:=fun x y:List UInt8=>decide (x≤y)) (fun a b c h1 h2=>by
  rw[decide_eq_true_eq,qlz] at *
  exact qjg h1 h2) (fun a b=>by
  rw[Bool.or_eq_true,decide_eq_true_eq,decide_eq_true_eq,qlz,qlz,qdk a b]
  omega) l
 intro i j hij hj
 rw[ug] at h
 have hj':j<(qit l).length:=by simpa using hj
 have:=h i j (by show i<(qit l).length;omega) hj' hij
 rw[decide_eq_true_eq,qlz] at this
 rw[getElem!_pos _ i (by simpa using Nat.lt_trans hij hj'),getElem!_pos _ j hj]
 exact this
theorem qkn(l:List (List UInt8)):qb9 l (Lib.compact (qit l)):=by
 obtain⟨h1,h2,h3⟩:=ql6 (qit l).toArray (sorL_rises l) (qit l).length (by simp)
 refine⟨h1,fun s => ?_⟩
 have hmem:s∈qit l↔s∈l:=List.mem_mergeSort
 rw[←hmem]
 constructor
 ·
  intro h
  obtain⟨j,hj,rfl⟩:=h2 s h
  rw[getElem!_pos _ j (by simpa using hj)]
  simp
 ·
  intro h
  obtain⟨j,hj,rfl⟩:=zq h
  have:=h3 j hj
  rw[getElem!_pos _ j (by simpa using hj),List.getElem_toArray] at this
  exact this
theorem qix{t:List (List UInt8)}(h:xd t=true):t.Nodup:=by
 rw[List.Nodup,ug]
 intro i j hi hj hij e
 have:=qie h hij hj
 rw[e] at this
 exact qe4 this
theorem qb9.len{l t:List (List UInt8)}(h:qb9 l t):t.length≤l.length:=(qix h.1).length_le_of_subset fun x hx=>(h.2 x).1 hx
theorem qb9.dic{l t:List (List UInt8)}(h:qb9 l t)(hl:l.length≤4096)(h4:∀x∈l,x.length≤4096):ql5 t=true :=
 qdi.2 ⟨ze h.len hl,fun x hx=>h4 x ((h.2 x).1 hx),h.1⟩
section
open Go.Maps
def zi(c:Int):DataW Unit:= .lit (.int .i64 c)
structure Bag (D:DataW Unit) (P:List (List UInt8)):Prop where
 map:IsMap D
 at_:∀x,D.atKey (.string x) (zi 0)=zi (P.count x:Nat)
 has:∀x,Maps.has D (.string x)=decide (x∈P)
theorem Bag.nil:Bag (.map []) []:=⟨isMap_empty,fun _=>rfl,fun _=>rfl⟩
theorem Bag.count{D:DataW Unit}{P:List (List UInt8)}(h:Bag D P){x:List UInt8}{c:Int}(hc:D.atKey (.string x) (.lit (.int .i64 0))= .lit (.int .i64 c)):c=(P.count x:Nat):=by
 have:=(h.at_ x).symm.trans hc
 simp only[zi] at this
 injection this with this
 injection this with _ this
 exact this.symm
theorem Bag.put{D:DataW Unit}{P:List (List UInt8)}(h:Bag D P)(x:List UInt8):Bag (D.put (.string x) (.lit (.int .i64 ((P.count x:Nat)+1)))) (P++[x]):=by
 have hne:∀y,y≠x→(Lit.string y)≠Lit.string x:=fun y hy e=>hy (by injection e)
 refine⟨h.map.put _ _,fun y => ?_,fun y => ?_⟩
 ·
  by_cases hy:y=x
  ·
   subst hy
   rw[atKey_put_same h.map (show WideAt.IsKeyLit (Lit.string y) from trivial)]
   unfold zi
   congr 2
   simp
  ·
   rw[atKey_put_other (hne y hy),h.at_ y]
   unfold zi
   congr 2
   rw[qa2,List.count_singleton]
   have:(x==y)=false:=qr.2 (fun e=>hy e.symm)
   rw[this]
   simp
 ·
  by_cases hy:y=x
  ·
   subst hy
   rw[has_put_same h.map (show WideAt.IsKeyLit (Lit.string y) from trivial)]
   simp
  ·
   rw[has_put_other (hne y hy),h.has y]
   simp[hy]
end
section
open Go.RowKit Go.Maps Go.WideMaps
def qoj(w:World)(B n:Nat)(D:DataW Unit):Prop:=w.ownsMap Tryz.prog 9 (plainElem Tryz.prog 3) B n D
theorem qoj.out{w w':World}{B n:Nat}{D:DataW Unit}{X:Nat→Prop}(h:qoj w B n D)(ho:Out w w' X)(hB:¬X B):qoj w' B n D:=by
 have hlt:=h.lt
 obtain⟨es,clock,hb,rest⟩:=h
 exact⟨es,clock,(ho.block B hlt hB).trans hb,rest⟩
end
def cmpIn(x y:Int):Int:=if x<y then -1 else if y<x then 1 else 0
def or2(x y:Int):Int:=if x=0 then y else x
def gv(x:ByteArray×Int):List Value:=[.string x.1,.int .i64 x.2]
def qe7(x y:ByteArray×Int):Int:=or2 (cmpIn y.2 x.2) (yr x.1.data.toList y.1.data.toList)
end Go.Proofs.YtnjkipnklpkaoaaGreat
