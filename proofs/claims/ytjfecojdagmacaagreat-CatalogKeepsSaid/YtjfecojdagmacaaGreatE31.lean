/-
  Lemmas.
-/
import Derived.Test.YtjfecojdagmacaaGreatE28
import Derived.Lib.SliceRun
namespace Go.Proofs.YtjfecojdagmacaaGreat
open Go.RowKit
set_option maxRecDepth 20000
set_option maxHeartbeats 16000000
set_option linter.unusedSimpArgs false
set_option linter.unusedVariables false
theorem readEnd_nil(bs:List UInt8)(n wd k:Nat)(e:Int):(qbk bs n wd k e).2.2≠0→(qbk bs n wd k e).1=[]:=by
 unfold qbk
 split
 ·
  exact fun _=>rfl
 ·
  split
  ·
   exact fun h=>absurd rfl h
  ·
   exact fun _=>rfl
theorem readR_nil(bs:List UInt8)(k:Nat)(e m:Int):(ue bs k e m).2.2≠0→(ue bs k e m).1=[]:=readEnd_nil _ _ _ _ _
theorem readR_small{bs:List UInt8}{k:Nat}{e:Int}{m:Nat}(hm:m≤2147483647)(hk:k≤bs.length){ns:List Nat}{k2:Nat}{e2:Int}(h:ue bs k e (m:Int)=(ns,k2,e2)):(∀x∈ns,x<4294967296)∧ns.length≤2147483647:=by
 by_cases h2:e2=0
 ·
  subst h2
  by_cases h1:e=0
  ·
   subst h1
   obtain⟨a1,a2, -⟩:=qgx hk hm h
   refine⟨fun x hx => ?_,by omega⟩
   have:=a2 (x:Int) (za.2 ⟨x,hx,rfl⟩)
   omega
  ·
   rw[qid _ _ _ h1] at h
   simp only[Prod.mk.injEq] at h
   exact absurd h.2.2 h1
 ·
  have:=readR_nil bs k e m
  rw[h] at this
  have e3:=this h2
  dsimp only at e3
  subst e3
  exact⟨fun x hx=>absurd hx vd,by simp⟩
theorem take_list{bs:List UInt8}{k k1 k2:Nat}{e e1 e2 e':Int}{ns gs:List Nat}(hk:k≤bs.length)(hM:z8 bs k e 65536=(0,k1,e1))(hR:ue bs k1 e1 65536=(ns,k2,e2))(hL:ListG ns e2 gs e') :
  TakeG bs k e 0 (if e'=0 then gs else []) [] k2 e':=by
 refine⟨fun h=>⟨rfl,if_neg h,rfl⟩,fun h => ?_,fun b0 gs0 rs0 rest he hf hd => ?_⟩
 ·
  subst h
  rw[if_pos rfl]
  obtain⟨h1,h2,h3⟩:=hL.ok rfl
  subst h1
  by_cases h4:e1=0
  ·
   subst h4
   by_cases h5:e=0
   ·
    subst h5
    obtain⟨-, -,m3,m4,m5⟩:=qab hk hM
    obtain⟨r1, -,r3,r4,r5⟩:=qgx (m:=65536) m5 (by omega) hR
    have hlen:gs.length=ns.length:=by rw[←jl,h2,zq]
    have hw:xg 0 gs []=jc 0++jr (jf ns):=by rw[←h2];exact if_neg (qay 0)
    refine⟨rfl,⟨by omega,rfl,fun h=>absurd h (qay 0),h3.up,h3.lt,by omega⟩,?_,?_,r5⟩
    ·
     rw[hw,m3,r3,qm]
    ·
     rw[hw,qd];omega
   ·
    rw[qf3 _ _ _ h5] at hM
    simp only[Prod.mk.injEq] at hM
    exact absurd hM.2.2 h5
  ·
   rw[qid _ _ _ h4] at hR
   simp only[Prod.mk.injEq] at hR
   exact absurd hR.2.2 h4
 ·
  subst he
  have hle:=hf.le
  rcases jh b0 with h0 | h0
  ·
   subst h0
   have hw:xg 0 gs0 rs0=jc 0++jr (ya gs0):=if_neg (qay 0)
   rw[hw,qm] at hd
   have hmay:=qem hf.up hf.lt
   have hM2:=vp (m:=65536) hd (by omega) (by omega)
   rw[hM] at hM2
   simp only[Prod.mk.injEq,true_and] at hM2
   obtain⟨hk1,he1⟩:=hM2
   subst he1
   have hd1:bs.drop k1=jr (ya gs0)++rest:=by rw[hk1,←zu,hd,jn]
   obtain⟨-, -, -, -,m5⟩:=qab hk hM
   have hR2:=qf0 (ya gs0) hmay 65536 m5 hd1 (by rw[jl];exact hf.few) (by omega)
   rw[show((65536:Nat):Int)=65536 from rfl,hR] at hR2
   simp only[Prod.mk.injEq] at hR2
   obtain⟨hn, -,he2⟩:=hR2
   have hi:ya gs0=jf ns:=by rw[hn,qi2 (fun z h=>(hmay z h).1)]
   have he':=hL.there he2 gs0 ⟨hf.up,hf.lt⟩ hi
   subst he'
   refine⟨rfl,rfl,?_,?_⟩
   ·
    rw[if_pos rfl]
    exact qjs ((hL.ok rfl).2.1.trans hi.symm)
   ·
    exact(ze hf.rows).symm
  ·
   have hw:xg b0 gs0 rs0=jc b0++xz rs0:=if_pos h0
   rw[hw,qm] at hd
   have hM2:=vp (m:=65536) hd (by omega) (by omega)
   rw[hM] at hM2
   simp only[Prod.mk.injEq] at hM2
   omega
theorem take_set{bs:List UInt8}{k k1 k2 b:Nat}{e e1 e2:Int}{rs:List Bool}(hk:k≤bs.length)(hb0:0<b)(hM:z8 bs k e 65536=(b,k1,e1))(hR:qat bs k1 e1 (b:Int)=(rs,k2,e2))(e':Int)(he':e'=if rs.length=b then e2 else if e2=0 then 3 else e2) :
  TakeG bs k e (if e'=0 then b else 0) [] (if e'=0 then rs else []) k2 e':=by
 refine⟨fun h=>⟨if_neg h,rfl,if_neg h⟩,fun h => ?_,fun b0 gs0 rs0 rest he hf hd => ?_⟩
 ·
  rw[h] at he' ⊢
  rw[if_pos rfl,if_pos rfl]
  by_cases hl:rs.length=b
  ·
   rw[if_pos hl] at he'
   subst he'
   by_cases h4:e1=0
   ·
    subst h4
    by_cases h5:e=0
    ·
     subst h5
     obtain⟨m1, -,m3,m4,m5⟩:=qab hk hM
     obtain⟨-,r3,r4,r5⟩:=bread_good m5 hR
     have hw:xg b [] rs=jc b++xz rs:=if_pos hb0
     refine⟨rfl,⟨by omega,hl,fun _=>rfl,List.Pairwise.nil,fun g hg=>absurd hg vd,by simp⟩,?_,?_,r5⟩
     ·
      rw[hw,m3,r3,qm]
     ·
      rw[hw,qd];omega
    ·
     rw[qf3 _ _ _ h5] at hM
     simp only[Prod.mk.injEq] at hM
     exact absurd hM.2.2 h5
   ·
    rw[qg6 _ _ _ h4] at hR
    simp only[Prod.mk.injEq] at hR
    exact absurd hR.2.2 h4
  ·
   rw[if_neg hl] at he'
   split at he'
   ·
    exact absurd he'.symm (by decide)
   ·
    rename_i h6;exact absurd he'.symm h6
 ·
  subst he
  have hle:=hf.le
  have hrl:=hf.rows
  rcases jh b0 with h0 | h0
  ·
   subst h0
   have hw:xg 0 gs0 rs0=jc 0++jr (ya gs0):=if_neg (qay 0)
   rw[hw,qm] at hd
   have hM2:=vp (m:=65536) hd (by omega) (by omega)
   rw[hM] at hM2
   simp only[Prod.mk.injEq] at hM2
   omega
  ·
   have hw:xg b0 gs0 rs0=jc b0++xz rs0:=if_pos h0
   rw[hw,qm] at hd
   have hM2:=vp (m:=65536) hd (by omega) (by omega)
   rw[hM] at hM2
   simp only[Prod.mk.injEq] at hM2
   obtain⟨hb,hk1,he1⟩:=hM2
   subst hb he1
   have hd1:bs.drop k1=xz rs0++rest:=by rw[hk1,←zu,hd,jn]
   obtain⟨-, -, -, -,m5⟩:=qab hk hM
   have hR2:=qgj rs0 (b:Int) m5 hd1 (by omega) (by omega)
   rw[hR] at hR2
   simp only[Prod.mk.injEq] at hR2
   obtain⟨hr, -,he2⟩:=hR2
   subst hr he2
   rw[if_pos hrl] at he'
   subst he'
   exact⟨rfl,if_pos rfl,(hf.none hb0).symm,if_pos rfl⟩
theorem gtakeSet_any{w:World}{lo g k:Nat}{bs:List UInt8}{e:Int}(hc:xq w lo g bs k e)(hbs:bs.length≤1000000000)(b:Nat)(hb:b≤65536)(rs:List Bool)(k1:Nat)(e1:Int)(hR:qat bs k e (b:Int)=(rs,k1,e1))(e':Int)(he':e'=if rs.length=b then e1 else if e1=0 then 3 else e1) :
  Calls Tryz.prog 125 #[cp g,.int .i64 (b:Int)] w fun r w'=>∃(A:Option Addr) (c:Nat),r= .returned (.slice A rs.length c)∧w'.ownsRow w.heap.size 4 1 (.slice A rs.length c) rs.length (lv rs)∧
   xq w' lo g bs k1 e'∧w.grownBy w' (some g):=by
 have hgl:=hc.lt
 have HPR:=qa (qi7 (b:Int) (by omega) hc (by omega))
 rw[hR] at HPR
 dsimp only at HPR
 clear hc hR
 unfold cp
 go_enter Tryz.func125,Tryz.ntmps125
 go_wp2_with fail
 refine HPR.out.mono ?_
 rintro r w1 ⟨A1,c1,rfl,ho1,hc1,hg1⟩
 have HO1:=qa ho1
 have HC1:=qa hc1
 have HG1:=qa hg1
 have s1:=hg1.size
 have hlc:=(Rd.of_own ho1).len
 have hmc:=(Rd.of_own ho1).cap
 rw[qac] at hlc
 unfold maxLen at hmc
 clear ho1 hc1 hg1 HPR
 by_cases hl:rs.length=b
 ·
  rw[if_pos hl] at he'
  subst hl he'
  go_wp2_with fail
  go_ret
  exact⟨A1,c1,rfl,HO1.out,HC1.out,HG1.out⟩
 ·
  rw[if_neg hl] at he'
  have i1:¬(rs.length:Int)=(b:Int):=by omega
  have i2:(((rs.length:Int))==(b:Int))=false:=q9.2 i1
  have i3:(((rs.length:Int)) != (b:Int))=true:=by rw[bne,i2];rfl
  have HFA:=qa (ve 3 HC1.out)
  rw[←he'] at HFA
  unfold cp at HFA
  clear hl he'
  go_wp2_with fail
  refine HFA.out.mono ?_
  rintro r w5 ⟨rfl,hc5,hg5⟩
  have HC5:=qa hc5
  have HG5:=qa (HG1.out.trans hg5)
  have HO5:=qa (jw HO1.out (fun q hq=>hg5.block q (zk HO1.out hq).2 (fun e=>by have:=(zk HO1.out hq).1;injection e with e;omega)))
  clear hc5 hg5 HFA
  go_wp2_with fail
  go_ret
  exact⟨A1,c1,rfl,HO5.out,HC5.out,HG5.out⟩
theorem gread_any{w:World}{lo g k:Nat}{bs:List UInt8}{e:Int}(hc:xq w lo g bs k e)(hbs:bs.length≤1000000000) :
  Calls Tryz.prog 86 #[cp g] w fun r w'=>∃(v:Value) (b:Nat) (gs:List Nat) (rs:List Bool) (k':Nat) (e':Int),r= .returned v∧TakeG bs k e b gs rs k' e'∧Flt w' w.heap.size w'.heap.size v b gs rs∧xq w' lo g bs k' e'∧Out w w' (fun i=>i=g):=by
 have hgl:=hc.lt
 have hkl:=hc.le
 obtain⟨w1,hw1⟩:∃w1,w.alloc (.cells #[.int .i64 0,.slice none 0 0,.slice none 0 0] 110)=w1:=⟨_,rfl⟩
 have B1:Hid (Below w.heap.size w w1):=by unfold Hid;rw[←hw1];exact(Below.refl _ w).alloc (qc _) _
 have HK1:Hid (j8 w1 w.heap.size 110 #[.int .i64 0,.slice none 0 0,.slice none 0 0]):=by unfold Hid;rw[←hw1];exact j8.new w _ _
 have hs1:w.heap.size<w1.heap.size:=by rw[←hw1];simp
 have HC1:=qa (hc.behind B1.out hgl)
 have HM:=qa (qcv 65536 HC1.out)
 have hml:=qbb bs k e 65536
 obtain⟨M,hM⟩:∃M,z8 bs k e 65536=M:=⟨_,rfl⟩
 rw[hM] at HM hml
 obtain⟨b,k1,e1⟩:=M
 dsimp only at HM hml
 have hb:b≤65536:=by omega
 have HMR:=qa hM
 have hbuild:=ql4
 clear hc hM hml
 unfold cp at HM ⊢
 go_enter Tryz.func86,Tryz.ntmps86
 go_wp2_with fail
 refine HM.out.mono ?_
 rintro r w2 ⟨rfl,hc2,hg2⟩
 have HC2:=qa hc2
 have HG2:=qa hg2
 have s2:=hg2.size
 have HK2:=qa (HK1.out.grown hg2 (fun e=>by injection e with e;omega))
 clear hc2 hg2 HM hw1
 by_cases hb0:b=0
 ·
  subst hb0
  rw[show((0:Nat):Int)=0 from rfl]
  go_wp2_with fail
  obtain⟨w3,hw3⟩:∃w3,w2.alloc (.cells #[.int .i64 0,.slice none 0 0,.slice none 0 0] 110)=w3:=⟨_,rfl⟩
  rw[hw3]
  have B23:Below w2.heap.size w2 w3:=by rw[←hw3];exact(Below.refl _ w2).alloc (qc _) _
  have HK3:=qa (HK2.out.below B23 (by omega))
  have HF3:Hid (j8 w3 w2.heap.size 110 #[.int .i64 0,.slice none 0 0,.slice none 0 0]):=by unfold Hid;rw[←hw3];exact j8.new w2 _ _
  have HC3:=qa (HC2.out.behind B23 (by omega))
  have HO3:Hid (Out w w3 (fun i=>i=g)):=by
   unfold Hid
   rw[←hw3]
   exact((Out.of_below (X:=fun i=>i=g) B1.out).trans (Out.of_gb (X:=fun i=>i=g) HG2.out (fun q hq=>by injection hq with hq;exact hq.symm)) (fun _ _ h=>h)).alloc _
  have s3:w2.heap.size<w3.heap.size:=by rw[←hw3];simp
  obtain⟨R,hR⟩:∃R,ue bs k1 e1 65536=R:=⟨_,rfl⟩
  obtain⟨ns,k2,e2⟩:=R
  obtain⟨hn1,hn2⟩:=readR_small (m:=65536) (by omega) HC2.out.le hR
  have HTK:=qa (gtakeList_any HC3.out hbs ns k2 e2 hR hn1 hn2)
  unfold cp at HTK
  have HRR:=qa hR
  clear hw3 B23 hR hn1
  refine HTK.out.mono ?_
  rintro r w4 ⟨gs,A4,c4,e4,rfl,ho4,hc4,hL,hg4⟩
  have HTG:=qa (take_list hkl HMR.out HRR.out hL)
  clear hL
  have hF4:=HF3.out.grown hg4 (fun e=>by injection e with e;omega)
  have HF4:=qa hF4
  have HK4:=qa (HK3.out.grown hg4 (fun e=>by injection e with e;omega))
  have q1:=hF4.cell 1
  have f1:=hF4.frozen 1
  have HR4:=qa ho4
  have HC4:=qa hc4
  have HO4:=qa (HO3.out.trans (Out.of_gb (X:=fun i=>i=g) hg4 (fun q hq=>by injection hq with hq;exact hq.symm)) (fun _ _ h=>h))
  have s4:=hg4.size
  clear hF4 ho4 hc4 hg4 HTK
  go_wp2_with fail
  obtain⟨w5,hw5⟩:∃w5,w4.setCell ⟨w2.heap.size,1,none⟩ (.slice A4 gs.length c4)=w5:=⟨_,rfl⟩
  rw[hw5]
  have g45:w4.grownBy w5 (some w2.heap.size):=by rw[←hw5];exact yr (yx w4 (some w2.heap.size)) (.inl rfl) _
  have hF5:j8 w5 w2.heap.size 110 #[.int .i64 0,.slice A4 gs.length c4,.slice none 0 0]:=by rw[←hw5];exact HF4.out.put 1 _
  have HF5:=qa hF5
  have hK5:=HK4.out.grown g45 (fun e=>by injection e with e;omega)
  have HK5:=qa hK5
  have HC5:=qa (HC4.out.grown g45 (fun x hx=> .inr (by injection hx with hx;omega)))
  have HO5:Hid (Out w w5 (fun i=>i=g)):=by unfold Hid;rw[←hw5];exact HO4.out.setCell (.inr (by show w.heap.size≤w2.heap.size;omega)) _
  have HR5:Hid (w5.ownsRow w3.heap.size 3 1 (.slice A4 gs.length c4) gs.length (iv (jf gs))):=by
   unfold Hid
   rw[←hw5]
   exact qaa HR4.out ((Out.refl w4 (fun q=>q=w2.heap.size)).setCell (p:=⟨w2.heap.size,1,none⟩) (.inl rfl) _) (fun q hq e=>by have:=zk HR4.out hq;omega)
  have s5:=g45.size
  have HGD:=qa (yq HC5.out)
  unfold cp at HGD
  have u0:=hF5.cell 0
  have u1:=hF5.cell 1
  have u2:=hF5.cell 2
  have v0:=hK5.cell 0
  have v1:=hK5.cell 1
  have v2:=hK5.cell 2
  have y0:=hK5.frozen 0
  have y1:=hK5.frozen 1
  have y2:=hK5.frozen 2
  clear hw5 g45 hF5 hK5 q1 f1
  by_cases he:e4=0
  ·
   subst he
   go_wp2_with fail
   refine HGD.out.mono ?_
   rintro r w' ⟨rfl,rfl⟩
   clear HGD
   go_wp2_with fail
   obtain⟨w6,hw6⟩:∃w6,((w5.setCell ⟨w.heap.size,0,none⟩ (.int .i64 0)).setCell ⟨w.heap.size,1,none⟩ (.slice A4 gs.length c4)).setCell ⟨w.heap.size,2,none⟩ (.slice none 0 0)=w6:=⟨_,rfl⟩
   try rw[hw6]
   have hk6:j8 w6 w.heap.size 110 #[.int .i64 0,.slice A4 gs.length c4,.slice none 0 0]:=by rw[←hw6];exact((HK5.out.put 0 _).put 1 _).put 2 _
   have g56:w5.grownBy w6 (some w.heap.size):=by rw[←hw6];exact yr (yr (yr (yx w5 (some w.heap.size)) (p:=⟨w.heap.size,0,none⟩) (.inl rfl) _) (p:=⟨w.heap.size,1,none⟩) (.inl rfl) _) (p:=⟨w.heap.size,2,none⟩) (.inl rfl) _
   have ho6:=HO5.out.trans (Out.of_gb (X:=fun q=>q=w.heap.size) g56 (fun q hq=>by injection hq with hq;exact hq.symm)) (fun q hq e=>by omega)
   have hc6:=HC5.out.grown g56 (fun x hx=> .inr (by injection hx with hx;omega))
   have hr6:=jw HR5.out (fun q hq=>g56.block q (zk HR5.out hq).2 (fun e=>by have:=(zk HR5.out hq).1;injection e with e;omega))
   have htg:TakeG bs k e 0 gs [] k2 0:=by simpa only[if_true] using HTG.out
   refine bodyPost_ret (v:= .agg #[.int .i64 0,.slice A4 gs.length c4,.slice none 0 0]) ?_ rfl ⟨_,0,gs,[],k2,0,rfl,htg,⟨A4,c4,none,0,rfl,(Rd.of_own hr6).wide (by omega) (qc _),Rd.nil _ _ _⟩,hc6,ho6⟩
   exact results_cell_row rfl _ _ w.heap.size 110 _ (0,0) _ rfl hk6 Tryz.underlying110 rfl (by kernel_rfl)
  ·
   have hbe:(e4==0)=false:=q9.2 he
   rw[hbe] at HGD
   have HE:=qa he
   clear hbe he
   go_wp2_with fail
   refine HGD.out.mono ?_
   rintro r w' ⟨rfl,rfl⟩
   clear HGD
   go_wp2_with fail
   obtain⟨w6,hw6⟩:∃w6,((w5.setCell ⟨w.heap.size,0,none⟩ (.int .i64 0)).setCell ⟨w.heap.size,1,none⟩ (.slice none 0 0)).setCell ⟨w.heap.size,2,none⟩ (.slice none 0 0)=w6:=⟨_,rfl⟩
   try rw[hw6]
   have hk6:j8 w6 w.heap.size 110 #[.int .i64 0,.slice none 0 0,.slice none 0 0]:=by rw[←hw6];exact((HK5.out.put 0 _).put 1 _).put 2 _
   have g56:w5.grownBy w6 (some w.heap.size):=by rw[←hw6];exact yr (yr (yr (yx w5 (some w.heap.size)) (p:=⟨w.heap.size,0,none⟩) (.inl rfl) _) (p:=⟨w.heap.size,1,none⟩) (.inl rfl) _) (p:=⟨w.heap.size,2,none⟩) (.inl rfl) _
   have ho6:=HO5.out.trans (Out.of_gb (X:=fun q=>q=w.heap.size) g56 (fun q hq=>by injection hq with hq;exact hq.symm)) (fun q hq e=>by omega)
   have hc6:=HC5.out.grown g56 (fun x hx=> .inr (by injection hx with hx;omega))
   have htg:=HTG.out
   rw[if_neg HE.out] at htg
   refine bodyPost_ret (v:= .agg #[.int .i64 0,.slice none 0 0,.slice none 0 0]) ?_ rfl ⟨_,0,[],[],k2,e4,rfl,htg,⟨none,0,none,0,rfl,Rd.nil _ _ _,Rd.nil _ _ _⟩,hc6,ho6⟩
   exact results_cell_row rfl _ _ w.heap.size 110 _ (0,0) _ rfl hk6 Tryz.underlying110 rfl (by kernel_rfl)
 ·
  have ib0:¬(b:Int)=0:=by omega
  have ib1:((b:Int)==0)=false:=q9.2 ib0
  go_wp2_with fail
  obtain⟨w3,hw3⟩:∃w3,w2.alloc (.cells #[.int .i64 (b:Int),.slice none 0 0,.slice none 0 0] 110)=w3:=⟨_,rfl⟩
  rw[hw3]
  have B23:Below w2.heap.size w2 w3:=by rw[←hw3];exact(Below.refl _ w2).alloc (qc _) _
  have HK3:=qa (HK2.out.below B23 (by omega))
  have HF3:Hid (j8 w3 w2.heap.size 110 #[.int .i64 (b:Int),.slice none 0 0,.slice none 0 0]):=by unfold Hid;rw[←hw3];exact j8.new w2 _ _
  have HC3:=qa (HC2.out.behind B23 (by omega))
  have HO3:Hid (Out w w3 (fun i=>i=g)):=by
   unfold Hid
   rw[←hw3]
   exact((Out.of_below (X:=fun i=>i=g) B1.out).trans (Out.of_gb (X:=fun i=>i=g) HG2.out (fun q hq=>by injection hq with hq;exact hq.symm)) (fun _ _ h=>h)).alloc _
  have s3:w2.heap.size<w3.heap.size:=by rw[←hw3];simp
  obtain⟨R,hR⟩:∃R,qat bs k1 e1 (b:Int)=R:=⟨_,rfl⟩
  obtain⟨rs,k2,e2⟩:=R
  obtain⟨e4,he4⟩:∃e4,e4=if rs.length=b then e2 else if e2=0 then 3 else e2:=⟨_,rfl⟩
  have HTG:=qa (take_set hkl (by omega) HMR.out hR e4 he4)
  have HLB:Hid (e4=0→rs.length=b):=fun h=>by
   rw[h] at he4
   split at he4
   ·
    assumption
   ·
    split at he4
    ·
     exact absurd he4 (by decide)
    ·
     rename_i h6;exact absurd he4.symm h6
  have HTK:=qa (gtakeSet_any HC3.out hbs b hb rs k2 e2 hR e4 he4)
  unfold cp at HTK
  clear hw3 B23 hR he4
  refine HTK.out.mono ?_
  rintro r w4 ⟨A4,c4,rfl,ho4,hc4,hg4⟩
  have hF4:=HF3.out.grown hg4 (fun e=>by injection e with e;omega)
  have HF4:=qa hF4
  have HK4:=qa (HK3.out.grown hg4 (fun e=>by injection e with e;omega))
  have q1:=hF4.cell 2
  have f1:=hF4.frozen 2
  have HR4:=qa ho4
  have HC4:=qa hc4
  have HO4:=qa (HO3.out.trans (Out.of_gb (X:=fun i=>i=g) hg4 (fun q hq=>by injection hq with hq;exact hq.symm)) (fun _ _ h=>h))
  have s4:=hg4.size
  clear hF4 ho4 hc4 hg4 HTK
  go_wp2_with fail
  obtain⟨w5,hw5⟩:∃w5,w4.setCell ⟨w2.heap.size,2,none⟩ (.slice A4 rs.length c4)=w5:=⟨_,rfl⟩
  rw[hw5]
  have g45:w4.grownBy w5 (some w2.heap.size):=by rw[←hw5];exact yr (yx w4 (some w2.heap.size)) (.inl rfl) _
  have hF5:j8 w5 w2.heap.size 110 #[.int .i64 (b:Int),.slice none 0 0,.slice A4 rs.length c4]:=by rw[←hw5];exact HF4.out.put 2 _
  have HF5:=qa hF5
  have hK5:=HK4.out.grown g45 (fun e=>by injection e with e;omega)
  have HK5:=qa hK5
  have HC5:=qa (HC4.out.grown g45 (fun x hx=> .inr (by injection hx with hx;omega)))
  have HO5:Hid (Out w w5 (fun i=>i=g)):=by unfold Hid;rw[←hw5];exact HO4.out.setCell (.inr (by show w.heap.size≤w2.heap.size;omega)) _
  have HR5:Hid (w5.ownsRow w3.heap.size 4 1 (.slice A4 rs.length c4) rs.length (lv rs)):=by
   unfold Hid
   rw[←hw5]
   exact qaa HR4.out ((Out.refl w4 (fun q=>q=w2.heap.size)).setCell (p:=⟨w2.heap.size,2,none⟩) (.inl rfl) _) (fun q hq e=>by have:=zk HR4.out hq;omega)
  have s5:=g45.size
  have HGD:=qa (yq HC5.out)
  unfold cp at HGD
  have u0:=hF5.cell 0
  have u1:=hF5.cell 1
  have u2:=hF5.cell 2
  have v0:=hK5.cell 0
  have v1:=hK5.cell 1
  have v2:=hK5.cell 2
  have y0:=hK5.frozen 0
  have y1:=hK5.frozen 1
  have y2:=hK5.frozen 2
  clear hw5 g45 hF5 hK5 q1 f1
  by_cases he:e4=0
  ·
   subst he
   go_wp2_with fail
   refine HGD.out.mono ?_
   rintro r w' ⟨rfl,rfl⟩
   clear HGD
   go_wp2_with fail
   obtain⟨w6,hw6⟩:∃w6,((w5.setCell ⟨w.heap.size,0,none⟩ (.int .i64 (b:Int))).setCell ⟨w.heap.size,1,none⟩ (.slice none 0 0)).setCell ⟨w.heap.size,2,none⟩ (.slice A4 rs.length c4)=w6:=⟨_,rfl⟩
   try rw[hw6]
   have hk6:j8 w6 w.heap.size 110 #[.int .i64 (b:Int),.slice none 0 0,.slice A4 rs.length c4]:=by rw[←hw6];exact((HK5.out.put 0 _).put 1 _).put 2 _
   have g56:w5.grownBy w6 (some w.heap.size):=by rw[←hw6];exact yr (yr (yr (yx w5 (some w.heap.size)) (p:=⟨w.heap.size,0,none⟩) (.inl rfl) _) (p:=⟨w.heap.size,1,none⟩) (.inl rfl) _) (p:=⟨w.heap.size,2,none⟩) (.inl rfl) _
   have ho6:=HO5.out.trans (Out.of_gb (X:=fun q=>q=w.heap.size) g56 (fun q hq=>by injection hq with hq;exact hq.symm)) (fun q hq e=>by omega)
   have hc6:=HC5.out.grown g56 (fun x hx=> .inr (by injection hx with hx;omega))
   have hr6:=jw HR5.out (fun q hq=>g56.block q (zk HR5.out hq).2 (fun e=>by have:=(zk HR5.out hq).1;injection e with e;omega))
   have htg:TakeG bs k e b [] rs k2 0:=by simpa only[if_true] using HTG.out
   refine bodyPost_ret (v:= .agg #[.int .i64 (b:Int),.slice none 0 0,.slice A4 rs.length c4]) ?_ rfl ⟨_,b,[],rs,k2,0,rfl,htg,⟨none,0,A4,c4,rfl,Rd.nil _ _ _,(Rd.of_own hr6).wide (by omega) (qc _)⟩,hc6,ho6⟩
   exact results_cell_row rfl _ _ w.heap.size 110 _ (0,0) _ rfl hk6 Tryz.underlying110 rfl (by kernel_rfl)
  ·
   have hbe:(e4==0)=false:=q9.2 he
   rw[hbe] at HGD
   have HE:=qa he
   clear hbe he
   go_wp2_with fail
   refine HGD.out.mono ?_
   rintro r w' ⟨rfl,rfl⟩
   clear HGD
   go_wp2_with fail
   obtain⟨w6,hw6⟩:∃w6,((w5.setCell ⟨w.heap.size,0,none⟩ (.int .i64 0)).setCell ⟨w.heap.size,1,none⟩ (.slice none 0 0)).setCell ⟨w.heap.size,2,none⟩ (.slice none 0 0)=w6:=⟨_,rfl⟩
   try rw[hw6]
   have hk6:j8 w6 w.heap.size 110 #[.int .i64 0,.slice none 0 0,.slice none 0 0]:=by rw[←hw6];exact((HK5.out.put 0 _).put 1 _).put 2 _
   have g56:w5.grownBy w6 (some w.heap.size):=by rw[←hw6];exact yr (yr (yr (yx w5 (some w.heap.size)) (p:=⟨w.heap.size,0,none⟩) (.inl rfl) _) (p:=⟨w.heap.size,1,none⟩) (.inl rfl) _) (p:=⟨w.heap.size,2,none⟩) (.inl rfl) _
   have ho6:=HO5.out.trans (Out.of_gb (X:=fun q=>q=w.heap.size) g56 (fun q hq=>by injection hq with hq;exact hq.symm)) (fun q hq e=>by omega)
   have hc6:=HC5.out.grown g56 (fun x hx=> .inr (by injection hx with hx;omega))
   have htg:=HTG.out
   rw[if_neg HE.out,if_neg HE.out] at htg
   refine bodyPost_ret (v:= .agg #[.int .i64 0,.slice none 0 0,.slice none 0 0]) ?_ rfl ⟨_,0,[],[],k2,e4,rfl,htg,⟨none,0,none,0,rfl,Rd.nil _ _ _,Rd.nil _ _ _⟩,hc6,ho6⟩
   exact results_cell_row rfl _ _ w.heap.size 110 _ (0,0) _ rfl hk6 Tryz.underlying110 rfl (by kernel_rfl)
theorem open_short{w:World}(bs:List UInt8){h':Nat}{A:Option Addr}{c:Nat}(h:Rd w 0 h' A c (bv bs))(hh:h'≤w.heap.size)(hb:bs.length<4) :
  Calls Tryz.prog 63 #[.slice A bs.length c] w fun r w'=>r= .returned (.tuple #[.slice none 0 0,.bool false])∧Below w.heap.size w w':=by
 have hd:decide ((bs.length:Int)-4<0)=true:=by simp;omega
 go_enter Tryz.func63,Tryz.ntmps63
 go_wp2
 go_outline
 go_quiet (fail)
 go_wp2
 go_ret2
 exact⟨rfl,js (Below.refl _ _) _⟩
theorem equal_len{w:World}{lo h' lo2 h2 n m:Nat}{A B:Option Addr}{c d:Nat}(xs ys:List UInt8)(b:Bool)(hx:Rd w lo h' A c (bv xs))(hy:Rd w lo2 h2 B d (bv ys))(hn:xs.length=n)(hm:ys.length=m)(he:decide (xs=ys)=b) :
  Calls Tryz.prog 92 #[.slice A n c,.slice B m d] w fun r w'=>r= .returned (.bool b)∧w=w':=by
 subst hn hm he
 exact equal_any xs ys hx hy
theorem seal_len{w:World}{n:Nat}(bs xs:List UInt8){h':Nat}{A:Option Addr}{c:Nat}(h:Rd w 0 h' A c (bv bs))(hh:h'≤w.heap.size)(hn:n≤bs.length)(hx:bs.take n=xs) :
  Calls Tryz.prog 62 #[.slice A n c] w fun r w'=>∃A' c',r= .returned (.slice A' 4 c')∧
   w'.ownsRow w.heap.size 5 1 (.slice A' 4 c') 4 (bv (qf9 (qeh xs)))∧Below w.heap.size w w':=by
 subst hx
 have h1:=seal_any (w:=w) (bs.take n) (A:=A) (c:=c) (h':=h') (by rw[bv_take];exact h.take_ n) hh
 rwa [qy,vr hn] at h1
theorem bclone_len{w:World}{n:Nat}(bs xs:List UInt8){h':Nat}{A:Option Addr}{c:Nat}(h:Rd w 0 h' A c (bv bs))(hh:h'≤w.heap.size)(hn:n≤bs.length)(hx:bs.take n=xs)(hb:bs.length≤1000000000) :
  Calls Tryz.prog 61 #[.slice A n c] w fun r w'=>∃A' c',r= .returned (.slice A' n c')∧
   w'.ownsRow w.heap.size 5 1 (.slice A' n c') n (bv xs)∧Below w.heap.size w w':=by
 subst hx
 have h1:=bclone_any (w:=w) (bs.take n) (A:=A) (c:=c) (h':=h') (by rw[bv_take];exact h.take_ n) hh (by rw[qy];omega)
 rwa [qy,vr hn] at h1
theorem Rd.behind{w:World}{lo hi c n:Nat}{A:Option Addr}{bs:List UInt8}(h:Rd w lo hi A c (bv bs))(hn:n<bs.length):Rd w lo hi (Option.map (fun x=>x.add n) A) (c-n) (bv (bs.drop n)):=by
 have hl:=h.len
 rw[jj] at hl
 have h1:=h.cut (k:=n) (n:=bs.length) (by omega) (by rw[jj];omega)
 rw[if_neg (by omega),qp (by simp[bv])] at h1
 rw[qk7]
 exact h1
theorem open_no{w:World}(bs:List UInt8){h':Nat}{A:Option Addr}{c:Nat}(h:Rd w 0 h' A c (bv bs))(hh:h'≤w.heap.size)(hb:4≤bs.length)(hs:kj bs=false) :
  Calls Tryz.prog 63 #[.slice A bs.length c] w fun r w'=>r= .returned (.tuple #[.slice none 0 0,.bool false])∧Below w.heap.size w w':=by
 obtain⟨n,hn⟩:∃n,bs.length=n+4:=⟨bs.length-4,by omega⟩
 have hd:decide ((n:Int)<0)=false:=by simp
 have hsub:(bs.length:Int)-4=(n:Int):=by omega
 have hl:=h.len
 have hc:=h.cap
 rw[jj] at hl
 unfold maxLen at hc
 have l1:(0:Int)≤(n:Int):=by omega
 have l2:(n:Int)≤(bs.length:Int):=by omega
 have l3:(n:Int)<(c:Int):=by omega
 have l4:(bs.length:Int)≤(c:Int):=by omega
 have l5:n<c:=by omega
 have l6:(n:Int)≤(c:Int):=by omega
 have l7:n≤c:=by omega
 have HE:Hid (decide (bs.drop n=qf9 (qeh (bs.take n)))=false):=by
  unfold Hid
  unfold kj at hs
  rw[qx hb,qda,show bs.length-4=n from by omega] at hs
  exact hs
 have HN:=qa hn
 have H:=qa h
 clear h hn hs
 go_enter Tryz.func63,Tryz.ntmps63
 go_wp2
 go_region_held3 (fun _=>True) (trivial) (first
  | (go_at_call 62;refine(seal_len bs (bs.take n) H.out.drew hh (by omega) rfl).mono ?_;rintro r w1 ⟨A3,c3,rfl,hown,hb1⟩;have HO:=qa hown;have HB:=qa hb1;clear hown hb1)
  | (go_at_call 92;refine(equal_len (bs.drop n) (qf9 (qeh (bs.take n))) false ((H.out.drew.below HB.out hh).behind (by have:=HN.out;omega)) (Rd.own HO.out) (by rw[qv]) (qc3 _) HE.out).mono ?_;rintro r w2 ⟨rfl,rfl⟩))
 go_wp2
 go_ret2
 exact⟨rfl,zz (Below.drew (Below.refl w.heap.size w)) HB.out (qc _)⟩
theorem open_yes{w:World}(bs:List UInt8){h':Nat}{A:Option Addr}{c:Nat}(h:Rd w 0 h' A c (bv bs))(hh:h'≤w.heap.size)(hs:kj bs=true)(hbig:bs.length≤1000000000) :
  Calls Tryz.prog 63 #[.slice A bs.length c] w fun r w'=>∃A' c',r= .returned (.tuple #[.slice A' (bs.length-4) c',.bool true])∧
   w'.ownsRow w.heap.size 5 1 (.slice A' (bs.length-4) c') (bs.length-4) (bv (bs.take (bs.length-4)))∧Below w.heap.size w w':=by
 have hb:4≤bs.length:=by
  unfold kj at hs
  simp only[jq,decide_eq_true_eq] at hs
  exact hs.1
 obtain⟨n,hn⟩:∃n,bs.length=n+4:=⟨bs.length-4,by omega⟩
 have hd:decide ((n:Int)<0)=false:=by simp
 have hsub:(bs.length:Int)-4=(n:Int):=by omega
 have hl:=h.len
 have hc:=h.cap
 rw[jj] at hl
 unfold maxLen at hc
 have l1:(0:Int)≤(n:Int):=by omega
 have l2:(n:Int)≤(bs.length:Int):=by omega
 have l3:(n:Int)<(c:Int):=by omega
 have l4:(bs.length:Int)≤(c:Int):=by omega
 have l5:n<c:=by omega
 have l6:(n:Int)≤(c:Int):=by omega
 have l7:n≤c:=by omega
 have HE:Hid (decide (bs.drop n=qf9 (qeh (bs.take n)))=true):=by
  unfold Hid
  unfold kj at hs
  rw[qx hb,qda,show bs.length-4=n from by omega] at hs
  exact hs
 have HN:=qa hn
 have H:=qa h
 clear h hn hs
 go_enter Tryz.func63,Tryz.ntmps63
 go_wp2
 go_region_held3 (fun _=>True) (trivial) (first
  | (go_at_call 62;refine(seal_len bs (bs.take n) H.out.drew hh (by omega) rfl).mono ?_;rintro r w1 ⟨A3,c3,rfl,hown,hb1⟩;have HO:=qa hown;have HB:=qa hb1;clear hown hb1)
  | (go_at_call 92;refine(equal_len (bs.drop n) (qf9 (qeh (bs.take n))) true ((H.out.drew.below HB.out hh).behind (by have:=HN.out;omega)) (Rd.own HO.out) (by rw[qv]) (qc3 _) HE.out).mono ?_;rintro r w2 ⟨rfl,rfl⟩))
 have k1:=zz (Below.drew (Below.refl w.heap.size w)) HB.out (qc _)
 have K1:=qa k1
 have s1:=k1.size
 clear k1
 go_wp2_with fail
 refine(bclone_len bs (bs.take n) (H.out.below K1.out hh) (by omega) (by omega) rfl hbig).mono ?_
 rintro r w2 ⟨A4,c4,rfl,hown4,hb4⟩
 have HO4:=qa hown4
 have HB4:=qa hb4
 clear hown4 hb4
 go_wp2
 go_ret2
 have e:bs.length-4=n:=by have:=HN.out;omega
 rw[e]
 exact⟨A4,c4,rfl,j9 HO4.out s1,zz K1.out HB4.out s1⟩
end Go.Proofs.YtjfecojdagmacaaGreat
