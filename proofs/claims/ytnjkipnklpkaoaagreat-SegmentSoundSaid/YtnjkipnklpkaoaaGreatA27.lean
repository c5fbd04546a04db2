/-
  Lemmas.
-/
import Derived.Test.YtnjkipnklpkaoaaGreatA22
import Derived.Test.YtnjkipnklpkaoaaGreatA26
namespace Go.Proofs.YtnjkipnklpkaoaaGreat
open Go.RowKit
set_option maxRecDepth 20000
set_option maxHeartbeats 16000000
set_option linter.unusedSimpArgs false
set_option linter.unusedVariables false
theorem read_ne(bs:List UInt8)(k:Nat)(e m:Int)(h:(qa5 bs k e m).1≠[]):(qa5 bs k e m).2.2=0:=by
 unfold qa5 qed qc8 at h ⊢
 split at h
 ·
  exact absurd rfl h
 ·
  rename_i h1
  rw[if_neg h1]
  split at h
  ·
   rename_i h2
   rw[if_pos h2]
  ·
   exact absurd rfl h
theorem read_bounds{bs:List UInt8}{k:Nat}(e:Int){m:Nat}(hk:k≤bs.length)(hm:m≤2147483647):(qa5 bs k e (m:Int)).1.length≤m∧∀x∈(qa5 bs k e (m:Int)).1,x≤4294967295:=by
 by_cases h:(qa5 bs k e (m:Int)).1=[]
 ·
  rw[h]
  exact⟨by simp,fun x hx=>by cases hx⟩
 ·
  have h0:=read_ne bs k e m h
  have he:e=0:=Decidable.byContradiction fun hne=>h (by rw[qlt _ _ _ hne])
  subst he
  obtain⟨R,hR⟩:∃R,qa5 bs k 0 (m:Int)=R:=⟨_,rfl⟩
  rw[hR] at h0 ⊢
  obtain⟨ns,k2,e2⟩:=R
  dsimp only at h0
  subst h0
  obtain⟨g1,g2, -⟩:=qjp hk hm hR
  refine⟨g1,fun x hx => ?_⟩
  have:=g2 (x:Int) (xq hx)
  omega
theorem blocks_i64{count K:Nat}(hK:1≤K):((count:Int)+(K:Int)-1).tdiv (K:Int)=(jad count K:Int):=by
 have e:(count:Int)+(K:Int)-1=((count+K-1:Nat):Int):=by omega
 rw[e,←Int.ofNat_tdiv]
 rfl
theorem fopen_any{w:World}{lo g k:Nat}{bs:List UInt8}{e:Int}(hc:vw w lo g bs k e)(hbs:bs.length≤1000000000) :
  Calls Tryz.prog 136 #[cp g] w fun r w'=>∃(d:Nat) (ys:List ByteArray),r= .returned (.pointer (some ⟨d,0,none⟩))∧qm ys=(qcm bs k e).1∧Dc w' d ys∧w.heap.size≤d∧
   vw w' lo g bs (qcm bs k e).2.1 (qcm bs k e).2.2∧w.grownBy w' (some g):=by
 have hgl:=hc.lt
 have hm1:=qd4 bs k e 4096
 have HM1:=qa (qgm 4096 hc)
 unfold qcm
 generalize j8 bs k e 4096=C at *
 obtain⟨count,k1,e1⟩:=C
 dsimp only at HM1 hm1 ⊢
 have hm2:=qd4 bs k1 e1 64
 have HM2:=fun(w1:World) (h1:vw w1 lo g bs k1 e1)=>qa (qgm 64 h1)
 generalize j8 bs k1 e1 64=D at *
 obtain⟨K,k2,e2⟩:=D
 dsimp only at HM2 hm2 ⊢
 have hcount:count≤4096:=by omega
 have hK64:K≤64:=by omega
 have HF:=qa (fun w=>ffits_any (w:=w) (K:Int))
 clear hm1 hm2 hc
 unfold openK
 by_cases hK:1≤K∧K≤64
 ·
  rw[if_pos hK]
  rw[qp (show(1:Int)≤(K:Int)∧(K:Int)≤64 by omega)] at HF
  obtain⟨OM,hOM⟩:∃OM,qo5 bs count K k2 e2=OM:=⟨_,rfl⟩
  rw[hOM]
  unfold qo5 at hOM
  obtain⟨nb,hnb⟩:∃nb,jad count K=nb:=⟨_,rfl⟩
  have hnbc:nb≤count:=by rw[←hnb];exact qqs hK.1
  have hq1:=blocks_i64 (count:=count) hK.1
  have HBL:Hid (∀q,q<nb→q*K<count):=fun q hq=>qj6 hK.1 (by rw[hnb];exact hq)
  rw[hnb] at hOM hq1
  have HRD:=fun(w1:World) (h1:vw w1 lo g bs k2 e2)=>qa (qp9 (nb:Int) h1 (by omega))
  have hrb:=fun hk=>read_bounds (bs:=bs) (k:=k2) e2 (m:=nb) hk (by omega)
  generalize qa5 bs k2 e2 (nb:Int)=R at *
  obtain⟨ns,k3,e3⟩:=R
  dsimp only at HRD hrb hOM
  obtain⟨e4,he4⟩:∃e4,(if ns.length=nb then e3 else y9 e3)=e4:=⟨_,rfl⟩
  rw[he4] at hOM
  have HOM:=qa hOM
  have HE4:=qa he4
  have hK0:¬(K:Int)=0:=by omega
  clear hOM he4 hnb
  unfold cp at *
  go_enter Tryz.func136,Tryz.ntmps136
  go_wp2_with fail
  refine HM1.out.mono ?_
  rintro r w1 ⟨rfl,hc1,hg1⟩
  have HG1:=qa hg1
  have H2:=HM2 w1 hc1
  clear hg1 hc1 HM1 HM2
  go_wp2_with fail
  refine H2.out.mono ?_
  rintro r w2 ⟨rfl,hc2,hg2⟩
  have HG2:=qa (HG1.out.trans hg2)
  have H3:=HRD w2 hc2
  have hrb2:=hrb hc2.le
  clear hg2 hc2 H2 HRD HG1 hrb
  go_wp2_with fail
  refine(HF.out _).mono ?_
  rintro r w' ⟨rfl,rfl⟩
  go_wp2_with fail
  refine H3.out.mono ?_
  rintro r w3 ⟨A3,c3,rfl,ho3,hc3,hg3⟩
  have HO3:=qa ho3
  have HG3:=qa (HG2.out.trans hg3)
  by_cases hnn:ns.length=nb
  ·
   have he4:e3=e4:=by have:=HE4.out;rw[if_pos hnn] at this;exact this
   rw[he4] at hc3
   have bn:((ns.length:Int)==(nb:Int))=true:=by rw[beq_iff_eq];omega
   have bn2:((ns.length:Int) != (nb:Int))=false:=by rw[bne,bn];rfl
   have HC4:=qa hc3
   have HO4:=qa HO3.out
   have HG4:=qa HG3.out
   have HNN:=qa hnn
   clear HO3 HG3 hc3 ho3 hg3 H3 he4 hnn
   obtain⟨hnl,hnx⟩:=hrb2
   have HNX:=qa hnx
   have hgv:g<w3.heap.size:=by have:=HG4.out.size;omega
   have hsz2:w.heap.size≤w3.heap.size:=HG4.out.size
   have HD0:=qa (Dc.nil w3)
   have HC0:Hid (vw (w3.alloc (.cells #[.slice none 0 0] 205)) lo g bs k3 e4):=HC4.out.grown (World.grownBy_alloc w3 _ none) (fun x hx=>by cases hx)
   have HRW:=qa (Rd.of_own HO4.out)
   have hO0:Hid (Out w3 (w3.alloc (.cells #[.slice none 0 0] 205)) (fun i=>i=g∨w3.heap.size≤i)):=(Out.refl w3 _).alloc _
   obtain⟨W0,hW0⟩:∃W0,w3.alloc (.cells #[.slice none 0 0] 205)=W0:=⟨_,rfl⟩
   rw[hW0] at HD0 HC0 hO0
   have HNL:Hid (ns.length≤nb):=hnl
   have hnl2:ns.length≤4096:=by omega
   have hg2s:g<w2.heap.size:=by have:=HG2.out.size;omega
   clear hnx hnl HC4 HO4 hq1
   go_wp2_with fail
   clear hW0
   go_loopw [40] (fun x40 wr=>∃(j k':Nat) (e':Int) (zs:List ByteArray),j≤ns.length∧x40= .int .i64 (j:Int)∧zs.length≤64*j∧qhh bs count K (ns.drop j) j (qm zs) k' e'=OM∧
    Dc wr w3.heap.size zs∧vw wr lo g bs k' e'∧Out w3 wr (fun i=>i=g∨w3.heap.size≤i)) (fun j _=>ns.length-(intOf j).toNat)
   case atStart=>exact⟨0,k3,e4,[],qi _,rfl,by simp,by rw[jx];exact HOM.out,HD0.out,HC0.out,hO0.out⟩
   case round =>
    clear HD0 HC0 hO0 HOM
    obtain⟨j,k',e',zs,hj,rfl,hzl,hob,hdc,hcur,hout⟩:=hrel
    have HOB:=qa hob
    have HD:=qa hdc
    have HC:=qa hcur
    have HOO:=qa hout
    clear hob hdc hcur hout
    by_cases hlt:j<ns.length
    ·
     have ij:(j:Int)<(ns.length:Int):=by omega
     have hjc:j*K<count:=HBL.out j (ja hlt HNL.out)
     have hz:=HNX.out ns[j] (qj hlt)
     obtain⟨b,off,rfl,_,_,hcell⟩:=(HRW.out.out HOO.out (qc _) (fun q h1 h2 h3=>by rcases h3 with h3 | h3 <;> omega)).num (k:=j) (by rw[zj];exact hlt)
     have hze:(zu ns)[j]'(by rw[zj];exact hlt)=((ns[j]:Nat):Int):=by simp[zu]
     rw[hze] at hcell
     have hob:=HOB.out
     rw[zv hlt,qhh] at hob
     obtain⟨q,hq⟩:∃q,min K (count-j*K)=q:=⟨_,rfl⟩
     have hqK:q≤64:=by omega
     have HTK:=qa (ftake_any HC.out HD.out hgv q ns[j] hqK hz (by omega) (by omega))
     rw[hq] at hob
     generalize qg9 bs (qm zs) k' e' q ns[j]=T at *
     generalize ns[j]=z at *
     have HOB2:=qa hob
     obtain⟨p,hp⟩:∃p,j*K=p:=⟨_,rfl⟩
     have hp1:(j:Int)*(K:Int)=(p:Int):=by rw[←hp];exact(qar j K).symm
     have hp2:IntKind.i64.wrap ((j:Int)*(K:Int))=(p:Int):=by rw[hp1];exact z8 _ (by omega)
     have hp3:IntKind.i64.wrap ((count:Int)-(p:Int))=(count:Int)-(p:Int):=z8 _ (by omega)
     have hmin:min (K:Int) ((count:Int)-(p:Int))=(q:Int):=by omega
     clear hob hq hp HC HD HOB
     go_wp2_with fail
     refine HTK.out.mono ?_
     rintro r w5 ⟨rfl,ys',hy1,hy2,hd5,hc5,ho5⟩
     rw[←hy1] at HOB2
     have HOB5:=qa HOB2.out
     have HD5:=qa hd5
     have HC5:=qa hc5
     have HO5:Hid (Out w3 w5 (fun i=>i=g∨w3.heap.size≤i)):=HOO.out.trans ho5 (fun _ _ h=>h)
     clear hy1 hd5 hc5 ho5 hp1 hp2 hp3 hmin
     go_wp2_with fail
     go_roundw
     case rel=>exact⟨j+1,T.2.1,T.2.2,ys',by omega,by go_num,by omega,HOB5.out,HD5.out,HC5.out,HO5.out⟩
     case measure=>simp[intOf];omega
    ·
     have ij:¬(j:Int)<(ns.length:Int):=by omega
     have hob:=HOB.out
     rw[List.drop_eq_nil_of_le (by omega),qhh] at hob
     subst hob
     have HGD:=qa (xu HC.out)
     have hgw:w.grownBy wr (some g):=HG4.out.trans ⟨HOO.out.os,HOO.out.tape,HOO.out.output,HOO.out.size,fun q h1 h2=>HOO.out.block q h1 (fun h3=>by
      rcases h3 with h3 | h3
      ·
       exact h2 (by rw[h3])
      ·
       omega)⟩
     have HGW:=qa hgw
     clear hgw HOB
     by_cases he:e'=0
     ·
      subst he
      rw[show((0:Int)==0)=true from rfl] at HGD
      go_wp2_with fail
      refine HGD.out.mono ?_
      rintro r w' ⟨rfl,rfl⟩
      go_wp2_with fail
      go_ret
      exact⟨w3.heap.size,rfl,zs,rfl,HD.out,hsz2,HC.out,HGW.out⟩
     ·
      rw[show(e'==0)=false from qr.2 he] at HGD
      go_wp2_with fail
      refine HGD.out.mono ?_
      rintro r w' ⟨rfl,rfl⟩
      go_wp2_with fail
      go_ret
      have HCN:vw (wr.alloc (.cells #[.slice none 0 0] 205)) lo g bs k' e':=HC.out.grown (World.grownBy_alloc wr _ none) (fun x hx=>by cases hx)
      exact⟨wr.heap.size,rfl,[],by first | rfl | (rw[if_neg he];rfl),Dc.nil wr,HGW.out.size,by first | exact HCN | (rw[if_neg he];exact HCN),km HGW.out _⟩
  ·
   have he4:y9 e3=e4:=by have:=HE4.out;rw[if_neg hnn] at this;exact this
   have bn:((ns.length:Int)==(nb:Int))=false:=by rw[qr];omega
   have HFA:=qa (kx 3 hc3)
   rw[orForm_fail,he4] at HFA
   clear hc3 ho3 hg3 H3 he4
   go_wp2_with fail
   refine HFA.out.mono ?_
   rintro r wv ⟨rfl,hc4,hg4⟩
   have HC4:=qa hc4
   have HO4:Hid (wv.ownsRow w2.heap.size 3 1 (.slice A3 ns.length c3) ns.length (iv (zu ns))):=ju HO3.out (fun q hq=>hg4.block q (zk HO3.out hq).2 (fun e=>by injection e with e;have:=(zk HO3.out hq).1;have:=HG2.out.size;omega))
   have HG4:=qa (HG3.out.trans hg4)
   clear hc4 hg4 HFA HO3 HG3
   obtain⟨hnl,hnx⟩:=hrb2
   have HNX:=qa hnx
   have hgv:g<wv.heap.size:=by have:=HG4.out.size;omega
   have hsz2:w.heap.size≤wv.heap.size:=HG4.out.size
   have HD0:=qa (Dc.nil wv)
   have HC0:Hid (vw (wv.alloc (.cells #[.slice none 0 0] 205)) lo g bs k3 e4):=HC4.out.grown (World.grownBy_alloc wv _ none) (fun x hx=>by cases hx)
   have HRW:=qa (Rd.of_own HO4.out)
   have hO0:Hid (Out wv (wv.alloc (.cells #[.slice none 0 0] 205)) (fun i=>i=g∨wv.heap.size≤i)):=(Out.refl wv _).alloc _
   obtain⟨W0,hW0⟩:∃W0,wv.alloc (.cells #[.slice none 0 0] 205)=W0:=⟨_,rfl⟩
   rw[hW0] at HD0 HC0 hO0
   have HNL:Hid (ns.length≤nb):=hnl
   have hnl2:ns.length≤4096:=by omega
   have hg2s:g<w2.heap.size:=by have:=HG2.out.size;omega
   clear hnx hnl HC4 HO4 hq1
   go_wp2_with fail
   clear hW0
   go_loopw [40] (fun x40 wr=>∃(j k':Nat) (e':Int) (zs:List ByteArray),j≤ns.length∧x40= .int .i64 (j:Int)∧zs.length≤64*j∧qhh bs count K (ns.drop j) j (qm zs) k' e'=OM∧
    Dc wr wv.heap.size zs∧vw wr lo g bs k' e'∧Out wv wr (fun i=>i=g∨wv.heap.size≤i)) (fun j _=>ns.length-(intOf j).toNat)
   case atStart=>exact⟨0,k3,e4,[],qi _,rfl,by simp,by rw[jx];exact HOM.out,HD0.out,HC0.out,hO0.out⟩
   case round =>
    clear HD0 HC0 hO0 HOM
    obtain⟨j,k',e',zs,hj,rfl,hzl,hob,hdc,hcur,hout⟩:=hrel
    have HOB:=qa hob
    have HD:=qa hdc
    have HC:=qa hcur
    have HOO:=qa hout
    clear hob hdc hcur hout
    by_cases hlt:j<ns.length
    ·
     have ij:(j:Int)<(ns.length:Int):=by omega
     have hjc:j*K<count:=HBL.out j (ja hlt HNL.out)
     have hz:=HNX.out ns[j] (qj hlt)
     obtain⟨b,off,rfl,_,_,hcell⟩:=(HRW.out.out HOO.out (qc _) (fun q h1 h2 h3=>by rcases h3 with h3 | h3 <;> omega)).num (k:=j) (by rw[zj];exact hlt)
     have hze:(zu ns)[j]'(by rw[zj];exact hlt)=((ns[j]:Nat):Int):=by simp[zu]
     rw[hze] at hcell
     have hob:=HOB.out
     rw[zv hlt,qhh] at hob
     obtain⟨q,hq⟩:∃q,min K (count-j*K)=q:=⟨_,rfl⟩
     have hqK:q≤64:=by omega
     have HTK:=qa (ftake_any HC.out HD.out hgv q ns[j] hqK hz (by omega) (by omega))
     rw[hq] at hob
     generalize qg9 bs (qm zs) k' e' q ns[j]=T at *
     generalize ns[j]=z at *
     have HOB2:=qa hob
     obtain⟨p,hp⟩:∃p,j*K=p:=⟨_,rfl⟩
     have hp1:(j:Int)*(K:Int)=(p:Int):=by rw[←hp];exact(qar j K).symm
     have hp2:IntKind.i64.wrap ((j:Int)*(K:Int))=(p:Int):=by rw[hp1];exact z8 _ (by omega)
     have hp3:IntKind.i64.wrap ((count:Int)-(p:Int))=(count:Int)-(p:Int):=z8 _ (by omega)
     have hmin:min (K:Int) ((count:Int)-(p:Int))=(q:Int):=by omega
     clear hob hq hp HC HD HOB
     go_wp2_with fail
     refine HTK.out.mono ?_
     rintro r w5 ⟨rfl,ys',hy1,hy2,hd5,hc5,ho5⟩
     rw[←hy1] at HOB2
     have HOB5:=qa HOB2.out
     have HD5:=qa hd5
     have HC5:=qa hc5
     have HO5:Hid (Out wv w5 (fun i=>i=g∨wv.heap.size≤i)):=HOO.out.trans ho5 (fun _ _ h=>h)
     clear hy1 hd5 hc5 ho5 hp1 hp2 hp3 hmin
     go_wp2_with fail
     go_roundw
     case rel=>exact⟨j+1,T.2.1,T.2.2,ys',by omega,by go_num,by omega,HOB5.out,HD5.out,HC5.out,HO5.out⟩
     case measure=>simp[intOf];omega
    ·
     have ij:¬(j:Int)<(ns.length:Int):=by omega
     have hob:=HOB.out
     rw[List.drop_eq_nil_of_le (by omega),qhh] at hob
     subst hob
     have HGD:=qa (xu HC.out)
     have hgw:w.grownBy wr (some g):=HG4.out.trans ⟨HOO.out.os,HOO.out.tape,HOO.out.output,HOO.out.size,fun q h1 h2=>HOO.out.block q h1 (fun h3=>by
      rcases h3 with h3 | h3
      ·
       exact h2 (by rw[h3])
      ·
       omega)⟩
     have HGW:=qa hgw
     clear hgw HOB
     by_cases he:e'=0
     ·
      subst he
      rw[show((0:Int)==0)=true from rfl] at HGD
      go_wp2_with fail
      refine HGD.out.mono ?_
      rintro r w' ⟨rfl,rfl⟩
      go_wp2_with fail
      go_ret
      exact⟨wv.heap.size,rfl,zs,rfl,HD.out,hsz2,HC.out,HGW.out⟩
     ·
      rw[show(e'==0)=false from qr.2 he] at HGD
      go_wp2_with fail
      refine HGD.out.mono ?_
      rintro r w' ⟨rfl,rfl⟩
      go_wp2_with fail
      go_ret
      have HCN:vw (wr.alloc (.cells #[.slice none 0 0] 205)) lo g bs k' e':=HC.out.grown (World.grownBy_alloc wr _ none) (fun x hx=>by cases hx)
      exact⟨wr.heap.size,rfl,[],by first | rfl | (rw[if_neg he];rfl),Dc.nil wr,HGW.out.size,by first | exact HCN | (rw[if_neg he];exact HCN),km HGW.out _⟩
 ·
  rw[if_neg hK]
  rw[ql (show ¬((1:Int)≤(K:Int)∧(K:Int)≤64) by omega)] at HF
  unfold cp at *
  go_enter Tryz.func136,Tryz.ntmps136
  go_wp2_with fail
  refine HM1.out.mono ?_
  rintro r w1 ⟨rfl,hc1,hg1⟩
  have HG1:=qa hg1
  have H2:=HM2 w1 hc1
  clear hg1 hc1 HM1 HM2
  go_wp2_with fail
  refine H2.out.mono ?_
  rintro r w2 ⟨rfl,hc2,hg2⟩
  have HG2:=qa (HG1.out.trans hg2)
  have HC2:=qa hc2
  clear hg2 hc2 H2 HG1
  go_wp2_with fail
  refine(HF.out _).mono ?_
  rintro r w' ⟨rfl,rfl⟩
  go_wp2_with fail
  refine(kx 3 HC2.out).mono ?_
  rintro r w3 ⟨rfl,hc3,hg3⟩
  have HC3:Hid (vw w3 lo g bs k2 (y9 e2)):=hc3
  have HG3:=qa (HG2.out.trans hg3)
  clear hc3 hg3 HC2 HG2
  go_wp2_with fail
  go_ret
  refine⟨w3.heap.size,[],rfl,rfl,Dc.nil w3,HG3.out.size,HC3.out.grown (World.grownBy_alloc w3 _ none) (fun x hx=>by cases hx),km HG3.out _⟩
theorem flen_any{w:World}{d:Nat}{ys:List ByteArray}(h:Dc w d ys) :
  Calls Tryz.prog 178 #[.pointer (some ⟨d,0,none⟩)] w fun r w'=>r= .returned (.int .i64 (ys.length:Int))∧w=w':=flen_r h.reads
theorem takeCodes_v{w:World}{lo g G k n0 c0 dg:Nat}{bs:List UInt8}{e:Int}(kd:Nat)(there:List Bool)(ys:List ByteArray){A0:Option Addr}{v2 v3 v5:Value}(h:vw w lo g bs k e)(hb:bs.length≤1000000000)(hgG:g<G)
  (hG:j6 w G 106 #[.int .i64 (kd:Int),.slice A0 n0 c0,v2,v3,.pointer (some ⟨dg,0,none⟩),v5]) (ht:Rd w (g+1) w.heap.size A0 c0 (lv there)) (hn0:there.length=n0) (ht4:n0≤4096) (hd:Dc w dg ys) (hyl:ys.length≤1000000) :
  Calls Tryz.prog 137 #[.pointer (some ⟨G,0,none⟩),cp g] w fun r w'=>∃A n c,r= .returned (.slice A n c)∧vw w' lo g bs (uw bs k e (cnt there) ((ys.length:Int)-1)).2.1 (uw bs k e (cnt there) ((ys.length:Int)-1)).2.2∧w.grownBy w' (some g)∧
   ((uw bs k e (cnt there) ((ys.length:Int)-1)).1.length=cnt there→n=there.length∧Rd w' w.heap.size w'.heap.size A c (xw there (iv (zu (uw bs k e (cnt there) ((ys.length:Int)-1)).1)) (.int .i64 (-1)))):=by
 have hgl:=h.lt
 have hGl:=hG.lt
 have HBX:Hid (∀W,w.grownBy W (some g)→j6 W G 106 #[.int .i64 (kd:Int),.slice A0 n0 c0,v2,v3,.pointer (some ⟨dg,0,none⟩),v5]):=fun W hW=>hG.grown hW (by intro e;injection e with e;omega)
 have HTH:Hid (∀W,w.grownBy W (some g)→Rd W 0 W.heap.size A0 c0 (lv there)):=fun W hW=>(ht.grown hW (qc _) (fun q hq=>by cases hq;exact .inl (by omega))).wide (qi _) hW.size
 have HCF:Hid (∀W,w.grownBy W (some g)→W.cell? ⟨G,1,none⟩=some (.slice A0 n0 c0)∧W.cell? ⟨G,4,none⟩=some (.pointer (some ⟨dg,0,none⟩))):=fun W hW=>⟨(HBX.out W hW).cell 1,(HBX.out W hW).cell 4⟩
 have HCT:Hid (∀W,Below w.heap.size w W→Calls Tryz.prog 171 #[.slice A0 n0 c0] W fun r w'=>r= .returned (.int .i64 (cnt there:Int))∧W=w'):=fun W hW=>by
  have:=qj7 (w:=W) there (HTH.out W (qpi hW))
  rw[hn0] at this
  exact this
 have HLN:Hid (∀W,Below w.heap.size w W→Calls Tryz.prog 178 #[.pointer (some ⟨dg,0,none⟩)] W fun r w'=>r= .returned (.int .i64 (ys.length:Int))∧W=w'):=fun W hW=>flen_any (hd.below hW (qc _))
 have HTN:Hid (∀W,Below w.heap.size w W→Calls Tryz.prog 170 #[cp g,.int .i64 (cnt there:Int),.int .i64 ((ys.length:Int)-1)] W fun r w'=>∃A c,r= .returned (.slice A (uw bs k e (cnt there) ((ys.length:Int)-1)).1.length c)∧w'.ownsRow W.heap.size 3 1 (.slice A (uw bs k e (cnt there) ((ys.length:Int)-1)).1.length c) (uw bs k e (cnt there) ((ys.length:Int)-1)).1.length (iv (zu (uw bs k e (cnt there) ((ys.length:Int)-1)).1))∧
   vw w' lo g bs (uw bs k e (cnt there) ((ys.length:Int)-1)).2.1 (uw bs k e (cnt there) ((ys.length:Int)-1)).2.2∧W.grownBy w' (some g)):=fun W hW=>qm9 (cnt there) ((ys.length:Int)-1) (h.behind hW hgl) (by omega)
 have hcl:=qjf there
 have hnl:=numsR_len bs k e (cnt there) ((ys.length:Int)-1)
 generalize uw bs k e (cnt there) ((ys.length:Int)-1)=S at *
 obtain⟨ns,p,e1⟩:=S
 simp only at *
 have hwr:IntKind.i64.wrap ((ys.length:Int)-1)=(ys.length:Int)-1:=z8 _ (by omega)
 have KD:Hid (Below w.heap.size w w.drew):=(Below.refl _ _).drew
 have HN0:=qa hn0
 clear h hG ht hd hn0
 unfold cp at *
 go_enter Tryz.func137,Tryz.ntmps137
 go_wp2_with fail
 refine wp_region_held_drew (S:=fun w'=>w.grownBy w' (some g)) (by kernel_rfl) (gb_drew (vc _ _)) (fun hHeld => ?_)
 refine tk 0 ?_ rfl hHeld ?_ ?_
 rotate_left
 focus (intro W hSw;obtain⟨q1,q4⟩:=HCF.out W hSw;go_simp;try with_reducible rfl)
 try simp only[jv,Act.put]
 refine tk 1 ?_ rfl hHeld ?_ ?_
 rotate_left
 focus (intro W hSw;obtain⟨q1,q4⟩:=HCF.out W hSw;go_simp;try with_reducible rfl)
 try simp only[jv,Act.put]
 refine tk 2 ?_ rfl hHeld ?_ ?_
 rotate_left
 focus (intro W hSw;obtain⟨q1,q4⟩:=HCF.out W hSw;go_simp;try with_reducible rfl)
 try simp only[jv,Act.put]
 refine tk 3 ?_ rfl hHeld ?_ ?_
 rotate_left
 focus (intro W hSw;obtain⟨q1,q4⟩:=HCF.out W hSw;go_simp;try with_reducible rfl)
 try simp only[jv,Act.put]
 refine tk 4 ?_ rfl hHeld ?_ ?_
 rotate_left
 focus (intro W hSw;obtain⟨q1,q4⟩:=HCF.out W hSw;go_simp;try with_reducible rfl)
 try simp only[jv,Act.put]
 refine tk 6 ?_ rfl hHeld ?_ ?_
 rotate_left
 focus (intro W hSw;obtain⟨q1,q4⟩:=HCF.out W hSw;go_simp;try with_reducible rfl)
 try simp only[jv,Act.put]
 refine tk 7 ?_ rfl hHeld ?_ ?_
 rotate_left
 focus (intro W hSw;obtain⟨q1,q4⟩:=HCF.out W hSw;go_simp;try with_reducible rfl)
 try simp only[jv,Act.put]
 refine tk 8 ?_ rfl hHeld ?_ ?_
 rotate_left
 focus (intro W hSw;obtain⟨q1,q4⟩:=HCF.out W hSw;go_simp;try with_reducible rfl)
 try simp only[jv,Act.put]
 refine tk 9 ?_ rfl hHeld ?_ ?_
 rotate_left
 focus (intro W hSw;obtain⟨q1,q4⟩:=HCF.out W hSw;go_simp;try with_reducible rfl)
 try simp only[jv,Act.put]
 obtain⟨wd,hwd⟩:∃q,w.drew=q:=⟨_,rfl⟩
 have K_wd:Hid (Below w.heap.size w wd):=by rw[←hwd];exact KD.out
 rw[hwd] at hHeld ⊢
 have HG0:=qa hHeld
 clear KD hwd
 refine wpAnyH_ready (rs:=[5]) (by kernel_rfl) (by simp) ?_
 refine zc (o:=_) rfl (fun K hK => ?_) zm
 go_simp
 refine(HCT.out _ K_wd.out).mono ?_
 rintro r wx ⟨rfl,rfl⟩
 refine hK.out _ _ HG0.out (fun hHeld => ?_)
 clear hK K
 try simp only[jv,Act.put]
 refine wpAnyH_ready (rs:=[10]) (by kernel_rfl) (by simp) ?_
 refine zc (o:=_) rfl (fun K hK => ?_) zm
 go_simp
 refine(HLN.out _ K_wd.out).mono ?_
 rintro r wx ⟨rfl,rfl⟩
 refine hK.out _ _ HG0.out (fun hHeld => ?_)
 clear hK K
 try simp only[jv,Act.put]
 refine tk 11 ?_ rfl hHeld ?_ ?_
 rotate_left
 focus (intro W hSw;obtain⟨q1,q4⟩:=HCF.out W hSw;go_simp;try with_reducible rfl)
 try simp only[jv,Act.put]
 try rw[hwr]
 refine wpAnyH_ready (rs:=[12]) (by kernel_rfl) (by simp) ?_
 refine zc (o:=_) rfl (fun K hK => ?_) zm
 go_simp
 refine(HTN.out _ K_wd.out).mono ?_
 rintro r wy ⟨A1,c1,rfl,ho1,hc1,hg1⟩
 have HO1:=qa ho1
 have HC1:=qa hc1
 have HG1:Hid (w.grownBy wy (some g)):=HG0.out.trans hg1
 have b1:wy.cell? ⟨G,1,none⟩=some (.slice A0 n0 c0):=(HCF.out _ HG1.out).1
 clear ho1 hc1 hg1
 refine hK.out _ _ HG1.out (fun hHeld => ?_)
 clear hK K
 try simp only[jv,Act.put]
 refine tk 13 ?_ rfl hHeld ?_ ?_
 rotate_left
 focus (intro W hSw;obtain⟨q1,q4⟩:=HCF.out W hSw;go_simp;try with_reducible rfl)
 try simp only[jv,Act.put]
 refine wpAnyH_done (by kernel_rfl) ?_ _
 have hsg:=HG1.out.size
 clear HTN HCT HLN HCF
 by_cases hcn:ns.length=cnt there
 ·
  have HS:=qa (spreadI_yes (w:=wy) there (iv (zu ns)) (n:=n0) (m:=ns.length) (HTH.out wy HG1.out) ((Rd.of_own HO1.out).wide (qi _) (qc _)) HN0.out (by rw[ji,zj]) hcn (by omega) (fun v hv=>by
   obtain⟨z,_,rfl⟩:=zn.1 hv
   exact⟨_,rfl⟩))
  clear hcn
  go_wp2_with fail
  refine HS.out.mono ?_
  rintro r w6 ⟨A6,c6,rfl,ho6,hb6⟩
  have HO6:=qa ho6
  have HB6:=qa hb6
  clear ho6 hb6 HS
  go_wp2_with fail
  go_ret
  exact⟨_,_,_,rfl,HC1.out.behind HB6.out HC1.out.lt,HG1.out.trans (qpi HB6.out),fun _=>⟨HN0.out.symm,(Rd.of_own HO6.out).wide hsg (qc _)⟩⟩
 ·
  have HS:=qa (spreadI_no (w:=wy) there (n:=n0) (m:=ns.length) (B:=A1) (d:=c1) (v:= .int .i64 (-1)) (HTH.out wy HG1.out) HN0.out hcn)
  have HCN:=qa hcn
  clear hcn
  go_wp2_with fail
  refine HS.out.mono ?_
  rintro r w' ⟨rfl,rfl⟩
  go_wp2_with fail
  go_ret
  exact⟨_,_,_,rfl,HC1.out,HG1.out,fun h=>absurd h HCN.out⟩
theorem dc_set{w:World}{d G i:Nat}{ys:List ByteArray}{u:Value}(h:Dc w d ys)(hg:G<d):Dc (w.setCell ⟨G,i,none⟩ u) d ys:=by
 obtain⟨A,c,hb,ho⟩:=h
 exact⟨A,c,hb.far (by show d≠G;omega) u,ju ho (fun k hk=>Below.heap_setCell _ _ _ _ (by have:=(zk ho hk).1;show k≠G;omega))⟩
theorem nums_full{bs:List UInt8}{k n:Nat}{e m:Int}(hk:k≤bs.length)(hn:n≤2147483647):(uw bs k e n m).2.2=0→(uw bs k e n m).1.length=n:=fun h0=>by
 by_cases he:e=0
 ·
  subst he
  obtain⟨⟨l,q,z⟩,hR⟩:∃R,uw bs k 0 n m=R:=⟨_,rfl⟩
  rw[hR] at h0 ⊢
  simp only at h0
  subst h0
  exact(qnz hk hn hR).1
 ·
  rw[qmt bs k _ _ he] at h0
  exact absurd h0 he
theorem getK_right{bs:List UInt8}{k:Nat}{e:Int}(hk:k≤bs.length):yy (qff bs k e).1=true:=by
 obtain⟨⟨t,q,z⟩,hS⟩:∃S,qff bs k e=S:=⟨_,rfl⟩
 rw[hS]
 by_cases he:e=0
 ·
  subst he
  by_cases hz:z=0
  ·
   subst hz
   exact(getK_good hk hS).1
  ·
   unfold qff at hS
   split at hS
   ·
    rename_i h0
    rw[hS] at h0
    exact absurd h0 hz
   ·
    simp only[Prod.mk.injEq] at hS
    rw[←hS.1];rfl
 ·
  rw[getK_bad bs k he] at hS
  simp only[Prod.mk.injEq] at hS
  rw[←hS.1];rfl
theorem openR_few{bs:List UInt8}{k:Nat}{e:Int}(hk:k≤bs.length):(qcm bs k e).1.length≤4096:=by
 obtain⟨⟨t,q,z⟩,hS⟩:∃S,qcm bs k e=S:=⟨_,rfl⟩
 rw[hS]
 by_cases he:e=0
 ·
  subst he
  by_cases hz:z=0
  ·
   subst hz
   obtain⟨K,_,_,h,_⟩:=openR_good hk hS
   exact(qdi.1 h).1
  ·
   unfold qcm openK at hS
   split at hS
   ·
    split at hS
    ·
     rename_i h0
     rw[hS] at h0
     exact absurd h0 hz
    ·
     simp only[Prod.mk.injEq] at hS
     rw[←hS.1];simp
   ·
    simp only[Prod.mk.injEq] at hS
    rw[←hS.1];simp
 ·
  rw[openR_bad bs k he] at hS
  simp only[Prod.mk.injEq] at hS
  rw[←hS.1];simp
theorem take_two{w:World}{lo g G k c0 B:Nat}{bs:List UInt8}{e:Int}(there:List Bool){A0:Option Addr}(h:vw w lo g bs k e)(hb:bs.length≤1000000000)(hgB:g<B)(hBG:B≤G)
  (hG:j6 w G 106 #[.int .i64 2,.slice A0 there.length c0,.slice none 0 0,.slice none 0 0,.pointer none,.slice none 0 0]) (ht:Rd w (G+1) w.heap.size A0 c0 (lv there)) (ht4:there.length≤4096) :
  Calls Tryz.prog 89 #[.pointer (some ⟨G,0,none⟩),cp g] w fun r w'=>r= .returned (.tuple #[])∧vw w' lo g bs (qac bs k e 2 there).2.1 (qac bs k e 2 there).2.2∧Out w w' (fun i=>i=g∨i=G)∧
   ((qac bs k e 2 there).2.2=0→qcp w' B G (qac bs k e 2 there).1):=by
 have hgl:=h.lt
 have hGl:=hG.lt
 have hk:=h.le
 have hgG:g<G:=by omega
 have b0:=hG.cell 0
 simp only[zl,q9,zb] at b0
 have HSG:=qa (sget_at h hb)
 have HTC:Hid (qac bs k e 2 there=(⟨2,there,(qbq bs (qff bs k e).2.1 (qff bs k e).2.2 (cnt there) 8192 (qfq (qff bs k e).1)).1,(qff bs k e).1,[],[]⟩,(qbq bs (qff bs k e).2.1 (qff bs k e).2.2 (cnt there) 8192 (qfq (qff bs k e).1)).2)):=by unfold Hid;rw[qac,if_neg (by decide),if_pos rfl]
 have HRT:Hid (yy (qff bs k e).1=true):=getK_right hk
 rw[HTC.out]
 have HG0:=qa hG
 have HTH:=qa ht
 generalize qff bs k e=S at *
 obtain⟨T,q0,e0⟩:=S
 simp only at *
 obtain⟨⟨l,q,z⟩,hN⟩:∃R,qbq bs q0 e0 (cnt there) 8192 (qfq T)=R:=⟨_,rfl⟩
 rw[hN]
 simp only
 have HNR:=qa hN
 clear h hG ht HTC hN
 unfold cp at *
 go_enter Tryz.func89,Tryz.ntmps89
 go_wp2_with fail
 refine HSG.out.mono ?_
 rintro r w1 ⟨A3,c3,rfl,ho3,hc1,hg1⟩
 have hs1:=hg1.size
 have hk1:=hc1.le
 have HC1:=qa hc1
 have HG1:=qa hg1
 have HR3:=qa (Rd.of_own ho3)
 have hx:=HG0.out.grown hg1 (by intro e;injection e with e;omega)
 have x3:=hx.cell 3
 have f3:=hx.frozen 3
 simp only[zl,q9,zb] at x3
 obtain⟨w2,hw2⟩:∃w2,w1.setCell ⟨G,3,none⟩ (.slice A3 T.length c3)=w2:=⟨_,rfl⟩
 have hx2:j6 w2 G 106 #[.int .i64 2,.slice A0 there.length c0,.slice none 0 0,.slice A3 T.length c3,.pointer none,.slice none 0 0]:=by rw[←hw2];simpa using hx.put 3 (.slice A3 T.length c3)
 have hs2:w2.heap.size=w1.heap.size:=by rw[←hw2];simp[World.setCell]
 have HC2:Hid (vw w2 lo g bs q0 e0):=by unfold Hid;rw[←hw2];exact qi4 HC1.out hgG
 have HTH2:Hid (Rd w2 (G+1) w2.heap.size A0 c0 (lv there)):=by unfold Hid;rw[hs2,←hw2];exact(qgk (HTH.out.grown HG1.out (qc _) (fun r hr=>by cases hr;exact .inl (by omega))) (.inl (by omega))).wide (qc _) hs1
 have HR32:Hid (Rd w2 w.heap.size w2.heap.size A3 c3 (sv (j7 T))):=by unfold Hid;rw[hs2,←hw2];exact qgk HR3.out (.inl hGl)
 have HO2:Hid (Out w w2 (fun i=>i=g∨i=G)):=by unfold Hid;rw[←hw2];exact(out_gG HG1.out).setCell (p:=⟨G,3,none⟩) (.inl (.inr rfl)) _
 have HTR:=qa (takeRaws_v 2 there T 8192 (qfq T) HC2.out hb hgG hx2 (HTH2.out.wide (by omega) (qc _)) rfl ht4 (.inr ⟨rfl,rfl,HRT.out,rfl,HR32.out.wide (by omega) (qc _)⟩) (by decide))
 have HLN:Hid ((qbq bs q0 e0 (cnt there) 8192 (qfq T)).2.2=0→(qbq bs q0 e0 (cnt there) 8192 (qfq T)).1.length=cnt there):=raws_full hk1 (by omega)
 rw[HNR.out] at HTR HLN
 have HG2:=qa hx2
 have y2:=hx2.cell 2
 have h2:=hx2.frozen 2
 have y0:=hx2.cell 0
 simp only[zl,q9,zb] at y2 y0
 simp only at HTR HLN
 have hs12:w1.heap.size≤w2.heap.size:=by omega
 clear hx hx2 ho3 hc1 hg1 HC1 HTH HR3 HG0 b0 HSG hs2
 unfold cp at *
 go_wp2_with fail
 refine HTR.out.mono ?_
 rintro r w3 ⟨A1,n1,c1,rfl,hc3,hg3,hp3⟩
 have hs3:=hg3.size
 have HC3:=qa hc3
 have HG3:=qa hg3
 have HP3:=qa hp3
 have hx:=HG2.out.grown hg3 (by intro e;injection e with e;omega)
 have HX:=qa (hx.put 2 (.slice A1 n1 c1))
 have z2:=hx.cell 2
 have zf2:=hx.frozen 2
 simp only[zl,q9,zb] at z2
 have HTH3:=qa (HTH2.out.grown hg3 (qc _) (fun r hr=>by cases hr;exact .inl (by omega)))
 have HR33:=qa (HR32.out.grown hg3 (qc _) (fun r hr=>by cases hr;exact .inl hgl))
 clear hc3 hg3 hp3 hx HTR hw2 x3 f3 y2 h2 y0
 go_wp2_with fail
 refine bodyPost_end (results_none rfl _ _ _) rfl ?_
 refine⟨rfl,qi4 HC3.out hgG,(HO2.out.trans (Out.of_gb (X:=fun i=>i=g∨i=G) HG3.out (fun k hk=>by cases hk;exact .inl rfl)) (fun i _ h=>h)).setCell (p:=⟨G,2,none⟩) (.inl (.inr rfl)) _,fun hz => ?_⟩
 obtain⟨hn1,ps,hps,hr,hpp⟩:=HP3.out (HLN.out hz)
 have hsz:(w3.setCell ⟨G,2,none⟩ (.slice A1 n1 c1)).heap.size=w3.heap.size:=by simp[World.setCell]
 refine⟨A0,c0,A1,n1,c1,A3,T.length,c3,none,none,0,0,by simpa using HX.out,hBG,?_,fun _=>⟨hn1,ps,hps,?_,?_⟩,fun _=>⟨rfl,?_⟩,fun h=>absurd h (show ¬(2:Nat)=3 by decide)⟩
 ·
  rw[hsz];exact(qgk HTH3.out (.inl (by omega))).wide (by omega) hs3
 ·
  rw[hsz];exact(qgk hr (.inl (by omega))).wide (by omega) (qc _)
 ·
  rw[hsz];exact(prt_set hpp (.inl (by omega))).wide (by omega) (qc _)
 ·
  rw[hsz];exact(qgk HR33.out (.inl hGl)).wide (by omega) hs3
theorem take_three{w:World}{lo g G k c0 B:Nat}{bs:List UInt8}{e:Int}(there:List Bool){A0:Option Addr}(h:vw w lo g bs k e)(hb:bs.length≤1000000000)(hgB:g<B)(hBG:B≤G)
  (hG:j6 w G 106 #[.int .i64 3,.slice A0 there.length c0,.slice none 0 0,.slice none 0 0,.pointer none,.slice none 0 0]) (ht:Rd w (G+1) w.heap.size A0 c0 (lv there)) (ht4:there.length≤4096) :
  Calls Tryz.prog 89 #[.pointer (some ⟨G,0,none⟩),cp g] w fun r w'=>r= .returned (.tuple #[])∧vw w' lo g bs (qac bs k e 3 there).2.1 (qac bs k e 3 there).2.2∧Out w w' (fun i=>i=g∨i=G)∧
   ((qac bs k e 3 there).2.2=0→qcp w' B G (qac bs k e 3 there).1):=by
 have hgl:=h.lt
 have hGl:=hG.lt
 have hk:=h.le
 have hgG:g<G:=by omega
 have b0:=hG.cell 0
 simp only[zl,q9,zb] at b0
 have HOP:=qa (fopen_any h (by omega))
 have HTC:Hid (qac bs k e 3 there=(⟨3,there,[],[],(qcm bs k e).1,(uw bs (qcm bs k e).2.1 (qcm bs k e).2.2 (cnt there) (((qcm bs k e).1.length:Int)-1)).1⟩,(uw bs (qcm bs k e).2.1 (qcm bs k e).2.2 (cnt there) (((qcm bs k e).1.length:Int)-1)).2)):=by unfold Hid;rw[qac,if_neg (by decide),if_neg (by decide),if_pos rfl]
 have HDL:Hid ((qcm bs k e).1.length≤4096):=openR_few hk
 rw[HTC.out]
 have HG0:=qa hG
 have HTH:=qa ht
 generalize qcm bs k e=S at *
 obtain⟨D,q0,e0⟩:=S
 simp only at *
 obtain⟨⟨l,q,z⟩,hN⟩:∃R,uw bs q0 e0 (cnt there) ((D.length:Int)-1)=R:=⟨_,rfl⟩
 rw[hN]
 simp only
 have HNR:=qa hN
 clear h hG ht HTC hN
 unfold cp at *
 go_enter Tryz.func89,Tryz.ntmps89
 go_wp2_with fail
 refine HOP.out.mono ?_
 rintro r w1 ⟨dg,ys,rfl,hys,hdc,hdg,hc1,hg1⟩
 have hyl:ys.length=D.length:=by rw[←hys,qx]
 have HYL:=qa hyl
 have HYS:=qa hys
 have hyl4:ys.length≤4096:=by rw[hyl];exact HDL.out
 have hs1:=hg1.size
 have hk1:=hc1.le
 have HC1:=qa hc1
 have HG1:=qa hg1
 have hx:=HG0.out.grown hg1 (by intro e;injection e with e;omega)
 have x4:=hx.cell 4
 have f4:=hx.frozen 4
 simp only[zl,q9,zb] at x4
 obtain⟨w2,hw2⟩:∃w2,w1.setCell ⟨G,4,none⟩ (.pointer (some ⟨dg,0,none⟩))=w2:=⟨_,rfl⟩
 have hx2:j6 w2 G 106 #[.int .i64 3,.slice A0 there.length c0,.slice none 0 0,.slice none 0 0,.pointer (some ⟨dg,0,none⟩),.slice none 0 0]:=by rw[←hw2];simpa using hx.put 4 (.pointer (some ⟨dg,0,none⟩))
 have hs2:w2.heap.size=w1.heap.size:=by rw[←hw2];simp[World.setCell]
 have HC2:Hid (vw w2 lo g bs q0 e0):=by unfold Hid;rw[←hw2];exact qi4 HC1.out hgG
 have HTH2:Hid (Rd w2 (G+1) w2.heap.size A0 c0 (lv there)):=by unfold Hid;rw[hs2,←hw2];exact(qgk (HTH.out.grown HG1.out (qc _) (fun r hr=>by cases hr;exact .inl (by omega))) (.inl (by omega))).wide (qc _) hs1
 have HD2:Hid (Dc w2 dg ys):=by unfold Hid;rw[←hw2];exact dc_set hdc (by omega)
 have HO2:Hid (Out w w2 (fun i=>i=g∨i=G)):=by unfold Hid;rw[←hw2];exact(out_gG HG1.out).setCell (p:=⟨G,4,none⟩) (.inl (.inr rfl)) _
 have HTR:=qa (takeCodes_v 3 there ys HC2.out hb hgG hx2 (HTH2.out.wide (by omega) (qc _)) rfl ht4 HD2.out (by omega))
 have HLN:Hid ((uw bs q0 e0 (cnt there) ((ys.length:Int)-1)).2.2=0→(uw bs q0 e0 (cnt there) ((ys.length:Int)-1)).1.length=cnt there):=nums_full hk1 (by have:=qjf there;omega)
 rw[hyl,HNR.out] at HTR HLN
 have HG2:=qa hx2
 have y0:=hx2.cell 0
 simp only[zl,q9,zb] at y0
 simp only at HTR HLN
 have hs12:w1.heap.size≤w2.heap.size:=by omega
 have hdgG:G<dg:=by omega
 clear hx hx2 hdc hc1 hg1 HC1 HTH HG0 b0 HOP hs2 hyl hys
 unfold cp at *
 go_wp2_with fail
 refine HTR.out.mono ?_
 rintro r w3 ⟨A1,n1,c1,rfl,hc3,hg3,hp3⟩
 have hs3:=hg3.size
 have HC3:=qa hc3
 have HG3:=qa hg3
 have HP3:=qa hp3
 have hx:=HG2.out.grown hg3 (by intro e;injection e with e;omega)
 have HX:=qa (hx.put 5 (.slice A1 n1 c1))
 have z5:=hx.cell 5
 have zf5:=hx.frozen 5
 simp only[zl,q9,zb] at z5
 have HTH3:=qa (HTH2.out.grown hg3 (qc _) (fun r hr=>by cases hr;exact .inl (by omega)))
 have HD3:=qa (HD2.out.cur hg3 (by omega))
 clear hc3 hg3 hp3 hx HTR hw2 x4 f4 y0
 go_wp2_with fail
 refine bodyPost_end (results_none rfl _ _ _) rfl ?_
 refine⟨rfl,qi4 HC3.out hgG,(HO2.out.trans (Out.of_gb (X:=fun i=>i=g∨i=G) HG3.out (fun k hk=>by cases hk;exact .inl rfl)) (fun i _ h=>h)).setCell (p:=⟨G,5,none⟩) (.inl (.inr rfl)) _,fun hz => ?_⟩
 obtain⟨hn1,hr⟩:=HP3.out (HLN.out hz)
 have hsz:(w3.setCell ⟨G,5,none⟩ (.slice A1 n1 c1)).heap.size=w3.heap.size:=by simp[World.setCell]
 refine⟨A0,c0,none,0,0,none,0,0,some ⟨dg,0,none⟩,A1,n1,c1,by simpa using HX.out,hBG,?_,fun h=>absurd h (show ¬((3:Nat)=1∨(3:Nat)=2) by decide),fun h=>absurd h (show ¬(3:Nat)=2 by decide),fun _=>⟨dg,ys,rfl,dc_set HD3.out hdgG,HYS.out,hn1,?_,by omega⟩⟩
 ·
  rw[hsz];exact(qgk HTH3.out (.inl (by omega))).wide (by omega) hs3
 ·
  rw[hsz];exact(qgk hr (.inl (by omega))).wide (by omega) (qc _)
theorem take_any17{w:World}{lo g G k c0 B:Nat}{bs:List UInt8}{e:Int}(kd:Nat)(there:List Bool){A0:Option Addr}(h:vw w lo g bs k e)(hb:bs.length≤1000000000)(hgB:g<B)(hBG:B≤G)
  (hG:j6 w G 106 #[.int .i64 (kd:Int),.slice A0 there.length c0,.slice none 0 0,.slice none 0 0,.pointer none,.slice none 0 0]) (ht:Rd w (G+1) w.heap.size A0 c0 (lv there)) (ht4:there.length≤4096) (hok:¬(1≤kd∧kd≤3)→e≠0) :
  Calls Tryz.prog 89 #[.pointer (some ⟨G,0,none⟩),cp g] w fun r w'=>r= .returned (.tuple #[])∧vw w' lo g bs (qac bs k e kd there).2.1 (qac bs k e kd there).2.2∧Out w w' (fun i=>i=g∨i=G)∧
   ((qac bs k e kd there).2.2=0→qcp w' B G (qac bs k e kd there).1):=by
 by_cases h1:kd=1
 ·
  subst h1;exact take_one there h hb hgB hBG hG ht ht4
 ·
  by_cases h2:kd=2
  ·
   subst h2;exact take_two there h hb hgB hBG hG ht ht4
  ·
   by_cases h3:kd=3
   ·
    subst h3;exact take_three there h hb hgB hBG hG ht ht4
   ·
    refine(take_other kd h1 h2 h3 there h hb hgB hBG hG ht ht4).mono ?_
    rintro r w' ⟨rfl,hc,ho⟩
    refine⟨rfl,hc,ho,fun hz => ?_⟩
    have e1:qac bs k e kd there=(⟨kd,there,[],[],[],[]⟩,k,e):=by rw[qac,if_neg h1,if_neg h2,if_neg h3]
    rw[e1] at hz
    exact absurd hz (hok (by omega))
theorem open_v{w:World}{lo g k:Nat}{bs:List UInt8}{e:Int}(h:vw w lo g bs k e)(hb:bs.length≤1000000000) :
  Calls Tryz.prog 46 #[cp g] w fun r w'=>∃G,r= .returned (.pointer (some ⟨G,0,none⟩))∧w.heap.size≤G∧qcp w' w.heap.size G (qb3 bs k e).1∧vw w' lo g bs (qb3 bs k e).2.1 (qb3 bs k e).2.2∧w.grownBy w' (some g) :=
 open_vW h hb fun kd _=>fun {w G k c0 e} there {A0} h1 h2 h3 h4 h5 h6 h7 h8=>take_any17 kd there h1 h2 h3 h4 h5 h6 h7 h8
theorem openH_all{bs:List UInt8}(h:∀k,OpenS bs k):qrx bs:=by
 intro nc k0 cn k1 i kp left m k2 j kq b k3 e0 e1 gs' cs fg fr hM hN hi hG hL hm hj hC hT
 exact fun {w lo g} hc=>h _ hc
theorem openH_any{bs:List UInt8}(h:bs.length≤1000000000):qrx bs:=openH_all fun _=>fun {_ _ _} hc=>open_v hc h
theorem qex{b:List UInt8}(h:b.length≤1000000000):qrx (b.take (b.length-4)):=openH_any (by rw[qy];omega)
end Go.Proofs.YtnjkipnklpkaoaaGreat
