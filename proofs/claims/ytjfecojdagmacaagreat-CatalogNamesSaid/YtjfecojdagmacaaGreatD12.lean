/-
  Lemmas.
-/
import Derived.Test.YtjfecojdagmacaaGreatD11
import Derived.Shelf.LaysM
import Derived.Shelf.Strconv.Clone
namespace Go.Proofs.YtjfecojdagmacaaGreat
open Go.RowKit
set_option maxRecDepth 20000
set_option maxHeartbeats 16000000
set_option linter.unusedSimpArgs false
set_option linter.unusedVariables false
theorem read_ne(bs:List UInt8)(k:Nat)(e m:Int)(h:(qa4 bs k e m).1≠[]):(qa4 bs k e m).2.2=0:=by
 unfold qa4 qd9 qde at h ⊢
 split at h
 ·
  exact absurd rfl h
 ·
  rename_i h1
  rw[if_neg h1]
  split at h
  ·
   rename_i h2
   rw[if_pos h2]
  ·
   exact absurd rfl h
theorem read_bounds{bs:List UInt8}{k:Nat}(e:Int){m:Nat}(hk:k≤bs.length)(hm:m≤2147483647):(qa4 bs k e (m:Int)).1.length≤m∧∀x∈(qa4 bs k e (m:Int)).1,x≤4294967295:=by
 by_cases h:(qa4 bs k e (m:Int)).1=[]
 ·
  rw[h]
  exact⟨by simp,fun x hx=>by cases hx⟩
 ·
  have h0:=read_ne bs k e m h
  have he:e=0:=Decidable.byContradiction fun hne=>h (by rw[qkz _ _ _ hne])
  subst he
  obtain⟨R,hR⟩:∃R,qa4 bs k 0 (m:Int)=R:=⟨_,rfl⟩
  rw[hR] at h0 ⊢
  obtain⟨ns,k2,e2⟩:=R
  dsimp only at h0
  subst h0
  obtain⟨g1,g2, -⟩:=qjb hk hm hR
  refine⟨g1,fun x hx => ?_⟩
  have:=g2 (x:Int) (vn hx)
  omega
theorem blocks_i64{count K:Nat}(hK:1≤K):((count:Int)+(K:Int)-1).tdiv (K:Int)=(qaa count K:Int):=by
 have e:(count:Int)+(K:Int)-1=((count+K-1:Nat):Int):=by omega
 rw[e,←Int.ofNat_tdiv]
 rfl
theorem Dc.nil(w:World):Dc (w.alloc (.cells #[.slice none 0 0] 243)) w.heap.size []:=⟨none,0,yy.new _ _ _,zf _ _ _ _⟩
theorem fopen_any{w:World}{lo g k:Nat}{bs:List UInt8}{e:Int}(hc:vx w lo g bs k e)(hbs:bs.length≤1000000000) :
  Calls Tryz.prog 167 #[cp g] w fun r w'=>∃(d:Nat) (ys:List ByteArray),r= .returned (.pointer (some ⟨d,0,none⟩))∧qm ys=(qcq bs k e).1∧Dc w' d ys∧w.heap.size≤d∧
   vx w' lo g bs (qcq bs k e).2.1 (qcq bs k e).2.2∧w.grownBy w' (some g):=by
 have hgl:=hc.lt
 have hm1:=qc5 bs k e 4096
 have HM1:=qa (qeu 4096 hc)
 unfold qcq
 generalize jw bs k e 4096=C at *
 obtain⟨count,k1,e1⟩:=C
 dsimp only at HM1 hm1 ⊢
 have hm2:=qc5 bs k1 e1 64
 have HM2:=fun(w1:World) (h1:vx w1 lo g bs k1 e1)=>qa (qeu 64 h1)
 generalize jw bs k1 e1 64=D at *
 obtain⟨K,k2,e2⟩:=D
 dsimp only at HM2 hm2 ⊢
 have hcount:count≤4096:=by omega
 have hK64:K≤64:=by omega
 have HF:=qa (fun w=>ffits_any (w:=w) (K:Int))
 clear hm1 hm2 hc
 unfold openK
 by_cases hK:1≤K∧K≤64
 ·
  rw[if_pos hK]
  rw[qx (show(1:Int)≤(K:Int)∧(K:Int)≤64 by omega)] at HF
  obtain⟨OM,hOM⟩:∃OM,qn2 bs count K k2 e2=OM:=⟨_,rfl⟩
  rw[hOM]
  unfold qn2 at hOM
  obtain⟨nb,hnb⟩:∃nb,qaa count K=nb:=⟨_,rfl⟩
  have hnbc:nb≤count:=by rw[←hnb];exact qpc hK.1
  have hq1:=blocks_i64 (count:=count) hK.1
  have HBL:Hid (∀q,q<nb→q*K<count):=fun q hq=>qjo hK.1 (by rw[hnb];exact hq)
  rw[hnb] at hOM hq1
  have HRD:=fun(w1:World) (h1:vx w1 lo g bs k2 e2)=>qa (qox (nb:Int) h1 (by omega))
  have hrb:=fun hk=>read_bounds (bs:=bs) (k:=k2) e2 (m:=nb) hk (by omega)
  generalize qa4 bs k2 e2 (nb:Int)=R at *
  obtain⟨ns,k3,e3⟩:=R
  dsimp only at HRD hrb hOM
  obtain⟨e4,he4⟩:∃e4,(if ns.length=nb then e3 else xd e3)=e4:=⟨_,rfl⟩
  rw[he4] at hOM
  have HOM:=qa hOM
  have HE4:=qa he4
  have hK0:¬(K:Int)=0:=by omega
  clear hOM he4 hnb
  unfold cp at *
  go_enter Tryz.func167,Tryz.ntmps167
  go_wp2_with fail
  refine HM1.out.mono ?_
  rintro r w1 ⟨rfl,hc1,hg1⟩
  have HG1:=qa hg1
  have H2:=HM2 w1 hc1
  clear hg1 hc1 HM1 HM2
  go_wp2_with fail
  refine H2.out.mono ?_
  rintro r w2 ⟨rfl,hc2,hg2⟩
  have HG2:=qa (HG1.out.trans hg2)
  have H3:=HRD w2 hc2
  have hrb2:=hrb hc2.le
  clear hg2 hc2 H2 HRD HG1 hrb
  go_wp2_with fail
  refine(HF.out _).mono ?_
  rintro r w' ⟨rfl,rfl⟩
  go_wp2_with fail
  refine H3.out.mono ?_
  rintro r w3 ⟨A3,c3,rfl,ho3,hc3,hg3⟩
  have HO3:=qa ho3
  have HG3:=qa (HG2.out.trans hg3)
  by_cases hnn:ns.length=nb
  ·
   have he4:e3=e4:=by have:=HE4.out;rw[if_pos hnn] at this;exact this
   rw[he4] at hc3
   have bn:((ns.length:Int)==(nb:Int))=true:=by rw[beq_iff_eq];omega
   have bn2:((ns.length:Int) != (nb:Int))=false:=by rw[bne,bn];rfl
   have HC4:=qa hc3
   have HO4:=qa HO3.out
   have HG4:=qa HG3.out
   have HNN:=qa hnn
   clear HO3 HG3 hc3 ho3 hg3 H3 he4 hnn
   obtain⟨hnl,hnx⟩:=hrb2
   have HNX:=qa hnx
   have hgv:g<w3.heap.size:=by have:=HG4.out.size;omega
   have hsz2:w.heap.size≤w3.heap.size:=HG4.out.size
   have HD0:=qa (Dc.nil w3)
   have HC0:Hid (vx (w3.alloc (.cells #[.slice none 0 0] 243)) lo g bs k3 e4):=HC4.out.grown (World.grownBy_alloc w3 _ none) (fun x hx=>by cases hx)
   have HRW:=qa (Rd.of_own HO4.out)
   have hO0:Hid (Out w3 (w3.alloc (.cells #[.slice none 0 0] 243)) (fun i=>i=g∨w3.heap.size≤i)):=(Out.refl w3 _).alloc _
   obtain⟨W0,hW0⟩:∃W0,w3.alloc (.cells #[.slice none 0 0] 243)=W0:=⟨_,rfl⟩
   rw[hW0] at HD0 HC0 hO0
   have HNL:Hid (ns.length≤nb):=hnl
   have hnl2:ns.length≤4096:=by omega
   have hg2s:g<w2.heap.size:=by have:=HG2.out.size;omega
   clear hnx hnl HC4 HO4 hq1
   go_wp2_with fail
   clear hW0
   go_loopw [40] (fun x40 wr=>∃(j k':Nat) (e':Int) (zs:List ByteArray),j≤ns.length∧x40= .int .i64 (j:Int)∧zs.length≤64*j∧qg6 bs count K (ns.drop j) j (qm zs) k' e'=OM∧
    Dc wr w3.heap.size zs∧vx wr lo g bs k' e'∧Out w3 wr (fun i=>i=g∨w3.heap.size≤i)) (fun j _=>ns.length-(intOf j).toNat)
   case atStart=>exact⟨0,k3,e4,[],qi _,rfl,by simp,by rw[jy];exact HOM.out,HD0.out,HC0.out,hO0.out⟩
   case round =>
    clear HD0 HC0 hO0 HOM
    obtain⟨j,k',e',zs,hj,rfl,hzl,hob,hdc,hcur,hout⟩:=hrel
    have HOB:=qa hob
    have HD:=qa hdc
    have HC:=qa hcur
    have HOO:=qa hout
    clear hob hdc hcur hout
    by_cases hlt:j<ns.length
    ·
     have ij:(j:Int)<(ns.length:Int):=by omega
     have hjc:j*K<count:=HBL.out j (zn hlt HNL.out)
     have hz:=HNX.out ns[j] (ql hlt)
     obtain⟨b,off,rfl,_,_,hcell⟩:=(HRW.out.out HOO.out (qc _) (fun q h1 h2 h3=>by rcases h3 with h3 | h3 <;> omega)).num (k:=j) (by rw[zu];exact hlt)
     have hze:(z8 ns)[j]'(by rw[zu];exact hlt)=((ns[j]:Nat):Int):=by simp[z8]
     rw[hze] at hcell
     have hob:=HOB.out
     rw[jc hlt,qg6] at hob
     obtain⟨q,hq⟩:∃q,min K (count-j*K)=q:=⟨_,rfl⟩
     have hqK:q≤64:=by omega
     have HTK:=qa (ftake_any HC.out HD.out hgv q ns[j] hqK hz (by omega) (by omega))
     rw[hq] at hob
     generalize qgz bs (qm zs) k' e' q ns[j]=T at *
     generalize ns[j]=z at *
     have HOB2:=qa hob
     obtain⟨p,hp⟩:∃p,j*K=p:=⟨_,rfl⟩
     have hp1:(j:Int)*(K:Int)=(p:Int):=by rw[←hp];exact(qaw j K).symm
     have hp2:IntKind.i64.wrap ((j:Int)*(K:Int))=(p:Int):=by rw[hp1];exact jf _ (by omega)
     have hp3:IntKind.i64.wrap ((count:Int)-(p:Int))=(count:Int)-(p:Int):=jf _ (by omega)
     have hmin:min (K:Int) ((count:Int)-(p:Int))=(q:Int):=by omega
     clear hob hq hp HC HD HOB
     go_wp2_with fail
     refine HTK.out.mono ?_
     rintro r w5 ⟨rfl,ys',hy1,hy2,hd5,hc5,ho5⟩
     rw[←hy1] at HOB2
     have HOB5:=qa HOB2.out
     have HD5:=qa hd5
     have HC5:=qa hc5
     have HO5:Hid (Out w3 w5 (fun i=>i=g∨w3.heap.size≤i)):=HOO.out.trans ho5 (fun _ _ h=>h)
     clear hy1 hd5 hc5 ho5 hp1 hp2 hp3 hmin
     go_wp2_with fail
     go_roundw
     case rel=>exact⟨j+1,T.2.1,T.2.2,ys',by omega,by go_num,by omega,HOB5.out,HD5.out,HC5.out,HO5.out⟩
     case measure=>simp[intOf];omega
    ·
     have ij:¬(j:Int)<(ns.length:Int):=by omega
     have hob:=HOB.out
     rw[List.drop_eq_nil_of_le (by omega),qg6] at hob
     subst hob
     have HGD:=qa (xx HC.out)
     have hgw:w.grownBy wr (some g):=HG4.out.trans ⟨HOO.out.os,HOO.out.tape,HOO.out.output,HOO.out.size,fun q h1 h2=>HOO.out.block q h1 (fun h3=>by
      rcases h3 with h3 | h3
      ·
       exact h2 (by rw[h3])
      ·
       omega)⟩
     have HGW:=qa hgw
     clear hgw HOB
     by_cases he:e'=0
     ·
      subst he
      rw[show((0:Int)==0)=true from rfl] at HGD
      go_wp2_with fail
      refine HGD.out.mono ?_
      rintro r w' ⟨rfl,rfl⟩
      go_wp2_with fail
      go_ret
      exact⟨w3.heap.size,rfl,zs,rfl,HD.out,hsz2,HC.out,HGW.out⟩
     ·
      rw[show(e'==0)=false from q9.2 he] at HGD
      go_wp2_with fail
      refine HGD.out.mono ?_
      rintro r w' ⟨rfl,rfl⟩
      go_wp2_with fail
      go_ret
      have HCN:vx (wr.alloc (.cells #[.slice none 0 0] 243)) lo g bs k' e':=HC.out.grown (World.grownBy_alloc wr _ none) (fun x hx=>by cases hx)
      exact⟨wr.heap.size,rfl,[],by first | rfl | (rw[if_neg he];rfl),Dc.nil wr,HGW.out.size,by first | exact HCN | (rw[if_neg he];exact HCN),ku HGW.out _⟩
  ·
   have he4:xd e3=e4:=by have:=HE4.out;rw[if_neg hnn] at this;exact this
   have bn:((ns.length:Int)==(nb:Int))=false:=by rw[q9];omega
   have HFA:=qa (ua 3 hc3)
   rw[orForm_fail,he4] at HFA
   clear hc3 ho3 hg3 H3 he4
   go_wp2_with fail
   refine HFA.out.mono ?_
   rintro r wv ⟨rfl,hc4,hg4⟩
   have HC4:=qa hc4
   have HO4:Hid (wv.ownsRow w2.heap.size 3 1 (.slice A3 ns.length c3) ns.length (iv (z8 ns))):=jv HO3.out (fun q hq=>hg4.block q (zk HO3.out hq).2 (fun e=>by injection e with e;have:=(zk HO3.out hq).1;have:=HG2.out.size;omega))
   have HG4:=qa (HG3.out.trans hg4)
   clear hc4 hg4 HFA HO3 HG3
   obtain⟨hnl,hnx⟩:=hrb2
   have HNX:=qa hnx
   have hgv:g<wv.heap.size:=by have:=HG4.out.size;omega
   have hsz2:w.heap.size≤wv.heap.size:=HG4.out.size
   have HD0:=qa (Dc.nil wv)
   have HC0:Hid (vx (wv.alloc (.cells #[.slice none 0 0] 243)) lo g bs k3 e4):=HC4.out.grown (World.grownBy_alloc wv _ none) (fun x hx=>by cases hx)
   have HRW:=qa (Rd.of_own HO4.out)
   have hO0:Hid (Out wv (wv.alloc (.cells #[.slice none 0 0] 243)) (fun i=>i=g∨wv.heap.size≤i)):=(Out.refl wv _).alloc _
   obtain⟨W0,hW0⟩:∃W0,wv.alloc (.cells #[.slice none 0 0] 243)=W0:=⟨_,rfl⟩
   rw[hW0] at HD0 HC0 hO0
   have HNL:Hid (ns.length≤nb):=hnl
   have hnl2:ns.length≤4096:=by omega
   have hg2s:g<w2.heap.size:=by have:=HG2.out.size;omega
   clear hnx hnl HC4 HO4 hq1
   go_wp2_with fail
   clear hW0
   go_loopw [40] (fun x40 wr=>∃(j k':Nat) (e':Int) (zs:List ByteArray),j≤ns.length∧x40= .int .i64 (j:Int)∧zs.length≤64*j∧qg6 bs count K (ns.drop j) j (qm zs) k' e'=OM∧
    Dc wr wv.heap.size zs∧vx wr lo g bs k' e'∧Out wv wr (fun i=>i=g∨wv.heap.size≤i)) (fun j _=>ns.length-(intOf j).toNat)
   case atStart=>exact⟨0,k3,e4,[],qi _,rfl,by simp,by rw[jy];exact HOM.out,HD0.out,HC0.out,hO0.out⟩
   case round =>
    clear HD0 HC0 hO0 HOM
    obtain⟨j,k',e',zs,hj,rfl,hzl,hob,hdc,hcur,hout⟩:=hrel
    have HOB:=qa hob
    have HD:=qa hdc
    have HC:=qa hcur
    have HOO:=qa hout
    clear hob hdc hcur hout
    by_cases hlt:j<ns.length
    ·
     have ij:(j:Int)<(ns.length:Int):=by omega
     have hjc:j*K<count:=HBL.out j (zn hlt HNL.out)
     have hz:=HNX.out ns[j] (ql hlt)
     obtain⟨b,off,rfl,_,_,hcell⟩:=(HRW.out.out HOO.out (qc _) (fun q h1 h2 h3=>by rcases h3 with h3 | h3 <;> omega)).num (k:=j) (by rw[zu];exact hlt)
     have hze:(z8 ns)[j]'(by rw[zu];exact hlt)=((ns[j]:Nat):Int):=by simp[z8]
     rw[hze] at hcell
     have hob:=HOB.out
     rw[jc hlt,qg6] at hob
     obtain⟨q,hq⟩:∃q,min K (count-j*K)=q:=⟨_,rfl⟩
     have hqK:q≤64:=by omega
     have HTK:=qa (ftake_any HC.out HD.out hgv q ns[j] hqK hz (by omega) (by omega))
     rw[hq] at hob
     generalize qgz bs (qm zs) k' e' q ns[j]=T at *
     generalize ns[j]=z at *
     have HOB2:=qa hob
     obtain⟨p,hp⟩:∃p,j*K=p:=⟨_,rfl⟩
     have hp1:(j:Int)*(K:Int)=(p:Int):=by rw[←hp];exact(qaw j K).symm
     have hp2:IntKind.i64.wrap ((j:Int)*(K:Int))=(p:Int):=by rw[hp1];exact jf _ (by omega)
     have hp3:IntKind.i64.wrap ((count:Int)-(p:Int))=(count:Int)-(p:Int):=jf _ (by omega)
     have hmin:min (K:Int) ((count:Int)-(p:Int))=(q:Int):=by omega
     clear hob hq hp HC HD HOB
     go_wp2_with fail
     refine HTK.out.mono ?_
     rintro r w5 ⟨rfl,ys',hy1,hy2,hd5,hc5,ho5⟩
     rw[←hy1] at HOB2
     have HOB5:=qa HOB2.out
     have HD5:=qa hd5
     have HC5:=qa hc5
     have HO5:Hid (Out wv w5 (fun i=>i=g∨wv.heap.size≤i)):=HOO.out.trans ho5 (fun _ _ h=>h)
     clear hy1 hd5 hc5 ho5 hp1 hp2 hp3 hmin
     go_wp2_with fail
     go_roundw
     case rel=>exact⟨j+1,T.2.1,T.2.2,ys',by omega,by go_num,by omega,HOB5.out,HD5.out,HC5.out,HO5.out⟩
     case measure=>simp[intOf];omega
    ·
     have ij:¬(j:Int)<(ns.length:Int):=by omega
     have hob:=HOB.out
     rw[List.drop_eq_nil_of_le (by omega),qg6] at hob
     subst hob
     have HGD:=qa (xx HC.out)
     have hgw:w.grownBy wr (some g):=HG4.out.trans ⟨HOO.out.os,HOO.out.tape,HOO.out.output,HOO.out.size,fun q h1 h2=>HOO.out.block q h1 (fun h3=>by
      rcases h3 with h3 | h3
      ·
       exact h2 (by rw[h3])
      ·
       omega)⟩
     have HGW:=qa hgw
     clear hgw HOB
     by_cases he:e'=0
     ·
      subst he
      rw[show((0:Int)==0)=true from rfl] at HGD
      go_wp2_with fail
      refine HGD.out.mono ?_
      rintro r w' ⟨rfl,rfl⟩
      go_wp2_with fail
      go_ret
      exact⟨wv.heap.size,rfl,zs,rfl,HD.out,hsz2,HC.out,HGW.out⟩
     ·
      rw[show(e'==0)=false from q9.2 he] at HGD
      go_wp2_with fail
      refine HGD.out.mono ?_
      rintro r w' ⟨rfl,rfl⟩
      go_wp2_with fail
      go_ret
      have HCN:vx (wr.alloc (.cells #[.slice none 0 0] 243)) lo g bs k' e':=HC.out.grown (World.grownBy_alloc wr _ none) (fun x hx=>by cases hx)
      exact⟨wr.heap.size,rfl,[],by first | rfl | (rw[if_neg he];rfl),Dc.nil wr,HGW.out.size,by first | exact HCN | (rw[if_neg he];exact HCN),ku HGW.out _⟩
 ·
  rw[if_neg hK]
  rw[qr (show ¬((1:Int)≤(K:Int)∧(K:Int)≤64) by omega)] at HF
  unfold cp at *
  go_enter Tryz.func167,Tryz.ntmps167
  go_wp2_with fail
  refine HM1.out.mono ?_
  rintro r w1 ⟨rfl,hc1,hg1⟩
  have HG1:=qa hg1
  have H2:=HM2 w1 hc1
  clear hg1 hc1 HM1 HM2
  go_wp2_with fail
  refine H2.out.mono ?_
  rintro r w2 ⟨rfl,hc2,hg2⟩
  have HG2:=qa (HG1.out.trans hg2)
  have HC2:=qa hc2
  clear hg2 hc2 H2 HG1
  go_wp2_with fail
  refine(HF.out _).mono ?_
  rintro r w' ⟨rfl,rfl⟩
  go_wp2_with fail
  refine(ua 3 HC2.out).mono ?_
  rintro r w3 ⟨rfl,hc3,hg3⟩
  have HC3:Hid (vx w3 lo g bs k2 (xd e2)):=hc3
  have HG3:=qa (HG2.out.trans hg3)
  clear hc3 hg3 HC2 HG2
  go_wp2_with fail
  go_ret
  refine⟨w3.heap.size,[],rfl,rfl,Dc.nil w3,HG3.out.size,HC3.out.grown (World.grownBy_alloc w3 _ none) (fun x hx=>by cases hx),ku HG3.out _⟩
section
set_option maxRecDepth 100000
def renC:Go.Shelf.Ren:=⟨fun | 316=>219 | n=>n,fun | 0=>0 | 3=>3 | 4=>4 | 5=>5 | 9=>9 | 37=>36 | 127=>273 | n=>n,fun n=>n⟩
theorem laysC316:Go.Proofs.LaysM.n316 Tryz.prog renC:={
 mixed:=by kernel_rfl
 f316:=Tryz.func219.trans (congrArg some (by kernel_rfl))
 t0:=Tryz.underlying0
 a0:=Tryz.isAgg0
 z0:=Tryz.sizeOf0
 v0:=Tryz.zeroValue0
 t3:=Tryz.underlying3
 a3:=Tryz.isAgg3
 z3:=Tryz.sizeOf3
 v3:=Tryz.zeroValue3
 t4:=Tryz.underlying4
 a4:=Tryz.isAgg4
 z4:=Tryz.sizeOf4
 v4:=Tryz.zeroValue4
 t9:=Tryz.underlying9
 a9:=Tryz.isAgg9
 z9:=Tryz.sizeOf9
 v9:=Tryz.zeroValue9
 t37:=Tryz.underlying36
 a37:=Tryz.isAgg36
 z37:=Tryz.sizeOf36
 v37:=Tryz.zeroValue36
 t127:=Tryz.underlying273
 a127:=Tryz.isAgg273
 z127:=Tryz.sizeOf273
 v127:=Tryz.zeroValue273
 t5:=Tryz.underlying5
 a5:=Tryz.isAgg5
 z5:=Tryz.sizeOf5
 v5:=Tryz.zeroValue5
 i0:=by kernel_rfl
 i3:=by kernel_rfl
 i4:=by kernel_rfl
 i5:=by kernel_rfl
 i9:=by kernel_rfl
 i37:=by kernel_rfl
 i127:=by kernel_rfl }
theorem cloneS_any{w:World}(s:ByteArray)(hs:s.size≤281474976710656) :
  Calls Tryz.prog 201 #[.string s] w fun e w'=>e= .returned (.string s)∧Below w.heap.size w w':=by
 have h:=fun w=>Any.stringslite_Clone laysC316 s w hs
 have H:=qa h
 clear h
 go_enter Tryz.func201,Tryz.ntmps201
 go_wp2_with fail
 refine(H.out _).mono ?_
 rintro r w1 ⟨rfl,hb⟩
 go_wp2
 go_ret
 exact⟨rfl,hb⟩
end
def DcR(w:World)(d:Nat)(ys:List ByteArray):Prop:=∃A c,w.cell? ⟨d,0,none⟩=some (.slice A ys.length c)∧w.frozen? ⟨d,0,none⟩=false∧Rd w 0 w.heap.size A c (sv ys)
theorem Dc.reads{w:World}{d:Nat}{ys:List ByteArray}(h:Dc w d ys):DcR w d ys:=by
 obtain⟨A,c,h1,h2,h3⟩:=h.open_
 exact⟨A,c,h1,h2,h3.wide (qi _) (qc _)⟩
theorem flen_r{w:World}{d:Nat}{ys:List ByteArray}(h:DcR w d ys) :
  Calls Tryz.prog 198 #[.pointer (some ⟨d,0,none⟩)] w fun r w'=>r= .returned (.int .i64 (ys.length:Int))∧w=w':=by
 obtain⟨A,c,hcell,hfr,hrd⟩:=h
 clear hrd
 go_enter Tryz.func198,Tryz.ntmps198
 go_wp2
 go_ret
 exact⟨rfl,rfl⟩
theorem fat_in_r{w:World}{d:Nat}{ys:List ByteArray}(h:DcR w d ys)(k:Nat)(hk:k<ys.length)(h4:ys[k].size≤281474976710656) :
  Calls Tryz.prog 170 #[.pointer (some ⟨d,0,none⟩),.int .i64 (k:Int)] w fun r w'=>r= .returned (.string ys[k])∧Below w.heap.size w w':=by
 have HL:=qa (flen_r h)
 obtain⟨A,c,hcell,hfr,hrd⟩:=h
 have hl:=hrd.len
 have hm:=hrd.cap
 rw[j7] at hl
 unfold maxLen at hm
 obtain⟨b,off,rfl,_,_,hcell2⟩:=hrd.str hk
 have HC:=qa (fun w=>cloneS_any (w:=w) ys[k] h4)
 have i0:¬(k:Int)<0:=by omega
 have d0:decide ((k:Int)<0)=false:=qr i0
 have i1:¬(ys.length:Int)≤(k:Int):=by omega
 have d1:decide ((ys.length:Int)≤(k:Int))=false:=qr i1
 have i2:(k:Int)<(ys.length:Int):=by omega
 generalize ys[k]=s at *
 clear hrd
 go_enter Tryz.func170,Tryz.ntmps170
 go_wp2_with fail
 refine HL.out.mono ?_
 rintro r w' ⟨rfl,rfl⟩
 go_wp2_with fail
 refine(HC.out _).mono ?_
 rintro r w1 ⟨rfl,hb⟩
 go_wp2_with fail
 go_ret
 exact⟨rfl,hb⟩
theorem flen_any{w:World}{d:Nat}{ys:List ByteArray}(h:Dc w d ys) :
  Calls Tryz.prog 198 #[.pointer (some ⟨d,0,none⟩)] w fun r w'=>r= .returned (.int .i64 (ys.length:Int))∧w=w':=flen_r h.reads
theorem fat_in{w:World}{d:Nat}{ys:List ByteArray}(h:Dc w d ys)(k:Nat)(hk:k<ys.length)(h4:ys[k].size≤281474976710656) :
  Calls Tryz.prog 170 #[.pointer (some ⟨d,0,none⟩),.int .i64 (k:Int)] w fun r w'=>r= .returned (.string ys[k])∧Below w.heap.size w w':=fat_in_r h.reads k hk h4
theorem takeCodes_v{w:World}{lo g G k n0 c0 dg:Nat}{bs:List UInt8}{e:Int}(kd:Nat)(there:List Bool)(ys:List ByteArray){A0:Option Addr}{v2 v3 v5:Value}(h:vx w lo g bs k e)(hb:bs.length≤1000000000)(hgG:g<G)
  (hG:yy w G 184 #[.int .i64 (kd:Int),.slice A0 n0 c0,v2,v3,.pointer (some ⟨dg,0,none⟩),v5]) (ht:Rd w (g+1) w.heap.size A0 c0 (lv there)) (hn0:there.length=n0) (ht4:n0≤4096) (hd:Dc w dg ys) (hyl:ys.length≤1000000) :
  Calls Tryz.prog 168 #[.pointer (some ⟨G,0,none⟩),cp g] w fun r w'=>∃A n c,r= .returned (.slice A n c)∧vx w' lo g bs (uu bs k e (cnt there) ((ys.length:Int)-1)).2.1 (uu bs k e (cnt there) ((ys.length:Int)-1)).2.2∧w.grownBy w' (some g)∧
   ((uu bs k e (cnt there) ((ys.length:Int)-1)).1.length=cnt there→n=there.length∧Rd w' w.heap.size w'.heap.size A c (xz there (iv (z8 (uu bs k e (cnt there) ((ys.length:Int)-1)).1)) (.int .i64 (-1)))):=by
 have hgl:=h.lt
 have hGl:=hG.lt
 have HBX:Hid (∀W,w.grownBy W (some g)→yy W G 184 #[.int .i64 (kd:Int),.slice A0 n0 c0,v2,v3,.pointer (some ⟨dg,0,none⟩),v5]):=fun W hW=>hG.grown hW (by intro e;injection e with e;omega)
 have HTH:Hid (∀W,w.grownBy W (some g)→Rd W 0 W.heap.size A0 c0 (lv there)):=fun W hW=>(ht.grown hW (qc _) (fun q hq=>by cases hq;exact .inl (by omega))).wide (qi _) hW.size
 have HCF:Hid (∀W,w.grownBy W (some g)→W.cell? ⟨G,1,none⟩=some (.slice A0 n0 c0)∧W.cell? ⟨G,4,none⟩=some (.pointer (some ⟨dg,0,none⟩))):=fun W hW=>⟨(HBX.out W hW).cell 1,(HBX.out W hW).cell 4⟩
 have HCT:Hid (∀W,Below w.heap.size w W→Calls Tryz.prog 191 #[.slice A0 n0 c0] W fun r w'=>r= .returned (.int .i64 (cnt there:Int))∧W=w'):=fun W hW=>by
  have:=qjp (w:=W) there (HTH.out W (qlb hW))
  rw[hn0] at this
  exact this
 have HLN:Hid (∀W,Below w.heap.size w W→Calls Tryz.prog 198 #[.pointer (some ⟨dg,0,none⟩)] W fun r w'=>r= .returned (.int .i64 (ys.length:Int))∧W=w'):=fun W hW=>flen_any (hd.below hW (qc _))
 have HTN:Hid (∀W,Below w.heap.size w W→Calls Tryz.prog 190 #[cp g,.int .i64 (cnt there:Int),.int .i64 ((ys.length:Int)-1)] W fun r w'=>∃A c,r= .returned (.slice A (uu bs k e (cnt there) ((ys.length:Int)-1)).1.length c)∧w'.ownsRow W.heap.size 3 1 (.slice A (uu bs k e (cnt there) ((ys.length:Int)-1)).1.length c) (uu bs k e (cnt there) ((ys.length:Int)-1)).1.length (iv (z8 (uu bs k e (cnt there) ((ys.length:Int)-1)).1))∧
   vx w' lo g bs (uu bs k e (cnt there) ((ys.length:Int)-1)).2.1 (uu bs k e (cnt there) ((ys.length:Int)-1)).2.2∧W.grownBy w' (some g)):=fun W hW=>qmh (cnt there) ((ys.length:Int)-1) (h.behind hW hgl) (by omega)
 have hcl:=qi2 there
 have hnl:=numsR_len bs k e (cnt there) ((ys.length:Int)-1)
 generalize uu bs k e (cnt there) ((ys.length:Int)-1)=S at *
 obtain⟨ns,p,e1⟩:=S
 simp only at *
 have hwr:IntKind.i64.wrap ((ys.length:Int)-1)=(ys.length:Int)-1:=jf _ (by omega)
 have KD:Hid (Below w.heap.size w w.drew):=(Below.refl _ _).drew
 have HN0:=qa hn0
 clear h hG ht hd hn0
 unfold cp at *
 go_enter Tryz.func168,Tryz.ntmps168
 go_wp2_with fail
 refine wp_region_held_drew (S:=fun w'=>w.grownBy w' (some g)) (by kernel_rfl) (gb_drew (vg _ _)) (fun hHeld => ?_)
 refine tk 0 ?_ rfl hHeld ?_ ?_
 rotate_left
 focus (intro W hSw;obtain⟨q1,q4⟩:=HCF.out W hSw;go_simp;try with_reducible rfl)
 try simp only[ju,Act.put]
 refine tk 1 ?_ rfl hHeld ?_ ?_
 rotate_left
 focus (intro W hSw;obtain⟨q1,q4⟩:=HCF.out W hSw;go_simp;try with_reducible rfl)
 try simp only[ju,Act.put]
 refine tk 2 ?_ rfl hHeld ?_ ?_
 rotate_left
 focus (intro W hSw;obtain⟨q1,q4⟩:=HCF.out W hSw;go_simp;try with_reducible rfl)
 try simp only[ju,Act.put]
 refine tk 3 ?_ rfl hHeld ?_ ?_
 rotate_left
 focus (intro W hSw;obtain⟨q1,q4⟩:=HCF.out W hSw;go_simp;try with_reducible rfl)
 try simp only[ju,Act.put]
 refine tk 4 ?_ rfl hHeld ?_ ?_
 rotate_left
 focus (intro W hSw;obtain⟨q1,q4⟩:=HCF.out W hSw;go_simp;try with_reducible rfl)
 try simp only[ju,Act.put]
 refine tk 6 ?_ rfl hHeld ?_ ?_
 rotate_left
 focus (intro W hSw;obtain⟨q1,q4⟩:=HCF.out W hSw;go_simp;try with_reducible rfl)
 try simp only[ju,Act.put]
 refine tk 7 ?_ rfl hHeld ?_ ?_
 rotate_left
 focus (intro W hSw;obtain⟨q1,q4⟩:=HCF.out W hSw;go_simp;try with_reducible rfl)
 try simp only[ju,Act.put]
 refine tk 8 ?_ rfl hHeld ?_ ?_
 rotate_left
 focus (intro W hSw;obtain⟨q1,q4⟩:=HCF.out W hSw;go_simp;try with_reducible rfl)
 try simp only[ju,Act.put]
 refine tk 9 ?_ rfl hHeld ?_ ?_
 rotate_left
 focus (intro W hSw;obtain⟨q1,q4⟩:=HCF.out W hSw;go_simp;try with_reducible rfl)
 try simp only[ju,Act.put]
 obtain⟨wd,hwd⟩:∃q,w.drew=q:=⟨_,rfl⟩
 have K_wd:Hid (Below w.heap.size w wd):=by rw[←hwd];exact KD.out
 rw[hwd] at hHeld ⊢
 have HG0:=qa hHeld
 clear KD hwd
 refine wpAnyH_ready (rs:=[5]) (by kernel_rfl) (by simp) ?_
 refine qt (o:=_) rfl (fun K hK => ?_) za
 go_simp
 refine(HCT.out _ K_wd.out).mono ?_
 rintro r wx ⟨rfl,rfl⟩
 refine hK.out _ _ HG0.out (fun hHeld => ?_)
 clear hK K
 try simp only[ju,Act.put]
 refine wpAnyH_ready (rs:=[10]) (by kernel_rfl) (by simp) ?_
 refine qt (o:=_) rfl (fun K hK => ?_) za
 go_simp
 refine(HLN.out _ K_wd.out).mono ?_
 rintro r wx ⟨rfl,rfl⟩
 refine hK.out _ _ HG0.out (fun hHeld => ?_)
 clear hK K
 try simp only[ju,Act.put]
 refine tk 11 ?_ rfl hHeld ?_ ?_
 rotate_left
 focus (intro W hSw;obtain⟨q1,q4⟩:=HCF.out W hSw;go_simp;try with_reducible rfl)
 try simp only[ju,Act.put]
 try rw[hwr]
 refine wpAnyH_ready (rs:=[12]) (by kernel_rfl) (by simp) ?_
 refine qt (o:=_) rfl (fun K hK => ?_) za
 go_simp
 refine(HTN.out _ K_wd.out).mono ?_
 rintro r wy ⟨A1,c1,rfl,ho1,hc1,hg1⟩
 have HO1:=qa ho1
 have HC1:=qa hc1
 have HG1:Hid (w.grownBy wy (some g)):=HG0.out.trans hg1
 have b1:wy.cell? ⟨G,1,none⟩=some (.slice A0 n0 c0):=(HCF.out _ HG1.out).1
 clear ho1 hc1 hg1
 refine hK.out _ _ HG1.out (fun hHeld => ?_)
 clear hK K
 try simp only[ju,Act.put]
 refine tk 13 ?_ rfl hHeld ?_ ?_
 rotate_left
 focus (intro W hSw;obtain⟨q1,q4⟩:=HCF.out W hSw;go_simp;try with_reducible rfl)
 try simp only[ju,Act.put]
 refine wpAnyH_done (by kernel_rfl) ?_ _
 have hsg:=HG1.out.size
 clear HTN HCT HLN HCF
 by_cases hcn:ns.length=cnt there
 ·
  have HS:=qa (spreadI_yes (w:=wy) there (iv (z8 ns)) (n:=n0) (m:=ns.length) (HTH.out wy HG1.out) ((Rd.of_own HO1.out).wide (qi _) (qc _)) HN0.out (by rw[jz,zu]) hcn (by omega) (fun v hv=>by
   obtain⟨z,_,rfl⟩:=zl.1 hv
   exact⟨_,rfl⟩))
  clear hcn
  go_wp2_with fail
  refine HS.out.mono ?_
  rintro r w6 ⟨A6,c6,rfl,ho6,hb6⟩
  have HO6:=qa ho6
  have HB6:=qa hb6
  clear ho6 hb6 HS
  go_wp2_with fail
  go_ret
  exact⟨_,_,_,rfl,HC1.out.behind HB6.out HC1.out.lt,HG1.out.trans (qlb HB6.out),fun _=>⟨HN0.out.symm,(Rd.of_own HO6.out).wide hsg (qc _)⟩⟩
 ·
  have HS:=qa (spreadI_no (w:=wy) there (n:=n0) (m:=ns.length) (B:=A1) (d:=c1) (v:= .int .i64 (-1)) (HTH.out wy HG1.out) HN0.out hcn)
  have HCN:=qa hcn
  clear hcn
  go_wp2_with fail
  refine HS.out.mono ?_
  rintro r w' ⟨rfl,rfl⟩
  go_wp2_with fail
  go_ret
  exact⟨_,_,_,rfl,HC1.out,HG1.out,fun h=>absurd h HCN.out⟩
def qcv(w:World)(lo G:Nat)(c:Chk):Prop :=
 ∃(A0:Option Addr) (c0:Nat) (A2:Option Addr) (n2 c2:Nat) (A3:Option Addr) (n3 c3:Nat) (d:Option Addr) (A5:Option Addr) (n5 c5:Nat),
  yy w G 184 #[.int .i64 (c.kind:Int),.slice A0 c.there.length c0,.slice A2 n2 c2,.slice A3 n3 c3,.pointer d,.slice A5 n5 c5]∧lo≤G∧Rd w lo w.heap.size A0 c0 (lv c.there)∧
  (c.kind=1∨c.kind=2→n2=c.there.length∧∃ps,qma ps=c.raws∧Rd w lo w.heap.size A2 c2 (xz c.there (pv ps) (.slice none 0 0))∧qqc w lo w.heap.size ps)∧
  (c.kind=2→n3=c.tab.length∧Rd w lo w.heap.size A3 c3 (sv (yj c.tab)))∧
  (c.kind=3→∃(dg:Nat) (ys:List ByteArray),d=some ⟨dg,0,none⟩∧Dc w dg ys∧qm ys=c.dic∧n5=c.there.length∧Rd w lo w.heap.size A5 c5 (xz c.there (iv (z8 c.codes)) (.int .i64 (-1)))∧lo≤dg)
theorem qcv.below{w w':World}{lo G:Nat}{c:Chk}(h:qcv w lo G c)(hb:Below w.heap.size w w'):qcv w' lo G c:=by
 obtain⟨A0,c0,A2,n2,c2,A3,n3,c3,d,A5,n5,c5,h1,h2,h3,h4,h5,h6⟩:=h
 have up:∀ {A:Option Addr} {c:Nat} {xs:List Value},Rd w lo w.heap.size A c xs→Rd w' lo w'.heap.size A c xs:=fun hr=>(hr.below hb (qc _)).wide (qc _) hb.size
 refine⟨A0,c0,A2,n2,c2,A3,n3,c3,d,A5,n5,c5,h1.below hb h1.lt,h2,up h3,fun hk => ?_,fun hk => ?_,fun hk => ?_⟩
 ·
  obtain⟨e1,ps,e2,e3,e4⟩:=h4 hk
  exact⟨e1,ps,e2,up e3,fun p hp=>up (e4 p hp)⟩
 ·
  obtain⟨e1,e2⟩:=h5 hk
  exact⟨e1,up e2⟩
 ·
  obtain⟨dg,ys,e1,e2,e3,e4,e5⟩:=h6 hk
  exact⟨dg,ys,e1,e2.below hb (qc _),e3,e4,up e5.1,e5.2⟩
theorem qir{w:World}{lo g k G i:Nat}{bs:List UInt8}{e:Int}{u:Value}(h:vx w lo g bs k e)(hg:g<G):vx (w.setCell ⟨G,i,none⟩ u) lo g bs k e :=
 h.grown (row:=some G) (xy (vg _ _) (.inl rfl) u) (fun x hx=>by cases hx;exact .inr hg)
theorem qga{w:World}{lo hi c G i:Nat}{A:Option Addr}{xs:List Value}{u:Value}(h:Rd w lo hi A c xs)(hg:G<lo∨hi≤G):Rd (w.setCell ⟨G,i,none⟩ u) lo hi A c xs:=h.setCell (p:=⟨G,i,none⟩) hg u
theorem prt_set{w:World}{lo hi G i:Nat}{ps:List Part}{u:Value}(h:qqc w lo hi ps)(hg:G<lo∨hi≤G):qqc (w.setCell ⟨G,i,none⟩ u) lo hi ps:=fun p hp=>qga (h p hp) hg
theorem dc_set{w:World}{d G i:Nat}{ys:List ByteArray}{u:Value}(h:Dc w d ys)(hg:G<d):Dc (w.setCell ⟨G,i,none⟩ u) d ys:=by
 obtain⟨A,c,hb,ho⟩:=h
 exact⟨A,c,hb.far (by show d≠G;omega) u,jv ho (fun k hk=>Below.heap_setCell _ _ _ _ (by have:=(zk ho hk).1;show k≠G;omega))⟩
theorem out_gG{w w':World}{g G:Nat}(h:w.grownBy w' (some g)):Out w w' (fun i=>i=g∨i=G):=Out.of_gb h (fun k hk=>by cases hk;exact .inl rfl)
theorem nums_full{bs:List UInt8}{k n:Nat}{e m:Int}(hk:k≤bs.length)(hn:n≤2147483647):(uu bs k e n m).2.2=0→(uu bs k e n m).1.length=n:=fun h0=>by
 by_cases he:e=0
 ·
  subst he
  obtain⟨⟨l,q,z⟩,hR⟩:∃R,uu bs k 0 n m=R:=⟨_,rfl⟩
  rw[hR] at h0 ⊢
  simp only at h0
  subst h0
  exact(qm9 hk hn hR).1
 ·
  rw[ql0 bs k _ _ he] at h0
  exact absurd h0 he
theorem raws_full{bs:List UInt8}{k:Nat}{e m:Int}{there:List Bool}{ok:List UInt8→Bool}(hk:k≤bs.length)(hn:there.length≤2147483647):(qbo bs k e (cnt there) m ok).2.2=0→(qbo bs k e (cnt there) m ok).1.length=cnt there:=fun h0=>by
 by_cases he:e=0
 ·
  subst he
  obtain⟨⟨l,q,z⟩,hR⟩:∃R,qbo bs k 0 (cnt there) m ok=R:=⟨_,rfl⟩
  rw[hR] at h0 ⊢
  simp only at h0
  subst h0
  exact(qm4 hk (by have:=qi2 there;omega) hR).1
 ·
  rw[qow bs k _ _ _ he] at h0
  exact absurd h0 he
theorem getK_right{bs:List UInt8}{k:Nat}{e:Int}(hk:k≤bs.length):y7 (qe7 bs k e).1=true:=by
 obtain⟨⟨t,q,z⟩,hS⟩:∃S,qe7 bs k e=S:=⟨_,rfl⟩
 rw[hS]
 by_cases he:e=0
 ·
  subst he
  by_cases hz:z=0
  ·
   subst hz
   exact(getK_good hk hS).1
  ·
   unfold qe7 at hS
   split at hS
   ·
    rename_i h0
    rw[hS] at h0
    exact absurd h0 hz
   ·
    simp only[Prod.mk.injEq] at hS
    rw[←hS.1];rfl
 ·
  rw[getK_bad bs k he] at hS
  simp only[Prod.mk.injEq] at hS
  rw[←hS.1];rfl
theorem openR_few{bs:List UInt8}{k:Nat}{e:Int}(hk:k≤bs.length):(qcq bs k e).1.length≤4096:=by
 obtain⟨⟨t,q,z⟩,hS⟩:∃S,qcq bs k e=S:=⟨_,rfl⟩
 rw[hS]
 by_cases he:e=0
 ·
  subst he
  by_cases hz:z=0
  ·
   subst hz
   obtain⟨K,_,_,h,_⟩:=openR_good hk hS
   exact(qdl.1 h).1
  ·
   unfold qcq openK at hS
   split at hS
   ·
    split at hS
    ·
     rename_i h0
     rw[hS] at h0
     exact absurd h0 hz
    ·
     simp only[Prod.mk.injEq] at hS
     rw[←hS.1];simp
   ·
    simp only[Prod.mk.injEq] at hS
    rw[←hS.1];simp
 ·
  rw[openR_bad bs k he] at hS
  simp only[Prod.mk.injEq] at hS
  rw[←hS.1];simp
theorem take_one{w:World}{lo g G k c0 B:Nat}{bs:List UInt8}{e:Int}(there:List Bool){A0:Option Addr}(h:vx w lo g bs k e)(hb:bs.length≤1000000000)(hgB:g<B)(hBG:B≤G)
  (hG:yy w G 184 #[.int .i64 1,.slice A0 there.length c0,.slice none 0 0,.slice none 0 0,.pointer none,.slice none 0 0]) (ht:Rd w (G+1) w.heap.size A0 c0 (lv there)) (ht4:there.length≤4096) :
  Calls Tryz.prog 129 #[.pointer (some ⟨G,0,none⟩),cp g] w fun r w'=>r= .returned (.tuple #[])∧vx w' lo g bs (qah bs k e 1 there).2.1 (qah bs k e 1 there).2.2∧Out w w' (fun i=>i=g∨i=G)∧
   ((qah bs k e 1 there).2.2=0→qcv w' B G (qah bs k e 1 there).1):=by
 have hgl:=h.lt
 have hGl:=hG.lt
 have hk:=h.le
 have hgG:g<G:=by omega
 have b0:=hG.cell 0
 simp only[jg,zq,zv] at b0
 have HTR:=qa (qpg 1 there [] 4096 (fun _=>true) h hb hgG hG (ht.wide (by omega) (qc _)) rfl ht4 (.inl ⟨rfl,rfl⟩) (fun h=>absurd h (by decide)) (by decide))
 have HTC:Hid (qah bs k e 1 there=(⟨1,there,(qbo bs k e (cnt there) 4096 fun _=>true).1,[],[],[]⟩,(qbo bs k e (cnt there) 4096 fun _=>true).2)):=by unfold Hid;rw[qah,if_pos rfl]
 have HLN:Hid ((qbo bs k e (cnt there) 4096 fun _=>true).2.2=0→(qbo bs k e (cnt there) 4096 fun _=>true).1.length=cnt there):=raws_full hk (by omega)
 rw[HTC.out]
 generalize qbo bs k e (cnt there) 4096 (fun _=>true)=R at *
 obtain⟨l,q,z⟩:=R
 simp only at *
 have HG0:=qa hG
 have HTH:=qa ht
 clear h hG ht HTC
 unfold cp at *
 go_enter Tryz.func129,Tryz.ntmps129
 go_wp2_with fail
 refine HTR.out.mono ?_
 rintro r w1 ⟨A1,n1,c1,rfl,hc1,hg1,hp1⟩
 have hs1:=hg1.size
 have HC1:=qa hc1
 have HG1:=qa hg1
 have HP1:=qa hp1
 have hx:=HG0.out.grown hg1 (by intro e;injection e with e;omega)
 have HX:=qa (hx.put 2 (.slice A1 n1 c1))
 have x2:=hx.cell 2
 have f2:=hx.frozen 2
 simp only[jg,zq,zv] at x2
 have HTH1:=qa (HTH.out.grown hg1 (qc _) (fun r hr=>by cases hr;exact .inl (by omega)))
 clear hc1 hg1 hp1 hx b0 HTR
 go_wp2_with fail
 refine bodyPost_end (results_none rfl _ _ _) rfl ?_
 refine⟨rfl,qir HC1.out hgG,(out_gG HG1.out).setCell (p:=⟨G,2,none⟩) (.inl (.inr rfl)) _,fun hz => ?_⟩
 obtain⟨hn1,ps,hps,hr,hpp⟩:=HP1.out (HLN.out hz)
 have hsz:(w1.setCell ⟨G,2,none⟩ (.slice A1 n1 c1)).heap.size=w1.heap.size:=by simp[World.setCell]
 refine⟨A0,c0,A1,n1,c1,none,0,0,none,none,0,0,by simpa using HX.out,hBG,?_,fun _=>⟨hn1,ps,hps,?_,?_⟩,fun h=>absurd h (show ¬(1:Nat)=2 by decide),fun h=>absurd h (show ¬(1:Nat)=3 by decide)⟩
 ·
  rw[hsz];exact(qga HTH1.out (.inl (by omega))).wide (by omega) hs1
 ·
  rw[hsz];exact(qga hr (.inl hGl)).wide (by omega) (qc _)
 ·
  rw[hsz];exact(prt_set hpp (.inl hGl)).wide (by omega) (qc _)
theorem take_two{w:World}{lo g G k c0 B:Nat}{bs:List UInt8}{e:Int}(there:List Bool){A0:Option Addr}(h:vx w lo g bs k e)(hb:bs.length≤1000000000)(hgB:g<B)(hBG:B≤G)
  (hG:yy w G 184 #[.int .i64 2,.slice A0 there.length c0,.slice none 0 0,.slice none 0 0,.pointer none,.slice none 0 0]) (ht:Rd w (G+1) w.heap.size A0 c0 (lv there)) (ht4:there.length≤4096) :
  Calls Tryz.prog 129 #[.pointer (some ⟨G,0,none⟩),cp g] w fun r w'=>r= .returned (.tuple #[])∧vx w' lo g bs (qah bs k e 2 there).2.1 (qah bs k e 2 there).2.2∧Out w w' (fun i=>i=g∨i=G)∧
   ((qah bs k e 2 there).2.2=0→qcv w' B G (qah bs k e 2 there).1):=by
 have hgl:=h.lt
 have hGl:=hG.lt
 have hk:=h.le
 have hgG:g<G:=by omega
 have b0:=hG.cell 0
 simp only[jg,zq,zv] at b0
 have HSG:=qa (sget_at h hb)
 have HTC:Hid (qah bs k e 2 there=(⟨2,there,(qbo bs (qe7 bs k e).2.1 (qe7 bs k e).2.2 (cnt there) 8192 (qfk (qe7 bs k e).1)).1,(qe7 bs k e).1,[],[]⟩,(qbo bs (qe7 bs k e).2.1 (qe7 bs k e).2.2 (cnt there) 8192 (qfk (qe7 bs k e).1)).2)):=by unfold Hid;rw[qah,if_neg (by decide),if_pos rfl]
 have HRT:Hid (y7 (qe7 bs k e).1=true):=getK_right hk
 rw[HTC.out]
 have HG0:=qa hG
 have HTH:=qa ht
 generalize qe7 bs k e=S at *
 obtain⟨T,q0,e0⟩:=S
 simp only at *
 obtain⟨⟨l,q,z⟩,hN⟩:∃R,qbo bs q0 e0 (cnt there) 8192 (qfk T)=R:=⟨_,rfl⟩
 rw[hN]
 simp only
 have HNR:=qa hN
 clear h hG ht HTC hN
 unfold cp at *
 go_enter Tryz.func129,Tryz.ntmps129
 go_wp2_with fail
 refine HSG.out.mono ?_
 rintro r w1 ⟨A3,c3,rfl,ho3,hc1,hg1⟩
 have hs1:=hg1.size
 have hk1:=hc1.le
 have HC1:=qa hc1
 have HG1:=qa hg1
 have HR3:=qa (Rd.of_own ho3)
 have hx:=HG0.out.grown hg1 (by intro e;injection e with e;omega)
 have x3:=hx.cell 3
 have f3:=hx.frozen 3
 simp only[jg,zq,zv] at x3
 obtain⟨w2,hw2⟩:∃w2,w1.setCell ⟨G,3,none⟩ (.slice A3 T.length c3)=w2:=⟨_,rfl⟩
 have hx2:yy w2 G 184 #[.int .i64 2,.slice A0 there.length c0,.slice none 0 0,.slice A3 T.length c3,.pointer none,.slice none 0 0]:=by rw[←hw2];simpa using hx.put 3 (.slice A3 T.length c3)
 have hs2:w2.heap.size=w1.heap.size:=by rw[←hw2];simp[World.setCell]
 have HC2:Hid (vx w2 lo g bs q0 e0):=by unfold Hid;rw[←hw2];exact qir HC1.out hgG
 have HTH2:Hid (Rd w2 (G+1) w2.heap.size A0 c0 (lv there)):=by unfold Hid;rw[hs2,←hw2];exact(qga (HTH.out.grown HG1.out (qc _) (fun r hr=>by cases hr;exact .inl (by omega))) (.inl (by omega))).wide (qc _) hs1
 have HR32:Hid (Rd w2 w.heap.size w2.heap.size A3 c3 (sv (yj T))):=by unfold Hid;rw[hs2,←hw2];exact qga HR3.out (.inl hGl)
 have HO2:Hid (Out w w2 (fun i=>i=g∨i=G)):=by unfold Hid;rw[←hw2];exact(out_gG HG1.out).setCell (p:=⟨G,3,none⟩) (.inl (.inr rfl)) _
 have HTR:=qa (takeRaws_v 2 there T 8192 (qfk T) HC2.out hb hgG hx2 (HTH2.out.wide (by omega) (qc _)) rfl ht4 (.inr ⟨rfl,rfl,HRT.out,rfl,HR32.out.wide (by omega) (qc _)⟩) (by decide))
 have HLN:Hid ((qbo bs q0 e0 (cnt there) 8192 (qfk T)).2.2=0→(qbo bs q0 e0 (cnt there) 8192 (qfk T)).1.length=cnt there):=raws_full hk1 (by omega)
 rw[HNR.out] at HTR HLN
 have HG2:=qa hx2
 have y2:=hx2.cell 2
 have h2:=hx2.frozen 2
 have y0:=hx2.cell 0
 simp only[jg,zq,zv] at y2 y0
 simp only at HTR HLN
 have hs12:w1.heap.size≤w2.heap.size:=by omega
 clear hx hx2 ho3 hc1 hg1 HC1 HTH HR3 HG0 b0 HSG hs2
 unfold cp at *
 go_wp2_with fail
 refine HTR.out.mono ?_
 rintro r w3 ⟨A1,n1,c1,rfl,hc3,hg3,hp3⟩
 have hs3:=hg3.size
 have HC3:=qa hc3
 have HG3:=qa hg3
 have HP3:=qa hp3
 have hx:=HG2.out.grown hg3 (by intro e;injection e with e;omega)
 have HX:=qa (hx.put 2 (.slice A1 n1 c1))
 have z2:=hx.cell 2
 have zf2:=hx.frozen 2
 simp only[jg,zq,zv] at z2
 have HTH3:=qa (HTH2.out.grown hg3 (qc _) (fun r hr=>by cases hr;exact .inl (by omega)))
 have HR33:=qa (HR32.out.grown hg3 (qc _) (fun r hr=>by cases hr;exact .inl hgl))
 clear hc3 hg3 hp3 hx HTR hw2 x3 f3 y2 h2 y0
 go_wp2_with fail
 refine bodyPost_end (results_none rfl _ _ _) rfl ?_
 refine⟨rfl,qir HC3.out hgG,(HO2.out.trans (Out.of_gb (X:=fun i=>i=g∨i=G) HG3.out (fun k hk=>by cases hk;exact .inl rfl)) (fun i _ h=>h)).setCell (p:=⟨G,2,none⟩) (.inl (.inr rfl)) _,fun hz => ?_⟩
 obtain⟨hn1,ps,hps,hr,hpp⟩:=HP3.out (HLN.out hz)
 have hsz:(w3.setCell ⟨G,2,none⟩ (.slice A1 n1 c1)).heap.size=w3.heap.size:=by simp[World.setCell]
 refine⟨A0,c0,A1,n1,c1,A3,T.length,c3,none,none,0,0,by simpa using HX.out,hBG,?_,fun _=>⟨hn1,ps,hps,?_,?_⟩,fun _=>⟨rfl,?_⟩,fun h=>absurd h (show ¬(2:Nat)=3 by decide)⟩
 ·
  rw[hsz];exact(qga HTH3.out (.inl (by omega))).wide (by omega) hs3
 ·
  rw[hsz];exact(qga hr (.inl (by omega))).wide (by omega) (qc _)
 ·
  rw[hsz];exact(prt_set hpp (.inl (by omega))).wide (by omega) (qc _)
 ·
  rw[hsz];exact(qga HR33.out (.inl hGl)).wide (by omega) hs3
theorem take_three{w:World}{lo g G k c0 B:Nat}{bs:List UInt8}{e:Int}(there:List Bool){A0:Option Addr}(h:vx w lo g bs k e)(hb:bs.length≤1000000000)(hgB:g<B)(hBG:B≤G)
  (hG:yy w G 184 #[.int .i64 3,.slice A0 there.length c0,.slice none 0 0,.slice none 0 0,.pointer none,.slice none 0 0]) (ht:Rd w (G+1) w.heap.size A0 c0 (lv there)) (ht4:there.length≤4096) :
  Calls Tryz.prog 129 #[.pointer (some ⟨G,0,none⟩),cp g] w fun r w'=>r= .returned (.tuple #[])∧vx w' lo g bs (qah bs k e 3 there).2.1 (qah bs k e 3 there).2.2∧Out w w' (fun i=>i=g∨i=G)∧
   ((qah bs k e 3 there).2.2=0→qcv w' B G (qah bs k e 3 there).1):=by
 have hgl:=h.lt
 have hGl:=hG.lt
 have hk:=h.le
 have hgG:g<G:=by omega
 have b0:=hG.cell 0
 simp only[jg,zq,zv] at b0
 have HOP:=qa (fopen_any h (by omega))
 have HTC:Hid (qah bs k e 3 there=(⟨3,there,[],[],(qcq bs k e).1,(uu bs (qcq bs k e).2.1 (qcq bs k e).2.2 (cnt there) (((qcq bs k e).1.length:Int)-1)).1⟩,(uu bs (qcq bs k e).2.1 (qcq bs k e).2.2 (cnt there) (((qcq bs k e).1.length:Int)-1)).2)):=by unfold Hid;rw[qah,if_neg (by decide),if_neg (by decide),if_pos rfl]
 have HDL:Hid ((qcq bs k e).1.length≤4096):=openR_few hk
 rw[HTC.out]
 have HG0:=qa hG
 have HTH:=qa ht
 generalize qcq bs k e=S at *
 obtain⟨D,q0,e0⟩:=S
 simp only at *
 obtain⟨⟨l,q,z⟩,hN⟩:∃R,uu bs q0 e0 (cnt there) ((D.length:Int)-1)=R:=⟨_,rfl⟩
 rw[hN]
 simp only
 have HNR:=qa hN
 clear h hG ht HTC hN
 unfold cp at *
 go_enter Tryz.func129,Tryz.ntmps129
 go_wp2_with fail
 refine HOP.out.mono ?_
 rintro r w1 ⟨dg,ys,rfl,hys,hdc,hdg,hc1,hg1⟩
 have hyl:ys.length=D.length:=by rw[←hys,qv]
 have HYL:=qa hyl
 have HYS:=qa hys
 have hyl4:ys.length≤4096:=by rw[hyl];exact HDL.out
 have hs1:=hg1.size
 have hk1:=hc1.le
 have HC1:=qa hc1
 have HG1:=qa hg1
 have hx:=HG0.out.grown hg1 (by intro e;injection e with e;omega)
 have x4:=hx.cell 4
 have f4:=hx.frozen 4
 simp only[jg,zq,zv] at x4
 obtain⟨w2,hw2⟩:∃w2,w1.setCell ⟨G,4,none⟩ (.pointer (some ⟨dg,0,none⟩))=w2:=⟨_,rfl⟩
 have hx2:yy w2 G 184 #[.int .i64 3,.slice A0 there.length c0,.slice none 0 0,.slice none 0 0,.pointer (some ⟨dg,0,none⟩),.slice none 0 0]:=by rw[←hw2];simpa using hx.put 4 (.pointer (some ⟨dg,0,none⟩))
 have hs2:w2.heap.size=w1.heap.size:=by rw[←hw2];simp[World.setCell]
 have HC2:Hid (vx w2 lo g bs q0 e0):=by unfold Hid;rw[←hw2];exact qir HC1.out hgG
 have HTH2:Hid (Rd w2 (G+1) w2.heap.size A0 c0 (lv there)):=by unfold Hid;rw[hs2,←hw2];exact(qga (HTH.out.grown HG1.out (qc _) (fun r hr=>by cases hr;exact .inl (by omega))) (.inl (by omega))).wide (qc _) hs1
 have HD2:Hid (Dc w2 dg ys):=by unfold Hid;rw[←hw2];exact dc_set hdc (by omega)
 have HO2:Hid (Out w w2 (fun i=>i=g∨i=G)):=by unfold Hid;rw[←hw2];exact(out_gG HG1.out).setCell (p:=⟨G,4,none⟩) (.inl (.inr rfl)) _
 have HTR:=qa (takeCodes_v 3 there ys HC2.out hb hgG hx2 (HTH2.out.wide (by omega) (qc _)) rfl ht4 HD2.out (by omega))
 have HLN:Hid ((uu bs q0 e0 (cnt there) ((ys.length:Int)-1)).2.2=0→(uu bs q0 e0 (cnt there) ((ys.length:Int)-1)).1.length=cnt there):=nums_full hk1 (by have:=qi2 there;omega)
 rw[hyl,HNR.out] at HTR HLN
 have HG2:=qa hx2
 have y0:=hx2.cell 0
 simp only[jg,zq,zv] at y0
 simp only at HTR HLN
 have hs12:w1.heap.size≤w2.heap.size:=by omega
 have hdgG:G<dg:=by omega
 clear hx hx2 hdc hc1 hg1 HC1 HTH HG0 b0 HOP hs2 hyl hys
 unfold cp at *
 go_wp2_with fail
 refine HTR.out.mono ?_
 rintro r w3 ⟨A1,n1,c1,rfl,hc3,hg3,hp3⟩
 have hs3:=hg3.size
 have HC3:=qa hc3
 have HG3:=qa hg3
 have HP3:=qa hp3
 have hx:=HG2.out.grown hg3 (by intro e;injection e with e;omega)
 have HX:=qa (hx.put 5 (.slice A1 n1 c1))
 have z5:=hx.cell 5
 have zf5:=hx.frozen 5
 simp only[jg,zq,zv] at z5
 have HTH3:=qa (HTH2.out.grown hg3 (qc _) (fun r hr=>by cases hr;exact .inl (by omega)))
 have HD3:=qa (HD2.out.cur hg3 (by omega))
 clear hc3 hg3 hp3 hx HTR hw2 x4 f4 y0
 go_wp2_with fail
 refine bodyPost_end (results_none rfl _ _ _) rfl ?_
 refine⟨rfl,qir HC3.out hgG,(HO2.out.trans (Out.of_gb (X:=fun i=>i=g∨i=G) HG3.out (fun k hk=>by cases hk;exact .inl rfl)) (fun i _ h=>h)).setCell (p:=⟨G,5,none⟩) (.inl (.inr rfl)) _,fun hz => ?_⟩
 obtain⟨hn1,hr⟩:=HP3.out (HLN.out hz)
 have hsz:(w3.setCell ⟨G,5,none⟩ (.slice A1 n1 c1)).heap.size=w3.heap.size:=by simp[World.setCell]
 refine⟨A0,c0,none,0,0,none,0,0,some ⟨dg,0,none⟩,A1,n1,c1,by simpa using HX.out,hBG,?_,fun h=>absurd h (show ¬((3:Nat)=1∨(3:Nat)=2) by decide),fun h=>absurd h (show ¬(3:Nat)=2 by decide),fun _=>⟨dg,ys,rfl,dc_set HD3.out hdgG,HYS.out,hn1,?_,by omega⟩⟩
 ·
  rw[hsz];exact(qga HTH3.out (.inl (by omega))).wide (by omega) hs3
 ·
  rw[hsz];exact(qga hr (.inl (by omega))).wide (by omega) (qc _)
theorem take_other{w:World}{lo g G k c0 B:Nat}{bs:List UInt8}{e:Int}(kd:Nat)(h1:kd≠1)(h2:kd≠2)(h3:kd≠3)(there:List Bool){A0:Option Addr}(h:vx w lo g bs k e)(hb:bs.length≤1000000000)(hgB:g<B)(hBG:B≤G)
  (hG:yy w G 184 #[.int .i64 (kd:Int),.slice A0 there.length c0,.slice none 0 0,.slice none 0 0,.pointer none,.slice none 0 0]) (ht:Rd w (G+1) w.heap.size A0 c0 (lv there)) (ht4:there.length≤4096) :
  Calls Tryz.prog 129 #[.pointer (some ⟨G,0,none⟩),cp g] w fun r w'=>r= .returned (.tuple #[])∧vx w' lo g bs (qah bs k e kd there).2.1 (qah bs k e kd there).2.2∧Out w w' (fun i=>i=g∨i=G):=by
 have hgl:=h.lt
 have hGl:=hG.lt
 have hk:=h.le
 have hgG:g<G:=by omega
 have b0:=hG.cell 0
 simp only[jg,zq,zv] at b0
 have e1:qah bs k e kd there=(⟨kd,there,[],[],[],[]⟩,k,e):=by rw[qah,if_neg h1,if_neg h2,if_neg h3]
 rw[e1]
 have i1:((kd:Int)==1)=false:=by rw[q9];omega
 have i2:((kd:Int)==2)=false:=by rw[q9];omega
 have i3:((kd:Int)==3)=false:=by rw[q9];omega
 have j1:¬(kd:Int)=1:=by omega
 have j2:¬(kd:Int)=2:=by omega
 have j3:¬(kd:Int)=3:=by omega
 have HC:=qa h
 clear h hG ht e1 h1 h2 h3
 unfold cp at *
 go_enter Tryz.func129,Tryz.ntmps129
 go_wp2_with fail
 refine bodyPost_end (results_none rfl _ _ _) rfl ?_
 exact⟨rfl,HC.out,Out.refl _ _⟩
end Go.Proofs.YtjfecojdagmacaaGreat
