/-
  Lemmas.
-/
import Derived.Test.YtnjkipnklpkaoaaGreatA32
namespace Go.Proofs.YtnjkipnklpkaoaaGreat
open Go.RowKit
set_option maxRecDepth 20000
set_option maxHeartbeats 16000000
set_option linter.unusedSimpArgs false
set_option linter.unusedVariables false
theorem headT(s:ByteArray)(k:Nat):(s.extract 0 k).data.toList=s.data.toList.take k:=headS s k
theorem tailT(s:ByteArray)(k:Nat):(s.extract k s.size).data.toList=s.data.toList.drop k:=by
 rw[qb1,qep]
 rw[qcf,qo (by rw[qu,qgq];omega)]
theorem app_strT(o t:ByteArray):(o++t).data.toList=o.data.toList++t.data.toList:=by rw[ByteArray.data_append,Array.toList_append]
theorem usL_nil(n:Nat):lv (usL n [])=List.replicate n (.bool false):=by
 unfold usL lv
 rw[ut]
 apply List.ext_getElem
 ·
  simp
 ·
  intro i h1 h2
  simp
theorem round_end{w wv:World}{z:Nat}{bag:List (List UInt8)}{ns:List ByteArray}{cs ks:List Nat}(hcnt:Cnt bag (qm ns) cs)(hsel:Sel bag (qm ns) ks)(hk:ks.length≤255)(hd:ks.length=255∨∀j,j<ns.length→j∈ks)(hns:∀j (hj:j<ns.length),ns[j].size≤8)
  {A5:Option Addr} {c5:Nat} (ho:wv.ownsRow z 9 1 (.slice A5 ks.length c5) ks.length (sv (ks.map fun j=>ns.getD j ⟨#[]⟩))) (hb:Below w.heap.size w wv) :
  Calls Tryz.prog 198 #[.slice A5 ks.length c5] wv fun r w'=>∃t A' c',r= .returned (.slice A' t.length c')∧qfh bag t∧w'.ownsRow w.heap.size 9 1 (.slice A' t.length c') t.length (sv (j7 t))∧Below w.heap.size w w':=by
 have hlt:∀i (hi:i<ks.length),ks[i]<ns.length:=fun i hi=>by
  have:=hsel.lt _ (qj hi)
  rwa [qx] at this
 have h1:=refOrder_any (w:=wv) (ks.map fun j=>ns.getD j ⟨#[]⟩) (A:=A5) (c:=c5) (qp7 ho) (fun s hs=>by
  obtain⟨j,hj,rfl⟩:=zn.1 hs
  have hj2:=hsel.lt j hj
  rw[qx] at hj2
  rw[ql2 hj2]
  have:=hns j hj2
  omega) (by rw[q8];omega)
 rw[q8] at h1
 refine h1.mono ?_
 rintro r w' ⟨t,A',c',rfl,ht,hot,hbt⟩
 refine⟨t,A',c',rfl,⟨_,hsel.done hcnt hk (by rw[qx];exact hd) (best:=qm (ks.map fun j=>ns.getD j ⟨#[]⟩)) (by rw[qx,q8]) (fun i hi => ?_),ht⟩,j4 hot hb.size,hb.trans (hbt.mono hb.size)⟩
 rw[yq _ i (by rw[q8];exact hi),yq ns _ (hlt i hi),yz,ql2 (hlt i hi)]
theorem refRound_any{w:World}(T S:List ByteArray){c d:Nat}{A B:Option Addr}(h:Rd w 0 w.heap.size A c (sv T))(hS:Rd w 0 w.heap.size B d (sv S))(h8:∀t∈qm T,qhw t=true)(hTl:T.length≤255)(hSl:S.length≤100)(hSb:∀s∈S,s.size≤100000)(hbag:(qfl (qm T) (qm S)).length≤1000000) :
  Calls Tryz.prog 164 #[.slice A T.length c,.slice B S.length d] w fun r w'=>∃t A' c',r= .returned (.slice A' t.length c')∧qfh (qfl (qm T) (qm S)) t∧w'.ownsRow w.heap.size 9 1 (.slice A' t.length c') t.length (sv (j7 t))∧Below w.heap.size w w':=by
 have hl:=h.len
 have hm:=h.cap
 have hl2:=hS.len
 have hm2:=hS.cap
 rw[yg] at hl hl2
 unfold maxLen at hm hm2
 have H:=qa h
 have HS:=qa hS
 have H8:=qa h8
 have HSB:Hid (∀k (hk:k<S.length),S[k].size≤100000):=fun k hk=>hSb _ (qj hk)
 have HT8:Hid (∀t∈T,t.size≤100000):=fun t ht=>by
  have:=(qfu.1 (h8 _ (xq ht))).2
  rw[qgq] at this
  omega
 obtain⟨bag,hbg⟩:∃bag,qfl (qm T) (qm S)=bag:=⟨_,rfl⟩
 rw[hbg] at hbag
 rw[hbg]
 have HBG:=qa hbg
 have HBL:=qa hbag
 clear h hS h8 hSb hbg hbag
 go_enter Tryz.func164,Tryz.ntmps164
 go_wp2_with fail
 go_loopw [5,6,7] (fun x5 x6 x7 wr=>∃(k n:Nat) (P:List (List UInt8)) (ns:List ByteArray) (cs:List Nat) (A1 B1:Option Addr) (c1 d1:Nat),k≤S.length∧x7= .int .i64 (k:Int)∧x5= .slice A1 n c1∧x6= .slice B1 n d1∧n=ns.length∧
  Two wr w.heap.size (.slice A1 n c1) (.slice B1 n d1) ns cs∧Cnt P (qm ns) cs∧P++qfl (qm T) ((qm S).drop k)=bag∧Below w.heap.size w wr) (fun _ _ i _=>S.length-(intOf i).toNat)
 case atStart=>exact⟨0,0,[],[],[],none,none,0,0,qi _,rfl,rfl,rfl,rfl,Two.nil _ _,Cnt.nil,by rw[jx,HBG.out];rfl,Below.refl _ _⟩
 case round =>
  obtain⟨k,n,P,ns,cs,A1,B1,c1,d1,hk,rfl,rfl,rfl,hn,htwo,hcnt,hinv,hb⟩:=hrel
  have HN:=qa hn
  have HTW:=qa htwo
  have HC:=qa hcnt
  have HI:=qa hinv
  have HB:=qa hb
  clear hn htwo hcnt hinv hb
  by_cases hlt:k<S.length
  ·
   have ik:(k:Int)<(S.length:Int):=by omega
   obtain⟨b,off,rfl,_,hbh,hcell⟩:=(HS.out.below HB.out (qc _)).str hlt
   have hsz:=HSB.out k hlt
   have HP1:Hid (P++qaf (qm T) [] S[k].data.toList++qfl (qm T) ((qm S).drop (k+1))=bag):=by
    unfold Hid
    rw[qv,←HI.out,bag_drop (k:=k) (S:=qm S) (by rw[qx];exact hlt),yq S k hlt]
   clear HI
   generalize S[k]=s0 at *
   go_wp2_with fail
   go_loopw [5,6,8,9] (fun x5 x6 x8 x9 wv=>∃(n:Nat) (t q:ByteArray) (P:List (List UInt8)) (ns:List ByteArray) (cs:List Nat) (A1 B1:Option Addr) (c1 d1:Nat),t.size≤s0.size∧q.size≤8∧x8= .string t∧x9= .string q∧x5= .slice A1 n c1∧x6= .slice B1 n d1∧n=ns.length∧
    Two wv w.heap.size (.slice A1 n c1) (.slice B1 n d1) ns cs∧Cnt P (qm ns) cs∧P++qaf (qm T) q.data.toList t.data.toList++qfl (qm T) ((qm S).drop (k+1))=bag∧Below w.heap.size w wv) (fun _ _ x8 _ _=>(match x8 with | .string t=>t.size | _=>0))
   case atStart=>exact⟨n,s0,⟨#[]⟩,P,ns,cs,A1,B1,c1,d1,qc _,qi _,rfl,rfl,rfl,rfl,HN.out,HTW.out,HC.out,HP1.out,HB.out⟩
   case round =>
    clear HN HTW HC HP1 HB hcell
    obtain⟨n,t,q,P,ns,cs,A1,B1,c1,d1,ht,hq,rfl,rfl,rfl,rfl,hn,htwo,hcnt,hinv,hb⟩:=hrel
    have HN:=qa hn
    have HTW:=qa htwo
    have HC:=qa hcnt
    have HI:=qa hinv
    have HB:=qa hb
    clear hn htwo hcnt hinv hb
    by_cases h0:0<t.size
    ·
     have i0:(0:Int)<(t.size:Int):=by omega
     have htn:t.data.toList≠[]:=fun e=>by have h9:=qgq t;rw[e,je] at h9;omega
     have hst1:=qh6 (qm T) t.data.toList
     have hst2:=qlj (T:=qm T) htn
     have hst3:=stepP_ok H8.out t.data.toList
     rw[qgq] at hst2
     have HPC:=qa (qi1 (qm T) q.data.toList htn)
     have HLG:=qa (fun w2 (hb2:Below w.heap.size w w2)=>qls (w:=w2) T t (H.out.below hb2 (qc _)) HT8.out (by omega) (by omega))
     have HSP:Hid (qc4 (qm T) t.data.toList=if (qfp (qm T) 0 (-1) 0 t.data.toList).2=0 then 1 else (qfp (qm T) 0 (-1) 0 t.data.toList).2):=rfl
     generalize qfp (qm T) 0 (-1) 0 t.data.toList=v at *
     obtain⟨v1,v2⟩:=v
     have HSP2:Hid (qc4 (qm T) t.data.toList=if v2=0 then 1 else v2):=HSP.out
     clear HSP htn
     generalize qc4 (qm T) t.data.toList=st at *
     have hql:=qgq q
     by_cases hv0:v2=0
     ·
      obtain rfl:st=1:=by have:=HSP2.out;rw[if_pos hv0] at this;exact this
      subst hv0
      clear HSP2
      go_wp2_with fail
      refine(HLG.out _ HB.out).mono ?_
      rintro r w1 ⟨rfl,m,rfl⟩
      have hb1:Below w.heap.size w (wr.drewN m):=zg HB.out m
      have HT1:=qa (HTW.out.drewN m)
      generalize wr.drewN m=w1 at *
      have HB1:=qa hb1
      have hz1:=hb1.size
      clear hb1 HLG HTW HB
      have i8:(1:Int)≤(t.size:Int):=by omega
      have HPE:Hid (P.length+3≤100000000):=by
       have h1:=HBL.out
       rw[←HI.out,qd,qd] at h1
       unfold Hid
       omega
      have hps:(t.extract 0 1).size=1:=by rw[yt];omega
      have hts:(t.extract 1 t.size).size=t.size-1:=by rw[yt];omega
      have HHD:=qa (headT t 1)
      have HTL:=qa (tailT t 1)
      have HPS:=qa hps
      have HTS:=qa hts
      clear hps hts
      go_wp2_with fail
      refine(add_any (w:=w1) w.heap.size ns cs (t.extract 0 1) HN.out HT1.out P HC.out (by have:=HPE.out;omega) hz1).mono ?_
      rintro r w2 ⟨ns2,cs2,A2,B2,c2,d2,n2,rfl,hn2,htw2,hc2,hb2⟩
      have HN2:=qa hn2
      have HT2:=qa htw2
      have HC2:=qa hc2
      have HB2:Hid (Below w.heap.size w w2):=HB1.out.trans hb2
      have hz2:=HB2.out.size
      clear hn2 htw2 hc2 hb2 HN HT1 HC HB1
      by_cases hq0:q.size=0
      ·
       have hq1:q.toList.isEmpty=true:=by rw[jf,zd (hql.trans hq0)];rfl
       have HR:Hid ((P++[(t.extract 0 1).data.toList])++qaf (qm T) (t.extract 0 1).data.toList (t.extract 1 t.size).data.toList++qfl (qm T) ((qm S).drop (k+1))=bag):=by
        unfold Hid
        rw[←HI.out,HPC.out,HHD.out,HTL.out,if_neg (fun e=>e.1 (zd (hql.trans hq0)))]
        simp only[qv,z6,yk]
       clear hq0 hql
       go_wp2_with fail
       go_roundw
       case rel=>exact⟨n2,t.extract 1 t.size,t.extract 0 1,_,ns2,cs2,A2,B2,c2,d2,by rw[HTS.out];omega,by rw[HPS.out];omega,rfl,rfl,rfl,rfl,HN2.out,HT2.out,HC2.out,HR.out,HB2.out⟩
       case measure =>
        show(t.extract 1 t.size).size<t.size
        rw[HTS.out];omega
      ·
       have hq1:q.toList.isEmpty=false:=by
        rw[jf]
        exact xi.2 (fun e=>hq0 (by rw[←hql,e];rfl))
       have hqn:q.data.toList≠[]:=fun e=>hq0 (by rw[←hql,e];rfl)
       by_cases hq8:q.size+1≤8
       ·
        have iq8:(q.size:Int)+1≤8:=by omega
        have HR:Hid ((P++[(t.extract 0 1).data.toList]++[(q++t.extract 0 1).data.toList])++qaf (qm T) (t.extract 0 1).data.toList (t.extract 1 t.size).data.toList++qfl (qm T) ((qm S).drop (k+1))=bag):=by
         unfold Hid
         rw[app_strT,←HI.out,HPC.out,HHD.out,HTL.out,if_pos ⟨hqn,by rw[hql];exact hq8⟩]
         simp only[qv,z6,yk]
        clear hq0 hql hqn
        go_wp2_with fail
        refine(add_any (w:=w2) w.heap.size ns2 cs2 (q++t.extract 0 1) HN2.out HT2.out _ HC2.out (by rw[qd];have:=HPE.out;simp only[jd];omega) hz2).mono ?_
        rintro r w3 ⟨ns3,cs3,A3,B3,c3,d3,n3,rfl,hn3,htw3,hc3,hb3⟩
        have HN3:=qa hn3
        have HT3:=qa htw3
        have HC3:=qa hc3
        have HB3:Hid (Below w.heap.size w w3):=HB2.out.trans hb3
        clear hn3 htw3 hc3 hb3
        go_wp2_with fail
        go_roundw
        case rel=>exact⟨n3,t.extract 1 t.size,t.extract 0 1,_,ns3,cs3,A3,B3,c3,d3,by rw[HTS.out];omega,by rw[HPS.out];omega,rfl,rfl,rfl,rfl,HN3.out,HT3.out,HC3.out,HR.out,HB3.out⟩
        case measure =>
         show(t.extract 1 t.size).size<t.size
         rw[HTS.out];omega
       ·
        have iq8:¬(q.size:Int)+1≤8:=by omega
        have HR:Hid ((P++[(t.extract 0 1).data.toList])++qaf (qm T) (t.extract 0 1).data.toList (t.extract 1 t.size).data.toList++qfl (qm T) ((qm S).drop (k+1))=bag):=by
         unfold Hid
         rw[←HI.out,HPC.out,HHD.out,HTL.out,if_neg (fun e=>hq8 (by have:=e.2;rw[hql] at this;exact this))]
         simp only[qv,z6,yk]
        clear hq0 hql hqn
        go_wp2_with fail
        go_roundw
        case rel=>exact⟨n2,t.extract 1 t.size,t.extract 0 1,_,ns2,cs2,A2,B2,c2,d2,by rw[HTS.out];omega,by rw[HPS.out];omega,rfl,rfl,rfl,rfl,HN2.out,HT2.out,HC2.out,HR.out,HB2.out⟩
        case measure =>
         show(t.extract 1 t.size).size<t.size
         rw[HTS.out];omega
     ·
      obtain rfl:st=v2:=by have:=HSP2.out;rw[if_neg hv0] at this;exact this
      clear HSP2
      have iv0:¬(st:Int)=0:=by omega
      have bv0:((st:Int)==0)=false:=by rw[qr];exact iv0
      go_wp2_with fail
      refine(HLG.out _ HB.out).mono ?_
      rintro r w1 ⟨rfl,m,rfl⟩
      have hb1:Below w.heap.size w (wr.drewN m):=zg HB.out m
      have HT1:=qa (HTW.out.drewN m)
      generalize wr.drewN m=w1 at *
      have HB1:=qa hb1
      have hz1:=hb1.size
      clear hb1 HLG HTW HB
      have i8:(st:Int)≤(t.size:Int):=by omega
      have HPE:Hid (P.length+3≤100000000):=by
       have h1:=HBL.out
       rw[←HI.out,qd,qd] at h1
       unfold Hid
       omega
      have hps:(t.extract 0 st).size=st:=by rw[yt];omega
      have hts:(t.extract st t.size).size=t.size-st:=by rw[yt];omega
      have HHD:=qa (headT t st)
      have HTL:=qa (tailT t st)
      have HPS:=qa hps
      have HTS:=qa hts
      clear hps hts
      go_wp2_with fail
      refine(add_any (w:=w1) w.heap.size ns cs (t.extract 0 st) HN.out HT1.out P HC.out (by have:=HPE.out;omega) hz1).mono ?_
      rintro r w2 ⟨ns2,cs2,A2,B2,c2,d2,n2,rfl,hn2,htw2,hc2,hb2⟩
      have HN2:=qa hn2
      have HT2:=qa htw2
      have HC2:=qa hc2
      have HB2:Hid (Below w.heap.size w w2):=HB1.out.trans hb2
      have hz2:=HB2.out.size
      clear hn2 htw2 hc2 hb2 HN HT1 HC HB1
      by_cases hq0:q.size=0
      ·
       have hq1:q.toList.isEmpty=true:=by rw[jf,zd (hql.trans hq0)];rfl
       have HR:Hid ((P++[(t.extract 0 st).data.toList])++qaf (qm T) (t.extract 0 st).data.toList (t.extract st t.size).data.toList++qfl (qm T) ((qm S).drop (k+1))=bag):=by
        unfold Hid
        rw[←HI.out,HPC.out,HHD.out,HTL.out,if_neg (fun e=>e.1 (zd (hql.trans hq0)))]
        simp only[qv,z6,yk]
       clear hq0 hql
       go_wp2_with fail
       go_roundw
       case rel=>exact⟨n2,t.extract st t.size,t.extract 0 st,_,ns2,cs2,A2,B2,c2,d2,by rw[HTS.out];omega,by rw[HPS.out];omega,rfl,rfl,rfl,rfl,HN2.out,HT2.out,HC2.out,HR.out,HB2.out⟩
       case measure =>
        show(t.extract st t.size).size<t.size
        rw[HTS.out];omega
      ·
       have hq1:q.toList.isEmpty=false:=by
        rw[jf]
        exact xi.2 (fun e=>hq0 (by rw[←hql,e];rfl))
       have hqn:q.data.toList≠[]:=fun e=>hq0 (by rw[←hql,e];rfl)
       by_cases hq8:q.size+st≤8
       ·
        have iq8:(q.size:Int)+(st:Int)≤8:=by omega
        have HR:Hid ((P++[(t.extract 0 st).data.toList]++[(q++t.extract 0 st).data.toList])++qaf (qm T) (t.extract 0 st).data.toList (t.extract st t.size).data.toList++qfl (qm T) ((qm S).drop (k+1))=bag):=by
         unfold Hid
         rw[app_strT,←HI.out,HPC.out,HHD.out,HTL.out,if_pos ⟨hqn,by rw[hql];exact hq8⟩]
         simp only[qv,z6,yk]
        clear hq0 hql hqn
        go_wp2_with fail
        refine(add_any (w:=w2) w.heap.size ns2 cs2 (q++t.extract 0 st) HN2.out HT2.out _ HC2.out (by rw[qd];have:=HPE.out;simp only[jd];omega) hz2).mono ?_
        rintro r w3 ⟨ns3,cs3,A3,B3,c3,d3,n3,rfl,hn3,htw3,hc3,hb3⟩
        have HN3:=qa hn3
        have HT3:=qa htw3
        have HC3:=qa hc3
        have HB3:Hid (Below w.heap.size w w3):=HB2.out.trans hb3
        clear hn3 htw3 hc3 hb3
        go_wp2_with fail
        go_roundw
        case rel=>exact⟨n3,t.extract st t.size,t.extract 0 st,_,ns3,cs3,A3,B3,c3,d3,by rw[HTS.out];omega,by rw[HPS.out];omega,rfl,rfl,rfl,rfl,HN3.out,HT3.out,HC3.out,HR.out,HB3.out⟩
        case measure =>
         show(t.extract st t.size).size<t.size
         rw[HTS.out];omega
       ·
        have iq8:¬(q.size:Int)+(st:Int)≤8:=by omega
        have HR:Hid ((P++[(t.extract 0 st).data.toList])++qaf (qm T) (t.extract 0 st).data.toList (t.extract st t.size).data.toList++qfl (qm T) ((qm S).drop (k+1))=bag):=by
         unfold Hid
         rw[←HI.out,HPC.out,HHD.out,HTL.out,if_neg (fun e=>hq8 (by have:=e.2;rw[hql] at this;exact this))]
         simp only[qv,z6,yk]
        clear hq0 hql hqn
        go_wp2_with fail
        go_roundw
        case rel=>exact⟨n2,t.extract st t.size,t.extract 0 st,_,ns2,cs2,A2,B2,c2,d2,by rw[HTS.out];omega,by rw[HPS.out];omega,rfl,rfl,rfl,rfl,HN2.out,HT2.out,HC2.out,HR.out,HB2.out⟩
        case measure =>
         show(t.extract st t.size).size<t.size
         rw[HTS.out];omega
    ·
     have i0:¬(0:Int)<(t.size:Int):=by omega
     have ht0:t.data.toList=[]:=zd (by rw[qgq];omega)
     have HP2:Hid (P++qfl (qm T) ((qm S).drop (k+1))=bag):=by
      have:=HI.out
      rw[ht0,qnx,jj] at this
      exact this
     clear ht0 HI
     go_wp2_with fail
     go_roundw
     case rel=>exact⟨k+1,n,P,ns,cs,A1,B1,c1,d1,by omega,by go_num,rfl,rfl,HN.out,HTW.out,HC.out,HP2.out,HB.out⟩
     case measure=>simp[intOf] <;> omega
  ·
   have ik:¬(k:Int)<(S.length:Int):=by omega
   have hP:P=bag:=by
    rw[←HI.out,vj (by rw[qx];omega)]
    simp[qfl]
   have HC2:Hid (Cnt bag (qm ns) cs):=by unfold Hid;rw[←hP];exact HC.out
   obtain⟨wy,hwy⟩:∃wy,wy=wr:=⟨_,rfl⟩
   subst hwy
   have hfew:=HC2.out.few
   rw[qx] at hfew
   have hnl:n≤1000000:=by have:=HBL.out;have:=HN.out;omega
   have HNS:Hid (∀j (hj:j<ns.length),ns[j].size≤8):=fun j hj=>by
    have h1:(qm ns)[j]'(by rw[qx];exact hj)∈bag:=(HC2.out.mem _).1 (qj _)
    rw[yq ns j hj,←HBG.out] at h1
    have:=bag_ok H8.out h1
    rwa [qgq] at this
   have HNC:Hid (n=cs.length):=by have h1:=HC2.out.len;rw[qx] at h1;exact HN.out.trans h1
   have hr1:Rd wy 0 wy.heap.size A1 c1 (sv ns):=by
    have h1:=HTW.out.o1
    rw[←HN.out] at h1
    exact qp7 h1
   have hr2:Rd wy 0 wy.heap.size B1 d1 (nz cs):=by
    have h1:=HTW.out.o2
    rw[←HNC.out] at h1
    exact qp7 h1
   obtain⟨w6,hmake,ho6,hg6⟩:=qf3 wy n (by omega)
   have hb6:Below wy.heap.size wy w6:=(Below.refl _ wy).grown hg6 (qc _) (fun q hq=>by cases hq)
   have hu:=(zk ho6 (k:=wy.heap.size) (by simp[Value.ownBlock])).2
   have hwz:=HB.out.size
   have HR1:=qa hr1
   have HR2:=qa hr2
   have HU6:=qa ho6
   have HB6:=qa hb6
   have HCN:=qa HC2.out.cnt
   clear hr1 hr2 ho6 hg6 hb6 HI HC hP hfew HTW
   go_wp2_with fail
   go_loopw [13] (fun x13 wv=>∃(ks:List Nat) (bs:List ByteArray) (A5:Option Addr) (c5:Nat),x13= .slice A5 ks.length c5∧bs=ks.map (fun j=>ns.getD j ⟨#[]⟩)∧ks.length≤255∧Sel bag (qm ns) ks∧
    wv.ownsRow wy.heap.size 4 1 (.slice (some ⟨wy.heap.size,0,none⟩) n n) n (lv (usL n ks))∧wv.ownsRow (wy.heap.size+1) 9 1 (.slice A5 ks.length c5) ks.length (sv bs)∧Below wy.heap.size wy wv∧wy.heap.size+1≤wv.heap.size) (fun x13 _=>(match x13 with | .slice _ m _=>255-m | _=>0))
   case atStart=>exact⟨[],[],none,0,rfl,rfl,qi _,Sel.nil _ _,by rw[usL_nil];exact HU6.out,zh _ _ _ _,HB6.out,hu⟩
   case round =>
    clear HU6 HB6
    obtain⟨ks,bs,A5,c5,rfl,hbs,hk5,hsel,hus,hbo,hbv,hzv⟩:=hrel
    obtain⟨wv,hwv⟩:∃wv,wv=wr:=⟨_,rfl⟩
    subst hwv
    have HBS:=qa hbs
    have HSL:=qa hsel
    have HUS:=qa hus
    have HBO:=qa hbo
    have HBV:=qa hbv
    clear hbs hsel hus hbo hbv
    by_cases h255:ks.length<255
    ·
     have i255:(ks.length:Int)<255:=by omega
     go_wp2_with fail
     go_loopw [15,16] (fun x15 x16 wi=>∃(i m:Nat) (kk:Int),i≤n∧x16= .int .i64 (i:Int)∧x15= .int .i64 kk∧qme bag (qm ns) ks i kk∧wi=wv.drewN m) (fun _ x16 _=>n-(intOf x16).toNat)
     case atStart=>exact⟨0,0, -1,qi _,rfl,rfl,Or.inl ⟨rfl,fun j _ h=>absurd h (jp j)⟩,rfl⟩
     case round =>
      obtain⟨i,m,kk,hi,rfl,rfl,hlead,rfl⟩:=hrel
      have HLD:=qa hlead
      clear hlead
      by_cases hin:i<n
      ·
       have ii:(i:Int)<(n:Int):=by omega
       have hil:i<ns.length:=by have:=HN.out;omega
       have hic:i<cs.length:=by have:=HNC.out;omega
       have hcu0:=HUS.out.cells (g:=wy.heap.size) (by simp[Value.ownBlock]) i (.bool (decide (i∈ks))) (by rw[lv_get _ _ (by rw[qka];exact hin),usL_get _ hin])
       rw[lit_add] at hcu0
       by_cases hmem:i∈ks
       ·
        have hcu:wv.cell? ⟨wy.heap.size,i,none⟩=some (.bool true):=by rw[hcu0,qp hmem]
        have HL2:=qa (lead_used HLD.out hmem)
        clear hcu0 hmem
        go_wp2_with fail
        go_roundw
        case rel=>exact⟨i+1,m,kk,by omega,by go_num,rfl,HL2.out,rfl⟩
        case measure=>simp[intOf] <;> omega
       ·
        have hcu:wv.cell? ⟨wy.heap.size,i,none⟩=some (.bool false):=by rw[hcu0,ql hmem]
        clear hcu0
        obtain⟨b1,off1,rfl, -, -, -⟩:=(HR1.out.below HBV.out (qc _)).str hil
        obtain⟨b2,off2,rfl, -, -, -⟩:=Rd.num (zs:=cs.map fun(n:Nat)=>(n:Int)) (HR2.out.below HBV.out (qc _)) (k:=i) (by rw[q8];exact hic)
        have hsp:=spot_of (HR1.out.below HBV.out (qc _)) (HR2.out.below HBV.out (qc _)) hil hic (HNS.out i hil) (ze (HC2.out.low hic) HBL.out)
        rcases HLD.out with ⟨hk1,hall⟩ | ⟨k2,hk2,hkk,hki,hkn,hbt⟩
        ·
         subst hk1
         have HL2:Hid (qme bag (qm ns) ks (i+1) (i:Int)):=lead_first hall (by rw[qx];exact hil) hmem
         clear hall hmem HLD
         obtain⟨t,z,G,hcn,hcc,lt,lz,hw1,hw2,lg⟩:∃t z G,Spot wv b1 off1 b2 off2 i t z G:=⟨_,_,_,hsp⟩
         clear hsp
         go_wp2_with fail
         go_quiet (fail)
         go_wp2_with fail
         go_quiet (fail)
         go_wp2_with fail
         go_roundw
         case rel=>exact⟨i+1,_,(i:Int),by omega,by go_num,rfl,HL2.out,by first | rfl | (rw[zr];rfl) | (rw[zr,zr])⟩
         case measure=>simp[intOf] <;> omega
        ·
         subst hkk
         have hkl:k2<ns.length:=by rw[qx] at hk2;exact hk2
         have hkc:k2<cs.length:=by have:=HN.out;have:=HNC.out;omega
         have hsq:=spot_of (HR1.out.below HBV.out (qc _)) (HR2.out.below HBV.out (qc _)) hkl hkc (HNS.out k2 hkl) (ze (HC2.out.low hkc) HBL.out)
         obtain⟨g1,g2,g3,g4⟩:=rival HC2.out hil hic hkl hkc hki hkn hmem hbt
         have hcmp:=fun w=>qch (w:=w) ns[i] ns[k2] (by have:=HNS.out i hil;omega) (by have:=HNS.out k2 hkl;omega)
         obtain⟨t,t2,z,z2,G,G2,zz,hs1,hs2,HCM,G1,G2',G3,G4⟩:∃(t t2:ByteArray) (z z2 G G2:Nat) (zz:Int),Spot wv b1 off1 b2 off2 i t z G∧Spot wv b1 off1 b2 off2 k2 t2 z2 G2∧
           Hid (∀w,Calls Tryz.prog 106 #[.string t,.string t2] w fun r w'=>r= .returned (.int .i64 zz)∧∃m,w'=w.drewN m)∧Hid (G2<G→qme bag (qm ns) ks (i+1) (i:Int))∧Hid (G=G2→zz<0→qme bag (qm ns) ks (i+1) (i:Int))∧
           Hid (G=G2→¬zz<0→qme bag (qm ns) ks (i+1) (k2:Int))∧Hid (G<G2→qme bag (qm ns) ks (i+1) (k2:Int)):=⟨_,_,_,_,_,_,_,hsp,hsq,hcmp,g1,g2,g3,g4⟩
         obtain⟨hcn,hcc,lt,lz,hw1,hw2,lg⟩:=hs1
         obtain⟨hcn2,hcc2,lt2,lz2,hw3,hw4,lg2⟩:=hs2
         have dk:decide ((k2:Int)<0)=false:=ql (by omega)
         have ik2:(k2:Int)<(n:Int):=by have:=HN.out;omega
         have nk2:k2<n:=by omega
         clear hbt hmem HLD hk2 hsp hsq g1 g2 g3 g4 hcmp
         by_cases hgt:G2<G
         ·
          have d1:decide (G2<G)=true:=qp hgt
          have HL2:=qa (G1.out hgt)
          clear hgt G1 G2' G3 G4 HCM
          go_wp2_with fail
          go_quiet (fail)
          go_wp2_with fail
          go_quiet (fail)
          go_wp2_with fail
          go_roundw
          case rel=>exact⟨i+1,_,(i:Int),by omega,by go_num,rfl,HL2.out,by first | rfl | (rw[zr];rfl) | (rw[zr,zr])⟩
          case measure=>simp[intOf] <;> omega
         ·
          have d1:decide (G2<G)=false:=ql hgt
          by_cases heq:G=G2
          ·
           have e1:((G:Int)==(G2:Int))=true:=by rw[heq];exact beq_self_eq_true _
           by_cases hz:zz<0
           ·
            have dz:decide (zz<0)=true:=qp hz
            have HL2:=qa (G2'.out heq hz)
            clear hgt heq G1 G2' G3 G4
            go_wp2_with fail
            go_quiet (fail)
            go_wp2_with fail
            go_quiet ((go_at_call 106;exact qev (HCM.out _)))
            go_wp2_with fail
            go_roundw
            case rel=>exact⟨i+1,_,(i:Int),by omega,by go_num,rfl,HL2.out,by first | rfl | (rw[zr];rfl) | (rw[zr,zr])⟩
            case measure=>simp[intOf] <;> omega
           ·
            have dz:decide (zz<0)=false:=ql hz
            have HL2:=qa (G3.out heq hz)
            clear hgt heq G1 G2' G3 G4
            go_wp2_with fail
            go_quiet (fail)
            go_wp2_with fail
            go_quiet ((go_at_call 106;exact qev (HCM.out _)))
            go_wp2_with fail
            go_roundw
            case rel=>exact⟨i+1,_,(k2:Int),by omega,by go_num,rfl,HL2.out,by first | rfl | (rw[zr];rfl) | (rw[zr,zr])⟩
            case measure=>simp[intOf] <;> omega
          ·
           have e1:((G:Int)==(G2:Int))=false:=by rw[qr];omega
           have HL2:=qa (G4.out (by omega))
           clear hgt heq G1 G2' G3 G4 HCM
           go_wp2_with fail
           go_quiet (fail)
           go_wp2_with fail
           go_quiet (fail)
           go_wp2_with fail
           go_roundw
           case rel=>exact⟨i+1,_,(k2:Int),by omega,by go_num,rfl,HL2.out,by first | rfl | (rw[zr];rfl) | (rw[zr,zr])⟩
           case measure=>simp[intOf] <;> omega
      ·
       have ii:¬(i:Int)<(n:Int):=by omega
       rcases HLD.out with ⟨hk1,hall⟩ | ⟨k2,hk2,hkk,hki,hkn,hbt⟩
       ·
        subst hk1
        have HALL:Hid (∀j,j<ns.length→j∈ks):=fun j hj=>hall j (by rw[qx];exact hj) (by have:=HN.out;omega)
        have hbl:Below w.heap.size w (wv.drewN m):=zg (HB.out.trans (HBV.out.mono hwz)) m
        have HBL2:=qa hbl
        have HO2:=qa (show(wv.drewN m).ownsRow (wy.heap.size+1) 9 1 (.slice A5 ks.length c5) ks.length (sv bs) from ju HBO.out (fun _ _=>rfl))
        have hbs:=HBS.out
        subst hbs
        clear hall hbl HLD
        go_wp2_with fail
        refine(round_end HC2.out HSL.out hk5 (Or.inr HALL.out) HNS.out HO2.out HBL2.out).mono ?_
        rintro r w' ⟨t,A',c',rfl,h1,h2,h3⟩
        go_wp2_with fail
        go_ret
        exact⟨t,A',c',rfl,h1,h2,h3⟩
       ·
        subst hkk
        have hk3:=hk2
        rw[qx] at hk3
        have hkn2:k2<n:=by omega
        have HSN:Hid (Sel bag (qm ns) (ks++[k2])):=HSL.out.snoc hk2 hkn (fun j hj hjn hne=>hbt j hj (by rw[qx] at hj;have:=HN.out;omega) hjn hne)
        obtain⟨b1,off1,rfl,_,hb1,hcn⟩:=(HR1.out.below HBV.out (qc _)).str hk3
        have HNK:Hid (ns.getD k2 ⟨#[]⟩=ns[k2]):=ql2 hk3 _
        obtain⟨t,hcn0,HNT⟩:∃t,wv.cell? ⟨b1,off1+k2,none⟩=some (.string t)∧Hid (ns.getD k2 ⟨#[]⟩=t):=⟨_,hcn,HNK.out⟩
        have hbsl:ks.length=bs.length:=by rw[HBS.out,q8]
        obtain⟨hfr,hcx,A6,c6,w6,hrun,ho6,hbo6,hb6,hz6⟩:=chosen (wv:=wv.drewN m) t (ju HUS.out (fun _ _=>rfl)) (ju HBO.out (fun _ _=>rfl)) hbsl hkn2 hkn (by omega) hzv
        have hcn3:((wv.drewN m).setCell ⟨wy.heap.size,k2,none⟩ (.bool true)).cell? ⟨b1,off1+k2,none⟩=some (.string t):=by
         rw[World.cell?_setCell_other]
         ·
          exact hcn0
         ·
          intro e
          injection e with e1 e2
          omega
        have hcn4:(wv.drewN m).cell? ⟨b1,off1+k2,none⟩=some (.string t):=hcn0
        have HU6:=qa ho6
        have HB6:=qa hbo6
        have HV6:Hid (Below wy.heap.size wy w6):=HBV.out.trans (qz (zg (Below.refl _ wv) m) hb6 (qc _))
        have HBSN:Hid (bs++[t]=(ks++[k2]).map fun j=>ns.getD j ⟨#[]⟩):=by
         unfold Hid
         rw[jg,←HBS.out,ym,uq,HNT.out]
        have ik2:(k2:Int)<(n:Int):=by omega
        have nk2:¬(k2:Int)<0:=by omega
        clear hbt hkn hk2 hcn hcn0 ho6 hbo6 hb6 HLD hbsl
        go_wp2_with (at_builtin;refine wpList_append_run rfl _ _ _ _ rfl rfl rfl hrun ?_)
        go_roundw
        case rel=>exact⟨ks++[k2],bs++[t],A6,c6,by rw[qd];rfl,HBSN.out,by rw[qd,qt,je];omega,HSN.out,HU6.out,by rw[qd,qt,je];exact HB6.out,HV6.out,hz6⟩
        case measure=>simp only[qd] <;> omega
    ·
     have i255:¬(ks.length:Int)<255:=by omega
     have hbl:Below w.heap.size w wv:=HB.out.trans (HBV.out.mono hwz)
     have HBL2:=qa hbl
     have hbs:=HBS.out
     subst hbs
     clear hbl
     go_wp2_with fail
     refine(round_end HC2.out HSL.out hk5 (Or.inl (by omega)) HNS.out HBO.out HBL2.out).mono ?_
     rintro r w' ⟨t,A',c',rfl,h1,h2,h3⟩
     go_wp2_with fail
     go_ret
     exact⟨t,A',c',rfl,h1,h2,h3⟩
theorem refTrain_any{w:World}(S:List ByteArray)(N:Int){d:Nat}{B:Option Addr}(hS:Rd w 0 w.heap.size B d (sv S))(hSl:S.length≤100)(hSb:∀s∈S,s.size≤100000)(hbag:∀T,(qfl T (qm S)).length≤1000000) :
  Calls Tryz.prog 125 #[.slice B S.length d,.int .i64 N] w fun r w'=>∃t A' c',r= .returned (.slice A' t.length c')∧qa8 (qm S) (qb8 N) t∧w'.ownsRow w.heap.size 9 1 (.slice A' t.length c') t.length (sv (j7 t))∧Below w.heap.size w w':=by
 have HS:=qa hS
 have HBG:=qa hbag
 have HSB:=qa hSb
 clear hS hbag hSb
 go_enter Tryz.func125,Tryz.ntmps125
 go_wp2_with fail
 go_loopw [5,6] (fun x5 x6 wr=>∃(i:Nat) (t:List (List UInt8)) (A':Option Addr) (c':Nat),i≤qb8 N∧x6= .int .i64 (i:Int)∧x5= .slice A' t.length c'∧qa8 (qm S) i t∧wr.ownsRow w.heap.size 9 1 (.slice A' t.length c') t.length (sv (j7 t))∧Below w.heap.size w wr) (fun _ x6 _=>8-(intOf x6).toNat)
 case atStart=>exact⟨0,[],none,0,qi _,rfl,rfl,rfl,zh _ _ _ _,Below.refl _ _⟩
 case round =>
  obtain⟨i,t,A',c',hi,rfl,rfl,htr,hown,hb⟩:=hrel
  have HT:=qa htr
  have HO:=qa hown
  have HB:=qa hb
  have hsz:=hb.size
  clear htr hown hb
  unfold qb8 at hi
  by_cases hN:(i:Int)<N
  ·
   by_cases h8:(i:Int)<8
   ·
    have hgo:i+1≤qb8 N:=by unfold qb8;split <;> omega
    have hr1:=qp7 HO.out
    have hok:=HT.out.ok
    have hbt:=ue t
    have hsl:=yo t
    have HRN:=qa (refRound_any (w:=wr) (j7 t) S (c:=c') (d:=d) (A:=A') (B:=B) (by exact hr1.wide (qi _) (qc _)) ((HS.out.below HB.out (qc _)).wide (qc _) hsz) (by rw[hbt];exact hok.1) (by rw[hsl];exact hok.2) hSl HSB.out (HBG.out _))
    rw[hbt,hsl] at HRN
    clear hr1 hok hbt hsl hi
    go_wp2_with fail
    refine HRN.out.mono ?_
    rintro r w2 ⟨u,A2,c2,rfl,hrd,ho2,hb2⟩
    have HT2:Hid (qa8 (qm S) (i+1) u):=⟨t,HT.out,hrd⟩
    have HO2:=qa (j4 ho2 hsz)
    have HB2:Hid (Below w.heap.size w w2):=HB.out.trans (hb2.mono hsz)
    clear hrd ho2 hb2
    go_wp2_with fail
    go_roundw
    case rel=>exact⟨i+1,u,A2,c2,hgo,by go_num,rfl,HT2.out,HO2.out,HB2.out⟩
    case measure=>simp[intOf] <;> omega
   ·
    have hfin:Hid (i=qb8 N):=by unfold Hid qb8;split at hi <;> (split <;> omega)
    go_wp2_with fail
    go_ret
    exact⟨t,A',c',rfl,by rw[←hfin.out];exact HT.out,HO.out,HB.out⟩
  ·
   have hfin:Hid (i=qb8 N):=by unfold Hid qb8;split at hi <;> (split <;> omega)
   go_wp2_with fail
   go_ret
   exact⟨t,A',c',rfl,by rw[←hfin.out];exact HT.out,HO.out,HB.out⟩
theorem qo1{w2:World}(l:List ByteArray)(s:ByteArray)(k:Nat){lo hi c:Nat}{A:Option Addr}(h:Rd w2 lo hi A c (sv l))(h8:∀t∈l,t.size≤8)(hs:s.size≤100000)(hln:l.length≤255)(v:Int×Nat)(hv:qdv (qm l) (s.data.toList.drop k)=v) :
  Calls Tryz.prog 165 #[.slice A l.length c,.string (s.extract k s.size)] w2 fun r w'=>r= .returned (.tuple #[.int .i64 v.1,.int .i64 (v.2:Int)])∧∃m,w'=w2.drewN m:=by
 have h1:=qls (w:=w2) l (s.extract k s.size) h (fun t ht=>ze (h8 t ht) (by omega)) (by rw[yt];omega) (by omega)
 rw[tailS] at h1
 rw[←hv]
 exact h1
theorem refEncode_any{w:World}(l:List ByteArray)(s:ByteArray){c:Nat}{A:Option Addr}(h:Rd w 0 w.heap.size A c (sv l))(h8:∀t∈l,t.size≤8)(hln:l.length≤255)(hs:s.size≤100000) :
  Calls Tryz.prog 128 #[.slice A l.length c,.string s] w fun r w'=>∃A' c',r= .returned (.slice A' (kh (qm l) s.data.toList).length c')∧
   w'.ownsRow w.heap.size 5 1 (.slice A' (kh (qm l) s.data.toList).length c') (kh (qm l) s.data.toList).length (bv (kh (qm l) s.data.toList))∧Below w.heap.size w w':=by
 have H:=qa h
 have H8:=qa h8
 clear h h8
 obtain⟨v,hv⟩:∃v,kh (qm l) s.data.toList=v:=⟨_,rfl⟩
 rw[hv]
 have HV:=qa hv
 clear hv
 have HSL:=qa (qgq s)
 have HTL:Hid ((qm l).length=l.length):=qx l
 go_enter Tryz.func128,Tryz.ntmps128
 go_wp2_with fail
 go_loopw [5,6] (fun x5 x6 wr=>∃(k:Nat) (ys:List UInt8) (A':Option Addr) (c':Nat),k≤s.size∧x6= .int .i64 (k:Int)∧x5= .slice A' ys.length c'∧ys.length≤2*k∧ys++kh (qm l) (s.data.toList.drop k)=v∧
  wr.ownsRow w.heap.size 5 1 (.slice A' ys.length c') ys.length (bv ys)∧Below w.heap.size w wr) (fun _ i _=>s.size-(intOf i).toNat)
 case atStart=>exact⟨0,[],none,0,qi _,rfl,rfl,qi _,by rw[jx,HV.out];rfl,zh _ _ _ _,Below.refl _ _⟩
 case round =>
  obtain⟨k,ys,A',c',hk,rfl,rfl,hyl,hys,hown,hb⟩:=hrel
  have HYS:=qa hys
  have HO:=qa hown
  have HB:=qa hb
  have hsz:=hb.size
  clear hys hown hb
  by_cases hlt:k<s.size
  ·
   have ik:(k:Int)<(s.size:Int):=by omega
   have HDR:=qa (dropS hlt)
   rcases qd0 (qm l) (s.data.toList.drop k) with hp | ⟨j,t,hj,hp,hn0,hpre⟩
   ·
    have HLG:=qa (fun w2 (hb2:Below w.heap.size w w2)=>qo1 (w2:=w2) l s k (H.out.below hb2 (qc _)) H8.out hs hln _ hp)
    have HEQ:Hid (kh (qm l) (s.data.toList.drop k)=255 :: s[k] :: kh (qm l) (s.data.toList.drop (k+1))):=by
     unfold Hid
     have hp2:=hp
     rw[HDR.out] at hp2
     rw[HDR.out,enc_esc hp2]
    clear hp
    have lx:s[k].toNat<256:=zp _
    go_wp2_with fail
    refine(HLG.out _ (by first | exact HB.out | exact zg HB.out _)).mono ?_
    rintro r w1 ⟨rfl,m,rfl⟩
    have hb1:Below w.heap.size w (wr.drewN m):=zg HB.out m
    have ho1:(wr.drewN m).ownsRow w.heap.size 5 1 (.slice A' ys.length c') ys.length (bv ys):=ju HO.out (fun _ _=>rfl)
    have hz1:w.heap.size≤(wr.drewN m).heap.size:=hb1.size
    generalize wr.drewN m=w1 at *
    have hlit:(w1.alloc (.cells #[.int .u8 255,.int .u8 (s[k].toNat:Int)] 5)).ownsRow w1.heap.size 5 1 (.slice (some ⟨w1.heap.size,0,none⟩) 2 2) 2 (bv [255,s[k]]):=qmq w1 [255,s[k]] #[.int .u8 255,.int .u8 (s[k].toNat:Int)] rfl (by simp)
    obtain⟨A3,c3,w3,hrun,hown3,hg3⟩:=j9 _ w.heap.size _ ys [255,s[k]] (ys++[255,s[k]]) rfl (ho1.alloc _) (Rd.own hlit) (by simp;omega) (by simp;omega)
    have hb3:Below w.heap.size w w3:=(hb1.alloc hz1 _).grown hg3 (by simp;omega) (fun q hq=>(zk ho1 hq).1)
    have hrun2:(Builtin.append_ #[26,26] 26 #[.slice A' ys.length c',.slice (some ⟨w1.heap.size,0,none⟩) 2 2]).run Tryz.prog (w1.alloc (.cells #[.int .u8 255,.int .u8 (s[k].toNat:Int)] 5))= .ok (.slice A3 (ys++[255,s[k]]).length c3) w3:=hrun
    have HRUN:=qa hrun2
    have HO3:=qa hown3
    have HB3:=qa hb3
    clear hrun hrun2 hown3 hb3 hg3 hb1 ho1 hlit
    go_wp2_with (at_builtin;refine wpList_append_run rfl _ _ _ _ rfl rfl rfl HRUN.out ?_)
    go_roundw
    case rel =>
     refine⟨k+1,ys++[255,s[k]],A3,c3,by omega,by go_num,by first | rfl | (rw[qd];rfl),by rw[qd,qt,qt,je];omega,?_,HO3.out,HB3.out⟩
     rw[qv,←HYS.out,HEQ.out]
     rfl
    case measure=>simp[intOf] <;> omega
   ·
    have HLG:=qa (fun w2 (hb2:Below w.heap.size w w2)=>qo1 (w2:=w2) l s k (H.out.below hb2 (qc _)) H8.out hs hln _ hp)
    have hjl:j<l.length:=by
     have:=(zw.1 hj).1
     rwa [qx] at this
    have hnl:=hpre.length_le
    rw[qu,HSL.out] at hnl
    have HEQ:Hid (kh (qm l) (s.data.toList.drop k)=UInt8.ofNat j :: kh (qm l) (s.data.toList.drop (k+t.length))):=by
     unfold Hid
     rw[enc_code hp hn0,z7]
    clear hp hj hpre HTL HDR
    generalize t.length=n at *
    have j0:(0:Int)≤(j:Int):=by omega
    have j1:(j:Int)<256:=by omega
    have hbs:(UInt8.ofNat j).toNat=j:=by simp;omega
    go_wp2_with fail
    refine(HLG.out _ (by first | exact HB.out | exact zg HB.out _)).mono ?_
    rintro r w1 ⟨rfl,m,rfl⟩
    have hb1:Below w.heap.size w (wr.drewN m):=zg HB.out m
    have ho1:(wr.drewN m).ownsRow w.heap.size 5 1 (.slice A' ys.length c') ys.length (bv ys):=ju HO.out (fun _ _=>rfl)
    have hz1:w.heap.size≤(wr.drewN m).heap.size:=hb1.size
    generalize wr.drewN m=w1 at *
    have HO1:=qa ho1
    have HB1:=qa hb1
    clear ho1 hb1
    go_wp2_with (at_builtin;refine jab (v:= .slice A' ys.length c') w.heap.size ys (UInt8.ofNat j) rfl _ _ rfl rfl rfl rfl (by rw[hbs,za _ _ _ _ rfl];rfl) (HO1.out.alloc _) (by omega) (by simp;omega) ?_;intro A2 c2 w2 ho2 hg2)
    go_roundw
    case rel =>
     refine⟨k+n,ys++[UInt8.ofNat j],A2,c2,by omega,by go_num,by rw[qd];rfl,by rw[qd,qt,je];omega,?_,ho2,(HB1.out.alloc hz1 _).grown hg2 (by simp;omega) (fun q hq=>(zk HO1.out hq).1)⟩
     rw[qv,←HYS.out,HEQ.out]
     rfl
    case measure=>simp[intOf] <;> omega
  ·
   have ik:¬(k:Int)<(s.size:Int):=by omega
   have hfin:ys=v:=by
    rw[←HYS.out,vj (by rw[HSL.out];omega),enc_nil,jj]
   have HF:=qa hfin
   clear hfin
   go_wp2_with fail
   go_ret
   exact⟨A',c',by rw[←HF.out];rfl,by rw[←HF.out];exact HO.out,HB.out⟩
end Go.Proofs.YtnjkipnklpkaoaaGreat
