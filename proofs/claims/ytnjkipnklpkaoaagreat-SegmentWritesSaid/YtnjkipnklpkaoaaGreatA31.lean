/-
  Lemmas.
-/
import Derived.Test.YtnjkipnklpkaoaaGreatA30
namespace Go.Proofs.YtnjkipnklpkaoaaGreat
open Go.RowKit
set_option maxRecDepth 20000
set_option maxHeartbeats 16000000
set_option linter.unusedSimpArgs false
set_option linter.unusedVariables false
theorem qq2{a:List UInt8}{t:List (List UInt8)}(h:∀b u,t=b :: u→yr a b<0)(ht:xd t=true):xd (a :: t)=true:=by
 cases t with
 | nil=>rfl
 | cons b u=>exact ux.2 ⟨h b u rfl,ht⟩
theorem rises_put(s:List UInt8):∀(t:List (List UInt8)) (k:Nat),xd t=true→(∀j (hj:j<t.length),j<k→yr t[j] s<0)→(∀(hk:k<t.length),yr s t[k]<0)→xd (t.take k++s :: t.drop k)=true
 | t,0,h,_,h2=>by
  rw[y8,yk,jx]
  refine qq2 (fun b u e => ?_) h
  subst e
  exact h2 (by simp)
 | [],k+1,_,_,_=>by simp[xd]
 | a :: t,k+1,h,h1,h2=>by
  rw[jn,vt,z6]
  refine qq2 (fun b u e => ?_) (rises_put s t k (qf0 h) (fun j hj hjk=>h1 (j+1) (by simpa using hj) (by omega)) (fun hk=>h2 (by simpa using hk)))
  cases k with
  | zero =>
   rw[y8,yk] at e
   injection e with e1 e2
   subst e1
   exact h1 0 (by simp) (by omega)
  | succ k =>
   cases t with
   | nil =>
    simp at e
    obtain⟨e1,_⟩:=e
    subst e1
    exact h1 0 (by simp) (by omega)
   | cons c t =>
    rw[jn,z6] at e
    injection e with e1 e2
    subst e1
    exact(ux.1 h).1
theorem bytL2_take(l:List ByteArray)(k:Nat):qm (l.take k)=(qm l).take k:=by simp[qm,qbx]
theorem bytL2_drop(l:List ByteArray)(k:Nat):qm (l.drop k)=(qm l).drop k:=by simp[qm,List.map_drop]
theorem qqp(a b:List ByteArray):qm (a++b)=qm a++qm b:=by simp[qm]
theorem str_inj{a b:ByteArray}(h:a.data.toList=b.data.toList):a=b:=by rw[←qoq a,←qoq b,h]
theorem sv_take'(l:List ByteArray)(k:Nat):sv (l.take k)=(sv l).take k:=by simp[sv,qbx]
theorem sv_drop'(l:List ByteArray)(k:Nat):sv (l.drop k)=(sv l).drop k:=by simp[sv,List.map_drop]
theorem sort_put{L:List (List UInt8)}{t tm tn:List ByteArray}{s:ByteArray}{k:Nat}(h:qb9 L (qm t))(h1:∀j (hj:j<t.length),j<k→yr t[j].data.toList s.data.toList<0)(h2:∀hk:k<t.length,yr s.data.toList t[k].data.toList<0)
  (htm:t.take k++[s]=tm) (htn:tm++t.drop k=tn):qb9 (L++[s.data.toList]) (qm tn):=by
 subst htm htn
 have e:qm (t.take k++[s]++t.drop k)=(qm t).take k++s.data.toList :: (qm t).drop k:=by
  rw[qqp,qqp,bytL2_take,bytL2_drop,qv]
  rfl
 rw[e]
 refine⟨rises_put _ _ _ h.1 (fun j hj hjk => ?_) (fun hk => ?_),fun x => ?_⟩
 ·
  rw[qx] at hj
  rw[yq t j hj]
  exact h1 j hj hjk
 ·
  rw[qx] at hk
  rw[yq t k hk]
  exact h2 hk
 ·
  rw[zt,jc,zt,zo,←h.2 x]
  conv=>rhs;rw[←zx k (qm t),zt]
  constructor
  ·
   rintro(h | h | h)
   ·
    exact Or.inl (Or.inl h)
   ·
    exact Or.inr h
   ·
    exact Or.inl (Or.inr h)
  ·
   rintro((h | h) | h)
   ·
    exact Or.inl h
   ·
    exact Or.inr (Or.inr h)
   ·
    exact Or.inr (Or.inl h)
theorem sort_same{L:List (List UInt8)}{t:List ByteArray}{s:ByteArray}{k:Nat}(h:qb9 L (qm t))(hk:k<t.length)(he:t[k]=s):qb9 (L++[s.data.toList]) (qm t):=by
 refine⟨h.1,fun x => ?_⟩
 rw[zt,zo,←h.2 x]
 refine⟨Or.inl,fun hx=>hx.elim id fun e => ?_⟩
 subst e
 rw[←he,←yq t k hk]
 exact qj _
theorem qan{ops:Array Oper}{o:Oper}{a:Act}{w:World}{K:Act→World→Prop}{Q:Exit→Act→World→Prop}{F:Prop}{v:Value}(base:Nat)(ys zs us:List ByteArray)(hus:ys++zs=us)(n m p:Nat)(hn:ys.length=n)(hm:zs.length=m)(hp:us.length=p)(hgd:o.guard=none)(s x:Operand)
  (ho:o.op= .call { callee:= .builtin .append,args:=#[s,x],argTypes:=#[58,58] }) (hty:o.type=58)
  (hs:a.eval s=v) {A:Option Addr} {c:Nat} (hx:a.eval x= .slice A m c)
  (hown:w.ownsRow base 9 1 v n (sv ys)) {lo h':Nat} (hr:Rd w lo h' A c (sv zs)) (hb:n+m≤1000000000) (hbase:base≤w.heap.size)
  (h:∀A' c' w',w'.ownsRow base 9 1 (.slice A' p c') p (sv us)→w.grownBy w' v.ownBlock→K (a.put o.dst (.slice A' p c')) w') :
  if Region.wanted o (yielded ops a.tmps)=true then Oper.wp Tryz.prog o a w K Q else F:=by
 subst hn hm hp
 have hw:Region.wanted o (yielded ops a.tmps)=true:=by simp[Region.wanted,hgd]
 rw[if_pos hw]
 obtain⟨A',c',w',hrun,h2,h3⟩:=qi9 w base v ys zs us hus hown hr hb hbase
 unfold Oper.wp execOp
 simp only[ho,hty,resolve,invoke,builtin,Sem.run_bind,Sem.run_pure,Result.andThen_ok,List.map_toArray,ym,uq,hs,hx,hrun]
 exact h A' c' w' h2 h3
theorem rd_one{w:World}{g:Nat}{s:ByteArray}(h:w.cell? ⟨g,0,none⟩=some (.string s)):Rd w 0 w.heap.size (some ⟨g,0,none⟩) 1 (sv [s]):=⟨by simp[sv],by simp[maxLen],fun _=>⟨g,0,rfl,qi _,yv w _ h,fun j u hu=>by
  match j,hu with
  | 0,hu =>
   simp[sv] at hu
   subst hu
   exact h
  | j+1,hu=>simp[sv] at hu⟩⟩
theorem refSorted_any{w:World}(l:List ByteArray){c:Nat}{A:Option Addr}(h:Rd w 0 w.heap.size A c (sv l))(hsz:∀s∈l,s.size≤100000)(hlen:l.length≤1000) :
  Calls Tryz.prog 123 #[.slice A l.length c] w fun r w'=>∃(t:List ByteArray) (A':Option Addr) (c':Nat),r= .returned (.slice A' t.length c')∧qb9 (qm l) (qm t)∧t.length≤l.length∧
   w'.ownsRow w.heap.size 9 1 (.slice A' t.length c') t.length (sv t)∧Below w.heap.size w w':=by
 have hl:=h.len
 have hm:=h.cap
 rw[yg] at hl
 unfold maxLen at hm
 have H:=qa h
 have H1:Hid (∀k (hk:k<l.length),l[k].size≤100000):=fun k hk=>hsz _ (qj hk)
 clear h hsz
 go_enter Tryz.func123,Tryz.ntmps123
 go_wp2_with fail
 go_loopw [3,4] (fun x3 x4 wr=>∃(i:Nat) (t:List ByteArray) (A':Option Addr) (c':Nat),i≤l.length∧x4= .int .i64 (i:Int)∧x3= .slice A' t.length c'∧t.length≤i∧(∀s∈t,s.size≤100000)∧qb9 (qm (l.take i)) (qm t)∧
  wr.ownsRow w.heap.size 9 1 (.slice A' t.length c') t.length (sv t)∧Below w.heap.size w wr) (fun _ x4 _=>l.length-(intOf x4).toNat)
 case atStart=>exact⟨0,[],none,0,qi _,rfl,rfl,qc _,fun s hs=>absurd hs ve,⟨rfl,fun x=>Iff.rfl⟩,zh _ _ _ _,Below.refl _ _⟩
 case round =>
  obtain⟨i,t,A',c',hi,rfl,rfl,hti,hts,hso,hown,hb⟩:=hrel
  obtain⟨wy,hwy⟩:∃wy,wy=wr:=⟨_,rfl⟩
  subst hwy
  have hr9:=Rd.own hown
  have htc:=hr9.len
  have htm:=hr9.cap
  rw[yg] at htc
  unfold maxLen at htm
  have HTS:Hid (∀k (hk:k<t.length),t[k].size≤100000):=fun k hk=>hts _ (qj hk)
  have HTA:=qa hts
  have HSO:=qa hso
  have HR:=qa hr9
  have HO:=qa hown
  have HB:=qa hb
  have hsz:=hb.size
  clear hts hso hown hb hr9
  by_cases hlt:i<l.length
  ·
   have ik:(i:Int)<(l.length:Int):=by omega
   obtain⟨b1,off1,rfl,_,hb1,hcell0⟩:=H.out.str hlt
   have hcell:wy.cell? ⟨b1,off1+i,none⟩=some (.string l[i]):=(HB.out.cell hb1).trans hcell0
   have hss:=H1.out i hlt
   have HTK:Hid (qm (l.take (i+1))=qm (l.take i)++[l[i].data.toList]):=by
    unfold Hid
    rw[qg hlt,qqp]
    rfl
   clear hcell0
   obtain⟨s,hs⟩:∃s,l[i]=s:=⟨_,rfl⟩
   rw[hs] at hcell hss HTK
   clear hs
   go_wp2_with fail
   go_loopw [5] (fun x5 wv=>∃(k m:Nat),k≤t.length∧x5= .int .i64 (k:Int)∧(∀j (hj:j<t.length),j<k→yr t[j].data.toList s.data.toList<0)∧wv=wy.drewN m) (fun x5 _=>t.length-(intOf x5).toNat)
   case atStart=>exact⟨0,0,qi _,rfl,fun j _ h=>absurd h (jp j),rfl⟩
   case round =>
    obtain⟨k,m,hk,rfl,hal,rfl⟩:=hrel
    have HAL:=qa hal
    clear hal
    have hcell':(wy.drewN m).cell? ⟨b1,off1+i,none⟩=some (.string s):=hcell
    by_cases hkt:k<t.length
    ·
     have ikt:(k:Int)<(t.length:Int):=by omega
     have dkt:decide (k<t.length)=true:=qp hkt
     obtain⟨b2,off2,rfl,_,_,hcell2⟩:=HR.out.str hkt
     have hks:=HTS.out k hkt
     have hcell2':(wy.drewN m).cell? ⟨b2,off2+k,none⟩=some (.string t[k]):=hcell2
     have HCM:=qa (fun w=>qch (w:=w) t[k] s hks hss)
     have HNX:Hid (yr t[k].data.toList s.data.toList<0→∀j (hj:j<t.length),j<k+1→yr t[j].data.toList s.data.toList<0):=fun h j hj hjk=>by
      rcases xc j k with h2 | h2
      ·
       exact HAL.out j hj h2
      ·
       have:j=k:=by omega
       subst this
       exact h
     obtain⟨z,hz⟩:∃z,yr t[k].data.toList s.data.toList=z:=⟨_,rfl⟩
     have HZ:=qa hz
     rw[hz] at HCM HNX
     clear hz
     by_cases hz0:z<0
     ·
      have dz:decide (z<0)=true:=qp hz0
      have HN2:=qa (HNX.out hz0)
      go_wp2_with fail
      go_quiet ((go_at_call 106;exact qev (HCM.out _)))
      go_wp2_with fail
      go_roundw
      case rel=>exact⟨k+1,_,by omega,by go_num,HN2.out,by first | rfl | (rw[zr])⟩
      case measure=>simp[intOf] <;> omega
     ·
      have dz:decide (z<0)=false:=ql hz0
      go_wp2_with fail
      by_cases he:t[k]=s
      ·
       have HSM:Hid (qb9 (qm (l.take (i+1))) (qm t)):=by
        unfold Hid
        rw[HTK.out]
        exact sort_same HSO.out hkt he
       have e1:(t[k].toList==s.toList)=true:=by rw[he];exact beq_self_eq_true _
       have e2:t[k].toList=s.toList:=by rw[he]
       clear he
       go_quiet ((go_at_call 106;exact qev (HCM.out _)))
       go_wp2_with fail
       go_quiet (fail)
       go_wp2_with fail
       go_roundw
       case rel=>exact⟨i+1,t,_,c',by omega,by go_num,rfl,by omega,HTA.out,HSM.out,ju HO.out (fun _ _=>rfl),zg HB.out _⟩
       case measure=>simp[intOf] <;> omega
      ·
       have e2:¬t[k].toList=s.toList:=fun e=>he (str_inj (by rw[jf,jf] at e;exact e))
       have e1:(t[k].toList==s.toList)=false:=qr.2 e2
       have HGT:Hid (∀hk:k<t.length,yr s.data.toList t[k].data.toList<0):=fun h=>by
        have h1:=qdk t[k].data.toList s.data.toList
        have h2:=HZ.out
        have h3:z≠0:=fun e=>he (str_inj (qcr (h2.trans e)))
        omega
       clear he
       go_quiet ((go_at_call 106;exact qev (HCM.out _)))
       go_wp2_with fail
       go_quiet (fail)
       go_wp2_with fail
       have hkc:k≤c':=by omega
       have HT1:Hid ((t.take k).length=k):=by unfold Hid;rw[qy];omega
       have HT2:Hid ((t.drop k).length=t.length-k):=by unfold Hid;rw[qu]
       have HRT:Hid (∀wx,Below wy.heap.size wy wx→Rd wx 0 wx.heap.size (some ⟨b2,off2,none⟩) c' (sv (t.take k))):=fun wx hx=>by
        rw[sv_take']
        exact((HR.out.below hx (qc _)).take_ k).wide (qi _) hx.size
       have HRD:Hid (∀wx,Below wy.heap.size wy wx→Rd wx 0 wx.heap.size (if c'=k then some ⟨b2,off2,none⟩ else some ⟨b2,off2+k,none⟩) (c'-k) (sv (t.drop k))):=fun wx hx=>by
        have h1:=(HR.out.below hx (qc _)).cut (k:=k) (n:=t.length) hk (by rw[yg];exact qc _)
        rw[sv_drop',←qo (l:=(sv t).drop k) (i:=t.length-k) (by rw[qu,yg];exact qc _)]
        have e9:(some ⟨b2,off2,none⟩:Option Addr).map (·.add k)=some ⟨b2,off2+k,none⟩:=by
         show some (Addr.add ⟨b2,off2,none⟩ k)=_
         unfold Addr.add
         by_cases h0:k=0 <;> simp[h0]
        rw[e9] at h1
        exact h1.wide (qi _) hx.size
       have HBM:Hid (∀M,Below wy.heap.size wy (wy.drewN M)):=fun M=>zg (Below.refl _ wy) M
       have HBA:Hid (∀wx o,Below wy.heap.size wy wx→Below wy.heap.size wy (wx.alloc o)):=fun wx o hx=>hx.alloc hx.size o
       have HBG:Hid (∀(wx wx':World) (row:Option Nat),Below wy.heap.size wy wx→wx.grownBy wx' row→(∀g,row=some g→wy.heap.size≤g)→Below wy.heap.size wy wx'):=fun wx wx' row hx hg hr=>hx.grown hg hx.size hr
       have HCL:Hid (∀wx,Below wy.heap.size wy wx→wx.cell? ⟨b1,off1+i,none⟩=some (.string s)):=fun wx hx=>(hx.cell (ja hb1 hsz)).trans hcell
       have hcA:∀M o,((wy.drewN M).alloc o).cell? ⟨b1,off1+i,none⟩=some (.string s):=fun M o=>HCL.out _ (HBA.out _ _ (HBM.out M))
       have hcB:∀M,(wy.drewN M).cell? ⟨b1,off1+i,none⟩=some (.string s):=fun M=>HCL.out _ (HBM.out M)
       obtain⟨tm,htm⟩:∃tm,t.take k++[s]=tm:=⟨_,rfl⟩
       obtain⟨tn,htn⟩:∃tn,tm++t.drop k=tn:=⟨_,rfl⟩
       have HTM:=qa htm
       have HTN:=qa htn
       have HT3:Hid (tm.length=k+1):=by unfold Hid;rw[←htm,qd,HT1.out];rfl
       have HT4:Hid (tn.length=k+1+(t.length-k)):=by unfold Hid;rw[←htn,qd,HT3.out,HT2.out]
       have HSN:Hid (qb9 (qm (l.take (i+1))) (qm tn)):=by
        unfold Hid
        rw[HTK.out]
        exact sort_put HSO.out HAL.out HGT.out htm htn
       have HSZ:Hid (∀x∈tn,x.size≤100000):=fun x hx=>by
        rw[←htn,←htm] at hx
        rcases zt.1 hx with hx | hx
        ·
         rcases zt.1 hx with hx | hx
         ·
          exact HTA.out x (xk hx)
         ·
          rw[zo.1 hx];exact hss
        ·
         exact HTA.out x (qem hx)
       clear htm htn
       go_region_law (first
        | (refine qan (v:= .slice (some ⟨wy.heap.size,0,none⟩) 0 0) wy.heap.size [] (t.take k) (t.take k) rfl 0 k k rfl HT1.out HT1.out rfl (.tmp 45) (.tmp 48) rfl rfl (by simp[Act.eval,Act.put]) (by simp[Act.eval,Act.put]) (by first | exact qfd _ _ | exact(qfd _ _).alloc _) (HRT.out _ (by first | exact HBA.out _ _ (HBM.out _) | exact HBA.out _ _ (HBA.out _ _ (HBM.out _)))) (by omega) (by simp <;> omega) ?_;intro A4 c4 w4 ho4 hg4;have hb4:Below wy.heap.size wy w4:=HBG.out _ _ _ (by first | exact HBA.out _ _ (HBM.out _) | exact HBA.out _ _ (HBA.out _ _ (HBM.out _))) hg4 (fun g hg=>by simp[Value.ownBlock] at hg;omega);have hcl:=HCL.out _ hb4)
        | (refine qan (v:= .slice (some ⟨wy.heap.size+1,0,none⟩) 0 0) wy.heap.size [] (t.take k) (t.take k) rfl 0 k k rfl HT1.out HT1.out rfl (.tmp 45) (.tmp 48) rfl rfl (by simp[Act.eval,Act.put]) (by simp[Act.eval,Act.put]) (qmp _ _ _) (HRT.out _ (HBA.out _ _ (HBA.out _ _ (HBM.out _)))) (by omega) (by simp <;> omega) ?_;intro A4 c4 w4 ho4 hg4;have hb4:Below wy.heap.size wy w4:=HBG.out _ _ _ (HBA.out _ _ (HBA.out _ _ (HBM.out _))) hg4 (fun g hg=>by simp[Value.ownBlock] at hg;omega);have hcl:=HCL.out _ hb4)
        | (refine qan (v:= .slice A4 k c4) wy.heap.size (t.take k) [s] tm HTM.out k 1 (k+1) HT1.out rfl HT3.out rfl (.tmp 49) (.tmp 54) rfl rfl (by simp[Act.eval,Act.put]) (by simp[Act.eval,Act.put];rfl) (by first | exact ho4 | exact ho4.alloc _) (rd_one (by first | exact qio _ _ _ | exact qe5 hg4 (qkq _ _ _ _) (by simp[Value.ownBlock]) | exact qe5 hg4 (qi6 _ _ _ _) (by simp[Value.ownBlock]))) (by omega) (by first | exact hb4.size | exact(HBA.out _ _ hb4).size) ?_;intro A5 c5 w5 ho5 hg5;have hb5:Below wy.heap.size wy w5:=HBG.out _ _ _ (by first | exact hb4 | exact HBA.out _ _ hb4) hg5 (fun g hg=>(zk ho4 hg).1))
        | (refine qan (v:= .slice A5 (k+1) c5) wy.heap.size tm (t.drop k) tn HTN.out (k+1) (t.length-k) (k+1+(t.length-k)) HT3.out HT2.out HT4.out rfl (.tmp 55) (.tmp 58) rfl rfl (by simp[Act.eval,Act.put]) (by simp[Act.eval,Act.put]) ho5 (HRD.out _ hb5) (by omega) hb5.size ?_;intro A6 c6 w6 ho6 hg6;have HB6:=qa (HBG.out _ _ _ hb5 hg6 (fun g hg=>(zk ho5 hg).1));have HO6:=qa ho6;clear ho6 hg6))
       all_goals
        go_wp2_with fail
        go_roundw
        case rel=>exact⟨i+1,tn,A6,c6,by omega,by go_num,by rw[HT4.out],by rw[HT4.out];omega,HSZ.out,HSN.out,by rw[HT4.out];exact j4 HO6.out hsz,HB.out.trans (HB6.out.mono hsz)⟩
        case measure=>simp[intOf] <;> omega
    ·
     have ikt:¬(k:Int)<(t.length:Int):=by omega
     have dkt:decide (k<t.length)=false:=ql hkt
     go_wp2_with fail
     go_quiet (fail)
     go_wp2_with fail
     go_quiet (fail)
     go_wp2_with fail
     have HGT:Hid (∀hk:k<t.length,yr s.data.toList t[k].data.toList<0):=fun h=>absurd h hkt
     have hkc:k≤c':=by omega
     have HT1:Hid ((t.take k).length=k):=by unfold Hid;rw[qy];omega
     have HT2:Hid ((t.drop k).length=t.length-k):=by unfold Hid;rw[qu]
     have HRT:Hid (∀wx,Below wy.heap.size wy wx→Rd wx 0 wx.heap.size A' c' (sv (t.take k))):=fun wx hx=>by
      rw[sv_take']
      exact((HR.out.below hx (qc _)).take_ k).wide (qi _) hx.size
     have HRD:Hid (∀wx,Below wy.heap.size wy wx→Rd wx 0 wx.heap.size (if c'=k then A' else A'.map (·.add k)) (c'-k) (sv (t.drop k))):=fun wx hx=>by
      have h1:=(HR.out.below hx (qc _)).cut (k:=k) (n:=t.length) hk (by rw[yg];exact qc _)
      rw[sv_drop',←qo (l:=(sv t).drop k) (i:=t.length-k) (by rw[qu,yg];exact qc _)]
      exact h1.wide (qi _) hx.size
     have HBM:Hid (∀M,Below wy.heap.size wy (wy.drewN M)):=fun M=>zg (Below.refl _ wy) M
     have HBA:Hid (∀wx o,Below wy.heap.size wy wx→Below wy.heap.size wy (wx.alloc o)):=fun wx o hx=>hx.alloc hx.size o
     have HBG:Hid (∀(wx wx':World) (row:Option Nat),Below wy.heap.size wy wx→wx.grownBy wx' row→(∀g,row=some g→wy.heap.size≤g)→Below wy.heap.size wy wx'):=fun wx wx' row hx hg hr=>hx.grown hg hx.size hr
     have HCL:Hid (∀wx,Below wy.heap.size wy wx→wx.cell? ⟨b1,off1+i,none⟩=some (.string s)):=fun wx hx=>(hx.cell (ja hb1 hsz)).trans hcell
     have hcA:∀M o,((wy.drewN M).alloc o).cell? ⟨b1,off1+i,none⟩=some (.string s):=fun M o=>HCL.out _ (HBA.out _ _ (HBM.out M))
     have hcB:∀M,(wy.drewN M).cell? ⟨b1,off1+i,none⟩=some (.string s):=fun M=>HCL.out _ (HBM.out M)
     obtain⟨tm,htm⟩:∃tm,t.take k++[s]=tm:=⟨_,rfl⟩
     obtain⟨tn,htn⟩:∃tn,tm++t.drop k=tn:=⟨_,rfl⟩
     have HTM:=qa htm
     have HTN:=qa htn
     have HT3:Hid (tm.length=k+1):=by unfold Hid;rw[←htm,qd,HT1.out];rfl
     have HT4:Hid (tn.length=k+1+(t.length-k)):=by unfold Hid;rw[←htn,qd,HT3.out,HT2.out]
     have HSN:Hid (qb9 (qm (l.take (i+1))) (qm tn)):=by
      unfold Hid
      rw[HTK.out]
      exact sort_put HSO.out HAL.out HGT.out htm htn
     have HSZ:Hid (∀x∈tn,x.size≤100000):=fun x hx=>by
      rw[←htn,←htm] at hx
      rcases zt.1 hx with hx | hx
      ·
       rcases zt.1 hx with hx | hx
       ·
        exact HTA.out x (xk hx)
       ·
        rw[zo.1 hx];exact hss
      ·
       exact HTA.out x (qem hx)
     clear htm htn
     go_region_law (first
      | (refine qan (v:= .slice (some ⟨wy.heap.size,0,none⟩) 0 0) wy.heap.size [] (t.take k) (t.take k) rfl 0 k k rfl HT1.out HT1.out rfl (.tmp 45) (.tmp 48) rfl rfl (by simp[Act.eval,Act.put]) (by simp[Act.eval,Act.put]) (by first | exact qfd _ _ | exact(qfd _ _).alloc _) (HRT.out _ (by first | exact HBA.out _ _ (HBM.out _) | exact HBA.out _ _ (HBA.out _ _ (HBM.out _)))) (by omega) (by simp <;> omega) ?_;intro A4 c4 w4 ho4 hg4;have hb4:Below wy.heap.size wy w4:=HBG.out _ _ _ (by first | exact HBA.out _ _ (HBM.out _) | exact HBA.out _ _ (HBA.out _ _ (HBM.out _))) hg4 (fun g hg=>by simp[Value.ownBlock] at hg;omega);have hcl:=HCL.out _ hb4)
      | (refine qan (v:= .slice (some ⟨wy.heap.size+1,0,none⟩) 0 0) wy.heap.size [] (t.take k) (t.take k) rfl 0 k k rfl HT1.out HT1.out rfl (.tmp 45) (.tmp 48) rfl rfl (by simp[Act.eval,Act.put]) (by simp[Act.eval,Act.put]) (qmp _ _ _) (HRT.out _ (HBA.out _ _ (HBA.out _ _ (HBM.out _)))) (by omega) (by simp <;> omega) ?_;intro A4 c4 w4 ho4 hg4;have hb4:Below wy.heap.size wy w4:=HBG.out _ _ _ (HBA.out _ _ (HBA.out _ _ (HBM.out _))) hg4 (fun g hg=>by simp[Value.ownBlock] at hg;omega);have hcl:=HCL.out _ hb4)
      | (refine qan (v:= .slice A4 k c4) wy.heap.size (t.take k) [s] tm HTM.out k 1 (k+1) HT1.out rfl HT3.out rfl (.tmp 49) (.tmp 54) rfl rfl (by simp[Act.eval,Act.put]) (by simp[Act.eval,Act.put];rfl) (by first | exact ho4 | exact ho4.alloc _) (rd_one (by first | exact qio _ _ _ | exact qe5 hg4 (qkq _ _ _ _) (by simp[Value.ownBlock]) | exact qe5 hg4 (qi6 _ _ _ _) (by simp[Value.ownBlock]))) (by omega) (by first | exact hb4.size | exact(HBA.out _ _ hb4).size) ?_;intro A5 c5 w5 ho5 hg5;have hb5:Below wy.heap.size wy w5:=HBG.out _ _ _ (by first | exact hb4 | exact HBA.out _ _ hb4) hg5 (fun g hg=>(zk ho4 hg).1))
      | (refine qan (v:= .slice A5 (k+1) c5) wy.heap.size tm (t.drop k) tn HTN.out (k+1) (t.length-k) (k+1+(t.length-k)) HT3.out HT2.out HT4.out rfl (.tmp 55) (.tmp 58) rfl rfl (by simp[Act.eval,Act.put]) (by simp[Act.eval,Act.put]) ho5 (HRD.out _ hb5) (by omega) hb5.size ?_;intro A6 c6 w6 ho6 hg6;have HB6:=qa (HBG.out _ _ _ hb5 hg6 (fun g hg=>(zk ho5 hg).1));have HO6:=qa ho6;clear ho6 hg6))
     all_goals
      go_wp2_with fail
      go_roundw
      case rel=>exact⟨i+1,tn,A6,c6,by omega,by go_num,by rw[HT4.out],by rw[HT4.out];omega,HSZ.out,HSN.out,by rw[HT4.out];exact j4 HO6.out hsz,HB.out.trans (HB6.out.mono hsz)⟩
      case measure=>simp[intOf] <;> omega
  ·
   have ik:¬(i:Int)<(l.length:Int):=by omega
   have hil:i=l.length:=by omega
   have HSF:Hid (qb9 (qm l) (qm t)):=by
    have:=HSO.out
    rw[qo (by omega)] at this
    exact this
   go_wp2_with fail
   go_ret
   exact⟨t,A',c',rfl,HSF.out,by omega,HO.out,HB.out⟩
theorem tmod_neg(e n:Nat):(-(e:Int)).tmod (n:Int) = -((e%n:Nat):Int):=by rw[Int.neg_tmod];rfl
theorem Cnt.old{P ns:List (List UInt8)}{cs:List Nat}(h:Cnt P ns cs){i:Nat}(hi:i<ns.length)(hc:i<cs.length):Cnt (P++[ns[i]]) ns (cs.set i (cs[i]+1)):=by
 refine⟨by rw[xt];exact h.len,h.once,fun j hj => ?_,fun x => ?_⟩
 ·
  rw[List.getElem_set,qa2,List.count_singleton]
  by_cases hij:i=j
  ·
   subst hij
   rw[if_pos rfl,h.cnt i hi]
   simp
  ·
   rw[if_neg hij,h.cnt j hj]
   have:ns[i]≠ns[j]:=fun e=>hij ((List.getElem_inj h.once).1 e)
   simp[this]
 ·
  rw[zt,h.mem,zo]
  refine⟨Or.inl,fun hx => ?_⟩
  rcases hx with hx | rfl
  ·
   exact hx
  ·
   exact(h.mem _).1 (qj hi)
theorem Cnt.low{P ns:List (List UInt8)}{cs:List Nat}(h:Cnt P ns cs){i:Nat}(hi:i<cs.length):cs[i]≤P.length:=by
 rw[h.cnt i (by rw[h.len];exact hi)]
 exact qcs
theorem beats_trans{P:List (List UInt8)}{x y z:List UInt8}(h:qgt P x y)(k:qgt P y z):qgt P x z:=by
 rcases h with h | ⟨h,h2⟩
 ·
  rcases k with k | ⟨k,_⟩
  ·
   exact Or.inl (by omega)
  ·
   exact Or.inl (by omega)
 ·
  rcases k with k | ⟨k,k2⟩
  ·
   exact Or.inl (by omega)
  ·
   exact Or.inr ⟨by omega,uj h2 k2⟩
theorem bag_len(T:List (List UInt8)):∀S:List (List UInt8),(qfl T S).length≤2*(S.map List.length).sum
 | []=>qi _
 | s :: S=>by
  have h1:=pieces_len T s []
  have h2:=bag_len T S
  show((qaf T [] s)++qfl T S).length≤_
  rw[qd,ym,List.sum_cons]
  omega
theorem bag_drop{T S:List (List UInt8)}{k:Nat}(h:k<S.length):qfl T (S.drop k)=qaf T [] S[k]++qfl T (S.drop (k+1)):=by
 rw[zv h]
 rfl
theorem Sel.done{P ns:List (List UInt8)}{cs ks:List Nat}(h:Sel P ns ks)(hc:Cnt P ns cs)(hl:ks.length≤255)(hd:ks.length=255∨∀j,j<ns.length→j∈ks){best:List (List UInt8)}(hlen:best.length=ks.length)(hb:∀i (hi:i<ks.length),best[i]'(by omega)=ns[ks[i]]'(h.lt _ (qj hi))):TopOf P best:=by
 have hmem:∀x,x∈best→∃i,∃hi:i<ks.length,x=ns[ks[i]]'(h.lt _ (qj hi)):=fun x hx=>by
  obtain⟨i,hi,rfl⟩:=zq hx
  exact⟨i,by omega,hb i (by omega)⟩
 refine⟨?_,by omega,fun x hx => ?_,fun y hy hn => ?_⟩
 ·
  rw[List.nodup_iff_pairwise_ne,ug]
  intro i j hi hj hij e
  rw[hb i (by omega),hb j (by omega)] at e
  have e2:=(List.getElem_inj hc.once).1 e
  have e3:=(List.getElem_inj h.once).1 e2
  omega
 ·
  obtain⟨i,hi,rfl⟩:=hmem x hx
  exact(hc.mem _).1 (qj _)
 ·
  obtain⟨j,hj,rfl⟩:=zq ((hc.mem y).2 hy)
  have hjk:j∉ks:=fun e=>by
   obtain⟨i,hi,e2⟩:=zq e
   have h2:=hb i hi
   have h3:best[i]'(by omega)∈best:=qj _
   rw[h2] at h3
   simp only[e2] at h3
   exact hn h3
  refine⟨?_,fun x hx => ?_⟩
  ·
   rcases hd with h1 | h1
   ·
    omega
   ·
    exact absurd (h1 j hj) hjk
  ·
   obtain⟨i,hi,rfl⟩:=hmem x hx
   exact h.top _ (qj hi) j hj hjk
def usL(n:Nat)(ks:List Nat):List Bool:=(List.range n).map fun j=>decide (j∈ks)
theorem qka(n:Nat)(ks:List Nat):(usL n ks).length=n:=by simp[usL]
theorem usL_get{n:Nat}(ks:List Nat){i:Nat}(h:i<n):(usL n ks)[i]'(by rw[qka];exact h)=decide (i∈ks):=by simp[usL]
theorem usL_set{n:Nat}(ks:List Nat){k:Nat}(h:k<n):(usL n ks).set k true=usL n (ks++[k]):=by
 apply List.ext_getElem
 ·
  simp[usL]
 ·
  intro i h1 h2
  rw[xt,qka] at h1
  rw[List.getElem_set,usL_get _ h1,usL_get _ h1]
  by_cases hki:k=i
  ·
   subst hki
   simp
  ·
   rw[if_neg hki]
   have:i≠k:=fun e=>hki e.symm
   simp[this]
def qme(P ns:List (List UInt8))(ks:List Nat)(i:Nat)(kk:Int):Prop :=
 (kk = -1∧∀j,j<ns.length→j<i→j∈ks)∨(∃k:Nat,∃hk:k<ns.length,kk=(k:Int)∧k<i∧k∉ks∧∀j (hj:j<ns.length),j<i→j∉ks→j≠k→qgt P ns[k] ns[j])
section
variable {P ns:List (List UInt8)}{ks:List Nat}{i:Nat}{kk:Int}
theorem lead_used(h:qme P ns ks i kk)(hi:i∈ks):qme P ns ks (i+1) kk:=by
 rcases h with ⟨h1,h2⟩ | ⟨k,hk,h1,h2,h3,h4⟩
 ·
  refine Or.inl ⟨h1,fun j hj hji => ?_⟩
  by_cases e:j=i
  ·
   rw[e];exact hi
  ·
   exact h2 j hj (by omega)
 ·
  refine Or.inr ⟨k,hk,h1,by omega,h3,fun j hj hji hn hne=>h4 j hj ?_ hn hne⟩
  have:j≠i:=fun e=>hn (e ▸ hi)
  omega
theorem lead_first(h:∀j,j<ns.length→j<i→j∈ks)(hi:i<ns.length)(hn:i∉ks):qme P ns ks (i+1) (i:Int) :=
 Or.inr ⟨i,hi,rfl,by omega,hn,fun j hj hji hjn hne=>absurd (h j hj (by omega)) hjn⟩
theorem lead_win{k:Nat}(hk:k<ns.length)(h4:∀j (hj:j<ns.length),j<i→j∉ks→j≠k→qgt P ns[k] ns[j])(hi:i<ns.length)(hn:i∉ks)(hb:qgt P ns[i] ns[k]):qme P ns ks (i+1) (i:Int):=by
 refine Or.inr ⟨i,hi,rfl,by omega,hn,fun j hj hji hjn hne => ?_⟩
 by_cases e:j=k
 ·
  subst e
  exact hb
 ·
  exact beats_trans hb (h4 j hj (by omega) hjn e)
theorem lead_lose{k:Nat}(hk:k<ns.length)(hki:k<i)(hkn:k∉ks)(h4:∀j (hj:j<ns.length),j<i→j∉ks→j≠k→qgt P ns[k] ns[j])(hi:i<ns.length)(hb:qgt P ns[k] ns[i]):qme P ns ks (i+1) (k:Int):=by
 refine Or.inr ⟨k,hk,rfl,by omega,hkn,fun j hj hji hjn hne => ?_⟩
 by_cases e:j=i
 ·
  subst e
  exact hb
 ·
  exact h4 j hj (by omega) hjn hne
end
theorem refSample_any{w:World}(l:List ByteArray)(ds:List Int){c d:Nat}{A B:Option Addr}(h:Rd w 0 w.heap.size A c (sv l))(hd:Rd w 0 w.heap.size B d (iv ds))(hln:l.length≤1000000)(hdn:ds.length≤1000000) :
  Calls Tryz.prog 126 #[.slice A l.length c,.slice B ds.length d] w fun r w'=>∃A' c',r= .returned (.slice A' (jw l ds).length c')∧
   w'.ownsRow w.heap.size 9 1 (.slice A' (jw l ds).length c') (jw l ds).length (sv (jw l ds))∧Below w.heap.size w w':=by
 have hl:=h.len
 have hc:=h.cap
 have hl2:=hd.len
 have hc2:=hd.cap
 rw[yg] at hl
 rw[ji] at hl2
 unfold maxLen at hc hc2
 have H:=qa h
 have HD:=qa hd
 clear h hd
 by_cases h0:l=[]
 ·
  have hl0:l.length=0:=by rw[h0];rfl
  have HS:Hid (jw l ds=[]):=if_pos h0
  have i0:¬(0:Int)<(l.length:Int):=by omega
  have d0:decide ((0:Int)<(l.length:Int))=false:=ql i0
  clear h0
  by_cases hd0:0<ds.length
  all_goals
   have:=hd0
   go_enter Tryz.func126,Tryz.ntmps126
   go_wp2_with fail
   go_loopw [5,6] (fun x5 x6 wr=>x5= .slice none 0 0∧x6= .int .i64 0∧wr=w) (fun _ _ _=>0)
   case atStart=>exact⟨rfl,rfl,rfl⟩
   case round =>
    obtain⟨rfl,rfl,rfl⟩:=hrel
    first
     | (have ik:(0:Int)<(ds.length:Int):=(by omega);go_wp2_with fail;go_ret;exact⟨none,0,(by rw[HS.out];rfl),(by rw[HS.out];exact zh _ _ _ _),Below.refl _ _⟩)
     | (have ik:¬(0:Int)<(ds.length:Int):=(by omega);go_wp2_with fail;go_ret;exact⟨none,0,(by rw[HS.out];rfl),(by rw[HS.out];exact zh _ _ _ _),Below.refl _ _⟩)
 ·
  have hln0:l.length≠0:=fun e=>h0 (zd e)
  have i0:(0:Int)<(l.length:Int):=by omega
  have d0:decide ((0:Int)<(l.length:Int))=true:=qp i0
  have HLN:=qa (qna h0 ds)
  have HGET:Hid (∀k (hk:k<ds.length),(jw l ds)[k]'(by rw[HLN.out];exact hk)=l.getD (ds[k].natAbs%l.length) ⟨#[]⟩):=fun k hk=>by simp[jw,if_neg h0]
  clear h0
  go_enter Tryz.func126,Tryz.ntmps126
  go_wp2_with fail
  go_loopw [5,6] (fun x5 x6 wr=>∃(k:Nat) (A':Option Addr) (c':Nat),k≤ds.length∧x6= .int .i64 (k:Int)∧x5= .slice A' k c'∧wr.ownsRow w.heap.size 9 1 (.slice A' k c') k (sv ((jw l ds).take k))∧Below w.heap.size w wr) (fun _ i _=>ds.length-(intOf i).toNat)
  case atStart=>exact⟨0,none,0,qi _,rfl,rfl,zh _ _ _ _,Below.refl _ _⟩
  case round =>
   obtain⟨k,A',c',hk,rfl,rfl,hown,hb⟩:=hrel
   have HO:=qa hown
   have HB:=qa hb
   have hsz:=hb.size
   clear hown hb
   by_cases hlt:k<ds.length
   ·
    have ik:(k:Int)<(ds.length:Int):=by omega
    obtain⟨b2,off2,rfl,_,hbh2,hcell2⟩:=(HD.out.below HB.out (qc _)).num hlt
    have hql:ds[k].natAbs%l.length<l.length:=qak _ (by omega)
    obtain⟨b,off,rfl,_,hbh,hcell⟩:=(H.out.below HB.out (qc _)).str hql
    have HTK:Hid ((jw l ds).take (k+1)=(jw l ds).take k++[l[ds[k].natAbs%l.length]]):=by
     unfold Hid
     rw[qg (by rw[HLN.out];exact hlt),HGET.out k hlt,ql2 hql]
    have hkl:((jw l ds).take k).length=k:=by rw[qy,HLN.out];omega
    have HKL:=qa hkl
    clear hkl
    have hdec:ds[k].tmod (l.length:Int)=((ds[k].natAbs%l.length:Nat):Int)∨(ds[k].tmod (l.length:Int) = -((ds[k].natAbs%l.length:Nat):Int)∧0<ds[k].natAbs%l.length):=by
     rcases Int.le_total 0 ds[k] with h | h
     ·
      obtain⟨e,he⟩:∃e:Nat,ds[k]=(e:Int):=⟨ds[k].toNat,by omega⟩
      rw[he,Int.natAbs_natCast]
      exact Or.inl rfl
     ·
      obtain⟨e,he⟩:∃e:Nat,ds[k] = -(e:Int):=⟨(-ds[k]).toNat,by omega⟩
      rw[he,Int.natAbs_neg,Int.natAbs_natCast,tmod_neg]
      rcases jr (e%l.length) with h1 | h1
      ·
       left
       rw[h1]
       rfl
      ·
       exact Or.inr ⟨rfl,h1⟩
    generalize ds[k].natAbs%l.length=q at *
    generalize ds[k]=z at *
    generalize l[q]=s at *
    rcases hdec with ht | ⟨ht,hq0⟩
    ·
     have iq:¬(q:Int)<0:=by omega
     go_wp2_with (at_builtin;refine xz (v:= .slice A' k c') w.heap.size ((jw l ds).take k) s rfl _ _ rfl rfl rfl rfl (by rw[za _ _ _ _ rfl];rfl) (by rw[HKL.out];exact HO.out.alloc _) (by rw[HKL.out];omega) (by simp;omega) ?_;intro A2 c2 w2 ho2 hg2)
     go_roundw
     case rel =>
      have hl3:((jw l ds).take k++[s]).length=k+1:=by rw[qd,HKL.out];rfl
      refine⟨k+1,A2,c2,by omega,by go_num,by rw[show min k (jw l ds).length=k by rw[HLN.out];omega],?_,(HB.out.alloc hsz _).grown hg2 (by simp;omega) (fun q hq=>(zk HO.out hq).1)⟩
      rw[hl3] at ho2
      rw[HTK.out]
      exact ho2
     case measure=>simp[intOf] <;> omega
    ·
     have iq : -(q:Int)<0:=by omega
     go_wp2_with (at_builtin;refine xz (v:= .slice A' k c') w.heap.size ((jw l ds).take k) s rfl _ _ rfl rfl rfl rfl (by rw[za _ _ _ _ rfl];rfl) (by rw[HKL.out];exact HO.out.alloc _) (by rw[HKL.out];omega) (by simp;omega) ?_;intro A2 c2 w2 ho2 hg2)
     go_roundw
     case rel =>
      have hl3:((jw l ds).take k++[s]).length=k+1:=by rw[qd,HKL.out];rfl
      refine⟨k+1,A2,c2,by omega,by go_num,by rw[show min k (jw l ds).length=k by rw[HLN.out];omega],?_,(HB.out.alloc hsz _).grown hg2 (by simp;omega) (fun q hq=>(zk HO.out hq).1)⟩
      rw[hl3] at ho2
      rw[HTK.out]
      exact ho2
     case measure=>simp[intOf] <;> omega
   ·
    have ik:¬(k:Int)<(ds.length:Int):=by omega
    have hke:k=(jw l ds).length:=by rw[HLN.out];omega
    have HKE:=qa hke
    have HT:Hid ((jw l ds).take k=jw l ds):=qo (by omega)
    clear hke
    go_wp2_with fail
    go_ret
    exact⟨A',c',by rw[←HKE.out];rfl,by rw[←HKE.out];have:=HO.out;rw[HT.out] at this;exact this,HB.out⟩
end Go.Proofs.YtnjkipnklpkaoaaGreat
