/-
  Lemmas.
-/
import Derived.Test.YtjfecojdagmacaaGreatD32
namespace Go.Proofs.YtjfecojdagmacaaGreat
open Go.RowKit
set_option maxRecDepth 20000
set_option maxHeartbeats 16000000
set_option linter.unusedSimpArgs false
set_option linter.unusedVariables false
section
variable {w w':World}{base n m n' m':Nat}{t1 t2:TypeId}{u v u' v':Value}{xs ys xs' ys':List Value}
theorem Tw.left(h:Tw w base t1 t2 u v n m xs ys)(ho:w'.ownsRow base t1 1 u' n' xs')(hg:w.grownBy w' u.ownBlock)(hb:u'.ownBlock=u.ownBlock∨u'.ownBlock=some w.heap.size):Tw w' base t1 t2 u' v n' m xs' ys:=by
 refine⟨ho,h.o2.kept hg h.ap.symm.keeps,fun g h1 h2 => ?_⟩
 rcases hb with e | e
 ·
  exact h.ap g (e ▸ h1) h2
 ·
  have h3:=(zk h.o2 h2).2
  rw[e] at h1
  injection h1 with h1
  omega
theorem Tw.right(h:Tw w base t1 t2 u v n m xs ys)(ho:w'.ownsRow base t2 1 v' m' ys')(hg:w.grownBy w' v.ownBlock)(hb:v'.ownBlock=v.ownBlock∨v'.ownBlock=some w.heap.size):Tw w' base t1 t2 u v' n m' xs ys' :=
 (h.symm.left ho hg hb).symm
end
theorem push_str_at{ops:Array Oper}{rest:List Oper}{o:Oper}{a:Act}{Q:Exit→Act→World→Prop}{w:World}{v:Value}{g:Nat}(base:Nat)(ys:List ByteArray)(z:ByteArray)(hgd:o.guard=none)(s x:Operand)
  (ho:o.op= .call { callee:= .builtin .append,args:=#[s,x],argTypes:=#[52,52] }) (hty:o.type=52)
  (hs:a.eval s=v) (hx:a.eval x= .slice (some ⟨g,0,none⟩) 1 1) (hcell:w.cell? ⟨g,0,none⟩=some (.string z))
  (hown:w.ownsRow base 9 1 v ys.length (sv ys)) (hb:ys.length+1≤1000000000) (hbase:base≤w.heap.size)
  (h:∀A' c' w',w'.ownsRow base 9 1 (.slice A' (ys.length+1) c') (ys.length+1) (sv (ys++[z]))→w.grownBy w' v.ownBlock→((Value.slice A' (ys.length+1) c').ownBlock=v.ownBlock∨(Value.slice A' (ys.length+1) c').ownBlock=some w.heap.size)→wpList Tryz.prog ops Q rest (a.put o.dst (.slice A' (ys.length+1) c')) w') :
  wpList Tryz.prog ops Q (o :: rest) a w:=by
 have hr:Rd w 0 w.heap.size (some ⟨g,0,none⟩) 1 (sv [z]):=⟨by simp[sv],by simp[maxLen],fun _=>⟨g,0,rfl,qi _,ya w _ hcell,fun j u hu=>by
  match j,hu with
  | 0,hu =>
   simp[sv] at hu
   subst hu
   exact hcell
  | j+1,hu=>simp[sv] at hu⟩⟩
 obtain⟨i0,hi0,hz0,hz1,hz2⟩:=info_parts Tryz.infoStr
 obtain⟨A',c',w',hrun,h2,h3,h4⟩:=vt (P:=Tryz.prog) w base 52 52 9 i0 _ _ Tryz.underlying52 hi0 hz0 hz1 hz2 rfl v ys.length (sv ys) hown 0 w.heap.size _ 1 (sv [z]) hr (sv_one _)
  (by simp[sv,maxLen];omega) (by simp[sv];omega) hbase
 have hl:(sv [z]).length=1:=rfl
 rw[hl] at hrun h2 h4
 exact wpList_append_run hgd s x _ _ ho hs hx (by rw[hty];exact hrun) (h A' c' w' (by rw[qos];exact h2) h3 h4)
theorem qnw{w:World}(L:List Vl){lo c:Nat}{A:Option Addr}(h:Row w lo w.heap.size A c L)(hn:L.length≤1000000) :
  Calls Tryz.prog 55 #[.slice A L.length c] w fun r w'=>∃A1 c1 A2 c2,r= .returned (.tuple #[.slice A1 L.length c1,.slice A2 (qu L).length c2])∧
   w'.ownsRow w.heap.size 4 1 (.slice A1 L.length c1) L.length (lv (xk L))∧w'.ownsRow w.heap.size 9 1 (.slice A2 (qu L).length c2) (qu L).length (sv (qu L))∧Below w.heap.size w w':=by
 obtain⟨hl,hm⟩:=h.len
 have H:=qa h
 clear h
 go_enter Tryz.func55,Tryz.ntmps55
 go_wp2_with fail
 go_loopw [4,5,6] (fun x y i wr=>∃(k:Nat) (ts:List Bool) (ys:List ByteArray) (A1 A2:Option Addr) (c1 c2 n:Nat),k≤L.length∧i= .int .i64 (k:Int)∧xk (L.take k)=ts∧ts.length=k∧qu (L.take k)=ys∧ys.length=n∧n≤k∧x= .slice A1 k c1∧y= .slice A2 n c2∧
  Tw wr w.heap.size 4 9 (.slice A1 k c1) (.slice A2 n c2) k n (lv ts) (sv ys)∧Below w.heap.size w wr) (fun _ _ i _=>L.length-(intOf i).toNat)
 case atStart=>exact⟨0,[],[],none,none,0,0,0,qi _,rfl,rfl,rfl,rfl,rfl,qc _,rfl,rfl,Tw.nil _ _ _ _,Below.refl _ _⟩
 case round =>
  obtain⟨k,ts,ys,A1,A2,c1,c2,n,hk,rfl,hts,htl,hys,hyn,hnk,rfl,rfl,ho,hb⟩:=hrel
  have HTS:=qa hts
  have HTL:=qa htl
  have HY:=qa hys
  have HYN:=qa hyn
  have HO:=qa ho
  have HB:=qa hb
  have hsz:=hb.size
  clear ho hb hys hyn hts htl
  by_cases hlt:k<L.length
  ·
   have ik:(k:Int)<(L.length:Int):=by omega
   obtain⟨b,off,rfl,_,hbl,hc0,hc1⟩:=(H.out.below HB.out (qc _)).get hlt
   have hbw:b<wr.heap.size:=by omega
   have hbw2:b<w.heap.size:=by omega
   have HT:=qa (qko hlt)
   have HR:Hid (xk (L.take (k+1))=ts++[!L[k].null]):=by
    unfold Hid
    rw[←HTS.out,qj hlt,xk,jl]
    rfl
   rw[HY.out] at HT
   generalize L[k].null=nb at *
   generalize L[k].s=s at *
   go_wp2_with (at_builtin;refine qoo (v:= .slice A1 k c1) w.heap.size ts (!nb) rfl _ _ rfl rfl rfl rfl (by rw[zg _ _ _ _ rfl];rfl) (by have:=HO.out.o1.alloc (.cells #[.bool (!nb)] 4);rw[HTL.out];exact this) (by rw[HTL.out];omega) (by simp;omega) ?_;intro A7 c7 w7 ho7 hg7 hb7;refine qam ?_)
   have hbB:Below w.heap.size w w7:=(HB.out.alloc hsz _).grown hg7 (by simp;omega) (fun q hq=>(zk HO.out.o1 hq).1)
   have hl7:(ts++[!nb]).length=k+1:=by rw[qd,HTL.out];rfl
   rw[hl7] at ho7 hb7
   have HO7:=qa ((HO.out.alloc (.cells #[.bool (!nb)] 4)).left ho7 hg7 hb7)
   have HB7:=qa hbB
   have HL7:=qa hl7
   have HZV:Hid (Value.slice A7 (ts.length+1) c7= .slice A7 (k+1) c7):=by unfold Hid;rw[HTL.out]
   have hs7:=hbB.size
   have d0:w7.cell? ⟨b,off+k*2,none⟩=some (.bool nb):=by rw[HB7.out.cell (p:=⟨b,off+k*2,none⟩) hbw2,←HB.out.cell (p:=⟨b,off+k*2,none⟩) hbw2];exact hc0
   have d1:w7.cell? ⟨b,off+k*2+1,none⟩=some (.string s):=by rw[HB7.out.cell (p:=⟨b,off+k*2+1,none⟩) hbw2,←HB.out.cell (p:=⟨b,off+k*2+1,none⟩) hbw2];exact hc1
   clear ho7 hg7 hb7 hl7 HO HB hbB hc0 hc1
   refine⟨?_⟩
   cases nb with
   | true =>
    have HT2:Hid (qu (L.take (k+1))=ys):=by unfold Hid;rw[HT.out];simp
    clear HT
    go_wp2_with fail
    go_roundw
    case rel=>exact⟨k+1,_,ys,A7,A2,c7,c2,n,by omega,by go_num,HR.out,HL7.out,HT2.out,HYN.out,by omega,HZV.out,rfl,HO7.out,HB7.out⟩
    case measure=>simp[intOf];omega
   | false =>
    obtain⟨zs,hzs⟩:∃zs,ys++[s]=zs:=⟨_,rfl⟩
    have HT2:Hid (qu (L.take (k+1))=zs):=by unfold Hid;rw[HT.out,←hzs];simp
    have hzl:zs.length=n+1:=by rw[←hzs,qd,HYN.out];rfl
    have HZL:=qa hzl
    have HZS:=qa hzs
    clear HT hzl hzs
    go_wp2_with (at_builtin;refine push_str_at (v:= .slice A2 n c2) w.heap.size ys s rfl _ _ rfl rfl rfl rfl (by rw[zg _ _ _ _ rfl];rfl) (by have:=HO7.out.o2.alloc (.cells #[.string s] 9);rw[HYN.out];exact this) (by rw[HYN.out];omega) (by simp;omega) ?_;intro A8 c8 w8 ho8 hg8 hb8;refine qam ?_)
    have hbB:Below w.heap.size w w8:=(HB7.out.alloc hs7 _).grown hg8 (by simp;omega) (fun q hq=>(zk HO7.out.o2 hq).1)
    rw[HZS.out,HYN.out] at ho8
    rw[HYN.out] at hb8
    have HO8:=qa ((HO7.out.alloc (.cells #[.string s] 9)).right ho8 hg8 hb8)
    have HB8:=qa hbB
    have HZV8:Hid (Value.slice A8 (ys.length+1) c8= .slice A8 (n+1) c8):=by unfold Hid;rw[HYN.out]
    clear ho8 hg8 hb8 hbB HO7 HB7 HZS
    refine⟨?_⟩
    go_wp2_with fail
    go_roundw
    case rel=>exact⟨k+1,_,zs,A7,A8,c7,c8,n+1,by omega,by go_num,HR.out,HL7.out,HT2.out,HZL.out,by omega,HZV.out,HZV8.out,HO8.out,HB8.out⟩
    case measure=>simp[intOf] <;> omega
  ·
   have ik:¬(k:Int)<(L.length:Int):=by omega
   have hkl:k=L.length:=by omega
   subst hkl
   have hke:L.take L.length=L:=yw
   rw[hke] at HY HTS
   go_wp2_with fail
   go_ret2
   rw[HY.out,HYN.out,HTS.out]
   exact⟨_,_,_,_,rfl,HO.out.o1,HO.out.o2,HB.out⟩
theorem refSame_v{w:World}(L M:List Vl){lo lo2 c d:Nat}{A B:Option Addr}(h:Row w lo w.heap.size A c L)(h2:Row w lo2 w.heap.size B d M) :
  Calls Tryz.prog 45 #[.slice A L.length c,.slice B M.length d] w fun r w'=>r= .returned (.bool (decide (L=M)))∧∃k,w.drewN k=w':=by
 obtain⟨hl,hm⟩:=h.len
 obtain⟨hl2,hm2⟩:=h2.len
 have H:=qa h
 have H2:=qa h2
 clear h h2
 by_cases hlen:L.length=M.length
 ·
  rw[←hlen]
  have HL:=qa hlen
  clear hlen
  go_enter Tryz.func45,Tryz.ntmps45
  go_wp2_with fail
  go_loopw [5] (fun i wr=>∃k q:Nat,k≤L.length∧i= .int .i64 (k:Int)∧Hid (L.take k=M.take k)∧w.drewN q=wr) (fun i _=>L.length-(intOf i).toNat)
  case atStart=>exact⟨0,0,qi _,rfl,rfl,rfl⟩
  case round =>
   obtain⟨k,q,hk,rfl,HE,rfl⟩:=hrel
   by_cases hlt:k<L.length
   ·
    have ik:(k:Int)<(L.length:Int):=by omega
    have hlt2:k<M.length:=by have:=HL.out;omega
    obtain⟨b1,o1,rfl,_,_,x0,x1⟩:=H.out.get hlt
    obtain⟨b2,o2,rfl,_,_,y0,y1⟩:=H2.out.get hlt2
    have ht1:Hid (L.take (k+1)=L.take k++[L[k]]):=qj hlt
    have ht2:Hid (M.take (k+1)=M.take k++[M[k]]):=qj hlt2
    have hq:Hid (L=M→L[k]=M[k]):=fun h=>by subst h;rfl
    have i0:(0:Int)≤(k:Int):=by omega
    generalize L[k]=x at *
    generalize M[k]=y at *
    obtain⟨xn,xs⟩:=x
    obtain⟨yn,ys⟩:=y
    simp only at x0 x1 y0 y1
    by_cases hxy:xn=yn∧xs=ys
    ·
     obtain⟨rfl,rfl⟩:=hxy
     go_wp2_with fail
     go_quiet (fail)
     go_wp2_with fail
     go_roundw
     case rel=>exact⟨k+1,_,by omega,by go_num,by unfold Hid;rw[ht1.out,ht2.out,HE.out],rfl⟩
     case measure=>simp[intOf];omega
    ·
     have HX:Hid (decide (L=M)=false):=qr fun h=>hxy (by have:=hq.out h;injection this with h1 h2;exact⟨h1,h2⟩)
     by_cases hs:xs=ys
     ·
      subst hs
      cases xn <;> cases yn
      ·
       exact absurd ⟨rfl,rfl⟩ hxy
      ·
       clear hxy
       go_wp2_with fail
       go_quiet (fail)
       go_wp2_with fail
       go_ret
       exact⟨xg HX.out.symm,_,(zt _ _ _).symm⟩
      ·
       clear hxy
       go_wp2_with fail
       go_quiet (fail)
       go_wp2_with fail
       go_ret
       exact⟨xg HX.out.symm,_,(zt _ _ _).symm⟩
      ·
       exact absurd ⟨rfl,rfl⟩ hxy
     ·
      have hs2:(xs.toList==ys.toList)=false:=q9.2 fun h=>hs (ByteArray.ext (qdw.1 (by rw[←z6,←z6,h])))
      clear hxy
      cases xn <;> cases yn
      all_goals
       go_wp2_with fail
       go_quiet (fail)
       go_wp2_with fail
       go_ret
       exact⟨xg HX.out.symm,_,(zt _ _ _).symm⟩
   ·
    have ik:¬(k:Int)<(L.length:Int):=by omega
    have hall:Hid (L=M):=by
     have h:=HE.out
     rw[qo (by omega),qo (by have:=HL.out;omega)] at h
     exact h
    go_wp2_with fail
    go_ret
    exact⟨xg (qx hall.out).symm,_,rfl⟩
 ·
  have hne:((L.length:Int) != (M.length:Int))=true:=by rw[bne_iff_ne];omega
  have HN:Hid (decide (L=M)=false):=qr fun h=>hlen (by rw[h])
  go_enter Tryz.func45,Tryz.ntmps45
  go_wp2_with fail
  go_ret
  exact⟨xg HN.out.symm,0,rfl⟩
theorem refColumn_v{w:World}{rs:List (List Vl)}{cc:Nat}{A:Option Addr}(h:vq w 0 w.heap.size A cc rs)(k:Nat)(hk:∀r∈rs,k<r.length)(hn:rs.length≤1000000) :
  Calls Tryz.prog 54 #[.slice A rs.length cc,.int .i64 (k:Int)] w fun r w'=>∃A' c',r= .returned (.slice A' rs.length c')∧w'.ownsRow w.heap.size 72 2 (.slice A' rs.length c') rs.length (vv (vk rs k))∧Below w.heap.size w w':=by
 obtain⟨hl,hm⟩:=h.len
 have H:Hid (∀W,Below w.heap.size w W→vq W 0 W.heap.size A cc rs):=fun W hW=>(h.below hW (qc _)).wide (qc _) hW.size
 have HK:Hid (∀i (hi:i<rs.length),k<rs[i].length):=fun i hi=>hk _ (ql hi)
 clear h hk
 go_enter Tryz.func54,Tryz.ntmps54
 go_wp2_with fail
 go_loopw [5,6] (fun x5 x6 wr=>∃(i:Nat) (A':Option Addr) (c':Nat),i≤rs.length∧x6= .int .i64 (i:Int)∧x5= .slice A' i c'∧Hid (wr.ownsRow w.heap.size 72 2 (.slice A' i c') i (vv (vk (rs.take i) k)))∧Below w.heap.size w wr) (fun _ x6 _=>rs.length-(intOf x6).toNat)
 case atStart=>exact⟨0,none,0,qi _,rfl,rfl,zf _ _ _ _,Below.refl _ _⟩
 case round =>
  obtain⟨i,A',c',hi,rfl,rfl,HO,hb⟩:=hrel
  have HB:=qa hb
  have hszr:=hb.size
  clear hb
  by_cases hlt:i<rs.length
  ·
   have ii:(i:Int)<(rs.length:Int):=by omega
   have ii0:(0:Int)≤(i:Int):=by omega
   obtain⟨b,off,A2,c2,rfl,_,hbl,hcell,hrow⟩:=(H.out wr HB.out).get hlt
   have hkr:=HK.out i hlt
   obtain⟨hl2,hm2⟩:=hrow.len
   obtain⟨b2,off2,rfl,_,hbl2,hx0,hx1⟩:=hrow.get hkr
   have ik:(k:Int)<(rs[i].length:Int):=by omega
   have ik0:(0:Int)≤(k:Int):=by omega
   obtain⟨n2,hn2⟩:∃n2,rs[i].length=n2:=⟨_,rfl⟩
   rw[hn2] at ik hl2 hcell
   have HC:=qa (colV_take hlt hkr)
   have hcl:(vk (rs.take i) k).length=i:=by rw[qa6,qz];omega
   have HCL:=qa hcl
   obtain⟨e,he⟩:∃e,rs[i][k]=e:=⟨_,rfl⟩
   rw[he] at hx0 hx1 HC
   clear hrow hcl he hn2 hkr
   go_wp2_with (first | (refine qqg e rfl _ rfl rfl ?_) | (at_builtin;refine qqd (v:= .slice A' i c') w.heap.size (vk (rs.take i) k) e HCL.out rfl _ _ rfl rfl rfl rfl (by rw[zg _ _ _ _ rfl];rfl) (by rw[zg _ _ _ _ rfl];rfl) (HO.out.alloc _) (by omega) (by simp;omega) ?_;intro A5 c5 w5 ho5 hg5 hq5))
   have HB5:Hid (Below w.heap.size w w5):=(HB.out.alloc hszr (.cells (qct e).toArray 72)).grown hg5 (by simp;omega) (fun q hq=>(zk (HO.out.alloc (.cells (qct e).toArray 72)) hq).1)
   go_roundw
   case rel=>exact⟨i+1,A5,c5,by omega,by go_num,rfl,by rw[HC.out];exact ho5,HB5.out⟩
   case measure=>simp[intOf];omega
  ·
   have ii:¬(i:Int)<(rs.length:Int):=by omega
   have e1:i=rs.length:=by omega
   subst e1
   have HO2:=HO.out
   rw[qo (qc _)] at HO2
   have HO3:=qa HO2
   clear HO HO2
   go_wp2_with fail
   go_ret
   exact⟨_,_,rfl,HO3.out,HB.out⟩
theorem refSame2_v{w:World}{la lb:List (List Vl)}{c d:Nat}{A B:Option Addr}(h:vq w 0 w.heap.size A c la)(h2:vq w 0 w.heap.size B d lb) :
  Calls Tryz.prog 22 #[.slice A la.length c,.slice B lb.length d] w fun r w'=>r= .returned (.bool (decide (la=lb)))∧Below w.heap.size w w':=by
 obtain⟨hl,hm⟩:=h.len
 obtain⟨hl2,hm2⟩:=h2.len
 have H:Hid (∀W,Below w.heap.size w W→vq W 0 W.heap.size A c la):=fun W hW=>(h.below hW (qc _)).wide (qc _) hW.size
 have H2:Hid (∀W,Below w.heap.size w W→vq W 0 W.heap.size B d lb):=fun W hW=>(h2.below hW (qc _)).wide (qc _) hW.size
 obtain⟨v,hv⟩:∃v,decide (la=lb)=v:=⟨_,rfl⟩
 rw[hv]
 have HV:=qa hv
 clear h h2 hv
 go_enter Tryz.func22,Tryz.ntmps22
 by_cases hne:la.length=lb.length
 ·
  have in1:(la.length:Int)=(lb.length:Int):=by omega
  have HN:=qa hne
  obtain⟨n,hn⟩:∃n,lb.length=n:=⟨_,rfl⟩
  have HN2:Hid (la.length=n):=by unfold Hid;rw[hne,hn]
  have HN3:=qa hn
  rw[hne,hn]
  rw[hne] at hl
  rw[hn] at hl hl2
  clear hne in1 hn HN
  go_wp2_with fail
  go_loopw [5] (fun x wr=>∃i:Nat,i≤n∧x= .int .i64 (i:Int)∧Hid (la.take i=lb.take i)∧Below w.heap.size w wr) (fun x _=>n-(intOf x).toNat)
  case atStart=>exact⟨0,qi _,rfl,rfl,Below.refl _ _⟩
  case round =>
   obtain⟨i,hi,rfl,HT,hb⟩:=hrel
   have HB:=qa hb
   have hszr:=hb.size
   clear hb
   by_cases hlt:i<n
   ·
    have ii:(i:Int)<(n:Int):=by omega
    have ii0:(0:Int)≤(i:Int):=by omega
    have ha:i<la.length:=by rw[HN2.out];exact hlt
    have hb':i<lb.length:=by rw[HN3.out];exact hlt
    obtain⟨b,off,A2,c2,rfl,_,hbl,hcell,hrow⟩:=(H.out wr HB.out).get ha
    obtain⟨b2,off2,B2,d2,rfl,_,hbl2,hcell2,hrow2⟩:=(H2.out wr HB.out).get hb'
    have HXC:Hid (∀W,Below wr.heap.size wr W→W.cell? ⟨b,off+i,none⟩=some (.slice A2 la[i].length c2)∧W.cell? ⟨b2,off2+i,none⟩=some (.slice B2 lb[i].length d2)):=fun W hW=>⟨(hW.cell (p:=⟨b,off+i,none⟩) hbl).trans hcell,(hW.cell (p:=⟨b2,off2+i,none⟩) hbl2).trans hcell2⟩
    obtain⟨e,he⟩:∃e,decide (la[i]=lb[i])=e:=⟨_,rfl⟩
    have HSM:Hid (∀W,Below wr.heap.size wr W→Calls Tryz.prog 45 #[.slice A2 la[i].length c2,.slice B2 lb[i].length d2] W fun r w'=>r= .returned (.bool e)∧Below W.heap.size W w'):=fun W hW=>by
     refine(refSame_v _ _ ((hrow.below hW (qc _)).wide (qc _) hW.size) ((hrow2.below hW (qc _)).wide (qc _) hW.size)).mono ?_
     rw[he]
     rintro r w' ⟨h1,m,rfl⟩
     exact⟨h1,zj (Below.refl _ _) m⟩
    have HE:=qa he
    clear hcell hcell2 hrow hrow2 he
    obtain⟨n1,hn1⟩:∃n1,la[i].length=n1:=⟨_,rfl⟩
    obtain⟨n2,hn2⟩:∃n2,lb[i].length=n2:=⟨_,rfl⟩
    rw[hn1,hn2] at HXC HSM
    clear hn1 hn2
    go_wp2_with fail
    have KD:Hid (Below wr.heap.size wr wr.drew):=(Below.refl _ _).drew
    refine wp_region_held_drew (S:=fun w'=>Below wr.heap.size wr w') (by kernel_rfl) KD.out (fun hHeld => ?_)
    refine tk 0 ?_ rfl hHeld ?_ ?_
    rotate_left
    focus (intro W hSw;obtain⟨q0,q1⟩:=HXC.out W hSw;go_simp;try with_reducible rfl)
    try simp only[ju,Act.put]
    refine tk 1 ?_ rfl hHeld ?_ ?_
    rotate_left
    focus (intro W hSw;obtain⟨q0,q1⟩:=HXC.out W hSw;go_simp;try with_reducible rfl)
    try simp only[ju,Act.put]
    refine tk 2 ?_ rfl hHeld ?_ ?_
    rotate_left
    focus (intro W hSw;obtain⟨q0,q1⟩:=HXC.out W hSw;go_simp;try with_reducible rfl)
    try simp only[ju,Act.put]
    refine tk 3 ?_ rfl hHeld ?_ ?_
    rotate_left
    focus (intro W hSw;obtain⟨q0,q1⟩:=HXC.out W hSw;go_simp;try with_reducible rfl)
    try simp only[ju,Act.put]
    refine tk 4 ?_ rfl hHeld ?_ ?_
    rotate_left
    focus (intro W hSw;obtain⟨q0,q1⟩:=HXC.out W hSw;go_simp;try with_reducible rfl)
    try simp only[ju,Act.put]
    refine tk 5 ?_ rfl hHeld ?_ ?_
    rotate_left
    focus (intro W hSw;obtain⟨q0,q1⟩:=HXC.out W hSw;go_simp;try with_reducible rfl)
    try simp only[ju,Act.put]
    refine tk 6 ?_ rfl hHeld ?_ ?_
    rotate_left
    focus (intro W hSw;obtain⟨q0,q1⟩:=HXC.out W hSw;go_simp;try with_reducible rfl)
    try simp only[ju,Act.put]
    refine tk 7 ?_ rfl hHeld ?_ ?_
    rotate_left
    focus (intro W hSw;obtain⟨q0,q1⟩:=HXC.out W hSw;go_simp;try with_reducible rfl)
    try simp only[ju,Act.put]
    obtain⟨wd,hwd⟩:∃q,wr.drew=q:=⟨_,rfl⟩
    rw[hwd] at hHeld ⊢
    clear KD hwd
    have K_wd:=qa hHeld
    refine wpAnyH_ready (rs:=[8]) (by kernel_rfl) (by simp) ?_
    refine qt (o:=_) rfl (fun K hK => ?_) za
    go_simp
    refine(HSM.out _ K_wd.out).mono ?_
    rintro r v1 ⟨rfl,hb_v1⟩
    have s_v1:wd.heap.size≤v1.heap.size:=hb_v1.size
    have K_v1:Hid (Below wr.heap.size wr v1):=qa (K_wd.out.trans (hb_v1.mono K_wd.out.size))
    clear hb_v1
    refine hK.out _ _ K_v1.out (fun hHeld => ?_)
    clear hK K
    try simp only[ju,Act.put]
    refine tk 9 ?_ rfl hHeld ?_ ?_
    rotate_left
    focus (intro W hSw;obtain⟨q0,q1⟩:=HXC.out W hSw;go_simp;try with_reducible rfl)
    try simp only[ju,Act.put]
    refine wpAnyH_done (by kernel_rfl) ?_ _
    have KG:=K_v1
    cases e with
    | true =>
     have HT2:Hid (la.take (i+1)=lb.take (i+1)):=by unfold Hid;rw[qj ha,qj hb',HT.out,of_decide_eq_true HE.out]
     go_wp2_with fail
     go_roundw
     case rel=>exact⟨i+1,by omega,by go_num,HT2,HB.out.trans (KG.out.mono hszr)⟩
     case measure=>simp[intOf];omega
    | false =>
     have hvf:v=false:=by
      rw[←HV.out]
      refine qr fun h9=>of_decide_eq_false HE.out ?_
      subst h9
      rfl
     subst hvf
     go_wp2_with fail
     go_ret
     exact⟨rfl,HB.out.trans (KG.out.mono hszr)⟩
   ·
    have ii:¬(i:Int)<(n:Int):=by omega
    have hvt:v=true:=by
     rw[←HV.out]
     refine qx ?_
     have:=HT.out
     have e1:i=n:=by omega
     rwa [qo (by rw[HN2.out];omega),qo (by rw[HN3.out];omega)] at this
    subst hvt
    go_wp2_with fail
    go_ret
    exact⟨rfl,HB.out⟩
 ·
  have in1:¬(la.length:Int)=(lb.length:Int):=by omega
  have in1b:((la.length:Int) != (lb.length:Int))=true:=by rw[bne_iff_ne];exact in1
  have hvt:v=false:=by
   rw[←HV.out]
   exact qr fun e=>hne (by rw[e])
  subst hvt
  clear hne
  go_wp2_with fail
  go_ret
  exact⟨rfl,Below.refl _ _⟩
theorem append_rows{w:World}{base n:Nat}{v:Value}{xs:List Value}(hown:w.ownsRow base 73 1 v n xs){lo hi c:Nat}{A:Option Addr}{ys:List Value}(hr:Rd w lo hi A c ys)(h1:∀u∈ys,u.oneCell'=true){m:Nat}(hm:ys.length=m)(hb:n+m≤1000000)(hbase:base≤w.heap.size) :
  ∃A' c' w',(Builtin.append_ #[28,28] 28 #[v,.slice A m c]).run Tryz.prog w= .ok (.slice A' (n+m) c') w'∧w'.ownsRow base 73 1 (.slice A' (n+m) c') (n+m) (xs++ys)∧w.grownBy w' v.ownBlock:=by
 subst hm
 obtain⟨i0,hi0,hz0,hz1,hz2⟩:=info_parts Tryz.infoRow
 obtain⟨A',c',w',hrun,h2,h3,_⟩:=vt (P:=Tryz.prog) w base 28 28 73 i0 _ 24 Tryz.underlying28 hi0 hz0 hz1 hz2 rfl v n xs hown lo hi A c ys hr h1 (by simp only[maxLen];omega) (by omega) hbase
 exact⟨A',c',w',hrun,h2,h3⟩
theorem refAll_v{w:World}{gs:List (List (List Vl))}{c:Nat}{A:Option Addr}(h:qbg w 0 w.heap.size A c gs)(hn:uf gs≤1000000){n:Nat}(hfl:gs.flatten.length=n) :
  Calls Tryz.prog 29 #[.slice A gs.length c] w fun r w'=>∃A' c',r= .returned (.slice A' n c')∧vq w' 0 w'.heap.size A' c' gs.flatten∧Below w.heap.size w w':=by
 obtain⟨hl,hm⟩:=h.len
 have H:Hid (∀W,Below w.heap.size w W→qbg W 0 w.heap.size A c gs):=fun W hW=>h.below hW (qc _)
 have HRN:Hid (∀i,i≤gs.length→((gs.take i).flatten).length=uf (gs.take i)∧uf (gs.take i)≤1000000):=fun i hi=>⟨by rw[List.length_flatten];rfl,zb (qja gs i) hn⟩
 have HFL:=qa hfl
 clear h hn hfl
 go_enter Tryz.func29,Tryz.ntmps29
 go_wp2_with fail
 go_loopw [3,4] (fun x5 x6 wr=>∃(i p:Nat) (A':Option Addr) (c':Nat) (xs:List Value),i≤gs.length∧x6= .int .i64 (i:Int)∧x5= .slice A' p c'∧Hid ((gs.take i).flatten.length=p)∧Hid (wr.ownsRow w.heap.size 73 1 (.slice A' p c') p xs)∧Hid (qfn wr 0 w.heap.size xs (gs.take i).flatten)∧Below w.heap.size w wr) (fun _ x6 _=>gs.length-(intOf x6).toNat)
 case atStart=>exact⟨0,0,none,0,[],qi _,rfl,rfl,rfl,zf _ _ _ _,⟨rfl,fun j hj=>absurd hj (ja j)⟩,Below.refl _ _⟩
 case round =>
  obtain⟨i,p,A',c',xs,hi,rfl,rfl,HP,HO,HX,hb⟩:=hrel
  have HB:=qa hb
  have hszr:=hb.size
  clear hb
  by_cases hlt:i<gs.length
  ·
   have ii:(i:Int)<(gs.length:Int):=by omega
   have ii0:(0:Int)≤(i:Int):=by omega
   obtain⟨b,off,A2,c2,rfl,_,hbl,hcell,hrows⟩:=(H.out wr HB.out).get hlt
   obtain⟨ys,hry,hys⟩:=hrows.cells
   have hpm:p+gs[i].length≤1000000:=by
    have h1:=(HRN.out i (by omega)).1
    have h2:=(HRN.out (i+1) (by omega)).2
    rw[qfu hlt] at h2
    have:=HP.out
    omega
   obtain⟨A5,c5,w5,hrun,ho5,hg5⟩:=append_rows HO.out hry hys.one hys.1 hpm hszr
   have hblk:∀q,(Value.slice A' p c').ownBlock=some q→w.heap.size≤q:=fun q hq=>(zk HO.out hq).1
   have HB5:Hid (Below w.heap.size w w5):=HB.out.grown hg5 hszr hblk
   have B5:Below w.heap.size wr w5:=(Below.refl _ _).grown hg5 hszr hblk
   have hft:(gs.take (i+1)).flatten=(gs.take i).flatten++gs[i]:=by
    rw[qj hlt,qfd]
    simp
   have HX5:Hid (qfn w5 0 w.heap.size (xs++ys) (gs.take (i+1)).flatten):=by
    unfold Hid
    rw[hft]
    exact(HX.out.below B5 (qc _)).append (hys.below B5 (qc _))
   have HP5:Hid ((gs.take (i+1)).flatten.length=p+gs[i].length):=by
    unfold Hid
    rw[hft,qd,HP.out]
   have HO5:=qa ho5
   obtain⟨hcl2,hcm2⟩:=hrows.len
   obtain⟨n2,hn2⟩:∃n2,gs[i].length=n2:=⟨_,rfl⟩
   rw[hn2] at hrun hcell HP5 HO5 hcl2
   clear hry hys hrows hpm ho5 hg5 hblk B5 hft hn2 HX HP
   go_wp2_with (at_builtin;refine wpList_append_run rfl _ _ _ _ rfl rfl rfl hrun ?_)
   go_roundw
   case rel=>exact⟨i+1,_,A5,c5,_,by omega,by go_num,rfl,HP5,HO5,HX5,HB5.out⟩
   case measure=>simp[intOf];omega
  ·
   have ii:¬(i:Int)<(gs.length:Int):=by omega
   have HF:Hid (gs.take i=gs):=qo (by omega)
   rw[HF.out] at HP HX
   have HR:Hid (vq wr 0 wr.heap.size A' c' gs.flatten):=by
    have h1:=(Rd.of_own HO.out).wide (qi _) (qc wr.heap.size)
    obtain⟨h2,h3⟩:=HX.out
    exact qfn.rows ⟨h2,fun j hj=>by
     obtain⟨A9,c9,h4,h5⟩:=h3 j hj
     exact⟨A9,c9,h4,h5.wide (qc _) hszr⟩⟩ h1
   obtain rfl:p=n:=HP.out.symm.trans HFL.out
   go_wp2_with fail
   go_ret
   exact⟨_,_,rfl,HR.out,HB.out⟩
theorem sumV_take{L:List Vl}{k:Nat}(h:k<L.length):qgh (L.take (k+1))=qgh (L.take k)+L[k].s.size:=by
 unfold qgh
 rw[qj h,jl,qb5]
 simp
theorem refRight_v{w:World}(L:List Vl)(o:Co){lo c d:Nat}{A B:Option Addr}(h:Row w lo w.heap.size A c L)(hd:Rd w 0 w.heap.size B d (iv o.draws)) :
  Calls Tryz.prog 53 #[.slice A L.length c,.agg #[.int .i64 o.kind,.int .i64 o.block,.int .i64 o.rounds,.slice B o.draws.length d]] w fun r w'=>r= .returned (.bool (decide (kr L∧qa2 o)))∧Below w.heap.size w w':=by
 obtain⟨hl,hm⟩:=h.len
 obtain⟨v,hv⟩:∃v,decide (kr L∧qa2 o)=v:=⟨_,rfl⟩
 rw[hv]
 have HF:Hid (¬qa2 o→v=false):=fun h=>by rw[←hv];exact qr fun h1=>h h1.2
 have HT:Hid (kr L→qa2 o→v=true):=fun h h2=>by rw[←hv];exact qx ⟨h,h2⟩
 have HV0:Hid (∀k (hk:k<L.length),¬qmf L[k]→v=false):=fun k hk h0=>by rw[←hv];exact qr fun h1=>h0 (h1.1.2 _ (ql hk))
 have HV1:Hid (¬L.length≤4096→v=false):=fun h0=>by rw[←hv];exact qr fun h1=>h0 h1.1.1
 have hl2:=hd.len
 have hm2:=hd.cap
 rw[jz] at hl2
 clear hv hd
 unfold qa2 at HF HT
 obtain⟨kd,bl,ro,ds⟩:=o
 simp only at *
 generalize ds.length=n at *
 have H:=qa h
 clear h
 go_enter Tryz.func53,Tryz.ntmps53
 by_cases h0:L.length≤4096
 ·
  have i0:¬4096<(L.length:Int):=by omega
  by_cases h1:0≤kd
  ·
   have i1:¬kd<0:=by omega
   by_cases h2:kd≤3
   ·
    have i2:¬3<kd:=by omega
    by_cases h3:1≤bl
    ·
     have i3:¬bl<1:=by omega
     by_cases h4:bl≤64
     ·
      have i4:¬64<bl:=by omega
      by_cases h5:0≤ro
      ·
       have i5:¬ro<0:=by omega
       by_cases h6:ro≤8
       ·
        have i6:¬8<ro:=by omega
        by_cases h7:n≤4096
        ·
         have i7:¬4096<(n:Int):=by omega
         have HT2:Hid (kr L→v=true):=fun hf=>HT.out hf ⟨h1,h2,h3,h4,h5,h6,h7⟩
         clear HT HF
         go_wp2_with fail
         go_loopw [5] (fun i wr=>∃k:Nat,k≤L.length∧i= .int .i64 (k:Int)∧(∀j (hj:j<L.length),j<k→qmf L[j])∧Below w.heap.size w wr) (fun i _=>L.length-(intOf i).toNat)
         case atStart=>exact⟨0,qi _,rfl,fun j hj h0=>by omega,(Below.refl _ _).alloc (qc _) _⟩
         case round =>
          obtain⟨k,hk,rfl,ha,hb⟩:=hrel
          have HA:=qa ha
          have HB:=qa hb
          clear ha hb
          by_cases hlt:k<L.length
          ·
           have ik:(k:Int)<(L.length:Int):=by omega
           obtain⟨b,off,rfl,_,hbl,hc0,hc1⟩:=(H.out.below HB.out (qc _)).get hlt
           have HN:Hid (qmf L[k]→∀j (hj:j<L.length),j<k+1→qmf L[j]):=fun h5 j hj hjk=>by
            by_cases e:j=k
            ·
             subst e;exact h5
            ·
             exact HA.out j hj (by omega)
           have HF:=qa (HV0.out k hlt)
           clear HA
           unfold qmf at HN HF
           generalize L[k].null=nb at *
           generalize L[k].s=s at *
           by_cases h5:s.size≤4096
           ·
            have i5:¬(4096:Int)<(s.size:Int):=by omega
            cases nb with
            | true =>
             by_cases he:s=⟨#[]⟩
             ·
              subst he
              go_wp2_with fail
              go_roundw
              case rel=>exact⟨k+1,by omega,by go_num,HN.out ⟨h5,fun _=>rfl⟩,HB.out⟩
              case measure=>simp[intOf];omega
             ·
              have hne:s.toList.isEmpty=false:=isEmpty_ne he
              have hvf:v=false:=HF.out (fun h=>he (h.2 rfl))
              subst hvf
              go_wp2_with fail
              go_ret
              exact⟨rfl,HB.out⟩
            | false =>
             go_wp2_with fail
             go_roundw
             case rel=>exact⟨k+1,by omega,by go_num,HN.out ⟨h5,fun h=>by cases h⟩,HB.out⟩
             case measure=>simp[intOf];omega
           ·
            have i5:(4096:Int)<(s.size:Int):=by omega
            have hvf:v=false:=HF.out (fun h=>h5 h.1)
            subst hvf
            go_wp2_with fail
            go_ret
            exact⟨rfl,HB.out⟩
          ·
           have ik:¬(k:Int)<(L.length:Int):=by omega
           have hvt:v=true:=HT2.out ⟨h0,fun x hx=>by obtain⟨j,hj,rfl⟩:=zc hx;exact HA.out j hj (by omega)⟩
           subst hvt
           go_wp2_with fail
           go_ret
           exact⟨rfl,HB.out⟩
        ·
         have i7:4096<(n:Int):=by omega
         obtain rfl:v=false:=HF.out (fun h=>h7 h.2.2.2.2.2.2)
         go_wp2_with fail
         go_ret
         exact⟨rfl,(Below.refl _ _).alloc (qc _) _⟩
       ·
        have i6:8<ro:=by omega
        obtain rfl:v=false:=HF.out (fun h=>h6 h.2.2.2.2.2.1)
        go_wp2_with fail
        go_ret
        exact⟨rfl,(Below.refl _ _).alloc (qc _) _⟩
      ·
       have i5:ro<0:=by omega
       obtain rfl:v=false:=HF.out (fun h=>h5 h.2.2.2.2.1)
       go_wp2_with fail
       go_ret
       exact⟨rfl,(Below.refl _ _).alloc (qc _) _⟩
     ·
      have i4:64<bl:=by omega
      obtain rfl:v=false:=HF.out (fun h=>h4 h.2.2.2.1)
      go_wp2_with fail
      go_ret
      exact⟨rfl,(Below.refl _ _).alloc (qc _) _⟩
    ·
     have i3:bl<1:=by omega
     obtain rfl:v=false:=HF.out (fun h=>h3 h.2.2.1)
     go_wp2_with fail
     go_ret
     exact⟨rfl,(Below.refl _ _).alloc (qc _) _⟩
   ·
    have i2:3<kd:=by omega
    obtain rfl:v=false:=HF.out (fun h=>h2 h.2.1)
    go_wp2_with fail
    go_ret
    exact⟨rfl,(Below.refl _ _).alloc (qc _) _⟩
  ·
   have i1:kd<0:=by omega
   obtain rfl:v=false:=HF.out (fun h=>h1 h.1)
   go_wp2_with fail
   go_ret
   exact⟨rfl,(Below.refl _ _).alloc (qc _) _⟩
 ·
  have i0:4096<(L.length:Int):=by omega
  obtain rfl:v=false:=HV1.out h0
  go_wp2_with fail
  go_ret
  exact⟨rfl,(Below.refl _ _).alloc (qc _) _⟩
end Go.Proofs.YtjfecojdagmacaaGreat
