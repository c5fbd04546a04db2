/-
  Lemmas.
-/
import Derived.Test.YtjfecojdagmacaaGreatD10
namespace Go.Proofs.YtjfecojdagmacaaGreat
open Go.RowKit
set_option maxRecDepth 20000
set_option maxHeartbeats 16000000
set_option linter.unusedSimpArgs false
set_option linter.unusedVariables false
theorem ffits_any{w:World}(z:Int):Calls Tryz.prog 196 #[.int .i64 z] w fun r w'=>r= .returned (.bool (decide (1≤z∧z≤64)))∧w=w':=by
 by_cases h0:z<1
 ·
  have hf:decide (1≤z∧z≤64)=false:=qr (by omega)
  have h1:decide (1≤z)=false:=qr (by omega)
  rw[hf]
  go_enter Tryz.func196,Tryz.ntmps196
  go_wp2
  go_ret
  exact⟨rfl,rfl⟩
 ·
  have h1:decide (1≤z)=true:=qx (by omega)
  by_cases h2:z≤64
  ·
   have hf:decide (1≤z∧z≤64)=true:=qx (by omega)
   have h2:decide (z≤64)=true:=qx h2
   rw[hf]
   go_enter Tryz.func196,Tryz.ntmps196
   go_wp2
   go_ret
   exact⟨rfl,rfl⟩
  ·
   have hf:decide (1≤z∧z≤64)=false:=qr (by omega)
   have h2:decide (z≤64)=false:=qr h2
   rw[hf]
   go_enter Tryz.func196,Tryz.ntmps196
   go_wp2
   go_ret
   exact⟨rfl,rfl⟩
theorem alike_any{w:World}(a b:ByteArray)(ha:a.size≤1000000000)(hb:b.size≤1000000000) :
  Calls Tryz.prog 238 #[.string a,.string b] w fun r w'=>r= .returned (.int .i64 (xl a.data.toList b.data.toList:Int))∧∃m,w'=w.drewN m:=by
 obtain⟨v,hv⟩:∃v,xl a.data.toList b.data.toList=v:=⟨_,rfl⟩
 rw[hv]
 have hsa:=qhn a
 have hsb:=qhn b
 have HAT:Hid (∀k (h1:k<a.size) (h2:k<b.size),a.data.toList.take k=b.data.toList.take k→a[k]≠b[k]→(k:Int)=(v:Int)):=fun k h1 h2 ht hne=>by
  rw[←hv,qi9 (n:=k) (by omega) (by omega) ht (fun _ _=>hne)]
 have HNX:Hid (∀k (h1:k<a.size) (h2:k<b.size),a.data.toList.take k=b.data.toList.take k→a[k]=b[k]→a.data.toList.take (k+1)=b.data.toList.take (k+1)):=fun k h1 h2 ht he=>by
  rw[qj (by omega),qj (by omega),ht]
  have he':a.data.toList[k]'(by omega)=b.data.toList[k]'(by omega):=he
  rw[he']
 obtain⟨n,hn⟩:∃n,min a.size b.size=n:=⟨_,rfl⟩
 have HEND:Hid (a.data.toList.take n=b.data.toList.take n→(n:Int)=(v:Int)):=fun ht=>by
  rw[←hv,qi9 (n:=n) (by omega) (by omega) ht (fun _ _=>by omega)]
 have hna:n≤a.size:=by omega
 have hnb:n≤b.size:=by omega
 have hmin:min (a.size:Int) (b.size:Int)=(n:Int):=by omega
 clear hv hsa hsb hn
 go_enter Tryz.func238,Tryz.ntmps238
 go_wp2_with fail
 clear hmin
 go_loopw [13] (fun i wr=>∃k m:Nat,k≤n∧i= .int .i64 (k:Int)∧a.data.toList.take k=b.data.toList.take k∧wr=w.drewN m) (fun i _=>n-(intOf i).toNat)
 case atStart=>exact⟨0,0,by omega,rfl,by simp,rfl⟩
 case round =>
  obtain⟨k,m,hkn,rfl,ht,rfl⟩:=hrel
  have HT:=qa ht
  clear ht
  by_cases hl:k<n
  ·
   have i0:(k:Int)<(n:Int):=by omega
   have h1:k<a.size:=by omega
   have h2:k<b.size:=by omega
   have i1:(k:Int)<(a.size:Int):=by omega
   have i2:(k:Int)<(b.size:Int):=by omega
   have HA:=qa (HAT.out k h1 h2 HT.out)
   have HN:=qa (HNX.out k h1 h2 HT.out)
   clear HAT HNX
   by_cases h3:a[k].toNat=b[k].toNat
   ·
    have he:=qbd.1 h3
    go_wp2_with fail
    go_quiet (fail)
    go_wp2_with fail
    go_roundw
    case rel=>exact⟨k+1,_,by omega,by go_num,HN.out he,by first | rfl | (rw[zt])⟩
    case measure=>simp[intOf];omega
   ·
    have h4:¬(a[k].toNat:Int)=(b[k].toNat:Int):=by omega
    have h5:((a[k].toNat:Int)==(b[k].toNat:Int))=false:=by rw[q9];exact h4
    go_wp2_with fail
    go_quiet (fail)
    go_wp2_with fail
    go_ret
    exact⟨qai (HA.out (fun e=>h3 (by rw[e]))),m+nq,zt _ _ _⟩
  ·
   obtain rfl:k=n:=by omega
   go_wp2_with fail
   go_ret
   exact⟨qai (HEND.out HT.out),_,rfl⟩
theorem foll_nil(s:List UInt8):qew [] s=decide (s.length≤4096):=by simp[qew]
theorem foll_at{l:List ByteArray}{j:Nat}(hj:l.length=j+1)(s:ByteArray):qew (qm l) s.data.toList=(decide (s.size≤4096)&&decide (yl (l[j]'(by omega)).data.toList s.data.toList<0)):=by
 unfold qew
 rw[qhn,qv,qr (p:=l.length=0) (by omega),Bool.false_or]
 have h1:(qm l).getLastD []=(l[j]'(by omega)).data.toList:=by
  rw[List.getLastD_eq_getLast?,List.getLast?_eq_getElem?,qv,show l.length-1=j by omega,qe (by rw[qv];omega),yq l j (by omega)]
  rfl
 rw[h1]
theorem qj3{w:World}(l:List ByteArray)(s:ByteArray){n:Nat}(hn:l.length=n){lo hi c:Nat}{A:Option Addr}(h:Rd w lo hi A c (sv l))(hs:s.size≤9223372036854775807) :
  Calls Tryz.prog 217 #[.slice A n c,.string s] w fun r w'=>r= .returned (.bool (qew (qm l) s.data.toList))∧w=w':=by
 have hl:=h.len
 have hm:=h.cap
 rw[j7] at hl
 unfold maxLen at hm
 by_cases h4:s.size≤4096
 ·
  have i4:(s.size:Int)≤4096:=by omega
  have d4:decide ((s.size:Int)≤4096)=true:=qx i4
  rcases jr n with rfl | hp
  ·
   obtain rfl:l=[]:=zh hn
   have hv:qew (qm []) s.data.toList=true:=by
    rw[show qm []=[] from rfl,foll_nil,qhn]
    exact qx h4
   rw[hv]
   clear hn
   go_enter Tryz.func217,Tryz.ntmps217
   go_wp2
   go_ret
   exact⟨rfl,rfl⟩
  ·
   obtain⟨j,rfl⟩:∃j,n=j+1:=⟨n-1,by omega⟩
   obtain⟨b,off,rfl,_,_,hcell⟩:=h.str (k:=j) (by omega)
   rw[foll_at hn s,qx h4,qe2]
   have hless:=qjf (l[j]'(by omega)) s
   generalize decide (yl (l[j]'(by omega)).data.toList s.data.toList<0)=v at *
   generalize l[j]'(by omega)=x at *
   have hw1:IntKind.i64.wrap (j:Int)=(j:Int):=jf _ (by omega)
   have b0:(((j:Int)+1)==0)=false:=by rw[q9];omega
   have n0:¬((j:Int)+1)=0:=by omega
   clear h hn
   go_enter Tryz.func217,Tryz.ntmps217
   go_wp2
   go_ret
   exact⟨rfl,rfl⟩
 ·
  have hv:qew (qm l) s.data.toList=false:=by
   unfold qew
   rw[qhn,qr h4,Bool.false_and]
  rw[hv]
  have i4:¬(s.size:Int)≤4096:=by omega
  have d4:decide ((s.size:Int)≤4096)=false:=qr i4
  clear hn
  go_enter Tryz.func217,Tryz.ntmps217
  go_wp2
  go_ret
  exact⟨rfl,rfl⟩
theorem qor(bs:List UInt8)(k:Nat)(e:Int):(qf8 bs k e).1.length≤4096:=by
 have h:=qc5 bs k e 4096
 rw[show(jw bs k e 4096).1=(uz bs k e 4096).1 from rfl] at h
 unfold qf8 jo
 repeat' split
 all_goals simp only[j4,qz,vr]
 all_goals omega
theorem orForm_fail(e:Int):(if e=0 then (3:Int) else e)=xd e:=rfl
theorem next_le(bs:List UInt8)(k:Nat)(e:Int)(last:List UInt8):(jw bs k e last.length).1≤last.length:=by
 have h:=qc5 bs k e (last.length:Int)
 omega
theorem fnext_any{w:World}{lo g k:Nat}{bs:List UInt8}{e:Int}(h:vx w lo g bs k e)(last:ByteArray)(hl:last.size≤100000000) :
  Calls Tryz.prog 216 #[cp g,.string last] w fun r w'=>∃x:ByteArray,r= .returned (.string x)∧x.data.toList=(qg7 bs k e last.data.toList).1∧
   vx w' lo g bs (qg7 bs k e last.data.toList).2.1 (qg7 bs k e last.data.toList).2.2∧w.grownBy w' (some g):=by
 have HM:=qa (qeu (last.size:Int) h)
 have hn:=next_le bs k e last.data.toList
 have HX:Hid (qg7 bs k e last.data.toList=qg7 bs k e last.data.toList):=rfl
 obtain⟨N,hN⟩:∃N,qg7 bs k e last.data.toList=N:=⟨_,rfl⟩
 rw[hN]
 unfold qg7 at hN
 simp only[qhn] at hN hn
 generalize jw bs k e (last.size:Int)=R at *
 obtain⟨n,k1,e1⟩:=R
 dsimp only at HM hn hN
 have HT:=qa (fun w (h:vx w lo g bs k1 e1)=>text_any h)
 have htl:=qor bs k1 e1
 generalize qf8 bs k1 e1=T at *
 obtain⟨t,k2,e2⟩:=T
 dsimp only at HT htl hN
 obtain⟨x,hx⟩:∃x:ByteArray,(⟨t.toArray⟩:ByteArray)=x:=⟨_,rfl⟩
 have hxs:x.size≤4096:=by
  have h1:x.data.toList=t:=by rw[←hx]
  rw[←qhn,h1]
  exact htl
 obtain⟨s,hs⟩:∃s:ByteArray,last.extract 0 n++x=s:=⟨_,rfl⟩
 have hsd:s.data.toList=last.data.toList.take n++t:=by
  rw[←hs,←hx,ByteArray.data_append,Array.toList_append,qdq,qen]
  simp[qcd]
 rw[hx] at HT
 have hmin:min n last.size=n:=by omega
 have hcat:¬9223372036854775807<n+x.size:=by omega
 clear hx
 have hss:s.size≤1000000000:=by
  have:=congrArg List.length hsd
  rw[qhn,qd,qz] at this
  omega
 rw[←hsd] at hN
 have HAL:=qa (fun w=>alike_any (w:=w) last s (by omega) hss)
 have HSD:=qa hsd
 obtain⟨q,hq⟩:∃q,xl last.data.toList s.data.toList=q:=⟨_,rfl⟩
 rw[hq] at HAL hN
 have HNN:=qa hN
 clear hsd hq hN htl h HX
 unfold cp at *
 go_enter Tryz.func216,Tryz.ntmps216
 go_wp2_with fail
 refine HM.out.mono ?_
 rintro r w1 ⟨rfl,hc1,hg1⟩
 have HC1:=qa hc1
 have HG1:=qa hg1
 clear hc1 hg1 HM
 go_wp2_with fail
 go_region_held3 (fun _=>True) (trivial) (first
  | (go_at_call 215;refine(HT.out _ (HC1.out.drewN 1)).mono ?_;rintro r w2 ⟨rfl,hc2,hg2⟩;have HC2:=qa hc2;have HG2:Hid (w.grownBy w2 (some g)):=(qb0 HG1.out 1).trans hg2;clear hc2 hg2))
 go_wp2_with fail
 refine(HAL.out _).mono ?_
 rintro r w3 ⟨rfl,m,rfl⟩
 have HC3:=qa (HC2.out.drewN m)
 have HG3:=qa (qb0 HG2.out m)
 clear HC2 HG2 HC1 HG1 HAL hcat hmin
 by_cases hqn:q=n
 ·
  subst hqn
  have hfin:(s.data.toList,k2,e2)=N:=by have:=HNN.out;rw[if_pos rfl] at this;exact this
  subst hfin
  go_wp2_with fail
  go_ret
  exact⟨s,rfl,rfl,HC3.out,HG3.out⟩
 ·
  have hfin:(s.data.toList,k2,xd e2)=N:=by have:=HNN.out;rw[if_neg hqn] at this;exact this
  subst hfin
  have b1:((q:Int)==(n:Int))=false:=by rw[q9];omega
  have i1:¬(q:Int)=(n:Int):=by omega
  go_wp2_with fail
  refine(ua 3 HC3.out).mono ?_
  rintro r w4 ⟨rfl,hc4,hg4⟩
  have HC4:=qa hc4
  have HG4:=qa (HG3.out.trans hg4)
  clear hc4 hg4
  go_wp2_with fail
  go_ret
  exact⟨s,rfl,rfl,HC4.out,HG4.out⟩
def Dc(w:World)(d:Nat)(ys:List ByteArray):Prop :=
 ∃A c,yy w d 243 #[.slice A ys.length c]∧w.ownsRow (d+1) 9 1 (.slice A ys.length c) ys.length (sv ys)
section
variable {w w':World}{d g:Nat}{ys:List ByteArray}
theorem Dc.lt(h:Dc w d ys):d<w.heap.size:=by obtain⟨A,c,hb,_⟩:=h;exact hb.lt
theorem Dc.cur(h:Dc w d ys)(hg:w.grownBy w' (some g))(hgd:g<d):Dc w' d ys:=by
 obtain⟨A,c,hb,ho⟩:=h
 exact⟨A,c,hb.grown hg (fun e=>by injection e with e;omega),jv ho (fun k hk=>hg.block k (zk ho hk).2 (fun e=>by injection e with e;have:=(zk ho hk).1;omega))⟩
theorem Dc.drewN(h:Dc w d ys)(m:Nat):Dc (w.drewN m) d ys:=by
 obtain⟨A,c,hb,ho⟩:=h
 exact⟨A,c,hb,jv ho (fun _ _=>rfl)⟩
theorem Dc.below{B:Nat}(h:Dc w d ys)(hb:Below B w w')(hB:w.heap.size≤B):Dc w' d ys:=by
 obtain⟨A,c,hbk,ho⟩:=h
 exact⟨A,c,hbk.below hb (by have:=hbk.lt;omega),jp ho hb hB⟩
theorem Dc.open_(h:Dc w d ys):∃A c,w.cell? ⟨d,0,none⟩=some (.slice A ys.length c)∧w.frozen? ⟨d,0,none⟩=false∧Rd w (d+1) w.heap.size A c (sv ys):=by
 obtain⟨A,c,hb,ho⟩:=h
 refine⟨A,c,?_,hb.frozen 0,Rd.of_own ho⟩
 have:=hb.cell 0
 simpa using this
theorem Dc.push{A:Option Addr}{c:Nat}(h:Dc w d ys)(hc:w.cell? ⟨d,0,none⟩=some (.slice A ys.length c))(s:ByteArray)(hl:ys.length≤10000000) :
  ∃A' c' w2,(Builtin.append_ #[52,52] 52 #[.slice A ys.length c,.slice (some ⟨w.heap.size,0,none⟩) 1 1]).run Tryz.prog (w.alloc (.cells #[.string s] 9))= .ok (.slice A' (ys.length+1) c') w2∧
   w2.cell? ⟨d,0,none⟩=some (.slice A ys.length c)∧w2.frozen? ⟨d,0,none⟩=false∧Dc (w2.setCell ⟨d,0,none⟩ (.slice A' (ys.length+1) c')) d (ys++[s])∧Below d w (w2.setCell ⟨d,0,none⟩ (.slice A' (ys.length+1) c')):=by
 obtain⟨A0,c0,hb,ho⟩:=h
 have h0:=hb.cell 0
 simp only[hc] at h0
 have hA:A0=A∧c0=c:=by
  have:Value.slice A ys.length c=Value.slice A0 ys.length c0:=by simpa using h0
  injection this with h1 h2 h3
  exact⟨h1.symm,h3.symm⟩
 obtain⟨rfl,rfl⟩:=hA
 have hsz:=hb.lt
 have hr:Rd (w.alloc (.cells #[.string s] 9)) 0 (w.alloc (.cells #[.string s] 9)).heap.size (some ⟨w.heap.size,0,none⟩) 1 (sv [s]):=by
  have hcell:(w.alloc (.cells #[.string s] 9)).cell? ⟨w.heap.size,0,none⟩=some (.string s):=by rw[zg _ _ _ _ rfl];rfl
  refine⟨by simp[sv],by simp[maxLen],fun _=>⟨w.heap.size,0,rfl,qi _,by simp,fun j u hu => ?_⟩⟩
  match j,hu with
  | 0,hu =>
   simp[sv] at hu
   subst hu
   exact hcell
  | j+1,hu=>simp[sv] at hu
 obtain⟨A',c',w2,hrun,hown,hg⟩:=qiv (w.alloc (.cells #[.string s] 9)) (d+1) _ ys [s] (ys++[s]) rfl (ho.alloc (.cells #[.string s] 9)) hr (by simp;omega) (by simp;omega)
 have hlen:(ys++[s]).length=ys.length+1:=by simp
 rw[hlen] at hrun hown
 have hrow:∀q,(Value.slice A0 ys.length c0).ownBlock=some q→d+1≤q:=fun q hq=>(zk ho hq).1
 have hbd:yy w2 d 243 #[.slice A0 ys.length c0]:=(hb.alloc _).grown hg (fun e=>by have:=hrow d e.symm;omega)
 have hbe:Below d w w2:=((Below.refl d w).alloc (by omega) _).grown hg (by simp;omega) (fun q hq=>by have:=hrow q hq;omega)
 refine⟨A',c',w2,hrun,by have:=hbd.cell 0;simpa using this,hbd.frozen 0,⟨A',c',?_,?_⟩,hbe.setCell (p:=⟨d,0,none⟩) (qc _) _⟩
 ·
  rw[hlen]
  exact hbd.put 0 _
 ·
  rw[hlen]
  exact jv hown (fun k hk=>Below.heap_setCell _ _ _ _ (by have:=(zk hown hk).1;show k≠d;omega))
end
theorem entR_len(f:Bool)(bs:List UInt8)(k:Nat)(e:Int)(last:List UInt8):(qo7 f bs k e last).1.length≤last.length+4096:=by
 unfold qo7
 split
 ·
  have:=qor bs k e;omega
 ·
  unfold qg7
  simp only[qd,qz]
  have:=qor bs (jw bs k e last.length).2.1 (jw bs k e last.length).2.2
  omega
theorem good_le{l:List (List UInt8)}{s:List UInt8}(h:qew l s=true):s.length≤4096:=by
 unfold qew at h
 rw[yx,decide_eq_true_eq] at h
 exact h.1
theorem ftake_any{w:World}{lo g d k:Nat}{bs:List UInt8}{e:Int}{ys:List ByteArray}(hc:vx w lo g bs k e)(hd:Dc w d ys)(hgd:g<d)(n size:Nat)(hn:n≤64)(hsz:size≤4294967295)(hyl:ys.length+n≤1000000)(hbs:bs.length≤1000000000000) :
  Calls Tryz.prog 197 #[.pointer (some ⟨d,0,none⟩),cp g,.int .i64 (n:Int),.int .i64 (size:Int)] w fun r w'=>r= .returned (.tuple #[])∧∃ys':List ByteArray,qm ys'=(qgz bs (qm ys) k e n size).1∧ys'.length≤ys.length+n∧
   Dc w' d ys'∧vx w' lo g bs (qgz bs (qm ys) k e n size).2.1 (qgz bs (qm ys) k e n size).2.2∧Out w w' (fun i=>i=g∨d≤i):=by
 have hk:=hc.le
 obtain⟨TT,hTT⟩:∃TT,qgz bs (qm ys) k e n size=TT:=⟨_,rfl⟩
 rw[hTT]
 unfold qgz at hTT
 simp only at hTT
 obtain⟨E,hE⟩:∃E,((bs.length-k:Nat):Int)-(size:Int)=E:=⟨_,rfl⟩
 rw[hE] at hTT
 obtain⟨F,hF⟩:∃F,qf9 bs E n true (qm ys) [] k e=F:=⟨_,rfl⟩
 rw[hF] at hTT
 have HL:=qa (qev hc)
 have HE:Hid (((bs.length-k:Nat):Int)-(size:Int)=E):=hE
 have hEb : -4294967296≤E∧E≤1000000000000:=by omega
 have HC:=qa hc
 have HD:=qa hd
 have HF:=qa hF
 have HTT:=qa hTT
 obtain⟨y0,hy0⟩:∃y0,ys.length=y0:=⟨_,rfl⟩
 have HY0:=qa hy0
 rw[hy0] at hyl
 obtain⟨lf,hlf⟩:∃lf:Nat,bs.length-k=lf:=⟨_,rfl⟩
 rw[hlf] at HE HL
 have hlfb:lf≤1000000000000:=by omega
 have hwE:IntKind.i64.wrap ((lf:Int)-(size:Int))=E:=by rw[HE.out];exact jf _ (by omega)
 have hsub:(lf:Int)-(size:Int)=E:=HE.out
 clear hc hd hE hF hTT hy0 hlf
 unfold cp at *
 go_enter Tryz.func197,Tryz.ntmps197
 go_wp2_with fail
 refine HL.out.mono ?_
 rintro r w1 ⟨rfl,m0,rfl⟩
 go_wp2_with fail
 clear hwE hsub
 go_loopw [9,17] (fun x9 x17 wr=>∃(i k':Nat) (e':Int) (last:ByteArray) (zs:List ByteArray),i≤n∧x17= .int .i64 (i:Int)∧x9= .string last∧last.size≤4096∧zs.length=y0+i∧qf9 bs E (n-i) (decide (i=0)) (qm zs) last.data.toList k' e'=F∧
  Dc wr d zs∧vx wr lo g bs k' e'∧Out w wr (fun i=>i=g∨d≤i)) (fun _ i _=>n-(intOf i).toNat)
 case atStart=>exact⟨0,k,e,⟨#[]⟩,ys,qi _,rfl,rfl,by decide,HY0.out,HF.out,HD.out.drewN _,HC.out.drewN _,(Out.refl _ _).drewN _⟩
 case round =>
  clear HC HD HL HF HE
  obtain⟨i,k',e',last,zs,hi,rfl,rfl,hls,hzl,htf,hdc,hcur,hout⟩:=hrel
  have HZL:=qa hzl
  have HTF:=qa htf
  have HD:=qa hdc
  have HC:=qa hcur
  have HO:=qa hout
  have hk':=hcur.le
  clear hzl htf hdc hcur hout
  by_cases hlt:i<n
  ·
   have ik:(i:Int)<(n:Int):=by omega
   obtain⟨m,hm⟩:∃m,n-i=m+1:=⟨n-i-1,by omega⟩
   have HM:Hid (n-(i+1)=m):=by unfold Hid;omega
   have htf:=HTF.out
   rw[hm,qf9] at htf
   clear HTF hm
   by_cases hi0:i=0
   ·
    have b0:((i:Int)==0)=true:=by rw[beq_iff_eq];omega
    rw[qx hi0] at htf
    have HI0:=qa hi0
    clear hi0
    have hel:=entR_len true bs k' e' last.data.toList
    have HT:=qa (text_any HC.out)
    rw[show qf8 bs k' e'=qo7 true bs k' e' last.data.toList from rfl] at HT
    unfold qg1 at htf
    simp only at htf
    generalize qo7 true bs k' e' last.data.toList=R at *
    obtain⟨s0,k1,e1⟩:=R
    dsimp only at HT hel htf
    obtain⟨s,hs⟩:∃s:ByteArray,(⟨s0.toArray⟩:ByteArray)=s:=⟨_,rfl⟩
    have hsd:s0=s.data.toList:=by rw[←hs]
    rw[hs] at HT
    rw[hsd] at htf hel
    rw[qhn,qhn] at hel
    clear hs hsd
    go_wp2_with fail
    refine HT.out.mono ?_
    rintro r w2 ⟨rfl,hc2,hg2⟩
    have HC2:=qa hc2
    have HD2:=qa (HD.out.cur hg2 hgd)
    have HO2:Hid (Out w w2 (fun i=>i=g∨d≤i)):=HO.out.trans (Out.of_gb (X:=fun i=>i=g∨d≤i) hg2 (fun q hq=>by injection hq with hq;exact Or.inl hq.symm)) (fun _ _ h=>h)
    clear hc2 hg2 HT HC HD HO
    obtain⟨Aq,cq,hcq,hfq,hrq⟩:=HD2.out.open_
    have hzl:=HZL.out
    have HFO:=qa (qj3 zs s hzl hrq (by omega))
    rw[hzl] at hcq
    clear hrq hzl
    have HL2:=qa (qev HC2.out)
    have hgl:=@good_le (qm zs) s.data.toList
    rw[qhn] at hgl
    obtain⟨f1,hf1⟩:∃f1,qew (qm zs) s.data.toList=f1:=⟨_,rfl⟩
    rw[hf1] at HFO htf hgl
    clear hf1
    obtain⟨l1,hl1⟩:∃l1:Nat,bs.length-k1=l1:=⟨_,rfl⟩
    rw[hl1] at HL2 htf
    clear hl1
    have HTF:=qa htf
    clear htf
    cases f1 with
    | false =>
     have htf:=HTF.out
     rw[if_neg (show ¬((false:Bool)=true∧E≤(l1:Int)) from fun h=>by cases h.1),if_neg (xw e1)] at htf
     subst htf
     go_wp2_with fail
     refine HFO.out.mono ?_
     rintro r w' ⟨rfl,rfl⟩
     go_wp2_with fail
     refine(ua 3 HC2.out).mono ?_
     rintro r w3 ⟨rfl,hc3,hg3⟩
     have HC3:Hid (vx w3 lo g bs k1 (xd e1)):=hc3
     have HD3:=qa (HD2.out.cur hg3 hgd)
     have HO3:Hid (Out w w3 (fun i=>i=g∨d≤i)):=HO2.out.trans (Out.of_gb (X:=fun i=>i=g∨d≤i) hg3 (fun q hq=>by injection hq with hq;exact Or.inl hq.symm)) (fun _ _ h=>h)
     have HGD:=qa (xx HC3.out)
     rw[show(xd e1==0)=false from q9.2 (xw e1)] at HGD
     clear hc3 hg3
     go_wp2_with fail
     refine HGD.out.mono ?_
     rintro r w' ⟨rfl,rfl⟩
     go_wp2_with fail
     refine bodyPost_ret (results_none rfl _ _ _) rfl ?_
     have hT:=HTT.out
     simp only[uy (xw e1),ite_self] at hT
     subst hT
     exact⟨rfl,zs,rfl,by rw[HZL.out,HY0.out];omega,HD3.out,HC3.out,HO3.out⟩
    | true =>
     have hs4:=hgl rfl
     clear hgl
     by_cases hE1:E≤(l1:Int)
     ·
      have iE:¬(l1:Int)<E:=by omega
      have dE:decide ((l1:Int)<E)=false:=qr iE
      have htf:=HTF.out
      rw[if_pos (show(true:Bool)=true∧E≤(l1:Int) from ⟨rfl,hE1⟩)] at htf
      by_cases he1:e1=0
      ·
       subst he1
       rw[if_pos rfl] at htf
       have HTF2:=qa htf
       have HGD:=qa (fun m=>xx (HC2.out.drewN m))
       rw[show((0:Int)==0)=true from rfl] at HGD
       clear htf HTF
       go_wp2_with fail
       refine HFO.out.mono ?_
       rintro r w' ⟨rfl,rfl⟩
       go_wp2_with fail
       refine HL2.out.mono ?_
       rintro r w' ⟨rfl,m3,rfl⟩
       go_wp2_with fail
       refine(HGD.out m3).mono ?_
       rintro r w' ⟨rfl,rfl⟩
       have hcq3:(w2.drewN m3).cell? ⟨d,0,none⟩=some (.slice Aq zs.length cq):=by rw[HZL.out];exact hcq
       obtain⟨A5,c5,w5,hrun5,hc5,hf5,hd5,hb5⟩:=(HD2.out.drewN m3).push hcq3 s (by rw[HZL.out];omega)
       rw[HZL.out] at hrun5 hc5 hd5 hb5
       have HD5:=qa hd5
       have HC5:=qa ((HC2.out.drewN m3).behind hb5 hgd)
       have HO5:Hid (Out w (w5.setCell ⟨d,0,none⟩ (.slice A5 (y0+i+1) c5)) (fun i=>i=g∨d≤i)):=(HO2.out.drewN m3).trans (Y:=fun i=>d≤i) ⟨hb5.os,hb5.tape,hb5.output,hb5.size,fun q _ hq2=>hb5.block q (by omega)⟩ (fun _ _ h=>Or.inr h)
       clear hd5 hb5 hcq3 HGD HL2 HFO
       go_wp2_with (at_builtin;refine wpList_append_run rfl _ _ _ _ rfl rfl rfl hrun5 ?_;refine qam ?_)
       refine⟨?_⟩
       clear hrun5
       go_wp2_with fail
       go_roundw
       case rel=>exact⟨i+1,k1,0,s,zs++[s],by omega,by go_num,rfl,hs4,by rw[qd,HZL.out,zy];omega,by rw[HM.out,qr (p:=i+1=0) (by omega),qif];exact HTF2.out,HD5.out,HC5.out,HO5.out⟩
       case measure=>simp[intOf];omega
      ·
       rw[if_neg he1] at htf
       subst htf
       have HGD:=qa (fun m=>xx (HC2.out.drewN m))
       rw[show(e1==0)=false from q9.2 he1] at HGD
       go_wp2_with fail
       refine HFO.out.mono ?_
       rintro r w' ⟨rfl,rfl⟩
       go_wp2_with fail
       refine HL2.out.mono ?_
       rintro r w' ⟨rfl,m3,rfl⟩
       go_wp2_with fail
       refine(HGD.out m3).mono ?_
       rintro r w' ⟨rfl,rfl⟩
       go_wp2_with fail
       refine bodyPost_ret (results_none rfl _ _ _) rfl ?_
       have hT:=HTT.out
       simp only[uy he1,ite_self] at hT
       subst hT
       exact⟨rfl,zs,rfl,by rw[HZL.out,HY0.out];omega,HD2.out.drewN _,HC2.out.drewN _,HO2.out.drewN _⟩
     ·
      have iE:(l1:Int)<E:=by omega
      have dE:decide ((l1:Int)<E)=true:=qx iE
      have htf:=HTF.out
      rw[if_neg (show ¬((true:Bool)=true∧E≤(l1:Int)) from fun h=>hE1 h.2),if_neg (xw e1)] at htf
      subst htf
      go_wp2_with fail
      refine HFO.out.mono ?_
      rintro r w' ⟨rfl,rfl⟩
      go_wp2_with fail
      refine HL2.out.mono ?_
      rintro r w' ⟨rfl,m3,rfl⟩
      go_wp2_with fail
      refine(ua 3 (HC2.out.drewN m3)).mono ?_
      rintro r w3 ⟨rfl,hc3,hg3⟩
      have HC3:Hid (vx w3 lo g bs k1 (xd e1)):=hc3
      have HD3:=qa ((HD2.out.drewN m3).cur hg3 hgd)
      have HO3:Hid (Out w w3 (fun i=>i=g∨d≤i)):=(HO2.out.drewN m3).trans (Out.of_gb (X:=fun i=>i=g∨d≤i) hg3 (fun q hq=>by injection hq with hq;exact Or.inl hq.symm)) (fun _ _ h=>h)
      have HGD:=qa (xx HC3.out)
      rw[show(xd e1==0)=false from q9.2 (xw e1)] at HGD
      clear hc3 hg3
      go_wp2_with fail
      refine HGD.out.mono ?_
      rintro r w' ⟨rfl,rfl⟩
      go_wp2_with fail
      refine bodyPost_ret (results_none rfl _ _ _) rfl ?_
      have hT:=HTT.out
      simp only[uy (xw e1),ite_self] at hT
      subst hT
      exact⟨rfl,zs,rfl,by rw[HZL.out,HY0.out];omega,HD3.out,HC3.out,HO3.out⟩
   ·
    have i0:¬(i:Int)=0:=by omega
    have b0:((i:Int)==0)=false:=by rw[q9];exact i0
    rw[qr hi0] at htf
    have hel:=entR_len false bs k' e' last.data.toList
    have HT:=qa (fnext_any HC.out last (by omega))
    rw[show qg7 bs k' e' last.data.toList=qo7 false bs k' e' last.data.toList from rfl] at HT
    unfold qg1 at htf
    simp only at htf
    generalize qo7 false bs k' e' last.data.toList=R at *
    obtain⟨s0,k1,e1⟩:=R
    dsimp only at HT hel htf
    go_wp2_with fail
    refine HT.out.mono ?_
    rintro r w2 ⟨s,rfl,hsd,hc2,hg2⟩
    rw[←hsd] at htf hel
    rw[qhn,qhn] at hel
    clear hsd
    have HC2:=qa hc2
    have HD2:=qa (HD.out.cur hg2 hgd)
    have HO2:Hid (Out w w2 (fun i=>i=g∨d≤i)):=HO.out.trans (Out.of_gb (X:=fun i=>i=g∨d≤i) hg2 (fun q hq=>by injection hq with hq;exact Or.inl hq.symm)) (fun _ _ h=>h)
    clear hc2 hg2 HT HC HD HO
    obtain⟨Aq,cq,hcq,hfq,hrq⟩:=HD2.out.open_
    have hzl:=HZL.out
    have HFO:=qa (qj3 zs s hzl hrq (by omega))
    rw[hzl] at hcq
    clear hrq hzl
    have HL2:=qa (qev HC2.out)
    have hgl:=@good_le (qm zs) s.data.toList
    rw[qhn] at hgl
    obtain⟨f1,hf1⟩:∃f1,qew (qm zs) s.data.toList=f1:=⟨_,rfl⟩
    rw[hf1] at HFO htf hgl
    clear hf1
    obtain⟨l1,hl1⟩:∃l1:Nat,bs.length-k1=l1:=⟨_,rfl⟩
    rw[hl1] at HL2 htf
    clear hl1
    have HTF:=qa htf
    clear htf
    cases f1 with
    | false =>
     have htf:=HTF.out
     rw[if_neg (show ¬((false:Bool)=true∧E≤(l1:Int)) from fun h=>by cases h.1),if_neg (xw e1)] at htf
     subst htf
     go_wp2_with fail
     refine HFO.out.mono ?_
     rintro r w' ⟨rfl,rfl⟩
     go_wp2_with fail
     refine(ua 3 HC2.out).mono ?_
     rintro r w3 ⟨rfl,hc3,hg3⟩
     have HC3:Hid (vx w3 lo g bs k1 (xd e1)):=hc3
     have HD3:=qa (HD2.out.cur hg3 hgd)
     have HO3:Hid (Out w w3 (fun i=>i=g∨d≤i)):=HO2.out.trans (Out.of_gb (X:=fun i=>i=g∨d≤i) hg3 (fun q hq=>by injection hq with hq;exact Or.inl hq.symm)) (fun _ _ h=>h)
     have HGD:=qa (xx HC3.out)
     rw[show(xd e1==0)=false from q9.2 (xw e1)] at HGD
     clear hc3 hg3
     go_wp2_with fail
     refine HGD.out.mono ?_
     rintro r w' ⟨rfl,rfl⟩
     go_wp2_with fail
     refine bodyPost_ret (results_none rfl _ _ _) rfl ?_
     have hT:=HTT.out
     simp only[uy (xw e1),ite_self] at hT
     subst hT
     exact⟨rfl,zs,rfl,by rw[HZL.out,HY0.out];omega,HD3.out,HC3.out,HO3.out⟩
    | true =>
     have hs4:=hgl rfl
     clear hgl
     by_cases hE1:E≤(l1:Int)
     ·
      have iE:¬(l1:Int)<E:=by omega
      have dE:decide ((l1:Int)<E)=false:=qr iE
      have htf:=HTF.out
      rw[if_pos (show(true:Bool)=true∧E≤(l1:Int) from ⟨rfl,hE1⟩)] at htf
      by_cases he1:e1=0
      ·
       subst he1
       rw[if_pos rfl] at htf
       have HTF2:=qa htf
       have HGD:=qa (fun m=>xx (HC2.out.drewN m))
       rw[show((0:Int)==0)=true from rfl] at HGD
       clear htf HTF
       go_wp2_with fail
       refine HFO.out.mono ?_
       rintro r w' ⟨rfl,rfl⟩
       go_wp2_with fail
       refine HL2.out.mono ?_
       rintro r w' ⟨rfl,m3,rfl⟩
       go_wp2_with fail
       refine(HGD.out m3).mono ?_
       rintro r w' ⟨rfl,rfl⟩
       have hcq3:(w2.drewN m3).cell? ⟨d,0,none⟩=some (.slice Aq zs.length cq):=by rw[HZL.out];exact hcq
       obtain⟨A5,c5,w5,hrun5,hc5,hf5,hd5,hb5⟩:=(HD2.out.drewN m3).push hcq3 s (by rw[HZL.out];omega)
       rw[HZL.out] at hrun5 hc5 hd5 hb5
       have HD5:=qa hd5
       have HC5:=qa ((HC2.out.drewN m3).behind hb5 hgd)
       have HO5:Hid (Out w (w5.setCell ⟨d,0,none⟩ (.slice A5 (y0+i+1) c5)) (fun i=>i=g∨d≤i)):=(HO2.out.drewN m3).trans (Y:=fun i=>d≤i) ⟨hb5.os,hb5.tape,hb5.output,hb5.size,fun q _ hq2=>hb5.block q (by omega)⟩ (fun _ _ h=>Or.inr h)
       clear hd5 hb5 hcq3 HGD HL2 HFO
       go_wp2_with (at_builtin;refine wpList_append_run rfl _ _ _ _ rfl rfl rfl hrun5 ?_;refine qam ?_)
       refine⟨?_⟩
       clear hrun5
       go_wp2_with fail
       go_roundw
       case rel=>exact⟨i+1,k1,0,s,zs++[s],by omega,by go_num,rfl,hs4,by rw[qd,HZL.out,zy];omega,by rw[HM.out,qr (p:=i+1=0) (by omega),qif];exact HTF2.out,HD5.out,HC5.out,HO5.out⟩
       case measure=>simp[intOf];omega
      ·
       rw[if_neg he1] at htf
       subst htf
       have HGD:=qa (fun m=>xx (HC2.out.drewN m))
       rw[show(e1==0)=false from q9.2 he1] at HGD
       go_wp2_with fail
       refine HFO.out.mono ?_
       rintro r w' ⟨rfl,rfl⟩
       go_wp2_with fail
       refine HL2.out.mono ?_
       rintro r w' ⟨rfl,m3,rfl⟩
       go_wp2_with fail
       refine(HGD.out m3).mono ?_
       rintro r w' ⟨rfl,rfl⟩
       go_wp2_with fail
       refine bodyPost_ret (results_none rfl _ _ _) rfl ?_
       have hT:=HTT.out
       simp only[uy he1,ite_self] at hT
       subst hT
       exact⟨rfl,zs,rfl,by rw[HZL.out,HY0.out];omega,HD2.out.drewN _,HC2.out.drewN _,HO2.out.drewN _⟩
     ·
      have iE:(l1:Int)<E:=by omega
      have dE:decide ((l1:Int)<E)=true:=qx iE
      have htf:=HTF.out
      rw[if_neg (show ¬((true:Bool)=true∧E≤(l1:Int)) from fun h=>hE1 h.2),if_neg (xw e1)] at htf
      subst htf
      go_wp2_with fail
      refine HFO.out.mono ?_
      rintro r w' ⟨rfl,rfl⟩
      go_wp2_with fail
      refine HL2.out.mono ?_
      rintro r w' ⟨rfl,m3,rfl⟩
      go_wp2_with fail
      refine(ua 3 (HC2.out.drewN m3)).mono ?_
      rintro r w3 ⟨rfl,hc3,hg3⟩
      have HC3:Hid (vx w3 lo g bs k1 (xd e1)):=hc3
      have HD3:=qa ((HD2.out.drewN m3).cur hg3 hgd)
      have HO3:Hid (Out w w3 (fun i=>i=g∨d≤i)):=(HO2.out.drewN m3).trans (Out.of_gb (X:=fun i=>i=g∨d≤i) hg3 (fun q hq=>by injection hq with hq;exact Or.inl hq.symm)) (fun _ _ h=>h)
      have HGD:=qa (xx HC3.out)
      rw[show(xd e1==0)=false from q9.2 (xw e1)] at HGD
      clear hc3 hg3
      go_wp2_with fail
      refine HGD.out.mono ?_
      rintro r w' ⟨rfl,rfl⟩
      go_wp2_with fail
      refine bodyPost_ret (results_none rfl _ _ _) rfl ?_
      have hT:=HTT.out
      simp only[uy (xw e1),ite_self] at hT
      subst hT
      exact⟨rfl,zs,rfl,by rw[HZL.out,HY0.out];omega,HD3.out,HC3.out,HO3.out⟩
  ·
   have ik:¬(i:Int)<(n:Int):=by omega
   have hin:n-i=0:=by omega
   have htf:=HTF.out
   rw[hin,qf9] at htf
   subst htf
   have HLF:=qa (qev HC.out)
   obtain⟨l1,hl1⟩:∃l1:Nat,bs.length-k'=l1:=⟨_,rfl⟩
   have hT:=HTT.out
   dsimp only at hT
   rw[hl1] at HLF hT
   clear hl1 hin HTF
   by_cases hle:(l1:Int)=E
   ·
    rw[if_pos hle] at hT
    subst hT
    have bl:((l1:Int)==E)=true:=by rw[beq_iff_eq];exact hle
    go_wp2_with fail
    refine HLF.out.mono ?_
    rintro r w' ⟨rfl,m3,rfl⟩
    go_wp2_with fail
    go_end0
    exact⟨rfl,zs,rfl,by rw[HZL.out,HY0.out];omega,HD.out.drewN _,HC.out.drewN _,HO.out.drewN _⟩
   ·
    rw[if_neg hle] at hT
    subst hT
    have bl:((l1:Int)==E)=false:=by rw[q9];exact hle
    go_wp2_with fail
    refine HLF.out.mono ?_
    rintro r w' ⟨rfl,m3,rfl⟩
    go_wp2_with fail
    refine(ua 3 (HC.out.drewN m3)).mono ?_
    rintro r w3 ⟨rfl,hc3,hg3⟩
    have HC3:=qa hc3
    have HD3:=qa ((HD.out.drewN m3).cur hg3 hgd)
    have HO3:Hid (Out w w3 (fun i=>i=g∨d≤i)):=(HO.out.drewN m3).trans (Out.of_gb (X:=fun i=>i=g∨d≤i) hg3 (fun q hq=>by injection hq with hq;exact Or.inl hq.symm)) (fun _ _ h=>h)
    clear hc3 hg3
    go_wp2_with fail
    go_end0
    exact⟨rfl,zs,rfl,by rw[HZL.out,HY0.out];omega,HD3.out,HC3.out,HO3.out⟩
end Go.Proofs.YtjfecojdagmacaaGreat
