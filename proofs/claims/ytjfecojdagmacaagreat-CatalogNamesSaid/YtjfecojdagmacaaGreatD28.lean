/-
  Lemmas.
-/
import Derived.Test.YtjfecojdagmacaaGreatD06
import Derived.Test.YtjfecojdagmacaaGreatD27
namespace Go.Proofs.YtjfecojdagmacaaGreat
open Go.RowKit
set_option maxRecDepth 20000
set_option maxHeartbeats 16000000
set_option linter.unusedSimpArgs false
set_option linter.unusedVariables false
section
open Go.RowKit Go.ChangeShapes Go.WideShapes Go.ChangeAt
variable {H:Type}{enc:TypeId×Value→H}{P:Program}{W:World}
theorem open_els{t e:TypeId}{fuel k:Nat}{cs:List Value}{x:DataW H×List MemPlace}(ht:P.underlying t=some (.slice e))(hk:P.cellsOf e=k)(h0:0<k)
  (h:DataW.trod enc P W 0 (fun _=>true) true fuel t cs=some x) :
  ∃(A:Option Addr) (c:Nat) (css:List (List Value)) (m:Nat),m<fuel∧cs=[.slice A css.length c]∧Els W 0 W.heap.size A c k css.length (fun j i=>(css[j]?).bind (·[i]?))∧
   ∀j (hj:j<css.length),css[j].length=k∧∃y,DataW.trod enc P W 0 (fun _=>true) true m e css[j]=some y:=by
 rcases DataW.trod_slice ht h with ⟨rfl,_⟩ | ⟨a,len,cap,elems,rest,n,rfl,rfl,_,hb,hl,hm,hlen,hel,_,_⟩
 ·
  refine⟨none,0,[],0,?_,rfl,Els.nil _ _ _ _ _,fun j hj=>absurd hj (ja j)⟩
  cases fuel with
  | zero=>simp[DataW.trod] at h
  | succ n=>omega
 ·
  have hex:∀i,i<len→∃cs',W.cells? 0 (a.add (i*k)) k=some cs'∧∃y,DataW.trod enc P W 0 (fun _=>true) true n e cs'=some y:=fun i hi=>by
   have h1:=hel i hi
   rw[hk] at h1
   have h2:elems[i]? = some elems[i]:=qe (by omega)
   rw[h2,qan] at h1
   obtain⟨cs',h3,h4⟩:=h1
   exact⟨cs',h3,_,h4⟩
  obtain⟨css,hcl,hcs⟩:=qfp hex
  subst hcl
  refine⟨some a,cap,css,n,qbk n,rfl,⟨hl,hm,fun hp => ?_⟩,fun j hj=>⟨(World.cells?_some (hcs j hj).1).2.1,(hcs j hj).2⟩⟩
  have hfirst:∃u,W.cell? a=some u:=by
   obtain⟨_,h2,h3⟩:=World.cells?_some (hcs 0 hp).1
   have h4:=h3 0 h0
   rw[Nat.zero_mul,show(a.add 0).add 0=a from rfl,qe (by omega)] at h4
   exact⟨_,h4⟩
  obtain⟨u,hu⟩:=hfirst
  obtain⟨b,off,spot⟩:=a
  have hspot:spot=none:=World.cell?_spot hu
  subst hspot
  have hlt:b<W.heap.size:=ya W _ hu
  have hadd:∀d,(⟨b,off,none⟩:Addr).add d=⟨b,off+d,none⟩:=fun d=>by unfold Addr.add;by_cases h:d=0 <;> simp[h]
  have hadd2:∀o d,(⟨b,o,none⟩:Addr).add d=⟨b,o+d,none⟩:=fun o d=>by unfold Addr.add;by_cases h:d=0 <;> simp[h]
  refine⟨b,off,rfl,qi _,hlt,fun j hj i hi => ?_⟩
  obtain⟨_,h2,h3⟩:=World.cells?_some (hcs j hj).1
  have h4:=h3 i hi
  rw[hadd2,hadd2] at h4
  rw[h4,qe hj]
  rfl
end
theorem cmpL_zero_iff{a b:List UInt8}:yl a b=0↔a=b:=⟨qbq,fun h=>by rw[h,qcy]⟩
theorem cmpL_three(a b:List UInt8):yl a b = -1∨yl a b=0∨yl a b=1:=by
 induction a generalizing b with
 | nil=>cases b <;> simp[yl]
 | cons x a ih =>
  cases b with
  | nil=>simp[yl]
  | cons y b =>
   unfold yl
   split
   ·
    simp
   ·
    split
    ·
     simp
    ·
     exact ih b
theorem cmpL_take:∀(k:Nat) (a b:List UInt8),a.take k≠b.take k→yl (a.take k) (b.take k)=yl a b
 | 0,a,b,h=>absurd (by simp) h
 | k+1,[],[],h=>absurd rfl h
 | k+1,[],_ :: _,_=>by simp[yl]
 | k+1,_ :: _,[],_=>by simp[yl]
 | k+1,x :: a,y :: b,h=>by
  simp only[j8,yl]
  by_cases h1:x.toNat<y.toNat
  ·
   rw[if_pos h1,if_pos h1]
  ·
   by_cases h2:y.toNat<x.toNat
   ·
    rw[if_neg h1,if_neg h1,if_pos h2,if_pos h2]
   ·
    rw[if_neg h1,if_neg h1,if_neg h2,if_neg h2]
    have hx:x=y:=qbd.1 (by omega)
    exact cmpL_take k a b (fun e=>h (by simp[hx,e]))
theorem cmpL_drop{k:Nat}{a b:List UInt8}(h:a.take k=b.take k):yl (a.drop k) (b.drop k)=yl a b:=by
 have h1:=qnk (a.take k) (a.drop k) (b.drop k)
 rw[zx] at h1
 rw[←h1,h,zx]
theorem cmpL_at{k:Nat}{a b:List UInt8}(h:a.take k=b.take k)(ha:k<a.length)(hb:k<b.length)(hne:a[k]≠b[k]):yl a b=if a[k].toNat<b[k].toNat then -1 else 1:=by
 rw[←cmpL_drop h,jc ha,jc hb]
 have hn:a[k].toNat≠b[k].toNat:=fun e=>hne (qbd.1 e)
 unfold yl
 by_cases h1:a[k].toNat<b[k].toNat
 ·
  rw[if_pos h1,if_pos h1]
 ·
  rw[if_neg h1,if_neg h1,if_pos (by omega)]
theorem cmpL_end{k:Nat}{a b:List UInt8}(h:a.take k=b.take k)(hk:k=min a.length b.length):yl a b=if a.length<b.length then -1 else if b.length<a.length then 1 else 0:=by
 rw[←cmpL_drop h]
 subst hk
 rcases qei a.length b.length with h1 | h1 | h1
 ·
  rw[if_pos h1,vj (by omega),List.drop_length,jc h1]
  rfl
 ·
  rw[if_neg (by omega),if_neg (by omega),vj (by omega),List.drop_length,List.drop_eq_nil_of_le (by omega)]
  rfl
 ·
  rw[if_neg (by omega),if_pos h1,Nat.min_eq_right (by omega),List.drop_length,jc h1]
  rfl
theorem IsOrder.right{l t:List (List UInt8)}(h:IsOrder l t):y7 t=true:=uw.2 ⟨h.few,fun s hs=>(h.of s hs).2,h.rises⟩
theorem put_take{l:List ByteArray}{k:Nat}(h:k<l.length):((qm l).take (k+1)).flatMap (fun s=>UInt8.ofNat s.length :: s)=(((qm l).take k).flatMap fun s=>UInt8.ofNat s.length :: s)++UInt8.ofNat l[k].size :: l[k].data.toList:=by
 have hk:k<(qm l).length:=by simpa[qm] using h
 rw[qj hk,qdg,qbu,List.flatMap_nil,jb]
 have he:(qm l)[k]=l[k].data.toList:=by simp[qm]
 rw[he,jt]
 rfl
theorem qer{w:World}(a b:ByteArray)(ha:a.size≤100000)(hb:b.size≤100000) :
  Calls Tryz.prog 31 #[.string a,.string b] w fun r w'=>r= .returned (.int .i64 (yl a.data.toList b.data.toList))∧∃m,w'=w.drewN m:=by
 obtain⟨v,hv⟩:∃v,yl a.data.toList b.data.toList=v:=⟨_,rfl⟩
 rw[hv]
 have hsa:a.data.toList.length=a.size:=by rw[jt];rfl
 have hsb:b.data.toList.length=b.size:=by rw[jt];rfl
 have HAT:Hid (∀k (h1:k<a.size) (h2:k<b.size),a.data.toList.take k=b.data.toList.take k→a[k]≠b[k]→v=if a[k].toNat<b[k].toNat then -1 else 1):=fun k h1 h2 ht hne=>by
  rw[←hv]
  exact cmpL_at ht (by omega) (by omega) hne
 have HNX:Hid (∀k (h1:k<a.size) (h2:k<b.size),a.data.toList.take k=b.data.toList.take k→a[k]=b[k]→a.data.toList.take (k+1)=b.data.toList.take (k+1)):=fun k h1 h2 ht he=>by
  rw[qj (by omega),qj (by omega),ht]
  have he':a.data.toList[k]'(by omega)=b.data.toList[k]'(by omega):=he
  rw[he']
 have HEND:Hid (∀k,a.data.toList.take k=b.data.toList.take k→k=min a.size b.size→v=if a.size<b.size then -1 else if b.size<a.size then 1 else 0):=fun k ht hk=>by
  rw[←hv,←hsa,←hsb]
  exact cmpL_end ht (by rw[hsa,hsb];exact hk)
 clear hv hsa hsb
 go_enter Tryz.func31,Tryz.ntmps31
 go_wp2_with fail
 go_loopw [5] (fun i wr=>∃k m:Nat,k≤a.size∧k≤b.size∧i= .int .i64 (k:Int)∧a.data.toList.take k=b.data.toList.take k∧wr=w.drewN m) (fun i _=>a.size-(intOf i).toNat)
 case atStart=>exact⟨0,0,by omega,by omega,rfl,by simp,rfl⟩
 case round =>
  obtain⟨k,m,hka,hkb,rfl,ht,rfl⟩:=hrel
  have HT:=qa ht
  clear ht
  by_cases hl:k<a.size∧k<b.size
  ·
   obtain⟨h1,h2⟩:=hl
   have i1:(k:Int)<(a.size:Int):=by omega
   have i2:(k:Int)<(b.size:Int):=by omega
   have HA:=qa (HAT.out k h1 h2 HT.out)
   have HN:=qa (HNX.out k h1 h2 HT.out)
   clear HAT HNX
   rcases qei a[k].toNat b[k].toNat with h3 | h3 | h3
   ·
    go_wp2
    go_quiet (fail)
    go_wp2
    go_ret
    exact⟨qai (by rw[HA.out (fun e=>by rw[e] at h3;omega),if_pos h3]),m+nq,zt _ _ _⟩
   ·
    have he:=qbd.1 h3
    go_wp2
    go_quiet (fail)
    go_wp2
    go_quiet (fail)
    go_wp2
    go_roundw
    case rel=>exact⟨k+1,_,by omega,by omega,by go_num,HN.out he,by first | rfl | (rw[zt]) | (rw[zt,zt])⟩
    case measure=>simp[intOf];omega
   ·
    go_wp2
    go_quiet (fail)
    go_wp2
    go_quiet (fail)
    go_wp2
    go_ret
    exact⟨qai (by rw[HA.out (fun e=>by rw[e] at h3;omega),if_neg (by omega)]),_,by first | rfl | (rw[zt,zt])⟩
  ·
   have HE:=qa (HEND.out k HT.out)
   have HK:Hid (k=min a.size b.size):=by unfold Hid;omega
   rcases qei a.size b.size with h3 | h3 | h3
   ·
    obtain rfl:k=a.size:=by omega
    go_wp2
    go_ret
    exact⟨qai (by rw[HE.out HK.out,if_pos h3]),_,rfl⟩
   ·
    obtain rfl:k=a.size:=by omega
    go_wp2
    go_ret
    exact⟨qai (by rw[HE.out HK.out,if_neg (by omega),if_neg (by omega)]),_,rfl⟩
   ·
    obtain rfl:k=b.size:=by omega
    go_wp2
    go_ret
    exact⟨qai (by rw[HE.out HK.out,if_neg (by omega),if_pos h3]),_,rfl⟩
theorem pre_iff{t l:List UInt8}(h:t.length≤l.length):t.isPrefixOf l=true↔l.take t.length=t:=by
 rw[List.isPrefixOf_iff_prefix]
 constructor
 ·
  intro h2
  exact(List.prefix_iff_eq_take.1 h2).symm
 ·
  intro h2
  rw[←h2]
  exact List.take_prefix _ _
theorem pre_no{t l:List UInt8}(h:l.length<t.length):¬t.isPrefixOf l=true:=fun h2=>by
 have:=(List.isPrefixOf_iff_prefix.1 h2).length_le
 omega
theorem qky{w:World}(l:List ByteArray)(s:ByteArray){lo hi c:Nat}{A:Option Addr}(h:Rd w lo hi A c (sv l))(h1k:∀t∈l,t.size≤100000)(hs:s.size≤100000)(hln:l.length≤100000) :
  Calls Tryz.prog 161 #[.slice A l.length c,.string s] w fun r w'=>r= .returned (.tuple #[.int .i64 (qfi (qm l) 0 (-1) 0 s.data.toList).1,.int .i64 ((qfi (qm l) 0 (-1) 0 s.data.toList).2:Int)])∧∃m,w'=w.drewN m:=by
 have hl:=h.len
 have hm:=h.cap
 rw[j7] at hl
 unfold maxLen at hm
 have H:=qa h
 have H1:Hid (∀k (hk:k<l.length),l[k].size≤100000):=fun k hk=>h1k _ (ql hk)
 clear h h1k
 obtain⟨v,hv⟩:∃v,qfi (qm l) 0 (-1) 0 s.data.toList=v:=⟨_,rfl⟩
 rw[hv]
 have hsl:=qgi s
 go_enter Tryz.func161,Tryz.ntmps161
 go_wp2_with fail
 go_loopw [6,7,8] (fun x6 x7 x8 wr=>∃(k n m:Nat) (cc:Int),k≤l.length∧x8= .int .i64 (k:Int)∧x7= .int .i64 (n:Int)∧x6= .int .i64 cc∧n≤100000∧qfi ((qm l).drop k) k cc n s.data.toList=v∧wr=w.drewN m) (fun _ _ i _=>l.length-(intOf i).toNat)
 case atStart=>exact⟨0,0,0, -1,qi _,rfl,rfl,rfl,by omega,by rw[jy];exact hv,rfl⟩
 case round =>
  obtain⟨k,n,m,cc,hk,rfl,rfl,rfl,hn,hinv,rfl⟩:=hrel
  have HI:=qa hinv
  clear hinv hv
  by_cases hlt:k<l.length
  ·
   have ik:(k:Int)<(l.length:Int):=by omega
   obtain⟨b,off,rfl,_,_,hcell⟩:=H.out.str hlt
   have hsz1:=H1.out k hlt
   have hdr:(qm l).drop k=l[k].data.toList :: (qm l).drop (k+1):=by
    rw[jc (by rw[qv];exact hlt),yq l k hlt]
   have hst:=HI.out
   rw[hdr] at hst
   unfold qfi at hst
   rw[qgi] at hst
   clear hdr HI
   have htl:=qgi l[k]
   have hhd:=headS s l[k].size
   generalize l[k]=t at *
   have HSK:Hid (¬(n<t.size∧t.data.toList.isPrefixOf s.data.toList=true)→qfi ((qm l).drop (k+1)) (k+1) cc n s.data.toList=v):=fun h=>by rw[if_neg h] at hst;exact hst
   have HTK:Hid (n<t.size∧t.data.toList.isPrefixOf s.data.toList=true→qfi ((qm l).drop (k+1)) (k+1) (k:Int) t.size s.data.toList=v):=fun h=>by rw[if_pos h] at hst;exact hst
   clear hst
   by_cases h1:n<t.size
   ·
    have d1:decide ((n:Int)<(t.size:Int))=true:=qx (by omega)
    by_cases h2:t.size≤s.size
    ·
     have d2:decide ((t.size:Int)≤(s.size:Int))=true:=qx (by omega)
     have i2:(t.size:Int)≤(s.size:Int):=by omega
     by_cases h3:t.data.toList.isPrefixOf s.data.toList=true
     ·
      have d3:((s.extract 0 t.size).toList==t.toList)=true:=by
       rw[beq_iff_eq,z6,z6,hhd,←htl]
       exact(pre_iff (by omega)).1 h3
      have HT:=qa (HTK.out ⟨h1,h3⟩)
      clear h3 hhd htl hsl
      go_wp2_with fail
      go_quiet (fail)
      go_wp2_with fail
      go_roundw
      case rel=>exact⟨k+1,t.size,_,(k:Int),by omega,by go_num,rfl,rfl,by omega,HT.out,by first | rfl | (rw[zt])⟩
      case measure=>simp[intOf] <;> omega
     ·
      have d3:((s.extract 0 t.size).toList==t.toList)=false:=by
       rw[q9,ne_eq,z6,z6,hhd,←htl]
       exact fun e=>h3 ((pre_iff (by omega)).2 e)
      have HS:=qa (HSK.out (fun e=>h3 e.2))
      clear h3 hhd htl hsl
      go_wp2_with fail
      go_quiet (fail)
      go_wp2_with fail
      go_roundw
      case rel=>exact⟨k+1,n,_,cc,by omega,by go_num,rfl,rfl,by omega,HS.out,by first | rfl | (rw[zt])⟩
      case measure=>simp[intOf] <;> omega
    ·
     have d2:decide ((t.size:Int)≤(s.size:Int))=false:=qr (by omega)
     have HS:=qa (HSK.out (fun e=>pre_no (by omega) e.2))
     clear hhd htl hsl
     go_wp2_with fail
     go_quiet (fail)
     go_wp2_with fail
     go_roundw
     case rel=>exact⟨k+1,n,_,cc,by omega,by go_num,rfl,rfl,by omega,HS.out,by first | rfl | (rw[zt])⟩
     case measure=>simp[intOf] <;> omega
   ·
    have d1:decide ((n:Int)<(t.size:Int))=false:=qr (by omega)
    have HS:=qa (HSK.out (fun e=>h1 e.1))
    clear hhd htl hsl
    go_wp2_with fail
    go_quiet (fail)
    go_wp2_with fail
    go_roundw
    case rel=>exact⟨k+1,n,_,cc,by omega,by go_num,rfl,rfl,by omega,HS.out,by first | rfl | (rw[zt])⟩
    case measure=>simp[intOf] <;> omega
  ·
   have ik:¬(k:Int)<(l.length:Int):=by omega
   have hfin:(cc,n)=v:=by
    have:=HI.out
    rw[qdp (by rw[qv];omega)] at this
    exact this
   have HF:=qa hfin
   clear hfin
   go_wp2_with fail
   go_ret2
   exact⟨by rw[←HF.out];rfl,m,rfl⟩
theorem cmpL_neg(a b:List UInt8):0<yl b a↔yl a b<0:=by rw[qcb a b];omega
theorem rises_last:∀ {t:List (List UInt8)} {a:List UInt8},xc (t++[a])=true→∀x∈t,yl x a<0
 | [],_,_,x,hx=>by cases hx
 | b :: t,a,h,x,hx=>by
  have h1:∀y∈t++[a],yl b y<0:=qgs (a:=b) (t:=t++[a]) h
  rcases z7.1 hx with rfl | hx
  ·
   exact h1 a (qce _ je)
  ·
   exact rises_last (qfv (a:=b) (t:=t++[a]) h) x hx
theorem cand_last{t:List (List UInt8)}{a s:List UInt8}(h:xc (t++[a])=true)(ho:qhm s=true):qi5 (t++[a]) s↔0<yl s a:=by
 rw[cmpL_neg a s]
 constructor
 ·
  rintro⟨_,h2⟩
  exact h2 a (qce _ je)
 ·
  intro h2
  refine⟨ho,fun x hx => ?_⟩
  rcases zm.1 hx with hx | hx
  ·
   exact um (rises_last h x hx) h2
  ·
   rw[ze.1 hx];exact h2
theorem cand_nil{s:List UInt8}:qi5 [] s↔qhm s=true:=⟨fun h=>h.1,fun h=>⟨h,fun x hx=>by cases hx⟩⟩
theorem Ord.done{l t:List (List UInt8)}(h:Ord l t)(hn:∀s∈l,¬qi5 t s)(h5:t.length≤255):IsOrder l t :=
 ⟨h.rises,h5,h.of,fun s hs ho=>(h.all s hs ho).imp id fun h1=>absurd ⟨ho,h1⟩ (hn s hs)⟩
theorem Ord.full{l t:List (List UInt8)}(h:Ord l t)(h5:t.length=255):IsOrder l t :=
 ⟨h.rises,by omega,h.of,fun s hs ho=>(h.all s hs ho).imp id fun h1=>⟨h5,h1⟩⟩
def Inn(l t:List (List UInt8))(k:Nat)(b:List UInt8):Prop :=
 (b=[]∧∀j (hj:j<l.length),j<k→¬qi5 t l[j])∨(qi5 t b∧b∈l∧∀j (hj:j<l.length),j<k→qi5 t l[j]→yl b l[j]≤0)
theorem cand_ne{t:List (List UInt8)}{b:List UInt8}(h:qi5 t b):b≠[]:=fun e=>by
 subst e
 have:=h.1
 simp[qhm] at this
theorem inn_zero(l t:List (List UInt8)):Inn l t 0 []:=Or.inl ⟨rfl,fun j _ h=>absurd h (ja j)⟩
theorem inn_skip{l t:List (List UInt8)}{k:Nat}{b:List UInt8}(h:Inn l t k b)(hk:k<l.length)(hc:¬qi5 t l[k]):Inn l t (k+1) b:=by
 rcases h with ⟨h1,h2⟩ | ⟨h1,h2,h3⟩
 ·
  refine Or.inl ⟨h1,fun j hj hjk => ?_⟩
  rcases vf j k with h4 | h4
  ·
   exact h2 j hj h4
  ·
   have:j=k:=by omega
   subst this
   exact hc
 ·
  refine Or.inr ⟨h1,h2,fun j hj hjk hcj => ?_⟩
  rcases vf j k with h4 | h4
  ·
   exact h3 j hj h4 hcj
  ·
   have:j=k:=by omega
   subst this
   exact absurd hcj hc
theorem inn_first{l t:List (List UInt8)}{k:Nat}(h:Inn l t k [])(hk:k<l.length)(hc:qi5 t l[k]):Inn l t (k+1) l[k]:=by
 rcases h with ⟨_,h2⟩ | ⟨h1,_,_⟩
 ·
  refine Or.inr ⟨hc,ql hk,fun j hj hjk hcj => ?_⟩
  rcases vf j k with h4 | h4
  ·
   exact absurd hcj (h2 j hj h4)
  ·
   have:j=k:=by omega
   subst this
   rw[qcy]
   exact Int.le_refl _
 ·
  exact absurd rfl (cand_ne h1)
theorem inn_less{l t:List (List UInt8)}{k:Nat}{b:List UInt8}(h:Inn l t k b)(hb:b≠[])(hk:k<l.length)(hc:qi5 t l[k])(hl:yl l[k] b<0):Inn l t (k+1) l[k]:=by
 rcases h with ⟨h1,_⟩ | ⟨h1,h2,h3⟩
 ·
  exact absurd h1 hb
 ·
  refine Or.inr ⟨hc,ql hk,fun j hj hjk hcj => ?_⟩
  rcases vf j k with h4 | h4
  ·
   rcases Int.lt_or_eq_of_le (h3 j hj h4 hcj) with h5 | h5
   ·
    exact Int.le_of_lt (um hl h5)
   ·
    rw[←qbq h5]
    exact Int.le_of_lt hl
  ·
   have:j=k:=by omega
   subst this
   rw[qcy]
   exact Int.le_refl _
theorem inn_keep{l t:List (List UInt8)}{k:Nat}{b:List UInt8}(h:Inn l t k b)(hb:b≠[])(hk:k<l.length)(hl:¬yl l[k] b<0):Inn l t (k+1) b:=by
 rcases h with ⟨h1,_⟩ | ⟨h1,h2,h3⟩
 ·
  exact absurd h1 hb
 ·
  refine Or.inr ⟨h1,h2,fun j hj hjk hcj => ?_⟩
  rcases vf j k with h4 | h4
  ·
   exact h3 j hj h4 hcj
  ·
   have:j=k:=by omega
   subst this
   have:=qcb b l[j]
   omega
theorem sizes_pos(block:Nat)(l:List (List UInt8)):∀k,0<k→0<(yk block l k).length
 | 0,h=>absurd h (by omega)
 | k+1,_=>by
  unfold yk
  rw[qp7]
  split
  ·
   rw[qd];simp
  ·
   rename_i h
   have hk:0<k:=Nat.pos_of_ne_zero fun e=>h (by rw[e];exact Nat.zero_mod _)
   exact sizes_pos block l k hk
def qjw:List (List UInt8)→Nat
 | []=>0
 | s :: t=>s.length+qjw t
theorem sumL_take:∀(l:List (List UInt8)) (k:Nat) (hk:k<l.length),qjw (l.take (k+1))=qjw (l.take k)+l[k].length
 | s :: t,0,_=>by simp[qjw]
 | s :: t,k+1,hk=>by
  have:=sumL_take t k (by simpa using hk)
  simp only[j8,qjw,List.getElem_cons_succ,this]
  omega
theorem ents_sum{K:Nat}{l:List (List UInt8)}(h:∀s∈l,s.length≤4096):∀ {k:Nat},k≤l.length→(qao K l k).length≤qjw (l.take k)+4*k
 | 0,_=>by simp[ents_zero]
 | k+1,hk=>by
  have ih:=ents_sum (K:=K) h (k:=k) (by omega)
  have hp:∀n,n≤4096→(ji n).length≤2:=fun n hn=>qin 1 n (by omega)
  have hs:l[k].length≤4096:=h _ (ql _)
  have he:(qha K l k).length≤l[k].length+4:=by
   unfold qha entL
   rw[getD_at (by omega)]
   have h2:=qkt (l.getD (k-1) []) l[k]
   split
   ·
    rw[vm,qd]
    have:=hp _ hs
    omega
   ·
    rw[vm,qd,qd]
    have h3:=hp (xl (l.getD (k-1) []) l[k]) (by omega)
    have h4:=hp (List.drop (xl (l.getD (k-1) []) l[k]) l[k]).length (by rw[qy];omega)
    have h5:=qy (i:=xl (l.getD (k-1) []) l[k]) (l:=l[k])
    omega
  rw[qd7,qd,sumL_take l k (by omega)]
  omega
theorem ql5{K:Nat}{l:List (List UInt8)}(hK:K≤64)(hd:qle l=true):(kv K l).length≤qjw l+10*l.length+10:=by
 obtain⟨h1,h2,h3⟩:=qdl.1 hd
 obtain⟨hm,hm2⟩:=qlt (K:=K) hd
 have hp:∀n,n≤4096→(ji n).length≤2:=fun n hn=>qin 1 n (by omega)
 have a1:=hp _ h1
 have a2:=hp K (by omega)
 have a3:=ents_sum (K:=K) h2 (qc l.length)
 rw[qo (qc _)] at a3
 have a4:=qlu K l l.length
 have a5:=hm.wide_le
 have a6:(js (z8 (yk K l l.length))).length≤2+1+4*l.length:=by
  rw[js,qd,qd,qc4,uh,zu]
  have b1:=hp _ hm2
  have b2:(yk K l l.length).length*wide (z8 (yk K l l.length))≤l.length*32:=ki a4 a5
  simp only[zy]
  omega
 simp only[kv,qd]
 omega
theorem qpl{a:List UInt8}{t:List (List UInt8)}(h:∀b u,t=b :: u→yl a b<0)(ht:xc t=true):xc (a :: t)=true:=by
 cases t with
 | nil=>rfl
 | cons b u=>exact ug.2 ⟨h b u rfl,ht⟩
theorem rises_put(s:List UInt8):∀(t:List (List UInt8)) (k:Nat),xc t=true→(∀j (hj:j<t.length),j<k→yl t[j] s<0)→(∀(hk:k<t.length),yl s t[k]<0)→xc (t.take k++s :: t.drop k)=true
 | t,0,h,_,h2=>by
  rw[y9,yu,jy]
  refine qpl (fun b u e => ?_) h
  subst e
  exact h2 (by simp)
 | [],k+1,_,_,_=>by simp[xc]
 | a :: t,k+1,h,h1,h2=>by
  rw[j8,qdh,jd]
  refine qpl (fun b u e => ?_) (rises_put s t k (qfv h) (fun j hj hjk=>h1 (j+1) (by simpa using hj) (by omega)) (fun hk=>h2 (by simpa using hk)))
  cases k with
  | zero =>
   rw[y9,yu] at e
   injection e with e1 e2
   subst e1
   exact h1 0 (by simp) (by omega)
  | succ k =>
   cases t with
   | nil =>
    simp at e
    obtain⟨e1,_⟩:=e
    subst e1
    exact h1 0 (by simp) (by omega)
   | cons c t =>
    rw[j8,jd] at e
    injection e with e1 e2
    subst e1
    exact(ug.1 h).1
theorem bytL2_take(l:List ByteArray)(k:Nat):qm (l.take k)=(qm l).take k:=by simp[qm,qbt]
theorem bytL2_drop(l:List ByteArray)(k:Nat):qm (l.drop k)=(qm l).drop k:=by simp[qm,List.map_drop]
theorem ql9(a b:List ByteArray):qm (a++b)=qm a++qm b:=by simp[qm]
theorem str_inj{a b:ByteArray}(h:a.data.toList=b.data.toList):a=b:=by rw[←qhk a,←qhk b,h]
theorem qnq(l:List ByteArray)(k:Nat):sv (l.take k)=(sv l).take k:=by simp[sv,qbt]
theorem qnr(l:List ByteArray)(k:Nat):sv (l.drop k)=(sv l).drop k:=by simp[sv,List.map_drop]
theorem qnt{L:List (List UInt8)}{t tm tn:List ByteArray}{s:ByteArray}{k:Nat}(h:qaj L (qm t))(h1:∀j (hj:j<t.length),j<k→yl t[j].data.toList s.data.toList<0)(h2:∀hk:k<t.length,yl s.data.toList t[k].data.toList<0)
  (htm:t.take k++[s]=tm) (htn:tm++t.drop k=tn):qaj (L++[s.data.toList]) (qm tn):=by
 subst htm htn
 have e:qm (t.take k++[s]++t.drop k)=(qm t).take k++s.data.toList :: (qm t).drop k:=by
  rw[ql9,ql9,bytL2_take,bytL2_drop,qp]
  rfl
 rw[e]
 refine⟨rises_put _ _ _ h.1 (fun j hj hjk => ?_) (fun hk => ?_),fun x => ?_⟩
 ·
  rw[qv] at hj
  rw[yq t j hj]
  exact h1 j hj hjk
 ·
  rw[qv] at hk
  rw[yq t k hk]
  exact h2 hk
 ·
  rw[zm,z7,zm,ze,←h.2 x]
  conv=>rhs;rw[←zx k (qm t),zm]
  constructor
  ·
   rintro(h | h | h)
   ·
    exact Or.inl (Or.inl h)
   ·
    exact Or.inr h
   ·
    exact Or.inl (Or.inr h)
  ·
   rintro((h | h) | h)
   ·
    exact Or.inl h
   ·
    exact Or.inr (Or.inr h)
   ·
    exact Or.inr (Or.inl h)
theorem sort_same{L:List (List UInt8)}{t:List ByteArray}{s:ByteArray}{k:Nat}(h:qaj L (qm t))(hk:k<t.length)(he:t[k]=s):qaj (L++[s.data.toList]) (qm t):=by
 refine⟨h.1,fun x => ?_⟩
 rw[zm,ze,←h.2 x]
 refine⟨Or.inl,fun hx=>hx.elim id fun e => ?_⟩
 subst e
 rw[←he,←yq t k hk]
 exact ql _
theorem xm{ops:Array Oper}{o:Oper}{a:Act}{w:World}{K:Act→World→Prop}{Q:Exit→Act→World→Prop}{F:Prop}{v:Value}(base:Nat)(ys zs us:List ByteArray)(hus:ys++zs=us)(n m p:Nat)(hn:ys.length=n)(hm:zs.length=m)(hp:us.length=p)(hgd:o.guard=none)(s x:Operand)
  (ho:o.op= .call { callee:= .builtin .append,args:=#[s,x],argTypes:=#[52,52] }) (hty:o.type=52)
  (hs:a.eval s=v) {A:Option Addr} {c:Nat} (hx:a.eval x= .slice A m c)
  (hown:w.ownsRow base 9 1 v n (sv ys)) {lo h':Nat} (hr:Rd w lo h' A c (sv zs)) (hb:n+m≤1000000000) (hbase:base≤w.heap.size)
  (h:∀A' c' w',w'.ownsRow base 9 1 (.slice A' p c') p (sv us)→w.grownBy w' v.ownBlock→K (a.put o.dst (.slice A' p c')) w') :
  if Region.wanted o (yielded ops a.tmps)=true then Oper.wp Tryz.prog o a w K Q else F:=by
 subst hn hm hp
 have hw:Region.wanted o (yielded ops a.tmps)=true:=by simp[Region.wanted,hgd]
 rw[if_pos hw]
 obtain⟨A',c',w',hrun,h2,h3⟩:=qiv w base v ys zs us hus hown hr hb hbase
 unfold Oper.wp execOp
 simp only[ho,hty,resolve,invoke,builtin,Sem.run_bind,Sem.run_pure,Result.andThen_ok,qcn,yc,vu,hs,hx,hrun]
 exact h A' c' w' h2 h3
theorem rd_one{w:World}{g:Nat}{s:ByteArray}(h:w.cell? ⟨g,0,none⟩=some (.string s)):Rd w 0 w.heap.size (some ⟨g,0,none⟩) 1 (sv [s]):=⟨by simp[sv],by simp[maxLen],fun _=>⟨g,0,rfl,qi _,ya w _ h,fun j u hu=>by
  match j,hu with
  | 0,hu =>
   simp[sv] at hu
   subst hu
   exact h
  | j+1,hu=>simp[sv] at hu⟩⟩
theorem refSorted_any{w:World}(l:List ByteArray){c:Nat}{A:Option Addr}(h:Rd w 0 w.heap.size A c (sv l))(hsz:∀s∈l,s.size≤100000)(hlen:l.length≤1000) :
  Calls Tryz.prog 118 #[.slice A l.length c] w fun r w'=>∃(t:List ByteArray) (A':Option Addr) (c':Nat),r= .returned (.slice A' t.length c')∧qaj (qm l) (qm t)∧t.length≤l.length∧
   w'.ownsRow w.heap.size 9 1 (.slice A' t.length c') t.length (sv t)∧Below w.heap.size w w':=by
 have hl:=h.len
 have hm:=h.cap
 rw[j7] at hl
 unfold maxLen at hm
 have H:=qa h
 have H1:Hid (∀k (hk:k<l.length),l[k].size≤100000):=fun k hk=>hsz _ (ql hk)
 clear h hsz
 go_enter Tryz.func118,Tryz.ntmps118
 go_wp2_with fail
 go_loopw [3,4] (fun x3 x4 wr=>∃(i:Nat) (t:List ByteArray) (A':Option Addr) (c':Nat),i≤l.length∧x4= .int .i64 (i:Int)∧x3= .slice A' t.length c'∧t.length≤i∧(∀s∈t,s.size≤100000)∧qaj (qm (l.take i)) (qm t)∧
  wr.ownsRow w.heap.size 9 1 (.slice A' t.length c') t.length (sv t)∧Below w.heap.size w wr) (fun _ x4 _=>l.length-(intOf x4).toNat)
 case atStart=>exact⟨0,[],none,0,qi _,rfl,rfl,qc _,fun s hs=>absurd hs xv,⟨rfl,fun x=>Iff.rfl⟩,zf _ _ _ _,Below.refl _ _⟩
 case round =>
  obtain⟨i,t,A',c',hi,rfl,rfl,hti,hts,hso,hown,hb⟩:=hrel
  obtain⟨wy,hwy⟩:∃wy,wy=wr:=⟨_,rfl⟩
  subst hwy
  have hr9:=Rd.own hown
  have htc:=hr9.len
  have htm:=hr9.cap
  rw[j7] at htc
  unfold maxLen at htm
  have HTS:Hid (∀k (hk:k<t.length),t[k].size≤100000):=fun k hk=>hts _ (ql hk)
  have HTA:=qa hts
  have HSO:=qa hso
  have HR:=qa hr9
  have HO:=qa hown
  have HB:=qa hb
  have hsz:=hb.size
  clear hts hso hown hb hr9
  by_cases hlt:i<l.length
  ·
   have ik:(i:Int)<(l.length:Int):=by omega
   obtain⟨b1,off1,rfl,_,hb1,hcell0⟩:=H.out.str hlt
   have hcell:wy.cell? ⟨b1,off1+i,none⟩=some (.string l[i]):=(HB.out.cell hb1).trans hcell0
   have hss:=H1.out i hlt
   have HTK:Hid (qm (l.take (i+1))=qm (l.take i)++[l[i].data.toList]):=by
    unfold Hid
    rw[qj hlt,ql9]
    rfl
   clear hcell0
   obtain⟨s,hs⟩:∃s,l[i]=s:=⟨_,rfl⟩
   rw[hs] at hcell hss HTK
   clear hs
   go_wp2_with fail
   go_loopw [5] (fun x5 wv=>∃(k m:Nat),k≤t.length∧x5= .int .i64 (k:Int)∧(∀j (hj:j<t.length),j<k→yl t[j].data.toList s.data.toList<0)∧wv=wy.drewN m) (fun x5 _=>t.length-(intOf x5).toNat)
   case atStart=>exact⟨0,0,qi _,rfl,fun j _ h=>absurd h (ja j),rfl⟩
   case round =>
    obtain⟨k,m,hk,rfl,hal,rfl⟩:=hrel
    have HAL:=qa hal
    clear hal
    have hcell':(wy.drewN m).cell? ⟨b1,off1+i,none⟩=some (.string s):=hcell
    by_cases hkt:k<t.length
    ·
     have ikt:(k:Int)<(t.length:Int):=by omega
     have dkt:decide (k<t.length)=true:=qx hkt
     obtain⟨b2,off2,rfl,_,_,hcell2⟩:=HR.out.str hkt
     have hks:=HTS.out k hkt
     have hcell2':(wy.drewN m).cell? ⟨b2,off2+k,none⟩=some (.string t[k]):=hcell2
     have HCM:=qa (fun w=>qer (w:=w) t[k] s hks hss)
     have HNX:Hid (yl t[k].data.toList s.data.toList<0→∀j (hj:j<t.length),j<k+1→yl t[j].data.toList s.data.toList<0):=fun h j hj hjk=>by
      rcases vf j k with h2 | h2
      ·
       exact HAL.out j hj h2
      ·
       have:j=k:=by omega
       subst this
       exact h
     obtain⟨z,hz⟩:∃z,yl t[k].data.toList s.data.toList=z:=⟨_,rfl⟩
     have HZ:=qa hz
     rw[hz] at HCM HNX
     clear hz
     by_cases hz0:z<0
     ·
      have dz:decide (z<0)=true:=qx hz0
      have HN2:=qa (HNX.out hz0)
      go_wp2_with fail
      go_quiet ((go_at_call 31;exact qes (HCM.out _)))
      go_wp2_with fail
      go_roundw
      case rel=>exact⟨k+1,_,by omega,by go_num,HN2.out,by first | rfl | (rw[zt])⟩
      case measure=>simp[intOf] <;> omega
     ·
      have dz:decide (z<0)=false:=qr hz0
      go_wp2_with fail
      by_cases he:t[k]=s
      ·
       have HSM:Hid (qaj (qm (l.take (i+1))) (qm t)):=by
        unfold Hid
        rw[HTK.out]
        exact sort_same HSO.out hkt he
       have e1:(t[k].toList==s.toList)=true:=by rw[he];exact beq_self_eq_true _
       have e2:t[k].toList=s.toList:=by rw[he]
       clear he
       go_quiet ((go_at_call 31;exact qes (HCM.out _)))
       go_wp2_with fail
       go_quiet (fail)
       go_wp2_with fail
       go_roundw
       case rel=>exact⟨i+1,t,_,c',by omega,by go_num,rfl,by omega,HTA.out,HSM.out,jv HO.out (fun _ _=>rfl),zj HB.out _⟩
       case measure=>simp[intOf] <;> omega
      ·
       have e2:¬t[k].toList=s.toList:=fun e=>he (str_inj (by rw[z6,z6] at e;exact e))
       have e1:(t[k].toList==s.toList)=false:=q9.2 e2
       have HGT:Hid (∀hk:k<t.length,yl s.data.toList t[k].data.toList<0):=fun h=>by
        have h1:=qcb t[k].data.toList s.data.toList
        have h2:=HZ.out
        have h3:z≠0:=fun e=>he (str_inj (qbq (h2.trans e)))
        omega
       clear he
       go_quiet ((go_at_call 31;exact qes (HCM.out _)))
       go_wp2_with fail
       go_quiet (fail)
       go_wp2_with fail
       have hkc:k≤c':=by omega
       have HT1:Hid ((t.take k).length=k):=by unfold Hid;rw[qz];omega
       have HT2:Hid ((t.drop k).length=t.length-k):=by unfold Hid;rw[qy]
       have HRT:Hid (∀wx,Below wy.heap.size wy wx→Rd wx 0 wx.heap.size (some ⟨b2,off2,none⟩) c' (sv (t.take k))):=fun wx hx=>by
        rw[qnq]
        exact((HR.out.below hx (qc _)).take_ k).wide (qi _) hx.size
       have HRD:Hid (∀wx,Below wy.heap.size wy wx→Rd wx 0 wx.heap.size (if c'=k then some ⟨b2,off2,none⟩ else some ⟨b2,off2+k,none⟩) (c'-k) (sv (t.drop k))):=fun wx hx=>by
        have h1:=(HR.out.below hx (qc _)).cut (k:=k) (n:=t.length) hk (by rw[j7];exact qc _)
        rw[qnr,←qo (l:=(sv t).drop k) (i:=t.length-k) (by rw[qy,j7];exact qc _)]
        have e9:(some ⟨b2,off2,none⟩:Option Addr).map (·.add k)=some ⟨b2,off2+k,none⟩:=by
         show some (Addr.add ⟨b2,off2,none⟩ k)=_
         unfold Addr.add
         by_cases h0:k=0 <;> simp[h0]
        rw[e9] at h1
        exact h1.wide (qi _) hx.size
       have HBM:Hid (∀M,Below wy.heap.size wy (wy.drewN M)):=fun M=>zj (Below.refl _ wy) M
       have HBA:Hid (∀wx o,Below wy.heap.size wy wx→Below wy.heap.size wy (wx.alloc o)):=fun wx o hx=>hx.alloc hx.size o
       have HBG:Hid (∀(wx wx':World) (row:Option Nat),Below wy.heap.size wy wx→wx.grownBy wx' row→(∀g,row=some g→wy.heap.size≤g)→Below wy.heap.size wy wx'):=fun wx wx' row hx hg hr=>hx.grown hg hx.size hr
       have HCL:Hid (∀wx,Below wy.heap.size wy wx→wx.cell? ⟨b1,off1+i,none⟩=some (.string s)):=fun wx hx=>(hx.cell (zn hb1 hsz)).trans hcell
       have hcA:∀M o,((wy.drewN M).alloc o).cell? ⟨b1,off1+i,none⟩=some (.string s):=fun M o=>HCL.out _ (HBA.out _ _ (HBM.out M))
       have hcB:∀M,(wy.drewN M).cell? ⟨b1,off1+i,none⟩=some (.string s):=fun M=>HCL.out _ (HBM.out M)
       obtain⟨tm,htm⟩:∃tm,t.take k++[s]=tm:=⟨_,rfl⟩
       obtain⟨tn,htn⟩:∃tn,tm++t.drop k=tn:=⟨_,rfl⟩
       have HTM:=qa htm
       have HTN:=qa htn
       have HT3:Hid (tm.length=k+1):=by unfold Hid;rw[←htm,qd,HT1.out];rfl
       have HT4:Hid (tn.length=k+1+(t.length-k)):=by unfold Hid;rw[←htn,qd,HT3.out,HT2.out]
       have HSN:Hid (qaj (qm (l.take (i+1))) (qm tn)):=by
        unfold Hid
        rw[HTK.out]
        exact qnt HSO.out HAL.out HGT.out htm htn
       have HSZ:Hid (∀x∈tn,x.size≤100000):=fun x hx=>by
        rw[←htn,←htm] at hx
        rcases zm.1 hx with hx | hx
        ·
         rcases zm.1 hx with hx | hx
         ·
          exact HTA.out x (yz hx)
         ·
          rw[ze.1 hx];exact hss
        ·
         exact HTA.out x (qbl hx)
       clear htm htn
       go_region_law (first
        | (refine xm (v:= .slice (some ⟨wy.heap.size,0,none⟩) 0 0) wy.heap.size [] (t.take k) (t.take k) rfl 0 k k rfl HT1.out HT1.out rfl (.tmp 45) (.tmp 48) rfl rfl (by simp[Act.eval,Act.put]) (by simp[Act.eval,Act.put]) (by first | exact qca _ _ | exact(qca _ _).alloc _) (HRT.out _ (by first | exact HBA.out _ _ (HBM.out _) | exact HBA.out _ _ (HBA.out _ _ (HBM.out _)))) (by omega) (by simp <;> omega) ?_;intro A4 c4 w4 ho4 hg4;have hb4:Below wy.heap.size wy w4:=HBG.out _ _ _ (by first | exact HBA.out _ _ (HBM.out _) | exact HBA.out _ _ (HBA.out _ _ (HBM.out _))) hg4 (fun g hg=>by simp[Value.ownBlock] at hg;omega);have hcl:=HCL.out _ hb4)
        | (refine xm (v:= .slice (some ⟨wy.heap.size+1,0,none⟩) 0 0) wy.heap.size [] (t.take k) (t.take k) rfl 0 k k rfl HT1.out HT1.out rfl (.tmp 45) (.tmp 48) rfl rfl (by simp[Act.eval,Act.put]) (by simp[Act.eval,Act.put]) (qhy _ _ _) (HRT.out _ (HBA.out _ _ (HBA.out _ _ (HBM.out _)))) (by omega) (by simp <;> omega) ?_;intro A4 c4 w4 ho4 hg4;have hb4:Below wy.heap.size wy w4:=HBG.out _ _ _ (HBA.out _ _ (HBA.out _ _ (HBM.out _))) hg4 (fun g hg=>by simp[Value.ownBlock] at hg;omega);have hcl:=HCL.out _ hb4)
        | (refine xm (v:= .slice A4 k c4) wy.heap.size (t.take k) [s] tm HTM.out k 1 (k+1) HT1.out rfl HT3.out rfl (.tmp 49) (.tmp 54) rfl rfl (by simp[Act.eval,Act.put]) (by simp[Act.eval,Act.put];rfl) (by first | exact ho4 | exact ho4.alloc _) (rd_one (by first | exact qgf _ _ _ | exact qbs hg4 (qgv _ _ _ _) (by simp[Value.ownBlock]) | exact qbs hg4 (qf5 _ _ _ _) (by simp[Value.ownBlock]))) (by omega) (by first | exact hb4.size | exact(HBA.out _ _ hb4).size) ?_;intro A5 c5 w5 ho5 hg5;have hb5:Below wy.heap.size wy w5:=HBG.out _ _ _ (by first | exact hb4 | exact HBA.out _ _ hb4) hg5 (fun g hg=>(zk ho4 hg).1))
        | (refine xm (v:= .slice A5 (k+1) c5) wy.heap.size tm (t.drop k) tn HTN.out (k+1) (t.length-k) (k+1+(t.length-k)) HT3.out HT2.out HT4.out rfl (.tmp 55) (.tmp 58) rfl rfl (by simp[Act.eval,Act.put]) (by simp[Act.eval,Act.put]) ho5 (HRD.out _ hb5) (by omega) hb5.size ?_;intro A6 c6 w6 ho6 hg6;have HB6:=qa (HBG.out _ _ _ hb5 hg6 (fun g hg=>(zk ho5 hg).1));have HO6:=qa ho6;clear ho6 hg6))
       all_goals
        go_wp2_with fail
        go_roundw
        case rel=>exact⟨i+1,tn,A6,c6,by omega,by go_num,by rw[HT4.out],by rw[HT4.out];omega,HSZ.out,HSN.out,by rw[HT4.out];exact jm HO6.out hsz,HB.out.trans (HB6.out.mono hsz)⟩
        case measure=>simp[intOf] <;> omega
    ·
     have ikt:¬(k:Int)<(t.length:Int):=by omega
     have dkt:decide (k<t.length)=false:=qr hkt
     go_wp2_with fail
     go_quiet (fail)
     go_wp2_with fail
     go_quiet (fail)
     go_wp2_with fail
     have HGT:Hid (∀hk:k<t.length,yl s.data.toList t[k].data.toList<0):=fun h=>absurd h hkt
     have hkc:k≤c':=by omega
     have HT1:Hid ((t.take k).length=k):=by unfold Hid;rw[qz];omega
     have HT2:Hid ((t.drop k).length=t.length-k):=by unfold Hid;rw[qy]
     have HRT:Hid (∀wx,Below wy.heap.size wy wx→Rd wx 0 wx.heap.size A' c' (sv (t.take k))):=fun wx hx=>by
      rw[qnq]
      exact((HR.out.below hx (qc _)).take_ k).wide (qi _) hx.size
     have HRD:Hid (∀wx,Below wy.heap.size wy wx→Rd wx 0 wx.heap.size (if c'=k then A' else A'.map (·.add k)) (c'-k) (sv (t.drop k))):=fun wx hx=>by
      have h1:=(HR.out.below hx (qc _)).cut (k:=k) (n:=t.length) hk (by rw[j7];exact qc _)
      rw[qnr,←qo (l:=(sv t).drop k) (i:=t.length-k) (by rw[qy,j7];exact qc _)]
      exact h1.wide (qi _) hx.size
     have HBM:Hid (∀M,Below wy.heap.size wy (wy.drewN M)):=fun M=>zj (Below.refl _ wy) M
     have HBA:Hid (∀wx o,Below wy.heap.size wy wx→Below wy.heap.size wy (wx.alloc o)):=fun wx o hx=>hx.alloc hx.size o
     have HBG:Hid (∀(wx wx':World) (row:Option Nat),Below wy.heap.size wy wx→wx.grownBy wx' row→(∀g,row=some g→wy.heap.size≤g)→Below wy.heap.size wy wx'):=fun wx wx' row hx hg hr=>hx.grown hg hx.size hr
     have HCL:Hid (∀wx,Below wy.heap.size wy wx→wx.cell? ⟨b1,off1+i,none⟩=some (.string s)):=fun wx hx=>(hx.cell (zn hb1 hsz)).trans hcell
     have hcA:∀M o,((wy.drewN M).alloc o).cell? ⟨b1,off1+i,none⟩=some (.string s):=fun M o=>HCL.out _ (HBA.out _ _ (HBM.out M))
     have hcB:∀M,(wy.drewN M).cell? ⟨b1,off1+i,none⟩=some (.string s):=fun M=>HCL.out _ (HBM.out M)
     obtain⟨tm,htm⟩:∃tm,t.take k++[s]=tm:=⟨_,rfl⟩
     obtain⟨tn,htn⟩:∃tn,tm++t.drop k=tn:=⟨_,rfl⟩
     have HTM:=qa htm
     have HTN:=qa htn
     have HT3:Hid (tm.length=k+1):=by unfold Hid;rw[←htm,qd,HT1.out];rfl
     have HT4:Hid (tn.length=k+1+(t.length-k)):=by unfold Hid;rw[←htn,qd,HT3.out,HT2.out]
     have HSN:Hid (qaj (qm (l.take (i+1))) (qm tn)):=by
      unfold Hid
      rw[HTK.out]
      exact qnt HSO.out HAL.out HGT.out htm htn
     have HSZ:Hid (∀x∈tn,x.size≤100000):=fun x hx=>by
      rw[←htn,←htm] at hx
      rcases zm.1 hx with hx | hx
      ·
       rcases zm.1 hx with hx | hx
       ·
        exact HTA.out x (yz hx)
       ·
        rw[ze.1 hx];exact hss
      ·
       exact HTA.out x (qbl hx)
     clear htm htn
     go_region_law (first
      | (refine xm (v:= .slice (some ⟨wy.heap.size,0,none⟩) 0 0) wy.heap.size [] (t.take k) (t.take k) rfl 0 k k rfl HT1.out HT1.out rfl (.tmp 45) (.tmp 48) rfl rfl (by simp[Act.eval,Act.put]) (by simp[Act.eval,Act.put]) (by first | exact qca _ _ | exact(qca _ _).alloc _) (HRT.out _ (by first | exact HBA.out _ _ (HBM.out _) | exact HBA.out _ _ (HBA.out _ _ (HBM.out _)))) (by omega) (by simp <;> omega) ?_;intro A4 c4 w4 ho4 hg4;have hb4:Below wy.heap.size wy w4:=HBG.out _ _ _ (by first | exact HBA.out _ _ (HBM.out _) | exact HBA.out _ _ (HBA.out _ _ (HBM.out _))) hg4 (fun g hg=>by simp[Value.ownBlock] at hg;omega);have hcl:=HCL.out _ hb4)
      | (refine xm (v:= .slice (some ⟨wy.heap.size+1,0,none⟩) 0 0) wy.heap.size [] (t.take k) (t.take k) rfl 0 k k rfl HT1.out HT1.out rfl (.tmp 45) (.tmp 48) rfl rfl (by simp[Act.eval,Act.put]) (by simp[Act.eval,Act.put]) (qhy _ _ _) (HRT.out _ (HBA.out _ _ (HBA.out _ _ (HBM.out _)))) (by omega) (by simp <;> omega) ?_;intro A4 c4 w4 ho4 hg4;have hb4:Below wy.heap.size wy w4:=HBG.out _ _ _ (HBA.out _ _ (HBA.out _ _ (HBM.out _))) hg4 (fun g hg=>by simp[Value.ownBlock] at hg;omega);have hcl:=HCL.out _ hb4)
      | (refine xm (v:= .slice A4 k c4) wy.heap.size (t.take k) [s] tm HTM.out k 1 (k+1) HT1.out rfl HT3.out rfl (.tmp 49) (.tmp 54) rfl rfl (by simp[Act.eval,Act.put]) (by simp[Act.eval,Act.put];rfl) (by first | exact ho4 | exact ho4.alloc _) (rd_one (by first | exact qgf _ _ _ | exact qbs hg4 (qgv _ _ _ _) (by simp[Value.ownBlock]) | exact qbs hg4 (qf5 _ _ _ _) (by simp[Value.ownBlock]))) (by omega) (by first | exact hb4.size | exact(HBA.out _ _ hb4).size) ?_;intro A5 c5 w5 ho5 hg5;have hb5:Below wy.heap.size wy w5:=HBG.out _ _ _ (by first | exact hb4 | exact HBA.out _ _ hb4) hg5 (fun g hg=>(zk ho4 hg).1))
      | (refine xm (v:= .slice A5 (k+1) c5) wy.heap.size tm (t.drop k) tn HTN.out (k+1) (t.length-k) (k+1+(t.length-k)) HT3.out HT2.out HT4.out rfl (.tmp 55) (.tmp 58) rfl rfl (by simp[Act.eval,Act.put]) (by simp[Act.eval,Act.put]) ho5 (HRD.out _ hb5) (by omega) hb5.size ?_;intro A6 c6 w6 ho6 hg6;have HB6:=qa (HBG.out _ _ _ hb5 hg6 (fun g hg=>(zk ho5 hg).1));have HO6:=qa ho6;clear ho6 hg6))
     all_goals
      go_wp2_with fail
      go_roundw
      case rel=>exact⟨i+1,tn,A6,c6,by omega,by go_num,by rw[HT4.out],by rw[HT4.out];omega,HSZ.out,HSN.out,by rw[HT4.out];exact jm HO6.out hsz,HB.out.trans (HB6.out.mono hsz)⟩
      case measure=>simp[intOf] <;> omega
  ·
   have ik:¬(i:Int)<(l.length:Int):=by omega
   have hil:i=l.length:=by omega
   have HSF:Hid (qaj (qm l) (qm t)):=by
    have:=HSO.out
    rw[qo (by omega)] at this
    exact this
   go_wp2_with fail
   go_ret
   exact⟨t,A',c',rfl,HSF.out,by omega,HO.out,HB.out⟩
end Go.Proofs.YtjfecojdagmacaaGreat
