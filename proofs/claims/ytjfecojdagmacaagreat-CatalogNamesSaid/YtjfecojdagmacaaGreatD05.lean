/-
  Lemmas.
-/
import Derived.Test.YtjfecojdagmacaaGreatD04
namespace Go.Proofs.YtjfecojdagmacaaGreat
open Go.RowKit
set_option maxRecDepth 20000
set_option maxHeartbeats 16000000
set_option linter.unusedSimpArgs false
set_option linter.unusedVariables false
theorem Tryz.infoStr:(Tryz.prog.info? 9).map (fun i=>(i.zero,i.size,i.bytes))=some (some (.string ⟨#[]⟩),1,16):=by kernel_rfl
theorem qiv(w:World)(base:Nat)(v:Value)(ys zs us:List ByteArray)(hus:ys++zs=us)(hown:w.ownsRow base 9 1 v ys.length (sv ys)){lo h':Nat}{A:Option Addr}{c:Nat}(hr:Rd w lo h' A c (sv zs))
  (hb:ys.length+zs.length≤1000000000) (hbase:base≤w.heap.size) :
  ∃A' c' w',(Builtin.append_ #[52,52] 52 #[v,.slice A zs.length c]).run Tryz.prog w= .ok (.slice A' us.length c') w'∧
   w'.ownsRow base 9 1 (.slice A' us.length c') us.length (sv us)∧w.grownBy w' v.ownBlock:=by
 subst hus
 obtain⟨i0,hi0,hz0,hz1,hz2⟩:=info_parts Tryz.infoStr
 have hl:=j7 zs
 obtain⟨A',c',w',hrun,h2,h3,_⟩:=vt (P:=Tryz.prog) w base 52 52 9 i0 _ 16 Tryz.underlying52 hi0 hz0 hz1 hz2 rfl v ys.length (sv ys) hown lo h' A c (sv zs) hr (sv_one _)
  (by rw[hl];simp only[maxLen];omega) (by rw[hl];omega) hbase
 rw[hl] at hrun h2
 rw[qd]
 exact⟨A',c',w',hrun,by rw[qos];exact h2,h3⟩
theorem vh{ops:Array Oper}{rest:List Oper}{o:Oper}{a:Act}{Q:Exit→Act→World→Prop}{w:World}{v:Value}{g:Nat}(base:Nat)(ys:List ByteArray)(z:ByteArray)(hgd:o.guard=none)(s x:Operand)
  (ho:o.op= .call { callee:= .builtin .append,args:=#[s,x],argTypes:=#[52,52] }) (hty:o.type=52)
  (hs:a.eval s=v) (hx:a.eval x= .slice (some ⟨g,0,none⟩) 1 1) (hcell:w.cell? ⟨g,0,none⟩=some (.string z))
  (hown:w.ownsRow base 9 1 v ys.length (sv ys)) (hb:ys.length+1≤1000000000) (hbase:base≤w.heap.size)
  (h:∀A' c' w',w'.ownsRow base 9 1 (.slice A' (ys++[z]).length c') (ys++[z]).length (sv (ys++[z]))→w.grownBy w' v.ownBlock→wpList Tryz.prog ops Q rest (a.put o.dst (.slice A' (ys.length+1) c')) w') :
  wpList Tryz.prog ops Q (o :: rest) a w:=by
 have hr:Rd w 0 w.heap.size (some ⟨g,0,none⟩) 1 (sv [z]):=⟨by simp[sv],by simp[maxLen],fun _=>⟨g,0,rfl,qi _,ya w _ hcell,fun j u hu=>by
  match j,hu with
  | 0,hu =>
   simp[sv] at hu
   subst hu
   exact hcell
  | j+1,hu=>simp[sv] at hu⟩⟩
 obtain⟨A',c',w',hrun,h2,h3⟩:=qiv w base v ys [z] (ys++[z]) rfl hown hr (by simpa using hb) hbase
 rw[show(ys++[z]).length=ys.length+1 from by simp] at hrun
 exact wpList_append_run hgd s x _ _ ho hs hx (by rw[hty];exact hrun) (h A' c' w' h2 h3)
theorem ok_size(s:ByteArray):qhm s.data.toList=(decide (1≤s.size)&&decide (s.size≤8)):=by
 unfold qhm
 rw[jt]
 rfl
theorem fits_any{w:World}(z:Int):Calls Tryz.prog 194 #[.int .i64 z] w fun r w'=>r= .returned (.bool (decide (1≤z)&&decide (z≤8)))∧w=w':=by
 by_cases h0:z<1
 ·
  have hf:decide (1≤z)=false:=qr (by omega)
  rw[hf]
  go_enter Tryz.func194,Tryz.ntmps194
  go_wp2
  go_ret
  exact⟨rfl,rfl⟩
 ·
  have ht:decide (1≤z)=true:=qx (by omega)
  rw[ht]
  by_cases h1:z≤8
  ·
   have h2:decide (z≤8)=true:=qx h1
   rw[h2]
   go_enter Tryz.func194,Tryz.ntmps194
   go_wp2
   go_ret
   exact⟨rfl,rfl⟩
  ·
   have h2:decide (z≤8)=false:=qr h1
   rw[h2]
   go_enter Tryz.func194,Tryz.ntmps194
   go_wp2
   go_ret
   exact⟨rfl,rfl⟩
theorem fits_size(s:ByteArray):(decide (1≤(s.size:Int))&&decide ((s.size:Int)≤8))=qhm s.data.toList:=by
 rw[ok_size]
 congr 1 <;> (rw[decide_eq_decide];omega)
theorem less_cmp:∀(a b:List UInt8),Op.bytesLess a b=decide (yl a b<0)
 | [],[]=>by simp[Op.bytesLess,yl]
 | [],_ :: _=>by simp[Op.bytesLess,yl]
 | _ :: _,[]=>by simp[Op.bytesLess,yl]
 | x :: a,y :: b=>by
  unfold Op.bytesLess yl
  by_cases h1:x.toNat<y.toNat
  ·
   rw[if_pos h1,qx (show x<y from h1)];rfl
  ·
   rw[if_neg h1,qr (show ¬x<y from h1),Bool.false_or]
   by_cases h2:y.toNat<x.toNat
   ·
    rw[if_pos h2,show(x==y)=false from q9.2 (fun e=>by subst e;omega)];rfl
   ·
    rw[if_neg h2,show(x==y)=true from beq_iff_eq.2 (qbd.1 (by omega)),qe2,less_cmp a b]
theorem qjf(a b:ByteArray):Op.bytesLess a.toList b.toList=decide (yl a.data.toList b.data.toList<0):=by rw[z6,z6,less_cmp]
def qfi:List (List UInt8)→Nat→Int→Nat→List UInt8→Int×Nat
 | [],_,c,n,_=>(c,n)
 | t :: ts,i,c,n,l=>if n<t.length∧t.isPrefixOf l=true then qfi ts (i+1) (i:Int) t.length l else qfi ts (i+1) c n l
theorem qgi(s:ByteArray):s.data.toList.length=s.size:=by rw[jt];rfl
theorem headS(s:ByteArray)(k:Nat):(s.extract 0 k).data.toList=s.data.toList.take k:=by
 rw[qdq,qen]
 simp[qcd]
def qi5(ts:List (List UInt8))(s:List UInt8):Prop:=qhm s=true∧∀x∈ts,yl x s<0
theorem qm3:∀ {t:List (List UInt8)} {b:List UInt8},xc t=true→(∀x∈t,yl x b<0)→xc (t++[b])=true
 | [],b,_,_=>rfl
 | [a],b,_,h=>by
  show xc [a,b]=true
  exact ug.2 ⟨h a je,rfl⟩
 | a :: c :: t,b,hr,h=>by
  obtain⟨h1,h2⟩:=ug.1 hr
  exact ug.2 ⟨h1,qm3 h2 fun x hx=>h x (j5 _ hx)⟩
structure Ord (l t:List (List UInt8)):Prop where
 rises:xc t=true
 of:∀x∈t,x∈l∧qhm x=true
 all:∀s∈l,qhm s=true→s∈t∨∀x∈t,yl x s<0
theorem Ord.nil(l:List (List UInt8)):Ord l []:=⟨rfl,fun x hx=>(by cases hx),fun s _ _=>Or.inr fun x hx=>(by cases hx)⟩
theorem Ord.push{l t:List (List UInt8)}{b:List UInt8}(h:Ord l t)(hb:b∈l)(hc:qi5 t b)(hm:∀s∈l,qi5 t s→yl b s≤0):Ord l (t++[b]):=by
 refine⟨qm3 h.rises hc.2,fun x hx => ?_,fun s hs ho => ?_⟩
 ·
  rcases zm.1 hx with hx | hx
  ·
   exact h.of x hx
  ·
   rw[ze.1 hx];exact⟨hb,hc.1⟩
 ·
  rcases h.all s hs ho with h1 | h1
  ·
   exact Or.inl (List.mem_append_left _ h1)
  ·
   have h2:=hm s hs ⟨ho,h1⟩
   rcases Int.lt_or_eq_of_le h2 with h3 | h3
   ·
    refine Or.inr fun x hx => ?_
    rcases zm.1 hx with hx | hx
    ·
     exact h1 x hx
    ·
     rw[ze.1 hx];exact h3
   ·
    rw[←qbq h3]
    exact Or.inl (qce _ je)
def qni(last s:List UInt8):Bool:=qhm s&&decide (yl last s<0)
theorem qp0{w:World}(a s:ByteArray)(hs:s.size≤9223372036854775807):Calls Tryz.prog 195 #[.string a,.string s] w fun r w'=>r= .returned (.bool (qni a.data.toList s.data.toList))∧∃m,w'=w.drewN m:=by
 have HF:=qa (fun w=>fits_any (w:=w) (s.size:Int))
 rw[fits_size] at HF
 have hless:=qjf a s
 unfold qni
 by_cases hok:qhm s.data.toList=true
 ·
  rw[hok] at HF ⊢
  generalize decide (yl a.data.toList s.data.toList<0)=v at *
  go_enter Tryz.func195,Tryz.ntmps195
  go_wp2_with fail
  refine(HF.out _).mono ?_
  rintro r w' ⟨rfl,rfl⟩
  go_wp2
  go_ret
  exact⟨rfl,0,rfl⟩
 ·
  rw[Bool.not_eq_true] at hok
  rw[hok] at HF ⊢
  clear hless
  go_enter Tryz.func195,Tryz.ntmps195
  go_wp2_with fail
  refine(HF.out _).mono ?_
  rintro r w' ⟨rfl,rfl⟩
  go_wp2
  go_ret
  exact⟨rfl,0,rfl⟩
def qh1(n:Nat):Bool:=decide (1≤(n:Int))&&decide ((n:Int)≤8)
theorem sizeOk_iff{n:Nat}:qh1 n=true↔1≤n∧n≤8:=by
 unfold qh1
 rw[yx,decide_eq_true_eq,decide_eq_true_eq]
 omega
def qf4(bs:List UInt8)(p:Nat)(e:Int)(last:List UInt8):List UInt8×Nat×Int :=
 let r:=jo bs p e 0 1
 let n:=(r.1.headD 0).toNat
 let e2:=if qh1 n=true then r.2.2 else xd r.2.2
 let q:=jo bs r.2.1 e2 0 n
 (q.1,q.2.1,if qni last q.1=true then q.2.2 else xd q.2.2)
def qfy(bs:List UInt8):Nat→Nat→Int→List UInt8→List (List UInt8)×Nat×Int
 | 0,p,e,_=>([],p,e)
 | n+1,p,e,last=>((qf4 bs p e last).1 :: (qfy bs n (qf4 bs p e last).2.1 (qf4 bs p e last).2.2 (qf4 bs p e last).1).1,(qfy bs n (qf4 bs p e last).2.1 (qf4 bs p e last).2.2 (qf4 bs p e last).1).2)
theorem qhs(bs:List UInt8)(k:Nat){e:Int}(n:Int)(h:e≠0):jo bs k e 0 n=([],k,e):=by simp[jo,h]
theorem gstep_bad(bs:List UInt8)(p:Nat){e:Int}(last:List UInt8)(h:e≠0):qf4 bs p e last=([],p,e):=by
 unfold qf4
 simp only[qhs bs p _ h,uy h,ite_self]
theorem qk9(bs:List UInt8):∀(n p:Nat) {e:Int} (last:List UInt8),e≠0→(qfy bs n p e last).2=(p,e)
 | 0,p,e,last,_=>rfl
 | n+1,p,e,last,h=>by
  unfold qfy
  simp only[gstep_bad bs p last h]
  exact qk9 bs n p [] h
theorem qeq{bs:List UInt8}{p:Nat}(h:p<bs.length):jo bs p 0 0 1=([bs[p]],p+1,0):=by
 rw[show(1:Int)=((1:Nat):Int) from rfl,qcw bs p 1 (by omega)]
 congr 1
 rw[jc h]
 rfl
theorem gstep_end{bs:List UInt8}{p:Nat}(last:List UInt8)(h:bs.length≤p):qf4 bs p 0 last=([],p,2):=by
 have h1:jo bs p 0 0 1=([],p,2):=by
  rw[show(1:Int)=((1:Nat):Int) from rfl]
  exact qc0 bs p 1 (by omega)
 unfold qf4
 simp only[h1]
 have h2:qh1 (([]:List UInt8).headD 0).toNat=false:=rfl
 have h3:xd 2=2:=rfl
 simp only[h2,h3,qar,if_false,qhs bs p _ (show(2:Int)≠0 by decide),ite_self]
theorem gstep_short{bs:List UInt8}{p:Nat}(last:List UInt8)(h:p<bs.length)(ho:qh1 bs[p].toNat=true)(hs:bs.length<p+1+bs[p].toNat):qf4 bs p 0 last=([],p+1,2):=by
 unfold qf4
 simp only[qeq h,List.headD_cons,ho,if_true,qc0 bs (p+1) _ hs]
 have h3:xd 2=2:=rfl
 simp only[h3,ite_self]
theorem gstep_size{bs:List UInt8}{p:Nat}(last:List UInt8)(h:p<bs.length)(ho:qh1 bs[p].toNat=false):qf4 bs p 0 last=([],p+1,3):=by
 unfold qf4
 have h3:xd 0=3:=rfl
 have h4:xd 3=3:=rfl
 simp only[qeq h,List.headD_cons,ho,qar,if_false,h3,qhs bs (p+1) _ (show(3:Int)≠0 by decide),h4,ite_self]
theorem qo2{bs:List UInt8}{p:Nat}(last:List UInt8)(h:p<bs.length)(ho:qh1 bs[p].toNat=true)(hs:p+1+bs[p].toNat≤bs.length) :
  qf4 bs p 0 last=((bs.drop (p+1)).take bs[p].toNat,p+1+bs[p].toNat,if qni last ((bs.drop (p+1)).take bs[p].toNat)=true then 0 else 3):=by
 unfold qf4
 simp only[qeq h,List.headD_cons,ho,if_true,qcw bs (p+1) _ hs]
 rfl
def qkh(t:List (List UInt8)):List UInt8:=t.flatMap fun s=>UInt8.ofNat s.length :: s
theorem qht(s:List UInt8)(t:List (List UInt8)):qkh (s :: t)=UInt8.ofNat s.length :: (s++qkh t):=by simp[qkh]
theorem qhw(t:List (List UInt8)):qef t=UInt8.ofNat t.length :: qkh t:=rfl
theorem getF_good{bs:List UInt8}:∀(n p:Nat) (last:List UInt8) {t:List (List UInt8)} {q:Nat},qfy bs n p 0 last=(t,q,0)→p≤bs.length→
  t.length=n∧(∀s∈t,qhm s=true)∧xc (last :: t)=true∧p≤q∧q≤bs.length∧(bs.drop p).take (q-p)=qkh t
 | 0,p,last,t,q,h,hp=>by
  simp only[qfy,Prod.mk.injEq,and_true] at h
  obtain⟨rfl,rfl⟩:=h
  exact⟨rfl,fun s hs=>(by cases hs),rfl,qc _,hp,by simp[qkh]⟩
 | n+1,p,last,t,q,h,hp=>by
  by_cases h1:p<bs.length
  ·
   cases ho:qh1 bs[p].toNat with
   | false =>
    exfalso
    unfold qfy at h
    simp only[gstep_size last h1 ho] at h
    have:=qk9 bs n (p+1) (e:=3) [] (by decide)
    rw[this] at h
    simp at h
   | true =>
    by_cases hs:p+1+bs[p].toNat≤bs.length
    ·
     obtain⟨s,hse⟩:∃s,(bs.drop (p+1)).take bs[p].toNat=s:=⟨_,rfl⟩
     have hsl:s.length=bs[p].toNat:=by rw[←hse,qz,qy];omega
     cases hf:qni last s with
     | false =>
      exfalso
      unfold qfy at h
      simp only[qo2 last h1 ho hs,hse,hf,qar,if_false] at h
      have:=qk9 bs n (p+1+bs[p].toNat) (e:=3) s (by decide)
      rw[this] at h
      simp at h
     | true =>
      unfold qfy at h
      simp only[qo2 last h1 ho hs,hse,hf,if_true] at h
      obtain⟨R,hR⟩:∃R,qfy bs n (p+1+bs[p].toNat) 0 s=R:=⟨_,rfl⟩
      rw[hR] at h
      obtain⟨t',q',e'⟩:=R
      simp only[Prod.mk.injEq] at h
      obtain⟨rfl,rfl,rfl⟩:=h
      obtain⟨i1,i2,i3,i4,i5,i6⟩:=getF_good n (p+1+bs[p].toNat) s hR hs
      rw[qni,yx,decide_eq_true_eq] at hf
      refine⟨by rw[qw,i1],fun x hx => ?_,ug.2 ⟨hf.2,i3⟩,by omega,i5,?_⟩
      ·
       rcases z7.1 hx with rfl | hx
       ·
        exact hf.1
       ·
        exact i2 x hx
      ·
       rw[qht,←i6,hsl]
       have hx:UInt8.ofNat bs[p].toNat=bs[p]:=by simp
       rw[hx,jc h1]
       obtain⟨d,hd⟩:∃d,q'-p=d+1:=⟨q'-p-1,by omega⟩
       rw[hd,j8]
       congr 1
       have hd2:d=bs[p].toNat+(q'-(p+1+bs[p].toNat)):=by omega
       rw[hd2,List.take_add,hse,jh]
    ·
     exfalso
     unfold qfy at h
     simp only[gstep_short last h1 ho (by omega)] at h
     have:=qk9 bs n (p+1) (e:=2) [] (by decide)
     rw[this] at h
     simp at h
  ·
   exfalso
   unfold qfy at h
   simp only[gstep_end last (Nat.le_of_not_lt h1)] at h
   have:=qk9 bs n p (e:=2) [] (by decide)
   rw[this] at h
   simp at h
theorem rises_nil{t:List (List UInt8)}(h:∀s∈t,qhm s=true)(hr:xc t=true):xc ([] :: t)=true:=by
 cases t with
 | nil=>rfl
 | cons s t =>
  refine ug.2 ⟨?_,hr⟩
  have:=(qfo.1 (h s je)).1
  cases s with
  | nil=>simp at this
  | cons=>simp[yl]
theorem gstep_put{pre s post:List UInt8}{last:List UInt8}(ho:qhm s=true)(hr:yl last s<0):qf4 (pre++UInt8.ofNat s.length :: (s++post)) pre.length 0 last=(s,pre.length+1+s.length,0):=by
 obtain⟨h1,h2⟩:=qfo.1 ho
 have hp:pre.length<(pre++UInt8.ofNat s.length :: (s++post)).length:=by simp
 have hx:(pre++UInt8.ofNat s.length :: (s++post))[pre.length]=UInt8.ofNat s.length:=by simp
 have hn:(UInt8.ofNat s.length).toNat=s.length:=by simp;omega
 have hd:((pre++UInt8.ofNat s.length :: (s++post)).drop (pre.length+1)).take s.length=s:=by
  rw[show pre++UInt8.ofNat s.length :: (s++post)=(pre++[UInt8.ofNat s.length])++(s++post) by simp,show pre.length+1=(pre++[UInt8.ofNat s.length]).length by simp,ym,List.take_left]
 have:=qo2 last hp (by rw[hx,hn];exact sizeOk_iff.2 ⟨h1,h2⟩) (by rw[hx,hn];simp;omega)
 rw[this,hx,hn,hd]
 have hf:qni last s=true:=by rw[qni,ho,qx hr];rfl
 rw[if_pos hf]
theorem getF_put:∀(t:List (List UInt8)) (pre post last:List UInt8),(∀s∈t,qhm s=true)→xc (last :: t)=true→qfy (pre++(qkh t++post)) t.length pre.length 0 last=(t,pre.length+(qkh t).length,0)
 | [],pre,post,last,_,_=>rfl
 | s :: t,pre,post,last,ho,hr=>by
  obtain⟨h1,h2⟩:=ug.1 hr
  have hb:pre++(qkh (s :: t)++post)=pre++UInt8.ofNat s.length :: (s++(qkh t++post)):=by rw[qht];simp
  have hb2:pre++(qkh (s :: t)++post)=(pre++UInt8.ofNat s.length :: s)++(qkh t++post):=by rw[qht];simp
  have hl:(pre++UInt8.ofNat s.length :: s).length=pre.length+1+s.length:=by simp;omega
  have ih:=getF_put t (pre++UInt8.ofNat s.length :: s) post s (fun x hx=>ho x (j5 _ hx)) h2
  rw[←hb2,hl] at ih
  rw[qw,qfy]
  have hg:=gstep_put (pre:=pre) (post:=qkh t++post) (ho s je) h1
  rw[←hb] at hg
  simp only[hg]
  rw[ih,qht]
  simp
  omega
def qqk(bs:List UInt8)(k:Nat)(e:Int):Nat:=((jo bs k e 0 1).1.headD 0).toNat
def qjh(bs:List UInt8)(k:Nat)(e:Int):List (List UInt8)×Nat×Int:=qfy bs (qqk bs k e) (jo bs k e 0 1).2.1 (jo bs k e 0 1).2.2 []
def qe7(bs:List UInt8)(k:Nat)(e:Int):List (List UInt8)×Nat×Int:=if (qjh bs k e).2.2=0 then qjh bs k e else ([],(qjh bs k e).2)
theorem getK_bad(bs:List UInt8)(k:Nat){e:Int}(h:e≠0):qe7 bs k e=([],k,e):=by
 have h1:qjh bs k e=([],k,e):=by
  unfold qjh qqk
  rw[qhs bs k 1 h]
  rfl
 rw[qe7,h1,if_neg h]
theorem getK_good{bs:List UInt8}{k k2:Nat}{t:List (List UInt8)}(hk:k≤bs.length)(h:qe7 bs k 0=(t,k2,0)) :
  y7 t=true∧bs.drop k=qef t++bs.drop k2∧k2=k+(qef t).length∧k2≤bs.length:=by
 unfold qe7 at h
 split at h
 ·
  unfold qjh at h
  by_cases hlt:k<bs.length
  ·
   have hT:=qeq hlt
   have hN:qqk bs k 0=bs[k].toNat:=by rw[qqk,hT];rfl
   rw[hN,hT] at h
   obtain⟨h1,h2,h3,h4,h5,h6⟩:=getF_good _ _ _ h (by show k+1≤bs.length;omega)
   have hb:=jj bs[k]
   have hr:xc t=true:=by
    cases t with
    | nil=>rfl
    | cons s t=>exact(ug.1 h3).2
   have hx:UInt8.ofNat t.length=bs[k]:=by rw[h1];simp
   have hd:bs.drop k=qef t++bs.drop k2:=by
    rw[jc hlt,qhw,hx,jd,←h6]
    congr 1
    have e2:bs.drop k2=(bs.drop (k+1)).drop (k2-(k+1)):=by rw[jh];congr 1;simp at h4;omega
    rw[e2,zx]
   have hl:=congrArg List.length hd
   rw[qd,qy,qy] at hl
   simp at h4 h5
   exact⟨uw.2 ⟨by omega,h2,hr⟩,hd,by omega,h5⟩
  ·
   exfalso
   have hT:jo bs k 0 0 1=([],k,2):=by
    rw[show(1:Int)=((1:Nat):Int) from rfl]
    exact qc0 bs k 1 (by omega)
   have hN:qqk bs k 0=0:=by rw[qqk,hT];rfl
   rw[hN,hT] at h
   simp[qfy] at h
 ·
  rename_i hne
  simp only[Prod.mk.injEq] at h
  exact absurd (congrArg Prod.snd h.2) hne
theorem getK_there{bs rest:List UInt8}{k:Nat}{t:List (List UInt8)}(hk:k≤bs.length)(hr:y7 t=true)(h:bs.drop k=qef t++rest):qe7 bs k 0=(t,k+(qef t).length,0):=by
 obtain⟨h5,ho,hri⟩:=uw.1 hr
 have hn:(UInt8.ofNat t.length).toNat=t.length:=by simp;omega
 have hlt:k<bs.length:=by
  have:=congrArg List.length h
  rw[qy,qhw] at this
  simp at this
  omega
 have hc:=jc hlt
 rw[h,qhw,jd,List.cons.injEq] at hc
 obtain⟨c1,c2⟩:=hc
 have hT:=qeq hlt
 have hN:qqk bs k 0=t.length:=by rw[qqk,hT,List.headD_cons,←c1];exact hn
 have hb:bs=bs.take (k+1)++(qkh t++rest):=by rw[c2,zx]
 have hl:(bs.take (k+1)).length=k+1:=by rw[qz];omega
 have hA:qjh bs k 0=(t,k+(qef t).length,0):=by
  rw[qjh,hN,hT]
  have:=getF_put t (bs.take (k+1)) rest [] ho (rises_nil ho hri)
  rw[←hb,hl] at this
  refine this.trans ?_
  rw[qhw]
  simp
  omega
 rw[qe7,hA,if_pos rfl]
def vm(s:List UInt8):List UInt8:=ji s.length++s
def qle(l:List (List UInt8)):Bool:=decide (l.length≤4096)&&l.all (fun s=>decide (s.length≤4096))&&xc l
theorem qdl{l:List (List UInt8)}:qle l=true↔l.length≤4096∧(∀s∈l,s.length≤4096)∧xc l=true:=by
 unfold qle
 rw[yx,yx,decide_eq_true_eq,List.all_eq_true,and_assoc]
 simp only[decide_eq_true_eq]
def xl:List UInt8→List UInt8→Nat
 | x :: a,y :: b=>if x=y then xl a b+1 else 0
 | _,_=>0
theorem qkt:∀a b:List UInt8,xl a b≤a.length∧xl a b≤b.length
 | [],_=>⟨qi _,qi _⟩
 | _ :: _,[]=>⟨qi _,qi _⟩
 | x :: a,y :: b=>by
  unfold xl
  have:=qkt a b
  split <;> simp <;> omega
theorem qi9:∀ {a b:List UInt8} {n:Nat} (hn:n≤a.length) (hm:n≤b.length),a.take n=b.take n→(∀(h1:n<a.length) (h2:n<b.length),a[n]≠b[n])→xl a b=n
 | [],b,n,hn,_,_,_=>by
  obtain rfl:n=0:=Nat.le_zero.1 hn
  cases b <;> rfl
 | x :: a,[],n,_,hm,_,_=>by
  obtain rfl:n=0:=Nat.le_zero.1 hm
  rfl
 | x :: a,y :: b,0,_,_,_,h=>by
  have:=h (by simp) (by simp)
  simp only[kj] at this
  unfold xl
  rw[if_neg this]
 | x :: a,y :: b,n+1,hn,hm,he,h=>by
  simp only[j8,List.cons.injEq] at he
  unfold xl
  rw[if_pos he.1,qi9 (n:=n) (by simpa using hn) (by simpa using hm) he.2 (fun h1 h2=>by
   have:=h (by simpa using h1) (by simpa using h2)
   simpa using this)]
def entL(block i:Nat)(prev cur:List UInt8):List UInt8 :=
 if i%block=0 then vm cur else ji (xl prev cur)++vm (cur.drop (xl prev cur))
def qha(block:Nat)(l:List (List UInt8))(i:Nat):List UInt8:=entL block i (l.getD (i-1) []) (l.getD i [])
def qao(block:Nat)(l:List (List UInt8))(k:Nat):List UInt8:=((List.range k).map (qha block l)).flatten
theorem ents_zero(block:Nat)(l:List (List UInt8)):qao block l 0=[]:=rfl
theorem qd7(block:Nat)(l:List (List UInt8))(k:Nat):qao block l (k+1)=qao block l k++qha block l k:=by
 unfold qao
 rw[List.range_succ,jl,qfd]
 simp
def qmr(ss:List Nat)(n:Nat):List Nat:=ss.set (ss.length-1) (ss.getLastD 0+n)
theorem qp7(ss:List Nat)(n:Nat):(qmr ss n).length=ss.length:=by simp[qmr]
def yk(block:Nat)(l:List (List UInt8)):Nat→List Nat
 | 0=>[]
 | k+1=>qmr (if k%block=0 then yk block l k++[0] else yk block l k) (qha block l k).length
theorem qlu(block:Nat)(l:List (List UInt8)):∀k,(yk block l k).length≤k
 | 0=>qc _
 | k+1=>by
  have:=qlu block l k
  unfold yk
  rw[qp7]
  split
  ·
   rw[qd];simp;omega
  ·
   omega
theorem getLastD_mem{ss:List Nat}:ss.getLastD 0=0∨ss.getLastD 0∈ss:=by
 cases ss with
 | nil=>exact Or.inl rfl
 | cons a t =>
  right
  rw[List.getLastD_eq_getLast?,List.getLast?_eq_some_getLast (by simp)]
  exact List.getLast_mem _
theorem sizes_le(block:Nat)(l:List (List UInt8)):∀k,∀x∈yk block l k,x≤(qao block l k).length
 | 0,x,hx=>by cases hx
 | k+1,x,hx=>by
  have ih:=sizes_le block l k
  have hl:∀y∈(if k%block=0 then yk block l k++[0] else yk block l k),y≤(qao block l k).length:=by
   intro y hy
   split at hy
   ·
    rcases zm.1 hy with h | h
    ·
     exact ih y h
    ·
     rw[ze.1 h];exact qi _
   ·
    exact ih y hy
  unfold yk qmr at hx
  generalize (if k%block=0 then yk block l k++[0] else yk block l k)=ss at *
  rw[qd7,qd]
  rcases List.mem_or_eq_of_mem_set hx with h | rfl
  ·
   have:=hl x h;omega
  ·
   rcases getLastD_mem (ss:=ss) with h | h
   ·
    rw[h];omega
   ·
    have:=hl _ h;omega
theorem entI_len(block:Nat){l:List (List UInt8)}(h:∀s∈l,s.length≤4096)(k:Nat):(qha block l k).length≤4200:=by
 have hd:∀i,(l.getD i []).length≤4096:=fun i=>by
  rw[yb]
  cases he:l[i]? with
  | none=>simp
  | some s=>exact h s (List.mem_of_getElem? he)
 have hp:∀n,n≤4096→(ji n).length≤9:=fun n hn=>ve n (by omega)
 have h1:=hd k
 have h2:=qkt (l.getD (k-1) []) (l.getD k [])
 unfold qha entL vm
 split
 ·
  rw[qd]
  have:=hp _ h1
  omega
 ·
  rw[qd,qd]
  have h3:=hp (xl (l.getD (k-1) []) (l.getD k [])) (by omega)
  have h4:=hp (List.drop (xl (l.getD (k-1) []) (l.getD k [])) (l.getD k [])).length (by rw[qy];omega)
  have h5:=qy (i:=xl (l.getD (k-1) []) (l.getD k [])) (l:=l.getD k [])
  omega
theorem qld(block:Nat){l:List (List UInt8)}(h:∀s∈l,s.length≤4096):∀k,(qao block l k).length≤4200*k
 | 0=>qc _
 | k+1=>by
  rw[qd7,qd]
  have h1:=qld block h k
  have h2:=entI_len block h k
  omega
def kv(block:Nat)(l:List (List UInt8)):List UInt8:=ji l.length++ji block++js (z8 (yk block l l.length))++qao block l l.length
def qf8(bs:List UInt8)(k:Nat)(e:Int):List UInt8×Nat×Int :=
 jo bs k (uz bs k e 4096).2.2 (uz bs k e 4096).2.1 ((uz bs k e 4096).1:Int)
theorem text_any{w:World}{lo g k:Nat}{bs:List UInt8}{e:Int}(h:vx w lo g bs k e) :
  Calls Tryz.prog 215 #[cp g] w fun r w'=>r= .returned (.string ⟨(qf8 bs k e).1.toArray⟩)∧
   vx w' lo g bs (qf8 bs k e).2.1 (qf8 bs k e).2.2∧w.grownBy w' (some g):=by
 have hk:=h.le
 have HP:=qa (peek_any 4096 h)
 have hs:=qm8 bs k e 4096 hk
 have HE0:qf8 bs k e=jo bs k (uz bs k e 4096).2.2 (uz bs k e 4096).2.1 ((uz bs k e 4096).1:Int):=rfl
 have HE:=qa HE0
 clear h HE0
 generalize qf8 bs k e=M at *
 generalize uz bs k e 4096=R at *
 go_enter Tryz.func215,Tryz.ntmps215
 go_wp2_with fail
 refine HP.out.mono ?_
 rintro r w1 ⟨rfl,hc1,hg1⟩
 have HC:=qa hc1
 clear hc1
 go_wp2_with fail
 refine(qnp _ _ HC.out hs).mono ?_
 rintro r w2 ⟨A,c,rfl,hrd,hc2,hg2⟩
 rw[←HE.out] at hc2 hrd ⊢
 have HC2:=qa hc2
 have hstr:=ul (P:=Tryz.prog) w2 36 9 5 Tryz.underlying36 Tryz.underlying5 Tryz.underlying9 lo g A c M.1 hrd
 clear hc2 hrd
 go_wp2
 go_ret
 exact⟨rfl,HC2.out,hg1.trans hg2⟩
theorem text_bad(bs:List UInt8)(k:Nat){e:Int}(h:e≠0):qf8 bs k e=([],k,e):=by simp[qf8,uz,jo,h]
theorem text_good{bs s:List UInt8}{k k2:Nat}(hk:k≤bs.length)(h:qf8 bs k 0=(s,k2,0)) :
  s.length≤4096∧bs.drop k=vm s++bs.drop k2∧k2=k+(vm s).length∧k2≤bs.length:=by
 unfold qf8 at h
 rcases peek_split bs k 4096 with ⟨e,he,hr⟩ | ⟨h1,h2,hr⟩
 ·
  rw[hr] at h
  simp only[qcx _ _ _ _ _ he,Prod.mk.injEq] at h
  exact absurd h.2.2 he
 ·
  rw[hr] at h
  obtain⟨f1,f2,f3⟩:=vnum_form _ h1
  have hs:=qoq (bs.drop k)
  rw[qy] at hs
  have hl:(ji (qbv (bs.drop k)).1).length=(qbv (bs.drop k)).2.1:=by rw[f1,qz,qy];omega
  generalize (qbv (bs.drop k)).1=n at *
  generalize (qbv (bs.drop k)).2.1=z at *
  by_cases hf:k+z+n≤bs.length
  ·
   have hT:jo bs k 0 z (n:Int)=((bs.drop (k+z)).take n,k+z+n,0):=by
    unfold jo
    rw[if_neg (by simp),if_neg (by omega),if_neg (by omega),vr]
   simp only[hT,Prod.mk.injEq,and_true] at h
   obtain⟨rfl,rfl⟩:=h
   have hsl:((bs.drop (k+z)).take n).length=n:=by rw[qz,qy];omega
   refine⟨by omega,?_,by rw[vm,qd,hsl,hl];omega,hf⟩
   rw[vm,hsl,f1,qp,←jh (i:=n),zx,←jh,zx]
  ·
   have hT:jo bs k 0 z (n:Int)=([],k,2):=by
    unfold jo
    rw[if_neg (by simp),if_neg (by omega),if_pos (by omega)]
   rw[hT] at h
   simp at h
theorem text_back{bs s rest:List UInt8}{k:Nat}(hk:k≤bs.length)(h:bs.drop k=vm s++rest)(hs:s.length≤4096):qf8 bs k 0=(s,k+(vm s).length,0):=by
 have hv:=vnum_putL s.length (by omega) (s++rest)
 have h':bs.drop k=ji s.length++(s++rest):=by rw[h,vm,qp]
 have h0:qf3 bs k 4096=0:=by
  unfold qf3
  rw[h',hv,if_neg (by simp),if_neg (by simp only[];omega)]
 have hlen:bs.length-k=(ji s.length).length+(s.length+rest.length):=by rw[←qy,h',qd,qd]
 have hp:uz bs k 0 4096=(s.length,(ji s.length).length,0):=by
  unfold uz
  rw[h',hv]
  simp[h0]
 unfold qf8
 rw[hp]
 unfold jo
 simp only[]
 rw[if_neg (by simp),if_neg (by omega),if_neg (by omega),vr,←jh,h',ym,List.take_left,vm,qd,qav]
def qd1:List UInt8→List (List UInt8)→List UInt8
 | _,[]=>[]
 | p,s :: t=>ji (xl p s)++(vm (s.drop (xl p s))++qd1 s t)
def qab:List (List UInt8)→List UInt8
 | []=>[]
 | s :: t=>vm s++qd1 s t
theorem entsR_snoc:∀(p:List UInt8) (t:List (List UInt8)) (s:List UInt8),qd1 p (t++[s])=qd1 p t++(ji (xl (t.getLastD p) s)++vm (s.drop (xl (t.getLastD p) s)))
 | p,[],s=>by simp[qd1]
 | p,x :: t,s=>by
  rw[jd,qd1,entsR_snoc x t s,qd1,List.getLastD_cons]
  simp
theorem blkL_snoc{t:List (List UInt8)}(h:t≠[])(s:List UInt8):qab (t++[s])=qab t++(ji (xl (t.getLastD []) s)++vm (s.drop (xl (t.getLastD []) s))):=by
 cases t with
 | nil=>exact absurd rfl h
 | cons x t =>
  rw[jd,qab,entsR_snoc,qab,List.getLastD_cons]
  simp
theorem lastD_take{l:List (List UInt8)}{j:Nat}(h:j<l.length)(d:List UInt8):(l.take (j+1)).getLastD d=l[j]:=by
 rw[qj h,List.getLastD_concat]
theorem getD_at{l:List (List UInt8)}{i:Nat}(h:i<l.length):l.getD i []=l[i]:=by
 rw[yb,qe h]
 rfl
theorem blk_ent{K i j:Nat}{l:List (List UInt8)}(hj:j<K)(h:i*K+j<l.length):qab ((l.drop (i*K)).take (j+1))=qab ((l.drop (i*K)).take j)++qha K l (i*K+j):=by
 have hd:j<(l.drop (i*K)).length:=by rw[qy];omega
 have he:(l.drop (i*K))[j]=l[i*K+j]:=by simp
 rw[qj hd,he]
 unfold qha entL
 rw[getD_at h]
 have hm:(i*K+j)%K=j:=by rw[xe,Nat.mul_add_mod,vc hj]
 rw[hm]
 cases j with
 | zero=>simp[qab,qd1]
 | succ j =>
  have hne:(l.drop (i*K)).take (j+1)≠[]:=fun e=>by
   have:=congrArg List.length e
   rw[qz,j4] at this
   omega
  have h2:i*K+(j+1)-1=i*K+j:=by omega
  rw[blkL_snoc hne,lastD_take (by omega),if_neg (by omega),h2,getD_at (by omega)]
  simp
theorem qn8{K i:Nat}{l:List (List UInt8)}:∀ {j:Nat},j≤K→i*K+j≤l.length→qao K l (i*K+j)=qao K l (i*K)++qab ((l.drop (i*K)).take j)
 | 0,_,_=>by simp[qab]
 | j+1,hj,h=>by
  rw[←qav,qd7,qn8 (j:=j) (by omega) (by omega),blk_ent (by omega) (by omega),qp]
theorem bump_snoc(S:List Nat)(x n:Nat):qmr (S++[x]) n=S++[x+n]:=by
 unfold qmr
 simp
theorem qou{K i:Nat}{l:List (List UInt8)}:∀ {j:Nat},j<K→i*K+(j+1)≤l.length→yk K l (i*K+(j+1))=yk K l (i*K)++[(qab ((l.drop (i*K)).take (j+1))).length]
 | 0,hj,h=>by
  rw[blk_ent hj (by omega)]
  simp[qab,yk,bump_snoc]
 | j+1,hj,h=>by
  have hm:(i*K+(j+1))%K=j+1:=by rw[xe,Nat.mul_add_mod,vc hj]
  rw[←qav,yk,if_neg (by omega),qou (j:=j) (by omega) (by omega),bump_snoc,blk_ent (j:=j+1) hj (by omega),qd]
theorem entI_app{K k:Nat}{l t:List (List UInt8)}(h:k<l.length):qha K (l++t) k=qha K l k:=by
 unfold qha
 rw[yb,yb,xa h,xa (by omega),←yb,←yb]
theorem ents_app{K:Nat}{l t:List (List UInt8)}:∀ {k:Nat},k≤l.length→qao K (l++t) k=qao K l k
 | 0,_=>rfl
 | k+1,h=>by rw[qd7,qd7,ents_app (by omega),entI_app (by omega)]
theorem sizes_app{K:Nat}{l t:List (List UInt8)}:∀ {k:Nat},k≤l.length→yk K (l++t) k=yk K l k
 | 0,_=>rfl
 | k+1,h=>by rw[yk,yk,sizes_app (by omega),entI_app (by omega)]
def qew(l:List (List UInt8))(s:List UInt8):Bool:=decide (s.length≤4096)&&(decide (l.length=0)||decide (yl (l.getLastD []) s<0))
def qed(l:List (List UInt8)):Bool:=l.all (fun s=>decide (s.length≤4096))&&xc l
theorem qgu(l:List (List UInt8))(s:List UInt8):qed (l++[s])=(qed l&&qew l s):=by
 unfold qed qew
 rw[List.all_append,List.all_cons,List.all_nil,Bool.and_true]
 rcases List.eq_nil_or_concat l with rfl | ⟨t,a,rfl⟩
 ·
  simp[xc]
 ·
  rw[List.concat_eq_append,qp,va,qm2]
  have h1:decide ((t++[a]).length=0)=false:=qr (by simp)
  have h2:(t++[a]).getLastD []=a:=by simp
  rw[h1,h2,Bool.false_or]
  generalize (t++[a]).all _=p
  generalize xc (t++[a])=q
  generalize decide (s.length≤4096)=r
  generalize decide (yl a s<0)=v
  revert p q r v
  decide
theorem qk8:∀ {l t:List (List UInt8)},qed (l++t)=true→qed l=true
 | l,[],h=>by simpa using h
 | l,s :: t,h=>by
  have h2:=qk8 (l:=l++[s]) (t:=t) (by rw[qp];exact h)
  rw[qgu,yx] at h2
  exact h2.1
theorem dic_good{l:List (List UInt8)}:qle l=(decide (l.length≤4096)&&qed l):=by unfold qle qed;rw[Bool.and_assoc]
def qg7(bs:List UInt8)(k:Nat)(e:Int)(last:List UInt8):List UInt8×Nat×Int :=
 let r:=jw bs k e last.length
 let t:=qf8 bs r.2.1 r.2.2
 let s:=last.take r.1++t.1
 (s,t.2.1,if xl last s=r.1 then t.2.2 else xd t.2.2)
def qo7(first:Bool)(bs:List UInt8)(k:Nat)(e:Int)(last:List UInt8):List UInt8×Nat×Int:=if first then qf8 bs k e else qg7 bs k e last
def qg1(bs:List UInt8)(E:Int)(l:List (List UInt8))(first:Bool)(last:List UInt8)(k:Nat)(e:Int):List UInt8×Nat×Int :=
 let r:=qo7 first bs k e last
 (r.1,r.2.1,if qew l r.1=true∧E≤((bs.length-r.2.1:Nat):Int) then r.2.2 else xd r.2.2)
def qf9(bs:List UInt8)(E:Int):Nat→Bool→List (List UInt8)→List UInt8→Nat→Int→List (List UInt8)×Nat×Int
 | 0,_,l,_,k,e=>(l,k,e)
 | m+1,f,l,last,k,e=>if (qg1 bs E l f last k e).2.2=0 then qf9 bs E m false (l++[(qg1 bs E l f last k e).1]) (qg1 bs E l f last k e).1 (qg1 bs E l f last k e).2.1 0 else (l,(qg1 bs E l f last k e).2.1,(qg1 bs E l f last k e).2.2)
def qgz(bs:List UInt8)(l:List (List UInt8))(k:Nat)(e:Int)(n size:Nat):List (List UInt8)×Nat×Int :=
 let r:=qf9 bs (((bs.length-k:Nat):Int)-size) n true l [] k e
 (r.1,r.2.1,if ((bs.length-r.2.1:Nat):Int)=((bs.length-k:Nat):Int)-size then r.2.2 else xd r.2.2)
def qg6(bs:List UInt8)(count K:Nat):List Nat→Nat→List (List UInt8)→Nat→Int→List (List UInt8)×Nat×Int
 | [],_,l,k,e=>(l,k,e)
 | z :: ns,i,l,k,e=>qg6 bs count K ns (i+1) (qgz bs l k e (min K (count-i*K)) z).1 (qgz bs l k e (min K (count-i*K)) z).2.1 (qgz bs l k e (min K (count-i*K)) z).2.2
def qaa(count K:Nat):Nat:=(count+K-1)/K
def qn2(bs:List UInt8)(count K:Nat)(k:Nat)(e:Int):List (List UInt8)×Nat×Int :=
 qg6 bs count K (qa4 bs k e (qaa count K:Int)).1 0 [] (qa4 bs k e (qaa count K:Int)).2.1 (if (qa4 bs k e (qaa count K:Int)).1.length=qaa count K then (qa4 bs k e (qaa count K:Int)).2.2 else xd (qa4 bs k e (qaa count K:Int)).2.2)
def openK(bs:List UInt8)(count K:Nat)(k:Nat)(e:Int):List (List UInt8)×Nat×Int :=
 if 1≤K∧K≤64 then (if (qn2 bs count K k e).2.2=0 then qn2 bs count K k e else ([],(qn2 bs count K k e).2)) else ([],k,xd e)
def qcq(bs:List UInt8)(k:Nat)(e:Int):List (List UInt8)×Nat×Int :=
 openK bs (jw bs k e 4096).1 (jw bs (jw bs k e 4096).2.1 (jw bs k e 4096).2.2 64).1 (jw bs (jw bs k e 4096).2.1 (jw bs k e 4096).2.2 64).2.1 (jw bs (jw bs k e 4096).2.1 (jw bs k e 4096).2.2 64).2.2
theorem nextR_bad(bs:List UInt8)(k:Nat){e:Int}(last:List UInt8)(h:e≠0):(qg7 bs k e last).2=(k,e):=by
 unfold qg7
 simp only[qib _ _ _ h,text_bad _ _ h,uy h,ite_self]
theorem entR_bad(f:Bool)(bs:List UInt8)(k:Nat){e:Int}(last:List UInt8)(h:e≠0):(qo7 f bs k e last).2=(k,e):=by
 unfold qo7
 split
 ·
  rw[text_bad _ _ h]
 ·
  exact nextR_bad bs k last h
theorem stepF_bad(bs:List UInt8)(E:Int)(l:List (List UInt8))(f:Bool)(last:List UInt8)(k:Nat){e:Int}(h:e≠0):(qg1 bs E l f last k e).2=(k,e):=by
 unfold qg1
 simp only[entR_bad f bs k last h,uy h,ite_self]
theorem takeF_bad(bs:List UInt8)(E:Int)(n:Nat)(f:Bool)(l:List (List UInt8))(last:List UInt8)(k:Nat){e:Int}(h:e≠0):qf9 bs E n f l last k e=(l,k,e):=by
 cases n with
 | zero=>rfl
 | succ n =>
  rw[qf9]
  simp only[stepF_bad bs E l f last k h,if_neg h]
theorem takeT_bad(bs:List UInt8)(l:List (List UInt8))(k:Nat){e:Int}(n size:Nat)(h:e≠0):qgz bs l k e n size=(l,k,e):=by
 unfold qgz
 simp only[takeF_bad bs _ n true l [] k h,uy h,ite_self]
theorem qly(bs:List UInt8)(count K:Nat):∀(ns:List Nat) (i:Nat) (l:List (List UInt8)) (k:Nat) {e:Int},e≠0→qg6 bs count K ns i l k e=(l,k,e)
 | [],i,l,k,e,_=>rfl
 | z :: ns,i,l,k,e,h=>by
  rw[qg6]
  simp only[takeT_bad bs l k _ z h]
  exact qly bs count K ns (i+1) l k h
theorem share_take{last s:List UInt8}:last.take (xl last s)++s.drop (xl last s)=s:=by
 induction last generalizing s with
 | nil=>cases s <;> simp[xl]
 | cons x a ih =>
  cases s with
  | nil=>simp[xl]
  | cons y b =>
   unfold xl
   split
   ·
    rename_i h
    rw[j8,qdh,jd,ih,h]
   ·
    simp
theorem nextR_good{bs s last:List UInt8}{k k2:Nat}(hk:k≤bs.length)(h:qg7 bs k 0 last=(s,k2,0)) :
  bs.drop k=ji (xl last s)++(vm (s.drop (xl last s))++bs.drop k2)∧k2=k+((ji (xl last s)).length+(vm (s.drop (xl last s))).length)∧k2≤bs.length:=by
 unfold qg7 at h
 obtain⟨R,hR⟩:∃R,jw bs k 0 (last.length:Int)=R:=⟨_,rfl⟩
 simp only[hR] at h
 obtain⟨n,k1,e1⟩:=R
 simp only at h
 by_cases he1:e1=0
 ·
  subst he1
  obtain⟨g1,g2,g3,g4,g5⟩:=qbp hk hR
  obtain⟨T,hT⟩:∃T,qf8 bs k1 0=T:=⟨_,rfl⟩
  simp only[hT] at h
  obtain⟨t,k3,e3⟩:=T
  simp only[Prod.mk.injEq] at h
  obtain⟨rfl,rfl,h3⟩:=h
  by_cases hs:xl last (last.take n++t)=n
  ·
   rw[if_pos hs] at h3
   subst h3
   obtain⟨t1,t2,t3,t4⟩:=text_good g5 hT
   have hd:(last.take n++t).drop n=t:=by rw[List.drop_append_of_le_length (by rw[qz];omega),List.drop_eq_nil_of_le (by rw[qz];omega),yu]
   rw[hs,hd]
   exact⟨by rw[g3,t2],by omega,t4⟩
  ·
   rw[if_neg hs] at h3
   exact absurd h3 (xw _)
 ·
  simp only[text_bad _ _ he1,uy he1,ite_self,Prod.mk.injEq] at h
  exact absurd h.2.2 he1
theorem nextR_back{bs s last rest:List UInt8}{k:Nat}(hk:k≤bs.length)(h:bs.drop k=ji (xl last s)++(vm (s.drop (xl last s))++rest))(hs:s.length≤4096)(hl:last.length≤4096) :
  qg7 bs k 0 last=(s,k+((ji (xl last s)).length+(vm (s.drop (xl last s))).length),0):=by
 have hsh:=qkt last s
 have hM:=ut (m:=(last.length:Int)) h (by omega) (by omega)
 have hlen:bs.length-k=(ji (xl last s)).length+((vm (s.drop (xl last s))).length+rest.length):=by rw[←qy,h,qd,qd]
 have hd:bs.drop (k+(ji (xl last s)).length)=vm (s.drop (xl last s))++rest:=by rw[←jh,h,ym]
 have hT:=text_back (by omega) hd (by rw[qy];omega)
 unfold qg7
 simp only[hM,hT,share_take,if_true,Prod.mk.injEq,and_true,true_and]
 omega
theorem stepF_split{bs s:List UInt8}{E:Int}{l:List (List UInt8)}{f:Bool}{last:List UInt8}{k k2:Nat}(h:qg1 bs E l f last k 0=(s,k2,0)):qo7 f bs k 0 last=(s,k2,0)∧qew l s=true∧E≤((bs.length-k2:Nat):Int):=by
 unfold qg1 at h
 simp only[Prod.mk.injEq] at h
 obtain⟨h1,h2,h3⟩:=h
 rw[h1,h2] at h3
 by_cases hc:qew l s=true∧E≤((bs.length-k2:Nat):Int)
 ·
  rw[if_pos hc] at h3
  exact⟨Prod.ext h1 (Prod.ext h2 h3),hc⟩
 ·
  rw[if_neg hc] at h3
  exact absurd h3 (xw _)
theorem takeF_step{bs:List UInt8}{E:Int}{m k k2:Nat}{f:Bool}{l l2:List (List UInt8)}{last:List UInt8}(h:qf9 bs E (m+1) f l last k 0=(l2,k2,0)) :
  ∃s k1,qo7 f bs k 0 last=(s,k1,0)∧qew l s=true∧E≤((bs.length-k1:Nat):Int)∧qf9 bs E m false (l++[s]) s k1 0=(l2,k2,0):=by
 rw[qf9] at h
 obtain⟨S,hS⟩:∃S,qg1 bs E l f last k 0=S:=⟨_,rfl⟩
 rw[hS] at h
 obtain⟨s,k1,e1⟩:=S
 simp only at h
 by_cases he1:e1=0
 ·
  subst he1
  rw[if_pos rfl] at h
  obtain⟨h1,h2,h3⟩:=stepF_split hS
  exact⟨s,k1,h1,h2,h3,h⟩
 ·
  rw[if_neg he1] at h
  simp only[Prod.mk.injEq] at h
  exact absurd h.2.2 he1
theorem takeF_rest{bs:List UInt8}{E:Int}:∀ {m k k2:Nat} {l l2:List (List UInt8)} {last:List UInt8},k≤bs.length→qf9 bs E m false l last k 0=(l2,k2,0)→
  ∃t,t.length=m∧l2=l++t∧(qed l=true→qed l2=true)∧bs.drop k=qd1 last t++bs.drop k2∧k2=k+(qd1 last t).length∧k2≤bs.length
 | 0,k,k2,l,l2,last,hk,h=>by
  simp only[qf9,Prod.mk.injEq,and_true] at h
  obtain⟨rfl,rfl⟩:=h
  exact⟨[],rfl,by simp,id,rfl,rfl,hk⟩
 | m+1,k,k2,l,l2,last,hk,h=>by
  obtain⟨s,k1,h1,h2,h3,h4⟩:=takeF_step h
  obtain⟨g1,g2,g3⟩:=nextR_good hk (show qg7 bs k 0 last=(s,k1,0) from h1)
  obtain⟨t,t1,t2,t3,t4,t5,t6⟩:=takeF_rest g3 h4
  refine⟨s :: t,by simp[t1],by rw[t2];simp,fun hg=>t3 (by rw[qgu,hg,h2];rfl),?_,?_,t6⟩
  ·
   rw[g1,t4,qd1]
   simp
  ·
   rw[qd1]
   simp only[qd]
   omega
theorem takeT_good{bs:List UInt8}{k k2 n size:Nat}{l l2:List (List UInt8)}(hk:k≤bs.length)(h:qgz bs l k 0 (n+1) size=(l2,k2,0)) :
  ∃t,t.length=n+1∧l2=l++t∧(qed l=true→qed l2=true)∧bs.drop k=qab t++bs.drop k2∧(qab t).length=size∧k2=k+size∧k2≤bs.length:=by
 unfold qgz at h
 obtain⟨R,hR⟩:∃R,qf9 bs (((bs.length-k:Nat):Int)-size) (n+1) true l [] k 0=R:=⟨_,rfl⟩
 simp only[hR] at h
 obtain⟨l3,k3,e3⟩:=R
 simp only[Prod.mk.injEq] at h
 obtain⟨rfl,rfl,h⟩:=h
 by_cases hc:((bs.length-k3:Nat):Int)=((bs.length-k:Nat):Int)-size
 ·
  rw[if_pos hc] at h
  subst h
  obtain⟨s,k1,h1,h2,h3,h4⟩:=takeF_step hR
  obtain⟨g1,g2,g3,g4⟩:=text_good hk (show qf8 bs k 0=(s,k1,0) from h1)
  obtain⟨t,t1,t2,t3,t4,t5,t6⟩:=takeF_rest g4 h4
  have hb:(qab (s :: t)).length=size:=by
   rw[qab,qd]
   omega
  refine⟨s :: t,by simp[t1],by rw[t2];simp,fun hg=>t3 (by rw[qgu,hg,h2];rfl),?_,hb,?_,t6⟩
  ·
   rw[g2,t4,qab]
   simp
  ·
   rw[qab,qd] at hb
   omega
 ·
  rw[if_neg hc] at h
  exact absurd h (xw _)
theorem qph{bs rest:List UInt8}{E:Int}(hE:E≤(rest.length:Int)):∀ {t:List (List UInt8)} {k:Nat} {l:List (List UInt8)} {last:List UInt8},k≤bs.length→last.length≤4096→qed (l++t)=true→bs.drop k=qd1 last t++rest→
  qf9 bs E t.length false l last k 0=(l++t,k+(qd1 last t).length,0)
 | [],k,l,last,hk,hl,hg,h=>by simp[qf9,qd1]
 | s :: t,k,l,last,hk,hl,hg,h=>by
  have hg1:qed (l++[s]++t)=true:=by rw[qp];exact hg
  have hg2:=qk8 hg1
  rw[qgu,yx] at hg2
  have hs:s.length≤4096:=by have:=hg2.2;unfold qew at this;rw[yx,decide_eq_true_eq] at this;exact this.1
  have h':bs.drop k=ji (xl last s)++(vm (s.drop (xl last s))++(qd1 s t++rest)):=by rw[h,qd1];simp
  have hN:=nextR_back hk h' hs hl
  have hlen:bs.length-k=(ji (xl last s)).length+((vm (s.drop (xl last s))).length+((qd1 s t).length+rest.length)):=by rw[←qy,h'];simp
  obtain⟨k1,hk1⟩:∃k1,k+((ji (xl last s)).length+(vm (s.drop (xl last s))).length)=k1:=⟨_,rfl⟩
  rw[hk1] at hN
  have hd:bs.drop k1=qd1 s t++rest:=by rw[←hk1,←jh,h',←jh,ym,ym]
  have ih:=qph hE (t:=t) (k:=k1) (l:=l++[s]) (last:=s) (by omega) hs hg1 hd
  have hS:qg1 bs E l false last k 0=(s,k1,0):=by
   unfold qg1
   have:qo7 false bs k 0 last=(s,k1,0):=hN
   simp only[this]
   rw[if_pos ⟨hg2.2,by omega⟩]
  rw[qw,qf9]
  simp only[hS,if_true]
  rw[ih,qd1]
  simp
  omega
theorem takeT_there{bs rest:List UInt8}{s:List UInt8}{t:List (List UInt8)}{k:Nat}{l:List (List UInt8)}(hk:k≤bs.length)(hg:qed (l++s :: t)=true)(h:bs.drop k=qab (s :: t)++rest) :
  qgz bs l k 0 (t.length+1) (qab (s :: t)).length=(l++s :: t,k+(qab (s :: t)).length,0):=by
 have hg1:qed (l++[s]++t)=true:=by rw[qp];exact hg
 have hg2:=qk8 hg1
 rw[qgu,yx] at hg2
 have hs:s.length≤4096:=by have:=hg2.2;unfold qew at this;rw[yx,decide_eq_true_eq] at this;exact this.1
 have h':bs.drop k=vm s++(qd1 s t++rest):=by rw[h,qab];simp
 have hlen:bs.length-k=(qab (s :: t)).length+rest.length:=by rw[←qy,h];simp
 have hbl:(qab (s :: t)).length=(vm s).length+(qd1 s t).length:=by rw[qab,qd]
 have hT:=text_back hk h' hs
 obtain⟨k1,hk1⟩:∃k1,k+(vm s).length=k1:=⟨_,rfl⟩
 rw[hk1] at hT
 have hd:bs.drop k1=qd1 s t++rest:=by rw[←hk1,←jh,h',ym]
 obtain⟨E,hE⟩:∃E,((bs.length-k:Nat):Int)-((qab (s :: t)).length:Int)=E:=⟨_,rfl⟩
 have hF:=qph (E:=E) (rest:=rest) (by omega) (t:=t) (k:=k1) (l:=l++[s]) (last:=s) (by omega) hs hg1 hd
 have hS:qg1 bs E l true [] k 0=(s,k1,0):=by
  unfold qg1
  have:qo7 true bs k 0 []=(s,k1,0):=hT
  simp only[this]
  rw[if_pos ⟨hg2.2,by omega⟩]
 have hA:qf9 bs E (t.length+1) true l [] k 0=(l++s :: t,k+(qab (s :: t)).length,0):=by
  rw[qf9]
  simp only[hS,if_true]
  rw[hF]
  simp
  omega
 unfold qgz
 rw[hE]
 simp only[hA]
 rw[if_pos (by omega)]
end Go.Proofs.YtjfecojdagmacaaGreat
