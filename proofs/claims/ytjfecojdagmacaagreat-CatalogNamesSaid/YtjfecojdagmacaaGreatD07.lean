/-
  Lemmas.
-/
import Derived.Test.YtjfecojdagmacaaGreatD06
namespace Go.Proofs.YtjfecojdagmacaaGreat
open Go.RowKit
set_option maxRecDepth 20000
set_option maxHeartbeats 16000000
set_option linter.unusedSimpArgs false
set_option linter.unusedVariables false
structure Co where
 kind:Int
 block:Int
 rounds:Int
 draws:List Int
def qa2(o:Co):Prop:=0≤o.kind∧o.kind≤3∧1≤o.block∧o.block≤64∧0≤o.rounds∧o.rounds≤8∧o.draws.length≤4096
instance (o:Co):Decidable (qa2 o):=by unfold qa2;infer_instance
def qmf(v:Vl):Prop:=v.s.size≤4096∧(v.null=true→v.s=⟨#[]⟩)
instance (v:Vl):Decidable (qmf v):=by unfold qmf;infer_instance
def kr(l:List Vl):Prop:=l.length≤4096∧∀v∈l,qmf v
instance (l:List Vl):Decidable (kr l):=by unfold kr;infer_instance
def xk(l:List Vl):List Bool:=l.map fun v => !v.null
def qu(l:List Vl):List ByteArray:=(l.filter fun v => !v.null).map (·.s)
theorem qf0(l:List Vl):(qu l).length≤l.length:=by rw[qu,q8];exact List.length_filter_le _ _
theorem qko{l:List Vl}{k:Nat}(h:k<l.length):qu (l.take (k+1))=qu (l.take k)++(if l[k].null=true then [] else [l[k].s]):=by
 unfold qu
 have h1:(if l[k].null=true then [] else [l[k].s])=(([l[k]]:List Vl).filter (fun v => !v.null)).map (·.s):=by
  cases hn:l[k].null <;> simp[List.filter_cons,hn]
 rw[qj h,List.filter_append,jl,h1]
theorem qgp{l:List Vl}{s:ByteArray}(h:s∈qu l):∃v∈l,v.s=s:=by
 obtain⟨v,hv,rfl⟩:=zl.1 h
 exact⟨v,(List.mem_filter.1 hv).1,rfl⟩
def xz{α:Type}:List Bool→List α→α→List α
 | [],_,_=>[]
 | true :: t,[],d=>d :: xz t [] d
 | true :: t,x :: l,d=>x :: xz t l d
 | false :: t,l,d=>d :: xz t l d
section
variable {α β:Type}
theorem qb6:∀(t:List Bool) (l:List α) (d:α),(xz t l d).length=t.length
 | [],_,_=>rfl
 | true :: t,[],d=>by rw[xz,qw,qw,qb6 t]
 | true :: t,x :: l,d=>by rw[xz,qw,qw,qb6 t]
 | false :: t,l,d=>by cases l <;> rw[xz,qw,qw,qb6 t]
theorem qgq:∀(t:List Bool) (l:List α) (d:α) {i:Nat},t[i]? = some false→(xz t l d)[i]? = some d
 | [],_,_,i,h=>by simp at h
 | true :: t,[],d,0,h=>by simp at h
 | true :: t,x :: l,d,0,h=>by simp at h
 | false :: t,l,d,0,h=>by cases l <;> rfl
 | true :: t,[],d,i+1,h=>by simpa[xz] using qgq t [] d (i:=i) (by simpa using h)
 | true :: t,x :: l,d,i+1,h=>by simpa[xz] using qgq t l d (i:=i) (by simpa using h)
 | false :: t,l,d,i+1,h=>by cases l <;> simpa[xz] using qgq t _ d (i:=i) (by simpa using h)
theorem qhv:∀(t:List Bool) (l:List α) (d:α) {i:Nat},t[i]? = some true→cnt t≤l.length→∃j,cnt (t.take i)=j∧j<l.length∧(xz t l d)[i]? = l[j]?
 | [],_,_,i,h,_=>by simp at h
 | true :: t,[],d,i,h,hc=>by simp[cnt] at hc
 | true :: t,x :: l,d,0,h,hc=>⟨0,rfl,by simp,rfl⟩
 | false :: t,l,d,0,h,hc=>by simp at h
 | true :: t,x :: l,d,i+1,h,hc=>by
  obtain⟨j,h1,h2,h3⟩:=qhv t l d (i:=i) (by simpa using h) (by simpa[cnt] using hc)
  exact⟨j+1,by simpa[cnt] using h1,by simpa using h2,by simpa[xz] using h3⟩
 | false :: t,l,d,i+1,h,hc=>by
  obtain⟨j,h1,h2,h3⟩:=qhv t l d (i:=i) (by simpa using h) (by simpa[cnt] using hc)
  refine⟨j,by simpa[cnt] using h1,h2,?_⟩
  cases l <;> simpa[xz] using h3
end
def uv(r:List (List UInt8)):List UInt8:=js (z8 (r.map List.length))++r.flatten
noncomputable def qj5 (S:List (List UInt8)):List (List UInt8):=Classical.epsilon (qaj S)
noncomputable def ue (S:List ByteArray)(o:Co):List (List UInt8):=Classical.epsilon fun t=>qba (qm (jx S o.draws)) (qb3 o.rounds) t
def qc9(D S:List (List UInt8)):List Nat:=S.map fun s=>D.idxOf s
noncomputable def yo (S:List ByteArray)(o:Co)(k:Int):List UInt8 :=
 if k=2 then qef (ue S o)++uv ((qm S).map (kn (ue S o)))
 else if k=3 then kv o.block.toNat (qj5 (qm S))++js (z8 (qc9 (qj5 (qm S)) (qm S)))
 else uv (qm S)
noncomputable def qli (S:List ByteArray)(o:Co):Int :=
 if (yo S o 2).length<(yo S o 1).length then (if (yo S o 3).length<(yo S o 2).length then 3 else 2) else (if (yo S o 3).length<(yo S o 1).length then 3 else 1)
noncomputable def y8 (S:List ByteArray)(o:Co):Int:=if o.kind=0 then qli S o else o.kind
def uu(bs:List UInt8)(k:Nat)(e:Int)(n:Nat)(most:Int):List Nat×Nat×Int :=
 let r:=qa4 bs k e (n:Int)
 let e1:=if r.1.length=n then r.2.2 else xd r.2.2
 let e2:=if (r.1.all fun x=>decide ((x:Int)≤most))=true then e1 else xd e1
 (if e2=0 then r.1 else [],r.2.1,e2)
def qea(bs:List UInt8)(ok:List UInt8→Bool):List Nat→Nat→Int→List (List UInt8)×Nat×Int
 | [],k,e=>([],k,e)
 | z :: zs,k,e =>
  let t:=jo bs k e 0 (z:Int)
  let r:=qea bs ok zs t.2.1 (if ok t.1=true then t.2.2 else xd t.2.2)
  (t.1 :: r.1,r.2)
def qbo(bs:List UInt8)(k:Nat)(e:Int)(n:Nat)(most:Int)(ok:List UInt8→Bool):List (List UInt8)×Nat×Int :=
 qea bs ok (uu bs k e n most).1 (uu bs k e n most).2.1 (uu bs k e n most).2.2
def qfk(T:List (List UInt8))(b:List UInt8):Bool:=decide ((qey T 4096 b [] 0).2.1=0)&&decide (kn T (qey T 4096 b [] 0).1=b)
structure Chk where
 kind:Nat
 there:List Bool
 raws:List (List UInt8)
 tab:List (List UInt8)
 dic:List (List UInt8)
 codes:List Nat
def Chk.none:Chk:=⟨0,[],[],[],[],[]⟩
def qah(bs:List UInt8)(k:Nat)(e:Int)(kind:Nat)(there:List Bool):Chk×Nat×Int :=
 if kind=1 then (⟨1,there,(qbo bs k e (cnt there) 4096 fun _=>true).1,[],[],[]⟩,(qbo bs k e (cnt there) 4096 fun _=>true).2)
 else if kind=2 then (⟨2,there,(qbo bs (qe7 bs k e).2.1 (qe7 bs k e).2.2 (cnt there) 8192 (qfk (qe7 bs k e).1)).1,(qe7 bs k e).1,[],[]⟩,(qbo bs (qe7 bs k e).2.1 (qe7 bs k e).2.2 (cnt there) 8192 (qfk (qe7 bs k e).1)).2)
 else if kind=3 then (⟨3,there,[],[],(qcq bs k e).1,(uu bs (qcq bs k e).2.1 (qcq bs k e).2.2 (cnt there) (((qcq bs k e).1.length:Int)-1)).1⟩,(uu bs (qcq bs k e).2.1 (qcq bs k e).2.2 (cnt there) (((qcq bs k e).1.length:Int)-1)).2)
 else (⟨kind,there,[],[],[],[]⟩,k,e)
def qkd(n:Nat)(e:Int):Int:=if 1≤n∧n≤3 then e else xd e
def qmm(bs:List UInt8)(k:Nat)(e:Int):Chk×Nat×Int :=
 qah bs (qcj bs (jo bs k e 0 1).2.1 (qkd ((jo bs k e 0 1).1.headD 0).toNat (jo bs k e 0 1).2.2) 4096).2.1 (qcj bs (jo bs k e 0 1).2.1 (qkd ((jo bs k e 0 1).1.headD 0).toNat (jo bs k e 0 1).2.2) 4096).2.2
  ((jo bs k e 0 1).1.headD 0).toNat (qcj bs (jo bs k e 0 1).2.1 (qkd ((jo bs k e 0 1).1.headD 0).toNat (jo bs k e 0 1).2.2) 4096).1
def qby(bs:List UInt8)(k:Nat)(e:Int):Chk×Nat×Int:=if (qmm bs k e).2.2=0 then qmm bs k e else (Chk.none,(qmm bs k e).2)
theorem openR_bad(bs:List UInt8)(k:Nat){e:Int}(h:e≠0):qcq bs k e=([],k,e):=by
 unfold qcq
 simp only[qib bs k _ h]
 rw[openK,if_neg (by omega),uy h]
theorem kindE_bad{n:Nat}{e:Int}(h:e≠0):qkd n e=e:=by
 unfold qkd
 rw[uy h,ite_self]
theorem ql0(bs:List UInt8)(k:Nat){e:Int}(n:Nat)(m:Int)(h:e≠0):uu bs k e n m=([],k,e):=by
 unfold uu
 simp only[qkz bs k (n:Int) h,uy h,ite_self,if_neg h]
theorem qlv(bs:List UInt8)(ok:List UInt8→Bool):∀(zs:List Nat) (k:Nat) {e:Int},e≠0→(qea bs ok zs k e).2=(k,e)
 | [],k,e,_=>rfl
 | z :: zs,k,e,h=>by
  rw[qea]
  simp only[qhs bs k (z:Int) h,uy h,ite_self]
  exact qlv bs ok zs k h
theorem qow(bs:List UInt8)(k:Nat){e:Int}(n:Nat)(m:Int)(ok:List UInt8→Bool)(h:e≠0):qbo bs k e n m ok=([],k,e):=by
 rw[qbo,ql0 bs k n m h]
 rfl
theorem qi7(bs:List UInt8)(k:Nat){e:Int}(kind:Nat)(there:List Bool)(h:e≠0):(qah bs k e kind there).2=(k,e):=by
 unfold qah
 rw[getK_bad bs k h,openR_bad bs k h]
 simp only[qow bs k _ _ _ h,ql0 bs k _ _ h]
 repeat' split
 all_goals rfl
theorem qm9{bs:List UInt8}{k k2 n:Nat}{m:Int}{ns:List Nat}(hk:k≤bs.length)(hn:n≤2147483647)(h:uu bs k 0 n m=(ns,k2,0)) :
  ns.length=n∧(∀x∈ns,(x:Int)≤m)∧qok (z8 ns)∧bs.drop k=js (z8 ns)++bs.drop k2∧k2=k+(js (z8 ns)).length∧k2≤bs.length:=by
 unfold uu at h
 obtain⟨R,hR⟩:∃R,qa4 bs k 0 (n:Int)=R:=⟨_,rfl⟩
 obtain⟨xs,q,e⟩:=R
 simp only[hR] at h
 by_cases h1:xs.length=n
 ·
  rw[if_pos h1] at h
  by_cases h2:(xs.all fun x=>decide ((x:Int)≤m))=true
  ·
   rw[if_pos h2] at h
   simp only[Prod.mk.injEq] at h
   obtain⟨e1,rfl,rfl⟩:=h
   rw[if_pos rfl] at e1
   subst e1
   obtain⟨g1,g2,g3,g4,g5⟩:=qjb hk hn hR
   exact⟨h1,fun x hx=>of_decide_eq_true (List.all_eq_true.1 h2 x hx),g2,g3,g4,g5⟩
  ·
   rw[if_neg h2] at h
   simp only[Prod.mk.injEq] at h
   exact absurd h.2.2 (xw _)
 ·
  rw[if_neg h1] at h
  simp only[Prod.mk.injEq] at h
  split at h
  ·
   exact absurd h.2.2 (xw _)
  ·
   exact absurd h.2.2 (xw _)
theorem qpw{bs rest:List UInt8}{k:Nat}{m:Int}{ns:List Nat}(hk:k≤bs.length)(hn:ns.length≤2147483647)(hm:∀x∈ns,(x:Int)≤m)(hy:qok (z8 ns))(h:bs.drop k=js (z8 ns)++rest) :
  uu bs k 0 ns.length m=(ns,k+(js (z8 ns)).length,0):=by
 have h1:=qh7 (z8 ns) hy ns.length hk h (by rw[zu];exact qc _) hn
 rw[qo0] at h1
 unfold uu
 have h2:(ns.all fun x=>decide ((x:Int)≤m))=true:=List.all_eq_true.2 fun x hx=>qx (hm x hx)
 simp only[h1,h2,if_true]
theorem rawsF_good{bs:List UInt8}{ok:List UInt8→Bool}:∀ {zs:List Nat} {k k2:Nat} {l:List (List UInt8)},k≤bs.length→qea bs ok zs k 0=(l,k2,0)→
  l.map List.length=zs∧(∀x∈l,ok x=true)∧bs.drop k=l.flatten++bs.drop k2∧k2=k+l.flatten.length∧k2≤bs.length
 | [],k,k2,l,hk,h=>by
  simp only[qea,Prod.mk.injEq,and_true] at h
  obtain⟨rfl,rfl⟩:=h
  exact⟨rfl,fun x hx=>(by cases hx),by simp,by simp,hk⟩
 | z :: zs,k,k2,l,hk,h=>by
  by_cases hf:k+z≤bs.length
  ·
   have hT:=qcw bs k z hf
   rw[qea] at h
   simp only[hT] at h
   cases ho:ok ((bs.drop k).take z) with
   | false =>
    rw[ho] at h
    simp only[qar,if_false,Prod.mk.injEq] at h
    rw[qlv bs ok zs (k+z) (xw 0)] at h
    exact absurd (congrArg Prod.snd h.2) (xw 0)
   | true =>
    rw[ho,if_pos rfl] at h
    obtain⟨R,hR⟩:∃R,qea bs ok zs (k+z) 0=R:=⟨_,rfl⟩
    obtain⟨r,q,e⟩:=R
    simp only[hR,Prod.mk.injEq] at h
    obtain⟨rfl,rfl,rfl⟩:=h
    obtain⟨h1,h2,h3,h4,h5⟩:=rawsF_good hf hR
    have hl:((bs.drop k).take z).length=z:=by rw[qz,qy];omega
    refine⟨by rw[yc,hl,h1],fun x hx => ?_,?_,?_,h5⟩
    ·
     rcases z7.1 hx with rfl | hx
     ·
      exact ho
     ·
      exact h2 x hx
    ·
     rw[qaf,qp,←h3,←jh,zx]
    ·
     rw[qaf,qd,hl];omega
  ·
   have hT:=qc0 bs k z (by omega)
   rw[qea] at h
   simp only[hT,Prod.mk.injEq] at h
   have hne:(if ok []=true then (2:Int) else xd 2)≠0:=by split <;> decide
   rw[qlv bs ok zs k hne] at h
   exact absurd (congrArg Prod.snd h.2) hne
theorem qpo{bs:List UInt8}{ok:List UInt8→Bool}:∀ {l:List (List UInt8)} {k:Nat} {rest:List UInt8},k≤bs.length→(∀x∈l,ok x=true)→bs.drop k=l.flatten++rest→qea bs ok (l.map List.length) k 0=(l,k+l.flatten.length,0)
 | [],k,rest,hk,ho,h=>by simp[qea]
 | x :: l,k,rest,hk,ho,h=>by
  have hb:k+x.length≤bs.length:=by
   have:=congrArg List.length h
   rw[qy,qaf,qd,qd] at this
   omega
  have hx:(bs.drop k).take x.length=x:=by rw[h,qaf,qp,List.take_left]
  have hd:bs.drop (k+x.length)=l.flatten++rest:=by rw[←jh,h,qaf,qp,ym]
  rw[yc,qea]
  simp only[qcw bs k x.length hb,hx,ho x je,if_true]
  rw[qpo hb (fun y hy=>ho y (j5 _ hy)) hd,qaf,qd]
  simp
  omega
theorem qjg{r:List (List UInt8)}{m:Int}(hm:m≤4294967295)(h:∀x∈r,(x.length:Int)≤m):qok (z8 (r.map List.length)):=fun z hz=>by
 obtain⟨n,hn,rfl⟩:=zl.1 hz
 obtain⟨x,hx,rfl⟩:=zl.1 hn
 have:=h x hx
 omega
theorem qm4{bs:List UInt8}{ok:List UInt8→Bool}{k k2 n:Nat}{m:Int}{l:List (List UInt8)}(hk:k≤bs.length)(hn:n≤2147483647)(h:qbo bs k 0 n m ok=(l,k2,0)) :
  l.length=n∧(∀x∈l,ok x=true∧(x.length:Int)≤m)∧bs.drop k=uv l++bs.drop k2∧k2=k+(uv l).length∧k2≤bs.length:=by
 unfold qbo at h
 obtain⟨R,hR⟩:∃R,uu bs k 0 n m=R:=⟨_,rfl⟩
 obtain⟨ns,q,e⟩:=R
 simp only[hR] at h
 by_cases he:e=0
 ·
  subst he
  obtain⟨h1,h2,h3,h4,h5,h6⟩:=qm9 hk hn hR
  obtain⟨g1,g2,g3,g4,g5⟩:=rawsF_good h6 h
  refine⟨by rw[←h1,←g1,q8],fun x hx=>⟨g2 x hx,h2 _ (by rw[←g1];exact vn hx)⟩,?_,?_,g5⟩
  ·
   rw[uv,g1,qp,←g3,←h4]
  ·
   rw[uv,g1,qd];omega
 ·
  have h7:=qlv bs ok ns q he
  rw[h] at h7
  exact absurd (congrArg Prod.snd h7).symm he
theorem qpn{bs rest:List UInt8}{ok:List UInt8→Bool}{k:Nat}{m:Int}{l:List (List UInt8)}(hk:k≤bs.length)(hn:l.length≤2147483647)(hm:m≤4294967295)(ho:∀x∈l,ok x=true∧(x.length:Int)≤m)(h:bs.drop k=uv l++rest) :
  qbo bs k 0 l.length m ok=(l,k+(uv l).length,0):=by
 have h':bs.drop k=js (z8 (l.map List.length))++(l.flatten++rest):=by rw[h,uv,qp]
 have hn1:=qpw (m:=m) hk (by rw[q8];exact hn) (fun x hx=>by
  obtain⟨y,hy,rfl⟩:=zl.1 hx
  exact(ho y hy).2) (qjg hm fun x hx=>(ho x hx).2) h'
 rw[q8] at hn1
 have hq:k+(js (z8 (l.map List.length))).length≤bs.length:=by
  have:=congrArg List.length h'
  rw[qy,qd] at this
  omega
 rw[qbo,hn1]
 simp only
 rw[qpo (rest:=rest) hq (fun x hx=>(ho x hx).1) (by rw[←jh,h',ym]),uv,qd]
 simp
 omega
structure ChkOk (c:Chk):Prop where
 few:c.there.length≤4096
 kinds:(c.kind=1∧c.raws.length=cnt c.there∧(∀x∈c.raws,x.length≤4096)∧c.tab=[]∧c.dic=[]∧c.codes=[])∨
  (c.kind=2∧c.raws.length=cnt c.there∧y7 c.tab=true∧(∀x∈c.raws,qfk c.tab x=true∧x.length≤8192)∧c.dic=[]∧c.codes=[])∨
  (c.kind=3∧c.raws=[]∧c.tab=[]∧qle c.dic=true∧c.codes.length=cnt c.there∧∀x∈c.codes,x<c.dic.length)
def qhp(K:Nat)(c:Chk):List UInt8 :=
 UInt8.ofNat c.kind :: (xi c.there++(if c.kind=1 then uv c.raws else if c.kind=2 then qef c.tab++uv c.raws else kv K c.dic++js (z8 c.codes)))
theorem ql8{D:List (List UInt8)}{ns:List Nat}(hD:D.length≤4096)(h:∀x∈ns,x<D.length):qok (z8 ns):=fun z hz=>by
 obtain⟨n,hn,rfl⟩:=zl.1 hz
 have:=h n hn
 omega
theorem takeC_good{bs:List UInt8}{k k2 kind:Nat}{there:List Bool}{c:Chk}(hk:k≤bs.length)(hkd:1≤kind∧kind≤3)(ht:there.length≤4096)(h:qah bs k 0 kind there=(c,k2,0)) :
  c.kind=kind∧c.there=there∧ChkOk c∧∃K,1≤K∧K≤64∧bs.drop k=(if c.kind=1 then uv c.raws else if c.kind=2 then qef c.tab++uv c.raws else kv K c.dic++js (z8 c.codes))++bs.drop k2∧k2≤bs.length∧
   k2=k+(if c.kind=1 then uv c.raws else if c.kind=2 then qef c.tab++uv c.raws else kv K c.dic++js (z8 c.codes)).length:=by
 have hc:=qi2 there
 unfold qah at h
 by_cases h1:kind=1
 ·
  subst h1
  rw[if_pos rfl] at h
  obtain⟨R,hR⟩:∃R,qbo bs k 0 (cnt there) 4096 (fun _=>true)=R:=⟨_,rfl⟩
  obtain⟨l,q,e⟩:=R
  simp only[hR,Prod.mk.injEq] at h
  obtain⟨rfl,rfl,rfl⟩:=h
  obtain⟨g1,g2,g3,g4,g5⟩:=qm4 hk (by omega) hR
  exact⟨rfl,rfl,⟨ht,.inl ⟨rfl,g1,fun x hx=>(by have:=(g2 x hx).2;omega),rfl,rfl,rfl⟩⟩,1,by omega,by omega,g3,g5,g4⟩
 ·
  rw[if_neg h1] at h
  by_cases h2:kind=2
  ·
   subst h2
   rw[if_pos rfl] at h
   obtain⟨G,hG⟩:∃G,qe7 bs k 0=G:=⟨_,rfl⟩
   obtain⟨t,q,e⟩:=G
   simp only[hG] at h
   obtain⟨R,hR⟩:∃R,qbo bs q e (cnt there) 8192 (qfk t)=R:=⟨_,rfl⟩
   obtain⟨l,q2,e2⟩:=R
   simp only[hR,Prod.mk.injEq] at h
   obtain⟨rfl,rfl,rfl⟩:=h
   by_cases he:e=0
   ·
    subst he
    obtain⟨f1,f2,f3,f4⟩:=getK_good hk hG
    obtain⟨g1,g2,g3,g4,g5⟩:=qm4 f4 (by omega) hR
    refine⟨rfl,rfl,⟨ht,.inr (.inl ⟨rfl,g1,f1,fun x hx=>⟨(g2 x hx).1,by have:=(g2 x hx).2;omega⟩,rfl,rfl⟩)⟩,1,by omega,by omega,?_,g5,?_⟩
    ·
     show bs.drop k=qef t++uv l++_
     rw[qp,←g3,←f2]
    ·
     show q2=k+(qef t++uv l).length
     rw[qd];omega
   ·
    rw[qow bs q _ _ _ he] at hR
    exact absurd (congrArg (fun r=>r.2.2) hR) he
  ·
   rw[if_neg h2] at h
   have h3:kind=3:=by omega
   subst h3
   rw[if_pos rfl] at h
   obtain⟨G,hG⟩:∃G,qcq bs k 0=G:=⟨_,rfl⟩
   obtain⟨D,q,e⟩:=G
   simp only[hG] at h
   obtain⟨R,hR⟩:∃R,uu bs q e (cnt there) ((D.length:Int)-1)=R:=⟨_,rfl⟩
   obtain⟨l,q2,e2⟩:=R
   simp only[hR,Prod.mk.injEq] at h
   obtain⟨rfl,rfl,rfl⟩:=h
   by_cases he:e=0
   ·
    subst he
    obtain⟨K,f1,f2,f3,f4,f5,f6⟩:=openR_good hk hG
    obtain⟨g1,g2,g3,g4,g5,g6⟩:=qm9 f6 (by omega) hR
    refine⟨rfl,rfl,⟨ht,.inr (.inr ⟨rfl,rfl,rfl,f3,g1,fun x hx=>(by have:=g2 x hx;show x<D.length;omega)⟩)⟩,K,f1,f2,?_,g6,?_⟩
    ·
     show bs.drop k=kv K D++js (z8 l)++_
     rw[qp,←g4,←f4]
    ·
     show q2=k+(kv K D++js (z8 l)).length
     rw[qd];omega
   ·
    rw[ql0 bs q _ _ he] at hR
    exact absurd (congrArg (fun r=>r.2.2) hR) he
theorem takeC_there{bs rest:List UInt8}{k K:Nat}{c:Chk}(hk:k≤bs.length)(ho:ChkOk c)(hK:1≤K)(hK2:K≤64)
  (h:bs.drop k=(if c.kind=1 then uv c.raws else if c.kind=2 then qef c.tab++uv c.raws else kv K c.dic++js (z8 c.codes))++rest) :
  qah bs k 0 c.kind c.there=(c,k+(if c.kind=1 then uv c.raws else if c.kind=2 then qef c.tab++uv c.raws else kv K c.dic++js (z8 c.codes)).length,0):=by
 obtain⟨hf,hc⟩:=ho
 obtain⟨kind,there,raws,tab,dic,codes⟩:=c
 have hct:=qi2 there
 simp only at hf hc h ⊢
 rcases hc with ⟨rfl,h1,h2,rfl,rfl,rfl⟩ | ⟨rfl,h1,h2,h3,rfl,rfl⟩ | ⟨rfl,rfl,rfl,h1,h2,h3⟩
 ·
  simp only[if_true] at h ⊢
  have:=qpn (ok:=fun _=>true) (m:=4096) hk (by omega) (by omega) (fun x hx=>⟨rfl,by have:=h2 x hx;omega⟩) h
  rw[h1] at this
  rw[qah,if_pos rfl,this]
 ·
  simp only[show ¬(2:Nat)=1 by omega,if_false,if_true] at h ⊢
  rw[qp] at h
  have hg:=getK_there hk h2 h
  have hq:k+(qef tab).length≤bs.length:=by
   have:=congrArg List.length h
   rw[qy,qd] at this
   omega
  have:=qpn (ok:=qfk tab) (m:=8192) (rest:=rest) hq (by omega) (by omega) (fun x hx=>⟨(h3 x hx).1,by have:=(h3 x hx).2;omega⟩) (by rw[←jh,h,ym])
  rw[h1] at this
  rw[qah,if_neg (by omega),if_pos rfl,hg]
  simp only
  rw[this,qd,qav]
 ·
  simp only[show ¬(3:Nat)=1 by omega,show ¬(3:Nat)=2 by omega,if_false] at h ⊢
  rw[qp] at h
  have hg:=openR_there hk hK hK2 h1 h
  have hq:k+(kv K dic).length≤bs.length:=by
   have:=congrArg List.length h
   rw[qy,qd] at this
   omega
  have hd4:=(qdl.1 h1).1
  have:=qpw (m:=(dic.length:Int)-1) (rest:=rest) (ns:=codes) hq (by omega) (fun x hx=>by have:=h3 x hx;omega) (ql8 hd4 h3) (by rw[←jh,h,ym])
  rw[h2] at this
  rw[qah,if_neg (by omega),if_neg (by omega),if_pos rfl,hg]
  simp only
  rw[this,qd,qav]
theorem openC_good{bs:List UInt8}{k k2:Nat}{c:Chk}(hk:k≤bs.length)(h:qby bs k 0=(c,k2,0)) :
  ChkOk c∧∃K,1≤K∧K≤64∧bs.drop k=qhp K c++bs.drop k2∧k2=k+(qhp K c).length∧k2≤bs.length:=by
 unfold qby at h
 split at h
 ·
  unfold qmm at h
  by_cases hlt:k<bs.length
  ·
   have hT:=qeq hlt
   simp only[hT,List.headD_cons] at h
   by_cases hkd:1≤bs[k].toNat∧bs[k].toNat≤3
   ·
    rw[qkd,if_pos hkd] at h
    obtain⟨T,hTT⟩:∃T,qcj bs (k+1) 0 4096=T:=⟨_,rfl⟩
    obtain⟨there,q,e⟩:=T
    simp only[hTT] at h
    by_cases he:e=0
    ·
     subst he
     obtain⟨f1,f2,f3,f4⟩:=bread_good (by omega) hTT
     obtain⟨g1,g2,g3,K,g4,g5,g6,g7,g8⟩:=takeC_good f4 hkd (by omega) h
     refine⟨g3,K,g4,g5,?_,?_,g7⟩
     ·
      rw[qhp,g1,g2,jc hlt,f2]
      rw[g1] at g6
      rw[g6]
      simp
     ·
      rw[qhp,g2,qw,qd]
      omega
    ·
     have h2:=qi7 bs q bs[k].toNat there he
     rw[h] at h2
     exact absurd (congrArg Prod.snd h2).symm he
   ·
    rw[qkd,if_neg hkd,qjn bs (k+1) 4096 (xw 0)] at h
    simp only at h
    have h2:=qi7 bs (k+1) bs[k].toNat [] (xw 0)
    rw[h] at h2
    exact absurd (congrArg Prod.snd h2).symm (xw 0)
  ·
   exfalso
   have hT:jo bs k 0 0 1=([],k,2):=by
    rw[show(1:Int)=((1:Nat):Int) from rfl]
    exact qc0 bs k 1 (by omega)
   simp only[hT,kindE_bad (show(2:Int)≠0 by decide),qjn bs k 4096 (show(2:Int)≠0 by decide)] at h
   have h2:=qi7 bs k (e:=2) (([]:List UInt8).headD 0).toNat [] (by decide)
   rw[h] at h2
   exact absurd (congrArg Prod.snd h2) (show ¬(0:Int)=2 by decide)
 ·
  rename_i hne
  simp only[Prod.mk.injEq] at h
  exact absurd (congrArg Prod.snd h.2) hne
theorem qk6{bs rest:List UInt8}{k K:Nat}{c:Chk}(hk:k≤bs.length)(ho:ChkOk c)(hK:1≤K)(hK2:K≤64)(h:bs.drop k=qhp K c++rest):qby bs k 0=(c,k+(qhp K c).length,0):=by
 have hlt:k<bs.length:=by
  have:=congrArg List.length h
  rw[qy,qhp] at this
  simp at this
  omega
 have hkd:1≤c.kind∧c.kind≤3:=by rcases ho.kinds with h | h | h <;> omega
 have hc:=jc hlt
 rw[h,qhp,jd,List.cons.injEq] at hc
 obtain⟨c1,c2⟩:=hc
 have hn:bs[k].toNat=c.kind:=by rw[←c1];simp;omega
 rw[qp] at c2
 have hb:=qit c.there 4096 (by omega) c2.symm (by have:=ho.few;omega) (by have:=ho.few;omega)
 have hq:k+1+(xi c.there).length≤bs.length:=by
  have:=congrArg List.length c2
  rw[qy,qd] at this
  omega
 have ht:=takeC_there (rest:=rest) hq ho hK hK2 (by rw[←jh,←c2,ym])
 have hD:qmm bs k 0=(c,k+(qhp K c).length,0):=by
  unfold qmm
  simp only[qeq hlt,List.headD_cons,hn,qkd,if_pos hkd,hb,ht]
  rw[qhp,qw,qd]
  congr 2
  omega
 rw[qby,hD,if_pos rfl]
structure Part where
 A:Option Addr
 c:Nat
 bs:List UInt8
def Part.val(p:Part):Value:= .slice p.A p.bs.length p.c
def Part.rd(p:Part)(w:World)(hi:Nat):Prop:=Rd w 0 hi p.A p.c (bv p.bs)
def xo(ps:List Part):List UInt8:=ps.flatMap (·.bs)
theorem qpq(ps:List Part){k:Nat}(hk:k<ps.length):xo (ps.take (k+1))=xo (ps.take k)++ps[k].bs:=by
 unfold xo
 rw[qj hk,qdg]
 simp
theorem Tryz.infoBs:(Tryz.prog.info? 36).map (fun i=>(i.zero,i.size,i.bytes))=some (some (.slice none 0 0),1,24):=by kernel_rfl
def pv(ps:List Part):List Value:=ps.map Part.val
theorem qe5(ps:List Part):(pv ps).length=ps.length:=by simp[pv]
theorem pv_append(a b:List Part):pv (a++b)=pv a++pv b:=by simp[pv]
theorem pv_get(ps:List Part)(k:Nat)(h:k<ps.length):(pv ps)[k]? = some (.slice ps[k].A ps[k].bs.length ps[k].c):=by
 simp[pv,qe h,Part.val]
theorem pv_one(ps:List Part):∀u∈pv ps,u.oneCell'=true:=by
 intro u hu
 obtain⟨p,_,rfl⟩:=zl.1 hu
 rfl
def qma(ps:List Part):List (List UInt8):=ps.map (·.bs)
theorem qj9(ps:List Part):(qma ps).length=ps.length:=by simp[qma]
def qqc(w:World)(lo hi:Nat)(ps:List Part):Prop:=∀p∈ps,Rd w lo hi p.A p.c (bv p.bs)
section
variable {w w':World}{lo hi lo' hi' B:Nat}{ps:List Part}
theorem qqc.nil(w:World)(lo hi:Nat):qqc w lo hi []:=fun p hp=>(by cases hp)
theorem qqc.below(h:qqc w lo hi ps)(hb:Below B w w')(hB:hi≤B):qqc w' lo hi ps:=fun p hp=>(h p hp).below hb hB
theorem qqc.wide(h:qqc w lo hi ps)(h1:lo'≤lo)(h2:hi≤hi'):qqc w lo' hi' ps:=fun p hp=>(h p hp).wide h1 h2
theorem qqc.grown{row:Option Nat}(h:qqc w lo hi ps)(hg:w.grownBy w' row)(hB:hi≤w.heap.size)(hr:∀g,row=some g→g<lo∨hi≤g):qqc w' lo hi ps:=fun p hp=>(h p hp).grown hg hB hr
theorem qqc.push(h:qqc w lo hi ps){p:Part}(hp:Rd w lo hi p.A p.c (bv p.bs)):qqc w lo hi (ps++[p]):=fun q hq=>by
 rcases zm.1 hq with hq | hq
 ·
  exact h q hq
 ·
  rw[ze.1 hq];exact hp
theorem qqc.keep(h:qqc w lo hi ps)(hk:∀p:Addr,lo≤p.block→p.block<hi→w'.cell? p=w.cell? p):qqc w' lo hi ps:=fun p hp=>(h p hp).keep hk
end
structure PR (w:World) (base:Nat) (v:Value) (n:Nat) (ps:List Part):Prop where
 len:ps.length=n
 own:w.ownsRow base 36 1 v n (pv ps)
 rd:qqc w base w.heap.size ps
 apart:∀p∈ps,0<p.bs.length→∀b off,p.A=some ⟨b,off,none⟩→v.ownBlock≠some b
section
variable {w w':World}{base n:Nat}{v:Value}{ps:List Part}
theorem PR.nil(w:World)(base:Nat):PR w base (.slice none 0 0) 0 []:=⟨rfl,⟨rfl,.inl ⟨rfl,rfl⟩⟩,qqc.nil _ _ _,fun p hp=>(by cases hp)⟩
theorem PR.below{B:Nat}(h:PR w base v n ps)(hb:Below B w w')(hB:w.heap.size≤B):PR w' base v n ps :=
 ⟨h.len,jp h.own hb hB,(h.rd.below hb hB).wide (qc _) hb.size,h.apart⟩
theorem PR.alloc(h:PR w base v n ps)(o:Obj):PR (w.alloc o) base v n ps:=h.below ((Below.refl _ _).alloc (qc _) o) (qc _)
theorem PR.drewN(h:PR w base v n ps)(m:Nat):PR (w.drewN m) base v n ps:=h.below (zj (Below.refl _ _) m) (qc _)
theorem PR.cur{g:Nat}(h:PR w base v n ps)(hg:w.grownBy w' (some g))(hgb:g<base):PR w' base v n ps :=
 ⟨h.len,jv h.own fun k hk=>hg.block k (zk h.own hk).2 (fun e=>by injection e with e;have:=(zk h.own hk).1;omega),
  (h.rd.grown hg (qc _) fun k hk=>by cases hk;exact .inl hgb).wide (qc _) hg.size,h.apart⟩
end
theorem PR.read{w:World}{base n c:Nat}{A:Option Addr}{ps:List Part}(h:PR w base (.slice A n c) n ps):Rd w base w.heap.size A c (pv ps):=Rd.of_own h.own
theorem PR.fresh{w w5:World}{base n hi c:Nat}{v:Value}{A:Option Addr}{ps:List Part}{bs:List UInt8}(h:PR w base v n ps)(hr:Rd w5 w.heap.size hi A c (bv bs)) :
  0<bs.length→∀b off,A=some ⟨b,off,none⟩→v.ownBlock≠some b:=fun h0 b off e e2=>by
 obtain⟨b',off',e',h1,_⟩:=hr.at_ (by rw[yf];exact h0)
 rw[e] at e'
 cases e'
 have:=(zk h.own e2).2
 omega
theorem qdi{ops:Array Oper}{rest:List Oper}{o:Oper}{a:Act}{Q:Exit→Act→World→Prop}{w:World}{v:Value}{g n:Nat}(base:Nat)(ys:List Part)(z:Part)(hgd:o.guard=none)(s x:Operand)
  (ho:o.op= .call { callee:= .builtin .append,args:=#[s,x],argTypes:=#[39,39] }) (hty:o.type=39)
  (hs:a.eval s=v) (hx:a.eval x= .slice (some ⟨g,0,none⟩) 1 1) (hcell:w.cell? ⟨g,0,none⟩=some (.slice z.A z.bs.length z.c))
  (hown:PR w base v n ys) (hz:Rd w base w.heap.size z.A z.c (bv z.bs)) (hza:0<z.bs.length→∀b off,z.A=some ⟨b,off,none⟩→v.ownBlock≠some b) (hb:n+1≤1099511627776) (hbase:base≤w.heap.size)
  (h:∀A' c' w',PR w' base (.slice A' (n+1) c') (n+1) (ys++[z])→w.grownBy w' v.ownBlock→wpList Tryz.prog ops Q rest (a.put o.dst (.slice A' (n+1) c')) w') :
  wpList Tryz.prog ops Q (o :: rest) a w:=by
 obtain⟨hlen,hw,hrd,hap⟩:=hown
 subst hlen
 have hr:Rd w 0 w.heap.size (some ⟨g,0,none⟩) 1 (pv [z]):=⟨by simp[pv],by simp[maxLen],fun _=>⟨g,0,rfl,qi _,ya w _ hcell,fun j u hu=>by
  match j,hu with
  | 0,hu =>
   simp[pv,Part.val] at hu
   subst hu
   exact hcell
  | j+1,hu=>simp[pv] at hu⟩⟩
 obtain⟨i0,hi0,hz0,hz1,hz2⟩:=info_parts Tryz.infoBs
 obtain⟨A',c',w',hrun,h2,h3,h4⟩:=vt (P:=Tryz.prog) w base 39 39 36 i0 _ 24 Tryz.underlying39 hi0 hz0 hz1 hz2 rfl v ys.length (pv ys) hw 0 w.heap.size _ 1 (pv [z]) hr (pv_one _)
  (by simp[pv,maxLen];omega) (by simp[pv];omega) hbase
 have hl:(pv [z]).length=1:=rfl
 rw[hl] at hrun h2 h4
 have hkeep:∀p∈ys++[z],Rd w' base w.heap.size p.A p.c (bv p.bs)∧(0<p.bs.length→∀b off,p.A=some ⟨b,off,none⟩→v.ownBlock≠some b)∧(0<p.bs.length→∀b off,p.A=some ⟨b,off,none⟩→b<w.heap.size):=fun p hp=>by
  have hpr:Rd w base w.heap.size p.A p.c (bv p.bs)∧(0<p.bs.length→∀b off,p.A=some ⟨b,off,none⟩→v.ownBlock≠some b):=by
   rcases zm.1 hp with hp | hp
   ·
    exact⟨hrd p hp,hap p hp⟩
   ·
    rw[ze.1 hp];exact⟨hz,hza⟩
  refine⟨⟨hpr.1.len,hpr.1.cap,fun h0 => ?_⟩,hpr.2,fun h0 b off e => ?_⟩
  ·
   obtain⟨b,off,e,h5,h6,h7⟩:=hpr.1.at_ h0
   rw[yf] at h0
   exact⟨b,off,e,h5,h6,fun j u hu=>(qbj (h3.block b h6 (fun e2=>hpr.2 h0 b off e e2.symm))).trans (h7 j u hu)⟩
  ·
   obtain⟨b',off',e',h5,h6,h7⟩:=hpr.1.at_ (by rw[yf];exact h0)
   rw[e] at e'
   cases e'
   exact h6
 refine wpList_append_run hgd s x _ _ ho hs hx (by rw[hty];exact hrun) (h A' c' w' ⟨by simp,by rw[pv_append];exact h2,fun p hp=>(hkeep p hp).1.wide (qc _) h3.size,fun p hp h0 b off e => ?_⟩ h3)
 rcases h4 with h4 | h4
 ·
  rw[h4];exact(hkeep p hp).2.1 h0 b off e
 ·
  rw[h4]
  intro e2
  injection e2 with e2
  have:=(hkeep p hp).2.2 h0 b off e
  omega
theorem make_parts(w:World)(n:Nat)(h:n≤4294967295):∃w1,(Instr.makeSlice 39 (.int .i64 (n:Int)) (.int .i64 (n:Int))).run Tryz.prog w= .ok (.slice (some ⟨w.heap.size,0,none⟩) n n) w1∧
  w1.ownsRow w.heap.size 36 1 (.slice (some ⟨w.heap.size,0,none⟩) n n) n (List.replicate n (.slice none 0 0))∧w.grownBy w1 none:=by
 obtain⟨i0,hi0,hz0,hz1,hz2⟩:=info_parts Tryz.infoBs
 have:=run_make_full (P:=Tryz.prog) w w.heap.size 39 36 i0 _ 1 Tryz.underlying39 hi0 hz0 hz1 .i64 .i64 n (by rw[hz2];omega) (by simp only[maxLen];omega) (qc _)
 rw[xp,show(Value.slice none 0 0).cells=#[.slice none 0 0] from rfl,toList_madeCells_one] at this
 exact this
end Go.Proofs.YtjfecojdagmacaaGreat
