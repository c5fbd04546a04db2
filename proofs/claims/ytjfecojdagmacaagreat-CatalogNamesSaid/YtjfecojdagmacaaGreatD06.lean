/-
  Lemmas.
-/
import Derived.Test.YtjfecojdagmacaaGreatD05
import Derived.OneCell
namespace Go.Proofs.YtjfecojdagmacaaGreat
open Go.RowKit
set_option maxRecDepth 20000
set_option maxHeartbeats 16000000
set_option linter.unusedSimpArgs false
set_option linter.unusedVariables false
theorem qp8{K:Nat}(hK:1≤K):qaa 0 K=0:=by
 unfold qaa
 rw[yr]
 exact Nat.div_eq_of_lt (by omega)
theorem qjo{count K q:Nat}(hK:1≤K)(h:q<qaa count K):q*K<count:=by
 unfold qaa at h
 have h1:(q+1)*K≤count+K-1:=(Nat.le_div_iff_mul_le (by omega)).1 h
 rw[qek,qb4] at h1
 omega
theorem qmd{count K:Nat}(hK:1≤K):count≤qaa count K*K:=by
 unfold qaa
 have h1:=Nat.div_add_mod (count+K-1) K
 have h2:=qcm (count+K-1) (show 0<K by omega)
 rw[xe] at h1
 omega
theorem qpc{count K:Nat}(hK:1≤K):qaa count K≤count:=by
 rcases jr count with rfl | h0
 ·
  rw[qp8 hK];omega
 ·
  unfold qaa
  rw[Nat.div_le_iff_le_mul_add_pred (by omega)]
  have:count≤K*count:=Nat.le_mul_of_pos_left _ (by omega)
  omega
theorem openB_good{bs:List UInt8}{count K:Nat}(hK:1≤K):∀ {ns:List Nat} {i k k2:Nat} {l l2:List (List UInt8)},k≤bs.length→l.length=i*K→(∀q,q<i+ns.length→q*K<count)→qg6 bs count K ns i l k 0=(l2,k2,0)→
  (qed l=true→qed l2=true)∧(ns=[]→l2=l)∧(ns≠[]→l2.length=min count ((i+ns.length)*K))∧yk K l2 l2.length=yk K l l.length++ns∧qao K l2 l2.length++bs.drop k2=qao K l l.length++bs.drop k∧k≤k2∧k2≤bs.length
 | [],i,k,k2,l,l2,hk,hl,hq,h=>by
  simp only[qg6,Prod.mk.injEq,and_true] at h
  obtain⟨rfl,rfl⟩:=h
  exact⟨id,fun _=>rfl,fun h=>absurd rfl h,by simp,rfl,qc _,hk⟩
 | z :: ns,i,k,k2,l,l2,hk,hl,hq,h=>by
  have hi:=hq i (by simp)
  rw[qg6] at h
  obtain⟨n,hn⟩:∃n,min K (count-i*K)=n+1:=⟨min K (count-i*K)-1,by omega⟩
  rw[hn] at h
  obtain⟨R,hR⟩:∃R,qgz bs l k 0 (n+1) z=R:=⟨_,rfl⟩
  rw[hR] at h
  obtain⟨l1,k1,e1⟩:=R
  simp only at h
  by_cases he:e1=0
  ·
   subst he
   obtain⟨t,t1,t2,t3,t4,t5,t6,t7⟩:=takeT_good hk hR
   have hl1:l1.length=i*K+(n+1):=by rw[t2,qd,hl,t1]
   have hnK:n<K:=by omega
   have hd:(l1.drop (i*K)).take (n+1)=t:=by
    rw[t2,←hl,ym,qo (by omega)]
   have hS:yk K l1 l1.length=yk K l l.length++[z]:=by
    rw[hl1,qou hnK (by omega),hd,t5,hl,t2,sizes_app (by omega)]
   have hE:qao K l1 l1.length++bs.drop k1=qao K l l.length++bs.drop k:=by
    rw[hl1,qn8 (by omega) (by omega),hd,hl,t2,ents_app (by omega),t4,qp]
   cases ns with
   | nil =>
    simp only[qg6,Prod.mk.injEq,and_true] at h
    obtain⟨rfl,rfl⟩:=h
    refine⟨t3,fun h=>(by cases h),fun _ => ?_,hS,hE,by omega,t7⟩
    rw[hl1,zy,qek,qb4]
    omega
   | cons y ns =>
    have hi2:=hq (i+1) (by simp)
    rw[qek,qb4] at hi2
    have hl2:l1.length=(i+1)*K:=by rw[hl1,qek,qb4];omega
    obtain⟨i1,i2,i3,i4,i5,i6,i7⟩:=openB_good hK (ns:=y :: ns) t7 hl2 (fun q hq2=>hq q (by simp only[qw] at hq2 ⊢;omega)) h
    refine⟨fun hg=>i1 (t3 hg),fun h=>(by cases h),fun _ => ?_,?_,by rw[i5,hE],by omega,i7⟩
    ·
     rw[i3 (by simp)]
     have e:i+1+(y :: ns).length=i+(z :: y :: ns).length:=by simp;omega
     rw[e]
    ·
     rw[i4,hS]
     simp
  ·
   rw[qly _ _ _ _ _ _ _ he] at h
   simp only[Prod.mk.injEq] at h
   exact absurd h.2.2 he
def qkb(K:Nat)(L:List (List UInt8))(i m:Nat):List (List (List UInt8)):=(List.range' i m).map fun q=>(L.drop (q*K)).take K
theorem qpd(K:Nat)(L:List (List UInt8))(i m:Nat):qkb K L i (m+1)=(L.drop (i*K)).take K :: qkb K L (i+1) m:=rfl
theorem blks_concat(K:Nat)(L:List (List UInt8))(m:Nat):qkb K L 0 (m+1)=qkb K L 0 m++[(L.drop (m*K)).take K]:=by
 unfold qkb
 rw[List.range'_concat]
 simp
theorem blks_all{K:Nat}(hK:1≤K){L:List (List UInt8)}:∀ {m:Nat},(∀q,q<m→q*K<L.length)→yk K L (min (m*K) L.length)=(qkb K L 0 m).map (fun b=>(qab b).length)∧qao K L (min (m*K) L.length)=((qkb K L 0 m).map qab).flatten
 | 0,_=>by simp[qkb,yk,ents_zero]
 | m+1,h=>by
  have hm:=h m (by omega)
  obtain⟨h1,h2⟩:=blks_all hK (m:=m) fun q hq=>h q (by omega)
  rw[vj (by omega)] at h1 h2
  obtain⟨j,hj⟩:∃j,min K (L.length-m*K)=j+1:=⟨min K (L.length-m*K)-1,by omega⟩
  have e:min ((m+1)*K) L.length=m*K+(j+1):=by rw[qek,qb4];omega
  have ht:(L.drop (m*K)).take (j+1)=(L.drop (m*K)).take K:=by
   rw[←hj,List.take_eq_take_iff]
   simp
  rw[e,qou (by omega) (by omega),qn8 (by omega) (by omega),h1,h2,ht,blks_concat]
  simp
theorem qpt{bs rest:List UInt8}{K:Nat}(hK:1≤K){L:List (List UInt8)}(hg:qed L=true):∀ {m i k:Nat},k≤bs.length→(∀q,q<i+m→q*K<L.length)→L.length≤(i+m)*K→bs.drop k=((qkb K L i m).map qab).flatten++rest→
  qg6 bs L.length K ((qkb K L i m).map fun b=>(qab b).length) i (L.take (i*K)) k 0=(L,k+((qkb K L i m).map qab).flatten.length,0)
 | 0,i,k,hk,hq,hL,h=>by
  rw[xj] at hL
  simp[qkb,qg6,qo hL]
 | m+1,i,k,hk,hq,hL,h=>by
  have hi:=hq i (by omega)
  obtain⟨b,hb⟩:∃b,(L.drop (i*K)).take K=b:=⟨_,rfl⟩
  have hbl:b.length=min K (L.length-i*K):=by rw[←hb,qz,qy]
  have htk:L.take (i*K)++b=L.take ((i+1)*K):=by rw[←hb,qek,qb4,List.take_add]
  have hgb:qed (L.take (i*K)++b)=true:=by
   rw[htk]
   exact qk8 (t:=L.drop ((i+1)*K)) (by rw[zx];exact hg)
  rw[qpd,hb,yc,qaf,qp] at h
  rw[qpd,hb,yc,yc,qaf,qg6,←hbl]
  cases b with
  | nil=>simp at hbl;omega
  | cons s t =>
   have hT:=takeT_there (l:=L.take (i*K)) hk hgb h
   rw[qw]
   simp only[hT]
   rw[htk]
   have hlen:bs.length-k=(qab (s :: t)).length+(((qkb K L (i+1) m).map qab).flatten++rest).length:=by rw[←qy,h,qd]
   rw[qpt hK hg (m:=m) (i:=i+1) (by omega) (fun q h2=>hq q (by omega)) (by rw[show i+1+m=i+(m+1) by omega];exact hL) (by rw[←jh,h,ym])]
   rw[qd,qav]
theorem qlt{K:Nat}{l:List (List UInt8)}(h:qle l=true):qok (z8 (yk K l l.length))∧(yk K l l.length).length≤4096:=by
 obtain⟨h1,h2,h3⟩:=qdl.1 h
 refine⟨fun z hz => ?_,by have:=qlu K l l.length;omega⟩
 obtain⟨x,hx,rfl⟩:=zl.1 hz
 have h4:=sizes_le K l l.length x hx
 have h5:=qld K h2 l.length
 omega
theorem qnu{K:Nat}{l:List (List UInt8)}(hK:1≤K):yk K l l.length=(qkb K l 0 (qaa l.length K)).map (fun b=>(qab b).length)∧qao K l l.length=((qkb K l 0 (qaa l.length K)).map qab).flatten:=by
 have h:=blks_all hK (L:=l) (m:=qaa l.length K) fun q hq=>qjo hK hq
 rw[Nat.min_eq_right (qmd hK)] at h
 exact h
theorem openR_good{bs:List UInt8}{k k2:Nat}{l:List (List UInt8)}(hk:k≤bs.length)(h:qcq bs k 0=(l,k2,0)) :
  ∃K,1≤K∧K≤64∧qle l=true∧bs.drop k=kv K l++bs.drop k2∧k2=k+(kv K l).length∧k2≤bs.length:=by
 unfold qcq at h
 obtain⟨C,hC⟩:∃C,jw bs k 0 4096=C:=⟨_,rfl⟩
 rw[hC] at h
 obtain⟨count,k1,e1⟩:=C
 simp only at h
 obtain⟨D,hD⟩:∃D,jw bs k1 e1 64=D:=⟨_,rfl⟩
 rw[hD] at h
 obtain⟨K,k3,e3⟩:=D
 simp only at h
 unfold openK at h
 by_cases hKK:1≤K∧K≤64
 ·
  rw[if_pos hKK] at h
  by_cases h0:(qn2 bs count K k3 e3).2.2=0
  ·
   rw[if_pos h0] at h
   unfold qn2 at h
   obtain⟨R,hR⟩:∃R,qa4 bs k3 e3 (qaa count K:Int)=R:=⟨_,rfl⟩
   rw[hR] at h
   obtain⟨ns,k4,e4⟩:=R
   simp only at h
   by_cases hn:ns.length=qaa count K
   ·
    rw[if_pos hn] at h
    by_cases he4:e4=0
    ·
     subst he4
     have he3:e3=0:=Decidable.byContradiction fun hne=>by
      rw[qkz _ _ _ hne] at hR
      simp only[Prod.mk.injEq] at hR
      exact hne hR.2.2
     subst he3
     have he1:e1=0:=Decidable.byContradiction fun hne=>by
      rw[qib _ _ _ hne] at hD
      simp only[Prod.mk.injEq] at hD
      exact hne hD.2.2
     subst he1
     obtain⟨a1,a2,a3,a4,a5⟩:=qbp hk hC
     obtain⟨b1,b2,b3,b4,b5⟩:=qbp a5 hD
     have hbl:=qpc (count:=count) (K:=K) hKK.1
     obtain⟨c1,c2,c3,c4,c5⟩:=qjb b5 (by omega) hR
     obtain⟨o1,o2,o3,o4,o5,o6,o7⟩:=openB_good hKK.1 c5 (by simp) (fun q hq=>qjo hKK.1 (by rw[←hn];omega)) h
     have hcl:l.length=count:=by
      rcases jr count with hz | hz
      ·
       subst hz
       rw[qp8 hKK.1] at hn
       rw[o2 (zh hn)]
       rfl
      ·
       have hg:=qmd (count:=count) hKK.1
       have hne:ns≠[]:=fun e=>by
        rw[e] at hn
        rw[←hn] at hg
        simp at hg
        omega
       rw[o3 hne,yr,hn]
       omega
     have hd:qle l=true:=by
      rw[dic_good,o1 rfl,qx (by omega)]
      rfl
     have hs:yk K l l.length=ns:=by rw[o4];rfl
     have hE:bs.drop k4=qao K l l.length++bs.drop k2:=by rw[o5];rfl
     have hF:bs.drop k=kv K l++bs.drop k2:=by
      rw[a3,b3,c3,hE,kv,hs,hcl]
      simp
     refine⟨K,hKK.1,hKK.2,hd,hF,?_,o7⟩
     have:=congrArg List.length hF
     rw[qd,qy,qy] at this
     omega
    ·
     rw[qly _ _ _ _ _ _ _ he4] at h
     simp only[Prod.mk.injEq] at h
     exact absurd h.2.2 he4
   ·
    rw[if_neg hn,qly _ _ _ _ _ _ _ (xw _)] at h
    simp only[Prod.mk.injEq] at h
    exact absurd h.2.2 (xw _)
  ·
   rw[if_neg h0] at h
   simp only[Prod.mk.injEq] at h
   have:=h.2
   rw[this] at h0
   exact absurd rfl h0
 ·
  rw[if_neg hKK] at h
  simp only[Prod.mk.injEq] at h
  exact absurd h.2.2 (xw _)
theorem openR_there{bs rest:List UInt8}{k K:Nat}{l:List (List UInt8)}(hk:k≤bs.length)(hK:1≤K)(hK2:K≤64)(hd:qle l=true)(h:bs.drop k=kv K l++rest) :
  qcq bs k 0=(l,k+(kv K l).length,0):=by
 have hg:qed l=true:=by rw[dic_good,yx] at hd;exact hd.2
 have hl:l.length≤4096:=(qdl.1 hd).1
 obtain⟨hm,hm2⟩:=qlt (K:=K) hd
 obtain⟨hsb,heb⟩:=qnu (K:=K) (l:=l) hK
 have hlen:=congrArg List.length h
 rw[qy,qd] at hlen
 have hfl:(kv K l).length=(ji l.length).length+((ji K).length+((js (z8 (yk K l l.length))).length+(qao K l l.length).length)):=by simp[kv]
 have h1:bs.drop k=ji l.length++(ji K++(js (z8 (yk K l l.length))++(qao K l l.length++rest))):=by rw[h,kv];simp
 have hC:=ut (m:=4096) h1 (by omega) (by omega)
 obtain⟨k1,hk1⟩:∃k1,k+(ji l.length).length=k1:=⟨_,rfl⟩
 rw[hk1] at hC
 have h2:bs.drop k1=ji K++(js (z8 (yk K l l.length))++(qao K l l.length++rest)):=by rw[←hk1,←jh,h1,ym]
 have hD:=ut (m:=64) h2 (by omega) (by omega)
 obtain⟨k2,hk2⟩:∃k2,k1+(ji K).length=k2:=⟨_,rfl⟩
 rw[hk2] at hD
 have h3:bs.drop k2=js (z8 (yk K l l.length))++(qao K l l.length++rest):=by rw[←hk2,←jh,h2,ym]
 have hnl:(yk K l l.length).length=qaa l.length K:=by rw[hsb];simp[qkb]
 have hR:=qh7 (z8 (yk K l l.length)) hm (qaa l.length K) (by omega) h3 (by rw[zu,hnl];exact qc _) (by have:=qpc (count:=l.length) hK;omega)
 rw[qo0] at hR
 obtain⟨k3,hk3⟩:∃k3,k2+(js (z8 (yk K l l.length))).length=k3:=⟨_,rfl⟩
 rw[hk3] at hR
 have h4:bs.drop k3=qao K l l.length++rest:=by rw[←hk3,←jh,h3,ym]
 rw[heb] at h4
 have hB:=qpt hK hg (m:=qaa l.length K) (i:=0) (k:=k3) (by omega) (fun q hq=>qjo hK (by omega)) (by rw[yr];exact qmd hK) h4
 rw[←hsb,←heb,Nat.zero_mul,y9] at hB
 have hM:qn2 bs l.length K k2 0=(l,k3+(qao K l l.length).length,0):=by
  unfold qn2
  rw[hR]
  simp only[hnl,if_true]
  exact hB
 unfold qcq openK
 simp only[hC,hD,hM,if_true]
 rw[if_pos ⟨hK,hK2⟩]
 simp only[Prod.mk.injEq,and_true,true_and]
 omega
theorem qhn(s:ByteArray):s.data.toList.length=s.size:=by rw[jt];rfl
def qaj(l t:List (List UInt8)):Prop:=xc t=true∧∀x,x∈t↔x∈l
theorem qaj.one{l t u:List (List UInt8)}(h:qaj l t)(k:qaj l u):t=u :=
 (qgr h.1 k.1 fun x hx=>(k.2 x).2 ((h.2 x).1 hx)).eq_of_length_le (qgr k.1 h.1 fun x hx=>(h.2 x).2 ((k.2 x).1 hx)).length_le
def qdu(T:List (List UInt8))(l:List UInt8):Int×Nat:=qfi T 0 (-1) 0 l
theorem qna(l:List UInt8):∀(T:List (List UInt8)) (i:Nat) (c:Int) (n:Nat),qfi T i c n l=(c,n)∨∃j s,T[j]? = some s∧qfi T i c n l=(((i+j:Nat):Int),s.length)∧n<s.length∧s.isPrefixOf l=true
 | [],i,c,n=>Or.inl rfl
 | t :: ts,i,c,n=>by
  unfold qfi
  by_cases h:n<t.length∧t.isPrefixOf l=true
  ·
   rw[if_pos h]
   rcases qna l ts (i+1) (i:Int) t.length with h1 | ⟨j,s,h1,h2,h3,h4⟩
   ·
    exact Or.inr ⟨0,t,rfl,h1,h.1,h.2⟩
   ·
    exact Or.inr ⟨j+1,s,by simpa using h1,by rw[h2,show i+1+j=i+(j+1) by omega],by omega,h4⟩
  ·
   rw[if_neg h]
   rcases qna l ts (i+1) c n with h1 | ⟨j,s,h1,h2,h3,h4⟩
   ·
    exact Or.inl h1
   ·
    exact Or.inr ⟨j+1,s,by simpa using h1,by rw[h2,show i+1+j=i+(j+1) by omega],h3,h4⟩
theorem qdy(T:List (List UInt8))(l:List UInt8):qdu T l=(-1,0)∨∃(j:Nat) (s:List UInt8),T[j]? = some s∧qdu T l=((j:Int),s.length)∧0<s.length∧List.IsPrefix s l:=by
 rcases qna l T 0 (-1) 0 with h | ⟨j,s,h1,h2,h3,h4⟩
 ·
  exact Or.inl h
 ·
  exact Or.inr ⟨j,s,h1,by rw[qdu,h2,yr],h3,List.isPrefixOf_iff_prefix.1 h4⟩
theorem longP_nil(T:List (List UInt8)):qdu T []=(-1,0):=by
 rcases qdy T [] with h | ⟨j,s,_,_,h3,h4⟩
 ·
  exact h
 ·
  have:=h4.length_le
  rw[j4] at this
  omega
theorem qnb(l:List UInt8):∀(T:List (List UInt8)) (i:Nat) (c:Int) (n:Nat),n≤(qfi T i c n l).2∧∀u∈T,u.isPrefixOf l=true→u.length≤(qfi T i c n l).2
 | [],i,c,n=>⟨qc _,fun u hu=>by cases hu⟩
 | t :: ts,i,c,n=>by
  unfold qfi
  by_cases h:n<t.length∧t.isPrefixOf l=true
  ·
   rw[if_pos h]
   have ih:=qnb l ts (i+1) (i:Int) t.length
   refine⟨by omega,fun u hu hp => ?_⟩
   rcases z7.1 hu with rfl | hu
   ·
    exact ih.1
   ·
    exact ih.2 u hu hp
  ·
   rw[if_neg h]
   have ih:=qnb l ts (i+1) c n
   refine⟨ih.1,fun u hu hp => ?_⟩
   rcases z7.1 hu with rfl | hu
   ·
    have:¬n<u.length:=fun h2=>h ⟨h2,hp⟩
    omega
   ·
    exact ih.2 u hu hp
theorem longP_is{T:List (List UInt8)}{l s:List UInt8}{i:Nat}(hr:xc T=true)(hi:i<T.length)(he:T[i]=s)(hp:List.IsPrefix s l)(h0:0<s.length)(hm:∀u∈T,List.IsPrefix u l→u.length≤s.length):qdu T l=((i:Int),s.length):=by
 have hmost:=(qnb l T 0 (-1) 0).2 s (he ▸ ql hi) (List.isPrefixOf_iff_prefix.2 hp)
 rcases qdy T l with h | ⟨j,s2,h1,h2,h3,h4⟩
 ·
  rw[show qfi T 0 (-1) 0 l=qdu T l from rfl,h] at hmost
  exact absurd hmost (by show ¬s.length≤0;omega)
 ·
  rw[show qfi T 0 (-1) 0 l=qdu T l from rfl,h2] at hmost
  obtain⟨hj,hje⟩:=zw.1 h1
  have hle:=hm s2 (hje ▸ ql hj) h4
  have hlen:s.length=s2.length:=by show _=_;simp only at hmost;omega
  have hes:s=s2:=by
   obtain⟨r1,e1⟩:=hp
   obtain⟨r2,e2⟩:=h4
   exact(List.append_inj (e1.trans e2.symm) hlen).1
  have:i=j:=rises_inj hr hi hj (by rw[he,hje,hes])
  rw[h2,this,hlen]
theorem longP_none{T:List (List UInt8)}{l:List UInt8}(h:∀u∈T,List.IsPrefix u l→u.length=0):qdu T l=(-1,0):=by
 rcases qdy T l with h1 | ⟨j,s,h1,h2,h3,h4⟩
 ·
  exact h1
 ·
  obtain⟨hj,hje⟩:=zw.1 h1
  have:=h s (hje ▸ ql hj) h4
  omega
theorem cmpL_prefix{p q:List UInt8}(h:q≠[]):yl p (p++q)<0:=by
 have:=qnk p [] q
 rw[jb] at this
 rw[this]
 cases q with
 | nil=>exact absurd rfl h
 | cons=>simp[yl]
theorem cmpL_takes{l:List UInt8}{m n:Nat}(h:m<n)(hn:n≤l.length):yl (l.take m) (l.take n)<0:=by
 have e:l.take n=l.take m++(l.drop m).take (n-m):=by
  rw[←List.take_add,show m+(n-m)=n by omega]
 rw[e]
 refine cmpL_prefix fun h2 => ?_
 have:=congrArg List.length h2
 rw[qz,qy,j4] at this
 omega
def encF(T:List (List UInt8)):Nat→List UInt8→List UInt8
 | 0,_=>[]
 | _+1,[]=>[]
 | f+1,x :: l=>if 0≤(qdu T (x :: l)).1 then UInt8.ofNat (qdu T (x :: l)).1.toNat :: encF T f ((x :: l).drop (qdu T (x :: l)).2) else 255 :: x :: encF T f l
theorem enc_fuel(T:List (List UInt8)):∀(f g:Nat) (l:List UInt8),l.length≤f→l.length≤g→encF T f l=encF T g l
 | 0,0,_,_,_=>rfl
 | 0,g+1,[],_,_=>rfl
 | f+1,0,[],_,_=>rfl
 | f+1,g+1,[],_,_=>rfl
 | f+1,g+1,x :: l,hf,hg=>by
  rw[qw] at hf hg
  unfold encF
  rcases qdy T (x :: l) with h | ⟨j,s,_,h2,h3,_⟩
  ·
   rw[h,if_neg (by decide),if_neg (by decide),enc_fuel T f g l (by omega) (by omega)]
  ·
   rw[h2,if_pos (by simp),if_pos (by simp),enc_fuel T f g _ (by simp;omega) (by simp;omega)]
def kn(T:List (List UInt8))(l:List UInt8):List UInt8:=encF T l.length l
theorem enc_code{T:List (List UInt8)}{l:List UInt8}{j n:Nat}(h:qdu T l=((j:Int),n))(hn:0<n):kn T l=UInt8.ofNat j :: kn T (l.drop n):=by
 rcases l with _ | ⟨x,l⟩
 ·
  rw[longP_nil] at h
  have:=congrArg Prod.snd h
  simp at this
  omega
 ·
  show encF T (l.length+1) (x :: l)=_
  unfold encF
  rw[h,if_pos (by simp),vr,kn]
  congr 1
  exact enc_fuel T _ _ _ (by simp;omega) (qc _)
theorem enc_esc{T:List (List UInt8)}{x:UInt8}{l:List UInt8}(h:qdu T (x :: l)=(-1,0)):kn T (x :: l)=255 :: x :: kn T l:=by
 show encF T (l.length+1) (x :: l)=_
 unfold encF
 rw[h,if_neg (by decide),kn]
def qey(T:List (List UInt8))(most:Int):List UInt8→List UInt8→Nat→List UInt8×Nat×Nat
 | [],o,n=>(o,0,n)
 | x :: l,o,n =>
  if x=255 then
   match l with
   | []=>([],2,n)
   | y :: l'=>if most<((o++[y]).length:Int) then ([],6,n+1) else qey T most l' (o++[y]) (n+1)
  else match T[x.toNat]? with
   | none=>([],3,n)
   | some s=>if most<((o++s).length:Int) then ([],6,n+1) else qey T most l (o++s) (n+1)
section
variable {T:List (List UInt8)}{most:Int}
theorem dec_nil(o:List UInt8)(n:Nat):qey T most [] o n=(o,0,n):=by rw[qey]
theorem dec_end(o:List UInt8)(n:Nat):qey T most [255] o n=([],2,n):=by simp[qey]
theorem dec_lit(y:UInt8)(l o:List UInt8)(n:Nat):qey T most (255 :: y :: l) o n=if most<((o++[y]).length:Int) then ([],6,n+1) else qey T most l (o++[y]) (n+1):=by
 rw[qey.eq_def]
 simp only[if_pos]
theorem dec_wrong{x:UInt8}(l o:List UInt8)(n:Nat)(h:x≠255)(hx:T.length≤x.toNat):qey T most (x :: l) o n=([],3,n):=by
 rw[qey.eq_def]
 simp only[if_neg h,yh hx]
theorem dec_sym{x:UInt8}{s:List UInt8}(l o:List UInt8)(n:Nat)(h:x≠255)(hx:T[x.toNat]? = some s):qey T most (x :: l) o n=if most<((o++s).length:Int) then ([],6,n+1) else qey T most l (o++s) (n+1):=by
 rw[qey.eq_def]
 simp only[if_neg h,hx]
end
def jx(l:List ByteArray)(ds:List Int):List ByteArray:=if l=[] then [] else ds.map fun d=>l.getD (d.natAbs%l.length) ⟨#[]⟩
structure Cnt (P ns:List (List UInt8)) (cs:List Nat):Prop where
 len:ns.length=cs.length
 once:ns.Nodup
 cnt:∀i (h:i<ns.length),cs[i]'(by omega)=P.count ns[i]
 mem:∀x,x∈ns↔x∈P
theorem Cnt.nil:Cnt [] [] []:=⟨rfl,List.nodup_nil,fun i h=>absurd h (ja i),fun _=>Iff.rfl⟩
theorem Cnt.new{P ns:List (List UInt8)}{cs:List Nat}(h:Cnt P ns cs){s:List UInt8}(hs:s∉ns):Cnt (P++[s]) (ns++[s]) (cs++[1]):=by
 have hl:=h.len
 refine⟨by simp[hl],?_,fun j hj => ?_,fun x => ?_⟩
 ·
  rw[List.nodup_append]
  exact⟨h.once,by simp,fun a ha b hb=>by
   rw[ze] at hb
   subst hb
   exact fun e=>hs (e ▸ ha)⟩
 ·
  rw[List.count_append,List.count_singleton]
  have hs0:P.count s=0:=List.count_eq_zero.2 fun hx=>hs ((h.mem s).2 hx)
  by_cases hjl:j<ns.length
  ·
   rw[xh (by omega),xh hjl,h.cnt j hjl]
   have:s≠ns[j]:=fun e=>hs (e ▸ ql hjl)
   simp[this]
  ·
   have hj2:j=ns.length:=by rw[qd,zy] at hj;omega
   subst hj2
   rw[vl (by omega),vl (by omega)]
   simp[hs0,hl]
 ·
  rw[zm,zm,h.mem]
theorem Cnt.few{P ns:List (List UInt8)}{cs:List Nat}(h:Cnt P ns cs):ns.length≤P.length:=h.once.length_le_of_subset fun x hx=>(h.mem x).1 hx
theorem Cnt.low{P ns:List (List UInt8)}{cs:List Nat}(h:Cnt P ns cs){i:Nat}(hi:i<cs.length):cs[i]≤P.length:=by
 rw[h.cnt i (by rw[h.len];exact hi)]
 exact qcz
def qdb(T:List (List UInt8))(l:List UInt8):Nat:=if (qdu T l).2=0 then 1 else (qdu T l).2
def qj0(T:List (List UInt8)):Nat→List UInt8→List UInt8→List (List UInt8)
 | 0,_,_=>[]
 | _+1,_,[]=>[]
 | f+1,last,x :: l=>(x :: l).take (qdb T (x :: l)) :: ((if last≠[]∧last.length+qdb T (x :: l)≤8 then [last++(x :: l).take (qdb T (x :: l))] else []) ++
   qj0 T f ((x :: l).take (qdb T (x :: l))) ((x :: l).drop (qdb T (x :: l))))
def qal(T:List (List UInt8))(last l:List UInt8):List (List UInt8):=qj0 T l.length last l
def qfc(T:List (List UInt8))(sample:List (List UInt8)):List (List UInt8):=sample.flatMap (qal T [])
def qmo(P:List (List UInt8))(x:List UInt8):Nat:=P.count x*x.length
def qgm(P:List (List UInt8))(x y:List UInt8):Prop:=qmo P y<qmo P x∨(qmo P x=qmo P y∧yl x y<0)
theorem beats_asym{P:List (List UInt8)}{x y:List UInt8}(h:qgm P x y)(k:qgm P y x):False:=by
 rcases h with h | ⟨h,h2⟩
 ·
  rcases k with k | ⟨k,_⟩ <;> omega
 ·
  rcases k with k | ⟨_,k2⟩
  ·
   omega
  ·
   exact qez (um h2 k2)
structure TopOf (P best:List (List UInt8)):Prop where
 once:best.Nodup
 few:best.length≤255
 of:∀x∈best,x∈P
 top:∀y∈P,y∉best→best.length=255∧∀x∈best,qgm P x y
theorem TopOf.sub{P b c:List (List UInt8)}(h:TopOf P b)(k:TopOf P c):∀x∈b,x∈c:=by
 intro x hx
 by_cases hc:x∈c
 ·
  exact hc
 ·
  exfalso
  obtain⟨h1,h2⟩:=k.top x (h.of x hx) hc
  by_cases hs:∃y∈c,y∉b
  ·
   obtain⟨y,hy,hyb⟩:=hs
   exact beats_asym ((h.top y (k.of y hy) hyb).2 x hx) (h2 y hy)
  ·
   have hsub:∀y∈x :: c,y∈b:=fun y hy=>by
    rcases z7.1 hy with rfl | hy
    ·
     exact hx
    ·
     exact Classical.byContradiction fun hn=>hs ⟨y,hy,hn⟩
   have hnd:(x :: c).Nodup:=List.nodup_cons.2 ⟨hc,k.once⟩
   have:=hnd.length_le_of_subset hsub
   have:=h.few
   rw[qw] at *
   omega
def qfa(P t:List (List UInt8)):Prop:=∃best,TopOf P best∧IsOrder best t
theorem IsOrder.same{l m t:List (List UInt8)}(h:IsOrder l t)(hs:∀x,x∈l↔x∈m):IsOrder m t :=
 ⟨h.rises,h.few,fun x hx=>⟨(hs x).1 (h.of x hx).1,(h.of x hx).2⟩,fun s hs2 ho=>h.all s ((hs s).2 hs2) ho⟩
theorem qfa.one{P t u:List (List UInt8)}(h:qfa P t)(k:qfa P u):t=u:=by
 obtain⟨b,h1,h2⟩:=h
 obtain⟨c,k1,k2⟩:=k
 exact(h2.same fun x=>⟨h1.sub k1 x,k1.sub h1 x⟩).one k2
structure Sel (P ns:List (List UInt8)) (ks:List Nat):Prop where
 once:ks.Nodup
 lt:∀k∈ks,k<ns.length
 top:∀k (hk:k∈ks) j (hj:j<ns.length),j∉ks→qgm P (ns[k]'(lt k hk)) ns[j]
theorem Sel.nil(P ns:List (List UInt8)):Sel P ns []:=⟨List.nodup_nil,fun k h=>(by cases h),fun k h=>(by cases h)⟩
theorem Sel.snoc{P ns:List (List UInt8)}{ks:List Nat}(h:Sel P ns ks){k:Nat}(hk:k<ns.length)(hn:k∉ks)(hb:∀j (hj:j<ns.length),j∉ks→j≠k→qgm P ns[k] ns[j]):Sel P ns (ks++[k]):=by
 refine⟨?_,fun j hj => ?_,fun i hi j hj hnj => ?_⟩
 ·
  rw[List.nodup_append]
  exact⟨h.once,by simp,fun a ha b hb e=>by
   rw[ze] at hb
   subst hb
   exact hn (e ▸ ha)⟩
 ·
  rcases zm.1 hj with hj | hj
  ·
   exact h.lt j hj
  ·
   rw[ze] at hj
   omega
 ·
  have hnj1:j∉ks:=fun e=>hnj (List.mem_append_left _ e)
  have hnj2:j≠k:=fun e=>hnj (qce _ (by rw[e];exact List.mem_singleton_self _))
  rcases zm.1 hi with hi2 | hi2
  ·
   exact h.top i hi2 j hj hnj1
  ·
   rw[ze] at hi2
   subst hi2
   exact hb j hj hnj1 hnj2
def nz(cs:List Nat):List Value:=iv (cs.map fun(n:Nat)=>(n:Int))
theorem nz_set(cs:List Nat)(i n:Nat):nz (cs.set i n)=(nz cs).set i (.int .i64 (n:Int)):=by simp[nz,iv,List.map_set]
structure Two (w:World) (base:Nat) (u v:Value) (ns:List ByteArray) (cs:List Nat):Prop where
 o1:w.ownsRow base 9 1 u ns.length (sv ns)
 o2:w.ownsRow base 3 1 v cs.length (nz cs)
 ap:∀g,u.ownBlock=some g→v.ownBlock=some g→False
theorem Two.nil(w:World)(base:Nat):Two w base (.slice none 0 0) (.slice none 0 0) [] []:=⟨zf ..,zf ..,fun _ h=>(by cases h)⟩
theorem Two.drewN{w:World}{base:Nat}{u v:Value}{ns:List ByteArray}{cs:List Nat}(h:Two w base u v ns cs)(m:Nat):Two (w.drewN m) base u v ns cs :=
 ⟨jv h.o1 (fun _ _=>rfl),jv h.o2 (fun _ _=>rfl),h.ap⟩
theorem Two.set{w:World}{base:Nat}{u:Value}{g n cap:Nat}{ns:List ByteArray}{cs:List Nat}(h:Two w base u (.slice (some ⟨g,0,none⟩) n cap) ns cs)(hn:n=cs.length)(i x:Nat) :
  Two (w.setCell ⟨g,i,none⟩ (.int .i64 (x:Int))) base u (.slice (some ⟨g,0,none⟩) n cap) ns (cs.set i x):=by
 subst hn
 refine⟨ownsRow_setCell_other h.o1 (fun e=>h.ap g e rfl) _,?_,h.ap⟩
 rw[nz_set,jn]
 exact(h.o2.stored i _).1
structure Spot (w:World) (b1 o1 b2 o2 i:Nat) (t:ByteArray) (z G:Nat):Prop where
 c1:w.cell? ⟨b1,o1+i,none⟩=some (.string t)
 c2:w.cell? ⟨b2,o2+i,none⟩=some (.int .i64 (z:Int))
 lt:t.size≤8
 lz:z≤1000000
 w1:Value.int .i64 (IntKind.i64.wrap ((z:Int)*(t.size:Int)))= .int .i64 (G:Int)
 w2:Value.int .i64 (wrap64 ((z:Int)*(t.size:Int)))= .int .i64 (G:Int)
 lg:G≤8000000
theorem qdt(l:List ByteArray):yj (qm l)=l:=by
 unfold yj qm
 rw[qac]
 conv=>rhs;rw[←List.map_id l]
 apply qb2
 intro s _
 exact qhk s
def qba(S:List (List UInt8)):Nat→List (List UInt8)→Prop
 | 0,t=>t=[]
 | k+1,t=>∃u,qba S k u∧qfa (qfc u S) t
theorem qba.one{S:List (List UInt8)}:∀ {k:Nat} {t u:List (List UInt8)},qba S k t→qba S k u→t=u
 | 0,_,_,h1,h2=>h1.trans h2.symm
 | _+1,_,_,⟨a,h1,h2⟩,⟨b,k1,k2⟩=>by
  obtain rfl:=qba.one h1 k1
  exact h2.one k2
theorem qfa.ok{P t:List (List UInt8)}(h:qfa P t):∀x∈t,qhm x=true:=by
 obtain⟨b,_,h2⟩:=h
 exact fun x hx=>(h2.of x hx).2
theorem qfa.few{P t:List (List UInt8)}(h:qfa P t):t.length≤255:=by
 obtain⟨b,_,h2⟩:=h
 exact h2.few
theorem qba.ok{S:List (List UInt8)}:∀ {k:Nat} {t:List (List UInt8)},qba S k t→(∀x∈t,qhm x=true)∧t.length≤255
 | 0,t,h=>by
  obtain rfl:t=[]:=h
  exact⟨fun x hx=>absurd hx xv,qi _⟩
 | k+1,t,⟨u,_,h⟩=>⟨h.ok,h.few⟩
theorem kx(l:List (List UInt8)):qm (yj l)=l:=by
 unfold qm yj
 rw[qac]
 conv=>rhs;rw[←List.map_id l]
 exact qb2 fun x _=>by simp
def qb3(N:Int):Nat:=if 8≤N then 8 else N.toNat
end Go.Proofs.YtjfecojdagmacaaGreat
