/-
  Lemmas.
-/
import Derived.Test.YtnjkipnklpkaoaaGreatA06
namespace Go.Proofs.YtnjkipnklpkaoaaGreat
open Go.RowKit
set_option maxRecDepth 20000
set_option maxHeartbeats 16000000
set_option linter.unusedSimpArgs false
set_option linter.unusedVariables false
def qd5:List UInt8→List (List UInt8)→List UInt8
 | _,[]=>[]
 | p,s :: t=>jo (xg p s)++(vi (s.drop (xg p s))++qd5 s t)
def jae:List (List UInt8)→List UInt8
 | []=>[]
 | s :: t=>vi s++qd5 s t
theorem entsR_snoc:∀(p:List UInt8) (t:List (List UInt8)) (s:List UInt8),qd5 p (t++[s])=qd5 p t++(jo (xg (t.getLastD p) s)++vi (s.drop (xg (t.getLastD p) s)))
 | p,[],s=>by simp[qd5]
 | p,x :: t,s=>by
  rw[z6,qd5,entsR_snoc x t s,qd5,List.getLastD_cons]
  simp
theorem blkL_snoc{t:List (List UInt8)}(h:t≠[])(s:List UInt8):jae (t++[s])=jae t++(jo (xg (t.getLastD []) s)++vi (s.drop (xg (t.getLastD []) s))):=by
 cases t with
 | nil=>exact absurd rfl h
 | cons x t =>
  rw[z6,jae,entsR_snoc,jae,List.getLastD_cons]
  simp
theorem lastD_take{l:List (List UInt8)}{j:Nat}(h:j<l.length)(d:List UInt8):(l.take (j+1)).getLastD d=l[j]:=by
 rw[qg h,List.getLastD_concat]
theorem getD_at{l:List (List UInt8)}{i:Nat}(h:i<l.length):l.getD i []=l[i]:=by
 rw[yw,qe h]
 rfl
theorem blk_ent{K i j:Nat}{l:List (List UInt8)}(hj:j<K)(h:i*K+j<l.length):jae ((l.drop (i*K)).take (j+1))=jae ((l.drop (i*K)).take j)++qhm K l (i*K+j):=by
 have hd:j<(l.drop (i*K)).length:=by rw[qu];omega
 have he:(l.drop (i*K))[j]=l[i*K+j]:=by simp
 rw[qg hd,he]
 unfold qhm entL
 rw[getD_at h]
 have hm:(i*K+j)%K=j:=by rw[xo,Nat.mul_add_mod,vd hj]
 rw[hm]
 cases j with
 | zero=>simp[jae,qd5]
 | succ j =>
  have hne:(l.drop (i*K)).take (j+1)≠[]:=fun e=>by
   have:=congrArg List.length e
   rw[qy,je] at this
   omega
  have h2:i*K+(j+1)-1=i*K+j:=by omega
  rw[blkL_snoc hne,lastD_take (by omega),if_neg (by omega),h2,getD_at (by omega)]
  simp
theorem qpm{K i:Nat}{l:List (List UInt8)}:∀ {j:Nat},j≤K→i*K+j≤l.length→qaj K l (i*K+j)=qaj K l (i*K)++jae ((l.drop (i*K)).take j)
 | 0,_,_=>by simp[jae]
 | j+1,hj,h=>by
  rw[←qa9,qea,qpm (j:=j) (by omega) (by omega),blk_ent (by omega) (by omega),qv]
theorem bump_snoc(S:List Nat)(x n:Nat):qni (S++[x]) n=S++[x+n]:=by
 unfold qni
 simp
theorem qp5{K i:Nat}{l:List (List UInt8)}:∀ {j:Nat},j<K→i*K+(j+1)≤l.length→yi K l (i*K+(j+1))=yi K l (i*K)++[(jae ((l.drop (i*K)).take (j+1))).length]
 | 0,hj,h=>by
  rw[blk_ent hj (by omega)]
  simp[jae,yi,bump_snoc]
 | j+1,hj,h=>by
  have hm:(i*K+(j+1))%K=j+1:=by rw[xo,Nat.mul_add_mod,vd hj]
  rw[←qa9,yi,if_neg (by omega),qp5 (j:=j) (by omega) (by omega),bump_snoc,blk_ent (j:=j+1) hj (by omega),qd]
theorem entI_app{K k:Nat}{l t:List (List UInt8)}(h:k<l.length):qhm K (l++t) k=qhm K l k:=by
 unfold qhm
 rw[yw,yw,vh h,vh (by omega),←yw,←yw]
theorem ents_app{K:Nat}{l t:List (List UInt8)}:∀ {k:Nat},k≤l.length→qaj K (l++t) k=qaj K l k
 | 0,_=>rfl
 | k+1,h=>by rw[qea,qea,ents_app (by omega),entI_app (by omega)]
theorem sizes_app{K:Nat}{l t:List (List UInt8)}:∀ {k:Nat},k≤l.length→yi K (l++t) k=yi K l k
 | 0,_=>rfl
 | k+1,h=>by rw[yi,yi,sizes_app (by omega),entI_app (by omega)]
def qe0(l:List (List UInt8))(s:List UInt8):Bool:=decide (s.length≤4096)&&(decide (l.length=0)||decide (yr (l.getLastD []) s<0))
def qeg(l:List (List UInt8)):Bool:=l.all (fun s=>decide (s.length≤4096))&&xd l
theorem qg2(l:List (List UInt8))(s:List UInt8):qeg (l++[s])=(qeg l&&qe0 l s):=by
 unfold qeg qe0
 rw[List.all_append,List.all_cons,List.all_nil,Bool.and_true]
 rcases List.eq_nil_or_concat l with rfl | ⟨t,a,rfl⟩
 ·
  simp[xd]
 ·
  rw[List.concat_eq_append,qv,xy,qns]
  have h1:decide ((t++[a]).length=0)=false:=ql (by simp)
  have h2:(t++[a]).getLastD []=a:=by simp
  rw[h1,h2,Bool.false_or]
  generalize (t++[a]).all _=p
  generalize xd (t++[a])=q
  generalize decide (s.length≤4096)=r
  generalize decide (yr a s<0)=v
  revert p q r v
  decide
theorem ql0:∀ {l t:List (List UInt8)},qeg (l++t)=true→qeg l=true
 | l,[],h=>by simpa using h
 | l,s :: t,h=>by
  have h2:=ql0 (l:=l++[s]) (t:=t) (by rw[qv];exact h)
  rw[qg2,jl] at h2
  exact h2.1
theorem dic_good{l:List (List UInt8)}:ql5 l=(decide (l.length≤4096)&&qeg l):=by unfold ql5 qeg;rw[Bool.and_assoc]
def qhi(bs:List UInt8)(k:Nat)(e:Int)(last:List UInt8):List UInt8×Nat×Int :=
 let r:=j8 bs k e last.length
 let t:=qgi bs r.2.1 r.2.2
 let s:=last.take r.1++t.1
 (s,t.2.1,if xg last s=r.1 then t.2.2 else y9 t.2.2)
def qqm(first:Bool)(bs:List UInt8)(k:Nat)(e:Int)(last:List UInt8):List UInt8×Nat×Int:=if first then qgi bs k e else qhi bs k e last
def qhb(bs:List UInt8)(E:Int)(l:List (List UInt8))(first:Bool)(last:List UInt8)(k:Nat)(e:Int):List UInt8×Nat×Int :=
 let r:=qqm first bs k e last
 (r.1,r.2.1,if qe0 l r.1=true∧E≤((bs.length-r.2.1:Nat):Int) then r.2.2 else y9 r.2.2)
def qgj(bs:List UInt8)(E:Int):Nat→Bool→List (List UInt8)→List UInt8→Nat→Int→List (List UInt8)×Nat×Int
 | 0,_,l,_,k,e=>(l,k,e)
 | m+1,f,l,last,k,e=>if (qhb bs E l f last k e).2.2=0 then qgj bs E m false (l++[(qhb bs E l f last k e).1]) (qhb bs E l f last k e).1 (qhb bs E l f last k e).2.1 0 else (l,(qhb bs E l f last k e).2.1,(qhb bs E l f last k e).2.2)
def qg9(bs:List UInt8)(l:List (List UInt8))(k:Nat)(e:Int)(n size:Nat):List (List UInt8)×Nat×Int :=
 let r:=qgj bs (((bs.length-k:Nat):Int)-size) n true l [] k e
 (r.1,r.2.1,if ((bs.length-r.2.1:Nat):Int)=((bs.length-k:Nat):Int)-size then r.2.2 else y9 r.2.2)
def qhh(bs:List UInt8)(count K:Nat):List Nat→Nat→List (List UInt8)→Nat→Int→List (List UInt8)×Nat×Int
 | [],_,l,k,e=>(l,k,e)
 | z :: ns,i,l,k,e=>qhh bs count K ns (i+1) (qg9 bs l k e (min K (count-i*K)) z).1 (qg9 bs l k e (min K (count-i*K)) z).2.1 (qg9 bs l k e (min K (count-i*K)) z).2.2
def jad(count K:Nat):Nat:=(count+K-1)/K
def qo5(bs:List UInt8)(count K:Nat)(k:Nat)(e:Int):List (List UInt8)×Nat×Int :=
 qhh bs count K (qa5 bs k e (jad count K:Int)).1 0 [] (qa5 bs k e (jad count K:Int)).2.1 (if (qa5 bs k e (jad count K:Int)).1.length=jad count K then (qa5 bs k e (jad count K:Int)).2.2 else y9 (qa5 bs k e (jad count K:Int)).2.2)
def openK(bs:List UInt8)(count K:Nat)(k:Nat)(e:Int):List (List UInt8)×Nat×Int :=
 if 1≤K∧K≤64 then (if (qo5 bs count K k e).2.2=0 then qo5 bs count K k e else ([],(qo5 bs count K k e).2)) else ([],k,y9 e)
def qcm(bs:List UInt8)(k:Nat)(e:Int):List (List UInt8)×Nat×Int :=
 openK bs (j8 bs k e 4096).1 (j8 bs (j8 bs k e 4096).2.1 (j8 bs k e 4096).2.2 64).1 (j8 bs (j8 bs k e 4096).2.1 (j8 bs k e 4096).2.2 64).2.1 (j8 bs (j8 bs k e 4096).2.1 (j8 bs k e 4096).2.2 64).2.2
theorem nextR_bad(bs:List UInt8)(k:Nat){e:Int}(last:List UInt8)(h:e≠0):(qhi bs k e last).2=(k,e):=by
 unfold qhi
 simp only[qil _ _ _ h,text_bad _ _ h,uz h,ite_self]
theorem entR_bad(f:Bool)(bs:List UInt8)(k:Nat){e:Int}(last:List UInt8)(h:e≠0):(qqm f bs k e last).2=(k,e):=by
 unfold qqm
 split
 ·
  rw[text_bad _ _ h]
 ·
  exact nextR_bad bs k last h
theorem stepF_bad(bs:List UInt8)(E:Int)(l:List (List UInt8))(f:Bool)(last:List UInt8)(k:Nat){e:Int}(h:e≠0):(qhb bs E l f last k e).2=(k,e):=by
 unfold qhb
 simp only[entR_bad f bs k last h,uz h,ite_self]
theorem takeF_bad(bs:List UInt8)(E:Int)(n:Nat)(f:Bool)(l:List (List UInt8))(last:List UInt8)(k:Nat){e:Int}(h:e≠0):qgj bs E n f l last k e=(l,k,e):=by
 cases n with
 | zero=>rfl
 | succ n =>
  rw[qgj]
  simp only[stepF_bad bs E l f last k h,if_neg h]
theorem takeT_bad(bs:List UInt8)(l:List (List UInt8))(k:Nat){e:Int}(n size:Nat)(h:e≠0):qg9 bs l k e n size=(l,k,e):=by
 unfold qg9
 simp only[takeF_bad bs _ n true l [] k h,uz h,ite_self]
theorem qms(bs:List UInt8)(count K:Nat):∀(ns:List Nat) (i:Nat) (l:List (List UInt8)) (k:Nat) {e:Int},e≠0→qhh bs count K ns i l k e=(l,k,e)
 | [],i,l,k,e,_=>rfl
 | z :: ns,i,l,k,e,h=>by
  rw[qhh]
  simp only[takeT_bad bs l k _ z h]
  exact qms bs count K ns (i+1) l k h
theorem share_take{last s:List UInt8}:last.take (xg last s)++s.drop (xg last s)=s:=by
 induction last generalizing s with
 | nil=>cases s <;> simp[xg]
 | cons x a ih =>
  cases s with
  | nil=>simp[xg]
  | cons y b =>
   unfold xg
   split
   ·
    rename_i h
    rw[jn,vt,z6,ih,h]
   ·
    simp
theorem nextR_good{bs s last:List UInt8}{k k2:Nat}(hk:k≤bs.length)(h:qhi bs k 0 last=(s,k2,0)) :
  bs.drop k=jo (xg last s)++(vi (s.drop (xg last s))++bs.drop k2)∧k2=k+((jo (xg last s)).length+(vi (s.drop (xg last s))).length)∧k2≤bs.length:=by
 unfold qhi at h
 obtain⟨R,hR⟩:∃R,j8 bs k 0 (last.length:Int)=R:=⟨_,rfl⟩
 simp only[hR] at h
 obtain⟨n,k1,e1⟩:=R
 simp only at h
 by_cases he1:e1=0
 ·
  subst he1
  obtain⟨g1,g2,g3,g4,g5⟩:=qfe hk hR
  obtain⟨T,hT⟩:∃T,qgi bs k1 0=T:=⟨_,rfl⟩
  simp only[hT] at h
  obtain⟨t,k3,e3⟩:=T
  simp only[Prod.mk.injEq] at h
  obtain⟨rfl,rfl,h3⟩:=h
  by_cases hs:xg last (last.take n++t)=n
  ·
   rw[if_pos hs] at h3
   subst h3
   obtain⟨t1,t2,t3,t4⟩:=text_good g5 hT
   have hd:(last.take n++t).drop n=t:=by rw[List.drop_append_of_le_length (by rw[qy];omega),List.drop_eq_nil_of_le (by rw[qy];omega),yk]
   rw[hs,hd]
   exact⟨by rw[g3,t2],by omega,t4⟩
  ·
   rw[if_neg hs] at h3
   exact absurd h3 (xr _)
 ·
  simp only[text_bad _ _ he1,uz he1,ite_self,Prod.mk.injEq] at h
  exact absurd h.2.2 he1
theorem nextR_back{bs s last rest:List UInt8}{k:Nat}(hk:k≤bs.length)(h:bs.drop k=jo (xg last s)++(vi (s.drop (xg last s))++rest))(hs:s.length≤4096)(hl:last.length≤4096) :
  qhi bs k 0 last=(s,k+((jo (xg last s)).length+(vi (s.drop (xg last s))).length),0):=by
 have hsh:=qlk last s
 have hM:=qbr (m:=(last.length:Int)) h (by omega) (by omega)
 have hlen:bs.length-k=(jo (xg last s)).length+((vi (s.drop (xg last s))).length+rest.length):=by rw[←qu,h,qd,qd]
 have hd:bs.drop (k+(jo (xg last s)).length)=vi (s.drop (xg last s))++rest:=by rw[←z7,h,yc]
 have hT:=text_back (by omega) hd (by rw[qu];omega)
 unfold qhi
 simp only[hM,hT,share_take,if_true,Prod.mk.injEq,and_true,true_and]
 omega
theorem stepF_split{bs s:List UInt8}{E:Int}{l:List (List UInt8)}{f:Bool}{last:List UInt8}{k k2:Nat}(h:qhb bs E l f last k 0=(s,k2,0)):qqm f bs k 0 last=(s,k2,0)∧qe0 l s=true∧E≤((bs.length-k2:Nat):Int):=by
 unfold qhb at h
 simp only[Prod.mk.injEq] at h
 obtain⟨h1,h2,h3⟩:=h
 rw[h1,h2] at h3
 by_cases hc:qe0 l s=true∧E≤((bs.length-k2:Nat):Int)
 ·
  rw[if_pos hc] at h3
  exact⟨Prod.ext h1 (Prod.ext h2 h3),hc⟩
 ·
  rw[if_neg hc] at h3
  exact absurd h3 (xr _)
theorem takeF_step{bs:List UInt8}{E:Int}{m k k2:Nat}{f:Bool}{l l2:List (List UInt8)}{last:List UInt8}(h:qgj bs E (m+1) f l last k 0=(l2,k2,0)) :
  ∃s k1,qqm f bs k 0 last=(s,k1,0)∧qe0 l s=true∧E≤((bs.length-k1:Nat):Int)∧qgj bs E m false (l++[s]) s k1 0=(l2,k2,0):=by
 rw[qgj] at h
 obtain⟨S,hS⟩:∃S,qhb bs E l f last k 0=S:=⟨_,rfl⟩
 rw[hS] at h
 obtain⟨s,k1,e1⟩:=S
 simp only at h
 by_cases he1:e1=0
 ·
  subst he1
  rw[if_pos rfl] at h
  obtain⟨h1,h2,h3⟩:=stepF_split hS
  exact⟨s,k1,h1,h2,h3,h⟩
 ·
  rw[if_neg he1] at h
  simp only[Prod.mk.injEq] at h
  exact absurd h.2.2 he1
theorem takeF_rest{bs:List UInt8}{E:Int}:∀ {m k k2:Nat} {l l2:List (List UInt8)} {last:List UInt8},k≤bs.length→qgj bs E m false l last k 0=(l2,k2,0)→
  ∃t,t.length=m∧l2=l++t∧(qeg l=true→qeg l2=true)∧bs.drop k=qd5 last t++bs.drop k2∧k2=k+(qd5 last t).length∧k2≤bs.length
 | 0,k,k2,l,l2,last,hk,h=>by
  simp only[qgj,Prod.mk.injEq,and_true] at h
  obtain⟨rfl,rfl⟩:=h
  exact⟨[],rfl,by simp,id,rfl,rfl,hk⟩
 | m+1,k,k2,l,l2,last,hk,h=>by
  obtain⟨s,k1,h1,h2,h3,h4⟩:=takeF_step h
  obtain⟨g1,g2,g3⟩:=nextR_good hk (show qhi bs k 0 last=(s,k1,0) from h1)
  obtain⟨t,t1,t2,t3,t4,t5,t6⟩:=takeF_rest g3 h4
  refine⟨s :: t,by simp[t1],by rw[t2];simp,fun hg=>t3 (by rw[qg2,hg,h2];rfl),?_,?_,t6⟩
  ·
   rw[g1,t4,qd5]
   simp
  ·
   rw[qd5]
   simp only[qd]
   omega
theorem takeT_good{bs:List UInt8}{k k2 n size:Nat}{l l2:List (List UInt8)}(hk:k≤bs.length)(h:qg9 bs l k 0 (n+1) size=(l2,k2,0)) :
  ∃t,t.length=n+1∧l2=l++t∧(qeg l=true→qeg l2=true)∧bs.drop k=jae t++bs.drop k2∧(jae t).length=size∧k2=k+size∧k2≤bs.length:=by
 unfold qg9 at h
 obtain⟨R,hR⟩:∃R,qgj bs (((bs.length-k:Nat):Int)-size) (n+1) true l [] k 0=R:=⟨_,rfl⟩
 simp only[hR] at h
 obtain⟨l3,k3,e3⟩:=R
 simp only[Prod.mk.injEq] at h
 obtain⟨rfl,rfl,h⟩:=h
 by_cases hc:((bs.length-k3:Nat):Int)=((bs.length-k:Nat):Int)-size
 ·
  rw[if_pos hc] at h
  subst h
  obtain⟨s,k1,h1,h2,h3,h4⟩:=takeF_step hR
  obtain⟨g1,g2,g3,g4⟩:=text_good hk (show qgi bs k 0=(s,k1,0) from h1)
  obtain⟨t,t1,t2,t3,t4,t5,t6⟩:=takeF_rest g4 h4
  have hb:(jae (s :: t)).length=size:=by
   rw[jae,qd]
   omega
  refine⟨s :: t,by simp[t1],by rw[t2];simp,fun hg=>t3 (by rw[qg2,hg,h2];rfl),?_,hb,?_,t6⟩
  ·
   rw[g2,t4,jae]
   simp
  ·
   rw[jae,qd] at hb
   omega
 ·
  rw[if_neg hc] at h
  exact absurd h (xr _)
theorem qqy{bs rest:List UInt8}{E:Int}(hE:E≤(rest.length:Int)):∀ {t:List (List UInt8)} {k:Nat} {l:List (List UInt8)} {last:List UInt8},k≤bs.length→last.length≤4096→qeg (l++t)=true→bs.drop k=qd5 last t++rest→
  qgj bs E t.length false l last k 0=(l++t,k+(qd5 last t).length,0)
 | [],k,l,last,hk,hl,hg,h=>by simp[qgj,qd5]
 | s :: t,k,l,last,hk,hl,hg,h=>by
  have hg1:qeg (l++[s]++t)=true:=by rw[qv];exact hg
  have hg2:=ql0 hg1
  rw[qg2,jl] at hg2
  have hs:s.length≤4096:=by have:=hg2.2;unfold qe0 at this;rw[jl,decide_eq_true_eq] at this;exact this.1
  have h':bs.drop k=jo (xg last s)++(vi (s.drop (xg last s))++(qd5 s t++rest)):=by rw[h,qd5];simp
  have hN:=nextR_back hk h' hs hl
  have hlen:bs.length-k=(jo (xg last s)).length+((vi (s.drop (xg last s))).length+((qd5 s t).length+rest.length)):=by rw[←qu,h'];simp
  obtain⟨k1,hk1⟩:∃k1,k+((jo (xg last s)).length+(vi (s.drop (xg last s))).length)=k1:=⟨_,rfl⟩
  rw[hk1] at hN
  have hd:bs.drop k1=qd5 s t++rest:=by rw[←hk1,←z7,h',←z7,yc,yc]
  have ih:=qqy hE (t:=t) (k:=k1) (l:=l++[s]) (last:=s) (by omega) hs hg1 hd
  have hS:qhb bs E l false last k 0=(s,k1,0):=by
   unfold qhb
   have:qqm false bs k 0 last=(s,k1,0):=hN
   simp only[this]
   rw[if_pos ⟨hg2.2,by omega⟩]
  rw[qt,qgj]
  simp only[hS,if_true]
  rw[ih,qd5]
  simp
  omega
theorem takeT_there{bs rest:List UInt8}{s:List UInt8}{t:List (List UInt8)}{k:Nat}{l:List (List UInt8)}(hk:k≤bs.length)(hg:qeg (l++s :: t)=true)(h:bs.drop k=jae (s :: t)++rest) :
  qg9 bs l k 0 (t.length+1) (jae (s :: t)).length=(l++s :: t,k+(jae (s :: t)).length,0):=by
 have hg1:qeg (l++[s]++t)=true:=by rw[qv];exact hg
 have hg2:=ql0 hg1
 rw[qg2,jl] at hg2
 have hs:s.length≤4096:=by have:=hg2.2;unfold qe0 at this;rw[jl,decide_eq_true_eq] at this;exact this.1
 have h':bs.drop k=vi s++(qd5 s t++rest):=by rw[h,jae];simp
 have hlen:bs.length-k=(jae (s :: t)).length+rest.length:=by rw[←qu,h];simp
 have hbl:(jae (s :: t)).length=(vi s).length+(qd5 s t).length:=by rw[jae,qd]
 have hT:=text_back hk h' hs
 obtain⟨k1,hk1⟩:∃k1,k+(vi s).length=k1:=⟨_,rfl⟩
 rw[hk1] at hT
 have hd:bs.drop k1=qd5 s t++rest:=by rw[←hk1,←z7,h',yc]
 obtain⟨E,hE⟩:∃E,((bs.length-k:Nat):Int)-((jae (s :: t)).length:Int)=E:=⟨_,rfl⟩
 have hF:=qqy (E:=E) (rest:=rest) (by omega) (t:=t) (k:=k1) (l:=l++[s]) (last:=s) (by omega) hs hg1 hd
 have hS:qhb bs E l true [] k 0=(s,k1,0):=by
  unfold qhb
  have:qqm true bs k 0 []=(s,k1,0):=hT
  simp only[this]
  rw[if_pos ⟨hg2.2,by omega⟩]
 have hA:qgj bs E (t.length+1) true l [] k 0=(l++s :: t,k+(jae (s :: t)).length,0):=by
  rw[qgj]
  simp only[hS,if_true]
  rw[hF]
  simp
  omega
 unfold qg9
 rw[hE]
 simp only[hA]
 rw[if_pos (by omega)]
theorem qru{K:Nat}(hK:1≤K):jad 0 K=0:=by
 unfold jad
 rw[xa]
 exact Nat.div_eq_of_lt (by omega)
theorem qj6{count K q:Nat}(hK:1≤K)(h:q<jad count K):q*K<count:=by
 unfold jad at h
 have h1:(q+1)*K≤count+K-1:=(Nat.le_div_iff_mul_le (by omega)).1 h
 rw[qel,qca] at h1
 omega
theorem qm7{count K:Nat}(hK:1≤K):count≤jad count K*K:=by
 unfold jad
 have h1:=Nat.div_add_mod (count+K-1) K
 have h2:=qak (count+K-1) (show 0<K by omega)
 rw[xo] at h1
 omega
theorem qqs{count K:Nat}(hK:1≤K):jad count K≤count:=by
 rcases jr count with rfl | h0
 ·
  rw[qru hK];omega
 ·
  unfold jad
  rw[Nat.div_le_iff_le_mul_add_pred (by omega)]
  have:count≤K*count:=Nat.le_mul_of_pos_left _ (by omega)
  omega
theorem openB_good{bs:List UInt8}{count K:Nat}(hK:1≤K):∀ {ns:List Nat} {i k k2:Nat} {l l2:List (List UInt8)},k≤bs.length→l.length=i*K→(∀q,q<i+ns.length→q*K<count)→qhh bs count K ns i l k 0=(l2,k2,0)→
  (qeg l=true→qeg l2=true)∧(ns=[]→l2=l)∧(ns≠[]→l2.length=min count ((i+ns.length)*K))∧yi K l2 l2.length=yi K l l.length++ns∧qaj K l2 l2.length++bs.drop k2=qaj K l l.length++bs.drop k∧k≤k2∧k2≤bs.length
 | [],i,k,k2,l,l2,hk,hl,hq,h=>by
  simp only[qhh,Prod.mk.injEq,and_true] at h
  obtain⟨rfl,rfl⟩:=h
  exact⟨id,fun _=>rfl,fun h=>absurd rfl h,by simp,rfl,qc _,hk⟩
 | z :: ns,i,k,k2,l,l2,hk,hl,hq,h=>by
  have hi:=hq i (by simp)
  rw[qhh] at h
  obtain⟨n,hn⟩:∃n,min K (count-i*K)=n+1:=⟨min K (count-i*K)-1,by omega⟩
  rw[hn] at h
  obtain⟨R,hR⟩:∃R,qg9 bs l k 0 (n+1) z=R:=⟨_,rfl⟩
  rw[hR] at h
  obtain⟨l1,k1,e1⟩:=R
  simp only at h
  by_cases he:e1=0
  ·
   subst he
   obtain⟨t,t1,t2,t3,t4,t5,t6,t7⟩:=takeT_good hk hR
   have hl1:l1.length=i*K+(n+1):=by rw[t2,qd,hl,t1]
   have hnK:n<K:=by omega
   have hd:(l1.drop (i*K)).take (n+1)=t:=by
    rw[t2,←hl,yc,qo (by omega)]
   have hS:yi K l1 l1.length=yi K l l.length++[z]:=by
    rw[hl1,qp5 hnK (by omega),hd,t5,hl,t2,sizes_app (by omega)]
   have hE:qaj K l1 l1.length++bs.drop k1=qaj K l l.length++bs.drop k:=by
    rw[hl1,qpm (by omega) (by omega),hd,hl,t2,ents_app (by omega),t4,qv]
   cases ns with
   | nil =>
    simp only[qhh,Prod.mk.injEq,and_true] at h
    obtain⟨rfl,rfl⟩:=h
    refine⟨t3,fun h=>(by cases h),fun _ => ?_,hS,hE,by omega,t7⟩
    rw[hl1,jd,qel,qca]
    omega
   | cons y ns =>
    have hi2:=hq (i+1) (by simp)
    rw[qel,qca] at hi2
    have hl2:l1.length=(i+1)*K:=by rw[hl1,qel,qca];omega
    obtain⟨i1,i2,i3,i4,i5,i6,i7⟩:=openB_good hK (ns:=y :: ns) t7 hl2 (fun q hq2=>hq q (by simp only[qt] at hq2 ⊢;omega)) h
    refine⟨fun hg=>i1 (t3 hg),fun h=>(by cases h),fun _ => ?_,?_,by rw[i5,hE],by omega,i7⟩
    ·
     rw[i3 (by simp)]
     have e:i+1+(y :: ns).length=i+(z :: y :: ns).length:=by simp;omega
     rw[e]
    ·
     rw[i4,hS]
     simp
  ·
   rw[qms _ _ _ _ _ _ _ he] at h
   simp only[Prod.mk.injEq] at h
   exact absurd h.2.2 he
def qkv(K:Nat)(L:List (List UInt8))(i m:Nat):List (List (List UInt8)):=(List.range' i m).map fun q=>(L.drop (q*K)).take K
theorem qqt(K:Nat)(L:List (List UInt8))(i m:Nat):qkv K L i (m+1)=(L.drop (i*K)).take K :: qkv K L (i+1) m:=rfl
theorem blks_concat(K:Nat)(L:List (List UInt8))(m:Nat):qkv K L 0 (m+1)=qkv K L 0 m++[(L.drop (m*K)).take K]:=by
 unfold qkv
 rw[List.range'_concat]
 simp
theorem blks_all{K:Nat}(hK:1≤K){L:List (List UInt8)}:∀ {m:Nat},(∀q,q<m→q*K<L.length)→yi K L (min (m*K) L.length)=(qkv K L 0 m).map (fun b=>(jae b).length)∧qaj K L (min (m*K) L.length)=((qkv K L 0 m).map jae).flatten
 | 0,_=>by simp[qkv,yi,ents_zero]
 | m+1,h=>by
  have hm:=h m (by omega)
  obtain⟨h1,h2⟩:=blks_all hK (m:=m) fun q hq=>h q (by omega)
  rw[yx (by omega)] at h1 h2
  obtain⟨j,hj⟩:∃j,min K (L.length-m*K)=j+1:=⟨min K (L.length-m*K)-1,by omega⟩
  have e:min ((m+1)*K) L.length=m*K+(j+1):=by rw[qel,qca];omega
  have ht:(L.drop (m*K)).take (j+1)=(L.drop (m*K)).take K:=by
   rw[←hj,List.take_eq_take_iff]
   simp
  rw[e,qp5 (by omega) (by omega),qpm (by omega) (by omega),h1,h2,ht,blks_concat]
  simp
theorem qrb{bs rest:List UInt8}{K:Nat}(hK:1≤K){L:List (List UInt8)}(hg:qeg L=true):∀ {m i k:Nat},k≤bs.length→(∀q,q<i+m→q*K<L.length)→L.length≤(i+m)*K→bs.drop k=((qkv K L i m).map jae).flatten++rest→
  qhh bs L.length K ((qkv K L i m).map fun b=>(jae b).length) i (L.take (i*K)) k 0=(L,k+((qkv K L i m).map jae).flatten.length,0)
 | 0,i,k,hk,hq,hL,h=>by
  rw[xx] at hL
  simp[qkv,qhh,qo hL]
 | m+1,i,k,hk,hq,hL,h=>by
  have hi:=hq i (by omega)
  obtain⟨b,hb⟩:∃b,(L.drop (i*K)).take K=b:=⟨_,rfl⟩
  have hbl:b.length=min K (L.length-i*K):=by rw[←hb,qy,qu]
  have htk:L.take (i*K)++b=L.take ((i+1)*K):=by rw[←hb,qel,qca,List.take_add]
  have hgb:qeg (L.take (i*K)++b)=true:=by
   rw[htk]
   exact ql0 (t:=L.drop ((i+1)*K)) (by rw[zx];exact hg)
  rw[qqt,hb,ym,qaa,qv] at h
  rw[qqt,hb,ym,ym,qaa,qhh,←hbl]
  cases b with
  | nil=>simp at hbl;omega
  | cons s t =>
   have hT:=takeT_there (l:=L.take (i*K)) hk hgb h
   rw[qt]
   simp only[hT]
   rw[htk]
   have hlen:bs.length-k=(jae (s :: t)).length+(((qkv K L (i+1) m).map jae).flatten++rest).length:=by rw[←qu,h,qd]
   rw[qrb hK hg (m:=m) (i:=i+1) (by omega) (fun q h2=>hq q (by omega)) (by rw[show i+1+m=i+(m+1) by omega];exact hL) (by rw[←z7,h,yc])]
   rw[qd,qa9]
theorem qmk{K:Nat}{l:List (List UInt8)}(h:ql5 l=true):qpw (zu (yi K l l.length))∧(yi K l l.length).length≤4096:=by
 obtain⟨h1,h2,h3⟩:=qdi.1 h
 refine⟨fun z hz => ?_,by have:=qml K l l.length;omega⟩
 obtain⟨x,hx,rfl⟩:=zn.1 hz
 have h4:=sizes_le K l l.length x hx
 have h5:=ql4 K h2 l.length
 omega
theorem qor{K:Nat}{l:List (List UInt8)}(hK:1≤K):yi K l l.length=(qkv K l 0 (jad l.length K)).map (fun b=>(jae b).length)∧qaj K l l.length=((qkv K l 0 (jad l.length K)).map jae).flatten:=by
 have h:=blks_all hK (L:=l) (m:=jad l.length K) fun q hq=>qj6 hK hq
 rw[Nat.min_eq_right (qm7 hK)] at h
 exact h
theorem openR_good{bs:List UInt8}{k k2:Nat}{l:List (List UInt8)}(hk:k≤bs.length)(h:qcm bs k 0=(l,k2,0)) :
  ∃K,1≤K∧K≤64∧ql5 l=true∧bs.drop k=kn K l++bs.drop k2∧k2=k+(kn K l).length∧k2≤bs.length:=by
 unfold qcm at h
 obtain⟨C,hC⟩:∃C,j8 bs k 0 4096=C:=⟨_,rfl⟩
 rw[hC] at h
 obtain⟨count,k1,e1⟩:=C
 simp only at h
 obtain⟨D,hD⟩:∃D,j8 bs k1 e1 64=D:=⟨_,rfl⟩
 rw[hD] at h
 obtain⟨K,k3,e3⟩:=D
 simp only at h
 unfold openK at h
 by_cases hKK:1≤K∧K≤64
 ·
  rw[if_pos hKK] at h
  by_cases h0:(qo5 bs count K k3 e3).2.2=0
  ·
   rw[if_pos h0] at h
   unfold qo5 at h
   obtain⟨R,hR⟩:∃R,qa5 bs k3 e3 (jad count K:Int)=R:=⟨_,rfl⟩
   rw[hR] at h
   obtain⟨ns,k4,e4⟩:=R
   simp only at h
   by_cases hn:ns.length=jad count K
   ·
    rw[if_pos hn] at h
    by_cases he4:e4=0
    ·
     subst he4
     have he3:e3=0:=Decidable.byContradiction fun hne=>by
      rw[qlt _ _ _ hne] at hR
      simp only[Prod.mk.injEq] at hR
      exact hne hR.2.2
     subst he3
     have he1:e1=0:=Decidable.byContradiction fun hne=>by
      rw[qil _ _ _ hne] at hD
      simp only[Prod.mk.injEq] at hD
      exact hne hD.2.2
     subst he1
     obtain⟨a1,a2,a3,a4,a5⟩:=qfe hk hC
     obtain⟨b1,b2,b3,b4,b5⟩:=qfe a5 hD
     have hbl:=qqs (count:=count) (K:=K) hKK.1
     obtain⟨c1,c2,c3,c4,c5⟩:=qjp b5 (by omega) hR
     obtain⟨o1,o2,o3,o4,o5,o6,o7⟩:=openB_good hKK.1 c5 (by simp) (fun q hq=>qj6 hKK.1 (by rw[←hn];omega)) h
     have hcl:l.length=count:=by
      rcases jr count with hz | hz
      ·
       subst hz
       rw[qru hKK.1] at hn
       rw[o2 (zd hn)]
       rfl
      ·
       have hg:=qm7 (count:=count) hKK.1
       have hne:ns≠[]:=fun e=>by
        rw[e] at hn
        rw[←hn] at hg
        simp at hg
        omega
       rw[o3 hne,xa,hn]
       omega
     have hd:ql5 l=true:=by
      rw[dic_good,o1 rfl,qp (by omega)]
      rfl
     have hs:yi K l l.length=ns:=by rw[o4];rfl
     have hE:bs.drop k4=qaj K l l.length++bs.drop k2:=by rw[o5];rfl
     have hF:bs.drop k=kn K l++bs.drop k2:=by
      rw[a3,b3,c3,hE,kn,hs,hcl]
      simp
     refine⟨K,hKK.1,hKK.2,hd,hF,?_,o7⟩
     have:=congrArg List.length hF
     rw[qd,qu,qu] at this
     omega
    ·
     rw[qms _ _ _ _ _ _ _ he4] at h
     simp only[Prod.mk.injEq] at h
     exact absurd h.2.2 he4
   ·
    rw[if_neg hn,qms _ _ _ _ _ _ _ (xr _)] at h
    simp only[Prod.mk.injEq] at h
    exact absurd h.2.2 (xr _)
  ·
   rw[if_neg h0] at h
   simp only[Prod.mk.injEq] at h
   have:=h.2
   rw[this] at h0
   exact absurd rfl h0
 ·
  rw[if_neg hKK] at h
  simp only[Prod.mk.injEq] at h
  exact absurd h.2.2 (xr _)
theorem openR_there{bs rest:List UInt8}{k K:Nat}{l:List (List UInt8)}(hk:k≤bs.length)(hK:1≤K)(hK2:K≤64)(hd:ql5 l=true)(h:bs.drop k=kn K l++rest) :
  qcm bs k 0=(l,k+(kn K l).length,0):=by
 have hg:qeg l=true:=by rw[dic_good,jl] at hd;exact hd.2
 have hl:l.length≤4096:=(qdi.1 hd).1
 obtain⟨hm,hm2⟩:=qmk (K:=K) hd
 obtain⟨hsb,heb⟩:=qor (K:=K) (l:=l) hK
 have hlen:=congrArg List.length h
 rw[qu,qd] at hlen
 have hfl:(kn K l).length=(jo l.length).length+((jo K).length+((jq (zu (yi K l l.length))).length+(qaj K l l.length).length)):=by simp[kn]
 have h1:bs.drop k=jo l.length++(jo K++(jq (zu (yi K l l.length))++(qaj K l l.length++rest))):=by rw[h,kn];simp
 have hC:=qbr (m:=4096) h1 (by omega) (by omega)
 obtain⟨k1,hk1⟩:∃k1,k+(jo l.length).length=k1:=⟨_,rfl⟩
 rw[hk1] at hC
 have h2:bs.drop k1=jo K++(jq (zu (yi K l l.length))++(qaj K l l.length++rest)):=by rw[←hk1,←z7,h1,yc]
 have hD:=qbr (m:=64) h2 (by omega) (by omega)
 obtain⟨k2,hk2⟩:∃k2,k1+(jo K).length=k2:=⟨_,rfl⟩
 rw[hk2] at hD
 have h3:bs.drop k2=jq (zu (yi K l l.length))++(qaj K l l.length++rest):=by rw[←hk2,←z7,h2,yc]
 have hnl:(yi K l l.length).length=jad l.length K:=by rw[hsb];simp[qkv]
 have hR:=qih (zu (yi K l l.length)) hm (jad l.length K) (by omega) h3 (by rw[zj,hnl];exact qc _) (by have:=qqs (count:=l.length) hK;omega)
 rw[qqd] at hR
 obtain⟨k3,hk3⟩:∃k3,k2+(jq (zu (yi K l l.length))).length=k3:=⟨_,rfl⟩
 rw[hk3] at hR
 have h4:bs.drop k3=qaj K l l.length++rest:=by rw[←hk3,←z7,h3,yc]
 rw[heb] at h4
 have hB:=qrb hK hg (m:=jad l.length K) (i:=0) (k:=k3) (by omega) (fun q hq=>qj6 hK (by omega)) (by rw[xa];exact qm7 hK) h4
 rw[←hsb,←heb,Nat.zero_mul,y8] at hB
 have hM:qo5 bs l.length K k2 0=(l,k3+(qaj K l l.length).length,0):=by
  unfold qo5
  rw[hR]
  simp only[hnl,if_true]
  exact hB
 unfold qcm openK
 simp only[hC,hD,hM,if_true]
 rw[if_pos ⟨hK,hK2⟩]
 simp only[Prod.mk.injEq,and_true,true_and]
 omega
def qkc:List (List UInt8)→Nat
 | []=>0
 | s :: t=>s.length+qkc t
theorem sumL_take:∀(l:List (List UInt8)) (k:Nat) (hk:k<l.length),qkc (l.take (k+1))=qkc (l.take k)+l[k].length
 | s :: t,0,_=>by simp[qkc]
 | s :: t,k+1,hk=>by
  have:=sumL_take t k (by simpa using hk)
  simp only[jn,qkc,List.getElem_cons_succ,this]
  omega
theorem ents_sum{K:Nat}{l:List (List UInt8)}(h:∀s∈l,s.length≤4096):∀ {k:Nat},k≤l.length→(qaj K l k).length≤qkc (l.take k)+4*k
 | 0,_=>by simp[ents_zero]
 | k+1,hk=>by
  have ih:=ents_sum (K:=K) h (k:=k) (by omega)
  have hp:∀n,n≤4096→(jo n).length≤2:=fun n hn=>qi0 1 n (by omega)
  have hs:l[k].length≤4096:=h _ (qj _)
  have he:(qhm K l k).length≤l[k].length+4:=by
   unfold qhm entL
   rw[getD_at (by omega)]
   have h2:=qlk (l.getD (k-1) []) l[k]
   split
   ·
    rw[vi,qd]
    have:=hp _ hs
    omega
   ·
    rw[vi,qd,qd]
    have h3:=hp (xg (l.getD (k-1) []) l[k]) (by omega)
    have h4:=hp (List.drop (xg (l.getD (k-1) []) l[k]) l[k]).length (by rw[qu];omega)
    have h5:=qu (i:=xg (l.getD (k-1) []) l[k]) (l:=l[k])
    omega
  rw[qea,qd,sumL_take l k (by omega)]
  omega
theorem qmz{K:Nat}{l:List (List UInt8)}(hK:K≤64)(hd:ql5 l=true):(kn K l).length≤qkc l+10*l.length+10:=by
 obtain⟨h1,h2,h3⟩:=qdi.1 hd
 obtain⟨hm,hm2⟩:=qmk (K:=K) hd
 have hp:∀n,n≤4096→(jo n).length≤2:=fun n hn=>qi0 1 n (by omega)
 have a1:=hp _ h1
 have a2:=hp K (by omega)
 have a3:=ents_sum (K:=K) h2 (qc l.length)
 rw[qo (qc _)] at a3
 have a4:=qml K l l.length
 have a5:=hm.wide_le
 have a6:(jq (zu (yi K l l.length))).length≤2+1+4*l.length:=by
  rw[jq,qd,qd,qcu,ud,zj]
  have b1:=hp _ hm2
  have b2:(yi K l l.length).length*wide (zu (yi K l l.length))≤l.length*32:=vz a4 a5
  simp only[jd]
  omega
 simp only[kn,qd]
 omega
theorem qhy(s:ByteArray):s.data.toList.length=s.size:=by rw[zy];rfl
def qb9(l t:List (List UInt8)):Prop:=xd t=true∧∀x,x∈t↔x∈l
theorem qb9.one{l t u:List (List UInt8)}(h:qb9 l t)(k:qb9 l u):t=u :=
 (qg0 h.1 k.1 fun x hx=>(k.2 x).2 ((h.2 x).1 hx)).eq_of_length_le (qg0 k.1 h.1 fun x hx=>(h.2 x).2 ((k.2 x).1 hx)).length_le
def qdv(T:List (List UInt8))(l:List UInt8):Int×Nat:=qfp T 0 (-1) 0 l
theorem qn3(l:List UInt8):∀(T:List (List UInt8)) (i:Nat) (c:Int) (n:Nat),qfp T i c n l=(c,n)∨∃j s,T[j]? = some s∧qfp T i c n l=(((i+j:Nat):Int),s.length)∧n<s.length∧s.isPrefixOf l=true
 | [],i,c,n=>Or.inl rfl
 | t :: ts,i,c,n=>by
  unfold qfp
  by_cases h:n<t.length∧t.isPrefixOf l=true
  ·
   rw[if_pos h]
   rcases qn3 l ts (i+1) (i:Int) t.length with h1 | ⟨j,s,h1,h2,h3,h4⟩
   ·
    exact Or.inr ⟨0,t,rfl,h1,h.1,h.2⟩
   ·
    exact Or.inr ⟨j+1,s,by simpa using h1,by rw[h2,show i+1+j=i+(j+1) by omega],by omega,h4⟩
  ·
   rw[if_neg h]
   rcases qn3 l ts (i+1) c n with h1 | ⟨j,s,h1,h2,h3,h4⟩
   ·
    exact Or.inl h1
   ·
    exact Or.inr ⟨j+1,s,by simpa using h1,by rw[h2,show i+1+j=i+(j+1) by omega],h3,h4⟩
theorem qd0(T:List (List UInt8))(l:List UInt8):qdv T l=(-1,0)∨∃(j:Nat) (s:List UInt8),T[j]? = some s∧qdv T l=((j:Int),s.length)∧0<s.length∧List.IsPrefix s l:=by
 rcases qn3 l T 0 (-1) 0 with h | ⟨j,s,h1,h2,h3,h4⟩
 ·
  exact Or.inl h
 ·
  exact Or.inr ⟨j,s,h1,by rw[qdv,h2,xa],h3,qbz.1 h4⟩
theorem longP_nil(T:List (List UInt8)):qdv T []=(-1,0):=by
 rcases qd0 T [] with h | ⟨j,s,_,_,h3,h4⟩
 ·
  exact h
 ·
  have:=h4.length_le
  rw[je] at this
  omega
theorem qn4(l:List UInt8):∀(T:List (List UInt8)) (i:Nat) (c:Int) (n:Nat),n≤(qfp T i c n l).2∧∀u∈T,u.isPrefixOf l=true→u.length≤(qfp T i c n l).2
 | [],i,c,n=>⟨qc _,fun u hu=>by cases hu⟩
 | t :: ts,i,c,n=>by
  unfold qfp
  by_cases h:n<t.length∧t.isPrefixOf l=true
  ·
   rw[if_pos h]
   have ih:=qn4 l ts (i+1) (i:Int) t.length
   refine⟨by omega,fun u hu hp => ?_⟩
   rcases jc.1 hu with rfl | hu
   ·
    exact ih.1
   ·
    exact ih.2 u hu hp
  ·
   rw[if_neg h]
   have ih:=qn4 l ts (i+1) c n
   refine⟨ih.1,fun u hu hp => ?_⟩
   rcases jc.1 hu with rfl | hu
   ·
    have:¬n<u.length:=fun h2=>h ⟨h2,hp⟩
    omega
   ·
    exact ih.2 u hu hp
theorem longP_is{T:List (List UInt8)}{l s:List UInt8}{i:Nat}(hr:xd T=true)(hi:i<T.length)(he:T[i]=s)(hp:List.IsPrefix s l)(h0:0<s.length)(hm:∀u∈T,List.IsPrefix u l→u.length≤s.length):qdv T l=((i:Int),s.length):=by
 have hmost:=(qn4 l T 0 (-1) 0).2 s (he ▸ qj hi) (qbz.2 hp)
 rcases qd0 T l with h | ⟨j,s2,h1,h2,h3,h4⟩
 ·
  rw[show qfp T 0 (-1) 0 l=qdv T l from rfl,h] at hmost
  exact absurd hmost (by show ¬s.length≤0;omega)
 ·
  rw[show qfp T 0 (-1) 0 l=qdv T l from rfl,h2] at hmost
  obtain⟨hj,hje⟩:=zw.1 h1
  have hle:=hm s2 (hje ▸ qj hj) h4
  have hlen:s.length=s2.length:=by show _=_;simp only at hmost;omega
  have hes:s=s2:=by
   obtain⟨r1,e1⟩:=hp
   obtain⟨r2,e2⟩:=h4
   exact(List.append_inj (e1.trans e2.symm) hlen).1
  have:i=j:=rises_inj hr hi hj (by rw[he,hje,hes])
  rw[h2,this,hlen]
theorem longP_none{T:List (List UInt8)}{l:List UInt8}(h:∀u∈T,List.IsPrefix u l→u.length=0):qdv T l=(-1,0):=by
 rcases qd0 T l with h1 | ⟨j,s,h1,h2,h3,h4⟩
 ·
  exact h1
 ·
  obtain⟨hj,hje⟩:=zw.1 h1
  have:=h s (hje ▸ qj hj) h4
  omega
theorem cmpL_prefix{p q:List UInt8}(h:q≠[]):yr p (p++q)<0:=by
 have:=qof p [] q
 rw[jj] at this
 rw[this]
 cases q with
 | nil=>exact absurd rfl h
 | cons=>simp[yr]
theorem cmpL_takes{l:List UInt8}{m n:Nat}(h:m<n)(hn:n≤l.length):yr (l.take m) (l.take n)<0:=by
 have e:l.take n=l.take m++(l.drop m).take (n-m):=by
  rw[←List.take_add,show m+(n-m)=n by omega]
 rw[e]
 refine cmpL_prefix fun h2 => ?_
 have:=congrArg List.length h2
 rw[qy,qu,je] at this
 omega
end Go.Proofs.YtnjkipnklpkaoaaGreat
