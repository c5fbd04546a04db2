/-
  Lemmas.
-/
import Derived.Test.YtjfecojdagmacaaGreatE06
import Derived.OneCell
namespace Go.Proofs.YtjfecojdagmacaaGreat
open Go.RowKit
set_option maxRecDepth 20000
set_option maxHeartbeats 16000000
set_option linter.unusedSimpArgs false
set_option linter.unusedVariables false
theorem qgp(s:ByteArray):s.data.toList.length=s.size:=by rw[jo];rfl
def qdl(l t:List (List UInt8)):Prop:=yh t=true∧∀x,x∈t↔x∈l
theorem qdl.one{l t u:List (List UInt8)}(h:qdl l t)(k:qdl l u):t=u :=
 (qep h.1 k.1 fun x hx=>(k.2 x).2 ((h.2 x).1 hx)).eq_of_length_le (qep k.1 h.1 fun x hx=>(h.2 x).2 ((k.2 x).1 hx)).length_le
def qb4(T:List (List UInt8))(l:List UInt8):Int×Nat:=qik T 0 (-1) 0 l
theorem qj4(l:List UInt8):∀(T:List (List UInt8)) (i:Nat) (c:Int) (n:Nat),qik T i c n l=(c,n)∨∃j s,T[j]? = some s∧qik T i c n l=(((i+j:Nat):Int),s.length)∧n<s.length∧s.isPrefixOf l=true
 | [],i,c,n=>Or.inl rfl
 | t :: ts,i,c,n=>by
  unfold qik
  by_cases h:n<t.length∧t.isPrefixOf l=true
  ·
   rw[if_pos h]
   rcases qj4 l ts (i+1) (i:Int) t.length with h1 | ⟨j,s,h1,h2,h3,h4⟩
   ·
    exact Or.inr ⟨0,t,rfl,h1,h.1,h.2⟩
   ·
    exact Or.inr ⟨j+1,s,by simpa using h1,by rw[h2,show i+1+j=i+(j+1) by omega],by omega,h4⟩
  ·
   rw[if_neg h]
   rcases qj4 l ts (i+1) c n with h1 | ⟨j,s,h1,h2,h3,h4⟩
   ·
    exact Or.inl h1
   ·
    exact Or.inr ⟨j+1,s,by simpa using h1,by rw[h2,show i+1+j=i+(j+1) by omega],h3,h4⟩
theorem qcw(T:List (List UInt8))(l:List UInt8):qb4 T l=(-1,0)∨∃(j:Nat) (s:List UInt8),T[j]? = some s∧qb4 T l=((j:Int),s.length)∧0<s.length∧List.IsPrefix s l:=by
 rcases qj4 l T 0 (-1) 0 with h | ⟨j,s,h1,h2,h3,h4⟩
 ·
  exact Or.inl h
 ·
  exact Or.inr ⟨j,s,h1,by rw[qb4,h2,yk],h3,List.isPrefixOf_iff_prefix.1 h4⟩
theorem longP_nil(T:List (List UInt8)):qb4 T []=(-1,0):=by
 rcases qcw T [] with h | ⟨j,s,_,_,h3,h4⟩
 ·
  exact h
 ·
  have:=h4.length_le
  rw[jy] at this
  omega
theorem qj5(l:List UInt8):∀(T:List (List UInt8)) (i:Nat) (c:Int) (n:Nat),n≤(qik T i c n l).2∧∀u∈T,u.isPrefixOf l=true→u.length≤(qik T i c n l).2
 | [],i,c,n=>⟨qc _,fun u hu=>by cases hu⟩
 | t :: ts,i,c,n=>by
  unfold qik
  by_cases h:n<t.length∧t.isPrefixOf l=true
  ·
   rw[if_pos h]
   have ih:=qj5 l ts (i+1) (i:Int) t.length
   refine⟨by omega,fun u hu hp => ?_⟩
   rcases zv.1 hu with rfl | hu
   ·
    exact ih.1
   ·
    exact ih.2 u hu hp
  ·
   rw[if_neg h]
   have ih:=qj5 l ts (i+1) c n
   refine⟨ih.1,fun u hu hp => ?_⟩
   rcases zv.1 hu with rfl | hu
   ·
    have:¬n<u.length:=fun h2=>h ⟨h2,hp⟩
    omega
   ·
    exact ih.2 u hu hp
theorem longP_is{T:List (List UInt8)}{l s:List UInt8}{i:Nat}(hr:yh T=true)(hi:i<T.length)(he:T[i]=s)(hp:List.IsPrefix s l)(h0:0<s.length)(hm:∀u∈T,List.IsPrefix u l→u.length≤s.length):qb4 T l=((i:Int),s.length):=by
 have hmost:=(qj5 l T 0 (-1) 0).2 s (he ▸ ql hi) (List.isPrefixOf_iff_prefix.2 hp)
 rcases qcw T l with h | ⟨j,s2,h1,h2,h3,h4⟩
 ·
  rw[show qik T 0 (-1) 0 l=qb4 T l from rfl,h] at hmost
  exact absurd hmost (by show ¬s.length≤0;omega)
 ·
  rw[show qik T 0 (-1) 0 l=qb4 T l from rfl,h2] at hmost
  obtain⟨hj,hje⟩:=zt.1 h1
  have hle:=hm s2 (hje ▸ ql hj) h4
  have hlen:s.length=s2.length:=by show _=_;simp only at hmost;omega
  have hes:s=s2:=by
   obtain⟨r1,e1⟩:=hp
   obtain⟨r2,e2⟩:=h4
   exact(List.append_inj (e1.trans e2.symm) hlen).1
  have:i=j:=rises_inj hr hi hj (by rw[he,hje,hes])
  rw[h2,this,hlen]
theorem longP_none{T:List (List UInt8)}{l:List UInt8}(h:∀u∈T,List.IsPrefix u l→u.length=0):qb4 T l=(-1,0):=by
 rcases qcw T l with h1 | ⟨j,s,h1,h2,h3,h4⟩
 ·
  exact h1
 ·
  obtain⟨hj,hje⟩:=zt.1 h1
  have:=h s (hje ▸ ql hj) h4
  omega
theorem cmpL_prefix{p q:List UInt8}(h:q≠[]):xd p (p++q)<0:=by
 have:=cmpL_ahead p [] q
 rw[jd] at this
 rw[this]
 cases q with
 | nil=>exact absurd rfl h
 | cons=>simp[xd]
theorem cmpL_takes{l:List UInt8}{m n:Nat}(h:m<n)(hn:n≤l.length):xd (l.take m) (l.take n)<0:=by
 have e:l.take n=l.take m++(l.drop m).take (n-m):=by
  rw[←List.take_add,show m+(n-m)=n by omega]
 rw[e]
 refine cmpL_prefix fun h2 => ?_
 have:=congrArg List.length h2
 rw[qy,qv,jy] at this
 omega
def encF(T:List (List UInt8)):Nat→List UInt8→List UInt8
 | 0,_=>[]
 | _+1,[]=>[]
 | f+1,x :: l=>if 0≤(qb4 T (x :: l)).1 then UInt8.ofNat (qb4 T (x :: l)).1.toNat :: encF T f ((x :: l).drop (qb4 T (x :: l)).2) else 255 :: x :: encF T f l
theorem enc_fuel(T:List (List UInt8)):∀(f g:Nat) (l:List UInt8),l.length≤f→l.length≤g→encF T f l=encF T g l
 | 0,0,_,_,_=>rfl
 | 0,g+1,[],_,_=>rfl
 | f+1,0,[],_,_=>rfl
 | f+1,g+1,[],_,_=>rfl
 | f+1,g+1,x :: l,hf,hg=>by
  rw[qo] at hf hg
  unfold encF
  rcases qcw T (x :: l) with h | ⟨j,s,_,h2,h3,_⟩
  ·
   rw[h,if_neg (by decide),if_neg (by decide),enc_fuel T f g l (by omega) (by omega)]
  ·
   rw[h2,if_pos (by simp),if_pos (by simp),enc_fuel T f g _ (by simp;omega) (by simp;omega)]
def kx(T:List (List UInt8))(l:List UInt8):List UInt8:=encF T l.length l
theorem enc_nil(T:List (List UInt8)):kx T []=[]:=rfl
theorem enc_code{T:List (List UInt8)}{l:List UInt8}{j n:Nat}(h:qb4 T l=((j:Int),n))(hn:0<n):kx T l=UInt8.ofNat j :: kx T (l.drop n):=by
 rcases l with _ | ⟨x,l⟩
 ·
  rw[longP_nil] at h
  have:=congrArg Prod.snd h
  simp at this
  omega
 ·
  show encF T (l.length+1) (x :: l)=_
  unfold encF
  rw[h,if_pos (by simp),kf,kx]
  congr 1
  exact enc_fuel T _ _ _ (by simp;omega) (qc _)
theorem enc_esc{T:List (List UInt8)}{x:UInt8}{l:List UInt8}(h:qb4 T (x :: l)=(-1,0)):kx T (x :: l)=255 :: x :: kx T l:=by
 show encF T (l.length+1) (x :: l)=_
 unfold encF
 rw[h,if_neg (by decide),kx]
theorem enc_ind{T:List (List UInt8)}{P:List UInt8→Prop}(h0:P [])(h1:∀x l,qb4 T (x :: l)=(-1,0)→P l→P (x :: l))(h2:∀(j:Nat) (s l:List UInt8),T[j]? = some s→qb4 T (s++l)=((j:Int),s.length)→0<s.length→P l→P (s++l)):∀l,P l:=by
 intro l
 generalize hn:l.length=n
 induction n using Nat.strongRecOn generalizing l with
 | _ n ih =>
  rcases l with _ | ⟨x,l⟩
  ·
   exact h0
  ·
   rw[qo] at hn
   rcases qcw T (x :: l) with h | ⟨j,s,hj,h3,h4,r,h5⟩
   ·
    exact h1 x l h (ih l.length (by omega) l rfl)
   ·
    rw[←h5] at h3 ⊢
    have hl:s.length+r.length=l.length+1:=by rw[←qd,h5,qo]
    exact h2 j s r hj h3 h4 (ih r.length (by omega) r rfl)
theorem enc_sym{T:List (List UInt8)}{j:Nat}{s l:List UInt8}(h:qb4 T (s++l)=((j:Int),s.length))(h0:0<s.length):kx T (s++l)=UInt8.ofNat j :: kx T l:=by
 rw[enc_code h h0,jn]
theorem qk4(T:List (List UInt8))(l:List UInt8):(kx T l).length≤2*l.length:=by
 refine enc_ind (T:=T) (P:=fun l=>(kx T l).length≤2*l.length) (by simp[enc_nil]) (fun x l h ih => ?_) (fun j s l _ h h0 ih => ?_) l
 ·
  simp only[enc_esc h,qo];omega
 ·
  simp only[enc_sym h h0,qo,qd];omega
def qc2(T:List (List UInt8))(most:Int):List UInt8→List UInt8→Nat→List UInt8×Nat×Nat
 | [],o,n=>(o,0,n)
 | x :: l,o,n =>
  if x=255 then
   match l with
   | []=>([],2,n)
   | y :: l'=>if most<((o++[y]).length:Int) then ([],6,n+1) else qc2 T most l' (o++[y]) (n+1)
  else match T[x.toNat]? with
   | none=>([],3,n)
   | some s=>if most<((o++s).length:Int) then ([],6,n+1) else qc2 T most l (o++s) (n+1)
section
variable {T:List (List UInt8)}{most:Int}
theorem dec_nil(o:List UInt8)(n:Nat):qc2 T most [] o n=(o,0,n):=by rw[qc2]
theorem dec_end(o:List UInt8)(n:Nat):qc2 T most [255] o n=([],2,n):=by simp[qc2]
theorem dec_lit(y:UInt8)(l o:List UInt8)(n:Nat):qc2 T most (255 :: y :: l) o n=if most<((o++[y]).length:Int) then ([],6,n+1) else qc2 T most l (o++[y]) (n+1):=by
 rw[qc2.eq_def]
 simp only[if_pos]
theorem dec_wrong{x:UInt8}(l o:List UInt8)(n:Nat)(h:x≠255)(hx:T.length≤x.toNat):qc2 T most (x :: l) o n=([],3,n):=by
 rw[qc2.eq_def]
 simp only[if_neg h,jp hx]
theorem dec_sym{x:UInt8}{s:List UInt8}(l o:List UInt8)(n:Nat)(h:x≠255)(hx:T[x.toNat]? = some s):qc2 T most (x :: l) o n=if most<((o++s).length:Int) then ([],6,n+1) else qc2 T most l (o++s) (n+1):=by
 rw[qc2.eq_def]
 simp only[if_neg h,hx]
end
theorem ofNat_code{T:List (List UInt8)}(hT:T.length≤255){j:Nat}{s:List UInt8}(h:T[j]? = some s):UInt8.ofNat j≠255∧(UInt8.ofNat j).toNat=j:=by
 have hj:j<T.length:=(zt.1 h).1
 have h1:(UInt8.ofNat j).toNat=j:=by simp;omega
 refine⟨fun e => ?_,h1⟩
 rw[e] at h1
 have:(255:UInt8).toNat=255:=rfl
 omega
theorem dec_enc{T:List (List UInt8)}(hT:T.length≤255)(l:List UInt8):∃k,∀(most:Int) (r o:List UInt8) (n:Nat),((o.length+l.length:Nat):Int)≤most→qc2 T most (kx T l++r) o n=qc2 T most r (o++l) (n+k):=by
 refine enc_ind (T:=T) (P:=fun l=>∃k,∀(most:Int) (r o:List UInt8) (n:Nat),((o.length+l.length:Nat):Int)≤most→qc2 T most (kx T l++r) o n=qc2 T most r (o++l) (n+k)) ?_ (fun x l h ih => ?_) (fun j s l hj h h0 ih => ?_) l
 ·
  exact⟨0,fun most r o n _=>by rw[enc_nil,xu,jd,y7]⟩
 ·
  obtain⟨k,hk⟩:=ih
  refine⟨k+1,fun most r o n hm => ?_⟩
  rw[qo] at hm
  rw[enc_esc h,z7,z7,dec_lit,if_neg (by rw[qd,qo,jy];omega),hk _ _ _ _ (by rw[qd,qo,jy];omega),qm,yw,show n+1+k=n+(k+1) by omega]
 ·
  obtain⟨k,hk⟩:=ih
  refine⟨k+1,fun most r o n hm => ?_⟩
  rw[qd] at hm
  obtain⟨h1,h2⟩:=ofNat_code hT hj
  rw[enc_sym h h0,z7,dec_sym _ _ _ h1 (by rw[h2];exact hj),if_neg (by rw[qd];omega),hk _ _ _ _ (by rw[qd];omega),qm,show n+1+k=n+(k+1) by omega]
def xe(l:List ByteArray)(ds:List Int):List ByteArray:=if l=[] then [] else ds.map fun d=>l.getD (d.natAbs%l.length) ⟨#[]⟩
theorem sample_length{l:List ByteArray}(h:l≠[])(ds:List Int):(xe l ds).length=ds.length:=by rw[xe,if_neg h,qz]
structure Cnt (P ns:List (List UInt8)) (cs:List Nat):Prop where
 len:ns.length=cs.length
 once:ns.Nodup
 cnt:∀i (h:i<ns.length),cs[i]'(by omega)=P.count ns[i]
 mem:∀x,x∈ns↔x∈P
theorem Cnt.nil:Cnt [] [] []:=⟨rfl,List.nodup_nil,fun i h=>absurd h (jm i),fun _=>Iff.rfl⟩
theorem Cnt.new{P ns:List (List UInt8)}{cs:List Nat}(h:Cnt P ns cs){s:List UInt8}(hs:s∉ns):Cnt (P++[s]) (ns++[s]) (cs++[1]):=by
 have hl:=h.len
 refine⟨by simp[hl],?_,fun j hj => ?_,fun x => ?_⟩
 ·
  rw[List.nodup_append]
  exact⟨h.once,by simp,fun a ha b hb=>by
   rw[q8] at hb
   subst hb
   exact fun e=>hs (e ▸ ha)⟩
 ·
  rw[List.count_append,List.count_singleton]
  have hs0:P.count s=0:=List.count_eq_zero.2 fun hx=>hs ((h.mem s).2 hx)
  by_cases hjl:j<ns.length
  ·
   rw[j6 (by omega),j6 hjl,h.cnt j hjl]
   have:s≠ns[j]:=fun e=>hs (e ▸ ql hjl)
   simp[this]
  ·
   have hj2:j=ns.length:=by rw[qd,zx] at hj;omega
   subst hj2
   rw[xh (by omega),xh (by omega)]
   simp[hs0,hl]
 ·
  rw[zn,zn,h.mem]
theorem Cnt.few{P ns:List (List UInt8)}{cs:List Nat}(h:Cnt P ns cs):ns.length≤P.length:=h.once.length_le_of_subset fun x hx=>(h.mem x).1 hx
theorem Cnt.low{P ns:List (List UInt8)}{cs:List Nat}(h:Cnt P ns cs){i:Nat}(hi:i<cs.length):cs[i]≤P.length:=by
 rw[h.cnt i (by rw[h.len];exact hi)]
 exact qa7
def qb3(T:List (List UInt8))(l:List UInt8):Nat:=if (qb4 T l).2=0 then 1 else (qb4 T l).2
theorem qgw(T:List (List UInt8))(l:List UInt8):0<qb3 T l:=by
 unfold qb3
 split <;> omega
theorem qkq{T:List (List UInt8)}{l:List UInt8}(h:l≠[]):qb3 T l≤l.length:=by
 have hl:0<l.length:=List.length_pos_iff.2 h
 unfold qb3
 rcases qcw T l with h1 | ⟨j,s,_,h2,h3,h4⟩
 ·
  rw[h1,if_pos rfl];exact hl
 ·
  have:=h4.length_le
  rw[h2,if_neg (by show ¬s.length=0;omega)]
  exact this
theorem stepP_ok{T:List (List UInt8)}(hT:∀s∈T,qgo s=true)(l:List UInt8):qb3 T l≤8:=by
 unfold qb3
 rcases qcw T l with h1 | ⟨j,s,hj,h2,h3,h4⟩
 ·
  rw[h1,if_pos rfl];decide
 ·
  rw[h2,if_neg (by show ¬s.length=0;omega)]
  exact(qeb.1 (hT s (List.mem_of_getElem? hj))).2
def qhd(T:List (List UInt8)):Nat→List UInt8→List UInt8→List (List UInt8)
 | 0,_,_=>[]
 | _+1,_,[]=>[]
 | f+1,last,x :: l=>(x :: l).take (qb3 T (x :: l)) :: ((if last≠[]∧last.length+qb3 T (x :: l)≤8 then [last++(x :: l).take (qb3 T (x :: l))] else []) ++
   qhd T f ((x :: l).take (qb3 T (x :: l))) ((x :: l).drop (qb3 T (x :: l))))
theorem qmk(T:List (List UInt8)):∀(f g:Nat) (last l:List UInt8),l.length≤f→l.length≤g→qhd T f last l=qhd T g last l
 | 0,0,_,_,_,_=>rfl
 | 0,g+1,_,[],_,_=>rfl
 | f+1,0,_,[],_,_=>rfl
 | f+1,g+1,_,[],_,_=>rfl
 | f+1,g+1,last,x :: l,hf,hg=>by
  rw[qo] at hf hg
  have h0:=qgw T (x :: l)
  unfold qhd
  rw[qmk T f g _ ((x :: l).drop (qb3 T (x :: l))) (by simp;omega) (by simp;omega)]
def qby(T:List (List UInt8))(last l:List UInt8):List (List UInt8):=qhd T l.length last l
theorem pieces_nil(T:List (List UInt8))(last:List UInt8):qby T last []=[]:=rfl
theorem qif(T:List (List UInt8))(last:List UInt8){l:List UInt8}(h:l≠[]):qby T last l=l.take (qb3 T l) :: ((if last≠[]∧last.length+qb3 T l≤8 then [last++l.take (qb3 T l)] else []) ++
  qby T (l.take (qb3 T l)) (l.drop (qb3 T l))):=by
 rcases l with _ | ⟨x,l⟩
 ·
  exact absurd rfl h
 ·
  have h0:=qgw T (x :: l)
  show qhd T (l.length+1) last (x :: l)=_
  unfold qhd
  rw[qmk T l.length ((x :: l).drop (qb3 T (x :: l))).length _ _ (by simp;omega) (qc _)]
  rfl
theorem pieces_len(T:List (List UInt8))(l:List UInt8):∀last,(qby T last l).length≤2*l.length:=by
 generalize hn:l.length=n
 induction n using Nat.strongRecOn generalizing l with
 | _ n ih =>
  intro last
  by_cases h:l=[]
  ·
   subst h
   simp[pieces_nil]
  ·
   have h0:=qgw T l
   have h1:=qkq (T:=T) h
   rw[qif T last h,qo,qd]
   have:=ih (l.drop (qb3 T l)).length (by simp;omega) (l.drop (qb3 T l)) rfl (l.take (qb3 T l))
   rw[qv] at this
   split
   ·
    simp only[zx];omega
   ·
    simp only[jy];omega
def ql7(T:List (List UInt8))(sample:List (List UInt8)):List (List UInt8):=sample.flatMap (qby T [])
def qmt(P:List (List UInt8))(x:List UInt8):Nat:=P.count x*x.length
def beats(P:List (List UInt8))(x y:List UInt8):Prop:=qmt P y<qmt P x∨(qmt P x=qmt P y∧xd x y<0)
theorem beats_asym{P:List (List UInt8)}{x y:List UInt8}(h:beats P x y)(k:beats P y x):False:=by
 rcases h with h | ⟨h,h2⟩
 ·
  rcases k with k | ⟨k,_⟩ <;> omega
 ·
  rcases k with k | ⟨_,k2⟩
  ·
   omega
  ·
   exact qc6 (uv h2 k2)
structure TopOf (P best:List (List UInt8)):Prop where
 once:best.Nodup
 few:best.length≤255
 of:∀x∈best,x∈P
 top:∀y∈P,y∉best→best.length=255∧∀x∈best,beats P x y
theorem TopOf.sub{P b c:List (List UInt8)}(h:TopOf P b)(k:TopOf P c):∀x∈b,x∈c:=by
 intro x hx
 by_cases hc:x∈c
 ·
  exact hc
 ·
  exfalso
  obtain⟨h1,h2⟩:=k.top x (h.of x hx) hc
  by_cases hs:∃y∈c,y∉b
  ·
   obtain⟨y,hy,hyb⟩:=hs
   exact beats_asym ((h.top y (k.of y hy) hyb).2 x hx) (h2 y hy)
  ·
   have hsub:∀y∈x :: c,y∈b:=fun y hy=>by
    rcases zv.1 hy with rfl | hy
    ·
     exact hx
    ·
     exact Classical.byContradiction fun hn=>hs ⟨y,hy,hn⟩
   have hnd:(x :: c).Nodup:=List.nodup_cons.2 ⟨hc,k.once⟩
   have:=hnd.length_le_of_subset hsub
   have:=h.few
   rw[qo] at *
   omega
def qed(P t:List (List UInt8)):Prop:=∃best,TopOf P best∧IsOrder best t
theorem IsOrder.same{l m t:List (List UInt8)}(h:IsOrder l t)(hs:∀x,x∈l↔x∈m):IsOrder m t :=
 ⟨h.rises,h.few,fun x hx=>⟨(hs x).1 (h.of x hx).1,(h.of x hx).2⟩,fun s hs2 ho=>h.all s ((hs s).2 hs2) ho⟩
theorem qed.one{P t u:List (List UInt8)}(h:qed P t)(k:qed P u):t=u:=by
 obtain⟨b,h1,h2⟩:=h
 obtain⟨c,k1,k2⟩:=k
 exact(h2.same fun x=>⟨h1.sub k1 x,k1.sub h1 x⟩).one k2
theorem pieces_ok{T:List (List UInt8)}(hT:∀s∈T,qgo s=true)(l:List UInt8):∀last x,x∈qby T last l→x.length≤8:=by
 generalize hn:l.length=n
 induction n using Nat.strongRecOn generalizing l with
 | _ n ih =>
  intro last x hx
  by_cases h:l=[]
  ·
   subst h
   cases hx
  ·
   have h0:=qgw T l
   have h1:=qkq (T:=T) h
   have h8:=stepP_ok hT l
   rw[qif T last h,zv,zn] at hx
   rcases hx with rfl | hx | hx
   ·
    rw[qy];omega
   ·
    split at hx
    ·
     rename_i hc
     rw[q8] at hx
     subst hx
     rw[qd,qy]
     omega
    ·
     cases hx
   ·
    exact ih (l.drop (qb3 T l)).length (by simp;omega) _ rfl _ x hx
theorem bag_ok{T:List (List UInt8)}(hT:∀s∈T,qgo s=true){S:List (List UInt8)}{x:List UInt8}(hx:x∈ql7 T S):x.length≤8:=by
 obtain⟨s,_,h⟩:=List.mem_flatMap.1 hx
 exact pieces_ok hT s [] x h
structure Sel (P ns:List (List UInt8)) (ks:List Nat):Prop where
 once:ks.Nodup
 lt:∀k∈ks,k<ns.length
 top:∀k (hk:k∈ks) j (hj:j<ns.length),j∉ks→beats P (ns[k]'(lt k hk)) ns[j]
theorem Sel.nil(P ns:List (List UInt8)):Sel P ns []:=⟨List.nodup_nil,fun k h=>(by cases h),fun k h=>(by cases h)⟩
theorem Sel.snoc{P ns:List (List UInt8)}{ks:List Nat}(h:Sel P ns ks){k:Nat}(hk:k<ns.length)(hn:k∉ks)(hb:∀j (hj:j<ns.length),j∉ks→j≠k→beats P ns[k] ns[j]):Sel P ns (ks++[k]):=by
 refine⟨?_,fun j hj => ?_,fun i hi j hj hnj => ?_⟩
 ·
  rw[List.nodup_append]
  exact⟨h.once,by simp,fun a ha b hb e=>by
   rw[q8] at hb
   subst hb
   exact hn (e ▸ ha)⟩
 ·
  rcases zn.1 hj with hj | hj
  ·
   exact h.lt j hj
  ·
   rw[q8] at hj
   omega
 ·
  have hnj1:j∉ks:=fun e=>hnj (List.mem_append_left _ e)
  have hnj2:j≠k:=fun e=>hnj (List.mem_append_right _ (by rw[e];exact List.mem_singleton_self _))
  rcases zn.1 hi with hi2 | hi2
  ·
   exact h.top i hi2 j hj hnj1
  ·
   rw[q8] at hi2
   subst hi2
   exact hb j hj hnj1 hnj2
theorem getD_atS{l:List ByteArray}{q:Nat}(h:q<l.length)(d:ByteArray):l.getD q d=l[q]:=by
 rw[j7,qe h]
 rfl
def nz(cs:List Nat):List Value:=iv (cs.map fun(n:Nat)=>(n:Int))
theorem nz_set(cs:List Nat)(i n:Nat):nz (cs.set i n)=(nz cs).set i (.int .i64 (n:Int)):=by simp[nz,iv,List.map_set]
structure Two (w:World) (base:Nat) (u v:Value) (ns:List ByteArray) (cs:List Nat):Prop where
 o1:w.ownsRow base 9 1 u ns.length (sv ns)
 o2:w.ownsRow base 3 1 v cs.length (nz cs)
 ap:∀g,u.ownBlock=some g→v.ownBlock=some g→False
theorem Two.nil(w:World)(base:Nat):Two w base (.slice none 0 0) (.slice none 0 0) [] []:=⟨zj ..,zj ..,fun _ h=>(by cases h)⟩
theorem Two.drewN{w:World}{base:Nat}{u v:Value}{ns:List ByteArray}{cs:List Nat}(h:Two w base u v ns cs)(m:Nat):Two (w.drewN m) base u v ns cs :=
 ⟨jw h.o1 (fun _ _=>rfl),jw h.o2 (fun _ _=>rfl),h.ap⟩
theorem Two.set{w:World}{base:Nat}{u:Value}{g n cap:Nat}{ns:List ByteArray}{cs:List Nat}(h:Two w base u (.slice (some ⟨g,0,none⟩) n cap) ns cs)(hn:n=cs.length)(i x:Nat) :
  Two (w.setCell ⟨g,i,none⟩ (.int .i64 (x:Int))) base u (.slice (some ⟨g,0,none⟩) n cap) ns (cs.set i x):=by
 subst hn
 refine⟨ownsRow_setCell_other h.o1 (fun e=>h.ap g e rfl) _,?_,h.ap⟩
 rw[nz_set,xv]
 exact(h.o2.stored i _).1
structure Spot (w:World) (b1 o1 b2 o2 i:Nat) (t:ByteArray) (z G:Nat):Prop where
 c1:w.cell? ⟨b1,o1+i,none⟩=some (.string t)
 c2:w.cell? ⟨b2,o2+i,none⟩=some (.int .i64 (z:Int))
 lt:t.size≤8
 lz:z≤1000000
 w1:Value.int .i64 (IntKind.i64.wrap ((z:Int)*(t.size:Int)))= .int .i64 (G:Int)
 w2:Value.int .i64 (wrap64 ((z:Int)*(t.size:Int)))= .int .i64 (G:Int)
 lg:G≤8000000
theorem qe0(l:List ByteArray):j4 (qt l)=l:=by
 unfold j4 qt
 rw[uk]
 conv=>rhs;rw[←List.map_id l]
 apply qal
 intro s _
 exact str_eta s
def qbf(S:List (List UInt8)):Nat→List (List UInt8)→Prop
 | 0,t=>t=[]
 | k+1,t=>∃u,qbf S k u∧qed (ql7 u S) t
theorem qbf.one{S:List (List UInt8)}:∀ {k:Nat} {t u:List (List UInt8)},qbf S k t→qbf S k u→t=u
 | 0,_,_,h1,h2=>h1.trans h2.symm
 | _+1,_,_,⟨a,h1,h2⟩,⟨b,k1,k2⟩=>by
  obtain rfl:=qbf.one h1 k1
  exact h2.one k2
theorem qed.ok{P t:List (List UInt8)}(h:qed P t):∀x∈t,qgo x=true:=by
 obtain⟨b,_,h2⟩:=h
 exact fun x hx=>(h2.of x hx).2
theorem qed.few{P t:List (List UInt8)}(h:qed P t):t.length≤255:=by
 obtain⟨b,_,h2⟩:=h
 exact h2.few
theorem qbf.ok{S:List (List UInt8)}:∀ {k:Nat} {t:List (List UInt8)},qbf S k t→(∀x∈t,qgo x=true)∧t.length≤255
 | 0,t,h=>by
  obtain rfl:t=[]:=h
  exact⟨fun x hx=>absurd hx vd,qj _⟩
 | k+1,t,⟨u,_,h⟩=>⟨h.ok,h.few⟩
theorem kv(l:List (List UInt8)):qt (j4 l)=l:=by
 unfold qt j4
 rw[uk]
 conv=>rhs;rw[←List.map_id l]
 exact qal fun x _=>by simp
def qgd(N:Int):Nat:=if 8≤N then 8 else N.toNat
structure Co where
 kind:Int
 block:Int
 rounds:Int
 draws:List Int
def qbs(o:Co):Prop:=0≤o.kind∧o.kind≤3∧1≤o.block∧o.block≤64∧0≤o.rounds∧o.rounds≤8∧o.draws.length≤4096
instance (o:Co):Decidable (qbs o):=by unfold qbs;infer_instance
def VlOk(v:Vl):Prop:=v.s.size≤4096∧(v.null=true→v.s=⟨#[]⟩)
instance (v:Vl):Decidable (VlOk v):=by unfold VlOk;infer_instance
def uj(l:List Vl):Prop:=l.length≤4096∧∀v∈l,VlOk v
instance (l:List Vl):Decidable (uj l):=by unfold uj;infer_instance
def xi(l:List Vl):List Bool:=l.map fun v => !v.null
def qr(l:List Vl):List ByteArray:=(l.filter fun v => !v.null).map (·.s)
theorem uq(l:List Vl):(xi l).length=l.length:=by simp[xi]
theorem qfl(l:List Vl):(qr l).length≤l.length:=by rw[qr,qz];exact List.length_filter_le _ _
theorem qma{l:List Vl}{k:Nat}(h:k<l.length):qr (l.take (k+1))=qr (l.take k)++(if l[k].null=true then [] else [l[k].s]):=by
 unfold qr
 have h1:(if l[k].null=true then [] else [l[k].s])=(([l[k]]:List Vl).filter (fun v => !v.null)).map (·.s):=by
  cases hn:l[k].null <;> simp[List.filter_cons,hn]
 rw[qi h,List.filter_append,jg,h1]
theorem qfs{l:List Vl}{s:ByteArray}(h:s∈qr l):∃v∈l,v.s=s:=by
 obtain⟨v,hv,rfl⟩:=za.1 h
 exact⟨v,(List.mem_filter.1 hv).1,rfl⟩
theorem texts_cnt:∀l:List Vl,(qr l).length=cnt (xi l)
 | []=>rfl
 | v :: l=>by
  have ih:=texts_cnt l
  unfold qr xi cnt at *
  cases hn:v.null <;> simp_all[List.filter_cons]
def yt{α:Type}:List Bool→List α→α→List α
 | [],_,_=>[]
 | true :: t,[],d=>d :: yt t [] d
 | true :: t,x :: l,d=>x :: yt t l d
 | false :: t,l,d=>d :: yt t l d
section
variable {α β:Type}
theorem qao:∀(t:List Bool) (l:List α) (d:α),(yt t l d).length=t.length
 | [],_,_=>rfl
 | true :: t,[],d=>by rw[yt,qo,qo,qao t]
 | true :: t,x :: l,d=>by rw[yt,qo,qo,qao t]
 | false :: t,l,d=>by cases l <;> rw[yt,qo,qo,qao t]
theorem qen:∀(t:List Bool) (l:List α) (d:α) {i:Nat},t[i]? = some false→(yt t l d)[i]? = some d
 | [],_,_,i,h=>by simp at h
 | true :: t,[],d,0,h=>by simp at h
 | true :: t,x :: l,d,0,h=>by simp at h
 | false :: t,l,d,0,h=>by cases l <;> rfl
 | true :: t,[],d,i+1,h=>by simpa[yt] using qen t [] d (i:=i) (by simpa using h)
 | true :: t,x :: l,d,i+1,h=>by simpa[yt] using qen t l d (i:=i) (by simpa using h)
 | false :: t,l,d,i+1,h=>by cases l <;> simpa[yt] using qen t _ d (i:=i) (by simpa using h)
theorem qfo:∀(t:List Bool) (l:List α) (d:α) {i:Nat},t[i]? = some true→cnt t≤l.length→∃j,cnt (t.take i)=j∧j<l.length∧(yt t l d)[i]? = l[j]?
 | [],_,_,i,h,_=>by simp at h
 | true :: t,[],d,i,h,hc=>by simp[cnt] at hc
 | true :: t,x :: l,d,0,h,hc=>⟨0,rfl,by simp,rfl⟩
 | false :: t,l,d,0,h,hc=>by simp at h
 | true :: t,x :: l,d,i+1,h,hc=>by
  obtain⟨j,h1,h2,h3⟩:=qfo t l d (i:=i) (by simpa using h) (by simpa[cnt] using hc)
  exact⟨j+1,by simpa[cnt] using h1,by simpa using h2,by simpa[yt] using h3⟩
 | false :: t,l,d,i+1,h,hc=>by
  obtain⟨j,h1,h2,h3⟩:=qfo t l d (i:=i) (by simpa using h) (by simpa[cnt] using hc)
  refine⟨j,by simpa[cnt] using h1,h2,?_⟩
  cases l <;> simpa[yt] using h3
end
theorem qmf:∀ {l:List Vl},(∀v∈l,VlOk v)→yt (xi l) ((qr l).map (Vl.mk false)) ⟨true,⟨#[]⟩⟩=l
 | [],_=>rfl
 | v :: l,h=>by
  have ih:=qmf (l:=l) fun x hx=>h x (jb _ hx)
  obtain⟨b,s⟩:=v
  cases b with
  | true =>
   have hs:s=⟨#[]⟩:=(h ⟨true,s⟩ zr).2 rfl
   subst hs
   show yt (false :: xi l) ((qr l).map (Vl.mk false)) ⟨true,⟨#[]⟩⟩=_
   cases hl:(qr l).map (Vl.mk false) with
   | nil=>rw[hl] at ih;rw[yt,ih]
   | cons a t=>rw[hl] at ih;rw[yt,ih]
  | false =>
   show yt (true :: xi l) (Vl.mk false s :: (qr l).map (Vl.mk false)) ⟨true,⟨#[]⟩⟩=_
   rw[yt,ih]
def ku(r:List (List UInt8)):List UInt8:=jr (jf (r.map List.length))++r.flatten
noncomputable def qhk (S:List (List UInt8)):List (List UInt8):=Classical.epsilon (qdl S)
theorem dicS_is{S t:List (List UInt8)}(h:qdl S t):qhk S=t:=(Classical.epsilon_spec (p:=qdl S) ⟨t,h⟩).one h
noncomputable def ki (S:List ByteArray)(o:Co):List (List UInt8):=Classical.epsilon fun t=>qbf (qt (xe S o.draws)) (qgd o.rounds) t
theorem tabS_is{S:List ByteArray}{o:Co}{t:List (List UInt8)}(h:qbf (qt (xe S o.draws)) (qgd o.rounds) t):ki S o=t :=
 (Classical.epsilon_spec (p:=fun t=>qbf (qt (xe S o.draws)) (qgd o.rounds) t) ⟨t,h⟩).one h
def qc4(D S:List (List UInt8)):List Nat:=S.map fun s=>D.idxOf s
noncomputable def yu (S:List ByteArray)(o:Co)(k:Int):List UInt8 :=
 if k=2 then qeq (ki S o)++ku ((qt S).map (kx (ki S o)))
 else if k=3 then k9 o.block.toNat (qhk (qt S))++jr (jf (qc4 (qhk (qt S)) (qt S)))
 else ku (qt S)
noncomputable def qk9 (S:List ByteArray)(o:Co):Int :=
 if (yu S o 2).length<(yu S o 1).length then (if (yu S o 3).length<(yu S o 2).length then 3 else 2) else (if (yu S o 3).length<(yu S o 1).length then 3 else 1)
noncomputable def y9 (S:List ByteArray)(o:Co):Int:=if o.kind=0 then qk9 S o else o.kind
theorem qf4(S:List ByteArray){o:Co}(h:qbs o):y9 S o=1∨y9 S o=2∨y9 S o=3:=by
 obtain⟨h1,h2, -⟩:=h
 unfold y9 qk9
 repeat' split
 all_goals omega
noncomputable def qf6 (l:List Vl)(o:Co):List UInt8:=UInt8.ofNat (y9 (qr l) o).toNat :: (xz (xi l)++yu (qr l) o (y9 (qr l) o))
def vt(bs:List UInt8)(k:Nat)(e:Int)(n:Nat)(most:Int):List Nat×Nat×Int :=
 let r:=ue bs k e (n:Int)
 let e1:=if r.1.length=n then r.2.2 else jx r.2.2
 let e2:=if (r.1.all fun x=>decide ((x:Int)≤most))=true then e1 else jx e1
 (if e2=0 then r.1 else [],r.2.1,e2)
def qce(bs:List UInt8)(ok:List UInt8→Bool):List Nat→Nat→Int→List (List UInt8)×Nat×Int
 | [],k,e=>([],k,e)
 | z :: zs,k,e =>
  let t:=z6 bs k e 0 (z:Int)
  let r:=qce bs ok zs t.2.1 (if ok t.1=true then t.2.2 else jx t.2.2)
  (t.1 :: r.1,r.2)
def uz(bs:List UInt8)(k:Nat)(e:Int)(n:Nat)(most:Int)(ok:List UInt8→Bool):List (List UInt8)×Nat×Int :=
 qce bs ok (vt bs k e n most).1 (vt bs k e n most).2.1 (vt bs k e n most).2.2
def qdp(T:List (List UInt8))(b:List UInt8):Bool:=decide ((qc2 T 4096 b [] 0).2.1=0)&&decide (kx T (qc2 T 4096 b [] 0).1=b)
structure Chk where
 kind:Nat
 there:List Bool
 raws:List (List UInt8)
 tab:List (List UInt8)
 dic:List (List UInt8)
 codes:List Nat
def Chk.none:Chk:=⟨0,[],[],[],[],[]⟩
def kg(bs:List UInt8)(k:Nat)(e:Int)(kind:Nat)(there:List Bool):Chk×Nat×Int :=
 if kind=1 then (⟨1,there,(uz bs k e (cnt there) 4096 fun _=>true).1,[],[],[]⟩,(uz bs k e (cnt there) 4096 fun _=>true).2)
 else if kind=2 then (⟨2,there,(uz bs (qdd bs k e).2.1 (qdd bs k e).2.2 (cnt there) 8192 (qdp (qdd bs k e).1)).1,(qdd bs k e).1,[],[]⟩,(uz bs (qdd bs k e).2.1 (qdd bs k e).2.2 (cnt there) 8192 (qdp (qdd bs k e).1)).2)
 else if kind=3 then (⟨3,there,[],[],(qaw bs k e).1,(vt bs (qaw bs k e).2.1 (qaw bs k e).2.2 (cnt there) (((qaw bs k e).1.length:Int)-1)).1⟩,(vt bs (qaw bs k e).2.1 (qaw bs k e).2.2 (cnt there) (((qaw bs k e).1.length:Int)-1)).2)
 else (⟨kind,there,[],[],[],[]⟩,k,e)
def qht(n:Nat)(e:Int):Int:=if 1≤n∧n≤3 then e else jx e
def qjk(bs:List UInt8)(k:Nat)(e:Int):Chk×Nat×Int :=
 kg bs (qat bs (z6 bs k e 0 1).2.1 (qht ((z6 bs k e 0 1).1.headD 0).toNat (z6 bs k e 0 1).2.2) 4096).2.1 (qat bs (z6 bs k e 0 1).2.1 (qht ((z6 bs k e 0 1).1.headD 0).toNat (z6 bs k e 0 1).2.2) 4096).2.2
  ((z6 bs k e 0 1).1.headD 0).toNat (qat bs (z6 bs k e 0 1).2.1 (qht ((z6 bs k e 0 1).1.headD 0).toNat (z6 bs k e 0 1).2.2) 4096).1
def qax(bs:List UInt8)(k:Nat)(e:Int):Chk×Nat×Int:=if (qjk bs k e).2.2=0 then qjk bs k e else (Chk.none,(qjk bs k e).2)
theorem openR_bad(bs:List UInt8)(k:Nat){e:Int}(h:e≠0):qaw bs k e=([],k,e):=by
 unfold qaw
 simp only[qf3 bs k _ h]
 rw[openK,if_neg (by omega),vw h]
theorem kindE_bad{n:Nat}{e:Int}(h:e≠0):qht n e=e:=by
 unfold qht
 rw[vw h,ite_self]
theorem qi1(bs:List UInt8)(k:Nat){e:Int}(n:Nat)(m:Int)(h:e≠0):vt bs k e n m=([],k,e):=by
 unfold vt
 simp only[qid bs k (n:Int) h,vw h,ite_self,if_neg h]
theorem qiz(bs:List UInt8)(ok:List UInt8→Bool):∀(zs:List Nat) (k:Nat) {e:Int},e≠0→(qce bs ok zs k e).2=(k,e)
 | [],k,e,_=>rfl
 | z :: zs,k,e,h=>by
  rw[qce]
  simp only[qfm bs k (z:Int) h,vw h,ite_self]
  exact qiz bs ok zs k h
theorem qln(bs:List UInt8)(k:Nat){e:Int}(n:Nat)(m:Int)(ok:List UInt8→Bool)(h:e≠0):uz bs k e n m ok=([],k,e):=by
 rw[uz,qi1 bs k n m h]
 rfl
theorem qgv(bs:List UInt8)(k:Nat){e:Int}(kind:Nat)(there:List Bool)(h:e≠0):(kg bs k e kind there).2=(k,e):=by
 unfold kg
 rw[getK_bad bs k h,openR_bad bs k h]
 simp only[qln bs k _ _ _ h,qi1 bs k _ _ h]
 repeat' split
 all_goals rfl
theorem qj2{bs:List UInt8}{k k2 n:Nat}{m:Int}{ns:List Nat}(hk:k≤bs.length)(hn:n≤2147483647)(h:vt bs k 0 n m=(ns,k2,0)) :
  ns.length=n∧(∀x∈ns,(x:Int)≤m)∧May (jf ns)∧bs.drop k=jr (jf ns)++bs.drop k2∧k2=k+(jr (jf ns)).length∧k2≤bs.length:=by
 unfold vt at h
 obtain⟨R,hR⟩:∃R,ue bs k 0 (n:Int)=R:=⟨_,rfl⟩
 obtain⟨xs,q,e⟩:=R
 simp only[hR] at h
 by_cases h1:xs.length=n
 ·
  rw[if_pos h1] at h
  by_cases h2:(xs.all fun x=>decide ((x:Int)≤m))=true
  ·
   rw[if_pos h2] at h
   simp only[Prod.mk.injEq] at h
   obtain⟨e1,rfl,rfl⟩:=h
   rw[if_pos rfl] at e1
   subst e1
   obtain⟨g1,g2,g3,g4,g5⟩:=qgx hk hn hR
   exact⟨h1,fun x hx=>of_decide_eq_true (List.all_eq_true.1 h2 x hx),g2,g3,g4,g5⟩
  ·
   rw[if_neg h2] at h
   simp only[Prod.mk.injEq] at h
   exact absurd h.2.2 (yp _)
 ·
  rw[if_neg h1] at h
  simp only[Prod.mk.injEq] at h
  split at h
  ·
   exact absurd h.2.2 (yp _)
  ·
   exact absurd h.2.2 (yp _)
theorem qmq{bs rest:List UInt8}{k:Nat}{m:Int}{ns:List Nat}(hk:k≤bs.length)(hn:ns.length≤2147483647)(hm:∀x∈ns,(x:Int)≤m)(hy:May (jf ns))(h:bs.drop k=jr (jf ns)++rest) :
  vt bs k 0 ns.length m=(ns,k+(jr (jf ns)).length,0):=by
 have h1:=qf0 (jf ns) hy ns.length hk h (by rw[zq];exact qc _) hn
 rw[qlr] at h1
 unfold vt
 have h2:(ns.all fun x=>decide ((x:Int)≤m))=true:=List.all_eq_true.2 fun x hx=>qx (hm x hx)
 simp only[h1,h2,if_true]
theorem rawsF_good{bs:List UInt8}{ok:List UInt8→Bool}:∀ {zs:List Nat} {k k2:Nat} {l:List (List UInt8)},k≤bs.length→qce bs ok zs k 0=(l,k2,0)→
  l.map List.length=zs∧(∀x∈l,ok x=true)∧bs.drop k=l.flatten++bs.drop k2∧k2=k+l.flatten.length∧k2≤bs.length
 | [],k,k2,l,hk,h=>by
  simp only[qce,Prod.mk.injEq,and_true] at h
  obtain⟨rfl,rfl⟩:=h
  exact⟨rfl,fun x hx=>(by cases hx),by simp,by simp,hk⟩
 | z :: zs,k,k2,l,hk,h=>by
  by_cases hf:k+z≤bs.length
  ·
   have hT:=qa2 bs k z hf
   rw[qce] at h
   simp only[hT] at h
   cases ho:ok ((bs.drop k).take z) with
   | false =>
    rw[ho] at h
    simp only[kr,if_false,Prod.mk.injEq] at h
    rw[qiz bs ok zs (k+z) (yp 0)] at h
    exact absurd (congrArg Prod.snd h.2) (yp 0)
   | true =>
    rw[ho,if_pos rfl] at h
    obtain⟨R,hR⟩:∃R,qce bs ok zs (k+z) 0=R:=⟨_,rfl⟩
    obtain⟨r,q,e⟩:=R
    simp only[hR,Prod.mk.injEq] at h
    obtain⟨rfl,rfl,rfl⟩:=h
    obtain⟨h1,h2,h3,h4,h5⟩:=rawsF_good hf hR
    have hl:((bs.drop k).take z).length=z:=by rw[qy,qv];omega
    refine⟨by rw[y8,hl,h1],fun x hx => ?_,?_,?_,h5⟩
    ·
     rcases zv.1 hx with rfl | hx
     ·
      exact ho
     ·
      exact h2 x hx
    ·
     rw[ke,qm,←h3,←zu,zw]
    ·
     rw[ke,qd,hl];omega
  ·
   have hT:=qa8 bs k z (by omega)
   rw[qce] at h
   simp only[hT,Prod.mk.injEq] at h
   have hne:(if ok []=true then (2:Int) else jx 2)≠0:=by split <;> decide
   rw[qiz bs ok zs k hne] at h
   exact absurd (congrArg Prod.snd h.2) hne
theorem qmj{bs:List UInt8}{ok:List UInt8→Bool}:∀ {l:List (List UInt8)} {k:Nat} {rest:List UInt8},k≤bs.length→(∀x∈l,ok x=true)→bs.drop k=l.flatten++rest→qce bs ok (l.map List.length) k 0=(l,k+l.flatten.length,0)
 | [],k,rest,hk,ho,h=>by simp[qce]
 | x :: l,k,rest,hk,ho,h=>by
  have hb:k+x.length≤bs.length:=by
   have:=congrArg List.length h
   rw[qv,ke,qd,qd] at this
   omega
  have hx:(bs.drop k).take x.length=x:=by rw[h,ke,qm,List.take_left]
  have hd:bs.drop (k+x.length)=l.flatten++rest:=by rw[←zu,h,ke,qm,jn]
  rw[y8,qce]
  simp only[qa2 bs k x.length hb,hx,ho x zr,if_true]
  rw[qmj hb (fun y hy=>ho y (jb _ hy)) hd,ke,qd]
  simp
  omega
theorem qky{r:List (List UInt8)}{m:Int}(hm:m≤4294967295)(h:∀x∈r,(x.length:Int)≤m):May (jf (r.map List.length)):=fun z hz=>by
 obtain⟨n,hn,rfl⟩:=za.1 hz
 obtain⟨x,hx,rfl⟩:=za.1 hn
 have:=h x hx
 omega
theorem qjx{bs:List UInt8}{ok:List UInt8→Bool}{k k2 n:Nat}{m:Int}{l:List (List UInt8)}(hk:k≤bs.length)(hn:n≤2147483647)(h:uz bs k 0 n m ok=(l,k2,0)) :
  l.length=n∧(∀x∈l,ok x=true∧(x.length:Int)≤m)∧bs.drop k=ku l++bs.drop k2∧k2=k+(ku l).length∧k2≤bs.length:=by
 unfold uz at h
 obtain⟨R,hR⟩:∃R,vt bs k 0 n m=R:=⟨_,rfl⟩
 obtain⟨ns,q,e⟩:=R
 simp only[hR] at h
 by_cases he:e=0
 ·
  subst he
  obtain⟨h1,h2,h3,h4,h5,h6⟩:=qj2 hk hn hR
  obtain⟨g1,g2,g3,g4,g5⟩:=rawsF_good h6 h
  refine⟨by rw[←h1,←g1,qz],fun x hx=>⟨g2 x hx,h2 _ (by rw[←g1];exact vx hx)⟩,?_,?_,g5⟩
  ·
   rw[ku,g1,qm,←g3,←h4]
  ·
   rw[ku,g1,qd];omega
 ·
  have h7:=qiz bs ok ns q he
  rw[h] at h7
  exact absurd (congrArg Prod.snd h7).symm he
theorem qmi{bs rest:List UInt8}{ok:List UInt8→Bool}{k:Nat}{m:Int}{l:List (List UInt8)}(hk:k≤bs.length)(hn:l.length≤2147483647)(hm:m≤4294967295)(ho:∀x∈l,ok x=true∧(x.length:Int)≤m)(h:bs.drop k=ku l++rest) :
  uz bs k 0 l.length m ok=(l,k+(ku l).length,0):=by
 have h':bs.drop k=jr (jf (l.map List.length))++(l.flatten++rest):=by rw[h,ku,qm]
 have hn1:=qmq (m:=m) hk (by rw[qz];exact hn) (fun x hx=>by
  obtain⟨y,hy,rfl⟩:=za.1 hx
  exact(ho y hy).2) (qky hm fun x hx=>(ho x hx).2) h'
 rw[qz] at hn1
 have hq:k+(jr (jf (l.map List.length))).length≤bs.length:=by
  have:=congrArg List.length h'
  rw[qv,qd] at this
  omega
 rw[uz,hn1]
 simp only
 rw[qmj (rest:=rest) hq (fun x hx=>(ho x hx).1) (by rw[←zu,h',jn]),ku,qd]
 simp
 omega
structure ChkOk (c:Chk):Prop where
 few:c.there.length≤4096
 kinds:(c.kind=1∧c.raws.length=cnt c.there∧(∀x∈c.raws,x.length≤4096)∧c.tab=[]∧c.dic=[]∧c.codes=[])∨
  (c.kind=2∧c.raws.length=cnt c.there∧jz c.tab=true∧(∀x∈c.raws,qdp c.tab x=true∧x.length≤8192)∧c.dic=[]∧c.codes=[])∨
  (c.kind=3∧c.raws=[]∧c.tab=[]∧qjf c.dic=true∧c.codes.length=cnt c.there∧∀x∈c.codes,x<c.dic.length)
def qgb(K:Nat)(c:Chk):List UInt8 :=
 UInt8.ofNat c.kind :: (xz c.there++(if c.kind=1 then ku c.raws else if c.kind=2 then qeq c.tab++ku c.raws else k9 K c.dic++jr (jf c.codes)))
theorem ql2{D:List (List UInt8)}{ns:List Nat}(hD:D.length≤4096)(h:∀x∈ns,x<D.length):May (jf ns):=fun z hz=>by
 obtain⟨n,hn,rfl⟩:=za.1 hz
 have:=h n hn
 omega
theorem takeC_good{bs:List UInt8}{k k2 kind:Nat}{there:List Bool}{c:Chk}(hk:k≤bs.length)(hkd:1≤kind∧kind≤3)(ht:there.length≤4096)(h:kg bs k 0 kind there=(c,k2,0)) :
  c.kind=kind∧c.there=there∧ChkOk c∧∃K,1≤K∧K≤64∧bs.drop k=(if c.kind=1 then ku c.raws else if c.kind=2 then qeq c.tab++ku c.raws else k9 K c.dic++jr (jf c.codes))++bs.drop k2∧k2≤bs.length∧
   k2=k+(if c.kind=1 then ku c.raws else if c.kind=2 then qeq c.tab++ku c.raws else k9 K c.dic++jr (jf c.codes)).length:=by
 have hc:=qgs there
 unfold kg at h
 by_cases h1:kind=1
 ·
  subst h1
  rw[if_pos rfl] at h
  obtain⟨R,hR⟩:∃R,uz bs k 0 (cnt there) 4096 (fun _=>true)=R:=⟨_,rfl⟩
  obtain⟨l,q,e⟩:=R
  simp only[hR,Prod.mk.injEq] at h
  obtain⟨rfl,rfl,rfl⟩:=h
  obtain⟨g1,g2,g3,g4,g5⟩:=qjx hk (by omega) hR
  exact⟨rfl,rfl,⟨ht,.inl ⟨rfl,g1,fun x hx=>(by have:=(g2 x hx).2;omega),rfl,rfl,rfl⟩⟩,1,by omega,by omega,g3,g5,g4⟩
 ·
  rw[if_neg h1] at h
  by_cases h2:kind=2
  ·
   subst h2
   rw[if_pos rfl] at h
   obtain⟨G,hG⟩:∃G,qdd bs k 0=G:=⟨_,rfl⟩
   obtain⟨t,q,e⟩:=G
   simp only[hG] at h
   obtain⟨R,hR⟩:∃R,uz bs q e (cnt there) 8192 (qdp t)=R:=⟨_,rfl⟩
   obtain⟨l,q2,e2⟩:=R
   simp only[hR,Prod.mk.injEq] at h
   obtain⟨rfl,rfl,rfl⟩:=h
   by_cases he:e=0
   ·
    subst he
    obtain⟨f1,f2,f3,f4⟩:=getK_good hk hG
    obtain⟨g1,g2,g3,g4,g5⟩:=qjx f4 (by omega) hR
    refine⟨rfl,rfl,⟨ht,.inr (.inl ⟨rfl,g1,f1,fun x hx=>⟨(g2 x hx).1,by have:=(g2 x hx).2;omega⟩,rfl,rfl⟩)⟩,1,by omega,by omega,?_,g5,?_⟩
    ·
     show bs.drop k=qeq t++ku l++_
     rw[qm,←g3,←f2]
    ·
     show q2=k+(qeq t++ku l).length
     rw[qd];omega
   ·
    rw[qln bs q _ _ _ he] at hR
    exact absurd (congrArg (fun r=>r.2.2) hR) he
  ·
   rw[if_neg h2] at h
   have h3:kind=3:=by omega
   subst h3
   rw[if_pos rfl] at h
   obtain⟨G,hG⟩:∃G,qaw bs k 0=G:=⟨_,rfl⟩
   obtain⟨D,q,e⟩:=G
   simp only[hG] at h
   obtain⟨R,hR⟩:∃R,vt bs q e (cnt there) ((D.length:Int)-1)=R:=⟨_,rfl⟩
   obtain⟨l,q2,e2⟩:=R
   simp only[hR,Prod.mk.injEq] at h
   obtain⟨rfl,rfl,rfl⟩:=h
   by_cases he:e=0
   ·
    subst he
    obtain⟨K,f1,f2,f3,f4,f5,f6⟩:=openR_good hk hG
    obtain⟨g1,g2,g3,g4,g5,g6⟩:=qj2 f6 (by omega) hR
    refine⟨rfl,rfl,⟨ht,.inr (.inr ⟨rfl,rfl,rfl,f3,g1,fun x hx=>(by have:=g2 x hx;show x<D.length;omega)⟩)⟩,K,f1,f2,?_,g6,?_⟩
    ·
     show bs.drop k=k9 K D++jr (jf l)++_
     rw[qm,←g4,←f4]
    ·
     show q2=k+(k9 K D++jr (jf l)).length
     rw[qd];omega
   ·
    rw[qi1 bs q _ _ he] at hR
    exact absurd (congrArg (fun r=>r.2.2) hR) he
theorem takeC_there{bs rest:List UInt8}{k K:Nat}{c:Chk}(hk:k≤bs.length)(ho:ChkOk c)(hK:1≤K)(hK2:K≤64)
  (h:bs.drop k=(if c.kind=1 then ku c.raws else if c.kind=2 then qeq c.tab++ku c.raws else k9 K c.dic++jr (jf c.codes))++rest) :
  kg bs k 0 c.kind c.there=(c,k+(if c.kind=1 then ku c.raws else if c.kind=2 then qeq c.tab++ku c.raws else k9 K c.dic++jr (jf c.codes)).length,0):=by
 obtain⟨hf,hc⟩:=ho
 obtain⟨kind,there,raws,tab,dic,codes⟩:=c
 have hct:=qgs there
 simp only at hf hc h ⊢
 rcases hc with ⟨rfl,h1,h2,rfl,rfl,rfl⟩ | ⟨rfl,h1,h2,h3,rfl,rfl⟩ | ⟨rfl,rfl,rfl,h1,h2,h3⟩
 ·
  simp only[if_true] at h ⊢
  have:=qmi (ok:=fun _=>true) (m:=4096) hk (by omega) (by omega) (fun x hx=>⟨rfl,by have:=h2 x hx;omega⟩) h
  rw[h1] at this
  rw[kg,if_pos rfl,this]
 ·
  simp only[show ¬(2:Nat)=1 by omega,if_false,if_true] at h ⊢
  rw[qm] at h
  have hg:=getK_there hk h2 h
  have hq:k+(qeq tab).length≤bs.length:=by
   have:=congrArg List.length h
   rw[qv,qd] at this
   omega
  have:=qmi (ok:=qdp tab) (m:=8192) (rest:=rest) hq (by omega) (by omega) (fun x hx=>⟨(h3 x hx).1,by have:=(h3 x hx).2;omega⟩) (by rw[←zu,h,jn])
  rw[h1] at this
  rw[kg,if_neg (by omega),if_pos rfl,hg]
  simp only
  rw[this,qd,qaz]
 ·
  simp only[show ¬(3:Nat)=1 by omega,show ¬(3:Nat)=2 by omega,if_false] at h ⊢
  rw[qm] at h
  have hg:=openR_there hk hK hK2 h1 h
  have hq:k+(k9 K dic).length≤bs.length:=by
   have:=congrArg List.length h
   rw[qv,qd] at this
   omega
  have hd4:=(qc1.1 h1).1
  have:=qmq (m:=(dic.length:Int)-1) (rest:=rest) (ns:=codes) hq (by omega) (fun x hx=>by have:=h3 x hx;omega) (ql2 hd4 h3) (by rw[←zu,h,jn])
  rw[h2] at this
  rw[kg,if_neg (by omega),if_neg (by omega),if_pos rfl,hg]
  simp only
  rw[this,qd,qaz]
theorem openC_good{bs:List UInt8}{k k2:Nat}{c:Chk}(hk:k≤bs.length)(h:qax bs k 0=(c,k2,0)) :
  ChkOk c∧∃K,1≤K∧K≤64∧bs.drop k=qgb K c++bs.drop k2∧k2=k+(qgb K c).length∧k2≤bs.length:=by
 unfold qax at h
 split at h
 ·
  unfold qjk at h
  by_cases hlt:k<bs.length
  ·
   have hT:=qds hlt
   simp only[hT,List.headD_cons] at h
   by_cases hkd:1≤bs[k].toNat∧bs[k].toNat≤3
   ·
    rw[qht,if_pos hkd] at h
    obtain⟨T,hTT⟩:∃T,qat bs (k+1) 0 4096=T:=⟨_,rfl⟩
    obtain⟨there,q,e⟩:=T
    simp only[hTT] at h
    by_cases he:e=0
    ·
     subst he
     obtain⟨f1,f2,f3,f4⟩:=bread_good (by omega) hTT
     obtain⟨g1,g2,g3,K,g4,g5,g6,g7,g8⟩:=takeC_good f4 hkd (by omega) h
     refine⟨g3,K,g4,g5,?_,?_,g7⟩
     ·
      rw[qgb,g1,g2,ja hlt,f2]
      rw[g1] at g6
      rw[g6]
      simp
     ·
      rw[qgb,g2,qo,qd]
      omega
    ·
     have h2:=qgv bs q bs[k].toNat there he
     rw[h] at h2
     exact absurd (congrArg Prod.snd h2).symm he
   ·
    rw[qht,if_neg hkd,qg6 bs (k+1) 4096 (yp 0)] at h
    simp only at h
    have h2:=qgv bs (k+1) bs[k].toNat [] (yp 0)
    rw[h] at h2
    exact absurd (congrArg Prod.snd h2).symm (yp 0)
  ·
   exfalso
   have hT:z6 bs k 0 0 1=([],k,2):=by
    rw[show(1:Int)=((1:Nat):Int) from rfl]
    exact qa8 bs k 1 (by omega)
   simp only[hT,kindE_bad (show(2:Int)≠0 by decide),qg6 bs k 4096 (show(2:Int)≠0 by decide)] at h
   have h2:=qgv bs k (e:=2) (([]:List UInt8).headD 0).toNat [] (by decide)
   rw[h] at h2
   exact absurd (congrArg Prod.snd h2) (show ¬(0:Int)=2 by decide)
 ·
  rename_i hne
  simp only[Prod.mk.injEq] at h
  exact absurd (congrArg Prod.snd h.2) hne
theorem qih{bs rest:List UInt8}{k K:Nat}{c:Chk}(hk:k≤bs.length)(ho:ChkOk c)(hK:1≤K)(hK2:K≤64)(h:bs.drop k=qgb K c++rest):qax bs k 0=(c,k+(qgb K c).length,0):=by
 have hlt:k<bs.length:=by
  have:=congrArg List.length h
  rw[qv,qgb] at this
  simp at this
  omega
 have hkd:1≤c.kind∧c.kind≤3:=by rcases ho.kinds with h | h | h <;> omega
 have hc:=ja hlt
 rw[h,qgb,z7,List.cons.injEq] at hc
 obtain⟨c1,c2⟩:=hc
 have hn:bs[k].toNat=c.kind:=by rw[←c1];simp;omega
 rw[qm] at c2
 have hb:=qgj c.there 4096 (by omega) c2.symm (by have:=ho.few;omega) (by have:=ho.few;omega)
 have hq:k+1+(xz c.there).length≤bs.length:=by
  have:=congrArg List.length c2
  rw[qv,qd] at this
  omega
 have ht:=takeC_there (rest:=rest) hq ho hK hK2 (by rw[←zu,←c2,jn])
 have hD:qjk bs k 0=(c,k+(qgb K c).length,0):=by
  unfold qjk
  simp only[qds hlt,List.headD_cons,hn,qht,if_pos hkd,hb,ht]
  rw[qgb,qo,qd]
  congr 2
  omega
 rw[qax,hD,if_pos rfl]
end Go.Proofs.YtjfecojdagmacaaGreat
