/-
  Lemmas.
-/
import Derived.Test.YtnjkipnklpkaoaaGreatA07
import Derived.OneCell
namespace Go.Proofs.YtnjkipnklpkaoaaGreat
open Go.RowKit
set_option maxRecDepth 20000
set_option maxHeartbeats 16000000
set_option linter.unusedSimpArgs false
set_option linter.unusedVariables false
def encF(T:List (List UInt8)):Nat→List UInt8→List UInt8
 | 0,_=>[]
 | _+1,[]=>[]
 | f+1,x :: l=>if 0≤(qdv T (x :: l)).1 then UInt8.ofNat (qdv T (x :: l)).1.toNat :: encF T f ((x :: l).drop (qdv T (x :: l)).2) else 255 :: x :: encF T f l
theorem enc_fuel(T:List (List UInt8)):∀(f g:Nat) (l:List UInt8),l.length≤f→l.length≤g→encF T f l=encF T g l
 | 0,0,_,_,_=>rfl
 | 0,g+1,[],_,_=>rfl
 | f+1,0,[],_,_=>rfl
 | f+1,g+1,[],_,_=>rfl
 | f+1,g+1,x :: l,hf,hg=>by
  rw[qt] at hf hg
  unfold encF
  rcases qd0 T (x :: l) with h | ⟨j,s,_,h2,h3,_⟩
  ·
   rw[h,if_neg (by decide),if_neg (by decide),enc_fuel T f g l (by omega) (by omega)]
  ·
   rw[h2,if_pos (by simp),if_pos (by simp),enc_fuel T f g _ (by simp;omega) (by simp;omega)]
def kh(T:List (List UInt8))(l:List UInt8):List UInt8:=encF T l.length l
theorem enc_nil(T:List (List UInt8)):kh T []=[]:=rfl
theorem enc_code{T:List (List UInt8)}{l:List UInt8}{j n:Nat}(h:qdv T l=((j:Int),n))(hn:0<n):kh T l=UInt8.ofNat j :: kh T (l.drop n):=by
 rcases l with _ | ⟨x,l⟩
 ·
  rw[longP_nil] at h
  have:=congrArg Prod.snd h
  simp at this
  omega
 ·
  show encF T (l.length+1) (x :: l)=_
  unfold encF
  rw[h,if_pos (by simp),vf,kh]
  congr 1
  exact enc_fuel T _ _ _ (by simp;omega) (qc _)
theorem enc_esc{T:List (List UInt8)}{x:UInt8}{l:List UInt8}(h:qdv T (x :: l)=(-1,0)):kh T (x :: l)=255 :: x :: kh T l:=by
 show encF T (l.length+1) (x :: l)=_
 unfold encF
 rw[h,if_neg (by decide),kh]
theorem enc_ind{T:List (List UInt8)}{P:List UInt8→Prop}(h0:P [])(h1:∀x l,qdv T (x :: l)=(-1,0)→P l→P (x :: l))(h2:∀(j:Nat) (s l:List UInt8),T[j]? = some s→qdv T (s++l)=((j:Int),s.length)→0<s.length→P l→P (s++l)):∀l,P l:=by
 intro l
 generalize hn:l.length=n
 induction n using Nat.strongRecOn generalizing l with
 | _ n ih =>
  rcases l with _ | ⟨x,l⟩
  ·
   exact h0
  ·
   rw[qt] at hn
   rcases qd0 T (x :: l) with h | ⟨j,s,hj,h3,h4,r,h5⟩
   ·
    exact h1 x l h (ih l.length (by omega) l rfl)
   ·
    rw[←h5] at h3 ⊢
    have hl:s.length+r.length=l.length+1:=by rw[←qd,h5,qt]
    exact h2 j s r hj h3 h4 (ih r.length (by omega) r rfl)
theorem enc_sym{T:List (List UInt8)}{j:Nat}{s l:List UInt8}(h:qdv T (s++l)=((j:Int),s.length))(h0:0<s.length):kh T (s++l)=UInt8.ofNat j :: kh T l:=by
 rw[enc_code h h0,yc]
theorem qm1(T:List (List UInt8))(l:List UInt8):(kh T l).length≤2*l.length:=by
 refine enc_ind (T:=T) (P:=fun l=>(kh T l).length≤2*l.length) (by simp[enc_nil]) (fun x l h ih => ?_) (fun j s l _ h h0 ih => ?_) l
 ·
  simp only[enc_esc h,qt];omega
 ·
  simp only[enc_sym h h0,qt,qd];omega
def qe3(T:List (List UInt8))(most:Int):List UInt8→List UInt8→Nat→List UInt8×Nat×Nat
 | [],o,n=>(o,0,n)
 | x :: l,o,n =>
  if x=255 then
   match l with
   | []=>([],2,n)
   | y :: l'=>if most<((o++[y]).length:Int) then ([],6,n+1) else qe3 T most l' (o++[y]) (n+1)
  else match T[x.toNat]? with
   | none=>([],3,n)
   | some s=>if most<((o++s).length:Int) then ([],6,n+1) else qe3 T most l (o++s) (n+1)
section
variable {T:List (List UInt8)}{most:Int}
theorem dec_nil(o:List UInt8)(n:Nat):qe3 T most [] o n=(o,0,n):=by rw[qe3]
theorem dec_end(o:List UInt8)(n:Nat):qe3 T most [255] o n=([],2,n):=by simp[qe3]
theorem dec_lit(y:UInt8)(l o:List UInt8)(n:Nat):qe3 T most (255 :: y :: l) o n=if most<((o++[y]).length:Int) then ([],6,n+1) else qe3 T most l (o++[y]) (n+1):=by
 rw[qe3.eq_def]
 simp only[if_pos]
theorem dec_wrong{x:UInt8}(l o:List UInt8)(n:Nat)(h:x≠255)(hx:T.length≤x.toNat):qe3 T most (x :: l) o n=([],3,n):=by
 rw[qe3.eq_def]
 simp only[if_neg h,jz hx]
theorem dec_sym{x:UInt8}{s:List UInt8}(l o:List UInt8)(n:Nat)(h:x≠255)(hx:T[x.toNat]? = some s):qe3 T most (x :: l) o n=if most<((o++s).length:Int) then ([],6,n+1) else qe3 T most l (o++s) (n+1):=by
 rw[qe3.eq_def]
 simp only[if_neg h,hx]
end
theorem ofNat_code{T:List (List UInt8)}(hT:T.length≤255){j:Nat}{s:List UInt8}(h:T[j]? = some s):UInt8.ofNat j≠255∧(UInt8.ofNat j).toNat=j:=by
 have hj:j<T.length:=(zw.1 h).1
 have h1:(UInt8.ofNat j).toNat=j:=by simp;omega
 refine⟨fun e => ?_,h1⟩
 rw[e] at h1
 have:(255:UInt8).toNat=255:=rfl
 omega
theorem dec_enc{T:List (List UInt8)}(hT:T.length≤255)(l:List UInt8):∃k,∀(most:Int) (r o:List UInt8) (n:Nat),((o.length+l.length:Nat):Int)≤most→qe3 T most (kh T l++r) o n=qe3 T most r (o++l) (n+k):=by
 refine enc_ind (T:=T) (P:=fun l=>∃k,∀(most:Int) (r o:List UInt8) (n:Nat),((o.length+l.length:Nat):Int)≤most→qe3 T most (kh T l++r) o n=qe3 T most r (o++l) (n+k)) ?_ (fun x l h ih => ?_) (fun j s l hj h h0 ih => ?_) l
 ·
  exact⟨0,fun most r o n _=>by rw[enc_nil,yk,jj,xx]⟩
 ·
  obtain⟨k,hk⟩:=ih
  refine⟨k+1,fun most r o n hm => ?_⟩
  rw[qt] at hm
  rw[enc_esc h,z6,z6,dec_lit,if_neg (by rw[qd,qt,je];omega),hk _ _ _ _ (by rw[qd,qt,je];omega),qv,xy,show n+1+k=n+(k+1) by omega]
 ·
  obtain⟨k,hk⟩:=ih
  refine⟨k+1,fun most r o n hm => ?_⟩
  rw[qd] at hm
  obtain⟨h1,h2⟩:=ofNat_code hT hj
  rw[enc_sym h h0,z6,dec_sym _ _ _ h1 (by rw[h2];exact hj),if_neg (by rw[qd];omega),hk _ _ _ _ (by rw[qd];omega),qv,show n+1+k=n+(k+1) by omega]
def jw(l:List ByteArray)(ds:List Int):List ByteArray:=if l=[] then [] else ds.map fun d=>l.getD (d.natAbs%l.length) ⟨#[]⟩
structure Cnt (P ns:List (List UInt8)) (cs:List Nat):Prop where
 len:ns.length=cs.length
 once:ns.Nodup
 cnt:∀i (h:i<ns.length),cs[i]'(by omega)=P.count ns[i]
 mem:∀x,x∈ns↔x∈P
theorem Cnt.nil:Cnt [] [] []:=⟨rfl,List.nodup_nil,fun i h=>absurd h (jp i),fun _=>Iff.rfl⟩
theorem Cnt.new{P ns:List (List UInt8)}{cs:List Nat}(h:Cnt P ns cs){s:List UInt8}(hs:s∉ns):Cnt (P++[s]) (ns++[s]) (cs++[1]):=by
 have hl:=h.len
 refine⟨by simp[hl],?_,fun j hj => ?_,fun x => ?_⟩
 ·
  rw[List.nodup_append]
  exact⟨h.once,by simp,fun a ha b hb=>by
   rw[zo] at hb
   subst hb
   exact fun e=>hs (e ▸ ha)⟩
 ·
  rw[qa2,List.count_singleton]
  have hs0:P.count s=0:=List.count_eq_zero.2 fun hx=>hs ((h.mem s).2 hx)
  by_cases hjl:j<ns.length
  ·
   rw[qba (by omega),qba hjl,h.cnt j hjl]
   have:s≠ns[j]:=fun e=>hs (e ▸ qj hjl)
   simp[this]
  ·
   have hj2:j=ns.length:=by rw[qd,jd] at hj;omega
   subst hj2
   rw[qce (by omega),qce (by omega)]
   simp[hs0,hl]
 ·
  rw[zt,zt,h.mem]
theorem Cnt.few{P ns:List (List UInt8)}{cs:List Nat}(h:Cnt P ns cs):ns.length≤P.length:=h.once.length_le_of_subset fun x hx=>(h.mem x).1 hx
def qc4(T:List (List UInt8))(l:List UInt8):Nat:=if (qdv T l).2=0 then 1 else (qdv T l).2
def qki(T:List (List UInt8)):Nat→List UInt8→List UInt8→List (List UInt8)
 | 0,_,_=>[]
 | _+1,_,[]=>[]
 | f+1,last,x :: l=>(x :: l).take (qc4 T (x :: l)) :: ((if last≠[]∧last.length+qc4 T (x :: l)≤8 then [last++(x :: l).take (qc4 T (x :: l))] else []) ++
   qki T f ((x :: l).take (qc4 T (x :: l))) ((x :: l).drop (qc4 T (x :: l))))
def qaf(T:List (List UInt8))(last l:List UInt8):List (List UInt8):=qki T l.length last l
def qfl(T:List (List UInt8))(sample:List (List UInt8)):List (List UInt8):=sample.flatMap (qaf T [])
def qnf(P:List (List UInt8))(x:List UInt8):Nat:=P.count x*x.length
def qgt(P:List (List UInt8))(x y:List UInt8):Prop:=qnf P y<qnf P x∨(qnf P x=qnf P y∧yr x y<0)
theorem beats_asym{P:List (List UInt8)}{x y:List UInt8}(h:qgt P x y)(k:qgt P y x):False:=by
 rcases h with h | ⟨h,h2⟩
 ·
  rcases k with k | ⟨k,_⟩ <;> omega
 ·
  rcases k with k | ⟨_,k2⟩
  ·
   omega
  ·
   exact qe4 (uj h2 k2)
structure TopOf (P best:List (List UInt8)):Prop where
 once:best.Nodup
 few:best.length≤255
 of:∀x∈best,x∈P
 top:∀y∈P,y∉best→best.length=255∧∀x∈best,qgt P x y
theorem TopOf.sub{P b c:List (List UInt8)}(h:TopOf P b)(k:TopOf P c):∀x∈b,x∈c:=by
 intro x hx
 by_cases hc:x∈c
 ·
  exact hc
 ·
  exfalso
  obtain⟨h1,h2⟩:=k.top x (h.of x hx) hc
  by_cases hs:∃y∈c,y∉b
  ·
   obtain⟨y,hy,hyb⟩:=hs
   exact beats_asym ((h.top y (k.of y hy) hyb).2 x hx) (h2 y hy)
  ·
   have hsub:∀y∈x :: c,y∈b:=fun y hy=>by
    rcases jc.1 hy with rfl | hy
    ·
     exact hx
    ·
     exact Classical.byContradiction fun hn=>hs ⟨y,hy,hn⟩
   have hnd:(x :: c).Nodup:=List.nodup_cons.2 ⟨hc,k.once⟩
   have:=hnd.length_le_of_subset hsub
   have:=h.few
   rw[qt] at *
   omega
def qfh(P t:List (List UInt8)):Prop:=∃best,TopOf P best∧IsOrder best t
theorem IsOrder.same{l m t:List (List UInt8)}(h:IsOrder l t)(hs:∀x,x∈l↔x∈m):IsOrder m t :=
 ⟨h.rises,h.few,fun x hx=>⟨(hs x).1 (h.of x hx).1,(h.of x hx).2⟩,fun s hs2 ho=>h.all s ((hs s).2 hs2) ho⟩
theorem qfh.one{P t u:List (List UInt8)}(h:qfh P t)(k:qfh P u):t=u:=by
 obtain⟨b,h1,h2⟩:=h
 obtain⟨c,k1,k2⟩:=k
 exact(h2.same fun x=>⟨h1.sub k1 x,k1.sub h1 x⟩).one k2
structure Sel (P ns:List (List UInt8)) (ks:List Nat):Prop where
 once:ks.Nodup
 lt:∀k∈ks,k<ns.length
 top:∀k (hk:k∈ks) j (hj:j<ns.length),j∉ks→qgt P (ns[k]'(lt k hk)) ns[j]
theorem Sel.nil(P ns:List (List UInt8)):Sel P ns []:=⟨List.nodup_nil,fun k h=>(by cases h),fun k h=>(by cases h)⟩
theorem Sel.snoc{P ns:List (List UInt8)}{ks:List Nat}(h:Sel P ns ks){k:Nat}(hk:k<ns.length)(hn:k∉ks)(hb:∀j (hj:j<ns.length),j∉ks→j≠k→qgt P ns[k] ns[j]):Sel P ns (ks++[k]):=by
 refine⟨?_,fun j hj => ?_,fun i hi j hj hnj => ?_⟩
 ·
  rw[List.nodup_append]
  exact⟨h.once,by simp,fun a ha b hb e=>by
   rw[zo] at hb
   subst hb
   exact hn (e ▸ ha)⟩
 ·
  rcases zt.1 hj with hj | hj
  ·
   exact h.lt j hj
  ·
   rw[zo] at hj
   omega
 ·
  have hnj1:j∉ks:=fun e=>hnj (List.mem_append_left _ e)
  have hnj2:j≠k:=fun e=>hnj (qcg _ (by rw[e];exact List.mem_singleton_self _))
  rcases zt.1 hi with hi2 | hi2
  ·
   exact h.top i hi2 j hj hnj1
  ·
   rw[zo] at hi2
   subst hi2
   exact hb j hj hnj1 hnj2
def nz(cs:List Nat):List Value:=iv (cs.map fun(n:Nat)=>(n:Int))
theorem nz_set(cs:List Nat)(i n:Nat):nz (cs.set i n)=(nz cs).set i (.int .i64 (n:Int)):=by simp[nz,iv,List.map_set]
structure Two (w:World) (base:Nat) (u v:Value) (ns:List ByteArray) (cs:List Nat):Prop where
 o1:w.ownsRow base 9 1 u ns.length (sv ns)
 o2:w.ownsRow base 3 1 v cs.length (nz cs)
 ap:∀g,u.ownBlock=some g→v.ownBlock=some g→False
theorem Two.nil(w:World)(base:Nat):Two w base (.slice none 0 0) (.slice none 0 0) [] []:=⟨zh ..,zh ..,fun _ h=>(by cases h)⟩
theorem Two.drewN{w:World}{base:Nat}{u v:Value}{ns:List ByteArray}{cs:List Nat}(h:Two w base u v ns cs)(m:Nat):Two (w.drewN m) base u v ns cs :=
 ⟨ju h.o1 (fun _ _=>rfl),ju h.o2 (fun _ _=>rfl),h.ap⟩
theorem Two.set{w:World}{base:Nat}{u:Value}{g n cap:Nat}{ns:List ByteArray}{cs:List Nat}(h:Two w base u (.slice (some ⟨g,0,none⟩) n cap) ns cs)(hn:n=cs.length)(i x:Nat) :
  Two (w.setCell ⟨g,i,none⟩ (.int .i64 (x:Int))) base u (.slice (some ⟨g,0,none⟩) n cap) ns (cs.set i x):=by
 subst hn
 refine⟨ownsRow_setCell_other h.o1 (fun e=>h.ap g e rfl) _,?_,h.ap⟩
 rw[nz_set,xt]
 exact(h.o2.stored i _).1
structure Spot (w:World) (b1 o1 b2 o2 i:Nat) (t:ByteArray) (z G:Nat):Prop where
 c1:w.cell? ⟨b1,o1+i,none⟩=some (.string t)
 c2:w.cell? ⟨b2,o2+i,none⟩=some (.int .i64 (z:Int))
 lt:t.size≤8
 lz:z≤1000000
 w1:Value.int .i64 (IntKind.i64.wrap ((z:Int)*(t.size:Int)))= .int .i64 (G:Int)
 w2:Value.int .i64 (wrap64 ((z:Int)*(t.size:Int)))= .int .i64 (G:Int)
 lg:G≤8000000
theorem qdu(l:List ByteArray):j7 (qm l)=l:=by
 unfold j7 qm
 rw[ut]
 conv=>rhs;rw[←List.map_id l]
 apply qb7
 intro s _
 exact qoq s
def qa8(S:List (List UInt8)):Nat→List (List UInt8)→Prop
 | 0,t=>t=[]
 | k+1,t=>∃u,qa8 S k u∧qfh (qfl u S) t
theorem qa8.one{S:List (List UInt8)}:∀ {k:Nat} {t u:List (List UInt8)},qa8 S k t→qa8 S k u→t=u
 | 0,_,_,h1,h2=>h1.trans h2.symm
 | _+1,_,_,⟨a,h1,h2⟩,⟨b,k1,k2⟩=>by
  obtain rfl:=qa8.one h1 k1
  exact h2.one k2
theorem qfh.ok{P t:List (List UInt8)}(h:qfh P t):∀x∈t,qhw x=true:=by
 obtain⟨b,_,h2⟩:=h
 exact fun x hx=>(h2.of x hx).2
theorem qfh.few{P t:List (List UInt8)}(h:qfh P t):t.length≤255:=by
 obtain⟨b,_,h2⟩:=h
 exact h2.few
theorem qa8.ok{S:List (List UInt8)}:∀ {k:Nat} {t:List (List UInt8)},qa8 S k t→(∀x∈t,qhw x=true)∧t.length≤255
 | 0,t,h=>by
  obtain rfl:t=[]:=h
  exact⟨fun x hx=>absurd hx ve,qi _⟩
 | k+1,t,⟨u,_,h⟩=>⟨h.ok,h.few⟩
theorem ue(l:List (List UInt8)):qm (j7 l)=l:=by
 unfold qm j7
 rw[ut]
 conv=>rhs;rw[←List.map_id l]
 exact qb7 fun x _=>by simp
def qb8(N:Int):Nat:=if 8≤N then 8 else N.toNat
structure Co where
 kind:Int
 block:Int
 rounds:Int
 draws:List Int
def qa3(o:Co):Prop:=0≤o.kind∧o.kind≤3∧1≤o.block∧o.block≤64∧0≤o.rounds∧o.rounds≤8∧o.draws.length≤4096
instance (o:Co):Decidable (qa3 o):=by unfold qa3;infer_instance
def qm8(v:Vl):Prop:=v.s.size≤4096∧(v.null=true→v.s=⟨#[]⟩)
instance (v:Vl):Decidable (qm8 v):=by unfold qm8;infer_instance
def kj(l:List Vl):Prop:=l.length≤4096∧∀v∈l,qm8 v
instance (l:List Vl):Decidable (kj l):=by unfold kj;infer_instance
def xf(l:List Vl):List Bool:=l.map fun v => !v.null
def qw(l:List Vl):List ByteArray:=(l.filter fun v => !v.null).map (·.s)
theorem uh(l:List Vl):(xf l).length=l.length:=by simp[xf]
theorem qf8(l:List Vl):(qw l).length≤l.length:=by rw[qw,q8];exact List.length_filter_le _ _
theorem qlf{l:List Vl}{k:Nat}(h:k<l.length):qw (l.take (k+1))=qw (l.take k)++(if l[k].null=true then [] else [l[k].s]):=by
 unfold qw
 have h1:(if l[k].null=true then [] else [l[k].s])=(([l[k]]:List Vl).filter (fun v => !v.null)).map (·.s):=by
  cases hn:l[k].null <;> simp[List.filter_cons,hn]
 rw[qg h,List.filter_append,jg,h1]
theorem qgv{l:List Vl}{s:ByteArray}(h:s∈qw l):∃v∈l,v.s=s:=by
 obtain⟨v,hv,rfl⟩:=zn.1 h
 exact⟨v,(List.mem_filter.1 hv).1,rfl⟩
theorem texts_cnt:∀l:List Vl,(qw l).length=cnt (xf l)
 | []=>rfl
 | v :: l=>by
  have ih:=texts_cnt l
  unfold qw xf cnt at *
  cases hn:v.null <;> simp_all[List.filter_cons]
def xw{α:Type}:List Bool→List α→α→List α
 | [],_,_=>[]
 | true :: t,[],d=>d :: xw t [] d
 | true :: t,x :: l,d=>x :: xw t l d
 | false :: t,l,d=>d :: xw t l d
section
variable {α β:Type}
theorem qcb:∀(t:List Bool) (l:List α) (d:α),(xw t l d).length=t.length
 | [],_,_=>rfl
 | true :: t,[],d=>by rw[xw,qt,qt,qcb t]
 | true :: t,x :: l,d=>by rw[xw,qt,qt,qcb t]
 | false :: t,l,d=>by cases l <;> rw[xw,qt,qt,qcb t]
theorem qgx:∀(t:List Bool) (l:List α) (d:α) {i:Nat},t[i]? = some false→(xw t l d)[i]? = some d
 | [],_,_,i,h=>by simp at h
 | true :: t,[],d,0,h=>by simp at h
 | true :: t,x :: l,d,0,h=>by simp at h
 | false :: t,l,d,0,h=>by cases l <;> rfl
 | true :: t,[],d,i+1,h=>by simpa[xw] using qgx t [] d (i:=i) (by simpa using h)
 | true :: t,x :: l,d,i+1,h=>by simpa[xw] using qgx t l d (i:=i) (by simpa using h)
 | false :: t,l,d,i+1,h=>by cases l <;> simpa[xw] using qgx t _ d (i:=i) (by simpa using h)
theorem qh7:∀(t:List Bool) (l:List α) (d:α) {i:Nat},t[i]? = some true→cnt t≤l.length→∃j,cnt (t.take i)=j∧j<l.length∧(xw t l d)[i]? = l[j]?
 | [],_,_,i,h,_=>by simp at h
 | true :: t,[],d,i,h,hc=>by simp[cnt] at hc
 | true :: t,x :: l,d,0,h,hc=>⟨0,rfl,by simp,rfl⟩
 | false :: t,l,d,0,h,hc=>by simp at h
 | true :: t,x :: l,d,i+1,h,hc=>by
  obtain⟨j,h1,h2,h3⟩:=qh7 t l d (i:=i) (by simpa using h) (by simpa[cnt] using hc)
  exact⟨j+1,by simpa[cnt] using h1,by simpa using h2,by simpa[xw] using h3⟩
 | false :: t,l,d,i+1,h,hc=>by
  obtain⟨j,h1,h2,h3⟩:=qh7 t l d (i:=i) (by simpa using h) (by simpa[cnt] using hc)
  refine⟨j,by simpa[cnt] using h1,h2,?_⟩
  cases l <;> simpa[xw] using h3
end
theorem qqz:∀ {l:List Vl},(∀v∈l,qm8 v)→xw (xf l) ((qw l).map (Vl.mk false)) ⟨true,⟨#[]⟩⟩=l
 | [],_=>rfl
 | v :: l,h=>by
  have ih:=qqz (l:=l) fun x hx=>h x (jm _ hx)
  obtain⟨b,s⟩:=v
  cases b with
  | true =>
   have hs:s=⟨#[]⟩:=(h ⟨true,s⟩ jb).2 rfl
   subst hs
   show xw (false :: xf l) ((qw l).map (Vl.mk false)) ⟨true,⟨#[]⟩⟩=_
   cases hl:(qw l).map (Vl.mk false) with
   | nil=>rw[hl] at ih;rw[xw,ih]
   | cons a t=>rw[hl] at ih;rw[xw,ih]
  | false =>
   show xw (true :: xf l) (Vl.mk false s :: (qw l).map (Vl.mk false)) ⟨true,⟨#[]⟩⟩=_
   rw[xw,ih]
def uu(r:List (List UInt8)):List UInt8:=jq (zu (r.map List.length))++r.flatten
noncomputable def qko (S:List (List UInt8)):List (List UInt8):=Classical.epsilon (qb9 S)
theorem dicS_is{S t:List (List UInt8)}(h:qb9 S t):qko S=t:=(Classical.epsilon_spec (p:=qb9 S) ⟨t,h⟩).one h
noncomputable def uc (S:List ByteArray)(o:Co):List (List UInt8):=Classical.epsilon fun t=>qa8 (qm (jw S o.draws)) (qb8 o.rounds) t
def qc2(D S:List (List UInt8)):List Nat:=S.map fun s=>D.idxOf s
noncomputable def yj (S:List ByteArray)(o:Co)(k:Int):List UInt8 :=
 if k=2 then qei (uc S o)++uu ((qm S).map (kh (uc S o)))
 else if k=3 then kn o.block.toNat (qko (qm S))++jq (zu (qc2 (qko (qm S)) (qm S)))
 else uu (qm S)
noncomputable def qmb (S:List ByteArray)(o:Co):Int :=
 if (yj S o 2).length<(yj S o 1).length then (if (yj S o 3).length<(yj S o 2).length then 3 else 2) else (if (yj S o 3).length<(yj S o 1).length then 3 else 1)
noncomputable def yu (S:List ByteArray)(o:Co):Int:=if o.kind=0 then qmb S o else o.kind
theorem qhl(S:List ByteArray){o:Co}(h:qa3 o):yu S o=1∨yu S o=2∨yu S o=3:=by
 obtain⟨h1,h2, -⟩:=h
 unfold yu qmb
 repeat' split
 all_goals omega
noncomputable def qeh (l:List Vl)(o:Co):List UInt8:=UInt8.ofNat (yu (qw l) o).toNat :: (xe (xf l)++yj (qw l) o (yu (qw l) o))
def uw(bs:List UInt8)(k:Nat)(e:Int)(n:Nat)(most:Int):List Nat×Nat×Int :=
 let r:=qa5 bs k e (n:Int)
 let e1:=if r.1.length=n then r.2.2 else y9 r.2.2
 let e2:=if (r.1.all fun x=>decide ((x:Int)≤most))=true then e1 else y9 e1
 (if e2=0 then r.1 else [],r.2.1,e2)
def qee(bs:List UInt8)(ok:List UInt8→Bool):List Nat→Nat→Int→List (List UInt8)×Nat×Int
 | [],k,e=>([],k,e)
 | z :: zs,k,e =>
  let t:=jy bs k e 0 (z:Int)
  let r:=qee bs ok zs t.2.1 (if ok t.1=true then t.2.2 else y9 t.2.2)
  (t.1 :: r.1,r.2)
def qbq(bs:List UInt8)(k:Nat)(e:Int)(n:Nat)(most:Int)(ok:List UInt8→Bool):List (List UInt8)×Nat×Int :=
 qee bs ok (uw bs k e n most).1 (uw bs k e n most).2.1 (uw bs k e n most).2.2
def qfq(T:List (List UInt8))(b:List UInt8):Bool:=decide ((qe3 T 4096 b [] 0).2.1=0)&&decide (kh T (qe3 T 4096 b [] 0).1=b)
structure Chk where
 kind:Nat
 there:List Bool
 raws:List (List UInt8)
 tab:List (List UInt8)
 dic:List (List UInt8)
 codes:List Nat
def Chk.none:Chk:=⟨0,[],[],[],[],[]⟩
def qac(bs:List UInt8)(k:Nat)(e:Int)(kind:Nat)(there:List Bool):Chk×Nat×Int :=
 if kind=1 then (⟨1,there,(qbq bs k e (cnt there) 4096 fun _=>true).1,[],[],[]⟩,(qbq bs k e (cnt there) 4096 fun _=>true).2)
 else if kind=2 then (⟨2,there,(qbq bs (qff bs k e).2.1 (qff bs k e).2.2 (cnt there) 8192 (qfq (qff bs k e).1)).1,(qff bs k e).1,[],[]⟩,(qbq bs (qff bs k e).2.1 (qff bs k e).2.2 (cnt there) 8192 (qfq (qff bs k e).1)).2)
 else if kind=3 then (⟨3,there,[],[],(qcm bs k e).1,(uw bs (qcm bs k e).2.1 (qcm bs k e).2.2 (cnt there) (((qcm bs k e).1.length:Int)-1)).1⟩,(uw bs (qcm bs k e).2.1 (qcm bs k e).2.2 (cnt there) (((qcm bs k e).1.length:Int)-1)).2)
 else (⟨kind,there,[],[],[],[]⟩,k,e)
def qk3(n:Nat)(e:Int):Int:=if 1≤n∧n≤3 then e else y9 e
def qne(bs:List UInt8)(k:Nat)(e:Int):Chk×Nat×Int :=
 qac bs (qcj bs (jy bs k e 0 1).2.1 (qk3 ((jy bs k e 0 1).1.headD 0).toNat (jy bs k e 0 1).2.2) 4096).2.1 (qcj bs (jy bs k e 0 1).2.1 (qk3 ((jy bs k e 0 1).1.headD 0).toNat (jy bs k e 0 1).2.2) 4096).2.2
  ((jy bs k e 0 1).1.headD 0).toNat (qcj bs (jy bs k e 0 1).2.1 (qk3 ((jy bs k e 0 1).1.headD 0).toNat (jy bs k e 0 1).2.2) 4096).1
def qb3(bs:List UInt8)(k:Nat)(e:Int):Chk×Nat×Int:=if (qne bs k e).2.2=0 then qne bs k e else (Chk.none,(qne bs k e).2)
theorem openR_bad(bs:List UInt8)(k:Nat){e:Int}(h:e≠0):qcm bs k e=([],k,e):=by
 unfold qcm
 simp only[qil bs k _ h]
 rw[openK,if_neg (by omega),uz h]
theorem kindE_bad{n:Nat}{e:Int}(h:e≠0):qk3 n e=e:=by
 unfold qk3
 rw[uz h,ite_self]
theorem qmt(bs:List UInt8)(k:Nat){e:Int}(n:Nat)(m:Int)(h:e≠0):uw bs k e n m=([],k,e):=by
 unfold uw
 simp only[qlt bs k (n:Int) h,uz h,ite_self,if_neg h]
theorem qmo(bs:List UInt8)(ok:List UInt8→Bool):∀(zs:List Nat) (k:Nat) {e:Int},e≠0→(qee bs ok zs k e).2=(k,e)
 | [],k,e,_=>rfl
 | z :: zs,k,e,h=>by
  rw[qee]
  simp only[qh4 bs k (z:Int) h,uz h,ite_self]
  exact qmo bs ok zs k h
theorem qp8(bs:List UInt8)(k:Nat){e:Int}(n:Nat)(m:Int)(ok:List UInt8→Bool)(h:e≠0):qbq bs k e n m ok=([],k,e):=by
 rw[qbq,qmt bs k n m h]
 rfl
theorem qjk(bs:List UInt8)(k:Nat){e:Int}(kind:Nat)(there:List Bool)(h:e≠0):(qac bs k e kind there).2=(k,e):=by
 unfold qac
 rw[getK_bad bs k h,openR_bad bs k h]
 simp only[qp8 bs k _ _ _ h,qmt bs k _ _ h]
 repeat' split
 all_goals rfl
theorem qnz{bs:List UInt8}{k k2 n:Nat}{m:Int}{ns:List Nat}(hk:k≤bs.length)(hn:n≤2147483647)(h:uw bs k 0 n m=(ns,k2,0)) :
  ns.length=n∧(∀x∈ns,(x:Int)≤m)∧qpw (zu ns)∧bs.drop k=jq (zu ns)++bs.drop k2∧k2=k+(jq (zu ns)).length∧k2≤bs.length:=by
 unfold uw at h
 obtain⟨R,hR⟩:∃R,qa5 bs k 0 (n:Int)=R:=⟨_,rfl⟩
 obtain⟨xs,q,e⟩:=R
 simp only[hR] at h
 by_cases h1:xs.length=n
 ·
  rw[if_pos h1] at h
  by_cases h2:(xs.all fun x=>decide ((x:Int)≤m))=true
  ·
   rw[if_pos h2] at h
   simp only[Prod.mk.injEq] at h
   obtain⟨e1,rfl,rfl⟩:=h
   rw[if_pos rfl] at e1
   subst e1
   obtain⟨g1,g2,g3,g4,g5⟩:=qjp hk hn hR
   exact⟨h1,fun x hx=>of_decide_eq_true (jt.1 h2 x hx),g2,g3,g4,g5⟩
  ·
   rw[if_neg h2] at h
   simp only[Prod.mk.injEq] at h
   exact absurd h.2.2 (xr _)
 ·
  rw[if_neg h1] at h
  simp only[Prod.mk.injEq] at h
  split at h
  ·
   exact absurd h.2.2 (xr _)
  ·
   exact absurd h.2.2 (xr _)
theorem qre{bs rest:List UInt8}{k:Nat}{m:Int}{ns:List Nat}(hk:k≤bs.length)(hn:ns.length≤2147483647)(hm:∀x∈ns,(x:Int)≤m)(hy:qpw (zu ns))(h:bs.drop k=jq (zu ns)++rest) :
  uw bs k 0 ns.length m=(ns,k+(jq (zu ns)).length,0):=by
 have h1:=qih (zu ns) hy ns.length hk h (by rw[zj];exact qc _) hn
 rw[qqd] at h1
 unfold uw
 have h2:(ns.all fun x=>decide ((x:Int)≤m))=true:=jt.2 fun x hx=>qp (hm x hx)
 simp only[h1,h2,if_true]
theorem rawsF_good{bs:List UInt8}{ok:List UInt8→Bool}:∀ {zs:List Nat} {k k2:Nat} {l:List (List UInt8)},k≤bs.length→qee bs ok zs k 0=(l,k2,0)→
  l.map List.length=zs∧(∀x∈l,ok x=true)∧bs.drop k=l.flatten++bs.drop k2∧k2=k+l.flatten.length∧k2≤bs.length
 | [],k,k2,l,hk,h=>by
  simp only[qee,Prod.mk.injEq,and_true] at h
  obtain⟨rfl,rfl⟩:=h
  exact⟨rfl,fun x hx=>(by cases hx),by simp,by simp,hk⟩
 | z :: zs,k,k2,l,hk,h=>by
  by_cases hf:k+z≤bs.length
  ·
   have hT:=qd8 bs k z hf
   rw[qee] at h
   simp only[hT] at h
   cases ho:ok ((bs.drop k).take z) with
   | false =>
    rw[ho] at h
    simp only[qam,if_false,Prod.mk.injEq] at h
    rw[qmo bs ok zs (k+z) (xr 0)] at h
    exact absurd (congrArg Prod.snd h.2) (xr 0)
   | true =>
    rw[ho,if_pos rfl] at h
    obtain⟨R,hR⟩:∃R,qee bs ok zs (k+z) 0=R:=⟨_,rfl⟩
    obtain⟨r,q,e⟩:=R
    simp only[hR,Prod.mk.injEq] at h
    obtain⟨rfl,rfl,rfl⟩:=h
    obtain⟨h1,h2,h3,h4,h5⟩:=rawsF_good hf hR
    have hl:((bs.drop k).take z).length=z:=by rw[qy,qu];omega
    refine⟨by rw[ym,hl,h1],fun x hx => ?_,?_,?_,h5⟩
    ·
     rcases jc.1 hx with rfl | hx
     ·
      exact ho
     ·
      exact h2 x hx
    ·
     rw[qaa,qv,←h3,←z7,zx]
    ·
     rw[qaa,qd,hl];omega
  ·
   have hT:=qdt bs k z (by omega)
   rw[qee] at h
   simp only[hT,Prod.mk.injEq] at h
   have hne:(if ok []=true then (2:Int) else y9 2)≠0:=by split <;> decide
   rw[qmo bs ok zs k hne] at h
   exact absurd (congrArg Prod.snd h.2) hne
theorem qq6{bs:List UInt8}{ok:List UInt8→Bool}:∀ {l:List (List UInt8)} {k:Nat} {rest:List UInt8},k≤bs.length→(∀x∈l,ok x=true)→bs.drop k=l.flatten++rest→qee bs ok (l.map List.length) k 0=(l,k+l.flatten.length,0)
 | [],k,rest,hk,ho,h=>by simp[qee]
 | x :: l,k,rest,hk,ho,h=>by
  have hb:k+x.length≤bs.length:=by
   have:=congrArg List.length h
   rw[qu,qaa,qd,qd] at this
   omega
  have hx:(bs.drop k).take x.length=x:=by rw[h,qaa,qv,List.take_left]
  have hd:bs.drop (k+x.length)=l.flatten++rest:=by rw[←z7,h,qaa,qv,yc]
  rw[ym,qee]
  simp only[qd8 bs k x.length hb,hx,ho x jb,if_true]
  rw[qq6 hb (fun y hy=>ho y (jm _ hy)) hd,qaa,qd]
  simp
  omega
theorem qju{r:List (List UInt8)}{m:Int}(hm:m≤4294967295)(h:∀x∈r,(x.length:Int)≤m):qpw (zu (r.map List.length)):=fun z hz=>by
 obtain⟨n,hn,rfl⟩:=zn.1 hz
 obtain⟨x,hx,rfl⟩:=zn.1 hn
 have:=h x hx
 omega
theorem qnu{bs:List UInt8}{ok:List UInt8→Bool}{k k2 n:Nat}{m:Int}{l:List (List UInt8)}(hk:k≤bs.length)(hn:n≤2147483647)(h:qbq bs k 0 n m ok=(l,k2,0)) :
  l.length=n∧(∀x∈l,ok x=true∧(x.length:Int)≤m)∧bs.drop k=uu l++bs.drop k2∧k2=k+(uu l).length∧k2≤bs.length:=by
 unfold qbq at h
 obtain⟨R,hR⟩:∃R,uw bs k 0 n m=R:=⟨_,rfl⟩
 obtain⟨ns,q,e⟩:=R
 simp only[hR] at h
 by_cases he:e=0
 ·
  subst he
  obtain⟨h1,h2,h3,h4,h5,h6⟩:=qnz hk hn hR
  obtain⟨g1,g2,g3,g4,g5⟩:=rawsF_good h6 h
  refine⟨by rw[←h1,←g1,q8],fun x hx=>⟨g2 x hx,h2 _ (by rw[←g1];exact xq hx)⟩,?_,?_,g5⟩
  ·
   rw[uu,g1,qv,←g3,←h4]
  ·
   rw[uu,g1,qd];omega
 ·
  have h7:=qmo bs ok ns q he
  rw[h] at h7
  exact absurd (congrArg Prod.snd h7).symm he
theorem qq5{bs rest:List UInt8}{ok:List UInt8→Bool}{k:Nat}{m:Int}{l:List (List UInt8)}(hk:k≤bs.length)(hn:l.length≤2147483647)(hm:m≤4294967295)(ho:∀x∈l,ok x=true∧(x.length:Int)≤m)(h:bs.drop k=uu l++rest) :
  qbq bs k 0 l.length m ok=(l,k+(uu l).length,0):=by
 have h':bs.drop k=jq (zu (l.map List.length))++(l.flatten++rest):=by rw[h,uu,qv]
 have hn1:=qre (m:=m) hk (by rw[q8];exact hn) (fun x hx=>by
  obtain⟨y,hy,rfl⟩:=zn.1 hx
  exact(ho y hy).2) (qju hm fun x hx=>(ho x hx).2) h'
 rw[q8] at hn1
 have hq:k+(jq (zu (l.map List.length))).length≤bs.length:=by
  have:=congrArg List.length h'
  rw[qu,qd] at this
  omega
 rw[qbq,hn1]
 simp only
 rw[qq6 (rest:=rest) hq (fun x hx=>(ho x hx).1) (by rw[←z7,h',yc]),uu,qd]
 simp
 omega
structure ChkOk (c:Chk):Prop where
 few:c.there.length≤4096
 kinds:(c.kind=1∧c.raws.length=cnt c.there∧(∀x∈c.raws,x.length≤4096)∧c.tab=[]∧c.dic=[]∧c.codes=[])∨
  (c.kind=2∧c.raws.length=cnt c.there∧yy c.tab=true∧(∀x∈c.raws,qfq c.tab x=true∧x.length≤8192)∧c.dic=[]∧c.codes=[])∨
  (c.kind=3∧c.raws=[]∧c.tab=[]∧ql5 c.dic=true∧c.codes.length=cnt c.there∧∀x∈c.codes,x<c.dic.length)
def qh1(K:Nat)(c:Chk):List UInt8 :=
 UInt8.ofNat c.kind :: (xe c.there++(if c.kind=1 then uu c.raws else if c.kind=2 then qei c.tab++uu c.raws else kn K c.dic++jq (zu c.codes)))
theorem qm3{D:List (List UInt8)}{ns:List Nat}(hD:D.length≤4096)(h:∀x∈ns,x<D.length):qpw (zu ns):=fun z hz=>by
 obtain⟨n,hn,rfl⟩:=zn.1 hz
 have:=h n hn
 omega
theorem takeC_good{bs:List UInt8}{k k2 kind:Nat}{there:List Bool}{c:Chk}(hk:k≤bs.length)(hkd:1≤kind∧kind≤3)(ht:there.length≤4096)(h:qac bs k 0 kind there=(c,k2,0)) :
  c.kind=kind∧c.there=there∧ChkOk c∧∃K,1≤K∧K≤64∧bs.drop k=(if c.kind=1 then uu c.raws else if c.kind=2 then qei c.tab++uu c.raws else kn K c.dic++jq (zu c.codes))++bs.drop k2∧k2≤bs.length∧
   k2=k+(if c.kind=1 then uu c.raws else if c.kind=2 then qei c.tab++uu c.raws else kn K c.dic++jq (zu c.codes)).length:=by
 have hc:=qjf there
 unfold qac at h
 by_cases h1:kind=1
 ·
  subst h1
  rw[if_pos rfl] at h
  obtain⟨R,hR⟩:∃R,qbq bs k 0 (cnt there) 4096 (fun _=>true)=R:=⟨_,rfl⟩
  obtain⟨l,q,e⟩:=R
  simp only[hR,Prod.mk.injEq] at h
  obtain⟨rfl,rfl,rfl⟩:=h
  obtain⟨g1,g2,g3,g4,g5⟩:=qnu hk (by omega) hR
  exact⟨rfl,rfl,⟨ht,.inl ⟨rfl,g1,fun x hx=>(by have:=(g2 x hx).2;omega),rfl,rfl,rfl⟩⟩,1,by omega,by omega,g3,g5,g4⟩
 ·
  rw[if_neg h1] at h
  by_cases h2:kind=2
  ·
   subst h2
   rw[if_pos rfl] at h
   obtain⟨G,hG⟩:∃G,qff bs k 0=G:=⟨_,rfl⟩
   obtain⟨t,q,e⟩:=G
   simp only[hG] at h
   obtain⟨R,hR⟩:∃R,qbq bs q e (cnt there) 8192 (qfq t)=R:=⟨_,rfl⟩
   obtain⟨l,q2,e2⟩:=R
   simp only[hR,Prod.mk.injEq] at h
   obtain⟨rfl,rfl,rfl⟩:=h
   by_cases he:e=0
   ·
    subst he
    obtain⟨f1,f2,f3,f4⟩:=getK_good hk hG
    obtain⟨g1,g2,g3,g4,g5⟩:=qnu f4 (by omega) hR
    refine⟨rfl,rfl,⟨ht,.inr (.inl ⟨rfl,g1,f1,fun x hx=>⟨(g2 x hx).1,by have:=(g2 x hx).2;omega⟩,rfl,rfl⟩)⟩,1,by omega,by omega,?_,g5,?_⟩
    ·
     show bs.drop k=qei t++uu l++_
     rw[qv,←g3,←f2]
    ·
     show q2=k+(qei t++uu l).length
     rw[qd];omega
   ·
    rw[qp8 bs q _ _ _ he] at hR
    exact absurd (congrArg (fun r=>r.2.2) hR) he
  ·
   rw[if_neg h2] at h
   have h3:kind=3:=by omega
   subst h3
   rw[if_pos rfl] at h
   obtain⟨G,hG⟩:∃G,qcm bs k 0=G:=⟨_,rfl⟩
   obtain⟨D,q,e⟩:=G
   simp only[hG] at h
   obtain⟨R,hR⟩:∃R,uw bs q e (cnt there) ((D.length:Int)-1)=R:=⟨_,rfl⟩
   obtain⟨l,q2,e2⟩:=R
   simp only[hR,Prod.mk.injEq] at h
   obtain⟨rfl,rfl,rfl⟩:=h
   by_cases he:e=0
   ·
    subst he
    obtain⟨K,f1,f2,f3,f4,f5,f6⟩:=openR_good hk hG
    obtain⟨g1,g2,g3,g4,g5,g6⟩:=qnz f6 (by omega) hR
    refine⟨rfl,rfl,⟨ht,.inr (.inr ⟨rfl,rfl,rfl,f3,g1,fun x hx=>(by have:=g2 x hx;show x<D.length;omega)⟩)⟩,K,f1,f2,?_,g6,?_⟩
    ·
     show bs.drop k=kn K D++jq (zu l)++_
     rw[qv,←g4,←f4]
    ·
     show q2=k+(kn K D++jq (zu l)).length
     rw[qd];omega
   ·
    rw[qmt bs q _ _ he] at hR
    exact absurd (congrArg (fun r=>r.2.2) hR) he
theorem takeC_there{bs rest:List UInt8}{k K:Nat}{c:Chk}(hk:k≤bs.length)(ho:ChkOk c)(hK:1≤K)(hK2:K≤64)
  (h:bs.drop k=(if c.kind=1 then uu c.raws else if c.kind=2 then qei c.tab++uu c.raws else kn K c.dic++jq (zu c.codes))++rest) :
  qac bs k 0 c.kind c.there=(c,k+(if c.kind=1 then uu c.raws else if c.kind=2 then qei c.tab++uu c.raws else kn K c.dic++jq (zu c.codes)).length,0):=by
 obtain⟨hf,hc⟩:=ho
 obtain⟨kind,there,raws,tab,dic,codes⟩:=c
 have hct:=qjf there
 simp only at hf hc h ⊢
 rcases hc with ⟨rfl,h1,h2,rfl,rfl,rfl⟩ | ⟨rfl,h1,h2,h3,rfl,rfl⟩ | ⟨rfl,rfl,rfl,h1,h2,h3⟩
 ·
  simp only[if_true] at h ⊢
  have:=qq5 (ok:=fun _=>true) (m:=4096) hk (by omega) (by omega) (fun x hx=>⟨rfl,by have:=h2 x hx;omega⟩) h
  rw[h1] at this
  rw[qac,if_pos rfl,this]
 ·
  simp only[show ¬(2:Nat)=1 by omega,if_false,if_true] at h ⊢
  rw[qv] at h
  have hg:=getK_there hk h2 h
  have hq:k+(qei tab).length≤bs.length:=by
   have:=congrArg List.length h
   rw[qu,qd] at this
   omega
  have:=qq5 (ok:=qfq tab) (m:=8192) (rest:=rest) hq (by omega) (by omega) (fun x hx=>⟨(h3 x hx).1,by have:=(h3 x hx).2;omega⟩) (by rw[←z7,h,yc])
  rw[h1] at this
  rw[qac,if_neg (by omega),if_pos rfl,hg]
  simp only
  rw[this,qd,qa9]
 ·
  simp only[show ¬(3:Nat)=1 by omega,show ¬(3:Nat)=2 by omega,if_false] at h ⊢
  rw[qv] at h
  have hg:=openR_there hk hK hK2 h1 h
  have hq:k+(kn K dic).length≤bs.length:=by
   have:=congrArg List.length h
   rw[qu,qd] at this
   omega
  have hd4:=(qdi.1 h1).1
  have:=qre (m:=(dic.length:Int)-1) (rest:=rest) (ns:=codes) hq (by omega) (fun x hx=>by have:=h3 x hx;omega) (qm3 hd4 h3) (by rw[←z7,h,yc])
  rw[h2] at this
  rw[qac,if_neg (by omega),if_neg (by omega),if_pos rfl,hg]
  simp only
  rw[this,qd,qa9]
theorem openC_good{bs:List UInt8}{k k2:Nat}{c:Chk}(hk:k≤bs.length)(h:qb3 bs k 0=(c,k2,0)) :
  ChkOk c∧∃K,1≤K∧K≤64∧bs.drop k=qh1 K c++bs.drop k2∧k2=k+(qh1 K c).length∧k2≤bs.length:=by
 unfold qb3 at h
 split at h
 ·
  unfold qne at h
  by_cases hlt:k<bs.length
  ·
   have hT:=qes hlt
   simp only[hT,List.headD_cons] at h
   by_cases hkd:1≤bs[k].toNat∧bs[k].toNat≤3
   ·
    rw[qk3,if_pos hkd] at h
    obtain⟨T,hTT⟩:∃T,qcj bs (k+1) 0 4096=T:=⟨_,rfl⟩
    obtain⟨there,q,e⟩:=T
    simp only[hTT] at h
    by_cases he:e=0
    ·
     subst he
     obtain⟨f1,f2,f3,f4⟩:=bread_good (by omega) hTT
     obtain⟨g1,g2,g3,K,g4,g5,g6,g7,g8⟩:=takeC_good f4 hkd (by omega) h
     refine⟨g3,K,g4,g5,?_,?_,g7⟩
     ·
      rw[qh1,g1,g2,zv hlt,f2]
      rw[g1] at g6
      rw[g6]
      simp
     ·
      rw[qh1,g2,qt,qd]
      omega
    ·
     have h2:=qjk bs q bs[k].toNat there he
     rw[h] at h2
     exact absurd (congrArg Prod.snd h2).symm he
   ·
    rw[qk3,if_neg hkd,qj5 bs (k+1) 4096 (xr 0)] at h
    simp only at h
    have h2:=qjk bs (k+1) bs[k].toNat [] (xr 0)
    rw[h] at h2
    exact absurd (congrArg Prod.snd h2).symm (xr 0)
  ·
   exfalso
   have hT:jy bs k 0 0 1=([],k,2):=by
    rw[show(1:Int)=((1:Nat):Int) from rfl]
    exact qdt bs k 1 (by omega)
   simp only[hT,kindE_bad (show(2:Int)≠0 by decide),qj5 bs k 4096 (show(2:Int)≠0 by decide)] at h
   have h2:=qjk bs k (e:=2) (([]:List UInt8).headD 0).toNat [] (by decide)
   rw[h] at h2
   exact absurd (congrArg Prod.snd h2) (show ¬(0:Int)=2 by decide)
 ·
  rename_i hne
  simp only[Prod.mk.injEq] at h
  exact absurd (congrArg Prod.snd h.2) hne
theorem qly{bs rest:List UInt8}{k K:Nat}{c:Chk}(hk:k≤bs.length)(ho:ChkOk c)(hK:1≤K)(hK2:K≤64)(h:bs.drop k=qh1 K c++rest):qb3 bs k 0=(c,k+(qh1 K c).length,0):=by
 have hlt:k<bs.length:=by
  have:=congrArg List.length h
  rw[qu,qh1] at this
  simp at this
  omega
 have hkd:1≤c.kind∧c.kind≤3:=by rcases ho.kinds with h | h | h <;> omega
 have hc:=zv hlt
 rw[h,qh1,z6,List.cons.injEq] at hc
 obtain⟨c1,c2⟩:=hc
 have hn:bs[k].toNat=c.kind:=by rw[←c1];simp;omega
 rw[qv] at c2
 have hb:=qi7 c.there 4096 (by omega) c2.symm (by have:=ho.few;omega) (by have:=ho.few;omega)
 have hq:k+1+(xe c.there).length≤bs.length:=by
  have:=congrArg List.length c2
  rw[qu,qd] at this
  omega
 have ht:=takeC_there (rest:=rest) hq ho hK hK2 (by rw[←z7,←c2,yc])
 have hD:qne bs k 0=(c,k+(qh1 K c).length,0):=by
  unfold qne
  simp only[qes hlt,List.headD_cons,hn,qk3,if_pos hkd,hb,ht]
  rw[qh1,qt,qd]
  congr 2
  omega
 rw[qb3,hD,if_pos rfl]
end Go.Proofs.YtnjkipnklpkaoaaGreat
