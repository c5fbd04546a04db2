/-
  Lemmas.
-/
import Derived.Test.YtnjkipnklpkaoaaGreatA27
import Derived.Test.YtnjkipnklpkaoaaGreatA39
namespace Go.Proofs.YtnjkipnklpkaoaaGreat
open Go.RowKit
set_option maxRecDepth 20000
set_option maxHeartbeats 16000000
set_option linter.unusedSimpArgs false
set_option linter.unusedVariables false
def qk9(b:Nat)(gs:List Nat)(rs:List Bool)(g:Nat):Bool:=if 0<b then rs.getD (ql9 g b) false else decide (g∈gs)
theorem flt_agg{w:World}{lo hi b:Nat}{v:Value}{gs:List Nat}{rs:List Bool}(h:qok w lo hi v b gs rs):∃A c B d,v= .agg #[.int .i64 (b:Int),.slice A gs.length c,.slice B rs.length d]:=by
 obtain⟨A,c,B,d,h,_⟩:=h
 exact⟨A,c,B,d,h⟩
def sgn(x:UInt8):Nat:=if x.toNat=37 then 257 else if x.toNat=95 then 256 else x.toNat
def qav(esc:Int):List UInt8→Option (List Nat)
 | []=>some []
 | [x]=>if (x.toNat:Int)=esc then none else some [sgn x]
 | x :: y :: t=>if (x.toNat:Int)=esc then (qav esc t).map (y.toNat :: ·) else (qav esc (y :: t)).map (sgn x :: ·)
theorem qq9{esc:Int}{x:UInt8}(h:(x.toNat:Int)≠esc):∀t,qav esc (x :: t)=(qav esc t).map (sgn x :: ·)
 | []=>by simp[qav,h]
 | y :: t=>by rw[qav,if_neg h]
theorem parse_esc{esc:Int}{x:UInt8}(h:(x.toNat:Int)=esc)(y:UInt8)(t:List UInt8):qav esc (x :: y :: t)=(qav esc t).map (y.toNat :: ·):=by rw[qav,if_pos h]
theorem parse_last{esc:Int}{x:UInt8}(h:(x.toNat:Int)=esc):qav esc [x]=none:=by rw[qav,if_pos h]
def anyT(f:List UInt8→Bool):List UInt8→Bool
 | []=>f []
 | x :: t=>f (x :: t)||anyT f t
theorem anyT_iff(f:List UInt8→Bool):∀l,anyT f l=true↔∃k,k≤l.length∧f (l.drop k)=true
 | []=>⟨fun h=>⟨0,qc _,h⟩,fun⟨k,_,h⟩=>by simpa[anyT] using h⟩
 | x :: t=>by
  unfold anyT
  rw[Bool.or_eq_true,anyT_iff f t]
  constructor
  ·
   rintro(h | ⟨k,hk,h⟩)
   ·
    exact⟨0,qi _,h⟩
   ·
    exact⟨k+1,by simpa using hk,h⟩
  ·
   rintro⟨k,hk,h⟩
   cases k with
   | zero=>exact Or.inl h
   | succ k=>exact Or.inr ⟨k,by simpa using hk,h⟩
def qhx:List Nat→List UInt8→Bool
 | [],l=>l.isEmpty
 | c :: p,l=>if c=257 then anyT (qhx p) l else match l with
  | []=>false
  | x :: t=>one c x&&qhx p t
theorem mat_nil(l:List UInt8):qhx [] l=l.isEmpty:=rfl
theorem qpc(p:List Nat)(l:List UInt8):qhx (257 :: p) l=true↔∃k,k≤l.length∧qhx p (l.drop k)=true:=by
 have:qhx (257 :: p) l=anyT (qhx p) l:=by unfold qhx;rw[if_pos rfl]
 rw[this]
 exact anyT_iff _ _
theorem qmu{c:Nat}(h:c≠257)(p:List Nat)(x:UInt8)(t:List UInt8):qhx (c :: p) (x :: t)=(one c x&&qhx p t):=by rw[qhx,if_neg h]
theorem qjr{c:Nat}(h:c≠257)(p:List Nat):qhx (c :: p) []=false:=by rw[qhx,if_neg h]
theorem qf2:∀(p q:List Nat) (l:List UInt8),qhx (p++q) l=true↔∃k,k≤l.length∧qhx p (l.take k)=true∧qhx q (l.drop k)=true
 | [],q,l=>by
  constructor
  ·
   intro h
   exact⟨0,qi _,by simp[qhx],h⟩
  ·
   rintro⟨k,hk,h1,h2⟩
   rw[mat_nil,List.isEmpty_iff,List.take_eq_nil_iff] at h1
   rcases h1 with rfl | rfl
   ·
    exact h2
   ·
    simpa using h2
 | c :: p,q,l=>by
  rw[z6]
  by_cases hc:c=257
  ·
   subst hc
   rw[qpc]
   constructor
   ·
    rintro⟨j,hj,h⟩
    obtain⟨k,hk,h1,h2⟩:=(qf2 p q _).1 h
    rw[qu] at hk
    refine⟨j+k,by omega,(qpc _ _).2 ⟨j,by rw[qy];omega,?_⟩,?_⟩
    ·
     rw[List.drop_take,Nat.add_sub_cancel_left]
     exact h1
    ·
     rw[z7] at h2
     exact h2
   ·
    rintro⟨k,hk,h1,h2⟩
    obtain⟨j,hj,h3⟩:=(qpc _ _).1 h1
    rw[qy] at hj
    refine⟨j,by omega,(qf2 p q _).2 ⟨k-j,by rw[qu];omega,?_,?_⟩⟩
    ·
     rw[List.drop_take] at h3
     exact h3
    ·
     rw[z7,show j+(k-j)=k by omega]
     exact h2
  ·
   cases l with
   | nil =>
    rw[qjr hc]
    constructor
    ·
     intro h;cases h
    ·
     rintro⟨k,_,h1,_⟩
     rw[List.take_nil,qjr hc] at h1
     cases h1
   | cons x t =>
    rw[qmu hc,jl]
    constructor
    ·
     rintro⟨h1,h2⟩
     obtain⟨k,hk,h3,h4⟩:=(qf2 p q t).1 h2
     exact⟨k+1,by simpa using hk,by rw[jn,qmu hc,h1,h3];rfl,h4⟩
    ·
     rintro⟨k,hk,h1,h2⟩
     cases k with
     | zero =>
      rw[y8,qjr hc] at h1
      cases h1
     | succ k =>
      rw[jn,qmu hc,jl] at h1
      exact⟨h1.1,(qf2 p q t).2 ⟨k,by simpa using hk,h1.2,h2⟩⟩
theorem qkk(p:List Nat)(l:List UInt8):qhx (p++[257]) l=true↔∃k,k≤l.length∧qhx p (l.take k)=true:=by
 rw[qf2]
 constructor
 ·
  rintro⟨k,hk,h1,_⟩
  exact⟨k,hk,h1⟩
 ·
  rintro⟨k,hk,h1⟩
  refine⟨k,hk,h1,(qpc _ _).2 ⟨(l.drop k).length,qc _,?_⟩⟩
  rw[qat,mat_nil]
  rfl
theorem qpa(p:List Nat)(l:List UInt8):qhx (p++[257]) (l.take 0)=qhx p (l.take 0):=by
 rw[j5,qkk]
 simp
theorem qpb(p:List Nat){l:List UInt8}{k:Nat}(h:k<l.length):qhx (p++[257]) (l.take (k+1))=(qhx p (l.take (k+1))||qhx (p++[257]) (l.take k)):=by
 rw[j5,Bool.or_eq_true,qkk,qkk]
 simp only[qy,List.take_take]
 constructor
 ·
  rintro⟨j,hj,hm⟩
  rcases xc k j with h1 | h1
  ·
   have:j=k+1:=by omega
   subst this
   rw[Nat.min_self] at hm
   exact Or.inl hm
  ·
   refine Or.inr ⟨j,by omega,?_⟩
   rw[yx (by omega)] at hm ⊢
   exact hm
 ·
  rintro(hm | ⟨j,hj,hm⟩)
  ·
   exact⟨k+1,by omega,by rw[Nat.min_self];exact hm⟩
  ·
   refine⟨j,by omega,?_⟩
   rw[yx (by omega)] at hm ⊢
   exact hm
theorem qn1{c:Nat}(hc:c≠257)(l:List UInt8):qhx [c] l=true↔∃x,l=[x]∧one c x=true:=by
 cases l with
 | nil =>
  rw[qjr hc]
  constructor
  ·
   intro h;cases h
  ·
   rintro⟨x,h,_⟩;cases h
 | cons x t =>
  rw[qmu hc,jl,mat_nil,List.isEmpty_iff]
  constructor
  ·
   rintro⟨h1,rfl⟩
   exact⟨x,rfl,h1⟩
  ·
   rintro⟨y,h,h2⟩
   injection h with h3 h4
   subst h3
   exact⟨h2,h4⟩
theorem qo8{c:Nat}(hc:c≠257)(p:List Nat)(l:List UInt8):qhx (p++[c]) (l.take 0)=false:=by
 cases h:qhx (p++[c]) (l.take 0) with
 | false=>rfl
 | true =>
  obtain⟨k,hk,_,h2⟩:=(qf2 p [c] _).1 h
  obtain⟨x,hx,_⟩:=(qn1 hc _).1 h2
  simp at hx
theorem qo9{c:Nat}(hc:c≠257)(p:List Nat){l:List UInt8}{k:Nat}(h:k<l.length):qhx (p++[c]) (l.take (k+1))=(qhx p (l.take k)&&one c l[k]):=by
 rw[j5,jl,qf2]
 constructor
 ·
  rintro⟨j,hj,h1,h2⟩
  obtain⟨x,hx,ho⟩:=(qn1 hc _).1 h2
  have hl:=congrArg List.length hx
  rw[qu,qy,qt,je] at hl
  have hjk:j=k:=by omega
  subst hjk
  rw[List.take_take,yx (by omega)] at h1
  refine⟨h1,?_⟩
  have hd:(l.take (j+1)).drop j=[l[j]]:=by
   rw[qg h,List.drop_append_of_le_length (by rw[qy];omega),vj (by rw[qy];omega)]
   rfl
  rw[hd] at hx
  injection hx with hx
  rw[hx]
  exact ho
 ·
  rintro⟨h1,h2⟩
  refine⟨k,by rw[qy];omega,?_,(qn1 hc _).2 ⟨l[k],?_,h2⟩⟩
  ·
   rw[List.take_take,yx (by omega)]
   exact h1
  ·
   rw[qg h,List.drop_append_of_le_length (by rw[qy];omega),vj (by rw[qy];omega)]
   rfl
def qk8:List (List UInt8)→List UInt8→Bool
 | [],_=>true
 | w :: ws,l=>if Lib.index l w<0 then false else qk8 ws (l.drop ((Lib.index l w).toNat+w.length))
theorem qng(f:Nat→Bool):∀n,(∀j,j<n→f j=false)∨∃i,i<n∧f i=true∧∀j,j<i→f j=false
 | 0=>Or.inl fun j h=>absurd h (by omega)
 | n+1=>by
  rcases qng f n with h | ⟨i,hi,h1,h2⟩
  ·
   cases hn:f n with
   | true=>exact Or.inr ⟨n,by omega,hn,h⟩
   | false =>
    refine Or.inl fun j hj => ?_
    rcases xc j n with h3 | h3
    ·
     exact h j h3
    ·
     have:j=n:=by omega
     rw[this]
     exact hn
  ·
   exact Or.inr ⟨i,by omega,h1,h2⟩
theorem qn6(l w:List UInt8):(Lib.index l w = -1∧∀j,j≤l.length→Lib.occAt l w j=false)∨∃i:Nat,i≤l.length∧Lib.index l w=i∧Lib.occAt l w i=true∧∀j,j<i→Lib.occAt l w j=false:=by
 rcases qng (Lib.occAt l w) (l.length+1) with h | ⟨i,hi,h1,h2⟩
 ·
  exact Or.inl ⟨Lib.index_none fun j hj=>h j (by omega),fun j hj=>h j (by omega)⟩
 ·
  exact Or.inr ⟨i,by omega,Lib.index_first (by omega) h1 h2,h1,h2⟩
theorem occ_drop(l w:List UInt8)(k i:Nat):Lib.occAt (l.drop k) w i=Lib.occAt l w (k+i):=by unfold Lib.occAt;rw[z7]
theorem has_none{w l:List UInt8}{ws:List (List UInt8)}(h:Lib.index l w = -1):qk8 (w :: ws) l=false:=by unfold qk8;rw[if_pos (by omega)]
theorem qpf{w l:List UInt8}{ws:List (List UInt8)}{i:Nat}(h:Lib.index l w=i):qk8 (w :: ws) l=qk8 ws (l.drop (i+w.length)):=by
 show(if Lib.index l w<0 then _ else _)=_
 rw[h,if_neg (by omega)]
 rfl
theorem qrh(w:List UInt8)(ws:List (List UInt8))(l:List UInt8)(k:Nat)(hk:k≤l.length)(ih:∀l k,qk8 ws (l.drop k)=true→qk8 ws l=true)(h:qk8 (w :: ws) (l.drop k)=true):qk8 (w :: ws) l=true:=by
 rcases qn6 (l.drop k) w with ⟨h1,_⟩ | ⟨i,hi,h1,ho,_⟩
 ·
  rw[has_none h1] at h
  cases h
 ·
  rw[qpf h1,z7] at h
  rw[qu] at hi
  rw[occ_drop] at ho
  rcases qn6 l w with ⟨_,h2⟩ | ⟨j,hj,h2,_,hb⟩
  ·
   rw[h2 (k+i) (by omega)] at ho
   cases ho
  ·
   have hji:j≤k+i:=by
    rcases xc (k+i) j with h3 | h3
    ·
     rw[hb _ h3] at ho
     cases ho
    ·
     exact h3
   rw[qpf h2]
   refine ih _ (k+i-j) ?_
   rw[z7,show j+w.length+(k+i-j)=k+(i+w.length) by omega]
   exact h
theorem qph:∀(ws:List (List UInt8)) (l:List UInt8) (k:Nat),qk8 ws (l.drop k)=true→qk8 ws l=true
 | [],_,_,_=>rfl
 | w :: ws,l,k,h=>by
  rcases xc l.length k with hk | hk
  ·
   rw[vj (by omega),←qat (l:=l)] at h
   exact qrh w ws l l.length (qc _) (fun l k=>qph ws l k) h
  ·
   exact qrh w ws l k hk (fun l k=>qph ws l k) h
theorem occ_zero(w l:List UInt8):Lib.occAt (w++l) w 0=true:=by
 unfold Lib.occAt
 rw[jx,qbz]
 exact List.prefix_append _ _
theorem has_head(w l:List UInt8)(ws:List (List UInt8)):qk8 (w :: ws) (w++l)=qk8 ws l:=by
 rw[qpf (i:=0) (Lib.index_first (qi _) (occ_zero w l) (fun j h=>absurd h (by omega))),xa,yc]
def qk7:List UInt8→List Nat→List (List UInt8)
 | acc,[]=>if acc=[] then [] else [acc]
 | acc,c :: p=>if c<256 then qk7 (acc++[UInt8.ofNat c]) p else (if acc=[] then [] else [acc])++qk7 [] p
def qec(p:List Nat):List (List UInt8):=qk7 [] p
theorem has_cut{acc l:List UInt8}{ws:List (List UInt8)}(h:qk8 ws l=true):qk8 ((if acc=[] then [] else [acc])++ws) (acc++l)=true:=by
 by_cases ha:acc=[]
 ·
  subst ha
  simpa using h
 ·
  rw[if_neg ha]
  show qk8 (acc :: ws) (acc++l)=true
  rw[has_head]
  exact h
theorem qpg:∀(p:List Nat) (acc l:List UInt8),qhx p l=true→qk8 (qk7 acc p) (acc++l)=true
 | [],acc,l,h=>by
  have:=has_cut (acc:=acc) (l:=l) (ws:=[]) rfl
  rw[jj] at this
  exact this
 | c :: p,acc,l,h=>by
  unfold qk7
  by_cases hc:c<256
  ·
   rw[if_pos hc]
   cases l with
   | nil =>
    rw[qjr (by omega)] at h
    cases h
   | cons x t =>
    rw[qmu (by omega),jl] at h
    have hx:UInt8.ofNat c=x:=by
     have h1:=h.1
     unfold one at h1
     rw[beq_false_of_ne (by omega),Bool.false_or,beq_iff_eq] at h1
     rw[h1]
     simp
    have:=qpg p (acc++[x]) t h.2
    rw[hx]
    rw[qv] at this
    exact this
  ·
   rw[if_neg hc]
   refine has_cut ?_
   by_cases h7:c=257
   ·
    subst h7
    obtain⟨k,_,hk⟩:=(qpc _ _).1 h
    exact qph _ _ k (qpg p [] _ hk)
   ·
    cases l with
    | nil =>
     rw[qjr h7] at h
     cases h
    | cons x t =>
     rw[qmu h7,jl] at h
     exact qph _ _ 1 (qpg p [] t h.2)
theorem setB_get(b:Nat)(hb:0<b)(ts:List Nat)(k:Nat)(hk:k<b):(qdx b ts).getD k false=true↔∃g∈ts,ql9 g b=k:=by
 have key:∀(ts:List Nat) (r:List Bool),r.length=b→((ts.foldl (fun r g=>r.set (ql9 g b) true) r).getD k false=true↔r.getD k false=true∨∃g∈ts,ql9 g b=k):=by
  intro ts
  induction ts with
  | nil=>intro r _;simp
  | cons g ts ih =>
   intro r hr
   rw[List.foldl_cons,ih _ (by simpa using hr)]
   have e:(r.set (ql9 g b) true).getD k false=true↔r.getD k false=true∨ql9 g b=k:=by
    by_cases hg:ql9 g b=k
    ·
     subst hg
     simp[List.getD,List.getElem?_set,hr,hk]
    ·
     simp[List.getD,List.getElem?_set,hg]
   rw[e]
   constructor
   ·
    rintro((h | h) | ⟨x,hx,h⟩)
    ·
     exact .inl h
    ·
     exact .inr ⟨g,jb,h⟩
    ·
     exact .inr ⟨x,jm _ hx,h⟩
   ·
    rintro(h | ⟨x,hx,h⟩)
    ·
     exact .inl (.inl h)
    ·
     rcases jc.1 hx with rfl | hx
     ·
      exact .inl (.inr h)
     ·
      exact .inr ⟨x,hx,h⟩
 have h:=key ts (List.replicate b false) (by simp)
 rw[qdx,h]
 constructor
 ·
  rintro(h | h)
  ·
   simp[List.getD,List.getElem?_replicate,hk] at h
  ·
   exact h
 ·
  exact .inr
theorem bitG_lt(g:Nat){b:Nat}(hb:0<b):ql9 g b<b:=qak _ hb
theorem has_set{b:Nat}(hb:0<b){t:List Nat}{g:Nat}(hg:g∈t):qk9 b [] (qdx b t) g=true:=by
 unfold qk9
 rw[if_pos hb,setB_get b hb t _ (bitG_lt g hb)]
 exact⟨g,hg,rfl⟩
theorem has_list(t:List Nat)(rs:List Bool)(g:Nat):qk9 0 t rs g=decide (g∈t):=by
 unfold qk9
 rw[if_neg (qaq 0)]
theorem grams_infix{x s:List UInt8}(h:List.IsInfix x s){g:Nat}(hg:g∈qad x):g∈qad s:=by
 obtain⟨a,b,rfl⟩:=h
 obtain⟨k,hk,rfl⟩:=qn0.1 hg
 refine qn0.2 ⟨a.length+k,by simp;omega,?_⟩
 have e:∀j,j<x.length→∀h,(a++x++b)[a.length+j]'h=x[j]!:=fun j hj h=>by
  rw[qba (by simp;omega),qce (by omega)]
  simp[hj]
 have e0:=e k (by omega) (by simp;omega)
 have e1:=e (k+1) (by omega) (by simp;omega)
 have e2:=e (k+2) (by omega) (by simp;omega)
 have f0:x[k]! = x[k]:=by simp[show k<x.length by omega]
 have f1:x[k+1]! = x[k+1]:=by simp[show k+1<x.length by omega]
 have f2:x[k+2]! = x[k+2]:=by simp[show k+2<x.length by omega]
 rw[e0,f0]
 rw[show(a++x++b)[a.length+k+1]'(by simp;omega)=x[k+1] from e1.trans f1,show(a++x++b)[a.length+k+2]'(by simp;omega)=x[k+2] from e2.trans f2]
theorem mem_allL{l:List (List UInt8)}{g:Nat}:g∈qb6 l↔∃s∈l,g∈qad s:=List.mem_flatMap
theorem Pr.kid_lt{p q:Pr}(h:q∈p.kids):SizeOf.sizeOf q<SizeOf.sizeOf p:=by
 cases p with
 | mk k c s e o l =>
  have:=List.sizeOf_lt_of_mem (show q∈l from h)
  simp only[Pr.mk.sizeOf_spec]
  omega
theorem Pr.ind{Q:Pr→Prop}(h:∀p,(∀q∈p.kids,Q q)→Q p):∀p,Q p:=by
 intro p
 generalize hn:SizeOf.sizeOf p=n
 induction n using Nat.strongRecOn generalizing p with
 | _ n ih=>exact h p fun q hq=>ih (SizeOf.sizeOf q) (hn ▸ Pr.kid_lt hq) q rfl
theorem Kin.six{w:World}{lo hi:Nat}{l:List Pr}{A:Option Addr}{c:Nat}(h:Kin w lo hi l A c){j:Nat}(hj:j<l.length) :
  ∃b off kA kc,A=some ⟨b,off,none⟩∧lo≤b∧b<hi∧w.cell? ⟨b,off+j*6,none⟩=some (.int .i64 l[j].kind)∧w.cell? ⟨b,off+j*6+1,none⟩=some (.int .i64 l[j].col)∧w.cell? ⟨b,off+j*6+2,none⟩=some (.string l[j].s)∧
   w.cell? ⟨b,off+j*6+3,none⟩=some (.int .i64 l[j].esc)∧w.cell? ⟨b,off+j*6+4,none⟩=some (.int .i64 l[j].coll)∧w.cell? ⟨b,off+j*6+5,none⟩=some (.slice kA l[j].kids.length kc)∧PrOk l[j]∧Kin w lo hi l[j].kids kA kc:=by
 obtain⟨b,off,kA,kc,h1,h2,h3,h4,h5,h6⟩:=h.get hj
 exact⟨b,off,kA,kc,h1,h2,h3,h4 0 (by omega),h4 1 (by omega),h4 2 (by omega),h4 3 (by omega),h4 4 (by omega),h4 5 (by omega),h5,h6⟩
theorem qov(g:GrpS):(qiw g).length=g.rows:=by simp[qiw]
theorem qou(gs:List GrpS):(qeu gs).length=qas gs:=by
 induction gs with
 | nil=>rfl
 | cons g gs ih=>simp[qeu,qas,qov] at ih ⊢;omega
section
set_option maxRecDepth 100000
def gbren:Go.Shelf.Ren:=⟨fun | 25=>183 | 31=>205 | 32=>206 | 37=>227 | n=>n,fun | 0=>0 | 3=>3 | 4=>4 | 22=>64 | 40=>124 | n=>n,fun n=>n⟩
theorem gblays:Go.Proofs.Lays2.n25 Tryz.prog gbren:={
 mixed:=by kernel_rfl
 f25:=Tryz.func183.trans (congrArg some (by kernel_rfl))
 f31:=Tryz.func205.trans (congrArg some (by kernel_rfl))
 f32:=Tryz.func206.trans (congrArg some (by kernel_rfl))
 f37:=Tryz.func227.trans (congrArg some (by kernel_rfl))
 t0:=Tryz.underlying0
 a0:=Tryz.isAgg0
 z0:=Tryz.sizeOf0
 v0:=Tryz.zeroValue0
 t3:=Tryz.underlying3
 a3:=Tryz.isAgg3
 z3:=Tryz.sizeOf3
 v3:=Tryz.zeroValue3
 t4:=Tryz.underlying4
 a4:=Tryz.isAgg4
 z4:=Tryz.sizeOf4
 v4:=Tryz.zeroValue4
 t22:=Tryz.underlying64
 a22:=Tryz.isAgg64
 z22:=Tryz.sizeOf64
 v22:=Tryz.zeroValue64
 t40:=Tryz.underlying124
 a40:=Tryz.isAgg124
 z40:=Tryz.sizeOf124
 v40:=Tryz.zeroValue124
 }
theorem bsi_any{w:World}{lo hi c:Nat}{A:Option Addr}(gs:List Nat)(h:Rd w lo hi A c (iv (zu gs)))(hup:gs.Pairwise (· < ·))(hn:gs.length≤100000000)(g:Nat) :
  Calls Tryz.prog 183 #[.slice A gs.length c,.int .i64 (g:Int)] w fun r w'=>∃k:Nat,r= .returned (.tuple #[.int .i64 (k:Int),.bool (decide (g∈gs))])∧∃m,w'=w.drewN m:=by
 by_cases h0:gs=[]
 ·
  subst h0
  refine(Any.slices_BinarySearch_int_empty gblays A c _ w).mono ?_
  rintro r w' ⟨rfl,rfl⟩
  exact⟨0,by simp,0,rfl⟩
 ·
  have hl:=h.len
  have hm:=h.cap
  rw[ji,zj] at hl
  unfold maxLen at hm
  have hp:0<gs.length:=qda.2 h0
  obtain⟨b,off,rfl,_,_,hc⟩:=h.at_ (by rw[ji,zj];exact hp)
  have hz:(zu gs).length=gs.length:=zj gs
  have ht:(zu gs).take gs.length=zu gs:=qo (by omega)
  refine(Any.slices_BinarySearch_int gblays b off gs.length c (zu gs) (g:Int) w (by omega) (by omega) (fun j hj=>hc j _ (by rw[iv_get _ j hj];simp[List.getD,qe hj])) (by
   rw[ht,zu,List.pairwise_map]
   exact hup.imp fun {a b} hab=>by omega)).mono ?_
  rintro r w' ⟨rfl,q,rfl⟩
  refine⟨(zu gs).countP (· < (g:Int)),?_,q,rfl⟩
  rw[ht]
  congr 5
  refine congrArg Value.bool ?_
  rw[j5,decide_eq_true_iff,List.contains_iff_mem,zu,zn]
  constructor
  ·
   rintro⟨x,hx,e⟩
   have:x=g:=by omega
   exact this ▸ hx
  ·
   exact fun hx=>⟨g,hx,rfl⟩
end
def qhs(p:Pr)(most:Int):Int:=p.kids.attach.foldl (fun n q=>if n≤most then n+qhs q.1 (most-n) else n) 1
termination_by SizeOf.sizeOf p
decreasing_by exact Pr.kid_lt q.2
def qib(most n:Int)(q:Pr):Int:=if n≤most then n+qhs q (most-n) else n
theorem sizeP_eq(p:Pr)(most:Int):qhs p most=p.kids.foldl (qib most) 1:=by
 rw[qhs]
 have h:=List.foldl_attach (l:=p.kids) (f:=qib most) (b:=1)
 rw[←h]
 rfl
theorem sizeS_le{most:Int}:∀(l:List Pr) (n:Int),1≤n→n≤most+1→(∀q∈l,∀m:Int,1≤qhs q m∧(0≤m→qhs q m≤m+1))→1≤l.foldl (qib most) n∧l.foldl (qib most) n≤most+1
 | [],n,h1,h2,_=>⟨h1,h2⟩
 | q :: l,n,h1,h2,h=>by
  rw[List.foldl_cons]
  have hq:=h q jb
  unfold qib
  by_cases hn:n≤most
  ·
   rw[if_pos hn]
   have h3:=hq (most-n)
   have h4:=h3.2 (by omega)
   exact sizeS_le l _ (by omega) (by omega) fun q' h'=>h q' (jm _ h')
  ·
   rw[if_neg hn]
   exact sizeS_le l n h1 h2 fun q' h'=>h q' (jm _ h')
theorem qnn{most:Int}:∀(l:List Pr) (n:Int),¬n≤most→l.foldl (qib most) n=n
 | [],n,_=>rfl
 | q :: l,n,h=>by
  rw[List.foldl_cons,qib,if_neg h]
  exact qnn l n h
theorem sizeP_bound:∀p:Pr,∀m:Int,1≤qhs p m∧(0≤m→qhs p m≤m+1):=Pr.ind fun p ih m=>by
 rw[sizeP_eq]
 by_cases hm:0≤m
 ·
  have:=sizeS_le (most:=m) p.kids 1 (by omega) (by omega) ih
  exact⟨this.1,fun _=>this.2⟩
 ·
  rw[qnn p.kids 1 (by omega)]
  exact⟨by omega,fun h=>absurd h hm⟩
theorem sizeP_take{p:Pr}{most:Int}{k:Nat}(hk:k<p.kids.length):(p.kids.take (k+1)).foldl (qib most) 1=qib most ((p.kids.take k).foldl (qib most) 1) p.kids[k]:=by
 rw[qg hk,List.foldl_append]
 rfl
theorem sizeP_stop{p:Pr}{most:Int}{k:Nat}(h:¬(p.kids.take k).foldl (qib most) 1≤most):qhs p most=(p.kids.take k).foldl (qib most) 1:=by
 rw[sizeP_eq]
 conv=>lhs;rw[←zx k p.kids]
 rw[List.foldl_append,qnn _ _ h]
def qho(p:Pr)(deep:Int):Bool := !decide (deep<0) && !decide (300<p.s.size) && !decide (20<p.kids.length) && !decide (80<qhs p 100)&&p.kids.attach.all (fun q=>qho q.1 (deep-1))
termination_by SizeOf.sizeOf p
decreasing_by exact Pr.kid_lt q.2
theorem smallP_eq(p:Pr)(deep:Int):qho p deep=(!decide (deep<0) && !decide (300<p.s.size) && !decide (20<p.kids.length) && !decide (80<qhs p 100)&&p.kids.all (fun q=>qho q (deep-1))):=by
 rw[qho]
 congr 1
 rw[j5,jt,jt]
 exact⟨fun h q hq=>h ⟨q,hq⟩ (List.mem_attach _ _),fun h q _=>h q.1 q.2⟩
section
set_option maxRecDepth 100000
open Go.RowKit Go.ChangeShapes Go.WideShapes Go.ChangeAt
variable {H:Type}{enc:TypeId×Value→H}{W:World}
theorem prd_fuel:∀(fuel:Nat) (cs:List Value) (x:DataW H×List MemPlace),DataW.trod enc Tryz.prog W 0 (fun _=>true) true fuel 55 cs=some x→
  ∃p A c,cs=prVals p A c∧PrOk p∧Kin W 0 W.heap.size p.kids A c:=by
 intro fuel
 induction fuel using Nat.strongRecOn with
 | _ fuel ih =>
  intro cs x h
  obtain⟨xs,n,rfl,rfl,hl,hlen,hf⟩:=DataW.trod_struct Tryz.underlying55 h
  have hl6:cs.length=6:=hl.trans (by kernel_rfl)
  have hx6:xs.length=6:=hlen
  have c1:Tryz.prog.cellsOf 3=1:=by kernel_rfl
  have c2:Tryz.prog.cellsOf 9=1:=by kernel_rfl
  have c3:Tryz.prog.cellsOf 53=1:=by kernel_rfl
  have c6:Tryz.prog.cellsOf 55=6:=by kernel_rfl
  match cs,hl6 with
  | [a0,a1,a2,a3,a4,a5],_ =>
   have h0:=hf 0 _ rfl
   have h1:=hf 1 _ rfl
   have h2:=hf 2 _ rfl
   have h3:=hf 3 _ rfl
   have h4:=hf 4 _ rfl
   have h5:=hf 5 _ rfl
   rw[qe (by omega)] at h0 h1 h2 h3 h4 h5
   obtain⟨z0,e0,_,w0⟩:=DataW.trod_int Tryz.underlying3 h0
   obtain⟨z1,e1,_,w1⟩:=DataW.trod_int Tryz.underlying3 h1
   obtain⟨s2,e2,_,w2⟩:=DataW.trod_string Tryz.underlying9 h2
   obtain⟨z3,e3,_,w3⟩:=DataW.trod_int Tryz.underlying3 h3
   obtain⟨z4,e4,_,w4⟩:=DataW.trod_int Tryz.underlying3 h4
   obtain⟨A,c,css,m,hm,e5,hels,hcs⟩:=open_els Tryz.underlying53 c6 (by omega) h5
   simp[c1,c2,c3] at e0 e1 e2 e3 e4 e5
   subst e0 e1 e2 e3 e4 e5
   have hkids:∀j,j<css.length→∃q:Pr×Option Addr×Nat,css[j]? = some (prVals q.1 q.2.1 q.2.2)∧PrOk q.1∧Kin W 0 W.heap.size q.1.kids q.2.1 q.2.2:=fun j hj=>by
    obtain⟨_,y,hy⟩:=hcs j hj
    obtain⟨p,A',c',he,ho,hk⟩:=ih m (by omega) css[j] y hy
    exact⟨(p,A',c'),by rw[qe hj,he],ho,hk⟩
   obtain⟨qs,hql,hqs⟩:=qg5 hkids
   refine⟨.mk z0 z1 s2 z3 z4 (qs.map (·.1)),A,c,?_,⟨w2,i64_wf w0,i64_wf w1,i64_wf w3,i64_wf w4⟩,?_⟩
   ·
    simp[prVals,Pr.kind,Pr.col,Pr.s,Pr.esc,Pr.coll,Pr.kids,hql]
   ·
    show Kin W 0 W.heap.size (qs.map (·.1)) A c
    refine .mk _ A c (fun j=>(qs[j]?).bind (·.2.1)) (fun j=>((qs[j]?).map (·.2.2)).getD 0) ?_ (fun j hj => ?_) (fun j hj => ?_)
    ·
     rw[q8,hql]
     refine⟨hels.len,hels.cap,fun hp => ?_⟩
     obtain⟨b,off,g1,g2,g3,g4⟩:=hels.lies hp
     refine⟨b,off,g1,g2,g3,fun j hj i hi=>(g4 j hj i hi).trans ?_⟩
     have hjq:j<qs.length:=by omega
     have:=(hqs j hjq).1
     simp[this,qe hjq]
    ·
     rw[q8] at hj
     rw[yz]
     exact(hqs j hj).2.1
    ·
     rw[q8] at hj
     simp only[yz,qe hj,vb,qap,xj]
     exact(hqs j hj).2.2
theorem open_pred{b0:Nat}{v:Value}{d:DataW H}{q:List MemPlace}(hok:Value.okWide Tryz.prog W .any b0 55 v)(h:DataW.Trod enc Tryz.prog W 0 (fun _=>true) true 55 v d q) :
  ∃(A:Option Addr) (p:Pr) (c:Nat),v= .agg #[.int .i64 p.kind,.int .i64 p.col,.string p.s,.int .i64 p.esc,.int .i64 p.coll,.slice A p.kids.length c]∧PrOk p∧Kin W 0 W.heap.size p.kids A c:=by
 obtain⟨cs,rfl,_⟩:=okWide_struct Tryz.underlying55 hok
 obtain⟨fuel,hf⟩:=h
 obtain⟨p,A,c,he,ho,hk⟩:=prd_fuel fuel _ _ hf
 refine⟨A,p,c,?_,ho,hk⟩
 congr 1
 apply Array.toList_inj.1
 simpa[Value.cells,prVals] using he
end
theorem sizep_any:∀(p:Pr) {w:World} {lo hi:Nat} {A:Option Addr} {c:Nat} (most:Int),PrOk p→Kin w lo hi p.kids A c→hi≤w.heap.size→ -1000000≤most→most≤1000000→
  Calls Tryz.prog 55 #[.agg #[.int .i64 p.kind,.int .i64 p.col,.string p.s,.int .i64 p.esc,.int .i64 p.coll,.slice A p.kids.length c],.int .i64 most] w fun r w'=>r= .returned (.int .i64 (qhs p most))∧Below w.heap.size w w' :=
 Pr.ind fun p ih w lo hi A c most ho hk hhi hm1 hm2=>by
  have HIH:=qa ih
  have HK:=qa hk
  obtain⟨hl1,hl2⟩:=hk.len
  clear ih hk ho
  obtain⟨V,hV⟩:∃V,qhs p most=V:=⟨_,rfl⟩
  rw[hV]
  have HV:=qa hV
  clear hV
  obtain⟨w1,hw1⟩:∃w1,w.alloc (.cells #[.int .i64 p.kind,.int .i64 p.col,.string p.s,.int .i64 p.esc,.int .i64 p.coll,.slice A p.kids.length c] 55)=w1:=⟨_,rfl⟩
  have B1:Hid (Below w.heap.size w w1):=by unfold Hid;rw[←hw1];exact(Below.refl _ w).alloc (qc _) _
  have hb:j6 w1 w.heap.size 55 #[.int .i64 p.kind,.int .i64 p.col,.string p.s,.int .i64 p.esc,.int .i64 p.coll,.slice A p.kids.length c]:=by rw[←hw1];exact j6.new w _ _
  have hs1:w1.heap.size=w.heap.size+1:=by rw[←hw1];simp
  have HC5:Hid (∀W,Below w1.heap.size w1 W→W.cell? ⟨w.heap.size,5,none⟩=some (.slice A p.kids.length c)):=fun W hW=>(hb.below hW (by omega)).cell 5
  have HK1:=qa (HK.out.kept B1.out hhi)
  clear hb HK
  go_enter Tryz.func55,Tryz.ntmps55
  go_wp2_with fail
  go_loopw [5,6] (fun x5 x6 wr=>∃(k:Nat) (n:Int),k≤p.kids.length∧x6= .int .i64 (k:Int)∧x5= .int .i64 n∧(p.kids.take k).foldl (qib most) 1=n∧1≤n∧(n=1∨n≤most+1)∧Below w1.heap.size w1 wr) (fun _ x6 _=>p.kids.length-(intOf x6).toNat)
  case atStart=>exact⟨0,1,qi _,rfl,rfl,by simp,Int.le_refl _,.inl rfl,Below.refl _ _⟩
  case round =>
   obtain⟨k,n,hk,rfl,rfl,hf,hn1,hn2,hb⟩:=hrel
   have HF:=qa hf
   have HB:=qa hb
   have hsz:=hb.size
   have hc5:=HC5.out wr hb
   clear hf hb
   by_cases hlt:k<p.kids.length
   ·
    have ik:(k:Int)<(p.kids.length:Int):=by omega
    by_cases hnm:n≤most
    ·
     obtain⟨b,off,kA,kc,rfl,hlo,hbh,c0,c1,c2,c3,c4,c5,hok,hkk⟩:=(HK1.out.kept HB.out (by omega)).six hlt
     have HQ:=qa (HIH.out p.kids[k] (qj hlt) (w:=wr) (most-n) hok hkk (by omega) (by omega) (by omega))
     have HT:=qa (sizeP_take (most:=most) hlt)
     have hqb:=sizeP_bound p.kids[k] (most-n)
     have hqb2:=hqb.2 (by omega)
     have hqb1:=hqb.1
     generalize p.kids[k]=q at *
     obtain⟨z,hz⟩:∃z,qhs q (most-n)=z:=⟨_,rfl⟩
     rw[hz] at HQ hqb1 hqb2
     have HZ:=qa hz
     have HNF:Hid ((p.kids.take (k+1)).foldl (qib most) 1=n+z):=by
      unfold Hid
      rw[HT.out,HF.out,qib,if_pos hnm,HZ.out]
     clear hqb hz hok hkk
     go_wp2_with fail
     refine HQ.out.mono ?_
     rintro r w2 ⟨rfl,b2⟩
     have HB2:=qa (yd HB.out b2 hsz)
     clear b2
     go_wp2_with fail
     go_roundw
     case rel=>exact⟨k+1,n+z,by omega,by go_num,by first | rfl | go_num,HNF.out,by omega,.inr (by omega),HB2.out⟩
     case measure=>simp[intOf] <;> omega
    ·
     have HVV:Hid (V=n):=by
      unfold Hid
      rw[←HV.out,←HF.out]
      exact sizeP_stop (by rw[HF.out];exact hnm)
     go_wp2_with fail
     go_ret
     exact⟨by rw[HVV.out];rfl,yd B1.out HB.out (by omega)⟩
   ·
    have ik:¬(k:Int)<(p.kids.length:Int):=by omega
    have HVV:Hid (V=n):=by
     unfold Hid
     rw[←HV.out,←HF.out,sizeP_eq,qo (by omega)]
    go_wp2_with fail
    go_ret
    exact⟨by rw[HVV.out];rfl,yd B1.out HB.out (by omega)⟩
theorem smallp_any:∀(p:Pr) {w:World} {lo hi:Nat} {A:Option Addr} {c:Nat} (deep:Int),PrOk p→Kin w lo hi p.kids A c→hi≤w.heap.size→ -1≤deep→deep≤1000000→
  Calls Tryz.prog 22 #[.agg #[.int .i64 p.kind,.int .i64 p.col,.string p.s,.int .i64 p.esc,.int .i64 p.coll,.slice A p.kids.length c],.int .i64 deep] w fun r w'=>r= .returned (.bool (qho p deep))∧Below w.heap.size w w' :=
 Pr.ind fun p ih w lo hi A c deep ho hk hhi hd1 hd2=>by
  have HIH:=qa ih
  have HK:=qa hk
  have HO:=qa ho
  have hs63:=ho.s
  obtain⟨hl1,hl2⟩:=hk.len
  clear ih hk ho
  obtain⟨V,hV⟩:∃V,qho p deep=V:=⟨_,rfl⟩
  rw[hV]
  have HV:Hid ((!decide (deep<0) && !decide (300<p.s.size) && !decide (20<p.kids.length) && !decide (80<qhs p 100)&&p.kids.all (fun q=>qho q (deep-1)))=V):=by rw[←hV];exact(smallP_eq p deep).symm
  clear hV
  obtain⟨w1,hw1⟩:∃w1,w.alloc (.cells #[.int .i64 p.kind,.int .i64 p.col,.string p.s,.int .i64 p.esc,.int .i64 p.coll,.slice A p.kids.length c] 55)=w1:=⟨_,rfl⟩
  have B1:Hid (Below w.heap.size w w1):=by unfold Hid;rw[←hw1];exact(Below.refl _ w).alloc (qc _) _
  have hb:j6 w1 w.heap.size 55 #[.int .i64 p.kind,.int .i64 p.col,.string p.s,.int .i64 p.esc,.int .i64 p.coll,.slice A p.kids.length c]:=by rw[←hw1];exact j6.new w _ _
  have hs1:w1.heap.size=w.heap.size+1:=by rw[←hw1];simp
  have HC5:Hid (∀W,Below w1.heap.size w1 W→W.cell? ⟨w.heap.size,5,none⟩=some (.slice A p.kids.length c)):=fun W hW=>(hb.below hW (by omega)).cell 5
  have b0:w1.cell? ⟨w.heap.size,0,none⟩=some (.int .i64 p.kind):=hb.cell 0
  have b1:w1.cell? ⟨w.heap.size,1,none⟩=some (.int .i64 p.col):=hb.cell 1
  have b2:w1.cell? ⟨w.heap.size,2,none⟩=some (.string p.s):=hb.cell 2
  have b3:w1.cell? ⟨w.heap.size,3,none⟩=some (.int .i64 p.esc):=hb.cell 3
  have b4:w1.cell? ⟨w.heap.size,4,none⟩=some (.int .i64 p.coll):=hb.cell 4
  have b5:w1.cell? ⟨w.heap.size,5,none⟩=some (.slice A p.kids.length c):=hb.cell 5
  have HK1:=qa (HK.out.kept B1.out hhi)
  clear hb HK
  by_cases hd0:deep<0
  ·
   have HVV:Hid (V=false):=by unfold Hid;rw[←HV.out,qp hd0];rfl
   go_enter Tryz.func22,Tryz.ntmps22
   go_wp2_with fail
   go_ret
   exact⟨zf HVV.out.symm,B1.out⟩
  ·
   have d0:decide (deep<0)=false:=ql hd0
   by_cases hs3:300<p.s.size
   ·
    have i3:(300:Int)<(p.s.size:Int):=by omega
    have HVV:Hid (V=false):=by unfold Hid;rw[←HV.out,qp hs3];simp
    go_enter Tryz.func22,Tryz.ntmps22
    go_wp2_with fail
    go_ret
    exact⟨zf HVV.out.symm,B1.out⟩
   ·
    have i3:¬(300:Int)<(p.s.size:Int):=by omega
    by_cases hk2:20<p.kids.length
    ·
     have i4:(20:Int)<(p.kids.length:Int):=by omega
     have HVV:Hid (V=false):=by unfold Hid;rw[←HV.out,qp hk2];simp
     go_enter Tryz.func22,Tryz.ntmps22
     go_wp2_with fail
     go_ret
     exact⟨zf HVV.out.symm,B1.out⟩
    ·
     have i4:¬(20:Int)<(p.kids.length:Int):=by omega
     have HSZ:=qa (sizep_any p 100 HO.out HK1.out (w:=w1) (by omega) (by omega) (by omega))
     obtain⟨z,hz⟩:∃z,qhs p 100=z:=⟨_,rfl⟩
     rw[hz] at HSZ
     have HZ:=qa hz
     clear hz
     by_cases hz8:80<z
     ·
      have HVV:Hid (V=false):=by unfold Hid;rw[←HV.out,HZ.out,qp hz8];simp
      have i5:decide ((80:Int)<z)=true:=qp hz8
      go_enter Tryz.func22,Tryz.ntmps22
      go_wp2_with fail
      refine HSZ.out.mono ?_
      rintro r w2 ⟨rfl,q2⟩
      go_wp2_with fail
      go_ret
      exact⟨zf HVV.out.symm,yd B1.out q2 (by omega)⟩
     ·
      have i5:decide ((80:Int)<z)=false:=ql hz8
      have HVA:Hid (p.kids.all (fun q=>qho q (deep-1))=V):=by
       unfold Hid
       rw[←HV.out,HZ.out,ql hd0,ql hs3,ql hk2,ql hz8]
       rfl
      go_enter Tryz.func22,Tryz.ntmps22
      go_wp2_with fail
      refine HSZ.out.mono ?_
      rintro r w2 ⟨rfl,q2⟩
      have B2:=qa q2
      have s2:=q2.size
      clear q2 b0 b1 b2 b3 b4 b5
      go_wp2_with fail
      go_loopw [5] (fun x5 wr=>∃k:Nat,k≤p.kids.length∧x5= .int .i64 (k:Int)∧(∀q∈p.kids.take k,qho q (deep-1)=true)∧Below w1.heap.size w1 wr) (fun x5 _=>p.kids.length-(intOf x5).toNat)
      case atStart=>exact⟨0,qi _,rfl,by simp,B2.out⟩
      case round =>
       obtain⟨k,hk,rfl,ha,hb⟩:=hrel
       have HA:=qa ha
       have HB:=qa hb
       have hsz:=hb.size
       have hc5:=HC5.out wr hb
       clear ha hb
       by_cases hlt:k<p.kids.length
       ·
        have ik:(k:Int)<(p.kids.length:Int):=by omega
        obtain⟨b,off,kA,kc,rfl,hlo,hbh,c0,c1,c2,c3,c4,c5,hok,hkk⟩:=(HK1.out.kept HB.out (by omega)).six hlt
        have HQ:=qa (HIH.out p.kids[k] (qj hlt) (w:=wr) (deep-1) hok hkk (by omega) (by omega) (by omega))
        have HT:Hid (p.kids.take (k+1)=p.kids.take k++[p.kids[k]]):=qg hlt
        have HM:Hid (p.kids[k]∈p.kids):=qj hlt
        generalize p.kids[k]=q at *
        obtain⟨f,hf⟩:∃f,qho q (deep-1)=f:=⟨_,rfl⟩
        rw[hf] at HQ
        have HF:=qa hf
        clear hf hok hkk
        cases f with
        | true =>
         have HA2:Hid (∀q∈p.kids.take (k+1),qho q (deep-1)=true):=fun x hx=>by
          rw[HT.out] at hx
          rcases zt.1 hx with hx | hx
          ·
           exact HA.out x hx
          ·
           rw[zo.1 hx];exact HF.out
         go_wp2_with fail
         refine HQ.out.mono ?_
         rintro r w3 ⟨rfl,q3⟩
         have HB3:=qa (yd HB.out q3 hsz)
         clear q3
         go_wp2_with fail
         go_roundw
         case rel=>exact⟨k+1,by omega,by go_num,HA2.out,HB3.out⟩
         case measure=>simp[intOf] <;> omega
        | false =>
         have HVV:Hid (V=false):=by
          unfold Hid
          rw[←HVA.out]
          refine qeo.2 fun h => ?_
          have:=jt.1 h q HM.out
          rw[HF.out] at this
          cases this
         go_wp2_with fail
         refine HQ.out.mono ?_
         rintro r w3 ⟨rfl,q3⟩
         go_wp2_with fail
         go_ret
         exact⟨zf HVV.out.symm,yd B1.out (yd HB.out q3 hsz) (by omega)⟩
       ·
        have ik:¬(k:Int)<(p.kids.length:Int):=by omega
        have HVV:Hid (V=true):=by
         unfold Hid
         rw[←HVA.out]
         refine jt.2 fun x hx=>HA.out x ?_
         rw[qo (by omega)]
         exact hx
        go_wp2_with fail
        go_ret
        exact⟨zf HVV.out.symm,yd B1.out HB.out (by omega)⟩
end Go.Proofs.YtnjkipnklpkaoaaGreat
