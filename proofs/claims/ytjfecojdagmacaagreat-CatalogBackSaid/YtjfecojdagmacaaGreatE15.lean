/-
  Lemmas.
-/
import Derived.Test.YtjfecojdagmacaaGreatE14
import Derived.Great.BuildSlice
import Derived.Maps.AppendAt
namespace Go.Proofs.YtjfecojdagmacaaGreat
open Go.RowKit
set_option maxRecDepth 20000
set_option maxHeartbeats 16000000
set_option linter.unusedSimpArgs false
set_option linter.unusedVariables false
structure ColS where
 b:Nat
 gs:List Nat
 rs:List Bool
 ck:Chk
def qhw(S:List ByteArray)(b:Nat)(gs:List Nat)(rs:List Bool):Prop:=∃t,Rise (qcc (qdh S)) t∧gs=(if b=0 then t else [])∧rs=(if b=0 then [] else qfu b t)
theorem qhw.one{S:List ByteArray}{b:Nat}{gs gs':List Nat}{rs rs':List Bool}(h:qhw S b gs rs)(h':qhw S b gs' rs'):gs=gs'∧rs=rs':=by
 obtain⟨t,h1,h2,h3⟩:=h
 obtain⟨u,h4,h5,h6⟩:=h'
 obtain rfl:=h1.one h4
 exact⟨h2.trans h5.symm,h3.trans h6.symm⟩
structure ColS.Ok (n:Nat) (c:ColS):Prop where
 ck:ChkOk c.ck
 len:c.ck.there.length=n
 fil:FilG c.b c.gs c.rs
 of:qhw (qd4 c.ck) c.b c.gs c.rs
structure ColAt (bs:List UInt8) (k n:Nat) (c:ColS) (k':Nat):Prop where
 ok:c.Ok n
 le:k'≤bs.length
 lies:∃K,1≤K∧K≤64∧bs.drop k=xg c.b c.gs c.rs++(qgb K c.ck++bs.drop k')∧k'=k+((xg c.b c.gs c.rs).length+(qgb K c.ck).length)
theorem writeG_split{b b':Nat}{gs gs':List Nat}{rs rs':List Bool}{r r':List UInt8}(h:FilG b gs rs)(h':FilG b' gs' rs')(e:xg b gs rs++r=xg b' gs' rs'++r'):b=b'∧gs=gs'∧rs=rs'∧r=r':=by
 have hle:=h.le
 have hle':=h'.le
 obtain⟨q,hq⟩:∃q,xg b gs rs=jc b++q:=by
  unfold xg
  split
  ·
   exact⟨_,rfl⟩
  ·
   exact⟨_,by rw[show b=0 by omega]⟩
 obtain⟨q',hq'⟩:∃q,xg b' gs' rs'=jc b'++q:=by
  unfold xg
  split
  ·
   exact⟨_,rfl⟩
  ·
   exact⟨_,by rw[show b'=0 by omega]⟩
 have h1:=vp (bs:=xg b gs rs++r) (k:=0) (n:=b) (m:=65536) (rest:=q++r) (by rw[jv,hq,qm]) (by omega) (by omega)
 have h2:=vp (bs:=xg b gs rs++r) (k:=0) (n:=b') (m:=65536) (rest:=q'++r') (by rw[jv,e,hq',qm]) (by omega) (by omega)
 rw[h1] at h2
 have hbb:b=b':=congrArg Prod.fst h2
 subst hbb
 clear h1 h2 hq hq' q q'
 by_cases hb:0<b
 ·
  have e1:=h.none hb
  have e2:=h'.none hb
  rw[xg,if_pos hb,xg,if_pos hb,qm,qm] at e
  have e3:=xp e
  have h3:=qgj (bs:=xz rs++r) (k:=0) (rest:=r) rs 65536 (qj _) (jv) (by rw[h.rows];omega) (by rw[h.rows];omega)
  have h4:=qgj (bs:=xz rs++r) (k:=0) (rest:=r') rs' 65536 (qj _) (by rw[jv];exact e3) (by rw[h'.rows];omega) (by rw[h'.rows];omega)
  rw[h3] at h4
  have h5:rs=rs':=congrArg Prod.fst h4
  subst h5
  exact⟨rfl,e1.trans e2.symm,rfl,xp e3⟩
 ·
  have hb0:b=0:=by omega
  subst hb0
  have e1:rs=[]:=ze h.rows
  have e2:rs'=[]:=ze h'.rows
  rw[xg,if_neg hb,xg,if_neg hb,qm,qm] at e
  have e3:=xp e
  have m1:=qem h.up h.lt
  have m2:=qem h'.up h'.lt
  have h3:=qf0 (bs:=jr (ya gs)++r) (k:=0) (rest:=r) (ya gs) m1 65536 (qj _) (jv) (by rw[jl];exact h.few) (by omega)
  have h4:=qf0 (bs:=jr (ya gs)++r) (k:=0) (rest:=r') (ya gs') m2 65536 (qj _) (by rw[jv];exact e3) (by rw[jl];exact h'.few) (by omega)
  rw[h3] at h4
  have h5:qcu (ya gs)=qcu (ya gs'):=congrArg Prod.fst h4
  have h6:ya gs=ya gs':=by
   rw[←qi2 (zs:=ya gs) (fun z hz=>(m1 z hz).1),h5,qi2 (zs:=ya gs') (fun z hz=>(m2 z hz).1)]
  have h7:=qjs h6
  subst h7
  exact⟨rfl,rfl,e1.trans e2.symm,xp e3⟩
theorem ColAt.one{bs:List UInt8}{k n k1 k2:Nat}{c c':ColS}(h:ColAt bs k n c k1)(h':ColAt bs k n c' k2):c=c'∧k1=k2:=by
 obtain⟨⟨o1,o2,o3,o4⟩,g1,K,g2,g3,g4,g5⟩:=h
 obtain⟨⟨p1,p2,p3,p4⟩,f1,J,f2,f3,f4,f5⟩:=h'
 obtain⟨e1,e2,e3,e4⟩:=writeG_split o3 p3 (g4.symm.trans f4)
 have h1:=qih (bs:=qgb K c.ck++bs.drop k1) (k:=0) (qj _) o1 g2 g3 jv
 have h2:=qih (bs:=qgb K c.ck++bs.drop k1) (k:=0) (rest:=bs.drop k2) (qj _) p1 f2 f3 (by rw[jv];exact e4)
 rw[h1] at h2
 have e5:c.ck=c'.ck:=congrArg Prod.fst h2
 have e6:0+(qgb K c.ck).length=0+(qgb J c'.ck).length:=congrArg (fun p=>p.2.1) h2
 obtain⟨b,gs,rs,ck⟩:=c
 obtain⟨b',gs',rs',ck'⟩:=c'
 simp only at e1 e2 e3 e5 e6 g5 f5
 subst e1 e2 e3 e5
 exact⟨rfl,by omega⟩
open Classical in
noncomputable def colR (bs:List UInt8)(k n:Nat):Option (ColS×Nat):=if h:∃p:ColS×Nat,ColAt bs k n p.1 p.2 then some h.choose else none
theorem colR_is{bs:List UInt8}{k n k':Nat}{c:ColS}(h:ColAt bs k n c k'):colR bs k n=some (c,k'):=by
 have hx:∃p:ColS×Nat,ColAt bs k n p.1 p.2:=⟨(c,k'),h⟩
 rw[colR,dif_pos hx]
 obtain⟨e1,e2⟩:=hx.choose_spec.one h
 exact congrArg some (Prod.ext e1 e2)
theorem colR_no{bs:List UInt8}{k n:Nat}(h:∀c k',¬ColAt bs k n c k'):colR bs k n=none:=dif_neg fun⟨p,hp⟩=>h p.1 p.2 hp
theorem colR_at{bs:List UInt8}{k n k':Nat}{c:ColS}(h:colR bs k n=some (c,k')):ColAt bs k n c k':=by
 unfold colR at h
 split at h
 ·
  rename_i hx
  have:=hx.choose_spec
  rw[zy h] at this
  exact this
 ·
  cases h
noncomputable def qdj (bs:List UInt8)(n k:Nat):Nat→Option (List ColS×Nat)
 | 0=>some ([],k)
 | j+1=>(qdj bs n k j).bind fun p=>(colR bs p.2 n).map fun q=>(p.1++[q.1],q.2)
structure GrpS where
 rows:Nat
 cols:List ColS
noncomputable def qna (bs:List UInt8)(nc left k:Nat):Option (GrpS×Nat) :=
 if (z8 bs k 0 (left:Int)).1=0 then none else (qdj bs (z8 bs k 0 (left:Int)).1 (z8 bs k 0 (left:Int)).2.1 nc).map fun p=>(⟨(z8 bs k 0 (left:Int)).1,p.1⟩,p.2)
noncomputable def qdi (bs:List UInt8)(nc k:Nat):Nat→Option (List GrpS×Nat×Nat)
 | 0=>some ([],k,4096)
 | i+1=>(qdi bs nc k i).bind fun p=>(qna bs nc p.2.2 p.2.1).map fun q=>(p.1++[q.1],q.2,p.2.2-q.1.rows)
noncomputable def qh6 (bs:List UInt8):Option (Nat×List GrpS) :=
 if (z8 bs 0 0 8).1=0 then none else
  if (z8 bs (z8 bs 0 0 8).2.1 0 4096).2.2≠0 then none else
   (qdi bs (z8 bs 0 0 8).1 (z8 bs (z8 bs 0 0 8).2.1 0 4096).2.1 (z8 bs (z8 bs 0 0 8).2.1 0 4096).1).bind fun p=>if p.2.1<bs.length then none else some ((z8 bs 0 0 8).1,p.1)
theorem qij{bs:List UInt8}{k:Nat}{e m:Int}(h:(z8 bs k e m).2.2≠0):(z8 bs k e m).1=0:=by
 unfold z8 vy at *
 by_cases he:e≠0
 ·
  rw[if_pos he] at h ⊢
 ·
  rw[if_neg he] at h ⊢
  simp only at h ⊢
  split at h <;> simp_all
structure GrpS.Ok (nc:Nat) (g:GrpS):Prop where
 pos:0<g.rows
 len:g.cols.length=nc
 cols:∀c∈g.cols,c.Ok g.rows
theorem colsR_ok{bs:List UInt8}{n k:Nat}:∀ {j k':Nat} {cs:List ColS},qdj bs n k j=some (cs,k')→cs.length=j∧∀c∈cs,c.Ok n
 | 0,k',cs,h=>by
  rw[qdj] at h
  obtain⟨rfl,rfl⟩:=Prod.mk.inj (zy h)
  exact⟨rfl,fun c hc=>by cases hc⟩
 | j+1,k',cs,h=>by
  rw[qdj,Option.bind_eq_some_iff] at h
  obtain⟨⟨ds,k1⟩,h1,h2⟩:=h
  rw[Option.map_eq_some_iff] at h2
  obtain⟨⟨c,k2⟩,h2,h3⟩:=h2
  obtain⟨rfl,rfl⟩:=Prod.mk.inj h3
  obtain⟨h4,h5⟩:=colsR_ok h1
  refine⟨by rw[qd,h4];rfl,fun x hx => ?_⟩
  rcases zn.1 hx with hx | hx
  ·
   exact h5 x hx
  ·
   rw[q8.1 hx]
   exact(colR_at h2).ok
theorem grpR_ok{bs:List UInt8}{nc left k k':Nat}{g:GrpS}(h:qna bs nc left k=some (g,k')):g.Ok nc∧g.rows≤left:=by
 unfold qna at h
 split at h
 ·
  cases h
 ·
  rename_i h0
  rw[Option.map_eq_some_iff] at h
  obtain⟨⟨cs,k1⟩,h1,h2⟩:=h
  obtain⟨rfl,rfl⟩:=Prod.mk.inj h2
  obtain⟨h3,h4⟩:=colsR_ok h1
  have h5:=qbb bs k 0 (left:Int)
  exact⟨⟨by show 0<(z8 bs k 0 (left:Int)).1;omega,h3,h4⟩,by show(z8 bs k 0 (left:Int)).1≤left;omega⟩
def vi(gs:List GrpS):Nat:=(gs.map GrpS.rows).sum
theorem rowsT_snoc(gs:List GrpS)(g:GrpS):vi (gs++[g])=vi gs+g.rows:=by simp[vi]
theorem grpsR_ok{bs:List UInt8}{nc k:Nat}:∀ {i k' left:Nat} {gs:List GrpS},qdi bs nc k i=some (gs,k',left)→gs.length=i∧vi gs+left=4096∧∀g∈gs,g.Ok nc
 | 0,k',left,gs,h=>by
  rw[qdi] at h
  obtain⟨rfl,h2⟩:=Prod.mk.inj (zy h)
  obtain⟨rfl,rfl⟩:=Prod.mk.inj h2
  exact⟨rfl,rfl,fun c hc=>by cases hc⟩
 | i+1,k',left,gs,h=>by
  rw[qdi,Option.bind_eq_some_iff] at h
  obtain⟨⟨ds,k1,l1⟩,h1,h2⟩:=h
  rw[Option.map_eq_some_iff] at h2
  obtain⟨⟨g,k2⟩,h2,h3⟩:=h2
  simp only[Prod.mk.injEq] at h3
  obtain⟨h3a,h3b,h3c⟩:=h3
  subst h3a h3b h3c
  obtain⟨h4,h5,h6⟩:=grpsR_ok h1
  obtain⟨h7,h8⟩:=grpR_ok h2
  simp only at h8
  refine⟨by rw[qd,h4];rfl,by rw[rowsT_snoc];omega,fun x hx => ?_⟩
  rcases zn.1 hx with hx | hx
  ·
   exact h6 x hx
  ·
   rw[q8.1 hx]
   exact h7
structure SegOk (n:Nat) (gs:List GrpS):Prop where
 one:1≤n
 eight:n≤8
 rows:vi gs≤4096
 grp:∀g∈gs,g.Ok n
theorem segR_ok{bs:List UInt8}{n:Nat}{gs:List GrpS}(h:qh6 bs=some (n,gs)):SegOk n gs:=by
 unfold qh6 at h
 split at h
 ·
  cases h
 ·
  split at h
  ·
   cases h
  ·
   rename_i h0 h1
   rw[Option.bind_eq_some_iff] at h
   obtain⟨⟨ds,k1,l1⟩,h1,h2⟩:=h
   split at h2
   ·
    cases h2
   ·
    obtain⟨rfl,rfl⟩:=Prod.mk.inj (zy h2)
    obtain⟨_,h5,h6⟩:=grpsR_ok h1
    have h7:=qbb bs 0 0 8
    have h8:vi ds+l1=4096:=h5
    have h9:vi ds≤4096:=by omega
    exact⟨by omega,by omega,h9,h6⟩
theorem grpsR_more{bs:List UInt8}{nc k:Nat}:∀ {i j:Nat},qdi bs nc k i=none→i≤j→qdi bs nc k j=none:=by
 intro i j h hij
 induction j with
 | zero=>rwa [show i=0 by omega] at h
 | succ j ih =>
  by_cases e:i=j+1
  ·
   rwa [e] at h
  ·
   rw[qdi,ih (by omega)]
   rfl
theorem colsR_more{bs:List UInt8}{n k:Nat}:∀ {i j:Nat},qdj bs n k i=none→i≤j→qdj bs n k j=none:=by
 intro i j h hij
 induction j with
 | zero=>rwa [show i=0 by omega] at h
 | succ j ih =>
  by_cases e:i=j+1
  ·
   rwa [e] at h
  ·
   rw[qdj,ih (by omega)]
   rfl
def qjd(cs:List ColS)(i:Nat):List Vl:=cs.map fun c=>(qaj c.ck).getD i ⟨true,⟨#[]⟩⟩
def rowsG(g:GrpS):List (List Vl):=(List.range g.rows).map (qjd g.cols)
def qd7(gs:List GrpS):List (List Vl):=(gs.map rowsG).flatten
theorem rowsG_length(g:GrpS):(rowsG g).length=g.rows:=by simp[rowsG]
theorem rowsS_snoc(gs:List GrpS)(g:GrpS):qd7 (gs++[g])=qd7 gs++rowsG g:=by simp[qd7]
theorem qhc(gs:List GrpS):(qd7 gs).length=vi gs:=by
 induction gs with
 | nil=>rfl
 | cons g gs ih=>simp[qd7,vi,rowsG_length] at ih ⊢;omega
theorem qe3(cs:List ColS)(i:Nat):(qjd cs i).length=cs.length:=by simp[qjd]
theorem openC_none{bs:List UInt8}{k:Nat}{e:Int}(h:(qax bs k e).2.2≠0):(qax bs k e).1=Chk.none:=by
 unfold qax at h ⊢
 split
 ·
  rename_i h2
  rw[if_pos h2] at h
  exact absurd h2 h
 ·
  rfl
theorem openC_bad{bs:List UInt8}{k:Nat}{e:Int}(h:e≠0):(qax bs k e).1=Chk.none:=by
 refine openC_none ?_
 have hk:qjk bs k e=(kg bs k e 0 []):=by
  unfold qjk
  simp only[qa3 bs k e 0 1 h,kindE_bad h,qg6 bs k 4096 h]
  rfl
 have h2:(qjk bs k e).2.2=e:=by rw[hk,qgv bs k 0 [] h]
 unfold qax
 rw[h2,if_neg h]
 exact h2.symm ▸ h
theorem col_none1{bs:List UInt8}{k k' b n:Nat}{gs:List Nat}{rs:List Bool}{e':Int}(hT:TakeG bs k 0 b gs rs k' e')(he:e'≠0):colR bs k n=none:=by
 refine colR_no fun c k2 h => ?_
 obtain⟨K,_,_,h1,_⟩:=h.lies
 exact he (hT.there _ _ _ _ rfl h.ok.fil h1).1
theorem col_none2{bs:List UInt8}{k k' k2 b n:Nat}{gs:List Nat}{rs:List Bool}{c:Chk}{e2:Int}(hT:TakeG bs k 0 b gs rs k' 0)(hC:qax bs k' 0=(c,k2,e2))(hn:c.there.length≠n∨¬qhw (qd4 c) b gs rs):colR bs k n=none:=by
 refine colR_no fun d k3 h => ?_
 obtain⟨K,g1,g2,h1,h5⟩:=h.lies
 obtain⟨_,rfl,rfl,rfl⟩:=hT.there _ _ _ _ rfl h.ok.fil h1
 obtain⟨_,_,h6,h7,h8⟩:=hT.good rfl
 have h9:bs.drop k'=qgb K d.ck++bs.drop k3:=xp (h6.symm.trans h1)
 have h10:=qih h8 h.ok.ck g1 g2 h9
 rw[hC] at h10
 have e:c=d.ck:=congrArg Prod.fst h10
 subst e
 rcases hn with hn | hn
 ·
  exact hn h.ok.len
 ·
  exact hn h.ok.of
theorem col_some{bs:List UInt8}{k k' k2 b n:Nat}{gs:List Nat}{rs:List Bool}{c:Chk}(hT:TakeG bs k 0 b gs rs k' 0)(hC:qax bs k' 0=(c,k2,0))(hn:c.there.length=n)(hf:qhw (qd4 c) b gs rs):colR bs k n=some (⟨b,gs,rs,c⟩,k2):=by
 obtain⟨_,h5,h6,h7,h8⟩:=hT.good rfl
 obtain⟨h1,K,h2,h3,h4,h9,h10⟩:=openC_good h8 hC
 refine colR_is ⟨⟨h1,hn,h5,hf⟩,h10,K,h2,h3,?_,by show k2=k+((xg b gs rs).length+(qgb K c).length);omega⟩
 rw[h6,h4]
theorem chk_some{bs:List UInt8}{k k2:Nat}{c:Chk}{e2:Int}(hC:qax bs k 0=(c,k2,e2))(hn:0<c.there.length):e2=0:=by
 apply Classical.byContradiction
 intro he
 have:=openC_none (bs:=bs) (k:=k) (e:=0) (by rw[hC];exact he)
 rw[hC] at this
 simp only at this
 rw[this] at hn
 exact absurd hn (qay 0)
theorem grp_none{bs:List UInt8}{nc left k j m:Nat}{k1:Nat}{e:Int}(hM:z8 bs k 0 (left:Int)=(m,k1,e))(h:qdj bs m k1 j=none)(hj:j≤nc):qna bs nc left k=none:=by
 unfold qna
 rw[hM]
 simp only
 rw[colsR_more h hj]
 split <;> rfl
theorem grp_zero{bs:List UInt8}{nc left k:Nat}(h:(z8 bs k 0 (left:Int)).1=0):qna bs nc left k=none:=by
 unfold qna
 rw[if_pos h]
theorem grp_some{bs:List UInt8}{nc left k m k1 k2:Nat}{e:Int}{cs:List ColS}(hM:z8 bs k 0 (left:Int)=(m,k1,e))(hm:m≠0)(h:qdj bs m k1 nc=some (cs,k2)):qna bs nc left k=some (⟨m,cs⟩,k2):=by
 unfold qna
 rw[hM]
 simp only
 rw[if_neg hm,h]
 rfl
theorem qlu{bs:List UInt8}{nc k i n kp left:Nat}{gs:List GrpS}(h:qdi bs nc k i=some (gs,kp,left))(hg:qna bs nc left kp=none)(hi:i<n):qdi bs nc k n=none:=by
 have h1:qdi bs nc k (i+1)=none:=by
  rw[qdi,h,vc]
  simp only
  rw[hg]
  rfl
 exact grpsR_more h1 hi
theorem grps_some{bs:List UInt8}{nc k i kp left k2:Nat}{gs:List GrpS}{g:GrpS}(h:qdi bs nc k i=some (gs,kp,left))(hg:qna bs nc left kp=some (g,k2)):qdi bs nc k (i+1)=some (gs++[g],k2,left-g.rows):=by
 rw[qdi,h,vc]
 simp only
 rw[hg]
 rfl
theorem cols_none{bs:List UInt8}{n k j kq:Nat}{cs:List ColS}(h:qdj bs n k j=some (cs,kq))(hc:colR bs kq n=none):qdj bs n k (j+1)=none:=by
 rw[qdj,h,vc]
 simp only
 rw[hc]
 rfl
theorem cols_some{bs:List UInt8}{n k j kq k2:Nat}{cs:List ColS}{c:ColS}(h:qdj bs n k j=some (cs,kq))(hc:colR bs kq n=some (c,k2)):qdj bs n k (j+1)=some (cs++[c],k2):=by
 rw[qdj,h,vc]
 simp only
 rw[hc]
 rfl
def xo(b:List UInt8)(n:Nat)(gs:List GrpS):Prop:=kj b=true∧qh6 (b.take (b.length-4))=some (n,gs)
theorem seg_zero{bs:List UInt8}(h:(z8 bs 0 0 8).1=0):qh6 bs=none:=by
 unfold qh6
 rw[if_pos h]
theorem seg_err{bs:List UInt8}{nc k0:Nat}{e0:Int}(hM:z8 bs 0 0 8=(nc,k0,e0))(h:(z8 bs k0 0 4096).2.2≠0):qh6 bs=none:=by
 unfold qh6
 rw[hM]
 simp only
 rw[if_pos h]
 split <;> rfl
theorem seg_none{bs:List UInt8}{nc k0 cn k1:Nat}{e0 e1:Int}(hM:z8 bs 0 0 8=(nc,k0,e0))(hN:z8 bs k0 0 4096=(cn,k1,e1))(h:qdi bs nc k1 cn=none):qh6 bs=none:=by
 unfold qh6
 rw[hM]
 simp only
 rw[hN]
 simp only
 rw[h]
 split
 ·
  rfl
 ·
  split <;> rfl
theorem seg_left{bs:List UInt8}{nc k0 cn k1 kp left:Nat}{e0 e1:Int}{gs:List GrpS}(hM:z8 bs 0 0 8=(nc,k0,e0))(hN:z8 bs k0 0 4096=(cn,k1,e1))(h:qdi bs nc k1 cn=some (gs,kp,left))(hk:kp<bs.length):qh6 bs=none:=by
 unfold qh6
 rw[hM]
 simp only
 rw[hN]
 simp only
 rw[h,vc,if_pos hk]
 split
 ·
  rfl
 ·
  split <;> rfl
theorem seg_some{bs:List UInt8}{nc k0 cn k1 kp left:Nat}{e0:Int}{gs:List GrpS}(hM:z8 bs 0 0 8=(nc,k0,e0))(hn:nc≠0)(hN:z8 bs k0 0 4096=(cn,k1,0))(h:qdi bs nc k1 cn=some (gs,kp,left))(hk:¬kp<bs.length):qh6 bs=some (nc,gs):=by
 unfold qh6
 rw[hM]
 simp only
 rw[if_neg hn,hN]
 simp only
 rw[if_neg (by simp),h,vc,if_neg hk]
theorem Tryz.infoVal:(Tryz.prog.info? 72).map (fun i=>(i.zero,i.size,i.bytes))=some (some (.agg #[.bool false,.string ⟨#[]⟩]),2,24):=by kernel_rfl
def vv(l:List Vl):List Value:=l.flatMap qli
theorem qca:∀l:List Vl,(vv l).length=l.length*2
 | []=>rfl
 | v :: l=>by
  have:=qca l
  simp only[vv,qco,qd,qo,qli,jy] at *
  omega
theorem qh1:∀(l:List Vl) (j i:Nat),i<2→(vv l)[j*2+i]? = (l[j]?).bind fun v=>(qli v)[i]?
 | [],j,i,hi=>by simp[vv]
 | v :: l,0,i,hi=>by
  match i,hi with
  | 0,_=>rfl
  | 1,_=>rfl
 | v :: l,j+1,i,hi=>by
  have:=qh1 l j i hi
  rw[show(j+1)*2+i=j*2+i+1+1 by omega]
  simpa[vv,qli] using this
theorem row_own{w:World}{base n c:Nat}{A:Option Addr}{l:List Vl}(h:w.ownsRow base 72 2 (.slice A n c) n (vv l))(hn:l.length=n)(hs:∀v∈l,v.s.size≤9223372036854775807):Row w base w.heap.size A c l:=by
 subst hn
 refine⟨?_,hs⟩
 rcases h.2 with ⟨hv,h0⟩ | ⟨g,cap,cur,hv,hb,hg,hnc,hcm,hcs,htake⟩
 ·
  injection hv with e1 e2 e3
  subst e1 e3
  exact⟨by omega,by simp[maxLen],fun hp=>by omega⟩
 ·
  injection hv with e1 e2 e3
  subst e1 e3
  refine⟨hnc,hcm,fun _=>⟨g,0,rfl,hb,(xc.1 hg).1,fun j hj i hi => ?_⟩⟩
  have hlt:j*2+i<l.length*2:=by omega
  have h5:cur.toList[j*2+i]? = (vv l)[j*2+i]?:=by rw[←htake,uo,if_pos hlt]
  rw[yk,cell_of_row w g (j*2+i) cur _ (0,0) hg,←Array.getElem?_toList,h5,qh1 l j i hi]
def ka(w:World)(lo hi:Nat)(A:Option Addr)(c:Nat)(rs:List (List Vl)):Prop:=∃rA rc,Rows2 w lo hi A c rs rA rc
section
variable {w w':World}{lo hi lo' hi' c B:Nat}{A:Option Addr}{rs:List (List Vl)}
theorem ka.below(h:ka w lo hi A c rs)(hb:Below B w w')(hB:hi≤B):ka w' lo hi A c rs:=by
 obtain⟨rA,rc,h⟩:=h
 exact⟨rA,rc,h.below hb hB⟩
theorem ka.drewN(h:ka w lo hi A c rs)(m:Nat):ka (w.drewN m) lo hi A c rs:=by
 obtain⟨rA,rc,h⟩:=h
 exact⟨rA,rc,h.drewN m⟩
theorem ka.wide(h:ka w lo hi A c rs)(h1:lo'≤lo)(h2:hi≤hi'):ka w lo' hi' A c rs:=by
 obtain⟨rA,rc,h⟩:=h
 exact⟨rA,rc,h.wide h1 h2⟩
theorem ka.len(h:ka w lo hi A c rs):rs.length≤c∧c≤9223372036854775807:=by
 obtain⟨rA,rc,h⟩:=h
 exact h.len
theorem ka.get(h:ka w lo hi A c rs){j:Nat}(hj:j<rs.length) :
  ∃b off A' c',A=some ⟨b,off,none⟩∧lo≤b∧b<hi∧w.cell? ⟨b,off+j,none⟩=some (.slice A' rs[j].length c')∧Row w lo hi A' c' rs[j]:=by
 obtain⟨rA,rc,h⟩:=h
 obtain⟨b,off,h1,h2,h3,h4,h5⟩:=h.get hj
 exact⟨b,off,_,_,h1,h2,h3,h4,h5⟩
theorem ka.nil(w:World)(lo hi:Nat):ka w lo hi none 0 []:=⟨fun _=>none,fun _=>0,Els.nil _ _ _ _ _,fun j hj=>absurd hj (jm j)⟩
end
def qbg(w:World)(lo hi:Nat)(A:Option Addr)(c:Nat)(gs:List (List (List Vl))):Prop :=
 ∃(gA:Nat→Option Addr) (gc:Nat→Nat),Els w lo hi A c 1 gs.length (fun j i=>(gs[j]?).bind fun g=>[Value.slice (gA j) g.length (gc j)][i]?)∧∀j (hj:j<gs.length),ka w lo hi (gA j) (gc j) gs[j]
section
variable {w w':World}{lo hi lo' hi' c B:Nat}{A:Option Addr}{gs:List (List (List Vl))}
theorem qbg.below(h:qbg w lo hi A c gs)(hb:Below B w w')(hB:hi≤B):qbg w' lo hi A c gs:=by
 obtain⟨gA,gc,h1,h2⟩:=h
 exact⟨gA,gc,h1.below hb hB,fun j hj=>(h2 j hj).below hb hB⟩
theorem qbg.drewN(h:qbg w lo hi A c gs)(m:Nat):qbg (w.drewN m) lo hi A c gs:=by
 obtain⟨gA,gc,h1,h2⟩:=h
 exact⟨gA,gc,h1.keep fun _ _ _=>rfl,fun j hj=>(h2 j hj).drewN m⟩
theorem qbg.wide(h:qbg w lo hi A c gs)(h1:lo'≤lo)(h2:hi≤hi'):qbg w lo' hi' A c gs:=by
 obtain⟨gA,gc,h3,h4⟩:=h
 exact⟨gA,gc,h3.wide h1 h2,fun j hj=>(h4 j hj).wide h1 h2⟩
theorem qbg.len(h:qbg w lo hi A c gs):gs.length≤c∧c≤9223372036854775807:=by
 obtain⟨gA,gc,h1,h2⟩:=h
 exact⟨h1.len,by have:=h1.cap;simpa[maxLen] using this⟩
theorem qbg.get(h:qbg w lo hi A c gs){j:Nat}(hj:j<gs.length) :
  ∃b off A' c',A=some ⟨b,off,none⟩∧lo≤b∧b<hi∧w.cell? ⟨b,off+j,none⟩=some (.slice A' gs[j].length c')∧ka w lo hi A' c' gs[j]:=by
 obtain⟨gA,gc,h1,h2⟩:=h
 obtain⟨b,off,e,h3,h4,h5⟩:=h1.lies (by omega)
 have h6:=h5 j hj 0 (by omega)
 rw[qe hj,xl,y7] at h6
 exact⟨b,off,_,_,e,h3,h4,h6,h2 j hj⟩
end
def qb8(w:World)(lo hi:Nat)(A:Option Addr)(c:Nat)(os:List Co):Prop :=
 ∃(oA:Nat→Option Addr) (oc:Nat→Nat),Els w lo hi A c 4 os.length (fun j i=>(os[j]?).bind fun o=>[Value.int .i64 o.kind,.int .i64 o.block,.int .i64 o.rounds,.slice (oA j) o.draws.length (oc j)][i]?)∧
  ∀j (hj:j<os.length),Rd w lo hi (oA j) (oc j) (iv os[j].draws)∧qjg os[j].draws
section
variable {w w':World}{lo hi lo' hi' c B:Nat}{A:Option Addr}{os:List Co}
theorem qb8.below(h:qb8 w lo hi A c os)(hb:Below B w w')(hB:hi≤B):qb8 w' lo hi A c os:=by
 obtain⟨gA,gc,h1,h2⟩:=h
 exact⟨gA,gc,h1.below hb hB,fun j hj=>⟨(h2 j hj).1.below hb hB,(h2 j hj).2⟩⟩
theorem qb8.drewN(h:qb8 w lo hi A c os)(m:Nat):qb8 (w.drewN m) lo hi A c os:=by
 obtain⟨gA,gc,h1,h2⟩:=h
 exact⟨gA,gc,h1.keep fun _ _ _=>rfl,fun j hj=>⟨(h2 j hj).1.drewN m,(h2 j hj).2⟩⟩
theorem qb8.wide(h:qb8 w lo hi A c os)(h1:lo'≤lo)(h2:hi≤hi'):qb8 w lo' hi' A c os:=by
 obtain⟨gA,gc,h3,h4⟩:=h
 exact⟨gA,gc,h3.wide h1 h2,fun j hj=>⟨(h4 j hj).1.wide h1 h2,(h4 j hj).2⟩⟩
theorem qb8.len(h:qb8 w lo hi A c os):os.length≤c∧c≤9223372036854775807:=by
 obtain⟨gA,gc,h1,h2⟩:=h
 exact⟨h1.len,by have:=h1.cap;simpa[maxLen] using this⟩
theorem qb8.get(h:qb8 w lo hi A c os){j:Nat}(hj:j<os.length) :
  ∃b off A' c',A=some ⟨b,off,none⟩∧lo≤b∧b<hi∧w.cell? ⟨b,off+j*4,none⟩=some (.int .i64 os[j].kind)∧w.cell? ⟨b,off+j*4+1,none⟩=some (.int .i64 os[j].block)∧w.cell? ⟨b,off+j*4+2,none⟩=some (.int .i64 os[j].rounds)∧w.cell? ⟨b,off+j*4+3,none⟩=some (.slice A' os[j].draws.length c')∧
   Rd w lo hi A' c' (iv os[j].draws)∧qjg os[j].draws:=by
 obtain⟨gA,gc,h1,h2⟩:=h
 obtain⟨b,off,e,h3,h4,h5⟩:=h1.lies (by omega)
 have g:=fun i hi=>h5 j hj i hi
 simp only[qe hj,vc] at g
 exact⟨b,off,_,_,e,h3,h4,g 0 (by omega),g 1 (by omega),g 2 (by omega),g 3 (by omega),h2 j hj⟩
end
def ko(rs:List (List Vl))(k:Nat):List Vl:=rs.map fun r=>r.getD k ⟨true,⟨#[]⟩⟩
theorem qd1(rs:List (List Vl))(k:Nat):(ko rs k).length=rs.length:=by simp[ko]
def GrpOk(n:Nat)(g:List (List Vl)):Prop:=0<g.length∧(∀r∈g,r.length=n)∧∀k,k<n→uj (ko g k)
instance (n:Nat) (g:List (List Vl)):Decidable (GrpOk n g):=by unfold GrpOk;infer_instance
def vo(gs:List (List (List Vl))):Nat:=(gs.map List.length).sum
theorem qdt{gs:List (List (List Vl))}{i:Nat}(hi:i<gs.length):vo (gs.take (i+1))=vo (gs.take i)+gs[i].length:=by
 unfold vo
 rw[qi hi,jg,qcj]
 simp
theorem qh9(gs:List (List (List Vl)))(i:Nat):vo (gs.take i)≤vo gs:=by
 have h:vo gs=vo (gs.take i)+vo (gs.drop i):=by
  unfold vo
  rw[←qcj,←jg,zw]
 omega
def qaf(cols:Int)(gs:List (List (List Vl)))(os:List Co)(bits:Int):Prop :=
 1≤cols∧cols≤8∧(os.length:Int)=cols∧0≤bits∧bits≤65536∧(∀o∈os,qbs o)∧vo gs≤4096∧∀g∈gs,GrpOk os.length g
instance (cols:Int) (gs:List (List (List Vl))) (os:List Co) (bits:Int):Decidable (qaf cols gs os bits):=by unfold qaf;infer_instance
theorem fits_nil:uj []:=⟨qj _,fun v hv=>by cases hv⟩
theorem isEmpty_ne{s:ByteArray}(h:¬s=⟨#[]⟩):s.toList.isEmpty=false:=by
 cases he:s.toList with
 | nil=>exact absurd (ByteArray.ext (Array.toList_inj.1 (by rw[←ul,he]))) h
 | cons a t=>rfl
theorem fits_v{w:World}(L:List Vl){c:Nat}{A:Option Addr}(h:Row w 0 w.heap.size A c L) :
  Calls Tryz.prog 103 #[.slice A L.length c] w fun r w'=>r= .returned (.bool (decide (uj L)))∧Below w.heap.size w w':=by
 obtain⟨hl,hm⟩:=h.len
 obtain⟨v,hv⟩:∃v,decide (uj L)=v:=⟨_,rfl⟩
 rw[hv]
 have HV0:Hid (∀k (hk:k<L.length),¬VlOk L[k]→v=false):=fun k hk h0=>by rw[←hv];exact qw fun h1=>h0 (h1.2 _ (ql hk))
 have HV1:Hid (¬L.length≤4096→v=false):=fun h0=>by rw[←hv];exact qw fun h1=>h0 h1.1
 have HV2:Hid (L.length≤4096→(∀k (hk:k<L.length),VlOk L[k])→v=true):=fun h0 h1=>by
  rw[←hv]
  exact qx ⟨h0,fun x hx=>by obtain⟨k,hk,rfl⟩:=zl hx;exact h1 k hk⟩
 have H:=qa h
 clear h hv
 go_enter Tryz.func103,Tryz.ntmps103
 go_wp2_with fail
 go_loopw [7] (fun i wr=>∃k:Nat,k≤L.length∧i= .int .i64 (k:Int)∧(∀j (hj:j<L.length),j<k→VlOk L[j])∧Below w.heap.size w wr) (fun i _=>L.length-(intOf i).toNat)
 case atStart=>exact⟨0,qj _,rfl,fun j hj h0=>by omega,Below.refl _ _⟩
 case round =>
  obtain⟨k,hk,rfl,ha,hb⟩:=hrel
  have HA:=qa ha
  have HB:=qa hb
  have hsz:=hb.size
  clear ha hb
  by_cases hlt:k<L.length
  ·
   have ik:(k:Int)<(L.length:Int):=by omega
   obtain⟨b,off,rfl,_,hbl,hc0,hc1⟩:=(H.out.below HB.out (qc _)).get hlt
   have hbw:b<wr.heap.size:=by omega
   have HN:Hid (VlOk L[k]→∀j (hj:j<L.length),j<k+1→VlOk L[j]):=fun h5 j hj hjk=>by
    by_cases e:j=k
    ·
     subst e;exact h5
    ·
     exact HA.out j hj (by omega)
   have HF:=qa (HV0.out k hlt)
   have HBA:Hid (Below w.heap.size w (wr.alloc (.cells #[.bool L[k].null,.string L[k].s] 72))):=HB.out.alloc hsz _
   clear HA HB
   unfold VlOk at HN HF
   generalize L[k].null=nb at *
   generalize L[k].s=s at *
   by_cases h5:s.size≤4096
   ·
    have i5:¬(4096:Int)<(s.size:Int):=by omega
    cases nb with
    | true =>
     by_cases he:s=⟨#[]⟩
     ·
      subst he
      go_wp2_with fail
      go_roundw
      case rel=>exact⟨k+1,by omega,by go_num,HN.out ⟨h5,fun _=>rfl⟩,HBA.out⟩
      case measure=>simp[intOf];omega
     ·
      have hne:s.toList.isEmpty=false:=isEmpty_ne he
      have hvf:v=false:=HF.out (fun h=>he (h.2 rfl))
      subst hvf
      go_wp2_with fail
      go_ret
      exact⟨rfl,HBA.out⟩
    | false =>
     go_wp2_with fail
     go_roundw
     case rel=>exact⟨k+1,by omega,by go_num,HN.out ⟨h5,fun h=>by cases h⟩,HBA.out⟩
     case measure=>simp[intOf];omega
   ·
    have i5:(4096:Int)<(s.size:Int):=by omega
    have hvf:v=false:=HF.out (fun h=>h5 h.1)
    subst hvf
    go_wp2_with fail
    go_ret
    exact⟨rfl,HBA.out⟩
  ·
   have ik:¬(k:Int)<(L.length:Int):=by omega
   by_cases h4:L.length≤4096
   ·
    have i4:(L.length:Int)≤4096:=by omega
    have hvt:v=true:=HV2.out h4 fun j hj=>HA.out j hj (by omega)
    subst hvt
    go_wp2_with fail
    go_ret
    exact⟨rfl,HB.out⟩
   ·
    have i4:¬(L.length:Int)≤4096:=by omega
    have hvf:v=false:=HV1.out h4
    subst hvf
    go_wp2_with fail
    go_ret
    exact⟨rfl,HB.out⟩
theorem right_v{w:World}(o:Co){c:Nat}{A:Option Addr}(h:Rd w 0 w.heap.size A c (iv o.draws)) :
  Calls Tryz.prog 104 #[.agg #[.int .i64 o.kind,.int .i64 o.block,.int .i64 o.rounds,.slice A o.draws.length c]] w fun r w'=>r= .returned (.bool (decide (qbs o)))∧Below w.heap.size w w':=by
 obtain⟨v,hv⟩:∃v,decide (qbs o)=v:=⟨_,rfl⟩
 rw[hv]
 have HF:Hid (¬qbs o→v=false):=fun h=>by rw[←hv];exact qw h
 have HT:Hid (qbs o→v=true):=fun h=>by rw[←hv];exact qx h
 have hl:=h.len
 have hm:=h.cap
 rw[yd] at hl
 clear hv h
 unfold qbs at HF HT
 obtain⟨kd,bl,ro,ds⟩:=o
 simp only at *
 generalize ds.length=n at *
 go_enter Tryz.func104,Tryz.ntmps104
 by_cases h1:0≤kd
 ·
  by_cases h2:kd≤3
  ·
   by_cases h3:1≤bl
   ·
    by_cases h4:bl≤64
    ·
     by_cases h5:0≤ro
     ·
      by_cases h6:ro≤8
      ·
       by_cases h7:n≤4096
       ·
        have i7:(n:Int)≤4096:=by omega
        obtain rfl:v=true:=HT.out ⟨h1,h2,h3,h4,h5,h6,h7⟩
        go_wp2_with fail
        go_ret
        exact⟨rfl,(Below.refl _ _).alloc (qc _) _⟩
       ·
        have i7:¬(n:Int)≤4096:=by omega
        obtain rfl:v=false:=HF.out (fun h=>h7 h.2.2.2.2.2.2)
        go_wp2_with fail
        go_ret
        exact⟨rfl,(Below.refl _ _).alloc (qc _) _⟩
      ·
       obtain rfl:v=false:=HF.out (fun h=>h6 h.2.2.2.2.2.1)
       go_wp2_with fail
       go_ret
       exact⟨rfl,(Below.refl _ _).alloc (qc _) _⟩
     ·
      obtain rfl:v=false:=HF.out (fun h=>h5 h.2.2.2.2.1)
      go_wp2_with fail
      go_ret
      exact⟨rfl,(Below.refl _ _).alloc (qc _) _⟩
    ·
     obtain rfl:v=false:=HF.out (fun h=>h4 h.2.2.2.1)
     go_wp2_with fail
     go_ret
     exact⟨rfl,(Below.refl _ _).alloc (qc _) _⟩
   ·
    obtain rfl:v=false:=HF.out (fun h=>h3 h.2.2.1)
    go_wp2_with fail
    go_ret
    exact⟨rfl,(Below.refl _ _).alloc (qc _) _⟩
  ·
   obtain rfl:v=false:=HF.out (fun h=>h2 h.2.1)
   go_wp2_with fail
   go_ret
   exact⟨rfl,(Below.refl _ _).alloc (qc _) _⟩
 ·
  obtain rfl:v=false:=HF.out (fun h=>h1 h.1)
  go_wp2_with fail
  go_ret
  exact⟨rfl,(Below.refl _ _).alloc (qc _) _⟩
theorem there_v{w:World}(L:List Vl){c:Nat}{A:Option Addr}(h:Row w 0 w.heap.size A c L)(hn:L.length≤1000000) :
  Calls Tryz.prog 111 #[.slice A L.length c] w fun r w'=>∃A' c',r= .returned (.slice A' L.length c')∧w'.ownsRow w.heap.size 4 1 (.slice A' L.length c') L.length (lv (xi L))∧Below w.heap.size w w':=by
 obtain⟨hl,hm⟩:=h.len
 obtain⟨w1,hmake,ho1,hg1⟩:=qj3 w L.length (by omega)
 have HO1:=qa ho1
 have HB1:=qa (qaq (qc _) hg1 (fun g hg=>by cases hg))
 have H:=qa h
 have HZ:Hid (∀i (hi:i<L.length),(lv (xi L))[i]? = some (.bool !L[i].null)):=fun i hi=>by
  simp[lv,xi,qe hi]
 have HZL:Hid ((lv (xi L)).length=L.length):=by unfold Hid;rw[qac,uq]
 generalize lv (xi L)=zs at *
 clear h ho1 hg1
 go_enter Tryz.func111,Tryz.ntmps111
 go_wp2_with fail
 clear hmake
 go_loopw [11] (fun i wr=>∃(k:Nat) (xs:List Value),k≤L.length∧i= .int .i64 (k:Int)∧wr.ownsRow w.heap.size 4 1 (.slice (some ⟨w.heap.size,0,none⟩) L.length L.length) L.length xs∧qhs zs k xs∧Below w.heap.size w wr) (fun i _=>L.length-(intOf i).toNat)
 case atStart=>exact⟨0,_,qj _,rfl,HO1.out,qcb (by rw[HZL.out];simp),HB1.out⟩
 case round =>
  clear HO1 HB1
  obtain⟨k,xs,hk,rfl,ho,hup,hb⟩:=hrel
  have HO:=qa ho
  have HUP:=qa hup
  have HB:=qa hb
  have hsz:=hb.size
  clear ho hup hb
  by_cases hlt:k<L.length
  ·
   have ik:(k:Int)<(L.length:Int):=by omega
   obtain⟨b,off,rfl,_,hbl,hc0,hc1⟩:=(H.out.below HB.out (qc _)).get hlt
   have hbw:b<wr.heap.size:=by omega
   have HZ1:=qa (HZ.out k hlt)
   generalize L[k].null=nb at *
   generalize L[k].s=s at *
   obtain⟨w2,hw2⟩:∃w2,wr.alloc (.cells #[.bool nb,.string s] 72)=w2:=⟨_,rfl⟩
   have HO2:Hid (w2.ownsRow w.heap.size 4 1 (.slice (some ⟨w.heap.size,0,none⟩) L.length L.length) L.length xs):=by unfold Hid;rw[←hw2];exact HO.out.alloc _
   have HB2:Hid (Below w.heap.size w w2):=by unfold Hid;rw[←hw2];exact HB.out.alloc hsz _
   have hfr:=HO2.out.frozenAt k
   have hxk:k<xs.length:=by rw[HUP.out.1,HZL.out];exact hlt
   have hcell:w2.cell? ⟨w.heap.size,k,none⟩=some xs[k]:=by
    rw[HO2.out.cellAt k (by omega),qe hxk]
   have HST:=qa (World.ownsRow.stored HO2.out k (.bool !nb))
   have HBS:=qa (HB2.out.setCell (p:=⟨w.heap.size,k,none⟩) (qc _) (.bool !nb))
   have HUS:=qa (um HUP.out (.bool !nb) HZ1.out)
   rw[←hw2] at hfr hcell HST HBS
   clear hw2 HO2 HB2
   generalize xs[k]=x0 at *
   cases nb with
   | true =>
    go_wp2_with fail
    go_roundw
    case rel=>exact⟨k+1,_,by omega,by go_num,HST.out.1,HUS.out,HBS.out⟩
    case measure=>simp[intOf];omega
   | false =>
    go_wp2_with fail
    go_roundw
    case rel=>exact⟨k+1,_,by omega,by go_num,HST.out.1,HUS.out,HBS.out⟩
    case measure=>simp[intOf];omega
  ·
   have ik:¬(k:Int)<(L.length:Int):=by omega
   have hx:xs=zs:=qdo HUP.out (by rw[HZL.out];omega)
   subst hx
   go_wp2_with fail
   go_ret
   exact⟨_,_,rfl,HO.out,HB.out⟩
theorem texts_v{w:World}(L:List Vl){c:Nat}{A:Option Addr}(h:Row w 0 w.heap.size A c L)(hn:L.length≤1000000) :
  Calls Tryz.prog 106 #[.slice A L.length c] w fun r w'=>∃A' c',r= .returned (.slice A' (qr L).length c')∧w'.ownsRow w.heap.size 9 1 (.slice A' (qr L).length c') (qr L).length (sv (qr L))∧Below w.heap.size w w':=by
 obtain⟨hl,hm⟩:=h.len
 have H:=qa h
 clear h
 go_enter Tryz.func106,Tryz.ntmps106
 go_wp2_with fail
 go_loopw [3,8] (fun x i wr=>∃(k:Nat) (ys:List ByteArray) (A':Option Addr) (c' n:Nat),k≤L.length∧i= .int .i64 (k:Int)∧qr (L.take k)=ys∧ys.length=n∧n≤k∧x= .slice A' n c'∧wr.ownsRow w.heap.size 9 1 (.slice A' n c') n (sv ys)∧Below w.heap.size w wr) (fun _ i _=>L.length-(intOf i).toNat)
 case atStart=>exact⟨0,[],none,0,0,qj _,rfl,rfl,rfl,qc _,rfl,⟨rfl,.inl ⟨rfl,rfl⟩⟩,Below.refl _ _⟩
 case round =>
  obtain⟨k,ys,A',c',n,hk,rfl,hys,hyn,hnk,rfl,ho,hb⟩:=hrel
  have HY:=qa hys
  have HYN:=qa hyn
  have HO:=qa ho
  have HB:=qa hb
  have hsz:=hb.size
  clear ho hb hys hyn
  by_cases hlt:k<L.length
  ·
   have ik:(k:Int)<(L.length:Int):=by omega
   obtain⟨b,off,rfl,_,hbl,hc0,hc1⟩:=(H.out.below HB.out (qc _)).get hlt
   have hbw:b<wr.heap.size:=by omega
   have HT:=qa (qma hlt)
   rw[HY.out] at HT
   generalize L[k].null=nb at *
   generalize L[k].s=s at *
   have HOA:=qa (HO.out.alloc (.cells #[.bool nb,.string s] 72))
   have HBA:=qa (HB.out.alloc hsz (.cells #[.bool nb,.string s] 72))
   cases nb with
   | true =>
    have HT2:Hid (qr (L.take (k+1))=ys):=by unfold Hid;rw[HT.out];simp
    clear HT
    go_wp2_with fail
    go_roundw
    case rel=>exact⟨k+1,ys,A',c',n,by omega,by go_num,HT2.out,HYN.out,by omega,rfl,HOA.out,HBA.out⟩
    case measure=>simp[intOf];omega
   | false =>
    obtain⟨zs,hzs⟩:∃zs,ys++[s]=zs:=⟨_,rfl⟩
    have HT2:Hid (qr (L.take (k+1))=zs):=by unfold Hid;rw[HT.out,←hzs];simp
    have hzl:zs.length=n+1:=by rw[←hzs,qd,HYN.out];rfl
    have HZL:=qa hzl
    have HZS:=qa hzs
    clear HT hzl hzs
    have HOB:=qa (HOA.out.alloc (.cells #[.string s] 9))
    have HBB:=qa (HBA.out.alloc (by simp;omega) (.cells #[.string s] 9))
    rw[←HYN.out] at HOB
    go_wp2_with (at_builtin;refine vj (v:= .slice A' n c') w.heap.size ys s rfl _ _ rfl rfl rfl rfl (by rw[zm _ _ _ _ (by simp)];rfl) (by have:=HOB.out;rw[HYN.out] at this ⊢;exact this) (by rw[HYN.out];omega) (by simp;omega) ?_;intro A7 c7 w7 ho7 hg7;refine qbj ?_)
    have hb7:Below w.heap.size w w7:=HBB.out.grown hg7 (by simp;omega) (fun q hq=>(zk HOB.out (by rw[HYN.out];exact hq)).1)
    rw[HZS.out,HZL.out] at ho7
    have HO7:=qa ho7
    have HB7:=qa hb7
    have HZV:Hid (Value.slice A7 (ys.length+1) c7= .slice A7 (n+1) c7):=by unfold Hid;rw[HYN.out]
    clear ho7 hg7 hb7 HO HB HOA HBA HOB HBB
    refine⟨?_⟩
    go_wp2_with fail
    go_roundw
    case rel=>exact⟨k+1,zs,A7,c7,n+1,by omega,by go_num,HT2.out,HZL.out,by omega,HZV.out,HO7.out,HB7.out⟩
    case measure=>simp[intOf] <;> omega
  ·
   have ik:¬(k:Int)<(L.length:Int):=by omega
   have hke:L.take k=L:=qp (by omega)
   rw[hke] at HY
   go_wp2_with fail
   go_ret
   rw[HY.out,HYN.out]
   exact⟨_,_,rfl,HO.out,HB.out⟩
def qiv(u v:Value):Prop:=∀g,u.ownBlock=some g→v.ownBlock=some g→False
theorem qiv.symm{u v:Value}(h:qiv u v):qiv v u:=fun g h1 h2=>h g h2 h1
theorem qiv.keeps{u v:Value}(h:qiv u v):u.ownBlock=none∨u.ownBlock≠v.ownBlock:=by
 cases hu:u.ownBlock with
 | none=>exact .inl rfl
 | some g=>exact .inr fun e=>h g hu e.symm
structure Tri (w:World) (base:Nat) (u v t:Value) (xs ys zs:List Bool):Prop where
 o1:w.ownsRow base 4 1 u xs.length (lv xs)
 o2:w.ownsRow base 4 1 v ys.length (lv ys)
 o3:w.ownsRow base 4 1 t zs.length (lv zs)
 a12:qiv u v
 a13:qiv u t
 a23:qiv v t
theorem Tri.nil(w:World)(base:Nat):Tri w base (.slice none 0 0) (.slice none 0 0) (.slice none 0 0) [] [] [] :=
 ⟨zj ..,zj ..,zj ..,fun _ h=>(by cases h),fun _ h=>(by cases h),fun _ h=>(by cases h)⟩
theorem Tri.push{w w2:World}{base:Nat}{u v t u':Value}{xs ys zs xs':List Bool}(h:Tri w base u v t xs ys zs)(o:Obj)(h1:w2.ownsRow base 4 1 u' xs'.length (lv xs'))(hg:(w.alloc o).grownBy w2 u.ownBlock)
  (hb:u'.ownBlock=u.ownBlock∨u'.ownBlock=some (w.alloc o).heap.size):Tri w2 base u' v t xs' ys zs:=by
 have hs:(w.alloc o).heap.size=w.heap.size+1:=by simp
 have key:∀ {s:Value} {ls:List Bool},w.ownsRow base 4 1 s ls.length (lv ls)→qiv u s→qiv u' s:=by
  intro s ls ho ha g hg1 hg2
  rcases hb with e | e
  ·
   exact ha g (e ▸ hg1) hg2
  ·
   rw[e] at hg1
   have:=(ho.lt g hg2).2
   injection hg1 with hg1
   omega
 exact⟨h1,(h.o2.alloc o).kept hg h.a12.symm.keeps,(h.o3.alloc o).kept hg h.a13.symm.keeps,key h.o2 h.a12,key h.o3 h.a13,h.a23⟩
end Go.Proofs.YtjfecojdagmacaaGreat
