/-
  Lemmas.
-/
import Derived.Test.YtnjkipnklpkaoaaGreatA48
import Derived.Test.YtnjkipnklpkaoaaGreatA59
namespace Go.Proofs.YtnjkipnklpkaoaaGreat
open Go.RowKit
set_option maxRecDepth 20000
set_option maxHeartbeats 16000000
set_option linter.unusedSimpArgs false
set_option linter.unusedVariables false
theorem parse_le{esc:Int}:∀(l:List UInt8) (ns:List Nat),qav esc l=some ns→(∀n∈ns,n≤257)∧ns.length≤l.length
 | [],ns,h=>by
  rw[qav,Option.some.injEq] at h
  subst h
  exact⟨by simp,by simp⟩
 | [x],ns,h=>by
  rw[qav] at h
  split at h
  ·
   cases h
  ·
   rw[Option.some.injEq] at h
   subst h
   refine⟨fun n hn => ?_,by simp⟩
   rw[zo.1 hn,sgn]
   have:=zp x
   split
   ·
    omega
   ·
    split <;> omega
 | x :: y :: t,ns,h=>by
  rw[qav] at h
  split at h
  ·
   cases ht:qav esc t with
   | none=>rw[ht] at h;cases h
   | some ms =>
    rw[ht,qap,Option.some.injEq] at h
    subst h
    have ih:=parse_le t ms ht
    refine⟨fun n hn => ?_,by rw[qt,qt,qt];have:=ih.2;omega⟩
    rcases jc.1 hn with hn | hn
    ·
     have:=zp y
     omega
    ·
     exact ih.1 n hn
  ·
   cases ht:qav esc (y :: t) with
   | none=>rw[ht] at h;cases h
   | some ms =>
    rw[ht,qap,Option.some.injEq] at h
    subst h
    have ih:=parse_le (y :: t) ms ht
    refine⟨fun n hn => ?_,by rw[qt,qt];have:=ih.2;omega⟩
    rcases jc.1 hn with hn | hn
    ·
     rw[hn,sgn]
     have:=zp x
     split
     ·
      omega
     ·
      split <;> omega
    ·
     exact ih.1 n hn
theorem parseF_le{esc:Int}{l:List UInt8}{ns:List Nat}(h:qco esc l=some ns):(∀n∈ns,n≤257)∧ns.length≤l.length:=by
 unfold qco at h
 split at h
 ·
  cases h
 ·
  exact parse_le l ns h
theorem qlp{p:Pr}{cols deep:Int}(h:uv p cols deep=true)(hk:12≤p.kind):p.kind≤14∧p.kids.length≤16∧1≤p.kids.length∧(p.kind=14→p.kids.length=1)∧∀q∈p.kids,uv q cols (deep-1)=true:=by
 rw[qmn] at h
 split at h
 ·
  cases h
 ·
  rename_i h1
  rw[jl,decide_eq_true_eq,jt] at h
  obtain⟨⟨_,_,_,_,h2,h3,h4⟩,h5⟩:=h
  exact⟨by omega,h3,h2,h4,h5⟩
theorem qlo{p:Pr}{cols deep:Int}(h:uv p cols deep=true)(hk:¬12≤p.kind):1≤p.kind∧0≤p.col∧p.col<cols∧p.s.size≤4096∧p.kids=[]∧(p.kind=10→∃ns,qco p.esc p.s.data.toList=some ns):=by
 rw[qmn] at h
 split at h
 ·
  cases h
 ·
  rename_i h1
  rw[jl,decide_eq_true_eq] at h
  obtain⟨⟨h0,h2,h3,h4,_⟩,h5⟩:=h
  refine⟨by omega,h2,h3,h4,List.length_eq_zero_iff.1 h0,fun h6 => ?_⟩
  rw[if_pos h6,Option.isSome_iff_exists] at h5
  exact h5
def qkw(b:Bool):Int:=if b then 1 else 0
def qez(kd:Int)(no yes un:Nat):Int:=if kd=12∧0<no∨kd=13∧yes=0∧un=0∨kd=14∧0<yes then 0 else if kd=13∧0<yes∨kd≠13∧un=0 then 1 else 2
def qgn(kd z:Int):Bool:=decide (kd=1∧z=0∨kd=2∧z≠0∨kd=3∧z<0∨kd=4∧z≤0∨kd=5∧0<z∨kd=6∧0≤z)
def qld(kd co ec:Int)(s:ByteArray)(v:Vl):Int :=
 if kd=11 then qkw v.null else if v.null=true then 2 else
 if kd=7 then qkw (begS v.s s) else if kd=8 then qkw (endS v.s s) else if kd=9 then qkw (hasS v.s s)
 else if kd=10 then qkw (qhx ((qco ec s.data.toList).getD []) v.s.data.toList) else qkw (qgn kd (qiu v.s s co))
def qra(x:Int):Bool := !(x==0) && !(x==1)
def qeb(p:Pr)(row:List Vl):Int :=
 if 12≤p.kind then qez p.kind ((p.kids.attach.map fun q=>qeb q.1 row).count 0) ((p.kids.attach.map fun q=>qeb q.1 row).count 1) ((p.kids.attach.map fun q=>qeb q.1 row).countP qra)
 else qld p.kind p.coll p.esc p.s (row[p.col.toNat]?.getD ⟨true,⟨#[]⟩⟩)
termination_by SizeOf.sizeOf p
decreasing_by all_goals exact Pr.kid_lt q.2
theorem saysP_eq(p:Pr)(row:List Vl):qeb p row =
  if 12≤p.kind then qez p.kind ((p.kids.map fun q=>qeb q row).count 0) ((p.kids.map fun q=>qeb q row).count 1) ((p.kids.map fun q=>qeb q row).countP qra)
  else qld p.kind p.coll p.esc p.s (row[p.col.toNat]?.getD ⟨true,⟨#[]⟩⟩):=by
 rw[qeb]
 have h:(p.kids.attach.map fun q=>qeb q.1 row)=p.kids.map fun q=>qeb q row:=by simp
 rw[h]
structure Tal (l:List Int) (a b u:Nat):Prop where
 no:l.count 0=a
 yes:l.count 1=b
 un:l.countP qra=u
theorem Tal.nil:Tal [] 0 0 0:=⟨rfl,rfl,rfl⟩
theorem Tal.no1{l:List Int}{a b u:Nat}(h:Tal l a b u):Tal (l++[0]) (a+1) b u:=⟨by rw[qa2,h.no];rfl,by rw[qa2,h.yes];rfl,by rw[List.countP_append,h.un];rfl⟩
theorem Tal.yes1{l:List Int}{a b u:Nat}(h:Tal l a b u):Tal (l++[1]) a (b+1) u:=⟨by rw[qa2,h.no];rfl,by rw[qa2,h.yes];rfl,by rw[List.countP_append,h.un];rfl⟩
theorem Tal.un1{l:List Int}{a b u:Nat}{x:Int}(h:Tal l a b u)(h0:x≠0)(h1:x≠1):Tal (l++[x]) a b (u+1):=by
 have e0:(x==0)=false:=by rw[qr];exact h0
 have e1:(x==1)=false:=by rw[qr];exact h1
 refine⟨?_,?_,?_⟩
 ·
  rw[qa2,h.no]
  simp[List.count_cons,e0]
 ·
  rw[qa2,h.yes]
  simp[List.count_cons,e1]
 ·
  rw[List.countP_append,h.un]
  simp[qra,e0,e1]
theorem runA_le:∀(p:List Nat) (acc:List UInt8),∀r∈qk7 acc p,r.length≤acc.length+p.length
 | [],acc,r,h=>by
  rw[qk7] at h
  split at h
  ·
   cases h
  ·
   rw[zo.1 h];simp
 | c :: p,acc,r,h=>by
  rw[qk7] at h
  rw[qt]
  split at h
  ·
   have:=runA_le p _ r h
   rw[qd,jd] at this
   omega
  ·
   rcases zt.1 h with h | h
   ·
    split at h
    ·
     cases h
    ·
     rw[zo.1 h];omega
   ·
    have:=runA_le p _ r h
    rw[je] at this
    omega
theorem runsL_le{p:List Nat}{r:List UInt8}(h:r∈qec p):r.length≤p.length:=by
 have:=runA_le p [] r h
 rw[je] at this
 omega
structure Fl where
 b:Nat
 gs:List Nat
 rs:List Bool
structure FlOk (f:Fl):Prop where
 rows:0<f.b→f.rs.length=f.b
 few:f.b≤70000
def mayP(f:Fl)(s:ByteArray):Bool:=(qad s.data.toList).all (qk9 f.b f.gs f.rs)
structure Fls (w:World) (lo hi:Nat) (A:Option Addr) (c:Nat) (fs:List Fl) (gA:Nat→Option Addr) (gc:Nat→Nat) (rA:Nat→Option Addr) (rc:Nat→Nat):Prop where
 els:Els w lo hi A c 3 fs.length (fun j i=>(fs[j]?).bind fun f=>[Value.int .i64 (f.b:Int),.slice (gA j) f.gs.length (gc j),.slice (rA j) f.rs.length (rc j)][i]?)
 grams:∀j (hj:j<fs.length),Rd w lo hi (gA j) (gc j) (iv (zu fs[j].gs))
 rows:∀j (hj:j<fs.length),Rd w lo hi (rA j) (rc j) (lv fs[j].rs)
theorem Fls.below{w w':World}{lo hi B c:Nat}{A:Option Addr}{fs:List Fl}{gA:Nat→Option Addr}{gc:Nat→Nat}{rA:Nat→Option Addr}{rc:Nat→Nat}(h:Fls w lo hi A c fs gA gc rA rc)(hb:Below B w w')(hB:hi≤B):Fls w' lo hi A c fs gA gc rA rc :=
 ⟨h.els.below hb hB,fun j hj=>(h.grams j hj).below hb hB,fun j hj=>(h.rows j hj).below hb hB⟩
theorem Fls.len{w:World}{lo hi c:Nat}{A:Option Addr}{fs:List Fl}{gA:Nat→Option Addr}{gc:Nat→Nat}{rA:Nat→Option Addr}{rc:Nat→Nat}(h:Fls w lo hi A c fs gA gc rA rc):fs.length≤c∧c≤9223372036854775807:=⟨h.els.len,by have:=h.els.cap;simpa[maxLen] using this⟩
theorem Fls.get{w:World}{lo hi c:Nat}{A:Option Addr}{fs:List Fl}{gA:Nat→Option Addr}{gc:Nat→Nat}{rA:Nat→Option Addr}{rc:Nat→Nat}(h:Fls w lo hi A c fs gA gc rA rc){j:Nat}(hj:j<fs.length) :
  ∃b off,A=some ⟨b,off,none⟩∧lo≤b∧b<hi∧w.cell? ⟨b,off+j*3,none⟩=some (.int .i64 (fs[j].b:Int))∧w.cell? ⟨b,off+j*3+1,none⟩=some (.slice (gA j) fs[j].gs.length (gc j))∧
   w.cell? ⟨b,off+j*3+2,none⟩=some (.slice (rA j) fs[j].rs.length (rc j))∧qok w lo hi (.agg #[.int .i64 (fs[j].b:Int),.slice (gA j) fs[j].gs.length (gc j),.slice (rA j) fs[j].rs.length (rc j)]) fs[j].b fs[j].gs fs[j].rs:=by
 obtain⟨b,off,h1,h2,h3,h4⟩:=h.els.lies (by omega)
 have h5:=h4 j hj 0 (by omega)
 have h6:=h4 j hj 1 (by omega)
 have h7:=h4 j hj 2 (by omega)
 rw[qe hj] at h5 h6 h7
 exact⟨b,off,h1,h2,h3,h5,h6,h7,_,_,_,_,rfl,h.grams j hj,h.rows j hj⟩
def qhj(kd co ec:Int)(s:ByteArray)(f:Fl):Bool :=
 if kd=1∧co=0∨7≤kd∧kd≤9 then !mayP f s else if kd=10 then (j7 (qec ((qco ec s.data.toList).getD []))).any (fun r => !mayP f r) else false
def qrg(kd:Int)(n len:Nat):Bool:=decide (kd=12∧0<n∨kd=13∧n=len)
def qhr(p:Pr)(fs:List Fl):Bool :=
 if 12≤p.kind then qrg p.kind ((p.kids.attach.map fun q=>qhr q.1 fs).count true) p.kids.length
 else qhj p.kind p.coll p.esc p.s (fs[p.col.toNat]?.getD ⟨0,[],[]⟩)
termination_by SizeOf.sizeOf p
decreasing_by all_goals exact Pr.kid_lt q.2
theorem skipP_eq(p:Pr)(fs:List Fl):qhr p fs =
  if 12≤p.kind then qrg p.kind ((p.kids.map fun q=>qhr q fs).count true) p.kids.length
  else qhj p.kind p.coll p.esc p.s (fs[p.col.toNat]?.getD ⟨0,[],[]⟩):=by
 rw[qhr]
 have h:(p.kids.attach.map fun q=>qhr q.1 fs)=p.kids.map fun q=>qhr q fs:=by simp
 rw[h]
def colL(rs:List (List Vl))(k:Nat):List ByteArray:=rs.filterMap fun r=>(r[k]?).bind fun v=>if v.null then none else some v.s
def gsM(b:Nat)(t:List Nat):List Nat:=if b=0 then t else []
def rsM(b:Nat)(t:List Nat):List Bool:=if b=0 then [] else qdx b t
def FlOf(l:List ByteArray)(b:Nat)(e:Fc):Prop:=e.b=b∧∃t,Rise (qb6 (qcl l)) t∧e.gs=gsM b t∧e.rs=rsM b t
def Ly(w:World)(row:Option Nat)(e:Fc):Prop:=∃lo hi,Rd w lo hi e.gA e.gc (iv (zu e.gs))∧Rd w lo hi e.rA e.rc (lv e.rs)∧hi≤w.heap.size∧∀q,row=some q→q<lo∨hi≤q
theorem Ly.step{w w':World}{row row':Option Nat}{e:Fc}(h:Ly w row e)(hg:w.grownBy w' row)(hr:row'=row∨row'=some w.heap.size):Ly w' row' e:=by
 obtain⟨lo,hi,h1,h2,h3,h4⟩:=h
 refine⟨lo,hi,h1.grown hg h3 h4,h2.grown hg h3 h4,ze h3 hg.size,fun q hq => ?_⟩
 rcases hr with hr | hr
 ·
  rw[hr] at hq
  exact h4 q hq
 ·
  rw[hr] at hq
  injection hq with hq
  subst hq
  exact .inr h3
theorem Ly.below{w w':World}{row:Option Nat}{e:Fc}(h:Ly w row e)(hb:Below w.heap.size w w'):Ly w' row e:=by
 obtain⟨lo,hi,h1,h2,h3,h4⟩:=h
 exact⟨lo,hi,h1.below hb h3,h2.below hb h3,ze h3 hb.size,h4⟩
theorem makeg_any{w:World}(l:List ByteArray){c:Nat}{A:Option Addr}(h:Rd w 0 w.heap.size A c (sv l))(hsz:∀s∈l,s.size≤100000)(hlen:l.length≤1000)(b:Nat)(hb:b≤70000) :
  Calls Tryz.prog 26 #[.slice A l.length c,.int .i64 (b:Int)] w fun r w'=>∃e:Fc,r= .returned (.agg (qfk e).toArray)∧FlOf l b e∧Rd w' w.heap.size w'.heap.size e.gA e.gc (iv (zu e.gs))∧Rd w' w.heap.size w'.heap.size e.rA e.rc (lv e.rs)∧Below w.heap.size w w':=by
 by_cases h0:b=0
 ·
  subst h0
  refine(makeg_zero l h hsz hlen).mono ?_
  rintro r w' ⟨v,t,rfl,ht,⟨A1,c1,B1,d1,rfl,h1,h2⟩,hb⟩
  exact⟨⟨0,t,[],A1,c1,B1,d1⟩,rfl,⟨rfl,t,ht,rfl,rfl⟩,h1,h2,hb⟩
 ·
  refine(makeg_bits l h hsz hlen b (by omega) hb).mono ?_
  rintro r w' ⟨v,t,rfl,ht,⟨A1,c1,B1,d1,rfl,h1,h2⟩,hb⟩
  exact⟨⟨b,[],qdx b t,A1,c1,B1,d1⟩,rfl,⟨rfl,t,ht,by rw[gsM,if_neg h0],by rw[rsM,if_neg h0]⟩,h1,h2,hb⟩
def HoldsF(f:Fl)(l:List ByteArray):Prop:=∀s∈l,∀g∈qad s.data.toList,qk9 f.b f.gs f.rs g=true
theorem may_of{f:Fl}{l:List ByteArray}(h:HoldsF f l){s x:ByteArray}(hs:s∈l)(hx:List.IsInfix x.data.toList s.data.toList):mayP f x=true :=
 jt.2 fun g hg=>h s hs g (grams_infix hx hg)
theorem ext_list(s:ByteArray)(a b:Nat):(s.extract a b).data.toList=(s.data.toList.drop a).take (b-a):=by
 rw[qb1]
 simp[List.drop_take]
theorem qql(s:ByteArray)(a b:Nat):List.IsInfix (s.extract a b).data.toList s.data.toList:=by
 rw[ext_list]
 exact(List.take_prefix _ _).isInfix.trans (List.drop_suffix _ _).isInfix
theorem beg_infix{s p:ByteArray}(h:begS s p=true):List.IsInfix p.data.toList s.data.toList:=by
 have h:=of_decide_eq_true h
 have h2:=qql s 0 p.size
 rw[h.2] at h2
 exact h2
theorem end_infix{s p:ByteArray}(h:endS s p=true):List.IsInfix p.data.toList s.data.toList:=by
 have h:=of_decide_eq_true h
 have h2:=qql s (s.size-p.size) s.size
 rw[h.2] at h2
 exact h2
theorem has_infix{s p:ByteArray}(h:hasS s p=true):List.IsInfix p.data.toList s.data.toList:=by
 obtain⟨i,_,h⟩:=kv.1 h
 have h:=of_decide_eq_true h
 have h2:=qql s i (i+p.size)
 rw[h.2] at h2
 exact h2
theorem cmp_zero{a b:ByteArray}(h:qiu a b 0=0):a=b:=by
 unfold qiu at h
 rw[if_neg (by decide),if_neg (by decide)] at h
 exact ByteArray.ext (Array.ext' (qcr h))
theorem hasL_infix:∀(ws:List (List UInt8)) (l:List UInt8),qk8 ws l=true→∀r∈ws,List.IsInfix r l
 | [],_,_,r,hr=>absurd hr ve
 | w :: ws,l,h,r,hr=>by
  rcases qn6 l w with ⟨h1,_⟩ | ⟨i,hi,h1,h2,_⟩
  ·
   rw[has_none h1] at h
   cases h
  ·
   rw[qpf h1] at h
   rcases jc.1 hr with rfl | hr
   ·
    unfold Lib.occAt at h2
    obtain⟨z,hz⟩:=qbz.1 h2
    exact⟨l.take i,z,by rw[qv,hz,zx]⟩
   ·
    exact(hasL_infix ws _ h r hr).trans (List.drop_suffix _ _).isInfix
theorem runs_infix{p:List Nat}{l:List UInt8}(h:qhx p l=true){r:List UInt8}(hr:r∈qec p):List.IsInfix r l:=by
 have h1:=qpg p [] l h
 rw[yk] at h1
 exact hasL_infix _ _ h1 r hr
theorem ql8{b:Bool}:qkw b=1↔b=true:=by cases b <;> simp[qkw]
theorem colL_there{rs:List (List Vl)}{r:List Vl}(hr:r∈rs){k:Nat}{v:Vl}(hv:r[k]? = some v)(hn:v.null=false):v.s∈colL rs k :=
 List.mem_filterMap.2 ⟨r,hr,by rw[hv,vb,hn];rfl⟩
theorem leaf_none{kd co ec:Int}{s:ByteArray}{f:Fl}{l:List ByteArray}{v:Vl}(h:HoldsF f l)(hk:qhj kd co ec s f=true)(hv:v.null=false→v.s∈l):qld kd co ec s v≠1:=by
 intro hy
 unfold qhj at hk
 unfold qld at hy
 cases hn:v.null with
 | true =>
  rw[hn] at hy
  by_cases h11:kd=11
  ·
   rw[if_neg (by omega),if_neg (by omega)] at hk
   cases hk
  ·
   rw[if_neg h11,if_pos rfl] at hy
   cases hy
 | false =>
  have hm:=hv hn
  rw[hn] at hy
  by_cases h11:kd=11
  ·
   rw[if_pos h11] at hy
   cases hy
  ·
   rw[if_neg h11,if_neg (by simp)] at hy
   by_cases hA:kd=1∧co=0∨7≤kd∧kd≤9
   ·
    rw[if_pos hA,Bool.not_eq_true'] at hk
    have hpart:List.IsInfix s.data.toList v.s.data.toList:=by
     by_cases h7:kd=7
     ·
      rw[if_pos h7] at hy
      exact beg_infix (ql8.1 hy)
     ·
      rw[if_neg h7] at hy
      by_cases h8:kd=8
      ·
       rw[if_pos h8] at hy
       exact end_infix (ql8.1 hy)
      ·
       rw[if_neg h8] at hy
       by_cases h9:kd=9
       ·
        rw[if_pos h9] at hy
        exact has_infix (ql8.1 hy)
       ·
        have h1:kd=1∧co=0:=by omega
        rw[if_neg h9,if_neg (by omega)] at hy
        have h2:=of_decide_eq_true (ql8.1 hy)
        have h3:qiu v.s s co=0:=by omega
        rw[h1.2] at h3
        rw[cmp_zero h3]
        exact List.infix_rfl
    rw[may_of h hm hpart] at hk
    cases hk
   ·
    rw[if_neg hA] at hk
    by_cases h10:kd=10
    ·
     rw[if_pos h10] at hk
     rw[if_neg (by omega),if_neg (by omega),if_neg (by omega),if_pos h10] at hy
     obtain⟨r,hr,hr2⟩:=kv.1 hk
     rw[Bool.not_eq_true'] at hr2
     obtain⟨x,hx,rfl⟩:=zn.1 hr
     rw[may_of h hm (x:=⟨x.toArray⟩) (by show List.IsInfix x.toArray.toList _;rw[List.toList_toArray];exact runs_infix (ql8.1 hy) hx)] at hr2
     cases hr2
    ·
     rw[if_neg h10] at hk
     cases hk
theorem count_true{l:List Pr}{f:Pr→Bool}:0<(l.map f).count true↔∃q∈l,f q=true:=by
 rw[List.count_pos_iff,zn]
theorem count_all{l:List Pr}{f:Pr→Bool}(h:(l.map f).count true=l.length):∀q∈l,f q=true:=fun q hq=>by
 have h2:=List.count_eq_length.1 (show(l.map f).count true=(l.map f).length by rw[h,q8])
 exact(h2 _ (xq hq)).symm
theorem head_and{l:List Int}:qez 12 (l.count 0) (l.count 1) (l.countP qra)=1→∀x∈l,x=1:=by
 intro h x hx
 unfold qez at h
 by_cases h0:0<l.count 0
 ·
  rw[if_pos (.inl ⟨rfl,h0⟩)] at h
  cases h
 ·
  rw[if_neg (by omega)] at h
  by_cases hu:l.countP qra=0
  ·
   have h1:x≠0:=fun e=>h0 (List.count_pos_iff.2 (e ▸ hx))
   have h2:=List.countP_eq_zero.1 hu x hx
   unfold qra at h2
   simp[h1] at h2
   exact h2
  ·
   rw[if_neg (by omega)] at h
   cases h
theorem head_or{l:List Int}:qez 13 (l.count 0) (l.count 1) (l.countP qra)=1→1∈l:=by
 intro h
 unfold qez at h
 by_cases h1:0<l.count 1
 ·
  exact List.count_pos_iff.1 h1
 ·
  split at h
  ·
   cases h
  ·
   rw[if_neg (by omega)] at h
   cases h
theorem skips_noneW{rs:List (List Vl)}{cols:Int}{fs:List Fl}(hrs:∀r∈rs,(r.length:Int)=cols)(hfl:(fs.length:Int)=cols)(hfs:∀k (hk:k<fs.length),HoldsF fs[k] (colL rs k)){r:List Vl}(hr:r∈rs) :
  ∀(p:Pr) (deep:Int),uv p cols deep=true→qhr p fs=true→qeb p r≠1:=by
 refine Pr.ind fun p ih deep hp hk hy => ?_
 rw[skipP_eq] at hk
 rw[saysP_eq] at hy
 by_cases h12:12≤p.kind
 ·
  rw[if_pos h12] at hk hy
  obtain⟨h14,_,h1,_,hq⟩:=qlp hp h12
  have hk:=of_decide_eq_true hk
  rcases hk with ⟨e,hk⟩ | ⟨e,hk⟩
  ·
   rw[e] at hy
   obtain⟨q,hq1,hq2⟩:=count_true.1 hk
   exact ih q hq1 _ (hq q hq1) hq2 (head_and hy _ (xq (f:=fun q=>qeb q r) hq1))
  ·
   rw[e] at hy
   obtain⟨q,hq1,hq2⟩:=zn.1 (head_or hy)
   exact ih q hq1 _ (hq q hq1) (count_all hk q hq1) hq2
 ·
  rw[if_neg h12] at hk hy
  obtain⟨_,h2,h3,_⟩:=qlo hp h12
  have hc:p.col.toNat<fs.length:=by omega
  have hrl:(r.length:Int)=cols:=hrs r hr
  have hcr:p.col.toNat<r.length:=by omega
  rw[qe hc,xj] at hk
  rw[qe hcr,xj] at hy
  exact leaf_none (hfs _ hc) hk (fun hn=>colL_there hr (qe hcr) hn) hy
def flS(c:ColS):Fl:=⟨c.b,c.gs,c.rs⟩
theorem colL_texts{rs:List (List Vl)}{k:Nat}(h:∀r∈rs,k<r.length):colL rs k=qw (rs.map fun r=>r.getD k ⟨true,⟨#[]⟩⟩):=by
 induction rs with
 | nil=>rfl
 | cons r rs ih =>
  have h1:=h r jb
  have h2:=ih fun x hx=>h x (jm _ hx)
  have e:r.getD k ⟨true,⟨#[]⟩⟩=r[k]:=by simp[List.getD,qe h1]
  unfold colL qw at h2 ⊢
  rw[List.filterMap_cons,ym,e,qe h1,vb]
  cases hn:r[k].null with
  | true=>simp[hn,h2]
  | false=>simp[hn,h2]
theorem rowsG_col{g:GrpS}{n k:Nat}(h:g.Ok n)(hk:k<g.cols.length):(qiw g).map (fun r=>r.getD k ⟨true,⟨#[]⟩⟩)=qbn g.cols[k].ck:=by
 have hc:=h.cols _ (qj hk)
 have hl:(qbn g.cols[k].ck).length=g.rows:=(qdw _).trans hc.len
 unfold qiw
 apply List.ext_getElem
 ·
  simp[hl]
 ·
  intro i h1 h2
  have hi:i<g.rows:=by omega
  simp only[yz,List.getElem_range,qln,List.getD,ke,qe hk,qap,xj]
  rw[qe h2,xj]
theorem colL_group{g:GrpS}{n k:Nat}(h:g.Ok n)(hk:k<g.cols.length):colL (qiw g) k=qfx g.cols[k].ck:=by
 rw[colL_texts,rowsG_col h hk,vals_texts (h.cols _ (qj hk)).ck]
 intro r hr
 obtain⟨i,_,rfl⟩:=zn.1 hr
 rw[qgb]
 exact hk
theorem holds_group{g:GrpS}{n k:Nat}(h:g.Ok n)(hk:k<g.cols.length):HoldsF (flS g.cols[k]) (colL (qiw g) k):=by
 rw[colL_group h hk]
 obtain⟨t,h1,h2,h3⟩:=(h.cols _ (qj hk)).of
 intro s hs x hx
 have hm:x∈t:=(h1.mem x).2 (mem_allL.2 ⟨_,xq hs,hx⟩)
 show qk9 g.cols[k].b g.cols[k].gs g.cols[k].rs x=true
 rw[h2,h3]
 by_cases h0:g.cols[k].b=0
 ·
  rw[h0,has_list,if_pos rfl]
  exact qp hm
 ·
  rw[if_neg h0,if_neg h0]
  exact has_set (by omega) hm
def qr4(g:GrpS):List Fl:=g.cols.map flS
theorem group_none{g:GrpS}{n:Nat}(h:g.Ok n){r:List Vl}(hr:r∈qiw g)(p:Pr)(deep:Int)(hp:uv p (n:Int) deep=true)(hs:qhr p (qr4 g)=true):qeb p r≠1:=by
 refine skips_noneW (cols:=(n:Int)) (fun x hx => ?_) ?_ (fun k hk => ?_) hr p deep hp hs
 ·
  obtain⟨i,_,rfl⟩:=zn.1 hx
  rw[qgb,h.len]
 ·
  rw[qr4,q8,h.len]
 ·
  have hk2:k<g.cols.length:=by simpa[qr4] using hk
  have:=holds_group h hk2
  simpa[qr4] using this
theorem rowsS_part{gs:List GrpS}{k:Nat}(hk:k<gs.length):((qeu gs).drop (qas (gs.take k))).take gs[k].rows=qiw gs[k]:=by
 have e:gs=gs.take k++(gs[k] :: gs.drop (k+1)):=by rw[←zv hk,zx]
 have e2:qeu gs=qeu (gs.take k)++(qiw gs[k]++qeu (gs.drop (k+1))):=by
  conv=>lhs;rw[e]
  unfold qeu
  rw[jg,qdb,ym,qaa]
 rw[e2,List.drop_left' (qou _),List.take_left' (qov _)]
theorem GrM.fls{w:World}{lo:Nat}{r:Gr}{g:GrpS}(h:GrM w lo r)(hg:r.toS=g):Fls w 0 w.heap.size r.fA r.fc (qr4 g) (fun j=>(r.its[j]?.map fun t=>t.e.gA).getD none) (fun j=>(r.its[j]?.map fun t=>t.e.gc).getD 0) (fun j=>(r.its[j]?.map fun t=>t.e.rA).getD none) (fun j=>(r.its[j]?.map fun t=>t.e.rc).getD 0):=by
 subst hg
 have hl:(qr4 r.toS).length=r.its.length:=by simp[qr4,Gr.toS]
 have hf:∀j (hj:j<r.its.length),(qr4 r.toS)[j]? = some ⟨r.its[j].e.b,r.its[j].e.gs,r.its[j].e.rs⟩:=fun j hj=>by
  have ht:=h.its _ (qj hj)
  simp only[qr4,Gr.toS,ke,qe hj,qap]
  rw[ht.b,ht.gs,ht.rs]
  rfl
 refine⟨?_,fun j hj => ?_,fun j hj => ?_⟩
 ·
  rw[hl]
  have h1:=h.fil.wide (qi _) (qc w.heap.size)
  refine⟨h1.len,h1.cap,fun hp => ?_⟩
  obtain⟨b,off,e1,e2,e3,e4⟩:=h1.lies hp
  refine⟨b,off,e1,e2,e3,fun j hj i hi=>(e4 j hj i hi).trans ?_⟩
  rw[hf j hj]
  simp[qe hj,qfk]
 ·
  have hj2:j<r.its.length:=by omega
  have ht:=h.its _ (qj hj2)
  have e:=hf j hj2
  rw[qe hj] at e
  rw[jh e]
  simp only[qe hj2,qap,xj]
  exact ht.list.wide (qi _) (qc _)
 ·
  have hj2:j<r.its.length:=by omega
  have ht:=h.its _ (qj hj2)
  have e:=hf j hj2
  rw[qe hj] at e
  rw[jh e]
  simp only[qe hj2,qap,xj]
  exact ht.set.wide (qi _) (qc _)
theorem idx_right{w:World}{lo hi B0 B1:Nat}{ks:List Pr}{A:Option Addr}{c:Nat}(hk:Kin w lo hi ks A c)(hhi:hi≤w.heap.size)(f:Pr→Bool)
  (hq:∀q∈ks,∀W,Below w.heap.size w W→∀A2 c2,PrOk q→Kin W lo hi q.kids A2 c2→Calls Tryz.prog 182 #[.agg #[.int .i64 q.kind,.int .i64 q.col,.string q.s,.int .i64 q.esc,.int .i64 q.coll,.slice A2 q.kids.length c2],.pointer (some ⟨B0,0,none⟩),.pointer (some ⟨B1,0,none⟩)] W fun r w'=>r= .returned (.bool (f q))∧Below W.heap.size W w') :
  Calls Tryz.prog 143 #[.slice A ks.length c,.func (.func 182) #[] #[.pointer (some ⟨B0,0,none⟩),.pointer (some ⟨B1,0,none⟩)]] w fun r w'=>∃z:Int,r= .returned (.int .i64 z)∧decide (0≤z)=ks.any f∧Below w.heap.size w w':=by
 have HQ:=qa hq
 have HK:=qa hk
 obtain⟨hl1,hl2⟩:=hk.len
 clear hq hk
 go_enter Tryz.func143,Tryz.ntmps143
 go_wp2_with fail
 go_loopw [8] (fun x8 wr=>∃k:Nat,k≤ks.length∧x8= .int .i64 (k:Int)∧(ks.take k).any f=false∧Below w.heap.size w wr) (fun x8 _=>ks.length-(intOf x8).toNat)
 case atStart=>exact⟨0,qi _,rfl,rfl,Below.refl _ _⟩
 case round =>
  obtain⟨k,hkl,rfl,hno,hb⟩:=hrel
  have HN:=qa hno
  have HB:=qa hb
  have hsz:=hb.size
  clear hno hb
  by_cases hlt:k<ks.length
  ·
   have ik:(k:Int)<(ks.length:Int):=by omega
   obtain⟨bk,off,kA,kc,rfl,hlo,hbh,c0,c1,c2,c3,c4,c5,hok,hkk⟩:=(HK.out.kept HB.out hhi).six hlt
   have HC:=qa (HQ.out ks[k] (qj hlt) wr HB.out kA kc hok hkk)
   have HT:Hid ((ks.take (k+1)).any f=f ks[k]):=by
    unfold Hid
    rw[qg hlt,List.any_append,HN.out]
    simp
   have HY:Hid (f ks[k]=true→ks.any f=true):=fun h=>kv.2 ⟨_,qj hlt,h⟩
   generalize ks[k]=q at *
   obtain⟨v,hv⟩:∃v,f q=v:=⟨_,rfl⟩
   rw[hv] at HC HT HY
   clear hv hok hkk
   go_wp2_with fail
   refine HC.out.mono ?_
   rintro r w3 ⟨rfl,q3⟩
   have HB3:=qa (qz HB.out q3 hsz)
   clear q3
   cases v with
   | true =>
    have HV:=qa (HY.out rfl)
    clear HY HT
    go_wp2_with fail
    go_ret
    exact⟨_,rfl,by rw[HV.out];exact qp (by omega),HB3.out⟩
   | false =>
    clear HY
    go_wp2_with fail
    go_roundw
    case rel=>exact⟨k+1,by omega,by go_num,HT.out,HB3.out⟩
    case measure=>simp[intOf] <;> omega
  ·
   have ik:¬(k:Int)<(ks.length:Int):=by omega
   have HV:Hid (ks.any f=false):=by
    have:=HN.out
    rwa [qo (by omega)] at this
   go_wp2_with fail
   go_ret
   exact⟨-1,rfl,by rw[HV.out];exact ql (by omega),HB.out⟩
theorem has_right{w:World}{lo hi B0 B1:Nat}{ks:List Pr}{A:Option Addr}{c:Nat}(hk:Kin w lo hi ks A c)(hhi:hi≤w.heap.size)(f:Pr→Bool)
  (hq:∀q∈ks,∀W,Below w.heap.size w W→∀A2 c2,PrOk q→Kin W lo hi q.kids A2 c2→Calls Tryz.prog 182 #[.agg #[.int .i64 q.kind,.int .i64 q.col,.string q.s,.int .i64 q.esc,.int .i64 q.coll,.slice A2 q.kids.length c2],.pointer (some ⟨B0,0,none⟩),.pointer (some ⟨B1,0,none⟩)] W fun r w'=>r= .returned (.bool (f q))∧Below W.heap.size W w') :
  Calls Tryz.prog 96 #[.slice A ks.length c,.func (.func 182) #[] #[.pointer (some ⟨B0,0,none⟩),.pointer (some ⟨B1,0,none⟩)]] w fun r w'=>r= .returned (.bool (ks.any f))∧Below w.heap.size w w':=by
 have HI:=qa (idx_right hk hhi f hq)
 clear hq hk
 go_enter Tryz.func96,Tryz.ntmps96
 go_wp2_with fail
 refine HI.out.mono ?_
 rintro r w' ⟨z,rfl,hz,hb⟩
 have HB:=qa hb
 have HZ:=qa hz
 clear hb hz
 go_wp2_with fail
 go_ret
 exact⟨zf HZ.out,HB.out⟩
theorem idx_skip{w:World}{lo hi B0:Nat}{ks:List Pr}{A:Option Addr}{c:Nat}(hk:Kin w lo hi ks A c)(hhi:hi≤w.heap.size)(f:Pr→Bool)
  (hq:∀q∈ks,∀W,Below w.heap.size w W→∀A2 c2,PrOk q→Kin W lo hi q.kids A2 c2→Calls Tryz.prog 97 #[.agg #[.int .i64 q.kind,.int .i64 q.col,.string q.s,.int .i64 q.esc,.int .i64 q.coll,.slice A2 q.kids.length c2],.pointer (some ⟨B0,0,none⟩)] W fun r w'=>r= .returned (.bool (f q))∧Below W.heap.size W w') :
  Calls Tryz.prog 143 #[.slice A ks.length c,.func (.func 97) #[] #[.pointer (some ⟨B0,0,none⟩)]] w fun r w'=>∃z:Int,r= .returned (.int .i64 z)∧decide (0≤z)=ks.any f∧Below w.heap.size w w':=by
 have HQ:=qa hq
 have HK:=qa hk
 obtain⟨hl1,hl2⟩:=hk.len
 clear hq hk
 go_enter Tryz.func143,Tryz.ntmps143
 go_wp2_with fail
 go_loopw [8] (fun x8 wr=>∃k:Nat,k≤ks.length∧x8= .int .i64 (k:Int)∧(ks.take k).any f=false∧Below w.heap.size w wr) (fun x8 _=>ks.length-(intOf x8).toNat)
 case atStart=>exact⟨0,qi _,rfl,rfl,Below.refl _ _⟩
 case round =>
  obtain⟨k,hkl,rfl,hno,hb⟩:=hrel
  have HN:=qa hno
  have HB:=qa hb
  have hsz:=hb.size
  clear hno hb
  by_cases hlt:k<ks.length
  ·
   have ik:(k:Int)<(ks.length:Int):=by omega
   obtain⟨bk,off,kA,kc,rfl,hlo,hbh,c0,c1,c2,c3,c4,c5,hok,hkk⟩:=(HK.out.kept HB.out hhi).six hlt
   have HC:=qa (HQ.out ks[k] (qj hlt) wr HB.out kA kc hok hkk)
   have HT:Hid ((ks.take (k+1)).any f=f ks[k]):=by
    unfold Hid
    rw[qg hlt,List.any_append,HN.out]
    simp
   have HY:Hid (f ks[k]=true→ks.any f=true):=fun h=>kv.2 ⟨_,qj hlt,h⟩
   generalize ks[k]=q at *
   obtain⟨v,hv⟩:∃v,f q=v:=⟨_,rfl⟩
   rw[hv] at HC HT HY
   clear hv hok hkk
   go_wp2_with fail
   refine HC.out.mono ?_
   rintro r w3 ⟨rfl,q3⟩
   have HB3:=qa (qz HB.out q3 hsz)
   clear q3
   cases v with
   | true =>
    have HV:=qa (HY.out rfl)
    clear HY HT
    go_wp2_with fail
    go_ret
    exact⟨_,rfl,by rw[HV.out];exact qp (by omega),HB3.out⟩
   | false =>
    clear HY
    go_wp2_with fail
    go_roundw
    case rel=>exact⟨k+1,by omega,by go_num,HT.out,HB3.out⟩
    case measure=>simp[intOf] <;> omega
  ·
   have ik:¬(k:Int)<(ks.length:Int):=by omega
   have HV:Hid (ks.any f=false):=by
    have:=HN.out
    rwa [qo (by omega)] at this
   go_wp2_with fail
   go_ret
   exact⟨-1,rfl,by rw[HV.out];exact ql (by omega),HB.out⟩
theorem has_skip{w:World}{lo hi B0:Nat}{ks:List Pr}{A:Option Addr}{c:Nat}(hk:Kin w lo hi ks A c)(hhi:hi≤w.heap.size)(f:Pr→Bool)
  (hq:∀q∈ks,∀W,Below w.heap.size w W→∀A2 c2,PrOk q→Kin W lo hi q.kids A2 c2→Calls Tryz.prog 97 #[.agg #[.int .i64 q.kind,.int .i64 q.col,.string q.s,.int .i64 q.esc,.int .i64 q.coll,.slice A2 q.kids.length c2],.pointer (some ⟨B0,0,none⟩)] W fun r w'=>r= .returned (.bool (f q))∧Below W.heap.size W w') :
  Calls Tryz.prog 96 #[.slice A ks.length c,.func (.func 97) #[] #[.pointer (some ⟨B0,0,none⟩)]] w fun r w'=>r= .returned (.bool (ks.any f))∧Below w.heap.size w w':=by
 have HI:=qa (idx_skip hk hhi f hq)
 clear hq hk
 go_enter Tryz.func96,Tryz.ntmps96
 go_wp2_with fail
 refine HI.out.mono ?_
 rintro r w' ⟨z,rfl,hz,hb⟩
 have HB:=qa hb
 have HZ:=qa hz
 clear hb hz
 go_wp2_with fail
 go_ret
 exact⟨zf HZ.out,HB.out⟩
theorem idx_stay{w:World}{lo hi B0:Nat}{ks:List Pr}{A:Option Addr}{c:Nat}(hk:Kin w lo hi ks A c)(hhi:hi≤w.heap.size)(f:Pr→Bool)
  (hq:∀q∈ks,∀W,Below w.heap.size w W→∀A2 c2,PrOk q→Kin W lo hi q.kids A2 c2→Calls Tryz.prog 98 #[.agg #[.int .i64 q.kind,.int .i64 q.col,.string q.s,.int .i64 q.esc,.int .i64 q.coll,.slice A2 q.kids.length c2],.pointer (some ⟨B0,0,none⟩)] W fun r w'=>r= .returned (.bool (f q))∧Below W.heap.size W w') :
  Calls Tryz.prog 143 #[.slice A ks.length c,.func (.func 98) #[] #[.pointer (some ⟨B0,0,none⟩)]] w fun r w'=>∃z:Int,r= .returned (.int .i64 z)∧decide (0≤z)=ks.any f∧Below w.heap.size w w':=by
 have HQ:=qa hq
 have HK:=qa hk
 obtain⟨hl1,hl2⟩:=hk.len
 clear hq hk
 go_enter Tryz.func143,Tryz.ntmps143
 go_wp2_with fail
 go_loopw [8] (fun x8 wr=>∃k:Nat,k≤ks.length∧x8= .int .i64 (k:Int)∧(ks.take k).any f=false∧Below w.heap.size w wr) (fun x8 _=>ks.length-(intOf x8).toNat)
 case atStart=>exact⟨0,qi _,rfl,rfl,Below.refl _ _⟩
 case round =>
  obtain⟨k,hkl,rfl,hno,hb⟩:=hrel
  have HN:=qa hno
  have HB:=qa hb
  have hsz:=hb.size
  clear hno hb
  by_cases hlt:k<ks.length
  ·
   have ik:(k:Int)<(ks.length:Int):=by omega
   obtain⟨bk,off,kA,kc,rfl,hlo,hbh,c0,c1,c2,c3,c4,c5,hok,hkk⟩:=(HK.out.kept HB.out hhi).six hlt
   have HC:=qa (HQ.out ks[k] (qj hlt) wr HB.out kA kc hok hkk)
   have HT:Hid ((ks.take (k+1)).any f=f ks[k]):=by
    unfold Hid
    rw[qg hlt,List.any_append,HN.out]
    simp
   have HY:Hid (f ks[k]=true→ks.any f=true):=fun h=>kv.2 ⟨_,qj hlt,h⟩
   generalize ks[k]=q at *
   obtain⟨v,hv⟩:∃v,f q=v:=⟨_,rfl⟩
   rw[hv] at HC HT HY
   clear hv hok hkk
   go_wp2_with fail
   refine HC.out.mono ?_
   rintro r w3 ⟨rfl,q3⟩
   have HB3:=qa (qz HB.out q3 hsz)
   clear q3
   cases v with
   | true =>
    have HV:=qa (HY.out rfl)
    clear HY HT
    go_wp2_with fail
    go_ret
    exact⟨_,rfl,by rw[HV.out];exact qp (by omega),HB3.out⟩
   | false =>
    clear HY
    go_wp2_with fail
    go_roundw
    case rel=>exact⟨k+1,by omega,by go_num,HT.out,HB3.out⟩
    case measure=>simp[intOf] <;> omega
  ·
   have ik:¬(k:Int)<(ks.length:Int):=by omega
   have HV:Hid (ks.any f=false):=by
    have:=HN.out
    rwa [qo (by omega)] at this
   go_wp2_with fail
   go_ret
   exact⟨-1,rfl,by rw[HV.out];exact ql (by omega),HB.out⟩
theorem has_stay{w:World}{lo hi B0:Nat}{ks:List Pr}{A:Option Addr}{c:Nat}(hk:Kin w lo hi ks A c)(hhi:hi≤w.heap.size)(f:Pr→Bool)
  (hq:∀q∈ks,∀W,Below w.heap.size w W→∀A2 c2,PrOk q→Kin W lo hi q.kids A2 c2→Calls Tryz.prog 98 #[.agg #[.int .i64 q.kind,.int .i64 q.col,.string q.s,.int .i64 q.esc,.int .i64 q.coll,.slice A2 q.kids.length c2],.pointer (some ⟨B0,0,none⟩)] W fun r w'=>r= .returned (.bool (f q))∧Below W.heap.size W w') :
  Calls Tryz.prog 96 #[.slice A ks.length c,.func (.func 98) #[] #[.pointer (some ⟨B0,0,none⟩)]] w fun r w'=>r= .returned (.bool (ks.any f))∧Below w.heap.size w w':=by
 have HI:=qa (idx_stay hk hhi f hq)
 clear hq hk
 go_enter Tryz.func96,Tryz.ntmps96
 go_wp2_with fail
 refine HI.out.mono ?_
 rintro r w' ⟨z,rfl,hz,hb⟩
 have HB:=qa hb
 have HZ:=qa hz
 clear hb hz
 go_wp2_with fail
 go_ret
 exact⟨zf HZ.out,HB.out⟩
theorem idx_run{w:World}{lo hi B0 B1:Nat}{ls:List ByteArray}{A:Option Addr}{c:Nat}(hk:Rd w lo hi A c (sv ls))(hhi:hi≤w.heap.size)(f:ByteArray→Bool)
  (hq:∀x∈ls,∀W,Below w.heap.size w W→Calls Tryz.prog 103 #[.string x,.pointer (some ⟨B0,0,none⟩),.pointer (some ⟨B1,0,none⟩)] W fun r w'=>r= .returned (.bool (f x))∧Below W.heap.size W w') :
  Calls Tryz.prog 147 #[.slice A ls.length c,.func (.func 103) #[] #[.pointer (some ⟨B0,0,none⟩),.pointer (some ⟨B1,0,none⟩)]] w fun r w'=>∃z:Int,r= .returned (.int .i64 z)∧decide (0≤z)=ls.any f∧Below w.heap.size w w':=by
 have HQ:=qa hq
 have HK:=qa hk
 have hl1:=hk.len
 have hl2:=hk.cap
 rw[yg] at hl1
 unfold maxLen at hl2
 clear hq hk
 go_enter Tryz.func147,Tryz.ntmps147
 go_wp2_with fail
 go_loopw [8] (fun x8 wr=>∃k:Nat,k≤ls.length∧x8= .int .i64 (k:Int)∧(ls.take k).any f=false∧Below w.heap.size w wr) (fun x8 _=>ls.length-(intOf x8).toNat)
 case atStart=>exact⟨0,qi _,rfl,rfl,Below.refl _ _⟩
 case round =>
  obtain⟨k,hkl,rfl,hno,hb⟩:=hrel
  have HN:=qa hno
  have HB:=qa hb
  have hsz:=hb.size
  clear hno hb
  by_cases hlt:k<ls.length
  ·
   have ik:(k:Int)<(ls.length:Int):=by omega
   obtain⟨bk,off,rfl,hlo,hbh,c0⟩:=(HK.out.below HB.out hhi).str hlt
   have HC:=qa (HQ.out ls[k] (qj hlt) wr HB.out)
   have HT:Hid ((ls.take (k+1)).any f=f ls[k]):=by
    unfold Hid
    rw[qg hlt,List.any_append,HN.out]
    simp
   have HY:Hid (f ls[k]=true→ls.any f=true):=fun h=>kv.2 ⟨_,qj hlt,h⟩
   generalize ls[k]=q at *
   obtain⟨v,hv⟩:∃v,f q=v:=⟨_,rfl⟩
   rw[hv] at HC HT HY
   clear hv
   go_wp2_with fail
   refine HC.out.mono ?_
   rintro r w3 ⟨rfl,q3⟩
   have HB3:=qa (qz HB.out q3 hsz)
   clear q3
   cases v with
   | true =>
    have HV:=qa (HY.out rfl)
    clear HY HT
    go_wp2_with fail
    go_ret
    exact⟨_,rfl,by rw[HV.out];exact qp (by omega),HB3.out⟩
   | false =>
    clear HY
    go_wp2_with fail
    go_roundw
    case rel=>exact⟨k+1,by omega,by go_num,HT.out,HB3.out⟩
    case measure=>simp[intOf] <;> omega
  ·
   have ik:¬(k:Int)<(ls.length:Int):=by omega
   have HV:Hid (ls.any f=false):=by
    have:=HN.out
    rwa [qo (by omega)] at this
   go_wp2_with fail
   go_ret
   exact⟨-1,rfl,by rw[HV.out];exact ql (by omega),HB.out⟩
theorem has_run{w:World}{lo hi B0 B1:Nat}{ls:List ByteArray}{A:Option Addr}{c:Nat}(hk:Rd w lo hi A c (sv ls))(hhi:hi≤w.heap.size)(f:ByteArray→Bool)
  (hq:∀x∈ls,∀W,Below w.heap.size w W→Calls Tryz.prog 103 #[.string x,.pointer (some ⟨B0,0,none⟩),.pointer (some ⟨B1,0,none⟩)] W fun r w'=>r= .returned (.bool (f x))∧Below W.heap.size W w') :
  Calls Tryz.prog 100 #[.slice A ls.length c,.func (.func 103) #[] #[.pointer (some ⟨B0,0,none⟩),.pointer (some ⟨B1,0,none⟩)]] w fun r w'=>r= .returned (.bool (ls.any f))∧Below w.heap.size w w':=by
 have HI:=qa (idx_run hk hhi f hq)
 clear hq hk
 go_enter Tryz.func100,Tryz.ntmps100
 go_wp2_with fail
 refine HI.out.mono ?_
 rintro r w' ⟨z,rfl,hz,hb⟩
 have HB:=qa hb
 have HZ:=qa hz
 clear hb hz
 go_wp2_with fail
 go_ret
 exact⟨zf HZ.out,HB.out⟩
end Go.Proofs.YtnjkipnklpkaoaaGreat
