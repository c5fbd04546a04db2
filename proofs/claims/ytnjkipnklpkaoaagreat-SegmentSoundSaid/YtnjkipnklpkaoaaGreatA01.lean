/-
  Lemmas.
-/
import Derived.Test.YtnjkipnklpkaoaaGreatA00
import Derived.Deep.RegionHeld3
import Derived.Lib.Index
import Derived.Lib.IndexMore
import Derived.Lib.ItoaNum
import Derived.Lib.Strings
import Derived.Shelf.Small.Bits
import Derived.StillTailTactics
namespace Go.Proofs.YtnjkipnklpkaoaaGreat
open Go.RowKit
set_option maxRecDepth 20000
set_option maxHeartbeats 16000000
set_option linter.unusedSimpArgs false
set_option linter.unusedVariables false
def qcl(l:List ByteArray):List (List UInt8):=l.map fun s=>s.data.toList
theorem qqq(l:List ByteArray)(i:Nat)(h:i<l.length):qb6 (qcl (l.take (i+1)))=qb6 (qcl (l.take i))++qad l[i].data.toList:=by
 rw[qg h,qcl,jg,qb6,List.flatMap_append,qcl,qb6]
 congr 1
 simp
theorem gramS(s:ByteArray)(k:Nat)(h:k+2<s.size):(qad s.data.toList)[k]'(by rw[qau,zy];show k<s.size-2;omega)=qjw s[k] s[k+1] s[k+2]:=by
 have hl:s.data.toList.length=s.size:=by rw[zy];rfl
 rw[qn8 s.data.toList k (by omega)]
 rfl
theorem qrj(s:ByteArray)(k:Nat)(h:k+2<s.size):(qad s.data.toList).take (k+1)=(qad s.data.toList).take k++[qjw s[k] s[k+1] s[k+2]]:=by
 have hl:s.data.toList.length=s.size:=by rw[zy];rfl
 rw[qg (by rw[qau];omega),gramS s k h]
def qok(w:World)(lo hi:Nat)(v:Value)(b:Nat)(gs:List Nat)(rs:List Bool):Prop :=
 ∃A c B d,v= .agg #[.int .i64 (b:Int),.slice A gs.length c,.slice B rs.length d]∧Rd w lo hi A c (iv (zu gs))∧Rd w lo hi B d (lv rs)
theorem qok.below{w w':World}{lo hi B b:Nat}{v:Value}{gs:List Nat}{rs:List Bool}(h:qok w lo hi v b gs rs)(hb:Below B w w')(hB:hi≤B):qok w' lo hi v b gs rs:=by
 obtain⟨A,c,B',d,rfl,h1,h2⟩:=h
 exact⟨A,c,B',d,rfl,h1.below hb hB,h2.below hb hB⟩
theorem qok.wide{w:World}{lo hi lo' hi' b:Nat}{v:Value}{gs:List Nat}{rs:List Bool}(h:qok w lo hi v b gs rs)(h1:lo'≤lo)(h2:hi≤hi'):qok w lo' hi' v b gs rs:=by
 obtain⟨A,c,B',d,rfl,h3,h4⟩:=h
 exact⟨A,c,B',d,rfl,h3.wide h1 h2,h4.wide h1 h2⟩
theorem qok.drewN{w:World}{lo hi b:Nat}{v:Value}{gs:List Nat}{rs:List Bool}(h:qok w lo hi v b gs rs)(m:Nat):qok (w.drewN m) lo hi v b gs rs:=by
 obtain⟨A,c,B',d,rfl,h1,h2⟩:=h
 exact⟨A,c,B',d,rfl,h1.drewN m,h2.drewN m⟩
theorem Tryz.infoBool:(Tryz.prog.info? 4).map (fun i=>(i.zero,i.size,i.bytes))=some (some (.bool false),1,1):=by kernel_rfl
theorem qf3(w:World)(n:Nat)(h:n≤281474976710656):∃w1,(Instr.makeSlice 65 (.int .i64 (n:Int)) (.int .i64 (n:Int))).run Tryz.prog w= .ok (.slice (some ⟨w.heap.size,0,none⟩) n n) w1∧
  w1.ownsRow w.heap.size 4 1 (.slice (some ⟨w.heap.size,0,none⟩) n n) n (List.replicate n (.bool false))∧w.grownBy w1 none:=by
 obtain⟨i0,hi0,hz0,hz1,hz2⟩:=info_parts Tryz.infoBool
 have:=run_make_full (P:=Tryz.prog) w w.heap.size 65 4 i0 _ 1 Tryz.underlying65 hi0 hz0 hz1 .i64 .i64 n (by rw[hz2];omega) (by simp only[maxLen];omega) (qc _)
 rw[va,show(Value.bool false).cells=#[.bool false] from rfl,toList_madeCells_one] at this
 exact this
def qk0(ys:List Value)(k:Nat)(xs:List Value):Prop:=xs.length=ys.length∧∀j,j<k→xs[j]? = ys[j]?
theorem qd9{ys xs:List Value}(h:xs.length=ys.length):qk0 ys 0 xs:=⟨h,fun j hj=>absurd hj (jp j)⟩
theorem qe1{ys xs:List Value}{k:Nat}(h:qk0 ys k xs)(hk:ys.length≤k):xs=ys:=by
 apply qc3
 intro j
 by_cases hj:j<k
 ·
  exact h.2 j hj
 ·
  rw[jz (by rw[h.1];omega),jz (by omega)]
theorem qay{ys xs:List Value}{k:Nat}(h:qk0 ys k xs)(u:Value)(hu:ys[k]? = some u):qk0 ys (k+1) (xs.set k u):=by
 have hk:k<ys.length:=(zw.1 hu).1
 refine⟨by rw[xt];exact h.1,fun j hj => ?_⟩
 by_cases e:j=k
 ·
  subst e
  rw[qdq (by rw[h.1];exact hk),hu]
 ·
  rw[qbm (by omega)]
  exact h.2 j (by omega)
def qdx(b:Nat)(ts:List Nat):List Bool:=ts.foldl (fun r g=>r.set (ql9 g b) true) (List.replicate b false)
theorem qct(b:Nat)(ts:List Nat):(qdx b ts).length=b:=by
 unfold qdx
 have:∀(ts:List Nat) (r:List Bool),(ts.foldl (fun r g=>r.set (ql9 g b) true) r).length=r.length:=by
  intro ts
  induction ts with
  | nil=>intro r;rfl
  | cons g ts ih=>intro r;rw[List.foldl_cons,ih];simp
 rw[this,List.length_replicate]
theorem setB_snoc(b:Nat)(ts:List Nat)(g:Nat):qdx b (ts++[g])=(qdx b ts).set (ql9 g b) true:=by
 unfold qdx
 rw[List.foldl_append]
 rfl
def one(c:Nat)(x:UInt8):Bool:=c==256||c==x.toNat
structure FilG (b:Nat) (gs:List Nat) (rs:List Bool):Prop where
 le:b≤65536
 rows:rs.length=b
 none:0<b→gs=[]
 up:gs.Pairwise (· < ·)
 lt:∀g∈gs,g<16777216
 few:gs.length≤65536
theorem allL_lt{l:List (List UInt8)}{g:Nat}(h:g∈qb6 l):g<16777216:=by
 obtain⟨s,_,hs⟩:=List.mem_flatMap.1 h
 exact qmx hs
theorem FilG.list{l:List (List UInt8)}{t:List Nat}(h:Rise (qb6 l) t)(hn:(qb6 l).length≤65536):FilG 0 t [] :=
 ⟨by omega,rfl,fun h=>absurd h (qaq 0),h.up,fun g hg=>allL_lt ((h.mem g).1 hg),ze h.len hn⟩
theorem FilG.set{b:Nat}(t:List Nat)(hb:b≤65536):FilG b [] (qdx b t) :=
 ⟨hb,qct b t,fun _=>rfl,List.Pairwise.nil,fun g hg=>absurd hg ve,by simp⟩
def qfo(w:Nat):List Nat→Nat
 | []=>0
 | x :: r=>x+2 ^ w*qfo w r
def xm:Nat→Nat→List UInt8
 | 0,_=>[]
 | m+1,V=>UInt8.ofNat (V%256) :: xm m (V/256)
def qbg:List UInt8→Nat
 | []=>0
 | b :: r=>b.toNat+256*qbg r
theorem qkr(V:Nat):(UInt8.ofNat (V%256)).toNat=V%256:=by rw[xh];omega
theorem qmh(w:Nat)(l:List Nat)(x:Nat):qfo w (l++[x])=qfo w l+2 ^ (w*l.length)*x:=by
 induction l with
 | nil=>simp[qfo]
 | cons y r ih =>
  simp only[z6,qfo,ih,qt]
  rw[qds w,va,Nat.add_comm (w*r.length),vq,qds,qdr]
  omega
theorem qol(w:Nat)(l:List Nat)(h:∀x∈l,x<2 ^ w):qfo w l<2 ^ (w*l.length):=by
 induction l with
 | nil=>simp[qfo]
 | cons y r ih =>
  simp only[qfo,qt]
  rw[qds w,va,Nat.add_comm (w*r.length),vq]
  have h1:=h y (by simp)
  have h2:=ih fun x hx=>h x (by simp[hx])
  calc y+2 ^ w*qfo w r<2 ^ w+2 ^ w*qfo w r:=by omega
   _=2 ^ w*(qfo w r+1):=by rw[qds,va];omega
   _≤2 ^ w*2 ^ (w*r.length):=qc9 _ h2
theorem vsum_get(w:Nat)(l:List Nat)(h:∀x∈l,x<2 ^ w)(i:Nat)(hi:i<l.length):qfo w l/2 ^ (w*i)%2 ^ w=l[i]:=by
 induction l generalizing i with
 | nil=>simp at hi
 | cons y r ih =>
  have h1:=h y (by simp)
  have hp:0<2 ^ w:=qej w
  rcases i with _ | i
  ·
   simp only[Nat.mul_zero,Nat.pow_zero,Nat.div_one,qfo,qdp,Nat.add_mul_mod_self_left]
   exact vd h1
  ·
   rw[qds w,va,Nat.add_comm (w*i),vq,←ul]
   have e:qfo w (y :: r)/2 ^ w=qfo w r:=by
    simp only[qfo]
    rw[Nat.add_mul_div_left _ _ hp,Nat.div_eq_of_lt h1];omega
   rw[e]
   exact ih (fun x hx=>h x (by simp[hx])) i (by simpa using hi)
theorem vx(m V:Nat):(xm m V).length=m:=by
 induction m generalizing V with
 | zero=>rfl
 | succ m ih=>simp only[xm,qt,ih]
theorem qe6(m V:Nat):xm (m+1) V=xm m V++[UInt8.ofNat (V/256 ^ m%256)]:=by
 induction m generalizing V with
 | zero=>simp[xm]
 | succ m ih =>
  rw[xm,ih (V/256),xm,z6,ul,kt,xo 256]
theorem bytesN_mod(m V:Nat):xm m (V%256 ^ m)=xm m V:=by
 induction m generalizing V with
 | zero=>rfl
 | succ m ih =>
  simp only[xm]
  rw[kt,xo (256 ^ m),Nat.mod_mul_right_mod,Nat.mod_mul_right_div_self,ih]
theorem qrs(m V y:Nat):xm m (V+256 ^ m*y)=xm m V:=by
 rw[←bytesN_mod,Nat.add_mul_mod_self_left,bytesN_mod]
theorem bval_lt(bs:List UInt8):qbg bs<256 ^ bs.length:=by
 induction bs with
 | nil=>simp[qbg]
 | cons b r ih =>
  have:=zp b
  simp only[qbg,qt,kt]
  omega
theorem bval_bytesN(m V:Nat):qbg (xm m V)=V%256 ^ m:=by
 induction m generalizing V with
 | zero=>simp[xm,qbg,Nat.mod_one]
 | succ m ih =>
  simp only[xm,qbg,ih,qkr]
  rw[kt,xo (256 ^ m),Nat.mod_mul]
theorem bytesN_bval(bs:List UInt8):xm bs.length (qbg bs)=bs:=by
 induction bs with
 | nil=>rfl
 | cons b r ih =>
  have:=zp b
  simp only[qt,xm,qbg]
  rw[show(b.toNat+256*qbg r)%256=b.toNat from by omega,show(b.toNat+256*qbg r)/256=qbg r from by omega,ih]
  simp
theorem bval_append(a b:List UInt8):qbg (a++b)=qbg a+256 ^ a.length*qbg b:=by
 induction a with
 | nil=>simp[qbg]
 | cons x r ih =>
  simp only[z6,qbg,ih,qt,kt]
  rw[xo (256 ^ r.length) 256,qdr]
  omega
theorem bval_at(bs:List UInt8)(j:Nat)(h:j<bs.length):qbg bs/256 ^ j%256=bs[j].toNat:=by
 induction bs generalizing j with
 | nil=>simp at h
 | cons b r ih =>
  have:=zp b
  rcases j with _ | j
  ·
   simp only[qbg,Nat.pow_zero,Nat.div_one,qdp]
   omega
  ·
   rw[kt,xo (256 ^ j),←ul]
   simp only[qbg,List.getElem_cons_succ]
   rw[show(b.toNat+256*qbg r)/256=qbg r from by omega]
   exact ih j (by simpa using h)
theorem qii(n:Nat):256 ^ n=2 ^ (8*n):=by rw[Nat.pow_mul]
theorem bval_over(bs:List UInt8)(n:Nat)(h:8*bs.length≤n):qbg bs/2 ^ n=0:=by
 apply Nat.div_eq_of_lt
 have:=bval_lt bs
 rw[qii] at this
 exact ja this (yb (by omega) h)
def qa6(w:Nat)(l:List Nat):List UInt8:=xm ((l.length*w+7)/8) (qfo w l)
theorem qcu(w:Nat)(l:List Nat):(qa6 w l).length=(l.length*w+7)/8:=vx _ _
def qje(bs:List UInt8)(w i:Nat):Nat:=qbg bs/2 ^ (w*i)%2 ^ w
theorem getN_lt(bs:List UInt8)(w i:Nat):qje bs w i<2 ^ w:=qak _ (qej w)
theorem qog(w:Nat)(l:List Nat)(h:∀x∈l,x<2 ^ w):qbg (qa6 w l)=qfo w l:=by
 unfold qa6
 rw[bval_bytesN]
 apply vd
 refine ja (qol w l h) ?_
 rw[qii]
 refine yb (by omega) ?_
 rw[xo w]
 generalize l.length*w=n
 omega
theorem get_pack(w:Nat)(l:List Nat)(h:∀x∈l,x<2 ^ w)(i:Nat)(hi:i<l.length):qje (qa6 w l) w i=l[i]:=by
 unfold qje
 rw[qog w l h,vsum_get w l h i hi]
def qci(bs:List UInt8)(w n:Nat):List Nat:=(List.range n).map (qje bs w)
theorem qd1(bs:List UInt8)(w n:Nat):(qci bs w n).length=n:=by simp[qci]
theorem getsN_succ(bs:List UInt8)(w n:Nat):qci bs w (n+1)=qci bs w n++[qje bs w n]:=by simp[qci,List.range_succ]
theorem getsN_get(bs:List UInt8)(w n i:Nat)(h:i<n):(qci bs w n)[i]? = some (qje bs w i):=by simp[qci,h]
theorem getsN_lt(bs:List UInt8)(w n:Nat):∀x∈qci bs w n,x<2 ^ w:=by
 intro x hx
 obtain⟨i,_,rfl⟩:=zn.1 hx
 exact getN_lt _ _ _
theorem vsum_getsN(bs:List UInt8)(w n:Nat):qfo w (qci bs w n)=qbg bs%2 ^ (w*n):=by
 induction n with
 | zero=>simp[qci,qfo,Nat.mod_one]
 | succ n ih =>
  rw[getsN_succ,qmh,ih,qd1,qds w,va,vq,Nat.mod_mul]
  rfl
theorem pack_gets(bs:List UInt8)(w n:Nat)(hl:bs.length=(n*w+7)/8)(hb:qbg bs<2 ^ (n*w)):qa6 w (qci bs w n)=bs:=by
 unfold qa6
 rw[qd1,←hl,vsum_getsN,xo w,vd hb,bytesN_bval]
theorem gets_pack(w:Nat)(l:List Nat)(h:∀x∈l,x<2 ^ w):qci (qa6 w l) w l.length=l:=by
 apply qc3
 intro i
 by_cases hi:i<l.length
 ·
  rw[getsN_get _ _ _ _ hi,get_pack w l h i hi,qe hi]
 ·
  rw[jz (by rw[qd1];omega),jz (by omega)]
theorem filled_iff(bs:List UInt8)(n:Nat)(hl:bs.length=(n+7)/8)(hn:n%8≠0):(bs.getLastD 0).toNat/2 ^ (n%8)=0↔qbg bs<2 ^ n:=by
 rcases List.eq_nil_or_concat bs with rfl | ⟨r,x,rfl⟩
 ·
  simp at hl;omega
 ·
  have hr:r.length=n/8:=by simp at hl;omega
  have e2:2 ^ n=256 ^ (n/8)*2 ^ (n%8):=by
   rw[qii,←vq]
   congr 1
   omega
  have hp:0<256 ^ (n/8):=Nat.pow_pos (by omega)
  have hb:=bval_lt r
  rw[hr] at hb
  rw[List.concat_eq_append,List.getLastD_concat,bval_append,hr,e2]
  have e1:qbg [x]=x.toNat:=by simp[qbg]
  rw[e1,Nat.div_eq_zero_iff_lt (qej _)]
  constructor
  ·
   intro h
   calc qbg r+256 ^ (n/8)*x.toNat<256 ^ (n/8)+256 ^ (n/8)*x.toNat:=by omega
    _=256 ^ (n/8)*(x.toNat+1):=by rw[qds,va];omega
    _≤256 ^ (n/8)*2 ^ (n%8):=qc9 _ h
  ·
   intro h
   rcases xc x.toNat (2 ^ (n%8)) with h1 | h1
   ·
    exact h1
   ·
    have:=qc9 (256 ^ (n/8)) h1
    omega
theorem filled_all(bs:List UInt8)(n:Nat)(hl:bs.length=(n+7)/8)(hn:n%8=0):qbg bs<2 ^ n:=by
 have h:=bval_lt bs
 rw[qii,hl] at h
 rw[show 8*((n+7)/8)=n from by omega] at h
 exact h
theorem len_bounds(x:Nat)(hx:x<2 ^ 64)(h0:x≠0):1≤Lib.bitLen x∧2 ^ (Lib.bitLen x-1)≤x∧x<2 ^ Lib.bitLen x:=Lib.bitLenAux_bounds 64 x hx h0
theorem len_lt(x:Nat)(hx:x<2 ^ 64):x<2 ^ Lib.bitLen x:=by
 by_cases h0:x=0
 ·
  subst h0;exact qej _
 ·
  exact(len_bounds x hx h0).2.2
def grt(zs:List Int):Int:=zs.foldl max 0
theorem grt_snoc(zs:List Int)(z:Int):grt (zs++[z])=max (grt zs) z:=by simp[grt]
theorem grt_take(zs:List Int)(k:Nat)(h:k<zs.length):grt (zs.take (k+1))=max (grt (zs.take k)) zs[k]:=by
 rw[qg h,grt_snoc]
theorem foldl_max(zs:List Int):∀a:Int,a≤zs.foldl max a∧∀z∈zs,z≤zs.foldl max a:=by
 induction zs with
 | nil=>intro a;exact⟨Int.le_refl _,by simp⟩
 | cons y r ih =>
  intro a
  obtain⟨h1,h2⟩:=ih (max a y)
  refine⟨by simp only[List.foldl_cons];omega,fun z hz => ?_⟩
  simp only[List.foldl_cons]
  rcases jc.1 hz with rfl | hz
  ·
   omega
  ·
   exact h2 z hz
theorem grt_ge(zs:List Int):0≤grt zs:=(foldl_max zs 0).1
theorem grt_all(zs:List Int):∀z∈zs,z≤grt zs:=(foldl_max zs 0).2
theorem foldl_max_le(zs:List Int)(m:Int)(h:∀z∈zs,z≤m):∀a:Int,a≤m→zs.foldl max a≤m:=by
 induction zs with
 | nil=>intro a ha;exact ha
 | cons y r ih =>
  intro a ha
  simp only[List.foldl_cons]
  exact ih (fun z hz=>h z (by simp[hz])) _ (by have:=h y (by simp);omega)
theorem grt_le(zs:List Int)(m:Int)(hm:0≤m)(h:∀z∈zs,z≤m):grt zs≤m:=foldl_max_le zs m h 0 hm
def wide(zs:List Int):Nat:=Lib.bitLen (grt zs).toNat
theorem word_grt{zs:List Int}(h:qj8 zs):grt zs≤9223372036854775807:=grt_le zs _ (by omega) fun z hz=>(h z hz).2
theorem wide_le(zs:List Int)(m:Nat)(hm:m≤64)(h:∀z∈zs,z<2 ^ m):wide zs≤m:=by
 refine Lib.bitLen_le _ m hm ?_
 have hp:(0:Int)<2 ^ m:=Int.pow_pos (by omega)
 have h1:=grt_le zs (2 ^ m-1) (by omega) (fun z hz=>by have:=h z hz;omega)
 have e:((2 ^ m:Nat):Int)=2 ^ m:=by norm_cast
 omega
theorem wide_lt{zs:List Int}(hw:qj8 zs):∀z∈zs,z<2 ^ wide zs:=by
 intro z hz
 have h1:=grt_all zs z hz
 have h2:=word_grt hw
 have h3:=len_lt (grt zs).toNat (by omega)
 have e:((2 ^ wide zs:Nat):Int)=2 ^ wide zs:=by norm_cast
 unfold wide at e ⊢
 have:=grt_ge zs
 omega
def Fits(zs:List Int)(wd:Int):Prop:=0≤wd∧wd≤32∧∀z∈zs,0≤z∧z<2 ^ wd.toNat
instance (zs:List Int) (wd:Int):Decidable (Fits zs wd):=by unfold Fits;infer_instance
def fitB(zs:List Int)(wd:Int):Bool:=decide (Fits zs wd)
def qlq(wd:Int):Bool:=decide (0≤wd∧wd≤32)
def qpw(zs:List Int):Prop:=∀z∈zs,0≤z∧z≤4294967295
instance (zs:List Int):Decidable (qpw zs):=by unfold qpw;infer_instance
theorem qpw.word{zs:List Int}(h:qpw zs):qj8 zs:=fun z hz=>by have:=h z hz;omega
theorem qpw.wide_le{zs:List Int}(h:qpw zs):wide zs≤32:=Go.Proofs.YtnjkipnklpkaoaaGreat.wide_le zs 32 (by omega) fun z hz=>by have:=h z hz;omega
theorem qpw.fits{zs:List Int}(h:qpw zs):Fits zs (wide zs:Int) :=
 ⟨by omega,by have:=h.wide_le;omega,fun z hz=>⟨(h z hz).1,by rw[vf];exact wide_lt h.word z hz⟩⟩
def qbo(zs:List Int):List Nat:=zs.map Int.toNat
theorem ud(zs:List Int):(qbo zs).length=zs.length:=by simp[qbo]
theorem Fits.nats_lt{zs:List Int}{wd:Int}(h:Fits zs wd):∀x∈qbo zs,x<2 ^ wd.toNat:=by
 intro x hx
 obtain⟨z,hz,rfl⟩:=zn.1 hx
 have:=h.2.2 z hz
 have e:((2 ^ wd.toNat:Nat):Int)=2 ^ wd.toNat:=by norm_cast
 omega
theorem qqd(ns:List Nat):qbo (zu ns)=ns:=by
 unfold qbo zu
 rw[ut]
 conv=>rhs;rw[←List.map_id ns]
 exact qb7 fun n _=>by simp
theorem qmv{zs:List Int}(h:∀z∈zs,0≤z):zu (qbo zs)=zs:=by
 unfold qbo zu
 rw[ut]
 conv=>rhs;rw[←List.map_id zs]
 exact qb7 fun z hz=>by have:=h z hz;simp;omega
theorem Rd.byte{w:World}{lo hi c:Nat}{A:Option Addr}{bs:List UInt8}(h:Rd w lo hi A c (bv bs)){k:Nat}(hk:k<bs.length) :
  ∃b off,A=some ⟨b,off,none⟩∧lo≤b∧b<hi∧w.cell? ⟨b,off+k,none⟩=some (.int .u8 (bs[k].toNat:Int)):=by
 obtain⟨b,off,e,h1,h2,h3⟩:=h.at_ (by rw[yh];omega)
 exact⟨b,off,e,h1,h2,h3 k _ (qks bs k hk)⟩
theorem Tryz.infoU8:(Tryz.prog.info? 5).map (fun i=>(i.zero,i.size,i.bytes))=some (some (.int .u8 0),1,1):=by kernel_rfl
theorem qfg(w:World)(base:Nat)(v:Value)(ys bs:List UInt8)(hown:w.ownsRow base 5 1 v ys.length (bv ys)){lo h':Nat}{A:Option Addr}{c:Nat}(hr:Rd w lo h' A c (bv bs))
  (hb:ys.length+bs.length≤140737488355328) (hbase:base≤w.heap.size) :
  ∃A' c' w',(Builtin.append_ #[26,26] 26 #[v,.slice A bs.length c]).run Tryz.prog w= .ok (.slice A' (ys.length+bs.length) c') w'∧
   w'.ownsRow base 5 1 (.slice A' (ys.length+bs.length) c') (ys.length+bs.length) (bv (ys++bs))∧w.grownBy w' v.ownBlock:=by
 obtain⟨i0,hi0,hz0,hz1,hz2⟩:=info_parts Tryz.infoU8
 have hl:=yh bs
 obtain⟨A',c',w',hrun,h2,h3,_⟩:=ui (P:=Tryz.prog) w base 26 26 5 i0 _ 1 Tryz.underlying26 hi0 hz0 hz1 hz2 rfl v ys.length (bv ys) hown lo h' A c (bv bs) hr (bv_one _)
  (by rw[hl];simp only[maxLen];omega) (by rw[hl];omega) hbase
 rw[hl] at hrun h2
 exact⟨A',c',w',hrun,by rw[qj3];exact h2,h3⟩
theorem j9(w:World)(base:Nat)(v:Value)(ys bs cs:List UInt8)(hcs:ys++bs=cs)(hown:w.ownsRow base 5 1 v ys.length (bv ys)){lo h':Nat}{A:Option Addr}{c:Nat}(hr:Rd w lo h' A c (bv bs))
  (hb:ys.length+bs.length≤140737488355328) (hbase:base≤w.heap.size) :
  ∃A' c' w',(Builtin.append_ #[26,26] 26 #[v,.slice A bs.length c]).run Tryz.prog w= .ok (.slice A' cs.length c') w'∧
   w'.ownsRow base 5 1 (.slice A' cs.length c') cs.length (bv cs)∧w.grownBy w' v.ownBlock:=by
 subst hcs
 rw[qd]
 exact qfg w base v ys bs hown hr hb hbase
theorem jab{ops:Array Oper}{rest:List Oper}{o:Oper}{a:Act}{Q:Exit→Act→World→Prop}{w:World}{v:Value}{g:Nat}(base:Nat)(ys:List UInt8)(b:UInt8)(hgd:o.guard=none)(s x:Operand)
  (ho:o.op= .call { callee:= .builtin .append,args:=#[s,x],argTypes:=#[26,26] }) (hty:o.type=26)
  (hs:a.eval s=v) (hx:a.eval x= .slice (some ⟨g,0,none⟩) 1 1) (hcell:w.cell? ⟨g,0,none⟩=some (.int .u8 (b.toNat:Int)))
  (hown:w.ownsRow base 5 1 v ys.length (bv ys)) (hb:ys.length+1≤140737488355328) (hbase:base≤w.heap.size)
  (h:∀A' c' w',w'.ownsRow base 5 1 (.slice A' (ys++[b]).length c') (ys++[b]).length (bv (ys++[b]))→w.grownBy w' v.ownBlock→wpList Tryz.prog ops Q rest (a.put o.dst (.slice A' (ys.length+1) c')) w') :
  wpList Tryz.prog ops Q (o :: rest) a w:=by
 have hr:Rd w 0 w.heap.size (some ⟨g,0,none⟩) 1 (bv [b]):=⟨by simp[bv],by simp[maxLen],fun _=>⟨g,0,rfl,qi _,yv w _ hcell,fun j u hu=>by
  match j,hu with
  | 0,hu =>
   simp[bv] at hu
   subst hu
   exact hcell
  | j+1,hu=>simp[bv] at hu⟩⟩
 obtain⟨A',c',w',hrun,h2,h3⟩:=qfg w base v ys [b] hown hr (by simpa using hb) hbase
 refine wpList_append_run hgd s x _ _ ho hs hx (by rw[hty];exact hrun) (h A' c' w' (by simpa using h2) h3)
theorem qmq(w:World)(l:List UInt8)(cs:Array Value)(h:cs.toList=bv l)(hm:l.length≤1000):(w.alloc (.cells cs 5)).ownsRow w.heap.size 5 1 (.slice (some ⟨w.heap.size,0,none⟩) l.length l.length) l.length (bv l):=by
 have:=vm (e:=5) (size:=1) (base:=w.heap.size) w cs l.length (qc _) (by simp only[maxLen];omega) (by rw[←zy,h,yh,va])
 rwa [h] at this
def qjj(n V:Nat)(ys:List UInt8):Prop:=V<2 ^ n∧ys=xm ((n+7)/8) V
def OpenAt(n V:Nat)(ys:List UInt8):Prop:=V<2 ^ n∧ys=xm (n/8+1) V
theorem qjm(n:Nat):2 ^ n=256 ^ (n/8)*2 ^ (n%8):=by
 rw[←Nat.pow_mul 2 8 (n/8),←vq]
 congr 1
 omega
theorem qir{n V:Nat}{ys:List UInt8}(h:OpenAt n V ys)(x:UInt8)(hx:ys[n/8]? = some x) :
  x.toNat+2 ^ (n%8)<256∧qjj (n+1) (V+2 ^ n) (ys.set (n/8) (UInt8.ofNat (x.toNat+2 ^ (n%8)))):=by
 obtain⟨h1,rfl⟩:=h
 rw[qe6,ku (by rw[vx];exact qc _),vx,Nat.sub_self] at hx
 simp only[q9,Option.some.injEq] at hx
 have h2:=h1
 rw[qjm] at h2
 have h3:=Nat.div_lt_of_lt_mul h2
 have h4:2 ^ (n%8)≤2 ^ 7:=yb (by omega) (by omega)
 have hp:0<256 ^ (n/8):=Nat.pow_pos (by omega)
 have hxv:x.toNat=V/256 ^ (n/8):=by
  rw[←hx,qkr,vd (by omega)]
 rw[hxv]
 refine⟨by omega,by rw[kt];omega,?_⟩
 rw[show(n+1+7)/8=n/8+1 from by omega,qe6,qe6,List.set_append_right _ _ (by rw[vx];exact qc _),vx,Nat.sub_self]
 have e:(V+2 ^ n)/256 ^ (n/8)=V/256 ^ (n/8)+2 ^ (n%8):=by rw[qjm n,Nat.add_mul_div_left _ _ hp]
 rw[e,vd (show V/256 ^ (n/8)+2 ^ (n%8)<256 by omega)]
 congr 1
 rw[qjm n,qrs]
theorem bv_set(l:List UInt8)(j:Nat)(x:UInt8):bv (l.set j x)=(bv l).set j (.int .u8 (x.toNat:Int)):=by simp[bv,List.map_set]
theorem bytesN_add(a b V:Nat):xm (a+b) V=xm a V++xm b (V/256 ^ a):=by
 induction a generalizing V with
 | zero=>simp[xm]
 | succ a ih =>
  rw[Nat.add_right_comm,xm,ih (V/256),xm,z6,ul,kt,xo 256]
theorem last_get(bs:List UInt8)(h:0<bs.length):bs[bs.length-1]=bs.getLastD 0:=by
 rcases List.eq_nil_or_concat bs with rfl | ⟨r,x,rfl⟩
 ·
  simp at h
 ·
  simp
theorem clone_any(bs:List UInt8)(w:World){lo h':Nat}{A:Option Addr}{c:Nat}(h:Rd w lo h' A c (bv bs))(hb:bs.length≤140737488355328) :
  Calls Tryz.prog 80 #[.slice A bs.length c] w fun e w'=>∃A' c',e= .returned (.slice A' bs.length c')∧
   w'.ownsRow w.heap.size 5 1 (.slice A' bs.length c') bs.length (bv bs)∧Below w.heap.size w w':=by
 obtain⟨A',c',w',hrun,hown,hg⟩:=qfg w w.heap.size (.slice none 0 0) [] bs (zh ..) h (by simpa using hb) (qc _)
 simp only[je,xa,yk] at hrun hown
 go_enter Tryz.func80,Tryz.ntmps80
 go_wp2_with (at_builtin;refine wpList_append_run rfl _ _ _ _ rfl rfl rfl hrun ?_)
 go_ret
 exact⟨A',c',rfl,hown,qcd (qc _) hg (by simp[Value.ownBlock])⟩
def vw(w:World)(lo g:Nat)(bs:List UInt8)(k:Nat)(e:Int):Prop :=
 ∃A c,j6 w g 131 #[.slice A bs.length c,.int .i64 (k:Int),.int .i64 e]∧Rd w lo g A c (bv bs)∧k≤bs.length∧lo≤g
def cp(g:Nat):Value:= .pointer (some ⟨g,0,none⟩)
section
variable {w w':World}{lo g k:Nat}{bs:List UInt8}{e:Int}
theorem vw.grown{row:Option Nat}(h:vw w lo g bs k e)(hg:w.grownBy w' row)(hr:∀x,row=some x→x<lo∨g<x):vw w' lo g bs k e:=by
 obtain⟨A,c,hb,hrd,hk,hl⟩:=h
 exact⟨A,c,hb.grown hg (fun e=>by have:=hr _ e.symm;omega),hrd.grown hg (by have:=hb.lt;omega) (fun x hx=>by have:=hr x hx;omega),hk,hl⟩
theorem vw.drewN(h:vw w lo g bs k e)(n:Nat):vw (w.drewN n) lo g bs k e:=by
 obtain⟨A,c,hb,hrd,hk,hl⟩:=h
 exact⟨A,c,hb.drewN n,hrd.drewN n,hk,hl⟩
theorem vw.base(h:vw w lo g bs k e):lo≤g:=by obtain⟨_,_,_,_,_,hl⟩:=h;exact hl
theorem vw.lt(h:vw w lo g bs k e):g<w.heap.size:=by obtain⟨_,_,hb,_⟩:=h;exact hb.lt
end
theorem new_any(bs:List UInt8)(w:World){lo h':Nat}{A:Option Addr}{c:Nat}(h:Rd w lo h' A c (bv bs))(hb:bs.length≤140737488355328) :
  Calls Tryz.prog 43 #[.slice A bs.length c] w fun e w'=>∃g,e= .returned (.pointer (some ⟨g,0,none⟩))∧vw w' w.heap.size g bs 0 0∧Below w.heap.size w w':=by
 go_enter Tryz.func43,Tryz.ntmps43
 go_wp2_with fail
 refine(clone_any bs _ h hb).mono ?_
 rintro e w1 ⟨A',c',rfl,hown,hbel⟩
 go_wp2_with fail
 go_ret
 refine⟨_,rfl,⟨A',c',j6.new _ _ _,(Rd.of_own hown).alloc (qc _) _,qi _,hbel.size⟩,hbel.alloc hbel.size _⟩
theorem xu{w:World}{lo g k:Nat}{bs:List UInt8}{e:Int}(h:vw w lo g bs k e) :
  Calls Tryz.prog 85 #[cp g] w fun x w'=>x= .returned (.bool (e==0))∧w=w':=by
 obtain⟨A,c,hb, -, -, -⟩:=h
 have h2:=hb.cell 2
 simp at h2
 clear hb
 unfold cp
 go_enter Tryz.func85,Tryz.ntmps85
 go_wp2
 go_ret
 exact⟨rfl,rfl⟩
theorem qey{w:World}{lo g k:Nat}{bs:List UInt8}{e:Int}(h:vw w lo g bs k e) :
  Calls Tryz.prog 93 #[cp g] w fun x w'=>x= .returned (.int .i64 ((bs.length-k:Nat):Int))∧∃n,w'=w.drewN n:=by
 obtain⟨A,c,hb,hrd,hk, -⟩:=h
 have h0:=hb.cell 0
 have h1:=hb.cell 1
 simp at h0 h1
 have hm:=hrd.len
 have hm':=hrd.cap
 rw[yh] at hm
 unfold maxLen at hm'
 clear hb hrd
 unfold cp
 rw[Int.ofNat_sub hk]
 go_enter Tryz.func93,Tryz.ntmps93
 go_wp2
 go_quiet (fail)
 go_wp2
 go_ret
 exact⟨rfl,_,rfl⟩
def jo(n:Nat):List UInt8 :=
 if h:n<128 then [UInt8.ofNat n] else UInt8.ofNat (n%128+128) :: jo (n/128)
termination_by n
decreasing_by omega
theorem qc1{n:Nat}(h:n<128):jo n=[UInt8.ofNat n]:=by rw[jo,dif_pos h]
theorem qjq{n:Nat}(h:128≤n):jo n=UInt8.ofNat (n%128+128) :: jo (n/128):=by rw[jo,dif_neg (by omega)]
theorem qi0(k:Nat):∀n:Nat,n<128 ^ (k+1)→(jo n).length≤k+1:=by
 induction k with
 | zero=>intro n h;rw[qc1 (by simpa using h)];simp
 | succ k ih =>
  intro n h
  by_cases hn:n<128
  ·
   rw[qc1 hn];simp
  ·
   rw[qjq (by omega)]
   have:=ih (n/128) (by rw[kt] at h;omega)
   simp only[qt]
   omega
theorem qlv(n:Nat):0<(jo n).length:=by
 by_cases hn:n<128
 ·
  rw[qc1 hn];simp
 ·
  rw[qjq (by omega)];simp
theorem vo(n:Nat)(h:n≤9223372036854775807):(jo n).length≤9:=qi0 8 n (by omega)
theorem or128:∀x:Fin 256,x.val ||| 128=x.val%128+128:=by decide +kernel
theorem or_more(m:Nat):bits .or .u8 ((m:Int)%256) 128=((UInt8.ofNat (m%128+128)).toNat:Int):=by
 have h1:bits .or .u8 ((m%256:Nat):Int) ((128:Nat):Int)=((m%256 ||| 128:Nat):Int):=u8_or_nat _ _ (by omega) (by omega)
 have h2:=or128 ⟨m%256,by omega⟩
 simp only[] at h2
 have h3:(UInt8.ofNat (m%128+128)).toNat=m%128+128:=by rw[xh];omega
 rw[h3,show m%128+128=m%256%128+128 from by omega,←h2,←h1,Int.natCast_emod]
 rfl
def jq(zs:List Int):List UInt8:=jo zs.length++([UInt8.ofNat (wide zs)]++qa6 (wide zs) (qbo zs))
theorem qab{zs:List Int}(h:qpw zs)(hlen:zs.length≤4294967295):(jq zs).length≤4294967295*5:=by
 have h1:=vo zs.length (by omega)
 have h2:=h.wide_le
 have h3:zs.length*wide zs≤4294967295*32:=vz hlen h2
 simp only[jq,qd,qt,je,qcu,ud]
 omega
theorem qik{n:Nat}(h:n<256):(UInt8.ofNat n).toNat=n:=by rw[xh];omega
section
open Go.Shelf
def lenRen:Go.Shelf.Ren:=⟨fun | 125=>195 | 128=>221 | 129=>222 | n=>n,fun | 46=>124 | 3=>3 | 51=>101 | 53=>224 | 4=>4 | 5=>5 | 9=>9 | n=>n,fun | n=>n⟩
theorem lenLays:Go.Proofs.Lays.n125 Tryz.prog lenRen:={
 mixed:=by kernel_rfl
 f125:=Tryz.func195.trans (congrArg some (by kernel_rfl))
 f128:=Tryz.func221.trans (congrArg some (by kernel_rfl))
 f129:=Tryz.func222.trans (congrArg some (by kernel_rfl))
 t3:=Tryz.underlying3
 a3:=Tryz.isAgg3
 z3:=Tryz.sizeOf3
 v3:=Tryz.zeroValue3
 t4:=Tryz.underlying4
 a4:=Tryz.isAgg4
 z4:=Tryz.sizeOf4
 v4:=Tryz.zeroValue4
 t5:=Tryz.underlying5
 a5:=Tryz.isAgg5
 z5:=Tryz.sizeOf5
 v5:=Tryz.zeroValue5
 t9:=Tryz.underlying9
 a9:=Tryz.isAgg9
 z9:=Tryz.sizeOf9
 v9:=Tryz.zeroValue9
 t46:=Tryz.underlying124
 a46:=Tryz.isAgg124
 z46:=Tryz.sizeOf124
 v46:=Tryz.zeroValue124
 t51:=Tryz.underlying101
 a51:=Tryz.isAgg101
 z51:=Tryz.sizeOf101
 v51:=Tryz.zeroValue101
 t53:=Tryz.underlying224
 a53:=Tryz.isAgg224
 z53:=Tryz.sizeOf224
 v53:=Tryz.zeroValue224 }
theorem len_any{w:World}(x:Int)(h0:0≤x)(h1:x≤18446744073709551615) :
  Calls Tryz.prog 195 #[.int .u64 x] w fun e w'=>e= .returned (.int .i64 (Lib.bitLen x.toNat))∧w=w' :=
 (Any.bits_Len lenLays x w h0 h1).mono fun _ _ ⟨h,e⟩=>⟨h,e.symm⟩
end
theorem right_any{w:World}(n:Int) :
  Calls Tryz.prog 166 #[.int .i64 n] w fun r w'=>r= .returned (.bool (qlq n))∧w=w':=by
 unfold qlq
 by_cases h0:0≤n
 ·
  by_cases h1:n≤32
  ·
   rw[qp (by omega)]
   go_enter Tryz.func166,Tryz.ntmps166
   go_wp2
   go_ret
   exact⟨rfl,rfl⟩
  ·
   rw[ql (by omega)]
   go_enter Tryz.func166,Tryz.ntmps166
   go_wp2
   go_ret
   exact⟨rfl,rfl⟩
 ·
  rw[ql (by omega)]
  go_enter Tryz.func166,Tryz.ntmps166
  go_wp2
  go_ret
  exact⟨rfl,rfl⟩
theorem qif{w:World}(n:Int)(b:Bool)(h:qlq n=b) :
  Calls Tryz.prog 166 #[.int .i64 n] w fun r w'=>r= .returned (.bool b)∧w=w':=by
 subst h
 exact right_any n
theorem size_any{w:World}(n wd:Nat)(h:n*wd≤1000000000000000) :
  Calls Tryz.prog 167 #[.int .i64 (n:Int),.int .i64 (wd:Int)] w fun r w'=>r= .returned (.int .i64 (((n*wd+7)/8:Nat):Int))∧w=w':=by
 have e0:(n:Int)*(wd:Int)=((n*wd:Nat):Int):=(qar n wd).symm
 have h1:0≤(n:Int)*(wd:Int):=by omega
 have h2:(n:Int)*(wd:Int)≤1000000000000000:=by omega
 have E:=qa e0
 clear e0 h
 go_enter Tryz.func167,Tryz.ntmps167
 go_wp2
 go_ret
 exact⟨kf (by rw[E.out];omega),rfl⟩
theorem greatest_u{g:Int}(h0:0≤g)(h1:g≤9223372036854775807):IntKind.u64.wrap g=g:=by
 rw[IntKind.wrap_u64];omega
theorem width_any{w:World}(zs:List Int)(hz:qj8 zs){lo h':Nat}{A:Option Addr}{c:Nat}(h:Rd w lo h' A c (iv zs)) :
  Calls Tryz.prog 159 #[.slice A zs.length c] w fun r w'=>r= .returned (.int .i64 (wide zs:Int))∧w=w':=by
 have hl:=h.len
 have hc:=h.cap
 rw[ji] at hl
 unfold maxLen at hc
 have H:=qa h
 have HZ:=qa hz
 clear h hz
 go_enter Tryz.func159,Tryz.ntmps159
 go_wp2_with fail
 go_loop [3,8] (fun g i=>∃k:Nat,k≤zs.length∧i= .int .i64 (k:Int)∧g= .int .i64 (grt (zs.take k))) (fun _ i=>zs.length-(intOf i).toNat)
 case atStart=>exact⟨0,qi _,rfl,rfl⟩
 case round =>
  obtain⟨k,hk,rfl,rfl⟩:=hrel
  by_cases hlt:k<zs.length
  ·
   obtain⟨b,off,rfl,_,_,hcell⟩:=H.out.num hlt
   have hts:=qa (grt_take zs k hlt)
   generalize zs[k]=z at *
   generalize grt (zs.take k)=g at *
   go_wp2
   go_round
   case rel=>exact⟨k+1,by omega,by go_num,by rw[hts.out]⟩
   case measure=>simp[intOf];omega
  ·
   obtain rfl:k=zs.length:=by omega
   have h0:=grt_ge zs
   have h1:=word_grt HZ.out
   have HU:=qa (greatest_u h0 h1)
   have HL:=qa (len_any (w:=w) (grt zs) h0 (by omega))
   rw[yf]
   have HE:Hid (wide zs=Lib.bitLen (grt zs).toNat):=rfl
   generalize grt zs=g at *
   go_wp2_with (go_at_call 195;refine HL.out.mono ?_;rintro r w' ⟨rfl,rfl⟩)
   go_ret
   exact⟨kf (by rw[HE.out]),rfl⟩
theorem shr_no{z:Int}{n:Nat}(h:(z/2 ^ n != 0)=true):¬(0≤z∧z<2 ^ n):=by
 rintro⟨h0,h1⟩
 rw[Int.ediv_eq_zero_of_lt h0 h1] at h
 cases h
theorem shr_yes{z:Int}{n:Nat}(h:(z/2 ^ n != 0)=false):0≤z∧z<2 ^ n:=by
 have hp:(0:Int)<2 ^ n:=Int.pow_pos (by omega)
 have h0:z/2 ^ n=0:=by simpa using h
 have h1:=Int.mul_ediv_add_emod z (2 ^ n)
 rw[h0,Int.mul_zero] at h1
 have h2:=Int.emod_nonneg z (show(2:Int) ^ n≠0 by omega)
 have h3:=Int.emod_lt_of_pos z hp
 omega
theorem fit_any{w:World}(zs:List Int)(wd:Int){lo h':Nat}{A:Option Addr}{c:Nat}(h:Rd w lo h' A c (iv zs)) :
  Calls Tryz.prog 196 #[.slice A zs.length c,.int .i64 wd] w fun r w'=>r= .returned (.bool (fitB zs wd))∧w=w':=by
 have hl:=h.len
 have hc:=h.cap
 rw[ji] at hl
 unfold maxLen at hc
 have H:=qa h
 clear h
 by_cases hr:0≤wd∧wd≤32
 ·
  have hr':qlq wd=true:=qp hr
  have HR:=qa hr'
  obtain⟨hr0,hr1⟩:=hr
  clear hr'
  go_enter Tryz.func196,Tryz.ntmps196
  go_wp2_with fail
  refine(qif wd true HR.out).mono ?_
  rintro r w' ⟨rfl,rfl⟩
  go_wp2_with fail
  go_loop [12] (fun i=>∃k:Nat,k≤zs.length∧i= .int .i64 (k:Int)∧∀z∈zs.take k,0≤z∧z<2 ^ wd.toNat) (fun i=>zs.length-(intOf i).toNat)
  case atStart=>exact⟨0,qi _,rfl,by simp⟩
  case round =>
   obtain⟨k,hk,rfl,hf⟩:=hrel
   have HF:=qa hf
   clear hf
   by_cases hlt:k<zs.length
   ·
    obtain⟨b,off,rfl,_,_,hcell⟩:=H.out.num hlt
    have hts:Hid (zs.take (k+1)=zs.take k++[zs[k]]):=by unfold Hid;exact qg hlt
    have hmem:Hid (zs[k]∈zs):=qj hlt
    generalize zs[k]=z at *
    go_wp2
    case roundEnd =>
     have hz:=shr_yes (by assumption)
     refine⟨⟨k+1,by omega,by go_num,?_⟩,by simp[intOf];omega⟩
     intro y hy
     rw[hts.out] at hy
     rcases zt.1 hy with hy | hy
     ·
      exact HF.out y hy
     ·
      rw[zo.1 hy];exact hz
    all_goals
     have hz:=shr_no (by assumption)
     go_ret
     exact⟨zf (ql fun hf=>hz (hf.2.2 _ hmem)).symm,rfl⟩
   ·
    obtain rfl:k=zs.length:=by omega
    go_wp2
    go_ret
    exact⟨zf (qp ⟨hr0,hr1,by rw[←yf (l:=zs)];exact HF.out⟩).symm,rfl⟩
 ·
  have hr':qlq wd=false:=ql hr
  have HR:=qa hr'
  have hn:Hid (fitB zs wd=false):=ql fun hf=>hr ⟨hf.1,hf.2.1⟩
  clear hr' hr
  go_enter Tryz.func196,Tryz.ntmps196
  go_wp2_with fail
  refine(qif wd false HR.out).mono ?_
  rintro r w' ⟨rfl,rfl⟩
  go_wp2
  go_ret
  exact⟨zf hn.out.symm,rfl⟩
theorem size_is{w:World}(n wd s:Nat)(h:n*wd≤1000000000000000)(hs:(n*wd+7)/8=s) :
  Calls Tryz.prog 167 #[.int .i64 (n:Int),.int .i64 (wd:Int)] w fun r w'=>r= .returned (.int .i64 (s:Int))∧w=w':=by
 subst hs
 exact size_any n wd h
end Go.Proofs.YtnjkipnklpkaoaaGreat
