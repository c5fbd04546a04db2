/-
  Lemmas.
-/
import Derived.Test.YtjfecojdagmacaaGreatD00
import Derived.BigFrame
import Derived.Laws.BitsAll
import Derived.Lib.ItoaNum
import Derived.Shelf.Small.Bits
import Derived.StillTailTactics
namespace Go.Proofs.YtjfecojdagmacaaGreat
open Go.RowKit
set_option maxRecDepth 20000
set_option maxHeartbeats 16000000
set_option linter.unusedSimpArgs false
set_option linter.unusedVariables false
def qfh(w:Nat):List Nat→Nat
 | []=>0
 | x :: r=>x+2 ^ w*qfh w r
def xq:Nat→Nat→List UInt8
 | 0,_=>[]
 | m+1,V=>UInt8.ofNat (V%256) :: xq m (V/256)
def qbf:List UInt8→Nat
 | []=>0
 | b :: r=>b.toNat+256*qbf r
theorem qj8(V:Nat):(UInt8.ofNat (V%256)).toNat=V%256:=by rw[jq];omega
theorem qlp(w:Nat)(l:List Nat)(x:Nat):qfh w (l++[x])=qfh w l+2 ^ (w*l.length)*x:=by
 induction l with
 | nil=>simp[qfh]
 | cons y r ih =>
  simp only[jd,qfh,ih,qw]
  rw[qds w,xp,Nat.add_comm (w*r.length),vw,qds,qdr]
  omega
theorem qno(w:Nat)(l:List Nat)(h:∀x∈l,x<2 ^ w):qfh w l<2 ^ (w*l.length):=by
 induction l with
 | nil=>simp[qfh]
 | cons y r ih =>
  simp only[qfh,qw]
  rw[qds w,xp,Nat.add_comm (w*r.length),vw]
  have h1:=h y (by simp)
  have h2:=ih fun x hx=>h x (by simp[hx])
  calc y+2 ^ w*qfh w r<2 ^ w+2 ^ w*qfh w r:=by omega
   _=2 ^ w*(qfh w r+1):=by rw[qds,xp];omega
   _≤2 ^ w*2 ^ (w*r.length):=qdf _ h2
theorem vsum_get(w:Nat)(l:List Nat)(h:∀x∈l,x<2 ^ w)(i:Nat)(hi:i<l.length):qfh w l/2 ^ (w*i)%2 ^ w=l[i]:=by
 induction l generalizing i with
 | nil=>simp at hi
 | cons y r ih =>
  have h1:=h y (by simp)
  have hp:0<2 ^ w:=qeg w
  rcases i with _ | i
  ·
   simp only[Nat.mul_zero,Nat.pow_zero,Nat.div_one,qfh,kj,Nat.add_mul_mod_self_left]
   exact vc h1
  ·
   rw[qds w,xp,Nat.add_comm (w*i),vw,←uo]
   have e:qfh w (y :: r)/2 ^ w=qfh w r:=by
    simp only[qfh]
    rw[Nat.add_mul_div_left _ _ hp,Nat.div_eq_of_lt h1];omega
   rw[e]
   exact ih (fun x hx=>h x (by simp[hx])) i (by simpa using hi)
theorem vy(m V:Nat):(xq m V).length=m:=by
 induction m generalizing V with
 | zero=>rfl
 | succ m ih=>simp only[xq,qw,ih]
theorem bval_lt(bs:List UInt8):qbf bs<256 ^ bs.length:=by
 induction bs with
 | nil=>simp[qbf]
 | cons b r ih =>
  have:=jj b
  simp only[qbf,qw,ky]
  omega
theorem bval_bytesN(m V:Nat):qbf (xq m V)=V%256 ^ m:=by
 induction m generalizing V with
 | zero=>simp[xq,qbf,Nat.mod_one]
 | succ m ih =>
  simp only[xq,qbf,ih,qj8]
  rw[ky,xe (256 ^ m),Nat.mod_mul]
theorem bytesN_bval(bs:List UInt8):xq bs.length (qbf bs)=bs:=by
 induction bs with
 | nil=>rfl
 | cons b r ih =>
  have:=jj b
  simp only[qw,xq,qbf]
  rw[show(b.toNat+256*qbf r)%256=b.toNat from by omega,show(b.toNat+256*qbf r)/256=qbf r from by omega,ih]
  simp
theorem bval_append(a b:List UInt8):qbf (a++b)=qbf a+256 ^ a.length*qbf b:=by
 induction a with
 | nil=>simp[qbf]
 | cons x r ih =>
  simp only[jd,qbf,ih,qw,ky]
  rw[xe (256 ^ r.length) 256,qdr]
  omega
theorem bval_at(bs:List UInt8)(j:Nat)(h:j<bs.length):qbf bs/256 ^ j%256=bs[j].toNat:=by
 induction bs generalizing j with
 | nil=>simp at h
 | cons b r ih =>
  have:=jj b
  rcases j with _ | j
  ·
   simp only[qbf,Nat.pow_zero,Nat.div_one,kj]
   omega
  ·
   rw[ky,xe (256 ^ j),←uo]
   simp only[qbf,List.getElem_cons_succ]
   rw[show(b.toNat+256*qbf r)/256=qbf r from by omega]
   exact ih j (by simpa using h)
theorem qh8(n:Nat):256 ^ n=2 ^ (8*n):=by rw[Nat.pow_mul]
theorem bval_over(bs:List UInt8)(n:Nat)(h:8*bs.length≤n):qbf bs/2 ^ n=0:=by
 apply Nat.div_eq_of_lt
 have:=bval_lt bs
 rw[qh8] at this
 exact zn this (yg (by omega) h)
def qa5(w:Nat)(l:List Nat):List UInt8:=xq ((l.length*w+7)/8) (qfh w l)
theorem qc4(w:Nat)(l:List Nat):(qa5 w l).length=(l.length*w+7)/8:=vy _ _
def qi0(bs:List UInt8)(w i:Nat):Nat:=qbf bs/2 ^ (w*i)%2 ^ w
theorem getN_lt(bs:List UInt8)(w i:Nat):qi0 bs w i<2 ^ w:=qcm _ (qeg w)
theorem qnl(w:Nat)(l:List Nat)(h:∀x∈l,x<2 ^ w):qbf (qa5 w l)=qfh w l:=by
 unfold qa5
 rw[bval_bytesN]
 apply vc
 refine zn (qno w l h) ?_
 rw[qh8]
 refine yg (by omega) ?_
 rw[xe w]
 generalize l.length*w=n
 omega
theorem get_pack(w:Nat)(l:List Nat)(h:∀x∈l,x<2 ^ w)(i:Nat)(hi:i<l.length):qi0 (qa5 w l) w i=l[i]:=by
 unfold qi0
 rw[qnl w l h,vsum_get w l h i hi]
def qch(bs:List UInt8)(w n:Nat):List Nat:=(List.range n).map (qi0 bs w)
theorem qd0(bs:List UInt8)(w n:Nat):(qch bs w n).length=n:=by simp[qch]
theorem getsN_succ(bs:List UInt8)(w n:Nat):qch bs w (n+1)=qch bs w n++[qi0 bs w n]:=by simp[qch,List.range_succ]
theorem getsN_get(bs:List UInt8)(w n i:Nat)(h:i<n):(qch bs w n)[i]? = some (qi0 bs w i):=by simp[qch,h]
theorem getsN_lt(bs:List UInt8)(w n:Nat):∀x∈qch bs w n,x<2 ^ w:=by
 intro x hx
 obtain⟨i,_,rfl⟩:=zl.1 hx
 exact getN_lt _ _ _
theorem vsum_getsN(bs:List UInt8)(w n:Nat):qfh w (qch bs w n)=qbf bs%2 ^ (w*n):=by
 induction n with
 | zero=>simp[qch,qfh,Nat.mod_one]
 | succ n ih =>
  rw[getsN_succ,qlp,ih,qd0,qds w,xp,vw,Nat.mod_mul]
  rfl
theorem pack_gets(bs:List UInt8)(w n:Nat)(hl:bs.length=(n*w+7)/8)(hb:qbf bs<2 ^ (n*w)):qa5 w (qch bs w n)=bs:=by
 unfold qa5
 rw[qd0,←hl,vsum_getsN,xe w,vc hb,bytesN_bval]
theorem gets_pack(w:Nat)(l:List Nat)(h:∀x∈l,x<2 ^ w):qch (qa5 w l) w l.length=l:=by
 apply qem
 intro i
 by_cases hi:i<l.length
 ·
  rw[getsN_get _ _ _ _ hi,get_pack w l h i hi,qe hi]
 ·
  rw[yh (by rw[qd0];omega),yh (by omega)]
theorem filled_iff(bs:List UInt8)(n:Nat)(hl:bs.length=(n+7)/8)(hn:n%8≠0):(bs.getLastD 0).toNat/2 ^ (n%8)=0↔qbf bs<2 ^ n:=by
 rcases List.eq_nil_or_concat bs with rfl | ⟨r,x,rfl⟩
 ·
  simp at hl;omega
 ·
  have hr:r.length=n/8:=by simp at hl;omega
  have e2:2 ^ n=256 ^ (n/8)*2 ^ (n%8):=by
   rw[qh8,←vw]
   congr 1
   omega
  have hp:0<256 ^ (n/8):=Nat.pow_pos (by omega)
  have hb:=bval_lt r
  rw[hr] at hb
  rw[List.concat_eq_append,List.getLastD_concat,bval_append,hr,e2]
  have e1:qbf [x]=x.toNat:=by simp[qbf]
  rw[e1,Nat.div_eq_zero_iff_lt (qeg _)]
  constructor
  ·
   intro h
   calc qbf r+256 ^ (n/8)*x.toNat<256 ^ (n/8)+256 ^ (n/8)*x.toNat:=by omega
    _=256 ^ (n/8)*(x.toNat+1):=by rw[qds,xp];omega
    _≤256 ^ (n/8)*2 ^ (n%8):=qdf _ h
  ·
   intro h
   rcases vf x.toNat (2 ^ (n%8)) with h1 | h1
   ·
    exact h1
   ·
    have:=qdf (256 ^ (n/8)) h1
    omega
theorem filled_all(bs:List UInt8)(n:Nat)(hl:bs.length=(n+7)/8)(hn:n%8=0):qbf bs<2 ^ n:=by
 have h:=bval_lt bs
 rw[qh8,hl] at h
 rw[show 8*((n+7)/8)=n from by omega] at h
 exact h
theorem len_bounds(x:Nat)(hx:x<2 ^ 64)(h0:x≠0):1≤Lib.bitLen x∧2 ^ (Lib.bitLen x-1)≤x∧x<2 ^ Lib.bitLen x:=Lib.bitLenAux_bounds 64 x hx h0
theorem len_lt(x:Nat)(hx:x<2 ^ 64):x<2 ^ Lib.bitLen x:=by
 by_cases h0:x=0
 ·
  subst h0;exact qeg _
 ·
  exact(len_bounds x hx h0).2.2
def grt(zs:List Int):Int:=zs.foldl max 0
theorem grt_snoc(zs:List Int)(z:Int):grt (zs++[z])=max (grt zs) z:=by simp[grt]
theorem grt_take(zs:List Int)(k:Nat)(h:k<zs.length):grt (zs.take (k+1))=max (grt (zs.take k)) zs[k]:=by
 rw[qj h,grt_snoc]
theorem foldl_max(zs:List Int):∀a:Int,a≤zs.foldl max a∧∀z∈zs,z≤zs.foldl max a:=by
 induction zs with
 | nil=>intro a;exact⟨Int.le_refl _,by simp⟩
 | cons y r ih =>
  intro a
  obtain⟨h1,h2⟩:=ih (max a y)
  refine⟨by simp only[List.foldl_cons];omega,fun z hz => ?_⟩
  simp only[List.foldl_cons]
  rcases z7.1 hz with rfl | hz
  ·
   omega
  ·
   exact h2 z hz
theorem grt_ge(zs:List Int):0≤grt zs:=(foldl_max zs 0).1
theorem grt_all(zs:List Int):∀z∈zs,z≤grt zs:=(foldl_max zs 0).2
theorem foldl_max_le(zs:List Int)(m:Int)(h:∀z∈zs,z≤m):∀a:Int,a≤m→zs.foldl max a≤m:=by
 induction zs with
 | nil=>intro a ha;exact ha
 | cons y r ih =>
  intro a ha
  simp only[List.foldl_cons]
  exact ih (fun z hz=>h z (by simp[hz])) _ (by have:=h y (by simp);omega)
theorem grt_le(zs:List Int)(m:Int)(hm:0≤m)(h:∀z∈zs,z≤m):grt zs≤m:=foldl_max_le zs m h 0 hm
def wide(zs:List Int):Nat:=Lib.bitLen (grt zs).toNat
theorem word_grt{zs:List Int}(h:qjq zs):grt zs≤9223372036854775807:=grt_le zs _ (by omega) fun z hz=>(h z hz).2
theorem wide_le(zs:List Int)(m:Nat)(hm:m≤64)(h:∀z∈zs,z<2 ^ m):wide zs≤m:=by
 refine Lib.bitLen_le _ m hm ?_
 have hp:(0:Int)<2 ^ m:=Int.pow_pos (by omega)
 have h1:=grt_le zs (2 ^ m-1) (by omega) (fun z hz=>by have:=h z hz;omega)
 have e:((2 ^ m:Nat):Int)=2 ^ m:=by norm_cast
 omega
theorem wide_lt{zs:List Int}(hw:qjq zs):∀z∈zs,z<2 ^ wide zs:=by
 intro z hz
 have h1:=grt_all zs z hz
 have h2:=word_grt hw
 have h3:=len_lt (grt zs).toNat (by omega)
 have e:((2 ^ wide zs:Nat):Int)=2 ^ wide zs:=by norm_cast
 unfold wide at e ⊢
 have:=grt_ge zs
 omega
def Fits(zs:List Int)(wd:Int):Prop:=0≤wd∧wd≤32∧∀z∈zs,0≤z∧z<2 ^ wd.toNat
instance (zs:List Int) (wd:Int):Decidable (Fits zs wd):=by unfold Fits;infer_instance
def qkw(wd:Int):Bool:=decide (0≤wd∧wd≤32)
def qok(zs:List Int):Prop:=∀z∈zs,0≤z∧z≤4294967295
instance (zs:List Int):Decidable (qok zs):=by unfold qok;infer_instance
theorem qok.word{zs:List Int}(h:qok zs):qjq zs:=fun z hz=>by have:=h z hz;omega
theorem wide_upto(zs:List Int)(m:Nat)(hm:m≤64)(h:∀z∈zs,z<2 ^ m):wide zs≤m:=wide_le zs m hm h
theorem qok.wide_le{zs:List Int}(h:qok zs):wide zs≤32:=wide_upto zs 32 (by omega) fun z hz=>by have:=h z hz;omega
theorem qok.fits{zs:List Int}(h:qok zs):Fits zs (wide zs:Int) :=
 ⟨by omega,by have:=h.wide_le;omega,fun z hz=>⟨(h z hz).1,by rw[vr];exact wide_lt h.word z hz⟩⟩
def qbn(zs:List Int):List Nat:=zs.map Int.toNat
theorem uh(zs:List Int):(qbn zs).length=zs.length:=by simp[qbn]
theorem Fits.nats_lt{zs:List Int}{wd:Int}(h:Fits zs wd):∀x∈qbn zs,x<2 ^ wd.toNat:=by
 intro x hx
 obtain⟨z,hz,rfl⟩:=zl.1 hx
 have:=h.2.2 z hz
 have e:((2 ^ wd.toNat:Nat):Int)=2 ^ wd.toNat:=by norm_cast
 omega
theorem qo0(ns:List Nat):qbn (z8 ns)=ns:=by
 unfold qbn z8
 rw[qac]
 conv=>rhs;rw[←List.map_id ns]
 exact qb2 fun n _=>by simp
theorem ql1{zs:List Int}(h:∀z∈zs,0≤z):z8 (qbn zs)=zs:=by
 unfold qbn z8
 rw[qac]
 conv=>rhs;rw[←List.map_id zs]
 exact qb2 fun z hz=>by have:=h z hz;simp;omega
theorem Rd.byte{w:World}{lo hi c:Nat}{A:Option Addr}{bs:List UInt8}(h:Rd w lo hi A c (bv bs)){k:Nat}(hk:k<bs.length) :
  ∃b off,A=some ⟨b,off,none⟩∧lo≤b∧b<hi∧w.cell? ⟨b,off+k,none⟩=some (.int .u8 (bs[k].toNat:Int)):=by
 obtain⟨b,off,e,h1,h2,h3⟩:=h.at_ (by rw[yf];omega)
 exact⟨b,off,e,h1,h2,h3 k _ (qi3 bs k hk)⟩
theorem Tryz.infoU8:(Tryz.prog.info? 5).map (fun i=>(i.zero,i.size,i.bytes))=some (some (.int .u8 0),1,1):=by kernel_rfl
theorem qe9(w:World)(base:Nat)(v:Value)(ys bs:List UInt8)(hown:w.ownsRow base 5 1 v ys.length (bv ys)){lo h':Nat}{A:Option Addr}{c:Nat}(hr:Rd w lo h' A c (bv bs))
  (hb:ys.length+bs.length≤140737488355328) (hbase:base≤w.heap.size) :
  ∃A' c' w',(Builtin.append_ #[36,36] 36 #[v,.slice A bs.length c]).run Tryz.prog w= .ok (.slice A' (ys.length+bs.length) c') w'∧
   w'.ownsRow base 5 1 (.slice A' (ys.length+bs.length) c') (ys.length+bs.length) (bv (ys++bs))∧w.grownBy w' v.ownBlock:=by
 obtain⟨i0,hi0,hz0,hz1,hz2⟩:=info_parts Tryz.infoU8
 have hl:=yf bs
 obtain⟨A',c',w',hrun,h2,h3,_⟩:=vt (P:=Tryz.prog) w base 36 36 5 i0 _ 1 Tryz.underlying36 hi0 hz0 hz1 hz2 rfl v ys.length (bv ys) hown lo h' A c (bv bs) hr (bv_one _)
  (by rw[hl];simp only[maxLen];omega) (by rw[hl];omega) hbase
 rw[hl] at hrun h2
 exact⟨A',c',w',hrun,by rw[qjl];exact h2,h3⟩
theorem j9(w:World)(base:Nat)(v:Value)(ys bs cs:List UInt8)(hcs:ys++bs=cs)(hown:w.ownsRow base 5 1 v ys.length (bv ys)){lo h':Nat}{A:Option Addr}{c:Nat}(hr:Rd w lo h' A c (bv bs))
  (hb:ys.length+bs.length≤140737488355328) (hbase:base≤w.heap.size) :
  ∃A' c' w',(Builtin.append_ #[36,36] 36 #[v,.slice A bs.length c]).run Tryz.prog w= .ok (.slice A' cs.length c') w'∧
   w'.ownsRow base 5 1 (.slice A' cs.length c') cs.length (bv cs)∧w.grownBy w' v.ownBlock:=by
 subst hcs
 rw[qd]
 exact qe9 w base v ys bs hown hr hb hbase
theorem qa3{ops:Array Oper}{rest:List Oper}{o:Oper}{a:Act}{Q:Exit→Act→World→Prop}{w:World}{v:Value}{g:Nat}(base:Nat)(ys:List UInt8)(b:UInt8)(hgd:o.guard=none)(s x:Operand)
  (ho:o.op= .call { callee:= .builtin .append,args:=#[s,x],argTypes:=#[36,36] }) (hty:o.type=36)
  (hs:a.eval s=v) (hx:a.eval x= .slice (some ⟨g,0,none⟩) 1 1) (hcell:w.cell? ⟨g,0,none⟩=some (.int .u8 (b.toNat:Int)))
  (hown:w.ownsRow base 5 1 v ys.length (bv ys)) (hb:ys.length+1≤140737488355328) (hbase:base≤w.heap.size)
  (h:∀A' c' w',w'.ownsRow base 5 1 (.slice A' (ys++[b]).length c') (ys++[b]).length (bv (ys++[b]))→w.grownBy w' v.ownBlock→wpList Tryz.prog ops Q rest (a.put o.dst (.slice A' (ys.length+1) c')) w') :
  wpList Tryz.prog ops Q (o :: rest) a w:=by
 have hr:Rd w 0 w.heap.size (some ⟨g,0,none⟩) 1 (bv [b]):=⟨by simp[bv],by simp[maxLen],fun _=>⟨g,0,rfl,qi _,ya w _ hcell,fun j u hu=>by
  match j,hu with
  | 0,hu =>
   simp[bv] at hu
   subst hu
   exact hcell
  | j+1,hu=>simp[bv] at hu⟩⟩
 obtain⟨A',c',w',hrun,h2,h3⟩:=qe9 w base v ys [b] hown hr (by simpa using hb) hbase
 refine wpList_append_run hgd s x _ _ ho hs hx (by rw[hty];exact hrun) (h A' c' w' (by simpa using h2) h3)
theorem qlw(w:World)(l:List UInt8)(cs:Array Value)(h:cs.toList=bv l)(hm:l.length≤1000):(w.alloc (.cells cs 5)).ownsRow w.heap.size 5 1 (.slice (some ⟨w.heap.size,0,none⟩) l.length l.length) l.length (bv l):=by
 have:=kf (e:=5) (size:=1) (base:=w.heap.size) w cs l.length (qc _) (by simp only[maxLen];omega) (by rw[←jt,h,yf,xp])
 rwa [h] at this
theorem qi8(n:Nat):2 ^ n=256 ^ (n/8)*2 ^ (n%8):=by
 rw[←Nat.pow_mul 2 8 (n/8),←vw]
 congr 1
 omega
theorem last_get(bs:List UInt8)(h:0<bs.length):bs[bs.length-1]=bs.getLastD 0:=by
 rcases List.eq_nil_or_concat bs with rfl | ⟨r,x,rfl⟩
 ·
  simp at h
 ·
  simp
theorem clone_any(bs:List UInt8)(w:World){lo h':Nat}{A:Option Addr}{c:Nat}(h:Rd w lo h' A c (bv bs))(hb:bs.length≤140737488355328) :
  Calls Tryz.prog 93 #[.slice A bs.length c] w fun e w'=>∃A' c',e= .returned (.slice A' bs.length c')∧
   w'.ownsRow w.heap.size 5 1 (.slice A' bs.length c') bs.length (bv bs)∧Below w.heap.size w w':=by
 obtain⟨A',c',w',hrun,hown,hg⟩:=qe9 w w.heap.size (.slice none 0 0) [] bs (zf ..) h (by simpa using hb) (qc _)
 simp only[j4,yr,yu] at hrun hown
 go_enter Tryz.func93,Tryz.ntmps93
 go_wp2_with (at_builtin;refine wpList_append_run rfl _ _ _ _ rfl rfl rfl hrun ?_)
 go_ret
 exact⟨A',c',rfl,hown,qb9 (qc _) hg (by simp[Value.ownBlock])⟩
def vx(w:World)(lo g:Nat)(bs:List UInt8)(k:Nat)(e:Int):Prop :=
 ∃A c,yy w g 153 #[.slice A bs.length c,.int .i64 (k:Int),.int .i64 e]∧Rd w lo g A c (bv bs)∧k≤bs.length∧lo≤g
def cp(g:Nat):Value:= .pointer (some ⟨g,0,none⟩)
section
variable {w w':World}{lo g k:Nat}{bs:List UInt8}{e:Int}
theorem vx.grown{row:Option Nat}(h:vx w lo g bs k e)(hg:w.grownBy w' row)(hr:∀x,row=some x→x<lo∨g<x):vx w' lo g bs k e:=by
 obtain⟨A,c,hb,hrd,hk,hl⟩:=h
 exact⟨A,c,hb.grown hg (fun e=>by have:=hr _ e.symm;omega),hrd.grown hg (by have:=hb.lt;omega) (fun x hx=>by have:=hr x hx;omega),hk,hl⟩
theorem vx.drewN(h:vx w lo g bs k e)(n:Nat):vx (w.drewN n) lo g bs k e:=by
 obtain⟨A,c,hb,hrd,hk,hl⟩:=h
 exact⟨A,c,hb.drewN n,hrd.drewN n,hk,hl⟩
theorem vx.base(h:vx w lo g bs k e):lo≤g:=by obtain⟨_,_,_,_,_,hl⟩:=h;exact hl
theorem vx.lt(h:vx w lo g bs k e):g<w.heap.size:=by obtain⟨_,_,hb,_⟩:=h;exact hb.lt
end
theorem new_any(bs:List UInt8)(w:World){lo h':Nat}{A:Option Addr}{c:Nat}(h:Rd w lo h' A c (bv bs))(hb:bs.length≤140737488355328) :
  Calls Tryz.prog 64 #[.slice A bs.length c] w fun e w'=>∃g,e= .returned (.pointer (some ⟨g,0,none⟩))∧vx w' w.heap.size g bs 0 0∧Below w.heap.size w w':=by
 go_enter Tryz.func64,Tryz.ntmps64
 go_wp2_with fail
 refine(clone_any bs _ h hb).mono ?_
 rintro e w1 ⟨A',c',rfl,hown,hbel⟩
 go_wp2_with fail
 go_ret
 refine⟨_,rfl,⟨A',c',yy.new _ _ _,(Rd.of_own hown).alloc (qc _) _,qi _,hbel.size⟩,hbel.alloc hbel.size _⟩
theorem xx{w:World}{lo g k:Nat}{bs:List UInt8}{e:Int}(h:vx w lo g bs k e) :
  Calls Tryz.prog 96 #[cp g] w fun x w'=>x= .returned (.bool (e==0))∧w=w':=by
 obtain⟨A,c,hb, -, -, -⟩:=h
 have h2:=hb.cell 2
 simp at h2
 clear hb
 unfold cp
 go_enter Tryz.func96,Tryz.ntmps96
 go_wp2
 go_ret
 exact⟨rfl,rfl⟩
theorem qev{w:World}{lo g k:Nat}{bs:List UInt8}{e:Int}(h:vx w lo g bs k e) :
  Calls Tryz.prog 97 #[cp g] w fun x w'=>x= .returned (.int .i64 ((bs.length-k:Nat):Int))∧∃n,w'=w.drewN n:=by
 obtain⟨A,c,hb,hrd,hk, -⟩:=h
 have h0:=hb.cell 0
 have h1:=hb.cell 1
 simp at h0 h1
 have hm:=hrd.len
 have hm':=hrd.cap
 rw[yf] at hm
 unfold maxLen at hm'
 clear hb hrd
 unfold cp
 rw[Int.ofNat_sub hk]
 go_enter Tryz.func97,Tryz.ntmps97
 go_wp2
 go_quiet (fail)
 go_wp2
 go_ret
 exact⟨rfl,_,rfl⟩
def ji(n:Nat):List UInt8 :=
 if h:n<128 then [UInt8.ofNat n] else UInt8.ofNat (n%128+128) :: ji (n/128)
termination_by n
decreasing_by omega
theorem qap{n:Nat}(h:n<128):ji n=[UInt8.ofNat n]:=by rw[ji,dif_pos h]
theorem qgb{n:Nat}(h:128≤n):ji n=UInt8.ofNat (n%128+128) :: ji (n/128):=by rw[ji,dif_neg (by omega)]
theorem qin(k:Nat):∀n:Nat,n<128 ^ (k+1)→(ji n).length≤k+1:=by
 induction k with
 | zero=>intro n h;rw[qap (by simpa using h)];simp
 | succ k ih =>
  intro n h
  by_cases hn:n<128
  ·
   rw[qap hn];simp
  ·
   rw[qgb (by omega)]
   have:=ih (n/128) (by rw[ky] at h;omega)
   simp only[qw]
   omega
theorem qnz(n:Nat):0<(ji n).length:=by
 by_cases hn:n<128
 ·
  rw[qap hn];simp
 ·
  rw[qgb (by omega)];simp
theorem ve(n:Nat)(h:n≤9223372036854775807):(ji n).length≤9:=qin 8 n (by omega)
theorem or128:∀x:Fin 256,x.val ||| 128=x.val%128+128:=by decide +kernel
theorem or_more(m:Nat):bits .or .u8 ((m:Int)%256) 128=((UInt8.ofNat (m%128+128)).toNat:Int):=by
 have h1:bits .or .u8 ((m%256:Nat):Int) ((128:Nat):Int)=((m%256 ||| 128:Nat):Int):=u8_or_nat _ _ (by omega) (by omega)
 have h2:=or128 ⟨m%256,by omega⟩
 simp only[] at h2
 have h3:(UInt8.ofNat (m%128+128)).toNat=m%128+128:=by rw[jq];omega
 rw[h3,show m%128+128=m%256%128+128 from by omega,←h2,←h1,Int.natCast_emod]
 rfl
def js(zs:List Int):List UInt8:=ji zs.length++([UInt8.ofNat (wide zs)]++qa5 (wide zs) (qbn zs))
theorem qia{n:Nat}(h:n<256):(UInt8.ofNat n).toNat=n:=by rw[jq];omega
section
open Go.Shelf
def lenRen:Go.Shelf.Ren:=⟨fun | 125=>101 | 128=>145 | 129=>146 | n=>n,fun | 46=>119 | 3=>3 | 51=>102 | 53=>206 | 4=>4 | 5=>5 | 9=>9 | n=>n,fun | n=>n⟩
theorem lenLays:Go.Proofs.Lays.n125 Tryz.prog lenRen:={
 mixed:=by kernel_rfl
 f125:=Tryz.func101.trans (congrArg some (by kernel_rfl))
 f128:=Tryz.func145.trans (congrArg some (by kernel_rfl))
 f129:=Tryz.func146.trans (congrArg some (by kernel_rfl))
 t3:=Tryz.underlying3
 a3:=Tryz.isAgg3
 z3:=Tryz.sizeOf3
 v3:=Tryz.zeroValue3
 t4:=Tryz.underlying4
 a4:=Tryz.isAgg4
 z4:=Tryz.sizeOf4
 v4:=Tryz.zeroValue4
 t5:=Tryz.underlying5
 a5:=Tryz.isAgg5
 z5:=Tryz.sizeOf5
 v5:=Tryz.zeroValue5
 t9:=Tryz.underlying9
 a9:=Tryz.isAgg9
 z9:=Tryz.sizeOf9
 v9:=Tryz.zeroValue9
 t46:=Tryz.underlying119
 a46:=Tryz.isAgg119
 z46:=Tryz.sizeOf119
 v46:=Tryz.zeroValue119
 t51:=Tryz.underlying102
 a51:=Tryz.isAgg102
 z51:=Tryz.sizeOf102
 v51:=Tryz.zeroValue102
 t53:=Tryz.underlying206
 a53:=Tryz.isAgg206
 z53:=Tryz.sizeOf206
 v53:=Tryz.zeroValue206 }
theorem len_any{w:World}(x:Int)(h0:0≤x)(h1:x≤18446744073709551615) :
  Calls Tryz.prog 101 #[.int .u64 x] w fun e w'=>e= .returned (.int .i64 (Lib.bitLen x.toNat))∧w=w' :=
 (Any.bits_Len lenLays x w h0 h1).mono fun _ _ ⟨h,e⟩=>⟨h,e.symm⟩
end
theorem right_any{w:World}(n:Int) :
  Calls Tryz.prog 187 #[.int .i64 n] w fun r w'=>r= .returned (.bool (qkw n))∧w=w':=by
 unfold qkw
 by_cases h0:0≤n
 ·
  by_cases h1:n≤32
  ·
   rw[qx (by omega)]
   go_enter Tryz.func187,Tryz.ntmps187
   go_wp2
   go_ret
   exact⟨rfl,rfl⟩
  ·
   rw[qr (by omega)]
   go_enter Tryz.func187,Tryz.ntmps187
   go_wp2
   go_ret
   exact⟨rfl,rfl⟩
 ·
  rw[qr (by omega)]
  go_enter Tryz.func187,Tryz.ntmps187
  go_wp2
  go_ret
  exact⟨rfl,rfl⟩
theorem qh6{w:World}(n:Int)(b:Bool)(h:qkw n=b) :
  Calls Tryz.prog 187 #[.int .i64 n] w fun r w'=>r= .returned (.bool b)∧w=w':=by
 subst h
 exact right_any n
theorem size_any{w:World}(n wd:Nat)(h:n*wd≤1000000000000000) :
  Calls Tryz.prog 184 #[.int .i64 (n:Int),.int .i64 (wd:Int)] w fun r w'=>r= .returned (.int .i64 (((n*wd+7)/8:Nat):Int))∧w=w':=by
 have e0:(n:Int)*(wd:Int)=((n*wd:Nat):Int):=(qaw n wd).symm
 have h1:0≤(n:Int)*(wd:Int):=by omega
 have h2:(n:Int)*(wd:Int)≤1000000000000000:=by omega
 have E:=qa e0
 clear e0 h
 go_enter Tryz.func184,Tryz.ntmps184
 go_wp2
 go_ret
 exact⟨qai (by rw[E.out];omega),rfl⟩
theorem greatest_u{g:Int}(h0:0≤g)(h1:g≤9223372036854775807):IntKind.u64.wrap g=g:=by
 rw[IntKind.wrap_u64];omega
theorem width_any{w:World}(zs:List Int)(hz:qjq zs){lo h':Nat}{A:Option Addr}{c:Nat}(h:Rd w lo h' A c (iv zs)) :
  Calls Tryz.prog 156 #[.slice A zs.length c] w fun r w'=>r= .returned (.int .i64 (wide zs:Int))∧w=w':=by
 have hl:=h.len
 have hc:=h.cap
 rw[jz] at hl
 unfold maxLen at hc
 have H:=qa h
 have HZ:=qa hz
 clear h hz
 go_enter Tryz.func156,Tryz.ntmps156
 go_wp2_with fail
 go_loop [3,8] (fun g i=>∃k:Nat,k≤zs.length∧i= .int .i64 (k:Int)∧g= .int .i64 (grt (zs.take k))) (fun _ i=>zs.length-(intOf i).toNat)
 case atStart=>exact⟨0,qi _,rfl,rfl⟩
 case round =>
  obtain⟨k,hk,rfl,rfl⟩:=hrel
  by_cases hlt:k<zs.length
  ·
   obtain⟨b,off,rfl,_,_,hcell⟩:=H.out.num hlt
   have hts:=qa (grt_take zs k hlt)
   generalize zs[k]=z at *
   generalize grt (zs.take k)=g at *
   go_wp2
   go_round
   case rel=>exact⟨k+1,by omega,by go_num,by rw[hts.out]⟩
   case measure=>simp[intOf];omega
  ·
   obtain rfl:k=zs.length:=by omega
   have h0:=grt_ge zs
   have h1:=word_grt HZ.out
   have HU:=qa (greatest_u h0 h1)
   have HL:=qa (len_any (w:=w) (grt zs) h0 (by omega))
   rw[yw]
   have HE:Hid (wide zs=Lib.bitLen (grt zs).toNat):=rfl
   generalize grt zs=g at *
   go_wp2_with (go_at_call 101;refine HL.out.mono ?_;rintro r w' ⟨rfl,rfl⟩)
   go_ret
   exact⟨qai (by rw[HE.out]),rfl⟩
theorem size_is{w:World}(n wd s:Nat)(h:n*wd≤1000000000000000)(hs:(n*wd+7)/8=s) :
  Calls Tryz.prog 184 #[.int .i64 (n:Int),.int .i64 (wd:Int)] w fun r w'=>r= .returned (.int .i64 (s:Int))∧w=w':=by
 subst hs
 exact size_any n wd h
theorem qeb{w:World}(n:Nat)(hn:n≤9223372036854775807) :
  Calls Tryz.prog 39 #[.int .i64 (n:Int)] w fun r w'=>∃A c,r= .returned (.slice A (ji n).length c)∧w'.ownsRow w.heap.size 5 1 (.slice A (ji n).length c) (ji n).length (bv (ji n))∧Below w.heap.size w w':=by
 have h9:=ve n hn
 go_enter Tryz.func39,Tryz.ntmps39
 go_wp2_with fail
 go_loopw [0,3] (fun i v wr=>∃(m:Nat) (ys:List UInt8) (A:Option Addr) (c:Nat),m≤n∧i= .int .i64 (m:Int)∧v= .slice A ys.length c∧ys++ji m=ji n∧wr.ownsRow w.heap.size 5 1 (.slice A ys.length c) ys.length (bv ys)∧Below w.heap.size w wr) (fun i _ _=>(intOf i).toNat)
 case atStart=>exact⟨n,[],none,0,by omega,rfl,rfl,rfl,zf ..,Below.refl _ _⟩
 case round =>
  obtain⟨m,ys,A,c,hm,rfl,rfl,hys,hown,hbel⟩:=hrel
  have hl:ys.length+1≤9:=by
   have h1:=congrArg List.length hys
   have h2:=qnz m
   rw[qd] at h1
   omega
  have HO:=qa hown
  have HY:=qa hys
  have HB:=qa hbel
  have hsz:=hbel.size
  clear hown hys hbel
  by_cases hlt:128≤m
  ·
   have HA:=qa (or_more m)
   go_wp2_with (at_builtin;refine qa3 (v:= .slice A ys.length c) w.heap.size ys (UInt8.ofNat (m%128+128)) rfl _ _ rfl rfl rfl rfl (by rw[HA.out,zg _ _ _ _ rfl];rfl) (HO.out.alloc _) (by omega) (by simp;omega) ?_;intro A' c' w1 hown1 hgr1)
   have HO1:=qa hown1
   have HG1:=qa hgr1
   clear hown1 hgr1
   go_wp2
   go_roundw
   case rel =>
    refine⟨m/128,ys++[UInt8.ofNat (m%128+128)],A',c',by omega,by go_num,by simp,?_,HO1.out,?_⟩
    ·
     rw[←HY.out,qgb hlt];simp
    ·
     exact(HB.out.alloc hsz _).grown HG1.out (by simp;omega) (fun k hk=>(HO.out.lt k hk).1)
   case measure=>simp[intOf];omega
  ·
   have HA:Hid ((UInt8.ofNat m).toNat=m):=by
    unfold Hid
    rw[jq];omega
   go_wp2_with (at_builtin;refine qa3 (v:= .slice A ys.length c) w.heap.size ys (UInt8.ofNat m) rfl _ _ rfl rfl rfl rfl (by rw[HA.out,zg _ _ _ _ rfl];first | rfl | (simp;omega)) (HO.out.alloc _) (by omega) (by simp;omega) ?_;intro A' c' w1 hown1 hgr1)
   have HO1:=qa hown1
   have HG1:=qa hgr1
   clear hown1 hgr1
   go_wp2
   go_ret
   have e:ji n=ys++[UInt8.ofNat m]:=by rw[←HY.out,qap (by omega)]
   have e2:(ji n).length=ys.length+1:=by rw[e];simp
   refine⟨A',c',by rw[e2];rfl,by rw[e];exact HO1.out,?_⟩
   exact(HB.out.alloc hsz _).grown HG1.out (by simp;omega) (fun k hk=>(HO.out.lt k hk).1)
def qkf(l:List Bool):List Nat:=l.map Bool.toNat
theorem qhq(l:List Bool):(qkf l).length=l.length:=by simp[qkf]
theorem qog(l:List Bool):∀x∈qkf l,x<2 ^ 1:=by
 intro x hx
 obtain⟨b,_,rfl⟩:=zl.1 hx
 cases b <;> decide
def qjm(l:List Bool)(k:Nat):Nat:=qfh 1 (qkf (l.take k))
def qdk(l:List Bool):List UInt8:=xq ((l.length+7)/8) (qjm l l.length)
theorem qe6(l:List Bool):(qdk l).length=(l.length+7)/8:=vy _ _
theorem qk5(l:List Bool):qdk l=qa5 1 (qkf l):=by
 unfold qdk qa5 qjm
 rw[qhq,xp,yw]
def xi(l:List Bool):List UInt8:=ji l.length++qdk l
def getB(bs:List UInt8)(i:Nat):Bool:=qi0 bs 1 i==1
theorem getB_toNat(bs:List UInt8)(i:Nat):(getB bs i).toNat=qi0 bs 1 i:=by
 have h:=getN_lt bs 1 i
 unfold getB
 rcases jr (qi0 bs 1 i) with h0 | h0
 ·
  rw[h0];rfl
 ·
  rw[show qi0 bs 1 i=1 by omega];rfl
def qiq(bs:List UInt8)(n:Nat):List Bool:=(List.range n).map (getB bs)
theorem qc7(bs:List UInt8)(n:Nat):(qiq bs n).length=n:=by simp[qiq]
theorem getsB_get(bs:List UInt8)(n i:Nat)(h:i<n):(qiq bs n)[i]? = some (getB bs i):=by simp[qiq,h]
theorem bitsN_getsB(bs:List UInt8)(n:Nat):qkf (qiq bs n)=qch bs 1 n:=by
 unfold qkf qiq qch
 rw[qac]
 exact qb2 fun i _=>getB_toNat bs i
theorem packB_getsB(bs:List UInt8)(n:Nat)(hl:bs.length=(n+7)/8)(hb:qbf bs<2 ^ n):qdk (qiq bs n)=bs:=by
 rw[qk5,bitsN_getsB,pack_gets bs 1 n (by rw[xp];exact hl) (by rw[xp];exact hb)]
theorem getsB_packB(l:List Bool):qiq (qdk l) l.length=l:=by
 apply qem
 intro i
 by_cases hi:i<l.length
 ·
  rw[getsB_get _ _ _ hi,qe hi]
  have h:=get_pack 1 (qkf l) (qog l) i (by rw[qhq];exact hi)
  rw[←qk5] at h
  unfold getB
  rw[h]
  simp only[qkf,j6]
  cases l[i] <;> rfl
 ·
  rw[yh (by rw[qc7];omega),yh (by omega)]
theorem bval_packB(l:List Bool):qbf (qdk l)<2 ^ l.length:=by
 rw[qk5,qnl 1 _ (qog l)]
 have:=qno 1 (qkf l) (qog l)
 rwa [qhq,qb4] at this
theorem getN_byte(bs:List UInt8)(i:Nat)(h:i/8<bs.length):qi0 bs 1 i=bs[i/8].toNat/2 ^ (i%8)%2:=by
 unfold qi0
 rw[qb4,Nat.pow_one,←bval_at bs (i/8) h,qi8 i,←uo]
 generalize qbf bs/256 ^ (i/8)=y
 have hr:i%8<8:=qcm _ (by decide)
 rw[show(256:Nat)=2 ^ (i%8)*(2*2 ^ (7-i%8)) by rw[←Nat.pow_succ',←vw,show i%8+(7-i%8).succ=8 by omega]]
 rw[Nat.mod_mul_right_div_self,Nat.mod_mul_right_mod]
theorem bsize_any{w:World}(n s:Nat)(h:n≤9223372036854775807)(hs:(n+7)/8=s) :
  Calls Tryz.prog 163 #[.int .i64 (n:Int)] w fun r w'=>r= .returned (.int .i64 (s:Int))∧w=w':=by
 have h1:Hid ((n:Int)/8+((n:Int)%8+8-1)/8=(s:Int)):=by unfold Hid;omega
 clear hs
 go_enter Tryz.func163,Tryz.ntmps163
 go_wp2
 go_ret
 exact⟨qai (by rw[←h1.out]),rfl⟩
theorem xu{P:Program}{o:Oper}{a:Act}{Q:Exit→Act→World→Prop}{K:Act→World→Prop}{w w':World}{v1 v2 v':Value}(s x:Operand)(t t':TypeId)
  (ho:o.op= .call { callee:= .builtin .append,args:=#[s,x],argTypes:=#[t,t'] }) (hs:a.eval s=v1) (hx:a.eval x=v2)
  (hr:(Builtin.append_ #[t,t'] o.type #[v1,v2]).run P w= .ok v' w') (h:K (a.put o.dst v') w'):Oper.wp P o a w K Q:=by
 unfold Oper.wp execOp
 simp only[ho,resolve,invoke,builtin,Sem.run_bind,Sem.run_pure,Result.andThen_ok,qcn,yc,vu,hs,hx,hr]
 exact h
def yp(gs:List Nat):List Int:=(List.range gs.length).map fun i=>if i=0 then ((gs.getD 0 0:Nat):Int) else ((gs.getD i 0:Nat):Int)-((gs.getD (i-1) 0:Nat):Int)
theorem yd(gs:List Nat):(yp gs).length=gs.length:=by simp[yp]
theorem qkq(gs:List Nat)(h:0<gs.length):(yp gs)[0]'(by rw[yd];exact h)=((gs[0]:Nat):Int):=by
 simp[yp,List.getD,qe h]
theorem qkr(gs:List Nat)(k:Nat)(h:k+1<gs.length):(yp gs)[k+1]'(by rw[yd];exact h)=((gs[k+1]:Nat):Int)-((gs[k]'(by omega):Nat):Int):=by
 simp[yp,List.getD,qe h,qe (show k<gs.length by omega)]
theorem qft{gs:List Nat}(hu:gs.Pairwise (· < ·))(hl:∀g∈gs,g<16777216):qok (yp gs):=fun z hz=>by
 obtain⟨i,hi,rfl⟩:=zc hz
 rw[yd] at hi
 match i,hi with
 | 0,hi =>
  rw[qkq gs hi]
  have:=hl gs[0] (ql hi)
  omega
 | k+1,hi =>
  rw[qkr gs k hi]
  have h1:=hl gs[k+1] (ql hi)
  have h2:=ui.1 hu k (k+1) (by omega) hi (by omega)
  omega
def xf(b:Nat)(gs:List Nat)(rs:List Bool):List UInt8:=if 0<b then ji b++xi rs else ji 0++js (yp gs)
structure TakeG (bs:List UInt8) (k:Nat) (e:Int) (b:Nat) (gs:List Nat) (rs:List Bool) (k':Nat) (e':Int):Prop where
 bad:e'≠0→b=0∧gs=[]∧rs=[]
 good:e'=0→e=0∧FilG b gs rs∧bs.drop k=xf b gs rs++bs.drop k'∧k'=k+(xf b gs rs).length∧k'≤bs.length
 there:∀b0 gs0 rs0 rest,e=0→FilG b0 gs0 rs0→bs.drop k=xf b0 gs0 rs0++rest→e'=0∧b=b0∧gs=gs0∧rs=rs0
theorem or_i64(a b:Nat)(ha:a<9223372036854775808)(hb:b<9223372036854775808):bits .or .i64 (a:Int) (b:Int)=((a ||| b:Nat):Int):=by
 have e:∀n:Nat,n<9223372036854775808→(BitVec.ofInt 64 (n:Int)).toNat=n:=fun n hn=>by
  rw[BitVec.ofInt_natCast,kt];exact vc (by omega)
 have hx:a ||| b<2 ^ 63:=Nat.or_lt_two_pow (by omega) (by omega)
 show IntKind.i64.wrap ((BitVec.ofInt 64 (a:Int) ||| BitVec.ofInt 64 (b:Int)).toNat:Int)=_
 rw[BitVec.toNat_or,e a ha,e b hb,IntKind.wrap_i64]
 omega
theorem gplaces_any{w:World}(s:ByteArray)(hs:s.size≤100000)(n:Nat)(hn:s.size-2=n) :
  Calls Tryz.prog 149 #[.string s] w fun r w'=>r= .returned (.int .i64 (n:Int))∧w=w':=by
 have HN:=qa hn
 clear hn
 go_enter Tryz.func149,Tryz.ntmps149
 go_wp2
 all_goals
  have hn:=HN.out
  go_ret
  exact⟨qai (by omega),rfl⟩
theorem or_three(a b c:Nat)(ha:a<256)(hb:b<256)(hc:c<256) :
  bits .or .i64 (bits .or .i64 (wrap64 (wrap64 (a:Int)*65536)) (wrap64 (wrap64 (b:Int)*256))) (wrap64 (c:Int))=((65536*a+256*b+c:Nat):Int):=by
 have e1:wrap64 (a:Int)=(a:Int):=uc _ (by omega)
 have e2:wrap64 (b:Int)=(b:Int):=uc _ (by omega)
 have e3:wrap64 (c:Int)=(c:Int):=uc _ (by omega)
 have e4:wrap64 ((a:Int)*65536)=((65536*a:Nat):Int):=by rw[show(a:Int)*65536=((65536*a:Nat):Int) by omega];exact uc _ (by omega)
 have e5:wrap64 ((b:Int)*256)=((256*b:Nat):Int):=by rw[show(b:Int)*256=((256*b:Nat):Int) by omega];exact uc _ (by omega)
 have f1:65536*a ||| 256*b=65536*a+256*b:=by
  have:=qa0 (a:=a) (b:=256*b) (i:=16) (by omega)
  rw[qay,xe a] at this
  exact this.symm
 have f2:(65536*a+256*b) ||| c=65536*a+256*b+c:=by
  have:=qa0 (a:=256*a+b) (b:=c) (i:=8) (by omega)
  rw[qay,show(256*a+b)*2 ^ 8=65536*a+256*b by omega] at this
  exact this.symm
 rw[e1,e2,e3,e4,e5,or_i64 _ _ (by omega) (by omega),f1,or_i64 _ _ (by omega) (by omega),f2]
theorem ggram_any{w:World}(s:ByteArray)(h:2<s.size)(hs:s.size≤100000)(g:Nat)(hg:qke (s[0]'(by omega)) (s[1]'(by omega)) (s[2]'(by omega))=g) :
  Calls Tryz.prog 150 #[.string s] w fun r w'=>r= .returned (.int .i64 (g:Int))∧∃m,w'=w.drewN m:=by
 have h0:0<s.size:=by omega
 have h1:1<s.size:=by omega
 have i0:(0:Int)<(s.size:Int):=by omega
 have i1:(1:Int)<(s.size:Int):=by omega
 have i2:(2:Int)<(s.size:Int):=by omega
 have HG:=qa hg
 clear hg
 go_enter Tryz.func150,Tryz.ntmps150
 go_wp2_with fail
 go_quiet (fail)
 go_wp2_with fail
 go_ret
 refine⟨qai ?_,_,rfl⟩
 rw[←HG.out]
 exact or_three _ _ _ (jj _) (jj _) (jj _)
theorem gbit_any{w:World}(g b q:Nat)(hg:g<16777216)(hb0:0<b)(hb:b≤70000)(hq:bitG g b=q) :
  Calls Tryz.prog 153 #[.int .i64 (g:Int),.int .i64 (b:Int)] w fun r w'=>r= .returned (.int .i64 (q:Int))∧w=w':=by
 have hqz:((g:Int)*40503%65521)%(b:Int)=(q:Int):=by rw[←hq,bitG,Int.natCast_emod,Int.natCast_emod,qaw];rfl
 have hbz:(b:Int)≠0:=by omega
 have HQ:=qa hqz
 clear hq hqz
 go_enter Tryz.func153,Tryz.ntmps153
 go_wp2
 go_ret
 exact⟨qai HQ.out,rfl⟩
theorem gmark_any{w:World}(t:List Nat)(b:Nat)(hb0:0<b)(hb:b≤70000)(hlt:∀g∈t,g<16777216){lo hi c:Nat}{A:Option Addr}(h:Rd w lo hi A c (iv (z8 t)))(hhi:hi≤w.heap.size) :
  Calls Tryz.prog 108 #[.slice A t.length c,.int .i64 (b:Int)] w fun r w'=>r= .returned (.slice (some ⟨w.heap.size,0,none⟩) b b)∧
   w'.ownsRow w.heap.size 4 1 (.slice (some ⟨w.heap.size,0,none⟩) b b) b (lv (qe4 b t))∧Below w.heap.size w w':=by
 have hl:=h.len
 have hm:=h.cap
 rw[jz,zu] at hl
 unfold maxLen at hm
 have HLT:Hid (∀k (hk:k<t.length),t[k]<16777216):=fun k hk=>hlt _ (ql hk)
 obtain⟨w1,hmake,hown,hg1⟩:=qic w b (by omega)
 have HO1:Hid (w1.ownsRow w.heap.size 4 1 (.slice (some ⟨w.heap.size,0,none⟩) b b) b (lv (qe4 b []))):=by
  unfold Hid
  simpa[qe4,lv] using hown
 have HB1:Hid (Below w.heap.size w w1):=(Below.refl _ w).grown hg1 (qc _) (by simp)
 have H:=qa h
 clear h hlt hown hg1
 go_enter Tryz.func108,Tryz.ntmps108
 go_wp2_with fail
 go_loopw [12] (fun x12 wr=>∃k:Nat,k≤t.length∧x12= .int .i64 (k:Int)∧wr.ownsRow w.heap.size 4 1 (.slice (some ⟨w.heap.size,0,none⟩) b b) b (lv (qe4 b (t.take k)))∧Below w.heap.size w wr) (fun x12 _=>t.length-(intOf x12).toNat)
 case atStart=>exact⟨0,qi _,rfl,HO1.out,HB1.out⟩
 case round =>
  clear HO1 hmake
  obtain⟨k,hk,rfl,hown,hbe⟩:=hrel
  obtain⟨wz,hwz⟩:∃wz,wz=wr:=⟨_,rfl⟩
  subst hwz
  have HO:=qa hown
  have HB:=qa hbe
  clear hown hbe
  by_cases hlt:k<t.length
  ·
   have ik:(k:Int)<(t.length:Int):=by omega
   obtain⟨bb,off,rfl,_,hbb,hcell0⟩:=H.out.nat hlt
   have hcell:wz.cell? ⟨bb,off+k,none⟩=some (.int .i64 ((t[k]:Nat):Int)):=(HB.out.cell (by show bb<_;omega)).trans hcell0
   have hgl:=HLT.out k hlt
   obtain⟨q,hqe⟩:∃q,bitG t[k] b=q:=⟨_,rfl⟩
   have hqb:q<b:=by rw[←hqe];exact qcm _ hb0
   have HBT:=qa (gbit_any (w:=wz) t[k] b q hgl hb0 hb hqe)
   have HSN:Hid (qe4 b (t.take (k+1))=(qe4 b (t.take k)).set q true):=by
    unfold Hid
    rw[qj hlt,setB_snoc,hqe]
   have hsl:(lv (qe4 b (t.take k))).length=b:=by rw[qau,qc1]
   obtain⟨u0,hu0⟩:∃u0,(lv (qe4 b (t.take k)))[q]? = some u0:=⟨_,qe (by omega)⟩
   have hrc:wz.cell? ⟨w.heap.size,q,none⟩=some u0:=by rw[HO.out.cellAt q (by omega),hu0]
   have hrf:=HO.out.frozenAt q
   have iqb:(q:Int)<(b:Int):=by omega
   clear hu0 hsl hqe hcell0
   generalize t[k]=g at *
   go_wp2_with fail
   refine HBT.out.mono ?_
   rintro r w' ⟨rfl,rfl⟩
   clear HBT
   go_wp2_with fail
   have hst:=HO.out.stored q (.bool true)
   have hst1:(wz.setCell ⟨w.heap.size,q,none⟩ (.bool true)).ownsRow w.heap.size 4 1 (.slice (some ⟨w.heap.size,0,none⟩) b b) b (lv (qe4 b (t.take (k+1)))):=by
    rw[HSN.out,lv_set]
    exact hst.1
   have HS1:=qa hst1
   have HBB:Hid (Below w.heap.size w (wz.setCell ⟨w.heap.size,q,none⟩ (.bool true))):=HB.out.setCell (p:=⟨w.heap.size,q,none⟩) (qc _) _
   clear hst hst1
   go_roundw
   case rel=>exact⟨k+1,by omega,by go_num,HS1.out,HBB.out⟩
   case measure=>simp[intOf] <;> omega
  ·
   have ik:¬(k:Int)<(t.length:Int):=by omega
   have hkt:t.take k=t:=qo (by omega)
   rw[hkt] at HO
   clear hkt
   go_wp2_with fail
   go_ret
   exact⟨rfl,HO.out,HB.out⟩
def qgl(gs:List Nat)(k:Nat):Nat:=if k=0 then 0 else gs.getD (k-1) 0
end Go.Proofs.YtjfecojdagmacaaGreat
