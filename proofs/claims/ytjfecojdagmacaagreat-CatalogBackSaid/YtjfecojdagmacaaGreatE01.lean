/-
  Lemmas.
-/
import Derived.Test.YtjfecojdagmacaaGreatE00
import Derived.Laws.BitsAll
import Derived.Lib.ItoaNum
import Derived.Shelf.Small.Bits
import Derived.StillTailTactics
namespace Go.Proofs.YtjfecojdagmacaaGreat
open Go.RowKit
set_option maxRecDepth 20000
set_option maxHeartbeats 16000000
set_option linter.unusedSimpArgs false
set_option linter.unusedVariables false
def qef(w:Nat):List Nat→Nat
 | []=>0
 | x :: r=>x+2 ^ w*qef w r
def yi:Nat→Nat→List UInt8
 | 0,_=>[]
 | m+1,V=>UInt8.ofNat (V%256) :: yi m (V/256)
def un:List UInt8→Nat
 | []=>0
 | b :: r=>b.toNat+256*un r
theorem qhn(V:Nat):(UInt8.ofNat (V%256)).toNat=V%256:=by rw[yj];omega
theorem qlg(w:Nat)(l:List Nat)(x:Nat):qef w (l++[x])=qef w l+2 ^ (w*l.length)*x:=by
 induction l with
 | nil=>simp[qef]
 | cons y r ih =>
  simp only[z7,qef,ih,qo]
  rw[qcm w,xl,Nat.add_comm (w*r.length),xx,qcm,qc9]
  omega
theorem qkm(w:Nat)(l:List Nat)(h:∀x∈l,x<2 ^ w):qef w l<2 ^ (w*l.length):=by
 induction l with
 | nil=>simp[qef]
 | cons y r ih =>
  simp only[qef,qo]
  rw[qcm w,xl,Nat.add_comm (w*r.length),xx]
  have h1:=h y (by simp)
  have h2:=ih fun x hx=>h x (by simp[hx])
  calc y+2 ^ w*qef w r<2 ^ w+2 ^ w*qef w r:=by omega
   _=2 ^ w*(qef w r+1):=by rw[qcm,xl];omega
   _≤2 ^ w*2 ^ (w*r.length):=qbl _ h2
theorem vsum_get(w:Nat)(l:List Nat)(h:∀x∈l,x<2 ^ w)(i:Nat)(hi:i<l.length):qef w l/2 ^ (w*i)%2 ^ w=l[i]:=by
 induction l generalizing i with
 | nil=>simp at hi
 | cons y r ih =>
  have h1:=h y (by simp)
  have hp:0<2 ^ w:=Nat.two_pow_pos w
  rcases i with _ | i
  ·
   simp only[Nat.mul_zero,Nat.pow_zero,Nat.div_one,qef,xj,Nat.add_mul_mod_self_left]
   exact xt h1
  ·
   rw[qcm w,xl,Nat.add_comm (w*i),xx,←vm]
   have e:qef w (y :: r)/2 ^ w=qef w r:=by
    simp only[qef]
    rw[Nat.add_mul_div_left _ _ hp,Nat.div_eq_of_lt h1];omega
   rw[e]
   exact ih (fun x hx=>h x (by simp[hx])) i (by simpa using hi)
theorem vl(m V:Nat):(yi m V).length=m:=by
 induction m generalizing V with
 | zero=>rfl
 | succ m ih=>simp only[yi,qo,ih]
theorem qd3(m V:Nat):yi (m+1) V=yi m V++[UInt8.ofNat (V/256 ^ m%256)]:=by
 induction m generalizing V with
 | zero=>simp[yi]
 | succ m ih =>
  rw[yi,ih (V/256),yi,z7,vm,kw,yz 256]
theorem bytesN_mod(m V:Nat):yi m (V%256 ^ m)=yi m V:=by
 induction m generalizing V with
 | zero=>rfl
 | succ m ih =>
  simp only[yi]
  rw[kw,yz (256 ^ m),Nat.mod_mul_right_mod,Nat.mod_mul_right_div_self,ih]
theorem qm0(m V y:Nat):yi m (V+256 ^ m*y)=yi m V:=by
 rw[←bytesN_mod,Nat.add_mul_mod_self_left,bytesN_mod]
theorem bval_lt(bs:List UInt8):un bs<256 ^ bs.length:=by
 induction bs with
 | nil=>simp[un]
 | cons b r ih =>
  have:=je b
  simp only[un,qo,kw]
  omega
theorem bval_bytesN(m V:Nat):un (yi m V)=V%256 ^ m:=by
 induction m generalizing V with
 | zero=>simp[yi,un,Nat.mod_one]
 | succ m ih =>
  simp only[yi,un,ih,qhn]
  rw[kw,yz (256 ^ m),Nat.mod_mul]
theorem bytesN_bval(bs:List UInt8):yi bs.length (un bs)=bs:=by
 induction bs with
 | nil=>rfl
 | cons b r ih =>
  have:=je b
  simp only[qo,yi,un]
  rw[show(b.toNat+256*un r)%256=b.toNat from by omega,show(b.toNat+256*un r)/256=un r from by omega,ih]
  simp
theorem bval_append(a b:List UInt8):un (a++b)=un a+256 ^ a.length*un b:=by
 induction a with
 | nil=>simp[un]
 | cons x r ih =>
  simp only[z7,un,ih,qo,kw]
  rw[yz (256 ^ r.length) 256,qc9]
  omega
theorem bval_at(bs:List UInt8)(j:Nat)(h:j<bs.length):un bs/256 ^ j%256=bs[j].toNat:=by
 induction bs generalizing j with
 | nil=>simp at h
 | cons b r ih =>
  have:=je b
  rcases j with _ | j
  ·
   simp only[un,Nat.pow_zero,Nat.div_one,xj]
   omega
  ·
   rw[kw,yz (256 ^ j),←vm]
   simp only[un,List.getElem_cons_succ]
   rw[show(b.toNat+256*un r)/256=un r from by omega]
   exact ih j (by simpa using h)
theorem qf1(n:Nat):256 ^ n=2 ^ (8*n):=by rw[Nat.pow_mul]
theorem bval_over(bs:List UInt8)(n:Nat)(h:8*bs.length≤n):un bs/2 ^ n=0:=by
 apply Nat.div_eq_of_lt
 have:=bval_lt bs
 rw[qf1] at this
 exact zh this (yb (by omega) h)
def qbo(w:Nat)(l:List Nat):List UInt8:=yi ((l.length*w+7)/8) (qef w l)
theorem qbz(w:Nat)(l:List Nat):(qbo w l).length=(l.length*w+7)/8:=vl _ _
def qgr(bs:List UInt8)(w i:Nat):Nat:=un bs/2 ^ (w*i)%2 ^ w
theorem getN_lt(bs:List UInt8)(w i:Nat):qgr bs w i<2 ^ w:=qb1 _ (Nat.two_pow_pos w)
theorem qki(w:Nat)(l:List Nat)(h:∀x∈l,x<2 ^ w):un (qbo w l)=qef w l:=by
 unfold qbo
 rw[bval_bytesN]
 apply xt
 refine zh (qkm w l h) ?_
 rw[qf1]
 refine yb (by omega) ?_
 rw[yz w]
 generalize l.length*w=n
 omega
theorem get_pack(w:Nat)(l:List Nat)(h:∀x∈l,x<2 ^ w)(i:Nat)(hi:i<l.length):qgr (qbo w l) w i=l[i]:=by
 unfold qgr
 rw[qki w l h,vsum_get w l h i hi]
def qas(bs:List UInt8)(w n:Nat):List Nat:=(List.range n).map (qgr bs w)
theorem qb0(bs:List UInt8)(w n:Nat):(qas bs w n).length=n:=by simp[qas]
theorem getsN_succ(bs:List UInt8)(w n:Nat):qas bs w (n+1)=qas bs w n++[qgr bs w n]:=by simp[qas,List.range_succ]
theorem getsN_get(bs:List UInt8)(w n i:Nat)(h:i<n):(qas bs w n)[i]? = some (qgr bs w i):=by simp[qas,h]
theorem getsN_lt(bs:List UInt8)(w n:Nat):∀x∈qas bs w n,x<2 ^ w:=by
 intro x hx
 obtain⟨i,_,rfl⟩:=za.1 hx
 exact getN_lt _ _ _
theorem vsum_getsN(bs:List UInt8)(w n:Nat):qef w (qas bs w n)=un bs%2 ^ (w*n):=by
 induction n with
 | zero=>simp[qas,qef,Nat.mod_one]
 | succ n ih =>
  rw[getsN_succ,qlg,ih,qb0,qcm w,xl,xx,Nat.mod_mul]
  rfl
theorem pack_gets(bs:List UInt8)(w n:Nat)(hl:bs.length=(n*w+7)/8)(hb:un bs<2 ^ (n*w)):qbo w (qas bs w n)=bs:=by
 unfold qbo
 rw[qb0,←hl,vsum_getsN,yz w,xt hb,bytesN_bval]
theorem gets_pack(w:Nat)(l:List Nat)(h:∀x∈l,x<2 ^ w):qas (qbo w l) w l.length=l:=by
 apply qcp
 intro i
 by_cases hi:i<l.length
 ·
  rw[getsN_get _ _ _ _ hi,get_pack w l h i hi,qe hi]
 ·
  rw[jp (by rw[qb0];omega),jp (by omega)]
theorem filled_iff(bs:List UInt8)(n:Nat)(hl:bs.length=(n+7)/8)(hn:n%8≠0):(bs.getLastD 0).toNat/2 ^ (n%8)=0↔un bs<2 ^ n:=by
 rcases List.eq_nil_or_concat bs with rfl | ⟨r,x,rfl⟩
 ·
  simp at hl;omega
 ·
  have hr:r.length=n/8:=by simp at hl;omega
  have e2:2 ^ n=256 ^ (n/8)*2 ^ (n%8):=by
   rw[qf1,←xx]
   congr 1
   omega
  have hp:0<256 ^ (n/8):=Nat.pow_pos (by omega)
  have hb:=bval_lt r
  rw[hr] at hb
  rw[List.concat_eq_append,List.getLastD_concat,bval_append,hr,e2]
  have e1:un [x]=x.toNat:=by simp[un]
  rw[e1,Nat.div_eq_zero_iff_lt (Nat.two_pow_pos _)]
  constructor
  ·
   intro h
   calc un r+256 ^ (n/8)*x.toNat<256 ^ (n/8)+256 ^ (n/8)*x.toNat:=by omega
    _=256 ^ (n/8)*(x.toNat+1):=by rw[qcm,xl];omega
    _≤256 ^ (n/8)*2 ^ (n%8):=qbl _ h
  ·
   intro h
   rcases Nat.lt_or_ge x.toNat (2 ^ (n%8)) with h1 | h1
   ·
    exact h1
   ·
    have:=qbl (256 ^ (n/8)) h1
    omega
theorem filled_all(bs:List UInt8)(n:Nat)(hl:bs.length=(n+7)/8)(hn:n%8=0):un bs<2 ^ n:=by
 have h:=bval_lt bs
 rw[qf1,hl] at h
 rw[show 8*((n+7)/8)=n from by omega] at h
 exact h
theorem len_bounds(x:Nat)(hx:x<2 ^ 64)(h0:x≠0):1≤Lib.bitLen x∧2 ^ (Lib.bitLen x-1)≤x∧x<2 ^ Lib.bitLen x:=Lib.bitLenAux_bounds 64 x hx h0
theorem len_lt(x:Nat)(hx:x<2 ^ 64):x<2 ^ Lib.bitLen x:=by
 by_cases h0:x=0
 ·
  subst h0;exact Nat.two_pow_pos _
 ·
  exact(len_bounds x hx h0).2.2
def grt(zs:List Int):Int:=zs.foldl max 0
theorem grt_snoc(zs:List Int)(z:Int):grt (zs++[z])=max (grt zs) z:=by simp[grt]
theorem grt_take(zs:List Int)(k:Nat)(h:k<zs.length):grt (zs.take (k+1))=max (grt (zs.take k)) zs[k]:=by
 rw[qi h,grt_snoc]
theorem foldl_max(zs:List Int):∀a:Int,a≤zs.foldl max a∧∀z∈zs,z≤zs.foldl max a:=by
 induction zs with
 | nil=>intro a;exact⟨Int.le_refl _,by simp⟩
 | cons y r ih =>
  intro a
  obtain⟨h1,h2⟩:=ih (max a y)
  refine⟨by simp only[List.foldl_cons];omega,fun z hz => ?_⟩
  simp only[List.foldl_cons]
  rcases zv.1 hz with rfl | hz
  ·
   omega
  ·
   exact h2 z hz
theorem grt_ge(zs:List Int):0≤grt zs:=(foldl_max zs 0).1
theorem grt_all(zs:List Int):∀z∈zs,z≤grt zs:=(foldl_max zs 0).2
theorem foldl_max_le(zs:List Int)(m:Int)(h:∀z∈zs,z≤m):∀a:Int,a≤m→zs.foldl max a≤m:=by
 induction zs with
 | nil=>intro a ha;exact ha
 | cons y r ih =>
  intro a ha
  simp only[List.foldl_cons]
  exact ih (fun z hz=>h z (by simp[hz])) _ (by have:=h y (by simp);omega)
theorem grt_le(zs:List Int)(m:Int)(hm:0≤m)(h:∀z∈zs,z≤m):grt zs≤m:=foldl_max_le zs m h 0 hm
def wide(zs:List Int):Nat:=Lib.bitLen (grt zs).toNat
theorem word_grt{zs:List Int}(h:qjg zs):grt zs≤9223372036854775807:=grt_le zs _ (by omega) fun z hz=>(h z hz).2
theorem wide_le(zs:List Int)(m:Nat)(hm:m≤64)(h:∀z∈zs,z<2 ^ m):wide zs≤m:=by
 refine Lib.bitLen_le _ m hm ?_
 have hp:(0:Int)<2 ^ m:=Int.pow_pos (by omega)
 have h1:=grt_le zs (2 ^ m-1) (by omega) (fun z hz=>by have:=h z hz;omega)
 have e:((2 ^ m:Nat):Int)=2 ^ m:=by norm_cast
 omega
theorem wide_lt{zs:List Int}(hw:qjg zs):∀z∈zs,z<2 ^ wide zs:=by
 intro z hz
 have h1:=grt_all zs z hz
 have h2:=word_grt hw
 have h3:=len_lt (grt zs).toNat (by omega)
 have e:((2 ^ wide zs:Nat):Int)=2 ^ wide zs:=by norm_cast
 unfold wide at e ⊢
 have:=grt_ge zs
 omega
def Fits(zs:List Int)(wd:Int):Prop:=0≤wd∧wd≤32∧∀z∈zs,0≤z∧z<2 ^ wd.toNat
instance (zs:List Int) (wd:Int):Decidable (Fits zs wd):=by unfold Fits;infer_instance
def fitB(zs:List Int)(wd:Int):Bool:=decide (Fits zs wd)
def qic(wd:Int):Bool:=decide (0≤wd∧wd≤32)
def May(zs:List Int):Prop:=∀z∈zs,0≤z∧z≤4294967295
instance (zs:List Int):Decidable (May zs):=by unfold May;infer_instance
theorem May.word{zs:List Int}(h:May zs):qjg zs:=fun z hz=>by have:=h z hz;omega
theorem wide_upto(zs:List Int)(m:Nat)(hm:m≤64)(h:∀z∈zs,z<2 ^ m):wide zs≤m:=wide_le zs m hm h
theorem May.wide_le{zs:List Int}(h:May zs):wide zs≤32:=wide_upto zs 32 (by omega) fun z hz=>by have:=h z hz;omega
theorem May.fits{zs:List Int}(h:May zs):Fits zs (wide zs:Int) :=
 ⟨by omega,by have:=h.wide_le;omega,fun z hz=>⟨(h z hz).1,by rw[kf];exact wide_lt h.word z hz⟩⟩
def qcu(zs:List Int):List Nat:=zs.map Int.toNat
theorem ux(zs:List Int):(qcu zs).length=zs.length:=by simp[qcu]
theorem Fits.nats_lt{zs:List Int}{wd:Int}(h:Fits zs wd):∀x∈qcu zs,x<2 ^ wd.toNat:=by
 intro x hx
 obtain⟨z,hz,rfl⟩:=za.1 hx
 have:=h.2.2 z hz
 have e:((2 ^ wd.toNat:Nat):Int)=2 ^ wd.toNat:=by norm_cast
 omega
theorem qlr(ns:List Nat):qcu (jf ns)=ns:=by
 unfold qcu jf
 rw[uk]
 conv=>rhs;rw[←List.map_id ns]
 exact qal fun n _=>by simp
theorem qi2{zs:List Int}(h:∀z∈zs,0≤z):jf (qcu zs)=zs:=by
 unfold qcu jf
 rw[uk]
 conv=>rhs;rw[←List.map_id zs]
 exact qal fun z hz=>by have:=h z hz;simp;omega
theorem Rd.byte{w:World}{lo hi c:Nat}{A:Option Addr}{bs:List UInt8}(h:Rd w lo hi A c (bv bs)){k:Nat}(hk:k<bs.length) :
  ∃b off,A=some ⟨b,off,none⟩∧lo≤b∧b<hi∧w.cell? ⟨b,off+k,none⟩=some (.int .u8 (bs[k].toNat:Int)):=by
 obtain⟨b,off,e,h1,h2,h3⟩:=h.at_ (by rw[jj];omega)
 exact⟨b,off,e,h1,h2,h3 k _ (qgt bs k hk)⟩
theorem Tryz.infoU8:(Tryz.prog.info? 5).map (fun i=>(i.zero,i.size,i.bytes))=some (some (.int .u8 0),1,1):=by kernel_rfl
theorem qhr(w:World)(base:Nat)(v:Value)(ys bs:List UInt8)(hown:w.ownsRow base 5 1 v ys.length (bv ys)){lo h':Nat}{A:Option Addr}{c:Nat}(hr:Rd w lo h' A c (bv bs))
  (hb:ys.length+bs.length≤140737488355328) (hbase:base≤w.heap.size) :
  ∃A' c' w',(Builtin.append_ #[36,36] 36 #[v,.slice A bs.length c]).run Tryz.prog w= .ok (.slice A' (ys.length+bs.length) c') w'∧
   w'.ownsRow base 5 1 (.slice A' (ys.length+bs.length) c') (ys.length+bs.length) (bv (ys++bs))∧w.grownBy w' v.ownBlock:=by
 obtain⟨i0,hi0,hz0,hz1,hz2⟩:=info_parts Tryz.infoU8
 have hl:=jj bs
 obtain⟨A',c',w',hrun,h2,h3,_⟩:=ky (P:=Tryz.prog) w base 36 36 5 i0 _ 1 Tryz.underlying36 hi0 hz0 hz1 hz2 rfl v ys.length (bv ys) hown lo h' A c (bv bs) hr (bv_one _)
  (by rw[hl];simp only[maxLen];omega) (by rw[hl];omega) hbase
 rw[hl] at hrun h2
 exact⟨A',c',w',hrun,by rw[qg5];exact h2,h3⟩
theorem xm(w:World)(base:Nat)(v:Value)(ys bs cs:List UInt8)(hcs:ys++bs=cs)(hown:w.ownsRow base 5 1 v ys.length (bv ys)){lo h':Nat}{A:Option Addr}{c:Nat}(hr:Rd w lo h' A c (bv bs))
  (hb:ys.length+bs.length≤140737488355328) (hbase:base≤w.heap.size) :
  ∃A' c' w',(Builtin.append_ #[36,36] 36 #[v,.slice A bs.length c]).run Tryz.prog w= .ok (.slice A' cs.length c') w'∧
   w'.ownsRow base 5 1 (.slice A' cs.length c') cs.length (bv cs)∧w.grownBy w' v.ownBlock:=by
 subst hcs
 rw[qd]
 exact qhr w base v ys bs hown hr hb hbase
theorem qcs{ops:Array Oper}{rest:List Oper}{o:Oper}{a:Act}{Q:Exit→Act→World→Prop}{w:World}{v:Value}{g:Nat}(base:Nat)(ys:List UInt8)(b:UInt8)(hgd:o.guard=none)(s x:Operand)
  (ho:o.op= .call { callee:= .builtin .append,args:=#[s,x],argTypes:=#[36,36] }) (hty:o.type=36)
  (hs:a.eval s=v) (hx:a.eval x= .slice (some ⟨g,0,none⟩) 1 1) (hcell:w.cell? ⟨g,0,none⟩=some (.int .u8 (b.toNat:Int)))
  (hown:w.ownsRow base 5 1 v ys.length (bv ys)) (hb:ys.length+1≤140737488355328) (hbase:base≤w.heap.size)
  (h:∀A' c' w',w'.ownsRow base 5 1 (.slice A' (ys++[b]).length c') (ys++[b]).length (bv (ys++[b]))→w.grownBy w' v.ownBlock→wpList Tryz.prog ops Q rest (a.put o.dst (.slice A' (ys.length+1) c')) w') :
  wpList Tryz.prog ops Q (o :: rest) a w:=by
 have hr:Rd w 0 w.heap.size (some ⟨g,0,none⟩) 1 (bv [b]):=⟨by simp[bv],by simp[maxLen],fun _=>⟨g,0,rfl,qj _,km w _ hcell,fun j u hu=>by
  match j,hu with
  | 0,hu =>
   simp[bv] at hu
   subst hu
   exact hcell
  | j+1,hu=>simp[bv] at hu⟩⟩
 obtain⟨A',c',w',hrun,h2,h3⟩:=qhr w base v ys [b] hown hr (by simpa using hb) hbase
 refine wpList_append_run hgd s x _ _ ho hs hx (by rw[hty];exact hrun) (h A' c' w' (by simpa using h2) h3)
theorem own_lit(w:World)(l:List UInt8)(cs:Array Value)(h:cs.toList=bv l)(hm:l.length≤1000):(w.alloc (.cells cs 5)).ownsRow w.heap.size 5 1 (.slice (some ⟨w.heap.size,0,none⟩) l.length l.length) l.length (bv l):=by
 have:=World.ownsRow_lit (e:=5) (size:=1) (base:=w.heap.size) w cs l.length (qc _) (by simp only[maxLen];omega) (by rw[←jo,h,jj,xl])
 rwa [h] at this
def BitsAt(n V:Nat)(ys:List UInt8):Prop:=V<2 ^ n∧ys=yi ((n+7)/8) V
def OpenAt(n V:Nat)(ys:List UInt8):Prop:=V<2 ^ n∧ys=yi (n/8+1) V
theorem qh4(n:Nat):2 ^ n=256 ^ (n/8)*2 ^ (n%8):=by
 rw[←Nat.pow_mul 2 8 (n/8),←xx]
 congr 1
 omega
theorem bitsAt_one{n V:Nat}{ys:List UInt8}(h:OpenAt n V ys)(x:UInt8)(hx:ys[n/8]? = some x) :
  x.toNat+2 ^ (n%8)<256∧BitsAt (n+1) (V+2 ^ n) (ys.set (n/8) (UInt8.ofNat (x.toNat+2 ^ (n%8)))):=by
 obtain⟨h1,rfl⟩:=h
 rw[qd3,yl (by rw[vl];exact qc _),vl,qbt] at hx
 simp only[zf,Option.some.injEq] at hx
 have h2:=h1
 rw[qh4] at h2
 have h3:=Nat.div_lt_of_lt_mul h2
 have h4:2 ^ (n%8)≤2 ^ 7:=yb (by omega) (by omega)
 have hp:0<256 ^ (n/8):=Nat.pow_pos (by omega)
 have hxv:x.toNat=V/256 ^ (n/8):=by
  rw[←hx,qhn,xt (by omega)]
 rw[hxv]
 refine⟨by omega,by rw[kw];omega,?_⟩
 rw[show(n+1+7)/8=n/8+1 from by omega,qd3,qd3,List.set_append_right _ _ (by rw[vl];exact qc _),vl,qbt]
 have e:(V+2 ^ n)/256 ^ (n/8)=V/256 ^ (n/8)+2 ^ (n%8):=by rw[qh4 n,Nat.add_mul_div_left _ _ hp]
 rw[e,xt (show V/256 ^ (n/8)+2 ^ (n%8)<256 by omega)]
 congr 1
 rw[qh4 n,qm0]
theorem bv_set(l:List UInt8)(j:Nat)(x:UInt8):bv (l.set j x)=(bv l).set j (.int .u8 (x.toNat:Int)):=by simp[bv,List.map_set]
theorem bytesN_add(a b V:Nat):yi (a+b) V=yi a V++yi b (V/256 ^ a):=by
 induction a generalizing V with
 | zero=>simp[yi]
 | succ a ih =>
  rw[Nat.add_right_comm,yi,ih (V/256),yi,z7,vm,kw,yz 256]
theorem last_get(bs:List UInt8)(h:0<bs.length):bs[bs.length-1]=bs.getLastD 0:=by
 rcases List.eq_nil_or_concat bs with rfl | ⟨r,x,rfl⟩
 ·
  simp at h
 ·
  simp
theorem clone_any(bs:List UInt8)(w:World){lo h':Nat}{A:Option Addr}{c:Nat}(h:Rd w lo h' A c (bv bs))(hb:bs.length≤140737488355328) :
  Calls Tryz.prog 93 #[.slice A bs.length c] w fun e w'=>∃A' c',e= .returned (.slice A' bs.length c')∧
   w'.ownsRow w.heap.size 5 1 (.slice A' bs.length c') bs.length (bv bs)∧Below w.heap.size w w':=by
 obtain⟨A',c',w',hrun,hown,hg⟩:=qhr w w.heap.size (.slice none 0 0) [] bs (zj ..) h (by simpa using hb) (qc _)
 simp only[jy,yk,xu] at hrun hown
 go_enter Tryz.func93,Tryz.ntmps93
 go_wp2_with (at_builtin;refine wpList_append_run rfl _ _ _ _ rfl rfl rfl hrun ?_)
 go_ret
 exact⟨A',c',rfl,hown,qaq (qc _) hg (by simp[Value.ownBlock])⟩
def xq(w:World)(lo g:Nat)(bs:List UInt8)(k:Nat)(e:Int):Prop :=
 ∃A c,j8 w g 153 #[.slice A bs.length c,.int .i64 (k:Int),.int .i64 e]∧Rd w lo g A c (bv bs)∧k≤bs.length∧lo≤g
def cp(g:Nat):Value:= .pointer (some ⟨g,0,none⟩)
section
variable {w w':World}{lo g k:Nat}{bs:List UInt8}{e:Int}
theorem xq.grown{row:Option Nat}(h:xq w lo g bs k e)(hg:w.grownBy w' row)(hr:∀x,row=some x→x<lo∨g<x):xq w' lo g bs k e:=by
 obtain⟨A,c,hb,hrd,hk,hl⟩:=h
 exact⟨A,c,hb.grown hg (fun e=>by have:=hr _ e.symm;omega),hrd.grown hg (by have:=hb.lt;omega) (fun x hx=>by have:=hr x hx;omega),hk,hl⟩
theorem xq.drewN(h:xq w lo g bs k e)(n:Nat):xq (w.drewN n) lo g bs k e:=by
 obtain⟨A,c,hb,hrd,hk,hl⟩:=h
 exact⟨A,c,hb.drewN n,hrd.drewN n,hk,hl⟩
theorem xq.base(h:xq w lo g bs k e):lo≤g:=by obtain⟨_,_,_,_,_,hl⟩:=h;exact hl
theorem xq.lt(h:xq w lo g bs k e):g<w.heap.size:=by obtain⟨_,_,hb,_⟩:=h;exact hb.lt
end
theorem new_any(bs:List UInt8)(w:World){lo h':Nat}{A:Option Addr}{c:Nat}(h:Rd w lo h' A c (bv bs))(hb:bs.length≤140737488355328) :
  Calls Tryz.prog 64 #[.slice A bs.length c] w fun e w'=>∃g,e= .returned (.pointer (some ⟨g,0,none⟩))∧xq w' w.heap.size g bs 0 0∧Below w.heap.size w w':=by
 go_enter Tryz.func64,Tryz.ntmps64
 go_wp2_with fail
 refine(clone_any bs _ h hb).mono ?_
 rintro e w1 ⟨A',c',rfl,hown,hbel⟩
 go_wp2_with fail
 go_ret
 refine⟨_,rfl,⟨A',c',j8.new _ _ _,(Rd.of_own hown).alloc (qc _) _,qj _,hbel.size⟩,hbel.alloc hbel.size _⟩
theorem yq{w:World}{lo g k:Nat}{bs:List UInt8}{e:Int}(h:xq w lo g bs k e) :
  Calls Tryz.prog 96 #[cp g] w fun x w'=>x= .returned (.bool (e==0))∧w=w':=by
 obtain⟨A,c,hb, -, -, -⟩:=h
 have h2:=hb.cell 2
 simp at h2
 clear hb
 unfold cp
 go_enter Tryz.func96,Tryz.ntmps96
 go_wp2
 go_ret
 exact⟨rfl,rfl⟩
theorem qcx{w:World}{lo g k:Nat}{bs:List UInt8}{e:Int}(h:xq w lo g bs k e) :
  Calls Tryz.prog 97 #[cp g] w fun x w'=>x= .returned (.int .i64 ((bs.length-k:Nat):Int))∧∃n,w'=w.drewN n:=by
 obtain⟨A,c,hb,hrd,hk, -⟩:=h
 have h0:=hb.cell 0
 have h1:=hb.cell 1
 simp at h0 h1
 have hm:=hrd.len
 have hm':=hrd.cap
 rw[jj] at hm
 unfold maxLen at hm'
 clear hb hrd
 unfold cp
 rw[Int.ofNat_sub hk]
 go_enter Tryz.func97,Tryz.ntmps97
 go_wp2
 go_quiet (fail)
 go_wp2
 go_ret
 exact⟨rfl,_,rfl⟩
def jc(n:Nat):List UInt8 :=
 if h:n<128 then [UInt8.ofNat n] else UInt8.ofNat (n%128+128) :: jc (n/128)
termination_by n
decreasing_by omega
theorem k8{n:Nat}(h:n<128):jc n=[UInt8.ofNat n]:=by rw[jc,dif_pos h]
theorem qe6{n:Nat}(h:128≤n):jc n=UInt8.ofNat (n%128+128) :: jc (n/128):=by rw[jc,dif_neg (by omega)]
theorem qba(k:Nat):∀n:Nat,n<128 ^ (k+1)→(jc n).length≤k+1:=by
 induction k with
 | zero=>intro n h;rw[k8 (by simpa using h)];simp
 | succ k ih =>
  intro n h
  by_cases hn:n<128
  ·
   rw[k8 hn];simp
  ·
   rw[qe6 (by omega)]
   have:=ih (n/128) (by rw[kw] at h;omega)
   simp only[qo]
   omega
theorem qks(n:Nat):0<(jc n).length:=by
 by_cases hn:n<128
 ·
  rw[k8 hn];simp
 ·
  rw[qe6 (by omega)];simp
theorem kt(n:Nat)(h:n≤9223372036854775807):(jc n).length≤9:=qba 8 n (by omega)
theorem or128:∀x:Fin 256,x.val ||| 128=x.val%128+128:=by decide +kernel
theorem or_more(m:Nat):bits .or .u8 ((m:Int)%256) 128=((UInt8.ofNat (m%128+128)).toNat:Int):=by
 have h1:bits .or .u8 ((m%256:Nat):Int) ((128:Nat):Int)=((m%256 ||| 128:Nat):Int):=u8_or_nat _ _ (by omega) (by omega)
 have h2:=or128 ⟨m%256,by omega⟩
 simp only[] at h2
 have h3:(UInt8.ofNat (m%128+128)).toNat=m%128+128:=by rw[yj];omega
 rw[h3,show m%128+128=m%256%128+128 from by omega,←h2,←h1,Int.natCast_emod]
 rfl
def jr(zs:List Int):List UInt8:=jc zs.length++([UInt8.ofNat (wide zs)]++qbo (wide zs) (qcu zs))
theorem qb9{zs:List Int}(h:May zs)(hlen:zs.length≤4294967295):(jr zs).length≤4294967295*5:=by
 have h1:=kt zs.length (by omega)
 have h2:=h.wide_le
 have h3:zs.length*wide zs≤4294967295*32:=ug hlen h2
 simp only[jr,qd,qo,jy,qbz,ux]
 omega
theorem qii{n:Nat}(h:n<256):(UInt8.ofNat n).toNat=n:=by rw[yj];omega
section
open Go.Shelf
def lenRen:Go.Shelf.Ren:=⟨fun | 125=>101 | 128=>145 | 129=>146 | n=>n,fun | 46=>119 | 3=>3 | 51=>102 | 53=>206 | 4=>4 | 5=>5 | 9=>9 | n=>n,fun | n=>n⟩
theorem lenLays:Go.Proofs.Lays.n125 Tryz.prog lenRen:={
 mixed:=by kernel_rfl
 f125:=Tryz.func101.trans (congrArg some (by kernel_rfl))
 f128:=Tryz.func145.trans (congrArg some (by kernel_rfl))
 f129:=Tryz.func146.trans (congrArg some (by kernel_rfl))
 t3:=Tryz.underlying3
 a3:=Tryz.isAgg3
 z3:=Tryz.sizeOf3
 v3:=Tryz.zeroValue3
 t4:=Tryz.underlying4
 a4:=Tryz.isAgg4
 z4:=Tryz.sizeOf4
 v4:=Tryz.zeroValue4
 t5:=Tryz.underlying5
 a5:=Tryz.isAgg5
 z5:=Tryz.sizeOf5
 v5:=Tryz.zeroValue5
 t9:=Tryz.underlying9
 a9:=Tryz.isAgg9
 z9:=Tryz.sizeOf9
 v9:=Tryz.zeroValue9
 t46:=Tryz.underlying119
 a46:=Tryz.isAgg119
 z46:=Tryz.sizeOf119
 v46:=Tryz.zeroValue119
 t51:=Tryz.underlying102
 a51:=Tryz.isAgg102
 z51:=Tryz.sizeOf102
 v51:=Tryz.zeroValue102
 t53:=Tryz.underlying206
 a53:=Tryz.isAgg206
 z53:=Tryz.sizeOf206
 v53:=Tryz.zeroValue206 }
theorem len_any{w:World}(x:Int)(h0:0≤x)(h1:x≤18446744073709551615) :
  Calls Tryz.prog 101 #[.int .u64 x] w fun e w'=>e= .returned (.int .i64 (Lib.bitLen x.toNat))∧w=w' :=
 (Any.bits_Len lenLays x w h0 h1).mono fun _ _ ⟨h,e⟩=>⟨h,e.symm⟩
end
theorem right_any{w:World}(n:Int) :
  Calls Tryz.prog 187 #[.int .i64 n] w fun r w'=>r= .returned (.bool (qic n))∧w=w':=by
 unfold qic
 by_cases h0:0≤n
 ·
  by_cases h1:n≤32
  ·
   rw[qx (by omega)]
   go_enter Tryz.func187,Tryz.ntmps187
   go_wp2
   go_ret
   exact⟨rfl,rfl⟩
  ·
   rw[qw (by omega)]
   go_enter Tryz.func187,Tryz.ntmps187
   go_wp2
   go_ret
   exact⟨rfl,rfl⟩
 ·
  rw[qw (by omega)]
  go_enter Tryz.func187,Tryz.ntmps187
  go_wp2
  go_ret
  exact⟨rfl,rfl⟩
theorem qfz{w:World}(n:Int)(b:Bool)(h:qic n=b) :
  Calls Tryz.prog 187 #[.int .i64 n] w fun r w'=>r= .returned (.bool b)∧w=w':=by
 subst h
 exact right_any n
theorem size_any{w:World}(n wd:Nat)(h:n*wd≤1000000000000000) :
  Calls Tryz.prog 184 #[.int .i64 (n:Int),.int .i64 (wd:Int)] w fun r w'=>r= .returned (.int .i64 (((n*wd+7)/8:Nat):Int))∧w=w':=by
 have e0:(n:Int)*(wd:Int)=((n*wd:Nat):Int):=(qan n wd).symm
 have h1:0≤(n:Int)*(wd:Int):=by omega
 have h2:(n:Int)*(wd:Int)≤1000000000000000:=by omega
 have E:=qa e0
 clear e0 h
 go_enter Tryz.func184,Tryz.ntmps184
 go_wp2
 go_ret
 exact⟨qar (by rw[E.out];omega),rfl⟩
theorem greatest_u{g:Int}(h0:0≤g)(h1:g≤9223372036854775807):IntKind.u64.wrap g=g:=by
 rw[IntKind.wrap_u64];omega
theorem width_any{w:World}(zs:List Int)(hz:qjg zs){lo h':Nat}{A:Option Addr}{c:Nat}(h:Rd w lo h' A c (iv zs)) :
  Calls Tryz.prog 156 #[.slice A zs.length c] w fun r w'=>r= .returned (.int .i64 (wide zs:Int))∧w=w':=by
 have hl:=h.len
 have hc:=h.cap
 rw[yd] at hl
 unfold maxLen at hc
 have H:=qa h
 have HZ:=qa hz
 clear h hz
 go_enter Tryz.func156,Tryz.ntmps156
 go_wp2_with fail
 go_loop [3,8] (fun g i=>∃k:Nat,k≤zs.length∧i= .int .i64 (k:Int)∧g= .int .i64 (grt (zs.take k))) (fun _ i=>zs.length-(intOf i).toNat)
 case atStart=>exact⟨0,qj _,rfl,rfl⟩
 case round =>
  obtain⟨k,hk,rfl,rfl⟩:=hrel
  by_cases hlt:k<zs.length
  ·
   obtain⟨b,off,rfl,_,_,hcell⟩:=H.out.num hlt
   have hts:=qa (grt_take zs k hlt)
   generalize zs[k]=z at *
   generalize grt (zs.take k)=g at *
   go_wp2
   go_round
   case rel=>exact⟨k+1,by omega,by go_num,by rw[hts.out]⟩
   case measure=>simp[intOf];omega
  ·
   obtain rfl:k=zs.length:=by omega
   have h0:=grt_ge zs
   have h1:=word_grt HZ.out
   have HU:=qa (greatest_u h0 h1)
   have HL:=qa (len_any (w:=w) (grt zs) h0 (by omega))
   rw[yo]
   have HE:Hid (wide zs=Lib.bitLen (grt zs).toNat):=rfl
   generalize grt zs=g at *
   go_wp2_with (go_at_call 101;refine HL.out.mono ?_;rintro r w' ⟨rfl,rfl⟩)
   go_ret
   exact⟨qar (by rw[HE.out]),rfl⟩
theorem shr_no{z:Int}{n:Nat}(h:(z/2 ^ n != 0)=true):¬(0≤z∧z<2 ^ n):=by
 rintro⟨h0,h1⟩
 rw[Int.ediv_eq_zero_of_lt h0 h1] at h
 cases h
theorem shr_yes{z:Int}{n:Nat}(h:(z/2 ^ n != 0)=false):0≤z∧z<2 ^ n:=by
 have hp:(0:Int)<2 ^ n:=Int.pow_pos (by omega)
 have h0:z/2 ^ n=0:=by simpa using h
 have h1:=Int.mul_ediv_add_emod z (2 ^ n)
 rw[h0,Int.mul_zero] at h1
 have h2:=Int.emod_nonneg z (show(2:Int) ^ n≠0 by omega)
 have h3:=Int.emod_lt_of_pos z hp
 omega
theorem fit_any{w:World}(zs:List Int)(wd:Int){lo h':Nat}{A:Option Addr}{c:Nat}(h:Rd w lo h' A c (iv zs)) :
  Calls Tryz.prog 183 #[.slice A zs.length c,.int .i64 wd] w fun r w'=>r= .returned (.bool (fitB zs wd))∧w=w':=by
 have hl:=h.len
 have hc:=h.cap
 rw[yd] at hl
 unfold maxLen at hc
 have H:=qa h
 clear h
 by_cases hr:0≤wd∧wd≤32
 ·
  have hr':qic wd=true:=qx hr
  have HR:=qa hr'
  obtain⟨hr0,hr1⟩:=hr
  clear hr'
  go_enter Tryz.func183,Tryz.ntmps183
  go_wp2_with fail
  refine(qfz wd true HR.out).mono ?_
  rintro r w' ⟨rfl,rfl⟩
  go_wp2_with fail
  go_loop [12] (fun i=>∃k:Nat,k≤zs.length∧i= .int .i64 (k:Int)∧∀z∈zs.take k,0≤z∧z<2 ^ wd.toNat) (fun i=>zs.length-(intOf i).toNat)
  case atStart=>exact⟨0,qj _,rfl,by simp⟩
  case round =>
   obtain⟨k,hk,rfl,hf⟩:=hrel
   have HF:=qa hf
   clear hf
   by_cases hlt:k<zs.length
   ·
    obtain⟨b,off,rfl,_,_,hcell⟩:=H.out.num hlt
    have hts:Hid (zs.take (k+1)=zs.take k++[zs[k]]):=by unfold Hid;exact qi hlt
    have hmem:Hid (zs[k]∈zs):=ql hlt
    generalize zs[k]=z at *
    go_wp2
    case roundEnd =>
     have hz:=shr_yes (by assumption)
     refine⟨⟨k+1,by omega,by go_num,?_⟩,by simp[intOf];omega⟩
     intro y hy
     rw[hts.out] at hy
     rcases zn.1 hy with hy | hy
     ·
      exact HF.out y hy
     ·
      rw[q8.1 hy];exact hz
    all_goals
     have hz:=shr_no (by assumption)
     go_ret
     exact⟨yc (qw fun hf=>hz (hf.2.2 _ hmem)).symm,rfl⟩
   ·
    obtain rfl:k=zs.length:=by omega
    go_wp2
    go_ret
    exact⟨yc (qx ⟨hr0,hr1,by rw[←yo (l:=zs)];exact HF.out⟩).symm,rfl⟩
 ·
  have hr':qic wd=false:=qw hr
  have HR:=qa hr'
  have hn:Hid (fitB zs wd=false):=qw fun hf=>hr ⟨hf.1,hf.2.1⟩
  clear hr' hr
  go_enter Tryz.func183,Tryz.ntmps183
  go_wp2_with fail
  refine(qfz wd false HR.out).mono ?_
  rintro r w' ⟨rfl,rfl⟩
  go_wp2
  go_ret
  exact⟨yc hn.out.symm,rfl⟩
theorem size_is{w:World}(n wd s:Nat)(h:n*wd≤1000000000000000)(hs:(n*wd+7)/8=s) :
  Calls Tryz.prog 184 #[.int .i64 (n:Int),.int .i64 (wd:Int)] w fun r w'=>r= .returned (.int .i64 (s:Int))∧w=w':=by
 subst hs
 exact size_any n wd h
theorem put_step(S n x m:Nat)(hx:x<2 ^ m)(hS:S<2 ^ n)(T:Nat)(hT:T=S/256 ^ (n/8)+2 ^ (n%8)*x) :
  S/256 ^ (n/8)<2 ^ (n%8)∧yi ((n+m)/8) (S+2 ^ n*x)=yi (n/8) S++yi ((n%8+m)/8) T∧(S+2 ^ n*x)/256 ^ ((n+m)/8)=T/256 ^ ((n%8+m)/8):=by
 have e2:2 ^ n=256 ^ (n/8)*2 ^ (n%8):=by
  rw[qf1,←xx]
  congr 1
  omega
 have hp:0<256 ^ (n/8):=Nat.pow_pos (by omega)
 have hd:(S+2 ^ n*x)/256 ^ (n/8)=T:=by
  rw[e2,qc9,Nat.add_mul_div_left _ _ hp,hT]
 have hq:(n+m)/8=n/8+(n%8+m)/8:=by omega
 refine⟨?_,?_,?_⟩
 ·
  rw[e2] at hS
  exact Nat.div_lt_of_lt_mul hS
 ·
  rw[hq,bytesN_add,hd,e2,qc9,qm0]
 ·
  rw[hq,xx,←vm,hd]
def qlb(m:Nat)(ns:List Nat)(k:Nat)(ys:List UInt8)(x hd:Nat):Prop :=
 ys=yi (k*m/8) (qef m (ns.take k))∧x=qef m (ns.take k)/256 ^ (k*m/8)∧hd=k*m%8
theorem putAt_zero(m:Nat)(ns:List Nat):qlb m ns 0 [] 0 0:=by simp[qlb,yi,qef]
theorem putAt_len{m k:Nat}{ns:List Nat}{ys:List UInt8}{x hd:Nat}(h:qlb m ns k ys x hd):ys.length=k*m/8:=by rw[h.1,vl]
theorem vsum_take{m:Nat}{ns:List Nat}(hf:∀x∈ns,x<2 ^ m){k:Nat}(hk:k≤ns.length):qef m (ns.take k)<2 ^ (k*m):=by
 have:=qkm m (ns.take k) fun x hx=>hf x (vg hx)
 rwa [qy,vr hk,yz] at this
theorem putAt_step{m k:Nat}{ns:List Nat}{ys:List UInt8}{x hd:Nat}(hf:∀x∈ns,x<2 ^ m)(h:qlb m ns k ys x hd)(hk:k<ns.length)(z:Nat)(hz:ns[k]=z) :
  x<2 ^ hd∧z<2 ^ m∧qlb m ns (k+1) (ys++yi ((hd+m)/8) (x+2 ^ hd*z)) ((x+2 ^ hd*z)/256 ^ ((hd+m)/8)) ((hd+m)%8):=by
 obtain⟨rfl,rfl,rfl⟩:=h
 have hzm:z<2 ^ m:=by rw[←hz];exact hf _ (ql hk)
 have hS:=vsum_take hf (Nat.le_of_lt hk)
 obtain⟨h1,h2,h3⟩:=put_step (qef m (ns.take k)) (k*m) z m hzm hS _ rfl
 have e:qef m (ns.take (k+1))=qef m (ns.take k)+2 ^ (k*m)*z:=by
  rw[qi hk,qlg,qy,vr (Nat.le_of_lt hk),hz,yz m]
 have e2:(k+1)*m=k*m+m:=by rw[Nat.add_mul,qa5]
 refine⟨h1,hzm,?_,?_,?_⟩
 ·
  rw[e2,e,h2]
 ·
  rw[e2,e,h3]
 ·
  rw[e2];omega
theorem putAt_full{m:Nat}{ns:List Nat}{ys:List UInt8}{x:Nat}(h:qlb m ns ns.length ys x 0):ys=qbo m ns:=by
 obtain⟨rfl, -,h3⟩:=h
 unfold qbo
 rw[yo,show(ns.length*m+7)/8=ns.length*m/8 from by omega]
theorem putAt_rest{m:Nat}{ns:List Nat}{ys:List UInt8}{x hd:Nat}(h:qlb m ns ns.length ys x hd)(hd0:0<hd):ys++[UInt8.ofNat (x%256)]=qbo m ns:=by
 obtain⟨rfl,rfl,h3⟩:=h
 unfold qbo
 rw[yo,show(ns.length*m+7)/8=ns.length*m/8+1 from by omega,qd3]
def InAt(ys:List UInt8)(T j:Nat)(us:List UInt8)(y:Nat):Prop:=us=ys++yi j T∧y=T/256 ^ j
theorem inAt_zero(ys:List UInt8)(T:Nat):InAt ys T 0 ys T:=by simp[InAt,yi]
theorem inAt_len{ys us:List UInt8}{T j y:Nat}(h:InAt ys T j us y):us.length=ys.length+j:=by rw[h.1,qd,vl]
theorem inAt_le{ys us:List UInt8}{T j y:Nat}(h:InAt ys T j us y):y≤T:=by rw[h.2];exact Nat.div_le_self _ _
theorem inAt_step{ys us:List UInt8}{T j y:Nat}(h:InAt ys T j us y):InAt ys T (j+1) (us++[UInt8.ofNat (y%256)]) (y/256):=by
 obtain⟨rfl,rfl⟩:=h
 refine⟨?_,?_⟩
 ·
  rw[qd3,qm]
 ·
  rw[kw,vm]
theorem or_add(X z D:Nat)(hX:X<2 ^ D)(hD:D<8)(hz:z<2 ^ 32) :
  bits .or .u64 (X:Int) (IntKind.u64.wrap (IntKind.u64.wrap (z:Int)*2 ^ D))=((X+2 ^ D*z:Nat):Int)∧X+2 ^ D*z<1099511627776:=by
 have hp:2 ^ D≤2 ^ 7:=yb (by omega) (by omega)
 have hb:2 ^ D*z≤2 ^ 7*(2 ^ 32-1):=ug hp (by omega)
 have e1:IntKind.u64.wrap (z:Int)=(z:Int):=by rw[IntKind.wrap_u64];omega
 have e2:(2:Int) ^ D=((2 ^ D:Nat):Int):=by norm_cast
 have e3:IntKind.u64.wrap ((2 ^ D*z:Nat):Int)=((2 ^ D*z:Nat):Int):=by rw[IntKind.wrap_u64];omega
 refine⟨?_,by omega⟩
 rw[e1,e2,Int.mul_comm,←qan,e3,u64_or_nat _ _ (by omega) (by omega)]
 congr 1
 rw[Nat.or_comm,yz,←uw,←uc hX,Nat.add_comm]
theorem make_bytes(w:World)(n:Nat)(h:n≤100000000000000):∃w1,(Instr.makeSlice 36 (.int .i64 0) (.int .i64 (n:Int))).run Tryz.prog w= .ok (.slice (some ⟨w.heap.size,0,none⟩) 0 n) w1∧
  w1.ownsRow w.heap.size 5 1 (.slice (some ⟨w.heap.size,0,none⟩) 0 n) 0 []∧w.grownBy w1 none:=by
 obtain⟨i0,hi0,hz0,hz1,hz2⟩:=info_parts Tryz.infoU8
 have:=run_make_own (P:=Tryz.prog) w w.heap.size 36 5 i0 _ 1 Tryz.underlying36 hi0 hz0 hz1 .i64 .i64 n (by rw[hz2];omega) (by simp only[maxLen];omega) (qc _)
 simpa using this
theorem fit_is{w:World}(zs:List Int)(wd:Int)(b:Bool)(hb:fitB zs wd=b){lo h':Nat}{A:Option Addr}{c:Nat}(h:Rd w lo h' A c (iv zs)) :
  Calls Tryz.prog 183 #[.slice A zs.length c,.int .i64 wd] w fun r w'=>r= .returned (.bool b)∧w=w':=by
 subst hb
 exact fit_any zs wd h
theorem pput_yes{w:World}(zs:List Int)(m:Nat)(hf:Fits zs (m:Int)){h':Nat}{A:Option Addr}{c:Nat}(h:Rd w 0 h' A c (iv zs))(hh:h'≤w.heap.size)(hlen:zs.length≤4294967295) :
  Calls Tryz.prog 157 #[.slice A zs.length c,.int .i64 (m:Int)] w fun r w'=>∃A' c',r= .returned (.tuple #[.slice A' (qbo m (qcu zs)).length c',.int .i64 0])∧
   w'.ownsRow w.heap.size 5 1 (.slice A' (qbo m (qcu zs)).length c') (qbo m (qcu zs)).length (bv (qbo m (qcu zs)))∧Below w.heap.size w w':=by
 have hm:m≤32:=by have:=hf.2.1;omega
 have hnm:zs.length*m≤4294967295*32:=ug hlen hm
 generalize hs:(zs.length*m+7)/8=s
 obtain⟨w1,hmake,hown1,hg1⟩:=make_bytes w s (by omega)
 have k1:Below w.heap.size w w1:=(Below.refl _ _).grown hg1 (qc _) (by simp)
 have hl:=h.len
 have hc:=h.cap
 rw[yd] at hl
 unfold maxLen at hc
 have H:=qa h
 have H1:=qa (h.below k1 hh)
 have HS:=qa hs
 have HF:=qa hf
 have HO:=qa hown1
 have K1:=qa k1
 clear h hs hf hown1 hg1 k1
 go_enter Tryz.func157,Tryz.ntmps157
 go_wp2_with fail
 refine(fit_is zs m true (qx HF.out) H.out).mono ?_
 rintro r w' ⟨rfl,rfl⟩
 go_wp2_with fail
 refine(size_is zs.length m s (by omega) HS.out).mono ?_
 rintro r w' ⟨rfl,rfl⟩
 go_wp2_with fail
 have hK:=qa HF.out.nats_lt
 have hN:=ux zs
 have HN:=qa hN
 clear hN
 go_loopw [6,7,8,22] (fun b x hd i wr=>∃(k:Nat) (ys:List UInt8) (A':Option Addr) (c' X D:Nat),k≤zs.length∧i= .int .i64 (k:Int)∧b= .slice A' ys.length c'∧x= .int .u64 (X:Int)∧hd= .int .i64 (D:Int)∧
   qlb m (qcu zs) k ys X D∧wr.ownsRow w.heap.size 5 1 (.slice A' ys.length c') ys.length (bv ys)∧Below w.heap.size w wr) (fun _ _ _ i _=>zs.length-(intOf i).toNat)
 case atStart=>exact⟨0,[],_,_,0,0,qj _,rfl,rfl,rfl,rfl,putAt_zero _ _,HO.out,K1.out⟩
 case round =>
  obtain⟨k,ys,A',c',X,D,hk,rfl,rfl,rfl,rfl,hat,hown,hbel⟩:=hrel
  have HAT:=qa hat
  have HOW:=qa hown
  have HBL:=qa hbel
  have hD:D<8:=by have:=hat.2.2;omega
  by_cases hlt:k<zs.length
  ·
   obtain⟨b,off,rfl,_,_,hcell⟩:=(H.out.below hbel hh).num hlt
   have hkn:k<(qcu zs).length:=by rw[ux];exact hlt
   have hzk:(qcu zs)[k]=zs[k].toNat:=by simp[qcu]
   have hz0:=(HF.out.2.2 _ (ql hlt)).1
   obtain⟨hX,hZ,hnext⟩:=putAt_step HF.out.nats_lt hat hkn _ hzk
   have HX:=qa hnext
   generalize zs[k]=z0 at *
   obtain⟨z,rfl⟩:=Int.eq_ofNat_of_zero_le hz0
   simp only[kf] at HX hZ
   have hz32:z<2 ^ 32:=zh hZ (yb (by omega) hm)
   obtain⟨hor,hT⟩:=or_add X z D hX hD hz32
   have hlen:ys.length≤k*m/8:=Nat.le_of_eq (putAt_len hat)
   have hkm:k*m≤zs.length*m:=vf _ hk
   have hq:(((D:Int)+(m:Int))/8)≤(((D+m)/8:Nat):Int):=by omega
   have hq':(((D+m)/8:Nat):Int)≤(((D:Int)+(m:Int))/8):=by omega
   have hN4:(D+m)/8≤4:=by omega
   have HM:Hid ((((D:Int)+(m:Int))%8)=(((D+m)%8:Nat):Int)):=by unfold Hid;omega
   clear hat hown hbel hzk hnext hz0 hX hZ hz32
   generalize X+2 ^ D*z=T at *
   generalize (D+m)/8=N at *
   generalize (D+m)%8=D' at *
   obtain⟨wo,rfl⟩:∃wo:World,wo=wr:=⟨_,rfl⟩
   go_wp2_with fail
   go_loopw [6,7,37] (fun b x i wr=>∃(j:Nat) (us:List UInt8) (A':Option Addr) (c' y:Nat),j≤N∧i= .int .i64 (j:Int)∧b= .slice A' us.length c'∧x= .int .u64 (y:Int)∧
     InAt ys T j us y∧wr.ownsRow w.heap.size 5 1 (.slice A' us.length c') us.length (bv us)∧Below w.heap.size w wr) (fun _ _ i _=>N-(intOf i).toNat)
   case atStart=>exact⟨0,ys,_,_,T,qj _,rfl,rfl,rfl,inAt_zero _ _,HOW.out,HBL.out⟩
   case round =>
    obtain⟨j,us,A2,c2,y,hj,rfl,rfl,rfl,hin,hown,hbel⟩:=hrel
    have HIN:=qa hin
    have HO2:=qa hown
    have HB2:=qa hbel
    have hsz:=hbel.size
    have hul:us.length≤ys.length+j:=Nat.le_of_eq (inAt_len hin)
    have hyT:=inAt_le hin
    clear hin hown hbel
    by_cases hlj:j<N
    ·
     have HA:Hid ((UInt8.ofNat (y%256)).toNat=y%256):=qhn y
     clear hor
     go_wp2_with (at_builtin;refine qcs (v:= .slice A2 us.length c2) w.heap.size us (UInt8.ofNat (y%256)) rfl _ _ rfl rfl rfl rfl (by rw[HA.out,zm _ _ _ _ rfl];rfl) (HO2.out.alloc _) (by omega) (by simp;omega) ?_;intro A3 c3 w3 hown3 hgr3)
     have HO3:=qa hown3
     have HG3:=qa hgr3
     clear hown3 hgr3
     go_wp2
     go_roundw
     case rel =>
      refine⟨j+1,us++[UInt8.ofNat (y%256)],A3,c3,y/256,by omega,by go_num,by simp,by go_num,inAt_step HIN.out,HO3.out,?_⟩
      exact(HB2.out.alloc hsz _).grown HG3.out (by simp;omega) (fun k hk=>qhe HO2.out k hk)
     case measure=>simp[intOf];omega
    ·
     obtain rfl:j=N:=by omega
     go_wp2
     go_roundw
     case rel =>
      refine⟨k+1,us,A2,c2,y,D',by omega,by go_num,rfl,rfl,by rw[HM.out],?_,HO2.out,HB2.out⟩
      rw[HIN.out.1,HIN.out.2]
      exact HX.out
     case measure=>simp[intOf];omega
  ·
   obtain rfl:k=zs.length:=by omega
   have hlen:ys.length≤zs.length*m/8:=Nat.le_of_eq (putAt_len hat)
   have hX:=(HF.out.nats_lt)
   have hXD:X<2 ^ D:=by
    have h1:=vsum_take (m:=m) (ns:=qcu zs) (by simpa using HF.out.nats_lt) (k:=zs.length) (by rw[HN.out];exact qc _)
    have h2:=(put_step _ _ 0 0 (by simp) h1 _ rfl).1
    rw[←hat.2.1,←hat.2.2] at h2
    exact h2
   have hX128:X<128:=zh hXD (yb (by omega) (show D≤7 by omega))
   have hsz:=hbel.size
   have hat':qlb m (qcu zs) (qcu zs).length ys X D:=by rw[HN.out];exact hat
   by_cases hD0:D=0
   ·
    subst hD0
    have HE:=qa (putAt_full hat')
    clear hat hat' hown hbel hX
    go_wp2
    go_ret2
    exact⟨A',c',by rw[←HE.out];rfl,by rw[←HE.out];exact HOW.out,HBL.out⟩
   ·
    have hrest:=putAt_rest hat' (by omega)
    rw[xt (show X<256 by omega)] at hrest
    have HE:=qa hrest
    have hDp:0<D:=by omega
    have HA:Hid ((UInt8.ofNat X).toNat=X):=by unfold Hid;rw[yj];omega
    clear hat hat' hown hbel hX hrest
    go_wp2_with (at_builtin;refine qcs (v:= .slice A' ys.length c') w.heap.size ys (UInt8.ofNat X) rfl _ _ rfl rfl rfl rfl (by rw[HA.out,zm _ _ _ _ rfl];rfl) (HOW.out.alloc _) (by omega) (by simp;omega) ?_;intro A3 c3 w3 hown3 hgr3)
    have HO3:=qa hown3
    have HG3:=qa hgr3
    clear hown3 hgr3
    go_wp2
    go_ret2
    refine⟨A3,c3,by rw[←HE.out,qd];rfl,by rw[←HE.out];exact HO3.out,?_⟩
    exact(HBL.out.alloc hsz _).grown HG3.out (by simp;omega) (fun k hk=>qhe HOW.out k hk)
end Go.Proofs.YtjfecojdagmacaaGreat
