/-
  Lemmas.
-/
import Derived.Test.YtjfecojdagmacaaGreatD16
import Derived.Deep.RegionHeld
namespace Go.Proofs.YtjfecojdagmacaaGreat
open Go.RowKit
set_option maxRecDepth 20000
set_option maxHeartbeats 16000000
set_option linter.unusedSimpArgs false
set_option linter.unusedVariables false
theorem rd_lit(w:World)(t:TypeId)(cs:Array Value)(hm:cs.size≤100000):Rd (w.alloc (.cells cs t)) 0 (w.heap.size+1) (some ⟨w.heap.size,0,none⟩) cs.size cs.toList :=
 ⟨by simp,by simp only[maxLen];omega,fun _=>⟨w.heap.size,0,rfl,qi _,by omega,fun j u hu=>by
  rw[yr,(yy.new w t cs).cell]
  simpa using hu⟩⟩
theorem of_one{w:World}(bs:List UInt8){h':Nat}{A:Option Addr}{c:Nat}(h:Rd w 0 h' A c (bv bs))(hh:h'≤w.heap.size) :
  Calls Tryz.prog 91 #[.slice (some ⟨w.heap.size,0,none⟩) 1 1] (w.alloc (.cells #[.slice A bs.length c] 36)) fun r w'=>r= .returned (.int .u32 (bn (qcp bs)))∧Below w.heap.size w w':=by
 have hr:=rd_lit w 36 #[.slice A bs.length c] (by simp)
 refine(of_any (w:=w.alloc (.cells #[.slice A bs.length c] 36)) [⟨A,c,bs⟩] hr (by simp) ?_).mono ?_
 ·
  intro p hp
  obtain rfl:p=⟨A,c,bs⟩:=by simpa using hp
  exact(h.alloc hh _).wide (qc _) (by simp;omega)
 ·
  rintro r w' ⟨rfl,hb⟩
  refine⟨qai (by simp[xo]),?_⟩
  exact zo ((Below.refl _ _).alloc (qc _) _) hb (by simp)
theorem seal_any{w:World}(bs:List UInt8){h':Nat}{A:Option Addr}{c:Nat}(h:Rd w 0 h' A c (bv bs))(hh:h'≤w.heap.size) :
  Calls Tryz.prog 62 #[.slice A bs.length c] w fun r w'=>∃A' c',r= .returned (.slice A' 4 c')∧
   w'.ownsRow w.heap.size 5 1 (.slice A' 4 c') 4 (bv (qhe (qcp bs)))∧Below w.heap.size w w':=by
 have hs:=qof (qcp bs)
 have H:=qa h
 clear h
 go_enter Tryz.func62,Tryz.ntmps62
 go_wp2_with fail
 refine(of_one bs H.out hh).mono ?_
 rintro r w1 ⟨rfl,hb1⟩
 have HB1:=qa hb1
 have s1:=hb1.size
 clear hb1
 go_wp2
 go_ret
 have h4:=qlw w1 (qhe (qcp bs)) #[.int .u8 (bn (qcp bs)%256),.int .u8 (bn (qcp bs)/256%256),.int .u8 (bn (qcp bs)/65536%256),.int .u8 (bn (qcp bs)/16777216)] (by rw[crcB_cells]) (by simp[qb7])
 exact⟨_,_,rfl,jm h4 s1,HB1.out.alloc s1 _⟩
theorem Seal_any{w:World}(bs:List UInt8){h':Nat}{A:Option Addr}{c:Nat}(h:Rd w 0 h' A c (bv bs))(hh:h'≤w.heap.size)(hb:bs.length≤1000000000) :
  Calls Tryz.prog 40 #[.slice A bs.length c] w fun r w'=>∃A' c',r= .returned (.slice A' (vo bs).length c')∧
   w'.ownsRow w.heap.size 5 1 (.slice A' (vo bs).length c') (vo bs).length (bv (vo bs))∧Below w.heap.size w w':=by
 have hmk:∃w1,(Instr.makeSlice 36 (.int .i64 0) (.int .i64 ((bs.length:Int)+4))).run Tryz.prog w= .ok (.slice (some ⟨w.heap.size,0,none⟩) 0 (bs.length+4)) w1∧
   w1.ownsRow w.heap.size 5 1 (.slice (some ⟨w.heap.size,0,none⟩) 0 (bs.length+4)) 0 []∧w.grownBy w1 none:=by
  obtain⟨i0,hi0,hz0,hz1,hz2⟩:=info_parts Tryz.infoU8
  have:=run_make_own (P:=Tryz.prog) w w.heap.size 36 5 i0 _ 1 Tryz.underlying36 hi0 hz0 hz1 .i64 .i64 (bs.length+4) (by rw[hz2];omega) (by simp only[maxLen];omega) (qc _)
  simpa using this
 obtain⟨w1,hmake,hown1,hg1⟩:=hmk
 have k1:Below w.heap.size w w1:=(Below.refl _ _).grown hg1 (qc _) (by simp)
 have s1:=k1.size
 obtain⟨A2,c2,w2,hrun2,hown2,hg2⟩:=j9 w1 w.heap.size (.slice (some ⟨w.heap.size,0,none⟩) 0 (bs.length+4)) [] bs bs (by simp) hown1 (h.below k1 hh) (by simp;omega) s1
 have k2:Below w.heap.size w w2:=k1.grown hg2 s1 (by simp[Value.ownBlock])
 have s2:=k2.size
 have H:=qa h
 have HO2:=qa hown2
 have K2:=qa k2
 clear h hown1 hg1 k1 hown2 hg2 k2
 go_enter Tryz.func40,Tryz.ntmps40
 go_wp2_with (at_builtin;refine wpList_append_run rfl _ _ _ _ rfl rfl rfl hrun2 ?_)
 refine(seal_any bs (H.out.below K2.out hh) (by omega)).mono ?_
 rintro r w3 ⟨A3,c3,rfl,hown3,hb3⟩
 have HB3:=qa hb3
 have s3:=hb3.size
 obtain⟨A4,c4,w4,hrun4,hown4,hg4⟩:=j9 w3 w.heap.size _ bs (qhe (qcp bs)) (vo bs) rfl (jp HO2.out hb3 (qc _)) (Rd.own hown3) (by rw[qb7];omega) (by omega)
 rw[qb7] at hrun4
 have HO4:=qa hown4
 have HG4:=qa hg4
 clear hown3 hb3 hown4 hg4 hrun2 hmake
 go_wp2_with (at_builtin;refine wpList_append_run rfl _ _ _ _ rfl rfl rfl hrun4 ?_)
 go_ret
 refine⟨A4,c4,rfl,HO4.out,?_⟩
 exact(zo K2.out HB3.out s2).grown HG4.out (by omega) (fun k hk=>qec HO2.out k hk)
structure ColW (L:List Vl) (o:Co) (b:Nat):Prop where
 fits:kr L
 ok:qa2 o
 tab:y8 (qu L) o=2→y7 (ue (qu L) o)=true
 bits:b≤65536
 few:(qcc (qcu (qu L))).length≤65536
theorem ke.one{b:List UInt8}{n n':Nat}{gs gs':List GrpS}(h:ke b n gs)(h':ke b n' gs'):n=n'∧gs=gs':=by
 have:=h.2.symm.trans h'.2
 simpa using this
theorem ke.ok{b:List UInt8}{n:Nat}{gs:List GrpS}(h:ke b n gs):SegOk n gs:=segR_ok h.2
structure Fc where
 b:Nat
 gs:List Nat
 rs:List Bool
 gA:Option Addr
 gc:Nat
 rA:Option Addr
 rc:Nat
def qgd(e:Fc):List Value:=[.int .i64 (e.b:Int),.slice e.gA e.gs.length e.gc,.slice e.rA e.rs.length e.rc]
def fcs(es:List Fc):List Value:=es.flatMap qgd
theorem fcs_snoc(es:List Fc)(e:Fc):fcs (es++[e])=fcs es++qgd e:=by simp[fcs]
theorem fc_one(e:Fc):∀u∈qgd e,u.oneCell'=true:=by
 intro u hu
 simp only[qgd,z7,xv,or_false] at hu
 rcases hu with rfl | rfl | rfl <;> rfl
theorem Tryz.infoFlt:(Tryz.prog.info? 110).map (fun i=>(i.zero,i.size,i.bytes))=some (some (.agg #[.int .i64 0,.slice none 0 0,.slice none 0 0]),3,56):=by kernel_rfl
def qeh(w:World)(X:Nat→Prop)(P:World→Prop):Prop:=∀W,Out w W X→P W
section
variable {w w':World}{X Y:Nat→Prop}{P Q:World→Prop}
theorem qeh.now(h:qeh w X P):P w:=h w (Out.refl w X)
theorem qeh.step(h:qeh w X P)(ho:Out w w' X)(hx:∀i,i<w.heap.size→Y i→X i):qeh w' Y P:=fun W hW=>h W (ho.trans hW hx)
theorem qeh.less(h:qeh w X P)(hx:∀i,i<w.heap.size→Y i→X i):qeh w Y P:=fun W hW=>h W ((Out.refl w X).trans hW hx)
theorem qeh.and(h:qeh w X P)(k:qeh w X Q):qeh w X (fun W=>P W∧Q W):=fun W hW=>⟨h W hW,k W hW⟩
theorem qeh.imp(h:qeh w X P)(hi:∀W,w.heap.size≤W.heap.size→P W→Q W):qeh w X Q:=fun W hW=>hi W hW.size (h W hW)
theorem qeh.of(p:Prop)(h:p):qeh w X (fun _=>p):=fun _ _=>h
theorem qeh.all{α:Type}{l:List α}{R:World→α→Prop}(h:∀a∈l,qeh w X (fun W=>R W a)):qeh w X (fun W=>∀a∈l,R W a):=fun W hW a ha=>h a ha W hW
theorem qeh.own{base n size:Nat}{e:TypeId}{v:Value}{xs:List Value}(h:w.ownsRow base e size v n xs)(hX:∀k,v.ownBlock=some k→¬X k):qeh w X (fun W=>W.ownsRow base e size v n xs):=fun W hW=>qcl h hW hX
theorem qeh.rd{lo c:Nat}{A:Option Addr}{xs:List Value}(h:Rd w lo w.heap.size A c xs)(hX:∀k,lo≤k→k<w.heap.size→¬X k):qeh w X (fun W=>Rd W lo W.heap.size A c xs) :=
 fun W hW=>(h.out hW (qc _) hX).wide (qc _) hW.size
theorem qeh.blk{g:Nat}{t:TypeId}{cs:Array Value}(h:yy w g t cs)(hX:¬X g):qeh w X (fun W=>yy W g t cs):=fun W hW=>h.out hW hX
end
theorem Dc.out{w w':World}{d:Nat}{ys:List ByteArray}{X:Nat→Prop}(h:Dc w d ys)(ho:Out w w' X)(hX:∀k,d≤k→k<w.heap.size→¬X k):Dc w' d ys:=by
 obtain⟨A,c,hb,hr⟩:=h
 exact⟨A,c,hb.out ho (hX d (qc _) hb.lt),qcl hr ho fun k hk=>by have:=zk hr hk;exact hX k (by omega) this.2⟩
theorem qcv.out{w w':World}{lo G:Nat}{c:Chk}{X:Nat→Prop}(h:qcv w lo G c)(hb:Out w w' X)(hX:∀k,lo≤k→k<w.heap.size→¬X k):qcv w' lo G c:=by
 obtain⟨A0,c0,A2,n2,c2,A3,n3,c3,d,A5,n5,c5,h1,h2,h3,h4,h5,h6⟩:=h
 have up:∀ {A:Option Addr} {c:Nat} {xs:List Value},Rd w lo w.heap.size A c xs→Rd w' lo w'.heap.size A c xs:=fun hr=>(hr.out hb (qc _) hX).wide (qc _) hb.size
 refine⟨A0,c0,A2,n2,c2,A3,n3,c3,d,A5,n5,c5,h1.out hb (hX G h2 h1.lt),h2,up h3,fun hk => ?_,fun hk => ?_,fun hk => ?_⟩
 ·
  obtain⟨e1,ps,e2,e3,e4⟩:=h4 hk
  exact⟨e1,ps,e2,up e3,fun p hp=>up (e4 p hp)⟩
 ·
  obtain⟨e1,e2⟩:=h5 hk
  exact⟨e1,up e2⟩
 ·
  obtain⟨dg,ys,e1,e2,e3,e4,e5,e6⟩:=h6 hk
  exact⟨dg,ys,e1,e2.out hb (fun k h1 h2=>hX k (by omega) h2),e3,e4,up e5,e6⟩
theorem qcv.wide{w:World}{lo lo' G:Nat}{c:Chk}(h:qcv w lo G c)(hl:lo'≤lo):qcv w lo' G c:=by
 obtain⟨A0,c0,A2,n2,c2,A3,n3,c3,d,A5,n5,c5,h1,h2,h3,h4,h5,h6⟩:=h
 refine⟨A0,c0,A2,n2,c2,A3,n3,c3,d,A5,n5,c5,h1,by omega,h3.wide hl (qc _),fun hk => ?_,fun hk => ?_,fun hk => ?_⟩
 ·
  obtain⟨e1,ps,e2,e3,e4⟩:=h4 hk
  exact⟨e1,ps,e2,e3.wide hl (qc _),fun p hp=>(e4 p hp).wide hl (qc _)⟩
 ·
  obtain⟨e1,e2⟩:=h5 hk
  exact⟨e1,e2.wide hl (qc _)⟩
 ·
  obtain⟨dg,ys,e1,e2,e3,e4,e5,e6⟩:=h6 hk
  exact⟨dg,ys,e1,e2,e3,e4,e5.wide hl (qc _),by omega⟩
theorem qeh.chk{w:World}{lo G:Nat}{c:Chk}{X:Nat→Prop}(h:qcv w lo G c)(hX:∀k,lo≤k→k<w.heap.size→¬X k):qeh w X (fun W=>qcv W lo G c):=fun W hW=>h.out hW hX
structure It where
 c:ColS
 e:Fc
 g:Nat
structure ItM (w:World) (lo:Nat) (t:It):Prop where
 b:t.e.b=t.c.b
 gs:t.e.gs=t.c.gs
 rs:t.e.rs=t.c.rs
 list:Rd w lo w.heap.size t.e.gA t.e.gc (iv (z8 t.e.gs))
 set:Rd w lo w.heap.size t.e.rA t.e.rc (lv t.e.rs)
 chk:qcv w lo t.g t.c.ck
theorem ItM.wide{w:World}{lo lo':Nat}{t:It}(h:ItM w lo t)(hl:lo'≤lo):ItM w lo' t:=⟨h.b,h.gs,h.rs,h.list.wide hl (qc _),h.set.wide hl (qc _),h.chk.wide hl⟩
theorem ItM.below{w w':World}{lo:Nat}{t:It}(h:ItM w lo t)(hb:Below w.heap.size w w'):ItM w' lo t :=
 ⟨h.b,h.gs,h.rs,(h.list.below hb (qc _)).wide (qc _) hb.size,(h.set.below hb (qc _)).wide (qc _) hb.size,h.chk.below hb⟩
def ptV(ps:List Nat):List Value:=ps.map fun g=> .pointer (some ⟨g,0,none⟩)
theorem ptV_snoc(ps:List Nat)(g:Nat):ptV (ps++[g])=ptV ps++[.pointer (some ⟨g,0,none⟩)]:=by simp[ptV]
structure Gr where
 rows:Nat
 its:List It
 fA:Option Addr
 fc:Nat
 kA:Option Addr
 kc:Nat
def Gr.toS(r:Gr):GrpS:=⟨r.rows,r.its.map It.c⟩
def qiz(r:Gr):List Value:=[.int .i64 (r.rows:Int),.slice r.fA r.its.length r.fc,.slice r.kA r.its.length r.kc]
def grs(rs:List Gr):List Value:=rs.flatMap qiz
theorem grs_snoc(rs:List Gr)(r:Gr):grs (rs++[r])=grs rs++qiz r:=by simp[grs]
theorem gr_one(r:Gr):∀u∈qiz r,u.oneCell'=true:=by
 intro u hu
 simp only[qiz,z7,xv,or_false] at hu
 rcases hu with rfl | rfl | rfl <;> rfl
structure GrM (w:World) (lo:Nat) (r:Gr):Prop where
 fil:Els w lo w.heap.size r.fA r.fc 3 r.its.length (fun j i=>(r.its[j]?).bind fun t=>(qgd t.e)[i]?)
 chk:Els w lo w.heap.size r.kA r.kc 1 r.its.length (fun j i=>(r.its[j]?).bind fun t=>[Value.pointer (some ⟨t.g,0,none⟩)][i]?)
 its:∀t∈r.its,ItM w lo t
theorem GrM.below{w w':World}{lo:Nat}{r:Gr}(h:GrM w lo r)(hb:Below w.heap.size w w'):GrM w' lo r :=
 ⟨(h.fil.below hb (qc _)).wide (qc _) hb.size,(h.chk.below hb (qc _)).wide (qc _) hb.size,fun t ht=>(h.its t ht).below hb⟩
def qoh(w:World)(lo G n:Nat)(gs:List GrpS):Prop:=∃(rs:List Gr) (A:Option Addr) (c:Nat),gs=rs.map Gr.toS∧yy w G 117 #[.int .i64 (n:Int),.slice A rs.length c]∧lo≤G∧
 Els w lo w.heap.size A c 3 rs.length (fun j i=>(rs[j]?).bind fun r=>(qiz r)[i]?)∧∀r∈rs,GrM w lo r
theorem qoh.below{w w':World}{lo G n:Nat}{gs:List GrpS}(h:qoh w lo G n gs)(hb:Below w.heap.size w w'):qoh w' lo G n gs:=by
 obtain⟨rs,A,c,h1,h2,h3,h4,h5⟩:=h
 exact⟨rs,A,c,h1,h2.below hb h2.lt,h3,(h4.below hb (qc _)).wide (qc _) hb.size,fun r hr=>(h5 r hr).below hb⟩
theorem els_own{α:Type}{w:World}{base k c:Nat}{A:Option Addr}{e:TypeId}(f:α→List Value)(hk:0<k)(hf:∀a,(f a).length=k){l:List α}(h:w.ownsRow base e k (.slice A l.length c) l.length (l.flatMap f)) :
  Els w base w.heap.size A c k l.length (fun j i=>(l[j]?).bind fun a=>(f a)[i]?):=by
 have hget:∀(l:List α) (j i:Nat),i<k→(l.flatMap f)[j*k+i]? = (l[j]?).bind fun a=>(f a)[i]?:=by
  intro l
  induction l with
  | nil=>intro j i hi;simp
  | cons a l ih =>
   intro j i hi
   rw[qbu]
   match j with
   | 0 =>
    rw[Nat.zero_mul,yr,xa (by rw[hf];exact hi)]
    rfl
   | j+1 =>
    rw[xr (by rw[hf,Nat.succ_mul];omega),hf,show(j+1)*k+i-k=j*k+i by rw[Nat.succ_mul];omega]
    exact ih j i hi
 have hlen:∀l:List α,(l.flatMap f).length=l.length*k:=by
  intro l
  induction l with
  | nil=>simp
  | cons a l ih=>rw[qbu,qd,hf,ih,qw,Nat.succ_mul];omega
 rcases h.2 with ⟨hv,h0⟩ | ⟨g,cap,cur,hv,hb,hg,hnc,hcm,hcs,htake⟩
 ·
  injection hv with e1 e2 e3
  subst e1 e3
  exact⟨by omega,by simp[maxLen],fun hp=>by omega⟩
 ·
  injection hv with e1 e2 e3
  subst e1 e3
  refine⟨hnc,hcm,fun _=>⟨g,0,rfl,hb,(xt.1 hg).1,fun j hj i hi => ?_⟩⟩
  have hlt:j*k+i<l.length*k:=by
   have:(j+1)*k≤l.length*k:=kh _ hj
   rw[Nat.succ_mul] at this
   omega
  have h5:cur.toList[j*k+i]? = (l.flatMap f)[j*k+i]?:=by rw[←htake,uq,if_pos hlt]
  rw[yr,cell_of_row w g (j*k+i) cur _ (0,0) hg,←qd4,h5,hget l j i hi]
section
open Go.RowKit Go.Maps Go.WideMaps
structure Pt where
 b:List UInt8
 gs:List GrpS
def qm0(l:List Pt):List (List Vl):=(l.map fun p=>qhg p.gs).flatten
def qcf(l:List Pt):Nat:=(l.map fun p=>qat p.gs).sum
theorem qgn(l:List Pt)(p:Pt):qcf (l++[p])=qcf l+qat p.gs:=by simp[qcf]
theorem rowsPt_snoc(l:List Pt)(p:Pt):qm0 (l++[p])=qm0 l++qhg p.gs:=by simp[qm0]
theorem totPt_take(l:List Pt)(i:Nat):qcf (l.take i)≤qcf l:=by
 have h:qcf l=qcf (l.take i)+qcf (l.drop i):=by
  unfold qcf
  rw[←qb5,←jl,zx]
 omega
structure TbOk (n:Nat) (l:List Pt):Prop where
 cols:1≤n∧n≤8
 read:∀p∈l,ke p.b n p.gs
 size:∀p∈l,p.b.length≤1000000000
 tot:qcf l≤4096
def PtsM(w:World)(S:Nat→Prop)(G:Nat)(o:Option Nat)(xs:List Value)(l:List Pt):Prop :=
 xs.length=l.length∧∀j (hj:j<l.length),∃A c g,xs[j]? = some (.slice A l[j].b.length c)∧S g∧g≠G∧o≠some g∧g<w.heap.size∧Rd w g (g+1) A c (bv l[j].b)
structure TabM (w:World) (lo:Nat) (S:Nat→Prop) (G n:Nat) (l:List Pt):Prop where
 at_:∃A c xs,yy w G 82 #[.int .i64 (n:Int),.int .i64 (qcf l:Int),.slice A l.length c]∧w.ownsRow lo 36 1 (.slice A l.length c) l.length xs∧
  PtsM w S G (Value.slice A l.length c).ownBlock xs l∧∀k,(Value.slice A l.length c).ownBlock=some k→S k∧k≠G
 own:S G
 mine:∀k,S k→lo≤k∧k<w.heap.size
section
variable {w w':World}{lo G n:Nat}{S X:Nat→Prop}{l:List Pt}
theorem PtsM.out{o:Option Nat}{xs:List Value}(h:PtsM w S G o xs l)(ho:Out w w' X)(hX:∀k,S k→¬X k):PtsM w' S G o xs l:=by
 refine⟨h.1,fun j hj => ?_⟩
 obtain⟨A,c,g,h1,h2,h3,h4,h5,h6⟩:=h.2 j hj
 refine⟨A,c,g,h1,h2,h3,h4,zn h5 ho.size,h6.out ho (by omega) fun k h7 h8 => ?_⟩
 obtain rfl:k=g:=by omega
 exact hX k h2
theorem TabM.out(h:TabM w lo S G n l)(ho:Out w w' X)(hX:∀k,S k→¬X k):TabM w' lo S G n l:=by
 obtain⟨A,c,xs,h1,h2,h3,h4⟩:=h.at_
 exact⟨⟨A,c,xs,h1.out ho (hX G h.own),qcl h2 ho (fun k hk=>hX k (h4 k hk).1),h3.out ho hX,h4⟩,h.own,fun k hk=>⟨(h.mine k hk).1,zn (h.mine k hk).2 ho.size⟩⟩
theorem TabM.below(h:TabM w lo S G n l)(hb:Below w.heap.size w w'):TabM w' lo S G n l:=h.out (X:=fun _=>False) (Out.of_below hb) fun _ _ h=>h
theorem TabM.lt(h:TabM w lo S G n l):G<w.heap.size:=(h.mine G h.own).2
end
def ptE(v:Value):Option (DataW Unit×List MemPlace) :=
 match v with
 | .pointer (some ⟨g,0,none⟩)=>some (.lit (.int .i64 (g:Int)),[])
 | .pointer none=>some (.lit (.int .i64 (-1)),[])
 | _=>none
theorem ptE_inv{v:Value}{d:DataW Unit}{ps:List MemPlace}(h:ptE v=some (d,ps)):(∃g:Nat,v= .pointer (some ⟨g,0,none⟩)∧d= .lit (.int .i64 (g:Int)))∨(v= .pointer none∧d= .lit (.int .i64 (-1))):=by
 unfold ptE at h
 split at h
 ·
  injection h with h
  injection h with h1 h2
  exact .inl ⟨_,rfl,h1.symm⟩
 ·
  injection h with h
  injection h with h1 h2
  exact .inr ⟨rfl,h1.symm⟩
 ·
  cases h
theorem ptE_some{v:Value}{g:Nat}{ps:List MemPlace}(h:ptE v=some (.lit (.int .i64 (g:Int)),ps)):v= .pointer (some ⟨g,0,none⟩):=by
 rcases ptE_inv h with ⟨g',rfl,e⟩ | ⟨_,e⟩
 ·
  injection e with e
  injection e with _ e
  obtain rfl:g=g':=by omega
  rfl
 ·
  injection e with e
  injection e with _ e
  omega
theorem ptE_none{v:Value}{ps:List MemPlace}(h:ptE v=some (.lit (.int .i64 (-1)),ps)):v= .pointer none:=by
 rcases ptE_inv h with ⟨g',rfl,e⟩ | ⟨h,_⟩
 ·
  injection e with e
  injection e with _ e
  omega
 ·
  exact h
structure En where
 name:ByteArray
 g:Nat
 S:Nat→Prop
 cols:Nat
 pts:List Pt
def qgj(e:En):List UInt8:=e.name.data.toList
theorem key_inj{a b:ByteArray}(h:a.data.toList=b.data.toList):a=b:=ByteArray.ext (qdw.1 h)
structure Dir (D:DataW Unit) (es:List En):Prop where
 has:∀x,Maps.has D (.string x)=decide (x∈es.map qgj)
 at_:∀e∈es,∀z,D.atKey (.string (qgj e)) z= .lit (.int .i64 (e.g:Int))
 size:Maps.size D=es.length
theorem Dir.nil:Dir (.map []) []:=⟨fun _=>rfl,fun e h=>(by cases h),rfl⟩
theorem Dir.put{D:DataW Unit}{es:List En}(h:Dir D es)(ht:Tidy D)(e:En)(hne:∀a∈es,a.name≠e.name):Dir (D.put (.string (qgj e)) (.lit (.int .i64 (e.g:Int)))) (es++[e]):=by
 have hk:WideAt.IsKeyLit (Lit.string (qgj e)):=trivial
 have hnk:∀a∈es,qgj a≠qgj e:=fun a ha he=>hne a ha (key_inj he)
 refine⟨fun x => ?_,fun a ha z => ?_,?_⟩
 ·
  by_cases hx:x=qgj e
  ·
   subst hx
   rw[has_put_same ht.isMap hk]
   simp
  ·
   rw[has_put_other (fun e=>hx (by injection e)),h.has x]
   simp[hx]
 ·
  rcases zm.1 ha with ha | ha
  ·
   rw[atKey_put_other (fun e=>hnk a ha (by injection e)),h.at_ a ha z]
  ·
   obtain rfl:=ze.1 ha
   rw[atKey_put_same ht.isMap hk]
 ·
  have hn:Maps.has D (.string (qgj e))=false:=by
   rw[h.has,decide_eq_false_iff_not]
   intro hm
   obtain⟨a,ha,he⟩:=zl.1 hm
   exact hnk a ha he
  rw[size_put ht _,hn,h.size]
  simp
theorem qjd{α:Type}{l:List α}{k:Nat}(hk:k<l.length){a:α}:a∈l.eraseIdx k↔∃j,∃hj:j<l.length,j≠k∧l[j]=a:=by
 rw[List.mem_eraseIdx_iff_getElem]
theorem Dir.del{D:DataW Unit}{es:List En}(h:Dir D es)(ht:Tidy D){k:Nat}(hk:k<es.length)(hne:∀i j (hi:i<es.length) (hj:j<es.length),i≠j→es[i].name≠es[j].name):Dir (D.del (.string (qgj es[k]))) (es.eraseIdx k):=by
 have hnk:∀i (hi:i<es.length),i≠k→qgj es[i]≠qgj es[k]:=fun i hi hik he=>hne i k hi hk hik (key_inj he)
 refine⟨fun x => ?_,fun a ha z => ?_,?_⟩
 ·
  by_cases hx:x=qgj es[k]
  ·
   subst hx
   rw[has_del_same]
   symm
   rw[decide_eq_false_iff_not]
   intro hm
   obtain⟨a,ha,he⟩:=zl.1 hm
   obtain⟨i,hi,hik,rfl⟩:=(qjd hk).1 ha
   exact hnk i hi hik he
  ·
   rw[has_del_other (fun e=>hx (by injection e)),h.has x]
   congr 1
   apply propext
   constructor
   ·
    intro hm
    obtain⟨a,ha,he⟩:=zl.1 hm
    obtain⟨i,hi,rfl⟩:=zc ha
    exact zl.2 ⟨es[i],(qjd hk).2 ⟨i,hi,fun e=>hx (by subst e;exact he.symm),rfl⟩,he⟩
   ·
    intro hm
    obtain⟨a,ha,he⟩:=zl.1 hm
    obtain⟨i,hi,hik,rfl⟩:=(qjd hk).1 ha
    exact zl.2 ⟨_,ql hi,he⟩
 ·
  obtain⟨i,hi,hik,rfl⟩:=(qjd hk).1 ha
  rw[atKey_del_other (fun e=>hnk i hi hik (by injection e)),h.at_ _ (ql hi) z]
 ·
  have hs:=size_del (k:= .string (qgj es[k])) ht
  have hh:Maps.has D (.string (qgj es[k]))=true:=by
   rw[h.has,decide_eq_true_iff]
   exact zl.2 ⟨_,ql hk,rfl⟩
  rw[hh,h.size,if_pos rfl] at hs
  rw[List.length_eraseIdx_of_lt hk]
  omega
theorem Dir.same{D:DataW Unit}{es fs:List En}(h:Dir D es)(hn:fs.map qgj=es.map qgj)(hg:fs.map En.g=es.map En.g):Dir D fs:=by
 have hl:fs.length=es.length:=by simpa using congrArg List.length hn
 refine⟨fun x=>by rw[h.has,hn],fun a ha z => ?_,by rw[h.size,hl]⟩
 obtain⟨i,hi,rfl⟩:=zc ha
 have h1:qgj fs[i]=qgj es[i]:=by
  have:=List.getElem_of_eq hn (show i<(fs.map qgj).length by simpa using hi)
  simpa using this
 have h2:fs[i].g=(es[i]'(by omega)).g:=by
  have:=List.getElem_of_eq hg (show i<(fs.map En.g).length by simpa using hi)
  simpa using this
 rw[h1,h2,h.at_ _ (ql _) z]
theorem own_tight{P:Program}{k:TypeId}{R:Value→Option (DataW Unit×List MemPlace)}{w:World}{b n:Nat}{D:DataW Unit}(h:w.ownsMap P k R b n D):w.ownsMap P k R b (Maps.size D) D:=by
 obtain⟨es,clock,hb,F,hs,rfl⟩:=h
 exact⟨es,clock,hb,F,by simp[Maps.size,length_sorted],rfl⟩
theorem qpr{P:Program}{k:TypeId}{R:Value→Option (DataW Unit×List MemPlace)}{w w':World}{b n:Nat}{D:DataW Unit}{X:Nat→Prop}(h:w.ownsMap P k R b n D)(ho:Out w w' X)(hX:¬X b):w'.ownsMap P k R b n D:=by
 have hlt:=h.lt
 obtain⟨es,clock,hb,rest⟩:=h
 exact⟨es,clock,(ho.block b hlt hX).trans hb,rest⟩
theorem Tryz.keyS:Keyed Tryz.prog 9:=string_keyed Tryz.underlying9
def MapIs(w:World)(M:Nat→Prop)(C:Nat)(es:List En)(mb:Option Nat):Prop :=
 match mb with
 | none=>es=[]
 | some B=>M B∧B≠C∧(∀e∈es,¬e.S B)∧∃D,w.ownsMap Tryz.prog 9 ptE B es.length D∧Dir D es
structure CatE (w:World) (lo:Nat) (M:Nat→Prop) (C:Nat) (es:List En):Prop where
 tabs:∀e∈es,TabM w lo e.S e.g e.cols e.pts
 ok:∀e∈es,TbOk e.cols e.pts∧1≤e.name.size∧e.name.size≤32
 apart:∀i j (hi:i<es.length) (hj:j<es.length),i≠j→es[i].name≠es[j].name∧∀k,es[i].S k→¬es[j].S k
 sub:∀e∈es,∀k,e.S k→M k∧k≠C
 mine:∀k,M k→lo≤k∧k<w.heap.size
 own:M C
 few:es.length≤16
 map:∃mb,yy w C 77 #[.map mb]∧MapIs w M C es mb
section
variable {w w':World}{lo C:Nat}{M X:Nat→Prop}{es:List En}
theorem MapIs.out{mb:Option Nat}(h:MapIs w M C es mb)(ho:Out w w' X)(hX:∀k,M k→¬X k):MapIs w' M C es mb:=by
 cases mb with
 | none=>exact h
 | some B =>
  obtain⟨h1,h2,h3,D,h4,h5⟩:=h
  exact⟨h1,h2,h3,D,qpr h4 ho (hX B h1),h5⟩
theorem CatE.out(h:CatE w lo M C es)(ho:Out w w' X)(hX:∀k,M k→¬X k):CatE w' lo M C es:=by
 obtain⟨mb,h1,h2⟩:=h.map
 exact⟨fun e he=>(h.tabs e he).out ho fun k hk=>hX k (h.sub e he k hk).1,h.ok,h.apart,h.sub,fun k hk=>⟨(h.mine k hk).1,zn (h.mine k hk).2 ho.size⟩,h.own,h.few,mb,h1.out ho (hX C h.own),h2.out ho hX⟩
theorem CatE.below(h:CatE w lo M C es)(hb:Below w.heap.size w w'):CatE w' lo M C es:=h.out (X:=fun _=>False) (Out.of_below hb) fun _ _ h=>h
theorem CatE.lt(h:CatE w lo M C es):C<w.heap.size:=(h.mine C h.own).2
theorem CatE.new(w:World):CatE (w.alloc (.cells #[.map none] 77)) w.heap.size (fun k=>k=w.heap.size) w.heap.size [] :=
 ⟨fun e h=>(by cases h),fun e h=>(by cases h),fun i j h=>absurd h (ja i),fun e h=>(by cases h),fun k hk=>by subst hk;simp,rfl,qi _,none,yy.new w _ _,rfl⟩
structure Step (w w':World) (M M':Nat→Prop):Prop where
 out:Out w w' M
 more:∀k,M' k→M k∨w.heap.size≤k
theorem Step.same(h:Out w w' M):Step w w' M M:=⟨h,fun _ h=> .inl h⟩
theorem Step.none(h:Below w.heap.size w w'):Step w w' M M:=⟨Out.of_below h,fun _ h=> .inl h⟩
theorem Step.trans{w2:World}{M' M2:Nat→Prop}(h:Step w w' M M')(k:Step w' w2 M' M2):Step w w2 M M2 :=
 ⟨h.out.trans k.out fun i hi hm=>(h.more i hm).elim id fun h=>by omega,fun i hi=>(k.more i hi).elim (h.more i) fun h2=> .inr (zb h.out.size h2)⟩
end
end
structure Tm where
 name:ByteArray
 cols:Int
 nr:Nat
 nb:Nat
 rA:Option Addr
 rc:Nat
 bA:Option Addr
 bc:Nat
def qa7(e:Tm):List Value:=[.string e.name,.int .i64 e.cols,.slice e.rA e.nr e.rc,.slice e.bA e.nb e.bc]
def qhr(w:World)(lo hi:Nat)(A:Option Addr)(c:Nat)(es:List Tm):Prop:=Els w lo hi A c 4 es.length (fun j i=>(es[j]?).bind fun e=>(qa7 e)[i]?)
section
variable {w w':World}{lo hi lo' hi' c B:Nat}{A:Option Addr}{es:List Tm}
theorem qhr.below(h:qhr w lo hi A c es)(hb:Below B w w')(hB:hi≤B):qhr w' lo hi A c es:=Els.below h hb hB
theorem qhr.wide(h:qhr w lo hi A c es)(h1:lo'≤lo)(h2:hi≤hi'):qhr w lo' hi' A c es:=Els.wide h h1 h2
theorem qhr.len(h:qhr w lo hi A c es):es.length≤c∧c≤9223372036854775807:=⟨Els.len h,by have:=Els.cap h;simpa[maxLen] using this⟩
theorem qhr.get(h:qhr w lo hi A c es){j:Nat}(hj:j<es.length) :
  ∃b off,A=some ⟨b,off,none⟩∧lo≤b∧b<hi∧w.cell? ⟨b,off+j*4,none⟩=some (.string es[j].name)∧w.cell? ⟨b,off+j*4+1,none⟩=some (.int .i64 es[j].cols)∧
   w.cell? ⟨b,off+j*4+2,none⟩=some (.slice es[j].rA es[j].nr es[j].rc)∧w.cell? ⟨b,off+j*4+3,none⟩=some (.slice es[j].bA es[j].nb es[j].bc):=by
 obtain⟨b,off,e,h3,h4,h5⟩:=Els.lies h (by omega)
 have g:=fun i hi=>h5 j hj i hi
 simp only[qe hj,vb] at g
 exact⟨b,off,e,h3,h4,g 0 (by omega),g 1 (by omega),g 2 (by omega),g 3 (by omega)⟩
theorem qhr.nil(w:World)(lo hi:Nat):qhr w lo hi none 0 []:=Els.nil _ _ _ _ _
end
theorem qhr.cut{w:World}{lo hi c k m:Nat}{A:Option Addr}{es:List Tm}(h:qhr w lo hi A c es)(hk:k≤m)(hm:m≤es.length):qhr w lo hi (if c=k then A else A.map (·.add (k*4))) (c-k) ((es.drop k).take (m-k)):=by
 obtain⟨hl,hc⟩:=h.len
 have hlen:((es.drop k).take (m-k)).length=m-k:=by simp;omega
 refine⟨by rw[hlen];omega,by simp[maxLen];omega,fun hp => ?_⟩
 rw[hlen] at hp
 obtain⟨b,off,e,h3,h4,h5⟩:=Els.lies h (by omega)
 have hne:¬c=k:=by omega
 refine⟨b,off+k*4,by rw[if_neg hne,e];simp[Addr.add],h3,h4,fun j hj i hi => ?_⟩
 rw[hlen] at hj
 have:=h5 (k+j) (by omega) i hi
 rw[show off+k*4+j*4+i=off+(k+j)*4+i by omega,this,qcr hj,List.getElem?_drop]
def qjs(w:World)(lo hi:Nat)(A:Option Addr)(c:Nat)(bs:List (List UInt8)):Prop :=
 ∃(bA:Nat→Option Addr) (bc:Nat→Nat),Els w lo hi A c 1 bs.length (fun j i=>(bs[j]?).bind fun b=>[Value.slice (bA j) b.length (bc j)][i]?)∧∀j (hj:j<bs.length),Rd w lo hi (bA j) (bc j) (bv bs[j])
section
variable {w w':World}{lo hi lo' hi' c B:Nat}{A:Option Addr}{bs:List (List UInt8)}
theorem qjs.below(h:qjs w lo hi A c bs)(hb:Below B w w')(hB:hi≤B):qjs w' lo hi A c bs:=by
 obtain⟨gA,gc,h1,h2⟩:=h
 exact⟨gA,gc,h1.below hb hB,fun j hj=>(h2 j hj).below hb hB⟩
theorem qjs.wide(h:qjs w lo hi A c bs)(h1:lo'≤lo)(h2:hi≤hi'):qjs w lo' hi' A c bs:=by
 obtain⟨gA,gc,h3,h4⟩:=h
 exact⟨gA,gc,h3.wide h1 h2,fun j hj=>(h4 j hj).wide h1 h2⟩
theorem qjs.len(h:qjs w lo hi A c bs):bs.length≤c∧c≤9223372036854775807:=by
 obtain⟨gA,gc,h1,h2⟩:=h
 exact⟨h1.len,by have:=h1.cap;simpa[maxLen] using this⟩
theorem qjs.get(h:qjs w lo hi A c bs){j:Nat}(hj:j<bs.length) :
  ∃b off A' c',A=some ⟨b,off,none⟩∧lo≤b∧b<hi∧w.cell? ⟨b,off+j,none⟩=some (.slice A' bs[j].length c')∧Rd w lo hi A' c' (bv bs[j]):=by
 obtain⟨gA,gc,h1,h2⟩:=h
 obtain⟨b,off,e,h3,h4,h5⟩:=h1.lies (by omega)
 have h6:=h5 j hj 0 (by omega)
 rw[qe hj,xp,xj] at h6
 exact⟨b,off,_,_,e,h3,h4,h6,h2 j hj⟩
end
theorem qh0{w:World}{base n m p:Nat}{A A2:Option Addr}{c c2 lo hi:Nat}{xs ys zs:List UInt8}(ho:w.ownsRow base 5 1 (.slice A n c) n (bv xs))(hx:xs.length=n)(hr:Rd w lo hi A2 c2 (bv ys))(hy:ys.length=m)(hz:xs++ys=zs)(hp:n+m=p)(hbig:p≤140737488355328)(hbase:base≤w.heap.size) :
  ∃A' c' w',(Builtin.append_ #[36,36] 36 #[.slice A n c,.slice A2 m c2]).run Tryz.prog w= .ok (.slice A' p c') w'∧w'.ownsRow base 5 1 (.slice A' p c') p (bv zs)∧Below base w w':=by
 subst hx hy hz hp
 obtain⟨A',c',w',h1,h2,h3⟩:=j9 w base _ xs ys (xs++ys) rfl ho hr hbig hbase
 rw[qd] at h1 h2
 exact⟨A',c',w',h1,h2,(Below.refl _ w).grown h3 hbase fun g hg=>(zk ho hg).1⟩
def ko(raw:List (List UInt8)):List UInt8:=raw.flatMap fun b=>ji b.length++b
theorem flatB_take{raw:List (List UInt8)}{i:Nat}(hi:i<raw.length):ko (raw.take (i+1))=ko (raw.take i)++ji raw[i].length++raw[i]:=by
 unfold ko
 rw[qj hi,qdg]
 simp
theorem flatB_le(raw:List (List UInt8))(i:Nat):(ko (raw.take i)).length≤(ko raw).length:=by
 have h:ko raw=ko (raw.take i)++ko (raw.drop i):=by
  unfold ko
  rw[←qdg,zx]
 rw[h,qd]
 omega
def vd(n:Nat)(raw:List (List UInt8)):List UInt8:=ji n++ji raw.length++ko raw
theorem qjc(a:Nat):∀ {b:Nat} {x y:List UInt8},ji a++x=ji b++y→a=b∧x=y:=by
 induction a using Nat.strongRecOn with
 | ind a ih =>
  intro b x y h
  by_cases ha:a<128
  ·
   rw[qap ha] at h
   by_cases hb:b<128
   ·
    rw[qap hb] at h
    injection h with h1 h2
    have h3:=congrArg UInt8.toNat h1
    rw[jq,jq] at h3
    exact⟨by omega,h2⟩
   ·
    rw[qgb (by omega)] at h
    injection h with h1 h2
    have h3:=congrArg UInt8.toNat h1
    rw[jq,jq] at h3
    omega
  ·
   rw[qgb (by omega)] at h
   by_cases hb:b<128
   ·
    rw[qap hb] at h
    injection h with h1 h2
    have h3:=congrArg UInt8.toNat h1
    rw[jq,jq] at h3
    omega
   ·
    rw[qgb (n:=b) (by omega)] at h
    injection h with h1 h2
    have h3:=congrArg UInt8.toNat h1
    rw[jq,jq] at h3
    obtain⟨h4,h5⟩:=ih (a/128) (by omega) h2
    exact⟨by omega,h5⟩
theorem flat_pre:∀ {raw raw':List (List UInt8)} {x y:List UInt8},raw.length=raw'.length→ko raw++x=ko raw'++y→raw=raw'∧x=y
 | [],[],x,y,_,h=>⟨rfl,h⟩
 | [],_ :: _,_,_,h,_=>by simp at h
 | _ :: _,[],_,_,h,_=>by simp at h
 | a :: raw,b :: raw',x,y,hl,h=>by
  have e:∀(c:List UInt8) (r:List (List UInt8)),ko (c :: r)=ji c.length++(c++ko r):=fun c r=>by simp[ko]
  rw[e,e] at h
  simp only[qp] at h
  obtain⟨h1,h2⟩:=qjc _ h
  obtain⟨h3,h4⟩:=List.append_inj h2 h1
  obtain⟨h5,h6⟩:=flat_pre (by simpa using hl) h4
  exact⟨by rw[h3,h5],h6⟩
theorem export_one{n n':Nat}{raw raw':List (List UInt8)}(h:vd n raw=vd n' raw'):n=n'∧raw=raw':=by
 unfold vd at h
 simp only[qp] at h
 obtain⟨h1,h2⟩:=qjc _ h
 obtain⟨h3,h4⟩:=qjc _ h2
 obtain⟨h5,_⟩:=flat_pre (x:=[]) (y:=[]) h3 (by simpa using h4)
 exact⟨h1,h5⟩
def k9(l:List Pt):List (List UInt8):=l.map Pt.b
theorem qc3(l:List Pt):(k9 l).length=l.length:=by simp[k9]
theorem rawPt_snoc(l:List Pt)(p:Pt):k9 (l++[p])=k9 l++[p.b]:=by simp[k9]
def qf6(b:List UInt8)(n:Nat)(l:List Pt):Prop:=TbOk n l∧l.length≤9223372036854775807∧b=vo (vd n (k9 l))
theorem flatB_snoc(raw:List (List UInt8))(b:List UInt8):ko (raw++[b])=ko raw++(ji b.length++b):=by simp[ko]
theorem flatB_cons(raw:List (List UInt8))(b:List UInt8):ko (b :: raw)=ji b.length++(b++ko raw):=by simp[ko]
structure RdAt (bs:List UInt8) (n cnt i k:Nat) (l:List Pt):Prop where
 le:k≤bs.length
 len:l.length=i
 /-- what stands ahead -/
 lies:bs=ji n++ji cnt++ko (k9 l)++bs.drop k
 /-- whatever table these bytes are begins so -/
 one:∀n' l',TbOk n' l'→l'.length≤9223372036854775807→bs=vd n' (k9 l')→n'=n∧l'.length=cnt∧l'.take i=l∧bs.drop k=ko (k9 (l'.drop i))
theorem RdAt.start{bs:List UInt8}{n cnt k0 k1:Nat}(h0:jw bs 0 0 8=(n,k0,0))(h1:jw bs k0 0 9223372036854775807=(cnt,k1,0)):RdAt bs n cnt 0 k1 []:=by
 obtain⟨a1,a2,a3,a4,a5⟩:=qbp (qi _) h0
 obtain⟨b1,b2,b3,b4,b5⟩:=qbp a5 h1
 rw[jy] at a3
 refine⟨b5,rfl,?_,fun n' l' hok hl he => ?_⟩
 ·
  rw[show ko (k9 [])=[] from rfl,jb,qp,←b3,←a3]
 ·
  unfold vd at he
  rw[a3,b3,qp] at he
  obtain⟨e1,e2⟩:=qjc _ he
  obtain⟨e3,e4⟩:=qjc _ e2
  refine⟨e1.symm,by rw[e3,qc3],rfl,by rw[e4,jy]⟩
theorem ke.len4{b:List UInt8}{n:Nat}{gs:List GrpS}(h:ke b n gs):4≤b.length:=by
 have:=h.1
 unfold qak at this
 rw[yx,decide_eq_true_iff] at this
 exact this.1
theorem ke.same{b:List UInt8}{n:Nat}{gs gs':List GrpS}(h:ke b n gs)(h':ke b n gs'):gs=gs':=by
 have:=h.2.symm.trans h'.2
 injection this with this
 injection this
section
variable {bs:List UInt8}{n cnt i k:Nat}{l:List Pt}
theorem RdAt.next(h:RdAt bs n cnt i k l)(hi:i<cnt){n':Nat}{l':List Pt}(hok:TbOk n' l')(hl:l'.length≤9223372036854775807)(he:bs=vd n' (k9 l')) :
  ∃p,n'=n∧l'.length=cnt∧l'.take (i+1)=l++[p]∧bs.drop k=ji p.b.length++(p.b++ko (k9 (l'.drop (i+1))))∧p.b.length≤1000000000∧ke p.b n p.gs∧qcf l+qat p.gs≤4096:=by
 obtain⟨e1,e2,e3,e4⟩:=h.one n' l' hok hl he
 subst e1
 have hil:i<l'.length:=by omega
 have hm:=ql hil
 have ht:l'.take (i+1)=l++[l'[i]]:=by rw[qj hil,e3]
 refine⟨l'[i],rfl,e2,ht,?_,hok.size _ hm,hok.read _ hm,?_⟩
 ·
  rw[e4,jc hil,show k9 (l'[i] :: l'.drop (i+1))=l'[i].b :: k9 (l'.drop (i+1)) from rfl,flatB_cons]
 ·
  have:=totPt_take l' (i+1)
  rw[ht,qgn] at this
  exact zb this hok.tot
theorem RdAt.no_num(h:RdAt bs n cnt i k l)(hi:i<cnt)(hm:(jw bs k 0 9223372036854775807).2.2≠0):∀n' l',TbOk n' l'→l'.length≤9223372036854775807→bs≠vd n' (k9 l'):=fun n' l' hok hl he=>by
 obtain⟨p,_,_,_,hd,hs,_,_⟩:=h.next hi hok hl he
 rw[ut hd (by omega) (by omega)] at hm
 exact hm rfl
theorem RdAt.no_bytes{s k1:Nat}(h:RdAt bs n cnt i k l)(hi:i<cnt)(hm:jw bs k 0 9223372036854775807=(s,k1,0))(ht:(jo bs k1 0 0 (s:Int)).2.2≠0):∀n' l',TbOk n' l'→l'.length≤9223372036854775807→bs≠vd n' (k9 l'):=fun n' l' hok hl he=>by
 obtain⟨p,_,_,_,hd,hs,_,_⟩:=h.next hi hok hl he
 have h2:=ut hd (m:=9223372036854775807) (by omega) (by omega)
 rw[hm] at h2
 injection h2 with h3 h4
 injection h4 with h4 _
 obtain⟨a1,a2,a3,a4,a5⟩:=qbp h.le hm
 rw[hd,h3] at a3
 have a6:=vi a3
 have h7:k1+s≤bs.length:=by
  have:=congrArg List.length a6
  rw[qd,qy] at this
  omega
 rw[qcw bs k1 s h7] at ht
 exact ht rfl
theorem RdAt.took{s k1:Nat}(h:RdAt bs n cnt i k l)(hi:i<cnt)(hm:jw bs k 0 9223372036854775807=(s,k1,0)){x:List UInt8}{k2:Nat}(ht:jo bs k1 0 0 (s:Int)=(x,k2,0)) :
  x.length=s∧k2≤bs.length∧bs.drop k=ji x.length++(x++bs.drop k2)∧∀n' l',TbOk n' l'→l'.length≤9223372036854775807→bs=vd n' (k9 l')→∃p,p.b=x∧l'.take (i+1)=l++[p]∧bs.drop k2=ko (k9 (l'.drop (i+1)))∧ke x n p.gs∧qcf l+qat p.gs≤4096∧x.length≤1000000000:=by
 obtain⟨a1,a2,a3,a4,a5⟩:=qbp h.le hm
 have hfit:k1+s≤bs.length:=by
  rcases vf bs.length (k1+s) with h1 | h1
  ·
   rw[qc0 bs k1 s h1] at ht
   injection ht with _ h2
   injection h2 with _ h3
   cases h3
  ·
   exact h1
 rw[qcw bs k1 s hfit] at ht
 injection ht with e1 e2
 injection e2 with e2 _
 have hxl:x.length=s:=by rw[←e1,qz,qy];omega
 have hd1:bs.drop k1=x++bs.drop k2:=by rw[←e1,←e2,←jh,zx]
 refine⟨hxl,by omega,by rw[a3,hxl,hd1],fun n' l' hok hl he => ?_⟩
 obtain⟨p,en,_,h2,h3,h4,h5,h6⟩:=h.next hi hok hl he
 rw[a3,hd1,←hxl] at h3
 obtain⟨g1,g2⟩:=qjc _ h3
 obtain⟨g3,g4⟩:=List.append_inj g2 g1
 exact⟨p,g3.symm,h2,g4,g3 ▸ h5,h6,by rw[g3];exact h4⟩
theorem RdAt.step{s k1:Nat}(h:RdAt bs n cnt i k l)(hi:i<cnt)(hm:jw bs k 0 9223372036854775807=(s,k1,0)){x:List UInt8}{k2:Nat}(ht:jo bs k1 0 0 (s:Int)=(x,k2,0)){gs:List GrpS}(hr:ke x n gs):RdAt bs n cnt (i+1) k2 (l++[⟨x,gs⟩]):=by
 obtain⟨h1,h2,h3,h4⟩:=h.took hi hm ht
 refine⟨h2,by rw[qd,h.len];rfl,?_,fun n' l' hok hl he => ?_⟩
 ·
  rw[rawPt_snoc,flatB_snoc]
  conv=>lhs;rw[h.lies,h3]
  simp only[qp]
 ·
  obtain⟨p,e1,e2,e3,e4,_,_⟩:=h4 n' l' hok hl he
  obtain⟨f1,f2,_,_⟩:=h.one n' l' hok hl he
  refine⟨f1,f2,?_,e3⟩
  rw[e2]
  obtain⟨pb,pg⟩:=p
  simp only at e1 e4
  rw[←e1,hr.same e4]
theorem RdAt.no_part{s k1:Nat}(h:RdAt bs n cnt i k l)(hi:i<cnt)(hm:jw bs k 0 9223372036854775807=(s,k1,0)){x:List UInt8}{k2:Nat}(ht:jo bs k1 0 0 (s:Int)=(x,k2,0))(hn:∀gs,ke x n gs→4096<qcf l+qat gs):∀n' l',TbOk n' l'→l'.length≤9223372036854775807→bs≠vd n' (k9 l'):=fun n' l' hok hl he=>by
 obtain⟨_,_,_,h4⟩:=h.took hi hm ht
 obtain⟨p,e1,e2,e3,e4,e5,_⟩:=h4 n' l' hok hl he
 have:=hn _ e4
 omega
theorem RdAt.no_end(h:RdAt bs n cnt cnt k l)(hk:k<bs.length):∀n' l',TbOk n' l'→l'.length≤9223372036854775807→bs≠vd n' (k9 l'):=fun n' l' hok hl he=>by
 obtain⟨e1,e2,e3,e4⟩:=h.one n' l' hok hl he
 rw[qdp (l:=l') (by omega)] at e4
 have:=congrArg List.length e4
 rw[qy] at this
 simp[k9,ko] at this
 omega
theorem RdAt.all(h:RdAt bs n cnt cnt k l)(hk:¬k<bs.length):bs=vd n (k9 l):=by
 have h1:=h.lies
 rw[qdp (by omega),jb] at h1
 rw[h1,vd,qc3,h.len]
end
theorem qlq{b:List UInt8}(h:qak b=true){n:Nat}{l:List Pt}:qf6 b n l↔TbOk n l∧l.length≤9223372036854775807∧b.take (b.length-4)=vd n (k9 l):=by
 have h4:4≤b.length:=by
  unfold qak at h
  rw[yx,decide_eq_true_iff] at h
  exact h.1
 have hs:vo (b.take (b.length-4))=b:=by
  have:=sealedB_iff h4
  rw[h] at this
  exact of_decide_eq_true this.symm
 constructor
 ·
  rintro⟨h1,h2,h3⟩
  refine⟨h1,h2,?_⟩
  rw[h3,qc2,Nat.add_sub_cancel,qh3]
 ·
  rintro⟨h1,h2,h3⟩
  exact⟨h1,h2,by rw[←h3,hs]⟩
theorem not_tab{b:List UInt8}(h:qak b=false)(n:Nat)(l:List Pt):¬qf6 b n l:=fun⟨_,_,h3⟩=>by
 rw[h3,qjz] at h
 cases h
theorem qf6.one{b:List UInt8}{n n':Nat}{l l':List Pt}(h:qf6 b n l)(h':qf6 b n' l'):n=n'∧l=l':=by
 have hs:qak b=true:=by rw[h.2.2];exact qjz _
 obtain⟨a1,a2,a3⟩:=(qlq hs).1 h
 obtain⟨b1,b2,b3⟩:=(qlq hs).1 h'
 obtain⟨e1,e2⟩:=export_one (a3.symm.trans b3)
 subst e1
 refine⟨rfl,?_⟩
 have hl:l.length=l'.length:=by rw[←qc3,e2,qc3]
 refine qco hl fun i h1 h2 => ?_
 have hb:l[i].b=l'[i].b:=by
  have:=List.getElem_of_eq e2 (show i<(k9 l).length by rw[qc3];exact h1)
  simpa[k9] using this
 have r1:=a1.read _ (ql h1)
 have r2:=b1.read _ (ql h2)
 rw[hb] at r1
 have:=r1.same r2
 generalize l[i]=p at *
 generalize l'[i]=q at *
 obtain⟨pb,pg⟩:=p
 obtain⟨qb,qg⟩:=q
 simp only at hb this
 rw[hb,this]
end Go.Proofs.YtjfecojdagmacaaGreat
