/-
  Lemmas.
-/
import Derived.Test.YtjfecojdagmacaaGreatE28
namespace Go.Proofs.YtjfecojdagmacaaGreat
open Go.RowKit
set_option maxRecDepth 20000
set_option maxHeartbeats 16000000
set_option linter.unusedSimpArgs false
set_option linter.unusedVariables false
noncomputable def qjn (L:List Vl)(o:Co)(b:Nat):ColS:=⟨b,if b=0 then qj9 (qr L) else [],if b=0 then [] else qfu b (qj9 (qr L)),qap L o⟩
noncomputable def qjl (os:List Co)(b:Nat)(g:List (List Vl)):GrpS:=⟨g.length,(List.range os.length).map fun k=>qjn (ko g k) (qc5 os k) b⟩
structure ColW (L:List Vl) (o:Co) (b:Nat):Prop where
 fits:uj L
 ok:qbs o
 tab:y9 (qr L) o=2→jz (ki (qr L) o)=true
 bits:b≤65536
 few:(qcc (qdh (qr L))).length≤65536
theorem qj8(S:List ByteArray):Rise (qcc (qdh S)) (qj9 S):=by
 obtain⟨t,ht⟩:=rise_ex (qcc (qdh S))
 rw[qi4 ht]
 exact ht
theorem colOf_at{bs rest:List UInt8}{k:Nat}{L:List Vl}{o:Co}{b:Nat}(h:ColW L o b)(hk:k≤bs.length)(hd:bs.drop k=qga L o b++rest):ColAt bs k L.length (qjn L o b) (k+(qga L o b).length):=by
 have hr:=qj8 (qr L)
 have hl:=hr.len
 have hlen:bs.length-k=(qga L o b).length+rest.length:=by rw[←qv,hd,qd]
 have hok:=chkOf_ok h.fits h.ok h.tab
 have hfil:xg b (qjn L o b).gs (qjn L o b).rs=qnb (qr L) b:=by
  unfold qjn qnb
  by_cases hb:b=0
  ·
   subst hb;rfl
  ·
   simp only[if_neg hb]
 have hf:FilG b (qjn L o b).gs (qjn L o b).rs:=by
  unfold qjn
  by_cases hb:b=0
  ·
   subst hb;exact FilG.list hr h.few
  ·
   simp only[if_neg hb];exact FilG.set _ h.bits
 have hB:=h.ok
 obtain⟨_,_,b1,b2,_⟩:=hB
 refine⟨⟨hok,by show(qap L o).there.length=L.length;rw[qiq,uq],hf,?_⟩,by omega,o.block.toNat,by omega,by omega,?_,?_⟩
 ·
  show qhw (qd4 (qap L o)) b _ _
  rw[chkOf_str h.fits h.ok h.tab]
  exact⟨qj9 (qr L),hr,rfl,rfl⟩
 ·
  show bs.drop k=xg b _ _++(qgb o.block.toNat (qap L o)++_)
  rw[hfil,←codeL_chk h.ok,←zu,hd,jn,qga,qm]
 ·
  show k+(qga L o b).length=k+((xg b _ _).length+(qgb o.block.toNat (qap L o)).length)
  rw[hfil,←codeL_chk h.ok,qga,qd]
theorem qmz{bs:List UInt8}{g:List (List Vl)}{os:List Co}{b:Nat}:∀ {j k:Nat} {rest:List UInt8},(∀i,i<j→ColW (ko g i) (qc5 os i) b)→k≤bs.length→bs.drop k=qb6 g os b j++rest→qdj bs g.length k j=some ((List.range j).map fun i=>qjn (ko g i) (qc5 os i) b,k+(qb6 g os b j).length)
 | 0,k,rest,_,_,_=>by simp[qdj,qb6]
 | j+1,k,rest,hw,hk,hd=>by
  rw[qhm,qm] at hd
  have h1:=qmz (fun i hi=>hw i (by omega)) hk hd
  have hlen:bs.length-k=(qb6 g os b j).length+(qga (ko g j) (qc5 os j) b++rest).length:=by rw[←qv,hd,qd]
  have h2:=colOf_at (bs:=bs) (rest:=rest) (k:=k+(qb6 g os b j).length) (hw j (by omega)) (by omega) (by rw[←zu,hd,jn])
  rw[qd1] at h2
  rw[cols_some h1 (colR_is h2),qhm,qd,List.range_succ,jg,qaz]
  rfl
theorem qmr{bs:List UInt8}{gs:List (List (List Vl))}{os:List Co}{b k:Nat}(hw:∀g∈gs,0<g.length∧∀i,i<os.length→ColW (ko g i) (qc5 os i) b)(hr:vo gs≤4096)(hk:k≤bs.length):∀ {i:Nat} {rest:List UInt8},i≤gs.length→bs.drop k=qbx os b (gs.take i)++rest→
  qdi bs os.length k i=some ((gs.take i).map (qjl os b),k+(qbx os b (gs.take i)).length,4096-vo (gs.take i))
 | 0,rest,_,_=>by simp[qdi,qbx,vo]
 | i+1,rest,hi,hd=>by
  have hil:i<gs.length:=hi
  obtain⟨hw1,hw2⟩:=hw _ (ql hil)
  rw[qj6 hil,qm] at hd
  have h1:=qmr hw hr hk (Nat.le_of_lt hil) hd
  have hlen:bs.length-k=(qbx os b (gs.take i)).length+(qlw os b gs[i]++rest).length:=by rw[←qv,hd,qd]
  have hd2:bs.drop (k+(qbx os b (gs.take i)).length)=jc gs[i].length++(qb6 gs[i] os b os.length++rest):=by rw[←zu,hd,jn,qlw,qm]
  have hrt:=qdt hil
  have hrl:=qh9 gs (i+1)
  have h2:=vp (m:=((4096-vo (gs.take i):Nat):Int)) hd2 (by omega) (by omega)
  have hlen2:bs.length-(k+(qbx os b (gs.take i)).length)=(jc gs[i].length).length+(qb6 gs[i] os b os.length++rest).length:=by rw[←qv,hd2,qd]
  have hpos:=qks gs[i].length
  have h3:=qmz (bs:=bs) (g:=gs[i]) (os:=os) (b:=b) (j:=os.length) (k:=k+(qbx os b (gs.take i)).length+(jc gs[i].length).length) (rest:=rest) hw2 (by omega) (by rw[←zu,hd2,jn])
  have h4:=grp_some h2 (by omega) h3
  rw[grps_some h1 h4,qi hil,jg]
  simp only[y8,qbu,qjl]
  have e1:(qbx os b (gs.take i++[gs[i]])).length=(qbx os b (gs.take i)).length+((jc gs[i].length).length+(qb6 gs[i] os b os.length).length):=by
   rw[←qi hil,qj6 hil,qd,qlw,qd]
  have e2:vo (gs.take i++[gs[i]])=vo (gs.take i)+gs[i].length:=by rw[←qi hil,hrt]
  rw[e1,e2]
  simp only[Option.some.injEq,Prod.mk.injEq,true_and]
  omega
theorem rowsN_len:∀ {gs:List (List (List Vl))},(∀g∈gs,0<g.length)→gs.length≤vo gs
 | [],_=>qj _
 | g :: gs,h=>by
  have h1:=rowsN_len (gs:=gs) fun x hx=>h x (jb _ hx)
  have h2:=h g zr
  show gs.length+1≤g.length+vo gs
  omega
def qm4(gs:List (List (List Vl)))(os:List Co):Prop:=∀g∈gs,∀k,k<os.length→(qcc (qdh (qr (ko g k)))).length≤65536
theorem colW_of{gs:List (List (List Vl))}{os:List Co}{cols:Int}{b:Nat}(hR:qaf cols gs os (b:Int))(hT:qf7 gs os)(hG:qm4 gs os):∀g∈gs,0<g.length∧∀i,i<os.length→ColW (ko g i) (qc5 os i) b:=fun g hg=>by
 obtain⟨a1,a2,a3,a4,a5,a6,a7,a8⟩:=hR
 refine⟨(a8 g hg).1,fun i hi=>⟨(a8 g hg).2.2 i hi,?_,hT g hg i hi,by omega,hG g hg i hi⟩⟩
 rw[coAt_is hi]
 exact a6 _ (ql hi)
theorem segR_there{gs:List (List (List Vl))}{os:List Co}{cols:Int}{b:Nat}(hR:qaf cols gs os (b:Int))(hT:qf7 gs os)(hG:qm4 gs os):qh6 (qgn os b gs)=some (os.length,gs.map (qjl os b)):=by
 have hw:=colW_of hR hT hG
 obtain⟨a1,a2,a3,a4,a5,a6,a7,a8⟩:=hR
 have hgl:=rowsN_len fun g hg=>(hw g hg).1
 have d0:(qgn os b gs).drop 0=jc os.length++(jc gs.length++qbx os b gs):=by rw[jv,qgn,qm]
 have h1:=vp (m:=8) d0 (by omega) (by omega)
 have d1:(qgn os b gs).drop (0+(jc os.length).length)=jc gs.length++qbx os b gs:=by rw[←zu,d0,jn]
 have h2:=vp (m:=4096) d1 (by omega) (by omega)
 have hlen:(qgn os b gs).length=(jc os.length).length+((jc gs.length).length+(qbx os b gs).length):=by rw[qgn,qd,qd,qaz]
 have h3:=qmr (bs:=qgn os b gs) (k:=0+(jc os.length).length+(jc gs.length).length) (rest:=[]) hw a7 (by omega) (qc gs.length) (by rw[←zu,d1,jn,qp (qc _),jd])
 rw[qp (qc _)] at h3
 exact seg_some h1 (by omega) h2 h3 (by omega)
theorem sg_there{gs:List (List (List Vl))}{os:List Co}{cols:Int}{b:Nat}(hR:qaf cols gs os (b:Int))(hT:qf7 gs os)(hG:qm4 gs os):xo (vn (qgn os b gs)) os.length (gs.map (qjl os b)):=by
 refine⟨qhb _,?_⟩
 rw[ut,Nat.add_sub_cancel,qfv]
 exact segR_there hR hT hG
theorem xo.one{b:List UInt8}{n n':Nat}{gs gs':List GrpS}(h:xo b n gs)(h':xo b n' gs'):n=n'∧gs=gs':=by
 have:=h.2.symm.trans h'.2
 simpa using this
theorem xo.ok{b:List UInt8}{n:Nat}{gs:List GrpS}(h:xo b n gs):SegOk n gs:=segR_ok h.2
theorem rowsG_of{os:List Co}{b:Nat}{g:List (List Vl)}(hw:∀i,i<os.length→ColW (ko g i) (qc5 os i) b)(hl:∀r∈g,r.length=os.length):rowsG (qjl os b g)=g:=by
 have h1:∀i (hi:i<g.length),qjd ((List.range os.length).map fun k=>qjn (ko g k) (qc5 os k) b) i=g[i]:=fun i hi=>by
  have hlen:=hl _ (ql hi)
  apply List.ext_getElem
  ·
   rw[qe3,qz,List.length_range,hlen]
  ·
   intro k hk1 hk2
   rw[qe3,qz,List.length_range] at hk1
   have h3:=hw k hk1
   simp only[qjd,j5,List.getElem_range]
   show(qaj (qap (ko g k) (qc5 os k))).getD i ⟨true,⟨#[]⟩⟩=_
   rw[chkOf_vals h3.fits h3.ok h3.tab,List.getD,colV_get hi hk2]
   rfl
 unfold rowsG qjl
 apply List.ext_getElem
 ·
  simp
 ·
  intro i hi1 hi2
  rw[j5,List.getElem_range]
  exact h1 i hi2
theorem rowsS_of{gs:List (List (List Vl))}{os:List Co}{cols:Int}{b:Nat}(hR:qaf cols gs os (b:Int))(hT:qf7 gs os)(hG:qm4 gs os):qd7 (gs.map (qjl os b))=gs.flatten:=by
 have hw:=colW_of hR hT hG
 unfold qd7
 congr 1
 rw[uk]
 conv=>rhs;rw[←List.map_id gs]
 refine qal fun g hg => ?_
 exact rowsG_of (hw g hg).2 (hR.2.2.2.2.2.2.2 g hg).2.1
theorem rowsT_of(os:List Co)(b:Nat)(gs:List (List (List Vl))):vi (gs.map (qjl os b))=vo gs:=by
 unfold vi vo
 rw[uk]
 rfl
theorem qkp{g:List (List Vl)}:∀ {gs:List (List (List Vl))},g∈gs→qjc g≤qjr gs
 | x :: gs,h=>by
  show qjc g≤qjc x+qjr gs
  rcases zv.1 h with rfl | h
  ·
   omega
  ·
   have:=qkp h
   omega
theorem few_gr{gs:List (List (List Vl))}{os:List Co}(h:FewSg gs os)(hw:∀g∈gs,∀r∈g,r.length=os.length):qm4 gs os:=fun g hg k hk=>by
 have h1:=allL_sum (qr (ko g k))
 have h2:=qfk (ko g k)
 have h3:=qko (g:=g) (k:=k) fun r hr=>by rw[hw g hg r hr];exact hk
 have h4:=qkp hg
 have h5:=h.bytes
 omega
structure Fc where
 b:Nat
 gs:List Nat
 rs:List Bool
 gA:Option Addr
 gc:Nat
 rA:Option Addr
 rc:Nat
def qec(e:Fc):List Value:=[.int .i64 (e.b:Int),.slice e.gA e.gs.length e.gc,.slice e.rA e.rs.length e.rc]
def fcs(es:List Fc):List Value:=es.flatMap qec
theorem fcs_snoc(es:List Fc)(e:Fc):fcs (es++[e])=fcs es++qec e:=by simp[fcs]
theorem fc_one(e:Fc):∀u∈qec e,u.oneCell'=true:=by
 intro u hu
 simp only[qec,zv,vd,or_false] at hu
 rcases hu with rfl | rfl | rfl <;> rfl
theorem Tryz.infoFlt:(Tryz.prog.info? 110).map (fun i=>(i.zero,i.size,i.bytes))=some (some (.agg #[.int .i64 0,.slice none 0 0,.slice none 0 0]),3,56):=by kernel_rfl
def qck(w:World)(X:Nat→Prop)(P:World→Prop):Prop:=∀W,Out w W X→P W
section
variable {w w':World}{X Y:Nat→Prop}{P Q:World→Prop}
theorem qck.now(h:qck w X P):P w:=h w (Out.refl w X)
theorem qck.step(h:qck w X P)(ho:Out w w' X)(hx:∀i,i<w.heap.size→Y i→X i):qck w' Y P:=fun W hW=>h W (ho.trans hW hx)
theorem qck.less(h:qck w X P)(hx:∀i,i<w.heap.size→Y i→X i):qck w Y P:=fun W hW=>h W ((Out.refl w X).trans hW hx)
theorem qck.and(h:qck w X P)(k:qck w X Q):qck w X (fun W=>P W∧Q W):=fun W hW=>⟨h W hW,k W hW⟩
theorem qck.imp(h:qck w X P)(hi:∀W,w.heap.size≤W.heap.size→P W→Q W):qck w X Q:=fun W hW=>hi W hW.size (h W hW)
theorem qck.of(p:Prop)(h:p):qck w X (fun _=>p):=fun _ _=>h
theorem qck.all{α:Type}{l:List α}{R:World→α→Prop}(h:∀a∈l,qck w X (fun W=>R W a)):qck w X (fun W=>∀a∈l,R W a):=fun W hW a ha=>h a ha W hW
theorem qck.own{base n size:Nat}{e:TypeId}{v:Value}{xs:List Value}(h:w.ownsRow base e size v n xs)(hX:∀k,v.ownBlock=some k→¬X k):qck w X (fun W=>W.ownsRow base e size v n xs):=fun W hW=>qaa h hW hX
theorem qck.rd{lo c:Nat}{A:Option Addr}{xs:List Value}(h:Rd w lo w.heap.size A c xs)(hX:∀k,lo≤k→k<w.heap.size→¬X k):qck w X (fun W=>Rd W lo W.heap.size A c xs) :=
 fun W hW=>(h.out hW (qc _) hX).wide (qc _) hW.size
theorem qck.blk{g:Nat}{t:TypeId}{cs:Array Value}(h:j8 w g t cs)(hX:¬X g):qck w X (fun W=>j8 W g t cs):=fun W hW=>h.out hW hX
end
theorem Dc.out{w w':World}{d:Nat}{ys:List ByteArray}{X:Nat→Prop}(h:Dc w d ys)(ho:Out w w' X)(hX:∀k,d≤k→k<w.heap.size→¬X k):Dc w' d ys:=by
 obtain⟨A,c,hb,hr⟩:=h
 exact⟨A,c,hb.out ho (hX d (qc _) hb.lt),qaa hr ho fun k hk=>by have:=zk hr hk;exact hX k (by omega) this.2⟩
theorem qbh.out{w w':World}{lo G:Nat}{c:Chk}{X:Nat→Prop}(h:qbh w lo G c)(hb:Out w w' X)(hX:∀k,lo≤k→k<w.heap.size→¬X k):qbh w' lo G c:=by
 obtain⟨A0,c0,A2,n2,c2,A3,n3,c3,d,A5,n5,c5,h1,h2,h3,h4,h5,h6⟩:=h
 have up:∀ {A:Option Addr} {c:Nat} {xs:List Value},Rd w lo w.heap.size A c xs→Rd w' lo w'.heap.size A c xs:=fun hr=>(hr.out hb (qc _) hX).wide (qc _) hb.size
 refine⟨A0,c0,A2,n2,c2,A3,n3,c3,d,A5,n5,c5,h1.out hb (hX G h2 h1.lt),h2,up h3,fun hk => ?_,fun hk => ?_,fun hk => ?_⟩
 ·
  obtain⟨e1,ps,e2,e3,e4⟩:=h4 hk
  exact⟨e1,ps,e2,up e3,fun p hp=>up (e4 p hp)⟩
 ·
  obtain⟨e1,e2⟩:=h5 hk
  exact⟨e1,up e2⟩
 ·
  obtain⟨dg,ys,e1,e2,e3,e4,e5,e6⟩:=h6 hk
  exact⟨dg,ys,e1,e2.out hb (fun k h1 h2=>hX k (by omega) h2),e3,e4,up e5,e6⟩
theorem qbh.wide{w:World}{lo lo' G:Nat}{c:Chk}(h:qbh w lo G c)(hl:lo'≤lo):qbh w lo' G c:=by
 obtain⟨A0,c0,A2,n2,c2,A3,n3,c3,d,A5,n5,c5,h1,h2,h3,h4,h5,h6⟩:=h
 refine⟨A0,c0,A2,n2,c2,A3,n3,c3,d,A5,n5,c5,h1,by omega,h3.wide hl (qc _),fun hk => ?_,fun hk => ?_,fun hk => ?_⟩
 ·
  obtain⟨e1,ps,e2,e3,e4⟩:=h4 hk
  exact⟨e1,ps,e2,e3.wide hl (qc _),fun p hp=>(e4 p hp).wide hl (qc _)⟩
 ·
  obtain⟨e1,e2⟩:=h5 hk
  exact⟨e1,e2.wide hl (qc _)⟩
 ·
  obtain⟨dg,ys,e1,e2,e3,e4,e5,e6⟩:=h6 hk
  exact⟨dg,ys,e1,e2,e3,e4,e5.wide hl (qc _),by omega⟩
theorem qck.chk{w:World}{lo G:Nat}{c:Chk}{X:Nat→Prop}(h:qbh w lo G c)(hX:∀k,lo≤k→k<w.heap.size→¬X k):qck w X (fun W=>qbh W lo G c):=fun W hW=>h.out hW hX
structure It where
 c:ColS
 e:Fc
 g:Nat
structure ItM (w:World) (lo:Nat) (t:It):Prop where
 b:t.e.b=t.c.b
 gs:t.e.gs=t.c.gs
 rs:t.e.rs=t.c.rs
 list:Rd w lo w.heap.size t.e.gA t.e.gc (iv (jf t.e.gs))
 set:Rd w lo w.heap.size t.e.rA t.e.rc (lv t.e.rs)
 chk:qbh w lo t.g t.c.ck
theorem ItM.wide{w:World}{lo lo':Nat}{t:It}(h:ItM w lo t)(hl:lo'≤lo):ItM w lo' t:=⟨h.b,h.gs,h.rs,h.list.wide hl (qc _),h.set.wide hl (qc _),h.chk.wide hl⟩
theorem ItM.below{w w':World}{lo:Nat}{t:It}(h:ItM w lo t)(hb:Below w.heap.size w w'):ItM w' lo t :=
 ⟨h.b,h.gs,h.rs,(h.list.below hb (qc _)).wide (qc _) hb.size,(h.set.below hb (qc _)).wide (qc _) hb.size,h.chk.below hb⟩
def ptV(ps:List Nat):List Value:=ps.map fun g=> .pointer (some ⟨g,0,none⟩)
theorem ptV_snoc(ps:List Nat)(g:Nat):ptV (ps++[g])=ptV ps++[.pointer (some ⟨g,0,none⟩)]:=by simp[ptV]
structure Gr where
 rows:Nat
 its:List It
 fA:Option Addr
 fc:Nat
 kA:Option Addr
 kc:Nat
def Gr.toS(r:Gr):GrpS:=⟨r.rows,r.its.map It.c⟩
def qgq(r:Gr):List Value:=[.int .i64 (r.rows:Int),.slice r.fA r.its.length r.fc,.slice r.kA r.its.length r.kc]
def grs(rs:List Gr):List Value:=rs.flatMap qgq
theorem grs_snoc(rs:List Gr)(r:Gr):grs (rs++[r])=grs rs++qgq r:=by simp[grs]
theorem gr_one(r:Gr):∀u∈qgq r,u.oneCell'=true:=by
 intro u hu
 simp only[qgq,zv,vd,or_false] at hu
 rcases hu with rfl | rfl | rfl <;> rfl
structure GrM (w:World) (lo:Nat) (r:Gr):Prop where
 fil:Els w lo w.heap.size r.fA r.fc 3 r.its.length (fun j i=>(r.its[j]?).bind fun t=>(qec t.e)[i]?)
 chk:Els w lo w.heap.size r.kA r.kc 1 r.its.length (fun j i=>(r.its[j]?).bind fun t=>[Value.pointer (some ⟨t.g,0,none⟩)][i]?)
 its:∀t∈r.its,ItM w lo t
theorem GrM.below{w w':World}{lo:Nat}{r:Gr}(h:GrM w lo r)(hb:Below w.heap.size w w'):GrM w' lo r :=
 ⟨(h.fil.below hb (qc _)).wide (qc _) hb.size,(h.chk.below hb (qc _)).wide (qc _) hb.size,fun t ht=>(h.its t ht).below hb⟩
def qla(w:World)(lo G n:Nat)(gs:List GrpS):Prop:=∃(rs:List Gr) (A:Option Addr) (c:Nat),gs=rs.map Gr.toS∧j8 w G 117 #[.int .i64 (n:Int),.slice A rs.length c]∧lo≤G∧
 Els w lo w.heap.size A c 3 rs.length (fun j i=>(rs[j]?).bind fun r=>(qgq r)[i]?)∧∀r∈rs,GrM w lo r
theorem qla.below{w w':World}{lo G n:Nat}{gs:List GrpS}(h:qla w lo G n gs)(hb:Below w.heap.size w w'):qla w' lo G n gs:=by
 obtain⟨rs,A,c,h1,h2,h3,h4,h5⟩:=h
 exact⟨rs,A,c,h1,h2.below hb h2.lt,h3,(h4.below hb (qc _)).wide (qc _) hb.size,fun r hr=>(h5 r hr).below hb⟩
theorem els_own{α:Type}{w:World}{base k c:Nat}{A:Option Addr}{e:TypeId}(f:α→List Value)(hk:0<k)(hf:∀a,(f a).length=k){l:List α}(h:w.ownsRow base e k (.slice A l.length c) l.length (l.flatMap f)) :
  Els w base w.heap.size A c k l.length (fun j i=>(l[j]?).bind fun a=>(f a)[i]?):=by
 have hget:∀(l:List α) (j i:Nat),i<k→(l.flatMap f)[j*k+i]? = (l[j]?).bind fun a=>(f a)[i]?:=by
  intro l
  induction l with
  | nil=>intro j i hi;simp
  | cons a l ih =>
   intro j i hi
   rw[qco]
   match j with
   | 0 =>
    rw[Nat.zero_mul,yk,ju (by rw[hf];exact hi)]
    rfl
   | j+1 =>
    rw[yl (by rw[hf,Nat.succ_mul];omega),hf,show(j+1)*k+i-k=j*k+i by rw[Nat.succ_mul];omega]
    exact ih j i hi
 have hlen:∀l:List α,(l.flatMap f).length=l.length*k:=by
  intro l
  induction l with
  | nil=>simp
  | cons a l ih=>rw[qco,qd,hf,ih,qo,Nat.succ_mul];omega
 rcases h.2 with ⟨hv,h0⟩ | ⟨g,cap,cur,hv,hb,hg,hnc,hcm,hcs,htake⟩
 ·
  injection hv with e1 e2 e3
  subst e1 e3
  exact⟨by omega,by simp[maxLen],fun hp=>by omega⟩
 ·
  injection hv with e1 e2 e3
  subst e1 e3
  refine⟨hnc,hcm,fun _=>⟨g,0,rfl,hb,(xc.1 hg).1,fun j hj i hi => ?_⟩⟩
  have hlt:j*k+i<l.length*k:=by
   have:(j+1)*k≤l.length*k:=vf _ hj
   rw[Nat.succ_mul] at this
   omega
  have h5:cur.toList[j*k+i]? = (l.flatMap f)[j*k+i]?:=by rw[←htake,uo,if_pos hlt]
  rw[yk,cell_of_row w g (j*k+i) cur _ (0,0) hg,←Array.getElem?_toList,h5,hget l j i hi]
section
open Go.RowKit Go.Maps Go.WideMaps
structure Pt where
 b:List UInt8
 gs:List GrpS
def qeo(l:List Pt):List (List Vl):=(l.map fun p=>qd7 p.gs).flatten
def ui(l:List Pt):Nat:=(l.map fun p=>vi p.gs).sum
theorem qct(l:List Pt)(p:Pt):ui (l++[p])=ui l+vi p.gs:=by simp[ui]
theorem qh8(l:List Pt)(p:Pt):qeo (l++[p])=qeo l++qd7 p.gs:=by simp[qeo]
theorem totPt_take(l:List Pt)(i:Nat):ui (l.take i)≤ui l:=by
 have h:ui l=ui (l.take i)+ui (l.drop i):=by
  unfold ui
  rw[←qcj,←jg,zw]
 omega
structure TbOk (n:Nat) (l:List Pt):Prop where
 cols:1≤n∧n≤8
 read:∀p∈l,xo p.b n p.gs
 size:∀p∈l,p.b.length≤1000000000
 tot:ui l≤4096
def PtsM(w:World)(S:Nat→Prop)(G:Nat)(o:Option Nat)(xs:List Value)(l:List Pt):Prop :=
 xs.length=l.length∧∀j (hj:j<l.length),∃A c g,xs[j]? = some (.slice A l[j].b.length c)∧S g∧g≠G∧o≠some g∧g<w.heap.size∧Rd w g (g+1) A c (bv l[j].b)
structure TabM (w:World) (lo:Nat) (S:Nat→Prop) (G n:Nat) (l:List Pt):Prop where
 at_:∃A c xs,j8 w G 82 #[.int .i64 (n:Int),.int .i64 (ui l:Int),.slice A l.length c]∧w.ownsRow lo 36 1 (.slice A l.length c) l.length xs∧
  PtsM w S G (Value.slice A l.length c).ownBlock xs l∧∀k,(Value.slice A l.length c).ownBlock=some k→S k∧k≠G
 own:S G
 mine:∀k,S k→lo≤k∧k<w.heap.size
section
variable {w w':World}{lo G n:Nat}{S X:Nat→Prop}{l:List Pt}
theorem PtsM.out{o:Option Nat}{xs:List Value}(h:PtsM w S G o xs l)(ho:Out w w' X)(hX:∀k,S k→¬X k):PtsM w' S G o xs l:=by
 refine⟨h.1,fun j hj => ?_⟩
 obtain⟨A,c,g,h1,h2,h3,h4,h5,h6⟩:=h.2 j hj
 refine⟨A,c,g,h1,h2,h3,h4,zh h5 ho.size,h6.out ho (by omega) fun k h7 h8 => ?_⟩
 obtain rfl:k=g:=by omega
 exact hX k h2
theorem TabM.out(h:TabM w lo S G n l)(ho:Out w w' X)(hX:∀k,S k→¬X k):TabM w' lo S G n l:=by
 obtain⟨A,c,xs,h1,h2,h3,h4⟩:=h.at_
 exact⟨⟨A,c,xs,h1.out ho (hX G h.own),qaa h2 ho (fun k hk=>hX k (h4 k hk).1),h3.out ho hX,h4⟩,h.own,fun k hk=>⟨(h.mine k hk).1,zh (h.mine k hk).2 ho.size⟩⟩
theorem TabM.below(h:TabM w lo S G n l)(hb:Below w.heap.size w w'):TabM w' lo S G n l:=h.out (X:=fun _=>False) (Out.of_below hb) fun _ _ h=>h
theorem TabM.lt(h:TabM w lo S G n l):G<w.heap.size:=(h.mine G h.own).2
end
def ptE(v:Value):Option (DataW Unit×List MemPlace) :=
 match v with
 | .pointer (some ⟨g,0,none⟩)=>some (.lit (.int .i64 (g:Int)),[])
 | .pointer none=>some (.lit (.int .i64 (-1)),[])
 | _=>none
theorem ptE_inv{v:Value}{d:DataW Unit}{ps:List MemPlace}(h:ptE v=some (d,ps)):(∃g:Nat,v= .pointer (some ⟨g,0,none⟩)∧d= .lit (.int .i64 (g:Int)))∨(v= .pointer none∧d= .lit (.int .i64 (-1))):=by
 unfold ptE at h
 split at h
 ·
  injection h with h
  injection h with h1 h2
  exact .inl ⟨_,rfl,h1.symm⟩
 ·
  injection h with h
  injection h with h1 h2
  exact .inr ⟨rfl,h1.symm⟩
 ·
  cases h
theorem ptE_some{v:Value}{g:Nat}{ps:List MemPlace}(h:ptE v=some (.lit (.int .i64 (g:Int)),ps)):v= .pointer (some ⟨g,0,none⟩):=by
 rcases ptE_inv h with ⟨g',rfl,e⟩ | ⟨_,e⟩
 ·
  injection e with e
  injection e with _ e
  obtain rfl:g=g':=by omega
  rfl
 ·
  injection e with e
  injection e with _ e
  omega
theorem ptE_none{v:Value}{ps:List MemPlace}(h:ptE v=some (.lit (.int .i64 (-1)),ps)):v= .pointer none:=by
 rcases ptE_inv h with ⟨g',rfl,e⟩ | ⟨h,_⟩
 ·
  injection e with e
  injection e with _ e
  omega
 ·
  exact h
structure En where
 name:ByteArray
 g:Nat
 S:Nat→Prop
 cols:Nat
 pts:List Pt
def qeg(e:En):List UInt8:=e.name.data.toList
theorem key_inj{a b:ByteArray}(h:a.data.toList=b.data.toList):a=b:=ByteArray.ext (Array.toList_inj.1 h)
structure Dir (D:DataW Unit) (es:List En):Prop where
 has:∀x,Maps.has D (.string x)=decide (x∈es.map qeg)
 at_:∀e∈es,∀z,D.atKey (.string (qeg e)) z= .lit (.int .i64 (e.g:Int))
 size:Maps.size D=es.length
theorem Dir.nil:Dir (.map []) []:=⟨fun _=>rfl,fun e h=>(by cases h),rfl⟩
theorem Dir.put{D:DataW Unit}{es:List En}(h:Dir D es)(ht:Tidy D)(e:En)(hne:∀a∈es,a.name≠e.name):Dir (D.put (.string (qeg e)) (.lit (.int .i64 (e.g:Int)))) (es++[e]):=by
 have hk:WideAt.IsKeyLit (Lit.string (qeg e)):=trivial
 have hnk:∀a∈es,qeg a≠qeg e:=fun a ha he=>hne a ha (key_inj he)
 refine⟨fun x => ?_,fun a ha z => ?_,?_⟩
 ·
  by_cases hx:x=qeg e
  ·
   subst hx
   rw[has_put_same ht.isMap hk]
   simp
  ·
   rw[has_put_other (fun e=>hx (by injection e)),h.has x]
   simp[hx]
 ·
  rcases zn.1 ha with ha | ha
  ·
   rw[atKey_put_other (fun e=>hnk a ha (by injection e)),h.at_ a ha z]
  ·
   obtain rfl:=q8.1 ha
   rw[atKey_put_same ht.isMap hk]
 ·
  have hn:Maps.has D (.string (qeg e))=false:=by
   rw[h.has,decide_eq_false_iff_not]
   intro hm
   obtain⟨a,ha,he⟩:=za.1 hm
   exact hnk a ha he
  rw[size_put ht _,hn,h.size]
  simp
theorem qgz{α:Type}{l:List α}{k:Nat}(hk:k<l.length){a:α}:a∈l.eraseIdx k↔∃j,∃hj:j<l.length,j≠k∧l[j]=a:=by
 rw[List.mem_eraseIdx_iff_getElem]
theorem Dir.del{D:DataW Unit}{es:List En}(h:Dir D es)(ht:Tidy D){k:Nat}(hk:k<es.length)(hne:∀i j (hi:i<es.length) (hj:j<es.length),i≠j→es[i].name≠es[j].name):Dir (D.del (.string (qeg es[k]))) (es.eraseIdx k):=by
 have hnk:∀i (hi:i<es.length),i≠k→qeg es[i]≠qeg es[k]:=fun i hi hik he=>hne i k hi hk hik (key_inj he)
 refine⟨fun x => ?_,fun a ha z => ?_,?_⟩
 ·
  by_cases hx:x=qeg es[k]
  ·
   subst hx
   rw[has_del_same]
   symm
   rw[decide_eq_false_iff_not]
   intro hm
   obtain⟨a,ha,he⟩:=za.1 hm
   obtain⟨i,hi,hik,rfl⟩:=(qgz hk).1 ha
   exact hnk i hi hik he
  ·
   rw[has_del_other (fun e=>hx (by injection e)),h.has x]
   congr 1
   apply propext
   constructor
   ·
    intro hm
    obtain⟨a,ha,he⟩:=za.1 hm
    obtain⟨i,hi,rfl⟩:=zl ha
    exact za.2 ⟨es[i],(qgz hk).2 ⟨i,hi,fun e=>hx (by subst e;exact he.symm),rfl⟩,he⟩
   ·
    intro hm
    obtain⟨a,ha,he⟩:=za.1 hm
    obtain⟨i,hi,hik,rfl⟩:=(qgz hk).1 ha
    exact za.2 ⟨_,ql hi,he⟩
 ·
  obtain⟨i,hi,hik,rfl⟩:=(qgz hk).1 ha
  rw[atKey_del_other (fun e=>hnk i hi hik (by injection e)),h.at_ _ (ql hi) z]
 ·
  have hs:=size_del (k:= .string (qeg es[k])) ht
  have hh:Maps.has D (.string (qeg es[k]))=true:=by
   rw[h.has,decide_eq_true_iff]
   exact za.2 ⟨_,ql hk,rfl⟩
  rw[hh,h.size,if_pos rfl] at hs
  rw[List.length_eraseIdx_of_lt hk]
  omega
theorem Dir.same{D:DataW Unit}{es fs:List En}(h:Dir D es)(hn:fs.map qeg=es.map qeg)(hg:fs.map En.g=es.map En.g):Dir D fs:=by
 have hl:fs.length=es.length:=by simpa using congrArg List.length hn
 refine⟨fun x=>by rw[h.has,hn],fun a ha z => ?_,by rw[h.size,hl]⟩
 obtain⟨i,hi,rfl⟩:=zl ha
 have h1:qeg fs[i]=qeg es[i]:=by
  have:=List.getElem_of_eq hn (show i<(fs.map qeg).length by simpa using hi)
  simpa using this
 have h2:fs[i].g=(es[i]'(by omega)).g:=by
  have:=List.getElem_of_eq hg (show i<(fs.map En.g).length by simpa using hi)
  simpa using this
 rw[h1,h2,h.at_ _ (ql _) z]
theorem own_tight{P:Program}{k:TypeId}{R:Value→Option (DataW Unit×List MemPlace)}{w:World}{b n:Nat}{D:DataW Unit}(h:w.ownsMap P k R b n D):w.ownsMap P k R b (Maps.size D) D:=by
 obtain⟨es,clock,hb,F,hs,rfl⟩:=h
 exact⟨es,clock,hb,F,by simp[Maps.size,length_sorted],rfl⟩
theorem qmm{P:Program}{k:TypeId}{R:Value→Option (DataW Unit×List MemPlace)}{w w':World}{b n:Nat}{D:DataW Unit}{X:Nat→Prop}(h:w.ownsMap P k R b n D)(ho:Out w w' X)(hX:¬X b):w'.ownsMap P k R b n D:=by
 have hlt:=h.lt
 obtain⟨es,clock,hb,rest⟩:=h
 exact⟨es,clock,(ho.block b hlt hX).trans hb,rest⟩
theorem Tryz.keyS:Keyed Tryz.prog 9:=string_keyed Tryz.underlying9
def MapIs(w:World)(M:Nat→Prop)(C:Nat)(es:List En)(mb:Option Nat):Prop :=
 match mb with
 | none=>es=[]
 | some B=>M B∧B≠C∧(∀e∈es,¬e.S B)∧∃D,w.ownsMap Tryz.prog 9 ptE B es.length D∧Dir D es
structure CatE (w:World) (lo:Nat) (M:Nat→Prop) (C:Nat) (es:List En):Prop where
 tabs:∀e∈es,TabM w lo e.S e.g e.cols e.pts
 ok:∀e∈es,TbOk e.cols e.pts∧1≤e.name.size∧e.name.size≤32
 apart:∀i j (hi:i<es.length) (hj:j<es.length),i≠j→es[i].name≠es[j].name∧∀k,es[i].S k→¬es[j].S k
 sub:∀e∈es,∀k,e.S k→M k∧k≠C
 mine:∀k,M k→lo≤k∧k<w.heap.size
 own:M C
 few:es.length≤16
 map:∃mb,j8 w C 77 #[.map mb]∧MapIs w M C es mb
section
variable {w w':World}{lo C:Nat}{M X:Nat→Prop}{es:List En}
theorem MapIs.out{mb:Option Nat}(h:MapIs w M C es mb)(ho:Out w w' X)(hX:∀k,M k→¬X k):MapIs w' M C es mb:=by
 cases mb with
 | none=>exact h
 | some B =>
  obtain⟨h1,h2,h3,D,h4,h5⟩:=h
  exact⟨h1,h2,h3,D,qmm h4 ho (hX B h1),h5⟩
theorem CatE.out(h:CatE w lo M C es)(ho:Out w w' X)(hX:∀k,M k→¬X k):CatE w' lo M C es:=by
 obtain⟨mb,h1,h2⟩:=h.map
 exact⟨fun e he=>(h.tabs e he).out ho fun k hk=>hX k (h.sub e he k hk).1,h.ok,h.apart,h.sub,fun k hk=>⟨(h.mine k hk).1,zh (h.mine k hk).2 ho.size⟩,h.own,h.few,mb,h1.out ho (hX C h.own),h2.out ho hX⟩
theorem CatE.below(h:CatE w lo M C es)(hb:Below w.heap.size w w'):CatE w' lo M C es:=h.out (X:=fun _=>False) (Out.of_below hb) fun _ _ h=>h
theorem CatE.lt(h:CatE w lo M C es):C<w.heap.size:=(h.mine C h.own).2
theorem CatE.new(w:World):CatE (w.alloc (.cells #[.map none] 77)) w.heap.size (fun k=>k=w.heap.size) w.heap.size [] :=
 ⟨fun e h=>(by cases h),fun e h=>(by cases h),fun i j h=>absurd h (jm i),fun e h=>(by cases h),fun k hk=>by subst hk;simp,rfl,qj _,none,j8.new w _ _,rfl⟩
structure Step (w w':World) (M M':Nat→Prop):Prop where
 out:Out w w' M
 more:∀k,M' k→M k∨w.heap.size≤k
theorem Step.same(h:Out w w' M):Step w w' M M:=⟨h,fun _ h=> .inl h⟩
theorem Step.none(h:Below w.heap.size w w'):Step w w' M M:=⟨Out.of_below h,fun _ h=> .inl h⟩
theorem Step.trans{w2:World}{M' M2:Nat→Prop}(h:Step w w' M M')(k:Step w' w2 M' M2):Step w w2 M M2 :=
 ⟨h.out.trans k.out fun i hi hm=>(h.more i hm).elim id fun h=>by omega,fun i hi=>(k.more i hi).elim (h.more i) fun h2=> .inr (zc h.out.size h2)⟩
end
end
structure Tm where
 name:ByteArray
 cols:Int
 nr:Nat
 nb:Nat
 rA:Option Addr
 rc:Nat
 bA:Option Addr
 bc:Nat
def tmVals(e:Tm):List Value:=[.string e.name,.int .i64 e.cols,.slice e.rA e.nr e.rc,.slice e.bA e.nb e.bc]
def qkk(w:World)(lo hi:Nat)(A:Option Addr)(c:Nat)(es:List Tm):Prop:=Els w lo hi A c 4 es.length (fun j i=>(es[j]?).bind fun e=>(tmVals e)[i]?)
section
variable {w w':World}{lo hi lo' hi' c B:Nat}{A:Option Addr}{es:List Tm}
theorem qkk.below(h:qkk w lo hi A c es)(hb:Below B w w')(hB:hi≤B):qkk w' lo hi A c es:=Els.below h hb hB
theorem qkk.wide(h:qkk w lo hi A c es)(h1:lo'≤lo)(h2:hi≤hi'):qkk w lo' hi' A c es:=Els.wide h h1 h2
theorem qkk.len(h:qkk w lo hi A c es):es.length≤c∧c≤9223372036854775807:=⟨Els.len h,by have:=Els.cap h;simpa[maxLen] using this⟩
theorem qkk.get(h:qkk w lo hi A c es){j:Nat}(hj:j<es.length) :
  ∃b off,A=some ⟨b,off,none⟩∧lo≤b∧b<hi∧w.cell? ⟨b,off+j*4,none⟩=some (.string es[j].name)∧w.cell? ⟨b,off+j*4+1,none⟩=some (.int .i64 es[j].cols)∧
   w.cell? ⟨b,off+j*4+2,none⟩=some (.slice es[j].rA es[j].nr es[j].rc)∧w.cell? ⟨b,off+j*4+3,none⟩=some (.slice es[j].bA es[j].nb es[j].bc):=by
 obtain⟨b,off,e,h3,h4,h5⟩:=Els.lies h (by omega)
 have g:=fun i hi=>h5 j hj i hi
 simp only[qe hj,vc] at g
 exact⟨b,off,e,h3,h4,g 0 (by omega),g 1 (by omega),g 2 (by omega),g 3 (by omega)⟩
theorem qkk.nil(w:World)(lo hi:Nat):qkk w lo hi none 0 []:=Els.nil _ _ _ _ _
end
theorem qkk.cut{w:World}{lo hi c k m:Nat}{A:Option Addr}{es:List Tm}(h:qkk w lo hi A c es)(hk:k≤m)(hm:m≤es.length):qkk w lo hi (if c=k then A else A.map (·.add (k*4))) (c-k) ((es.drop k).take (m-k)):=by
 obtain⟨hl,hc⟩:=h.len
 have hlen:((es.drop k).take (m-k)).length=m-k:=by simp;omega
 refine⟨by rw[hlen];omega,by simp[maxLen];omega,fun hp => ?_⟩
 rw[hlen] at hp
 obtain⟨b,off,e,h3,h4,h5⟩:=Els.lies h (by omega)
 have hne:¬c=k:=by omega
 refine⟨b,off+k*4,by rw[if_neg hne,e];simp[Addr.add],h3,h4,fun j hj i hi => ?_⟩
 rw[hlen] at hj
 have:=h5 (k+j) (by omega) i hi
 rw[show off+k*4+j*4+i=off+(k+j)*4+i by omega,this,qa0 hj,List.getElem?_drop]
def qjp(w:World)(lo hi:Nat)(A:Option Addr)(c:Nat)(bs:List (List UInt8)):Prop :=
 ∃(bA:Nat→Option Addr) (bc:Nat→Nat),Els w lo hi A c 1 bs.length (fun j i=>(bs[j]?).bind fun b=>[Value.slice (bA j) b.length (bc j)][i]?)∧∀j (hj:j<bs.length),Rd w lo hi (bA j) (bc j) (bv bs[j])
section
variable {w w':World}{lo hi lo' hi' c B:Nat}{A:Option Addr}{bs:List (List UInt8)}
theorem qjp.below(h:qjp w lo hi A c bs)(hb:Below B w w')(hB:hi≤B):qjp w' lo hi A c bs:=by
 obtain⟨gA,gc,h1,h2⟩:=h
 exact⟨gA,gc,h1.below hb hB,fun j hj=>(h2 j hj).below hb hB⟩
theorem qjp.wide(h:qjp w lo hi A c bs)(h1:lo'≤lo)(h2:hi≤hi'):qjp w lo' hi' A c bs:=by
 obtain⟨gA,gc,h3,h4⟩:=h
 exact⟨gA,gc,h3.wide h1 h2,fun j hj=>(h4 j hj).wide h1 h2⟩
theorem qjp.len(h:qjp w lo hi A c bs):bs.length≤c∧c≤9223372036854775807:=by
 obtain⟨gA,gc,h1,h2⟩:=h
 exact⟨h1.len,by have:=h1.cap;simpa[maxLen] using this⟩
theorem qjp.get(h:qjp w lo hi A c bs){j:Nat}(hj:j<bs.length) :
  ∃b off A' c',A=some ⟨b,off,none⟩∧lo≤b∧b<hi∧w.cell? ⟨b,off+j,none⟩=some (.slice A' bs[j].length c')∧Rd w lo hi A' c' (bv bs[j]):=by
 obtain⟨gA,gc,h1,h2⟩:=h
 obtain⟨b,off,e,h3,h4,h5⟩:=h1.lies (by omega)
 have h6:=h5 j hj 0 (by omega)
 rw[qe hj,xl,y7] at h6
 exact⟨b,off,_,_,e,h3,h4,h6,h2 j hj⟩
end
theorem qjb{w:World}{base n m p:Nat}{A A2:Option Addr}{c c2 lo hi:Nat}{xs ys zs:List UInt8}(ho:w.ownsRow base 5 1 (.slice A n c) n (bv xs))(hx:xs.length=n)(hr:Rd w lo hi A2 c2 (bv ys))(hy:ys.length=m)(hz:xs++ys=zs)(hp:n+m=p)(hbig:p≤140737488355328)(hbase:base≤w.heap.size) :
  ∃A' c' w',(Builtin.append_ #[36,36] 36 #[.slice A n c,.slice A2 m c2]).run Tryz.prog w= .ok (.slice A' p c') w'∧w'.ownsRow base 5 1 (.slice A' p c') p (bv zs)∧Below base w w':=by
 subst hx hy hz hp
 obtain⟨A',c',w',h1,h2,h3⟩:=xm w base _ xs ys (xs++ys) rfl ho hr hbig hbase
 rw[qd] at h1 h2
 exact⟨A',c',w',h1,h2,(Below.refl _ w).grown h3 hbase fun g hg=>(zk ho hg).1⟩
def kh(raw:List (List UInt8)):List UInt8:=raw.flatMap fun b=>jc b.length++b
theorem flatB_take{raw:List (List UInt8)}{i:Nat}(hi:i<raw.length):kh (raw.take (i+1))=kh (raw.take i)++jc raw[i].length++raw[i]:=by
 unfold kh
 rw[qi hi,qbm]
 simp
theorem flatB_le(raw:List (List UInt8))(i:Nat):(kh (raw.take i)).length≤(kh raw).length:=by
 have h:kh raw=kh (raw.take i)++kh (raw.drop i):=by
  unfold kh
  rw[←qbm,zw]
 rw[h,qd]
 omega
def xf(n:Nat)(raw:List (List UInt8)):List UInt8:=jc n++jc raw.length++kh raw
theorem qgy(a:Nat):∀ {b:Nat} {x y:List UInt8},jc a++x=jc b++y→a=b∧x=y:=by
 induction a using Nat.strongRecOn with
 | ind a ih =>
  intro b x y h
  by_cases ha:a<128
  ·
   rw[k8 ha] at h
   by_cases hb:b<128
   ·
    rw[k8 hb] at h
    injection h with h1 h2
    have h3:=congrArg UInt8.toNat h1
    rw[yj,yj] at h3
    exact⟨by omega,h2⟩
   ·
    rw[qe6 (by omega)] at h
    injection h with h1 h2
    have h3:=congrArg UInt8.toNat h1
    rw[yj,yj] at h3
    omega
  ·
   rw[qe6 (by omega)] at h
   by_cases hb:b<128
   ·
    rw[k8 hb] at h
    injection h with h1 h2
    have h3:=congrArg UInt8.toNat h1
    rw[yj,yj] at h3
    omega
   ·
    rw[qe6 (n:=b) (by omega)] at h
    injection h with h1 h2
    have h3:=congrArg UInt8.toNat h1
    rw[yj,yj] at h3
    obtain⟨h4,h5⟩:=ih (a/128) (by omega) h2
    exact⟨by omega,h5⟩
theorem flat_pre:∀ {raw raw':List (List UInt8)} {x y:List UInt8},raw.length=raw'.length→kh raw++x=kh raw'++y→raw=raw'∧x=y
 | [],[],x,y,_,h=>⟨rfl,h⟩
 | [],_ :: _,_,_,h,_=>by simp at h
 | _ :: _,[],_,_,h,_=>by simp at h
 | a :: raw,b :: raw',x,y,hl,h=>by
  have e:∀(c:List UInt8) (r:List (List UInt8)),kh (c :: r)=jc c.length++(c++kh r):=fun c r=>by simp[kh]
  rw[e,e] at h
  simp only[qm] at h
  obtain⟨h1,h2⟩:=qgy _ h
  obtain⟨h3,h4⟩:=List.append_inj h2 h1
  obtain⟨h5,h6⟩:=flat_pre (by simpa using hl) h4
  exact⟨by rw[h3,h5],h6⟩
theorem export_one{n n':Nat}{raw raw':List (List UInt8)}(h:xf n raw=xf n' raw'):n=n'∧raw=raw':=by
 unfold xf at h
 simp only[qm] at h
 obtain⟨h1,h2⟩:=qgy _ h
 obtain⟨h3,h4⟩:=qgy _ h2
 obtain⟨h5,_⟩:=flat_pre (x:=[]) (y:=[]) h3 (by simpa using h4)
 exact⟨h1,h5⟩
end Go.Proofs.YtjfecojdagmacaaGreat
