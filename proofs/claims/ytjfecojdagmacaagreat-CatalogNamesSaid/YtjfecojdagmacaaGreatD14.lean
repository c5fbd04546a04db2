/-
  Lemmas.
-/
import Derived.Test.YtjfecojdagmacaaGreatD13
import Derived.Carry
import Derived.Deep.DeepCutAuto
import Derived.Great.BuildSlice
import Derived.Laws.ComplexArith
import Derived.Lib.AppendZeros
import Derived.Lib.OwnBridge
import Derived.Maps.AppendAt
import Derived.Maps.OwnOps
import Derived.Maps.Range
import Derived.Maps.RangeWalk
import Derived.Shelf.Bytes.SlJoin
import Derived.Shelf.SlSortCmp.NoneTotal
import Derived.Shelf.Slices.CompactS
import Derived.Shelf.Slices.In.SortNone
import Derived.Shelf.Sort.Plain
import Derived.Sort.OwnSorted
namespace Go.Proofs.YtjfecojdagmacaaGreat
open Go.RowKit
set_option maxRecDepth 20000
set_option maxHeartbeats 16000000
set_option linter.unusedSimpArgs false
set_option linter.unusedVariables false
theorem Tryz.infoVal:(Tryz.prog.info? 72).map (fun i=>(i.zero,i.size,i.bytes))=some (some (.agg #[.bool false,.string ⟨#[]⟩]),2,24):=by kernel_rfl
def vv(l:List Vl):List Value:=l.flatMap qct
theorem qd5:∀l:List Vl,(vv l).length=l.length*2
 | []=>rfl
 | v :: l=>by
  have:=qd5 l
  simp only[vv,qbu,qd,qw,qct,j4] at *
  omega
theorem qkl:∀(l:List Vl) (j i:Nat),i<2→(vv l)[j*2+i]? = (l[j]?).bind fun v=>(qct v)[i]?
 | [],j,i,hi=>by simp[vv]
 | v :: l,0,i,hi=>by
  match i,hi with
  | 0,_=>rfl
  | 1,_=>rfl
 | v :: l,j+1,i,hi=>by
  have:=qkl l j i hi
  rw[show(j+1)*2+i=j*2+i+1+1 by omega]
  simpa[vv,qct] using this
theorem row_own{w:World}{base n c:Nat}{A:Option Addr}{l:List Vl}(h:w.ownsRow base 72 2 (.slice A n c) n (vv l))(hn:l.length=n)(hs:∀v∈l,v.s.size≤9223372036854775807):Row w base w.heap.size A c l:=by
 subst hn
 refine⟨?_,hs⟩
 rcases h.2 with ⟨hv,h0⟩ | ⟨g,cap,cur,hv,hb,hg,hnc,hcm,hcs,htake⟩
 ·
  injection hv with e1 e2 e3
  subst e1 e3
  exact⟨by omega,by simp[maxLen],fun hp=>by omega⟩
 ·
  injection hv with e1 e2 e3
  subst e1 e3
  refine⟨hnc,hcm,fun _=>⟨g,0,rfl,hb,(xt.1 hg).1,fun j hj i hi => ?_⟩⟩
  have hlt:j*2+i<l.length*2:=by omega
  have h5:cur.toList[j*2+i]? = (vv l)[j*2+i]?:=by rw[←htake,uq,if_pos hlt]
  rw[yr,cell_of_row w g (j*2+i) cur _ (0,0) hg,←qd4,h5,qkl l j i hi]
def vq(w:World)(lo hi:Nat)(A:Option Addr)(c:Nat)(rs:List (List Vl)):Prop:=∃rA rc,Rows2 w lo hi A c rs rA rc
section
variable {w w':World}{lo hi lo' hi' c B:Nat}{A:Option Addr}{rs:List (List Vl)}
theorem vq.below(h:vq w lo hi A c rs)(hb:Below B w w')(hB:hi≤B):vq w' lo hi A c rs:=by
 obtain⟨rA,rc,h⟩:=h
 exact⟨rA,rc,h.below hb hB⟩
theorem vq.drewN(h:vq w lo hi A c rs)(m:Nat):vq (w.drewN m) lo hi A c rs:=by
 obtain⟨rA,rc,h⟩:=h
 exact⟨rA,rc,h.drewN m⟩
theorem vq.wide(h:vq w lo hi A c rs)(h1:lo'≤lo)(h2:hi≤hi'):vq w lo' hi' A c rs:=by
 obtain⟨rA,rc,h⟩:=h
 exact⟨rA,rc,h.wide h1 h2⟩
theorem vq.len(h:vq w lo hi A c rs):rs.length≤c∧c≤9223372036854775807:=by
 obtain⟨rA,rc,h⟩:=h
 exact h.len
theorem vq.get(h:vq w lo hi A c rs){j:Nat}(hj:j<rs.length) :
  ∃b off A' c',A=some ⟨b,off,none⟩∧lo≤b∧b<hi∧w.cell? ⟨b,off+j,none⟩=some (.slice A' rs[j].length c')∧Row w lo hi A' c' rs[j]:=by
 obtain⟨rA,rc,h⟩:=h
 obtain⟨b,off,h1,h2,h3,h4,h5⟩:=h.get hj
 exact⟨b,off,_,_,h1,h2,h3,h4,h5⟩
theorem vq.nil(w:World)(lo hi:Nat):vq w lo hi none 0 []:=⟨fun _=>none,fun _=>0,Els.nil _ _ _ _ _,fun j hj=>absurd hj (ja j)⟩
end
def qbg(w:World)(lo hi:Nat)(A:Option Addr)(c:Nat)(gs:List (List (List Vl))):Prop :=
 ∃(gA:Nat→Option Addr) (gc:Nat→Nat),Els w lo hi A c 1 gs.length (fun j i=>(gs[j]?).bind fun g=>[Value.slice (gA j) g.length (gc j)][i]?)∧∀j (hj:j<gs.length),vq w lo hi (gA j) (gc j) gs[j]
section
variable {w w':World}{lo hi lo' hi' c B:Nat}{A:Option Addr}{gs:List (List (List Vl))}
theorem qbg.below(h:qbg w lo hi A c gs)(hb:Below B w w')(hB:hi≤B):qbg w' lo hi A c gs:=by
 obtain⟨gA,gc,h1,h2⟩:=h
 exact⟨gA,gc,h1.below hb hB,fun j hj=>(h2 j hj).below hb hB⟩
theorem qbg.drewN(h:qbg w lo hi A c gs)(m:Nat):qbg (w.drewN m) lo hi A c gs:=by
 obtain⟨gA,gc,h1,h2⟩:=h
 exact⟨gA,gc,h1.keep fun _ _ _=>rfl,fun j hj=>(h2 j hj).drewN m⟩
theorem qbg.wide(h:qbg w lo hi A c gs)(h1:lo'≤lo)(h2:hi≤hi'):qbg w lo' hi' A c gs:=by
 obtain⟨gA,gc,h3,h4⟩:=h
 exact⟨gA,gc,h3.wide h1 h2,fun j hj=>(h4 j hj).wide h1 h2⟩
theorem qbg.len(h:qbg w lo hi A c gs):gs.length≤c∧c≤9223372036854775807:=by
 obtain⟨gA,gc,h1,h2⟩:=h
 exact⟨h1.len,by have:=h1.cap;simpa[maxLen] using this⟩
theorem qbg.get(h:qbg w lo hi A c gs){j:Nat}(hj:j<gs.length) :
  ∃b off A' c',A=some ⟨b,off,none⟩∧lo≤b∧b<hi∧w.cell? ⟨b,off+j,none⟩=some (.slice A' gs[j].length c')∧vq w lo hi A' c' gs[j]:=by
 obtain⟨gA,gc,h1,h2⟩:=h
 obtain⟨b,off,e,h3,h4,h5⟩:=h1.lies (by omega)
 have h6:=h5 j hj 0 (by omega)
 rw[qe hj,xp,xj] at h6
 exact⟨b,off,_,_,e,h3,h4,h6,h2 j hj⟩
end
def qcs(w:World)(lo hi:Nat)(A:Option Addr)(c:Nat)(os:List Co):Prop :=
 ∃(oA:Nat→Option Addr) (oc:Nat→Nat),Els w lo hi A c 4 os.length (fun j i=>(os[j]?).bind fun o=>[Value.int .i64 o.kind,.int .i64 o.block,.int .i64 o.rounds,.slice (oA j) o.draws.length (oc j)][i]?)∧
  ∀j (hj:j<os.length),Rd w lo hi (oA j) (oc j) (iv os[j].draws)∧qjq os[j].draws
section
variable {w w':World}{lo hi lo' hi' c B:Nat}{A:Option Addr}{os:List Co}
theorem qcs.below(h:qcs w lo hi A c os)(hb:Below B w w')(hB:hi≤B):qcs w' lo hi A c os:=by
 obtain⟨gA,gc,h1,h2⟩:=h
 exact⟨gA,gc,h1.below hb hB,fun j hj=>⟨(h2 j hj).1.below hb hB,(h2 j hj).2⟩⟩
theorem qcs.drewN(h:qcs w lo hi A c os)(m:Nat):qcs (w.drewN m) lo hi A c os:=by
 obtain⟨gA,gc,h1,h2⟩:=h
 exact⟨gA,gc,h1.keep fun _ _ _=>rfl,fun j hj=>⟨(h2 j hj).1.drewN m,(h2 j hj).2⟩⟩
theorem qcs.wide(h:qcs w lo hi A c os)(h1:lo'≤lo)(h2:hi≤hi'):qcs w lo' hi' A c os:=by
 obtain⟨gA,gc,h3,h4⟩:=h
 exact⟨gA,gc,h3.wide h1 h2,fun j hj=>⟨(h4 j hj).1.wide h1 h2,(h4 j hj).2⟩⟩
theorem qcs.len(h:qcs w lo hi A c os):os.length≤c∧c≤9223372036854775807:=by
 obtain⟨gA,gc,h1,h2⟩:=h
 exact⟨h1.len,by have:=h1.cap;simpa[maxLen] using this⟩
theorem qcs.get(h:qcs w lo hi A c os){j:Nat}(hj:j<os.length) :
  ∃b off A' c',A=some ⟨b,off,none⟩∧lo≤b∧b<hi∧w.cell? ⟨b,off+j*4,none⟩=some (.int .i64 os[j].kind)∧w.cell? ⟨b,off+j*4+1,none⟩=some (.int .i64 os[j].block)∧w.cell? ⟨b,off+j*4+2,none⟩=some (.int .i64 os[j].rounds)∧w.cell? ⟨b,off+j*4+3,none⟩=some (.slice A' os[j].draws.length c')∧
   Rd w lo hi A' c' (iv os[j].draws)∧qjq os[j].draws:=by
 obtain⟨gA,gc,h1,h2⟩:=h
 obtain⟨b,off,e,h3,h4,h5⟩:=h1.lies (by omega)
 have g:=fun i hi=>h5 j hj i hi
 simp only[qe hj,vb] at g
 exact⟨b,off,_,_,e,h3,h4,g 0 (by omega),g 1 (by omega),g 2 (by omega),g 3 (by omega),h2 j hj⟩
end
def vk(rs:List (List Vl))(k:Nat):List Vl:=rs.map fun r=>r.getD k ⟨true,⟨#[]⟩⟩
def qjr(n:Nat)(g:List (List Vl)):Prop:=0<g.length∧(∀r∈g,r.length=n)∧∀k,k<n→kr (vk g k)
instance (n:Nat) (g:List (List Vl)):Decidable (qjr n g):=by unfold qjr;infer_instance
def uf(gs:List (List (List Vl))):Nat:=(gs.map List.length).sum
def qa8(cols:Int)(gs:List (List (List Vl)))(os:List Co)(bits:Int):Prop :=
 1≤cols∧cols≤8∧(os.length:Int)=cols∧0≤bits∧bits≤65536∧(∀o∈os,qa2 o)∧uf gs≤4096∧∀g∈gs,qjr os.length g
instance (cols:Int) (gs:List (List (List Vl))) (os:List Co) (bits:Int):Decidable (qa8 cols gs os bits):=by unfold qa8;infer_instance
def qlo(u v:Value):Prop:=∀g,u.ownBlock=some g→v.ownBlock=some g→False
theorem qlo.symm{u v:Value}(h:qlo u v):qlo v u:=fun g h1 h2=>h g h2 h1
theorem qlo.keeps{u v:Value}(h:qlo u v):u.ownBlock=none∨u.ownBlock≠v.ownBlock:=by
 cases hu:u.ownBlock with
 | none=>exact .inl rfl
 | some g=>exact .inr fun e=>h g hu e.symm
structure Tri (w:World) (base:Nat) (u v t:Value) (xs ys zs:List Bool):Prop where
 o1:w.ownsRow base 4 1 u xs.length (lv xs)
 o2:w.ownsRow base 4 1 v ys.length (lv ys)
 o3:w.ownsRow base 4 1 t zs.length (lv zs)
 a12:qlo u v
 a13:qlo u t
 a23:qlo v t
theorem Tri.nil(w:World)(base:Nat):Tri w base (.slice none 0 0) (.slice none 0 0) (.slice none 0 0) [] [] [] :=
 ⟨zf ..,zf ..,zf ..,fun _ h=>(by cases h),fun _ h=>(by cases h),fun _ h=>(by cases h)⟩
theorem Tri.push{w w2:World}{base:Nat}{u v t u':Value}{xs ys zs xs':List Bool}(h:Tri w base u v t xs ys zs)(o:Obj)(h1:w2.ownsRow base 4 1 u' xs'.length (lv xs'))(hg:(w.alloc o).grownBy w2 u.ownBlock)
  (hb:u'.ownBlock=u.ownBlock∨u'.ownBlock=some (w.alloc o).heap.size):Tri w2 base u' v t xs' ys zs:=by
 have hs:(w.alloc o).heap.size=w.heap.size+1:=by simp
 have key:∀ {s:Value} {ls:List Bool},w.ownsRow base 4 1 s ls.length (lv ls)→qlo u s→qlo u' s:=by
  intro s ls ho ha g hg1 hg2
  rcases hb with e | e
  ·
   exact ha g (e ▸ hg1) hg2
  ·
   rw[e] at hg1
   have:=(ho.lt g hg2).2
   injection hg1 with hg1
   omega
 exact⟨h1,(h.o2.alloc o).kept hg h.a12.symm.keeps,(h.o3.alloc o).kept hg h.a13.symm.keeps,key h.o2 h.a12,key h.o3 h.a13,h.a23⟩
theorem qih(w:World)(base:Nat)(v:Value)(ys zs us:List Int)(hus:ys++zs=us)(hown:w.ownsRow base 3 1 v ys.length (iv ys)){lo h':Nat}{A:Option Addr}{c:Nat}(hr:Rd w lo h' A c (iv zs))
  (hb:ys.length+zs.length≤17592186044416) (hbase:base≤w.heap.size) :
  ∃A' c' w',(Builtin.append_ #[58,58] 58 #[v,.slice A zs.length c]).run Tryz.prog w= .ok (.slice A' us.length c') w'∧
   w'.ownsRow base 3 1 (.slice A' us.length c') us.length (iv us)∧w.grownBy w' v.ownBlock∧((Value.slice A' us.length c').ownBlock=v.ownBlock∨(Value.slice A' us.length c').ownBlock=some w.heap.size):=by
 subst hus
 obtain⟨i0,hi0,hz0,hz1,hz2⟩:=info_parts Tryz.infoI64
 have hl:=jz zs
 obtain⟨A',c',w',hrun,h2,h3,h4⟩:=vt (P:=Tryz.prog) w base 58 58 3 i0 _ 8 Tryz.underlying58 hi0 hz0 hz1 hz2 rfl v ys.length (iv ys) hown lo h' A c (iv zs) hr (iv_one _)
  (by rw[hl];simp only[maxLen];omega) (by rw[hl];omega) hbase
 rw[hl] at hrun h2 h4
 rw[qd]
 exact⟨A',c',w',hrun,by rw[iv_append];exact h2,h3,h4⟩
theorem vp(w:World)(base:Nat)(v:Value)(ys zs us:List UInt8)(hus:ys++zs=us)(hown:w.ownsRow base 5 1 v ys.length (bv ys)){lo h':Nat}{A:Option Addr}{c:Nat}(hr:Rd w lo h' A c (bv zs))
  (hb:ys.length+zs.length≤140737488355328) (hbase:base≤w.heap.size) :
  ∃A' c' w',(Builtin.append_ #[36,36] 36 #[v,.slice A zs.length c]).run Tryz.prog w= .ok (.slice A' us.length c') w'∧
   w'.ownsRow base 5 1 (.slice A' us.length c') us.length (bv us)∧w.grownBy w' v.ownBlock∧((Value.slice A' us.length c').ownBlock=v.ownBlock∨(Value.slice A' us.length c').ownBlock=some w.heap.size):=by
 subst hus
 obtain⟨i0,hi0,hz0,hz1,hz2⟩:=info_parts Tryz.infoU8
 have hl:=yf zs
 obtain⟨A',c',w',hrun,h2,h3,h4⟩:=vt (P:=Tryz.prog) w base 36 36 5 i0 _ 1 Tryz.underlying36 hi0 hz0 hz1 hz2 rfl v ys.length (bv ys) hown lo h' A c (bv zs) hr (bv_one _)
  (by rw[hl];simp only[maxLen];omega) (by rw[hl];omega) hbase
 rw[hl] at hrun h2 h4
 rw[qd]
 exact⟨A',c',w',hrun,by rw[qjl];exact h2,h3,h4⟩
structure SB (w:World) (lo hi:Nat) (u v:Value) (ss:List Nat) (bs:List UInt8):Prop where
 o1:w.ownsRow lo 3 1 u ss.length (iv (z8 ss))
 o2:w.ownsRow lo 5 1 v bs.length (bv bs)
 h1:∀g,u.ownBlock=some g→g<hi
 h2:∀g,v.ownBlock=some g→g<hi
 ap:∀g,u.ownBlock=some g→v.ownBlock=some g→False
section
variable {w w':World}{lo hi:Nat}{u v:Value}{ss:List Nat}{bs:List UInt8}
theorem SB.nil(w:World)(lo hi:Nat):SB w lo hi (.slice none 0 0) (.slice none 0 0) [] []:=⟨zf ..,zf ..,fun _ h=>(by cases h),fun _ h=>(by cases h),fun _ h=>(by cases h)⟩
theorem SB.top(h:SB w lo hi u v ss bs):SB w lo w.heap.size u v ss bs:=⟨h.o1,h.o2,fun g hg=>(zk h.o1 hg).2,fun g hg=>(zk h.o2 hg).2,h.ap⟩
theorem SB.drewN(h:SB w lo hi u v ss bs)(m:Nat):SB (w.drewN m) lo hi u v ss bs:=⟨jv h.o1 (fun _ _=>rfl),jv h.o2 (fun _ _=>rfl),h.h1,h.h2,h.ap⟩
theorem SB.below{B:Nat}(h:SB w lo hi u v ss bs)(hb:Below B w w')(hB:hi≤B):SB w' lo hi u v ss bs :=
 ⟨jv h.o1 (fun k hk=>hb.block k (by have:=h.h1 k hk;omega)),jv h.o2 (fun k hk=>hb.block k (by have:=h.h2 k hk;omega)),h.h1,h.h2,h.ap⟩
theorem SB.grown{row:Option Nat}(h:SB w lo hi u v ss bs)(hg:w.grownBy w' row)(hr:∀g,row=some g→hi≤g):SB w' lo hi u v ss bs :=
 ⟨jv h.o1 (fun k hk=>hg.block k (zk h.o1 hk).2 (fun e=>by have:=h.h1 k hk;have:=hr k e.symm;omega)),jv h.o2 (fun k hk=>hg.block k (zk h.o2 hk).2 (fun e=>by have:=h.h2 k hk;have:=hr k e.symm;omega)),h.h1,h.h2,h.ap⟩
theorem SB.push{A:Option Addr}{n c:Nat}(h:SB w lo hi (.slice A n c) v ss bs)(hn:n=ss.length)(hl:n≤1000000000)(hlo:lo≤w.heap.size) :
  ∃A' c' w',(Builtin.append_ #[58,58] 58 #[.slice A n c,.slice (some ⟨w.heap.size,0,none⟩) 1 1]).run Tryz.prog (w.alloc (.cells #[.int .i64 0] 3))= .ok (.slice A' (n+1) c') w'∧
   SB w' lo w'.heap.size (.slice A' (n+1) c') v (ss++[0]) bs∧Below lo w w':=by
 subst hn
 have hil:=zu ss
 have h1:(w.alloc (.cells #[.int .i64 0] 3)).ownsRow lo 3 1 (.slice A ss.length c) (z8 ss).length (iv (z8 ss)):=by rw[hil];exact h.o1.alloc _
 obtain⟨A',c',w',hrun,ho,hg,hb⟩:=qih (w.alloc (.cells #[.int .i64 0] 3)) lo (.slice A ss.length c) (z8 ss) [0] (z8 (ss++[0])) (by simp[z8]) h1 (rd_ints w 3 [0] #[.int .i64 0] rfl (by simp)) (by rw[hil];simp;omega) (by simp;omega)
 rw[zu,qd] at hrun ho hb
 have hv:v.ownBlock=none∨v.ownBlock≠(Value.slice A ss.length c).ownBlock:=by
  cases hx:v.ownBlock with
  | none=>exact Or.inl rfl
  | some g=>exact Or.inr fun e=>h.ap g e.symm hx
 have ho2:=(h.o2.alloc (.cells #[.int .i64 0] 3)).kept hg hv
 refine⟨A',c',w',hrun,⟨by rw[qd];exact ho,ho2,fun g hg2=>(zk ho hg2).2,fun g hg2=>(zk ho2 hg2).2,fun g hg2 hg3 => ?_⟩,((Below.refl lo w).alloc hlo _).grown hg (by simp;omega) (fun g hg2=>(zk h.o1 hg2).1)⟩
 rcases hb with e | e
 ·
  exact h.ap g (e.symm.trans hg2) hg3
 ·
  have h3:=(zk h.o2 hg3).2
  have h4:(Value.slice A' (ss.length+1) c').ownBlock=some g:=hg2
  have h5:some g=some (w.alloc (.cells #[.int .i64 0] 3)).heap.size:=h4.symm.trans e
  injection h5 with h5
  simp at h5
  omega
theorem SB.set{g n c:Nat}(h:SB w lo hi (.slice (some ⟨g,0,none⟩) n c) v ss bs)(hn:n=ss.length)(i x:Nat):SB (w.setCell ⟨g,i,none⟩ (.int .i64 (x:Int))) lo hi (.slice (some ⟨g,0,none⟩) n c) v (ss.set i x) bs:=by
 subst hn
 refine⟨?_,ownsRow_setCell_other h.o2 (fun e=>h.ap g rfl e) _,h.h1,h.h2,h.ap⟩
 have:=(h.o1.stored i (.int .i64 (x:Int))).1
 rw[jn]
 have e:iv (z8 (ss.set i x))=(iv (z8 ss)).set i (.int .i64 (x:Int)):=by simp[iv,z8,List.map_set]
 rw[e]
 exact this
theorem SB.more{A B:Option Addr}{n c k d lo2 hi2:Nat}{news all:List UInt8}(h:SB w lo hi u (.slice A n c) ss bs)(hn:n=bs.length)(hk:k=news.length)(ha:bs++news=all)(hr:Rd w lo2 hi2 B d (bv news))(hl:n+k≤140737488355328)(hlo:lo≤w.heap.size) :
  ∃A' c' w',(Builtin.append_ #[36,36] 36 #[.slice A n c,.slice B k d]).run Tryz.prog w= .ok (.slice A' (n+k) c') w'∧SB w' lo w'.heap.size u (.slice A' (n+k) c') ss all∧Below lo w w':=by
 subst hn hk
 obtain⟨A',c',w',hrun,ho,hg,hb⟩:=vp w lo (.slice A bs.length c) bs news all ha h.o2 hr hl hlo
 have hal:all.length=bs.length+news.length:=by rw[←ha,qd]
 rw[hal] at hrun ho hb
 have hu:u.ownBlock=none∨u.ownBlock≠(Value.slice A bs.length c).ownBlock:=by
  cases hx:u.ownBlock with
  | none=>exact Or.inl rfl
  | some g=>exact Or.inr fun e=>h.ap g hx e.symm
 have ho1:=h.o1.kept hg hu
 refine⟨A',c',w',hrun,⟨ho1,by rw[hal];exact ho,fun g hg2=>(zk ho1 hg2).2,fun g hg2=>(zk ho hg2).2,fun g hg2 hg3 => ?_⟩,(Below.refl lo w).grown hg hlo (fun g hg2=>(zk h.o2 hg2).1)⟩
 rcases hb with e | e
 ·
  exact h.ap g hg2 (e.symm.trans hg3)
 ·
  have h3:=(zk h.o1 hg2).2
  have h5:some g=some w.heap.size:=hg3.symm.trans e
  injection h5 with h5
  omega
end
section
open Go.RowKit Go.Shelf
attribute [local go_sem] Oper.semAt_some
structure Ck (K n:Nat) where
 i:Nat
 h:i*K<n
end
section
open Go.RowKit Go.Shelf
section
variable {w w':World}{lo:Nat}{u v:Value}{ss:List Nat}{bs:List UInt8}
theorem SB.keptG{row:Option Nat}(h:SB w lo w.heap.size u v ss bs)(hg:w.grownBy w' row)(hr:∀r,row=some r→∃o:Obj,w.heap[r]? = some o∧o.isCells=false):SB w' lo w'.heap.size u v ss bs:=by
 have h1:=row_keep h.o1 hg hr
 have h2:=row_keep h.o2 hg hr
 exact⟨h1,h2,fun g hg2=>(zk h1 hg2).2,fun g hg2=>(zk h2 hg2).2,h.ap⟩
end
end
section
open Go.RowKit Go.Shelf
attribute [local go_sem] Oper.semAt_some
def BI(b6 b7 lo:Nat)(S:List Nat)(E:List UInt8)(W:World):Prop :=
 ∃As cs Aa ca,Boxed W b6 58 (.slice As S.length cs)∧Boxed W b7 36 (.slice Aa E.length ca)∧SB W lo W.heap.size (.slice As S.length cs) (.slice Aa E.length ca) S E
theorem BI.own(b6 b7 lo:Nat){α:Type}(S:α→List Nat)(E:α→List UInt8):Own (fun s=>BI b6 b7 lo (S s) (E s)):=fun s X Y row h hg hr=>by
 obtain⟨As,cs,Aa,ca,h6,h7,hsb⟩:=h
 exact⟨As,cs,Aa,ca,qck h6 hg hr,qck h7 hg hr,hsb.keptG hg hr⟩
end
structure Tw (w:World) (base:Nat) (t1 t2:TypeId) (u v:Value) (n m:Nat) (xs ys:List Value):Prop where
 o1:w.ownsRow base t1 1 u n xs
 o2:w.ownsRow base t2 1 v m ys
 ap:qlo u v
section
variable {w w':World}{base n m n' m':Nat}{t1 t2:TypeId}{u v u' v':Value}{xs ys xs' ys':List Value}
theorem Tw.nil(w:World)(base:Nat)(t1 t2:TypeId):Tw w base t1 t2 (.slice none 0 0) (.slice none 0 0) 0 0 [] []:=⟨zf ..,zf ..,fun _ h=>(by cases h)⟩
theorem Tw.below(h:Tw w base t1 t2 u v n m xs ys)(hb:Below w.heap.size w w'):Tw w' base t1 t2 u v n m xs ys:=⟨jp h.o1 hb (qc _),jp h.o2 hb (qc _),h.ap⟩
theorem Tw.alloc(h:Tw w base t1 t2 u v n m xs ys)(o:Obj):Tw (w.alloc o) base t1 t2 u v n m xs ys:=⟨h.o1.alloc o,h.o2.alloc o,h.ap⟩
theorem Tw.symm(h:Tw w base t1 t2 u v n m xs ys):Tw w base t2 t1 v u m n ys xs:=⟨h.o2,h.o1,h.ap.symm⟩
end
def qfn(w:World)(lo hi:Nat)(xs:List Value)(rs:List (List Vl)):Prop:=xs.length=rs.length∧∀j (hj:j<rs.length),∃A c,xs[j]? = some (.slice A rs[j].length c)∧Row w lo hi A c rs[j]
theorem qfn.below{w w':World}{lo hi B:Nat}{xs:List Value}{rs:List (List Vl)}(h:qfn w lo hi xs rs)(hb:Below B w w')(hB:hi≤B):qfn w' lo hi xs rs:=⟨h.1,fun j hj=>by
 obtain⟨A,c,h1,h2⟩:=h.2 j hj
 exact⟨A,c,h1,h2.below hb hB⟩⟩
theorem qfn.append{w:World}{lo hi:Nat}{xs ys:List Value}{rs ts:List (List Vl)}(h:qfn w lo hi xs rs)(k:qfn w lo hi ys ts):qfn w lo hi (xs++ys) (rs++ts):=by
 refine⟨by rw[qd,qd,h.1,k.1],fun j hj => ?_⟩
 by_cases hlt:j<rs.length
 ·
  rw[xa (by rw[h.1];exact hlt)]
  simp only[xh hlt]
  exact h.2 j hlt
 ·
  rw[qd] at hj
  rw[xr (by rw[h.1];omega),h.1]
  simp only[vl (show rs.length≤j by omega)]
  exact k.2 (j-rs.length) (by omega)
theorem qfn.one{w:World}{lo hi:Nat}{xs:List Value}{rs:List (List Vl)}(h:qfn w lo hi xs rs):∀u∈xs,u.oneCell'=true:=by
 intro u hu
 obtain⟨j,hj,rfl⟩:=zc hu
 obtain⟨A,c,h1,_⟩:=h.2 j (by rw[←h.1];exact hj)
 rw[qe hj] at h1
 rw[zr h1]
 rfl
theorem vq.cells{w:World}{lo hi c:Nat}{A:Option Addr}{rs:List (List Vl)}(h:vq w lo hi A c rs):∃xs,Rd w lo hi A c xs∧qfn w lo hi xs rs:=by
 obtain⟨rA,rc,h1,h2⟩:=h
 obtain⟨xs,hx,hxs⟩:=qfp (n:=rs.length) (Q:=fun j x=>x=Value.slice (rA j) ((rs[j]?).getD []).length (rc j)) fun j hj=>⟨_,rfl⟩
 refine⟨xs,⟨by rw[hx];exact h1.len,h1.cap,fun hp => ?_⟩,hx,fun j hj=>⟨rA j,rc j,?_,h2 j hj⟩⟩
 ·
  obtain⟨b,off,e,h3,h4,h5⟩:=h1.lies (by omega)
  refine⟨b,off,e,h3,h4,fun j u hu => ?_⟩
  have hj:j<xs.length:=(zw.1 hu).1
  have h6:=h5 j (by omega) 0 (by omega)
  rw[xp,xj,qe (by omega)] at h6
  rw[qe hj,hxs j hj,qe (by omega)] at hu
  rw[h6,←zr hu]
  rfl
 ·
  rw[qe (by omega),hxs j (by omega),qe hj]
  rfl
theorem qfn.rows{w:World}{lo hi c:Nat}{A:Option Addr}{xs:List Value}{rs:List (List Vl)}(h:qfn w lo hi xs rs)(hr:Rd w lo hi A c xs):vq w lo hi A c rs:=by
 obtain⟨ps,hp,hps⟩:=qfp (n:=rs.length) (Q:=fun j (q:Option Addr×Nat)=>∀hj:j<rs.length,xs[j]? = some (.slice q.1 rs[j].length q.2)∧Row w lo hi q.1 q.2 rs[j]) fun j hj=>by
  obtain⟨A',c',h1,h2⟩:=h.2 j hj
  exact⟨(A',c'),fun _=>⟨h1,h2⟩⟩
 refine⟨fun j=>(ps[j]?).bind (·.1),fun j=>((ps[j]?).map (·.2)).getD 0,⟨by rw[←h.1];exact hr.len,hr.cap,fun hq => ?_⟩,fun j hj => ?_⟩
 ·
  obtain⟨b,off,e,h3,h4,h5⟩:=hr.at_ (by rw[h.1];exact hq)
  refine⟨b,off,e,h3,h4,fun j hj i hi => ?_⟩
  have hi0:i=0:=by omega
  subst hi0
  have h6:=(hps j (by omega) hj).1
  have h7:=h5 j _ h6
  rw[xp,xj,h7]
  simp[qe hj,qe (show j<ps.length by omega)]
 ·
  have h6:=(hps j (by omega) hj).2
  simpa[qe (show j<ps.length by omega)] using h6
theorem Tryz.infoRow:(Tryz.prog.info? 73).map (fun i=>(i.zero,i.size,i.bytes))=some (some (.slice none 0 0),1,24):=by kernel_rfl
def qgh(L:List Vl):Nat:=(L.map (·.s.size)).sum
def qhj(g:List (List Vl)):Nat:=(g.map qgh).sum
def qiy(gs:List (List (List Vl))):Nat:=(gs.map qhj).sum
structure FewSg (gs:List (List (List Vl))) (os:List Co):Prop where
 groups:gs.length≤40
 cods:os.length≤12
 rows:uf gs≤60
 bytes:qiy gs≤3000
 cols:∀g∈gs,∀r∈g,r.length≤9
 draws:∀o∈os,o.draws.length≤60
def qgg(gs:List (List (List Vl)))(os:List Co)(r:Ending):Prop:=∃b,r= .returned (.bool b)∧(b=true→FewSg gs os)
theorem qgg.no(gs:List (List (List Vl)))(os:List Co):qgg gs os (.returned (.bool false)):=⟨false,rfl,fun h=>by cases h⟩
section
set_option maxRecDepth 100000
def ren1:Go.Shelf.Ren:=⟨fun | 125=>101 | 128=>145 | 129=>146 | 190=>72 | 194=>209 | 258=>100 | 302=>136 | 303=>137 | 304=>138 | 305=>139 | 306=>140 | 307=>141 | 308=>142 | 309=>143 | 310=>144 | 316=>219 | 329=>172 | 330=>173 | 333=>171 | 334=>174 | 335=>175 | 336=>176 | 344=>202 | n=>n,fun | 0=>0 | 3=>3 | 4=>4 | 5=>5 | 9=>9 | 31=>52 | 37=>36 | 46=>119 | 51=>102 | 53=>206 | 127=>273 | 131=>202 | 182=>196 | 183=>197 | 218=>227 | 222=>231 | 228=>250 | 229=>154 | n=>n,fun n=>n⟩
theorem lays190:Go.Proofs.Lays.n190 Tryz.prog ren1:={
 mixed:=by kernel_rfl
 f125:=Tryz.func101.trans (congrArg some (by kernel_rfl))
 f128:=Tryz.func145.trans (congrArg some (by kernel_rfl))
 f129:=Tryz.func146.trans (congrArg some (by kernel_rfl))
 f190:=Tryz.func72.trans (congrArg some (by kernel_rfl))
 f258:=Tryz.func100.trans (congrArg some (by kernel_rfl))
 f302:=Tryz.func136.trans (congrArg some (by kernel_rfl))
 f303:=Tryz.func137.trans (congrArg some (by kernel_rfl))
 f304:=Tryz.func138.trans (congrArg some (by kernel_rfl))
 f305:=Tryz.func139.trans (congrArg some (by kernel_rfl))
 f306:=Tryz.func140.trans (congrArg some (by kernel_rfl))
 f307:=Tryz.func141.trans (congrArg some (by kernel_rfl))
 f308:=Tryz.func142.trans (congrArg some (by kernel_rfl))
 f309:=Tryz.func143.trans (congrArg some (by kernel_rfl))
 f310:=Tryz.func144.trans (congrArg some (by kernel_rfl))
 f329:=Tryz.func172.trans (congrArg some (by kernel_rfl))
 f330:=Tryz.func173.trans (congrArg some (by kernel_rfl))
 f333:=Tryz.func171.trans (congrArg some (by kernel_rfl))
 f334:=Tryz.func174.trans (congrArg some (by kernel_rfl))
 f335:=Tryz.func175.trans (congrArg some (by kernel_rfl))
 f336:=Tryz.func176.trans (congrArg some (by kernel_rfl))
 f344:=Tryz.func202.trans (congrArg some (by kernel_rfl))
 t0:=Tryz.underlying0
 a0:=Tryz.isAgg0
 z0:=Tryz.sizeOf0
 v0:=Tryz.zeroValue0
 t3:=Tryz.underlying3
 a3:=Tryz.isAgg3
 z3:=Tryz.sizeOf3
 v3:=Tryz.zeroValue3
 t4:=Tryz.underlying4
 a4:=Tryz.isAgg4
 z4:=Tryz.sizeOf4
 v4:=Tryz.zeroValue4
 t5:=Tryz.underlying5
 a5:=Tryz.isAgg5
 z5:=Tryz.sizeOf5
 v5:=Tryz.zeroValue5
 t9:=Tryz.underlying9
 a9:=Tryz.isAgg9
 z9:=Tryz.sizeOf9
 v9:=Tryz.zeroValue9
 t31:=Tryz.underlying52
 a31:=Tryz.isAgg52
 z31:=Tryz.sizeOf52
 v31:=Tryz.zeroValue52
 t46:=Tryz.underlying119
 a46:=Tryz.isAgg119
 z46:=Tryz.sizeOf119
 v46:=Tryz.zeroValue119
 t51:=Tryz.underlying102
 a51:=Tryz.isAgg102
 z51:=Tryz.sizeOf102
 v51:=Tryz.zeroValue102
 t53:=Tryz.underlying206
 a53:=Tryz.isAgg206
 z53:=Tryz.sizeOf206
 v53:=Tryz.zeroValue206
 t131:=Tryz.underlying202
 a131:=Tryz.isAgg202
 z131:=Tryz.sizeOf202
 v131:=Tryz.zeroValue202
 t182:=Tryz.underlying196
 a182:=Tryz.isAgg196
 z182:=Tryz.sizeOf196
 v182:=Tryz.zeroValue196
 t183:=Tryz.underlying197
 a183:=Tryz.isAgg197
 z183:=Tryz.sizeOf197
 v183:=Tryz.zeroValue197
 t218:=Tryz.underlying227
 a218:=Tryz.isAgg227
 z218:=Tryz.sizeOf227
 v218:=Tryz.zeroValue227
 t222:=Tryz.underlying231
 a222:=Tryz.isAgg231
 z222:=Tryz.sizeOf231
 v222:=Tryz.zeroValue231
 t228:=Tryz.underlying250
 a228:=Tryz.isAgg250
 z228:=Tryz.sizeOf250
 v228:=Tryz.zeroValue250
 t229:=Tryz.underlying154
 a229:=Tryz.isAgg154
 z229:=Tryz.sizeOf154
 v229:=Tryz.zeroValue154 }
end
section
open Go.RowKit Go.Sort Go.Shelf
theorem sv_enc(zs:List (List UInt8)):sv (yj zs)=zs.map encStr:=by
 unfold sv yj
 rw[qac]
 rfl
end
theorem qik{t:List (List UInt8)}(h:xc t=true):t.Nodup:=by
 rw[List.Nodup,ui]
 intro i j hi hj hij e
 have:=qh5 h hij hj
 rw[e] at this
 exact qez this
theorem qaj.len{l t:List (List UInt8)}(h:qaj l t):t.length≤l.length:=(qik h.1).length_le_of_subset fun x hx=>(h.2 x).1 hx
theorem qaj.dic{l t:List (List UInt8)}(h:qaj l t)(hl:l.length≤4096)(h4:∀x∈l,x.length≤4096):qle t=true :=
 qdl.2 ⟨zb h.len hl,fun x hx=>h4 x ((h.2 x).1 hx),h.1⟩
section
open Go.Maps
def zi(c:Int):DataW Unit:= .lit (.int .i64 c)
structure Bag (D:DataW Unit) (P:List (List UInt8)):Prop where
 map:IsMap D
 at_:∀x,D.atKey (.string x) (zi 0)=zi (P.count x:Nat)
 has:∀x,Maps.has D (.string x)=decide (x∈P)
theorem Bag.nil:Bag (.map []) []:=⟨isMap_empty,fun _=>rfl,fun _=>rfl⟩
theorem Bag.count{D:DataW Unit}{P:List (List UInt8)}(h:Bag D P){x:List UInt8}{c:Int}(hc:D.atKey (.string x) (.lit (.int .i64 0))= .lit (.int .i64 c)):c=(P.count x:Nat):=by
 have:=(h.at_ x).symm.trans hc
 simp only[zi] at this
 injection this with this
 injection this with _ this
 exact this.symm
theorem Bag.put{D:DataW Unit}{P:List (List UInt8)}(h:Bag D P)(x:List UInt8):Bag (D.put (.string x) (.lit (.int .i64 ((P.count x:Nat)+1)))) (P++[x]):=by
 have hne:∀y,y≠x→(Lit.string y)≠Lit.string x:=fun y hy e=>hy (by injection e)
 refine⟨h.map.put _ _,fun y => ?_,fun y => ?_⟩
 ·
  by_cases hy:y=x
  ·
   subst hy
   rw[atKey_put_same h.map (show WideAt.IsKeyLit (Lit.string y) from trivial)]
   unfold zi
   congr 2
   simp
  ·
   rw[atKey_put_other (hne y hy),h.at_ y]
   unfold zi
   congr 2
   rw[List.count_append,List.count_singleton]
   have:(x==y)=false:=q9.2 (fun e=>hy e.symm)
   rw[this]
   simp
 ·
  by_cases hy:y=x
  ·
   subst hy
   rw[has_put_same h.map (show WideAt.IsKeyLit (Lit.string y) from trivial)]
   simp
  ·
   rw[has_put_other (hne y hy),h.has y]
   simp[hy]
end
section
open Go.RowKit Go.Maps Go.WideMaps
def qnn(w:World)(B n:Nat)(D:DataW Unit):Prop:=w.ownsMap Tryz.prog 9 (plainElem Tryz.prog 3) B n D
theorem qnn.out{w w':World}{B n:Nat}{D:DataW Unit}{X:Nat→Prop}(h:qnn w B n D)(ho:Out w w' X)(hB:¬X B):qnn w' B n D:=by
 have hlt:=h.lt
 obtain⟨es,clock,hb,rest⟩:=h
 exact⟨es,clock,(ho.block B hlt hB).trans hb,rest⟩
end
def cmpIn(x y:Int):Int:=if x<y then -1 else if y<x then 1 else 0
def or2(x y:Int):Int:=if x=0 then y else x
def gv(x:ByteArray×Int):List Value:=[.string x.1,.int .i64 x.2]
def qe1(x y:ByteArray×Int):Int:=or2 (cmpIn y.2 x.2) (yl x.1.data.toList y.1.data.toList)
section
open Go.Sort
theorem ltA(x y:ByteArray×Int):ltOf qe1 x y=true↔(y.2<x.2∨(x.2=y.2∧yl x.1.data.toList y.1.data.toList<0)):=by
 unfold ltOf qe1 or2 cmpIn
 rw[decide_eq_true_iff]
 by_cases h1:y.2<x.2
 ·
  rw[if_pos h1,if_neg (by omega)]
  constructor
  ·
   intro _;exact Or.inl h1
  ·
   intro _;omega
 ·
  rw[if_neg h1]
  by_cases h2:x.2<y.2
  ·
   rw[if_pos h2,if_neg (by omega)]
   constructor
   ·
    intro h;omega
   ·
    rintro(h | ⟨h,_⟩) <;> omega
  ·
   rw[if_neg h2,if_pos rfl]
   constructor
   ·
    intro h;exact Or.inr ⟨by omega,h⟩
   ·
    rintro(h | ⟨_,h⟩)
    ·
     omega
    ·
     exact h
theorem ltA_not(x y:ByteArray×Int):ltOf qe1 x y=false↔(x.2<y.2∨(x.2=y.2∧yl y.1.data.toList x.1.data.toList≤0)):=by
 rw[←Bool.not_eq_true,ltA]
 have:=qcb x.1.data.toList y.1.data.toList
 omega
theorem ltA_swo:SWO (ltOf qe1) where
 irrefl x:=by rw[ltA_not,qcy];omega
 trans x y z h1 h2:=by
  rw[ltA] at *
  rcases h1 with h1 | ⟨h1,k1⟩
  ·
   rcases h2 with h2 | ⟨h2,k2⟩ <;> exact Or.inl (by omega)
  ·
   rcases h2 with h2 | ⟨h2,k2⟩
   ·
    exact Or.inl (by omega)
   ·
    exact Or.inr ⟨by omega,um k1 k2⟩
 ntrans x y z h1 h2:=by
  rw[ltA_not] at *
  rcases h1 with h1 | ⟨h1,k1⟩
  ·
   rcases h2 with h2 | ⟨h2,k2⟩ <;> exact Or.inl (by omega)
  ·
   rcases h2 with h2 | ⟨h2,k2⟩
   ·
    exact Or.inl (by omega)
   ·
    exact Or.inr ⟨by omega,qgy k2 k1⟩
theorem ltA_one(x y:ByteArray×Int)(h1:ltOf qe1 x y=false)(h2:ltOf qe1 y x=false):x=y:=by
 rw[ltA_not] at h1 h2
 have:=qcb x.1.data.toList y.1.data.toList
 have e1:x.2=y.2:=by omega
 have e2:x.1.data.toList=y.1.data.toList:=qbq (by omega)
 rcases x with ⟨⟨⟨a⟩⟩,g⟩
 rcases y with ⟨⟨⟨b⟩⟩,k⟩
 simp only[] at e1 e2
 rw[e1,e2]
def qgk(es:List (ByteArray×Int)):List (ByteArray×Int):=es.mergeSort fun x y => !(ltOf qe1) y x
theorem rank_perm(es:List (ByteArray×Int)):(qgk es).Perm es:=List.mergeSort_perm _ _
theorem rank_sorted(es:List (ByteArray×Int)):(qgk es).Pairwise fun x y=>ltOf qe1 y x=false:=by
 have:=qff (le:=fun x y:ByteArray×Int => !(ltOf qe1) y x) (fun a b c h1 h2=>by
  simp only[Bool.not_eq_true'] at *
  exact ltA_swo.ntrans _ _ _ h2 h1) (fun a b=>by
  cases h:ltOf qe1 b a
  ·
   rfl
  ·
   cases h2:ltOf qe1 a b
   ·
    rfl
   ·
    have:=ltA_swo.trans _ _ _ h h2
    rw[ltA_swo.irrefl] at this
    cases this) es
 exact this.imp fun h=>by simpa using h
def keyA(e:ByteArray×Int):List UInt8:=e.1.data.toList
structure Coll (P:List (List UInt8)) (left:List UInt8→Bool) (es:List (ByteArray×Int)):Prop where
 once:(es.map keyA).Nodup
 mem:∀x,x∈es.map keyA↔(x∈P∧left x=false)
 gain:∀e∈es,e.2=(qmo P (keyA e):Nat)
theorem Coll.few{P:List (List UInt8)}{left:List UInt8→Bool}{es:List (ByteArray×Int)}(h:Coll P left es):es.length≤P.length:=by
 have:=h.once.length_le_of_subset (l₂:=P) fun x hx=>((h.mem x).1 hx).1
 rwa [q8] at this
theorem Coll.nil{P:List (List UInt8)}{left:List UInt8→Bool}(h:∀x∈P,left x=true):Coll P left [] :=
 ⟨List.nodup_nil,fun x=>⟨fun hx=>(by cases hx),fun⟨h1,h2⟩=>(by rw[h x h1] at h2;cases h2)⟩,fun e he=>(by cases he)⟩
theorem Coll.snoc{P:List (List UInt8)}{left:List UInt8→Bool}{es:List (ByteArray×Int)}(h:Coll P left es){e:ByteArray×Int}(hp:keyA e∈P)(hl:left (keyA e)=true)(hg:e.2=(qmo P (keyA e):Nat)){left':List UInt8→Bool}
  (hl':∀x,left' x=(left x && !decide (x=keyA e))):Coll P left' (es++[e]):=by
 have hne:keyA e∉es.map keyA:=fun hx=>by
  have:=((h.mem _).1 hx).2
  rw[hl] at this
  cases this
 refine⟨?_,fun x => ?_,fun f hf => ?_⟩
 ·
  rw[jl,List.nodup_append]
  refine⟨h.once,by simp,fun a ha b hb => ?_⟩
  rw[List.map_singleton,ze] at hb
  subst hb
  exact fun e1=>hne (e1 ▸ ha)
 ·
  rw[jl,zm,h.mem,List.map_singleton,ze,hl']
  by_cases hx:x=keyA e
  ·
   subst hx
   simp[hp]
  ·
   simp[hx]
 ·
  rcases zm.1 hf with hf | hf
  ·
   exact h.gain f hf
  ·
   rw[ze.1 hf]
   exact hg
theorem Coll.top{P:List (List UInt8)}{left:List UInt8→Bool}{es:List (ByteArray×Int)}(h:Coll P left es)(hl:∀x∈P,left x=false):TopOf P (((qgk es).take 255).map keyA):=by
 have hperm:=rank_perm es
 have hnd:((qgk es).map keyA).Nodup:=(hperm.map keyA).nodup_iff.2 h.once
 have hsplit:(qgk es).take 255++(qgk es).drop 255=qgk es:=zx _ _
 have hmem:∀e,e∈qgk es↔e∈es:=fun e=>hperm.mem_iff
 have hin:∀e∈es,keyA e∈P:=fun e he=>((h.mem _).1 (zl.2 ⟨e,he,rfl⟩)).1
 refine⟨?_,by rw[q8,qz];omega,fun x hx => ?_,fun y hy hn => ?_⟩
 ·
  rw[←hsplit,jl] at hnd
  exact(List.nodup_append.1 hnd).1
 ·
  obtain⟨e,he,rfl⟩:=zl.1 hx
  exact hin e ((hmem e).1 (yz he))
 ·
  obtain⟨e,he,rfl⟩:=zl.1 ((h.mem y).2 ⟨hy,hl y hy⟩)
  have he2:e∈(qgk es).drop 255:=by
   have h1:=(hmem e).2 he
   rw[←hsplit] at h1
   rcases zm.1 h1 with h1 | h1
   ·
    exact absurd (zl.2 ⟨e,h1,rfl⟩) hn
   ·
    exact h1
  have hlen:255<(qgk es).length:=by
   have:=List.length_pos_of_mem he2
   rw[qy] at this
   omega
  refine⟨by rw[q8,qz];omega,fun x hx => ?_⟩
  obtain⟨f,hf,rfl⟩:=zl.1 hx
  have hs:=rank_sorted es
  rw[←hsplit,List.pairwise_append] at hs
  have h1:=hs.2.2 f hf e he2
  have hfe:f∈es:=(hmem f).1 (yz hf)
  have h2:ltOf qe1 f e=true:=by
   cases h3:ltOf qe1 f e
   ·
    exact absurd (ltA_one f e h3 h1 ▸ hx) hn
   ·
    rfl
  rw[ltA] at h2
  rw[h.gain f hfe,h.gain e he] at h2
  unfold qgm
  rcases h2 with h2 | ⟨h2,h4⟩
  ·
   exact Or.inl (by omega)
  ·
   exact Or.inr ⟨by omega,h4⟩
end
section
set_option maxRecDepth 20000
set_option exponentiation.threshold 2000
open Ieee
theorem qd8{P:Program}{w:World}(a:Addr)(m:Mode)(k:FloatKind)(x y:Nat):(store a (.complex k x y) m).run P w=stored P w a (.complex k x y) m:=run_store P w a _ m rfl
end
section
attribute [local go_sem] qd8
structure PayIn (w:World) (l:List ByteArray) (kd bl ro:Int) (ds:List Int) (A B:Option Addr) (c d:Nat):Prop where
 rd:Rd w 0 w.heap.size A c (sv l)
 dr:Rd w 0 w.heap.size B d (iv ds)
 word:qjq ds
 ok:qa2 ⟨kd,bl,ro,ds⟩
 few:l.length≤4096
 draws:ds.length≤400
 size:∀s∈l,s.size≤4096
theorem PayIn.kind{w:World}{l:List ByteArray}{kd bl ro:Int}{ds:List Int}{A B:Option Addr}{c d:Nat}(h:PayIn w l kd bl ro ds A B c d){k:Int}(h0:0≤k)(h3:k≤3):PayIn w l k bl ro ds A B c d :=
 ⟨h.rd,h.dr,h.word,⟨h0,h3,h.ok.2.2⟩,h.few,h.draws,h.size⟩
end
section
attribute [local go_sem] qd8
structure CIn (w:World) (L:List Vl) (kd bl ro:Int) (ds:List Int) (A B:Option Addr) (c d:Nat):Prop where
 row:Row w 0 w.heap.size A c L
 dr:Rd w 0 w.heap.size B d (iv ds)
 word:qjq ds
 draws:ds.length≤400
theorem CIn.kind{w:World}{L:List Vl}{kd bl ro:Int}{ds:List Int}{A B:Option Addr}{c d:Nat}(h:CIn w L kd bl ro ds A B c d)(k:Int):CIn w L k bl ro ds A B c d:=⟨h.row,h.dr,h.word,h.draws⟩
def qll(L:List Vl)(o:Co):Prop:=kr L∧qa2 o
instance (L:List Vl) (o:Co):Decidable (qll L o):=by unfold qll;infer_instance
theorem qll.few{L:List Vl}{o:Co}(h:qll L o):(qu L).length≤4096∧∀s∈qu L,s.size≤4096 :=
 ⟨zb (qf0 L) h.1.1,fun s hs=>by obtain⟨v,hv,rfl⟩:=qgp hs;exact(h.1.2 v hv).1⟩
end
def PA(g p:Nat):Prop:=p≤100+g*20000000
def PB(g k p:Nat):Prop:=p≤109+g*20000000+k*2000000
theorem PA.zero{p:Nat}(h:p≤18):PA 0 p:=by unfold PA;omega
theorem PA.put{g p q r:Nat}(h:PA g p)(hq:q≤9)(hr:p+q=r):PB g 0 r:=by unfold PA at h;unfold PB;omega
theorem PB.step{g k p a b q r:Nat}(h:PB g k p)(ha:a≤1000000)(hb:b≤1000000)(hq:p+a=q)(hr:q+b=r):PB g (k+1) r:=by unfold PB at *;omega
theorem PB.next{g k p:Nat}(h:PB g k p)(hk:k≤8):PA (g+1) p:=by unfold PB at h;unfold PA;omega
end Go.Proofs.YtjfecojdagmacaaGreat
