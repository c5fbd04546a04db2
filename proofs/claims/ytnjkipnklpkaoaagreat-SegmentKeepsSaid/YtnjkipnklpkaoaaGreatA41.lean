/-
  Lemmas.
-/
import Derived.Test.YtnjkipnklpkaoaaGreatA40
namespace Go.Proofs.YtnjkipnklpkaoaaGreat
open Go.RowKit
set_option maxRecDepth 20000
set_option maxHeartbeats 16000000
set_option linter.unusedSimpArgs false
set_option linter.unusedVariables false
section
open Go.RowKit Go.Shelf
theorem keeps_row{w w':World}{lo n:Nat}{e:TypeId}{v:Value}{xs:List Value}(h:w.ownsRow lo e 1 v n xs)(hg:w.grownBy w' v.ownBlock):KeepsOthers w w' :=
 KeepsOthers.of_grownBy hg fun j o ej hj=>by
  rcases h.2 with ⟨rfl,_⟩ | ⟨g,cap,cur,rfl,_,hgb,_⟩
  ·
   simp[Value.ownBlock] at ej
  ·
   obtain rfl:g=j:=by simpa[Value.ownBlock] using ej
   rw[hgb] at hj
   cases hj
   rfl
theorem qmw{w w':World}{lo B:Nat}{row:Option Nat}(hg:w.grownBy w' row)(hr:∀g,row=some g→lo≤g)(hB:B<lo)(hs:B<w.heap.size):w'.heap[B]? = w.heap[B]? :=
 hg.block B hs fun e=>by have:=hr B e.symm;omega
theorem qf6{w w':World}{B:Nat}{t:TypeId}{v:Value}(h:Boxed w B t v)(e:w'.heap[B]? = w.heap[B]?):Boxed w' B t v:=e.trans h
section
variable {w w':World}{lo:Nat}{u v:Value}{ss:List Nat}{bs:List UInt8}
theorem SB.onBelow(h:SB w lo w.heap.size u v ss bs)(hb:Below w.heap.size w w'):SB w' lo w'.heap.size u v ss bs:=(h.below hb (qc _)).top
theorem SB.setBox{B:Nat}(h:SB w lo w.heap.size u v ss bs)(hB:B<lo)(x:Value):SB (w.setCell ⟨B,0,none⟩ x) lo (w.setCell ⟨B,0,none⟩ x).heap.size u v ss bs:=by
 have hk:∀k,lo≤k→(w.setCell ⟨B,0,none⟩ x).heap[k]? = w.heap[k]?:=fun k hk=>Below.heap_setCell _ _ _ _ (by show k≠B;omega)
 have h1:=ju h.o1 (w':=w.setCell ⟨B,0,none⟩ x) fun k hk2=>hk k (zk h.o1 hk2).1
 have h2:=ju h.o2 (w':=w.setCell ⟨B,0,none⟩ x) fun k hk2=>hk k (zk h.o2 hk2).1
 exact⟨h1,h2,fun g hg2=>(zk h1 hg2).2,fun g hg2=>(zk h2 hg2).2,h.ap⟩
theorem SB.pushN{A:Option Addr}{n c:Nat}(h:SB w lo w.heap.size (.slice A n c) v ss bs)(hn:n=ss.length)(x:Nat)(hl:n≤1000000000)(hlo:lo≤w.heap.size) :
  ∃A' c' w',(Builtin.append_ #[64,64] 64 #[.slice A n c,.slice (some ⟨w.heap.size,0,none⟩) 1 1]).run Tryz.prog (w.alloc (.cells #[.int .i64 (x:Int)] 3))= .ok (.slice A' (n+1) c') w'∧
   SB w' lo w'.heap.size (.slice A' (n+1) c') v (ss++[x]) bs∧(w.alloc (.cells #[.int .i64 (x:Int)] 3)).grownBy w' (Value.slice A n c).ownBlock∧KeepsOthers w w'∧∀g,(Value.slice A n c).ownBlock=some g→lo≤g∧g<w.heap.size:=by
 subst hn
 have hil:=zj ss
 have h1:(w.alloc (.cells #[.int .i64 (x:Int)] 3)).ownsRow lo 3 1 (.slice A ss.length c) (zu ss).length (iv (zu ss)):=by rw[hil];exact h.o1.alloc _
 obtain⟨A',c',w',hrun,ho,hg,hb⟩:=qis (w.alloc (.cells #[.int .i64 (x:Int)] 3)) lo (.slice A ss.length c) (zu ss) [(x:Int)] (zu (ss++[x])) (by simp[zu]) h1 (rd_ints w 3 [(x:Int)] #[.int .i64 (x:Int)] rfl (by simp)) (by rw[hil];simp;omega) (by simp;omega)
 rw[zj,qd] at hrun ho hb
 have hv:v.ownBlock=none∨v.ownBlock≠(Value.slice A ss.length c).ownBlock:=by
  cases hx:v.ownBlock with
  | none=>exact Or.inl rfl
  | some g=>exact Or.inr fun e=>h.ap g e.symm hx
 have ho2:=(h.o2.alloc (.cells #[.int .i64 (x:Int)] 3)).kept hg hv
 refine⟨A',c',w',hrun,⟨by rw[qd];exact ho,ho2,fun g hg2=>(zk ho hg2).2,fun g hg2=>(zk ho2 hg2).2,fun g hg2 hg3 => ?_⟩,hg,(KeepsOthers.alloc _ _).trans (keeps_row (by rw[hil] at h1;exact h1) hg),fun g hg2=>zk h.o1 hg2⟩
 rcases hb with e | e
 ·
  exact h.ap g (e.symm.trans hg2) hg3
 ·
  have h3:=(zk h.o2 hg3).2
  have h4:(Value.slice A' (ss.length+1) c').ownBlock=some g:=hg2
  have h5:some g=some (w.alloc (.cells #[.int .i64 (x:Int)] 3)).heap.size:=h4.symm.trans e
  injection h5 with h5
  simp at h5
  omega
theorem SB.moreG{A B:Option Addr}{n c k d lo2 hi2:Nat}{news all:List UInt8}(h:SB w lo w.heap.size u (.slice A n c) ss bs)(hn:n=bs.length)(hk:k=news.length)(ha:bs++news=all)(hr:Rd w lo2 hi2 B d (bv news))(hl:n+k≤140737488355328)(hlo:lo≤w.heap.size) :
  ∃A' c' w',(Builtin.append_ #[26,26] 26 #[.slice A n c,.slice B k d]).run Tryz.prog w= .ok (.slice A' all.length c') w'∧SB w' lo w'.heap.size u (.slice A' all.length c') ss all∧
   w.grownBy w' (Value.slice A n c).ownBlock∧KeepsOthers w w'∧∀g,(Value.slice A n c).ownBlock=some g→lo≤g∧g<w.heap.size:=by
 subst hn hk
 obtain⟨A',c',w',hrun,ho,hg,hb⟩:=vl w lo (.slice A bs.length c) bs news all ha h.o2 hr hl hlo
 have hu:u.ownBlock=none∨u.ownBlock≠(Value.slice A bs.length c).ownBlock:=by
  cases hx:u.ownBlock with
  | none=>exact Or.inl rfl
  | some g=>exact Or.inr fun e=>h.ap g hx e.symm
 have ho1:=h.o1.kept hg hu
 refine⟨A',c',w',hrun,⟨ho1,ho,fun g hg2=>(zk ho1 hg2).2,fun g hg2=>(zk ho hg2).2,fun g hg2 hg3 => ?_⟩,hg,keeps_row h.o2 hg,fun g hg2=>zk h.o2 hg2⟩
 rcases hb with e | e
 ·
  exact h.ap g hg2 (e.symm.trans hg3)
 ·
  have h3:=(zk h.o1 hg2).2
  have h5:some g=some w.heap.size:=hg3.symm.trans e
  injection h5 with h5
  omega
end
end
section
open Go.RowKit Go.Shelf
attribute [local go_sem] Oper.semAt_some
def qhg(K:Nat)(l:List ByteArray)(x:Ck K l.length):List (List UInt8):=((qm l).drop (x.i*K)).take K
theorem four_boxes(w:World)(t0 t1 t2 t3:TypeId)(v0 v1 v2 v3:Value):∃W,(((w.alloc (.cells #[v0] t0)).alloc (.cells #[v1] t1)).alloc (.cells #[v2] t2)).alloc (.cells #[v3] t3)=W∧
  Boxed W w.heap.size t0 v0∧Boxed W (w.heap.size+1) t1 v1∧Boxed W (w.heap.size+1+1) t2 v2∧Boxed W (w.heap.size+1+1+1) t3 v3∧Below w.heap.size w W∧W.heap.size=w.heap.size+1+1+1+1:=by
 refine⟨_,rfl,?_,?_,?_,?_,?_,?_⟩
 ·
  exact(((Boxed.new w t0 v0).alloc _).alloc _).alloc _
 ·
  have:=((Boxed.new (w.alloc (.cells #[v0] t0)) t1 v1).alloc (.cells #[v2] t2)).alloc (.cells #[v3] t3)
  simpa only[yl] using this
 ·
  have:=(Boxed.new ((w.alloc (.cells #[v0] t0)).alloc (.cells #[v1] t1)) t2 v2).alloc (.cells #[v3] t3)
  simpa only[yl] using this
 ·
  have:=Boxed.new (((w.alloc (.cells #[v0] t0)).alloc (.cells #[v1] t1)).alloc (.cells #[v2] t2)) t3 v3
  simpa only[yl] using this
 ·
  exact((((Below.refl _ w).alloc (qc _) _).alloc (by simp only[yl];omega) _).alloc (by simp only[yl];omega) _).alloc (by simp only[yl];omega) _
 ·
  simp only[yl]
theorem rd_piece{w:World}{lo hi b off c k m:Nat}{l:List ByteArray}(h:Rd w lo hi (some ⟨b,off,none⟩) c (sv l))(hk:k+m≤l.length):Rd w lo hi (some ⟨b,off+k,none⟩) m (sv ((l.drop k).take m)):=by
 have hl:=h.len
 have hc:=h.cap
 rw[yg] at hl
 refine⟨by rw[yg,qy];omega,by omega,fun h0 => ?_⟩
 rw[yg,qy,qu] at h0
 obtain⟨b2,off2,e,h1,h2,h3⟩:=h.at_ (by rw[yg];omega)
 cases e
 refine⟨b,off+k,rfl,h1,h2,fun j u hu => ?_⟩
 rw[qa9]
 refine h3 (k+j) u ?_
 rw[sv_take,sv_drop,qbh] at hu
 split at hu
 ·
  rw[List.getElem?_drop] at hu
  exact hu
 ·
  cases hu
theorem rd_cells(w:World)(t:TypeId)(xs:List Value)(cs:Array Value){n:Nat}(h:cs.toList=xs)(hn:xs.length=n)(hm:n≤1000):Rd (w.alloc (.cells cs t)) 0 (w.alloc (.cells cs t)).heap.size (some ⟨w.heap.size,0,none⟩) n xs:=by
 subst h hn
 refine⟨qc _,by unfold maxLen;omega,fun _=>⟨w.heap.size,0,rfl,qi _,by simp,fun j u hu => ?_⟩⟩
 rw[xa,cell_of_row _ w.heap.size j cs t (0,0) (heap_alloc_new w _)]
 simpa using hu
theorem qnd{w w':World}{A:Option Addr}{c:Nat}{xs:List Value}(h:Rd w 0 w.heap.size A c xs)(hb:Below w.heap.size w w'):Rd w' 0 w'.heap.size A c xs:=(h.below hb (qc _)).wide (qc _) hb.size
theorem own_apart{w:World}{base n hi:Nat}{e:TypeId}{v u:Value}{xs:List Value}(h:w.ownsRow base e 1 v n xs)(hu:∀g,u.ownBlock=some g→g<hi)(hb:hi≤base:=by omega):v.ownBlock=none∨v.ownBlock≠u.ownBlock:=by
 cases hx:v.ownBlock with
 | none=>exact Or.inl rfl
 | some q =>
  refine Or.inr fun e => ?_
  have h1:=(zk h hx).1
  have h2:=hu q e.symm
  omega
theorem World_lt{w:World}{D:Nat}{o:Obj}(h:w.heap[D]? = some o):D<w.heap.size:=(vp.1 h).1
theorem concat4{W1 w2 w3 wd:World}{A1 Aa A2 A3:Option Addr}{c1 ca c2 c3:Nat}{wl E p1 p2 fr:List UInt8}(h1:Rd W1 0 W1.heap.size A1 c1 (bv wl))(h2:Rd W1 0 W1.heap.size Aa ca (bv E))
  (h3:w2.ownsRow wd.heap.size 5 1 (.slice A2 p1.length c2) p1.length (bv p1)) (h4:w3.ownsRow w2.heap.size 5 1 (.slice A3 p2.length c3) p2.length (bv p2)) (hb2:Below W1.heap.size W1 w2) (hb3:Below w2.heap.size w2 w3)
  (hfr:fr=xl [⟨none,0,p1⟩,⟨none,0,p2⟩,⟨none,0,wl⟩,⟨none,0,E⟩]) (h0:0<fr.length) (hm:fr.length≤100000000000000) :
  Calls Tryz.prog 114 #[.slice (some ⟨w3.heap.size,0,none⟩) 4 4] (w3.alloc (.cells #[.slice A2 p1.length c2,.slice A3 p2.length c3,.slice A1 wl.length c1,.slice Aa E.length ca] 26)) fun r w'=>∃A' c',r= .returned (.slice A' fr.length c')∧
   w'.ownsRow (w3.heap.size+1) 5 1 (.slice A' fr.length c') fr.length (bv fr)∧Below (w3.heap.size+1) (w3.alloc (.cells #[.slice A2 p1.length c2,.slice A3 p2.length c3,.slice A1 wl.length c1,.slice Aa E.length ca] 26)) w':=by
 have hal:Below w3.heap.size w3 (w3.alloc (.cells #[.slice A2 p1.length c2,.slice A3 p2.length c3,.slice A1 wl.length c1,.slice Aa E.length ca] 26)):=(Below.refl _ _).alloc (qc _) _
 have H:=qq0 (w:=w3.alloc (.cells #[.slice A2 p1.length c2,.slice A3 p2.length c3,.slice A1 wl.length c1,.slice Aa E.length ca] 26)) [⟨A2,c2,p1⟩,⟨A3,c3,p2⟩,⟨A1,c1,wl⟩,⟨Aa,ca,E⟩] (A:=some ⟨w3.heap.size,0,none⟩) (c:=4)
  (rd_cells w3 26 _ _ (by simp[Part.val]) (by simp) (by omega))
  (fun p hp=>by
   simp only[jc,ve,or_false] at hp
   rcases hp with rfl | rfl | rfl | rfl
   ·
    exact qnd (qnd ((Rd.of_own h3).wide (qi _) (qc _)) hb3) hal
   ·
    exact qnd ((Rd.of_own h4).wide (qi _) (qc _)) hal
   ·
    exact qnd (qnd (qnd h1 hb2) hb3) hal
   ·
    exact qnd (qnd (qnd h2 hb2) hb3) hal)
 rw[show xl [⟨A2,c2,p1⟩,⟨A3,c3,p2⟩,⟨A1,c1,wl⟩,⟨Aa,ca,E⟩]=fr from hfr.symm] at H
 have e:(w3.alloc (.cells #[.slice A2 p1.length c2,.slice A3 p2.length c3,.slice A1 wl.length c1,.slice Aa E.length ca] 26)).heap.size=w3.heap.size+1:=by simp
 rw[e] at H
 exact H h0 hm
theorem flat_le{α:Type}{f:α→List UInt8}{B:Nat}(h:∀x,(f x).length≤B):∀l:List α,(l.map f).flatten.length≤B*l.length
 | []=>by simp
 | x :: l=>by
  have h1:=h x
  have h2:=flat_le h l
  rw[ym,qaa,qd,qt,qds]
  omega
theorem part_le{K:Nat}(hK2:K≤64){l:List ByteArray}(h4:∀s∈l,s.size≤4096)(x:Ck K l.length):(jae (qhg K l x)).length≤4200*64:=by
 have hbl:=blk_len (t:=qhg K l x) fun s hs=>by
  obtain⟨y,hy,rfl⟩:=zn.1 (qem (xk hs))
  rw[qhy]
  exact h4 y hy
 have:(qhg K l x).length≤K:=by unfold qhg;rw[qy];omega
 omega
set_option maxRecDepth 100000 in
set_option maxHeartbeats 4000000 in
theorem fbuild_yes{w:World}(l:List ByteArray)(K:Nat)(hK:1≤K)(hK2:K≤64)(hd:ql5 (qm l)=true){c:Nat}{A:Option Addr}(h:Rd w 0 w.heap.size A c (sv l)) :
  Calls Tryz.prog 216 #[.slice A l.length c,.int .i64 (K:Int)] w fun r w'=>∃A' c',r= .returned (.tuple #[.slice A' (kn K (qm l)).length c',.int .i64 0])∧
   w'.ownsRow w.heap.size 5 1 (.slice A' (kn K (qm l)).length c') (kn K (qm l)).length (bv (kn K (qm l)))∧Below w.heap.size w w':=by
 have hl:=h.len
 have hm:=h.cap
 rw[yg] at hl
 unfold maxLen at hm
 obtain⟨hD1,hD2,_⟩:=qdi.1 hd
 obtain⟨fr,hfr0⟩:∃fr,kn K (qm l)=fr:=⟨_,rfl⟩
 rw[hfr0]
 rw[qx] at hD1
 have h4:∀s∈l,s.size≤4096:=fun s hs=>by
  have:=hD2 _ (xq hs)
  rw[qhy] at this
  exact this
 have H4:=qa h4
 have HF:=qa (fun w=>ffits_any (w:=w) (K:Int))
 rw[qp (show(1:Int)≤(K:Int)∧(K:Int)≤64 by omega)] at HF
 have HR:=qa (fright_any l h fun s hs=>by have:=h4 s hs;omega)
 rw[hd] at HR
 have H:=qa h
 refine(callsIn_wide (n:=4)).1 ?_
 clear h h4
 refine callsIn_of_wp_marks Tryz.func216 rfl trivial ?_ rfl
 simp only[Tryz.ntmps216,qby,qt,je,Nat.reduceAdd,Nat.reduceSub,qer,qeq,List.push_toArray,qfm,yk,z6]
 refine wpIn_wide.2 ?_
 go_wp2_with fail
 refine(HF.out _).mono ?_
 rintro r w' ⟨rfl,rfl⟩
 go_wp2_with fail
 refine HR.out.mono ?_
 rintro r w' ⟨rfl,rfl⟩
 clear HR HF
 go_wp2_with fail
 refine((callsIn_wide (n:=3)).1 (chunk_in 3 A l.length c K hK _)).mono ?_
 rintro r w' ⟨rfl,rfl⟩
 go_wp2_with fail
 obtain⟨W0,hW0,x6,x7,x8,x9,hB0,hs0⟩:=four_boxes w 64 26 58 3 (.slice none 0 0) (.slice none 0 0) (.slice A l.length c) (.int .i64 (K:Int))
 rw[hW0]
 clear hW0
 obtain⟨b7,e7⟩:∃b,w.heap.size+1=b:=⟨_,rfl⟩
 rw[e7] at x7 x8 x9 hs0 ⊢
 obtain⟨b8,e8⟩:∃b,b7+1=b:=⟨_,rfl⟩
 rw[e8] at x8 x9 hs0 ⊢
 obtain⟨b9,e9⟩:∃b,b8+1=b:=⟨_,rfl⟩
 rw[e9] at x9 hs0 ⊢
 obtain⟨b6,e6⟩:∃b,w.heap.size=b:=⟨_,rfl⟩
 have HH:Hid (Rd w 0 b6 A c (sv l)):=by rw[←e6];exact H.out
 clear H
 rw[e6] at x6 e7 hB0 ⊢
 obtain⟨b,off,hA⟩:∃b off,0<l.length→A=some ⟨b,off,none⟩∧b<b6:=by
  rcases jr l.length with h0 | h0
  ·
   exact⟨0,0,fun h=>by omega⟩
  ·
   obtain⟨b,off,e,_,h2,_⟩:=HH.out.at_ (by rw[yg];exact h0)
   exact⟨b,off,fun _=>⟨e,h2⟩⟩
 obtain⟨b10,e10⟩:∃b,b9+1=b:=⟨_,rfl⟩
 rw[e10] at hs0
 refine(wpIn_wide (n:=4)).1 ?_
 refine wpIn_rangeFunc_ownG rfl (by omega) (gf:=258) (lb:=chunkV b8 b9) rfl trivial (enters_of Tryz.func258 (by kernel_rfl) rfl)
  (chunk_stops 3 (by omega) b8 b9 b6 l.length K hK hK2 (by omega) hl hm (fun h=>(hA h).1) W0 x8 x9)
  Kp2.trans (fun W lk o o' hlk hk ho hwk=>⟨belowK_b (w:=W0) (by omega) W lk o o' hlk hk ho hwk,World.putObj_heap_other (by omega),World.putObj_heap_other (by omega)⟩) (Below.refl _ _) (fun _=>rfl)
  (fun pre W=>BI b6 b7 b10 (pre.map fun x=>(jae (qhg K l x)).length) ((pre.map fun x=>jae (qhg K l x)).flatten) W∧Below b6 W0 W)
  (fun _ _ _=>False)
  (OwnFrom.and (Own.from (BI.own _ _ _ _ _) _) (ownFrom_below (by omega) (by omega)))
  (fun c=>Own.from (fun s X Y row hs hg hr=>hs) _)
  ⟨⟨none,0,none,0,x6,x7,SB.nil _ _ _⟩,Below.refl _ _⟩
  (fun x=>{ tmps:=#[.slice A l.length c,.int .i64 (K:Int),undef,undef,.slice none 0 0,.int .i64 0,.pointer (some ⟨b6,0,none⟩),.pointer (some ⟨b7,0,none⟩),.slice (some ⟨b,off+x.i*K,none⟩) (ckN K l.length x.i) (ckN K l.length x.i),undef,undef,undef,.int .i64 (K:Int),.bool true,.bool false,.bool false,.slice A l.length c,.bool true,.bool false,.bool false,.slice A l.length c,.int .i64 (K:Int),.func (.func 258) #[] (chunkV b8 b9),.slice (some ⟨b,off+x.i*K,none⟩) (ckN K l.length x.i) (ckN K l.length x.i),undef,undef,undef,undef,undef,undef,undef,undef,undef,undef,undef,undef,undef,undef,undef,undef,undef,undef,undef,undef,undef,undef,undef,undef,undef,undef,undef],defers:=[] }) ?assign ?body ?done ?stop
 case assign =>
  intro lp x W K' hK'
  dsimp only[encCk]
  gi_wp2
  exact hK'
 case body =>
  rintro lp pre x W ⟨⟨As,cs,Aa,ca,h6,h7,hsb⟩,hBW⟩ hlt
  have hlo:b10≤W.heap.size:=by have:=hBW.size;omega
  have hB:=hB0.trans hBW
  obtain⟨hA1,hA2⟩:=hA (by have:=x.h;omega)
  subst hA1
  obtain⟨P,hP⟩:∃P,(l.drop (x.i*K)).take (ckN K l.length x.i)=P:=⟨_,rfl⟩
  have hxh:=x.h
  have hck:ckN K l.length x.i≤K∧x.i*K+ckN K l.length x.i≤l.length∧0<ckN K l.length x.i:=by unfold ckN;omega
  have hPp:qm P=qhg K l x:=by
   rw[←hP]
   unfold qhg qm
   rw[qbx,List.map_drop,List.take_eq_take_iff]
   unfold ckN
   simp
   try omega
  have hPl:P.length=ckN K l.length x.i:=by rw[←hP,qy,qu];omega
  have hrd:=rd_piece HH.out hck.2.1
  rw[hP] at hrd
  obtain⟨m,hmm⟩:∃m,ckN K l.length x.i=m+1:=⟨ckN K l.length x.i-1,by omega⟩
  rw[hmm] at hck hPl hrd ⊢
  have hP4:∀s∈P,s.size≤4096:=fun s hs=>H4.out s (qem (xk (by rw[hP];exact hs)))
  have hszW:=hB.size
  have HC:=qa (fcode_any (w:=W) P hPl (by omega) ((hrd.below hB (qc _)).wide (qc _) (by omega)) hP4)
  rw[hPp] at HC
  have hbl:=blk_len (t:=qhg K l x) fun s hs=>by
   rw[←hPp] at hs
   obtain⟨y,hy,rfl⟩:=zn.1 hs
   rw[qhy]
   exact hP4 y hy
  rw[←hPp,qx,hPl,hPp] at hbl
  obtain⟨S,hS⟩:∃S,(pre.map fun x=>(jae (qhg K l x)).length)=S:=⟨_,rfl⟩
  obtain⟨E,hE⟩:∃E,(pre.map fun x=>jae (qhg K l x)).flatten=E:=⟨_,rfl⟩
  obtain⟨S2,hS2⟩:∃S2,((pre++[x]).map fun x=>(jae (qhg K l x)).length)=S2:=⟨_,rfl⟩
  obtain⟨E2,hE2⟩:∃E2,((pre++[x]).map fun x=>jae (qhg K l x)).flatten=E2:=⟨_,rfl⟩
  have hEl:E.length≤2000000000:=by
   have:=flat_le (f:=fun x=>jae (qhg K l x)) (B:=4200*64) (fun x=>part_le hK2 H4.out x) pre
   rw[hE] at this
   have h5:=qc9 (4200*64) (show pre.length≤4096 by omega)
   omega
  rw[hS] at h6
  rw[hE] at h7
  rw[hS,hE] at hsb
  obtain⟨bk,hbk⟩:∃bk,jae (qhg K l x)=bk:=⟨_,rfl⟩
  rw[hbk] at HC hbl
  have hSS:S++[bk.length]=S2:=by rw[←hS2,jg,hS,ym,uq,hbk]
  have hEE:E++bk=E2:=by rw[←hE2,jg,qdb,hE,ym,uq,hbk];simp
  have hSl:S.length≤4096:=by rw[←hS,q8];omega
  have HS2:=qa hS2
  have HE2:=qa hE2
  clear hS hE hbk hS2 hE2
  gi_wp2
  refine⟨trivial,(CallsIn.inRound lp (callsIn_wide.2 HC.out)).mono ?_⟩
  rintro r W1 ⟨A1,c1,rfl,ho1,hb1⟩
  have hszW1:=hb1.size
  have k6:=qf6 h6 (hb1.block b6 (by omega))
  have k7:=qf6 h7 (hb1.block b7 (by have:=h7.lt;omega))
  have ksb:=hsb.onBelow hb1
  obtain⟨A2,c2,W2,hrun2,hsb2,hg2,hk2,hr2⟩:=ksb.pushN rfl bk.length (by omega) (by omega)
  rw[hSS] at hsb2
  have hszA:(W1.alloc (.cells #[.int .i64 (bk.length:Int)] 3)).heap.size=W1.heap.size+1:=by simp
  have hrow2:∀g,(Value.slice As S.length cs).ownBlock=some g→b10≤g:=fun g hg=>(hr2 g hg).1
  have m6:=qf6 (k6.alloc (.cells #[.int .i64 (bk.length:Int)] 3)) (qmw hg2 hrow2 (by omega) (by omega))
  have m7:=qf6 (k7.alloc (.cells #[.int .i64 (bk.length:Int)] 3)) (qmw hg2 hrow2 (by omega) (by omega))
  have ho2:=(ho1.alloc (.cells #[.int .i64 (bk.length:Int)] 3)).kept hg2 (own_apart ho1 hsb.h1)
  have hBel2:Below b6 W W2:=((hb1.mono (by omega)).alloc (by omega) _).grown hg2 (by omega) (fun g hg=>by have:=hrow2 g hg;omega)
  have c6:=k6.cell
  have c6b:=m6.cell
  have f6b:=m6.frozen
  gi_wp2_with (gi_at_builtin;refine qfi rfl _ _ _ rfl _ _ rfl rfl hrun2 ?_;refine qaz ?_)
  refine⟨?_⟩
  clear hrun2 c6
  -- the box of the numbers
  have n6:=m6.set (.slice A2 (S.length+1) c2)
  have n7:Boxed (W2.setCell ⟨b6,0,none⟩ (.slice A2 (S.length+1) c2)) b7 26 (.slice Aa E.length ca):=qcz m7 (by omega)
  have nsb:=hsb2.setBox (B:=b6) (by omega) (.slice A2 (S.length+1) c2)
  have no:=ju (w':=W2.setCell ⟨b6,0,none⟩ (.slice A2 (S.length+1) c2)) ho2 (fun k hk=>Below.heap_setCell _ _ _ _ (by have:=(zk ho1 hk).1;show k≠b6;omega))
  have nk:KeepsOthers W1 (W2.setCell ⟨b6,0,none⟩ (.slice A2 (S.length+1) c2)):=hk2.trans (KeepsOthers.setCell _ _ _)
  have nb:=hBel2.setCell (p:=⟨b6,0,none⟩) (qc _) (.slice A2 (S.length+1) c2)
  obtain⟨W3,hW3⟩:∃W3,W2.setCell ⟨b6,0,none⟩ (.slice A2 (S.length+1) c2)=W3:=⟨_,rfl⟩
  rw[hW3] at n6 n7 nsb no nk nb
  have hszW3:=nb.size
  obtain⟨A4,c4,W4,hrun4,hsb4,hg4,hk4,hr4⟩:=nsb.moreG rfl rfl hEE (Rd.of_own no) (by omega) (by omega)
  have hrow4:∀g,(Value.slice Aa E.length ca).ownBlock=some g→b10≤g:=fun g hg=>(hr4 g hg).1
  have p6:=qf6 n6 (qmw hg4 hrow4 (by omega) n6.lt)
  have p7:=qf6 n7 (qmw hg4 hrow4 (by omega) n7.lt)
  have q6:Boxed (W4.setCell ⟨b7,0,none⟩ (.slice A4 E2.length c4)) b6 64 (.slice A2 (S.length+1) c2):=qcz p6 (by omega)
  have q7:=p7.set (.slice A4 E2.length c4)
  have qsb:=hsb4.setBox (B:=b7) (by omega) (.slice A4 E2.length c4)
  have qk:KeepsOthers W1 (W4.setCell ⟨b7,0,none⟩ (.slice A4 E2.length c4)):=(nk.trans hk4).trans (KeepsOthers.setCell _ _ _)
  have qb:=(nb.grown hg4 (by omega) (fun g hg=>by have:=hrow4 g hg;omega)).setCell (p:=⟨b7,0,none⟩) (by show b6≤b7;omega) (.slice A4 E2.length c4)
  have qh:∀B,B<b10→B≠b6→B≠b7→(W4.setCell ⟨b7,0,none⟩ (.slice A4 E2.length c4)).heap[B]? = W.heap[B]?:=fun B h1 h2 h3=>by
   have hW1:=hb1.block B (by omega)
   have hW2:=qmw hg2 hrow2 h1 (by omega)
   have hWa:(W1.alloc (.cells #[.int .i64 (bk.length:Int)] 3)).heap[B]? = W1.heap[B]?:=Below.heap_alloc _ _ _ (by omega)
   have hW3b:W3.heap[B]? = W2.heap[B]?:=by rw[←hW3];exact Below.heap_setCell _ _ _ _ h2
   have hW4:=qmw hg4 hrow4 h1 (by omega)
   have hW5:(W4.setCell ⟨b7,0,none⟩ (.slice A4 E2.length c4)).heap[B]? = W4.heap[B]?:=Below.heap_setCell _ _ _ _ h3
   rw[hW5,hW4,hW3b,hW2,hWa,hW1]
  have HQ:=qa (⟨q6,q7,qsb,qk,qb,qh⟩:_∧_∧_∧_∧_∧_)
  have c7:=n7.cell
  have c7b:=p7.cell
  have f7b:=p7.frozen
  have hS2l:S2.length=S.length+1:=by rw[←hSS,qd,jd]
  have HSL:=qa hS2l
  have HKB:=qa (⟨hb1,hBW⟩:_∧_)
  clear q6 q7 qsb qk qb qh p6 p7 hsb4 hk4 hg4 n6 n7 nsb no nk nb hS2l m6 m7 hsb2 hg2 hk2 ho2 hBel2 k6 k7 ksb h6 h7 hsb ho1 hb1 hSS hEE hrow2 hrow4 hr2 hr4
  gi_wp2_with (gi_at_builtin;refine qfi rfl _ _ _ rfl _ _ rfl rfl hrun4 ?_)
  obtain⟨q6,q7,qsb,qk,qb,qh⟩:=HQ.out
  obtain⟨hb1,hBW⟩:=HKB.out
  refine⟨((KeepsOthers.of_grownBy (qjh (qc _) hb1) (fun j o e _=>by cases e)).trans qk).from _,⟨qb,qh b8 (by omega) (by omega) (by omega),qh b9 (by omega) (by omega) (by omega)⟩,?_,hBW.trans qb⟩
  show BI b6 b7 b10 _ _ _
  rw[HS2.out,HE2.out]
  exact⟨A2,c2,A4,c4,by rw[HSL.out];exact q6,q7,by rw[HSL.out];exact qsb⟩
 case done =>
  rintro D ys W hD rfl ⟨⟨As,cs,Aa,ca,h6,h7,hsb⟩,hBW⟩ hKd
  have hlo:b10≤W.heap.size:=by have:=hBW.size;omega
  have hB:=hB0.trans hBW
  have hck:∀n,n=(qm l).length→(cks K n 0).map (fun x=>((qm l).drop (x.i*K)).take K)=qkv K (qm l) 0 (jad (qm l).length K):=fun n hn=>by subst hn;exact cks_all hK (qm l)
  have hc2:=hck l.length (qx l).symm
  obtain⟨hs1,hs2⟩:=qor (l:=qm l) hK
  obtain⟨S,hS⟩:∃S,yi K (qm l) (qm l).length=S:=⟨_,rfl⟩
  obtain⟨E,hE⟩:∃E,qaj K (qm l) (qm l).length=E:=⟨_,rfl⟩
  have e1:(cks K l.length 0).map (fun x=>(jae (qhg K l x)).length)=S:=by
   rw[←hS,hs1,←hc2,ut]
   rfl
  have e2:((cks K l.length 0).map fun x=>jae (qhg K l x)).flatten=E:=by
   rw[←hE,hs2,←hc2,ut]
   rfl
  rw[e1] at h6
  rw[e2] at h7
  rw[e1,e2] at hsb
  have hmay:=(qmk (K:=K) hd).1
  have hSl:=(qmk (K:=K) hd).2
  have hEl:=ql4 K hD2 (qm l).length
  rw[qx] at hEl
  rw[hS] at hmay hSl
  rw[qx] at hE
  rw[hE] at hEl
  have hfr:fr=xl [⟨none,0,jo l.length⟩,⟨none,0,jo K⟩,⟨none,0,jq (zu S)⟩,⟨none,0,E⟩]:=by
   rw[←hfr0]
   unfold kn xl
   rw[hS,qx,hE]
   simp
  have HW:=qa (qnv (w:=W) (zu S) hmay ((Rd.of_own hsb.o1).wide (qi _) (qc _)) (qc _) (by rw[zj];omega))
  rw[zj] at HW
  have c6:=h6.cell
  clear e1 e2 hs1 hs2 hc2 hck hS hE
  go_wp2_with fail
  refine HW.out.mono ?_
  rintro r W1 ⟨A1,c1,rfl,ho1,hb1⟩
  have hWl:=qab hmay (by rw[zj];omega)
  obtain⟨wl,hwl⟩:∃wl,jq (zu S)=wl:=⟨_,rfl⟩
  rw[hwl] at ho1 hWl hfr ⊢
  clear hwl HW c6
  have k7:=qf6 h7 (hb1.block b7 h7.lt)
  have c7:=k7.cell
  have hR1:Rd W1 0 W1.heap.size A1 c1 (bv wl):=(Rd.of_own ho1).wide (qi _) (qc _)
  have hR2:Rd W1 0 W1.heap.size Aa ca (bv E):=qnd ((Rd.of_own hsb.o2).wide (qi _) (qc _)) hb1
  have HR1:=qa hR1
  have HR2:=qa hR2
  have hDW:=World_lt hKd
  have HKD:Hid (W1.heap[D]? = some (.deferred (some []))):=(hb1.block D hDW).trans hKd
  have hDW1:=World_lt HKD.out
  have HB1:=qa (hB.trans (hb1.mono (by omega)))
  have HP1:=qa (fun w=>qgl (w:=w) l.length (by omega))
  have HP2:=qa (fun w=>qgl (w:=w) K (by omega))
  have hb71:=k7.lt
  have hp1:=vo l.length (by omega)
  have hp2:=vo K (by omega)
  have hp3:=qlv l.length
  obtain⟨p1,hpp1⟩:∃p1,jo l.length=p1:=⟨_,rfl⟩
  obtain⟨p2,hpp2⟩:∃p2,jo K=p2:=⟨_,rfl⟩
  rw[hpp1] at HP1 hp1 hp3 hfr
  rw[hpp2] at HP2 hp2 hfr
  have hfrl:fr.length=p1.length+(p2.length+(wl.length+E.length)):=by rw[hfr];simp[xl]
  have hf0:0<fr.length:=by omega
  have hf1:fr.length≤100000000000000:=by omega
  have HFR:=qa hfr
  have hb6W1:b6≤W1.heap.size:=by have:=HB1.out.size;omega
  have hDb:b6≤D:=by omega
  clear hpp1 hpp2 k7 h6 h7 hsb ho1 hb1 hB0 x6 x7 x8 x9 hs0 hBW hB hfr hKd hR1 hR2 hfrl
  go_wp2_with fail
  go_region_held3 (fun w'=>w'.cell? ⟨b7,0,none⟩=some (.slice Aa E.length ca)) (first | assumption | exact c73a _ | go_keep) (first
   | (go_at_call 32;refine(HP1.out _).mono ?_;clear HP1;rintro r w2 ⟨A2,c2,rfl,ho2,hb2⟩;have c72:w2.cell? ⟨b7,0,none⟩=some (.slice Aa E.length ca):=(hb2.cell (p:=⟨b7,0,none⟩) hb71).trans c7;have hb72:W1.heap.size≤w2.heap.size:=hb2.size;have HO2:=qa ho2;have HB2:Hid (Below W1.heap.size W1 w2):=(zg (Below.refl _ W1) 1).trans hb2;clear ho2 hb2)
   | (go_at_call 32;refine(HP2.out _).mono ?_;clear HP2;rintro r w3 ⟨A3,c3,rfl,ho3,hb3⟩;have c73:w3.cell? ⟨b7,0,none⟩=some (.slice Aa E.length ca):=(hb3.cell (p:=⟨b7,0,none⟩) (ja hb71 hb72)).trans c72;have hb73:=hb3.size;have c73a:∀o,(w3.alloc o).cell? ⟨b7,0,none⟩=some (.slice Aa E.length ca):=fun o=>(World.cell?_alloc_lt w3 o ⟨b7,0,none⟩ (ja hb71 (ze hb72 hb73))).trans c73;have HO3:=qa ho3;have HB3:=qa hb3;have HCC:=qa (concat4 HR1.out HR2.out HO2.out HO3.out HB2.out HB3.out HFR.out hf0 hf1);clear ho3 hb3)
   | (go_at_call 114;refine HCC.out.mono ?_;clear HCC;rintro r w5 ⟨A5,c5,rfl,ho5,hb5⟩;have c75:w5.cell? ⟨b7,0,none⟩=some (.slice Aa E.length ca):=(hb5.cell (p:=⟨b7,0,none⟩) (ja hb71 (ze (ze hb72 hb73) (by simp)))).trans (c73a _);have HO5:=qa ho5;have HB5:=qa hb5;clear ho5 hb5))
  go_wp2_with fail
  have hbe:Below W1.heap.size W1 w5:=((HB2.out.trans (HB3.out.mono hb72)).alloc (ze hb72 hb73) _).trans (HB5.out.mono (by omega))
  have hK5:w5.heap[D]? = some (.deferred (some [])):=(hbe.block D hDW1).trans HKD.out
  have hB5:=HB1.out.trans (hbe.mono (by omega))
  have hown5:=ownsRow_putObj (j4 HO5.out (base':=b6) (by omega)) (.deferred none) hK5 rfl
  have hDb2:w.heap.size≤D:=by omega
  refine⟨by simp,.inl ⟨_,_,rfl,run_takeDeferred hK5,?_⟩⟩
  refine⟨.tuple #[.slice A5 fr.length c5,.int .i64 0],?_,A5,c5,rfl,by rw[e6];exact hown5,by rw[e6];exact hB5.trans (belowK_b (w:=w) (by omega) w5 D _ _ hDb2 hK5 rfl rfl)⟩
  simp[results,Tryz.f216,go_sem]
 case stop =>
  rintro D c' pre W hD _ h _
  exact h.elim
end
section
variable {w w':World}{base n m n' m':Nat}{t1 t2:TypeId}{u v u' v':Value}{xs ys xs' ys':List Value}
theorem Tw.left(h:Tw w base t1 t2 u v n m xs ys)(ho:w'.ownsRow base t1 1 u' n' xs')(hg:w.grownBy w' u.ownBlock)(hb:u'.ownBlock=u.ownBlock∨u'.ownBlock=some w.heap.size):Tw w' base t1 t2 u' v n' m xs' ys:=by
 refine⟨ho,h.o2.kept hg h.ap.symm.keeps,fun g h1 h2 => ?_⟩
 rcases hb with e | e
 ·
  exact h.ap g (e ▸ h1) h2
 ·
  have h3:=(zk h.o2 h2).2
  rw[e] at h1
  injection h1 with h1
  omega
theorem Tw.right(h:Tw w base t1 t2 u v n m xs ys)(ho:w'.ownsRow base t2 1 v' m' ys')(hg:w.grownBy w' v.ownBlock)(hb:v'.ownBlock=v.ownBlock∨v'.ownBlock=some w.heap.size):Tw w' base t1 t2 u v' n m' xs ys' :=
 (h.symm.left ho hg hb).symm
end
theorem sumV_take{L:List Vl}{k:Nat}(h:k<L.length):qgp (L.take (k+1))=qgp (L.take k)+L[k].s.size:=by
 unfold qgp
 rw[qg h,jg,qbe]
 simp
theorem sumQ_take{g:List (List Vl)}{i:Nat}(h:i<g.length):qhu (g.take (i+1))=qhu (g.take i)+qgp g[i]:=by
 unfold qhu
 rw[qg h,jg,qbe]
 simp
theorem sumV_bd{M:Nat}:∀ {r:List Vl},(∀v∈r,v.s.size≤M)→qgp r≤r.length*M
 | [],_=>qi _
 | v :: r,h=>by
  have h1:=sumV_bd (r:=r) fun x hx=>h x (jm _ hx)
  have h2:=h v jb
  show v.s.size+qgp r≤(r.length+1)*M
  rw[qel]
  omega
theorem sumQ_bd{M:Nat}:∀ {g:List (List Vl)},(∀r∈g,qgp r≤M)→qhu g≤g.length*M
 | [],_=>qi _
 | v :: r,h=>by
  have h1:=sumQ_bd (g:=r) fun x hx=>h x (jm _ hx)
  have h2:=h v jb
  show qgp v+qhu r≤(r.length+1)*M
  rw[qel]
  omega
def qoi(gs:List (List (List Vl))):Prop:=∀g∈gs,g.length≤140737488355328∧∀r∈g,r.length≤140737488355328∧∀v∈r,v.s.size≤140737488355328
theorem qkh{w:World}{gs:List (List (List Vl))}{os:List Co}{A B:Option Addr}{c d:Nat}(h:qax w 0 w.heap.size A c gs)(ho:qbu w 0 w.heap.size B d os)(hz:qoi gs) :
  Calls Tryz.prog 10 #[.slice A gs.length c,.slice B os.length d] w fun r w'=>qgo gs os r∧w=w':=by
 obtain⟨hl,hm⟩:=h.len
 obtain⟨hl2,hm2⟩:=ho.len
 have H:=qa h
 have HO:=qa ho
 have HZ:Hid (∀i (hi:i<gs.length),gs[i].length≤140737488355328∧∀j (hj:j<gs[i].length),gs[i][j].length≤140737488355328∧∀v∈gs[i][j],v.s.size≤140737488355328):=fun i hi=>⟨(hz _ (qj hi)).1,fun j hj=>(hz _ (qj hi)).2 _ (qj hj)⟩
 clear h ho hz
 go_enter Tryz.func10,Tryz.ntmps10
 go_wp2_with fail
 go_loopw [5,6,7] (fun x5 x6 x7 wr=>∃(g n z:Nat),g≤gs.length∧g≤50∧x7= .int .i64 (g:Int)∧x5= .int .i64 (n:Int)∧x6= .int .i64 (z:Int)∧Hid (n=ki (gs.take g))∧Hid (z=qjb (gs.take g))∧n≤60∧z≤3000∧Hid (∀i (hi:i<gs.length),i<g→∀r∈gs[i],r.length≤9)∧w=wr) (fun _ _ x7 _=>gs.length-(intOf x7).toNat)
 case atStart=>exact⟨0,0,0,qi _,by omega,rfl,rfl,rfl,rfl,rfl,by omega,by omega,fun i hi h0=>absurd h0 (jp i),rfl⟩
 case round =>
  obtain⟨g,n,z,hg,hg50,rfl,rfl,rfl,HN,HS,hn60,hz3,HC,rfl⟩:=hrel
  by_cases hlt:g<gs.length
  ·
   have ig:(g:Int)<(gs.length:Int):=by omega
   have ig0:(0:Int)≤(g:Int):=by omega
   by_cases h50:g<50
   ·
    have i50:(g:Int)<50:=by omega
    obtain⟨b,off,A1,c1,rfl,_,hbl,hcell,hrows⟩:=H.out.get hlt
    have HRW:=qa hrows
    obtain⟨hz1,hz2⟩:=HZ.out g hlt
    have HZ2:=qa hz2
    have HNT:=qa (qfz hlt)
    have HST:=qa (qp4 hlt)
    obtain⟨hrl,hrm⟩:=hrows.len
    obtain⟨G,hG⟩:∃G,gs[g]=G:=⟨_,rfl⟩
    have HG:=qa hG
    rw[hG] at hcell HRW hz1 HNT HST hrl
    obtain⟨gl,hgl⟩:∃gl,G.length=gl:=⟨_,rfl⟩
    have HGL:=qa hgl
    rw[hgl] at hcell hz1 hrl
    have hwn:IntKind.i64.wrap ((n:Int)+(gl:Int))=((n+gl:Nat):Int):=by rw[z8 _ (by omega)];omega
    clear hz2 hrows hG hgl
    by_cases h60:n+gl≤60
    ·
     have i60:¬(60:Int)<((n+gl:Nat):Int):=by omega
     obtain⟨nn,hnn⟩:∃nn,n+gl=nn:=⟨_,rfl⟩
     rw[hnn] at hwn i60
     have HNN:=qa hnn
     clear hnn
     go_wp2_with fail
     go_loopw [6,8] (fun x6 x8 wr=>∃(i y:Nat),i≤gl∧x8= .int .i64 (i:Int)∧x6= .int .i64 (y:Int)∧Hid (y=z+qhu (G.take i))∧Hid (∀j (hj:j<G.length),j<i→G[j].length≤9)∧w=wr) (fun _ x8 _=>gl-(intOf x8).toNat)
     case atStart=>exact⟨0,z,qi _,rfl,rfl,rfl,fun j hj h0=>absurd h0 (jp j),rfl⟩
     case round =>
      obtain⟨i,y,hi,rfl,rfl,HY,HC2,rfl⟩:=hrel
      by_cases hil:i<gl
      ·
       have ii:(i:Int)<(gl:Int):=by omega
       have ii0:(0:Int)≤(i:Int):=by omega
       have hiG:i<G.length:=by rw[HGL.out];exact hil
       obtain⟨b2,off2,A2,c2,rfl,_,hbl2,hcell2,hrow⟩:=HRW.out.get hiG
       have HR:=qa hrow
       obtain⟨hrl2,hrm2⟩:=hrow.len
       have HGT:=qa (sumQ_take hiG)
       have hzr:G[i].length≤140737488355328∧∀v∈G[i],v.s.size≤140737488355328:=by
        have:=HZ2.out i (by rw[HG.out];exact hiG)
        simpa[HG.out] using this
       have HZR:=qa hzr.2
       have HBD:Hid (qhu (G.take i)≤60*(9*140737488355328)):=by
        have h1:∀r∈G.take i,qgp r≤9*140737488355328:=fun r hr=>by
         obtain⟨j,hj,rfl⟩:=zq hr
         rw[qy] at hj
         have hjG:j<G.length:=by omega
         rw[qb0]
         have h9:=HC2.out j hjG (by omega)
         have h3:∀v∈G[j],v.s.size≤140737488355328:=by
          have:=(HZ2.out j (by rw[HG.out];exact hjG)).2
          simpa[HG.out] using this
         exact ze (sumV_bd h3) (vy _ h9)
        refine ze (sumQ_bd h1) (vy _ ?_)
        rw[qy]
        have:=HNN.out
        omega
       obtain⟨R,hR⟩:∃R,G[i]=R:=⟨_,rfl⟩
       have HRE:=qa hR
       rw[hR] at hcell2 HR hrl2 HGT HZR
       obtain⟨rl,hrl3⟩:∃rl,R.length=rl:=⟨_,rfl⟩
       have HRL:=qa hrl3
       rw[hrl3] at hcell2 hrl2
       clear hrow hzr hR hrl3
       by_cases h9:rl≤9
       ·
        have i9:¬(9:Int)<(rl:Int):=by omega
        have HCN:Hid (∀j (hj:j<G.length),j<i+1→G[j].length≤9):=fun j hj hj2=>by
         by_cases e:j=i
         ·
          subst e
          rw[HRE.out,HRL.out]
          exact h9
         ·
          exact HC2.out j hj (by omega)
        clear HC2
        go_wp2_with fail
        go_loopw [6,9] (fun x6 x9 wr=>∃(k u:Nat),k≤rl∧x9= .int .i64 (k:Int)∧x6= .int .i64 (u:Int)∧Hid (u=y+qgp (R.take k))∧w=wr) (fun _ x9 _=>rl-(intOf x9).toNat)
        case atStart=>exact⟨0,y,qi _,rfl,rfl,rfl,rfl⟩
        case round =>
         obtain⟨k,u,hk,rfl,rfl,HU,rfl⟩:=hrel
         by_cases hkl:k<rl
         ·
          have ik:(k:Int)<(rl:Int):=by omega
          have ik0:(0:Int)≤(k:Int):=by omega
          have hkR:k<R.length:=by rw[HRL.out];exact hkl
          obtain⟨b3,off3,rfl,_,hbl3,hx0,hx1⟩:=HR.out.get hkR
          have HVT:=qa (sumV_take hkR)
          have hsz:=HZR.out _ (qj hkR)
          have hbk:qgp (R.take k)≤9*140737488355328:=by
           refine ze (sumV_bd (M:=140737488355328) fun v hv=>HZR.out v (xk hv)) (vy _ ?_)
           rw[qy]
           omega
          obtain⟨u2,hu2⟩:∃u2,u+R[k].s.size=u2:=⟨_,rfl⟩
          have hwu:IntKind.i64.wrap ((u:Int)+(R[k].s.size:Int))=(u2:Int):=by
           have h1:=HU.out
           have h2:=HY.out
           have h3:=HBD.out
           rw[z8 _ (by omega)]
           omega
          have HU2:Hid (u2=y+qgp (R.take (k+1))):=by
           unfold Hid
           rw[←hu2,HU.out,HVT.out]
           omega
          clear hsz hbk HVT hu2
          generalize R[k].null=nb at *
          generalize R[k].s=s at *
          go_wp2_with fail
          go_roundw
          case rel=>exact⟨k+1,u2,by omega,by go_num,rfl,HU2,by first | exact trivial | rfl⟩
          case measure=>simp[intOf];omega
         ·
          have ik:¬(k:Int)<(rl:Int):=by omega
          have HUE:Hid (u=z+qhu (G.take (i+1))):=by
           unfold Hid
           have ht:R.take k=R:=qo (by rw[HRL.out];omega)
           rw[HU.out,ht,HY.out,HGT.out]
           omega
          go_wp2_with fail
          go_roundw
          case rel=>exact⟨i+1,u,by omega,by go_num,rfl,HUE,HCN,by first | exact trivial | rfl⟩
          case measure=>simp[intOf];omega
       ·
        have i9:(9:Int)<(rl:Int):=by omega
        go_wp2_with fail
        go_ret
        exact⟨qgo.no gs os,rfl⟩
      ·
       have ii:¬(i:Int)<(gl:Int):=by omega
       have HYE:Hid (y=qjb (gs.take (g+1))):=by
        unfold Hid
        have ht:G.take i=G:=qo (by rw[HGL.out];omega)
        rw[HY.out,ht,HST.out,←HS.out]
       have HNE:Hid (nn=ki (gs.take (g+1))):=by
        unfold Hid
        rw[HNT.out,←HN.out,HGL.out,HNN.out]
       have HCE:Hid (∀i (hi:i<gs.length),i<g+1→∀r∈gs[i],r.length≤9):=fun q hq hq2 r hr=>by
        by_cases e:q=g
        ·
         subst e
         rw[HG.out] at hr
         obtain⟨j,hj,rfl⟩:=zq hr
         exact HC2.out j hj (by have:=HGL.out;omega)
        ·
         exact HC.out q hq (by omega) r hr
       by_cases h3:y≤3000
       ·
        have i3:¬(3000:Int)<(y:Int):=by omega
        have hn2:nn≤60:=by have:=HNN.out;omega
        clear HC HN HS
        go_wp2_with fail
        go_roundw
        case rel=>exact⟨g+1,nn,y,by omega,by omega,by go_num,rfl,rfl,HNE,HYE,hn2,h3,HCE,by first | exact trivial | rfl⟩
        case measure=>simp[intOf];omega
       ·
        have i3:(3000:Int)<(y:Int):=by omega
        go_wp2_with fail
        go_ret
        exact⟨qgo.no gs os,rfl⟩
    ·
     have i60:(60:Int)<((n+gl:Nat):Int):=by omega
     obtain⟨nn,hnn⟩:∃nn,n+gl=nn:=⟨_,rfl⟩
     rw[hnn] at hwn i60
     clear hnn
     go_wp2_with fail
     go_ret
     exact⟨qgo.no gs os,rfl⟩
   ·
    have i50:¬(g:Int)<50:=by omega
    have i40:¬(gs.length:Int)≤40:=by omega
    go_wp2_with fail
    go_loopw [10] (fun x wr=>∃i:Nat,i≤os.length∧i≤20∧x= .int .i64 (i:Int)∧w=wr) (fun x _=>os.length-(intOf x).toNat)
    case atStart=>exact⟨0,qi _,by omega,rfl,rfl⟩
    case round =>
     obtain⟨i,hi,hi20,rfl,rfl⟩:=hrel
     by_cases hil:i<os.length
     ·
      have ii:(i:Int)<(os.length:Int):=by omega
      have ii0:(0:Int)≤(i:Int):=by omega
      by_cases h20:i<20
      ·
       have i20:(i:Int)<20:=by omega
       obtain⟨b9,off9,A9,c9,rfl,_,hbl9,e0,e1,e2,e3,hrd, -⟩:=HO.out.get hil
       obtain⟨dl,hdl⟩:∃dl,os[i].draws.length=dl:=⟨_,rfl⟩
       have HDL:=qa hdl
       have hrl:=hrd.len
       rw[ji] at hrl
       rw[hdl] at e3 hrl
       clear hrd hdl e0 e1 e2
       by_cases h60:dl≤60
       ·
        have i60:¬(60:Int)<(dl:Int):=by omega
        go_wp2_with fail
        go_roundw
        case rel=>exact⟨i+1,by omega,by omega,by go_num,by first | exact trivial | rfl⟩
        case measure=>simp[intOf];omega
       ·
        have i60:(60:Int)<(dl:Int):=by omega
        go_wp2_with fail
        go_ret
        exact⟨qgo.no gs os,rfl⟩
      ·
       have i20:¬(i:Int)<20:=by omega
       go_wp2_with fail
       go_ret
       exact⟨qgo.no gs os,rfl⟩
     ·
      have ii:¬(i:Int)<(os.length:Int):=by omega
      go_wp2_with fail
      go_ret
      exact⟨qgo.no gs os,rfl⟩
  ·
   have ig:¬(g:Int)<(gs.length:Int):=by omega
   go_wp2_with fail
   go_loopw [10] (fun x wr=>∃i:Nat,i≤os.length∧i≤20∧x= .int .i64 (i:Int)∧Hid (∀j (hj:j<os.length),j<i→os[j].draws.length≤60)∧w=wr) (fun x _=>os.length-(intOf x).toNat)
   case atStart=>exact⟨0,qi _,by omega,rfl,fun j hj h0=>absurd h0 (jp j),rfl⟩
   case round =>
    obtain⟨i,hi,hi20,rfl,HD,rfl⟩:=hrel
    by_cases hil:i<os.length
    ·
     have ii:(i:Int)<(os.length:Int):=by omega
     have ii0:(0:Int)≤(i:Int):=by omega
     by_cases h20:i<20
     ·
      have i20:(i:Int)<20:=by omega
      obtain⟨b9,off9,A9,c9,rfl,_,hbl9,e0,e1,e2,e3,hrd, -⟩:=HO.out.get hil
      obtain⟨dl,hdl⟩:∃dl,os[i].draws.length=dl:=⟨_,rfl⟩
      have HDL:=qa hdl
      have hrl:=hrd.len
      rw[ji] at hrl
      rw[hdl] at e3 hrl
      clear hrd hdl e0 e1 e2
      by_cases h60:dl≤60
      ·
       have i60:¬(60:Int)<(dl:Int):=by omega
       have HDN:Hid (∀j (hj:j<os.length),j<i+1→os[j].draws.length≤60):=fun j hj hj2=>by
        by_cases e:j=i
        ·
         subst e
         rw[HDL.out]
         exact h60
        ·
         exact HD.out j hj (by omega)
       go_wp2_with fail
       go_roundw
       case rel=>exact⟨i+1,by omega,by omega,by go_num,HDN,by first | exact trivial | rfl⟩
       case measure=>simp[intOf];omega
      ·
       have i60:(60:Int)<(dl:Int):=by omega
       go_wp2_with fail
       go_ret
       exact⟨qgo.no gs os,rfl⟩
     ·
      have i20:¬(i:Int)<20:=by omega
      have i12:¬(os.length:Int)≤12:=by omega
      by_cases h40:gs.length≤40
      ·
       have i40:(gs.length:Int)≤40:=by omega
       go_wp2_with fail
       go_ret
       exact⟨qgo.no gs os,rfl⟩
      ·
       have i40:¬(gs.length:Int)≤40:=by omega
       go_wp2_with fail
       go_ret
       exact⟨qgo.no gs os,rfl⟩
    ·
     have ii:¬(i:Int)<(os.length:Int):=by omega
     by_cases h40:gs.length≤40
     ·
      have i40:(gs.length:Int)≤40:=by omega
      by_cases h12:os.length≤12
      ·
       have i12:(os.length:Int)≤12:=by omega
       have HF:Hid (gs.take g=gs):=qo (by omega)
       have HFG:Hid (FewSg gs os):=⟨h40,h12,by rw[←HF.out,←HN.out];exact hn60,by rw[←HF.out,←HS.out];exact hz3,fun q hq r hr=>by
        obtain⟨j,hj,rfl⟩:=zq hq
        exact HC.out j hj (by omega) r hr,fun o ho=>by
        obtain⟨j,hj,rfl⟩:=zq ho
        exact HD.out j hj (by omega)⟩
       go_wp2_with fail
       go_ret
       exact⟨⟨true,rfl,fun _=>HFG.out⟩,rfl⟩
      ·
       have i12:¬(os.length:Int)≤12:=by omega
       go_wp2_with fail
       go_ret
       exact⟨qgo.no gs os,rfl⟩
     ·
      have i40:¬(gs.length:Int)≤40:=by omega
      go_wp2_with fail
      go_ret
      exact⟨qgo.no gs os,rfl⟩
end Go.Proofs.YtnjkipnklpkaoaaGreat
