/-
  Lemmas.
-/
import Derived.Test.YtjfecojdagmacaaGreatE15
import Derived.Test.YtjfecojdagmacaaGreatE16
namespace Go.Proofs.YtjfecojdagmacaaGreat
open Go.RowKit
set_option maxRecDepth 20000
set_option maxHeartbeats 16000000
set_option linter.unusedSimpArgs false
set_option linter.unusedVariables false
section
open Go.RowKit Go.Shelf
theorem keeps_row{w w':World}{lo n:Nat}{e:TypeId}{v:Value}{xs:List Value}(h:w.ownsRow lo e 1 v n xs)(hg:w.grownBy w' v.ownBlock):KeepsOthers w w' :=
 KeepsOthers.of_grownBy hg fun j o ej hj=>by
  rcases h.2 with ⟨rfl,_⟩ | ⟨g,cap,cur,rfl,_,hgb,_⟩
  ·
   simp[Value.ownBlock] at ej
  ·
   obtain rfl:g=j:=by simpa[Value.ownBlock] using ej
   rw[hgb] at hj
   cases hj
   rfl
theorem qi3{w w':World}{lo B:Nat}{row:Option Nat}(hg:w.grownBy w' row)(hr:∀g,row=some g→lo≤g)(hB:B<lo)(hs:B<w.heap.size):w'.heap[B]? = w.heap[B]? :=
 hg.block B hs fun e=>by have:=hr B e.symm;omega
theorem qdw{w w':World}{B:Nat}{t:TypeId}{v:Value}(h:Boxed w B t v)(e:w'.heap[B]? = w.heap[B]?):Boxed w' B t v:=e.trans h
section
variable {w w':World}{lo:Nat}{u v:Value}{ss:List Nat}{bs:List UInt8}
theorem SB.keptG{row:Option Nat}(h:SB w lo w.heap.size u v ss bs)(hg:w.grownBy w' row)(hr:∀r,row=some r→∃o:Obj,w.heap[r]? = some o∧o.isCells=false):SB w' lo w'.heap.size u v ss bs:=by
 have h1:=row_keep h.o1 hg hr
 have h2:=row_keep h.o2 hg hr
 exact⟨h1,h2,fun g hg2=>(zk h1 hg2).2,fun g hg2=>(zk h2 hg2).2,h.ap⟩
theorem SB.onBelow(h:SB w lo w.heap.size u v ss bs)(hb:Below w.heap.size w w'):SB w' lo w'.heap.size u v ss bs:=(h.below hb (qc _)).top
theorem SB.setBox{B:Nat}(h:SB w lo w.heap.size u v ss bs)(hB:B<lo)(x:Value):SB (w.setCell ⟨B,0,none⟩ x) lo (w.setCell ⟨B,0,none⟩ x).heap.size u v ss bs:=by
 have hk:∀k,lo≤k→(w.setCell ⟨B,0,none⟩ x).heap[k]? = w.heap[k]?:=fun k hk=>Below.heap_setCell _ _ _ _ (by show k≠B;omega)
 have h1:=jw h.o1 (w':=w.setCell ⟨B,0,none⟩ x) fun k hk2=>hk k (zk h.o1 hk2).1
 have h2:=jw h.o2 (w':=w.setCell ⟨B,0,none⟩ x) fun k hk2=>hk k (zk h.o2 hk2).1
 exact⟨h1,h2,fun g hg2=>(zk h1 hg2).2,fun g hg2=>(zk h2 hg2).2,h.ap⟩
theorem SB.pushN{A:Option Addr}{n c:Nat}(h:SB w lo w.heap.size (.slice A n c) v ss bs)(hn:n=ss.length)(x:Nat)(hl:n≤1000000000)(hlo:lo≤w.heap.size) :
  ∃A' c' w',(Builtin.append_ #[58,58] 58 #[.slice A n c,.slice (some ⟨w.heap.size,0,none⟩) 1 1]).run Tryz.prog (w.alloc (.cells #[.int .i64 (x:Int)] 3))= .ok (.slice A' (n+1) c') w'∧
   SB w' lo w'.heap.size (.slice A' (n+1) c') v (ss++[x]) bs∧(w.alloc (.cells #[.int .i64 (x:Int)] 3)).grownBy w' (Value.slice A n c).ownBlock∧KeepsOthers w w'∧∀g,(Value.slice A n c).ownBlock=some g→lo≤g∧g<w.heap.size:=by
 subst hn
 have hil:=zq ss
 have h1:(w.alloc (.cells #[.int .i64 (x:Int)] 3)).ownsRow lo 3 1 (.slice A ss.length c) (jf ss).length (iv (jf ss)):=by rw[hil];exact h.o1.alloc _
 obtain⟨A',c',w',hrun,ho,hg,hb⟩:=qit (w.alloc (.cells #[.int .i64 (x:Int)] 3)) lo (.slice A ss.length c) (jf ss) [(x:Int)] (jf (ss++[x])) (by simp[jf]) h1 (rd_ints w 3 [(x:Int)] #[.int .i64 (x:Int)] rfl (by simp)) (by rw[hil];simp;omega) (by simp;omega)
 rw[zq,qd] at hrun ho hb
 have hv:v.ownBlock=none∨v.ownBlock≠(Value.slice A ss.length c).ownBlock:=by
  cases hx:v.ownBlock with
  | none=>exact Or.inl rfl
  | some g=>exact Or.inr fun e=>h.ap g e.symm hx
 have ho2:=(h.o2.alloc (.cells #[.int .i64 (x:Int)] 3)).kept hg hv
 refine⟨A',c',w',hrun,⟨by rw[qd];exact ho,ho2,fun g hg2=>(zk ho hg2).2,fun g hg2=>(zk ho2 hg2).2,fun g hg2 hg3 => ?_⟩,hg,(KeepsOthers.alloc _ _).trans (keeps_row (by rw[hil] at h1;exact h1) hg),fun g hg2=>zk h.o1 hg2⟩
 rcases hb with e | e
 ·
  exact h.ap g (e.symm.trans hg2) hg3
 ·
  have h3:=(zk h.o2 hg3).2
  have h4:(Value.slice A' (ss.length+1) c').ownBlock=some g:=hg2
  have h5:some g=some (w.alloc (.cells #[.int .i64 (x:Int)] 3)).heap.size:=h4.symm.trans e
  injection h5 with h5
  simp at h5
  omega
theorem SB.moreG{A B:Option Addr}{n c k d lo2 hi2:Nat}{news all:List UInt8}(h:SB w lo w.heap.size u (.slice A n c) ss bs)(hn:n=bs.length)(hk:k=news.length)(ha:bs++news=all)(hr:Rd w lo2 hi2 B d (bv news))(hl:n+k≤140737488355328)(hlo:lo≤w.heap.size) :
  ∃A' c' w',(Builtin.append_ #[36,36] 36 #[.slice A n c,.slice B k d]).run Tryz.prog w= .ok (.slice A' all.length c') w'∧SB w' lo w'.heap.size u (.slice A' all.length c') ss all∧
   w.grownBy w' (Value.slice A n c).ownBlock∧KeepsOthers w w'∧∀g,(Value.slice A n c).ownBlock=some g→lo≤g∧g<w.heap.size:=by
 subst hn hk
 obtain⟨A',c',w',hrun,ho,hg,hb⟩:=qhv w lo (.slice A bs.length c) bs news all ha h.o2 hr hl hlo
 have hu:u.ownBlock=none∨u.ownBlock≠(Value.slice A bs.length c).ownBlock:=by
  cases hx:u.ownBlock with
  | none=>exact Or.inl rfl
  | some g=>exact Or.inr fun e=>h.ap g hx e.symm
 have ho1:=h.o1.kept hg hu
 refine⟨A',c',w',hrun,⟨ho1,ho,fun g hg2=>(zk ho1 hg2).2,fun g hg2=>(zk ho hg2).2,fun g hg2 hg3 => ?_⟩,hg,keeps_row h.o2 hg,fun g hg2=>zk h.o2 hg2⟩
 rcases hb with e | e
 ·
  exact h.ap g hg2 (e.symm.trans hg3)
 ·
  have h3:=(zk h.o1 hg2).2
  have h5:some g=some w.heap.size:=hg3.symm.trans e
  injection h5 with h5
  omega
end
end
section
open Go.RowKit Go.Shelf
attribute [local go_sem] Oper.semAt_some
def qe7(K:Nat)(l:List ByteArray)(x:Ck K l.length):List (List UInt8):=((qt l).drop (x.i*K)).take K
def BI(b6 b7 lo:Nat)(S:List Nat)(E:List UInt8)(W:World):Prop :=
 ∃As cs Aa ca,Boxed W b6 58 (.slice As S.length cs)∧Boxed W b7 36 (.slice Aa E.length ca)∧SB W lo W.heap.size (.slice As S.length cs) (.slice Aa E.length ca) S E
theorem BI.own(b6 b7 lo:Nat){α:Type}(S:α→List Nat)(E:α→List UInt8):Own (fun s=>BI b6 b7 lo (S s) (E s)):=fun s X Y row h hg hr=>by
 obtain⟨As,cs,Aa,ca,h6,h7,hsb⟩:=h
 exact⟨As,cs,Aa,ca,qau h6 hg hr,qau h7 hg hr,hsb.keptG hg hr⟩
theorem four_boxes(w:World)(t0 t1 t2 t3:TypeId)(v0 v1 v2 v3:Value):∃W,(((w.alloc (.cells #[v0] t0)).alloc (.cells #[v1] t1)).alloc (.cells #[v2] t2)).alloc (.cells #[v3] t3)=W∧
  Boxed W w.heap.size t0 v0∧Boxed W (w.heap.size+1) t1 v1∧Boxed W (w.heap.size+1+1) t2 v2∧Boxed W (w.heap.size+1+1+1) t3 v3∧Below w.heap.size w W∧W.heap.size=w.heap.size+1+1+1+1:=by
 refine⟨_,rfl,?_,?_,?_,?_,?_,?_⟩
 ·
  exact(((Boxed.new w t0 v0).alloc _).alloc _).alloc _
 ·
  have:=((Boxed.new (w.alloc (.cells #[v0] t0)) t1 v1).alloc (.cells #[v2] t2)).alloc (.cells #[v3] t3)
  simpa only[ym] using this
 ·
  have:=(Boxed.new ((w.alloc (.cells #[v0] t0)).alloc (.cells #[v1] t1)) t2 v2).alloc (.cells #[v3] t3)
  simpa only[ym] using this
 ·
  have:=Boxed.new (((w.alloc (.cells #[v0] t0)).alloc (.cells #[v1] t1)).alloc (.cells #[v2] t2)) t3 v3
  simpa only[ym] using this
 ·
  exact((((Below.refl _ w).alloc (qc _) _).alloc (by simp only[ym];omega) _).alloc (by simp only[ym];omega) _).alloc (by simp only[ym];omega) _
 ·
  simp only[ym]
theorem rd_piece{w:World}{lo hi b off c k m:Nat}{l:List ByteArray}(h:Rd w lo hi (some ⟨b,off,none⟩) c (sv l))(hk:k+m≤l.length):Rd w lo hi (some ⟨b,off+k,none⟩) m (sv ((l.drop k).take m)):=by
 have hl:=h.len
 have hc:=h.cap
 rw[xr] at hl
 refine⟨by rw[xr,qy];omega,by omega,fun h0 => ?_⟩
 rw[xr,qy,qv] at h0
 obtain⟨b2,off2,e,h1,h2,h3⟩:=h.at_ (by rw[xr];omega)
 cases e
 refine⟨b,off+k,rfl,h1,h2,fun j u hu => ?_⟩
 rw[qaz]
 refine h3 (k+j) u ?_
 rw[sv_take,sv_drop,uo] at hu
 split at hu
 ·
  rw[List.getElem?_drop] at hu
  exact hu
 ·
  cases hu
theorem rd_cells(w:World)(t:TypeId)(xs:List Value)(cs:Array Value){n:Nat}(h:cs.toList=xs)(hn:xs.length=n)(hm:n≤1000):Rd (w.alloc (.cells cs t)) 0 (w.alloc (.cells cs t)).heap.size (some ⟨w.heap.size,0,none⟩) n xs:=by
 subst h hn
 refine⟨qc _,by unfold maxLen;omega,fun _=>⟨w.heap.size,0,rfl,qj _,by simp,fun j u hu => ?_⟩⟩
 rw[yk,cell_of_row _ w.heap.size j cs t (0,0) (heap_alloc_new w _)]
 simpa using hu
theorem qjj{w w':World}{A:Option Addr}{c:Nat}{xs:List Value}(h:Rd w 0 w.heap.size A c xs)(hb:Below w.heap.size w w'):Rd w' 0 w'.heap.size A c xs:=(h.below hb (qc _)).wide (qc _) hb.size
theorem own_apart{w:World}{base n hi:Nat}{e:TypeId}{v u:Value}{xs:List Value}(h:w.ownsRow base e 1 v n xs)(hu:∀g,u.ownBlock=some g→g<hi)(hb:hi≤base:=by omega):v.ownBlock=none∨v.ownBlock≠u.ownBlock:=by
 cases hx:v.ownBlock with
 | none=>exact Or.inl rfl
 | some q =>
  refine Or.inr fun e => ?_
  have h1:=(zk h hx).1
  have h2:=hu q e.symm
  omega
theorem World_lt{w:World}{D:Nat}{o:Obj}(h:w.heap[D]? = some o):D<w.heap.size:=(xc.1 h).1
theorem concat4{W1 w2 w3 wd:World}{A1 Aa A2 A3:Option Addr}{c1 ca c2 c3:Nat}{wl E p1 p2 fr:List UInt8}(h1:Rd W1 0 W1.heap.size A1 c1 (bv wl))(h2:Rd W1 0 W1.heap.size Aa ca (bv E))
  (h3:w2.ownsRow wd.heap.size 5 1 (.slice A2 p1.length c2) p1.length (bv p1)) (h4:w3.ownsRow w2.heap.size 5 1 (.slice A3 p2.length c3) p2.length (bv p2)) (hb2:Below W1.heap.size W1 w2) (hb3:Below w2.heap.size w2 w3)
  (hfr:fr=yg [⟨none,0,p1⟩,⟨none,0,p2⟩,⟨none,0,wl⟩,⟨none,0,E⟩]) (h0:0<fr.length) (hm:fr.length≤100000000000000) :
  Calls Tryz.prog 109 #[.slice (some ⟨w3.heap.size,0,none⟩) 4 4] (w3.alloc (.cells #[.slice A2 p1.length c2,.slice A3 p2.length c3,.slice A1 wl.length c1,.slice Aa E.length ca] 36)) fun r w'=>∃A' c',r= .returned (.slice A' fr.length c')∧
   w'.ownsRow (w3.heap.size+1) 5 1 (.slice A' fr.length c') fr.length (bv fr)∧Below (w3.heap.size+1) (w3.alloc (.cells #[.slice A2 p1.length c2,.slice A3 p2.length c3,.slice A1 wl.length c1,.slice Aa E.length ca] 36)) w':=by
 have hal:Below w3.heap.size w3 (w3.alloc (.cells #[.slice A2 p1.length c2,.slice A3 p2.length c3,.slice A1 wl.length c1,.slice Aa E.length ca] 36)):=(Below.refl _ _).alloc (qc _) _
 have H:=qmg (w:=w3.alloc (.cells #[.slice A2 p1.length c2,.slice A3 p2.length c3,.slice A1 wl.length c1,.slice Aa E.length ca] 36)) [⟨A2,c2,p1⟩,⟨A3,c3,p2⟩,⟨A1,c1,wl⟩,⟨Aa,ca,E⟩] (A:=some ⟨w3.heap.size,0,none⟩) (c:=4)
  (rd_cells w3 36 _ _ (by simp[Part.val]) (by simp) (by omega))
  (fun p hp=>by
   simp only[zv,vd,or_false] at hp
   rcases hp with rfl | rfl | rfl | rfl
   ·
    exact qjj (qjj ((Rd.of_own h3).wide (qj _) (qc _)) hb3) hal
   ·
    exact qjj ((Rd.of_own h4).wide (qj _) (qc _)) hal
   ·
    exact qjj (qjj (qjj h1 hb2) hb3) hal
   ·
    exact qjj (qjj (qjj h2 hb2) hb3) hal)
 rw[show yg [⟨A2,c2,p1⟩,⟨A3,c3,p2⟩,⟨A1,c1,wl⟩,⟨Aa,ca,E⟩]=fr from hfr.symm] at H
 have e:(w3.alloc (.cells #[.slice A2 p1.length c2,.slice A3 p2.length c3,.slice A1 wl.length c1,.slice Aa E.length ca] 36)).heap.size=w3.heap.size+1:=by simp
 rw[e] at H
 exact H h0 hm
theorem flat_le{α:Type}{f:α→List UInt8}{B:Nat}(h:∀x,(f x).length≤B):∀l:List α,(l.map f).flatten.length≤B*l.length
 | []=>by simp
 | x :: l=>by
  have h1:=h x
  have h2:=flat_le h l
  rw[y8,ke,qd,qo,qcm]
  omega
theorem part_le{K:Nat}(hK2:K≤64){l:List ByteArray}(h4:∀s∈l,s.size≤4096)(x:Ck K l.length):(kb (qe7 K l x)).length≤4200*64:=by
 have hbl:=blk_len (t:=qe7 K l x) fun s hs=>by
  obtain⟨y,hy,rfl⟩:=za.1 (List.mem_of_mem_drop (vg hs))
  rw[qgp]
  exact h4 y hy
 have:(qe7 K l x).length≤K:=by unfold qe7;rw[qy];omega
 omega
set_option maxRecDepth 100000 in
set_option maxHeartbeats 4000000 in
theorem fbuild_yes{w:World}(l:List ByteArray)(K:Nat)(hK:1≤K)(hK2:K≤64)(hd:qjf (qt l)=true){c:Nat}{A:Option Addr}(h:Rd w 0 w.heap.size A c (sv l)) :
  Calls Tryz.prog 210 #[.slice A l.length c,.int .i64 (K:Int)] w fun r w'=>∃A' c',r= .returned (.tuple #[.slice A' (k9 K (qt l)).length c',.int .i64 0])∧
   w'.ownsRow w.heap.size 5 1 (.slice A' (k9 K (qt l)).length c') (k9 K (qt l)).length (bv (k9 K (qt l)))∧Below w.heap.size w w':=by
 have hl:=h.len
 have hm:=h.cap
 rw[xr] at hl
 unfold maxLen at hm
 obtain⟨hD1,hD2,_⟩:=qc1.1 hd
 obtain⟨fr,hfr0⟩:∃fr,k9 K (qt l)=fr:=⟨_,rfl⟩
 rw[hfr0]
 rw[zb] at hD1
 have h4:∀s∈l,s.size≤4096:=fun s hs=>by
  have:=hD2 _ (vx hs)
  rw[qgp] at this
  exact this
 have H4:=qa h4
 have HF:=qa (fun w=>ffits_any (w:=w) (K:Int))
 rw[qx (show(1:Int)≤(K:Int)∧(K:Int)≤64 by omega)] at HF
 have HR:=qa (fright_any l h fun s hs=>by have:=h4 s hs;omega)
 rw[hd] at HR
 have H:=qa h
 refine(callsIn_wide (n:=4)).1 ?_
 clear h h4
 refine callsIn_of_wp_marks Tryz.func210 rfl trivial ?_ rfl
 simp only[Tryz.ntmps210,qcn,qo,jy,Nat.reduceAdd,Nat.reduceSub,qcr,qcq,List.push_toArray,qdm,xu,z7]
 refine wpIn_wide.2 ?_
 go_wp2_with fail
 refine(HF.out _).mono ?_
 rintro r w' ⟨rfl,rfl⟩
 go_wp2_with fail
 refine HR.out.mono ?_
 rintro r w' ⟨rfl,rfl⟩
 clear HR HF
 go_wp2_with fail
 refine((callsIn_wide (n:=3)).1 (chunk_in 3 A l.length c K hK _)).mono ?_
 rintro r w' ⟨rfl,rfl⟩
 go_wp2_with fail
 obtain⟨W0,hW0,x6,x7,x8,x9,hB0,hs0⟩:=four_boxes w 58 36 52 3 (.slice none 0 0) (.slice none 0 0) (.slice A l.length c) (.int .i64 (K:Int))
 rw[hW0]
 clear hW0
 obtain⟨b7,e7⟩:∃b,w.heap.size+1=b:=⟨_,rfl⟩
 rw[e7] at x7 x8 x9 hs0 ⊢
 obtain⟨b8,e8⟩:∃b,b7+1=b:=⟨_,rfl⟩
 rw[e8] at x8 x9 hs0 ⊢
 obtain⟨b9,e9⟩:∃b,b8+1=b:=⟨_,rfl⟩
 rw[e9] at x9 hs0 ⊢
 obtain⟨b6,e6⟩:∃b,w.heap.size=b:=⟨_,rfl⟩
 have HH:Hid (Rd w 0 b6 A c (sv l)):=by rw[←e6];exact H.out
 clear H
 rw[e6] at x6 e7 hB0 ⊢
 obtain⟨b,off,hA⟩:∃b off,0<l.length→A=some ⟨b,off,none⟩∧b<b6:=by
  rcases jh l.length with h0 | h0
  ·
   exact⟨0,0,fun h=>by omega⟩
  ·
   obtain⟨b,off,e,_,h2,_⟩:=HH.out.at_ (by rw[xr];exact h0)
   exact⟨b,off,fun _=>⟨e,h2⟩⟩
 obtain⟨b10,e10⟩:∃b,b9+1=b:=⟨_,rfl⟩
 rw[e10] at hs0
 refine(wpIn_wide (n:=4)).1 ?_
 refine wpIn_rangeFunc_ownG rfl (by omega) (gf:=242) (lb:=chunkV b8 b9) rfl trivial (enters_of Tryz.func242 (by kernel_rfl) rfl)
  (chunk_stops 3 (by omega) b8 b9 b6 l.length K hK hK2 (by omega) hl hm (fun h=>(hA h).1) W0 x8 x9)
  Kp2.trans (fun W lk o o' hlk hk ho hwk=>⟨belowK_b (w:=W0) (by omega) W lk o o' hlk hk ho hwk,World.putObj_heap_other (by omega),World.putObj_heap_other (by omega)⟩) (Below.refl _ _) (fun _=>rfl)
  (fun pre W=>BI b6 b7 b10 (pre.map fun x=>(kb (qe7 K l x)).length) ((pre.map fun x=>kb (qe7 K l x)).flatten) W∧Below b6 W0 W)
  (fun _ _ _=>False)
  (OwnFrom.and (Own.from (BI.own _ _ _ _ _) _) (ownFrom_below (by omega) (by omega)))
  (fun c=>Own.from (fun s X Y row hs hg hr=>hs) _)
  ⟨⟨none,0,none,0,x6,x7,SB.nil _ _ _⟩,Below.refl _ _⟩
  (fun x=>{ tmps:=#[.slice A l.length c,.int .i64 (K:Int),undef,undef,.slice none 0 0,.int .i64 0,.pointer (some ⟨b6,0,none⟩),.pointer (some ⟨b7,0,none⟩),.slice (some ⟨b,off+x.i*K,none⟩) (ckN K l.length x.i) (ckN K l.length x.i),undef,undef,undef,.int .i64 (K:Int),.bool true,.bool false,.bool false,.slice A l.length c,.bool true,.bool false,.bool false,.slice A l.length c,.int .i64 (K:Int),.func (.func 242) #[] (chunkV b8 b9),.slice (some ⟨b,off+x.i*K,none⟩) (ckN K l.length x.i) (ckN K l.length x.i),undef,undef,undef,undef,undef,undef,undef,undef,undef,undef,undef,undef,undef,undef,undef,undef,undef,undef,undef,undef,undef,undef,undef,undef,undef,undef,undef],defers:=[] }) ?assign ?body ?done ?stop
 case assign =>
  intro lp x W K' hK'
  dsimp only[encCk]
  gi_wp2
  exact hK'
 case body =>
  rintro lp pre x W ⟨⟨As,cs,Aa,ca,h6,h7,hsb⟩,hBW⟩ hlt
  have hlo:b10≤W.heap.size:=by have:=hBW.size;omega
  have hB:=hB0.trans hBW
  obtain⟨hA1,hA2⟩:=hA (by have:=x.h;omega)
  subst hA1
  obtain⟨P,hP⟩:∃P,(l.drop (x.i*K)).take (ckN K l.length x.i)=P:=⟨_,rfl⟩
  have hxh:=x.h
  have hck:ckN K l.length x.i≤K∧x.i*K+ckN K l.length x.i≤l.length∧0<ckN K l.length x.i:=by unfold ckN;omega
  have hPp:qt P=qe7 K l x:=by
   rw[←hP]
   unfold qe7 qt
   rw[List.map_take,List.map_drop,List.take_eq_take_iff]
   unfold ckN
   simp
   try omega
  have hPl:P.length=ckN K l.length x.i:=by rw[←hP,qy,qv];omega
  have hrd:=rd_piece HH.out hck.2.1
  rw[hP] at hrd
  obtain⟨m,hmm⟩:∃m,ckN K l.length x.i=m+1:=⟨ckN K l.length x.i-1,by omega⟩
  rw[hmm] at hck hPl hrd ⊢
  have hP4:∀s∈P,s.size≤4096:=fun s hs=>H4.out s (List.mem_of_mem_drop (vg (by rw[hP];exact hs)))
  have hszW:=hB.size
  have HC:=qa (fcode_any (w:=W) P hPl (by omega) ((hrd.below hB (qc _)).wide (qc _) (by omega)) hP4)
  rw[hPp] at HC
  have hbl:=blk_len (t:=qe7 K l x) fun s hs=>by
   rw[←hPp] at hs
   obtain⟨y,hy,rfl⟩:=za.1 hs
   rw[qgp]
   exact hP4 y hy
  rw[←hPp,zb,hPl,hPp] at hbl
  obtain⟨S,hS⟩:∃S,(pre.map fun x=>(kb (qe7 K l x)).length)=S:=⟨_,rfl⟩
  obtain⟨E,hE⟩:∃E,(pre.map fun x=>kb (qe7 K l x)).flatten=E:=⟨_,rfl⟩
  obtain⟨S2,hS2⟩:∃S2,((pre++[x]).map fun x=>(kb (qe7 K l x)).length)=S2:=⟨_,rfl⟩
  obtain⟨E2,hE2⟩:∃E2,((pre++[x]).map fun x=>kb (qe7 K l x)).flatten=E2:=⟨_,rfl⟩
  have hEl:E.length≤2000000000:=by
   have:=flat_le (f:=fun x=>kb (qe7 K l x)) (B:=4200*64) (fun x=>part_le hK2 H4.out x) pre
   rw[hE] at this
   have h5:=qbl (4200*64) (show pre.length≤4096 by omega)
   omega
  rw[hS] at h6
  rw[hE] at h7
  rw[hS,hE] at hsb
  obtain⟨bk,hbk⟩:∃bk,kb (qe7 K l x)=bk:=⟨_,rfl⟩
  rw[hbk] at HC hbl
  have hSS:S++[bk.length]=S2:=by rw[←hS2,jg,hS,y8,qbu,hbk]
  have hEE:E++bk=E2:=by rw[←hE2,jg,List.flatten_append,hE,y8,qbu,hbk];simp
  have hSl:S.length≤4096:=by rw[←hS,qz];omega
  have HS2:=qa hS2
  have HE2:=qa hE2
  clear hS hE hbk hS2 hE2
  gi_wp2
  refine⟨trivial,(CallsIn.inRound lp (callsIn_wide.2 HC.out)).mono ?_⟩
  rintro r W1 ⟨A1,c1,rfl,ho1,hb1⟩
  have hszW1:=hb1.size
  have k6:=qdw h6 (hb1.block b6 (by omega))
  have k7:=qdw h7 (hb1.block b7 (by have:=h7.lt;omega))
  have ksb:=hsb.onBelow hb1
  obtain⟨A2,c2,W2,hrun2,hsb2,hg2,hk2,hr2⟩:=ksb.pushN rfl bk.length (by omega) (by omega)
  rw[hSS] at hsb2
  have hszA:(W1.alloc (.cells #[.int .i64 (bk.length:Int)] 3)).heap.size=W1.heap.size+1:=by simp
  have hrow2:∀g,(Value.slice As S.length cs).ownBlock=some g→b10≤g:=fun g hg=>(hr2 g hg).1
  have m6:=qdw (k6.alloc (.cells #[.int .i64 (bk.length:Int)] 3)) (qi3 hg2 hrow2 (by omega) (by omega))
  have m7:=qdw (k7.alloc (.cells #[.int .i64 (bk.length:Int)] 3)) (qi3 hg2 hrow2 (by omega) (by omega))
  have ho2:=(ho1.alloc (.cells #[.int .i64 (bk.length:Int)] 3)).kept hg2 (own_apart ho1 hsb.h1)
  have hBel2:Below b6 W W2:=((hb1.mono (by omega)).alloc (by omega) _).grown hg2 (by omega) (fun g hg=>by have:=hrow2 g hg;omega)
  have c6:=k6.cell
  have c6b:=m6.cell
  have f6b:=m6.frozen
  gi_wp2_with (gi_at_builtin;refine qdk rfl _ _ _ rfl _ _ rfl rfl hrun2 ?_;refine qbj ?_)
  refine⟨?_⟩
  clear hrun2 c6
  -- the box of the numbers
  have n6:=m6.set (.slice A2 (S.length+1) c2)
  have n7:Boxed (W2.setCell ⟨b6,0,none⟩ (.slice A2 (S.length+1) c2)) b7 36 (.slice Aa E.length ca):=qbe m7 (by omega)
  have nsb:=hsb2.setBox (B:=b6) (by omega) (.slice A2 (S.length+1) c2)
  have no:=jw (w':=W2.setCell ⟨b6,0,none⟩ (.slice A2 (S.length+1) c2)) ho2 (fun k hk=>Below.heap_setCell _ _ _ _ (by have:=(zk ho1 hk).1;show k≠b6;omega))
  have nk:KeepsOthers W1 (W2.setCell ⟨b6,0,none⟩ (.slice A2 (S.length+1) c2)):=hk2.trans (KeepsOthers.setCell _ _ _)
  have nb:=hBel2.setCell (p:=⟨b6,0,none⟩) (qc _) (.slice A2 (S.length+1) c2)
  obtain⟨W3,hW3⟩:∃W3,W2.setCell ⟨b6,0,none⟩ (.slice A2 (S.length+1) c2)=W3:=⟨_,rfl⟩
  rw[hW3] at n6 n7 nsb no nk nb
  have hszW3:=nb.size
  obtain⟨A4,c4,W4,hrun4,hsb4,hg4,hk4,hr4⟩:=nsb.moreG rfl rfl hEE (Rd.of_own no) (by omega) (by omega)
  have hrow4:∀g,(Value.slice Aa E.length ca).ownBlock=some g→b10≤g:=fun g hg=>(hr4 g hg).1
  have p6:=qdw n6 (qi3 hg4 hrow4 (by omega) n6.lt)
  have p7:=qdw n7 (qi3 hg4 hrow4 (by omega) n7.lt)
  have q6:Boxed (W4.setCell ⟨b7,0,none⟩ (.slice A4 E2.length c4)) b6 58 (.slice A2 (S.length+1) c2):=qbe p6 (by omega)
  have q7:=p7.set (.slice A4 E2.length c4)
  have qsb:=hsb4.setBox (B:=b7) (by omega) (.slice A4 E2.length c4)
  have qk:KeepsOthers W1 (W4.setCell ⟨b7,0,none⟩ (.slice A4 E2.length c4)):=(nk.trans hk4).trans (KeepsOthers.setCell _ _ _)
  have qb:=(nb.grown hg4 (by omega) (fun g hg=>by have:=hrow4 g hg;omega)).setCell (p:=⟨b7,0,none⟩) (by show b6≤b7;omega) (.slice A4 E2.length c4)
  have qh:∀B,B<b10→B≠b6→B≠b7→(W4.setCell ⟨b7,0,none⟩ (.slice A4 E2.length c4)).heap[B]? = W.heap[B]?:=fun B h1 h2 h3=>by
   have hW1:=hb1.block B (by omega)
   have hW2:=qi3 hg2 hrow2 h1 (by omega)
   have hWa:(W1.alloc (.cells #[.int .i64 (bk.length:Int)] 3)).heap[B]? = W1.heap[B]?:=Below.heap_alloc _ _ _ (by omega)
   have hW3b:W3.heap[B]? = W2.heap[B]?:=by rw[←hW3];exact Below.heap_setCell _ _ _ _ h2
   have hW4:=qi3 hg4 hrow4 h1 (by omega)
   have hW5:(W4.setCell ⟨b7,0,none⟩ (.slice A4 E2.length c4)).heap[B]? = W4.heap[B]?:=Below.heap_setCell _ _ _ _ h3
   rw[hW5,hW4,hW3b,hW2,hWa,hW1]
  have HQ:=qa (⟨q6,q7,qsb,qk,qb,qh⟩:_∧_∧_∧_∧_∧_)
  have c7:=n7.cell
  have c7b:=p7.cell
  have f7b:=p7.frozen
  have hS2l:S2.length=S.length+1:=by rw[←hSS,qd,zx]
  have HSL:=qa hS2l
  have HKB:=qa (⟨hb1,hBW⟩:_∧_)
  clear q6 q7 qsb qk qb qh p6 p7 hsb4 hk4 hg4 n6 n7 nsb no nk nb hS2l m6 m7 hsb2 hg2 hk2 ho2 hBel2 k6 k7 ksb h6 h7 hsb ho1 hb1 hSS hEE hrow2 hrow4 hr2 hr4
  gi_wp2_with (gi_at_builtin;refine qdk rfl _ _ _ rfl _ _ rfl rfl hrun4 ?_)
  obtain⟨q6,q7,qsb,qk,qb,qh⟩:=HQ.out
  obtain⟨hb1,hBW⟩:=HKB.out
  refine⟨((KeepsOthers.of_grownBy (qgu (qc _) hb1) (fun j o e _=>by cases e)).trans qk).from _,⟨qb,qh b8 (by omega) (by omega) (by omega),qh b9 (by omega) (by omega) (by omega)⟩,?_,hBW.trans qb⟩
  show BI b6 b7 b10 _ _ _
  rw[HS2.out,HE2.out]
  exact⟨A2,c2,A4,c4,by rw[HSL.out];exact q6,q7,by rw[HSL.out];exact qsb⟩
 case done =>
  rintro D ys W hD rfl ⟨⟨As,cs,Aa,ca,h6,h7,hsb⟩,hBW⟩ hKd
  have hlo:b10≤W.heap.size:=by have:=hBW.size;omega
  have hB:=hB0.trans hBW
  have hck:∀n,n=(qt l).length→(cks K n 0).map (fun x=>((qt l).drop (x.i*K)).take K)=qhq K (qt l) 0 (vz (qt l).length K):=fun n hn=>by subst hn;exact cks_all hK (qt l)
  have hc2:=hck l.length (zb l).symm
  obtain⟨hs1,hs2⟩:=qkr (l:=qt l) hK
  obtain⟨S,hS⟩:∃S,xw K (qt l) (qt l).length=S:=⟨_,rfl⟩
  obtain⟨E,hE⟩:∃E,qbq K (qt l) (qt l).length=E:=⟨_,rfl⟩
  have e1:(cks K l.length 0).map (fun x=>(kb (qe7 K l x)).length)=S:=by
   rw[←hS,hs1,←hc2,uk]
   rfl
  have e2:((cks K l.length 0).map fun x=>kb (qe7 K l x)).flatten=E:=by
   rw[←hE,hs2,←hc2,uk]
   rfl
  rw[e1] at h6
  rw[e2] at h7
  rw[e1,e2] at hsb
  have hmay:=(qiy (K:=K) hd).1
  have hSl:=(qiy (K:=K) hd).2
  have hEl:=qk0 K hD2 (qt l).length
  rw[zb] at hEl
  rw[hS] at hmay hSl
  rw[zb] at hE
  rw[hE] at hEl
  have hfr:fr=yg [⟨none,0,jc l.length⟩,⟨none,0,jc K⟩,⟨none,0,jr (jf S)⟩,⟨none,0,E⟩]:=by
   rw[←hfr0]
   unfold k9 yg
   rw[hS,zb,hE]
   simp
  have HW:=qa (qjz (w:=W) (jf S) hmay ((Rd.of_own hsb.o1).wide (qj _) (qc _)) (qc _) (by rw[zq];omega))
  rw[zq] at HW
  have c6:=h6.cell
  clear e1 e2 hs1 hs2 hc2 hck hS hE
  go_wp2_with fail
  refine HW.out.mono ?_
  rintro r W1 ⟨A1,c1,rfl,ho1,hb1⟩
  have hWl:=qb9 hmay (by rw[zq];omega)
  obtain⟨wl,hwl⟩:∃wl,jr (jf S)=wl:=⟨_,rfl⟩
  rw[hwl] at ho1 hWl hfr ⊢
  clear hwl HW c6
  have k7:=qdw h7 (hb1.block b7 h7.lt)
  have c7:=k7.cell
  have hR1:Rd W1 0 W1.heap.size A1 c1 (bv wl):=(Rd.of_own ho1).wide (qj _) (qc _)
  have hR2:Rd W1 0 W1.heap.size Aa ca (bv E):=qjj ((Rd.of_own hsb.o2).wide (qj _) (qc _)) hb1
  have HR1:=qa hR1
  have HR2:=qa hR2
  have hDW:=World_lt hKd
  have HKD:Hid (W1.heap[D]? = some (.deferred (some []))):=(hb1.block D hDW).trans hKd
  have hDW1:=World_lt HKD.out
  have HB1:=qa (hB.trans (hb1.mono (by omega)))
  have HP1:=qa (fun w=>qcf (w:=w) l.length (by omega))
  have HP2:=qa (fun w=>qcf (w:=w) K (by omega))
  have hb71:=k7.lt
  have hp1:=kt l.length (by omega)
  have hp2:=kt K (by omega)
  have hp3:=qks l.length
  obtain⟨p1,hpp1⟩:∃p1,jc l.length=p1:=⟨_,rfl⟩
  obtain⟨p2,hpp2⟩:∃p2,jc K=p2:=⟨_,rfl⟩
  rw[hpp1] at HP1 hp1 hp3 hfr
  rw[hpp2] at HP2 hp2 hfr
  have hfrl:fr.length=p1.length+(p2.length+(wl.length+E.length)):=by rw[hfr];simp[yg]
  have hf0:0<fr.length:=by omega
  have hf1:fr.length≤100000000000000:=by omega
  have HFR:=qa hfr
  have hb6W1:b6≤W1.heap.size:=by have:=HB1.out.size;omega
  have hDb:b6≤D:=by omega
  clear hpp1 hpp2 k7 h6 h7 hsb ho1 hb1 hB0 x6 x7 x8 x9 hs0 hBW hB hfr hKd hR1 hR2 hfrl
  go_wp2_with fail
  go_region_held3 (fun w'=>w'.cell? ⟨b7,0,none⟩=some (.slice Aa E.length ca)) (first | assumption | exact c73a _ | go_keep) (first
   | (go_at_call 39;refine(HP1.out _).mono ?_;clear HP1;rintro r w2 ⟨A2,c2,rfl,ho2,hb2⟩;have c72:w2.cell? ⟨b7,0,none⟩=some (.slice Aa E.length ca):=(hb2.cell (p:=⟨b7,0,none⟩) hb71).trans c7;have hb72:W1.heap.size≤w2.heap.size:=hb2.size;have HO2:=qa ho2;have HB2:Hid (Below W1.heap.size W1 w2):=(js (Below.refl _ W1) 1).trans hb2;clear ho2 hb2)
   | (go_at_call 39;refine(HP2.out _).mono ?_;clear HP2;rintro r w3 ⟨A3,c3,rfl,ho3,hb3⟩;have c73:w3.cell? ⟨b7,0,none⟩=some (.slice Aa E.length ca):=(hb3.cell (p:=⟨b7,0,none⟩) (zh hb71 hb72)).trans c72;have hb73:=hb3.size;have c73a:∀o,(w3.alloc o).cell? ⟨b7,0,none⟩=some (.slice Aa E.length ca):=fun o=>(World.cell?_alloc_lt w3 o ⟨b7,0,none⟩ (zh hb71 (zc hb72 hb73))).trans c73;have HO3:=qa ho3;have HB3:=qa hb3;have HCC:=qa (concat4 HR1.out HR2.out HO2.out HO3.out HB2.out HB3.out HFR.out hf0 hf1);clear ho3 hb3)
   | (go_at_call 109;refine HCC.out.mono ?_;clear HCC;rintro r w5 ⟨A5,c5,rfl,ho5,hb5⟩;have c75:w5.cell? ⟨b7,0,none⟩=some (.slice Aa E.length ca):=(hb5.cell (p:=⟨b7,0,none⟩) (zh hb71 (zc (zc hb72 hb73) (by simp)))).trans (c73a _);have HO5:=qa ho5;have HB5:=qa hb5;clear ho5 hb5))
  go_wp2_with fail
  have hbe:Below W1.heap.size W1 w5:=((HB2.out.trans (HB3.out.mono hb72)).alloc (zc hb72 hb73) _).trans (HB5.out.mono (by omega))
  have hK5:w5.heap[D]? = some (.deferred (some [])):=(hbe.block D hDW1).trans HKD.out
  have hB5:=HB1.out.trans (hbe.mono (by omega))
  have hown5:=ownsRow_putObj (j9 HO5.out (base':=b6) (by omega)) (.deferred none) hK5 rfl
  have hDb2:w.heap.size≤D:=by omega
  refine⟨by simp,.inl ⟨_,_,rfl,run_takeDeferred hK5,?_⟩⟩
  refine⟨.tuple #[.slice A5 fr.length c5,.int .i64 0],?_,A5,c5,rfl,by rw[e6];exact hown5,by rw[e6];exact hB5.trans (belowK_b (w:=w) (by omega) w5 D _ _ hDb2 hK5 rfl rfl)⟩
  simp[results,Tryz.f210,go_sem]
 case stop =>
  rintro D c' pre W hD _ h _
  exact h.elim
end
structure Tw (w:World) (base:Nat) (t1 t2:TypeId) (u v:Value) (n m:Nat) (xs ys:List Value):Prop where
 o1:w.ownsRow base t1 1 u n xs
 o2:w.ownsRow base t2 1 v m ys
 ap:qiv u v
section
variable {w w':World}{base n m n' m':Nat}{t1 t2:TypeId}{u v u' v':Value}{xs ys xs' ys':List Value}
theorem Tw.nil(w:World)(base:Nat)(t1 t2:TypeId):Tw w base t1 t2 (.slice none 0 0) (.slice none 0 0) 0 0 [] []:=⟨zj ..,zj ..,fun _ h=>(by cases h)⟩
theorem Tw.below(h:Tw w base t1 t2 u v n m xs ys)(hb:Below w.heap.size w w'):Tw w' base t1 t2 u v n m xs ys:=⟨ji h.o1 hb (qc _),ji h.o2 hb (qc _),h.ap⟩
theorem Tw.alloc(h:Tw w base t1 t2 u v n m xs ys)(o:Obj):Tw (w.alloc o) base t1 t2 u v n m xs ys:=⟨h.o1.alloc o,h.o2.alloc o,h.ap⟩
theorem Tw.symm(h:Tw w base t1 t2 u v n m xs ys):Tw w base t2 t1 v u m n ys xs:=⟨h.o2,h.o1,h.ap.symm⟩
theorem Tw.left(h:Tw w base t1 t2 u v n m xs ys)(ho:w'.ownsRow base t1 1 u' n' xs')(hg:w.grownBy w' u.ownBlock)(hb:u'.ownBlock=u.ownBlock∨u'.ownBlock=some w.heap.size):Tw w' base t1 t2 u' v n' m xs' ys:=by
 refine⟨ho,h.o2.kept hg h.ap.symm.keeps,fun g h1 h2 => ?_⟩
 rcases hb with e | e
 ·
  exact h.ap g (e ▸ h1) h2
 ·
  have h3:=(zk h.o2 h2).2
  rw[e] at h1
  injection h1 with h1
  omega
theorem Tw.right(h:Tw w base t1 t2 u v n m xs ys)(ho:w'.ownsRow base t2 1 v' m' ys')(hg:w.grownBy w' v.ownBlock)(hb:v'.ownBlock=v.ownBlock∨v'.ownBlock=some w.heap.size):Tw w' base t1 t2 u v' n m' xs ys' :=
 (h.symm.left ho hg hb).symm
end
theorem refSame_v{w:World}(L M:List Vl){lo lo2 c d:Nat}{A B:Option Addr}(h:Row w lo w.heap.size A c L)(h2:Row w lo2 w.heap.size B d M) :
  Calls Tryz.prog 45 #[.slice A L.length c,.slice B M.length d] w fun r w'=>r= .returned (.bool (decide (L=M)))∧∃k,w.drewN k=w':=by
 obtain⟨hl,hm⟩:=h.len
 obtain⟨hl2,hm2⟩:=h2.len
 have H:=qa h
 have H2:=qa h2
 clear h h2
 by_cases hlen:L.length=M.length
 ·
  rw[←hlen]
  have HL:=qa hlen
  clear hlen
  go_enter Tryz.func45,Tryz.ntmps45
  go_wp2_with fail
  go_loopw [5] (fun i wr=>∃k q:Nat,k≤L.length∧i= .int .i64 (k:Int)∧Hid (L.take k=M.take k)∧w.drewN q=wr) (fun i _=>L.length-(intOf i).toNat)
  case atStart=>exact⟨0,0,qj _,rfl,rfl,rfl⟩
  case round =>
   obtain⟨k,q,hk,rfl,HE,rfl⟩:=hrel
   by_cases hlt:k<L.length
   ·
    have ik:(k:Int)<(L.length:Int):=by omega
    have hlt2:k<M.length:=by have:=HL.out;omega
    obtain⟨b1,o1,rfl,_,_,x0,x1⟩:=H.out.get hlt
    obtain⟨b2,o2,rfl,_,_,y0,y1⟩:=H2.out.get hlt2
    have ht1:Hid (L.take (k+1)=L.take k++[L[k]]):=qi hlt
    have ht2:Hid (M.take (k+1)=M.take k++[M[k]]):=qi hlt2
    have hq:Hid (L=M→L[k]=M[k]):=fun h=>by subst h;rfl
    have i0:(0:Int)≤(k:Int):=by omega
    generalize L[k]=x at *
    generalize M[k]=y at *
    obtain⟨xn,xs⟩:=x
    obtain⟨yn,ys⟩:=y
    simp only at x0 x1 y0 y1
    by_cases hxy:xn=yn∧xs=ys
    ·
     obtain⟨rfl,rfl⟩:=hxy
     go_wp2_with fail
     go_quiet (fail)
     go_wp2_with fail
     go_roundw
     case rel=>exact⟨k+1,_,by omega,by go_num,by unfold Hid;rw[ht1.out,ht2.out,HE.out],rfl⟩
     case measure=>simp[intOf];omega
    ·
     have HX:Hid (decide (L=M)=false):=qw fun h=>hxy (by have:=hq.out h;injection this with h1 h2;exact⟨h1,h2⟩)
     by_cases hs:xs=ys
     ·
      subst hs
      cases xn <;> cases yn
      ·
       exact absurd ⟨rfl,rfl⟩ hxy
      ·
       clear hxy
       go_wp2_with fail
       go_quiet (fail)
       go_wp2_with fail
       go_ret
       exact⟨yc HX.out.symm,_,(qcl _ _ _).symm⟩
      ·
       clear hxy
       go_wp2_with fail
       go_quiet (fail)
       go_wp2_with fail
       go_ret
       exact⟨yc HX.out.symm,_,(qcl _ _ _).symm⟩
      ·
       exact absurd ⟨rfl,rfl⟩ hxy
     ·
      have hs2:(xs.toList==ys.toList)=false:=q9.2 fun h=>hs (ByteArray.ext (Array.toList_inj.1 (by rw[←ul,←ul,h])))
      clear hxy
      cases xn <;> cases yn
      all_goals
       go_wp2_with fail
       go_quiet (fail)
       go_wp2_with fail
       go_ret
       exact⟨yc HX.out.symm,_,(qcl _ _ _).symm⟩
   ·
    have ik:¬(k:Int)<(L.length:Int):=by omega
    have hall:Hid (L=M):=by
     have h:=HE.out
     rw[qp (by omega),qp (by have:=HL.out;omega)] at h
     exact h
    go_wp2_with fail
    go_ret
    exact⟨yc (qx hall.out).symm,_,rfl⟩
 ·
  have hne:((L.length:Int) != (M.length:Int))=true:=by rw[bne_iff_ne];omega
  have HN:Hid (decide (L=M)=false):=qw fun h=>hlen (by rw[h])
  go_enter Tryz.func45,Tryz.ntmps45
  go_wp2_with fail
  go_ret
  exact⟨yc HN.out.symm,0,rfl⟩
end Go.Proofs.YtjfecojdagmacaaGreat
