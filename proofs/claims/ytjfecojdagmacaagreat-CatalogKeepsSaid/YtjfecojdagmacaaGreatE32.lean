/-
  Lemmas.
-/
import Derived.Test.YtjfecojdagmacaaGreatE30
import Derived.Test.YtjfecojdagmacaaGreatE31
import Derived.ScopeJumps
namespace Go.Proofs.YtjfecojdagmacaaGreat
open Go.RowKit
set_option maxRecDepth 20000
set_option maxHeartbeats 16000000
set_option linter.unusedSimpArgs false
set_option linter.unusedVariables false
def OpenS(bs:List UInt8)(k:Nat):Prop:=∀ {w:World} {lo g:Nat},xq w lo g bs k 0→
  Calls Tryz.prog 87 #[cp g] w fun r w'=>∃G,r= .returned (.pointer (some ⟨G,0,none⟩))∧w.heap.size≤G∧qbh w' w.heap.size G (qax bs k 0).1∧xq w' lo g bs (qax bs k 0).2.1 (qax bs k 0).2.2∧w.grownBy w' (some g)
def OpenH(bs:List UInt8):Prop:=∀(nc k0 cn k1 i kp left m k2 j kq b k3:Nat) (e0 e1:Int) (gs:List GrpS) (cs:List ColS) (fg:List Nat) (fr:List Bool),z8 bs 0 0 8=(nc,k0,e0)→z8 bs k0 0 4096=(cn,k1,e1)→i<cn→qdi bs nc k1 i=some (gs,kp,left)→z8 bs kp 0 (left:Int)=(m,k2,0)→m≠0→j<nc→qdj bs m k2 j=some (cs,kq)→
  TakeG bs kq 0 b fg fr k3 0→OpenS bs k3
theorem open_bad{w:World}{lo g k:Nat}{bs:List UInt8}{e:Int}(h:xq w lo g bs k e)(hb:bs.length≤1000000000)(he:e≠0) :
  Calls Tryz.prog 87 #[cp g] w fun r w'=>∃G,r= .returned (.pointer (some ⟨G,0,none⟩))∧w.heap.size≤G∧qbh w' w.heap.size G (qax bs k e).1∧xq w' lo g bs (qax bs k e).2.1 (qax bs k e).2.2∧w.grownBy w' (some g):=by
 refine open_vW h hb fun kd hkd => ?_
 rw[qa3 _ _ _ _ _ he] at hkd
 have hk0:kd=0:=by rw[←hkd];rfl
 subst hk0
 exact fun {w G k c0 e} there {A0} h1 h2 h3 h4 h5 h6 h7 h8=>(take_other 0 (by decide) (by decide) (by decide) there h1 h2 h3 h4 h5 h6 h7).mono fun r w' ⟨a,b,c⟩=>⟨a,b,c,fun hz=>by
  have he:e≠0:=h8 (by omega)
  rw[qgv bs k 0 there he] at hz
  exact absurd hz he⟩
theorem Tryz.infoGrp:(Tryz.prog.info? 128).map (fun i=>(i.zero,i.size,i.bytes))=some (some (.agg #[.int .i64 0,.slice none 0 0,.slice none 0 0]),3,56):=by kernel_rfl
theorem Tryz.infoChk:(Tryz.prog.info? 147).map (fun i=>(i.zero,i.size,i.bytes))=some (some (.pointer none),1,8):=by kernel_rfl
theorem append_flt{w:World}{base:Nat}{v:Value}{es:List Fc}{e:Fc}{g n:Nat}(hn:es.length=n)(hown:w.ownsRow base 110 3 v n (fcs es))(hc:∀j u,(qec e)[j]? = some u→w.cell? ⟨g,j,none⟩=some u)(hb:n+1≤1000000)(hbase:base≤w.heap.size) :
  ∃A' c' w',(Builtin.append_ #[125,125] 125 #[v,.slice (some ⟨g,0,none⟩) 1 1]).run Tryz.prog w= .ok (.slice A' (n+1) c') w'∧w'.ownsRow base 110 3 (.slice A' (n+1) c') (n+1) (fcs (es++[e]))∧w.grownBy w' v.ownBlock∧
   ((Value.slice A' (n+1) c').ownBlock=v.ownBlock∨(Value.slice A' (n+1) c').ownBlock=some w.heap.size):=by
 subst hn
 obtain⟨i0,hi0,hz0,hz1,hz2⟩:=info_parts Tryz.infoFlt
 obtain⟨v',w',hrun,h2,h3,_,h5⟩:=run_append_own_at (P:=Tryz.prog) w base 125 125 110 i0 _ 3 56 Tryz.underlying125 hi0 hz0 hz1 hz2 rfl (by omega) v es.length (fcs es) hown ⟨g,0,none⟩ 1 1 (qec e) rfl
  (fun j u hu=>by
   have:=hc j u hu
   rwa [show(⟨g,j,none⟩:Addr)=(⟨g,0,none⟩:Addr).add j from by unfold Addr.add;by_cases h0:j=0 <;> simp[h0]] at this) (fc_one e) (by simp only[maxLen];omega) (by omega) hbase
 obtain⟨A',c',rfl,_⟩:=qbp w' h2
 exact⟨A',c',w',hrun,by rw[fcs_snoc];exact h2,h3,h5⟩
theorem append_grp{w:World}{base:Nat}{v:Value}{rs:List Gr}{r:Gr}{g n:Nat}(hn:rs.length=n)(hown:w.ownsRow base 128 3 v n (grs rs))(hc:∀j u,(qgq r)[j]? = some u→w.cell? ⟨g,j,none⟩=some u)(hb:n+1≤1000000)(hbase:base≤w.heap.size) :
  ∃A' c' w',(Builtin.append_ #[115,115] 115 #[v,.slice (some ⟨g,0,none⟩) 1 1]).run Tryz.prog w= .ok (.slice A' (n+1) c') w'∧w'.ownsRow base 128 3 (.slice A' (n+1) c') (n+1) (grs (rs++[r]))∧w.grownBy w' v.ownBlock∧
   ((Value.slice A' (n+1) c').ownBlock=v.ownBlock∨(Value.slice A' (n+1) c').ownBlock=some w.heap.size):=by
 subst hn
 obtain⟨i0,hi0,hz0,hz1,hz2⟩:=info_parts Tryz.infoGrp
 obtain⟨v',w',hrun,h2,h3,_,h5⟩:=run_append_own_at (P:=Tryz.prog) w base 115 115 128 i0 _ 3 56 Tryz.underlying115 hi0 hz0 hz1 hz2 rfl (by omega) v rs.length (grs rs) hown ⟨g,0,none⟩ 1 1 (qgq r) rfl
  (fun j u hu=>by
   have:=hc j u hu
   rwa [show(⟨g,j,none⟩:Addr)=(⟨g,0,none⟩:Addr).add j from by unfold Addr.add;by_cases h0:j=0 <;> simp[h0]] at this) (gr_one r) (by simp only[maxLen];omega) (by omega) hbase
 obtain⟨A',c',rfl,_⟩:=qbp w' h2
 exact⟨A',c',w',hrun,by rw[grs_snoc];exact h2,h3,h5⟩
theorem append_chk{w:World}{base:Nat}{v:Value}{ps:List Nat}{G g n:Nat}(hn:ps.length=n)(hown:w.ownsRow base 147 1 v n (ptV ps))(hc:w.cell? ⟨g,0,none⟩=some (.pointer (some ⟨G,0,none⟩)))(hb:n+1≤1000000)(hbase:base≤w.heap.size) :
  ∃A' c' w',(Builtin.append_ #[126,126] 126 #[v,.slice (some ⟨g,0,none⟩) 1 1]).run Tryz.prog w= .ok (.slice A' (n+1) c') w'∧w'.ownsRow base 147 1 (.slice A' (n+1) c') (n+1) (ptV (ps++[G]))∧w.grownBy w' v.ownBlock∧
   ((Value.slice A' (n+1) c').ownBlock=v.ownBlock∨(Value.slice A' (n+1) c').ownBlock=some w.heap.size):=by
 subst hn
 obtain⟨i0,hi0,hz0,hz1,hz2⟩:=info_parts Tryz.infoChk
 have hown2:w.ownsRow base 147 1 v ps.length (ptV ps):=hown
 obtain⟨v',w',hrun,h2,h3,_,h5⟩:=run_append_own_at (P:=Tryz.prog) w base 126 126 147 i0 _ 1 8 Tryz.underlying126 hi0 hz0 hz1 hz2 rfl (by omega) v ps.length (ptV ps) hown2 ⟨g,0,none⟩ 1 1 [.pointer (some ⟨G,0,none⟩)] rfl
  (fun j u hu=>by
   match j,hu with
   | 0,hu=>simp at hu;subst hu;exact hc
   | j+1,hu=>simp at hu) (fun u hu=>by rw[q8.1 hu];rfl) (by simp only[maxLen];omega) (by omega) hbase
 obtain⟨A',c',rfl,_⟩:=qbp w' h2
 exact⟨A',c',w',hrun,by rw[ptV_snoc];exact h2,h3,h5⟩
theorem GrM.wide{w:World}{lo lo':Nat}{r:Gr}(h:GrM w lo r)(hl:lo'≤lo):GrM w lo' r:=⟨h.fil.wide hl (qc _),h.chk.wide hl (qc _),fun t ht=>(h.its t ht).wide hl⟩
theorem GrM.of{w:World}{B rows:Nat}{its:List It}{FA KA:Option Addr}{fc kc:Nat}(hF:w.ownsRow B 110 3 (.slice FA its.length fc) its.length (fcs (its.map It.e)))(hK:w.ownsRow B 147 1 (.slice KA its.length kc) its.length (ptV (its.map It.g)))(hI:∀t∈its,ItM w B t):GrM w B ⟨rows,its,FA,fc,KA,kc⟩:=by
 refine⟨?_,?_,hI⟩
 ·
  have h1:fcs (its.map It.e)=its.flatMap fun t=>qec t.e:=by simp[fcs,List.flatMap_map]
  rw[h1] at hF
  exact els_own (k:=3) (fun t:It=>qec t.e) (by decide) (fun _=>rfl) hF
 ·
  have h1:ptV (its.map It.g)=its.flatMap fun t=>[Value.pointer (some ⟨t.g,0,none⟩)]:=by
   clear hF hK hI
   induction its with
   | nil=>rfl
   | cons a l ih=>rw[qco,←ih];rfl
  rw[h1] at hK
  exact els_own (k:=1) (fun t:It=>[Value.pointer (some ⟨t.g,0,none⟩)]) (by decide) (fun _=>rfl) hK
structure InnS (bs:List UInt8) (lo cg G gv B2 m k2:Nat) (wb w:World) (j kq:Nat) (its:List It) (FA:Option Addr) (fc:Nat) (KA:Option Addr) (kc:Nat):Prop where
 len:its.length=j
 cols:qdj bs m k2 j=some (its.map It.c,kq)
 cur:xq w lo cg bs kq 0
 blk:j8 w gv 128 #[.int .i64 (m:Int),.slice FA j fc,.slice KA j kc]
 fil:w.ownsRow B2 110 3 (.slice FA j fc) j (fcs (its.map It.e))
 chk:w.ownsRow B2 147 1 (.slice KA j kc) j (ptV (its.map It.g))
 apart:∀q,(Value.slice FA j fc).ownBlock=some q→(Value.slice KA j kc).ownBlock≠some q
 its:qck w (fun k=>k<B2∨(Value.slice FA j fc).ownBlock=some k∨(Value.slice KA j kc).ownBlock=some k) (fun W=>∀t∈its,ItM W B2 t)
 out:Out wb w (fun k=>k=cg∨k=gv)
 size:B2≤w.heap.size
theorem gb_set(w:World)(g i:Nat)(u:Value):w.grownBy (w.setCell ⟨g,i,none⟩ u) (some g):=yr (yx w (some g)) (.inl rfl) _
theorem own_al{w:World}{base n size:Nat}{e:TypeId}{v:Value}{xs:List Value}(h:w.ownsRow base e size v n xs)(o:Obj):(w.alloc o).ownsRow base e size v n xs :=
 ji h ((Below.refl _ w).alloc (qc _) o) (qc _)
theorem InnS.push{bs:List UInt8}{lo cg G gv B2 m k2:Nat}{wb w wf:World}{j kq k':Nat}{its:List It}{FA KA:Option Addr}{fc kc:Nat}(h:InnS bs lo cg G gv B2 m k2 wb w j kq its FA fc KA kc)(hcg:cg<B2)(hG:G<B2)(hgv:gv<B2)(hcgv:cg<gv)(hj:j<100)(hB2:wb.heap.size≤B2)
  (ho:Out w wf (fun k=>k=cg)) (hc:xq wf lo cg bs k' 0) (t:It) (hcol:qdj bs m k2 (j+1)=some (its.map It.c++[t.c],k'))
  (ht:qck wf (fun k=>k<B2∨(Value.slice FA j fc).ownBlock=some k∨(Value.slice KA j kc).ownBlock=some k) (fun W=>ItM W B2 t)) :
  j8 wf gv 128 #[.int .i64 (m:Int),.slice FA j fc,.slice KA j kc]∧
  ∃FA' fc' wh,(Builtin.append_ #[125,125] 125 #[.slice FA j fc,.slice (some ⟨wf.heap.size,0,none⟩) 1 1]).run Tryz.prog (wf.alloc (.cells (qec t.e).toArray 110))= .ok (.slice FA' (j+1) fc') wh∧
   j8 wh gv 128 #[.int .i64 (m:Int),.slice FA j fc,.slice KA j kc]∧∃wi,wh.setCell ⟨gv,1,none⟩ (.slice FA' (j+1) fc')=wi∧j8 wi gv 128 #[.int .i64 (m:Int),.slice FA' (j+1) fc',.slice KA j kc]∧
  ∃KA' kc' wk,(Builtin.append_ #[126,126] 126 #[.slice KA j kc,.slice (some ⟨wi.heap.size,0,none⟩) 1 1]).run Tryz.prog (wi.alloc (.cells #[.pointer (some ⟨t.g,0,none⟩)] 147))= .ok (.slice KA' (j+1) kc') wk∧
   j8 wk gv 128 #[.int .i64 (m:Int),.slice FA' (j+1) fc',.slice KA j kc]∧∃wl,wk.setCell ⟨gv,2,none⟩ (.slice KA' (j+1) kc')=wl∧
   InnS bs lo cg G gv B2 m k2 wb wl (j+1) k' (its++[t]) FA' fc' KA' kc':=by
 have hlen:=h.len
 have hsf:=ho.size
 have hsz:=h.size
 have bf:j8 wf gv 128 #[.int .i64 (m:Int),.slice FA j fc,.slice KA j kc]:=h.blk.out ho (by omega)
 have hFq:∀q,(Value.slice FA j fc).ownBlock=some q→B2≤q∧q<w.heap.size:=fun q hq=>zk h.fil hq
 have hKq:∀q,(Value.slice KA j kc).ownBlock=some q→B2≤q∧q<w.heap.size:=fun q hq=>zk h.chk hq
 have of:wf.ownsRow B2 110 3 (.slice FA j fc) j (fcs (its.map It.e)):=qaa h.fil ho fun k hk e=>by have:=hFq k hk;omega
 have ok:wf.ownsRow B2 147 1 (.slice KA j kc) j (ptV (its.map It.g)):=qaa h.chk ho fun k hk e=>by have:=hKq k hk;omega
 -- the literal of the filter
 obtain⟨wg,hwg⟩:∃wg,wf.alloc (.cells (qec t.e).toArray 110)=wg:=⟨_,rfl⟩
 have sg:wg.heap.size=wf.heap.size+1:=by rw[←hwg];simp
 have ofg:wg.ownsRow B2 110 3 (.slice FA j fc) j (fcs (its.map It.e)):=by rw[←hwg];exact own_al of _
 have okg:wg.ownsRow B2 147 1 (.slice KA j kc) j (ptV (its.map It.g)):=by rw[←hwg];exact own_al ok _
 have bg:j8 wg gv 128 #[.int .i64 (m:Int),.slice FA j fc,.slice KA j kc]:=by rw[←hwg];exact bf.alloc _
 have lg:j8 wg wf.heap.size 110 (qec t.e).toArray:=by rw[←hwg];exact j8.new wf _ _
 obtain⟨FA',fc',wh,hrun1,of1,g1,q1⟩:=append_flt (e:=t.e) (g:=wf.heap.size) (by rw[qz,hlen]) ofg (fun i u hu=>by rw[lg.cell];simpa using hu) (by omega) (by omega)
 have sh:=g1.size
 have bh:j8 wh gv 128 #[.int .i64 (m:Int),.slice FA j fc,.slice KA j kc]:=bg.grown g1 fun e=>by have:=hFq gv e.symm;omega
 have okh:wh.ownsRow B2 147 1 (.slice KA j kc) j (ptV (its.map It.g)):=jw okg fun k hk=>g1.block k (zk okg hk).2 fun e=>h.apart k e.symm hk
 have hF1:∀q,(Value.slice FA' (j+1) fc').ownBlock=some q→(Value.slice FA j fc).ownBlock=some q∨q=wg.heap.size:=fun q hq=>by
  rcases q1 with e | e
  ·
   exact .inl (e ▸ hq)
  ·
   rw[e] at hq;injection hq with hq;exact .inr hq.symm
 obtain⟨wi,hwi⟩:∃wi,wh.setCell ⟨gv,1,none⟩ (.slice FA' (j+1) fc')=wi:=⟨_,rfl⟩
 have gi:wh.grownBy wi (some gv):=by rw[←hwi];exact gb_set wh gv 1 _
 have si:=gi.size
 have bi:j8 wi gv 128 #[.int .i64 (m:Int),.slice FA' (j+1) fc',.slice KA j kc]:=by rw[←hwi];exact bh.put 1 _
 have ofi:wi.ownsRow B2 110 3 (.slice FA' (j+1) fc') (j+1) (fcs (its.map It.e++[t.e])):=jw of1 fun k hk=>gi.block k (zk of1 hk).2 fun e=>by have:=(zk of1 hk).1;injection e with e;omega
 have oki:wi.ownsRow B2 147 1 (.slice KA j kc) j (ptV (its.map It.g)):=jw okh fun k hk=>gi.block k (zk okh hk).2 fun e=>by have:=hKq k hk;injection e with e;omega
 -- the literal of the chunk
 obtain⟨wj,hwj⟩:∃wj,wi.alloc (.cells #[.pointer (some ⟨t.g,0,none⟩)] 147)=wj:=⟨_,rfl⟩
 have sj:wj.heap.size=wi.heap.size+1:=by rw[←hwj];simp
 have ofj:wj.ownsRow B2 110 3 (.slice FA' (j+1) fc') (j+1) (fcs (its.map It.e++[t.e])):=by rw[←hwj];exact own_al ofi _
 have okj:wj.ownsRow B2 147 1 (.slice KA j kc) j (ptV (its.map It.g)):=by rw[←hwj];exact own_al oki _
 have bj:j8 wj gv 128 #[.int .i64 (m:Int),.slice FA' (j+1) fc',.slice KA j kc]:=by rw[←hwj];exact bi.alloc _
 have lj:wj.cell? ⟨wi.heap.size,0,none⟩=some (.pointer (some ⟨t.g,0,none⟩)):=by rw[←hwj,zm _ _ _ _ rfl];rfl
 obtain⟨KA',kc',wk,hrun2,ok1,g2,q2⟩:=append_chk (by rw[qz,hlen]) okj lj (by omega) (by omega)
 have sk:=g2.size
 have bk:j8 wk gv 128 #[.int .i64 (m:Int),.slice FA' (j+1) fc',.slice KA j kc]:=bj.grown g2 fun e=>by have:=hKq gv e.symm;omega
 have hFK:∀q,(Value.slice FA' (j+1) fc').ownBlock=some q→(Value.slice KA j kc).ownBlock≠some q:=fun q hq e=>by
  rcases hF1 q hq with h1 | h1
  ·
   exact h.apart q h1 e
  ·
   have:=hKq q e;omega
 have ofk:wk.ownsRow B2 110 3 (.slice FA' (j+1) fc') (j+1) (fcs (its.map It.e++[t.e])):=jw ofj fun k hk=>g2.block k (zk ofj hk).2 fun e=>hFK k hk e.symm
 have hK1:∀q,(Value.slice KA' (j+1) kc').ownBlock=some q→(Value.slice KA j kc).ownBlock=some q∨q=wj.heap.size:=fun q hq=>by
  rcases q2 with e | e
  ·
   exact .inl (e ▸ hq)
  ·
   rw[e] at hq;injection hq with hq;exact .inr hq.symm
 obtain⟨wl,hwl2⟩:∃wl,wk.setCell ⟨gv,2,none⟩ (.slice KA' (j+1) kc')=wl:=⟨_,rfl⟩
 have gl:wk.grownBy wl (some gv):=by rw[←hwl2];exact gb_set wk gv 2 _
 have bl:j8 wl gv 128 #[.int .i64 (m:Int),.slice FA' (j+1) fc',.slice KA' (j+1) kc']:=by rw[←hwl2];exact bk.put 2 _
 have ofl:wl.ownsRow B2 110 3 (.slice FA' (j+1) fc') (j+1) (fcs (its.map It.e++[t.e])):=jw ofk fun k hk=>gl.block k (zk ofk hk).2 fun e=>by have:=(zk ofk hk).1;injection e with e;omega
 have okl:wl.ownsRow B2 147 1 (.slice KA' (j+1) kc') (j+1) (ptV (its.map It.g++[t.g])):=jw ok1 fun k hk=>gl.block k (zk ok1 hk).2 fun e=>by have:=(zk ok1 hk).1;injection e with e;omega
 have sl:=gl.size
 -- what was written
 have o1:Out wf wg (fun _=>False):=by rw[←hwg];exact(Out.refl _ _).alloc _
 have o2:Out wg wh (fun k=>(Value.slice FA j fc).ownBlock=some k):=Out.of_gb g1 fun k hk=>hk
 have o3:Out wh wi (fun k=>k=gv):=Out.of_gb gi fun k hk=>(zy hk).symm
 have o4:Out wi wj (fun _=>False):=by rw[←hwj];exact(Out.refl _ _).alloc _
 have o5:Out wj wk (fun k=>(Value.slice KA j kc).ownBlock=some k):=Out.of_gb g2 fun k hk=>hk
 have o6:Out wk wl (fun k=>k=gv):=Out.of_gb gl fun k hk=>(zy hk).symm
 have oX:Out wf wl (fun k=>k<B2∨(Value.slice FA j fc).ownBlock=some k∨(Value.slice KA j kc).ownBlock=some k) :=
  (((((Out.refl wf _).trans o1 (fun _ _ h=>h.elim)).trans o2 (fun i _ h=> .inr (.inl h))).trans o3 (fun i _ h=> .inl (by omega))).trans o4 (fun _ _ h=>h.elim)).trans o5 (fun i _ h=> .inr (.inr h)) |>.trans o6 (fun i _ h=> .inl (by omega))
 have oY:Out wf wl (fun k=>k=gv∨B2≤k) :=
  (((((Out.refl wf _).trans o1 (fun _ _ h=>h.elim)).trans o2 (fun i _ h=> .inr (hFq i h).1)).trans o3 (fun i _ h=> .inl h)).trans o4 (fun _ _ h=>h.elim)).trans o5 (fun i _ h=> .inr (hKq i h).1) |>.trans o6 (fun i _ h=> .inl h)
 have hY:∀i,i<wf.heap.size→(i<B2∨(Value.slice FA' (j+1) fc').ownBlock=some i∨(Value.slice KA' (j+1) kc').ownBlock=some i)→(i<B2∨(Value.slice FA j fc).ownBlock=some i∨(Value.slice KA j kc).ownBlock=some i):=fun i hi h=>by
  rcases h with h | h | h
  ·
   exact .inl h
  ·
   rcases hF1 i h with h1 | h1
   ·
    exact .inr (.inl h1)
   ·
    omega
  ·
   rcases hK1 i h with h1 | h1
   ·
    exact .inr (.inr h1)
   ·
    omega
 have hcur:xq wl lo cg bs k' 0:=by
  obtain⟨A,c,hb,hrd,hk,hl⟩:=hc
  exact⟨A,c,hb.out oY (by omega),hrd.out oY (by have:=hb.lt;omega) (fun k h1 h2=>by omega),hk,hl⟩
 have hwl:Out w wl (fun k=>k<B2∨(Value.slice FA j fc).ownBlock=some k∨(Value.slice KA j kc).ownBlock=some k):=((Out.refl w _).trans ho (fun i _ h=> .inl (by omega))).trans oX (fun i _ h=>h)
 have hap:∀q,(Value.slice FA' (j+1) fc').ownBlock=some q→(Value.slice KA' (j+1) kc').ownBlock≠some q:=fun q hq e=>by
  rcases hK1 q e with h1 | h1
  ·
   exact hFK q hq h1
  ·
   have:=(zk ofj hq).2;omega
 refine⟨bf,FA',fc',wh,by rw[hwg];exact hrun1,bh,wi,hwi,bi,KA',kc',wk,by rw[hwj];exact hrun2,bk,wl,hwl2,⟨by rw[qd,hlen];rfl,by rw[jg];exact hcol,hcur,bl,by rw[jg];exact ofl,by rw[jg];exact okl,hap,fun W hW x hx => ?_,?_,by omega⟩⟩
 ·
  have hW1:Out wf W _:=oX.trans hW hY
  rcases zn.1 hx with hx | hx
  ·
   exact h.its W (hwl.trans hW (fun i hi hx=>hY i (by omega) hx)) x hx
  ·
   rw[q8.1 hx]
   exact ht W hW1
 ·
  refine(h.out.trans ho (fun i _ h=> .inl h)).trans oY (fun i hi h => ?_)
  rcases h with h | h
  ·
   exact .inr h
  ·
   exact absurd h (by omega)
structure OttS (bs:List UInt8) (lo cg G B nc k1:Nat) (e1:Int) (w:World) (i kp left:Nat) (rs:List Gr) (A:Option Addr) (c:Nat):Prop where
 len:rs.length=i
 grps:qdi bs nc k1 i=some (rs.map Gr.toS,kp,left)
 cur:xq w lo cg bs kp e1
 blk:j8 w G 117 #[.int .i64 (nc:Int),.slice A i c]
 row:w.ownsRow B 128 3 (.slice A i c) i (grs rs)
 grs:qck w (fun k=>k<B∨(Value.slice A i c).ownBlock=some k) (fun W=>∀r∈rs,GrM W B r)
 size:B≤w.heap.size
theorem xq.out{w w':World}{lo g k:Nat}{bs:List UInt8}{e:Int}{X:Nat→Prop}(h:xq w lo g bs k e)(ho:Out w w' X)(hX:∀i,i≤g→¬X i):xq w' lo g bs k e:=by
 obtain⟨A,c,hb,hrd,hk,hl⟩:=h
 exact⟨A,c,hb.out ho (hX g (qc _)),hrd.out ho (by have:=hb.lt;omega) (fun k h1 h2=>hX k (by omega)),hk,hl⟩
theorem OttS.begin{bs:List UInt8}{lo cg G B nc k1:Nat}{w wa:World}{i kp left:Nat}{rs:List Gr}{A:Option Addr}{c:Nat}(h:OttS bs lo cg G B nc k1 0 w i kp left rs A c)(hcg:cg<B)(hG:G<B)(hcG:G<lo)(hg:w.grownBy wa (some cg))(m k2:Nat)(hc:xq wa lo cg bs k2 0){wb:World}(hwb:wa.alloc (.cells #[.int .i64 (m:Int),.slice none 0 0,.slice none 0 0] 128)=wb) :
  InnS bs lo cg G wa.heap.size wb.heap.size m k2 wb wb 0 k2 [] none 0 none 0∧j8 wb G 117 #[.int .i64 (nc:Int),.slice A i c]∧wa.heap.size<wb.heap.size∧B≤wa.heap.size∧cg<wa.heap.size∧G<wa.heap.size∧Out w wb (fun k=>k=cg):=by
 have hs:=hg.size
 have hz:=h.size
 have hs2:wb.heap.size=wa.heap.size+1:=by rw[←hwb];simp
 have o1:Out w wb (fun k=>k=cg):=by rw[←hwb];exact(Out.of_gb hg fun k hk=>(zy hk).symm).alloc _
 refine⟨⟨rfl,rfl,?_,?_,zj _ _ _ _,zj _ _ _ _,(fun q hq=>by cases hq),(fun W _ t ht=>by cases ht),Out.refl _ _,qc _⟩,?_,by omega,by omega,by omega,by omega,o1⟩
 ·
  rw[←hwb];exact hc.behind ((Below.refl wa.heap.size wa).alloc (qc _) _) (by omega)
 ·
  rw[←hwb];exact j8.new wa _ _
 ·
  exact h.blk.out o1 (by have:=hc.base;omega)
theorem OttS.push{bs:List UInt8}{lo cg G B nc k1 gv B2 m k2:Nat}{w wb wr:World}{i kp kq left:Nat}{rs:List Gr}{A:Option Addr}{c:Nat}(h:OttS bs lo cg G B nc k1 0 w i kp left rs A c)(hcg:cg<B)(hG:G<B)(hcG:G<lo)(hi:i<100000)
  (hob:Out w wb (fun k=>k=cg)) (hgv:B≤gv) (hgv2:gv<B2) (hB2:wb.heap.size=B2) (hwg:w.heap.size≤gv) {its:List It} {FA KA:Option Addr} {fc kc:Nat} (hI:InnS bs lo cg G gv B2 m k2 wb wr nc kq its FA fc KA kc) (hg:qna bs nc left kp=some (⟨m,its.map It.c⟩,kq)) :
  j8 wr G 117 #[.int .i64 (nc:Int),.slice A i c]∧∃A' c' wj,(Builtin.append_ #[115,115] 115 #[.slice A i c,.slice (some ⟨wr.heap.size,0,none⟩) 1 1]).run Tryz.prog (wr.alloc (.cells #[.int .i64 (m:Int),.slice FA nc fc,.slice KA nc kc] 128))= .ok (.slice A' (i+1) c') wj∧
   j8 wj G 117 #[.int .i64 (nc:Int),.slice A i c]∧j8 wj gv 128 #[.int .i64 (m:Int),.slice FA nc fc,.slice KA nc kc]∧∃wk,wj.setCell ⟨G,1,none⟩ (.slice A' (i+1) c')=wk∧j8 wk gv 128 #[.int .i64 (m:Int),.slice FA nc fc,.slice KA nc kc]∧
   ∃rs',OttS bs lo cg G B nc k1 0 wk (i+1) kq (left-m) rs' A' c'∧Out w wk (fun k=>k=cg∨k=G∨B≤k):=by
 have hz:=h.size
 have hlen:=h.len
 have hil:=hI.len
 have hsb:=hob.size
 have hsr:=hI.out.size
 have hsz:=hI.size
 have hAq:∀q,(Value.slice A i c).ownBlock=some q→B≤q∧q<w.heap.size:=fun q hq=>zk h.row hq
 have o1:Out w wr (fun k=>k=cg):=hob.trans hI.out (fun k hk hx=>by rcases hx with hx | hx;exact hx;omega)
 have b1:j8 wr G 117 #[.int .i64 (nc:Int),.slice A i c]:=h.blk.out o1 (by have:=hI.cur.base;omega)
 have r1:wr.ownsRow B 128 3 (.slice A i c) i (Go.Proofs.YtjfecojdagmacaaGreat.grs rs):=qaa h.row o1 fun k hk e=>by have:=hAq k hk;omega
 obtain⟨wi,hwi⟩:∃wi,wr.alloc (.cells #[.int .i64 (m:Int),.slice FA nc fc,.slice KA nc kc] 128)=wi:=⟨_,rfl⟩
 have si:wi.heap.size=wr.heap.size+1:=by rw[←hwi];simp
 have r2:wi.ownsRow B 128 3 (.slice A i c) i (Go.Proofs.YtjfecojdagmacaaGreat.grs rs):=by rw[←hwi];exact own_al r1 _
 have li:j8 wi wr.heap.size 128 #[.int .i64 (m:Int),.slice FA nc fc,.slice KA nc kc]:=by rw[←hwi];exact j8.new wr _ _
 have b2:j8 wi G 117 #[.int .i64 (nc:Int),.slice A i c]:=by rw[←hwi];exact b1.alloc _
 have g2:j8 wi gv 128 #[.int .i64 (m:Int),.slice FA nc fc,.slice KA nc kc]:=by rw[←hwi];exact hI.blk.alloc _
 obtain⟨A',c',wj,hrun,r3,hgj,hq⟩:=append_grp (r:=⟨m,its,FA,fc,KA,kc⟩) (g:=wr.heap.size) hlen r2 (fun j u hu=>by
  rw[li.cell]
  simp only[qgq,hil] at hu
  simpa using hu) (by omega) (by omega)
 have sj:=hgj.size
 have b3:j8 wj G 117 #[.int .i64 (nc:Int),.slice A i c]:=b2.grown hgj fun e=>by have:=hAq G e.symm;omega
 have g3:j8 wj gv 128 #[.int .i64 (m:Int),.slice FA nc fc,.slice KA nc kc]:=g2.grown hgj fun e=>by have:=hAq gv e.symm;omega
 have hA1:∀q,(Value.slice A' (i+1) c').ownBlock=some q→(Value.slice A i c).ownBlock=some q∨q=wi.heap.size:=fun q hq2=>by
  rcases hq with e | e
  ·
   exact .inl (e ▸ hq2)
  ·
   rw[e] at hq2;injection hq2 with hq2;exact .inr hq2.symm
 obtain⟨wk,hwk⟩:∃wk,wj.setCell ⟨G,1,none⟩ (.slice A' (i+1) c')=wk:=⟨_,rfl⟩
 have gk:wj.grownBy wk (some G):=by rw[←hwk];exact gb_set wj G 1 _
 have sk:=gk.size
 have b4:j8 wk G 117 #[.int .i64 (nc:Int),.slice A' (i+1) c']:=by rw[←hwk];exact b3.put 1 _
 have g4:j8 wk gv 128 #[.int .i64 (m:Int),.slice FA nc fc,.slice KA nc kc]:=g3.grown gk fun e=>by injection e with e;omega
 have r4:wk.ownsRow B 128 3 (.slice A' (i+1) c') (i+1) (Go.Proofs.YtjfecojdagmacaaGreat.grs (rs++[⟨m,its,FA,fc,KA,kc⟩])):=jw r3 fun k hk=>gk.block k (zk r3 hk).2 fun e=>by have:=(zk r3 hk).1;injection e with e;omega
 have o2:Out wr wi (fun _=>False):=by rw[←hwi];exact(Out.refl _ _).alloc _
 have o3:Out wi wj (fun k=>(Value.slice A i c).ownBlock=some k):=Out.of_gb hgj fun k hk=>hk
 have o4:Out wj wk (fun k=>k=G):=Out.of_gb gk fun k hk=>(zy hk).symm
 have oX:Out wr wk (fun k=>k<B∨(Value.slice A i c).ownBlock=some k):=(((Out.refl wr _).trans o2 (fun _ _ h=>h.elim)).trans o3 (fun _ _ h=> .inr h)).trans o4 (fun _ _ h=> .inl (by omega))
 have hY:∀q,q<wr.heap.size→(q<B∨(Value.slice A' (i+1) c').ownBlock=some q)→(q<B∨(Value.slice A i c).ownBlock=some q):=fun q hq h=>by
  rcases h with h | h
  ·
   exact .inl h
  ·
   rcases hA1 q h with h1 | h1
   ·
    exact .inr h1
   ·
    omega
 have hcur:xq wk lo cg bs kq 0:=by
  obtain⟨A5,c5,hb,hrd,hk,hl⟩:=hI.cur
  have oZ:Out wr wk (fun k=>k=G∨B≤k):=(((Out.refl wr _).trans o2 (fun _ _ h=>h.elim)).trans o3 (fun q _ h=> .inr (hAq q h).1)).trans o4 (fun _ _ h=> .inl h)
  exact⟨A5,c5,hb.out oZ (by omega),hrd.out oZ (by have:=hb.lt;omega) (fun k h1 h2=>by omega),hk,hl⟩
 refine⟨b1,A',c',wj,by rw[hwi];exact hrun,b3,g3,wk,hwk,g4,rs++[⟨m,its,FA,fc,KA,kc⟩],⟨by rw[qd,hlen];rfl,?_,hcur,b4,r4,fun W hW x hx => ?_,by omega⟩,?_⟩
 ·
  have:=grps_some h.grps hg
  rw[jg]
  exact this
 ·
  have hW1:=oX.trans hW hY
  rcases zn.1 hx with hx | hx
  ·
   refine h.grs W ?_ x hx
   exact((Out.refl w _).trans o1 (fun q _ h=> .inl (by omega))).trans hW1 (fun q _ h=>h)
  ·
   rw[q8.1 hx]
   have hX3:∀q,(q<B∨(Value.slice A i c).ownBlock=some q)→q<B2:=fun q h1=>by
    rcases h1 with h1 | h1
    ·
     omega
    ·
     have:=hAq q h1;omega
   have f1:W.ownsRow B2 110 3 (.slice FA nc fc) nc (fcs (its.map It.e)):=qaa hI.fil hW1 fun k hk hx=>qay _ (zh (hX3 k hx) (zk hI.fil hk).1)
   have f2:W.ownsRow B2 147 1 (.slice KA nc kc) nc (ptV (its.map It.g)):=qaa hI.chk hW1 fun k hk hx=>qay _ (zh (hX3 k hx) (zk hI.chk hk).1)
   have f3:∀t∈its,ItM W B2 t:=hI.its W ((Out.refl wr _).trans hW1 (fun q hq h=> .inl (hX3 q h)))
   rw[←hil] at f1 f2
   exact(GrM.of (rows:=m) f1 f2 f3).wide (by omega)
 ·
  exact((((Out.refl w _).trans o1 (fun _ _ h=> .inl h)).trans o2 (fun _ _ h=>h.elim)).trans o3 (fun q _ h=> .inr (.inr (hAq q h).1))).trans o4 (fun _ _ h=> .inr (.inl h))
theorem openH_all{bs:List UInt8}(h:∀k,OpenS bs k):OpenH bs:=by
 intro nc k0 cn k1 i kp left m k2 j kq b k3 e0 e1 gs' cs fg fr hM hN hi hG hL hm hj hC hT
 exact fun {w lo g} hc=>h _ hc
theorem qbg.of{w:World}{lo hi c:Nat}{A:Option Addr}{xs:List Value}{gs:List (List (List Vl))}(hr:Rd w lo hi A c xs)(hx:xs.length=gs.length)(h:∀j (hj:j<gs.length),∃A' c',xs[j]? = some (.slice A' gs[j].length c')∧ka w lo hi A' c' gs[j]):qbg w lo hi A c gs:=by
 obtain⟨ps,hp,hps⟩:=qhf (n:=gs.length) (Q:=fun j (q:Option Addr×Nat)=>∀hj:j<gs.length,xs[j]? = some (.slice q.1 gs[j].length q.2)∧ka w lo hi q.1 q.2 gs[j]) fun j hj=>by
  obtain⟨A',c',h1,h2⟩:=h j hj
  exact⟨(A',c'),fun _=>⟨h1,h2⟩⟩
 refine⟨fun j=>(ps[j]?).bind (·.1),fun j=>((ps[j]?).map (·.2)).getD 0,⟨by rw[←hx];exact hr.len,hr.cap,fun hq => ?_⟩,fun j hj => ?_⟩
 ·
  obtain⟨b,off,e,h3,h4,h5⟩:=hr.at_ (by rw[hx];exact hq)
  refine⟨b,off,e,h3,h4,fun j hj i hi => ?_⟩
  have hi0:i=0:=by omega
  subst hi0
  have h6:=(hps j (by omega) hj).1
  have h7:=h5 j _ h6
  rw[xl,y7,h7]
  simp[qe hj,qe (show j<ps.length by omega)]
 ·
  have h6:=(hps j (by omega) hj).2
  simpa[qe (show j<ps.length by omega)] using h6
theorem qb8.one{w:World}{lo hi g:Nat}{t:TypeId}{o:Co}{B:Option Addr}{d:Nat}(h:j8 w g t #[.int .i64 o.kind,.int .i64 o.block,.int .i64 o.rounds,.slice B o.draws.length d])(hlo:lo≤g)(hhi:g<hi)(hd:Rd w lo hi B d (iv o.draws))(hw:qjg o.draws):qb8 w lo hi (some ⟨g,0,none⟩) 1 [o]:=by
 refine⟨fun _=>B,fun _=>d,⟨qc _,by simp[maxLen],fun _=>⟨g,0,rfl,hlo,hhi,fun j hj i hi => ?_⟩⟩,fun j hj => ?_⟩
 ·
  obtain rfl:j=0:=by simp at hj;exact hj
  rw[h.cell]
  simp
 ·
  obtain rfl:j=0:=by simp at hj;exact hj
  exact⟨hd,hw⟩
theorem openH_any{bs:List UInt8}(h:bs.length≤1000000000):OpenH bs:=openH_all fun _=>fun {_ _ _} hc=>open_v hc h
theorem qmo{b:List UInt8}(h:b.length≤1000000000):OpenH (b.take (b.length-4)):=openH_any (by rw[qy];omega)
end Go.Proofs.YtjfecojdagmacaaGreat
