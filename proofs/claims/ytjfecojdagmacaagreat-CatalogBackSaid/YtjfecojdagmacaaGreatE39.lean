/-
  Lemmas.
-/
import Derived.Test.YtjfecojdagmacaaGreatE36
namespace Go.Proofs.YtjfecojdagmacaaGreat
open Go.RowKit
set_option maxRecDepth 20000
set_option maxHeartbeats 16000000
set_option linter.unusedSimpArgs false
set_option linter.unusedVariables false
section
open Go.RowKit Go.Maps Go.WideMaps
theorem qji:∀l:List Pt,(qeo l).length=ui l
 | []=>rfl
 | p :: l=>by
  have h:=qji l
  simp only[qeo,ui,y8,ke,qd,List.sum_cons,qhc] at *
  omega
end
theorem segments_yes{w:World}{lo C:Nat}{M:Nat→Prop}{es:List En}(h:CatE w lo M C es)(s:ByteArray){k:Nat}(hk:k<es.length)(he:es[k].name=s){m:Nat}(hm2:es[k].pts.length=m)(hcnt:m≤1000000000) :
  Calls Tryz.prog 28 #[.pointer (some ⟨C,0,none⟩),.string s] w fun r w'=>∃A' c',r= .returned (.tuple #[.slice A' m c',.int .i64 (es[k].cols:Int)])∧Below w.heap.size w w':=by
 have hm:=ql hk
 obtain⟨hok,hsz1,hsz2⟩:=h.ok _ hm
 have hf:=qkf h s (by rw[←he];omega)
 rw[qer hk he h.names] at hf
 have HF:=qa hf
 have htb:=h.tabs _ hm
 obtain⟨g,hg⟩:∃g,es[k].g=g:=⟨_,rfl⟩
 obtain⟨l,hl⟩:∃l,es[k].pts=l:=⟨_,rfl⟩
 obtain⟨n,hn⟩:∃n,es[k].cols=n:=⟨_,rfl⟩
 obtain⟨S,hS⟩:∃S,es[k].S=S:=⟨_,rfl⟩
 rw[hg] at HF htb
 rw[hl,hn,hS] at htb
 rw[hl] at hm2
 rw[hl,hn] at hok
 rw[hn]
 have HTB:=qa htb
 have HOK:=qa hok
 have HM:=qa hm2
 have HSG:Hid (∀W,Below w.heap.size w W→Calls Tryz.prog 43 #[.pointer (some ⟨g,0,none⟩)] W fun r w'=>∃A' c',r= .returned (.slice A' m c')∧Below W.heap.size W w'):=fun W hW=>by
  have:=segs_v (HTB.out.below hW) HOK.out (by rw[HM.out];exact hcnt)
  rw[HM.out] at this
  refine this.mono ?_
  rintro r w' ⟨A',c',xs,h1,_,_,h4⟩
  exact⟨A',c',h1,h4⟩
 have HCF:Hid (∀W,Below w.heap.size w W→W.cell? ⟨g,0,none⟩=some (.int .i64 (n:Int))):=fun W hW=>by
  obtain⟨A,c,zs,h1,_⟩:=(HTB.out.below hW).at_
  exact h1.cell 0
 clear hf h hm hok hg hl hn hS hsz1 hsz2 he hk htb hm2
 go_enter Tryz.func28,Tryz.ntmps28
 go_wp2_with fail
 refine HF.out.mono ?_
 rintro r w1 ⟨rfl,rfl⟩
 clear HF
 go_wp2_with fail
 refine wp_region_held_drew (S:=fun W=>Below w.heap.size w W) (by kernel_rfl) (Below.refl _ _).drew (fun hHeld => ?_)
 refine tk 0 ?_ rfl hHeld ?_ ?_
 rotate_left
 focus (intro W hSw;go_simp;try with_reducible rfl)
 try simp only[jt,Act.put]
 refine tk 2 ?_ rfl hHeld ?_ ?_
 rotate_left
 focus (intro W hSw;go_simp;try with_reducible rfl)
 try simp only[jt,Act.put]
 refine tk 3 ?_ rfl hHeld ?_ ?_
 rotate_left
 focus (intro W hSw;go_simp;try with_reducible rfl)
 try simp only[jt,Act.put]
 refine tk 4 ?_ rfl hHeld ?_ ?_
 rotate_left
 focus (intro W hSw;go_simp;try with_reducible rfl)
 try simp only[jt,Act.put]
 refine tk 5 ?_ rfl hHeld ?_ ?_
 rotate_left
 focus (intro W hSw;have q0:=HCF.out W hSw;go_simp;try with_reducible rfl)
 try simp only[jt,Act.put]
 obtain⟨wd,hwd⟩:∃q,w.drew=q:=⟨_,rfl⟩
 rw[hwd] at hHeld ⊢
 clear hwd
 have K0:=qa hHeld
 refine wpAnyH_ready (rs:=[1]) (by kernel_rfl) (by simp) ?_
 refine qu (o:=_) rfl (fun K hK => ?_) q5
 go_simp
 refine(HSG.out wd K0.out).mono ?_
 rintro r w2 ⟨A4,c4,rfl,hb4⟩
 have K2:Hid (Below w.heap.size w w2):=K0.out.trans (hb4.mono K0.out.size)
 clear hb4
 refine hK.out _ _ K2.out (fun hHeld => ?_)
 clear hK K
 try simp only[jt,Act.put]
 refine tk 6 ?_ rfl hHeld ?_ ?_
 rotate_left
 focus (intro W hSw;go_simp;try with_reducible rfl)
 try simp only[jt,Act.put]
 refine tk 7 ?_ rfl hHeld ?_ ?_
 rotate_left
 focus (intro W hSw;go_simp;try with_reducible rfl)
 try simp only[jt,Act.put]
 refine wpAnyH_done (by kernel_rfl) ?_ _
 try simp only[jt,Act.put]
 go_wp2_with fail
 go_ret2
 exact⟨_,_,rfl,K2.out⟩
def coN(p:Int×Int):Co:=⟨p.1,p.2,0,[]⟩
def qbr(p:Int×Int):List Value:=[.int .i64 p.1,.int .i64 p.2,.int .i64 0,.slice none 0 0]
def cds(l:List (Int×Int)):List Value:=l.flatMap qbr
theorem cds_snoc(l:List (Int×Int))(e:Int×Int):cds (l++[e])=cds l++qbr e:=by simp[cds]
theorem cd_one(e:Int×Int):∀u∈qbr e,u.oneCell'=true:=by
 intro u hu
 simp only[qbr,zv,vd,or_false] at hu
 rcases hu with rfl | rfl | rfl | rfl <;> rfl
theorem cds_get:∀(l:List (Int×Int)) (j i:Nat),i<4→(cds l)[j*4+i]? = (l[j]?).bind fun e=>(qbr e)[i]?
 | [],j,i,hi=>by simp[cds]
 | e :: l,0,i,hi=>by
  match i,hi with
  | 0,_=>rfl
  | 1,_=>rfl
  | 2,_=>rfl
  | 3,_=>rfl
 | e :: l,j+1,i,hi=>by
  have:=cds_get l j i hi
  rw[show(j+1)*4+i=j*4+i+1+1+1+1 by omega]
  simpa[cds,qbr] using this
theorem rd_empty(w:World)(lo hi:Nat):Rd w lo hi none 0 (iv []):=⟨by simp[iv],by simp[maxLen],fun h=>absurd h (by simp[iv])⟩
theorem cods_own{w:World}{base n c:Nat}{A:Option Addr}{l:List (Int×Int)}(h:w.ownsRow base 60 4 (.slice A n c) n (cds l))(hn:l.length=n):qb8 w base w.heap.size A c (l.map coN):=by
 subst hn
 refine⟨fun _=>none,fun _=>0,?_,fun j hj => ?_⟩
 ·
  rw[qz]
  rcases h.2 with ⟨hv,h0⟩ | ⟨g,cap,cur,hv,hb,hg,hnc,hcm,hcs,htake⟩
  ·
   injection hv with e1 e2 e3
   subst e1 e3
   exact⟨by omega,by simp[maxLen],fun hp=>by omega⟩
  ·
   injection hv with e1 e2 e3
   subst e1 e3
   refine⟨hnc,hcm,fun _=>⟨g,0,rfl,hb,(xc.1 hg).1,fun j hj i hi => ?_⟩⟩
   have hlt:j*4+i<l.length*4:=by omega
   have h5:cur.toList[j*4+i]? = (cds l)[j*4+i]?:=by rw[←htake,uo,if_pos hlt]
   rw[yk,cell_of_row w g (j*4+i) cur _ (0,0) hg,←Array.getElem?_toList,h5,cds_get l j i hi,qah]
   cases l[j]? with
   | none=>rfl
   | some p=>rfl
 ·
  rw[j5]
  exact⟨rd_empty _ _ _,by intro z hz;cases hz⟩
theorem Tryz.infoCod:(Tryz.prog.info? 60).map (fun i=>(i.zero,i.size,i.bytes))=some (some (.agg #[.int .i64 0,.int .i64 0,.int .i64 0,.slice none 0 0]),4,48):=by kernel_rfl
theorem qm6{ops:Array Oper}{rest:List Oper}{o:Oper}{a:Act}{w:World}{Q:Exit→Act→World→Prop}(e:Int×Int)(hg:o.guard=none)(x:Operand)(ho:o.op= .buildSlice 57 1 #[(0,x)])(hx:a.eval x= .agg (qbr e).toArray)
  (h:wpList Tryz.prog ops Q rest (a.put o.dst (.slice (some ⟨w.heap.size,0,none⟩) 1 1)) (w.alloc (.cells (qbr e).toArray 60))):wpList Tryz.prog ops Q (o :: rest) a w:=by
 obtain⟨i0,hi0,hz0,hz1,hz2⟩:=info_parts Tryz.infoCod
 refine wpList_buildSlice hg _ _ 1 _ ho (qbr e).toArray i0 _ Tryz.underlying57 hi0 hz0 (by rw[hz1];omega) (by rw[hz1];omega) ?_ h
 have hf:=Great.fill_whole (s:=4) (by omega) [.agg (qbr e).toArray] ((Array.range (1*4)).map ((Value.agg #[.int .i64 0,.int .i64 0,.int .i64 0,.slice none 0 0]).cells[· % (Value.agg #[.int .i64 0,.int .i64 0,.int .i64 0,.slice none 0 0]).cells.size]!)) (fun u hu=>by
  rw[q8.1 hu]
  rfl) (by simp)
 have e1:([Value.agg (qbr e).toArray].flatMap fun u=>u.cells.toList).toArray=(qbr e).toArray:=by
  show((qbr e).toArray.toList++[]).toArray=(qbr e).toArray
  rw[jd]
 rw[e1] at hf
 rw[hz1]
 simp only[List.map_toArray,y8,qbu,hx]
 exact hf
theorem qm5{ops:Array Oper}{rest:List Oper}{o:Oper}{a:Act}{Q:Exit→Act→World→Prop}{w:World}{v:Value}{g n:Nat}(base:Nat)(es:List (Int×Int))(e:Int×Int)(hn:es.length=n)(hgd:o.guard=none)(s x:Operand)
  (ho:o.op= .call { callee:= .builtin .append,args:=#[s,x],argTypes:=#[57,57] }) (hty:o.type=57)
  (hs:a.eval s=v) (hx:a.eval x= .slice (some ⟨g,0,none⟩) 1 1) (hcells:∀j u,(qbr e)[j]? = some u→w.cell? ⟨g,j,none⟩=some u)
  (hown:w.ownsRow base 60 4 v n (cds es)) (hb:n+1≤1000000000) (hbase:base≤w.heap.size)
  (h:∀A' c' w',w'.ownsRow base 60 4 (.slice A' (n+1) c') (n+1) (cds (es++[e]))→w.grownBy w' v.ownBlock→((Value.slice A' (n+1) c').ownBlock=v.ownBlock∨(Value.slice A' (n+1) c').ownBlock=some w.heap.size)→wpList Tryz.prog ops Q rest (a.put o.dst (.slice A' (n+1) c')) w') :
  wpList Tryz.prog ops Q (o :: rest) a w:=by
 subst hn
 obtain⟨i0,hi0,hz0,hz1,hz2⟩:=info_parts Tryz.infoCod
 obtain⟨v',w',hrun,h2,h3,_,h5⟩:=run_append_own_at (P:=Tryz.prog) w base 57 57 60 i0 _ 4 48 Tryz.underlying57 hi0 hz0 hz1 hz2 rfl (by omega) v es.length (cds es) hown ⟨g,0,none⟩ 1 1 (qbr e) rfl
  (fun j u hu=>by
   have:=hcells j u hu
   rwa [show(⟨g,j,none⟩:Addr)=(⟨g,0,none⟩:Addr).add j from by unfold Addr.add;by_cases h0:j=0 <;> simp[h0]] at this) (cd_one e) (by simp only[maxLen];omega) (by omega) hbase
 obtain⟨A',c',rfl,_⟩:=qbp w' h2
 refine wpList_append_run hgd s x _ _ ho hs hx (by rw[hty];exact hrun) (h A' c' w' ?_ h3 h5)
 rw[cds_snoc]
 exact h2
theorem cod_cells(w:World)(e:Int×Int):∀j u,(qbr e)[j]? = some u→(w.alloc (.cells (qbr e).toArray 60)).cell? ⟨w.heap.size,j,none⟩=some u:=fun j u hu=>by
 rw[zm _ _ _ _ rfl]
 simpa using hu
end Go.Proofs.YtjfecojdagmacaaGreat
