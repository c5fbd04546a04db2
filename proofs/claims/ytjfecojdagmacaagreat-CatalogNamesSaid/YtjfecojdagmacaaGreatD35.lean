/-
  Lemmas.
-/
import Derived.Test.YtjfecojdagmacaaGreatD22
import Derived.Test.YtjfecojdagmacaaGreatD34
namespace Go.Proofs.YtjfecojdagmacaaGreat
open Go.RowKit
set_option maxRecDepth 20000
set_option maxHeartbeats 16000000
set_option linter.unusedSimpArgs false
set_option linter.unusedVariables false
theorem colV_get{rs:List (List Vl)}{k i:Nat}(hi:i<rs.length)(hk:k<rs[i].length):(vk rs k)[i]? = some rs[i][k]:=by
 unfold vk
 rw[qae,qe hi,Option.map_some,List.getD,qe hk]
 rfl
theorem qfx{w w2:World}{base n m p:Nat}{A A2:Option Addr}{c c2:Nat}{xs ys zs:List UInt8}(ho:w.ownsRow base 5 1 (.slice A n c) n (bv xs))(hx:xs.length=n)(hbase:base≤w.heap.size)(hb:Below w.heap.size w w2)(ho2:w2.ownsRow w.heap.size 5 1 (.slice A2 m c2) m (bv ys))(hy:ys.length=m)(hz:xs++ys=zs)(hp:n+m=p)(hbig:p≤140737488355328) :
  ∃A' c' w',(Builtin.append_ #[36,36] 36 #[.slice A n c,.slice A2 m c2]).run Tryz.prog w2= .ok (.slice A' p c') w'∧w'.ownsRow base 5 1 (.slice A' p c') p (bv zs)∧Below base w2 w'∧w2.grownBy w' (Value.slice A n c).ownBlock∧∀q,(Value.slice A n c).ownBlock=some q→q<w.heap.size:=by
 subst hx hy hz hp
 have ho3:=jp ho hb (qc _)
 have hs:=hb.size
 obtain⟨A',c',w',h1,h2,h3⟩:=j9 w2 base _ xs ys (xs++ys) rfl ho3 (Rd.of_own ho2) hbig (by omega)
 rw[qd] at h1 h2
 exact⟨A',c',w',h1,h2,(Below.refl base w2).grown h3 (by omega) (fun q hq=>(zk ho3 hq).1),h3,fun q hq=>(zk ho hq).2⟩
theorem rise_ex:∀L:List Nat,∃t,Rise L t
 | []=>⟨[],List.Pairwise.nil,fun _=>Iff.rfl⟩
 | a :: L=>by
  obtain⟨t,h1,h2⟩:=rise_ex L
  refine⟨t.filter (· < a)++a :: t.filter (a < ·),?_,fun x => ?_⟩
  ·
   refine List.pairwise_append.2 ⟨h1.filter _,List.pairwise_cons.2 ⟨fun x hx=>of_decide_eq_true (List.mem_filter.1 hx).2,h1.filter _⟩,fun x hx y hy => ?_⟩
   have h3:x<a:=of_decide_eq_true (List.mem_filter.1 hx).2
   rcases z7.1 hy with rfl | hy
   ·
    exact h3
   ·
    have h4:a<y:=of_decide_eq_true (List.mem_filter.1 hy).2
    omega
  ·
   rw[zm,z7,List.mem_filter,List.mem_filter,decide_eq_true_eq,decide_eq_true_eq,z7,h2 x]
   constructor
   ·
    rintro(h | h | h)
    ·
     exact .inr h.1
    ·
     exact .inl h
    ·
     exact .inr h.1
   ·
    rintro(h | h)
    ·
     exact .inr (.inl h)
    ·
     rcases qei x a with h5 | h5 | h5
     ·
      exact .inl ⟨h,h5⟩
     ·
      exact .inr (.inl h5)
     ·
      exact .inr (.inr ⟨h,h5⟩)
def qlk(gs:List (List (List Vl)))(os:List Co):Prop:=∀g∈gs,∀k,k<os.length→y8 (qu (vk g k)) (qd2 os k)=2→y7 (ue (qu (vk g k)) (qd2 os k))=true
noncomputable def qmq (L:List Vl)(o:Co)(b:Nat):ColS:=⟨b,if b=0 then qnd (qu L) else [],if b=0 then [] else qe4 b (qnd (qu L)),qb8 L o⟩
noncomputable def qmn (os:List Co)(b:Nat)(g:List (List Vl)):GrpS:=⟨g.length,(List.range os.length).map fun k=>qmq (vk g k) (qd2 os k) b⟩
theorem grams_rise(S:List ByteArray):Rise (qcc (qcu S)) (qnd S):=by
 obtain⟨t,ht⟩:=rise_ex (qcc (qcu S))
 rw[qhz ht]
 exact ht
theorem colOf_at{bs rest:List UInt8}{k:Nat}{L:List Vl}{o:Co}{b:Nat}(h:ColW L o b)(hk:k≤bs.length)(hd:bs.drop k=qjj L o b++rest):ColAt bs k L.length (qmq L o b) (k+(qjj L o b).length):=by
 have hr:=grams_rise (qu L)
 have hl:=hr.len
 have hlen:bs.length-k=(qjj L o b).length+rest.length:=by rw[←qy,hd,qd]
 have hok:=chkOf_ok h.fits h.ok h.tab
 have hfil:xf b (qmq L o b).gs (qmq L o b).rs=qki (qu L) b:=by
  unfold qmq qki
  by_cases hb:b=0
  ·
   subst hb;rfl
  ·
   simp only[if_neg hb]
 have hf:FilG b (qmq L o b).gs (qmq L o b).rs:=by
  unfold qmq
  by_cases hb:b=0
  ·
   subst hb;exact FilG.list hr h.few
  ·
   simp only[if_neg hb];exact FilG.set _ h.bits
 have hB:=h.ok
 obtain⟨_,_,b1,b2,_⟩:=hB
 refine⟨⟨hok,by show(qb8 L o).there.length=L.length;rw[qlg,uk],hf,?_⟩,by omega,o.block.toNat,by omega,by omega,?_,?_⟩
 ·
  show qkg (qf7 (qb8 L o)) b _ _
  rw[chkOf_str h.fits h.ok h.tab]
  exact⟨qnd (qu L),hr,rfl,rfl⟩
 ·
  show bs.drop k=xf b _ _++(qhp o.block.toNat (qb8 L o)++_)
  rw[hfil,←codeL_chk h.ok,←jh,hd,ym,qjj,qp]
 ·
  show k+(qjj L o b).length=k+((xf b _ _).length+(qhp o.block.toNat (qb8 L o)).length)
  rw[hfil,←codeL_chk h.ok,qjj,qd]
theorem qp4{bs:List UInt8}{g:List (List Vl)}{os:List Co}{b:Nat}:∀ {j k:Nat} {rest:List UInt8},(∀i,i<j→ColW (vk g i) (qd2 os i) b)→k≤bs.length→bs.drop k=qbc g os b j++rest→qdc bs g.length k j=some ((List.range j).map fun i=>qmq (vk g i) (qd2 os i) b,k+(qbc g os b j).length)
 | 0,k,rest,_,_,_=>by simp[qdc,qbc]
 | j+1,k,rest,hw,hk,hd=>by
  rw[qie,qp] at hd
  have h1:=qp4 (fun i hi=>hw i (by omega)) hk hd
  have hlen:bs.length-k=(qbc g os b j).length+(qjj (vk g j) (qd2 os j) b++rest).length:=by rw[←qy,hd,qd]
  have h2:=colOf_at (bs:=bs) (rest:=rest) (k:=k+(qbc g os b j).length) (hw j (by omega)) (by omega) (by rw[←jh,hd,ym])
  rw[qa6] at h2
  rw[cols_some h1 (colR_is h2),qie,qd,List.range_succ,jl,qav]
  rfl
theorem qpx{bs:List UInt8}{gs:List (List (List Vl))}{os:List Co}{b k:Nat}(hw:∀g∈gs,0<g.length∧∀i,i<os.length→ColW (vk g i) (qd2 os i) b)(hr:uf gs≤4096)(hk:k≤bs.length):∀ {i:Nat} {rest:List UInt8},i≤gs.length→bs.drop k=qbz os b (gs.take i)++rest→
  qc6 bs os.length k i=some ((gs.take i).map (qmn os b),k+(qbz os b (gs.take i)).length,4096-uf (gs.take i))
 | 0,rest,_,_=>by simp[qc6,qbz,uf]
 | i+1,rest,hi,hd=>by
  have hil:i<gs.length:=hi
  obtain⟨hw1,hw2⟩:=hw _ (ql hil)
  rw[qj2 hil,qp] at hd
  have h1:=qpx hw hr hk (Nat.le_of_lt hil) hd
  have hlen:bs.length-k=(qbz os b (gs.take i)).length+(qo5 os b gs[i]++rest).length:=by rw[←qy,hd,qd]
  have hd2:bs.drop (k+(qbz os b (gs.take i)).length)=ji gs[i].length++(qbc gs[i] os b os.length++rest):=by rw[←jh,hd,ym,qo5,qp]
  have hrt:=qfu hil
  have hrl:=qja gs (i+1)
  have h2:=ut (m:=((4096-uf (gs.take i):Nat):Int)) hd2 (by omega) (by omega)
  have hlen2:bs.length-(k+(qbz os b (gs.take i)).length)=(ji gs[i].length).length+(qbc gs[i] os b os.length++rest).length:=by rw[←qy,hd2,qd]
  have hpos:=qnz gs[i].length
  have h3:=qp4 (bs:=bs) (g:=gs[i]) (os:=os) (b:=b) (j:=os.length) (k:=k+(qbz os b (gs.take i)).length+(ji gs[i].length).length) (rest:=rest) hw2 (by omega) (by rw[←jh,hd2,ym])
  have h4:=grp_some h2 (by omega) h3
  rw[grps_some h1 h4,qj hil,jl]
  simp only[yc,vu,qmn]
  have e1:(qbz os b (gs.take i++[gs[i]])).length=(qbz os b (gs.take i)).length+((ji gs[i].length).length+(qbc gs[i] os b os.length).length):=by
   rw[←qj hil,qj2 hil,qd,qo5,qd]
  have e2:uf (gs.take i++[gs[i]])=uf (gs.take i)+gs[i].length:=by rw[←qj hil,hrt]
  rw[e1,e2]
  simp only[Option.some.injEq,Prod.mk.injEq,true_and]
  omega
theorem rowsN_len:∀ {gs:List (List (List Vl))},(∀g∈gs,0<g.length)→gs.length≤uf gs
 | [],_=>qi _
 | g :: gs,h=>by
  have h1:=rowsN_len (gs:=gs) fun x hx=>h x (j5 _ hx)
  have h2:=h g je
  show gs.length+1≤g.length+uf gs
  omega
def FewGr(gs:List (List (List Vl)))(os:List Co):Prop:=∀g∈gs,∀k,k<os.length→(qcc (qcu (qu (vk g k)))).length≤65536
theorem colW_of{gs:List (List (List Vl))}{os:List Co}{cols:Int}{b:Nat}(hR:qa8 cols gs os (b:Int))(hT:qlk gs os)(hG:FewGr gs os):∀g∈gs,0<g.length∧∀i,i<os.length→ColW (vk g i) (qd2 os i) b:=fun g hg=>by
 obtain⟨a1,a2,a3,a4,a5,a6,a7,a8⟩:=hR
 refine⟨(a8 g hg).1,fun i hi=>⟨(a8 g hg).2.2 i hi,?_,hT g hg i hi,by omega,hG g hg i hi⟩⟩
 rw[coAt_is hi]
 exact a6 _ (ql hi)
theorem segR_there{gs:List (List (List Vl))}{os:List Co}{cols:Int}{b:Nat}(hR:qa8 cols gs os (b:Int))(hT:qlk gs os)(hG:FewGr gs os):qjy (qh2 os b gs)=some (os.length,gs.map (qmn os b)):=by
 have hw:=colW_of hR hT hG
 obtain⟨a1,a2,a3,a4,a5,a6,a7,a8⟩:=hR
 have hgl:=rowsN_len fun g hg=>(hw g hg).1
 have d0:(qh2 os b gs).drop 0=ji os.length++(ji gs.length++qbz os b gs):=by rw[jy,qh2,qp]
 have h1:=ut (m:=8) d0 (by omega) (by omega)
 have d1:(qh2 os b gs).drop (0+(ji os.length).length)=ji gs.length++qbz os b gs:=by rw[←jh,d0,ym]
 have h2:=ut (m:=4096) d1 (by omega) (by omega)
 have hlen:(qh2 os b gs).length=(ji os.length).length+((ji gs.length).length+(qbz os b gs).length):=by rw[qh2,qd,qd,qav]
 have h3:=qpx (bs:=qh2 os b gs) (k:=0+(ji os.length).length+(ji gs.length).length) (rest:=[]) hw a7 (by omega) (qc gs.length) (by rw[←jh,d1,ym,qo (qc _),jb])
 rw[qo (qc _)] at h3
 exact seg_some h1 (by omega) h2 h3 (by omega)
theorem sg_there{gs:List (List (List Vl))}{os:List Co}{cols:Int}{b:Nat}(hR:qa8 cols gs os (b:Int))(hT:qlk gs os)(hG:FewGr gs os):ke (vo (qh2 os b gs)) os.length (gs.map (qmn os b)):=by
 refine⟨qjz _,?_⟩
 rw[qc2,Nat.add_sub_cancel,qh3]
 exact segR_there hR hT hG
theorem rowsG_of{os:List Co}{b:Nat}{g:List (List Vl)}(hw:∀i,i<os.length→ColW (vk g i) (qd2 os i) b)(hl:∀r∈g,r.length=os.length):rowsG (qmn os b g)=g:=by
 have h1:∀i (hi:i<g.length),qme ((List.range os.length).map fun k=>qmq (vk g k) (qd2 os k) b) i=g[i]:=fun i hi=>by
  have hlen:=hl _ (ql hi)
  apply qco
  ·
   rw[qg2,q8,List.length_range,hlen]
  ·
   intro k hk1 hk2
   rw[qg2,q8,List.length_range] at hk1
   have h3:=hw k hk1
   simp only[qme,j6,List.getElem_range]
   show(qbw (qb8 (vk g k) (qd2 os k))).getD i ⟨true,⟨#[]⟩⟩=_
   rw[chkOf_vals h3.fits h3.ok h3.tab,List.getD,colV_get hi hk2]
   rfl
 unfold rowsG qmn
 apply qco
 ·
  simp
 ·
  intro i hi1 hi2
  rw[j6,List.getElem_range]
  exact h1 i hi2
theorem rowsS_of{gs:List (List (List Vl))}{os:List Co}{cols:Int}{b:Nat}(hR:qa8 cols gs os (b:Int))(hT:qlk gs os)(hG:FewGr gs os):qhg (gs.map (qmn os b))=gs.flatten:=by
 have hw:=colW_of hR hT hG
 unfold qhg
 congr 1
 rw[qac]
 conv=>rhs;rw[←List.map_id gs]
 refine qb2 fun g hg => ?_
 exact rowsG_of (hw g hg).2 (hR.2.2.2.2.2.2.2 g hg).2.1
theorem rowsT_of(os:List Co)(b:Nat)(gs:List (List (List Vl))):qat (gs.map (qmn os b))=uf gs:=by
 unfold qat uf
 rw[qac]
 rfl
theorem sumQ_le{g:List (List Vl)}:∀ {gs:List (List (List Vl))},g∈gs→qhj g≤qiy gs
 | x :: gs,h=>by
  show qhj g≤qhj x+qiy gs
  rcases z7.1 h with rfl | h
  ·
   omega
  ·
   have:=sumQ_le h
   omega
theorem few_gr{gs:List (List (List Vl))}{os:List Co}(h:FewSg gs os)(hw:∀g∈gs,∀r∈g,r.length=os.length):FewGr gs os:=fun g hg k hk=>by
 have h1:=allL_sum (qu (vk g k))
 have h2:=qgo (vk g k)
 have h3:=qns (g:=g) (k:=k) fun r hr=>by rw[hw g hg r hr];exact hk
 have h4:=sumQ_le hg
 have h5:=h.bytes
 omega
theorem ptV_length(ps:List Nat):(ptV ps).length=ps.length:=by simp[ptV]
section
open Go.RowKit Go.Maps Go.WideMaps
theorem rowsPt_length:∀l:List Pt,(qm0 l).length=qcf l
 | []=>rfl
 | p :: l=>by
  have h:=rowsPt_length l
  simp only[qm0,qcf,yc,qaf,qd,List.sum_cons,qnv] at *
  omega
end
def qkn(es:List Tm):List Value:=es.flatMap qa7
theorem qmu:∀es:List Tm,(qkn es).length=es.length*4
 | []=>rfl
 | e :: es=>by
  have:=qmu es
  simp only[qkn,qbu,qd,qw,qa7,j4] at *
  omega
theorem tms_snoc(es:List Tm)(e:Tm):qkn (es++[e])=qkn es++qa7 e:=by simp[qkn]
theorem tms_append(es fs:List Tm):qkn (es++fs)=qkn es++qkn fs:=by simp[qkn]
theorem tm_one(e:Tm):∀u∈qa7 e,u.oneCell'=true:=by
 intro u hu
 simp only[qa7,z7,xv,or_false] at hu
 rcases hu with rfl | rfl | rfl | rfl <;> rfl
theorem tms_one(es:List Tm):∀u∈qkn es,u.oneCell'=true:=by
 intro u hu
 obtain⟨e,_,he⟩:=List.mem_flatMap.1 hu
 exact tm_one e u he
theorem tms_get:∀(es:List Tm) (j i:Nat),i<4→(qkn es)[j*4+i]? = (es[j]?).bind fun e=>(qa7 e)[i]?
 | [],j,i,hi=>by simp[qkn]
 | e :: es,0,i,hi=>by
  match i,hi with
  | 0,_=>rfl
  | 1,_=>rfl
  | 2,_=>rfl
  | 3,_=>rfl
 | e :: es,j+1,i,hi=>by
  have:=tms_get es j i hi
  rw[show(j+1)*4+i=j*4+i+1+1+1+1 by omega]
  simpa[qkn,qa7] using this
theorem tab_own{w:World}{base n c:Nat}{A:Option Addr}{es:List Tm}(h:w.ownsRow base 41 4 (.slice A n c) n (qkn es))(hn:es.length=n):qhr w base w.heap.size A c es:=by
 subst hn
 unfold qhr
 rcases h.2 with ⟨hv,h0⟩ | ⟨g,cap,cur,hv,hb,hg,hnc,hcm,hcs,htake⟩
 ·
  injection hv with e1 e2 e3
  subst e1 e3
  exact⟨by omega,by simp[maxLen],fun hp=>by omega⟩
 ·
  injection hv with e1 e2 e3
  subst e1 e3
  refine⟨hnc,hcm,fun _=>⟨g,0,rfl,hb,(xt.1 hg).1,fun j hj i hi => ?_⟩⟩
  have hlt:j*4+i<es.length*4:=by omega
  have h5:cur.toList[j*4+i]? = (qkn es)[j*4+i]?:=by rw[←htake,uq,if_pos hlt]
  rw[yr,cell_of_row w g (j*4+i) cur _ (0,0) hg,←qd4,h5,tms_get es j i hi]
theorem Tryz.infoTbl:(Tryz.prog.info? 41).map (fun i=>(i.zero,i.size,i.bytes))=some (some (.agg #[.string ⟨#[]⟩,.int .i64 0,.slice none 0 0,.slice none 0 0]),4,72):=by kernel_rfl
theorem qqh{ops:Array Oper}{rest:List Oper}{o:Oper}{a:Act}{w:World}{Q:Exit→Act→World→Prop}(e:Tm)(hg:o.guard=none)(x:Operand)(ho:o.op= .buildSlice 27 1 #[(0,x)])(hx:a.eval x= .agg (qa7 e).toArray)
  (h:wpList Tryz.prog ops Q rest (a.put o.dst (.slice (some ⟨w.heap.size,0,none⟩) 1 1)) (w.alloc (.cells (qa7 e).toArray 41))):wpList Tryz.prog ops Q (o :: rest) a w:=by
 obtain⟨i0,hi0,hz0,hz1,hz2⟩:=info_parts Tryz.infoTbl
 refine wpList_buildSlice hg _ _ 1 _ ho (qa7 e).toArray i0 _ Tryz.underlying27 hi0 hz0 (by rw[hz1];omega) (by rw[hz1];omega) ?_ h
 have hf:=Great.fill_whole (s:=4) (by omega) [.agg (qa7 e).toArray] ((Array.range (1*4)).map ((Value.agg #[.string ⟨#[]⟩,.int .i64 0,.slice none 0 0,.slice none 0 0]).cells[· % (Value.agg #[.string ⟨#[]⟩,.int .i64 0,.slice none 0 0,.slice none 0 0]).cells.size]!)) (fun u hu=>by
  rw[ze.1 hu]
  rfl) (by simp)
 have e1:([Value.agg (qa7 e).toArray].flatMap fun u=>u.cells.toList).toArray=(qa7 e).toArray:=by
  show((qa7 e).toArray.toList++[]).toArray=(qa7 e).toArray
  rw[jb]
 rw[e1] at hf
 rw[hz1]
 simp only[qcn,yc,vu,hx]
 exact hf
theorem qqa{w:World}{base n m:Nat}{v:Value}(es fs:List Tm)(hn:es.length=n)(hm:fs.length=m)(hown:w.ownsRow base 41 4 v n (qkn es)){lo hi c:Nat}{A:Option Addr}(hr:qhr w lo hi A c fs)(hb:n+m≤1000000)(hbase:base≤w.heap.size) :
  ∃A' c' w',(Builtin.append_ #[27,27] 27 #[v,.slice A m c]).run Tryz.prog w= .ok (.slice A' (n+m) c') w'∧w'.ownsRow base 41 4 (.slice A' (n+m) c') (n+m) (qkn (es++fs))∧w.grownBy w' v.ownBlock∧
   ((Value.slice A' (n+m) c').ownBlock=v.ownBlock∨(Value.slice A' (n+m) c').ownBlock=some w.heap.size):=by
 subst hn hm
 obtain⟨i0,hi0,hz0,hz1,hz2⟩:=info_parts Tryz.infoTbl
 rcases A with _ | ad
 ·
  have hm:fs=[]:=by
   rcases jr fs.length with h0 | h0
   ·
    exact zh h0
   ·
    obtain⟨_,_,h,_⟩:=Els.lies hr h0
    cases h
  subst hm
  obtain⟨A',c',rfl,_⟩:=qbx w hown
  refine⟨A',c',w,?_,by rw[jb];exact hown,vg _ _,Or.inl rfl⟩
  rcases hown.2 with ⟨hv,h0⟩ | ⟨g,cap,cur,hv,_,_,hnc,_⟩
  ·
   injection hv with h1 h2 h3
   subst h1 h3
   simp[h2,Builtin.append_,run_underlying Tryz.underlying27,sizeOf,typeInfo,hi0,Builtin.lenOf,Builtin.firstCells]
  ·
   injection hv with h1 h2 h3
   subst h1 h3
   simp[Builtin.append_,run_underlying Tryz.underlying27,sizeOf,typeInfo,hi0,Builtin.lenOf,Builtin.firstCells,hnc,storeCells]
 ·
  have hcells:∀j u,(qkn fs)[j]? = some u→w.cell? (ad.add j)=some u:=fun j u hu=>by
   have hjl:j<(qkn fs).length:=(zw.1 hu).1
   rw[qmu] at hjl
   obtain⟨b,off,e,_,_,hcs⟩:=Els.lies hr (by omega)
   obtain rfl:=zr e
   have h2:=hcs (j/4) (by omega) (j%4) (by omega)
   have h3:=tms_get fs (j/4) (j%4) (by omega)
   rw[show j/4*4+j%4=j by omega,hu] at h3
   rw[←h3] at h2
   have e:(⟨b,off,none⟩:Addr).add j=⟨b,off+j/4*4+j%4,none⟩:=by
    unfold Addr.add
    by_cases h0:j=0
    ·
     simp[h0]
    ·
     simp[h0];omega
   rw[e]
   exact h2
  obtain⟨v',w',hrun,h2,h3,_,h5⟩:=run_append_own_at (P:=Tryz.prog) w base 27 27 41 i0 _ 4 72 Tryz.underlying27 hi0 hz0 hz1 hz2 rfl (by omega) v es.length (qkn es) hown ad fs.length c (qkn fs) (qmu fs) hcells (tms_one fs) (by simp only[maxLen];omega) (by omega) hbase
  rw[←tms_append] at h2
  obtain⟨A',c',rfl,_⟩:=qbx w' h2
  exact⟨A',c',w',hrun,h2,h3,h5⟩
theorem tab_none(w:World):(w.alloc (.cells #[] 41)).ownsRow w.heap.size 41 4 (.slice (some ⟨w.heap.size,0,none⟩) 0 0) 0 (qkn []) :=
 kf (e:=41) (size:=4) (base:=w.heap.size) w #[] 0 (qc _) (by simp[maxLen]) (by simp)
theorem tab_lit(w:World)(e:Tm):qhr (w.alloc (.cells (qa7 e).toArray 41)) w.heap.size (w.heap.size+1) (some ⟨w.heap.size,0,none⟩) 1 [e]:=by
 have h:=kf (e:=41) (size:=4) (base:=w.heap.size) w (qa7 e).toArray 1 (qc _) (by simp[maxLen]) rfl
 have e1:(qa7 e).toArray.toList=qkn [e]:=by simp[qkn]
 rw[e1] at h
 have:=tab_own h rfl
 rw[yi] at this
 exact this
theorem refExport_v{w:World}{name:ByteArray}{n nr rc nb bc:Nat}{rA bA:Option Addr}{raw:List (List UInt8)}(h:qjs w 0 w.heap.size bA bc raw)(hnb:raw.length=nb)(hn1:nb≤1000)(hn:n≤100)(hs:(vd n raw).length≤900000000) :
  Calls Tryz.prog 19 #[.agg #[.string name,.int .i64 (n:Int),.slice rA nr rc,.slice bA nb bc]] w fun r w'=>∃A' c',r= .returned (.slice A' (vo (vd n raw)).length c')∧w'.ownsRow w.heap.size 5 1 (.slice A' (vo (vd n raw)).length c') (vo (vd n raw)).length (bv (vo (vd n raw)))∧Below w.heap.size w w':=by
 obtain⟨hl,hm⟩:=h.len
 rw[hnb] at hl
 have H:Hid (∀W,Below w.heap.size w W→qjs W 0 W.heap.size bA bc raw):=fun W hW=>(h.below hW (qc _)).wide (qc _) hW.size
 have HNB:=qa hnb
 obtain⟨w1,hw1⟩:∃x,w.alloc (.cells #[.string name,.int .i64 (n:Int),.slice rA nr rc,.slice bA nb bc] 41)=x:=⟨_,rfl⟩
 have B1:Hid (Below w.heap.size w w1):=by unfold Hid;rw[←hw1];exact(Below.refl _ w).alloc (qc _) _
 have hbk:yy w1 w.heap.size 41 #[.string name,.int .i64 (n:Int),.slice rA nr rc,.slice bA nb bc]:=by rw[←hw1];exact yy.new w _ _
 have HCF:Hid (∀W,Below w1.heap.size w1 W→W.cell? ⟨w.heap.size,1,none⟩=some (.int .i64 (n:Int))∧W.cell? ⟨w.heap.size,3,none⟩=some (.slice bA nb bc)):=fun W hW=>by
  have hx:=hbk.below hW hbk.lt
  exact⟨hx.cell 1,hx.cell 3⟩
 have hs1:=B1.out.size
 obtain⟨T,hT⟩:∃T,vd n raw=T:=⟨_,rfl⟩
 rw[hT] at hs ⊢
 obtain⟨P1,hP1⟩:∃P,ji n=P:=⟨_,rfl⟩
 obtain⟨P2,hP2⟩:∃P,ji nb=P:=⟨_,rfl⟩
 obtain⟨HD,hHD⟩:∃P,P1++P2=P:=⟨_,rfl⟩
 have hTH:HD++ko raw=T:=by rw[←hHD,←hP1,←hP2,←hT,vd,hnb]
 have hp1:P1.length≤9:=by rw[←hP1];exact ve n (by omega)
 have hp2:P2.length≤9:=by rw[←hP2];exact ve nb (by omega)
 have HPU1:Hid (∀W,Below w1.heap.size w1 W→Calls Tryz.prog 41 #[.int .i64 (n:Int)] W fun r w'=>∃A c,r= .returned (.slice A P1.length c)∧w'.ownsRow W.heap.size 5 1 (.slice A P1.length c) P1.length (bv P1)∧Below W.heap.size W w'):=fun W _=>by
  rw[←hP1]
  exact ux n (by omega)
 have HPU2:Hid (∀W,Below w1.heap.size w1 W→Calls Tryz.prog 41 #[.int .i64 (nb:Int)] W fun r w'=>∃A c,r= .returned (.slice A P2.length c)∧w'.ownsRow W.heap.size 5 1 (.slice A P2.length c) P2.length (bv P2)∧Below W.heap.size W w'):=fun W _=>by
  rw[←hP2]
  exact ux nb (by omega)
 have HHD:=qa hHD
 have HTH:=qa hTH
 have HHL:Hid (HD.length=P1.length+P2.length):=by unfold Hid;rw[←hHD,qd]
 have HFL:Hid (∀i,(HD++ko (raw.take i)).length≤900000000):=fun i=>by
  have h1:=flatB_le raw i
  have h2:(HD++ko raw).length≤900000000:=by rw[hTH];exact hs
  rw[qd] at h2 ⊢
  omega
 clear h hbk hT hP1 hP2 hHD hTH hnb
 go_enter Tryz.func19,Tryz.ntmps19
 go_wp2_with fail
 clear hw1
 have KD:Hid (Below w1.heap.size w1 w1.drew):=(Below.refl _ _).drew
 refine wp_region_held_drew (S:=fun W=>Below w1.heap.size w1 W) (by kernel_rfl) KD.out (fun hHeld => ?_)
 refine tk 0 ?_ rfl hHeld ?_ ?_
 rotate_left
 focus (intro W hSw;obtain⟨q0,q1⟩:=HCF.out W hSw;go_simp;try with_reducible rfl)
 try simp only[ju,Act.put]
 refine tk 1 ?_ rfl hHeld ?_ ?_
 rotate_left
 focus (intro W hSw;obtain⟨q0,q1⟩:=HCF.out W hSw;go_simp;try with_reducible rfl)
 try simp only[ju,Act.put]
 refine tk 3 ?_ rfl hHeld ?_ ?_
 rotate_left
 focus (intro W hSw;obtain⟨q0,q1⟩:=HCF.out W hSw;go_simp;try with_reducible rfl)
 try simp only[ju,Act.put]
 refine tk 4 ?_ rfl hHeld ?_ ?_
 rotate_left
 focus (intro W hSw;obtain⟨q0,q1⟩:=HCF.out W hSw;go_simp;try with_reducible rfl)
 try simp only[ju,Act.put]
 refine tk 5 ?_ rfl hHeld ?_ ?_
 rotate_left
 focus (intro W hSw;obtain⟨q0,q1⟩:=HCF.out W hSw;go_simp;try with_reducible rfl)
 try simp only[ju,Act.put]
 obtain⟨wd,hwd⟩:∃q,w1.drew=q:=⟨_,rfl⟩
 rw[hwd] at hHeld ⊢
 clear KD hwd
 have L1:=qa hHeld
 refine wpAnyH_ready (rs:=[2]) (by kernel_rfl) (by simp) ?_
 refine qt (o:=_) rfl (fun K hK => ?_) za
 go_simp
 refine(HPU1.out _ L1.out).mono ?_
 rintro r w2 ⟨A1,c1,rfl,ho1,hb1⟩
 have L2:Hid (Below w1.heap.size w1 w2):=L1.out.trans (hb1.mono L1.out.size)
 have HO1:=qa ho1
 clear ho1 hb1
 refine hK.out _ _ L2.out (fun hHeld => ?_)
 clear hK K
 try simp only[ju,Act.put]
 refine wpAnyH_ready (rs:=[6]) (by kernel_rfl) (by simp) ?_
 refine qt (o:=_) rfl (fun K hK => ?_) za
 go_simp
 refine(HPU2.out _ L2.out).mono ?_
 rintro r w3 ⟨A2,c2,rfl,ho2,hb2⟩
 have L3:Hid (Below w1.heap.size w1 w3):=L2.out.trans (hb2.mono L2.out.size)
 have HO2:=qa ho2
 have HO1':Hid (w3.ownsRow w1.heap.size 5 1 (.slice A1 P1.length c1) P1.length (bv P1)):=jm (jp HO1.out hb2 (qc _)) L1.out.size
 clear ho2 hb2
 refine hK.out _ _ L3.out (fun hHeld => ?_)
 clear hK K
 try simp only[ju,Act.put]
 refine wpAnyH_ready (rs:=[7]) (by kernel_rfl) (by simp) ?_
 refine qt (o:=_) rfl (fun K hK => ?_) za
 obtain⟨A3,c3,w4,hrun3,ho3,hb3⟩:=qh0 HO1'.out rfl (Rd.of_own HO2.out) rfl HHD.out rfl (by omega) L3.out.size
 rw[←HHL.out] at hrun3 ho3
 have K4:Hid (Below w1.heap.size w1 w4):=L3.out.trans hb3
 have HO3:=qa ho3
 refine xu (.tmp 7) (.tmp 11) _ _ rfl rfl rfl hrun3 ?_
 clear hrun3 ho3 hb3
 refine hK.out _ _ K4.out (fun hHeld => ?_)
 clear hK K
 try simp only[ju,Act.put]
 refine tk 8 ?_ rfl hHeld ?_ ?_
 rotate_left
 focus (intro W hSw;obtain⟨q0,q1⟩:=HCF.out W hSw;go_simp;try with_reducible rfl)
 try simp only[ju,Act.put]
 refine wpAnyH_done (by kernel_rfl) ?_ _
 clear hHeld
 clear HPU1 HPU2
 go_wp2_with fail
 go_loopw [3,4] (fun x3 x4 wr=>∃(i p:Nat) (A':Option Addr) (c':Nat),i≤nb∧x4= .int .i64 (i:Int)∧x3= .slice A' p c'∧Hid ((HD++ko (raw.take i)).length=p)∧Hid (wr.ownsRow w1.heap.size 5 1 (.slice A' p c') p (bv (HD++ko (raw.take i))))∧Below w1.heap.size w1 wr) (fun _ x4 _=>nb-(intOf x4).toNat)
 case atStart=>exact⟨0,HD.length,A3,c3,qi _,rfl,rfl,by unfold Hid;rw[y9,show ko []=[] from rfl,jb],by unfold Hid;rw[y9,show ko []=[] from rfl,jb];exact HO3.out,K4.out⟩
 case round =>
  clear HO3 K4 HO1' HO2 HO1 L1 L2 L3
  obtain⟨i,p,A',c',hi,rfl,rfl,HP,HOW,hb⟩:=hrel
  obtain⟨wg,rfl⟩:∃x,x=wr:=⟨_,rfl⟩
  have HBG:=qa hb
  have hszg:=hb.size
  have HBW:Hid (Below w.heap.size w wg):=B1.out.trans (hb.mono hs1)
  clear hb
  obtain⟨q0,q1⟩:=HCF.out wg HBG.out
  by_cases hlt:i<nb
  case neg =>
   have ii:¬(i:Int)<(nb:Int):=by omega
   have hte:raw.take i=raw:=qo (by rw[HNB.out];omega)
   rw[hte,HTH.out] at HP HOW
   have hpt:T.length=p:=HP.out
   subst hpt
   have HSE:=qa (qkx (w:=wg) T (Rd.of_own HOW.out) (qc _) (by omega))
   clear hte HOW HP
   go_wp2_with fail
   refine HSE.out.mono ?_
   rintro r w5 ⟨A5,c5,rfl,ho5,hb5⟩
   have HO5:=qa ho5
   have HB5:Hid (Below w.heap.size w w5):=HBW.out.trans (hb5.mono HBW.out.size)
   clear ho5 hb5 HSE
   go_wp2_with fail
   go_ret
   exact⟨_,_,rfl,jm HO5.out HBW.out.size,HB5.out⟩
  have ii:(i:Int)<(nb:Int):=by omega
  have ii0:(0:Int)≤(i:Int):=by omega
  have hlt2:i<raw.length:=by rw[HNB.out];exact hlt
  obtain⟨b,off,Ab,cb,rfl,_,hbl,hcell,hrd⟩:=(H.out w (Below.refl _ _)).get hlt2
  have HFT:=qa (flatB_take hlt2)
  have HL1:=qa (HFL.out (i+1))
  obtain⟨bs,hbs⟩:∃x,raw[i]=x:=⟨_,rfl⟩
  rw[hbs] at hcell hrd HFT
  obtain⟨m,hm2⟩:∃m,bs.length=m:=⟨_,rfl⟩
  rw[hm2] at hcell HFT
  obtain⟨PM,hPM⟩:∃x,ji m=x:=⟨_,rfl⟩
  rw[hPM] at HFT
  obtain⟨XS,hXS⟩:∃x,HD++ko (raw.take i)=x:=⟨_,rfl⟩
  rw[hXS] at HP HOW
  obtain⟨X1,hX1⟩:∃x,XS++PM=x:=⟨_,rfl⟩
  obtain⟨X2,hX2⟩:∃x,X1++bs=x:=⟨_,rfl⟩
  have HX2:Hid (HD++ko (raw.take (i+1))=X2):=by unfold Hid;rw[HFT.out,←qp,←qp,hXS,hX1,hX2]
  obtain⟨pm,hpm⟩:∃x,PM.length=x:=⟨_,rfl⟩
  obtain⟨p1,hp11⟩:∃x,p+pm=x:=⟨_,rfl⟩
  obtain⟨p2,hp22⟩:∃x,p1+m=x:=⟨_,rfl⟩
  have hx1l:X1.length=p1:=by rw[←hX1,qd,HP.out,hpm,hp11]
  have hx2l:X2.length=p2:=by rw[←hX2,qd,hx1l,hm2,hp22]
  have hbig:p2≤900000000:=by rw[←hx2l,←HX2.out];exact HL1.out
  have hbig1:p1≤900000000:=by omega
  have hm9:m≤900000000:=by omega
  have HPU:Hid (∀W:World,Calls Tryz.prog 41 #[.int .i64 (m:Int)] W fun r w'=>∃A c,r= .returned (.slice A pm c)∧w'.ownsRow W.heap.size 5 1 (.slice A pm c) pm (bv PM)∧Below W.heap.size W w'):=fun W=>by
   rw[←hpm,←hPM]
   exact ux m (by omega)
  have HCG:Hid (∀W,Below w1.heap.size w1 W→W.cell? ⟨b,off+i,none⟩=some (.slice Ab m cb)):=fun W hW=>((B1.out.trans (hW.mono hs1)).cell (p:=⟨b,off+i,none⟩) hbl).trans hcell
  have HRD:Hid (∀W,Below w1.heap.size w1 W→Rd W 0 w.heap.size Ab cb (bv bs)):=fun W hW=>hrd.below (B1.out.trans (hW.mono hs1)) (qc _)
  have HH1:=qa hX1
  have HH2:=qa hX2
  have HH3:=qa hpm
  have HH4:=qa hp11
  have HH5:=qa hp22
  have HH6:=qa hm2
  have HX1L:=qa hx1l
  have HX2L:=qa hx2l
  clear hcell hrd hbs hm2 hPM hXS hX1 hX2 hpm hp11 hp22 hx1l hx2l HFT
  go_wp2_with fail
  clear q0 q1
  have HOD:Hid (wg.drew.ownsRow w1.heap.size 5 1 (.slice A' p c') p (bv XS)):=jp HOW.out (Below.refl _ _).drew (qc _)
  have KD:Hid (Below w1.heap.size w1 wg.drew):=HBG.out.drew
  refine wp_region_held_drew (S:=fun W=>Below w1.heap.size w1 W) (by kernel_rfl) KD.out (fun hHeld => ?_)
  refine tk 0 ?_ rfl hHeld ?_ ?_
  rotate_left
  focus (intro W hSw;obtain⟨q0,q1⟩:=HCF.out W hSw;have q2:=HCG.out W hSw;go_simp;try with_reducible rfl)
  try simp only[ju,Act.put]
  refine tk 1 ?_ rfl hHeld ?_ ?_
  rotate_left
  focus (intro W hSw;obtain⟨q0,q1⟩:=HCF.out W hSw;have q2:=HCG.out W hSw;go_simp;try with_reducible rfl)
  try simp only[ju,Act.put]
  refine tk 2 ?_ rfl hHeld ?_ ?_
  rotate_left
  focus (intro W hSw;obtain⟨q0,q1⟩:=HCF.out W hSw;have q2:=HCG.out W hSw;go_simp;try with_reducible rfl)
  try simp only[ju,Act.put]
  refine tk 3 ?_ rfl hHeld ?_ ?_
  rotate_left
  focus (intro W hSw;obtain⟨q0,q1⟩:=HCF.out W hSw;have q2:=HCG.out W hSw;go_simp;try with_reducible rfl)
  try simp only[ju,Act.put]
  refine tk 4 ?_ rfl hHeld ?_ ?_
  rotate_left
  focus (intro W hSw;obtain⟨q0,q1⟩:=HCF.out W hSw;have q2:=HCG.out W hSw;go_simp;try with_reducible rfl)
  try simp only[ju,Act.put]
  refine tk 5 ?_ rfl hHeld ?_ ?_
  rotate_left
  focus (intro W hSw;obtain⟨q0,q1⟩:=HCF.out W hSw;have q2:=HCG.out W hSw;go_simp;try with_reducible rfl)
  try simp only[ju,Act.put]
  refine tk 6 ?_ rfl hHeld ?_ ?_
  rotate_left
  focus (intro W hSw;obtain⟨q0,q1⟩:=HCF.out W hSw;have q2:=HCG.out W hSw;go_simp;try with_reducible rfl)
  try simp only[ju,Act.put]
  refine tk 9 ?_ rfl hHeld ?_ ?_
  rotate_left
  focus (intro W hSw;obtain⟨q0,q1⟩:=HCF.out W hSw;have q2:=HCG.out W hSw;go_simp;try with_reducible rfl)
  try simp only[ju,Act.put]
  refine tk 10 ?_ rfl hHeld ?_ ?_
  rotate_left
  focus (intro W hSw;obtain⟨q0,q1⟩:=HCF.out W hSw;have q2:=HCG.out W hSw;go_simp;try with_reducible rfl)
  try simp only[ju,Act.put]
  refine tk 11 ?_ rfl hHeld ?_ ?_
  rotate_left
  focus (intro W hSw;obtain⟨q0,q1⟩:=HCF.out W hSw;have q2:=HCG.out W hSw;go_simp;try with_reducible rfl)
  try simp only[ju,Act.put]
  refine tk 12 ?_ rfl hHeld ?_ ?_
  rotate_left
  focus (intro W hSw;obtain⟨q0,q1⟩:=HCF.out W hSw;have q2:=HCG.out W hSw;go_simp;try with_reducible rfl)
  try simp only[ju,Act.put]
  refine tk 13 ?_ rfl hHeld ?_ ?_
  rotate_left
  focus (intro W hSw;obtain⟨q0,q1⟩:=HCF.out W hSw;have q2:=HCG.out W hSw;go_simp;try with_reducible rfl)
  try simp only[ju,Act.put]
  obtain⟨wd,hwd⟩:∃q,wg.drew=q:=⟨_,rfl⟩
  rw[hwd] at hHeld HOD ⊢
  clear KD hwd
  have L1:=qa hHeld
  refine wpAnyH_ready (rs:=[7]) (by kernel_rfl) (by simp) ?_
  refine qt (o:=_) rfl (fun K hK => ?_) za
  go_simp
  refine(HPU.out _).mono ?_
  rintro r w2 ⟨A2,c2,rfl,ho2,hb2⟩
  have L2:Hid (Below w1.heap.size w1 w2):=L1.out.trans (hb2.mono L1.out.size)
  have HO2:=qa ho2
  have HOS:Hid (w2.ownsRow w1.heap.size 5 1 (.slice A' p c') p (bv XS)):=jp HOD.out hb2 (qc _)
  clear ho2 hb2
  refine hK.out _ _ L2.out (fun hHeld => ?_)
  clear hK K
  try simp only[ju,Act.put]
  refine wpAnyH_ready (rs:=[8]) (by kernel_rfl) (by simp) ?_
  refine qt (o:=_) rfl (fun K hK => ?_) za
  obtain⟨A3,c3,w3,hrun3,ho3,hb3⟩:=qh0 HOS.out HP.out (Rd.of_own HO2.out) HH3.out HH1.out HH4.out (by omega) L2.out.size
  have L3:Hid (Below w1.heap.size w1 w3):=L2.out.trans hb3
  have HO3:=qa ho3
  refine xu (.tmp 20) (.tmp 27) _ _ rfl rfl rfl hrun3 ?_
  clear hrun3 ho3 hb3
  refine hK.out _ _ L3.out (fun hHeld => ?_)
  clear hK K
  try simp only[ju,Act.put]
  refine wpAnyH_ready (rs:=[14]) (by kernel_rfl) (by simp) ?_
  refine qt (o:=_) rfl (fun K hK => ?_) za
  obtain⟨A4,c4,w4,hrun4,ho4,hb4⟩:=qh0 HO3.out HX1L.out (HRD.out _ L3.out) HH6.out HH2.out HH5.out (by omega) L3.out.size
  have L4:Hid (Below w1.heap.size w1 w4):=L3.out.trans hb4
  have HO4:=qa ho4
  refine xu (.tmp 28) (.tmp 33) _ _ rfl rfl rfl hrun4 ?_
  clear hrun4 ho4 hb4
  refine hK.out _ _ L4.out (fun hHeld => ?_)
  clear hK K
  try simp only[ju,Act.put]
  refine tk 15 ?_ rfl hHeld ?_ ?_
  rotate_left
  focus (intro W hSw;obtain⟨q0,q1⟩:=HCF.out W hSw;have q2:=HCG.out W hSw;go_simp;try with_reducible rfl)
  try simp only[ju,Act.put]
  refine wpAnyH_done (by kernel_rfl) ?_ _
  clear hHeld
  go_wp2_with fail
  go_roundw
  case rel=>exact⟨i+1,p2,A4,c4,by omega,by go_num,rfl,by unfold Hid;rw[HX2.out];exact HX2L.out,by unfold Hid;rw[HX2.out];exact HO4.out,L4.out⟩
  case measure=>simp[intOf] <;> omega
theorem flatB_length(raw:List (List UInt8)):(ko raw).length=(raw.map fun b=>(ji b.length).length+b.length).sum:=by
 unfold ko
 rw[List.length_flatMap]
 simp
theorem grpsR_pre{bs:List UInt8}{nc k i:Nat}{a:List GrpS}{ka la:Nat}(h:qc6 bs nc k i=some (a,ka,la)):∀ {j kb lb:Nat} {b:List GrpS},i≤j→qc6 bs nc k j=some (b,kb,lb)→a <+: b:=by
 intro j
 induction j with
 | zero =>
  intro kb lb b hij hb
  obtain rfl:i=0:=by omega
  rw[h] at hb
  obtain⟨rfl,_⟩:=Prod.mk.inj (zr hb)
  exact List.prefix_refl _
 | succ j ih =>
  intro kb lb b hij hb
  by_cases e:i=j+1
  ·
   subst e
   rw[h] at hb
   obtain⟨rfl,_⟩:=Prod.mk.inj (zr hb)
   exact List.prefix_refl _
  ·
   rw[qc6,qan] at hb
   obtain⟨⟨c,kc,lc⟩,h1,h2⟩:=hb
   rw[un] at h2
   obtain⟨⟨g,kg⟩,h3,h4⟩:=h2
   obtain⟨rfl,_⟩:=Prod.mk.inj h4
   exact(ih (by omega) h1).trans (List.prefix_append _ _)
theorem colsR_pre{bs:List UInt8}{n k i:Nat}{a:List ColS}{ka:Nat}(h:qdc bs n k i=some (a,ka)):∀ {j kb:Nat} {b:List ColS},i≤j→qdc bs n k j=some (b,kb)→a <+: b:=by
 intro j
 induction j with
 | zero =>
  intro kb b hij hb
  obtain rfl:i=0:=by omega
  rw[h] at hb
  obtain⟨rfl,_⟩:=Prod.mk.inj (zr hb)
  exact List.prefix_refl _
 | succ j ih =>
  intro kb b hij hb
  by_cases e:i=j+1
  ·
   subst e
   rw[h] at hb
   obtain⟨rfl,_⟩:=Prod.mk.inj (zr hb)
   exact List.prefix_refl _
  ·
   rw[qdc,qan] at hb
   obtain⟨⟨c,kc⟩,h1,h2⟩:=hb
   rw[un] at h2
   obtain⟨⟨g,kg⟩,h3,h4⟩:=h2
   obtain⟨rfl,_⟩:=Prod.mk.inj h4
   exact(ih (by omega) h1).trans (List.prefix_append _ _)
theorem openH_plain{bs:List UInt8}{n:Nat}{gs:List GrpS}(h:qjy bs=some (n,gs))(hk:∀g∈gs,∀c∈g.cols,c.ck.kind=1)(hb:bs.length≤1000000000):OpenH bs:=by
 intro nc k0 cn k1 i kp left m k2 j kq b k3 e0 e1 gs' cs fg fr hM hN hi hG hL hm hj hC hT
 have hall:∃kz lz,qc6 bs nc k1 cn=some (gs,kz,lz):=by
  unfold qjy at h
  rw[hM] at h
  simp only[hN] at h
  split at h
  ·
   cases h
  ·
   split at h
   ·
    cases h
   ·
    rw[qan] at h
    obtain⟨⟨ds,k1',l1⟩,h1,h2⟩:=h
    split at h2
    ·
     cases h2
    ·
     obtain⟨_,rfl⟩:=Prod.mk.inj (zr h2)
     exact⟨_,_,h1⟩
 obtain⟨kz,lz,hall⟩:=hall
 have hsucc:∃x,qc6 bs nc k1 (i+1)=some x:=by
  match hx:qc6 bs nc k1 (i+1) with
  | some x=>exact⟨x,rfl⟩
  | none =>
   rw[grpsR_more hx (show i+1≤cn from hi)] at hall
   cases hall
 obtain⟨⟨gs1,kz1,lz1⟩,hs1⟩:=hsucc
 have hpre:=grpsR_pre hs1 (show i+1≤cn from hi) hall
 rw[qc6,hG] at hs1
 simp only[vb,un] at hs1
 obtain⟨⟨g,kg⟩,hg,h4⟩:=hs1
 obtain⟨rfl,_⟩:=Prod.mk.inj h4
 have hgm:g∈gs:=hpre.subset (by simp)
 unfold qo4 at hg
 simp only[hL] at hg
 rw[if_neg hm,un] at hg
 obtain⟨⟨cs',kc⟩,hcs,h5⟩:=hg
 obtain⟨rfl,_⟩:=Prod.mk.inj h5
 have hcsucc:∃x,qdc bs m k2 (j+1)=some x:=by
  match hx:qdc bs m k2 (j+1) with
  | some x=>exact⟨x,rfl⟩
  | none =>
   rw[colsR_more hx (show j+1≤nc from hj)] at hcs
   cases hcs
 obtain⟨⟨cs1,kc1⟩,hc1⟩:=hcsucc
 have hcpre:=colsR_pre hc1 (show j+1≤nc from hj) hcs
 rw[qdc,hC] at hc1
 simp only[vb,un] at hc1
 obtain⟨⟨c,kd⟩,hc,h6⟩:=hc1
 obtain⟨rfl,_⟩:=Prod.mk.inj h6
 have hcm:c∈cs':=hcpre.subset (by simp)
 have hkind:=hk _ hgm c hcm
 obtain⟨K,g1,g2,h7,h8⟩:=(colR_at hc).lies
 obtain⟨_,rfl,rfl,rfl⟩:=hT.there _ _ _ _ rfl (colR_at hc).ok.fil h7
 obtain⟨_,_,h9,h10,h11⟩:=hT.good rfl
 have h12:bs.drop k3=qhp K c.ck++bs.drop kd:=vi (h9.symm.trans h7)
 have h13:bs[k3]? = some 1:=by
  have:=congrArg List.head? h12
  rw[List.head?_drop,qhp,hkind] at this
  simpa using this
 exact fun {w lo g} hcu=>open_plain hcu hb h13
section
open Go.RowKit Go.Maps Go.WideMaps
theorem drop_no{w:World}{lo C:Nat}{M:Nat→Prop}{es:List En}(h:CatE w lo M C es)(s:ByteArray)(hs:s.size≤9223372036854775807)(hn:∀e∈es,e.name≠s) :
  Calls Tryz.prog 16 #[.pointer (some ⟨C,0,none⟩),.string s] w fun r w'=>r= .returned (.int .i64 7)∧w=w':=by
 have hf:=qi1 h s hs
 rw[qhx hn] at hf
 have HF:=qa hf
 clear hf h hn
 go_enter Tryz.func16,Tryz.ntmps16
 go_wp2_with fail
 refine HF.out.mono ?_
 rintro r w1 ⟨rfl,rfl⟩
 go_wp2_with fail
 go_ret
 exact⟨rfl,rfl⟩
end
theorem rowS_size{g:GrpS}{n:Nat}(h:g.Ok n){i:Nat}:∀v∈qme g.cols i,v.s.size≤4096:=fun v hv=>by
 obtain⟨c,hc,rfl⟩:=zl.1 hv
 have h1:=vals_fits (h.cols c hc).ck
 rw[List.getD]
 cases h2:(qbw c.ck)[i]? with
 | none=>exact qi _
 | some u=>exact(h1.2 u (List.mem_of_getElem? h2)).1
theorem rowsS_size{n:Nat}{gs:List GrpS}(h:SegOk n gs):∀r∈qhg gs,∀v∈r,v.s.size≤4096:=fun r hr v hv=>by
 obtain⟨l,hl,hr⟩:=List.mem_flatten.1 hr
 obtain⟨g,hg,rfl⟩:=zl.1 hl
 obtain⟨i,_,rfl⟩:=zl.1 hr
 exact rowS_size (h.grp g hg) v hv
theorem rowsS_width{n:Nat}{gs:List GrpS}(h:SegOk n gs):∀r∈qhg gs,r.length=n:=fun r hr=>by
 obtain⟨l,hl,hr⟩:=List.mem_flatten.1 hr
 obtain⟨g,hg,rfl⟩:=zl.1 hl
 obtain⟨i,_,rfl⟩:=zl.1 hr
 rw[qg2]
 exact(h.grp g hg).len
theorem sgrows_none{w:World}:Calls Tryz.prog 44 #[.pointer none] w fun r w'=>r= .returned (.slice none 0 0)∧w=w':=by
 go_enter Tryz.func44,Tryz.ntmps44
 go_wp2_with fail
 go_ret
 exact⟨rfl,rfl⟩
end Go.Proofs.YtjfecojdagmacaaGreat
