/-
  Lemmas.
-/
import Derived.Test.YtjfecojdagmacaaGreatD33
namespace Go.Proofs.YtjfecojdagmacaaGreat
open Go.RowKit
set_option maxRecDepth 20000
set_option maxHeartbeats 16000000
set_option linter.unusedSimpArgs false
set_option linter.unusedVariables false
theorem sumQ_take{g:List (List Vl)}{i:Nat}(h:i<g.length):qhj (g.take (i+1))=qhj (g.take i)+qgh g[i]:=by
 unfold qhj
 rw[qj h,jl,qb5]
 simp
theorem qot{gs:List (List (List Vl))}{i:Nat}(h:i<gs.length):qiy (gs.take (i+1))=qiy (gs.take i)+qhj gs[i]:=by
 unfold qiy
 rw[qj h,jl,qb5]
 simp
theorem sumV_bd{M:Nat}:∀ {r:List Vl},(∀v∈r,v.s.size≤M)→qgh r≤r.length*M
 | [],_=>qi _
 | v :: r,h=>by
  have h1:=sumV_bd (r:=r) fun x hx=>h x (j5 _ hx)
  have h2:=h v je
  show v.s.size+qgh r≤(r.length+1)*M
  rw[qek]
  omega
theorem sumQ_bd{M:Nat}:∀ {g:List (List Vl)},(∀r∈g,qgh r≤M)→qhj g≤g.length*M
 | [],_=>qi _
 | v :: r,h=>by
  have h1:=sumQ_bd (g:=r) fun x hx=>h x (j5 _ hx)
  have h2:=h v je
  show qgh v+qhj r≤(r.length+1)*M
  rw[qek]
  omega
def SizedG(gs:List (List (List Vl))):Prop:=∀g∈gs,g.length≤140737488355328∧∀r∈g,r.length≤140737488355328∧∀v∈r,v.s.size≤140737488355328
theorem refFewSg_v{w:World}{gs:List (List (List Vl))}{os:List Co}{A B:Option Addr}{c d:Nat}(h:qbg w 0 w.heap.size A c gs)(ho:qcs w 0 w.heap.size B d os)(hz:SizedG gs) :
  Calls Tryz.prog 26 #[.slice A gs.length c,.slice B os.length d] w fun r w'=>qgg gs os r∧w=w':=by
 obtain⟨hl,hm⟩:=h.len
 obtain⟨hl2,hm2⟩:=ho.len
 have H:=qa h
 have HO:=qa ho
 have HZ:Hid (∀i (hi:i<gs.length),gs[i].length≤140737488355328∧∀j (hj:j<gs[i].length),gs[i][j].length≤140737488355328∧∀v∈gs[i][j],v.s.size≤140737488355328):=fun i hi=>⟨(hz _ (ql hi)).1,fun j hj=>(hz _ (ql hi)).2 _ (ql hj)⟩
 clear h ho hz
 go_enter Tryz.func26,Tryz.ntmps26
 go_wp2_with fail
 go_loopw [5,6,7] (fun x5 x6 x7 wr=>∃(g n z:Nat),g≤gs.length∧g≤50∧x7= .int .i64 (g:Int)∧x5= .int .i64 (n:Int)∧x6= .int .i64 (z:Int)∧Hid (n=uf (gs.take g))∧Hid (z=qiy (gs.take g))∧n≤60∧z≤3000∧Hid (∀i (hi:i<gs.length),i<g→∀r∈gs[i],r.length≤9)∧w=wr) (fun _ _ x7 _=>gs.length-(intOf x7).toNat)
 case atStart=>exact⟨0,0,0,qi _,by omega,rfl,rfl,rfl,rfl,rfl,by omega,by omega,fun i hi h0=>absurd h0 (ja i),rfl⟩
 case round =>
  obtain⟨g,n,z,hg,hg50,rfl,rfl,rfl,HN,HS,hn60,hz3,HC,rfl⟩:=hrel
  by_cases hlt:g<gs.length
  ·
   have ig:(g:Int)<(gs.length:Int):=by omega
   have ig0:(0:Int)≤(g:Int):=by omega
   by_cases h50:g<50
   ·
    have i50:(g:Int)<50:=by omega
    obtain⟨b,off,A1,c1,rfl,_,hbl,hcell,hrows⟩:=H.out.get hlt
    have HRW:=qa hrows
    obtain⟨hz1,hz2⟩:=HZ.out g hlt
    have HZ2:=qa hz2
    have HNT:=qa (qfu hlt)
    have HST:=qa (qot hlt)
    obtain⟨hrl,hrm⟩:=hrows.len
    obtain⟨G,hG⟩:∃G,gs[g]=G:=⟨_,rfl⟩
    have HG:=qa hG
    rw[hG] at hcell HRW hz1 HNT HST hrl
    obtain⟨gl,hgl⟩:∃gl,G.length=gl:=⟨_,rfl⟩
    have HGL:=qa hgl
    rw[hgl] at hcell hz1 hrl
    have hwn:IntKind.i64.wrap ((n:Int)+(gl:Int))=((n+gl:Nat):Int):=by rw[jf _ (by omega)];omega
    clear hz2 hrows hG hgl
    by_cases h60:n+gl≤60
    ·
     have i60:¬(60:Int)<((n+gl:Nat):Int):=by omega
     obtain⟨nn,hnn⟩:∃nn,n+gl=nn:=⟨_,rfl⟩
     rw[hnn] at hwn i60
     have HNN:=qa hnn
     clear hnn
     go_wp2_with fail
     go_loopw [6,8] (fun x6 x8 wr=>∃(i y:Nat),i≤gl∧x8= .int .i64 (i:Int)∧x6= .int .i64 (y:Int)∧Hid (y=z+qhj (G.take i))∧Hid (∀j (hj:j<G.length),j<i→G[j].length≤9)∧w=wr) (fun _ x8 _=>gl-(intOf x8).toNat)
     case atStart=>exact⟨0,z,qi _,rfl,rfl,rfl,fun j hj h0=>absurd h0 (ja j),rfl⟩
     case round =>
      obtain⟨i,y,hi,rfl,rfl,HY,HC2,rfl⟩:=hrel
      by_cases hil:i<gl
      ·
       have ii:(i:Int)<(gl:Int):=by omega
       have ii0:(0:Int)≤(i:Int):=by omega
       have hiG:i<G.length:=by rw[HGL.out];exact hil
       obtain⟨b2,off2,A2,c2,rfl,_,hbl2,hcell2,hrow⟩:=HRW.out.get hiG
       have HR:=qa hrow
       obtain⟨hrl2,hrm2⟩:=hrow.len
       have HGT:=qa (sumQ_take hiG)
       have hzr:G[i].length≤140737488355328∧∀v∈G[i],v.s.size≤140737488355328:=by
        have:=HZ2.out i (by rw[HG.out];exact hiG)
        simpa[HG.out] using this
       have HZR:=qa hzr.2
       have HBD:Hid (qhj (G.take i)≤60*(9*140737488355328)):=by
        have h1:∀r∈G.take i,qgh r≤9*140737488355328:=fun r hr=>by
         obtain⟨j,hj,rfl⟩:=zc hr
         rw[qz] at hj
         have hjG:j<G.length:=by omega
         rw[qa1]
         have h9:=HC2.out j hjG (by omega)
         have h3:∀v∈G[j],v.s.size≤140737488355328:=by
          have:=(HZ2.out j (by rw[HG.out];exact hjG)).2
          simpa[HG.out] using this
         exact zb (sumV_bd h3) (kh _ h9)
        refine zb (sumQ_bd h1) (kh _ ?_)
        rw[qz]
        have:=HNN.out
        omega
       obtain⟨R,hR⟩:∃R,G[i]=R:=⟨_,rfl⟩
       have HRE:=qa hR
       rw[hR] at hcell2 HR hrl2 HGT HZR
       obtain⟨rl,hrl3⟩:∃rl,R.length=rl:=⟨_,rfl⟩
       have HRL:=qa hrl3
       rw[hrl3] at hcell2 hrl2
       clear hrow hzr hR hrl3
       by_cases h9:rl≤9
       ·
        have i9:¬(9:Int)<(rl:Int):=by omega
        have HCN:Hid (∀j (hj:j<G.length),j<i+1→G[j].length≤9):=fun j hj hj2=>by
         by_cases e:j=i
         ·
          subst e
          rw[HRE.out,HRL.out]
          exact h9
         ·
          exact HC2.out j hj (by omega)
        clear HC2
        go_wp2_with fail
        go_loopw [6,9] (fun x6 x9 wr=>∃(k u:Nat),k≤rl∧x9= .int .i64 (k:Int)∧x6= .int .i64 (u:Int)∧Hid (u=y+qgh (R.take k))∧w=wr) (fun _ x9 _=>rl-(intOf x9).toNat)
        case atStart=>exact⟨0,y,qi _,rfl,rfl,rfl,rfl⟩
        case round =>
         obtain⟨k,u,hk,rfl,rfl,HU,rfl⟩:=hrel
         by_cases hkl:k<rl
         ·
          have ik:(k:Int)<(rl:Int):=by omega
          have ik0:(0:Int)≤(k:Int):=by omega
          have hkR:k<R.length:=by rw[HRL.out];exact hkl
          obtain⟨b3,off3,rfl,_,hbl3,hx0,hx1⟩:=HR.out.get hkR
          have HVT:=qa (sumV_take hkR)
          have hsz:=HZR.out _ (ql hkR)
          have hbk:qgh (R.take k)≤9*140737488355328:=by
           refine zb (sumV_bd (M:=140737488355328) fun v hv=>HZR.out v (yz hv)) (kh _ ?_)
           rw[qz]
           omega
          obtain⟨u2,hu2⟩:∃u2,u+R[k].s.size=u2:=⟨_,rfl⟩
          have hwu:IntKind.i64.wrap ((u:Int)+(R[k].s.size:Int))=(u2:Int):=by
           have h1:=HU.out
           have h2:=HY.out
           have h3:=HBD.out
           rw[jf _ (by omega)]
           omega
          have HU2:Hid (u2=y+qgh (R.take (k+1))):=by
           unfold Hid
           rw[←hu2,HU.out,HVT.out]
           omega
          clear hsz hbk HVT hu2
          generalize R[k].null=nb at *
          generalize R[k].s=s at *
          go_wp2_with fail
          go_roundw
          case rel=>exact⟨k+1,u2,by omega,by go_num,rfl,HU2,by first | exact trivial | rfl⟩
          case measure=>simp[intOf];omega
         ·
          have ik:¬(k:Int)<(rl:Int):=by omega
          have HUE:Hid (u=z+qhj (G.take (i+1))):=by
           unfold Hid
           have ht:R.take k=R:=qo (by rw[HRL.out];omega)
           rw[HU.out,ht,HY.out,HGT.out]
           omega
          go_wp2_with fail
          go_roundw
          case rel=>exact⟨i+1,u,by omega,by go_num,rfl,HUE,HCN,by first | exact trivial | rfl⟩
          case measure=>simp[intOf];omega
       ·
        have i9:(9:Int)<(rl:Int):=by omega
        go_wp2_with fail
        go_ret
        exact⟨qgg.no gs os,rfl⟩
      ·
       have ii:¬(i:Int)<(gl:Int):=by omega
       have HYE:Hid (y=qiy (gs.take (g+1))):=by
        unfold Hid
        have ht:G.take i=G:=qo (by rw[HGL.out];omega)
        rw[HY.out,ht,HST.out,←HS.out]
       have HNE:Hid (nn=uf (gs.take (g+1))):=by
        unfold Hid
        rw[HNT.out,←HN.out,HGL.out,HNN.out]
       have HCE:Hid (∀i (hi:i<gs.length),i<g+1→∀r∈gs[i],r.length≤9):=fun q hq hq2 r hr=>by
        by_cases e:q=g
        ·
         subst e
         rw[HG.out] at hr
         obtain⟨j,hj,rfl⟩:=zc hr
         exact HC2.out j hj (by have:=HGL.out;omega)
        ·
         exact HC.out q hq (by omega) r hr
       by_cases h3:y≤3000
       ·
        have i3:¬(3000:Int)<(y:Int):=by omega
        have hn2:nn≤60:=by have:=HNN.out;omega
        clear HC HN HS
        go_wp2_with fail
        go_roundw
        case rel=>exact⟨g+1,nn,y,by omega,by omega,by go_num,rfl,rfl,HNE,HYE,hn2,h3,HCE,by first | exact trivial | rfl⟩
        case measure=>simp[intOf];omega
       ·
        have i3:(3000:Int)<(y:Int):=by omega
        go_wp2_with fail
        go_ret
        exact⟨qgg.no gs os,rfl⟩
    ·
     have i60:(60:Int)<((n+gl:Nat):Int):=by omega
     obtain⟨nn,hnn⟩:∃nn,n+gl=nn:=⟨_,rfl⟩
     rw[hnn] at hwn i60
     clear hnn
     go_wp2_with fail
     go_ret
     exact⟨qgg.no gs os,rfl⟩
   ·
    have i50:¬(g:Int)<50:=by omega
    have i40:¬(gs.length:Int)≤40:=by omega
    go_wp2_with fail
    go_loopw [10] (fun x wr=>∃i:Nat,i≤os.length∧i≤20∧x= .int .i64 (i:Int)∧w=wr) (fun x _=>os.length-(intOf x).toNat)
    case atStart=>exact⟨0,qi _,by omega,rfl,rfl⟩
    case round =>
     obtain⟨i,hi,hi20,rfl,rfl⟩:=hrel
     by_cases hil:i<os.length
     ·
      have ii:(i:Int)<(os.length:Int):=by omega
      have ii0:(0:Int)≤(i:Int):=by omega
      by_cases h20:i<20
      ·
       have i20:(i:Int)<20:=by omega
       obtain⟨b9,off9,A9,c9,rfl,_,hbl9,e0,e1,e2,e3,hrd, -⟩:=HO.out.get hil
       obtain⟨dl,hdl⟩:∃dl,os[i].draws.length=dl:=⟨_,rfl⟩
       have HDL:=qa hdl
       have hrl:=hrd.len
       rw[jz] at hrl
       rw[hdl] at e3 hrl
       clear hrd hdl e0 e1 e2
       by_cases h60:dl≤60
       ·
        have i60:¬(60:Int)<(dl:Int):=by omega
        go_wp2_with fail
        go_roundw
        case rel=>exact⟨i+1,by omega,by omega,by go_num,by first | exact trivial | rfl⟩
        case measure=>simp[intOf];omega
       ·
        have i60:(60:Int)<(dl:Int):=by omega
        go_wp2_with fail
        go_ret
        exact⟨qgg.no gs os,rfl⟩
      ·
       have i20:¬(i:Int)<20:=by omega
       go_wp2_with fail
       go_ret
       exact⟨qgg.no gs os,rfl⟩
     ·
      have ii:¬(i:Int)<(os.length:Int):=by omega
      go_wp2_with fail
      go_ret
      exact⟨qgg.no gs os,rfl⟩
  ·
   have ig:¬(g:Int)<(gs.length:Int):=by omega
   go_wp2_with fail
   go_loopw [10] (fun x wr=>∃i:Nat,i≤os.length∧i≤20∧x= .int .i64 (i:Int)∧Hid (∀j (hj:j<os.length),j<i→os[j].draws.length≤60)∧w=wr) (fun x _=>os.length-(intOf x).toNat)
   case atStart=>exact⟨0,qi _,by omega,rfl,fun j hj h0=>absurd h0 (ja j),rfl⟩
   case round =>
    obtain⟨i,hi,hi20,rfl,HD,rfl⟩:=hrel
    by_cases hil:i<os.length
    ·
     have ii:(i:Int)<(os.length:Int):=by omega
     have ii0:(0:Int)≤(i:Int):=by omega
     by_cases h20:i<20
     ·
      have i20:(i:Int)<20:=by omega
      obtain⟨b9,off9,A9,c9,rfl,_,hbl9,e0,e1,e2,e3,hrd, -⟩:=HO.out.get hil
      obtain⟨dl,hdl⟩:∃dl,os[i].draws.length=dl:=⟨_,rfl⟩
      have HDL:=qa hdl
      have hrl:=hrd.len
      rw[jz] at hrl
      rw[hdl] at e3 hrl
      clear hrd hdl e0 e1 e2
      by_cases h60:dl≤60
      ·
       have i60:¬(60:Int)<(dl:Int):=by omega
       have HDN:Hid (∀j (hj:j<os.length),j<i+1→os[j].draws.length≤60):=fun j hj hj2=>by
        by_cases e:j=i
        ·
         subst e
         rw[HDL.out]
         exact h60
        ·
         exact HD.out j hj (by omega)
       go_wp2_with fail
       go_roundw
       case rel=>exact⟨i+1,by omega,by omega,by go_num,HDN,by first | exact trivial | rfl⟩
       case measure=>simp[intOf];omega
      ·
       have i60:(60:Int)<(dl:Int):=by omega
       go_wp2_with fail
       go_ret
       exact⟨qgg.no gs os,rfl⟩
     ·
      have i20:¬(i:Int)<20:=by omega
      have i12:¬(os.length:Int)≤12:=by omega
      by_cases h40:gs.length≤40
      ·
       have i40:(gs.length:Int)≤40:=by omega
       go_wp2_with fail
       go_ret
       exact⟨qgg.no gs os,rfl⟩
      ·
       have i40:¬(gs.length:Int)≤40:=by omega
       go_wp2_with fail
       go_ret
       exact⟨qgg.no gs os,rfl⟩
    ·
     have ii:¬(i:Int)<(os.length:Int):=by omega
     by_cases h40:gs.length≤40
     ·
      have i40:(gs.length:Int)≤40:=by omega
      by_cases h12:os.length≤12
      ·
       have i12:(os.length:Int)≤12:=by omega
       have HF:Hid (gs.take g=gs):=qo (by omega)
       have HFG:Hid (FewSg gs os):=⟨h40,h12,by rw[←HF.out,←HN.out];exact hn60,by rw[←HF.out,←HS.out];exact hz3,fun q hq r hr=>by
        obtain⟨j,hj,rfl⟩:=zc hq
        exact HC.out j hj (by omega) r hr,fun o ho=>by
        obtain⟨j,hj,rfl⟩:=zc ho
        exact HD.out j hj (by omega)⟩
       go_wp2_with fail
       go_ret
       exact⟨⟨true,rfl,fun _=>HFG.out⟩,rfl⟩
      ·
       have i12:¬(os.length:Int)≤12:=by omega
       go_wp2_with fail
       go_ret
       exact⟨qgg.no gs os,rfl⟩
     ·
      have i40:¬(gs.length:Int)≤40:=by omega
      go_wp2_with fail
      go_ret
      exact⟨qgg.no gs os,rfl⟩
section
open Go.RowKit Go.Sort Go.Shelf
theorem sort_own{w:World}{base:Nat}{v:Value}(zs:List (List UInt8))(h:w.ownsRow base 9 1 v zs.length (sv (yj zs)))(hn:zs.length<4611686018427387904) :
  Calls Tryz.prog 72 #[v] w fun r w'=>r= .returned (.tuple #[])∧w'.ownsRow base 9 1 v zs.length (sv (yj (zs.mergeSort fun x y=>decide (x≤y))))∧w.grownBy w' v.ownBlock:=by
 rw[sv_enc] at h
 rw[sv_enc]
 rcases h.2 with ⟨rfl,h0⟩ | ⟨g,cap,cur,rfl,hbase,hb,h1,h2,h3,h4⟩
 ·
  have hz:zs=[]:=zh h0
  subst hz
  refine(Any.slices_Sort_string_none lays190 none 0 w).mono ?_
  rintro r w' ⟨rfl,rfl⟩
  exact⟨rfl,by simpa using h,vg _ _⟩
 ·
  refine(Any.slices_Sort_string lays190 g 0 cap zs w (holds_of_block hb (by simpa using h4)) (xt.1 hb).1 hn).mono ?_
  rintro r w' ⟨rfl,n,os,rfl⟩
  exact⟨rfl,ownsRow_sorted (List.length_mergeSort zs) hbase hb h1 h2 h3,grownBy_sorted _⟩
end
def qii(l:List (List UInt8)):List (List UInt8):=l.mergeSort fun x y=>decide (x≤y)
theorem sorL_rises(l:List (List UInt8)):∀i j,i<j→j<(qii l).toArray.size→yl (qii l).toArray[i]! (qii l).toArray[j]! ≤0:=by
 have h:=qff (le:=fun x y:List UInt8=>decide (x≤y)) (fun a b c h1 h2=>by
  rw[decide_eq_true_eq,qhd] at *
  exact qgy h1 h2) (fun a b=>by
  rw[Bool.or_eq_true,decide_eq_true_eq,decide_eq_true_eq,qhd,qhd,qcb a b]
  omega) l
 intro i j hij hj
 rw[ui] at h
 have hj':j<(qii l).length:=by simpa using hj
 have:=h i j (by show i<(qii l).length;omega) hj' hij
 rw[decide_eq_true_eq,qhd] at this
 rw[getElem!_pos _ i (by simpa using Nat.lt_trans hij hj'),getElem!_pos _ j hj]
 exact this
theorem qj4(l:List (List UInt8)):qaj l (Lib.compact (qii l)):=by
 obtain⟨h1,h2,h3⟩:=qlf (qii l).toArray (sorL_rises l) (qii l).length (by simp)
 refine⟨h1,fun s => ?_⟩
 have hmem:s∈qii l↔s∈l:=List.mem_mergeSort
 rw[←hmem]
 constructor
 ·
  intro h
  obtain⟨j,hj,rfl⟩:=h2 s h
  rw[getElem!_pos _ j (by simpa using hj)]
  simp
 ·
  intro h
  obtain⟨j,hj,rfl⟩:=zc h
  have:=h3 j hj
  rw[getElem!_pos _ j (by simpa using hj),List.getElem_toArray] at this
  exact this
theorem sumL_le{m:Nat}:∀ {l:List (List UInt8)},(∀x∈l,x.length≤m)→qjw l≤m*l.length
 | [],_=>by simp[qjw]
 | x :: l,h=>by
  have h1:=sumL_le (l:=l) fun y hy=>h y (j5 _ hy)
  have h2:=h x je
  rw[qjw,qw,qds]
  omega
section
open Go.RowKit Go.Maps Go.WideMaps
theorem qba.right{S:List (List UInt8)}:∀ {k:Nat} {t:List (List UInt8)},qba S k t→y7 t=true
 | 0,t,h=>by
  obtain rfl:t=[]:=h
  rfl
 | k+1,t,⟨u,_,b,_,h⟩=>h.right
end
theorem qls{t:List (List UInt8)}(h:y7 t=true):t.length≤255∧∀s∈yj t,s.size≤8:=by
 obtain⟨h1,h2, -⟩:=uw.1 h
 refine⟨h1,fun s hs => ?_⟩
 obtain⟨x,hx,rfl⟩:=zl.1 hs
 have:=(qfo.1 (h2 x hx)).2
 show x.toArray.size≤8
 simpa using this
theorem qmx{l:List ByteArray}{ds:List Int}{m:Nat}(h:∀s∈l,s.size≤m):∀s∈jx l ds,s.size≤m:=fun s hs=>by
 unfold jx at hs
 split at hs
 ·
  cases hs
 ·
  rename_i hne
  obtain⟨d,_,rfl⟩:=zl.1 hs
  have hp:0<l.length:=List.length_pos_iff.2 hne
  have hm:d.natAbs%l.length<l.length:=qcm _ hp
  rw[yb,qe hm]
  exact h _ (ql hm)
theorem qmy(l:List ByteArray)(ds:List Int):(jx l ds).length≤ds.length:=by
 unfold jx
 split
 ·
  exact qi _
 ·
  rw[q8];exact qc _
theorem putT_few{t:List (List UInt8)}(h:y7 t=true):(qef t).length≤3000:=by
 obtain⟨h1,h2, -⟩:=uw.1 h
 have h3:∀ {u:List (List UInt8)},(∀s∈u,qhm s=true)→(qkh u).length≤9*u.length:=by
  intro u
  induction u with
  | nil=>intro _;simp[qkh]
  | cons a u ih =>
   intro hu
   have h4:=ih fun s hs=>hu s (j5 _ hs)
   have h5:=(qfo.1 (hu a je)).2
   rw[qht,qw,qd,qw]
   omega
 have h4:=h3 h2
 rw[qhw,qw]
 omega
theorem dic_of(S:List (List UInt8)):qaj S (qj5 S):=by
 have h:=qj4 S
 rw[dicS_is h]
 exact h
theorem dec_all{T:List (List UInt8)}(hT:T.length≤255){l:List UInt8}(hl:l.length≤4096):(qey T 4096 (kn T l) [] 0).1=l∧(qey T 4096 (kn T l) [] 0).2.1=0:=by
 obtain⟨k,hk⟩:=dec_enc hT l
 have h:=hk 4096 [] [] 0 (by simp;omega)
 rw[jb] at h
 rw[h,qey]
 exact⟨yu _,rfl⟩
noncomputable def qb8 (l:List Vl)(o:Co):Chk :=
 if y8 (qu l) o=2 then ⟨2,xk l,(qm (qu l)).map (kn (ue (qu l) o)),ue (qu l) o,[],[]⟩
 else if y8 (qu l) o=3 then ⟨3,xk l,[],[],qj5 (qm (qu l)),qc9 (qj5 (qm (qu l))) (qm (qu l))⟩
 else ⟨1,xk l,qm (qu l),[],[],[]⟩
theorem qlg(l:List Vl)(o:Co):(qb8 l o).there=xk l:=by
 unfold qb8
 repeat' split
 all_goals rfl
theorem chkOf_kind{l:List Vl}{o:Co}(h:qa2 o):((qb8 l o).kind:Int)=y8 (qu l) o:=by
 have h1:=qg9 (qu l) h
 unfold qb8
 split
 ·
  rename_i h2;rw[h2];rfl
 ·
  split
  ·
   rename_i h2;rw[h2];rfl
  ·
   show(1:Int)=_
   omega
theorem codeL_chk{l:List Vl}{o:Co}(h:qa2 o):qee l o=qhp o.block.toNat (qb8 l o):=by
 have hk:=chkOf_kind (l:=l) h
 have h1:=qg9 (qu l) h
 unfold qee qhp
 rw[←hk,qlg,vr]
 refine congrArg _ (congrArg _ ?_)
 rcases h1 with h1 | h1 | h1
 ·
  have e:qb8 l o=⟨1,xk l,qm (qu l),[],[],[]⟩:=by rw[qb8,if_neg (by omega),if_neg (by omega)]
  rw[e,yo,if_neg (by simp),if_neg (by simp)]
  rfl
 ·
  have e:qb8 l o=⟨2,xk l,(qm (qu l)).map (kn (ue (qu l) o)),ue (qu l) o,[],[]⟩:=by rw[qb8,if_pos h1]
  rw[e,yo,if_pos (by simp)]
  rfl
 ·
  have e:qb8 l o=⟨3,xk l,[],[],qj5 (qm (qu l)),qc9 (qj5 (qm (qu l))) (qm (qu l))⟩:=by rw[qb8,if_neg (by omega),if_pos h1]
  rw[e,yo,if_neg (by simp),if_pos (by simp)]
  rfl
theorem qjk(s:ByteArray):s.data.toList.length=s.size:=by simp
theorem chkOf_ok{l:List Vl}{o:Co}(hf:kr l)(hc:qa2 o)(ht:y8 (qu l) o=2→y7 (ue (qu l) o)=true):ChkOk (qb8 l o):=by
 have hts:∀s∈qu l,s.size≤4096:=fun s hs=>by obtain⟨v,hv,rfl⟩:=qgp hs;exact(hf.2 v hv).1
 have hbs:∀x∈qm (qu l),x.length≤4096:=fun x hx=>by
  obtain⟨s,hs,rfl⟩:=zl.1 hx
  rw[qjk]
  exact hts s hs
 have hln:(qm (qu l)).length=cnt (xk l):=by rw[qv,texts_cnt]
 have h4:(xk l).length≤4096:=by rw[uk];exact hf.1
 have h1:=qg9 (qu l) hc
 rcases h1 with h1 | h1 | h1
 ·
  have e:qb8 l o=⟨1,xk l,qm (qu l),[],[],[]⟩:=by rw[qb8,if_neg (by omega),if_neg (by omega)]
  rw[e]
  exact⟨h4,.inl ⟨rfl,hln,hbs,rfl,rfl,rfl⟩⟩
 ·
  have e:qb8 l o=⟨2,xk l,(qm (qu l)).map (kn (ue (qu l) o)),ue (qu l) o,[],[]⟩:=by rw[qb8,if_pos h1]
  rw[e]
  have hr:=ht h1
  have h255:=(qls hr).1
  refine⟨h4,.inr (.inl ⟨rfl,by rw[q8];exact hln,hr,fun x hx => ?_,rfl,rfl⟩)⟩
  obtain⟨y,hy,rfl⟩:=zl.1 hx
  obtain⟨d1,d2⟩:=dec_all h255 (hbs y hy)
  refine⟨?_,zb (ql7 _ y) (by have:=hbs y hy;omega)⟩
  rw[qfk,d1,d2]
  simp
 ·
  have e:qb8 l o=⟨3,xk l,[],[],qj5 (qm (qu l)),qc9 (qj5 (qm (qu l))) (qm (qu l))⟩:=by rw[qb8,if_neg (by omega),if_pos h1]
  rw[e]
  have hd:=dic_of (qm (qu l))
  have hlt:(qm (qu l)).length≤4096:=by rw[qv];exact zb (qf0 l) hf.1
  refine⟨h4,.inr (.inr ⟨rfl,rfl,rfl,hd.dic hlt hbs,by rw[←hln];simp[qc9],fun x hx => ?_⟩)⟩
  obtain⟨y,hy,rfl⟩:=zl.1 hx
  exact qad ((hd.2 y).2 hy)
theorem chkOf_str{l:List Vl}{o:Co}(hf:kr l)(hc:qa2 o)(ht:y8 (qu l) o=2→y7 (ue (qu l) o)=true):qf7 (qb8 l o)=qu l:=by
 have hts:∀s∈qu l,s.size≤4096:=fun s hs=>by obtain⟨v,hv,rfl⟩:=qgp hs;exact(hf.2 v hv).1
 have h1:=qg9 (qu l) hc
 rcases h1 with h1 | h1 | h1
 ·
  have e:qb8 l o=⟨1,xk l,qm (qu l),[],[],[]⟩:=by rw[qb8,if_neg (by omega),if_neg (by omega)]
  rw[e,qf7,if_neg (by simp),if_neg (by simp)]
  exact qdt _
 ·
  have e:qb8 l o=⟨2,xk l,(qm (qu l)).map (kn (ue (qu l) o)),ue (qu l) o,[],[]⟩:=by rw[qb8,if_pos h1]
  rw[e,qf7,if_pos (by simp)]
  have h255:=(qls (ht h1)).1
  show((qm (qu l)).map (kn (ue (qu l) o))).map (fun b=>(⟨(qey (ue (qu l) o) 4096 b [] 0).1.toArray⟩:ByteArray))=qu l
  generalize ue (qu l) o=T at *
  generalize qu l=S at *
  clear e h1 ht hf
  induction S with
  | nil=>rfl
  | cons a S ih =>
   have h2:=(dec_all h255 (l:=a.data.toList) (by rw[qjk];exact hts a je)).1
   have h3:=ih (fun s hs=>hts s (j5 _ hs))
   show(⟨(qey T 4096 (kn T a.data.toList) [] 0).1.toArray⟩:ByteArray) :: _=a :: S
   rw[h2]
   exact congrArg _ h3
 ·
  have e:qb8 l o=⟨3,xk l,[],[],qj5 (qm (qu l)),qc9 (qj5 (qm (qu l))) (qm (qu l))⟩:=by rw[qb8,if_neg (by omega),if_pos h1]
  rw[e,qf7,if_neg (by simp),if_pos (by simp)]
  have hd:=(dic_of (qm (qu l))).2
  show(qc9 (qj5 (qm (qu l))) (qm (qu l))).map (fun n=>(yj (qj5 (qm (qu l)))).getD n ⟨#[]⟩)=qu l
  generalize qj5 (qm (qu l))=D at *
  generalize qu l=S at *
  have hm:∀s∈S,s.data.toList∈D:=fun s hs=>(hd _).2 (vn hs)
  clear hd e h1 hts ht hf
  induction S with
  | nil=>rfl
  | cons a S ih =>
   have h2:=hm a je
   have hlt:=qad h2
   have h3:=ih (fun s hs=>hm s (j5 _ hs))
   show(yj D).getD (D.idxOf a.data.toList) ⟨#[]⟩ :: _=a :: S
   rw[yb,qe (by rw[yv];exact hlt)]
   have e:(yj D)[D.idxOf a.data.toList]'(by rw[yv];exact hlt)=⟨(D[D.idxOf a.data.toList]).toArray⟩:=by simp[yj]
   show(yj D)[D.idxOf a.data.toList]'(by rw[yv];exact hlt) :: _=a :: S
   rw[e,List.getElem_idxOf hlt]
   exact congrArg _ h3
theorem chkOf_vals{l:List Vl}{o:Co}(hf:kr l)(hc:qa2 o)(ht:y8 (qu l) o=2→y7 (ue (qu l) o)=true):qbw (qb8 l o)=l:=by
 rw[qbw,chkOf_str hf hc ht,qlg]
 exact qpi hf.2
section
attribute [local go_sem] qd8
theorem PayIn.on{w w':World}{l:List ByteArray}{kd bl ro:Int}{ds:List Int}{A B:Option Addr}{c d:Nat}(h:PayIn w l kd bl ro ds A B c d)(hb:Below w.heap.size w w'):PayIn w' l kd bl ro ds A B c d :=
 ⟨(h.rd.below hb (qc _)).wide (qc _) hb.size,(h.dr.below hb (qc _)).wide (qc _) hb.size,h.word,h.ok,h.few,h.draws,h.size⟩
theorem qoy(l:List ByteArray)(k k2 bl ro:Int)(ds:List Int)(q:Int):yo l ⟨k,bl,ro,ds⟩ q=yo l ⟨k2,bl,ro,ds⟩ q:=rfl
end
section
attribute [local go_sem] qd8
noncomputable def ud (l:List ByteArray)(o:Co):Nat→Int
 | 0=>1
 | 1=>1
 | 2=>1
 | n+3=>if (yo l o ((n:Int)+2)).length<(yo l o (ud l o (n+2))).length then (n:Int)+2 else ud l o (n+2)
theorem qho(l:List ByteArray)(o:Co){n:Nat}(h:2≤n):ud l o (n+1)=if (yo l o (n:Int)).length<(yo l o (ud l o n)).length then (n:Int) else ud l o n:=by
 obtain⟨m,rfl⟩:∃m,n=m+2:=⟨n-2,by omega⟩
 rw[ud]
 rfl
theorem qn6(l:List ByteArray)(o:Co):ud l o 4=qli l o:=by
 have h2:ud l o 2=1:=rfl
 have h3:=qho l o (n:=2) (by omega)
 have h4:=qho l o (n:=3) (by omega)
 rw[h2] at h3
 rw[show(2:Nat)+1=3 from rfl] at h3
 rw[show(3:Nat)+1=4 from rfl] at h4
 rw[h4,h3,qli]
 simp only[show((2:Nat):Int)=2 from rfl,show((3:Nat):Int)=3 from rfl]
 by_cases h:(yo l o 2).length<(yo l o 1).length
 ·
  simp only[if_pos h]
 ·
  simp only[if_neg h]
theorem qnc(l:List ByteArray)(o:Co):∀n,1≤ud l o n∧ud l o n≤max 1 ((n:Int)-1)
 | 0=>⟨Int.le_refl 1,by show(1:Int)≤_;omega⟩
 | 1=>⟨Int.le_refl 1,by show(1:Int)≤_;omega⟩
 | 2=>⟨Int.le_refl 1,by show(1:Int)≤_;omega⟩
 | n+3=>by
  have ih:=qnc l o (n+2)
  rw[ud]
  split <;> omega
end
section
attribute [local go_sem] qd8
theorem CIn.on{w w':World}{L:List Vl}{kd bl ro:Int}{ds:List Int}{A B:Option Addr}{c d:Nat}(h:CIn w L kd bl ro ds A B c d)(hb:Below w.heap.size w w'):CIn w' L kd bl ro ds A B c d :=
 ⟨(h.row.below hb (qc _)).wide (qc _) hb.size,(h.dr.below hb (qc _)).wide (qc _) hb.size,h.word,h.draws⟩
end
section
attribute [local go_sem] qd8
theorem bitB_len(l:List Bool)(h:l.length≤4096):(xi l).length≤1000000:=by
 rw[xi,qd,qe6]
 have:=qin 1 l.length (by omega)
 omega
theorem u8_wrap{j:Int}(h0:1≤j)(h3:j≤3):IntKind.u8.wrap j=j:=by
 rw[IntKind.wrap_u8]
 omega
end
theorem qom{ns:List Nat}(hl:ns.length≤100)(h:∀x∈ns,x<16384):(js (z8 ns)).length≤3+2*ns.length:=by
 have hw:wide (z8 ns)≤14:=wide_le (z8 ns) 14 (by omega) fun z hz=>by
  obtain⟨n,hn,rfl⟩:=zl.1 hz
  have:=h n hn
  show(n:Int)<2 ^ 14
  omega
 have h1:ns.length*wide (z8 ns)≤ns.length*14:=qdf _ hw
 rw[js,qap (by rw[zu];omega),qd,qd,qc4,uh,zu]
 simp only[zy]
 omega
theorem qgo:∀L:List Vl,((qu L).map ByteArray.size).sum≤qgh L
 | []=>qc _
 | v :: L=>by
  have ih:=qgo L
  unfold qu qgh at *
  cases hn:v.null
  ·
   simp[List.filter_cons,hn] at ih ⊢
   exact ih
  ·
   simp[List.filter_cons,hn] at ih ⊢
   omega
theorem flat_texts(S:List ByteArray):(qm S).flatten.length=(S.map ByteArray.size).sum:=by
 induction S with
 | nil=>rfl
 | cons a S ih =>
  show(a.data.toList++(qm S).flatten).length=_
  rw[qd,ih,qjk]
  rfl
theorem flat_enc(T:List (List UInt8))(S:List ByteArray):((qm S).map (kn T)).flatten.length≤2*(S.map ByteArray.size).sum:=by
 induction S with
 | nil=>exact qc _
 | cons a S ih =>
  have h1:=ql7 T a.data.toList
  show(kn T a.data.toList++((qm S).map (kn T)).flatten).length≤2*(a.size+(S.map ByteArray.size).sum)
  rw[qd]
  rw[qjk] at h1
  omega
theorem sum_erase{x:List UInt8}:∀ {l:List (List UInt8)},x∈l→qjw l=x.length+qjw (l.erase x)
 | [],h=>by cases h
 | y :: l,h=>by
  by_cases e:y=x
  ·
   subst e
   rw[List.erase_cons_head]
   rfl
  ·
   have h2:x∈l:=by
    rcases z7.1 h with h | h
    ·
     exact absurd h.symm e
    ·
     exact h
   have ih:=sum_erase h2
   rw[List.erase_cons_tail (by simpa using e)]
   show y.length+qjw l=x.length+(y.length+qjw (l.erase x))
   omega
theorem sum_sub:∀ {D l:List (List UInt8)},D.Nodup→(∀x∈D,x∈l)→qjw D≤qjw l
 | [],l,_,_=>qi _
 | x :: D,l,hn,hs=>by
  obtain⟨h1,h2⟩:=List.nodup_cons.1 hn
  have h3:=sum_erase (hs x je)
  have h4:=sum_sub (D:=D) (l:=l.erase x) h2 fun y hy=>(List.mem_erase_of_ne (fun e:y=x=>h1 (by rw[←e];exact hy))).2 (hs y (j5 _ hy))
  show x.length+qjw D≤_
  omega
theorem sumL_texts(S:List ByteArray):qjw (qm S)=(S.map ByteArray.size).sum:=by
 induction S with
 | nil=>rfl
 | cons a S ih =>
  show a.data.toList.length+qjw (qm S)=_
  rw[ih,qjk]
  rfl
section
variable {L:List Vl}{o:Co}
theorem few_mem(hf:kr L):∀x∈qm (qu L),x.length≤4096:=fun x hx=>by
 obtain⟨s,hs,rfl⟩:=zl.1 hx
 obtain⟨v,hv,rfl⟩:=qgp hs
 rw[qjk]
 exact(hf.2 v hv).1
theorem pay_one(hf:kr L)(hl:L.length≤100):(yo (qu L) o 1).length≤qgh L+2*L.length+3:=by
 have h1:=qf0 L
 have h2:=qgo L
 have h3:=qom (ns:=(qm (qu L)).map List.length) (by rw[q8,qv];omega) fun x hx=>by
  obtain⟨y,hy,rfl⟩:=zl.1 hx
  have:=few_mem hf y hy
  omega
 rw[q8,qv] at h3
 rw[yo,if_neg (by decide),if_neg (by decide),uv,qd,flat_texts]
 omega
theorem putT_most{t:List (List UInt8)}(h:y7 t=true):(qef t).length≤2296:=by
 obtain⟨h1,h2, -⟩:=uw.1 h
 have h3:∀ {u:List (List UInt8)},(∀s∈u,qhm s=true)→(qkh u).length≤9*u.length:=by
  intro u
  induction u with
  | nil=>intro _;simp[qkh]
  | cons a u ih =>
   intro hu
   have h4:=ih fun s hs=>hu s (j5 _ hs)
   have h5:=(qfo.1 (hu a je)).2
   rw[qht,qw,qd,qw]
   omega
 have h4:=h3 h2
 rw[qhw,qw]
 omega
theorem pay_two(hf:kr L)(hl:L.length≤100)(ht:y7 (ue (qu L) o)=true):(yo (qu L) o 2).length≤2*qgh L+2*L.length+2299:=by
 have h1:=qf0 L
 have h2:=qgo L
 have h3:=qom (ns:=((qm (qu L)).map (kn (ue (qu L) o))).map List.length) (by rw[q8,q8,qv];omega) fun x hx=>by
  obtain⟨y,hy,rfl⟩:=zl.1 hx
  obtain⟨z,hz,rfl⟩:=zl.1 hy
  have h4:=few_mem hf z hz
  have h5:=ql7 (ue (qu L) o) z
  omega
 rw[q8,q8,qv] at h3
 have h6:=flat_enc (ue (qu L) o) (qu L)
 have h7:=putT_most ht
 rw[yo,if_pos rfl,qd,uv,qd]
 omega
theorem pay_three(hf:kr L)(hl:L.length≤100)(hK:o.block.toNat≤64):(yo (qu L) o 3).length≤qgh L+12*L.length+13:=by
 have h1:=qf0 L
 have h2:=qgo L
 have hd:=dic_of (qm (qu L))
 have h4:=hd.len
 rw[qv] at h4
 have hdic:=hd.dic (by rw[qv];omega) (few_mem hf)
 have h5:=ql5 hK hdic
 have h6:=sum_sub (qik hd.1) (fun x hx=>(hd.2 x).1 hx)
 rw[sumL_texts] at h6
 have h3:=qom (ns:=qc9 (qj5 (qm (qu L))) (qm (qu L))) (by rw[qc9,q8,qv];omega) fun x hx=>by
  obtain⟨y,hy,rfl⟩:=zl.1 hx
  have:=qad ((hd.2 y).2 hy)
  omega
 rw[qc9,q8,qv] at h3
 rw[yo,if_neg (by decide),if_pos rfl,qd,qc9]
 omega
theorem qoa(hf:kr L)(hc:qa2 o)(ht:y8 (qu L) o=2→y7 (ue (qu L) o)=true)(hl:L.length≤100)(hs:qgh L≤5000):(qee L o).length≤1000000:=by
 have h1:=bitB_len (xk L) (by rw[uk];omega)
 have h0:(xi (xk L)).length≤500000:=by
  have:=qfg (xk L) (by rw[uk];omega)
  rw[uk] at this
  omega
 have hk:=qg9 (qu L) hc
 obtain⟨_,_,hb1,hb2,_⟩:=hc
 rw[qee,qw,qd]
 rcases hk with hk | hk | hk
 ·
  rw[hk]
  have:=pay_one (o:=o) hf hl
  omega
 ·
  have:=pay_two (o:=o) hf hl (ht hk)
  rw[hk]
  omega
 ·
  rw[hk]
  have:=pay_three (o:=o) hf hl (by omega)
  omega
end
noncomputable def qnd (S:List ByteArray):List Nat:=Classical.epsilon (Rise (qcc (qcu S)))
theorem qhz{S:List ByteArray}{t:List Nat}(h:Rise (qcc (qcu S)) t):qnd S=t:=(Classical.epsilon_spec (p:=Rise (qcc (qcu S))) ⟨t,h⟩).one h
noncomputable def qki (S:List ByteArray)(b:Nat):List UInt8:=if b=0 then xf 0 (qnd S) [] else xf b [] (qe4 b (qnd S))
noncomputable def qjj (L:List Vl)(o:Co)(b:Nat):List UInt8:=qki (qu L) b++qee L o
def qd2(os:List Co)(k:Nat):Co:=os.getD k ⟨0,0,0,[]⟩
theorem coAt_is{os:List Co}{k:Nat}(h:k<os.length):qd2 os k=os[k]:=by simp[qd2,qe h]
noncomputable def qbc (g:List (List Vl))(os:List Co)(b k:Nat):List UInt8:=((List.range k).map fun j=>qjj (vk g j) (qd2 os j) b).flatten
theorem qie(g:List (List Vl))(os:List Co)(b k:Nat):qbc g os b (k+1)=qbc g os b k++qjj (vk g k) (qd2 os k) b:=by
 simp[qbc,List.range_succ]
noncomputable def qo5 (os:List Co)(b:Nat)(g:List (List Vl)):List UInt8:=ji g.length++qbc g os b os.length
noncomputable def qbz (os:List Co)(b:Nat)(gs:List (List (List Vl))):List UInt8:=(gs.map (qo5 os b)).flatten
theorem qj2{os:List Co}{b:Nat}{gs:List (List (List Vl))}{i:Nat}(hi:i<gs.length):qbz os b (gs.take (i+1))=qbz os b (gs.take i)++qo5 os b gs[i]:=by
 unfold qbz
 rw[qj hi,jl,qfd]
 simp
noncomputable def qh2 (os:List Co)(b:Nat)(gs:List (List (List Vl))):List UInt8:=ji os.length++ji gs.length++qbz os b gs
theorem qet(n:Nat)(h:n≤9223372036854775807):(ji n).length≤9:=qin 8 n (by omega)
theorem write_most{zs:List Int}(h:qok zs)(hl:zs.length≤100000):(js zs).length≤500000:=by
 have hw:wide zs≤32:=wide_le zs 32 (by omega) fun z hz=>by
  have:=h z hz
  omega
 have h1:zs.length*wide zs≤zs.length*32:=qdf _ hw
 have h2:=qet zs.length (by omega)
 rw[js,qd,qd,qc4,uh]
 simp only[zy]
 omega
theorem ql6{S:List ByteArray}{b:Nat}{t:List Nat}(ht:Rise (qcc (qcu S)) t)(hn:(qcc (qcu S)).length≤100000)(hb:b≤65536):(qki S b).length≤1000000:=by
 unfold qki
 rw[qhz ht]
 have hl:=ht.len
 split
 ·
  rw[xf,if_neg (by omega),qd]
  have h1:=qet 0 (by omega)
  have h2:=write_most (qft ht.up fun g hg=>by
   obtain⟨s,_,hs⟩:=List.mem_flatMap.1 ((ht.mem g).1 hg)
   exact ql3 hs) (by rw[yd];omega)
  omega
 ·
  rename_i h0
  rw[xf,if_pos (by omega),qd]
  have h1:=qet b (by omega)
  have h2:=qfg (qe4 b t) (by rw[qc1];omega)
  rw[qc1] at h2
  omega
theorem size_sumV{v:Vl}:∀ {r:List Vl},v∈r→v.s.size≤qgh r
 | [],h=>by cases h
 | x :: r,h=>by
  show v.s.size≤x.s.size+qgh r
  rcases z7.1 h with rfl | h
  ·
   omega
  ·
   have:=size_sumV h
   omega
theorem qns{g:List (List Vl)}{k:Nat}(h:∀r∈g,k<r.length):qgh (vk g k)≤qhj g:=by
 induction g with
 | nil=>exact qc _
 | cons r g ih =>
  have h1:=ih fun x hx=>h x (j5 _ hx)
  have h2:(r.getD k ⟨true,⟨#[]⟩⟩).s.size≤qgh r:=by
   have hk:=h r je
   rw[List.getD,qe hk]
   exact size_sumV (ql hk)
  show(r.getD k ⟨true,⟨#[]⟩⟩).s.size+qgh (vk g k)≤qgh r+qhj g
  omega
theorem allL_sum(S:List ByteArray):(qcc (qcu S)).length≤(S.map ByteArray.size).sum:=by
 induction S with
 | nil=>simp[qcc,qcu]
 | cons s l ih =>
  have h1:(qcc (qcu (s :: l))).length=(qdz s.data.toList).length+(qcc (qcu l)).length:=by simp[qcc,qcu]
  have h3:s.data.toList.length=s.size:=by simp
  rw[h1,qbi,yc,List.sum_cons]
  omega
theorem PA.big{g p:Nat}(h:PA g p)(hg:g≤40):p≤900000000:=by unfold PA at h;omega
theorem PB.big{g k p:Nat}(h:PB g k p)(hg:g≤40)(hk:k≤8):p≤900000000:=by unfold PB at h;omega
end Go.Proofs.YtjfecojdagmacaaGreat
