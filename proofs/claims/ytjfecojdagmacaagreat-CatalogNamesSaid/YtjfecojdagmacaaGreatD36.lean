/-
  Lemmas.
-/
import Derived.Test.YtjfecojdagmacaaGreatD24
import Derived.Test.YtjfecojdagmacaaGreatD35
namespace Go.Proofs.YtjfecojdagmacaaGreat
open Go.RowKit
set_option maxRecDepth 20000
set_option maxHeartbeats 16000000
set_option linter.unusedSimpArgs false
set_option linter.unusedVariables false
theorem exp_no{w:World}{lo C:Nat}{M:Nat→Prop}{es:List En}(h:CatE w lo M C es)(s:ByteArray)(hs:s.size≤9223372036854775807)(hn:∀e∈es,e.name≠s) :
  Calls Tryz.prog 17 #[.pointer (some ⟨C,0,none⟩),.string s] w fun r w'=>r= .returned (.tuple #[.slice none 0 0,.int .i64 7])∧w=w':=by
 have hf:=qi1 h s hs
 rw[qhx hn] at hf
 have HF:=qa hf
 clear hf h hn
 go_enter Tryz.func17,Tryz.ntmps17
 go_wp2_with fail
 refine HF.out.mono ?_
 rintro r w1 ⟨rfl,rfl⟩
 go_wp2_with fail
 go_ret2
 exact⟨rfl,rfl⟩
theorem segments_yes{w:World}{lo C:Nat}{M:Nat→Prop}{es:List En}(h:CatE w lo M C es)(s:ByteArray){k:Nat}(hk:k<es.length)(he:es[k].name=s){m:Nat}(hm2:es[k].pts.length=m)(hcnt:m≤1000000000) :
  Calls Tryz.prog 28 #[.pointer (some ⟨C,0,none⟩),.string s] w fun r w'=>∃A' c',r= .returned (.tuple #[.slice A' m c',.int .i64 (es[k].cols:Int)])∧Below w.heap.size w w':=by
 have hm:=ql hk
 obtain⟨hok,hsz1,hsz2⟩:=h.ok _ hm
 have hf:=qi1 h s (by rw[←he];omega)
 rw[qgt hk he h.names] at hf
 have HF:=qa hf
 have htb:=h.tabs _ hm
 obtain⟨g,hg⟩:∃g,es[k].g=g:=⟨_,rfl⟩
 obtain⟨l,hl⟩:∃l,es[k].pts=l:=⟨_,rfl⟩
 obtain⟨n,hn⟩:∃n,es[k].cols=n:=⟨_,rfl⟩
 obtain⟨S,hS⟩:∃S,es[k].S=S:=⟨_,rfl⟩
 rw[hg] at HF htb
 rw[hl,hn,hS] at htb
 rw[hl] at hm2
 rw[hl,hn] at hok
 rw[hn]
 have HTB:=qa htb
 have HOK:=qa hok
 have HM:=qa hm2
 have HSG:Hid (∀W,Below w.heap.size w W→Calls Tryz.prog 43 #[.pointer (some ⟨g,0,none⟩)] W fun r w'=>∃A' c',r= .returned (.slice A' m c')∧Below W.heap.size W w'):=fun W hW=>by
  have:=segs_v (HTB.out.below hW) HOK.out (by rw[HM.out];exact hcnt)
  rw[HM.out] at this
  refine this.mono ?_
  rintro r w' ⟨A',c',xs,h1,_,_,h4⟩
  exact⟨A',c',h1,h4⟩
 have HCF:Hid (∀W,Below w.heap.size w W→W.cell? ⟨g,0,none⟩=some (.int .i64 (n:Int))):=fun W hW=>by
  obtain⟨A,c,zs,h1,_⟩:=(HTB.out.below hW).at_
  exact h1.cell 0
 clear hf h hm hok hg hl hn hS hsz1 hsz2 he hk htb hm2
 go_enter Tryz.func28,Tryz.ntmps28
 go_wp2_with fail
 refine HF.out.mono ?_
 rintro r w1 ⟨rfl,rfl⟩
 clear HF
 go_wp2_with fail
 refine wp_region_held_drew (S:=fun W=>Below w.heap.size w W) (by kernel_rfl) (Below.refl _ _).drew (fun hHeld => ?_)
 refine tk 0 ?_ rfl hHeld ?_ ?_
 rotate_left
 focus (intro W hSw;go_simp;try with_reducible rfl)
 try simp only[ju,Act.put]
 refine tk 2 ?_ rfl hHeld ?_ ?_
 rotate_left
 focus (intro W hSw;go_simp;try with_reducible rfl)
 try simp only[ju,Act.put]
 refine tk 3 ?_ rfl hHeld ?_ ?_
 rotate_left
 focus (intro W hSw;go_simp;try with_reducible rfl)
 try simp only[ju,Act.put]
 refine tk 4 ?_ rfl hHeld ?_ ?_
 rotate_left
 focus (intro W hSw;go_simp;try with_reducible rfl)
 try simp only[ju,Act.put]
 refine tk 5 ?_ rfl hHeld ?_ ?_
 rotate_left
 focus (intro W hSw;have q0:=HCF.out W hSw;go_simp;try with_reducible rfl)
 try simp only[ju,Act.put]
 obtain⟨wd,hwd⟩:∃q,w.drew=q:=⟨_,rfl⟩
 rw[hwd] at hHeld ⊢
 clear hwd
 have K0:=qa hHeld
 refine wpAnyH_ready (rs:=[1]) (by kernel_rfl) (by simp) ?_
 refine qt (o:=_) rfl (fun K hK => ?_) za
 go_simp
 refine(HSG.out wd K0.out).mono ?_
 rintro r w2 ⟨A4,c4,rfl,hb4⟩
 have K2:Hid (Below w.heap.size w w2):=K0.out.trans (hb4.mono K0.out.size)
 clear hb4
 refine hK.out _ _ K2.out (fun hHeld => ?_)
 clear hK K
 try simp only[ju,Act.put]
 refine tk 6 ?_ rfl hHeld ?_ ?_
 rotate_left
 focus (intro W hSw;go_simp;try with_reducible rfl)
 try simp only[ju,Act.put]
 refine tk 7 ?_ rfl hHeld ?_ ?_
 rotate_left
 focus (intro W hSw;go_simp;try with_reducible rfl)
 try simp only[ju,Act.put]
 refine wpAnyH_done (by kernel_rfl) ?_ _
 try simp only[ju,Act.put]
 go_wp2_with fail
 go_ret2
 exact⟨_,_,rfl,K2.out⟩
theorem add_no{w:World}{lo C:Nat}{M:Nat→Prop}{es:List En}(h:CatE w lo M C es)(s:ByteArray)(hs:s.size≤9223372036854775807)(hn:∀e∈es,e.name≠s)(A:Option Addr)(n c:Nat) :
  Calls Tryz.prog 15 #[.pointer (some ⟨C,0,none⟩),.string s,.slice A n c] w fun r w'=>r= .returned (.int .i64 7)∧w=w':=by
 have hf:=qi1 h s hs
 rw[qhx hn] at hf
 have HF:=qa hf
 clear hf h hn
 go_enter Tryz.func15,Tryz.ntmps15
 go_wp2_with fail
 refine HF.out.mono ?_
 rintro r w1 ⟨rfl,rfl⟩
 go_wp2_with fail
 go_ret
 exact⟨rfl,rfl⟩
theorem CatE.turn{w w':World}{lo C:Nat}{M S':Nat→Prop}{es:List En}(h:CatE w lo M C es){k:Nat}(hk:k<es.length){l:List Pt}(ht:TabM w' lo S' es[k].g es[k].cols l)(hok:TbOk es[k].cols l)(hs:Step w w' es[k].S S') :
  CatE w' lo (fun i=>M i∨S' i) C (es.set k ⟨es[k].name,es[k].g,S',es[k].cols,l⟩)∧Step w w' M (fun i=>M i∨S' i):=by
 have hkm:=ql hk
 have hM:∀i,es[k].S i→M i:=fun i hi=>(h.sub _ hkm i hi).1
 have hnew:∀i,S' i→∀e∈es,e.S i→es[k].S i:=fun i hi e he hei=>(hs.more i hi).elim id fun h2=>by have:=((h.tabs e he).mine i hei).2;omega
 have ho:Out w w' M:=⟨hs.out.os,hs.out.tape,hs.out.output,hs.out.size,fun i hi hm=>hs.out.block i hi fun h2=>hm (hM i h2)⟩
 refine⟨⟨fun e he => ?_,fun e he => ?_,fun i j hi hj hij => ?_,fun e he i hi => ?_,fun i hi => ?_,.inl h.own,by rw[jn];exact h.few,?_⟩,ho,fun i hi=>hi.elim .inl fun h2=>(hs.more i h2).imp (hM i) id⟩
 ·
  obtain⟨i,hi,rfl⟩:=zc he
  rw[jn] at hi
  by_cases hik:k=i
  ·
   subst hik
   rw[kw]
   exact ht
  ·
   rw[k8 hik]
   exact(h.tabs _ (ql hi)).out hs.out fun q h1 h2=>(h.apart i k hi hk (Ne.symm hik)).2 q h1 h2
 ·
  obtain⟨i,hi,rfl⟩:=zc he
  rw[jn] at hi
  by_cases hik:k=i
  ·
   subst hik
   rw[kw]
   exact⟨hok,(h.ok _ hkm).2⟩
  ·
   rw[k8 hik]
   exact h.ok _ (ql hi)
 ·
  rw[jn] at hi hj
  by_cases hik:k=i
  ·
   subst hik
   rw[kw,k8 hij]
   refine⟨(h.apart k j hi hj hij).1,fun q h1 h2=>(h.apart k j hi hj hij).2 q (hnew q h1 _ (ql hj) h2) h2⟩
  ·
   rw[k8 hik]
   by_cases hjk:k=j
   ·
    subst hjk
    rw[kw]
    refine⟨(h.apart i k hi hj hij).1,fun q h1 h2=>(h.apart i k hi hj hij).2 q h1 (hnew q h2 _ (ql hi) h1)⟩
   ·
    rw[k8 hjk]
    exact h.apart i j hi hj hij
 ·
  obtain⟨j,hj,rfl⟩:=zc he
  rw[jn] at hj
  by_cases hjk:k=j
  ·
   subst hjk
   rw[kw] at hi
   exact⟨.inr hi,fun e=>(hs.more i hi).elim (fun h2=>(h.sub _ hkm i h2).2 e) fun h2=>by have:=h.lt;omega⟩
  ·
   rw[k8 hjk] at hi
   exact⟨.inl (h.sub _ (ql hj) i hi).1,(h.sub _ (ql hj) i hi).2⟩
 ·
  rcases hi with hi | hi
  ·
   exact⟨(h.mine i hi).1,zn (h.mine i hi).2 hs.out.size⟩
  ·
   exact ht.mine i hi
 ·
  obtain⟨mb,hb,hm⟩:=h.map
  refine⟨mb,hb.out hs.out fun h2=>(h.sub _ hkm C h2).2 rfl,?_⟩
  cases mb with
  | none =>
   have:es=[]:=hm
   subst this
   exact absurd hk (ja _)
  | some B =>
   obtain⟨h1,h2,h3,D,h4,h5⟩:=hm
   refine⟨.inl h1,h2,fun e he hB => ?_,D,by rw[jn];exact qpr h4 hs.out (h3 _ hkm),h5.same ?_ ?_⟩
   ·
    obtain⟨j,hj,rfl⟩:=zc he
    rw[jn] at hj
    by_cases hjk:k=j
    ·
     subst hjk
     rw[kw] at hB
     exact(hs.more B hB).elim (h3 _ hkm) fun h6=>by have:=(h.mine B h1).2;omega
    ·
     rw[k8 hjk] at hB
     exact h3 _ (ql hj) hB
   ·
    apply qco
    ·
     simp
    ·
     intro j h1 h2
     simp only[j6]
     by_cases hjk:k=j
     ·
      subst hjk;rw[kw];try rfl
     ·
      rw[k8 hjk]
   ·
    apply qco
    ·
     simp
    ·
     intro j h1 h2
     simp only[j6]
     by_cases hjk:k=j
     ·
      subst hjk;rw[kw]
     ·
      rw[k8 hjk]
def AddR(w w':World)(lo C:Nat)(M:Nat→Prop)(es:List En)(k:Nat)(b:List UInt8)(r:Ending):Prop :=
 ∃hk:k<es.length,(∃gs S' M',r= .returned (.int .i64 0)∧ke b es[k].cols gs∧qcf es[k].pts+qat gs≤4096∧CatE w' lo M' C (es.set k ⟨es[k].name,es[k].g,S',es[k].cols,es[k].pts++[⟨b,gs⟩]⟩)∧Step w w' M M')∨
  (∃e:Int,r= .returned (.int .i64 e)∧((e=4∧∀gs,¬ke b es[k].cols gs)∨(e=6∧∃gs,ke b es[k].cols gs∧4096<qcf es[k].pts+qat gs))∧Below w.heap.size w w')
theorem AddP.cat{w w':World}{lo C:Nat}{M:Nat→Prop}{es:List En}(h:CatE w lo M C es){k:Nat}(hk:k<es.length){b:List UInt8}(hbl:b.length≤1000000000){r:Ending}(hp:AddP w w' lo es[k].S es[k].g es[k].cols es[k].pts b r):AddR w w' lo C M es k b r:=by
 rcases hp with ⟨gs,S',h1,h2,h3,h4,h5⟩ | ⟨e,h1,h2,h3⟩
 ·
  have hok:=(h.ok _ (ql hk)).1
  have hok2:TbOk es[k].cols (es[k].pts++[⟨b,gs⟩]):=by
   refine⟨hok.cols,fun p hp => ?_,fun p hp => ?_,by rw[qgn];exact h3⟩
   ·
    rcases zm.1 hp with hp | hp
    ·
     exact hok.read p hp
    ·
     obtain rfl:=ze.1 hp
     exact h2
   ·
    rcases zm.1 hp with hp | hp
    ·
     exact hok.size p hp
    ·
     obtain rfl:=ze.1 hp
     exact hbl
  obtain⟨g1,g2⟩:=h.turn hk h4 hok2 h5
  exact⟨hk,.inl ⟨gs,S',_,h1,h2,h3,g1,g2⟩⟩
 ·
  exact⟨hk,.inr ⟨e,h1,h2,h3⟩⟩
theorem add_yes{w:World}{lo C:Nat}{M:Nat→Prop}{es:List En}(h:CatE w lo M C es)(s:ByteArray){k:Nat}(hk:k<es.length)(he:es[k].name=s)(hcnt:es[k].pts.length≤1000000000){b:List UInt8}{A:Option Addr}{c:Nat}(hb:Rd w 0 w.heap.size A c (bv b))(hbl:b.length≤1000000000) :
  Calls Tryz.prog 15 #[.pointer (some ⟨C,0,none⟩),.string s,.slice A b.length c] w fun r w'=>AddR w w' lo C M es k b r:=by
 have hm:=ql hk
 obtain⟨hok,hsz1,hsz2⟩:=h.ok _ hm
 have hf:=qi1 h s (by rw[←he];omega)
 rw[qgt hk he h.names] at hf
 have HF:=qa hf
 have HAD:Hid (Calls Tryz.prog 38 #[.pointer (some ⟨es[k].g,0,none⟩),.slice A b.length c] w fun r w'=>AddR w w' lo C M es k b r):=(tadd_v (h.tabs _ hm) hok.tot hcnt hb hbl).mono fun r w' hp=>hp.cat h hk hbl
 obtain⟨g,hg⟩:∃g,es[k].g=g:=⟨_,rfl⟩
 rw[hg] at HF HAD
 have HRT:Hid (∀w' r,AddR w w' lo C M es k b r→∃e:Int,r= .returned (.int .i64 e)):=fun w' r hr=>by
  obtain⟨_,hr⟩:=hr
  rcases hr with ⟨_,_,_,h1,_⟩ | ⟨e,h1,_⟩
  ·
   exact⟨_,h1⟩
  ·
   exact⟨_,h1⟩
 clear hf h hm hok hg hsz1 hsz2 he hb
 go_enter Tryz.func15,Tryz.ntmps15
 go_wp2_with fail
 refine HF.out.mono ?_
 rintro r w1 ⟨rfl,rfl⟩
 clear HF
 go_wp2_with fail
 refine HAD.out.mono ?_
 intro r w2 hr
 obtain⟨e,rfl⟩:=HRT.out _ _ hr
 have HR:=qa hr
 clear hr HAD HRT
 go_wp2_with fail
 go_ret
 exact HR.out
section
open Go.ChangeShapes Go.WideShapes Go.ChangeAt Go.RowKit
theorem u8_of_wf{a:Int}(h:(Lit.int .u8 a).wf=true):∃b:UInt8,a=(b.toNat:Int):=by
 have hb:=bounds_u8 h
 exact⟨UInt8.ofNat a.toNat,by rw[jq];omega⟩
theorem u16_of_wf{a:Int}(h:(Lit.int .u16 a).wf=true):∃n:Nat,a=(n:Int)∧n<65536:=by
 have hb:=bounds_u16 h
 exact⟨a.toNat,by omega,by omega⟩
end
theorem colsB_len{g:List (List Vl)}{os:List Co}{b:Nat}:∀ {j:Nat},(∀i,i<j→(qjj (vk g i) (qd2 os i) b).length≤2000000)→(qbc g os b j).length≤2000000*j
 | 0,_=>by simp[qbc]
 | j+1,h=>by
  have h1:=colsB_len (j:=j) fun i hi=>h i (by omega)
  have h2:=h j (by omega)
  rw[qie,qd]
  omega
theorem qov{g:List (List Vl)}:∀ {gs:List (List (List Vl))},g∈gs→g.length≤uf gs
 | x :: gs,h=>by
  show g.length≤x.length+uf gs
  rcases z7.1 h with rfl | h
  ·
   omega
  ·
   have:=qov h
   omega
theorem grpsB_len{os:List Co}{b:Nat}:∀ {gs:List (List (List Vl))},(∀g∈gs,(qo5 os b g).length≤16000010)→(qbz os b gs).length≤16000010*gs.length
 | [],_=>by simp[qbz]
 | g :: gs,h=>by
  have h1:=grpsB_len (gs:=gs) fun x hx=>h x (j5 _ hx)
  have h2:=h g je
  show(qo5 os b g++qbz os b gs).length≤_
  rw[qd,qw]
  omega
theorem segB_len{gs:List (List (List Vl))}{os:List Co}{cols:Int}{b:Nat}(hR:qa8 cols gs os (b:Int))(hT:qlk gs os)(hF:FewSg gs os):(qh2 os b gs).length≤900000000:=by
 have hG:FewGr gs os:=few_gr hF fun g hg=>(hR.2.2.2.2.2.2.2 g hg).2.1
 have hw:=colW_of hR hT hG
 obtain⟨a1,a2,a3,a4,a5,a6,a7,a8⟩:=hR
 have h8:os.length≤8:=by omega
 have h40:=hF.groups
 have hcol:∀g∈gs,∀i,i<os.length→(qjj (vk g i) (qd2 os i) b).length≤2000000:=fun g hg i hi=>by
  have h:=(hw g hg).2 i hi
  have h1:=ql6 (grams_rise (qu (vk g i))) (b:=b) (by have:=h.few;omega) h.bits
  have h3:=qns (g:=g) (k:=i) fun r hr=>by rw[(a8 g hg).2.1 r hr];exact hi
  have h4:=sumQ_le hg
  have h5:=hF.bytes
  have h6:=qov hg
  have h7:=hF.rows
  have h2:=qoa h.fits h.ok h.tab (by rw[qa6];omega) (by omega)
  rw[qjj,qd]
  omega
 have hgrp:∀g∈gs,(qo5 os b g).length≤16000010:=fun g hg=>by
  have h1:=colsB_len (hcol g hg)
  have h6:=qov hg
  have h2:=qin 8 g.length (by have:=hF.rows;omega)
  rw[qo5,qd]
  omega
 have h1:=grpsB_len hgrp
 have h2:=qin 8 os.length (by omega)
 have h3:=qin 8 gs.length (by omega)
 rw[qh2,qd,qd]
 omega
theorem seg_facts{gs:List (List (List Vl))}{os:List Co}{cols bits:Int}(hR:qa8 cols gs os bits)(hT:qlk gs os)(hF:FewSg gs os):∃(bs:List UInt8) (GS:List GrpS),vo (qh2 os bits.toNat gs)=bs∧ke bs os.length GS∧qhg GS=gs.flatten∧qat GS=uf gs∧GS.length=gs.length∧
  (∀i (hi:i<gs.length) (h2:i<GS.length),GS[i].rows=gs[i].length∧GS[i].cols.length=os.length)∧(4≤bs.length∧bs.length≤1000000000)∧∀k (hk:k<bs.length) (y:UInt8),qak (bs.set k y)=decide (y=bs[k]):=by
 have hbits:(bits.toNat:Int)=bits:=by have:=hR.2.2.2.1;omega
 have hR2:qa8 cols gs os (bits.toNat:Int):=by rw[hbits];exact hR
 have hfg:FewGr gs os:=few_gr hF fun g hg=>(hR.2.2.2.2.2.2.2 g hg).2.1
 have hle:=segB_len hR2 hT hF
 refine⟨_,gs.map (qmn os bits.toNat),rfl,sg_there hR2 hT hfg,rowsS_of hR2 hT hfg,rowsT_of os bits.toNat gs,q8 _,fun i hi h2 => ?_,?_,fun k hk y=>sealedB_set hk y⟩
 ·
  rw[j6]
  exact⟨rfl,by simp[qmn]⟩
 ·
  rw[qc2]
  omega
theorem vq.cut{w:World}{lo hi c k m:Nat}{A:Option Addr}{rs:List (List Vl)}(h:vq w lo hi A c rs)(hk:k≤m)(hm:m≤rs.length):vq w lo hi (if c=k then A else A.map (·.add k)) (c-k) ((rs.drop k).take (m-k)):=by
 obtain⟨xs,hr,hx⟩:=h.cells
 have hxl:=hx.1
 refine qfn.rows (xs:=(xs.drop k).take (m-k)) ⟨by simp[hxl],fun j hj => ?_⟩ (hr.cut hk (by omega))
 have hj1:j<m-k∧k+j<rs.length:=by simp at hj;omega
 obtain⟨A',c',h1,h2⟩:=hx.2 (k+j) hj1.2
 refine⟨A',c',?_,?_⟩
 ·
  rw[qcr hj1.1,List.getElem?_drop,h1,qa1,List.getElem_drop]
 ·
  rw[qa1,List.getElem_drop]
  exact h2
theorem vq.take{w:World}{lo hi c:Nat}{A:Option Addr}{rs:List (List Vl)}(h:vq w lo hi A c rs)(k:Nat):vq w lo hi A c (rs.take k):=by
 obtain⟨xs,hr,hx⟩:=h.cells
 have hxl:=hx.1
 refine qfn.rows (xs:=xs.take k) ⟨by simp[hxl],fun j hj => ?_⟩ (hr.take_ k)
 have hj1:j<k∧j<rs.length:=by simp at hj;omega
 obtain⟨A',c',h1,h2⟩:=hx.2 j hj1.2
 exact⟨A',c',by rw[qcr hj1.1,h1,qa1],by rw[qa1];exact h2⟩
theorem fits_iff{rs:List (List Vl)}{i k:Nat}(hl:rs.length≤4096):kr (vk rs i)↔kr (vk (rs.take k) i)∧kr (vk (rs.drop k) i):=by
 have e:vk rs i=vk (rs.take k) i++vk (rs.drop k) i:=by
  unfold vk
  rw[←jl,zx]
 unfold kr
 rw[e,qd]
 have h1:(vk (rs.take k) i).length≤rs.length:=by rw[qa6,qz];omega
 have h2:(vk (rs.take k) i).length+(vk (rs.drop k) i).length=rs.length:=by rw[qa6,qa6,qz,qy];omega
 constructor
 ·
  rintro⟨_,h⟩
  exact⟨⟨by omega,fun v hv=>h v (List.mem_append_left _ hv)⟩,by omega,fun v hv=>h v (qce _ hv)⟩
 ·
  rintro⟨⟨_,g1⟩,_,g2⟩
  refine⟨by omega,fun v hv => ?_⟩
  rcases zm.1 hv with h | h
  ·
   exact g1 v h
  ·
   exact g2 v h
theorem grp_cut{n k:Nat}{rs:List (List Vl)}(hk0:0<k)(hk:k<rs.length)(hl:rs.length≤4096):qjr n rs↔qjr n (rs.take k)∧qjr n (rs.drop k):=by
 unfold qjr
 have h1:(rs.take k).length=k:=by rw[qz];omega
 have h2:(rs.drop k).length=rs.length-k:=qy
 constructor
 ·
  rintro⟨_,g1,g2⟩
  exact⟨⟨by omega,fun r hr=>g1 r (yz hr),fun i hi=>((fits_iff (k:=k) hl).1 (g2 i hi)).1⟩,by omega,fun r hr=>g1 r (qbl hr),fun i hi=>((fits_iff (k:=k) hl).1 (g2 i hi)).2⟩
 ·
  rintro⟨⟨_,g1,g2⟩,_,g3,g4⟩
  refine⟨by omega,fun r hr => ?_,fun i hi=>(fits_iff (k:=k) hl).2 ⟨g2 i hi,g4 i hi⟩⟩
  rw[←zx k rs] at hr
  rcases zm.1 hr with h | h
  ·
   exact g1 r h
  ·
   exact g3 r h
theorem right_cut{cols bits:Int}{k:Nat}{rs:List (List Vl)}{os:List Co}(hb:0≤bits∧bits≤65536)(hk0:0<k)(hk:k<rs.length):qa8 cols [rs] os 0↔qa8 cols [rs.take k,rs.drop k] os bits:=by
 have e1:uf [rs]=rs.length:=by simp[uf]
 have e2:uf [rs.take k,rs.drop k]=rs.length:=by simp[uf];omega
 unfold qa8
 rw[e1,e2]
 constructor
 ·
  rintro⟨a1,a2,a3,a4,a5,a6,a7,a8⟩
  have h:=(grp_cut hk0 hk a7).1 (a8 rs (by simp))
  refine⟨a1,a2,a3,hb.1,hb.2,a6,a7,fun g hg => ?_⟩
  simp only[z7,xv,or_false] at hg
  rcases hg with rfl | rfl
  ·
   exact h.1
  ·
   exact h.2
 ·
  rintro⟨a1,a2,a3,a4,a5,a6,a7,a8⟩
  refine⟨a1,a2,a3,Int.le_refl _,by decide,a6,a7,fun g hg => ?_⟩
  obtain rfl:g=rs:=by simpa using hg
  exact(grp_cut hk0 hk a7).2 ⟨a8 _ (by simp),a8 _ (by simp)⟩
theorem few_cut{k:Nat}{rs:List (List Vl)}{os:List Co}(h:FewSg [rs] os):FewSg [rs.take k,rs.drop k] os:=by
 have e1:qhj rs=qhj (rs.take k)+qhj (rs.drop k):=by
  unfold qhj
  rw[←qb5,←jl,zx]
 refine⟨by simp,h.cods,?_,?_,fun g hg r hr => ?_,h.draws⟩
 ·
  have:=h.rows
  simp[uf] at this ⊢
  omega
 ·
  have:=h.bytes
  show qhj (rs.take k)+(qhj (rs.drop k)+0)≤3000
  have e3:qiy [rs]=qhj rs+0:=rfl
  omega
 ·
  simp only[z7,xv,or_false] at hg
  rcases hg with rfl | rfl
  ·
   exact h.cols rs (by simp) r (yz hr)
  ·
   exact h.cols rs (by simp) r (qbl hr)
theorem grp_lit1{w w2:World}{A:Option Addr}{c:Nat}{rs:List (List Vl)}(h:vq w 0 w.heap.size A c rs)(hw:w.alloc (.cells #[.slice A rs.length c] 28)=w2):qbg w2 0 w2.heap.size (some ⟨w.heap.size,0,none⟩) 1 [rs]:=by
 have b:Below w.heap.size w w2:=by rw[←hw];exact(Below.refl _ w).alloc (qc _) _
 have ho:=kf (size:=1) (e:=28) w #[.slice A rs.length c] 1 (qc _) (by simp[maxLen]) rfl
 rw[hw] at ho
 refine qbg.of ((Rd.of_own ho).wide (qi _) (qc _)) rfl fun j hj => ?_
 have hj1:j<1:=hj
 match j,hj1 with
 | 0,_=>exact⟨_,_,rfl,(h.below b (qc _)).wide (qc _) b.size⟩
theorem grp_lit2{w w2:World}{A B:Option Addr}{c d n m:Nat}{rs ts:List (List Vl)}(h:vq w 0 w.heap.size A c rs)(h2:vq w 0 w.heap.size B d ts)(hn:rs.length=n)(hm:ts.length=m)(hw:w.alloc (.cells #[.slice A n c,.slice B m d] 28)=w2):qbg w2 0 w2.heap.size (some ⟨w.heap.size,0,none⟩) 2 [rs,ts]:=by
 subst hn hm
 have b:Below w.heap.size w w2:=by rw[←hw];exact(Below.refl _ w).alloc (qc _) _
 have ho:=kf (size:=1) (e:=28) w #[.slice A rs.length c,.slice B ts.length d] 2 (qc _) (by simp[maxLen]) rfl
 rw[hw] at ho
 refine qbg.of ((Rd.of_own ho).wide (qi _) (qc _)) rfl fun j hj => ?_
 have hj1:j<2:=hj
 match j,hj1 with
 | 0,_=>exact⟨_,_,rfl,(h.below b (qc _)).wide (qc _) b.size⟩
 | 1,_=>exact⟨_,_,rfl,(h2.below b (qc _)).wide (qc _) b.size⟩
theorem Row.nil_(w:World)(lo hi:Nat):Row w lo hi none 0 []:=⟨Els.nil _ _ _ _ _,fun v hv=>by cases hv⟩
theorem qmj{w:World}{rs:List (List Vl)}{cc:Nat}{A:Option Addr}(h:vq w 0 w.heap.size A cc rs)(k:Nat)(hk:∀r∈rs,k<r.length)(hn:rs.length≤1000000) :
  Calls Tryz.prog 54 #[.slice A rs.length cc,.int .i64 (k:Int)] w fun r w'=>∃A' c',r= .returned (.slice A' rs.length c')∧Row w' w.heap.size w'.heap.size A' c' (vk rs k)∧Below w.heap.size w w':=by
 have hok:∀v∈vk rs k,v.s.size≤9223372036854775807:=fun v hv=>by
  obtain⟨r,hr,rfl⟩:=zl.1 hv
  obtain⟨j,hj,rfl⟩:=zc hr
  obtain⟨_,_,_,_,_,_,_,_,hrow⟩:=h.get hj
  have hkj:=hk _ hr
  rw[List.getD,qe hkj]
  exact hrow.ok _ (ql hkj)
 refine(refColumn_v h k hk hn).mono ?_
 rintro r w' ⟨A',c',h1,h2,h3⟩
 exact⟨A',c',h1,row_own h2 (qa6 rs k) hok,h3⟩
theorem refRightSg_v{w:World}{gs:List (List (List Vl))}{os:List Co}{A B:Option Addr}{c d:Nat}(cols bits:Int)(h:qbg w 0 w.heap.size A c gs)(ho:qcs w 0 w.heap.size B d os)(hz:SizedG gs) :
  Calls Tryz.prog 35 #[.int .i64 cols,.slice A gs.length c,.slice B os.length d,.int .i64 bits] w fun r w'=>r= .returned (.bool (decide (qa8 cols gs os bits)))∧Below w.heap.size w w':=by
 obtain⟨hl,hm⟩:=h.len
 obtain⟨hl2,hm2⟩:=ho.len
 have H:Hid (∀W,Below w.heap.size w W→qbg W 0 W.heap.size A c gs):=fun W hW=>(h.below hW (qc _)).wide (qc _) hW.size
 have HO:Hid (∀W,Below w.heap.size w W→qcs W 0 W.heap.size B d os):=fun W hW=>(ho.below hW (qc _)).wide (qc _) hW.size
 have HZ:Hid (∀i (hi:i<gs.length),gs[i].length≤140737488355328):=fun i hi=>(hz _ (ql hi)).1
 obtain⟨v,hv⟩:∃v,decide (qa8 cols gs os bits)=v:=⟨_,rfl⟩
 rw[hv]
 have HF:Hid (¬qa8 cols gs os bits→v=false):=fun h=>by rw[←hv];exact qr h
 have HT:Hid (qa8 cols gs os bits→v=true):=fun h=>by rw[←hv];exact qx h
 clear h ho hz hv
 go_enter Tryz.func35,Tryz.ntmps35
 by_cases h1:cols<1
 ·
  obtain rfl:v=false:=HF.out fun h=>by have:=h.1;omega
  go_wp2_with fail
  go_ret
  exact⟨rfl,Below.refl _ _⟩
 by_cases h2:8<cols
 ·
  obtain rfl:v=false:=HF.out fun h=>by have:=h.2.1;omega
  go_wp2_with fail
  go_ret
  exact⟨rfl,Below.refl _ _⟩
 by_cases h3:¬(os.length:Int)=cols
 ·
  obtain rfl:v=false:=HF.out fun h=>h3 h.2.2.1
  have h3b:((os.length:Int) != cols)=true:=by rw[bne_iff_ne];exact h3
  go_wp2_with fail
  go_ret
  exact⟨rfl,Below.refl _ _⟩
 have h3:=Decidable.not_not.1 h3
 by_cases h4:bits<0
 ·
  obtain rfl:v=false:=HF.out fun h=>by have:=h.2.2.2.1;omega
  go_wp2_with fail
  go_ret
  exact⟨rfl,Below.refl _ _⟩
 by_cases h5:65536<bits
 ·
  obtain rfl:v=false:=HF.out fun h=>by have:=h.2.2.2.2.1;omega
  go_wp2_with fail
  go_ret
  exact⟨rfl,Below.refl _ _⟩
 have HB:Hid (1≤cols∧cols≤8∧(os.length:Int)=cols∧0≤bits∧bits≤65536):=⟨by omega,by omega,h3,by omega,by omega⟩
 obtain⟨n,hn⟩:∃n,os.length=n:=⟨_,rfl⟩
 have HN:=qa hn
 have hn8:n≤8:=by omega
 have hc:cols=(n:Int):=by omega
 rw[hn] at hl2 ⊢
 subst hc
 clear hn h3
 have hn1:1≤n:=by omega
 have i1:¬(n:Int)<1:=h1
 have i2:¬(8:Int)<(n:Int):=h2
 clear h1 h2
 go_wp2_with fail
 go_loopw [10] (fun x wr=>∃k:Nat,k≤n∧x= .int .i64 (k:Int)∧Hid (∀j (hj:j<os.length),j<k→qa2 os[j])∧Below w.heap.size w wr) (fun x _=>n-(intOf x).toNat)
 case atStart=>exact⟨0,qi _,rfl,fun j hj h0=>absurd h0 (ja j),Below.refl _ _⟩
 case round =>
  obtain⟨k,hk,rfl,HC,hb⟩:=hrel
  have HBW:=qa hb
  have hszr:=hb.size
  clear hb
  by_cases hlt:k<n
  ·
   have ik:(k:Int)<(n:Int):=by omega
   have ik0:(0:Int)≤(k:Int):=by omega
   have hko:k<os.length:=by rw[HN.out];exact hlt
   obtain⟨b,off,A2,c2,rfl,_,hbl,e0,e1,e2,e3,hrd,hwd⟩:=(HO.out wr HBW.out).get hko
   have HRI:=qa (refRight_v (w:=wr) [] os[k] (Row.nil_ wr 0 wr.heap.size) hrd)
   have hiff:(kr []∧qa2 os[k])↔qa2 os[k]:=⟨fun h=>h.2,fun h=>⟨fits_nil,h⟩⟩
   have HC0:Hid (¬qa2 os[k]→v=false):=fun h=>HF.out fun h9=>h (h9.2.2.2.2.2.1 _ (ql hko))
   have HC1:Hid (qa2 os[k]→∀j (hj:j<os.length),j<k+1→qa2 os[j]):=fun h j hj hj2=>by
    by_cases e:j=k
    ·
     subst e;exact h
    ·
     exact HC.out j hj (by omega)
   obtain⟨q,hq⟩:∃q,decide (kr []∧qa2 os[k])=q:=⟨_,rfl⟩
   rw[hq] at HRI
   have HQ:Hid (q=true↔qa2 os[k]):=by unfold Hid;rw[←hq,decide_eq_true_iff,hiff]
   obtain⟨kd,hkd⟩:∃z,os[k].kind=z:=⟨_,rfl⟩
   obtain⟨bl,hbl2⟩:∃z,os[k].block=z:=⟨_,rfl⟩
   obtain⟨ro,hro⟩:∃z,os[k].rounds=z:=⟨_,rfl⟩
   obtain⟨dl,hdl⟩:∃z,os[k].draws.length=z:=⟨_,rfl⟩
   rw[hkd] at e0 HRI
   rw[hbl2] at e1 HRI
   rw[hro] at e2 HRI
   rw[hdl] at e3 HRI
   clear hrd hwd hiff hq hkd hbl2 hro hdl HC
   go_wp2_with fail
   refine HRI.out.mono ?_
   rintro r w2 ⟨rfl,hb2⟩
   have HB2:Hid (Below w.heap.size w w2):=HBW.out.trans (hb2.mono hszr)
   clear hb2 HRI
   cases q with
   | true =>
    have HC2:=qa (HC1.out (HQ.out.1 rfl))
    go_wp2_with fail
    go_roundw
    case rel=>exact⟨k+1,by omega,by go_num,HC2.out,HB2.out⟩
    case measure=>simp[intOf];omega
   | false =>
    obtain rfl:v=false:=HC0.out fun h=>by have:=HQ.out.2 h;cases this
    go_wp2_with fail
    go_ret
    exact⟨rfl,HB2.out⟩
  ·
   have ik:¬(k:Int)<(n:Int):=by omega
   have HCA:Hid (∀o∈os,qa2 o):=fun o ho=>by
    obtain⟨j,hj,rfl⟩:=zc ho
    exact HC.out j hj (by have:=HN.out;omega)
   clear HC
   go_wp2_with fail
   go_loopw [9,11] (fun x9 x11 wr=>∃(g m:Nat),g≤gs.length∧x11= .int .i64 (g:Int)∧x9= .int .i64 (m:Int)∧Hid (m=uf (gs.take g))∧m≤4096∧Hid (∀i (hi:i<gs.length),i<g→qjr n gs[i])∧Below w.heap.size w wr) (fun _ x11 _=>gs.length-(intOf x11).toNat)
   case atStart=>exact⟨0,0,qi _,rfl,rfl,rfl,by omega,fun i hi h0=>absurd h0 (ja i),HBW.out⟩
   case round =>
    obtain⟨g,m,hg,rfl,rfl,HM,hm4,HG,hb⟩:=hrel
    obtain⟨wg,hwg⟩:∃wg,wg=wr:=⟨_,rfl⟩
    subst hwg
    have HBG:=qa hb
    have hszg:=hb.size
    clear hb
    by_cases hgl:g<gs.length
    ·
     have ig:(g:Int)<(gs.length:Int):=by omega
     have ig0:(0:Int)≤(g:Int):=by omega
     obtain⟨b,off,A1,c1,rfl,_,hbl,hcell,hrows⟩:=(H.out wg HBG.out).get hgl
     have hz1:=HZ.out g hgl
     obtain⟨hrl,hrm⟩:=hrows.len
     have HRW:Hid (∀W,Below wg.heap.size wg W→vq W 0 W.heap.size A1 c1 gs[g]):=fun W hW=>(hrows.below hW (qc _)).wide (qc _) hW.size
     have HMT:=qa (qfu hgl)
     have HGF:Hid (¬qjr n gs[g]→v=false):=fun h=>HF.out fun h9=>h (by have:=h9.2.2.2.2.2.2.2 _ (ql hgl);rwa [HN.out] at this)
     have HRF:Hid (¬uf (gs.take (g+1))≤4096→v=false):=fun h=>HF.out fun h9=>h (zb (qja gs (g+1)) h9.2.2.2.2.2.2.1)
     have HGN:Hid (qjr n gs[g]→∀i (hi:i<gs.length),i<g+1→qjr n gs[i]):=fun h i hi hi2=>by
      by_cases e:i=g
      ·
       subst e;exact h
      ·
       exact HG.out i hi (by omega)
     obtain⟨G,hG⟩:∃G,gs[g]=G:=⟨_,rfl⟩
     rw[hG] at hcell hz1 hrl HRW HMT HGF HGN
     obtain⟨gl,hgl2⟩:∃gl,G.length=gl:=⟨_,rfl⟩
     have HGL:=qa hgl2
     rw[hgl2] at hcell hz1 hrl HMT
     have HCG:Hid (∀W,Below wg.heap.size wg W→W.cell? ⟨b,off+g,none⟩=some (.slice A1 gl c1)):=fun W hW=>(hW.cell (p:=⟨b,off+g,none⟩) hbl).trans hcell
     obtain⟨mm,hmm⟩:∃mm,m+gl=mm:=⟨_,rfl⟩
     have hwm:IntKind.i64.wrap ((m:Int)+(gl:Int))=(mm:Int):=by rw[jf _ (by omega)];omega
     have hgm:gl≤mm:=by omega
     have HMM:Hid (mm=uf (gs.take (g+1))):=by unfold Hid;rw[HMT.out,←HM.out,hmm]
     clear hrows hG hgl2 hmm HG HM HMT
     by_cases hg0:gl=0
     ·
      obtain rfl:v=false:=HGF.out fun h=>by have:=h.1;rw[HGL.out] at this;omega
      have ig00:(gl:Int)=0:=by omega
      go_wp2_with fail
      go_ret
      exact⟨rfl,HBG.out⟩
     have ig00:¬(gl:Int)=0:=by omega
     by_cases hm5:¬mm≤4096
     ·
      obtain rfl:v=false:=HRF.out (by rw[←HMM.out];exact hm5)
      have im5:(4096:Int)<(mm:Int):=by omega
      go_wp2_with fail
      go_ret
      exact⟨rfl,HBG.out⟩
     have hm5:=Decidable.not_not.1 hm5
     have im5:¬(4096:Int)<(mm:Int):=by omega
     go_wp2_with fail
     go_loopw [12] (fun x wr=>∃i:Nat,i≤gl∧x= .int .i64 (i:Int)∧Hid (∀j (hj:j<G.length),j<i→G[j].length=n)∧wr=wg) (fun x _=>gl-(intOf x).toNat)
     case atStart=>exact⟨0,qi _,rfl,fun j hj h0=>absurd h0 (ja j),rfl⟩
     case round =>
      obtain⟨i,hi,rfl,HL,hwe⟩:=hrel
      have hwe':wg=wr:=hwe.symm
      subst hwe'
      by_cases hil:i<gl
      ·
       have ii:(i:Int)<(gl:Int):=by omega
       have ii0:(0:Int)≤(i:Int):=by omega
       have hiG:i<G.length:=by rw[HGL.out];exact hil
       obtain⟨b2,off2,A2,c2,rfl,_,hbl2,hcell2,hrow⟩:=(HRW.out wg (Below.refl _ _)).get hiG
       obtain⟨hrl2,hrm2⟩:=hrow.len
       obtain⟨rl,hrl3⟩:∃rl,G[i].length=rl:=⟨_,rfl⟩
       have HRL:=qa hrl3
       rw[hrl3] at hcell2 hrl2
       clear hrow hrl3
       by_cases he:rl=n
       ·
        have ie:(rl:Int)=(n:Int):=by omega
        have HL2:Hid (∀j (hj:j<G.length),j<i+1→G[j].length=n):=fun j hj hj2=>by
         by_cases e:j=i
         ·
          subst e;rw[HRL.out];exact he
         ·
          exact HL.out j hj (by omega)
        subst he
        clear HL ie
        go_wp2_with fail
        go_roundw
        case rel=>exact⟨i+1,by omega,by go_num,HL2.out,by first | exact trivial | rfl⟩
        case measure=>simp[intOf];omega
       ·
        have ie:¬(rl:Int)=(n:Int):=by omega
        have ieb:((rl:Int) != (n:Int))=true:=by rw[bne_iff_ne];exact ie
        obtain rfl:v=false:=HGF.out fun h=>he (by rw[←HRL.out];exact h.2.1 _ (ql hiG))
        clear he
        go_wp2_with fail
        go_ret
        exact⟨rfl,HBG.out⟩
      ·
       have ii:¬(i:Int)<(gl:Int):=by omega
       have HLA:Hid (∀r∈G,r.length=n):=fun r hr=>by
        obtain⟨j,hj,rfl⟩:=zc hr
        exact HL.out j hj (by have:=HGL.out;omega)
       clear HL
       go_wp2_with fail
       go_loopw [13] (fun x wr=>∃k:Nat,k≤n∧x= .int .i64 (k:Int)∧Hid (∀j,j<k→kr (vk G j))∧Below wg.heap.size wg wr) (fun x _=>n-(intOf x).toNat)
       case atStart=>exact⟨0,qi _,rfl,fun j h0=>absurd h0 (ja j),Below.refl _ _⟩
       case round =>
        obtain⟨k2,hk2,rfl,HFV,hb⟩:=hrel
        have HBK:=qa hb
        have hszk:=hb.size
        clear hb
        by_cases hkl:k2<n
        ·
         have ik2:(k2:Int)<(n:Int):=by omega
         have ik20:(0:Int)≤(k2:Int):=by omega
         have hko:k2<os.length:=by rw[HN.out];exact hkl
         have HBWK:Hid (Below w.heap.size w wr):=HBG.out.trans (HBK.out.mono hszg)
         obtain⟨b9,off9,A9,c9,rfl,_,hbl9,e0,e1,e2,e3,hrd,hwd⟩:=(HO.out wr HBWK.out).get hko
         have HCK:Hid (∀W,Below wr.heap.size wr W→W.cell? ⟨b,off+g,none⟩=some (.slice A1 gl c1)∧W.cell? ⟨b9,off9+k2*4,none⟩=some (.int .i64 os[k2].kind)∧W.cell? ⟨b9,off9+k2*4+1,none⟩=some (.int .i64 os[k2].block)∧W.cell? ⟨b9,off9+k2*4+2,none⟩=some (.int .i64 os[k2].rounds)∧W.cell? ⟨b9,off9+k2*4+3,none⟩=some (.slice A9 os[k2].draws.length c9)):=fun W hW=>⟨HCG.out W (HBK.out.trans (hW.mono hszk)),(hW.cell (p:=⟨b9,off9+k2*4,none⟩) hbl9).trans e0,(hW.cell (p:=⟨b9,off9+k2*4+1,none⟩) hbl9).trans e1,(hW.cell (p:=⟨b9,off9+k2*4+2,none⟩) hbl9).trans e2,(hW.cell (p:=⟨b9,off9+k2*4+3,none⟩) hbl9).trans e3⟩
         have HCL:Hid (∀W,Below wr.heap.size wr W→Calls Tryz.prog 54 #[.slice A1 gl c1,.int .i64 (k2:Int)] W fun r w'=>∃A' c',r= .returned (.slice A' gl c')∧Row w' W.heap.size w'.heap.size A' c' (vk G k2)∧Below W.heap.size W w'):=fun W hW=>by
          have:=qmj (HRW.out W (HBK.out.trans (hW.mono hszk))) k2 (fun r hr=>by rw[HLA.out r hr];exact hkl) (by have:=HGL.out;omega)
          rw[HGL.out] at this
          exact this
         obtain⟨q,hq⟩:∃q,decide (kr (vk G k2)∧qa2 os[k2])=q:=⟨_,rfl⟩
         have HRI:Hid (∀W A' c',Below wr.heap.size wr W→Row W 0 W.heap.size A' c' (vk G k2)→Calls Tryz.prog 53 #[.slice A' gl c',.agg #[.int .i64 os[k2].kind,.int .i64 os[k2].block,.int .i64 os[k2].rounds,.slice A9 os[k2].draws.length c9]] W fun r w'=>r= .returned (.bool q)∧Below W.heap.size W w'):=fun W A' c' hW hr=>by
          have:=refRight_v (vk G k2) os[k2] hr ((hrd.below hW (qc _)).wide (qc _) hW.size)
          rw[hq,qa6,HGL.out] at this
          exact this
         have HC0:Hid (q=false→v=false):=fun h=>HGF.out fun h9=>by
          have:decide (kr (vk G k2)∧qa2 os[k2])=true:=qx ⟨h9.2.2 k2 hkl,HCA.out _ (ql hko)⟩
          rw[hq,h] at this
          cases this
         have HC1:Hid (q=true→∀j,j<k2+1→kr (vk G j)):=fun h j hj=>by
          by_cases e:j=k2
          ·
           subst e
           rw[←hq,decide_eq_true_iff] at h
           exact h.1
          ·
           exact HFV.out j (by omega)
         obtain⟨kd,hkd⟩:∃z,os[k2].kind=z:=⟨_,rfl⟩
         obtain⟨bl,hbl2⟩:∃z,os[k2].block=z:=⟨_,rfl⟩
         obtain⟨ro,hro⟩:∃z,os[k2].rounds=z:=⟨_,rfl⟩
         obtain⟨dl,hdl⟩:∃z,os[k2].draws.length=z:=⟨_,rfl⟩
         rw[hkd,hbl2,hro,hdl] at HCK HRI
         clear hrd hwd hq hkd hbl2 hro hdl HFV e0 e1 e2 e3
         go_wp2_with fail
         have KD:Hid (Below wr.heap.size wr wr.drew):=(Below.refl _ _).drew
         refine wp_region_held_drew (S:=fun w'=>Below wr.heap.size wr w') (by kernel_rfl) KD.out (fun hHeld => ?_)
         refine tk 0 ?_ rfl hHeld ?_ ?_
         rotate_left
         focus (intro W hSw;obtain⟨q0,q1,q2,q3,q4⟩:=HCK.out W hSw;go_simp;try with_reducible rfl)
         try simp only[ju,Act.put]
         refine tk 1 ?_ rfl hHeld ?_ ?_
         rotate_left
         focus (intro W hSw;obtain⟨q0,q1,q2,q3,q4⟩:=HCK.out W hSw;go_simp;try with_reducible rfl)
         try simp only[ju,Act.put]
         refine tk 2 ?_ rfl hHeld ?_ ?_
         rotate_left
         focus (intro W hSw;obtain⟨q0,q1,q2,q3,q4⟩:=HCK.out W hSw;go_simp;try with_reducible rfl)
         try simp only[ju,Act.put]
         refine tk 3 ?_ rfl hHeld ?_ ?_
         rotate_left
         focus (intro W hSw;obtain⟨q0,q1,q2,q3,q4⟩:=HCK.out W hSw;go_simp;try with_reducible rfl)
         try simp only[ju,Act.put]
         refine tk 4 ?_ rfl hHeld ?_ ?_
         rotate_left
         focus (intro W hSw;obtain⟨q0,q1,q2,q3,q4⟩:=HCK.out W hSw;go_simp;try with_reducible rfl)
         try simp only[ju,Act.put]
         refine tk 6 ?_ rfl hHeld ?_ ?_
         rotate_left
         focus (intro W hSw;obtain⟨q0,q1,q2,q3,q4⟩:=HCK.out W hSw;go_simp;try with_reducible rfl)
         try simp only[ju,Act.put]
         refine tk 7 ?_ rfl hHeld ?_ ?_
         rotate_left
         focus (intro W hSw;obtain⟨q0,q1,q2,q3,q4⟩:=HCK.out W hSw;go_simp;try with_reducible rfl)
         try simp only[ju,Act.put]
         refine tk 8 ?_ rfl hHeld ?_ ?_
         rotate_left
         focus (intro W hSw;obtain⟨q0,q1,q2,q3,q4⟩:=HCK.out W hSw;go_simp;try with_reducible rfl)
         try simp only[ju,Act.put]
         refine tk 9 ?_ rfl hHeld ?_ ?_
         rotate_left
         focus (intro W hSw;obtain⟨q0,q1,q2,q3,q4⟩:=HCK.out W hSw;go_simp;try with_reducible rfl)
         try simp only[ju,Act.put]
         obtain⟨wd,hwd⟩:∃q,wr.drew=q:=⟨_,rfl⟩
         rw[hwd] at hHeld ⊢
         clear KD hwd
         have K_wd:=qa hHeld
         refine wpAnyH_ready (rs:=[5]) (by kernel_rfl) (by simp) ?_
         refine qt (o:=_) rfl (fun K hK => ?_) za
         go_simp
         refine(HCL.out _ K_wd.out).mono ?_
         rintro r v1 ⟨Ac,cc2,rfl,hrc,hb_v1⟩
         have s_v1:wd.heap.size≤v1.heap.size:=hb_v1.size
         have K_v1:Hid (Below wr.heap.size wr v1):=qa (K_wd.out.trans (hb_v1.mono K_wd.out.size))
         have Hc_v1:Hid (Row v1 0 v1.heap.size Ac cc2 (vk G k2)):=hrc.wide (qi _) (qc _)
         clear hb_v1
         clear hrc
         refine hK.out _ _ K_v1.out (fun hHeld => ?_)
         clear hK K
         try simp only[ju,Act.put]
         refine wpAnyH_ready (rs:=[10]) (by kernel_rfl) (by simp) ?_
         refine qt (o:=_) rfl (fun K hK => ?_) za
         go_simp
         refine(HRI.out _ _ _ K_v1.out Hc_v1.out).mono ?_
         rintro r v2 ⟨rfl,hb_v2⟩
         have s_v2:v1.heap.size≤v2.heap.size:=hb_v2.size
         have K_v2:Hid (Below wr.heap.size wr v2):=qa (K_v1.out.trans (hb_v2.mono K_v1.out.size))
         have Hc_v2:Hid (Row v2 0 v2.heap.size Ac cc2 (vk G k2)):=(Hc_v1.out.below hb_v2 (qc _)).wide (qc _) hb_v2.size
         clear hb_v2
         refine hK.out _ _ K_v2.out (fun hHeld => ?_)
         clear hK K
         try simp only[ju,Act.put]
         refine tk 11 ?_ rfl hHeld ?_ ?_
         rotate_left
         focus (intro W hSw;obtain⟨q0,q1,q2,q3,q4⟩:=HCK.out W hSw;go_simp;try with_reducible rfl)
         try simp only[ju,Act.put]
         refine wpAnyH_done (by kernel_rfl) ?_ _
         have KG:=K_v2
         have KZ:=KG
         cases q with
         | true =>
          have HC2:=qa (HC1.out rfl)
          go_wp2_with fail
          go_roundw
          case rel=>exact⟨k2+1,by omega,by go_num,HC2.out,HBK.out.trans (KG.out.mono hszk)⟩
          case measure=>simp[intOf];omega
         | false =>
          obtain rfl:v=false:=HC0.out rfl
          go_wp2_with fail
          go_ret
          exact⟨rfl,HBWK.out.trans (KG.out.mono HBWK.out.size)⟩
        ·
         have ik2:¬(k2:Int)<(n:Int):=by omega
         have HOKG:Hid (qjr n G):=⟨by rw[HGL.out];omega,HLA.out,fun j hj=>HFV.out j (by omega)⟩
         have HGN2:=qa (HGN.out HOKG.out)
         have HBW2:Hid (Below w.heap.size w wr):=HBG.out.trans (HBK.out.mono hszg)
         clear HGN HFV
         go_wp2_with fail
         go_roundw
         case rel=>exact⟨g+1,mm,by omega,by go_num,rfl,HMM,hm5,HGN2,HBW2.out⟩
         case measure=>simp[intOf];omega
    ·
     have ig:¬(g:Int)<(gs.length:Int):=by omega
     have HTA:Hid (gs.take g=gs):=qo (by omega)
     obtain rfl:v=true:=HT.out ⟨HB.out.1,HB.out.2.1,HB.out.2.2.1,HB.out.2.2.2.1,HB.out.2.2.2.2,HCA.out,by rw[←HTA.out,←HM.out];exact hm4,fun q hq=>by
      obtain⟨j,hj,rfl⟩:=zc hq
      rw[HN.out]
      exact HG.out j hj (by omega)⟩
     go_wp2_with fail
     go_ret
     exact⟨rfl,HBG.out⟩
end Go.Proofs.YtjfecojdagmacaaGreat
