/-
  Lemmas.
-/
import Derived.Test.YtjfecojdagmacaaGreatE11
namespace Go.Proofs.YtjfecojdagmacaaGreat
open Go.RowKit
set_option maxRecDepth 20000
set_option maxHeartbeats 16000000
set_option linter.unusedSimpArgs false
set_option linter.unusedVariables false
def Dc(w:World)(d:Nat)(ys:List ByteArray):Prop :=
 ∃A c,j8 w d 243 #[.slice A ys.length c]∧w.ownsRow (d+1) 9 1 (.slice A ys.length c) ys.length (sv ys)
section
variable {w w':World}{d g:Nat}{ys:List ByteArray}
theorem Dc.lt(h:Dc w d ys):d<w.heap.size:=by obtain⟨A,c,hb,_⟩:=h;exact hb.lt
theorem Dc.cur(h:Dc w d ys)(hg:w.grownBy w' (some g))(hgd:g<d):Dc w' d ys:=by
 obtain⟨A,c,hb,ho⟩:=h
 exact⟨A,c,hb.grown hg (fun e=>by injection e with e;omega),jw ho (fun k hk=>hg.block k (zk ho hk).2 (fun e=>by injection e with e;have:=(zk ho hk).1;omega))⟩
theorem Dc.drewN(h:Dc w d ys)(m:Nat):Dc (w.drewN m) d ys:=by
 obtain⟨A,c,hb,ho⟩:=h
 exact⟨A,c,hb,jw ho (fun _ _=>rfl)⟩
theorem Dc.below{B:Nat}(h:Dc w d ys)(hb:Below B w w')(hB:w.heap.size≤B):Dc w' d ys:=by
 obtain⟨A,c,hbk,ho⟩:=h
 exact⟨A,c,hbk.below hb (by have:=hbk.lt;omega),ji ho hb hB⟩
theorem Dc.open_(h:Dc w d ys):∃A c,w.cell? ⟨d,0,none⟩=some (.slice A ys.length c)∧w.frozen? ⟨d,0,none⟩=false∧Rd w (d+1) w.heap.size A c (sv ys):=by
 obtain⟨A,c,hb,ho⟩:=h
 refine⟨A,c,?_,hb.frozen 0,Rd.of_own ho⟩
 have:=hb.cell 0
 simpa using this
theorem Dc.push{A:Option Addr}{c:Nat}(h:Dc w d ys)(hc:w.cell? ⟨d,0,none⟩=some (.slice A ys.length c))(s:ByteArray)(hl:ys.length≤10000000) :
  ∃A' c' w2,(Builtin.append_ #[52,52] 52 #[.slice A ys.length c,.slice (some ⟨w.heap.size,0,none⟩) 1 1]).run Tryz.prog (w.alloc (.cells #[.string s] 9))= .ok (.slice A' (ys.length+1) c') w2∧
   w2.cell? ⟨d,0,none⟩=some (.slice A ys.length c)∧w2.frozen? ⟨d,0,none⟩=false∧Dc (w2.setCell ⟨d,0,none⟩ (.slice A' (ys.length+1) c')) d (ys++[s])∧Below d w (w2.setCell ⟨d,0,none⟩ (.slice A' (ys.length+1) c')):=by
 obtain⟨A0,c0,hb,ho⟩:=h
 have h0:=hb.cell 0
 simp only[hc] at h0
 have hA:A0=A∧c0=c:=by
  have:Value.slice A ys.length c=Value.slice A0 ys.length c0:=by simpa using h0
  injection this with h1 h2 h3
  exact⟨h1.symm,h3.symm⟩
 obtain⟨rfl,rfl⟩:=hA
 have hsz:=hb.lt
 have hr:Rd (w.alloc (.cells #[.string s] 9)) 0 (w.alloc (.cells #[.string s] 9)).heap.size (some ⟨w.heap.size,0,none⟩) 1 (sv [s]):=by
  have hcell:(w.alloc (.cells #[.string s] 9)).cell? ⟨w.heap.size,0,none⟩=some (.string s):=by rw[zm _ _ _ _ rfl];rfl
  refine⟨by simp[sv],by simp[maxLen],fun _=>⟨w.heap.size,0,rfl,qj _,by simp,fun j u hu => ?_⟩⟩
  match j,hu with
  | 0,hu =>
   simp[sv] at hu
   subst hu
   exact hcell
  | j+1,hu=>simp[sv] at hu
 obtain⟨A',c',w2,hrun,hown,hg⟩:=qis (w.alloc (.cells #[.string s] 9)) (d+1) _ ys [s] (ys++[s]) rfl (ho.alloc (.cells #[.string s] 9)) hr (by simp;omega) (by simp;omega)
 have hlen:(ys++[s]).length=ys.length+1:=by simp
 rw[hlen] at hrun hown
 have hrow:∀q,(Value.slice A0 ys.length c0).ownBlock=some q→d+1≤q:=fun q hq=>(zk ho hq).1
 have hbd:j8 w2 d 243 #[.slice A0 ys.length c0]:=(hb.alloc _).grown hg (fun e=>by have:=hrow d e.symm;omega)
 have hbe:Below d w w2:=((Below.refl d w).alloc (by omega) _).grown hg (by simp;omega) (fun q hq=>by have:=hrow q hq;omega)
 refine⟨A',c',w2,hrun,by have:=hbd.cell 0;simpa using this,hbd.frozen 0,⟨A',c',?_,?_⟩,hbe.setCell (p:=⟨d,0,none⟩) (qc _) _⟩
 ·
  rw[hlen]
  exact hbd.put 0 _
 ·
  rw[hlen]
  exact jw hown (fun k hk=>Below.heap_setCell _ _ _ _ (by have:=(zk hown hk).1;show k≠d;omega))
end
theorem entR_len(f:Bool)(bs:List UInt8)(k:Nat)(e:Int)(last:List UInt8):(ql0 f bs k e last).1.length≤last.length+4096:=by
 unfold ql0
 split
 ·
  have:=qlj bs k e;omega
 ·
  unfold qfa
  simp only[qd,qy]
  have:=qlj bs (z8 bs k e last.length).2.1 (z8 bs k e last.length).2.2
  omega
theorem good_le{l:List (List UInt8)}{s:List UInt8}(h:qcz l s=true):s.length≤4096:=by
 unfold qcz at h
 rw[jq,decide_eq_true_eq] at h
 exact h.1
theorem ftake_any{w:World}{lo g d k:Nat}{bs:List UInt8}{e:Int}{ys:List ByteArray}(hc:xq w lo g bs k e)(hd:Dc w d ys)(hgd:g<d)(n size:Nat)(hn:n≤64)(hsz:size≤4294967295)(hyl:ys.length+n≤1000000)(hbs:bs.length≤1000000000000) :
  Calls Tryz.prog 197 #[.pointer (some ⟨d,0,none⟩),cp g,.int .i64 (n:Int),.int .i64 (size:Int)] w fun r w'=>r= .returned (.tuple #[])∧∃ys':List ByteArray,qt ys'=(qez bs (qt ys) k e n size).1∧ys'.length≤ys.length+n∧
   Dc w' d ys'∧xq w' lo g bs (qez bs (qt ys) k e n size).2.1 (qez bs (qt ys) k e n size).2.2∧Out w w' (fun i=>i=g∨d≤i):=by
 have hk:=hc.le
 obtain⟨TT,hTT⟩:∃TT,qez bs (qt ys) k e n size=TT:=⟨_,rfl⟩
 rw[hTT]
 unfold qez at hTT
 simp only at hTT
 obtain⟨E,hE⟩:∃E,((bs.length-k:Nat):Int)-(size:Int)=E:=⟨_,rfl⟩
 rw[hE] at hTT
 obtain⟨F,hF⟩:∃F,qd6 bs E n true (qt ys) [] k e=F:=⟨_,rfl⟩
 rw[hF] at hTT
 have HL:=qa (qcx hc)
 have HE:Hid (((bs.length-k:Nat):Int)-(size:Int)=E):=hE
 have hEb : -4294967296≤E∧E≤1000000000000:=by omega
 have HC:=qa hc
 have HD:=qa hd
 have HF:=qa hF
 have HTT:=qa hTT
 obtain⟨y0,hy0⟩:∃y0,ys.length=y0:=⟨_,rfl⟩
 have HY0:=qa hy0
 rw[hy0] at hyl
 obtain⟨lf,hlf⟩:∃lf:Nat,bs.length-k=lf:=⟨_,rfl⟩
 rw[hlf] at HE HL
 have hlfb:lf≤1000000000000:=by omega
 have hwE:IntKind.i64.wrap ((lf:Int)-(size:Int))=E:=by rw[HE.out];exact xa _ (by omega)
 have hsub:(lf:Int)-(size:Int)=E:=HE.out
 clear hc hd hE hF hTT hy0 hlf
 unfold cp at *
 go_enter Tryz.func197,Tryz.ntmps197
 go_wp2_with fail
 refine HL.out.mono ?_
 rintro r w1 ⟨rfl,m0,rfl⟩
 go_wp2_with fail
 clear hwE hsub
 go_loopw [9,17] (fun x9 x17 wr=>∃(i k':Nat) (e':Int) (last:ByteArray) (zs:List ByteArray),i≤n∧x17= .int .i64 (i:Int)∧x9= .string last∧last.size≤4096∧zs.length=y0+i∧qd6 bs E (n-i) (decide (i=0)) (qt zs) last.data.toList k' e'=F∧
  Dc wr d zs∧xq wr lo g bs k' e'∧Out w wr (fun i=>i=g∨d≤i)) (fun _ i _=>n-(intOf i).toNat)
 case atStart=>exact⟨0,k,e,⟨#[]⟩,ys,qj _,rfl,rfl,by decide,HY0.out,HF.out,HD.out.drewN _,HC.out.drewN _,(Out.refl _ _).drewN _⟩
 case round =>
  clear HC HD HL HF HE
  obtain⟨i,k',e',last,zs,hi,rfl,rfl,hls,hzl,htf,hdc,hcur,hout⟩:=hrel
  have HZL:=qa hzl
  have HTF:=qa htf
  have HD:=qa hdc
  have HC:=qa hcur
  have HO:=qa hout
  have hk':=hcur.le
  clear hzl htf hdc hcur hout
  by_cases hlt:i<n
  ·
   have ik:(i:Int)<(n:Int):=by omega
   obtain⟨m,hm⟩:∃m,n-i=m+1:=⟨n-i-1,by omega⟩
   have HM:Hid (n-(i+1)=m):=by unfold Hid;omega
   have htf:=HTF.out
   rw[hm,qd6] at htf
   clear HTF hm
   by_cases hi0:i=0
   ·
    have b0:((i:Int)==0)=true:=by rw[beq_iff_eq];omega
    rw[qx hi0] at htf
    have HI0:=qa hi0
    clear hi0
    have hel:=entR_len true bs k' e' last.data.toList
    have HT:=qa (text_any HC.out)
    rw[show qd5 bs k' e'=ql0 true bs k' e' last.data.toList from rfl] at HT
    unfold qe2 at htf
    simp only at htf
    generalize ql0 true bs k' e' last.data.toList=R at *
    obtain⟨s0,k1,e1⟩:=R
    dsimp only at HT hel htf
    obtain⟨s,hs⟩:∃s:ByteArray,(⟨s0.toArray⟩:ByteArray)=s:=⟨_,rfl⟩
    have hsd:s0=s.data.toList:=by rw[←hs]
    rw[hs] at HT
    rw[hsd] at htf hel
    rw[qgp,qgp] at hel
    clear hs hsd
    go_wp2_with fail
    refine HT.out.mono ?_
    rintro r w2 ⟨rfl,hc2,hg2⟩
    have HC2:=qa hc2
    have HD2:=qa (HD.out.cur hg2 hgd)
    have HO2:Hid (Out w w2 (fun i=>i=g∨d≤i)):=HO.out.trans (Out.of_gb (X:=fun i=>i=g∨d≤i) hg2 (fun q hq=>by injection hq with hq;exact Or.inl hq.symm)) (fun _ _ h=>h)
    clear hc2 hg2 HT HC HD HO
    obtain⟨Aq,cq,hcq,hfq,hrq⟩:=HD2.out.open_
    have hzl:=HZL.out
    have HFO:=qa (qhi zs s hzl hrq (by omega))
    rw[hzl] at hcq
    clear hrq hzl
    have HL2:=qa (qcx HC2.out)
    have hgl:=@good_le (qt zs) s.data.toList
    rw[qgp] at hgl
    obtain⟨f1,hf1⟩:∃f1,qcz (qt zs) s.data.toList=f1:=⟨_,rfl⟩
    rw[hf1] at HFO htf hgl
    clear hf1
    obtain⟨l1,hl1⟩:∃l1:Nat,bs.length-k1=l1:=⟨_,rfl⟩
    rw[hl1] at HL2 htf
    clear hl1
    have HTF:=qa htf
    clear htf
    cases f1 with
    | false =>
     have htf:=HTF.out
     rw[if_neg (show ¬((false:Bool)=true∧E≤(l1:Int)) from fun h=>by cases h.1),if_neg (yp e1)] at htf
     subst htf
     go_wp2_with fail
     refine HFO.out.mono ?_
     rintro r w' ⟨rfl,rfl⟩
     go_wp2_with fail
     refine(ve 3 HC2.out).mono ?_
     rintro r w3 ⟨rfl,hc3,hg3⟩
     have HC3:Hid (xq w3 lo g bs k1 (jx e1)):=hc3
     have HD3:=qa (HD2.out.cur hg3 hgd)
     have HO3:Hid (Out w w3 (fun i=>i=g∨d≤i)):=HO2.out.trans (Out.of_gb (X:=fun i=>i=g∨d≤i) hg3 (fun q hq=>by injection hq with hq;exact Or.inl hq.symm)) (fun _ _ h=>h)
     have HGD:=qa (yq HC3.out)
     rw[show(jx e1==0)=false from q9.2 (yp e1)] at HGD
     clear hc3 hg3
     go_wp2_with fail
     refine HGD.out.mono ?_
     rintro r w' ⟨rfl,rfl⟩
     go_wp2_with fail
     refine bodyPost_ret (results_none rfl _ _ _) rfl ?_
     have hT:=HTT.out
     simp only[vw (yp e1),ite_self] at hT
     subst hT
     exact⟨rfl,zs,rfl,by rw[HZL.out,HY0.out];omega,HD3.out,HC3.out,HO3.out⟩
    | true =>
     have hs4:=hgl rfl
     clear hgl
     by_cases hE1:E≤(l1:Int)
     ·
      have iE:¬(l1:Int)<E:=by omega
      have dE:decide ((l1:Int)<E)=false:=qw iE
      have htf:=HTF.out
      rw[if_pos (show(true:Bool)=true∧E≤(l1:Int) from ⟨rfl,hE1⟩)] at htf
      by_cases he1:e1=0
      ·
       subst he1
       rw[if_pos rfl] at htf
       have HTF2:=qa htf
       have HGD:=qa (fun m=>yq (HC2.out.drewN m))
       rw[show((0:Int)==0)=true from rfl] at HGD
       clear htf HTF
       go_wp2_with fail
       refine HFO.out.mono ?_
       rintro r w' ⟨rfl,rfl⟩
       go_wp2_with fail
       refine HL2.out.mono ?_
       rintro r w' ⟨rfl,m3,rfl⟩
       go_wp2_with fail
       refine(HGD.out m3).mono ?_
       rintro r w' ⟨rfl,rfl⟩
       have hcq3:(w2.drewN m3).cell? ⟨d,0,none⟩=some (.slice Aq zs.length cq):=by rw[HZL.out];exact hcq
       obtain⟨A5,c5,w5,hrun5,hc5,hf5,hd5,hb5⟩:=(HD2.out.drewN m3).push hcq3 s (by rw[HZL.out];omega)
       rw[HZL.out] at hrun5 hc5 hd5 hb5
       have HD5:=qa hd5
       have HC5:=qa ((HC2.out.drewN m3).behind hb5 hgd)
       have HO5:Hid (Out w (w5.setCell ⟨d,0,none⟩ (.slice A5 (y0+i+1) c5)) (fun i=>i=g∨d≤i)):=(HO2.out.drewN m3).trans (Y:=fun i=>d≤i) ⟨hb5.os,hb5.tape,hb5.output,hb5.size,fun q _ hq2=>hb5.block q (by omega)⟩ (fun _ _ h=>Or.inr h)
       clear hd5 hb5 hcq3 HGD HL2 HFO
       go_wp2_with (at_builtin;refine wpList_append_run rfl _ _ _ _ rfl rfl rfl hrun5 ?_;refine qbj ?_)
       refine⟨?_⟩
       clear hrun5
       go_wp2_with fail
       go_roundw
       case rel=>exact⟨i+1,k1,0,s,zs++[s],by omega,by go_num,rfl,hs4,by rw[qd,HZL.out,zx];omega,by rw[HM.out,qw (p:=i+1=0) (by omega),bytL2_snoc];exact HTF2.out,HD5.out,HC5.out,HO5.out⟩
       case measure=>simp[intOf];omega
      ·
       rw[if_neg he1] at htf
       subst htf
       have HGD:=qa (fun m=>yq (HC2.out.drewN m))
       rw[show(e1==0)=false from q9.2 he1] at HGD
       go_wp2_with fail
       refine HFO.out.mono ?_
       rintro r w' ⟨rfl,rfl⟩
       go_wp2_with fail
       refine HL2.out.mono ?_
       rintro r w' ⟨rfl,m3,rfl⟩
       go_wp2_with fail
       refine(HGD.out m3).mono ?_
       rintro r w' ⟨rfl,rfl⟩
       go_wp2_with fail
       refine bodyPost_ret (results_none rfl _ _ _) rfl ?_
       have hT:=HTT.out
       simp only[vw he1,ite_self] at hT
       subst hT
       exact⟨rfl,zs,rfl,by rw[HZL.out,HY0.out];omega,HD2.out.drewN _,HC2.out.drewN _,HO2.out.drewN _⟩
     ·
      have iE:(l1:Int)<E:=by omega
      have dE:decide ((l1:Int)<E)=true:=qx iE
      have htf:=HTF.out
      rw[if_neg (show ¬((true:Bool)=true∧E≤(l1:Int)) from fun h=>hE1 h.2),if_neg (yp e1)] at htf
      subst htf
      go_wp2_with fail
      refine HFO.out.mono ?_
      rintro r w' ⟨rfl,rfl⟩
      go_wp2_with fail
      refine HL2.out.mono ?_
      rintro r w' ⟨rfl,m3,rfl⟩
      go_wp2_with fail
      refine(ve 3 (HC2.out.drewN m3)).mono ?_
      rintro r w3 ⟨rfl,hc3,hg3⟩
      have HC3:Hid (xq w3 lo g bs k1 (jx e1)):=hc3
      have HD3:=qa ((HD2.out.drewN m3).cur hg3 hgd)
      have HO3:Hid (Out w w3 (fun i=>i=g∨d≤i)):=(HO2.out.drewN m3).trans (Out.of_gb (X:=fun i=>i=g∨d≤i) hg3 (fun q hq=>by injection hq with hq;exact Or.inl hq.symm)) (fun _ _ h=>h)
      have HGD:=qa (yq HC3.out)
      rw[show(jx e1==0)=false from q9.2 (yp e1)] at HGD
      clear hc3 hg3
      go_wp2_with fail
      refine HGD.out.mono ?_
      rintro r w' ⟨rfl,rfl⟩
      go_wp2_with fail
      refine bodyPost_ret (results_none rfl _ _ _) rfl ?_
      have hT:=HTT.out
      simp only[vw (yp e1),ite_self] at hT
      subst hT
      exact⟨rfl,zs,rfl,by rw[HZL.out,HY0.out];omega,HD3.out,HC3.out,HO3.out⟩
   ·
    have i0:¬(i:Int)=0:=by omega
    have b0:((i:Int)==0)=false:=by rw[q9];exact i0
    rw[qw hi0] at htf
    have hel:=entR_len false bs k' e' last.data.toList
    have HT:=qa (fnext_any HC.out last (by omega))
    rw[show qfa bs k' e' last.data.toList=ql0 false bs k' e' last.data.toList from rfl] at HT
    unfold qe2 at htf
    simp only at htf
    generalize ql0 false bs k' e' last.data.toList=R at *
    obtain⟨s0,k1,e1⟩:=R
    dsimp only at HT hel htf
    go_wp2_with fail
    refine HT.out.mono ?_
    rintro r w2 ⟨s,rfl,hsd,hc2,hg2⟩
    rw[←hsd] at htf hel
    rw[qgp,qgp] at hel
    clear hsd
    have HC2:=qa hc2
    have HD2:=qa (HD.out.cur hg2 hgd)
    have HO2:Hid (Out w w2 (fun i=>i=g∨d≤i)):=HO.out.trans (Out.of_gb (X:=fun i=>i=g∨d≤i) hg2 (fun q hq=>by injection hq with hq;exact Or.inl hq.symm)) (fun _ _ h=>h)
    clear hc2 hg2 HT HC HD HO
    obtain⟨Aq,cq,hcq,hfq,hrq⟩:=HD2.out.open_
    have hzl:=HZL.out
    have HFO:=qa (qhi zs s hzl hrq (by omega))
    rw[hzl] at hcq
    clear hrq hzl
    have HL2:=qa (qcx HC2.out)
    have hgl:=@good_le (qt zs) s.data.toList
    rw[qgp] at hgl
    obtain⟨f1,hf1⟩:∃f1,qcz (qt zs) s.data.toList=f1:=⟨_,rfl⟩
    rw[hf1] at HFO htf hgl
    clear hf1
    obtain⟨l1,hl1⟩:∃l1:Nat,bs.length-k1=l1:=⟨_,rfl⟩
    rw[hl1] at HL2 htf
    clear hl1
    have HTF:=qa htf
    clear htf
    cases f1 with
    | false =>
     have htf:=HTF.out
     rw[if_neg (show ¬((false:Bool)=true∧E≤(l1:Int)) from fun h=>by cases h.1),if_neg (yp e1)] at htf
     subst htf
     go_wp2_with fail
     refine HFO.out.mono ?_
     rintro r w' ⟨rfl,rfl⟩
     go_wp2_with fail
     refine(ve 3 HC2.out).mono ?_
     rintro r w3 ⟨rfl,hc3,hg3⟩
     have HC3:Hid (xq w3 lo g bs k1 (jx e1)):=hc3
     have HD3:=qa (HD2.out.cur hg3 hgd)
     have HO3:Hid (Out w w3 (fun i=>i=g∨d≤i)):=HO2.out.trans (Out.of_gb (X:=fun i=>i=g∨d≤i) hg3 (fun q hq=>by injection hq with hq;exact Or.inl hq.symm)) (fun _ _ h=>h)
     have HGD:=qa (yq HC3.out)
     rw[show(jx e1==0)=false from q9.2 (yp e1)] at HGD
     clear hc3 hg3
     go_wp2_with fail
     refine HGD.out.mono ?_
     rintro r w' ⟨rfl,rfl⟩
     go_wp2_with fail
     refine bodyPost_ret (results_none rfl _ _ _) rfl ?_
     have hT:=HTT.out
     simp only[vw (yp e1),ite_self] at hT
     subst hT
     exact⟨rfl,zs,rfl,by rw[HZL.out,HY0.out];omega,HD3.out,HC3.out,HO3.out⟩
    | true =>
     have hs4:=hgl rfl
     clear hgl
     by_cases hE1:E≤(l1:Int)
     ·
      have iE:¬(l1:Int)<E:=by omega
      have dE:decide ((l1:Int)<E)=false:=qw iE
      have htf:=HTF.out
      rw[if_pos (show(true:Bool)=true∧E≤(l1:Int) from ⟨rfl,hE1⟩)] at htf
      by_cases he1:e1=0
      ·
       subst he1
       rw[if_pos rfl] at htf
       have HTF2:=qa htf
       have HGD:=qa (fun m=>yq (HC2.out.drewN m))
       rw[show((0:Int)==0)=true from rfl] at HGD
       clear htf HTF
       go_wp2_with fail
       refine HFO.out.mono ?_
       rintro r w' ⟨rfl,rfl⟩
       go_wp2_with fail
       refine HL2.out.mono ?_
       rintro r w' ⟨rfl,m3,rfl⟩
       go_wp2_with fail
       refine(HGD.out m3).mono ?_
       rintro r w' ⟨rfl,rfl⟩
       have hcq3:(w2.drewN m3).cell? ⟨d,0,none⟩=some (.slice Aq zs.length cq):=by rw[HZL.out];exact hcq
       obtain⟨A5,c5,w5,hrun5,hc5,hf5,hd5,hb5⟩:=(HD2.out.drewN m3).push hcq3 s (by rw[HZL.out];omega)
       rw[HZL.out] at hrun5 hc5 hd5 hb5
       have HD5:=qa hd5
       have HC5:=qa ((HC2.out.drewN m3).behind hb5 hgd)
       have HO5:Hid (Out w (w5.setCell ⟨d,0,none⟩ (.slice A5 (y0+i+1) c5)) (fun i=>i=g∨d≤i)):=(HO2.out.drewN m3).trans (Y:=fun i=>d≤i) ⟨hb5.os,hb5.tape,hb5.output,hb5.size,fun q _ hq2=>hb5.block q (by omega)⟩ (fun _ _ h=>Or.inr h)
       clear hd5 hb5 hcq3 HGD HL2 HFO
       go_wp2_with (at_builtin;refine wpList_append_run rfl _ _ _ _ rfl rfl rfl hrun5 ?_;refine qbj ?_)
       refine⟨?_⟩
       clear hrun5
       go_wp2_with fail
       go_roundw
       case rel=>exact⟨i+1,k1,0,s,zs++[s],by omega,by go_num,rfl,hs4,by rw[qd,HZL.out,zx];omega,by rw[HM.out,qw (p:=i+1=0) (by omega),bytL2_snoc];exact HTF2.out,HD5.out,HC5.out,HO5.out⟩
       case measure=>simp[intOf];omega
      ·
       rw[if_neg he1] at htf
       subst htf
       have HGD:=qa (fun m=>yq (HC2.out.drewN m))
       rw[show(e1==0)=false from q9.2 he1] at HGD
       go_wp2_with fail
       refine HFO.out.mono ?_
       rintro r w' ⟨rfl,rfl⟩
       go_wp2_with fail
       refine HL2.out.mono ?_
       rintro r w' ⟨rfl,m3,rfl⟩
       go_wp2_with fail
       refine(HGD.out m3).mono ?_
       rintro r w' ⟨rfl,rfl⟩
       go_wp2_with fail
       refine bodyPost_ret (results_none rfl _ _ _) rfl ?_
       have hT:=HTT.out
       simp only[vw he1,ite_self] at hT
       subst hT
       exact⟨rfl,zs,rfl,by rw[HZL.out,HY0.out];omega,HD2.out.drewN _,HC2.out.drewN _,HO2.out.drewN _⟩
     ·
      have iE:(l1:Int)<E:=by omega
      have dE:decide ((l1:Int)<E)=true:=qx iE
      have htf:=HTF.out
      rw[if_neg (show ¬((true:Bool)=true∧E≤(l1:Int)) from fun h=>hE1 h.2),if_neg (yp e1)] at htf
      subst htf
      go_wp2_with fail
      refine HFO.out.mono ?_
      rintro r w' ⟨rfl,rfl⟩
      go_wp2_with fail
      refine HL2.out.mono ?_
      rintro r w' ⟨rfl,m3,rfl⟩
      go_wp2_with fail
      refine(ve 3 (HC2.out.drewN m3)).mono ?_
      rintro r w3 ⟨rfl,hc3,hg3⟩
      have HC3:Hid (xq w3 lo g bs k1 (jx e1)):=hc3
      have HD3:=qa ((HD2.out.drewN m3).cur hg3 hgd)
      have HO3:Hid (Out w w3 (fun i=>i=g∨d≤i)):=(HO2.out.drewN m3).trans (Out.of_gb (X:=fun i=>i=g∨d≤i) hg3 (fun q hq=>by injection hq with hq;exact Or.inl hq.symm)) (fun _ _ h=>h)
      have HGD:=qa (yq HC3.out)
      rw[show(jx e1==0)=false from q9.2 (yp e1)] at HGD
      clear hc3 hg3
      go_wp2_with fail
      refine HGD.out.mono ?_
      rintro r w' ⟨rfl,rfl⟩
      go_wp2_with fail
      refine bodyPost_ret (results_none rfl _ _ _) rfl ?_
      have hT:=HTT.out
      simp only[vw (yp e1),ite_self] at hT
      subst hT
      exact⟨rfl,zs,rfl,by rw[HZL.out,HY0.out];omega,HD3.out,HC3.out,HO3.out⟩
  ·
   have ik:¬(i:Int)<(n:Int):=by omega
   have hin:n-i=0:=by omega
   have htf:=HTF.out
   rw[hin,qd6] at htf
   subst htf
   have HLF:=qa (qcx HC.out)
   obtain⟨l1,hl1⟩:∃l1:Nat,bs.length-k'=l1:=⟨_,rfl⟩
   have hT:=HTT.out
   dsimp only at hT
   rw[hl1] at HLF hT
   clear hl1 hin HTF
   by_cases hle:(l1:Int)=E
   ·
    rw[if_pos hle] at hT
    subst hT
    have bl:((l1:Int)==E)=true:=by rw[beq_iff_eq];exact hle
    go_wp2_with fail
    refine HLF.out.mono ?_
    rintro r w' ⟨rfl,m3,rfl⟩
    go_wp2_with fail
    go_end0
    exact⟨rfl,zs,rfl,by rw[HZL.out,HY0.out];omega,HD.out.drewN _,HC.out.drewN _,HO.out.drewN _⟩
   ·
    rw[if_neg hle] at hT
    subst hT
    have bl:((l1:Int)==E)=false:=by rw[q9];exact hle
    go_wp2_with fail
    refine HLF.out.mono ?_
    rintro r w' ⟨rfl,m3,rfl⟩
    go_wp2_with fail
    refine(ve 3 (HC.out.drewN m3)).mono ?_
    rintro r w3 ⟨rfl,hc3,hg3⟩
    have HC3:=qa hc3
    have HD3:=qa ((HD.out.drewN m3).cur hg3 hgd)
    have HO3:Hid (Out w w3 (fun i=>i=g∨d≤i)):=(HO.out.drewN m3).trans (Out.of_gb (X:=fun i=>i=g∨d≤i) hg3 (fun q hq=>by injection hq with hq;exact Or.inl hq.symm)) (fun _ _ h=>h)
    clear hc3 hg3
    go_wp2_with fail
    go_end0
    exact⟨rfl,zs,rfl,by rw[HZL.out,HY0.out];omega,HD3.out,HC3.out,HO3.out⟩
theorem read_ne(bs:List UInt8)(k:Nat)(e m:Int)(h:(ue bs k e m).1≠[]):(ue bs k e m).2.2=0:=by
 unfold ue qcd qbk at h ⊢
 split at h
 ·
  exact absurd rfl h
 ·
  rename_i h1
  rw[if_neg h1]
  split at h
  ·
   rename_i h2
   rw[if_pos h2]
  ·
   exact absurd rfl h
theorem read_bounds{bs:List UInt8}{k:Nat}(e:Int){m:Nat}(hk:k≤bs.length)(hm:m≤2147483647):(ue bs k e (m:Int)).1.length≤m∧∀x∈(ue bs k e (m:Int)).1,x≤4294967295:=by
 by_cases h:(ue bs k e (m:Int)).1=[]
 ·
  rw[h]
  exact⟨by simp,fun x hx=>by cases hx⟩
 ·
  have h0:=read_ne bs k e m h
  have he:e=0:=Decidable.byContradiction fun hne=>h (by rw[qid _ _ _ hne])
  subst he
  obtain⟨R,hR⟩:∃R,ue bs k 0 (m:Int)=R:=⟨_,rfl⟩
  rw[hR] at h0 ⊢
  obtain⟨ns,k2,e2⟩:=R
  dsimp only at h0
  subst h0
  obtain⟨g1,g2, -⟩:=qgx hk hm hR
  refine⟨g1,fun x hx => ?_⟩
  have:=g2 (x:Int) (vx hx)
  omega
theorem blocks_i64{count K:Nat}(hK:1≤K):((count:Int)+(K:Int)-1).tdiv (K:Int)=(vz count K:Int):=by
 have e:(count:Int)+(K:Int)-1=((count+K-1:Nat):Int):=by omega
 rw[e,←Int.ofNat_tdiv]
 rfl
theorem Dc.nil(w:World):Dc (w.alloc (.cells #[.slice none 0 0] 243)) w.heap.size []:=⟨none,0,j8.new _ _ _,zj _ _ _ _⟩
theorem fopen_any{w:World}{lo g k:Nat}{bs:List UInt8}{e:Int}(hc:xq w lo g bs k e)(hbs:bs.length≤1000000000) :
  Calls Tryz.prog 167 #[cp g] w fun r w'=>∃(d:Nat) (ys:List ByteArray),r= .returned (.pointer (some ⟨d,0,none⟩))∧qt ys=(qaw bs k e).1∧Dc w' d ys∧w.heap.size≤d∧
   xq w' lo g bs (qaw bs k e).2.1 (qaw bs k e).2.2∧w.grownBy w' (some g):=by
 have hgl:=hc.lt
 have hm1:=qbb bs k e 4096
 have HM1:=qa (qcv 4096 hc)
 unfold qaw
 generalize z8 bs k e 4096=C at *
 obtain⟨count,k1,e1⟩:=C
 dsimp only at HM1 hm1 ⊢
 have hm2:=qbb bs k1 e1 64
 have HM2:=fun(w1:World) (h1:xq w1 lo g bs k1 e1)=>qa (qcv 64 h1)
 generalize z8 bs k1 e1 64=D at *
 obtain⟨K,k2,e2⟩:=D
 dsimp only at HM2 hm2 ⊢
 have hcount:count≤4096:=by omega
 have hK64:K≤64:=by omega
 have HF:=qa (fun w=>ffits_any (w:=w) (K:Int))
 clear hm1 hm2 hc
 unfold openK
 by_cases hK:1≤K∧K≤64
 ·
  rw[if_pos hK]
  rw[qx (show(1:Int)≤(K:Int)∧(K:Int)≤64 by omega)] at HF
  obtain⟨OM,hOM⟩:∃OM,qku bs count K k2 e2=OM:=⟨_,rfl⟩
  rw[hOM]
  unfold qku at hOM
  obtain⟨nb,hnb⟩:∃nb,vz count K=nb:=⟨_,rfl⟩
  have hnbc:nb≤count:=by rw[←hnb];exact ql5 hK.1
  have hq1:=blocks_i64 (count:=count) hK.1
  have HBL:Hid (∀q,q<nb→q*K<count):=fun q hq=>qg7 hK.1 (by rw[hnb];exact hq)
  rw[hnb] at hOM hq1
  have HRD:=fun(w1:World) (h1:xq w1 lo g bs k2 e2)=>qa (qlp (nb:Int) h1 (by omega))
  have hrb:=fun hk=>read_bounds (bs:=bs) (k:=k2) e2 (m:=nb) hk (by omega)
  generalize ue bs k2 e2 (nb:Int)=R at *
  obtain⟨ns,k3,e3⟩:=R
  dsimp only at HRD hrb hOM
  obtain⟨e4,he4⟩:∃e4,(if ns.length=nb then e3 else jx e3)=e4:=⟨_,rfl⟩
  rw[he4] at hOM
  have HOM:=qa hOM
  have HE4:=qa he4
  have hK0:¬(K:Int)=0:=by omega
  clear hOM he4 hnb
  unfold cp at *
  go_enter Tryz.func167,Tryz.ntmps167
  go_wp2_with fail
  refine HM1.out.mono ?_
  rintro r w1 ⟨rfl,hc1,hg1⟩
  have HG1:=qa hg1
  have H2:=HM2 w1 hc1
  clear hg1 hc1 HM1 HM2
  go_wp2_with fail
  refine H2.out.mono ?_
  rintro r w2 ⟨rfl,hc2,hg2⟩
  have HG2:=qa (HG1.out.trans hg2)
  have H3:=HRD w2 hc2
  have hrb2:=hrb hc2.le
  clear hg2 hc2 H2 HRD HG1 hrb
  go_wp2_with fail
  refine(HF.out _).mono ?_
  rintro r w' ⟨rfl,rfl⟩
  go_wp2_with fail
  refine H3.out.mono ?_
  rintro r w3 ⟨A3,c3,rfl,ho3,hc3,hg3⟩
  have HO3:=qa ho3
  have HG3:=qa (HG2.out.trans hg3)
  by_cases hnn:ns.length=nb
  ·
   have he4:e3=e4:=by have:=HE4.out;rw[if_pos hnn] at this;exact this
   rw[he4] at hc3
   have bn:((ns.length:Int)==(nb:Int))=true:=by rw[beq_iff_eq];omega
   have bn2:((ns.length:Int) != (nb:Int))=false:=by rw[bne,bn];rfl
   have HC4:=qa hc3
   have HO4:=qa HO3.out
   have HG4:=qa HG3.out
   have HNN:=qa hnn
   clear HO3 HG3 hc3 ho3 hg3 H3 he4 hnn
   obtain⟨hnl,hnx⟩:=hrb2
   have HNX:=qa hnx
   have hgv:g<w3.heap.size:=by have:=HG4.out.size;omega
   have hsz2:w.heap.size≤w3.heap.size:=HG4.out.size
   have HD0:=qa (Dc.nil w3)
   have HC0:Hid (xq (w3.alloc (.cells #[.slice none 0 0] 243)) lo g bs k3 e4):=HC4.out.grown (World.grownBy_alloc w3 _ none) (fun x hx=>by cases hx)
   have HRW:=qa (Rd.of_own HO4.out)
   have hO0:Hid (Out w3 (w3.alloc (.cells #[.slice none 0 0] 243)) (fun i=>i=g∨w3.heap.size≤i)):=(Out.refl w3 _).alloc _
   obtain⟨W0,hW0⟩:∃W0,w3.alloc (.cells #[.slice none 0 0] 243)=W0:=⟨_,rfl⟩
   rw[hW0] at HD0 HC0 hO0
   have HNL:Hid (ns.length≤nb):=hnl
   have hnl2:ns.length≤4096:=by omega
   have hg2s:g<w2.heap.size:=by have:=HG2.out.size;omega
   clear hnx hnl HC4 HO4 hq1
   go_wp2_with fail
   clear hW0
   go_loopw [40] (fun x40 wr=>∃(j k':Nat) (e':Int) (zs:List ByteArray),j≤ns.length∧x40= .int .i64 (j:Int)∧zs.length≤64*j∧qe9 bs count K (ns.drop j) j (qt zs) k' e'=OM∧
    Dc wr w3.heap.size zs∧xq wr lo g bs k' e'∧Out w3 wr (fun i=>i=g∨w3.heap.size≤i)) (fun j _=>ns.length-(intOf j).toNat)
   case atStart=>exact⟨0,k3,e4,[],qj _,rfl,by simp,by rw[jv];exact HOM.out,HD0.out,HC0.out,hO0.out⟩
   case round =>
    clear HD0 HC0 hO0 HOM
    obtain⟨j,k',e',zs,hj,rfl,hzl,hob,hdc,hcur,hout⟩:=hrel
    have HOB:=qa hob
    have HD:=qa hdc
    have HC:=qa hcur
    have HOO:=qa hout
    clear hob hdc hcur hout
    by_cases hlt:j<ns.length
    ·
     have ij:(j:Int)<(ns.length:Int):=by omega
     have hjc:j*K<count:=HBL.out j (zh hlt HNL.out)
     have hz:=HNX.out ns[j] (ql hlt)
     obtain⟨b,off,rfl,_,_,hcell⟩:=(HRW.out.out HOO.out (qc _) (fun q h1 h2 h3=>by rcases h3 with h3 | h3 <;> omega)).num (k:=j) (by rw[zq];exact hlt)
     have hze:(jf ns)[j]'(by rw[zq];exact hlt)=((ns[j]:Nat):Int):=by simp[jf]
     rw[hze] at hcell
     have hob:=HOB.out
     rw[ja hlt,qe9] at hob
     obtain⟨q,hq⟩:∃q,min K (count-j*K)=q:=⟨_,rfl⟩
     have hqK:q≤64:=by omega
     have HTK:=qa (ftake_any HC.out HD.out hgv q ns[j] hqK hz (by omega) (by omega))
     rw[hq] at hob
     generalize qez bs (qt zs) k' e' q ns[j]=T at *
     generalize ns[j]=z at *
     have HOB2:=qa hob
     obtain⟨p,hp⟩:∃p,j*K=p:=⟨_,rfl⟩
     have hp1:(j:Int)*(K:Int)=(p:Int):=by rw[←hp];exact(qan j K).symm
     have hp2:IntKind.i64.wrap ((j:Int)*(K:Int))=(p:Int):=by rw[hp1];exact xa _ (by omega)
     have hp3:IntKind.i64.wrap ((count:Int)-(p:Int))=(count:Int)-(p:Int):=xa _ (by omega)
     have hmin:min (K:Int) ((count:Int)-(p:Int))=(q:Int):=by omega
     clear hob hq hp HC HD HOB
     go_wp2_with fail
     refine HTK.out.mono ?_
     rintro r w5 ⟨rfl,ys',hy1,hy2,hd5,hc5,ho5⟩
     rw[←hy1] at HOB2
     have HOB5:=qa HOB2.out
     have HD5:=qa hd5
     have HC5:=qa hc5
     have HO5:Hid (Out w3 w5 (fun i=>i=g∨w3.heap.size≤i)):=HOO.out.trans ho5 (fun _ _ h=>h)
     clear hy1 hd5 hc5 ho5 hp1 hp2 hp3 hmin
     go_wp2_with fail
     go_roundw
     case rel=>exact⟨j+1,T.2.1,T.2.2,ys',by omega,by go_num,by omega,HOB5.out,HD5.out,HC5.out,HO5.out⟩
     case measure=>simp[intOf];omega
    ·
     have ij:¬(j:Int)<(ns.length:Int):=by omega
     have hob:=HOB.out
     rw[List.drop_eq_nil_of_le (by omega),qe9] at hob
     subst hob
     have HGD:=qa (yq HC.out)
     have hgw:w.grownBy wr (some g):=HG4.out.trans ⟨HOO.out.os,HOO.out.tape,HOO.out.output,HOO.out.size,fun q h1 h2=>HOO.out.block q h1 (fun h3=>by
      rcases h3 with h3 | h3
      ·
       exact h2 (by rw[h3])
      ·
       omega)⟩
     have HGW:=qa hgw
     clear hgw HOB
     by_cases he:e'=0
     ·
      subst he
      rw[show((0:Int)==0)=true from rfl] at HGD
      go_wp2_with fail
      refine HGD.out.mono ?_
      rintro r w' ⟨rfl,rfl⟩
      go_wp2_with fail
      go_ret
      exact⟨w3.heap.size,rfl,zs,rfl,HD.out,hsz2,HC.out,HGW.out⟩
     ·
      rw[show(e'==0)=false from q9.2 he] at HGD
      go_wp2_with fail
      refine HGD.out.mono ?_
      rintro r w' ⟨rfl,rfl⟩
      go_wp2_with fail
      go_ret
      have HCN:xq (wr.alloc (.cells #[.slice none 0 0] 243)) lo g bs k' e':=HC.out.grown (World.grownBy_alloc wr _ none) (fun x hx=>by cases hx)
      exact⟨wr.heap.size,rfl,[],by first | rfl | (rw[if_neg he];rfl),Dc.nil wr,HGW.out.size,by first | exact HCN | (rw[if_neg he];exact HCN),va HGW.out _⟩
  ·
   have he4:jx e3=e4:=by have:=HE4.out;rw[if_neg hnn] at this;exact this
   have bn:((ns.length:Int)==(nb:Int))=false:=by rw[q9];omega
   have HFA:=qa (ve 3 hc3)
   rw[orForm_fail,he4] at HFA
   clear hc3 ho3 hg3 H3 he4
   go_wp2_with fail
   refine HFA.out.mono ?_
   rintro r wv ⟨rfl,hc4,hg4⟩
   have HC4:=qa hc4
   have HO4:Hid (wv.ownsRow w2.heap.size 3 1 (.slice A3 ns.length c3) ns.length (iv (jf ns))):=jw HO3.out (fun q hq=>hg4.block q (zk HO3.out hq).2 (fun e=>by injection e with e;have:=(zk HO3.out hq).1;have:=HG2.out.size;omega))
   have HG4:=qa (HG3.out.trans hg4)
   clear hc4 hg4 HFA HO3 HG3
   obtain⟨hnl,hnx⟩:=hrb2
   have HNX:=qa hnx
   have hgv:g<wv.heap.size:=by have:=HG4.out.size;omega
   have hsz2:w.heap.size≤wv.heap.size:=HG4.out.size
   have HD0:=qa (Dc.nil wv)
   have HC0:Hid (xq (wv.alloc (.cells #[.slice none 0 0] 243)) lo g bs k3 e4):=HC4.out.grown (World.grownBy_alloc wv _ none) (fun x hx=>by cases hx)
   have HRW:=qa (Rd.of_own HO4.out)
   have hO0:Hid (Out wv (wv.alloc (.cells #[.slice none 0 0] 243)) (fun i=>i=g∨wv.heap.size≤i)):=(Out.refl wv _).alloc _
   obtain⟨W0,hW0⟩:∃W0,wv.alloc (.cells #[.slice none 0 0] 243)=W0:=⟨_,rfl⟩
   rw[hW0] at HD0 HC0 hO0
   have HNL:Hid (ns.length≤nb):=hnl
   have hnl2:ns.length≤4096:=by omega
   have hg2s:g<w2.heap.size:=by have:=HG2.out.size;omega
   clear hnx hnl HC4 HO4 hq1
   go_wp2_with fail
   clear hW0
   go_loopw [40] (fun x40 wr=>∃(j k':Nat) (e':Int) (zs:List ByteArray),j≤ns.length∧x40= .int .i64 (j:Int)∧zs.length≤64*j∧qe9 bs count K (ns.drop j) j (qt zs) k' e'=OM∧
    Dc wr wv.heap.size zs∧xq wr lo g bs k' e'∧Out wv wr (fun i=>i=g∨wv.heap.size≤i)) (fun j _=>ns.length-(intOf j).toNat)
   case atStart=>exact⟨0,k3,e4,[],qj _,rfl,by simp,by rw[jv];exact HOM.out,HD0.out,HC0.out,hO0.out⟩
   case round =>
    clear HD0 HC0 hO0 HOM
    obtain⟨j,k',e',zs,hj,rfl,hzl,hob,hdc,hcur,hout⟩:=hrel
    have HOB:=qa hob
    have HD:=qa hdc
    have HC:=qa hcur
    have HOO:=qa hout
    clear hob hdc hcur hout
    by_cases hlt:j<ns.length
    ·
     have ij:(j:Int)<(ns.length:Int):=by omega
     have hjc:j*K<count:=HBL.out j (zh hlt HNL.out)
     have hz:=HNX.out ns[j] (ql hlt)
     obtain⟨b,off,rfl,_,_,hcell⟩:=(HRW.out.out HOO.out (qc _) (fun q h1 h2 h3=>by rcases h3 with h3 | h3 <;> omega)).num (k:=j) (by rw[zq];exact hlt)
     have hze:(jf ns)[j]'(by rw[zq];exact hlt)=((ns[j]:Nat):Int):=by simp[jf]
     rw[hze] at hcell
     have hob:=HOB.out
     rw[ja hlt,qe9] at hob
     obtain⟨q,hq⟩:∃q,min K (count-j*K)=q:=⟨_,rfl⟩
     have hqK:q≤64:=by omega
     have HTK:=qa (ftake_any HC.out HD.out hgv q ns[j] hqK hz (by omega) (by omega))
     rw[hq] at hob
     generalize qez bs (qt zs) k' e' q ns[j]=T at *
     generalize ns[j]=z at *
     have HOB2:=qa hob
     obtain⟨p,hp⟩:∃p,j*K=p:=⟨_,rfl⟩
     have hp1:(j:Int)*(K:Int)=(p:Int):=by rw[←hp];exact(qan j K).symm
     have hp2:IntKind.i64.wrap ((j:Int)*(K:Int))=(p:Int):=by rw[hp1];exact xa _ (by omega)
     have hp3:IntKind.i64.wrap ((count:Int)-(p:Int))=(count:Int)-(p:Int):=xa _ (by omega)
     have hmin:min (K:Int) ((count:Int)-(p:Int))=(q:Int):=by omega
     clear hob hq hp HC HD HOB
     go_wp2_with fail
     refine HTK.out.mono ?_
     rintro r w5 ⟨rfl,ys',hy1,hy2,hd5,hc5,ho5⟩
     rw[←hy1] at HOB2
     have HOB5:=qa HOB2.out
     have HD5:=qa hd5
     have HC5:=qa hc5
     have HO5:Hid (Out wv w5 (fun i=>i=g∨wv.heap.size≤i)):=HOO.out.trans ho5 (fun _ _ h=>h)
     clear hy1 hd5 hc5 ho5 hp1 hp2 hp3 hmin
     go_wp2_with fail
     go_roundw
     case rel=>exact⟨j+1,T.2.1,T.2.2,ys',by omega,by go_num,by omega,HOB5.out,HD5.out,HC5.out,HO5.out⟩
     case measure=>simp[intOf];omega
    ·
     have ij:¬(j:Int)<(ns.length:Int):=by omega
     have hob:=HOB.out
     rw[List.drop_eq_nil_of_le (by omega),qe9] at hob
     subst hob
     have HGD:=qa (yq HC.out)
     have hgw:w.grownBy wr (some g):=HG4.out.trans ⟨HOO.out.os,HOO.out.tape,HOO.out.output,HOO.out.size,fun q h1 h2=>HOO.out.block q h1 (fun h3=>by
      rcases h3 with h3 | h3
      ·
       exact h2 (by rw[h3])
      ·
       omega)⟩
     have HGW:=qa hgw
     clear hgw HOB
     by_cases he:e'=0
     ·
      subst he
      rw[show((0:Int)==0)=true from rfl] at HGD
      go_wp2_with fail
      refine HGD.out.mono ?_
      rintro r w' ⟨rfl,rfl⟩
      go_wp2_with fail
      go_ret
      exact⟨wv.heap.size,rfl,zs,rfl,HD.out,hsz2,HC.out,HGW.out⟩
     ·
      rw[show(e'==0)=false from q9.2 he] at HGD
      go_wp2_with fail
      refine HGD.out.mono ?_
      rintro r w' ⟨rfl,rfl⟩
      go_wp2_with fail
      go_ret
      have HCN:xq (wr.alloc (.cells #[.slice none 0 0] 243)) lo g bs k' e':=HC.out.grown (World.grownBy_alloc wr _ none) (fun x hx=>by cases hx)
      exact⟨wr.heap.size,rfl,[],by first | rfl | (rw[if_neg he];rfl),Dc.nil wr,HGW.out.size,by first | exact HCN | (rw[if_neg he];exact HCN),va HGW.out _⟩
 ·
  rw[if_neg hK]
  rw[qw (show ¬((1:Int)≤(K:Int)∧(K:Int)≤64) by omega)] at HF
  unfold cp at *
  go_enter Tryz.func167,Tryz.ntmps167
  go_wp2_with fail
  refine HM1.out.mono ?_
  rintro r w1 ⟨rfl,hc1,hg1⟩
  have HG1:=qa hg1
  have H2:=HM2 w1 hc1
  clear hg1 hc1 HM1 HM2
  go_wp2_with fail
  refine H2.out.mono ?_
  rintro r w2 ⟨rfl,hc2,hg2⟩
  have HG2:=qa (HG1.out.trans hg2)
  have HC2:=qa hc2
  clear hg2 hc2 H2 HG1
  go_wp2_with fail
  refine(HF.out _).mono ?_
  rintro r w' ⟨rfl,rfl⟩
  go_wp2_with fail
  refine(ve 3 HC2.out).mono ?_
  rintro r w3 ⟨rfl,hc3,hg3⟩
  have HC3:Hid (xq w3 lo g bs k2 (jx e2)):=hc3
  have HG3:=qa (HG2.out.trans hg3)
  clear hc3 hg3 HC2 HG2
  go_wp2_with fail
  go_ret
  refine⟨w3.heap.size,[],rfl,rfl,Dc.nil w3,HG3.out.size,HC3.out.grown (World.grownBy_alloc w3 _ none) (fun x hx=>by cases hx),va HG3.out _⟩
end Go.Proofs.YtjfecojdagmacaaGreat
