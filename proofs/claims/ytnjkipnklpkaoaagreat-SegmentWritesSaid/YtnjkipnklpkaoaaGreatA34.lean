/-
  Lemmas.
-/
import Derived.Test.YtnjkipnklpkaoaaGreatA33
namespace Go.Proofs.YtnjkipnklpkaoaaGreat
open Go.RowKit
set_option maxRecDepth 20000
set_option maxHeartbeats 16000000
set_option linter.unusedSimpArgs false
set_option linter.unusedVariables false
theorem qr0{ops:Array Oper}{rest:List Oper}{o:Oper}{a:Act}{w:World}{Q:Exit→Act→World→Prop}(e:Vl)(hg:o.guard=none)(x:Operand)(ho:o.op= .buildSlice 61 1 #[(0,x)])(hx:a.eval x= .agg (qcn e).toArray)
  (h:wpList Tryz.prog ops Q rest (a.put o.dst (.slice (some ⟨w.heap.size,0,none⟩) 1 1)) (w.alloc (.cells (qcn e).toArray 60))):wpList Tryz.prog ops Q (o :: rest) a w:=by
 obtain⟨i0,hi0,hz0,hz1,hz2⟩:=info_parts Tryz.infoVal
 refine wpList_buildSlice hg _ _ 1 _ ho (qcn e).toArray i0 _ Tryz.underlying61 hi0 hz0 (by rw[hz1];omega) (by rw[hz1];omega) ?_ h
 have hf:=Great.fill_whole (s:=2) (by omega) [.agg (qcn e).toArray] ((Array.range (1*2)).map ((Value.agg #[.bool false,.string ⟨#[]⟩]).cells[· % (Value.agg #[.bool false,.string ⟨#[]⟩]).cells.size]!)) (fun u hu=>by
  rw[zo.1 hu]
  rfl) (by simp)
 have e1:([Value.agg (qcn e).toArray].flatMap fun u=>u.cells.toList).toArray=(qcn e).toArray:=by
  show((qcn e).toArray.toList++[]).toArray=(qcn e).toArray
  rw[jj]
 rw[e1] at hf
 rw[hz1]
 simp only[List.map_toArray,ym,uq,hx]
 exact hf
theorem vv_snoc(es:List Vl)(e:Vl):vv (es++[e])=vv es++qcn e:=by simp[vv]
theorem qrz{ops:Array Oper}{rest:List Oper}{o:Oper}{a:Act}{Q:Exit→Act→World→Prop}{w:World}{v:Value}{g n:Nat}(base:Nat)(es:List Vl)(e:Vl)(hn:es.length=n)(hgd:o.guard=none)(s x:Operand)
  (ho:o.op= .call { callee:= .builtin .append,args:=#[s,x],argTypes:=#[61,61] }) (hty:o.type=61)
  (hs:a.eval s=v) (hx:a.eval x= .slice (some ⟨g,0,none⟩) 1 1) (hc0:w.cell? ⟨g,0,none⟩=some (.bool e.null)) (hc1:w.cell? ⟨g,1,none⟩=some (.string e.s))
  (hown:w.ownsRow base 60 2 v n (vv es)) (hb:n+1≤1000000000) (hbase:base≤w.heap.size)
  (h:∀A' c' w',w'.ownsRow base 60 2 (.slice A' (n+1) c') (n+1) (vv (es++[e]))→w.grownBy w' v.ownBlock→((Value.slice A' (n+1) c').ownBlock=v.ownBlock∨(Value.slice A' (n+1) c').ownBlock=some w.heap.size)→wpList Tryz.prog ops Q rest (a.put o.dst (.slice A' (n+1) c')) w') :
  wpList Tryz.prog ops Q (o :: rest) a w:=by
 subst hn
 obtain⟨i0,hi0,hz0,hz1,hz2⟩:=info_parts Tryz.infoVal
 have hcells:∀j u,(qcn e)[j]? = some u→w.cell? ⟨g,j,none⟩=some u:=fun j u hu=>by
  match j,hu with
  | 0,hu=>simp[qcn] at hu;subst hu;exact hc0
  | 1,hu=>simp[qcn] at hu;subst hu;exact hc1
  | j+2,hu=>simp[qcn] at hu
 obtain⟨v',w',hrun,h2,h3,_,h5⟩:=run_append_own_at (P:=Tryz.prog) w base 61 61 60 i0 _ 2 24 Tryz.underlying61 hi0 hz0 hz1 hz2 rfl (by omega) v es.length (vv es) hown ⟨g,0,none⟩ 1 1 (qcn e) rfl
  (fun j u hu=>by
   have:=hcells j u hu
   rwa [show(⟨g,j,none⟩:Addr)=(⟨g,0,none⟩:Addr).add j from by unfold Addr.add;by_cases h0:j=0 <;> simp[h0]] at this) (fun u hu=>by
    rcases jc.1 hu with rfl | hu
    ·
     rfl
    ·
     rw[zo.1 hu]
     rfl) (by simp only[maxLen];omega) (by omega) hbase
 obtain⟨A',c',rfl,_⟩:=qd3 w' h2
 refine wpList_append_run hgd s x _ _ ho hs hx (by rw[hty];exact hrun) (h A' c' w' ?_ h3 h5)
 rw[vv_snoc]
 exact h2
theorem colV_take{rs:List (List Vl)}{k i:Nat}(hi:i<rs.length)(hk:k<rs[i].length):vg (rs.take (i+1)) k=vg (rs.take i) k++[rs[i][k]]:=by
 unfold vg
 rw[qg hi,jg]
 simp[List.getD,qe hk]
theorem qpz{ops:Array Oper}{rest:List Oper}{o:Oper}{a:Act}{Q:Exit→Act→World→Prop}{w:World}{v:Value}{g:Nat}(base:Nat)(ys:List Bool)(z:Bool)(hgd:o.guard=none)(s x:Operand)
  (ho:o.op= .call { callee:= .builtin .append,args:=#[s,x],argTypes:=#[65,65] }) (hty:o.type=65)
  (hs:a.eval s=v) (hx:a.eval x= .slice (some ⟨g,0,none⟩) 1 1) (hcell:w.cell? ⟨g,0,none⟩=some (.bool z))
  (hown:w.ownsRow base 4 1 v ys.length (lv ys)) (hb:ys.length+1≤17592186044416) (hbase:base≤w.heap.size)
  (h:∀A' c' w',w'.ownsRow base 4 1 (.slice A' (ys++[z]).length c') (ys++[z]).length (lv (ys++[z]))→w.grownBy w' v.ownBlock→
   ((Value.slice A' (ys++[z]).length c').ownBlock=v.ownBlock∨(Value.slice A' (ys++[z]).length c').ownBlock=some w.heap.size)→wpList Tryz.prog ops Q rest (a.put o.dst (.slice A' (ys.length+1) c')) w') :
  wpList Tryz.prog ops Q (o :: rest) a w:=by
 have hr:Rd w 0 w.heap.size (some ⟨g,0,none⟩) 1 (lv [z]):=⟨by simp[lv],by simp[maxLen],fun _=>⟨g,0,rfl,qi _,yv w _ hcell,fun j u hu=>by
  match j,hu with
  | 0,hu =>
   simp[lv] at hu
   subst hu
   exact hcell
  | j+1,hu=>simp[lv] at hu⟩⟩
 obtain⟨i0,hi0,hz0,hz1,hz2⟩:=info_parts Tryz.infoBool
 obtain⟨A',c',w',hrun,h2,h3,h4⟩:=ui (P:=Tryz.prog) w base 65 65 4 i0 _ 1 Tryz.underlying65 hi0 hz0 hz1 hz2 rfl v ys.length (lv ys) hown 0 w.heap.size _ 1 (lv [z]) hr (lv_one _)
  (by simp[lv,maxLen];omega) (by simp[lv];omega) hbase
 have hl:(lv [z]).length=1:=rfl
 have hl2:(ys++[z]).length=ys.length+1:=by simp
 rw[hl] at hrun h2 h4
 exact wpList_append_run hgd s x _ _ ho hs hx (by rw[hty];exact hrun) (h A' c' w' (by rw[lv_append,hl2];exact h2) h3 (by rw[hl2];exact h4))
section
variable {w w':World}{lo hi:Nat}{u v:Value}{ss:List Nat}{bs:List UInt8}
theorem SB.more{A B:Option Addr}{n c k d lo2 hi2:Nat}{news all:List UInt8}(h:SB w lo hi u (.slice A n c) ss bs)(hn:n=bs.length)(hk:k=news.length)(ha:bs++news=all)(hr:Rd w lo2 hi2 B d (bv news))(hl:n+k≤140737488355328)(hlo:lo≤w.heap.size) :
  ∃A' c' w',(Builtin.append_ #[26,26] 26 #[.slice A n c,.slice B k d]).run Tryz.prog w= .ok (.slice A' (n+k) c') w'∧SB w' lo w'.heap.size u (.slice A' (n+k) c') ss all∧Below lo w w':=by
 subst hn hk
 obtain⟨A',c',w',hrun,ho,hg,hb⟩:=vl w lo (.slice A bs.length c) bs news all ha h.o2 hr hl hlo
 have hal:all.length=bs.length+news.length:=by rw[←ha,qd]
 rw[hal] at hrun ho hb
 have hu:u.ownBlock=none∨u.ownBlock≠(Value.slice A bs.length c).ownBlock:=by
  cases hx:u.ownBlock with
  | none=>exact Or.inl rfl
  | some g=>exact Or.inr fun e=>h.ap g hx e.symm
 have ho1:=h.o1.kept hg hu
 refine⟨A',c',w',hrun,⟨ho1,by rw[hal];exact ho,fun g hg2=>(zk ho1 hg2).2,fun g hg2=>(zk ho hg2).2,fun g hg2 hg3 => ?_⟩,(Below.refl lo w).grown hg hlo (fun g hg2=>(zk h.o2 hg2).1)⟩
 rcases hb with e | e
 ·
  exact h.ap g hg2 (e.symm.trans hg3)
 ·
  have h3:=(zk h.o1 hg2).2
  have h5:some g=some w.heap.size:=hg3.symm.trans e
  injection h5 with h5
  omega
end
theorem qiy{w:World}(s:ByteArray)(hs:s.size≤100000) :
  Calls Tryz.prog 163 #[.string s] w fun r w'=>∃A c,r= .returned (.slice A (vi s.data.toList).length c)∧w'.ownsRow w.heap.size 5 1 (.slice A (vi s.data.toList).length c) (vi s.data.toList).length (bv (vi s.data.toList))∧Below w.heap.size w w':=by
 have h9:=vo s.size (by omega)
 go_enter Tryz.func163,Tryz.ntmps163
 go_wp2_with fail
 refine(qbf s.size (by omega)).mono ?_
 rintro r w1 ⟨A,c,rfl,hown,hbel⟩
 have hcv:=qc6 (P:=Tryz.prog) w1 9 26 5 s Tryz.underlying9 Tryz.underlying26 Tryz.underlying5
 have hcap:=grownCap_le_maxLen w1 s.size 0 5 (by simp only[maxLen];omega)
 have hrd:=qfr w1 5 s hcap
 have hb2:=qdm w1 5 s (qc _)
 have hsz:=hb2.size
 obtain⟨A',c',w2,hrun,hown2,hg2⟩:=qfg (Lib.bytesWorld w1 5 s) w.heap.size _ _ s.data.toList (js hown hb2 (qc _)) hrd (by have:s.data.toList.length=s.size:=rfl;omega) (by have:=hbel.size;omega)
 have HO:=qa hown
 have HO2:=qa hown2
 have HG2:=qa hg2
 have HB:=qa hbel
 have HB2:=qa hb2
 clear hown hown2 hg2 hbel hb2 hrd
 go_wp2_with (at_builtin;refine wpList_append_run rfl _ _ _ _ rfl rfl rfl hrun ?_)
 go_ret
 have e:(vi s.data.toList).length=(jo s.size).length+s.data.toList.length:=by simp[vi]
 refine⟨A',c',by rw[e];rfl,by rw[e];exact HO2.out,?_⟩
 refine(HB.out.trans (HB2.out.mono HB.out.size)).grown HG2.out (ze HB.out.size HB2.out.size) (fun k hk=>(HO.out.lt k hk).1)
theorem getD_bytL2{l:List ByteArray}{i:Nat}(h:i<l.length):(qm l).getD i []=l[i].data.toList:=by
 rw[yw,qe (by rw[qx];exact h),yq l i h]
 rfl
theorem qpr{ss:List Nat}{m n:Nat}(h:ss.length=m+1):qni ss n=ss.set m (ss[m]'(by omega)+n):=by
 have h1:ss.getLastD 0=ss[m]'(by omega):=by
  rw[List.getLastD_eq_getLast?,List.getLast?_eq_getElem?]
  simp only[h,Nat.add_sub_cancel]
  rw[qe (by omega)]
  rfl
 unfold qni
 rw[h1,show ss.length-1=m by omega]
theorem refBuild_any{w:World}(l:List ByteArray)(K:Nat)(hR:ql5 (qm l)=true)(hK:1≤K)(hK2:K≤64){c:Nat}{A:Option Addr}(h:Rd w 0 w.heap.size A c (sv l)) :
  Calls Tryz.prog 124 #[.slice A l.length c,.int .i64 (K:Int)] w fun r w'=>∃A' c',r= .returned (.slice A' (kn K (qm l)).length c')∧
   w'.ownsRow w.heap.size 5 1 (.slice A' (kn K (qm l)).length c') (kn K (qm l)).length (bv (kn K (qm l)))∧Below w.heap.size w w':=by
 have hl:=h.len
 have hm:=h.cap
 rw[yg] at hl
 unfold maxLen at hm
 obtain⟨hD1,hD2,_⟩:=qdi.1 hR
 rw[qx] at hD1
 have H:=qa h
 have H1:Hid (∀k (hk:k<l.length),l[k].size≤4096):=fun k hk=>by
  have:=hD2 _ (qj (l:=qm l) (n:=k) (by rw[qx];exact hk))
  rw[yq l k hk,qhy] at this
  exact this
 have HEL:Hid (∀k,(qaj K (qm l) k).length≤4200*k):=ql4 K hD2
 have HE1:Hid (∀k,(qhm K (qm l) k).length≤4200):=entI_len K hD2
 have HSL:Hid (∀k,(yi K (qm l) k).length≤k):=qml K (qm l)
 have HSP:Hid (∀k,0<k→0<(yi K (qm l) k).length):=sizes_pos K (qm l)
 have HSX:Hid (∀k,∀x∈yi K (qm l) k,x≤(qaj K (qm l) k).length):=sizes_le K (qm l)
 have HBL:=qa (qx l)
 obtain⟨fr,hfr⟩:∃fr,kn K (qm l)=fr:=⟨_,rfl⟩
 rw[hfr]
 have HFD:=qa hfr
 clear h hR hD2 hfr
 go_enter Tryz.func124,Tryz.ntmps124
 go_wp2_with fail
 go_loopw [5,6,7] (fun x5 x6 x7 wr=>∃(i n m:Nat) (As Aa:Option Addr) (cs ca:Nat),i≤l.length∧x7= .int .i64 (i:Int)∧x5= .slice As n cs∧x6= .slice Aa m ca∧n=(yi K (qm l) i).length∧m=(qaj K (qm l) i).length∧
  SB wr w.heap.size wr.heap.size (.slice As n cs) (.slice Aa m ca) (yi K (qm l) i) (qaj K (qm l) i)∧Below w.heap.size w wr) (fun _ _ x7 _=>l.length-(intOf x7).toNat)
 case atStart=>exact⟨0,0,0,none,none,0,0,qi _,rfl,rfl,rfl,rfl,rfl,SB.nil _ _ _,Below.refl _ _⟩
 case round =>
  obtain⟨i,n,m,As,Aa,cs,ca,hi,rfl,rfl,rfl,hn,hm2,hsb,hb⟩:=hrel
  obtain⟨wy,hwy⟩:∃wy,wy=wr:=⟨_,rfl⟩
  subst hwy
  have HN:=qa hn
  have HM2:=qa hm2
  have HS:=qa hsb
  have HB:=qa hb
  have hsz:=hb.size
  have hnb:n≤4096:=by have:=HSL.out i;omega
  have hmb:m≤4200*4096:=by have:=HEL.out i;omega
  clear hn hm2 hsb hb
  by_cases hlt:i<l.length
  ·
   have ik:(i:Int)<(l.length:Int):=by omega
   obtain⟨b1,off1,rfl,_,hb1,hcell0⟩:=H.out.str hlt
   have HCELL:Hid (∀w',Below w.heap.size w w'→w'.cell? ⟨b1,off1+i,none⟩=some (.string l[i])):=fun w' hb=>(hb.cell hb1).trans hcell0
   clear hcell0
   have hts:=H1.out i hlt
   have HGT:=qa (getD_bytL2 hlt)
   have hKi:¬(K:Int)=0:=by omega
   by_cases hmod:i%K=0
   ·
    have hmi:((i:Int).tmod (K:Int))=0:=by
     have:=Int.ofNat_tmod i K
     omega
    have HEI:Hid (qhm K (qm l) i=[]++vi l[i].data.toList):=by
     unfold Hid qhm entL
     rw[if_pos hmod,HGT.out]
     rfl
    have HSI:Hid (yi K (qm l) (i+1)=qni (yi K (qm l) i++[0]) (qhm K (qm l) i).length):=by
     unfold Hid
     rw[yi,if_pos hmod]
    clear hmod HGT
    obtain⟨t,ht⟩:∃t,l[i]=t:=⟨_,rfl⟩
    rw[ht] at HCELL HEI hts
    obtain⟨As2,cs2,w2,hrun2,hsb2,hb2⟩:=HS.out.push HN.out (by omega) hsz
    have HS2:=qa hsb2
    have HB2:Hid (Below w.heap.size w w2):=HB.out.trans hb2
    have hlen2:n+1=(yi K (qm l) i++[0]).length:=by rw[qd,HN.out];rfl
    have hlb2:∀x∈yi K (qm l) i++[0],x≤4200*4096:=fun x hx=>by
     rcases zt.1 hx with h | h
     ·
      have:=HSX.out i x h;have:=HEL.out i;omega
     ·
      rw[zo.1 h];omega
    have HL2:=qa hlen2
    have HX2:=qa hlb2
    clear hsb2 hb2 HS HB HN hlen2 hlb2
    go_wp2_with (at_builtin;refine wpList_append_run rfl _ _ _ _ rfl rfl rfl hrun2 ?_;refine qaz ?_)
    refine⟨?_⟩
    clear hrun2
    generalize yi K (qm l) i++[0]=ss at *
    have hz2:=HB2.out.size
    have hcell:=HCELL.out _ HB2.out
    have HO2:Hid (w2.ownsRow w2.heap.size 5 1 (.slice none 0 0) ([]:List UInt8).length (bv [])):=zh _ _ _ _
    have htx:=qiy (w:=w2) t (by omega)
    obtain⟨tx,htxe⟩:∃tx,vi t.data.toList=tx:=⟨_,rfl⟩
    rw[htxe] at htx HEI
    have HTX:=qa htx
    have hel:=HE1.out i
    have HES:=qa (qea K (qm l) i)
    generalize qhm K (qm l) i=en at *
    clear htx htxe
    have hpl:([]:List UInt8).length+tx.length≤4200:=by
     have:=congrArg List.length HEI.out
     rw[qd] at this
     omega
    go_wp2_with fail
    refine HTX.out.mono ?_
    rintro r w3 ⟨At,ct,rfl,hot,hbt⟩
    obtain⟨A4,c4,w4,hrun4,ho4,hg4⟩:=j9 w3 w2.heap.size (.slice none 0 0) (([]:List UInt8)) tx en HEI.out.symm (js HO2.out hbt (qc _)) (Rd.own hot) (by omega) (by have:=hbt.size;omega)
    have hr4:∀q,(.slice none 0 0:Value).ownBlock=some q→w2.heap.size≤q:=fun q hq=>(zk HO2.out hq).1
    have HS4:=qa ((HS2.out.below hbt (qc _)).grown hg4 hr4)
    have HB4:Hid (Below w.heap.size w w4):=(qz HB2.out hbt (by omega)).grown hg4 (by have:=hbt.size;omega) (fun q hq=>by have:=hr4 q hq;omega)
    have HO4:=qa ho4
    have hz4:=HB4.out.size
    clear hot hbt ho4 hg4 HS2 HB2 hr4
    go_wp2_with (at_builtin;refine wpList_append_run rfl _ _ _ _ rfl rfl rfl hrun4 ?_;refine qaz ?_)
    refine⟨?_⟩
    clear hrun4
    have hlq:=HL2.out
    obtain⟨g,rfl,hg1,hg2⟩:=qdh (by have:=HS4.out.o1;rw[←HL2.out] at this;exact this) (Nat.succ_pos _)
    have hqs:n<ss.length:=by omega
    have hcl:w4.cell? ⟨g,n,none⟩=some (.int .i64 (ss[n]:Int)):=by
     have h9:=HS4.out.o1
     rw[←HL2.out] at h9
     rw[h9.cellAt n (by omega)]
     simp[iv,zu,hqs]
    have hfr:w4.frozen? ⟨g,n,none⟩=false:=by
     have h9:=HS4.out.o1
     rw[←HL2.out] at h9
     exact h9.frozenAt n
    have hlast:=HX2.out _ (qj hqs)
    have HS5:=qa (HS4.out.set HL2.out n (ss[n]+en.length))
    have HSI2:Hid (yi K (qm l) (i+1)=ss.set n (ss[n]+en.length)):=by unfold Hid;rw[HSI.out,qpr HL2.out.symm]
    have hgz:g<w2.heap.size:=HS4.out.h1 g (by rfl)
    have HR5:=qa ((Rd.own HO4.out).setCell (p:=⟨g,n,none⟩) (Or.inl hgz) (.int .i64 ((ss[n]+en.length:Nat):Int)))
    have HB5:Hid (Below w.heap.size w (w4.setCell ⟨g,n,none⟩ (.int .i64 ((ss[n]+en.length:Nat):Int)))):=HB4.out.setCell hg1 _
    obtain⟨A6,c6,w6,hrun6,hsb6,hb6⟩:=HS5.out.more HM2.out rfl (all:=qaj K (qm l) (i+1)) HES.out.symm HR5.out (by omega) HB5.out.size
    have hcs:((ss[n]+en.length:Nat):Int)=(ss[n]:Int)+(en.length:Int):=by omega
    rw[hcs] at hrun6
    have HS6:=qa hsb6
    have HB6:Hid (Below w.heap.size w w6):=HB5.out.trans hb6
    clear hcs hsb6 hb6 HS5 HR5 HB5 HS4 HO4
    generalize ss[n]=la at *
    have i1:(0:Int)≤(n:Int):=by omega
    have HM6:Hid (m+en.length=(qaj K (qm l) (i+1)).length):=by unfold Hid;rw[HES.out,qd,HM2.out]
    have HN6:Hid (n+1=(yi K (qm l) (i+1)).length):=by unfold Hid;rw[HSI2.out,xt];exact HL2.out
    rw[←HSI2.out] at HS6
    clear HL2 HX2 HES hlq hqs HSI HSI2 HEI
    go_wp2_with (at_builtin;refine wpList_append_run rfl _ _ _ _ rfl rfl rfl hrun6 ?_)
    go_roundw
    case rel=>exact⟨i+1,n+1,m+en.length,some ⟨g,0,none⟩,A6,cs2,c6,by omega,by go_num,rfl,rfl,HN6.out,HM6.out,HS6.out,HB6.out⟩
    case measure=>simp[intOf] <;> omega
   ·
    have hi0:0<i:=Nat.pos_of_ne_zero fun e=>hmod (by rw[e];exact Nat.zero_mod _)
    obtain⟨j,hij⟩:∃j,i=j+1:=⟨i-1,by omega⟩
    have hmi0:¬((i:Int)%(K:Int))=0:=by
     intro e
     have:=Int.natCast_emod i K
     omega
    have hmi:(((i:Int)%(K:Int))==0)=false:=by rw[qr];exact hmi0
    have hjl:j<l.length:=by omega
    obtain⟨b2,off2,he,_,_,hcellp⟩:=H.out.str hjl
    injection he with he
    injection he with he1 he2
    subst he1 he2
    have HCELP:Hid (∀w',Below w.heap.size w w'→w'.cell? ⟨b1,off1+j,none⟩=some (.string l[j])):=fun w' hb=>(hb.cell hb1).trans hcellp
    clear hcellp
    have hps:=H1.out j hjl
    have HSH:Hid (xg l[j].data.toList l[i].data.toList=xg ((qm l).getD (i-1) []) ((qm l).getD i [])):=by
     unfold Hid
     rw[HGT.out,show i-1=j by omega,getD_bytL2 hjl]
    have HEJ:Hid (qhm K (qm l) i=jo (xg l[j].data.toList l[i].data.toList)++vi (l[i].data.toList.drop (xg l[j].data.toList l[i].data.toList))):=by
     have h9:=HSH.out
     unfold Hid qhm entL
     rw[if_neg hmod,←h9,HGT.out]
    have HSI:Hid (yi K (qm l) (i+1)=qni (yi K (qm l) i) (qhm K (qm l) i).length):=by
     unfold Hid
     rw[yi,if_neg hmod]
    have hnp:=HSP.out i hi0
    obtain⟨q,hq⟩:∃q,n=q+1:=⟨n-1,by have:=HN.out;omega⟩
    subst hq
    have HX2:Hid (∀x∈yi K (qm l) i,x≤4200*4096):=fun x hx=>by have:=HSX.out i x hx;have:=HEL.out i;omega
    have hij2:(i:Int)-1=(j:Int):=by omega
    have ijl:(j:Int)<(l.length:Int):=by omega
    have ij0:(0:Int)≤(j:Int):=by omega
    clear hmod HGT HSH hnp hi0 hij
    obtain⟨t,ht⟩:∃t,l[i]=t:=⟨_,rfl⟩
    obtain⟨p,hp⟩:∃p,l[j]=p:=⟨_,rfl⟩
    rw[ht] at HCELL HEJ hts
    rw[hp] at HCELP HEJ hps
    clear ht hp
    have HL2:Hid (q+1=(yi K (qm l) i).length):=HN.out
    generalize yi K (qm l) i=ss at *
    clear HN
    go_wp2_with fail
    go_loopw [9] (fun x9 wr=>∃(n2 m2:Nat),x9= .int .i64 (n2:Int)∧n2≤p.size∧n2≤t.size∧p.data.toList.take n2=t.data.toList.take n2∧wr=wy.drewN m2) (fun x9 _=>p.size-(intOf x9).toNat)
    case atStart=>exact⟨0,0,rfl,qi _,qi _,rfl,rfl⟩
    case round =>
     obtain⟨n2,m2,rfl,hnp,hnt,htk,rfl⟩:=hrel
     have hcell0:=HCELL.out _ HB.out
     have hcell0':(wy.drewN m2).cell? ⟨b1,off1+i,none⟩=some (.string t):=hcell0
     have hcelp0:=HCELP.out _ HB.out
     have hcelp0':(wy.drewN m2).cell? ⟨b1,off1+j,none⟩=some (.string p):=hcelp0
     have in2:(0:Int)≤(n2:Int):=by omega
     have hll:p.data.toList.length=p.size:=qhy p
     have hlt2:t.data.toList.length=t.size:=qhy t
     have hcase:(∃(h1:n2<p.size) (h2:n2<t.size),p[n2]=t[n2]∧Hid (p.data.toList.take (n2+1)=t.data.toList.take (n2+1)))∨
       (¬n2<p.size∧Hid (xg p.data.toList t.data.toList=n2))∨(n2<p.size∧¬n2<t.size∧Hid (xg p.data.toList t.data.toList=n2))∨
       (∃(h1:n2<p.size) (h2:n2<t.size),¬p[n2]=t[n2]∧Hid (xg p.data.toList t.data.toList=n2)):=by
      by_cases h1:n2<p.size
      ·
       by_cases h2:n2<t.size
       ·
        by_cases h3:p[n2]=t[n2]
        ·
         refine Or.inl ⟨h1,h2,h3,?_⟩
         unfold Hid
         rw[qg (by rw[hll];exact h1),qg (by rw[hlt2];exact h2),htk]
         congr 2
        ·
         exact Or.inr (Or.inr (Or.inr ⟨h1,h2,h3,qjn (by omega) (by omega) htk (fun _ _=>h3)⟩))
       ·
        exact Or.inr (Or.inr (Or.inl ⟨h1,h2,qjn (by omega) (by omega) htk (fun _ h=>absurd h (by omega))⟩))
      ·
       exact Or.inr (Or.inl ⟨h1,qjn (by omega) (by omega) htk (fun h _=>absurd h (by omega))⟩)
     clear htk hll hlt2
     rcases hcase with ⟨h1,h2,h3,HTK⟩ | ⟨h1,HSN⟩ | ⟨h1,h2,HSN⟩ | ⟨h1,h2,h3,HSN⟩
     ·
      have d1:decide (n2<p.size)=true:=qp h1
      have d2:decide (n2<t.size)=true:=qp h2
      have i1:(n2:Int)<(p.size:Int):=by omega
      have i2:(n2:Int)<(t.size:Int):=by omega
      have e1:((p[n2].toNat:Int)==(t[n2].toNat:Int))=true:=by rw[h3];exact beq_self_eq_true _
      have e2:(p[n2].toNat==t[n2].toNat)=true:=by rw[h3];exact beq_self_eq_true _
      clear h3
      go_wp2_with fail
      go_quiet (fail)
      go_wp2_with fail
      go_roundw
      case rel=>exact⟨n2+1,_,by go_num,by omega,by omega,HTK.out,by first | rfl | (rw[zr])⟩
      case measure=>simp[intOf] <;> omega
     ·
      have d1:decide (n2<p.size)=false:=ql h1
      obtain⟨pl,hpl⟩:∃pl,jo n2=pl:=⟨_,rfl⟩
      have HEI:Hid (qhm K (qm l) i=pl++vi (t.data.toList.drop n2)):=by
       unfold Hid
       rw[HEJ.out,HSN.out,hpl]
      have HPU:=qa (fun w=>qbf n2 (w:=w) (by omega))
      rw[hpl] at HPU
      have int2:(n2:Int)≤(t.size:Int):=by omega
      clear HEJ HSN hpl
      go_wp2_with fail
      go_quiet (fail)
      go_wp2_with fail
      refine(HPU.out _).mono ?_
      rintro r w2 ⟨Ap,cp,rfl,hop,hbp⟩
      have hbw:Below wy.heap.size wy w2:=by first | exact qz (zg (Below.refl _ wy) _) hbp (qc _) | exact qz (zg (zg (Below.refl _ wy) _) _) hbp (qc _)
      have HO2:Hid (w2.ownsRow wy.heap.size 5 1 (.slice Ap pl.length cp) pl.length (bv pl)):=hop
      have HS2:=qa (HS.out.below hbw (qc _))
      have HB2:Hid (Below w.heap.size w w2):=qz HB.out hbw hsz
      have hz2:=HB2.out.size
      have hwz:=hbw.size
      have hcell:=HCELL.out _ HB2.out
      clear hop hbp hbw HS HB HPU hcell0 hcell0' hcelp0 hcelp0'
      have htx:=qiy (w:=w2) (t.extract n2 t.size) (by rw[qkb];omega)
      rw[tailD] at htx
      obtain⟨tx,htxe⟩:∃tx,vi (t.data.toList.drop n2)=tx:=⟨_,rfl⟩
      rw[htxe] at htx HEI
      have HTX:=qa htx
      have hel:=HE1.out i
      have HES:=qa (qea K (qm l) i)
      generalize qhm K (qm l) i=en at *
      clear htx htxe
      have hpl:pl.length+tx.length≤4200:=by
       have:=congrArg List.length HEI.out
       rw[qd] at this
       omega
      go_wp2_with fail
      refine HTX.out.mono ?_
      rintro r w3 ⟨At,ct,rfl,hot,hbt⟩
      obtain⟨A4,c4,w4,hrun4,ho4,hg4⟩:=j9 w3 wy.heap.size (.slice Ap pl.length cp) (pl) tx en HEI.out.symm (js HO2.out hbt (qc _)) (Rd.own hot) (by omega) (by have:=hbt.size;omega)
      have hr4:∀q,(.slice Ap pl.length cp:Value).ownBlock=some q→wy.heap.size≤q:=fun q hq=>(zk HO2.out hq).1
      have HS4:=qa ((HS2.out.below hbt hwz).grown hg4 hr4)
      have HB4:Hid (Below w.heap.size w w4):=(qz HB2.out hbt (by omega)).grown hg4 (by have:=hbt.size;omega) (fun q hq=>by have:=hr4 q hq;omega)
      have HO4:=qa ho4
      have hz4:=HB4.out.size
      clear hot hbt ho4 hg4 HS2 HB2 hr4
      go_wp2_with (at_builtin;refine wpList_append_run rfl _ _ _ _ rfl rfl rfl hrun4 ?_;refine qaz ?_)
      refine⟨?_⟩
      clear hrun4
      have hlq:=HL2.out
      obtain⟨g,rfl,hg1,hg2⟩:=qdh (by have:=HS4.out.o1;rw[←HL2.out] at this;exact this) (Nat.succ_pos _)
      have hqs:q<ss.length:=by omega
      have hcl:w4.cell? ⟨g,q,none⟩=some (.int .i64 (ss[q]:Int)):=by
       have h9:=HS4.out.o1
       rw[←HL2.out] at h9
       rw[h9.cellAt q (by omega)]
       simp[iv,zu,hqs]
      have hfr:w4.frozen? ⟨g,q,none⟩=false:=by
       have h9:=HS4.out.o1
       rw[←HL2.out] at h9
       exact h9.frozenAt q
      have hlast:=HX2.out _ (qj hqs)
      have HS5:=qa (HS4.out.set HL2.out q (ss[q]+en.length))
      have HSI2:Hid (yi K (qm l) (i+1)=ss.set q (ss[q]+en.length)):=by unfold Hid;rw[HSI.out,qpr HL2.out.symm]
      have hgz:g<wy.heap.size:=HS4.out.h1 g (by rfl)
      have HR5:=qa ((Rd.own HO4.out).setCell (p:=⟨g,q,none⟩) (Or.inl hgz) (.int .i64 ((ss[q]+en.length:Nat):Int)))
      have HB5:Hid (Below w.heap.size w (w4.setCell ⟨g,q,none⟩ (.int .i64 ((ss[q]+en.length:Nat):Int)))):=HB4.out.setCell hg1 _
      obtain⟨A6,c6,w6,hrun6,hsb6,hb6⟩:=HS5.out.more HM2.out rfl (all:=qaj K (qm l) (i+1)) HES.out.symm HR5.out (by omega) HB5.out.size
      have hcs:((ss[q]+en.length:Nat):Int)=(ss[q]:Int)+(en.length:Int):=by omega
      rw[hcs] at hrun6
      have HS6:=qa hsb6
      have HB6:Hid (Below w.heap.size w w6):=HB5.out.trans hb6
      clear hcs hsb6 hb6 HS5 HR5 HB5 HS4 HO4
      generalize ss[q]=la at *
      have i1:(0:Int)≤(q:Int):=by omega
      have HM6:Hid (m+en.length=(qaj K (qm l) (i+1)).length):=by unfold Hid;rw[HES.out,qd,HM2.out]
      have HN6:Hid (q+1=(yi K (qm l) (i+1)).length):=by unfold Hid;rw[HSI2.out,xt];exact HL2.out
      rw[←HSI2.out] at HS6
      clear HL2 HX2 HES hlq hqs HSI HSI2 HEI
      go_wp2_with (at_builtin;refine wpList_append_run rfl _ _ _ _ rfl rfl rfl hrun6 ?_)
      go_roundw
      case rel=>exact⟨i+1,q+1,m+en.length,some ⟨g,0,none⟩,A6,cs,c6,by omega,by go_num,rfl,rfl,HN6.out,HM6.out,HS6.out,HB6.out⟩
      case measure=>simp[intOf] <;> omega
     ·
      have d1:decide (n2<p.size)=true:=qp h1
      have d2:decide (n2<t.size)=false:=ql h2
      obtain⟨pl,hpl⟩:∃pl,jo n2=pl:=⟨_,rfl⟩
      have HEI:Hid (qhm K (qm l) i=pl++vi (t.data.toList.drop n2)):=by
       unfold Hid
       rw[HEJ.out,HSN.out,hpl]
      have HPU:=qa (fun w=>qbf n2 (w:=w) (by omega))
      rw[hpl] at HPU
      have int2:(n2:Int)≤(t.size:Int):=by omega
      clear HEJ HSN hpl
      go_wp2_with fail
      go_quiet (fail)
      go_wp2_with fail
      refine(HPU.out _).mono ?_
      rintro r w2 ⟨Ap,cp,rfl,hop,hbp⟩
      have hbw:Below wy.heap.size wy w2:=by first | exact qz (zg (Below.refl _ wy) _) hbp (qc _) | exact qz (zg (zg (Below.refl _ wy) _) _) hbp (qc _)
      have HO2:Hid (w2.ownsRow wy.heap.size 5 1 (.slice Ap pl.length cp) pl.length (bv pl)):=hop
      have HS2:=qa (HS.out.below hbw (qc _))
      have HB2:Hid (Below w.heap.size w w2):=qz HB.out hbw hsz
      have hz2:=HB2.out.size
      have hwz:=hbw.size
      have hcell:=HCELL.out _ HB2.out
      clear hop hbp hbw HS HB HPU hcell0 hcell0' hcelp0 hcelp0'
      have htx:=qiy (w:=w2) (t.extract n2 t.size) (by rw[qkb];omega)
      rw[tailD] at htx
      obtain⟨tx,htxe⟩:∃tx,vi (t.data.toList.drop n2)=tx:=⟨_,rfl⟩
      rw[htxe] at htx HEI
      have HTX:=qa htx
      have hel:=HE1.out i
      have HES:=qa (qea K (qm l) i)
      generalize qhm K (qm l) i=en at *
      clear htx htxe
      have hpl:pl.length+tx.length≤4200:=by
       have:=congrArg List.length HEI.out
       rw[qd] at this
       omega
      go_wp2_with fail
      refine HTX.out.mono ?_
      rintro r w3 ⟨At,ct,rfl,hot,hbt⟩
      obtain⟨A4,c4,w4,hrun4,ho4,hg4⟩:=j9 w3 wy.heap.size (.slice Ap pl.length cp) (pl) tx en HEI.out.symm (js HO2.out hbt (qc _)) (Rd.own hot) (by omega) (by have:=hbt.size;omega)
      have hr4:∀q,(.slice Ap pl.length cp:Value).ownBlock=some q→wy.heap.size≤q:=fun q hq=>(zk HO2.out hq).1
      have HS4:=qa ((HS2.out.below hbt hwz).grown hg4 hr4)
      have HB4:Hid (Below w.heap.size w w4):=(qz HB2.out hbt (by omega)).grown hg4 (by have:=hbt.size;omega) (fun q hq=>by have:=hr4 q hq;omega)
      have HO4:=qa ho4
      have hz4:=HB4.out.size
      clear hot hbt ho4 hg4 HS2 HB2 hr4
      go_wp2_with (at_builtin;refine wpList_append_run rfl _ _ _ _ rfl rfl rfl hrun4 ?_;refine qaz ?_)
      refine⟨?_⟩
      clear hrun4
      have hlq:=HL2.out
      obtain⟨g,rfl,hg1,hg2⟩:=qdh (by have:=HS4.out.o1;rw[←HL2.out] at this;exact this) (Nat.succ_pos _)
      have hqs:q<ss.length:=by omega
      have hcl:w4.cell? ⟨g,q,none⟩=some (.int .i64 (ss[q]:Int)):=by
       have h9:=HS4.out.o1
       rw[←HL2.out] at h9
       rw[h9.cellAt q (by omega)]
       simp[iv,zu,hqs]
      have hfr:w4.frozen? ⟨g,q,none⟩=false:=by
       have h9:=HS4.out.o1
       rw[←HL2.out] at h9
       exact h9.frozenAt q
      have hlast:=HX2.out _ (qj hqs)
      have HS5:=qa (HS4.out.set HL2.out q (ss[q]+en.length))
      have HSI2:Hid (yi K (qm l) (i+1)=ss.set q (ss[q]+en.length)):=by unfold Hid;rw[HSI.out,qpr HL2.out.symm]
      have hgz:g<wy.heap.size:=HS4.out.h1 g (by rfl)
      have HR5:=qa ((Rd.own HO4.out).setCell (p:=⟨g,q,none⟩) (Or.inl hgz) (.int .i64 ((ss[q]+en.length:Nat):Int)))
      have HB5:Hid (Below w.heap.size w (w4.setCell ⟨g,q,none⟩ (.int .i64 ((ss[q]+en.length:Nat):Int)))):=HB4.out.setCell hg1 _
      obtain⟨A6,c6,w6,hrun6,hsb6,hb6⟩:=HS5.out.more HM2.out rfl (all:=qaj K (qm l) (i+1)) HES.out.symm HR5.out (by omega) HB5.out.size
      have hcs:((ss[q]+en.length:Nat):Int)=(ss[q]:Int)+(en.length:Int):=by omega
      rw[hcs] at hrun6
      have HS6:=qa hsb6
      have HB6:Hid (Below w.heap.size w w6):=HB5.out.trans hb6
      clear hcs hsb6 hb6 HS5 HR5 HB5 HS4 HO4
      generalize ss[q]=la at *
      have i1:(0:Int)≤(q:Int):=by omega
      have HM6:Hid (m+en.length=(qaj K (qm l) (i+1)).length):=by unfold Hid;rw[HES.out,qd,HM2.out]
      have HN6:Hid (q+1=(yi K (qm l) (i+1)).length):=by unfold Hid;rw[HSI2.out,xt];exact HL2.out
      rw[←HSI2.out] at HS6
      clear HL2 HX2 HES hlq hqs HSI HSI2 HEI
      go_wp2_with (at_builtin;refine wpList_append_run rfl _ _ _ _ rfl rfl rfl hrun6 ?_)
      go_roundw
      case rel=>exact⟨i+1,q+1,m+en.length,some ⟨g,0,none⟩,A6,cs,c6,by omega,by go_num,rfl,rfl,HN6.out,HM6.out,HS6.out,HB6.out⟩
      case measure=>simp[intOf] <;> omega
     ·
      have d1:decide (n2<p.size)=true:=qp h1
      have d2:decide (n2<t.size)=true:=qp h2
      have i1:(n2:Int)<(p.size:Int):=by omega
      have i2:(n2:Int)<(t.size:Int):=by omega
      have e2:(p[n2].toNat==t[n2].toNat)=false:=by rw[qr];exact fun e=>h3 (qbd.1 e)
      have e1:((p[n2].toNat:Int)==(t[n2].toNat:Int))=false:=by rw[qr];exact fun e=>h3 (qbd.1 (by omega))
      clear h3
      obtain⟨pl,hpl⟩:∃pl,jo n2=pl:=⟨_,rfl⟩
      have HEI:Hid (qhm K (qm l) i=pl++vi (t.data.toList.drop n2)):=by
       unfold Hid
       rw[HEJ.out,HSN.out,hpl]
      have HPU:=qa (fun w=>qbf n2 (w:=w) (by omega))
      rw[hpl] at HPU
      have int2:(n2:Int)≤(t.size:Int):=by omega
      clear HEJ HSN hpl
      go_wp2_with fail
      go_quiet (fail)
      go_wp2_with fail
      refine(HPU.out _).mono ?_
      rintro r w2 ⟨Ap,cp,rfl,hop,hbp⟩
      have hbw:Below wy.heap.size wy w2:=by first | exact qz (zg (Below.refl _ wy) _) hbp (qc _) | exact qz (zg (zg (Below.refl _ wy) _) _) hbp (qc _)
      have HO2:Hid (w2.ownsRow wy.heap.size 5 1 (.slice Ap pl.length cp) pl.length (bv pl)):=hop
      have HS2:=qa (HS.out.below hbw (qc _))
      have HB2:Hid (Below w.heap.size w w2):=qz HB.out hbw hsz
      have hz2:=HB2.out.size
      have hwz:=hbw.size
      have hcell:=HCELL.out _ HB2.out
      clear hop hbp hbw HS HB HPU hcell0 hcell0' hcelp0 hcelp0'
      have htx:=qiy (w:=w2) (t.extract n2 t.size) (by rw[qkb];omega)
      rw[tailD] at htx
      obtain⟨tx,htxe⟩:∃tx,vi (t.data.toList.drop n2)=tx:=⟨_,rfl⟩
      rw[htxe] at htx HEI
      have HTX:=qa htx
      have hel:=HE1.out i
      have HES:=qa (qea K (qm l) i)
      generalize qhm K (qm l) i=en at *
      clear htx htxe
      have hpl:pl.length+tx.length≤4200:=by
       have:=congrArg List.length HEI.out
       rw[qd] at this
       omega
      go_wp2_with fail
      refine HTX.out.mono ?_
      rintro r w3 ⟨At,ct,rfl,hot,hbt⟩
      obtain⟨A4,c4,w4,hrun4,ho4,hg4⟩:=j9 w3 wy.heap.size (.slice Ap pl.length cp) (pl) tx en HEI.out.symm (js HO2.out hbt (qc _)) (Rd.own hot) (by omega) (by have:=hbt.size;omega)
      have hr4:∀q,(.slice Ap pl.length cp:Value).ownBlock=some q→wy.heap.size≤q:=fun q hq=>(zk HO2.out hq).1
      have HS4:=qa ((HS2.out.below hbt hwz).grown hg4 hr4)
      have HB4:Hid (Below w.heap.size w w4):=(qz HB2.out hbt (by omega)).grown hg4 (by have:=hbt.size;omega) (fun q hq=>by have:=hr4 q hq;omega)
      have HO4:=qa ho4
      have hz4:=HB4.out.size
      clear hot hbt ho4 hg4 HS2 HB2 hr4
      go_wp2_with (at_builtin;refine wpList_append_run rfl _ _ _ _ rfl rfl rfl hrun4 ?_;refine qaz ?_)
      refine⟨?_⟩
      clear hrun4
      have hlq:=HL2.out
      obtain⟨g,rfl,hg1,hg2⟩:=qdh (by have:=HS4.out.o1;rw[←HL2.out] at this;exact this) (Nat.succ_pos _)
      have hqs:q<ss.length:=by omega
      have hcl:w4.cell? ⟨g,q,none⟩=some (.int .i64 (ss[q]:Int)):=by
       have h9:=HS4.out.o1
       rw[←HL2.out] at h9
       rw[h9.cellAt q (by omega)]
       simp[iv,zu,hqs]
      have hfr:w4.frozen? ⟨g,q,none⟩=false:=by
       have h9:=HS4.out.o1
       rw[←HL2.out] at h9
       exact h9.frozenAt q
      have hlast:=HX2.out _ (qj hqs)
      have HS5:=qa (HS4.out.set HL2.out q (ss[q]+en.length))
      have HSI2:Hid (yi K (qm l) (i+1)=ss.set q (ss[q]+en.length)):=by unfold Hid;rw[HSI.out,qpr HL2.out.symm]
      have hgz:g<wy.heap.size:=HS4.out.h1 g (by rfl)
      have HR5:=qa ((Rd.own HO4.out).setCell (p:=⟨g,q,none⟩) (Or.inl hgz) (.int .i64 ((ss[q]+en.length:Nat):Int)))
      have HB5:Hid (Below w.heap.size w (w4.setCell ⟨g,q,none⟩ (.int .i64 ((ss[q]+en.length:Nat):Int)))):=HB4.out.setCell hg1 _
      obtain⟨A6,c6,w6,hrun6,hsb6,hb6⟩:=HS5.out.more HM2.out rfl (all:=qaj K (qm l) (i+1)) HES.out.symm HR5.out (by omega) HB5.out.size
      have hcs:((ss[q]+en.length:Nat):Int)=(ss[q]:Int)+(en.length:Int):=by omega
      rw[hcs] at hrun6
      have HS6:=qa hsb6
      have HB6:Hid (Below w.heap.size w w6):=HB5.out.trans hb6
      clear hcs hsb6 hb6 HS5 HR5 HB5 HS4 HO4
      generalize ss[q]=la at *
      have i1:(0:Int)≤(q:Int):=by omega
      have HM6:Hid (m+en.length=(qaj K (qm l) (i+1)).length):=by unfold Hid;rw[HES.out,qd,HM2.out]
      have HN6:Hid (q+1=(yi K (qm l) (i+1)).length):=by unfold Hid;rw[HSI2.out,xt];exact HL2.out
      rw[←HSI2.out] at HS6
      clear HL2 HX2 HES hlq hqs HSI HSI2 HEI
      go_wp2_with (at_builtin;refine wpList_append_run rfl _ _ _ _ rfl rfl rfl hrun6 ?_)
      go_roundw
      case rel=>exact⟨i+1,q+1,m+en.length,some ⟨g,0,none⟩,A6,cs,c6,by omega,by go_num,rfl,rfl,HN6.out,HM6.out,HS6.out,HB6.out⟩
      case measure=>simp[intOf] <;> omega
  ·
   have ik:¬(i:Int)<(l.length:Int):=by omega
   have hil:i=l.length:=by omega
   have hss:Rd wy 0 wy.heap.size As cs (iv (zu (yi K (qm l) i))):=by
    have h9:=HS.out.o1
    rw[←HN.out] at h9
    exact(Rd.own h9).wide (qi _) (qc _)
   have hal:Rd wy 0 wy.heap.size Aa ca (bv (qaj K (qm l) i)):=by
    have h9:=HS.out.o2
    rw[←HM2.out] at h9
    exact(Rd.own h9).wide (qi _) (qc _)
   have hmay:qpw (zu (yi K (qm l) i)):=fun z hz=>by
    obtain⟨x,hx,rfl⟩:=zn.1 hz
    have:=HSX.out i x hx
    have:=HEL.out i
    omega
   have HFR:Hid (fr=jo l.length++jo K++jq (zu (yi K (qm l) i))++qaj K (qm l) i):=by
    unfold Hid
    rw[←HFD.out,kn,HBL.out,hil]
   have hp1:=vo l.length (by omega)
   have hp2:=vo K (by omega)
   have hil2:=zj (yi K (qm l) i)
   have hsl2:=HSL.out i
   have hwl:=qab hmay (by omega)
   have hnl:n=(zu (yi K (qm l) i)).length:=by rw[hil2];exact HN.out
   have HWR:=qa (fun w' (h':Below wy.heap.size wy w')=>qid (w:=w') (zu (yi K (qm l) i)) hmay (hss.below h' (qc _)) h'.size (by omega))
   rw[←hnl] at HWR
   have HAL:=qa hal
   have HPL:=qa (fun w=>qbf l.length (w:=w) (by omega))
   have HPK:=qa (fun w=>qbf K (w:=w) (by omega))
   generalize jq (zu (yi K (qm l) i))=wl at *
   generalize qaj K (qm l) i=al at *
   generalize jo l.length=p1 at *
   generalize jo K=p2 at *
   obtain⟨pa,hpa⟩:∃pa,p1++p2=pa:=⟨_,rfl⟩
   obtain⟨pb,hpb⟩:∃pb,pa++wl=pb:=⟨_,rfl⟩
   rw[hpa,hpb] at HFR
   have hpal:pa.length≤18:=by rw[←hpa,qd];omega
   have hpbl:pb.length≤18+wl.length:=by rw[←hpb,qd];omega
   have HPA:=qa hpa
   have HPB:=qa hpb
   clear hpa hpb
   clear hss hal hmay HS HN hil hnl hil2 hsl2
   go_wp2_with fail
   refine(HPL.out _).mono ?_
   rintro r w1 ⟨A1,c1,rfl,ho1,hb1⟩
   have HO1:=qa ho1
   have HB1:=qa hb1
   have hz1:=hb1.size
   clear ho1 hb1
   go_wp2_with fail
   refine(HPK.out _).mono ?_
   rintro r w2 ⟨A2,c2,rfl,ho2,hb2⟩
   obtain⟨A3,c3,w3,hrun3,ho3,hg3⟩:=j9 w2 wy.heap.size (.slice A1 p1.length c1) p1 p2 pa HPA.out (js HO1.out hb2 (qc _)) (Rd.own ho2) (by omega) (by have:=hb2.size;omega)
   have hb3:Below wy.heap.size wy w3:=(HB1.out.trans (hb2.mono hz1)).grown hg3 (by have:=hb2.size;omega) (fun q hq=>(zk HO1.out hq).1)
   have HO3:=qa ho3
   have HB3:=qa hb3
   have hz3:=hb3.size
   clear ho2 hb2 ho3 hg3 hb3
   go_wp2_with (at_builtin;refine wpList_append_run rfl _ _ _ _ rfl rfl rfl hrun3 ?_;refine qaz ?_)
   refine⟨?_⟩
   clear hrun3
   go_wp2_with fail
   refine(HWR.out _ HB3.out).mono ?_
   rintro r w4 ⟨A4,c4,rfl,ho4,hb4⟩
   obtain⟨A5,c5,w5,hrun5,ho5,hg5⟩:=j9 w4 wy.heap.size (.slice A3 pa.length c3) pa wl pb HPB.out (js HO3.out hb4 (qc _)) (Rd.own ho4) (by omega) (by have:=hb4.size;omega)
   have hb5:Below wy.heap.size wy w5:=(HB3.out.trans (hb4.mono hz3)).grown hg5 (by have:=hb4.size;omega) (fun q hq=>(zk HO3.out hq).1)
   have HO5:=qa ho5
   have HB5:=qa hb5
   have hz5:=hb5.size
   clear ho4 hb4 ho5 hg5 hb5
   go_wp2_with (at_builtin;refine wpList_append_run rfl _ _ _ _ rfl rfl rfl hrun5 ?_;refine qaz ?_)
   refine⟨?_⟩
   clear hrun5
   have har:=HAL.out.below HB5.out (qc _)
   obtain⟨A6,c6,w6,hrun6,ho6,hg6⟩:=j9 w5 wy.heap.size (.slice A5 pb.length c5) pb al fr HFR.out.symm HO5.out har (by have:=HM2.out;omega) hz5
   rw[←HM2.out] at hrun6
   have hb6:Below w.heap.size w w6:=HB.out.trans ((HB5.out.grown hg6 hz5 (fun q hq=>(zk HO5.out hq).1)).mono hsz)
   have HO6:=qa (j4 ho6 hsz)
   have HB6:=qa hb6
   clear ho6 hg6 hb6 har
   go_wp2_with (at_builtin;refine wpList_append_run rfl _ _ _ _ rfl rfl rfl hrun6 ?_;refine qaz ?_)
   refine⟨?_⟩
   clear hrun6
   go_wp2_with fail
   go_ret
   exact⟨A6,c6,rfl,HO6.out,HB6.out⟩
end Go.Proofs.YtnjkipnklpkaoaaGreat
