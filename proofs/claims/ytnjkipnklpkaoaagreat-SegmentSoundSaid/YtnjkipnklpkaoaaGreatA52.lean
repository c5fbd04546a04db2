/-
  Lemmas.
-/
import Derived.Test.YtnjkipnklpkaoaaGreatA50
import Derived.Shelf.Strings.Builder2
import Derived.Shelf.Strings.BuilderK
namespace Go.Proofs.YtnjkipnklpkaoaaGreat
open Go.RowKit
set_option maxRecDepth 20000
set_option maxHeartbeats 16000000
set_option linter.unusedSimpArgs false
set_option linter.unusedVariables false
theorem qc0{P:Program}{ops:Array Oper}{w:World}{Q:Act→Prop}{a:Act}{o:Oper}{rest:List Oper}(hw:Region.wanted o (yielded ops a.tmps)=false)(h:wpStill P ops w Q rest (a.put o.dst undef)):wpStill P ops w Q (o :: rest) a:=by
 unfold wpStill
 rw[hw,if_neg (by simp)]
 exact h
theorem vu{P:Program}{ops:Array Oper}{w:World}{Q:Act→Prop}{a:Act}{o:Oper}{rest:List Oper}(hw:Region.wanted o (yielded ops a.tmps)=true)
  (h:∀K:Act→Prop,(∀a,wpStill P ops w Q rest a→K a)→o.still P a w K):wpStill P ops w Q (o :: rest) a:=by
 unfold wpStill
 rw[hw,if_pos rfl]
 exact h _ (fun _ h=>h)
def tab(p:List Nat)(l:List UInt8):List Bool:=(List.range (l.length+1)).map fun k=>qhx p (l.take k)
theorem qgw(p:List Nat)(l:List UInt8):(tab p l).length=l.length+1:=by simp[tab]
theorem tab_get(p:List Nat)(l:List UInt8){k:Nat}(h:k≤l.length):(tab p l)[k]? = some (qhx p (l.take k)):=by
 unfold tab
 rw[ke,List.getElem?_range (by omega)]
 rfl
theorem qn2(p:List Nat)(l:List UInt8){k:Nat}(h:k≤l.length):(lv (tab p l))[k]? = some (.bool (qhx p (l.take k))):=by
 unfold lv
 rw[ke,tab_get p l h]
 rfl
theorem tab_nil(l:List UInt8):(List.replicate (l.length+1) (Value.bool false)).set 0 (.bool true)=lv (tab [] l):=by
 apply qc3
 intro j
 by_cases hj:j≤l.length
 ·
  rw[qn2 _ _ hj,mat_nil]
  cases j with
  | zero=>simp
  | succ j =>
   rw[qbm (by omega),List.getElem?_replicate,if_pos (by omega)]
   have:l.take (j+1)≠[]:=fun e=>by
    rw[List.take_eq_nil_iff] at e
    rcases e with e | e
    ·
     omega
    ·
     rw[e] at hj;simp at hj
   rw[xi.2 this]
 ·
  rw[jz (by simp;omega),jz (by rw[vk,qgw];omega)]
def FillZ(ys:List Value)(k:Nat)(xs:List Value):Prop:=xs.length=ys.length∧(∀j,j<k→xs[j]? = ys[j]?)∧∀j,k≤j→j<ys.length→xs[j]? = some (.bool false)
theorem fillz_zero{ys:List Value}{n:Nat}(h:ys.length=n):FillZ ys 0 (List.replicate n (.bool false)) :=
 ⟨by simp[h],fun j hj=>absurd hj (jp j),fun j _ hj=>by rw[List.getElem?_replicate,if_pos (by omega)]⟩
theorem fillz_all{ys xs:List Value}{k:Nat}(h:FillZ ys k xs)(hk:ys.length≤k):xs=ys:=qe1 ⟨h.1,h.2.1⟩ hk
theorem qjy{ys xs:List Value}{k:Nat}(h:FillZ ys k xs)(u:Value)(hu:ys[k]? = some u):FillZ ys (k+1) (xs.set k u):=by
 obtain⟨h1,h2⟩:=qay ⟨h.1,h.2.1⟩ u hu
 exact⟨h1,h2,fun j h3 h4=>by rw[qbm (by omega)];exact h.2.2 j (by omega) h4⟩
theorem fillz_keep{ys xs:List Value}{k:Nat}(h:FillZ ys k xs)(hu:ys[k]? = some (.bool false)):FillZ ys (k+1) xs :=
 ⟨h.1,fun j hj=>by
  by_cases e:j=k
  ·
   subst e
   rw[hu]
   exact h.2.2 j (qc _) (zw.1 hu).1
  ·
   exact h.2.1 j (by omega),fun j h3 h4=>h.2.2 j (by omega) h4⟩
theorem take_snoc{ns:List Nat}{i:Nat}(h:i<ns.length):ns.take (i+1)=ns.take i++[ns[i]]:=qg h
theorem own_lower{w:World}{B B' n:Nat}{e:TypeId}{v:Value}{xs:List Value}(h:w.ownsRow B e 1 v n xs)(hB:B'≤B):w.ownsRow B' e 1 v n xs :=
 ⟨h.1,h.2.elim Or.inl fun⟨g,cap,cur,h1,h2,h3⟩=>Or.inr ⟨g,cap,cur,h1,ze hB h2,h3⟩⟩
theorem rd_tab{w:World}{lo hi g N:Nat}{p:List Nat}{l:List UInt8}(h:Rd w lo hi (some ⟨g,0,none⟩) N (lv (tab p l))){k:Nat}(hk:k≤l.length):w.cell? ⟨g,k,none⟩=some (.bool (qhx p (l.take k))):=by
 obtain⟨b,off,he,_,_,hc⟩:=h.at_ (by rw[vk,qgw];omega)
 have:=hc k _ (qn2 p l hk)
 injection he with he
 injection he with h1 h2
 subst h1 h2
 rw[xa] at this
 exact this
theorem rd_sig{w:World}{lo hi c:Nat}{A:Option Addr}{ns:List Nat}(h:Rd w lo hi A c (iv (zu ns))){k:Nat}(hk:k<ns.length) :
  ∃b off,A=some ⟨b,off,none⟩∧w.cell? ⟨b,off+k,none⟩=some (.int .i64 (ns[k]:Int)):=by
 obtain⟨b,off,he,_,_,hc⟩:=h.num (k:=k) (by rw[zj];exact hk)
 refine⟨b,off,he,hc.trans ?_⟩
 simp[zu]
theorem refMatch_any{w:World}(ns:List Nat)(s:ByteArray){c:Nat}{A:Option Addr}(h:Rd w 0 w.heap.size A c (iv (zu ns)))(h7:∀n∈ns,n≤257)(hs:s.size≤1000000) :
  Calls Tryz.prog 65 #[.slice A ns.length c,.string s] w fun r w'=>r= .returned (.bool (qhx ns s.data.toList))∧Below w.heap.size w w':=by
 have hl:=h.len
 have hc:=h.cap
 rw[ji,zj] at hl
 unfold maxLen at hc
 have H:=qa h
 have H7:Hid (∀i (hi:i<ns.length),ns[i]≤257):=fun i hi=>h7 _ (qj hi)
 have HS:=qa (lenB s)
 clear h h7
 obtain⟨v,hv⟩:∃v,qhx ns s.data.toList=v:=⟨_,rfl⟩
 rw[hv]
 have HV:=qa hv
 clear hv
 obtain⟨w1,hmake,ho1,hg1⟩:=qf3 w (s.size+1) (by omega)
 have hb1:Below w.heap.size w w1:=(Below.refl _ _).grown hg1 (qc _) (by simp)
 have hf1:=ho1.frozenAt 0
 have hc1:w1.cell? ⟨w.heap.size,0,none⟩=some (.bool false):=by
  rw[ho1.cellAt 0 (by omega),List.getElem?_replicate,if_pos (by omega)]
 have hst:=ho1.stored 0 (.bool true)
 rw[show((s.size+1:Nat):Int)=(s.size:Int)+1 by omega] at hmake
 rw[show(List.replicate (s.size+1) (Value.bool false)).set 0 (.bool true)=lv (tab [] s.data.toList) by rw[←tab_nil,HS.out]] at hst
 have HST:=qa hst
 have HB1:=qa hb1
 clear ho1 hg1 hb1 hst
 go_enter Tryz.func65,Tryz.ntmps65
 go_wp2_with fail
 go_loopw [5,6] (fun x5 x6 wr=>∃(i g:Nat),i≤ns.length∧x6= .int .i64 (i:Int)∧x5= .slice (some ⟨g,0,none⟩) (s.size+1) (s.size+1)∧
  wr.ownsRow w.heap.size 4 1 (.slice (some ⟨g,0,none⟩) (s.size+1) (s.size+1)) (s.size+1) (lv (tab (ns.take i) s.data.toList))∧Below w.heap.size w wr) (fun _ x6 _=>ns.length-(intOf x6).toNat)
 case atStart=>exact⟨0,_,qi _,rfl,rfl,HST.out.1,qf7 HB1.out HST.out.2 HB1.out.size (qc _)⟩
 case round =>
  clear hmake hf1 hc1 HST HB1
  obtain⟨i,g,hi,rfl,rfl,hown,hb⟩:=hrel
  obtain⟨wo,hwo⟩:∃wo,wo=wr:=⟨_,rfl⟩
  subst hwo
  have HO:=qa hown
  have HB:=qa hb
  have hsz:=hb.size
  clear hown hb
  by_cases hlt:i<ns.length
  ·
   have ik:(i:Int)<(ns.length:Int):=by omega
   obtain⟨w2,hmake2,ho2,hg2⟩:=qf3 wo (s.size+1) (by omega)
   rw[show((s.size+1:Nat):Int)=(s.size:Int)+1 by omega] at hmake2
   have hrd:=(qp7 HO.out).grown hg2 (qc _) (by simp)
   have HRD:=qa hrd
   have HO2:=qa ho2
   have HB2:=qa (HB.out.grown hg2 hsz (by simp):Below w.heap.size w w2)
   have HTS:=qa (take_snoc hlt)
   have hc7:=H7.out i hlt
   have hg0:wo.heap.size≤w2.heap.size:=hg2.size
   clear ho2 hg2 hrd HO HB
   go_wp2_with fail
   clear hmake2
   go_loopw [8] (fun x8 wr=>∃(k:Nat) (xs:List Value),k≤s.size+1∧x8= .int .i64 (k:Int)∧FillZ (lv (tab (ns.take (i+1)) s.data.toList)) k xs∧
    wr.ownsRow wo.heap.size 4 1 (.slice (some ⟨wo.heap.size,0,none⟩) (s.size+1) (s.size+1)) (s.size+1) xs∧Rd wr 0 wo.heap.size (some ⟨g,0,none⟩) (s.size+1) (lv (tab (ns.take i) s.data.toList))∧Below w.heap.size w wr) (fun x8 _=>s.size+1-(intOf x8).toNat)
   case atStart=>exact⟨0,_,qi _,rfl,fillz_zero (by rw[vk,qgw,HS.out]),HO2.out,HRD.out,HB2.out⟩
   case round =>
    clear HO2 HRD HB2
    obtain⟨k,xs,hk,rfl,hf,hown,hrd,hb⟩:=hrel
    have HF:=qa hf
    have HO:=qa hown
    have HR:=qa hrd
    have HB:=qa hb
    have hsz2:=hb.size
    clear hf hown hrd hb
    by_cases hkl:k≤s.size
    ·
     have ikl:(k:Int)≤(s.size:Int):=by omega
     obtain⟨b,off,rfl,hsig⟩:=rd_sig (H.out.below HB.out (qc _)) hlt
     have hc7:=H7.out i hlt
     have HTS:=qa (take_snoc hlt)
     have hfr:=HO.out.frozenAt k
     have hxl:xs.length=s.size+1:=by rw[HF.out.1,vk,qgw,HS.out]
     have hcx:wr.cell? ⟨wo.heap.size,k,none⟩=some (.bool false):=by
      rw[HO.out.cellAt k (by omega),HF.out.2.2 k (qc _) (by rw[vk,qgw,HS.out];omega)]
     have HST:=fun u=>qa (HO.out.stored k u)
     have hgb:wo.heap.size<wr.heap.size:=by
      obtain⟨q,hq,_,hq2⟩:=qdh HO.out (by omega)
      injection hq with hq
      injection hq with hq
      omega
     by_cases h257:ns[i]=257
     ·
      rw[h257] at hsig HTS
      by_cases hk0:k=0
      ·
       subst hk0
       have hcan:=rd_tab HR.out (k:=0) (qi _)
       have HU:Hid ((lv (tab (ns.take (i+1)) s.data.toList))[0]? = some (.bool (qhx (ns.take i) (s.data.toList.take 0)))):=by
        unfold Hid
        rw[qn2 _ _ (qi _),HTS.out,qpa]
       generalize qhx (ns.take i) (s.data.toList.take 0)=x at *
       cases x
       all_goals
        go_wp2_with fail
        go_roundw
        case rel=>exact⟨0+1,_,by omega,by first | rfl | go_num,qjy HF.out _ HU.out,(HST _).out.1,HR.out.grown (HST _).out.2 (qdo hgb) (fun q hq=>by simp[Value.ownBlock] at hq;omega),qf7 HB.out (HST _).out.2 hsz2 (by omega)⟩
        case measure=>simp[intOf] <;> omega
      ·
       obtain⟨j,rfl⟩:∃j,k=j+1:=⟨k-1,by omega⟩
       have hcan:=rd_tab HR.out (k:=j+1) (by rw[HS.out];exact hkl)
       have hprev:wr.cell? ⟨wo.heap.size,j,none⟩=some (.bool (qhx (ns.take i++[257]) (s.data.toList.take j))):=by
        rw[HO.out.cellAt j (by omega),HF.out.2.1 j (by omega),HTS.out,qn2 _ _ (by rw[HS.out];omega)]
       have HU:Hid ((lv (tab (ns.take (i+1)) s.data.toList))[j+1]? = some (.bool (qhx (ns.take i) (s.data.toList.take (j+1))||qhx (ns.take i++[257]) (s.data.toList.take j)))):=by
        unfold Hid
        rw[qn2 _ _ (by rw[HS.out];exact hkl),HTS.out,qpb _ (by rw[HS.out];omega)]
       generalize qhx (ns.take i) (s.data.toList.take (j+1))=x at *
       generalize qhx (ns.take i++[257]) (s.data.toList.take j)=y at *
       cases x
       all_goals
        go_wp2_with fail
        go_roundw
        case rel=>exact⟨j+1+1,_,by omega,by first | rfl | go_num,qjy HF.out _ HU.out,(HST _).out.1,HR.out.grown (HST _).out.2 (qdo hgb) (fun q hq=>by simp[Value.ownBlock] at hq;omega),qf7 HB.out (HST _).out.2 hsz2 (by omega)⟩
        case measure=>simp[intOf] <;> omega
     ·
      have i257:¬(ns[i]:Int)=257:=by omega
      by_cases hk0:k=0
      ·
       subst hk0
       have HU:Hid ((lv (tab (ns.take (i+1)) s.data.toList))[0]? = some (.bool false)):=by
        unfold Hid
        rw[qn2 _ _ (qi _),HTS.out,qo8 h257]
       go_wp2_with fail
       go_roundw
       case rel=>exact⟨0+1,xs,by omega,by first | rfl | go_num,fillz_keep HF.out HU.out,HO.out,HR.out,HB.out⟩
       case measure=>simp[intOf] <;> omega
      ·
       obtain⟨j,rfl⟩:∃j,k=j+1:=⟨k-1,by omega⟩
       have hcan:=rd_tab HR.out (k:=j) (by rw[HS.out];omega)
       have hjs:j<s.size:=by omega
       have HU:Hid ((lv (tab (ns.take (i+1)) s.data.toList))[j+1]? = some (.bool (qhx (ns.take i) (s.data.toList.take j)&&one ns[i] s[j]))):=by
        unfold Hid
        rw[qn2 _ _ (by rw[HS.out];exact hkl),HTS.out,qo9 h257 _ (by rw[HS.out];exact hjs)]
        rfl
       have lj:s[j].toNat<256:=zp _
       generalize qhx (ns.take i) (s.data.toList.take j)=x at *
       have ijs:(j:Int)<(s.size:Int):=by omega
       cases x
       ·
        rw[kw] at HU
        go_wp2_with fail
        go_roundw
        case rel=>exact⟨j+1+1,xs,by omega,by first | rfl | go_num,fillz_keep HF.out HU.out,HO.out,HR.out,HB.out⟩
        case measure=>simp[intOf] <;> omega
       ·
        rw[qbb] at HU
        have HST2:=fun u=>qa ((ju HO.out (fun _ _=>rfl):wr.drew.ownsRow wo.heap.size 4 1 (.slice (some ⟨wo.heap.size,0,none⟩) (s.size+1) (s.size+1)) (s.size+1) xs).stored (j+1) u)
        have HRD4:=qa HR.out.drew
        have HBD:Hid (Below w.heap.size w wr.drew):=zg HB.out 1
        have j0:(0:Int)≤(j:Int)+1:=by omega
        have hjw:IntKind.i64.wrap (j:Int)=(j:Int):=z8 _ (by omega)
        have hjp:(0:Int)≤(j:Int):=by omega
        have hfd:wr.drew.frozen? ⟨wo.heap.size,j+1,none⟩=false:=hfr
        have hcd:wr.drew.cell? ⟨wo.heap.size,j+1,none⟩=some (.bool false):=hcx
        by_cases h256:ns[i]=256
        ·
         have h1:one ns[i] s[j]=true:=by unfold one;rw[h256];rfl
         rw[h1] at HU
         rw[h256] at hsig
         clear h1
         have hsd:wr.drew.cell? ⟨b,off+i,none⟩=some (.int .i64 (256:Int)):=hsig
         go_wp2_with fail
         refine wp_region_still_tail 20 (by kernel_rfl) (by kernel_rfl) ?_
         change wpStill _ _ wr.drew (fun a'=>wpList _ _ _ _ a' wr.drew) _ _
         have hz4:wo.heap.size<wr.drew.heap.size:=hgb
         generalize wr.drew=w4 at *
         simp only[jn,y8,vt,jx]
         iterate 7 still_step
         refine wpStill_step (fun K hK => ?_)
         go_simp
         with_reducible refine hK _ ?_
         clear hK K
         with_reducible refine qc0 ?_ ?_
         ·
          rfl
         with_reducible simp only[Act.put,xp,um,uo]
         with_reducible refine qc0 ?_ ?_
         ·
          rfl
         with_reducible simp only[Act.put,xp,um,uo]
         with_reducible refine qc0 ?_ ?_
         ·
          rfl
         with_reducible simp only[Act.put,xp,um,uo]
         with_reducible refine qc0 ?_ ?_
         ·
          rfl
         with_reducible simp only[Act.put,xp,um,uo]
         with_reducible refine qc0 ?_ ?_
         ·
          rfl
         with_reducible simp only[Act.put,xp,um,uo]
         with_reducible refine qc0 ?_ ?_
         ·
          rfl
         with_reducible simp only[Act.put,xp,um,uo]
         with_reducible refine qc0 ?_ ?_
         ·
          rfl
         with_reducible simp only[Act.put,xp,um,uo]
         with_reducible refine qc0 ?_ ?_
         ·
          rfl
         with_reducible simp only[Act.put,xp,um,uo]
         with_reducible refine qc0 ?_ ?_
         ·
          rfl
         with_reducible simp only[Act.put,xp,um,uo]
         with_reducible refine qc0 ?_ ?_
         ·
          rfl
         with_reducible simp only[Act.put,xp,um,uo]
         still_step
         still_step
         refine wpStill_nil ?_
         go_wp2
         go_roundw
         case rel=>exact⟨j+1+1,_,by omega,by first | rfl | go_num,qjy HF.out _ HU.out,(HST2 _).out.1,HRD4.out.grown (HST2 _).out.2 (qdo hz4) (fun q hq=>by simp[Value.ownBlock] at hq;omega),qf7 HBD.out (HST2 _).out.2 HBD.out.size (by omega)⟩
         case measure=>simp[intOf] <;> omega
        ·
         have i256:¬(ns[i]:Int)=256:=by omega
         have h1:one ns[i] s[j]=decide ((ns[i]:Int)=(s[j].toNat:Int)):=by
          unfold one
          rw[beq_false_of_ne h256,Bool.false_or,j5,beq_iff_eq,decide_eq_true_eq]
          omega
         rw[h1] at HU
         clear h1
         generalize ns[i]=cc at *
         have i256b:((cc:Int)==256)=false:=qr.2 i256
         by_cases hcs:(cc:Int)=(s[j].toNat:Int)
         ·
          rw[qp hcs] at HU
          have hcb:((cc:Int)==(s[j].toNat:Int))=true:=beq_iff_eq.2 hcs
          clear hcs
          have hsd:wr.drew.cell? ⟨b,off+i,none⟩=some (.int .i64 (cc:Int)):=hsig
          go_wp2_with fail
          refine wp_region_still_tail 20 (by kernel_rfl) (by kernel_rfl) ?_
          change wpStill _ _ wr.drew (fun a'=>wpList _ _ _ _ a' wr.drew) _ _
          have hz4:wo.heap.size<wr.drew.heap.size:=hgb
          generalize wr.drew=w4 at *
          simp only[jn,y8,vt,jx]
          iterate 7 still_step
          refine wpStill_step (fun K hK => ?_)
          go_simp
          with_reducible refine hK _ ?_
          clear hK K
          with_reducible refine vu ?_ ?_
          ·
           rfl
          intro K hK
          go_simp
          with_reducible refine hK _ ?_
          clear hK K
          with_reducible refine vu ?_ ?_
          ·
           rfl
          intro K hK
          go_simp
          with_reducible refine hK _ ?_
          clear hK K
          with_reducible refine vu ?_ ?_
          ·
           rfl
          intro K hK
          go_simp
          with_reducible refine hK _ ?_
          clear hK K
          with_reducible refine vu ?_ ?_
          ·
           rfl
          intro K hK
          go_simp
          with_reducible refine hK _ ?_
          clear hK K
          with_reducible refine vu ?_ ?_
          ·
           rfl
          intro K hK
          go_simp
          with_reducible refine hK _ ?_
          clear hK K
          with_reducible refine vu ?_ ?_
          ·
           rfl
          intro K hK
          go_simp
          with_reducible refine hK _ ?_
          clear hK K
          with_reducible refine vu ?_ ?_
          ·
           rfl
          intro K hK
          go_simp
          with_reducible refine hK _ ?_
          clear hK K
          with_reducible refine vu ?_ ?_
          ·
           rfl
          intro K hK
          go_simp
          with_reducible refine hK _ ?_
          clear hK K
          with_reducible refine vu ?_ ?_
          ·
           rfl
          intro K hK
          go_simp
          with_reducible refine hK _ ?_
          clear hK K
          with_reducible refine vu ?_ ?_
          ·
           rfl
          intro K hK
          go_simp
          with_reducible refine hK _ ?_
          clear hK K
          still_step
          still_step
          refine wpStill_nil ?_
          go_wp2
          go_roundw
          case rel=>exact⟨j+1+1,_,by omega,by first | rfl | go_num,qjy HF.out _ HU.out,(HST2 _).out.1,HRD4.out.grown (HST2 _).out.2 (qdo hz4) (fun q hq=>by simp[Value.ownBlock] at hq;omega),qf7 HBD.out (HST2 _).out.2 HBD.out.size (by omega)⟩
          case measure=>simp[intOf] <;> omega
         ·
          rw[ql hcs] at HU
          have hcb:((cc:Int)==(s[j].toNat:Int))=false:=qr.2 hcs
          have hsd:wr.drew.cell? ⟨b,off+i,none⟩=some (.int .i64 (cc:Int)):=hsig
          go_wp2_with fail
          refine wp_region_still_tail 20 (by kernel_rfl) (by kernel_rfl) ?_
          change wpStill _ _ wr.drew (fun a'=>wpList _ _ _ _ a' wr.drew) _ _
          have hz4:wo.heap.size<wr.drew.heap.size:=hgb
          generalize wr.drew=w4 at *
          simp only[jn,y8,vt,jx]
          iterate 7 still_step
          refine wpStill_step (fun K hK => ?_)
          go_simp
          with_reducible refine hK _ ?_
          clear hK K
          with_reducible refine vu ?_ ?_
          ·
           rfl
          intro K hK
          go_simp
          with_reducible refine hK _ ?_
          clear hK K
          with_reducible refine vu ?_ ?_
          ·
           rfl
          intro K hK
          go_simp
          with_reducible refine hK _ ?_
          clear hK K
          with_reducible refine vu ?_ ?_
          ·
           rfl
          intro K hK
          go_simp
          with_reducible refine hK _ ?_
          clear hK K
          with_reducible refine vu ?_ ?_
          ·
           rfl
          intro K hK
          go_simp
          with_reducible refine hK _ ?_
          clear hK K
          with_reducible refine vu ?_ ?_
          ·
           rfl
          intro K hK
          go_simp
          with_reducible refine hK _ ?_
          clear hK K
          with_reducible refine vu ?_ ?_
          ·
           rfl
          intro K hK
          go_simp
          with_reducible refine hK _ ?_
          clear hK K
          with_reducible refine vu ?_ ?_
          ·
           rfl
          intro K hK
          go_simp
          with_reducible refine hK _ ?_
          clear hK K
          with_reducible refine vu ?_ ?_
          ·
           rfl
          intro K hK
          go_simp
          with_reducible refine hK _ ?_
          clear hK K
          with_reducible refine vu ?_ ?_
          ·
           rfl
          intro K hK
          go_simp
          with_reducible refine hK _ ?_
          clear hK K
          with_reducible refine vu ?_ ?_
          ·
           rfl
          intro K hK
          go_simp
          with_reducible refine hK _ ?_
          clear hK K
          still_step
          still_step
          refine wpStill_nil ?_
          go_wp2
          go_roundw
          case rel=>exact⟨j+1+1,_,by omega,by first | rfl | go_num,qjy HF.out _ HU.out,(HST2 _).out.1,HRD4.out.grown (HST2 _).out.2 (qdo hz4) (fun q hq=>by simp[Value.ownBlock] at hq;omega),qf7 HBD.out (HST2 _).out.2 HBD.out.size (by omega)⟩
          case measure=>simp[intOf] <;> omega
    ·
     have ikl:¬(k:Int)≤(s.size:Int):=by omega
     have hall:=fillz_all HF.out (by rw[vk,qgw,HS.out];omega)
     have hoL:=HO.out
     rw[hall] at hoL
     have HOL:=qa hoL
     clear hall hoL
     go_wp2_with fail
     go_roundw
     case rel=>exact⟨i+1,wo.heap.size,by omega,by go_num,rfl,own_lower HOL.out hsz,HB.out⟩
     case measure=>simp[intOf] <;> omega
  ·
   have ik:¬(i:Int)<(ns.length:Int):=by omega
   have hcl:=rd_tab (qp7 HO.out) (k:=s.size) (by rw[HS.out];exact qc _)
   rw[qo (by omega),qo (by rw[HS.out];exact qc _)] at hcl
   have hsz3:(s.size:Int)<((s.size+1:Nat):Int):=by omega
   rw[HV.out] at hcl
   go_wp2_with fail
   go_ret
   exact⟨rfl,HB.out⟩
theorem run_lit{c:Nat}(h:c<256)(acc:List UInt8)(p:List Nat):qk7 acc (c :: p)=qk7 (acc++[UInt8.ofNat c]) p:=by
 rw[qk7,if_pos h]
theorem run_wild{c:Nat}(h:¬c<256)(acc:List UInt8)(p:List Nat):qk7 acc (c :: p)=(if acc=[] then [] else [acc])++qk7 [] p:=by
 rw[qk7,if_neg h]
section
set_option maxRecDepth 100000
def renw:Go.Shelf.Ren:=⟨fun | 167=>185 | 169=>186 | 240=>207 | 276=>228 | n=>n,fun | 0=>0 | 3=>3 | 4=>4 | 5=>5 | 9=>9 | 20=>20 | 37=>26 | 70=>212 | 72=>214 | 75=>216 | 80=>218 | 127=>233 | 164=>245 | n=>n,fun n=>n⟩
theorem laysw167:Go.Proofs.Lays.n167 Tryz.prog renw:={
 mixed:=by kernel_rfl
 f167:=Tryz.func185.trans (congrArg some (by kernel_rfl))
 f240:=Tryz.func207.trans (congrArg some (by kernel_rfl))
 f276:=Tryz.func228.trans (congrArg some (by kernel_rfl))
 t0:=Tryz.underlying0
 a0:=Tryz.isAgg0
 z0:=Tryz.sizeOf0
 v0:=Tryz.zeroValue0
 t4:=Tryz.underlying4
 a4:=Tryz.isAgg4
 z4:=Tryz.sizeOf4
 v4:=Tryz.zeroValue4
 t5:=Tryz.underlying5
 a5:=Tryz.isAgg5
 z5:=Tryz.sizeOf5
 v5:=Tryz.zeroValue5
 t9:=Tryz.underlying9
 a9:=Tryz.isAgg9
 z9:=Tryz.sizeOf9
 v9:=Tryz.zeroValue9
 t20:=Tryz.underlying20
 a20:=Tryz.isAgg20
 z20:=Tryz.sizeOf20
 v20:=Tryz.zeroValue20
 t37:=Tryz.underlying26
 a37:=Tryz.isAgg26
 z37:=Tryz.sizeOf26
 v37:=Tryz.zeroValue26
 t70:=Tryz.underlying212
 a70:=Tryz.isAgg212
 z70:=Tryz.sizeOf212
 v70:=Tryz.zeroValue212
 t72:=Tryz.underlying214
 a72:=Tryz.isAgg214
 z72:=Tryz.sizeOf214
 v72:=Tryz.zeroValue214
 t75:=Tryz.underlying216
 a75:=Tryz.isAgg216
 z75:=Tryz.sizeOf216
 v75:=Tryz.zeroValue216
 t164:=Tryz.underlying245
 a164:=Tryz.isAgg245
 z164:=Tryz.sizeOf245
 v164:=Tryz.zeroValue245 }
theorem laysw169:Go.Proofs.Lays.n169 Tryz.prog renw:={
 mixed:=by kernel_rfl
 f169:=Tryz.func186.trans (congrArg some (by kernel_rfl))
 t0:=Tryz.underlying0
 a0:=Tryz.isAgg0
 z0:=Tryz.sizeOf0
 v0:=Tryz.zeroValue0
 t3:=Tryz.underlying3
 a3:=Tryz.isAgg3
 z3:=Tryz.sizeOf3
 v3:=Tryz.zeroValue3
 t9:=Tryz.underlying9
 a9:=Tryz.isAgg9
 z9:=Tryz.sizeOf9
 v9:=Tryz.zeroValue9
 t37:=Tryz.underlying26
 a37:=Tryz.isAgg26
 z37:=Tryz.sizeOf26
 v37:=Tryz.zeroValue26
 t70:=Tryz.underlying212
 a70:=Tryz.isAgg212
 z70:=Tryz.sizeOf212
 v70:=Tryz.zeroValue212
 t72:=Tryz.underlying214
 a72:=Tryz.isAgg214
 z72:=Tryz.sizeOf214
 v72:=Tryz.zeroValue214
 t127:=Tryz.underlying233
 a127:=Tryz.isAgg233
 z127:=Tryz.sizeOf233
 v127:=Tryz.zeroValue233 }
theorem extraw:Builder.Extra Tryz.prog renw:={
 sizeBuilder:=by kernel_rfl
 liesBuilder:=by kernel_rfl
 t5:=Tryz.underlying5
 a5:=Tryz.isAgg5
 z5:=Tryz.sizeOf5
 v5:=Tryz.zeroValue5
 infoByte:=by kernel_rfl
 cellsByte:=by kernel_rfl
 sizeByte:=by kernel_rfl
 neB5:=by decide }
abbrev Bld (B b:Nat) (l:List UInt8) (w:World):Prop:=Lib.IsBuilderF 214 5 B b (Lib.byteCells l) w
abbrev Kept (b:Nat) (w w':World):Prop:=Lib.OthersKept 5 (some b) w w'
theorem write_byte{w:World}(B b:Nat)(l:List UInt8)(c:UInt8)(h:Bld B b l w)(hl:l.length+1≤140737488355328)(hBw:B≤w.heap.size) :
  Calls Tryz.prog 185 #[.pointer (some ⟨b,0,none⟩),.int .u8 (c.toNat:Int)] w fun e w'=>e= .returned .nilIface∧Bld B b (l++[c]) w'∧Below B w w'∧Kept b w w' :=
 (Any.Builder_WriteByte_k laysw167 extraw B b _ _ w h (by rw[Lib.byteCells_length];exact hl) hBw).mono fun _ _ h=>⟨h.1,by unfold Bld;rw[Lib.byteCells_append];exact Or.inr h.2.1,h.2.2.1,h.2.2.2⟩
theorem built{w:World}(B b:Nat)(l:List UInt8)(h:Bld B b l w)(hBw:B≤w.heap.size) :
  Calls Tryz.prog 186 #[.pointer (some ⟨b,0,none⟩)] w fun e w'=>e= .returned (.string ⟨l.toArray⟩)∧Below B w w' :=
 (Any.Builder_String_any_k laysw169 extraw B b l w h hBw).mono fun _ _ h=>⟨h.1,h.2.2.1⟩
theorem fresh{w:World}:Bld w.heap.size w.heap.size [] (w.alloc (.cells #[.pointer none,.slice none 0 0] 214)):=Lib.IsBuilderF.of (Lib.fresh_isBuilder 214 5 w)
end
def qhp:List Nat→List UInt8
 | []=>[]
 | c :: p=>if c<256 then UInt8.ofNat c :: qhp p else []
theorem lit_byte{c:Nat}(h:c<256)(p:List Nat):qhp (c :: p)=UInt8.ofNat c :: qhp p:=by rw[qhp,if_pos h]
theorem lit_wild{c:Nat}(h:¬c<256)(p:List Nat):qhp (c :: p)=[]:=by rw[qhp,if_neg h]
theorem lit_le:∀p,(qhp p).length≤p.length
 | []=>qc _
 | c :: p=>by
  unfold qhp
  split
  ·
   have:=lit_le p
   simpa using this
  ·
   simp
theorem run_acc:∀(p:List Nat) (acc:List UInt8),qk7 acc p=(if acc++qhp p=[] then [] else [acc++qhp p])++qk7 [] (p.drop (qhp p).length)
 | [],acc=>by simp[qhp,qk7]
 | c :: p,acc=>by
  by_cases h:c<256
  ·
   rw[run_lit h,run_acc p,lit_byte h]
   simp
  ·
   rw[run_wild h,lit_wild h]
   rw[je,jx,run_wild h,jj]
   simp
theorem runs_some{p:List Nat}(h:qhp p≠[]):qec p=qhp p :: qec (p.drop (qhp p).length):=by
 unfold qec
 rw[run_acc p [],yk,if_neg h]
 rfl
theorem runs_none{c:Nat}{p:List Nat}(h:qhp (c :: p)=[]):qec (c :: p)=qec p:=by
 unfold qec
 by_cases hc:c<256
 ·
  rw[lit_byte hc] at h
  cases h
 ·
  rw[run_wild hc,if_pos rfl]
  rfl
theorem lliteral_any{w:World}(ns:List Nat){hi c:Nat}{A:Option Addr}(h:Rd w 0 hi A c (iv (zu ns)))(hh:hi≤w.heap.size)(hn:ns.length≤1000000) :
  Calls Tryz.prog 148 #[.slice A ns.length c] w fun r w'=>r= .returned (.string ⟨(qhp ns).toArray⟩)∧Below w.heap.size w w':=by
 have hl:=h.len
 have hc:=h.cap
 rw[ji,zj] at hl
 unfold maxLen at hc
 have H:=qa h
 have HBY:Hid (∀(w:World) (z:Int),Calls Tryz.prog 184 #[.int .i64 z] w fun r w'=>r= .returned (.bool (decide (0≤z)&&decide (z≤255)))∧w=w'):=fun w z=>isByte_any z
 clear h
 go_enter Tryz.func148,Tryz.ntmps148
 go_wp2_with fail
 go_loopw [5,8] (fun x5 x8 wr=>∃(k:Nat) (ys:List UInt8),k≤ns.length∧x8= .int .i64 (k:Int)∧ys.length=k∧ys++qhp (ns.drop k)=qhp ns∧Bld w.heap.size w.heap.size ys wr∧Below w.heap.size w wr) (fun _ x8 _=>ns.length-(intOf x8).toNat)
 case atStart=>exact⟨0,[],qi _,rfl,rfl,rfl,fresh,(Below.refl _ w).alloc (qc _) _⟩
 case round =>
  obtain⟨k,ys,hk,rfl,hyl,hys,hbl,hb⟩:=hrel
  have HYS:=qa hys
  have HYL:=qa hyl
  have hyle:ys.length≤ns.length:=by omega
  have hsz:=hb.size
  have HBL:=qa hbl
  have HB:=qa hb
  clear hys hyl hbl hb
  by_cases hlt:k<ns.length
  ·
   have ik:(k:Int)<(ns.length:Int):=by omega
   obtain⟨b,off,rfl,hsig⟩:=rd_sig (H.out.below HB.out hh) hlt
   have HDN:Hid (ns.drop k=ns[k] :: ns.drop (k+1)):=zv hlt
   generalize ns[k]=x at *
   have hx0:decide (0≤(x:Int))=true:=qp (by omega)
   by_cases h256:x<256
   ·
    have hx1:decide ((x:Int)≤255)=true:=qp (by omega)
    have HLE:Hid ((ys++[UInt8.ofNat x])++qhp (ns.drop (k+1))=qhp ns):=by
     unfold Hid
     rw[←HYS.out,HDN.out,lit_byte h256,qv]
     rfl
    have hx:(UInt8.ofNat x).toNat=x:=by simp;omega
    have hw:=write_byte (w:=wr) w.heap.size w.heap.size ys (UInt8.ofNat x) HBL.out (by omega) hsz
    rw[hx] at hw
    have HWB:=qa hw
    clear hw hx
    generalize UInt8.ofNat x=y at *
    go_wp2_with fail
    refine(HBY.out _ _).mono ?_
    rw[hx0,hx1]
    rintro r w2 ⟨rfl,rfl⟩
    go_wp2_with fail
    refine HWB.out.mono ?_
    rintro r w2 ⟨rfl,hbl2,hb2,_⟩
    go_wp2_with fail
    go_roundw
    case rel=>exact⟨k+1,ys++[y],by omega,by go_num,by rw[qd,HYL.out];rfl,HLE.out,hbl2,HB.out.trans hb2⟩
    case measure=>simp[intOf] <;> omega
   ·
    have hx1:decide ((x:Int)≤255)=false:=ql (by omega)
    have hfin:ys=qhp ns:=by rw[←HYS.out,HDN.out,lit_wild h256,jj]
    have HFU:=qa hfin
    clear hfin
    go_wp2_with fail
    refine(HBY.out _ _).mono ?_
    rw[hx0,hx1]
    rintro r w2 ⟨rfl,rfl⟩
    go_wp2_with fail
    refine(built w.heap.size w.heap.size ys HBL.out hsz).mono ?_
    rintro r w2 ⟨rfl,hb2⟩
    go_wp2_with fail
    go_ret
    exact⟨by rw[←HFU.out];rfl,HB.out.trans hb2⟩
  ·
   have ik:¬(k:Int)<(ns.length:Int):=by omega
   have hfin:ys=qhp ns:=by rw[←HYS.out,vj (by omega),qhp,jj]
   have HFU:=qa hfin
   clear hfin
   go_wp2_with fail
   refine(built w.heap.size w.heap.size ys HBL.out hsz).mono ?_
   rintro r w2 ⟨rfl,hb2⟩
   go_wp2_with fail
   go_ret
   exact⟨by rw[←HFU.out];rfl,HB.out.trans hb2⟩
def slen:Value→Nat | .slice _ n _=>n | _=>0
theorem iv_ints_drop(ms:List Nat)(k:Nat):iv (zu (ms.drop k))=(iv (zu ms)).drop k:=by simp[iv,zu,List.map_drop]
theorem rd_rest{w:World}{lo hi c:Nat}{A:Option Addr}{ms:List Nat}(h:Rd w lo hi A c (iv (zu ms))){k:Nat}(hk:k≤ms.length) :
  Rd w lo hi (if c=k then A else A.map (·.add k)) (c-k) (iv (zu (ms.drop k))):=by
 have h1:=h.cut (k:=k) (n:=ms.length) hk (by rw[ji,zj];exact qc _)
 rw[iv_ints_drop,←qo (l:=(iv (zu ms)).drop k) (i:=ms.length-k) (by rw[qu,ji,zj];exact qc _)]
 exact h1
theorem lruns_any{w:World}(ns:List Nat){c:Nat}{A:Option Addr}(h:Rd w 0 w.heap.size A c (iv (zu ns)))(hn:ns.length≤1000000) :
  Calls Tryz.prog 101 #[.slice A ns.length c] w fun r w'=>∃A' c',r= .returned (.slice A' (qec ns).length c')∧Rd w' 0 w'.heap.size A' c' (sv (j7 (qec ns)))∧Below w.heap.size w w':=by
 have H:=qa h
 clear h
 go_enter Tryz.func101,Tryz.ntmps101
 go_wp2_with fail
 go_loopw [0,3] (fun x0 x3 wr=>∃(ms:List Nat) (os:List ByteArray) (B:Option Addr) (d:Nat) (A':Option Addr) (c':Nat),x0= .slice B ms.length d∧x3= .slice A' os.length c'∧Rd w 0 w.heap.size B d (iv (zu ms))∧os.length+ms.length≤ns.length∧
  os++j7 (qec ms)=j7 (qec ns)∧wr.ownsRow w.heap.size 9 1 (.slice A' os.length c') os.length (sv os)∧Below w.heap.size w wr) (fun x0 _ _=>slen x0)
 case atStart=>exact⟨ns,[],A,c,none,0,rfl,rfl,H.out,by simp,rfl,zh _ _ _ _,Below.refl _ _⟩
 case round =>
  obtain⟨ms,os,B,d,A',c',rfl,rfl,hrd,hle,hinv,hown,hb⟩:=hrel
  have hl:=hrd.len
  have hc:=hrd.cap
  rw[ji,zj] at hl
  unfold maxLen at hc
  have HR:=qa hrd
  have HI:=qa hinv
  have HO:=qa hown
  have HB:=qa hb
  have hsz:=hb.size
  clear hrd hinv hown hb
  by_cases hpos:0<ms.length
  ·
   have ip:(0:Int)<(ms.length:Int):=by omega
   have HLT:=qa (lliteral_any (w:=wr) ms (HR.out.below HB.out (qc _)) hsz (by omega))
   have hll:=lit_le ms
   obtain⟨y,hy⟩:∃y,qhp ms=y:=⟨_,rfl⟩
   by_cases h0:y=[]
   ·
    have hne:y.isEmpty=true:=by rw[h0];rfl
    have HFI:Hid (os++j7 (qec (ms.drop 1))=j7 (qec ns)):=by
     unfold Hid
     rw[←HI.out]
     cases ms with
     | nil=>simp at hpos
     | cons a p=>rw[runs_none (by rw[hy,h0])];rfl
    have HR1:=qa (rd_rest HR.out (k:=1) hpos)
    rw[hy] at HLT hll
    clear hy h0
    go_wp2_with fail
    refine HLT.out.mono ?_
    rintro r w2 ⟨rfl,hb2⟩
    have HB2:=qa (HB.out.trans (hb2.mono hsz))
    have HO2:=qa (js HO.out hb2 (qc _))
    clear hb2
    go_wp2_with fail
    go_roundw
    case rel=>exact⟨ms.drop 1,os,_,_,A',c',by rw[qu];rfl,rfl,HR1.out,by rw[qu];omega,HFI.out,HO2.out,HB2.out⟩
    case measure=>simp[slen] <;> omega
   ·
    have hne:y.isEmpty=false:=xi.2 h0
    have HFI:Hid ((os++[⟨y.toArray⟩])++j7 (qec (ms.drop y.length))=j7 (qec ns)):=by
     unfold Hid
     have hr:qec ms=y :: qec (ms.drop y.length):=by rw[runs_some (p:=ms) (by rw[hy];exact h0),hy]
     rw[←HI.out,hr,qv]
     rfl
    have HR1:=qa (rd_rest HR.out (k:=y.length) (by rw[←hy];exact hll))
    have hpy:0<y.length:=qda.2 h0
    rw[hy] at HLT hll
    have HYZ:Hid ((⟨y.toArray⟩:ByteArray).size=y.length):=by unfold Hid;rfl
    clear hy h0
    go_wp2_with fail
    refine HLT.out.mono ?_
    rintro r w2 ⟨rfl,hb2⟩
    have HB2:=qa (HB.out.trans (hb2.mono hsz))
    have HO2:=qa (js HO.out hb2 (qc _))
    have hsz2:=HB2.out.size
    clear hb2
    go_wp2_with (at_builtin;refine xz (v:= .slice A' os.length c') w.heap.size os (⟨y.toArray⟩) rfl _ _ rfl rfl rfl rfl (by rw[za _ _ _ _ rfl];rfl) (HO2.out.alloc _) (by omega) (by simp;omega) ?_;intro A2 c2 w3 ho3 hg3)
    go_roundw
    case rel=>exact⟨ms.drop y.length,os++[⟨y.toArray⟩],_,_,A2,c2,by rw[qu],by rw[qd];rfl,HR1.out,by rw[qd,qu,qt,je];omega,HFI.out,ho3,(HB2.out.alloc hsz2 _).grown hg3 (by simp;omega) (fun q hq=>(zk HO2.out hq).1)⟩
    case measure=>simp[slen] <;> omega
  ·
   have ip:¬(0:Int)<(ms.length:Int):=by omega
   have hf:os=j7 (qec ns):=by
    have hm:ms=[]:=zd (by omega)
    rw[←HI.out,hm]
    simp[qec,qk7,j7]
   have HF:=qa hf
   have HFL:Hid (os.length=(qec ns).length):=by unfold Hid;rw[hf,yo]
   clear hf
   go_wp2_with fail
   go_ret
   exact⟨A',c',by rw[←HFL.out];rfl,by rw[←HF.out];exact(Rd.of_own HO.out).wide (qi _) (qc _),HB.out⟩
end Go.Proofs.YtnjkipnklpkaoaaGreat
