/-
  Lemmas.
-/
import Derived.Test.YtnjkipnklpkaoaaGreatA28
import Derived.Test.YtnjkipnklpkaoaaGreatA56
namespace Go.Proofs.YtnjkipnklpkaoaaGreat
open Go.RowKit
set_option maxRecDepth 20000
set_option maxHeartbeats 16000000
set_option linter.unusedSimpArgs false
set_option linter.unusedVariables false
theorem iv_take(l:List Int)(k:Nat):iv (l.take k)=(iv l).take k:=by simp[iv,qbx]
theorem qfd(w:World)(t:TypeId):(w.alloc (.cells #[] t)).ownsRow w.heap.size t 1 (.slice (some ⟨w.heap.size,0,none⟩) 0 0) 0 []:=by
 have:=vm (e:=t) (size:=1) (base:=w.heap.size) w #[] 0 (qc _) (by simp[maxLen]) (by simp)
 exact this
theorem qio(w:World)(t:TypeId)(v:Value):(w.alloc (.cells #[v] t)).cell? ⟨w.heap.size,0,none⟩=some v:=by rw[za _ _ _ _ rfl];rfl
theorem qmp(w:World)(o:Obj)(t:TypeId):((w.alloc o).alloc (.cells #[] t)).ownsRow w.heap.size t 1 (.slice (some ⟨w.heap.size+1,0,none⟩) 0 0) 0 []:=by
 have h:=qfd (w.alloc o) t
 rw[yl] at h
 exact j4 h (Nat.le_succ _)
theorem qkq(w:World)(t t':TypeId)(v:Value):((w.alloc (.cells #[] t')).alloc (.cells #[v] t)).cell? ⟨w.heap.size+1,0,none⟩=some v:=by
 have h:=qio (w.alloc (.cells #[] t')) t v
 rw[yl] at h
 exact h
theorem qi6(w:World)(t t':TypeId)(v:Value):((w.alloc (.cells #[v] t)).alloc (.cells #[] t')).cell? ⟨w.heap.size,0,none⟩=some v :=
 (World.cell?_alloc_lt (w.alloc (.cells #[v] t)) _ _ (by rw[yl];exact Nat.lt_succ_self _)).trans (qio w t v)
theorem qe5{w w':World}{row:Option Nat}{g:Nat}{v:Value}(hg:w.grownBy w' row)(hc:w.cell? ⟨g,0,none⟩=some v)(hne:some g≠row):w'.cell? ⟨g,0,none⟩=some v :=
 (qbk (hg.block g (yv w _ hc) hne)).trans hc
theorem qmc(w:World)(base:Nat)(v:Value)(ys zs us:List Int)(hus:ys++zs=us)(hown:w.ownsRow base 3 1 v ys.length (iv ys)){lo h':Nat}{A:Option Addr}{c:Nat}(hr:Rd w lo h' A c (iv zs))
  (hb:ys.length+zs.length≤17592186044416) (hbase:base≤w.heap.size) :
  ∃A' c' w',(Builtin.append_ #[64,64] 64 #[v,.slice A zs.length c]).run Tryz.prog w= .ok (.slice A' us.length c') w'∧
   w'.ownsRow base 3 1 (.slice A' us.length c') us.length (iv us)∧w.grownBy w' v.ownBlock:=by
 subst hus
 obtain⟨i0,hi0,hz0,hz1,hz2⟩:=info_parts Tryz.infoI64
 have hl:=ji zs
 obtain⟨A',c',w',hrun,h2,h3,_⟩:=ui (P:=Tryz.prog) w base 64 64 3 i0 _ 8 Tryz.underlying64 hi0 hz0 hz1 hz2 rfl v ys.length (iv ys) hown lo h' A c (iv zs) hr (iv_one _)
  (by rw[hl];simp only[maxLen];omega) (by rw[hl];omega) hbase
 rw[hl] at hrun h2
 rw[qd]
 exact⟨A',c',w',hrun,by rw[iv_append];exact h2,h3⟩
theorem qa4{ops:Array Oper}{rest:List Oper}{o:Oper}{a:Act}{Q:Exit→Act→World→Prop}{w:World}{v:Value}{g:Nat}(base:Nat)(ys:List Int)(z:Int)(hgd:o.guard=none)(s x:Operand)
  (ho:o.op= .call { callee:= .builtin .append,args:=#[s,x],argTypes:=#[64,64] }) (hty:o.type=64)
  (hs:a.eval s=v) (hx:a.eval x= .slice (some ⟨g,0,none⟩) 1 1) (hcell:w.cell? ⟨g,0,none⟩=some (.int .i64 z))
  (hown:w.ownsRow base 3 1 v ys.length (iv ys)) (hb:ys.length+1≤17592186044416) (hbase:base≤w.heap.size)
  (h:∀A' c' w',w'.ownsRow base 3 1 (.slice A' (ys++[z]).length c') (ys++[z]).length (iv (ys++[z]))→w.grownBy w' v.ownBlock→wpList Tryz.prog ops Q rest (a.put o.dst (.slice A' (ys.length+1) c')) w') :
  wpList Tryz.prog ops Q (o :: rest) a w:=by
 have hr:Rd w 0 w.heap.size (some ⟨g,0,none⟩) 1 (iv [z]):=⟨by simp[iv],by simp[maxLen],fun _=>⟨g,0,rfl,qi _,yv w _ hcell,fun j u hu=>by
  match j,hu with
  | 0,hu =>
   simp[iv] at hu
   subst hu
   exact hcell
  | j+1,hu=>simp[iv] at hu⟩⟩
 obtain⟨A',c',w',hrun,h2,h3⟩:=qmc w base v ys [z] (ys++[z]) rfl hown hr (by simpa using hb) hbase
 rw[show(ys++[z]).length=ys.length+1 from by simp] at hrun
 exact wpList_append_run hgd s x _ _ ho hs hx (by rw[hty];exact hrun) (h A' c' w' h2 h3)
theorem qao{ops:Array Oper}{o:Oper}{a:Act}{w:World}{K:Act→World→Prop}{Q:Exit→Act→World→Prop}{F:Prop}{v:Value}(base:Nat)(ys zs us:List Int)(hus:ys++zs=us)(n m p:Nat)(hn:ys.length=n)(hm:zs.length=m)(hp:us.length=p)(hgd:o.guard=none)(s x:Operand)
  (ho:o.op= .call { callee:= .builtin .append,args:=#[s,x],argTypes:=#[64,64] }) (hty:o.type=64)
  (hs:a.eval s=v) {A:Option Addr} {c:Nat} (hx:a.eval x= .slice A m c)
  (hown:w.ownsRow base 3 1 v n (iv ys)) {lo h':Nat} (hr:Rd w lo h' A c (iv zs)) (hb:n+m≤1000000000) (hbase:base≤w.heap.size)
  (h:∀A' c' w',w'.ownsRow base 3 1 (.slice A' p c') p (iv us)→w.grownBy w' v.ownBlock→K (a.put o.dst (.slice A' p c')) w') :
  if Region.wanted o (yielded ops a.tmps)=true then Oper.wp Tryz.prog o a w K Q else F:=by
 subst hn hm hp
 have hw:Region.wanted o (yielded ops a.tmps)=true:=by simp[Region.wanted,hgd]
 rw[if_pos hw]
 obtain⟨A',c',w',hrun,h2,h3⟩:=qmc w base v ys zs us hus hown hr (by omega) hbase
 unfold Oper.wp execOp
 simp only[ho,hty,resolve,invoke,builtin,Sem.run_bind,Sem.run_pure,Result.andThen_ok,List.map_toArray,ym,uq,hs,hx,hrun]
 exact h A' c' w' h2 h3
theorem rd_num1{w:World}{g:Nat}{z:Int}(h:w.cell? ⟨g,0,none⟩=some (.int .i64 z)):Rd w 0 w.heap.size (some ⟨g,0,none⟩) 1 (iv [z]):=⟨by simp[iv],by simp[maxLen],fun _=>⟨g,0,rfl,qi _,yv w _ h,fun j u hu=>by
  match j,hu with
  | 0,hu =>
   simp[iv] at hu
   subst hu
   exact h
  | j+1,hu=>simp[iv] at hu⟩⟩
theorem ints_app(a b:List Nat):zu (a++b)=zu a++zu b:=by simp[zu]
theorem ints_take(l:List Nat)(k:Nat):zu (l.take k)=(zu l).take k:=by simp[zu,qbx]
theorem ints_drop(l:List Nat)(k:Nat):zu (l.drop k)=(zu l).drop k:=by simp[zu,List.map_drop]
theorem iv_drop(l:List Int)(k:Nat):iv (l.drop k)=(iv l).drop k:=by simp[iv,List.map_drop]
theorem putg_any{w:World}(L t:List Nat)(g:Nat){lo c:Nat}{A:Option Addr}(h:Rd w lo w.heap.size A c (iv (zu t)))(hlo:lo≤w.heap.size)(hs:Rise L t)(hlen:t.length≤100000000) :
  Calls Tryz.prog 94 #[.slice A t.length c,.int .i64 (g:Int)] w fun r w'=>∃(u:List Nat) (A':Option Addr) (c':Nat),r= .returned (.slice A' u.length c')∧Rise (L++[g]) u∧
   Rd w' lo w'.heap.size A' c' (iv (zu u))∧Below w.heap.size w w':=by
 have hl:=h.len
 have hm:=h.cap
 rw[ji,zj] at hl
 unfold maxLen at hm
 have H:=qa h
 have HS:=qa hs
 clear h hs
 go_enter Tryz.func94,Tryz.ntmps94
 go_wp2_with fail
 go_loopw [5] (fun x5 wv=>∃(k m:Nat),k≤t.length∧x5= .int .i64 (k:Int)∧(∀j (hj:j<t.length),j<k→t[j]<g)∧wv=w.drewN m) (fun x5 _=>t.length-(intOf x5).toNat)
 case atStart=>exact⟨0,0,qi _,rfl,fun j _ h=>absurd h (jp j),rfl⟩
 case round =>
  obtain⟨k,m,hk,rfl,hal,rfl⟩:=hrel
  have HAL:=qa hal
  clear hal
  by_cases hkt:k<t.length
  ·
   have ikt:(k:Int)<(t.length:Int):=by omega
   have dkt:decide (k<t.length)=true:=qp hkt
   obtain⟨b2,off2,rfl,_,_,hcell⟩:=H.out.nat hkt
   have hcell2:(w.drewN m).cell? ⟨b2,off2+k,none⟩=some (.int .i64 ((t[k]:Nat):Int)):=hcell
   have HNX:Hid (t[k]<g→∀j (hj:j<t.length),j<k+1→t[j]<g):=fun h j hj hjk=>by
    rcases xc j k with h2 | h2
    ·
     exact HAL.out j hj h2
    ·
     have:j=k:=by omega
     subst this
     exact h
   obtain⟨z,hz⟩:∃z,t[k]=z:=⟨_,rfl⟩
   have HZ:=qa hz
   rw[hz] at hcell hcell2 HNX
   clear hz
   by_cases hzg:z<g
   ·
    have dz:decide (z<g)=true:=qp hzg
    have dz2:decide ((z:Int)<(g:Int))=true:=qp (by omega)
    have HN2:=qa (HNX.out hzg)
    go_wp2_with fail
    go_roundw
    case rel=>exact⟨k+1,_,by omega,by go_num,HN2.out,by first | rfl | (rw[zr])⟩
    case measure=>simp[intOf] <;> omega
   ·
    have dz:decide (z<g)=false:=ql hzg
    have dz2:decide ((z:Int)<(g:Int))=false:=ql (by omega)
    by_cases hze:z=g
    ·
     have HRS:Hid (Rise (L++[g]) t):=HS.out.there (by rw[←hze,←HZ.out];exact qj hkt)
     have e1:((z:Int)==(g:Int))=true:=by rw[hze];exact beq_self_eq_true _
     have e2:(z:Int)=(g:Int):=by omega
     have HH:Hid (Rd (w.drewN m) lo (w.drewN m).heap.size (some ⟨b2,off2,none⟩) c (iv (zu t))):=H.out.drewN m
     clear hze
     go_wp2_with fail
     go_ret
     exact⟨t,_,c,rfl,HRS.out,HH.out,zg (Below.refl _ w) m⟩
    ·
     have e1:((z:Int)==(g:Int))=false:=by rw[qr];omega
     have e2:¬(z:Int)=(g:Int):=by omega
     have HGT:Hid (∀hk:k<t.length,g<t[k]):=fun h=>by have:=HZ.out;omega
     clear hze
     go_wp2_with fail
     have hkc:k≤c:=by omega
     have HT1:Hid ((zu (t.take k)).length=k):=by unfold Hid;rw[zj,qy];omega
     have HT2:Hid ((zu (t.drop k)).length=t.length-k):=by unfold Hid;rw[zj,qu]
     have HRT:Hid (∀wx,Below w.heap.size w wx→Rd wx 0 wx.heap.size (some ⟨b2,off2,none⟩) c (iv (zu (t.take k)))):=fun wx hx=>by
      rw[ints_take,iv_take]
      exact((H.out.below hx (qc _)).take_ k).wide (qi _) hx.size
     have HRD:Hid (∀wx,Below w.heap.size w wx→Rd wx 0 wx.heap.size (if c=k then some ⟨b2,off2,none⟩ else some ⟨b2,off2+k,none⟩) (c-k) (iv (zu (t.drop k)))):=fun wx hx=>by
      have h1:=(H.out.below hx (qc _)).cut (k:=k) (n:=t.length) hk (by rw[ji,zj];exact qc _)
      rw[ints_drop,iv_drop,←qo (l:=(iv (zu t)).drop k) (i:=t.length-k) (by rw[qu,ji,zj];exact qc _)]
      have e9:(some ⟨b2,off2,none⟩:Option Addr).map (·.add k)=some ⟨b2,off2+k,none⟩:=by
       show some (Addr.add ⟨b2,off2,none⟩ k)=_
       unfold Addr.add
       by_cases h0:k=0 <;> simp[h0]
      rw[e9] at h1
      exact h1.wide (qi _) hx.size
     have HBM:Hid (∀M,Below w.heap.size w (w.drewN M)):=fun M=>zg (Below.refl _ w) M
     have HBA:Hid (∀wx o,Below w.heap.size w wx→Below w.heap.size w (wx.alloc o)):=fun wx o hx=>hx.alloc hx.size o
     have HBG:Hid (∀(wx wx':World) (row:Option Nat),Below w.heap.size w wx→wx.grownBy wx' row→(∀g,row=some g→w.heap.size≤g)→Below w.heap.size w wx'):=fun wx wx' row hx hg hr=>hx.grown hg hx.size hr
     obtain⟨tm,htm⟩:∃tm,zu (t.take k)++[(g:Int)]=tm:=⟨_,rfl⟩
     obtain⟨tn,htn⟩:∃tn,tm++zu (t.drop k)=tn:=⟨_,rfl⟩
     have HTM:=qa htm
     have HTN:=qa htn
     have HT3:Hid (tm.length=k+1):=by unfold Hid;rw[←htm,qd,HT1.out];rfl
     have HT4:Hid (tn.length=k+1+(t.length-k)):=by unfold Hid;rw[←htn,qd,HT3.out,HT2.out]
     obtain⟨u,hu⟩:∃u,t.take k++g :: t.drop k=u:=⟨_,rfl⟩
     have HUN:Hid (tn=zu u):=by
      unfold Hid
      rw[←htn,←htm,←hu,ints_app]
      simp[zu]
     have HUL:Hid (u.length=k+1+(t.length-k)):=by have:=HT4.out;rw[HUN.out,zj] at this;exact this
     have HRI:Hid (Rise (L++[g]) u):=by unfold Hid;rw[←hu];exact HS.out.put HAL.out HGT.out
     clear htm htn hu
     go_region_law (first
      | (refine qao (v:= .slice (some ⟨w.heap.size,0,none⟩) 0 0) w.heap.size [] (zu (t.take k)) (zu (t.take k)) rfl 0 k k rfl HT1.out HT1.out rfl (.tmp 33) (.tmp 36) rfl rfl (by simp[Act.eval,Act.put]) (by simp[Act.eval,Act.put]) (by first | exact qfd _ _ | exact(qfd _ _).alloc _) (HRT.out _ (by first | exact HBA.out _ _ (HBM.out _) | exact HBA.out _ _ (HBA.out _ _ (HBM.out _)))) (by omega) (by simp <;> omega) ?_;intro A4 c4 w4 ho4 hg4;have hb4:Below w.heap.size w w4:=HBG.out _ _ _ (by first | exact HBA.out _ _ (HBM.out _) | exact HBA.out _ _ (HBA.out _ _ (HBM.out _))) hg4 (fun g hg=>by simp[Value.ownBlock] at hg;omega))
      | (refine qao (v:= .slice (some ⟨w.heap.size+1,0,none⟩) 0 0) w.heap.size [] (zu (t.take k)) (zu (t.take k)) rfl 0 k k rfl HT1.out HT1.out rfl (.tmp 33) (.tmp 36) rfl rfl (by simp[Act.eval,Act.put]) (by simp[Act.eval,Act.put]) (qmp _ _ _) (HRT.out _ (HBA.out _ _ (HBA.out _ _ (HBM.out _)))) (by omega) (by simp <;> omega) ?_;intro A4 c4 w4 ho4 hg4;have hb4:Below w.heap.size w w4:=HBG.out _ _ _ (HBA.out _ _ (HBA.out _ _ (HBM.out _))) hg4 (fun g hg=>by simp[Value.ownBlock] at hg;omega))
      | (refine qao (v:= .slice A4 k c4) w.heap.size (zu (t.take k)) [(g:Int)] tm HTM.out k 1 (k+1) HT1.out rfl HT3.out rfl (.tmp 37) (.tmp 39) rfl rfl (by simp[Act.eval,Act.put]) (by simp[Act.eval,Act.put];rfl) (by first | exact ho4 | exact ho4.alloc _) (rd_num1 (by first | exact qio _ _ _ | exact qe5 hg4 (qkq _ _ _ _) (by simp[Value.ownBlock]) | exact qe5 hg4 (qi6 _ _ _ _) (by simp[Value.ownBlock]))) (by omega) (by first | exact hb4.size | exact(HBA.out _ _ hb4).size) ?_;intro A5 c5 w5 ho5 hg5;have hb5:Below w.heap.size w w5:=HBG.out _ _ _ (by first | exact hb4 | exact HBA.out _ _ hb4) hg5 (fun g hg=>(zk ho4 hg).1))
      | (refine qao (v:= .slice A5 (k+1) c5) w.heap.size tm (zu (t.drop k)) tn HTN.out (k+1) (t.length-k) (k+1+(t.length-k)) HT3.out HT2.out HT4.out rfl (.tmp 40) (.tmp 43) rfl rfl (by simp[Act.eval,Act.put]) (by simp[Act.eval,Act.put]) ho5 (HRD.out _ hb5) (by omega) hb5.size ?_;intro A6 c6 w6 ho6 hg6;have HB6:=qa (HBG.out _ _ _ hb5 hg6 (fun g hg=>(zk ho5 hg).1));have HO6:=qa ho6;clear ho6 hg6))
     all_goals
      go_wp2_with fail
      all_goals go_ret
      all_goals exact⟨u,A6,c6,by rw[HUL.out];rfl,HRI.out,by rw[←HUN.out];exact(Rd.of_own HO6.out).wide hlo (qc _),HB6.out⟩
  ·
   have ikt:¬(k:Int)<(t.length:Int):=by omega
   have dkt:decide (k<t.length)=false:=ql hkt
   have HGT:Hid (∀hk:k<t.length,g<t[k]):=fun h=>absurd h hkt
   go_wp2_with fail
   have hkc:k≤c:=by omega
   have HT1:Hid ((zu (t.take k)).length=k):=by unfold Hid;rw[zj,qy];omega
   have HT2:Hid ((zu (t.drop k)).length=t.length-k):=by unfold Hid;rw[zj,qu]
   have HRT:Hid (∀wx,Below w.heap.size w wx→Rd wx 0 wx.heap.size A c (iv (zu (t.take k)))):=fun wx hx=>by
    rw[ints_take,iv_take]
    exact((H.out.below hx (qc _)).take_ k).wide (qi _) hx.size
   have HRD:Hid (∀wx,Below w.heap.size w wx→Rd wx 0 wx.heap.size (if c=k then A else A.map (·.add k)) (c-k) (iv (zu (t.drop k)))):=fun wx hx=>by
    have h1:=(H.out.below hx (qc _)).cut (k:=k) (n:=t.length) hk (by rw[ji,zj];exact qc _)
    rw[ints_drop,iv_drop,←qo (l:=(iv (zu t)).drop k) (i:=t.length-k) (by rw[qu,ji,zj];exact qc _)]
    exact h1.wide (qi _) hx.size
   have HBM:Hid (∀M,Below w.heap.size w (w.drewN M)):=fun M=>zg (Below.refl _ w) M
   have HBA:Hid (∀wx o,Below w.heap.size w wx→Below w.heap.size w (wx.alloc o)):=fun wx o hx=>hx.alloc hx.size o
   have HBG:Hid (∀(wx wx':World) (row:Option Nat),Below w.heap.size w wx→wx.grownBy wx' row→(∀g,row=some g→w.heap.size≤g)→Below w.heap.size w wx'):=fun wx wx' row hx hg hr=>hx.grown hg hx.size hr
   obtain⟨tm,htm⟩:∃tm,zu (t.take k)++[(g:Int)]=tm:=⟨_,rfl⟩
   obtain⟨tn,htn⟩:∃tn,tm++zu (t.drop k)=tn:=⟨_,rfl⟩
   have HTM:=qa htm
   have HTN:=qa htn
   have HT3:Hid (tm.length=k+1):=by unfold Hid;rw[←htm,qd,HT1.out];rfl
   have HT4:Hid (tn.length=k+1+(t.length-k)):=by unfold Hid;rw[←htn,qd,HT3.out,HT2.out]
   obtain⟨u,hu⟩:∃u,t.take k++g :: t.drop k=u:=⟨_,rfl⟩
   have HUN:Hid (tn=zu u):=by
    unfold Hid
    rw[←htn,←htm,←hu,ints_app]
    simp[zu]
   have HUL:Hid (u.length=k+1+(t.length-k)):=by have:=HT4.out;rw[HUN.out,zj] at this;exact this
   have HRI:Hid (Rise (L++[g]) u):=by unfold Hid;rw[←hu];exact HS.out.put HAL.out HGT.out
   clear htm htn hu
   go_region_law (first
    | (refine qao (v:= .slice (some ⟨w.heap.size,0,none⟩) 0 0) w.heap.size [] (zu (t.take k)) (zu (t.take k)) rfl 0 k k rfl HT1.out HT1.out rfl (.tmp 33) (.tmp 36) rfl rfl (by simp[Act.eval,Act.put]) (by simp[Act.eval,Act.put]) (by first | exact qfd _ _ | exact(qfd _ _).alloc _) (HRT.out _ (by first | exact HBA.out _ _ (HBM.out _) | exact HBA.out _ _ (HBA.out _ _ (HBM.out _)))) (by omega) (by simp <;> omega) ?_;intro A4 c4 w4 ho4 hg4;have hb4:Below w.heap.size w w4:=HBG.out _ _ _ (by first | exact HBA.out _ _ (HBM.out _) | exact HBA.out _ _ (HBA.out _ _ (HBM.out _))) hg4 (fun g hg=>by simp[Value.ownBlock] at hg;omega))
    | (refine qao (v:= .slice (some ⟨w.heap.size+1,0,none⟩) 0 0) w.heap.size [] (zu (t.take k)) (zu (t.take k)) rfl 0 k k rfl HT1.out HT1.out rfl (.tmp 33) (.tmp 36) rfl rfl (by simp[Act.eval,Act.put]) (by simp[Act.eval,Act.put]) (qmp _ _ _) (HRT.out _ (HBA.out _ _ (HBA.out _ _ (HBM.out _)))) (by omega) (by simp <;> omega) ?_;intro A4 c4 w4 ho4 hg4;have hb4:Below w.heap.size w w4:=HBG.out _ _ _ (HBA.out _ _ (HBA.out _ _ (HBM.out _))) hg4 (fun g hg=>by simp[Value.ownBlock] at hg;omega))
    | (refine qao (v:= .slice A4 k c4) w.heap.size (zu (t.take k)) [(g:Int)] tm HTM.out k 1 (k+1) HT1.out rfl HT3.out rfl (.tmp 37) (.tmp 39) rfl rfl (by simp[Act.eval,Act.put]) (by simp[Act.eval,Act.put];rfl) (by first | exact ho4 | exact ho4.alloc _) (rd_num1 (by first | exact qio _ _ _ | exact qe5 hg4 (qkq _ _ _ _) (by simp[Value.ownBlock]) | exact qe5 hg4 (qi6 _ _ _ _) (by simp[Value.ownBlock]))) (by omega) (by first | exact hb4.size | exact(HBA.out _ _ hb4).size) ?_;intro A5 c5 w5 ho5 hg5;have hb5:Below w.heap.size w w5:=HBG.out _ _ _ (by first | exact hb4 | exact HBA.out _ _ hb4) hg5 (fun g hg=>(zk ho4 hg).1))
    | (refine qao (v:= .slice A5 (k+1) c5) w.heap.size tm (zu (t.drop k)) tn HTN.out (k+1) (t.length-k) (k+1+(t.length-k)) HT3.out HT2.out HT4.out rfl (.tmp 40) (.tmp 43) rfl rfl (by simp[Act.eval,Act.put]) (by simp[Act.eval,Act.put]) ho5 (HRD.out _ hb5) (by omega) hb5.size ?_;intro A6 c6 w6 ho6 hg6;have HB6:=qa (HBG.out _ _ _ hb5 hg6 (fun g hg=>(zk ho5 hg).1));have HO6:=qa ho6;clear ho6 hg6))
   all_goals
    go_wp2_with fail
    all_goals go_ret
    all_goals exact⟨u,A6,c6,by rw[HUL.out];rfl,HRI.out,by rw[←HUN.out];exact(Rd.of_own HO6.out).wide hlo (qc _),HB6.out⟩
theorem allg_any{w:World}(l:List ByteArray){c:Nat}{A:Option Addr}(h:Rd w 0 w.heap.size A c (sv l))(hsz:∀s∈l,s.size≤100000)(hlen:l.length≤1000) :
  Calls Tryz.prog 59 #[.slice A l.length c] w fun r w'=>∃(t:List Nat) (A':Option Addr) (c':Nat),r= .returned (.slice A' t.length c')∧Rise (qb6 (qcl l)) t∧t.length≤100000000∧
   Rd w' w.heap.size w'.heap.size A' c' (iv (zu t))∧Below w.heap.size w w':=by
 have hl:=h.len
 have hm:=h.cap
 rw[yg] at hl
 unfold maxLen at hm
 have H:=qa h
 have H1:Hid (∀k (hk:k<l.length),l[k].size≤100000):=fun k hk=>hsz _ (qj hk)
 have HLN:Hid (∀i,(qb6 (qcl (l.take i))).length≤100000*i):=fun i=>by
  induction i with
  | zero=>simp[qcl,qb6]
  | succ i ih =>
   by_cases hi:i<l.length
   ·
    have h2:l[i].data.toList.length=l[i].size:=by rw[zy];rfl
    rw[qqq l i hi,qd,qau,h2]
    have:=H1.out i hi
    omega
   ·
    rw[qo (by omega)]
    rw[qo (by omega)] at ih
    omega
 clear h hsz
 go_enter Tryz.func59,Tryz.ntmps59
 go_wp2_with fail
 go_loopw [3,4] (fun x3 x4 wr=>∃(i:Nat) (t:List Nat) (A':Option Addr) (c':Nat),i≤l.length∧x4= .int .i64 (i:Int)∧x3= .slice A' t.length c'∧Rise (qb6 (qcl (l.take i))) t∧
  Rd wr w.heap.size wr.heap.size A' c' (iv (zu t))∧Below w.heap.size w wr) (fun _ x4 _=>l.length-(intOf x4).toNat)
 case atStart=>exact⟨0,[],none,0,qi _,rfl,rfl,Rise.nil,Rd.nil _ _ _,Below.refl _ _⟩
 case round =>
  obtain⟨i,t,A',c',hi,rfl,rfl,hri,hrd,hb⟩:=hrel
  obtain⟨wy,hwy⟩:∃wy,wy=wr:=⟨_,rfl⟩
  subst hwy
  have HRI:=qa hri
  have HRD:=qa hrd
  have HB:=qa hb
  have hszy:=hb.size
  clear hri hrd hb
  by_cases hlt:i<l.length
  ·
   have ik:(i:Int)<(l.length:Int):=by omega
   obtain⟨b1,off1,rfl,_,hb1,hcell0⟩:=H.out.str hlt
   have hss:=H1.out i hlt
   have HLI:=qa (HLN.out i)
   have HTK:=qa (qqq l i hlt)
   obtain⟨s,hs⟩:∃s,l[i]=s:=⟨_,rfl⟩
   rw[hs] at hcell0 hss HTK
   clear hs
   have HC0:=qa hcell0
   clear hcell0
   go_wp2_with fail
   go_loopw [3,5] (fun x3 x5 wr=>∃(k:Nat) (t:List Nat) (A':Option Addr) (c':Nat),(k=0∨k+1<s.size)∧x5= .int .i64 (k:Int)∧x3= .slice A' t.length c'∧Rise (qb6 (qcl (l.take i))++(qad s.data.toList).take k) t∧
    Rd wr w.heap.size wr.heap.size A' c' (iv (zu t))∧Below w.heap.size w wr) (fun _ x5 _=>s.size-(intOf x5).toNat)
   case atStart=>exact⟨0,t,A',c',.inl rfl,rfl,rfl,by rw[y8,jj];exact HRI.out,HRD.out,HB.out⟩
   case round =>
    clear HRI HRD HB
    obtain⟨k,t,A',c',hk,rfl,rfl,hri,hrd,hb⟩:=hrel
    obtain⟨wz,hwz⟩:∃wz,wz=wr:=⟨_,rfl⟩
    subst hwz
    have HRI:=qa hri
    have HRD:=qa hrd
    have HB:=qa hb
    have hszz:=hb.size
    have hlt1:=hri.len
    have hcell:wz.cell? ⟨b1,off1+i,none⟩=some (.string s):=(hb.cell hb1).trans HC0.out
    clear hri hrd hb
    by_cases hk2:k+2<s.size
    ·
     have ik2:(k:Int)+2<(s.size:Int):=by omega
     have htl:t.length≤100000000:=by
      rw[qd,qy] at hlt1
      have:=HLI.out
      omega
     clear hlt1
     have hc3:∀x:UInt8,x.toNat<256:=fun x=>zp x
     have hx1:=hc3 s[k]
     have hx2:=hc3 s[k+1]
     have hx3:=hc3 s[k+2]
     clear hc3
     have hk0:k<s.size:=by omega
     have hk1:k+1<s.size:=by omega
     have hw1:IntKind.i64.wrap ((k:Int)+1)=(k:Int)+1:=z8 _ (by omega)
     have hw2:IntKind.i64.wrap ((k:Int)+2)=(k:Int)+2:=z8 _ (by omega)
     have l1:(0:Int)≤(k:Int)+1:=by omega
     have l1':(k:Int)+1<(s.size:Int):=by omega
     have l2:(0:Int)≤(k:Int)+2:=by omega
     have e1:((k:Int)+1).toNat=k+1:=by omega
     have e2:((k:Int)+2).toNat=k+2:=by omega
     have HCL:Hid (∀W,Below wz.heap.size wz W→W.cell? ⟨b1,off1+i,none⟩=some (.string s)):=fun W hW=>(hW.cell (ja hb1 hszz)).trans hcell
     have HGT:=qa (qrj s k hk2)
     obtain⟨g,hg⟩:∃g,qjw s[k] s[k+1] s[k+2]=g:=⟨_,rfl⟩
     have HGV:Hid (Value.int .i64 (IntKind.i64.wrap (IntKind.i64.wrap (IntKind.i64.wrap (65536*IntKind.i64.wrap (s[k].toNat:Int))+IntKind.i64.wrap (256*IntKind.i64.wrap (s[k+1].toNat:Int)))+IntKind.i64.wrap (s[k+2].toNat:Int)))= .int .i64 (g:Int)):=by
      unfold Hid
      rw[←hg,qjw]
      generalize s[k].toNat=x at *
      generalize s[k+1].toNat=y at *
      generalize s[k+2].toNat=z at *
      rw[z8 (x:Int) (by omega),z8 (y:Int) (by omega),z8 (z:Int) (by omega),z8 (65536*(x:Int)) (by omega),z8 (256*(y:Int)) (by omega),z8 (65536*(x:Int)+256*(y:Int)) (by omega),z8 (65536*(x:Int)+256*(y:Int)+(z:Int)) (by omega)]
      congr 1
     rw[hg] at HGT
     clear hg
     have HPG:=qa (fun W (hW:Below wz.heap.size wz W)=>putg_any (w:=W) _ t g ((HRD.out.below hW (qc _)).wide (qc _) hW.size) (ze hszz hW.size) HRI.out htl)
     go_wp2_with fail
     refine wp_region_held_drew (S:=fun w'=>Below wz.heap.size wz w') (by kernel_rfl) (Below.drew (Below.refl _ _)) (fun hHeld => ?_)
     refine tk 0 ?_ rfl hHeld ?_ ?_
     rotate_left
     focus (intro W hSw;go_simp;try with_reducible rfl)
     try simp only[jv,Act.put]
     refine tk 1 ?_ rfl hHeld ?_ ?_
     rotate_left
     focus (intro W hSw;go_simp;try with_reducible rfl)
     try simp only[jv,Act.put]
     refine tk 2 ?_ rfl hHeld ?_ ?_
     rotate_left
     focus (intro W hSw;go_simp;try with_reducible rfl)
     try simp only[jv,Act.put]
     refine tk 3 ?_ rfl hHeld ?_ ?_
     rotate_left
     focus (intro W hSw;go_simp;try with_reducible rfl)
     try simp only[jv,Act.put]
     refine tk 4 ?_ rfl hHeld ?_ ?_
     rotate_left
     focus (intro W hSw;have hcv:=HCL.out W hSw;go_simp;try with_reducible rfl)
     try simp only[jv,Act.put]
     refine tk 5 ?_ rfl hHeld ?_ ?_
     rotate_left
     focus (intro W hSw;go_simp;try with_reducible rfl)
     try simp only[jv,Act.put]
     refine tk 6 ?_ rfl hHeld ?_ ?_
     rotate_left
     focus (intro W hSw;go_simp;try with_reducible rfl)
     try simp only[jv,Act.put]
     refine tk 7 ?_ rfl hHeld ?_ ?_
     rotate_left
     focus (intro W hSw;go_simp;try with_reducible rfl)
     try simp only[jv,Act.put]
     refine tk 8 ?_ rfl hHeld ?_ ?_
     rotate_left
     focus (intro W hSw;go_simp;try with_reducible rfl)
     try simp only[jv,Act.put]
     refine tk 9 ?_ rfl hHeld ?_ ?_
     rotate_left
     focus (intro W hSw;go_simp;try with_reducible rfl)
     try simp only[jv,Act.put]
     refine tk 10 ?_ rfl hHeld ?_ ?_
     rotate_left
     focus (intro W hSw;go_simp;try with_reducible rfl)
     try simp only[jv,Act.put]
     refine tk 11 ?_ rfl hHeld ?_ ?_
     rotate_left
     focus (intro W hSw;go_simp;try with_reducible rfl)
     try simp only[jv,Act.put]
     refine tk 12 ?_ rfl hHeld ?_ ?_
     rotate_left
     focus (intro W hSw;have hcv:=HCL.out W hSw;go_simp;try with_reducible rfl)
     try simp only[jv,Act.put]
     refine tk 13 ?_ rfl hHeld ?_ ?_
     rotate_left
     focus (intro W hSw;go_simp;try with_reducible rfl)
     try simp only[jv,Act.put]
     refine tk 14 ?_ rfl hHeld ?_ ?_
     rotate_left
     focus (intro W hSw;go_simp;try with_reducible rfl)
     try simp only[jv,Act.put]
     refine tk 15 ?_ rfl hHeld ?_ ?_
     rotate_left
     focus (intro W hSw;go_simp;try with_reducible rfl)
     try simp only[jv,Act.put]
     refine tk 16 ?_ rfl hHeld ?_ ?_
     rotate_left
     focus (intro W hSw;go_simp;try with_reducible rfl)
     try simp only[jv,Act.put]
     refine tk 17 ?_ rfl hHeld ?_ ?_
     rotate_left
     focus (intro W hSw;go_simp;try with_reducible rfl)
     try simp only[jv,Act.put]
     refine tk 18 ?_ rfl hHeld ?_ ?_
     rotate_left
     focus (intro W hSw;go_simp;try with_reducible rfl)
     try simp only[jv,Act.put]
     refine tk 19 ?_ rfl hHeld ?_ ?_
     rotate_left
     focus (intro W hSw;go_simp;try with_reducible rfl)
     try simp only[jv,Act.put]
     refine tk 20 ?_ rfl hHeld ?_ ?_
     rotate_left
     focus (intro W hSw;go_simp;try with_reducible rfl)
     try simp only[jv,Act.put]
     refine tk 21 ?_ rfl hHeld ?_ ?_
     rotate_left
     focus (intro W hSw;go_simp;try with_reducible rfl)
     try simp only[jv,Act.put]
     refine tk 22 ?_ rfl hHeld ?_ ?_
     rotate_left
     focus (intro W hSw;have hcv:=HCL.out W hSw;go_simp;try with_reducible rfl)
     try simp only[jv,Act.put]
     refine tk 23 ?_ rfl hHeld ?_ ?_
     rotate_left
     focus (intro W hSw;go_simp;try with_reducible rfl)
     try simp only[jv,Act.put]
     refine tk 24 ?_ rfl hHeld ?_ ?_
     rotate_left
     focus (intro W hSw;go_simp;try with_reducible rfl)
     try simp only[jv,Act.put]
     refine tk 25 ?_ rfl hHeld ?_ ?_
     rotate_left
     focus (intro W hSw;go_simp;try with_reducible rfl)
     try simp only[jv,Act.put]
     refine tk 26 ?_ rfl hHeld ?_ ?_
     rotate_left
     focus (intro W hSw;go_simp;try with_reducible rfl)
     try simp only[jv,Act.put]
     refine tk 27 ?_ rfl hHeld ?_ ?_
     rotate_left
     focus (intro W hSw;go_simp;try with_reducible rfl)
     try simp only[jv,Act.put]
     refine wpAnyH_ready (rs:=[28]) (by kernel_rfl) (by simp) ?_
     refine zc (o:=_) rfl (fun K hK => ?_) zm
     go_simp
     rw[HGV.out]
     refine(HPG.out _ hHeld).mono ?_
     rintro r w9 ⟨u,A9,c9,rfl,hri9,hrd9,hb9⟩
     have HR9:=qa hri9
     have HD9:=qa hrd9
     have HB9:=qa (qz hHeld hb9 hHeld.size)
     clear hri9 hrd9 hb9
     refine hK.out _ _ HB9.out (fun hHeld => ?_)
     clear hK K
     try simp only[jv,Act.put]
     refine tk 29 ?_ rfl hHeld ?_ ?_
     rotate_left
     focus (intro W hSw;go_simp;try with_reducible rfl)
     try simp only[jv,Act.put]
     refine wpAnyH_done (by kernel_rfl) ?_ _
     have HE:=qa (qz HB.out HB9.out hszz)
     clear hHeld
     go_wp2_with fail
     go_roundw
     case rel=>exact⟨k+1,u,A9,c9,.inr (by omega),by go_num,rfl,by rw[HGT.out,←qv];exact HR9.out,HD9.out,HE.out⟩
     case measure=>simp[intOf] <;> omega
    ·
     have ik2:¬(k:Int)+2<(s.size:Int):=by omega
     have hkl:(k:Int)≤9223372036854775805:=by omega
     have HEQ:Hid (Rise (qb6 (qcl (l.take (i+1)))) t):=by
      unfold Hid
      have:=HRI.out
      rw[qo (l:=qad s.data.toList) (by rw[qau,zy];show s.size-2≤k;omega)] at this
      rw[HTK.out]
      exact this
     clear hlt1
     go_wp2_with fail
     go_roundw
     case rel=>exact⟨i+1,t,A',c',by omega,by go_num,rfl,HEQ.out,HRD.out,HB.out⟩
     case measure=>simp[intOf] <;> omega
  ·
   have ik:¬(i:Int)<(l.length:Int):=by omega
   have hil:i=l.length:=by omega
   have HSF:Hid (Rise (qb6 (qcl l)) t):=by
    have:=HRI.out
    rw[qo (by omega)] at this
    exact this
   have htl:t.length≤100000000:=by
    have h1:=HRI.out.len
    have h2:=HLN.out i
    omega
   go_wp2_with fail
   go_ret
   exact⟨t,A',c',rfl,HSF.out,htl,HRD.out,HB.out⟩
theorem qp7{w:World}{base n c:Nat}{A:Option Addr}{e:TypeId}{xs:List Value}(h:w.ownsRow base e 1 (.slice A n c) n xs):Rd w 0 w.heap.size A c xs:=(Rd.own h).wide (qi _) (qc _)
theorem makeg_zero{w:World}(l:List ByteArray){c:Nat}{A:Option Addr}(h:Rd w 0 w.heap.size A c (sv l))(hsz:∀s∈l,s.size≤100000)(hlen:l.length≤1000) :
  Calls Tryz.prog 26 #[.slice A l.length c,.int .i64 0] w fun r w'=>∃(v:Value) (t:List Nat),r= .returned v∧Rise (qb6 (qcl l)) t∧qok w' w.heap.size w'.heap.size v 0 t []∧Below w.heap.size w w':=by
 obtain⟨w1,hw1⟩:∃w1,w.alloc (.cells #[.int .i64 0,.slice none 0 0,.slice none 0 0] 67)=w1:=⟨_,rfl⟩
 have B1:Hid (Below w.heap.size w w1):=by unfold Hid;rw[←hw1];exact(Below.refl _ w).alloc (qc _) _
 have hk:j6 w1 w.heap.size 67 #[.int .i64 0,.slice none 0 0,.slice none 0 0]:=by rw[←hw1];exact j6.new w _ _
 have hs1:w1.heap.size=w.heap.size+1:=by rw[←hw1];simp
 have HAL:=qa (allg_any l ((h.below B1.out (qc _)).wide (qc _) B1.out.size) hsz hlen)
 have HK:=qa hk
 clear h hsz hk
 go_enter Tryz.func26,Tryz.ntmps26
 go_wp2_with fail
 refine HAL.out.mono ?_
 rintro r w2 ⟨t,A2,c2,rfl,hri,htl,hrd,b2⟩
 have hk2:=HK.out.below b2 (by omega)
 have HK2:=qa hk2
 have q0:=hk2.cell 0
 have q1:=hk2.cell 1
 have q2:=hk2.cell 2
 have f0:=hk2.frozen 0
 have f1:=hk2.frozen 1
 have f2:=hk2.frozen 2
 clear hk2
 have HRI:=qa hri
 have HRD:=qa hrd
 have B2:=qa (B1.out.trans (b2.mono B1.out.size))
 have s2:=b2.size
 have hg2:w.heap.size<w2.heap.size:=by omega
 clear hri hrd b2
 go_wp2_with fail
 obtain⟨w3,hw3⟩:∃w3,((w2.setCell ⟨w.heap.size,0,none⟩ (.int .i64 0)).setCell ⟨w.heap.size,1,none⟩ (.slice A2 t.length c2)).setCell ⟨w.heap.size,2,none⟩ (.slice none 0 0)=w3:=⟨_,rfl⟩
 have hk3:j6 w3 w.heap.size 67 #[.int .i64 0,.slice A2 t.length c2,.slice none 0 0]:=by rw[←hw3];exact((HK2.out.put 0 _).put 1 _).put 2 _
 have hb3:Below w.heap.size w w3:=by rw[←hw3];exact((B2.out.setCell (qc _) _).setCell (qc _) _).setCell (qc _) _
 have hr3:Rd w3 (w.heap.size+1) w3.heap.size A2 c2 (iv (zu t)):=by
  have h9:Rd w2 (w.heap.size+1) w2.heap.size A2 c2 (iv (zu t)):=HRD.out.wide (by omega) (qc _)
  rw[←hw3]
  exact(((h9.setCell (p:=⟨w.heap.size,0,none⟩) (.inl (Nat.lt_succ_self _)) _).setCell (p:=⟨w.heap.size,1,none⟩) (.inl (Nat.lt_succ_self _)) _).setCell (p:=⟨w.heap.size,2,none⟩) (.inl (Nat.lt_succ_self _)) _).wide (qc _) (by simp)
 rw[hw3]
 refine bodyPost_ret (v:= .agg #[.int .i64 0,.slice A2 t.length c2,.slice none 0 0]) ?_ rfl ⟨_,t,rfl,HRI.out,⟨A2,c2,none,0,rfl,hr3.wide (Nat.le_succ _) (qc _),Rd.nil _ _ _⟩,hb3⟩
 exact results_cell_row rfl _ _ w.heap.size 67 _ (0,0) _ rfl hk3 Tryz.underlying67 rfl (by kernel_rfl)
theorem makeg_bits{w:World}(l:List ByteArray){c:Nat}{A:Option Addr}(h:Rd w 0 w.heap.size A c (sv l))(hsz:∀s∈l,s.size≤100000)(hlen:l.length≤1000)(b:Nat)(hb0:0<b)(hb:b≤70000) :
  Calls Tryz.prog 26 #[.slice A l.length c,.int .i64 (b:Int)] w fun r w'=>∃(v:Value) (t:List Nat),r= .returned v∧Rise (qb6 (qcl l)) t∧qok w' w.heap.size w'.heap.size v b [] (qdx b t)∧Below w.heap.size w w':=by
 obtain⟨w1,hw1⟩:∃w1,w.alloc (.cells #[.int .i64 0,.slice none 0 0,.slice none 0 0] 67)=w1:=⟨_,rfl⟩
 have B1:Hid (Below w.heap.size w w1):=by unfold Hid;rw[←hw1];exact(Below.refl _ w).alloc (qc _) _
 have hk:j6 w1 w.heap.size 67 #[.int .i64 0,.slice none 0 0,.slice none 0 0]:=by rw[←hw1];exact j6.new w _ _
 have hs1:w1.heap.size=w.heap.size+1:=by rw[←hw1];simp
 have HAL:=qa (allg_any l ((h.below B1.out (qc _)).wide (qc _) B1.out.size) hsz hlen)
 have HK:=qa hk
 have ib0:¬(b:Int)=0:=by omega
 have ib1:((b:Int)==0)=false:=by rw[qr];exact ib0
 clear h hsz hk
 go_enter Tryz.func26,Tryz.ntmps26
 go_wp2_with fail
 refine HAL.out.mono ?_
 rintro r w2 ⟨t,A2,c2,rfl,hri,htl,hrd,b2⟩
 have hk2:=HK.out.below b2 (by omega)
 have HK2:=qa hk2
 have HRI:=qa hri
 have HRD:=qa hrd
 have B2:=qa (B1.out.trans (b2.mono B1.out.size))
 have s2:=b2.size
 have hg2:w.heap.size<w2.heap.size:=by omega
 have hlc:=hrd.len
 have hmc:=hrd.cap
 rw[ji,zj] at hlc
 unfold maxLen at hmc
 clear hri hrd b2 hk2 HAL hw1
 obtain⟨w3,hmake,hown,hg3⟩:=qf3 w2 b (by omega)
 have B3:=qa (B2.out.grown hg3 (by omega) (by simp))
 have HK3:=qa (HK2.out.grown hg3 (by simp))
 have HRD3:=qa (HRD.out.grown hg3 (qc _) (by simp))
 have HO3:=qa hown
 have s3:=hg3.size
 have hlt3:w2.heap.size<w3.heap.size:=(zk hown (k:=w2.heap.size) rfl).2
 clear hown hg3 HK2 HRD
 obtain⟨w4,hw4⟩:∃w4,w3.alloc (.cells #[.int .i64 (b:Int),.slice none 0 0,.slice (some ⟨w2.heap.size,0,none⟩) b b] 67)=w4:=⟨_,rfl⟩
 have B4:Hid (Below w.heap.size w w4):=by unfold Hid;rw[←hw4];exact B3.out.alloc (by omega) _
 have HQ4:Hid (j6 w4 w3.heap.size 67 #[.int .i64 (b:Int),.slice none 0 0,.slice (some ⟨w2.heap.size,0,none⟩) b b]):=by unfold Hid;rw[←hw4];exact j6.new w3 _ _
 have HK4:Hid (j6 w4 w.heap.size 67 #[.int .i64 0,.slice none 0 0,.slice none 0 0]):=by unfold Hid;rw[←hw4];exact HK3.out.alloc _
 have HT4:Hid (Rd w4 w1.heap.size w2.heap.size A2 c2 (iv (zu t))):=by unfold Hid;rw[←hw4];exact HRD3.out.alloc s3 _
 have HO4:Hid (w4.ownsRow w2.heap.size 4 1 (.slice (some ⟨w2.heap.size,0,none⟩) b b) b (lv (qdx b []))):=by
  unfold Hid
  rw[←hw4]
  have:=HO3.out.alloc (.cells #[.int .i64 (b:Int),.slice none 0 0,.slice (some ⟨w2.heap.size,0,none⟩) b b] 67)
  simpa[qdx,lv] using this
 have s4:w4.heap.size=w3.heap.size+1:=by rw[←hw4];simp
 clear HK3 HRD3 HO3
 go_wp2_with fail
 go_loopw [7] (fun x7 wr=>∃k:Nat,k≤t.length∧x7= .int .i64 (k:Int)∧wr.ownsRow w2.heap.size 4 1 (.slice (some ⟨w2.heap.size,0,none⟩) b b) b (lv (qdx b (t.take k)))∧
  j6 wr w3.heap.size 67 #[.int .i64 (b:Int),.slice none 0 0,.slice (some ⟨w2.heap.size,0,none⟩) b b]∧j6 wr w.heap.size 67 #[.int .i64 0,.slice none 0 0,.slice none 0 0]∧Rd wr w1.heap.size w2.heap.size A2 c2 (iv (zu t))∧Below w.heap.size w wr) (fun x7 _=>t.length-(intOf x7).toNat)
 case atStart=>exact⟨0,qi _,rfl,HO4.out,HQ4.out,HK4.out,HT4.out,B4.out⟩
 case round =>
  clear HO4 HQ4 HK4 HT4
  obtain⟨k,hk,rfl,hown,hq,hz,hrd,hbe⟩:=hrel
  obtain⟨wz,hwz⟩:∃wz,wz=wr:=⟨_,rfl⟩
  subst hwz
  have HO:=qa hown
  have HQ:=qa hq
  have HZ:=qa hz
  have HR:=qa hrd
  have HB:=qa hbe
  clear hown hq hz hrd hbe
  by_cases hlt:k<t.length
  ·
   have ik:(k:Int)<(t.length:Int):=by omega
   obtain⟨bb,off,rfl,hbl,hbb,hcell⟩:=HR.out.nat hlt
   have hgl:t[k]<16777216:=by
    have:=(HRI.out.mem t[k]).1 (qj hlt)
    obtain⟨s,_,h2⟩:=List.mem_flatMap.1 this
    exact qmx h2
   obtain⟨q,hqe⟩:∃q,ql9 t[k] b=q:=⟨_,rfl⟩
   have hqb:q<b:=by rw[←hqe];exact qak _ hb0
   have hqz:(((t[k]:Nat):Int)*40503%65521)%(b:Int)=(q:Int):=by rw[←hqe,ql9,Int.natCast_emod,Int.natCast_emod,qar];rfl
   have hbz:(b:Int)≠0:=by omega
   have HSN:Hid (qdx b (t.take (k+1))=(qdx b (t.take k)).set q true):=by
    unfold Hid
    rw[qg hlt,setB_snoc,hqe]
   have hqc:wz.cell? ⟨w3.heap.size,2,none⟩=some (.slice (some ⟨w2.heap.size,0,none⟩) b b):=HQ.out.cell 2
   have hsl:(lv (qdx b (t.take k))).length=b:=by rw[vk,qct]
   obtain⟨u0,hu0⟩:∃u0,(lv (qdx b (t.take k)))[q]? = some u0:=⟨_,qe (by omega)⟩
   have hrc:wz.cell? ⟨w2.heap.size,q,none⟩=some u0:=by rw[HO.out.cellAt q (by omega),hu0]
   have hrf:=HO.out.frozenAt q
   have iqb:(q:Int)<(b:Int):=by omega
   clear hu0 hsl hqe
   generalize t[k]=g at *
   go_wp2_with fail
   go_region
   have hst:=HO.out.stored q (.bool true)
   have hst1:(wz.setCell ⟨w2.heap.size,q,none⟩ (.bool true)).drew.ownsRow w2.heap.size 4 1 (.slice (some ⟨w2.heap.size,0,none⟩) b b) b (lv (qdx b (t.take (k+1)))):=by
    rw[HSN.out,lv_set]
    exact ju hst.1 (fun _ _=>rfl)
   have HS1:=qa hst1
   have HQ1:Hid (j6 (wz.setCell ⟨w2.heap.size,q,none⟩ (.bool true)).drew w3.heap.size 67 #[.int .i64 (b:Int),.slice none 0 0,.slice (some ⟨w2.heap.size,0,none⟩) b b]):=(HQ.out.far (p:=⟨w2.heap.size,q,none⟩) (by show w3.heap.size≠w2.heap.size;omega) _).drew
   have HZ1:Hid (j6 (wz.setCell ⟨w2.heap.size,q,none⟩ (.bool true)).drew w.heap.size 67 #[.int .i64 0,.slice none 0 0,.slice none 0 0]):=(HZ.out.far (p:=⟨w2.heap.size,q,none⟩) (by show w.heap.size≠w2.heap.size;omega) _).drew
   have HR1:Hid (Rd (wz.setCell ⟨w2.heap.size,q,none⟩ (.bool true)).drew w1.heap.size w2.heap.size (some ⟨bb,off,none⟩) c2 (iv (zu t))):=(HR.out.setCell (p:=⟨w2.heap.size,q,none⟩) (.inr (qc _)) _).drew
   have HBB:Hid (Below w.heap.size w (wz.setCell ⟨w2.heap.size,q,none⟩ (.bool true)).drew):=(HB.out.setCell (p:=⟨w2.heap.size,q,none⟩) (by show w.heap.size≤w2.heap.size;omega) _).drew
   clear hst hst1
   go_wp2_with fail
   go_roundw
   case rel=>exact⟨k+1,by omega,by go_num,HS1.out,HQ1.out,HZ1.out,HR1.out,HBB.out⟩
   case measure=>simp[intOf] <;> omega
  ·
   have ik:¬(k:Int)<(t.length:Int):=by omega
   have hkt:t.take k=t:=qo (by omega)
   rw[hkt] at HO
   have q0:=HQ.out.cell 0
   have q1:=HQ.out.cell 1
   have q2:=HQ.out.cell 2
   have z0:=HZ.out.cell 0
   have z1:=HZ.out.cell 1
   have z2:=HZ.out.cell 2
   have f0:=HZ.out.frozen 0
   have f1:=HZ.out.frozen 1
   have f2:=HZ.out.frozen 2
   clear hkt
   go_wp2_with fail
   obtain⟨w5,hw5⟩:∃w5,((wz.setCell ⟨w.heap.size,0,none⟩ (.int .i64 (b:Int))).setCell ⟨w.heap.size,1,none⟩ (.slice none 0 0)).setCell ⟨w.heap.size,2,none⟩ (.slice (some ⟨w2.heap.size,0,none⟩) b b)=w5:=⟨_,rfl⟩
   have hk5:j6 w5 w.heap.size 67 #[.int .i64 (b:Int),.slice none 0 0,.slice (some ⟨w2.heap.size,0,none⟩) b b]:=by rw[←hw5];exact((HZ.out.put 0 _).put 1 _).put 2 _
   have hb5:Below w.heap.size w w5:=by rw[←hw5];exact((HB.out.setCell (qc _) _).setCell (qc _) _).setCell (qc _) _
   have hr5:Rd w5 w2.heap.size w5.heap.size (some ⟨w2.heap.size,0,none⟩) b (lv (qdx b t)):=by
    have h9:=Rd.of_own HO.out
    rw[←hw5]
    exact(((h9.setCell (p:=⟨w.heap.size,0,none⟩) (.inl hg2) _).setCell (p:=⟨w.heap.size,1,none⟩) (.inl hg2) _).setCell (p:=⟨w.heap.size,2,none⟩) (.inl hg2) _).wide (qc _) (by simp)
   rw[hw5]
   refine bodyPost_ret (v:= .agg #[.int .i64 (b:Int),.slice none 0 0,.slice (some ⟨w2.heap.size,0,none⟩) b b]) ?_ rfl ⟨_,rfl,t,HRI.out,⟨none,0,_,b,by rw[qct];rfl,Rd.nil _ _ _,hr5.wide (by omega) (qc _)⟩,hb5⟩
   exact results_cell_row rfl _ _ w.heap.size 67 _ (0,0) _ rfl hk5 Tryz.underlying67 rfl (by kernel_rfl)
theorem cmpL_drop{k:Nat}{a b:List UInt8}(h:a.take k=b.take k):yr (a.drop k) (b.drop k)=yr a b:=by
 have h1:=qof (a.take k) (a.drop k) (b.drop k)
 rw[zx] at h1
 rw[←h1,h,zx]
theorem cmpL_at{k:Nat}{a b:List UInt8}(h:a.take k=b.take k)(ha:k<a.length)(hb:k<b.length)(hne:a[k]≠b[k]):yr a b=if a[k].toNat<b[k].toNat then -1 else 1:=by
 rw[←cmpL_drop h,zv ha,zv hb]
 have hn:a[k].toNat≠b[k].toNat:=fun e=>hne (qbd.1 e)
 unfold yr
 by_cases h1:a[k].toNat<b[k].toNat
 ·
  rw[if_pos h1,if_pos h1]
 ·
  rw[if_neg h1,if_neg h1,if_pos (by omega)]
theorem cmpL_end{k:Nat}{a b:List UInt8}(h:a.take k=b.take k)(hk:k=min a.length b.length):yr a b=if a.length<b.length then -1 else if b.length<a.length then 1 else 0:=by
 rw[←cmpL_drop h]
 subst hk
 rcases qa1 a.length b.length with h1 | h1 | h1
 ·
  rw[if_pos h1,yx (by omega),qat,zv h1]
  rfl
 ·
  rw[if_neg (by omega),if_neg (by omega),yx (by omega),qat,List.drop_eq_nil_of_le (by omega)]
  rfl
 ·
  rw[if_neg (by omega),if_pos h1,Nat.min_eq_right (by omega),qat,zv h1]
  rfl
theorem qch{w:World}(a b:ByteArray)(ha:a.size≤100000)(hb:b.size≤100000) :
  Calls Tryz.prog 106 #[.string a,.string b] w fun r w'=>r= .returned (.int .i64 (yr a.data.toList b.data.toList))∧∃m,w'=w.drewN m:=by
 obtain⟨v,hv⟩:∃v,yr a.data.toList b.data.toList=v:=⟨_,rfl⟩
 rw[hv]
 have hsa:a.data.toList.length=a.size:=by rw[zy];rfl
 have hsb:b.data.toList.length=b.size:=by rw[zy];rfl
 have HAT:Hid (∀k (h1:k<a.size) (h2:k<b.size),a.data.toList.take k=b.data.toList.take k→a[k]≠b[k]→v=if a[k].toNat<b[k].toNat then -1 else 1):=fun k h1 h2 ht hne=>by
  rw[←hv]
  exact cmpL_at ht (by omega) (by omega) hne
 have HNX:Hid (∀k (h1:k<a.size) (h2:k<b.size),a.data.toList.take k=b.data.toList.take k→a[k]=b[k]→a.data.toList.take (k+1)=b.data.toList.take (k+1)):=fun k h1 h2 ht he=>by
  rw[qg (by omega),qg (by omega),ht]
  have he':a.data.toList[k]'(by omega)=b.data.toList[k]'(by omega):=he
  rw[he']
 have HEND:Hid (∀k,a.data.toList.take k=b.data.toList.take k→k=min a.size b.size→v=if a.size<b.size then -1 else if b.size<a.size then 1 else 0):=fun k ht hk=>by
  rw[←hv,←hsa,←hsb]
  exact cmpL_end ht (by rw[hsa,hsb];exact hk)
 clear hv hsa hsb
 go_enter Tryz.func106,Tryz.ntmps106
 go_wp2_with fail
 go_loopw [5] (fun i wr=>∃k m:Nat,k≤a.size∧k≤b.size∧i= .int .i64 (k:Int)∧a.data.toList.take k=b.data.toList.take k∧wr=w.drewN m) (fun i _=>a.size-(intOf i).toNat)
 case atStart=>exact⟨0,0,by omega,by omega,rfl,by simp,rfl⟩
 case round =>
  obtain⟨k,m,hka,hkb,rfl,ht,rfl⟩:=hrel
  have HT:=qa ht
  clear ht
  by_cases hl:k<a.size∧k<b.size
  ·
   obtain⟨h1,h2⟩:=hl
   have i1:(k:Int)<(a.size:Int):=by omega
   have i2:(k:Int)<(b.size:Int):=by omega
   have HA:=qa (HAT.out k h1 h2 HT.out)
   have HN:=qa (HNX.out k h1 h2 HT.out)
   clear HAT HNX
   rcases qa1 a[k].toNat b[k].toNat with h3 | h3 | h3
   ·
    go_wp2
    go_quiet (fail)
    go_wp2
    go_ret
    exact⟨kf (by rw[HA.out (fun e=>by rw[e] at h3;omega),if_pos h3]),m+nq,zr _ _ _⟩
   ·
    have he:=qbd.1 h3
    go_wp2
    go_quiet (fail)
    go_wp2
    go_quiet (fail)
    go_wp2
    go_roundw
    case rel=>exact⟨k+1,_,by omega,by omega,by go_num,HN.out he,by first | rfl | (rw[zr]) | (rw[zr,zr])⟩
    case measure=>simp[intOf];omega
   ·
    go_wp2
    go_quiet (fail)
    go_wp2
    go_quiet (fail)
    go_wp2
    go_ret
    exact⟨kf (by rw[HA.out (fun e=>by rw[e] at h3;omega),if_neg (by omega)]),_,by first | rfl | (rw[zr,zr])⟩
  ·
   have HE:=qa (HEND.out k HT.out)
   have HK:Hid (k=min a.size b.size):=by unfold Hid;omega
   rcases qa1 a.size b.size with h3 | h3 | h3
   ·
    obtain rfl:k=a.size:=by omega
    go_wp2
    go_ret
    exact⟨kf (by rw[HE.out HK.out,if_pos h3]),_,rfl⟩
   ·
    obtain rfl:k=a.size:=by omega
    go_wp2
    go_ret
    exact⟨kf (by rw[HE.out HK.out,if_neg (by omega),if_neg (by omega)]),_,rfl⟩
   ·
    obtain rfl:k=b.size:=by omega
    go_wp2
    go_ret
    exact⟨kf (by rw[HE.out HK.out,if_neg (by omega),if_pos h3]),_,rfl⟩
theorem push_str_at{ops:Array Oper}{rest:List Oper}{o:Oper}{a:Act}{Q:Exit→Act→World→Prop}{w:World}{v:Value}{g:Nat}(base:Nat)(ys:List ByteArray)(z:ByteArray)(hgd:o.guard=none)(s x:Operand)
  (ho:o.op= .call { callee:= .builtin .append,args:=#[s,x],argTypes:=#[58,58] }) (hty:o.type=58)
  (hs:a.eval s=v) (hx:a.eval x= .slice (some ⟨g,0,none⟩) 1 1) (hcell:w.cell? ⟨g,0,none⟩=some (.string z))
  (hown:w.ownsRow base 9 1 v ys.length (sv ys)) (hb:ys.length+1≤1000000000) (hbase:base≤w.heap.size)
  (h:∀A' c' w',w'.ownsRow base 9 1 (.slice A' (ys.length+1) c') (ys.length+1) (sv (ys++[z]))→w.grownBy w' v.ownBlock→((Value.slice A' (ys.length+1) c').ownBlock=v.ownBlock∨(Value.slice A' (ys.length+1) c').ownBlock=some w.heap.size)→wpList Tryz.prog ops Q rest (a.put o.dst (.slice A' (ys.length+1) c')) w') :
  wpList Tryz.prog ops Q (o :: rest) a w:=by
 have hr:Rd w 0 w.heap.size (some ⟨g,0,none⟩) 1 (sv [z]):=⟨by simp[sv],by simp[maxLen],fun _=>⟨g,0,rfl,qi _,yv w _ hcell,fun j u hu=>by
  match j,hu with
  | 0,hu =>
   simp[sv] at hu
   subst hu
   exact hcell
  | j+1,hu=>simp[sv] at hu⟩⟩
 obtain⟨i0,hi0,hz0,hz1,hz2⟩:=info_parts Tryz.infoStr
 obtain⟨A',c',w',hrun,h2,h3,h4⟩:=ui (P:=Tryz.prog) w base 58 58 9 i0 _ _ Tryz.underlying58 hi0 hz0 hz1 hz2 rfl v ys.length (sv ys) hown 0 w.heap.size _ 1 (sv [z]) hr (sv_one _)
  (by simp[sv,maxLen];omega) (by simp[sv];omega) hbase
 have hl:(sv [z]).length=1:=rfl
 rw[hl] at hrun h2 h4
 exact wpList_append_run hgd s x _ _ ho hs hx (by rw[hty];exact hrun) (h A' c' w' (by rw[qp3];exact h2) h3 h4)
end Go.Proofs.YtnjkipnklpkaoaaGreat
