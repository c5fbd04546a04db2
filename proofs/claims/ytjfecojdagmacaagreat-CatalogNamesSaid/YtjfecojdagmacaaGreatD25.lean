/-
  Lemmas.
-/
import Derived.Test.YtjfecojdagmacaaGreatD00
namespace Go.Proofs.YtjfecojdagmacaaGreat
open Go.RowKit
set_option maxRecDepth 20000
set_option maxHeartbeats 16000000
set_option linter.unusedSimpArgs false
set_option linter.unusedVariables false
theorem add_block(a:Addr)(n:Nat):(a.add n).block=a.block:=by unfold Addr.add;split <;> rfl
theorem add_assoc'(a:Addr)(i j:Nat):(a.add i).add j=a.add (i+j):=by
 unfold Addr.add
 by_cases hi:i=0 <;> by_cases hj:j=0 <;> simp[hi,hj,qav]
section
variable {w w':World}{lo hi lo' hi' c:Nat}{A:Option Addr}{xs:List Value}
theorem Rd.empty(w:World)(lo hi:Nat)(A:Option Addr)(c:Nat)(hc:c≤maxLen):Rd w lo hi A c []:=⟨by simp,hc,fun h=>by simp at h⟩
end
section
variable {P:Program}{f:FuncId}{args:Array Value}{w:World}{v:Value}
theorem qml{a n:Nat}(h:Calls P f args (w.drewN (a+n)) fun e w'=>e= .returned v∧w.drewN (a+n)=w'):Calls P f args (w.drewN (a+n)) fun e w''=>e= .returned v∧∃m,w''=w.drewN (a+m) :=
 h.mono fun _ _ ⟨he,hm⟩=>⟨he,n,hm.symm⟩
theorem qes{a n:Nat}(h:Calls P f args (w.drewN (a+n)) fun e w'=>e= .returned v∧∃m,w'=(w.drewN (a+n)).drewN m):Calls P f args (w.drewN (a+n)) fun e w''=>e= .returned v∧∃m,w''=w.drewN (a+m) :=
 h.mono fun _ _ ⟨he,m,hm⟩=>⟨he,n+m,by rw[hm,zt,qav]⟩
end
theorem strCells_bv(s:ByteArray):Lib.strCells s=bv s.data.toList:=rfl
section
variable (w:World)(e:TypeId)(s:ByteArray)
theorem qdm{B:Nat}(hB:B≤w.heap.size):Below B w (Lib.bytesWorld w e s) :=
 ⟨rfl,rfl,rfl,by rw[Lib.bytesWorld_size];omega,fun k hk=>Lib.bytesWorld_at_old w e s k (by omega)⟩
theorem qfm(h:grownCap w s.size 0 e≤maxLen):Rd (Lib.bytesWorld w e s) w.heap.size (w.heap.size+1) (some ⟨w.heap.size,0,none⟩) (grownCap w s.size 0 e) (bv s.data.toList):=by
 have hg:=grownCap_ge w s.size 0 e
 refine⟨by rw[yf];exact hg,h,fun _=>⟨w.heap.size,0,rfl,qc _,by omega,fun j u hu => ?_⟩⟩
 have hj:j<s.size:=by
  rcases vf j s.size with h1 | h1
  ·
   exact h1
  ·
   rw[yh (by rw[yf];exact h1)] at hu;cases hu
 rw[yr,Lib.bytesWorld_cell w e s j hj]
 have hjl:j<s.data.toList.length:=hj
 rw[qi3 _ _ hjl] at hu
 injection hu with hu
 rw[←hu,List.getD,qe hjl,qax]
end
theorem own_byte(w:World)(e:TypeId)(X:Int)(b:UInt8)(h:X=(b.toNat:Int)):(w.alloc (.cells #[.int .u8 X] e)).ownsRow w.heap.size e 1 (.slice (some ⟨w.heap.size,0,none⟩) 1 1) [b].length (bv [b]):=by
 subst h
 exact kf w #[_] 1 (qc _) (by simp[maxLen]) rfl
theorem below_some{B g:Nat}{a w w':World}(h:Below B a w)(hg:w.grownBy w' (some g))(hB:B≤w.heap.size)(hl:B≤g):Below B a w' :=
 h.grown hg hB (fun k hk=>by injection hk with hk;omega)
theorem iv_take(l:List Int)(k:Nat):iv (l.take k)=(iv l).take k:=by simp[iv,qbt]
theorem qca(w:World)(t:TypeId):(w.alloc (.cells #[] t)).ownsRow w.heap.size t 1 (.slice (some ⟨w.heap.size,0,none⟩) 0 0) 0 []:=by
 have:=kf (e:=t) (size:=1) (base:=w.heap.size) w #[] 0 (qc _) (by simp[maxLen]) (by simp)
 exact this
theorem qgf(w:World)(t:TypeId)(v:Value):(w.alloc (.cells #[v] t)).cell? ⟨w.heap.size,0,none⟩=some v:=by rw[zg _ _ _ _ rfl];rfl
theorem qhy(w:World)(o:Obj)(t:TypeId):((w.alloc o).alloc (.cells #[] t)).ownsRow w.heap.size t 1 (.slice (some ⟨w.heap.size+1,0,none⟩) 0 0) 0 []:=by
 have h:=qca (w.alloc o) t
 rw[yi] at h
 exact jm h (Nat.le_succ _)
theorem qgv(w:World)(t t':TypeId)(v:Value):((w.alloc (.cells #[] t')).alloc (.cells #[v] t)).cell? ⟨w.heap.size+1,0,none⟩=some v:=by
 have h:=qgf (w.alloc (.cells #[] t')) t v
 rw[yi] at h
 exact h
theorem qf5(w:World)(t t':TypeId)(v:Value):((w.alloc (.cells #[v] t)).alloc (.cells #[] t')).cell? ⟨w.heap.size,0,none⟩=some v :=
 (World.cell?_alloc_lt (w.alloc (.cells #[v] t)) _ _ (by rw[yi];exact qbk _)).trans (qgf w t v)
theorem qbs{w w':World}{row:Option Nat}{g:Nat}{v:Value}(hg:w.grownBy w' row)(hc:w.cell? ⟨g,0,none⟩=some v)(hne:some g≠row):w'.cell? ⟨g,0,none⟩=some v :=
 (qbj (hg.block g (ya w _ hc) hne)).trans hc
theorem qlj(w:World)(base:Nat)(v:Value)(ys zs us:List Int)(hus:ys++zs=us)(hown:w.ownsRow base 3 1 v ys.length (iv ys)){lo h':Nat}{A:Option Addr}{c:Nat}(hr:Rd w lo h' A c (iv zs))
  (hb:ys.length+zs.length≤17592186044416) (hbase:base≤w.heap.size) :
  ∃A' c' w',(Builtin.append_ #[58,58] 58 #[v,.slice A zs.length c]).run Tryz.prog w= .ok (.slice A' us.length c') w'∧
   w'.ownsRow base 3 1 (.slice A' us.length c') us.length (iv us)∧w.grownBy w' v.ownBlock:=by
 subst hus
 obtain⟨i0,hi0,hz0,hz1,hz2⟩:=info_parts Tryz.infoI64
 have hl:=jz zs
 obtain⟨A',c',w',hrun,h2,h3,_⟩:=vt (P:=Tryz.prog) w base 58 58 3 i0 _ 8 Tryz.underlying58 hi0 hz0 hz1 hz2 rfl v ys.length (iv ys) hown lo h' A c (iv zs) hr (iv_one _)
  (by rw[hl];simp only[maxLen];omega) (by rw[hl];omega) hbase
 rw[hl] at hrun h2
 rw[qd]
 exact⟨A',c',w',hrun,by rw[iv_append];exact h2,h3⟩
theorem qqe{ops:Array Oper}{rest:List Oper}{o:Oper}{a:Act}{Q:Exit→Act→World→Prop}{w:World}{v:Value}{g:Nat}(base:Nat)(ys:List Int)(z:Int)(hgd:o.guard=none)(s x:Operand)
  (ho:o.op= .call { callee:= .builtin .append,args:=#[s,x],argTypes:=#[58,58] }) (hty:o.type=58)
  (hs:a.eval s=v) (hx:a.eval x= .slice (some ⟨g,0,none⟩) 1 1) (hcell:w.cell? ⟨g,0,none⟩=some (.int .i64 z))
  (hown:w.ownsRow base 3 1 v ys.length (iv ys)) (hb:ys.length+1≤17592186044416) (hbase:base≤w.heap.size)
  (h:∀A' c' w',w'.ownsRow base 3 1 (.slice A' (ys++[z]).length c') (ys++[z]).length (iv (ys++[z]))→w.grownBy w' v.ownBlock→wpList Tryz.prog ops Q rest (a.put o.dst (.slice A' (ys.length+1) c')) w') :
  wpList Tryz.prog ops Q (o :: rest) a w:=by
 have hr:Rd w 0 w.heap.size (some ⟨g,0,none⟩) 1 (iv [z]):=⟨by simp[iv],by simp[maxLen],fun _=>⟨g,0,rfl,qi _,ya w _ hcell,fun j u hu=>by
  match j,hu with
  | 0,hu =>
   simp[iv] at hu
   subst hu
   exact hcell
  | j+1,hu=>simp[iv] at hu⟩⟩
 obtain⟨A',c',w',hrun,h2,h3⟩:=qlj w base v ys [z] (ys++[z]) rfl hown hr (by simpa using hb) hbase
 rw[show(ys++[z]).length=ys.length+1 from by simp] at hrun
 exact wpList_append_run hgd s x _ _ ho hs hx (by rw[hty];exact hrun) (h A' c' w' h2 h3)
section
variable {w w' w2:World}{X Y:Nat→Prop}{B:Nat}
variable {base n:Nat}{e:TypeId}{size:Nat}{v:Value}{xs:List Value}
theorem own_cut{A:Option Addr}{c k:Nat}(h:w.ownsRow base e 1 (.slice A n c) n xs)(hk:k≤n):w.ownsRow base e 1 (.slice A k c) k (xs.take k):=by
 obtain⟨hl,hr⟩:=h
 refine⟨by rw[qz];omega,?_⟩
 rcases hr with ⟨hv,h0⟩ | ⟨g,cap,cur,hv,hg,hb,hn,hm,hs,ht⟩
 ·
  injection hv with h1 h2 h3
  subst h1 h2 h3
  left
  obtain rfl:k=0:=by omega
  exact⟨rfl,rfl⟩
 ·
  injection hv with h1 h2 h3
  subst h1 h3
  refine .inr ⟨g,c,cur,rfl,hg,hb,by omega,hm,hs,?_⟩
  rw[←ht,List.take_take]
  congr 1
  omega
end
theorem qas{ops:Array Oper}{o:Oper}{a:Act}{w:World}{K:Act→World→Prop}{Q:Exit→Act→World→Prop}{F:Prop}{v:Value}(base:Nat)(ys zs us:List Int)(hus:ys++zs=us)(n m p:Nat)(hn:ys.length=n)(hm:zs.length=m)(hp:us.length=p)(hgd:o.guard=none)(s x:Operand)
  (ho:o.op= .call { callee:= .builtin .append,args:=#[s,x],argTypes:=#[58,58] }) (hty:o.type=58)
  (hs:a.eval s=v) {A:Option Addr} {c:Nat} (hx:a.eval x= .slice A m c)
  (hown:w.ownsRow base 3 1 v n (iv ys)) {lo h':Nat} (hr:Rd w lo h' A c (iv zs)) (hb:n+m≤1000000000) (hbase:base≤w.heap.size)
  (h:∀A' c' w',w'.ownsRow base 3 1 (.slice A' p c') p (iv us)→w.grownBy w' v.ownBlock→K (a.put o.dst (.slice A' p c')) w') :
  if Region.wanted o (yielded ops a.tmps)=true then Oper.wp Tryz.prog o a w K Q else F:=by
 subst hn hm hp
 have hw:Region.wanted o (yielded ops a.tmps)=true:=by simp[Region.wanted,hgd]
 rw[if_pos hw]
 obtain⟨A',c',w',hrun,h2,h3⟩:=qlj w base v ys zs us hus hown hr (by omega) hbase
 unfold Oper.wp execOp
 simp only[ho,hty,resolve,invoke,builtin,Sem.run_bind,Sem.run_pure,Result.andThen_ok,qcn,yc,vu,hs,hx,hrun]
 exact h A' c' w' h2 h3
theorem rd_num1{w:World}{g:Nat}{z:Int}(h:w.cell? ⟨g,0,none⟩=some (.int .i64 z)):Rd w 0 w.heap.size (some ⟨g,0,none⟩) 1 (iv [z]):=⟨by simp[iv],by simp[maxLen],fun _=>⟨g,0,rfl,qi _,ya w _ h,fun j u hu=>by
  match j,hu with
  | 0,hu =>
   simp[iv] at hu
   subst hu
   exact h
  | j+1,hu=>simp[iv] at hu⟩⟩
theorem ints_app(a b:List Nat):z8 (a++b)=z8 a++z8 b:=by simp[z8]
theorem ints_take(l:List Nat)(k:Nat):z8 (l.take k)=(z8 l).take k:=by simp[z8,qbt]
theorem ints_drop(l:List Nat)(k:Nat):z8 (l.drop k)=(z8 l).drop k:=by simp[z8,List.map_drop]
theorem iv_drop(l:List Int)(k:Nat):iv (l.drop k)=(iv l).drop k:=by simp[iv,List.map_drop]
theorem putg_any{w:World}(L t:List Nat)(g:Nat){lo c:Nat}{A:Option Addr}(h:Rd w lo w.heap.size A c (iv (z8 t)))(hlo:lo≤w.heap.size)(hs:Rise L t)(hlen:t.length≤100000000) :
  Calls Tryz.prog 117 #[.slice A t.length c,.int .i64 (g:Int)] w fun r w'=>∃(u:List Nat) (A':Option Addr) (c':Nat),r= .returned (.slice A' u.length c')∧Rise (L++[g]) u∧
   Rd w' lo w'.heap.size A' c' (iv (z8 u))∧Below w.heap.size w w':=by
 have hl:=h.len
 have hm:=h.cap
 rw[jz,zu] at hl
 unfold maxLen at hm
 have H:=qa h
 have HS:=qa hs
 clear h hs
 go_enter Tryz.func117,Tryz.ntmps117
 go_wp2_with fail
 go_loopw [5] (fun x5 wv=>∃(k m:Nat),k≤t.length∧x5= .int .i64 (k:Int)∧(∀j (hj:j<t.length),j<k→t[j]<g)∧wv=w.drewN m) (fun x5 _=>t.length-(intOf x5).toNat)
 case atStart=>exact⟨0,0,qi _,rfl,fun j _ h=>absurd h (ja j),rfl⟩
 case round =>
  obtain⟨k,m,hk,rfl,hal,rfl⟩:=hrel
  have HAL:=qa hal
  clear hal
  by_cases hkt:k<t.length
  ·
   have ikt:(k:Int)<(t.length:Int):=by omega
   have dkt:decide (k<t.length)=true:=qx hkt
   obtain⟨b2,off2,rfl,_,_,hcell⟩:=H.out.nat hkt
   have hcell2:(w.drewN m).cell? ⟨b2,off2+k,none⟩=some (.int .i64 ((t[k]:Nat):Int)):=hcell
   have HNX:Hid (t[k]<g→∀j (hj:j<t.length),j<k+1→t[j]<g):=fun h j hj hjk=>by
    rcases vf j k with h2 | h2
    ·
     exact HAL.out j hj h2
    ·
     have:j=k:=by omega
     subst this
     exact h
   obtain⟨z,hz⟩:∃z,t[k]=z:=⟨_,rfl⟩
   have HZ:=qa hz
   rw[hz] at hcell hcell2 HNX
   clear hz
   by_cases hzg:z<g
   ·
    have dz:decide (z<g)=true:=qx hzg
    have dz2:decide ((z:Int)<(g:Int))=true:=qx (by omega)
    have HN2:=qa (HNX.out hzg)
    go_wp2_with fail
    go_roundw
    case rel=>exact⟨k+1,_,by omega,by go_num,HN2.out,by first | rfl | (rw[zt])⟩
    case measure=>simp[intOf] <;> omega
   ·
    have dz:decide (z<g)=false:=qr hzg
    have dz2:decide ((z:Int)<(g:Int))=false:=qr (by omega)
    by_cases hze:z=g
    ·
     have HRS:Hid (Rise (L++[g]) t):=HS.out.there (by rw[←hze,←HZ.out];exact ql hkt)
     have e1:((z:Int)==(g:Int))=true:=by rw[hze];exact beq_self_eq_true _
     have e2:(z:Int)=(g:Int):=by omega
     have HH:Hid (Rd (w.drewN m) lo (w.drewN m).heap.size (some ⟨b2,off2,none⟩) c (iv (z8 t))):=H.out.drewN m
     clear hze
     go_wp2_with fail
     go_ret
     exact⟨t,_,c,rfl,HRS.out,HH.out,zj (Below.refl _ w) m⟩
    ·
     have e1:((z:Int)==(g:Int))=false:=by rw[q9];omega
     have e2:¬(z:Int)=(g:Int):=by omega
     have HGT:Hid (∀hk:k<t.length,g<t[k]):=fun h=>by have:=HZ.out;omega
     clear hze
     go_wp2_with fail
     have hkc:k≤c:=by omega
     have HT1:Hid ((z8 (t.take k)).length=k):=by unfold Hid;rw[zu,qz];omega
     have HT2:Hid ((z8 (t.drop k)).length=t.length-k):=by unfold Hid;rw[zu,qy]
     have HRT:Hid (∀wx,Below w.heap.size w wx→Rd wx 0 wx.heap.size (some ⟨b2,off2,none⟩) c (iv (z8 (t.take k)))):=fun wx hx=>by
      rw[ints_take,iv_take]
      exact((H.out.below hx (qc _)).take_ k).wide (qi _) hx.size
     have HRD:Hid (∀wx,Below w.heap.size w wx→Rd wx 0 wx.heap.size (if c=k then some ⟨b2,off2,none⟩ else some ⟨b2,off2+k,none⟩) (c-k) (iv (z8 (t.drop k)))):=fun wx hx=>by
      have h1:=(H.out.below hx (qc _)).cut (k:=k) (n:=t.length) hk (by rw[jz,zu];exact qc _)
      rw[ints_drop,iv_drop,←qo (l:=(iv (z8 t)).drop k) (i:=t.length-k) (by rw[qy,jz,zu];exact qc _)]
      have e9:(some ⟨b2,off2,none⟩:Option Addr).map (·.add k)=some ⟨b2,off2+k,none⟩:=by
       show some (Addr.add ⟨b2,off2,none⟩ k)=_
       unfold Addr.add
       by_cases h0:k=0 <;> simp[h0]
      rw[e9] at h1
      exact h1.wide (qi _) hx.size
     have HBM:Hid (∀M,Below w.heap.size w (w.drewN M)):=fun M=>zj (Below.refl _ w) M
     have HBA:Hid (∀wx o,Below w.heap.size w wx→Below w.heap.size w (wx.alloc o)):=fun wx o hx=>hx.alloc hx.size o
     have HBG:Hid (∀(wx wx':World) (row:Option Nat),Below w.heap.size w wx→wx.grownBy wx' row→(∀g,row=some g→w.heap.size≤g)→Below w.heap.size w wx'):=fun wx wx' row hx hg hr=>hx.grown hg hx.size hr
     obtain⟨tm,htm⟩:∃tm,z8 (t.take k)++[(g:Int)]=tm:=⟨_,rfl⟩
     obtain⟨tn,htn⟩:∃tn,tm++z8 (t.drop k)=tn:=⟨_,rfl⟩
     have HTM:=qa htm
     have HTN:=qa htn
     have HT3:Hid (tm.length=k+1):=by unfold Hid;rw[←htm,qd,HT1.out];rfl
     have HT4:Hid (tn.length=k+1+(t.length-k)):=by unfold Hid;rw[←htn,qd,HT3.out,HT2.out]
     obtain⟨u,hu⟩:∃u,t.take k++g :: t.drop k=u:=⟨_,rfl⟩
     have HUN:Hid (tn=z8 u):=by
      unfold Hid
      rw[←htn,←htm,←hu,ints_app]
      simp[z8]
     have HUL:Hid (u.length=k+1+(t.length-k)):=by have:=HT4.out;rw[HUN.out,zu] at this;exact this
     have HRI:Hid (Rise (L++[g]) u):=by unfold Hid;rw[←hu];exact HS.out.put HAL.out HGT.out
     clear htm htn hu
     go_region_law (first
      | (refine qas (v:= .slice (some ⟨w.heap.size,0,none⟩) 0 0) w.heap.size [] (z8 (t.take k)) (z8 (t.take k)) rfl 0 k k rfl HT1.out HT1.out rfl (.tmp 33) (.tmp 36) rfl rfl (by simp[Act.eval,Act.put]) (by simp[Act.eval,Act.put]) (by first | exact qca _ _ | exact(qca _ _).alloc _) (HRT.out _ (by first | exact HBA.out _ _ (HBM.out _) | exact HBA.out _ _ (HBA.out _ _ (HBM.out _)))) (by omega) (by simp <;> omega) ?_;intro A4 c4 w4 ho4 hg4;have hb4:Below w.heap.size w w4:=HBG.out _ _ _ (by first | exact HBA.out _ _ (HBM.out _) | exact HBA.out _ _ (HBA.out _ _ (HBM.out _))) hg4 (fun g hg=>by simp[Value.ownBlock] at hg;omega))
      | (refine qas (v:= .slice (some ⟨w.heap.size+1,0,none⟩) 0 0) w.heap.size [] (z8 (t.take k)) (z8 (t.take k)) rfl 0 k k rfl HT1.out HT1.out rfl (.tmp 33) (.tmp 36) rfl rfl (by simp[Act.eval,Act.put]) (by simp[Act.eval,Act.put]) (qhy _ _ _) (HRT.out _ (HBA.out _ _ (HBA.out _ _ (HBM.out _)))) (by omega) (by simp <;> omega) ?_;intro A4 c4 w4 ho4 hg4;have hb4:Below w.heap.size w w4:=HBG.out _ _ _ (HBA.out _ _ (HBA.out _ _ (HBM.out _))) hg4 (fun g hg=>by simp[Value.ownBlock] at hg;omega))
      | (refine qas (v:= .slice A4 k c4) w.heap.size (z8 (t.take k)) [(g:Int)] tm HTM.out k 1 (k+1) HT1.out rfl HT3.out rfl (.tmp 37) (.tmp 39) rfl rfl (by simp[Act.eval,Act.put]) (by simp[Act.eval,Act.put];rfl) (by first | exact ho4 | exact ho4.alloc _) (rd_num1 (by first | exact qgf _ _ _ | exact qbs hg4 (qgv _ _ _ _) (by simp[Value.ownBlock]) | exact qbs hg4 (qf5 _ _ _ _) (by simp[Value.ownBlock]))) (by omega) (by first | exact hb4.size | exact(HBA.out _ _ hb4).size) ?_;intro A5 c5 w5 ho5 hg5;have hb5:Below w.heap.size w w5:=HBG.out _ _ _ (by first | exact hb4 | exact HBA.out _ _ hb4) hg5 (fun g hg=>(zk ho4 hg).1))
      | (refine qas (v:= .slice A5 (k+1) c5) w.heap.size tm (z8 (t.drop k)) tn HTN.out (k+1) (t.length-k) (k+1+(t.length-k)) HT3.out HT2.out HT4.out rfl (.tmp 40) (.tmp 43) rfl rfl (by simp[Act.eval,Act.put]) (by simp[Act.eval,Act.put]) ho5 (HRD.out _ hb5) (by omega) hb5.size ?_;intro A6 c6 w6 ho6 hg6;have HB6:=qa (HBG.out _ _ _ hb5 hg6 (fun g hg=>(zk ho5 hg).1));have HO6:=qa ho6;clear ho6 hg6))
     all_goals
      go_wp2_with fail
      all_goals go_ret
      all_goals exact⟨u,A6,c6,by rw[HUL.out];rfl,HRI.out,by rw[←HUN.out];exact(Rd.of_own HO6.out).wide hlo (qc _),HB6.out⟩
  ·
   have ikt:¬(k:Int)<(t.length:Int):=by omega
   have dkt:decide (k<t.length)=false:=qr hkt
   have HGT:Hid (∀hk:k<t.length,g<t[k]):=fun h=>absurd h hkt
   go_wp2_with fail
   have hkc:k≤c:=by omega
   have HT1:Hid ((z8 (t.take k)).length=k):=by unfold Hid;rw[zu,qz];omega
   have HT2:Hid ((z8 (t.drop k)).length=t.length-k):=by unfold Hid;rw[zu,qy]
   have HRT:Hid (∀wx,Below w.heap.size w wx→Rd wx 0 wx.heap.size A c (iv (z8 (t.take k)))):=fun wx hx=>by
    rw[ints_take,iv_take]
    exact((H.out.below hx (qc _)).take_ k).wide (qi _) hx.size
   have HRD:Hid (∀wx,Below w.heap.size w wx→Rd wx 0 wx.heap.size (if c=k then A else A.map (·.add k)) (c-k) (iv (z8 (t.drop k)))):=fun wx hx=>by
    have h1:=(H.out.below hx (qc _)).cut (k:=k) (n:=t.length) hk (by rw[jz,zu];exact qc _)
    rw[ints_drop,iv_drop,←qo (l:=(iv (z8 t)).drop k) (i:=t.length-k) (by rw[qy,jz,zu];exact qc _)]
    exact h1.wide (qi _) hx.size
   have HBM:Hid (∀M,Below w.heap.size w (w.drewN M)):=fun M=>zj (Below.refl _ w) M
   have HBA:Hid (∀wx o,Below w.heap.size w wx→Below w.heap.size w (wx.alloc o)):=fun wx o hx=>hx.alloc hx.size o
   have HBG:Hid (∀(wx wx':World) (row:Option Nat),Below w.heap.size w wx→wx.grownBy wx' row→(∀g,row=some g→w.heap.size≤g)→Below w.heap.size w wx'):=fun wx wx' row hx hg hr=>hx.grown hg hx.size hr
   obtain⟨tm,htm⟩:∃tm,z8 (t.take k)++[(g:Int)]=tm:=⟨_,rfl⟩
   obtain⟨tn,htn⟩:∃tn,tm++z8 (t.drop k)=tn:=⟨_,rfl⟩
   have HTM:=qa htm
   have HTN:=qa htn
   have HT3:Hid (tm.length=k+1):=by unfold Hid;rw[←htm,qd,HT1.out];rfl
   have HT4:Hid (tn.length=k+1+(t.length-k)):=by unfold Hid;rw[←htn,qd,HT3.out,HT2.out]
   obtain⟨u,hu⟩:∃u,t.take k++g :: t.drop k=u:=⟨_,rfl⟩
   have HUN:Hid (tn=z8 u):=by
    unfold Hid
    rw[←htn,←htm,←hu,ints_app]
    simp[z8]
   have HUL:Hid (u.length=k+1+(t.length-k)):=by have:=HT4.out;rw[HUN.out,zu] at this;exact this
   have HRI:Hid (Rise (L++[g]) u):=by unfold Hid;rw[←hu];exact HS.out.put HAL.out HGT.out
   clear htm htn hu
   go_region_law (first
    | (refine qas (v:= .slice (some ⟨w.heap.size,0,none⟩) 0 0) w.heap.size [] (z8 (t.take k)) (z8 (t.take k)) rfl 0 k k rfl HT1.out HT1.out rfl (.tmp 33) (.tmp 36) rfl rfl (by simp[Act.eval,Act.put]) (by simp[Act.eval,Act.put]) (by first | exact qca _ _ | exact(qca _ _).alloc _) (HRT.out _ (by first | exact HBA.out _ _ (HBM.out _) | exact HBA.out _ _ (HBA.out _ _ (HBM.out _)))) (by omega) (by simp <;> omega) ?_;intro A4 c4 w4 ho4 hg4;have hb4:Below w.heap.size w w4:=HBG.out _ _ _ (by first | exact HBA.out _ _ (HBM.out _) | exact HBA.out _ _ (HBA.out _ _ (HBM.out _))) hg4 (fun g hg=>by simp[Value.ownBlock] at hg;omega))
    | (refine qas (v:= .slice (some ⟨w.heap.size+1,0,none⟩) 0 0) w.heap.size [] (z8 (t.take k)) (z8 (t.take k)) rfl 0 k k rfl HT1.out HT1.out rfl (.tmp 33) (.tmp 36) rfl rfl (by simp[Act.eval,Act.put]) (by simp[Act.eval,Act.put]) (qhy _ _ _) (HRT.out _ (HBA.out _ _ (HBA.out _ _ (HBM.out _)))) (by omega) (by simp <;> omega) ?_;intro A4 c4 w4 ho4 hg4;have hb4:Below w.heap.size w w4:=HBG.out _ _ _ (HBA.out _ _ (HBA.out _ _ (HBM.out _))) hg4 (fun g hg=>by simp[Value.ownBlock] at hg;omega))
    | (refine qas (v:= .slice A4 k c4) w.heap.size (z8 (t.take k)) [(g:Int)] tm HTM.out k 1 (k+1) HT1.out rfl HT3.out rfl (.tmp 37) (.tmp 39) rfl rfl (by simp[Act.eval,Act.put]) (by simp[Act.eval,Act.put];rfl) (by first | exact ho4 | exact ho4.alloc _) (rd_num1 (by first | exact qgf _ _ _ | exact qbs hg4 (qgv _ _ _ _) (by simp[Value.ownBlock]) | exact qbs hg4 (qf5 _ _ _ _) (by simp[Value.ownBlock]))) (by omega) (by first | exact hb4.size | exact(HBA.out _ _ hb4).size) ?_;intro A5 c5 w5 ho5 hg5;have hb5:Below w.heap.size w w5:=HBG.out _ _ _ (by first | exact hb4 | exact HBA.out _ _ hb4) hg5 (fun g hg=>(zk ho4 hg).1))
    | (refine qas (v:= .slice A5 (k+1) c5) w.heap.size tm (z8 (t.drop k)) tn HTN.out (k+1) (t.length-k) (k+1+(t.length-k)) HT3.out HT2.out HT4.out rfl (.tmp 40) (.tmp 43) rfl rfl (by simp[Act.eval,Act.put]) (by simp[Act.eval,Act.put]) ho5 (HRD.out _ hb5) (by omega) hb5.size ?_;intro A6 c6 w6 ho6 hg6;have HB6:=qa (HBG.out _ _ _ hb5 hg6 (fun g hg=>(zk ho5 hg).1));have HO6:=qa ho6;clear ho6 hg6))
   all_goals
    go_wp2_with fail
    all_goals go_ret
    all_goals exact⟨u,A6,c6,by rw[HUL.out];rfl,HRI.out,by rw[←HUN.out];exact(Rd.of_own HO6.out).wide hlo (qc _),HB6.out⟩
theorem sv_drop(l:List ByteArray)(k:Nat):sv (l.drop k)=(sv l).drop k:=by simp[sv,List.map_drop]
theorem strsL_append(a b:List (List UInt8)):yj (a++b)=yj a++yj b:=by simp[yj]
theorem allg_any{w:World}(l:List ByteArray){c:Nat}{A:Option Addr}(h:Rd w 0 w.heap.size A c (sv l))(hsz:∀s∈l,s.size≤100000)(hlen:l.length≤1000) :
  Calls Tryz.prog 83 #[.slice A l.length c] w fun r w'=>∃(t:List Nat) (A':Option Addr) (c':Nat),r= .returned (.slice A' t.length c')∧Rise (qcc (qcu l)) t∧t.length≤100000000∧
   Rd w' w.heap.size w'.heap.size A' c' (iv (z8 t))∧Below w.heap.size w w':=by
 have hl:=h.len
 have hm:=h.cap
 rw[j7] at hl
 unfold maxLen at hm
 have H:=qa h
 have H1:Hid (∀k (hk:k<l.length),l[k].size≤100000):=fun k hk=>hsz _ (ql hk)
 have HLN:Hid (∀i,(qcc (qcu (l.take i))).length≤100000*i):=fun i=>by
  induction i with
  | zero=>simp[qcu,qcc]
  | succ i ih =>
   by_cases hi:i<l.length
   ·
    have h2:l[i].data.toList.length=l[i].size:=by rw[jt];rfl
    rw[qpa l i hi,qd,qbi,h2]
    have:=H1.out i hi
    omega
   ·
    rw[qo (by omega)]
    rw[qo (by omega)] at ih
    omega
 clear h hsz
 go_enter Tryz.func83,Tryz.ntmps83
 go_wp2_with fail
 go_loopw [3,4] (fun x3 x4 wr=>∃(i:Nat) (t:List Nat) (A':Option Addr) (c':Nat),i≤l.length∧x4= .int .i64 (i:Int)∧x3= .slice A' t.length c'∧Rise (qcc (qcu (l.take i))) t∧
  Rd wr w.heap.size wr.heap.size A' c' (iv (z8 t))∧Below w.heap.size w wr) (fun _ x4 _=>l.length-(intOf x4).toNat)
 case atStart=>exact⟨0,[],none,0,qi _,rfl,rfl,Rise.nil,Rd.nil _ _ _,Below.refl _ _⟩
 case round =>
  obtain⟨i,t,A',c',hi,rfl,rfl,hri,hrd,hb⟩:=hrel
  obtain⟨wy,hwy⟩:∃wy,wy=wr:=⟨_,rfl⟩
  subst hwy
  have HRI:=qa hri
  have HRD:=qa hrd
  have HB:=qa hb
  have hszy:=hb.size
  clear hri hrd hb
  by_cases hlt:i<l.length
  ·
   have ik:(i:Int)<(l.length:Int):=by omega
   obtain⟨b1,off1,rfl,_,hb1,hcell0⟩:=H.out.str hlt
   have hss:=H1.out i hlt
   have HLI:=qa (HLN.out i)
   have HTK:=qa (qpa l i hlt)
   obtain⟨s,hs⟩:∃s,l[i]=s:=⟨_,rfl⟩
   rw[hs] at hcell0 hss HTK
   clear hs
   have HC0:=qa hcell0
   clear hcell0
   go_wp2_with fail
   go_loopw [3,5] (fun x3 x5 wr=>∃(k:Nat) (t:List Nat) (A':Option Addr) (c':Nat),(k=0∨k+1<s.size)∧x5= .int .i64 (k:Int)∧x3= .slice A' t.length c'∧Rise (qcc (qcu (l.take i))++(qdz s.data.toList).take k) t∧
    Rd wr w.heap.size wr.heap.size A' c' (iv (z8 t))∧Below w.heap.size w wr) (fun _ x5 _=>s.size-(intOf x5).toNat)
   case atStart=>exact⟨0,t,A',c',.inl rfl,rfl,rfl,by rw[y9,jb];exact HRI.out,HRD.out,HB.out⟩
   case round =>
    clear HRI HRD HB
    obtain⟨k,t,A',c',hk,rfl,rfl,hri,hrd,hb⟩:=hrel
    obtain⟨wz,hwz⟩:∃wz,wz=wr:=⟨_,rfl⟩
    subst hwz
    have HRI:=qa hri
    have HRD:=qa hrd
    have HB:=qa hb
    have hszz:=hb.size
    have hlt1:=hri.len
    have hcell:wz.cell? ⟨b1,off1+i,none⟩=some (.string s):=(hb.cell hb1).trans HC0.out
    clear hri hrd hb
    by_cases hk2:k+2<s.size
    ·
     have ik2:(k:Int)+2<(s.size:Int):=by omega
     have htl:t.length≤100000000:=by
      rw[qd,qz] at hlt1
      have:=HLI.out
      omega
     clear hlt1
     have hc3:∀x:UInt8,x.toNat<256:=fun x=>jj x
     have hx1:=hc3 s[k]
     have hx2:=hc3 s[k+1]
     have hx3:=hc3 s[k+2]
     clear hc3
     have hk0:k<s.size:=by omega
     have hk1:k+1<s.size:=by omega
     have hw1:IntKind.i64.wrap ((k:Int)+1)=(k:Int)+1:=jf _ (by omega)
     have hw2:IntKind.i64.wrap ((k:Int)+2)=(k:Int)+2:=jf _ (by omega)
     have l1:(0:Int)≤(k:Int)+1:=by omega
     have l1':(k:Int)+1<(s.size:Int):=by omega
     have l2:(0:Int)≤(k:Int)+2:=by omega
     have e1:((k:Int)+1).toNat=k+1:=by omega
     have e2:((k:Int)+2).toNat=k+2:=by omega
     have HCL:Hid (∀W,Below wz.heap.size wz W→W.cell? ⟨b1,off1+i,none⟩=some (.string s)):=fun W hW=>(hW.cell (zn hb1 hszz)).trans hcell
     have HGT:=qa (qpy s k hk2)
     obtain⟨g,hg⟩:∃g,qke s[k] s[k+1] s[k+2]=g:=⟨_,rfl⟩
     have HGV:Hid (Value.int .i64 (IntKind.i64.wrap (IntKind.i64.wrap (IntKind.i64.wrap (65536*IntKind.i64.wrap (s[k].toNat:Int))+IntKind.i64.wrap (256*IntKind.i64.wrap (s[k+1].toNat:Int)))+IntKind.i64.wrap (s[k+2].toNat:Int)))= .int .i64 (g:Int)):=by
      unfold Hid
      rw[←hg,qke]
      generalize s[k].toNat=x at *
      generalize s[k+1].toNat=y at *
      generalize s[k+2].toNat=z at *
      rw[jf (x:Int) (by omega),jf (y:Int) (by omega),jf (z:Int) (by omega),jf (65536*(x:Int)) (by omega),jf (256*(y:Int)) (by omega),jf (65536*(x:Int)+256*(y:Int)) (by omega),jf (65536*(x:Int)+256*(y:Int)+(z:Int)) (by omega)]
      congr 1
     rw[hg] at HGT
     clear hg
     have HPG:=qa (fun W (hW:Below wz.heap.size wz W)=>putg_any (w:=W) _ t g ((HRD.out.below hW (qc _)).wide (qc _) hW.size) (zb hszz hW.size) HRI.out htl)
     go_wp2_with fail
     refine wp_region_held_drew (S:=fun w'=>Below wz.heap.size wz w') (by kernel_rfl) (Below.drew (Below.refl _ _)) (fun hHeld => ?_)
     refine tk 0 ?_ rfl hHeld ?_ ?_
     rotate_left
     focus (intro W hSw;go_simp;try with_reducible rfl)
     try simp only[ju,Act.put]
     refine tk 1 ?_ rfl hHeld ?_ ?_
     rotate_left
     focus (intro W hSw;go_simp;try with_reducible rfl)
     try simp only[ju,Act.put]
     refine tk 2 ?_ rfl hHeld ?_ ?_
     rotate_left
     focus (intro W hSw;go_simp;try with_reducible rfl)
     try simp only[ju,Act.put]
     refine tk 3 ?_ rfl hHeld ?_ ?_
     rotate_left
     focus (intro W hSw;go_simp;try with_reducible rfl)
     try simp only[ju,Act.put]
     refine tk 4 ?_ rfl hHeld ?_ ?_
     rotate_left
     focus (intro W hSw;have hcv:=HCL.out W hSw;go_simp;try with_reducible rfl)
     try simp only[ju,Act.put]
     refine tk 5 ?_ rfl hHeld ?_ ?_
     rotate_left
     focus (intro W hSw;go_simp;try with_reducible rfl)
     try simp only[ju,Act.put]
     refine tk 6 ?_ rfl hHeld ?_ ?_
     rotate_left
     focus (intro W hSw;go_simp;try with_reducible rfl)
     try simp only[ju,Act.put]
     refine tk 7 ?_ rfl hHeld ?_ ?_
     rotate_left
     focus (intro W hSw;go_simp;try with_reducible rfl)
     try simp only[ju,Act.put]
     refine tk 8 ?_ rfl hHeld ?_ ?_
     rotate_left
     focus (intro W hSw;go_simp;try with_reducible rfl)
     try simp only[ju,Act.put]
     refine tk 9 ?_ rfl hHeld ?_ ?_
     rotate_left
     focus (intro W hSw;go_simp;try with_reducible rfl)
     try simp only[ju,Act.put]
     refine tk 10 ?_ rfl hHeld ?_ ?_
     rotate_left
     focus (intro W hSw;go_simp;try with_reducible rfl)
     try simp only[ju,Act.put]
     refine tk 11 ?_ rfl hHeld ?_ ?_
     rotate_left
     focus (intro W hSw;go_simp;try with_reducible rfl)
     try simp only[ju,Act.put]
     refine tk 12 ?_ rfl hHeld ?_ ?_
     rotate_left
     focus (intro W hSw;have hcv:=HCL.out W hSw;go_simp;try with_reducible rfl)
     try simp only[ju,Act.put]
     refine tk 13 ?_ rfl hHeld ?_ ?_
     rotate_left
     focus (intro W hSw;go_simp;try with_reducible rfl)
     try simp only[ju,Act.put]
     refine tk 14 ?_ rfl hHeld ?_ ?_
     rotate_left
     focus (intro W hSw;go_simp;try with_reducible rfl)
     try simp only[ju,Act.put]
     refine tk 15 ?_ rfl hHeld ?_ ?_
     rotate_left
     focus (intro W hSw;go_simp;try with_reducible rfl)
     try simp only[ju,Act.put]
     refine tk 16 ?_ rfl hHeld ?_ ?_
     rotate_left
     focus (intro W hSw;go_simp;try with_reducible rfl)
     try simp only[ju,Act.put]
     refine tk 17 ?_ rfl hHeld ?_ ?_
     rotate_left
     focus (intro W hSw;go_simp;try with_reducible rfl)
     try simp only[ju,Act.put]
     refine tk 18 ?_ rfl hHeld ?_ ?_
     rotate_left
     focus (intro W hSw;go_simp;try with_reducible rfl)
     try simp only[ju,Act.put]
     refine tk 19 ?_ rfl hHeld ?_ ?_
     rotate_left
     focus (intro W hSw;go_simp;try with_reducible rfl)
     try simp only[ju,Act.put]
     refine tk 20 ?_ rfl hHeld ?_ ?_
     rotate_left
     focus (intro W hSw;go_simp;try with_reducible rfl)
     try simp only[ju,Act.put]
     refine tk 21 ?_ rfl hHeld ?_ ?_
     rotate_left
     focus (intro W hSw;go_simp;try with_reducible rfl)
     try simp only[ju,Act.put]
     refine tk 22 ?_ rfl hHeld ?_ ?_
     rotate_left
     focus (intro W hSw;have hcv:=HCL.out W hSw;go_simp;try with_reducible rfl)
     try simp only[ju,Act.put]
     refine tk 23 ?_ rfl hHeld ?_ ?_
     rotate_left
     focus (intro W hSw;go_simp;try with_reducible rfl)
     try simp only[ju,Act.put]
     refine tk 24 ?_ rfl hHeld ?_ ?_
     rotate_left
     focus (intro W hSw;go_simp;try with_reducible rfl)
     try simp only[ju,Act.put]
     refine tk 25 ?_ rfl hHeld ?_ ?_
     rotate_left
     focus (intro W hSw;go_simp;try with_reducible rfl)
     try simp only[ju,Act.put]
     refine tk 26 ?_ rfl hHeld ?_ ?_
     rotate_left
     focus (intro W hSw;go_simp;try with_reducible rfl)
     try simp only[ju,Act.put]
     refine tk 27 ?_ rfl hHeld ?_ ?_
     rotate_left
     focus (intro W hSw;go_simp;try with_reducible rfl)
     try simp only[ju,Act.put]
     refine wpAnyH_ready (rs:=[28]) (by kernel_rfl) (by simp) ?_
     refine qt (o:=_) rfl (fun K hK => ?_) za
     go_simp
     rw[HGV.out]
     refine(HPG.out _ hHeld).mono ?_
     rintro r w9 ⟨u,A9,c9,rfl,hri9,hrd9,hb9⟩
     have HR9:=qa hri9
     have HD9:=qa hrd9
     have HB9:=qa (zo hHeld hb9 hHeld.size)
     clear hri9 hrd9 hb9
     refine hK.out _ _ HB9.out (fun hHeld => ?_)
     clear hK K
     try simp only[ju,Act.put]
     refine tk 29 ?_ rfl hHeld ?_ ?_
     rotate_left
     focus (intro W hSw;go_simp;try with_reducible rfl)
     try simp only[ju,Act.put]
     refine wpAnyH_done (by kernel_rfl) ?_ _
     have HE:=qa (zo HB.out HB9.out hszz)
     clear hHeld
     go_wp2_with fail
     go_roundw
     case rel=>exact⟨k+1,u,A9,c9,.inr (by omega),by go_num,rfl,by rw[HGT.out,←qp];exact HR9.out,HD9.out,HE.out⟩
     case measure=>simp[intOf] <;> omega
    ·
     have ik2:¬(k:Int)+2<(s.size:Int):=by omega
     have hkl:(k:Int)≤9223372036854775805:=by omega
     have HEQ:Hid (Rise (qcc (qcu (l.take (i+1)))) t):=by
      unfold Hid
      have:=HRI.out
      rw[qo (l:=qdz s.data.toList) (by rw[qbi,jt];show s.size-2≤k;omega)] at this
      rw[HTK.out]
      exact this
     clear hlt1
     go_wp2_with fail
     go_roundw
     case rel=>exact⟨i+1,t,A',c',by omega,by go_num,rfl,HEQ.out,HRD.out,HB.out⟩
     case measure=>simp[intOf] <;> omega
  ·
   have ik:¬(i:Int)<(l.length:Int):=by omega
   have hil:i=l.length:=by omega
   have HSF:Hid (Rise (qcc (qcu l)) t):=by
    have:=HRI.out
    rw[qo (by omega)] at this
    exact this
   have htl:t.length≤100000000:=by
    have h1:=HRI.out.len
    have h2:=HLN.out i
    omega
   go_wp2_with fail
   go_ret
   exact⟨t,A',c',rfl,HSF.out,htl,HRD.out,HB.out⟩
theorem lv_append(a b:List Bool):lv (a++b)=lv a++lv b:=by simp[lv]
theorem lv_one(l:List Bool):∀u∈lv l,u.oneCell'=true:=by
 intro u hu
 obtain⟨c,_,rfl⟩:=zl.1 hu
 rfl
theorem rd_own{w:World}{base n c:Nat}{A:Option Addr}{e:TypeId}{xs:List Value}(h:w.ownsRow base e 1 (.slice A n c) n xs):Rd w 0 w.heap.size A c xs:=(Rd.own h).wide (qi _) (qc _)
end Go.Proofs.YtjfecojdagmacaaGreat
