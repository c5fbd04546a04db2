/-
  Lemmas.
-/
import Derived.Test.YtnjkipnklpkaoaaGreatA52
namespace Go.Proofs.YtnjkipnklpkaoaaGreat
open Go.RowKit
set_option maxRecDepth 20000
set_option maxHeartbeats 16000000
set_option linter.unusedSimpArgs false
set_option linter.unusedVariables false
theorem qg4{a b:Int}(h:a=b):(Ending.returned (.int .i64 a):Ending)= .returned (.int .i64 b):=by rw[h]
theorem saysp_any:∀(p:Pr) {w:World} {lo hi rlo rhi:Nat} {A rA:Option Addr} {c rc:Nat} (row:List Vl) (deep:Int),PrOk p→Kin w lo hi p.kids A c→Row w rlo rhi rA rc row→hi≤w.heap.size→rhi≤w.heap.size→(∀v∈row,v.s.size≤100000)→uv p row.length deep=true→
  Calls Tryz.prog 28 #[.agg #[.int .i64 p.kind,.int .i64 p.col,.string p.s,.int .i64 p.esc,.int .i64 p.coll,.slice A p.kids.length c],.slice rA row.length rc] w fun r w'=>r= .returned (.int .i64 (qeb p row))∧Below w.heap.size w w' :=
 Pr.ind fun p ih w lo hi rlo rhi A rA c rc row deep ho hk hrow hhi hrhi hvs hr=>by
  have HIH:=qa ih
  have HK:=qa hk
  have HROW:=qa hrow
  have HVS:=qa hvs
  have HR:=qa hr
  have hs63:=ho.s
  obtain⟨hl1,hl2⟩:=hk.len
  obtain⟨hr1,hr2⟩:=hrow.len
  clear ih hk ho hrow hvs hr
  obtain⟨V,hV⟩:∃V,qeb p row=V:=⟨_,rfl⟩
  rw[hV]
  rw[saysP_eq] at hV
  have HRH:=qa (fun h=>qlp HR.out h)
  have HRL:=qa (fun h=>qlo HR.out h)
  clear HR
  obtain⟨kd,hkd⟩:∃x,p.kind=x:=⟨_,rfl⟩
  obtain⟨cl,hcl⟩:∃x,p.col=x:=⟨_,rfl⟩
  obtain⟨ec,hec⟩:∃x,p.esc=x:=⟨_,rfl⟩
  obtain⟨co,hco⟩:∃x,p.coll=x:=⟨_,rfl⟩
  obtain⟨s,hs⟩:∃x,p.s=x:=⟨_,rfl⟩
  obtain⟨ks,hks⟩:∃x,p.kids=x:=⟨_,rfl⟩
  rw[hkd,hcl,hec,hco,hs,hks] at hV
  rw[hkd,hks] at HRH
  rw[hkd,hcl,hec,hs,hks] at HRL
  rw[hks] at HIH HK hl1
  rw[hs] at hs63
  rw[hkd,hcl,hec,hco,hs,hks]
  clear hkd hcl hec hco hs hks
  have HV:=qa hV
  clear hV
  obtain⟨w1,hw1⟩:∃w1,w.alloc (.cells #[.int .i64 kd,.int .i64 cl,.string s,.int .i64 ec,.int .i64 co,.slice A ks.length c] 55)=w1:=⟨_,rfl⟩
  have B1:Hid (Below w.heap.size w w1):=by unfold Hid;rw[←hw1];exact(Below.refl _ w).alloc (qc _) _
  have hb:j6 w1 w.heap.size 55 #[.int .i64 kd,.int .i64 cl,.string s,.int .i64 ec,.int .i64 co,.slice A ks.length c]:=by rw[←hw1];exact j6.new w _ _
  have hs1:w1.heap.size=w.heap.size+1:=by rw[←hw1];simp
  have HKK:Hid (∀W,Below w1.heap.size w1 W→j6 W w.heap.size 55 #[.int .i64 kd,.int .i64 cl,.string s,.int .i64 ec,.int .i64 co,.slice A ks.length c]):=fun W hW=>hb.below hW (by omega)
  have b0:w1.cell? ⟨w.heap.size,0,none⟩=some (.int .i64 kd):=hb.cell 0
  have b1:w1.cell? ⟨w.heap.size,1,none⟩=some (.int .i64 cl):=hb.cell 1
  have b2:w1.cell? ⟨w.heap.size,2,none⟩=some (.string s):=hb.cell 2
  have b3:w1.cell? ⟨w.heap.size,3,none⟩=some (.int .i64 ec):=hb.cell 3
  have b4:w1.cell? ⟨w.heap.size,4,none⟩=some (.int .i64 co):=hb.cell 4
  have b5:w1.cell? ⟨w.heap.size,5,none⟩=some (.slice A ks.length c):=hb.cell 5
  have HK1:=qa (HK.out.kept B1.out hhi)
  have HROW1:=qa (HROW.out.below B1.out hrhi)
  clear hb HK HROW
  by_cases g12:12≤kd
  ·
   obtain⟨k14,k16,k1,_,HRK⟩:=HRH.out g12
   have HRK:=qa HRK
   clear HRL HRH
   have HVT:Hid (∀a b u:Nat,Tal (ks.map fun q=>qeb q row) a b u→qez kd a b u=V):=fun a b u ht=>by rw[←HV.out,if_pos g12,ht.no,ht.yes,ht.un]
   clear HV
   have g12':decide (12≤kd)=true:=qp g12
   go_enter Tryz.func28,Tryz.ntmps28
   go_wp2_with fail
   go_loopw [5,6,7,8] (fun x5 x6 x7 x8 wr=>∃k a b u:Nat,k≤ks.length∧a≤k∧b≤k∧u≤k∧x5= .int .i64 (a:Int)∧x6= .int .i64 (b:Int)∧x7= .int .i64 (u:Int)∧x8= .int .i64 (k:Int)∧Tal ((ks.take k).map fun q=>qeb q row) a b u∧Below w1.heap.size w1 wr) (fun _ _ _ x8 _=>ks.length-(intOf x8).toNat)
   case atStart=>exact⟨0,0,0,0,qi _,qc _,qc _,qc _,rfl,rfl,rfl,rfl,Tal.nil,Below.refl _ _⟩
   case round =>
    clear b0 b1 b2 b3 b4 b5
    obtain⟨k,a,b,u,hk,ha,hbk,hu,rfl,rfl,rfl,rfl,htal,hb⟩:=hrel
    have HT:=qa htal
    have HB:=qa hb
    have hsz:=hb.size
    have hbb:=HKK.out wr hb
    have b0:wr.cell? ⟨w.heap.size,0,none⟩=some (.int .i64 kd):=hbb.cell 0
    have b5:wr.cell? ⟨w.heap.size,5,none⟩=some (.slice A ks.length c):=hbb.cell 5
    clear htal hb hbb
    by_cases hlt:k<ks.length
    ·
     have ik:(k:Int)<(ks.length:Int):=by omega
     obtain⟨bk,off,kA,kc,rfl,hlo,hbh,c0,c1,c2,c3,c4,c5,hok,hkk⟩:=(HK1.out.kept HB.out (by omega)).six hlt
     have HQ:=qa (HIH.out ks[k] (qj hlt) (w:=wr) row (deep-1) hok hkk (HROW1.out.below HB.out (by omega)) (by omega) (by omega) HVS.out (HRK.out _ (qj hlt)))
     have HTK:Hid ((ks.take (k+1)).map (fun q=>qeb q row)=(ks.take k).map (fun q=>qeb q row)++[qeb ks[k] row]):=by unfold Hid;rw[qg hlt,jg];rfl
     generalize ks[k]=q at *
     obtain⟨z,hz⟩:∃z,qeb q row=z:=⟨_,rfl⟩
     rw[hz] at HQ HTK
     clear hz hok hkk
     by_cases z0:z=0
     ·
      subst z0
      have HN:Hid (Tal ((ks.take (k+1)).map fun q=>qeb q row) (a+1) b u):=by unfold Hid;rw[HTK.out];exact HT.out.no1
      clear HTK
      go_wp2_with fail
      refine HQ.out.mono ?_
      rintro r w3 ⟨rfl,q3⟩
      have HB3:=qa (yd HB.out q3 hsz)
      clear q3
      go_wp2_with fail
      go_roundw
      case rel=>exact⟨k+1,a+1,b,u,by omega,by omega,by omega,by omega,by go_num,rfl,rfl,by go_num,HN.out,HB3.out⟩
      case measure=>simp[intOf] <;> omega
     ·
      have e0:(z==0)=false:=by rw[qr];exact z0
      by_cases z1:z=1
      ·
       subst z1
       have HN:Hid (Tal ((ks.take (k+1)).map fun q=>qeb q row) a (b+1) u):=by unfold Hid;rw[HTK.out];exact HT.out.yes1
       clear HTK
       go_wp2_with fail
       refine HQ.out.mono ?_
       rintro r w3 ⟨rfl,q3⟩
       have HB3:=qa (yd HB.out q3 hsz)
       clear q3
       go_wp2_with fail
       go_roundw
       case rel=>exact⟨k+1,a,b+1,u,by omega,by omega,by omega,by omega,rfl,by go_num,rfl,by go_num,HN.out,HB3.out⟩
       case measure=>simp[intOf] <;> omega
      ·
       have e1:(z==1)=false:=by rw[qr];exact z1
       have HN:Hid (Tal ((ks.take (k+1)).map fun q=>qeb q row) a b (u+1)):=by unfold Hid;rw[HTK.out];exact HT.out.un1 z0 z1
       clear HTK
       go_wp2_with fail
       refine HQ.out.mono ?_
       rintro r w3 ⟨rfl,q3⟩
       have HB3:=qa (yd HB.out q3 hsz)
       clear q3
       go_wp2_with fail
       go_roundw
       case rel=>exact⟨k+1,a,b,u+1,by omega,by omega,by omega,by omega,rfl,rfl,by go_num,by go_num,HN.out,HB3.out⟩
       case measure=>simp[intOf] <;> omega
    ·
     have ik:¬(k:Int)<(ks.length:Int):=by omega
     have HVH:Hid (qez kd a b u=V):=HVT.out a b u (by
      have:=HT.out
      rwa [qo (by omega)] at this)
     clear HT
     rcases(show kd=12∨kd=13∨kd=14 by omega) with hkd | hkd | hkd
     ·
      subst hkd
      clear g12 g12'
      rcases(show(0<a)∨(a=0∧u=0)∨(a=0∧0<u) by omega) with h | h | h
      ·
       have HVV:Hid (V=0):=by unfold Hid;rw[←HVH.out,qez];exact if_pos (by omega)
       have ia:(0:Int)<(a:Int):=by omega
       clear h HVH HVT
       go_wp2_with fail
       go_ret
       exact⟨qg4 HVV.out.symm,yd B1.out HB.out (by omega)⟩
      ·
       have HVV:Hid (V=1):=by unfold Hid;rw[←HVH.out,qez];rw[if_neg (by omega)];exact if_pos (by omega)
       have ia:¬(0:Int)<(a:Int):=by omega
       have eu:((u:Int)==0)=true:=by rw[beq_iff_eq];omega
       clear h HVH HVT
       go_wp2_with fail
       go_ret
       exact⟨qg4 HVV.out.symm,yd B1.out HB.out (by omega)⟩
      ·
       have HVV:Hid (V=2):=by unfold Hid;rw[←HVH.out,qez];rw[if_neg (by omega)];exact if_neg (by omega)
       have ia:¬(0:Int)<(a:Int):=by omega
       have eu:((u:Int)==0)=false:=by rw[qr];omega
       clear h HVH HVT
       go_wp2_with fail
       go_ret
       exact⟨qg4 HVV.out.symm,yd B1.out HB.out (by omega)⟩
     ·
      subst hkd
      clear g12 g12'
      rcases(show(b=0∧u=0)∨(b=0∧0<u)∨(0<b) by omega) with h | h | h
      ·
       have HVV:Hid (V=0):=by unfold Hid;rw[←HVH.out,qez];exact if_pos (by omega)
       have eb:((b:Int)==0)=true:=by rw[beq_iff_eq];omega
       have eu:((u:Int)==0)=true:=by rw[beq_iff_eq];omega
       clear h HVH HVT
       go_wp2_with fail
       go_ret
       exact⟨qg4 HVV.out.symm,yd B1.out HB.out (by omega)⟩
      ·
       have HVV:Hid (V=2):=by unfold Hid;rw[←HVH.out,qez];rw[if_neg (by omega)];exact if_neg (by omega)
       have eb:((b:Int)==0)=true:=by rw[beq_iff_eq];omega
       have eu:((u:Int)==0)=false:=by rw[qr];omega
       have ib:¬(0:Int)<(b:Int):=by omega
       clear h HVH HVT
       go_wp2_with fail
       go_ret
       exact⟨qg4 HVV.out.symm,yd B1.out HB.out (by omega)⟩
      ·
       have HVV:Hid (V=1):=by unfold Hid;rw[←HVH.out,qez];rw[if_neg (by omega)];exact if_pos (by omega)
       have eb:((b:Int)==0)=false:=by rw[qr];omega
       have ib:(0:Int)<(b:Int):=by omega
       clear h HVH HVT
       go_wp2_with fail
       go_ret
       exact⟨qg4 HVV.out.symm,yd B1.out HB.out (by omega)⟩
     ·
      subst hkd
      clear g12 g12'
      rcases(show(0<b)∨(b=0∧u=0)∨(b=0∧0<u) by omega) with h | h | h
      ·
       have HVV:Hid (V=0):=by unfold Hid;rw[←HVH.out,qez];exact if_pos (by omega)
       have ib:(0:Int)<(b:Int):=by omega
       clear h HVH HVT
       go_wp2_with fail
       go_ret
       exact⟨qg4 HVV.out.symm,yd B1.out HB.out (by omega)⟩
      ·
       have HVV:Hid (V=1):=by unfold Hid;rw[←HVH.out,qez];rw[if_neg (by omega)];exact if_pos (by omega)
       have ib:¬(0:Int)<(b:Int):=by omega
       have eu:((u:Int)==0)=true:=by rw[beq_iff_eq];omega
       clear h HVH HVT
       go_wp2_with fail
       go_ret
       exact⟨qg4 HVV.out.symm,yd B1.out HB.out (by omega)⟩
      ·
       have HVV:Hid (V=2):=by unfold Hid;rw[←HVH.out,qez];rw[if_neg (by omega)];exact if_neg (by omega)
       have ib:¬(0:Int)<(b:Int):=by omega
       have eu:((u:Int)==0)=false:=by rw[qr];omega
       clear h HVH HVT
       go_wp2_with fail
       go_ret
       exact⟨qg4 HVV.out.symm,yd B1.out HB.out (by omega)⟩
  ·
   have g12':decide (12≤kd)=false:=ql g12
   obtain⟨l1,l2,l3,l4, -,HPF⟩:=HRL.out g12
   have HPF:=qa HPF
   clear HRL HRH HIH HK1
   have HVL:Hid (qld kd co ec s (row[cl.toNat]?.getD ⟨true,⟨#[]⟩⟩)=V):=by unfold Hid;rw[←HV.out,if_neg g12]
   clear HV
   obtain⟨j,rfl⟩:∃j:Nat,cl=(j:Int):=⟨cl.toNat,by omega⟩
   have hjl:j<row.length:=by omega
   rw[vf,qe hjl,xj] at HVL
   obtain⟨b2k,off2,hA2,hlo2,hbh2,d0,d1⟩:=HROW1.out.get hjl
   have hvz:=HVS.out row[j] (qj hjl)
   generalize row[j]=v at *
   obtain⟨vn,vs⟩:=v
   simp only at d0 d1 hvz
   subst hA2
   obtain⟨wa,hwa⟩:∃wa,w1.alloc (.cells #[.bool vn,.string vs] 60)=wa:=⟨_,rfl⟩
   have BA:Hid (Below w1.heap.size w1 wa):=by unfold Hid;rw[←hwa];exact(Below.refl _ w1).alloc (qc _) _
   have sa:wa.heap.size=w.heap.size+2:=by rw[←hwa];simp[hs1]
   have HVA:Hid (∀W,Below wa.heap.size wa W→j6 W (w.heap.size+1) 60 #[.bool vn,.string vs]):=fun W hW=>by
    have:=j6.new w1 60 #[.bool vn,.string vs]
    rw[hwa,hs1] at this
    exact this.below hW (by omega)
   have HKA:Hid (∀W,Below wa.heap.size wa W→j6 W w.heap.size 55 #[.int .i64 kd,.int .i64 (j:Int),.string s,.int .i64 ec,.int .i64 co,.slice A ks.length c]):=fun W hW=>HKK.out W (yd BA.out hW (by omega))
   have BW:Hid (Below w.heap.size w wa):=yd B1.out BA.out (by omega)
   have v0:=(HVA.out wa (Below.refl _ _)).cell 0
   have v1:=(HVA.out wa (Below.refl _ _)).cell 1
   have a0:=(HKA.out wa (Below.refl _ _)).cell 0
   have a2:=(HKA.out wa (Below.refl _ _)).cell 2
   have a3:=(HKA.out wa (Below.refl _ _)).cell 3
   have a4:=(HKA.out wa (Below.refl _ _)).cell 4
   simp only[zl,q9,zb] at v0 v1 a0 a2 a3 a4
   clear HROW1 HVS HKK
   by_cases k11:kd=11
   ·
    subst k11
    clear g12 g12'
    have HVV:Hid (V=qkw vn):=by unfold Hid;rw[←HVL.out,qld,if_pos rfl]
    clear HVL
    have HBT:Hid (∀w,Calls Tryz.prog 62 #[.bool (vn)] w fun r w'=>r= .returned (.int .i64 V)∧w=w'):=fun w=>by rw[HVV.out];exact qcq _
    clear HVV
    go_enter Tryz.func28,Tryz.ntmps28
    go_wp2_with fail
    refine(HBT.out _).mono ?_
    rintro r w2 ⟨rfl,rfl⟩
    go_wp2_with fail
    go_ret
    exact⟨rfl,BW.out⟩
   ·
    have e11:(kd==11)=false:=by rw[qr];exact k11
    cases vn with
    | true =>
     have HVV:Hid (V=2):=by unfold Hid;rw[←HVL.out,qld,if_neg k11,if_pos rfl]
     clear HVL
     go_enter Tryz.func28,Tryz.ntmps28
     go_wp2_with fail
     go_ret
     exact⟨qg4 HVV.out.symm,BW.out⟩
    | false =>
     have hvn:¬(false=true):=Bool.false_ne_true
     rcases(show kd=7∨kd=8∨kd=9∨kd=10∨kd=1∨kd=2∨kd=3∨kd=4∨kd=5∨kd=6 by omega) with hkd | hkd | hkd | hkd | hkd | hkd | hkd | hkd | hkd | hkd
     ·
      subst hkd
      clear g12 g12' e11
      have HVV:Hid (V=qkw (begS vs s)):=by unfold Hid;rw[←HVL.out,qld,if_neg k11,if_neg hvn,if_pos rfl]
      clear HVL k11
      have HBT:Hid (∀w,Calls Tryz.prog 62 #[.bool (begS vs s)] w fun r w'=>r= .returned (.int .i64 V)∧w=w'):=fun w=>by rw[HVV.out];exact qcq _
      clear HVV
      have HC:=qa (fun w=>ndbegins_any (w:=w) vs s (by omega) (by omega))
      generalize begS vs s=e at *
      go_enter Tryz.func28,Tryz.ntmps28
      go_wp2_with fail
      refine(HC.out _).mono ?_
      rintro r w2 ⟨rfl,rfl⟩
      go_wp2_with fail
      refine(HBT.out _).mono ?_
      rintro r w2 ⟨rfl,rfl⟩
      go_wp2_with fail
      go_ret
      exact⟨rfl,BW.out⟩
     ·
      subst hkd
      clear g12 g12' e11
      have HVV:Hid (V=qkw (endS vs s)):=by unfold Hid;rw[←HVL.out,qld,if_neg k11,if_neg hvn,if_neg (by decide),if_pos rfl]
      clear HVL k11
      have HN:Hid (¬s.size≤vs.size→endS vs s=false):=fun h=>ql fun h'=>h h'.1
      have HY:Hid (s.size≤vs.size→endS vs s=decide (vs.extract (vs.size-s.size) vs.size=s)):=fun h=>by
       unfold endS
       rw[j5,decide_eq_true_eq,decide_eq_true_eq]
       exact⟨fun h'=>h'.2,fun h'=>⟨h,h'⟩⟩
      have HC1:Hid (∀W,Below wa.heap.size wa W→W.cell? ⟨w.heap.size+1,1,none⟩=some (.string vs)):=fun W hW=>(HVA.out W hW).cell 1
      have HC2:Hid (∀W,Below wa.heap.size wa W→W.cell? ⟨w.heap.size,2,none⟩=some (.string s)):=fun W hW=>(HKA.out W hW).cell 2
      by_cases h1:s.size≤vs.size
      ·
       have i1:decide ((s.size:Int)≤(vs.size:Int))=true:=qp (by omega)
       have i2:(s.size:Int)≤(vs.size:Int):=by omega
       obtain⟨d,hd⟩:∃d,vs.size-s.size=d:=⟨_,rfl⟩
       have hsub:IntKind.i64.wrap ((vs.size:Int)-(s.size:Int))=(d:Int):=by rw[z8 _ (by omega)];omega
       have hls:d≤vs.size:=by omega
       have ils:(d:Int)≤(vs.size:Int):=by omega
       have e8:((vs.extract d vs.size).toList==s.toList)=endS vs s:=by rw[eqB,HY.out h1,hd]
       generalize endS vs s=e at *
       clear HN HY hd
       have HBT:Hid (∀w,Calls Tryz.prog 62 #[.bool (e)] w fun r w'=>r= .returned (.int .i64 V)∧w=w'):=fun w=>by rw[HVV.out];exact qcq _
       clear HVV
       go_enter Tryz.func28,Tryz.ntmps28
       go_wp2_with fail
       refine wp_region_held_drew (S:=fun w'=>Below wa.heap.size wa w') (by kernel_rfl) (Below.drew (Below.refl _ _)) (fun hHeld => ?_)
       refine tk 0 ?_ rfl hHeld ?_ ?_
       rotate_left
       focus (intro W hSw;go_simp;try with_reducible rfl)
       try simp only[jv,Act.put]
       refine tk 1 ?_ rfl hHeld ?_ ?_
       rotate_left
       focus (intro W hSw;have hcv:=HC2.out W hSw;go_simp;try with_reducible rfl)
       try simp only[jv,Act.put]
       refine tk 2 ?_ rfl hHeld ?_ ?_
       rotate_left
       focus (intro W hSw;go_simp;try with_reducible rfl)
       try simp only[jv,Act.put]
       refine tk 3 ?_ rfl hHeld ?_ ?_
       rotate_left
       focus (intro W hSw;go_simp;try with_reducible rfl)
       try simp only[jv,Act.put]
       refine tk 4 ?_ rfl hHeld ?_ ?_
       rotate_left
       focus (intro W hSw;have hcv:=HC1.out W hSw;go_simp;try with_reducible rfl)
       try simp only[jv,Act.put]
       refine tk 5 ?_ rfl hHeld ?_ ?_
       rotate_left
       focus (intro W hSw;go_simp;try with_reducible rfl)
       try simp only[jv,Act.put]
       refine wpAnyH_take (i:=6) (oi:=_) (v:= .bool true) rfl (by kernel_rfl) (by kernel_rfl) (by kernel_rfl) (fun _ _ _ h=>h) (Or.inl ⟨by rfl,?_⟩) hHeld ?_
       focus (intro W hSw;go_simp;try with_reducible rfl)
       try simp only[jv,Act.put]
       refine wpAnyH_take (i:=7) (oi:=_) (v:= .bool true) rfl (by kernel_rfl) (by kernel_rfl) (by kernel_rfl) (fun _ _ _ h=>h) (Or.inl ⟨by rfl,?_⟩) hHeld ?_
       focus (intro W hSw;go_simp;try with_reducible rfl)
       try simp only[jv,Act.put]
       refine tk 8 ?_ rfl hHeld ?_ ?_
       rotate_left
       focus (intro W hSw;go_simp;try with_reducible rfl)
       try simp only[jv,Act.put]
       refine tk 9 ?_ rfl hHeld ?_ ?_
       rotate_left
       focus (intro W hSw;have hcv:=HC1.out W hSw;go_simp;try with_reducible rfl)
       try simp only[jv,Act.put]
       refine tk 10 ?_ rfl hHeld ?_ ?_
       rotate_left
       focus (intro W hSw;go_simp;try with_reducible rfl)
       try simp only[jv,Act.put]
       refine tk 11 ?_ rfl hHeld ?_ ?_
       rotate_left
       focus (intro W hSw;have hcv:=HC1.out W hSw;go_simp;try with_reducible rfl)
       try simp only[jv,Act.put]
       refine tk 12 ?_ rfl hHeld ?_ ?_
       rotate_left
       focus (intro W hSw;go_simp;try with_reducible rfl)
       try simp only[jv,Act.put]
       refine tk 13 ?_ rfl hHeld ?_ ?_
       rotate_left
       focus (intro W hSw;go_simp;try with_reducible rfl)
       try simp only[jv,Act.put]
       refine tk 14 ?_ rfl hHeld ?_ ?_
       rotate_left
       focus (intro W hSw;have hcv:=HC2.out W hSw;go_simp;try with_reducible rfl)
       try simp only[jv,Act.put]
       refine tk 15 ?_ rfl hHeld ?_ ?_
       rotate_left
       focus (intro W hSw;go_simp;try with_reducible rfl)
       try simp only[jv,Act.put]
       refine tk 16 ?_ rfl hHeld ?_ ?_
       rotate_left
       focus (intro W hSw;go_simp;try with_reducible rfl)
       try simp only[jv,Act.put]
       refine tk 17 ?_ rfl hHeld ?_ ?_
       rotate_left
       focus (intro W hSw;go_simp;try with_reducible rfl)
       try simp only[jv,Act.put]
       refine tk 18 ?_ rfl hHeld ?_ ?_
       rotate_left
       focus (intro W hSw;go_simp;try with_reducible rfl)
       try simp only[jv,Act.put]
       refine tk 19 ?_ rfl hHeld ?_ ?_
       rotate_left
       focus (intro W hSw;have hcv:=HC2.out W hSw;go_simp;try with_reducible rfl)
       try simp only[jv,Act.put]
       refine tk 20 ?_ rfl hHeld ?_ ?_
       rotate_left
       focus (intro W hSw;go_simp;try with_reducible rfl)
       try simp only[jv,Act.put]
       refine tk 21 ?_ rfl hHeld ?_ ?_
       rotate_left
       focus (intro W hSw;go_simp;try with_reducible rfl)
       try simp only[jv,Act.put]
       refine wpAnyH_ready (rs:=[22]) (by kernel_rfl) (by simp) ?_
       refine zc (o:=_) rfl (fun K hK => ?_) zm
       go_simp
       refine(HBT.out _).mono ?_
       rintro r w9 ⟨rfl,rfl⟩
       refine hK.out _ _ hHeld (fun hHeld => ?_)
       clear hK K
       try simp only[jv,Act.put]
       refine tk 23 ?_ rfl hHeld ?_ ?_
       rotate_left
       focus (intro W hSw;go_simp;try with_reducible rfl)
       try simp only[jv,Act.put]
       refine wpAnyH_done (by kernel_rfl) ?_ _
       go_wp2_with fail
       go_ret
       first | exact⟨rfl,zg BW.out _⟩ | exact⟨rfl,yd BW.out hHeld (ze (by omega) (qc _))⟩
      ·
       have i1:decide ((s.size:Int)≤(vs.size:Int))=false:=ql (by omega)
       have i2:¬(s.size:Int)≤(vs.size:Int):=by omega
       have e8:=HN.out h1
       rw[e8] at HVV
       clear HN HY e8
       have HBT:Hid (∀w,Calls Tryz.prog 62 #[.bool (false)] w fun r w'=>r= .returned (.int .i64 V)∧w=w'):=fun w=>by rw[HVV.out];exact qcq _
       clear HVV
       go_enter Tryz.func28,Tryz.ntmps28
       go_wp2_with fail
       refine wp_region_held_drew (S:=fun w'=>Below wa.heap.size wa w') (by kernel_rfl) (Below.drew (Below.refl _ _)) (fun hHeld => ?_)
       refine tk 0 ?_ rfl hHeld ?_ ?_
       rotate_left
       focus (intro W hSw;go_simp;try with_reducible rfl)
       try simp only[jv,Act.put]
       refine tk 1 ?_ rfl hHeld ?_ ?_
       rotate_left
       focus (intro W hSw;have hcv:=HC2.out W hSw;go_simp;try with_reducible rfl)
       try simp only[jv,Act.put]
       refine tk 2 ?_ rfl hHeld ?_ ?_
       rotate_left
       focus (intro W hSw;go_simp;try with_reducible rfl)
       try simp only[jv,Act.put]
       refine tk 3 ?_ rfl hHeld ?_ ?_
       rotate_left
       focus (intro W hSw;go_simp;try with_reducible rfl)
       try simp only[jv,Act.put]
       refine tk 4 ?_ rfl hHeld ?_ ?_
       rotate_left
       focus (intro W hSw;have hcv:=HC1.out W hSw;go_simp;try with_reducible rfl)
       try simp only[jv,Act.put]
       refine tk 5 ?_ rfl hHeld ?_ ?_
       rotate_left
       focus (intro W hSw;go_simp;try with_reducible rfl)
       try simp only[jv,Act.put]
       refine wpAnyH_take (i:=6) (oi:=_) (v:= .bool false) rfl (by kernel_rfl) (by kernel_rfl) (by kernel_rfl) (fun _ _ _ h=>h) (Or.inl ⟨by rfl,?_⟩) hHeld ?_
       focus (intro W hSw;go_simp;try with_reducible rfl)
       try simp only[jv,Act.put]
       refine wpAnyH_take (i:=7) (oi:=_) (v:= .bool false) rfl (by kernel_rfl) (by kernel_rfl) (by kernel_rfl) (fun _ _ _ h=>h) (Or.inl ⟨by rfl,?_⟩) hHeld ?_
       focus (intro W hSw;go_simp;try with_reducible rfl)
       try simp only[jv,Act.put]
       refine ts 8 rfl hHeld ?_
       try simp only[jv,Act.put]
       refine ts 9 rfl hHeld ?_
       try simp only[jv,Act.put]
       refine ts 10 rfl hHeld ?_
       try simp only[jv,Act.put]
       refine ts 11 rfl hHeld ?_
       try simp only[jv,Act.put]
       refine ts 12 rfl hHeld ?_
       try simp only[jv,Act.put]
       refine ts 13 rfl hHeld ?_
       try simp only[jv,Act.put]
       refine ts 14 rfl hHeld ?_
       try simp only[jv,Act.put]
       refine ts 15 rfl hHeld ?_
       try simp only[jv,Act.put]
       refine ts 16 rfl hHeld ?_
       try simp only[jv,Act.put]
       refine ts 17 rfl hHeld ?_
       try simp only[jv,Act.put]
       refine ts 18 rfl hHeld ?_
       try simp only[jv,Act.put]
       refine ts 19 rfl hHeld ?_
       try simp only[jv,Act.put]
       refine ts 20 rfl hHeld ?_
       try simp only[jv,Act.put]
       refine tk 21 ?_ rfl hHeld ?_ ?_
       rotate_left
       focus (intro W hSw;go_simp;try with_reducible rfl)
       try simp only[jv,Act.put]
       refine wpAnyH_ready (rs:=[22]) (by kernel_rfl) (by simp) ?_
       refine zc (o:=_) rfl (fun K hK => ?_) zm
       go_simp
       refine(HBT.out _).mono ?_
       rintro r w9 ⟨rfl,rfl⟩
       refine hK.out _ _ hHeld (fun hHeld => ?_)
       clear hK K
       try simp only[jv,Act.put]
       refine tk 23 ?_ rfl hHeld ?_ ?_
       rotate_left
       focus (intro W hSw;go_simp;try with_reducible rfl)
       try simp only[jv,Act.put]
       refine wpAnyH_done (by kernel_rfl) ?_ _
       go_wp2_with fail
       go_ret
       first | exact⟨rfl,zg BW.out _⟩ | exact⟨rfl,yd BW.out hHeld (ze (by omega) (qc _))⟩
     ·
      subst hkd
      clear g12 g12' e11
      have HVV:Hid (V=qkw (hasS vs s)):=by unfold Hid;rw[←HVL.out,qld,if_neg k11,if_neg hvn,if_neg (by decide),if_neg (by decide),if_pos rfl]
      clear HVL k11
      have HBT:Hid (∀w,Calls Tryz.prog 62 #[.bool (hasS vs s)] w fun r w'=>r= .returned (.int .i64 V)∧w=w'):=fun w=>by rw[HVV.out];exact qcq _
      clear HVV
      have HC:=qa (fun w=>ndhas_any (w:=w) vs s (by omega) (by omega))
      generalize hasS vs s=e at *
      go_enter Tryz.func28,Tryz.ntmps28
      go_wp2_with fail
      refine(HC.out _).mono ?_
      rintro r w2 ⟨rfl,rfl⟩
      go_wp2_with fail
      refine(HBT.out _).mono ?_
      rintro r w2 ⟨rfl,rfl⟩
      go_wp2_with fail
      go_ret
      exact⟨rfl,BW.out⟩
     ·
      subst hkd
      clear g12 g12' e11
      obtain⟨ns,hns⟩:=HPF.out rfl
      have HVV:Hid (V=qkw (qhx ns vs.data.toList)):=by unfold Hid;rw[←HVL.out,qld,if_neg k11,if_neg hvn,if_neg (by decide),if_neg (by decide),if_neg (by decide),if_pos rfl,hns,xj]
      clear HVL k11
      have hn7:=(parseF_le hns).1
      have HP:=qa (fun w=>qo0 (w:=w) s ec _ hns)
      clear hns
      have HM:=qa (fun(W:World) (A:Option Addr) (c:Nat) (h:Rd W 0 W.heap.size A c (iv (zu ns)))=>refMatch_any (w:=W) ns vs h hn7 (by omega))
      clear hn7
      generalize qhx ns vs.data.toList=e at *
      have HBT:Hid (∀w,Calls Tryz.prog 62 #[.bool (e)] w fun r w'=>r= .returned (.int .i64 V)∧w=w'):=fun w=>by rw[HVV.out];exact qcq _
      clear HVV
      go_enter Tryz.func28,Tryz.ntmps28
      go_wp2_with fail
      refine(HP.out _).mono ?_
      rintro r w2 ⟨A2,c2,rfl,hrd,q2⟩
      rw[xj] at hrd
      have HRD:=qa hrd
      have HQ2:=qa q2
      have u1:=(HVA.out w2 q2).cell 1
      simp only[zl,q9,zb] at u1
      have hc2:=hrd.len
      have hm2:=hrd.cap
      rw[ji,zj] at hc2
      unfold maxLen at hm2
      clear hrd q2 a0 a2 a3 a4 v0 v1 b0 b1 b2 b3 b4 b5 d0 d1
      go_wp2_with fail
      refine(HM.out _ _ _ HRD.out).mono ?_
      rintro r w3 ⟨rfl,q3⟩
      have HB3:=qa (yd BW.out (yd HQ2.out q3 HQ2.out.size) (by omega))
      clear q3
      go_wp2_with fail
      refine(HBT.out _).mono ?_
      rintro r w4 ⟨rfl,rfl⟩
      go_wp2_with fail
      go_ret
      exact⟨rfl,HB3.out⟩
     ·
      subst hkd
      clear g12 g12' e11
      have HVV:Hid (V=qkw (qgn 1 (qiu vs s co))):=by unfold Hid;rw[←HVL.out,qld,if_neg k11,if_neg hvn,if_neg (by decide),if_neg (by decide),if_neg (by decide),if_neg (by decide)]
      clear HVL k11
      have HC:=qa (fun w=>qh9 (w:=w) vs s co (by omega) (by omega))
      generalize qiu vs s co=z at *
      obtain⟨e,he⟩:∃e,(z==0)=e:=⟨_,rfl⟩
      have HE:Hid (qgn 1 z=e):=by
       unfold Hid
       rw[←he,qgn,j5,decide_eq_true_eq,beq_iff_eq]
       omega
      rw[HE.out] at HVV
      clear HE
      have HBT:Hid (∀w,Calls Tryz.prog 62 #[.bool (e)] w fun r w'=>r= .returned (.int .i64 V)∧w=w'):=fun w=>by rw[HVV.out];exact qcq _
      clear HVV
      cases e with
      | true =>
       go_enter Tryz.func28,Tryz.ntmps28
       go_wp2_with fail
       refine(HC.out _).mono ?_
       rintro r w2 ⟨rfl,q2⟩
       have u0:=(HKA.out w2 q2).cell 0
       simp only[zl,q9,zb] at u0
       have HB2:=qa (yd BW.out q2 (by omega))
       clear q2 a0 a2 a3 a4 v0 v1 b0 b1 b2 b3 b4 b5 d0 d1
       go_wp2_with fail
       refine(HBT.out _).mono ?_
       rintro r w3 ⟨rfl,rfl⟩
       go_wp2_with fail
       go_ret
       exact⟨rfl,HB2.out⟩
      | false =>
       go_enter Tryz.func28,Tryz.ntmps28
       go_wp2_with fail
       refine(HC.out _).mono ?_
       rintro r w2 ⟨rfl,q2⟩
       have u0:=(HKA.out w2 q2).cell 0
       simp only[zl,q9,zb] at u0
       have HB2:=qa (yd BW.out q2 (by omega))
       clear q2 a0 a2 a3 a4 v0 v1 b0 b1 b2 b3 b4 b5 d0 d1
       go_wp2_with fail
       refine(HBT.out _).mono ?_
       rintro r w3 ⟨rfl,rfl⟩
       go_wp2_with fail
       go_ret
       exact⟨rfl,HB2.out⟩
     ·
      subst hkd
      clear g12 g12' e11
      have HVV:Hid (V=qkw (qgn 2 (qiu vs s co))):=by unfold Hid;rw[←HVL.out,qld,if_neg k11,if_neg hvn,if_neg (by decide),if_neg (by decide),if_neg (by decide),if_neg (by decide)]
      clear HVL k11
      have HC:=qa (fun w=>qh9 (w:=w) vs s co (by omega) (by omega))
      generalize qiu vs s co=z at *
      obtain⟨e,he⟩:∃e,(z != 0)=e:=⟨_,rfl⟩
      have HE:Hid (qgn 2 z=e):=by
       unfold Hid
       rw[←he,qgn,j5,decide_eq_true_eq,bne_iff_ne]
       omega
      rw[HE.out] at HVV
      clear HE
      have HBT:Hid (∀w,Calls Tryz.prog 62 #[.bool (e)] w fun r w'=>r= .returned (.int .i64 V)∧w=w'):=fun w=>by rw[HVV.out];exact qcq _
      clear HVV
      cases e with
      | true =>
       go_enter Tryz.func28,Tryz.ntmps28
       go_wp2_with fail
       refine(HC.out _).mono ?_
       rintro r w2 ⟨rfl,q2⟩
       have u0:=(HKA.out w2 q2).cell 0
       simp only[zl,q9,zb] at u0
       have HB2:=qa (yd BW.out q2 (by omega))
       clear q2 a0 a2 a3 a4 v0 v1 b0 b1 b2 b3 b4 b5 d0 d1
       go_wp2_with fail
       refine(HBT.out _).mono ?_
       rintro r w3 ⟨rfl,rfl⟩
       go_wp2_with fail
       go_ret
       exact⟨rfl,HB2.out⟩
      | false =>
       go_enter Tryz.func28,Tryz.ntmps28
       go_wp2_with fail
       refine(HC.out _).mono ?_
       rintro r w2 ⟨rfl,q2⟩
       have u0:=(HKA.out w2 q2).cell 0
       simp only[zl,q9,zb] at u0
       have HB2:=qa (yd BW.out q2 (by omega))
       clear q2 a0 a2 a3 a4 v0 v1 b0 b1 b2 b3 b4 b5 d0 d1
       go_wp2_with fail
       refine(HBT.out _).mono ?_
       rintro r w3 ⟨rfl,rfl⟩
       go_wp2_with fail
       go_ret
       exact⟨rfl,HB2.out⟩
     ·
      subst hkd
      clear g12 g12' e11
      have HVV:Hid (V=qkw (qgn 3 (qiu vs s co))):=by unfold Hid;rw[←HVL.out,qld,if_neg k11,if_neg hvn,if_neg (by decide),if_neg (by decide),if_neg (by decide),if_neg (by decide)]
      clear HVL k11
      have HC:=qa (fun w=>qh9 (w:=w) vs s co (by omega) (by omega))
      generalize qiu vs s co=z at *
      obtain⟨e,he⟩:∃e,(decide (z<0))=e:=⟨_,rfl⟩
      have HE:Hid (qgn 3 z=e):=by
       unfold Hid
       rw[←he,qgn,j5,decide_eq_true_eq,decide_eq_true_eq]
       omega
      rw[HE.out] at HVV
      clear HE
      have HBT:Hid (∀w,Calls Tryz.prog 62 #[.bool (e)] w fun r w'=>r= .returned (.int .i64 V)∧w=w'):=fun w=>by rw[HVV.out];exact qcq _
      clear HVV
      cases e with
      | true =>
       go_enter Tryz.func28,Tryz.ntmps28
       go_wp2_with fail
       refine(HC.out _).mono ?_
       rintro r w2 ⟨rfl,q2⟩
       have u0:=(HKA.out w2 q2).cell 0
       simp only[zl,q9,zb] at u0
       have HB2:=qa (yd BW.out q2 (by omega))
       clear q2 a0 a2 a3 a4 v0 v1 b0 b1 b2 b3 b4 b5 d0 d1
       go_wp2_with fail
       refine(HBT.out _).mono ?_
       rintro r w3 ⟨rfl,rfl⟩
       go_wp2_with fail
       go_ret
       exact⟨rfl,HB2.out⟩
      | false =>
       go_enter Tryz.func28,Tryz.ntmps28
       go_wp2_with fail
       refine(HC.out _).mono ?_
       rintro r w2 ⟨rfl,q2⟩
       have u0:=(HKA.out w2 q2).cell 0
       simp only[zl,q9,zb] at u0
       have HB2:=qa (yd BW.out q2 (by omega))
       clear q2 a0 a2 a3 a4 v0 v1 b0 b1 b2 b3 b4 b5 d0 d1
       go_wp2_with fail
       refine(HBT.out _).mono ?_
       rintro r w3 ⟨rfl,rfl⟩
       go_wp2_with fail
       go_ret
       exact⟨rfl,HB2.out⟩
     ·
      subst hkd
      clear g12 g12' e11
      have HVV:Hid (V=qkw (qgn 4 (qiu vs s co))):=by unfold Hid;rw[←HVL.out,qld,if_neg k11,if_neg hvn,if_neg (by decide),if_neg (by decide),if_neg (by decide),if_neg (by decide)]
      clear HVL k11
      have HC:=qa (fun w=>qh9 (w:=w) vs s co (by omega) (by omega))
      generalize qiu vs s co=z at *
      obtain⟨e,he⟩:∃e,(decide (z≤0))=e:=⟨_,rfl⟩
      have HE:Hid (qgn 4 z=e):=by
       unfold Hid
       rw[←he,qgn,j5,decide_eq_true_eq,decide_eq_true_eq]
       omega
      rw[HE.out] at HVV
      clear HE
      have HBT:Hid (∀w,Calls Tryz.prog 62 #[.bool (e)] w fun r w'=>r= .returned (.int .i64 V)∧w=w'):=fun w=>by rw[HVV.out];exact qcq _
      clear HVV
      cases e with
      | true =>
       go_enter Tryz.func28,Tryz.ntmps28
       go_wp2_with fail
       refine(HC.out _).mono ?_
       rintro r w2 ⟨rfl,q2⟩
       have u0:=(HKA.out w2 q2).cell 0
       simp only[zl,q9,zb] at u0
       have HB2:=qa (yd BW.out q2 (by omega))
       clear q2 a0 a2 a3 a4 v0 v1 b0 b1 b2 b3 b4 b5 d0 d1
       go_wp2_with fail
       refine(HBT.out _).mono ?_
       rintro r w3 ⟨rfl,rfl⟩
       go_wp2_with fail
       go_ret
       exact⟨rfl,HB2.out⟩
      | false =>
       go_enter Tryz.func28,Tryz.ntmps28
       go_wp2_with fail
       refine(HC.out _).mono ?_
       rintro r w2 ⟨rfl,q2⟩
       have u0:=(HKA.out w2 q2).cell 0
       simp only[zl,q9,zb] at u0
       have HB2:=qa (yd BW.out q2 (by omega))
       clear q2 a0 a2 a3 a4 v0 v1 b0 b1 b2 b3 b4 b5 d0 d1
       go_wp2_with fail
       refine(HBT.out _).mono ?_
       rintro r w3 ⟨rfl,rfl⟩
       go_wp2_with fail
       go_ret
       exact⟨rfl,HB2.out⟩
     ·
      subst hkd
      clear g12 g12' e11
      have HVV:Hid (V=qkw (qgn 5 (qiu vs s co))):=by unfold Hid;rw[←HVL.out,qld,if_neg k11,if_neg hvn,if_neg (by decide),if_neg (by decide),if_neg (by decide),if_neg (by decide)]
      clear HVL k11
      have HC:=qa (fun w=>qh9 (w:=w) vs s co (by omega) (by omega))
      generalize qiu vs s co=z at *
      obtain⟨e,he⟩:∃e,(decide (0<z))=e:=⟨_,rfl⟩
      have HE:Hid (qgn 5 z=e):=by
       unfold Hid
       rw[←he,qgn,j5,decide_eq_true_eq,decide_eq_true_eq]
       omega
      rw[HE.out] at HVV
      clear HE
      have HBT:Hid (∀w,Calls Tryz.prog 62 #[.bool (e)] w fun r w'=>r= .returned (.int .i64 V)∧w=w'):=fun w=>by rw[HVV.out];exact qcq _
      clear HVV
      cases e with
      | true =>
       go_enter Tryz.func28,Tryz.ntmps28
       go_wp2_with fail
       refine(HC.out _).mono ?_
       rintro r w2 ⟨rfl,q2⟩
       have u0:=(HKA.out w2 q2).cell 0
       simp only[zl,q9,zb] at u0
       have HB2:=qa (yd BW.out q2 (by omega))
       clear q2 a0 a2 a3 a4 v0 v1 b0 b1 b2 b3 b4 b5 d0 d1
       go_wp2_with fail
       refine(HBT.out _).mono ?_
       rintro r w3 ⟨rfl,rfl⟩
       go_wp2_with fail
       go_ret
       exact⟨rfl,HB2.out⟩
      | false =>
       go_enter Tryz.func28,Tryz.ntmps28
       go_wp2_with fail
       refine(HC.out _).mono ?_
       rintro r w2 ⟨rfl,q2⟩
       have u0:=(HKA.out w2 q2).cell 0
       simp only[zl,q9,zb] at u0
       have HB2:=qa (yd BW.out q2 (by omega))
       clear q2 a0 a2 a3 a4 v0 v1 b0 b1 b2 b3 b4 b5 d0 d1
       go_wp2_with fail
       refine(HBT.out _).mono ?_
       rintro r w3 ⟨rfl,rfl⟩
       go_wp2_with fail
       go_ret
       exact⟨rfl,HB2.out⟩
     ·
      subst hkd
      clear g12 g12' e11
      have HVV:Hid (V=qkw (qgn 6 (qiu vs s co))):=by unfold Hid;rw[←HVL.out,qld,if_neg k11,if_neg hvn,if_neg (by decide),if_neg (by decide),if_neg (by decide),if_neg (by decide)]
      clear HVL k11
      have HC:=qa (fun w=>qh9 (w:=w) vs s co (by omega) (by omega))
      generalize qiu vs s co=z at *
      obtain⟨e,he⟩:∃e,(decide (0≤z))=e:=⟨_,rfl⟩
      have HE:Hid (qgn 6 z=e):=by
       unfold Hid
       rw[←he,qgn,j5,decide_eq_true_eq,decide_eq_true_eq]
       omega
      rw[HE.out] at HVV
      clear HE
      have HBT:Hid (∀w,Calls Tryz.prog 62 #[.bool (e)] w fun r w'=>r= .returned (.int .i64 V)∧w=w'):=fun w=>by rw[HVV.out];exact qcq _
      clear HVV
      cases e with
      | true =>
       go_enter Tryz.func28,Tryz.ntmps28
       go_wp2_with fail
       refine(HC.out _).mono ?_
       rintro r w2 ⟨rfl,q2⟩
       have u0:=(HKA.out w2 q2).cell 0
       simp only[zl,q9,zb] at u0
       have HB2:=qa (yd BW.out q2 (by omega))
       clear q2 a0 a2 a3 a4 v0 v1 b0 b1 b2 b3 b4 b5 d0 d1
       go_wp2_with fail
       refine(HBT.out _).mono ?_
       rintro r w3 ⟨rfl,rfl⟩
       go_wp2_with fail
       go_ret
       exact⟨rfl,HB2.out⟩
      | false =>
       go_enter Tryz.func28,Tryz.ntmps28
       go_wp2_with fail
       refine(HC.out _).mono ?_
       rintro r w2 ⟨rfl,q2⟩
       have u0:=(HKA.out w2 q2).cell 0
       simp only[zl,q9,zb] at u0
       have HB2:=qa (yd BW.out q2 (by omega))
       clear q2 a0 a2 a3 a4 v0 v1 b0 b1 b2 b3 b4 b5 d0 d1
       go_wp2_with fail
       refine(HBT.out _).mono ?_
       rintro r w3 ⟨rfl,rfl⟩
       go_wp2_with fail
       go_ret
       exact⟨rfl,HB2.out⟩
end Go.Proofs.YtnjkipnklpkaoaaGreat
