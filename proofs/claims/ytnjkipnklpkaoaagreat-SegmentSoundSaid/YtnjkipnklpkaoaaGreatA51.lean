/-
  Lemmas.
-/
import Derived.Test.YtnjkipnklpkaoaaGreatA50
namespace Go.Proofs.YtnjkipnklpkaoaaGreat
open Go.RowKit
set_option maxRecDepth 20000
set_option maxHeartbeats 16000000
set_option linter.unusedSimpArgs false
set_option linter.unusedVariables false
theorem leaf_asks{kd cl ec co cols deep:Int}{s:ByteArray}{n:Nat}(hd:1≤deep)(hh:¬(12≤kd∧kd≤14)) :
  (if deep<1∨kd<1∨14<kd then false else decide (qky kd cl co cols s n)&&if kd=10 then (qco ec s.data.toList).isSome else decide (ec=0))=(decide (0≤cl)&&decide (cl<cols)&&decide (n=0)&&asksP kd ec co s):=by
 unfold asksP
 have hp:(qco ec s.data.toList).isSome=true→s.size≤4096:=fun h=>by
  obtain⟨ns,hns⟩:=Option.isSome_iff_exists.1 h
  unfold qco at hns
  split at hns
  ·
   cases hns
  ·
   rename_i hx
   rw[lenB] at hx
   omega
 by_cases h10:kd=10
 ·
  subst h10
  rw[if_neg (by omega),if_pos rfl,if_pos rfl,j5]
  simp only[jl,decide_eq_true_eq]
  constructor
  ·
   rintro⟨⟨x1,x2,x3,x4,x5,x6,x7,x8⟩,x9⟩
   exact⟨⟨⟨x2,x3⟩,x1⟩,x9,by omega⟩
  ·
   rintro⟨⟨⟨x2,x3⟩,x1⟩,x9,x5⟩
   have:=hp x9
   exact⟨⟨x1,x2,x3,this,by omega,by omega,fun h=>by omega,fun h=>by omega⟩,x9⟩
 ·
  rw[if_neg h10,if_neg h10,j5]
  by_cases hr:deep<1∨kd<1∨14<kd
  ·
   rw[if_pos hr,if_neg (by omega),if_neg (by omega)]
   simp only[jl,decide_eq_true_eq]
   constructor
   ·
    intro h;cases h
   ·
    rintro⟨_,_,h,_⟩
    omega
  ·
   rw[if_neg hr]
   simp only[jl,decide_eq_true_eq]
   by_cases k6:1≤kd∧kd≤6
   ·
    rw[if_pos k6,decide_eq_true_eq]
    constructor
    ·
     rintro⟨⟨x1,x2,x3,x4,x5,x6,x7,x8⟩,x9⟩
     exact⟨⟨⟨x2,x3⟩,x1⟩,⟨x4,x9⟩,x5,x6⟩
    ·
     rintro⟨⟨⟨x2,x3⟩,x1⟩,⟨x4,x9⟩,x5,x6⟩
     exact⟨⟨x1,x2,x3,x4,x5,x6,fun _=>k6.2,fun h=>by omega⟩,x9⟩
   ·
    rw[if_neg k6]
    by_cases k9:7≤kd∧kd≤9
    ·
     rw[if_pos k9,decide_eq_true_eq]
     constructor
     ·
      rintro⟨⟨x1,x2,x3,x4,x5,x6,x7,x8⟩,x9⟩
      exact⟨⟨⟨x2,x3⟩,x1⟩,⟨x4,x9⟩,by by_cases h:0<co;have:=x7 h;omega;omega⟩
     ·
      rintro⟨⟨⟨x2,x3⟩,x1⟩,⟨x4,x9⟩,x5⟩
      exact⟨⟨x1,x2,x3,x4,by omega,by omega,fun _=>by omega,fun h=>by omega⟩,x9⟩
    ·
     rw[if_neg k9,decide_eq_true_eq]
     constructor
     ·
      rintro⟨⟨x1,x2,x3,x4,x5,x6,x7,x8⟩,x9⟩
      exact⟨⟨⟨x2,x3⟩,x1⟩,⟨x4,x9⟩,by omega,by by_cases h:0<co;have:=x7 h;omega;omega,x8 (by omega)⟩
     ·
      rintro⟨⟨⟨x2,x3⟩,x1⟩,⟨x4,x9⟩,x5,x6,x7⟩
      exact⟨⟨x1,x2,x3,x4,by omega,by omega,fun _=>by omega,fun _=>x7⟩,x9⟩
theorem lit_right{W:World}{q:Pr}{A2:Option Addr}{c2 B0 B1:Nat}{cols deep:Int}{v:Bool}(h0:W.cell? ⟨B0,0,none⟩=some (.int .i64 cols))(h1:W.cell? ⟨B1,0,none⟩=some (.int .i64 deep))(l0:B0<W.heap.size)(l1:B1<W.heap.size)
  (hc:∀W2,Below W.heap.size W W2→Calls Tryz.prog 95 #[.agg #[.int .i64 q.kind,.int .i64 q.col,.string q.s,.int .i64 q.esc,.int .i64 q.coll,.slice A2 q.kids.length c2],.int .i64 cols,.int .i64 deep] W2 fun r w'=>r= .returned (.bool v)∧Below W2.heap.size W2 w') :
  Calls Tryz.prog 182 #[.agg #[.int .i64 q.kind,.int .i64 q.col,.string q.s,.int .i64 q.esc,.int .i64 q.coll,.slice A2 q.kids.length c2],.pointer (some ⟨B0,0,none⟩),.pointer (some ⟨B1,0,none⟩)] W fun r w'=>r= .returned (.bool !v)∧Below W.heap.size W w':=by
 obtain⟨w1,hw1⟩:∃w1,W.alloc (.cells #[.int .i64 q.kind,.int .i64 q.col,.string q.s,.int .i64 q.esc,.int .i64 q.coll,.slice A2 q.kids.length c2] 55)=w1:=⟨_,rfl⟩
 have HB1:Hid (Below W.heap.size W w1):=by unfold Hid;rw[←hw1];exact(Below.refl _ W).alloc (qc _) _
 have hb:j6 w1 W.heap.size 55 #[.int .i64 q.kind,.int .i64 q.col,.string q.s,.int .i64 q.esc,.int .i64 q.coll,.slice A2 q.kids.length c2]:=by rw[←hw1];exact j6.new W _ _
 have b0:w1.cell? ⟨W.heap.size,0,none⟩=some (.int .i64 q.kind):=hb.cell 0
 have b1:w1.cell? ⟨W.heap.size,1,none⟩=some (.int .i64 q.col):=hb.cell 1
 have b2:w1.cell? ⟨W.heap.size,2,none⟩=some (.string q.s):=hb.cell 2
 have b3:w1.cell? ⟨W.heap.size,3,none⟩=some (.int .i64 q.esc):=hb.cell 3
 have b4:w1.cell? ⟨W.heap.size,4,none⟩=some (.int .i64 q.coll):=hb.cell 4
 have b5:w1.cell? ⟨W.heap.size,5,none⟩=some (.slice A2 q.kids.length c2):=hb.cell 5
 have g0:w1.cell? ⟨B0,0,none⟩=some (.int .i64 cols):=(HB1.out.cell (p:=⟨B0,0,none⟩) l0).trans h0
 have g1:w1.cell? ⟨B1,0,none⟩=some (.int .i64 deep):=(HB1.out.cell (p:=⟨B1,0,none⟩) l1).trans h1
 have HC:=qa (hc w1 HB1.out)
 have hs1:=HB1.out.size
 clear hb h0 h1 hc l0 l1
 go_enter Tryz.func182,Tryz.ntmps182
 go_wp2_with fail
 refine HC.out.mono ?_
 rintro r w2 ⟨rfl,q2⟩
 have HB2:=qa (qz HB1.out q2 hs1)
 clear q2
 go_wp2_with fail
 go_ret
 exact⟨rfl,HB2.out⟩
theorem all_not{ks:List Pr}{f:Pr→Bool}:(!ks.any fun q => !f q)=ks.all f:=by rw[List.all_eq_not_any_not]
theorem allr_any{w:World}{lo hi:Nat}{ks:List Pr}{A:Option Addr}{c:Nat}(hk:Kin w lo hi ks A c)(hhi:hi≤w.heap.size)(cols deep:Int)
  (hq:∀q∈ks,∀(W:World) A2 c2,Below w.heap.size w W→PrOk q→Kin W lo hi q.kids A2 c2→Calls Tryz.prog 95 #[.agg #[.int .i64 q.kind,.int .i64 q.col,.string q.s,.int .i64 q.esc,.int .i64 q.coll,.slice A2 q.kids.length c2],.int .i64 cols,.int .i64 deep] W fun r w'=>r= .returned (.bool (uv q cols deep))∧Below W.heap.size W w') :
  Calls Tryz.prog 141 #[.slice A ks.length c,.int .i64 cols,.int .i64 deep] w fun r w'=>r= .returned (.bool (ks.all fun q=>uv q cols deep))∧Below w.heap.size w w':=by
 obtain⟨w1,hw1⟩:∃w1,w.alloc (.cells #[.int .i64 cols] 3)=w1:=⟨_,rfl⟩
 obtain⟨w2,hw2⟩:∃w2,w1.alloc (.cells #[.int .i64 deep] 3)=w2:=⟨_,rfl⟩
 have hs1:w1.heap.size=w.heap.size+1:=by rw[←hw1];simp
 have hs2:w2.heap.size=w.heap.size+2:=by rw[←hw2];simp[hs1]
 have HB1:Hid (Below w.heap.size w w1):=by unfold Hid;rw[←hw1];exact(Below.refl _ w).alloc (qc _) _
 have HB2:Hid (Below w.heap.size w w2):=by unfold Hid;rw[←hw2];exact HB1.out.alloc (by omega) _
 have k0:j6 w2 w.heap.size 3 #[.int .i64 cols]:=by
  rw[←hw2]
  have:j6 w1 w.heap.size 3 #[.int .i64 cols]:=by rw[←hw1];exact j6.new w _ _
  exact this.alloc _
 have k1:j6 w2 (w.heap.size+1) 3 #[.int .i64 deep]:=by
  rw[←hw2,←hs1]
  exact j6.new w1 _ _
 have HC:=qa (has_right (w:=w2) (B0:=w.heap.size) (B1:=w.heap.size+1) (hk.kept HB2.out hhi) (by omega) (fun q => !uv q cols deep) (fun q hm W hW A2 c2 ho hkk =>
  lit_right ((k0.below hW (by omega)).cell 0) ((k1.below hW (by omega)).cell 0) (by have:=hW.size;omega) (by have:=hW.size;omega) (fun W2 hW2=>hq q hm W2 A2 c2 (qz (qz HB2.out hW (by omega)) hW2 (by have:=hW.size;omega)) ho (hkk.kept hW2 (by have:=hW.size;omega)))))
 obtain⟨v,hv⟩:∃v,(ks.any fun q => !uv q cols deep)=v:=⟨_,rfl⟩
 have HV:Hid ((ks.all fun q=>uv q cols deep) = !v):=by unfold Hid;rw[←hv,all_not]
 rw[hv] at HC
 obtain⟨V,hV⟩:∃V,(ks.all fun q=>uv q cols deep)=V:=⟨_,rfl⟩
 rw[hV] at HV ⊢
 clear hk hq hv k0 k1 hV
 go_enter Tryz.func141,Tryz.ntmps141
 go_wp2_with fail
 refine HC.out.mono ?_
 rintro r w3 ⟨rfl,q3⟩
 have HB3:=qa (qz HB2.out q3 (by omega))
 clear q3
 go_wp2_with fail
 go_ret
 exact⟨zf HV.out.symm,HB3.out⟩
theorem qrf:∀(p:Pr) {w:World} {lo hi:Nat} {A:Option Addr} {c:Nat} (cols deep:Int),PrOk p→Kin w lo hi p.kids A c→hi≤w.heap.size→0≤deep→deep≤1000000→
  Calls Tryz.prog 95 #[.agg #[.int .i64 p.kind,.int .i64 p.col,.string p.s,.int .i64 p.esc,.int .i64 p.coll,.slice A p.kids.length c],.int .i64 cols,.int .i64 deep] w fun r w'=>r= .returned (.bool (uv p cols deep))∧Below w.heap.size w w' :=
 Pr.ind fun p ih w lo hi A c cols deep ho hk hhi hd1 hd2=>by
  have HIH:=qa ih
  have HK:=qa hk
  have hs63:=ho.s
  obtain⟨hl1,hl2⟩:=hk.len
  clear ih hk ho
  obtain⟨V,hV⟩:∃V,uv p cols deep=V:=⟨_,rfl⟩
  rw[hV]
  rw[qmn] at hV
  obtain⟨kd,hkd⟩:∃x,p.kind=x:=⟨_,rfl⟩
  obtain⟨cl,hcl⟩:∃x,p.col=x:=⟨_,rfl⟩
  obtain⟨ec,hec⟩:∃x,p.esc=x:=⟨_,rfl⟩
  obtain⟨co,hco⟩:∃x,p.coll=x:=⟨_,rfl⟩
  obtain⟨s,hs⟩:∃x,p.s=x:=⟨_,rfl⟩
  obtain⟨ks,hks⟩:∃x,p.kids=x:=⟨_,rfl⟩
  rw[hkd,hcl,hec,hco,hs,hks] at hV
  rw[hks] at HIH HK hl1
  rw[hs] at hs63
  rw[hkd,hcl,hec,hco,hs,hks]
  clear hkd hcl hec hco hs hks
  have HV:=qa hV
  clear hV
  obtain⟨w1,hw1⟩:∃w1,w.alloc (.cells #[.int .i64 kd,.int .i64 cl,.string s,.int .i64 ec,.int .i64 co,.slice A ks.length c] 55)=w1:=⟨_,rfl⟩
  have B1:Hid (Below w.heap.size w w1):=by unfold Hid;rw[←hw1];exact(Below.refl _ w).alloc (qc _) _
  have hb:j6 w1 w.heap.size 55 #[.int .i64 kd,.int .i64 cl,.string s,.int .i64 ec,.int .i64 co,.slice A ks.length c]:=by rw[←hw1];exact j6.new w _ _
  have hs1:w1.heap.size=w.heap.size+1:=by rw[←hw1];simp
  have HBK:Hid (∀W,Below w1.heap.size w1 W→j6 W w.heap.size 55 #[.int .i64 kd,.int .i64 cl,.string s,.int .i64 ec,.int .i64 co,.slice A ks.length c]):=fun W hW=>hb.below hW (by omega)
  have b0:w1.cell? ⟨w.heap.size,0,none⟩=some (.int .i64 kd):=hb.cell 0
  have b1:w1.cell? ⟨w.heap.size,1,none⟩=some (.int .i64 cl):=hb.cell 1
  have b2:w1.cell? ⟨w.heap.size,2,none⟩=some (.string s):=hb.cell 2
  have b3:w1.cell? ⟨w.heap.size,3,none⟩=some (.int .i64 ec):=hb.cell 3
  have b4:w1.cell? ⟨w.heap.size,4,none⟩=some (.int .i64 co):=hb.cell 4
  have b5:w1.cell? ⟨w.heap.size,5,none⟩=some (.slice A ks.length c):=hb.cell 5
  have HK1:=qa (HK.out.kept B1.out hhi)
  clear hb HK
  by_cases d0:deep=0
  ·
   subst d0
   have HVV:Hid (V=false):=by unfold Hid;rw[←HV.out];exact if_pos (.inl (by decide))
   clear HV HIH
   go_enter Tryz.func95,Tryz.ntmps95
   go_wp2_with fail
   go_ret
   exact⟨zf HVV.out.symm,B1.out⟩
  ·
   have e0:(deep==0)=false:=qr.2 d0
   by_cases hh:12≤kd∧kd≤14
   ·
    have hn:¬(deep<1∨kd<1∨14<kd):=by omega
    rw[if_neg hn,if_pos hh.1] at HV
    obtain⟨mo,hmo⟩:∃mo:Int,(if kd=14 then 1 else 16)=mo:=⟨_,rfl⟩
    obtain⟨u,hu⟩:∃u,nestP cl ec co s ks.length mo=u:=⟨_,rfl⟩
    have HU:Hid (decide (qkz kd cl ec co s ks.length)=u):=by
     unfold Hid
     rw[←hu,nestP,decide_eq_decide,qkz,←hmo]
     constructor
     ·
      rintro⟨x1,x2,x3,x4,x5,x6,x7⟩
      refine⟨x1,x4,x2,x3,by omega,?_⟩
      split
      ·
       have:=x7 (by assumption)
       omega
      ·
       omega
     ·
      rintro⟨x1,x2,x3,x4,x5,x6⟩
      split at x6
      ·
       exact⟨x1,x3,x4,x2,by omega,by omega,fun _=>by omega⟩
      ·
       exact⟨x1,x3,x4,x2,by omega,by omega,fun h=>by omega⟩
    have HN:=qa (nests_any (w:=w1) kd cl ec co s ks.length (A:=A) (c:=c) mo (by omega))
    rw[hu] at HN
    rw[HU.out] at HV
    clear hu HU hn
    cases u with
    | false =>
     have HVV:Hid (V=false):=by unfold Hid;rw[←HV.out];exact kw _
     clear HV HIH
     rcases(show kd=12∨kd=13∨kd=14 by omega) with hkd | hkd | hkd
     ·
      subst hkd
      obtain rfl:mo=16:=hmo.symm
      clear hmo hh
      go_enter Tryz.func95,Tryz.ntmps95
      go_wp2_with fail
      refine HN.out.mono ?_
      rintro r w2 ⟨rfl,q2⟩
      have HB2:=qa (qz B1.out q2 (by omega))
      clear q2
      go_wp2_with fail
      go_ret
      exact⟨zf HVV.out.symm,HB2.out⟩
     ·
      subst hkd
      obtain rfl:mo=16:=hmo.symm
      clear hmo hh
      go_enter Tryz.func95,Tryz.ntmps95
      go_wp2_with fail
      refine HN.out.mono ?_
      rintro r w2 ⟨rfl,q2⟩
      have HB2:=qa (qz B1.out q2 (by omega))
      clear q2
      go_wp2_with fail
      go_ret
      exact⟨zf HVV.out.symm,HB2.out⟩
     ·
      subst hkd
      obtain rfl:mo=1:=hmo.symm
      clear hmo hh
      go_enter Tryz.func95,Tryz.ntmps95
      go_wp2_with fail
      refine HN.out.mono ?_
      rintro r w2 ⟨rfl,q2⟩
      have HB2:=qa (qz B1.out q2 (by omega))
      clear q2
      go_wp2_with fail
      go_ret
      exact⟨zf HVV.out.symm,HB2.out⟩
    | true =>
     have HVV:Hid (V=ks.all fun q=>uv q cols (deep-1)):=by unfold Hid;rw[←HV.out];exact qbb _
     clear HV
     have hsub:IntKind.i64.wrap (deep-1)=deep-1:=z8 _ (by omega)
     have HAL:Hid (∀W,Below w1.heap.size w1 W→Calls Tryz.prog 141 #[.slice A ks.length c,.int .i64 cols,.int .i64 (deep-1)] W fun r w'=>r= .returned (.bool V)∧Below W.heap.size W w'):=fun W hW=>by
      rw[HVV.out]
      exact allr_any (HK1.out.kept hW (by omega)) (by have:=hW.size;omega) cols (deep-1) (fun q hm W2 A2 c2 hW2 ho2 hk2=>HIH.out q hm cols (deep-1) ho2 hk2 (by have:=hW.size;have:=hW2.size;omega) (by omega) (by omega))
     clear HVV
     rcases(show kd=12∨kd=13∨kd=14 by omega) with hkd | hkd | hkd
     ·
      subst hkd
      obtain rfl:mo=16:=hmo.symm
      clear hmo hh
      go_enter Tryz.func95,Tryz.ntmps95
      go_wp2_with fail
      refine HN.out.mono ?_
      rintro r w2 ⟨rfl,q2⟩
      have HB2:=qa q2
      have HBX:=qa (qz B1.out q2 (by omega))
      have hs2:=HBX.out.size
      have c5:=(HBK.out w2 q2).cell 5
      simp only[zl,q9,zb] at c5
      clear q2
      go_wp2_with fail
      refine(HAL.out w2 HB2.out).mono ?_
      rintro r w3 ⟨rfl,q3⟩
      have HB3:=qa (qz HBX.out q3 hs2)
      clear q3
      go_wp2_with fail
      go_ret
      exact⟨rfl,HB3.out⟩
     ·
      subst hkd
      obtain rfl:mo=16:=hmo.symm
      clear hmo hh
      go_enter Tryz.func95,Tryz.ntmps95
      go_wp2_with fail
      refine HN.out.mono ?_
      rintro r w2 ⟨rfl,q2⟩
      have HB2:=qa q2
      have HBX:=qa (qz B1.out q2 (by omega))
      have hs2:=HBX.out.size
      have c5:=(HBK.out w2 q2).cell 5
      simp only[zl,q9,zb] at c5
      clear q2
      go_wp2_with fail
      refine(HAL.out w2 HB2.out).mono ?_
      rintro r w3 ⟨rfl,q3⟩
      have HB3:=qa (qz HBX.out q3 hs2)
      clear q3
      go_wp2_with fail
      go_ret
      exact⟨rfl,HB3.out⟩
     ·
      subst hkd
      obtain rfl:mo=1:=hmo.symm
      clear hmo hh
      go_enter Tryz.func95,Tryz.ntmps95
      go_wp2_with fail
      refine HN.out.mono ?_
      rintro r w2 ⟨rfl,q2⟩
      have HB2:=qa q2
      have HBX:=qa (qz B1.out q2 (by omega))
      have hs2:=HBX.out.size
      have c5:=(HBK.out w2 q2).cell 5
      simp only[zl,q9,zb] at c5
      clear q2
      go_wp2_with fail
      refine(HAL.out w2 HB2.out).mono ?_
      rintro r w3 ⟨rfl,q3⟩
      have HB3:=qa (qz HBX.out q3 hs2)
      clear q3
      go_wp2_with fail
      go_ret
      exact⟨rfl,HB3.out⟩
   ·
    have f12:(kd==12)=false:=qr.2 (by omega)
    have f13:(kd==13)=false:=qr.2 (by omega)
    have f14:(kd==14)=false:=qr.2 (by omega)
    obtain⟨u,hu⟩:∃u,asksP kd ec co s=u:=⟨_,rfl⟩
    have HU:Hid ((if deep<1∨kd<1∨14<kd then false else decide (qky kd cl co cols s ks.length)&&if kd=10 then (qco ec s.data.toList).isSome else decide (ec=0))=(decide (0≤cl)&&decide (cl<cols)&&decide (ks.length=0)&&u)):=by
     unfold Hid
     rw[←hu]
     exact leaf_asks (by omega) hh
    have HV2:Hid ((decide (0≤cl)&&decide (cl<cols)&&decide (ks.length=0)&&u)=V):=by
     unfold Hid
     rw[←HU.out,←HV.out]
     split
     ·
      rfl
     ·
      rw[if_neg (show ¬12≤kd by omega)]
    have HA:=qa (asks_any (w:=w1) kd cl ec co s ks.length (A:=A) (c:=c) (by omega))
    rw[hu] at HA
    clear hu HU HV HIH hh
    by_cases g1:0≤cl
    ·
     have i1:decide (0≤cl)=true:=qp g1
     by_cases g2:cl<cols
     ·
      have i2:decide (cl<cols)=true:=qp g2
      by_cases g3:ks.length=0
      ·
       have HVV:Hid (V=u):=by unfold Hid;rw[←HV2.out,i1,i2,qp g3];rfl
       have e3:((ks.length:Int)==0)=true:=by rw[g3];rfl
       have G3:=qa g3
       clear g3 HV2
       go_enter Tryz.func95,Tryz.ntmps95
       go_wp2_with fail
       refine HA.out.mono ?_
       rintro r w2 ⟨rfl,q2⟩
       have HB2:=qa (qz B1.out q2 (by omega))
       clear q2
       go_wp2_with fail
       go_ret
       exact⟨zf HVV.out.symm,HB2.out⟩
      ·
       have HVV:Hid (V=false):=by unfold Hid;rw[←HV2.out,ql g3,Bool.and_false,kw]
       have e3:((ks.length:Int)==0)=false:=qr.2 (by omega)
       clear HV2
       go_enter Tryz.func95,Tryz.ntmps95
       go_wp2_with fail
       go_ret
       exact⟨zf HVV.out.symm,B1.out⟩
     ·
      have HVV:Hid (V=false):=by unfold Hid;rw[←HV2.out,ql g2,Bool.and_false,kw,kw]
      have i2:decide (cl<cols)=false:=ql g2
      clear HV2
      go_enter Tryz.func95,Tryz.ntmps95
      go_wp2_with fail
      go_ret
      exact⟨zf HVV.out.symm,B1.out⟩
    ·
     have HVV:Hid (V=false):=by unfold Hid;rw[←HV2.out,ql g1,kw,kw,kw]
     have i1:decide (0≤cl)=false:=ql g1
     clear HV2
     go_enter Tryz.func95,Tryz.ntmps95
     go_wp2_with fail
     go_ret
     exact⟨zf HVV.out.symm,B1.out⟩
theorem nright_any{w:World}{p:Pr}{A:Option Addr}{c:Nat}(ho:PrOk p)(hk:Kin w 0 w.heap.size p.kids A c)(cols:Int) :
  Calls Tryz.prog 60 #[.agg #[.int .i64 p.kind,.int .i64 p.col,.string p.s,.int .i64 p.esc,.int .i64 p.coll,.slice A p.kids.length c],.int .i64 cols] w fun r w'=>r= .returned (.bool (uv p cols 12))∧Below w.heap.size w w':=by
 obtain⟨w1,hw1⟩:∃w1,w.alloc (.cells #[.int .i64 p.kind,.int .i64 p.col,.string p.s,.int .i64 p.esc,.int .i64 p.coll,.slice A p.kids.length c] 55)=w1:=⟨_,rfl⟩
 have B1:Hid (Below w.heap.size w w1):=by unfold Hid;rw[←hw1];exact(Below.refl _ w).alloc (qc _) _
 have hb:j6 w1 w.heap.size 55 #[.int .i64 p.kind,.int .i64 p.col,.string p.s,.int .i64 p.esc,.int .i64 p.coll,.slice A p.kids.length c]:=by rw[←hw1];exact j6.new w _ _
 have hs1:=B1.out.size
 have b0:w1.cell? ⟨w.heap.size,0,none⟩=some (.int .i64 p.kind):=hb.cell 0
 have b1:w1.cell? ⟨w.heap.size,1,none⟩=some (.int .i64 p.col):=hb.cell 1
 have b2:w1.cell? ⟨w.heap.size,2,none⟩=some (.string p.s):=hb.cell 2
 have b3:w1.cell? ⟨w.heap.size,3,none⟩=some (.int .i64 p.esc):=hb.cell 3
 have b4:w1.cell? ⟨w.heap.size,4,none⟩=some (.int .i64 p.coll):=hb.cell 4
 have b5:w1.cell? ⟨w.heap.size,5,none⟩=some (.slice A p.kids.length c):=hb.cell 5
 have HC:=qa (qrf p (w:=w1) cols 12 ho (hk.kept B1.out (qc _)) hs1 (by decide) (by decide))
 obtain⟨V,hV⟩:∃V,uv p cols 12=V:=⟨_,rfl⟩
 rw[hV] at HC ⊢
 clear hb hV ho hk
 go_enter Tryz.func60,Tryz.ntmps60
 go_wp2_with fail
 refine HC.out.mono ?_
 rintro r w2 ⟨rfl,q2⟩
 have HB2:=qa (qz B1.out q2 hs1)
 clear q2
 go_wp2_with fail
 go_ret
 exact⟨rfl,HB2.out⟩
theorem ghas_any{w:World}{lo hi b:Nat}{v:Value}{gs:List Nat}{rs:List Bool}(h:qok w lo hi v b gs rs)(hhi:hi≤w.heap.size)(hf:FilG b gs rs)(g:Nat)(hg:g<16777216) :
  Calls Tryz.prog 145 #[v,.int .i64 (g:Int)] w fun r w'=>r= .returned (.bool (qk9 b gs rs g))∧Below w.heap.size w w':=by
 obtain⟨A,c,B,d,rfl,h1,h2⟩:=h
 have hl1:=h1.len
 have hl2:=h2.len
 have hm1:=h1.cap
 have hm2:=h2.cap
 rw[ji,zj] at hl1
 rw[vk] at hl2
 unfold maxLen at hm1 hm2
 obtain⟨w1,hw1⟩:∃w1,w.alloc (.cells #[.int .i64 (b:Int),.slice A gs.length c,.slice B rs.length d] 67)=w1:=⟨_,rfl⟩
 have HB1:Hid (Below w.heap.size w w1):=by unfold Hid;rw[←hw1];exact(Below.refl _ w).alloc (qc _) _
 have hk:j6 w1 w.heap.size 67 #[.int .i64 (b:Int),.slice A gs.length c,.slice B rs.length d]:=by rw[←hw1];exact j6.new w _ _
 have hc0:w1.cell? ⟨w.heap.size,0,none⟩=some (.int .i64 (b:Int)):=hk.cell 0
 have hc1:w1.cell? ⟨w.heap.size,1,none⟩=some (.slice A gs.length c):=hk.cell 1
 have hc2:w1.cell? ⟨w.heap.size,2,none⟩=some (.slice B rs.length d):=hk.cell 2
 have HR1:=qa (h1.below HB1.out hhi)
 have HR2:=qa (h2.below HB1.out hhi)
 have i0:¬(g:Int)<0:=by omega
 have d0:decide ((g:Int)<0)=false:=ql i0
 have i1:¬(16777215:Int)<(g:Int):=by omega
 have d1:decide ((16777215:Int)<(g:Int))=false:=ql i1
 have HBS:=fun(hup:gs.Pairwise (· < ·)) (hn:gs.length≤100000000)=>qa (bsi_any (w:=w1) gs HR1.out hup hn g)
 have hf5:=hf.le
 clear h1 h2 hk
 obtain⟨V,hV⟩:∃V,qk9 b gs rs g=V:=⟨_,rfl⟩
 rw[hV]
 unfold qk9 at hV
 by_cases hb0:0<b
 ·
  rw[if_pos hb0] at hV
  have hrl:=hf.rows
  obtain⟨q,hq⟩:∃q,ql9 g b=q:=⟨_,rfl⟩
  have hqb:q<b:=by rw[←hq];exact qak _ hb0
  have HBT:=qa (gbit_any (w:=w1) g b q hg hb0 (by omega) hq)
  rw[hq] at hV
  obtain⟨bb,off,rfl,_,_,hcell⟩:=HR2.out.row (k:=q) (by omega)
  have hV2:rs[q]=V:=by rw[←hV];simp[List.getD,qe (show q<rs.length by omega)]
  rw[hV2] at hcell
  have hbz:¬(b:Int)=0:=by omega
  have hbe:((b:Int)==0)=false:=by rw[qr];exact hbz
  have iq:(q:Int)<(rs.length:Int):=by omega
  have dq:decide ((q:Int)<(rs.length:Int))=true:=qp iq
  have HRL:=qa hrl
  clear hV hV2 hrl hf HBS hq
  go_enter Tryz.func145,Tryz.ntmps145
  go_wp2_with fail
  refine HBT.out.mono ?_
  rintro r w' ⟨rfl,rfl⟩
  clear HBT
  go_wp2_with fail
  go_ret
  exact⟨rfl,HB1.out⟩
 ·
  obtain rfl:b=0:=by omega
  rw[if_neg hb0] at hV
  have HV:=qa hV
  have HBS1:=HBS hf.up (by have:=hf.few;omega)
  rw[show((0:Nat):Int)=0 from rfl] at hw1 hc0 ⊢
  clear hV hf HBS
  go_enter Tryz.func145,Tryz.ntmps145
  go_wp2_with fail
  refine HBS1.out.mono ?_
  rintro r w' ⟨k,rfl,m,rfl⟩
  clear HBS1
  go_wp2_with fail
  go_ret
  exact⟨zf HV.out,zg HB1.out m⟩
theorem gmay_any{w:World}{lo hi b:Nat}{v:Value}{gs:List Nat}{rs:List Bool}(h:qok w lo hi v b gs rs)(hhi:hi≤w.heap.size)(hf:FilG b gs rs)(s:ByteArray)(hs:s.size≤100000) :
  Calls Tryz.prog 99 #[v,.string s] w fun r w'=>r= .returned (.bool ((qad s.data.toList).all (qk9 b gs rs)))∧Below w.heap.size w w':=by
 have H:=qa h
 have HFG:=qa hf
 clear hf
 obtain⟨A,c,B,d,rfl⟩:=flt_agg h
 obtain⟨w1,hw1⟩:∃w1,w.alloc (.cells #[.int .i64 (b:Int),.slice A gs.length c,.slice B rs.length d] 67)=w1:=⟨_,rfl⟩
 have B1:Hid (Below w.heap.size w w1):=by unfold Hid;rw[←hw1];exact(Below.refl _ w).alloc (qc _) _
 have hk:j6 w1 w.heap.size 67 #[.int .i64 (b:Int),.slice A gs.length c,.slice B rs.length d]:=by rw[←hw1];exact j6.new w _ _
 have hs1:w1.heap.size=w.heap.size+1:=by rw[←hw1];simp
 have HK:=qa hk
 have hgt1:w.heap.size<w1.heap.size:=by omega
 clear h hk hs1
 obtain⟨V,hV⟩:∃V,(qad s.data.toList).all (qk9 b gs rs)=V:=⟨_,rfl⟩
 rw[hV]
 have HV:=qa hV
 clear hV
 obtain⟨N,hN⟩:∃N,s.size-2=N:=⟨_,rfl⟩
 have hN1:N≤s.size:=by omega
 have hN2:N=0∨N+2=s.size:=by omega
 have HPL:=qa (qrk (w:=w1) s hs N hN)
 have HGL:Hid ((qad s.data.toList).length=N):=by
  unfold Hid
  rw[qau,zy]
  exact hN
 clear hN
 go_enter Tryz.func99,Tryz.ntmps99
 go_wp2_with fail
 refine HPL.out.mono ?_
 rintro r w' ⟨rfl,rfl⟩
 clear HPL hw1
 go_wp2_with fail
 go_loopw [8] (fun x8 wr=>∃k:Nat,k≤N∧x8= .int .i64 (k:Int)∧(∀j (hj:j<(qad s.data.toList).length),j<k→qk9 b gs rs (qad s.data.toList)[j]=true)∧Below w1.heap.size w1 wr) (fun x8 _=>N-(intOf x8).toNat)
 case atStart=>exact⟨0,qi _,rfl,fun j _ h=>absurd h (jp j),Below.refl _ _⟩
 case round =>
  obtain⟨k,hk,rfl,hal,hb⟩:=hrel
  obtain⟨wz,hwz⟩:∃wz,wz=wr:=⟨_,rfl⟩
  subst hwz
  have HA:=qa hal
  have HB:=qa hb
  have hsz:=hb.size
  clear hal hb
  have BZ:Hid (Below w.heap.size w wz):=qz B1.out HB.out B1.out.size
  by_cases hkn:k<N
  ·
   have jk:(k:Int)<(N:Int):=by omega
   have hk2:k+2<s.size:=by omega
   have hk1:k<s.size:=by omega
   have hkle:k≤s.size:=by omega
   obtain⟨g,hg⟩:∃g,qjw s[k] s[k+1] s[k+2]=g:=⟨_,rfl⟩
   have hgl:g<16777216:=by rw[←hg];exact gramN_lt _ _ _
   have hget:(qad s.data.toList)[k]'(by rw[HGL.out];exact hkn)=g:=by rw[gramS s k hk2,hg]
   have HGA:Hid (∀W,Below wz.heap.size wz W→Calls Tryz.prog 146 #[.string (s.extract k s.size)] W fun r w'=>r= .returned (.int .i64 (g:Int))∧∃m,w'=W.drewN m):=fun W _=>ggram_at (w:=W) s k hk2 hs g hg
   have HC0:Hid (∀W,Below wz.heap.size wz W→W.cell? ⟨w.heap.size,0,none⟩=some (.int .i64 (b:Int))∧W.cell? ⟨w.heap.size,1,none⟩=some (.slice A gs.length c)∧W.cell? ⟨w.heap.size,2,none⟩=some (.slice B rs.length d)):=fun W hW=>by
    have hk:=(HK.out.below HB.out (by omega)).below hW (by omega)
    exact⟨hk.cell 0,hk.cell 1,hk.cell 2⟩
   have HHA:Hid (∀W,Below wz.heap.size wz W→Calls Tryz.prog 145 #[.agg #[.int .i64 (b:Int),.slice A gs.length c,.slice B rs.length d],.int .i64 (g:Int)] W fun r w'=>r= .returned (.bool (qk9 b gs rs g))∧Below W.heap.size W w'):=fun W hW =>
    ghas_any (H.out.below (qz BZ.out hW BZ.out.size) hhi) (by have:=BZ.out.size;have:=hW.size;omega) HFG.out g hgl
   have HNX:Hid (qk9 b gs rs g=true→∀j (hj:j<(qad s.data.toList).length),j<k+1→qk9 b gs rs (qad s.data.toList)[j]=true):=fun h j hj hjk=>by
    rcases xc j k with h2 | h2
    ·
     exact HA.out j hj h2
    ·
     have:j=k:=by omega
     subst this
     rw[hget]
     exact h
   have HNO:Hid (qk9 b gs rs g=false→V=false):=fun h=>by
    rw[←HV.out]
    refine qeo.2 fun h2 => ?_
    have h3:=jt.1 h2 g (by rw[←hget];exact qj _)
    rw[h] at h3
    cases h3
   obtain⟨f,hf⟩:∃f,qk9 b gs rs g=f:=⟨_,rfl⟩
   rw[hf] at HHA HNX HNO
   clear hf hget hg
   go_wp2_with fail
   refine wp_region_held_drew (S:=fun w'=>Below wz.heap.size wz w') (by kernel_rfl) (Below.drew (Below.refl _ _)) (fun hHeld => ?_)
   refine tk 0 ?_ rfl hHeld ?_ ?_
   rotate_left
   focus (intro W hSw;have hcv0:=(HC0.out W hSw).1;have hcv1:=(HC0.out W hSw).2.1;have hcv2:=(HC0.out W hSw).2.2;go_simp;try with_reducible rfl)
   try simp only[jv,Act.put]
   refine tk 1 ?_ rfl hHeld ?_ ?_
   rotate_left
   focus (intro W hSw;go_simp;try with_reducible rfl)
   try simp only[jv,Act.put]
   refine tk 2 ?_ rfl hHeld ?_ ?_
   rotate_left
   focus (intro W hSw;go_simp;try with_reducible rfl)
   try simp only[jv,Act.put]
   refine tk 3 ?_ rfl hHeld ?_ ?_
   rotate_left
   focus (intro W hSw;go_simp;try with_reducible rfl)
   try simp only[jv,Act.put]
   refine wpAnyH_ready (rs:=[4]) (by kernel_rfl) (by simp) ?_
   refine zc (o:=_) rfl (fun K hK => ?_) zm
   go_simp
   refine(HGA.out _ hHeld).mono ?_
   rintro r w8 ⟨rfl,h8⟩
   have HB8:Hid (Below wz.heap.size wz w8):=by
    obtain⟨m8,rfl⟩:=h8
    exact zg hHeld m8
   clear h8
   refine hK.out _ _ HB8.out (fun hHeld => ?_)
   clear hK K
   try simp only[jv,Act.put]
   refine wpAnyH_ready (rs:=[5]) (by kernel_rfl) (by simp) ?_
   refine zc (o:=_) rfl (fun K hK => ?_) zm
   go_simp
   refine(HHA.out _ hHeld).mono ?_
   rintro r w9 ⟨rfl,b9⟩
   have HB9:=qa (qz hHeld b9 hHeld.size)
   clear b9
   refine hK.out _ _ HB9.out (fun hHeld => ?_)
   clear hK K
   try simp only[jv,Act.put]
   refine tk 6 ?_ rfl hHeld ?_ ?_
   rotate_left
   focus (intro W hSw;go_simp;try with_reducible rfl)
   try simp only[jv,Act.put]
   refine wpAnyH_done (by kernel_rfl) ?_ _
   have HE:=qa (qz HB.out HB9.out hsz)
   clear hHeld
   cases f with
   | true =>
    have HN2:=qa (HNX.out rfl)
    clear HNX HNO
    go_wp2_with fail
    go_roundw
    case rel=>exact⟨k+1,by omega,by go_num,HN2.out,HE.out⟩
    case measure=>simp[intOf] <;> omega
   | false =>
    have HVV:=qa (HNO.out rfl)
    clear HNX HNO
    go_wp2_with fail
    go_ret
    exact⟨zf HVV.out.symm,qz BZ.out HB9.out BZ.out.size⟩
  ·
   have jk:¬(k:Int)<(N:Int):=by omega
   have HVV:Hid (V=true):=by
    unfold Hid
    rw[←HV.out]
    refine jt.2 fun g hg => ?_
    obtain⟨j,hj,rfl⟩:=zq hg
    exact HA.out j hj (by have:=HGL.out;omega)
   go_wp2_with fail
   go_ret
   exact⟨zf HVV.out.symm,BZ.out⟩
end Go.Proofs.YtnjkipnklpkaoaaGreat
