/-
  Lemmas.
-/
import Derived.Test.YtnjkipnklpkaoaaGreatA51
import Derived.Test.YtnjkipnklpkaoaaGreatA52
namespace Go.Proofs.YtnjkipnklpkaoaaGreat
open Go.RowKit
set_option maxRecDepth 20000
set_option maxHeartbeats 16000000
set_option linter.unusedSimpArgs false
set_option linter.unusedVariables false
theorem flt_below{w w':World}{lo hi b:Nat}{v:Value}{gs:List Nat}{rs:List Bool}(h:qok w lo hi v b gs rs){B:Nat}(hb:Below B w w')(hB:hi≤B):qok w' lo hi v b gs rs:=by
 obtain⟨A,c,A2,d,h1,h2,h3⟩:=h
 exact⟨A,c,A2,d,h1,h2.below hb hB,h3.below hb hB⟩
theorem lit_skip{W:World}{q:Pr}{A2 fA:Option Addr}{c2 B0 n fc:Nat}{v:Bool}(h0:W.cell? ⟨B0,0,none⟩=some (.slice fA n fc))(l0:B0<W.heap.size)
  (hc:∀W2,Below W.heap.size W W2→Calls Tryz.prog 61 #[.agg #[.int .i64 q.kind,.int .i64 q.col,.string q.s,.int .i64 q.esc,.int .i64 q.coll,.slice A2 q.kids.length c2],.slice fA n fc] W2 fun r w'=>r= .returned (.bool v)∧Below W2.heap.size W2 w') :
  Calls Tryz.prog 97 #[.agg #[.int .i64 q.kind,.int .i64 q.col,.string q.s,.int .i64 q.esc,.int .i64 q.coll,.slice A2 q.kids.length c2],.pointer (some ⟨B0,0,none⟩)] W fun r w'=>r= .returned (.bool v)∧Below W.heap.size W w':=by
 obtain⟨w1,hw1⟩:∃w1,W.alloc (.cells #[.int .i64 q.kind,.int .i64 q.col,.string q.s,.int .i64 q.esc,.int .i64 q.coll,.slice A2 q.kids.length c2] 55)=w1:=⟨_,rfl⟩
 have HB1:Hid (Below W.heap.size W w1):=by unfold Hid;rw[←hw1];exact(Below.refl _ W).alloc (qc _) _
 have hb:j6 w1 W.heap.size 55 #[.int .i64 q.kind,.int .i64 q.col,.string q.s,.int .i64 q.esc,.int .i64 q.coll,.slice A2 q.kids.length c2]:=by rw[←hw1];exact j6.new W _ _
 have b0:w1.cell? ⟨W.heap.size,0,none⟩=some (.int .i64 q.kind):=hb.cell 0
 have b1:w1.cell? ⟨W.heap.size,1,none⟩=some (.int .i64 q.col):=hb.cell 1
 have b2:w1.cell? ⟨W.heap.size,2,none⟩=some (.string q.s):=hb.cell 2
 have b3:w1.cell? ⟨W.heap.size,3,none⟩=some (.int .i64 q.esc):=hb.cell 3
 have b4:w1.cell? ⟨W.heap.size,4,none⟩=some (.int .i64 q.coll):=hb.cell 4
 have b5:w1.cell? ⟨W.heap.size,5,none⟩=some (.slice A2 q.kids.length c2):=hb.cell 5
 have g0:w1.cell? ⟨B0,0,none⟩=some (.slice fA n fc):=(HB1.out.cell (p:=⟨B0,0,none⟩) l0).trans h0
 have HC:=qa (hc w1 HB1.out)
 have hs1:=HB1.out.size
 clear hb h0 hc l0
 go_enter Tryz.func97,Tryz.ntmps97
 go_wp2_with fail
 refine HC.out.mono ?_
 rintro r w2 ⟨rfl,q2⟩
 have HB2:=qa (qz HB1.out q2 hs1)
 clear q2
 go_wp2_with fail
 go_ret
 exact⟨rfl,HB2.out⟩
theorem lit_stay{W:World}{q:Pr}{A2 fA:Option Addr}{c2 B0 n fc:Nat}{v:Bool}(h0:W.cell? ⟨B0,0,none⟩=some (.slice fA n fc))(l0:B0<W.heap.size)
  (hc:∀W2,Below W.heap.size W W2→Calls Tryz.prog 61 #[.agg #[.int .i64 q.kind,.int .i64 q.col,.string q.s,.int .i64 q.esc,.int .i64 q.coll,.slice A2 q.kids.length c2],.slice fA n fc] W2 fun r w'=>r= .returned (.bool v)∧Below W2.heap.size W2 w') :
  Calls Tryz.prog 98 #[.agg #[.int .i64 q.kind,.int .i64 q.col,.string q.s,.int .i64 q.esc,.int .i64 q.coll,.slice A2 q.kids.length c2],.pointer (some ⟨B0,0,none⟩)] W fun r w'=>r= .returned (.bool !v)∧Below W.heap.size W w':=by
 obtain⟨w1,hw1⟩:∃w1,W.alloc (.cells #[.int .i64 q.kind,.int .i64 q.col,.string q.s,.int .i64 q.esc,.int .i64 q.coll,.slice A2 q.kids.length c2] 55)=w1:=⟨_,rfl⟩
 have HB1:Hid (Below W.heap.size W w1):=by unfold Hid;rw[←hw1];exact(Below.refl _ W).alloc (qc _) _
 have hb:j6 w1 W.heap.size 55 #[.int .i64 q.kind,.int .i64 q.col,.string q.s,.int .i64 q.esc,.int .i64 q.coll,.slice A2 q.kids.length c2]:=by rw[←hw1];exact j6.new W _ _
 have b0:w1.cell? ⟨W.heap.size,0,none⟩=some (.int .i64 q.kind):=hb.cell 0
 have b1:w1.cell? ⟨W.heap.size,1,none⟩=some (.int .i64 q.col):=hb.cell 1
 have b2:w1.cell? ⟨W.heap.size,2,none⟩=some (.string q.s):=hb.cell 2
 have b3:w1.cell? ⟨W.heap.size,3,none⟩=some (.int .i64 q.esc):=hb.cell 3
 have b4:w1.cell? ⟨W.heap.size,4,none⟩=some (.int .i64 q.coll):=hb.cell 4
 have b5:w1.cell? ⟨W.heap.size,5,none⟩=some (.slice A2 q.kids.length c2):=hb.cell 5
 have g0:w1.cell? ⟨B0,0,none⟩=some (.slice fA n fc):=(HB1.out.cell (p:=⟨B0,0,none⟩) l0).trans h0
 have HC:=qa (hc w1 HB1.out)
 have hs1:=HB1.out.size
 clear hb h0 hc l0
 go_enter Tryz.func98,Tryz.ntmps98
 go_wp2_with fail
 refine HC.out.mono ?_
 rintro r w2 ⟨rfl,q2⟩
 have HB2:=qa (qz HB1.out q2 hs1)
 clear q2
 go_wp2_with fail
 go_ret
 exact⟨rfl,HB2.out⟩
theorem lit_run{W:World}{x:ByteArray}{fA gA rA:Option Addr}{B0 B1 n fc b off j fb gn gc rn rc:Nat}{v:Bool}(h0:W.cell? ⟨B0,0,none⟩=some (.slice fA n fc))(h1:W.cell? ⟨B1,1,none⟩=some (.int .i64 (j:Int)))(hA:fA=some ⟨b,off,none⟩)(hj:j<n)(hn:n≤9223372036854775807)
  (f0:W.cell? ⟨b,off+j*3,none⟩=some (.int .i64 (fb:Int))) (f1:W.cell? ⟨b,off+j*3+1,none⟩=some (.slice gA gn gc)) (f2:W.cell? ⟨b,off+j*3+2,none⟩=some (.slice rA rn rc))
  (hc:Calls Tryz.prog 99 #[.agg #[.int .i64 (fb:Int),.slice gA gn gc,.slice rA rn rc],.string x] W fun r w'=>r= .returned (.bool v)∧Below W.heap.size W w') :
  Calls Tryz.prog 103 #[.string x,.pointer (some ⟨B0,0,none⟩),.pointer (some ⟨B1,0,none⟩)] W fun r w'=>r= .returned (.bool !v)∧Below W.heap.size W w':=by
 subst hA
 have ij:(j:Int)<(n:Int):=by omega
 have HC:=qa hc
 clear hc
 go_enter Tryz.func103,Tryz.ntmps103
 go_wp2_with fail
 refine HC.out.mono ?_
 rintro r w2 ⟨rfl,q2⟩
 have HB2:=qa q2
 clear q2
 go_wp2_with fail
 go_ret
 exact⟨rfl,HB2.out⟩
theorem headK_any{ks:List Pr}{f:Pr→Bool}:qrg 12 ((ks.map f).count true) ks.length=ks.any f:=by
 rw[qrg,j5,decide_eq_true_eq,kv,←count_true]
 constructor
 ·
  intro h
  rcases h with h | h
  ·
   exact h.2
  ·
   omega
 ·
  exact fun h=> .inl ⟨rfl,h⟩
theorem headK_all{ks:List Pr}{f:Pr→Bool}:qrg 13 ((ks.map f).count true) ks.length = !ks.any fun q => !f q:=by
 rw[all_not,qrg,j5,decide_eq_true_eq,jt]
 constructor
 ·
  intro h
  rcases h with h | h
  ·
   omega
  ·
   exact count_all h.2
 ·
  intro h
  refine .inr ⟨rfl,?_⟩
  have:=(List.count_eq_length (a:=true) (l:=ks.map f)).2 (fun b hb=>by
   obtain⟨q,hq,rfl⟩:=zn.1 hb
   exact(h q hq).symm)
  rwa [q8] at this
theorem headK_not(n m:Nat):qrg 14 n m=false:=by rw[qrg];exact ql (by omega)
theorem run_le{ns:List Nat}{x:ByteArray}(h:x∈j7 (qec ns)):x.size≤ns.length:=by
 obtain⟨r,hr,rfl⟩:=zn.1 h
 have:=runsL_le hr
 rw[←qet]
 simpa using this
theorem nskipr_any:∀(p:Pr) {w:World} {lo hi flo fhi:Nat} {A fA:Option Addr} {c fc:Nat} {gA rA:Nat→Option Addr} {gc rc:Nat→Nat} (fs:List Fl) (deep:Int),PrOk p→Kin w lo hi p.kids A c→Fls w flo fhi fA fc fs gA gc rA rc→hi≤w.heap.size→fhi≤w.heap.size→(∀f∈fs,FilG f.b f.gs f.rs)→uv p fs.length deep=true→
  Calls Tryz.prog 61 #[.agg #[.int .i64 p.kind,.int .i64 p.col,.string p.s,.int .i64 p.esc,.int .i64 p.coll,.slice A p.kids.length c],.slice fA fs.length fc] w fun r w'=>r= .returned (.bool (qhr p fs))∧Below w.heap.size w w' :=
 Pr.ind fun p ih w lo hi flo fhi A fA c fc gA rA gc rc fs deep ho hk hfl hhi hfhi hfo hr=>by
  have HIH:=qa ih
  have HK:=qa hk
  have HFL:=qa hfl
  have HFO:=qa hfo
  have HR:=qa hr
  have hs63:=ho.s
  obtain⟨hl1,hl2⟩:=hk.len
  obtain⟨hr1,hr2⟩:=hfl.len
  clear ih hk ho hfl hfo hr
  obtain⟨V,hV⟩:∃V,qhr p fs=V:=⟨_,rfl⟩
  rw[hV]
  rw[skipP_eq] at hV
  have HRH:=qa (fun h=>qlp HR.out h)
  have HRL:=qa (fun h=>qlo HR.out h)
  clear HR
  obtain⟨kd,hkd⟩:∃x,p.kind=x:=⟨_,rfl⟩
  obtain⟨cl,hcl⟩:∃x,p.col=x:=⟨_,rfl⟩
  obtain⟨ec,hec⟩:∃x,p.esc=x:=⟨_,rfl⟩
  obtain⟨co,hco⟩:∃x,p.coll=x:=⟨_,rfl⟩
  obtain⟨s,hs⟩:∃x,p.s=x:=⟨_,rfl⟩
  obtain⟨ks,hks⟩:∃x,p.kids=x:=⟨_,rfl⟩
  rw[hkd,hcl,hec,hco,hs,hks] at hV
  rw[hks] at HIH HK hl1
  rw[hs] at hs63
  rw[hkd,hks] at HRH
  rw[hkd,hcl,hec,hs,hks] at HRL
  rw[hkd,hcl,hec,hco,hs,hks]
  clear hkd hcl hec hco hs hks
  have HV:=qa hV
  clear hV
  obtain⟨w1,hw1⟩:∃w1,w.alloc (.cells #[.int .i64 kd,.int .i64 cl,.string s,.int .i64 ec,.int .i64 co,.slice A ks.length c] 55)=w1:=⟨_,rfl⟩
  have B1:Hid (Below w.heap.size w w1):=by unfold Hid;rw[←hw1];exact(Below.refl _ w).alloc (qc _) _
  have hb:j6 w1 w.heap.size 55 #[.int .i64 kd,.int .i64 cl,.string s,.int .i64 ec,.int .i64 co,.slice A ks.length c]:=by rw[←hw1];exact j6.new w _ _
  have hs1:w1.heap.size=w.heap.size+1:=by rw[←hw1];simp
  have HBK:Hid (∀W,Below w1.heap.size w1 W→j6 W w.heap.size 55 #[.int .i64 kd,.int .i64 cl,.string s,.int .i64 ec,.int .i64 co,.slice A ks.length c]):=fun W hW=>hb.below hW (by omega)
  have b0:w1.cell? ⟨w.heap.size,0,none⟩=some (.int .i64 kd):=hb.cell 0
  have b1:w1.cell? ⟨w.heap.size,1,none⟩=some (.int .i64 cl):=hb.cell 1
  have b2:w1.cell? ⟨w.heap.size,2,none⟩=some (.string s):=hb.cell 2
  have b3:w1.cell? ⟨w.heap.size,3,none⟩=some (.int .i64 ec):=hb.cell 3
  have b4:w1.cell? ⟨w.heap.size,4,none⟩=some (.int .i64 co):=hb.cell 4
  have b5:w1.cell? ⟨w.heap.size,5,none⟩=some (.slice A ks.length c):=hb.cell 5
  have HK1:=qa (HK.out.kept B1.out hhi)
  clear hb HK
  clear b0 b1 b2 b3 b4 b5
  obtain⟨w2,hw2⟩:∃w2,w1.alloc (.cells #[.slice fA fs.length fc] 45)=w2:=⟨_,rfl⟩
  have hs2:w2.heap.size=w.heap.size+2:=by rw[←hw2];simp[hs1]
  have B12:Hid (Below w1.heap.size w1 w2):=by unfold Hid;rw[←hw2];exact(Below.refl _ w1).alloc (qc _) _
  have B2:Hid (Below w.heap.size w w2):=qz B1.out B12.out (by omega)
  have HFB:Hid (∀W,Below w2.heap.size w2 W→j6 W (w.heap.size+1) 45 #[.slice fA fs.length fc]):=fun W hW=>by
   have:j6 w2 w1.heap.size 45 #[.slice fA fs.length fc]:=by rw[←hw2];exact j6.new w1 _ _
   rw[hs1] at this
   exact this.below hW (by omega)
  have HPB:Hid (∀W,Below w2.heap.size w2 W→j6 W w.heap.size 55 #[.int .i64 kd,.int .i64 cl,.string s,.int .i64 ec,.int .i64 co,.slice A ks.length c]):=fun W hW=>HBK.out W (qz B12.out hW (by omega))
  clear HBK
  have HK2:=qa (HK1.out.kept B12.out (by omega))
  have HFL2:=qa (HFL.out.below B2.out hfhi)
  clear HK1 HFL
  have b0:w2.cell? ⟨w.heap.size,0,none⟩=some (.int .i64 kd):=(HPB.out w2 (Below.refl _ _)).cell 0
  have b1:w2.cell? ⟨w.heap.size,1,none⟩=some (.int .i64 cl):=(HPB.out w2 (Below.refl _ _)).cell 1
  have b2:w2.cell? ⟨w.heap.size,2,none⟩=some (.string s):=(HPB.out w2 (Below.refl _ _)).cell 2
  have b3:w2.cell? ⟨w.heap.size,3,none⟩=some (.int .i64 ec):=(HPB.out w2 (Below.refl _ _)).cell 3
  have b4:w2.cell? ⟨w.heap.size,4,none⟩=some (.int .i64 co):=(HPB.out w2 (Below.refl _ _)).cell 4
  have b5:w2.cell? ⟨w.heap.size,5,none⟩=some (.slice A ks.length c):=(HPB.out w2 (Below.refl _ _)).cell 5
  have g0:w2.cell? ⟨w.heap.size+1,0,none⟩=some (.slice fA fs.length fc):=(HFB.out w2 (Below.refl _ _)).cell 0
  by_cases g12:12≤kd
  ·
   obtain⟨k14,k16,k1,hn1,HRK⟩:=HRH.out g12
   have HRK:=qa HRK
   clear HRL HRH
   rw[if_pos g12] at HV
   have HQ:Hid (∀q∈ks,∀(W:World) A2 c2,Below w2.heap.size w2 W→PrOk q→Kin W lo hi q.kids A2 c2→Calls Tryz.prog 61 #[.agg #[.int .i64 q.kind,.int .i64 q.col,.string q.s,.int .i64 q.esc,.int .i64 q.coll,.slice A2 q.kids.length c2],.slice fA fs.length fc] W fun r w'=>r= .returned (.bool (qhr q fs))∧Below W.heap.size W w'):=fun q hm W A2 c2 hW ho2 hk2 =>
    HIH.out q hm fs (deep-1) ho2 hk2 (HFL2.out.below hW (by omega)) (by have:=hW.size;omega) (by have:=hW.size;omega) HFO.out (HRK.out q hm)
   clear HIH
   rcases(show kd=12∨kd=13∨kd=14 by omega) with hkd | hkd | hkd
   ·
    subst hkd
    have HC:=qa (has_skip (w:=w2) (B0:=w.heap.size+1) HK2.out (by omega) (fun q=>qhr q fs) (fun q hm W hW A2 c2 ho2 hk2=>lit_skip ((HFB.out W hW).cell 0) (by have:=hW.size;omega) (fun W2 hW2=>HQ.out q hm W2 A2 c2 (qz hW hW2 (by have:=hW.size;omega)) ho2 (hk2.kept hW2 (by have:=hW.size;omega)))))
    rw[headK_any] at HV
    rw[HV.out] at HC
    clear HQ HV g12
    go_enter Tryz.func61,Tryz.ntmps61
    go_wp2_with fail
    refine HC.out.mono ?_
    rintro r w3 ⟨rfl,q3⟩
    have HB3:=qa (qz B2.out q3 (by omega))
    clear q3
    go_wp2_with fail
    go_ret
    exact⟨rfl,HB3.out⟩
   ·
    subst hkd
    have HC:=qa (has_stay (w:=w2) (B0:=w.heap.size+1) HK2.out (by omega) (fun q => !qhr q fs) (fun q hm W hW A2 c2 ho2 hk2=>lit_stay ((HFB.out W hW).cell 0) (by have:=hW.size;omega) (fun W2 hW2=>HQ.out q hm W2 A2 c2 (qz hW hW2 (by have:=hW.size;omega)) ho2 (hk2.kept hW2 (by have:=hW.size;omega)))))
    rw[headK_all] at HV
    obtain⟨u,hu⟩:∃u,(ks.any fun q => !qhr q fs)=u:=⟨_,rfl⟩
    rw[hu] at HC HV
    clear HQ g12 hu
    go_enter Tryz.func61,Tryz.ntmps61
    go_wp2_with fail
    refine HC.out.mono ?_
    rintro r w3 ⟨rfl,q3⟩
    have HB3:=qa (qz B2.out q3 (by omega))
    clear q3
    go_wp2_with fail
    go_ret
    exact⟨zf HV.out,HB3.out⟩
   ·
    subst hkd
    rw[headK_not] at HV
    clear HQ g12 hn1
    go_enter Tryz.func61,Tryz.ntmps61
    go_wp2_with fail
    go_ret
    exact⟨zf HV.out,B2.out⟩
  ·
   obtain⟨l1,l2,l3,l4,hkn,HPF⟩:=HRL.out g12
   have HPF:=qa HPF
   clear HRL HRH HIH HK2 hkn
   have f12:(kd==12)=false:=qr.2 (by omega)
   have f13:(kd==13)=false:=qr.2 (by omega)
   have f14:(kd==14)=false:=qr.2 (by omega)
   have HVL:Hid (qhj kd co ec s (fs[cl.toNat]?.getD ⟨0,[],[]⟩)=V):=by unfold Hid;rw[←HV.out,if_neg g12]
   clear HV
   obtain⟨j,rfl⟩:∃j:Nat,cl=(j:Int):=⟨cl.toNat,by omega⟩
   have hjl:j<fs.length:=by omega
   rw[vf,qe hjl,xj] at HVL
   have ij:(j:Int)<(fs.length:Int):=by omega
   have ij0:(0:Int)≤(j:Int):=by omega
   obtain⟨bf,off,hfA,hlo2,hbh2,d0,d1,d2,hflt⟩:=HFL2.out.get hjl
   have HFG:=qa (HFO.out fs[j] (qj hjl))
   have HMAY:Hid (∀W,Below w2.heap.size w2 W→∀x:ByteArray,x.size≤100000→Calls Tryz.prog 99 #[.agg #[.int .i64 (fs[j].b:Int),.slice (gA j) fs[j].gs.length (gc j),.slice (rA j) fs[j].rs.length (rc j)],.string x] W fun r w'=>r= .returned (.bool (mayP fs[j] x))∧Below W.heap.size W w'):=fun W hW x hx=>gmay_any (flt_below hflt hW (by omega)) (by have:=hW.size;omega) HFG.out x hx
   clear hflt HFG HFO HFL2
   generalize fs[j]=fl at *
   generalize gA j=ga at *
   generalize gc j=gcj at *
   generalize rA j=ra at *
   generalize rc j=rcj at *
   subst hfA
   have HCF:Hid (∀wx,Below w2.heap.size w2 wx→wx.cell? ⟨w.heap.size,1,none⟩=some (.int .i64 (j:Int))∧wx.cell? ⟨w.heap.size,2,none⟩=some (.string s)∧wx.cell? ⟨w.heap.size,4,none⟩=some (.int .i64 co)∧wx.cell? ⟨w.heap.size+1,0,none⟩=some (.slice (some ⟨bf,off,none⟩) fs.length fc)∧wx.cell? ⟨bf,off+j*3,none⟩=some (.int .i64 (fl.b:Int))∧wx.cell? ⟨bf,off+j*3+1,none⟩=some (.slice ga fl.gs.length gcj)∧wx.cell? ⟨bf,off+j*3+2,none⟩=some (.slice ra fl.rs.length rcj)):=fun wx hb=>⟨(HPB.out wx hb).cell 1,(HPB.out wx hb).cell 2,(HPB.out wx hb).cell 4,(HFB.out wx hb).cell 0,(hb.cell (p:=⟨bf,off+j*3,none⟩) (by simp only;omega)).trans d0,(hb.cell (p:=⟨bf,off+j*3+1,none⟩) (by simp only;omega)).trans d1,(hb.cell (p:=⟨bf,off+j*3+2,none⟩) (by simp only;omega)).trans d2⟩
   rcases(show kd=1∨kd=2∨kd=3∨kd=4∨kd=5∨kd=6∨kd=7∨kd=8∨kd=9∨kd=10∨kd=11 by omega) with hkd | hkd | hkd | hkd | hkd | hkd | hkd | hkd | hkd | hkd | hkd
   ·
    subst hkd
    by_cases c0:co=0
    ·
     subst c0
     obtain⟨u,hu⟩:∃u,mayP fl s=u:=⟨_,rfl⟩
     have HVV:Hid ((!u)=V):=by unfold Hid;rw[←HVL.out,←hu,qhj];exact(if_pos (.inl ⟨rfl,rfl⟩)).symm
     have HM:Hid (∀W,Below w2.heap.size w2 W→Calls Tryz.prog 99 #[.agg #[.int .i64 (fl.b:Int),.slice ga fl.gs.length gcj,.slice ra fl.rs.length rcj],.string s] W fun r w'=>r= .returned (.bool u)∧Below W.heap.size W w'):=fun W hW=>by rw[←hu];exact HMAY.out W hW s (by omega)
     have hS1:=HCF.out _ (Below.refl _ _)
     have hS2:=HCF.out _ ((Below.refl _ _).drew)
     have KD:Hid (Below w2.heap.size w2 w2.drew):=(Below.refl _ _).drew
     clear hu HMAY HVL HPF
     go_enter Tryz.func61,Tryz.ntmps61
     go_wp2_with fail
     go_region_held3 (fun w'=>w'.cell? ⟨w.heap.size,1,none⟩=some (.int .i64 (j:Int))∧w'.cell? ⟨w.heap.size,2,none⟩=some (.string s)∧w'.cell? ⟨w.heap.size,4,none⟩=some (.int .i64 0)∧w'.cell? ⟨w.heap.size+1,0,none⟩=some (.slice (some ⟨bf,off,none⟩) fs.length fc)∧w'.cell? ⟨bf,off+j*3,none⟩=some (.int .i64 (fl.b:Int))∧w'.cell? ⟨bf,off+j*3+1,none⟩=some (.slice ga fl.gs.length gcj)∧w'.cell? ⟨bf,off+j*3+2,none⟩=some (.slice ra fl.rs.length rcj)) (first | assumption | go_keep) (first
      | (go_at_call 99;refine(HM.out _ KD.out).mono ?_;rintro r wy ⟨rfl,hby⟩;have KY:Hid (Below w2.heap.size w2 wy):=KD.out.trans (hby.mono KD.out.size);have hSy:=HCF.out _ KY.out;clear hby))
     go_wp2_with fail
     go_ret
     exact⟨zf HVV.out,qz B2.out KY.out (by omega)⟩
    ·
     have e0:(co==0)=false:=qr.2 c0
     have HVV:Hid (V=false):=by unfold Hid;rw[←HVL.out,qhj,if_neg (by omega),if_neg (by decide)]
     clear HVL HMAY HCF
     go_enter Tryz.func61,Tryz.ntmps61
     go_wp2_with fail
     go_quiet (fail)
     go_wp2_with fail
     go_ret
     exact⟨zf HVV.out.symm,zg B2.out _⟩
   ·
    subst hkd
    have HVV:Hid (V=false):=by unfold Hid;rw[←HVL.out,qhj,if_neg (by omega),if_neg (by decide)]
    clear HVL HMAY HCF
    go_enter Tryz.func61,Tryz.ntmps61
    go_wp2_with fail
    go_ret
    exact⟨zf HVV.out.symm,B2.out⟩
   ·
    subst hkd
    have HVV:Hid (V=false):=by unfold Hid;rw[←HVL.out,qhj,if_neg (by omega),if_neg (by decide)]
    clear HVL HMAY HCF
    go_enter Tryz.func61,Tryz.ntmps61
    go_wp2_with fail
    go_ret
    exact⟨zf HVV.out.symm,B2.out⟩
   ·
    subst hkd
    have HVV:Hid (V=false):=by unfold Hid;rw[←HVL.out,qhj,if_neg (by omega),if_neg (by decide)]
    clear HVL HMAY HCF
    go_enter Tryz.func61,Tryz.ntmps61
    go_wp2_with fail
    go_ret
    exact⟨zf HVV.out.symm,B2.out⟩
   ·
    subst hkd
    have HVV:Hid (V=false):=by unfold Hid;rw[←HVL.out,qhj,if_neg (by omega),if_neg (by decide)]
    clear HVL HMAY HCF
    go_enter Tryz.func61,Tryz.ntmps61
    go_wp2_with fail
    go_ret
    exact⟨zf HVV.out.symm,B2.out⟩
   ·
    subst hkd
    have HVV:Hid (V=false):=by unfold Hid;rw[←HVL.out,qhj,if_neg (by omega),if_neg (by decide)]
    clear HVL HMAY HCF
    go_enter Tryz.func61,Tryz.ntmps61
    go_wp2_with fail
    go_ret
    exact⟨zf HVV.out.symm,B2.out⟩
   ·
    subst hkd
    obtain⟨u,hu⟩:∃u,mayP fl s=u:=⟨_,rfl⟩
    have HVV:Hid ((!u)=V):=by unfold Hid;rw[←HVL.out,←hu,qhj];exact(if_pos (.inr ⟨by decide,by decide⟩)).symm
    have HM:Hid (∀W,Below w2.heap.size w2 W→Calls Tryz.prog 99 #[.agg #[.int .i64 (fl.b:Int),.slice ga fl.gs.length gcj,.slice ra fl.rs.length rcj],.string s] W fun r w'=>r= .returned (.bool u)∧Below W.heap.size W w'):=fun W hW=>by rw[←hu];exact HMAY.out W hW s (by omega)
    have hS1:=HCF.out _ (Below.refl _ _)
    have hS2:=HCF.out _ ((Below.refl _ _).drew)
    have KD:Hid (Below w2.heap.size w2 w2.drew):=(Below.refl _ _).drew
    clear hu HMAY HVL HPF
    go_enter Tryz.func61,Tryz.ntmps61
    go_wp2_with fail
    go_region_held3 (fun w'=>w'.cell? ⟨w.heap.size,1,none⟩=some (.int .i64 (j:Int))∧w'.cell? ⟨w.heap.size,2,none⟩=some (.string s)∧w'.cell? ⟨w.heap.size,4,none⟩=some (.int .i64 co)∧w'.cell? ⟨w.heap.size+1,0,none⟩=some (.slice (some ⟨bf,off,none⟩) fs.length fc)∧w'.cell? ⟨bf,off+j*3,none⟩=some (.int .i64 (fl.b:Int))∧w'.cell? ⟨bf,off+j*3+1,none⟩=some (.slice ga fl.gs.length gcj)∧w'.cell? ⟨bf,off+j*3+2,none⟩=some (.slice ra fl.rs.length rcj)) (first | assumption | go_keep) (first
     | (go_at_call 99;refine(HM.out _ KD.out).mono ?_;rintro r wy ⟨rfl,hby⟩;have KY:Hid (Below w2.heap.size w2 wy):=KD.out.trans (hby.mono KD.out.size);have hSy:=HCF.out _ KY.out;clear hby))
    go_wp2_with fail
    go_ret
    exact⟨zf HVV.out,qz B2.out KY.out (by omega)⟩
   ·
    subst hkd
    obtain⟨u,hu⟩:∃u,mayP fl s=u:=⟨_,rfl⟩
    have HVV:Hid ((!u)=V):=by unfold Hid;rw[←HVL.out,←hu,qhj];exact(if_pos (.inr ⟨by decide,by decide⟩)).symm
    have HM:Hid (∀W,Below w2.heap.size w2 W→Calls Tryz.prog 99 #[.agg #[.int .i64 (fl.b:Int),.slice ga fl.gs.length gcj,.slice ra fl.rs.length rcj],.string s] W fun r w'=>r= .returned (.bool u)∧Below W.heap.size W w'):=fun W hW=>by rw[←hu];exact HMAY.out W hW s (by omega)
    have hS1:=HCF.out _ (Below.refl _ _)
    have hS2:=HCF.out _ ((Below.refl _ _).drew)
    have KD:Hid (Below w2.heap.size w2 w2.drew):=(Below.refl _ _).drew
    clear hu HMAY HVL HPF
    go_enter Tryz.func61,Tryz.ntmps61
    go_wp2_with fail
    go_region_held3 (fun w'=>w'.cell? ⟨w.heap.size,1,none⟩=some (.int .i64 (j:Int))∧w'.cell? ⟨w.heap.size,2,none⟩=some (.string s)∧w'.cell? ⟨w.heap.size,4,none⟩=some (.int .i64 co)∧w'.cell? ⟨w.heap.size+1,0,none⟩=some (.slice (some ⟨bf,off,none⟩) fs.length fc)∧w'.cell? ⟨bf,off+j*3,none⟩=some (.int .i64 (fl.b:Int))∧w'.cell? ⟨bf,off+j*3+1,none⟩=some (.slice ga fl.gs.length gcj)∧w'.cell? ⟨bf,off+j*3+2,none⟩=some (.slice ra fl.rs.length rcj)) (first | assumption | go_keep) (first
     | (go_at_call 99;refine(HM.out _ KD.out).mono ?_;rintro r wy ⟨rfl,hby⟩;have KY:Hid (Below w2.heap.size w2 wy):=KD.out.trans (hby.mono KD.out.size);have hSy:=HCF.out _ KY.out;clear hby))
    go_wp2_with fail
    go_ret
    exact⟨zf HVV.out,qz B2.out KY.out (by omega)⟩
   ·
    subst hkd
    obtain⟨u,hu⟩:∃u,mayP fl s=u:=⟨_,rfl⟩
    have HVV:Hid ((!u)=V):=by unfold Hid;rw[←HVL.out,←hu,qhj];exact(if_pos (.inr ⟨by decide,by decide⟩)).symm
    have HM:Hid (∀W,Below w2.heap.size w2 W→Calls Tryz.prog 99 #[.agg #[.int .i64 (fl.b:Int),.slice ga fl.gs.length gcj,.slice ra fl.rs.length rcj],.string s] W fun r w'=>r= .returned (.bool u)∧Below W.heap.size W w'):=fun W hW=>by rw[←hu];exact HMAY.out W hW s (by omega)
    have hS1:=HCF.out _ (Below.refl _ _)
    have hS2:=HCF.out _ ((Below.refl _ _).drew)
    have KD:Hid (Below w2.heap.size w2 w2.drew):=(Below.refl _ _).drew
    clear hu HMAY HVL HPF
    go_enter Tryz.func61,Tryz.ntmps61
    go_wp2_with fail
    go_region_held3 (fun w'=>w'.cell? ⟨w.heap.size,1,none⟩=some (.int .i64 (j:Int))∧w'.cell? ⟨w.heap.size,2,none⟩=some (.string s)∧w'.cell? ⟨w.heap.size,4,none⟩=some (.int .i64 co)∧w'.cell? ⟨w.heap.size+1,0,none⟩=some (.slice (some ⟨bf,off,none⟩) fs.length fc)∧w'.cell? ⟨bf,off+j*3,none⟩=some (.int .i64 (fl.b:Int))∧w'.cell? ⟨bf,off+j*3+1,none⟩=some (.slice ga fl.gs.length gcj)∧w'.cell? ⟨bf,off+j*3+2,none⟩=some (.slice ra fl.rs.length rcj)) (first | assumption | go_keep) (first
     | (go_at_call 99;refine(HM.out _ KD.out).mono ?_;rintro r wy ⟨rfl,hby⟩;have KY:Hid (Below w2.heap.size w2 wy):=KD.out.trans (hby.mono KD.out.size);have hSy:=HCF.out _ KY.out;clear hby))
    go_wp2_with fail
    go_ret
    exact⟨zf HVV.out,qz B2.out KY.out (by omega)⟩
   ·
    subst hkd
    obtain⟨ns,hns⟩:=HPF.out rfl
    have hns2:=parseF_le hns
    rw[lenB] at hns2
    have hnl:ns.length≤4096:=by omega
    have HVV:Hid (((j7 (qec ns)).any fun r => !mayP fl r)=V):=by unfold Hid;rw[←HVL.out,qhj,if_neg (by omega),if_pos rfl,hns];rfl
    have HSG:=qa (signs_any (w:=w2) 10 (j:Int) ec co s ks.length (A:=A) (c:=c) hns)
    clear HVL HPF hns hns2
    go_enter Tryz.func61,Tryz.ntmps61
    go_wp2_with fail
    refine HSG.out.mono ?_
    rintro r w3 ⟨A3,c3,rfl,hr3,q3⟩
    have HB3:=qa q3
    have hs3:=q3.size
    have HRU:=qa (lruns_any (w:=w3) ns hr3 (by omega))
    clear q3 hr3 HSG
    go_wp2_with fail
    refine HRU.out.mono ?_
    rintro r w4 ⟨A4,c4,rfl,hr4,q4⟩
    have HB4:=qa (qz HB3.out q4 hs3)
    have hs4:=HB4.out.size
    have HC:=qa (has_run (w:=w4) (B0:=w.heap.size+1) (B1:=w.heap.size) hr4 (qc _) (fun x => !mayP fl x) (fun x hx W hW=>by
     have hWW:=qz HB4.out hW hs4
     have hS:=HCF.out W hWW
     have hxl:=run_le hx
     exact lit_run hS.2.2.2.1 hS.1 rfl hjl (by omega) hS.2.2.2.2.1 hS.2.2.2.2.2.1 hS.2.2.2.2.2.2 (HMAY.out W hWW x (by omega))))
    rw[yo] at HC
    rw[HVV.out] at HC
    clear q4 hr4 HRU
    go_wp2_with fail
    refine HC.out.mono ?_
    rintro r w5 ⟨rfl,q5⟩
    have HB5:=qa (qz (qz B2.out HB4.out (by omega)) q5 (by omega))
    clear q5
    go_wp2_with fail
    go_ret
    exact⟨rfl,HB5.out⟩
   ·
    subst hkd
    have HVV:Hid (V=false):=by unfold Hid;rw[←HVL.out,qhj,if_neg (by omega),if_neg (by decide)]
    clear HVL HMAY HCF
    go_enter Tryz.func61,Tryz.ntmps61
    go_wp2_with fail
    go_ret
    exact⟨zf HVV.out.symm,B2.out⟩
theorem nskip_any{w:World}{p:Pr}{A fA:Option Addr}{c fc:Nat}{gA rA:Nat→Option Addr}{gc rc:Nat→Nat}{fs:List Fl}(ho:PrOk p)(hk:Kin w 0 w.heap.size p.kids A c)(hf:Fls w 0 w.heap.size fA fc fs gA gc rA rc)(hfo:∀f∈fs,FilG f.b f.gs f.rs)(hp:uv p fs.length 12=true) :
  Calls Tryz.prog 27 #[.agg #[.int .i64 p.kind,.int .i64 p.col,.string p.s,.int .i64 p.esc,.int .i64 p.coll,.slice A p.kids.length c],.slice fA fs.length fc] w fun r w'=>r= .returned (.bool (qhr p fs))∧Below w.heap.size w w':=by
 obtain⟨w1,hw1⟩:∃w1,w.alloc (.cells #[.int .i64 p.kind,.int .i64 p.col,.string p.s,.int .i64 p.esc,.int .i64 p.coll,.slice A p.kids.length c] 55)=w1:=⟨_,rfl⟩
 have B1:Hid (Below w.heap.size w w1):=by unfold Hid;rw[←hw1];exact(Below.refl _ w).alloc (qc _) _
 have hb:j6 w1 w.heap.size 55 #[.int .i64 p.kind,.int .i64 p.col,.string p.s,.int .i64 p.esc,.int .i64 p.coll,.slice A p.kids.length c]:=by rw[←hw1];exact j6.new w _ _
 have hs1:w1.heap.size=w.heap.size+1:=by rw[←hw1];simp
 have HBK:Hid (∀W,Below w1.heap.size w1 W→j6 W w.heap.size 55 #[.int .i64 p.kind,.int .i64 p.col,.string p.s,.int .i64 p.esc,.int .i64 p.coll,.slice A p.kids.length c]):=fun W hW=>hb.below hW (by omega)
 have b0:w1.cell? ⟨w.heap.size,0,none⟩=some (.int .i64 p.kind):=hb.cell 0
 have b1:w1.cell? ⟨w.heap.size,1,none⟩=some (.int .i64 p.col):=hb.cell 1
 have b2:w1.cell? ⟨w.heap.size,2,none⟩=some (.string p.s):=hb.cell 2
 have b3:w1.cell? ⟨w.heap.size,3,none⟩=some (.int .i64 p.esc):=hb.cell 3
 have b4:w1.cell? ⟨w.heap.size,4,none⟩=some (.int .i64 p.coll):=hb.cell 4
 have b5:w1.cell? ⟨w.heap.size,5,none⟩=some (.slice A p.kids.length c):=hb.cell 5
 have HR:=qa (qrf p (w:=w1) fs.length 12 ho (hk.kept B1.out (qc _)) (by omega) (by decide) (by decide))
 rw[hp] at HR
 have HC:Hid (∀W,Below w1.heap.size w1 W→Calls Tryz.prog 61 #[.agg #[.int .i64 p.kind,.int .i64 p.col,.string p.s,.int .i64 p.esc,.int .i64 p.coll,.slice A p.kids.length c],.slice fA fs.length fc] W fun r w'=>r= .returned (.bool (qhr p fs))∧Below W.heap.size W w'):=fun W hW =>
  nskipr_any p fs 12 ho ((hk.kept B1.out (qc _)).kept hW (by omega)) ((hf.below B1.out (qc _)).below hW (by omega)) (by have:=hW.size;omega) (by have:=hW.size;omega) hfo hp
 have HRR:=qa (nright_any (w:=w1) ho (Kin.wide (qc _) (by omega) (hk.kept B1.out (qc _))) fs.length)
 rw[hp] at HRR
 obtain⟨hr1,hr2⟩:=hf.len
 obtain⟨V,hV⟩:∃V,qhr p fs=V:=⟨_,rfl⟩
 rw[hV] at HC ⊢
 clear hb hV ho hk hf hfo hp HR
 go_enter Tryz.func27,Tryz.ntmps27
 go_wp2_with fail
 refine HRR.out.mono ?_
 rintro r w2 ⟨rfl,q2⟩
 have hk2:=HBK.out w2 q2
 have b0:w2.cell? ⟨w.heap.size,0,none⟩=some (.int .i64 p.kind):=hk2.cell 0
 have b1:w2.cell? ⟨w.heap.size,1,none⟩=some (.int .i64 p.col):=hk2.cell 1
 have b2:w2.cell? ⟨w.heap.size,2,none⟩=some (.string p.s):=hk2.cell 2
 have b3:w2.cell? ⟨w.heap.size,3,none⟩=some (.int .i64 p.esc):=hk2.cell 3
 have b4:w2.cell? ⟨w.heap.size,4,none⟩=some (.int .i64 p.coll):=hk2.cell 4
 have b5:w2.cell? ⟨w.heap.size,5,none⟩=some (.slice A p.kids.length c):=hk2.cell 5
 have HB2:=qa (qz B1.out q2 (by omega))
 have HCC:=qa (HC.out w2 q2)
 have hs2:=HB2.out.size
 clear q2 hk2 HC
 go_wp2_with fail
 refine HCC.out.mono ?_
 rintro r w3 ⟨rfl,q3⟩
 have HB3:=qa (qz HB2.out q3 hs2)
 clear q3
 go_wp2_with fail
 go_ret
 exact⟨rfl,HB3.out⟩
theorem sgskip_v{w:World}{p:Pr}{A:Option Addr}{c lo n:Nat}{r:Gr}{g:GrpS}(ho:PrOk p)(hk:Kin w 0 w.heap.size p.kids A c)(h:GrM w lo r)(hg:r.toS=g)(hok:g.Ok n)(hp:uv p (n:Int) 12=true) :
  Calls Tryz.prog 27 #[.agg #[.int .i64 p.kind,.int .i64 p.col,.string p.s,.int .i64 p.esc,.int .i64 p.coll,.slice A p.kids.length c],.slice r.fA n r.fc] w fun r w'=>r= .returned (.bool (qhr p (qr4 g)))∧Below w.heap.size w w':=by
 have hl:(qr4 g).length=n:=by rw[qr4,q8,hok.len]
 have:=nskip_any ho hk (h.fls hg) (fun f hf => ?_) (by rw[hl];exact hp)
 ·
  rw[hl] at this
  exact this
 ·
  obtain⟨x,hx,rfl⟩:=zn.1 hf
  exact(hok.cols x hx).fil
end Go.Proofs.YtnjkipnklpkaoaaGreat
