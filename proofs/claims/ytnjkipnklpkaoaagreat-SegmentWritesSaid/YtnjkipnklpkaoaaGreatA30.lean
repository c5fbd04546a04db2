/-
  Lemmas.
-/
import Derived.Test.YtnjkipnklpkaoaaGreatA29
import Derived.Test.YtnjkipnklpkaoaaGreatA40
namespace Go.Proofs.YtnjkipnklpkaoaaGreat
open Go.RowKit
set_option maxRecDepth 20000
set_option maxHeartbeats 16000000
set_option linter.unusedSimpArgs false
set_option linter.unusedVariables false
theorem packB_bits{l:List Bool}{ys:List UInt8}(h:qjj l.length (qj4 l l.length) ys):ys=qdg l:=h.2
theorem rbput_any{w:World}(l:List Bool){h':Nat}{A:Option Addr}{c:Nat}(h:Rd w 0 h' A c (lv l))(hh:h'≤w.heap.size)(hlen:l.length≤140737488355328) :
  Calls Tryz.prog 120 #[.slice A l.length c] w fun r w'=>∃A' c',r= .returned (.slice A' (qdg l).length c')∧
   w'.ownsRow w.heap.size 5 1 (.slice A' (qdg l).length c') (qdg l).length (bv (qdg l))∧Below w.heap.size w w':=by
 have hl:=h.len
 have hc:=h.cap
 rw[vk] at hl
 unfold maxLen at hc
 have H:=qa h
 clear h
 go_enter Tryz.func120,Tryz.ntmps120
 go_wp2_with fail
 go_loopw [3,4] (fun b i wr=>∃(n:Nat) (ys:List UInt8) (A':Option Addr) (c':Nat),n≤l.length∧i= .int .i64 (n:Int)∧b= .slice A' ys.length c'∧
   qjj n (qj4 l n) ys∧wr.ownsRow w.heap.size 5 1 (.slice A' ys.length c') ys.length (bv ys)∧Below w.heap.size w wr) (fun _ i _=>l.length-(intOf i).toNat)
 case atStart=>exact⟨0,[],none,0,qi _,rfl,rfl,qrv,zh ..,Below.refl _ _⟩
 case round =>
  obtain⟨n,ys1,A1,c1,hn,rfl,rfl,hin,hown1,hbel1⟩:=hrel
  have HIN:=qa hin
  have HO1:=qa hown1
  have HB1:=qa hbel1
  have hsz1:=hbel1.size
  have hyl:=qek (bitsAt_len hin)
  clear hin hown1 hbel1
  by_cases hlt:n<l.length
  ·
   obtain⟨b,off,rfl,_,hbh0,hcw⟩:=H.out.row hlt
   have hbh:b<w.heap.size:=ja hbh0 hh
   have HCW:=qa hcw
   have HNO:=qa (bsum_no l n hlt)
   have HYES:=qa (bsum_yes l n hlt)
   clear hcw
   generalize l[n]=x at *
   by_cases h8:n%8=0
   ·
    have HOP:=qa (qrd HIN.out h8)
    have hL:(ys1++[0]).length=ys1.length+1:=by simp
    go_wp2_with (at_builtin;refine jab (v:= .slice A1 ys1.length c1) w.heap.size ys1 0 rfl _ _ rfl rfl rfl rfl (by rw[za _ _ _ _ rfl];rfl) (HO1.out.alloc _) (by omega) (by simp;omega) ?_;intro A2 c2 w2 hown2 hgr2;refine qaz ?_)
    refine⟨?_⟩
    have HB2:=qa ((HB1.out.alloc hsz1 _).grown hgr2 (by simp;omega) (fun k hk=>qef HO1.out k hk))
    rw[hL] at hown2
    have HO2:=qa hown2
    have HL:=qa hL
    clear hown2 hgr2 hL
    generalize ys1++[0]=ys2 at *
    generalize hLe:ys1.length+1=L at *
    have hLn:L=n/8+1:=by rw[←HL.out];exact qkj HOP.out
    have hL1:L≤n/8+1:=by omega
    have hL2:n/8<L:=by omega
    have HN8:=qa h8
    clear hLe hLn h8
    obtain⟨g,rfl,hg1,hg2⟩:=qdh HO2.out (by omega)
    have hcell2:w2.cell? ⟨b,off+n,none⟩=some (.bool x):=(HB2.out.cell (p:=⟨b,off+n,none⟩) hbh).trans HCW.out
    cases x
    ·
     have HNX:=HNO.out rfl
     clear HNO HYES
     go_wp2
     go_roundw
     case rel =>
      refine⟨n+1,ys2,some ⟨g,0,none⟩,c2,by omega,by go_num,?_,?_,?_,HB2.out⟩
      ·
       rw[HL.out]
      ·
       rw[HNX];exact qi8 HOP.out
      ·
       rw[HL.out];exact HO2.out
     case measure=>simp[intOf];omega
    ·
     have HNX:=HYES.out rfl
     clear HNO HYES
     have HNXH:=qa HNX
     clear HNX
     go_wp2_with fail
     have hy0:n/8<ys2.length:=by rw[HL.out];exact hL2
     obtain⟨y0,hy0e⟩:∃y0,ys2[n/8]? = some y0:=⟨_,qe hy0⟩
     have hload:w2.drew.cell? ⟨g,n/8,none⟩=some (.int .u8 (y0.toNat:Int)):=by
      have h1:=HO2.out.cellAt (n/8) (by omega)
      have h2:(bv ys2)[n/8]? = some (.int .u8 (y0.toNat:Int)):=by simp[bv,hy0e]
      exact h1.trans h2
     have hfr:w2.drew.frozen? ⟨g,n/8,none⟩=false:=HO2.out.frozenAt (n/8)
     have HO3:Hid (w2.drew.ownsRow w.heap.size 5 1 (.slice (some ⟨g,0,none⟩) L c2) L (bv ys2)):=HO2.out
     have HB3:Hid (Below w.heap.size w w2.drew):=zg HB2.out 1
     have HP3:=qa (qgc (w:=w2.drew) (n%8) (by omega))
     have hn8:(n:Int)/8=((n/8:Nat):Int):=by omega
     have hn8':(n:Int)%8=((n%8:Nat):Int):=by omega
     have hn8t:(n:Int).tmod 8=((n%8:Nat):Int):=by rw[qal (by omega)];omega
     have HW:=qa (qir HOP.out y0 hy0e)
     have hyb:=HW.out.1
     have hy256:=zp y0
     generalize 2 ^ (n%8)=pr at *
     refine wp_region_still_tail 13 (by kernel_rfl) (by kernel_rfl) ?_
     change wpStill _ _ w2.drew (fun a'=>wpList _ _ _ _ a' w2.drew) _ _
     generalize w2.drew=w4 at *
     generalize hq8:n/8=q at *
     generalize hr8:n%8=r at *
     clear hq8 hr8
     simp only[jn,y8,vt,jx]
     have hqw:IntKind.i64.wrap (q:Int)=(q:Int):=z8 _ (by omega)
     have hrw:IntKind.i64.wrap (r:Int)=(r:Int):=z8 _ (by omega)
     have hpw:IntKind.u8.wrap (pr:Int)=(pr:Int):=by rw[IntKind.wrap_u8];omega
     have hsum:IntKind.u8.wrap ((y0.toNat:Int)+(pr:Int))=((y0.toNat+pr:Nat):Int):=by rw[IntKind.wrap_u8];omega
     repeat still_step
     refine wpStill_step (fun K hK => ?_)
     go_simp
     refine⟨_,HP3.out.mono fun _ _ ⟨a,b⟩=>⟨a,b.symm⟩,hK _ ?_⟩
     clear hK K
     repeat still_step
     refine wpStill_nil ?_
     go_wp2
     go_roundw
     case rel =>
      have hst:=HO3.out.stored q (.int .u8 ((y0.toNat:Int)+(pr:Int)))
      have hbn:(UInt8.ofNat (y0.toNat+pr)).toNat=y0.toNat+pr:=by rw[xh];omega
      have hbs:bv (ys2.set q (UInt8.ofNat (y0.toNat+pr)))=(bv ys2).set q (.int .u8 ((y0.toNat:Int)+(pr:Int))):=by
       rw[bv_set,hbn]
       congr 2
      have hls:(ys2.set q (UInt8.ofNat (y0.toNat+pr))).length=L:=by rw[xt,HL.out]
      refine⟨n+1,ys2.set q (UInt8.ofNat (y0.toNat+pr)),some ⟨g,0,none⟩,c2,by omega,by go_num,?_,?_,?_,HB3.out.setCell (by simpa using hg1) _⟩
      ·
       rw[hls]
      ·
       rw[HNXH.out];exact HW.out.2
      ·
       rw[hls,hbs];exact hst.1
     case measure=>simp[intOf] <;> omega
   ·
    have HOP:=qa (qrc HIN.out h8)
    have HB2:=qa HB1.out
    have hL:=qkj HOP.out
    generalize hLe:ys1.length=L at *
    have HL:=qa hLe
    have hL1:L≤n/8+1:=by omega
    have hL2:n/8<L:=by omega
    have HO2:=qa HO1.out
    have HN8:=qa h8
    have hn80:((n:Int)%8==0)=false:=by rw[qr];omega
    clear hLe hL h8 HO1
    obtain⟨g,rfl,hg1,hg2⟩:=qdh HO2.out (by omega)
    have hcell2:wr.cell? ⟨b,off+n,none⟩=some (.bool x):=(HB2.out.cell (p:=⟨b,off+n,none⟩) hbh).trans HCW.out
    cases x
    ·
     have HNX:=HNO.out rfl
     clear HNO HYES
     go_wp2
     go_roundw
     case rel =>
      refine⟨n+1,ys1,some ⟨g,0,none⟩,c1,by omega,by go_num,?_,?_,?_,HB2.out⟩
      ·
       rw[HL.out]
      ·
       rw[HNX];exact qi8 HOP.out
      ·
       rw[HL.out];exact HO2.out
     case measure=>simp[intOf];omega
    ·
     have HNX:=HYES.out rfl
     clear HNO HYES
     have HNXH:=qa HNX
     clear HNX
     go_wp2_with fail
     have hy0:n/8<ys1.length:=by rw[HL.out];exact hL2
     obtain⟨y0,hy0e⟩:∃y0,ys1[n/8]? = some y0:=⟨_,qe hy0⟩
     have hload:wr.drew.cell? ⟨g,n/8,none⟩=some (.int .u8 (y0.toNat:Int)):=by
      have h1:=HO2.out.cellAt (n/8) (by omega)
      have h2:(bv ys1)[n/8]? = some (.int .u8 (y0.toNat:Int)):=by simp[bv,hy0e]
      exact h1.trans h2
     have hfr:wr.drew.frozen? ⟨g,n/8,none⟩=false:=HO2.out.frozenAt (n/8)
     have HO3:Hid (wr.drew.ownsRow w.heap.size 5 1 (.slice (some ⟨g,0,none⟩) L c1) L (bv ys1)):=HO2.out
     have HB3:Hid (Below w.heap.size w wr.drew):=zg HB2.out 1
     have HP3:=qa (qgc (w:=wr.drew) (n%8) (by omega))
     have hn8:(n:Int)/8=((n/8:Nat):Int):=by omega
     have hn8':(n:Int)%8=((n%8:Nat):Int):=by omega
     have hn8t:(n:Int).tmod 8=((n%8:Nat):Int):=by rw[qal (by omega)];omega
     have HW:=qa (qir HOP.out y0 hy0e)
     have hyb:=HW.out.1
     have hy256:=zp y0
     generalize 2 ^ (n%8)=pr at *
     refine wp_region_still_tail 13 (by kernel_rfl) (by kernel_rfl) ?_
     change wpStill _ _ wr.drew (fun a'=>wpList _ _ _ _ a' wr.drew) _ _
     generalize wr.drew=w4 at *
     generalize hq8:n/8=q at *
     generalize hr8:n%8=r at *
     clear hq8 hr8
     simp only[jn,y8,vt,jx]
     have hqw:IntKind.i64.wrap (q:Int)=(q:Int):=z8 _ (by omega)
     have hrw:IntKind.i64.wrap (r:Int)=(r:Int):=z8 _ (by omega)
     have hpw:IntKind.u8.wrap (pr:Int)=(pr:Int):=by rw[IntKind.wrap_u8];omega
     have hsum:IntKind.u8.wrap ((y0.toNat:Int)+(pr:Int))=((y0.toNat+pr:Nat):Int):=by rw[IntKind.wrap_u8];omega
     repeat still_step
     refine wpStill_step (fun K hK => ?_)
     go_simp
     refine⟨_,HP3.out.mono fun _ _ ⟨a,b⟩=>⟨a,b.symm⟩,hK _ ?_⟩
     clear hK K
     repeat still_step
     refine wpStill_nil ?_
     go_wp2
     go_roundw
     case rel =>
      have hst:=HO3.out.stored q (.int .u8 ((y0.toNat:Int)+(pr:Int)))
      have hbn:(UInt8.ofNat (y0.toNat+pr)).toNat=y0.toNat+pr:=by rw[xh];omega
      have hbs:bv (ys1.set q (UInt8.ofNat (y0.toNat+pr)))=(bv ys1).set q (.int .u8 ((y0.toNat:Int)+(pr:Int))):=by
       rw[bv_set,hbn]
       congr 2
      have hls:(ys1.set q (UInt8.ofNat (y0.toNat+pr))).length=L:=by rw[xt,HL.out]
      refine⟨n+1,ys1.set q (UInt8.ofNat (y0.toNat+pr)),some ⟨g,0,none⟩,c1,by omega,by go_num,?_,?_,?_,HB3.out.setCell (by simpa using hg1) _⟩
      ·
       rw[hls]
      ·
       rw[HNXH.out];exact HW.out.2
      ·
       rw[hls,hbs];exact hst.1
     case measure=>simp[intOf] <;> omega
  ·
   obtain rfl:n=l.length:=by omega
   have HE:=qa (packB_bits HIN.out)
   go_wp2
   go_ret
   rw[←HE.out]
   exact⟨A1,c1,rfl,HO1.out,HB1.out⟩
theorem qq4{w:World}(l:List Bool){h':Nat}{A:Option Addr}{c:Nat}(h:Rd w 0 h' A c (lv l))(hh:h'≤w.heap.size)(hlen:l.length≤140737488355328) :
  Calls Tryz.prog 74 #[.slice A l.length c] w fun r w'=>∃A' c',r= .returned (.slice A' (xe l).length c')∧
   w'.ownsRow w.heap.size 5 1 (.slice A' (xe l).length c') (xe l).length (bv (xe l))∧Below w.heap.size w w':=by
 have HE:Hid (jo l.length++qdg l=xe l):=rfl
 have h9:=vo l.length (by omega)
 have hpl:(qdg l).length≤140737488355328/8+1:=by rw[qfb];omega
 have HP:=fun(w1:World) (h:Rd w1 0 h' A c (lv l)) (hh:h'≤w1.heap.size)=>qa (rbput_any (w:=w1) (A:=A) (c:=c) l h hh hlen)
 have H:=qa h
 have hl:=h.len
 have hc:=h.cap
 rw[vk] at hl
 unfold maxLen at hc
 clear h
 generalize qdg l=pk at *
 go_enter Tryz.func74,Tryz.ntmps74
 go_wp2_with fail
 refine(qbf l.length (by omega)).mono ?_
 rintro r w1 ⟨A1,c1,rfl,ho1,hb1⟩
 have HO1:=qa ho1
 have HB1:=qa hb1
 have s1:=hb1.size
 clear ho1 hb1
 generalize jo l.length=pl at *
 go_wp2_with fail
 refine(HP w1 (H.out.below HB1.out hh) (by omega)).out.mono ?_
 rintro r w2 ⟨A2,c2,rfl,ho2,hb2⟩
 have HO2:=qa ho2
 have HB2:=qa (qz HB1.out hb2 s1)
 have s2:=hb2.size
 obtain⟨A3,c3,w3,hrun3,ho3,hg3⟩:=j9 w2 w.heap.size _ pl pk (xe l) HE.out (js HO1.out hb2 (qc _)) (Rd.own ho2) (by omega) (by omega)
 have HO3:=qa ho3
 have HB3:=qa (HB2.out.grown hg3 HB2.out.size (fun k hk=>qef HO1.out k hk))
 clear ho2 hb2 ho3 hg3
 go_wp2_with (at_builtin;refine wpList_append_run rfl _ _ _ _ rfl rfl rfl hrun3 ?_)
 go_ret
 exact⟨A3,c3,rfl,HO3.out,HB3.out⟩
theorem writeg_bits{w:World}{hi b:Nat}{v:Value}{gs:List Nat}{rs:List Bool}(h:qok w 0 hi v b gs rs)(hhi:hi≤w.heap.size)(hb0:0<b)(hb:b≤70000)(hrs:rs.length≤1000000) :
  Calls Tryz.prog 40 #[v] w fun r w'=>∃A' c',r= .returned (.slice A' (y7 b gs rs).length c')∧w'.ownsRow w.heap.size 5 1 (.slice A' (y7 b gs rs).length c') (y7 b gs rs).length (bv (y7 b gs rs))∧Below w.heap.size w w':=by
 obtain⟨A,c,B,d,rfl,h1,h2⟩:=h
 rw[show y7 b gs rs=jo b++xe rs from if_pos hb0]
 obtain⟨w1,hw1⟩:∃w1,w.alloc (.cells #[.int .i64 (b:Int),.slice A gs.length c,.slice B rs.length d] 67)=w1:=⟨_,rfl⟩
 have B1:Hid (Below w.heap.size w w1):=by unfold Hid;rw[←hw1];exact(Below.refl _ w).alloc (qc _) _
 have hk:j6 w1 w.heap.size 67 #[.int .i64 (b:Int),.slice A gs.length c,.slice B rs.length d]:=by rw[←hw1];exact j6.new w _ _
 have hs1:w1.heap.size=w.heap.size+1:=by rw[←hw1];simp
 have hc0:w1.cell? ⟨w.heap.size,0,none⟩=some (.int .i64 (b:Int)):=hk.cell 0
 have HC0:Hid (∀W,Below w1.heap.size w1 W→W.cell? ⟨w.heap.size,0,none⟩=some (.int .i64 (b:Int))∧W.cell? ⟨w.heap.size,1,none⟩=some (.slice A gs.length c)∧W.cell? ⟨w.heap.size,2,none⟩=some (.slice B rs.length d)):=fun W hW=>by
  have hk:=hk.below hW (by omega)
  exact⟨hk.cell 0,hk.cell 1,hk.cell 2⟩
 have ib0:(0:Int)<(b:Int):=by omega
 have HPU:Hid (∀W,Below w1.heap.size w1 W→Calls Tryz.prog 38 #[.int .i64 (b:Int)] W fun r w'=>∃A c,r= .returned (.slice A (jo b).length c)∧w'.ownsRow W.heap.size 5 1 (.slice A (jo b).length c) (jo b).length (bv (jo b))∧Below W.heap.size W w'):=fun W _=>qbf b (by omega)
 have HWR:Hid (∀W,Below w1.heap.size w1 W→Calls Tryz.prog 74 #[.slice B rs.length d] W fun r w'=>∃A' c',r= .returned (.slice A' (xe rs).length c')∧w'.ownsRow W.heap.size 5 1 (.slice A' (xe rs).length c') (xe rs).length (bv (xe rs))∧Below W.heap.size W w'):=fun W hW =>
  qq4 rs (((h2.below B1.out hhi).below hW (by omega)).wide (qi _) (qc _)) (by have:=hW.size;omega) (by omega)
 obtain⟨V,hV⟩:∃V,jo b++xe rs=V:=⟨_,rfl⟩
 rw[hV]
 have HV:=qa hV
 have HWL:Hid ((jo b).length+(xe rs).length≤10000000):=by
  have h3:=vo b (by omega)
  have h4:=qfn rs (by omega)
  unfold Hid
  omega
 have S0:Hid (w1.heap.size≤w1.drew.heap.size):=qc _
 clear h1 h2 hk hV
 generalize xe rs=wb at *
 generalize jo b=pb at *
 go_enter Tryz.func40,Tryz.ntmps40
 go_wp2_with fail
 refine wp_region_held_drew (S:=fun w'=>Below w1.heap.size w1 w') (by kernel_rfl) (Below.drew (Below.refl _ _)) (fun hHeld => ?_)
 refine tk 0 ?_ rfl hHeld ?_ ?_
 rotate_left
 focus (intro W hSw;go_simp;try with_reducible rfl)
 try simp only[jv,Act.put]
 refine tk 1 ?_ rfl hHeld ?_ ?_
 rotate_left
 focus (intro W hSw;have hcv0:=(HC0.out W hSw).1;have hcv1:=(HC0.out W hSw).2.1;have hcv2:=(HC0.out W hSw).2.2;go_simp;try with_reducible rfl)
 try simp only[jv,Act.put]
 refine tk 3 ?_ rfl hHeld ?_ ?_
 rotate_left
 focus (intro W hSw;go_simp;try with_reducible rfl)
 try simp only[jv,Act.put]
 refine tk 4 ?_ rfl hHeld ?_ ?_
 rotate_left
 focus (intro W hSw;have hcv0:=(HC0.out W hSw).1;have hcv1:=(HC0.out W hSw).2.1;have hcv2:=(HC0.out W hSw).2.2;go_simp;try with_reducible rfl)
 try simp only[jv,Act.put]
 refine wpAnyH_ready (rs:=[2]) (by kernel_rfl) (by simp) ?_
 refine zc (o:=_) rfl (fun K hK => ?_) zm
 go_simp
 refine(HPU.out _ hHeld).mono ?_
 rintro r w2 ⟨A2,c2,rfl,ho2,b2⟩
 have HO2:=qa ho2
 have B2:=qa (qz hHeld b2 hHeld.size)
 have S2:=b2.size
 clear ho2 b2
 refine hK.out _ _ B2.out (fun hHeld => ?_)
 clear hK K
 try simp only[jv,Act.put]
 refine wpAnyH_ready (rs:=[5]) (by kernel_rfl) (by simp) ?_
 refine zc (o:=_) rfl (fun K hK => ?_) zm
 go_simp
 refine(HWR.out _ hHeld).mono ?_
 rintro r w3 ⟨A3,c3,rfl,ho3,b3⟩
 have HO3:=qa (Rd.of_own ho3)
 have HO23:=qa (js HO2.out b3 (qc _))
 have B3:=qa (qz B2.out b3 B2.out.size)
 have S3:=b3.size
 clear ho3 b3
 obtain⟨A4,c4,w4,hrun,ho4,hg4⟩:=j9 w3 w1.heap.size _ pb wb V HV.out (j4 HO23.out S0.out) HO3.out (by have:=HWL.out;omega) B3.out.size
 have HO4:=qa ho4
 have B4:=qa (B3.out.grown hg4 B3.out.size (fun q hq=>(zk (j4 HO23.out S0.out) hq).1))
 clear ho4 hg4
 refine hK.out _ _ B3.out (fun hHeld => ?_)
 clear hK K
 try simp only[jv,Act.put]
 refine wpAnyH_ready (rs:=[6]) (by kernel_rfl) (by simp) ?_
 refine zc (o:=_) rfl (fun K hK => ?_) zm
 refine qag (.tmp 10) (.tmp 13) _ _ rfl rfl rfl hrun ?_
 refine hK.out _ _ B4.out (fun hHeld => ?_)
 clear hK K
 try simp only[jv,Act.put]
 refine tk 7 ?_ rfl hHeld ?_ ?_
 rotate_left
 focus (intro W hSw;go_simp;try with_reducible rfl)
 try simp only[jv,Act.put]
 refine wpAnyH_done (by kernel_rfl) ?_ _
 go_wp2_with fail
 go_ret
 exact⟨A4,c4,rfl,j4 HO4.out (by omega),qz B1.out B4.out (by omega)⟩
theorem writeg_list{w:World}{hi:Nat}{v:Value}{gs:List Nat}{rs:List Bool}(h:qok w 0 hi v 0 gs rs)(hhi:hi≤w.heap.size)(hgl:gs.length≤100000000)(hup:gs.Pairwise (· < ·))(hlt:∀g∈gs,g<16777216) :
  Calls Tryz.prog 40 #[v] w fun r w'=>∃A' c',r= .returned (.slice A' (y7 0 gs rs).length c')∧w'.ownsRow w.heap.size 5 1 (.slice A' (y7 0 gs rs).length c') (y7 0 gs rs).length (bv (y7 0 gs rs))∧Below w.heap.size w w':=by
 obtain⟨A,c,B,d,rfl,h1,h2⟩:=h
 rw[show y7 0 gs rs=jo 0++jq (yp gs) from if_neg (qaq 0),show((0:Nat):Int)=0 from rfl]
 have hl:=h1.len
 have hm:=h1.cap
 rw[ji,zj] at hl
 unfold maxLen at hm
 have HMAY:=qa (qfy hup hlt)
 have HLT:Hid (∀k (hk:k<gs.length),gs[k]<16777216):=fun k hk=>hlt _ (qj hk)
 obtain⟨w1,hw1⟩:∃w1,w.alloc (.cells #[.int .i64 0,.slice A gs.length c,.slice B rs.length d] 67)=w1:=⟨_,rfl⟩
 have B1:Hid (Below w.heap.size w w1):=by unfold Hid;rw[←hw1];exact(Below.refl _ w).alloc (qc _) _
 have hk:j6 w1 w.heap.size 67 #[.int .i64 0,.slice A gs.length c,.slice B rs.length d]:=by rw[←hw1];exact j6.new w _ _
 have hs1:w1.heap.size=w.heap.size+1:=by rw[←hw1];simp
 have hc0:w1.cell? ⟨w.heap.size,0,none⟩=some (.int .i64 0):=hk.cell 0
 have HC1:Hid (∀W,Below w1.heap.size w1 W→W.cell? ⟨w.heap.size,1,none⟩=some (.slice A gs.length c)):=fun W hW=>(hk.below hW (by omega)).cell 1
 have HG1:=qa (h1.below B1.out hhi)
 have HSL:=qa (ya gs)
 clear h1 h2 hk hup hlt
 go_enter Tryz.func40,Tryz.ntmps40
 go_wp2_with fail
 go_loopw [3,4] (fun x3 x4 wr=>∃(k:Nat) (ys:List Int) (A':Option Addr) (c':Nat),k≤gs.length∧x4= .int .i64 (k:Int)∧x3= .slice A' k c'∧ys=(yp gs).take k∧ys.length=k∧
  wr.ownsRow w1.heap.size 3 1 (.slice A' k c') k (iv ys)∧Below w1.heap.size w1 wr) (fun _ x4 _=>gs.length-(intOf x4).toNat)
 case atStart=>exact⟨0,[],none,0,qi _,rfl,rfl,by simp,rfl,zh _ _ _ _,Below.refl _ _⟩
 case round =>
  obtain⟨k,ys,A',c',hk,rfl,rfl,hys,hyl,hown,hb⟩:=hrel
  obtain⟨wz,hwz⟩:∃wz,wz=wr:=⟨_,rfl⟩
  subst hwz
  have HYS:=qa hys
  have HYL:=qa hyl
  have HO:=qa hown
  have HB:=qa hb
  have hsz:=hb.size
  have hcf:wz.cell? ⟨w.heap.size,1,none⟩=some (.slice A gs.length c):=HC1.out wz hb
  clear hys hyl hown hb
  by_cases hkl:k<gs.length
  ·
   have ik:(k:Int)<(gs.length:Int):=by omega
   have HTK:Hid ((yp gs).take (k+1)=(yp gs).take k++[(yp gs)[k]'(by rw[HSL.out];exact hkl)]):=qg _
   obtain⟨bb,off,rfl,_,hbb,hcell⟩:=((HG1.out.below HB.out (by omega)).wide (qc _) (qc _)).nat hkl
   rcases jr k with hk0 | hk0
   ·
    have HS0:Hid ((yp gs)[k]'(by rw[HSL.out];exact hkl)=((gs[k]:Nat):Int)):=by
     unfold Hid
     have:=qlh gs (by omega)
     simp only[hk0]
     exact this
    have hcell0:wz.cell? ⟨bb,off,none⟩=some (.int .i64 ((gs[k]:Nat):Int)):=by
     have hoff:off+k=off:=by omega
     rw[hoff] at hcell
     exact hcell
    obtain⟨z,hz⟩:∃z,gs[k]=z:=⟨_,rfl⟩
    rw[hz] at hcell0 HS0
    rw[HS0.out] at HTK
    have ik1:((k:Int)==0)=true:=by rw[hk0];rfl
    have HK0:=qa hk0
    clear hz hcell hk0
    go_wp2_with (at_builtin;refine qa4 (v:= .slice A' k c') w1.heap.size ys (z:Int) rfl _ _ rfl rfl rfl rfl (by rw[za _ _ _ _ rfl];rfl) (by have:=HO.out.alloc (.cells #[.int .i64 (z:Int)] 3);rw[HYL.out];exact this) (by rw[HYL.out];omega) (by simp;omega) ?_;intro A2 c2 w2 ho2 hg2;refine qaz ?_)
    have hb2:Below w1.heap.size w1 w2:=(HB.out.alloc hsz _).grown hg2 (by simp;omega) (fun q hq=>(zk HO.out hq).1)
    obtain⟨zs,hzs⟩:∃zs,ys++[(z:Int)]=zs:=⟨_,rfl⟩
    rw[hzs] at ho2
    have hzl:zs.length=k+1:=by rw[←hzs,qd,HYL.out];rfl
    have HZS:Hid (zs=(yp gs).take (k+1)):=by unfold Hid;rw[←hzs,HTK.out,HYS.out]
    have HZV:Hid (Value.slice A2 (ys.length+1) c2= .slice A2 (k+1) c2):=by unfold Hid;rw[HYL.out]
    rw[hzl] at ho2
    have HZL:=qa hzl
    have HO2:=qa ho2
    have HB2:=qa hb2
    clear ho2 hg2 hb2 hzs hzl
    refine⟨?_⟩
    go_wp2_with fail
    go_roundw
    case rel=>exact⟨k+1,zs,A2,c2,by omega,by go_num,HZV.out,HZS.out,HZL.out,HO2.out,HB2.out⟩
    case measure=>simp[intOf] <;> omega
   ·
    obtain⟨j,rfl⟩:∃j,k=j+1:=⟨k-1,by omega⟩
    have ik0:¬((j:Int)+1)=0:=by omega
    have lj:(0:Int)≤(j:Int)+1:=by omega
    have lj2:(j:Int)<(gs.length:Int):=by omega
    have ik1:(((j:Int)+1)==0)=false:=by rw[qr];exact ik0
    obtain⟨b2,off2,he,_,_,hcell2⟩:=(HG1.out.below HB.out (by omega)).nat (k:=j) (by omega)
    injection he with he
    injection he with he1 he2
    subst he1 he2
    have HS1:=qa (qli gs j hkl)
    have hx1:=HLT.out (j+1) hkl
    have hx0:=HLT.out j (by omega)
    obtain⟨x,hx⟩:∃x,gs[j+1]=x:=⟨_,rfl⟩
    obtain⟨y,hy⟩:∃y,gs[j]'(by omega)=y:=⟨_,rfl⟩
    rw[hx] at hcell HS1 hx1
    rw[hy] at hcell2 HS1 hx0
    rw[HS1.out] at HTK
    obtain⟨z,hz⟩:∃z:Int,(x:Int)-(y:Int)=z:=⟨_,rfl⟩
    rw[hz] at HTK
    have hzw:IntKind.i64.wrap ((x:Int)-(y:Int))=z:=by rw[z8 _ (by omega)];exact hz
    have hjw:IntKind.i64.wrap ((j:Int)+1-1)=(j:Int):=by rw[z8 _ (by omega)];omega
    have hjw2:IntKind.i64.wrap (j:Int)=(j:Int):=z8 _ (by omega)
    have HCF:Hid (∀W,Below w1.heap.size w1 W→W.cell? ⟨w.heap.size,1,none⟩=some (.slice (some ⟨bb,off,none⟩) gs.length c)):=HC1.out
    have HCA:Hid (∀W,Below w1.heap.size w1 W→W.cell? ⟨bb,off+(j+1),none⟩=some (.int .i64 (x:Int))):=fun W hW=>(hW.cell (by show bb<_;omega)).trans ((HB.out.cell (p:=⟨bb,off+(j+1),none⟩) (by show bb<_;omega)).symm.trans hcell)
    have HCB:Hid (∀W,Below w1.heap.size w1 W→W.cell? ⟨bb,off+j,none⟩=some (.int .i64 (y:Int))):=fun W hW=>(hW.cell (by show bb<_;omega)).trans ((HB.out.cell (p:=⟨bb,off+j,none⟩) (by show bb<_;omega)).symm.trans hcell2)
    obtain⟨zs,hzs⟩:∃zs,ys++[z]=zs:=⟨_,rfl⟩
    have hzl:zs.length=j+1+1:=by rw[←hzs,qd,HYL.out];rfl
    have hod:(wz.drew.alloc (.cells #[.int .i64 z] 3)).ownsRow w1.heap.size 3 1 (.slice A' (j+1) c') ys.length (iv ys):=by
     rw[HYL.out]
     exact World.ownsRow.alloc (w:=wz.drew) (ju HO.out (fun _ _=>rfl)) _
    obtain⟨A7,c7,w7,hrun,ho7,hg7⟩:=qmc (wz.drew.alloc (.cells #[.int .i64 z] 3)) w1.heap.size _ ys [z] zs hzs hod (rd_num1 (qio wz.drew 3 (.int .i64 z))) (by rw[HYL.out];simp;omega) (by simp;omega)
    have B7:Hid (Below w1.heap.size w1 w7):=((HB.out.drew).alloc (by exact hsz) _).grown hg7 (by simp;omega) (fun q hq=>(zk hod hq).1)
    rw[hzl] at ho7 hrun
    have HZS:Hid (zs=(yp gs).take (j+1+1)):=by unfold Hid;rw[←hzs,HTK.out,HYS.out]
    have HZL:=qa hzl
    have HO7:=qa ho7
    have HZ:=qa hz
    clear ho7 hg7 hzl hzs hod hz
    go_wp2_with fail
    refine wp_region_held_drew (S:=fun w'=>Below w1.heap.size w1 w') (by kernel_rfl) (Below.drew HB.out) (fun hHeld => ?_)
    refine tk 0 ?_ rfl hHeld ?_ ?_
    rotate_left
    focus (intro W hSw;go_simp;try with_reducible rfl)
    try simp only[jv,Act.put]
    refine tk 1 ?_ rfl hHeld ?_ ?_
    rotate_left
    focus (intro W hSw;go_simp;try with_reducible rfl)
    try simp only[jv,Act.put]
    refine tk 2 ?_ rfl hHeld ?_ ?_
    rotate_left
    focus (intro W hSw;have hcv1:=HCF.out W hSw;go_simp;try with_reducible rfl)
    try simp only[jv,Act.put]
    refine tk 3 ?_ rfl hHeld ?_ ?_
    rotate_left
    focus (intro W hSw;go_simp;try with_reducible rfl)
    try simp only[jv,Act.put]
    refine tk 4 ?_ rfl hHeld ?_ ?_
    rotate_left
    focus (intro W hSw;go_simp;try with_reducible rfl)
    try simp only[jv,Act.put]
    refine tk 5 ?_ rfl hHeld ?_ ?_
    rotate_left
    focus (intro W hSw;have hcv2:=HCA.out W hSw;go_simp;try with_reducible rfl)
    try simp only[jv,Act.put]
    refine tk 6 ?_ rfl hHeld ?_ ?_
    rotate_left
    focus (intro W hSw;go_simp;try with_reducible rfl)
    try simp only[jv,Act.put]
    refine tk 7 ?_ rfl hHeld ?_ ?_
    rotate_left
    focus (intro W hSw;have hcv1:=HCF.out W hSw;go_simp;try with_reducible rfl)
    try simp only[jv,Act.put]
    refine tk 8 ?_ rfl hHeld ?_ ?_
    rotate_left
    focus (intro W hSw;go_simp;try with_reducible rfl)
    try simp only[jv,Act.put]
    refine wpAnyH_take (i:=9) (oi:=_) (v:= .int .i64 (j:Int)) rfl (by kernel_rfl) (by kernel_rfl) (by kernel_rfl) (fun _ _ _ h=>h) (Or.inl ⟨by rfl,?_⟩) hHeld ?_
    focus (intro W hSw;go_simp;try with_reducible rfl)
    try simp only[jv,Act.put]
    refine tk 10 ?_ rfl hHeld ?_ ?_
    rotate_left
    focus (intro W hSw;go_simp;try with_reducible rfl)
    try simp only[jv,Act.put]
    refine tk 11 ?_ rfl hHeld ?_ ?_
    rotate_left
    focus (intro W hSw;have hcv2:=HCB.out W hSw;go_simp;try with_reducible rfl)
    try simp only[jv,Act.put]
    refine wpAnyH_take (i:=12) (oi:=_) (v:= .int .i64 z) rfl (by kernel_rfl) (by kernel_rfl) (by kernel_rfl) (fun _ _ _ h=>h) (Or.inl ⟨by rfl,?_⟩) hHeld ?_
    focus (intro W hSw;go_simp;try with_reducible rfl)
    try simp only[jv,Act.put]
    refine wpAnyH_ready (rs:=[13]) (by kernel_rfl) (by simp) ?_
    refine zc (o:=_) rfl (fun K hK => ?_) zm
    go_simp
    refine hK.out _ _ (Below.alloc (Below.drew HB.out) hsz _) (fun hHeld => ?_)
    clear hK K
    try simp only[jv,Act.put]
    refine wpAnyH_ready (rs:=[14]) (by kernel_rfl) (by simp) ?_
    refine zc (o:=_) rfl (fun K hK => ?_) zm
    refine qag (.tmp 31) (.tmp 44) _ _ rfl rfl rfl hrun ?_
    refine hK.out _ _ B7.out (fun hHeld => ?_)
    clear hK K
    try simp only[jv,Act.put]
    refine tk 15 ?_ rfl hHeld ?_ ?_
    rotate_left
    focus (intro W hSw;go_simp;try with_reducible rfl)
    try simp only[jv,Act.put]
    refine wpAnyH_done (by kernel_rfl) ?_ _
    go_wp2_with fail
    go_roundw
    case rel=>exact⟨j+1+1,zs,A7,c7,by omega,by go_num,rfl,HZS.out,HZL.out,HO7.out,B7.out⟩
    case measure=>simp[intOf] <;> omega
  ·
   have ik:¬(k:Int)<(gs.length:Int):=by omega
   have hkg:k=gs.length:=by omega
   have hyf:ys=yp gs:=by rw[HYS.out,qo (by rw[HSL.out];omega)]
   have HR:=qa ((Rd.of_own HO.out).wide (qi _) (qc _))
   rw[hyf] at HR HYL
   have HMS:=qa (fun(W:World) (hW:Below wz.heap.size wz W)=>qid (w:=W) (yp gs) HMAY.out (HR.out.below hW (qc _)) hW.size (by rw[HSL.out];omega))
   rw[HYL.out] at HMS
   have HPU:=qa (fun w=>qbf 0 (w:=w) (by omega))
   have HWL:Hid ((jo 0).length+(jq (yp gs)).length≤140737488355328):=by
    have h3:=vo 0 (by omega)
    have h4:=qab HMAY.out (by rw[HSL.out];omega)
    unfold Hid
    omega
   obtain⟨V,hV⟩:∃V,jo 0++jq (yp gs)=V:=⟨_,rfl⟩
   have HVF:=qa hV
   obtain⟨wb,hwb⟩:∃wb,jq (yp gs)=wb:=⟨_,rfl⟩
   obtain⟨pb,hpb⟩:∃pb,jo 0=pb:=⟨_,rfl⟩
   rw[hwb] at HMS HWL hV
   rw[hpb] at HPU HWL hV
   have HV:=qa hV
   clear hV hyf hkg hwb hpb
   go_wp2_with fail
   refine(HPU.out _).mono ?_
   rintro r w2 ⟨A2,c2,rfl,ho2,b2⟩
   have HO2:=qa ho2
   have B2:=qa b2
   have S2:=b2.size
   clear ho2 b2
   go_wp2_with fail
   refine(HMS.out _ B2.out).mono ?_
   rintro r w3 ⟨A3,c3,rfl,ho3,b3⟩
   have HO3:=qa (Rd.of_own ho3)
   have HO23:=qa (js HO2.out b3 (qc _))
   have B3:=qa (qz B2.out b3 S2)
   clear ho3 b3
   obtain⟨A4,c4,w4,hrun,ho4,hg4⟩:=j9 w3 wz.heap.size _ pb wb V HV.out HO23.out HO3.out HWL.out B3.out.size
   have HO4:=qa ho4
   have B4:=qa (B3.out.grown hg4 B3.out.size (fun q hq=>(zk HO23.out hq).1))
   clear ho4 hg4
   go_wp2_with (at_builtin;refine wpList_append_run rfl _ _ _ _ rfl rfl rfl hrun ?_)
   go_ret
   rw[HVF.out]
   exact⟨A4,c4,rfl,j4 HO4.out (by omega),qz (qz B1.out HB.out (by omega)) B4.out (by omega)⟩
theorem pre_iff{t l:List UInt8}(h:t.length≤l.length):t.isPrefixOf l=true↔l.take t.length=t:=by
 rw[qbz]
 constructor
 ·
  intro h2
  exact(List.prefix_iff_eq_take.1 h2).symm
 ·
  intro h2
  rw[←h2]
  exact List.take_prefix _ _
theorem pre_no{t l:List UInt8}(h:l.length<t.length):¬t.isPrefixOf l=true:=fun h2=>by
 have:=(qbz.1 h2).length_le
 omega
theorem qls{w:World}(l:List ByteArray)(s:ByteArray){lo hi c:Nat}{A:Option Addr}(h:Rd w lo hi A c (sv l))(h1k:∀t∈l,t.size≤100000)(hs:s.size≤100000)(hln:l.length≤100000) :
  Calls Tryz.prog 165 #[.slice A l.length c,.string s] w fun r w'=>r= .returned (.tuple #[.int .i64 (qfp (qm l) 0 (-1) 0 s.data.toList).1,.int .i64 ((qfp (qm l) 0 (-1) 0 s.data.toList).2:Int)])∧∃m,w'=w.drewN m:=by
 have hl:=h.len
 have hm:=h.cap
 rw[yg] at hl
 unfold maxLen at hm
 have H:=qa h
 have H1:Hid (∀k (hk:k<l.length),l[k].size≤100000):=fun k hk=>h1k _ (qj hk)
 clear h h1k
 obtain⟨v,hv⟩:∃v,qfp (qm l) 0 (-1) 0 s.data.toList=v:=⟨_,rfl⟩
 rw[hv]
 have hsl:=qgq s
 go_enter Tryz.func165,Tryz.ntmps165
 go_wp2_with fail
 go_loopw [6,7,8] (fun x6 x7 x8 wr=>∃(k n m:Nat) (cc:Int),k≤l.length∧x8= .int .i64 (k:Int)∧x7= .int .i64 (n:Int)∧x6= .int .i64 cc∧n≤100000∧qfp ((qm l).drop k) k cc n s.data.toList=v∧wr=w.drewN m) (fun _ _ i _=>l.length-(intOf i).toNat)
 case atStart=>exact⟨0,0,0, -1,qi _,rfl,rfl,rfl,by omega,by rw[jx];exact hv,rfl⟩
 case round =>
  obtain⟨k,n,m,cc,hk,rfl,rfl,rfl,hn,hinv,rfl⟩:=hrel
  have HI:=qa hinv
  clear hinv hv
  by_cases hlt:k<l.length
  ·
   have ik:(k:Int)<(l.length:Int):=by omega
   obtain⟨b,off,rfl,_,_,hcell⟩:=H.out.str hlt
   have hsz1:=H1.out k hlt
   have hdr:(qm l).drop k=l[k].data.toList :: (qm l).drop (k+1):=by
    rw[zv (by rw[qx];exact hlt),yq l k hlt]
   have hst:=HI.out
   rw[hdr] at hst
   unfold qfp at hst
   rw[qgq] at hst
   clear hdr HI
   have htl:=qgq l[k]
   have hhd:=headS s l[k].size
   generalize l[k]=t at *
   have HSK:Hid (¬(n<t.size∧t.data.toList.isPrefixOf s.data.toList=true)→qfp ((qm l).drop (k+1)) (k+1) cc n s.data.toList=v):=fun h=>by rw[if_neg h] at hst;exact hst
   have HTK:Hid (n<t.size∧t.data.toList.isPrefixOf s.data.toList=true→qfp ((qm l).drop (k+1)) (k+1) (k:Int) t.size s.data.toList=v):=fun h=>by rw[if_pos h] at hst;exact hst
   clear hst
   by_cases h1:n<t.size
   ·
    have d1:decide ((n:Int)<(t.size:Int))=true:=qp (by omega)
    by_cases h2:t.size≤s.size
    ·
     have d2:decide ((t.size:Int)≤(s.size:Int))=true:=qp (by omega)
     have i2:(t.size:Int)≤(s.size:Int):=by omega
     by_cases h3:t.data.toList.isPrefixOf s.data.toList=true
     ·
      have d3:((s.extract 0 t.size).toList==t.toList)=true:=by
       rw[beq_iff_eq,jf,jf,hhd,←htl]
       exact(pre_iff (by omega)).1 h3
      have HT:=qa (HTK.out ⟨h1,h3⟩)
      clear h3 hhd htl hsl
      go_wp2_with fail
      go_quiet (fail)
      go_wp2_with fail
      go_roundw
      case rel=>exact⟨k+1,t.size,_,(k:Int),by omega,by go_num,rfl,rfl,by omega,HT.out,by first | rfl | (rw[zr])⟩
      case measure=>simp[intOf] <;> omega
     ·
      have d3:((s.extract 0 t.size).toList==t.toList)=false:=by
       rw[qr,ne_eq,jf,jf,hhd,←htl]
       exact fun e=>h3 ((pre_iff (by omega)).2 e)
      have HS:=qa (HSK.out (fun e=>h3 e.2))
      clear h3 hhd htl hsl
      go_wp2_with fail
      go_quiet (fail)
      go_wp2_with fail
      go_roundw
      case rel=>exact⟨k+1,n,_,cc,by omega,by go_num,rfl,rfl,by omega,HS.out,by first | rfl | (rw[zr])⟩
      case measure=>simp[intOf] <;> omega
    ·
     have d2:decide ((t.size:Int)≤(s.size:Int))=false:=ql (by omega)
     have HS:=qa (HSK.out (fun e=>pre_no (by omega) e.2))
     clear hhd htl hsl
     go_wp2_with fail
     go_quiet (fail)
     go_wp2_with fail
     go_roundw
     case rel=>exact⟨k+1,n,_,cc,by omega,by go_num,rfl,rfl,by omega,HS.out,by first | rfl | (rw[zr])⟩
     case measure=>simp[intOf] <;> omega
   ·
    have d1:decide ((n:Int)<(t.size:Int))=false:=ql (by omega)
    have HS:=qa (HSK.out (fun e=>h1 e.1))
    clear hhd htl hsl
    go_wp2_with fail
    go_quiet (fail)
    go_wp2_with fail
    go_roundw
    case rel=>exact⟨k+1,n,_,cc,by omega,by go_num,rfl,rfl,by omega,HS.out,by first | rfl | (rw[zr])⟩
    case measure=>simp[intOf] <;> omega
  ·
   have ik:¬(k:Int)<(l.length:Int):=by omega
   have hfin:(cc,n)=v:=by
    have:=HI.out
    rw[vj (by rw[qx];omega)] at this
    exact this
   have HF:=qa hfin
   clear hfin
   go_wp2_with fail
   go_ret2
   exact⟨by rw[←HF.out];rfl,m,rfl⟩
theorem cmpL_neg(a b:List UInt8):0<yr b a↔yr a b<0:=by rw[qdk a b];omega
theorem rises_last:∀ {t:List (List UInt8)} {a:List UInt8},xd (t++[a])=true→∀x∈t,yr x a<0
 | [],_,_,x,hx=>by cases hx
 | b :: t,a,h,x,hx=>by
  have h1:∀y∈t++[a],yr b y<0:=qg1 (a:=b) (t:=t++[a]) h
  rcases jc.1 hx with rfl | hx
  ·
   exact h1 a (qcg _ jb)
  ·
   exact rises_last (qf0 (a:=b) (t:=t++[a]) h) x hx
theorem cand_last{t:List (List UInt8)}{a s:List UInt8}(h:xd (t++[a])=true)(ho:qhw s=true):qji (t++[a]) s↔0<yr s a:=by
 rw[cmpL_neg a s]
 constructor
 ·
  rintro⟨_,h2⟩
  exact h2 a (qcg _ jb)
 ·
  intro h2
  refine⟨ho,fun x hx => ?_⟩
  rcases zt.1 hx with hx | hx
  ·
   exact uj (rises_last h x hx) h2
  ·
   rw[zo.1 hx];exact h2
theorem cand_nil{s:List UInt8}:qji [] s↔qhw s=true:=⟨fun h=>h.1,fun h=>⟨h,fun x hx=>by cases hx⟩⟩
theorem Ord.done{l t:List (List UInt8)}(h:Ord l t)(hn:∀s∈l,¬qji t s)(h5:t.length≤255):IsOrder l t :=
 ⟨h.rises,h5,h.of,fun s hs ho=>(h.all s hs ho).imp id fun h1=>absurd ⟨ho,h1⟩ (hn s hs)⟩
theorem Ord.full{l t:List (List UInt8)}(h:Ord l t)(h5:t.length=255):IsOrder l t :=
 ⟨h.rises,by omega,h.of,fun s hs ho=>(h.all s hs ho).imp id fun h1=>⟨h5,h1⟩⟩
def Inn(l t:List (List UInt8))(k:Nat)(b:List UInt8):Prop :=
 (b=[]∧∀j (hj:j<l.length),j<k→¬qji t l[j])∨(qji t b∧b∈l∧∀j (hj:j<l.length),j<k→qji t l[j]→yr b l[j]≤0)
theorem cand_ne{t:List (List UInt8)}{b:List UInt8}(h:qji t b):b≠[]:=fun e=>by
 subst e
 have:=h.1
 simp[qhw] at this
theorem inn_zero(l t:List (List UInt8)):Inn l t 0 []:=Or.inl ⟨rfl,fun j _ h=>absurd h (jp j)⟩
theorem inn_skip{l t:List (List UInt8)}{k:Nat}{b:List UInt8}(h:Inn l t k b)(hk:k<l.length)(hc:¬qji t l[k]):Inn l t (k+1) b:=by
 rcases h with ⟨h1,h2⟩ | ⟨h1,h2,h3⟩
 ·
  refine Or.inl ⟨h1,fun j hj hjk => ?_⟩
  rcases xc j k with h4 | h4
  ·
   exact h2 j hj h4
  ·
   have:j=k:=by omega
   subst this
   exact hc
 ·
  refine Or.inr ⟨h1,h2,fun j hj hjk hcj => ?_⟩
  rcases xc j k with h4 | h4
  ·
   exact h3 j hj h4 hcj
  ·
   have:j=k:=by omega
   subst this
   exact absurd hcj hc
theorem inn_first{l t:List (List UInt8)}{k:Nat}(h:Inn l t k [])(hk:k<l.length)(hc:qji t l[k]):Inn l t (k+1) l[k]:=by
 rcases h with ⟨_,h2⟩ | ⟨h1,_,_⟩
 ·
  refine Or.inr ⟨hc,qj hk,fun j hj hjk hcj => ?_⟩
  rcases xc j k with h4 | h4
  ·
   exact absurd hcj (h2 j hj h4)
  ·
   have:j=k:=by omega
   subst this
   rw[qdl]
   exact Int.le_refl _
 ·
  exact absurd rfl (cand_ne h1)
theorem inn_less{l t:List (List UInt8)}{k:Nat}{b:List UInt8}(h:Inn l t k b)(hb:b≠[])(hk:k<l.length)(hc:qji t l[k])(hl:yr l[k] b<0):Inn l t (k+1) l[k]:=by
 rcases h with ⟨h1,_⟩ | ⟨h1,h2,h3⟩
 ·
  exact absurd h1 hb
 ·
  refine Or.inr ⟨hc,qj hk,fun j hj hjk hcj => ?_⟩
  rcases xc j k with h4 | h4
  ·
   rcases Int.lt_or_eq_of_le (h3 j hj h4 hcj) with h5 | h5
   ·
    exact Int.le_of_lt (uj hl h5)
   ·
    rw[←qcr h5]
    exact Int.le_of_lt hl
  ·
   have:j=k:=by omega
   subst this
   rw[qdl]
   exact Int.le_refl _
theorem inn_keep{l t:List (List UInt8)}{k:Nat}{b:List UInt8}(h:Inn l t k b)(hb:b≠[])(hk:k<l.length)(hl:¬yr l[k] b<0):Inn l t (k+1) b:=by
 rcases h with ⟨h1,_⟩ | ⟨h1,h2,h3⟩
 ·
  exact absurd h1 hb
 ·
  refine Or.inr ⟨h1,h2,fun j hj hjk hcj => ?_⟩
  rcases xc j k with h4 | h4
  ·
   exact h3 j hj h4 hcj
  ·
   have:j=k:=by omega
   subst this
   have:=qdk b l[j]
   omega
theorem sizes_pos(block:Nat)(l:List (List UInt8)):∀k,0<k→0<(yi block l k).length
 | 0,h=>absurd h (by omega)
 | k+1,_=>by
  unfold yi
  rw[qrt]
  split
  ·
   rw[qd];simp
  ·
   rename_i h
   have hk:0<k:=Nat.pos_of_ne_zero fun e=>h (by rw[e];exact Nat.zero_mod _)
   exact sizes_pos block l k hk
end Go.Proofs.YtnjkipnklpkaoaaGreat
