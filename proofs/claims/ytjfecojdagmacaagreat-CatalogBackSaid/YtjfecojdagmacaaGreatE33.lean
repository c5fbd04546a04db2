/-
  Lemmas.
-/
import Derived.Test.YtjfecojdagmacaaGreatE32
namespace Go.Proofs.YtjfecojdagmacaaGreat
open Go.RowKit
set_option maxRecDepth 20000
set_option maxHeartbeats 16000000
set_option linter.unusedSimpArgs false
set_option linter.unusedVariables false
def CorJ(b:List UInt8)(w:World)(a:Act)(w':World):Prop:=a.tmps.size=99∧a.defers=[]∧Below w.heap.size w w'∧∀n gs,¬xo b n gs
theorem not_read{b:List UInt8}(h:qh6 (b.take (b.length-4))=none):∀n gs,¬xo b n gs:=fun n gs h2=>by
 rw[h2.2] at h
 cases h
theorem flt_fc{w:World}{lo hi b:Nat}{v:Value}{gs:List Nat}{rs:List Bool}(h:Flt w lo hi v b gs rs):∃e:Fc,e.b=b∧e.gs=gs∧e.rs=rs∧v= .agg #[.int .i64 (e.b:Int),.slice e.gA e.gs.length e.gc,.slice e.rA e.rs.length e.rc]∧Rd w lo hi e.gA e.gc (iv (jf e.gs))∧Rd w lo hi e.rA e.rc (lv e.rs):=by
 obtain⟨A,c,B,d,rfl,h1,h2⟩:=h
 exact⟨⟨b,gs,rs,A,c,B,d⟩,rfl,rfl,rfl,rfl,h1,h2⟩
theorem qew{l:Nat}{J:Act→World→Prop}{Q:Exit→Act→World→Prop}{a:Act}{w:World}(h:Q .ret a w):Exit.jump l J Q .ret a w:=h
theorem qc0{l:Nat}{J:Act→World→Prop}{Q:Exit→Act→World→Prop}{a:Act}{w:World}(h:J a w):Exit.jump l J Q (.goto l) a w:=⟨rfl,h⟩
theorem getD_two(tm:Array Value)(h:tm.size=99)(x y:Value):((tm.setIfInBounds 2 x).setIfInBounds 3 y).getD 2 undef=x∧((tm.setIfInBounds 2 x).setIfInBounds 3 y).getD 3 undef=y:=by
 constructor <;> simp[Array.getD,h]
theorem InnS.same{bs:List UInt8}{lo cg G gv B2 m k2:Nat}{wb w w':World}{j kq:Nat}{its:List It}{FA KA:Option Addr}{fc kc:Nat}(h:InnS bs lo cg G gv B2 m k2 wb w j kq its FA fc KA kc)(ho:Out w w' (fun _=>False)):InnS bs lo cg G gv B2 m k2 wb w' j kq its FA fc KA kc :=
 ⟨h.len,h.cols,h.cur.out ho (fun _ _ h=>h),h.blk.out ho (fun h=>h),qaa h.fil ho (fun _ _ h=>h),qaa h.chk ho (fun _ _ h=>h),h.apart,h.its.step ⟨ho.os,ho.tape,ho.output,ho.size,fun k hk _=>ho.block k hk (fun h=>h)⟩ (fun _ _ h=>h),h.out.trans ho (fun _ _ h=>h.elim),zc h.size ho.size⟩
set_option maxRecDepth 100000 in
set_option maxHeartbeats 16000000 in
theorem sgread_vW{w:World}{b:List UInt8}{A:Option Addr}{c:Nat}(h:Rd w 0 w.heap.size A c (bv b))(hbl:b.length≤1000000000)(hO:OpenH (b.take (b.length-4))) :
  Calls Tryz.prog 59 #[.slice A b.length c] w fun r w'=>Below w.heap.size w w'∧((∃G n gs,r= .returned (.tuple #[.pointer (some ⟨G,0,none⟩),.int .i64 0])∧xo b n gs∧qla w' w.heap.size G n gs)∨(r= .returned (.tuple #[.pointer none,.int .i64 4])∧∀n gs,¬xo b n gs)):=by
 have HO:Hid (OpenH (b.take (b.length-4))):=hO
 have hbuild:∀W,(Instr.build 117 #[]).run Tryz.prog W= .ok (.agg #[.int .i64 0,.slice none 0 0]) W:=fun W=>run_build W _ _ _ (by kernel_rfl)
 have hbuildg:∀W z,(Instr.build 128 #[(0,.int .i64 z)]).run Tryz.prog W= .ok (.agg #[.int .i64 z,.slice none 0 0,.slice none 0 0]) W:=fun W z=>run_build W _ _ _ (by kernel_rfl)
 have HA:=qa h
 clear h hO
 obtain⟨w1,hw1⟩:∃w1,w.alloc (.cells #[.int .i64 0,.slice none 0 0] 117)=w1:=⟨_,rfl⟩
 have B1:Hid (Below w.heap.size w w1):=by unfold Hid;rw[←hw1];exact(Below.refl _ w).alloc (qc _) _
 have HG1:Hid (j8 w1 w.heap.size 117 #[.int .i64 0,.slice none 0 0]):=by unfold Hid;rw[←hw1];exact j8.new w _ _
 have hs1:w1.heap.size=w.heap.size+1:=by rw[←hw1];simp
 have HA1:Hid (Rd w1 0 w.heap.size A c (bv b)):=HA.out.below B1.out (qc _)
 by_cases hse:kj b=true
 ·
  have HOP:=qa (open_yes b HA1.out (by omega) hse hbl)
  obtain⟨bs,hbs⟩:∃bs,b.take (b.length-4)=bs:=⟨_,rfl⟩
  have hbsl:bs.length=b.length-4:=by rw[←hbs,qy];omega
  have HRO:Hid (∀n gs,qh6 bs=some (n,gs)→xo b n gs):=fun n gs h=>⟨hse,by rw[hbs];exact h⟩
  have HNO:Hid (qh6 bs=none→∀n gs,¬xo b n gs):=fun h=>not_read (by rw[hbs];exact h)
  rw[hbs] at HO HOP
  rw[←hbsl] at HOP
  have hbl2:bs.length≤1000000000:=by omega
  obtain⟨bl,hblq⟩:∃n,bs.length=n:=⟨_,rfl⟩
  have HBL:=qa hblq
  rw[hblq] at HOP hbl2
  clear HA HA1 hse hbs hbsl hblq hbl
  go_enter Tryz.func59,Tryz.ntmps59
  go_wp2_with fail
  refine wp_scope_jumps 0 (CorJ b w) (fun _ _=>0) rfl ?_ ?_
  ·
   generalize hQ:Exit.jump 0 (CorJ b w) _=Qx
   have HQ:=qa hQ
   clear hQ
   have HPN:Hid (∀c a a' w',Qx (.panic c) a w'→a.defers=a'.defers→Qx (.panic c) a' w'):=by
    unfold Hid
    rw[←HQ.out]
    intro c a a' w' h hd
    simp (config:={ zetaDelta:=true }) only[Exit.jump,bodyPost] at h ⊢
    rw[←hd]
    exact h
   go_wp2_with fail
   refine HOP.out.mono ?_
   rintro r w2 ⟨A2,c2,rfl,ho2,hb2⟩
   have B2:Hid (Below w.heap.size w w2):=B1.out.trans (hb2.mono B1.out.size)
   have HG2:=qa (HG1.out.below hb2 (by omega))
   have HN2:=qa (new_any bs w2 (Rd.of_own ho2) (by rw[HBL.out];omega))
   rw[HBL.out] at HN2
   have hs2:=hb2.size
   clear hb2 ho2 HOP HG1
   go_wp2_with fail
   refine HN2.out.mono ?_
   rintro r w3 ⟨cg,rfl,hcu3,hb3⟩
   have B3:Hid (Below w.heap.size w w3):=B2.out.trans (hb3.mono B2.out.size)
   have HG3:=qa (HG2.out.below hb3 (by omega))
   have hs3:=hb3.size
   obtain⟨lo,hlo⟩:∃lo,w2.heap.size=lo:=⟨_,rfl⟩
   obtain⟨B,hB⟩:∃B,w3.heap.size=B:=⟨_,rfl⟩
   rw[hlo] at hcu3
   have hcgl:=hcu3.lt
   have hcgb:=hcu3.base
   have HM:=qa (qcv 8 hcu3)
   obtain⟨⟨nc,k0,e0⟩,hM⟩:∃M,z8 bs 0 0 8=M:=⟨_,rfl⟩
   have hnc8:=qbb bs 0 0 8
   rw[hM] at HM hnc8
   simp only at HM hnc8
   have HMR:=qa hM
   clear hb3 HN2 HG2 hcu3 hM
   unfold cp at HM
   go_wp2_with fail
   refine HM.out.mono ?_
   rintro r w4 ⟨rfl,hcu4,hg4⟩
   have hG4:=HG3.out.grown hg4 (fun e=>by injection e with e;omega)
   have B4:Hid (Below w.heap.size w w4):=B3.out.grown hg4 B3.out.size (fun q hq=>by injection hq with hq;omega)
   have hs4:=hg4.size
   have HM2:Hid (∀W,w4.grownBy W (some w.heap.size)→Calls Tryz.prog 65 #[.pointer (some ⟨cg,0,none⟩),.int .i64 4096] W fun r w'=>r= .returned (.int .i64 ((z8 bs k0 e0 4096).1:Int))∧xq w' lo cg bs (z8 bs k0 e0 4096).2.1 (z8 bs k0 e0 4096).2.2∧W.grownBy w' (some cg)):=fun W hW=>qcv 4096 (hcu4.grown hW (fun q hq=> .inl (by injection hq with hq;omega)))
   obtain⟨z,hz⟩:∃z:Int,(nc:Int)=z:=⟨_,rfl⟩
   have HZ:=qa hz
   rw[hz]
   obtain⟨w5,hw5⟩:∃w5,w4.setCell ⟨w.heap.size,0,none⟩ (.int .i64 z)=w5:=⟨_,rfl⟩
   have g5:w4.grownBy w5 (some w.heap.size):=by rw[←hw5];exact gb_set w4 _ _ _
   have hG5:j8 w5 w.heap.size 117 #[.int .i64 z,.slice none 0 0]:=by rw[←hw5];exact hG4.put 0 _
   have B5:Hid (Below w.heap.size w w5):=B4.out.grown g5 B4.out.size (fun q hq=>by injection hq with hq;omega)
   have z0:w4.cell? ⟨w.heap.size,0,none⟩=some (.int .i64 0):=hG4.cell 0
   have f0:=hG4.frozen 0
   have y0:w5.cell? ⟨w.heap.size,0,none⟩=some (.int .i64 z):=hG5.cell 0
   have HG5:=qa hG5
   have HM5:=qa (HM2.out w5 g5)
   have hs5:=g5.size
   clear hcu4 hg4 hG4 hG5 HM HM2 hz g5
   by_cases hz0:z=0
   ·
    have hzb:(z==0)=true:=by simpa using hz0
    have HNR:Hid (∀n gs,¬xo b n gs):=HNO.out (seg_zero (by rw[HMR.out];have:=HZ.out;show nc=0;omega))
    clear hz0 HM5
    go_wp2_with fail
    go_step3
    change Qx (.goto 0) _ _
    rw[←HQ.out]
    exact qc0 ⟨rfl,rfl,B5.out,HNR.out⟩
   ·
    have hzb:(z==0)=false:=by simpa using hz0
    have HNC:Hid (nc≠0):=by unfold Hid;have:=HZ.out;omega
    have hnc0:nc≤8:=by omega
    have HE0:Hid (e0=0):=by
     apply Classical.byContradiction
     intro he
     have:=qij (bs:=bs) (k:=0) (e:=0) (m:=8) (by rw[HMR.out];exact he)
     rw[HMR.out] at this
     exact HNC.out this
    obtain⟨⟨cn,k1,e1⟩,hN⟩:∃M,z8 bs k0 0 4096=M:=⟨_,rfl⟩
    have hcn4:=qbb bs k0 0 4096
    rw[hN] at hcn4
    simp only at hcn4
    have hcn5:cn≤4096:=by omega
    rw[HE0.out,hN] at HM5
    simp only at HM5
    have HNR:=qa hN
    rw[HE0.out] at HMR
    have HE1:Hid (e1≠0→cn=0):=fun he=>by
     have:=qij (bs:=bs) (k:=k0) (e:=0) (m:=4096) (by rw[hN];exact he)
     rw[hN] at this
     exact this
    clear hz0 hN hcn4 hnc8
    go_wp2_with fail
    refine HM5.out.mono ?_
    rintro r w6 ⟨rfl,hcu6,hg6⟩
    have HG6:Hid (j8 w6 w.heap.size 117 #[.int .i64 z,.slice none 0 0]):=HG5.out.grown hg6 (fun e=>by injection e with e;omega)
    have B6:Hid (Below w.heap.size w w6):=B5.out.grown hg6 B5.out.size (fun q hq=>by injection hq with hq;omega)
    have hs6:=hg6.size
    have HOT:Hid (OttS bs lo cg w.heap.size B nc k1 e1 w6 0 k1 4096 [] none 0):=⟨rfl,rfl,hcu6,by rw[HZ.out];exact HG6.out,zj _ _ _ _,(fun W _ r hr=>by cases hr),by omega⟩
    clear hcu6 hg6 HM5 HG5 HG6 B5 y0 z0 f0
    go_wp2_with fail
    go_loopw [5,35] (fun x5 x35 wr=>∃(i left kp:Nat) (rs:List Gr) (A':Option Addr) (c':Nat),i≤cn∧x35= .int .i64 (i:Int)∧x5= .int .i64 (left:Int)∧left≤4096∧Hid (OttS bs lo cg w.heap.size B nc k1 e1 wr i kp left rs A' c')∧Hid (Below w.heap.size w wr)) (fun _ x35 _=>cn-(intOf x35).toNat)
    case atStart=>exact⟨0,4096,k1,[],none,0,qj _,rfl,rfl,qc _,HOT.out,B6.out⟩
    case round =>
     clear HOT B6 hs6
     obtain⟨i,left,kp,rs,A',c',hi,rfl,rfl,hlf,HOT,HB⟩:=hrel
     obtain⟨wk,hwk⟩:∃wk,wk=wr:=⟨_,rfl⟩
     subst hwk
     by_cases hlt:i<cn
     ·
      have ik:(i:Int)<(cn:Int):=by omega
      obtain rfl:e1=0:=by
       apply Classical.byContradiction
       intro he
       have:=HE1.out he
       omega
      have HM7:=qa (qcv (left:Int) HOT.out.cur)
      obtain⟨⟨m,k2,e2⟩,hM2⟩:∃M,z8 bs kp 0 (left:Int)=M:=⟨_,rfl⟩
      have hml:=qbb bs kp 0 (left:Int)
      rw[hM2] at HM7 hml
      simp only at HM7 hml
      have HMR2:=qa hM2
      clear hM2
      unfold cp at HM7
      go_wp2_with fail
      refine HM7.out.mono ?_
      rintro r wa ⟨rfl,hcua,hga⟩
      have hsa:=hga.size
      have hsz:=HOT.out.size
      obtain⟨z2,hz2⟩:∃z2:Int,(m:Int)=z2:=⟨_,rfl⟩
      have HZ2:=qa hz2
      rw[hz2]
      obtain⟨wb,hwb⟩:∃wb,wa.alloc (.cells #[.int .i64 z2,.slice none 0 0,.slice none 0 0] 128)=wb:=⟨_,rfl⟩
      have HWB:=qa hwb
      have Bb:Hid (Below w.heap.size w wb):=by
       unfold Hid
       rw[←hwb]
       exact(HB.out.grown hga HB.out.size (fun q hq=>by injection hq with hq;omega)).alloc (by have:=HB.out.size;omega) _
      by_cases hm0:z2=0
      ·
       have hzb2:(z2==0)=true:=by simpa using hm0
       have HNRD:Hid (∀n gs,¬xo b n gs):=HNO.out (seg_none HMR.out HNR.out (qlu HOT.out.grps (grp_zero (by rw[HMR2.out];have:=HZ2.out;show m=0;omega)) hlt))
       clear hm0 hwb hcua hga HM7
       go_wp2_with fail
       go_step3
       change Qx (.goto 0) _ _
       rw[←HQ.out]
       exact qc0 ⟨rfl,rfl,by rw[HWB.out];exact Bb.out,HNRD.out⟩
      ·
       have hzb2:(z2==0)=false:=by simpa using hm0
       have HMN:Hid (m≠0):=by unfold Hid;have:=HZ2.out;omega
       obtain rfl:e2=0:=by
        apply Classical.byContradiction
        intro he
        have:=qij (bs:=bs) (k:=kp) (e:=0) (m:=(left:Int)) (by rw[HMR2.out];exact he)
        rw[HMR2.out] at this
        exact HMN.out this
       have hm4:m≤4096:=by omega
       obtain⟨hin,hGb,hgvb,hBa,hcga,hGa,hob⟩:=HOT.out.begin (wb:=wb) (by omega) (by omega) (by omega) hga m k2 hcua (by rw[hz2];exact hwb)
       have HIN:=qa hin
       have HOB:=qa hob
       have y0:(wa.alloc (.cells #[.int .i64 z2,.slice none 0 0,.slice none 0 0] 128)).cell? ⟨w.heap.size,0,none⟩=some (.int .i64 z):=by rw[hwb,←HZ.out];exact hGb.cell 0
       clear hm0 hwb hin hGb hob hcua hga HM7 hz2
       go_wp2_with fail
       rw[HWB.out]
       clear y0 HWB
       obtain⟨gv,hgv⟩:∃gv,wa.heap.size=gv:=⟨_,rfl⟩
       obtain⟨B2,hB2⟩:∃B2,wb.heap.size=B2:=⟨_,rfl⟩
       rw[hgv]
       rw[hgv,hB2] at HIN
       rw[hgv] at hBa hcga hGa hsa hgvb
       rw[hB2] at hgvb
       clear hgv
       go_loopw [48] (fun x48 wr=>∃(j kq:Nat) (its:List It) (FA:Option Addr) (fc:Nat) (KA:Option Addr) (kc:Nat),j≤nc∧x48= .int .i64 (j:Int)∧Hid (InnS bs lo cg w.heap.size gv B2 m k2 wb wr j kq its FA fc KA kc)) (fun x48 _=>nc-(intOf x48).toNat)
       case atStart=>exact⟨0,k2,[],none,0,none,0,qj _,rfl,HIN.out⟩
       case round =>
        as_aux_lemma =>
        clear HIN
        obtain⟨j,kq,its,FA,fc,KA,kc,hj,rfl,HIN⟩:=hrel
        obtain⟨wj,hwj⟩:∃wj,wj=wr:=⟨_,rfl⟩
        subst hwj
        have BJ:Hid (Below w.heap.size w wj):=Bb.out.trans (HIN.out.out.below (by have:=Bb.out.size;omega) (fun k hk=>by rcases hk with hk | hk <;> (have:=Bb.out.size;omega)))
        have hszj:=HIN.out.size
        by_cases hjn:j<nc
        ·
         have ij:(j:Int)<z:=by have:=HZ.out;omega
         have HR:=qa (gread_any HIN.out.cur (by rw[HBL.out];omega))
         unfold cp at HR
         go_wp2_with fail
         refine HR.out.mono ?_
         rintro r wc ⟨v,fb,fg,fr,k3,e3,rfl,htg,hfl,hcuc,hoc⟩
         obtain⟨fe,rfl,rfl,rfl,rfl,hr1,hr2⟩:=flt_fc hfl
         have hsc:=hoc.size
         have HTG:=qa htg
         have HOPN:Hid (Calls Tryz.prog 87 #[.pointer (some ⟨cg,0,none⟩)] wc fun r w'=>∃G,r= .returned (.pointer (some ⟨G,0,none⟩))∧wc.heap.size≤G∧qbh w' wc.heap.size G (qax bs k3 e3).1∧xq w' lo cg bs (qax bs k3 e3).2.1 (qax bs k3 e3).2.2∧wc.grownBy w' (some cg)):=by
          by_cases he3:e3=0
          ·
           subst he3
           exact HO.out nc k0 cn k1 i kp left m k2 j kq fe.b k3 0 0 _ _ fe.gs fe.rs HMR.out HNR.out hlt HOT.out.grps HMR2.out HMN.out hjn HIN.out.cols htg hcuc
          ·
           exact open_bad hcuc (by rw[HBL.out];omega) he3
         obtain⟨⟨ck,k4,e4⟩,hC⟩:∃C,qax bs k3 e3=C:=⟨_,rfl⟩
         rw[hC] at HOPN
         simp only at HOPN
         have HC:=qa hC
         have HR1:=qa hr1
         have HR2:=qa hr2
         have HOC:=qa hoc
         clear hfl htg hcuc hoc hr1 hr2 hC HR
         go_wp2_with fail
         refine HOPN.out.mono ?_
         rintro r wd ⟨Gk,rfl,hGk,hck,hcud,hgd⟩
         have hsd:=hgd.size
         have hod:Out wj wd (fun k=>k=cg):=HOC.out.trans (Out.of_gb (X:=fun k=>k=cg) hgd fun k hk=>(zy hk).symm) (fun _ _ h=>h)
         obtain⟨we,hwe⟩:∃we,wd.alloc (.cells #[.int .i64 (fe.b:Int),.slice fe.gA fe.gs.length fe.gc,.slice fe.rA fe.rs.length fe.rc] 110)=we:=⟨_,rfl⟩
         have HWE:=qa hwe
         have hse:we.heap.size=wd.heap.size+1:=by rw[←hwe];simp
         have HOE:Hid (Out wj we (fun k=>k=cg)):=by unfold Hid;rw[←hwe];exact hod.alloc _
         have HCU:Hid (xq we lo cg bs k4 e4):=by unfold Hid;rw[←hwe];exact hcud.behind ((Below.refl wd.heap.size wd).alloc (qc _) _) hcud.lt
         have HCK:Hid (qbh we wc.heap.size Gk ck):=by unfold Hid;rw[←hwe];exact hck.below ((Below.refl _ wd).alloc (qc _) _)
         have HF:Hid (j8 we wd.heap.size 110 #[.int .i64 (fe.b:Int),.slice fe.gA fe.gs.length fe.gc,.slice fe.rA fe.rs.length fe.rc]):=by unfold Hid;rw[←hwe];exact j8.new wd _ _
         have HL1:Hid (Rd we wj.heap.size we.heap.size fe.gA fe.gc (iv (jf fe.gs))):=by
          have h1:=(HR1.out.grown hgd (qc _) (fun q hq=> .inl (by injection hq with hq;omega))).wide (qc _) hsd
          have h2:=(h1.alloc (qc _) (.cells #[.int .i64 (fe.b:Int),.slice fe.gA fe.gs.length fe.gc,.slice fe.rA fe.rs.length fe.rc] 110)).wide (qc _) (show wd.heap.size≤we.heap.size by omega)
          rw[hwe] at h2
          exact h2
         have HL2:Hid (Rd we wj.heap.size we.heap.size fe.rA fe.rc (lv fe.rs)):=by
          have h1:=(HR2.out.grown hgd (qc _) (fun q hq=> .inl (by injection hq with hq;omega))).wide (qc _) hsd
          have h2:=(h1.alloc (qc _) (.cells #[.int .i64 (fe.b:Int),.slice fe.gA fe.gs.length fe.gc,.slice fe.rA fe.rs.length fe.rc] 110)).wide (qc _) (show wd.heap.size≤we.heap.size by omega)
          rw[hwe] at h2
          exact h2
         have HGV:Hid (j8 we gv 128 #[.int .i64 z2,.slice FA j fc,.slice KA j kc]):=by unfold Hid;rw[←HZ2.out];exact HIN.out.blk.out HOE.out (by omega)
         have BE:Hid (Below w.heap.size w we):=BJ.out.trans (HOE.out.below (by have:=BJ.out.size;omega) (fun k hk=>by omega))
         clear hck hcud hgd hod hwe HR1 HR2 HOPN HOC
         go_wp2_with fail
         rw[HWE.out]
         clear HWE
         have HLN:Hid (∀W,Below we.heap.size we W→Calls Tryz.prog 88 #[.pointer (some ⟨Gk,0,none⟩)] W fun r w'=>r= .returned (.int .i64 (ck.there.length:Int))∧W=w'):=fun W hW=>len_v (HCK.out.below hW)
         have HGC:Hid (∀W,Below we.heap.size we W→W.cell? ⟨gv,0,none⟩=some (.int .i64 z2)):=fun W hW=>(hW.cell (p:=⟨gv,0,none⟩) (by show gv<we.heap.size;omega)).trans (HGV.out.cell 0)
         have HFC:Hid (∀W,Below we.heap.size we W→W.cell? ⟨wd.heap.size,0,none⟩=some (.int .i64 (fe.b:Int))∧W.cell? ⟨wd.heap.size,1,none⟩=some (.slice fe.gA fe.gs.length fe.gc)∧W.cell? ⟨wd.heap.size,2,none⟩=some (.slice fe.rA fe.rs.length fe.rc)):=fun W hW=>⟨(hW.cell (p:=⟨wd.heap.size,0,none⟩) (by show wd.heap.size<we.heap.size;omega)).trans (HF.out.cell 0),(hW.cell (p:=⟨wd.heap.size,1,none⟩) (by show wd.heap.size<we.heap.size;omega)).trans (HF.out.cell 1),(hW.cell (p:=⟨wd.heap.size,2,none⟩) (by show wd.heap.size<we.heap.size;omega)).trans (HF.out.cell 2)⟩
         obtain⟨L,hL⟩:∃L:Int,(ck.there.length:Int)=L:=⟨_,rfl⟩
         have HLL:=qa hL
         rw[hL] at HLN
         clear hL
         have KD:Hid (Below we.heap.size we we.drew):=(Below.refl _ _).drew
         by_cases hlm:L=z2
         ·
          have hne:(L != z2)=false:=by simpa using hlm
          have HCL:Hid (ck.there.length=m):=by unfold Hid;have:=HLL.out;have:=HZ2.out;omega
          have HE3:Hid (e3=0):=by
           apply Classical.byContradiction
           intro he
           have h1:=openC_bad (bs:=bs) (k:=k3) he
           rw[HC.out] at h1
           simp only at h1
           have h2:=HCL.out
           rw[h1] at h2
           exact HMN.out h2.symm
          rw[HE3.out] at HTG HC
          have HE4:Hid (e4=0):=chk_some HC.out (by rw[HCL.out];have:=HMN.out;omega)
          rw[HE4.out] at HC HCU
          have HOKC:Hid (ChkOk ck):=(openC_good (HTG.out.good rfl).2.2.2.2 HC.out).1
          obtain⟨S,hS⟩:∃S,qd4 ck=S:=⟨_,rfl⟩
          have HST:Hid (qr (qaj ck)=S):=by unfold Hid;rw[vals_texts HOKC.out,hS]
          have hsl:S.length≤4096:=by rw[←hS,qh3 HOKC.out];exact zc (qgs _) HOKC.out.few
          have HSS:Hid (∀s∈S,s.size≤4096):=by unfold Hid;rw[←hS];exact qix HOKC.out
          have HVL:Hid ((qaj ck).length=m):=by unfold Hid;rw[qdb,HCL.out]
          have HAL:Hid (∀W,Below we.heap.size we W→Calls Tryz.prog 90 #[.pointer (some ⟨Gk,0,none⟩)] W fun r w'=>∃A' c',r= .returned (.slice A' m c')∧Row w' W.heap.size w'.heap.size A' c' (qaj ck)∧Below W.heap.size W w'):=fun W hW=>by
           have h1:=all_v (HCK.out.below hW) (.inl HOKC.out)
           rw[HVL.out] at h1
           exact h1.mono fun r w' ⟨A',c',h2,h3,h4,_⟩=>⟨A',c',h2,h3,h4⟩
          have HTX:Hid (∀W A' c',Row W 0 W.heap.size A' c' (qaj ck)→Calls Tryz.prog 79 #[.slice A' m c'] W fun r w'=>∃A3 c3,r= .returned (.slice A3 S.length c3)∧Rd w' 0 w'.heap.size A3 c3 (sv S)∧Below W.heap.size W w'):=fun W A' c' hr=>by
           have h1:=sgtexts_v (qaj ck) hr (by rw[HVL.out];omega)
           rw[HVL.out,HST.out] at h1
           exact h1.mono fun r w' ⟨A3,c3,h2,h3,h4⟩=>⟨A3,c3,h2,(Rd.of_own h3).wide (qj _) (qc _),h4⟩
          have HIS:Hid (∀W A' c',Below we.heap.size we W→Rd W 0 W.heap.size A' c' (sv S)→Calls Tryz.prog 89 #[.agg #[.int .i64 (fe.b:Int),.slice fe.gA fe.gs.length fe.gc,.slice fe.rA fe.rs.length fe.rc],.slice A' S.length c'] W fun r w'=>∃x:Bool,r= .returned (.bool x)∧(x=true↔qhw S fe.b fe.gs fe.rs)∧Below W.heap.size W w'):=fun W A' c' hW hr =>
           isof_v ⟨fe.gA,fe.gc,fe.rA,fe.rc,rfl,(HL1.out.below hW (qc _)).wide (qj _) (qc _),(HL2.out.below hW (qc _)).wide (qj _) (qc _)⟩ hW.size (HTG.out.good rfl).2.1 S hr HSS.out hsl
          have HSC:=qa hS
          clear hS hlm
          refine wp_region_held_drew (S:=fun w'=>Below we.heap.size we w') (by kernel_rfl) KD.out (fun hHeld => ?_)
          refine tk 0 ?_ rfl hHeld ?_ ?_ (hQ:=fun _ _ _ h=>HPN.out _ _ _ _ h rfl)
          rotate_left
          focus (intro W hSw;go_simp;try with_reducible rfl)
          try simp only[jt,Act.put]
          refine tk 2 ?_ rfl hHeld ?_ ?_ (hQ:=fun _ _ _ h=>HPN.out _ _ _ _ h rfl)
          rotate_left
          focus (intro W hSw;go_simp;try with_reducible rfl)
          try simp only[jt,Act.put]
          refine tk 3 ?_ rfl hHeld ?_ ?_ (hQ:=fun _ _ _ h=>HPN.out _ _ _ _ h rfl)
          rotate_left
          focus (intro W hSw;have q0:=HGC.out W hSw;go_simp;try with_reducible rfl)
          try simp only[jt,Act.put]
          obtain⟨wx,hwx⟩:∃q,we.drew=q:=⟨_,rfl⟩
          rw[hwx] at hHeld ⊢
          clear KD hwx
          have K0:=qa hHeld
          refine wpAnyH_ready (rs:=[1]) (by kernel_rfl) (by simp) ?_
          refine qu (o:=_) rfl (fun K hK => ?_) q5
          go_simp
          refine(HLN.out _ K0.out).mono ?_
          rintro r wy ⟨rfl,rfl⟩
          refine hK.out _ _ K0.out (fun hHeld => ?_)
          clear hK K
          try simp only[jt,Act.put]
          refine tk 4 ?_ rfl hHeld ?_ ?_ (hQ:=fun _ _ _ h=>HPN.out _ _ _ _ h rfl)
          rotate_left
          focus (intro W hSw;go_simp;try with_reducible rfl)
          try simp only[jt,Act.put]
          refine tk 5 ?_ rfl hHeld ?_ ?_ (hQ:=fun _ _ _ h=>HPN.out _ _ _ _ h rfl)
          rotate_left
          focus (intro W hSw;go_simp;try with_reducible rfl)
          try simp only[jt,Act.put]
          refine tk 6 ?_ rfl hHeld ?_ ?_ (hQ:=fun _ _ _ h=>HPN.out _ _ _ _ h rfl)
          rotate_left
          focus (intro W hSw;obtain⟨q1,q2,q3⟩:=HFC.out W hSw;go_simp;try with_reducible rfl)
          try simp only[jt,Act.put]
          refine tk 7 ?_ rfl hHeld ?_ ?_ (hQ:=fun _ _ _ h=>HPN.out _ _ _ _ h rfl)
          rotate_left
          focus (intro W hSw;go_simp;try with_reducible rfl)
          try simp only[jt,Act.put]
          refine wpAnyH_ready (rs:=[8]) (by kernel_rfl) (by simp) ?_
          refine qu (o:=_) rfl (fun K hK => ?_) q5
          go_simp
          refine(HAL.out _ K0.out).mono ?_
          rintro r wy ⟨A7,c7,rfl,hr7,hb7⟩
          have K7:Hid (Below we.heap.size we wy):=K0.out.trans (hb7.mono K0.out.size)
          have HT7:=qa (HTX.out wy A7 c7 (hr7.wide (qj _) (qc _)))
          clear hr7 hb7
          refine hK.out _ _ K7.out (fun hHeld => ?_)
          clear hK K
          try simp only[jt,Act.put]
          refine wpAnyH_ready (rs:=[9]) (by kernel_rfl) (by simp) ?_
          refine qu (o:=_) rfl (fun K hK => ?_) q5
          go_simp
          refine HT7.out.mono ?_
          rintro r wz ⟨A8,c8,rfl,hr8,hb8⟩
          have K8:Hid (Below we.heap.size we wz):=K7.out.trans (hb8.mono K7.out.size)
          have HI8:=qa (HIS.out wz A8 c8 K8.out hr8)
          clear hr8 hb8 HT7
          refine hK.out _ _ K8.out (fun hHeld => ?_)
          clear hK K
          try simp only[jt,Act.put]
          refine wpAnyH_ready (rs:=[10]) (by kernel_rfl) (by simp) ?_
          refine qu (o:=_) rfl (fun K hK => ?_) q5
          go_simp
          refine HI8.out.mono ?_
          rintro r wf ⟨x,rfl,hx,hb9⟩
          have K9:Hid (Below we.heap.size we wf):=K8.out.trans (hb9.mono K8.out.size)
          have HX:=qa hx
          clear hx hb9 HI8
          refine hK.out _ _ K9.out (fun hHeld => ?_)
          clear hK K
          try simp only[jt,Act.put]
          refine tk 11 ?_ rfl hHeld ?_ ?_ (hQ:=fun _ _ _ h=>HPN.out _ _ _ _ h rfl)
          rotate_left
          focus (intro W hSw;go_simp;try with_reducible rfl)
          try simp only[jt,Act.put]
          refine tk 12 ?_ rfl hHeld ?_ ?_ (hQ:=fun _ _ _ h=>HPN.out _ _ _ _ h rfl)
          rotate_left
          focus (intro W hSw;go_simp;try with_reducible rfl)
          try simp only[jt,Act.put]
          refine wpAnyH_done (by kernel_rfl) ?_ _
          clear HAL HTX HIS HLN
          cases x with
          | false =>
           have HNRD:Hid (∀n gs,¬xo b n gs):=HNO.out (seg_none HMR.out HNR.out (qlu HOT.out.grps (grp_none HMR2.out (cols_none HIN.out.cols (col_none2 HTG.out HC.out (.inr fun hf=>by
            have h1:=HX.out.2 (by rw[←HSC.out];exact hf)
            cases h1))) (by omega)) hlt))
           go_wp2_with fail
           go_step3
           change Qx (.goto 0) _ _
           rw[←HQ.out]
           exact qc0 ⟨rfl,rfl,BE.out.trans (K9.out.mono BE.out.size),HNRD.out⟩
          | true =>
           have HCOL:Hid (qdj bs m k2 (j+1)=some (its.map It.c++[⟨fe.b,fe.gs,fe.rs,ck⟩],k4)):=cols_some HIN.out.cols (col_some HTG.out HC.out HCL.out (by rw[HSC.out];exact HX.out.1 rfl))
           have hof:Out wj wf (fun k=>k=cg):=HOE.out.trans (Out.of_below (X:=fun _=>False) K9.out) (fun _ _ h=>h.elim)
           have hfree:qck wf (fun k=>k<B2∨(Value.slice FA j fc).ownBlock=some k∨(Value.slice KA j kc).ownBlock=some k) (fun W=>ItM W B2 ⟨⟨fe.b,fe.gs,fe.rs,ck⟩,fe,Gk⟩):=by
            have hX:∀k,wj.heap.size≤k→¬(k<B2∨(Value.slice FA j fc).ownBlock=some k∨(Value.slice KA j kc).ownBlock=some k):=fun k hk h=>by
             rcases h with h | h | h
             ·
              omega
             ·
              have:=(zk HIN.out.fil h).2;omega
             ·
              have:=(zk HIN.out.chk h).2;omega
            have h1:=(HL1.out.below K9.out (qc _)).wide (qc _) K9.out.size
            have h2:=(HL2.out.below K9.out (qc _)).wide (qc _) K9.out.size
            have h3:=HCK.out.below K9.out
            exact fun W hW=>⟨rfl,rfl,rfl,(qck.rd h1 (fun k hk _=>hX k hk) W hW).wide hszj (qc _),(qck.rd h2 (fun k hk _=>hX k hk) W hW).wide hszj (qc _),(qck.chk h3 (fun k hk _=>hX k (by omega)) W hW).wide (by omega)⟩
           obtain⟨hbf,FA',fc',wh,hrun1,hbh,wi,hwi,hbi,KA',kc',wq,hrun2,hbq,wl,hwl,hin2⟩:=HIN.out.push (by omega) (by omega) (by omega) (by omega) (by omega) (by omega) hof (HCU.out.behind K9.out (by have:=HCU.out.lt;omega)) ⟨⟨fe.b,fe.gs,fe.rs,ck⟩,fe,Gk⟩ HCOL.out hfree
           have p1:wf.cell? ⟨gv,1,none⟩=some (.slice FA j fc):=hbf.cell 1
           obtain⟨r0,r1,r2⟩:=HFC.out wf K9.out
           have hhc:wh.cell? ⟨gv,1,none⟩=some (.slice FA j fc):=hbh.cell 1
           have hhf:=hbh.frozen 1
           have hic:wi.cell? ⟨gv,2,none⟩=some (.slice KA j kc):=hbi.cell 2
           have hqc:wq.cell? ⟨gv,2,none⟩=some (.slice KA j kc):=hbq.cell 2
           have hqf:=hbq.frozen 2
           have HIN2:=qa hin2
           have HWI:=qa hwi
           have HWL:=qa hwl
           clear hbf hbh hbi hbq hin2 hof hfree hwl
           go_wp2_with (at_builtin;refine wpList_append_run rfl _ _ _ _ rfl rfl rfl hrun1 ?_;refine qbj ?_)
           refine⟨?_⟩
           clear hrun1 p1 r0 r1 r2
           go_wp2_with (at_builtin;refine wpList_append_run rfl _ _ _ _ rfl rfl rfl hrun2 ?_)
           try rw[HWL.out]
           go_roundw
           case rel=>exact⟨j+1,k4,its++[⟨⟨fe.b,fe.gs,fe.rs,ck⟩,fe,Gk⟩],FA',fc',KA',kc',by omega,by go_num,by first | exact HIN2.out | (rw[HWL.out];exact HIN2.out)⟩
           case measure=>simp[intOf];omega
         ·
          have hne:(L != z2)=true:=by simpa using hlm
          have HNRD:Hid (∀n gs,¬xo b n gs):=HNO.out (seg_none HMR.out HNR.out (qlu HOT.out.grps (grp_none HMR2.out (cols_none HIN.out.cols (by
           by_cases he3:e3=0
           ·
            rw[he3] at HTG HC
            exact col_none2 HTG.out HC.out (.inl fun hf=>hlm (by have:=HLL.out;have:=HZ2.out;omega))
           ·
            exact col_none1 HTG.out he3)) (by omega)) hlt))
          clear hlm
          refine wp_region_held_drew (S:=fun w'=>Below we.heap.size we w') (by kernel_rfl) KD.out (fun hHeld => ?_)
          refine tk 0 ?_ rfl hHeld ?_ ?_ (hQ:=fun _ _ _ h=>HPN.out _ _ _ _ h rfl)
          rotate_left
          focus (intro W hSw;go_simp;try with_reducible rfl)
          try simp only[jt,Act.put]
          refine tk 2 ?_ rfl hHeld ?_ ?_ (hQ:=fun _ _ _ h=>HPN.out _ _ _ _ h rfl)
          rotate_left
          focus (intro W hSw;go_simp;try with_reducible rfl)
          try simp only[jt,Act.put]
          refine tk 3 ?_ rfl hHeld ?_ ?_ (hQ:=fun _ _ _ h=>HPN.out _ _ _ _ h rfl)
          rotate_left
          focus (intro W hSw;have q0:=HGC.out W hSw;go_simp;try with_reducible rfl)
          try simp only[jt,Act.put]
          obtain⟨wx,hwx⟩:∃q,we.drew=q:=⟨_,rfl⟩
          rw[hwx] at hHeld ⊢
          clear KD hwx
          have K0:=qa hHeld
          refine wpAnyH_ready (rs:=[1]) (by kernel_rfl) (by simp) ?_
          refine qu (o:=_) rfl (fun K hK => ?_) q5
          go_simp
          refine(HLN.out _ K0.out).mono ?_
          rintro r wy ⟨rfl,rfl⟩
          refine hK.out _ _ K0.out (fun hHeld => ?_)
          clear hK K
          try simp only[jt,Act.put]
          refine tk 4 ?_ rfl hHeld ?_ ?_ (hQ:=fun _ _ _ h=>HPN.out _ _ _ _ h rfl)
          rotate_left
          focus (intro W hSw;go_simp;try with_reducible rfl)
          try simp only[jt,Act.put]
          refine tk 5 ?_ rfl hHeld ?_ ?_ (hQ:=fun _ _ _ h=>HPN.out _ _ _ _ h rfl)
          rotate_left
          focus (intro W hSw;go_simp;try with_reducible rfl)
          try simp only[jt,Act.put]
          refine ts 6 rfl hHeld ?_ (hQ:=fun _ _ _ h=>HPN.out _ _ _ _ h rfl)
          try simp only[jt,Act.put]
          refine ts 7 rfl hHeld ?_ (hQ:=fun _ _ _ h=>HPN.out _ _ _ _ h rfl)
          try simp only[jt,Act.put]
          refine ts 8 rfl hHeld ?_ (hQ:=fun _ _ _ h=>HPN.out _ _ _ _ h rfl)
          try simp only[jt,Act.put]
          refine ts 9 rfl hHeld ?_ (hQ:=fun _ _ _ h=>HPN.out _ _ _ _ h rfl)
          try simp only[jt,Act.put]
          refine ts 10 rfl hHeld ?_ (hQ:=fun _ _ _ h=>HPN.out _ _ _ _ h rfl)
          try simp only[jt,Act.put]
          refine ts 11 rfl hHeld ?_ (hQ:=fun _ _ _ h=>HPN.out _ _ _ _ h rfl)
          try simp only[jt,Act.put]
          refine tk 12 ?_ rfl hHeld ?_ ?_ (hQ:=fun _ _ _ h=>HPN.out _ _ _ _ h rfl)
          rotate_left
          focus (intro W hSw;go_simp;try with_reducible rfl)
          try simp only[jt,Act.put]
          refine wpAnyH_done (by kernel_rfl) ?_ _
          go_wp2_with fail
          go_step3
          change Qx (.goto 0) _ _
          rw[←HQ.out]
          exact qc0 ⟨rfl,rfl,BE.out.trans (K0.out.mono BE.out.size),HNRD.out⟩
        ·
         have ij:¬(j:Int)<z:=by have:=HZ.out;omega
         obtain rfl:j=nc:=by omega
         have HGR:=qa (grp_some HMR2.out HMN.out HIN.out.cols)
         have hin3:=HIN.out.same ((Out.refl wj (fun _=>False)).drew)
         obtain⟨hbr,A3,c3,wq,hrun,hbq,hgq,wl,hwl,hgl,rs',hot',hol⟩:=HOT.out.push (by omega) (by omega) (by omega) (by omega) HOB.out hBa hgvb hB2 hsa hin3 HGR.out
         have hgvr:=hin3.blk
         rw[HZ.out] at hbr hbq
         rw[HZ2.out] at hgvr hgq hgl hrun
         have p1:wj.drew.cell? ⟨w.heap.size,1,none⟩=some (.slice A' i c'):=hbr.cell 1
         have g0:wj.drew.cell? ⟨gv,0,none⟩=some (.int .i64 z2):=hgvr.cell 0
         have g1:wj.drew.cell? ⟨gv,1,none⟩=some (.slice FA j fc):=hgvr.cell 1
         have g2:wj.drew.cell? ⟨gv,2,none⟩=some (.slice KA j kc):=hgvr.cell 2
         have g0a:(wj.alloc (.cells #[.int .i64 z2,.slice FA j fc,.slice KA j kc] 128)).cell? ⟨w.heap.size,1,none⟩=some (.slice A' i c'):=(World.cell?_alloc_lt wj _ ⟨w.heap.size,1,none⟩ (by show w.heap.size<wj.heap.size;omega)).trans p1
         have hba:=hbr.alloc (.cells #[.int .i64 z2,.slice FA j fc,.slice KA j kc] 128)
         have p1a:=hba.cell 1
         simp only[zo,zf,zg] at p1a
         have q1:wq.cell? ⟨w.heap.size,1,none⟩=some (.slice A' i c'):=hbq.cell 1
         have qf:=hbq.frozen 1
         have l0:wl.cell? ⟨gv,0,none⟩=some (.int .i64 z2):=hgl.cell 0
         have HOT2:=qa hot'
         have HOL:=qa hol
         have HWL:=qa hwl
         have hml2:m≤left:=by omega
         have HLF:Hid (wrap64 ((left:Int)-z2)=((left-m:Nat):Int)):=by
          unfold Hid
          rw[show(left:Int)-z2=((left-m:Nat):Int) by (have:=HZ2.out;omega)]
          exact ud _ (by omega)
         clear hbr hbq hgq hgl hot' hol hin3 hgvr hba
         go_wp2_with fail
         skip
         refine wp_region_held_drew (S:=fun _=>True) (by kernel_rfl) trivial (fun hHeld => ?_)
         refine tk 0 ?_ rfl hHeld ?_ ?_ (hQ:=fun _ _ _ h=>HPN.out _ _ _ _ h rfl)
         rotate_left
         focus (intro W hSw;go_simp;try with_reducible rfl)
         try simp only[jt,Act.put]
         refine tk 1 ?_ rfl hHeld ?_ ?_ (hQ:=fun _ _ _ h=>HPN.out _ _ _ _ h rfl)
         rotate_left
         focus (intro W hSw;go_simp;try with_reducible rfl)
         try simp only[jt,Act.put]
         refine tk 2 ?_ rfl hHeld ?_ ?_ (hQ:=fun _ _ _ h=>HPN.out _ _ _ _ h rfl)
         rotate_left
         focus (intro W hSw;go_simp;try with_reducible rfl)
         try simp only[jt,Act.put]
         refine tk 3 ?_ rfl hHeld ?_ ?_ (hQ:=fun _ _ _ h=>HPN.out _ _ _ _ h rfl)
         rotate_left
         focus (intro W hSw;go_simp;try with_reducible rfl)
         try simp only[jt,Act.put]
         refine wpAnyH_ready (rs:=[4,5]) (by kernel_rfl) (by simp) ?_
         refine qu (o:=_) rfl (fun K hK => ?_) (qu (o:=_) rfl (fun K hK => ?_) q5)
         ·
          go_simp
          refine hK.out _ _ trivial (fun hHeld => ?_)
          clear hK K
          try simp only[jt,Act.put]
          refine wpAnyH_ready (rs:=[5]) (by kernel_rfl) (by simp) ?_
          refine qu (o:=_) rfl (fun K hK => ?_) q5
          go_simp
          refine hK.out _ _ trivial (fun hHeld => ?_)
          clear hK K
          try simp only[jt,Act.put]
          refine wpAnyH_ready (rs:=[6]) (by kernel_rfl) (by simp) ?_
          refine qu (o:=_) rfl (fun K hK => ?_) q5
          go_simp
          refine hK.out _ _ trivial (fun hHeld => ?_)
          clear hK K
          try simp only[jt,Act.put]
          refine wpAnyH_ready (rs:=[7]) (by kernel_rfl) (by simp) ?_
          refine qu (o:=_) rfl (fun K hK => ?_) q5
          refine qae (.tmp 84) (.tmp 86) _ _ rfl rfl rfl hrun ?_
          refine hK.out _ _ trivial (fun hHeld => ?_)
          clear hK K
          try simp only[jt,Act.put]
          refine tk 8 ?_ rfl hHeld ?_ ?_ (hQ:=fun _ _ _ h=>HPN.out _ _ _ _ h rfl)
          rotate_left
          focus (intro W hSw;go_simp;try with_reducible rfl)
          try simp only[jt,Act.put]
          refine tk 9 ?_ rfl hHeld ?_ ?_ (hQ:=fun _ _ _ h=>HPN.out _ _ _ _ h rfl)
          rotate_left
          focus (intro W hSw;go_simp;try with_reducible rfl)
          try simp only[jt,Act.put]
          refine wpAnyH_ready (rs:=[10]) (by kernel_rfl) (by simp) ?_
          refine qu (o:=_) rfl (fun K hK => ?_) q5
          go_simp
          refine hK.out _ _ trivial (fun hHeld => ?_)
          clear hK K
          try simp only[jt,Act.put]
          refine wpAnyH_done (by kernel_rfl) ?_ _
          try rw[HWL.out]
          go_wp2_with fail
          go_roundw
          case rel=>exact⟨i+1,left-m,kq,rs',A3,c3,by omega,by go_num,by first | rfl | exact congrArg (Value.int .i64) HLF.out | simp only[HLF.out],by omega,by first | exact HOT2.out | (rw[HWL.out];exact HOT2.out),by first | exact HB.out.trans (HOL.out.below (by have:=HB.out.size;omega) (fun k hk=>by rcases hk with hk | hk | hk <;> (have:=Bb.out.size;omega))) | (rw[HWL.out];exact HB.out.trans (HOL.out.below (by have:=HB.out.size;omega) (fun k hk=>by rcases hk with hk | hk | hk <;> (have:=Bb.out.size;omega))))⟩
          case measure=>simp[intOf];omega
         ·
          go_simp
          refine hK.out _ _ trivial (fun hHeld => ?_)
          clear hK K
          try simp only[jt,Act.put]
          refine wpAnyH_ready (rs:=[4,6]) (by kernel_rfl) (by simp) ?_
          refine qu (o:=_) rfl (fun K hK => ?_) (qu (o:=_) rfl (fun K hK => ?_) q5)
          ·
           go_simp
           refine hK.out _ _ trivial (fun hHeld => ?_)
           clear hK K
           try simp only[jt,Act.put]
           refine wpAnyH_ready (rs:=[6]) (by kernel_rfl) (by simp) ?_
           refine qu (o:=_) rfl (fun K hK => ?_) q5
           go_simp
           refine hK.out _ _ trivial (fun hHeld => ?_)
           clear hK K
           try simp only[jt,Act.put]
           refine wpAnyH_ready (rs:=[7]) (by kernel_rfl) (by simp) ?_
           refine qu (o:=_) rfl (fun K hK => ?_) q5
           refine qae (.tmp 84) (.tmp 86) _ _ rfl rfl rfl hrun ?_
           refine hK.out _ _ trivial (fun hHeld => ?_)
           clear hK K
           try simp only[jt,Act.put]
           refine tk 8 ?_ rfl hHeld ?_ ?_ (hQ:=fun _ _ _ h=>HPN.out _ _ _ _ h rfl)
           rotate_left
           focus (intro W hSw;go_simp;try with_reducible rfl)
           try simp only[jt,Act.put]
           refine tk 9 ?_ rfl hHeld ?_ ?_ (hQ:=fun _ _ _ h=>HPN.out _ _ _ _ h rfl)
           rotate_left
           focus (intro W hSw;go_simp;try with_reducible rfl)
           try simp only[jt,Act.put]
           refine wpAnyH_ready (rs:=[10]) (by kernel_rfl) (by simp) ?_
           refine qu (o:=_) rfl (fun K hK => ?_) q5
           go_simp
           refine hK.out _ _ trivial (fun hHeld => ?_)
           clear hK K
           try simp only[jt,Act.put]
           refine wpAnyH_done (by kernel_rfl) ?_ _
           try rw[HWL.out]
           go_wp2_with fail
           go_roundw
           case rel=>exact⟨i+1,left-m,kq,rs',A3,c3,by omega,by go_num,by first | rfl | exact congrArg (Value.int .i64) HLF.out | simp only[HLF.out],by omega,by first | exact HOT2.out | (rw[HWL.out];exact HOT2.out),by first | exact HB.out.trans (HOL.out.below (by have:=HB.out.size;omega) (fun k hk=>by rcases hk with hk | hk | hk <;> (have:=Bb.out.size;omega))) | (rw[HWL.out];exact HB.out.trans (HOL.out.below (by have:=HB.out.size;omega) (fun k hk=>by rcases hk with hk | hk | hk <;> (have:=Bb.out.size;omega))))⟩
           case measure=>simp[intOf];omega
          ·
           go_simp
           refine hK.out _ _ trivial (fun hHeld => ?_)
           clear hK K
           try simp only[jt,Act.put]
           refine wpAnyH_ready (rs:=[4]) (by kernel_rfl) (by simp) ?_
           refine qu (o:=_) rfl (fun K hK => ?_) q5
           go_simp
           refine hK.out _ _ trivial (fun hHeld => ?_)
           clear hK K
           try simp only[jt,Act.put]
           refine wpAnyH_ready (rs:=[7]) (by kernel_rfl) (by simp) ?_
           refine qu (o:=_) rfl (fun K hK => ?_) q5
           refine qae (.tmp 84) (.tmp 86) _ _ rfl rfl rfl hrun ?_
           refine hK.out _ _ trivial (fun hHeld => ?_)
           clear hK K
           try simp only[jt,Act.put]
           refine tk 8 ?_ rfl hHeld ?_ ?_ (hQ:=fun _ _ _ h=>HPN.out _ _ _ _ h rfl)
           rotate_left
           focus (intro W hSw;go_simp;try with_reducible rfl)
           try simp only[jt,Act.put]
           refine tk 9 ?_ rfl hHeld ?_ ?_ (hQ:=fun _ _ _ h=>HPN.out _ _ _ _ h rfl)
           rotate_left
           focus (intro W hSw;go_simp;try with_reducible rfl)
           try simp only[jt,Act.put]
           refine wpAnyH_ready (rs:=[10]) (by kernel_rfl) (by simp) ?_
           refine qu (o:=_) rfl (fun K hK => ?_) q5
           go_simp
           refine hK.out _ _ trivial (fun hHeld => ?_)
           clear hK K
           try simp only[jt,Act.put]
           refine wpAnyH_done (by kernel_rfl) ?_ _
           try rw[HWL.out]
           go_wp2_with fail
           go_roundw
           case rel=>exact⟨i+1,left-m,kq,rs',A3,c3,by omega,by go_num,by first | rfl | exact congrArg (Value.int .i64) HLF.out | simp only[HLF.out],by omega,by first | exact HOT2.out | (rw[HWL.out];exact HOT2.out),by first | exact HB.out.trans (HOL.out.below (by have:=HB.out.size;omega) (fun k hk=>by rcases hk with hk | hk | hk <;> (have:=Bb.out.size;omega))) | (rw[HWL.out];exact HB.out.trans (HOL.out.below (by have:=HB.out.size;omega) (fun k hk=>by rcases hk with hk | hk | hk <;> (have:=Bb.out.size;omega))))⟩
           case measure=>simp[intOf];omega
     ·
      have ik:¬(i:Int)<(cn:Int):=by omega
      obtain rfl:i=cn:=by omega
      have HEN:=qa (end_any HOT.out.cur)
      unfold cp at HEN
      have hot:=HOT.out
      have HSEG:Hid (qla wk w.heap.size w.heap.size nc (rs.map Gr.toS)):=by
       refine⟨rs,A',c',rfl,by rw[hot.len];exact hot.blk,qc _,?_,fun r hr=>(hot.grs.now r hr).wide (by omega)⟩
       have h1:=hot.row
       rw[←hot.len] at h1
       exact(els_own (k:=3) qgq (by decide) (fun _=>rfl) h1).wide (by omega) (qc _)
      by_cases hen:qhy bs kp e1=0
      ·
       have heb:(qhy bs kp e1==0)=true:=by simpa using hen
       have he1:e1=0:=by
        unfold qhy at hen
        by_cases h:e1≠0
        ·
         rw[if_pos h] at hen;exact hen
        ·
         simpa using h
       have hkp:¬kp<bs.length:=fun hk=>by
        unfold qhy at hen
        rw[if_neg (by simpa using he1),if_pos hk] at hen
        exact absurd hen (by decide)
       subst he1
       have HRD:=qa (HRO.out nc _ (seg_some HMR.out HNC.out HNR.out hot.grps hkp))
       generalize qhy bs kp 0=ez at *
       clear hen hkp hot
       go_wp2_with fail
       refine HEN.out.mono ?_
       rintro r we ⟨rfl,nn,rfl⟩
       go_wp2_with fail
       change Qx .ret _ _
       rw[←HQ.out]
       refine qew ?_
       go_ret2
       exact⟨js HB.out _,.inl ⟨_,nc,_,rfl,HRD.out,HSEG.out.below (js (Below.refl _ wk) nn)⟩⟩
      ·
       have heb:(qhy bs kp e1==0)=false:=by simpa using hen
       have HNRD:Hid (∀n gs,¬xo b n gs):=by
        refine HNO.out ?_
        by_cases he1:e1=0
        ·
         subst he1
         refine seg_left HMR.out HNR.out hot.grps ?_
         apply Classical.byContradiction
         intro hk
         apply hen
         unfold qhy
         rw[if_neg (by simp),if_neg hk]
        ·
         exact seg_err HMR.out (by rw[HNR.out];exact he1)
       generalize qhy bs kp e1=ez at *
       clear hen hot
       go_wp2_with fail
       refine HEN.out.mono ?_
       rintro r we ⟨rfl,nn,rfl⟩
       go_wp2_with fail
       go_step3
       go_wp2_with fail
       change Qx .ret _ _
       rw[←HQ.out]
       refine qew ?_
       go_ret2
       exact⟨js HB.out _,.inr ⟨rfl,HNRD.out⟩⟩
  ·
   rintro⟨tm,ds⟩ W ⟨h1,h2,h3,h4⟩
   simp only at h1 h2
   subst h2
   go_wp2_with fail
   refine qew ?_
   obtain⟨e2,e3⟩:=getD_two tm h1 (.pointer none) (.int .i64 4)
   refine bodyPost_ret (v:= .tuple #[.pointer none,.int .i64 4]) ?_ rfl ⟨h3,.inr ⟨rfl,h4⟩⟩
   rw[results_tmp2 (t:=2) (u:=3) rfl,e2,e3]
 ·
  have hnr:∀n gs,¬xo b n gs:=fun n gs h2=>hse h2.1
  have HOP:Hid (Calls Tryz.prog 63 #[.slice A b.length c] w1 fun r w'=>r= .returned (.tuple #[.slice none 0 0,.bool false])∧Below w1.heap.size w1 w'):=by
   by_cases h4:b.length<4
   ·
    exact open_short b HA1.out (by omega) h4
   ·
    exact open_no b HA1.out (by omega) (by omega) (by simpa using hse)
  have HNW:=qa (fun w=>new_any [] w (Rd.nil w 0 w.heap.size) (by simp))
  clear HA HA1 hse HO hbuildg
  go_enter Tryz.func59,Tryz.ntmps59
  go_wp2_with fail
  refine wp_scope_jumps 0 (CorJ b w) (fun _ _=>0) rfl ?_ ?_
  ·
   generalize hQ:Exit.jump 0 (CorJ b w) _=Qx
   go_wp2_with fail
   refine HOP.out.mono ?_
   rintro r w2 ⟨rfl,hb2⟩
   have B2:Hid (Below w.heap.size w w2):=B1.out.trans (hb2.mono B1.out.size)
   have HN2:=qa (HNW.out w2)
   clear hb2 HOP HNW
   go_wp2_with fail
   refine HN2.out.mono ?_
   rintro r w3 ⟨cg,rfl, -,hb3⟩
   have B3:Hid (Below w.heap.size w w3):=B2.out.trans (hb3.mono B2.out.size)
   clear hb3 HN2
   go_wp2_with fail
   go_step3
   change Qx (.goto 0) _ _
   subst hQ
   exact qc0 ⟨rfl,rfl,B3.out,hnr⟩
  ·
   rintro⟨tm,ds⟩ W ⟨h1,h2,h3,h4⟩
   simp only at h1 h2
   subst h2
   go_wp2_with fail
   refine qew ?_
   obtain⟨e2,e3⟩:=getD_two tm h1 (.pointer none) (.int .i64 4)
   refine bodyPost_ret (v:= .tuple #[.pointer none,.int .i64 4]) ?_ rfl ⟨h3,.inr ⟨rfl,h4⟩⟩
   rw[results_tmp2 (t:=2) (u:=3) rfl,e2,e3]
end Go.Proofs.YtjfecojdagmacaaGreat
