/-
  What is handed to Write stays, what Write answers isn't kept by Read, and the rows that Rows answers are new; or the rows may not be written, or are many, or awake says so.
-/
import Derived.Test.YtnjkipnklpkaoaaGreatA58
import Derived.Test.YtnjkipnklpkaoaaGreatA61
import Derived.SliceStrings
namespace Go.Proofs.YtnjkipnklpkaoaaGreat
set_option maxRecDepth 20000
set_option maxHeartbeats 16000000
set_option linter.unusedSimpArgs false
set_option linter.unusedVariables false
open Go.RowKit Go.ChangeShapes Go.WideShapes Go.ChangeAt
attribute [local go_sem] qbp
theorem segmentKeeps_walk{w:World}{A B:Option Addr}{rs:List (List Vl)}{os:List Co}{c d:Nat}(hg:vr w 0 w.heap.size A c rs∧SizedQ rs)(cols:Int)(hc:(Lit.int .i64 cols).wf=true)(ho:qbu w 0 w.heap.size B d os) :
  Calls Tryz.prog 8 #[.slice A rs.length c,.int .i64 cols,.slice B os.length d] w fun e w'=>e= .returned (.bool true)∧Below w.heap.size w w':=by
 obtain⟨hg,hz⟩:=hg
 obtain⟨hl,hm⟩:=hg.len
 obtain⟨hl2,hm2⟩:=ho.len
 have HR:Hid (∀W,Below w.heap.size w W→vr W 0 W.heap.size A c rs):=fun W hW=>(hg.below hW (qc _)).wide (qc _) hW.size
 have HO:Hid (∀W,Below w.heap.size w W→qbu W 0 W.heap.size B d os):=fun W hW=>(ho.below hW (qc _)).wide (qc _) hW.size
 have HZ:Hid (qoi [rs]):=fun g hg=>by
  obtain rfl:g=rs:=by simpa using hg
  exact hz
 have HAW:=qa (uf (w:=w))
 clear hg ho hz hc
 go_enter Tryz.func8,Tryz.ntmps8
 go_wp2_with fail
 refine HAW.out.mono ?_
 rintro r w2 ⟨rfl,hb2⟩
 have B2:=qa hb2
 obtain⟨w3,hw3⟩:∃x,Hid (w2.alloc (.cells #[.slice A rs.length c] 41)=x):=⟨_,rfl⟩
 have b3:Below w2.heap.size w2 w3:=by rw[←hw3.out];exact(Below.refl _ w2).alloc (qc _) _
 have B3:Hid (Below w.heap.size w w3):=B2.out.trans (b3.mono B2.out.size)
 have hfw:=qkh (grp_lit1 (HR.out w2 hb2) hw3.out) (HO.out w3 B3.out) HZ.out
 rw[show([rs]:List (List (List Vl))).length=1 from rfl] at hfw
 have HFW:=qa hfw
 have HAW3:=qa (uf (w:=w3))
 clear hb2 HAW b3 hfw
 go_wp2_with fail
 rw[hw3.out]
 clear hw3
 refine HFW.out.mono ?_
 rintro r w3' ⟨⟨b,rfl,hbf⟩,rfl⟩
 clear HFW
 cases b with
 | false =>
  go_wp2_with fail
  refine HAW3.out.mono ?_
  rintro r w4 ⟨rfl,hb4⟩
  go_wp2_with fail
  go_ret
  exact⟨rfl,B3.out.trans (hb4.mono B3.out.size)⟩
 | true =>
  have HF:=qa (hbf rfl)
  clear hbf
  by_cases h2:rs.length<1
  ·
   have i2:(rs.length:Int)<1:=by omega
   go_wp2_with fail
   refine HAW3.out.mono ?_
   rintro r w4 ⟨rfl,hb4⟩
   go_wp2_with fail
   go_ret
   exact⟨rfl,B3.out.trans (hb4.mono B3.out.size)⟩
  have i2:¬(rs.length:Int)<1:=by omega
  obtain⟨rA,rc,hrr⟩:=HR.out w3 B3.out
  have HRO:=qa (rowsp_any hrr (qc _) cols)
  clear hrr
  go_wp2_with fail
  refine HRO.out.mono ?_
  rintro r w4 ⟨rfl,hb4⟩
  have B4:Hid (Below w.heap.size w w4):=B3.out.trans (hb4.mono B3.out.size)
  have HAW4:=qa (uf (w:=w4))
  clear hb4 HRO HAW3
  cases rowsP rs cols with
  | false =>
   go_wp2_with fail
   refine HAW4.out.mono ?_
   rintro r w5 ⟨rfl,hb5⟩
   go_wp2_with fail
   go_ret
   exact⟨rfl,B4.out.trans (hb5.mono B4.out.size)⟩
  | true =>
   clear HAW4
   obtain⟨w5,hw5⟩:∃x,Hid (w4.alloc (.cells #[.slice A rs.length c] 41)=x):=⟨_,rfl⟩
   have b5:Below w4.heap.size w4 w5:=by rw[←hw5.out];exact(Below.refl _ w4).alloc (qc _) _
   have B5:Hid (Below w.heap.size w w5):=B4.out.trans (b5.mono B4.out.size)
   have hwr5:=qgy cols 0 (grp_lit1 (HR.out w4 B4.out) hw5.out) (HO.out w5 B5.out) HF.out (qj1 _ _)
   rw[show([rs]:List (List (List Vl))).length=1 from rfl] at hwr5
   have HWR:=qa hwr5
   clear b5 hwr5
   go_wp2_with fail
   rw[hw5.out]
   clear hw5
   refine HWR.out.mono ?_
   rintro r w6 ⟨hb6,⟨hR,hT,A6,c6,rfl,ho6⟩ | ⟨hn,rfl⟩⟩
   case inr =>
    have B6:Hid (Below w.heap.size w w6):=B5.out.trans (hb6.mono B5.out.size)
    clear hb6 HWR hn
    go_wp2_with fail
    go_ret
    exact⟨rfl,B6.out⟩
   have B6:Hid (Below w.heap.size w w6):=B5.out.trans (hb6.mono B5.out.size)
   have hncol:0<os.length:=by have:=hR.2.2.1;have:=hR.1;omega
   obtain⟨bs,GS,hbs,hTR,hRS,hRT, -, -,⟨-,hb1⟩, -⟩:=qmm hR hT HF.out
   rw[hbs] at ho6 ⊢
   have HTR:=qa hTR
   have HRS:Hid (qeu GS=rs):=by unfold Hid;rw[hRS];simp
   have HRT:Hid (qas GS=rs.length):=by unfold Hid;rw[hRT];simp[ki]
   have HWD:Hid (∀r∈rs,r.length=os.length):=(hR.2.2.2.2.2.2.2 rs (by simp)).2.1
   have HO6:=qa ho6
   have hs56:=hb6.size
   have HRD:=qa (qe9 (b:=bs) ((Rd.of_own HO6.out).wide (qi _) (qc _)) hb1 (qex hb1))
   clear hb6 ho6 HWR hR hT hbs hTR hRS hRT
   go_wp2_with fail
   refine HRD.out.mono ?_
   rintro r w7 ⟨hb7,⟨G,n,gs',rfl,hok,hsm⟩ | ⟨-,hn⟩⟩
   case inr=>exact absurd HTR.out (hn _ _)
   obtain⟨rfl,rfl⟩:=hok.one HTR.out
   have HOK:=qa hok.ok
   have B7:Hid (Below w.heap.size w w7):=B6.out.trans (hb7.mono B6.out.size)
   have HO7:=qa (js HO6.out hb7 (qc _))
   have HSM:=qa hsm
   have hs67:=hb7.size
   have HLT:Hid (∀g,Value.ownBlock (.slice A6 bs.length c6)=some g→w5.heap.size≤g∧g<w6.heap.size):=fun g hg=>zk HO6.out hg
   have hbc:bs.length≤c6∧c6≤9223372036854775807:=by
    have h1:=(Rd.of_own HO6.out).len
    have h2:=(Rd.of_own HO6.out).cap
    rw[yh] at h1
    simp only[maxLen] at h2
    exact⟨h1,by omega⟩
   clear hok hsm hb7 HRD HO6 HTR
   go_wp2_with fail
   go_loopw [11] (fun i wr=>∃(k:Nat) (xs:List Value),k≤bs.length∧i= .int .i64 (k:Int)∧Hid (wr.ownsRow w5.heap.size 5 1 (.slice A6 bs.length c6) bs.length xs)∧Hid (∀j,k≤j→xs[j]? = (bv bs)[j]?)∧Hid (w7.grownBy wr (Value.ownBlock (.slice A6 bs.length c6)))) (fun i _=>bs.length-(intOf i).toNat)
   case atStart=>exact⟨0,_,qi _,rfl,HO7.out,fun _ _=>rfl,vc _ _⟩
   case round =>
    clear HO7
    obtain⟨k,xs,hk,rfl,HW,HX,HG⟩:=hrel
    by_cases hlt:k<bs.length
    ·
     have ik:(k:Int)<(bs.length:Int):=by omega
     have ik0:(0:Int)≤(k:Int):=by omega
     obtain⟨go,rfl,hgo,hgo2⟩:=qdh HW.out (by omega)
     have hcell:wr.cell? ⟨go,k,none⟩=some (.int .u8 (bs[k].toNat:Int)):=by
      rw[HW.out.cellAt k (by omega),HX.out k (qc _),qks bs k hlt]
     have hfr:=HW.out.frozenAt k
     have HS:=fun u=>qa (HW.out.stored k u)
     have hx256:bs[k].toNat<256:=zp _
     generalize bs[k].toNat=x at *
     clear HW
     go_wp2_with fail
     go_roundw
     case rel =>
      refine⟨k+1,_,by omega,by go_num,(HS _).out.1,fun j hj => ?_,HG.out.trans (HS _).out.2⟩
      rw[qbm (by omega)]
      exact HX.out j (by omega)
     case measure=>simp[intOf];omega
    ·
     have ik:¬(k:Int)<(bs.length:Int):=by omega
     obtain⟨w8,rfl⟩:∃x,x=wr:=⟨_,rfl⟩
     have hgr:=HG.out
     clear HW HX HG
     have hsm8:=HSM.out.out (Out.of_gb (X:=fun i=>Value.ownBlock (.slice A6 bs.length c6)=some i) hgr (fun k hk=>hk)) (fun k h1 _ hx=>by have:=(HLT.out k hx).2;omega)
     have B8:Hid (Below w.heap.size w w8):=B7.out.grown hgr B7.out.size (fun g hg=>by have:=(HLT.out g hg).1;have:=B5.out.size;omega)
     have HS8:=qa hsm8
     have HRW:=qa (qhc hsm8 HOK.out HRT.out)
     clear hgr hsm8
     go_wp2_with fail
     refine HRW.out.mono ?_
     rintro r w9 ⟨Ax,cx,xs9,rfl,ho9,hro9,hb9⟩
     rw[HRS.out] at hro9
     have HX9:=qa (hro9.any rfl HWD.out hncol)
     have HO9:=qa ho9
     have HB9:=qa hb9
     have hxb:rs.length≤cx∧cx≤9223372036854775807:=by
      have h1:=(Rd.of_own ho9).len
      have h2:=(Rd.of_own ho9).cap
      rw[HX9.out.1] at h1
      simp only[maxLen] at h2
      exact⟨h1,by omega⟩
     clear hb9 ho9 hro9 HRW
     go_wp2_with fail
     have hxl:xs9.length=rs.length:=HX9.out.1
     have HXL:=qa hxl
     clear hxl
     go_loopw [13] (fun i wv=>∃k:Nat,k≤rs.length∧i= .int .i64 (k:Int)∧Hid (wv.ownsRow w8.heap.size 61 1 (.slice Ax rs.length cx) rs.length xs9)∧Hid (qqv wv w8.heap.size (Value.slice Ax rs.length cx).ownBlock xs9 rs.length os.length)∧Below w8.heap.size w8 wv) (fun i _=>rs.length-(intOf i).toNat)
     case atStart=>exact⟨0,qi _,rfl,HO9.out,HX9.out,HB9.out⟩
     case round =>
      clear HO9 HX9 HB9
      obtain⟨k,hk,rfl,HOV,HXV,hbv⟩:=hrel
      obtain⟨wv,rfl⟩:∃x,x=wr:=⟨_,rfl⟩
      have HBV:=qa hbv
      clear hbv
      by_cases hlt:k<rs.length
      ·
       have ik:(k:Int)<(rs.length:Int):=by omega
       have ik0:(0:Int)≤(k:Int):=by omega
       obtain⟨gx,rfl,hgx,hgx2⟩:=qdh HOV.out (by omega)
       go_wp2_with fail
       go_loopw [14] (fun i wu=>∃j:Nat,j≤os.length∧i= .int .i64 (j:Int)∧Hid (wu.ownsRow w8.heap.size 61 1 (.slice (some ⟨gx,0,none⟩) rs.length cx) rs.length xs9)∧Hid (qqv wu w8.heap.size (Value.slice (some ⟨gx,0,none⟩) rs.length cx).ownBlock xs9 rs.length os.length)∧Below w8.heap.size w8 wu) (fun i _=>os.length-(intOf i).toNat)
       case atStart=>exact⟨0,qi _,rfl,HOV.out,HXV.out,HBV.out⟩
       case round =>
        clear HOV HXV HBV
        obtain⟨j,hj,rfl,HOU,HXU,hbu⟩:=hrel
        obtain⟨wu,rfl⟩:∃x,x=wr:=⟨_,rfl⟩
        have HBU:=qa hbu
        clear hbu
        obtain⟨g,c9,ys,hxk,how,hne⟩:=HXU.out.2 k hlt
        have hcx:wu.cell? ⟨gx,k,none⟩=some (.slice (some ⟨g,0,none⟩) os.length c9):=by
         rw[HOU.out.cellAt k (by omega),hxk]
        have hoc:os.length≤c9∧c9≤9223372036854775807:=by
         have h1:=how.2
         rcases h1 with ⟨hv,_⟩ | ⟨g',cap,cur,hv,_,_,h3,h4,_⟩
         ·
          injection hv with e1 e2 e3
          cases e1
         ·
          injection hv with e1 e2 e3
          subst e3
          simp only[maxLen] at h4
          exact⟨h3,by omega⟩
        by_cases hjn:j<os.length
        ·
         have ij:(j:Int)<(os.length:Int):=by omega
         have ij0:(0:Int)≤(j:Int):=by omega
         have hyl:ys.length=os.length*2:=how.1
         have hg9:w8.heap.size≤g:=(zk how rfl).1
         have fr0:=how.frozenAt (j*2)
         have fr1:=how.frozenAt (j*2+1)
         have c0:wu.cell? ⟨g,j*2,none⟩=some (ys[j*2]'(by omega)):=by
          rw[how.cellAt (j*2) (by omega),qe (by omega)]
         have c1:wu.cell? ⟨g,j*2+1,none⟩=some (ys[j*2+1]'(by omega)):=by
          rw[how.cellAt (j*2+1) (by omega),qe (by omega)]
         have HX2:=qa ((HXU.out.set hlt hxk (j*2) (.bool false)).set hlt hxk (j*2+1) (.string ⟨#[63]⟩))
         have hne2:(Value.slice (some ⟨gx,0,none⟩) rs.length cx).ownBlock≠some g:=hne
         have HO2:=qa (ownsRow_setCell_other (a:=⟨g,j*2+1,none⟩) (ownsRow_setCell_other (a:=⟨g,j*2,none⟩) HOU.out hne2 (.bool false)) hne2 (.string ⟨#[63]⟩))
         have HB2:=qa ((HBU.out.setCell (p:=⟨g,j*2,none⟩) hg9 (.bool false)).setCell (p:=⟨g,j*2+1,none⟩) hg9 (.string ⟨#[63]⟩))
         have hbd:∀W,(Instr.build 60 #[(1,.string ⟨#[63]⟩)]).run Tryz.prog W= .ok (.agg #[.bool false,.string ⟨#[63]⟩]) W:=fun W=>run_build W _ _ _ (by kernel_rfl)
         generalize ys[j*2]'(by omega)=y0 at *
         generalize ys[j*2+1]'(by omega)=y1 at *
         clear HOU HXU HBU how hne hne2 hyl hxk
         go_wp2_with fail
         go_roundw
         case rel=>exact⟨j+1,by omega,by go_num,HO2.out,HX2.out,HB2.out⟩
         case measure=>simp[intOf];omega
        ·
         have ij:¬(j:Int)<(os.length:Int):=by omega
         clear how hne hxk
         go_wp2_with fail
         go_roundw
         case rel=>exact⟨k+1,by omega,by go_num,HOU.out,HXU.out,HBU.out⟩
         case measure=>simp[intOf];omega
      ·
       have ik:¬(k:Int)<(rs.length:Int):=by omega
       have BV:Hid (Below w.heap.size w wv):=B8.out.trans (HBV.out.mono B8.out.size)
       have HRW2:=qa (qhc (HS8.out.below HBV.out) HOK.out HRT.out)
       clear HOV HXV
       go_wp2_with fail
       refine HRW2.out.mono ?_
       rintro r w20 ⟨A20,c20,xs20,rfl,ho20,hro20,hb20⟩
       have hr20:=qdn.rows hro20 ho20 fun r hr v hv=>ze (qgz HOK.out r hr v hv) (by decide)
       rw[HRS.out] at hr20
       have B20:Hid (Below w.heap.size w w20):=BV.out.trans (hb20.mono BV.out.size)
       have hsm:=qig (la:=rs) (lb:=rs) (hr20.wide (qi _) (qc _)) (HR.out w20 B20.out)
       rw[qp (rfl:rs=rs)] at hsm
       have HSA:=qa hsm
       clear hb20 ho20 hro20 hr20 hsm HRW2
       go_wp2_with fail
       refine HSA.out.mono ?_
       rintro r w21 ⟨rfl,hb21⟩
       have B21:Hid (Below w.heap.size w w21):=B20.out.trans (hb21.mono B20.out.size)
       clear hb21 HSA
       go_wp2_with fail
       go_ret
       exact⟨rfl,B21.out⟩
set_option maxRecDepth 100000 in
theorem segmentKeeps_lifted(os:Os)(started:os.Started)(H:Type)(enc:TypeId×Value→H) :
  ReturnsInHanded {} Tryz.checked os 8 .any (Rows.segmentKeepsSpec.pre6 enc Tryz.prog Tryz.f8 Rows.segmentKeepsRow.domain false) (Rows.segmentKeepsSpec.post enc Tryz.prog Tryz.f8 false true false false):=by
 refine returnsInHanded_of_change_sized (C:=Tryz.checked) own started (by kernel_rfl) Tryz.func8
  (ChangeSpec.witness6 (enc:=enc) (C:=Tryz.checked) false ⟨#[],#[.slice none 0 0,.int .i64 0,.slice none 0 0],[]⟩ 8 (by kernel_rfl) (by kernel_rfl) (by kernel_rfl) (by kernel_rfl)) ?_
 intro W base args ds gs before hval0 hW hcnd hsz0 _
 have hsz:(DataW.weightsEach Tryz.prog (Tryz.f8.params.toList++Rows.segmentKeepsSpec.plain.varTypes Tryz.prog) (ds++gs)).all (· ≤reachBytes)=true:=hsz0
 have hval:∀(j:Nat) t v,Tryz.f8.params[j]? = some t→args[j]? = some v→Value.okWide Tryz.prog W .any base t v:=hval0
 have hW':=hW
 obtain⟨p,q,hA0,hV,rfl,hfz,hnd⟩:=hW
 have hA:DataW.TrodAll enc Tryz.prog W 0 (fun _=>true) true Tryz.f8.params.toList args.toList ds p:=hA0
 have hA1:DataW.TrodAll enc Tryz.prog W 0 (fun _=>true) true Tryz.f8.params.toList args.toList ds p:=hA0
 rw[Tryz.params8] at hA hval hsz
 obtain⟨v0,vs0,d0,ds0,p0,q0,hargs,rfl,rfl,h0,r0⟩:=trodAll_cons hA
 obtain⟨v1,vs1,d1,ds1,p1,q1,rfl,rfl,rfl,h1,r1⟩:=trodAll_cons r0
 obtain⟨v2,vs2,d2,ds2,p2,q2,rfl,rfl,rfl,h2,r2⟩:=trodAll_cons r1
 obtain⟨rfl,rfl,rfl⟩:=trodAll_nil r2
 obtain rfl:args=#[v0,v1,v2]:=by cases args;simp_all
 obtain⟨rfl,rfl⟩:=trodVars_none hV
 obtain⟨A0,a0,c0,rfl,w0⟩:=open_rowsZ (hval 0 41 v0 rfl rfl) h0 (fun n hn=>by have:=jt.1 hsz n (DataW.weights_mem_each (j:=0) (t:=41) rfl rfl n hn);simpa using this)
 obtain⟨a1,rfl,rfl,rfl,w1⟩:=open_int Tryz.underlying3 (hval 1 3 v1 rfl rfl) h1
 obtain⟨A2,a2,c2,rfl,w2⟩:=qmr (hval 2 23 v2 rfl rfl) h2
 clear hA0 hval0
 refine(segmentKeeps_walk (w:=W) w0 a1 w1 w2).mono fun e W' ⟨he,bel⟩ => ?_
 subst he
 exact⟨_,rfl,_,_,_,[],_,[],hW',trodAll_mk1 (shut_bool Tryz.underlying4 _),qd7 qpe bel _ _ _ _ (by kernel_rfl) hA1,rfl,bel.frame _,fun h=>by cases h⟩
theorem segmentKeeps_over:Rows.segmentKeepsRow.holds Tryz.pinned (OpenSpec.ofChange Rows.segmentKeepsSpec) :=
 OpenClaim.holds_of_wide 8 Tryz.f8 rfl rfl rfl rfl rfl rfl rfl ⟨rfl,rfl,rfl,rfl,rfl⟩ rfl rfl rfl rfl rfl (by kernel_rfl) Tryz.func8 (by kernel_rfl)
  (of_decide_eq_true (by kernel_rfl)) (by unfold Func.isWrapper;first | (rw[if_pos (by decide +kernel)];kernel_rfl) | (rw[if_neg (by decide +kernel)];exact⟨rfl,rfl⟩))
  (fun os started H enc _=>segmentKeeps_lifted os started H enc)
theorem segmentKeeps_proved:Rows.SegmentKeepsSaid:=segmentKeeps_over
end Go.Proofs.YtnjkipnklpkaoaaGreat
