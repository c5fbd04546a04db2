/-
  Whatever groups are written are read with the same rows, in the same groups; with a byte of them turned they aren't read; or groups are many, or awake says so.
-/
import Derived.Test.YtnjkipnklpkaoaaGreatA24
import Derived.Test.YtnjkipnklpkaoaaGreatA57
import Derived.SliceStrings
namespace Go.Proofs.YtnjkipnklpkaoaaGreat
set_option maxRecDepth 20000
set_option maxHeartbeats 16000000
set_option linter.unusedSimpArgs false
set_option linter.unusedVariables false
open Go.RowKit Go.ChangeShapes Go.WideShapes Go.ChangeAt
theorem sbv_set(l:List UInt8)(k:Nat)(y:UInt8):bv (l.set k y)=(bv l).set k (.int .u8 (y.toNat:Int)):=by
 simp[bv,List.map_set]
theorem su8_turn(x t:UInt8):bits .xor .u8 (x.toNat:Int) (t.toNat:Int)=((x ^^^ t).toNat:Int):=by
 rw[u8_xor_nat _ _ (zp x) (zp t),UInt8.toNat_xor]
theorem segmentBack_walk{w:World}{A B:Option Addr}{gs:List (List (List Vl))}{os:List Co}{c d:Nat}(cols:Int)(hc:(Lit.int .i64 cols).wf=true)(hg:qax w 0 w.heap.size A c gs∧qoi gs)(ho:qbu w 0 w.heap.size B d os)(bits:Int)(hbt:(Lit.int .i64 bits).wf=true)(p:Nat)(hp:p<65536)(t:UInt8) :
  Calls Tryz.prog 4 #[.int .i64 cols,.slice A gs.length c,.slice B os.length d,.int .i64 bits,.int .u16 (p:Int),.int .u8 (t.toNat:Int)] w fun e w'=>e= .returned (.bool true)∧Below w.heap.size w w':=by
 obtain⟨hg,hz⟩:=hg
 obtain⟨hl,hm⟩:=hg.len
 obtain⟨hl2,hm2⟩:=ho.len
 have HG:Hid (∀W,Below w.heap.size w W→qax W 0 W.heap.size A c gs):=fun W hW=>(hg.below hW (qc _)).wide (qc _) hW.size
 have HO:Hid (∀W,Below w.heap.size w W→qbu W 0 W.heap.size B d os):=fun W hW=>(ho.below hW (qc _)).wide (qc _) hW.size
 have HZ:=qa hz
 have HAW:=qa (uf (w:=w))
 clear hg ho hz hc hbt
 go_enter Tryz.func4,Tryz.ntmps4
 go_wp2_with fail
 refine HAW.out.mono ?_
 rintro r w2 ⟨rfl,hb2⟩
 have B2:=qa hb2
 have HFW:=qa (qkh (HG.out w2 hb2) (HO.out w2 hb2) HZ.out)
 have HAW2:=qa (uf (w:=w2))
 clear hb2 HAW
 go_wp2_with fail
 refine HFW.out.mono ?_
 rintro r w3 ⟨⟨b,rfl,hbf⟩,rfl⟩
 clear HFW
 cases b with
 | false =>
  go_wp2_with fail
  refine HAW2.out.mono ?_
  rintro r w4 ⟨rfl,hb4⟩
  go_wp2_with fail
  go_ret
  exact⟨rfl,B2.out.trans (hb4.mono B2.out.size)⟩
 | true =>
  have HF:=qa (hbf rfl)
  have HWR:=qa (qgy cols bits (HG.out w2 B2.out) (HO.out w2 B2.out) HF.out (qj1 gs os))
  clear hbf HAW2
  go_wp2_with fail
  refine HWR.out.mono ?_
  rintro r w4 ⟨hb4,⟨hR,hT,A4,c4,rfl,ho4⟩ | ⟨hn,rfl⟩⟩
  case inr =>
   have B4:Hid (Below w.heap.size w w4):=B2.out.trans (hb4.mono B2.out.size)
   clear hb4 HWR hn
   go_wp2_with fail
   go_ret
   exact⟨rfl,B4.out⟩
  have B4:Hid (Below w.heap.size w w4):=B2.out.trans (hb4.mono B2.out.size)
  obtain rfl:(os.length:Int)=cols:=hR.2.2.1
  have hr60:=HF.out.rows
  have HFL:Hid (gs.flatten.length=ki gs):=by unfold Hid;rw[List.length_flatten];rfl
  obtain⟨bs,GS,hbs,hTR,hRS,hRT,hGL,hGR,⟨hb40,hb1⟩,hSL⟩:=qmm hR hT HF.out
  rw[hbs] at ho4 ⊢
  have HTR:=qa hTR
  have HRS:=qa hRS
  have HRT:=qa hRT
  have HGL:=qa hGL
  have HGR:=qa hGR
  have HSL:=qa hSL
  have HO4:=qa ho4
  have hs2:=hb4.size
  have HRD:=qa (qe9 (b:=bs) ((Rd.of_own HO4.out).wide (qi _) (qc _)) hb1 (qex hb1))
  clear hb4 ho4 HWR hR hT hbs hTR hRS hRT hGL hGR hSL
  go_wp2_with fail
  refine HRD.out.mono ?_
  rintro r w5 ⟨hb5,⟨G,n,gs',rfl,hok,hsm⟩ | ⟨-,hn⟩⟩
  case inr=>exact absurd HTR.out (hn _ _)
  obtain⟨rfl,rfl⟩:=hok.one HTR.out
  have HOK:=qa hok.ok
  have B5:Hid (Below w.heap.size w w5):=B4.out.trans (hb5.mono B4.out.size)
  have HO5:=qa (js HO4.out hb5 (qc _))
  obtain⟨q0,AS,cS,q1,hS1,hS2, -⟩:=hsm.cells
  rw[HGL.out] at q1
  have HSM5:=qa hsm
  have hn8:os.length≤8:=hok.ok.eight
  have hrw:=qhc hsm hok.ok HRT.out
  have HRW:=qa hrw
  have hs45:=hb5.size
  clear hok hsm hb5 HRD hrw HO4
  go_wp2_with fail
  refine HRW.out.mono ?_
  rintro r w6 ⟨A6,c6,xs,rfl,ho6,hro6,hb6⟩
  have hr6:=qdn.rows hro6 ho6 fun r hr v hv=>ze (qgz HOK.out r hr v hv) (by decide)
  rw[HRS.out] at hr6
  have HR6:=qa hr6
  have B56:=qa hb6
  have hs56:=hb6.size
  have B6:Hid (Below w.heap.size w w6):=B5.out.trans (hb6.mono B5.out.size)
  have HAL:=qa (refAll_v (HG.out w6 B6.out) (by omega) HFL.out)
  clear hb6 ho6 hro6 hr6 HRW
  go_wp2_with fail
  refine HAL.out.mono ?_
  rintro r w7 ⟨A7,c7,rfl,hr7,hb7⟩
  have hsm:=qig (la:=gs.flatten) (lb:=gs.flatten) ((HR6.out.below hb7 (qc _)).wide (qi _) hb7.size) hr7
  rw[HFL.out,qp (rfl:gs.flatten=gs.flatten)] at hsm
  have HSA:=qa hsm
  have B57:Hid (Below w5.heap.size w5 w7):=B56.out.trans (hb7.mono hs56)
  clear hsm hb7 hr7 HAL
  go_wp2_with fail
  refine HSA.out.mono ?_
  rintro r w8 ⟨rfl,hb8⟩
  have B58:Hid (Below w5.heap.size w5 w8):=B57.out.trans (hb8.mono B57.out.size)
  have hln:=qos (HSM5.out.below B58.out) HOK.out
  rw[HRT.out] at hln
  have HLN:=qa hln
  clear hb8 HSA hln
  go_wp2_with fail
  refine HLN.out.mono ?_
  rintro r w9 ⟨rfl,hb9⟩
  have B59:Hid (Below w5.heap.size w5 w9):=B58.out.trans (hb9.mono B58.out.size)
  have B9:Hid (Below w.heap.size w w9):=B5.out.trans (B59.out.mono B5.out.size)
  have HAL:=qa (refAll_v (HG.out w9 B9.out) (by omega) HFL.out)
  clear hb9 HLN
  go_wp2_with fail
  refine HAL.out.mono ?_
  rintro r w10 ⟨A10,c10,rfl, -,hb10⟩
  have B510:Hid (Below w5.heap.size w5 w10):=B59.out.trans (hb10.mono B59.out.size)
  have B10:Hid (Below w.heap.size w w10):=B5.out.trans (B510.out.mono B5.out.size)
  have HO10:=qa (js HO5.out B510.out (qc _))
  obtain⟨-,AS',cS',q1', -, -,HCS⟩:=(HSM5.out.below B510.out).cells
  rw[HGL.out] at q1'
  have HCS2:=qa HCS
  have HGX:=qa (HG.out w10 B10.out)
  clear HCS hb10 HAL q0 q1 HO5 HSM5 HR6
  go_wp2_with fail
  go_loopw [17] (fun i wr=>∃k q:Nat,k≤gs.length∧i= .int .i64 (k:Int)∧w10.drewN q=wr) (fun i _=>gs.length-(intOf i).toNat)
  case atStart=>exact⟨0,0,qi _,rfl,rfl⟩
  case round =>
   obtain⟨k,q,hkl,rfl,rfl⟩:=hrel
   by_cases hk:k<gs.length
   ·
    have ik:(k:Int)<(gs.length:Int):=by omega
    have ik0:(0:Int)≤(k:Int):=by omega
    have hkS:k<gs'.length:=by rw[HGL.out];exact hk
    obtain⟨bS,oS,rS,hAS, -, -, -,z0,z1,z2⟩:=HCS2.out k hkS
    obtain⟨e1,e2⟩:=HGR.out k hk hkS
    rw[e1] at z0
    rw[e2] at z1 z2
    obtain⟨bA,oA,A',c',hA, -, -,y0, -⟩:=HGX.out.get hk
    have x1:w10.cell? ⟨G,1,none⟩=some (.slice AS' gs.length cS'):=q1'
    have x2:w10.cell? ⟨bS,oS+k*3,none⟩=some (.int .i64 (gs[k].length:Int)):=z0
    have x3:w10.cell? ⟨bS,oS+k*3+1,none⟩=some (.slice rS.fA os.length rS.fc):=z1
    have x4:w10.cell? ⟨bS,oS+k*3+2,none⟩=some (.slice rS.kA os.length rS.kc):=z2
    have x5:w10.cell? ⟨bA,oA+k,none⟩=some (.slice A' gs[k].length c'):=y0
    subst hAS hA
    clear z0 z1 z2 y0 e1 e2 q1'
    generalize gs[k].length=gk at *
    go_wp2_with fail
    go_quiet (fail)
    go_wp2_with fail
    go_roundw
    case rel=>exact⟨k+1,_,by omega,by go_num,rfl⟩
    case measure=>simp[intOf];omega
   ·
    have ik:¬(k:Int)<(gs.length:Int):=by omega
    clear HCS2 HGX q1' ik
    obtain⟨j,hmod,hj⟩:∃j:Nat,(p:Int)%(bs.length:Int)=(j:Int)∧j<bs.length:=⟨p%bs.length,by omega,qak _ (by omega)⟩
    have hown:(w10.drewN q).ownsRow w2.heap.size 5 1 (.slice A4 bs.length c4) bs.length (bv bs):=ju HO10.out fun _ _=>rfl
    have BQ:Hid (Below w.heap.size w (w10.drewN q)):=zg B10.out q
    generalize w10.drewN q=wq at *
    clear HO10
    have h1:(0:Int)<(bs.length:Int):=by omega
    have hk0:(0:Int)≤(j:Int):=by omega
    have hk1:(j:Int)<(bs.length:Int):=by omega
    have hset:=HSL.out j hj (bs[j] ^^^ t)
    have hself:=u8_xor_self bs[j] t
    obtain⟨g,rfl,hg,hg2⟩:=qdh hown (by omega)
    have hcell:wq.cell? ⟨g,j,none⟩=some (.int .u8 (bs[j].toNat:Int)):=by
     rw[hown.cellAt j (by omega),qks _ j hj]
    have hfr:=hown.frozenAt j
    have hst:=hown.stored j (.int .u8 ((bs[j] ^^^ t).toNat:Int))
    rw[←sbv_set] at hst
    have HST:=qa hst
    have HLEN:Hid ((bs.set j (bs[j] ^^^ t)).length=bs.length):=xt
    have hx:=zp bs[j]
    have ht:=zp t
    have hturn:=su8_turn bs[j] t
    have hsg:=hst.2.size
    have HEQ:Hid (t=0→qbw (bs.set j (bs[j] ^^^ t)) os.length gs'):=fun h0=>by
     rw[hself.2 h0,List.set_getElem_self]
     exact HTR.out
    have HNE:Hid (∀n gs,qbw (bs.set j (bs[j] ^^^ t)) n gs→t=0):=fun n gs h=>by
     have h2:=h.1
     rw[hset] at h2
     exact hself.1 (of_decide_eq_true h2)
    clear hset hself hst HSL hown HTR
    generalize bs[j]=x at *
    generalize x ^^^ t=y at *
    have hy256:=zp y
    have HB2:=qa hb1
    have sg4:w.heap.size≤g:=ze B2.out.size hg
    have HBX:Hid (Below w.heap.size w (wq.setCell ⟨g,j,none⟩ (.int .u8 (y.toNat:Int)))):=BQ.out.setCell (p:=⟨g,j,none⟩) sg4 _
    go_wp2_with fail
    go_region
    go_wp2_with fail
    obtain⟨HS1,hgs⟩:=HST.out
    have hod:(wq.setCell ⟨g,j,none⟩ (.int .u8 (y.toNat:Int))).drew.ownsRow w2.heap.size 5 1 (.slice (some ⟨g,0,none⟩) bs.length c4) bs.length (bv (bs.set j y)):=ju HS1 fun _ _=>rfl
    have hrd:=(Rd.of_own hod).wide (qi _) (qc _)
    have hrr:=qe9 hrd (by rw[HLEN.out];exact HB2.out) (qex (by rw[HLEN.out];exact HB2.out))
    rw[HLEN.out] at hrr
    have HRR:=qa hrr
    have HBY:=qa (HBX.out.drew)
    generalize (wq.setCell ⟨g,j,none⟩ (.int .u8 (y.toNat:Int))).drew=wz at *
    clear hrr hrd hod HS1 hgs HST hcell hfr HBX HB2
    refine HRR.out.mono ?_
    rintro r w12 ⟨hb12,⟨G2,n2,gs2,rfl,hok2, -⟩ | ⟨rfl,hn2⟩⟩
    ·
     have h0:=HNE.out _ _ hok2
     have h00:t.toNat=0:=by rw[h0];rfl
     have B12:Hid (Below w.heap.size w w12):=HBY.out.trans (hb12.mono HBY.out.size)
     clear hb12 hok2 HRR HNE HEQ h0 hturn ht
     generalize t.toNat=tv at *
     subst h00
     go_wp2_with fail
     go_ret
     exact⟨rfl,B12.out⟩
    ·
     have h0:t≠0:=fun h=>hn2 _ _ (HEQ.out h)
     have h00:t.toNat≠0:=fun h=>h0 (qbd.1 (h.trans rfl))
     have B12:Hid (Below w.heap.size w w12):=HBY.out.trans (hb12.mono HBY.out.size)
     clear hb12 hn2 HRR HNE HEQ h0 hturn
     generalize t.toNat=tv at *
     have h02:((tv:Int)==0)=false:=by simp;omega
     go_wp2_with fail
     go_ret
     exact⟨rfl,B12.out⟩
set_option maxRecDepth 100000 in
theorem segmentBack_lifted(os:Os)(started:os.Started)(H:Type)(enc:TypeId×Value→H) :
  ReturnsInHanded {} Tryz.checked os 4 .any (Rows.segmentBackSpec.pre6 enc Tryz.prog Tryz.f4 Rows.segmentBackRow.domain false) (Rows.segmentBackSpec.post enc Tryz.prog Tryz.f4 false true false false):=by
 refine returnsInHanded_of_change_sized (C:=Tryz.checked) own started (by kernel_rfl) Tryz.func4
  (ChangeSpec.witness6 (enc:=enc) (C:=Tryz.checked) false ⟨#[],#[.int .i64 0,.slice none 0 0,.slice none 0 0,.int .i64 0,.int .u16 0,.int .u8 0],[]⟩ 8 (by kernel_rfl) (by kernel_rfl) (by kernel_rfl) (by kernel_rfl)) ?_
 intro W base args ds gs before hval0 hW hcnd hsz0 _
 have hsz:(DataW.weightsEach Tryz.prog (Tryz.f4.params.toList++Rows.segmentBackSpec.plain.varTypes Tryz.prog) (ds++gs)).all (· ≤reachBytes)=true:=hsz0
 have hval:∀(j:Nat) t v,Tryz.f4.params[j]? = some t→args[j]? = some v→Value.okWide Tryz.prog W .any base t v:=hval0
 have hW':=hW
 obtain⟨p,q,hA0,hV,rfl,hfz,hnd⟩:=hW
 have hA:DataW.TrodAll enc Tryz.prog W 0 (fun _=>true) true Tryz.f4.params.toList args.toList ds p:=hA0
 have hA1:DataW.TrodAll enc Tryz.prog W 0 (fun _=>true) true Tryz.f4.params.toList args.toList ds p:=hA0
 rw[Tryz.params4] at hA hval hsz
 obtain⟨v0,vs0,d0,ds0,p0,q0,hargs,rfl,rfl,h0,r0⟩:=trodAll_cons hA
 obtain⟨v1,vs1,d1,ds1,p1,q1,rfl,rfl,rfl,h1,r1⟩:=trodAll_cons r0
 obtain⟨v2,vs2,d2,ds2,p2,q2,rfl,rfl,rfl,h2,r2⟩:=trodAll_cons r1
 obtain⟨v3,vs3,d3,ds3,p3,q3,rfl,rfl,rfl,h3,r3⟩:=trodAll_cons r2
 obtain⟨v4,vs4,d4,ds4,p4,q4,rfl,rfl,rfl,h4,r4⟩:=trodAll_cons r3
 obtain⟨v5,vs5,d5,ds5,p5,q5,rfl,rfl,rfl,h5,r5⟩:=trodAll_cons r4
 obtain⟨rfl,rfl,rfl⟩:=trodAll_nil r5
 obtain rfl:args=#[v0,v1,v2,v3,v4,v5]:=by cases args;simp_all
 obtain⟨rfl,rfl⟩:=trodVars_none hV
 obtain⟨a0,rfl,rfl,rfl,w0⟩:=open_int Tryz.underlying3 (hval 0 3 v0 rfl rfl) h0
 obtain⟨A1,a1,c1,rfl,w1⟩:=open_grpsZ (hval 1 22 v1 rfl rfl) h1 (fun n hn=>by have:=jt.1 hsz n (DataW.weights_mem_each (j:=1) (t:=22) rfl rfl n hn);simpa using this)
 obtain⟨A2,a2,c2,rfl,w2⟩:=qmr (hval 2 23 v2 rfl rfl) h2
 obtain⟨a3,rfl,rfl,rfl,w3⟩:=open_int Tryz.underlying3 (hval 3 3 v3 rfl rfl) h3
 obtain⟨a4,rfl,rfl,rfl,w4⟩:=open_int Tryz.underlying33 (hval 4 33 v4 rfl rfl) h4
 obtain⟨b4,rfl,l4⟩:=u16_of_wf w4
 obtain⟨a5,rfl,rfl,rfl,w5⟩:=open_int Tryz.underlying5 (hval 5 5 v5 rfl rfl) h5
 obtain⟨b5,rfl⟩:=u8_of_wf w5
 clear hA0 hval0
 refine(segmentBack_walk (w:=W) a0 w0 w1 w2 a3 w3 b4 l4 b5).mono fun e W' ⟨he,bel⟩ => ?_
 subst he
 exact⟨_,rfl,_,_,_,[],_,[],hW',trodAll_mk1 (shut_bool Tryz.underlying4 _),qd7 qpe bel _ _ _ _ (by kernel_rfl) hA1,rfl,bel.frame _,fun h=>by cases h⟩
theorem segmentBack_over:Rows.segmentBackRow.holds Tryz.pinned (OpenSpec.ofChange Rows.segmentBackSpec) :=
 OpenClaim.holds_of_wide 4 Tryz.f4 rfl rfl rfl rfl rfl rfl rfl ⟨rfl,rfl,rfl,rfl,rfl⟩ rfl rfl rfl rfl rfl (by kernel_rfl) Tryz.func4 (by kernel_rfl)
  (of_decide_eq_true (by kernel_rfl)) (by unfold Func.isWrapper;first | (rw[if_pos (by decide +kernel)];kernel_rfl) | (rw[if_neg (by decide +kernel)];exact⟨rfl,rfl⟩))
  (fun os started H enc _=>segmentBack_lifted os started H enc)
theorem segmentBack_proved:Rows.SegmentBackSaid:=segmentBack_over
end Go.Proofs.YtnjkipnklpkaoaaGreat
