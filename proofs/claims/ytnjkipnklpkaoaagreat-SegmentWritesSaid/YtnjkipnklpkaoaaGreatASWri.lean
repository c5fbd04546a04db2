/-
  Whatever groups, codings and width: Write answers the document's bytes, or that they may not be written; or groups are many, or awake says so.
-/
import Derived.Test.YtnjkipnklpkaoaaGreatA24
import Derived.Test.YtnjkipnklpkaoaaGreatA25
import Derived.Test.YtnjkipnklpkaoaaGreatA37
import Derived.Test.YtnjkipnklpkaoaaGreatA38
import Derived.SliceStrings
namespace Go.Proofs.YtnjkipnklpkaoaaGreat
set_option maxRecDepth 20000
set_option maxHeartbeats 16000000
set_option linter.unusedSimpArgs false
set_option linter.unusedVariables false
open Go.RowKit Go.ChangeShapes Go.WideShapes Go.ChangeAt
theorem segmentWrites_walk{w:World}{A B:Option Addr}{gs:List (List (List Vl))}{os:List Co}{c d:Nat}(cols:Int)(hc:(Lit.int .i64 cols).wf=true)(hg:qax w 0 w.heap.size A c gs∧qoi gs)(ho:qbu w 0 w.heap.size B d os)(bits:Int)(hbt:(Lit.int .i64 bits).wf=true) :
  Calls Tryz.prog 3 #[.int .i64 cols,.slice A gs.length c,.slice B os.length d,.int .i64 bits] w fun e w'=>e= .returned (.bool true)∧Below w.heap.size w w':=by
 obtain⟨hg,hz⟩:=hg
 obtain⟨hl,hm⟩:=hg.len
 obtain⟨hl2,hm2⟩:=ho.len
 have HG:Hid (∀W,Below w.heap.size w W→qax W 0 W.heap.size A c gs):=fun W hW=>(hg.below hW (qc _)).wide (qc _) hW.size
 have HO:Hid (∀W,Below w.heap.size w W→qbu W 0 W.heap.size B d os):=fun W hW=>(ho.below hW (qc _)).wide (qc _) hW.size
 have HZ:=qa hz
 have HAW:=qa (uf (w:=w))
 clear hg ho hz hc hbt
 go_enter Tryz.func3,Tryz.ntmps3
 go_wp2_with fail
 refine HAW.out.mono ?_
 rintro r w2 ⟨rfl,hb2⟩
 have B2:=qa hb2
 have HFW:=qa (qkh (HG.out w2 hb2) (HO.out w2 hb2) HZ.out)
 have HAW2:=qa (uf (w:=w2))
 clear hb2 HAW
 go_wp2_with fail
 refine HFW.out.mono ?_
 rintro r w3 ⟨⟨b,rfl,hbf⟩,rfl⟩
 clear HFW
 cases b with
 | false =>
  go_wp2_with fail
  refine HAW2.out.mono ?_
  rintro r w4 ⟨rfl,hb4⟩
  go_wp2_with fail
  go_ret
  exact⟨rfl,B2.out.trans (hb4.mono B2.out.size)⟩
 | true =>
  have HF:=qa (hbf rfl)
  have HWR:=qa (qgy cols bits (HG.out w2 B2.out) (HO.out w2 B2.out) HF.out (qj1 gs os))
  clear hbf HAW2
  go_wp2_with fail
  refine HWR.out.mono ?_
  rintro r w4 ⟨hb4,⟨hR,hT,A4,c4,rfl,ho4⟩ | ⟨hn,rfl⟩⟩
  ·
   have B4:Hid (Below w.heap.size w w4):=B2.out.trans (hb4.mono B2.out.size)
   have hri:=qox cols bits (HG.out w4 B4.out) (HO.out w4 B4.out) HZ.out
   rw[qp hR] at hri
   have HRI:=qa hri
   have hcols:(os.length:Int)=cols:=hR.2.2.1
   have hbits:(bits.toNat:Int)=bits:=by have:=hR.2.2.2.1;omega
   have HRW:Hid (∀W,Below w.heap.size w W→Calls Tryz.prog 14 #[.int .i64 cols,.slice A gs.length c,.slice B os.length d,.int .i64 bits] W fun r w'=>∃A' c',r= .returned (.slice A' (kr (qgh os bits.toNat gs)).length c')∧w'.ownsRow W.heap.size 5 1 (.slice A' (kr (qgh os bits.toNat gs)).length c') (kr (qgh os bits.toNat gs)).length (bv (kr (qgh os bits.toNat gs)))∧Below W.heap.size W w'):=fun W hW=>by
    have:=refWriteSg_v bits.toNat (HG.out W hW) (HO.out W hW) (by rw[hcols,hbits];exact hR) HF.out hT
    rw[hcols,hbits] at this
    exact this
   have HO4:=qa ho4
   have hsz4:=hb4.size
   generalize kr (qgh os bits.toNat gs)=bs at *
   clear hb4 ho4 hri HWR hR hT hcols hbits
   go_wp2_with fail
   refine HRI.out.mono ?_
   rintro r w5 ⟨rfl,hb5⟩
   have B5:Hid (Below w.heap.size w w5):=B4.out.trans (hb5.mono B4.out.size)
   have HO5:=qa (js HO4.out hb5 (qc _))
   have HRW5:=qa (HRW.out w5 B5.out)
   clear hb5 HRI HO4 HRW
   go_wp2_with fail
   refine HRW5.out.mono ?_
   rintro r w6 ⟨A6,c6,rfl,ho6,hb6⟩
   have B6:Hid (Below w.heap.size w w6):=B5.out.trans (hb6.mono B5.out.size)
   have HSM:=qa (same_len (w:=w6) bs bs true (Rd.of_own (js HO5.out hb6 (qc _))) (Rd.of_own ho6) rfl rfl (qp rfl))
   clear hb6 ho6 HRW5
   go_wp2_with fail
   refine HSM.out.mono ?_
   rintro r w7 ⟨rfl,rfl⟩
   go_wp2_with fail
   go_ret
   exact⟨rfl,B6.out⟩
  ·
   have B4:Hid (Below w.heap.size w w4):=B2.out.trans (hb4.mono B2.out.size)
   have hri:=qox cols bits (HG.out w4 B4.out) (HO.out w4 B4.out) HZ.out
   rw[ql hn] at hri
   have HRI:=qa hri
   clear hb4 hri HWR hn
   go_wp2_with fail
   refine HRI.out.mono ?_
   rintro r w5 ⟨rfl,hb5⟩
   have B5:Hid (Below w.heap.size w w5):=B4.out.trans (hb5.mono B4.out.size)
   clear hb5 HRI
   go_wp2_with fail
   go_ret
   exact⟨rfl,B5.out⟩
set_option maxRecDepth 100000 in
theorem segmentWrites_lifted(os:Os)(started:os.Started)(H:Type)(enc:TypeId×Value→H) :
  ReturnsInHanded {} Tryz.checked os 3 .any (Rows.segmentWritesSpec.pre6 enc Tryz.prog Tryz.f3 Rows.segmentWritesRow.domain false) (Rows.segmentWritesSpec.post enc Tryz.prog Tryz.f3 false true false false):=by
 refine returnsInHanded_of_change_sized (C:=Tryz.checked) own started (by kernel_rfl) Tryz.func3
  (ChangeSpec.witness6 (enc:=enc) (C:=Tryz.checked) false ⟨#[],#[.int .i64 0,.slice none 0 0,.slice none 0 0,.int .i64 0],[]⟩ 8 (by kernel_rfl) (by kernel_rfl) (by kernel_rfl) (by kernel_rfl)) ?_
 intro W base args ds gs before hval0 hW hcnd hsz0 _
 have hsz:(DataW.weightsEach Tryz.prog (Tryz.f3.params.toList++Rows.segmentWritesSpec.plain.varTypes Tryz.prog) (ds++gs)).all (· ≤reachBytes)=true:=hsz0
 have hval:∀(j:Nat) t v,Tryz.f3.params[j]? = some t→args[j]? = some v→Value.okWide Tryz.prog W .any base t v:=hval0
 have hW':=hW
 obtain⟨p,q,hA0,hV,rfl,hfz,hnd⟩:=hW
 have hA:DataW.TrodAll enc Tryz.prog W 0 (fun _=>true) true Tryz.f3.params.toList args.toList ds p:=hA0
 have hA1:DataW.TrodAll enc Tryz.prog W 0 (fun _=>true) true Tryz.f3.params.toList args.toList ds p:=hA0
 rw[Tryz.params3] at hA hval hsz
 obtain⟨v0,vs0,d0,ds0,p0,q0,hargs,rfl,rfl,h0,r0⟩:=trodAll_cons hA
 obtain⟨v1,vs1,d1,ds1,p1,q1,rfl,rfl,rfl,h1,r1⟩:=trodAll_cons r0
 obtain⟨v2,vs2,d2,ds2,p2,q2,rfl,rfl,rfl,h2,r2⟩:=trodAll_cons r1
 obtain⟨v3,vs3,d3,ds3,p3,q3,rfl,rfl,rfl,h3,r3⟩:=trodAll_cons r2
 obtain⟨rfl,rfl,rfl⟩:=trodAll_nil r3
 obtain rfl:args=#[v0,v1,v2,v3]:=by cases args;simp_all
 obtain⟨rfl,rfl⟩:=trodVars_none hV
 obtain⟨a0,rfl,rfl,rfl,w0⟩:=open_int Tryz.underlying3 (hval 0 3 v0 rfl rfl) h0
 obtain⟨A1,a1,c1,rfl,w1⟩:=open_grpsZ (hval 1 22 v1 rfl rfl) h1 (fun n hn=>by have:=jt.1 hsz n (DataW.weights_mem_each (j:=1) (t:=22) rfl rfl n hn);simpa using this)
 obtain⟨A2,a2,c2,rfl,w2⟩:=qmr (hval 2 23 v2 rfl rfl) h2
 obtain⟨a3,rfl,rfl,rfl,w3⟩:=open_int Tryz.underlying3 (hval 3 3 v3 rfl rfl) h3
 clear hA0 hval0
 refine(segmentWrites_walk (w:=W) a0 w0 w1 w2 a3 w3).mono fun e W' ⟨he,bel⟩ => ?_
 subst he
 exact⟨_,rfl,_,_,_,[],_,[],hW',trodAll_mk1 (shut_bool Tryz.underlying4 _),qd7 qpe bel _ _ _ _ (by kernel_rfl) hA1,rfl,bel.frame _,fun h=>by cases h⟩
theorem segmentWrites_over:Rows.segmentWritesRow.holds Tryz.pinned (OpenSpec.ofChange Rows.segmentWritesSpec) :=
 OpenClaim.holds_of_wide 3 Tryz.f3 rfl rfl rfl rfl rfl rfl rfl ⟨rfl,rfl,rfl,rfl,rfl⟩ rfl rfl rfl rfl rfl (by kernel_rfl) Tryz.func3 (by kernel_rfl)
  (of_decide_eq_true (by kernel_rfl)) (by unfold Func.isWrapper;first | (rw[if_pos (by decide +kernel)];kernel_rfl) | (rw[if_neg (by decide +kernel)];exact⟨rfl,rfl⟩))
  (fun os started H enc _=>segmentWrites_lifted os started H enc)
theorem segmentWrites_proved:Rows.SegmentWritesSaid:=segmentWrites_over
end Go.Proofs.YtnjkipnklpkaoaaGreat
