/-
  The same rows, parted in two groups and coded with whichever width, are read as the same rows; or neither may be written; or rows are many, or awake says so.
-/
import Derived.Test.YtnjkipnklpkaoaaGreatA24
import Derived.Test.YtnjkipnklpkaoaaGreatA60
import Derived.SliceStrings
namespace Go.Proofs.YtnjkipnklpkaoaaGreat
set_option maxRecDepth 20000
set_option maxHeartbeats 16000000
set_option linter.unusedSimpArgs false
set_option linter.unusedVariables false
open Go.RowKit Go.ChangeShapes Go.WideShapes Go.ChangeAt
theorem segmentCuts_walk{w:World}{A B:Option Addr}{rs:List (List Vl)}{os:List Co}{c d:Nat}(hg:vr w 0 w.heap.size A c rs∧SizedQ rs)(cols:Int)(hc:(Lit.int .i64 cols).wf=true)(ho:qbu w 0 w.heap.size B d os)(cut:UInt8)(p:Nat)(hp:p<65536) :
  Calls Tryz.prog 7 #[.slice A rs.length c,.int .i64 cols,.slice B os.length d,.int .u8 (cut.toNat:Int),.int .u16 (p:Int)] w fun e w'=>e= .returned (.bool true)∧Below w.heap.size w w':=by
 obtain⟨hg,hz⟩:=hg
 obtain⟨hl,hm⟩:=hg.len
 obtain⟨hl2,hm2⟩:=ho.len
 obtain⟨w1,hw1⟩:∃x,Hid (w.alloc (.cells #[.slice A rs.length c] 41)=x):=⟨_,rfl⟩
 have B1:Hid (Below w.heap.size w w1):=by unfold Hid;rw[←hw1.out];exact(Below.refl _ w).alloc (qc _) _
 have HR:Hid (∀W,Below w.heap.size w W→vr W 0 W.heap.size A c rs):=fun W hW=>(hg.below hW (qc _)).wide (qc _) hW.size
 have HO:Hid (∀W,Below w.heap.size w W→qbu W 0 W.heap.size B d os):=fun W hW=>(ho.below hW (qc _)).wide (qc _) hW.size
 have hg1:=grp_lit1 hg hw1.out
 have hgb:w.heap.size<w1.heap.size:=by rw[←hw1.out];simp
 have HG1:Hid (∀W,Below w1.heap.size w1 W→qax W 0 W.heap.size (some ⟨w.heap.size,0,none⟩) 1 [rs]):=fun W hW=>(hg1.below hW (qc _)).wide (qc _) hW.size
 have HZ:Hid (qoi [rs]):=fun g hg=>by
  obtain rfl:g=rs:=by simpa using hg
  exact hz
 have HAW:=qa (uf (w:=w1))
 have hgs:=B1.out.size
 have hcu:=zp cut
 clear hg ho hz hc hg1
 go_enter Tryz.func7,Tryz.ntmps7
 go_wp2_with fail
 rw[hw1.out]
 clear hw1
 refine HAW.out.mono ?_
 rintro r w2 ⟨rfl,hb2⟩
 have B2:=qa hb2
 have BW2:Hid (Below w.heap.size w w2):=B1.out.trans (hb2.mono hgs)
 have HFW:=qa (qkh (HG1.out w2 hb2) (HO.out w2 BW2.out) HZ.out)
 have HAW2:=qa (uf (w:=w2))
 clear hb2 HAW
 go_wp2_with fail
 refine HFW.out.mono ?_
 rintro r w3 ⟨⟨b,rfl,hbf⟩,rfl⟩
 clear HFW
 cases b with
 | false =>
  go_wp2_with fail
  refine HAW2.out.mono ?_
  rintro r w4 ⟨rfl,hb4⟩
  go_wp2_with fail
  go_ret
  exact⟨rfl,BW2.out.trans (hb4.mono BW2.out.size)⟩
 | true =>
  have HF:=qa (hbf rfl)
  clear hbf
  by_cases h2:rs.length<2
  ·
   have i2:(rs.length:Int)<2:=by omega
   go_wp2_with fail
   refine HAW2.out.mono ?_
   rintro r w4 ⟨rfl,hb4⟩
   go_wp2_with fail
   go_ret
   exact⟨rfl,BW2.out.trans (hb4.mono BW2.out.size)⟩
  have i2:¬(rs.length:Int)<2:=by omega
  obtain⟨rA,rc,hrr⟩:=HR.out w2 BW2.out
  have HRO:=qa (rowsp_any hrr (qc _) cols)
  obtain⟨b0,o0,_,_,hA, -⟩:=(HR.out w2 BW2.out).get (j:=0) (by omega)
  subst hA
  clear hrr
  go_wp2_with fail
  refine HRO.out.mono ?_
  rintro r w3 ⟨rfl,hb3⟩
  have B3:Hid (Below w1.heap.size w1 w3):=B2.out.trans (hb3.mono B2.out.size)
  have BW3:Hid (Below w.heap.size w w3):=B1.out.trans (B3.out.mono hgs)
  have HAW3:=qa (uf (w:=w3))
  clear hb3 HRO HAW2
  cases rowsP rs cols with
  | false =>
   go_wp2_with fail
   refine HAW3.out.mono ?_
   rintro r w4 ⟨rfl,hb4⟩
   go_wp2_with fail
   go_ret
   exact⟨rfl,BW3.out.trans (hb4.mono BW3.out.size)⟩
  | true =>
   obtain⟨j,k,hmod,h12,hk0,hk⟩:∃j k:Nat,(cut.toNat:Int)%((rs.length:Int)-1)=(j:Int)∧(1:Int)+(j:Int)=(k:Int)∧0<k∧k<rs.length:=by
    have h:=qak cut.toNat (show rs.length-1 > 0 by omega)
    refine⟨cut.toNat%(rs.length-1),1+cut.toNat%(rs.length-1),?_,by omega,by omega,by omega⟩
    rw[show(rs.length:Int)-1=((rs.length-1:Nat):Int) by omega]
    omega
   have h1:(0:Int)<(rs.length:Int)-1:=by omega
   have hr60:rs.length≤60:=by have:=HF.out.rows;simpa[ki] using this
   have HWR:=qa (qgy cols 0 (HG1.out w3 B3.out) (HO.out w3 BW3.out) HF.out (qj1 _ _))
   clear HAW3
   go_wp2_with fail
   refine HWR.out.mono ?_
   rintro r w4 ⟨hb4,hwr⟩
   have B4:Hid (Below w1.heap.size w1 w4):=B3.out.trans (hb4.mono B3.out.size)
   have BW4:Hid (Below w.heap.size w w4):=B1.out.trans (B4.out.mono hgs)
   have hwr2:∃A4 n4 c4 e4,r= .returned (.tuple #[.slice A4 n4 c4,.int .i64 e4])∧Hid ((jaa cols [rs] os 0∧e4=0∧∃(bs:List UInt8) (GS:List GrpS),bs.length=n4∧Rd w4 w3.heap.size w4.heap.size A4 c4 (bv bs)∧qbw bs os.length GS∧qeu GS=rs∧qas GS=rs.length∧bs.length≤1000000000)∨(¬jaa cols [rs] os 0∧e4=1)):=by
    rcases hwr with ⟨hR,hT,A4,c4,rfl,ho4⟩ | ⟨hn,rfl⟩
    ·
     obtain⟨bs,GS,hbs,hTR,hRS,hRT, -, -,hb1, -⟩:=qmm hR hT HF.out
     rw[hbs] at ho4 ⊢
     refine⟨A4,_,c4,0,rfl,.inl ⟨hR,rfl,bs,GS,rfl,Rd.of_own ho4,hTR,?_,?_,hb1.2⟩⟩
     ·
      rw[hRS];simp
     ·
      rw[hRT];simp[ki]
    ·
     exact⟨none,0,0,1,rfl,.inr ⟨hn,rfl⟩⟩
   obtain⟨A4,n4,c4,e4,rfl,HW4⟩:=hwr2
   have hck:¬c=k:=by omega
   have ik0:(0:Int)≤(k:Int):=by omega
   have ik1:(k:Int)≤(rs.length:Int):=by omega
   have ik2:(k:Int)≤(c:Int):=by omega
   clear hb4 HWR hwr hmod h12 h1
   go_wp2_with fail
   have KD:Hid (Below w4.heap.size w4 w4.drew):=(Below.refl _ _).drew
   refine wp_region_held_drew (S:=fun _=>True) (by kernel_rfl) trivial (fun hHeld => ?_)
   refine tk 0 ?_ rfl hHeld ?_ ?_
   rotate_left
   focus (intro W hSw;go_simp;try with_reducible rfl)
   try simp only[jv,Act.put]
   refine tk 1 ?_ rfl hHeld ?_ ?_
   rotate_left
   focus (intro W hSw;go_simp;try with_reducible rfl)
   try simp only[jv,Act.put]
   refine tk 2 ?_ rfl hHeld ?_ ?_
   rotate_left
   focus (intro W hSw;go_simp;try with_reducible rfl)
   try simp only[jv,Act.put]
   refine tk 3 ?_ rfl hHeld ?_ ?_
   rotate_left
   focus (intro W hSw;go_simp;try with_reducible rfl)
   try simp only[jv,Act.put]
   refine tk 4 ?_ rfl hHeld ?_ ?_
   rotate_left
   focus (intro W hSw;go_simp;try with_reducible rfl)
   try simp only[jv,Act.put]
   refine tk 5 ?_ rfl hHeld ?_ ?_
   rotate_left
   focus (intro W hSw;go_simp;try with_reducible rfl)
   try simp only[jv,Act.put]
   refine tk 6 ?_ rfl hHeld ?_ ?_
   rotate_left
   focus (intro W hSw;go_simp;try with_reducible rfl)
   try simp only[jv,Act.put]
   refine tk 8 ?_ rfl hHeld ?_ ?_
   rotate_left
   focus (intro W hSw;go_simp;try with_reducible rfl)
   try simp only[jv,Act.put]
   refine tk 9 ?_ rfl hHeld ?_ ?_
   rotate_left
   focus (intro W hSw;go_simp;try with_reducible rfl)
   try simp only[jv,Act.put]
   refine tk 10 ?_ rfl hHeld ?_ ?_
   rotate_left
   focus (intro W hSw;go_simp;try with_reducible rfl)
   try simp only[jv,Act.put]
   obtain⟨wd,hwd⟩:∃q,w4.drew=q:=⟨_,rfl⟩
   rw[hwd] at KD ⊢
   clear hwd hHeld
   have BD:=qa KD
   clear KD
   refine wpAnyH_ready (rs:=[7]) (by kernel_rfl) (by simp) ?_
   refine zc (o:=_) rfl (fun K hK => ?_) zm
   go_simp
   have BWD:Hid (Below w.heap.size w wd):=BW4.out.trans (BD.out.mono BW4.out.size)
   obtain⟨w5,hw5⟩:∃x,Hid (wd.alloc (.cells #[.slice (some ⟨b0,o0,none⟩) k c,.slice (some ⟨b0,o0+k,none⟩) (rs.length-k) (c-k)] 41)=x):=⟨_,rfl⟩
   rw[hw5.out]
   have b5:Below wd.heap.size wd w5:=by rw[←hw5.out];exact(Below.refl _ wd).alloc (qc _) _
   have hrw:=HR.out wd BWD.out
   have hcut:=hrw.cut (k:=k) (m:=rs.length) (by omega) (qc _)
   have ea:(⟨b0,o0,none⟩:Addr).add k=⟨b0,o0+k,none⟩:=by unfold Addr.add;by_cases h0:k=0 <;> simp[h0]
   rw[if_neg hck,qap,ea,qo (by rw[qu];exact qc _)] at hcut
   have hg2:=grp_lit2 (hrw.take k) hcut (by rw[qy];omega) (by rw[qu]) hw5.out
   have BW5:Hid (Below w.heap.size w w5):=BWD.out.trans (b5.mono BWD.out.size)
   have B45:Hid (Below w4.heap.size w4 w5):=BD.out.trans (b5.mono BD.out.size)
   have hwr5:=qgy cols (p:Int) hg2 (HO.out w5 BW5.out) (few_cut (k:=k) HF.out) (qj1 _ _)
   rw[show([rs.take k,rs.drop k]:List (List (List Vl))).length=2 from rfl] at hwr5
   have HW5:=qa hwr5
   have HF2:=qa (few_cut (k:=k) HF.out)
   clear hwr5 hg2 hcut hrw ea b5 hw5
   refine hK.out _ _ trivial (fun hHeld => ?_)
   clear hK K
   try simp only[jv,Act.put]
   refine wpAnyH_ready (rs:=[11]) (by kernel_rfl) (by simp) ?_
   refine zc (o:=_) rfl (fun K hK => ?_) zm
   go_simp
   rw[show IntKind.i64.wrap (p:Int)=(p:Int) from z8 _ (by omega)]
   refine HW5.out.mono ?_
   rintro r w6 ⟨hb6,hwr⟩
   have hwr2:∃A6 n6 c6 e6,r= .returned (.tuple #[.slice A6 n6 c6,.int .i64 e6])∧Hid ((jaa cols [rs.take k,rs.drop k] os (p:Int)∧e6=0∧∃(bs:List UInt8) (GS:List GrpS),bs.length=n6∧Rd w6 w5.heap.size w6.heap.size A6 c6 (bv bs)∧qbw bs os.length GS∧qeu GS=rs∧qas GS=rs.length∧GS.length=2∧bs.length≤1000000000)∨(¬jaa cols [rs.take k,rs.drop k] os (p:Int)∧e6=1)):=by
    rcases hwr with ⟨hR,hT,A6,c6,rfl,ho6⟩ | ⟨hn,rfl⟩
    ·
     obtain⟨bs,GS,hbs,hTR,hRS,hRT,hGL, -,hb1, -⟩:=qmm hR hT HF2.out
     rw[hbs] at ho6 ⊢
     refine⟨A6,_,c6,0,rfl,.inl ⟨hR,rfl,bs,GS,rfl,Rd.of_own ho6,hTR,?_,?_,hGL,hb1.2⟩⟩
     ·
      rw[hRS];simp
     ·
      rw[hRT];simp[ki];omega
    ·
     exact⟨none,0,0,1,rfl,.inr ⟨hn,rfl⟩⟩
   obtain⟨A6,n6,c6,e6,rfl,HW6⟩:=hwr2
   have B46:Hid (Below w4.heap.size w4 w6):=B45.out.trans (hb6.mono B45.out.size)
   have BW6:Hid (Below w.heap.size w w6):=BW4.out.trans (B46.out.mono BW4.out.size)
   clear hwr hb6 HW5
   refine hK.out _ _ trivial (fun hHeld => ?_)
   clear hK K
   try simp only[jv,Act.put]
   refine tk 12 ?_ rfl hHeld ?_ ?_
   rotate_left
   focus (intro W hSw;go_simp;try with_reducible rfl)
   try simp only[jv,Act.put]
   refine tk 13 ?_ rfl hHeld ?_ ?_
   rotate_left
   focus (intro W hSw;go_simp;try with_reducible rfl)
   try simp only[jv,Act.put]
   refine tk 14 ?_ rfl hHeld ?_ ?_
   rotate_left
   focus (intro W hSw;go_simp;try with_reducible rfl)
   try simp only[jv,Act.put]
   refine tk 15 ?_ rfl hHeld ?_ ?_
   rotate_left
   focus (intro W hSw;go_simp;try with_reducible rfl)
   try simp only[jv,Act.put]
   refine tk 16 ?_ rfl hHeld ?_ ?_
   rotate_left
   focus (intro W hSw;go_simp;try with_reducible rfl)
   try simp only[jv,Act.put]
   refine wpAnyH_done (by kernel_rfl) ?_ _
   clear hHeld
   have hiff:=right_cut (cols:=cols) (os:=os) (show(0:Int)≤(p:Int)∧(p:Int)≤65536 by omega) hk0 hk
   rcases HW4.out with ⟨hR,rfl,bs4,GS4,rfl,hr4,hTR4,hRS4,hRT4,hb4⟩ | ⟨hn,rfl⟩
   case inr =>
    rcases HW6.out with ⟨hR6, -⟩ | ⟨hn6,rfl⟩
    ·
     exact absurd (hiff.2 hR6) hn
    clear HW4 HW6 hiff hn hn6
    go_wp2_with fail
    go_ret
    exact⟨rfl,BW6.out⟩
   rcases HW6.out with ⟨hR6,rfl,bs6,GS6,rfl,hr6,hTR6,hRS6,hRT6,hGL6,hb6⟩ | ⟨hn6, -⟩
   case inr=>exact absurd (hiff.1 hR) hn6
   have HR4:=qa (((hr4.below B46.out (qc _)).wide (qi _) B46.out.size))
   have HT4:=qa hTR4
   have HT6:=qa hTR6
   have HQ4:=qa hRS4
   have HQ6:=qa hRS6
   have HN4:=qa hRT4
   have HN6:=qa hRT6
   have HL6:=qa hGL6
   have HR6:=qa hr6
   have HRD:=qa (qe9 HR4.out hb4 (qex hb4))
   clear HW4 HW6 hiff hR hR6 hr4 hr6 hTR4 hTR6 hRS4 hRS6 hRT4 hRT6 hGL6
   go_wp2_with fail
   refine HRD.out.mono ?_
   rintro r w7 ⟨hb7,⟨G7,n7,gs7,rfl,hok7,hsm7⟩ | ⟨-,hn⟩⟩
   case inr=>exact absurd HT4.out (hn _ _)
   obtain⟨rfl,rfl⟩:=hok7.one HT4.out
   have BW7:Hid (Below w.heap.size w w7):=BW6.out.trans (hb7.mono BW6.out.size)
   have HRD6:=qa (qe9 (((HR6.out.below hb7 (qc _)).wide (qi _) hb7.size)) hb6 (qex hb6))
   have HS7:=qa hsm7
   have HO7:=qa hok7.ok
   clear hb7 hok7 hsm7 HRD HR4 HR6 HT4
   go_wp2_with fail
   refine HRD6.out.mono ?_
   rintro r w8 ⟨hb8,⟨G8,n8,gs8,rfl,hok8,hsm8⟩ | ⟨-,hn⟩⟩
   case inr=>exact absurd HT6.out (hn _ _)
   obtain⟨rfl,rfl⟩:=hok8.one HT6.out
   have BW8:Hid (Below w.heap.size w w8):=BW7.out.trans (hb8.mono BW7.out.size)
   have HS8:=qa hsm8
   have HO8:=qa hok8.ok
   have HRW:=qa (qhc (HS7.out.below hb8) HO7.out HN4.out)
   clear hb8 hok8 hsm8 HRD6 HS7 HT6
   go_wp2_with fail
   refine HRW.out.mono ?_
   rintro r w9 ⟨A9,c9,xs9,rfl,ho9,hro9,hb9⟩
   have hr9:=qdn.rows hro9 ho9 fun r hr v hv=>ze (qgz HO7.out r hr v hv) (by decide)
   rw[HQ4.out] at hr9
   have BW9:Hid (Below w.heap.size w w9):=BW8.out.trans (hb9.mono BW8.out.size)
   have B89:=qa hb9
   have hsm:=qig (la:=rs) (lb:=rs) (hr9.wide (qi _) (qc _)) (HR.out w9 BW9.out)
   rw[qp (rfl:rs=rs)] at hsm
   have HSM:=qa hsm
   clear hb9 ho9 hro9 hr9 hsm HRW
   go_wp2_with fail
   refine HSM.out.mono ?_
   rintro r w10 ⟨rfl,hb10⟩
   have BW10:Hid (Below w.heap.size w w10):=BW9.out.trans (hb10.mono BW9.out.size)
   have B810:Hid (Below w8.heap.size w8 w10):=B89.out.trans (hb10.mono B89.out.size)
   have HRW:=qa (qhc (HS8.out.below B810.out) HO8.out HN6.out)
   clear hb10 HSM
   go_wp2_with fail
   refine HRW.out.mono ?_
   rintro r w11 ⟨A11,c11,xs11,rfl,ho11,hro11,hb11⟩
   have hr11:=qdn.rows hro11 ho11 fun r hr v hv=>ze (qgz HO8.out r hr v hv) (by decide)
   rw[HQ6.out] at hr11
   have BW11:Hid (Below w.heap.size w w11):=BW10.out.trans (hb11.mono BW10.out.size)
   have B811:Hid (Below w8.heap.size w8 w11):=B810.out.trans (hb11.mono B810.out.size)
   have hsm:=qig (la:=rs) (lb:=rs) (hr11.wide (qi _) (qc _)) (HR.out w11 BW11.out)
   rw[qp (rfl:rs=rs)] at hsm
   have HSM:=qa hsm
   clear hb11 ho11 hro11 hr11 hsm HRW
   go_wp2_with fail
   refine HSM.out.mono ?_
   rintro r w12 ⟨rfl,hb12⟩
   have BW12:Hid (Below w.heap.size w w12):=BW11.out.trans (hb12.mono BW11.out.size)
   obtain⟨-,AS,cS,q1, -⟩:=(HS8.out.below (B811.out.trans (hb12.mono B811.out.size))).cells
   rw[HL6.out] at q1
   clear hb12 HSM
   go_wp2_with fail
   go_ret
   exact⟨rfl,BW12.out⟩
set_option maxRecDepth 100000 in
theorem segmentCuts_lifted(os:Os)(started:os.Started)(H:Type)(enc:TypeId×Value→H) :
  ReturnsInHanded {} Tryz.checked os 7 .any (Rows.segmentCutsSpec.pre6 enc Tryz.prog Tryz.f7 Rows.segmentCutsRow.domain false) (Rows.segmentCutsSpec.post enc Tryz.prog Tryz.f7 false true false false):=by
 refine returnsInHanded_of_change_sized (C:=Tryz.checked) own started (by kernel_rfl) Tryz.func7
  (ChangeSpec.witness6 (enc:=enc) (C:=Tryz.checked) false ⟨#[],#[.slice none 0 0,.int .i64 0,.slice none 0 0,.int .u8 0,.int .u16 0],[]⟩ 8 (by kernel_rfl) (by kernel_rfl) (by kernel_rfl) (by kernel_rfl)) ?_
 intro W base args ds gs before hval0 hW hcnd hsz0 _
 have hsz:(DataW.weightsEach Tryz.prog (Tryz.f7.params.toList++Rows.segmentCutsSpec.plain.varTypes Tryz.prog) (ds++gs)).all (· ≤reachBytes)=true:=hsz0
 have hval:∀(j:Nat) t v,Tryz.f7.params[j]? = some t→args[j]? = some v→Value.okWide Tryz.prog W .any base t v:=hval0
 have hW':=hW
 obtain⟨p,q,hA0,hV,rfl,hfz,hnd⟩:=hW
 have hA:DataW.TrodAll enc Tryz.prog W 0 (fun _=>true) true Tryz.f7.params.toList args.toList ds p:=hA0
 have hA1:DataW.TrodAll enc Tryz.prog W 0 (fun _=>true) true Tryz.f7.params.toList args.toList ds p:=hA0
 rw[Tryz.params7] at hA hval hsz
 obtain⟨v0,vs0,d0,ds0,p0,q0,hargs,rfl,rfl,h0,r0⟩:=trodAll_cons hA
 obtain⟨v1,vs1,d1,ds1,p1,q1,rfl,rfl,rfl,h1,r1⟩:=trodAll_cons r0
 obtain⟨v2,vs2,d2,ds2,p2,q2,rfl,rfl,rfl,h2,r2⟩:=trodAll_cons r1
 obtain⟨v3,vs3,d3,ds3,p3,q3,rfl,rfl,rfl,h3,r3⟩:=trodAll_cons r2
 obtain⟨v4,vs4,d4,ds4,p4,q4,rfl,rfl,rfl,h4,r4⟩:=trodAll_cons r3
 obtain⟨rfl,rfl,rfl⟩:=trodAll_nil r4
 obtain rfl:args=#[v0,v1,v2,v3,v4]:=by cases args;simp_all
 obtain⟨rfl,rfl⟩:=trodVars_none hV
 obtain⟨A0,a0,c0,rfl,w0⟩:=open_rowsZ (hval 0 41 v0 rfl rfl) h0 (fun n hn=>by have:=jt.1 hsz n (DataW.weights_mem_each (j:=0) (t:=41) rfl rfl n hn);simpa using this)
 obtain⟨a1,rfl,rfl,rfl,w1⟩:=open_int Tryz.underlying3 (hval 1 3 v1 rfl rfl) h1
 obtain⟨A2,a2,c2,rfl,w2⟩:=qmr (hval 2 23 v2 rfl rfl) h2
 obtain⟨a3,rfl,rfl,rfl,w3⟩:=open_int Tryz.underlying5 (hval 3 5 v3 rfl rfl) h3
 obtain⟨b3,rfl⟩:=u8_of_wf w3
 obtain⟨a4,rfl,rfl,rfl,w4⟩:=open_int Tryz.underlying33 (hval 4 33 v4 rfl rfl) h4
 obtain⟨b4,rfl,l4⟩:=u16_of_wf w4
 clear hA0 hval0
 refine(segmentCuts_walk (w:=W) w0 a1 w1 w2 b3 b4 l4).mono fun e W' ⟨he,bel⟩ => ?_
 subst he
 exact⟨_,rfl,_,_,_,[],_,[],hW',trodAll_mk1 (shut_bool Tryz.underlying4 _),qd7 qpe bel _ _ _ _ (by kernel_rfl) hA1,rfl,bel.frame _,fun h=>by cases h⟩
theorem segmentCuts_over:Rows.segmentCutsRow.holds Tryz.pinned (OpenSpec.ofChange Rows.segmentCutsSpec) :=
 OpenClaim.holds_of_wide 7 Tryz.f7 rfl rfl rfl rfl rfl rfl rfl ⟨rfl,rfl,rfl,rfl,rfl⟩ rfl rfl rfl rfl rfl (by kernel_rfl) Tryz.func7 (by kernel_rfl)
  (of_decide_eq_true (by kernel_rfl)) (by unfold Func.isWrapper;first | (rw[if_pos (by decide +kernel)];kernel_rfl) | (rw[if_neg (by decide +kernel)];exact⟨rfl,rfl⟩))
  (fun os started H enc _=>segmentCuts_lifted os started H enc)
theorem segmentCuts_proved:Rows.SegmentCutsSaid:=segmentCuts_over
end Go.Proofs.YtnjkipnklpkaoaaGreat
