/-
  Of whatever bytes, sealed or not, Read answers a segment, or that they are none; nothing else; or the bytes are many, or awake says so.
-/
import Derived.Test.YtnjkipnklpkaoaaGreatA24
import Derived.Test.YtnjkipnklpkaoaaGreatA59
namespace Go.Proofs.YtnjkipnklpkaoaaGreat
set_option maxRecDepth 20000
set_option maxHeartbeats 16000000
set_option linter.unusedSimpArgs false
set_option linter.unusedVariables false
open Go.RowKit Go.ChangeShapes Go.WideShapes Go.ChangeAt
theorem segmentReads_walk{w:World}{A:Option Addr}{bs:List UInt8}{c:Nat}(h:Rd w 0 w.heap.size A c (bv bs))(se:Bool) :
  Calls Tryz.prog 5 #[.slice A bs.length c,.bool se] w fun e w'=>e= .returned (.bool true)∧Below w.heap.size w w':=by
 have hl:=h.len
 have hc:=h.cap
 rw[yh] at hl
 unfold maxLen at hc
 have H:Hid (∀W,Below w.heap.size w W→Rd W 0 W.heap.size A c (bv bs)):=fun W hW=>(h.below hW (qc _)).wide (qc _) hW.size
 have HAW:=qa (uf (w:=w))
 clear h
 by_cases h5:bs.length≤2000
 case neg =>
  have i5:(2000:Int)<(bs.length:Int):=by omega
  go_enter Tryz.func5,Tryz.ntmps5
  go_wp2_with fail
  refine HAW.out.mono ?_
  rintro r w2 ⟨rfl,hb2⟩
  have B2:=qa hb2
  have HAW2:=qa (uf (w:=w2))
  clear hb2 HAW
  go_wp2_with fail
  refine HAW2.out.mono ?_
  rintro r w3 ⟨rfl,hb3⟩
  go_wp2_with fail
  go_ret
  exact⟨rfl,B2.out.trans (hb3.mono B2.out.size)⟩
 have i5:¬(2000:Int)<(bs.length:Int):=by omega
 go_enter Tryz.func5,Tryz.ntmps5
 go_wp2_with fail
 refine HAW.out.mono ?_
 rintro r w2 ⟨rfl,hb2⟩
 have B2:=qa hb2
 have hsl:=qdy bs
 have HSE:=qa (qlr (w:=w2) bs (H.out w2 hb2) (qc _) (by omega))
 have HR2:=qa (H.out w2 hb2)
 have HSL:=qa hsl
 clear hb2 HAW hsl
 go_upto_if 20 with (fail)
 go_cut [5] (fun x5 wx=>∃(A':Option Addr) (c':Nat) (xs:List UInt8),x5= .slice A' xs.length c'∧Hid (Rd wx 0 wx.heap.size A' c' (bv xs))∧xs.length≤3000∧Below w.heap.size w wx)
 case first =>
  cases se with
  | false =>
   go_wp2_with fail
   go_meet
   case rel=>exact⟨A,c,bs,rfl,HR2.out,by omega,B2.out⟩
  | true =>
   go_wp2_with fail
   refine HSE.out.mono ?_
   rintro r w3 ⟨A3,c3,rfl,ho3,hb3⟩
   have B3:Hid (Below w.heap.size w w3):=B2.out.trans (hb3.mono B2.out.size)
   have HO3:=qa ho3
   clear ho3 hb3 HSE
   go_wp2_with fail
   go_meet
   case rel=>exact⟨A3,c3,kr bs,rfl,(Rd.of_own HO3.out).wide (qi _) (qc _),by rw[HSL.out];omega,B3.out⟩
 case rest =>
  obtain⟨A',c',xs,rfl,HX,hx3,hbx⟩:=hcut
  have HBX:=qa hbx
  have HRD:=qa (qe9 HX.out (by omega) (qex (by omega)))
  clear hbx HSE HR2 HSL H HX
  go_wp2_with fail
  refine HRD.out.mono ?_
  rintro r w4 ⟨hb4,⟨G,n,gs,rfl,hok,hsm⟩ | ⟨rfl, -⟩⟩
  case inr =>
   have B4:Hid (Below w.heap.size w w4):=HBX.out.trans (hb4.mono HBX.out.size)
   clear hb4 HRD
   go_wp2_with fail
   go_ret
   exact⟨rfl,B4.out⟩
  have B4:Hid (Below w.heap.size w w4):=HBX.out.trans (hb4.mono HBX.out.size)
  have HOK:=qa hok.ok
  have HSM:=qa hsm
  have hn1:=hok.ok.one
  have hn8:=hok.ok.eight
  have hr4:=hok.ok.rows
  have in1:¬(n:Int)<1:=by omega
  have in8:¬(8:Int)<(n:Int):=by omega
  obtain⟨q0, -⟩:=hsm.cells
  have HLN:=qa (qos hsm hok.ok)
  obtain⟨T,hT⟩:∃T,qas gs=T:=⟨_,rfl⟩
  rw[hT] at HLN hr4
  have HT:=qa hT
  have iT:¬(4096:Int)<(T:Int):=by omega
  clear hb4 HRD hok hsm hT
  go_wp2_with fail
  refine HLN.out.mono ?_
  rintro r w5 ⟨rfl,hb5⟩
  have B45:=qa hb5
  have HRW:=qa (qhc (HSM.out.below hb5) HOK.out HT.out)
  clear hb5 HLN q0
  go_wp2_with fail
  refine HRW.out.mono ?_
  rintro r w6 ⟨A6,c6,xs6,rfl, -, -,hb6⟩
  have B46:Hid (Below w4.heap.size w4 w6):=B45.out.trans (hb6.mono B45.out.size)
  have hln:=qos (HSM.out.below B46.out) HOK.out
  rw[HT.out] at hln
  have HLN:=qa hln
  clear hb6 HRW hln
  go_wp2_with fail
  refine HLN.out.mono ?_
  rintro r w7 ⟨rfl,hb7⟩
  have B47:Hid (Below w4.heap.size w4 w7):=B46.out.trans (hb7.mono B46.out.size)
  have B7:Hid (Below w.heap.size w w7):=B4.out.trans (B47.out.mono B4.out.size)
  have HS7:=qa (HSM.out.below B47.out)
  clear hb7 HLN HSM
  go_wp2_with fail
  go_loopw [8] (fun i wr=>∃k:Nat,k≤gs.length∧i= .int .i64 (k:Int)∧Below w7.heap.size w7 wr) (fun i _=>gs.length-(intOf i).toNat)
  case atStart=>exact⟨0,qi _,rfl,Below.refl _ _⟩
  case round =>
   obtain⟨k,hkl,rfl,hbr⟩:=hrel
   have HBR:=qa hbr
   have hSr:=HS7.out.below hbr
   obtain⟨q0,AS,cS,q1,hs1,hs2,hcs⟩:=hSr.cells
   have B7r:Hid (Below w.heap.size w wr):=B7.out.trans (hbr.mono B7.out.size)
   have HSr:=qa hSr
   clear hbr hSr
   by_cases hk:k<gs.length
   ·
    have ik:(k:Int)<(gs.length:Int):=by omega
    have ik0:(0:Int)≤(k:Int):=by omega
    obtain⟨bS,oS,rS,rfl,hbS,hgr,hgs,z0,z1,z2⟩:=hcs k hk
    have hgo:=HOK.out.grp _ (qj hk)
    have hgl:gs[k].cols.length=n:=hgo.len
    rw[hgl] at z1 z2
    have HGR:=qa hgr
    have HGS:=qa hgs
    have HGO:=qa hgo
    have HGL:=qa hgl
    have HCT:Hid (∀j (hj:j<gs[k].cols.length),gs[k].cols[j].ck.there.length=gs[k].rows):=fun j hj=>(hgo.cols _ (qj hj)).len
    have hpos:0<gs[k].rows:=hgo.pos
    obtain⟨rw0,hrw0⟩:∃x,gs[k].rows=x:=⟨_,rfl⟩
    rw[hrw0] at z0 hpos HCT
    have hrw1:rw0≤4096:=by
     have h1:=qkg hk
     have h2:=qot gs (k+1)
     have h3:=HOK.out.rows
     omega
    have ip1:¬(rw0:Int)<1:=by omega
    clear hcs hgr hgs hgo hgl hrw0
    generalize gs[k]=g0 at *
    obtain⟨w8,hw8⟩:∃x,Hid (wr.alloc (.cells #[.int .i64 (rw0:Int),.slice rS.fA n rS.fc,.slice rS.kA n rS.kc] 48)=x):=⟨_,rfl⟩
    have b8:Below wr.heap.size wr w8:=by rw[←hw8.out];exact(Below.refl _ wr).alloc (qc _) _
    have hbk:j6 w8 wr.heap.size 48 #[.int .i64 (rw0:Int),.slice rS.fA n rS.fc,.slice rS.kA n rS.kc]:=by rw[←hw8.out];exact j6.new wr _ _
    have HB8:Hid (Below w7.heap.size w7 w8):=HBR.out.trans (b8.mono HBR.out.size)
    obtain⟨p0, -⟩:=(HSr.out.below b8).cells
    have v0:w8.cell? ⟨wr.heap.size,0,none⟩=some (.int .i64 (rw0:Int)):=hbk.cell 0
    have v1:w8.cell? ⟨wr.heap.size,1,none⟩=some (.slice rS.fA n rS.fc):=hbk.cell 1
    have v2:w8.cell? ⟨wr.heap.size,2,none⟩=some (.slice rS.kA n rS.kc):=hbk.cell 2
    have HG8:=qa (HGR.out.below b8)
    clear b8 hbk
    go_wp2_with fail
    rw[hw8.out]
    clear hw8 q0 q1 z0 z1 z2
    go_quiet (fail)
    go_wp2_with fail
    go_loopw [10] (fun i wv=>∃j q:Nat,j≤n∧i= .int .i64 (j:Int)∧w8.drewN q=wv) (fun i _=>n-(intOf i).toNat)
    case atStart=>exact⟨0,nq,qi _,rfl,rfl⟩
    case round =>
     obtain⟨j,q,hjn,rfl,rfl⟩:=hrel
     by_cases hj:j<n
     ·
      have ij:(j:Int)<(n:Int):=by omega
      have ij0:(0:Int)≤(j:Int):=by omega
      have hjc:j<g0.cols.length:=by rw[HGL.out];exact hj
      obtain⟨bf,of,bk,ok,t, -,hkA,hit,htc, -,hptr, -, -, -, -⟩:=HG8.out.parts HGS.out hjc
      have hct:=HCT.out j hjc
      rw[←htc] at hct
      have HLV:=fun(m:Nat)=>qa (len_v (hit.chk.below (zg (Below.refl _ w8) m)))
      rw[hct] at HLV
      rw[hkA] at v2
      clear hit htc hct hkA
      go_wp2_with fail
      go_quiet ((go_at_call 21;exact qjc (HLV _).out))
      go_wp2_with fail
      go_roundw
      case rel=>exact⟨j+1,_,by omega,by go_num,rfl⟩
      case measure=>simp[intOf];omega
     ·
      have ij:¬(j:Int)<(n:Int):=by omega
      go_wp2_with fail
      go_roundw
      case rel=>exact⟨k+1,by omega,by go_num,zg HB8.out _⟩
      case measure=>simp[intOf];omega
   ·
    have ik:¬(k:Int)<(gs.length:Int):=by omega
    clear hcs
    go_wp2_with fail
    go_ret
    exact⟨rfl,B7r.out⟩
set_option maxRecDepth 100000 in
theorem segmentReads_lifted(os:Os)(started:os.Started)(H:Type)(enc:TypeId×Value→H) :
  ReturnsInHanded {} Tryz.checked os 5 .any (Rows.segmentReadsSpec.pre6 enc Tryz.prog Tryz.f5 Rows.segmentReadsRow.domain false) (Rows.segmentReadsSpec.post enc Tryz.prog Tryz.f5 false true false false):=by
 refine returnsInHanded_of_change (C:=Tryz.checked) own started (by kernel_rfl) Tryz.func5
  (ChangeSpec.witness6 (enc:=enc) (C:=Tryz.checked) false ⟨#[],#[.slice none 0 0,.bool false],[]⟩ 8 (by kernel_rfl) (by kernel_rfl) (by kernel_rfl) (by kernel_rfl)) ?_
 intro W base args ds gs before hval0 hW hcnd _
 have hval:∀(j:Nat) t v,Tryz.f5.params[j]? = some t→args[j]? = some v→Value.okWide Tryz.prog W .any base t v:=hval0
 have hW':=hW
 obtain⟨p,q,hA0,hV,rfl,hfz,hnd⟩:=hW
 have hA:DataW.TrodAll enc Tryz.prog W 0 (fun _=>true) true Tryz.f5.params.toList args.toList ds p:=hA0
 have hA1:DataW.TrodAll enc Tryz.prog W 0 (fun _=>true) true Tryz.f5.params.toList args.toList ds p:=hA0
 rw[Tryz.params5] at hA hval
 obtain⟨v0,vs0,d0,ds0,p0,q0,hargs,rfl,rfl,h0,r0⟩:=trodAll_cons hA
 obtain⟨v1,vs1,d1,ds1,p1,q1,rfl,rfl,rfl,h1,r1⟩:=trodAll_cons r0
 obtain⟨rfl,rfl,rfl⟩:=trodAll_nil r1
 obtain rfl:args=#[v0,v1]:=by cases args;simp_all
 obtain⟨rfl,rfl⟩:=trodVars_none hV
 obtain⟨A0,a0,c0,rfl,w0⟩:=open_bytes Tryz.underlying26 Tryz.underlying5 (by kernel_rfl) (hval 0 26 v0 rfl rfl) h0
 obtain⟨a1,rfl,rfl,rfl⟩:=open_bool Tryz.underlying4 (hval 1 4 v1 rfl rfl) h1
 clear hA0 hval0
 refine(segmentReads_walk (w:=W) w0 a1).mono fun e W' ⟨he,bel⟩ => ?_
 subst he
 exact⟨_,rfl,_,_,_,[],_,[],hW',trodAll_mk1 (shut_bool Tryz.underlying4 _),qd7 qpe bel _ _ _ _ (by kernel_rfl) hA1,rfl,bel.frame _,fun h=>by cases h⟩
theorem segmentReads_over:Rows.segmentReadsRow.holds Tryz.pinned (OpenSpec.ofChange Rows.segmentReadsSpec) :=
 OpenClaim.holds_of_wide 5 Tryz.f5 rfl rfl rfl rfl rfl rfl rfl ⟨rfl,rfl,rfl,rfl,rfl⟩ rfl rfl rfl rfl rfl (by kernel_rfl) Tryz.func5 (by kernel_rfl)
  (of_decide_eq_true (by kernel_rfl)) (by unfold Func.isWrapper;first | (rw[if_pos (by decide +kernel)];kernel_rfl) | (rw[if_neg (by decide +kernel)];exact⟨rfl,rfl⟩))
  (fun os started H enc _=>segmentReads_lifted os started H enc)
theorem segmentReads_proved:Rows.SegmentReadsSaid:=segmentReads_over
end Go.Proofs.YtnjkipnklpkaoaaGreat
