/-
  Of whatever bytes, sealed or not, Load makes a table that is exported to the same bytes and has at most 4096 rows, or answers ErrCorrupt and leaves the catalog without tables; or the bytes are many, or awake says so.
-/
import Derived.Test.YtjfecojdagmacaaGreatD24
namespace Go.Proofs.YtjfecojdagmacaaGreat
set_option maxRecDepth 20000
set_option maxHeartbeats 16000000
set_option linter.unusedSimpArgs false
set_option linter.unusedVariables false
open Go.RowKit Go.ChangeShapes Go.WideShapes Go.ChangeAt
theorem catalogLoads_walk{w:World}{A:Option Addr}{bs:List UInt8}{c:Nat}(h:Rd w 0 w.heap.size A c (bv bs))(se:Bool) :
  Calls Tryz.prog 5 #[.slice A bs.length c,.bool se] w fun e w'=>e= .returned (.bool true)∧Below w.heap.size w w':=by
 have hl:=h.len
 have hc:=h.cap
 rw[yf] at hl
 unfold maxLen at hc
 have H:Hid (∀W,Below w.heap.size w W→Rd W 0 W.heap.size A c (bv bs)):=fun W hW=>(h.below hW (qc _)).wide (qc _) hW.size
 have HAW:=qa (awake19_v (w:=w))
 clear h
 by_cases h5:bs.length≤2000
 case neg =>
  have i5:(2000:Int)<(bs.length:Int):=by omega
  go_enter Tryz.func5,Tryz.ntmps5
  go_wp2_with fail
  refine HAW.out.mono ?_
  rintro r w2 ⟨rfl,hb2⟩
  have B2:=qa hb2
  have HAW2:=qa (awake19_v (w:=w2))
  clear hb2 HAW
  go_wp2_with fail
  refine HAW2.out.mono ?_
  rintro r w3 ⟨rfl,hb3⟩
  go_wp2_with fail
  go_ret
  exact⟨rfl,B2.out.trans (hb3.mono B2.out.size)⟩
 have i5:¬(2000:Int)<(bs.length:Int):=by omega
 go_enter Tryz.func5,Tryz.ntmps5
 go_wp2_with fail
 refine HAW.out.mono ?_
 rintro r w2 ⟨rfl,hb2⟩
 have B2:=qa hb2
 have hsl:=qc2 bs
 have HSE:=qa (qkx (w:=w2) bs (H.out w2 hb2) (qc _) (by omega))
 have HR2:=qa (H.out w2 hb2)
 have HSL:=qa hsl
 clear hb2 HAW hsl
 go_upto_if 21 with (fail)
 go_cut [5] (fun x5 wx=>∃(A':Option Addr) (c':Nat) (xs:List UInt8),x5= .slice A' xs.length c'∧Hid (Rd wx 0 wx.heap.size A' c' (bv xs))∧xs.length≤3000∧Below w.heap.size w wx)
 case first =>
  cases se with
  | false =>
   go_wp2_with fail
   go_meet
   case rel=>exact⟨A,c,bs,rfl,HR2.out,by omega,B2.out⟩
  | true =>
   go_wp2_with fail
   refine HSE.out.mono ?_
   rintro r w3 ⟨A3,c3,rfl,ho3,hb3⟩
   have B3:Hid (Below w.heap.size w w3):=B2.out.trans (hb3.mono B2.out.size)
   have HO3:=qa ho3
   clear ho3 hb3 HSE
   go_wp2_with fail
   go_meet
   case rel=>exact⟨A3,c3,vo bs,rfl,(Rd.of_own HO3.out).wide (qi _) (qc _),by rw[HSL.out];omega,B3.out⟩
 case rest =>
  obtain⟨A',c',xs,rfl,HX,hx3,hbx⟩:=hcut
  have HBX:=qa hbx
  clear hbx HSE HR2 B2
  obtain⟨wx,rfl⟩:∃x,x=wc:=⟨_,rfl⟩
  have hxc:xs.length≤c'∧c'≤9223372036854775807:=by
   have h1:=HX.out.len
   have h2:=HX.out.cap
   rw[yf] at h1
   simp only[maxLen] at h2
   exact⟨h1,by omega⟩
  go_wp2_with fail
  refine new19_v.mono ?_
  rintro r w4 ⟨rfl,hc4,hb4⟩
  obtain⟨C,hC⟩:∃C,wx.heap.size=C:=⟨_,rfl⟩
  have B4:Hid (Below w.heap.size w w4):=HBX.out.trans (hb4.mono HBX.out.size)
  have HX4:Hid (Rd w4 0 w4.heap.size A' c' (bv xs)):=(HX.out.below hb4 (qc _)).wide (qc _) hb4.size
  have hwC:w.heap.size≤C:=by rw[←hC];exact HBX.out.size
  have hRC:Rd w4 0 C A' c' (bv xs):=by rw[←hC];exact HX.out.below hb4 (qc _)
  rw[hC] at hc4 ⊢
  have HRC:=qa hRC
  have HLD:=qa (load_v hc4 ⟨#[116]⟩ (by decide) HX4.out (by omega))
  have hfr:qhh [] ⟨#[116]⟩=0:=by decide +kernel
  have HFR:=qa hfr
  have HC4:=qa hc4
  clear hb4 hc4 hC hRC hfr HX HBX
  go_wp2_with fail
  refine HLD.out.mono ?_
  rintro r w5 (⟨h0, -⟩ | ⟨-,⟨n,l,M5,g5,S5,hto,rfl,hc5,hst⟩ | ⟨-,rfl,hb5⟩⟩)
  ·
   exact absurd HFR.out h0
  case inr.inr =>
   have B5:Hid (Below w.heap.size w w5):=B4.out.trans (hb5.mono B4.out.size)
   have HNM:=qa (names_v (HC4.out.below hb5))
   clear hb5 HLD
   go_wp2_with fail
   refine HNM.out.mono ?_
   rintro r w6 ⟨t,A6,c6,rfl, -,htl, -,hb6⟩
   have htl2:(t.length:Int)=0:=by rw[htl];rfl
   have B6:Hid (Below w.heap.size w w6):=B5.out.trans (hb6.mono B5.out.size)
   clear hb6 htl HNM
   go_wp2_with fail
   go_ret
   exact⟨rfl,B6.out⟩
  have B5:Hid (Below w.heap.size w w5):=B4.out.trans (HC4.out.after hst.out hwC)
  have HX5:Hid (Rd w5 0 C A' c' (bv xs)):=HRC.out.below (HC4.out.after hst.out (qc _)) (qc _)
  obtain⟨es,hes⟩:∃es:List En,[]++[(⟨⟨#[116]⟩,g5,S5,n,l⟩:En)]=es:=⟨_,rfl⟩
  rw[hes] at hc5
  have he0:∃h:0<es.length,es[0]'h=⟨⟨#[116]⟩,g5,S5,n,l⟩:=by
   subst hes
   exact⟨by simp,rfl⟩
  obtain⟨hk0,he1⟩:=he0
  have hen:(es[0]'hk0).name=⟨#[116]⟩:=by rw[he1]
  obtain⟨T,hT⟩:∃T,vd n (k9 l)=T:=⟨_,rfl⟩
  have hX:vo T=xs:=by rw[←hT];exact hto.2.2.symm
  have htl:T.length≤3000:=by
   have:=qc2 T
   rw[hX] at this
   omega
  have hcnt:l.length≤3000:=by
   have h1:=flat_len l
   have h2:(ko (k9 l)).length≤T.length:=by rw[←hT,vd,qd];omega
   omega
  have hex:=exp_yes hc5 ⟨#[116]⟩ hk0 hen (by rw[he1];show l.length≤1000000000;omega) (T:=T) (X:=xs) (by rw[he1];exact hT) hX (by omega)
  have HEX:=qa hex
  obtain⟨R,hR⟩:∃R,qcf l=R:=⟨_,rfl⟩
  have hr4:R≤4096:=by rw[←hR];exact hto.1.tot
  have HRW:Hid (∀W,Below w5.heap.size w5 W→Calls Tryz.prog 21 #[.pointer (some ⟨C,0,none⟩),.string ⟨#[116]⟩] W fun r w'=>∃A' c',r= .returned (.tuple #[.slice A' R c',.int .i64 0])∧Below W.heap.size W w'):=fun W hW=>by
   refine(rows_yes (hc5.below hW) ⟨#[116]⟩ hk0 hen (T:=R) (by rw[he1];exact hR) (by rw[he1];show l.length≤1000000000;omega)).mono ?_
   rintro r w' ⟨A1,c1,ys,h1, -, -,h4⟩
   exact⟨A1,c1,h1,h4⟩
  have hCw:C≤w5.heap.size:=hc5.low
  clear hto hc5 hst hes hk0 he1 hen hT hX htl hcnt hex hR HLD
  go_wp2_with fail
  refine HEX.out.mono ?_
  rintro r w6 ⟨A6,c6,rfl,ho6,hb6⟩
  have B6:Hid (Below w.heap.size w w6):=B5.out.trans (hb6.mono B5.out.size)
  have HO6:=qa ho6
  have HX6:Hid (Rd w6 0 C A' c' (bv xs)):=HX5.out.below hb6 hCw
  have HRI:=qa (HRW.out w6 hb6)
  have hC6:C≤w6.heap.size:=zb hCw hb6.size
  clear ho6 hb6 HEX HRW HX5
  go_wp2_with fail
  refine HRI.out.mono ?_
  rintro r w7 ⟨A7,c7,rfl,hb7⟩
  have B7:Hid (Below w.heap.size w w7):=B6.out.trans (hb7.mono B6.out.size)
  have hs6:=HO6.out
  have hsm:=same_any (w:=w7) xs xs (Rd.of_own (jp hs6 hb7 (qc _))) (HX6.out.below hb7 hC6)
  rw[qx (rfl:xs=xs)] at hsm
  have HSA:=qa hsm
  have i4:(R:Int)≤4096:=by omega
  clear hb7 hs6 hsm HRI HO6 HX6
  go_wp2_with fail
  refine HSA.out.mono ?_
  rintro r w8 ⟨rfl,rfl⟩
  clear HSA
  go_wp2_with fail
  go_ret
  exact⟨rfl,B7.out⟩
set_option maxRecDepth 100000 in
theorem catalogLoads_lifted(os:Os)(started:os.Started)(H:Type)(enc:TypeId×Value→H) :
  ReturnsInHanded {} Tryz.checked os 5 .any (Rows.catalogLoadsSpec.pre6 enc Tryz.prog Tryz.f5 Rows.catalogLoadsRow.domain false) (Rows.catalogLoadsSpec.post enc Tryz.prog Tryz.f5 false true false false):=by
 refine returnsInHanded_of_change (C:=Tryz.checked) own started (by kernel_rfl) Tryz.func5
  (ChangeSpec.witness6 (enc:=enc) (C:=Tryz.checked) false ⟨#[],#[.slice none 0 0,.bool false],[]⟩ 8 (by kernel_rfl) (by kernel_rfl) (by kernel_rfl) (by kernel_rfl)) ?_
 intro W base args ds gs before hval0 hW hcnd _
 have hval:∀(j:Nat) t v,Tryz.f5.params[j]? = some t→args[j]? = some v→Value.okWide Tryz.prog W .any base t v:=hval0
 have hW':=hW
 obtain⟨p,q,hA0,hV,rfl,hfz,hnd⟩:=hW
 have hA:DataW.TrodAll enc Tryz.prog W 0 (fun _=>true) true Tryz.f5.params.toList args.toList ds p:=hA0
 have hA1:DataW.TrodAll enc Tryz.prog W 0 (fun _=>true) true Tryz.f5.params.toList args.toList ds p:=hA0
 rw[Tryz.params5] at hA hval
 obtain⟨v0,vs0,d0,ds0,p0,q0,hargs,rfl,rfl,h0,r0⟩:=trodAll_cons hA
 obtain⟨v1,vs1,d1,ds1,p1,q1,rfl,rfl,rfl,h1,r1⟩:=trodAll_cons r0
 obtain⟨rfl,rfl,rfl⟩:=trodAll_nil r1
 obtain rfl:args=#[v0,v1]:=by cases args;simp_all
 obtain⟨rfl,rfl⟩:=trodVars_none hV
 obtain⟨A0,a0,c0,rfl,w0⟩:=open_bytes Tryz.underlying36 Tryz.underlying5 (by kernel_rfl) (hval 0 36 v0 rfl rfl) h0
 obtain⟨a1,rfl,rfl,rfl⟩:=open_bool Tryz.underlying4 (hval 1 4 v1 rfl rfl) h1
 clear hA0 hval0
 refine(catalogLoads_walk (w:=W) w0 a1).mono fun e W' ⟨he,bel⟩ => ?_
 subst he
 exact⟨_,rfl,_,_,_,[],_,[],hW',trodAll_mk1 (shut_bool Tryz.underlying4 _),qmg laidOut bel _ _ _ _ (by kernel_rfl) hA1,rfl,bel.frame _,fun h=>by cases h⟩
theorem catalogLoads_over:Rows.catalogLoadsRow.holds Tryz.pinned (OpenSpec.ofChange Rows.catalogLoadsSpec) :=
 OpenClaim.holds_of_wide 5 Tryz.f5 rfl rfl rfl rfl rfl rfl rfl ⟨rfl,rfl,rfl,rfl,rfl⟩ rfl rfl rfl rfl rfl (by kernel_rfl) Tryz.func5 (by kernel_rfl)
  (of_decide_eq_true (by kernel_rfl)) (by unfold Func.isWrapper;first | (rw[if_pos (by decide +kernel)];kernel_rfl) | (rw[if_neg (by decide +kernel)];exact⟨rfl,rfl⟩))
  (fun os started H enc _=>catalogLoads_lifted os started H enc)
theorem catalogLoads_proved:Rows.CatalogLoadsSaid:=catalogLoads_over
end Go.Proofs.YtjfecojdagmacaaGreat
