/-
  What is handed to Add stays the caller's, what Export and Rows answer is new, and the table is as it was whatever becomes of them; or the rows may not be written, or are many, or awake says so.
-/
import Derived.Test.YtjfecojdagmacaaGreatE37
import Derived.Test.YtjfecojdagmacaaGreatE38
import Derived.SliceStrings
namespace Go.Proofs.YtjfecojdagmacaaGreat
set_option maxRecDepth 20000
set_option maxHeartbeats 16000000
set_option linter.unusedSimpArgs false
set_option linter.unusedVariables false
open Go.RowKit Go.ChangeShapes Go.WideShapes Go.ChangeAt
attribute [local go_sem] qa9
theorem wr_facts{gs:List (List (List Vl))}{os:List Co}{cols bits:Int}(hR:qaf cols gs os bits)(hT:qf7 gs os)(hF:FewSg gs os):∃(bs:List UInt8) (GS:List GrpS),vn (qgn os bits.toNat gs)=bs∧xo bs os.length GS∧qd7 GS=gs.flatten∧vi GS=vo gs∧bs.length≤900000004:=by
 obtain⟨bs,GS,h1,h2,h3,h4, -⟩:=seg_facts hR hT hF
 have hbits:(bits.toNat:Int)=bits:=by have:=hR.2.2.2.1;omega
 have hR2:qaf cols gs os (bits.toNat:Int):=by rw[hbits];exact hR
 have h5:=segB_len hR2 hT hF
 refine⟨bs,GS,h1,h2,h3,h4,?_⟩
 rw[←h1,ut]
 omega
theorem exp1_len(n:Nat)(bs:List UInt8)(hn:n≤8)(hb:bs.length≤900000004):(xf n [bs]).length≤900000100:=by
 have h1:=qba 8 n (by omega)
 have h2:=qba 8 1 (by omega)
 have h3:=qba 8 bs.length (by omega)
 rw[xf,qd,qd,qhh,qd,qd,show kh []=[] from rfl]
 simp only[qo,jy,yk]
 omega
theorem own_u8{w:World}{base n:Nat}{v:Value}{xs:List Value}(h:w.ownsRow base 5 1 v n xs):xs.length=n:=by
 have:=h.1
 omega
theorem catalogKeeps_walk{w:World}{A:Option Addr}{gs:List (List (List Vl))}{c:Nat}(hg:qbg w 0 w.heap.size A c gs∧SizedG gs) :
  Calls Tryz.prog 7 #[.slice A gs.length c] w fun e w'=>e= .returned (.bool true)∧Below w.heap.size w w':=by
 obtain⟨hg,hz⟩:=hg
 obtain⟨hl,hm⟩:=hg.len
 have HG:Hid (∀W,Below w.heap.size w W→qbg W 0 W.heap.size A c gs):=fun W hW=>(hg.below hW (qc _)).wide (qc _) hW.size
 have HZ:=qa hz
 have HAW:=qa (qja (w:=w))
 have HN:Hid (∀W:World,qb8 W 0 W.heap.size none 0 []):=fun W=>⟨fun _=>none,fun _=>0,Els.nil _ _ _ _ _,fun j hj=>absurd hj (jm j)⟩
 clear hg hz
 go_enter Tryz.func7,Tryz.ntmps7
 go_wp2_with fail
 refine HAW.out.mono ?_
 rintro r w2 ⟨rfl,hb2⟩
 have B2:=qa hb2
 have hfw:=refFewSg_v (HG.out w2 hb2) (HN.out w2) HZ.out
 rw[show([]:List Co).length=0 from rfl] at hfw
 have HFW:=qa hfw
 have HAW2:=qa (qja (w:=w2))
 clear hb2 HAW hfw
 go_wp2_with fail
 refine HFW.out.mono ?_
 rintro r w3 ⟨⟨b,rfl,hbf⟩,rfl⟩
 clear HFW
 cases b with
 | false =>
  go_wp2_with fail
  refine HAW2.out.mono ?_
  rintro r w4 ⟨rfl,hb4⟩
  go_wp2_with fail
  go_ret
  exact⟨rfl,B2.out.trans (hb4.mono B2.out.size)⟩
 | true =>
 have hf0:=hbf rfl
 have HF:Hid (FewSg gs [⟨0,1,0,[]⟩]):=⟨hf0.groups,by simp,hf0.rows,hf0.bytes,hf0.cols,fun o ho=>by
  obtain rfl:=q8.1 ho
  exact qj _⟩
 have hbd:∀W,(Instr.build 60 #[(1,.int .i64 1)]).run Tryz.prog W= .ok (.agg #[.int .i64 0,.int .i64 1,.int .i64 0,.slice none 0 0]) W:=fun W=>run_build W _ _ _ (by kernel_rfl)
 obtain⟨w5,hw5⟩:∃x,Hid (w2.alloc (.cells #[.int .i64 0,.int .i64 1,.int .i64 0,.slice none 0 0] 60)=x):=⟨_,rfl⟩
 have hb5:Below w2.heap.size w2 w5:=by rw[←hw5.out];exact(Below.refl _ w2).alloc (qc _) _
 have B5:Hid (Below w.heap.size w w5):=B2.out.trans (hb5.mono B2.out.size)
 have hbk:j8 w5 w2.heap.size 60 #[.int .i64 0,.int .i64 1,.int .i64 0,.slice none 0 0]:=by rw[←hw5.out];exact j8.new w2 _ _
 have hcd:qb8 w5 0 w5.heap.size (some ⟨w2.heap.size,0,none⟩) 1 [⟨0,1,0,[]⟩]:=qb8.one (o:=⟨0,1,0,[]⟩) hbk (qj _) hbk.lt (Rd.nil _ _ _) (fun z hz=>by cases hz)
 have hwr:=sgwrite_vW 1 0 (HG.out w5 B5.out) hcd HF.out (codeG_all _ _)
 rw[show([⟨0,1,0,[]⟩]:List Co).length=1 from rfl] at hwr
 have HWR:=qa hwr
 clear hbf hf0 hb5 hbk hcd hwr HAW2 B2
 go_wp2_with fail
 rw[hw5.out]
 clear hw5
 refine HWR.out.mono ?_
 rintro r w6 ⟨hb6,⟨hR,hT,A6,c6,rfl,ho6⟩ | ⟨hn,rfl⟩⟩
 case inr =>
  have B6:Hid (Below w.heap.size w w6):=B5.out.trans (hb6.mono B5.out.size)
  clear hb6 HWR hn
  go_wp2_with fail
  refine qkv.mono ?_
  rintro r w7 ⟨rfl, -,hb7⟩
  have B7:Hid (Below w.heap.size w w7):=B6.out.trans (hb7.mono B6.out.size)
  clear hb7
  go_wp2_with fail
  go_ret
  exact⟨rfl,B7.out⟩
 have B6:Hid (Below w.heap.size w w6):=B5.out.trans (hb6.mono B5.out.size)
 obtain⟨bs,GS,hbs,hTR,hRS,hRT,hbl⟩:=wr_facts hR hT HF.out
 rw[show([⟨0,1,0,[]⟩]:List Co).length=1 from rfl] at hTR
 rw[hbs] at ho6 ⊢
 have hr60:=HF.out.rows
 have HTR:=qa hTR
 have HRS:=qa hRS
 obtain⟨R,hRR⟩:∃R,vi GS=R:=⟨_,rfl⟩
 have hR60:R≤60:=by omega
 have HRR:=qa hRR
 have HFL:Hid (gs.flatten.length=R):=by unfold Hid;rw[←hRS,qhc,hRR]
 have HO6:=qa ho6
 have hs56:=hb6.size
 clear hb6 ho6 HWR hR hT hbs hTR hRS hRT hRR
 go_wp2_with fail
 refine qkv.mono ?_
 rintro r w7 ⟨rfl,hc7,hb7⟩
 obtain⟨C,hC⟩:∃C,w6.heap.size=C:=⟨_,rfl⟩
 have HO7:=qa (ji HO6.out hb7 (qc _))
 have B7:Hid (Below w.heap.size w w7):=B6.out.trans (hb7.mono B6.out.size)
 have HLT:Hid (∀q,Value.ownBlock (.slice A6 bs.length c6)=some q→w5.heap.size≤q∧q<C):=fun q hq=>by rw[←hC];exact zk HO6.out hq
 have hwC:w.heap.size≤C:=by rw[←hC];exact B6.out.size
 have hC7:C≤w7.heap.size:=by rw[←hC];exact hb7.size
 rw[hC] at hc7 ⊢
 have HC7:=qa hc7
 have HCR:=qa (qhl hc7 ⟨#[116]⟩ (by decide) 1)
 have hv:qex [] ⟨#[116]⟩ 1=0:=by decide +kernel
 rw[hv] at HCR
 have hH7:Hid (∀W,Below C w7 W→W.ownsRow w5.heap.size 5 1 (.slice A6 bs.length c6) bs.length (bv bs)):=fun W hW=>ji HO6.out ((by rw[hC];exact(by rw[←hC];exact hb7:Below C w6 w7).trans hW:Below w6.heap.size w6 W)) (qc _)
 clear hc7 hb7 hv hC HO6 HO7
 go_wp2_with fail
 refine HCR.out.mono ?_
 rintro r w8 ⟨rfl,⟨h0, -⟩ | ⟨-,M8,g8,S8,hc8,hst8⟩⟩
 ·
  exact absurd rfl h0
 have b8:Below C w7 w8:=HC7.out.after hst8.out (qc _)
 have B8:Hid (Below C w7 w8):=b8
 obtain⟨es8,hes8⟩:∃es:List En,[]++[(⟨⟨#[116]⟩,g8,S8,(1:Int).toNat,[]⟩:En)]=es:=⟨_,rfl⟩
 rw[hes8] at hc8
 have hk8:0<es8.length:=by rw[←hes8];exact Nat.zero_lt_one
 have he8:es8[0]'hk8=⟨⟨#[116]⟩,g8,S8,1,[]⟩:=by subst hes8;rfl
 have hrd8:Rd w8 0 w8.heap.size A6 c6 (bv bs):=(Rd.of_own (hH7.out w8 b8)).wide (qj _) (qc _)
 have HAD:=qa (add_yes hc8 ⟨#[116]⟩ hk8 (by rw[he8]) (by rw[he8];exact qj _) hrd8 (by omega))
 have HC8:=qa hc8
 have HE8:=qa hes8
 have hbc:bs.length≤c6∧c6≤9223372036854775807:=by
  have h1:=hrd8.len
  have h2:=hrd8.cap
  rw[jj] at h1
  simp only[maxLen] at h2
  exact⟨h1,by omega⟩
 clear hc8 hst8 b8 hrd8 hes8 HCR he8 hk8
 go_wp2_with fail
 refine HAD.out.mono ?_
 rintro r w9 ⟨hk,hcase⟩
 have hes8:=HE8.out
 have he8:es8[0]'hk=⟨⟨#[116]⟩,g8,S8,1,[]⟩:=by subst hes8;rfl
 rw[he8] at hcase
 rcases hcase with ⟨gs',S9,M9,rfl,hro,hto,hc9,hst9⟩ | ⟨e,rfl,hbad, -⟩
 case inr =>
  rcases hbad with ⟨-,hno⟩ | ⟨-,gs',hro,hto⟩
  ·
   exact absurd HTR.out (hno _)
  ·
   obtain⟨-,rfl⟩:=hro.one HTR.out
   rw[HRR.out] at hto
   exact absurd hto (by simp[ui];omega)
 obtain⟨-,rfl⟩:=hro.one HTR.out
 obtain⟨pt,hpt⟩:∃p:List Pt,[]++[(⟨bs,gs'⟩:Pt)]=p:=⟨_,rfl⟩
 simp only at hc9
 rw[hpt] at hc9
 have hes9:es8.set 0 ⟨⟨#[116]⟩,g8,S9,1,pt⟩=[⟨⟨#[116]⟩,g8,S9,1,pt⟩]:=by subst hes8;rfl
 rw[hes9] at hc9
 obtain⟨es,hes⟩:∃es:List En,[(⟨⟨#[116]⟩,g8,S9,1,pt⟩:En)]=es:=⟨_,rfl⟩
 rw[hes] at hc9
 have hk0:0<es.length:=by rw[←hes];exact Nat.zero_lt_one
 have he0:es[0]'hk0=⟨⟨#[116]⟩,g8,S9,1,pt⟩:=by subst hes;rfl
 have hen:(es[0]'hk0).name=⟨#[116]⟩:=by rw[he0]
 obtain⟨T,hT⟩:∃T,xf 1 (vb pt)=T:=⟨_,rfl⟩
 obtain⟨X,hX⟩:∃X,vn T=X:=⟨_,rfl⟩
 have hTl:T.length≤900000100:=by rw[←hT,←hpt];exact exp1_len 1 bs (by decide) hbl
 have hXl:X.length≤900000104:=by rw[←hX,ut];omega
 have hpl:pt.length=1:=by rw[←hpt];rfl
 have HEX:Hid (∀W,CatE W C M9 C es→Calls Tryz.prog 17 #[.pointer (some ⟨C,0,none⟩),.string ⟨#[116]⟩] W fun r w'=>∃A' c',r= .returned (.tuple #[.slice A' X.length c',.int .i64 0])∧w'.ownsRow W.heap.size 5 1 (.slice A' X.length c') X.length (bv X)∧Below W.heap.size W w'):=fun W hW =>
  exp_yes hW ⟨#[116]⟩ hk0 hen (by rw[he0];show pt.length≤_;omega) (by rw[he0];exact hT) hX (by omega)
 have htot:ui pt=R:=by rw[←hpt,qct,HRR.out];simp[ui]
 have hrow:qeo pt=gs.flatten:=by rw[←hpt,qh8,HRS.out];rfl
 have hrw:=fun W (hW:CatE W C M9 C es)=>rows_yes hW ⟨#[116]⟩ hk0 hen (T:=R) (by rw[he0];exact htot) (by rw[he0];show pt.length≤_;omega)
 have hpe:qeo (es[0]'hk0).pts=gs.flatten:=by rw[he0];exact hrow
 rw[hpe] at hrw
 have HRW:=qa hrw
 have HWD:Hid (∀r∈gs.flatten,r.length=1):=fun r hr=>by rw[←HRS.out] at hr;exact rowsS_width HTR.out.ok r hr
 have HSZ:Hid (∀r∈gs.flatten,∀v∈r,v.s.size≤9223372036854775807):=fun r hr v hv=>by rw[←HRS.out] at hr;exact zc (rowsS_size HTR.out.ok r hr v hv) (by decide)
 have b9:Below C w7 w9:=B8.out.trans (HC8.out.after hst9.out (qc _))
 have B9:Hid (Below w.heap.size w w9):=B7.out.trans (b9.mono hwC)
 have HO9:=qa (hH7.out w9 b9)
 have HC9:=qa hc9
 clear hro hto hc9 hst9 hk hes8 he8 hes9 hes hen hT hX htot hrow hrw hpe b9 HAD HC8 HE8 hH7 B8 HC7 B7 hpt hpl he0
 go_wp2_with fail
 go_loopw [6] (fun i wr=>∃(k:Nat) (xs:List Value),k≤bs.length∧i= .int .i64 (k:Int)∧Hid (wr.ownsRow w5.heap.size 5 1 (.slice A6 bs.length c6) bs.length xs)∧Hid (∀j,k≤j→xs[j]? = (bv bs)[j]?)∧Hid (w9.grownBy wr (Value.ownBlock (.slice A6 bs.length c6)))) (fun i _=>bs.length-(intOf i).toNat)
 case atStart=>exact⟨0,_,qj _,rfl,HO9.out,fun _ _=>rfl,yx _ _⟩
 case round =>
  clear HO9
  obtain⟨k,xs,hk,rfl,HW,HX,HG2⟩:=hrel
  by_cases hlt:k<bs.length
  ·
   have ik:(k:Int)<(bs.length:Int):=by omega
   have ik0:(0:Int)≤(k:Int):=by omega
   obtain⟨go,rfl,hgo,hgo2⟩:=qe8 HW.out (by omega)
   have hcell:wr.cell? ⟨go,k,none⟩=some (.int .u8 (bs[k].toNat:Int)):=by
    rw[HW.out.cellAt k (by omega),HX.out k (qc _),qgt bs k hlt]
   have hfr:=HW.out.frozenAt k
   have HS:=fun u=>qa (HW.out.stored k u)
   have hx256:bs[k].toNat<256:=je _
   generalize bs[k].toNat=x at *
   clear HW
   go_wp2_with fail
   go_roundw
   case rel =>
    refine⟨k+1,_,by omega,by go_num,(HS _).out.1,fun j hj => ?_,HG2.out.trans (HS _).out.2⟩
    rw[qa6 (by omega)]
    exact HX.out j (by omega)
   case measure=>simp[intOf];omega
  have ik:¬(k:Int)<(bs.length:Int):=by omega
  obtain⟨wb,rfl⟩:∃x,x=wr:=⟨_,rfl⟩
  have hgr:=HG2.out
  have BB:Hid (Below w.heap.size w wb):=B9.out.grown hgr B9.out.size (fun q hq=>by have:=(HLT.out q hq).1;have:=B5.out.size;omega)
  have HCB:Hid (CatE wb C M9 C es):=HC9.out.out (Out.of_gb (X:=fun i=>Value.ownBlock (.slice A6 bs.length c6)=some i) hgr (fun k hk=>hk)) (fun q hM hx=>by have:=(HLT.out q hx).2;have:=(HC9.out.mine q hM).1;omega)
  have HXB:=qa (HEX.out wb HCB.out)
  clear hgr HW HX HG2 HC9 B9
  go_wp2_with fail
  refine HXB.out.mono ?_
  rintro r w11 ⟨A11,c11,rfl,ho11,hb11⟩
  obtain⟨A12,c12,w13,hrun,ho13,hb13⟩:=qjb (qmn w11 5) (xs:=[]) rfl (Rd.of_own (ho11.alloc (.cells #[] 5))) rfl (xu X) (yk _) (by omega) (by simp)
  have hb1113:Below w11.heap.size w11 w13:=((Below.refl _ w11).alloc (qc _) _).trans hb13
  have B13:Hid (Below w.heap.size w w13):=BB.out.trans ((hb11.trans (hb1113.mono hb11.size)).mono BB.out.size)
  have hbm:Below wb.heap.size wb w13:=hb11.trans (hb1113.mono hb11.size)
  have HC13:=qa (HCB.out.below hbm)
  have HO13:=qa (ji ho11 hb1113 (qc _))
  have HW13:=qa ho13
  have HLX:Hid (∀q,Value.ownBlock (.slice A11 X.length c11)=some q→wb.heap.size≤q∧q<w11.heap.size):=fun q hq=>zk ho11 hq
  have hmine:Hid (∀q,M9 q→q<wb.heap.size):=fun q hq=>(HCB.out.mine q hq).2
  have hxc:X.length≤c11∧c11≤9223372036854775807:=by
   have h1:=(Rd.of_own ho11).len
   have h2:=(Rd.of_own ho11).cap
   rw[jj] at h1
   simp only[maxLen] at h2
   exact⟨h1,by omega⟩
  have hwb:w.heap.size≤wb.heap.size:=BB.out.size
  clear hb1113 hbm ho11 ho13 hb11 hb13 HXB HCB BB
  go_wp2_with (at_builtin;refine wpList_append_run rfl _ _ _ _ rfl rfl rfl hrun ?_)
  clear hrun
  go_loopw [10] (fun i wr=>∃(k:Nat) (xs:List Value),k≤X.length∧i= .int .i64 (k:Int)∧Hid (wr.ownsRow wb.heap.size 5 1 (.slice A11 X.length c11) X.length xs)∧Hid (∀j,k≤j→xs[j]? = (bv X)[j]?)∧Hid (w13.grownBy wr (Value.ownBlock (.slice A11 X.length c11)))) (fun i _=>X.length-(intOf i).toNat)
  case atStart=>exact⟨0,_,qj _,rfl,HO13.out,fun _ _=>rfl,yx _ _⟩
  case round =>
   clear HO13
   obtain⟨k,xs,hk,rfl,HW,HX,HG2⟩:=hrel
   by_cases hlt:k<X.length
   ·
    have ik:(k:Int)<(X.length:Int):=by omega
    have ik0:(0:Int)≤(k:Int):=by omega
    obtain⟨go,rfl,hgo,hgo2⟩:=qe8 HW.out (by omega)
    have hcell:wr.cell? ⟨go,k,none⟩=some (.int .u8 (X[k].toNat:Int)):=by
     rw[HW.out.cellAt k (by omega),HX.out k (qc _),qgt X k hlt]
    have hfr:=HW.out.frozenAt k
    have HS:=fun u=>qa (HW.out.stored k u)
    have hx256:X[k].toNat<256:=je _
    generalize X[k].toNat=x at *
    clear HW
    go_wp2_with fail
    go_roundw
    case rel =>
     refine⟨k+1,_,by omega,by go_num,(HS _).out.1,fun j hj => ?_,HG2.out.trans (HS _).out.2⟩
     rw[qa6 (by omega)]
     exact HX.out j (by omega)
    case measure=>simp[intOf];omega
   have ik:¬(k:Int)<(X.length:Int):=by omega
   obtain⟨w14,rfl⟩:∃x,x=wr:=⟨_,rfl⟩
   have hgr:=HG2.out
   have hou:=Out.of_gb (X:=fun i=>Value.ownBlock (.slice A11 X.length c11)=some i) hgr (fun k hk=>hk)
   have B14:Hid (Below w.heap.size w w14):=B13.out.grown hgr B13.out.size (fun q hq=>by have:=(HLX.out q hq).1;omega)
   have HC14:Hid (CatE w14 C M9 C es):=HC13.out.out hou (fun q hM hx=>by have h1:=(HLX.out q hx).1;have h2:=hmine.out q hM;omega)
   have HW14:=qa (qaa HW13.out hou (fun q hq hx=>by have h1:=(zk HW13.out hq).1;have h2:=(HLX.out q hx).2;omega))
   have HR14:=qa (HRW.out w14 HC14.out)
   clear hgr hou HW HX HG2 HC13 HW13 B13
   go_wp2_with fail
   refine HR14.out.mono ?_
   rintro r w15 ⟨Ax,cx,xs9,rfl,ho15,hro15,hb15⟩
   have HX15:=qa (hro15.any HFL.out HWD.out Nat.zero_lt_one)
   have HO15:=qa ho15
   have HB15:=qa hb15
   have hxb:R≤cx∧cx≤9223372036854775807:=by
    have h1:=(Rd.of_own ho15).len
    have h2:=(Rd.of_own ho15).cap
    rw[HX15.out.1] at h1
    simp only[maxLen] at h2
    exact⟨h1,by omega⟩
   clear hb15 ho15 hro15 HR14
   go_wp2_with fail
   have HXL:Hid (xs9.length=R):=HX15.out.1
   go_loopw [13] (fun i wv=>∃k:Nat,k≤R∧i= .int .i64 (k:Int)∧Hid (wv.ownsRow w14.heap.size 73 1 (.slice Ax R cx) R xs9)∧Hid (RowAny wv w14.heap.size (Value.slice Ax R cx).ownBlock xs9 R 1)∧Below w14.heap.size w14 wv) (fun i _=>R-(intOf i).toNat)
   case atStart=>exact⟨0,qj _,rfl,HO15.out,HX15.out,HB15.out⟩
   case round =>
    clear HO15 HX15 HB15
    obtain⟨k,hk,rfl,HOV,HXV,hbv⟩:=hrel
    obtain⟨wv,rfl⟩:∃x,x=wr:=⟨_,rfl⟩
    have HBV:=qa hbv
    clear hbv
    by_cases hlt:k<R
    ·
     have ik:(k:Int)<(R:Int):=by omega
     have ik0:(0:Int)≤(k:Int):=by omega
     obtain⟨gx,rfl,hgx,hgx2⟩:=qe8 HOV.out (by omega)
     obtain⟨g,c9,ys,hxk,how,hne⟩:=HXV.out.2 k hlt
     have hcx:wv.cell? ⟨gx,k,none⟩=some (.slice (some ⟨g,0,none⟩) 1 c9):=by
      rw[HOV.out.cellAt k (by omega),hxk]
     have hoc:1≤c9∧c9≤9223372036854775807:=by
      have h1:=how.2
      rcases h1 with ⟨hv,_⟩ | ⟨g',cap,cur,hv,_,_,h3,h4,_⟩
      ·
       injection hv with e1 e2 e3
       cases e1
      ·
       injection hv with e1 e2 e3
       subst e3
       simp only[maxLen] at h4
       exact⟨h3,by omega⟩
     have hyl:ys.length=1*2:=how.1
     have hg9:w14.heap.size≤g:=(zk how rfl).1
     have fr0:=how.frozenAt 0
     have fr1:=how.frozenAt 1
     have c0:wv.cell? ⟨g,0,none⟩=some (ys[0]'(by omega)):=by
      rw[how.cellAt 0 (by omega),qe (by omega)]
     have c1:wv.cell? ⟨g,1,none⟩=some (ys[1]'(by omega)):=by
      rw[how.cellAt 1 (by omega),qe (by omega)]
     have HX2:=qa ((HXV.out.set hlt hxk 0 (.bool false)).set hlt hxk 1 (.string ⟨#[63]⟩))
     have hne2:(Value.slice (some ⟨gx,0,none⟩) R cx).ownBlock≠some g:=hne
     have HO2:=qa (ownsRow_setCell_other (a:=⟨g,1,none⟩) (ownsRow_setCell_other (a:=⟨g,0,none⟩) HOV.out hne2 (.bool false)) hne2 (.string ⟨#[63]⟩))
     have HB2:=qa ((HBV.out.setCell (p:=⟨g,0,none⟩) hg9 (.bool false)).setCell (p:=⟨g,1,none⟩) hg9 (.string ⟨#[63]⟩))
     have hbd:∀W,(Instr.build 72 #[(1,.string ⟨#[63]⟩)]).run Tryz.prog W= .ok (.agg #[.bool false,.string ⟨#[63]⟩]) W:=fun W=>run_build W _ _ _ (by kernel_rfl)
     generalize ys[0]'(by omega)=y0 at *
     generalize ys[1]'(by omega)=y1 at *
     clear HOV HXV HBV how hne hne2 hyl hxk
     go_wp2_with fail
     go_roundw
     case rel=>exact⟨k+1,by omega,by go_num,HO2.out,HX2.out,HB2.out⟩
     case measure=>simp[intOf];omega
    have ik:¬(k:Int)<(R:Int):=by omega
    have BV:Hid (Below w.heap.size w wv):=B14.out.trans (HBV.out.mono B14.out.size)
    have HCV:=qa (HC14.out.below HBV.out)
    have HWV:=qa (ji HW14.out HBV.out (qc _))
    have HXV2:=qa (HEX.out wv HCV.out)
    clear HOV HXV HBV HC14 HW14 B14
    go_wp2_with fail
    refine HXV2.out.mono ?_
    rintro r w17 ⟨A17,c17,rfl,ho17,hb17⟩
    have B17:Hid (Below w.heap.size w w17):=BV.out.trans (hb17.mono BV.out.size)
    have HO17:=qa ho17
    have HW17:=qa (ji HWV.out hb17 (qc _))
    have HR17:=qa (HRW.out w17 (HCV.out.below hb17))
    clear ho17 hb17 HXV2 HCV HWV BV
    go_wp2_with fail
    refine HR17.out.mono ?_
    rintro r w18 ⟨A18,c18,xs18,rfl,ho18,hro18,hb18⟩
    have HR18:=qa (uy.rows hro18 ho18 HSZ.out)
    have B18:Hid (Below w.heap.size w w18):=B17.out.trans (hb18.mono B17.out.size)
    have hsm:=same_any X X (Rd.of_own (ji HO17.out hb18 (qc _))) (Rd.of_own (ji HW17.out hb18 (qc _)))
    rw[qx (rfl:X=X)] at hsm
    have HSM:=qa hsm
    have HAL:=qa (refAll_v (HG.out w18 B18.out) (by omega) HFL.out)
    clear ho18 hro18 hb18 hsm HR17 HO17 HW17 B17
    go_wp2_with fail
    refine HSM.out.mono ?_
    rintro r w19 ⟨rfl,rfl⟩
    clear HSM
    go_wp2_with fail
    refine HAL.out.mono ?_
    rintro r w20 ⟨A20,c20,rfl,hr20,hb20⟩
    have B20:Hid (Below w.heap.size w w20):=B18.out.trans (hb20.mono B18.out.size)
    have hs2:=refSame2_v (la:=gs.flatten) (lb:=gs.flatten) ((HR18.out.below hb20 (qc _)).wide (qj _) hb20.size) hr20
    rw[HFL.out,qx (rfl:gs.flatten=gs.flatten)] at hs2
    have HS2:=qa hs2
    clear hr20 hb20 hs2 HAL HR18 B18
    go_wp2_with fail
    refine HS2.out.mono ?_
    rintro r w21 ⟨rfl,hb21⟩
    have B21:Hid (Below w.heap.size w w21):=B20.out.trans (hb21.mono B20.out.size)
    clear hb21 HS2
    go_wp2_with fail
    go_ret
    exact⟨rfl,B21.out⟩
set_option maxRecDepth 100000 in
theorem catalogKeeps_lifted(os:Os)(started:os.Started)(H:Type)(enc:TypeId×Value→H) :
  ReturnsInHanded {} Tryz.checked os 7 .any (Rows.catalogKeepsSpec.pre6 enc Tryz.prog Tryz.f7 Rows.catalogKeepsRow.domain false) (Rows.catalogKeepsSpec.post enc Tryz.prog Tryz.f7 false true false false):=by
 refine returnsInHanded_of_change_sized (C:=Tryz.checked) own started (by kernel_rfl) Tryz.func7
  (ChangeSpec.witness6 (enc:=enc) (C:=Tryz.checked) false ⟨#[],#[.slice none 0 0],[]⟩ 8 (by kernel_rfl) (by kernel_rfl) (by kernel_rfl) (by kernel_rfl)) ?_
 intro W base args ds gs before hval0 hW hcnd hsz0 _
 have hsz:(DataW.weightsEach Tryz.prog (Tryz.f7.params.toList++Rows.catalogKeepsSpec.plain.varTypes Tryz.prog) (ds++gs)).all (· ≤reachBytes)=true:=hsz0
 have hval:∀(j:Nat) t v,Tryz.f7.params[j]? = some t→args[j]? = some v→Value.okWide Tryz.prog W .any base t v:=hval0
 have hW':=hW
 obtain⟨p,q,hA0,hV,rfl,hfz,hnd⟩:=hW
 have hA:DataW.TrodAll enc Tryz.prog W 0 (fun _=>true) true Tryz.f7.params.toList args.toList ds p:=hA0
 have hA1:DataW.TrodAll enc Tryz.prog W 0 (fun _=>true) true Tryz.f7.params.toList args.toList ds p:=hA0
 rw[Tryz.params7] at hA hval hsz
 obtain⟨v0,vs0,d0,ds0,p0,q0,hargs,rfl,rfl,h0,r0⟩:=trodAll_cons hA
 obtain⟨rfl,rfl,rfl⟩:=trodAll_nil r0
 obtain rfl:args=#[v0]:=by cases args;simp_all
 obtain⟨rfl,rfl⟩:=trodVars_none hV
 obtain⟨A0,a0,c0,rfl,w0⟩:=open_grpsZ (hval 0 55 v0 rfl rfl) h0 (fun n hn=>by have:=List.all_eq_true.1 hsz n (DataW.weights_mem_each (j:=0) (t:=55) rfl rfl n hn);simpa using this)
 clear hA0 hval0
 refine(catalogKeeps_walk (w:=W) w0).mono fun e W' ⟨he,bel⟩ => ?_
 subst he
 exact⟨_,rfl,_,_,_,[],_,[],hW',trodAll_mk1 (shut_bool Tryz.underlying4 _),qgm laidOut bel _ _ _ _ (by kernel_rfl) hA1,rfl,bel.frame _,fun h=>by cases h⟩
theorem catalogKeeps_over:Rows.catalogKeepsRow.holds Tryz.pinned (OpenSpec.ofChange Rows.catalogKeepsSpec) :=
 OpenClaim.holds_of_wide 7 Tryz.f7 rfl rfl rfl rfl rfl rfl rfl ⟨rfl,rfl,rfl,rfl,rfl⟩ rfl rfl rfl rfl rfl (by kernel_rfl) Tryz.func7 (by kernel_rfl)
  (of_decide_eq_true (by kernel_rfl)) (by unfold Func.isWrapper;first | (rw[if_pos (by decide +kernel)];kernel_rfl) | (rw[if_neg (by decide +kernel)];exact⟨rfl,rfl⟩))
  (fun os started H enc _=>catalogKeeps_lifted os started H enc)
theorem catalogKeeps_proved:Rows.CatalogKeepsSaid:=catalogKeeps_over
end Go.Proofs.YtjfecojdagmacaaGreat
