/-
  A table of whatever groups' segments is exported to bytes that load, in the same catalog and in another, to a table of the same rows, which is exported to the same bytes; or groups may not be written, or are many, or awake says so.
-/
import Derived.Test.YtjfecojdagmacaaGreatE37
import Derived.Test.YtjfecojdagmacaaGreatE38
import Derived.Test.YtjfecojdagmacaaGreatE39
import Derived.SliceStrings
namespace Go.Proofs.YtjfecojdagmacaaGreat
set_option maxRecDepth 20000
set_option maxHeartbeats 16000000
set_option linter.unusedSimpArgs false
set_option linter.unusedVariables false
open Go.RowKit Go.ChangeShapes Go.WideShapes Go.ChangeAt
def cdsC(n:Nat):List (Int×Int):=(List.range n).map fun(i:Nat)=>((((i:Nat):Int)+2)%4,(3:Int))
theorem cdsC_succ(n:Nat):cdsC (n+1)=cdsC n++[(((n:Int)+2)%4,3)]:=by simp[cdsC,List.range_succ]
theorem cdsC_length(n:Nat):(cdsC n).length=n:=by simp[cdsC]
theorem grp_at{w:World}{lo hi c:Nat}{A:Option Addr}{gs:List (List (List Vl))}(h:qbg w lo hi A c gs){i:Nat}(hi2:i<gs.length):∃b off,A=some ⟨b,off,none⟩∧qbg w lo hi (some ⟨b,off+i,none⟩) (c-i) [gs[i]]:=by
 obtain⟨gA,gc,⟨h1,h2,h3⟩,h4⟩:=h
 obtain⟨b,off,rfl,hb1,hb2,h5⟩:=h3 (by omega)
 refine⟨b,off,rfl,fun _=>gA i,fun _=>gc i,⟨by simp;omega,by omega,fun _=>⟨b,off+i,rfl,hb1,hb2,fun j hj k hk => ?_⟩⟩,fun j hj => ?_⟩
 ·
  obtain rfl:j=0:=by simp at hj;exact hj
  have h6:=h5 i hi2 k hk
  rw[qe hi2] at h6
  simpa using h6
 ·
  obtain rfl:j=0:=by simp at hj;exact hj
  exact h4 i hi2
theorem rowsN_mem1{g:List (List Vl)}{gs:List (List (List Vl))}(h:g∈gs):vo [g]≤vo gs:=by
 have:=qfp h
 simpa[vo] using this
theorem few1{gs:List (List (List Vl))}{os:List Co}{g:List (List Vl)}(h:FewSg gs [])(hg:g∈gs)(ho:os.length≤12)(hd:∀o∈os,o.draws.length≤60):FewSg [g] os :=
 ⟨by simp,ho,zc (rowsN_mem1 hg) h.rows,zc (by have:=qkp hg;simpa[qjr] using this) h.bytes,fun x hx=>by
  obtain rfl:=q8.1 hx
  exact h.cols x hg,hd⟩
theorem seg1_len{g:List (List Vl)}{os:List Co}{cols:Int}{b:Nat}(hR:qaf cols [g] os (b:Int))(hT:qf7 [g] os)(hF:FewSg [g] os):(qgn os b [g]).length≤16000100:=by
 have hG:qm4 [g] os:=few_gr hF fun g hg=>(hR.2.2.2.2.2.2.2 g hg).2.1
 have hw:=colW_of hR hT hG
 obtain⟨a1,a2,a3,a4,a5,a6,a7,a8⟩:=hR
 have h8:os.length≤8:=by omega
 have hcol:∀x∈[g],∀i,i<os.length→(qga (ko x i) (qc5 os i) b).length≤2000000:=fun g hg i hi=>by
  have h:=(hw g hg).2 i hi
  have h1:=qlz (qj8 (qr (ko g i))) (b:=b) (by have:=h.few;omega) h.bits
  have h3:=qko (g:=g) (k:=i) fun r hr=>by rw[(a8 g hg).2.1 r hr];exact hi
  have h4:=qkp hg
  have h5:=hF.bytes
  have h6:=qfp hg
  have h7:=hF.rows
  have h2:=qk5 h.fits h.ok h.tab (by rw[qd1];omega) (by omega)
  rw[qga,qd]
  omega
 have hgrp:∀x∈[g],(qlw os b x).length≤16000010:=fun g hg=>by
  have h1:=ql1 (hcol g hg)
  have h6:=qfp hg
  have h2:=qba 8 g.length (by have:=hF.rows;omega)
  rw[qlw,qd]
  omega
 have h1:=qlv hgrp
 have h2:=qba 8 os.length (by omega)
 have h3:=qba 8 1 (by omega)
 rw[qgn,qd,qd]
 simp only[qo,jy,yk] at h1 ⊢
 omega
theorem part_facts{g:List (List Vl)}{os:List Co}{cols bits:Int}(hR:qaf cols [g] os bits)(hT:qf7 [g] os)(hF:FewSg [g] os):∃(bs:List UInt8) (GS:List GrpS),vn (qgn os bits.toNat [g])=bs∧xo bs os.length GS∧qd7 GS=g∧vi GS=g.length∧bs.length≤16000104:=by
 obtain⟨bs,GS,h1,h2,h3,h4, -⟩:=seg_facts hR hT hF
 have hbits:(bits.toNat:Int)=bits:=by have:=hR.2.2.2.1;omega
 have hR2:qaf cols [g] os (bits.toNat:Int):=by rw[hbits];exact hR
 have h5:=seg1_len hR2 hT hF
 refine⟨bs,GS,h1,h2,by rw[h3];simp,by rw[h4];simp[vo],?_⟩
 rw[←h1,ut]
 omega
theorem flatB_most:∀ {raw:List (List UInt8)},(∀b∈raw,b.length≤16000104)→(kh raw).length≤16000113*raw.length
 | [],_=>by simp[kh]
 | b :: raw,h=>by
  have h1:=flatB_most (raw:=raw) fun x hx=>h x (jb _ hx)
  have h2:=h b zr
  have h3:=qba 8 b.length (by omega)
  rw[qhh,qd,qd,qo]
  omega
theorem exp_len{n:Nat}{raw:List (List UInt8)}(hn:n≤8)(h:∀b∈raw,b.length≤16000104)(hl:raw.length≤40):(xf n raw).length≤700000000:=by
 have h1:=flatB_most h
 have h2:=qba 8 n (by omega)
 have h3:=qba 8 raw.length (by omega)
 rw[xf,qd,qd]
 omega
theorem rowsPt_size{n:Nat}{l:List Pt}(h:TbOk n l):∀r∈qeo l,∀v∈r,v.s.size≤9223372036854775807:=fun r hr v hv=>by
 obtain⟨x,hx,hrx⟩:=List.mem_flatten.1 hr
 obtain⟨p,hp,rfl⟩:=za.1 hx
 exact zc (rowsS_size (h.read p hp).ok r hrx v hv) (by decide)
structure PtsG (gs:List (List (List Vl))) (i:Nat) (l:List Pt):Prop where
 len:l.length=i
 rows:qeo l=(gs.take i).flatten
 tot:ui l=vo (gs.take i)
 size:∀p∈l,p.b.length≤16000104
theorem PtsG.nil(gs:List (List (List Vl))):PtsG gs 0 []:=⟨rfl,by simp[qeo],by simp[ui,vo],fun p h=>(by cases h)⟩
theorem PtsG.snoc{gs:List (List (List Vl))}{i:Nat}{l:List Pt}(h:PtsG gs i l)(hi:i<gs.length){bs:List UInt8}{GS:List GrpS}(h1:qd7 GS=gs[i])(h2:vi GS=gs[i].length)(h3:bs.length≤16000104):PtsG gs (i+1) (l++[⟨bs,GS⟩]) :=
 ⟨by rw[qd,h.len];rfl,by rw[qh8,h.rows,qi hi,List.flatten_append,h1];simp,by rw[qct,h.tot,qdt hi,h2],fun p hp=>by
  rcases zn.1 hp with hp | hp
  ·
   exact h.size p hp
  ·
   obtain rfl:=q8.1 hp
   exact h3⟩
theorem catalogBack_walk{w:World}{A:Option Addr}{gs:List (List (List Vl))}{c:Nat}(hg:qbg w 0 w.heap.size A c gs∧SizedG gs)(cols:Int)(hc:(Lit.int .i64 cols).wf=true) :
  Calls Tryz.prog 4 #[.slice A gs.length c,.int .i64 cols] w fun e w'=>e= .returned (.bool true)∧Below w.heap.size w w':=by
 obtain⟨hg,hz⟩:=hg
 obtain⟨hl,hm⟩:=hg.len
 have HG:Hid (∀W,Below w.heap.size w W→qbg W 0 W.heap.size A c gs):=fun W hW=>(hg.below hW (qc _)).wide (qc _) hW.size
 have HZ:=qa hz
 have HAW:=qa (qja (w:=w))
 have HN:Hid (∀W:World,qb8 W 0 W.heap.size none 0 []):=fun W=>⟨fun _=>none,fun _=>0,Els.nil _ _ _ _ _,fun j hj=>absurd hj (jm j)⟩
 clear hg hz hc
 go_enter Tryz.func4,Tryz.ntmps4
 go_wp2_with fail
 refine HAW.out.mono ?_
 rintro r w2 ⟨rfl,hb2⟩
 have B2:=qa hb2
 have hfw:=refFewSg_v (HG.out w2 hb2) (HN.out w2) HZ.out
 rw[show([]:List Co).length=0 from rfl] at hfw
 have HFW:=qa hfw
 have HAW2:=qa (qja (w:=w2))
 have HBK:Hid (∀(r:Ending) (W:World),(r= .returned (.bool true)∧Below w2.heap.size w2 W)→r= .returned (.bool true)∧Below w.heap.size w W):=fun r W h=>⟨h.1,hb2.trans (h.2.mono hb2.size)⟩
 clear hb2 HAW hfw
 go_wp2_with fail
 refine HFW.out.mono ?_
 rintro r w3 ⟨⟨b,rfl,hbf⟩,rfl⟩
 clear HFW
 cases b with
 | false =>
  go_wp2_with fail
  refine HAW2.out.mono ?_
  rintro r w4 ⟨rfl,hb4⟩
  go_wp2_with fail
  go_ret
  exact HBK.out _ _ ⟨rfl,hb4⟩
 | true =>
 have HF:=qa (hbf rfl)
 clear hbf
 by_cases h1:cols<1
 ·
  go_wp2_with fail
  refine HAW2.out.mono ?_
  rintro r w4 ⟨rfl,hb4⟩
  go_wp2_with fail
  go_ret
  exact HBK.out _ _ ⟨rfl,hb4⟩
 by_cases h8:8<cols
 ·
  go_wp2_with fail
  refine HAW2.out.mono ?_
  rintro r w4 ⟨rfl,hb4⟩
  go_wp2_with fail
  go_ret
  exact HBK.out _ _ ⟨rfl,hb4⟩
 obtain⟨n,rfl⟩:∃n:Nat,cols=(n:Int):=⟨cols.toNat,by omega⟩
 have hn8:1≤n∧n≤8:=by omega
 clear HAW2 HBK
 go_wp2_with fail
 go_loopw [5,6] (fun x5 x6 wr=>∃(k:Nat) (A':Option Addr) (c':Nat),k≤n∧x6= .int .i64 (k:Int)∧x5= .slice A' k c'∧Hid (wr.ownsRow w2.heap.size 60 4 (.slice A' k c') k (cds (cdsC k)))∧Below w2.heap.size w2 wr) (fun _ x6 _=>n-(intOf x6).toNat)
 case atStart=>exact⟨0,none,0,qj _,rfl,rfl,by unfold Hid;exact zj _ _ _ _,Below.refl _ _⟩
 case round =>
  obtain⟨k,A',c',hk,rfl,rfl,HO,hb⟩:=hrel
  obtain⟨wa,rfl⟩:∃x,x=wr:=⟨_,rfl⟩
  have HB:=qa hb
  have hsz:=hb.size
  clear hb
  by_cases hlt:k<n
  case pos =>
   have ik:(k:Int)<(n:Int):=by omega
   have HCS:=qa (cdsC_succ k)
   go_wp2_with (first | (refine qm6 (((k:Int)+2)%4,3) rfl _ rfl rfl ?_) | (at_builtin;refine qm5 (v:= .slice A' k c') w2.heap.size (cdsC k) (((k:Int)+2)%4,3) (cdsC_length k) rfl _ _ rfl rfl rfl rfl (cod_cells _ _) (HO.out.alloc _) (by omega) (by simp;omega) ?_;intro A5 c5 w5 ho5 hg5 hq5))
   have HB5:Hid (Below w2.heap.size w2 w5):=(HB.out.alloc hsz (.cells (qbr (((k:Int)+2)%4,3)).toArray 60)).grown hg5 (by simp;omega) (fun q hq=>(zk (HO.out.alloc (.cells (qbr (((k:Int)+2)%4,3)).toArray 60)) hq).1)
   go_roundw
   case rel=>exact⟨k+1,A5,c5,by omega,by go_num,rfl,by unfold Hid;rw[HCS.out];exact ho5,HB5.out⟩
   case measure=>simp[intOf];omega
  have ik:¬(k:Int)<(n:Int):=by omega
  obtain rfl:k=n:=by omega
  have B5:Hid (Below w.heap.size w wa):=B2.out.trans (HB.out.mono B2.out.size)
  obtain⟨os,hos⟩:∃os:List Co,(cdsC k).map coN=os:=⟨_,rfl⟩
  have hol:os.length=k:=by rw[←hos,qz,cdsC_length]
  have hdr:∀o∈os,o.draws.length≤60:=fun o ho=>by
   rw[←hos] at ho
   obtain⟨p,_,rfl⟩:=za.1 ho
   exact qj _
  have hce:=cods_own HO.out (cdsC_length k)
  rw[hos] at hce
  have HO5:Hid (∀W,Below wa.heap.size wa W→qb8 W 0 W.heap.size A' c' os):=fun W hW=>(hce.below hW (qc _)).wide (qj _) hW.size
  have HF1:Hid (∀g∈gs,FewSg [g] os):=fun g hg=>few1 HF.out hg (by omega) hdr
  have hg40:=HF.out.groups
  have hr60:=HF.out.rows
  have HOL:=qa hol
  clear hce hdr hos HO HB hol B2 HN HZ
  go_wp2_with fail
  refine qkv.mono ?_
  rintro r w6 ⟨rfl,hc6,hb6⟩
  obtain⟨C,hC⟩:∃C,wa.heap.size=C:=⟨_,rfl⟩
  rw[hC] at hc6 ⊢
  have HC6:=qa hc6
  have B6:=qa hb6
  clear hc6 hb6
  go_wp2_with fail
  refine qkv.mono ?_
  rintro r w7 ⟨rfl,hd7,hb7⟩
  obtain⟨D,hD⟩:∃D,w6.heap.size=D:=⟨_,rfl⟩
  rw[hD] at hd7 ⊢
  have HCD:Hid (C<D):=by unfold Hid;rw[←hD];exact HC6.out.lt
  have HC7:=qa (HC6.out.below hb7)
  have HD7:=qa hd7
  have B7:Hid (Below wa.heap.size wa w7):=B6.out.trans (hb7.mono B6.out.size)
  have HCR:=qa (qhl HC7.out ⟨#[116]⟩ (by decide) (k:Int))
  have hv:qex [] ⟨#[116]⟩ (k:Int)=0:=by
   rw[qex,if_neg (by omega)]
   exact free_yes (by decide) (fun e he=>by cases he) (by decide)
  rw[hv] at HCR
  clear hd7 hb7 hv HC6 B6
  go_wp2_with fail
  refine HCR.out.mono ?_
  rintro r w8 ⟨rfl,⟨h0, -⟩ | ⟨-,M8,g8,S8,hc8,hst8⟩⟩
  ·
   exact absurd rfl h0
  have hMD:¬M8 D:=fun h=>by
   rcases hst8.more D h with h | h
   ·
    have:=HCD.out
    omega
   ·
    have:=HD7.out.lt
    omega
  have B8:Hid (Below wa.heap.size wa w8):=B7.out.trans (HC7.out.after hst8.out (by omega))
  have HD8:=qa (HD7.out.out hst8.out fun q hq hM=>by
   subst hq
   have:=HCD.out
   omega)
  rw[xu,show(k:Int).toNat=k from rfl] at hc8
  have HC8:=qa hc8
  have HMD:=qa hMD
  clear hc8 hst8 hMD HCR HC7 HD7 B7
  go_wp2_with fail
  go_loopw [9] (fun x9 wr=>∃(i:Nat) (l:List Pt) (M:Nat→Prop) (g:Nat) (S:Nat→Prop),i≤gs.length∧x9= .int .i64 (i:Int)∧Hid (CatE wr C M C [⟨⟨#[116]⟩,g,S,k,l⟩])∧Hid (¬M D)∧Hid (CatE wr D (fun q=>q=D) D [])∧Hid (PtsG gs i l)∧Below wa.heap.size wa wr) (fun x9 _=>gs.length-(intOf x9).toNat)
  case atStart=>exact⟨0,[],M8,g8,S8,qj _,rfl,HC8.out,HMD.out,HD8.out,PtsG.nil gs,B8.out⟩
  case round =>
   clear HC8 HMD HD8 B8
   obtain⟨i,l,M,g,S,hi,rfl,HC9,HM9,HD9,HP,hb9⟩:=hrel
   obtain⟨wi,rfl⟩:∃x,x=wr:=⟨_,rfl⟩
   have B9:=qa hb9
   have BW9:Hid (Below w.heap.size w wi):=B5.out.trans (hb9.mono B5.out.size)
   by_cases hlt:i<gs.length
   ·
    have ik:(i:Int)<(gs.length:Int):=by omega
    have ik0:(0:Int)≤(i:Int):=by omega
    obtain⟨b0,o0,rfl,hgi⟩:=grp_at (HG.out wi BW9.out) hlt
    have hmem:=ql hlt
    have hF1:=HF1.out _ hmem
    have hwr:=sgwrite_vW (k:Int) (i:Int) hgi (HO5.out wi hb9) hF1 (codeG_all _ _)
    rw[show([gs[i]]:List (List (List Vl))).length=1 from rfl,HOL.out] at hwr
    have HWR:=qa hwr
    have HFF:=qa hF1
    clear hb9 hgi hF1 hwr hmem
    have isub:(i:Int)+1-(i:Int)=1:=by omega
    go_wp2_with fail
    refine HWR.out.mono ?_
    rintro r w10 ⟨hb10,⟨hR,hT,A10,c10,rfl,ho10⟩ | ⟨hn,rfl⟩⟩
    case inr =>
     have B10:Hid (Below w.heap.size w w10):=BW9.out.trans (hb10.mono BW9.out.size)
     clear hb10 HWR hn
     go_wp2_with fail
     go_ret
     exact⟨rfl,B10.out⟩
    obtain⟨bs,GS,hbs,hTR,hRS,hRT,hbl⟩:=part_facts hR hT HFF.out
    rw[hbs] at ho10 ⊢
    rw[HOL.out] at hTR
    have HTR:=qa hTR
    have HP10:=qa (HP.out.snoc hlt hRS hRT hbl)
    have hRT':vi GS≤gs[i].length:=by omega
    have hc10:=HC9.out.below hb10
    have B10:Hid (Below wa.heap.size wa w10):=B9.out.trans (hb10.mono B9.out.size)
    have HD10:=qa (HD9.out.below hb10)
    have hnc:l.length≤1000000000:=by rw[HP.out.len];omega
    have HAD:=qa (add_yes hc10 ⟨#[116]⟩ (k:=0) Nat.zero_lt_one rfl hnc ((Rd.of_own ho10).wide (qj _) (qc _)) (by omega))
    have HC10:=qa hc10
    have htot:ui l+vi GS≤60:=by
     have h2:=qdt hlt
     have h3:=qh9 gs (i+1)
     have h4:=HF.out.rows
     rw[HP.out.tot]
     omega
    have HTT:=qa htot
    clear hb10 ho10 hR hT hbs hTR hRS hRT hRT' hc10 hnc htot HWR HP HFF HC9 HD9 B9
    go_wp2_with fail
    refine HAD.out.mono ?_
    rintro r w11 ⟨hk0,⟨gs',S11,M11,rfl,hro,hto,hc11,hst11⟩ | ⟨e,rfl,hbad, -⟩⟩
    case inr =>
     rcases hbad with ⟨-,hno⟩ | ⟨-,gs',hro,hto⟩
     ·
      exact absurd HTR.out (hno _)
     ·
      obtain⟨-,rfl⟩:=xo.one hro HTR.out
      have:=HTT.out
      exact absurd hto (by simp only[xj];omega)
    obtain⟨-,rfl⟩:=xo.one hro HTR.out
    have B11:Hid (Below wa.heap.size wa w11):=B10.out.trans (HC10.out.after hst11.out (by omega))
    have HD11:=qa (HD10.out.out hst11.out fun q hq hM=>HM9.out (hq ▸ hM))
    have HM11:Hid (¬M11 D):=fun h=>(hst11.more D h).elim HM9.out fun h2=>by
     have:=HD10.out.lt
     omega
    have hc11':CatE w11 C M11 C [⟨⟨#[116]⟩,g,S11,k,l++[⟨bs,gs'⟩]⟩]:=hc11
    have HC11:=qa hc11'
    clear hro hto hc11 hc11' hst11 hk0 HAD HC10 HD10 HM9 B10
    go_wp2_with fail
    go_roundw
    case rel=>exact⟨i+1,_,M11,g,S11,by omega,by go_num,HC11.out,HM11.out,HD11.out,HP10.out,B11.out⟩
    case measure=>simp[intOf];omega
   ·
    have ik:¬(i:Int)<(gs.length:Int):=by omega
    obtain rfl:i=gs.length:=by omega
    clear hb9
    obtain⟨R,hR⟩:∃R,gs.flatten.length=R:=⟨_,rfl⟩
    have hpr:qeo l=gs.flatten:=by rw[HP.out.rows,yo]
    have hpt:ui l=R:=by rw[←qji,hpr,hR]
    have hpn:l.length=gs.length:=HP.out.len
    obtain⟨T,hT⟩:∃T,xf k (vb l)=T:=⟨_,rfl⟩
    obtain⟨X,hX⟩:∃X,vn T=X:=⟨_,rfl⟩
    have hTl:T.length≤700000000:=by
     rw[←hT]
     refine exp_len hn8.2 (fun b hb => ?_) (by rw[qam];omega)
     obtain⟨p,hp,rfl⟩:=za.1 hb
     exact HP.out.size p hp
    have hXl:X.length≤700000004:=by rw[←hX,ut];omega
    have hok:=(HC9.out.ok ⟨⟨#[116]⟩,g,S,k,l⟩ zr).1
    have HDL:Hid (D<wi.heap.size):=HD9.out.lt
    have HTO:Hid (qc8 X k l):=⟨hok,by omega,by rw[←hX,←hT]⟩
    have HSZ:Hid (∀r∈gs.flatten,∀v∈r,v.s.size≤9223372036854775807):=fun r hr=>by rw[←hpr] at hr;exact rowsPt_size hok r hr
    have HRO:Hid (∀(W:World) (lo E:Nat) (M:Nat→Prop) (es:List En) (j:Nat) (hj:j<es.length) (s:ByteArray),CatE W lo M E es→es[j].name=s→es[j].pts=l→Calls Tryz.prog 21 #[.pointer (some ⟨E,0,none⟩),.string s] W fun r w'=>∃A' c',r= .returned (.tuple #[.slice A' R c',.int .i64 0])∧(∀W',Below w'.heap.size w' W'→ka W' 0 W'.heap.size A' c' gs.flatten)∧Below W.heap.size W w'):=fun W lo E M es j hj s h1 h2 h3 =>
     (rows_yes h1 s hj h2 (T:=R) (by rw[h3];exact hpt) (by rw[h3];omega)).mono fun r w' ⟨A',c',xs,e1,e2,e3,e4⟩=>by
      rw[h3,hpr] at e3
      exact⟨A',c',e1,fun W' hW'=>((uy.rows e3 e2 HSZ.out).below hW' (qc _)).wide (qj _) hW'.size,e4⟩
    have hex:=exp_yes HC9.out ⟨#[116]⟩ (k:=0) Nat.zero_lt_one rfl (by show l.length≤_;omega) (T:=T) (X:=X) hT hX (by omega)
    have HEX:=qa hex
    have HR:=qa hR
    have HPN:=qa hpn
    have HTX:Hid (xf k (vb l)=T∧vn T=X):=⟨hT,hX⟩
    clear hpr hpt hok hex hR HF HF1 HO5 HOL HP hpn hT hX
    go_wp2_with fail
    refine HEX.out.mono ?_
    rintro r w20 ⟨A20,c20,rfl,ho20,hb20⟩
    have hlt20:∀q,Value.ownBlock (.slice A20 X.length c20)=some q→wi.heap.size≤q:=fun q hq=>(zk ho20 hq).1
    have B20:Hid (Below wa.heap.size wa w20):=B9.out.trans (hb20.mono B9.out.size)
    have hc20:=HC9.out.below hb20
    have HD20:=qa (HD9.out.below hb20)
    have hfr:qfc [⟨⟨#[116]⟩,g,S,k,l⟩] ⟨#[117]⟩=0:=free_yes (by decide) (fun e he=>by
     obtain rfl:=q8.1 he
     show(⟨#[116]⟩:ByteArray)≠⟨#[117]⟩
     decide) (by simp)
    have HL1:=qa (load_v hc20 ⟨#[117]⟩ (by decide) ((Rd.of_own ho20).wide (qj _) (qc _)) (by omega))
    have HFR:=qa hfr
    have HC20:=qa hc20
    have HO20:=qa ho20
    have HBL:=qa hlt20
    clear hc20 hfr ho20 hb20 hlt20 HEX HD9 B9 BW9
    go_wp2_with fail
    refine HL1.out.mono ?_
    rintro r w21 (⟨h0, -⟩ | ⟨-,⟨n',l',M21,g21,S21,hto,rfl,hc21,hst21⟩ | ⟨hno, -, -⟩⟩)
    ·
     exact absurd HFR.out h0
    case inr.inr=>exact absurd HTO.out (hno _ _)
    obtain⟨rfl,rfl⟩:=qc8.one HTO.out hto
    have B21:Hid (Below wa.heap.size wa w21):=B20.out.trans (HC20.out.after hst21.out (by omega))
    have HO21:=qa (qaa HO20.out hst21.out (fun q hq hM=>by have h1:=HBL.out q hq;have h2:=(HC9.out.mine q hM).2;omega))
    have hd21:=HD20.out.out hst21.out fun q hq hM=>HM9.out (hq ▸ hM)
    have HM21:Hid (¬M21 D):=fun h=>(hst21.more D h).elim HM9.out fun h2=>by
     have:=HD20.out.lt
     omega
    have HL2:=qa (load_v hd21 ⟨#[116]⟩ (by decide) ((Rd.of_own HO21.out).wide (qj _) (qc _)) (by omega))
    have HF0:Hid (qfc [] ⟨#[116]⟩=0):=by unfold Hid;decide +kernel
    have HD21:=qa hd21
    have HC21:=qa hc21
    clear hto hc21 hst21 hd21 HFR HL1 HC20 HD20 HO20 HM9 B20
    go_wp2_with fail
    refine HL2.out.mono ?_
    rintro r w22 (⟨h0, -⟩ | ⟨-,⟨n',l',M22,g22,S22,hto,rfl,hd22,hst22⟩ | ⟨hno, -, -⟩⟩)
    ·
     exact absurd HF0.out h0
    case inr.inr=>exact absurd HTO.out (hno _ _)
    obtain⟨rfl,rfl⟩:=qc8.one HTO.out hto
    have B22:Hid (Below wa.heap.size wa w22):=B21.out.trans (HD21.out.after hst22.out (by have:=HCD.out;omega))
    have HO22:=qa (qaa HO21.out hst22.out (fun q hq hM=>by have h1:=HBL.out q hq;have h2:=HDL.out;omega))
    have HC22:=qa (HC21.out.out hst22.out fun q hM hq=>HM21.out (hq ▸ hM))
    have HD22:=qa hd22
    clear hto hd22 hst22 HF0 HL2 HC21 HD21 HO21 HM21 HBL B21 HC9
    have HR1:=qa (HRO.out w22 _ _ _ _ 0 (by simp) ⟨#[116]⟩ HC22.out rfl rfl)
    go_wp2_with fail
    refine HR1.out.mono ?_
    rintro r w23 ⟨A23,c23,rfl,h23,hb23⟩
    have H23:=qa h23
    have B23:=qa hb23
    have HR2:=qa (HRO.out w23 _ _ _ _ 1 (by simp) ⟨#[117]⟩ (HC22.out.below hb23) rfl rfl)
    clear h23 hb23 HR1
    go_wp2_with fail
    refine HR2.out.mono ?_
    rintro r w24 ⟨A24,c24,rfl,h24,hb24⟩
    have H24:=qa h24
    have B24:Hid (Below w22.heap.size w22 w24):=B23.out.trans (hb24.mono B23.out.size)
    have B34:Hid (Below w23.heap.size w23 w24):=hb24
    have HR3:=qa (HRO.out w24 _ _ _ _ 0 (by simp) ⟨#[116]⟩ (HD22.out.below B24.out) rfl rfl)
    clear h24 hb24 HR2
    go_wp2_with fail
    refine HR3.out.mono ?_
    rintro r w25 ⟨A25,c25,rfl,h25,hb25⟩
    have H25:=qa h25
    have B45:Hid (Below w24.heap.size w24 w25):=hb25
    have B25:Hid (Below w22.heap.size w22 w25):=B24.out.trans (hb25.mono B24.out.size)
    have hex:=exp_yes (HD22.out.below B25.out) ⟨#[116]⟩ (k:=0) (by simp) rfl (by show l.length≤_;rw[HPN.out];omega) (T:=T) (X:=X) HTX.out.1 HTX.out.2 (by omega)
    have HEX:=qa hex
    clear h25 hb25 HR3 hex
    go_wp2_with fail
    refine HEX.out.mono ?_
    rintro r w26 ⟨A26,c26,rfl,ho26,hb26⟩
    have HO26:=qa ho26
    have B56:Hid (Below w25.heap.size w25 w26):=hb26
    have B26:Hid (Below w22.heap.size w22 w26):=B25.out.trans (hb26.mono B25.out.size)
    have hsg:=segments_yes (HD22.out.below B26.out) ⟨#[116]⟩ (k:=0) (by simp) rfl (m:=gs.length) (by exact HPN.out) (by omega)
    have HSG:=qa hsg
    clear ho26 hb26 HEX hsg
    go_wp2_with fail
    refine HSG.out.mono ?_
    rintro r w27 ⟨A27,c27,rfl,hb27⟩
    have B67:Hid (Below w26.heap.size w26 w27):=hb27
    have B27:Hid (Below w22.heap.size w22 w27):=B26.out.trans (hb27.mono B26.out.size)
    have BW27:Hid (Below w.heap.size w w27):=B5.out.trans ((B22.out.trans (B27.out.mono B22.out.size)).mono B5.out.size)
    have HAL:=qa (refAll_v (HG.out w27 BW27.out) (by omega) HR.out)
    clear hb27 HSG
    have HSQ:Hid (∀(W:World) (A1 A2:Option Addr) (c1 c2:Nat),ka W 0 W.heap.size A1 c1 gs.flatten→ka W 0 W.heap.size A2 c2 gs.flatten→Calls Tryz.prog 22 #[.slice A1 R c1,.slice A2 R c2] W fun r w'=>r= .returned (.bool true)∧Below W.heap.size W w'):=fun W A1 A2 c1 c2 h1 h2=>by
     have h3:=refSame2_v (la:=gs.flatten) (lb:=gs.flatten) h1 h2
     rw[HR.out,qx (rfl:gs.flatten=gs.flatten)] at h3
     exact h3
    go_wp2_with fail
    refine HAL.out.mono ?_
    rintro r w28 ⟨A28,c28,rfl,h28,hb28⟩
    have B28:Hid (Below w22.heap.size w22 w28):=B27.out.trans (hb28.mono B27.out.size)
    have B38:Hid (Below w23.heap.size w23 w28):=(B34.out.trans (B45.out.mono B34.out.size)).trans (((B56.out.trans (B67.out.mono B56.out.size)).trans (hb28.mono (zc B56.out.size B67.out.size))).mono (zc B34.out.size B45.out.size))
    have B48:Hid (Below w24.heap.size w24 w28):=B45.out.trans (((B56.out.trans (B67.out.mono B56.out.size)).trans (hb28.mono (zc B56.out.size B67.out.size))).mono B45.out.size)
    have B58:Hid (Below w25.heap.size w25 w28):=(B56.out.trans (B67.out.mono B56.out.size)).trans (hb28.mono (zc B56.out.size B67.out.size))
    have B68:Hid (Below w26.heap.size w26 w28):=B67.out.trans (hb28.mono B67.out.size)
    have HS1:=qa (HSQ.out w28 _ _ _ _ (H23.out w28 B38.out) h28)
    clear h28 hb28 HAL
    go_wp2_with fail
    refine HS1.out.mono ?_
    rintro r w29 ⟨rfl,hb29⟩
    have B89:Hid (Below w28.heap.size w28 w29):=hb29
    have HS2:=qa (HSQ.out w29 _ _ _ _ (H23.out w29 (B38.out.trans (hb29.mono B38.out.size))) (H24.out w29 (B48.out.trans (hb29.mono B48.out.size))))
    clear hb29 HS1
    go_wp2_with fail
    refine HS2.out.mono ?_
    rintro r w30 ⟨rfl,hb30⟩
    have B80:Hid (Below w28.heap.size w28 w30):=B89.out.trans (hb30.mono B89.out.size)
    have HS3:=qa (HSQ.out w30 _ _ _ _ (H23.out w30 (B38.out.trans (B80.out.mono B38.out.size))) (H25.out w30 (B58.out.trans (B80.out.mono B58.out.size))))
    clear hb30 HS2
    go_wp2_with fail
    refine HS3.out.mono ?_
    rintro r w31 ⟨rfl,hb31⟩
    have B81:Hid (Below w28.heap.size w28 w31):=B80.out.trans (hb31.mono B80.out.size)
    have hsm:=same_any X X (Rd.of_own (ji HO26.out (B68.out.trans (B81.out.mono B68.out.size)) (qc _))) (Rd.of_own (ji HO22.out (B28.out.trans (B81.out.mono B28.out.size)) (qc _)))
    rw[qx (rfl:X=X)] at hsm
    have HSM:=qa hsm
    have B31:Hid (Below w.heap.size w w31):=B5.out.trans ((B22.out.trans ((B28.out.trans (B81.out.mono B28.out.size)).mono B22.out.size)).mono B5.out.size)
    clear hb31 HS3 hsm
    go_wp2_with fail
    refine HSM.out.mono ?_
    rintro r w32 ⟨rfl,rfl⟩
    go_wp2_with fail
    go_ret
    exact⟨rfl,B31.out⟩
set_option maxRecDepth 100000 in
theorem catalogBack_lifted(os:Os)(started:os.Started)(H:Type)(enc:TypeId×Value→H) :
  ReturnsInHanded {} Tryz.checked os 4 .any (Rows.catalogBackSpec.pre6 enc Tryz.prog Tryz.f4 Rows.catalogBackRow.domain false) (Rows.catalogBackSpec.post enc Tryz.prog Tryz.f4 false true false false):=by
 refine returnsInHanded_of_change_sized (C:=Tryz.checked) own started (by kernel_rfl) Tryz.func4
  (ChangeSpec.witness6 (enc:=enc) (C:=Tryz.checked) false ⟨#[],#[.slice none 0 0,.int .i64 0],[]⟩ 8 (by kernel_rfl) (by kernel_rfl) (by kernel_rfl) (by kernel_rfl)) ?_
 intro W base args ds gs before hval0 hW hcnd hsz0 _
 have hsz:(DataW.weightsEach Tryz.prog (Tryz.f4.params.toList++Rows.catalogBackSpec.plain.varTypes Tryz.prog) (ds++gs)).all (· ≤reachBytes)=true:=hsz0
 have hval:∀(j:Nat) t v,Tryz.f4.params[j]? = some t→args[j]? = some v→Value.okWide Tryz.prog W .any base t v:=hval0
 have hW':=hW
 obtain⟨p,q,hA0,hV,rfl,hfz,hnd⟩:=hW
 have hA:DataW.TrodAll enc Tryz.prog W 0 (fun _=>true) true Tryz.f4.params.toList args.toList ds p:=hA0
 have hA1:DataW.TrodAll enc Tryz.prog W 0 (fun _=>true) true Tryz.f4.params.toList args.toList ds p:=hA0
 rw[Tryz.params4] at hA hval hsz
 obtain⟨v0,vs0,d0,ds0,p0,q0,hargs,rfl,rfl,h0,r0⟩:=trodAll_cons hA
 obtain⟨v1,vs1,d1,ds1,p1,q1,rfl,rfl,rfl,h1,r1⟩:=trodAll_cons r0
 obtain⟨rfl,rfl,rfl⟩:=trodAll_nil r1
 obtain rfl:args=#[v0,v1]:=by cases args;simp_all
 obtain⟨rfl,rfl⟩:=trodVars_none hV
 obtain⟨A0,a0,c0,rfl,w0⟩:=open_grpsZ (hval 0 55 v0 rfl rfl) h0 (fun n hn=>by have:=List.all_eq_true.1 hsz n (DataW.weights_mem_each (j:=0) (t:=55) rfl rfl n hn);simpa using this)
 obtain⟨a1,rfl,rfl,rfl,w1⟩:=open_int Tryz.underlying3 (hval 1 3 v1 rfl rfl) h1
 clear hA0 hval0
 refine(catalogBack_walk (w:=W) w0 a1 w1).mono fun e W' ⟨he,bel⟩ => ?_
 subst he
 exact⟨_,rfl,_,_,_,[],_,[],hW',trodAll_mk1 (shut_bool Tryz.underlying4 _),qgm laidOut bel _ _ _ _ (by kernel_rfl) hA1,rfl,bel.frame _,fun h=>by cases h⟩
theorem catalogBack_over:Rows.catalogBackRow.holds Tryz.pinned (OpenSpec.ofChange Rows.catalogBackSpec) :=
 OpenClaim.holds_of_wide 4 Tryz.f4 rfl rfl rfl rfl rfl rfl rfl ⟨rfl,rfl,rfl,rfl,rfl⟩ rfl rfl rfl rfl rfl (by kernel_rfl) Tryz.func4 (by kernel_rfl)
  (of_decide_eq_true (by kernel_rfl)) (by unfold Func.isWrapper;first | (rw[if_pos (by decide +kernel)];kernel_rfl) | (rw[if_neg (by decide +kernel)];exact⟨rfl,rfl⟩))
  (fun os started H enc _=>catalogBack_lifted os started H enc)
theorem catalogBack_proved:Rows.CatalogBackSaid:=catalogBack_over
end Go.Proofs.YtjfecojdagmacaaGreat
