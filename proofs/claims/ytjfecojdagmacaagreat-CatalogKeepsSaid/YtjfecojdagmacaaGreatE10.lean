/-
  Lemmas.
-/
import Derived.Test.YtjfecojdagmacaaGreatE09
namespace Go.Proofs.YtjfecojdagmacaaGreat
open Go.RowKit
set_option maxRecDepth 20000
set_option maxHeartbeats 16000000
set_option linter.unusedSimpArgs false
set_option linter.unusedVariables false
theorem qkd{w2:World}(l:List ByteArray)(u:ByteArray){lo hi c:Nat}{A:Option Addr}(h:Rd w2 lo hi A c (sv l))(hr:jz (qt l)=true)(hs:u.size≤9223372036854775807)(v:Int×Nat)(hv:qb4 (qt l) u.data.toList=v) :
  Calls Tryz.prog 223 #[.slice A l.length c,.string u] w2 fun r w'=>r= .returned (.tuple #[.int .i64 v.1,.int .i64 (v.2:Int)])∧∃m,w'=w2.drewN m:=by
 rw[←hv]
 exact slongest_any l u h hr hs
theorem qmv{w:World}(l:List ByteArray)(s:ByteArray){c:Nat}{A:Option Addr}(h:Rd w 0 w.heap.size A c (sv l))(hr:jz (qt l)=true)(hs:s.size≤100000000) :
  Calls Tryz.prog 206 #[.slice A l.length c,.string s] w fun r w'=>∃A' c',r= .returned (.slice A' (kx (qt l) s.data.toList).length c')∧
   w'.ownsRow w.heap.size 5 1 (.slice A' (kx (qt l) s.data.toList).length c') (kx (qt l) s.data.toList).length (bv (kx (qt l) s.data.toList))∧Below w.heap.size w w':=by
 have hln:=(vu.1 hr).1
 rw[zb] at hln
 have H:=qa h
 have HR:=qa hr
 clear h hr
 obtain⟨v,hv⟩:∃v,kx (qt l) s.data.toList=v:=⟨_,rfl⟩
 rw[hv]
 have HV:=qa hv
 clear hv
 have HSL:=qa (qje s)
 go_enter Tryz.func206,Tryz.ntmps206
 go_wp2_with fail
 go_loopw [1,5] (fun x1 x5 wr=>∃(k:Nat) (u:ByteArray) (ys:List UInt8) (A':Option Addr) (c':Nat),k≤s.size∧u.size=s.size-k∧u.data.toList=s.data.toList.drop k∧x1= .string u∧x5= .slice A' ys.length c'∧ys.length≤2*k∧ys++kx (qt l) u.data.toList=v∧
  wr.ownsRow w.heap.size 5 1 (.slice A' ys.length c') ys.length (bv ys)∧Below w.heap.size w wr) (fun x1 _ _=>match x1 with | .string u=>u.size | _=>0)
 case atStart=>exact⟨0,s,[],none,0,qj _,rfl,by rw[jv],rfl,rfl,qj _,by rw[HV.out];rfl,zj _ _ _ _,Below.refl _ _⟩
 case round =>
  obtain⟨k,u,ys,A',c',hk,hus,hud,rfl,rfl,hyl,hys,hown,hb⟩:=hrel
  have HYS:=qa hys
  have HO:=qa hown
  have HB:=qa hb
  have HUD:=qa hud
  have hsz:=hb.size
  have huL:u.size≤s.size-k:=by omega
  have huG:s.size-k≤u.size:=by omega
  clear hys hown hb hud hus
  by_cases hu0:u.size=0
  ·
   have hue:u=⟨#[]⟩:=by
    have:u.data.toList=[]:=ze (by rw[qje];exact hu0)
    rw[←str_etaU u,this]
   have hfin:ys=v:=by
    rw[←HYS.out,hue]
    exact(jd _).symm
   have HF:=qa hfin
   clear hfin hu0 huL huG HUD
   subst hue
   go_wp2_with fail
   go_ret
   exact⟨A',c',by rw[←HF.out];rfl,by rw[←HF.out];exact HO.out,HB.out⟩
  ·
   have hup:0<u.size:=by omega
   have hne:u.toList≠[]:=fun e=>by
    rw[ul] at e
    have h1:=congrArg List.length e
    rw[jo] at h1
    exact hu0 h1
   have hne2:u.toList.isEmpty=false:=by
    rw[List.isEmpty_eq_false_iff]
    exact hne
   clear hne
   have HDR:=qa (dropS hup)
   rw[jv] at HDR
   rcases qcw (qt l) u.data.toList with hp | ⟨j,t,hj,hp,hn0,hpre⟩
   ·
    have HLG:=qa (fun w2 (hb2:Below w.heap.size w w2)=>qkd (w2:=w2) l u (H.out.below hb2 (qc _)) HR.out (by omega) _ hp)
    have HEQ:Hid (kx (qt l) u.data.toList=(255:UInt8) :: u[0] :: kx (qt l) (u.extract 1 u.size).data.toList):=by
     unfold Hid
     have hp2:=hp
     rw[HDR.out] at hp2
     rw[tailS,HDR.out,enc_esc hp2]
     rfl
    have HU1:Hid ((u.extract 1 u.size).data.toList=s.data.toList.drop (k+1)):=by
     unfold Hid
     rw[tailS,HUD.out,zu]
    have hu1:(u.extract 1 u.size).size=s.size-(k+1):=by rw[xk];omega
    have HUS:=qa hu1
    clear hp hu1
    have lx:u[0].toNat<256:=je _
    go_wp2_with fail
    refine(HLG.out _ (by first | exact HB.out | exact js HB.out _)).mono ?_
    rintro r w1 ⟨rfl,m,rfl⟩
    have hb1:Below w.heap.size w (wr.drewN m):=js HB.out m
    have ho1:(wr.drewN m).ownsRow w.heap.size 5 1 (.slice A' ys.length c') ys.length (bv ys):=jw HO.out (fun _ _=>rfl)
    have hz1:w.heap.size≤(wr.drewN m).heap.size:=hb1.size
    generalize wr.drewN m=w1 at *
    have hlit:(w1.alloc (.cells #[.int .u8 255,.int .u8 (u[0].toNat:Int)] 5)).ownsRow w1.heap.size 5 1 (.slice (some ⟨w1.heap.size,0,none⟩) 2 2) 2 (bv [(255:UInt8),u[0]]):=own_lit w1 [(255:UInt8),u[0]] #[.int .u8 255,.int .u8 (u[0].toNat:Int)] rfl (by simp)
    obtain⟨A3,c3,w3,hrun,hown3,hg3⟩:=xm _ w.heap.size _ ys [(255:UInt8),u[0]] (ys++[(255:UInt8),u[0]]) rfl (ho1.alloc _) (Rd.own hlit) (by simp;omega) (by simp;omega)
    have hb3:Below w.heap.size w w3:=(hb1.alloc hz1 _).grown hg3 (by simp;omega) (fun q hq=>(zk ho1 hq).1)
    have hrun2:(Builtin.append_ #[36,36] 36 #[.slice A' ys.length c',.slice (some ⟨w1.heap.size,0,none⟩) 2 2]).run Tryz.prog (w1.alloc (.cells #[.int .u8 255,.int .u8 (u[0].toNat:Int)] 5))= .ok (.slice A3 (ys++[(255:UInt8),u[0]]).length c3) w3:=hrun
    have HRUN:=qa hrun2
    have HO3:=qa hown3
    have HB3:=qa hb3
    clear hrun hrun2 hown3 hb3 hg3 hb1 ho1 hlit
    go_wp2_with (at_builtin;refine wpList_append_run rfl _ _ _ _ rfl rfl rfl HRUN.out ?_)
    go_roundw
    case rel =>
     refine⟨k+1,u.extract 1 u.size,ys++[(255:UInt8),u[0]],A3,c3,by omega,HUS.out,HU1.out,rfl,by first | rfl | (rw[qd];rfl),by rw[qd,qo,qo,jy];omega,?_,HO3.out,HB3.out⟩
     rw[qm,←HYS.out,HEQ.out]
     rfl
    case measure =>
     have:=HUS.out
     simp only[this]
     omega
   ·
    have HLG:=qa (fun w2 (hb2:Below w.heap.size w w2)=>qkd (w2:=w2) l u (H.out.below hb2 (qc _)) HR.out (by omega) _ hp)
    have hjl:j<l.length:=by
     have:=(zt.1 hj).1
     rwa [zb] at this
    have hnl:=hpre.length_le
    rw[qje] at hnl
    have HEQ:Hid (kx (qt l) u.data.toList=UInt8.ofNat j :: kx (qt l) (u.extract t.length u.size).data.toList):=by
     unfold Hid
     rw[enc_code hp hn0,tailS]
    have HU1:Hid ((u.extract t.length u.size).data.toList=s.data.toList.drop (k+t.length)):=by
     unfold Hid
     rw[tailS,HUD.out,zu]
    have hu1:(u.extract t.length u.size).size=s.size-(k+t.length):=by rw[xk];omega
    have HUS:=qa hu1
    clear hp hj hpre hu1 HDR
    generalize t.length=n at *
    have j0:(0:Int)≤(j:Int):=by omega
    have j1:(j:Int)<256:=by omega
    have hbs:(UInt8.ofNat j).toNat=j:=by simp;omega
    have n1:((n:Int)==0)=false:=by rw[q9];omega
    have n2:¬(n:Int)=0:=by omega
    go_wp2_with fail
    refine(HLG.out _ (by first | exact HB.out | exact js HB.out _)).mono ?_
    rintro r w1 ⟨rfl,m,rfl⟩
    have hb1:Below w.heap.size w (wr.drewN m):=js HB.out m
    have ho1:(wr.drewN m).ownsRow w.heap.size 5 1 (.slice A' ys.length c') ys.length (bv ys):=jw HO.out (fun _ _=>rfl)
    have hz1:w.heap.size≤(wr.drewN m).heap.size:=hb1.size
    generalize wr.drewN m=w1 at *
    have HO1:=qa ho1
    have HB1:=qa hb1
    clear ho1 hb1
    go_wp2_with (at_builtin;refine qcs (v:= .slice A' ys.length c') w.heap.size ys (UInt8.ofNat j) rfl _ _ rfl rfl rfl rfl (by rw[hbs,zm _ _ _ _ rfl];rfl) (HO1.out.alloc _) (by omega) (by simp;omega) ?_;intro A2 c2 w2 ho2 hg2)
    go_roundw
    case rel =>
     refine⟨k+n,u.extract n u.size,ys++[UInt8.ofNat j],A2,c2,by omega,HUS.out,HU1.out,rfl,by rw[qd];rfl,by rw[qd,qo,jy];omega,?_,ho2,(HB1.out.alloc hz1 _).grown hg2 (by simp;omega) (fun q hq=>(zk HO1.out hq).1)⟩
     rw[qm,←HYS.out,HEQ.out]
     rfl
    case measure =>
     have:=HUS.out
     simp only[this]
     omega
theorem equal_any{w:World}{lo h' lo2 h2:Nat}{A B:Option Addr}{c d:Nat}(xs ys:List UInt8)(hx:Rd w lo h' A c (bv xs))(hy:Rd w lo2 h2 B d (bv ys)) :
  Calls Tryz.prog 92 #[.slice A xs.length c,.slice B ys.length d] w fun r w'=>r= .returned (.bool (decide (xs=ys)))∧w=w':=by
 have h1:=vk (P:=Tryz.prog) w 36 9 5 Tryz.underlying36 Tryz.underlying5 Tryz.underlying9 lo h' A c xs hx
 have h2:=vk (P:=Tryz.prog) w 36 9 5 Tryz.underlying36 Tryz.underlying5 Tryz.underlying9 lo2 h2 B d ys hy
 clear hx hy
 go_enter Tryz.func92,Tryz.ntmps92
 go_wp2
 go_ret
 refine⟨yc ?_,rfl⟩
 by_cases h:xs=ys
 ·
  simp[h]
 ·
  simp[h]
theorem bclone_any{w:World}(bs:List UInt8){lo h':Nat}{A:Option Addr}{c:Nat}(h:Rd w lo h' A c (bv bs))(hh:h'≤w.heap.size)(hb:bs.length≤1000000000) :
  Calls Tryz.prog 61 #[.slice A bs.length c] w fun r w'=>∃A' c',r= .returned (.slice A' bs.length c')∧
   w'.ownsRow w.heap.size 5 1 (.slice A' bs.length c') bs.length (bv bs)∧Below w.heap.size w w':=by
 rcases A with _ | ad
 ·
  obtain rfl:bs=[]:=by
   rcases jh (bv bs).length with h0 | h0
   ·
    exact ze (by simpa[bv] using h0)
   ·
    obtain⟨_,_,h,_⟩:=h.at_ h0
    cases h
  clear h
  have hnil:=Lib.run_eql_slice_nil (P:=Tryz.prog) w 36 5 none 0 c 0 0 Tryz.underlying36
  go_enter Tryz.func61,Tryz.ntmps61
  go_wp2
  go_ret
  exact⟨_,_,rfl,zj ..,Below.refl _ _⟩
 ·
  obtain⟨A1,c1,w1,hrun,hown,hg1⟩:=xm (w.alloc (.cells #[] 5)) w.heap.size (.slice (some ⟨w.heap.size,0,none⟩) 0 0) [] bs bs (by simp) (own_lit w [] #[] rfl (by simp)) (h.alloc hh _) (by simp;omega) (by simp)
  have HO:=qa hown
  have HG:=qa hg1
  clear h hown hg1
  have hnil:=Lib.run_eql_slice_nil (P:=Tryz.prog) w 36 5 (some ad) bs.length c 0 0 Tryz.underlying36
  go_enter Tryz.func61,Tryz.ntmps61
  go_wp2_with (at_builtin;refine wpList_append_run rfl _ _ _ _ rfl rfl rfl hrun ?_)
  go_ret
  exact⟨_,_,rfl,HO.out,((Below.refl _ _).alloc (qc _) _).grown HG.out (by simp) (by simp[Value.ownBlock])⟩
theorem qkt(e:Int):jx (jx e)=jx e:=vw (yp e)
theorem qjh{w:World}{lo g k:Nat}{bs:List UInt8}{e:Int}(n:Nat)(most:Int)(h:xq w lo g bs k e)(hb:bs.length≤1000000000000) :
  Calls Tryz.prog 190 #[cp g,.int .i64 (n:Int),.int .i64 most] w fun r w'=>∃A c,r= .returned (.slice A (vt bs k e n most).1.length c)∧w'.ownsRow w.heap.size 3 1 (.slice A (vt bs k e n most).1.length c) (vt bs k e n most).1.length (iv (jf (vt bs k e n most).1))∧
   xq w' lo g bs (vt bs k e n most).2.1 (vt bs k e n most).2.2∧w.grownBy w' (some g):=by
 have hgl:=h.lt
 have HR:=qa (qlp (n:Int) h hb)
 obtain⟨N,hN⟩:∃N,vt bs k e n most=N:=⟨_,rfl⟩
 rw[hN]
 unfold vt at hN
 simp only at hN
 obtain⟨⟨ns,p,e0⟩,hRR⟩:∃R,ue bs k e (n:Int)=R:=⟨_,rfl⟩
 rw[hRR] at HR hN
 simp only at HR hN
 obtain⟨e1,he1⟩:∃e1,(if ns.length=n then e0 else jx e0)=e1:=⟨_,rfl⟩
 rw[he1] at hN
 have HE1:=qa he1
 have HN:=qa hN
 clear h hRR he1 hN
 unfold cp at *
 go_enter Tryz.func190,Tryz.ntmps190
 go_wp2_with fail
 refine HR.out.mono ?_
 rintro r w1 ⟨A1,c1,rfl,ho1,hc1,hg1⟩
 have hln:=(Rd.of_own ho1).len
 have hcp:=(Rd.of_own ho1).cap
 rw[yd,zq] at hln
 unfold maxLen at hcp
 have HO1:=qa ho1
 have HC1:=qa hc1
 have HG1:=qa hg1
 clear ho1 hc1 hg1 HR
 by_cases hnl:ns.length=n
 ·
  have hq:(ns.length:Int)=(n:Int):=by omega
  have bq:((ns.length:Int) != (n:Int))=false:=by rw[hq];simp
  have HC2:Hid (xq w1 lo g bs p e1):=by unfold Hid;rw[←HE1.out,if_pos hnl];exact HC1.out
  have HO2:=qa HO1.out
  have HG2:=qa HG1.out
  clear HC1 HO1 HG1 HE1 hnl
  go_wp2_with fail
  go_loopw [21] (fun x wr=>∃i:Nat,i≤ns.length∧x= .int .i64 (i:Int)∧xq wr lo g bs p (if ((ns.take i).all fun x=>decide ((x:Int)≤most))=true then e1 else jx e1)∧wr.ownsRow w.heap.size 3 1 (.slice A1 ns.length c1) ns.length (iv (jf ns))∧w.grownBy wr (some g)) (fun x _=>ns.length-(intOf x).toNat)
  case atStart=>exact⟨0,qj _,rfl,by simpa using HC2.out,HO2.out,HG2.out⟩
  case round =>
   clear HC2 HO2 HG2
   obtain⟨i,hi,rfl,hc,ho,hg⟩:=hrel
   have HO:=qa ho
   have HG:=qa hg
   have hwl:=hg.size
   by_cases hlt:i<ns.length
   ·
    have ik:(i:Int)<(ns.length:Int):=by omega
    obtain⟨b,off,rfl,_,_,hcell⟩:=(Rd.of_own ho).num (k:=i) (by rw[zq];exact hlt)
    have hxi:(jf ns)[i]'(by rw[zq];exact hlt)=(ns[i]:Int):=by simp[jf]
    rw[hxi] at hcell
    have htk:=qi hlt
    clear ho hg hxi
    by_cases hm:(ns[i]:Int)≤most
    ·
     have im:¬most<(ns[i]:Int):=by omega
     have HC3:Hid (xq wr lo g bs p (if ((ns.take (i+1)).all fun x=>decide ((x:Int)≤most))=true then e1 else jx e1)):=by
      unfold Hid
      rw[htk,List.all_append,List.all_cons,List.all_nil,qx hm,Bool.and_self,Bool.and_true]
      exact hc
     clear hc htk
     generalize ns[i]=x at *
     go_wp2_with fail
     go_roundw
     case rel=>exact⟨i+1,by omega,by go_num,HC3.out,HO.out,HG.out⟩
     case measure=>simp[intOf] <;> omega
    ·
     have im:most<(ns[i]:Int):=by omega
     have HF:=qa (ve 3 hc)
     have HE3:Hid ((if (if ((ns.take i).all fun x=>decide ((x:Int)≤most))=true then e1 else jx e1)=0 then (3:Int) else (if ((ns.take i).all fun x=>decide ((x:Int)≤most))=true then e1 else jx e1))=(if ((ns.take (i+1)).all fun x=>decide ((x:Int)≤most))=true then e1 else jx e1)):=by
      unfold Hid
      rw[htk,List.all_append,List.all_cons,List.all_nil,qw hm,Bool.false_and,Bool.and_false]
      rw[if_neg (show ¬(false=true) by decide)]
      split
      ·
       rfl
      ·
       exact qkt e1
     rw[HE3.out] at HF
     clear hc htk HE3
     generalize ns[i]=x at *
     unfold cp at HF
     go_wp2_with fail
     refine HF.out.mono ?_
     rintro r w4 ⟨rfl,hc4,hg4⟩
     have HC4:=qa hc4
     have HG4:=qa (HG.out.trans hg4)
     have HO4:=qa (qdu HO.out hg4 hgl)
     clear hc4 hg4 HF HO HG
     go_wp2_with fail
     go_roundw
     case rel=>exact⟨i+1,by omega,by go_num,HC4.out,HO4.out,HG4.out⟩
     case measure=>simp[intOf] <;> omega
   ·
    have ik:¬(i:Int)<(ns.length:Int):=by omega
    have hti:ns.take i=ns:=qp (by omega)
    rw[hti] at hc
    obtain⟨e2,he2⟩:∃e2,(if (ns.all fun x=>decide ((x:Int)≤most))=true then e1 else jx e1)=e2:=⟨_,rfl⟩
    have hn:=HN.out
    rw[he2] at hc hn
    have HC:=qa hc
    have HGD:=qa (yq hc)
    unfold cp at HGD
    clear hc ho hg he2 HN
    by_cases h0:e2=0
    ·
     subst h0
     rw[if_pos rfl] at hn
     subst hn
     have b0:((0:Int)==0)=true:=rfl
     rw[b0] at HGD
     go_wp2_with fail
     refine HGD.out.mono ?_
     rintro r w' ⟨rfl,rfl⟩
     go_wp2_with fail
     go_ret
     exact⟨_,_,rfl,HO.out,HC.out,HG.out⟩
    ·
     rw[if_neg h0] at hn
     subst hn
     have b0:(e2==0)=false:=by rw[q9];exact h0
     rw[b0] at HGD
     go_wp2_with fail
     refine HGD.out.mono ?_
     rintro r w' ⟨rfl,rfl⟩
     go_wp2_with fail
     go_ret
     exact⟨none,0,rfl,⟨rfl,.inl ⟨rfl,rfl⟩⟩,HC.out,HG.out⟩
 ·
  have hq:¬(ns.length:Int)=(n:Int):=by omega
  have bq:((ns.length:Int) != (n:Int))=true:=by simpa using hq
  have HF:=qa (ve 3 HC1.out)
  have HE2:Hid ((if e0=0 then (3:Int) else e0)=e1):=by unfold Hid;rw[←HE1.out,if_neg hnl];rfl
  rw[HE2.out] at HF
  unfold cp at HF
  clear HE1 HE2 hnl
  go_wp2_with fail
  refine HF.out.mono ?_
  rintro r w2 ⟨rfl,hc2,hg2⟩
  have HC2:=qa hc2
  have HO2:=qa (qdu HO1.out hg2 hgl)
  have HG2:=qa (HG1.out.trans hg2)
  clear hc2 hg2 HC1 HO1 HG1 HF
  go_wp2_with fail
  go_loopw [21] (fun x wr=>∃i:Nat,i≤ns.length∧x= .int .i64 (i:Int)∧xq wr lo g bs p (if ((ns.take i).all fun x=>decide ((x:Int)≤most))=true then e1 else jx e1)∧wr.ownsRow w.heap.size 3 1 (.slice A1 ns.length c1) ns.length (iv (jf ns))∧w.grownBy wr (some g)) (fun x _=>ns.length-(intOf x).toNat)
  case atStart=>exact⟨0,qj _,rfl,by simpa using HC2.out,HO2.out,HG2.out⟩
  case round =>
   clear HC2 HO2 HG2
   obtain⟨i,hi,rfl,hc,ho,hg⟩:=hrel
   have HO:=qa ho
   have HG:=qa hg
   have hwl:=hg.size
   by_cases hlt:i<ns.length
   ·
    have ik:(i:Int)<(ns.length:Int):=by omega
    obtain⟨b,off,rfl,_,_,hcell⟩:=(Rd.of_own ho).num (k:=i) (by rw[zq];exact hlt)
    have hxi:(jf ns)[i]'(by rw[zq];exact hlt)=(ns[i]:Int):=by simp[jf]
    rw[hxi] at hcell
    have htk:=qi hlt
    clear ho hg hxi
    by_cases hm:(ns[i]:Int)≤most
    ·
     have im:¬most<(ns[i]:Int):=by omega
     have HC3:Hid (xq wr lo g bs p (if ((ns.take (i+1)).all fun x=>decide ((x:Int)≤most))=true then e1 else jx e1)):=by
      unfold Hid
      rw[htk,List.all_append,List.all_cons,List.all_nil,qx hm,Bool.and_self,Bool.and_true]
      exact hc
     clear hc htk
     generalize ns[i]=x at *
     go_wp2_with fail
     go_roundw
     case rel=>exact⟨i+1,by omega,by go_num,HC3.out,HO.out,HG.out⟩
     case measure=>simp[intOf] <;> omega
    ·
     have im:most<(ns[i]:Int):=by omega
     have HF:=qa (ve 3 hc)
     have HE3:Hid ((if (if ((ns.take i).all fun x=>decide ((x:Int)≤most))=true then e1 else jx e1)=0 then (3:Int) else (if ((ns.take i).all fun x=>decide ((x:Int)≤most))=true then e1 else jx e1))=(if ((ns.take (i+1)).all fun x=>decide ((x:Int)≤most))=true then e1 else jx e1)):=by
      unfold Hid
      rw[htk,List.all_append,List.all_cons,List.all_nil,qw hm,Bool.false_and,Bool.and_false]
      rw[if_neg (show ¬(false=true) by decide)]
      split
      ·
       rfl
      ·
       exact qkt e1
     rw[HE3.out] at HF
     clear hc htk HE3
     generalize ns[i]=x at *
     unfold cp at HF
     go_wp2_with fail
     refine HF.out.mono ?_
     rintro r w4 ⟨rfl,hc4,hg4⟩
     have HC4:=qa hc4
     have HG4:=qa (HG.out.trans hg4)
     have HO4:=qa (qdu HO.out hg4 hgl)
     clear hc4 hg4 HF HO HG
     go_wp2_with fail
     go_roundw
     case rel=>exact⟨i+1,by omega,by go_num,HC4.out,HO4.out,HG4.out⟩
     case measure=>simp[intOf] <;> omega
   ·
    have ik:¬(i:Int)<(ns.length:Int):=by omega
    have hti:ns.take i=ns:=qp (by omega)
    rw[hti] at hc
    obtain⟨e2,he2⟩:∃e2,(if (ns.all fun x=>decide ((x:Int)≤most))=true then e1 else jx e1)=e2:=⟨_,rfl⟩
    have hn:=HN.out
    rw[he2] at hc hn
    have HC:=qa hc
    have HGD:=qa (yq hc)
    unfold cp at HGD
    clear hc ho hg he2 HN
    by_cases h0:e2=0
    ·
     subst h0
     rw[if_pos rfl] at hn
     subst hn
     have b0:((0:Int)==0)=true:=rfl
     rw[b0] at HGD
     go_wp2_with fail
     refine HGD.out.mono ?_
     rintro r w' ⟨rfl,rfl⟩
     go_wp2_with fail
     go_ret
     exact⟨_,_,rfl,HO.out,HC.out,HG.out⟩
    ·
     rw[if_neg h0] at hn
     subst hn
     have b0:(e2==0)=false:=by rw[q9];exact h0
     rw[b0] at HGD
     go_wp2_with fail
     refine HGD.out.mono ?_
     rintro r w' ⟨rfl,rfl⟩
     go_wp2_with fail
     go_ret
     exact⟨none,0,rfl,⟨rfl,.inl ⟨rfl,rfl⟩⟩,HC.out,HG.out⟩
theorem qg8{w:World}(l:List Bool){lo h':Nat}{A:Option Addr}{c:Nat}(h:Rd w lo h' A c (lv l)) :
  Calls Tryz.prog 191 #[.slice A l.length c] w fun r w'=>r= .returned (.int .i64 (cnt l:Int))∧w=w':=count_any l h
theorem fill_same{ys xs:List Value}{k:Nat}(h:qhs ys k xs)(j:Nat)(hj:k≤j)(u:Value):qhs ys k (xs.set j u):=by
 refine⟨by rw[xv];exact h.1,fun i hi => ?_⟩
 rw[qa6 (by omega)]
 exact h.2 i hi
theorem spreadB_no{w:World}(there:List Bool){n m lo hi c d:Nat}{A B:Option Addr}(h:Rd w lo hi A c (lv there))(hn:there.length=n)(hm:m≠cnt there){v:Value} :
  Calls Tryz.prog 193 #[.slice A n c,.slice B m d,v] w fun r w'=>r= .returned (.slice none 0 0)∧w=w':=by
 subst hn
 have HC:=qa (qg8 (w:=w) there h)
 have hq:¬(m:Int)=(cnt there:Int):=by omega
 have bq:((m:Int) != (cnt there:Int))=true:=by simpa using hq
 clear h
 go_enter Tryz.func193,Tryz.ntmps193
 go_wp2_with fail
 refine HC.out.mono ?_
 rintro r w' ⟨rfl,rfl⟩
 go_wp2_with fail
 go_ret
 exact⟨rfl,rfl⟩
theorem spreadB_yes{w:World}(there:List Bool)(xs:List Value){n m c d:Nat}{A B:Option Addr}(h:Rd w 0 w.heap.size A c (lv there))(hx:Rd w 0 w.heap.size B d xs)(hn:there.length=n)(hm:xs.length=m)(hmc:m=cnt there)(hk:n≤1000000)(h1:∀v∈xs,∃pA pn pc,v= .slice pA pn pc) :
  Calls Tryz.prog 193 #[.slice A n c,.slice B m d,Value.slice none 0 0] w fun r w'=>∃A' c',r= .returned (.slice A' n c')∧w'.ownsRow w.heap.size 36 1 (.slice A' n c') n (yt there xs (Value.slice none 0 0))∧Below w.heap.size w w':=by
 subst hn
 have HC:=qa (qg8 (w:=w) there h)
 have bq:((m:Int) != (cnt there:Int))=false:=by rw[hmc];simp
 have HMC:=qa hmc
 have hcn:=qgs there
 obtain⟨w1,hmake,ho1,hg1⟩:=make_parts w there.length (by omega)
 have HO1:=qa ho1
 have HB1:=qa (qaq (qc _) hg1 (fun g hg=>by cases hg))
 obtain⟨T,hT⟩:∃T,yt there xs (Value.slice none 0 0)=T:=⟨_,rfl⟩
 have HTL:Hid (T.length=there.length):=by unfold Hid;rw[←hT,qao]
 have HT0:Hid (∀k,there[k]? = some false→T[k]? = some (Value.slice none 0 0)):=fun k hk=>by rw[←hT];exact qen _ _ _ hk
 have HT1:Hid (∀k,there[k]? = some true→cnt (there.take k)<xs.length∧T[k]? = xs[cnt (there.take k)]?):=fun k hk=>by
  obtain⟨j,e1,e2,e3⟩:=qfo there xs (Value.slice none 0 0) hk (by omega)
  rw[←hT,e1]
  exact⟨e2,e3⟩
 rw[hT]
 have H:=qa h
 have HX:=qa hx
 have H1:=qa h1
 have hl:=h.len
 have hcp:=h.cap
 rw[qac] at hl
 unfold maxLen at hcp
 clear h hx ho1 hg1 hT h1 hmc
 go_enter Tryz.func193,Tryz.ntmps193
 go_wp2_with fail
 refine HC.out.mono ?_
 rintro r w' ⟨rfl,rfl⟩
 go_wp2_with fail
 clear hmake HC bq
 go_loopw [1,20] (fun y x wr=>∃(k j:Nat) (zs:List Value) (B':Option Addr) (d':Nat),k≤there.length∧x= .int .i64 (k:Int)∧j=cnt (there.take k)∧j≤m∧y= .slice B' (m-j) d'∧Rd wr 0 w.heap.size B' d' (xs.drop j)∧
  wr.ownsRow w.heap.size 36 1 (.slice (some ⟨w.heap.size,0,none⟩) there.length there.length) there.length zs∧qhs T k zs∧Below w.heap.size w wr) (fun _ x _=>there.length-(intOf x).toNat)
 case atStart=>exact⟨0,0,_,B,d,qj _,rfl,by simp[cnt],qj _,rfl,by rw[jv];exact HX.out.below HB1.out (qc _),HO1.out,qcb (by rw[HTL.out];simp),HB1.out⟩
 case round =>
  clear HO1 HB1 HX
  obtain⟨k,j,zs,B',d',hkk,rfl,hj,hjm,rfl,hrx,ho,hf,hb⟩:=hrel
  have HRX:=qa hrx
  have HO:=qa ho
  have HF:=qa hf
  have HB:=qa hb
  have HJ:=qa hj
  have hsz:=hb.size
  clear hrx ho hf hb hj
  by_cases hlt:k<there.length
  ·
   have ik:(k:Int)<(there.length:Int):=by omega
   obtain⟨b,off,rfl,_,hbl,hcell⟩:=(H.out.below HB.out (qc _)).row hlt
   have hct:=cnt_take there k hlt
   have htk:there[k]? = some there[k]:=qe hlt
   have HT0k:=qa (fun h:there[k]=false=>HT0.out k (by rw[htk,h]))
   have HT1k:=qa (fun h:there[k]=true=>HT1.out k (by rw[htk,h]))
   have hfr:=HO.out.frozenAt k
   have hzk:k<zs.length:=by rw[HF.out.1,HTL.out];exact hlt
   have hzc:wr.cell? ⟨w.heap.size,k,none⟩=some zs[k]:=by
    rw[HO.out.cellAt k (by omega),qe hzk]
   have HST:=qa (World.ownsRow.stored HO.out k (Value.slice none 0 0))
   have HBS:=qa (HB.out.setCell (p:=⟨w.heap.size,k,none⟩) (qc _) (Value.slice none 0 0))
   have HRXS:=qa (HRX.out.setCell (p:=⟨w.heap.size,k,none⟩) (.inr (qc _)) (Value.slice none 0 0))
   clear htk
   generalize there[k]=q at *
   generalize zs[k]=z0 at *
   cases q with
   | false =>
    have HUS:=qa (um HF.out (Value.slice none 0 0) (HT0k.out rfl))
    go_wp2_with fail
    go_roundw
    case rel=>exact⟨k+1,j,_,B',d',by omega,by go_num,by rw[hct,←HJ.out];rfl,hjm,rfl,HRXS.out,HST.out.1,HUS.out,HBS.out⟩
    case measure=>simp[intOf];omega
   | true =>
    obtain⟨hjx,hTk⟩:=HT1k.out rfl
    rw[←HJ.out] at hjx hTk
    obtain⟨bx,ox,rfl,_,hbx,hcx⟩:=HRX.out.get (k:=0) (by rw[qv];omega)
    rw[List.getElem_drop,y7] at hcx
    simp only[y7] at hcx
    rw[qe hjx] at hTk
    obtain⟨pA,pn,pc,he⟩:=H1.out xs[j] (ql hjx)
    obtain⟨w4,hw4⟩:∃w4,wr.setCell ⟨w.heap.size,k,none⟩ (Value.slice none 0 0)=w4:=⟨_,rfl⟩
    rw[hw4] at HST HBS HRXS
    have hdl:=HRXS.out.len
    have hdc:=HRXS.out.cap
    rw[qv] at hdl
    unfold maxLen at hdc
    have HCUT:Hid (Rd w4 0 w.heap.size (if d'=1 then some ⟨bx,ox,none⟩ else some ⟨bx,ox+1,none⟩) (d'-1) (xs.drop (j+1))):=by
     have:=HRXS.out.cut (k:=1) (n:=m-j) (by omega) (by rw[qv];omega)
     rw[zu,qp (by rw[qv];omega)] at this
     exact this
    have hcx4:w4.cell? ⟨bx,ox,none⟩=some xs[j]:=by
     rw[←hw4,World.cell?_setCell_other _ _ _ _ (by intro e;injection e with e1;omega)]
     exact hcx
    have hfr4:=HST.out.1.frozenAt k
    have hz4:w4.cell? ⟨w.heap.size,k,none⟩=some (Value.slice none 0 0):=by
     rw[HST.out.1.cellAt k (by omega),qbw hzk]
    have HST4:=qa (World.ownsRow.stored HST.out.1 k xs[j])
    have HBS4:=qa (HBS.out.setCell (p:=⟨w.heap.size,k,none⟩) (qc _) xs[j])
    have HRX4:=qa (HCUT.out.setCell (p:=⟨w.heap.size,k,none⟩) (.inr (qc _)) xs[j])
    have HUS:=qa (um (fill_same HF.out k (qc _) (Value.slice none 0 0)) xs[j] hTk)
    have HMJ:Hid (m-j-1=m-(j+1)):=by unfold Hid;omega
    rw[he] at hcx4 HST4 HBS4 HRX4 HUS
    clear HST HBS HRXS HCUT hcx hTk he HRX HO HF HB
    go_wp2_with fail
    go_region
    go_wp2_with fail
    go_roundw
    case rel=>exact⟨k+1,j+1,_,_,d'-1,by omega,by go_num,by rw[hct,←HJ.out];rfl,by omega,by rw[←HMJ.out],HRX4.out.drew,jw HST4.out.1 fun _ _=>rfl,HUS.out,HBS4.out.drew⟩
    case measure=>simp[intOf];omega
  ·
   have ik:¬(k:Int)<(there.length:Int):=by omega
   have hx:zs=T:=qdo HF.out (by rw[HTL.out];omega)
   subst hx
   go_wp2_with fail
   go_ret
   exact⟨_,_,rfl,HO.out,HB.out⟩
theorem spreadI_no{w:World}(there:List Bool){n m lo hi c d:Nat}{A B:Option Addr}(h:Rd w lo hi A c (lv there))(hn:there.length=n)(hm:m≠cnt there){v:Value} :
  Calls Tryz.prog 199 #[.slice A n c,.slice B m d,v] w fun r w'=>r= .returned (.slice none 0 0)∧w=w':=by
 subst hn
 have HC:=qa (qg8 (w:=w) there h)
 have hq:¬(m:Int)=(cnt there:Int):=by omega
 have bq:((m:Int) != (cnt there:Int))=true:=by simpa using hq
 clear h
 go_enter Tryz.func199,Tryz.ntmps199
 go_wp2_with fail
 refine HC.out.mono ?_
 rintro r w' ⟨rfl,rfl⟩
 go_wp2_with fail
 go_ret
 exact⟨rfl,rfl⟩
theorem spreadI_yes{w:World}(there:List Bool)(xs:List Value){n m c d:Nat}{A B:Option Addr}(h:Rd w 0 w.heap.size A c (lv there))(hx:Rd w 0 w.heap.size B d xs)(hn:there.length=n)(hm:xs.length=m)(hmc:m=cnt there)(hk:n≤1000000)(h1:∀v∈xs,∃pz:Int,v= .int .i64 pz) :
  Calls Tryz.prog 199 #[.slice A n c,.slice B m d,Value.int .i64 (-1)] w fun r w'=>∃A' c',r= .returned (.slice A' n c')∧w'.ownsRow w.heap.size 3 1 (.slice A' n c') n (yt there xs (Value.int .i64 (-1)))∧Below w.heap.size w w':=by
 subst hn
 have HC:=qa (qg8 (w:=w) there h)
 have bq:((m:Int) != (cnt there:Int))=false:=by rw[hmc];simp
 have HMC:=qa hmc
 have hcn:=qgs there
 obtain⟨w1,hmake,ho1,hg1⟩:=qg0 w there.length (by omega)
 have HO1:=qa ho1
 have HB1:=qa (qaq (qc _) hg1 (fun g hg=>by cases hg))
 obtain⟨T,hT⟩:∃T,yt there xs (Value.int .i64 (-1))=T:=⟨_,rfl⟩
 have HTL:Hid (T.length=there.length):=by unfold Hid;rw[←hT,qao]
 have HT0:Hid (∀k,there[k]? = some false→T[k]? = some (Value.int .i64 (-1))):=fun k hk=>by rw[←hT];exact qen _ _ _ hk
 have HT1:Hid (∀k,there[k]? = some true→cnt (there.take k)<xs.length∧T[k]? = xs[cnt (there.take k)]?):=fun k hk=>by
  obtain⟨j,e1,e2,e3⟩:=qfo there xs (Value.int .i64 (-1)) hk (by omega)
  rw[←hT,e1]
  exact⟨e2,e3⟩
 rw[hT]
 have H:=qa h
 have HX:=qa hx
 have H1:=qa h1
 have hl:=h.len
 have hcp:=h.cap
 rw[qac] at hl
 unfold maxLen at hcp
 clear h hx ho1 hg1 hT h1 hmc
 go_enter Tryz.func199,Tryz.ntmps199
 go_wp2_with fail
 refine HC.out.mono ?_
 rintro r w' ⟨rfl,rfl⟩
 go_wp2_with fail
 clear hmake HC bq
 go_loopw [1,20] (fun y x wr=>∃(k j:Nat) (zs:List Value) (B':Option Addr) (d':Nat),k≤there.length∧x= .int .i64 (k:Int)∧j=cnt (there.take k)∧j≤m∧y= .slice B' (m-j) d'∧Rd wr 0 w.heap.size B' d' (xs.drop j)∧
  wr.ownsRow w.heap.size 3 1 (.slice (some ⟨w.heap.size,0,none⟩) there.length there.length) there.length zs∧qhs T k zs∧Below w.heap.size w wr) (fun _ x _=>there.length-(intOf x).toNat)
 case atStart=>exact⟨0,0,_,B,d,qj _,rfl,by simp[cnt],qj _,rfl,by rw[jv];exact HX.out.below HB1.out (qc _),HO1.out,qcb (by rw[HTL.out];simp),HB1.out⟩
 case round =>
  clear HO1 HB1 HX
  obtain⟨k,j,zs,B',d',hkk,rfl,hj,hjm,rfl,hrx,ho,hf,hb⟩:=hrel
  have HRX:=qa hrx
  have HO:=qa ho
  have HF:=qa hf
  have HB:=qa hb
  have HJ:=qa hj
  have hsz:=hb.size
  clear hrx ho hf hb hj
  by_cases hlt:k<there.length
  ·
   have ik:(k:Int)<(there.length:Int):=by omega
   obtain⟨b,off,rfl,_,hbl,hcell⟩:=(H.out.below HB.out (qc _)).row hlt
   have hct:=cnt_take there k hlt
   have htk:there[k]? = some there[k]:=qe hlt
   have HT0k:=qa (fun h:there[k]=false=>HT0.out k (by rw[htk,h]))
   have HT1k:=qa (fun h:there[k]=true=>HT1.out k (by rw[htk,h]))
   have hfr:=HO.out.frozenAt k
   have hzk:k<zs.length:=by rw[HF.out.1,HTL.out];exact hlt
   have hzc:wr.cell? ⟨w.heap.size,k,none⟩=some zs[k]:=by
    rw[HO.out.cellAt k (by omega),qe hzk]
   have HST:=qa (World.ownsRow.stored HO.out k (Value.int .i64 (-1)))
   have HBS:=qa (HB.out.setCell (p:=⟨w.heap.size,k,none⟩) (qc _) (Value.int .i64 (-1)))
   have HRXS:=qa (HRX.out.setCell (p:=⟨w.heap.size,k,none⟩) (.inr (qc _)) (Value.int .i64 (-1)))
   clear htk
   generalize there[k]=q at *
   generalize zs[k]=z0 at *
   cases q with
   | false =>
    have HUS:=qa (um HF.out (Value.int .i64 (-1)) (HT0k.out rfl))
    go_wp2_with fail
    go_roundw
    case rel=>exact⟨k+1,j,_,B',d',by omega,by go_num,by rw[hct,←HJ.out];rfl,hjm,rfl,HRXS.out,HST.out.1,HUS.out,HBS.out⟩
    case measure=>simp[intOf];omega
   | true =>
    obtain⟨hjx,hTk⟩:=HT1k.out rfl
    rw[←HJ.out] at hjx hTk
    obtain⟨bx,ox,rfl,_,hbx,hcx⟩:=HRX.out.get (k:=0) (by rw[qv];omega)
    rw[List.getElem_drop,y7] at hcx
    simp only[y7] at hcx
    rw[qe hjx] at hTk
    obtain⟨pz,he⟩:=H1.out xs[j] (ql hjx)
    obtain⟨w4,hw4⟩:∃w4,wr.setCell ⟨w.heap.size,k,none⟩ (Value.int .i64 (-1))=w4:=⟨_,rfl⟩
    rw[hw4] at HST HBS HRXS
    have hdl:=HRXS.out.len
    have hdc:=HRXS.out.cap
    rw[qv] at hdl
    unfold maxLen at hdc
    have HCUT:Hid (Rd w4 0 w.heap.size (if d'=1 then some ⟨bx,ox,none⟩ else some ⟨bx,ox+1,none⟩) (d'-1) (xs.drop (j+1))):=by
     have:=HRXS.out.cut (k:=1) (n:=m-j) (by omega) (by rw[qv];omega)
     rw[zu,qp (by rw[qv];omega)] at this
     exact this
    have hcx4:w4.cell? ⟨bx,ox,none⟩=some xs[j]:=by
     rw[←hw4,World.cell?_setCell_other _ _ _ _ (by intro e;injection e with e1;omega)]
     exact hcx
    have hfr4:=HST.out.1.frozenAt k
    have hz4:w4.cell? ⟨w.heap.size,k,none⟩=some (Value.int .i64 (-1)):=by
     rw[HST.out.1.cellAt k (by omega),qbw hzk]
    have HST4:=qa (World.ownsRow.stored HST.out.1 k xs[j])
    have HBS4:=qa (HBS.out.setCell (p:=⟨w.heap.size,k,none⟩) (qc _) xs[j])
    have HRX4:=qa (HCUT.out.setCell (p:=⟨w.heap.size,k,none⟩) (.inr (qc _)) xs[j])
    have HUS:=qa (um (fill_same HF.out k (qc _) (Value.int .i64 (-1))) xs[j] hTk)
    have HMJ:Hid (m-j-1=m-(j+1)):=by unfold Hid;omega
    rw[he] at hcx4 HST4 HBS4 HRX4 HUS
    clear HST HBS HRXS HCUT hcx hTk he HRX HO HF HB
    go_wp2_with fail
    go_region
    go_wp2_with fail
    go_roundw
    case rel=>exact⟨k+1,j+1,_,_,d'-1,by omega,by go_num,by rw[hct,←HJ.out];rfl,by omega,by rw[←HMJ.out],HRX4.out.drew,jw HST4.out.1 fun _ _=>rfl,HUS.out,HBS4.out.drew⟩
    case measure=>simp[intOf];omega
  ·
   have ik:¬(k:Int)<(there.length:Int):=by omega
   have hx:zs=T:=qdo HF.out (by rw[HTL.out];omega)
   subst hx
   go_wp2_with fail
   go_ret
   exact⟨_,_,rfl,HO.out,HB.out⟩
theorem xq.behind{w w':World}{lo g k B:Nat}{bs:List UInt8}{e:Int}(h:xq w lo g bs k e)(hb:Below B w w')(hg:g<B):xq w' lo g bs k e:=by
 obtain⟨A,c,hbk,hrd,hk,hl⟩:=h
 exact⟨A,c,hbk.below hb hg,hrd.below hb (by omega),hk,hl⟩
end Go.Proofs.YtjfecojdagmacaaGreat
