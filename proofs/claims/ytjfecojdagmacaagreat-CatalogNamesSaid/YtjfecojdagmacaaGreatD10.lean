/-
  Lemmas.
-/
import Derived.Test.YtjfecojdagmacaaGreatD07
import Derived.Test.YtjfecojdagmacaaGreatD09
namespace Go.Proofs.YtjfecojdagmacaaGreat
open Go.RowKit
set_option maxRecDepth 20000
set_option maxHeartbeats 16000000
set_option linter.unusedSimpArgs false
set_option linter.unusedVariables false
theorem qn1(e:Int):xd (xd e)=xd e:=uy (xw e)
theorem qmh{w:World}{lo g k:Nat}{bs:List UInt8}{e:Int}(n:Nat)(most:Int)(h:vx w lo g bs k e)(hb:bs.length≤1000000000000) :
  Calls Tryz.prog 190 #[cp g,.int .i64 (n:Int),.int .i64 most] w fun r w'=>∃A c,r= .returned (.slice A (uu bs k e n most).1.length c)∧w'.ownsRow w.heap.size 3 1 (.slice A (uu bs k e n most).1.length c) (uu bs k e n most).1.length (iv (z8 (uu bs k e n most).1))∧
   vx w' lo g bs (uu bs k e n most).2.1 (uu bs k e n most).2.2∧w.grownBy w' (some g):=by
 have hgl:=h.lt
 have HR:=qa (qox (n:Int) h hb)
 obtain⟨N,hN⟩:∃N,uu bs k e n most=N:=⟨_,rfl⟩
 rw[hN]
 unfold uu at hN
 simp only at hN
 obtain⟨⟨ns,p,e0⟩,hRR⟩:∃R,qa4 bs k e (n:Int)=R:=⟨_,rfl⟩
 rw[hRR] at HR hN
 simp only at HR hN
 obtain⟨e1,he1⟩:∃e1,(if ns.length=n then e0 else xd e0)=e1:=⟨_,rfl⟩
 rw[he1] at hN
 have HE1:=qa he1
 have HN:=qa hN
 clear h hRR he1 hN
 unfold cp at *
 go_enter Tryz.func190,Tryz.ntmps190
 go_wp2_with fail
 refine HR.out.mono ?_
 rintro r w1 ⟨A1,c1,rfl,ho1,hc1,hg1⟩
 have hln:=(Rd.of_own ho1).len
 have hcp:=(Rd.of_own ho1).cap
 rw[jz,zu] at hln
 unfold maxLen at hcp
 have HO1:=qa ho1
 have HC1:=qa hc1
 have HG1:=qa hg1
 clear ho1 hc1 hg1 HR
 by_cases hnl:ns.length=n
 ·
  have hq:(ns.length:Int)=(n:Int):=by omega
  have bq:((ns.length:Int) != (n:Int))=false:=by rw[hq];simp
  have HC2:Hid (vx w1 lo g bs p e1):=by unfold Hid;rw[←HE1.out,if_pos hnl];exact HC1.out
  have HO2:=qa HO1.out
  have HG2:=qa HG1.out
  clear HC1 HO1 HG1 HE1 hnl
  go_wp2_with fail
  go_loopw [21] (fun x wr=>∃i:Nat,i≤ns.length∧x= .int .i64 (i:Int)∧vx wr lo g bs p (if ((ns.take i).all fun x=>decide ((x:Int)≤most))=true then e1 else xd e1)∧wr.ownsRow w.heap.size 3 1 (.slice A1 ns.length c1) ns.length (iv (z8 ns))∧w.grownBy wr (some g)) (fun x _=>ns.length-(intOf x).toNat)
  case atStart=>exact⟨0,qi _,rfl,by simpa using HC2.out,HO2.out,HG2.out⟩
  case round =>
   clear HC2 HO2 HG2
   obtain⟨i,hi,rfl,hc,ho,hg⟩:=hrel
   have HO:=qa ho
   have HG:=qa hg
   have hwl:=hg.size
   by_cases hlt:i<ns.length
   ·
    have ik:(i:Int)<(ns.length:Int):=by omega
    obtain⟨b,off,rfl,_,_,hcell⟩:=(Rd.of_own ho).num (k:=i) (by rw[zu];exact hlt)
    have hxi:(z8 ns)[i]'(by rw[zu];exact hlt)=(ns[i]:Int):=by simp[z8]
    rw[hxi] at hcell
    have htk:=qj hlt
    clear ho hg hxi
    by_cases hm:(ns[i]:Int)≤most
    ·
     have im:¬most<(ns[i]:Int):=by omega
     have HC3:Hid (vx wr lo g bs p (if ((ns.take (i+1)).all fun x=>decide ((x:Int)≤most))=true then e1 else xd e1)):=by
      unfold Hid
      rw[htk,List.all_append,List.all_cons,List.all_nil,qx hm,Bool.and_self,Bool.and_true]
      exact hc
     clear hc htk
     generalize ns[i]=x at *
     go_wp2_with fail
     go_roundw
     case rel=>exact⟨i+1,by omega,by go_num,HC3.out,HO.out,HG.out⟩
     case measure=>simp[intOf] <;> omega
    ·
     have im:most<(ns[i]:Int):=by omega
     have HF:=qa (ua 3 hc)
     have HE3:Hid ((if (if ((ns.take i).all fun x=>decide ((x:Int)≤most))=true then e1 else xd e1)=0 then (3:Int) else (if ((ns.take i).all fun x=>decide ((x:Int)≤most))=true then e1 else xd e1))=(if ((ns.take (i+1)).all fun x=>decide ((x:Int)≤most))=true then e1 else xd e1)):=by
      unfold Hid
      rw[htk,List.all_append,List.all_cons,List.all_nil,qr hm,Bool.false_and,Bool.and_false]
      rw[if_neg (show ¬(false=true) by decide)]
      split
      ·
       rfl
      ·
       exact qn1 e1
     rw[HE3.out] at HF
     clear hc htk HE3
     generalize ns[i]=x at *
     unfold cp at HF
     go_wp2_with fail
     refine HF.out.mono ?_
     rintro r w4 ⟨rfl,hc4,hg4⟩
     have HC4:=qa hc4
     have HG4:=qa (HG.out.trans hg4)
     have HO4:=qa (qfw HO.out hg4 hgl)
     clear hc4 hg4 HF HO HG
     go_wp2_with fail
     go_roundw
     case rel=>exact⟨i+1,by omega,by go_num,HC4.out,HO4.out,HG4.out⟩
     case measure=>simp[intOf] <;> omega
   ·
    have ik:¬(i:Int)<(ns.length:Int):=by omega
    have hti:ns.take i=ns:=qo (by omega)
    rw[hti] at hc
    obtain⟨e2,he2⟩:∃e2,(if (ns.all fun x=>decide ((x:Int)≤most))=true then e1 else xd e1)=e2:=⟨_,rfl⟩
    have hn:=HN.out
    rw[he2] at hc hn
    have HC:=qa hc
    have HGD:=qa (xx hc)
    unfold cp at HGD
    clear hc ho hg he2 HN
    by_cases h0:e2=0
    ·
     subst h0
     rw[if_pos rfl] at hn
     subst hn
     have b0:((0:Int)==0)=true:=rfl
     rw[b0] at HGD
     go_wp2_with fail
     refine HGD.out.mono ?_
     rintro r w' ⟨rfl,rfl⟩
     go_wp2_with fail
     go_ret
     exact⟨_,_,rfl,HO.out,HC.out,HG.out⟩
    ·
     rw[if_neg h0] at hn
     subst hn
     have b0:(e2==0)=false:=by rw[q9];exact h0
     rw[b0] at HGD
     go_wp2_with fail
     refine HGD.out.mono ?_
     rintro r w' ⟨rfl,rfl⟩
     go_wp2_with fail
     go_ret
     exact⟨none,0,rfl,⟨rfl,.inl ⟨rfl,rfl⟩⟩,HC.out,HG.out⟩
 ·
  have hq:¬(ns.length:Int)=(n:Int):=by omega
  have bq:((ns.length:Int) != (n:Int))=true:=by simpa using hq
  have HF:=qa (ua 3 HC1.out)
  have HE2:Hid ((if e0=0 then (3:Int) else e0)=e1):=by unfold Hid;rw[←HE1.out,if_neg hnl];rfl
  rw[HE2.out] at HF
  unfold cp at HF
  clear HE1 HE2 hnl
  go_wp2_with fail
  refine HF.out.mono ?_
  rintro r w2 ⟨rfl,hc2,hg2⟩
  have HC2:=qa hc2
  have HO2:=qa (qfw HO1.out hg2 hgl)
  have HG2:=qa (HG1.out.trans hg2)
  clear hc2 hg2 HC1 HO1 HG1 HF
  go_wp2_with fail
  go_loopw [21] (fun x wr=>∃i:Nat,i≤ns.length∧x= .int .i64 (i:Int)∧vx wr lo g bs p (if ((ns.take i).all fun x=>decide ((x:Int)≤most))=true then e1 else xd e1)∧wr.ownsRow w.heap.size 3 1 (.slice A1 ns.length c1) ns.length (iv (z8 ns))∧w.grownBy wr (some g)) (fun x _=>ns.length-(intOf x).toNat)
  case atStart=>exact⟨0,qi _,rfl,by simpa using HC2.out,HO2.out,HG2.out⟩
  case round =>
   clear HC2 HO2 HG2
   obtain⟨i,hi,rfl,hc,ho,hg⟩:=hrel
   have HO:=qa ho
   have HG:=qa hg
   have hwl:=hg.size
   by_cases hlt:i<ns.length
   ·
    have ik:(i:Int)<(ns.length:Int):=by omega
    obtain⟨b,off,rfl,_,_,hcell⟩:=(Rd.of_own ho).num (k:=i) (by rw[zu];exact hlt)
    have hxi:(z8 ns)[i]'(by rw[zu];exact hlt)=(ns[i]:Int):=by simp[z8]
    rw[hxi] at hcell
    have htk:=qj hlt
    clear ho hg hxi
    by_cases hm:(ns[i]:Int)≤most
    ·
     have im:¬most<(ns[i]:Int):=by omega
     have HC3:Hid (vx wr lo g bs p (if ((ns.take (i+1)).all fun x=>decide ((x:Int)≤most))=true then e1 else xd e1)):=by
      unfold Hid
      rw[htk,List.all_append,List.all_cons,List.all_nil,qx hm,Bool.and_self,Bool.and_true]
      exact hc
     clear hc htk
     generalize ns[i]=x at *
     go_wp2_with fail
     go_roundw
     case rel=>exact⟨i+1,by omega,by go_num,HC3.out,HO.out,HG.out⟩
     case measure=>simp[intOf] <;> omega
    ·
     have im:most<(ns[i]:Int):=by omega
     have HF:=qa (ua 3 hc)
     have HE3:Hid ((if (if ((ns.take i).all fun x=>decide ((x:Int)≤most))=true then e1 else xd e1)=0 then (3:Int) else (if ((ns.take i).all fun x=>decide ((x:Int)≤most))=true then e1 else xd e1))=(if ((ns.take (i+1)).all fun x=>decide ((x:Int)≤most))=true then e1 else xd e1)):=by
      unfold Hid
      rw[htk,List.all_append,List.all_cons,List.all_nil,qr hm,Bool.false_and,Bool.and_false]
      rw[if_neg (show ¬(false=true) by decide)]
      split
      ·
       rfl
      ·
       exact qn1 e1
     rw[HE3.out] at HF
     clear hc htk HE3
     generalize ns[i]=x at *
     unfold cp at HF
     go_wp2_with fail
     refine HF.out.mono ?_
     rintro r w4 ⟨rfl,hc4,hg4⟩
     have HC4:=qa hc4
     have HG4:=qa (HG.out.trans hg4)
     have HO4:=qa (qfw HO.out hg4 hgl)
     clear hc4 hg4 HF HO HG
     go_wp2_with fail
     go_roundw
     case rel=>exact⟨i+1,by omega,by go_num,HC4.out,HO4.out,HG4.out⟩
     case measure=>simp[intOf] <;> omega
   ·
    have ik:¬(i:Int)<(ns.length:Int):=by omega
    have hti:ns.take i=ns:=qo (by omega)
    rw[hti] at hc
    obtain⟨e2,he2⟩:∃e2,(if (ns.all fun x=>decide ((x:Int)≤most))=true then e1 else xd e1)=e2:=⟨_,rfl⟩
    have hn:=HN.out
    rw[he2] at hc hn
    have HC:=qa hc
    have HGD:=qa (xx hc)
    unfold cp at HGD
    clear hc ho hg he2 HN
    by_cases h0:e2=0
    ·
     subst h0
     rw[if_pos rfl] at hn
     subst hn
     have b0:((0:Int)==0)=true:=rfl
     rw[b0] at HGD
     go_wp2_with fail
     refine HGD.out.mono ?_
     rintro r w' ⟨rfl,rfl⟩
     go_wp2_with fail
     go_ret
     exact⟨_,_,rfl,HO.out,HC.out,HG.out⟩
    ·
     rw[if_neg h0] at hn
     subst hn
     have b0:(e2==0)=false:=by rw[q9];exact h0
     rw[b0] at HGD
     go_wp2_with fail
     refine HGD.out.mono ?_
     rintro r w' ⟨rfl,rfl⟩
     go_wp2_with fail
     go_ret
     exact⟨none,0,rfl,⟨rfl,.inl ⟨rfl,rfl⟩⟩,HC.out,HG.out⟩
theorem qjp{w:World}(l:List Bool){lo h':Nat}{A:Option Addr}{c:Nat}(h:Rd w lo h' A c (lv l)) :
  Calls Tryz.prog 191 #[.slice A l.length c] w fun r w'=>r= .returned (.int .i64 (cnt l:Int))∧w=w':=count_any l h
theorem fill_same{ys xs:List Value}{k:Nat}(h:qkc ys k xs)(j:Nat)(hj:k≤j)(u:Value):qkc ys k (xs.set j u):=by
 refine⟨by rw[jn];exact h.1,fun i hi => ?_⟩
 rw[List.getElem?_set_ne (by omega)]
 exact h.2 i hi
theorem spreadB_no{w:World}(there:List Bool){n m lo hi c d:Nat}{A B:Option Addr}(h:Rd w lo hi A c (lv there))(hn:there.length=n)(hm:m≠cnt there){v:Value} :
  Calls Tryz.prog 193 #[.slice A n c,.slice B m d,v] w fun r w'=>r= .returned (.slice none 0 0)∧w=w':=by
 subst hn
 have HC:=qa (qjp (w:=w) there h)
 have hq:¬(m:Int)=(cnt there:Int):=by omega
 have bq:((m:Int) != (cnt there:Int))=true:=by simpa using hq
 clear h
 go_enter Tryz.func193,Tryz.ntmps193
 go_wp2_with fail
 refine HC.out.mono ?_
 rintro r w' ⟨rfl,rfl⟩
 go_wp2_with fail
 go_ret
 exact⟨rfl,rfl⟩
theorem spreadB_yes{w:World}(there:List Bool)(xs:List Value){n m c d:Nat}{A B:Option Addr}(h:Rd w 0 w.heap.size A c (lv there))(hx:Rd w 0 w.heap.size B d xs)(hn:there.length=n)(hm:xs.length=m)(hmc:m=cnt there)(hk:n≤1000000)(h1:∀v∈xs,∃pA pn pc,v= .slice pA pn pc) :
  Calls Tryz.prog 193 #[.slice A n c,.slice B m d,Value.slice none 0 0] w fun r w'=>∃A' c',r= .returned (.slice A' n c')∧w'.ownsRow w.heap.size 36 1 (.slice A' n c') n (xz there xs (Value.slice none 0 0))∧Below w.heap.size w w':=by
 subst hn
 have HC:=qa (qjp (w:=w) there h)
 have bq:((m:Int) != (cnt there:Int))=false:=by rw[hmc];simp
 have HMC:=qa hmc
 have hcn:=qi2 there
 obtain⟨w1,hmake,ho1,hg1⟩:=make_parts w there.length (by omega)
 have HO1:=qa ho1
 have HB1:=qa (qb9 (qc _) hg1 (fun g hg=>by cases hg))
 obtain⟨T,hT⟩:∃T,xz there xs (Value.slice none 0 0)=T:=⟨_,rfl⟩
 have HTL:Hid (T.length=there.length):=by unfold Hid;rw[←hT,qb6]
 have HT0:Hid (∀k,there[k]? = some false→T[k]? = some (Value.slice none 0 0)):=fun k hk=>by rw[←hT];exact qgq _ _ _ hk
 have HT1:Hid (∀k,there[k]? = some true→cnt (there.take k)<xs.length∧T[k]? = xs[cnt (there.take k)]?):=fun k hk=>by
  obtain⟨j,e1,e2,e3⟩:=qhv there xs (Value.slice none 0 0) hk (by omega)
  rw[←hT,e1]
  exact⟨e2,e3⟩
 rw[hT]
 have H:=qa h
 have HX:=qa hx
 have H1:=qa h1
 have hl:=h.len
 have hcp:=h.cap
 rw[qau] at hl
 unfold maxLen at hcp
 clear h hx ho1 hg1 hT h1 hmc
 go_enter Tryz.func193,Tryz.ntmps193
 go_wp2_with fail
 refine HC.out.mono ?_
 rintro r w' ⟨rfl,rfl⟩
 go_wp2_with fail
 clear hmake HC bq
 go_loopw [1,20] (fun y x wr=>∃(k j:Nat) (zs:List Value) (B':Option Addr) (d':Nat),k≤there.length∧x= .int .i64 (k:Int)∧j=cnt (there.take k)∧j≤m∧y= .slice B' (m-j) d'∧Rd wr 0 w.heap.size B' d' (xs.drop j)∧
  wr.ownsRow w.heap.size 36 1 (.slice (some ⟨w.heap.size,0,none⟩) there.length there.length) there.length zs∧qkc T k zs∧Below w.heap.size w wr) (fun _ x _=>there.length-(intOf x).toNat)
 case atStart=>exact⟨0,0,_,B,d,qi _,rfl,by simp[cnt],qi _,rfl,by rw[jy];exact HX.out.below HB1.out (qc _),HO1.out,qd6 (by rw[HTL.out];simp),HB1.out⟩
 case round =>
  clear HO1 HB1 HX
  obtain⟨k,j,zs,B',d',hkk,rfl,hj,hjm,rfl,hrx,ho,hf,hb⟩:=hrel
  have HRX:=qa hrx
  have HO:=qa ho
  have HF:=qa hf
  have HB:=qa hb
  have HJ:=qa hj
  have hsz:=hb.size
  clear hrx ho hf hb hj
  by_cases hlt:k<there.length
  ·
   have ik:(k:Int)<(there.length:Int):=by omega
   obtain⟨b,off,rfl,_,hbl,hcell⟩:=(H.out.below HB.out (qc _)).row hlt
   have hct:=cnt_take there k hlt
   have htk:there[k]? = some there[k]:=qe hlt
   have HT0k:=qa (fun h:there[k]=false=>HT0.out k (by rw[htk,h]))
   have HT1k:=qa (fun h:there[k]=true=>HT1.out k (by rw[htk,h]))
   have hfr:=HO.out.frozenAt k
   have hzk:k<zs.length:=by rw[HF.out.1,HTL.out];exact hlt
   have hzc:wr.cell? ⟨w.heap.size,k,none⟩=some zs[k]:=by
    rw[HO.out.cellAt k (by omega),qe hzk]
   have HST:=qa (World.ownsRow.stored HO.out k (Value.slice none 0 0))
   have HBS:=qa (HB.out.setCell (p:=⟨w.heap.size,k,none⟩) (qc _) (Value.slice none 0 0))
   have HRXS:=qa (HRX.out.setCell (p:=⟨w.heap.size,k,none⟩) (.inr (qc _)) (Value.slice none 0 0))
   clear htk
   generalize there[k]=q at *
   generalize zs[k]=z0 at *
   cases q with
   | false =>
    have HUS:=qa (qbe HF.out (Value.slice none 0 0) (HT0k.out rfl))
    go_wp2_with fail
    go_roundw
    case rel=>exact⟨k+1,j,_,B',d',by omega,by go_num,by rw[hct,←HJ.out];rfl,hjm,rfl,HRXS.out,HST.out.1,HUS.out,HBS.out⟩
    case measure=>simp[intOf];omega
   | true =>
    obtain⟨hjx,hTk⟩:=HT1k.out rfl
    rw[←HJ.out] at hjx hTk
    obtain⟨bx,ox,rfl,_,hbx,hcx⟩:=HRX.out.get (k:=0) (by rw[qy];omega)
    rw[List.getElem_drop,xj] at hcx
    simp only[xj] at hcx
    rw[qe hjx] at hTk
    obtain⟨pA,pn,pc,he⟩:=H1.out xs[j] (ql hjx)
    obtain⟨w4,hw4⟩:∃w4,wr.setCell ⟨w.heap.size,k,none⟩ (Value.slice none 0 0)=w4:=⟨_,rfl⟩
    rw[hw4] at HST HBS HRXS
    have hdl:=HRXS.out.len
    have hdc:=HRXS.out.cap
    rw[qy] at hdl
    unfold maxLen at hdc
    have HCUT:Hid (Rd w4 0 w.heap.size (if d'=1 then some ⟨bx,ox,none⟩ else some ⟨bx,ox+1,none⟩) (d'-1) (xs.drop (j+1))):=by
     have:=HRXS.out.cut (k:=1) (n:=m-j) (by omega) (by rw[qy];omega)
     rw[jh,qo (by rw[qy];omega)] at this
     exact this
    have hcx4:w4.cell? ⟨bx,ox,none⟩=some xs[j]:=by
     rw[←hw4,World.cell?_setCell_other _ _ _ _ (by intro e;injection e with e1;omega)]
     exact hcx
    have hfr4:=HST.out.1.frozenAt k
    have hz4:w4.cell? ⟨w.heap.size,k,none⟩=some (Value.slice none 0 0):=by
     rw[HST.out.1.cellAt k (by omega),qdo hzk]
    have HST4:=qa (World.ownsRow.stored HST.out.1 k xs[j])
    have HBS4:=qa (HBS.out.setCell (p:=⟨w.heap.size,k,none⟩) (qc _) xs[j])
    have HRX4:=qa (HCUT.out.setCell (p:=⟨w.heap.size,k,none⟩) (.inr (qc _)) xs[j])
    have HUS:=qa (qbe (fill_same HF.out k (qc _) (Value.slice none 0 0)) xs[j] hTk)
    have HMJ:Hid (m-j-1=m-(j+1)):=by unfold Hid;omega
    rw[he] at hcx4 HST4 HBS4 HRX4 HUS
    clear HST HBS HRXS HCUT hcx hTk he HRX HO HF HB
    go_wp2_with fail
    go_region
    go_wp2_with fail
    go_roundw
    case rel=>exact⟨k+1,j+1,_,_,d'-1,by omega,by go_num,by rw[hct,←HJ.out];rfl,by omega,by rw[←HMJ.out],HRX4.out.drew,jv HST4.out.1 fun _ _=>rfl,HUS.out,HBS4.out.drew⟩
    case measure=>simp[intOf];omega
  ·
   have ik:¬(k:Int)<(there.length:Int):=by omega
   have hx:zs=T:=qfj HF.out (by rw[HTL.out];omega)
   subst hx
   go_wp2_with fail
   go_ret
   exact⟨_,_,rfl,HO.out,HB.out⟩
theorem spreadI_no{w:World}(there:List Bool){n m lo hi c d:Nat}{A B:Option Addr}(h:Rd w lo hi A c (lv there))(hn:there.length=n)(hm:m≠cnt there){v:Value} :
  Calls Tryz.prog 199 #[.slice A n c,.slice B m d,v] w fun r w'=>r= .returned (.slice none 0 0)∧w=w':=by
 subst hn
 have HC:=qa (qjp (w:=w) there h)
 have hq:¬(m:Int)=(cnt there:Int):=by omega
 have bq:((m:Int) != (cnt there:Int))=true:=by simpa using hq
 clear h
 go_enter Tryz.func199,Tryz.ntmps199
 go_wp2_with fail
 refine HC.out.mono ?_
 rintro r w' ⟨rfl,rfl⟩
 go_wp2_with fail
 go_ret
 exact⟨rfl,rfl⟩
theorem spreadI_yes{w:World}(there:List Bool)(xs:List Value){n m c d:Nat}{A B:Option Addr}(h:Rd w 0 w.heap.size A c (lv there))(hx:Rd w 0 w.heap.size B d xs)(hn:there.length=n)(hm:xs.length=m)(hmc:m=cnt there)(hk:n≤1000000)(h1:∀v∈xs,∃pz:Int,v= .int .i64 pz) :
  Calls Tryz.prog 199 #[.slice A n c,.slice B m d,Value.int .i64 (-1)] w fun r w'=>∃A' c',r= .returned (.slice A' n c')∧w'.ownsRow w.heap.size 3 1 (.slice A' n c') n (xz there xs (Value.int .i64 (-1)))∧Below w.heap.size w w':=by
 subst hn
 have HC:=qa (qjp (w:=w) there h)
 have bq:((m:Int) != (cnt there:Int))=false:=by rw[hmc];simp
 have HMC:=qa hmc
 have hcn:=qi2 there
 obtain⟨w1,hmake,ho1,hg1⟩:=qje w there.length (by omega)
 have HO1:=qa ho1
 have HB1:=qa (qb9 (qc _) hg1 (fun g hg=>by cases hg))
 obtain⟨T,hT⟩:∃T,xz there xs (Value.int .i64 (-1))=T:=⟨_,rfl⟩
 have HTL:Hid (T.length=there.length):=by unfold Hid;rw[←hT,qb6]
 have HT0:Hid (∀k,there[k]? = some false→T[k]? = some (Value.int .i64 (-1))):=fun k hk=>by rw[←hT];exact qgq _ _ _ hk
 have HT1:Hid (∀k,there[k]? = some true→cnt (there.take k)<xs.length∧T[k]? = xs[cnt (there.take k)]?):=fun k hk=>by
  obtain⟨j,e1,e2,e3⟩:=qhv there xs (Value.int .i64 (-1)) hk (by omega)
  rw[←hT,e1]
  exact⟨e2,e3⟩
 rw[hT]
 have H:=qa h
 have HX:=qa hx
 have H1:=qa h1
 have hl:=h.len
 have hcp:=h.cap
 rw[qau] at hl
 unfold maxLen at hcp
 clear h hx ho1 hg1 hT h1 hmc
 go_enter Tryz.func199,Tryz.ntmps199
 go_wp2_with fail
 refine HC.out.mono ?_
 rintro r w' ⟨rfl,rfl⟩
 go_wp2_with fail
 clear hmake HC bq
 go_loopw [1,20] (fun y x wr=>∃(k j:Nat) (zs:List Value) (B':Option Addr) (d':Nat),k≤there.length∧x= .int .i64 (k:Int)∧j=cnt (there.take k)∧j≤m∧y= .slice B' (m-j) d'∧Rd wr 0 w.heap.size B' d' (xs.drop j)∧
  wr.ownsRow w.heap.size 3 1 (.slice (some ⟨w.heap.size,0,none⟩) there.length there.length) there.length zs∧qkc T k zs∧Below w.heap.size w wr) (fun _ x _=>there.length-(intOf x).toNat)
 case atStart=>exact⟨0,0,_,B,d,qi _,rfl,by simp[cnt],qi _,rfl,by rw[jy];exact HX.out.below HB1.out (qc _),HO1.out,qd6 (by rw[HTL.out];simp),HB1.out⟩
 case round =>
  clear HO1 HB1 HX
  obtain⟨k,j,zs,B',d',hkk,rfl,hj,hjm,rfl,hrx,ho,hf,hb⟩:=hrel
  have HRX:=qa hrx
  have HO:=qa ho
  have HF:=qa hf
  have HB:=qa hb
  have HJ:=qa hj
  have hsz:=hb.size
  clear hrx ho hf hb hj
  by_cases hlt:k<there.length
  ·
   have ik:(k:Int)<(there.length:Int):=by omega
   obtain⟨b,off,rfl,_,hbl,hcell⟩:=(H.out.below HB.out (qc _)).row hlt
   have hct:=cnt_take there k hlt
   have htk:there[k]? = some there[k]:=qe hlt
   have HT0k:=qa (fun h:there[k]=false=>HT0.out k (by rw[htk,h]))
   have HT1k:=qa (fun h:there[k]=true=>HT1.out k (by rw[htk,h]))
   have hfr:=HO.out.frozenAt k
   have hzk:k<zs.length:=by rw[HF.out.1,HTL.out];exact hlt
   have hzc:wr.cell? ⟨w.heap.size,k,none⟩=some zs[k]:=by
    rw[HO.out.cellAt k (by omega),qe hzk]
   have HST:=qa (World.ownsRow.stored HO.out k (Value.int .i64 (-1)))
   have HBS:=qa (HB.out.setCell (p:=⟨w.heap.size,k,none⟩) (qc _) (Value.int .i64 (-1)))
   have HRXS:=qa (HRX.out.setCell (p:=⟨w.heap.size,k,none⟩) (.inr (qc _)) (Value.int .i64 (-1)))
   clear htk
   generalize there[k]=q at *
   generalize zs[k]=z0 at *
   cases q with
   | false =>
    have HUS:=qa (qbe HF.out (Value.int .i64 (-1)) (HT0k.out rfl))
    go_wp2_with fail
    go_roundw
    case rel=>exact⟨k+1,j,_,B',d',by omega,by go_num,by rw[hct,←HJ.out];rfl,hjm,rfl,HRXS.out,HST.out.1,HUS.out,HBS.out⟩
    case measure=>simp[intOf];omega
   | true =>
    obtain⟨hjx,hTk⟩:=HT1k.out rfl
    rw[←HJ.out] at hjx hTk
    obtain⟨bx,ox,rfl,_,hbx,hcx⟩:=HRX.out.get (k:=0) (by rw[qy];omega)
    rw[List.getElem_drop,xj] at hcx
    simp only[xj] at hcx
    rw[qe hjx] at hTk
    obtain⟨pz,he⟩:=H1.out xs[j] (ql hjx)
    obtain⟨w4,hw4⟩:∃w4,wr.setCell ⟨w.heap.size,k,none⟩ (Value.int .i64 (-1))=w4:=⟨_,rfl⟩
    rw[hw4] at HST HBS HRXS
    have hdl:=HRXS.out.len
    have hdc:=HRXS.out.cap
    rw[qy] at hdl
    unfold maxLen at hdc
    have HCUT:Hid (Rd w4 0 w.heap.size (if d'=1 then some ⟨bx,ox,none⟩ else some ⟨bx,ox+1,none⟩) (d'-1) (xs.drop (j+1))):=by
     have:=HRXS.out.cut (k:=1) (n:=m-j) (by omega) (by rw[qy];omega)
     rw[jh,qo (by rw[qy];omega)] at this
     exact this
    have hcx4:w4.cell? ⟨bx,ox,none⟩=some xs[j]:=by
     rw[←hw4,World.cell?_setCell_other _ _ _ _ (by intro e;injection e with e1;omega)]
     exact hcx
    have hfr4:=HST.out.1.frozenAt k
    have hz4:w4.cell? ⟨w.heap.size,k,none⟩=some (Value.int .i64 (-1)):=by
     rw[HST.out.1.cellAt k (by omega),qdo hzk]
    have HST4:=qa (World.ownsRow.stored HST.out.1 k xs[j])
    have HBS4:=qa (HBS.out.setCell (p:=⟨w.heap.size,k,none⟩) (qc _) xs[j])
    have HRX4:=qa (HCUT.out.setCell (p:=⟨w.heap.size,k,none⟩) (.inr (qc _)) xs[j])
    have HUS:=qa (qbe (fill_same HF.out k (qc _) (Value.int .i64 (-1))) xs[j] hTk)
    have HMJ:Hid (m-j-1=m-(j+1)):=by unfold Hid;omega
    rw[he] at hcx4 HST4 HBS4 HRX4 HUS
    clear HST HBS HRXS HCUT hcx hTk he HRX HO HF HB
    go_wp2_with fail
    go_region
    go_wp2_with fail
    go_roundw
    case rel=>exact⟨k+1,j+1,_,_,d'-1,by omega,by go_num,by rw[hct,←HJ.out];rfl,by omega,by rw[←HMJ.out],HRX4.out.drew,jv HST4.out.1 fun _ _=>rfl,HUS.out,HBS4.out.drew⟩
    case measure=>simp[intOf];omega
  ·
   have ik:¬(k:Int)<(there.length:Int):=by omega
   have hx:zs=T:=qfj HF.out (by rw[HTL.out];omega)
   subst hx
   go_wp2_with fail
   go_ret
   exact⟨_,_,rfl,HO.out,HB.out⟩
theorem vx.behind{w w':World}{lo g k B:Nat}{bs:List UInt8}{e:Int}(h:vx w lo g bs k e)(hb:Below B w w')(hg:g<B):vx w' lo g bs k e:=by
 obtain⟨A,c,hbk,hrd,hk,hl⟩:=h
 exact⟨A,c,hbk.below hb hg,hrd.below hb (by omega),hk,hl⟩
theorem dec_le{T:List (List UInt8)}{most:Int}(h0:0≤most):∀(m:Nat) (bs o:List UInt8) (n:Nat),bs.length≤m→(o.length:Int)≤most→((qey T most bs o n).1.length:Int)≤most
 | _,[],o,n,_,ho=>by rw[dec_nil];exact ho
 | 0,x :: l,o,n,hm,_=>by simp at hm
 | m+1,x :: l,o,n,hm,ho=>by
  rw[qw] at hm
  by_cases hx:x=255
  ·
   subst hx
   cases l with
   | nil=>rw[dec_end];exact h0
   | cons y l =>
    rw[dec_lit]
    split
    ·
     exact h0
    ·
     rename_i hlt
     exact dec_le h0 m l _ _ (by rw[qw] at hm;omega) (by omega)
  ·
   cases ht:T[x.toNat]? with
   | none=>rw[dec_wrong l o n hx (List.getElem?_eq_none_iff.1 ht)];exact h0
   | some s =>
    rw[dec_sym l o n hx ht]
    split
    ·
     exact h0
    ·
     rename_i hlt
     exact dec_le h0 m l _ _ (by omega) (by omega)
theorem numsR_le(bs:List UInt8)(k:Nat)(e:Int)(n:Nat)(m:Int):∀x∈(uu bs k e n m).1,(x:Int)≤m:=by
 unfold uu
 simp only
 generalize qa4 bs k e (n:Int)=R
 generalize (if R.1.length=n then R.2.2 else xd R.2.2)=e1
 intro x hx
 by_cases h3:(R.1.all fun x=>decide ((x:Int)≤m))=true
 ·
  have hx2:x∈R.1:=by
   by_cases h4:(if (R.1.all fun x=>decide ((x:Int)≤m))=true then e1 else xd e1)=0
   ·
    rw[if_pos h4] at hx;exact hx
   ·
    rw[if_neg h4] at hx;cases hx
  exact of_decide_eq_true (List.all_eq_true.1 h3 x hx2)
 ·
  rw[if_neg h3,if_neg (xw _)] at hx
  cases hx
theorem takeR_le2(bs:List UInt8)(k:Nat)(e:Int)(skip n:Nat):(jo bs k e skip (n:Int)).1.length≤n:=by
 unfold jo
 repeat' split
 all_goals simp
 all_goals omega
theorem numsR_len(bs:List UInt8)(k:Nat)(e:Int)(n:Nat)(m:Int):(uu bs k e n m).1.length≤n:=by
 unfold uu
 simp only
 generalize qa4 bs k e (n:Int)=R
 by_cases h1:R.1.length=n
 ·
  by_cases h2:(if (R.1.all fun x=>decide ((x:Int)≤m))=true then (if R.1.length=n then R.2.2 else xd R.2.2) else xd (if R.1.length=n then R.2.2 else xd R.2.2))=0
  ·
   rw[if_pos h2];omega
  ·
   rw[if_neg h2];exact qi _
 ·
  rw[if_neg (c:=(if (R.1.all fun x=>decide ((x:Int)≤m))=true then (if R.1.length=n then R.2.2 else xd R.2.2) else xd (if R.1.length=n then R.2.2 else xd R.2.2))=0)]
  ·
   exact qi _
  ·
   rw[if_neg h1]
   split <;> exact xw _
theorem strs_small{t:List (List UInt8)}(h:y7 t=true):(yj t).length≤255∧∀s∈yj t,s.size≤8:=by
 obtain⟨h1,h2, -⟩:=uw.1 h
 refine⟨by rw[yv];exact h1,fun s hs => ?_⟩
 obtain⟨x,hx,rfl⟩:=zl.1 hs
 have:=(qfo.1 (h2 x hx)).2
 show x.toArray.size≤8
 simpa using this
theorem encoded_v{w:World}{T:List (List UInt8)}(hr:y7 T=true)(bs:List UInt8){n m c d:Nat}{A B:Option Addr}(h:Rd w 0 w.heap.size A c (sv (yj T)))(hb:Rd w 0 w.heap.size B d (bv bs))(hn:T.length=n)(hm:bs.length=m)(hl:bs.length≤1000000) :
  Calls Tryz.prog 192 #[.slice A n c,.slice B m d] w fun r w'=>r= .returned (.bool (qfk T bs))∧Below w.heap.size w w':=by
 subst hn hm
 obtain⟨h5,h8⟩:=strs_small hr
 have HD:=qa (qp2 (w:=w) (yj T) h8 h5 bs hl 4096 (by omega) (by omega) h hb)
 rw[yv,kx] at HD
 obtain⟨k,hk⟩:∃k,qfk T bs=k:=⟨_,rfl⟩
 rw[hk]
 have hle:=dec_le (T:=T) (most:=4096) (by omega) bs.length bs [] 0 (qc _) (by simp)
 unfold qfk at hk
 generalize qey T 4096 bs [] 0=D at *
 obtain⟨s,e,q⟩:=D
 simp only at HD hk hle
 obtain⟨x,hx⟩:∃x:ByteArray,x=⟨s.toArray⟩:=⟨_,rfl⟩
 have hxl:x.data.toList=s:=by rw[hx]
 have hxs:x.size≤4096:=by
  have h1:x.data.size=x.size:=rfl
  rw[←hxl,jt] at hle
  omega
 have HE:Hid (∀W,Below w.heap.size w W→Calls Tryz.prog 206 #[.slice A T.length c,.string x] W fun r w'=>∃A' c',r= .returned (.slice A' (kn T s).length c')∧w'.ownsRow W.heap.size 5 1 (.slice A' (kn T s).length c') (kn T s).length (bv (kn T s))∧Below W.heap.size W w'):=fun W hW=>by
  have:=qp1 (w:=W) (c:=c) (A:=A) (yj T) x ((h.below hW (qc _)).wide (qc _) hW.size) (by rw[kx];exact hr) (by omega)
  rw[yv,kx,hxl] at this
  exact this
 rw[←hx] at HD
 have HB:Hid (∀W,Below w.heap.size w W→Rd W 0 W.heap.size B d (bv bs)):=fun W hW=>(hb.below hW (qc _)).wide (qc _) hW.size
 have HK:=qa hk
 clear h hb hx hxl hle hk h8
 generalize kn T s=E at *
 go_enter Tryz.func192,Tryz.ntmps192
 go_wp2_with fail
 refine HD.out.mono ?_
 rintro r w1 ⟨rfl,hb1⟩
 have HB1:=qa hb1
 have hs1:=hb1.size
 clear hb1 HD
 by_cases he:e=0
 ·
  subst he
  have HE1:=qa (HE.out w1 HB1.out)
  go_wp2_with fail
  refine HE1.out.mono ?_
  rintro r w2 ⟨A2,c2,rfl,ho2,hb2⟩
  have HB2:=qa (zo HB1.out hb2 hs1)
  have HQ:=qa (equal_any (w:=w2) E bs (Rd.of_own ho2) (HB.out w2 HB2.out))
  have hk:decide (E=bs)=k:=by rw[←HK.out];simp
  rw[hk] at HQ
  clear ho2 hb2 HE1 hk HK
  go_wp2_with fail
  refine HQ.out.mono ?_
  rintro r w' ⟨rfl,rfl⟩
  go_wp2_with fail
  go_ret
  exact⟨rfl,HB2.out⟩
 ·
  have ie:¬(e:Int)=0:=by omega
  have be:((e:Int)==0)=false:=by rw[q9];exact ie
  have hk:k=false:=by rw[←HK.out];simp[he]
  subst hk
  go_wp2_with fail
  go_ret
  exact⟨rfl,HB1.out⟩
def EncC(T:List (List UInt8)):Prop:=∀ {w:World},y7 T=true→∀(bs:List UInt8) {n m c d:Nat} {A B:Option Addr},Rd w 0 w.heap.size A c (sv (yj T))→Rd w 0 w.heap.size B d (bv bs)→T.length=n→bs.length=m→bs.length≤1000000→
  Calls Tryz.prog 192 #[.slice A n c,.slice B m d] w fun r w'=>r= .returned (.bool (qfk T bs))∧Below w.heap.size w w'
theorem qpg{w:World}{lo g G k n0 n3 c0 c3:Nat}{bs:List UInt8}{e:Int}(kd:Nat)(there:List Bool)(T:List (List UInt8))(most:Int)(ok:List UInt8→Bool){A0 A3:Option Addr}{v2 v4 v5:Value}(h:vx w lo g bs k e)(hb:bs.length≤1000000000)(hgG:g<G)
  (hG:yy w G 184 #[.int .i64 (kd:Int),.slice A0 n0 c0,v2,.slice A3 n3 c3,v4,v5]) (ht:Rd w (g+1) w.heap.size A0 c0 (lv there)) (hn0:there.length=n0) (ht4:n0≤4096)
  (hk:(kd=1∧ok=fun _=>true)∨(kd=2∧ok=qfk T∧y7 T=true∧T.length=n3∧Rd w (g+1) w.heap.size A3 c3 (sv (yj T))))
  (henc:kd=2→EncC T) (hmost:most≤1000000) :
  Calls Tryz.prog 165 #[.pointer (some ⟨G,0,none⟩),cp g,.int .i64 most] w fun r w'=>∃A n c,r= .returned (.slice A n c)∧vx w' lo g bs (qbo bs k e (cnt there) most ok).2.1 (qbo bs k e (cnt there) most ok).2.2∧w.grownBy w' (some g)∧
   ((qbo bs k e (cnt there) most ok).1.length=cnt there→n=there.length∧∃ps,qma ps=(qbo bs k e (cnt there) most ok).1∧Rd w' w.heap.size w'.heap.size A c (xz there (pv ps) (.slice none 0 0))∧qqc w' w.heap.size w'.heap.size ps):=by
 have henc:Hid (kd=2→EncC T):=henc
 have hgl:=h.lt
 have hGl:=hG.lt
 have b1:=hG.cell 1
 have HBX:Hid (∀W,w.grownBy W (some g)→yy W G 184 #[.int .i64 (kd:Int),.slice A0 n0 c0,v2,.slice A3 n3 c3,v4,v5]):=fun W hW=>hG.grown hW (by intro e;injection e with e;omega)
 have HTH:Hid (∀W,w.grownBy W (some g)→Rd W 0 W.heap.size A0 c0 (lv there)):=fun W hW=>(ht.grown hW (qc _) (fun q hq=>by cases hq;exact .inl (by omega))).wide (qi _) hW.size
 have HTB:Hid (∀W,w.grownBy W (some g)→kd=2→Rd W 0 W.heap.size A3 c3 (sv (yj T))∧y7 T=true∧T.length=n3∧ok=qfk T):=fun W hW h2=>by
  rcases hk with ⟨h1,_⟩ | ⟨_,h3,h4,h5,h6⟩
  ·
   omega
  ·
   exact⟨(h6.grown hW (qc _) (fun q hq=>by cases hq;exact .inl (by omega))).wide (qi _) hW.size,h4,h5,h3⟩
 have HK1:Hid (¬kd=2→ok=fun _=>true):=fun h2=>by
  rcases hk with ⟨_,h1⟩ | ⟨h1,_⟩
  ·
   exact h1
  ·
   exact absurd h1 h2
 have HC0:=qa (qjp (w:=w) there (ht.wide (qi _) (qc _)))
 rw[hn0] at HC0
 have hcl:=qi2 there
 have HTN:=qa (qmh (cnt there) most h (by omega))
 unfold qbo
 obtain⟨⟨ns,p,e1⟩,hS⟩:∃S,uu bs k e (cnt there) most=S:=⟨_,rfl⟩
 rw[hS] at HTN ⊢
 simp only at HTN ⊢
 have HNS:Hid (∀i (hi:i<ns.length),(ns[i]:Int)≤1000000):=fun i hi=>by
  have h1:=congrArg (fun q=>q.1) hS
  simp only at h1
  have h2:=numsR_le bs k e (cnt there) most ns[i] (by rw[h1];exact ql hi)
  omega
 obtain⟨F,hF⟩:∃F,qea bs ok ns p e1=F:=⟨_,rfl⟩
 rw[hF]
 have HF:=qa hF
 have HN0:=qa hn0
 have hnl:ns.length≤4096:=by
  have h1:=congrArg (fun q=>q.1) hS
  simp only at h1
  rw[←h1]
  exact zb (numsR_len ..) (by omega)
 clear h hG ht hk hS hF hn0
 unfold cp at *
 go_enter Tryz.func165,Tryz.ntmps165
 go_wp2_with fail
 refine HC0.out.mono ?_
 rintro r w' ⟨rfl,rfl⟩
 go_wp2_with fail
 refine HTN.out.mono ?_
 rintro r w1 ⟨A1,c1,rfl,ho1,hc1,hg1⟩
 have HR1:=qa (Rd.of_own ho1)
 have HC1:=qa hc1
 have HG1:=qa hg1
 have hs1:=hg1.size
 clear ho1 hc1 hg1 HTN HC0 b1
 go_wp2_with fail
 go_loopw [7,20] (fun y x wr=>∃(i q:Nat) (e2:Int) (ps:List Part) (A':Option Addr) (c':Nat),i≤ns.length∧x= .int .i64 (i:Int)∧y= .slice A' i c'∧F=(qma ps++(qea bs ok (ns.drop i) q e2).1,(qea bs ok (ns.drop i) q e2).2)∧
  PR wr w1.heap.size (.slice A' i c') i ps∧Rd wr w.heap.size w1.heap.size A1 c1 (iv (z8 ns))∧vx wr lo g bs q e2∧w.grownBy wr (some g)∧w1.heap.size≤wr.heap.size) (fun _ x _=>ns.length-(intOf x).toNat)
 case atStart=>exact⟨0,p,e1,[],none,0,qi _,rfl,rfl,by rw[jy,HF.out];rfl,PR.nil _ _,HR1.out,HC1.out,HG1.out,qc _⟩
 case round =>
  clear HR1 HC1 HG1 HF
  obtain⟨i,q,e2,ps,A',c',hi,rfl,rfl,hFe,hp,hr,hc,hg,hsw⟩:=hrel
  have HFE:=qa hFe
  have HP:=qa hp
  have HR:=qa hr
  have HC:=qa hc
  have HG:=qa hg
  have hsg:=hg.size
  clear hFe hp hc
  by_cases hlt:i<ns.length
  ·
   have ik:(i:Int)<(ns.length:Int):=by omega
   obtain⟨b,off,rfl,_,hbl,hcell⟩:=hr.num (k:=i) (by rw[zu];exact hlt)
   have hxi:(z8 ns)[i]'(by rw[zu];exact hlt)=(ns[i]:Int):=by simp[z8]
   rw[hxi] at hcell
   have hdr:ns.drop i=ns[i] :: ns.drop (i+1):=jc hlt
   rw[hdr] at HFE
   clear hxi hdr hr
   have HZM:=qa (HNS.out i hlt)
   generalize ns[i]=z at *
   have HB:=qa (qe8 (z:Int) HC.out (by omega))
   have HTL:Hid ((jo bs q e2 0 (z:Int)).1.length≤1000000):=zb (takeR_le2 bs q e2 0 z) (by have:=HZM.out;omega)
   have HFE2:Hid (F=(qma ps++((jo bs q e2 0 (z:Int)).1 :: (qea bs ok (ns.drop (i+1)) (jo bs q e2 0 (z:Int)).2.1 (if ok (jo bs q e2 0 (z:Int)).1=true then (jo bs q e2 0 (z:Int)).2.2 else xd (jo bs q e2 0 (z:Int)).2.2)).1),(qea bs ok (ns.drop (i+1)) (jo bs q e2 0 (z:Int)).2.1 (if ok (jo bs q e2 0 (z:Int)).1=true then (jo bs q e2 0 (z:Int)).2.2 else xd (jo bs q e2 0 (z:Int)).2.2)).2)):=HFE.out
   obtain⟨⟨t,q3,e3⟩,hT⟩:∃t,jo bs q e2 0 (z:Int)=t:=⟨_,rfl⟩
   rw[hT] at HB HTL HFE2
   simp only at HB HTL HFE2
   obtain⟨e4,he4⟩:∃e4,(if ok t=true then e3 else xd e3)=e4:=⟨_,rfl⟩
   rw[he4] at HFE2
   have HE4:=qa he4
   clear hT he4 HFE
   unfold cp at HB
   go_wp2_with fail
   refine HB.out.mono ?_
   rintro r w5 ⟨A5,c5,rfl,ho5,hc5,hg5⟩
   have HO5:=qa ho5
   have HC5:=qa hc5
   have HP5:=qa (HP.out.cur hg5 (by omega))
   have HR5:=qa (HR.out.grown hg5 (by omega) (fun r hr=>by cases hr;exact .inl hgl))
   have HG5:=qa (HG.out.trans hg5)
   have hs5:=hg5.size
   have hrd5:=Rd.of_own ho5
   have HZ5:Hid (0<t.length→∀b off,A5=some ⟨b,off,none⟩→(Value.slice A' i c').ownBlock≠some b):=HP.out.fresh hrd5
   have HD5:=qa (hrd5.wide (show w1.heap.size≤wr.heap.size from hsw) (qc w5.heap.size))
   have HB5:=qa (HBX.out w5 HG5.out)
   have hb0:=HB5.out.cell 0
   have hb3:=HB5.out.cell 3
   simp only[jg,zq,zv] at hb0 hb3
   clear ho5 hc5 hg5 HB HP HR HC hrd5
   by_cases h2:kd=2
   ·
    have h2':(kd:Int)=2:=by omega
    rw[h2'] at hb0
    obtain⟨htr,htt,htl,hok⟩:=HTB.out w5 HG5.out h2
    have HEN:=qa (henc.out h2 (w:=w5) htt t (n:=n3) (m:=t.length) htr ((HD5.out).wide (qi _) (qc _)) htl rfl (by have:=HTL.out;omega))
    have HOK:Hid (ok t=qfk T t):=by unfold Hid;rw[hok]
    obtain⟨f,hf⟩:∃f,qfk T t=f:=⟨_,rfl⟩
    rw[hf] at HEN HOK
    clear htr htt htl hok hf
    go_wp2_with fail
    refine HEN.out.mono ?_
    rintro r w6 ⟨rfl,hb6⟩
    have HC6':=qa (HC5.out.behind hb6 HC5.out.lt)
    have HP6:=qa (HP5.out.below hb6 (qc _))
    have HR6:=qa (HR5.out.below hb6 (by omega))
    have HG6:Hid (w.grownBy w6 (some g)):=HG5.out.trans (qlb hb6)
    have HD6:=qa ((HD5.out.below hb6 (qc _)).wide (qc _) hb6.size)
    have hs6:=hb6.size
    clear hb6 HC5 HP5 HR5 HG5 HD5 HB5 HEN
    cases f with
    | true =>
     have HC6:Hid (vx w6 lo g bs q3 e4):=by unfold Hid;rw[←HE4.out,if_pos HOK.out];exact HC6'.out
     clear HC6'
     obtain⟨qq,hqq⟩:∃p:Part,p=⟨A5,c5,t⟩:=⟨_,rfl⟩
     have HQ:=qa hqq
     have HRQ:Hid (Rd (w6.alloc (.cells #[.slice A5 t.length c5] 36)) w1.heap.size (w6.alloc (.cells #[.slice A5 t.length c5] 36)).heap.size qq.A qq.c (bv qq.bs)):=by
      unfold Hid
      rw[hqq]
      exact(HD6.out.alloc (qc _) _).wide (qc _) (by simp)
     have HZA:Hid (0<qq.bs.length→∀b off,qq.A=some ⟨b,off,none⟩→(Value.slice A' i c').ownBlock≠some b):=by
      unfold Hid
      rw[hqq]
      exact HZ5.out
     have HPA:=qa (HP6.out.alloc (.cells #[.slice A5 t.length c5] 36))
     have HRA:=qa (HR6.out.alloc (by omega) (.cells #[.slice A5 t.length c5] 36))
     have HGA:=qa (ku HG6.out (.cells #[.slice A5 t.length c5] 36))
     have HCA:Hid (vx (w6.alloc (.cells #[.slice A5 t.length c5] 36)) lo g bs q3 e4):=HC6.out.grown (row:=none) (by exact ku (vg _ _) _) (by simp)
     clear hqq HP6 HR6 HG6 HC6 HD6 HZ5
     go_wp2_with (at_builtin;refine qdi (v:= .slice A' i c') w1.heap.size ps qq rfl _ _ rfl rfl rfl rfl (by rw[HQ.out,zg _ _ _ _ rfl];rfl) HPA.out HRQ.out HZA.out (by omega) (by simp;omega) ?_;intro A7 c7 w7 hp7 hg7;refine qam ?_)
     have hq7:∀b,(Value.slice A' i c').ownBlock=some b→w1.heap.size≤b:=fun b hb=>(zk HPA.out.own hb).1
     have HG7:Hid (w.grownBy w7 (some g)):=qng HGA.out hg7 (fun b hb=>zb hs1 (hq7 b hb))
     have HC7:=qa (HCA.out.grown hg7 (fun b hb=> .inr (zn (zn hgl hs1) (hq7 b hb))))
     have HR7:=qa (HRA.out.grown hg7 (by simp;omega) (fun b hb=> .inr (hq7 b hb)))
     have HP7:=qa hp7
     have hs7:=hg7.size
     have HF7:Hid (F=(qma (ps++[qq])++(qea bs ok (ns.drop (i+1)) q3 e4).1,(qea bs ok (ns.drop (i+1)) q3 e4).2)):=by
      unfold Hid
      rw[HFE2.out,HQ.out]
      simp[qma]
     have hs67:w1.heap.size≤w7.heap.size:=zb (by simp;omega) hs7
     clear hp7 hg7 hs7 HPA HRQ HZA HGA HCA HRA hq7
     refine⟨?_⟩
     go_wp2_with fail
     go_roundw
     case rel=>exact⟨i+1,q3,e4,ps++[qq],A7,c7,by omega,by go_num,rfl,HF7.out,HP7.out,HR7.out,HC7.out,HG7.out,hs67⟩
     case measure=>simp[intOf] <;> omega
    | false =>
     have hen:ok t=false:=HOK.out
     have HF6:=qa (ua 3 HC6'.out)
     unfold cp at HF6
     go_wp2_with fail
     refine HF6.out.mono ?_
     rintro r w8 ⟨rfl,hc8,hg8⟩
     have HC8:Hid (vx w8 lo g bs q3 e4):=by unfold Hid;rw[←HE4.out,if_neg (by rw[hen];decide)];exact hc8
     have HP8:=qa (HP6.out.cur hg8 (by omega))
     have HR8:=qa (HR6.out.grown hg8 (by omega) (fun r hr=>by cases hr;exact .inl hgl))
     have HG8:=qa (HG6.out.trans hg8)
     have HD8:=qa ((HD6.out.grown hg8 (qc _) (fun r hr=>by cases hr;exact .inl (by omega))).wide (qc _) hg8.size)
     have hs8:=hg8.size
     clear hc8 hg8 HP6 HR6 HG6 HD6 HC6' HF6
     obtain⟨qq,hqq⟩:∃p:Part,p=⟨A5,c5,t⟩:=⟨_,rfl⟩
     have HQ:=qa hqq
     have HRQ:Hid (Rd (w8.alloc (.cells #[.slice A5 t.length c5] 36)) w1.heap.size (w8.alloc (.cells #[.slice A5 t.length c5] 36)).heap.size qq.A qq.c (bv qq.bs)):=by
      unfold Hid
      rw[hqq]
      exact(HD8.out.alloc (qc _) _).wide (qc _) (by simp)
     have HZA:Hid (0<qq.bs.length→∀b off,qq.A=some ⟨b,off,none⟩→(Value.slice A' i c').ownBlock≠some b):=by
      unfold Hid
      rw[hqq]
      exact HZ5.out
     have HPA:=qa (HP8.out.alloc (.cells #[.slice A5 t.length c5] 36))
     have HRA:=qa (HR8.out.alloc (by omega) (.cells #[.slice A5 t.length c5] 36))
     have HGA:=qa (ku HG8.out (.cells #[.slice A5 t.length c5] 36))
     have HCA:Hid (vx (w8.alloc (.cells #[.slice A5 t.length c5] 36)) lo g bs q3 e4):=HC8.out.grown (row:=none) (by exact ku (vg _ _) _) (by simp)
     clear hqq HP8 HR8 HG8 HC8 HD8 HZ5
     go_wp2_with (at_builtin;refine qdi (v:= .slice A' i c') w1.heap.size ps qq rfl _ _ rfl rfl rfl rfl (by rw[HQ.out,zg _ _ _ _ rfl];rfl) HPA.out HRQ.out HZA.out (by omega) (by simp;omega) ?_;intro A7 c7 w7 hp7 hg7;refine qam ?_)
     have hq7:∀b,(Value.slice A' i c').ownBlock=some b→w1.heap.size≤b:=fun b hb=>(zk HPA.out.own hb).1
     have HG7:Hid (w.grownBy w7 (some g)):=qng HGA.out hg7 (fun b hb=>zb hs1 (hq7 b hb))
     have HC7:=qa (HCA.out.grown hg7 (fun b hb=> .inr (zn (zn hgl hs1) (hq7 b hb))))
     have HR7:=qa (HRA.out.grown hg7 (by simp;omega) (fun b hb=> .inr (hq7 b hb)))
     have HP7:=qa hp7
     have hs7:=hg7.size
     have HF7:Hid (F=(qma (ps++[qq])++(qea bs ok (ns.drop (i+1)) q3 e4).1,(qea bs ok (ns.drop (i+1)) q3 e4).2)):=by
      unfold Hid
      rw[HFE2.out,HQ.out]
      simp[qma]
     have hs67:w1.heap.size≤w7.heap.size:=zb (by simp;omega) hs7
     clear hp7 hg7 hs7 HPA HRQ HZA HGA HCA HRA hq7
     refine⟨?_⟩
     go_wp2_with fail
     go_roundw
     case rel=>exact⟨i+1,q3,e4,ps++[qq],A7,c7,by omega,by go_num,rfl,HF7.out,HP7.out,HR7.out,HC7.out,HG7.out,hs67⟩
     case measure=>simp[intOf] <;> omega
   ·
    have h2':¬(kd:Int)=2:=by omega
    have h2b:((kd:Int)==2)=false:=by rw[q9];exact h2'
    have HC6:Hid (vx w5 lo g bs q3 e4):=by unfold Hid;rw[←HE4.out,if_pos (by rw[HK1.out h2])];exact HC5.out
    have HP6:=qa HP5.out
    have HR6:=qa HR5.out
    have HG6:=qa HG5.out
    have HD6:=qa HD5.out
    clear HC5 HP5 HR5 HG5 HD5 HB5
    obtain⟨qq,hqq⟩:∃p:Part,p=⟨A5,c5,t⟩:=⟨_,rfl⟩
    have HQ:=qa hqq
    have HRQ:Hid (Rd (w5.alloc (.cells #[.slice A5 t.length c5] 36)) w1.heap.size (w5.alloc (.cells #[.slice A5 t.length c5] 36)).heap.size qq.A qq.c (bv qq.bs)):=by
     unfold Hid
     rw[hqq]
     exact(HD6.out.alloc (qc _) _).wide (qc _) (by simp)
    have HZA:Hid (0<qq.bs.length→∀b off,qq.A=some ⟨b,off,none⟩→(Value.slice A' i c').ownBlock≠some b):=by
     unfold Hid
     rw[hqq]
     exact HZ5.out
    have HPA:=qa (HP6.out.alloc (.cells #[.slice A5 t.length c5] 36))
    have HRA:=qa (HR6.out.alloc (by omega) (.cells #[.slice A5 t.length c5] 36))
    have HGA:=qa (ku HG6.out (.cells #[.slice A5 t.length c5] 36))
    have HCA:Hid (vx (w5.alloc (.cells #[.slice A5 t.length c5] 36)) lo g bs q3 e4):=HC6.out.grown (row:=none) (by exact ku (vg _ _) _) (by simp)
    clear hqq HP6 HR6 HG6 HC6 HD6 HZ5
    go_wp2_with (at_builtin;refine qdi (v:= .slice A' i c') w1.heap.size ps qq rfl _ _ rfl rfl rfl rfl (by rw[HQ.out,zg _ _ _ _ rfl];rfl) HPA.out HRQ.out HZA.out (by omega) (by simp;omega) ?_;intro A7 c7 w7 hp7 hg7;refine qam ?_)
    have hq7:∀b,(Value.slice A' i c').ownBlock=some b→w1.heap.size≤b:=fun b hb=>(zk HPA.out.own hb).1
    have HG7:Hid (w.grownBy w7 (some g)):=qng HGA.out hg7 (fun b hb=>zb hs1 (hq7 b hb))
    have HC7:=qa (HCA.out.grown hg7 (fun b hb=> .inr (zn (zn hgl hs1) (hq7 b hb))))
    have HR7:=qa (HRA.out.grown hg7 (by simp;omega) (fun b hb=> .inr (hq7 b hb)))
    have HP7:=qa hp7
    have hs7:=hg7.size
    have HF7:Hid (F=(qma (ps++[qq])++(qea bs ok (ns.drop (i+1)) q3 e4).1,(qea bs ok (ns.drop (i+1)) q3 e4).2)):=by
     unfold Hid
     rw[HFE2.out,HQ.out]
     simp[qma]
    have hs67:w1.heap.size≤w7.heap.size:=zb (by simp;omega) hs7
    clear hp7 hg7 hs7 HPA HRQ HZA HGA HCA HRA hq7
    refine⟨?_⟩
    go_wp2_with fail
    go_roundw
    case rel=>exact⟨i+1,q3,e4,ps++[qq],A7,c7,by omega,by go_num,rfl,HF7.out,HP7.out,HR7.out,HC7.out,HG7.out,hs67⟩
    case measure=>simp[intOf] <;> omega
  ·
   have ik:¬(i:Int)<(ns.length:Int):=by omega
   have hie:i=ns.length:=by omega
   subst hie
   rw[List.drop_length] at HFE
   have hfe:=HFE.out
   simp only[qea,jb] at hfe
   subst hfe
   have HB5:=HBX.out wr HG.out
   have hb1:=HB5.cell 1
   simp only[jg,zq,zv] at hb1
   have hpl:=HP.out.len
   clear HB5
   by_cases hcn:ns.length=cnt there
   ·
    have HS:=qa (spreadB_yes (w:=wr) there (pv ps) (n:=n0) (m:=ns.length) (HTH.out wr HG.out) (HP.out.read.wide (qi _) (qc _)) HN0.out (by rw[qe5,hpl]) hcn (by omega) (fun v hv=>by
     obtain⟨p,_,rfl⟩:=zl.1 hv
     exact⟨_,_,_,rfl⟩))
    clear hpl hr hg hcn
    go_wp2_with fail
    refine HS.out.mono ?_
    rintro r w6 ⟨A6,c6,rfl,ho6,hb6⟩
    have HO6:=qa ho6
    have HB6:=qa hb6
    clear ho6 hb6 HS
    go_wp2_with fail
    go_ret
    exact⟨_,_,_,rfl,HC.out.behind HB6.out HC.out.lt,HG.out.trans (qlb HB6.out),fun _=>⟨HN0.out.symm,ps,rfl,(Rd.of_own HO6.out).wide (by omega) (qc _),(HP.out.rd.below HB6.out (qc _)).wide (by omega) HB6.out.size⟩⟩
   ·
    have HS:=qa (spreadB_no (w:=wr) there (n:=n0) (m:=ns.length) (B:=A') (d:=c') (v:= .slice none 0 0) (HTH.out wr HG.out) HN0.out hcn)
    have HCN:=qa hcn
    have HPL:=qa hpl
    clear hr hg hcn hpl
    go_wp2_with fail
    refine HS.out.mono ?_
    rintro r w' ⟨rfl,rfl⟩
    go_wp2_with fail
    go_ret
    exact⟨_,_,_,rfl,HC.out,HG.out,fun h=>absurd (by rw[qj9,HPL.out] at h;exact h) HCN.out⟩
theorem takeRaws_v{w:World}{lo g G k n0 n3 c0 c3:Nat}{bs:List UInt8}{e:Int}(kd:Nat)(there:List Bool)(T:List (List UInt8))(most:Int)(ok:List UInt8→Bool){A0 A3:Option Addr}{v2 v4 v5:Value}(h:vx w lo g bs k e)(hb:bs.length≤1000000000)(hgG:g<G)
  (hG:yy w G 184 #[.int .i64 (kd:Int),.slice A0 n0 c0,v2,.slice A3 n3 c3,v4,v5]) (ht:Rd w (g+1) w.heap.size A0 c0 (lv there)) (hn0:there.length=n0) (ht4:n0≤4096)
  (hk:(kd=1∧ok=fun _=>true)∨(kd=2∧ok=qfk T∧y7 T=true∧T.length=n3∧Rd w (g+1) w.heap.size A3 c3 (sv (yj T)))) (hmost:most≤1000000) :
  Calls Tryz.prog 165 #[.pointer (some ⟨G,0,none⟩),cp g,.int .i64 most] w fun r w'=>∃A n c,r= .returned (.slice A n c)∧vx w' lo g bs (qbo bs k e (cnt there) most ok).2.1 (qbo bs k e (cnt there) most ok).2.2∧w.grownBy w' (some g)∧
   ((qbo bs k e (cnt there) most ok).1.length=cnt there→n=there.length∧∃ps,qma ps=(qbo bs k e (cnt there) most ok).1∧Rd w' w.heap.size w'.heap.size A c (xz there (pv ps) (.slice none 0 0))∧qqc w' w.heap.size w'.heap.size ps) :=
 qpg kd there T most ok h hb hgG hG ht hn0 ht4 hk (fun _=>fun {w} hr bs {n m c d A B} h1 h2 h3 h4 h5=>encoded_v hr bs h1 h2 h3 h4 h5) hmost
end Go.Proofs.YtjfecojdagmacaaGreat
