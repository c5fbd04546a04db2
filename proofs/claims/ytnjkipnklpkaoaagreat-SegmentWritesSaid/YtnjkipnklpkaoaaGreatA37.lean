/-
  Lemmas.
-/
import Derived.Test.YtnjkipnklpkaoaaGreatA36
import Derived.Test.YtnjkipnklpkaoaaGreatA45
namespace Go.Proofs.YtnjkipnklpkaoaaGreat
open Go.RowKit
set_option maxRecDepth 20000
set_option maxHeartbeats 16000000
set_option linter.unusedSimpArgs false
set_option linter.unusedVariables false
theorem qoz{w:World}{l:List ByteArray}{kd bl ro:Int}{ds:List Int}{A B:Option Addr}{c d:Nat}(h:PayIn w l kd bl ro ds A B c d)(hk:1≤kd)(hf:l.length≤100)(hdr:ds.length≤60) :
  Calls Tryz.prog 77 #[.slice A l.length c,.agg #[.int .i64 kd,.int .i64 bl,.int .i64 ro,.slice B ds.length d]] w fun r w'=>∃A' c',r= .returned (.slice A' (yj l ⟨kd,bl,ro,ds⟩ kd).length c')∧
   w'.ownsRow w.heap.size 5 1 (.slice A' (yj l ⟨kd,bl,ro,ds⟩ kd).length c') (yj l ⟨kd,bl,ro,ds⟩ kd).length (bv (yj l ⟨kd,bl,ro,ds⟩ kd))∧Below w.heap.size w w':=by
 obtain⟨o1,o2,o3,o4,o5,o6,o7⟩:=h.ok
 simp only at o1 o2 o3 o4 o5 o6 o7
 have h3:kd=1∨kd=2∨kd=3:=by omega
 rcases h3 with rfl | rfl | rfl
 ·
  exact refPay1 l bl ro ds h.rd h.dr hf hdr h.size
 ·
  exact refPay2 l bl ro ds h.rd h.dr hf hdr h.size
 ·
  obtain⟨K,rfl⟩:∃K:Nat,bl=(K:Int):=⟨bl.toNat,by omega⟩
  exact refPay3 l K ro ds h.rd hf (by omega) (by omega) h.size
theorem refChosen_v{w:World}{l:List ByteArray}{kd bl ro:Int}{ds:List Int}{A B:Option Addr}{c d:Nat}(h:PayIn w l kd bl ro ds A B c d)(hf:l.length≤100)(hdr:ds.length≤60) :
  Calls Tryz.prog 76 #[.slice A l.length c,.agg #[.int .i64 kd,.int .i64 bl,.int .i64 ro,.slice B ds.length d]] w fun r w'=>r= .returned (.int .i64 (yu l ⟨kd,bl,ro,ds⟩))∧Below w.heap.size w w':=by
 obtain⟨w1,hw1⟩:∃w1,w.alloc (.cells #[.int .i64 kd,.int .i64 bl,.int .i64 ro,.slice B ds.length d] 76)=w1:=⟨_,rfl⟩
 have B1:Hid (Below w.heap.size w w1):=by unfold Hid;rw[←hw1];exact(Below.refl _ w).alloc (qc _) _
 have hs1:w1.heap.size=w.heap.size+1:=by rw[←hw1];simp
 have hbx:j6 w1 w.heap.size 76 #[.int .i64 kd,.int .i64 bl,.int .i64 ro,.slice B ds.length d]:=by rw[←hw1];exact j6.new w _ _
 have b0:w1.cell? ⟨w.heap.size,0,none⟩=some (.int .i64 kd):=hbx.cell 0
 have HBX:=qa hbx
 have HI:Hid (∀W (n:Int),Below w.heap.size w W→1≤n→n≤3→PayIn W l n bl ro ds A B c d):=fun W n hW h1 h2=>(h.on hW).kind (by omega) h2
 have HKD:Hid (kd≠0→yu l ⟨kd,bl,ro,ds⟩=kd):=fun h0=>by rw[yu,if_neg h0]
 have HKB:Hid (kd=0→yu l ⟨kd,bl,ro,ds⟩=qmb l ⟨kd,bl,ro,ds⟩):=fun h0=>by rw[yu,if_pos h0]
 obtain⟨o,ho⟩:∃o:Co,o=⟨kd,bl,ro,ds⟩:=⟨_,rfl⟩
 have HPK:Hid (∀n,yj l ⟨n,bl,ro,ds⟩ n=yj l o n):=fun n=>by rw[ho];exact qqa ..
 rw[←ho] at HKD HKB ⊢
 generalize yu l o=kk at *
 clear h hbx ho
 go_enter Tryz.func76,Tryz.ntmps76
 by_cases h0:kd=0
 ·
  subst h0
  have HKE:Hid (kk=qmb l o):=HKB.out rfl
  clear HKB HKD
  go_wp2_with fail
  clear hw1 b0
  go_loopw [5,6,7] (fun x5 x6 x7 wr=>∃(n:Nat) (b z kc:Int),1≤n∧n≤4∧x7= .int .i64 (n:Int)∧x5= .int .i64 b∧x6= .int .i64 z∧Hid (n=1→b=0)∧Hid (2≤n→b=ua l o n∧z=((yj l o (ua l o n)).length:Int))∧
   j6 wr w.heap.size 76 #[.int .i64 kc,.int .i64 bl,.int .i64 ro,.slice B ds.length d]∧Below w.heap.size w wr) (fun _ _ x7 _=>4-(intOf x7).toNat)
  case atStart=>exact⟨1,0,0,0,qc _,by omega,rfl,rfl,rfl,fun _=>rfl,fun h=>absurd h (by omega),HBX.out,B1.out⟩
  case round =>
   clear HBX
   obtain⟨n,b,z,kc,hn1,hn4,rfl,rfl,rfl,HN1,HN2,hbx,hb⟩:=hrel
   have HBX:=qa hbx
   have HB:=qa hb
   have hsz:=hb.size
   clear hb
   by_cases hn:n≤3
   ·
    have ik:(n:Int)≤3:=by omega
    have z0:wr.cell? ⟨w.heap.size,0,none⟩=some (.int .i64 kc):=hbx.cell 0
    have fz0:=hbx.frozen 0
    obtain⟨wa,hwa⟩:∃wa,wr.setCell ⟨w.heap.size,0,none⟩ (.int .i64 (n:Int))=wa:=⟨_,rfl⟩
    have hbxa:j6 wa w.heap.size 76 #[.int .i64 (n:Int),.int .i64 bl,.int .i64 ro,.slice B ds.length d]:=by rw[←hwa];exact hbx.put 0 _
    have b0:wa.cell? ⟨w.heap.size,0,none⟩=some (.int .i64 (n:Int)):=hbxa.cell 0
    have b1:wa.cell? ⟨w.heap.size,1,none⟩=some (.int .i64 bl):=hbxa.cell 1
    have b2:wa.cell? ⟨w.heap.size,2,none⟩=some (.int .i64 ro):=hbxa.cell 2
    have b3:wa.cell? ⟨w.heap.size,3,none⟩=some (.slice B ds.length d):=hbxa.cell 3
    have HBa:Hid (Below w.heap.size w wa):=by unfold Hid;rw[←hwa];exact HB.out.setCell (p:=⟨w.heap.size,0,none⟩) (qc _) _
    have HBXa:=qa hbxa
    have HC:=qa (qoz (w:=wa) (HI.out wa n HBa.out (by omega) (by omega)) (by omega) hf hdr)
    rw[HPK.out] at HC
    have hgl:w.heap.size<wa.heap.size:=hbxa.lt
    obtain⟨pn,hpn⟩:∃pn,(yj l o (n:Int)).length=pn:=⟨_,rfl⟩
    have HPN:=qa hpn
    rw[hpn] at HC
    clear hbx hbxa HBX HB hpn
    go_wp2_with fail
    refine HC.out.mono ?_
    rintro r wb ⟨Ab,cb,rfl,hob,hbb⟩
    have HBb:Hid (Below w.heap.size w wb):=HBa.out.trans (hbb.mono HBa.out.size)
    have HBXb:=qa (HBXa.out.below hbb hgl)
    clear hob hbb hwa HC
    by_cases hn2:n=1
    ·
     obtain rfl:b=0:=HN1.out hn2
     have HE:Hid ((n:Int)=ua l o (n+1)∧(pn:Int)=((yj l o (ua l o (n+1))).length:Int)):=by
      have e:ua l o (n+1)=(n:Int):=by rw[hn2];rfl
      unfold Hid
      rw[e,HPN.out]
      exact⟨rfl,rfl⟩
     clear hn2 HN1 HN2
     go_wp2_with fail
     go_roundw
     case rel=>exact⟨n+1,n,pn,n,by omega,by omega,by go_num,rfl,rfl,fun h=>absurd h (by omega),fun _=>HE.out,HBXb.out,HBb.out⟩
     case measure=>simp[intOf];omega
    ·
     obtain⟨hb2,hz2⟩:=HN2.out (by omega)
     have hin:=qn5 l o n
     have HS:=qa (qhz l o (n:=n) (by omega))
     rw[←hb2] at hin hz2
     have HB2:=qa hb2
     have HZ2:=qa hz2
     have hb0:¬b=0:=by omega
     have hb0':(b==0)=false:=by rw[qr];exact hb0
     clear hb2 hz2 HN1 HN2 hin
     by_cases hlt:(pn:Int)<z
     ·
      have HE:Hid ((n:Int)=ua l o (n+1)∧(pn:Int)=((yj l o (ua l o (n+1))).length:Int)):=by
       have e:ua l o (n+1)=(n:Int):=by
        rw[HS.out,if_pos]
        rw[HPN.out,←HB2.out]
        have:=HZ2.out
        omega
       unfold Hid
       rw[e,HPN.out]
       exact⟨rfl,rfl⟩
      go_wp2_with fail
      go_roundw
      case rel=>exact⟨n+1,n,pn,n,by omega,by omega,by go_num,rfl,rfl,fun h=>absurd h (by omega),fun _=>HE.out,HBXb.out,HBb.out⟩
      case measure=>simp[intOf];omega
     ·
      have HE:Hid (b=ua l o (n+1)∧z=((yj l o (ua l o (n+1))).length:Int)):=by
       have e:ua l o (n+1)=b:=by
        rw[HS.out,if_neg,HB2.out]
        rw[HPN.out,←HB2.out]
        have:=HZ2.out
        omega
       unfold Hid
       rw[e]
       exact⟨rfl,HZ2.out⟩
      go_wp2_with fail
      go_roundw
      case rel=>exact⟨n+1,b,z,n,by omega,by omega,by go_num,rfl,rfl,fun h=>absurd h (by omega),fun _=>HE.out,HBXb.out,HBb.out⟩
      case measure=>simp[intOf];omega
   ·
    have ik:¬(n:Int)≤3:=by omega
    have hb4:Hid (b=kk):=by
     have h4:n=4:=by omega
     have:=(HN2.out (by omega)).1
     rw[h4,qpd] at this
     unfold Hid
     rw[this,HKE.out]
    go_wp2_with fail
    go_ret
    rw[hb4.out]
    exact⟨rfl,HB.out⟩
 ·
  have HKE:Hid (kk=kd):=HKD.out h0
  have h0':(kd != 0)=true:=by rw[bne_iff_ne];exact h0
  clear HKB HKD
  go_wp2_with fail
  go_ret
  rw[HKE.out]
  exact⟨rfl,B1.out⟩
set_option maxRecDepth 100000 in
set_option maxHeartbeats 4000000 in
theorem refCode_v{w:World}{L:List Vl}{kd bl ro:Int}{ds:List Int}{A B:Option Addr}{c d:Nat}(h:CIn w L kd bl ro ds A B c d){o:Co}(ho:o=⟨kd,bl,ro,ds⟩)(hm:qmd L o)(hf:L.length≤100)(hdr:ds.length≤60)(hpl:(yj (qw L) o (yu (qw L) o)).length≤1000000000000) :
  Calls Tryz.prog 41 #[.slice A L.length c,.agg #[.int .i64 kd,.int .i64 bl,.int .i64 ro,.slice B ds.length d]] w fun r w'=>∃A' c',r= .returned (.slice A' (qeh L o).length c')∧w'.ownsRow w.heap.size 5 1 (.slice A' (qeh L o).length c') (qeh L o).length (bv (qeh L o))∧Below w.heap.size w w':=by
 subst ho
 obtain⟨w1,hw1⟩:∃w1,w.alloc (.cells #[.int .i64 kd,.int .i64 bl,.int .i64 ro,.slice B ds.length d] 76)=w1:=⟨_,rfl⟩
 have B1:Hid (Below w.heap.size w w1):=by unfold Hid;rw[←hw1];exact(Below.refl _ w).alloc (qc _) _
 have hs1:w.heap.size<w1.heap.size:=by rw[←hw1];simp
 have hbx:j6 w1 w.heap.size 76 #[.int .i64 kd,.int .i64 bl,.int .i64 ro,.slice B ds.length d]:=by rw[←hw1];exact j6.new w _ _
 have HBX:=qa hbx
 have HIN:Hid (∀W,Below w.heap.size w W→CIn W L kd bl ro ds A B c d):=fun W hW=>h.on hW
 have hsl:=(hm.few).1
 have hss:=(hm.few).2
 have htl:(qw L).length≤100:=ze (qf8 L) hf
 have HPI:Hid (∀W A2 c2 k,0≤k→k≤3→Below w.heap.size w W→Rd W 0 W.heap.size A2 c2 (sv (qw L))→PayIn W (qw L) k bl ro ds A2 B c2 d):=fun W A2 c2 k hk0 hk3 hW hr=>⟨hr,((h.on hW).dr),h.word,⟨hk0,hk3,hm.2.2.2⟩,hsl,by omega,hss⟩
 have HPR:=qa (qoy (w:=w1) (A:=A) (c:=c) L (HIN.out w1 B1.out).row (by omega))
 have hkd:=hm.2
 have HKI:=qa (qhl (qw L) hkd)
 have HWR:Hid (∀W A2 c2,Rd W 0 W.heap.size A2 c2 (lv (xf L))→Calls Tryz.prog 74 #[.slice A2 L.length c2] W fun r w'=>∃A'' c'',r= .returned (.slice A'' (xe (xf L)).length c'')∧w'.ownsRow W.heap.size 5 1 (.slice A'' (xe (xf L)).length c'') (xe (xf L)).length (bv (xe (xf L)))∧Below W.heap.size W w'):=fun W A2 c2 hr=>by
  have:=qq4 (w:=W) (A:=A2) (c:=c2) (xf L) hr (qc _) (by rw[uh];omega)
  rw[uh] at this
  exact this
 have HWL:Hid ((xe (xf L)).length≤1000000):=bitB_len (xf L) (by rw[uh];omega)
 have HCH:Hid (∀W A2 c2,Below w.heap.size w W→Rd W 0 W.heap.size A2 c2 (sv (qw L))→Calls Tryz.prog 76 #[.slice A2 (qw L).length c2,.agg #[.int .i64 kd,.int .i64 bl,.int .i64 ro,.slice B ds.length d]] W fun r w'=>r= .returned (.int .i64 (yu (qw L) ⟨kd,bl,ro,ds⟩))∧Below W.heap.size W w'):=fun W A2 c2 hW hr =>
  refChosen_v (HPI.out W A2 c2 kd hkd.1 hkd.2.1 hW hr) htl hdr
 have HPY:Hid (∀W A2 c2,Below w.heap.size w W→Rd W 0 W.heap.size A2 c2 (sv (qw L))→Calls Tryz.prog 77 #[.slice A2 (qw L).length c2,.agg #[.int .i64 (yu (qw L) ⟨kd,bl,ro,ds⟩),.int .i64 bl,.int .i64 ro,.slice B ds.length d]] W fun r w'=>∃A' c',r= .returned (.slice A' (yj (qw L) ⟨kd,bl,ro,ds⟩ (yu (qw L) ⟨kd,bl,ro,ds⟩)).length c')∧
   w'.ownsRow W.heap.size 5 1 (.slice A' (yj (qw L) ⟨kd,bl,ro,ds⟩ (yu (qw L) ⟨kd,bl,ro,ds⟩)).length c') (yj (qw L) ⟨kd,bl,ro,ds⟩ (yu (qw L) ⟨kd,bl,ro,ds⟩)).length (bv (yj (qw L) ⟨kd,bl,ro,ds⟩ (yu (qw L) ⟨kd,bl,ro,ds⟩)))∧Below W.heap.size W w'):=fun W A2 c2 hW hr=>by
  have hki:=HKI.out
  have:=qoz (HPI.out W A2 c2 (yu (qw L) ⟨kd,bl,ro,ds⟩) (by omega) (by omega) hW hr) (by omega) htl hdr
  rw[qqa (qw L) (yu (qw L) ⟨kd,bl,ro,ds⟩) kd] at this
  exact this
 have HPL:=qa hpl
 have HCL:Hid (([UInt8.ofNat (yu (qw L) ⟨kd,bl,ro,ds⟩).toNat]++xe (xf L))++yj (qw L) ⟨kd,bl,ro,ds⟩ (yu (qw L) ⟨kd,bl,ro,ds⟩)=qeh L ⟨kd,bl,ro,ds⟩):=by
  unfold Hid
  rw[qv]
  rfl
 clear h hm hkd hsl hss HIN HPI hbx hpl
 generalize qeh L ⟨kd,bl,ro,ds⟩=F at *
 generalize yu (qw L) ⟨kd,bl,ro,ds⟩=j at *
 generalize yj (qw L) ⟨kd,bl,ro,ds⟩ j=P at *
 generalize qw L=S at *
 generalize xf L=TH at *
 generalize xe TH=WB at *
 have b0:w1.cell? ⟨w.heap.size,0,none⟩=some (.int .i64 kd):=HBX.out.cell 0
 go_enter Tryz.func41,Tryz.ntmps41
 go_wp2_with fail
 refine HPR.out.mono ?_
 rintro r w2 ⟨A1,c1,A2,c2,rfl,hot,hos,hb2⟩
 have HT2:Hid (Rd w2 w1.heap.size w2.heap.size A1 c1 (lv TH)):=Rd.of_own hot
 have HS2:Hid (Rd w2 w1.heap.size w2.heap.size A2 c2 (sv S)):=Rd.of_own hos
 have hsz2:=hb2.size
 have HB2:Hid (Below w.heap.size w w2):=B1.out.trans (hb2.mono (by omega))
 have HBX2:=qa (HBX.out.below hb2 hs1)
 have d0:w2.cell? ⟨w.heap.size,0,none⟩=some (.int .i64 kd):=HBX2.out.cell 0
 have d1:w2.cell? ⟨w.heap.size,1,none⟩=some (.int .i64 bl):=HBX2.out.cell 1
 have d2:w2.cell? ⟨w.heap.size,2,none⟩=some (.int .i64 ro):=HBX2.out.cell 2
 have d3:w2.cell? ⟨w.heap.size,3,none⟩=some (.slice B ds.length d):=HBX2.out.cell 3
 have HC2:=qa (HCH.out w2 A2 c2 HB2.out (HS2.out.wide (qi _) (qc _)))
 clear hot hos hb2 HPR HBX hw1 b0 HCH
 go_wp2_with fail
 refine HC2.out.mono ?_
 rintro r w3 ⟨rfl,hb3⟩
 have HT3:Hid (Rd w3 w1.heap.size w2.heap.size A1 c1 (lv TH)):=HT2.out.below hb3 (qc _)
 have HS3:Hid (Rd w3 w1.heap.size w2.heap.size A2 c2 (sv S)):=HS2.out.below hb3 (qc _)
 have HBX3:=qa (HBX2.out.below hb3 (by omega))
 have hsz3:=hb3.size
 have HB3:Hid (Below w.heap.size w w3):=HB2.out.trans (hb3.mono (by omega))
 have z0:w3.cell? ⟨w.heap.size,0,none⟩=some (.int .i64 kd):=HBX3.out.cell 0
 have fz0:=HBX3.out.frozen 0
 obtain⟨w4,hw4⟩:∃w4,w3.setCell ⟨w.heap.size,0,none⟩ (.int .i64 j)=w4:=⟨_,rfl⟩
 have HBX4:Hid (j6 w4 w.heap.size 76 #[.int .i64 j,.int .i64 bl,.int .i64 ro,.slice B ds.length d]):=by unfold Hid;rw[←hw4];exact HBX3.out.put 0 _
 have hs4:w4.heap.size=w3.heap.size:=by rw[←hw4];simp[World.setCell]
 have HB4:Hid (Below w.heap.size w w4):=by unfold Hid;rw[←hw4];exact HB3.out.setCell (p:=⟨w.heap.size,0,none⟩) (qc _) _
 have HT4:Hid (Rd w4 0 w4.heap.size A1 c1 (lv TH)):=by unfold Hid;rw[←hw4];exact(HT3.out.setCell (p:=⟨w.heap.size,0,none⟩) (.inl hs1) _).wide (qi _) (by simp[World.setCell];omega)
 have HS4:Hid (Rd w4 0 w4.heap.size A2 c2 (sv S)):=by unfold Hid;rw[←hw4];exact(HS3.out.setCell (p:=⟨w.heap.size,0,none⟩) (.inl hs1) _).wide (qi _) (by simp[World.setCell];omega)
 have HCF:Hid (∀W,Below w4.heap.size w4 W→W.cell? ⟨w.heap.size,0,none⟩=some (.int .i64 j)∧W.cell? ⟨w.heap.size,1,none⟩=some (.int .i64 bl)∧W.cell? ⟨w.heap.size,2,none⟩=some (.int .i64 ro)∧W.cell? ⟨w.heap.size,3,none⟩=some (.slice B ds.length d)):=fun W hW=>⟨(HBX4.out.below hW HBX4.out.lt).cell 0,(HBX4.out.below hW HBX4.out.lt).cell 1,(HBX4.out.below hW HBX4.out.lt).cell 2,(HBX4.out.below hW HBX4.out.lt).cell 3⟩
 have HPX:Hid (∀W,Below w4.heap.size w4 W→Calls Tryz.prog 77 #[.slice A2 S.length c2,.agg #[.int .i64 j,.int .i64 bl,.int .i64 ro,.slice B ds.length d]] W fun r w'=>∃A' c',r= .returned (.slice A' P.length c')∧w'.ownsRow W.heap.size 5 1 (.slice A' P.length c') P.length (bv P)∧Below W.heap.size W w'):=fun W hW=>HPY.out W A2 c2 (HB4.out.trans (hW.mono HB4.out.size)) ((HS4.out.below hW (qc _)).wide (qc _) hW.size)
 have HWX:Hid (∀W,Below w4.heap.size w4 W→Calls Tryz.prog 74 #[.slice A1 L.length c1] W fun r w'=>∃A' c',r= .returned (.slice A' WB.length c')∧w'.ownsRow W.heap.size 5 1 (.slice A' WB.length c') WB.length (bv WB)∧Below W.heap.size W w'):=fun W hW=>HWR.out W A1 c1 ((HT4.out.below hW (qc _)).wide (qc _) hW.size)
 have hwr:IntKind.u8.wrap j=j:=u8_wrap (by have:=HKI.out;omega) (by have:=HKI.out;omega)
 have hjb:Hid (j=((UInt8.ofNat j.toNat).toNat:Int)):=by unfold Hid;have:=HKI.out;simp;omega
 obtain⟨bj,hbj⟩:∃bj,UInt8.ofNat j.toNat=bj:=⟨_,rfl⟩
 rw[hbj] at HCL hjb
 obtain⟨X1,hX1⟩:∃X1,[bj]++WB=X1:=⟨_,rfl⟩
 have HX1:=qa hX1
 have HX1L:Hid (X1.length≤1000001):=by unfold Hid;rw[←hX1,qd];have:=HWL.out;simp;omega
 rw[hX1] at HCL
 clear hb3 HB2 HBX2 HC2 HBX3 HB3 HT3 HS3 hX1 hbj HWR HPY HT2 HS2 d0 d1 d2 d3
 go_wp2_with fail
 clear hw4 z0 fz0
 have KD:Hid (Below w4.heap.size w4 w4.drew):=(Below.refl _ _).drew
 refine wp_region_held_drew (S:=fun w'=>Below w4.heap.size w4 w') (by kernel_rfl) KD.out (fun hHeld => ?_)
 refine tk 0 ?_ rfl hHeld ?_ ?_
 rotate_left
 focus (intro W hSw;obtain⟨q0,q1,q2,q3⟩:=HCF.out W hSw;go_simp;try with_reducible rfl)
 try simp only[jv,Act.put]
 refine tk 1 ?_ rfl hHeld ?_ ?_
 rotate_left
 focus (intro W hSw;obtain⟨q0,q1,q2,q3⟩:=HCF.out W hSw;go_simp;try with_reducible rfl)
 try simp only[jv,Act.put]
 refine tk 2 ?_ rfl hHeld ?_ ?_
 rotate_left
 focus (intro W hSw;obtain⟨q0,q1,q2,q3⟩:=HCF.out W hSw;go_simp;try with_reducible rfl)
 try simp only[jv,Act.put]
 refine tk 4 ?_ rfl hHeld ?_ ?_
 rotate_left
 focus (intro W hSw;obtain⟨q0,q1,q2,q3⟩:=HCF.out W hSw;go_simp;try with_reducible rfl)
 try simp only[jv,Act.put]
 refine tk 7 ?_ rfl hHeld ?_ ?_
 rotate_left
 focus (intro W hSw;obtain⟨q0,q1,q2,q3⟩:=HCF.out W hSw;go_simp;try with_reducible rfl)
 try simp only[jv,Act.put]
 refine tk 8 ?_ rfl hHeld ?_ ?_
 rotate_left
 focus (intro W hSw;obtain⟨q0,q1,q2,q3⟩:=HCF.out W hSw;go_simp;try with_reducible rfl)
 try simp only[jv,Act.put]
 obtain⟨wd,hwd⟩:∃q,w4.drew=q:=⟨_,rfl⟩
 rw[hwd] at hHeld ⊢
 clear KD hwd
 have K_wd:=qa hHeld
 refine wpAnyH_ready (rs:=[3,5]) (by kernel_rfl) (by simp) ?_
 refine zc (o:=_) rfl (fun K hK => ?_) (zc (o:=_) rfl (fun K hK => ?_) zm)
 ·
  go_simp
  obtain⟨v1,hw_v1⟩:∃q,wd.alloc (.cells #[.int .u8 j] 5)=q:=⟨_,rfl⟩
  rw[hw_v1]
  have hb_v1:Below wd.heap.size wd v1:=by rw[←hw_v1];exact(Below.refl _ _).alloc (qc _) _
  have z_v1:wd.heap.size<v1.heap.size:=by rw[←hw_v1];simp
  have s_v1:wd.heap.size≤v1.heap.size:=hb_v1.size
  have K_v1:Hid (Below w4.heap.size w4 v1):=qa (K_wd.out.trans (hb_v1.mono K_wd.out.size))
  have Hl_v1:Hid (v1.ownsRow w4.heap.size 5 1 (.slice (some ⟨wd.heap.size,0,none⟩) 1 1) 1 (bv [bj])):=by unfold Hid;rw[←hw_v1];exact j4 (own_byte wd 5 j bj hjb.out) K_wd.out.size
  clear hb_v1
  clear hw_v1
  refine hK.out _ _ K_v1.out (fun hHeld => ?_)
  clear hK K
  try simp only[jv,Act.put]
  refine wpAnyH_ready (rs:=[5]) (by kernel_rfl) (by simp) ?_
  refine zc (o:=_) rfl (fun K hK => ?_) zm
  go_simp
  refine(HWX.out _ K_v1.out).mono ?_
  rintro r v2 ⟨Ab,cb,rfl,hob,hb_v2⟩
  have s_v2:v1.heap.size≤v2.heap.size:=hb_v2.size
  have K_v2:Hid (Below w4.heap.size w4 v2):=qa (K_v1.out.trans (hb_v2.mono K_v1.out.size))
  have Hl_v2:Hid (v2.ownsRow w4.heap.size 5 1 (.slice (some ⟨wd.heap.size,0,none⟩) 1 1) 1 (bv [bj])):=js Hl_v1.out hb_v2 (qc _)
  have Hb_v2:Hid (Rd v2 0 v2.heap.size Ab cb (bv WB)):=(Rd.of_own hob).wide (qi _) (qc _)
  clear hb_v2
  clear hob
  refine hK.out _ _ K_v2.out (fun hHeld => ?_)
  clear hK K
  try simp only[jv,Act.put]
  refine wpAnyH_ready (rs:=[6]) (by kernel_rfl) (by simp) ?_
  refine zc (o:=_) rfl (fun K hK => ?_) zm
  obtain⟨A5,c5,v3,hrun_v3,hx_v3,hg_v3, -⟩:=vl v2 w4.heap.size (.slice (some ⟨wd.heap.size,0,none⟩) 1 1) [bj] WB X1 HX1.out Hl_v2.out Hb_v2.out (by have:=HWL.out;simp;omega) K_v2.out.size
  have s_v3:v2.heap.size≤v3.heap.size:=hg_v3.size
  have K_v3:Hid (Below w4.heap.size w4 v3):=qa (K_v2.out.grown hg_v3 K_v2.out.size (fun q hq=>(zk Hl_v2.out hq).1))
  have Hx_v3:Hid (v3.ownsRow w4.heap.size 5 1 (.slice A5 X1.length c5) X1.length (bv X1)):=hx_v3
  refine qag (.tmp 19) (.tmp 21) _ _ rfl rfl rfl hrun_v3 ?_
  clear hrun_v3 hx_v3 hg_v3
  refine hK.out _ _ K_v3.out (fun hHeld => ?_)
  clear hK K
  try simp only[jv,Act.put]
  refine wpAnyH_ready (rs:=[9]) (by kernel_rfl) (by simp) ?_
  refine zc (o:=_) rfl (fun K hK => ?_) zm
  go_simp
  refine(HPX.out _ K_v3.out).mono ?_
  rintro r v4 ⟨Ap,cp,rfl,hop,hb_v4⟩
  have s_v4:v3.heap.size≤v4.heap.size:=hb_v4.size
  have K_v4:Hid (Below w4.heap.size w4 v4):=qa (K_v3.out.trans (hb_v4.mono K_v3.out.size))
  have Hx_v4:Hid (v4.ownsRow w4.heap.size 5 1 (.slice A5 X1.length c5) X1.length (bv X1)):=js Hx_v3.out hb_v4 (qc _)
  have Hp_v4:Hid (Rd v4 v3.heap.size v4.heap.size Ap cp (bv P)):=Rd.of_own hop
  clear hb_v4
  clear hop
  refine hK.out _ _ K_v4.out (fun hHeld => ?_)
  clear hK K
  try simp only[jv,Act.put]
  refine wpAnyH_ready (rs:=[10]) (by kernel_rfl) (by simp) ?_
  refine zc (o:=_) rfl (fun K hK => ?_) zm
  obtain⟨A6,c6,v5,hrun_v5,hx_v5,hg_v5, -⟩:=vl v4 w4.heap.size (.slice A5 X1.length c5) X1 P F HCL.out Hx_v4.out Hp_v4.out (by have:=HX1L.out;have:=HPL.out;omega) K_v4.out.size
  have s_v5:v4.heap.size≤v5.heap.size:=hg_v5.size
  have K_v5:Hid (Below w4.heap.size w4 v5):=qa (K_v4.out.grown hg_v5 K_v4.out.size (fun q hq=>(zk Hx_v4.out hq).1))
  have Hy_v5:Hid (v5.ownsRow w4.heap.size 5 1 (.slice A6 F.length c6) F.length (bv F)):=hx_v5
  refine qag (.tmp 22) (.tmp 25) _ _ rfl rfl rfl hrun_v5 ?_
  clear hrun_v5 hx_v5 hg_v5
  refine hK.out _ _ K_v5.out (fun hHeld => ?_)
  clear hK K
  try simp only[jv,Act.put]
  refine tk 11 ?_ rfl hHeld ?_ ?_
  rotate_left
  focus (intro W hSw;obtain⟨q0,q1,q2,q3⟩:=HCF.out W hSw;go_simp;try with_reducible rfl)
  try simp only[jv,Act.put]
  refine wpAnyH_done (by kernel_rfl) ?_ _
  go_wp2_with fail
  go_ret
  exact⟨_,_,rfl,j4 Hy_v5.out HB4.out.size,HB4.out.trans (K_v5.out.mono HB4.out.size)⟩
 ·
  go_simp
  refine(HWX.out _ K_wd.out).mono ?_
  rintro r v6 ⟨Ab,cb,rfl,hob,hb_v6⟩
  have s_v6:wd.heap.size≤v6.heap.size:=hb_v6.size
  have K_v6:Hid (Below w4.heap.size w4 v6):=qa (K_wd.out.trans (hb_v6.mono K_wd.out.size))
  have Hb_v6:Hid (Rd v6 0 v6.heap.size Ab cb (bv WB)):=(Rd.of_own hob).wide (qi _) (qc _)
  clear hb_v6
  clear hob
  refine hK.out _ _ K_v6.out (fun hHeld => ?_)
  clear hK K
  try simp only[jv,Act.put]
  refine wpAnyH_ready (rs:=[3]) (by kernel_rfl) (by simp) ?_
  refine zc (o:=_) rfl (fun K hK => ?_) zm
  go_simp
  obtain⟨v7,hw_v7⟩:∃q,v6.alloc (.cells #[.int .u8 j] 5)=q:=⟨_,rfl⟩
  rw[hw_v7]
  have hb_v7:Below v6.heap.size v6 v7:=by rw[←hw_v7];exact(Below.refl _ _).alloc (qc _) _
  have z_v7:v6.heap.size<v7.heap.size:=by rw[←hw_v7];simp
  have s_v7:v6.heap.size≤v7.heap.size:=hb_v7.size
  have K_v7:Hid (Below w4.heap.size w4 v7):=qa (K_v6.out.trans (hb_v7.mono K_v6.out.size))
  have Hb_v7:Hid (Rd v7 0 v7.heap.size Ab cb (bv WB)):=(Hb_v6.out.below hb_v7 (qc _)).wide (qc _) hb_v7.size
  have Hl_v7:Hid (v7.ownsRow w4.heap.size 5 1 (.slice (some ⟨v6.heap.size,0,none⟩) 1 1) 1 (bv [bj])):=by unfold Hid;rw[←hw_v7];exact j4 (own_byte v6 5 j bj hjb.out) K_v6.out.size
  clear hb_v7
  clear hw_v7
  refine hK.out _ _ K_v7.out (fun hHeld => ?_)
  clear hK K
  try simp only[jv,Act.put]
  refine wpAnyH_ready (rs:=[6]) (by kernel_rfl) (by simp) ?_
  refine zc (o:=_) rfl (fun K hK => ?_) zm
  obtain⟨A5,c5,v8,hrun_v8,hx_v8,hg_v8, -⟩:=vl v7 w4.heap.size (.slice (some ⟨v6.heap.size,0,none⟩) 1 1) [bj] WB X1 HX1.out Hl_v7.out Hb_v7.out (by have:=HWL.out;simp;omega) K_v7.out.size
  have s_v8:v7.heap.size≤v8.heap.size:=hg_v8.size
  have K_v8:Hid (Below w4.heap.size w4 v8):=qa (K_v7.out.grown hg_v8 K_v7.out.size (fun q hq=>(zk Hl_v7.out hq).1))
  have Hx_v8:Hid (v8.ownsRow w4.heap.size 5 1 (.slice A5 X1.length c5) X1.length (bv X1)):=hx_v8
  refine qag (.tmp 19) (.tmp 21) _ _ rfl rfl rfl hrun_v8 ?_
  clear hrun_v8 hx_v8 hg_v8
  refine hK.out _ _ K_v8.out (fun hHeld => ?_)
  clear hK K
  try simp only[jv,Act.put]
  refine wpAnyH_ready (rs:=[9]) (by kernel_rfl) (by simp) ?_
  refine zc (o:=_) rfl (fun K hK => ?_) zm
  go_simp
  refine(HPX.out _ K_v8.out).mono ?_
  rintro r v9 ⟨Ap,cp,rfl,hop,hb_v9⟩
  have s_v9:v8.heap.size≤v9.heap.size:=hb_v9.size
  have K_v9:Hid (Below w4.heap.size w4 v9):=qa (K_v8.out.trans (hb_v9.mono K_v8.out.size))
  have Hx_v9:Hid (v9.ownsRow w4.heap.size 5 1 (.slice A5 X1.length c5) X1.length (bv X1)):=js Hx_v8.out hb_v9 (qc _)
  have Hp_v9:Hid (Rd v9 v8.heap.size v9.heap.size Ap cp (bv P)):=Rd.of_own hop
  clear hb_v9
  clear hop
  refine hK.out _ _ K_v9.out (fun hHeld => ?_)
  clear hK K
  try simp only[jv,Act.put]
  refine wpAnyH_ready (rs:=[10]) (by kernel_rfl) (by simp) ?_
  refine zc (o:=_) rfl (fun K hK => ?_) zm
  obtain⟨A6,c6,v10,hrun_v10,hx_v10,hg_v10, -⟩:=vl v9 w4.heap.size (.slice A5 X1.length c5) X1 P F HCL.out Hx_v9.out Hp_v9.out (by have:=HX1L.out;have:=HPL.out;omega) K_v9.out.size
  have s_v10:v9.heap.size≤v10.heap.size:=hg_v10.size
  have K_v10:Hid (Below w4.heap.size w4 v10):=qa (K_v9.out.grown hg_v10 K_v9.out.size (fun q hq=>(zk Hx_v9.out hq).1))
  have Hy_v10:Hid (v10.ownsRow w4.heap.size 5 1 (.slice A6 F.length c6) F.length (bv F)):=hx_v10
  refine qag (.tmp 22) (.tmp 25) _ _ rfl rfl rfl hrun_v10 ?_
  clear hrun_v10 hx_v10 hg_v10
  refine hK.out _ _ K_v10.out (fun hHeld => ?_)
  clear hK K
  try simp only[jv,Act.put]
  refine tk 11 ?_ rfl hHeld ?_ ?_
  rotate_left
  focus (intro W hSw;obtain⟨q0,q1,q2,q3⟩:=HCF.out W hSw;go_simp;try with_reducible rfl)
  try simp only[jv,Act.put]
  refine wpAnyH_done (by kernel_rfl) ?_ _
  go_wp2_with fail
  go_ret
  exact⟨_,_,rfl,j4 Hy_v10.out HB4.out.size,HB4.out.trans (K_v10.out.mono HB4.out.size)⟩
def WrOk(b:Nat)(gs:List Nat)(rs:List Bool):Prop:=rs.length≤1000000∧gs.length≤100000000∧gs.Pairwise (· < ·)∧∀g∈gs,g<16777216
theorem refMake_s{w:World}(S:List ByteArray){c:Nat}{A:Option Addr}(h:Rd w 0 w.heap.size A c (sv S))(hsz:∀s∈S,s.size≤100000)(hlen:S.length≤1000)(b:Nat)(hb:b≤65536)(hn:(qb6 (qcl S)).length≤100000) :
  Calls Tryz.prog 26 #[.slice A S.length c,.int .i64 (b:Int)] w fun r w'=>∃v gs rs,r= .returned v∧qok w' w.heap.size w'.heap.size v b gs rs∧y7 b gs rs=qla S b∧WrOk b gs rs∧(qla S b).length≤1000000∧Below w.heap.size w w':=by
 rcases jr b with rfl | hb0
 ·
  refine(makeg_zero S h hsz hlen).mono ?_
  rintro r w' ⟨v,t,h1,h2,h3,h4⟩
  have hl:=h2.len
  refine⟨v,t,[],h1,h3,?_,⟨by simp,by omega,h2.up,fun g hg => ?_⟩,qm0 h2 hn hb,h4⟩
  ·
   rw[qla,if_pos rfl,qia h2]
  ·
   obtain⟨s,_,hs⟩:=List.mem_flatMap.1 ((h2.mem g).1 hg)
   exact qmx hs
 ·
  refine(makeg_bits S h hsz hlen b hb0 (by omega)).mono ?_
  rintro r w' ⟨v,t,h1,h2,h3,h4⟩
  refine⟨v,[],qdx b t,h1,h3,?_,⟨by rw[qct];omega,by simp,List.Pairwise.nil,fun g hg=>by cases hg⟩,qm0 h2 hn hb,h4⟩
  rw[qla,if_neg (by omega),qia h2]
theorem refFilter_s{w:World}{hi b:Nat}{v:Value}{gs:List Nat}{rs:List Bool}(h:qok w 0 hi v b gs rs)(hhi:hi≤w.heap.size)(hb:b≤65536)(hw:WrOk b gs rs) :
  Calls Tryz.prog 40 #[v] w fun r w'=>∃A' c',r= .returned (.slice A' (y7 b gs rs).length c')∧w'.ownsRow w.heap.size 5 1 (.slice A' (y7 b gs rs).length c') (y7 b gs rs).length (bv (y7 b gs rs))∧Below w.heap.size w w':=by
 obtain⟨h1,h2,h3,h4⟩:=hw
 rcases jr b with rfl | hb0
 ·
  exact writeg_list h hhi h2 h3 h4
 ·
  exact writeg_bits h hhi hb0 (by omega) h1
theorem refWriteSg_v{w:World}{gs:List (List (List Vl))}{os:List Co}{A B:Option Addr}{c d:Nat}(bits:Nat)(h:qax w 0 w.heap.size A c gs)(ho:qbu w 0 w.heap.size B d os)(hR:jaa (os.length:Int) gs os (bits:Int))(hF:FewSg gs os)
  (hT:∀g∈gs,∀k,k<os.length→yu (qw (vg g k)) (qdj os k)=2→yy (uc (qw (vg g k)) (qdj os k))=true) :
  Calls Tryz.prog 14 #[.int .i64 (os.length:Int),.slice A gs.length c,.slice B os.length d,.int .i64 (bits:Int)] w fun r w'=>∃A' c',r= .returned (.slice A' (kr (qgh os bits gs)).length c')∧w'.ownsRow w.heap.size 5 1 (.slice A' (kr (qgh os bits gs)).length c') (kr (qgh os bits gs)).length (bv (kr (qgh os bits gs)))∧Below w.heap.size w w':=by
 obtain⟨hl,hm⟩:=h.len
 obtain⟨hl2,hm2⟩:=ho.len
 obtain⟨hR1,hR2, -, -,hR5,hR6,hR7,hR8⟩:=hR
 have H:Hid (∀W,Below w.heap.size w W→qax W 0 W.heap.size A c gs):=fun W hW=>(h.below hW (qc _)).wide (qc _) hW.size
 have HO:Hid (∀W,Below w.heap.size w W→qbu W 0 W.heap.size B d os):=fun W hW=>(ho.below hW (qc _)).wide (qc _) hW.size
 have hb5:bits≤65536:=by omega
 have hg40:=hF.groups
 have ho12:=hF.cods
 have HR6:=qa hR6
 have HR8:Hid (∀i (hi:i<gs.length),qj9 os.length gs[i]):=fun i hi=>hR8 _ (qj hi)
 have HFW:=qa hF
 have HTT:Hid (∀i (hi:i<gs.length),∀k,k<os.length→yu (qw (vg gs[i] k)) (qdj os k)=2→yy (uc (qw (vg gs[i] k)) (qdj os k))=true):=fun i hi=>hT _ (qj hi)
 obtain⟨n,hn⟩:∃n,os.length=n:=⟨_,rfl⟩
 have HN:=qa hn
 have HPU1:=qa (qbf (w:=w) n (by omega))
 have HPU2:Hid (∀W,Calls Tryz.prog 38 #[.int .i64 (gs.length:Int)] W fun r w'=>∃A c,r= .returned (.slice A (jo gs.length).length c)∧w'.ownsRow W.heap.size 5 1 (.slice A (jo gs.length).length c) (jo gs.length).length (bv (jo gs.length))∧Below W.heap.size W w'):=fun W=>qbf (w:=W) gs.length (by omega)
 have hp1:=qew n (by omega)
 have hp2:=qew gs.length (by omega)
 obtain⟨SG,hSG⟩:∃SG,qgh os bits gs=SG:=⟨_,rfl⟩
 rw[hSG]
 have HSG:Hid (jo n++jo gs.length++qb4 os bits gs=SG):=by unfold Hid;rw[←hSG,qgh,hn]
 have hn8:n≤8:=by omega
 obtain⟨sl,hsl⟩:∃sl,(kr SG).length=sl:=⟨_,rfl⟩
 rw[hsl]
 have HSLN:=qa hsl
 rw[hn] at HR8 HTT hl2 ⊢
 clear hsl
 clear h ho hR1 hR2 hR5 hR6 hR7 hR8 hF hT hn hSG
 go_enter Tryz.func14,Tryz.ntmps14
 go_wp2_with fail
 refine HPU1.out.mono ?_
 rintro r w1 ⟨A1,c1,rfl,ho1,hb1⟩
 have HP2:=qa (HPU2.out w1)
 have HO1:=qa ho1
 have HB1:=qa hb1
 have hs1:=hb1.size
 clear ho1 hb1 HPU1 HPU2
 go_wp2_with fail
 refine HP2.out.mono ?_
 rintro r w2 ⟨A2,c2,rfl,ho2,hb2⟩
 obtain⟨p0,hp0⟩:∃p0,(jo n).length+(jo gs.length).length=p0:=⟨_,rfl⟩
 obtain⟨HD,hHD⟩:∃HD,jo n++jo gs.length=HD:=⟨_,rfl⟩
 have hp18:p0≤18:=by omega
 obtain⟨A3,c3,w3,hrun3,ho3,hb3, -, -⟩:=qf4 HO1.out rfl hs1 hb2 ho2 rfl hHD hp0 (by omega)
 have hs2:=hb2.size
 have HB2:Hid (Below w.heap.size w w2):=HB1.out.trans (hb2.mono hs1)
 have HB3:Hid (Below w.heap.size w w3):=HB2.out.trans hb3
 have HO3:=qa ho3
 have HDL:Hid (HD.length=p0):=by unfold Hid;rw[←hHD,qd,hp0]
 rw[hHD] at HSG
 clear ho2 hb2 ho3 hb3 HO1 HP2 HB1 HB2 hHD hp0
 generalize (jo n).length=y1 at *
 generalize (jo gs.length).length=y2 at *
 go_wp2_with (at_builtin;refine wpList_append_run rfl _ _ _ _ rfl rfl rfl hrun3 ?_)
 clear hrun3
 go_loopw [9,10] (fun x9 x10 wr=>∃(g p:Nat) (A':Option Addr) (c':Nat),g≤gs.length∧x10= .int .i64 (g:Int)∧x9= .slice A' p c'∧Hid ((HD++qb4 os bits (gs.take g)).length=p)∧PA g p∧Hid (wr.ownsRow w.heap.size 5 1 (.slice A' p c') p (bv (HD++qb4 os bits (gs.take g))))∧Below w.heap.size w wr) (fun _ x10 _=>gs.length-(intOf x10).toNat)
 case atStart=>exact⟨0,p0,A3,c3,qi _,rfl,rfl,by unfold Hid;rw[y8,show qb4 os bits []=[] from rfl,jj];exact HDL.out,PA.zero hp18,by unfold Hid;rw[y8,show qb4 os bits []=[] from rfl,jj];exact HO3.out,HB3.out⟩
 case round =>
  clear HO3 HB3 HDL
  obtain⟨g,p,A',c',hg,rfl,rfl,HP,hpb,HOW,hb⟩:=hrel
  obtain⟨wg,hwg⟩:∃wg,wg=wr:=⟨_,rfl⟩
  subst hwg
  have HBG:=qa hb
  have hszg:=hb.size
  clear hb
  by_cases hgl:g<gs.length
  ·
   have ig:(g:Int)<(gs.length:Int):=by omega
   have ig0:(0:Int)≤(g:Int):=by omega
   obtain⟨b,off,Ag,cg,rfl,_,hbl,hcell,hrows⟩:=(H.out w (Below.refl _ _)).get hgl
   obtain⟨hrl,hrm⟩:=hrows.len
   have HRW:Hid (∀W,Below w.heap.size w W→vr W 0 W.heap.size Ag cg gs[g]):=fun W hW=>(hrows.below hW (qc _)).wide (qc _) hW.size
   have HGT:=qa (qkl (os:=os) (b:=bits) hgl)
   have HOK:=qa (HR8.out g hgl)
   have HTG:=qa (HTT.out g hgl)
   have hrn:gs[g].length≤60:=by
    have h1:=qfz hgl
    have h2:=qjo gs (g+1)
    have h3:=HFW.out.rows
    omega
   have hbn:qhu gs[g]≤3000:=by
    have h1:=qp4 hgl
    have h2:qjb (gs.take (g+1))≤qjb gs:=by
     have h:qjb gs=qjb (gs.take (g+1))+qjb (gs.drop (g+1)):=by
      unfold qjb
      rw[←qbe,←jg,zx]
     omega
    have h3:=HFW.out.bytes
    omega
   obtain⟨G,hG⟩:∃G,gs[g]=G:=⟨_,rfl⟩
   rw[hG] at hcell hrl HRW HGT HOK HTG hrn hbn
   have HBN:=qa hbn
   obtain⟨gl,hgl2⟩:∃gl,G.length=gl:=⟨_,rfl⟩
   have HGL:=qa hgl2
   rw[hgl2] at hcell hrl hrn
   have HCG:Hid (∀W,Below w.heap.size w W→W.cell? ⟨b,off+g,none⟩=some (.slice Ag gl cg)):=fun W hW=>(hW.cell (p:=⟨b,off+g,none⟩) hbl).trans hcell
   have hcell:=HCG.out wg HBG.out
   have HPU:=qa (qbf (w:=wg) gl (by omega))
   have hpg:=qew gl (by omega)
   obtain⟨pg,hpg2⟩:∃pg,(jo gl).length=pg:=⟨_,rfl⟩
   rw[hpg2] at HPU hpg
   obtain⟨PG,hPG⟩:∃PG,jo gl=PG:=⟨_,rfl⟩
   rw[hPG] at HPU hpg2
   have HGB:Hid (qqj os bits G=PG++qbc G os bits n):=by unfold Hid;rw[qqj,hgl2,hPG,HN.out]
   clear hrows hG hgl2 hbn hPG
   go_wp2_with fail
   refine HPU.out.mono ?_
   rintro r w4 ⟨A4,c4,rfl,ho4,hb4⟩
   obtain⟨X0,hX0⟩:∃X0,HD++qb4 os bits (gs.take g)++PG=X0:=⟨_,rfl⟩
   obtain⟨p5,hp5⟩:∃p5,p+pg=p5:=⟨_,rfl⟩
   have hpg3:=hpb.big (by omega)
   obtain⟨A5,c5,w5,hrun5,ho5,hb5', -, -⟩:=qf4 HOW.out HP.out hszg hb4 ho4 hpg2 hX0 hp5 (by omega)
   have hs4:=hb4.size
   have HB5:Hid (Below w.heap.size w w5):=(HBG.out.trans (hb4.mono hszg)).trans hb5'
   have HG5:Hid (Below w.heap.size wg w5):=(hb4.mono hszg).trans hb5'
   have HO5:=qa ho5
   have HX0:Hid (X0.length=p5):=by unfold Hid;rw[←hX0,qd,HP.out,hpg2,hp5]
   have hpb5:=PA.put hpb hpg hp5
   have HXE:=qa hX0
   have HW5:Hid (∀W,Below w5.heap.size w5 W→Below w.heap.size w W):=fun W hW=>HB5.out.trans (hW.mono HB5.out.size)
   clear ho4 hb4 ho5 hb5' hX0 hp5 HPU HOW HP hpb
   go_wp2_with (at_builtin;refine wpList_append_run rfl _ _ _ _ rfl rfl rfl hrun5 ?_)
   clear hrun5
   go_loopw [9,11] (fun x9 x11 wr=>∃(k p:Nat) (A':Option Addr) (c':Nat),k≤n∧x11= .int .i64 (k:Int)∧x9= .slice A' p c'∧Hid ((X0++qbc G os bits k).length=p)∧PB g k p∧Hid (wr.ownsRow w.heap.size 5 1 (.slice A' p c') p (bv (X0++qbc G os bits k)))∧Below w.heap.size w wr) (fun _ x11 _=>n-(intOf x11).toNat)
   case atStart=>exact⟨0,p5,A5,c5,qi _,rfl,rfl,by unfold Hid;rw[show qbc G os bits 0=[] from rfl,jj];exact HX0.out,hpb5,by unfold Hid;rw[show qbc G os bits 0=[] from rfl,jj];exact HO5.out,HB5.out⟩
   case round =>
    as_aux_lemma =>
    clear HO5 HB5 HX0
    obtain⟨k,p,A',c',hk,rfl,rfl,HP,hpb,HOW,hb⟩:=hrel
    obtain⟨wk,hwk⟩:∃wk,wk=wr:=⟨_,rfl⟩
    subst hwk
    have HBK:=qa hb
    have hszk:=hb.size
    clear hb
    by_cases hkl:k<n
    ·
     have ik:(k:Int)<(n:Int):=by omega
     have ik0:(0:Int)≤(k:Int):=by omega
     have hko:k<os.length:=by rw[HN.out];exact hkl
     obtain⟨b9,off9,A9,c9,rfl,_,hbl9,e0,e1,e2,e3,hrd9,hwd9⟩:=(HO.out w (Below.refl _ _)).get hko
     have HCO:Hid (∀W,Below w.heap.size w W→W.cell? ⟨b9,off9+k*4,none⟩=some (.int .i64 os[k].kind)∧W.cell? ⟨b9,off9+k*4+1,none⟩=some (.int .i64 os[k].block)∧W.cell? ⟨b9,off9+k*4+2,none⟩=some (.int .i64 os[k].rounds)∧W.cell? ⟨b9,off9+k*4+3,none⟩=some (.slice A9 os[k].draws.length c9)):=fun W hW=>⟨(hW.cell (p:=⟨b9,off9+k*4,none⟩) hbl9).trans e0,(hW.cell (p:=⟨b9,off9+k*4+1,none⟩) hbl9).trans e1,(hW.cell (p:=⟨b9,off9+k*4+2,none⟩) hbl9).trans e2,(hW.cell (p:=⟨b9,off9+k*4+3,none⟩) hbl9).trans e3⟩
     have HRD:Hid (∀W,Below w.heap.size w W→Rd W 0 W.heap.size A9 c9 (iv os[k].draws)):=fun W hW=>(hrd9.below hW (qc _)).wide (qc _) hW.size
     have HWD:=qa hwd9
     have hcols:∀r∈G,k<r.length:=fun r hr=>by rw[HOK.out.2.1 r hr];exact hkl
     have HCL:=qa (qnc (HRW.out wk HBK.out) k hcols (by rw[HGL.out];omega))
     rw[HGL.out] at HCL
     have hcell:=HCG.out wk HBK.out
     obtain⟨L,hL⟩:∃L,vg G k=L:=⟨_,rfl⟩
     have HLL:Hid (L.length=gl):=by unfold Hid;rw[←hL,qa7,HGL.out]
     have HFT:Hid (kj L):=by unfold Hid;rw[←hL];exact HOK.out.2.2 k hkl
     have HSM:Hid (qgp L≤3000):=by unfold Hid;rw[←hL];exact ze (qon hcols) HBN.out
     have HTK:Hid (yu (qw L) os[k]=2→yy (uc (qw L) os[k])=true):=by
      have:=HTG.out k hkl
      rw[qpo hko,hL] at this
      exact this
     have HCOK:Hid (qa3 os[k]):=HR6.out _ (qj hko)
     have HDR:Hid (os[k].draws.length≤60):=HFW.out.draws _ (qj hko)
     have HCS:Hid (qbc G os bits (k+1)=qbc G os bits k++(qla (qw L) bits++qeh L os[k])):=by unfold Hid;rw[qin,qpo hko,hL];rfl
     rw[hL] at HCL
     clear hrd9 hwd9 e0 e1 e2 e3 hL hcols
     go_wp2_with fail
     refine HCL.out.mono ?_
     rintro r w1 ⟨A1,c1,rfl,hr1,hb1⟩
     have HB1:Hid (Below w.heap.size w w1):=HBK.out.trans (hb1.mono hszk)
     have HK1:Hid (Below wk.heap.size wk w1):=hb1
     have HR1:=qa hr1
     have HPR:=qa (qoy (w:=w1) L (hr1.wide (qi _) (qc _)) (by rw[HLL.out];omega))
     rw[HLL.out] at HPR
     have hs1:=hb1.size
     clear hr1 hb1 HCL
     go_wp2_with fail
     refine HPR.out.mono ?_
     rintro r w2 ⟨A2,c2,A3,c3,rfl, -,ho3,hb2⟩
     have HK2:Hid (Below wk.heap.size wk w2):=HK1.out.trans (hb2.mono hs1)
     have H12:Hid (Below w1.heap.size w1 w2):=hb2
     have hszT:∀s∈qw L,s.size≤100000:=fun s hs=>by
      obtain⟨v,hv,rfl⟩:=qgv hs
      have:=(HFT.out.2 v hv).1
      omega
     have htl:(qw L).length≤1000:=by have:=qf8 L;rw[HLL.out] at this;omega
     have hal:(qb6 (qcl (qw L))).length≤100000:=by
      have h1:=allL_sum (qw L)
      have h2:=qgu L
      have:=HSM.out
      omega
     have HMK:=qa (refMake_s (w:=w2) (qw L) ((Rd.of_own ho3).wide (qi _) (qc _)) hszT htl bits hb5 hal)
     obtain⟨tl,htl2⟩:∃tl,(qw L).length=tl:=⟨_,rfl⟩
     rw[htl2] at HMK
     rw[htl2]
     have hs2:=HK2.out.size
     have hs12:=hb2.size
     clear ho3 hb2 HPR hszT htl hal htl2
     go_wp2_with fail
     refine HMK.out.mono ?_
     rintro r w3 ⟨fv,fgs,frs,rfl,hfl,hfe,hfo,hfb,hb3⟩
     have HK3:Hid (Below wk.heap.size wk w3):=HK2.out.trans (hb3.mono hs2)
     have H13:Hid (Below w1.heap.size w1 w3):=H12.out.trans (hb3.mono hs12)
     have HWR:=qa (refFilter_s (w:=w3) (hfl.wide (qi _) (qc _)) (qc _) hb5 hfo)
     rw[hfe] at HWR
     obtain⟨FB,hFB⟩:∃FB,qla (qw L) bits=FB:=⟨_,rfl⟩
     rw[hFB] at HWR hfb HCS
     obtain⟨fl2,hfl2⟩:∃q,FB.length=q:=⟨_,rfl⟩
     rw[hfl2] at HWR hfb
     have hs3:=HK3.out.size
     clear hfl hfe hfo hb3 HMK hFB
     go_wp2_with fail
     refine HWR.out.mono ?_
     rintro r w4 ⟨A4,c4,rfl,ho4,hb4⟩
     have HK4:Hid (Below wk.heap.size wk w4):=HK3.out.trans (hb4.mono hs3)
     obtain⟨p5,hp5⟩:∃p5,p+fl2=p5:=⟨_,rfl⟩
     have ho4b:=j4 ho4 hs3
     have hpk3:=hpb.big (by omega) (by omega)
     obtain⟨A5,c5,w5,hrun5,ho5,hb5',hg5,hq5⟩:=qf4 HOW.out HP.out hszk HK4.out ho4b hfl2 rfl hp5 (by omega)
     have hs4:=HK4.out.size
     have HB5:Hid (Below w.heap.size w w5):=(HBK.out.trans (HK4.out.mono hszk)).trans hb5'
     have HR5:Hid (Row w5 0 w5.heap.size A1 c1 L):=((HR1.out.below (H13.out.trans (hb4.mono H13.out.size)) (qc _)).grown hg5 (ze H13.out.size hb4.size) hq5).wide (qi _) (ze H13.out.size (ze hb4.size hg5.size))
     have HO5:=qa ho5
     have HP5:Hid ((X0++qbc G os bits k++FB).length=p5):=by unfold Hid;rw[qd,HP.out,hfl2,hp5]
     have hpb5:Hid (∀cl r,cl≤1000000→p5+cl=r→PB g (k+1) r):=fun cl r h1 h2=>hpb.step hfb h1 hp5 h2
     have hpk5:p5≤1000000000:=by omega
     clear ho4 ho4b hb4 ho5 hb5' hp5 HWR HOW HP hpb hfl2 hg5 hq5 H12 H13 HK1 HK2 HK3 HR1
     have hs5:=HB5.out.size
     obtain⟨f0,f1,f2,f3⟩:=HCO.out w5 HB5.out
     have htb:=qpn (o:=os[k]) HFT.out HCOK.out HTK.out (by rw[HLL.out];omega) (by have:=HSM.out;omega)
     have hpay:(yj (qw L) os[k] (yu (qw L) os[k])).length≤1000000000000:=by
      rw[qeh,qt,qd] at htb
      omega
     have HCD:=qa (refCode_v (w:=w5) (kd:=os[k].kind) (bl:=os[k].block) (ro:=os[k].rounds) (ds:=os[k].draws) (o:=os[k]) ⟨HR5.out,HRD.out w5 HB5.out,HWD.out,by have:=HDR.out;omega⟩ rfl ⟨HFT.out,HCOK.out⟩ (by rw[HLL.out];omega) HDR.out hpay)
     rw[HLL.out] at HCD
     obtain⟨CL,hCL⟩:∃CL,qeh L os[k]=CL:=⟨_,rfl⟩
     rw[hCL] at HCD htb HCS
     obtain⟨cl,hcl⟩:∃q,CL.length=q:=⟨_,rfl⟩
     rw[hcl] at HCD htb
     obtain⟨kd,hkd⟩:∃z,os[k].kind=z:=⟨_,rfl⟩
     obtain⟨bl,hbl2⟩:∃z,os[k].block=z:=⟨_,rfl⟩
     obtain⟨ro,hro⟩:∃z,os[k].rounds=z:=⟨_,rfl⟩
     obtain⟨dl,hdl⟩:∃z,os[k].draws.length=z:=⟨_,rfl⟩
     rw[hkd] at f0 HCD
     rw[hbl2] at f1 HCD
     rw[hro] at f2 HCD
     rw[hdl] at f3 HCD
     clear hpay hCL hkd hbl2 hro hdl HCO HRD HWD HFT HSM HTK HCOK HDR HR5
     go_wp2_with (at_builtin;refine wpList_append_run rfl _ _ _ _ rfl rfl rfl hrun5 ?_)
     clear hrun5
     refine HCD.out.mono ?_
     rintro r w6 ⟨A6,c6,rfl,ho6,hb6⟩
     obtain⟨p7,hp7⟩:∃p7,p5+cl=p7:=⟨_,rfl⟩
     obtain⟨A7,c7,w7,hrun7,ho7,hb7, -, -⟩:=qf4 HO5.out HP5.out hs5 hb6 ho6 hcl rfl hp7 (by omega)
     have HB7:Hid (Below w.heap.size w w7):=(HB5.out.trans (hb6.mono hs5)).trans hb7
     have hpb7:=hpb5.out cl p7 htb hp7
     have HE:Hid (X0++qbc G os bits k++FB++CL=X0++qbc G os bits (k+1)):=by unfold Hid;rw[HCS.out];simp only[qv]
     have HP7:Hid ((X0++qbc G os bits (k+1)).length=p7):=by unfold Hid;rw[←HE.out,qd,HP5.out,hcl,hp7]
     rw[HE.out] at ho7
     have HO7:=qa ho7
     clear ho6 hb6 ho7 hb7 hp7 HCD HO5 HP5 hpb5 f0 f1 f2 f3 hcl htb
     go_wp2_with (at_builtin;refine wpList_append_run rfl _ _ _ _ rfl rfl rfl hrun7 ?_)
     go_roundw
     case rel=>exact⟨k+1,p7,A7,c7,by omega,by go_num,rfl,HP7.out,hpb7,HO7.out,HB7.out⟩
     case measure=>simp[intOf];omega
    ·
     have ik:¬(k:Int)<(n:Int):=by omega
     have hkn:k=n:=by omega
     have HXN:Hid (HD++qb4 os bits (gs.take (g+1))=X0++qbc G os bits n):=by
      unfold Hid
      rw[HGT.out,HGB.out,←HXE.out]
      simp only[qv]
     subst hkn
     rw[←HXN.out] at HP HOW
     go_wp2_with fail
     go_roundw
     case rel=>exact⟨g+1,p,A',c',by omega,by go_num,rfl,HP.out,hpb.next (by omega),HOW.out,HBK.out⟩
     case measure=>simp[intOf];omega
  ·
   have ig:¬(g:Int)<(gs.length:Int):=by omega
   have HTA:Hid (gs.take g=gs):=qo (by omega)
   rw[HTA.out,HSG.out] at HP HOW
   have HSE:=qa (qlr (w:=wg) SG (Rd.of_own HOW.out) (qc _) (by rw[HP.out];have:=hpb.big (by omega);omega))
   rw[HP.out] at HSE
   go_wp2_with fail
   refine HSE.out.mono ?_
   rintro r w2 ⟨A2,c2,rfl,ho2,hb2⟩
   have HB2:Hid (Below w.heap.size w w2):=HBG.out.trans (hb2.mono hszg)
   have HO2:=qa (j4 ho2 hszg)
   clear ho2 hb2
   rw[HSLN.out] at HO2 ⊢
   go_wp2_with fail
   go_ret
   exact⟨_,_,rfl,HO2.out,HB2.out⟩
end Go.Proofs.YtnjkipnklpkaoaaGreat
