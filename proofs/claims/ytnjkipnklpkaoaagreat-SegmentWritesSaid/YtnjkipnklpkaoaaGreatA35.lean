/-
  Lemmas.
-/
import Derived.Test.YtnjkipnklpkaoaaGreatA34
import Derived.Test.YtnjkipnklpkaoaaGreatA41
namespace Go.Proofs.YtnjkipnklpkaoaaGreat
open Go.RowKit
set_option maxRecDepth 20000
set_option maxHeartbeats 16000000
set_option linter.unusedSimpArgs false
set_option linter.unusedVariables false
theorem qoy{w:World}(L:List Vl){lo c:Nat}{A:Option Addr}(h:Row w lo w.heap.size A c L)(hn:L.length≤1000000) :
  Calls Tryz.prog 39 #[.slice A L.length c] w fun r w'=>∃A1 c1 A2 c2,r= .returned (.tuple #[.slice A1 L.length c1,.slice A2 (qw L).length c2])∧
   w'.ownsRow w.heap.size 4 1 (.slice A1 L.length c1) L.length (lv (xf L))∧w'.ownsRow w.heap.size 9 1 (.slice A2 (qw L).length c2) (qw L).length (sv (qw L))∧Below w.heap.size w w':=by
 obtain⟨hl,hm⟩:=h.len
 have H:=qa h
 clear h
 go_enter Tryz.func39,Tryz.ntmps39
 go_wp2_with fail
 go_loopw [4,5,6] (fun x y i wr=>∃(k:Nat) (ts:List Bool) (ys:List ByteArray) (A1 A2:Option Addr) (c1 c2 n:Nat),k≤L.length∧i= .int .i64 (k:Int)∧xf (L.take k)=ts∧ts.length=k∧qw (L.take k)=ys∧ys.length=n∧n≤k∧x= .slice A1 k c1∧y= .slice A2 n c2∧
  Tw wr w.heap.size 4 9 (.slice A1 k c1) (.slice A2 n c2) k n (lv ts) (sv ys)∧Below w.heap.size w wr) (fun _ _ i _=>L.length-(intOf i).toNat)
 case atStart=>exact⟨0,[],[],none,none,0,0,0,qi _,rfl,rfl,rfl,rfl,rfl,qc _,rfl,rfl,Tw.nil _ _ _ _,Below.refl _ _⟩
 case round =>
  obtain⟨k,ts,ys,A1,A2,c1,c2,n,hk,rfl,hts,htl,hys,hyn,hnk,rfl,rfl,ho,hb⟩:=hrel
  have HTS:=qa hts
  have HTL:=qa htl
  have HY:=qa hys
  have HYN:=qa hyn
  have HO:=qa ho
  have HB:=qa hb
  have hsz:=hb.size
  clear ho hb hys hyn hts htl
  by_cases hlt:k<L.length
  ·
   have ik:(k:Int)<(L.length:Int):=by omega
   obtain⟨b,off,rfl,_,hbl,hc0,hc1⟩:=(H.out.below HB.out (qc _)).get hlt
   have hbw:b<wr.heap.size:=by omega
   have hbw2:b<w.heap.size:=by omega
   have HT:=qa (qlf hlt)
   have HR:Hid (xf (L.take (k+1))=ts++[!L[k].null]):=by
    unfold Hid
    rw[←HTS.out,qg hlt,xf,jg]
    rfl
   rw[HY.out] at HT
   generalize L[k].null=nb at *
   generalize L[k].s=s at *
   go_wp2_with (at_builtin;refine qpz (v:= .slice A1 k c1) w.heap.size ts (!nb) rfl _ _ rfl rfl rfl rfl (by rw[za _ _ _ _ rfl];rfl) (by have:=HO.out.o1.alloc (.cells #[.bool (!nb)] 4);rw[HTL.out];exact this) (by rw[HTL.out];omega) (by simp;omega) ?_;intro A7 c7 w7 ho7 hg7 hb7;refine qaz ?_)
   have hbB:Below w.heap.size w w7:=(HB.out.alloc hsz _).grown hg7 (by simp;omega) (fun q hq=>(zk HO.out.o1 hq).1)
   have hl7:(ts++[!nb]).length=k+1:=by rw[qd,HTL.out];rfl
   rw[hl7] at ho7 hb7
   have HO7:=qa ((HO.out.alloc (.cells #[.bool (!nb)] 4)).left ho7 hg7 hb7)
   have HB7:=qa hbB
   have HL7:=qa hl7
   have HZV:Hid (Value.slice A7 (ts.length+1) c7= .slice A7 (k+1) c7):=by unfold Hid;rw[HTL.out]
   have hs7:=hbB.size
   have d0:w7.cell? ⟨b,off+k*2,none⟩=some (.bool nb):=by rw[HB7.out.cell (p:=⟨b,off+k*2,none⟩) hbw2,←HB.out.cell (p:=⟨b,off+k*2,none⟩) hbw2];exact hc0
   have d1:w7.cell? ⟨b,off+k*2+1,none⟩=some (.string s):=by rw[HB7.out.cell (p:=⟨b,off+k*2+1,none⟩) hbw2,←HB.out.cell (p:=⟨b,off+k*2+1,none⟩) hbw2];exact hc1
   clear ho7 hg7 hb7 hl7 HO HB hbB hc0 hc1
   refine⟨?_⟩
   cases nb with
   | true =>
    have HT2:Hid (qw (L.take (k+1))=ys):=by unfold Hid;rw[HT.out];simp
    clear HT
    go_wp2_with fail
    go_roundw
    case rel=>exact⟨k+1,_,ys,A7,A2,c7,c2,n,by omega,by go_num,HR.out,HL7.out,HT2.out,HYN.out,by omega,HZV.out,rfl,HO7.out,HB7.out⟩
    case measure=>simp[intOf];omega
   | false =>
    obtain⟨zs,hzs⟩:∃zs,ys++[s]=zs:=⟨_,rfl⟩
    have HT2:Hid (qw (L.take (k+1))=zs):=by unfold Hid;rw[HT.out,←hzs];simp
    have hzl:zs.length=n+1:=by rw[←hzs,qd,HYN.out];rfl
    have HZL:=qa hzl
    have HZS:=qa hzs
    clear HT hzl hzs
    go_wp2_with (at_builtin;refine push_str_at (v:= .slice A2 n c2) w.heap.size ys s rfl _ _ rfl rfl rfl rfl (by rw[za _ _ _ _ rfl];rfl) (by have:=HO7.out.o2.alloc (.cells #[.string s] 9);rw[HYN.out];exact this) (by rw[HYN.out];omega) (by simp;omega) ?_;intro A8 c8 w8 ho8 hg8 hb8;refine qaz ?_)
    have hbB:Below w.heap.size w w8:=(HB7.out.alloc hs7 _).grown hg8 (by simp;omega) (fun q hq=>(zk HO7.out.o2 hq).1)
    rw[HZS.out,HYN.out] at ho8
    rw[HYN.out] at hb8
    have HO8:=qa ((HO7.out.alloc (.cells #[.string s] 9)).right ho8 hg8 hb8)
    have HB8:=qa hbB
    have HZV8:Hid (Value.slice A8 (ys.length+1) c8= .slice A8 (n+1) c8):=by unfold Hid;rw[HYN.out]
    clear ho8 hg8 hb8 hbB HO7 HB7 HZS
    refine⟨?_⟩
    go_wp2_with fail
    go_roundw
    case rel=>exact⟨k+1,_,zs,A7,A8,c7,c8,n+1,by omega,by go_num,HR.out,HL7.out,HT2.out,HZL.out,by omega,HZV.out,HZV8.out,HO8.out,HB8.out⟩
    case measure=>simp[intOf] <;> omega
  ·
   have ik:¬(k:Int)<(L.length:Int):=by omega
   have hkl:k=L.length:=by omega
   subst hkl
   have hke:L.take L.length=L:=yf
   rw[hke] at HY HTS
   go_wp2_with fail
   go_ret2
   rw[HY.out,HYN.out,HTS.out]
   exact⟨_,_,_,_,rfl,HO.out.o1,HO.out.o2,HB.out⟩
theorem refColumn_v{w:World}{rs:List (List Vl)}{cc:Nat}{A:Option Addr}(h:vr w 0 w.heap.size A cc rs)(k:Nat)(hk:∀r∈rs,k<r.length)(hn:rs.length≤1000000) :
  Calls Tryz.prog 37 #[.slice A rs.length cc,.int .i64 (k:Int)] w fun r w'=>∃A' c',r= .returned (.slice A' rs.length c')∧w'.ownsRow w.heap.size 60 2 (.slice A' rs.length c') rs.length (vv (vg rs k))∧Below w.heap.size w w':=by
 obtain⟨hl,hm⟩:=h.len
 have H:Hid (∀W,Below w.heap.size w W→vr W 0 W.heap.size A cc rs):=fun W hW=>(h.below hW (qc _)).wide (qc _) hW.size
 have HK:Hid (∀i (hi:i<rs.length),k<rs[i].length):=fun i hi=>hk _ (qj hi)
 clear h hk
 go_enter Tryz.func37,Tryz.ntmps37
 go_wp2_with fail
 go_loopw [5,6] (fun x5 x6 wr=>∃(i:Nat) (A':Option Addr) (c':Nat),i≤rs.length∧x6= .int .i64 (i:Int)∧x5= .slice A' i c'∧Hid (wr.ownsRow w.heap.size 60 2 (.slice A' i c') i (vv (vg (rs.take i) k)))∧Below w.heap.size w wr) (fun _ x6 _=>rs.length-(intOf x6).toNat)
 case atStart=>exact⟨0,none,0,qi _,rfl,rfl,zh _ _ _ _,Below.refl _ _⟩
 case round =>
  obtain⟨i,A',c',hi,rfl,rfl,HO,hb⟩:=hrel
  have HB:=qa hb
  have hszr:=hb.size
  clear hb
  by_cases hlt:i<rs.length
  ·
   have ii:(i:Int)<(rs.length:Int):=by omega
   have ii0:(0:Int)≤(i:Int):=by omega
   obtain⟨b,off,A2,c2,rfl,_,hbl,hcell,hrow⟩:=(H.out wr HB.out).get hlt
   have hkr:=HK.out i hlt
   obtain⟨hl2,hm2⟩:=hrow.len
   obtain⟨b2,off2,rfl,_,hbl2,hx0,hx1⟩:=hrow.get hkr
   have ik:(k:Int)<(rs[i].length:Int):=by omega
   have ik0:(0:Int)≤(k:Int):=by omega
   obtain⟨n2,hn2⟩:∃n2,rs[i].length=n2:=⟨_,rfl⟩
   rw[hn2] at ik hl2 hcell
   have HC:=qa (colV_take hlt hkr)
   have hcl:(vg (rs.take i) k).length=i:=by rw[qa7,qy];omega
   have HCL:=qa hcl
   obtain⟨e,he⟩:∃e,rs[i][k]=e:=⟨_,rfl⟩
   rw[he] at hx0 hx1 HC
   clear hrow hcl he hn2 hkr
   go_wp2_with (first | (refine qr0 e rfl _ rfl rfl ?_) | (at_builtin;refine qrz (v:= .slice A' i c') w.heap.size (vg (rs.take i) k) e HCL.out rfl _ _ rfl rfl rfl rfl (by rw[za _ _ _ _ rfl];rfl) (by rw[za _ _ _ _ rfl];rfl) (HO.out.alloc _) (by omega) (by simp;omega) ?_;intro A5 c5 w5 ho5 hg5 hq5))
   have HB5:Hid (Below w.heap.size w w5):=(HB.out.alloc hszr (.cells (qcn e).toArray 60)).grown hg5 (by simp;omega) (fun q hq=>(zk (HO.out.alloc (.cells (qcn e).toArray 60)) hq).1)
   go_roundw
   case rel=>exact⟨i+1,A5,c5,by omega,by go_num,rfl,by rw[HC.out];exact ho5,HB5.out⟩
   case measure=>simp[intOf];omega
  ·
   have ii:¬(i:Int)<(rs.length:Int):=by omega
   have e1:i=rs.length:=by omega
   subst e1
   have HO2:=HO.out
   rw[qo (qc _)] at HO2
   have HO3:=qa HO2
   clear HO HO2
   go_wp2_with fail
   go_ret
   exact⟨_,_,rfl,HO3.out,HB.out⟩
theorem refRight_v{w:World}(L:List Vl)(o:Co){lo c d:Nat}{A B:Option Addr}(h:Row w lo w.heap.size A c L)(hd:Rd w 0 w.heap.size B d (iv o.draws)) :
  Calls Tryz.prog 36 #[.slice A L.length c,.agg #[.int .i64 o.kind,.int .i64 o.block,.int .i64 o.rounds,.slice B o.draws.length d]] w fun r w'=>r= .returned (.bool (decide (kj L∧qa3 o)))∧Below w.heap.size w w':=by
 obtain⟨hl,hm⟩:=h.len
 obtain⟨v,hv⟩:∃v,decide (kj L∧qa3 o)=v:=⟨_,rfl⟩
 rw[hv]
 have HF:Hid (¬qa3 o→v=false):=fun h=>by rw[←hv];exact ql fun h1=>h h1.2
 have HT:Hid (kj L→qa3 o→v=true):=fun h h2=>by rw[←hv];exact qp ⟨h,h2⟩
 have HV0:Hid (∀k (hk:k<L.length),¬qm8 L[k]→v=false):=fun k hk h0=>by rw[←hv];exact ql fun h1=>h0 (h1.1.2 _ (qj hk))
 have HV1:Hid (¬L.length≤4096→v=false):=fun h0=>by rw[←hv];exact ql fun h1=>h0 h1.1.1
 have hl2:=hd.len
 have hm2:=hd.cap
 rw[ji] at hl2
 clear hv hd
 unfold qa3 at HF HT
 obtain⟨kd,bl,ro,ds⟩:=o
 simp only at *
 generalize ds.length=n at *
 have H:=qa h
 clear h
 go_enter Tryz.func36,Tryz.ntmps36
 by_cases h0:L.length≤4096
 ·
  have i0:¬4096<(L.length:Int):=by omega
  by_cases h1:0≤kd
  ·
   have i1:¬kd<0:=by omega
   by_cases h2:kd≤3
   ·
    have i2:¬3<kd:=by omega
    by_cases h3:1≤bl
    ·
     have i3:¬bl<1:=by omega
     by_cases h4:bl≤64
     ·
      have i4:¬64<bl:=by omega
      by_cases h5:0≤ro
      ·
       have i5:¬ro<0:=by omega
       by_cases h6:ro≤8
       ·
        have i6:¬8<ro:=by omega
        by_cases h7:n≤4096
        ·
         have i7:¬4096<(n:Int):=by omega
         have HT2:Hid (kj L→v=true):=fun hf=>HT.out hf ⟨h1,h2,h3,h4,h5,h6,h7⟩
         clear HT HF
         go_wp2_with fail
         go_loopw [5] (fun i wr=>∃k:Nat,k≤L.length∧i= .int .i64 (k:Int)∧(∀j (hj:j<L.length),j<k→qm8 L[j])∧Below w.heap.size w wr) (fun i _=>L.length-(intOf i).toNat)
         case atStart=>exact⟨0,qi _,rfl,fun j hj h0=>by omega,(Below.refl _ _).alloc (qc _) _⟩
         case round =>
          obtain⟨k,hk,rfl,ha,hb⟩:=hrel
          have HA:=qa ha
          have HB:=qa hb
          clear ha hb
          by_cases hlt:k<L.length
          ·
           have ik:(k:Int)<(L.length:Int):=by omega
           obtain⟨b,off,rfl,_,hbl,hc0,hc1⟩:=(H.out.below HB.out (qc _)).get hlt
           have HN:Hid (qm8 L[k]→∀j (hj:j<L.length),j<k+1→qm8 L[j]):=fun h5 j hj hjk=>by
            by_cases e:j=k
            ·
             subst e;exact h5
            ·
             exact HA.out j hj (by omega)
           have HF:=qa (HV0.out k hlt)
           clear HA
           unfold qm8 at HN HF
           generalize L[k].null=nb at *
           generalize L[k].s=s at *
           by_cases h5:s.size≤4096
           ·
            have i5:¬(4096:Int)<(s.size:Int):=by omega
            cases nb with
            | true =>
             by_cases he:s=⟨#[]⟩
             ·
              subst he
              go_wp2_with fail
              go_roundw
              case rel=>exact⟨k+1,by omega,by go_num,HN.out ⟨h5,fun _=>rfl⟩,HB.out⟩
              case measure=>simp[intOf];omega
             ·
              have hne:s.toList.isEmpty=false:=isEmpty_ne he
              have hvf:v=false:=HF.out (fun h=>he (h.2 rfl))
              subst hvf
              go_wp2_with fail
              go_ret
              exact⟨rfl,HB.out⟩
            | false =>
             go_wp2_with fail
             go_roundw
             case rel=>exact⟨k+1,by omega,by go_num,HN.out ⟨h5,fun h=>by cases h⟩,HB.out⟩
             case measure=>simp[intOf];omega
           ·
            have i5:(4096:Int)<(s.size:Int):=by omega
            have hvf:v=false:=HF.out (fun h=>h5 h.1)
            subst hvf
            go_wp2_with fail
            go_ret
            exact⟨rfl,HB.out⟩
          ·
           have ik:¬(k:Int)<(L.length:Int):=by omega
           have hvt:v=true:=HT2.out ⟨h0,fun x hx=>by obtain⟨j,hj,rfl⟩:=zq hx;exact HA.out j hj (by omega)⟩
           subst hvt
           go_wp2_with fail
           go_ret
           exact⟨rfl,HB.out⟩
        ·
         have i7:4096<(n:Int):=by omega
         obtain rfl:v=false:=HF.out (fun h=>h7 h.2.2.2.2.2.2)
         go_wp2_with fail
         go_ret
         exact⟨rfl,(Below.refl _ _).alloc (qc _) _⟩
       ·
        have i6:8<ro:=by omega
        obtain rfl:v=false:=HF.out (fun h=>h6 h.2.2.2.2.2.1)
        go_wp2_with fail
        go_ret
        exact⟨rfl,(Below.refl _ _).alloc (qc _) _⟩
      ·
       have i5:ro<0:=by omega
       obtain rfl:v=false:=HF.out (fun h=>h5 h.2.2.2.2.1)
       go_wp2_with fail
       go_ret
       exact⟨rfl,(Below.refl _ _).alloc (qc _) _⟩
     ·
      have i4:64<bl:=by omega
      obtain rfl:v=false:=HF.out (fun h=>h4 h.2.2.2.1)
      go_wp2_with fail
      go_ret
      exact⟨rfl,(Below.refl _ _).alloc (qc _) _⟩
    ·
     have i3:bl<1:=by omega
     obtain rfl:v=false:=HF.out (fun h=>h3 h.2.2.1)
     go_wp2_with fail
     go_ret
     exact⟨rfl,(Below.refl _ _).alloc (qc _) _⟩
   ·
    have i2:3<kd:=by omega
    obtain rfl:v=false:=HF.out (fun h=>h2 h.2.1)
    go_wp2_with fail
    go_ret
    exact⟨rfl,(Below.refl _ _).alloc (qc _) _⟩
  ·
   have i1:kd<0:=by omega
   obtain rfl:v=false:=HF.out (fun h=>h1 h.1)
   go_wp2_with fail
   go_ret
   exact⟨rfl,(Below.refl _ _).alloc (qc _) _⟩
 ·
  have i0:4096<(L.length:Int):=by omega
  obtain rfl:v=false:=HV1.out h0
  go_wp2_with fail
  go_ret
  exact⟨rfl,(Below.refl _ _).alloc (qc _) _⟩
theorem Row.nil_(w:World)(lo hi:Nat):Row w lo hi none 0 []:=⟨Els.nil _ _ _ _ _,fun v hv=>by cases hv⟩
theorem qnc{w:World}{rs:List (List Vl)}{cc:Nat}{A:Option Addr}(h:vr w 0 w.heap.size A cc rs)(k:Nat)(hk:∀r∈rs,k<r.length)(hn:rs.length≤1000000) :
  Calls Tryz.prog 37 #[.slice A rs.length cc,.int .i64 (k:Int)] w fun r w'=>∃A' c',r= .returned (.slice A' rs.length c')∧Row w' w.heap.size w'.heap.size A' c' (vg rs k)∧Below w.heap.size w w':=by
 have hok:∀v∈vg rs k,v.s.size≤9223372036854775807:=fun v hv=>by
  obtain⟨r,hr,rfl⟩:=zn.1 hv
  obtain⟨j,hj,rfl⟩:=zq hr
  obtain⟨_,_,_,_,_,_,_,_,hrow⟩:=h.get hj
  have hkj:=hk _ hr
  rw[List.getD,qe hkj]
  exact hrow.ok _ (qj hkj)
 refine(refColumn_v h k hk hn).mono ?_
 rintro r w' ⟨A',c',h1,h2,h3⟩
 exact⟨A',c',h1,qow h2 (qa7 rs k) hok,h3⟩
theorem qox{w:World}{gs:List (List (List Vl))}{os:List Co}{A B:Option Addr}{c d:Nat}(cols bits:Int)(h:qax w 0 w.heap.size A c gs)(ho:qbu w 0 w.heap.size B d os)(hz:qoi gs) :
  Calls Tryz.prog 12 #[.int .i64 cols,.slice A gs.length c,.slice B os.length d,.int .i64 bits] w fun r w'=>r= .returned (.bool (decide (jaa cols gs os bits)))∧Below w.heap.size w w':=by
 obtain⟨hl,hm⟩:=h.len
 obtain⟨hl2,hm2⟩:=ho.len
 have H:Hid (∀W,Below w.heap.size w W→qax W 0 W.heap.size A c gs):=fun W hW=>(h.below hW (qc _)).wide (qc _) hW.size
 have HO:Hid (∀W,Below w.heap.size w W→qbu W 0 W.heap.size B d os):=fun W hW=>(ho.below hW (qc _)).wide (qc _) hW.size
 have HZ:Hid (∀i (hi:i<gs.length),gs[i].length≤140737488355328):=fun i hi=>(hz _ (qj hi)).1
 obtain⟨v,hv⟩:∃v,decide (jaa cols gs os bits)=v:=⟨_,rfl⟩
 rw[hv]
 have HF:Hid (¬jaa cols gs os bits→v=false):=fun h=>by rw[←hv];exact ql h
 have HT:Hid (jaa cols gs os bits→v=true):=fun h=>by rw[←hv];exact qp h
 clear h ho hz hv
 go_enter Tryz.func12,Tryz.ntmps12
 by_cases h1:cols<1
 ·
  obtain rfl:v=false:=HF.out fun h=>by have:=h.1;omega
  go_wp2_with fail
  go_ret
  exact⟨rfl,Below.refl _ _⟩
 by_cases h2:8<cols
 ·
  obtain rfl:v=false:=HF.out fun h=>by have:=h.2.1;omega
  go_wp2_with fail
  go_ret
  exact⟨rfl,Below.refl _ _⟩
 by_cases h3:¬(os.length:Int)=cols
 ·
  obtain rfl:v=false:=HF.out fun h=>h3 h.2.2.1
  have h3b:((os.length:Int) != cols)=true:=by rw[bne_iff_ne];exact h3
  go_wp2_with fail
  go_ret
  exact⟨rfl,Below.refl _ _⟩
 have h3:=Decidable.not_not.1 h3
 by_cases h4:bits<0
 ·
  obtain rfl:v=false:=HF.out fun h=>by have:=h.2.2.2.1;omega
  go_wp2_with fail
  go_ret
  exact⟨rfl,Below.refl _ _⟩
 by_cases h5:65536<bits
 ·
  obtain rfl:v=false:=HF.out fun h=>by have:=h.2.2.2.2.1;omega
  go_wp2_with fail
  go_ret
  exact⟨rfl,Below.refl _ _⟩
 have HB:Hid (1≤cols∧cols≤8∧(os.length:Int)=cols∧0≤bits∧bits≤65536):=⟨by omega,by omega,h3,by omega,by omega⟩
 obtain⟨n,hn⟩:∃n,os.length=n:=⟨_,rfl⟩
 have HN:=qa hn
 have hn8:n≤8:=by omega
 have hc:cols=(n:Int):=by omega
 rw[hn] at hl2 ⊢
 subst hc
 clear hn h3
 have hn1:1≤n:=by omega
 have i1:¬(n:Int)<1:=h1
 have i2:¬(8:Int)<(n:Int):=h2
 clear h1 h2
 go_wp2_with fail
 go_loopw [10] (fun x wr=>∃k:Nat,k≤n∧x= .int .i64 (k:Int)∧Hid (∀j (hj:j<os.length),j<k→qa3 os[j])∧Below w.heap.size w wr) (fun x _=>n-(intOf x).toNat)
 case atStart=>exact⟨0,qi _,rfl,fun j hj h0=>absurd h0 (jp j),Below.refl _ _⟩
 case round =>
  obtain⟨k,hk,rfl,HC,hb⟩:=hrel
  have HBW:=qa hb
  have hszr:=hb.size
  clear hb
  by_cases hlt:k<n
  ·
   have ik:(k:Int)<(n:Int):=by omega
   have ik0:(0:Int)≤(k:Int):=by omega
   have hko:k<os.length:=by rw[HN.out];exact hlt
   obtain⟨b,off,A2,c2,rfl,_,hbl,e0,e1,e2,e3,hrd,hwd⟩:=(HO.out wr HBW.out).get hko
   have HRI:=qa (refRight_v (w:=wr) [] os[k] (Row.nil_ wr 0 wr.heap.size) hrd)
   have hiff:(kj []∧qa3 os[k])↔qa3 os[k]:=⟨fun h=>h.2,fun h=>⟨fits_nil,h⟩⟩
   have HC0:Hid (¬qa3 os[k]→v=false):=fun h=>HF.out fun h9=>h (h9.2.2.2.2.2.1 _ (qj hko))
   have HC1:Hid (qa3 os[k]→∀j (hj:j<os.length),j<k+1→qa3 os[j]):=fun h j hj hj2=>by
    by_cases e:j=k
    ·
     subst e;exact h
    ·
     exact HC.out j hj (by omega)
   obtain⟨q,hq⟩:∃q,decide (kj []∧qa3 os[k])=q:=⟨_,rfl⟩
   rw[hq] at HRI
   have HQ:Hid (q=true↔qa3 os[k]):=by unfold Hid;rw[←hq,decide_eq_true_iff,hiff]
   obtain⟨kd,hkd⟩:∃z,os[k].kind=z:=⟨_,rfl⟩
   obtain⟨bl,hbl2⟩:∃z,os[k].block=z:=⟨_,rfl⟩
   obtain⟨ro,hro⟩:∃z,os[k].rounds=z:=⟨_,rfl⟩
   obtain⟨dl,hdl⟩:∃z,os[k].draws.length=z:=⟨_,rfl⟩
   rw[hkd] at e0 HRI
   rw[hbl2] at e1 HRI
   rw[hro] at e2 HRI
   rw[hdl] at e3 HRI
   clear hrd hwd hiff hq hkd hbl2 hro hdl HC
   go_wp2_with fail
   refine HRI.out.mono ?_
   rintro r w2 ⟨rfl,hb2⟩
   have HB2:Hid (Below w.heap.size w w2):=HBW.out.trans (hb2.mono hszr)
   clear hb2 HRI
   cases q with
   | true =>
    have HC2:=qa (HC1.out (HQ.out.1 rfl))
    go_wp2_with fail
    go_roundw
    case rel=>exact⟨k+1,by omega,by go_num,HC2.out,HB2.out⟩
    case measure=>simp[intOf];omega
   | false =>
    obtain rfl:v=false:=HC0.out fun h=>by have:=HQ.out.2 h;cases this
    go_wp2_with fail
    go_ret
    exact⟨rfl,HB2.out⟩
  ·
   have ik:¬(k:Int)<(n:Int):=by omega
   have HCA:Hid (∀o∈os,qa3 o):=fun o ho=>by
    obtain⟨j,hj,rfl⟩:=zq ho
    exact HC.out j hj (by have:=HN.out;omega)
   clear HC
   go_wp2_with fail
   go_loopw [9,11] (fun x9 x11 wr=>∃(g m:Nat),g≤gs.length∧x11= .int .i64 (g:Int)∧x9= .int .i64 (m:Int)∧Hid (m=ki (gs.take g))∧m≤4096∧Hid (∀i (hi:i<gs.length),i<g→qj9 n gs[i])∧Below w.heap.size w wr) (fun _ x11 _=>gs.length-(intOf x11).toNat)
   case atStart=>exact⟨0,0,qi _,rfl,rfl,rfl,by omega,fun i hi h0=>absurd h0 (jp i),HBW.out⟩
   case round =>
    obtain⟨g,m,hg,rfl,rfl,HM,hm4,HG,hb⟩:=hrel
    obtain⟨wg,hwg⟩:∃wg,wg=wr:=⟨_,rfl⟩
    subst hwg
    have HBG:=qa hb
    have hszg:=hb.size
    clear hb
    by_cases hgl:g<gs.length
    ·
     have ig:(g:Int)<(gs.length:Int):=by omega
     have ig0:(0:Int)≤(g:Int):=by omega
     obtain⟨b,off,A1,c1,rfl,_,hbl,hcell,hrows⟩:=(H.out wg HBG.out).get hgl
     have hz1:=HZ.out g hgl
     obtain⟨hrl,hrm⟩:=hrows.len
     have HRW:Hid (∀W,Below wg.heap.size wg W→vr W 0 W.heap.size A1 c1 gs[g]):=fun W hW=>(hrows.below hW (qc _)).wide (qc _) hW.size
     have HMT:=qa (qfz hgl)
     have HGF:Hid (¬qj9 n gs[g]→v=false):=fun h=>HF.out fun h9=>h (by have:=h9.2.2.2.2.2.2.2 _ (qj hgl);rwa [HN.out] at this)
     have HRF:Hid (¬ki (gs.take (g+1))≤4096→v=false):=fun h=>HF.out fun h9=>h (ze (qjo gs (g+1)) h9.2.2.2.2.2.2.1)
     have HGN:Hid (qj9 n gs[g]→∀i (hi:i<gs.length),i<g+1→qj9 n gs[i]):=fun h i hi hi2=>by
      by_cases e:i=g
      ·
       subst e;exact h
      ·
       exact HG.out i hi (by omega)
     obtain⟨G,hG⟩:∃G,gs[g]=G:=⟨_,rfl⟩
     rw[hG] at hcell hz1 hrl HRW HMT HGF HGN
     obtain⟨gl,hgl2⟩:∃gl,G.length=gl:=⟨_,rfl⟩
     have HGL:=qa hgl2
     rw[hgl2] at hcell hz1 hrl HMT
     have HCG:Hid (∀W,Below wg.heap.size wg W→W.cell? ⟨b,off+g,none⟩=some (.slice A1 gl c1)):=fun W hW=>(hW.cell (p:=⟨b,off+g,none⟩) hbl).trans hcell
     obtain⟨mm,hmm⟩:∃mm,m+gl=mm:=⟨_,rfl⟩
     have hwm:IntKind.i64.wrap ((m:Int)+(gl:Int))=(mm:Int):=by rw[z8 _ (by omega)];omega
     have hgm:gl≤mm:=by omega
     have HMM:Hid (mm=ki (gs.take (g+1))):=by unfold Hid;rw[HMT.out,←HM.out,hmm]
     clear hrows hG hgl2 hmm HG HM HMT
     by_cases hg0:gl=0
     ·
      obtain rfl:v=false:=HGF.out fun h=>by have:=h.1;rw[HGL.out] at this;omega
      have ig00:(gl:Int)=0:=by omega
      go_wp2_with fail
      go_ret
      exact⟨rfl,HBG.out⟩
     have ig00:¬(gl:Int)=0:=by omega
     by_cases hm5:¬mm≤4096
     ·
      obtain rfl:v=false:=HRF.out (by rw[←HMM.out];exact hm5)
      have im5:(4096:Int)<(mm:Int):=by omega
      go_wp2_with fail
      go_ret
      exact⟨rfl,HBG.out⟩
     have hm5:=Decidable.not_not.1 hm5
     have im5:¬(4096:Int)<(mm:Int):=by omega
     go_wp2_with fail
     go_loopw [12] (fun x wr=>∃i:Nat,i≤gl∧x= .int .i64 (i:Int)∧Hid (∀j (hj:j<G.length),j<i→G[j].length=n)∧wr=wg) (fun x _=>gl-(intOf x).toNat)
     case atStart=>exact⟨0,qi _,rfl,fun j hj h0=>absurd h0 (jp j),rfl⟩
     case round =>
      obtain⟨i,hi,rfl,HL,hwe⟩:=hrel
      have hwe':wg=wr:=hwe.symm
      subst hwe'
      by_cases hil:i<gl
      ·
       have ii:(i:Int)<(gl:Int):=by omega
       have ii0:(0:Int)≤(i:Int):=by omega
       have hiG:i<G.length:=by rw[HGL.out];exact hil
       obtain⟨b2,off2,A2,c2,rfl,_,hbl2,hcell2,hrow⟩:=(HRW.out wg (Below.refl _ _)).get hiG
       obtain⟨hrl2,hrm2⟩:=hrow.len
       obtain⟨rl,hrl3⟩:∃rl,G[i].length=rl:=⟨_,rfl⟩
       have HRL:=qa hrl3
       rw[hrl3] at hcell2 hrl2
       clear hrow hrl3
       by_cases he:rl=n
       ·
        have ie:(rl:Int)=(n:Int):=by omega
        have HL2:Hid (∀j (hj:j<G.length),j<i+1→G[j].length=n):=fun j hj hj2=>by
         by_cases e:j=i
         ·
          subst e;rw[HRL.out];exact he
         ·
          exact HL.out j hj (by omega)
        subst he
        clear HL ie
        go_wp2_with fail
        go_roundw
        case rel=>exact⟨i+1,by omega,by go_num,HL2.out,by first | exact trivial | rfl⟩
        case measure=>simp[intOf];omega
       ·
        have ie:¬(rl:Int)=(n:Int):=by omega
        have ieb:((rl:Int) != (n:Int))=true:=by rw[bne_iff_ne];exact ie
        obtain rfl:v=false:=HGF.out fun h=>he (by rw[←HRL.out];exact h.2.1 _ (qj hiG))
        clear he
        go_wp2_with fail
        go_ret
        exact⟨rfl,HBG.out⟩
      ·
       have ii:¬(i:Int)<(gl:Int):=by omega
       have HLA:Hid (∀r∈G,r.length=n):=fun r hr=>by
        obtain⟨j,hj,rfl⟩:=zq hr
        exact HL.out j hj (by have:=HGL.out;omega)
       clear HL
       go_wp2_with fail
       go_loopw [13] (fun x wr=>∃k:Nat,k≤n∧x= .int .i64 (k:Int)∧Hid (∀j,j<k→kj (vg G j))∧Below wg.heap.size wg wr) (fun x _=>n-(intOf x).toNat)
       case atStart=>exact⟨0,qi _,rfl,fun j h0=>absurd h0 (jp j),Below.refl _ _⟩
       case round =>
        obtain⟨k2,hk2,rfl,HFV,hb⟩:=hrel
        have HBK:=qa hb
        have hszk:=hb.size
        clear hb
        by_cases hkl:k2<n
        ·
         have ik2:(k2:Int)<(n:Int):=by omega
         have ik20:(0:Int)≤(k2:Int):=by omega
         have hko:k2<os.length:=by rw[HN.out];exact hkl
         have HBWK:Hid (Below w.heap.size w wr):=HBG.out.trans (HBK.out.mono hszg)
         obtain⟨b9,off9,A9,c9,rfl,_,hbl9,e0,e1,e2,e3,hrd,hwd⟩:=(HO.out wr HBWK.out).get hko
         have HCK:Hid (∀W,Below wr.heap.size wr W→W.cell? ⟨b,off+g,none⟩=some (.slice A1 gl c1)∧W.cell? ⟨b9,off9+k2*4,none⟩=some (.int .i64 os[k2].kind)∧W.cell? ⟨b9,off9+k2*4+1,none⟩=some (.int .i64 os[k2].block)∧W.cell? ⟨b9,off9+k2*4+2,none⟩=some (.int .i64 os[k2].rounds)∧W.cell? ⟨b9,off9+k2*4+3,none⟩=some (.slice A9 os[k2].draws.length c9)):=fun W hW=>⟨HCG.out W (HBK.out.trans (hW.mono hszk)),(hW.cell (p:=⟨b9,off9+k2*4,none⟩) hbl9).trans e0,(hW.cell (p:=⟨b9,off9+k2*4+1,none⟩) hbl9).trans e1,(hW.cell (p:=⟨b9,off9+k2*4+2,none⟩) hbl9).trans e2,(hW.cell (p:=⟨b9,off9+k2*4+3,none⟩) hbl9).trans e3⟩
         have HCL:Hid (∀W,Below wr.heap.size wr W→Calls Tryz.prog 37 #[.slice A1 gl c1,.int .i64 (k2:Int)] W fun r w'=>∃A' c',r= .returned (.slice A' gl c')∧Row w' W.heap.size w'.heap.size A' c' (vg G k2)∧Below W.heap.size W w'):=fun W hW=>by
          have:=qnc (HRW.out W (HBK.out.trans (hW.mono hszk))) k2 (fun r hr=>by rw[HLA.out r hr];exact hkl) (by have:=HGL.out;omega)
          rw[HGL.out] at this
          exact this
         obtain⟨q,hq⟩:∃q,decide (kj (vg G k2)∧qa3 os[k2])=q:=⟨_,rfl⟩
         have HRI:Hid (∀W A' c',Below wr.heap.size wr W→Row W 0 W.heap.size A' c' (vg G k2)→Calls Tryz.prog 36 #[.slice A' gl c',.agg #[.int .i64 os[k2].kind,.int .i64 os[k2].block,.int .i64 os[k2].rounds,.slice A9 os[k2].draws.length c9]] W fun r w'=>r= .returned (.bool q)∧Below W.heap.size W w'):=fun W A' c' hW hr=>by
          have:=refRight_v (vg G k2) os[k2] hr ((hrd.below hW (qc _)).wide (qc _) hW.size)
          rw[hq,qa7,HGL.out] at this
          exact this
         have HC0:Hid (q=false→v=false):=fun h=>HGF.out fun h9=>by
          have:decide (kj (vg G k2)∧qa3 os[k2])=true:=qp ⟨h9.2.2 k2 hkl,HCA.out _ (qj hko)⟩
          rw[hq,h] at this
          cases this
         have HC1:Hid (q=true→∀j,j<k2+1→kj (vg G j)):=fun h j hj=>by
          by_cases e:j=k2
          ·
           subst e
           rw[←hq,decide_eq_true_iff] at h
           exact h.1
          ·
           exact HFV.out j (by omega)
         obtain⟨kd,hkd⟩:∃z,os[k2].kind=z:=⟨_,rfl⟩
         obtain⟨bl,hbl2⟩:∃z,os[k2].block=z:=⟨_,rfl⟩
         obtain⟨ro,hro⟩:∃z,os[k2].rounds=z:=⟨_,rfl⟩
         obtain⟨dl,hdl⟩:∃z,os[k2].draws.length=z:=⟨_,rfl⟩
         rw[hkd,hbl2,hro,hdl] at HCK HRI
         clear hrd hwd hq hkd hbl2 hro hdl HFV e0 e1 e2 e3
         go_wp2_with fail
         have KD:Hid (Below wr.heap.size wr wr.drew):=(Below.refl _ _).drew
         refine wp_region_held_drew (S:=fun w'=>Below wr.heap.size wr w') (by kernel_rfl) KD.out (fun hHeld => ?_)
         refine tk 0 ?_ rfl hHeld ?_ ?_
         rotate_left
         focus (intro W hSw;obtain⟨q0,q1,q2,q3,q4⟩:=HCK.out W hSw;go_simp;try with_reducible rfl)
         try simp only[jv,Act.put]
         refine tk 1 ?_ rfl hHeld ?_ ?_
         rotate_left
         focus (intro W hSw;obtain⟨q0,q1,q2,q3,q4⟩:=HCK.out W hSw;go_simp;try with_reducible rfl)
         try simp only[jv,Act.put]
         refine tk 2 ?_ rfl hHeld ?_ ?_
         rotate_left
         focus (intro W hSw;obtain⟨q0,q1,q2,q3,q4⟩:=HCK.out W hSw;go_simp;try with_reducible rfl)
         try simp only[jv,Act.put]
         refine tk 3 ?_ rfl hHeld ?_ ?_
         rotate_left
         focus (intro W hSw;obtain⟨q0,q1,q2,q3,q4⟩:=HCK.out W hSw;go_simp;try with_reducible rfl)
         try simp only[jv,Act.put]
         refine tk 4 ?_ rfl hHeld ?_ ?_
         rotate_left
         focus (intro W hSw;obtain⟨q0,q1,q2,q3,q4⟩:=HCK.out W hSw;go_simp;try with_reducible rfl)
         try simp only[jv,Act.put]
         refine tk 6 ?_ rfl hHeld ?_ ?_
         rotate_left
         focus (intro W hSw;obtain⟨q0,q1,q2,q3,q4⟩:=HCK.out W hSw;go_simp;try with_reducible rfl)
         try simp only[jv,Act.put]
         refine tk 7 ?_ rfl hHeld ?_ ?_
         rotate_left
         focus (intro W hSw;obtain⟨q0,q1,q2,q3,q4⟩:=HCK.out W hSw;go_simp;try with_reducible rfl)
         try simp only[jv,Act.put]
         refine tk 8 ?_ rfl hHeld ?_ ?_
         rotate_left
         focus (intro W hSw;obtain⟨q0,q1,q2,q3,q4⟩:=HCK.out W hSw;go_simp;try with_reducible rfl)
         try simp only[jv,Act.put]
         refine tk 9 ?_ rfl hHeld ?_ ?_
         rotate_left
         focus (intro W hSw;obtain⟨q0,q1,q2,q3,q4⟩:=HCK.out W hSw;go_simp;try with_reducible rfl)
         try simp only[jv,Act.put]
         obtain⟨wd,hwd⟩:∃q,wr.drew=q:=⟨_,rfl⟩
         rw[hwd] at hHeld ⊢
         clear KD hwd
         have K_wd:=qa hHeld
         refine wpAnyH_ready (rs:=[5]) (by kernel_rfl) (by simp) ?_
         refine zc (o:=_) rfl (fun K hK => ?_) zm
         go_simp
         refine(HCL.out _ K_wd.out).mono ?_
         rintro r v1 ⟨Ac,cc2,rfl,hrc,hb_v1⟩
         have s_v1:wd.heap.size≤v1.heap.size:=hb_v1.size
         have K_v1:Hid (Below wr.heap.size wr v1):=qa (K_wd.out.trans (hb_v1.mono K_wd.out.size))
         have Hc_v1:Hid (Row v1 0 v1.heap.size Ac cc2 (vg G k2)):=hrc.wide (qi _) (qc _)
         clear hb_v1
         clear hrc
         refine hK.out _ _ K_v1.out (fun hHeld => ?_)
         clear hK K
         try simp only[jv,Act.put]
         refine wpAnyH_ready (rs:=[10]) (by kernel_rfl) (by simp) ?_
         refine zc (o:=_) rfl (fun K hK => ?_) zm
         go_simp
         refine(HRI.out _ _ _ K_v1.out Hc_v1.out).mono ?_
         rintro r v2 ⟨rfl,hb_v2⟩
         have s_v2:v1.heap.size≤v2.heap.size:=hb_v2.size
         have K_v2:Hid (Below wr.heap.size wr v2):=qa (K_v1.out.trans (hb_v2.mono K_v1.out.size))
         have Hc_v2:Hid (Row v2 0 v2.heap.size Ac cc2 (vg G k2)):=(Hc_v1.out.below hb_v2 (qc _)).wide (qc _) hb_v2.size
         clear hb_v2
         refine hK.out _ _ K_v2.out (fun hHeld => ?_)
         clear hK K
         try simp only[jv,Act.put]
         refine tk 11 ?_ rfl hHeld ?_ ?_
         rotate_left
         focus (intro W hSw;obtain⟨q0,q1,q2,q3,q4⟩:=HCK.out W hSw;go_simp;try with_reducible rfl)
         try simp only[jv,Act.put]
         refine wpAnyH_done (by kernel_rfl) ?_ _
         have KG:=K_v2
         have KZ:=KG
         cases q with
         | true =>
          have HC2:=qa (HC1.out rfl)
          go_wp2_with fail
          go_roundw
          case rel=>exact⟨k2+1,by omega,by go_num,HC2.out,HBK.out.trans (KG.out.mono hszk)⟩
          case measure=>simp[intOf];omega
         | false =>
          obtain rfl:v=false:=HC0.out rfl
          go_wp2_with fail
          go_ret
          exact⟨rfl,HBWK.out.trans (KG.out.mono HBWK.out.size)⟩
        ·
         have ik2:¬(k2:Int)<(n:Int):=by omega
         have HOKG:Hid (qj9 n G):=⟨by rw[HGL.out];omega,HLA.out,fun j hj=>HFV.out j (by omega)⟩
         have HGN2:=qa (HGN.out HOKG.out)
         have HBW2:Hid (Below w.heap.size w wr):=HBG.out.trans (HBK.out.mono hszg)
         clear HGN HFV
         go_wp2_with fail
         go_roundw
         case rel=>exact⟨g+1,mm,by omega,by go_num,rfl,HMM,hm5,HGN2,HBW2.out⟩
         case measure=>simp[intOf];omega
    ·
     have ig:¬(g:Int)<(gs.length:Int):=by omega
     have HTA:Hid (gs.take g=gs):=qo (by omega)
     obtain rfl:v=true:=HT.out ⟨HB.out.1,HB.out.2.1,HB.out.2.2.1,HB.out.2.2.2.1,HB.out.2.2.2.2,HCA.out,by rw[←HTA.out,←HM.out];exact hm4,fun q hq=>by
      obtain⟨j,hj,rfl⟩:=zq hq
      rw[HN.out]
      exact HG.out j hj (by omega)⟩
     go_wp2_with fail
     go_ret
     exact⟨rfl,HBG.out⟩
theorem refPutT_any{w:World}(l:List ByteArray){c:Nat}{A:Option Addr}(h:Rd w 0 w.heap.size A c (sv l))(hl5:l.length≤255)(h8:∀s∈l,s.size≤8) :
  Calls Tryz.prog 127 #[.slice A l.length c] w fun r w'=>∃A' c',r= .returned (.slice A' (qei (qm l)).length c')∧w'.ownsRow w.heap.size 5 1 (.slice A' (qei (qm l)).length c') (qei (qm l)).length (bv (qei (qm l)))∧Below w.heap.size w w':=by
 have hl:=h.len
 have hm:=h.cap
 rw[yg] at hl
 unfold maxLen at hm
 have H:=qa h
 have H8:Hid (∀k (hk:k<l.length),l[k].size≤8):=fun k hk=>h8 _ (qj hk)
 have hb0:(UInt8.ofNat l.length).toNat=l.length:=by simp;omega
 have hlit:(w.alloc (.cells #[.int .u8 (l.length:Int)] 5)).ownsRow w.heap.size 5 1 (.slice (some ⟨w.heap.size,0,none⟩) 1 1) 1 (bv [UInt8.ofNat l.length]):=by
  have:=vm (e:=5) (size:=1) (base:=w.heap.size) w #[.int .u8 (l.length:Int)] 1 (qc _) (by simp[maxLen]) (by simp)
  simpa[bv,hb0] using this
 have HL:=qa hlit
 have HB0:Hid (Below w.heap.size w (w.alloc (.cells #[.int .u8 (l.length:Int)] 5))):=(Below.refl _ w).alloc (qc _) _
 clear h h8 hlit hb0
 go_enter Tryz.func127,Tryz.ntmps127
 go_wp2_with fail
 go_loopw [3,4] (fun x3 x4 wr=>∃(k:Nat) (ys:List UInt8) (A':Option Addr) (c':Nat),k≤l.length∧x4= .int .i64 (k:Int)∧x3= .slice A' ys.length c'∧ys.length≤1+9*k∧ys=UInt8.ofNat l.length :: ((qm l).take k).flatMap (fun s=>UInt8.ofNat s.length :: s)∧
  wr.ownsRow w.heap.size 5 1 (.slice A' ys.length c') ys.length (bv ys)∧Below w.heap.size w wr) (fun _ i _=>l.length-(intOf i).toNat)
 case atStart=>exact⟨0,[UInt8.ofNat l.length],_,_,qi _,rfl,rfl,by simp,by simp,HL.out,HB0.out⟩
 case round =>
  clear HL HB0
  obtain⟨k,ys,A',c',hk,rfl,rfl,hyl,hys,hown,hb⟩:=hrel
  have HYS:=qa hys
  have HO:=qa hown
  have HB:=qa hb
  have hsz:=hb.size
  clear hys hown hb
  by_cases hlt:k<l.length
  ·
   have ik:(k:Int)<(l.length:Int):=by omega
   obtain⟨b,off,rfl,_,hbh,hcell⟩:=(H.out.below HB.out (qc _)).str hlt
   have hs8:=H8.out k hlt
   have HPT:=qa (put_take hlt)
   generalize l[k]=s at *
   have hbs:(UInt8.ofNat s.size).toNat=s.size:=by simp;omega
   have hsl:s.data.toList.length=s.size:=by rw[zy];rfl
   go_wp2_with (at_builtin;refine jab (v:= .slice A' ys.length c') w.heap.size ys (UInt8.ofNat s.size) rfl _ _ rfl rfl rfl rfl (by rw[hbs,za _ _ _ _ rfl];rfl) (HO.out.alloc _) (by omega) (by simp;omega) ?_;intro A2 c2 w2 ho2 hg2;refine qaz ?_)
   have hb2w:Below w.heap.size w w2:=(HB.out.alloc hsz _).grown hg2 (by simp;omega) (fun q hq=>(zk HO.out hq).1)
   have hcell2:w2.cell? ⟨b,off+k,none⟩=some (.string s):=by
    have h1:wr.cell? ⟨b,off+k,none⟩=w.cell? ⟨b,off+k,none⟩:=HB.out.cell hbh
    rw[hb2w.cell (p:=⟨b,off+k,none⟩) hbh,←h1]
    exact hcell
   have hcv:=qc6 (P:=Tryz.prog) w2 9 26 5 s Tryz.underlying9 Tryz.underlying26 Tryz.underlying5
   have hcap:=grownCap_le_maxLen w2 s.size 0 5 (by simp only[maxLen];omega)
   have hrd:=qfr w2 5 s hcap
   have hb3:=qdm w2 5 s (qc _)
   have hsz2:=hb2w.size
   have hsz3:=hb3.size
   have hyl2:(ys++[UInt8.ofNat s.size]).length=ys.length+1:=by simp
   obtain⟨A3,c3,w3,hrun,hown3,hg3⟩:=j9 (Lib.bytesWorld w2 5 s) w.heap.size _ (ys++[UInt8.ofNat s.size]) s.data.toList (ys++UInt8.ofNat s.size :: s.data.toList) (by simp) (js ho2 hb3 (qc _)) hrd (by omega) (by omega)
   have hb3w:Below w.heap.size w w3:=(hb2w.trans (hb3.mono hsz2)).grown hg3 (by omega) (fun q hq=>(zk ho2 hq).1)
   rw[hyl2,hsl] at hrun
   have HO3:=qa hown3
   have HB3:=qa hb3w
   clear hown3 hg3 hb3w hrd hb3 ho2 hg2 hb2w
   refine⟨?_⟩
   go_wp2_with (at_builtin;refine wpList_append_run rfl _ _ _ _ rfl rfl rfl hrun ?_)
   go_roundw
   case rel =>
    refine⟨k+1,ys++UInt8.ofNat s.size :: s.data.toList,A3,c3,by omega,by go_num,by rw[qd,qt,hsl],?_,?_,HO3.out,HB3.out⟩
    ·
     rw[qd,qt,hsl];omega
    ·
     rw[HPT.out,HYS.out];rfl
   case measure=>simp[intOf] <;> omega
  ·
   have ik:¬(k:Int)<(l.length:Int):=by omega
   have hfin:ys=qei (qm l):=by
    rw[HYS.out,qo (by simp[qm];omega)]
    simp[qei,qm]
   have HF:=qa hfin
   clear hfin
   go_wp2_with fail
   go_ret
   exact⟨A',c',by rw[←HF.out];rfl,by rw[←HF.out];exact HO.out,HB.out⟩
end Go.Proofs.YtnjkipnklpkaoaaGreat
