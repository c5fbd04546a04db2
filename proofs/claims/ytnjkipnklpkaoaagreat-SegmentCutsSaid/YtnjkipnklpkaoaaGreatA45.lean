/-
  Lemmas.
-/
import Derived.Test.YtnjkipnklpkaoaaGreatA44
namespace Go.Proofs.YtnjkipnklpkaoaaGreat
open Go.RowKit
set_option maxRecDepth 20000
set_option maxHeartbeats 16000000
set_option linter.unusedSimpArgs false
set_option linter.unusedVariables false
section
attribute [local go_sem] qbp
noncomputable def ua (l:List ByteArray)(o:Co):Nat→Int
 | 0=>1
 | 1=>1
 | 2=>1
 | n+3=>if (yj l o ((n:Int)+2)).length<(yj l o (ua l o (n+2))).length then (n:Int)+2 else ua l o (n+2)
theorem qhz(l:List ByteArray)(o:Co){n:Nat}(h:2≤n):ua l o (n+1)=if (yj l o (n:Int)).length<(yj l o (ua l o n)).length then (n:Int) else ua l o n:=by
 obtain⟨m,rfl⟩:∃m,n=m+2:=⟨n-2,by omega⟩
 rw[ua]
 rfl
theorem qpd(l:List ByteArray)(o:Co):ua l o 4=qmb l o:=by
 have h2:ua l o 2=1:=rfl
 have h3:=qhz l o (n:=2) (by omega)
 have h4:=qhz l o (n:=3) (by omega)
 rw[h2] at h3
 rw[show(2:Nat)+1=3 from rfl] at h3
 rw[show(3:Nat)+1=4 from rfl] at h4
 rw[h4,h3,qmb]
 simp only[show((2:Nat):Int)=2 from rfl,show((3:Nat):Int)=3 from rfl]
 by_cases h:(yj l o 2).length<(yj l o 1).length
 ·
  simp only[if_pos h]
 ·
  simp only[if_neg h]
theorem qn5(l:List ByteArray)(o:Co):∀n,1≤ua l o n∧ua l o n≤max 1 ((n:Int)-1)
 | 0=>⟨Int.le_refl 1,by show(1:Int)≤_;omega⟩
 | 1=>⟨Int.le_refl 1,by show(1:Int)≤_;omega⟩
 | 2=>⟨Int.le_refl 1,by show(1:Int)≤_;omega⟩
 | n+3=>by
  have ih:=qn5 l o (n+2)
  rw[ua]
  split <;> omega
theorem best_v{w:World}{l:List ByteArray}{kd bl ro:Int}{ds:List Int}{A B:Option Addr}{c d:Nat}(h:PayIn w l kd bl ro ds A B c d) :
  Calls Tryz.prog 152 #[.slice A l.length c,.agg #[.int .i64 kd,.int .i64 bl,.int .i64 ro,.slice B ds.length d]] w fun r w'=>∃A' c',r= .returned (.agg #[.int .i64 (qmb l ⟨kd,bl,ro,ds⟩),.slice A' (yj l ⟨kd,bl,ro,ds⟩ (qmb l ⟨kd,bl,ro,ds⟩)).length c',.complex .f64 (fl (yj l ⟨kd,bl,ro,ds⟩ (qmb l ⟨kd,bl,ro,ds⟩)).length) (fl l.length)])∧
   Rd w' w.heap.size w'.heap.size A' c' (bv (yj l ⟨kd,bl,ro,ds⟩ (qmb l ⟨kd,bl,ro,ds⟩)))∧Below w.heap.size w w'∧(∀k,1≤k→k≤3→(yj l ⟨kd,bl,ro,ds⟩ k).length≤1000000000000)∧yy (uc l ⟨kd,bl,ro,ds⟩)=true:=by
 obtain⟨w2,hw2⟩:∃w2,(w.alloc (.cells #[.int .i64 1,.int .i64 bl,.int .i64 ro,.slice B ds.length d] 76)).alloc (.cells #[.int .i64 0,.slice none 0 0,.complex .f64 0 0] 152)=w2:=⟨_,rfl⟩
 have B2:Hid (Below w.heap.size w w2):=by unfold Hid;rw[←hw2];exact((Below.refl _ w).alloc (qc _) _).alloc (by simp) _
 have hs2':w2.heap.size=w.heap.size+1+1:=by rw[←hw2];simp
 have hs2:w.heap.size+1<w2.heap.size:=by omega
 have hbx:j6 w2 w.heap.size 76 #[.int .i64 1,.int .i64 bl,.int .i64 ro,.slice B ds.length d]:=by rw[←hw2];exact(j6.new w _ _).alloc _
 have hrx:j6 w2 (w.heap.size+1) 152 #[.int .i64 0,.slice none 0 0,.complex .f64 0 0]:=by
  rw[←hw2]
  have:=j6.new (w.alloc (.cells #[.int .i64 1,.int .i64 bl,.int .i64 ro,.slice B ds.length d] 76)) 152 #[.int .i64 0,.slice none 0 0,.complex .f64 0 0]
  simpa using this
 have HBX:=qa hbx
 have HRX:=qa hrx
 have HI:Hid (∀W (n:Int),Below w.heap.size w W→1≤n→n≤3→PayIn W l n bl ro ds A B c d):=fun W n hW h1 h2=>(h.on hW).kind (by omega) h2
 have HC1:=qa (code_k (w:=w2) (HI.out w2 1 B2.out (by omega) (by omega)) (by omega))
 obtain⟨o,ho⟩:∃o:Co,o=⟨kd,bl,ro,ds⟩:=⟨_,rfl⟩
 have HPK:Hid (∀n,yj l ⟨n,bl,ro,ds⟩ n=yj l o n):=fun n=>by rw[ho];exact qqa ..
 have HTB:Hid (∀n,uc l ⟨n,bl,ro,ds⟩=uc l o):=fun n=>by rw[ho];rfl
 rw[HPK.out] at HC1
 rw[←ho]
 have b0:w2.cell? ⟨w.heap.size,0,none⟩=some (.int .i64 1):=hbx.cell 0
 have b1:w2.cell? ⟨w.heap.size,1,none⟩=some (.int .i64 bl):=hbx.cell 1
 have b2:w2.cell? ⟨w.heap.size,2,none⟩=some (.int .i64 ro):=hbx.cell 2
 have b3:w2.cell? ⟨w.heap.size,3,none⟩=some (.slice B ds.length d):=hbx.cell 3
 clear h hbx hrx hs2' ho
 go_enter Tryz.func152,Tryz.ntmps152
 go_wp2_with fail
 refine HC1.out.mono ?_
 rintro r w3 ⟨A3,c3,rfl,hr3,hb3,hl3, -⟩
 have HR3:=qa hr3
 have K3:Hid (Below w.heap.size w w3):=B2.out.trans (hb3.mono (by omega))
 have HBX3:=qa (HBX.out.below hb3 (by omega))
 have HRX3:=qa (HRX.out.below hb3 hs2)
 have hsz3:=hb3.size
 have HL1:=qa hl3
 have hlt2:=hs2
 clear hr3 hb3 hl3 HC1 HBX HRX hw2 b0 b1 b2 b3
 obtain⟨w4,hw4⟩:∃w4,w3.alloc (.cells #[.int .i64 1,.slice A3 (yj l o 1).length c3,.complex .f64 (fl (yj l o 1).length) (fl l.length)] 152)=w4:=⟨_,rfl⟩
 have HG4:Hid (j6 w4 w3.heap.size 152 #[.int .i64 1,.slice A3 (yj l o 1).length c3,.complex .f64 (fl (yj l o 1).length) (fl l.length)]):=by unfold Hid;rw[←hw4];exact j6.new w3 _ _
 have HR4:Hid (Rd w4 w2.heap.size w3.heap.size A3 c3 (bv (yj l o 1))):=by unfold Hid;rw[←hw4];exact HR3.out.alloc (qc _) _
 have HBX4:Hid (j6 w4 w.heap.size 76 #[.int .i64 1,.int .i64 bl,.int .i64 ro,.slice B ds.length d]):=by unfold Hid;rw[←hw4];exact HBX3.out.alloc _
 have HRX4:Hid (j6 w4 (w.heap.size+1) 152 #[.int .i64 0,.slice none 0 0,.complex .f64 0 0]):=by unfold Hid;rw[←hw4];exact HRX3.out.alloc _
 have K4:Hid (Below w.heap.size w w4):=by unfold Hid;rw[←hw4];exact K3.out.alloc (by omega) _
 have hsz4:w3.heap.size<w4.heap.size:=by rw[←hw4];simp
 have HL1':∀q:Int,1≤q→q<((2:Nat):Int)→(yj l o q).length≤1000000000000:=fun q h1 h2=>by
  have e:q=1:=by omega
  rw[e]
  exact HL1.out
 clear HR3 HBX3 HRX3 K3
 go_wp2_with fail
 go_loopw [6] (fun x wr=>∃(n:Nat) (z:Int) (P:List UInt8) (A':Option Addr) (c' lo hi:Nat),2≤n∧n≤4∧x= .int .i64 (n:Int)∧yj l o (ua l o n)=P∧
  j6 wr w.heap.size 76 #[.int .i64 z,.int .i64 bl,.int .i64 ro,.slice B ds.length d]∧j6 wr (w.heap.size+1) 152 #[.int .i64 0,.slice none 0 0,.complex .f64 0 0]∧
  j6 wr w3.heap.size 152 #[.int .i64 (ua l o n),.slice A' P.length c',.complex .f64 (fl P.length) (fl l.length)]∧Rd wr lo hi A' c' (bv P)∧w2.heap.size≤lo∧(hi≤w3.heap.size∨w3.heap.size<lo)∧hi≤wr.heap.size∧w3.heap.size<wr.heap.size∧
  Below w.heap.size w wr∧(∀q:Int,1≤q→q<(n:Int)→(yj l o q).length≤1000000000000)∧(3≤n→yy (uc l o)=true)) (fun x _=>4-(intOf x).toNat)
 case atStart=>exact⟨2,1,_,A3,c3,_,_,qc _,by omega,rfl,rfl,HBX4.out,HRX4.out,HG4.out,HR4.out,qc _,.inl (qc _),by omega,hsz4,K4.out,HL1',fun h=>absurd h (by omega)⟩
 case round =>
  clear HG4 HR4 HBX4 HRX4 K4 HL1 HL1'
  obtain⟨n,z,P,A',c',lo,hi,hn2,hn4,rfl,hP,hbx,hrx,hg,hr,hlo,hhl,hhi,hg3,hb,hl,hrt⟩:=hrel
  have HPP:=qa hP
  have HRD:=qa hr
  have HLO:=qa hhl
  have HBX:=qa hbx
  have HRX:=qa hrx
  have HG:=qa hg
  have HB:=qa hb
  have HLN:=qa hl
  have HRT:=qa hrt
  have hsz:=hb.size
  have hin:=qn5 l o n
  have HPL:Hid (P.length≤1000000000000):=by unfold Hid;rw[←hP];exact hl _ hin.1 (by omega)
  have HLS:=qa (qhz l o hn2)
  rw[HPP.out] at HLS
  clear hP hr hhl hb hl hrt hrx
  by_cases hn:n≤3
  ·
   have ik:(n:Int)≤3:=by omega
   have z0:wr.cell? ⟨w.heap.size,0,none⟩=some (.int .i64 z):=hbx.cell 0
   have fz0:=hbx.frozen 0
   obtain⟨wa,hwa⟩:∃wa,wr.setCell ⟨w.heap.size,0,none⟩ (.int .i64 (n:Int))=wa:=⟨_,rfl⟩
   have hbxa:j6 wa w.heap.size 76 #[.int .i64 (n:Int),.int .i64 bl,.int .i64 ro,.slice B ds.length d]:=by rw[←hwa];exact hbx.put 0 _
   have b0:wa.cell? ⟨w.heap.size,0,none⟩=some (.int .i64 (n:Int)):=hbxa.cell 0
   have b1:wa.cell? ⟨w.heap.size,1,none⟩=some (.int .i64 bl):=hbxa.cell 1
   have b2:wa.cell? ⟨w.heap.size,2,none⟩=some (.int .i64 ro):=hbxa.cell 2
   have b3:wa.cell? ⟨w.heap.size,3,none⟩=some (.slice B ds.length d):=hbxa.cell 3
   have hsa:wa.heap.size=wr.heap.size:=by rw[←hwa];simp[World.setCell]
   have HBa:Hid (Below w.heap.size w wa):=by unfold Hid;rw[←hwa];exact HB.out.setCell (p:=⟨w.heap.size,0,none⟩) (qc _) _
   have HRXa:Hid (j6 wa (w.heap.size+1) 152 #[.int .i64 0,.slice none 0 0,.complex .f64 0 0]):=by unfold Hid;rw[←hwa];exact HRX.out.far (by show w.heap.size+1≠w.heap.size;omega) _
   have HGa:Hid (j6 wa w3.heap.size 152 #[.int .i64 (ua l o n),.slice A' P.length c',.complex .f64 (fl P.length) (fl l.length)]):=by unfold Hid;rw[←hwa];exact HG.out.far (by show w3.heap.size≠w.heap.size;omega) _
   have HRDa:Hid (Rd wa lo hi A' c' (bv P)):=by unfold Hid;rw[←hwa];exact HRD.out.setCell (p:=⟨w.heap.size,0,none⟩) (.inl (by show w.heap.size<lo;omega)) _
   have HBXa:=qa hbxa
   have HC:=qa (code_k (w:=wa) (HI.out wa n HBa.out (by omega) (by omega)) (by omega))
   rw[HPK.out,HTB.out] at HC
   generalize ua l o n=j at *
   clear hbx hbxa hg HBX HRX HG HRD HB
   go_wp2_with fail
   refine HC.out.mono ?_
   rintro r wb ⟨Ab,cb,rfl,hrb,hbb,hlb,hrtb⟩
   have hszb:=hbb.size
   have HRB:=qa hrb
   have HLB:=qa hlb
   have HRTB:=qa hrtb
   have HLN2:Hid (∀q:Int,1≤q→q<((n+1:Nat):Int)→(yj l o q).length≤1000000000000):=fun q h1 h2=>by
    by_cases e:q=(n:Int)
    ·
     rw[e];exact hlb
    ·
     exact HLN.out q h1 (by omega)
   obtain⟨Q,hQ⟩:∃Q,yj l o (n:Int)=Q:=⟨_,rfl⟩
   rw[hQ] at HRB HLB HLS hrb hlb ⊢
   have HQ:=qa hQ
   clear hQ
   obtain⟨wc,hwc⟩:∃wc,wb.alloc (.cells #[.int .i64 (n:Int),.slice Ab Q.length cb,.complex .f64 (fl Q.length) (fl l.length)] 152)=wc:=⟨_,rfl⟩
   have hsc:wc.heap.size=wb.heap.size+1:=by rw[←hwc];simp
   have hqc:j6 wc wb.heap.size 152 #[.int .i64 (n:Int),.slice Ab Q.length cb,.complex .f64 (fl Q.length) (fl l.length)]:=by rw[←hwc];exact j6.new wb _ _
   have hgc:j6 wc w3.heap.size 152 #[.int .i64 j,.slice A' P.length c',.complex .f64 (fl P.length) (fl l.length)]:=by rw[←hwc];exact(HGa.out.below hbb (by omega)).alloc _
   have HBXc:Hid (j6 wc w.heap.size 76 #[.int .i64 (n:Int),.int .i64 bl,.int .i64 ro,.slice B ds.length d]):=by unfold Hid;rw[←hwc];exact(HBXa.out.below hbb (by omega)).alloc _
   have HRXc:Hid (j6 wc (w.heap.size+1) 152 #[.int .i64 0,.slice none 0 0,.complex .f64 0 0]):=by unfold Hid;rw[←hwc];exact(HRXa.out.below hbb (by omega)).alloc _
   have HRDc:Hid (Rd wc lo hi A' c' (bv P)):=by unfold Hid;rw[←hwc];exact(HRDa.out.below hbb (by omega)).alloc (by omega) _
   have HRBc:Hid (Rd wc wa.heap.size wb.heap.size Ab cb (bv Q)):=by unfold Hid;rw[←hwc];exact HRB.out.alloc (qc _) _
   have HBc:Hid (Below w.heap.size w wc):=by unfold Hid;rw[←hwc];exact(HBa.out.trans (hbb.mono (by omega))).alloc (by omega) _
   have q0:wc.cell? ⟨wb.heap.size,0,none⟩=some (.int .i64 (n:Int)):=hqc.cell 0
   have q1:wc.cell? ⟨wb.heap.size,1,none⟩=some (.slice Ab Q.length cb):=hqc.cell 1
   have q2:wc.cell? ⟨wb.heap.size,2,none⟩=some (.complex .f64 (fl Q.length) (fl l.length)):=hqc.cell 2
   have g0:wc.cell? ⟨w3.heap.size,0,none⟩=some (.int .i64 j):=hgc.cell 0
   have g1:wc.cell? ⟨w3.heap.size,1,none⟩=some (.slice A' P.length c'):=hgc.cell 1
   have g2:wc.cell? ⟨w3.heap.size,2,none⟩=some (.complex .f64 (fl P.length) (fl l.length)):=hgc.cell 2
   have fg0:=hgc.frozen 0
   have fg1:=hgc.frozen 1
   have fg2:=hgc.frozen 2
   have HGc:=qa hgc
   have hcm:(FloatKind.f64.format.order (fl Q.length) (fl P.length)==some .lt)=decide (Q.length<P.length):=lt_fl (by have:=HLB.out;omega) (by have:=HPL.out;omega)
   have HRT2:Hid (3≤n+1→yy (uc l o)=true):=fun h3=>by
    by_cases h2:n=2
    ·
     exact HRTB.out (by omega)
    ·
     exact HRT.out (by omega)
   clear hrb hbb hlb hrtb HC HGa HRXa HBXa HRDa HRB hqc hgc hwa b0 b1 b2 b3 z0 fz0
   by_cases hless:Q.length<P.length
   ·
    rw[qp hless] at hcm
    rw[if_pos hless] at HLS
    go_wp2_with fail
    go_roundw
    case rel =>
     refine⟨n+1,(n:Int),Q,Ab,cb,wa.heap.size,wb.heap.size,by omega,by omega,by go_num,?_,?_,?_,?_,?_,by omega,.inr (by omega),?_,?_,?_,HLN2.out,HRT2.out⟩
     ·
      rw[HLS.out];exact HQ.out
     ·
      exact((HBXc.out.far (p:=⟨w3.heap.size,0,none⟩) (by show w.heap.size≠w3.heap.size;omega) _).far (p:=⟨w3.heap.size,1,none⟩) (by show w.heap.size≠w3.heap.size;omega) _).far (p:=⟨w3.heap.size,2,none⟩) (by show w.heap.size≠w3.heap.size;omega) _
     ·
      exact((HRXc.out.far (p:=⟨w3.heap.size,0,none⟩) (by show w.heap.size+1≠w3.heap.size;omega) _).far (p:=⟨w3.heap.size,1,none⟩) (by show w.heap.size+1≠w3.heap.size;omega) _).far (p:=⟨w3.heap.size,2,none⟩) (by show w.heap.size+1≠w3.heap.size;omega) _
     ·
      rw[HLS.out]
      exact((HGc.out.put 0 (.int .i64 (n:Int))).put 1 (.slice Ab Q.length cb)).put 2 (.complex .f64 (fl Q.length) (fl l.length))
     ·
      exact((HRBc.out.setCell (p:=⟨w3.heap.size,0,none⟩) (.inl (by show w3.heap.size<wa.heap.size;omega)) _).setCell (p:=⟨w3.heap.size,1,none⟩) (.inl (by show w3.heap.size<wa.heap.size;omega)) _).setCell (p:=⟨w3.heap.size,2,none⟩) (.inl (by show w3.heap.size<wa.heap.size;omega)) _
     ·
      simp[World.setCell];omega
     ·
      simp[World.setCell];omega
     ·
      exact((HBc.out.setCell (p:=⟨w3.heap.size,0,none⟩) (by show w.heap.size≤w3.heap.size;omega) _).setCell (p:=⟨w3.heap.size,1,none⟩) (by show w.heap.size≤w3.heap.size;omega) _).setCell (p:=⟨w3.heap.size,2,none⟩) (by show w.heap.size≤w3.heap.size;omega) _
    case measure=>simp[intOf];omega
   ·
    rw[ql hless] at hcm
    rw[if_neg hless] at HLS
    go_wp2_with fail
    go_roundw
    case rel =>
     refine⟨n+1,(n:Int),P,A',c',lo,hi,by omega,by omega,by go_num,?_,HBXc.out,HRXc.out,?_,HRDc.out,hlo,HLO.out,by omega,by omega,HBc.out,HLN2.out,HRT2.out⟩
     ·
      rw[HLS.out];exact HPP.out
     ·
      rw[HLS.out];exact HGc.out
    case measure=>simp[intOf];omega
  ·
   have ik:¬(n:Int)≤3:=by omega
   obtain rfl:n=4:=by omega
   have g0:wr.cell? ⟨w3.heap.size,0,none⟩=some (.int .i64 (ua l o 4)):=hg.cell 0
   have g1:wr.cell? ⟨w3.heap.size,1,none⟩=some (.slice A' P.length c'):=hg.cell 1
   have g2:wr.cell? ⟨w3.heap.size,2,none⟩=some (.complex .f64 (fl P.length) (fl l.length)):=hg.cell 2
   have hrx:=HRX.out
   have r0:wr.cell? ⟨w.heap.size+1,0,none⟩=some (.int .i64 0):=hrx.cell 0
   have r1:wr.cell? ⟨w.heap.size+1,1,none⟩=some (.slice none 0 0):=hrx.cell 1
   have r2:wr.cell? ⟨w.heap.size+1,2,none⟩=some (.complex .f64 0 0):=hrx.cell 2
   have fr0:=hrx.frozen 0
   have fr1:=hrx.frozen 1
   have fr2:=hrx.frozen 2
   have HLB:=qa (qpd l o)
   generalize ua l o 4=j at *
   clear hbx hg hrx HBX HG HLS
   go_wp2_with fail
   have hr3:=((HRX.out.put 0 (.int .i64 j)).put 1 (.slice A' P.length c')).put 2 (.complex .f64 (fl P.length) (fl l.length))
   refine bodyPost_ret (v:= .agg #[.int .i64 j,.slice A' P.length c',.complex .f64 (fl P.length) (fl l.length)]) ?_ rfl ⟨A',c',?_,?_,?_,fun k h1 h2=>HLN.out k h1 (by omega),HRT.out (by omega)⟩
   ·
    exact results_cell_row rfl _ _ (w.heap.size+1) 152 #[.int .i64 j,.slice A' P.length c',.complex .f64 (fl P.length) (fl l.length)] (0,0) _ rfl hr3 Tryz.underlying152 rfl (by kernel_rfl)
   ·
    rw[←HLB.out,HPP.out]
   ·
    rw[←HLB.out,HPP.out]
    refine((((HRD.out.setCell (p:=⟨w.heap.size+1,0,none⟩) (.inl ?_) _).setCell (p:=⟨w.heap.size+1,1,none⟩) (.inl ?_) _).setCell (p:=⟨w.heap.size+1,2,none⟩) (.inl ?_) _).wide (by omega) (by simpa[World.setCell] using hhi))
    all_goals (show w.heap.size+1<lo;omega)
   ·
    exact((HB.out.setCell (p:=⟨w.heap.size+1,0,none⟩) (by show w.heap.size≤w.heap.size+1;omega) _).setCell (p:=⟨w.heap.size+1,1,none⟩) (by show w.heap.size≤w.heap.size+1;omega) _).setCell (p:=⟨w.heap.size+1,2,none⟩) (by show w.heap.size≤w.heap.size+1;omega) _
end
section
attribute [local go_sem] qbp
theorem code_v{w:World}{l:List ByteArray}{kd bl ro:Int}{ds:List Int}{A B:Option Addr}{c d:Nat}(h:PayIn w l kd bl ro ds A B c d){o:Co}(ho:o=⟨kd,bl,ro,ds⟩) :
  Calls Tryz.prog 110 #[.slice A l.length c,.agg #[.int .i64 kd,.int .i64 bl,.int .i64 ro,.slice B ds.length d]] w fun r w'=>∃A' c',r= .returned (.agg #[.int .i64 (yu l o),.slice A' (yj l o (yu l o)).length c',.complex .f64 (fl (yj l o (yu l o)).length) (fl l.length)])∧
   Rd w' w.heap.size w'.heap.size A' c' (bv (yj l o (yu l o)))∧Below w.heap.size w w'∧(yj l o (yu l o)).length≤1000000000000∧(yu l o=2→yy (uc l o)=true):=by
 subst ho
 by_cases hk:kd=0
 ·
  subst hk
  obtain⟨w1,hw1⟩:∃w1,(w.alloc (.cells #[.int .i64 0,.int .i64 bl,.int .i64 ro,.slice B ds.length d] 76)).alloc (.cells #[.int .i64 0,.slice none 0 0,.complex .f64 0 0] 152)=w1:=⟨_,rfl⟩
  have B1:Hid (Below w.heap.size w w1):=by unfold Hid;rw[←hw1];exact((Below.refl _ w).alloc (qc _) _).alloc (by simp) _
  have hs1:=B1.out.size
  have hs2:w1.heap.size=w.heap.size+1+1:=by rw[←hw1];simp
  have hs3:w.heap.size+1<w1.heap.size:=by omega
  have hbx:j6 w1 w.heap.size 76 #[.int .i64 0,.int .i64 bl,.int .i64 ro,.slice B ds.length d]:=by rw[←hw1];exact(j6.new w _ _).alloc _
  have hrx:j6 w1 (w.heap.size+1) 152 #[.int .i64 0,.slice none 0 0,.complex .f64 0 0]:=by
   rw[←hw1]
   have:=j6.new (w.alloc (.cells #[.int .i64 0,.int .i64 bl,.int .i64 ro,.slice B ds.length d] 76)) 152 #[.int .i64 0,.slice none 0 0,.complex .f64 0 0]
   simpa using this
  have b0:w1.cell? ⟨w.heap.size,0,none⟩=some (.int .i64 0):=hbx.cell 0
  have b1:w1.cell? ⟨w.heap.size,1,none⟩=some (.int .i64 bl):=hbx.cell 1
  have b2:w1.cell? ⟨w.heap.size,2,none⟩=some (.int .i64 ro):=hbx.cell 2
  have b3:w1.cell? ⟨w.heap.size,3,none⟩=some (.slice B ds.length d):=hbx.cell 3
  have HRX:=qa hrx
  have HP:=qa (best_v (w:=w1) (h.on B1.out))
  have HKI:=qa (qhl l h.ok)
  have HKE:Hid (yu l ⟨0,bl,ro,ds⟩=qmb l ⟨0,bl,ro,ds⟩):=by unfold Hid;rw[yu,if_pos rfl]
  rw[←HKE.out] at HP
  clear h hbx hrx hs2 HKE
  generalize yu l ⟨0,bl,ro,ds⟩=j at *
  have HPL:Hid ((∀k,1≤k→k≤3→(yj l ⟨0,bl,ro,ds⟩ k).length≤1000000000000)→(yj l ⟨0,bl,ro,ds⟩ j).length≤1000000000000):=fun h=>h j (by have:=HKI.out;omega) (by have:=HKI.out;omega)
  generalize yj l ⟨0,bl,ro,ds⟩=PF at *
  generalize PF j=P at *
  generalize uc l ⟨0,bl,ro,ds⟩=T at *
  go_enter Tryz.func110,Tryz.ntmps110
  go_wp2_with fail
  refine HP.out.mono ?_
  rintro r w2 ⟨A2,c2,rfl,hrd,hb,hpl,hrt⟩
  have hr2:=HRX.out.below hb hs3
  have r0:w2.cell? ⟨w.heap.size+1,0,none⟩=some (.int .i64 0):=hr2.cell 0
  have r1:w2.cell? ⟨w.heap.size+1,1,none⟩=some (.slice none 0 0):=hr2.cell 1
  have r2:w2.cell? ⟨w.heap.size+1,2,none⟩=some (.complex .f64 0 0):=hr2.cell 2
  have f0:=hr2.frozen 0
  have f1:=hr2.frozen 1
  have f2:=hr2.frozen 2
  have HO:=qa hrd
  have HB:=qa hb
  have HPL2:=qa (HPL.out hpl)
  have HRT:=qa hrt
  have HR2:=qa hr2
  have hsz2:=hb.size
  clear hrd hb hr2 hpl hrt HP HRX b0 b1 b2 b3 hw1 HPL
  go_wp2_with fail
  have hr3:=((HR2.out.put 0 (.int .i64 j)).put 1 (.slice A2 P.length c2)).put 2 (.complex .f64 (fl P.length) (fl l.length))
  refine bodyPost_ret (v:= .agg #[.int .i64 j,.slice A2 P.length c2,.complex .f64 (fl P.length) (fl l.length)]) ?_ rfl ⟨A2,c2,rfl,?_,?_,HPL2.out,fun _=>HRT.out⟩
  ·
   exact results_cell_row rfl _ _ (w.heap.size+1) 152 #[.int .i64 j,.slice A2 P.length c2,.complex .f64 (fl P.length) (fl l.length)] (0,0) _ rfl hr3 Tryz.underlying152 rfl (by kernel_rfl)
  ·
   refine(((HO.out.setCell (p:=⟨w.heap.size+1,0,none⟩) (.inl ?_) _).setCell (p:=⟨w.heap.size+1,1,none⟩) (.inl ?_) _).setCell (p:=⟨w.heap.size+1,2,none⟩) (.inl ?_) _).wide (by omega) (by simp)
   all_goals (show w.heap.size+1<w1.heap.size;omega)
  ·
   exact((((B1.out.trans (HB.out.mono hs1)).setCell (p:=⟨w.heap.size+1,0,none⟩) (by show w.heap.size≤w.heap.size+1;omega) _).setCell (p:=⟨w.heap.size+1,1,none⟩) (by show w.heap.size≤w.heap.size+1;omega) _).setCell (p:=⟨w.heap.size+1,2,none⟩) (by show w.heap.size≤w.heap.size+1;omega) _)
 ·
  have h0:=h.ok.1
  have e:yu l ⟨kd,bl,ro,ds⟩=kd:=by rw[yu,if_neg hk]
  rw[e]
  exact code_k h (by simp only at h0;omega)
end
theorem codeO_all(l:List ByteArray)(o:Co):qnk l o:=fun _ _ {_ _ _} h=>code_v h rfl
theorem qj1(gs:List (List (List Vl)))(os:List Co):CodeG gs os:=⟨fun o _ _=>codeO_all _ o,fun _ _ _ _ _=>codeO_all _ _⟩
section
open Go.RowKit Go.ChangeShapes Go.WideShapes Go.ChangeAt
variable {H:Type}{enc:TypeId×Value→H}{P:Program}{W:World}
theorem qlb{e:TypeId}:∀ {ds:List (DataW H)} {j:Nat} {d:DataW H},ds[j]? = some d→∀n∈d.weights P e,n∈DataW.weightsAll P e ds
 | d0 :: ds,0,d,hd,n,hn=>by
  simp only[q9,Option.some.injEq] at hd
  subst hd
  simp only[DataW.weightsAll,zt]
  exact Or.inl hn
 | d0 :: ds,j+1,d,hd,n,hn=>by
  simp only[zb] at hd
  simp only[DataW.weightsAll,zt]
  exact Or.inr (qlb hd n hn)
 | [],_,_,hd,_,_=>by simp at hd
theorem qqb{t e:TypeId}{fuel k:Nat}{cs:List Value}{x:DataW H×List MemPlace}(ht:P.underlying t=some (.slice e))(hk:P.cellsOf e=k)(h0:0<k)(hb1:1≤P.bytesOf e)
  (h:DataW.trod enc P W 0 (fun _=>true) true fuel t cs=some x) (hz:∀n∈x.1.weights P t,n≤reachBytes) :
  ∃(A:Option Addr) (c:Nat) (css:List (List Value)) (m:Nat),m<fuel∧cs=[.slice A css.length c]∧Els W 0 W.heap.size A c k css.length (fun j i=>(css[j]?).bind (·[i]?))∧css.length≤reachBytes∧
   ∀j (hj:j<css.length),css[j].length=k∧∃y,DataW.trod enc P W 0 (fun _=>true) true m e css[j]=some y∧∀n∈y.1.weights P e,n≤reachBytes:=by
 rcases DataW.trod_slice ht h with ⟨rfl,_⟩ | ⟨a,len,cap,elems,rest,n,rfl,rfl,hx,hb,hl,hm,hlen,hel,_,_⟩
 ·
  refine⟨none,0,[],0,?_,rfl,Els.nil _ _ _ _ _,qi _,fun j hj=>absurd hj (jp j)⟩
  cases fuel with
  | zero=>simp[DataW.trod] at h
  | succ n=>omega
 ·
  have hw:x.1= .slice (elems.map (·.1)) (rest.map (·.1)):=by rw[hx]
  have hlw:len≤reachBytes:=by
   have h1:=hz (((elems.map (·.1)).length+(rest.map (·.1)).length)*P.bytesOf e) (by rw[hw];simp[DataW.weights,ht])
   rw[q8,q8] at h1
   have h2:(elems.length+rest.length)*1≤(elems.length+rest.length)*P.bytesOf e:=qc9 _ hb1
   omega
  have hew:∀(i:Nat) (y:DataW H×List MemPlace),elems[i]? = some y→∀n∈y.1.weights P e,n≤reachBytes:=fun i y hy n hn=>by
   refine hz n ?_
   rw[hw]
   have h3:(elems.map (·.1))[i]? = some y.1:=by rw[ke,hy];rfl
   have h4:=qlb h3 n hn
   simp only[DataW.weights,ht,jc,zt]
   exact Or.inr (Or.inl h4)
  have hex:∀i,i<len→∃cs',W.cells? 0 (a.add (i*k)) k=some cs'∧∃y,DataW.trod enc P W 0 (fun _=>true) true n e cs'=some y∧∀n∈y.1.weights P e,n≤reachBytes:=fun i hi=>by
   have h1:=hel i hi
   rw[hk] at h1
   have h2:elems[i]? = some elems[i]:=qe (by omega)
   rw[h2,qah] at h1
   obtain⟨cs',h3,h4⟩:=h1
   exact⟨cs',h3,_,h4,hew i _ h2⟩
  obtain⟨css,hcl,hcs⟩:=qg5 hex
  subst hcl
  refine⟨some a,cap,css,n,Nat.lt_succ_self n,rfl,⟨hl,hm,fun hp => ?_⟩,hlw,fun j hj=>⟨(World.cells?_some (hcs j hj).1).2.1,(hcs j hj).2⟩⟩
  have hfirst:∃u,W.cell? a=some u:=by
   obtain⟨_,h2,h3⟩:=World.cells?_some (hcs 0 hp).1
   have h4:=h3 0 h0
   rw[Nat.zero_mul,show(a.add 0).add 0=a from rfl,qe (by omega)] at h4
   exact⟨_,h4⟩
  obtain⟨u,hu⟩:=hfirst
  obtain⟨b,off,spot⟩:=a
  have hspot:spot=none:=World.cell?_spot hu
  subst hspot
  have hlt:b<W.heap.size:=yv W _ hu
  have hadd2:∀o d,(⟨b,o,none⟩:Addr).add d=⟨b,o+d,none⟩:=fun o d=>by unfold Addr.add;by_cases h:d=0 <;> simp[h]
  refine⟨b,off,rfl,qi _,hlt,fun j hj i hi => ?_⟩
  obtain⟨_,h2,h3⟩:=World.cells?_some (hcs j hj).1
  have h4:=h3 i hi
  rw[hadd2,hadd2] at h4
  rw[h4,qe hj]
  rfl
end
section
set_option maxRecDepth 100000
open Go.RowKit Go.ChangeShapes Go.WideShapes Go.ChangeAt
variable {H:Type}{enc:TypeId×Value→H}{W:World}
theorem nums_fuel{fuel:Nat}{cs:List Value}{x:DataW H×List MemPlace}(h:DataW.trod enc Tryz.prog W 0 (fun _=>true) true fuel 64 cs=some x) :
  ∃A zs c,cs=[.slice A zs.length c]∧Rd W 0 W.heap.size A c (iv zs)∧qj8 zs:=by
 have c1:Tryz.prog.cellsOf 3=1:=by kernel_rfl
 obtain⟨A,c,css,m,hm,e5,hels,hcs⟩:=open_els Tryz.underlying64 c1 (by omega) h
 have hv:∀j,j<css.length→∃z:Int,css[j]? = some [.int .i64 z]∧I64 z:=fun j hj=>by
  obtain⟨_,y,hy⟩:=hcs j hj
  obtain⟨z,e,_,wz⟩:=DataW.trod_int Tryz.underlying3 hy
  exact⟨z,by rw[qe hj,e],i64_wf wz⟩
 obtain⟨zs,hzl,hz⟩:=qg5 hv
 refine⟨A,zs,c,by rw[e5,hzl],⟨by rw[ji,hzl];exact hels.len,hels.cap,fun hp => ?_⟩,fun z hzm => ?_⟩
 ·
  rw[ji,hzl] at hp
  obtain⟨b,off,g1,g2,g3,g4⟩:=hels.lies hp
  refine⟨b,off,g1,g2,g3,fun j u hu => ?_⟩
  have hj:j<zs.length:=by
   have:=(zw.1 hu).1
   rwa [ji] at this
  have h1:=g4 j (by omega) 0 (by omega)
  rw[va,xx] at h1
  rw[h1,(hz j hj).1]
  have h2:(iv zs)[j]? = some (.int .i64 zs[j]):=by simp[iv,qe hj]
  rw[h2] at hu
  rw[←jh hu]
  rfl
 ·
  obtain⟨j,hj,rfl⟩:=zq hzm
  exact(hz j hj).2
end
section
set_option maxRecDepth 100000
open Go.RowKit Go.ChangeShapes Go.WideShapes Go.ChangeAt
variable {H:Type}{enc:TypeId×Value→H}{W:World}
theorem coding_fuel{fuel:Nat}{cs:List Value}{x:DataW H×List MemPlace}(h:DataW.trod enc Tryz.prog W 0 (fun _=>true) true fuel 76 cs=some x) :
  ∃(A:Option Addr) (o:Co) (c:Nat),cs=[.int .i64 o.kind,.int .i64 o.block,.int .i64 o.rounds,.slice A o.draws.length c]∧Rd W 0 W.heap.size A c (iv o.draws)∧qj8 o.draws:=by
 obtain⟨xs,n,rfl, -,hl,hlen,hf⟩:=DataW.trod_struct Tryz.underlying76 h
 have hl4:cs.length=4:=hl.trans (by kernel_rfl)
 have hx4:xs.length=4:=hlen
 have c1:Tryz.prog.cellsOf 3=1:=by kernel_rfl
 have c2:Tryz.prog.cellsOf 64=1:=by kernel_rfl
 match cs,hl4 with
 | [a0,a1,a2,a3],_ =>
  have h0:=hf 0 _ rfl
  have h1:=hf 1 _ rfl
  have h2:=hf 2 _ rfl
  have h3:=hf 3 _ rfl
  rw[qe (by omega)] at h0 h1 h2 h3
  obtain⟨z0,e0,_,w0⟩:=DataW.trod_int Tryz.underlying3 h0
  obtain⟨z1,e1,_,w1⟩:=DataW.trod_int Tryz.underlying3 h1
  obtain⟨z2,e2,_,w2⟩:=DataW.trod_int Tryz.underlying3 h2
  obtain⟨A,zs,c,e3,hr,hw⟩:=nums_fuel h3
  simp[c1,c2] at e0 e1 e2 e3
  subst e0 e1 e2 e3
  exact⟨A,⟨z0,z1,z2,zs⟩,c,rfl,hr,hw⟩
end
section
set_option maxRecDepth 100000
open Go.RowKit Go.ChangeShapes Go.WideShapes Go.ChangeAt
variable {H:Type}{enc:TypeId×Value→H}{W:World}
def SizedR(r:List Vl):Prop:=r.length≤140737488355328∧∀v∈r,v.s.size≤140737488355328
theorem row_fuelZ{fuel:Nat}{cs:List Value}{x:DataW H×List MemPlace}(h:DataW.trod enc Tryz.prog W 0 (fun _=>true) true fuel 61 cs=some x)(hz:∀n∈x.1.weights Tryz.prog 61,n≤reachBytes) :
  ∃A r c,cs=[.slice A r.length c]∧Row W 0 W.heap.size A c r∧SizedR r:=by
 have c1:Tryz.prog.cellsOf 4=1:=by kernel_rfl
 have c2:Tryz.prog.cellsOf 9=1:=by kernel_rfl
 have c6:Tryz.prog.cellsOf 60=2:=by kernel_rfl
 have c7:1≤Tryz.prog.bytesOf 60:=by rw[show Tryz.prog.bytesOf 60=24 by kernel_rfl];omega
 have hrb:=reachBytes_lt
 obtain⟨A,c,css,m,hm,e5,hels,hlen5,hcs⟩:=qqb Tryz.underlying61 c6 (by omega) c7 h hz
 have hv:∀j,j<css.length→∃v:Vl,css[j]? = some (qcn v)∧v.s.size≤9223372036854775807∧v.s.size≤140737488355328:=fun j hj=>by
  obtain⟨_,y,hy,hyz⟩:=hcs j hj
  obtain⟨xs,n,rfl,rfl,hl,hlen,hf⟩:=DataW.trod_struct Tryz.underlying60 hy
  have hx2:xs.length=2:=hlen
  have h0:=hf 0 _ rfl
  have h1:=hf 1 _ rfl
  rw[qe (by omega)] at h0 h1
  have hl2:css[j].length=2:=hl.trans (by kernel_rfl)
  obtain⟨l,hle⟩:∃l,css[j]=l:=⟨_,rfl⟩
  rw[hle] at hl2 h0 h1
  match l,hl2 with
  | [a0,a1],_ =>
   obtain⟨z0,e0,_⟩:=DataW.trod_bool Tryz.underlying4 h0
   obtain⟨s1,e1,hx1,w1⟩:=DataW.trod_string Tryz.underlying9 h1
   simp[c1,c2] at e0 e1
   subst e0 e1
   have hs47:s1.size≤140737488355328:=by
    have hm1:s1.data.toList.length∈(DataW.agg (xs.map (·.1)):DataW H).weights Tryz.prog 60:=by
     have hws:(DataW.agg (xs.map (·.1)):DataW H).weights Tryz.prog 60=DataW.weightsEach Tryz.prog [4,9] (xs.map (·.1)):=by
      simp only[DataW.weights,Tryz.underlying60]
      rfl
     rw[hws]
     refine DataW.weights_mem_each (j:=1) (t:=9) (d:=xs[1].1) rfl (by rw[ke,qe (by omega)];rfl) _ ?_
     rw[hx1]
     simp[DataW.weights]
    have:=hyz _ hm1
    have h3:s1.data.toList.length=s1.size:=by simp
    omega
   exact⟨⟨z0,s1⟩,by rw[qe hj,hle];rfl,w1,hs47⟩
 obtain⟨r,hrl,hr⟩:=qg5 hv
 refine⟨A,r,c,by rw[e5,hrl],⟨?_,fun v hvm => ?_⟩,by omega,fun v hvm => ?_⟩
 ·
  rw[hrl]
  refine⟨hels.len,hels.cap,fun hp => ?_⟩
  obtain⟨b,off,g1,g2,g3,g4⟩:=hels.lies hp
  refine⟨b,off,g1,g2,g3,fun j hj i hi=>(g4 j hj i hi).trans ?_⟩
  have hjq:j<r.length:=by omega
  have:=(hr j hjq).1
  simp[this,qe hjq]
 ·
  obtain⟨j,hj,rfl⟩:=zq hvm
  exact(hr j hj).2.1
 ·
  obtain⟨j,hj,rfl⟩:=zq hvm
  exact(hr j hj).2.2
def SizedQ(g:List (List Vl)):Prop:=g.length≤140737488355328∧∀r∈g,SizedR r
theorem rows_fuelZ{fuel:Nat}{cs:List Value}{x:DataW H×List MemPlace}(h:DataW.trod enc Tryz.prog W 0 (fun _=>true) true fuel 41 cs=some x)(hz:∀n∈x.1.weights Tryz.prog 41,n≤reachBytes) :
  ∃A rs c,cs=[.slice A rs.length c]∧vr W 0 W.heap.size A c rs∧SizedQ rs:=by
 have c1:Tryz.prog.cellsOf 61=1:=by kernel_rfl
 have c7:1≤Tryz.prog.bytesOf 61:=by rw[show Tryz.prog.bytesOf 61=24 by kernel_rfl];omega
 have hrb:=reachBytes_lt
 obtain⟨A,c,css,m,hm,e5,hels,hlen5,hcs⟩:=qqb Tryz.underlying41 c1 (by omega) c7 h hz
 have hv:∀j,j<css.length→∃q:List Vl×Option Addr×Nat,css[j]? = some [.slice q.2.1 q.1.length q.2.2]∧Row W 0 W.heap.size q.2.1 q.2.2 q.1∧SizedR q.1:=fun j hj=>by
  obtain⟨_,y,hy,hyz⟩:=hcs j hj
  obtain⟨A',r,c',he,hr,hs⟩:=row_fuelZ hy hyz
  exact⟨(r,A',c'),by rw[qe hj,he],hr,hs⟩
 obtain⟨qs,hql,hqs⟩:=qg5 hv
 refine⟨A,qs.map (·.1),c,by rw[e5,q8,hql],⟨fun j=>(qs[j]?).bind (·.2.1),fun j=>((qs[j]?).map (·.2.2)).getD 0,?_,fun j hj => ?_⟩,by rw[q8];omega,fun r hr => ?_⟩
 ·
  rw[q8,hql]
  refine⟨hels.len,hels.cap,fun hp => ?_⟩
  obtain⟨b,off,g1,g2,g3,g4⟩:=hels.lies hp
  refine⟨b,off,g1,g2,g3,fun j hj i hi=>(g4 j hj i hi).trans ?_⟩
  have hjq:j<qs.length:=by omega
  have:=(hqs j hjq).1
  simp[this,qe hjq]
 ·
  rw[q8] at hj
  simp only[yz,qe hj,vb,qap,xj]
  exact(hqs j hj).2.1
 ·
  obtain⟨q,hq,rfl⟩:=zn.1 hr
  obtain⟨j,hj,rfl⟩:=zq hq
  exact(hqs j hj).2.2
theorem open_grpsZ{b0:Nat}{v:Value}{d:DataW H}{q:List MemPlace}(hok:Value.okWide Tryz.prog W .any b0 22 v)(h:DataW.Trod enc Tryz.prog W 0 (fun _=>true) true 22 v d q)(hz:∀n∈d.weights Tryz.prog 22,n≤reachBytes) :
  ∃A gs c,v= .slice A gs.length c∧qax W 0 W.heap.size A c gs∧qoi gs:=by
 obtain⟨a0,l0,c0,rfl⟩:=okWide_slice Tryz.underlying22 hok
 obtain⟨fuel,hf⟩:=h
 have c1:Tryz.prog.cellsOf 41=1:=by kernel_rfl
 have c7:1≤Tryz.prog.bytesOf 41:=by rw[show Tryz.prog.bytesOf 41=24 by kernel_rfl];omega
 obtain⟨A,c,css,m,hm,e5,hels,hlen5,hcs⟩:=qqb Tryz.underlying22 c1 (by omega) c7 hf hz
 have hv:∀j,j<css.length→∃q:List (List Vl)×Option Addr×Nat,css[j]? = some [.slice q.2.1 q.1.length q.2.2]∧vr W 0 W.heap.size q.2.1 q.2.2 q.1∧SizedQ q.1:=fun j hj=>by
  obtain⟨_,y,hy,hyz⟩:=hcs j hj
  obtain⟨A',r,c',he,hr,hs⟩:=rows_fuelZ hy hyz
  exact⟨(r,A',c'),by rw[qe hj,he],hr,hs⟩
 obtain⟨qs,hql,hqs⟩:=qg5 hv
 refine⟨A,qs.map (·.1),c,?_,⟨fun j=>(qs[j]?).bind (·.2.1),fun j=>((qs[j]?).map (·.2.2)).getD 0,?_,fun j hj => ?_⟩,fun g hg => ?_⟩
 ·
  simp[Value.cells] at e5
  obtain⟨rfl,rfl,rfl⟩:=e5
  rw[q8,hql]
 ·
  rw[q8,hql]
  refine⟨hels.len,hels.cap,fun hp => ?_⟩
  obtain⟨b,off,g1,g2,g3,g4⟩:=hels.lies hp
  refine⟨b,off,g1,g2,g3,fun j hj i hi=>(g4 j hj i hi).trans ?_⟩
  have hjq:j<qs.length:=by omega
  have:=(hqs j hjq).1
  simp[this,qe hjq]
 ·
  rw[q8] at hj
  simp only[yz,qe hj,vb,qap,xj]
  exact(hqs j hj).2.1
 ·
  obtain⟨q,hq,rfl⟩:=zn.1 hg
  obtain⟨j,hj,rfl⟩:=zq hq
  exact(hqs j hj).2.2
theorem qmr{b0:Nat}{v:Value}{d:DataW H}{q:List MemPlace}(hok:Value.okWide Tryz.prog W .any b0 23 v)(h:DataW.Trod enc Tryz.prog W 0 (fun _=>true) true 23 v d q) :
  ∃A os c,v= .slice A os.length c∧qbu W 0 W.heap.size A c os:=by
 obtain⟨a0,l0,c0,rfl⟩:=okWide_slice Tryz.underlying23 hok
 obtain⟨fuel,hf⟩:=h
 have c1:Tryz.prog.cellsOf 76=4:=by kernel_rfl
 obtain⟨A,c,css,m,hm,e5,hels,hcs⟩:=open_els Tryz.underlying23 c1 (by omega) hf
 have hv:∀j,j<css.length→∃q:Co×Option Addr×Nat,css[j]? = some [.int .i64 q.1.kind,.int .i64 q.1.block,.int .i64 q.1.rounds,.slice q.2.1 q.1.draws.length q.2.2]∧Rd W 0 W.heap.size q.2.1 q.2.2 (iv q.1.draws)∧qj8 q.1.draws:=fun j hj=>by
  obtain⟨_,y,hy⟩:=hcs j hj
  obtain⟨A',o,c',he,hr,hw⟩:=coding_fuel hy
  exact⟨(o,A',c'),by rw[qe hj,he],hr,hw⟩
 obtain⟨qs,hql,hqs⟩:=qg5 hv
 refine⟨A,qs.map (·.1),c,?_,⟨fun j=>(qs[j]?).bind (·.2.1),fun j=>((qs[j]?).map (·.2.2)).getD 0,?_,fun j hj => ?_⟩⟩
 ·
  simp[Value.cells] at e5
  obtain⟨rfl,rfl,rfl⟩:=e5
  rw[q8,hql]
 ·
  rw[q8,hql]
  refine⟨hels.len,hels.cap,fun hp => ?_⟩
  obtain⟨b,off,g1,g2,g3,g4⟩:=hels.lies hp
  refine⟨b,off,g1,g2,g3,fun j hj i hi=>(g4 j hj i hi).trans ?_⟩
  have hjq:j<qs.length:=by omega
  have:=(hqs j hjq).1
  simp[this,qe hjq]
 ·
  rw[q8] at hj
  simp only[yz,qe hj,vb,qap,xj]
  exact(hqs j hj).2
end
end Go.Proofs.YtnjkipnklpkaoaaGreat
