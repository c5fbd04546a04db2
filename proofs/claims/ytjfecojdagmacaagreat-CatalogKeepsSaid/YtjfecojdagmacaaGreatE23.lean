/-
  Lemmas.
-/
import Derived.Test.YtjfecojdagmacaaGreatE22
namespace Go.Proofs.YtjfecojdagmacaaGreat
open Go.RowKit
set_option maxRecDepth 20000
set_option maxHeartbeats 16000000
set_option linter.unusedSimpArgs false
set_option linter.unusedVariables false
section
attribute [local go_sem] qa9
noncomputable def qbc (l:List ByteArray)(o:Co):Nat→Int
 | 0=>1
 | 1=>1
 | 2=>1
 | n+3=>if (yu l o ((n:Int)+2)).length<(yu l o (qbc l o (n+2))).length then (n:Int)+2 else qbc l o (n+2)
theorem qhg(l:List ByteArray)(o:Co){n:Nat}(h:2≤n):qbc l o (n+1)=if (yu l o (n:Int)).length<(yu l o (qbc l o n)).length then (n:Int) else qbc l o n:=by
 obtain⟨m,rfl⟩:∃m,n=m+2:=⟨n-2,by omega⟩
 rw[qbc]
 rfl
theorem leastTo_best(l:List ByteArray)(o:Co):qbc l o 4=qk9 l o:=by
 have h2:qbc l o 2=1:=rfl
 have h3:=qhg l o (n:=2) (by omega)
 have h4:=qhg l o (n:=3) (by omega)
 rw[h2] at h3
 rw[show(2:Nat)+1=3 from rfl] at h3
 rw[show(3:Nat)+1=4 from rfl] at h4
 rw[h4,h3,qk9]
 simp only[show((2:Nat):Int)=2 from rfl,show((3:Nat):Int)=3 from rfl]
 by_cases h:(yu l o 2).length<(yu l o 1).length
 ·
  simp only[if_pos h]
 ·
  simp only[if_neg h]
theorem leastTo_in(l:List ByteArray)(o:Co):∀n,1≤qbc l o n∧qbc l o n≤max 1 ((n:Int)-1)
 | 0=>⟨Int.le_refl 1,by show(1:Int)≤_;omega⟩
 | 1=>⟨Int.le_refl 1,by show(1:Int)≤_;omega⟩
 | 2=>⟨Int.le_refl 1,by show(1:Int)≤_;omega⟩
 | n+3=>by
  have ih:=leastTo_in l o (n+2)
  rw[qbc]
  split <;> omega
theorem best_v{w:World}{l:List ByteArray}{kd bl ro:Int}{ds:List Int}{A B:Option Addr}{c d:Nat}(h:PayIn w l kd bl ro ds A B c d) :
  Calls Tryz.prog 147 #[.slice A l.length c,.agg #[.int .i64 kd,.int .i64 bl,.int .i64 ro,.slice B ds.length d]] w fun r w'=>∃A' c',r= .returned (.agg #[.int .i64 (qk9 l ⟨kd,bl,ro,ds⟩),.slice A' (yu l ⟨kd,bl,ro,ds⟩ (qk9 l ⟨kd,bl,ro,ds⟩)).length c',.complex .f64 (fl (yu l ⟨kd,bl,ro,ds⟩ (qk9 l ⟨kd,bl,ro,ds⟩)).length) (fl l.length)])∧
   Rd w' w.heap.size w'.heap.size A' c' (bv (yu l ⟨kd,bl,ro,ds⟩ (qk9 l ⟨kd,bl,ro,ds⟩)))∧Below w.heap.size w w'∧(∀k,1≤k→k≤3→(yu l ⟨kd,bl,ro,ds⟩ k).length≤1000000000000)∧jz (ki l ⟨kd,bl,ro,ds⟩)=true:=by
 obtain⟨w2,hw2⟩:∃w2,(w.alloc (.cells #[.int .i64 1,.int .i64 bl,.int .i64 ro,.slice B ds.length d] 60)).alloc (.cells #[.int .i64 0,.slice none 0 0,.complex .f64 0 0] 164)=w2:=⟨_,rfl⟩
 have B2:Hid (Below w.heap.size w w2):=by unfold Hid;rw[←hw2];exact((Below.refl _ w).alloc (qc _) _).alloc (by simp) _
 have hs2':w2.heap.size=w.heap.size+1+1:=by rw[←hw2];simp
 have hs2:w.heap.size+1<w2.heap.size:=by omega
 have hbx:j8 w2 w.heap.size 60 #[.int .i64 1,.int .i64 bl,.int .i64 ro,.slice B ds.length d]:=by rw[←hw2];exact(j8.new w _ _).alloc _
 have hrx:j8 w2 (w.heap.size+1) 164 #[.int .i64 0,.slice none 0 0,.complex .f64 0 0]:=by
  rw[←hw2]
  have:=j8.new (w.alloc (.cells #[.int .i64 1,.int .i64 bl,.int .i64 ro,.slice B ds.length d] 60)) 164 #[.int .i64 0,.slice none 0 0,.complex .f64 0 0]
  simpa using this
 have HBX:=qa hbx
 have HRX:=qa hrx
 have HI:Hid (∀W (n:Int),Below w.heap.size w W→1≤n→n≤3→PayIn W l n bl ro ds A B c d):=fun W n hW h1 h2=>(h.on hW).kind (by omega) h2
 have HC1:=qa (code_k (w:=w2) (HI.out w2 1 B2.out (by omega) (by omega)) (by omega))
 obtain⟨o,ho⟩:∃o:Co,o=⟨kd,bl,ro,ds⟩:=⟨_,rfl⟩
 have HPK:Hid (∀n,yu l ⟨n,bl,ro,ds⟩ n=yu l o n):=fun n=>by rw[ho];exact payK_kind ..
 have HTB:Hid (∀n,ki l ⟨n,bl,ro,ds⟩=ki l o):=fun n=>by rw[ho];rfl
 rw[HPK.out] at HC1
 rw[←ho]
 have b0:w2.cell? ⟨w.heap.size,0,none⟩=some (.int .i64 1):=hbx.cell 0
 have b1:w2.cell? ⟨w.heap.size,1,none⟩=some (.int .i64 bl):=hbx.cell 1
 have b2:w2.cell? ⟨w.heap.size,2,none⟩=some (.int .i64 ro):=hbx.cell 2
 have b3:w2.cell? ⟨w.heap.size,3,none⟩=some (.slice B ds.length d):=hbx.cell 3
 clear h hbx hrx hs2' ho
 go_enter Tryz.func147,Tryz.ntmps147
 go_wp2_with fail
 refine HC1.out.mono ?_
 rintro r w3 ⟨A3,c3,rfl,hr3,hb3,hl3, -⟩
 have HR3:=qa hr3
 have K3:Hid (Below w.heap.size w w3):=B2.out.trans (hb3.mono (by omega))
 have HBX3:=qa (HBX.out.below hb3 (by omega))
 have HRX3:=qa (HRX.out.below hb3 hs2)
 have hsz3:=hb3.size
 have HL1:=qa hl3
 have hlt2:=hs2
 clear hr3 hb3 hl3 HC1 HBX HRX hw2 b0 b1 b2 b3
 obtain⟨w4,hw4⟩:∃w4,w3.alloc (.cells #[.int .i64 1,.slice A3 (yu l o 1).length c3,.complex .f64 (fl (yu l o 1).length) (fl l.length)] 164)=w4:=⟨_,rfl⟩
 have HG4:Hid (j8 w4 w3.heap.size 164 #[.int .i64 1,.slice A3 (yu l o 1).length c3,.complex .f64 (fl (yu l o 1).length) (fl l.length)]):=by unfold Hid;rw[←hw4];exact j8.new w3 _ _
 have HR4:Hid (Rd w4 w2.heap.size w3.heap.size A3 c3 (bv (yu l o 1))):=by unfold Hid;rw[←hw4];exact HR3.out.alloc (qc _) _
 have HBX4:Hid (j8 w4 w.heap.size 60 #[.int .i64 1,.int .i64 bl,.int .i64 ro,.slice B ds.length d]):=by unfold Hid;rw[←hw4];exact HBX3.out.alloc _
 have HRX4:Hid (j8 w4 (w.heap.size+1) 164 #[.int .i64 0,.slice none 0 0,.complex .f64 0 0]):=by unfold Hid;rw[←hw4];exact HRX3.out.alloc _
 have K4:Hid (Below w.heap.size w w4):=by unfold Hid;rw[←hw4];exact K3.out.alloc (by omega) _
 have hsz4:w3.heap.size<w4.heap.size:=by rw[←hw4];simp
 have HL1':∀q:Int,1≤q→q<((2:Nat):Int)→(yu l o q).length≤1000000000000:=fun q h1 h2=>by
  have e:q=1:=by omega
  rw[e]
  exact HL1.out
 clear HR3 HBX3 HRX3 K3
 go_wp2_with fail
 go_loopw [6] (fun x wr=>∃(n:Nat) (z:Int) (P:List UInt8) (A':Option Addr) (c' lo hi:Nat),2≤n∧n≤4∧x= .int .i64 (n:Int)∧yu l o (qbc l o n)=P∧
  j8 wr w.heap.size 60 #[.int .i64 z,.int .i64 bl,.int .i64 ro,.slice B ds.length d]∧j8 wr (w.heap.size+1) 164 #[.int .i64 0,.slice none 0 0,.complex .f64 0 0]∧
  j8 wr w3.heap.size 164 #[.int .i64 (qbc l o n),.slice A' P.length c',.complex .f64 (fl P.length) (fl l.length)]∧Rd wr lo hi A' c' (bv P)∧w2.heap.size≤lo∧(hi≤w3.heap.size∨w3.heap.size<lo)∧hi≤wr.heap.size∧w3.heap.size<wr.heap.size∧
  Below w.heap.size w wr∧(∀q:Int,1≤q→q<(n:Int)→(yu l o q).length≤1000000000000)∧(3≤n→jz (ki l o)=true)) (fun x _=>4-(intOf x).toNat)
 case atStart=>exact⟨2,1,_,A3,c3,_,_,qc _,by omega,rfl,rfl,HBX4.out,HRX4.out,HG4.out,HR4.out,qc _,.inl (qc _),by omega,hsz4,K4.out,HL1',fun h=>absurd h (by omega)⟩
 case round =>
  clear HG4 HR4 HBX4 HRX4 K4 HL1 HL1'
  obtain⟨n,z,P,A',c',lo,hi,hn2,hn4,rfl,hP,hbx,hrx,hg,hr,hlo,hhl,hhi,hg3,hb,hl,hrt⟩:=hrel
  have HPP:=qa hP
  have HRD:=qa hr
  have HLO:=qa hhl
  have HBX:=qa hbx
  have HRX:=qa hrx
  have HG:=qa hg
  have HB:=qa hb
  have HLN:=qa hl
  have HRT:=qa hrt
  have hsz:=hb.size
  have hin:=leastTo_in l o n
  have HPL:Hid (P.length≤1000000000000):=by unfold Hid;rw[←hP];exact hl _ hin.1 (by omega)
  have HLS:=qa (qhg l o hn2)
  rw[HPP.out] at HLS
  clear hP hr hhl hb hl hrt hrx
  by_cases hn:n≤3
  ·
   have ik:(n:Int)≤3:=by omega
   have z0:wr.cell? ⟨w.heap.size,0,none⟩=some (.int .i64 z):=hbx.cell 0
   have fz0:=hbx.frozen 0
   obtain⟨wa,hwa⟩:∃wa,wr.setCell ⟨w.heap.size,0,none⟩ (.int .i64 (n:Int))=wa:=⟨_,rfl⟩
   have hbxa:j8 wa w.heap.size 60 #[.int .i64 (n:Int),.int .i64 bl,.int .i64 ro,.slice B ds.length d]:=by rw[←hwa];exact hbx.put 0 _
   have b0:wa.cell? ⟨w.heap.size,0,none⟩=some (.int .i64 (n:Int)):=hbxa.cell 0
   have b1:wa.cell? ⟨w.heap.size,1,none⟩=some (.int .i64 bl):=hbxa.cell 1
   have b2:wa.cell? ⟨w.heap.size,2,none⟩=some (.int .i64 ro):=hbxa.cell 2
   have b3:wa.cell? ⟨w.heap.size,3,none⟩=some (.slice B ds.length d):=hbxa.cell 3
   have hsa:wa.heap.size=wr.heap.size:=by rw[←hwa];simp[World.setCell]
   have HBa:Hid (Below w.heap.size w wa):=by unfold Hid;rw[←hwa];exact HB.out.setCell (p:=⟨w.heap.size,0,none⟩) (qc _) _
   have HRXa:Hid (j8 wa (w.heap.size+1) 164 #[.int .i64 0,.slice none 0 0,.complex .f64 0 0]):=by unfold Hid;rw[←hwa];exact HRX.out.far (by show w.heap.size+1≠w.heap.size;omega) _
   have HGa:Hid (j8 wa w3.heap.size 164 #[.int .i64 (qbc l o n),.slice A' P.length c',.complex .f64 (fl P.length) (fl l.length)]):=by unfold Hid;rw[←hwa];exact HG.out.far (by show w3.heap.size≠w.heap.size;omega) _
   have HRDa:Hid (Rd wa lo hi A' c' (bv P)):=by unfold Hid;rw[←hwa];exact HRD.out.setCell (p:=⟨w.heap.size,0,none⟩) (.inl (by show w.heap.size<lo;omega)) _
   have HBXa:=qa hbxa
   have HC:=qa (code_k (w:=wa) (HI.out wa n HBa.out (by omega) (by omega)) (by omega))
   rw[HPK.out,HTB.out] at HC
   generalize qbc l o n=j at *
   clear hbx hbxa hg HBX HRX HG HRD HB
   go_wp2_with fail
   refine HC.out.mono ?_
   rintro r wb ⟨Ab,cb,rfl,hrb,hbb,hlb,hrtb⟩
   have hszb:=hbb.size
   have HRB:=qa hrb
   have HLB:=qa hlb
   have HRTB:=qa hrtb
   have HLN2:Hid (∀q:Int,1≤q→q<((n+1:Nat):Int)→(yu l o q).length≤1000000000000):=fun q h1 h2=>by
    by_cases e:q=(n:Int)
    ·
     rw[e];exact hlb
    ·
     exact HLN.out q h1 (by omega)
   obtain⟨Q,hQ⟩:∃Q,yu l o (n:Int)=Q:=⟨_,rfl⟩
   rw[hQ] at HRB HLB HLS hrb hlb ⊢
   have HQ:=qa hQ
   clear hQ
   obtain⟨wc,hwc⟩:∃wc,wb.alloc (.cells #[.int .i64 (n:Int),.slice Ab Q.length cb,.complex .f64 (fl Q.length) (fl l.length)] 164)=wc:=⟨_,rfl⟩
   have hsc:wc.heap.size=wb.heap.size+1:=by rw[←hwc];simp
   have hqc:j8 wc wb.heap.size 164 #[.int .i64 (n:Int),.slice Ab Q.length cb,.complex .f64 (fl Q.length) (fl l.length)]:=by rw[←hwc];exact j8.new wb _ _
   have hgc:j8 wc w3.heap.size 164 #[.int .i64 j,.slice A' P.length c',.complex .f64 (fl P.length) (fl l.length)]:=by rw[←hwc];exact(HGa.out.below hbb (by omega)).alloc _
   have HBXc:Hid (j8 wc w.heap.size 60 #[.int .i64 (n:Int),.int .i64 bl,.int .i64 ro,.slice B ds.length d]):=by unfold Hid;rw[←hwc];exact(HBXa.out.below hbb (by omega)).alloc _
   have HRXc:Hid (j8 wc (w.heap.size+1) 164 #[.int .i64 0,.slice none 0 0,.complex .f64 0 0]):=by unfold Hid;rw[←hwc];exact(HRXa.out.below hbb (by omega)).alloc _
   have HRDc:Hid (Rd wc lo hi A' c' (bv P)):=by unfold Hid;rw[←hwc];exact(HRDa.out.below hbb (by omega)).alloc (by omega) _
   have HRBc:Hid (Rd wc wa.heap.size wb.heap.size Ab cb (bv Q)):=by unfold Hid;rw[←hwc];exact HRB.out.alloc (qc _) _
   have HBc:Hid (Below w.heap.size w wc):=by unfold Hid;rw[←hwc];exact(HBa.out.trans (hbb.mono (by omega))).alloc (by omega) _
   have q0:wc.cell? ⟨wb.heap.size,0,none⟩=some (.int .i64 (n:Int)):=hqc.cell 0
   have q1:wc.cell? ⟨wb.heap.size,1,none⟩=some (.slice Ab Q.length cb):=hqc.cell 1
   have q2:wc.cell? ⟨wb.heap.size,2,none⟩=some (.complex .f64 (fl Q.length) (fl l.length)):=hqc.cell 2
   have g0:wc.cell? ⟨w3.heap.size,0,none⟩=some (.int .i64 j):=hgc.cell 0
   have g1:wc.cell? ⟨w3.heap.size,1,none⟩=some (.slice A' P.length c'):=hgc.cell 1
   have g2:wc.cell? ⟨w3.heap.size,2,none⟩=some (.complex .f64 (fl P.length) (fl l.length)):=hgc.cell 2
   have fg0:=hgc.frozen 0
   have fg1:=hgc.frozen 1
   have fg2:=hgc.frozen 2
   have HGc:=qa hgc
   have hcm:(FloatKind.f64.format.order (fl Q.length) (fl P.length)==some .lt)=decide (Q.length<P.length):=lt_fl (by have:=HLB.out;omega) (by have:=HPL.out;omega)
   have HRT2:Hid (3≤n+1→jz (ki l o)=true):=fun h3=>by
    by_cases h2:n=2
    ·
     exact HRTB.out (by omega)
    ·
     exact HRT.out (by omega)
   clear hrb hbb hlb hrtb HC HGa HRXa HBXa HRDa HRB hqc hgc hwa b0 b1 b2 b3 z0 fz0
   by_cases hless:Q.length<P.length
   ·
    rw[qx hless] at hcm
    rw[if_pos hless] at HLS
    go_wp2_with fail
    go_roundw
    case rel =>
     refine⟨n+1,(n:Int),Q,Ab,cb,wa.heap.size,wb.heap.size,by omega,by omega,by go_num,?_,?_,?_,?_,?_,by omega,.inr (by omega),?_,?_,?_,HLN2.out,HRT2.out⟩
     ·
      rw[HLS.out];exact HQ.out
     ·
      exact((HBXc.out.far (p:=⟨w3.heap.size,0,none⟩) (by show w.heap.size≠w3.heap.size;omega) _).far (p:=⟨w3.heap.size,1,none⟩) (by show w.heap.size≠w3.heap.size;omega) _).far (p:=⟨w3.heap.size,2,none⟩) (by show w.heap.size≠w3.heap.size;omega) _
     ·
      exact((HRXc.out.far (p:=⟨w3.heap.size,0,none⟩) (by show w.heap.size+1≠w3.heap.size;omega) _).far (p:=⟨w3.heap.size,1,none⟩) (by show w.heap.size+1≠w3.heap.size;omega) _).far (p:=⟨w3.heap.size,2,none⟩) (by show w.heap.size+1≠w3.heap.size;omega) _
     ·
      rw[HLS.out]
      exact((HGc.out.put 0 (.int .i64 (n:Int))).put 1 (.slice Ab Q.length cb)).put 2 (.complex .f64 (fl Q.length) (fl l.length))
     ·
      exact((HRBc.out.setCell (p:=⟨w3.heap.size,0,none⟩) (.inl (by show w3.heap.size<wa.heap.size;omega)) _).setCell (p:=⟨w3.heap.size,1,none⟩) (.inl (by show w3.heap.size<wa.heap.size;omega)) _).setCell (p:=⟨w3.heap.size,2,none⟩) (.inl (by show w3.heap.size<wa.heap.size;omega)) _
     ·
      simp[World.setCell];omega
     ·
      simp[World.setCell];omega
     ·
      exact((HBc.out.setCell (p:=⟨w3.heap.size,0,none⟩) (by show w.heap.size≤w3.heap.size;omega) _).setCell (p:=⟨w3.heap.size,1,none⟩) (by show w.heap.size≤w3.heap.size;omega) _).setCell (p:=⟨w3.heap.size,2,none⟩) (by show w.heap.size≤w3.heap.size;omega) _
    case measure=>simp[intOf];omega
   ·
    rw[qw hless] at hcm
    rw[if_neg hless] at HLS
    go_wp2_with fail
    go_roundw
    case rel =>
     refine⟨n+1,(n:Int),P,A',c',lo,hi,by omega,by omega,by go_num,?_,HBXc.out,HRXc.out,?_,HRDc.out,hlo,HLO.out,by omega,by omega,HBc.out,HLN2.out,HRT2.out⟩
     ·
      rw[HLS.out];exact HPP.out
     ·
      rw[HLS.out];exact HGc.out
    case measure=>simp[intOf];omega
  ·
   have ik:¬(n:Int)≤3:=by omega
   obtain rfl:n=4:=by omega
   have g0:wr.cell? ⟨w3.heap.size,0,none⟩=some (.int .i64 (qbc l o 4)):=hg.cell 0
   have g1:wr.cell? ⟨w3.heap.size,1,none⟩=some (.slice A' P.length c'):=hg.cell 1
   have g2:wr.cell? ⟨w3.heap.size,2,none⟩=some (.complex .f64 (fl P.length) (fl l.length)):=hg.cell 2
   have hrx:=HRX.out
   have r0:wr.cell? ⟨w.heap.size+1,0,none⟩=some (.int .i64 0):=hrx.cell 0
   have r1:wr.cell? ⟨w.heap.size+1,1,none⟩=some (.slice none 0 0):=hrx.cell 1
   have r2:wr.cell? ⟨w.heap.size+1,2,none⟩=some (.complex .f64 0 0):=hrx.cell 2
   have fr0:=hrx.frozen 0
   have fr1:=hrx.frozen 1
   have fr2:=hrx.frozen 2
   have HLB:=qa (leastTo_best l o)
   generalize qbc l o 4=j at *
   clear hbx hg hrx HBX HG HLS
   go_wp2_with fail
   have hr3:=((HRX.out.put 0 (.int .i64 j)).put 1 (.slice A' P.length c')).put 2 (.complex .f64 (fl P.length) (fl l.length))
   refine bodyPost_ret (v:= .agg #[.int .i64 j,.slice A' P.length c',.complex .f64 (fl P.length) (fl l.length)]) ?_ rfl ⟨A',c',?_,?_,?_,fun k h1 h2=>HLN.out k h1 (by omega),HRT.out (by omega)⟩
   ·
    exact results_cell_row rfl _ _ (w.heap.size+1) 164 #[.int .i64 j,.slice A' P.length c',.complex .f64 (fl P.length) (fl l.length)] (0,0) _ rfl hr3 Tryz.underlying164 rfl (by kernel_rfl)
   ·
    rw[←HLB.out,HPP.out]
   ·
    rw[←HLB.out,HPP.out]
    refine((((HRD.out.setCell (p:=⟨w.heap.size+1,0,none⟩) (.inl ?_) _).setCell (p:=⟨w.heap.size+1,1,none⟩) (.inl ?_) _).setCell (p:=⟨w.heap.size+1,2,none⟩) (.inl ?_) _).wide (by omega) (by simpa[World.setCell] using hhi))
    all_goals (show w.heap.size+1<lo;omega)
   ·
    exact((HB.out.setCell (p:=⟨w.heap.size+1,0,none⟩) (by show w.heap.size≤w.heap.size+1;omega) _).setCell (p:=⟨w.heap.size+1,1,none⟩) (by show w.heap.size≤w.heap.size+1;omega) _).setCell (p:=⟨w.heap.size+1,2,none⟩) (by show w.heap.size≤w.heap.size+1;omega) _
end
section
attribute [local go_sem] qa9
theorem code_v{w:World}{l:List ByteArray}{kd bl ro:Int}{ds:List Int}{A B:Option Addr}{c d:Nat}(h:PayIn w l kd bl ro ds A B c d){o:Co}(ho:o=⟨kd,bl,ro,ds⟩) :
  Calls Tryz.prog 105 #[.slice A l.length c,.agg #[.int .i64 kd,.int .i64 bl,.int .i64 ro,.slice B ds.length d]] w fun r w'=>∃A' c',r= .returned (.agg #[.int .i64 (y9 l o),.slice A' (yu l o (y9 l o)).length c',.complex .f64 (fl (yu l o (y9 l o)).length) (fl l.length)])∧
   Rd w' w.heap.size w'.heap.size A' c' (bv (yu l o (y9 l o)))∧Below w.heap.size w w'∧(yu l o (y9 l o)).length≤1000000000000∧(y9 l o=2→jz (ki l o)=true):=by
 subst ho
 by_cases hk:kd=0
 ·
  subst hk
  obtain⟨w1,hw1⟩:∃w1,(w.alloc (.cells #[.int .i64 0,.int .i64 bl,.int .i64 ro,.slice B ds.length d] 60)).alloc (.cells #[.int .i64 0,.slice none 0 0,.complex .f64 0 0] 164)=w1:=⟨_,rfl⟩
  have B1:Hid (Below w.heap.size w w1):=by unfold Hid;rw[←hw1];exact((Below.refl _ w).alloc (qc _) _).alloc (by simp) _
  have hs1:=B1.out.size
  have hs2:w1.heap.size=w.heap.size+1+1:=by rw[←hw1];simp
  have hs3:w.heap.size+1<w1.heap.size:=by omega
  have hbx:j8 w1 w.heap.size 60 #[.int .i64 0,.int .i64 bl,.int .i64 ro,.slice B ds.length d]:=by rw[←hw1];exact(j8.new w _ _).alloc _
  have hrx:j8 w1 (w.heap.size+1) 164 #[.int .i64 0,.slice none 0 0,.complex .f64 0 0]:=by
   rw[←hw1]
   have:=j8.new (w.alloc (.cells #[.int .i64 0,.int .i64 bl,.int .i64 ro,.slice B ds.length d] 60)) 164 #[.int .i64 0,.slice none 0 0,.complex .f64 0 0]
   simpa using this
  have b0:w1.cell? ⟨w.heap.size,0,none⟩=some (.int .i64 0):=hbx.cell 0
  have b1:w1.cell? ⟨w.heap.size,1,none⟩=some (.int .i64 bl):=hbx.cell 1
  have b2:w1.cell? ⟨w.heap.size,2,none⟩=some (.int .i64 ro):=hbx.cell 2
  have b3:w1.cell? ⟨w.heap.size,3,none⟩=some (.slice B ds.length d):=hbx.cell 3
  have HRX:=qa hrx
  have HP:=qa (best_v (w:=w1) (h.on B1.out))
  have HKI:=qa (qf4 l h.ok)
  have HKE:Hid (y9 l ⟨0,bl,ro,ds⟩=qk9 l ⟨0,bl,ro,ds⟩):=by unfold Hid;rw[y9,if_pos rfl]
  rw[←HKE.out] at HP
  clear h hbx hrx hs2 HKE
  generalize y9 l ⟨0,bl,ro,ds⟩=j at *
  have HPL:Hid ((∀k,1≤k→k≤3→(yu l ⟨0,bl,ro,ds⟩ k).length≤1000000000000)→(yu l ⟨0,bl,ro,ds⟩ j).length≤1000000000000):=fun h=>h j (by have:=HKI.out;omega) (by have:=HKI.out;omega)
  generalize yu l ⟨0,bl,ro,ds⟩=PF at *
  generalize PF j=P at *
  generalize ki l ⟨0,bl,ro,ds⟩=T at *
  go_enter Tryz.func105,Tryz.ntmps105
  go_wp2_with fail
  refine HP.out.mono ?_
  rintro r w2 ⟨A2,c2,rfl,hrd,hb,hpl,hrt⟩
  have hr2:=HRX.out.below hb hs3
  have r0:w2.cell? ⟨w.heap.size+1,0,none⟩=some (.int .i64 0):=hr2.cell 0
  have r1:w2.cell? ⟨w.heap.size+1,1,none⟩=some (.slice none 0 0):=hr2.cell 1
  have r2:w2.cell? ⟨w.heap.size+1,2,none⟩=some (.complex .f64 0 0):=hr2.cell 2
  have f0:=hr2.frozen 0
  have f1:=hr2.frozen 1
  have f2:=hr2.frozen 2
  have HO:=qa hrd
  have HB:=qa hb
  have HPL2:=qa (HPL.out hpl)
  have HRT:=qa hrt
  have HR2:=qa hr2
  have hsz2:=hb.size
  clear hrd hb hr2 hpl hrt HP HRX b0 b1 b2 b3 hw1 HPL
  go_wp2_with fail
  have hr3:=((HR2.out.put 0 (.int .i64 j)).put 1 (.slice A2 P.length c2)).put 2 (.complex .f64 (fl P.length) (fl l.length))
  refine bodyPost_ret (v:= .agg #[.int .i64 j,.slice A2 P.length c2,.complex .f64 (fl P.length) (fl l.length)]) ?_ rfl ⟨A2,c2,rfl,?_,?_,HPL2.out,fun _=>HRT.out⟩
  ·
   exact results_cell_row rfl _ _ (w.heap.size+1) 164 #[.int .i64 j,.slice A2 P.length c2,.complex .f64 (fl P.length) (fl l.length)] (0,0) _ rfl hr3 Tryz.underlying164 rfl (by kernel_rfl)
  ·
   refine(((HO.out.setCell (p:=⟨w.heap.size+1,0,none⟩) (.inl ?_) _).setCell (p:=⟨w.heap.size+1,1,none⟩) (.inl ?_) _).setCell (p:=⟨w.heap.size+1,2,none⟩) (.inl ?_) _).wide (by omega) (by simp)
   all_goals (show w.heap.size+1<w1.heap.size;omega)
  ·
   exact((((B1.out.trans (HB.out.mono hs1)).setCell (p:=⟨w.heap.size+1,0,none⟩) (by show w.heap.size≤w.heap.size+1;omega) _).setCell (p:=⟨w.heap.size+1,1,none⟩) (by show w.heap.size≤w.heap.size+1;omega) _).setCell (p:=⟨w.heap.size+1,2,none⟩) (by show w.heap.size≤w.heap.size+1;omega) _)
 ·
  have h0:=h.ok.1
  have e:y9 l ⟨kd,bl,ro,ds⟩=kd:=by rw[y9,if_neg hk]
  rw[e]
  exact code_k h (by simp only at h0;omega)
structure CIn (w:World) (L:List Vl) (kd bl ro:Int) (ds:List Int) (A B:Option Addr) (c d:Nat):Prop where
 row:Row w 0 w.heap.size A c L
 dr:Rd w 0 w.heap.size B d (iv ds)
 word:qjg ds
 draws:ds.length≤400
theorem CIn.on{w w':World}{L:List Vl}{kd bl ro:Int}{ds:List Int}{A B:Option Addr}{c d:Nat}(h:CIn w L kd bl ro ds A B c d)(hb:Below w.heap.size w w'):CIn w' L kd bl ro ds A B c d :=
 ⟨(h.row.below hb (qc _)).wide (qc _) hb.size,(h.dr.below hb (qc _)).wide (qc _) hb.size,h.word,h.draws⟩
theorem CIn.kind{w:World}{L:List Vl}{kd bl ro:Int}{ds:List Int}{A B:Option Addr}{c d:Nat}(h:CIn w L kd bl ro ds A B c d)(k:Int):CIn w L k bl ro ds A B c d:=⟨h.row,h.dr,h.word,h.draws⟩
def qjo(L:List Vl)(o:Co):Prop:=uj L∧qbs o
instance (L:List Vl) (o:Co):Decidable (qjo L o):=by unfold qjo;infer_instance
theorem qjo.few{L:List Vl}{o:Co}(h:qjo L o):(qr L).length≤4096∧∀s∈qr L,s.size≤4096 :=
 ⟨zc (qfl L) h.1.1,fun s hs=>by obtain⟨v,hv,rfl⟩:=qfs hs;exact(h.1.2 v hv).1⟩
theorem measure_no{w:World}{L:List Vl}{kd bl ro:Int}{ds:List Int}{A B:Option Addr}{c d:Nat}(h:CIn w L kd bl ro ds A B c d)(hm:¬qjo L ⟨kd,bl,ro,ds⟩) :
  Calls Tryz.prog 76 #[.slice A L.length c,.agg #[.int .i64 kd,.int .i64 bl,.int .i64 ro,.slice B ds.length d]] w fun r w'=>r= .returned (.tuple #[.complex .f64 0 0,.int .i64 1])∧Below w.heap.size w w':=by
 obtain⟨w1,hw1⟩:∃w1,w.alloc (.cells #[.int .i64 kd,.int .i64 bl,.int .i64 ro,.slice B ds.length d] 60)=w1:=⟨_,rfl⟩
 have B1:Hid (Below w.heap.size w w1):=by unfold Hid;rw[←hw1];exact(Below.refl _ w).alloc (qc _) _
 have hs1:w.heap.size<w1.heap.size:=by rw[←hw1];simp
 have hbx:j8 w1 w.heap.size 60 #[.int .i64 kd,.int .i64 bl,.int .i64 ro,.slice B ds.length d]:=by rw[←hw1];exact j8.new w _ _
 have h1:=h.on B1.out
 have HF:=qa (fits_v (w:=w1) L h1.row)
 obtain⟨f,hf⟩:∃f,decide (uj L)=f:=⟨_,rfl⟩
 rw[hf] at HF
 have HR:Hid (∀W,Below w1.heap.size w1 W→Calls Tryz.prog 104 #[.agg #[.int .i64 kd,.int .i64 bl,.int .i64 ro,.slice B ds.length d]] W fun r w'=>r= .returned (.bool (decide (qbs ⟨kd,bl,ro,ds⟩)))∧Below W.heap.size W w'):=fun W hW=>right_v ⟨kd,bl,ro,ds⟩ (h1.on hW).dr
 obtain⟨g,hg⟩:∃g,decide (qbs ⟨kd,bl,ro,ds⟩)=g:=⟨_,rfl⟩
 rw[hg] at HR
 have hfg:f=false∨g=false:=by
  by_cases h2:uj L
  ·
   exact .inr (by rw[←hg];exact qw fun h3=>hm ⟨h2,h3⟩)
  ·
   exact .inl (by rw[←hf];exact qw h2)
 have HBX:=qa hbx
 clear h h1 hm hbx hf hg
 go_enter Tryz.func76,Tryz.ntmps76
 go_wp2_with fail
 refine HF.out.mono ?_
 rintro r w2 ⟨rfl,hb2⟩
 have hb:=HBX.out.below hb2 hs1
 have b0:w2.cell? ⟨w.heap.size,0,none⟩=some (.int .i64 kd):=hb.cell 0
 have b1:w2.cell? ⟨w.heap.size,1,none⟩=some (.int .i64 bl):=hb.cell 1
 have b2:w2.cell? ⟨w.heap.size,2,none⟩=some (.int .i64 ro):=hb.cell 2
 have b3:w2.cell? ⟨w.heap.size,3,none⟩=some (.slice B ds.length d):=hb.cell 3
 have HB2:=qa hb2
 have K2:Hid (Below w.heap.size w w2):=B1.out.trans (hb2.mono (by omega))
 have hs2:=K2.out.size
 clear hb2 hb hw1 HF
 cases f with
 | false =>
  go_wp2_with fail
  go_ret2
  exact⟨rfl,K2.out⟩
 | true =>
  obtain rfl:g=false:=by simpa using hfg
  go_wp2_with fail
  refine(HR.out _ HB2.out).mono ?_
  rintro r w3 ⟨rfl,hb3⟩
  go_wp2_with fail
  go_ret2
  exact⟨rfl,zz K2.out hb3 hs2⟩
-- CODE
theorem code_no{w:World}{L:List Vl}{kd bl ro:Int}{ds:List Int}{A B:Option Addr}{c d:Nat}(h:CIn w L kd bl ro ds A B c d)(hm:¬qjo L ⟨kd,bl,ro,ds⟩) :
  Calls Tryz.prog 78 #[.slice A L.length c,.agg #[.int .i64 kd,.int .i64 bl,.int .i64 ro,.slice B ds.length d]] w fun r w'=>r= .returned (.tuple #[.slice none 0 0,.int .i64 1])∧Below w.heap.size w w':=by
 obtain⟨w1,hw1⟩:∃w1,w.alloc (.cells #[.int .i64 kd,.int .i64 bl,.int .i64 ro,.slice B ds.length d] 60)=w1:=⟨_,rfl⟩
 have B1:Hid (Below w.heap.size w w1):=by unfold Hid;rw[←hw1];exact(Below.refl _ w).alloc (qc _) _
 have hs1:w.heap.size<w1.heap.size:=by rw[←hw1];simp
 have hbx:j8 w1 w.heap.size 60 #[.int .i64 kd,.int .i64 bl,.int .i64 ro,.slice B ds.length d]:=by rw[←hw1];exact j8.new w _ _
 have h1:=h.on B1.out
 have HF:=qa (fits_v (w:=w1) L h1.row)
 obtain⟨f,hf⟩:∃f,decide (uj L)=f:=⟨_,rfl⟩
 rw[hf] at HF
 have HR:Hid (∀W,Below w1.heap.size w1 W→Calls Tryz.prog 104 #[.agg #[.int .i64 kd,.int .i64 bl,.int .i64 ro,.slice B ds.length d]] W fun r w'=>r= .returned (.bool (decide (qbs ⟨kd,bl,ro,ds⟩)))∧Below W.heap.size W w'):=fun W hW=>right_v ⟨kd,bl,ro,ds⟩ (h1.on hW).dr
 obtain⟨g,hg⟩:∃g,decide (qbs ⟨kd,bl,ro,ds⟩)=g:=⟨_,rfl⟩
 rw[hg] at HR
 have hfg:f=false∨g=false:=by
  by_cases h2:uj L
  ·
   exact .inr (by rw[←hg];exact qw fun h3=>hm ⟨h2,h3⟩)
  ·
   exact .inl (by rw[←hf];exact qw h2)
 have HBX:=qa hbx
 clear h h1 hm hbx hf hg
 go_enter Tryz.func78,Tryz.ntmps78
 go_wp2_with fail
 refine HF.out.mono ?_
 rintro r w2 ⟨rfl,hb2⟩
 have hb:=HBX.out.below hb2 hs1
 have b0:w2.cell? ⟨w.heap.size,0,none⟩=some (.int .i64 kd):=hb.cell 0
 have b1:w2.cell? ⟨w.heap.size,1,none⟩=some (.int .i64 bl):=hb.cell 1
 have b2:w2.cell? ⟨w.heap.size,2,none⟩=some (.int .i64 ro):=hb.cell 2
 have b3:w2.cell? ⟨w.heap.size,3,none⟩=some (.slice B ds.length d):=hb.cell 3
 have HB2:=qa hb2
 have K2:Hid (Below w.heap.size w w2):=B1.out.trans (hb2.mono (by omega))
 have hs2:=K2.out.size
 clear hb2 hb hw1 HF
 cases f with
 | false =>
  go_wp2_with fail
  go_ret2
  exact⟨rfl,K2.out⟩
 | true =>
  obtain rfl:g=false:=by simpa using hfg
  go_wp2_with fail
  refine(HR.out _ HB2.out).mono ?_
  rintro r w3 ⟨rfl,hb3⟩
  go_wp2_with fail
  go_ret2
  exact⟨rfl,zz K2.out hb3 hs2⟩
theorem field_measure(W:World)(x y:Value)(a b:Nat):(Instr.field 164 (.agg #[x,y,.complex .f64 a b]) 2).run Tryz.prog W= .ok (.complex .f64 a b) W:=by kernel_rfl
def CodeC(l:List ByteArray)(kd bl ro:Int)(ds:List Int)(B:Option Addr)(d:Nat)(o:Co):Prop:=∀ {w:World} {A:Option Addr} {c:Nat},PayIn w l kd bl ro ds A B c d→
  Calls Tryz.prog 105 #[.slice A l.length c,.agg #[.int .i64 kd,.int .i64 bl,.int .i64 ro,.slice B ds.length d]] w fun r w'=>∃A' c',r= .returned (.agg #[.int .i64 (y9 l o),.slice A' (yu l o (y9 l o)).length c',.complex .f64 (fl (yu l o (y9 l o)).length) (fl l.length)])∧
   Rd w' w.heap.size w'.heap.size A' c' (bv (yu l o (y9 l o)))∧Below w.heap.size w w'∧(yu l o (y9 l o)).length≤1000000000000∧(y9 l o=2→jz (ki l o)=true)
theorem measure_yesW{w:World}{L:List Vl}{kd bl ro:Int}{ds:List Int}{A B:Option Addr}{c d:Nat}(h:CIn w L kd bl ro ds A B c d){o:Co}(ho:o=⟨kd,bl,ro,ds⟩)(hm:qjo L o)(hcode:CodeC (qr L) kd bl ro ds B d o) :
  Calls Tryz.prog 76 #[.slice A L.length c,.agg #[.int .i64 kd,.int .i64 bl,.int .i64 ro,.slice B ds.length d]] w fun r w'=>r= .returned (.tuple #[.complex .f64 (fl (yu (qr L) o (y9 (qr L) o)).length) (fl (qr L).length),.int .i64 0])∧Below w.heap.size w w'∧
   (yu (qr L) o (y9 (qr L) o)).length≤1000000000000∧(y9 (qr L) o=2→jz (ki (qr L) o)=true):=by
 rw[ho] at hcode
 subst ho
 obtain⟨w1,hw1⟩:∃w1,w.alloc (.cells #[.int .i64 kd,.int .i64 bl,.int .i64 ro,.slice B ds.length d] 60)=w1:=⟨_,rfl⟩
 have B1:Hid (Below w.heap.size w w1):=by unfold Hid;rw[←hw1];exact(Below.refl _ w).alloc (qc _) _
 have hs1:w.heap.size<w1.heap.size:=by rw[←hw1];simp
 have hbx:j8 w1 w.heap.size 60 #[.int .i64 kd,.int .i64 bl,.int .i64 ro,.slice B ds.length d]:=by rw[←hw1];exact j8.new w _ _
 have h1:=h.on B1.out
 have HF:=qa (fits_v (w:=w1) L h1.row)
 rw[qx hm.1] at HF
 have HR:Hid (∀W,Below w1.heap.size w1 W→Calls Tryz.prog 104 #[.agg #[.int .i64 kd,.int .i64 bl,.int .i64 ro,.slice B ds.length d]] W fun r w'=>r= .returned (.bool true)∧Below W.heap.size W w'):=fun W hW=>by
  have:=right_v (w:=W) ⟨kd,bl,ro,ds⟩ (h1.on hW).dr
  rw[qx hm.2] at this
  exact this
 obtain⟨o,ho⟩:∃o:Co,o=⟨kd,bl,ro,ds⟩:=⟨_,rfl⟩
 have hL4:=hm.1.1
 have HT:Hid (∀W,Below w1.heap.size w1 W→Calls Tryz.prog 106 #[.slice A L.length c] W fun r w'=>∃A' c',r= .returned (.slice A' (qr L).length c')∧w'.ownsRow W.heap.size 9 1 (.slice A' (qr L).length c') (qr L).length (sv (qr L))∧Below W.heap.size W w'):=fun W hW=>texts_v L (h1.on hW).row (by omega)
 have HC:Hid (∀W A' c',Below w1.heap.size w1 W→Rd W 0 W.heap.size A' c' (sv (qr L))→Calls Tryz.prog 105 #[.slice A' (qr L).length c',.agg #[.int .i64 kd,.int .i64 bl,.int .i64 ro,.slice B ds.length d]] W fun r w'=>∃A'' c'',r= .returned (.agg #[.int .i64 (y9 (qr L) o),.slice A'' (yu (qr L) o (y9 (qr L) o)).length c'',.complex .f64 (fl (yu (qr L) o (y9 (qr L) o)).length) (fl (qr L).length)])∧
   Rd w' W.heap.size w'.heap.size A'' c'' (bv (yu (qr L) o (y9 (qr L) o)))∧Below W.heap.size W w'∧(yu (qr L) o (y9 (qr L) o)).length≤1000000000000∧(y9 (qr L) o=2→jz (ki (qr L) o)=true)):=fun W A' c' hW hr =>
  by rw[ho];exact hcode ⟨hr,(h1.on hW).dr,h.word,hm.2,hm.few.1,h.draws,hm.few.2⟩
 have HBX:=qa hbx
 rw[←ho]
 clear h h1 hm hbx ho
 generalize y9 (qr L) o=j at *
 generalize yu (qr L) o j=P at *
 generalize ki (qr L) o=T at *
 generalize qr L=S at *
 have hfd:∀(W:World) (x y:Value),(Instr.field 164 (.agg #[x,y,.complex .f64 (fl P.length) (fl S.length)]) 2).run Tryz.prog W= .ok (.complex .f64 (fl P.length) (fl S.length)) W:=fun W x y=>field_measure W x y _ _
 go_enter Tryz.func76,Tryz.ntmps76
 go_wp2_with fail
 refine HF.out.mono ?_
 rintro r w2 ⟨rfl,hb2⟩
 have hb:=HBX.out.below hb2 hs1
 have b0:w2.cell? ⟨w.heap.size,0,none⟩=some (.int .i64 kd):=hb.cell 0
 have b1:w2.cell? ⟨w.heap.size,1,none⟩=some (.int .i64 bl):=hb.cell 1
 have b2:w2.cell? ⟨w.heap.size,2,none⟩=some (.int .i64 ro):=hb.cell 2
 have b3:w2.cell? ⟨w.heap.size,3,none⟩=some (.slice B ds.length d):=hb.cell 3
 have HB2:=qa hb2
 clear hb2 hb hw1 HF
 go_wp2_with fail
 refine(HR.out _ HB2.out).mono ?_
 rintro r w3 ⟨rfl,hb3⟩
 have K3:Hid (Below w1.heap.size w1 w3):=HB2.out.trans (hb3.mono HB2.out.size)
 have HCF:Hid (∀W,Below w3.heap.size w3 W→W.cell? ⟨w.heap.size,0,none⟩=some (.int .i64 kd)∧W.cell? ⟨w.heap.size,1,none⟩=some (.int .i64 bl)∧W.cell? ⟨w.heap.size,2,none⟩=some (.int .i64 ro)∧W.cell? ⟨w.heap.size,3,none⟩=some (.slice B ds.length d)):=fun W hW=>by
  have hk:=HBX.out.below (K3.out.trans (hW.mono K3.out.size)) hs1
  exact⟨hk.cell 0,hk.cell 1,hk.cell 2,hk.cell 3⟩
 have hS0:=HCF.out _ (Below.refl _ _)
 have hS1:=HCF.out _ ((Below.refl _ _).drew)
 have KD:Hid (Below w3.heap.size w3 w3.drew):=(Below.refl _ _).drew
 have hsz3:=K3.out.size
 clear hb3 HB2 b0 b1 b2 b3 HR HBX
 go_wp2_with fail
 go_region_held3 (fun w'=>w'.cell? ⟨w.heap.size,0,none⟩=some (.int .i64 kd)∧w'.cell? ⟨w.heap.size,1,none⟩=some (.int .i64 bl)∧w'.cell? ⟨w.heap.size,2,none⟩=some (.int .i64 ro)∧w'.cell? ⟨w.heap.size,3,none⟩=some (.slice B ds.length d)) (first | assumption | go_keep) (first
  | (go_at_call 105;have ht2:=HT2.out;refine(HC.out _ _ _ (K3.out.trans (KY.out.mono K3.out.size)) ht2).mono ?_;rintro r wz ⟨A3,c3,rfl,hr3,hbz,hpl,hrt⟩;have HR3:=qa hr3;have HPL:=qa hpl;have HRT:=qa hrt;have KZ:Hid (Below w3.heap.size w3 wz):=KY.out.trans (hbz.mono KY.out.size);have hSz:=HCF.out _ KZ.out;clear hbz hr3 hpl hrt)
  | (go_at_call 106;refine(HT.out _ (K3.out.trans (KD.out.mono K3.out.size))).mono ?_;rintro r wy ⟨A2,c2,rfl,ho2,hby⟩;have HT2:=qa ((Rd.of_own ho2).wide (qj _) (qc _));have KY:Hid (Below w3.heap.size w3 wy):=KD.out.trans (hby.mono KD.out.size);have hSy:=HCF.out _ KY.out;clear hby ho2))
 go_wp2_with fail
 go_ret2
 exact⟨rfl,B1.out.trans ((K3.out.trans (KZ.out.mono K3.out.size)).mono (by omega)),HPL.out,HRT.out⟩
end
end Go.Proofs.YtjfecojdagmacaaGreat
