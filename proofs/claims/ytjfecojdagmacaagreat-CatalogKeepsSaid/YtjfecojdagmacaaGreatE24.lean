/-
  Lemmas.
-/
import Derived.Test.YtjfecojdagmacaaGreatE23
import Derived.Deep.DeepCutAuto
namespace Go.Proofs.YtjfecojdagmacaaGreat
open Go.RowKit
set_option maxRecDepth 20000
set_option maxHeartbeats 16000000
set_option linter.unusedSimpArgs false
set_option linter.unusedVariables false
section
attribute [local go_sem] qa9
theorem put3{w:World}{g:Nat}{t:TypeId}{a0 a1 a2:Value}(b0 b1 b2:Value)(h:j8 w g t #[a0,a1,a2]) :
  j8 (((w.setCell ⟨g,0,none⟩ b0).setCell ⟨g,1,none⟩ b1).setCell ⟨g,2,none⟩ b2) g t #[b0,b1,b2]:=by
 have:=((h.put 0 b0).put 1 b1).put 2 b2
 simpa using this
theorem below3{a w:World}{B g:Nat}(b0 b1 b2:Value)(h:Below B a w)(hg:B≤g):Below B a (((w.setCell ⟨g,0,none⟩ b0).setCell ⟨g,1,none⟩ b1).setCell ⟨g,2,none⟩ b2) :=
 ((h.setCell (p:=⟨g,0,none⟩) hg _).setCell (p:=⟨g,1,none⟩) hg _).setCell (p:=⟨g,2,none⟩) hg _
theorem rd3{w:World}{g lo hi c:Nat}{A:Option Addr}{xs:List Value}(b0 b1 b2:Value)(h:Rd w lo hi A c xs)(hg:g<lo∨hi≤g):Rd (((w.setCell ⟨g,0,none⟩ b0).setCell ⟨g,1,none⟩ b1).setCell ⟨g,2,none⟩ b2) lo hi A c xs :=
 ((h.setCell (p:=⟨g,0,none⟩) hg _).setCell (p:=⟨g,1,none⟩) hg _).setCell (p:=⟨g,2,none⟩) hg _
theorem bitB_len(l:List Bool)(h:l.length≤4096):(xz l).length≤1000000:=by
 rw[xz,qd,qd9]
 have:=qba 1 l.length (by omega)
 omega
theorem u8_wrap{j:Int}(h0:1≤j)(h3:j≤3):IntKind.u8.wrap j=j:=by
 rw[IntKind.wrap_u8]
 omega
theorem concat3{w:World}{g hi n3 n4 c3 c4:Nat}{j:Int}{A3 A4:Option Addr}{W P:List UInt8}(h1:w.cell? ⟨g,0,none⟩=some (.int .u8 j))(hj:0≤j∧j<256)(h3:Rd w 0 w.heap.size A3 c3 (bv W))(h4:Rd w 0 w.heap.size A4 c4 (bv P))(hn3:W.length=n3)(hn4:P.length=n4)(hb:n3≤10000000000000)(hb2:n4≤10000000000000){w2:World}
  (hw2:w.alloc (.cells #[.slice (some ⟨g,0,none⟩) 1 1,.slice A3 n3 c3,.slice A4 n4 c4] 36)=w2) {F:List UInt8} (hF:UInt8.ofNat j.toNat :: (W++P)=F) :
  Calls Tryz.prog 109 #[.slice (some ⟨w.heap.size,0,none⟩) 3 3] w2 fun r w'=>∃A' c',r= .returned (.slice A' F.length c')∧w'.ownsRow w2.heap.size 5 1 (.slice A' F.length c') F.length (bv F)∧Below w2.heap.size w2 w':=by
 subst hn3 hn4
 have hg:g<w.heap.size:=km w _ h1
 have hs2:w2.heap.size=w.heap.size+1:=by rw[←hw2];simp
 have hb2':Below w.heap.size w w2:=by rw[←hw2];exact(Below.refl _ _).alloc (qc _) _
 have hk:j8 w2 w.heap.size 36 #[.slice (some ⟨g,0,none⟩) 1 1,.slice A3 W.length c3,.slice A4 P.length c4]:=by rw[←hw2];exact j8.new w _ _
 have hp:yg [⟨some ⟨g,0,none⟩,1,[UInt8.ofNat j.toNat]⟩,⟨A3,c3,W⟩,⟨A4,c4,P⟩]=F:=by
  rw[←hF];simp[yg]
 have h:=qmg (w:=w2) (A:=some ⟨w.heap.size,0,none⟩) (c:=3) [⟨some ⟨g,0,none⟩,1,[UInt8.ofNat j.toNat]⟩,⟨A3,c3,W⟩,⟨A4,c4,P⟩] ?_ ?_ ?_ ?_
 ·
  rw[hp] at h
  exact h
 ·
  refine⟨by simp,by simp[maxLen],fun _=>⟨w.heap.size,0,rfl,qj _,by omega,fun i u hu => ?_⟩⟩
  rw[yk,hk.cell i]
  match i,hu with
  | 0,hu=>simpa[Part.val] using hu
  | 1,hu=>simpa[Part.val] using hu
  | 2,hu=>simpa[Part.val] using hu
  | i+3,hu=>simp at hu
 ·
  intro q hq
  simp only[zv,vd,or_false] at hq
  rcases hq with rfl | rfl | rfl
  ·
   refine⟨by simp[bv],by simp[maxLen],fun _=>⟨g,0,rfl,qj _,by omega,fun i u hu => ?_⟩⟩
   match i,hu with
   | 0,hu =>
    simp only[bv,y8,qbu,zf,Option.some.injEq] at hu
    subst hu
    rw[hb2'.cell (p:=⟨g,0+0,none⟩) hg]
    have:((UInt8.ofNat j.toNat).toNat:Int)=j:=by simp;omega
    rw[this]
    exact h1
   | i+1,hu=>simp[bv] at hu
  ·
   exact(h3.below hb2' (qc _)).wide (qc _) (by omega)
  ·
   exact(h4.below hb2' (qc _)).wide (qc _) (by omega)
 ·
  rw[hp,←hF];simp
 ·
  rw[hp,←hF];simp;omega
set_option maxRecDepth 100000 in
set_option maxHeartbeats 4000000 in
theorem code_yesW{w:World}{L:List Vl}{kd bl ro:Int}{ds:List Int}{A B:Option Addr}{c d:Nat}(h:CIn w L kd bl ro ds A B c d){o:Co}(ho:o=⟨kd,bl,ro,ds⟩)(hm:qjo L o)(hcode:CodeC (qr L) kd bl ro ds B d o) :
  Calls Tryz.prog 78 #[.slice A L.length c,.agg #[.int .i64 kd,.int .i64 bl,.int .i64 ro,.slice B ds.length d]] w fun r w'=>∃A' c',r= .returned (.tuple #[.slice A' (qf6 L o).length c',.int .i64 0])∧w'.ownsRow w.heap.size 5 1 (.slice A' (qf6 L o).length c') (qf6 L o).length (bv (qf6 L o))∧Below w.heap.size w w'∧
   (y9 (qr L) o=2→jz (ki (qr L) o)=true):=by
 rw[ho] at hcode
 subst ho
 obtain⟨w1,hw1⟩:∃w1,w.alloc (.cells #[.int .i64 kd,.int .i64 bl,.int .i64 ro,.slice B ds.length d] 60)=w1:=⟨_,rfl⟩
 have B1:Hid (Below w.heap.size w w1):=by unfold Hid;rw[←hw1];exact(Below.refl _ w).alloc (qc _) _
 have hs1:w.heap.size<w1.heap.size:=by rw[←hw1];simp
 have hbx:j8 w1 w.heap.size 60 #[.int .i64 kd,.int .i64 bl,.int .i64 ro,.slice B ds.length d]:=by rw[←hw1];exact j8.new w _ _
 have h1:=h.on B1.out
 have HF:=qa (fits_v (w:=w1) L h1.row)
 rw[qx hm.1] at HF
 have HR:Hid (∀W,Below w1.heap.size w1 W→Calls Tryz.prog 104 #[.agg #[.int .i64 kd,.int .i64 bl,.int .i64 ro,.slice B ds.length d]] W fun r w'=>r= .returned (.bool true)∧Below W.heap.size W w'):=fun W hW=>by
  have:=right_v (w:=W) ⟨kd,bl,ro,ds⟩ (h1.on hW).dr
  rw[qx hm.2] at this
  exact this
 obtain⟨o,ho⟩:∃o:Co,o=⟨kd,bl,ro,ds⟩:=⟨_,rfl⟩
 have hL4:=hm.1.1
 have HT:Hid (∀W,Below w1.heap.size w1 W→Calls Tryz.prog 106 #[.slice A L.length c] W fun r w'=>∃A' c',r= .returned (.slice A' (qr L).length c')∧w'.ownsRow W.heap.size 9 1 (.slice A' (qr L).length c') (qr L).length (sv (qr L))∧Below W.heap.size W w'):=fun W hW=>texts_v L (h1.on hW).row (by omega)
 have HC:Hid (∀W A' c',Below w1.heap.size w1 W→Rd W 0 W.heap.size A' c' (sv (qr L))→Calls Tryz.prog 105 #[.slice A' (qr L).length c',.agg #[.int .i64 kd,.int .i64 bl,.int .i64 ro,.slice B ds.length d]] W fun r w'=>∃A'' c'',r= .returned (.agg #[.int .i64 (y9 (qr L) o),.slice A'' (yu (qr L) o (y9 (qr L) o)).length c'',.complex .f64 (fl (yu (qr L) o (y9 (qr L) o)).length) (fl (qr L).length)])∧
   Rd w' W.heap.size w'.heap.size A'' c'' (bv (yu (qr L) o (y9 (qr L) o)))∧Below W.heap.size W w'∧(yu (qr L) o (y9 (qr L) o)).length≤1000000000000∧(y9 (qr L) o=2→jz (ki (qr L) o)=true)):=fun W A' c' hW hr =>
  by rw[ho];exact hcode ⟨hr,(h1.on hW).dr,h.word,hm.2,hm.few.1,h.draws,hm.few.2⟩
 have HH:Hid (∀W,Below w1.heap.size w1 W→Calls Tryz.prog 111 #[.slice A L.length c] W fun r w'=>∃A' c',r= .returned (.slice A' L.length c')∧w'.ownsRow W.heap.size 4 1 (.slice A' L.length c') L.length (lv (xi L))∧Below W.heap.size W w'):=fun W hW=>there_v L (h1.on hW).row (by omega)
 have HW:Hid (∀W A' c',Rd W 0 W.heap.size A' c' (lv (xi L))→Calls Tryz.prog 110 #[.slice A' L.length c'] W fun r w'=>∃A'' c'',r= .returned (.slice A'' (xz (xi L)).length c'')∧w'.ownsRow W.heap.size 5 1 (.slice A'' (xz (xi L)).length c'') (xz (xi L)).length (bv (xz (xi L)))∧Below W.heap.size W w'):=fun W A' c' hr=>by
  have:=bwrite_any (w:=W) (A:=A') (c:=c') (xi L) hr (qc _) (by rw[uq];omega)
  rw[uq] at this
  exact this
 have HWL:Hid ((xz (xi L)).length≤1000000):=by
  have h2:=bitB_len (xi L) (by rw[uq];exact hL4)
  exact h2
 have HKI:=qa (qf4 (qr L) hm.2)
 have HCL:Hid (UInt8.ofNat (y9 (qr L) o).toNat :: (xz (xi L)++yu (qr L) o (y9 (qr L) o))=qf6 L o):=rfl
 have HBX:=qa hbx
 rw[←ho] at HKI ⊢
 clear h h1 hm hbx ho hcode
 generalize qf6 L o=F at *
 generalize y9 (qr L) o=j at *
 generalize yu (qr L) o j=P at *
 generalize ki (qr L) o=T at *
 generalize qr L=S at *
 generalize xi L=TH at *
 generalize xz TH=WB at *
 go_enter Tryz.func78,Tryz.ntmps78
 go_wp2_with fail
 refine HF.out.mono ?_
 rintro r w2 ⟨rfl,hb2⟩
 have hb:=HBX.out.below hb2 hs1
 have b0:w2.cell? ⟨w.heap.size,0,none⟩=some (.int .i64 kd):=hb.cell 0
 have b1:w2.cell? ⟨w.heap.size,1,none⟩=some (.int .i64 bl):=hb.cell 1
 have b2:w2.cell? ⟨w.heap.size,2,none⟩=some (.int .i64 ro):=hb.cell 2
 have b3:w2.cell? ⟨w.heap.size,3,none⟩=some (.slice B ds.length d):=hb.cell 3
 have HB2:=qa hb2
 clear hb2 hb hw1 HF
 go_wp2_with fail
 refine(HR.out _ HB2.out).mono ?_
 rintro r w3 ⟨rfl,hb3⟩
 have K3:Hid (Below w1.heap.size w1 w3):=HB2.out.trans (hb3.mono HB2.out.size)
 have HCF:Hid (∀W,Below w3.heap.size w3 W→W.cell? ⟨w.heap.size,0,none⟩=some (.int .i64 kd)∧W.cell? ⟨w.heap.size,1,none⟩=some (.int .i64 bl)∧W.cell? ⟨w.heap.size,2,none⟩=some (.int .i64 ro)∧W.cell? ⟨w.heap.size,3,none⟩=some (.slice B ds.length d)):=fun W hW=>by
  have hk:=HBX.out.below (K3.out.trans (hW.mono K3.out.size)) hs1
  exact⟨hk.cell 0,hk.cell 1,hk.cell 2,hk.cell 3⟩
 have KD:Hid (Below w3.heap.size w3 w3.drew):=(Below.refl _ _).drew
 have hsz3:=K3.out.size
 clear hb3 HB2 b0 b1 b2 b3 HR HBX
 have hs3':=hsz3
 have HCG:=HCF
 go_wp2_with fail
 go_cut [6] (fun x6 wx=>∃(g:Nat) (A':Option Addr) (c' lo:Nat),x6= .pointer (some ⟨g,0,none⟩)∧j8 wx g 164 #[.int .i64 j,.slice A' P.length c',.complex .f64 (fl P.length) (fl S.length)]∧Rd wx 0 wx.heap.size A' c' (bv P)∧P.length≤1000000000000∧(j=2→jz T=true)∧Below w3.heap.size w3 wx)
 case first =>
  have KD:Hid (Below w3.heap.size w3 w3.drew):=(Below.refl _ _).drew
  refine wp_region_held_drew (S:=fun w'=>Below w3.heap.size w3 w') (by kernel_rfl) KD.out (fun hHeld => ?_)
  refine tk 0 ?_ rfl hHeld ?_ ?_
  rotate_left
  focus (intro W hSw;obtain⟨q0,q1,q2,q3⟩:=HCF.out W hSw;go_simp;try with_reducible rfl)
  try simp only[jt,Act.put]
  refine tk 2 ?_ rfl hHeld ?_ ?_
  rotate_left
  focus (intro W hSw;obtain⟨q0,q1,q2,q3⟩:=HCF.out W hSw;go_simp;try with_reducible rfl)
  try simp only[jt,Act.put]
  obtain⟨wd,hwd⟩:∃q,w3.drew=q:=⟨_,rfl⟩
  rw[hwd] at hHeld ⊢
  clear KD hwd
  have K_wd:=qa hHeld
  refine wpAnyH_ready (rs:=[1,4]) (by kernel_rfl) (by simp) ?_
  refine qu (o:=_) rfl (fun K hK => ?_) (qu (o:=_) rfl (fun K hK => ?_) q5)
  ·
   go_simp
   refine(HT.out _ (K3.out.trans (K_wd.out.mono K3.out.size))).mono ?_
   rintro r v1 ⟨At,ct,rfl,hot,hb_v1⟩
   have s_v1:wd.heap.size≤v1.heap.size:=hb_v1.size
   have K_v1:Hid (Below w3.heap.size w3 v1):=qa (K_wd.out.trans (hb_v1.mono K_wd.out.size))
   have Ht_v1:Hid (Rd v1 0 v1.heap.size At ct (sv S)):=(Rd.of_own hot).wide (qj _) (qc _)
   clear hb_v1
   clear hot
   refine hK.out _ _ K_v1.out (fun hHeld => ?_)
   clear hK K
   try simp only[jt,Act.put]
   refine wpAnyH_ready (rs:=[3,4]) (by kernel_rfl) (by simp) ?_
   refine qu (o:=_) rfl (fun K hK => ?_) (qu (o:=_) rfl (fun K hK => ?_) q5)
   ·
    go_simp
    refine(HC.out _ _ _ (K3.out.trans (K_v1.out.mono K3.out.size)) Ht_v1.out).mono ?_
    rintro r v2 ⟨Ap,cp,rfl,hrp,hb_v2,hpl,hrt⟩
    have HPL:=qa hpl
    have HRT:=qa hrt
    have s_v2:v1.heap.size≤v2.heap.size:=hb_v2.size
    have K_v2:Hid (Below w3.heap.size w3 v2):=qa (K_v1.out.trans (hb_v2.mono K_v1.out.size))
    have Ht_v2:Hid (Rd v2 0 v2.heap.size At ct (sv S)):=(Ht_v1.out.below hb_v2 (qc _)).wide (qc _) hb_v2.size
    have Hp_v2:Hid (Rd v2 v1.heap.size v2.heap.size Ap cp (bv P)):=hrp
    clear hb_v2
    clear hrp hpl hrt
    refine hK.out _ _ K_v2.out (fun hHeld => ?_)
    clear hK K
    try simp only[jt,Act.put]
    refine wpAnyH_ready (rs:=[4]) (by kernel_rfl) (by simp) ?_
    refine qu (o:=_) rfl (fun K hK => ?_) q5
    go_simp
    obtain⟨v3,hw_v3⟩:∃q,v2.alloc (.cells #[.int .i64 0,.slice none 0 0,.complex .f64 0 0] 164)=q:=⟨_,rfl⟩
    rw[hw_v3]
    have hb_v3:Below v2.heap.size v2 v3:=by rw[←hw_v3];exact(Below.refl _ _).alloc (qc _) _
    have z_v3:v2.heap.size<v3.heap.size:=by rw[←hw_v3];simp
    have s_v3:v2.heap.size≤v3.heap.size:=hb_v3.size
    have K_v3:Hid (Below w3.heap.size w3 v3):=qa (K_v2.out.trans (hb_v3.mono K_v2.out.size))
    have Ht_v3:Hid (Rd v3 0 v3.heap.size At ct (sv S)):=(Ht_v2.out.below hb_v3 (qc _)).wide (qc _) hb_v3.size
    have Hp_v3:Hid (Rd v3 v1.heap.size v2.heap.size Ap cp (bv P)):=Hp_v2.out.below hb_v3 (by omega)
    have Hg_v3:Hid (j8 v3 v2.heap.size 164 #[.int .i64 0,.slice none 0 0,.complex .f64 0 0]):=by rw[←hw_v3];exact j8.new _ _ _
    have Hgg_v3:Hid (w3.heap.size≤v2.heap.size):=K_v2.out.size
    clear hb_v3
    clear hw_v3
    refine hK.out _ _ K_v3.out (fun hHeld => ?_)
    clear hK K
    try simp only[jt,Act.put]
    have c0:=Hg_v3.out.cell 0
    have c1:=Hg_v3.out.cell 1
    have c2:=Hg_v3.out.cell 2
    have f0:=Hg_v3.out.frozen 0
    have f1:=Hg_v3.out.frozen 1
    have f2:=Hg_v3.out.frozen 2
    simp only[zo,zf,zg] at c0 c1 c2
    refine wpAnyH_ready (rs:=[5]) (by kernel_rfl) (by simp) ?_
    refine qu (o:=_) rfl (fun K hK => ?_) q5
    go_simp
    clear c0 c1 c2 f0 f1 f2
    have KE:=qa (below3 (g:=v2.heap.size) (.int .i64 j) (.slice Ap P.length cp) (.complex .f64 (fl P.length) (fl S.length)) K_v3.out Hgg_v3.out)
    refine hK.out _ _ KE.out (fun hHeld => ?_)
    clear hK K
    try simp only[jt,Act.put]
    refine wpAnyH_done (by kernel_rfl) ?_ _
    go_wp2_with fail
    go_meet
    exact⟨_,Ap,cp,0,rfl,put3 _ _ _ Hg_v3.out,(rd3 _ _ _ Hp_v3.out (by omega)).wide (qj _) (by simp[World.setCell] <;> omega),HPL.out,HRT.out,KE.out⟩
   ·
    go_simp
    obtain⟨v4,hw_v4⟩:∃q,v1.alloc (.cells #[.int .i64 0,.slice none 0 0,.complex .f64 0 0] 164)=q:=⟨_,rfl⟩
    rw[hw_v4]
    have hb_v4:Below v1.heap.size v1 v4:=by rw[←hw_v4];exact(Below.refl _ _).alloc (qc _) _
    have z_v4:v1.heap.size<v4.heap.size:=by rw[←hw_v4];simp
    have s_v4:v1.heap.size≤v4.heap.size:=hb_v4.size
    have K_v4:Hid (Below w3.heap.size w3 v4):=qa (K_v1.out.trans (hb_v4.mono K_v1.out.size))
    have Ht_v4:Hid (Rd v4 0 v4.heap.size At ct (sv S)):=(Ht_v1.out.below hb_v4 (qc _)).wide (qc _) hb_v4.size
    have Hg_v4:Hid (j8 v4 v1.heap.size 164 #[.int .i64 0,.slice none 0 0,.complex .f64 0 0]):=by rw[←hw_v4];exact j8.new _ _ _
    have Hgg_v4:Hid (w3.heap.size≤v1.heap.size):=K_v1.out.size
    clear hb_v4
    clear hw_v4
    refine hK.out _ _ K_v4.out (fun hHeld => ?_)
    clear hK K
    try simp only[jt,Act.put]
    refine wpAnyH_ready (rs:=[3]) (by kernel_rfl) (by simp) ?_
    refine qu (o:=_) rfl (fun K hK => ?_) q5
    go_simp
    refine(HC.out _ _ _ (K3.out.trans (K_v4.out.mono K3.out.size)) Ht_v4.out).mono ?_
    rintro r v5 ⟨Ap,cp,rfl,hrp,hb_v5,hpl,hrt⟩
    have HPL:=qa hpl
    have HRT:=qa hrt
    have s_v5:v4.heap.size≤v5.heap.size:=hb_v5.size
    have K_v5:Hid (Below w3.heap.size w3 v5):=qa (K_v4.out.trans (hb_v5.mono K_v4.out.size))
    have Ht_v5:Hid (Rd v5 0 v5.heap.size At ct (sv S)):=(Ht_v4.out.below hb_v5 (qc _)).wide (qc _) hb_v5.size
    have Hg_v5:Hid (j8 v5 v1.heap.size 164 #[.int .i64 0,.slice none 0 0,.complex .f64 0 0]):=Hg_v4.out.below hb_v5 Hg_v4.out.lt
    have Hgg_v5:Hid (w3.heap.size≤v1.heap.size):=Hgg_v4.out
    have Hp_v5:Hid (Rd v5 v4.heap.size v5.heap.size Ap cp (bv P)):=hrp
    clear hb_v5
    clear hrp hpl hrt
    refine hK.out _ _ K_v5.out (fun hHeld => ?_)
    clear hK K
    try simp only[jt,Act.put]
    have c0:=Hg_v5.out.cell 0
    have c1:=Hg_v5.out.cell 1
    have c2:=Hg_v5.out.cell 2
    have f0:=Hg_v5.out.frozen 0
    have f1:=Hg_v5.out.frozen 1
    have f2:=Hg_v5.out.frozen 2
    simp only[zo,zf,zg] at c0 c1 c2
    refine wpAnyH_ready (rs:=[5]) (by kernel_rfl) (by simp) ?_
    refine qu (o:=_) rfl (fun K hK => ?_) q5
    go_simp
    clear c0 c1 c2 f0 f1 f2
    have KE:=qa (below3 (g:=v1.heap.size) (.int .i64 j) (.slice Ap P.length cp) (.complex .f64 (fl P.length) (fl S.length)) K_v5.out Hgg_v5.out)
    refine hK.out _ _ KE.out (fun hHeld => ?_)
    clear hK K
    try simp only[jt,Act.put]
    refine wpAnyH_done (by kernel_rfl) ?_ _
    go_wp2_with fail
    go_meet
    exact⟨_,Ap,cp,0,rfl,put3 _ _ _ Hg_v5.out,(rd3 _ _ _ Hp_v5.out (by omega)).wide (qj _) (by simp[World.setCell] <;> omega),HPL.out,HRT.out,KE.out⟩
  ·
   go_simp
   obtain⟨v6,hw_v6⟩:∃q,wd.alloc (.cells #[.int .i64 0,.slice none 0 0,.complex .f64 0 0] 164)=q:=⟨_,rfl⟩
   rw[hw_v6]
   have hb_v6:Below wd.heap.size wd v6:=by rw[←hw_v6];exact(Below.refl _ _).alloc (qc _) _
   have z_v6:wd.heap.size<v6.heap.size:=by rw[←hw_v6];simp
   have s_v6:wd.heap.size≤v6.heap.size:=hb_v6.size
   have K_v6:Hid (Below w3.heap.size w3 v6):=qa (K_wd.out.trans (hb_v6.mono K_wd.out.size))
   have Hg_v6:Hid (j8 v6 wd.heap.size 164 #[.int .i64 0,.slice none 0 0,.complex .f64 0 0]):=by rw[←hw_v6];exact j8.new _ _ _
   have Hgg_v6:Hid (w3.heap.size≤wd.heap.size):=K_wd.out.size
   clear hb_v6
   clear hw_v6
   refine hK.out _ _ K_v6.out (fun hHeld => ?_)
   clear hK K
   try simp only[jt,Act.put]
   refine wpAnyH_ready (rs:=[1]) (by kernel_rfl) (by simp) ?_
   refine qu (o:=_) rfl (fun K hK => ?_) q5
   go_simp
   refine(HT.out _ (K3.out.trans (K_v6.out.mono K3.out.size))).mono ?_
   rintro r v7 ⟨At,ct,rfl,hot,hb_v7⟩
   have s_v7:v6.heap.size≤v7.heap.size:=hb_v7.size
   have K_v7:Hid (Below w3.heap.size w3 v7):=qa (K_v6.out.trans (hb_v7.mono K_v6.out.size))
   have Hg_v7:Hid (j8 v7 wd.heap.size 164 #[.int .i64 0,.slice none 0 0,.complex .f64 0 0]):=Hg_v6.out.below hb_v7 Hg_v6.out.lt
   have Hgg_v7:Hid (w3.heap.size≤wd.heap.size):=Hgg_v6.out
   have Ht_v7:Hid (Rd v7 0 v7.heap.size At ct (sv S)):=(Rd.of_own hot).wide (qj _) (qc _)
   clear hb_v7
   clear hot
   refine hK.out _ _ K_v7.out (fun hHeld => ?_)
   clear hK K
   try simp only[jt,Act.put]
   refine wpAnyH_ready (rs:=[3]) (by kernel_rfl) (by simp) ?_
   refine qu (o:=_) rfl (fun K hK => ?_) q5
   go_simp
   refine(HC.out _ _ _ (K3.out.trans (K_v7.out.mono K3.out.size)) Ht_v7.out).mono ?_
   rintro r v8 ⟨Ap,cp,rfl,hrp,hb_v8,hpl,hrt⟩
   have HPL:=qa hpl
   have HRT:=qa hrt
   have s_v8:v7.heap.size≤v8.heap.size:=hb_v8.size
   have K_v8:Hid (Below w3.heap.size w3 v8):=qa (K_v7.out.trans (hb_v8.mono K_v7.out.size))
   have Hg_v8:Hid (j8 v8 wd.heap.size 164 #[.int .i64 0,.slice none 0 0,.complex .f64 0 0]):=Hg_v7.out.below hb_v8 Hg_v7.out.lt
   have Hgg_v8:Hid (w3.heap.size≤wd.heap.size):=Hgg_v7.out
   have Ht_v8:Hid (Rd v8 0 v8.heap.size At ct (sv S)):=(Ht_v7.out.below hb_v8 (qc _)).wide (qc _) hb_v8.size
   have Hp_v8:Hid (Rd v8 v7.heap.size v8.heap.size Ap cp (bv P)):=hrp
   clear hb_v8
   clear hrp hpl hrt
   refine hK.out _ _ K_v8.out (fun hHeld => ?_)
   clear hK K
   try simp only[jt,Act.put]
   have c0:=Hg_v8.out.cell 0
   have c1:=Hg_v8.out.cell 1
   have c2:=Hg_v8.out.cell 2
   have f0:=Hg_v8.out.frozen 0
   have f1:=Hg_v8.out.frozen 1
   have f2:=Hg_v8.out.frozen 2
   simp only[zo,zf,zg] at c0 c1 c2
   refine wpAnyH_ready (rs:=[5]) (by kernel_rfl) (by simp) ?_
   refine qu (o:=_) rfl (fun K hK => ?_) q5
   go_simp
   clear c0 c1 c2 f0 f1 f2
   have KE:=qa (below3 (g:=wd.heap.size) (.int .i64 j) (.slice Ap P.length cp) (.complex .f64 (fl P.length) (fl S.length)) K_v8.out Hgg_v8.out)
   refine hK.out _ _ KE.out (fun hHeld => ?_)
   clear hK K
   try simp only[jt,Act.put]
   refine wpAnyH_done (by kernel_rfl) ?_ _
   go_wp2_with fail
   go_meet
   exact⟨_,Ap,cp,0,rfl,put3 _ _ _ Hg_v8.out,(rd3 _ _ _ Hp_v8.out (by omega)).wide (qj _) (by simp[World.setCell] <;> omega),HPL.out,HRT.out,KE.out⟩
 case rest =>
  obtain⟨g,Ap,cp,lo,rfl,hg,hrp,hpl,hrt,hb4⟩:=hcut
  have HPL:=qa hpl
  have HRT:=qa hrt
  have HRP:=qa hrp
  have K4:Hid (Below w1.heap.size w1 wc):=K3.out.trans (hb4.mono K3.out.size)
  have HGB:=qa hg
  have hsz4:=K4.out.size
  have HCH:Hid (∀W,Below wc.heap.size wc W→W.cell? ⟨g,0,none⟩=some (.int .i64 j)∧W.cell? ⟨g,1,none⟩=some (.slice Ap P.length cp)):=fun W hW=>⟨(HGB.out.below hW HGB.out.lt).cell 0,(HGB.out.below hW HGB.out.lt).cell 1⟩
  have hwr:IntKind.u8.wrap j=j:=u8_wrap (by have:=HKI.out;omega) (by have:=HKI.out;omega)
  clear hg hrp hpl hrt hb4 HCF HCG HT HC
  go_wp2_with fail
  have KD:Hid (Below wc.heap.size wc wc.drew):=(Below.refl _ _).drew
  refine wp_region_held_drew (S:=fun w'=>Below wc.heap.size wc w') (by kernel_rfl) KD.out (fun hHeld => ?_)
  refine tk 0 ?_ rfl hHeld ?_ ?_
  rotate_left
  focus (intro W hSw;obtain⟨q0,q1⟩:=HCH.out W hSw;go_simp;try with_reducible rfl)
  try simp only[jt,Act.put]
  refine tk 1 ?_ rfl hHeld ?_ ?_
  rotate_left
  focus (intro W hSw;obtain⟨q0,q1⟩:=HCH.out W hSw;go_simp;try with_reducible rfl)
  try simp only[jt,Act.put]
  refine tk 2 ?_ rfl hHeld ?_ ?_
  rotate_left
  focus (intro W hSw;obtain⟨q0,q1⟩:=HCH.out W hSw;go_simp;try with_reducible rfl)
  try simp only[jt,Act.put]
  refine tk 4 ?_ rfl hHeld ?_ ?_
  rotate_left
  focus (intro W hSw;obtain⟨q0,q1⟩:=HCH.out W hSw;go_simp;try with_reducible rfl)
  try simp only[jt,Act.put]
  refine tk 7 ?_ rfl hHeld ?_ ?_
  rotate_left
  focus (intro W hSw;obtain⟨q0,q1⟩:=HCH.out W hSw;go_simp;try with_reducible rfl)
  try simp only[jt,Act.put]
  refine tk 8 ?_ rfl hHeld ?_ ?_
  rotate_left
  focus (intro W hSw;obtain⟨q0,q1⟩:=HCH.out W hSw;go_simp;try with_reducible rfl)
  try simp only[jt,Act.put]
  obtain⟨wd,hwd⟩:∃q,wc.drew=q:=⟨_,rfl⟩
  rw[hwd] at hHeld ⊢
  clear KD hwd
  have K_wd:=qa hHeld
  refine wpAnyH_ready (rs:=[3,5]) (by kernel_rfl) (by simp) ?_
  refine qu (o:=_) rfl (fun K hK => ?_) (qu (o:=_) rfl (fun K hK => ?_) q5)
  ·
   go_simp
   obtain⟨v1,hw_v1⟩:∃q,wd.alloc (.cells #[.int .u8 j] 5)=q:=⟨_,rfl⟩
   rw[hw_v1]
   have hb_v1:Below wd.heap.size wd v1:=by rw[←hw_v1];exact(Below.refl _ _).alloc (qc _) _
   have z_v1:wd.heap.size<v1.heap.size:=by rw[←hw_v1];simp
   have s_v1:wd.heap.size≤v1.heap.size:=hb_v1.size
   have K_v1:Hid (Below wc.heap.size wc v1):=qa (K_wd.out.trans (hb_v1.mono K_wd.out.size))
   have Hl_v1:Hid (v1.cell? ⟨wd.heap.size,0,none⟩=some (.int .u8 j)):=by rw[←hw_v1,zm _ _ _ _ rfl];rfl
   clear hb_v1
   clear hw_v1
   refine hK.out _ _ K_v1.out (fun hHeld => ?_)
   clear hK K
   try simp only[jt,Act.put]
   refine wpAnyH_ready (rs:=[5]) (by kernel_rfl) (by simp) ?_
   refine qu (o:=_) rfl (fun K hK => ?_) q5
   go_simp
   refine(HH.out _ (K4.out.trans (K_v1.out.mono K4.out.size))).mono ?_
   rintro r v2 ⟨Ah,ch,rfl,hoh,hb_v2⟩
   have s_v2:v1.heap.size≤v2.heap.size:=hb_v2.size
   have K_v2:Hid (Below wc.heap.size wc v2):=qa (K_v1.out.trans (hb_v2.mono K_v1.out.size))
   have Hl_v2:Hid (v2.cell? ⟨wd.heap.size,0,none⟩=some (.int .u8 j)):=(hb_v2.cell (p:=⟨wd.heap.size,0,none⟩) (by show wd.heap.size<_;omega)).trans Hl_v1.out
   have Hh_v2:Hid (Rd v2 0 v2.heap.size Ah ch (lv TH)):=(Rd.of_own hoh).wide (qj _) (qc _)
   clear hb_v2
   clear hoh
   refine hK.out _ _ K_v2.out (fun hHeld => ?_)
   clear hK K
   try simp only[jt,Act.put]
   refine wpAnyH_ready (rs:=[6]) (by kernel_rfl) (by simp) ?_
   refine qu (o:=_) rfl (fun K hK => ?_) q5
   go_simp
   refine(HW.out _ _ _ Hh_v2.out).mono ?_
   rintro r v3 ⟨Ab,cb,rfl,hob,hb_v3⟩
   have s_v3:v2.heap.size≤v3.heap.size:=hb_v3.size
   have K_v3:Hid (Below wc.heap.size wc v3):=qa (K_v2.out.trans (hb_v3.mono K_v2.out.size))
   have Hl_v3:Hid (v3.cell? ⟨wd.heap.size,0,none⟩=some (.int .u8 j)):=(hb_v3.cell (p:=⟨wd.heap.size,0,none⟩) (by show wd.heap.size<_;omega)).trans Hl_v2.out
   have Hh_v3:Hid (Rd v3 0 v3.heap.size Ah ch (lv TH)):=(Hh_v2.out.below hb_v3 (qc _)).wide (qc _) hb_v3.size
   have Hb_v3:Hid (Rd v3 0 v3.heap.size Ab cb (bv WB)):=(Rd.of_own hob).wide (qj _) (qc _)
   clear hb_v3
   clear hob
   refine hK.out _ _ K_v3.out (fun hHeld => ?_)
   clear hK K
   try simp only[jt,Act.put]
   refine wpAnyH_ready (rs:=[9]) (by kernel_rfl) (by simp) ?_
   refine qu (o:=_) rfl (fun K hK => ?_) q5
   go_simp
   obtain⟨v4,hw_v4⟩:∃q,v3.alloc (.cells #[.slice (some ⟨wd.heap.size,0,none⟩) 1 1,.slice Ab WB.length cb,.slice Ap P.length cp] 36)=q:=⟨_,rfl⟩
   rw[hw_v4]
   have hb_v4:Below v3.heap.size v3 v4:=by rw[←hw_v4];exact(Below.refl _ _).alloc (qc _) _
   have K_v4:Hid (Below wc.heap.size wc v4):=qa (K_v3.out.trans (hb_v4.mono K_v3.out.size))
   have HCC:=qa (concat3 (hi:=0) Hl_v3.out (by have:=HKI.out;omega) Hb_v3.out ((HRP.out.below K_v3.out (qc _)).wide (qc _) K_v3.out.size) rfl rfl (by have:=HWL.out;omega) (by have:=HPL.out;omega) hw_v4 HCL.out)
   clear hw_v4
   refine hK.out _ _ K_v4.out (fun hHeld => ?_)
   clear hK K
   try simp only[jt,Act.put]
   refine wpAnyH_ready (rs:=[10]) (by kernel_rfl) (by simp) ?_
   refine qu (o:=_) rfl (fun K hK => ?_) q5
   go_simp
   refine HCC.out.mono ?_
   rintro r v5 ⟨Af,cf,rfl,hof,hb_v5⟩
   have K_v5:Hid (Below wc.heap.size wc v5):=qa (K_v4.out.trans (hb_v5.mono K_v4.out.size))
   have HOF:=qa hof
   have sz_v4:=K_v4.out.size
   clear hof hb_v5 HCC
   refine hK.out _ _ K_v5.out (fun hHeld => ?_)
   clear hK K
   try simp only[jt,Act.put]
   refine tk 11 ?_ rfl hHeld ?_ ?_
   rotate_left
   focus (intro W hSw;obtain⟨q0,q1⟩:=HCH.out W hSw;go_simp;try with_reducible rfl)
   try simp only[jt,Act.put]
   refine tk 12 ?_ rfl hHeld ?_ ?_
   rotate_left
   focus (intro W hSw;obtain⟨q0,q1⟩:=HCH.out W hSw;go_simp;try with_reducible rfl)
   try simp only[jt,Act.put]
   refine wpAnyH_done (by kernel_rfl) ?_ _
   go_wp2_with fail
   go_ret2
   exact⟨_,_,rfl,j9 HOF.out (by omega),B1.out.trans ((K4.out.trans (K_v5.out.mono K4.out.size)).mono (by omega)),HRT.out⟩
  ·
   go_simp
   refine(HH.out _ (K4.out.trans (K_wd.out.mono K4.out.size))).mono ?_
   rintro r v6 ⟨Ah,ch,rfl,hoh,hb_v6⟩
   have s_v6:wd.heap.size≤v6.heap.size:=hb_v6.size
   have K_v6:Hid (Below wc.heap.size wc v6):=qa (K_wd.out.trans (hb_v6.mono K_wd.out.size))
   have Hh_v6:Hid (Rd v6 0 v6.heap.size Ah ch (lv TH)):=(Rd.of_own hoh).wide (qj _) (qc _)
   clear hb_v6
   clear hoh
   refine hK.out _ _ K_v6.out (fun hHeld => ?_)
   clear hK K
   try simp only[jt,Act.put]
   refine wpAnyH_ready (rs:=[3,6]) (by kernel_rfl) (by simp) ?_
   refine qu (o:=_) rfl (fun K hK => ?_) (qu (o:=_) rfl (fun K hK => ?_) q5)
   ·
    go_simp
    obtain⟨v7,hw_v7⟩:∃q,v6.alloc (.cells #[.int .u8 j] 5)=q:=⟨_,rfl⟩
    rw[hw_v7]
    have hb_v7:Below v6.heap.size v6 v7:=by rw[←hw_v7];exact(Below.refl _ _).alloc (qc _) _
    have z_v7:v6.heap.size<v7.heap.size:=by rw[←hw_v7];simp
    have s_v7:v6.heap.size≤v7.heap.size:=hb_v7.size
    have K_v7:Hid (Below wc.heap.size wc v7):=qa (K_v6.out.trans (hb_v7.mono K_v6.out.size))
    have Hh_v7:Hid (Rd v7 0 v7.heap.size Ah ch (lv TH)):=(Hh_v6.out.below hb_v7 (qc _)).wide (qc _) hb_v7.size
    have Hl_v7:Hid (v7.cell? ⟨v6.heap.size,0,none⟩=some (.int .u8 j)):=by rw[←hw_v7,zm _ _ _ _ rfl];rfl
    clear hb_v7
    clear hw_v7
    refine hK.out _ _ K_v7.out (fun hHeld => ?_)
    clear hK K
    try simp only[jt,Act.put]
    refine wpAnyH_ready (rs:=[6]) (by kernel_rfl) (by simp) ?_
    refine qu (o:=_) rfl (fun K hK => ?_) q5
    go_simp
    refine(HW.out _ _ _ Hh_v7.out).mono ?_
    rintro r v8 ⟨Ab,cb,rfl,hob,hb_v8⟩
    have s_v8:v7.heap.size≤v8.heap.size:=hb_v8.size
    have K_v8:Hid (Below wc.heap.size wc v8):=qa (K_v7.out.trans (hb_v8.mono K_v7.out.size))
    have Hh_v8:Hid (Rd v8 0 v8.heap.size Ah ch (lv TH)):=(Hh_v7.out.below hb_v8 (qc _)).wide (qc _) hb_v8.size
    have Hl_v8:Hid (v8.cell? ⟨v6.heap.size,0,none⟩=some (.int .u8 j)):=(hb_v8.cell (p:=⟨v6.heap.size,0,none⟩) (by show v6.heap.size<_;omega)).trans Hl_v7.out
    have Hb_v8:Hid (Rd v8 0 v8.heap.size Ab cb (bv WB)):=(Rd.of_own hob).wide (qj _) (qc _)
    clear hb_v8
    clear hob
    refine hK.out _ _ K_v8.out (fun hHeld => ?_)
    clear hK K
    try simp only[jt,Act.put]
    refine wpAnyH_ready (rs:=[9]) (by kernel_rfl) (by simp) ?_
    refine qu (o:=_) rfl (fun K hK => ?_) q5
    go_simp
    obtain⟨v9,hw_v9⟩:∃q,v8.alloc (.cells #[.slice (some ⟨v6.heap.size,0,none⟩) 1 1,.slice Ab WB.length cb,.slice Ap P.length cp] 36)=q:=⟨_,rfl⟩
    rw[hw_v9]
    have hb_v9:Below v8.heap.size v8 v9:=by rw[←hw_v9];exact(Below.refl _ _).alloc (qc _) _
    have K_v9:Hid (Below wc.heap.size wc v9):=qa (K_v8.out.trans (hb_v9.mono K_v8.out.size))
    have HCC:=qa (concat3 (hi:=0) Hl_v8.out (by have:=HKI.out;omega) Hb_v8.out ((HRP.out.below K_v8.out (qc _)).wide (qc _) K_v8.out.size) rfl rfl (by have:=HWL.out;omega) (by have:=HPL.out;omega) hw_v9 HCL.out)
    clear hw_v9
    refine hK.out _ _ K_v9.out (fun hHeld => ?_)
    clear hK K
    try simp only[jt,Act.put]
    refine wpAnyH_ready (rs:=[10]) (by kernel_rfl) (by simp) ?_
    refine qu (o:=_) rfl (fun K hK => ?_) q5
    go_simp
    refine HCC.out.mono ?_
    rintro r v10 ⟨Af,cf,rfl,hof,hb_v10⟩
    have K_v10:Hid (Below wc.heap.size wc v10):=qa (K_v9.out.trans (hb_v10.mono K_v9.out.size))
    have HOF:=qa hof
    have sz_v9:=K_v9.out.size
    clear hof hb_v10 HCC
    refine hK.out _ _ K_v10.out (fun hHeld => ?_)
    clear hK K
    try simp only[jt,Act.put]
    refine tk 11 ?_ rfl hHeld ?_ ?_
    rotate_left
    focus (intro W hSw;obtain⟨q0,q1⟩:=HCH.out W hSw;go_simp;try with_reducible rfl)
    try simp only[jt,Act.put]
    refine tk 12 ?_ rfl hHeld ?_ ?_
    rotate_left
    focus (intro W hSw;obtain⟨q0,q1⟩:=HCH.out W hSw;go_simp;try with_reducible rfl)
    try simp only[jt,Act.put]
    refine wpAnyH_done (by kernel_rfl) ?_ _
    go_wp2_with fail
    go_ret2
    exact⟨_,_,rfl,j9 HOF.out (by omega),B1.out.trans ((K4.out.trans (K_v10.out.mono K4.out.size)).mono (by omega)),HRT.out⟩
   ·
    go_simp
    refine(HW.out _ _ _ Hh_v6.out).mono ?_
    rintro r v11 ⟨Ab,cb,rfl,hob,hb_v11⟩
    have s_v11:v6.heap.size≤v11.heap.size:=hb_v11.size
    have K_v11:Hid (Below wc.heap.size wc v11):=qa (K_v6.out.trans (hb_v11.mono K_v6.out.size))
    have Hh_v11:Hid (Rd v11 0 v11.heap.size Ah ch (lv TH)):=(Hh_v6.out.below hb_v11 (qc _)).wide (qc _) hb_v11.size
    have Hb_v11:Hid (Rd v11 0 v11.heap.size Ab cb (bv WB)):=(Rd.of_own hob).wide (qj _) (qc _)
    clear hb_v11
    clear hob
    refine hK.out _ _ K_v11.out (fun hHeld => ?_)
    clear hK K
    try simp only[jt,Act.put]
    refine wpAnyH_ready (rs:=[3]) (by kernel_rfl) (by simp) ?_
    refine qu (o:=_) rfl (fun K hK => ?_) q5
    go_simp
    obtain⟨v12,hw_v12⟩:∃q,v11.alloc (.cells #[.int .u8 j] 5)=q:=⟨_,rfl⟩
    rw[hw_v12]
    have hb_v12:Below v11.heap.size v11 v12:=by rw[←hw_v12];exact(Below.refl _ _).alloc (qc _) _
    have z_v12:v11.heap.size<v12.heap.size:=by rw[←hw_v12];simp
    have s_v12:v11.heap.size≤v12.heap.size:=hb_v12.size
    have K_v12:Hid (Below wc.heap.size wc v12):=qa (K_v11.out.trans (hb_v12.mono K_v11.out.size))
    have Hh_v12:Hid (Rd v12 0 v12.heap.size Ah ch (lv TH)):=(Hh_v11.out.below hb_v12 (qc _)).wide (qc _) hb_v12.size
    have Hb_v12:Hid (Rd v12 0 v12.heap.size Ab cb (bv WB)):=(Hb_v11.out.below hb_v12 (qc _)).wide (qc _) hb_v12.size
    have Hl_v12:Hid (v12.cell? ⟨v11.heap.size,0,none⟩=some (.int .u8 j)):=by rw[←hw_v12,zm _ _ _ _ rfl];rfl
    clear hb_v12
    clear hw_v12
    refine hK.out _ _ K_v12.out (fun hHeld => ?_)
    clear hK K
    try simp only[jt,Act.put]
    refine wpAnyH_ready (rs:=[9]) (by kernel_rfl) (by simp) ?_
    refine qu (o:=_) rfl (fun K hK => ?_) q5
    go_simp
    obtain⟨v13,hw_v13⟩:∃q,v12.alloc (.cells #[.slice (some ⟨v11.heap.size,0,none⟩) 1 1,.slice Ab WB.length cb,.slice Ap P.length cp] 36)=q:=⟨_,rfl⟩
    rw[hw_v13]
    have hb_v13:Below v12.heap.size v12 v13:=by rw[←hw_v13];exact(Below.refl _ _).alloc (qc _) _
    have K_v13:Hid (Below wc.heap.size wc v13):=qa (K_v12.out.trans (hb_v13.mono K_v12.out.size))
    have HCC:=qa (concat3 (hi:=0) Hl_v12.out (by have:=HKI.out;omega) Hb_v12.out ((HRP.out.below K_v12.out (qc _)).wide (qc _) K_v12.out.size) rfl rfl (by have:=HWL.out;omega) (by have:=HPL.out;omega) hw_v13 HCL.out)
    clear hw_v13
    refine hK.out _ _ K_v13.out (fun hHeld => ?_)
    clear hK K
    try simp only[jt,Act.put]
    refine wpAnyH_ready (rs:=[10]) (by kernel_rfl) (by simp) ?_
    refine qu (o:=_) rfl (fun K hK => ?_) q5
    go_simp
    refine HCC.out.mono ?_
    rintro r v14 ⟨Af,cf,rfl,hof,hb_v14⟩
    have K_v14:Hid (Below wc.heap.size wc v14):=qa (K_v13.out.trans (hb_v14.mono K_v13.out.size))
    have HOF:=qa hof
    have sz_v13:=K_v13.out.size
    clear hof hb_v14 HCC
    refine hK.out _ _ K_v14.out (fun hHeld => ?_)
    clear hK K
    try simp only[jt,Act.put]
    refine tk 11 ?_ rfl hHeld ?_ ?_
    rotate_left
    focus (intro W hSw;obtain⟨q0,q1⟩:=HCH.out W hSw;go_simp;try with_reducible rfl)
    try simp only[jt,Act.put]
    refine tk 12 ?_ rfl hHeld ?_ ?_
    rotate_left
    focus (intro W hSw;obtain⟨q0,q1⟩:=HCH.out W hSw;go_simp;try with_reducible rfl)
    try simp only[jt,Act.put]
    refine wpAnyH_done (by kernel_rfl) ?_ _
    go_wp2_with fail
    go_ret2
    exact⟨_,_,rfl,j9 HOF.out (by omega),B1.out.trans ((K4.out.trans (K_v14.out.mono K4.out.size)).mono (by omega)),HRT.out⟩
end
theorem qld{ns:List Nat}(hl:ns.length≤100)(h:∀x∈ns,x<16384):(jr (jf ns)).length≤3+2*ns.length:=by
 have hw:wide (jf ns)≤14:=wide_le (jf ns) 14 (by omega) fun z hz=>by
  obtain⟨n,hn,rfl⟩:=za.1 hz
  have:=h n hn
  show(n:Int)<2 ^ 14
  omega
 have h1:ns.length*wide (jf ns)≤ns.length*14:=qbl _ hw
 rw[jr,k8 (by rw[zq];omega),qd,qd,qbz,ux,zq]
 simp only[zx]
 omega
theorem qfk:∀L:List Vl,((qr L).map ByteArray.size).sum≤qel L
 | []=>qc _
 | v :: L=>by
  have ih:=qfk L
  unfold qr qel at *
  cases hn:v.null
  ·
   simp[List.filter_cons,hn] at ih ⊢
   exact ih
  ·
   simp[List.filter_cons,hn] at ih ⊢
   omega
theorem flat_texts(S:List ByteArray):(qt S).flatten.length=(S.map ByteArray.size).sum:=by
 induction S with
 | nil=>rfl
 | cons a S ih =>
  show(a.data.toList++(qt S).flatten).length=_
  rw[qd,ih,qg4]
  rfl
theorem flat_enc(T:List (List UInt8))(S:List ByteArray):((qt S).map (kx T)).flatten.length≤2*(S.map ByteArray.size).sum:=by
 induction S with
 | nil=>exact qc _
 | cons a S ih =>
  have h1:=qk4 T a.data.toList
  show(kx T a.data.toList++((qt S).map (kx T)).flatten).length≤2*(a.size+(S.map ByteArray.size).sum)
  rw[qd]
  rw[qg4] at h1
  omega
theorem sum_erase{x:List UInt8}:∀ {l:List (List UInt8)},x∈l→qg9 l=x.length+qg9 (l.erase x)
 | [],h=>by cases h
 | y :: l,h=>by
  by_cases e:y=x
  ·
   subst e
   rw[List.erase_cons_head]
   rfl
  ·
   have h2:x∈l:=by
    rcases zv.1 h with h | h
    ·
     exact absurd h.symm e
    ·
     exact h
   have ih:=sum_erase h2
   rw[List.erase_cons_tail (by simpa using e)]
   show y.length+qg9 l=x.length+(y.length+qg9 (l.erase x))
   omega
theorem sum_sub:∀ {D l:List (List UInt8)},D.Nodup→(∀x∈D,x∈l)→qg9 D≤qg9 l
 | [],l,_,_=>qj _
 | x :: D,l,hn,hs=>by
  obtain⟨h1,h2⟩:=List.nodup_cons.1 hn
  have h3:=sum_erase (hs x zr)
  have h4:=sum_sub (D:=D) (l:=l.erase x) h2 fun y hy=>(List.mem_erase_of_ne (fun e:y=x=>h1 (by rw[←e];exact hy))).2 (hs y (jb _ hy))
  show x.length+qg9 D≤_
  omega
theorem sumL_texts(S:List ByteArray):qg9 (qt S)=(S.map ByteArray.size).sum:=by
 induction S with
 | nil=>rfl
 | cons a S ih =>
  show a.data.toList.length+qg9 (qt S)=_
  rw[ih,qg4]
  rfl
section
variable {L:List Vl}{o:Co}
theorem few_mem(hf:uj L):∀x∈qt (qr L),x.length≤4096:=fun x hx=>by
 obtain⟨s,hs,rfl⟩:=za.1 hx
 obtain⟨v,hv,rfl⟩:=qfs hs
 rw[qg4]
 exact(hf.2 v hv).1
theorem pay_one(hf:uj L)(hl:L.length≤100):(yu (qr L) o 1).length≤qel L+2*L.length+3:=by
 have h1:=qfl L
 have h2:=qfk L
 have h3:=qld (ns:=(qt (qr L)).map List.length) (by rw[qz,zb];omega) fun x hx=>by
  obtain⟨y,hy,rfl⟩:=za.1 hx
  have:=few_mem hf y hy
  omega
 rw[qz,zb] at h3
 rw[yu,if_neg (by decide),if_neg (by decide),ku,qd,flat_texts]
 omega
theorem putT_most{t:List (List UInt8)}(h:jz t=true):(qeq t).length≤2296:=by
 obtain⟨h1,h2, -⟩:=vu.1 h
 have h3:∀ {u:List (List UInt8)},(∀s∈u,qgo s=true)→(qhx u).length≤9*u.length:=by
  intro u
  induction u with
  | nil=>intro _;simp[qhx]
  | cons a u ih =>
   intro hu
   have h4:=ih fun s hs=>hu s (jb _ hs)
   have h5:=(qeb.1 (hu a zr)).2
   rw[qfn,qo,qd,qo]
   omega
 have h4:=h3 h2
 rw[qfq,qo]
 omega
theorem pay_two(hf:uj L)(hl:L.length≤100)(ht:jz (ki (qr L) o)=true):(yu (qr L) o 2).length≤2*qel L+2*L.length+2299:=by
 have h1:=qfl L
 have h2:=qfk L
 have h3:=qld (ns:=((qt (qr L)).map (kx (ki (qr L) o))).map List.length) (by rw[qz,qz,zb];omega) fun x hx=>by
  obtain⟨y,hy,rfl⟩:=za.1 hx
  obtain⟨z,hz,rfl⟩:=za.1 hy
  have h4:=few_mem hf z hz
  have h5:=qk4 (ki (qr L) o) z
  omega
 rw[qz,qz,zb] at h3
 have h6:=flat_enc (ki (qr L) o) (qr L)
 have h7:=putT_most ht
 rw[yu,if_pos rfl,qd,ku,qd]
 omega
theorem pay_three(hf:uj L)(hl:L.length≤100)(hK:o.block.toNat≤64):(yu (qr L) o 3).length≤qel L+12*L.length+13:=by
 have h1:=qfl L
 have h2:=qfk L
 have hd:=dic_of (qt (qr L))
 have h4:=hd.len
 rw[zb] at h4
 have hdic:=hd.dic (by rw[zb];omega) (few_mem hf)
 have h5:=qlx hK hdic
 have h6:=sum_sub (qib hd.1) (fun x hx=>(hd.2 x).1 hx)
 rw[sumL_texts] at h6
 have h3:=qld (ns:=qc4 (qhk (qt (qr L))) (qt (qr L))) (by rw[qc4,qz,zb];omega) fun x hx=>by
  obtain⟨y,hy,rfl⟩:=za.1 hx
  have:=qbv ((hd.2 y).2 hy)
  omega
 rw[qc4,qz,zb] at h3
 rw[yu,if_neg (by decide),if_pos rfl,qd,qc4]
 omega
theorem qk5(hf:uj L)(hc:qbs o)(ht:y9 (qr L) o=2→jz (ki (qr L) o)=true)(hl:L.length≤100)(hs:qel L≤5000):(qf6 L o).length≤1000000:=by
 have h1:=bitB_len (xi L) (by rw[uq];omega)
 have h0:(xz (xi L)).length≤500000:=by
  have:=qeu (xi L) (by rw[uq];omega)
  rw[uq] at this
  omega
 have hk:=qf4 (qr L) hc
 obtain⟨_,_,hb1,hb2,_⟩:=hc
 rw[qf6,qo,qd]
 rcases hk with hk | hk | hk
 ·
  rw[hk]
  have:=pay_one (o:=o) hf hl
  omega
 ·
  have:=pay_two (o:=o) hf hl (ht hk)
  rw[hk]
  omega
 ·
  rw[hk]
  have:=pay_three (o:=o) hf hl (by omega)
  omega
end
end Go.Proofs.YtjfecojdagmacaaGreat
