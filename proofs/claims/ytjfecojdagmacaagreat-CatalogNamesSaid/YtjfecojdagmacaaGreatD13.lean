/-
  Lemmas.
-/
import Derived.Test.YtjfecojdagmacaaGreatD12
namespace Go.Proofs.YtjfecojdagmacaaGreat
open Go.RowKit
set_option maxRecDepth 20000
set_option maxHeartbeats 16000000
set_option linter.unusedSimpArgs false
set_option linter.unusedVariables false
theorem bread_few{bs:List UInt8}{k k2:Nat}{e z:Int}{l:List Bool}(h:qcj bs k e 4096=(l,k2,z)):l.length≤4096:=by
 unfold qcj qd3 at h
 split at h
 ·
  simp only[Prod.mk.injEq] at h
  rw[←h.1];simp
 ·
  split at h
  ·
   rename_i h1 h2
   simp only[Prod.mk.injEq] at h
   rw[←h.1,qc7]
   have h3:(jw bs k e 4096).2.2=0:=by
    rcases Classical.em ((jw bs k e 4096).2.2=0) with h4 | h4
    ·
     exact h4
    ·
     exact absurd (by rw[qhs _ _ _ h4];exact h4) h1
   unfold jw uz at h3 ⊢
   simp only at h3 ⊢
   split
   ·
    simp
   ·
    rename_i he
    rw[if_neg he] at h3
    split
    ·
     simp
    ·
     rename_i h5
     have h6:qf3 bs k 4096=0:=Classical.not_not.1 h5
     unfold qf3 at h6
     split at h6
     ·
      rename_i h7
      exact absurd h6 h7
     ·
      split at h6
      ·
       omega
      ·
       omega
  ·
   simp only[Prod.mk.injEq] at h
   rw[←h.1];simp
theorem gb_out{a w w':World}{g G:Nat}(h:a.grownBy w (some g))(ho:Out w w' (fun i=>i=g∨i=G))(hG:a.heap.size≤G):a.grownBy w' (some g) :=
 ⟨ho.os.trans h.os,ho.tape.trans h.tape,ho.output.trans h.output,zb h.size ho.size,fun i hi hne=>(ho.block i (zn hi h.size) (by
  rintro(e | e)
  ·
   exact hne (by rw[e])
  ·
   omega)).trans (h.block i hi hne)⟩
theorem qnm(W:World):(Instr.build 184 #[]).run Tryz.prog W= .ok (.agg #[.int .i64 0,.slice none 0 0,.slice none 0 0,.slice none 0 0,.pointer none,.slice none 0 0]) W:=run_build W _ _ _ (by kernel_rfl)
theorem chk_none{lo:Nat}(w:World)(h:lo≤w.heap.size):qcv (w.alloc (.cells #[.int .i64 0,.slice none 0 0,.slice none 0 0,.slice none 0 0,.pointer none,.slice none 0 0] 184)) lo w.heap.size Chk.none :=
 ⟨none,0,none,0,0,none,0,0,none,none,0,0,yy.new w _ _,h,Rd.nil _ _ _,fun h=>absurd h (show ¬((0:Nat)=1∨(0:Nat)=2) by decide),fun h=>absurd h (show ¬(0:Nat)=2 by decide),fun h=>absurd h (show ¬(0:Nat)=3 by decide)⟩
theorem take_any17{w:World}{lo g G k c0 B:Nat}{bs:List UInt8}{e:Int}(kd:Nat)(there:List Bool){A0:Option Addr}(h:vx w lo g bs k e)(hb:bs.length≤1000000000)(hgB:g<B)(hBG:B≤G)
  (hG:yy w G 184 #[.int .i64 (kd:Int),.slice A0 there.length c0,.slice none 0 0,.slice none 0 0,.pointer none,.slice none 0 0]) (ht:Rd w (G+1) w.heap.size A0 c0 (lv there)) (ht4:there.length≤4096) (hok:¬(1≤kd∧kd≤3)→e≠0) :
  Calls Tryz.prog 129 #[.pointer (some ⟨G,0,none⟩),cp g] w fun r w'=>r= .returned (.tuple #[])∧vx w' lo g bs (qah bs k e kd there).2.1 (qah bs k e kd there).2.2∧Out w w' (fun i=>i=g∨i=G)∧
   ((qah bs k e kd there).2.2=0→qcv w' B G (qah bs k e kd there).1):=by
 by_cases h1:kd=1
 ·
  subst h1;exact take_one there h hb hgB hBG hG ht ht4
 ·
  by_cases h2:kd=2
  ·
   subst h2;exact take_two there h hb hgB hBG hG ht ht4
  ·
   by_cases h3:kd=3
   ·
    subst h3;exact take_three there h hb hgB hBG hG ht ht4
   ·
    refine(take_other kd h1 h2 h3 there h hb hgB hBG hG ht ht4).mono ?_
    rintro r w' ⟨rfl,hc,ho⟩
    refine⟨rfl,hc,ho,fun hz => ?_⟩
    have e1:qah bs k e kd there=(⟨kd,there,[],[],[],[]⟩,k,e):=by rw[qah,if_neg h1,if_neg h2,if_neg h3]
    rw[e1] at hz
    exact absurd hz (hok (by omega))
def TakeK(kd lo g B:Nat)(bs:List UInt8):Prop:=∀ {w:World} {G k c0:Nat} {e:Int} (there:List Bool) {A0:Option Addr},vx w lo g bs k e→bs.length≤1000000000→g<B→B≤G→
  yy w G 184 #[.int .i64 (kd:Int),.slice A0 there.length c0,.slice none 0 0,.slice none 0 0,.pointer none,.slice none 0 0]→Rd w (G+1) w.heap.size A0 c0 (lv there)→there.length≤4096→(¬(1≤kd∧kd≤3)→e≠0)→
  Calls Tryz.prog 129 #[.pointer (some ⟨G,0,none⟩),cp g] w fun r w'=>r= .returned (.tuple #[])∧vx w' lo g bs (qah bs k e kd there).2.1 (qah bs k e kd there).2.2∧Out w w' (fun i=>i=g∨i=G)∧
   ((qah bs k e kd there).2.2=0→qcv w' B G (qah bs k e kd there).1)
theorem open_vW{w:World}{lo g k:Nat}{bs:List UInt8}{e:Int}(h:vx w lo g bs k e)(hb:bs.length≤1000000000)(hta:∀kd,((jo bs k e 0 1).1.headD 0).toNat=kd→TakeK kd lo g w.heap.size bs) :
  Calls Tryz.prog 87 #[cp g] w fun r w'=>∃G,r= .returned (.pointer (some ⟨G,0,none⟩))∧w.heap.size≤G∧qcv w' w.heap.size G (qby bs k e).1∧vx w' lo g bs (qby bs k e).2.1 (qby bs k e).2.2∧w.grownBy w' (some g):=by
 have hgl:=h.lt
 have HBY:=qa (qoc h)
 obtain⟨C,hC⟩:∃C,qby bs k e=C:=⟨_,rfl⟩
 rw[hC]
 unfold qby qmm at hC
 obtain⟨⟨xb,k1,e1⟩,hT⟩:∃T,jo bs k e 0 1=T:=⟨_,rfl⟩
 rw[hT] at HBY hC
 simp only at HBY hC
 obtain⟨kd,hkd⟩:∃kd,(xb.headD 0).toNat=kd:=⟨_,rfl⟩
 have hkd5:kd≤255:=by have:=jj (xb.headD 0);omega
 have HTA:Hid (TakeK kd lo g w.heap.size bs):=hta kd (by rw[hT];exact hkd)
 clear hta
 rw[hkd] at HBY hC
 obtain⟨e2,he2⟩:∃e2,qkd kd e1=e2:=⟨_,rfl⟩
 rw[he2] at hC
 have HE2:=qa he2
 obtain⟨⟨th,k3,e3⟩,hR⟩:∃R,qcj bs k1 e2 4096=R:=⟨_,rfl⟩
 rw[hR] at hC
 simp only at hC
 have HR:=qa hR
 obtain⟨⟨cc,k4,e4⟩,hK⟩:∃K,qah bs k3 e3 kd th=K:=⟨_,rfl⟩
 rw[hK] at hC
 simp only at hC
 have HK:=qa hK
 have HC:=qa hC
 have hbad:Hid (¬(1≤kd∧kd≤3)→e3≠0):=fun hn=>by
  have h2:e2≠0:=by rw[←he2,qkd,if_neg hn];exact xw _
  rw[qjn bs k1 4096 h2] at hR
  simp only[Prod.mk.injEq] at hR
  rw[←hR.2.2];exact h2
 have HTL:Hid (th.length≤4096):=bread_few hR
 clear h hC hT hkd he2 hR hK
 unfold cp at *
 go_enter Tryz.func87,Tryz.ntmps87
 go_wp2_with fail
 refine HBY.out.mono ?_
 rintro r w1 ⟨rfl,hc1,hg1⟩
 have hs1:=hg1.size
 have hgl1:=hc1.lt
 obtain⟨w2,hw2⟩:∃w2,w1.alloc (.cells #[.int .i64 (kd:Int),.slice none 0 0,.slice none 0 0,.slice none 0 0,.pointer none,.slice none 0 0] 184)=w2:=⟨_,rfl⟩
 have hx:yy w2 w1.heap.size 184 #[.int .i64 (kd:Int),.slice none 0 0,.slice none 0 0,.slice none 0 0,.pointer none,.slice none 0 0]:=by rw[←hw2];exact yy.new w1 _ _
 have HX:=qa hx
 have HC2:Hid (vx w2 lo g bs k1 e1):=by unfold Hid;rw[←hw2];exact hc1.grown (row:=none) (by exact ku (vg _ _) _) (by simp)
 have HG2:Hid (w.grownBy w2 (some g)):=by unfold Hid;rw[←hw2];exact ku hg1 _
 have hs2:w1.heap.size<w2.heap.size:=by rw[←hw2];simp
 have x0:=hx.cell 0
 simp only[jg,zq,zv] at x0
 clear hc1 hg1 HBY
 by_cases hk:1≤kd∧kd≤3
 ·
  obtain⟨q1,q2⟩:=hk
  have i1:¬(kd:Int)<1:=by omega
  have i2:¬(3:Int)<(kd:Int):=by omega
  have HC3:Hid (vx w2 lo g bs k1 e2):=by unfold Hid;rw[←HE2.out,qkd,if_pos ⟨q1,q2⟩];exact HC2.out
  have HX3:=qa HX.out
  have HG3:=qa HG2.out
  clear HC2 HX HG2 hx
  have HRD:=qa (qmb 4096 (by omega) HC3.out (by omega))
  rw[HR.out] at HRD
  simp only at HRD
  unfold cp at HRD
  go_wp2_with fail
  refine HRD.out.mono ?_
  rintro r w4 ⟨A4,c4,rfl,ho4,hc4,hg4⟩
  have hs4:=hg4.size
  have hx4:=HX3.out.grown hg4 (by intro e;injection e with e;omega)
  have x1:=hx4.cell 1
  have f1:=hx4.frozen 1
  simp only[jg,zq,zv] at x1
  obtain⟨w5,hw5⟩:∃w5,w4.setCell ⟨w1.heap.size,1,none⟩ (.slice A4 th.length c4)=w5:=⟨_,rfl⟩
  have hx5:yy w5 w1.heap.size 184 #[.int .i64 (kd:Int),.slice A4 th.length c4,.slice none 0 0,.slice none 0 0,.pointer none,.slice none 0 0]:=by rw[←hw5];simpa using hx4.put 1 (.slice A4 th.length c4)
  have hs5:w5.heap.size=w4.heap.size:=by rw[←hw5];simp[World.setCell]
  have hC5:vx w5 lo g bs k3 e3:=by rw[←hw5];exact qir hc4 (by omega)
  have hT5:Rd w5 (w1.heap.size+1) w5.heap.size A4 c4 (lv th):=by rw[hs5,←hw5];exact(qga (Rd.of_own ho4) (.inl (by omega))).wide (by omega) (qc _)
  have HG5:Hid (w.grownBy w5 (some g)):=by unfold Hid;rw[←hw5];exact xy (HG3.out.trans hg4) (.inr (by show w.heap.size≤w1.heap.size;omega)) _
  have HTK:=qa (HTA.out th hC5 hb hgl hs1 hx5 hT5 HTL.out hbad.out)
  rw[HK.out] at HTK
  simp only at HTK
  unfold cp at HTK
  have hs5':w1.heap.size<w5.heap.size:=by omega
  clear hx4 hx5 hC5 hT5 ho4 hc4 hg4 HRD HX3 HC3 HG3 hs5
  go_wp2_with fail
  refine HTK.out.mono ?_
  rintro r w6 ⟨rfl,hc6,ho6,hm6⟩
  have HC6:=qa hc6
  have HM6:=qa hm6
  have HG6:=qa (gb_out HG5.out ho6 hs1)
  have hs6:=ho6.size
  have HGD:=qa (xx hc6)
  unfold cp at HGD
  have hc:=HC.out
  clear hc6 hm6 ho6 HTK hw5 x1 f1 HC
  by_cases h0:e4=0
  ·
   subst h0
   rw[if_pos rfl] at hc
   subst hc
   have bb:((0:Int)==0)=true:=rfl
   rw[bb] at HGD
   go_wp2_with fail
   refine HGD.out.mono ?_
   rintro r w' ⟨rfl,rfl⟩
   go_wp2_with fail
   go_ret
   exact⟨_,rfl,hs1,(by first | exact HM6.out rfl | exact HM6.out trivial | exact HM6.out),HC6.out,HG6.out⟩
  ·
   rw[if_neg h0] at hc
   subst hc
   have bb:(e4==0)=false:=by rw[q9];exact h0
   rw[bb] at HGD
   have hbz:=qnm
   go_wp2_with fail
   refine HGD.out.mono ?_
   rintro r w' ⟨rfl,rfl⟩
   go_wp2_with fail
   go_ret
   refine⟨_,rfl,by omega,chk_none w6 (by omega),?_,ku HG6.out _⟩
   exact HC6.out.grown (row:=none) (by exact ku (vg _ _) _) (by simp)
 ·
  have HE3:Hid ((if e1=0 then (3:Int) else e1)=e2):=by unfold Hid;rw[←HE2.out,qkd,if_neg hk];rfl
  have HF:=qa (ua 3 HC2.out)
  rw[HE3.out] at HF
  unfold cp at HF
  by_cases q1:kd<1
  ·
   have i1:(kd:Int)<1:=by omega
   go_wp2_with fail
   refine HF.out.mono ?_
   rintro r w3 ⟨rfl,hc3,hg3⟩
   have HC3:=qa hc3
   have HX3:=qa (HX.out.grown hg3 (by intro e;injection e with e;omega))
   have HG3:=qa (HG2.out.trans hg3)
   have hs3:=hg3.size
   clear hc3 hg3 HC2 HX HG2 hx x0 HF
   have HRD:=qa (qmb 4096 (by omega) HC3.out (by omega))
   rw[HR.out] at HRD
   simp only at HRD
   unfold cp at HRD
   go_wp2_with fail
   refine HRD.out.mono ?_
   rintro r w4 ⟨A4,c4,rfl,ho4,hc4,hg4⟩
   have hs4:=hg4.size
   have hx4:=HX3.out.grown hg4 (by intro e;injection e with e;omega)
   have x1:=hx4.cell 1
   have f1:=hx4.frozen 1
   simp only[jg,zq,zv] at x1
   obtain⟨w5,hw5⟩:∃w5,w4.setCell ⟨w1.heap.size,1,none⟩ (.slice A4 th.length c4)=w5:=⟨_,rfl⟩
   have hx5:yy w5 w1.heap.size 184 #[.int .i64 (kd:Int),.slice A4 th.length c4,.slice none 0 0,.slice none 0 0,.pointer none,.slice none 0 0]:=by rw[←hw5];simpa using hx4.put 1 (.slice A4 th.length c4)
   have hs5:w5.heap.size=w4.heap.size:=by rw[←hw5];simp[World.setCell]
   have hC5:vx w5 lo g bs k3 e3:=by rw[←hw5];exact qir hc4 (by omega)
   have hT5:Rd w5 (w1.heap.size+1) w5.heap.size A4 c4 (lv th):=by rw[hs5,←hw5];exact(qga (Rd.of_own ho4) (.inl (by omega))).wide (by omega) (qc _)
   have HG5:Hid (w.grownBy w5 (some g)):=by unfold Hid;rw[←hw5];exact xy (HG3.out.trans hg4) (.inr (by show w.heap.size≤w1.heap.size;omega)) _
   have HTK:=qa (HTA.out th hC5 hb hgl hs1 hx5 hT5 HTL.out hbad.out)
   rw[HK.out] at HTK
   simp only at HTK
   unfold cp at HTK
   have hs5':w1.heap.size<w5.heap.size:=by omega
   clear hx4 hx5 hC5 hT5 ho4 hc4 hg4 HRD HX3 HC3 HG3 hs5
   go_wp2_with fail
   refine HTK.out.mono ?_
   rintro r w6 ⟨rfl,hc6,ho6,hm6⟩
   have HC6:=qa hc6
   have HM6:=qa hm6
   have HG6:=qa (gb_out HG5.out ho6 hs1)
   have hs6:=ho6.size
   have HGD:=qa (xx hc6)
   unfold cp at HGD
   have hc:=HC.out
   clear hc6 hm6 ho6 HTK hw5 x1 f1 HC
   by_cases h0:e4=0
   ·
    subst h0
    rw[if_pos rfl] at hc
    subst hc
    have bb:((0:Int)==0)=true:=rfl
    rw[bb] at HGD
    go_wp2_with fail
    refine HGD.out.mono ?_
    rintro r w' ⟨rfl,rfl⟩
    go_wp2_with fail
    go_ret
    exact⟨_,rfl,hs1,(by first | exact HM6.out rfl | exact HM6.out trivial | exact HM6.out),HC6.out,HG6.out⟩
   ·
    rw[if_neg h0] at hc
    subst hc
    have bb:(e4==0)=false:=by rw[q9];exact h0
    rw[bb] at HGD
    have hbz:=qnm
    go_wp2_with fail
    refine HGD.out.mono ?_
    rintro r w' ⟨rfl,rfl⟩
    go_wp2_with fail
    go_ret
    refine⟨_,rfl,by omega,chk_none w6 (by omega),?_,ku HG6.out _⟩
    exact HC6.out.grown (row:=none) (by exact ku (vg _ _) _) (by simp)
  ·
   have i1:¬(kd:Int)<1:=by omega
   have i2:(3:Int)<(kd:Int):=by omega
   go_wp2_with fail
   refine HF.out.mono ?_
   rintro r w3 ⟨rfl,hc3,hg3⟩
   have HC3:=qa hc3
   have HX3:=qa (HX.out.grown hg3 (by intro e;injection e with e;omega))
   have HG3:=qa (HG2.out.trans hg3)
   have hs3:=hg3.size
   clear hc3 hg3 HC2 HX HG2 hx x0 HF
   have HRD:=qa (qmb 4096 (by omega) HC3.out (by omega))
   rw[HR.out] at HRD
   simp only at HRD
   unfold cp at HRD
   go_wp2_with fail
   refine HRD.out.mono ?_
   rintro r w4 ⟨A4,c4,rfl,ho4,hc4,hg4⟩
   have hs4:=hg4.size
   have hx4:=HX3.out.grown hg4 (by intro e;injection e with e;omega)
   have x1:=hx4.cell 1
   have f1:=hx4.frozen 1
   simp only[jg,zq,zv] at x1
   obtain⟨w5,hw5⟩:∃w5,w4.setCell ⟨w1.heap.size,1,none⟩ (.slice A4 th.length c4)=w5:=⟨_,rfl⟩
   have hx5:yy w5 w1.heap.size 184 #[.int .i64 (kd:Int),.slice A4 th.length c4,.slice none 0 0,.slice none 0 0,.pointer none,.slice none 0 0]:=by rw[←hw5];simpa using hx4.put 1 (.slice A4 th.length c4)
   have hs5:w5.heap.size=w4.heap.size:=by rw[←hw5];simp[World.setCell]
   have hC5:vx w5 lo g bs k3 e3:=by rw[←hw5];exact qir hc4 (by omega)
   have hT5:Rd w5 (w1.heap.size+1) w5.heap.size A4 c4 (lv th):=by rw[hs5,←hw5];exact(qga (Rd.of_own ho4) (.inl (by omega))).wide (by omega) (qc _)
   have HG5:Hid (w.grownBy w5 (some g)):=by unfold Hid;rw[←hw5];exact xy (HG3.out.trans hg4) (.inr (by show w.heap.size≤w1.heap.size;omega)) _
   have HTK:=qa (HTA.out th hC5 hb hgl hs1 hx5 hT5 HTL.out hbad.out)
   rw[HK.out] at HTK
   simp only at HTK
   unfold cp at HTK
   have hs5':w1.heap.size<w5.heap.size:=by omega
   clear hx4 hx5 hC5 hT5 ho4 hc4 hg4 HRD HX3 HC3 HG3 hs5
   go_wp2_with fail
   refine HTK.out.mono ?_
   rintro r w6 ⟨rfl,hc6,ho6,hm6⟩
   have HC6:=qa hc6
   have HM6:=qa hm6
   have HG6:=qa (gb_out HG5.out ho6 hs1)
   have hs6:=ho6.size
   have HGD:=qa (xx hc6)
   unfold cp at HGD
   have hc:=HC.out
   clear hc6 hm6 ho6 HTK hw5 x1 f1 HC
   by_cases h0:e4=0
   ·
    subst h0
    rw[if_pos rfl] at hc
    subst hc
    have bb:((0:Int)==0)=true:=rfl
    rw[bb] at HGD
    go_wp2_with fail
    refine HGD.out.mono ?_
    rintro r w' ⟨rfl,rfl⟩
    go_wp2_with fail
    go_ret
    exact⟨_,rfl,hs1,(by first | exact HM6.out rfl | exact HM6.out trivial | exact HM6.out),HC6.out,HG6.out⟩
   ·
    rw[if_neg h0] at hc
    subst hc
    have bb:(e4==0)=false:=by rw[q9];exact h0
    rw[bb] at HGD
    have hbz:=qnm
    go_wp2_with fail
    refine HGD.out.mono ?_
    rintro r w' ⟨rfl,rfl⟩
    go_wp2_with fail
    go_ret
    refine⟨_,rfl,by omega,chk_none w6 (by omega),?_,ku HG6.out _⟩
    exact HC6.out.grown (row:=none) (by exact ku (vg _ _) _) (by simp)
theorem open_v{w:World}{lo g k:Nat}{bs:List UInt8}{e:Int}(h:vx w lo g bs k e)(hb:bs.length≤1000000000) :
  Calls Tryz.prog 87 #[cp g] w fun r w'=>∃G,r= .returned (.pointer (some ⟨G,0,none⟩))∧w.heap.size≤G∧qcv w' w.heap.size G (qby bs k e).1∧vx w' lo g bs (qby bs k e).2.1 (qby bs k e).2.2∧w.grownBy w' (some g) :=
 open_vW h hb fun kd _=>fun {w G k c0 e} there {A0} h1 h2 h3 h4 h5 h6 h7 h8=>take_any17 kd there h1 h2 h3 h4 h5 h6 h7 h8
def qf7(c:Chk):List ByteArray :=
 if c.kind=2 then c.raws.map fun b=>⟨(qey c.tab 4096 b [] 0).1.toArray⟩
 else if c.kind=3 then c.codes.map fun n=>(yj c.dic).getD n ⟨#[]⟩
 else yj c.raws
def qbw(c:Chk):List Vl:=xz c.there ((qf7 c).map (Vl.mk false)) ⟨true,⟨#[]⟩⟩
theorem qe3(c:Chk):(qbw c).length=c.there.length:=qb6 _ _ _
theorem qkp{c:Chk}(h:ChkOk c):(qf7 c).length=cnt c.there:=by
 rcases h.kinds with ⟨h1,h2,_⟩ | ⟨h1,h2,_⟩ | ⟨h1,_,_,_,h2,_⟩
 ·
  rw[qf7,if_neg (by omega),if_neg (by omega),yv,h2]
 ·
  rw[qf7,if_pos h1,q8,h2]
 ·
  rw[qf7,if_neg (by omega),if_pos h1,q8,h2]
theorem qlr{c:Chk}(h:ChkOk c):∀s∈qf7 c,s.size≤4096:=by
 intro s hs
 rcases h.kinds with ⟨h1,_,h2,_⟩ | ⟨h1,_,_,h2,_⟩ | ⟨h1,_,_,h2,_,h3⟩
 ·
  rw[qf7,if_neg (by omega),if_neg (by omega)] at hs
  obtain⟨x,hx,rfl⟩:=zl.1 hs
  have:=h2 x hx
  show x.toArray.size≤4096
  simpa using this
 ·
  rw[qf7,if_pos h1] at hs
  obtain⟨x,hx,rfl⟩:=zl.1 hs
  have:=dec_le (T:=c.tab) (most:=4096) (by omega) x.length x [] 0 (qc _) (by simp)
  show(qey c.tab 4096 x [] 0).1.toArray.size≤4096
  rw[qel]
  omega
 ·
  rw[qf7,if_neg (by omega),if_pos h1] at hs
  obtain⟨n,hn,rfl⟩:=zl.1 hs
  have hl:=h3 n hn
  rw[yb,qe (by rw[yv];exact hl)]
  have:=(qdl.1 h2).2.1 c.dic[n] (ql hl)
  have e:(yj c.dic)[n]'(by rw[yv];exact hl)=⟨c.dic[n].toArray⟩:=by simp[yj]
  show((yj c.dic)[n]'(by rw[yv];exact hl)).size≤4096
  rw[e]
  show c.dic[n].toArray.size≤4096
  simpa using this
theorem vals_at{c:Chk}(h:ChkOk c){k:Nat}(hk:c.there[k]? = some true):∃j,∃hj:j<(qf7 c).length,cnt (c.there.take k)=j∧(qbw c)[k]? = some ⟨false,(qf7 c)[j]⟩:=by
 obtain⟨j,h1,h2,h3⟩:=qhv c.there ((qf7 c).map (Vl.mk false)) ⟨true,⟨#[]⟩⟩ hk (by rw[q8,qkp h];exact qc _)
 rw[q8] at h2
 refine⟨j,h2,h1,?_⟩
 rw[qbw,h3,qae,qe h2]
 rfl
theorem vals_not{c:Chk}{k:Nat}(hk:c.there[k]? = some false):(qbw c)[k]? = some ⟨true,⟨#[]⟩⟩:=qgq _ _ _ hk
theorem vals_size{c:Chk}(h:ChkOk c):∀v∈qbw c,v.s.size≤4096:=by
 intro v hv
 obtain⟨k,hk,rfl⟩:=zc hv
 have hkt:k<c.there.length:=by rw[←qe3 c];exact hk
 have hg:(qbw c)[k]? = some (qbw c)[k]:=qe hk
 have ht:c.there[k]? = some c.there[k]:=qe hkt
 cases hb:c.there[k] with
 | true =>
  obtain⟨j,hj,_,h2⟩:=vals_at h (by rw[ht,hb])
  rw[hg] at h2
  rw[zr h2]
  exact qlr h _ (ql hj)
 | false =>
  have h2:=vals_not (c:=c) (by rw[ht,hb])
  rw[hg] at h2
  rw[zr h2]
  exact qi _
section
variable {w:World}{lo G:Nat}{c:Chk}
theorem qcv.lt(h:qcv w lo G c):G<w.heap.size:=by
 obtain⟨A0,c0,A2,n2,c2,A3,n3,c3,d,A5,n5,c5,h1, -⟩:=h
 exact h1.lt
theorem qcv.few(h:qcv w lo G c):c.there.length≤9223372036854775807:=by
 obtain⟨A0,c0,A2,n2,c2,A3,n3,c3,d,A5,n5,c5, -, -,h3, -⟩:=h
 have h1:=h3.len
 have h2:=h3.cap
 rw[qau] at h1
 unfold maxLen at h2
 omega
theorem len_v(h:qcv w lo G c) :
  Calls Tryz.prog 88 #[.pointer (some ⟨G,0,none⟩)] w fun r w'=>r= .returned (.int .i64 (c.there.length:Int))∧w=w':=by
 obtain⟨A0,c0,A2,n2,c2,A3,n3,c3,d,A5,n5,c5,h1, -⟩:=h
 have x1:=h1.cell 1
 simp only[jg,zq,zv] at x1
 clear h1
 go_enter Tryz.func88,Tryz.ntmps88
 go_wp2_with fail
 go_ret
 exact⟨rfl,rfl⟩
theorem has_out(h:qcv w lo G c)(z:Int)(hz:z<0∨(c.there.length:Int)≤z) :
  Calls Tryz.prog 134 #[.pointer (some ⟨G,0,none⟩),.int .i64 z] w fun r w'=>r= .returned (.bool false)∧w=w':=by
 have HL:=qa (len_v h)
 clear h
 go_enter Tryz.func134,Tryz.ntmps134
 by_cases h0:0≤z
 ·
  have h1:¬z<(c.there.length:Int):=by omega
  go_wp2_with fail
  refine HL.out.mono ?_
  rintro r w' ⟨rfl,rfl⟩
  go_wp2_with fail
  go_ret
  exact⟨rfl,rfl⟩
 ·
  go_wp2_with fail
  go_ret
  exact⟨rfl,rfl⟩
theorem has_in(h:qcv w lo G c){k:Nat}{b:Bool}(hk:c.there[k]? = some b) :
  Calls Tryz.prog 134 #[.pointer (some ⟨G,0,none⟩),.int .i64 (k:Int)] w fun r w'=>r= .returned (.bool b)∧w=w':=by
 have HL:=qa (len_v h)
 have hlt:k<c.there.length:=(zw.1 hk).1
 have hke:c.there[k]=b:=(zw.1 hk).2
 have ik:(k:Int)<(c.there.length:Int):=by omega
 have i0:(0:Int)≤(k:Int):=by omega
 have hfew:=h.few
 obtain⟨A0,c0,A2,n2,c2,A3,n3,c3,d,A5,n5,c5,h1,h2,h3, -⟩:=h
 obtain⟨b0,off,rfl,_,_,hcell⟩:=h3.row hlt
 rw[hke] at hcell
 have x1:=h1.cell 1
 simp only[jg,zq,zv] at x1
 clear h1 h3 hk hke
 generalize c.there.length=n at *
 go_enter Tryz.func134,Tryz.ntmps134
 go_wp2_with fail
 refine HL.out.mono ?_
 rintro r w' ⟨rfl,rfl⟩
 go_wp2_with fail
 go_ret
 exact⟨rfl,rfl⟩
end
theorem qjx:∀(t:List Bool) (l:List ByteArray),l.length=cnt t→xk (xz t (l.map (Vl.mk false)) ⟨true,⟨#[]⟩⟩)=t∧qu (xz t (l.map (Vl.mk false)) ⟨true,⟨#[]⟩⟩)=l
 | [],l,h=>by
  obtain rfl:l=[]:=zh (by simpa[cnt] using h)
  exact⟨rfl,rfl⟩
 | true :: t,[],h=>by simp[cnt] at h
 | true :: t,a :: l,h=>by
  obtain⟨h1,h2⟩:=qjx t l (by simpa[cnt] using h)
  rw[yc,xz]
  exact⟨by simp[xk] at h1 ⊢;exact h1,by simp[qu] at h2 ⊢;exact h2⟩
 | false :: t,l,h=>by
  obtain⟨h1,h2⟩:=qjx t l (by simpa[cnt] using h)
  have e:xz (false :: t) (l.map (Vl.mk false)) ⟨true,⟨#[]⟩⟩=⟨true,⟨#[]⟩⟩ :: xz t (l.map (Vl.mk false)) ⟨true,⟨#[]⟩⟩:=by cases l <;> rfl
  rw[e]
  exact⟨by simp[xk] at h1 ⊢;exact h1,by simp[qu] at h2 ⊢;exact h2⟩
theorem vals_texts{c:Chk}(h:ChkOk c):qu (qbw c)=qf7 c:=(qjx _ _ (qkp h)).2
def cdiv:BitVec 32:=3988292384#32
def qhi(s:BitVec 32):BitVec 32:=(s >>> 1) ^^^ (if s.getLsbD 0 then cdiv else 0#32)
def qaz:Nat→BitVec 32→BitVec 32
 | 0,s=>s
 | n+1,s=>qhi (qaz n s)
def vz(s:BitVec 32):BitVec 32:=qaz 8 s
def qfl(x:UInt8):BitVec 32:=BitVec.ofNat 32 x.toNat
def qo8(s:BitVec 32)(x:UInt8):BitVec 32:=vz (s ^^^ qfl x)
def qbm(s:BitVec 32)(l:List UInt8):BitVec 32:=l.foldl qo8 s
def qci:BitVec 32:=4294967295#32
def qcp(l:List UInt8):BitVec 32:=qbm qci l ^^^ qci
theorem cstep_xor(a b:BitVec 32):qhi (a ^^^ b)=qhi a ^^^ qhi b:=by
 unfold qhi
 rw[BitVec.ushiftRight_xor_distrib,BitVec.getLsbD_xor]
 have e:∀p q r t:BitVec 32,(p ^^^ q) ^^^ (r ^^^ t)=(p ^^^ r) ^^^ (q ^^^ t):=by
  intro p q r t
  simp only[qdv]
  congr 1
  rw[←qdv,BitVec.xor_comm q r,qdv]
 rcases a.getLsbD 0 <;> rcases b.getLsbD 0 <;> simp only[Bool.xor_false,Bool.xor_true,Bool.not_false,Bool.not_true,if_true,if_false,qar] <;> rw[e] <;> simp
theorem cstepN_xor(n:Nat)(a b:BitVec 32):qaz n (a ^^^ b)=qaz n a ^^^ qaz n b:=by
 induction n with
 | zero=>rfl
 | succ n ih=>simp only[qaz,ih,cstep_xor]
theorem cstep8_xor(a b:BitVec 32):vz (a ^^^ b)=vz a ^^^ vz b:=cstepN_xor 8 a b
theorem lsb_nat(s:BitVec 32):s.getLsbD 0=decide (s.toNat%2=1):=by
 rw[←BitVec.testBit_toNat,Nat.testBit_zero]
theorem shr_nat(s:BitVec 32):(s >>> 1).toNat=s.toNat/2:=by
 rw[BitVec.toNat_ushiftRight,Nat.shiftRight_eq_div_pow]
theorem cstep_odd{s:BitVec 32}(h:s.toNat%2=1):(qhi s).toNat=(s.toNat/2) ^^^ 3988292384:=by
 unfold qhi
 rw[lsb_nat,qx h,if_pos rfl,BitVec.toNat_xor,shr_nat]
 rfl
theorem qnj{s:BitVec 32}(h:s.toNat%2=0):(qhi s).toNat=s.toNat/2:=by
 unfold qhi
 rw[lsb_nat,qr (by omega),if_neg (by simp),BitVec.xor_zero,shr_nat]
theorem cstepN_shift(n:Nat):∀(m:Nat) (s:BitVec 32),s.toNat=2 ^ n*m→(qaz n s).toNat=m:=by
 induction n with
 | zero=>intro m s h;simpa[qaz] using h
 | succ n ih =>
  intro m s h
  have h1:=ih (2*m) s (by rw[h,ky,qdr])
  rw[qaz,qnj (by omega),h1]
  omega
theorem qn9{m:Nat}{s:BitVec 32}(h:s.toNat=256*m):(vz s).toNat=m:=cstepN_shift 8 m s h
theorem qn5(n:Nat):(n%256) ^^^ (256*(n/256))=n:=by
 apply Nat.eq_of_testBit_eq
 intro i
 have e1:n%256=n%2 ^ 8:=rfl
 have e2:256*(n/256)=(n >>> 8) <<< 8:=by rw[qay,Nat.shiftRight_eq_div_pow,xe]
 rw[e1,e2,Nat.testBit_xor,Nat.testBit_mod_two_pow,Nat.testBit_shiftLeft,Nat.testBit_shiftRight]
 by_cases h:i<8
 ·
  simp[h,Nat.not_le.2 h]
 ·
  have h':8≤i:=by omega
  simp[h,h',show 8+(i-8)=i from by omega]
theorem split32(s:BitVec 32):s=BitVec.ofNat 32 (s.toNat%256) ^^^ BitVec.ofNat 32 (256*(s.toNat/256)):=by
 apply qa9
 have h:=s.isLt
 rw[BitVec.toNat_xor,kt,kt,vc (show s.toNat%256<2 ^ 32 from by omega),vc (show 256*(s.toNat/256)<2 ^ 32 from by omega),qn5]
theorem qlz(a b:Nat):BitVec.ofNat 32 (a ^^^ b)=BitVec.ofNat 32 a ^^^ BitVec.ofNat 32 b:=by
 apply qa9
 simp only[BitVec.toNat_xor,kt,Nat.xor_mod_two_pow]
theorem cupd_table(s:BitVec 32)(x:UInt8):qo8 s x=vz (BitVec.ofNat 32 ((s.toNat%256) ^^^ x.toNat)) ^^^ (s >>> 8):=by
 have hs:=s.isLt
 have h1:s ^^^ qfl x=BitVec.ofNat 32 ((s.toNat%256) ^^^ x.toNat) ^^^ BitVec.ofNat 32 (256*(s.toNat/256)):=by
  conv=>lhs;rw[split32 s]
  rw[qlz]
  unfold qfl
  simp only[qdv]
  congr 1
  rw[BitVec.xor_comm]
 unfold qo8
 rw[h1,cstep8_xor]
 congr 1
 apply qa9
 rw[qn9 (m:=s.toNat/256) (by rw[kt,vc];omega),BitVec.toNat_ushiftRight,Nat.shiftRight_eq_div_pow]
theorem qge(s:BitVec 32)(a b:List UInt8):qbm s (a++b)=qbm (qbm s a) b:=by
 unfold qbm
 rw[List.foldl_append]
theorem qj7(s:BitVec 32)(a:List UInt8)(x:UInt8):qbm s (a++[x])=qo8 (qbm s a) x:=by
 rw[qge];rfl
def qhe(s:BitVec 32):List UInt8:=[UInt8.ofNat (s.toNat%256),UInt8.ofNat (s.toNat/256%256),UInt8.ofNat (s.toNat/65536%256),UInt8.ofNat (s.toNat/16777216)]
theorem qb7(s:BitVec 32):(qhe s).length=4:=rfl
theorem qdj{n:Nat}(h:n<256):(UInt8.ofNat n).toNat=n:=by rw[jq];omega
def vo(l:List UInt8):List UInt8:=l++qhe (qcp l)
theorem qc2(l:List UInt8):(vo l).length=l.length+4:=by simp[vo,qb7]
theorem qh3(l:List UInt8):(vo l).take l.length=l:=by simp[vo]
theorem qmw(l:List UInt8):(vo l).drop l.length=qhe (qcp l):=by simp[vo]
def qak(l:List UInt8):Bool:=decide (4≤l.length)&&decide (l.drop (l.length-4)=qhe (qcp (l.take (l.length-4))))
theorem qjz(l:List UInt8):qak (vo l)=true:=by
 have h:=qc2 l
 simp only[qak,h,Nat.add_sub_cancel,qh3,qmw]
 simp
theorem sealedB_iff{l:List UInt8}(h:4≤l.length):qak l=decide (vo (l.take (l.length-4))=l):=by
 unfold qak
 rw[qx h,qe2,decide_eq_decide]
 have e:l=l.take (l.length-4)++l.drop (l.length-4):=(zx _ _).symm
 constructor
 ·
  intro h1
  unfold vo
  rw[←h1]
  exact e.symm
 ·
  intro h1
  have h2:vo (l.take (l.length-4))=l.take (l.length-4)++l.drop (l.length-4):=h1.trans e
  exact(vi h2).symm
theorem qis(n:Nat)(s:BitVec 32):qhi (qaz n s)=qaz (n+1) s:=rfl
theorem not_xor(s:BitVec 32):(s ^^^ qci).toNat=4294967295-s.toNat:=by
 have e:s ^^^ qci = ~~~s:=by
  apply BitVec.eq_of_getLsbD_eq
  intro i hi
  have h1:qci=BitVec.allOnes 32:=rfl
  rw[h1,BitVec.getLsbD_xor,BitVec.getLsbD_not,BitVec.getLsbD_allOnes]
  simp[hi]
 rw[e,BitVec.toNat_not]
def bn(s:BitVec 32):Int:=(s.toNat:Int)
theorem qof(s:BitVec 32):0≤bn s∧bn s≤4294967295:=by
 have:=s.isLt
 unfold bn
 omega
theorem bn_not(s:BitVec 32):4294967295-bn s=bn (s ^^^ qci):=by
 have:=s.isLt
 unfold bn
 rw[not_xor]
 omega
theorem crcB_nums(s:BitVec 32):(qhe s).map (fun c=>(c.toNat:Int))=[bn s%256,bn s/256%256,bn s/65536%256,bn s/16777216]:=by
 have:=s.isLt
 unfold qhe bn
 simp only[yc,vu]
 rw[qdj (by omega),qdj (by omega),qdj (by omega),qdj (by omega)]
 congr 1
theorem bn_even{s:BitVec 32}(h:bn s%2=0):bn s/2=bn (qhi s):=by
 unfold bn at *
 rw[qnj (by omega)]
 omega
structure ColS where
 b:Nat
 gs:List Nat
 rs:List Bool
 ck:Chk
def qkg(S:List ByteArray)(b:Nat)(gs:List Nat)(rs:List Bool):Prop:=∃t,Rise (qcc (qcu S)) t∧gs=(if b=0 then t else [])∧rs=(if b=0 then [] else qe4 b t)
theorem qkg.one{S:List ByteArray}{b:Nat}{gs gs':List Nat}{rs rs':List Bool}(h:qkg S b gs rs)(h':qkg S b gs' rs'):gs=gs'∧rs=rs':=by
 obtain⟨t,h1,h2,h3⟩:=h
 obtain⟨u,h4,h5,h6⟩:=h'
 obtain rfl:=h1.one h4
 exact⟨h2.trans h5.symm,h3.trans h6.symm⟩
structure ColS.Ok (n:Nat) (c:ColS):Prop where
 ck:ChkOk c.ck
 len:c.ck.there.length=n
 fil:FilG c.b c.gs c.rs
 of:qkg (qf7 c.ck) c.b c.gs c.rs
structure ColAt (bs:List UInt8) (k n:Nat) (c:ColS) (k':Nat):Prop where
 ok:c.Ok n
 le:k'≤bs.length
 lies:∃K,1≤K∧K≤64∧bs.drop k=xf c.b c.gs c.rs++(qhp K c.ck++bs.drop k')∧k'=k+((xf c.b c.gs c.rs).length+(qhp K c.ck).length)
theorem writeG_split{b b':Nat}{gs gs':List Nat}{rs rs':List Bool}{r r':List UInt8}(h:FilG b gs rs)(h':FilG b' gs' rs')(e:xf b gs rs++r=xf b' gs' rs'++r'):b=b'∧gs=gs'∧rs=rs'∧r=r':=by
 have hle:=h.le
 have hle':=h'.le
 obtain⟨q,hq⟩:∃q,xf b gs rs=ji b++q:=by
  unfold xf
  split
  ·
   exact⟨_,rfl⟩
  ·
   exact⟨_,by rw[show b=0 by omega]⟩
 obtain⟨q',hq'⟩:∃q,xf b' gs' rs'=ji b'++q:=by
  unfold xf
  split
  ·
   exact⟨_,rfl⟩
  ·
   exact⟨_,by rw[show b'=0 by omega]⟩
 have h1:=ut (bs:=xf b gs rs++r) (k:=0) (n:=b) (m:=65536) (rest:=q++r) (by rw[jy,hq,qp]) (by omega) (by omega)
 have h2:=ut (bs:=xf b gs rs++r) (k:=0) (n:=b') (m:=65536) (rest:=q'++r') (by rw[jy,e,hq',qp]) (by omega) (by omega)
 rw[h1] at h2
 have hbb:b=b':=congrArg Prod.fst h2
 subst hbb
 clear h1 h2 hq hq' q q'
 by_cases hb:0<b
 ·
  have e1:=h.none hb
  have e2:=h'.none hb
  rw[xf,if_pos hb,xf,if_pos hb,qp,qp] at e
  have e3:=vi e
  have h3:=qit (bs:=xi rs++r) (k:=0) (rest:=r) rs 65536 (qi _) (jy) (by rw[h.rows];omega) (by rw[h.rows];omega)
  have h4:=qit (bs:=xi rs++r) (k:=0) (rest:=r') rs' 65536 (qi _) (by rw[jy];exact e3) (by rw[h'.rows];omega) (by rw[h'.rows];omega)
  rw[h3] at h4
  have h5:rs=rs':=congrArg Prod.fst h4
  subst h5
  exact⟨rfl,e1.trans e2.symm,rfl,vi e3⟩
 ·
  have hb0:b=0:=by omega
  subst hb0
  have e1:rs=[]:=zh h.rows
  have e2:rs'=[]:=zh h'.rows
  rw[xf,if_neg hb,xf,if_neg hb,qp,qp] at e
  have e3:=vi e
  have m1:=qft h.up h.lt
  have m2:=qft h'.up h'.lt
  have h3:=qh7 (bs:=js (yp gs)++r) (k:=0) (rest:=r) (yp gs) m1 65536 (qi _) (jy) (by rw[yd];exact h.few) (by omega)
  have h4:=qh7 (bs:=js (yp gs)++r) (k:=0) (rest:=r') (yp gs') m2 65536 (qi _) (by rw[jy];exact e3) (by rw[yd];exact h'.few) (by omega)
  rw[h3] at h4
  have h5:qbn (yp gs)=qbn (yp gs'):=congrArg Prod.fst h4
  have h6:yp gs=yp gs':=by
   rw[←ql1 (zs:=yp gs) (fun z hz=>(m1 z hz).1),h5,ql1 (zs:=yp gs') (fun z hz=>(m2 z hz).1)]
  have h7:=qmv h6
  subst h7
  exact⟨rfl,rfl,e1.trans e2.symm,vi e3⟩
theorem ColAt.one{bs:List UInt8}{k n k1 k2:Nat}{c c':ColS}(h:ColAt bs k n c k1)(h':ColAt bs k n c' k2):c=c'∧k1=k2:=by
 obtain⟨⟨o1,o2,o3,o4⟩,g1,K,g2,g3,g4,g5⟩:=h
 obtain⟨⟨p1,p2,p3,p4⟩,f1,J,f2,f3,f4,f5⟩:=h'
 obtain⟨e1,e2,e3,e4⟩:=writeG_split o3 p3 (g4.symm.trans f4)
 have h1:=qk6 (bs:=qhp K c.ck++bs.drop k1) (k:=0) (qi _) o1 g2 g3 jy
 have h2:=qk6 (bs:=qhp K c.ck++bs.drop k1) (k:=0) (rest:=bs.drop k2) (qi _) p1 f2 f3 (by rw[jy];exact e4)
 rw[h1] at h2
 have e5:c.ck=c'.ck:=congrArg Prod.fst h2
 have e6:0+(qhp K c.ck).length=0+(qhp J c'.ck).length:=congrArg (fun p=>p.2.1) h2
 obtain⟨b,gs,rs,ck⟩:=c
 obtain⟨b',gs',rs',ck'⟩:=c'
 simp only at e1 e2 e3 e5 e6 g5 f5
 subst e1 e2 e3 e5
 exact⟨rfl,by omega⟩
open Classical in
noncomputable def colR (bs:List UInt8)(k n:Nat):Option (ColS×Nat):=if h:∃p:ColS×Nat,ColAt bs k n p.1 p.2 then some h.choose else none
theorem colR_is{bs:List UInt8}{k n k':Nat}{c:ColS}(h:ColAt bs k n c k'):colR bs k n=some (c,k'):=by
 have hx:∃p:ColS×Nat,ColAt bs k n p.1 p.2:=⟨(c,k'),h⟩
 rw[colR,dif_pos hx]
 obtain⟨e1,e2⟩:=hx.choose_spec.one h
 exact congrArg some (Prod.ext e1 e2)
theorem colR_no{bs:List UInt8}{k n:Nat}(h:∀c k',¬ColAt bs k n c k'):colR bs k n=none:=dif_neg fun⟨p,hp⟩=>h p.1 p.2 hp
theorem colR_at{bs:List UInt8}{k n k':Nat}{c:ColS}(h:colR bs k n=some (c,k')):ColAt bs k n c k':=by
 unfold colR at h
 split at h
 ·
  rename_i hx
  have:=hx.choose_spec
  rw[zr h] at this
  exact this
 ·
  cases h
noncomputable def qdc (bs:List UInt8)(n k:Nat):Nat→Option (List ColS×Nat)
 | 0=>some ([],k)
 | j+1=>(qdc bs n k j).bind fun p=>(colR bs p.2 n).map fun q=>(p.1++[q.1],q.2)
structure GrpS where
 rows:Nat
 cols:List ColS
noncomputable def qo4 (bs:List UInt8)(nc left k:Nat):Option (GrpS×Nat) :=
 if (jw bs k 0 (left:Int)).1=0 then none else (qdc bs (jw bs k 0 (left:Int)).1 (jw bs k 0 (left:Int)).2.1 nc).map fun p=>(⟨(jw bs k 0 (left:Int)).1,p.1⟩,p.2)
noncomputable def qc6 (bs:List UInt8)(nc k:Nat):Nat→Option (List GrpS×Nat×Nat)
 | 0=>some ([],k,4096)
 | i+1=>(qc6 bs nc k i).bind fun p=>(qo4 bs nc p.2.2 p.2.1).map fun q=>(p.1++[q.1],q.2,p.2.2-q.1.rows)
noncomputable def qjy (bs:List UInt8):Option (Nat×List GrpS) :=
 if (jw bs 0 0 8).1=0 then none else
  if (jw bs (jw bs 0 0 8).2.1 0 4096).2.2≠0 then none else
   (qc6 bs (jw bs 0 0 8).1 (jw bs (jw bs 0 0 8).2.1 0 4096).2.1 (jw bs (jw bs 0 0 8).2.1 0 4096).1).bind fun p=>if p.2.1<bs.length then none else some ((jw bs 0 0 8).1,p.1)
theorem qk7{bs:List UInt8}{k:Nat}{e m:Int}(h:(jw bs k e m).2.2≠0):(jw bs k e m).1=0:=by
 unfold jw uz at *
 by_cases he:e≠0
 ·
  rw[if_pos he] at h ⊢
 ·
  rw[if_neg he] at h ⊢
  simp only at h ⊢
  split at h <;> simp_all
structure GrpS.Ok (nc:Nat) (g:GrpS):Prop where
 pos:0<g.rows
 len:g.cols.length=nc
 cols:∀c∈g.cols,c.Ok g.rows
theorem colsR_ok{bs:List UInt8}{n k:Nat}:∀ {j k':Nat} {cs:List ColS},qdc bs n k j=some (cs,k')→cs.length=j∧∀c∈cs,c.Ok n
 | 0,k',cs,h=>by
  rw[qdc] at h
  obtain⟨rfl,rfl⟩:=Prod.mk.inj (zr h)
  exact⟨rfl,fun c hc=>by cases hc⟩
 | j+1,k',cs,h=>by
  rw[qdc,qan] at h
  obtain⟨⟨ds,k1⟩,h1,h2⟩:=h
  rw[un] at h2
  obtain⟨⟨c,k2⟩,h2,h3⟩:=h2
  obtain⟨rfl,rfl⟩:=Prod.mk.inj h3
  obtain⟨h4,h5⟩:=colsR_ok h1
  refine⟨by rw[qd,h4];rfl,fun x hx => ?_⟩
  rcases zm.1 hx with hx | hx
  ·
   exact h5 x hx
  ·
   rw[ze.1 hx]
   exact(colR_at h2).ok
theorem grpR_ok{bs:List UInt8}{nc left k k':Nat}{g:GrpS}(h:qo4 bs nc left k=some (g,k')):g.Ok nc∧g.rows≤left:=by
 unfold qo4 at h
 split at h
 ·
  cases h
 ·
  rename_i h0
  rw[un] at h
  obtain⟨⟨cs,k1⟩,h1,h2⟩:=h
  obtain⟨rfl,rfl⟩:=Prod.mk.inj h2
  obtain⟨h3,h4⟩:=colsR_ok h1
  have h5:=qc5 bs k 0 (left:Int)
  exact⟨⟨by show 0<(jw bs k 0 (left:Int)).1;omega,h3,h4⟩,by show(jw bs k 0 (left:Int)).1≤left;omega⟩
def qat(gs:List GrpS):Nat:=(gs.map GrpS.rows).sum
theorem rowsT_snoc(gs:List GrpS)(g:GrpS):qat (gs++[g])=qat gs+g.rows:=by simp[qat]
theorem grpsR_ok{bs:List UInt8}{nc k:Nat}:∀ {i k' left:Nat} {gs:List GrpS},qc6 bs nc k i=some (gs,k',left)→gs.length=i∧qat gs+left=4096∧∀g∈gs,g.Ok nc
 | 0,k',left,gs,h=>by
  rw[qc6] at h
  obtain⟨rfl,h2⟩:=Prod.mk.inj (zr h)
  obtain⟨rfl,rfl⟩:=Prod.mk.inj h2
  exact⟨rfl,rfl,fun c hc=>by cases hc⟩
 | i+1,k',left,gs,h=>by
  rw[qc6,qan] at h
  obtain⟨⟨ds,k1,l1⟩,h1,h2⟩:=h
  rw[un] at h2
  obtain⟨⟨g,k2⟩,h2,h3⟩:=h2
  simp only[Prod.mk.injEq] at h3
  obtain⟨h3a,h3b,h3c⟩:=h3
  subst h3a h3b h3c
  obtain⟨h4,h5,h6⟩:=grpsR_ok h1
  obtain⟨h7,h8⟩:=grpR_ok h2
  simp only at h8
  refine⟨by rw[qd,h4];rfl,by rw[rowsT_snoc];omega,fun x hx => ?_⟩
  rcases zm.1 hx with hx | hx
  ·
   exact h6 x hx
  ·
   rw[ze.1 hx]
   exact h7
structure SegOk (n:Nat) (gs:List GrpS):Prop where
 one:1≤n
 eight:n≤8
 rows:qat gs≤4096
 grp:∀g∈gs,g.Ok n
theorem segR_ok{bs:List UInt8}{n:Nat}{gs:List GrpS}(h:qjy bs=some (n,gs)):SegOk n gs:=by
 unfold qjy at h
 split at h
 ·
  cases h
 ·
  split at h
  ·
   cases h
  ·
   rename_i h0 h1
   rw[qan] at h
   obtain⟨⟨ds,k1,l1⟩,h1,h2⟩:=h
   split at h2
   ·
    cases h2
   ·
    obtain⟨rfl,rfl⟩:=Prod.mk.inj (zr h2)
    obtain⟨_,h5,h6⟩:=grpsR_ok h1
    have h7:=qc5 bs 0 0 8
    have h8:qat ds+l1=4096:=h5
    have h9:qat ds≤4096:=by omega
    exact⟨by omega,by omega,h9,h6⟩
theorem grpsR_more{bs:List UInt8}{nc k:Nat}:∀ {i j:Nat},qc6 bs nc k i=none→i≤j→qc6 bs nc k j=none:=by
 intro i j h hij
 induction j with
 | zero=>rwa [show i=0 by omega] at h
 | succ j ih =>
  by_cases e:i=j+1
  ·
   rwa [e] at h
  ·
   rw[qc6,ih (by omega)]
   rfl
theorem colsR_more{bs:List UInt8}{n k:Nat}:∀ {i j:Nat},qdc bs n k i=none→i≤j→qdc bs n k j=none:=by
 intro i j h hij
 induction j with
 | zero=>rwa [show i=0 by omega] at h
 | succ j ih =>
  by_cases e:i=j+1
  ·
   rwa [e] at h
  ·
   rw[qdc,ih (by omega)]
   rfl
def qme(cs:List ColS)(i:Nat):List Vl:=cs.map fun c=>(qbw c.ck).getD i ⟨true,⟨#[]⟩⟩
def rowsG(g:GrpS):List (List Vl):=(List.range g.rows).map (qme g.cols)
def qhg(gs:List GrpS):List (List Vl):=(gs.map rowsG).flatten
theorem rowsG_length(g:GrpS):(rowsG g).length=g.rows:=by simp[rowsG]
theorem rowsS_snoc(gs:List GrpS)(g:GrpS):qhg (gs++[g])=qhg gs++rowsG g:=by simp[qhg]
theorem qnv(gs:List GrpS):(qhg gs).length=qat gs:=by
 induction gs with
 | nil=>rfl
 | cons g gs ih=>simp[qhg,qat,rowsG_length] at ih ⊢;omega
theorem qg2(cs:List ColS)(i:Nat):(qme cs i).length=cs.length:=by simp[qme]
theorem openC_none{bs:List UInt8}{k:Nat}{e:Int}(h:(qby bs k e).2.2≠0):(qby bs k e).1=Chk.none:=by
 unfold qby at h ⊢
 split
 ·
  rename_i h2
  rw[if_pos h2] at h
  exact absurd h2 h
 ·
  rfl
theorem openC_bad{bs:List UInt8}{k:Nat}{e:Int}(h:e≠0):(qby bs k e).1=Chk.none:=by
 refine openC_none ?_
 have hk:qmm bs k e=(qah bs k e 0 []):=by
  unfold qmm
  simp only[qcx bs k e 0 1 h,kindE_bad h,qjn bs k 4096 h]
  rfl
 have h2:(qmm bs k e).2.2=e:=by rw[hk,qi7 bs k 0 [] h]
 unfold qby
 rw[h2,if_neg h]
 exact h2.symm ▸ h
theorem col_none1{bs:List UInt8}{k k' b n:Nat}{gs:List Nat}{rs:List Bool}{e':Int}(hT:TakeG bs k 0 b gs rs k' e')(he:e'≠0):colR bs k n=none:=by
 refine colR_no fun c k2 h => ?_
 obtain⟨K,_,_,h1,_⟩:=h.lies
 exact he (hT.there _ _ _ _ rfl h.ok.fil h1).1
theorem col_none2{bs:List UInt8}{k k' k2 b n:Nat}{gs:List Nat}{rs:List Bool}{c:Chk}{e2:Int}(hT:TakeG bs k 0 b gs rs k' 0)(hC:qby bs k' 0=(c,k2,e2))(hn:c.there.length≠n∨¬qkg (qf7 c) b gs rs):colR bs k n=none:=by
 refine colR_no fun d k3 h => ?_
 obtain⟨K,g1,g2,h1,h5⟩:=h.lies
 obtain⟨_,rfl,rfl,rfl⟩:=hT.there _ _ _ _ rfl h.ok.fil h1
 obtain⟨_,_,h6,h7,h8⟩:=hT.good rfl
 have h9:bs.drop k'=qhp K d.ck++bs.drop k3:=vi (h6.symm.trans h1)
 have h10:=qk6 h8 h.ok.ck g1 g2 h9
 rw[hC] at h10
 have e:c=d.ck:=congrArg Prod.fst h10
 subst e
 rcases hn with hn | hn
 ·
  exact hn h.ok.len
 ·
  exact hn h.ok.of
theorem col_some{bs:List UInt8}{k k' k2 b n:Nat}{gs:List Nat}{rs:List Bool}{c:Chk}(hT:TakeG bs k 0 b gs rs k' 0)(hC:qby bs k' 0=(c,k2,0))(hn:c.there.length=n)(hf:qkg (qf7 c) b gs rs):colR bs k n=some (⟨b,gs,rs,c⟩,k2):=by
 obtain⟨_,h5,h6,h7,h8⟩:=hT.good rfl
 obtain⟨h1,K,h2,h3,h4,h9,h10⟩:=openC_good h8 hC
 refine colR_is ⟨⟨h1,hn,h5,hf⟩,h10,K,h2,h3,?_,by show k2=k+((xf b gs rs).length+(qhp K c).length);omega⟩
 rw[h6,h4]
theorem chk_some{bs:List UInt8}{k k2:Nat}{c:Chk}{e2:Int}(hC:qby bs k 0=(c,k2,e2))(hn:0<c.there.length):e2=0:=by
 apply Classical.byContradiction
 intro he
 have:=openC_none (bs:=bs) (k:=k) (e:=0) (by rw[hC];exact he)
 rw[hC] at this
 simp only at this
 rw[this] at hn
 exact absurd hn (qbb 0)
theorem grp_none{bs:List UInt8}{nc left k j m:Nat}{k1:Nat}{e:Int}(hM:jw bs k 0 (left:Int)=(m,k1,e))(h:qdc bs m k1 j=none)(hj:j≤nc):qo4 bs nc left k=none:=by
 unfold qo4
 rw[hM]
 simp only
 rw[colsR_more h hj]
 split <;> rfl
theorem grp_zero{bs:List UInt8}{nc left k:Nat}(h:(jw bs k 0 (left:Int)).1=0):qo4 bs nc left k=none:=by
 unfold qo4
 rw[if_pos h]
theorem grp_some{bs:List UInt8}{nc left k m k1 k2:Nat}{e:Int}{cs:List ColS}(hM:jw bs k 0 (left:Int)=(m,k1,e))(hm:m≠0)(h:qdc bs m k1 nc=some (cs,k2)):qo4 bs nc left k=some (⟨m,cs⟩,k2):=by
 unfold qo4
 rw[hM]
 simp only
 rw[if_neg hm,h]
 rfl
theorem qo3{bs:List UInt8}{nc k i n kp left:Nat}{gs:List GrpS}(h:qc6 bs nc k i=some (gs,kp,left))(hg:qo4 bs nc left kp=none)(hi:i<n):qc6 bs nc k n=none:=by
 have h1:qc6 bs nc k (i+1)=none:=by
  rw[qc6,h,vb]
  simp only
  rw[hg]
  rfl
 exact grpsR_more h1 hi
theorem grps_some{bs:List UInt8}{nc k i kp left k2:Nat}{gs:List GrpS}{g:GrpS}(h:qc6 bs nc k i=some (gs,kp,left))(hg:qo4 bs nc left kp=some (g,k2)):qc6 bs nc k (i+1)=some (gs++[g],k2,left-g.rows):=by
 rw[qc6,h,vb]
 simp only
 rw[hg]
 rfl
theorem cols_none{bs:List UInt8}{n k j kq:Nat}{cs:List ColS}(h:qdc bs n k j=some (cs,kq))(hc:colR bs kq n=none):qdc bs n k (j+1)=none:=by
 rw[qdc,h,vb]
 simp only
 rw[hc]
 rfl
theorem cols_some{bs:List UInt8}{n k j kq k2:Nat}{cs:List ColS}{c:ColS}(h:qdc bs n k j=some (cs,kq))(hc:colR bs kq n=some (c,k2)):qdc bs n k (j+1)=some (cs++[c],k2):=by
 rw[qdc,h,vb]
 simp only
 rw[hc]
 rfl
def ke(b:List UInt8)(n:Nat)(gs:List GrpS):Prop:=qak b=true∧qjy (b.take (b.length-4))=some (n,gs)
theorem seg_zero{bs:List UInt8}(h:(jw bs 0 0 8).1=0):qjy bs=none:=by
 unfold qjy
 rw[if_pos h]
theorem seg_err{bs:List UInt8}{nc k0:Nat}{e0:Int}(hM:jw bs 0 0 8=(nc,k0,e0))(h:(jw bs k0 0 4096).2.2≠0):qjy bs=none:=by
 unfold qjy
 rw[hM]
 simp only
 rw[if_pos h]
 split <;> rfl
theorem seg_none{bs:List UInt8}{nc k0 cn k1:Nat}{e0 e1:Int}(hM:jw bs 0 0 8=(nc,k0,e0))(hN:jw bs k0 0 4096=(cn,k1,e1))(h:qc6 bs nc k1 cn=none):qjy bs=none:=by
 unfold qjy
 rw[hM]
 simp only
 rw[hN]
 simp only
 rw[h]
 split
 ·
  rfl
 ·
  split <;> rfl
theorem seg_left{bs:List UInt8}{nc k0 cn k1 kp left:Nat}{e0 e1:Int}{gs:List GrpS}(hM:jw bs 0 0 8=(nc,k0,e0))(hN:jw bs k0 0 4096=(cn,k1,e1))(h:qc6 bs nc k1 cn=some (gs,kp,left))(hk:kp<bs.length):qjy bs=none:=by
 unfold qjy
 rw[hM]
 simp only
 rw[hN]
 simp only
 rw[h,vb,if_pos hk]
 split
 ·
  rfl
 ·
  split <;> rfl
theorem seg_some{bs:List UInt8}{nc k0 cn k1 kp left:Nat}{e0:Int}{gs:List GrpS}(hM:jw bs 0 0 8=(nc,k0,e0))(hn:nc≠0)(hN:jw bs k0 0 4096=(cn,k1,0))(h:qc6 bs nc k1 cn=some (gs,kp,left))(hk:¬kp<bs.length):qjy bs=some (nc,gs):=by
 unfold qjy
 rw[hM]
 simp only
 rw[if_neg hn,hN]
 simp only
 rw[if_neg (by simp),h,vb,if_neg hk]
end Go.Proofs.YtjfecojdagmacaaGreat
