/-
  Lemmas.
-/
import Derived.Test.YtjfecojdagmacaaGreatE13
namespace Go.Proofs.YtjfecojdagmacaaGreat
open Go.RowKit
set_option maxRecDepth 20000
set_option maxHeartbeats 16000000
set_option linter.unusedSimpArgs false
set_option linter.unusedVariables false
theorem bread_few{bs:List UInt8}{k k2:Nat}{e z:Int}{l:List Bool}(h:qat bs k e 4096=(l,k2,z)):l.length≤4096:=by
 unfold qat qb7 at h
 split at h
 ·
  simp only[Prod.mk.injEq] at h
  rw[←h.1];simp
 ·
  split at h
  ·
   rename_i h1 h2
   simp only[Prod.mk.injEq] at h
   rw[←h.1,qbd]
   have h3:(z8 bs k e 4096).2.2=0:=by
    rcases Classical.em ((z8 bs k e 4096).2.2=0) with h4 | h4
    ·
     exact h4
    ·
     exact absurd (by rw[qfm _ _ _ h4];exact h4) h1
   unfold z8 vy at h3 ⊢
   simp only at h3 ⊢
   split
   ·
    simp
   ·
    rename_i he
    rw[if_neg he] at h3
    split
    ·
     simp
    ·
     rename_i h5
     have h6:qdz bs k 4096=0:=Classical.not_not.1 h5
     unfold qdz at h6
     split at h6
     ·
      rename_i h7
      exact absurd h6 h7
     ·
      split at h6
      ·
       omega
      ·
       omega
  ·
   simp only[Prod.mk.injEq] at h
   rw[←h.1];simp
theorem gb_out{a w w':World}{g G:Nat}(h:a.grownBy w (some g))(ho:Out w w' (fun i=>i=g∨i=G))(hG:a.heap.size≤G):a.grownBy w' (some g) :=
 ⟨ho.os.trans h.os,ho.tape.trans h.tape,ho.output.trans h.output,zc h.size ho.size,fun i hi hne=>(ho.block i (zh hi h.size) (by
  rintro(e | e)
  ·
   exact hne (by rw[e])
  ·
   omega)).trans (h.block i hi hne)⟩
theorem qkj(W:World):(Instr.build 184 #[]).run Tryz.prog W= .ok (.agg #[.int .i64 0,.slice none 0 0,.slice none 0 0,.slice none 0 0,.pointer none,.slice none 0 0]) W:=run_build W _ _ _ (by kernel_rfl)
theorem chk_none{lo:Nat}(w:World)(h:lo≤w.heap.size):qbh (w.alloc (.cells #[.int .i64 0,.slice none 0 0,.slice none 0 0,.slice none 0 0,.pointer none,.slice none 0 0] 184)) lo w.heap.size Chk.none :=
 ⟨none,0,none,0,0,none,0,0,none,none,0,0,j8.new w _ _,h,Rd.nil _ _ _,fun h=>absurd h (show ¬((0:Nat)=1∨(0:Nat)=2) by decide),fun h=>absurd h (show ¬(0:Nat)=2 by decide),fun h=>absurd h (show ¬(0:Nat)=3 by decide)⟩
theorem take_any17{w:World}{lo g G k c0 B:Nat}{bs:List UInt8}{e:Int}(kd:Nat)(there:List Bool){A0:Option Addr}(h:xq w lo g bs k e)(hb:bs.length≤1000000000)(hgB:g<B)(hBG:B≤G)
  (hG:j8 w G 184 #[.int .i64 (kd:Int),.slice A0 there.length c0,.slice none 0 0,.slice none 0 0,.pointer none,.slice none 0 0]) (ht:Rd w (G+1) w.heap.size A0 c0 (lv there)) (ht4:there.length≤4096) (hok:¬(1≤kd∧kd≤3)→e≠0) :
  Calls Tryz.prog 129 #[.pointer (some ⟨G,0,none⟩),cp g] w fun r w'=>r= .returned (.tuple #[])∧xq w' lo g bs (kg bs k e kd there).2.1 (kg bs k e kd there).2.2∧Out w w' (fun i=>i=g∨i=G)∧
   ((kg bs k e kd there).2.2=0→qbh w' B G (kg bs k e kd there).1):=by
 by_cases h1:kd=1
 ·
  subst h1;exact take_one there h hb hgB hBG hG ht ht4
 ·
  by_cases h2:kd=2
  ·
   subst h2;exact take_two there h hb hgB hBG hG ht ht4
  ·
   by_cases h3:kd=3
   ·
    subst h3;exact take_three there h hb hgB hBG hG ht ht4
   ·
    refine(take_other kd h1 h2 h3 there h hb hgB hBG hG ht ht4).mono ?_
    rintro r w' ⟨rfl,hc,ho⟩
    refine⟨rfl,hc,ho,fun hz => ?_⟩
    have e1:kg bs k e kd there=(⟨kd,there,[],[],[],[]⟩,k,e):=by rw[kg,if_neg h1,if_neg h2,if_neg h3]
    rw[e1] at hz
    exact absurd hz (hok (by omega))
def TakeK(kd lo g B:Nat)(bs:List UInt8):Prop:=∀ {w:World} {G k c0:Nat} {e:Int} (there:List Bool) {A0:Option Addr},xq w lo g bs k e→bs.length≤1000000000→g<B→B≤G→
  j8 w G 184 #[.int .i64 (kd:Int),.slice A0 there.length c0,.slice none 0 0,.slice none 0 0,.pointer none,.slice none 0 0]→Rd w (G+1) w.heap.size A0 c0 (lv there)→there.length≤4096→(¬(1≤kd∧kd≤3)→e≠0)→
  Calls Tryz.prog 129 #[.pointer (some ⟨G,0,none⟩),cp g] w fun r w'=>r= .returned (.tuple #[])∧xq w' lo g bs (kg bs k e kd there).2.1 (kg bs k e kd there).2.2∧Out w w' (fun i=>i=g∨i=G)∧
   ((kg bs k e kd there).2.2=0→qbh w' B G (kg bs k e kd there).1)
theorem open_vW{w:World}{lo g k:Nat}{bs:List UInt8}{e:Int}(h:xq w lo g bs k e)(hb:bs.length≤1000000000)(hta:∀kd,((z6 bs k e 0 1).1.headD 0).toNat=kd→TakeK kd lo g w.heap.size bs) :
  Calls Tryz.prog 87 #[cp g] w fun r w'=>∃G,r= .returned (.pointer (some ⟨G,0,none⟩))∧w.heap.size≤G∧qbh w' w.heap.size G (qax bs k e).1∧xq w' lo g bs (qax bs k e).2.1 (qax bs k e).2.2∧w.grownBy w' (some g):=by
 have hgl:=h.lt
 have HBY:=qa (qk6 h)
 obtain⟨C,hC⟩:∃C,qax bs k e=C:=⟨_,rfl⟩
 rw[hC]
 unfold qax qjk at hC
 obtain⟨⟨xb,k1,e1⟩,hT⟩:∃T,z6 bs k e 0 1=T:=⟨_,rfl⟩
 rw[hT] at HBY hC
 simp only at HBY hC
 obtain⟨kd,hkd⟩:∃kd,(xb.headD 0).toNat=kd:=⟨_,rfl⟩
 have hkd5:kd≤255:=by have:=je (xb.headD 0);omega
 have HTA:Hid (TakeK kd lo g w.heap.size bs):=hta kd (by rw[hT];exact hkd)
 clear hta
 rw[hkd] at HBY hC
 obtain⟨e2,he2⟩:∃e2,qht kd e1=e2:=⟨_,rfl⟩
 rw[he2] at hC
 have HE2:=qa he2
 obtain⟨⟨th,k3,e3⟩,hR⟩:∃R,qat bs k1 e2 4096=R:=⟨_,rfl⟩
 rw[hR] at hC
 simp only at hC
 have HR:=qa hR
 obtain⟨⟨cc,k4,e4⟩,hK⟩:∃K,kg bs k3 e3 kd th=K:=⟨_,rfl⟩
 rw[hK] at hC
 simp only at hC
 have HK:=qa hK
 have HC:=qa hC
 have hbad:Hid (¬(1≤kd∧kd≤3)→e3≠0):=fun hn=>by
  have h2:e2≠0:=by rw[←he2,qht,if_neg hn];exact yp _
  rw[qg6 bs k1 4096 h2] at hR
  simp only[Prod.mk.injEq] at hR
  rw[←hR.2.2];exact h2
 have HTL:Hid (th.length≤4096):=bread_few hR
 clear h hC hT hkd he2 hR hK
 unfold cp at *
 go_enter Tryz.func87,Tryz.ntmps87
 go_wp2_with fail
 refine HBY.out.mono ?_
 rintro r w1 ⟨rfl,hc1,hg1⟩
 have hs1:=hg1.size
 have hgl1:=hc1.lt
 obtain⟨w2,hw2⟩:∃w2,w1.alloc (.cells #[.int .i64 (kd:Int),.slice none 0 0,.slice none 0 0,.slice none 0 0,.pointer none,.slice none 0 0] 184)=w2:=⟨_,rfl⟩
 have hx:j8 w2 w1.heap.size 184 #[.int .i64 (kd:Int),.slice none 0 0,.slice none 0 0,.slice none 0 0,.pointer none,.slice none 0 0]:=by rw[←hw2];exact j8.new w1 _ _
 have HX:=qa hx
 have HC2:Hid (xq w2 lo g bs k1 e1):=by unfold Hid;rw[←hw2];exact hc1.grown (row:=none) (by exact va (yx _ _) _) (by simp)
 have HG2:Hid (w.grownBy w2 (some g)):=by unfold Hid;rw[←hw2];exact va hg1 _
 have hs2:w1.heap.size<w2.heap.size:=by rw[←hw2];simp
 have x0:=hx.cell 0
 simp only[zo,zf,zg] at x0
 clear hc1 hg1 HBY
 by_cases hk:1≤kd∧kd≤3
 ·
  obtain⟨q1,q2⟩:=hk
  have i1:¬(kd:Int)<1:=by omega
  have i2:¬(3:Int)<(kd:Int):=by omega
  have HC3:Hid (xq w2 lo g bs k1 e2):=by unfold Hid;rw[←HE2.out,qht,if_pos ⟨q1,q2⟩];exact HC2.out
  have HX3:=qa HX.out
  have HG3:=qa HG2.out
  clear HC2 HX HG2 hx
  have HRD:=qa (qi7 4096 (by omega) HC3.out (by omega))
  rw[HR.out] at HRD
  simp only at HRD
  unfold cp at HRD
  go_wp2_with fail
  refine HRD.out.mono ?_
  rintro r w4 ⟨A4,c4,rfl,ho4,hc4,hg4⟩
  have hs4:=hg4.size
  have hx4:=HX3.out.grown hg4 (by intro e;injection e with e;omega)
  have x1:=hx4.cell 1
  have f1:=hx4.frozen 1
  simp only[zo,zf,zg] at x1
  obtain⟨w5,hw5⟩:∃w5,w4.setCell ⟨w1.heap.size,1,none⟩ (.slice A4 th.length c4)=w5:=⟨_,rfl⟩
  have hx5:j8 w5 w1.heap.size 184 #[.int .i64 (kd:Int),.slice A4 th.length c4,.slice none 0 0,.slice none 0 0,.pointer none,.slice none 0 0]:=by rw[←hw5];simpa using hx4.put 1 (.slice A4 th.length c4)
  have hs5:w5.heap.size=w4.heap.size:=by rw[←hw5];simp[World.setCell]
  have hC5:xq w5 lo g bs k3 e3:=by rw[←hw5];exact qgh hc4 (by omega)
  have hT5:Rd w5 (w1.heap.size+1) w5.heap.size A4 c4 (lv th):=by rw[hs5,←hw5];exact(qd8 (Rd.of_own ho4) (.inl (by omega))).wide (by omega) (qc _)
  have HG5:Hid (w.grownBy w5 (some g)):=by unfold Hid;rw[←hw5];exact yr (HG3.out.trans hg4) (.inr (by show w.heap.size≤w1.heap.size;omega)) _
  have HTK:=qa (HTA.out th hC5 hb hgl hs1 hx5 hT5 HTL.out hbad.out)
  rw[HK.out] at HTK
  simp only at HTK
  unfold cp at HTK
  have hs5':w1.heap.size<w5.heap.size:=by omega
  clear hx4 hx5 hC5 hT5 ho4 hc4 hg4 HRD HX3 HC3 HG3 hs5
  go_wp2_with fail
  refine HTK.out.mono ?_
  rintro r w6 ⟨rfl,hc6,ho6,hm6⟩
  have HC6:=qa hc6
  have HM6:=qa hm6
  have HG6:=qa (gb_out HG5.out ho6 hs1)
  have hs6:=ho6.size
  have HGD:=qa (yq hc6)
  unfold cp at HGD
  have hc:=HC.out
  clear hc6 hm6 ho6 HTK hw5 x1 f1 HC
  by_cases h0:e4=0
  ·
   subst h0
   rw[if_pos rfl] at hc
   subst hc
   have bb:((0:Int)==0)=true:=rfl
   rw[bb] at HGD
   go_wp2_with fail
   refine HGD.out.mono ?_
   rintro r w' ⟨rfl,rfl⟩
   go_wp2_with fail
   go_ret
   exact⟨_,rfl,hs1,(by first | exact HM6.out rfl | exact HM6.out trivial | exact HM6.out),HC6.out,HG6.out⟩
  ·
   rw[if_neg h0] at hc
   subst hc
   have bb:(e4==0)=false:=by rw[q9];exact h0
   rw[bb] at HGD
   have hbz:=qkj
   go_wp2_with fail
   refine HGD.out.mono ?_
   rintro r w' ⟨rfl,rfl⟩
   go_wp2_with fail
   go_ret
   refine⟨_,rfl,by omega,chk_none w6 (by omega),?_,va HG6.out _⟩
   exact HC6.out.grown (row:=none) (by exact va (yx _ _) _) (by simp)
 ·
  have HE3:Hid ((if e1=0 then (3:Int) else e1)=e2):=by unfold Hid;rw[←HE2.out,qht,if_neg hk];rfl
  have HF:=qa (ve 3 HC2.out)
  rw[HE3.out] at HF
  unfold cp at HF
  by_cases q1:kd<1
  ·
   have i1:(kd:Int)<1:=by omega
   go_wp2_with fail
   refine HF.out.mono ?_
   rintro r w3 ⟨rfl,hc3,hg3⟩
   have HC3:=qa hc3
   have HX3:=qa (HX.out.grown hg3 (by intro e;injection e with e;omega))
   have HG3:=qa (HG2.out.trans hg3)
   have hs3:=hg3.size
   clear hc3 hg3 HC2 HX HG2 hx x0 HF
   have HRD:=qa (qi7 4096 (by omega) HC3.out (by omega))
   rw[HR.out] at HRD
   simp only at HRD
   unfold cp at HRD
   go_wp2_with fail
   refine HRD.out.mono ?_
   rintro r w4 ⟨A4,c4,rfl,ho4,hc4,hg4⟩
   have hs4:=hg4.size
   have hx4:=HX3.out.grown hg4 (by intro e;injection e with e;omega)
   have x1:=hx4.cell 1
   have f1:=hx4.frozen 1
   simp only[zo,zf,zg] at x1
   obtain⟨w5,hw5⟩:∃w5,w4.setCell ⟨w1.heap.size,1,none⟩ (.slice A4 th.length c4)=w5:=⟨_,rfl⟩
   have hx5:j8 w5 w1.heap.size 184 #[.int .i64 (kd:Int),.slice A4 th.length c4,.slice none 0 0,.slice none 0 0,.pointer none,.slice none 0 0]:=by rw[←hw5];simpa using hx4.put 1 (.slice A4 th.length c4)
   have hs5:w5.heap.size=w4.heap.size:=by rw[←hw5];simp[World.setCell]
   have hC5:xq w5 lo g bs k3 e3:=by rw[←hw5];exact qgh hc4 (by omega)
   have hT5:Rd w5 (w1.heap.size+1) w5.heap.size A4 c4 (lv th):=by rw[hs5,←hw5];exact(qd8 (Rd.of_own ho4) (.inl (by omega))).wide (by omega) (qc _)
   have HG5:Hid (w.grownBy w5 (some g)):=by unfold Hid;rw[←hw5];exact yr (HG3.out.trans hg4) (.inr (by show w.heap.size≤w1.heap.size;omega)) _
   have HTK:=qa (HTA.out th hC5 hb hgl hs1 hx5 hT5 HTL.out hbad.out)
   rw[HK.out] at HTK
   simp only at HTK
   unfold cp at HTK
   have hs5':w1.heap.size<w5.heap.size:=by omega
   clear hx4 hx5 hC5 hT5 ho4 hc4 hg4 HRD HX3 HC3 HG3 hs5
   go_wp2_with fail
   refine HTK.out.mono ?_
   rintro r w6 ⟨rfl,hc6,ho6,hm6⟩
   have HC6:=qa hc6
   have HM6:=qa hm6
   have HG6:=qa (gb_out HG5.out ho6 hs1)
   have hs6:=ho6.size
   have HGD:=qa (yq hc6)
   unfold cp at HGD
   have hc:=HC.out
   clear hc6 hm6 ho6 HTK hw5 x1 f1 HC
   by_cases h0:e4=0
   ·
    subst h0
    rw[if_pos rfl] at hc
    subst hc
    have bb:((0:Int)==0)=true:=rfl
    rw[bb] at HGD
    go_wp2_with fail
    refine HGD.out.mono ?_
    rintro r w' ⟨rfl,rfl⟩
    go_wp2_with fail
    go_ret
    exact⟨_,rfl,hs1,(by first | exact HM6.out rfl | exact HM6.out trivial | exact HM6.out),HC6.out,HG6.out⟩
   ·
    rw[if_neg h0] at hc
    subst hc
    have bb:(e4==0)=false:=by rw[q9];exact h0
    rw[bb] at HGD
    have hbz:=qkj
    go_wp2_with fail
    refine HGD.out.mono ?_
    rintro r w' ⟨rfl,rfl⟩
    go_wp2_with fail
    go_ret
    refine⟨_,rfl,by omega,chk_none w6 (by omega),?_,va HG6.out _⟩
    exact HC6.out.grown (row:=none) (by exact va (yx _ _) _) (by simp)
  ·
   have i1:¬(kd:Int)<1:=by omega
   have i2:(3:Int)<(kd:Int):=by omega
   go_wp2_with fail
   refine HF.out.mono ?_
   rintro r w3 ⟨rfl,hc3,hg3⟩
   have HC3:=qa hc3
   have HX3:=qa (HX.out.grown hg3 (by intro e;injection e with e;omega))
   have HG3:=qa (HG2.out.trans hg3)
   have hs3:=hg3.size
   clear hc3 hg3 HC2 HX HG2 hx x0 HF
   have HRD:=qa (qi7 4096 (by omega) HC3.out (by omega))
   rw[HR.out] at HRD
   simp only at HRD
   unfold cp at HRD
   go_wp2_with fail
   refine HRD.out.mono ?_
   rintro r w4 ⟨A4,c4,rfl,ho4,hc4,hg4⟩
   have hs4:=hg4.size
   have hx4:=HX3.out.grown hg4 (by intro e;injection e with e;omega)
   have x1:=hx4.cell 1
   have f1:=hx4.frozen 1
   simp only[zo,zf,zg] at x1
   obtain⟨w5,hw5⟩:∃w5,w4.setCell ⟨w1.heap.size,1,none⟩ (.slice A4 th.length c4)=w5:=⟨_,rfl⟩
   have hx5:j8 w5 w1.heap.size 184 #[.int .i64 (kd:Int),.slice A4 th.length c4,.slice none 0 0,.slice none 0 0,.pointer none,.slice none 0 0]:=by rw[←hw5];simpa using hx4.put 1 (.slice A4 th.length c4)
   have hs5:w5.heap.size=w4.heap.size:=by rw[←hw5];simp[World.setCell]
   have hC5:xq w5 lo g bs k3 e3:=by rw[←hw5];exact qgh hc4 (by omega)
   have hT5:Rd w5 (w1.heap.size+1) w5.heap.size A4 c4 (lv th):=by rw[hs5,←hw5];exact(qd8 (Rd.of_own ho4) (.inl (by omega))).wide (by omega) (qc _)
   have HG5:Hid (w.grownBy w5 (some g)):=by unfold Hid;rw[←hw5];exact yr (HG3.out.trans hg4) (.inr (by show w.heap.size≤w1.heap.size;omega)) _
   have HTK:=qa (HTA.out th hC5 hb hgl hs1 hx5 hT5 HTL.out hbad.out)
   rw[HK.out] at HTK
   simp only at HTK
   unfold cp at HTK
   have hs5':w1.heap.size<w5.heap.size:=by omega
   clear hx4 hx5 hC5 hT5 ho4 hc4 hg4 HRD HX3 HC3 HG3 hs5
   go_wp2_with fail
   refine HTK.out.mono ?_
   rintro r w6 ⟨rfl,hc6,ho6,hm6⟩
   have HC6:=qa hc6
   have HM6:=qa hm6
   have HG6:=qa (gb_out HG5.out ho6 hs1)
   have hs6:=ho6.size
   have HGD:=qa (yq hc6)
   unfold cp at HGD
   have hc:=HC.out
   clear hc6 hm6 ho6 HTK hw5 x1 f1 HC
   by_cases h0:e4=0
   ·
    subst h0
    rw[if_pos rfl] at hc
    subst hc
    have bb:((0:Int)==0)=true:=rfl
    rw[bb] at HGD
    go_wp2_with fail
    refine HGD.out.mono ?_
    rintro r w' ⟨rfl,rfl⟩
    go_wp2_with fail
    go_ret
    exact⟨_,rfl,hs1,(by first | exact HM6.out rfl | exact HM6.out trivial | exact HM6.out),HC6.out,HG6.out⟩
   ·
    rw[if_neg h0] at hc
    subst hc
    have bb:(e4==0)=false:=by rw[q9];exact h0
    rw[bb] at HGD
    have hbz:=qkj
    go_wp2_with fail
    refine HGD.out.mono ?_
    rintro r w' ⟨rfl,rfl⟩
    go_wp2_with fail
    go_ret
    refine⟨_,rfl,by omega,chk_none w6 (by omega),?_,va HG6.out _⟩
    exact HC6.out.grown (row:=none) (by exact va (yx _ _) _) (by simp)
theorem open_v{w:World}{lo g k:Nat}{bs:List UInt8}{e:Int}(h:xq w lo g bs k e)(hb:bs.length≤1000000000) :
  Calls Tryz.prog 87 #[cp g] w fun r w'=>∃G,r= .returned (.pointer (some ⟨G,0,none⟩))∧w.heap.size≤G∧qbh w' w.heap.size G (qax bs k e).1∧xq w' lo g bs (qax bs k e).2.1 (qax bs k e).2.2∧w.grownBy w' (some g) :=
 open_vW h hb fun kd _=>fun {w G k c0 e} there {A0} h1 h2 h3 h4 h5 h6 h7 h8=>take_any17 kd there h1 h2 h3 h4 h5 h6 h7 h8
def qd4(c:Chk):List ByteArray :=
 if c.kind=2 then c.raws.map fun b=>⟨(qc2 c.tab 4096 b [] 0).1.toArray⟩
 else if c.kind=3 then c.codes.map fun n=>(j4 c.dic).getD n ⟨#[]⟩
 else j4 c.raws
def qaj(c:Chk):List Vl:=yt c.there ((qd4 c).map (Vl.mk false)) ⟨true,⟨#[]⟩⟩
theorem qdb(c:Chk):(qaj c).length=c.there.length:=qao _ _ _
theorem qh3{c:Chk}(h:ChkOk c):(qd4 c).length=cnt c.there:=by
 rcases h.kinds with ⟨h1,h2,_⟩ | ⟨h1,h2,_⟩ | ⟨h1,_,_,_,h2,_⟩
 ·
  rw[qd4,if_neg (by omega),if_neg (by omega),yf,h2]
 ·
  rw[qd4,if_pos h1,qz,h2]
 ·
  rw[qd4,if_neg (by omega),if_pos h1,qz,h2]
theorem qix{c:Chk}(h:ChkOk c):∀s∈qd4 c,s.size≤4096:=by
 intro s hs
 rcases h.kinds with ⟨h1,_,h2,_⟩ | ⟨h1,_,_,h2,_⟩ | ⟨h1,_,_,h2,_,h3⟩
 ·
  rw[qd4,if_neg (by omega),if_neg (by omega)] at hs
  obtain⟨x,hx,rfl⟩:=za.1 hs
  have:=h2 x hx
  show x.toArray.size≤4096
  simpa using this
 ·
  rw[qd4,if_pos h1] at hs
  obtain⟨x,hx,rfl⟩:=za.1 hs
  have:=dec_le (T:=c.tab) (most:=4096) (by omega) x.length x [] 0 (qc _) (by simp)
  show(qc2 c.tab 4096 x [] 0).1.toArray.size≤4096
  rw[qcn]
  omega
 ·
  rw[qd4,if_neg (by omega),if_pos h1] at hs
  obtain⟨n,hn,rfl⟩:=za.1 hs
  have hl:=h3 n hn
  rw[j7,qe (by rw[yf];exact hl)]
  have:=(qc1.1 h2).2.1 c.dic[n] (ql hl)
  have e:(j4 c.dic)[n]'(by rw[yf];exact hl)=⟨c.dic[n].toArray⟩:=by simp[j4]
  show((j4 c.dic)[n]'(by rw[yf];exact hl)).size≤4096
  rw[e]
  show c.dic[n].toArray.size≤4096
  simpa using this
theorem vals_at{c:Chk}(h:ChkOk c){k:Nat}(hk:c.there[k]? = some true):∃j,∃hj:j<(qd4 c).length,cnt (c.there.take k)=j∧(qaj c)[k]? = some ⟨false,(qd4 c)[j]⟩:=by
 obtain⟨j,h1,h2,h3⟩:=qfo c.there ((qd4 c).map (Vl.mk false)) ⟨true,⟨#[]⟩⟩ hk (by rw[qz,qh3 h];exact qc _)
 rw[qz] at h2
 refine⟨j,h2,h1,?_⟩
 rw[qaj,h3,qah,qe h2]
 rfl
theorem vals_not{c:Chk}{k:Nat}(hk:c.there[k]? = some false):(qaj c)[k]? = some ⟨true,⟨#[]⟩⟩:=qen _ _ _ hk
theorem vals_size{c:Chk}(h:ChkOk c):∀v∈qaj c,v.s.size≤4096:=by
 intro v hv
 obtain⟨k,hk,rfl⟩:=zl hv
 have hkt:k<c.there.length:=by rw[←qdb c];exact hk
 have hg:(qaj c)[k]? = some (qaj c)[k]:=qe hk
 have ht:c.there[k]? = some c.there[k]:=qe hkt
 cases hb:c.there[k] with
 | true =>
  obtain⟨j,hj,_,h2⟩:=vals_at h (by rw[ht,hb])
  rw[hg] at h2
  rw[zy h2]
  exact qix h _ (ql hj)
 | false =>
  have h2:=vals_not (c:=c) (by rw[ht,hb])
  rw[hg] at h2
  rw[zy h2]
  exact qj _
section
variable {w:World}{lo G:Nat}{c:Chk}
theorem qbh.lt(h:qbh w lo G c):G<w.heap.size:=by
 obtain⟨A0,c0,A2,n2,c2,A3,n3,c3,d,A5,n5,c5,h1, -⟩:=h
 exact h1.lt
theorem qbh.few(h:qbh w lo G c):c.there.length≤9223372036854775807:=by
 obtain⟨A0,c0,A2,n2,c2,A3,n3,c3,d,A5,n5,c5, -, -,h3, -⟩:=h
 have h1:=h3.len
 have h2:=h3.cap
 rw[qac] at h1
 unfold maxLen at h2
 omega
theorem len_v(h:qbh w lo G c) :
  Calls Tryz.prog 88 #[.pointer (some ⟨G,0,none⟩)] w fun r w'=>r= .returned (.int .i64 (c.there.length:Int))∧w=w':=by
 obtain⟨A0,c0,A2,n2,c2,A3,n3,c3,d,A5,n5,c5,h1, -⟩:=h
 have x1:=h1.cell 1
 simp only[zo,zf,zg] at x1
 clear h1
 go_enter Tryz.func88,Tryz.ntmps88
 go_wp2_with fail
 go_ret
 exact⟨rfl,rfl⟩
theorem has_out(h:qbh w lo G c)(z:Int)(hz:z<0∨(c.there.length:Int)≤z) :
  Calls Tryz.prog 134 #[.pointer (some ⟨G,0,none⟩),.int .i64 z] w fun r w'=>r= .returned (.bool false)∧w=w':=by
 have HL:=qa (len_v h)
 clear h
 go_enter Tryz.func134,Tryz.ntmps134
 by_cases h0:0≤z
 ·
  have h1:¬z<(c.there.length:Int):=by omega
  go_wp2_with fail
  refine HL.out.mono ?_
  rintro r w' ⟨rfl,rfl⟩
  go_wp2_with fail
  go_ret
  exact⟨rfl,rfl⟩
 ·
  go_wp2_with fail
  go_ret
  exact⟨rfl,rfl⟩
theorem has_in(h:qbh w lo G c){k:Nat}{b:Bool}(hk:c.there[k]? = some b) :
  Calls Tryz.prog 134 #[.pointer (some ⟨G,0,none⟩),.int .i64 (k:Int)] w fun r w'=>r= .returned (.bool b)∧w=w':=by
 have HL:=qa (len_v h)
 have hlt:k<c.there.length:=(zt.1 hk).1
 have hke:c.there[k]=b:=(zt.1 hk).2
 have ik:(k:Int)<(c.there.length:Int):=by omega
 have i0:(0:Int)≤(k:Int):=by omega
 have hfew:=h.few
 obtain⟨A0,c0,A2,n2,c2,A3,n3,c3,d,A5,n5,c5,h1,h2,h3, -⟩:=h
 obtain⟨b0,off,rfl,_,_,hcell⟩:=h3.row hlt
 rw[hke] at hcell
 have x1:=h1.cell 1
 simp only[zo,zf,zg] at x1
 clear h1 h3 hk hke
 generalize c.there.length=n at *
 go_enter Tryz.func134,Tryz.ntmps134
 go_wp2_with fail
 refine HL.out.mono ?_
 rintro r w' ⟨rfl,rfl⟩
 go_wp2_with fail
 go_ret
 exact⟨rfl,rfl⟩
end
theorem qfh{α:Type}(P:α→Prop):∀(t:List Bool) (l:List α) (d:α),P d→(∀x∈l,P x)→∀x∈yt t l d,P x
 | [],l,d,hd,hl,x,hx=>by cases l <;> cases hx
 | true :: t,[],d,hd,hl,x,hx=>by
  rw[yt] at hx
  rcases zv.1 hx with rfl | hx
  ·
   exact hd
  ·
   exact qfh P t [] d hd hl x hx
 | true :: t,a :: l,d,hd,hl,x,hx=>by
  rw[yt] at hx
  rcases zv.1 hx with rfl | hx
  ·
   exact hl _ zr
  ·
   exact qfh P t l d hd (fun y hy=>hl y (jb _ hy)) x hx
 | false :: t,l,d,hd,hl,x,hx=>by
  have h:x∈d :: yt t l d:=by cases l <;> simpa[yt] using hx
  rcases zv.1 h with rfl | hx
  ·
   exact hd
  ·
   exact qfh P t l d hd hl x hx
theorem vals_fits{c:Chk}(h:ChkOk c):uj (qaj c):=by
 refine⟨by rw[qdb];exact h.few,?_⟩
 refine qfh VlOk _ _ _ ⟨qj _,fun _=>rfl⟩ fun x hx => ?_
 obtain⟨s,hs,rfl⟩:=za.1 hx
 exact⟨qix h s hs,fun h=>by cases h⟩
theorem qha:∀(t:List Bool) (l:List ByteArray),l.length=cnt t→xi (yt t (l.map (Vl.mk false)) ⟨true,⟨#[]⟩⟩)=t∧qr (yt t (l.map (Vl.mk false)) ⟨true,⟨#[]⟩⟩)=l
 | [],l,h=>by
  obtain rfl:l=[]:=ze (by simpa[cnt] using h)
  exact⟨rfl,rfl⟩
 | true :: t,[],h=>by simp[cnt] at h
 | true :: t,a :: l,h=>by
  obtain⟨h1,h2⟩:=qha t l (by simpa[cnt] using h)
  rw[y8,yt]
  exact⟨by simp[xi] at h1 ⊢;exact h1,by simp[qr] at h2 ⊢;exact h2⟩
 | false :: t,l,h=>by
  obtain⟨h1,h2⟩:=qha t l (by simpa[cnt] using h)
  have e:yt (false :: t) (l.map (Vl.mk false)) ⟨true,⟨#[]⟩⟩=⟨true,⟨#[]⟩⟩ :: yt t (l.map (Vl.mk false)) ⟨true,⟨#[]⟩⟩:=by cases l <;> rfl
  rw[e]
  exact⟨by simp[xi] at h1 ⊢;exact h1,by simp[qr] at h2 ⊢;exact h2⟩
theorem vals_texts{c:Chk}(h:ChkOk c):qr (qaj c)=qd4 c:=(qha _ _ (qh3 h)).2
def cdiv:BitVec 32:=3988292384#32
def qfg(s:BitVec 32):BitVec 32:=(s >>> 1) ^^^ (if s.getLsbD 0 then cdiv else 0#32)
def qa1:Nat→BitVec 32→BitVec 32
 | 0,s=>s
 | n+1,s=>qfg (qa1 n s)
def qet(s:BitVec 32):BitVec 32:=qa1 8 s
def cbyte(x:UInt8):BitVec 32:=BitVec.ofNat 32 x.toNat
def qnd(s:BitVec 32)(x:UInt8):BitVec 32:=qet (s ^^^ cbyte x)
def qch(s:BitVec 32)(l:List UInt8):BitVec 32:=l.foldl qnd s
def qgi:BitVec 32:=4294967295#32
def qeh(l:List UInt8):BitVec 32:=qch qgi l ^^^ qgi
theorem cstep_xor(a b:BitVec 32):qfg (a ^^^ b)=qfg a ^^^ qfg b:=by
 unfold qfg
 rw[BitVec.ushiftRight_xor_distrib,BitVec.getLsbD_xor]
 have e:∀p q r t:BitVec 32,(p ^^^ q) ^^^ (r ^^^ t)=(p ^^^ r) ^^^ (q ^^^ t):=by
  intro p q r t
  simp only[BitVec.xor_assoc]
  congr 1
  rw[←BitVec.xor_assoc,BitVec.xor_comm q r,BitVec.xor_assoc]
 rcases a.getLsbD 0 <;> rcases b.getLsbD 0 <;> simp only[Bool.xor_false,Bool.xor_true,Bool.not_false,Bool.not_true,if_true,if_false,kr] <;> rw[e] <;> simp
theorem cstepN_xor(n:Nat)(a b:BitVec 32):qa1 n (a ^^^ b)=qa1 n a ^^^ qa1 n b:=by
 induction n with
 | zero=>rfl
 | succ n ih=>simp only[qa1,ih,cstep_xor]
theorem cstep8_xor(a b:BitVec 32):qet (a ^^^ b)=qet a ^^^ qet b:=cstepN_xor 8 a b
theorem lsb_nat(s:BitVec 32):s.getLsbD 0=decide (s.toNat%2=1):=by
 rw[←BitVec.testBit_toNat,Nat.testBit_zero]
theorem shr_nat(s:BitVec 32):(s >>> 1).toNat=s.toNat/2:=by
 rw[BitVec.toNat_ushiftRight,Nat.shiftRight_eq_div_pow]
theorem cstep_odd{s:BitVec 32}(h:s.toNat%2=1):(qfg s).toNat=(s.toNat/2) ^^^ 3988292384:=by
 unfold qfg
 rw[lsb_nat,qx h,if_pos rfl,BitVec.toNat_xor,shr_nat]
 rfl
theorem qkg{s:BitVec 32}(h:s.toNat%2=0):(qfg s).toNat=s.toNat/2:=by
 unfold qfg
 rw[lsb_nat,qw (by omega),if_neg (by simp),BitVec.xor_zero,shr_nat]
theorem cstepN_shift(n:Nat):∀(m:Nat) (s:BitVec 32),s.toNat=2 ^ n*m→(qa1 n s).toNat=m:=by
 induction n with
 | zero=>intro m s h;simpa[qa1] using h
 | succ n ih =>
  intro m s h
  have h1:=ih (2*m) s (by rw[h,kw,qc9])
  rw[qa1,qkg (by omega),h1]
  omega
theorem cstep8_shift{m:Nat}{s:BitVec 32}(h:s.toNat=256*m):(qet s).toNat=m:=cstepN_shift 8 m s h
theorem low_high(n:Nat):(n%256) ^^^ (256*(n/256))=n:=by
 apply Nat.eq_of_testBit_eq
 intro i
 have e1:n%256=n%2 ^ 8:=rfl
 have e2:256*(n/256)=(n >>> 8) <<< 8:=by rw[uw,Nat.shiftRight_eq_div_pow,yz]
 rw[e1,e2,Nat.testBit_xor,Nat.testBit_mod_two_pow,Nat.testBit_shiftLeft,Nat.testBit_shiftRight]
 by_cases h:i<8
 ·
  simp[h,Nat.not_le.2 h]
 ·
  have h':8≤i:=by omega
  simp[h,h',show 8+(i-8)=i from by omega]
theorem split32(s:BitVec 32):s=BitVec.ofNat 32 (s.toNat%256) ^^^ BitVec.ofNat 32 (256*(s.toNat/256)):=by
 apply BitVec.eq_of_toNat_eq
 have h:=s.isLt
 rw[BitVec.toNat_xor,qav,qav,xt (show s.toNat%256<2 ^ 32 from by omega),xt (show 256*(s.toNat/256)<2 ^ 32 from by omega),low_high]
theorem ofNat_xor(a b:Nat):BitVec.ofNat 32 (a ^^^ b)=BitVec.ofNat 32 a ^^^ BitVec.ofNat 32 b:=by
 apply BitVec.eq_of_toNat_eq
 simp only[BitVec.toNat_xor,qav,Nat.xor_mod_two_pow]
theorem cupd_table(s:BitVec 32)(x:UInt8):qnd s x=qet (BitVec.ofNat 32 ((s.toNat%256) ^^^ x.toNat)) ^^^ (s >>> 8):=by
 have hs:=s.isLt
 have h1:s ^^^ cbyte x=BitVec.ofNat 32 ((s.toNat%256) ^^^ x.toNat) ^^^ BitVec.ofNat 32 (256*(s.toNat/256)):=by
  conv=>lhs;rw[split32 s]
  rw[ofNat_xor]
  unfold cbyte
  simp only[BitVec.xor_assoc]
  congr 1
  rw[BitVec.xor_comm]
 unfold qnd
 rw[h1,cstep8_xor]
 congr 1
 apply BitVec.eq_of_toNat_eq
 rw[cstep8_shift (m:=s.toNat/256) (by rw[qav,xt];omega),BitVec.toNat_ushiftRight,Nat.shiftRight_eq_div_pow]
theorem cstep_zero{c:BitVec 32}(h:qfg c=0#32):c=0#32:=by
 apply BitVec.eq_of_toNat_eq
 by_cases h1:c.toNat%2=1
 ·
  have h2:=cstep_odd h1
  rw[h] at h2
  have h3:(0#32:BitVec 32).toNat=0:=rfl
  rw[h3] at h2
  have h4:c.toNat/2=3988292384:=by
   have:=congrArg (· ^^^ 3988292384) h2
   simp only[Nat.zero_xor,Nat.xor_assoc,Nat.xor_self,Nat.xor_zero] at this
   exact this.symm
  have:=c.isLt
  omega
 ·
  have h2:=qkg (s:=c) (by omega)
  rw[h] at h2
  have h3:(0#32:BitVec 32).toNat=0:=rfl
  rw[h3] at h2 ⊢
  omega
theorem xor_zero_eq{a b:BitVec 32}(h:a ^^^ b=0#32):a=b:=by
 have:=congrArg (· ^^^ b) h
 simpa[BitVec.xor_assoc] using this
theorem cstep_inj{a b:BitVec 32}(h:qfg a=qfg b):a=b :=
 xor_zero_eq (cstep_zero (by rw[cstep_xor,h,BitVec.xor_self]))
theorem cstepN_inj(n:Nat){a b:BitVec 32}(h:qa1 n a=qa1 n b):a=b:=by
 induction n with
 | zero=>exact h
 | succ n ih=>exact ih (cstep_inj h)
theorem qgl{a b c:BitVec 32}(h:a ^^^ c=b ^^^ c):a=b:=by
 have:=congrArg (· ^^^ c) h
 simpa[BitVec.xor_assoc] using this
theorem xor_left_inj{a b c:BitVec 32}(h:c ^^^ a=c ^^^ b):a=b:=by
 rw[BitVec.xor_comm c a,BitVec.xor_comm c b] at h
 exact qgl h
theorem cbyte_inj{x y:UInt8}(h:cbyte x=cbyte y):x=y:=by
 have h1:=congrArg BitVec.toNat h
 unfold cbyte at h1
 rw[qav,qav] at h1
 have hx:=je x
 have hy:=je y
 apply UInt8.toNat_inj.1
 omega
theorem cupd_inj_s{a b:BitVec 32}{x:UInt8}(h:qnd a x=qnd b x):a=b:=qgl (cstepN_inj 8 h)
theorem cupd_inj_x{s:BitVec 32}{x y:UInt8}(h:qnd s x=qnd s y):x=y:=cbyte_inj (xor_left_inj (cstepN_inj 8 h))
theorem cfold_inj(l:List UInt8):∀ {a b:BitVec 32},qch a l=qch b l→a=b:=by
 induction l with
 | nil=>intro a b h;exact h
 | cons x l ih=>intro a b h;exact cupd_inj_s (ih (a:=qnd a x) (b:=qnd b x) h)
theorem qfi(s:BitVec 32)(a b:List UInt8):qch s (a++b)=qch (qch s a) b:=by
 unfold qch
 rw[List.foldl_append]
theorem qkh(s:BitVec 32)(a:List UInt8)(x:UInt8):qch s (a++[x])=qnd (qch s a) x:=by
 rw[qfi];rfl
theorem crcL_inj_at(a b:List UInt8)(x y:UInt8):qeh (a++[x]++b)=qeh (a++[y]++b)↔x=y:=by
 refine⟨fun h => ?_,fun h=>by rw[h]⟩
 have h1:=qgl h
 rw[qfi,qfi _ (a++[y]),qkh,qkh] at h1
 exact cupd_inj_x (cfold_inj b h1)
def qf9(s:BitVec 32):List UInt8:=[UInt8.ofNat (s.toNat%256),UInt8.ofNat (s.toNat/256%256),UInt8.ofNat (s.toNat/65536%256),UInt8.ofNat (s.toNat/16777216)]
theorem qc3(s:BitVec 32):(qf9 s).length=4:=rfl
theorem qb2{n:Nat}(h:n<256):(UInt8.ofNat n).toNat=n:=by rw[yj];omega
theorem crcB_inj{a b:BitVec 32}(h:qf9 a=qf9 b):a=b:=by
 have ha:=a.isLt
 have hb:=b.isLt
 unfold qf9 at h
 injection h with h1 h
 injection h with h2 h
 injection h with h3 h
 injection h with h4 h
 have e1:=congrArg UInt8.toNat h1
 have e2:=congrArg UInt8.toNat h2
 have e3:=congrArg UInt8.toNat h3
 have e4:=congrArg UInt8.toNat h4
 rw[qb2 (by omega),qb2 (by omega)] at e1
 rw[qb2 (by omega),qb2 (by omega)] at e2
 rw[qb2 (by omega),qb2 (by omega)] at e3
 rw[qb2 (by omega),qb2 (by omega)] at e4
 apply BitVec.eq_of_toNat_eq
 omega
def vn(l:List UInt8):List UInt8:=l++qf9 (qeh l)
theorem ut(l:List UInt8):(vn l).length=l.length+4:=by simp[vn,qc3]
theorem qfv(l:List UInt8):(vn l).take l.length=l:=by simp[vn]
theorem qjt(l:List UInt8):(vn l).drop l.length=qf9 (qeh l):=by simp[vn]
def kj(l:List UInt8):Bool:=decide (4≤l.length)&&decide (l.drop (l.length-4)=qf9 (qeh (l.take (l.length-4))))
theorem qhb(l:List UInt8):kj (vn l)=true:=by
 have h:=ut l
 simp only[kj,h,Nat.add_sub_cancel,qfv,qjt]
 simp
theorem sealedB_iff{l:List UInt8}(h:4≤l.length):kj l=decide (vn (l.take (l.length-4))=l):=by
 unfold kj
 rw[qx h,qda,decide_eq_decide]
 have e:l=l.take (l.length-4)++l.drop (l.length-4):=(zw _ _).symm
 constructor
 ·
  intro h1
  unfold vn
  rw[←h1]
  exact e.symm
 ·
  intro h1
  have h2:vn (l.take (l.length-4))=l.take (l.length-4)++l.drop (l.length-4):=h1.trans e
  exact(xp h2).symm
theorem set_parts{l:List UInt8}{k:Nat}(h:k<l.length)(y:UInt8):l.set k y=l.take k++[y]++l.drop (k+1):=by
 rw[List.set_eq_take_append_cons_drop,if_pos h]
 simp
theorem get_parts{l:List UInt8}{k:Nat}(h:k<l.length):l=l.take k++[l[k]]++l.drop (k+1):=by
 have:=set_parts h l[k]
 rwa [List.set_getElem_self] at this
theorem crcL_set{l:List UInt8}{k:Nat}(h:k<l.length)(y:UInt8):qeh (l.set k y)=qeh l↔y=l[k]:=by
 rw[set_parts h]
 conv=>lhs;rhs;rw[get_parts h]
 exact crcL_inj_at _ _ _ _
theorem sealedB_set{l:List UInt8}{k:Nat}(h:k<(vn l).length)(y:UInt8):kj ((vn l).set k y)=decide (y=(vn l)[k]):=by
 have hl:=ut l
 have h4:4≤((vn l).set k y).length:=by rw[xv];omega
 unfold kj
 rw[qx h4,qda,decide_eq_decide,xv,hl,Nat.add_sub_cancel]
 rcases Nat.lt_or_ge k l.length with hk | hk
 ·
  have e1:((vn l).set k y).drop l.length=qf9 (qeh l):=by
   rw[List.drop_set,if_pos hk,qjt]
  have e2:((vn l).set k y).take l.length=l.set k y:=by rw[List.take_set,qfv]
  have e3:(vn l)[k]=l[k]:=by simp[vn,j6 hk]
  rw[e1,e2,e3]
  constructor
  ·
   intro q
   exact(crcL_set hk y).1 (crcB_inj q).symm
  ·
   intro q
   rw[(crcL_set hk y).2 q]
 ·
  have e1:((vn l).set k y).drop l.length=(qf9 (qeh l)).set (k-l.length) y:=by
   rw[List.drop_set,if_neg (by omega),qjt]
  have e2:((vn l).set k y).take l.length=l:=by
   rw[List.take_set,qfv,List.set_eq_of_length_le hk]
  have hk4:k-l.length<(qf9 (qeh l)).length:=by rw[qc3];omega
  have e3:(vn l)[k]=(qf9 (qeh l))[k-l.length]:=by simp[vn,xh hk]
  rw[e1,e2,e3]
  constructor
  ·
   intro q
   have:=congrArg (fun z=>z[k-l.length]?) q
   simp only[qbw hk4,qe hk4] at this
   exact zy this
  ·
   intro q
   rw[q,List.set_getElem_self]
theorem qmx(n:Nat)(s:BitVec 32):qfg (qa1 n s)=qa1 (n+1) s:=rfl
def bn(s:BitVec 32):Int:=(s.toNat:Int)
theorem bn_bd(s:BitVec 32):0≤bn s∧bn s≤4294967295:=by
 have:=s.isLt
 unfold bn
 omega
theorem crcB_nums(s:BitVec 32):(qf9 s).map (fun c=>(c.toNat:Int))=[bn s%256,bn s/256%256,bn s/65536%256,bn s/16777216]:=by
 have:=s.isLt
 unfold qf9 bn
 simp only[y8,qbu]
 rw[qb2 (by omega),qb2 (by omega),qb2 (by omega),qb2 (by omega)]
 congr 1
theorem bn_even{s:BitVec 32}(h:bn s%2=0):bn s/2=bn (qfg s):=by
 unfold bn at *
 rw[qkg (by omega)]
 omega
end Go.Proofs.YtjfecojdagmacaaGreat
