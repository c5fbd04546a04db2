/-
  Lemmas.
-/
import Derived.Test.YtjfecojdagmacaaGreatD02
import Derived.Test.YtjfecojdagmacaaGreatD26
namespace Go.Proofs.YtjfecojdagmacaaGreat
open Go.RowKit
set_option maxRecDepth 20000
set_option maxHeartbeats 16000000
set_option linter.unusedSimpArgs false
set_option linter.unusedVariables false
theorem ux(n:Nat):∀ {w:World},n≤9223372036854775807→
  Calls Tryz.prog 41 #[.int .i64 (n:Int)] w fun r w'=>∃A c,r= .returned (.slice A (ji n).length c)∧w'.ownsRow w.heap.size 5 1 (.slice A (ji n).length c) (ji n).length (bv (ji n))∧Below w.heap.size w w':=by
 induction n using Nat.strongRecOn with
 | ind n ih =>
  intro w hn
  have h9:=ve n hn
  have HI:=qa ih
  clear ih
  by_cases hlt:n<128
  ·
   have HE:=qa (qap hlt)
   have HA:Hid ((UInt8.ofNat n).toNat=n):=by
    unfold Hid
    rw[jq];omega
   go_enter Tryz.func41,Tryz.ntmps41
   go_wp2
   go_ret
   rw[HE.out]
   have hv:bv [UInt8.ofNat n]=[.int .u8 (n:Int)]:=by simp only[bv,yc,vu,HA.out]
   refine⟨_,_,rfl,?_,(Below.refl _ _).alloc (qc _) _⟩
   rw[hv]
   exact kf w #[_] 1 (qc _) (by simp[maxLen]) rfl
  ·
   have HE:=qa (qgb (n:=n) (by omega))
   have h10:=ve (n/128) (by omega)
   have HA:Hid ((UInt8.ofNat (n%128+128)).toNat=n%128+128):=by
    unfold Hid
    rw[jq];omega
   go_enter Tryz.func41,Tryz.ntmps41
   go_wp2_with fail
   rw[show((n:Int)/128)=((n/128:Nat):Int) from by omega]
   refine(HI.out (n/128) (by omega) (by omega)).mono ?_
   rintro r w1 ⟨A,c,rfl,hown,hbel⟩
   have hsz:=hbel.size
   simp only[yi] at hsz
   have hlit:=jp (own_byte w 5 _ (UInt8.ofNat (n%128+128)) (by rw[HA.out];omega)) hbel (by simp)
   obtain⟨A',c',w2,hrun,hown2,hg2⟩:=qe9 w1 w.heap.size _ _ _ hlit (Rd.own hown) (by simp;omega) (by omega)
   have HO2:=qa hown2
   have HG2:=qa hg2
   have HB:=qa hbel
   clear hown hown2 hg2 hbel hlit
   go_wp2_with (at_builtin;refine wpList_append_run rfl _ _ _ _ rfl rfl rfl hrun ?_)
   go_ret
   have e:(ji n).length=1+(ji (n/128)).length:=by rw[HE.out];simp;omega
   refine⟨A',c',by rw[e];rfl,?_,?_⟩
   ·
    rw[e,HE.out];exact HO2.out
   ·
    exact(((Below.refl _ _).alloc (qc _) _).trans (HB.out.mono (by simp))).grown HG2.out (by omega) (by simp[Value.ownBlock])
theorem qag{zs:List Int}(h:qok zs)(hlen:zs.length≤4294967295):(js zs).length≤4294967295*5:=by
 have h1:=ve zs.length (by omega)
 have h2:=h.wide_le
 have h3:zs.length*wide zs≤4294967295*32:=ki hlen h2
 simp only[js,qd,qw,j4,qc4,uh]
 omega
theorem pput_may{w:World}(zs:List Int)(hm:qok zs){h':Nat}{A:Option Addr}{c:Nat}(h:Rd w 0 h' A c (iv zs))(hh:h'≤w.heap.size)(hlen:zs.length≤4294967295) :
  Calls Tryz.prog 115 #[.slice A zs.length c,.int .i64 (wide zs:Int)] w fun r w'=>∃A' c',r= .returned (.tuple #[.slice A' (qa5 (wide zs) (qbn zs)).length c',.int .i64 0])∧
   w'.ownsRow w.heap.size 5 1 (.slice A' (qa5 (wide zs) (qbn zs)).length c') (qa5 (wide zs) (qbn zs)).length (bv (qa5 (wide zs) (qbn zs)))∧Below w.heap.size w w':=by
 have:=rput_any (w:=w) zs (wide zs) h hh hlen
 rw[putR_yes hm.fits,vr] at this
 exact this
theorem qh4{w:World}(zs:List Int)(hm:qok zs){h':Nat}{A:Option Addr}{c:Nat}(h:Rd w 0 h' A c (iv zs))(hh:h'≤w.heap.size)(hlen:zs.length≤4294967295) :
  Calls Tryz.prog 82 #[.slice A zs.length c] w fun r w'=>∃A' c',r= .returned (.slice A' (js zs).length c')∧
   w'.ownsRow w.heap.size 5 1 (.slice A' (js zs).length c') (js zs).length (bv (js zs))∧Below w.heap.size w w':=by
 have h1:=ve zs.length (by omega)
 have h2:=hm.wide_le
 have h3:zs.length*wide zs≤4294967295*32:=ki hlen h2
 have h4:(qa5 (wide zs) (qbn zs)).length≤4294967295*4+1:=by rw[qc4,uh];omega
 have h5:(qa5 (wide zs) (qbn zs)).length≤140737488355328:=by omega
 have HE:Hid (ji zs.length++([UInt8.ofNat (wide zs)]++qa5 (wide zs) (qbn zs))=js zs):=rfl
 have HB:=qa (qia (n:=wide zs) (by omega))
 have HWD:=fun(w1:World) (h:Rd w1 0 h' A c (iv zs))=>qa (rwidth_any (w:=w1) (A:=A) (c:=c) zs hm h)
 have HPT:=fun(w1:World) (h:Rd w1 0 h' A c (iv zs)) (hh:h'≤w1.heap.size)=>qa (pput_may (w:=w1) (A:=A) (c:=c) (h':=h') zs hm h hh hlen)
 have H:=qa h
 clear h hm
 generalize qa5 (wide zs) (qbn zs)=pk at *
 generalize wide zs=wd at *
 go_enter Tryz.func82,Tryz.ntmps82
 go_wp2_with fail
 refine(HWD _ H.out).out.mono ?_
 rintro r w' ⟨rfl,n0,rfl⟩
 go_wp2_with fail
 refine(HPT _ (H.out.drewN n0) hh).out.mono ?_
 rintro r w1 ⟨A1,c1,rfl,hown1,hb1⟩
 have hb1':Below w.heap.size w w1:=zo (zj (Below.refl w.heap.size w) n0) hb1 (qc _)
 have HO1:=qa hown1
 have HB1:=qa hb1'
 have s1:=hb1'.size
 clear hown1 hb1 hb1'
 go_wp2_with fail
 refine(ux zs.length (by omega)).mono ?_
 rintro r w2 ⟨A2,c2,rfl,hown2,hb2⟩
 have HO2:=qa hown2
 have HB2:=qa (zo HB1.out hb2 s1)
 have hb2':=hb2
 have s2:=hb2.size
 clear hown2 hb2
 generalize ji zs.length=pl at *
 go_wp2_with fail
 refine(HWD _ (H.out.below HB2.out hh)).out.mono ?_
 rintro r w' ⟨rfl,n1,rfl⟩
 have HO2':Hid ((w2.drewN n1).ownsRow w1.heap.size 5 1 (.slice A2 pl.length c2) pl.length (bv pl)):=HO2.out
 have hb2n:Below w1.heap.size w1 (w2.drewN n1):=zj hb2' n1
 have HB2n:=qa (zj HB2.out n1)
 have s2n:w1.heap.size≤(w2.drewN n1).heap.size:=s2
 generalize w2.drewN n1=w3 at *
 go_wp2_with (at_builtin;refine qa3 (v:= .slice A2 pl.length c2) w1.heap.size pl (UInt8.ofNat wd) rfl _ _ rfl rfl rfl rfl (by rw[HB.out,zg _ _ _ _ rfl];first | rfl | (simp;omega)) (HO2'.out.alloc _) (by omega) (by simp;omega) ?_;intro A4 c4 w4 hown4 hgr4;refine qam ?_)
 refine⟨?_⟩
 have HR4:=qa ((((Rd.own HO1.out).below hb2n (qc _)).alloc s2n (.cells #[.int .u8 (wd:Int)] 5)).grown hgr4 (by simp;omega) (fun k hk=> .inr (qec HO2'.out k hk)))
 have k4:=(HB2n.out.alloc (zb s1 s2n) _).grown hgr4 (by simp;omega) (fun k hk=>zb s1 (qec HO2'.out k hk))
 have HB4:=qa k4
 obtain⟨A5,c5,w5,hrun5,hown5,hg5⟩:=j9 w4 w.heap.size _ (pl++[UInt8.ofNat wd]) pk (js zs) (by rw[qp];exact HE.out) (jm hown4 s1) HR4.out (by simp;omega) k4.size
 rw[show(pl++[UInt8.ofNat wd]).length=pl.length+1 from by simp] at hrun5 hown4 hg5
 have HO5:=qa hown5
 have HG5:=qa hg5
 have HO4:=qa hown4
 clear hown4 hgr4 hown5 hg5 k4 hb2' hb2n
 go_wp2_with (at_builtin;refine wpList_append_run rfl _ _ _ _ rfl rfl rfl hrun5 ?_)
 go_ret
 exact⟨A5,c5,rfl,HO5.out,HB4.out.grown HG5.out HB4.out.size (fun k hk=>zb s1 (qec HO4.out k hk))⟩
theorem bsum_succ(l:List Bool)(k:Nat)(h:k<l.length):qjm l (k+1)=qjm l k+2 ^ k*(l[k]).toNat:=by
 unfold qjm
 rw[qj h]
 unfold qkf
 rw[jl,List.map_singleton,qlp,q8,qz,vj (Nat.le_of_lt h),qb4]
theorem bsum_no(l:List Bool)(k:Nat)(h:k<l.length)(hb:l[k]=false):qjm l (k+1)=qjm l k:=by rw[bsum_succ l k h,hb];rfl
theorem bsum_yes(l:List Bool)(k:Nat)(h:k<l.length)(hb:l[k]=true):qjm l (k+1)=qjm l k+2 ^ k:=by rw[bsum_succ l k h,hb];simp
theorem qfg(l:List Bool)(h:l.length≤9223372036854775807):(xi l).length≤9+(l.length+7)/8:=by
 have:=ve l.length h
 unfold xi
 rw[qd,qe6]
 omega
theorem packB_bits{l:List Bool}{ys:List UInt8}(h:qi6 l.length (qjm l l.length) ys):ys=qdk l:=h.2
theorem rbput_any{w:World}(l:List Bool){h':Nat}{A:Option Addr}{c:Nat}(h:Rd w 0 h' A c (lv l))(hh:h'≤w.heap.size)(hlen:l.length≤140737488355328) :
  Calls Tryz.prog 114 #[.slice A l.length c] w fun r w'=>∃A' c',r= .returned (.slice A' (qdk l).length c')∧
   w'.ownsRow w.heap.size 5 1 (.slice A' (qdk l).length c') (qdk l).length (bv (qdk l))∧Below w.heap.size w w':=by
 have hl:=h.len
 have hc:=h.cap
 rw[qau] at hl
 unfold maxLen at hc
 have H:=qa h
 clear h
 go_enter Tryz.func114,Tryz.ntmps114
 go_wp2_with fail
 go_loopw [3,4] (fun b i wr=>∃(n:Nat) (ys:List UInt8) (A':Option Addr) (c':Nat),n≤l.length∧i= .int .i64 (n:Int)∧b= .slice A' ys.length c'∧
   qi6 n (qjm l n) ys∧wr.ownsRow w.heap.size 5 1 (.slice A' ys.length c') ys.length (bv ys)∧Below w.heap.size w wr) (fun _ i _=>l.length-(intOf i).toNat)
 case atStart=>exact⟨0,[],none,0,qi _,rfl,rfl,qp9,zf ..,Below.refl _ _⟩
 case round =>
  obtain⟨n,ys1,A1,c1,hn,rfl,rfl,hin,hown1,hbel1⟩:=hrel
  have HIN:=qa hin
  have HO1:=qa hown1
  have HB1:=qa hbel1
  have hsz1:=hbel1.size
  have hyl:=qej (bitsAt_len hin)
  clear hin hown1 hbel1
  by_cases hlt:n<l.length
  ·
   obtain⟨b,off,rfl,_,hbh0,hcw⟩:=H.out.row hlt
   have hbh:b<w.heap.size:=zn hbh0 hh
   have HCW:=qa hcw
   have HNO:=qa (bsum_no l n hlt)
   have HYES:=qa (bsum_yes l n hlt)
   clear hcw
   generalize l[n]=x at *
   by_cases h8:n%8=0
   ·
    have HOP:=qa (qpv HIN.out h8)
    have hL:(ys1++[0]).length=ys1.length+1:=by simp
    go_wp2_with (at_builtin;refine qa3 (v:= .slice A1 ys1.length c1) w.heap.size ys1 0 rfl _ _ rfl rfl rfl rfl (by rw[zg _ _ _ _ rfl];rfl) (HO1.out.alloc _) (by omega) (by simp;omega) ?_;intro A2 c2 w2 hown2 hgr2;refine qam ?_)
    refine⟨?_⟩
    have HB2:=qa ((HB1.out.alloc hsz1 _).grown hgr2 (by simp;omega) (fun k hk=>qec HO1.out k hk))
    rw[hL] at hown2
    have HO2:=qa hown2
    have HL:=qa hL
    clear hown2 hgr2 hL
    generalize ys1++[0]=ys2 at *
    generalize hLe:ys1.length+1=L at *
    have hLn:L=n/8+1:=by rw[←HL.out];exact qj1 HOP.out
    have hL1:L≤n/8+1:=by omega
    have hL2:n/8<L:=by omega
    have HN8:=qa h8
    clear hLe hLn h8
    obtain⟨g,rfl,hg1,hg2⟩:=qcg HO2.out (by omega)
    have hcell2:w2.cell? ⟨b,off+n,none⟩=some (.bool x):=(HB2.out.cell (p:=⟨b,off+n,none⟩) hbh).trans HCW.out
    cases x
    ·
     have HNX:=HNO.out rfl
     clear HNO HYES
     go_wp2
     go_roundw
     case rel =>
      refine⟨n+1,ys2,some ⟨g,0,none⟩,c2,by omega,by go_num,?_,?_,?_,HB2.out⟩
      ·
       rw[HL.out]
      ·
       rw[HNX];exact qiu HOP.out
      ·
       rw[HL.out];exact HO2.out
     case measure=>simp[intOf];omega
    ·
     have HNX:=HYES.out rfl
     clear HNO HYES
     have HNXH:=qa HNX
     clear HNX
     go_wp2_with fail
     have hy0:n/8<ys2.length:=by rw[HL.out];exact hL2
     obtain⟨y0,hy0e⟩:∃y0,ys2[n/8]? = some y0:=⟨_,qe hy0⟩
     have hload:w2.drew.cell? ⟨g,n/8,none⟩=some (.int .u8 (y0.toNat:Int)):=by
      have h1:=HO2.out.cellAt (n/8) (by omega)
      have h2:(bv ys2)[n/8]? = some (.int .u8 (y0.toNat:Int)):=by simp[bv,hy0e]
      exact h1.trans h2
     have hfr:w2.drew.frozen? ⟨g,n/8,none⟩=false:=HO2.out.frozenAt (n/8)
     have HO3:Hid (w2.drew.ownsRow w.heap.size 5 1 (.slice (some ⟨g,0,none⟩) L c2) L (bv ys2)):=HO2.out
     have HB3:Hid (Below w.heap.size w w2.drew):=zj HB2.out 1
     have HP3:=qa (qf2 (w:=w2.drew) (n%8) (by omega))
     have hn8:(n:Int)/8=((n/8:Nat):Int):=by omega
     have hn8':(n:Int)%8=((n%8:Nat):Int):=by omega
     have hn8t:(n:Int).tmod 8=((n%8:Nat):Int):=by rw[qaq (by omega)];omega
     have HW:=qa (qig HOP.out y0 hy0e)
     have hyb:=HW.out.1
     have hy256:=jj y0
     generalize 2 ^ (n%8)=pr at *
     refine wp_region_still_tail 13 (by kernel_rfl) (by kernel_rfl) ?_
     change wpStill _ _ w2.drew (fun a'=>wpList _ _ _ _ a' w2.drew) _ _
     generalize w2.drew=w4 at *
     generalize hq8:n/8=q at *
     generalize hr8:n%8=r at *
     clear hq8 hr8
     simp only[j8,y9,qdh,jy]
     have hqw:IntKind.i64.wrap (q:Int)=(q:Int):=jf _ (by omega)
     have hrw:IntKind.i64.wrap (r:Int)=(r:Int):=jf _ (by omega)
     have hpw:IntKind.u8.wrap (pr:Int)=(pr:Int):=by rw[IntKind.wrap_u8];omega
     have hsum:IntKind.u8.wrap ((y0.toNat:Int)+(pr:Int))=((y0.toNat+pr:Nat):Int):=by rw[IntKind.wrap_u8];omega
     repeat still_step
     refine wpStill_step (fun K hK => ?_)
     go_simp
     refine⟨_,HP3.out.mono fun _ _ ⟨a,b⟩=>⟨a,b.symm⟩,hK _ ?_⟩
     clear hK K
     repeat still_step
     refine wpStill_nil ?_
     go_wp2
     go_roundw
     case rel =>
      have hst:=HO3.out.stored q (.int .u8 ((y0.toNat:Int)+(pr:Int)))
      have hbn:(UInt8.ofNat (y0.toNat+pr)).toNat=y0.toNat+pr:=by rw[jq];omega
      have hbs:bv (ys2.set q (UInt8.ofNat (y0.toNat+pr)))=(bv ys2).set q (.int .u8 ((y0.toNat:Int)+(pr:Int))):=by
       rw[bv_set,hbn]
       congr 2
      have hls:(ys2.set q (UInt8.ofNat (y0.toNat+pr))).length=L:=by rw[jn,HL.out]
      refine⟨n+1,ys2.set q (UInt8.ofNat (y0.toNat+pr)),some ⟨g,0,none⟩,c2,by omega,by go_num,?_,?_,?_,HB3.out.setCell (by simpa using hg1) _⟩
      ·
       rw[hls]
      ·
       rw[HNXH.out];exact HW.out.2
      ·
       rw[hls,hbs];exact hst.1
     case measure=>simp[intOf] <;> omega
   ·
    have HOP:=qa (qpu HIN.out h8)
    have HB2:=qa HB1.out
    have hL:=qj1 HOP.out
    generalize hLe:ys1.length=L at *
    have HL:=qa hLe
    have hL1:L≤n/8+1:=by omega
    have hL2:n/8<L:=by omega
    have HO2:=qa HO1.out
    have HN8:=qa h8
    have hn80:((n:Int)%8==0)=false:=by rw[q9];omega
    clear hLe hL h8 HO1
    obtain⟨g,rfl,hg1,hg2⟩:=qcg HO2.out (by omega)
    have hcell2:wr.cell? ⟨b,off+n,none⟩=some (.bool x):=(HB2.out.cell (p:=⟨b,off+n,none⟩) hbh).trans HCW.out
    cases x
    ·
     have HNX:=HNO.out rfl
     clear HNO HYES
     go_wp2
     go_roundw
     case rel =>
      refine⟨n+1,ys1,some ⟨g,0,none⟩,c1,by omega,by go_num,?_,?_,?_,HB2.out⟩
      ·
       rw[HL.out]
      ·
       rw[HNX];exact qiu HOP.out
      ·
       rw[HL.out];exact HO2.out
     case measure=>simp[intOf];omega
    ·
     have HNX:=HYES.out rfl
     clear HNO HYES
     have HNXH:=qa HNX
     clear HNX
     go_wp2_with fail
     have hy0:n/8<ys1.length:=by rw[HL.out];exact hL2
     obtain⟨y0,hy0e⟩:∃y0,ys1[n/8]? = some y0:=⟨_,qe hy0⟩
     have hload:wr.drew.cell? ⟨g,n/8,none⟩=some (.int .u8 (y0.toNat:Int)):=by
      have h1:=HO2.out.cellAt (n/8) (by omega)
      have h2:(bv ys1)[n/8]? = some (.int .u8 (y0.toNat:Int)):=by simp[bv,hy0e]
      exact h1.trans h2
     have hfr:wr.drew.frozen? ⟨g,n/8,none⟩=false:=HO2.out.frozenAt (n/8)
     have HO3:Hid (wr.drew.ownsRow w.heap.size 5 1 (.slice (some ⟨g,0,none⟩) L c1) L (bv ys1)):=HO2.out
     have HB3:Hid (Below w.heap.size w wr.drew):=zj HB2.out 1
     have HP3:=qa (qf2 (w:=wr.drew) (n%8) (by omega))
     have hn8:(n:Int)/8=((n/8:Nat):Int):=by omega
     have hn8':(n:Int)%8=((n%8:Nat):Int):=by omega
     have hn8t:(n:Int).tmod 8=((n%8:Nat):Int):=by rw[qaq (by omega)];omega
     have HW:=qa (qig HOP.out y0 hy0e)
     have hyb:=HW.out.1
     have hy256:=jj y0
     generalize 2 ^ (n%8)=pr at *
     refine wp_region_still_tail 13 (by kernel_rfl) (by kernel_rfl) ?_
     change wpStill _ _ wr.drew (fun a'=>wpList _ _ _ _ a' wr.drew) _ _
     generalize wr.drew=w4 at *
     generalize hq8:n/8=q at *
     generalize hr8:n%8=r at *
     clear hq8 hr8
     simp only[j8,y9,qdh,jy]
     have hqw:IntKind.i64.wrap (q:Int)=(q:Int):=jf _ (by omega)
     have hrw:IntKind.i64.wrap (r:Int)=(r:Int):=jf _ (by omega)
     have hpw:IntKind.u8.wrap (pr:Int)=(pr:Int):=by rw[IntKind.wrap_u8];omega
     have hsum:IntKind.u8.wrap ((y0.toNat:Int)+(pr:Int))=((y0.toNat+pr:Nat):Int):=by rw[IntKind.wrap_u8];omega
     repeat still_step
     refine wpStill_step (fun K hK => ?_)
     go_simp
     refine⟨_,HP3.out.mono fun _ _ ⟨a,b⟩=>⟨a,b.symm⟩,hK _ ?_⟩
     clear hK K
     repeat still_step
     refine wpStill_nil ?_
     go_wp2
     go_roundw
     case rel =>
      have hst:=HO3.out.stored q (.int .u8 ((y0.toNat:Int)+(pr:Int)))
      have hbn:(UInt8.ofNat (y0.toNat+pr)).toNat=y0.toNat+pr:=by rw[jq];omega
      have hbs:bv (ys1.set q (UInt8.ofNat (y0.toNat+pr)))=(bv ys1).set q (.int .u8 ((y0.toNat:Int)+(pr:Int))):=by
       rw[bv_set,hbn]
       congr 2
      have hls:(ys1.set q (UInt8.ofNat (y0.toNat+pr))).length=L:=by rw[jn,HL.out]
      refine⟨n+1,ys1.set q (UInt8.ofNat (y0.toNat+pr)),some ⟨g,0,none⟩,c1,by omega,by go_num,?_,?_,?_,HB3.out.setCell (by simpa using hg1) _⟩
      ·
       rw[hls]
      ·
       rw[HNXH.out];exact HW.out.2
      ·
       rw[hls,hbs];exact hst.1
     case measure=>simp[intOf] <;> omega
  ·
   obtain rfl:n=l.length:=by omega
   have HE:=qa (packB_bits HIN.out)
   go_wp2
   go_ret
   rw[←HE.out]
   exact⟨A1,c1,rfl,HO1.out,HB1.out⟩
theorem qpm{w:World}(l:List Bool){h':Nat}{A:Option Addr}{c:Nat}(h:Rd w 0 h' A c (lv l))(hh:h'≤w.heap.size)(hlen:l.length≤140737488355328) :
  Calls Tryz.prog 81 #[.slice A l.length c] w fun r w'=>∃A' c',r= .returned (.slice A' (xi l).length c')∧
   w'.ownsRow w.heap.size 5 1 (.slice A' (xi l).length c') (xi l).length (bv (xi l))∧Below w.heap.size w w':=by
 have HE:Hid (ji l.length++qdk l=xi l):=rfl
 have h9:=ve l.length (by omega)
 have hpl:(qdk l).length≤140737488355328/8+1:=by rw[qe6];omega
 have HP:=fun(w1:World) (h:Rd w1 0 h' A c (lv l)) (hh:h'≤w1.heap.size)=>qa (rbput_any (w:=w1) (A:=A) (c:=c) l h hh hlen)
 have H:=qa h
 have hl:=h.len
 have hc:=h.cap
 rw[qau] at hl
 unfold maxLen at hc
 clear h
 generalize qdk l=pk at *
 go_enter Tryz.func81,Tryz.ntmps81
 go_wp2_with fail
 refine(ux l.length (by omega)).mono ?_
 rintro r w1 ⟨A1,c1,rfl,ho1,hb1⟩
 have HO1:=qa ho1
 have HB1:=qa hb1
 have s1:=hb1.size
 clear ho1 hb1
 generalize ji l.length=pl at *
 go_wp2_with fail
 refine(HP w1 (H.out.below HB1.out hh) (by omega)).out.mono ?_
 rintro r w2 ⟨A2,c2,rfl,ho2,hb2⟩
 have HO2:=qa ho2
 have HB2:=qa (zo HB1.out hb2 s1)
 have s2:=hb2.size
 obtain⟨A3,c3,w3,hrun3,ho3,hg3⟩:=j9 w2 w.heap.size _ pl pk (xi l) HE.out (jp HO1.out hb2 (qc _)) (Rd.own ho2) (by omega) (by omega)
 have HO3:=qa ho3
 have HB3:=qa (HB2.out.grown hg3 HB2.out.size (fun k hk=>qec HO1.out k hk))
 clear ho2 hb2 ho3 hg3
 go_wp2_with (at_builtin;refine wpList_append_run rfl _ _ _ _ rfl rfl rfl hrun3 ?_)
 go_ret
 exact⟨A3,c3,rfl,HO3.out,HB3.out⟩
theorem wpList_append_want{P:Program}{ops:Array Oper}{rest:List Oper}{o:Oper}{a:Act}{Q:Exit→Act→World→Prop}{w w':World}{v1 v2 v':Value}(hw:Region.wanted o (yielded ops a.tmps)=true)(s x:Operand)(t t':TypeId)
  (ho:o.op= .call { callee:= .builtin .append,args:=#[s,x],argTypes:=#[t,t'] }) (hs:a.eval s=v1) (hx:a.eval x=v2)
  (hr:(Builtin.append_ #[t,t'] o.type #[v1,v2]).run P w= .ok v' w') (h:wpList P ops Q rest (a.put o.dst v') w'):wpList P ops Q (o :: rest) a w:=by
 refine BigFrame.wpList_want hw fun K hK => ?_
 unfold Oper.wp execOp
 simp only[ho,resolve,invoke,builtin,Sem.run_bind,Sem.run_pure,Result.andThen_ok,qcn,yc,vu,hs,hx,hr]
 exact hK _ _ h
theorem writeg_bits{w:World}{hi b:Nat}{v:Value}{gs:List Nat}{rs:List Bool}(h:Flt w 0 hi v b gs rs)(hhi:hi≤w.heap.size)(hb0:0<b)(hb:b≤70000)(hrs:rs.length≤1000000) :
  Calls Tryz.prog 56 #[v] w fun r w'=>∃A' c',r= .returned (.slice A' (xf b gs rs).length c')∧w'.ownsRow w.heap.size 5 1 (.slice A' (xf b gs rs).length c') (xf b gs rs).length (bv (xf b gs rs))∧Below w.heap.size w w':=by
 obtain⟨A,c,B,d,rfl,h1,h2⟩:=h
 rw[show xf b gs rs=ji b++xi rs from if_pos hb0]
 obtain⟨w1,hw1⟩:∃w1,w.alloc (.cells #[.int .i64 (b:Int),.slice A gs.length c,.slice B rs.length d] 110)=w1:=⟨_,rfl⟩
 have B1:Hid (Below w.heap.size w w1):=by unfold Hid;rw[←hw1];exact(Below.refl _ w).alloc (qc _) _
 have hk:yy w1 w.heap.size 110 #[.int .i64 (b:Int),.slice A gs.length c,.slice B rs.length d]:=by rw[←hw1];exact yy.new w _ _
 have hs1:w1.heap.size=w.heap.size+1:=by rw[←hw1];simp
 have hc0:w1.cell? ⟨w.heap.size,0,none⟩=some (.int .i64 (b:Int)):=hk.cell 0
 have HC0:Hid (∀W,Below w1.heap.size w1 W→W.cell? ⟨w.heap.size,0,none⟩=some (.int .i64 (b:Int))∧W.cell? ⟨w.heap.size,1,none⟩=some (.slice A gs.length c)∧W.cell? ⟨w.heap.size,2,none⟩=some (.slice B rs.length d)):=fun W hW=>by
  have hk:=hk.below hW (by omega)
  exact⟨hk.cell 0,hk.cell 1,hk.cell 2⟩
 have ib0:(0:Int)<(b:Int):=by omega
 have HPU:Hid (∀W,Below w1.heap.size w1 W→Calls Tryz.prog 41 #[.int .i64 (b:Int)] W fun r w'=>∃A c,r= .returned (.slice A (ji b).length c)∧w'.ownsRow W.heap.size 5 1 (.slice A (ji b).length c) (ji b).length (bv (ji b))∧Below W.heap.size W w'):=fun W _=>ux b (by omega)
 have HWR:Hid (∀W,Below w1.heap.size w1 W→Calls Tryz.prog 81 #[.slice B rs.length d] W fun r w'=>∃A' c',r= .returned (.slice A' (xi rs).length c')∧w'.ownsRow W.heap.size 5 1 (.slice A' (xi rs).length c') (xi rs).length (bv (xi rs))∧Below W.heap.size W w'):=fun W hW =>
  qpm rs (((h2.below B1.out hhi).below hW (by omega)).wide (qi _) (qc _)) (by have:=hW.size;omega) (by omega)
 obtain⟨V,hV⟩:∃V,ji b++xi rs=V:=⟨_,rfl⟩
 rw[hV]
 have HV:=qa hV
 have HWL:Hid ((ji b).length+(xi rs).length≤10000000):=by
  have h3:=ve b (by omega)
  have h4:=qfg rs (by omega)
  unfold Hid
  omega
 have S0:Hid (w1.heap.size≤w1.drew.heap.size):=qc _
 clear h1 h2 hk hV
 generalize xi rs=wb at *
 generalize ji b=pb at *
 go_enter Tryz.func56,Tryz.ntmps56
 go_wp2_with fail
 refine wp_region_held_drew (S:=fun w'=>Below w1.heap.size w1 w') (by kernel_rfl) (Below.drew (Below.refl _ _)) (fun hHeld => ?_)
 refine tk 0 ?_ rfl hHeld ?_ ?_
 rotate_left
 focus (intro W hSw;go_simp;try with_reducible rfl)
 try simp only[ju,Act.put]
 refine tk 1 ?_ rfl hHeld ?_ ?_
 rotate_left
 focus (intro W hSw;have hcv0:=(HC0.out W hSw).1;have hcv1:=(HC0.out W hSw).2.1;have hcv2:=(HC0.out W hSw).2.2;go_simp;try with_reducible rfl)
 try simp only[ju,Act.put]
 refine tk 3 ?_ rfl hHeld ?_ ?_
 rotate_left
 focus (intro W hSw;go_simp;try with_reducible rfl)
 try simp only[ju,Act.put]
 refine tk 4 ?_ rfl hHeld ?_ ?_
 rotate_left
 focus (intro W hSw;have hcv0:=(HC0.out W hSw).1;have hcv1:=(HC0.out W hSw).2.1;have hcv2:=(HC0.out W hSw).2.2;go_simp;try with_reducible rfl)
 try simp only[ju,Act.put]
 refine wpAnyH_ready (rs:=[2]) (by kernel_rfl) (by simp) ?_
 refine qt (o:=_) rfl (fun K hK => ?_) za
 go_simp
 refine(HPU.out _ hHeld).mono ?_
 rintro r w2 ⟨A2,c2,rfl,ho2,b2⟩
 have HO2:=qa ho2
 have B2:=qa (zo hHeld b2 hHeld.size)
 have S2:=b2.size
 clear ho2 b2
 refine hK.out _ _ B2.out (fun hHeld => ?_)
 clear hK K
 try simp only[ju,Act.put]
 refine wpAnyH_ready (rs:=[5]) (by kernel_rfl) (by simp) ?_
 refine qt (o:=_) rfl (fun K hK => ?_) za
 go_simp
 refine(HWR.out _ hHeld).mono ?_
 rintro r w3 ⟨A3,c3,rfl,ho3,b3⟩
 have HO3:=qa (Rd.of_own ho3)
 have HO23:=qa (jp HO2.out b3 (qc _))
 have B3:=qa (zo B2.out b3 B2.out.size)
 have S3:=b3.size
 clear ho3 b3
 obtain⟨A4,c4,w4,hrun,ho4,hg4⟩:=j9 w3 w1.heap.size _ pb wb V HV.out (jm HO23.out S0.out) HO3.out (by have:=HWL.out;omega) B3.out.size
 have HO4:=qa ho4
 have B4:=qa (B3.out.grown hg4 B3.out.size (fun q hq=>(zk (jm HO23.out S0.out) hq).1))
 clear ho4 hg4
 refine hK.out _ _ B3.out (fun hHeld => ?_)
 clear hK K
 try simp only[ju,Act.put]
 refine wpAnyH_ready (rs:=[6]) (by kernel_rfl) (by simp) ?_
 refine qt (o:=_) rfl (fun K hK => ?_) za
 refine xu (.tmp 10) (.tmp 13) _ _ rfl rfl rfl hrun ?_
 refine hK.out _ _ B4.out (fun hHeld => ?_)
 clear hK K
 try simp only[ju,Act.put]
 refine tk 7 ?_ rfl hHeld ?_ ?_
 rotate_left
 focus (intro W hSw;go_simp;try with_reducible rfl)
 try simp only[ju,Act.put]
 refine wpAnyH_done (by kernel_rfl) ?_ _
 go_wp2_with fail
 go_ret
 exact⟨A4,c4,rfl,jm HO4.out (by omega),zo B1.out B4.out (by omega)⟩
theorem writeg_list{w:World}{hi:Nat}{v:Value}{gs:List Nat}{rs:List Bool}(h:Flt w 0 hi v 0 gs rs)(hhi:hi≤w.heap.size)(hgl:gs.length≤100000000)(hup:gs.Pairwise (· < ·))(hlt:∀g∈gs,g<16777216) :
  Calls Tryz.prog 56 #[v] w fun r w'=>∃A' c',r= .returned (.slice A' (xf 0 gs rs).length c')∧w'.ownsRow w.heap.size 5 1 (.slice A' (xf 0 gs rs).length c') (xf 0 gs rs).length (bv (xf 0 gs rs))∧Below w.heap.size w w':=by
 obtain⟨A,c,B,d,rfl,h1,h2⟩:=h
 rw[show xf 0 gs rs=ji 0++js (yp gs) from if_neg (qbb 0),show((0:Nat):Int)=0 from rfl]
 have hl:=h1.len
 have hm:=h1.cap
 rw[jz,zu] at hl
 unfold maxLen at hm
 have HMAY:=qa (qft hup hlt)
 have HLT:Hid (∀k (hk:k<gs.length),gs[k]<16777216):=fun k hk=>hlt _ (ql hk)
 obtain⟨w1,hw1⟩:∃w1,w.alloc (.cells #[.int .i64 0,.slice A gs.length c,.slice B rs.length d] 110)=w1:=⟨_,rfl⟩
 have B1:Hid (Below w.heap.size w w1):=by unfold Hid;rw[←hw1];exact(Below.refl _ w).alloc (qc _) _
 have hk:yy w1 w.heap.size 110 #[.int .i64 0,.slice A gs.length c,.slice B rs.length d]:=by rw[←hw1];exact yy.new w _ _
 have hs1:w1.heap.size=w.heap.size+1:=by rw[←hw1];simp
 have hc0:w1.cell? ⟨w.heap.size,0,none⟩=some (.int .i64 0):=hk.cell 0
 have HC1:Hid (∀W,Below w1.heap.size w1 W→W.cell? ⟨w.heap.size,1,none⟩=some (.slice A gs.length c)):=fun W hW=>(hk.below hW (by omega)).cell 1
 have HG1:=qa (h1.below B1.out hhi)
 have HSL:=qa (yd gs)
 clear h1 h2 hk hup hlt
 go_enter Tryz.func56,Tryz.ntmps56
 go_wp2_with fail
 go_loopw [3,4] (fun x3 x4 wr=>∃(k:Nat) (ys:List Int) (A':Option Addr) (c':Nat),k≤gs.length∧x4= .int .i64 (k:Int)∧x3= .slice A' k c'∧ys=(yp gs).take k∧ys.length=k∧
  wr.ownsRow w1.heap.size 3 1 (.slice A' k c') k (iv ys)∧Below w1.heap.size w1 wr) (fun _ x4 _=>gs.length-(intOf x4).toNat)
 case atStart=>exact⟨0,[],none,0,qi _,rfl,rfl,by simp,rfl,zf _ _ _ _,Below.refl _ _⟩
 case round =>
  obtain⟨k,ys,A',c',hk,rfl,rfl,hys,hyl,hown,hb⟩:=hrel
  obtain⟨wz,hwz⟩:∃wz,wz=wr:=⟨_,rfl⟩
  subst hwz
  have HYS:=qa hys
  have HYL:=qa hyl
  have HO:=qa hown
  have HB:=qa hb
  have hsz:=hb.size
  have hcf:wz.cell? ⟨w.heap.size,1,none⟩=some (.slice A gs.length c):=HC1.out wz hb
  clear hys hyl hown hb
  by_cases hkl:k<gs.length
  ·
   have ik:(k:Int)<(gs.length:Int):=by omega
   have HTK:Hid ((yp gs).take (k+1)=(yp gs).take k++[(yp gs)[k]'(by rw[HSL.out];exact hkl)]):=qj _
   obtain⟨bb,off,rfl,_,hbb,hcell⟩:=((HG1.out.below HB.out (by omega)).wide (qc _) (qc _)).nat hkl
   rcases jr k with hk0 | hk0
   ·
    have HS0:Hid ((yp gs)[k]'(by rw[HSL.out];exact hkl)=((gs[k]:Nat):Int)):=by
     unfold Hid
     have:=qkq gs (by omega)
     simp only[hk0]
     exact this
    have hcell0:wz.cell? ⟨bb,off,none⟩=some (.int .i64 ((gs[k]:Nat):Int)):=by
     have hoff:off+k=off:=by omega
     rw[hoff] at hcell
     exact hcell
    obtain⟨z,hz⟩:∃z,gs[k]=z:=⟨_,rfl⟩
    rw[hz] at hcell0 HS0
    rw[HS0.out] at HTK
    have ik1:((k:Int)==0)=true:=by rw[hk0];rfl
    have HK0:=qa hk0
    clear hz hcell hk0
    go_wp2_with (at_builtin;refine qqe (v:= .slice A' k c') w1.heap.size ys (z:Int) rfl _ _ rfl rfl rfl rfl (by rw[zg _ _ _ _ rfl];rfl) (by have:=HO.out.alloc (.cells #[.int .i64 (z:Int)] 3);rw[HYL.out];exact this) (by rw[HYL.out];omega) (by simp;omega) ?_;intro A2 c2 w2 ho2 hg2;refine qam ?_)
    have hb2:Below w1.heap.size w1 w2:=(HB.out.alloc hsz _).grown hg2 (by simp;omega) (fun q hq=>(zk HO.out hq).1)
    obtain⟨zs,hzs⟩:∃zs,ys++[(z:Int)]=zs:=⟨_,rfl⟩
    rw[hzs] at ho2
    have hzl:zs.length=k+1:=by rw[←hzs,qd,HYL.out];rfl
    have HZS:Hid (zs=(yp gs).take (k+1)):=by unfold Hid;rw[←hzs,HTK.out,HYS.out]
    have HZV:Hid (Value.slice A2 (ys.length+1) c2= .slice A2 (k+1) c2):=by unfold Hid;rw[HYL.out]
    rw[hzl] at ho2
    have HZL:=qa hzl
    have HO2:=qa ho2
    have HB2:=qa hb2
    clear ho2 hg2 hb2 hzs hzl
    refine⟨?_⟩
    go_wp2_with fail
    go_roundw
    case rel=>exact⟨k+1,zs,A2,c2,by omega,by go_num,HZV.out,HZS.out,HZL.out,HO2.out,HB2.out⟩
    case measure=>simp[intOf] <;> omega
   ·
    obtain⟨j,rfl⟩:∃j,k=j+1:=⟨k-1,by omega⟩
    have ik0:¬((j:Int)+1)=0:=by omega
    have lj:(0:Int)≤(j:Int)+1:=by omega
    have lj2:(j:Int)<(gs.length:Int):=by omega
    have ik1:(((j:Int)+1)==0)=false:=by rw[q9];exact ik0
    obtain⟨b2,off2,he,_,_,hcell2⟩:=(HG1.out.below HB.out (by omega)).nat (k:=j) (by omega)
    injection he with he
    injection he with he1 he2
    subst he1 he2
    have HS1:=qa (qkr gs j hkl)
    have hx1:=HLT.out (j+1) hkl
    have hx0:=HLT.out j (by omega)
    obtain⟨x,hx⟩:∃x,gs[j+1]=x:=⟨_,rfl⟩
    obtain⟨y,hy⟩:∃y,gs[j]'(by omega)=y:=⟨_,rfl⟩
    rw[hx] at hcell HS1 hx1
    rw[hy] at hcell2 HS1 hx0
    rw[HS1.out] at HTK
    obtain⟨z,hz⟩:∃z:Int,(x:Int)-(y:Int)=z:=⟨_,rfl⟩
    rw[hz] at HTK
    have hzw:IntKind.i64.wrap ((x:Int)-(y:Int))=z:=by rw[jf _ (by omega)];exact hz
    have hjw:IntKind.i64.wrap ((j:Int)+1-1)=(j:Int):=by rw[jf _ (by omega)];omega
    have hjw2:IntKind.i64.wrap (j:Int)=(j:Int):=jf _ (by omega)
    have HCF:Hid (∀W,Below w1.heap.size w1 W→W.cell? ⟨w.heap.size,1,none⟩=some (.slice (some ⟨bb,off,none⟩) gs.length c)):=HC1.out
    have HCA:Hid (∀W,Below w1.heap.size w1 W→W.cell? ⟨bb,off+(j+1),none⟩=some (.int .i64 (x:Int))):=fun W hW=>(hW.cell (by show bb<_;omega)).trans ((HB.out.cell (p:=⟨bb,off+(j+1),none⟩) (by show bb<_;omega)).symm.trans hcell)
    have HCB:Hid (∀W,Below w1.heap.size w1 W→W.cell? ⟨bb,off+j,none⟩=some (.int .i64 (y:Int))):=fun W hW=>(hW.cell (by show bb<_;omega)).trans ((HB.out.cell (p:=⟨bb,off+j,none⟩) (by show bb<_;omega)).symm.trans hcell2)
    obtain⟨zs,hzs⟩:∃zs,ys++[z]=zs:=⟨_,rfl⟩
    have hzl:zs.length=j+1+1:=by rw[←hzs,qd,HYL.out];rfl
    have hod:(wz.drew.alloc (.cells #[.int .i64 z] 3)).ownsRow w1.heap.size 3 1 (.slice A' (j+1) c') ys.length (iv ys):=by
     rw[HYL.out]
     exact World.ownsRow.alloc (w:=wz.drew) (jv HO.out (fun _ _=>rfl)) _
    obtain⟨A7,c7,w7,hrun,ho7,hg7⟩:=qlj (wz.drew.alloc (.cells #[.int .i64 z] 3)) w1.heap.size _ ys [z] zs hzs hod (rd_num1 (qgf wz.drew 3 (.int .i64 z))) (by rw[HYL.out];simp;omega) (by simp;omega)
    have B7:Hid (Below w1.heap.size w1 w7):=((HB.out.drew).alloc (by exact hsz) _).grown hg7 (by simp;omega) (fun q hq=>(zk hod hq).1)
    rw[hzl] at ho7 hrun
    have HZS:Hid (zs=(yp gs).take (j+1+1)):=by unfold Hid;rw[←hzs,HTK.out,HYS.out]
    have HZL:=qa hzl
    have HO7:=qa ho7
    have HZ:=qa hz
    clear ho7 hg7 hzl hzs hod hz
    go_wp2_with fail
    refine wp_region_held_drew (S:=fun w'=>Below w1.heap.size w1 w') (by kernel_rfl) (Below.drew HB.out) (fun hHeld => ?_)
    refine tk 0 ?_ rfl hHeld ?_ ?_
    rotate_left
    focus (intro W hSw;go_simp;try with_reducible rfl)
    try simp only[ju,Act.put]
    refine tk 1 ?_ rfl hHeld ?_ ?_
    rotate_left
    focus (intro W hSw;go_simp;try with_reducible rfl)
    try simp only[ju,Act.put]
    refine tk 2 ?_ rfl hHeld ?_ ?_
    rotate_left
    focus (intro W hSw;have hcv1:=HCF.out W hSw;go_simp;try with_reducible rfl)
    try simp only[ju,Act.put]
    refine tk 3 ?_ rfl hHeld ?_ ?_
    rotate_left
    focus (intro W hSw;go_simp;try with_reducible rfl)
    try simp only[ju,Act.put]
    refine tk 4 ?_ rfl hHeld ?_ ?_
    rotate_left
    focus (intro W hSw;go_simp;try with_reducible rfl)
    try simp only[ju,Act.put]
    refine tk 5 ?_ rfl hHeld ?_ ?_
    rotate_left
    focus (intro W hSw;have hcv2:=HCA.out W hSw;go_simp;try with_reducible rfl)
    try simp only[ju,Act.put]
    refine tk 6 ?_ rfl hHeld ?_ ?_
    rotate_left
    focus (intro W hSw;go_simp;try with_reducible rfl)
    try simp only[ju,Act.put]
    refine tk 7 ?_ rfl hHeld ?_ ?_
    rotate_left
    focus (intro W hSw;have hcv1:=HCF.out W hSw;go_simp;try with_reducible rfl)
    try simp only[ju,Act.put]
    refine tk 8 ?_ rfl hHeld ?_ ?_
    rotate_left
    focus (intro W hSw;go_simp;try with_reducible rfl)
    try simp only[ju,Act.put]
    refine wpAnyH_take (i:=9) (oi:=_) (v:= .int .i64 (j:Int)) rfl (by kernel_rfl) (by kernel_rfl) (by kernel_rfl) (fun _ _ _ h=>h) (Or.inl ⟨by rfl,?_⟩) hHeld ?_
    focus (intro W hSw;go_simp;try with_reducible rfl)
    try simp only[ju,Act.put]
    refine tk 10 ?_ rfl hHeld ?_ ?_
    rotate_left
    focus (intro W hSw;go_simp;try with_reducible rfl)
    try simp only[ju,Act.put]
    refine tk 11 ?_ rfl hHeld ?_ ?_
    rotate_left
    focus (intro W hSw;have hcv2:=HCB.out W hSw;go_simp;try with_reducible rfl)
    try simp only[ju,Act.put]
    refine wpAnyH_take (i:=12) (oi:=_) (v:= .int .i64 z) rfl (by kernel_rfl) (by kernel_rfl) (by kernel_rfl) (fun _ _ _ h=>h) (Or.inl ⟨by rfl,?_⟩) hHeld ?_
    focus (intro W hSw;go_simp;try with_reducible rfl)
    try simp only[ju,Act.put]
    refine wpAnyH_ready (rs:=[13]) (by kernel_rfl) (by simp) ?_
    refine qt (o:=_) rfl (fun K hK => ?_) za
    go_simp
    refine hK.out _ _ (Below.alloc (Below.drew HB.out) hsz _) (fun hHeld => ?_)
    clear hK K
    try simp only[ju,Act.put]
    refine wpAnyH_ready (rs:=[14]) (by kernel_rfl) (by simp) ?_
    refine qt (o:=_) rfl (fun K hK => ?_) za
    refine xu (.tmp 31) (.tmp 44) _ _ rfl rfl rfl hrun ?_
    refine hK.out _ _ B7.out (fun hHeld => ?_)
    clear hK K
    try simp only[ju,Act.put]
    refine tk 15 ?_ rfl hHeld ?_ ?_
    rotate_left
    focus (intro W hSw;go_simp;try with_reducible rfl)
    try simp only[ju,Act.put]
    refine wpAnyH_done (by kernel_rfl) ?_ _
    go_wp2_with fail
    go_roundw
    case rel=>exact⟨j+1+1,zs,A7,c7,by omega,by go_num,rfl,HZS.out,HZL.out,HO7.out,B7.out⟩
    case measure=>simp[intOf] <;> omega
  ·
   have ik:¬(k:Int)<(gs.length:Int):=by omega
   have hkg:k=gs.length:=by omega
   have hyf:ys=yp gs:=by rw[HYS.out,qo (by rw[HSL.out];omega)]
   have HR:=qa ((Rd.of_own HO.out).wide (qi _) (qc _))
   rw[hyf] at HR HYL
   have HMS:=qa (fun(W:World) (hW:Below wz.heap.size wz W)=>qh4 (w:=W) (yp gs) HMAY.out (HR.out.below hW (qc _)) hW.size (by rw[HSL.out];omega))
   rw[HYL.out] at HMS
   have HPU:=qa (fun w=>ux 0 (w:=w) (by omega))
   have HWL:Hid ((ji 0).length+(js (yp gs)).length≤140737488355328):=by
    have h3:=ve 0 (by omega)
    have h4:=qag HMAY.out (by rw[HSL.out];omega)
    unfold Hid
    omega
   obtain⟨V,hV⟩:∃V,ji 0++js (yp gs)=V:=⟨_,rfl⟩
   have HVF:=qa hV
   obtain⟨wb,hwb⟩:∃wb,js (yp gs)=wb:=⟨_,rfl⟩
   obtain⟨pb,hpb⟩:∃pb,ji 0=pb:=⟨_,rfl⟩
   rw[hwb] at HMS HWL hV
   rw[hpb] at HPU HWL hV
   have HV:=qa hV
   clear hV hyf hkg hwb hpb
   go_wp2_with fail
   refine(HPU.out _).mono ?_
   rintro r w2 ⟨A2,c2,rfl,ho2,b2⟩
   have HO2:=qa ho2
   have B2:=qa b2
   have S2:=b2.size
   clear ho2 b2
   go_wp2_with fail
   refine(HMS.out _ B2.out).mono ?_
   rintro r w3 ⟨A3,c3,rfl,ho3,b3⟩
   have HO3:=qa (Rd.of_own ho3)
   have HO23:=qa (jp HO2.out b3 (qc _))
   have B3:=qa (zo B2.out b3 S2)
   clear ho3 b3
   obtain⟨A4,c4,w4,hrun,ho4,hg4⟩:=j9 w3 wz.heap.size _ pb wb V HV.out HO23.out HO3.out HWL.out B3.out.size
   have HO4:=qa ho4
   have B4:=qa (B3.out.grown hg4 B3.out.size (fun q hq=>(zk HO23.out hq).1))
   clear ho4 hg4
   go_wp2_with (at_builtin;refine wpList_append_run rfl _ _ _ _ rfl rfl rfl hrun ?_)
   go_ret
   rw[HVF.out]
   exact⟨A4,c4,rfl,jm HO4.out (by omega),zo (zo B1.out HB.out (by omega)) B4.out (by omega)⟩
theorem takeR_le(bs:List UInt8)(k:Nat)(e:Int)(skip:Nat)(n:Int)(hs:k+skip≤bs.length):(jo bs k e skip n).2.1≤bs.length∧k≤(jo bs k e skip n).2.1:=by
 unfold jo
 repeat' split
 all_goals (simp only[];omega)
end Go.Proofs.YtjfecojdagmacaaGreat
