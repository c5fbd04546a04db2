/-
  Lemmas.
-/
import Derived.Test.YtjfecojdagmacaaGreatE36
namespace Go.Proofs.YtjfecojdagmacaaGreat
open Go.RowKit
set_option maxRecDepth 20000
set_option maxHeartbeats 16000000
set_option linter.unusedSimpArgs false
set_option linter.unusedVariables false
theorem number_any{w:World}{lo g k:Nat}{bs:List UInt8}{e:Int}(h:xq w lo g bs k e) :
  Calls Tryz.prog 66 #[cp g] w fun r w'=>r= .returned (.int .i64 ((z8 bs k e 9223372036854775807).1:Int))∧
   xq w' lo g bs (z8 bs k e 9223372036854775807).2.1 (z8 bs k e 9223372036854775807).2.2∧w.grownBy w' (some g):=by
 have HM:=qa (qcv 9223372036854775807 h)
 clear h
 generalize z8 bs k e 9223372036854775807=M at *
 go_enter Tryz.func66,Tryz.ntmps66
 go_wp2_with fail
 refine HM.out.mono ?_
 rintro r w1 ⟨rfl,hc1,hg1⟩
 have HC:=qa hc1
 clear hc1
 go_wp2_with fail
 go_ret
 exact⟨rfl,HC.out,hg1⟩
def qm2(w w':World)(lo:Nat)(b:List UInt8)(r:Ending):Prop :=
 (∃G S n l,r= .returned (.tuple #[.pointer (some ⟨G,0,none⟩),.int .i64 0])∧qc8 b n l∧TabM w' lo S G n l∧(∀k,S k→w.heap.size≤k)∧Below w.heap.size w w')∨
  (r= .returned (.tuple #[.pointer none,.int .i64 4])∧(∀n l,¬qc8 b n l)∧Below w.heap.size w w')
theorem qm2.no{w w':World}{lo:Nat}{b:List UInt8}(h:∀n l,¬qc8 b n l)(hb:Below w.heap.size w w'):qm2 w w' lo b (.returned (.tuple #[.pointer none,.int .i64 4])):= .inr ⟨rfl,h,hb⟩
theorem flat_len(l:List Pt):l.length≤(kh (vb l)).length:=by
 induction l with
 | nil=>simp
 | cons p l ih =>
  rw[show vb (p :: l)=p.b :: vb l from rfl,qhh,qd,qd,qo]
  have:=qks p.b.length
  omega
theorem RdAt.few{bs:List UInt8}{n cnt i k:Nat}{l:List Pt}(h:RdAt bs n cnt i k l):l.length≤bs.length:=by
 have h1:=flat_len l
 have h2:=congrArg List.length h.lies
 rw[qd,qd] at h2
 omega
theorem takeR_nil{bs:List UInt8}{k:Nat}{e:Int}{s:Nat}{n:Int}(h:(z6 bs k e s n).2.2≠0):(z6 bs k e s n).1=[]:=by
 unfold z6 at h ⊢
 by_cases h1:e≠0
 ·
  rw[if_pos h1]
 ·
  rw[if_neg h1] at h ⊢
  by_cases h2:n<0
  ·
   rw[if_pos h2]
  ·
   rw[if_neg h2] at h ⊢
   by_cases h3:(bs.length:Int)-k-s<n
   ·
    rw[if_pos h3]
   ·
    rw[if_neg h3] at h
    exact absurd rfl h
theorem qm7(bs:List UInt8)(k:Nat)(e:Int)(n:Int):(z6 bs k e 0 n).1.length≤bs.length:=by
 unfold z6
 by_cases h1:e≠0
 ·
  rw[if_pos h1];exact qj _
 ·
  rw[if_neg h1]
  by_cases h2:n<0
  ·
   rw[if_pos h2];exact qj _
  ·
   rw[if_neg h2]
   by_cases h3:(bs.length:Int)-k-(0:Nat)<n
   ·
    rw[if_pos h3];exact qj _
   ·
    rw[if_neg h3,qy,qv]
    omega
theorem open19{w:World}{b:List UInt8}{A:Option Addr}{c:Nat}(h:Rd w 0 w.heap.size A c (bv b))(hbl:b.length≤1000000000) :
  Calls Tryz.prog 63 #[.slice A b.length c] w fun r w'=>∃(A':Option Addr) (c':Nat) (bs:List UInt8),r= .returned (.tuple #[.slice A' bs.length c',.bool (kj b)])∧Rd w' 0 w'.heap.size A' c' (bv bs)∧bs.length≤1000000000∧(kj b=true→bs=b.take (b.length-4))∧Below w.heap.size w w':=by
 by_cases h4:b.length<4
 ·
  refine(open_short b h (qc _) h4).mono ?_
  rintro r w' ⟨rfl,hb⟩
  have hs:kj b=false:=by
   unfold kj
   rw[qw (by omega)]
   rfl
  rw[hs]
  exact⟨none,0,[],rfl,Rd.nil _ _ _,qj _,fun h=>(by cases h),hb⟩
 ·
  cases hs:kj b with
  | false =>
   refine(open_no b h (qc _) (by omega) hs).mono ?_
   rintro r w' ⟨rfl,hb⟩
   exact⟨none,0,[],rfl,Rd.nil _ _ _,qj _,fun h=>(by cases h),hb⟩
  | true =>
   refine(open_yes b h (qc _) hs hbl).mono ?_
   rintro r w' ⟨A',c',rfl,ho,hb⟩
   have hl:(b.take (b.length-4)).length=b.length-4:=by rw[qy];omega
   exact⟨A',c',b.take (b.length-4),by rw[hl],(Rd.of_own ho).wide (qj _) (qc _),by omega,fun _=>rfl,hb⟩
theorem read19_v{w:World}{b:List UInt8}{A:Option Addr}{c:Nat}(h:Rd w 0 w.heap.size A c (bv b))(hbl:b.length≤1000000000) :
  Calls Tryz.prog 42 #[.slice A b.length c] w fun r w'=>qm2 w w' w.heap.size b r:=by
 have HOP:=qa (open19 h hbl)
 clear h
 go_enter Tryz.func42,Tryz.ntmps42
 go_wp2_with fail
 refine HOP.out.mono ?_
 rintro r w1 ⟨A1,c1,bs,rfl,hr1,hl1,hbs,hb1⟩
 have HB1:=qa hb1
 have HBS:=qa hbs
 have HNW:=qa (new_any bs w1 hr1 (by omega))
 obtain⟨sl,hsl⟩:∃sl,kj b=sl:=⟨_,rfl⟩
 rw[hsl] at HBS ⊢
 have HSL:=qa hsl
 clear hb1 hbs hr1 HOP hsl
 go_wp2_with fail
 refine HNW.out.mono ?_
 rintro r w2 ⟨g,rfl,hcur,hb2⟩
 have HB2:Hid (Below w.heap.size w w2):=HB1.out.trans (hb2.mono HB1.out.size)
 have hlo:=hcur.base
 have hlo1:w.heap.size≤g:=zc HB1.out.size hlo
 obtain⟨n,k0,e0,hM⟩:∃n k0 e0,z8 bs 0 0 8=(n,k0,e0):=⟨_,_,_,rfl⟩
 have hmo:=qcv 8 hcur
 rw[hM] at hmo
 have HMO:=qa hmo
 have HM:=qa hM
 have hn8:n≤8:=by
  have:=qbb bs 0 0 8
  rw[hM] at this
  simp only at this
  omega
 clear hcur hb2 hmo HNW hM
 unfold cp at HMO
 go_wp2_with fail
 refine HMO.out.mono ?_
 rintro r w3 ⟨rfl,hcur,hg3⟩
 have HB3:Hid (Below w.heap.size w w3):=HB2.out.grown hg3 HB2.out.size (fun q hq=>by cases hq;exact hlo1)
 have HCU:=qa hcur
 have hgl:=hcur.lt
 clear hg3 HMO hcur
 have hbuild:∀W,(Instr.build 82 #[(0,.int .i64 (n:Int))]).run Tryz.prog W= .ok (.agg #[.int .i64 (n:Int),.int .i64 0,.slice none 0 0]) W:=fun W=>run_build W _ _ _ (by kernel_rfl)
 obtain⟨w4,hw4⟩:∃x,Hid (w3.alloc (.cells #[.int .i64 (n:Int),.int .i64 0,.slice none 0 0] 82)=x):=⟨_,rfl⟩
 have b4:Below w3.heap.size w3 w4:=by rw[←hw4.out];exact(Below.refl _ w3).alloc (qc _) _
 have HB4:Hid (Below w.heap.size w w4):=HB3.out.trans (b4.mono HB3.out.size)
 have ht4:TabM w4 w.heap.size (fun k=>k=w3.heap.size) w3.heap.size n []:=by rw[←hw4.out];exact(TabM.new w3 n).lower HB3.out.size
 have HT4:=qa ht4
 have HC4:Hid (xq w4 w1.heap.size g bs k0 e0):=HCU.out.out (X:=fun _=>False) (Out.of_below b4) fun _ _ h=>h
 have c0:w4.cell? ⟨w3.heap.size,0,none⟩=some (.int .i64 (n:Int)):=by rw[←hw4.out];exact(j8.new w3 _ _).cell 0
 obtain⟨G,hG⟩:∃G,w3.heap.size=G:=⟨_,rfl⟩
 have hGg:g<G:=by omega
 have hGw:w.heap.size≤G:=by omega
 clear b4 ht4 HCU
 cases sl with
 | false =>
  have HNO:Hid (∀n l,¬qc8 b n l):=not_tab HSL.out
  clear c0 HT4 HC4
  go_wp2_with fail
  go_ret2
  first | exact qm2.no HNO.out HB4.out | (have hb4:=HB4.out;rw[←hw4.out] at hb4;exact qm2.no HNO.out hb4)
 | true =>
  obtain rfl:bs=b.take (b.length-4):=HBS.out rfl
  have HIF:Hid (∀n l,qc8 b n l→TbOk n l∧l.length≤9223372036854775807∧b.take (b.length-4)=xf n (vb l)):=fun n l=>(qiw HSL.out).1
  have HFI:Hid (∀n l,TbOk n l→l.length≤9223372036854775807→b.take (b.length-4)=xf n (vb l)→qc8 b n l):=fun n l h1 h2 h3=>(qiw HSL.out).2 ⟨h1,h2,h3⟩
  generalize b.take (b.length-4)=bs at *
  clear HBS HSL
  by_cases hn0:n=0
  ·
   have i0:(n:Int)=0:=by omega
   have HNO:Hid (∀n l,¬qc8 b n l):=fun n' l' ht=>by
    obtain⟨h1,h2,h3⟩:=HIF.out _ _ ht
    have h4:=vp (bs:=bs) (k:=0) (n:=n') (m:=8) (rest:=jc (vb l').length++kh (vb l')) (by rw[jv,h3,xf,qm]) (by have:=h1.cols;omega) (by have:=h1.cols;omega)
    rw[HM.out] at h4
    injection h4 with h4
    have:=h1.cols
    omega
   clear HT4 HC4
   rw[←hw4.out] at c0
   go_wp2_with fail
   go_ret2
   have hb4:=HB4.out
   rw[←hw4.out,i0] at hb4
   exact qm2.no HNO.out hb4
  have i0:¬(n:Int)=0:=by omega
  have he0:e0=0:=Classical.byContradiction fun he=>by
   have:=qij (bs:=bs) (k:=0) (e:=0) (m:=8) (by rw[HM.out];exact he)
   rw[HM.out] at this
   exact hn0 this
  subst he0
  have hnu:=number_any HC4.out
  obtain⟨cnt,k1,e1,hN⟩:∃cnt k1 e1,z8 bs k0 0 9223372036854775807=(cnt,k1,e1):=⟨_,_,_,rfl⟩
  rw[hN] at hnu
  have HNU:=qa hnu
  have HN:=qa hN
  have hcnt:cnt≤9223372036854775807:=by
   have:=qbb bs k0 0 9223372036854775807
   rw[hN] at this
   simp only at this
   omega
  unfold cp at HNU
  clear hnu hN HC4
  rw[←hw4.out] at c0
  go_wp2_with fail
  rw[hw4.out]
  refine HNU.out.mono ?_
  rintro r w5 ⟨rfl,hcur,hg5⟩
  have o5:Out w4 w5 (fun k=>k=g):=Out.of_gb hg5 fun k hk=>(zy hk).symm
  have HB5:Hid (Below w.heap.size w w5):=HB4.out.grown hg5 HB4.out.size (fun q hq=>by cases hq;exact hlo1)
  have HT5:Hid (TabM w5 w.heap.size (fun k=>k=G) G n []):=by
   have:=HT4.out
   rw[hG] at this
   exact this.out o5 fun k hk hx=>by omega
  have HC5:=qa hcur
  have HR5:Hid ((e1=0→RdAt bs n cnt 0 k1 [])∧(e1≠0→cnt=0∧∀n l,¬qc8 b n l)):=by
   refine⟨fun he => ?_,fun he=>⟨?_,fun n' l' ht => ?_⟩⟩
   ·
    exact RdAt.start HM.out (by rw[HN.out,he])
   ·
    have:=qij (bs:=bs) (k:=k0) (e:=0) (m:=9223372036854775807) (by rw[HN.out];exact he)
    rw[HN.out] at this
    exact this
   ·
    obtain⟨h1,h2,h3⟩:=HIF.out _ _ ht
    have h4:=vp (bs:=bs) (k:=0) (n:=n') (m:=8) (rest:=jc (vb l').length++kh (vb l')) (by rw[jv,h3,xf,qm]) (by have:=h1.cols;omega) (by have:=h1.cols;omega)
    rw[HM.out] at h4
    injection h4 with h4 h5
    injection h5 with h5 _
    obtain⟨a1,a2,a3,a4,a5⟩:=qab (qj _) HM.out
    have h6:bs.drop k0=jc (vb l').length++kh (vb l'):=by
     rw[jv,h3,xf,qm,←h4] at a3
     rw[h3,xf,qm,←h4]
     exact(xp a3).symm
    have h7:=vp (m:=9223372036854775807) h6 (by rw[qam];omega) (by rw[qam];omega)
    rw[HN.out] at h7
    injection h7 with _ h7
    injection h7 with _ h7
    exact he h7
  have hs4:=HB4.out.size
  clear o5 hg5 hcur HNU HT4 HM HN HB4 hw4 c0 HB3 HB2 HB1
  go_wp2_with fail
  go_loopw [30] (fun x30 wr=>∃(i k:Nat) (e:Int) (l:List Pt) (S:Nat→Prop),i≤cnt∧x30= .int .i64 (i:Int)∧Hid ((e=0→RdAt bs n cnt i k l)∧(e≠0→cnt=0∧∀n l,¬qc8 b n l))∧Hid (TbOk n l)∧Hid (xq wr w1.heap.size g bs k e)∧Hid (TabM wr w.heap.size S G n l)∧Hid (∀k,S k→g<k)∧Below w.heap.size w wr) (fun x30 _=>cnt-(intOf x30).toNat)
  case atStart=>exact⟨0,k1,e1,[],_,qj _,rfl,HR5.out,TbOk.nil (by omega),HC5.out,HT5.out,fun k hk=>by omega,HB5.out⟩
  case round =>
   clear HR5 HC5 HT5 HB5
   obtain⟨i,k,e,l,S,hi,rfl,HR,HOK,HC,HT,HS,hb⟩:=hrel
   obtain⟨wk,rfl⟩:∃x,x=wr:=⟨_,rfl⟩
   have HB:=qa hb
   have hsz:=hb.size
   clear hb
   by_cases hlt:i<cnt
   ·
    have ii:(i:Int)<(cnt:Int):=by omega
    have he0:e=0:=Classical.byContradiction fun he=>by have:=(HR.out.2 he).1;omega
    subst he0
    have HA:=qa (HR.out.1 rfl)
    have hnu:=number_any HC.out
    obtain⟨s,k1,e1,hN⟩:∃s k1 e1,z8 bs k 0 9223372036854775807=(s,k1,e1):=⟨_,_,_,rfl⟩
    rw[hN] at hnu
    have HNU:=qa hnu
    have HN:=qa hN
    unfold cp at HNU
    clear hnu hN HR HC
    go_wp2_with fail
    refine HNU.out.mono ?_
    rintro r w6 ⟨rfl,hcur,hg6⟩
    have o6:Out wk w6 (fun k=>k=g):=Out.of_gb hg6 fun k hk=>(zy hk).symm
    have HB6:Hid (Below w.heap.size w w6):=HB.out.grown hg6 hsz (fun q hq=>by cases hq;exact hlo1)
    have HT6:Hid (TabM w6 w.heap.size S G n l):=HT.out.out o6 fun k hk hx=>by have:=HS.out k hk;omega
    have hby:=qdg (s:Int) hcur (by omega)
    obtain⟨x,k2,e2,hX⟩:∃x k2 e2,z6 bs k1 e1 0 (s:Int)=(x,k2,e2):=⟨_,_,_,rfl⟩
    rw[hX] at hby
    have hxl:x.length≤1000000000:=by
     have:=qm7 bs k1 e1 (s:Int)
     rw[hX] at this
     simp only at this
     omega
    have HBY:=qa hby
    have HX:=qa hX
    unfold cp at HBY
    clear o6 hg6 hcur hby hX HNU HT HB
    go_wp2_with fail
    refine HBY.out.mono ?_
    rintro r w7 ⟨A7,c7,rfl,ho7,hcur,hg7⟩
    have o7:Out w6 w7 (fun k=>k=g):=Out.of_gb hg7 fun k hk=>(zy hk).symm
    have HB7:Hid (Below w.heap.size w w7):=HB6.out.grown hg7 HB6.out.size (fun q hq=>by cases hq;exact hlo1)
    have HT7:Hid (TabM w7 w.heap.size S G n l):=HT6.out.out o7 fun k hk hx=>by have:=HS.out k hk;omega
    have HC7:=qa hcur
    have HAD:=qa (tadd_v HT7.out HOK.out.tot (by have:=HA.out.few;omega) ((Rd.of_own ho7).wide (qj _) (qc _)) hxl)
    clear o7 hg7 ho7 hcur HBY HT6 HB6
    go_wp2_with fail
    refine HAD.out.mono ?_
    rintro r w8 (⟨gs,S',rfl,hro,htot,ht8,hst⟩ | ⟨e,rfl,hee,hb8⟩)
    ·
     have hx4:=hro.len4
     have he2:e2=0:=Classical.byContradiction fun he=>by
      have:=takeR_nil (bs:=bs) (k:=k1) (e:=e1) (s:=0) (n:=(s:Int)) (by rw[HX.out];exact he)
      rw[HX.out] at this
      simp only at this
      rw[this] at hx4
      simp at hx4
     subst he2
     have he1:e1=0:=Classical.byContradiction fun he=>by
      have:=qa3 bs k1 e1 0 (s:Int) he
      rw[HX.out] at this
      injection this with h1 _
      rw[h1] at hx4
      simp at hx4
     subst he1
     have HA8:=qa (HA.out.step hlt HN.out HX.out hro)
     have HOK8:Hid (TbOk n (l++[⟨x,gs⟩])):=⟨HOK.out.cols,fun p hp=>by
      rcases zn.1 hp with hp | hp
      ·
       exact HOK.out.read p hp
      ·
       obtain rfl:=q8.1 hp;exact hro,fun p hp=>by
      rcases zn.1 hp with hp | hp
      ·
       exact HOK.out.size p hp
      ·
       obtain rfl:=q8.1 hp;exact hxl,by rw[qct];exact htot⟩
     have HT8:=qa ht8
     have HC8:Hid (xq w8 w1.heap.size g bs k2 0):=HC7.out.out hst.out fun q hq hs=>by have:=HS.out q hs;omega
     have hgs:=HC7.out.lt
     have HS8:Hid (∀k,S' k→g<k):=fun q hq=>(hst.more q hq).elim (HS.out q) fun h=>by omega
     have HB8:Hid (Below w.heap.size w w8):=HB7.out.trans (hst.out.below HB7.out.size fun q hq=>(HT7.out.mine q hq).1)
     clear hro htot ht8 hst HAD HT7 HC7 HB7 hx4
     go_wp2_with fail
     go_roundw
     case rel=>exact⟨i+1,k2,0,_,S',by omega,by go_num,⟨fun _=>HA8.out,fun h=>absurd rfl h⟩,HOK8.out,HC8.out,HT8.out,HS8.out,HB8.out⟩
     case measure=>simp[intOf];omega
    ·
     have hne:¬e=0:=by rcases hee with ⟨rfl,_⟩ | ⟨rfl,_⟩ <;> decide
     have HNO:Hid (∀n l,¬qc8 b n l):=fun n' l' ht=>by
      obtain⟨h1,h2,h3⟩:=HIF.out _ _ ht
      by_cases he1:e1=0
      ·
       subst he1
       by_cases he2:e2=0
       ·
        subst he2
        refine HA.out.no_part hlt HN.out HX.out (fun gs hg => ?_) n' l' h1 h2 h3
        rcases hee with ⟨_,h5⟩ | ⟨_,gs',h5,h6⟩
        ·
         exact absurd hg (h5 gs)
        ·
         rw[hg.same h5];exact h6
       ·
        exact HA.out.no_bytes hlt HN.out (by rw[HX.out];exact he2) n' l' h1 h2 h3
      ·
       exact HA.out.no_num hlt (by rw[HN.out];exact he1) n' l' h1 h2 h3
     have HB8:Hid (Below w.heap.size w w8):=HB7.out.trans (hb8.mono HB7.out.size)
     clear hee hb8 HAD HT7 HC7 HB7
     go_wp2_with fail
     go_ret2
     exact qm2.no HNO.out HB8.out
   ·
    have ii:¬(i:Int)<(cnt:Int):=by omega
    obtain rfl:i=cnt:=by omega
    have HEN:=qa (end_any HC.out)
    obtain⟨v,hv⟩:∃v,qhy bs k e=v:=⟨_,rfl⟩
    rw[hv] at HEN
    unfold cp at HEN
    by_cases hv0:v=0
    ·
     subst hv0
     have he:e=0∧¬k<bs.length:=by
      unfold qhy at hv
      split at hv
      ·
       exact absurd hv ‹_›
      ·
       split at hv
       ·
        exact absurd hv (by decide)
       ·
        exact⟨by omega,‹_›⟩
     obtain⟨rfl,hk⟩:=he
     have HA:=qa (HR.out.1 rfl)
     have HTO:Hid (qc8 b n l):=HFI.out n l HOK.out (by rw[HA.out.len];exact hcnt) (HA.out.all hk)
     clear hv hk HR HC
     go_wp2_with fail
     refine HEN.out.mono ?_
     rintro r w6 ⟨rfl,q,rfl⟩
     have HB6:Hid (Below w.heap.size w (wk.drewN q)):=js HB.out _
     have HT6:Hid (TabM (wk.drewN q) w.heap.size S G n l):=HT.out.out (X:=fun _=>False) ((Out.refl _ _).drewN q) fun _ _ h=>h
     clear HEN
     go_wp2_with fail
     go_ret2
     exact .inl ⟨G,S,n,l,rfl,HTO.out,HT6.out,fun k hk=>(HT.out.mine k hk).1,HB6.out⟩
    ·
     have HNO:Hid (∀n l,¬qc8 b n l):=by
      by_cases he:e=0
      ·
       subst he
       have hk:k<bs.length:=by
        unfold qhy at hv
        rw[if_neg (by simp)] at hv
        by_cases hk:k<bs.length
        ·
         exact hk
        ·
         rw[if_neg hk] at hv
         exact absurd hv.symm hv0
       intro n' l' ht
       obtain⟨h1,h2,h3⟩:=HIF.out _ _ ht
       exact(HR.out.1 rfl).no_end hk n' l' h1 h2 h3
      ·
       exact(HR.out.2 he).2
     clear hv HR HC
     go_wp2_with fail
     refine HEN.out.mono ?_
     rintro r w6 ⟨rfl,q,rfl⟩
     have HB6:Hid (Below w.heap.size w (wk.drewN q)):=js HB.out _
     clear HEN
     go_wp2_with fail
     go_ret2
     exact qm2.no HNO.out HB6.out
def LoadR(w w':World)(lo C:Nat)(M:Nat→Prop)(es:List En)(s:ByteArray)(b:List UInt8)(r:Ending):Prop :=
 (qfc es s≠0∧r= .returned (.int .i64 (qfc es s))∧w=w')∨
  (qfc es s=0∧((∃n l M' g S,qc8 b n l∧r= .returned (.int .i64 0)∧CatE w' lo M' C (es++[⟨s,g,S,n,l⟩])∧Step w w' M M')∨((∀n l,¬qc8 b n l)∧r= .returned (.int .i64 4)∧Below w.heap.size w w')))
theorem load_v{w:World}{lo C:Nat}{M:Nat→Prop}{es:List En}(h:CatE w lo M C es)(s:ByteArray)(hs:s.size≤9223372036854775807){b:List UInt8}{A:Option Addr}{c:Nat}(hb:Rd w 0 w.heap.size A c (bv b))(hbl:b.length≤1000000000) :
  Calls Tryz.prog 20 #[.pointer (some ⟨C,0,none⟩),.string s,.slice A b.length c] w fun r w'=>LoadR w w' lo C M es s b r:=by
 have hf:=free_v h s hs
 obtain⟨v,hv⟩:∃v,qfc es s=v:=⟨_,rfl⟩
 rw[hv] at hf
 have HF:=qa hf
 have HV:=qa hv
 have HH:=qa h
 have HRD:=qa (read19_v hb hbl)
 clear hf hv h hb
 go_enter Tryz.func20,Tryz.ntmps20
 go_wp2_with fail
 refine HF.out.mono ?_
 rintro r w1 ⟨rfl,rfl⟩
 clear HF
 by_cases hv0:v=0
 case neg =>
  clear HRD
  go_wp2_with fail
  go_ret
  exact .inl ⟨by rw[HV.out];exact hv0,by rw[HV.out];rfl,rfl⟩
 subst hv0
 go_wp2_with fail
 refine HRD.out.mono ?_
 rintro r w2 (⟨G,S,n,l,rfl,hto,ht,hS,hb2⟩ | ⟨rfl,hno,hb2⟩)
 case inr =>
  have HNO:=qa hno
  have HB2:=qa hb2
  clear hno hb2 HRD
  go_wp2_with fail
  go_ret
  exact .inr ⟨HV.out,.inr ⟨HNO.out,rfl,HB2.out⟩⟩
 obtain⟨a1,a2,a3⟩:=free_zero HV.out
 have hlo:lo≤w.heap.size:=by have:=(HH.out.mine C HH.out.own).1;have:=HH.out.lt;omega
 have HP:=qa (put_v (HH.out.below hb2) s a1 a2 a3 (ht.lower hlo) hto.1 (fun k hk hm=>by have:=(HH.out.mine k hm).2;have:=hS k hk;omega))
 have HTO:=qa hto
 have HS:=qa hS
 have HB2:=qa hb2
 clear hto ht hS hb2 HRD a1 a2 a3
 go_wp2_with fail
 refine HP.out.mono ?_
 rintro r w3 ⟨rfl,M',hc,ho,hm⟩
 have HC:=qa hc
 have HO:=qa ho
 have HM:=qa hm
 clear hc ho hm HP
 go_wp2_with fail
 go_ret
 refine .inr ⟨HV.out,.inl ⟨n,l,M',G,S,HTO.out,rfl,HC.out,⟨(Out.of_below HB2.out).trans HO.out (fun _ _ h=>h),fun k hk => ?_⟩⟩⟩
 rcases HM.out k hk with h | h | h
 ·
  exact .inl h
 ·
  exact .inr (HS.out k h)
 ·
  exact .inr (zc HB2.out.size h)
theorem free_yes{es:List En}{s:ByteArray}(h:1≤s.size∧s.size≤32)(hn:∀e∈es,e.name≠s)(hl:es.length<16):qfc es s=0:=by
 unfold qfc
 rw[if_neg (c:=¬(1≤s.size∧s.size≤32)) (fun h2=>h2 h),qlo hn]
 simp
 omega
theorem CatE.low{w:World}{lo C:Nat}{M:Nat→Prop}{es:List En}(h:CatE w lo M C es):lo≤w.heap.size:=by
 have:=(h.mine C h.own).1
 have:=h.lt
 omega
theorem CatE.after{w w':World}{lo C B:Nat}{M:Nat→Prop}{es:List En}(h:CatE w lo M C es)(ho:Out w w' M)(hB:B≤lo):Below B w w':=ho.below (zc hB h.low) fun k hk=>zc hB (h.mine k hk).1
theorem tab_none19{n:Nat}(h:1≤n∧n≤8):qc8 (vn (xf n (vb []))) n []:=⟨TbOk.nil h,qj _,rfl⟩
theorem small19:(xf 1 (vb [])).length≤100∧(vn (xf 1 (vb []))).length≤100:=by
 have h:xf 1 (vb [])=[1,0]:=by
  unfold xf
  rw[k8 (by decide),show(vb []).length=0 from rfl,k8 (by decide)]
  rfl
 rw[ut,h]
 decide
theorem qja{w:World}:Calls Tryz.prog 8 #[] w fun r w'=>r= .returned (.bool true)∧Below w.heap.size w w':=by
 go_enter Tryz.func8,Tryz.ntmps8
 go_wp2_with fail
 refine qkv.mono ?_
 rintro r w1 ⟨rfl,hc,hb⟩
 have B1:=qa hb
 obtain⟨C,hC⟩:∃C,w.heap.size=C:=⟨_,rfl⟩
 rw[hC] at hc ⊢
 have HC:=qa hC
 have HCR:=qa (qhl hc ⟨#[116]⟩ (by decide) 1)
 have hv:qex [] ⟨#[116]⟩ 1=0:=by decide +kernel
 rw[hv] at HCR
 have hlo:=hc.low
 have HC1:=qa hc
 clear hc hb hC hv
 go_wp2_with fail
 refine HCR.out.mono ?_
 rintro r w2 ⟨rfl,⟨h0, -⟩ | ⟨-,M2,g,S,hc,hst⟩⟩
 ·
  exact absurd rfl h0
 have B2:Hid (Below C w1 w2):=HC1.out.after hst.out (qc _)
 obtain⟨es,hes⟩:∃es:List En,[]++[(⟨⟨#[116]⟩,g,S,(1:Int).toNat,[]⟩:En)]=es:=⟨_,rfl⟩
 rw[hes] at hc
 have hel:es.length=1:=by rw[←hes];rfl
 have hk0:0<es.length:=by omega
 have he0:es[0]'hk0=⟨⟨#[116]⟩,g,S,1,[]⟩:=by subst hes;rfl
 have hen:(es[0]'hk0).name=⟨#[116]⟩:=by rw[he0]
 have hsome:ptOf es ⟨#[116]⟩=some ⟨g,0,none⟩:=by rw[qer hk0 hen hc.names,he0]
 have HCR2:=qa (qhl hc ⟨#[116]⟩ (by decide) 1)
 have hv2:qex es ⟨#[116]⟩ 1=7:=by
  unfold qex qfc
  rw[hsome,if_neg (by decide),if_neg (by decide)]
  rfl
 rw[hv2] at HCR2
 have hex:=exp_yes hc ⟨#[116]⟩ hk0 hen (by rw[he0];exact qj _) (T:=xf 1 (vb [])) (X:=vn (xf 1 (vb []))) (by rw[he0]) rfl (zc small19.1 (by decide))
 obtain⟨X,hX⟩:∃X,vn (xf 1 (vb []))=X:=⟨_,rfl⟩
 have hxl:X.length≤100:=by rw[←hX];exact small19.2
 rw[hX] at hex
 have HEX:=qa hex
 have HX:=qa hX
 have HC2:=qa hc
 have HEL:=qa hel
 have HES:=qa hes
 clear hc hst hes hel hk0 he0 hen hsome hv2 hex hX HCR
 go_wp2_with fail
 refine HCR2.out.mono ?_
 rintro r w3 ⟨rfl,⟨-,rfl⟩ | ⟨h0, -⟩⟩
 case inr=>exact absurd h0 (by decide)
 clear HCR2
 go_wp2_with fail
 refine HEX.out.mono ?_
 rintro r w4 ⟨A4,c4,rfl,ho4,hb4⟩
 have hc4:=HC2.out.below hb4
 have B4:Hid (Below C w2 w4):=hb4.mono HC2.out.low
 have hfr:qfc es ⟨#[117]⟩=0:=free_yes (by decide) (fun e he=>by
  rw[←HES.out] at he
  obtain rfl:=q8.1 he
  show(⟨#[116]⟩:ByteArray)≠⟨#[117]⟩
  decide) (by rw[HEL.out];decide)
 have HLD:=qa (load_v hc4 ⟨#[117]⟩ (by decide) ((Rd.of_own ho4).wide (qj _) (qc _)) (by omega))
 have HFR:=qa hfr
 have HC4:=qa hc4
 clear hb4 ho4 hc4 hfr HEX
 go_wp2_with fail
 refine HLD.out.mono ?_
 rintro r w5 (⟨h0, -⟩ | ⟨-,⟨n,l,M5,g5,S5,hto,rfl,hc5,hst⟩ | ⟨hno, -⟩⟩)
 ·
  exact absurd HFR.out h0
 case inr.inr=>exact absurd (by rw[←HX.out];exact tab_none19 (by decide)) (hno 1 [])
 have B5:Hid (Below C w4 w5):=HC4.out.after hst.out (qc _)
 obtain⟨fs,hfs⟩:∃fs:List En,es++[(⟨⟨#[117]⟩,g5,S5,n,l⟩:En)]=fs:=⟨_,rfl⟩
 rw[hfs] at hc5
 have hfl:fs.length=2:=by rw[←hfs,qd,HEL.out];rfl
 have hf0:∃h:0<fs.length,(fs[0]'h).name=⟨#[116]⟩:=by
  rw[←hfs,←HES.out]
  exact⟨by simp,rfl⟩
 have HRN:=qa (rows_no hc5 ⟨#[118]⟩ (by decide) (fun e he=>by
  rw[←hfs,←HES.out] at he
  rcases zn.1 he with he | he
  ·
   obtain rfl:=q8.1 he
   show(⟨#[116]⟩:ByteArray)≠⟨#[118]⟩
   decide
  ·
   obtain rfl:=q8.1 he
   show(⟨#[117]⟩:ByteArray)≠⟨#[118]⟩
   decide))
 have HNM:=qa (names_v hc5)
 have HC5:=qa hc5
 have HFL:=qa hfl
 have HF0:=qa hf0
 clear hto hc5 hst hfs hfl hf0 HLD
 go_wp2_with fail
 refine HRN.out.mono ?_
 rintro r w6 ⟨rfl,rfl⟩
 clear HRN
 go_wp2_with fail
 refine HNM.out.mono ?_
 rintro r w7 ⟨t,A7,c7,rfl, -,htl, -,hb7⟩
 rw[HFL.out] at htl
 obtain⟨h0,hn0⟩:=HF0.out
 have HDR:=qa (drop_yes (HC5.out.below hb7) ⟨#[116]⟩ h0 hn0)
 have B7:Hid (Below C w5 w7):=hb7.mono HC5.out.low
 have HC7:=qa (HC5.out.below hb7)
 have htl2:(t.length:Int)=2:=by omega
 clear hb7 htl HNM h0 hn0 HF0
 go_wp2_with fail
 refine HDR.out.mono ?_
 rintro r w8 ⟨rfl, -,ho⟩
 have B8:Hid (Below C w7 w8):=HC7.out.after ho (qc _)
 clear ho HDR
 go_wp2_with fail
 go_ret
 refine⟨rfl,?_⟩
 have b1:=B1.out
 rw[HC.out] at b1
 have hfin:=((((b1.trans B2.out).trans B4.out).trans B5.out).trans B7.out).trans B8.out
 rw[←HC.out] at hfin
 exact hfin
theorem codeO_all(l:List ByteArray)(o:Co):qlc l o:=fun _ _ {_ _ _} h=>code_v h rfl
theorem codeG_all(gs:List (List (List Vl)))(os:List Co):CodeG gs os:=⟨fun o _ _=>codeO_all _ o,fun _ _ _ _ _=>codeO_all _ _⟩
theorem ql1{g:List (List Vl)}{os:List Co}{b:Nat}:∀ {j:Nat},(∀i,i<j→(qga (ko g i) (qc5 os i) b).length≤2000000)→(qb6 g os b j).length≤2000000*j
 | 0,_=>by simp[qb6]
 | j+1,h=>by
  have h1:=ql1 (j:=j) fun i hi=>h i (by omega)
  have h2:=h j (by omega)
  rw[qhm,qd]
  omega
theorem qfp{g:List (List Vl)}:∀ {gs:List (List (List Vl))},g∈gs→g.length≤vo gs
 | x :: gs,h=>by
  show g.length≤x.length+vo gs
  rcases zv.1 h with rfl | h
  ·
   omega
  ·
   have:=qfp h
   omega
theorem qlv{os:List Co}{b:Nat}:∀ {gs:List (List (List Vl))},(∀g∈gs,(qlw os b g).length≤16000010)→(qbx os b gs).length≤16000010*gs.length
 | [],_=>by simp[qbx]
 | g :: gs,h=>by
  have h1:=qlv (gs:=gs) fun x hx=>h x (jb _ hx)
  have h2:=h g zr
  show(qlw os b g++qbx os b gs).length≤_
  rw[qd,qo]
  omega
theorem segB_len{gs:List (List (List Vl))}{os:List Co}{cols:Int}{b:Nat}(hR:qaf cols gs os (b:Int))(hT:qf7 gs os)(hF:FewSg gs os):(qgn os b gs).length≤900000000:=by
 have hG:qm4 gs os:=few_gr hF fun g hg=>(hR.2.2.2.2.2.2.2 g hg).2.1
 have hw:=colW_of hR hT hG
 obtain⟨a1,a2,a3,a4,a5,a6,a7,a8⟩:=hR
 have h8:os.length≤8:=by omega
 have h40:=hF.groups
 have hcol:∀g∈gs,∀i,i<os.length→(qga (ko g i) (qc5 os i) b).length≤2000000:=fun g hg i hi=>by
  have h:=(hw g hg).2 i hi
  have h1:=qlz (qj8 (qr (ko g i))) (b:=b) (by have:=h.few;omega) h.bits
  have h3:=qko (g:=g) (k:=i) fun r hr=>by rw[(a8 g hg).2.1 r hr];exact hi
  have h4:=qkp hg
  have h5:=hF.bytes
  have h6:=qfp hg
  have h7:=hF.rows
  have h2:=qk5 h.fits h.ok h.tab (by rw[qd1];omega) (by omega)
  rw[qga,qd]
  omega
 have hgrp:∀g∈gs,(qlw os b g).length≤16000010:=fun g hg=>by
  have h1:=ql1 (hcol g hg)
  have h6:=qfp hg
  have h2:=qba 8 g.length (by have:=hF.rows;omega)
  rw[qlw,qd]
  omega
 have h1:=qlv hgrp
 have h2:=qba 8 os.length (by omega)
 have h3:=qba 8 gs.length (by omega)
 rw[qgn,qd,qd]
 omega
theorem seg_facts{gs:List (List (List Vl))}{os:List Co}{cols bits:Int}(hR:qaf cols gs os bits)(hT:qf7 gs os)(hF:FewSg gs os):∃(bs:List UInt8) (GS:List GrpS),vn (qgn os bits.toNat gs)=bs∧xo bs os.length GS∧qd7 GS=gs.flatten∧vi GS=vo gs∧GS.length=gs.length∧
  (∀i (hi:i<gs.length) (h2:i<GS.length),GS[i].rows=gs[i].length∧GS[i].cols.length=os.length)∧(4≤bs.length∧bs.length≤1000000000)∧∀k (hk:k<bs.length) (y:UInt8),kj (bs.set k y)=decide (y=bs[k]):=by
 have hbits:(bits.toNat:Int)=bits:=by have:=hR.2.2.2.1;omega
 have hR2:qaf cols gs os (bits.toNat:Int):=by rw[hbits];exact hR
 have hfg:qm4 gs os:=few_gr hF fun g hg=>(hR.2.2.2.2.2.2.2 g hg).2.1
 have hle:=segB_len hR2 hT hF
 refine⟨_,gs.map (qjl os bits.toNat),rfl,sg_there hR2 hT hfg,rowsS_of hR2 hT hfg,rowsT_of os bits.toNat gs,qz _,fun i hi h2 => ?_,?_,fun k hk y=>sealedB_set hk y⟩
 ·
  rw[j5]
  exact⟨rfl,by simp[qjl]⟩
 ·
  rw[ut]
  omega
theorem ka.cut{w:World}{lo hi c k m:Nat}{A:Option Addr}{rs:List (List Vl)}(h:ka w lo hi A c rs)(hk:k≤m)(hm:m≤rs.length):ka w lo hi (if c=k then A else A.map (·.add k)) (c-k) ((rs.drop k).take (m-k)):=by
 obtain⟨xs,hr,hx⟩:=h.cells
 have hxl:=hx.1
 refine qek.rows (xs:=(xs.drop k).take (m-k)) ⟨by simp[hxl],fun j hj => ?_⟩ (hr.cut hk (by omega))
 have hj1:j<m-k∧k+j<rs.length:=by simp at hj;omega
 obtain⟨A',c',h1,h2⟩:=hx.2 (k+j) hj1.2
 refine⟨A',c',?_,?_⟩
 ·
  rw[qa0 hj1.1,List.getElem?_drop,h1,qag,List.getElem_drop]
 ·
  rw[qag,List.getElem_drop]
  exact h2
theorem ka.take{w:World}{lo hi c:Nat}{A:Option Addr}{rs:List (List Vl)}(h:ka w lo hi A c rs)(k:Nat):ka w lo hi A c (rs.take k):=by
 obtain⟨xs,hr,hx⟩:=h.cells
 have hxl:=hx.1
 refine qek.rows (xs:=xs.take k) ⟨by simp[hxl],fun j hj => ?_⟩ (hr.take_ k)
 have hj1:j<k∧j<rs.length:=by simp at hj;omega
 obtain⟨A',c',h1,h2⟩:=hx.2 j hj1.2
 exact⟨A',c',by rw[qa0 hj1.1,h1,qag],by rw[qag];exact h2⟩
section
open Go.RowKit Go.ChangeShapes Go.WideShapes Go.ChangeAt
variable {H:Type}{enc:TypeId×Value→H}{P:Program}{W:World}
theorem qh0{e:TypeId}:∀ {ds:List (DataW H)} {j:Nat} {d:DataW H},ds[j]? = some d→∀n∈d.weights P e,n∈DataW.weightsAll P e ds
 | d0 :: ds,0,d,hd,n,hn=>by
  simp only[zf,Option.some.injEq] at hd
  subst hd
  simp only[DataW.weightsAll,zn]
  exact Or.inl hn
 | d0 :: ds,j+1,d,hd,n,hn=>by
  simp only[zg] at hd
  simp only[DataW.weightsAll,zn]
  exact Or.inr (qh0 hd n hn)
 | [],_,_,hd,_,_=>by simp at hd
theorem qlq{t e:TypeId}{fuel k:Nat}{cs:List Value}{x:DataW H×List MemPlace}(ht:P.underlying t=some (.slice e))(hk:P.cellsOf e=k)(h0:0<k)(hb1:1≤P.bytesOf e)
  (h:DataW.trod enc P W 0 (fun _=>true) true fuel t cs=some x) (hz:∀n∈x.1.weights P t,n≤reachBytes) :
  ∃(A:Option Addr) (c:Nat) (css:List (List Value)) (m:Nat),m<fuel∧cs=[.slice A css.length c]∧Els W 0 W.heap.size A c k css.length (fun j i=>(css[j]?).bind (·[i]?))∧css.length≤reachBytes∧
   ∀j (hj:j<css.length),css[j].length=k∧∃y,DataW.trod enc P W 0 (fun _=>true) true m e css[j]=some y∧∀n∈y.1.weights P e,n≤reachBytes:=by
 rcases DataW.trod_slice ht h with ⟨rfl,_⟩ | ⟨a,len,cap,elems,rest,n,rfl,rfl,hx,hb,hl,hm,hlen,hel,_,_⟩
 ·
  refine⟨none,0,[],0,?_,rfl,Els.nil _ _ _ _ _,qj _,fun j hj=>absurd hj (jm j)⟩
  cases fuel with
  | zero=>simp[DataW.trod] at h
  | succ n=>omega
 ·
  have hw:x.1= .slice (elems.map (·.1)) (rest.map (·.1)):=by rw[hx]
  have hlw:len≤reachBytes:=by
   have h1:=hz (((elems.map (·.1)).length+(rest.map (·.1)).length)*P.bytesOf e) (by rw[hw];simp[DataW.weights,ht])
   rw[qz,qz] at h1
   have h2:(elems.length+rest.length)*1≤(elems.length+rest.length)*P.bytesOf e:=qbl _ hb1
   omega
  have hew:∀(i:Nat) (y:DataW H×List MemPlace),elems[i]? = some y→∀n∈y.1.weights P e,n≤reachBytes:=fun i y hy n hn=>by
   refine hz n ?_
   rw[hw]
   have h3:(elems.map (·.1))[i]? = some y.1:=by rw[qah,hy];rfl
   have h4:=qh0 h3 n hn
   simp only[DataW.weights,ht,zv,zn]
   exact Or.inr (Or.inl h4)
  have hex:∀i,i<len→∃cs',W.cells? 0 (a.add (i*k)) k=some cs'∧∃y,DataW.trod enc P W 0 (fun _=>true) true n e cs'=some y∧∀n∈y.1.weights P e,n≤reachBytes:=fun i hi=>by
   have h1:=hel i hi
   rw[hk] at h1
   have h2:elems[i]? = some elems[i]:=qe (by omega)
   rw[h2,Option.bind_eq_some_iff] at h1
   obtain⟨cs',h3,h4⟩:=h1
   exact⟨cs',h3,_,h4,hew i _ h2⟩
  obtain⟨css,hcl,hcs⟩:=qhf hex
  subst hcl
  refine⟨some a,cap,css,n,Nat.lt_succ_self n,rfl,⟨hl,hm,fun hp => ?_⟩,hlw,fun j hj=>⟨(World.cells?_some (hcs j hj).1).2.1,(hcs j hj).2⟩⟩
  have hfirst:∃u,W.cell? a=some u:=by
   obtain⟨_,h2,h3⟩:=World.cells?_some (hcs 0 hp).1
   have h4:=h3 0 h0
   rw[Nat.zero_mul,show(a.add 0).add 0=a from rfl,qe (by omega)] at h4
   exact⟨_,h4⟩
  obtain⟨u,hu⟩:=hfirst
  obtain⟨b,off,spot⟩:=a
  have hspot:spot=none:=World.cell?_spot hu
  subst hspot
  have hlt:b<W.heap.size:=km W _ hu
  have hadd2:∀o d,(⟨b,o,none⟩:Addr).add d=⟨b,o+d,none⟩:=fun o d=>by unfold Addr.add;by_cases h:d=0 <;> simp[h]
  refine⟨b,off,rfl,qj _,hlt,fun j hj i hi => ?_⟩
  obtain⟨_,h2,h3⟩:=World.cells?_some (hcs j hj).1
  have h4:=h3 i hi
  rw[hadd2,hadd2] at h4
  rw[h4,qe hj]
  rfl
end
section
set_option maxRecDepth 100000
open Go.RowKit Go.ChangeShapes Go.WideShapes Go.ChangeAt
variable {H:Type}{enc:TypeId×Value→H}{W:World}
def SizedR(r:List Vl):Prop:=r.length≤140737488355328∧∀v∈r,v.s.size≤140737488355328
theorem row_fuelZ{fuel:Nat}{cs:List Value}{x:DataW H×List MemPlace}(h:DataW.trod enc Tryz.prog W 0 (fun _=>true) true fuel 73 cs=some x)(hz:∀n∈x.1.weights Tryz.prog 73,n≤reachBytes) :
  ∃A r c,cs=[.slice A r.length c]∧Row W 0 W.heap.size A c r∧SizedR r:=by
 have c1:Tryz.prog.cellsOf 4=1:=by kernel_rfl
 have c2:Tryz.prog.cellsOf 9=1:=by kernel_rfl
 have c6:Tryz.prog.cellsOf 72=2:=by kernel_rfl
 have c7:1≤Tryz.prog.bytesOf 72:=by rw[show Tryz.prog.bytesOf 72=24 by kernel_rfl];omega
 have hrb:=reachBytes_lt
 obtain⟨A,c,css,m,hm,e5,hels,hlen5,hcs⟩:=qlq Tryz.underlying73 c6 (by omega) c7 h hz
 have hv:∀j,j<css.length→∃v:Vl,css[j]? = some (qli v)∧v.s.size≤9223372036854775807∧v.s.size≤140737488355328:=fun j hj=>by
  obtain⟨_,y,hy,hyz⟩:=hcs j hj
  obtain⟨xs,n,rfl,rfl,hl,hlen,hf⟩:=DataW.trod_struct Tryz.underlying72 hy
  have hx2:xs.length=2:=hlen
  have h0:=hf 0 _ rfl
  have h1:=hf 1 _ rfl
  rw[qe (by omega)] at h0 h1
  have hl2:css[j].length=2:=hl.trans (by kernel_rfl)
  obtain⟨l,hle⟩:∃l,css[j]=l:=⟨_,rfl⟩
  rw[hle] at hl2 h0 h1
  match l,hl2 with
  | [a0,a1],_ =>
   obtain⟨z0,e0,_⟩:=DataW.trod_bool Tryz.underlying4 h0
   obtain⟨s1,e1,hx1,w1⟩:=DataW.trod_string Tryz.underlying9 h1
   simp[c1,c2] at e0 e1
   subst e0 e1
   have hs47:s1.size≤140737488355328:=by
    have hm1:s1.data.toList.length∈(DataW.agg (xs.map (·.1)):DataW H).weights Tryz.prog 72:=by
     have hws:(DataW.agg (xs.map (·.1)):DataW H).weights Tryz.prog 72=DataW.weightsEach Tryz.prog [4,9] (xs.map (·.1)):=by
      simp only[DataW.weights,Tryz.underlying72]
      rfl
     rw[hws]
     refine DataW.weights_mem_each (j:=1) (t:=9) (d:=xs[1].1) rfl (by rw[qah,qe (by omega)];rfl) _ ?_
     rw[hx1]
     simp[DataW.weights]
    have:=hyz _ hm1
    have h3:s1.data.toList.length=s1.size:=by simp
    omega
   exact⟨⟨z0,s1⟩,by rw[qe hj,hle];rfl,w1,hs47⟩
 obtain⟨r,hrl,hr⟩:=qhf hv
 refine⟨A,r,c,by rw[e5,hrl],⟨?_,fun v hvm => ?_⟩,by omega,fun v hvm => ?_⟩
 ·
  rw[hrl]
  refine⟨hels.len,hels.cap,fun hp => ?_⟩
  obtain⟨b,off,g1,g2,g3,g4⟩:=hels.lies hp
  refine⟨b,off,g1,g2,g3,fun j hj i hi=>(g4 j hj i hi).trans ?_⟩
  have hjq:j<r.length:=by omega
  have:=(hr j hjq).1
  simp[this,qe hjq]
 ·
  obtain⟨j,hj,rfl⟩:=zl hvm
  exact(hr j hj).2.1
 ·
  obtain⟨j,hj,rfl⟩:=zl hvm
  exact(hr j hj).2.2
def SizedQ(g:List (List Vl)):Prop:=g.length≤140737488355328∧∀r∈g,SizedR r
theorem rows_fuelZ{fuel:Nat}{cs:List Value}{x:DataW H×List MemPlace}(h:DataW.trod enc Tryz.prog W 0 (fun _=>true) true fuel 28 cs=some x)(hz:∀n∈x.1.weights Tryz.prog 28,n≤reachBytes) :
  ∃A rs c,cs=[.slice A rs.length c]∧ka W 0 W.heap.size A c rs∧SizedQ rs:=by
 have c1:Tryz.prog.cellsOf 73=1:=by kernel_rfl
 have c7:1≤Tryz.prog.bytesOf 73:=by rw[show Tryz.prog.bytesOf 73=24 by kernel_rfl];omega
 have hrb:=reachBytes_lt
 obtain⟨A,c,css,m,hm,e5,hels,hlen5,hcs⟩:=qlq Tryz.underlying28 c1 (by omega) c7 h hz
 have hv:∀j,j<css.length→∃q:List Vl×Option Addr×Nat,css[j]? = some [.slice q.2.1 q.1.length q.2.2]∧Row W 0 W.heap.size q.2.1 q.2.2 q.1∧SizedR q.1:=fun j hj=>by
  obtain⟨_,y,hy,hyz⟩:=hcs j hj
  obtain⟨A',r,c',he,hr,hs⟩:=row_fuelZ hy hyz
  exact⟨(r,A',c'),by rw[qe hj,he],hr,hs⟩
 obtain⟨qs,hql,hqs⟩:=qhf hv
 refine⟨A,qs.map (·.1),c,by rw[e5,qz,hql],⟨fun j=>(qs[j]?).bind (·.2.1),fun j=>((qs[j]?).map (·.2.2)).getD 0,?_,fun j hj => ?_⟩,by rw[qz];omega,fun r hr => ?_⟩
 ·
  rw[qz,hql]
  refine⟨hels.len,hels.cap,fun hp => ?_⟩
  obtain⟨b,off,g1,g2,g3,g4⟩:=hels.lies hp
  refine⟨b,off,g1,g2,g3,fun j hj i hi=>(g4 j hj i hi).trans ?_⟩
  have hjq:j<qs.length:=by omega
  have:=(hqs j hjq).1
  simp[this,qe hjq]
 ·
  rw[qz] at hj
  simp only[j5,qe hj,vc,Option.map_some,Option.getD_some]
  exact(hqs j hj).2.1
 ·
  obtain⟨q,hq,rfl⟩:=za.1 hr
  obtain⟨j,hj,rfl⟩:=zl hq
  exact(hqs j hj).2.2
theorem open_grpsZ{b0:Nat}{v:Value}{d:DataW H}{q:List MemPlace}(hok:Value.okWide Tryz.prog W .any b0 55 v)(h:DataW.Trod enc Tryz.prog W 0 (fun _=>true) true 55 v d q)(hz:∀n∈d.weights Tryz.prog 55,n≤reachBytes) :
  ∃A gs c,v= .slice A gs.length c∧qbg W 0 W.heap.size A c gs∧SizedG gs:=by
 obtain⟨a0,l0,c0,rfl⟩:=okWide_slice Tryz.underlying55 hok
 obtain⟨fuel,hf⟩:=h
 have c1:Tryz.prog.cellsOf 28=1:=by kernel_rfl
 have c7:1≤Tryz.prog.bytesOf 28:=by rw[show Tryz.prog.bytesOf 28=24 by kernel_rfl];omega
 obtain⟨A,c,css,m,hm,e5,hels,hlen5,hcs⟩:=qlq Tryz.underlying55 c1 (by omega) c7 hf hz
 have hv:∀j,j<css.length→∃q:List (List Vl)×Option Addr×Nat,css[j]? = some [.slice q.2.1 q.1.length q.2.2]∧ka W 0 W.heap.size q.2.1 q.2.2 q.1∧SizedQ q.1:=fun j hj=>by
  obtain⟨_,y,hy,hyz⟩:=hcs j hj
  obtain⟨A',r,c',he,hr,hs⟩:=rows_fuelZ hy hyz
  exact⟨(r,A',c'),by rw[qe hj,he],hr,hs⟩
 obtain⟨qs,hql,hqs⟩:=qhf hv
 refine⟨A,qs.map (·.1),c,?_,⟨fun j=>(qs[j]?).bind (·.2.1),fun j=>((qs[j]?).map (·.2.2)).getD 0,?_,fun j hj => ?_⟩,fun g hg => ?_⟩
 ·
  simp[Value.cells] at e5
  obtain⟨rfl,rfl,rfl⟩:=e5
  rw[qz,hql]
 ·
  rw[qz,hql]
  refine⟨hels.len,hels.cap,fun hp => ?_⟩
  obtain⟨b,off,g1,g2,g3,g4⟩:=hels.lies hp
  refine⟨b,off,g1,g2,g3,fun j hj i hi=>(g4 j hj i hi).trans ?_⟩
  have hjq:j<qs.length:=by omega
  have:=(hqs j hjq).1
  simp[this,qe hjq]
 ·
  rw[qz] at hj
  simp only[j5,qe hj,vc,Option.map_some,Option.getD_some]
  exact(hqs j hj).2.1
 ·
  obtain⟨q,hq,rfl⟩:=za.1 hg
  obtain⟨j,hj,rfl⟩:=zl hq
  exact(hqs j hj).2.2
end
end Go.Proofs.YtjfecojdagmacaaGreat
