/-
  Lemmas.
-/
import Derived.Test.YtjfecojdagmacaaGreatD23
import Derived.ChangeOld
import Derived.OpenShut
import Derived.ShutString
namespace Go.Proofs.YtjfecojdagmacaaGreat
open Go.RowKit
set_option maxRecDepth 20000
set_option maxHeartbeats 16000000
set_option linter.unusedSimpArgs false
set_option linter.unusedVariables false
theorem number_any{w:World}{lo g k:Nat}{bs:List UInt8}{e:Int}(h:vx w lo g bs k e) :
  Calls Tryz.prog 66 #[cp g] w fun r w'=>r= .returned (.int .i64 ((jw bs k e 9223372036854775807).1:Int))∧
   vx w' lo g bs (jw bs k e 9223372036854775807).2.1 (jw bs k e 9223372036854775807).2.2∧w.grownBy w' (some g):=by
 have HM:=qa (qeu 9223372036854775807 h)
 clear h
 generalize jw bs k e 9223372036854775807=M at *
 go_enter Tryz.func66,Tryz.ntmps66
 go_wp2_with fail
 refine HM.out.mono ?_
 rintro r w1 ⟨rfl,hc1,hg1⟩
 have HC:=qa hc1
 clear hc1
 go_wp2_with fail
 go_ret
 exact⟨rfl,HC.out,hg1⟩
def qqb(w w':World)(lo:Nat)(b:List UInt8)(r:Ending):Prop :=
 (∃G S n l,r= .returned (.tuple #[.pointer (some ⟨G,0,none⟩),.int .i64 0])∧qf6 b n l∧TabM w' lo S G n l∧(∀k,S k→w.heap.size≤k)∧Below w.heap.size w w')∨
  (r= .returned (.tuple #[.pointer none,.int .i64 4])∧(∀n l,¬qf6 b n l)∧Below w.heap.size w w')
theorem qqb.no{w w':World}{lo:Nat}{b:List UInt8}(h:∀n l,¬qf6 b n l)(hb:Below w.heap.size w w'):qqb w w' lo b (.returned (.tuple #[.pointer none,.int .i64 4])):= .inr ⟨rfl,h,hb⟩
theorem flat_len(l:List Pt):l.length≤(ko (k9 l)).length:=by
 induction l with
 | nil=>simp
 | cons p l ih =>
  rw[show k9 (p :: l)=p.b :: k9 l from rfl,flatB_cons,qd,qd,qw]
  have:=qnz p.b.length
  omega
theorem RdAt.few{bs:List UInt8}{n cnt i k:Nat}{l:List Pt}(h:RdAt bs n cnt i k l):l.length≤bs.length:=by
 have h1:=flat_len l
 have h2:=congrArg List.length h.lies
 rw[qd,qd] at h2
 omega
theorem takeR_nil{bs:List UInt8}{k:Nat}{e:Int}{s:Nat}{n:Int}(h:(jo bs k e s n).2.2≠0):(jo bs k e s n).1=[]:=by
 unfold jo at h ⊢
 by_cases h1:e≠0
 ·
  rw[if_pos h1]
 ·
  rw[if_neg h1] at h ⊢
  by_cases h2:n<0
  ·
   rw[if_pos h2]
  ·
   rw[if_neg h2] at h ⊢
   by_cases h3:(bs.length:Int)-k-s<n
   ·
    rw[if_pos h3]
   ·
    rw[if_neg h3] at h
    exact absurd rfl h
theorem qqj(bs:List UInt8)(k:Nat)(e:Int)(n:Int):(jo bs k e 0 n).1.length≤bs.length:=by
 unfold jo
 by_cases h1:e≠0
 ·
  rw[if_pos h1];exact qi _
 ·
  rw[if_neg h1]
  by_cases h2:n<0
  ·
   rw[if_pos h2];exact qi _
  ·
   rw[if_neg h2]
   by_cases h3:(bs.length:Int)-k-(0:Nat)<n
   ·
    rw[if_pos h3];exact qi _
   ·
    rw[if_neg h3,qz,qy]
    omega
theorem open19{w:World}{b:List UInt8}{A:Option Addr}{c:Nat}(h:Rd w 0 w.heap.size A c (bv b))(hbl:b.length≤1000000000) :
  Calls Tryz.prog 63 #[.slice A b.length c] w fun r w'=>∃(A':Option Addr) (c':Nat) (bs:List UInt8),r= .returned (.tuple #[.slice A' bs.length c',.bool (qak b)])∧Rd w' 0 w'.heap.size A' c' (bv bs)∧bs.length≤1000000000∧(qak b=true→bs=b.take (b.length-4))∧Below w.heap.size w w':=by
 by_cases h4:b.length<4
 ·
  refine(open_short b h (qc _) h4).mono ?_
  rintro r w' ⟨rfl,hb⟩
  have hs:qak b=false:=by
   unfold qak
   rw[qr (by omega)]
   rfl
  rw[hs]
  exact⟨none,0,[],rfl,Rd.nil _ _ _,qi _,fun h=>(by cases h),hb⟩
 ·
  cases hs:qak b with
  | false =>
   refine(open_no b h (qc _) (by omega) hs).mono ?_
   rintro r w' ⟨rfl,hb⟩
   exact⟨none,0,[],rfl,Rd.nil _ _ _,qi _,fun h=>(by cases h),hb⟩
  | true =>
   refine(open_yes b h (qc _) hs hbl).mono ?_
   rintro r w' ⟨A',c',rfl,ho,hb⟩
   have hl:(b.take (b.length-4)).length=b.length-4:=by rw[qz];omega
   exact⟨A',c',b.take (b.length-4),by rw[hl],(Rd.of_own ho).wide (qi _) (qc _),by omega,fun _=>rfl,hb⟩
theorem read19_v{w:World}{b:List UInt8}{A:Option Addr}{c:Nat}(h:Rd w 0 w.heap.size A c (bv b))(hbl:b.length≤1000000000) :
  Calls Tryz.prog 42 #[.slice A b.length c] w fun r w'=>qqb w w' w.heap.size b r:=by
 have HOP:=qa (open19 h hbl)
 clear h
 go_enter Tryz.func42,Tryz.ntmps42
 go_wp2_with fail
 refine HOP.out.mono ?_
 rintro r w1 ⟨A1,c1,bs,rfl,hr1,hl1,hbs,hb1⟩
 have HB1:=qa hb1
 have HBS:=qa hbs
 have HNW:=qa (new_any bs w1 hr1 (by omega))
 obtain⟨sl,hsl⟩:∃sl,qak b=sl:=⟨_,rfl⟩
 rw[hsl] at HBS ⊢
 have HSL:=qa hsl
 clear hb1 hbs hr1 HOP hsl
 go_wp2_with fail
 refine HNW.out.mono ?_
 rintro r w2 ⟨g,rfl,hcur,hb2⟩
 have HB2:Hid (Below w.heap.size w w2):=HB1.out.trans (hb2.mono HB1.out.size)
 have hlo:=hcur.base
 have hlo1:w.heap.size≤g:=zb HB1.out.size hlo
 obtain⟨n,k0,e0,hM⟩:∃n k0 e0,jw bs 0 0 8=(n,k0,e0):=⟨_,_,_,rfl⟩
 have hmo:=qeu 8 hcur
 rw[hM] at hmo
 have HMO:=qa hmo
 have HM:=qa hM
 have hn8:n≤8:=by
  have:=qc5 bs 0 0 8
  rw[hM] at this
  simp only at this
  omega
 clear hcur hb2 hmo HNW hM
 unfold cp at HMO
 go_wp2_with fail
 refine HMO.out.mono ?_
 rintro r w3 ⟨rfl,hcur,hg3⟩
 have HB3:Hid (Below w.heap.size w w3):=HB2.out.grown hg3 HB2.out.size (fun q hq=>by cases hq;exact hlo1)
 have HCU:=qa hcur
 have hgl:=hcur.lt
 clear hg3 HMO hcur
 have hbuild:∀W,(Instr.build 82 #[(0,.int .i64 (n:Int))]).run Tryz.prog W= .ok (.agg #[.int .i64 (n:Int),.int .i64 0,.slice none 0 0]) W:=fun W=>run_build W _ _ _ (by kernel_rfl)
 obtain⟨w4,hw4⟩:∃x,Hid (w3.alloc (.cells #[.int .i64 (n:Int),.int .i64 0,.slice none 0 0] 82)=x):=⟨_,rfl⟩
 have b4:Below w3.heap.size w3 w4:=by rw[←hw4.out];exact(Below.refl _ w3).alloc (qc _) _
 have HB4:Hid (Below w.heap.size w w4):=HB3.out.trans (b4.mono HB3.out.size)
 have ht4:TabM w4 w.heap.size (fun k=>k=w3.heap.size) w3.heap.size n []:=by rw[←hw4.out];exact(TabM.new w3 n).lower HB3.out.size
 have HT4:=qa ht4
 have HC4:Hid (vx w4 w1.heap.size g bs k0 e0):=HCU.out.out (X:=fun _=>False) (Out.of_below b4) fun _ _ h=>h
 have c0:w4.cell? ⟨w3.heap.size,0,none⟩=some (.int .i64 (n:Int)):=by rw[←hw4.out];exact(yy.new w3 _ _).cell 0
 obtain⟨G,hG⟩:∃G,w3.heap.size=G:=⟨_,rfl⟩
 have hGg:g<G:=by omega
 have hGw:w.heap.size≤G:=by omega
 clear b4 ht4 HCU
 cases sl with
 | false =>
  have HNO:Hid (∀n l,¬qf6 b n l):=not_tab HSL.out
  clear c0 HT4 HC4
  go_wp2_with fail
  go_ret2
  first | exact qqb.no HNO.out HB4.out | (have hb4:=HB4.out;rw[←hw4.out] at hb4;exact qqb.no HNO.out hb4)
 | true =>
  obtain rfl:bs=b.take (b.length-4):=HBS.out rfl
  have HIF:Hid (∀n l,qf6 b n l→TbOk n l∧l.length≤9223372036854775807∧b.take (b.length-4)=vd n (k9 l)):=fun n l=>(qlq HSL.out).1
  have HFI:Hid (∀n l,TbOk n l→l.length≤9223372036854775807→b.take (b.length-4)=vd n (k9 l)→qf6 b n l):=fun n l h1 h2 h3=>(qlq HSL.out).2 ⟨h1,h2,h3⟩
  generalize b.take (b.length-4)=bs at *
  clear HBS HSL
  by_cases hn0:n=0
  ·
   have i0:(n:Int)=0:=by omega
   have HNO:Hid (∀n l,¬qf6 b n l):=fun n' l' ht=>by
    obtain⟨h1,h2,h3⟩:=HIF.out _ _ ht
    have h4:=ut (bs:=bs) (k:=0) (n:=n') (m:=8) (rest:=ji (k9 l').length++ko (k9 l')) (by rw[jy,h3,vd,qp]) (by have:=h1.cols;omega) (by have:=h1.cols;omega)
    rw[HM.out] at h4
    injection h4 with h4
    have:=h1.cols
    omega
   clear HT4 HC4
   rw[←hw4.out] at c0
   go_wp2_with fail
   go_ret2
   have hb4:=HB4.out
   rw[←hw4.out,i0] at hb4
   exact qqb.no HNO.out hb4
  have i0:¬(n:Int)=0:=by omega
  have he0:e0=0:=Classical.byContradiction fun he=>by
   have:=qk7 (bs:=bs) (k:=0) (e:=0) (m:=8) (by rw[HM.out];exact he)
   rw[HM.out] at this
   exact hn0 this
  subst he0
  have hnu:=number_any HC4.out
  obtain⟨cnt,k1,e1,hN⟩:∃cnt k1 e1,jw bs k0 0 9223372036854775807=(cnt,k1,e1):=⟨_,_,_,rfl⟩
  rw[hN] at hnu
  have HNU:=qa hnu
  have HN:=qa hN
  have hcnt:cnt≤9223372036854775807:=by
   have:=qc5 bs k0 0 9223372036854775807
   rw[hN] at this
   simp only at this
   omega
  unfold cp at HNU
  clear hnu hN HC4
  rw[←hw4.out] at c0
  go_wp2_with fail
  rw[hw4.out]
  refine HNU.out.mono ?_
  rintro r w5 ⟨rfl,hcur,hg5⟩
  have o5:Out w4 w5 (fun k=>k=g):=Out.of_gb hg5 fun k hk=>(zr hk).symm
  have HB5:Hid (Below w.heap.size w w5):=HB4.out.grown hg5 HB4.out.size (fun q hq=>by cases hq;exact hlo1)
  have HT5:Hid (TabM w5 w.heap.size (fun k=>k=G) G n []):=by
   have:=HT4.out
   rw[hG] at this
   exact this.out o5 fun k hk hx=>by omega
  have HC5:=qa hcur
  have HR5:Hid ((e1=0→RdAt bs n cnt 0 k1 [])∧(e1≠0→cnt=0∧∀n l,¬qf6 b n l)):=by
   refine⟨fun he => ?_,fun he=>⟨?_,fun n' l' ht => ?_⟩⟩
   ·
    exact RdAt.start HM.out (by rw[HN.out,he])
   ·
    have:=qk7 (bs:=bs) (k:=k0) (e:=0) (m:=9223372036854775807) (by rw[HN.out];exact he)
    rw[HN.out] at this
    exact this
   ·
    obtain⟨h1,h2,h3⟩:=HIF.out _ _ ht
    have h4:=ut (bs:=bs) (k:=0) (n:=n') (m:=8) (rest:=ji (k9 l').length++ko (k9 l')) (by rw[jy,h3,vd,qp]) (by have:=h1.cols;omega) (by have:=h1.cols;omega)
    rw[HM.out] at h4
    injection h4 with h4 h5
    injection h5 with h5 _
    obtain⟨a1,a2,a3,a4,a5⟩:=qbp (qi _) HM.out
    have h6:bs.drop k0=ji (k9 l').length++ko (k9 l'):=by
     rw[jy,h3,vd,qp,←h4] at a3
     rw[h3,vd,qp,←h4]
     exact(vi a3).symm
    have h7:=ut (m:=9223372036854775807) h6 (by rw[qc3];omega) (by rw[qc3];omega)
    rw[HN.out] at h7
    injection h7 with _ h7
    injection h7 with _ h7
    exact he h7
  have hs4:=HB4.out.size
  clear o5 hg5 hcur HNU HT4 HM HN HB4 hw4 c0 HB3 HB2 HB1
  go_wp2_with fail
  go_loopw [30] (fun x30 wr=>∃(i k:Nat) (e:Int) (l:List Pt) (S:Nat→Prop),i≤cnt∧x30= .int .i64 (i:Int)∧Hid ((e=0→RdAt bs n cnt i k l)∧(e≠0→cnt=0∧∀n l,¬qf6 b n l))∧Hid (TbOk n l)∧Hid (vx wr w1.heap.size g bs k e)∧Hid (TabM wr w.heap.size S G n l)∧Hid (∀k,S k→g<k)∧Below w.heap.size w wr) (fun x30 _=>cnt-(intOf x30).toNat)
  case atStart=>exact⟨0,k1,e1,[],_,qi _,rfl,HR5.out,TbOk.nil (by omega),HC5.out,HT5.out,fun k hk=>by omega,HB5.out⟩
  case round =>
   clear HR5 HC5 HT5 HB5
   obtain⟨i,k,e,l,S,hi,rfl,HR,HOK,HC,HT,HS,hb⟩:=hrel
   obtain⟨wk,rfl⟩:∃x,x=wr:=⟨_,rfl⟩
   have HB:=qa hb
   have hsz:=hb.size
   clear hb
   by_cases hlt:i<cnt
   ·
    have ii:(i:Int)<(cnt:Int):=by omega
    have he0:e=0:=Classical.byContradiction fun he=>by have:=(HR.out.2 he).1;omega
    subst he0
    have HA:=qa (HR.out.1 rfl)
    have hnu:=number_any HC.out
    obtain⟨s,k1,e1,hN⟩:∃s k1 e1,jw bs k 0 9223372036854775807=(s,k1,e1):=⟨_,_,_,rfl⟩
    rw[hN] at hnu
    have HNU:=qa hnu
    have HN:=qa hN
    unfold cp at HNU
    clear hnu hN HR HC
    go_wp2_with fail
    refine HNU.out.mono ?_
    rintro r w6 ⟨rfl,hcur,hg6⟩
    have o6:Out wk w6 (fun k=>k=g):=Out.of_gb hg6 fun k hk=>(zr hk).symm
    have HB6:Hid (Below w.heap.size w w6):=HB.out.grown hg6 hsz (fun q hq=>by cases hq;exact hlo1)
    have HT6:Hid (TabM w6 w.heap.size S G n l):=HT.out.out o6 fun k hk hx=>by have:=HS.out k hk;omega
    have hby:=qe8 (s:Int) hcur (by omega)
    obtain⟨x,k2,e2,hX⟩:∃x k2 e2,jo bs k1 e1 0 (s:Int)=(x,k2,e2):=⟨_,_,_,rfl⟩
    rw[hX] at hby
    have hxl:x.length≤1000000000:=by
     have:=qqj bs k1 e1 (s:Int)
     rw[hX] at this
     simp only at this
     omega
    have HBY:=qa hby
    have HX:=qa hX
    unfold cp at HBY
    clear o6 hg6 hcur hby hX HNU HT HB
    go_wp2_with fail
    refine HBY.out.mono ?_
    rintro r w7 ⟨A7,c7,rfl,ho7,hcur,hg7⟩
    have o7:Out w6 w7 (fun k=>k=g):=Out.of_gb hg7 fun k hk=>(zr hk).symm
    have HB7:Hid (Below w.heap.size w w7):=HB6.out.grown hg7 HB6.out.size (fun q hq=>by cases hq;exact hlo1)
    have HT7:Hid (TabM w7 w.heap.size S G n l):=HT6.out.out o7 fun k hk hx=>by have:=HS.out k hk;omega
    have HC7:=qa hcur
    have HAD:=qa (tadd_v HT7.out HOK.out.tot (by have:=HA.out.few;omega) ((Rd.of_own ho7).wide (qi _) (qc _)) hxl)
    clear o7 hg7 ho7 hcur HBY HT6 HB6
    go_wp2_with fail
    refine HAD.out.mono ?_
    rintro r w8 (⟨gs,S',rfl,hro,htot,ht8,hst⟩ | ⟨e,rfl,hee,hb8⟩)
    ·
     have hx4:=hro.len4
     have he2:e2=0:=Classical.byContradiction fun he=>by
      have:=takeR_nil (bs:=bs) (k:=k1) (e:=e1) (s:=0) (n:=(s:Int)) (by rw[HX.out];exact he)
      rw[HX.out] at this
      simp only at this
      rw[this] at hx4
      simp at hx4
     subst he2
     have he1:e1=0:=Classical.byContradiction fun he=>by
      have:=qcx bs k1 e1 0 (s:Int) he
      rw[HX.out] at this
      injection this with h1 _
      rw[h1] at hx4
      simp at hx4
     subst he1
     have HA8:=qa (HA.out.step hlt HN.out HX.out hro)
     have HOK8:Hid (TbOk n (l++[⟨x,gs⟩])):=⟨HOK.out.cols,fun p hp=>by
      rcases zm.1 hp with hp | hp
      ·
       exact HOK.out.read p hp
      ·
       obtain rfl:=ze.1 hp;exact hro,fun p hp=>by
      rcases zm.1 hp with hp | hp
      ·
       exact HOK.out.size p hp
      ·
       obtain rfl:=ze.1 hp;exact hxl,by rw[qgn];exact htot⟩
     have HT8:=qa ht8
     have HC8:Hid (vx w8 w1.heap.size g bs k2 0):=HC7.out.out hst.out fun q hq hs=>by have:=HS.out q hs;omega
     have hgs:=HC7.out.lt
     have HS8:Hid (∀k,S' k→g<k):=fun q hq=>(hst.more q hq).elim (HS.out q) fun h=>by omega
     have HB8:Hid (Below w.heap.size w w8):=HB7.out.trans (hst.out.below HB7.out.size fun q hq=>(HT7.out.mine q hq).1)
     clear hro htot ht8 hst HAD HT7 HC7 HB7 hx4
     go_wp2_with fail
     go_roundw
     case rel=>exact⟨i+1,k2,0,_,S',by omega,by go_num,⟨fun _=>HA8.out,fun h=>absurd rfl h⟩,HOK8.out,HC8.out,HT8.out,HS8.out,HB8.out⟩
     case measure=>simp[intOf];omega
    ·
     have hne:¬e=0:=by rcases hee with ⟨rfl,_⟩ | ⟨rfl,_⟩ <;> decide
     have HNO:Hid (∀n l,¬qf6 b n l):=fun n' l' ht=>by
      obtain⟨h1,h2,h3⟩:=HIF.out _ _ ht
      by_cases he1:e1=0
      ·
       subst he1
       by_cases he2:e2=0
       ·
        subst he2
        refine HA.out.no_part hlt HN.out HX.out (fun gs hg => ?_) n' l' h1 h2 h3
        rcases hee with ⟨_,h5⟩ | ⟨_,gs',h5,h6⟩
        ·
         exact absurd hg (h5 gs)
        ·
         rw[hg.same h5];exact h6
       ·
        exact HA.out.no_bytes hlt HN.out (by rw[HX.out];exact he2) n' l' h1 h2 h3
      ·
       exact HA.out.no_num hlt (by rw[HN.out];exact he1) n' l' h1 h2 h3
     have HB8:Hid (Below w.heap.size w w8):=HB7.out.trans (hb8.mono HB7.out.size)
     clear hee hb8 HAD HT7 HC7 HB7
     go_wp2_with fail
     go_ret2
     exact qqb.no HNO.out HB8.out
   ·
    have ii:¬(i:Int)<(cnt:Int):=by omega
    obtain rfl:i=cnt:=by omega
    have HEN:=qa (end_any HC.out)
    obtain⟨v,hv⟩:∃v,qkj bs k e=v:=⟨_,rfl⟩
    rw[hv] at HEN
    unfold cp at HEN
    by_cases hv0:v=0
    ·
     subst hv0
     have he:e=0∧¬k<bs.length:=by
      unfold qkj at hv
      split at hv
      ·
       exact absurd hv ‹_›
      ·
       split at hv
       ·
        exact absurd hv (by decide)
       ·
        exact⟨by omega,‹_›⟩
     obtain⟨rfl,hk⟩:=he
     have HA:=qa (HR.out.1 rfl)
     have HTO:Hid (qf6 b n l):=HFI.out n l HOK.out (by rw[HA.out.len];exact hcnt) (HA.out.all hk)
     clear hv hk HR HC
     go_wp2_with fail
     refine HEN.out.mono ?_
     rintro r w6 ⟨rfl,q,rfl⟩
     have HB6:Hid (Below w.heap.size w (wk.drewN q)):=zj HB.out _
     have HT6:Hid (TabM (wk.drewN q) w.heap.size S G n l):=HT.out.out (X:=fun _=>False) ((Out.refl _ _).drewN q) fun _ _ h=>h
     clear HEN
     go_wp2_with fail
     go_ret2
     exact .inl ⟨G,S,n,l,rfl,HTO.out,HT6.out,fun k hk=>(HT.out.mine k hk).1,HB6.out⟩
    ·
     have HNO:Hid (∀n l,¬qf6 b n l):=by
      by_cases he:e=0
      ·
       subst he
       have hk:k<bs.length:=by
        unfold qkj at hv
        rw[if_neg (by simp)] at hv
        by_cases hk:k<bs.length
        ·
         exact hk
        ·
         rw[if_neg hk] at hv
         exact absurd hv.symm hv0
       intro n' l' ht
       obtain⟨h1,h2,h3⟩:=HIF.out _ _ ht
       exact(HR.out.1 rfl).no_end hk n' l' h1 h2 h3
      ·
       exact(HR.out.2 he).2
     clear hv HR HC
     go_wp2_with fail
     refine HEN.out.mono ?_
     rintro r w6 ⟨rfl,q,rfl⟩
     have HB6:Hid (Below w.heap.size w (wk.drewN q)):=zj HB.out _
     clear HEN
     go_wp2_with fail
     go_ret2
     exact qqb.no HNO.out HB6.out
def LoadR(w w':World)(lo C:Nat)(M:Nat→Prop)(es:List En)(s:ByteArray)(b:List UInt8)(r:Ending):Prop :=
 (qhh es s≠0∧r= .returned (.int .i64 (qhh es s))∧w=w')∨
  (qhh es s=0∧((∃n l M' g S,qf6 b n l∧r= .returned (.int .i64 0)∧CatE w' lo M' C (es++[⟨s,g,S,n,l⟩])∧Step w w' M M')∨((∀n l,¬qf6 b n l)∧r= .returned (.int .i64 4)∧Below w.heap.size w w')))
theorem load_v{w:World}{lo C:Nat}{M:Nat→Prop}{es:List En}(h:CatE w lo M C es)(s:ByteArray)(hs:s.size≤9223372036854775807){b:List UInt8}{A:Option Addr}{c:Nat}(hb:Rd w 0 w.heap.size A c (bv b))(hbl:b.length≤1000000000) :
  Calls Tryz.prog 20 #[.pointer (some ⟨C,0,none⟩),.string s,.slice A b.length c] w fun r w'=>LoadR w w' lo C M es s b r:=by
 have hf:=free_v h s hs
 obtain⟨v,hv⟩:∃v,qhh es s=v:=⟨_,rfl⟩
 rw[hv] at hf
 have HF:=qa hf
 have HV:=qa hv
 have HH:=qa h
 have HRD:=qa (read19_v hb hbl)
 clear hf hv h hb
 go_enter Tryz.func20,Tryz.ntmps20
 go_wp2_with fail
 refine HF.out.mono ?_
 rintro r w1 ⟨rfl,rfl⟩
 clear HF
 by_cases hv0:v=0
 case neg =>
  clear HRD
  go_wp2_with fail
  go_ret
  exact .inl ⟨by rw[HV.out];exact hv0,by rw[HV.out];rfl,rfl⟩
 subst hv0
 go_wp2_with fail
 refine HRD.out.mono ?_
 rintro r w2 (⟨G,S,n,l,rfl,hto,ht,hS,hb2⟩ | ⟨rfl,hno,hb2⟩)
 case inr =>
  have HNO:=qa hno
  have HB2:=qa hb2
  clear hno hb2 HRD
  go_wp2_with fail
  go_ret
  exact .inr ⟨HV.out,.inr ⟨HNO.out,rfl,HB2.out⟩⟩
 obtain⟨a1,a2,a3⟩:=free_zero HV.out
 have hlo:lo≤w.heap.size:=by have:=(HH.out.mine C HH.out.own).1;have:=HH.out.lt;omega
 have HP:=qa (put_v (HH.out.below hb2) s a1 a2 a3 (ht.lower hlo) hto.1 (fun k hk hm=>by have:=(HH.out.mine k hm).2;have:=hS k hk;omega))
 have HTO:=qa hto
 have HS:=qa hS
 have HB2:=qa hb2
 clear hto ht hS hb2 HRD a1 a2 a3
 go_wp2_with fail
 refine HP.out.mono ?_
 rintro r w3 ⟨rfl,M',hc,ho,hm⟩
 have HC:=qa hc
 have HO:=qa ho
 have HM:=qa hm
 clear hc ho hm HP
 go_wp2_with fail
 go_ret
 refine .inr ⟨HV.out,.inl ⟨n,l,M',G,S,HTO.out,rfl,HC.out,⟨(Out.of_below HB2.out).trans HO.out (fun _ _ h=>h),fun k hk => ?_⟩⟩⟩
 rcases HM.out k hk with h | h | h
 ·
  exact .inl h
 ·
  exact .inr (HS.out k h)
 ·
  exact .inr (zb HB2.out.size h)
theorem free_yes{es:List En}{s:ByteArray}(h:1≤s.size∧s.size≤32)(hn:∀e∈es,e.name≠s)(hl:es.length<16):qhh es s=0:=by
 unfold qhh
 rw[if_neg (c:=¬(1≤s.size∧s.size≤32)) (fun h2=>h2 h),qhx hn]
 simp
 omega
theorem CatE.low{w:World}{lo C:Nat}{M:Nat→Prop}{es:List En}(h:CatE w lo M C es):lo≤w.heap.size:=by
 have:=(h.mine C h.own).1
 have:=h.lt
 omega
theorem CatE.after{w w':World}{lo C B:Nat}{M:Nat→Prop}{es:List En}(h:CatE w lo M C es)(ho:Out w w' M)(hB:B≤lo):Below B w w':=ho.below (zb hB h.low) fun k hk=>zb hB (h.mine k hk).1
theorem tab_none19{n:Nat}(h:1≤n∧n≤8):qf6 (vo (vd n (k9 []))) n []:=⟨TbOk.nil h,qi _,rfl⟩
theorem small19:(vd 1 (k9 [])).length≤100∧(vo (vd 1 (k9 []))).length≤100:=by
 have h:vd 1 (k9 [])=[1,0]:=by
  unfold vd
  rw[qap (by decide),show(k9 []).length=0 from rfl,qap (by decide)]
  rfl
 rw[qc2,h]
 decide
theorem awake19_v{w:World}:Calls Tryz.prog 8 #[] w fun r w'=>r= .returned (.bool true)∧Below w.heap.size w w':=by
 go_enter Tryz.func8,Tryz.ntmps8
 go_wp2_with fail
 refine new19_v.mono ?_
 rintro r w1 ⟨rfl,hc,hb⟩
 have B1:=qa hb
 obtain⟨C,hC⟩:∃C,w.heap.size=C:=⟨_,rfl⟩
 rw[hC] at hc ⊢
 have HC:=qa hC
 have HCR:=qa (create19_v hc ⟨#[116]⟩ (by decide) 1)
 have hv:qj6 [] ⟨#[116]⟩ 1=0:=by decide +kernel
 rw[hv] at HCR
 have hlo:=hc.low
 have HC1:=qa hc
 clear hc hb hC hv
 go_wp2_with fail
 refine HCR.out.mono ?_
 rintro r w2 ⟨rfl,⟨h0, -⟩ | ⟨-,M2,g,S,hc,hst⟩⟩
 ·
  exact absurd rfl h0
 have B2:Hid (Below C w1 w2):=HC1.out.after hst.out (qc _)
 obtain⟨es,hes⟩:∃es:List En,[]++[(⟨⟨#[116]⟩,g,S,(1:Int).toNat,[]⟩:En)]=es:=⟨_,rfl⟩
 rw[hes] at hc
 have hel:es.length=1:=by rw[←hes];rfl
 have hk0:0<es.length:=by omega
 have he0:es[0]'hk0=⟨⟨#[116]⟩,g,S,1,[]⟩:=by subst hes;rfl
 have hen:(es[0]'hk0).name=⟨#[116]⟩:=by rw[he0]
 have hsome:ptOf es ⟨#[116]⟩=some ⟨g,0,none⟩:=by rw[qgt hk0 hen hc.names,he0]
 have HCR2:=qa (create19_v hc ⟨#[116]⟩ (by decide) 1)
 have hv2:qj6 es ⟨#[116]⟩ 1=7:=by
  unfold qj6 qhh
  rw[hsome,if_neg (by decide),if_neg (by decide)]
  rfl
 rw[hv2] at HCR2
 have hex:=exp_yes hc ⟨#[116]⟩ hk0 hen (by rw[he0];exact qi _) (T:=vd 1 (k9 [])) (X:=vo (vd 1 (k9 []))) (by rw[he0]) rfl (zb small19.1 (by decide))
 obtain⟨X,hX⟩:∃X,vo (vd 1 (k9 []))=X:=⟨_,rfl⟩
 have hxl:X.length≤100:=by rw[←hX];exact small19.2
 rw[hX] at hex
 have HEX:=qa hex
 have HX:=qa hX
 have HC2:=qa hc
 have HEL:=qa hel
 have HES:=qa hes
 clear hc hst hes hel hk0 he0 hen hsome hv2 hex hX HCR
 go_wp2_with fail
 refine HCR2.out.mono ?_
 rintro r w3 ⟨rfl,⟨-,rfl⟩ | ⟨h0, -⟩⟩
 case inr=>exact absurd h0 (by decide)
 clear HCR2
 go_wp2_with fail
 refine HEX.out.mono ?_
 rintro r w4 ⟨A4,c4,rfl,ho4,hb4⟩
 have hc4:=HC2.out.below hb4
 have B4:Hid (Below C w2 w4):=hb4.mono HC2.out.low
 have hfr:qhh es ⟨#[117]⟩=0:=free_yes (by decide) (fun e he=>by
  rw[←HES.out] at he
  obtain rfl:=ze.1 he
  show(⟨#[116]⟩:ByteArray)≠⟨#[117]⟩
  decide) (by rw[HEL.out];decide)
 have HLD:=qa (load_v hc4 ⟨#[117]⟩ (by decide) ((Rd.of_own ho4).wide (qi _) (qc _)) (by omega))
 have HFR:=qa hfr
 have HC4:=qa hc4
 clear hb4 ho4 hc4 hfr HEX
 go_wp2_with fail
 refine HLD.out.mono ?_
 rintro r w5 (⟨h0, -⟩ | ⟨-,⟨n,l,M5,g5,S5,hto,rfl,hc5,hst⟩ | ⟨hno, -⟩⟩)
 ·
  exact absurd HFR.out h0
 case inr.inr=>exact absurd (by rw[←HX.out];exact tab_none19 (by decide)) (hno 1 [])
 have B5:Hid (Below C w4 w5):=HC4.out.after hst.out (qc _)
 obtain⟨fs,hfs⟩:∃fs:List En,es++[(⟨⟨#[117]⟩,g5,S5,n,l⟩:En)]=fs:=⟨_,rfl⟩
 rw[hfs] at hc5
 have hfl:fs.length=2:=by rw[←hfs,qd,HEL.out];rfl
 have hf0:∃h:0<fs.length,(fs[0]'h).name=⟨#[116]⟩:=by
  rw[←hfs,←HES.out]
  exact⟨by simp,rfl⟩
 have HRN:=qa (rows_no hc5 ⟨#[118]⟩ (by decide) (fun e he=>by
  rw[←hfs,←HES.out] at he
  rcases zm.1 he with he | he
  ·
   obtain rfl:=ze.1 he
   show(⟨#[116]⟩:ByteArray)≠⟨#[118]⟩
   decide
  ·
   obtain rfl:=ze.1 he
   show(⟨#[117]⟩:ByteArray)≠⟨#[118]⟩
   decide))
 have HNM:=qa (names_v hc5)
 have HC5:=qa hc5
 have HFL:=qa hfl
 have HF0:=qa hf0
 clear hto hc5 hst hfs hfl hf0 HLD
 go_wp2_with fail
 refine HRN.out.mono ?_
 rintro r w6 ⟨rfl,rfl⟩
 clear HRN
 go_wp2_with fail
 refine HNM.out.mono ?_
 rintro r w7 ⟨t,A7,c7,rfl, -,htl, -,hb7⟩
 rw[HFL.out] at htl
 obtain⟨h0,hn0⟩:=HF0.out
 have HDR:=qa (drop_yes (HC5.out.below hb7) ⟨#[116]⟩ h0 hn0)
 have B7:Hid (Below C w5 w7):=hb7.mono HC5.out.low
 have HC7:=qa (HC5.out.below hb7)
 have htl2:(t.length:Int)=2:=by omega
 clear hb7 htl HNM h0 hn0 HF0
 go_wp2_with fail
 refine HDR.out.mono ?_
 rintro r w8 ⟨rfl, -,ho⟩
 have B8:Hid (Below C w7 w8):=HC7.out.after ho (qc _)
 clear ho HDR
 go_wp2_with fail
 go_ret
 refine⟨rfl,?_⟩
 have b1:=B1.out
 rw[HC.out] at b1
 have hfin:=((((b1.trans B2.out).trans B4.out).trans B5.out).trans B7.out).trans B8.out
 rw[←HC.out] at hfin
 exact hfin
theorem same_any{w:World}{lo h' lo2 h2:Nat}{A B:Option Addr}{c d:Nat}(xs ys:List UInt8)(hx:Rd w lo h' A c (bv xs))(hy:Rd w lo2 h2 B d (bv ys)) :
  Calls Tryz.prog 18 #[.slice A xs.length c,.slice B ys.length d] w fun r w'=>r= .returned (.bool (decide (xs=ys)))∧w=w':=by
 have h1:=ul (P:=Tryz.prog) w 36 9 5 Tryz.underlying36 Tryz.underlying5 Tryz.underlying9 lo h' A c xs hx
 have h2:=ul (P:=Tryz.prog) w 36 9 5 Tryz.underlying36 Tryz.underlying5 Tryz.underlying9 lo2 h2 B d ys hy
 clear hx hy
 go_enter Tryz.func18,Tryz.ntmps18
 go_wp2
 go_ret
 refine⟨xg ?_,rfl⟩
 by_cases h:xs=ys
 ·
  simp[h]
 ·
  simp[h]
section
open Go.ChangeShapes Go.WideShapes Go.ChangeAt Go.RowKit
theorem own:ownKnob Tryz.prog.godebug=none:=by kernel_rfl
theorem laidOut:laidOutB Tryz.prog=true:=by kernel_rfl
theorem qmg{H:Type}{enc:TypeId×Value→H}{P:Program}(hl:laidOutB P=true){W W':World}(hb:Below W.heap.size W W') :
  ∀(ts:List TypeId) (vs:List Value) (ds:List (DataW H)) (ps:List MemPlace),(ts.all fun t=>P.readableRec t&&decide (t<P.types.size))=true→
   DataW.TrodAll enc P W 0 (fun _=>true) true ts vs ds ps→DataW.TrodAll enc P W' 0 (fun b=>decide (b<W.heap.size)) true ts vs ds ps
 | [],[],[],_,_,h=>h
 | [],[],_ :: _,_,_,h=>h.elim
 | [],_ :: _,_,_,_,h=>by cases ‹List (DataW H)› <;> exact h.elim
 | _ :: _,[],_,_,_,h=>by cases ‹List (DataW H)› <;> exact h.elim
 | _ :: _,_ :: _,[],_,_,h=>h.elim
 | t :: ts,v :: vs,d :: ds,ps,hr,h=>by
  obtain⟨p,q,h1,h2,h3⟩:=h
  simp only[List.all_cons,yx,decide_eq_true_eq] at hr
  refine⟨p,q,Below.trod hl hr.1.1 hr.1.2 h1 hb ?_,qmg hl hb ts vs ds q hr.2 h2,h3⟩
  intro x hx
  obtain⟨m,hm⟩:=h1
  exact DataW.trod_lt m _ _ _ hm x hx
theorem open_bytes{H:Type}{enc:TypeId×Value→H}{P:Program}{W:World}{b0:Nat}{t e:TypeId}{v:Value}{d:DataW H}{p:List MemPlace}(ht:P.underlying t=some (.slice e))(he:P.underlying e=some (.int .u8))(hc:P.cellsOf e=1)
  (hok:Value.okWide P W .any b0 t v) (h:DataW.Trod enc P W 0 (fun _=>true) true t v d p):∃(A:Option Addr) (bs:List UInt8) (c:Nat),v= .slice A bs.length c∧Rd W 0 W.heap.size A c (bv bs):=by
 obtain⟨a0,len0,cap0,rfl⟩:=okWide_slice ht hok
 obtain⟨fuel,hf⟩:=h
 rcases open_ints ht he hc hf with ⟨hcs,_⟩ | ⟨x,l,c,zs,hcs,_,hl,hm,hz,_,hcell,hwz⟩
 ·
  simp[Value.cells] at hcs
  obtain⟨rfl,rfl,rfl⟩:=hcs
  exact⟨none,[],0,rfl,Rd.nil _ _ _⟩
 ·
  simp[Value.cells] at hcs
  obtain⟨rfl,rfl,rfl⟩:=hcs
  have hz':zs.length=cap0:=by simpa using hz
  refine⟨some x,(zs.take len0).map fun n=>UInt8.ofNat n.toNat,cap0,?_,?_,hm,?_⟩
  ·
   simp;omega
  ·
   simp[bv];omega
  ·
   intro hp
   have hp':0<len0:=by simp[bv] at hp;omega
   have h0:=hcell 0 (by omega)
   obtain⟨b,off,spot⟩:=x
   have hspot:spot=none:=by simpa[Addr.add] using World.cell?_spot h0
   subst hspot
   refine⟨b,off,rfl,qi _,?_,fun j u hu => ?_⟩
   ·
    have:=ya W _ h0
    simpa[Addr.add] using this
   ·
    have hj:j<len0:=by
     rcases vf j len0 with h1 | h1
     ·
      exact h1
     ·
      rw[yh (by simp[bv];omega)] at hu;cases hu
    have hjz:j<zs.length:=by omega
    have h1:=hcell j hjz
    have e1:(⟨b,off,none⟩:Addr).add j=⟨b,off+j,none⟩:=by unfold Addr.add;by_cases h0:j=0 <;> simp[h0]
    rw[e1] at h1
    rw[h1]
    have hw:=hwz zs[j] (ql hjz)
    have hbd:0≤zs[j]∧zs[j]<256:=by
     have:=bounds_u8 hw
     omega
    simp only[bv,qac,qae,uq,if_pos hj,qe hjz,Option.map_some,Function.comp] at hu
    rw[←hu,List.getD,qe hjz,qax]
    congr 2
    rw[jq]
    omega
end
end Go.Proofs.YtjfecojdagmacaaGreat
