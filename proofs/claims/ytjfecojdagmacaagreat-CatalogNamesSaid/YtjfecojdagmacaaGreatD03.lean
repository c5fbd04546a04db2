/-
  Lemmas.
-/
import Derived.Test.YtjfecojdagmacaaGreatD02
namespace Go.Proofs.YtjfecojdagmacaaGreat
open Go.RowKit
set_option maxRecDepth 20000
set_option maxHeartbeats 16000000
set_option linter.unusedSimpArgs false
set_option linter.unusedVariables false
theorem filled_any{w:World}(bs:List UInt8)(n:Nat)(hl:bs.length=(n+7)/8)(hn:n≤1000000000000){lo h':Nat}{A:Option Addr}{c:Nat}(h:Rd w lo h' A c (bv bs)) :
  Calls Tryz.prog 189 #[.slice A bs.length c,.int .i64 (n:Int)] w fun r w'=>r= .returned (.bool (decide (qbf bs<2 ^ n)))∧w=w':=by
 have hll:=h.len
 have hc:=h.cap
 rw[yf] at hll
 unfold maxLen at hc
 have H:=qa h
 clear h
 by_cases hr:n%8=0
 ·
  have HT:Hid (decide (qbf bs<2 ^ n)=true):=qx (filled_all bs n hl hr)
  have h8:((n:Int)%8==0)=true:=by rw[beq_iff_eq];omega
  have hlb:bs.length≤(n+7)/8:=qej hl
  clear hl hr
  go_enter Tryz.func189,Tryz.ntmps189
  go_wp2
  go_ret
  exact⟨xg HT.out.symm,rfl⟩
 ·
  have hp:0<bs.length:=by omega
  have HF:=qa (filled_iff bs n hl hr)
  have h8:((n:Int)%8==0)=false:=by rw[q9];omega
  have hlb:bs.length≤(n+7)/8:=qej hl
  obtain⟨b,off,rfl,_,_,hcell⟩:=H.out.byte (k:=bs.length-1) (by omega)
  rw[last_get bs hp] at hcell
  generalize bs.getLastD 0=x8 at *
  have hx:=jj x8
  generalize x8.toNat=x at *
  clear hl
  go_enter Tryz.func189,Tryz.ntmps189
  go_wp2
  go_ret
  refine⟨xg ?_,rfl⟩
  have e:(x:Int)/2 ^ (n%8)=((x/2 ^ (n%8):Nat):Int):=by push_cast;rfl
  rw[e,Bool.eq_iff_iff,beq_iff_eq,decide_eq_true_iff,←HF.out]
  omega
def qde(bs:List UInt8)(n wd k:Nat)(e:Int):List Nat×Nat×Int :=
 if e≠0 then ([],k,e) else if wd=wide (z8 (qch bs wd n))∧qbf bs<2 ^ (n*wd) then (qch bs wd n,k,0) else ([],k,3)
def qfs(wd:Nat)(e:Int):Int:=if wd≤32 then e else if e=0 then 3 else e
def qd9(bs:List UInt8)(n wd k:Nat)(e:Int):List Nat×Nat×Int :=
 qde (jo bs k (qfs wd e) 0 (((n*wd+7)/8:Nat):Int)).1 n wd (jo bs k (qfs wd e) 0 (((n*wd+7)/8:Nat):Int)).2.1 (jo bs k (qfs wd e) 0 (((n*wd+7)/8:Nat):Int)).2.2
def qa4(bs:List UInt8)(k:Nat)(e most:Int):List Nat×Nat×Int :=
 qd9 bs (jw bs k e (min most 2147483647)).1 ((jo bs (jw bs k e (min most 2147483647)).2.1 (jw bs k e (min most 2147483647)).2.2 0 1).1.headD 0).toNat
  (jo bs (jw bs k e (min most 2147483647)).2.1 (jw bs k e (min most 2147483647)).2.2 0 1).2.1 (jo bs (jw bs k e (min most 2147483647)).2.1 (jw bs k e (min most 2147483647)).2.2 0 1).2.2
theorem width_len{w:World}(zs:List Int)(n:Nat)(hz:qjq zs){lo h':Nat}{A:Option Addr}{c:Nat}(h:Rd w lo h' A c (iv zs))(hn:zs.length=n) :
  Calls Tryz.prog 156 #[.slice A n c] w fun r w'=>r= .returned (.int .i64 (wide zs:Int))∧w=w':=by
 subst hn
 exact width_any zs hz h
def Upto(bs:List UInt8)(wd n k:Nat)(xs:List Value):Prop:=xs.length=n∧∀j,j<k→xs[j]? = some (.int .i64 (qi0 bs wd j:Int))
theorem upto_all{bs:List UInt8}{wd n:Nat}{xs:List Value}(h:Upto bs wd n n xs):xs=iv (z8 (qch bs wd n)):=by
 apply qem
 intro j
 by_cases hj:j<n
 ·
  rw[h.2 j hj]
  have:=getsN_get bs wd n j hj
  simp[iv,z8,this]
 ·
  rw[yh (by rw[h.1];omega),yh (by rw[jz,zu,qd0];omega)]
theorem upto_succ{bs:List UInt8}{wd n k:Nat}{xs:List Value}(h:Upto bs wd n k xs)(hk:k<n):Upto bs wd n (k+1) (xs.set k (.int .i64 (qi0 bs wd k:Int))):=by
 refine⟨by rw[jn];exact h.1,fun j hj => ?_⟩
 by_cases e:j=k
 ·
  subst e
  rw[qdo (by rw[h.1];exact hk)]
 ·
  rw[List.getElem?_set_ne (by omega)]
  exact h.2 j (by omega)
theorem ints_word{ns:List Nat}(h:∀x∈ns,x<4294967296):qjq (z8 ns):=by
 intro z hz
 obtain⟨x,hx,rfl⟩:=zl.1 hz
 have:=h x hx
 omega
theorem qox{w:World}{lo g k:Nat}{bs:List UInt8}{e:Int}(most:Int)(h:vx w lo g bs k e)(hb:bs.length≤1000000000000) :
  Calls Tryz.prog 162 #[cp g,.int .i64 most] w fun r w'=>∃A c,r= .returned (.slice A (qa4 bs k e most).1.length c)∧w'.ownsRow w.heap.size 3 1 (.slice A (qa4 bs k e most).1.length c) (qa4 bs k e most).1.length (iv (z8 (qa4 bs k e most).1))∧
   vx w' lo g bs (qa4 bs k e most).2.1 (qa4 bs k e most).2.2∧w.grownBy w' (some g):=by
 have hgl:=h.lt
 have HM:=qa (qeu (min most 2147483647) h)
 have hmle:=qc5 bs k e (min most 2147483647)
 unfold qa4
 generalize jw bs k e (min most 2147483647)=M at *
 obtain⟨n,k1,e1⟩:=M
 dsimp only at HM hmle ⊢
 have hn:n≤2147483647:=by omega
 have HBY:=fun(w1:World) (h1:vx w1 lo g bs k1 e1)=>qa (qoc h1)
 generalize jo bs k1 e1 0 1=T at *
 obtain⟨tb,k2,e2⟩:=T
 dsimp only at HBY ⊢
 have hwd256:(tb.headD 0).toNat<256:=jj _
 generalize (tb.headD 0).toNat=wd at *
 clear h hmle
 go_enter Tryz.func162,Tryz.ntmps162
 go_wp2_with fail
 refine HM.out.mono ?_
 rintro r w1 ⟨rfl,hc1,hg1⟩
 have HC1:=qa hc1
 have HG1:=qa hg1
 have s1:=hg1.size
 clear hc1 hg1
 go_wp2_with fail
 refine(HBY w1 HC1.out).out.mono ?_
 rintro r w2 ⟨rfl,hc2,hg2⟩
 have HC2:=qa hc2
 have HG2:=qa (HG1.out.trans hg2)
 have s2:=hg2.size
 clear hc2 hg2
 by_cases hw:wd≤32
 ·
  have HR:Hid (qkw (wd:Int)=true):=qx (by omega)
  have hP:(n:Int)*(wd:Int)=((n*wd:Nat):Int):=(qaw n wd).symm
  have hPb:n*wd≤2147483647*32:=ki hn hw
  have HMID:Hid (qd9 bs n wd k2 e2=qde (jo bs k2 e2 0 (((n*wd+7)/8:Nat):Int)).1 n wd (jo bs k2 e2 0 (((n*wd+7)/8:Nat):Int)).2.1 (jo bs k2 e2 0 (((n*wd+7)/8:Nat):Int)).2.2):=by
   unfold Hid qd9 qfs
   rw[if_pos hw]
  generalize hs:(n*wd+7)/8=s at HMID
  have HS:=qa hs
  have hsb:s≤2147483647*5:=by omega
  clear hs
  go_wp2_with fail
  refine(qh6 _ true HR.out).mono ?_
  rintro r w' ⟨rfl,rfl⟩
  go_wp2_with fail
  refine(size_is n wd s (by omega) HS.out).mono ?_
  rintro r w' ⟨rfl,rfl⟩
  go_wp2_with fail
  refine(qe8 (s:Int) HC2.out (by omega)).mono ?_
  have hT:=takeR_full bs k2 e2 s
  generalize jo bs k2 e2 0 (s:Int)=U at *
  obtain⟨ub,k4,e4⟩:=U
  dsimp only at hT ⊢
  rintro r w4 ⟨A4,c4,rfl,ho4,hc4,hg4⟩
  have HO4:=qa ho4
  have HC4:=qa hc4
  have HG4:=qa (HG2.out.trans hg4)
  have s4:=hg4.size
  clear ho4 hc4 hg4
  by_cases he:e4=0
  ·
   subst he
   have hul:ub.length=s:=hT rfl
   have HUL:=qa hul
   have hulb:ub.length≤s:=qej hul
   clear hT hul
   obtain⟨w5,hmake,ho5,hg5⟩:=qje w4 n (by omega)
   have HR5:=qa ((Rd.own HO4.out).grown hg5 (qc _) (by simp))
   have HC5:=qa (HC4.out.grown hg5 (by simp))
   have HG5:=qa (HG4.out.trans (qgw hg5))
   have HO5:=qa ho5
   have s5:=hg5.size
   have hg4l:=HC4.out.lt
   clear ho5 hg5
   go_wp2_with fail
   refine(xx HC4.out).mono ?_
   rintro r w' ⟨rfl,rfl⟩
   go_wp2_with fail
   go_loopw [32] (fun i wr=>∃(j:Nat) (xs:List Value),j≤n∧i= .int .i64 (j:Int)∧wr.ownsRow w4.heap.size 3 1 (.slice (some ⟨w4.heap.size,0,none⟩) n n) n xs∧Upto ub wd n j xs∧w5.grownBy wr (some w4.heap.size)) (fun i _=>n-(intOf i).toNat)
   case atStart=>exact⟨0,_,qi _,rfl,HO5.out,⟨by simp,fun j hj=>by omega⟩,vg _ _⟩
   case round =>
    obtain⟨j,xs,hj,rfl,ho6,hup,hg6⟩:=hrel
    have HO6:=qa ho6
    have HUP:=qa hup
    have HG6:=qa hg6
    have s6:=hg6.size
    have HR6:=qa (HR5.out.grown hg6 s5 (fun x hx=> .inr (by injection hx with hx;omega)))
    clear ho6 hup hg6
    by_cases hlt:j<n
    ·
     have hfr:=HO6.out.frozenAt j
     have hxj:j<xs.length:=by rw[HUP.out.1];exact hlt
     have hcell:wr.cell? ⟨w4.heap.size,j,none⟩=some xs[j]:=by
      rw[HO6.out.cellAt j (by omega),qe hxj]
     have HST:=fun(q:Nat) (u:Value)=>qa (World.ownsRow.stored (w:=wr.drewN q) HO6.out j u)
     generalize xs[j]=x0 at *
     go_wp2_with fail
     refine(pget_any ub wd j hw (by omega) (by omega) HR6.out).mono ?_
     rintro r w7 ⟨rfl,q,rfl⟩
     go_wp2
     go_roundw
     case rel =>
      refine⟨j+1,_,by omega,by go_num,(HST q _).out.1,upto_succ HUP.out hlt,?_⟩
      exact(qb0 HG6.out q).trans (HST q _).out.2
     case measure=>simp[intOf];omega
    ·
     obtain rfl:j=n:=by omega
     have hall:=upto_all HUP.out
     have hoL:=HO6.out
     rw[hall] at hoL
     have HOL:=qa hoL
     have HC6:=qa (HC5.out.grown HG6.out (fun x hx=> .inr (by injection hx with hx;omega)))
     have HG7:=qa (gb_more HG5.out HG6.out (by omega))
     have hlen:(z8 (qch ub wd j)).length=j:=by rw[zu,qd0]
     have HLEN:=qa hlen
     have HWO:=qa (ints_word (ns:=qch ub wd j) (fun x hx=>by
      have h1:=getsN_lt ub wd j x hx
      have h2:2 ^ wd≤2 ^ 32:=yg (by omega) hw
      omega))
     have HWD:=qa (width_len (w:=wr) _ j HWO.out (Rd.own HOL.out) hlen)
     have HFI:=qa (filled_any (w:=wr) ub (j*wd) (by rw[HUL.out,HS.out]) (by omega) HR6.out)
     have hgl2:(qch ub wd j).length=j:=qd0 _ _ _
     have HGL:=qa hgl2
     clear hall hoL hlen hgl2 hmake
     generalize hP2:j*wd=P at *
     have HPP:=qa hP2
     clear hP2
     by_cases hwd:wd=wide (z8 (qch ub wd j))
     ·
      have hne:((wd:Int) != (wide (z8 (qch ub wd j)):Int))=false:=by rw[←hwd];simp
      by_cases hfl:qbf ub<2 ^ P
      ·
       have HE:Hid (qd9 bs j wd k2 e2=(qch ub wd j,k4,0)):=by
        unfold Hid
        rw[HMID.out]
        unfold qde
        rw[if_neg (by simp),HPP.out,if_pos ⟨hwd,hfl⟩]
       have HFT:=qa (qx hfl)
       rw[HFT.out] at HFI
       clear hfl hwd
       generalize wide (z8 (qch ub wd j))=wl at *
       go_wp2_with (first
        | (go_at_call 156;refine HWD.out.mono ?_;rintro r w' ⟨rfl,rfl⟩)
        | (go_at_call 189;refine HFI.out.mono ?_;rintro r w' ⟨rfl,rfl⟩))
       go_ret
       rw[HE.out]
       exact⟨_,_,by rw[HGL.out];rfl,by rw[HGL.out];exact jm HOL.out (by omega),HC6.out,HG7.out⟩
      ·
       have HE:Hid (qd9 bs j wd k2 e2=([],k4,3)):=by
        unfold Hid
        rw[HMID.out]
        unfold qde
        rw[if_neg (by simp),HPP.out,if_neg (fun h=>hfl h.2)]
       have HFT:=qa (qr hfl)
       rw[HFT.out] at HFI
       clear hfl hwd
       generalize wide (z8 (qch ub wd j))=wl at *
       go_wp2_with (first
        | (go_at_call 156;refine HWD.out.mono ?_;rintro r w' ⟨rfl,rfl⟩)
        | (go_at_call 189;refine HFI.out.mono ?_;rintro r w' ⟨rfl,rfl⟩)
        | (go_at_call 127;refine(ua 3 HC6.out).mono ?_;rintro r w8 ⟨rfl,hc8,hg8⟩;have HC8:=qa hc8;have HG8:=qa hg8;clear hc8 hg8))
       go_ret
       rw[HE.out]
       exact⟨none,0,rfl,zf ..,by simpa using HC8.out,HG7.out.trans HG8.out⟩
     ·
      have hne:((wd:Int) != (wide (z8 (qch ub wd j)):Int))=true:=by rw[bne_iff_ne];omega
      have HE:Hid (qd9 bs j wd k2 e2=([],k4,3)):=by
       unfold Hid
       rw[HMID.out]
       unfold qde
       rw[if_neg (by simp),if_neg (fun h=>hwd h.1)]
      clear hwd
      generalize wide (z8 (qch ub wd j))=wl at *
      go_wp2_with (first
       | (go_at_call 156;refine HWD.out.mono ?_;rintro r w' ⟨rfl,rfl⟩)
       | (go_at_call 127;refine(ua 3 HC6.out).mono ?_;rintro r w8 ⟨rfl,hc8,hg8⟩;have HC8:=qa hc8;have HG8:=qa hg8;clear hc8 hg8))
      go_ret
      rw[HE.out]
      exact⟨none,0,rfl,zf ..,by simpa using HC8.out,HG7.out.trans HG8.out⟩
  ·
   have HE:Hid (qd9 bs n wd k2 e2=([],k4,e4)):=by
    unfold Hid
    rw[HMID.out]
    unfold qde
    rw[if_pos he]
   have he':(e4==0)=false:=by simpa using he
   have HGD:=qa (xx HC4.out)
   rw[he'] at HGD
   clear hT he he'
   go_wp2_with fail
   refine HGD.out.mono ?_
   rintro r w' ⟨rfl,rfl⟩
   go_wp2
   go_ret
   rw[HE.out]
   exact⟨none,0,rfl,zf ..,HC4.out,HG4.out⟩
 ·
  have HR:Hid (qkw (wd:Int)=false):=qr (by omega)
  have hP:(n:Int)*(wd:Int)=((n*wd:Nat):Int):=(qaw n wd).symm
  have hPb:n*wd≤2147483647*255:=ki hn (by omega)
  obtain⟨e3,he3⟩:∃e3,e3=if e2=0 then (3:Int) else e2:=⟨_,rfl⟩
  have he30:e3≠0:=by rw[he3];split <;> omega
  have HE:Hid (qd9 bs n wd k2 e2=([],k2,e3)):=by
   unfold Hid qd9 qfs
   rw[if_neg hw,←he3,qcx _ _ _ _ _ he30]
   unfold qde
   rw[if_pos he30]
  generalize hs:(n*wd+7)/8=s
  have HS:=qa hs
  have HT:=qa (qcx bs k2 e3 0 (s:Int) he30)
  have hbe:(e3==0)=false:=by simpa using he30
  have HBE:=qa hbe
  have HE3:=qa he3
  clear hs he30 hbe he3
  go_wp2_with fail
  refine(qh6 _ false HR.out).mono ?_
  rintro r w' ⟨rfl,rfl⟩
  go_wp2_with fail
  refine(ua 3 HC2.out).mono ?_
  rintro r w3 ⟨rfl,hc3,hg3⟩
  rw[←HE3.out] at hc3
  have HC3:=qa hc3
  have HG3:=qa (HG2.out.trans hg3)
  clear hc3 hg3
  go_wp2_with fail
  refine(size_is n wd s (by omega) HS.out).mono ?_
  rintro r w' ⟨rfl,rfl⟩
  go_wp2_with fail
  refine(qe8 (s:Int) HC3.out (by omega)).mono ?_
  rw[HT.out]
  rintro r w4 ⟨A4,c4,rfl,ho4,hc4,hg4⟩
  have HC4:=qa hc4
  have HG4:=qa (HG3.out.trans hg4)
  have HGD:=qa (xx hc4)
  rw[HBE.out] at HGD
  clear ho4 hc4 hg4
  go_wp2_with fail
  refine HGD.out.mono ?_
  rintro r w' ⟨rfl,rfl⟩
  go_wp2
  go_ret
  rw[HE.out]
  exact⟨none,0,rfl,zf ..,HC4.out,HG4.out⟩
theorem qlh{w:World}(bs:List UInt8)(n:Nat)(b:Bool)(hl:bs=[]∨bs.length=(n+7)/8)(hb:decide (bs=[]∨qbf bs<2 ^ n)=b)(hn:n≤9223372036854775807){lo h':Nat}{A:Option Addr}{c:Nat}(h:Rd w lo h' A c (bv bs)) :
  Calls Tryz.prog 164 #[.slice A bs.length c,.int .i64 (n:Int)] w fun r w'=>r= .returned (.bool b)∧w=w':=by
 have hll:=h.len
 have hc:=h.cap
 rw[yf] at hll
 unfold maxLen at hc
 have H:=qa h
 clear h
 by_cases he:bs=[]
 ·
  subst he
  have HB:Hid (b=true):=by rw[←hb];exact qx (.inl rfl)
  clear hl hb
  go_enter Tryz.func164,Tryz.ntmps164
  go_wp2
  go_ret
  exact⟨xg HB.out.symm,rfl⟩
 ·
  have hlen:bs.length=(n+7)/8:=hl.resolve_left he
  have hp:0<bs.length:=by
   rcases jr bs.length with h0 | h0
   ·
    exact absurd (zh h0) he
   ·
    exact h0
  have hlb:bs.length≤(n+7)/8:=qej hlen
  have hne:((bs.length:Int)==0)=false:=by rw[q9];omega
  by_cases hr:n%8=0
  ·
   have HB:Hid (b=true):=by rw[←hb];exact qx (.inr (filled_all bs n hlen hr))
   have h8:((n:Int)%8==0)=true:=by rw[beq_iff_eq];omega
   clear hl hlen hr hb he
   go_enter Tryz.func164,Tryz.ntmps164
   go_wp2
   go_ret
   exact⟨xg HB.out.symm,rfl⟩
  ·
   have HF:=qa (filled_iff bs n hlen hr)
   have HB:Hid (decide (qbf bs<2 ^ n)=b):=by
    rw[←hb]
    unfold Hid
    simp[he]
   have h8:((n:Int)%8==0)=false:=by rw[q9];omega
   obtain⟨b0,off,rfl,_,_,hcell⟩:=H.out.byte (k:=bs.length-1) (by omega)
   rw[last_get bs hp] at hcell
   generalize bs.getLastD 0=x8 at *
   have hx:=jj x8
   generalize x8.toNat=x at *
   clear hl hlen hb he
   go_enter Tryz.func164,Tryz.ntmps164
   go_wp2
   go_ret
   refine⟨xg ?_,rfl⟩
   have e:(x:Int)/2 ^ (n%8)=((x/2 ^ (n%8):Nat):Int):=by push_cast;rfl
   rw[e,←HB.out,Bool.eq_iff_iff,beq_iff_eq,decide_eq_true_iff,←HF.out]
   omega
def qd3(ub:List UInt8)(n k:Nat)(e:Int):List Bool×Nat×Int :=
 if e≠0 then ([],k,e) else if qbf ub<2 ^ n then (qiq ub n,k,0) else ([],k,3)
def qcj(bs:List UInt8)(k:Nat)(e most:Int):List Bool×Nat×Int :=
 qd3 (jo bs (jw bs k e most).2.1 (jw bs k e most).2.2 0 ((((jw bs k e most).1+7)/8:Nat):Int)).1 (jw bs k e most).1
  (jo bs (jw bs k e most).2.1 (jw bs k e most).2.2 0 ((((jw bs k e most).1+7)/8:Nat):Int)).2.1
  (jo bs (jw bs k e most).2.1 (jw bs k e most).2.2 0 ((((jw bs k e most).1+7)/8:Nat):Int)).2.2
theorem takeR_len(bs:List UInt8)(k:Nat)(e:Int)(skip:Nat)(n:Int):(jo bs k e skip n).1.length≤bs.length:=by
 unfold jo
 repeat' split
 all_goals simp
 all_goals omega
theorem takeR_none(bs:List UInt8)(k:Nat)(e:Int)(skip:Nat)(n:Int)(h:(jo bs k e skip n).2.2≠0):(jo bs k e skip n).1=[]:=by
 unfold jo at h ⊢
 repeat' split
 all_goals simp_all
theorem and_bit(x r:Nat)(hx:x<256):bits .and .u8 ((x:Int)/2 ^ r) 1=((x/2 ^ r%2:Nat):Int):=by
 have h1:x/2 ^ r≤x:=Nat.div_le_self _ _
 have e:(x:Int)/2 ^ r=((x/2 ^ r:Nat):Int):=by push_cast;rfl
 have h2:=u8_and_nat (x/2 ^ r) 1 (by omega) (by omega)
 rw[Nat.and_one_is_mod] at h2
 rw[e]
 exact h2
theorem row_bit(ub:List UInt8)(j x:Nat)(hj:j/8<ub.length)(hx:ub[j/8].toNat=x):(((x/2 ^ (j%8)%2:Nat):Int)==1)=getB ub j:=by
 unfold getB
 rw[getN_byte ub j hj,hx,Bool.eq_iff_iff,beq_iff_eq,beq_iff_eq]
 omega
theorem qmb{w:World}{lo g k:Nat}{bs:List UInt8}{e:Int}(most:Int)(hm:most≤9223372036854775807)(h:vx w lo g bs k e)(hb:bs.length≤1000000000000) :
  Calls Tryz.prog 128 #[cp g,.int .i64 most] w fun r w'=>∃A c,r= .returned (.slice A (qcj bs k e most).1.length c)∧w'.ownsRow w.heap.size 4 1 (.slice A (qcj bs k e most).1.length c) (qcj bs k e most).1.length (lv (qcj bs k e most).1)∧
   vx w' lo g bs (qcj bs k e most).2.1 (qcj bs k e most).2.2∧w.grownBy w' (some g):=by
 have hgl:=h.lt
 have HM:=qa (qeu most h)
 have hmle:=qc5 bs k e most
 unfold qcj
 generalize jw bs k e most=M at *
 obtain⟨n,k1,e1⟩:=M
 dsimp only at HM hmle ⊢
 have hn:n≤9223372036854775807:=by omega
 generalize hs:(n+7)/8=s
 have HSZ:=fun w1:World=>qa (bsize_any (w:=w1) n s hn hs)
 have HBY:=fun(w1:World) (h1:vx w1 lo g bs k1 e1)=>qa (qe8 (s:Int) h1 (by omega))
 have hT:=takeR_full bs k1 e1 s
 have hTl:=takeR_len bs k1 e1 0 (s:Int)
 have hTn:=takeR_none bs k1 e1 0 (s:Int)
 generalize jo bs k1 e1 0 (s:Int)=U at *
 obtain⟨ub,k4,e4⟩:=U
 dsimp only at hT hTl hTn HBY ⊢
 have HS:=qa hs
 clear h hmle hs
 go_enter Tryz.func128,Tryz.ntmps128
 go_wp2_with fail
 refine HM.out.mono ?_
 rintro r w1 ⟨rfl,hc1,hg1⟩
 have HC1:=qa hc1
 have HG1:=qa hg1
 have s1:=hg1.size
 clear hc1 hg1
 go_wp2_with fail
 refine(HSZ w1).out.mono ?_
 rintro r w' ⟨rfl,rfl⟩
 go_wp2_with fail
 refine(HBY w1 HC1.out).out.mono ?_
 rintro r w4 ⟨A4,c4,rfl,ho4,hc4,hg4⟩
 have HO4:=qa ho4
 have HC4:=qa hc4
 have HG4:=qa (HG1.out.trans hg4)
 have s4:=hg4.size
 have hg4l:=hc4.lt
 clear ho4 hc4 hg4
 by_cases he:e4=0
 ·
  subst he
  have hul:ub.length=s:=hT rfl
  have hls:ub.length=(n+7)/8:=by rw[hul,HS.out]
  have hn8:n≤8*ub.length:=by omega
  by_cases hfl:qbf ub<2 ^ n
  ·
   have HE:Hid (qd3 ub n k4 0=(qiq ub n,k4,0)):=by
    unfold Hid qd3
    rw[if_neg (by simp),if_pos hfl]
   have HFI:=qa (qlh (w:=w4) ub n true (.inr hls) (qx (.inr hfl)) hn (Rd.own HO4.out))
   obtain⟨w5,hmake,ho5,hg5⟩:=qic w4 n (by omega)
   have HR5:=qa ((Rd.own HO4.out).grown hg5 (qc _) (by simp))
   have HC5:=qa (HC4.out.grown hg5 (by simp))
   have HG5:=qa (HG4.out.trans (qgw hg5))
   have HO5:=qa ho5
   have s5:=hg5.size
   have hlsb:(n+7)/8≤ub.length:=qej hls.symm
   have hub:ub.length≤1000000000000:=by omega
   clear ho5 hg5 hul hls hT hTl hTn hfl
   go_wp2_with fail
   refine HFI.out.mono ?_
   rintro r w' ⟨rfl,rfl⟩
   go_wp2_with fail
   refine(xx HC4.out).mono ?_
   rintro r w' ⟨rfl,rfl⟩
   go_wp2_with fail
   go_loopw [29] (fun i wr=>∃(j:Nat) (xs:List Value),j≤n∧i= .int .i64 (j:Int)∧wr.ownsRow w4.heap.size 4 1 (.slice (some ⟨w4.heap.size,0,none⟩) n n) n xs∧qkc (lv (qiq ub n)) j xs∧w5.grownBy wr (some w4.heap.size)) (fun i _=>n-(intOf i).toNat)
   case atStart=>exact⟨0,_,qi _,rfl,HO5.out,qd6 (by rw[List.length_replicate,qau,qc7]),vg _ _⟩
   case round =>
    obtain⟨j,xs,hj,rfl,ho6,hup,hg6⟩:=hrel
    have HO6:=qa ho6
    have HUP:=qa hup
    have HG6:=qa hg6
    have s6:=hg6.size
    have HR6:=qa (HR5.out.grown hg6 s5 (fun x hx=> .inr (by injection hx with hx;omega)))
    clear ho6 hup hg6
    by_cases hlt:j<n
    ·
     have hj8:j/8<ub.length:=by omega
     obtain⟨b0,off,rfl,_,hbh,hcell⟩:=HR6.out.byte hj8
     have hfr:=HO6.out.frozenAt j
     have hxj:j<xs.length:=by rw[HUP.out.1,qau,qc7];exact hlt
     have hcx:wr.cell? ⟨w4.heap.size,j,none⟩=some xs[j]:=by
      rw[HO6.out.cellAt j (by omega),qe hxj]
     have HST:=fun u=>qa (HO6.out.stored j u)
     have hu:(lv (qiq ub n))[j]? = some (.bool (getB ub j)):=by simp[lv,getsB_get ub n j hlt]
     have HU:=qa hu
     have hx256:=jj ub[j/8]
     have HRB:=qa (row_bit ub j _ hj8 rfl)
     generalize xs[j]=x0 at *
     generalize ub[j/8].toNat=x at *
     have hand:=and_bit x (j%8) hx256
     have hj8':(j:Int)/8=((j/8:Nat):Int):=by omega
     have hj8m:(j:Int)%8=((j%8:Nat):Int):=by omega
     have hj8t:(j:Int).tmod 8=((j%8:Nat):Int):=by rw[qaq (by omega)];omega
     have hr8:j%8<8:=qcm _ (by decide)
     clear hu
     generalize j/8=q at *
     generalize j%8=r at *
     have hqw:IntKind.i64.wrap (q:Int)=(q:Int):=jf _ (by omega)
     have hrw:IntKind.i64.wrap (r:Int)=(r:Int):=jf _ (by omega)
     go_wp2
     go_roundw
     case rel =>
      have e:((x:Int)/2 ^ r%2==1)=getB ub j:=by
       rw[←HRB.out]
       push_cast
       rfl
      rw[e]
      exact⟨j+1,_,by omega,by go_num,(HST _).out.1,qbe HUP.out _ HU.out,HG6.out.trans (HST _).out.2⟩
     case measure=>simp[intOf];omega
    ·
     obtain rfl:j=n:=by omega
     have hall:=qfj HUP.out (by rw[qau,qc7];exact qc _)
     have hoL:=HO6.out
     rw[hall] at hoL
     have HOL:=qa hoL
     have HC6:=qa (HC5.out.grown HG6.out (fun x hx=> .inr (by injection hx with hx;omega)))
     have HG7:=qa (gb_more HG5.out HG6.out (by omega))
     have hlen:(qiq ub j).length=j:=qc7 _ _
     have HLEN:=qa hlen
     clear hall hoL hlen
     go_wp2
     go_ret
     rw[HE.out]
     exact⟨_,_,by rw[HLEN.out];rfl,by rw[HLEN.out];exact jm HOL.out (by omega),HC6.out,HG7.out⟩
  ·
   have HE:Hid (qd3 ub n k4 0=([],k4,3)):=by
    unfold Hid qd3
    rw[if_neg (by simp),if_neg hfl]
   have hne:ub≠[]:=by
    rintro rfl
    apply hfl
    have:=qeg n
    simpa[qbf] using this
   have HFI:=qa (qlh (w:=w4) ub n false (.inr hls) (qr (fun h=>h.elim hne hfl)) hn (Rd.own HO4.out))
   clear hul hls hT hTl hTn hfl hne
   go_wp2_with fail
   refine HFI.out.mono ?_
   rintro r w' ⟨rfl,rfl⟩
   go_wp2_with fail
   refine(ua 3 HC4.out).mono ?_
   rintro r w5 ⟨rfl,hc5,hg5⟩
   rw[if_pos rfl] at hc5
   have HC5:=qa hc5
   have HG5:=qa (HG4.out.trans hg5)
   clear hc5 hg5
   go_wp2_with fail
   refine(xx HC5.out).mono ?_
   rintro r w' ⟨rfl,rfl⟩
   go_wp2
   go_ret
   rw[HE.out]
   exact⟨none,0,rfl,zf ..,HC5.out,HG5.out⟩
 ·
  have HE:Hid (qd3 ub n k4 e4=([],k4,e4)):=by
   unfold Hid qd3
   rw[if_pos he]
  have hue:ub=[]:=hTn he
  subst hue
  have HFI:=qa (qlh (w:=w4) [] n true (.inl rfl) (qx (.inl rfl)) hn (Rd.own HO4.out))
  have he':(e4==0)=false:=by simpa using he
  have HGD:=qa (xx HC4.out)
  rw[he'] at HGD
  clear hT hTl hTn he he'
  go_wp2_with fail
  refine HFI.out.mono ?_
  rintro r w' ⟨rfl,rfl⟩
  go_wp2_with fail
  refine HGD.out.mono ?_
  rintro r w' ⟨rfl,rfl⟩
  go_wp2
  go_ret
  rw[HE.out]
  exact⟨none,0,rfl,zf ..,HC4.out,HG4.out⟩
def qkj(bs:List UInt8)(k:Nat)(e:Int):Int:=if e≠0 then e else if k<bs.length then 2 else 0
theorem end_any{w:World}{lo g k:Nat}{bs:List UInt8}{e:Int}(h:vx w lo g bs k e) :
  Calls Tryz.prog 68 #[cp g] w fun r w'=>r= .returned (.int .i64 (qkj bs k e))∧∃n,w.drewN n=w':=by
 have H:=qa h
 have hk:=h.le
 obtain⟨A,c,h0,h1,h2, -, -, -, -⟩:=h.open_
 have HG:=qa (xx h)
 clear h h0 h1
 unfold cp at *
 by_cases he:e=0
 ·
  subst he
  by_cases hl:k<bs.length
  ·
   rw[show qkj bs k 0=2 from by simp[qkj,hl]]
   go_enter Tryz.func68,Tryz.ntmps68
   go_wp2_with (first | (go_at_call 96;refine HG.out.mono ?_;rintro e w' ⟨rfl,rfl⟩) | (go_at_call 97;refine(qev H.out).mono ?_;rintro e w' ⟨rfl,⟨m,rfl⟩⟩))
   all_goals go_ret
   all_goals exact⟨rfl,_,rfl⟩
  ·
   rw[show qkj bs k 0=0 from by simp[qkj,hl]]
   go_enter Tryz.func68,Tryz.ntmps68
   go_wp2_with (first | (go_at_call 96;refine HG.out.mono ?_;rintro e w' ⟨rfl,rfl⟩) | (go_at_call 97;refine(qev H.out).mono ?_;rintro e w' ⟨rfl,⟨m,rfl⟩⟩))
   all_goals go_ret
   all_goals exact⟨rfl,_,rfl⟩
 ·
  rw[show qkj bs k e=e from by simp[qkj,he]]
  have he':(e==0)=false:=by simpa using he
  rw[he'] at HG
  clear he he'
  go_enter Tryz.func68,Tryz.ntmps68
  go_wp2_with (first | (go_at_call 96;refine HG.out.mono ?_;rintro e w' ⟨rfl,rfl⟩) | (go_at_call 97;refine(qev H.out).mono ?_;rintro e w' ⟨rfl,⟨m,rfl⟩⟩))
  go_ret
  exact⟨rfl,0,rfl⟩
theorem qkm{n:Nat}(h:n<256):(UInt8.ofNat n).toNat=n:=by rw[jq];omega
theorem putL_facts(n:Nat):∀rest:List UInt8,qbh (ji n++rest)+1=(ji n).length∧val ((ji n++rest).take (qbh (ji n++rest)+1))=n∧
  (0<n→((ji n++rest)[qbh (ji n++rest)]?.getD 0).toNat≠0):=by
 induction n using Nat.strongRecOn with
 | ind n ih =>
  intro rest
  by_cases h:n<128
  ·
   rw[qap h]
   have e:=qkm (n:=n) (by omega)
   have hl:qbh ([UInt8.ofNat n]++rest)=0:=by
    simp only[jd,qbh]
    rw[if_neg (by omega)]
   rw[hl]
   refine⟨rfl,?_,fun hp => ?_⟩
   ·
    simp only[jd,yu,yr,j8,y9,val,e]
    omega
   ·
    simp only[jd,zq,qax,e]
    omega
  ·
   rw[qgb (by omega)]
   obtain⟨i1,i2,i3⟩:=ih (n/128) (by omega) rest
   have e:=qkm (n:=n%128+128) (by omega)
   have hl:qbh (UInt8.ofNat (n%128+128) :: ji (n/128)++rest)=qbh (ji (n/128)++rest)+1:=by
    simp only[jd,qbh]
    rw[if_pos (by omega)]
   rw[hl]
   refine⟨by simp only[qw];omega,?_,fun hp => ?_⟩
   ·
    simp only[jd,j8,val,e,i2]
    omega
   ·
    simp only[jd,zv]
    exact i3 (by omega)
theorem vnum_putL(n:Nat)(h:n≤9223372036854775807)(rest:List UInt8):qbv (ji n++rest)=(n,(ji n).length,0):=by
 obtain⟨h1,h2,h3⟩:=putL_facts n rest
 have h9:=ve n h
 have hlen:(ji n++rest).length=(ji n).length+rest.length:=qd
 unfold qbv
 rw[if_neg (by omega),if_neg (by omega),if_neg,h2,h1]
 rintro⟨hp,hz⟩
 refine h3 ?_ hz
 rcases jr n with h0 | h0
 ·
  subst h0
  rw[qap (by omega)] at h1
  simp only[qw,j4] at h1
  rw[qap (by omega)] at hp
  omega
 ·
  exact h0
theorem val_pos:∀b:List UInt8,qbh b<b.length→(b[qbh b]?.getD 0).toNat≠0→0<val (b.take (qbh b+1))
 | [],h,_=>by simp at h
 | y :: r,h,hz=>by
  by_cases hy:128≤y.toNat
  ·
   have hl:qbh (y :: r)=qbh r+1:=by simp only[qbh];rw[if_pos hy]
   rw[hl] at h hz ⊢
   simp only[qw,zv] at h hz
   have:=val_pos r (by omega) hz
   simp only[j8,val]
   omega
  ·
   have hl:qbh (y :: r)=0:=by simp only[qbh];rw[if_neg hy]
   rw[hl] at hz ⊢
   simp only[zq,qax] at hz
   simp only[yr,j8,y9,val]
   omega
theorem putL_val:∀b:List UInt8,qbh b<b.length→¬(0<qbh b∧(b[qbh b]?.getD 0).toNat=0)→ji (val (b.take (qbh b+1)))=b.take (qbh b+1)
 | [],h,_=>by simp at h
 | y :: r,h,hz=>by
  have hy256:y.toNat<256:=jj y
  by_cases hy:128≤y.toNat
  ·
   have hl:qbh (y :: r)=qbh r+1:=by simp only[qbh];rw[if_pos hy]
   rw[hl] at h hz ⊢
   simp only[qw,zv] at h hz
   have hz':(r[qbh r]?.getD 0).toNat≠0:=fun e=>hz ⟨by omega,e⟩
   have hp:=val_pos r (by omega) hz'
   have hi:=putL_val r (by omega) (fun e=>hz' e.2)
   simp only[j8,val]
   rw[qgb (by omega)]
   rw[show(y.toNat%128+128*val (r.take (qbh r+1)))%128+128=y.toNat from by omega,show(y.toNat%128+128*val (r.take (qbh r+1)))/128=val (r.take (qbh r+1)) from by omega,hi]
   simp
  ·
   have hl:qbh (y :: r)=0:=by simp only[qbh];rw[if_neg hy]
   rw[hl]
   simp only[yr,j8,y9,val]
   rw[qap (by omega),show y.toNat%128+128*0=y.toNat from by omega]
   simp
theorem vnum_form(b:List UInt8)(h:(qbv b).2.2=0):ji (qbv b).1=b.take (qbv b).2.1∧0<(qbv b).2.1∧(qbv b).1≤9223372036854775807:=by
 unfold qbv at h ⊢
 by_cases h9:9≤qbh b
 ·
  rw[if_pos h9] at h
  simp only[] at h
  split at h <;> omega
 ·
  rw[if_neg h9] at h ⊢
  by_cases hl:b.length≤qbh b
  ·
   rw[if_pos hl] at h
   simp only[] at h
   omega
  ·
   rw[if_neg hl] at h ⊢
   by_cases hz:0<qbh b∧(b[qbh b]?.getD 0).toNat=0
   ·
    rw[if_pos hz] at h
    simp only[] at h
    omega
   ·
    rw[if_neg hz]
    refine⟨putL_val b (by omega) hz,Nat.succ_pos _,?_⟩
    have h1:=val_lt (b.take (qbh b+1))
    have h2:128 ^ (b.take (qbh b+1)).length≤128 ^ 9:=yg (by omega) (by rw[qz];omega)
    simp only[]
    omega
theorem qka(ub:List UInt8)(n k:Nat)(e:Int)(he:e≠0):qd3 ub n k e=([],k,e):=by
 unfold qd3
 rw[if_pos he]
theorem qib(bs:List UInt8)(k:Nat){e:Int}(m:Int)(h:e≠0):jw bs k e m=(0,k,e):=by simp[jw,uz,h]
theorem peek_split(bs:List UInt8)(k:Nat)(m:Int):(∃e,e≠0∧uz bs k 0 m=(0,0,e))∨((qbv (bs.drop k)).2.2=0∧((qbv (bs.drop k)).1:Int)≤m∧uz bs k 0 m=((qbv (bs.drop k)).1,(qbv (bs.drop k)).2.1,0)):=by
 by_cases hp:qf3 bs k m=0
 ·
  refine .inr ?_
  have h2:=hp
  unfold qf3 at h2
  split at h2
  ·
   contradiction
  ·
   rename_i h3
   split at h2
   ·
    cases h2
   ·
    exact⟨Decidable.not_not.1 h3,by omega,by simp[uz,hp]⟩
 ·
  exact .inl ⟨_,hp,by simp[uz,hp]⟩
theorem qbp{bs:List UInt8}{k n k2:Nat}{m:Int}(hk:k≤bs.length)(h:jw bs k 0 m=(n,k2,0)) :
  (n:Int)≤m∧n≤9223372036854775807∧bs.drop k=ji n++bs.drop k2∧k2=k+(ji n).length∧k2≤bs.length:=by
 unfold jw at h
 rcases peek_split bs k m with ⟨e,he,hr⟩ | ⟨h1,h2,hr⟩
 ·
  rw[hr] at h
  simp only[Prod.mk.injEq] at h
  exact absurd h.2.2 he
 ·
  rw[hr] at h
  simp only[Prod.mk.injEq] at h
  obtain⟨rfl,rfl, -⟩:=h
  obtain⟨f1,f2,f3⟩:=vnum_form _ h1
  have hs:=qoq (bs.drop k)
  rw[qy] at hs
  have hl:(ji (qbv (bs.drop k)).1).length=(qbv (bs.drop k)).2.1:=by rw[f1,qz,qy];omega
  refine⟨h2,f3,?_,by rw[hl],by omega⟩
  rw[f1,←jh,zx]
theorem ut{bs rest:List UInt8}{k n:Nat}{m:Int}(h:bs.drop k=ji n++rest)(hn:(n:Int)≤m)(h63:n≤9223372036854775807):jw bs k 0 m=(n,k+(ji n).length,0):=by
 have hv:=vnum_putL n h63 rest
 have h0:qf3 bs k m=0:=by
  unfold qf3
  rw[h,hv,if_neg (by simp),if_neg (by simp only[];omega)]
 unfold jw uz
 rw[h,hv]
 simp[h0]
theorem qjn(bs:List UInt8)(k:Nat){e:Int}(m:Int)(h:e≠0):qcj bs k e m=([],k,e):=by
 unfold qcj
 rw[qib _ _ _ h]
 dsimp only
 rw[qcx _ _ _ _ _ h,qka _ _ _ _ h]
theorem bread_good{bs:List UInt8}{k k2:Nat}{m:Int}{rs:List Bool}(hk:k≤bs.length)(h:qcj bs k 0 m=(rs,k2,0)) :
  (rs.length:Int)≤m∧bs.drop k=xi rs++bs.drop k2∧k2=k+(xi rs).length∧k2≤bs.length:=by
 unfold qcj at h
 obtain⟨M,hM⟩:∃M,jw bs k 0 m=M:=⟨_,rfl⟩
 rw[hM] at h
 obtain⟨n,k1,e1⟩:=M
 dsimp only at h
 by_cases he1:e1=0
 ·
  subst he1
  obtain⟨g1,g2,g3,g4,g5⟩:=qbp hk hM
  by_cases h2:k1+(n+7)/8≤bs.length
  ·
   have hUL:((bs.drop k1).take ((n+7)/8)).length=(n+7)/8:=by simp;omega
   have hd2:bs.drop k1=(bs.drop k1).take ((n+7)/8)++bs.drop (k1+(n+7)/8):=(zx ((n+7)/8) (bs.drop k1)).symm.trans (by rw[jh])
   rw[qcw bs k1 _ h2] at h
   dsimp only at h
   generalize (bs.drop k1).take ((n+7)/8)=ub at *
   unfold qd3 at h
   rw[if_neg (by simp)] at h
   by_cases hc:qbf ub<2 ^ n
   ·
    rw[if_pos hc] at h
    simp only[Prod.mk.injEq,and_true] at h
    obtain⟨rfl,rfl⟩:=h
    have hW:xi (qiq ub n)=ji n++ub:=by
     unfold xi
     rw[qc7,packB_getsB ub n hUL hc]
    refine⟨by rw[qc7];exact g1,?_,?_,h2⟩
    ·
     rw[hW,g3,hd2,qp]
    ·
     rw[hW,qd,hUL]
     omega
   ·
    rw[if_neg hc] at h
    simp at h
  ·
   rw[qc0 bs k1 _ (by omega)] at h
   dsimp only at h
   rw[qka _ _ _ _ (show(2:Int)≠0 by decide)] at h
   simp at h
 ·
  rw[qcx _ _ _ _ _ he1] at h
  rw[qka _ _ _ _ he1] at h
  simp only[Prod.mk.injEq] at h
  exact absurd h.2.2 he1
theorem qit{bs rest:List UInt8}{k:Nat}(rs:List Bool)(m:Int)(hk:k≤bs.length)(h:bs.drop k=xi rs++rest)(hl:(rs.length:Int)≤m)(h63:rs.length≤9223372036854775807):qcj bs k 0 m=(rs,k+(xi rs).length,0):=by
 have h1:bs.drop k=ji rs.length++(qdk rs++rest):=by rw[h,xi,qp]
 have hM:=ut (m:=m) h1 hl h63
 have hpl:(qdk rs).length=(rs.length+7)/8:=qe6 rs
 have hlen:bs.length-k=(ji rs.length).length+((rs.length+7)/8+rest.length):=by
  rw[←qy,h1,qd,qd,hpl]
 have hd1:bs.drop (k+(ji rs.length).length)=qdk rs++rest:=by rw[←jh,h1,ym]
 have hU:=qcw bs (k+(ji rs.length).length) ((rs.length+7)/8) (by omega)
 rw[hd1,←hpl,List.take_left] at hU
 rw[hpl] at hU
 unfold qcj
 rw[hM]
 dsimp only
 rw[hU]
 unfold qd3
 dsimp only
 rw[if_neg (by simp),if_pos (bval_packB rs),getsB_packB,xi,qd,hpl]
 simp only[Prod.mk.injEq,and_true,true_and]
 omega
theorem qk0(bs:List UInt8)(n wd k:Nat)(e:Int)(he:e≠0):qd9 bs n wd k e=([],k,qfs wd e)∧qfs wd e≠0:=by
 have h:qfs wd e=e:=by
  unfold qfs
  by_cases hw:wd≤32
  ·
   rw[if_pos hw]
  ·
   rw[if_neg hw,if_neg he]
 rw[h]
 refine⟨?_,he⟩
 unfold qd9
 rw[h,qcx _ _ _ _ _ he]
 unfold qde
 rw[if_pos he]
theorem qpf{wd:Nat}(h:wd≤32):qfs wd 0=0:=by
 unfold qfs
 rw[if_pos h]
end Go.Proofs.YtjfecojdagmacaaGreat
