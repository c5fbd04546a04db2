/-
  Lemmas.
-/
import Derived.Test.YtjfecojdagmacaaGreatE03
namespace Go.Proofs.YtjfecojdagmacaaGreat
open Go.RowKit
set_option maxRecDepth 20000
set_option maxHeartbeats 16000000
set_option linter.unusedSimpArgs false
set_option linter.unusedVariables false
theorem qir{w:World}(bs:List UInt8)(n:Nat)(b:Bool)(hl:bs=[]∨bs.length=(n+7)/8)(hb:decide (bs=[]∨un bs<2 ^ n)=b)(hn:n≤9223372036854775807){lo h':Nat}{A:Option Addr}{c:Nat}(h:Rd w lo h' A c (bv bs)) :
  Calls Tryz.prog 164 #[.slice A bs.length c,.int .i64 (n:Int)] w fun r w'=>r= .returned (.bool b)∧w=w':=by
 have hll:=h.len
 have hc:=h.cap
 rw[jj] at hll
 unfold maxLen at hc
 have H:=qa h
 clear h
 by_cases he:bs=[]
 ·
  subst he
  have HB:Hid (b=true):=by rw[←hb];exact qx (.inl rfl)
  clear hl hb
  go_enter Tryz.func164,Tryz.ntmps164
  go_wp2
  go_ret
  exact⟨yc HB.out.symm,rfl⟩
 ·
  have hlen:bs.length=(n+7)/8:=hl.resolve_left he
  have hp:0<bs.length:=by
   rcases jh bs.length with h0 | h0
   ·
    exact absurd (ze h0) he
   ·
    exact h0
  have hlb:bs.length≤(n+7)/8:=Nat.le_of_eq hlen
  have hne:((bs.length:Int)==0)=false:=by rw[q9];omega
  by_cases hr:n%8=0
  ·
   have HB:Hid (b=true):=by rw[←hb];exact qx (.inr (filled_all bs n hlen hr))
   have h8:((n:Int)%8==0)=true:=by rw[beq_iff_eq];omega
   clear hl hlen hr hb he
   go_enter Tryz.func164,Tryz.ntmps164
   go_wp2
   go_ret
   exact⟨yc HB.out.symm,rfl⟩
  ·
   have HF:=qa (filled_iff bs n hlen hr)
   have HB:Hid (decide (un bs<2 ^ n)=b):=by
    rw[←hb]
    unfold Hid
    simp[he]
   have h8:((n:Int)%8==0)=false:=by rw[q9];omega
   obtain⟨b0,off,rfl,_,_,hcell⟩:=H.out.byte (k:=bs.length-1) (by omega)
   rw[last_get bs hp] at hcell
   generalize bs.getLastD 0=x8 at *
   have hx:=je x8
   generalize x8.toNat=x at *
   clear hl hlen hb he
   go_enter Tryz.func164,Tryz.ntmps164
   go_wp2
   go_ret
   refine⟨yc ?_,rfl⟩
   have e:(x:Int)/2 ^ (n%8)=((x/2 ^ (n%8):Nat):Int):=by push_cast;rfl
   rw[e,←HB.out,Bool.eq_iff_iff,beq_iff_eq,decide_eq_true_iff,←HF.out]
   omega
def qb7(ub:List UInt8)(n k:Nat)(e:Int):List Bool×Nat×Int :=
 if e≠0 then ([],k,e) else if un ub<2 ^ n then (qgg ub n,k,0) else ([],k,3)
def qat(bs:List UInt8)(k:Nat)(e most:Int):List Bool×Nat×Int :=
 qb7 (z6 bs (z8 bs k e most).2.1 (z8 bs k e most).2.2 0 ((((z8 bs k e most).1+7)/8:Nat):Int)).1 (z8 bs k e most).1
  (z6 bs (z8 bs k e most).2.1 (z8 bs k e most).2.2 0 ((((z8 bs k e most).1+7)/8:Nat):Int)).2.1
  (z6 bs (z8 bs k e most).2.1 (z8 bs k e most).2.2 0 ((((z8 bs k e most).1+7)/8:Nat):Int)).2.2
theorem takeR_len(bs:List UInt8)(k:Nat)(e:Int)(skip:Nat)(n:Int):(z6 bs k e skip n).1.length≤bs.length:=by
 unfold z6
 repeat' split
 all_goals simp
 all_goals omega
theorem takeR_none(bs:List UInt8)(k:Nat)(e:Int)(skip:Nat)(n:Int)(h:(z6 bs k e skip n).2.2≠0):(z6 bs k e skip n).1=[]:=by
 unfold z6 at h ⊢
 repeat' split
 all_goals simp_all
theorem and_bit(x r:Nat)(hx:x<256):bits .and .u8 ((x:Int)/2 ^ r) 1=((x/2 ^ r%2:Nat):Int):=by
 have h1:x/2 ^ r≤x:=Nat.div_le_self _ _
 have e:(x:Int)/2 ^ r=((x/2 ^ r:Nat):Int):=by push_cast;rfl
 have h2:=u8_and_nat (x/2 ^ r) 1 (by omega) (by omega)
 rw[Nat.and_one_is_mod] at h2
 rw[e]
 exact h2
theorem row_bit(ub:List UInt8)(j x:Nat)(hj:j/8<ub.length)(hx:ub[j/8].toNat=x):(((x/2 ^ (j%8)%2:Nat):Int)==1)=getB ub j:=by
 unfold getB
 rw[getN_byte ub j hj,hx,Bool.eq_iff_iff,beq_iff_eq,beq_iff_eq]
 omega
theorem qi7{w:World}{lo g k:Nat}{bs:List UInt8}{e:Int}(most:Int)(hm:most≤9223372036854775807)(h:xq w lo g bs k e)(hb:bs.length≤1000000000000) :
  Calls Tryz.prog 128 #[cp g,.int .i64 most] w fun r w'=>∃A c,r= .returned (.slice A (qat bs k e most).1.length c)∧w'.ownsRow w.heap.size 4 1 (.slice A (qat bs k e most).1.length c) (qat bs k e most).1.length (lv (qat bs k e most).1)∧
   xq w' lo g bs (qat bs k e most).2.1 (qat bs k e most).2.2∧w.grownBy w' (some g):=by
 have hgl:=h.lt
 have HM:=qa (qcv most h)
 have hmle:=qbb bs k e most
 unfold qat
 generalize z8 bs k e most=M at *
 obtain⟨n,k1,e1⟩:=M
 dsimp only at HM hmle ⊢
 have hn:n≤9223372036854775807:=by omega
 generalize hs:(n+7)/8=s
 have HSZ:=fun w1:World=>qa (bsize_any (w:=w1) n s hn hs)
 have HBY:=fun(w1:World) (h1:xq w1 lo g bs k1 e1)=>qa (qdg (s:Int) h1 (by omega))
 have hT:=takeR_full bs k1 e1 s
 have hTl:=takeR_len bs k1 e1 0 (s:Int)
 have hTn:=takeR_none bs k1 e1 0 (s:Int)
 generalize z6 bs k1 e1 0 (s:Int)=U at *
 obtain⟨ub,k4,e4⟩:=U
 dsimp only at hT hTl hTn HBY ⊢
 have HS:=qa hs
 clear h hmle hs
 go_enter Tryz.func128,Tryz.ntmps128
 go_wp2_with fail
 refine HM.out.mono ?_
 rintro r w1 ⟨rfl,hc1,hg1⟩
 have HC1:=qa hc1
 have HG1:=qa hg1
 have s1:=hg1.size
 clear hc1 hg1
 go_wp2_with fail
 refine(HSZ w1).out.mono ?_
 rintro r w' ⟨rfl,rfl⟩
 go_wp2_with fail
 refine(HBY w1 HC1.out).out.mono ?_
 rintro r w4 ⟨A4,c4,rfl,ho4,hc4,hg4⟩
 have HO4:=qa ho4
 have HC4:=qa hc4
 have HG4:=qa (HG1.out.trans hg4)
 have s4:=hg4.size
 have hg4l:=hc4.lt
 clear ho4 hc4 hg4
 by_cases he:e4=0
 ·
  subst he
  have hul:ub.length=s:=hT rfl
  have hls:ub.length=(n+7)/8:=by rw[hul,HS.out]
  have hn8:n≤8*ub.length:=by omega
  by_cases hfl:un ub<2 ^ n
  ·
   have HE:Hid (qb7 ub n k4 0=(qgg ub n,k4,0)):=by
    unfold Hid qb7
    rw[if_neg (by simp),if_pos hfl]
   have HFI:=qa (qir (w:=w4) ub n true (.inr hls) (qx (.inr hfl)) hn (Rd.own HO4.out))
   obtain⟨w5,hmake,ho5,hg5⟩:=qj3 w4 n (by omega)
   have HR5:=qa ((Rd.own HO4.out).grown hg5 (qc _) (by simp))
   have HC5:=qa (HC4.out.grown hg5 (by simp))
   have HG5:=qa (HG4.out.trans (qev hg5))
   have HO5:=qa ho5
   have s5:=hg5.size
   have hlsb:(n+7)/8≤ub.length:=Nat.le_of_eq hls.symm
   have hub:ub.length≤1000000000000:=by omega
   clear ho5 hg5 hul hls hT hTl hTn hfl
   go_wp2_with fail
   refine HFI.out.mono ?_
   rintro r w' ⟨rfl,rfl⟩
   go_wp2_with fail
   refine(yq HC4.out).mono ?_
   rintro r w' ⟨rfl,rfl⟩
   go_wp2_with fail
   go_loopw [29] (fun i wr=>∃(j:Nat) (xs:List Value),j≤n∧i= .int .i64 (j:Int)∧wr.ownsRow w4.heap.size 4 1 (.slice (some ⟨w4.heap.size,0,none⟩) n n) n xs∧qhs (lv (qgg ub n)) j xs∧w5.grownBy wr (some w4.heap.size)) (fun i _=>n-(intOf i).toNat)
   case atStart=>exact⟨0,_,qj _,rfl,HO5.out,qcb (by rw[List.length_replicate,qac,qbd]),yx _ _⟩
   case round =>
    obtain⟨j,xs,hj,rfl,ho6,hup,hg6⟩:=hrel
    have HO6:=qa ho6
    have HUP:=qa hup
    have HG6:=qa hg6
    have s6:=hg6.size
    have HR6:=qa (HR5.out.grown hg6 s5 (fun x hx=> .inr (by injection hx with hx;omega)))
    clear ho6 hup hg6
    by_cases hlt:j<n
    ·
     have hj8:j/8<ub.length:=by omega
     obtain⟨b0,off,rfl,_,hbh,hcell⟩:=HR6.out.byte hj8
     have hfr:=HO6.out.frozenAt j
     have hxj:j<xs.length:=by rw[HUP.out.1,qac,qbd];exact hlt
     have hcx:wr.cell? ⟨w4.heap.size,j,none⟩=some xs[j]:=by
      rw[HO6.out.cellAt j (by omega),qe hxj]
     have HST:=fun u=>qa (HO6.out.stored j u)
     have hu:(lv (qgg ub n))[j]? = some (.bool (getB ub j)):=by simp[lv,getsB_get ub n j hlt]
     have HU:=qa hu
     have hx256:=je ub[j/8]
     have HRB:=qa (row_bit ub j _ hj8 rfl)
     generalize xs[j]=x0 at *
     generalize ub[j/8].toNat=x at *
     have hand:=and_bit x (j%8) hx256
     have hj8':(j:Int)/8=((j/8:Nat):Int):=by omega
     have hj8m:(j:Int)%8=((j%8:Nat):Int):=by omega
     have hj8t:(j:Int).tmod 8=((j%8:Nat):Int):=by rw[Int.tmod_eq_emod_of_nonneg (by omega)];omega
     have hr8:j%8<8:=qb1 _ (by decide)
     clear hu
     generalize j/8=q at *
     generalize j%8=r at *
     have hqw:IntKind.i64.wrap (q:Int)=(q:Int):=xa _ (by omega)
     have hrw:IntKind.i64.wrap (r:Int)=(r:Int):=xa _ (by omega)
     go_wp2
     go_roundw
     case rel =>
      have e:((x:Int)/2 ^ r%2==1)=getB ub j:=by
       rw[←HRB.out]
       push_cast
       rfl
      rw[e]
      exact⟨j+1,_,by omega,by go_num,(HST _).out.1,um HUP.out _ HU.out,HG6.out.trans (HST _).out.2⟩
     case measure=>simp[intOf];omega
    ·
     obtain rfl:j=n:=by omega
     have hall:=qdo HUP.out (by rw[qac,qbd];exact qc _)
     have hoL:=HO6.out
     rw[hall] at hoL
     have HOL:=qa hoL
     have HC6:=qa (HC5.out.grown HG6.out (fun x hx=> .inr (by injection hx with hx;omega)))
     have HG7:=qa (gb_more HG5.out HG6.out (by omega))
     have hlen:(qgg ub j).length=j:=qbd _ _
     have HLEN:=qa hlen
     clear hall hoL hlen
     go_wp2
     go_ret
     rw[HE.out]
     exact⟨_,_,by rw[HLEN.out];rfl,by rw[HLEN.out];exact j9 HOL.out (by omega),HC6.out,HG7.out⟩
  ·
   have HE:Hid (qb7 ub n k4 0=([],k4,3)):=by
    unfold Hid qb7
    rw[if_neg (by simp),if_neg hfl]
   have hne:ub≠[]:=by
    rintro rfl
    apply hfl
    have:=Nat.two_pow_pos n
    simpa[un] using this
   have HFI:=qa (qir (w:=w4) ub n false (.inr hls) (qw (fun h=>h.elim hne hfl)) hn (Rd.own HO4.out))
   clear hul hls hT hTl hTn hfl hne
   go_wp2_with fail
   refine HFI.out.mono ?_
   rintro r w' ⟨rfl,rfl⟩
   go_wp2_with fail
   refine(ve 3 HC4.out).mono ?_
   rintro r w5 ⟨rfl,hc5,hg5⟩
   rw[if_pos rfl] at hc5
   have HC5:=qa hc5
   have HG5:=qa (HG4.out.trans hg5)
   clear hc5 hg5
   go_wp2_with fail
   refine(yq HC5.out).mono ?_
   rintro r w' ⟨rfl,rfl⟩
   go_wp2
   go_ret
   rw[HE.out]
   exact⟨none,0,rfl,zj ..,HC5.out,HG5.out⟩
 ·
  have HE:Hid (qb7 ub n k4 e4=([],k4,e4)):=by
   unfold Hid qb7
   rw[if_pos he]
  have hue:ub=[]:=hTn he
  subst hue
  have HFI:=qa (qir (w:=w4) [] n true (.inl rfl) (qx (.inl rfl)) hn (Rd.own HO4.out))
  have he':(e4==0)=false:=by simpa using he
  have HGD:=qa (yq HC4.out)
  rw[he'] at HGD
  clear hT hTl hTn he he'
  go_wp2_with fail
  refine HFI.out.mono ?_
  rintro r w' ⟨rfl,rfl⟩
  go_wp2_with fail
  refine HGD.out.mono ?_
  rintro r w' ⟨rfl,rfl⟩
  go_wp2
  go_ret
  rw[HE.out]
  exact⟨none,0,rfl,zj ..,HC4.out,HG4.out⟩
def qhy(bs:List UInt8)(k:Nat)(e:Int):Int:=if e≠0 then e else if k<bs.length then 2 else 0
theorem end_any{w:World}{lo g k:Nat}{bs:List UInt8}{e:Int}(h:xq w lo g bs k e) :
  Calls Tryz.prog 68 #[cp g] w fun r w'=>r= .returned (.int .i64 (qhy bs k e))∧∃n,w.drewN n=w':=by
 have H:=qa h
 have hk:=h.le
 obtain⟨A,c,h0,h1,h2, -, -, -, -⟩:=h.open_
 have HG:=qa (yq h)
 clear h h0 h1
 unfold cp at *
 by_cases he:e=0
 ·
  subst he
  by_cases hl:k<bs.length
  ·
   rw[show qhy bs k 0=2 from by simp[qhy,hl]]
   go_enter Tryz.func68,Tryz.ntmps68
   go_wp2_with (first | (go_at_call 96;refine HG.out.mono ?_;rintro e w' ⟨rfl,rfl⟩) | (go_at_call 97;refine(qcx H.out).mono ?_;rintro e w' ⟨rfl,⟨m,rfl⟩⟩))
   all_goals go_ret
   all_goals exact⟨rfl,_,rfl⟩
  ·
   rw[show qhy bs k 0=0 from by simp[qhy,hl]]
   go_enter Tryz.func68,Tryz.ntmps68
   go_wp2_with (first | (go_at_call 96;refine HG.out.mono ?_;rintro e w' ⟨rfl,rfl⟩) | (go_at_call 97;refine(qcx H.out).mono ?_;rintro e w' ⟨rfl,⟨m,rfl⟩⟩))
   all_goals go_ret
   all_goals exact⟨rfl,_,rfl⟩
 ·
  rw[show qhy bs k e=e from by simp[qhy,he]]
  have he':(e==0)=false:=by simpa using he
  rw[he'] at HG
  clear he he'
  go_enter Tryz.func68,Tryz.ntmps68
  go_wp2_with (first | (go_at_call 96;refine HG.out.mono ?_;rintro e w' ⟨rfl,rfl⟩) | (go_at_call 97;refine(qcx H.out).mono ?_;rintro e w' ⟨rfl,⟨m,rfl⟩⟩))
  go_ret
  exact⟨rfl,0,rfl⟩
theorem qh2{n:Nat}(h:n<256):(UInt8.ofNat n).toNat=n:=by rw[yj];omega
theorem putL_facts(n:Nat):∀rest:List UInt8,uu (jc n++rest)+1=(jc n).length∧val ((jc n++rest).take (uu (jc n++rest)+1))=n∧
  (0<n→((jc n++rest)[uu (jc n++rest)]?.getD 0).toNat≠0):=by
 induction n using Nat.strongRecOn with
 | ind n ih =>
  intro rest
  by_cases h:n<128
  ·
   rw[k8 h]
   have e:=qh2 (n:=n) (by omega)
   have hl:uu ([UInt8.ofNat n]++rest)=0:=by
    simp only[z7,uu]
    rw[if_neg (by omega)]
   rw[hl]
   refine⟨rfl,?_,fun hp => ?_⟩
   ·
    simp only[z7,xu,yk,yy,uh,val,e]
    omega
   ·
    simp only[z7,zf,Option.getD_some,e]
    omega
  ·
   rw[qe6 (by omega)]
   obtain⟨i1,i2,i3⟩:=ih (n/128) (by omega) rest
   have e:=qh2 (n:=n%128+128) (by omega)
   have hl:uu (UInt8.ofNat (n%128+128) :: jc (n/128)++rest)=uu (jc (n/128)++rest)+1:=by
    simp only[z7,uu]
    rw[if_pos (by omega)]
   rw[hl]
   refine⟨by simp only[qo];omega,?_,fun hp => ?_⟩
   ·
    simp only[z7,yy,val,e,i2]
    omega
   ·
    simp only[z7,zg]
    exact i3 (by omega)
theorem vnum_putL(n:Nat)(h:n≤9223372036854775807)(rest:List UInt8):qai (jc n++rest)=(n,(jc n).length,0):=by
 obtain⟨h1,h2,h3⟩:=putL_facts n rest
 have h9:=kt n h
 have hlen:(jc n++rest).length=(jc n).length+rest.length:=qd
 unfold qai
 rw[if_neg (by omega),if_neg (by omega),if_neg,h2,h1]
 rintro⟨hp,hz⟩
 refine h3 ?_ hz
 rcases jh n with h0 | h0
 ·
  subst h0
  rw[k8 (by omega)] at h1
  simp only[qo,jy] at h1
  rw[k8 (by omega)] at hp
  omega
 ·
  exact h0
theorem val_pos:∀b:List UInt8,uu b<b.length→(b[uu b]?.getD 0).toNat≠0→0<val (b.take (uu b+1))
 | [],h,_=>by simp at h
 | y :: r,h,hz=>by
  by_cases hy:128≤y.toNat
  ·
   have hl:uu (y :: r)=uu r+1:=by simp only[uu];rw[if_pos hy]
   rw[hl] at h hz ⊢
   simp only[qo,zg] at h hz
   have:=val_pos r (by omega) hz
   simp only[yy,val]
   omega
  ·
   have hl:uu (y :: r)=0:=by simp only[uu];rw[if_neg hy]
   rw[hl] at hz ⊢
   simp only[zf,Option.getD_some] at hz
   simp only[yk,yy,uh,val]
   omega
theorem putL_val:∀b:List UInt8,uu b<b.length→¬(0<uu b∧(b[uu b]?.getD 0).toNat=0)→jc (val (b.take (uu b+1)))=b.take (uu b+1)
 | [],h,_=>by simp at h
 | y :: r,h,hz=>by
  have hy256:y.toNat<256:=je y
  by_cases hy:128≤y.toNat
  ·
   have hl:uu (y :: r)=uu r+1:=by simp only[uu];rw[if_pos hy]
   rw[hl] at h hz ⊢
   simp only[qo,zg] at h hz
   have hz':(r[uu r]?.getD 0).toNat≠0:=fun e=>hz ⟨by omega,e⟩
   have hp:=val_pos r (by omega) hz'
   have hi:=putL_val r (by omega) (fun e=>hz' e.2)
   simp only[yy,val]
   rw[qe6 (by omega)]
   rw[show(y.toNat%128+128*val (r.take (uu r+1)))%128+128=y.toNat from by omega,show(y.toNat%128+128*val (r.take (uu r+1)))/128=val (r.take (uu r+1)) from by omega,hi]
   simp
  ·
   have hl:uu (y :: r)=0:=by simp only[uu];rw[if_neg hy]
   rw[hl]
   simp only[yk,yy,uh,val]
   rw[k8 (by omega),show y.toNat%128+128*0=y.toNat from by omega]
   simp
theorem vnum_form(b:List UInt8)(h:(qai b).2.2=0):jc (qai b).1=b.take (qai b).2.1∧0<(qai b).2.1∧(qai b).1≤9223372036854775807:=by
 unfold qai at h ⊢
 by_cases h9:9≤uu b
 ·
  rw[if_pos h9] at h
  simp only[] at h
  split at h <;> omega
 ·
  rw[if_neg h9] at h ⊢
  by_cases hl:b.length≤uu b
  ·
   rw[if_pos hl] at h
   simp only[] at h
   omega
  ·
   rw[if_neg hl] at h ⊢
   by_cases hz:0<uu b∧(b[uu b]?.getD 0).toNat=0
   ·
    rw[if_pos hz] at h
    simp only[] at h
    omega
   ·
    rw[if_neg hz]
    refine⟨putL_val b (by omega) hz,Nat.succ_pos _,?_⟩
    have h1:=val_lt (b.take (uu b+1))
    have h2:128 ^ (b.take (uu b+1)).length≤128 ^ 9:=yb (by omega) (by rw[qy];omega)
    simp only[]
    omega
theorem qhp(ub:List UInt8)(n k:Nat)(e:Int)(he:e≠0):qb7 ub n k e=([],k,e):=by
 unfold qb7
 rw[if_pos he]
theorem qf3(bs:List UInt8)(k:Nat){e:Int}(m:Int)(h:e≠0):z8 bs k e m=(0,k,e):=by simp[z8,vy,h]
theorem peek_split(bs:List UInt8)(k:Nat)(m:Int):(∃e,e≠0∧vy bs k 0 m=(0,0,e))∨((qai (bs.drop k)).2.2=0∧((qai (bs.drop k)).1:Int)≤m∧vy bs k 0 m=((qai (bs.drop k)).1,(qai (bs.drop k)).2.1,0)):=by
 by_cases hp:qdz bs k m=0
 ·
  refine .inr ?_
  have h2:=hp
  unfold qdz at h2
  split at h2
  ·
   contradiction
  ·
   rename_i h3
   split at h2
   ·
    cases h2
   ·
    exact⟨Decidable.not_not.1 h3,by omega,by simp[vy,hp]⟩
 ·
  exact .inl ⟨_,hp,by simp[vy,hp]⟩
theorem qab{bs:List UInt8}{k n k2:Nat}{m:Int}(hk:k≤bs.length)(h:z8 bs k 0 m=(n,k2,0)) :
  (n:Int)≤m∧n≤9223372036854775807∧bs.drop k=jc n++bs.drop k2∧k2=k+(jc n).length∧k2≤bs.length:=by
 unfold z8 at h
 rcases peek_split bs k m with ⟨e,he,hr⟩ | ⟨h1,h2,hr⟩
 ·
  rw[hr] at h
  simp only[Prod.mk.injEq] at h
  exact absurd h.2.2 he
 ·
  rw[hr] at h
  simp only[Prod.mk.injEq] at h
  obtain⟨rfl,rfl, -⟩:=h
  obtain⟨f1,f2,f3⟩:=vnum_form _ h1
  have hs:=qlh (bs.drop k)
  rw[qv] at hs
  have hl:(jc (qai (bs.drop k)).1).length=(qai (bs.drop k)).2.1:=by rw[f1,qy,qv];omega
  refine⟨h2,f3,?_,by rw[hl],by omega⟩
  rw[f1,←zu,zw]
theorem vp{bs rest:List UInt8}{k n:Nat}{m:Int}(h:bs.drop k=jc n++rest)(hn:(n:Int)≤m)(h63:n≤9223372036854775807):z8 bs k 0 m=(n,k+(jc n).length,0):=by
 have hv:=vnum_putL n h63 rest
 have h0:qdz bs k m=0:=by
  unfold qdz
  rw[h,hv,if_neg (by simp),if_neg (by simp only[];omega)]
 unfold z8 vy
 rw[h,hv]
 simp[h0]
theorem qg6(bs:List UInt8)(k:Nat){e:Int}(m:Int)(h:e≠0):qat bs k e m=([],k,e):=by
 unfold qat
 rw[qf3 _ _ _ h]
 dsimp only
 rw[qa3 _ _ _ _ _ h,qhp _ _ _ _ h]
theorem bread_good{bs:List UInt8}{k k2:Nat}{m:Int}{rs:List Bool}(hk:k≤bs.length)(h:qat bs k 0 m=(rs,k2,0)) :
  (rs.length:Int)≤m∧bs.drop k=xz rs++bs.drop k2∧k2=k+(xz rs).length∧k2≤bs.length:=by
 unfold qat at h
 obtain⟨M,hM⟩:∃M,z8 bs k 0 m=M:=⟨_,rfl⟩
 rw[hM] at h
 obtain⟨n,k1,e1⟩:=M
 dsimp only at h
 by_cases he1:e1=0
 ·
  subst he1
  obtain⟨g1,g2,g3,g4,g5⟩:=qab hk hM
  by_cases h2:k1+(n+7)/8≤bs.length
  ·
   have hUL:((bs.drop k1).take ((n+7)/8)).length=(n+7)/8:=by simp;omega
   have hd2:bs.drop k1=(bs.drop k1).take ((n+7)/8)++bs.drop (k1+(n+7)/8):=(zw ((n+7)/8) (bs.drop k1)).symm.trans (by rw[zu])
   rw[qa2 bs k1 _ h2] at h
   dsimp only at h
   generalize (bs.drop k1).take ((n+7)/8)=ub at *
   unfold qb7 at h
   rw[if_neg (by simp)] at h
   by_cases hc:un ub<2 ^ n
   ·
    rw[if_pos hc] at h
    simp only[Prod.mk.injEq,and_true] at h
    obtain⟨rfl,rfl⟩:=h
    have hW:xz (qgg ub n)=jc n++ub:=by
     unfold xz
     rw[qbd,packB_getsB ub n hUL hc]
    refine⟨by rw[qbd];exact g1,?_,?_,h2⟩
    ·
     rw[hW,g3,hd2,qm]
    ·
     rw[hW,qd,hUL]
     omega
   ·
    rw[if_neg hc] at h
    simp at h
  ·
   rw[qa8 bs k1 _ (by omega)] at h
   dsimp only at h
   rw[qhp _ _ _ _ (show(2:Int)≠0 by decide)] at h
   simp at h
 ·
  rw[qa3 _ _ _ _ _ he1] at h
  rw[qhp _ _ _ _ he1] at h
  simp only[Prod.mk.injEq] at h
  exact absurd h.2.2 he1
theorem qgj{bs rest:List UInt8}{k:Nat}(rs:List Bool)(m:Int)(hk:k≤bs.length)(h:bs.drop k=xz rs++rest)(hl:(rs.length:Int)≤m)(h63:rs.length≤9223372036854775807):qat bs k 0 m=(rs,k+(xz rs).length,0):=by
 have h1:bs.drop k=jc rs.length++(qea rs++rest):=by rw[h,xz,qm]
 have hM:=vp (m:=m) h1 hl h63
 have hpl:(qea rs).length=(rs.length+7)/8:=qd9 rs
 have hlen:bs.length-k=(jc rs.length).length+((rs.length+7)/8+rest.length):=by
  rw[←qv,h1,qd,qd,hpl]
 have hd1:bs.drop (k+(jc rs.length).length)=qea rs++rest:=by rw[←zu,h1,jn]
 have hU:=qa2 bs (k+(jc rs.length).length) ((rs.length+7)/8) (by omega)
 rw[hd1,←hpl,List.take_left] at hU
 rw[hpl] at hU
 unfold qat
 rw[hM]
 dsimp only
 rw[hU]
 unfold qb7
 dsimp only
 rw[if_neg (by simp),if_pos (bval_packB rs),getsB_packB,xz,qd,hpl]
 simp only[Prod.mk.injEq,and_true,true_and]
 omega
theorem qie(bs:List UInt8)(n wd k:Nat)(e:Int)(he:e≠0):qcd bs n wd k e=([],k,qdr wd e)∧qdr wd e≠0:=by
 have h:qdr wd e=e:=by
  unfold qdr
  by_cases hw:wd≤32
  ·
   rw[if_pos hw]
  ·
   rw[if_neg hw,if_neg he]
 rw[h]
 refine⟨?_,he⟩
 unfold qcd
 rw[h,qa3 _ _ _ _ _ he]
 unfold qbk
 rw[if_pos he]
theorem ql9{wd:Nat}(h:wd≤32):qdr wd 0=0:=by
 unfold qdr
 rw[if_pos h]
theorem qid(bs:List UInt8)(k:Nat){e:Int}(m:Int)(h:e≠0):ue bs k e m=([],k,e):=by
 unfold ue
 rw[qf3 _ _ _ h]
 dsimp only
 rw[qa3 _ _ _ _ _ h]
 have:=qie bs 0 (([]:List UInt8).headD 0).toNat k e h
 rw[this.1]
 have h2:qdr (([]:List UInt8).headD 0).toNat e=e:=by unfold qdr;simp[h]
 rw[h2]
theorem qgx{bs:List UInt8}{k k2:Nat}{m:Nat}{ns:List Nat}(hk:k≤bs.length)(hm:m≤2147483647)(h:ue bs k 0 (m:Int)=(ns,k2,0)) :
  ns.length≤m∧May (jf ns)∧bs.drop k=jr (jf ns)++bs.drop k2∧k2=k+(jr (jf ns)).length∧k2≤bs.length:=by
 have hmm:min (m:Int) 2147483647=(m:Int):=by omega
 unfold ue at h
 rw[hmm] at h
 obtain⟨M,hM⟩:∃M,z8 bs k 0 (m:Int)=M:=⟨_,rfl⟩
 rw[hM] at h
 obtain⟨n,k1,e1⟩:=M
 dsimp only at h
 by_cases he1:e1=0
 ·
  subst he1
  obtain⟨g1,g2,g3,g4,g5⟩:=qab hk hM
  by_cases h1:k1+1≤bs.length
  ·
   have hT:z6 bs k1 0 0 1=([bs[k1]],k1+1,0):=by
    have:=qa2 bs k1 1 h1
    rw[ja (by omega)] at this
    exact this
   rw[hT] at h
   dsimp only[List.headD_cons] at h
   have hbyte:UInt8.ofNat bs[k1].toNat=bs[k1]:=by simp
   have hd1:bs.drop k1=bs[k1] :: bs.drop (k1+1):=ja (by omega)
   generalize hx:bs[k1].toNat=wd at *
   unfold qcd at h
   by_cases hw:wd≤32
   ·
    rw[ql9 hw] at h
    by_cases h2:k1+1+(n*wd+7)/8≤bs.length
    ·
     have hUL:((bs.drop (k1+1)).take ((n*wd+7)/8)).length=(n*wd+7)/8:=by simp;omega
     have hd2:bs.drop (k1+1)=(bs.drop (k1+1)).take ((n*wd+7)/8)++bs.drop (k1+1+(n*wd+7)/8):=(zw ((n*wd+7)/8) (bs.drop (k1+1))).symm.trans (by rw[zu])
     rw[qa2 bs (k1+1) _ h2] at h
     dsimp only at h
     generalize (bs.drop (k1+1)).take ((n*wd+7)/8)=ub at *
     unfold qbk at h
     rw[if_neg (by simp)] at h
     by_cases hc:wd=wide (jf (qas ub wd n))∧un ub<2 ^ (n*wd)
     ·
      rw[if_pos hc] at h
      simp only[Prod.mk.injEq,and_true] at h
      obtain⟨rfl,rfl⟩:=h
      have hgl:(qas ub wd n).length=n:=qb0 _ _ _
      have hW:jr (jf (qas ub wd n))=jc n++([bs[k1]]++ub):=by
       unfold jr
       rw[zq,hgl,←hc.1,qlr,pack_gets ub wd n hUL hc.2,hbyte]
      refine⟨by omega,?_,?_,?_,h2⟩
      ·
       intro z hz
       obtain⟨x,hx,rfl⟩:=za.1 hz
       have h3:=getsN_lt ub wd n x hx
       have h4:2 ^ wd≤2 ^ 32:=yb (by omega) hw
       omega
      ·
       rw[hW,g3,hd1,hd2]
       simp
      ·
       rw[hW,qd,qd,hUL,zx]
       omega
     ·
      rw[if_neg hc] at h
      simp at h
    ·
     rw[qa8 bs (k1+1) _ (by omega)] at h
     unfold qbk at h
     rw[if_pos (show(2:Int)≠0 by decide)] at h
     simp at h
   ·
    have h3:qdr wd 0=3:=by
     unfold qdr
     rw[if_neg hw,if_pos rfl]
    rw[h3,qa3 _ _ _ _ _ (by decide)] at h
    unfold qbk at h
    rw[if_pos (show(3:Int)≠0 by decide)] at h
    simp at h
  ·
   have hT:z6 bs k1 0 0 1=([],k1,2):=qa8 bs k1 1 (by omega)
   rw[hT] at h
   dsimp only at h
   have h4:=qie bs n (([]:List UInt8).headD 0).toNat k1 2 (by decide)
   rw[h4.1] at h
   simp only[Prod.mk.injEq] at h
   exact absurd h.2.2 h4.2
 ·
  rw[qa3 _ _ _ _ _ he1] at h
  have h4:=qie bs n (([]:List UInt8).headD 0).toNat k1 e1 he1
  dsimp only at h
  rw[h4.1] at h
  simp only[Prod.mk.injEq] at h
  exact absurd h.2.2 h4.2
theorem qf0{bs rest:List UInt8}{k:Nat}(zs:List Int)(hz:May zs)(m:Nat)(hk:k≤bs.length)(h:bs.drop k=jr zs++rest)(hl:zs.length≤m)(hm:m≤2147483647):ue bs k 0 (m:Int)=(qcu zs,k+(jr zs).length,0):=by
 have hmm:min (m:Int) 2147483647=(m:Int):=by omega
 have hw:=hz.wide_le
 have h1:bs.drop k=jc zs.length++(UInt8.ofNat (wide zs) :: (qbo (wide zs) (qcu zs)++rest)):=by rw[h,jr];simp
 have hM:=vp (m:=(m:Int)) h1 (by omega) (by omega)
 have hpl:(qbo (wide zs) (qcu zs)).length=(zs.length*wide zs+7)/8:=by rw[qbz,ux]
 have hlen:bs.length-k=(jc zs.length).length+((zs.length*wide zs+7)/8+rest.length+1):=by
  rw[←qv,h1]
  simp[hpl]
 have hd1:bs.drop (k+(jc zs.length).length)=UInt8.ofNat (wide zs) :: (qbo (wide zs) (qcu zs)++rest):=by rw[←zu,h1,jn]
 have hd2:bs.drop (k+(jc zs.length).length+1)=qbo (wide zs) (qcu zs)++rest:=by
  rw[←zu,hd1]
  rfl
 have hT:z6 bs (k+(jc zs.length).length) 0 0 1=([UInt8.ofNat (wide zs)],k+(jc zs.length).length+1,0):=by
  have:=qa2 bs (k+(jc zs.length).length) 1 (by omega)
  rw[hd1] at this
  exact this
 have hU:=qa2 bs (k+(jc zs.length).length+1) ((zs.length*wide zs+7)/8) (by omega)
 rw[hd2,←hpl,List.take_left] at hU
 rw[hpl] at hU
 have hlt:∀x∈qcu zs,x<2 ^ wide zs:=by
  have:=hz.fits.nats_lt
  rwa [kf] at this
 have hg:qas (qbo (wide zs) (qcu zs)) (wide zs) zs.length=qcu zs:=by
  have:=gets_pack (wide zs) (qcu zs) hlt
  rwa [ux] at this
 have hwl:(jr zs).length=(jc zs.length).length+((zs.length*wide zs+7)/8+1):=by rw[jr];simp[hpl]
 unfold ue
 rw[hmm,hM]
 dsimp only
 rw[hT]
 dsimp only
 rw[show([UInt8.ofNat (wide zs)].headD 0).toNat=wide zs from qii (by omega)]
 unfold qcd
 rw[ql9 hw,hU]
 unfold qbk
 dsimp only
 rw[if_neg (by simp),hg,if_pos]
 ·
  rw[hwl]
  simp only[Prod.mk.injEq,and_true,true_and]
  omega
 refine⟨by rw[qi2 (fun z h=>(hz z h).1)],?_⟩
 rw[qki _ _ hlt]
 have:=qkm (wide zs) (qcu zs) hlt
 rwa [ux,yz] at this
structure UpG (gs:List Nat):Prop where
 up:gs.Pairwise (· < ·)
 lt:∀g∈gs,g<16777216
theorem UpG.nil:UpG []:=⟨List.Pairwise.nil,fun g h=>absurd h vd⟩
theorem UpG.take{gs:List Nat}(h:UpG gs)(k:Nat):UpG (gs.take k):=⟨h.up.sublist (List.take_sublist k gs),fun g hg=>h.lt g (vg hg)⟩
theorem qi5(gs:List Nat)(i k:Nat)(h:i<k):(gs.take k).getD i 0=gs.getD i 0:=by
 simp[List.getD,uo,h]
theorem qe1(gs:List Nat)(k:Nat):ya (gs.take k)=(ya gs).take k:=by
 apply List.ext_getElem
 ·
  simp[ya]
 ·
  intro i h1 h2
  simp only[ya,j5,List.getElem_range,qag]
  have hi:i<k:=by
   rw[jl,qy] at h1
   omega
  rw[qi5 gs i k hi,qi5 gs 0 k (by omega),qi5 gs (i-1) k (by omega)]
theorem qgc(gs:List Nat)(g:Nat):ya (gs++[g])=ya gs++[(g:Int)-(qej gs gs.length:Int)]:=by
 apply qcp
 intro i
 rcases Nat.lt_trichotomy i gs.length with h | h | h
 ·
  rw[ju (by rw[jl];exact h)]
  have e:=qe1 (gs++[g]) gs.length
  rw[List.take_left] at e
  rw[e,uo,if_pos h]
 ·
  subst h
  have hs:(ya (gs++[g])).length=gs.length+1:=by rw[jl,qd];rfl
  rw[yl (by rw[jl];exact qc _),jl,qbt,qe (by omega)]
  simp only[zf,Option.some.injEq]
  simp only[ya,j5,List.getElem_range,qej]
  by_cases h0:gs.length=0
  ·
   have:gs=[]:=ze h0
   subst this
   simp
  ·
   rw[if_neg h0,if_neg h0]
   have h5:(gs++[g]).getD (gs.length-1) 0=gs.getD (gs.length-1) 0:=by simp[List.getD,ju (show gs.length-1<gs.length by omega)]
   have h6:(gs++[g]).getD gs.length 0=g:=by simp[List.getD]
   rw[h5,h6]
 ·
  rw[jp (by rw[jl,qd,zx];omega),jp (by rw[qd,jl,zx];omega)]
theorem qjs:∀ {a b:List Nat},ya a=ya b→a=b:=by
 intro a b h
 have hl:a.length=b.length:=by rw[←jl a,h,jl]
 have key:∀k,k≤a.length→a.take k=b.take k:=by
  intro k
  induction k with
  | zero=>intro _;simp
  | succ k ih =>
   intro hk
   have e:=ih (by omega)
   have h1:=qe1 a (k+1)
   have h2:=qe1 b (k+1)
   rw[h,←h2,qi (show k<a.length by omega),qi (show k<b.length by omega),e,qgc,qgc] at h1
   have h3:=xp h1
   simp only[List.cons.injEq,and_true] at h3
   rw[qi (show k<a.length by omega),qi (show k<b.length by omega),e]
   congr 2
   omega
 have:=key a.length (qc _)
 rwa [yo,hl,yo] at this
def qfb(gs:List Nat):Int:=if gs.length=0 then -1 else ((gs.getD (gs.length-1) 0:Nat):Int)
theorem lastG_snoc(gs:List Nat)(g:Nat):qfb (gs++[g])=(g:Int):=by simp[qfb,List.getD]
theorem lastG_max(gs:List Nat):max (qfb gs) 0=(qej gs gs.length:Int):=by
 unfold qfb qej
 split <;> omega
theorem lastG_lt{gs:List Nat}(h:UpG gs) : -1≤qfb gs∧qfb gs<16777216:=by
 unfold qfb
 split
 ·
  omega
 ·
  rename_i h0
  have:=h.lt (gs.getD (gs.length-1) 0) (by rw[List.getD,qe (by omega)];exact ql _)
  omega
theorem UpG.snoc{gs:List Nat}{g:Nat}(h:UpG gs)(h1:qfb gs<(g:Int))(h2:g<16777216):UpG (gs++[g]):=by
 refine⟨List.pairwise_append.2 ⟨h.up,List.pairwise_singleton _ _,fun a ha b hb => ?_⟩,fun x hx => ?_⟩
 ·
  rw[q8] at hb
  subst hb
  obtain⟨j,hj,rfl⟩:=zl ha
  unfold qfb at h1
  rw[if_neg (by omega)] at h1
  rw[List.getD,qe (by omega),Option.getD_some] at h1
  rcases Nat.lt_or_ge j (gs.length-1) with h3 | h3
  ·
   have:=kz.1 h.up j (gs.length-1) hj (by omega) h3
   omega
  ·
   have:j=gs.length-1:=by omega
   subst this
   omega
 ·
  rcases zn.1 hx with hx | hx
  ·
   exact h.lt x hx
  ·
   rw[q8] at hx
   exact hx ▸ h2
theorem UpG.next{gs t:List Nat}{k:Nat}{ns:List Nat}(h:UpG gs)(hs:ya gs=jf ns)(ht:ya t=jf (ns.take k))(hk:k<ns.length) :
  ∃g:Nat,(g:Int)=(qej t t.length:Int)+(ns[k]:Int)∧qfb t<(g:Int)∧g<16777216:=by
 have hl:gs.length=ns.length:=by rw[←jl,hs,zq]
 have e:gs.take k=t:=qjs (by rw[qe1,hs,ht,jf,jf,List.map_take])
 have hkg:k<gs.length:=by omega
 have h2:=qe1 gs (k+1)
 rw[qi hkg,e,qgc,hs] at h2
 rw[jf,←List.map_take,qi hk,jg,ht,jf] at h2
 have h3:=xp h2
 simp only[y8,qbu,List.cons.injEq,and_true] at h3
 have htl:t.length=k:=by rw[←e,qy];omega
 refine⟨gs[k],by omega,?_,h.lt _ (ql hkg)⟩
 unfold qfb
 split
 ·
  omega
 ·
  rename_i h0
  have h5:t.getD (t.length-1) 0=gs[k-1]'(by omega):=by
   have h6:=qi5 gs (k-1) k (by omega)
   rw[e] at h6
   rw[htl,h6,List.getD,qe (show k-1<gs.length by omega)]
   rfl
  rw[h5]
  have:=kz.1 h.up (k-1) k (by omega) hkg (by omega)
  omega
structure ListG (ns:List Nat) (e:Int) (gs:List Nat) (e':Int):Prop where
 ok:e'=0→e=0∧ya gs=jf ns∧UpG gs
 there:e=0→∀gs0,UpG gs0→ya gs0=jf ns→e'=0
def qiu(ns t:List Nat)(xs:List Value):Prop:=xs.length=ns.length∧(∀j,j<t.length→xs[j]? = (iv (jf t))[j]?)∧∀j,t.length≤j→xs[j]? = (iv (jf ns))[j]?
theorem qiu.zero(ns:List Nat):qiu ns [] (iv (jf ns)):=⟨by rw[yd,zq],fun j h=>absurd h (jm j),fun _ _=>rfl⟩
theorem qiu.snoc{ns t:List Nat}{xs:List Value}(h:qiu ns t xs)(g:Nat)(ht:t.length<ns.length):qiu ns (t++[g]) (xs.set t.length (.int .i64 (g:Int))):=by
 refine⟨by rw[xv];exact h.1,fun j hj => ?_,fun j hj => ?_⟩
 ·
  rw[qd,zx] at hj
  have hgi:(iv (jf (t++[g])))=iv (jf t)++[.int .i64 (g:Int)]:=by simp[iv,jf]
  rw[hgi]
  by_cases e:j=t.length
  ·
   subst e
   rw[qbw (by rw[h.1];exact ht),yl (by rw[yd,zq];exact qc _),yd,zq,qbt]
   rfl
  ·
   rw[qa6 (by omega),h.2.1 j (by omega),ju (by rw[yd,zq];omega)]
 ·
  rw[qd,zx] at hj
  rw[qa6 (by omega)]
  exact h.2.2 j (by omega)
theorem qiu.all{ns t:List Nat}{xs:List Value}(h:qiu ns t xs)(ht:t.length=ns.length):xs=iv (jf t):=by
 apply qcp
 intro j
 rcases Nat.lt_or_ge j t.length with hj | hj
 ·
  exact h.2.1 j hj
 ·
  rw[jp (by rw[h.1];omega),jp (by rw[yd,zq];omega)]
theorem qiu.get{ns t:List Nat}{xs:List Value}(h:qiu ns t xs)(ht:t.length<ns.length):xs[t.length]? = some (.int .i64 ((ns[t.length]:Nat):Int)):=by
 rw[h.2.2 _ (qc _),iv_get _ _ (by rw[zq];exact ht)]
 simp[jf]
theorem gtakeList_any{w:World}{lo g k:Nat}{bs:List UInt8}{e:Int}(hc:xq w lo g bs k e)(hbs:bs.length≤1000000000)(ns:List Nat)(k1:Nat)(e1:Int)(hR:ue bs k e 65536=(ns,k1,e1))(hns:∀x∈ns,x<4294967296)(hnl:ns.length≤2147483647) :
  Calls Tryz.prog 124 #[cp g] w fun r w'=>∃(gs:List Nat) (A:Option Addr) (c:Nat) (e':Int),r= .returned (.slice A gs.length c)∧w'.ownsRow w.heap.size 3 1 (.slice A gs.length c) gs.length (iv (jf gs))∧
   xq w' lo g bs k1 e'∧ListG ns e1 gs e'∧w.grownBy w' (some g):=by
 have hgl:=hc.lt
 have HPR:=qa (qlp 65536 hc (by omega))
 rw[hR] at HPR
 dsimp only at HPR
 have HNS:Hid (∀k (hk:k<ns.length),ns[k]<4294967296):=fun k hk=>hns _ (ql hk)
 clear hc hR hns
 unfold cp
 go_enter Tryz.func124,Tryz.ntmps124
 go_wp2_with fail
 refine HPR.out.mono ?_
 rintro r w1 ⟨A1,c1,rfl,ho1,hc1,hg1⟩
 have HO1:=qa ho1
 have HC1:=qa hc1
 have HG1:=qa hg1
 have s1:=hg1.size
 have hlc:=(Rd.of_own ho1).len
 have hmc:=(Rd.of_own ho1).cap
 rw[yd,zq] at hlc
 unfold maxLen at hmc
 clear ho1 hc1 hg1 HPR
 go_wp2_with fail
 go_loopw [4,12] (fun x4 x12 wr=>∃(k:Nat) (t:List Nat) (xs:List Value),k≤ns.length∧x12= .int .i64 (k:Int)∧x4= .int .i64 (qfb t)∧t.length=k∧UpG t∧ya t=jf (ns.take k)∧wr.ownsRow w.heap.size 3 1 (.slice A1 ns.length c1) ns.length xs∧qiu ns t xs∧xq wr lo g bs k1 e1∧w.grownBy wr (some g)) (fun _ x12 _=>ns.length-(intOf x12).toNat)
 case atStart=>exact⟨0,[],_,qj _,rfl,rfl,rfl,UpG.nil,rfl,HO1.out,qiu.zero ns,HC1.out,HG1.out⟩
 case round =>
  clear HO1 HC1 HG1
  obtain⟨k,t,xs,hk,rfl,rfl,htl,hup,hst,hown,hha,hcu,hgb⟩:=hrel
  obtain⟨wz,hwz⟩:∃wz,wz=wr:=⟨_,rfl⟩
  subst hwz
  have HTL:=qa htl
  have HU:=qa hup
  have HS:=qa hst
  have HO:=qa hown
  have HH:=qa hha
  have HC:=qa hcu
  have HG:=qa hgb
  clear htl hup hst hown hha hcu hgb
  by_cases hlt:k<ns.length
  ·
   have ik:(k:Int)<(ns.length:Int):=by omega
   obtain⟨gb,rfl,hgb1,hgb2⟩:=qe8 HO.out (by omega)
   have hget:xs[k]? = some (.int .i64 ((ns[k]:Nat):Int)):=by
    have:=HH.out.get (by rw[HTL.out];exact hlt)
    simpa only[HTL.out] using this
   have hcell:wz.cell? ⟨gb,k,none⟩=some (.int .i64 ((ns[k]:Nat):Int)):=by rw[HO.out.cellAt k (by omega),hget]
   have hfr:=HO.out.frozenAt k
   have hx:=HNS.out k hlt
   have hzl:=lastG_lt HU.out
   have hmx:max (qfb t) 0=(qej t k:Int):=by
    have:=lastG_max t
    rwa [HTL.out] at this
   have HNX:Hid (∀gs0,UpG gs0→ya gs0=jf ns→∃q:Nat,(q:Int)=(qej t k:Int)+(ns[k]:Int)∧qfb t<(q:Int)∧q<16777216):=fun gs0 h1 h2=>by
    have:=h1.next h2 HS.out hlt
    rwa [HTL.out] at this
   have HSN:Hid (∀q:Nat,(q:Int)=(qej t k:Int)+(ns[k]:Int)→qfb t<(q:Int)→q<16777216→UpG (t++[q])∧ya (t++[q])=jf (ns.take (k+1))∧qfb (t++[q])=(q:Int)):=fun q h1 h2 h3=>by
    refine⟨HU.out.snoc h2 h3,?_,lastG_snoc t q⟩
    rw[qgc,HTL.out,HS.out,qi hlt,jf,jf,jg]
    congr 1
    simp only[y8,qbu,List.cons.injEq,and_true]
    omega
   have HSET:=fun q:Nat=>qa (HH.out.snoc q (by rw[HTL.out];exact hlt))
   rw[HTL.out] at HSET
   have HSTO:=fun u=>qa (HO.out.stored k u)
   obtain⟨z,hz⟩:∃z,qfb t=z:=⟨_,rfl⟩
   rw[hz] at hzl hmx HNX HSN ⊢
   have hpl:qej t k<16777216:=by omega
   generalize qej t k=p at *
   generalize ns[k]=x at *
   obtain⟨q,hq⟩:∃q:Nat,q=p+x:=⟨_,rfl⟩
   have iq:(p:Int)+(x:Int)=(q:Int):=by omega
   have HQ:=qa hq
   have hql:q<8589934592:=by omega
   clear hget hz hq
   by_cases h1:(q:Int)≤z
   ·
    have d1:decide ((q:Int)≤z)=true:=qx h1
    have HNO:Hid (∀gs0,UpG gs0→¬ya gs0=jf ns):=fun gs0 h2 h3=>by
     obtain⟨q2,e1,e2,e3⟩:=HNX.out gs0 h2 h3
     omega
    have HFA:=qa (ve 3 HC.out)
    unfold cp at HFA
    clear HNX HSN HSET HSTO
    go_wp2_with fail
    refine HFA.out.mono ?_
    rintro r w5 ⟨rfl,hc5,hg5⟩
    have HC5:=qa hc5
    have HG5:=qa (HG.out.trans hg5)
    clear hc5 hg5 HFA
    go_wp2_with fail
    go_ret
    refine⟨[],none,0,_,rfl,zj ..,HC5.out,⟨fun h => ?_,fun _ gs0 h2 h3=>absurd h3 (HNO.out gs0 h2)⟩,HG5.out⟩
    exfalso
    split at h
    ·
     exact absurd h (by decide)
    ·
     rename_i h4;exact h4 h
   ·
    have d1:decide ((q:Int)≤z)=false:=qw h1
    by_cases h2:(16777215:Int)<(q:Int)
    ·
     have d2:decide ((16777215:Int)<(q:Int))=true:=qx h2
     have HNO:Hid (∀gs0,UpG gs0→¬ya gs0=jf ns):=fun gs0 h2 h3=>by
      obtain⟨q2,e1,e2,e3⟩:=HNX.out gs0 h2 h3
      omega
     have HFA:=qa (ve 3 HC.out)
     unfold cp at HFA
     clear HNX HSN HSET HSTO
     go_wp2_with fail
     refine HFA.out.mono ?_
     rintro r w5 ⟨rfl,hc5,hg5⟩
     have HC5:=qa hc5
     have HG5:=qa (HG.out.trans hg5)
     clear hc5 hg5 HFA
     go_wp2_with fail
     go_ret
     refine⟨[],none,0,_,rfl,zj ..,HC5.out,⟨fun h => ?_,fun _ gs0 h2 h3=>absurd h3 (HNO.out gs0 h2)⟩,HG5.out⟩
     exfalso
     split at h
     ·
      exact absurd h (by decide)
     ·
      rename_i h4;exact h4 h
    ·
     have d2:decide ((16777215:Int)<(q:Int))=false:=qw h2
     obtain⟨a1,a2,a3⟩:=HSN.out q iq.symm (by omega) (by omega)
     have HU2:=qa a1
     have HS2:=qa a2
     have HL2:=qa a3
     have HT2:Hid ((t++[q]).length=k+1):=by unfold Hid;rw[qd,HTL.out];rfl
     have HO2:=qa (HSTO (.int .i64 (q:Int))).out.1
     have HC2:=qa (HC.out.grown (HSTO (.int .i64 (q:Int))).out.2 (fun x hx=> .inr (by injection hx with hx;omega)))
     have HG2:=qa (yr HG.out (p:=⟨gb,k,none⟩) (.inr hgb1) (.int .i64 (q:Int)))
     have HH2:=HSET q
     clear HNX HSN HSET HSTO a1 a2 a3
     go_wp2_with fail
     go_roundw
     case rel=>exact⟨k+1,t++[q],_,by omega,by go_num,by rw[HL2.out],HT2.out,HU2.out,HS2.out,HO2.out,HH2.out,HC2.out,HG2.out⟩
     case measure=>simp[intOf] <;> omega
  ·
   have ik:¬(k:Int)<(ns.length:Int):=by omega
   obtain rfl:k=ns.length:=by omega
   have hxs:=HH.out.all HTL.out
   have hoL:=HO.out
   rw[hxs,←HTL.out] at hoL
   have hsL:=HS.out
   rw[yo] at hsL
   have HOL:=qa hoL
   have HSL:=qa hsL
   clear hxs hoL hsL
   go_wp2_with fail
   go_ret
   rw[←HTL.out]
   exact⟨t,A1,c1,rfl,HOL.out,e1,HC.out,⟨fun h=>⟨h,HSL.out,HU.out⟩,fun h _ _ _=>h⟩,HG.out⟩
end Go.Proofs.YtjfecojdagmacaaGreat
