/-
  Lemmas.
-/
import Derived.Test.YtjfecojdagmacaaGreatD01
namespace Go.Proofs.YtjfecojdagmacaaGreat
open Go.RowKit
set_option maxRecDepth 20000
set_option maxHeartbeats 16000000
set_option linter.unusedSimpArgs false
set_option linter.unusedVariables false
theorem mod_shift(Y n r w:Nat)(h:r+w≤n):Y%2 ^ n/2 ^ r%2 ^ w=Y/2 ^ r%2 ^ w:=by
 obtain⟨d,rfl⟩:∃d,n=r+(w+d):=⟨n-r-w,by omega⟩
 rw[vw,Nat.mod_mul_right_div_self,vw,Nat.mod_mul_right_mod]
theorem get_word(bs:List UInt8)(p f M wd:Nat)(hf:p/8=f)(hM:min 5 (bs.length-f)=M)(hw:wd≤32) :
  qbf bs/256 ^ f%256 ^ M/2 ^ (p%8)%2 ^ wd=qbf bs/2 ^ p%2 ^ wd:=by
 have e:qbf bs/2 ^ p=qbf bs/256 ^ f/2 ^ (p%8):=by
  rw[qh8,uo,←vw]
  congr 2
  omega
 rw[e]
 by_cases h5:M=5
 ·
  subst h5
  rw[show(256:Nat) ^ 5=2 ^ 40 from by decide]
  exact mod_shift _ 40 _ _ (by omega)
 ·
  have hlt:qbf bs/256 ^ f<256 ^ M:=by
   by_cases hfl:f≤bs.length
   ·
    apply Nat.div_lt_of_lt_mul
    rw[←vw,show f+M=bs.length from by omega]
    exact bval_lt bs
   ·
    have h0:qbf bs/256 ^ f=0:=by rw[qh8];exact bval_over bs _ (by omega)
    rw[h0]
    exact Nat.pow_pos (by omega)
  rw[vc hlt]
theorem get_next(bs:List UInt8)(f j:Nat)(h:f+j<bs.length):qbf bs/256 ^ f%256 ^ (j+1)=qbf bs/256 ^ f%256 ^ j+2 ^ (8*j)*bs[f+j].toNat:=by
 rw[ky,Nat.mod_mul,←bval_at bs (f+j) h,qh8 j,vw,←uo,qh8 j]
theorem or_byte(W x j:Nat)(hW:W<2 ^ (8*j))(hx:x<256)(hj:j<5) :
  bits .or .u64 (W:Int) (IntKind.u64.wrap ((x:Int)*2 ^ (8*j)))=((W+2 ^ (8*j)*x:Nat):Int)∧W+2 ^ (8*j)*x<1099511627776:=by
 have hp:2 ^ (8*j)≤2 ^ 32:=yg (by omega) (by omega)
 have hb:2 ^ (8*j)*x≤2 ^ 32*255:=ki hp (by omega)
 have e2:(2:Int) ^ (8*j)=((2 ^ (8*j):Nat):Int):=by norm_cast
 have e3:IntKind.u64.wrap ((2 ^ (8*j)*x:Nat):Int)=((2 ^ (8*j)*x:Nat):Int):=by rw[IntKind.wrap_u64];omega
 refine⟨?_,by omega⟩
 rw[e2,Int.mul_comm,←qaw,e3,u64_or_nat _ _ (by omega) (by omega)]
 congr 1
 rw[Nat.or_comm,xe,←qay,←qa0 hW,Nat.add_comm]
theorem mask_at(W r wd:Nat)(hW:W<1099511627776)(hw:wd≤32) :
  wrap64 (bits .and .u64 ((W:Int)/2 ^ r) (IntKind.u64.wrap (IntKind.u64.wrap ((2:Int) ^ wd)-1)))=((W/2 ^ r%2 ^ wd:Nat):Int):=by
 have hp:2 ^ wd≤2 ^ 32:=yg (by omega) hw
 have hp0:0<2 ^ wd:=qeg wd
 have e1:(2:Int) ^ wd=((2 ^ wd:Nat):Int):=by norm_cast
 have e2:IntKind.u64.wrap ((2 ^ wd:Nat):Int)=((2 ^ wd:Nat):Int):=by rw[IntKind.wrap_u64];omega
 have e3:IntKind.u64.wrap (((2 ^ wd:Nat):Int)-1)=((2 ^ wd-1:Nat):Int):=by rw[IntKind.wrap_u64];omega
 have e4:(W:Int)/2 ^ r=((W/2 ^ r:Nat):Int):=by push_cast;rfl
 have hq:W/2 ^ r≤W:=Nat.div_le_self _ _
 have hm:=qcm (W/2 ^ r) hp0
 rw[e1,e2,e3,e4,u64_and_nat _ _ (by omega) (by omega),Nat.and_two_pow_sub_one_eq_mod]
 exact uc _ (by omega)
def GetAt(bs:List UInt8)(f j W:Nat):Prop:=W=qbf bs/256 ^ f%256 ^ j
theorem getAt_lt{bs:List UInt8}{f j W:Nat}(h:GetAt bs f j W):W<2 ^ (8*j):=by
 rw[h,←qh8];exact qcm _ (Nat.pow_pos (by omega))
theorem pget_any{w:World}(bs:List UInt8)(wd i:Nat)(hw:wd≤32)(hi:i≤1000000000000)(hb:bs.length≤1000000000000){lo h':Nat}{A:Option Addr}{c:Nat}(h:Rd w lo h' A c (bv bs)) :
  Calls Tryz.prog 188 #[.slice A bs.length c,.int .i64 (wd:Int),.int .i64 (i:Int)] w fun r w'=>r= .returned (.int .i64 (qi0 bs wd i:Int))∧∃n,w.drewN n=w':=by
 have hl:=h.len
 have hc:=h.cap
 rw[yf] at hl
 unfold maxLen at hc
 have H:=qa h
 clear h
 have HR:Hid (qkw (wd:Int)=true):=qx (by omega)
 by_cases h0:wd=0
 ·
  have HE:Hid (qi0 bs wd i=0):=by unfold Hid qi0;rw[h0,Nat.pow_zero,Nat.mod_one]
  have hb0:((wd:Int)==0)=true:=by rw[beq_iff_eq];omega
  clear h0
  go_enter Tryz.func188,Tryz.ntmps188
  go_wp2_with fail
  refine(qh6 _ true HR.out).mono ?_
  rintro r w' ⟨rfl,rfl⟩
  go_wp2
  go_ret
  exact⟨qai (by rw[HE.out];rfl),0,rfl⟩
 ·
  have hb0:((wd:Int)==0)=false:=by rw[q9];omega
  have hwp:1≤(wd:Int):=by omega
  have hq:Hid (((bs.length:Int)*8/(wd:Int))=((bs.length*8/wd:Nat):Int)):=by unfold Hid;push_cast;rfl
  by_cases hov:bs.length*8/wd<i
  ·
   have hov':(bs.length:Int)*8/(wd:Int)<(i:Int):=by rw[hq.out];omega
   have HE:Hid (qi0 bs wd i=0):=by
    unfold Hid qi0
    rw[bval_over bs _ ?_,Nat.zero_mod]
    have:=(Nat.div_lt_iff_lt_mul (show 0<wd by omega)).1 hov
    rw[xe wd]
    omega
   clear hov h0
   go_enter Tryz.func188,Tryz.ntmps188
   go_wp2_with fail
   refine(qh6 _ true HR.out).mono ?_
   rintro r w' ⟨rfl,rfl⟩
   go_wp2
   go_ret
   exact⟨qai (by rw[HE.out];rfl),0,rfl⟩
  ·
   have hov':(i:Int)≤(bs.length:Int)*8/(wd:Int):=by rw[hq.out];omega
   have hp8:i*wd≤bs.length*8:=(Nat.le_div_iff_mul_le (show 0<wd by omega)).1 (by omega)
   have hp:(i:Int)*(wd:Int)=((i*wd:Nat):Int):=(qaw i wd).symm
   have hpe:Hid (wd*i=i*wd):=xe _ _
   generalize i*wd=p at *
   have hf:(p:Int)/8=((p/8:Nat):Int):=by omega
   have hfb:p/8≤bs.length:=by omega
   generalize hfq:p/8=f at *
   have HF:=qa hfq
   clear hfq h0 hov
   have hM:min (5:Int) ((bs.length:Int)-(f:Int))=((min 5 (bs.length-f):Nat):Int):=by omega
   generalize hMe:min 5 (bs.length-f)=M at *
   have hM5:M≤5:=by omega
   have hMl:f+M≤bs.length:=by omega
   have HM:=qa hMe
   clear hMe
   go_enter Tryz.func188,Tryz.ntmps188
   go_wp2_with fail
   refine(qh6 _ true HR.out).mono ?_
   rintro r w' ⟨rfl,rfl⟩
   go_wp2_with fail
   go_loop [8,39] (fun x i=>∃j W:Nat,j≤M∧i= .int .i64 (j:Int)∧x= .int .u64 (W:Int)∧GetAt bs f j W) (fun _ i=>M-(intOf i).toNat)
   case atStart=>exact⟨0,0,qi _,rfl,rfl,by unfold GetAt;rw[Nat.pow_zero,Nat.mod_one]⟩
   case round =>
    obtain⟨j,W,hj,rfl,rfl,hat⟩:=hrel
    by_cases hlt:j<M
    ·
     obtain⟨b,off,rfl,_,_,hcell⟩:=H.out.byte (k:=f+j) (by omega)
     have hnext:=get_next bs f j (by omega)
     rw[←hat] at hnext
     have hW:=getAt_lt hat
     generalize bs[f+j]=x8 at *
     have hx:=jj x8
     generalize x8.toNat=x at *
     obtain⟨hor,hT⟩:=or_byte W x j hW hx (by omega)
     have HX:Hid (GetAt bs f (j+1) (W+2 ^ (8*j)*x)):=hnext.symm
     clear hnext hat hW
     generalize W+2 ^ (8*j)*x=T at *
     go_wp2
     go_round
     case rel=>exact⟨j+1,T,by omega,by go_num,rfl,HX.out⟩
     case measure=>simp[intOf];omega
    ·
     obtain rfl:j=M:=by omega
     have hW:=getAt_lt hat
     have hW40:W<1099511627776:=zn hW (yg (by omega) (show 8*j≤40 by omega))
     have HE:Hid (wrap64 (bits .and .u64 ((W:Int)/2 ^ (p%8)) (IntKind.u64.wrap (IntKind.u64.wrap ((2:Int) ^ wd)-1)))=(qi0 bs wd i:Int)):=by
      unfold Hid qi0
      rw[mask_at W (p%8) wd hW40 hw]
      rw[hpe.out,←get_word bs p f j wd HF.out HM.out hw,←hat]
     clear hat hW
     go_wp2_with fail
     go_quiet (fail)
     go_wp2
     go_ret
     exact⟨qai HE.out,_,rfl⟩
theorem vx.setErr{w:World}{lo g k:Nat}{bs:List UInt8}{e:Int}(h:vx w lo g bs k e)(x:Int):vx (w.setCell ⟨g,2,none⟩ (.int .i64 x)) lo g bs k x:=by
 obtain⟨A,c,hb,hrd,hk,hl⟩:=h
 exact⟨A,c,by simpa using hb.put 2 (.int .i64 x),hrd.setCell (p:=⟨g,2,none⟩) (.inr (qc _)) _,hk,hl⟩
theorem vx.setPlace{w:World}{lo g k:Nat}{bs:List UInt8}{e:Int}(h:vx w lo g bs k e)(x:Nat)(hx:x≤bs.length):vx (w.setCell ⟨g,1,none⟩ (.int .i64 (x:Int))) lo g bs x e:=by
 obtain⟨A,c,hb,hrd,hk,hl⟩:=h
 exact⟨A,c,by simpa using hb.put 1 (.int .i64 (x:Int)),hrd.setCell (p:=⟨g,1,none⟩) (.inr (qc _)) _,hx,hl⟩
theorem qji{w:World}{lo g k:Nat}{bs:List UInt8}(x:Int)(h:vx w lo g bs k 0) :
  Calls Tryz.prog 127 #[cp g,.int .i64 x] w fun r w'=>r= .returned (.tuple #[])∧w.setCell ⟨g,2,none⟩ (.int .i64 x)=w':=by
 have hg:=xx h
 obtain⟨A,c,hb, -, -, -⟩:=h
 have h2:=hb.cell 2
 have hf:=hb.frozen 2
 simp at h2
 clear hb
 unfold cp at hg ⊢
 go_enter Tryz.func127,Tryz.ntmps127
 go_wp2_with fail
 refine hg.mono ?_
 rintro e w' ⟨rfl,rfl⟩
 go_wp2_with fail
 go_end0
 exact⟨rfl,rfl⟩
theorem fail_bad{w:World}{lo g k:Nat}{bs:List UInt8}{e:Int}(x:Int)(h:vx w lo g bs k e)(he:e≠0) :
  Calls Tryz.prog 127 #[cp g,.int .i64 x] w fun r w'=>r= .returned (.tuple #[])∧w=w':=by
 have hg:=xx h
 have h0:(e==0)=false:=by simpa using he
 rw[h0] at hg
 clear h h0 he
 unfold cp at hg ⊢
 go_enter Tryz.func127,Tryz.ntmps127
 go_wp2_with fail
 refine hg.mono ?_
 rintro e w' ⟨rfl,rfl⟩
 go_wp2_with fail
 go_end0
 exact⟨rfl,rfl⟩
def jo(bs:List UInt8)(k:Nat)(e:Int)(skip:Nat)(n:Int):List UInt8×Nat×Int :=
 if e≠0 then ([],k,e) else if n<0 then ([],k,3) else if (bs.length:Int)-k-skip<n then ([],k,2) else ((bs.drop (k+skip)).take n.toNat,k+skip+n.toNat,0)
theorem take_bad{w:World}{lo g k:Nat}{bs:List UInt8}{e:Int}(skip:Nat)(n:Int)(h:vx w lo g bs k e)(he:e≠0)(hs:skip≤bs.length)(h63:bs.length≤maxLen) :
  Calls Tryz.prog 95 #[cp g,.int .i64 (skip:Int),.int .i64 n] w fun r w'=>r= .returned (.slice none 0 0)∧∃m,w.drewN m=w':=by
 have h0:(e==0)=false:=by simpa using he
 unfold maxLen at h63
 have hk:(bs.length-k:Nat)≤bs.length:=by omega
 have H:=qa h
 have HE:=qa he
 clear h he
 unfold cp
 go_enter Tryz.func95,Tryz.ntmps95
 go_wp2_with (first
  | (go_at_call 127;refine(fail_bad _ (by first | exact H.out | exact H.out.drewN _) HE.out).mono ?_;rintro e w' ⟨rfl,rfl⟩)
  | (go_at_call 97;refine(qev (by first | exact H.out | exact H.out.drewN _)).mono ?_;rintro e w' ⟨rfl,⟨m,rfl⟩⟩)
  | (go_at_call 96;refine(xx (by first | exact H.out | exact H.out.drewN _)).mono ?_;rintro e w' ⟨rfl,rfl⟩))
 all_goals go_ret
 all_goals exact⟨rfl,_,rfl⟩
theorem take_neg{w:World}{lo g k:Nat}{bs:List UInt8}(skip:Nat)(n:Int)(h:vx w lo g bs k 0)(hn:n<0)(hs:k+skip≤bs.length)(h63:bs.length≤maxLen) :
  Calls Tryz.prog 95 #[cp g,.int .i64 (skip:Int),.int .i64 n] w fun r w'=>r= .returned (.slice none 0 0)∧∃m,(w.setCell ⟨g,2,none⟩ (.int .i64 3)).drewN m=w':=by
 unfold maxLen at h63
 have hk:skip≤(bs.length-k:Nat):=by omega
 have hk':(bs.length-k:Nat)≤bs.length:=by omega
 have H:=qa h
 have H':=qa (h.setErr 3)
 clear h
 unfold cp
 go_enter Tryz.func95,Tryz.ntmps95
 go_wp2_with (first
  | (go_at_call 127;refine(qji _ H.out).mono ?_;rintro e w' ⟨rfl,rfl⟩)
  | (go_at_call 97;refine(qev (by first | exact H'.out | exact H'.out.drewN _)).mono ?_;rintro e w' ⟨rfl,⟨m,rfl⟩⟩)
  | (go_at_call 96;refine(xx (by first | exact H'.out | exact H'.out.drewN _)).mono ?_;rintro e w' ⟨rfl,rfl⟩))
 all_goals go_ret
 all_goals exact⟨rfl,_,rfl⟩
theorem take_over{w:World}{lo g k:Nat}{bs:List UInt8}(skip:Nat)(n:Int)(h:vx w lo g bs k 0)(hn:0≤n)(hov:((bs.length-k:Nat):Int)-skip<n)(hs:k+skip≤bs.length)(h63:bs.length≤maxLen) :
  Calls Tryz.prog 95 #[cp g,.int .i64 (skip:Int),.int .i64 n] w fun r w'=>r= .returned (.slice none 0 0)∧∃m,(w.setCell ⟨g,2,none⟩ (.int .i64 2)).drewN m=w':=by
 unfold maxLen at h63
 have hk:skip≤(bs.length-k:Nat):=by omega
 have hk':(bs.length-k:Nat)≤bs.length:=by omega
 have H:=qa h
 have H':=qa (h.setErr 2)
 clear h
 unfold cp
 go_enter Tryz.func95,Tryz.ntmps95
 go_wp2_with (first
  | (go_at_call 127;refine(qji _ (H.out.drewN _)).mono ?_;rintro e w' ⟨rfl,rfl⟩)
  | (go_at_call 97;refine(qev H.out).mono ?_;rintro e w' ⟨rfl,⟨m,rfl⟩⟩)
  | (go_at_call 96;refine(xx (by first | exact H'.out | exact H'.out.drewN _)).mono ?_;rintro e w' ⟨rfl,rfl⟩))
 all_goals go_ret
 all_goals exact⟨rfl,_,rfl⟩
theorem take_ok{w:World}{lo g k:Nat}{bs:List UInt8}{A:Option Addr}{c:Nat}(skip n:Nat)(hb:yy w g 153 #[.slice A bs.length c,.int .i64 (k:Int),.int .i64 0])(hrd:Rd w lo g A c (bv bs))(hs:k+skip+n≤bs.length)(hl:lo≤g) :
  Calls Tryz.prog 95 #[cp g,.int .i64 (skip:Int),.int .i64 (n:Int)] w fun r w'=>r= .returned (.slice (if c=k+skip then A else A.map (·.add (k+skip))) n (c-(k+skip)))∧∃m m',((w.drewN m).setCell ⟨g,1,none⟩ (.int .i64 ((k:Int)+skip+n))).drewN m'=w':=by
 have h63:=hrd.cap
 have hlc:=hrd.len
 rw[yf] at hlc
 unfold maxLen at h63
 have h:vx w lo g bs k 0:=⟨A,c,hb,hrd,by omega,hl⟩
 have hk:skip+n≤(bs.length-k:Nat):=by omega
 have hk':(bs.length-k:Nat)≤bs.length:=by omega
 have H:=qa h
 have h0:=hb.cell 0
 have h1:=hb.cell 1
 have hf:=hb.frozen 1
 simp at h0 h1
 have hn0:¬((n:Int)<0):=by omega
 have hle:(n:Int)≤((bs.length-k:Nat):Int)-(skip:Int):=by omega
 clear h hb hrd
 unfold cp
 go_enter Tryz.func95,Tryz.ntmps95
 go_wp2_with (first
  | (go_at_call 97;refine(qev H.out).mono ?_;rintro e w' ⟨rfl,⟨m,rfl⟩⟩)
  | (go_at_call 96;refine(xx (by first | exact H.out | exact H.out.drewN _)).mono ?_;rintro e w' ⟨rfl,rfl⟩))
 go_quiet (fail)
 all_goals go_wp2
 all_goals go_ret
 all_goals refine⟨?_,_,_,rfl⟩
 all_goals (rename_i hcc;simp[hcc])
theorem qnp{w:World}{lo g k:Nat}{bs:List UInt8}{e:Int}(skip:Nat)(n:Int)(h:vx w lo g bs k e)(hs:k+skip≤bs.length) :
  Calls Tryz.prog 95 #[cp g,.int .i64 (skip:Int),.int .i64 n] w fun r w'=>∃A c,r= .returned (.slice A (jo bs k e skip n).1.length c)∧
   Rd w' lo g A c (bv (jo bs k e skip n).1)∧vx w' lo g bs (jo bs k e skip n).2.1 (jo bs k e skip n).2.2∧w.grownBy w' (some g):=by
 have h63:bs.length≤maxLen:=by
  obtain⟨A,c,_,hrd,_⟩:=h
  have h1:=hrd.len
  have h2:=hrd.cap
  rw[yf] at h1
  omega
 by_cases he:e=0
 ·
  subst he
  by_cases hn:n<0
  ·
   rw[show jo bs k 0 skip n=([],k,3) from by simp[jo,hn]]
   refine(take_neg skip n h hn hs h63).mono ?_
   rintro r w' ⟨rfl,m,rfl⟩
   exact⟨_,_,rfl,Rd.nil _ _ _,(h.setErr 3).drewN m,qb0 (xy (vg w _) (.inl rfl) _) m⟩
  ·
   by_cases hov:(bs.length:Int)-k-skip<n
   ·
    rw[show jo bs k 0 skip n=([],k,2) from by simp[jo,hn,hov]]
    refine(take_over skip n h (by omega) (by have:k≤bs.length:=(by omega);rw[Int.ofNat_sub this];exact hov) hs h63).mono ?_
    rintro r w' ⟨rfl,m,rfl⟩
    exact⟨_,_,rfl,Rd.nil _ _ _,(h.setErr 2).drewN m,qb0 (xy (vg w _) (.inl rfl) _) m⟩
   ·
    obtain⟨j,rfl⟩:=Int.eq_ofNat_of_zero_le (show 0≤n by omega)
    have hj:k+skip+j≤bs.length:=by omega
    rw[show jo bs k 0 skip (j:Int)=((bs.drop (k+skip)).take j,k+skip+j,0) from by simp[jo,hov]]
    obtain⟨A,c,hb,hrd,hk,hl⟩:=h
    refine(take_ok skip j hb hrd hj hl).mono ?_
    rintro r w' ⟨rfl,m,m',rfl⟩
    have hcur:vx w lo g bs k 0:=⟨A,c,hb,hrd,hk,hl⟩
    have hcut:=(hrd.drewN m).setCell (p:=⟨g,1,none⟩) (.inr (qc _)) (.int .i64 ((k:Int)+skip+j))
    have hcut2:=(hcut.cut (k:=k+skip) (n:=k+skip+j) (by omega) (by rw[yf];exact hj)).drewN m'
    rw[show k+skip+j-(k+skip)=j from by omega,←qod,←bv_take] at hcut2
    have hlen:((bs.drop (k+skip)).take j).length=j:=by simp;omega
    refine⟨_,_,by rw[hlen],hcut2,?_,qb0 (xy (qb0 (vg w _) m) (.inl rfl) _) m'⟩
    have:=((hcur.drewN m).setPlace (k+skip+j) hj).drewN m'
    simpa using this
 ·
  rw[show jo bs k e skip n=([],k,e) from by simp[jo,he]]
  refine(take_bad skip n h he (by omega) h63).mono ?_
  rintro r w' ⟨rfl,m,rfl⟩
  exact⟨_,_,rfl,Rd.nil _ _ _,h.drewN m,qb0 (vg w _) m⟩
theorem vx.open_{w:World}{lo g k:Nat}{bs:List UInt8}{e:Int}(h:vx w lo g bs k e):∃A c,w.cell? ⟨g,0,none⟩=some (.slice A bs.length c)∧w.cell? ⟨g,1,none⟩=some (.int .i64 (k:Int))∧w.cell? ⟨g,2,none⟩=some (.int .i64 e)∧Rd w lo g A c (bv bs)∧k≤bs.length∧bs.length≤c∧c≤9223372036854775807:=by
 obtain⟨A,c,hb,hrd,hk, -⟩:=h
 have h0:=hb.cell 0
 have h1:=hb.cell 1
 have h2:=hb.cell 2
 have h3:=hrd.len
 have h4:=hrd.cap
 rw[yf] at h3
 exact⟨A,c,h0,h1,h2,hrd,hk,h3,by simpa[maxLen] using h4⟩
theorem vx.le{w:World}{lo g k:Nat}{bs:List UInt8}{e:Int}(h:vx w lo g bs k e):k≤bs.length:=by obtain⟨_,_,_,_,hk,_⟩:=h;exact hk
theorem qcx(bs:List UInt8)(k:Nat)(e:Int)(skip:Nat)(n:Int)(he:e≠0):jo bs k e skip n=([],k,e):=by simp[jo,he]
theorem takeR_one(bs:List UInt8)(k:Nat)(e:Int):(jo bs k e 0 1).1.length≤1:=by
 unfold jo
 repeat' split
 all_goals simp
 all_goals omega
theorem qe8{w:World}{lo g k:Nat}{bs:List UInt8}{e:Int}(n:Int)(h:vx w lo g bs k e)(hb:bs.length≤140737488355328) :
  Calls Tryz.prog 67 #[cp g,.int .i64 n] w fun r w'=>∃A c,r= .returned (.slice A (jo bs k e 0 n).1.length c)∧w'.ownsRow w.heap.size 5 1 (.slice A (jo bs k e 0 n).1.length c) (jo bs k e 0 n).1.length (bv (jo bs k e 0 n).1)∧
   vx w' lo g bs (jo bs k e 0 n).2.1 (jo bs k e 0 n).2.2∧w.grownBy w' (some g):=by
 have hk:=h.le
 have hgl:=h.lt
 have HT:=qa (qnp 0 n h (by omega))
 have hl:(jo bs k e 0 n).1.length≤bs.length:=by
  unfold jo
  repeat' split
  all_goals simp
  all_goals omega
 clear h
 generalize jo bs k e 0 n=T at *
 go_enter Tryz.func67,Tryz.ntmps67
 go_wp2_with fail
 refine HT.out.mono ?_
 rintro r w1 ⟨A,c,rfl,hrd,hc1,hg1⟩
 have HC:=qa hc1
 have HR:=qa hrd
 have HG:=qa hg1
 have hs:=hg1.size
 clear hc1 hrd hg1
 go_wp2_with fail
 refine(clone_any _ _ HR.out (by omega)).mono ?_
 rintro r w2 ⟨A',c',rfl,hown,hbel⟩
 have HO:=qa hown
 clear hown
 go_wp2_with fail
 go_ret
 have hg2:w1.grownBy w2 none:=qi4 (qc _) hbel
 refine⟨_,_,rfl,?_,HC.out.grown hg2 (by simp),HG.out.trans (qgw hg2)⟩
 obtain⟨hlen,hrest⟩:=HO.out
 refine⟨hlen,?_⟩
 rcases hrest with h0 | ⟨g',cap,cur,hv,hb',hr⟩
 ·
  exact .inl h0
 ·
  exact .inr ⟨g',cap,cur,hv,by omega,hr⟩
theorem qoc{w:World}{lo g k:Nat}{bs:List UInt8}{e:Int}(h:vx w lo g bs k e) :
  Calls Tryz.prog 126 #[cp g] w fun r w'=>r= .returned (.int .i64 (((jo bs k e 0 1).1.headD 0).toNat:Int))∧
   vx w' lo g bs (jo bs k e 0 1).2.1 (jo bs k e 0 1).2.2∧w.grownBy w' (some g):=by
 have hk:=h.le
 have HT:=qa (qnp 0 1 h (by omega))
 have h1:=takeR_one bs k e
 clear h
 generalize jo bs k e 0 1=T at *
 obtain⟨l,k',e'⟩:=T
 simp only[] at *
 rcases l with _ | ⟨x,r⟩
 ·
  go_enter Tryz.func126,Tryz.ntmps126
  go_wp2_with fail
  refine HT.out.mono ?_
  rintro r w1 ⟨A,c,rfl,hrd,hc1,hg1⟩
  have HC:=qa hc1
  clear hc1 hrd
  go_wp2_with fail
  go_ret
  exact⟨rfl,HC.out,hg1⟩
 ·
  have hr:r=[]:=by simp at h1;exact h1
  subst hr
  have hx:x.toNat<256:=jj _
  go_enter Tryz.func126,Tryz.ntmps126
  go_wp2_with fail
  refine HT.out.mono ?_
  rintro r w1 ⟨A,c,rfl,hrd,hc1,hg1⟩
  have HC:=qa hc1
  obtain⟨b,off,rfl,_,_,hcell⟩:=hrd.get (k:=0) (by simp[bv])
  rw[xj] at hcell
  have hcell':w1.cell? ⟨b,off,none⟩=some (.int .u8 (x.toNat:Int)):=hcell
  have HG:=qa hg1
  clear hc1 hrd hcell h1 hg1
  go_wp2
  go_ret
  exact⟨rfl,HC.out,HG.out⟩
def val:List UInt8→Nat
 | []=>0
 | b :: r=>b.toNat%128+128*val r
theorem val_snoc(l:List UInt8)(b:UInt8):val (l++[b])=val l+128 ^ l.length*(b.toNat%128):=by
 induction l with
 | nil=>simp[val]
 | cons x r ih =>
  simp only[jd,val,ih,qw,ky]
  rw[qds,xe (128 ^ r.length) 128,←qdr,qav]
theorem val_lt(l:List UInt8):val l<128 ^ l.length:=by
 induction l with
 | nil=>simp[val]
 | cons x r ih =>
  simp only[val,qw,ky]
  have:=qcm x.toNat (show 0<128 by omega)
  omega
def qbh:List UInt8→Nat
 | []=>0
 | b :: r=>if 128≤b.toNat then qbh r+1 else 0
theorem lead_le(l:List UInt8):qbh l≤l.length:=by
 induction l with
 | nil=>simp[qbh]
 | cons b r ih=>simp only[qbh,qw];split <;> omega
theorem lead_at(l:List UInt8)(k:Nat)(hk:k≤qbh l)(hl:k<l.length):(128≤l[k].toNat→k+1≤qbh l)∧(l[k].toNat<128→qbh l=k):=by
 induction l generalizing k with
 | nil=>simp at hl
 | cons b r ih =>
  simp only[qbh] at hk ⊢
  rcases k with _ | k
  ·
   simp only[kj]
   constructor
   ·
    intro h;rw[if_pos h];omega
   ·
    intro h;rw[if_neg (by omega)]
  ·
   simp only[List.getElem_cons_succ]
   by_cases hb:128≤b.toNat
   ·
    rw[if_pos hb] at hk ⊢
    have:=ih k (by omega) (by simpa using hl)
    constructor
    ·
     intro h;have:=this.1 h;omega
    ·
     intro h;have:=this.2 h;omega
   ·
    rw[if_neg hb] at hk;omega
def qbv(bs:List UInt8):Nat×Nat×Int :=
 if 9≤qbh bs then (0,0,if 9<bs.length then 3 else 2)
 else if bs.length≤qbh bs then (0,0,2)
 else if 0<qbh bs∧(bs[qbh bs]?.getD 0).toNat=0 then (0,0,3)
 else (val (bs.take (qbh bs+1)),qbh bs+1,0)
theorem vnum_here(bs:List UInt8)(k:Nat)(hk:k≤qbh bs)(hl:k<bs.length)(h9:k<9)(hx:bs[k].toNat<128) :
  qbv bs=if 0<k∧bs[k].toNat=0 then (0,0,3) else (val (bs.take k)+128 ^ k*(bs[k].toNat%128),k+1,0):=by
 have e:=(lead_at bs k hk hl).2 hx
 unfold qbv
 rw[e,if_neg (by omega),if_neg (by omega),qe hl,qax]
 split
 ·
  rfl
 ·
  rw[qj hl,val_snoc,qz,vj (by omega)]
theorem vnum_over(bs:List UInt8)(h:min bs.length 9≤qbh bs):qbv bs=(0,0,if 9<bs.length then 3 else 2):=by
 have:=lead_le bs
 unfold qbv
 by_cases h9:9≤qbh bs
 ·
  rw[if_pos h9]
 ·
  rw[if_neg h9,if_pos (by omega),if_neg (by omega)]
theorem and127(x:Nat):x &&& 127=x%128:=Nat.and_two_pow_sub_one_eq_mod x 7
theorem digit_in(V x k:Nat)(hV:V<128 ^ k)(hx:x<256)(hk:k<9) :
  bits .or .i64 (V:Int) (wrap64 (wrap64 (bits .andNot .u8 (x:Int) 128)*2 ^ (7*k)))=((V+128 ^ k*(x%128):Nat):Int):=by
 have e1:bits .andNot .u8 (x:Int) 128=((x%128:Nat):Int):=by
  have:=u8_andNot_nat x 128 hx (by omega)
  rw[←and127]
  exact this
 have hd:=qcm x (show 0<128 by omega)
 have e2:(2:Int) ^ (7*k)=((128 ^ k:Nat):Int):=by
  rw[Int.pow_mul];norm_cast
 have hp:128 ^ k≤128 ^ 8:=yg (by omega) (by omega)
 have hb:x%128*128 ^ k<9223372036854775808:=by
  calc x%128*128 ^ k≤127*128 ^ 8:=ki (by omega) hp
   _<9223372036854775808:=by decide
 have e4:wrap64 ((x%128:Nat):Int)=((x%128:Nat):Int):=uc _ (by omega)
 have e5:wrap64 ((x%128*128 ^ k:Nat):Int)=((x%128*128 ^ k:Nat):Int):=uc _ (by omega)
 rw[e1,e2,e4,←qaw,e5,or_i64 V _ (by omega) hb]
 congr 1
 have e3:128 ^ k=2 ^ (7*k):=by rw[Nat.pow_mul]
 rw[e3] at hV ⊢
 rw[Nat.or_comm,←qay,←qa0 hV,qay]
 rw[Nat.add_comm,xe]
theorem qmt{w:World}{lo h':Nat}{A:Option Addr}{c:Nat}(bs:List UInt8)(h:Rd w lo h' A c (bv bs)) :
  Calls Tryz.prog 133 #[.slice A bs.length c] w fun r w'=>r= .returned (.tuple #[.int .i64 ((qbv bs).1:Int),.int .i64 ((qbv bs).2.1:Int),.int .i64 (qbv bs).2.2])∧w=w':=by
 have hl:=h.len
 have hc:=h.cap
 rw[yf] at hl
 unfold maxLen at hc
 have H:=qa h
 clear h
 by_cases h9:bs.length≤9
 all_goals
  go_enter Tryz.func133,Tryz.ntmps133
  go_wp2_with fail
  go_loop [2,13] (fun n i=>∃k:Nat,k≤min bs.length 9∧i= .int .i64 k∧k≤qbh bs∧n= .int .i64 (val (bs.take k))) (fun _ i=>bs.length-(intOf i).toNat)
  case atStart=>exact⟨0,by omega,rfl,by omega,by simp[val]⟩
  case round =>
   obtain⟨k,hk,rfl,hlead,rfl⟩:=hrel
   by_cases hlt:k<min bs.length 9
   ·
    obtain⟨b,off,rfl,_,_,hcell⟩:=H.out.get (k:=k) (by rw[yf];omega)
    have hv:=qi3 bs k (by omega)
    rw[qe (by rw[yf];omega)] at hv
    injection hv with hv
    rw[hv] at hcell
    clear hv
    have hlast:=qa (vnum_here bs k hlead (by omega) (by omega))
    have hnext:=qa ((lead_at bs k hlead (by omega)).1)
    have hV:=val_lt (bs.take k)
    have hx256:bs[k].toNat<256:=jj _
    rw[qz,vj (by omega)] at hV
    have HD:=qa (digit_in (val (bs.take k)) bs[k].toNat k hV hx256 (by omega))
    have hS:val (bs.take (k+1))=val (bs.take k)+128 ^ k*(bs[k].toNat%128):=by
     rw[qj (by omega),val_snoc,qz,vj (by omega)]
    have HS:=qa hS
    generalize bs[k].toNat=x at *
    generalize val (bs.take k)=V at *
    clear hV hS hlead
    go_wp2
    case roundEnd =>
     have hge:128≤x:=by omega
     exact⟨⟨k+1,by omega,by go_num,hnext.out hge,by rw[HS.out,HD.out]⟩,by simp[intOf];omega⟩
    all_goals
     go_ret3
     have hlt':x<128:=by omega
     rw[hlast.out hlt']
     first
     | (rw[if_pos (by omega)];exact⟨rfl,rfl⟩)
     | (rw[if_neg (by omega)];exact⟨by rw[←HD.out];rfl,rfl⟩)
     | (rw[if_neg (by omega)];have hx0:x=0:=(by omega);subst hx0;exact⟨(by rw[←HD.out];rfl),rfl⟩)
   ·
    have hv:=qa (vnum_over bs (by omega))
    go_wp2
    all_goals
     go_ret3
     rw[hv.out]
     first
     | (rw[if_pos (by omega)];exact⟨rfl,rfl⟩)
     | (rw[if_neg (by omega)];exact⟨rfl,rfl⟩)
def qf3(bs:List UInt8)(k:Nat)(most:Int):Int :=
 if (qbv (bs.drop k)).2.2≠0 then (qbv (bs.drop k)).2.2 else if most<(qbv (bs.drop k)).1 then 3 else 0
theorem peek_bad{w:World}{lo g k:Nat}{bs:List UInt8}{e:Int}(most:Int)(h:vx w lo g bs k e)(he:e≠0) :
  Calls Tryz.prog 94 #[cp g,.int .i64 most] w fun r w'=>r= .returned (.tuple #[.int .i64 0,.int .i64 0])∧w=w':=by
 have hg:=xx h
 have h0:(e==0)=false:=by simpa using he
 rw[h0] at hg
 clear h h0 he
 unfold cp at hg ⊢
 go_enter Tryz.func94,Tryz.ntmps94
 go_wp2_with fail
 refine hg.mono ?_
 rintro e w' ⟨rfl,rfl⟩
 go_wp2_with fail
 go_ret2
 exact⟨rfl,rfl⟩
theorem peek_good{w:World}{lo g k:Nat}{bs:List UInt8}(most:Int)(h:vx w lo g bs k 0)(he:qf3 bs k most=0) :
  Calls Tryz.prog 94 #[cp g,.int .i64 most] w fun r w'=>r= .returned (.tuple #[.int .i64 ((qbv (bs.drop k)).1:Int),.int .i64 ((qbv (bs.drop k)).2.1:Int)])∧∃m,w.drewN m=w':=by
 have H:=qa h
 obtain⟨A,c,h0,h1,h2,hrd,hk,hl,hc⟩:=h.open_
 have hcut:=hrd.cut (k:=k) (n:=bs.length) hk (by rw[yf];exact qc _)
 rw[qo (by simp[yf]),←qod] at hcut
 have HC:=qa hcut
 have hdl:(bs.drop k).length=bs.length-k:=by simp
 have HV:=fun(m:Nat)=>qa (qmt (bs.drop k) (HC.out.drewN m))
 rw[hdl] at HV
 have h3:((qbv (bs.drop k)).2.2==0)=true:=by
  rw[beq_iff_eq]
  unfold qf3 at he
  split at he
  ·
   contradiction
  ·
   rename_i hn;exact Decidable.not_not.1 hn
 have h4:((qbv (bs.drop k)).1:Int)≤most:=by
  unfold qf3 at he
  split at he
  ·
   contradiction
  ·
   split at he <;> omega
 clear hcut hrd h he hdl
 generalize qbv (bs.drop k)=V at *
 have h5:V.2.2=0:=by simpa using h3
 unfold cp
 go_enter Tryz.func94,Tryz.ntmps94
 go_wp2_with fail
 refine(xx H.out).mono ?_
 rintro e w' ⟨rfl,rfl⟩
 go_wp2_with fail
 go_quiet ((go_at_call 133;exact qdx (HV _).out))
 go_wp2
 all_goals go_ret2
 all_goals exact⟨rfl,_,rfl⟩
theorem peek_form{w:World}{lo g k:Nat}{bs:List UInt8}(most:Int)(h:vx w lo g bs k 0)(h3:(qbv (bs.drop k)).2.2≠0) :
  Calls Tryz.prog 94 #[cp g,.int .i64 most] w fun r w'=>r= .returned (.tuple #[.int .i64 0,.int .i64 0])∧∃m,(w.drewN m).setCell ⟨g,2,none⟩ (.int .i64 (qbv (bs.drop k)).2.2)=w':=by
 have H:=qa h
 obtain⟨A,c,h0,h1,h2,hrd,hk,hl,hc⟩:=h.open_
 have hcut:=hrd.cut (k:=k) (n:=bs.length) hk (by rw[yf];exact qc _)
 rw[qo (by simp[yf]),←qod] at hcut
 have HC:=qa hcut
 have hdl:(bs.drop k).length=bs.length-k:=by simp
 have HV:=fun(m:Nat)=>qa (qmt (bs.drop k) (HC.out.drewN m))
 rw[hdl] at HV
 have h5:((qbv (bs.drop k)).2.2==0)=false:=by simpa using h3
 have h6:((qbv (bs.drop k)).2.2 != 0)=true:=by simpa using h3
 clear hcut hrd h hdl
 generalize qbv (bs.drop k)=V at *
 unfold cp
 go_enter Tryz.func94,Tryz.ntmps94
 go_wp2_with fail
 refine(xx H.out).mono ?_
 rintro e w' ⟨rfl,rfl⟩
 go_wp2_with fail
 go_quiet ((go_at_call 133;exact qdx (HV _).out))
 go_wp2_with (go_at_call 127;refine(qji _ (H.out.drewN _)).mono ?_;rintro e w' ⟨rfl,rfl⟩)
 all_goals go_ret2
 all_goals exact⟨rfl,_,rfl⟩
theorem peek_above{w:World}{lo g k:Nat}{bs:List UInt8}(most:Int)(h:vx w lo g bs k 0)(h3:(qbv (bs.drop k)).2.2=0)(h4:most<(qbv (bs.drop k)).1) :
  Calls Tryz.prog 94 #[cp g,.int .i64 most] w fun r w'=>r= .returned (.tuple #[.int .i64 0,.int .i64 0])∧∃m,(w.drewN m).setCell ⟨g,2,none⟩ (.int .i64 3)=w':=by
 have H:=qa h
 obtain⟨A,c,h0,h1,h2,hrd,hk,hl,hc⟩:=h.open_
 have hcut:=hrd.cut (k:=k) (n:=bs.length) hk (by rw[yf];exact qc _)
 rw[qo (by simp[yf]),←qod] at hcut
 have HC:=qa hcut
 have hdl:(bs.drop k).length=bs.length-k:=by simp
 have HV:=fun(m:Nat)=>qa (qmt (bs.drop k) (HC.out.drewN m))
 rw[hdl] at HV
 clear hcut hrd h hdl
 generalize qbv (bs.drop k)=V at *
 unfold cp
 go_enter Tryz.func94,Tryz.ntmps94
 go_wp2_with fail
 refine(xx H.out).mono ?_
 rintro e w' ⟨rfl,rfl⟩
 go_wp2_with fail
 go_quiet ((go_at_call 133;exact qdx (HV _).out))
 go_wp2_with (go_at_call 127;refine(qji _ (H.out.drewN _)).mono ?_;rintro e w' ⟨rfl,rfl⟩)
 all_goals go_ret2
 all_goals exact⟨rfl,_,rfl⟩
def uz(bs:List UInt8)(k:Nat)(e most:Int):Nat×Nat×Int :=
 if e≠0 then (0,0,e) else if qf3 bs k most≠0 then (0,0,qf3 bs k most) else ((qbv (bs.drop k)).1,(qbv (bs.drop k)).2.1,0)
theorem qoq(bs:List UInt8):(qbv bs).2.1≤bs.length:=by
 unfold qbv
 have:=lead_le bs
 repeat' split
 all_goals (simp only[];omega)
theorem qm8(bs:List UInt8)(k:Nat)(e most:Int)(hk:k≤bs.length):k+(uz bs k e most).2.1≤bs.length:=by
 have:=qoq (bs.drop k)
 simp only[qy] at this
 unfold uz
 repeat' split
 all_goals (simp only[];omega)
theorem peek_any{w:World}{lo g k:Nat}{bs:List UInt8}{e:Int}(most:Int)(h:vx w lo g bs k e) :
  Calls Tryz.prog 94 #[cp g,.int .i64 most] w fun r w'=>r= .returned (.tuple #[.int .i64 ((uz bs k e most).1:Int),.int .i64 ((uz bs k e most).2.1:Int)])∧
   vx w' lo g bs k (uz bs k e most).2.2∧w.grownBy w' (some g):=by
 by_cases he:e=0
 ·
  subst he
  by_cases h3:(qbv (bs.drop k)).2.2=0
  ·
   by_cases h4:most<((qbv (bs.drop k)).1:Int)
   ·
    rw[show uz bs k 0 most=(0,0,3) from by simp[uz,qf3,h3,h4]]
    refine(peek_above most h h3 h4).mono ?_
    rintro r w' ⟨rfl,m,rfl⟩
    exact⟨rfl,(h.drewN m).setErr 3,xy (qb0 (vg w _) m) (.inl rfl) _⟩
   ·
    have h0:qf3 bs k most=0:=by simp[qf3,h3];omega
    rw[show uz bs k 0 most=((qbv (bs.drop k)).1,(qbv (bs.drop k)).2.1,0) from by simp[uz,h0]]
    refine(peek_good most h h0).mono ?_
    rintro r w' ⟨rfl,m,rfl⟩
    exact⟨rfl,h.drewN m,qb0 (vg w _) m⟩
  ·
   rw[show uz bs k 0 most=(0,0,(qbv (bs.drop k)).2.2) from by simp[uz,qf3,h3]]
   refine(peek_form most h h3).mono ?_
   rintro r w' ⟨rfl,m,rfl⟩
   exact⟨rfl,(h.drewN m).setErr _,xy (qb0 (vg w _) m) (.inl rfl) _⟩
 ·
  rw[show uz bs k e most=(0,0,e) from by simp[uz,he]]
  refine(peek_bad most h he).mono ?_
  rintro r w' ⟨rfl,rfl⟩
  exact⟨rfl,h,vg w _⟩
def jw(bs:List UInt8)(k:Nat)(e most:Int):Nat×Nat×Int:=((uz bs k e most).1,k+(uz bs k e most).2.1,(uz bs k e most).2.2)
theorem takeR_skip(bs:List UInt8)(k:Nat)(e most:Int)(hk:k≤bs.length) :
  jo bs k (uz bs k e most).2.2 (uz bs k e most).2.1 0=([],(jw bs k e most).2.1,(jw bs k e most).2.2):=by
 have hs:=qm8 bs k e most hk
 by_cases h:(uz bs k e most).2.2=0
 ·
  unfold jw
  rw[h]
  have h2:¬((bs.length:Int)-k-((uz bs k e most).2.1:Int)<0):=by omega
  simp[jo,h2]
 ·
  have h1:(uz bs k e most).2.1=0:=by
   unfold uz at h ⊢
   repeat' split
   all_goals first | rfl | (rename_i a b;simp[a,b] at h)
  simp[jo,h,jw,h1]
theorem qeu{w:World}{lo g k:Nat}{bs:List UInt8}{e:Int}(most:Int)(h:vx w lo g bs k e) :
  Calls Tryz.prog 65 #[cp g,.int .i64 most] w fun r w'=>r= .returned (.int .i64 ((jw bs k e most).1:Int))∧
   vx w' lo g bs (jw bs k e most).2.1 (jw bs k e most).2.2∧w.grownBy w' (some g):=by
 have hk:=h.le
 have HP:=qa (peek_any most h)
 have hs:=qm8 bs k e most hk
 have HT:=qa (takeR_skip bs k e most hk)
 have HE0:(jw bs k e most).1=(uz bs k e most).1:=rfl
 have HE:=qa HE0
 clear h HE0
 generalize jw bs k e most=M at *
 generalize uz bs k e most=R at *
 go_enter Tryz.func65,Tryz.ntmps65
 go_wp2_with fail
 refine HP.out.mono ?_
 rintro r w1 ⟨rfl,hc1,hg1⟩
 have HC:=qa hc1
 clear hc1
 go_wp2_with fail
 refine(qnp _ _ HC.out hs).mono ?_
 rintro r w2 ⟨A,c,rfl,hrd,hc2,hg2⟩
 rw[HT.out] at hc2
 clear hrd
 have HC2:=qa hc2
 clear hc2
 go_wp2_with fail
 go_ret
 exact⟨by rw[HE.out];rfl,HC2.out,hg1.trans hg2⟩
theorem ua{w:World}{lo g k:Nat}{bs:List UInt8}{e:Int}(x:Int)(h:vx w lo g bs k e) :
  Calls Tryz.prog 127 #[cp g,.int .i64 x] w fun r w'=>r= .returned (.tuple #[])∧vx w' lo g bs k (if e=0 then x else e)∧w.grownBy w' (some g):=by
 by_cases he:e=0
 ·
  subst he
  rw[if_pos rfl]
  refine(qji x h).mono ?_
  rintro r w' ⟨rfl,rfl⟩
  exact⟨rfl,h.setErr x,xy (vg w _) (.inl rfl) _⟩
 ·
  rw[if_neg he]
  refine(fail_bad x h he).mono ?_
  rintro r w' ⟨rfl,rfl⟩
  exact⟨rfl,h,vg w _⟩
theorem takeR_full(bs:List UInt8)(k:Nat)(e:Int)(s:Nat)(h:(jo bs k e 0 (s:Int)).2.2=0):(jo bs k e 0 (s:Int)).1.length=s:=by
 unfold jo at h ⊢
 by_cases h1:e≠0
 ·
  rw[if_pos h1] at h;exact absurd h h1
 ·
  rw[if_neg h1] at h ⊢
  by_cases h2:(s:Int)<0
  ·
   omega
  ·
   rw[if_neg h2] at h ⊢
   by_cases h3:(bs.length:Int)-k-((0:Nat):Int)<s
   ·
    rw[if_pos h3] at h;simp at h
   ·
    rw[if_neg h3]
    simp only[qz,qy,vr]
    omega
theorem gb_more{a w w':World}{g x:Nat}(h:a.grownBy w (some g))(h2:w.grownBy w' (some x))(hx:a.heap.size≤x):a.grownBy w' (some g) :=
 ⟨h2.os.trans h.os,h2.tape.trans h.tape,h2.output.trans h.output,zb h.size h2.size,fun i hi hne =>
  (h2.block i (zn hi h.size) (fun e=>by injection e with e;omega)).trans (h.block i hi hne)⟩
theorem qc0(bs:List UInt8)(k n:Nat)(h:bs.length<k+n):jo bs k 0 0 (n:Int)=([],k,2):=by
 have h1:¬((n:Int)<0):=by omega
 have h2:(bs.length:Int)-k-((0:Nat):Int)<n:=by omega
 unfold jo
 rw[if_neg (by simp),if_neg h1,if_pos h2]
theorem qcw(bs:List UInt8)(k n:Nat)(h:k+n≤bs.length):jo bs k 0 0 (n:Int)=((bs.drop k).take n,k+n,0):=by
 have h1:¬((n:Int)<0):=by omega
 have h2:¬((bs.length:Int)-k-((0:Nat):Int)<n):=by omega
 unfold jo
 rw[if_neg (by simp),if_neg h1,if_neg h2]
 simp
theorem qc5(bs:List UInt8)(k:Nat)(e most:Int):(jw bs k e most).1=0∨((jw bs k e most).1:Int)≤most:=by
 unfold jw uz
 by_cases he:e≠0
 ·
  rw[if_pos he];exact .inl rfl
 ·
  rw[if_neg he]
  by_cases hp:qf3 bs k most≠0
  ·
   rw[if_pos hp];exact .inl rfl
  ·
   rw[if_neg hp]
   refine .inr ?_
   have h:qf3 bs k most=0:=Decidable.not_not.1 hp
   unfold qf3 at h
   split at h
   ·
    contradiction
   ·
    split at h
    ·
     omega
    ·
     simp only[];omega
end Go.Proofs.YtjfecojdagmacaaGreat
