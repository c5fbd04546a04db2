/-
  Lemmas.
-/
import Derived.Test.YtnjkipnklpkaoaaGreatA03
namespace Go.Proofs.YtnjkipnklpkaoaaGreat
open Go.RowKit
set_option maxRecDepth 20000
set_option maxHeartbeats 16000000
set_option linter.unusedSimpArgs false
set_option linter.unusedVariables false
def qgd(bs:List UInt8)(k:Nat)(most:Int):Int :=
 if (qb2 (bs.drop k)).2.2≠0 then (qb2 (bs.drop k)).2.2 else if most<(qb2 (bs.drop k)).1 then 3 else 0
theorem peek_bad{w:World}{lo g k:Nat}{bs:List UInt8}{e:Int}(most:Int)(h:vw w lo g bs k e)(he:e≠0) :
  Calls Tryz.prog 81 #[cp g,.int .i64 most] w fun r w'=>r= .returned (.tuple #[.int .i64 0,.int .i64 0])∧w=w':=by
 have hg:=xu h
 have h0:(e==0)=false:=by simpa using he
 rw[h0] at hg
 clear h h0 he
 unfold cp at hg ⊢
 go_enter Tryz.func81,Tryz.ntmps81
 go_wp2_with fail
 refine hg.mono ?_
 rintro e w' ⟨rfl,rfl⟩
 go_wp2_with fail
 go_ret2
 exact⟨rfl,rfl⟩
theorem peek_good{w:World}{lo g k:Nat}{bs:List UInt8}(most:Int)(h:vw w lo g bs k 0)(he:qgd bs k most=0) :
  Calls Tryz.prog 81 #[cp g,.int .i64 most] w fun r w'=>r= .returned (.tuple #[.int .i64 ((qb2 (bs.drop k)).1:Int),.int .i64 ((qb2 (bs.drop k)).2.1:Int)])∧∃m,w.drewN m=w':=by
 have H:=qa h
 obtain⟨A,c,h0,h1,h2,hrd,hk,hl,hc⟩:=h.open_
 have hcut:=hrd.cut (k:=k) (n:=bs.length) hk (by rw[yh];exact qc _)
 rw[qo (by simp[yh]),←qpq] at hcut
 have HC:=qa hcut
 have hdl:(bs.drop k).length=bs.length-k:=by simp
 have HV:=fun(m:Nat)=>qa (qnl (bs.drop k) (HC.out.drewN m))
 rw[hdl] at HV
 have h3:((qb2 (bs.drop k)).2.2==0)=true:=by
  rw[beq_iff_eq]
  unfold qgd at he
  split at he
  ·
   contradiction
  ·
   rename_i hn;exact Decidable.not_not.1 hn
 have h4:((qb2 (bs.drop k)).1:Int)≤most:=by
  unfold qgd at he
  split at he
  ·
   contradiction
  ·
   split at he <;> omega
 clear hcut hrd h he hdl
 generalize qb2 (bs.drop k)=V at *
 have h5:V.2.2=0:=by simpa using h3
 unfold cp
 go_enter Tryz.func81,Tryz.ntmps81
 go_wp2_with fail
 refine(xu H.out).mono ?_
 rintro e w' ⟨rfl,rfl⟩
 go_wp2_with fail
 go_quiet ((go_at_call 129;exact qdz (HV _).out))
 go_wp2
 all_goals go_ret2
 all_goals exact⟨rfl,_,rfl⟩
theorem peek_form{w:World}{lo g k:Nat}{bs:List UInt8}(most:Int)(h:vw w lo g bs k 0)(h3:(qb2 (bs.drop k)).2.2≠0) :
  Calls Tryz.prog 81 #[cp g,.int .i64 most] w fun r w'=>r= .returned (.tuple #[.int .i64 0,.int .i64 0])∧∃m,(w.drewN m).setCell ⟨g,2,none⟩ (.int .i64 (qb2 (bs.drop k)).2.2)=w':=by
 have H:=qa h
 obtain⟨A,c,h0,h1,h2,hrd,hk,hl,hc⟩:=h.open_
 have hcut:=hrd.cut (k:=k) (n:=bs.length) hk (by rw[yh];exact qc _)
 rw[qo (by simp[yh]),←qpq] at hcut
 have HC:=qa hcut
 have hdl:(bs.drop k).length=bs.length-k:=by simp
 have HV:=fun(m:Nat)=>qa (qnl (bs.drop k) (HC.out.drewN m))
 rw[hdl] at HV
 have h5:((qb2 (bs.drop k)).2.2==0)=false:=by simpa using h3
 have h6:((qb2 (bs.drop k)).2.2 != 0)=true:=by simpa using h3
 clear hcut hrd h hdl
 generalize qb2 (bs.drop k)=V at *
 unfold cp
 go_enter Tryz.func81,Tryz.ntmps81
 go_wp2_with fail
 refine(xu H.out).mono ?_
 rintro e w' ⟨rfl,rfl⟩
 go_wp2_with fail
 go_quiet ((go_at_call 129;exact qdz (HV _).out))
 go_wp2_with (go_at_call 87;refine(qjz _ (H.out.drewN _)).mono ?_;rintro e w' ⟨rfl,rfl⟩)
 all_goals go_ret2
 all_goals exact⟨rfl,_,rfl⟩
theorem peek_above{w:World}{lo g k:Nat}{bs:List UInt8}(most:Int)(h:vw w lo g bs k 0)(h3:(qb2 (bs.drop k)).2.2=0)(h4:most<(qb2 (bs.drop k)).1) :
  Calls Tryz.prog 81 #[cp g,.int .i64 most] w fun r w'=>r= .returned (.tuple #[.int .i64 0,.int .i64 0])∧∃m,(w.drewN m).setCell ⟨g,2,none⟩ (.int .i64 3)=w':=by
 have H:=qa h
 obtain⟨A,c,h0,h1,h2,hrd,hk,hl,hc⟩:=h.open_
 have hcut:=hrd.cut (k:=k) (n:=bs.length) hk (by rw[yh];exact qc _)
 rw[qo (by simp[yh]),←qpq] at hcut
 have HC:=qa hcut
 have hdl:(bs.drop k).length=bs.length-k:=by simp
 have HV:=fun(m:Nat)=>qa (qnl (bs.drop k) (HC.out.drewN m))
 rw[hdl] at HV
 clear hcut hrd h hdl
 generalize qb2 (bs.drop k)=V at *
 unfold cp
 go_enter Tryz.func81,Tryz.ntmps81
 go_wp2_with fail
 refine(xu H.out).mono ?_
 rintro e w' ⟨rfl,rfl⟩
 go_wp2_with fail
 go_quiet ((go_at_call 129;exact qdz (HV _).out))
 go_wp2_with (go_at_call 87;refine(qjz _ (H.out.drewN _)).mono ?_;rintro e w' ⟨rfl,rfl⟩)
 all_goals go_ret2
 all_goals exact⟨rfl,_,rfl⟩
def jac(bs:List UInt8)(k:Nat)(e most:Int):Nat×Nat×Int :=
 if e≠0 then (0,0,e) else if qgd bs k most≠0 then (0,0,qgd bs k most) else ((qb2 (bs.drop k)).1,(qb2 (bs.drop k)).2.1,0)
theorem qp1(bs:List UInt8):(qb2 bs).2.1≤bs.length:=by
 unfold qb2
 have:=lead_le bs
 repeat' split
 all_goals (simp only[];omega)
theorem qny(bs:List UInt8)(k:Nat)(e most:Int)(hk:k≤bs.length):k+(jac bs k e most).2.1≤bs.length:=by
 have:=qp1 (bs.drop k)
 simp only[qu] at this
 unfold jac
 repeat' split
 all_goals (simp only[];omega)
theorem peek_any{w:World}{lo g k:Nat}{bs:List UInt8}{e:Int}(most:Int)(h:vw w lo g bs k e) :
  Calls Tryz.prog 81 #[cp g,.int .i64 most] w fun r w'=>r= .returned (.tuple #[.int .i64 ((jac bs k e most).1:Int),.int .i64 ((jac bs k e most).2.1:Int)])∧
   vw w' lo g bs k (jac bs k e most).2.2∧w.grownBy w' (some g):=by
 by_cases he:e=0
 ·
  subst he
  by_cases h3:(qb2 (bs.drop k)).2.2=0
  ·
   by_cases h4:most<((qb2 (bs.drop k)).1:Int)
   ·
    rw[show jac bs k 0 most=(0,0,3) from by simp[jac,qgd,h3,h4]]
    refine(peek_above most h h3 h4).mono ?_
    rintro r w' ⟨rfl,m,rfl⟩
    exact⟨rfl,(h.drewN m).setErr 3,xv (qb5 (vc w _) m) (.inl rfl) _⟩
   ·
    have h0:qgd bs k most=0:=by simp[qgd,h3];omega
    rw[show jac bs k 0 most=((qb2 (bs.drop k)).1,(qb2 (bs.drop k)).2.1,0) from by simp[jac,h0]]
    refine(peek_good most h h0).mono ?_
    rintro r w' ⟨rfl,m,rfl⟩
    exact⟨rfl,h.drewN m,qb5 (vc w _) m⟩
  ·
   rw[show jac bs k 0 most=(0,0,(qb2 (bs.drop k)).2.2) from by simp[jac,qgd,h3]]
   refine(peek_form most h h3).mono ?_
   rintro r w' ⟨rfl,m,rfl⟩
   exact⟨rfl,(h.drewN m).setErr _,xv (qb5 (vc w _) m) (.inl rfl) _⟩
 ·
  rw[show jac bs k e most=(0,0,e) from by simp[jac,he]]
  refine(peek_bad most h he).mono ?_
  rintro r w' ⟨rfl,rfl⟩
  exact⟨rfl,h,vc w _⟩
def j8(bs:List UInt8)(k:Nat)(e most:Int):Nat×Nat×Int:=((jac bs k e most).1,k+(jac bs k e most).2.1,(jac bs k e most).2.2)
theorem takeR_skip(bs:List UInt8)(k:Nat)(e most:Int)(hk:k≤bs.length) :
  jy bs k (jac bs k e most).2.2 (jac bs k e most).2.1 0=([],(j8 bs k e most).2.1,(j8 bs k e most).2.2):=by
 have hs:=qny bs k e most hk
 by_cases h:(jac bs k e most).2.2=0
 ·
  unfold j8
  rw[h]
  have h2:¬((bs.length:Int)-k-((jac bs k e most).2.1:Int)<0):=by omega
  simp[jy,h2]
 ·
  have h1:(jac bs k e most).2.1=0:=by
   unfold jac at h ⊢
   repeat' split
   all_goals first | rfl | (rename_i a b;simp[a,b] at h)
  simp[jy,h,j8,h1]
theorem qgm{w:World}{lo g k:Nat}{bs:List UInt8}{e:Int}(most:Int)(h:vw w lo g bs k e) :
  Calls Tryz.prog 44 #[cp g,.int .i64 most] w fun r w'=>r= .returned (.int .i64 ((j8 bs k e most).1:Int))∧
   vw w' lo g bs (j8 bs k e most).2.1 (j8 bs k e most).2.2∧w.grownBy w' (some g):=by
 have hk:=h.le
 have HP:=qa (peek_any most h)
 have hs:=qny bs k e most hk
 have HT:=qa (takeR_skip bs k e most hk)
 have HE0:(j8 bs k e most).1=(jac bs k e most).1:=rfl
 have HE:=qa HE0
 clear h HE0
 generalize j8 bs k e most=M at *
 generalize jac bs k e most=R at *
 go_enter Tryz.func44,Tryz.ntmps44
 go_wp2_with fail
 refine HP.out.mono ?_
 rintro r w1 ⟨rfl,hc1,hg1⟩
 have HC:=qa hc1
 clear hc1
 go_wp2_with fail
 refine(qom _ _ HC.out hs).mono ?_
 rintro r w2 ⟨A,c,rfl,hrd,hc2,hg2⟩
 rw[HT.out] at hc2
 clear hrd
 have HC2:=qa hc2
 clear hc2
 go_wp2_with fail
 go_ret
 exact⟨by rw[HE.out];rfl,HC2.out,hg1.trans hg2⟩
theorem kx{w:World}{lo g k:Nat}{bs:List UInt8}{e:Int}(x:Int)(h:vw w lo g bs k e) :
  Calls Tryz.prog 87 #[cp g,.int .i64 x] w fun r w'=>r= .returned (.tuple #[])∧vw w' lo g bs k (if e=0 then x else e)∧w.grownBy w' (some g):=by
 by_cases he:e=0
 ·
  subst he
  rw[if_pos rfl]
  refine(qjz x h).mono ?_
  rintro r w' ⟨rfl,rfl⟩
  exact⟨rfl,h.setErr x,xv (vc w _) (.inl rfl) _⟩
 ·
  rw[if_neg he]
  refine(fail_bad x h he).mono ?_
  rintro r w' ⟨rfl,rfl⟩
  exact⟨rfl,h,vc w _⟩
theorem takeR_full(bs:List UInt8)(k:Nat)(e:Int)(s:Nat)(h:(jy bs k e 0 (s:Int)).2.2=0):(jy bs k e 0 (s:Int)).1.length=s:=by
 unfold jy at h ⊢
 by_cases h1:e≠0
 ·
  rw[if_pos h1] at h;exact absurd h h1
 ·
  rw[if_neg h1] at h ⊢
  by_cases h2:(s:Int)<0
  ·
   omega
  ·
   rw[if_neg h2] at h ⊢
   by_cases h3:(bs.length:Int)-k-((0:Nat):Int)<s
   ·
    rw[if_pos h3] at h;simp at h
   ·
    rw[if_neg h3]
    simp only[qy,qu,vf]
    omega
theorem gb_more{a w w':World}{g x:Nat}(h:a.grownBy w (some g))(h2:w.grownBy w' (some x))(hx:a.heap.size≤x):a.grownBy w' (some g) :=
 ⟨h2.os.trans h.os,h2.tape.trans h.tape,h2.output.trans h.output,ze h.size h2.size,fun i hi hne =>
  (h2.block i (ja hi h.size) (fun e=>by injection e with e;omega)).trans (h.block i hi hne)⟩
theorem qdt(bs:List UInt8)(k n:Nat)(h:bs.length<k+n):jy bs k 0 0 (n:Int)=([],k,2):=by
 have h1:¬((n:Int)<0):=by omega
 have h2:(bs.length:Int)-k-((0:Nat):Int)<n:=by omega
 unfold jy
 rw[if_neg (by simp),if_neg h1,if_pos h2]
theorem qd8(bs:List UInt8)(k n:Nat)(h:k+n≤bs.length):jy bs k 0 0 (n:Int)=((bs.drop k).take n,k+n,0):=by
 have h1:¬((n:Int)<0):=by omega
 have h2:¬((bs.length:Int)-k-((0:Nat):Int)<n):=by omega
 unfold jy
 rw[if_neg (by simp),if_neg h1,if_neg h2]
 simp
theorem qd4(bs:List UInt8)(k:Nat)(e most:Int):(j8 bs k e most).1=0∨((j8 bs k e most).1:Int)≤most:=by
 unfold j8 jac
 by_cases he:e≠0
 ·
  rw[if_pos he];exact .inl rfl
 ·
  rw[if_neg he]
  by_cases hp:qgd bs k most≠0
  ·
   rw[if_pos hp];exact .inl rfl
  ·
   rw[if_neg hp]
   refine .inr ?_
   have h:qgd bs k most=0:=Decidable.not_not.1 hp
   unfold qgd at h
   split at h
   ·
    contradiction
   ·
    split at h
    ·
     omega
    ·
     simp only[];omega
theorem filled_any{w:World}(bs:List UInt8)(n:Nat)(hl:bs.length=(n+7)/8)(hn:n≤1000000000000){lo h':Nat}{A:Option Addr}{c:Nat}(h:Rd w lo h' A c (bv bs)) :
  Calls Tryz.prog 169 #[.slice A bs.length c,.int .i64 (n:Int)] w fun r w'=>r= .returned (.bool (decide (qbg bs<2 ^ n)))∧w=w':=by
 have hll:=h.len
 have hc:=h.cap
 rw[yh] at hll
 unfold maxLen at hc
 have H:=qa h
 clear h
 by_cases hr:n%8=0
 ·
  have HT:Hid (decide (qbg bs<2 ^ n)=true):=qp (filled_all bs n hl hr)
  have h8:((n:Int)%8==0)=true:=by rw[beq_iff_eq];omega
  have hlb:bs.length≤(n+7)/8:=qek hl
  clear hl hr
  go_enter Tryz.func169,Tryz.ntmps169
  go_wp2
  go_ret
  exact⟨zf HT.out.symm,rfl⟩
 ·
  have hp:0<bs.length:=by omega
  have HF:=qa (filled_iff bs n hl hr)
  have h8:((n:Int)%8==0)=false:=by rw[qr];omega
  have hlb:bs.length≤(n+7)/8:=qek hl
  obtain⟨b,off,rfl,_,_,hcell⟩:=H.out.byte (k:=bs.length-1) (by omega)
  rw[last_get bs hp] at hcell
  generalize bs.getLastD 0=x8 at *
  have hx:=zp x8
  generalize x8.toNat=x at *
  clear hl
  go_enter Tryz.func169,Tryz.ntmps169
  go_wp2
  go_ret
  refine⟨zf ?_,rfl⟩
  have e:(x:Int)/2 ^ (n%8)=((x/2 ^ (n%8):Nat):Int):=by push_cast;rfl
  rw[e,j5,beq_iff_eq,decide_eq_true_iff,←HF.out]
  omega
def qc8(bs:List UInt8)(n wd k:Nat)(e:Int):List Nat×Nat×Int :=
 if e≠0 then ([],k,e) else if wd=wide (zu (qci bs wd n))∧qbg bs<2 ^ (n*wd) then (qci bs wd n,k,0) else ([],k,3)
def qfw(wd:Nat)(e:Int):Int:=if wd≤32 then e else if e=0 then 3 else e
def qed(bs:List UInt8)(n wd k:Nat)(e:Int):List Nat×Nat×Int :=
 qc8 (jy bs k (qfw wd e) 0 (((n*wd+7)/8:Nat):Int)).1 n wd (jy bs k (qfw wd e) 0 (((n*wd+7)/8:Nat):Int)).2.1 (jy bs k (qfw wd e) 0 (((n*wd+7)/8:Nat):Int)).2.2
def qa5(bs:List UInt8)(k:Nat)(e most:Int):List Nat×Nat×Int :=
 qed bs (j8 bs k e (min most 2147483647)).1 ((jy bs (j8 bs k e (min most 2147483647)).2.1 (j8 bs k e (min most 2147483647)).2.2 0 1).1.headD 0).toNat
  (jy bs (j8 bs k e (min most 2147483647)).2.1 (j8 bs k e (min most 2147483647)).2.2 0 1).2.1 (jy bs (j8 bs k e (min most 2147483647)).2.1 (j8 bs k e (min most 2147483647)).2.2 0 1).2.2
theorem width_len{w:World}(zs:List Int)(n:Nat)(hz:qj8 zs){lo h':Nat}{A:Option Addr}{c:Nat}(h:Rd w lo h' A c (iv zs))(hn:zs.length=n) :
  Calls Tryz.prog 159 #[.slice A n c] w fun r w'=>r= .returned (.int .i64 (wide zs:Int))∧w=w':=by
 subst hn
 exact width_any zs hz h
def Upto(bs:List UInt8)(wd n k:Nat)(xs:List Value):Prop:=xs.length=n∧∀j,j<k→xs[j]? = some (.int .i64 (qje bs wd j:Int))
theorem upto_all{bs:List UInt8}{wd n:Nat}{xs:List Value}(h:Upto bs wd n n xs):xs=iv (zu (qci bs wd n)):=by
 apply qc3
 intro j
 by_cases hj:j<n
 ·
  rw[h.2 j hj]
  have:=getsN_get bs wd n j hj
  simp[iv,zu,this]
 ·
  rw[jz (by rw[h.1];omega),jz (by rw[ji,zj,qd1];omega)]
theorem upto_succ{bs:List UInt8}{wd n k:Nat}{xs:List Value}(h:Upto bs wd n k xs)(hk:k<n):Upto bs wd n (k+1) (xs.set k (.int .i64 (qje bs wd k:Int))):=by
 refine⟨by rw[xt];exact h.1,fun j hj => ?_⟩
 by_cases e:j=k
 ·
  subst e
  rw[qdq (by rw[h.1];exact hk)]
 ·
  rw[qbm (by omega)]
  exact h.2 j (by omega)
theorem ints_word{ns:List Nat}(h:∀x∈ns,x<4294967296):qj8 (zu ns):=by
 intro z hz
 obtain⟨x,hx,rfl⟩:=zn.1 hz
 have:=h x hx
 omega
theorem qp9{w:World}{lo g k:Nat}{bs:List UInt8}{e:Int}(most:Int)(h:vw w lo g bs k e)(hb:bs.length≤1000000000000) :
  Calls Tryz.prog 130 #[cp g,.int .i64 most] w fun r w'=>∃A c,r= .returned (.slice A (qa5 bs k e most).1.length c)∧w'.ownsRow w.heap.size 3 1 (.slice A (qa5 bs k e most).1.length c) (qa5 bs k e most).1.length (iv (zu (qa5 bs k e most).1))∧
   vw w' lo g bs (qa5 bs k e most).2.1 (qa5 bs k e most).2.2∧w.grownBy w' (some g):=by
 have hgl:=h.lt
 have HM:=qa (qgm (min most 2147483647) h)
 have hmle:=qd4 bs k e (min most 2147483647)
 unfold qa5
 generalize j8 bs k e (min most 2147483647)=M at *
 obtain⟨n,k1,e1⟩:=M
 dsimp only at HM hmle ⊢
 have hn:n≤2147483647:=by omega
 have HBY:=fun(w1:World) (h1:vw w1 lo g bs k1 e1)=>qa (qpp h1)
 generalize jy bs k1 e1 0 1=T at *
 obtain⟨tb,k2,e2⟩:=T
 dsimp only at HBY ⊢
 have hwd256:(tb.headD 0).toNat<256:=zp _
 generalize (tb.headD 0).toNat=wd at *
 clear h hmle
 go_enter Tryz.func130,Tryz.ntmps130
 go_wp2_with fail
 refine HM.out.mono ?_
 rintro r w1 ⟨rfl,hc1,hg1⟩
 have HC1:=qa hc1
 have HG1:=qa hg1
 have s1:=hg1.size
 clear hc1 hg1
 go_wp2_with fail
 refine(HBY w1 HC1.out).out.mono ?_
 rintro r w2 ⟨rfl,hc2,hg2⟩
 have HC2:=qa hc2
 have HG2:=qa (HG1.out.trans hg2)
 have s2:=hg2.size
 clear hc2 hg2
 by_cases hw:wd≤32
 ·
  have HR:Hid (qlq (wd:Int)=true):=qp (by omega)
  have hP:(n:Int)*(wd:Int)=((n*wd:Nat):Int):=(qar n wd).symm
  have hPb:n*wd≤2147483647*32:=vz hn hw
  have HMID:Hid (qed bs n wd k2 e2=qc8 (jy bs k2 e2 0 (((n*wd+7)/8:Nat):Int)).1 n wd (jy bs k2 e2 0 (((n*wd+7)/8:Nat):Int)).2.1 (jy bs k2 e2 0 (((n*wd+7)/8:Nat):Int)).2.2):=by
   unfold Hid qed qfw
   rw[if_pos hw]
  generalize hs:(n*wd+7)/8=s at HMID
  have HS:=qa hs
  have hsb:s≤2147483647*5:=by omega
  clear hs
  go_wp2_with fail
  refine(qif _ true HR.out).mono ?_
  rintro r w' ⟨rfl,rfl⟩
  go_wp2_with fail
  refine(size_is n wd s (by omega) HS.out).mono ?_
  rintro r w' ⟨rfl,rfl⟩
  go_wp2_with fail
  refine(qgf (s:Int) HC2.out (by omega)).mono ?_
  have hT:=takeR_full bs k2 e2 s
  generalize jy bs k2 e2 0 (s:Int)=U at *
  obtain⟨ub,k4,e4⟩:=U
  dsimp only at hT ⊢
  rintro r w4 ⟨A4,c4,rfl,ho4,hc4,hg4⟩
  have HO4:=qa ho4
  have HC4:=qa hc4
  have HG4:=qa (HG2.out.trans hg4)
  have s4:=hg4.size
  clear ho4 hc4 hg4
  by_cases he:e4=0
  ·
   subst he
   have hul:ub.length=s:=hT rfl
   have HUL:=qa hul
   have hulb:ub.length≤s:=qek hul
   clear hT hul
   obtain⟨w5,hmake,ho5,hg5⟩:=qjs w4 n (by omega)
   have HR5:=qa ((Rd.own HO4.out).grown hg5 (qc _) (by simp))
   have HC5:=qa (HC4.out.grown hg5 (by simp))
   have HG5:=qa (HG4.out.trans (qg6 hg5))
   have HO5:=qa ho5
   have s5:=hg5.size
   have hg4l:=HC4.out.lt
   clear ho5 hg5
   go_wp2_with fail
   refine(xu HC4.out).mono ?_
   rintro r w' ⟨rfl,rfl⟩
   go_wp2_with fail
   go_loopw [32] (fun i wr=>∃(j:Nat) (xs:List Value),j≤n∧i= .int .i64 (j:Int)∧wr.ownsRow w4.heap.size 3 1 (.slice (some ⟨w4.heap.size,0,none⟩) n n) n xs∧Upto ub wd n j xs∧w5.grownBy wr (some w4.heap.size)) (fun i _=>n-(intOf i).toNat)
   case atStart=>exact⟨0,_,qi _,rfl,HO5.out,⟨by simp,fun j hj=>by omega⟩,vc _ _⟩
   case round =>
    obtain⟨j,xs,hj,rfl,ho6,hup,hg6⟩:=hrel
    have HO6:=qa ho6
    have HUP:=qa hup
    have HG6:=qa hg6
    have s6:=hg6.size
    have HR6:=qa (HR5.out.grown hg6 s5 (fun x hx=> .inr (by injection hx with hx;omega)))
    clear ho6 hup hg6
    by_cases hlt:j<n
    ·
     have hfr:=HO6.out.frozenAt j
     have hxj:j<xs.length:=by rw[HUP.out.1];exact hlt
     have hcell:wr.cell? ⟨w4.heap.size,j,none⟩=some xs[j]:=by
      rw[HO6.out.cellAt j (by omega),qe hxj]
     have HST:=fun(q:Nat) (u:Value)=>qa (World.ownsRow.stored (w:=wr.drewN q) HO6.out j u)
     generalize xs[j]=x0 at *
     go_wp2_with fail
     refine(pget_any ub wd j hw (by omega) (by omega) HR6.out).mono ?_
     rintro r w7 ⟨rfl,q,rfl⟩
     go_wp2
     go_roundw
     case rel =>
      refine⟨j+1,_,by omega,by go_num,(HST q _).out.1,upto_succ HUP.out hlt,?_⟩
      exact(qb5 HG6.out q).trans (HST q _).out.2
     case measure=>simp[intOf];omega
    ·
     obtain rfl:j=n:=by omega
     have hall:=upto_all HUP.out
     have hoL:=HO6.out
     rw[hall] at hoL
     have HOL:=qa hoL
     have HC6:=qa (HC5.out.grown HG6.out (fun x hx=> .inr (by injection hx with hx;omega)))
     have HG7:=qa (gb_more HG5.out HG6.out (by omega))
     have hlen:(zu (qci ub wd j)).length=j:=by rw[zj,qd1]
     have HLEN:=qa hlen
     have HWO:=qa (ints_word (ns:=qci ub wd j) (fun x hx=>by
      have h1:=getsN_lt ub wd j x hx
      have h2:2 ^ wd≤2 ^ 32:=yb (by omega) hw
      omega))
     have HWD:=qa (width_len (w:=wr) _ j HWO.out (Rd.own HOL.out) hlen)
     have HFI:=qa (filled_any (w:=wr) ub (j*wd) (by rw[HUL.out,HS.out]) (by omega) HR6.out)
     have hgl2:(qci ub wd j).length=j:=qd1 _ _ _
     have HGL:=qa hgl2
     clear hall hoL hlen hgl2 hmake
     generalize hP2:j*wd=P at *
     have HPP:=qa hP2
     clear hP2
     by_cases hwd:wd=wide (zu (qci ub wd j))
     ·
      have hne:((wd:Int) != (wide (zu (qci ub wd j)):Int))=false:=by rw[←hwd];simp
      by_cases hfl:qbg ub<2 ^ P
      ·
       have HE:Hid (qed bs j wd k2 e2=(qci ub wd j,k4,0)):=by
        unfold Hid
        rw[HMID.out]
        unfold qc8
        rw[if_neg (by simp),HPP.out,if_pos ⟨hwd,hfl⟩]
       have HFT:=qa (qp hfl)
       rw[HFT.out] at HFI
       clear hfl hwd
       generalize wide (zu (qci ub wd j))=wl at *
       go_wp2_with (first
        | (go_at_call 159;refine HWD.out.mono ?_;rintro r w' ⟨rfl,rfl⟩)
        | (go_at_call 169;refine HFI.out.mono ?_;rintro r w' ⟨rfl,rfl⟩))
       go_ret
       rw[HE.out]
       exact⟨_,_,by rw[HGL.out];rfl,by rw[HGL.out];exact j4 HOL.out (by omega),HC6.out,HG7.out⟩
      ·
       have HE:Hid (qed bs j wd k2 e2=([],k4,3)):=by
        unfold Hid
        rw[HMID.out]
        unfold qc8
        rw[if_neg (by simp),HPP.out,if_neg (fun h=>hfl h.2)]
       have HFT:=qa (ql hfl)
       rw[HFT.out] at HFI
       clear hfl hwd
       generalize wide (zu (qci ub wd j))=wl at *
       go_wp2_with (first
        | (go_at_call 159;refine HWD.out.mono ?_;rintro r w' ⟨rfl,rfl⟩)
        | (go_at_call 169;refine HFI.out.mono ?_;rintro r w' ⟨rfl,rfl⟩)
        | (go_at_call 87;refine(kx 3 HC6.out).mono ?_;rintro r w8 ⟨rfl,hc8,hg8⟩;have HC8:=qa hc8;have HG8:=qa hg8;clear hc8 hg8))
       go_ret
       rw[HE.out]
       exact⟨none,0,rfl,zh ..,by simpa using HC8.out,HG7.out.trans HG8.out⟩
     ·
      have hne:((wd:Int) != (wide (zu (qci ub wd j)):Int))=true:=by rw[bne_iff_ne];omega
      have HE:Hid (qed bs j wd k2 e2=([],k4,3)):=by
       unfold Hid
       rw[HMID.out]
       unfold qc8
       rw[if_neg (by simp),if_neg (fun h=>hwd h.1)]
      clear hwd
      generalize wide (zu (qci ub wd j))=wl at *
      go_wp2_with (first
       | (go_at_call 159;refine HWD.out.mono ?_;rintro r w' ⟨rfl,rfl⟩)
       | (go_at_call 87;refine(kx 3 HC6.out).mono ?_;rintro r w8 ⟨rfl,hc8,hg8⟩;have HC8:=qa hc8;have HG8:=qa hg8;clear hc8 hg8))
      go_ret
      rw[HE.out]
      exact⟨none,0,rfl,zh ..,by simpa using HC8.out,HG7.out.trans HG8.out⟩
  ·
   have HE:Hid (qed bs n wd k2 e2=([],k4,e4)):=by
    unfold Hid
    rw[HMID.out]
    unfold qc8
    rw[if_pos he]
   have he':(e4==0)=false:=by simpa using he
   have HGD:=qa (xu HC4.out)
   rw[he'] at HGD
   clear hT he he'
   go_wp2_with fail
   refine HGD.out.mono ?_
   rintro r w' ⟨rfl,rfl⟩
   go_wp2
   go_ret
   rw[HE.out]
   exact⟨none,0,rfl,zh ..,HC4.out,HG4.out⟩
 ·
  have HR:Hid (qlq (wd:Int)=false):=ql (by omega)
  have hP:(n:Int)*(wd:Int)=((n*wd:Nat):Int):=(qar n wd).symm
  have hPb:n*wd≤2147483647*255:=vz hn (by omega)
  obtain⟨e3,he3⟩:∃e3,e3=if e2=0 then (3:Int) else e2:=⟨_,rfl⟩
  have he30:e3≠0:=by rw[he3];split <;> omega
  have HE:Hid (qed bs n wd k2 e2=([],k2,e3)):=by
   unfold Hid qed qfw
   rw[if_neg hw,←he3,qde _ _ _ _ _ he30]
   unfold qc8
   rw[if_pos he30]
  generalize hs:(n*wd+7)/8=s
  have HS:=qa hs
  have HT:=qa (qde bs k2 e3 0 (s:Int) he30)
  have hbe:(e3==0)=false:=by simpa using he30
  have HBE:=qa hbe
  have HE3:=qa he3
  clear hs he30 hbe he3
  go_wp2_with fail
  refine(qif _ false HR.out).mono ?_
  rintro r w' ⟨rfl,rfl⟩
  go_wp2_with fail
  refine(kx 3 HC2.out).mono ?_
  rintro r w3 ⟨rfl,hc3,hg3⟩
  rw[←HE3.out] at hc3
  have HC3:=qa hc3
  have HG3:=qa (HG2.out.trans hg3)
  clear hc3 hg3
  go_wp2_with fail
  refine(size_is n wd s (by omega) HS.out).mono ?_
  rintro r w' ⟨rfl,rfl⟩
  go_wp2_with fail
  refine(qgf (s:Int) HC3.out (by omega)).mono ?_
  rw[HT.out]
  rintro r w4 ⟨A4,c4,rfl,ho4,hc4,hg4⟩
  have HC4:=qa hc4
  have HG4:=qa (HG3.out.trans hg4)
  have HGD:=qa (xu hc4)
  rw[HBE.out] at HGD
  clear ho4 hc4 hg4
  go_wp2_with fail
  refine HGD.out.mono ?_
  rintro r w' ⟨rfl,rfl⟩
  go_wp2
  go_ret
  rw[HE.out]
  exact⟨none,0,rfl,zh ..,HC4.out,HG4.out⟩
theorem qma{w:World}(bs:List UInt8)(n:Nat)(b:Bool)(hl:bs=[]∨bs.length=(n+7)/8)(hb:decide (bs=[]∨qbg bs<2 ^ n)=b)(hn:n≤9223372036854775807){lo h':Nat}{A:Option Addr}{c:Nat}(h:Rd w lo h' A c (bv bs)) :
  Calls Tryz.prog 133 #[.slice A bs.length c,.int .i64 (n:Int)] w fun r w'=>r= .returned (.bool b)∧w=w':=by
 have hll:=h.len
 have hc:=h.cap
 rw[yh] at hll
 unfold maxLen at hc
 have H:=qa h
 clear h
 by_cases he:bs=[]
 ·
  subst he
  have HB:Hid (b=true):=by rw[←hb];exact qp (.inl rfl)
  clear hl hb
  go_enter Tryz.func133,Tryz.ntmps133
  go_wp2
  go_ret
  exact⟨zf HB.out.symm,rfl⟩
 ·
  have hlen:bs.length=(n+7)/8:=hl.resolve_left he
  have hp:0<bs.length:=by
   rcases jr bs.length with h0 | h0
   ·
    exact absurd (zd h0) he
   ·
    exact h0
  have hlb:bs.length≤(n+7)/8:=qek hlen
  have hne:((bs.length:Int)==0)=false:=by rw[qr];omega
  by_cases hr:n%8=0
  ·
   have HB:Hid (b=true):=by rw[←hb];exact qp (.inr (filled_all bs n hlen hr))
   have h8:((n:Int)%8==0)=true:=by rw[beq_iff_eq];omega
   clear hl hlen hr hb he
   go_enter Tryz.func133,Tryz.ntmps133
   go_wp2
   go_ret
   exact⟨zf HB.out.symm,rfl⟩
  ·
   have HF:=qa (filled_iff bs n hlen hr)
   have HB:Hid (decide (qbg bs<2 ^ n)=b):=by
    rw[←hb]
    unfold Hid
    simp[he]
   have h8:((n:Int)%8==0)=false:=by rw[qr];omega
   obtain⟨b0,off,rfl,_,_,hcell⟩:=H.out.byte (k:=bs.length-1) (by omega)
   rw[last_get bs hp] at hcell
   generalize bs.getLastD 0=x8 at *
   have hx:=zp x8
   generalize x8.toNat=x at *
   clear hl hlen hb he
   go_enter Tryz.func133,Tryz.ntmps133
   go_wp2
   go_ret
   refine⟨zf ?_,rfl⟩
   have e:(x:Int)/2 ^ (n%8)=((x/2 ^ (n%8):Nat):Int):=by push_cast;rfl
   rw[e,←HB.out,j5,beq_iff_eq,decide_eq_true_iff,←HF.out]
   omega
def qd6(ub:List UInt8)(n k:Nat)(e:Int):List Bool×Nat×Int :=
 if e≠0 then ([],k,e) else if qbg ub<2 ^ n then (qi3 ub n,k,0) else ([],k,3)
def qcj(bs:List UInt8)(k:Nat)(e most:Int):List Bool×Nat×Int :=
 qd6 (jy bs (j8 bs k e most).2.1 (j8 bs k e most).2.2 0 ((((j8 bs k e most).1+7)/8:Nat):Int)).1 (j8 bs k e most).1
  (jy bs (j8 bs k e most).2.1 (j8 bs k e most).2.2 0 ((((j8 bs k e most).1+7)/8:Nat):Int)).2.1
  (jy bs (j8 bs k e most).2.1 (j8 bs k e most).2.2 0 ((((j8 bs k e most).1+7)/8:Nat):Int)).2.2
theorem takeR_len(bs:List UInt8)(k:Nat)(e:Int)(skip:Nat)(n:Int):(jy bs k e skip n).1.length≤bs.length:=by
 unfold jy
 repeat' split
 all_goals simp
 all_goals omega
theorem takeR_none(bs:List UInt8)(k:Nat)(e:Int)(skip:Nat)(n:Int)(h:(jy bs k e skip n).2.2≠0):(jy bs k e skip n).1=[]:=by
 unfold jy at h ⊢
 repeat' split
 all_goals simp_all
theorem and_bit(x r:Nat)(hx:x<256):bits .and .u8 ((x:Int)/2 ^ r) 1=((x/2 ^ r%2:Nat):Int):=by
 have h1:x/2 ^ r≤x:=Nat.div_le_self _ _
 have e:(x:Int)/2 ^ r=((x/2 ^ r:Nat):Int):=by push_cast;rfl
 have h2:=u8_and_nat (x/2 ^ r) 1 (by omega) (by omega)
 rw[Nat.and_one_is_mod] at h2
 rw[e]
 exact h2
theorem row_bit(ub:List UInt8)(j x:Nat)(hj:j/8<ub.length)(hx:ub[j/8].toNat=x):(((x/2 ^ (j%8)%2:Nat):Int)==1)=getB ub j:=by
 unfold getB
 rw[getN_byte ub j hj,hx,j5,beq_iff_eq,beq_iff_eq]
 omega
theorem qm5{w:World}{lo g k:Nat}{bs:List UInt8}{e:Int}(most:Int)(hm:most≤9223372036854775807)(h:vw w lo g bs k e)(hb:bs.length≤1000000000000) :
  Calls Tryz.prog 88 #[cp g,.int .i64 most] w fun r w'=>∃A c,r= .returned (.slice A (qcj bs k e most).1.length c)∧w'.ownsRow w.heap.size 4 1 (.slice A (qcj bs k e most).1.length c) (qcj bs k e most).1.length (lv (qcj bs k e most).1)∧
   vw w' lo g bs (qcj bs k e most).2.1 (qcj bs k e most).2.2∧w.grownBy w' (some g):=by
 have hgl:=h.lt
 have HM:=qa (qgm most h)
 have hmle:=qd4 bs k e most
 unfold qcj
 generalize j8 bs k e most=M at *
 obtain⟨n,k1,e1⟩:=M
 dsimp only at HM hmle ⊢
 have hn:n≤9223372036854775807:=by omega
 generalize hs:(n+7)/8=s
 have HSZ:=fun w1:World=>qa (bsize_any (w:=w1) n s hn hs)
 have HBY:=fun(w1:World) (h1:vw w1 lo g bs k1 e1)=>qa (qgf (s:Int) h1 (by omega))
 have hT:=takeR_full bs k1 e1 s
 have hTl:=takeR_len bs k1 e1 0 (s:Int)
 have hTn:=takeR_none bs k1 e1 0 (s:Int)
 generalize jy bs k1 e1 0 (s:Int)=U at *
 obtain⟨ub,k4,e4⟩:=U
 dsimp only at hT hTl hTn HBY ⊢
 have HS:=qa hs
 clear h hmle hs
 go_enter Tryz.func88,Tryz.ntmps88
 go_wp2_with fail
 refine HM.out.mono ?_
 rintro r w1 ⟨rfl,hc1,hg1⟩
 have HC1:=qa hc1
 have HG1:=qa hg1
 have s1:=hg1.size
 clear hc1 hg1
 go_wp2_with fail
 refine(HSZ w1).out.mono ?_
 rintro r w' ⟨rfl,rfl⟩
 go_wp2_with fail
 refine(HBY w1 HC1.out).out.mono ?_
 rintro r w4 ⟨A4,c4,rfl,ho4,hc4,hg4⟩
 have HO4:=qa ho4
 have HC4:=qa hc4
 have HG4:=qa (HG1.out.trans hg4)
 have s4:=hg4.size
 have hg4l:=hc4.lt
 clear ho4 hc4 hg4
 by_cases he:e4=0
 ·
  subst he
  have hul:ub.length=s:=hT rfl
  have hls:ub.length=(n+7)/8:=by rw[hul,HS.out]
  have hn8:n≤8*ub.length:=by omega
  by_cases hfl:qbg ub<2 ^ n
  ·
   have HE:Hid (qd6 ub n k4 0=(qi3 ub n,k4,0)):=by
    unfold Hid qd6
    rw[if_neg (by simp),if_pos hfl]
   have HFI:=qa (qma (w:=w4) ub n true (.inr hls) (qp (.inr hfl)) hn (Rd.own HO4.out))
   obtain⟨w5,hmake,ho5,hg5⟩:=qf3 w4 n (by omega)
   have HR5:=qa ((Rd.own HO4.out).grown hg5 (qc _) (by simp))
   have HC5:=qa (HC4.out.grown hg5 (by simp))
   have HG5:=qa (HG4.out.trans (qg6 hg5))
   have HO5:=qa ho5
   have s5:=hg5.size
   have hlsb:(n+7)/8≤ub.length:=qek hls.symm
   have hub:ub.length≤1000000000000:=by omega
   clear ho5 hg5 hul hls hT hTl hTn hfl
   go_wp2_with fail
   refine HFI.out.mono ?_
   rintro r w' ⟨rfl,rfl⟩
   go_wp2_with fail
   refine(xu HC4.out).mono ?_
   rintro r w' ⟨rfl,rfl⟩
   go_wp2_with fail
   go_loopw [29] (fun i wr=>∃(j:Nat) (xs:List Value),j≤n∧i= .int .i64 (j:Int)∧wr.ownsRow w4.heap.size 4 1 (.slice (some ⟨w4.heap.size,0,none⟩) n n) n xs∧qk0 (lv (qi3 ub n)) j xs∧w5.grownBy wr (some w4.heap.size)) (fun i _=>n-(intOf i).toNat)
   case atStart=>exact⟨0,_,qi _,rfl,HO5.out,qd9 (by rw[List.length_replicate,vk,qcw]),vc _ _⟩
   case round =>
    obtain⟨j,xs,hj,rfl,ho6,hup,hg6⟩:=hrel
    have HO6:=qa ho6
    have HUP:=qa hup
    have HG6:=qa hg6
    have s6:=hg6.size
    have HR6:=qa (HR5.out.grown hg6 s5 (fun x hx=> .inr (by injection hx with hx;omega)))
    clear ho6 hup hg6
    by_cases hlt:j<n
    ·
     have hj8:j/8<ub.length:=by omega
     obtain⟨b0,off,rfl,_,hbh,hcell⟩:=HR6.out.byte hj8
     have hfr:=HO6.out.frozenAt j
     have hxj:j<xs.length:=by rw[HUP.out.1,vk,qcw];exact hlt
     have hcx:wr.cell? ⟨w4.heap.size,j,none⟩=some xs[j]:=by
      rw[HO6.out.cellAt j (by omega),qe hxj]
     have HST:=fun u=>qa (HO6.out.stored j u)
     have hu:(lv (qi3 ub n))[j]? = some (.bool (getB ub j)):=by simp[lv,getsB_get ub n j hlt]
     have HU:=qa hu
     have hx256:=zp ub[j/8]
     have HRB:=qa (row_bit ub j _ hj8 rfl)
     generalize xs[j]=x0 at *
     generalize ub[j/8].toNat=x at *
     have hand:=and_bit x (j%8) hx256
     have hj8':(j:Int)/8=((j/8:Nat):Int):=by omega
     have hj8m:(j:Int)%8=((j%8:Nat):Int):=by omega
     have hj8t:(j:Int).tmod 8=((j%8:Nat):Int):=by rw[qal (by omega)];omega
     have hr8:j%8<8:=qak _ (by decide)
     clear hu
     generalize j/8=q at *
     generalize j%8=r at *
     have hqw:IntKind.i64.wrap (q:Int)=(q:Int):=z8 _ (by omega)
     have hrw:IntKind.i64.wrap (r:Int)=(r:Int):=z8 _ (by omega)
     go_wp2
     go_roundw
     case rel =>
      have e:((x:Int)/2 ^ r%2==1)=getB ub j:=by
       rw[←HRB.out]
       push_cast
       rfl
      rw[e]
      exact⟨j+1,_,by omega,by go_num,(HST _).out.1,qay HUP.out _ HU.out,HG6.out.trans (HST _).out.2⟩
     case measure=>simp[intOf];omega
    ·
     obtain rfl:j=n:=by omega
     have hall:=qe1 HUP.out (by rw[vk,qcw];exact qc _)
     have hoL:=HO6.out
     rw[hall] at hoL
     have HOL:=qa hoL
     have HC6:=qa (HC5.out.grown HG6.out (fun x hx=> .inr (by injection hx with hx;omega)))
     have HG7:=qa (gb_more HG5.out HG6.out (by omega))
     have hlen:(qi3 ub j).length=j:=qcw _ _
     have HLEN:=qa hlen
     clear hall hoL hlen
     go_wp2
     go_ret
     rw[HE.out]
     exact⟨_,_,by rw[HLEN.out];rfl,by rw[HLEN.out];exact j4 HOL.out (by omega),HC6.out,HG7.out⟩
  ·
   have HE:Hid (qd6 ub n k4 0=([],k4,3)):=by
    unfold Hid qd6
    rw[if_neg (by simp),if_neg hfl]
   have hne:ub≠[]:=by
    rintro rfl
    apply hfl
    have:=qej n
    simpa[qbg] using this
   have HFI:=qa (qma (w:=w4) ub n false (.inr hls) (ql (fun h=>h.elim hne hfl)) hn (Rd.own HO4.out))
   clear hul hls hT hTl hTn hfl hne
   go_wp2_with fail
   refine HFI.out.mono ?_
   rintro r w' ⟨rfl,rfl⟩
   go_wp2_with fail
   refine(kx 3 HC4.out).mono ?_
   rintro r w5 ⟨rfl,hc5,hg5⟩
   rw[if_pos rfl] at hc5
   have HC5:=qa hc5
   have HG5:=qa (HG4.out.trans hg5)
   clear hc5 hg5
   go_wp2_with fail
   refine(xu HC5.out).mono ?_
   rintro r w' ⟨rfl,rfl⟩
   go_wp2
   go_ret
   rw[HE.out]
   exact⟨none,0,rfl,zh ..,HC5.out,HG5.out⟩
 ·
  have HE:Hid (qd6 ub n k4 e4=([],k4,e4)):=by
   unfold Hid qd6
   rw[if_pos he]
  have hue:ub=[]:=hTn he
  subst hue
  have HFI:=qa (qma (w:=w4) [] n true (.inl rfl) (qp (.inl rfl)) hn (Rd.own HO4.out))
  have he':(e4==0)=false:=by simpa using he
  have HGD:=qa (xu HC4.out)
  rw[he'] at HGD
  clear hT hTl hTn he he'
  go_wp2_with fail
  refine HFI.out.mono ?_
  rintro r w' ⟨rfl,rfl⟩
  go_wp2_with fail
  refine HGD.out.mono ?_
  rintro r w' ⟨rfl,rfl⟩
  go_wp2
  go_ret
  rw[HE.out]
  exact⟨none,0,rfl,zh ..,HC4.out,HG4.out⟩
def qod(bs:List UInt8)(k:Nat)(e:Int):Int:=if e≠0 then e else if k<bs.length then 2 else 0
theorem end_any{w:World}{lo g k:Nat}{bs:List UInt8}{e:Int}(h:vw w lo g bs k e) :
  Calls Tryz.prog 50 #[cp g] w fun r w'=>r= .returned (.int .i64 (qod bs k e))∧∃n,w.drewN n=w':=by
 have H:=qa h
 have hk:=h.le
 obtain⟨A,c,h0,h1,h2, -, -, -, -⟩:=h.open_
 have HG:=qa (xu h)
 clear h h0 h1
 unfold cp at *
 by_cases he:e=0
 ·
  subst he
  by_cases hl:k<bs.length
  ·
   rw[show qod bs k 0=2 from by simp[qod,hl]]
   go_enter Tryz.func50,Tryz.ntmps50
   go_wp2_with (first | (go_at_call 85;refine HG.out.mono ?_;rintro e w' ⟨rfl,rfl⟩) | (go_at_call 93;refine(qey H.out).mono ?_;rintro e w' ⟨rfl,⟨m,rfl⟩⟩))
   all_goals go_ret
   all_goals exact⟨rfl,_,rfl⟩
  ·
   rw[show qod bs k 0=0 from by simp[qod,hl]]
   go_enter Tryz.func50,Tryz.ntmps50
   go_wp2_with (first | (go_at_call 85;refine HG.out.mono ?_;rintro e w' ⟨rfl,rfl⟩) | (go_at_call 93;refine(qey H.out).mono ?_;rintro e w' ⟨rfl,⟨m,rfl⟩⟩))
   all_goals go_ret
   all_goals exact⟨rfl,_,rfl⟩
 ·
  rw[show qod bs k e=e from by simp[qod,he]]
  have he':(e==0)=false:=by simpa using he
  rw[he'] at HG
  clear he he'
  go_enter Tryz.func50,Tryz.ntmps50
  go_wp2_with (first | (go_at_call 85;refine HG.out.mono ?_;rintro e w' ⟨rfl,rfl⟩) | (go_at_call 93;refine(qey H.out).mono ?_;rintro e w' ⟨rfl,⟨m,rfl⟩⟩))
  go_ret
  exact⟨rfl,0,rfl⟩
end Go.Proofs.YtnjkipnklpkaoaaGreat
