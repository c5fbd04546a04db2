/-
  Lemmas.
-/
import Derived.Test.YtjfecojdagmacaaGreatD14
import Derived.Test.YtjfecojdagmacaaGreatD30
namespace Go.Proofs.YtjfecojdagmacaaGreat
open Go.RowKit
set_option maxRecDepth 20000
set_option maxHeartbeats 16000000
set_option linter.unusedSimpArgs false
set_option linter.unusedVariables false
theorem refTrain_any{w:World}(S:List ByteArray)(N:Int){d:Nat}{B:Option Addr}(hS:Rd w 0 w.heap.size B d (sv S))(hSl:S.length≤100)(hSb:∀s∈S,s.size≤100000)(hbag:∀T,(qfc T (qm S)).length≤1000000) :
  Calls Tryz.prog 120 #[.slice B S.length d,.int .i64 N] w fun r w'=>∃t A' c',r= .returned (.slice A' t.length c')∧qba (qm S) (qb3 N) t∧w'.ownsRow w.heap.size 9 1 (.slice A' t.length c') t.length (sv (yj t))∧Below w.heap.size w w':=by
 have HS:=qa hS
 have HBG:=qa hbag
 have HSB:=qa hSb
 clear hS hbag hSb
 go_enter Tryz.func120,Tryz.ntmps120
 go_wp2_with fail
 go_loopw [5,6] (fun x5 x6 wr=>∃(i:Nat) (t:List (List UInt8)) (A':Option Addr) (c':Nat),i≤qb3 N∧x6= .int .i64 (i:Int)∧x5= .slice A' t.length c'∧qba (qm S) i t∧wr.ownsRow w.heap.size 9 1 (.slice A' t.length c') t.length (sv (yj t))∧Below w.heap.size w wr) (fun _ x6 _=>8-(intOf x6).toNat)
 case atStart=>exact⟨0,[],none,0,qi _,rfl,rfl,rfl,zf _ _ _ _,Below.refl _ _⟩
 case round =>
  obtain⟨i,t,A',c',hi,rfl,rfl,htr,hown,hb⟩:=hrel
  have HT:=qa htr
  have HO:=qa hown
  have HB:=qa hb
  have hsz:=hb.size
  clear htr hown hb
  unfold qb3 at hi
  by_cases hN:(i:Int)<N
  ·
   by_cases h8:(i:Int)<8
   ·
    have hgo:i+1≤qb3 N:=by unfold qb3;split <;> omega
    have hr1:=rd_own HO.out
    have hok:=HT.out.ok
    have hbt:=kx t
    have hsl:=yv t
    have HRN:=qa (refRound_any (w:=wr) (yj t) S (c:=c') (d:=d) (A:=A') (B:=B) (by exact hr1.wide (qi _) (qc _)) ((HS.out.below HB.out (qc _)).wide (qc _) hsz) (by rw[hbt];exact hok.1) (by rw[hsl];exact hok.2) hSl HSB.out (HBG.out _))
    rw[hbt,hsl] at HRN
    clear hr1 hok hbt hsl hi
    go_wp2_with fail
    refine HRN.out.mono ?_
    rintro r w2 ⟨u,A2,c2,rfl,hrd,ho2,hb2⟩
    have HT2:Hid (qba (qm S) (i+1) u):=⟨t,HT.out,hrd⟩
    have HO2:=qa (jm ho2 hsz)
    have HB2:Hid (Below w.heap.size w w2):=HB.out.trans (hb2.mono hsz)
    clear hrd ho2 hb2
    go_wp2_with fail
    go_roundw
    case rel=>exact⟨i+1,u,A2,c2,hgo,by go_num,rfl,HT2.out,HO2.out,HB2.out⟩
    case measure=>simp[intOf] <;> omega
   ·
    have hfin:Hid (i=qb3 N):=by unfold Hid qb3;split at hi <;> (split <;> omega)
    go_wp2_with fail
    go_ret
    exact⟨t,A',c',rfl,by rw[←hfin.out];exact HT.out,HO.out,HB.out⟩
  ·
   have hfin:Hid (i=qb3 N):=by unfold Hid qb3;split at hi <;> (split <;> omega)
   go_wp2_with fail
   go_ret
   exact⟨t,A',c',rfl,by rw[←hfin.out];exact HT.out,HO.out,HB.out⟩
theorem uk(l:List Vl):(xk l).length=l.length:=by simp[xk]
theorem texts_cnt:∀l:List Vl,(qu l).length=cnt (xk l)
 | []=>rfl
 | v :: l=>by
  have ih:=texts_cnt l
  unfold qu xk cnt at *
  cases hn:v.null <;> simp_all[List.filter_cons]
theorem qpi:∀ {l:List Vl},(∀v∈l,qmf v)→xz (xk l) ((qu l).map (Vl.mk false)) ⟨true,⟨#[]⟩⟩=l
 | [],_=>rfl
 | v :: l,h=>by
  have ih:=qpi (l:=l) fun x hx=>h x (j5 _ hx)
  obtain⟨b,s⟩:=v
  cases b with
  | true =>
   have hs:s=⟨#[]⟩:=(h ⟨true,s⟩ je).2 rfl
   subst hs
   show xz (false :: xk l) ((qu l).map (Vl.mk false)) ⟨true,⟨#[]⟩⟩=_
   cases hl:(qu l).map (Vl.mk false) with
   | nil=>rw[hl] at ih;rw[xz,ih]
   | cons a t=>rw[hl] at ih;rw[xz,ih]
  | false =>
   show xz (true :: xk l) (Vl.mk false s :: (qu l).map (Vl.mk false)) ⟨true,⟨#[]⟩⟩=_
   rw[xz,ih]
theorem dicS_is{S t:List (List UInt8)}(h:qaj S t):qj5 S=t:=(Classical.epsilon_spec (p:=qaj S) ⟨t,h⟩).one h
theorem tabS_is{S:List ByteArray}{o:Co}{t:List (List UInt8)}(h:qba (qm (jx S o.draws)) (qb3 o.rounds) t):ue S o=t :=
 (Classical.epsilon_spec (p:=fun t=>qba (qm (jx S o.draws)) (qb3 o.rounds) t) ⟨t,h⟩).one h
theorem qg9(S:List ByteArray){o:Co}(h:qa2 o):y8 S o=1∨y8 S o=2∨y8 S o=3:=by
 obtain⟨h1,h2, -⟩:=h
 unfold y8 qli
 repeat' split
 all_goals omega
noncomputable def qee (l:List Vl)(o:Co):List UInt8:=UInt8.ofNat (y8 (qu l) o).toNat :: (xi (xk l)++yo (qu l) o (y8 (qu l) o))
theorem qny{w2:World}(l:List ByteArray)(s:ByteArray)(k:Nat){lo hi c:Nat}{A:Option Addr}(h:Rd w2 lo hi A c (sv l))(h8:∀t∈l,t.size≤8)(hs:s.size≤100000)(hln:l.length≤255)(v:Int×Nat)(hv:qdu (qm l) (s.data.toList.drop k)=v) :
  Calls Tryz.prog 161 #[.slice A l.length c,.string (s.extract k s.size)] w2 fun r w'=>r= .returned (.tuple #[.int .i64 v.1,.int .i64 (v.2:Int)])∧∃m,w'=w2.drewN m:=by
 have h1:=qky (w:=w2) l (s.extract k s.size) h (fun t ht=>zb (h8 t ht) (by omega)) (by rw[yt];omega) (by omega)
 rw[tailS] at h1
 rw[←hv]
 exact h1
theorem refEncode_any{w:World}(l:List ByteArray)(s:ByteArray){c:Nat}{A:Option Addr}(h:Rd w 0 w.heap.size A c (sv l))(h8:∀t∈l,t.size≤8)(hln:l.length≤255)(hs:s.size≤100000) :
  Calls Tryz.prog 123 #[.slice A l.length c,.string s] w fun r w'=>∃A' c',r= .returned (.slice A' (kn (qm l) s.data.toList).length c')∧
   w'.ownsRow w.heap.size 5 1 (.slice A' (kn (qm l) s.data.toList).length c') (kn (qm l) s.data.toList).length (bv (kn (qm l) s.data.toList))∧Below w.heap.size w w':=by
 have H:=qa h
 have H8:=qa h8
 clear h h8
 obtain⟨v,hv⟩:∃v,kn (qm l) s.data.toList=v:=⟨_,rfl⟩
 rw[hv]
 have HV:=qa hv
 clear hv
 have HSL:=qa (qgi s)
 have HTL:Hid ((qm l).length=l.length):=qv l
 go_enter Tryz.func123,Tryz.ntmps123
 go_wp2_with fail
 go_loopw [5,6] (fun x5 x6 wr=>∃(k:Nat) (ys:List UInt8) (A':Option Addr) (c':Nat),k≤s.size∧x6= .int .i64 (k:Int)∧x5= .slice A' ys.length c'∧ys.length≤2*k∧ys++kn (qm l) (s.data.toList.drop k)=v∧
  wr.ownsRow w.heap.size 5 1 (.slice A' ys.length c') ys.length (bv ys)∧Below w.heap.size w wr) (fun _ i _=>s.size-(intOf i).toNat)
 case atStart=>exact⟨0,[],none,0,qi _,rfl,rfl,qi _,by rw[jy,HV.out];rfl,zf _ _ _ _,Below.refl _ _⟩
 case round =>
  obtain⟨k,ys,A',c',hk,rfl,rfl,hyl,hys,hown,hb⟩:=hrel
  have HYS:=qa hys
  have HO:=qa hown
  have HB:=qa hb
  have hsz:=hb.size
  clear hys hown hb
  by_cases hlt:k<s.size
  ·
   have ik:(k:Int)<(s.size:Int):=by omega
   have HDR:=qa (dropS hlt)
   rcases qdy (qm l) (s.data.toList.drop k) with hp | ⟨j,t,hj,hp,hn0,hpre⟩
   ·
    have HLG:=qa (fun w2 (hb2:Below w.heap.size w w2)=>qny (w2:=w2) l s k (H.out.below hb2 (qc _)) H8.out hs hln _ hp)
    have HEQ:Hid (kn (qm l) (s.data.toList.drop k)=255 :: s[k] :: kn (qm l) (s.data.toList.drop (k+1))):=by
     unfold Hid
     have hp2:=hp
     rw[HDR.out] at hp2
     rw[HDR.out,enc_esc hp2]
    clear hp
    have lx:s[k].toNat<256:=jj _
    go_wp2_with fail
    refine(HLG.out _ (by first | exact HB.out | exact zj HB.out _)).mono ?_
    rintro r w1 ⟨rfl,m,rfl⟩
    have hb1:Below w.heap.size w (wr.drewN m):=zj HB.out m
    have ho1:(wr.drewN m).ownsRow w.heap.size 5 1 (.slice A' ys.length c') ys.length (bv ys):=jv HO.out (fun _ _=>rfl)
    have hz1:w.heap.size≤(wr.drewN m).heap.size:=hb1.size
    generalize wr.drewN m=w1 at *
    have hlit:(w1.alloc (.cells #[.int .u8 255,.int .u8 (s[k].toNat:Int)] 5)).ownsRow w1.heap.size 5 1 (.slice (some ⟨w1.heap.size,0,none⟩) 2 2) 2 (bv [255,s[k]]):=qlw w1 [255,s[k]] #[.int .u8 255,.int .u8 (s[k].toNat:Int)] rfl (by simp)
    obtain⟨A3,c3,w3,hrun,hown3,hg3⟩:=j9 _ w.heap.size _ ys [255,s[k]] (ys++[255,s[k]]) rfl (ho1.alloc _) (Rd.own hlit) (by simp;omega) (by simp;omega)
    have hb3:Below w.heap.size w w3:=(hb1.alloc hz1 _).grown hg3 (by simp;omega) (fun q hq=>(zk ho1 hq).1)
    have hrun2:(Builtin.append_ #[36,36] 36 #[.slice A' ys.length c',.slice (some ⟨w1.heap.size,0,none⟩) 2 2]).run Tryz.prog (w1.alloc (.cells #[.int .u8 255,.int .u8 (s[k].toNat:Int)] 5))= .ok (.slice A3 (ys++[255,s[k]]).length c3) w3:=hrun
    have HRUN:=qa hrun2
    have HO3:=qa hown3
    have HB3:=qa hb3
    clear hrun hrun2 hown3 hb3 hg3 hb1 ho1 hlit
    go_wp2_with (at_builtin;refine wpList_append_run rfl _ _ _ _ rfl rfl rfl HRUN.out ?_)
    go_roundw
    case rel =>
     refine⟨k+1,ys++[255,s[k]],A3,c3,by omega,by go_num,by first | rfl | (rw[qd];rfl),by rw[qd,qw,qw,j4];omega,?_,HO3.out,HB3.out⟩
     rw[qp,←HYS.out,HEQ.out]
     rfl
    case measure=>simp[intOf] <;> omega
   ·
    have HLG:=qa (fun w2 (hb2:Below w.heap.size w w2)=>qny (w2:=w2) l s k (H.out.below hb2 (qc _)) H8.out hs hln _ hp)
    have hjl:j<l.length:=by
     have:=(zw.1 hj).1
     rwa [qv] at this
    have hnl:=hpre.length_le
    rw[qy,HSL.out] at hnl
    have HEQ:Hid (kn (qm l) (s.data.toList.drop k)=UInt8.ofNat j :: kn (qm l) (s.data.toList.drop (k+t.length))):=by
     unfold Hid
     rw[enc_code hp hn0,jh]
    clear hp hj hpre HTL HDR
    generalize t.length=n at *
    have j0:(0:Int)≤(j:Int):=by omega
    have j1:(j:Int)<256:=by omega
    have hbs:(UInt8.ofNat j).toNat=j:=by simp;omega
    go_wp2_with fail
    refine(HLG.out _ (by first | exact HB.out | exact zj HB.out _)).mono ?_
    rintro r w1 ⟨rfl,m,rfl⟩
    have hb1:Below w.heap.size w (wr.drewN m):=zj HB.out m
    have ho1:(wr.drewN m).ownsRow w.heap.size 5 1 (.slice A' ys.length c') ys.length (bv ys):=jv HO.out (fun _ _=>rfl)
    have hz1:w.heap.size≤(wr.drewN m).heap.size:=hb1.size
    generalize wr.drewN m=w1 at *
    have HO1:=qa ho1
    have HB1:=qa hb1
    clear ho1 hb1
    go_wp2_with (at_builtin;refine qa3 (v:= .slice A' ys.length c') w.heap.size ys (UInt8.ofNat j) rfl _ _ rfl rfl rfl rfl (by rw[hbs,zg _ _ _ _ rfl];rfl) (HO1.out.alloc _) (by omega) (by simp;omega) ?_;intro A2 c2 w2 ho2 hg2)
    go_roundw
    case rel =>
     refine⟨k+n,ys++[UInt8.ofNat j],A2,c2,by omega,by go_num,by rw[qd];rfl,by rw[qd,qw,j4];omega,?_,ho2,(HB1.out.alloc hz1 _).grown hg2 (by simp;omega) (fun q hq=>(zk HO1.out hq).1)⟩
     rw[qp,←HYS.out,HEQ.out]
     rfl
    case measure=>simp[intOf] <;> omega
  ·
   have ik:¬(k:Int)<(s.size:Int):=by omega
   have hfin:ys=v:=by
    rw[←HYS.out,qdp (by rw[HSL.out];omega),enc_nil,jb]
   have HF:=qa hfin
   clear hfin
   go_wp2_with fail
   go_ret
   exact⟨A',c',by rw[←HF.out];rfl,by rw[←HF.out];exact HO.out,HB.out⟩
theorem qlf(d:Array (List UInt8))(hs:∀i j,i<j→j<d.size→yl d[i]! d[j]! ≤0):∀m,m≤d.size→
  xc (Lib.compactUpTo d m)=true∧(∀x∈Lib.compactUpTo d m,∃j,j<m∧x=d[j]!)∧∀j,j<m→d[j]! ∈Lib.compactUpTo d m
 | 0,_=>⟨rfl,fun x hx=>(by cases hx),fun j hj=>absurd hj (ja j)⟩
 | m+1,hm=>by
  obtain⟨h1,h2,h3⟩:=qlf d hs m (by omega)
  rw[Lib.compactUpTo_succ]
  by_cases hk:Lib.keeps d m=true
  ·
   rw[if_pos hk]
   have hk2:m=0∨d[m]! ≠d[m-1]!:=by simpa[Lib.keeps] using hk
   refine⟨qm3 h1 fun x hx => ?_,fun x hx => ?_,fun j hj => ?_⟩
   ·
    obtain⟨j,hj,rfl⟩:=h2 x hx
    have hne:d[m]! ≠d[m-1]!:=by
     rcases hk2 with h | h
     ·
      omega
     ·
      exact h
    have ha:yl d[j]! d[m-1]! ≤0:=by
     by_cases e:j=m-1
     ·
      rw[e,qcy];omega
     ·
      exact hs j (m-1) (by omega) (by omega)
    have hb:yl d[m-1]! d[m]!<0:=by
     have h4:=hs (m-1) m (by omega) (by omega)
     have h5:yl d[m-1]! d[m]! ≠0:=fun e=>hne (qbq e).symm
     omega
    by_cases e:yl d[j]! d[m-1]! = 0
    ·
     rw[qbq e];exact hb
    ·
     exact um (by omega) hb
   ·
    rcases zm.1 hx with hx | hx
    ·
     obtain⟨j,hj,rfl⟩:=h2 x hx
     exact⟨j,by omega,rfl⟩
    ·
     exact⟨m,by omega,ze.1 hx⟩
   ·
    by_cases e:j=m
    ·
     subst e;exact qce _ (ze.2 rfl)
    ·
     exact List.mem_append_left _ (h3 j (by omega))
  ·
   rw[if_neg hk,jb]
   have hk2:¬(m=0∨d[m]! ≠d[m-1]!):=by simpa[Lib.keeps] using hk
   have hm0:m≠0:=fun e=>hk2 (.inl e)
   have hme:d[m]! = d[m-1]!:=Decidable.not_not.1 fun e=>hk2 (.inr e)
   refine⟨h1,fun x hx => ?_,fun j hj => ?_⟩
   ·
    obtain⟨j,hj,rfl⟩:=h2 x hx
    exact⟨j,by omega,rfl⟩
   ·
    by_cases e:j=m
    ·
     subst e;rw[hme];exact h3 _ (by omega)
    ·
     exact h3 j (by omega)
theorem open_plain{w:World}{lo g k:Nat}{bs:List UInt8}(h:vx w lo g bs k 0)(hb:bs.length≤1000000000)(h1:bs[k]? = some 1) :
  Calls Tryz.prog 87 #[cp g] w fun r w'=>∃G,r= .returned (.pointer (some ⟨G,0,none⟩))∧w.heap.size≤G∧qcv w' w.heap.size G (qby bs k 0).1∧vx w' lo g bs (qby bs k 0).2.1 (qby bs k 0).2.2∧w.grownBy w' (some g):=by
 refine open_vW h hb fun kd hkd => ?_
 have hlt:k<bs.length:=(zw.1 h1).1
 have hv:bs[k]=1:=(zw.1 h1).2
 rw[qeq hlt,hv] at hkd
 subst hkd
 exact fun {w G k c0 e} there {A0} h1 h2 h3 h4 h5 h6 h7 _=>take_one there h1 h2 h3 h4 h5 h6 h7
theorem qhl{α:Type}(P:α→Prop):∀(t:List Bool) (l:List α) (d:α),P d→(∀x∈l,P x)→∀x∈xz t l d,P x
 | [],l,d,hd,hl,x,hx=>by cases l <;> cases hx
 | true :: t,[],d,hd,hl,x,hx=>by
  rw[xz] at hx
  rcases z7.1 hx with rfl | hx
  ·
   exact hd
  ·
   exact qhl P t [] d hd hl x hx
 | true :: t,a :: l,d,hd,hl,x,hx=>by
  rw[xz] at hx
  rcases z7.1 hx with rfl | hx
  ·
   exact hl _ je
  ·
   exact qhl P t l d hd (fun y hy=>hl y (j5 _ hy)) x hx
 | false :: t,l,d,hd,hl,x,hx=>by
  have h:x∈d :: xz t l d:=by cases l <;> simpa[xz] using hx
  rcases z7.1 h with rfl | hx
  ·
   exact hd
  ·
   exact qhl P t l d hd hl x hx
theorem vals_fits{c:Chk}(h:ChkOk c):kr (qbw c):=by
 refine⟨by rw[qe3];exact h.few,?_⟩
 refine qhl qmf _ _ _ ⟨qi _,fun _=>rfl⟩ fun x hx => ?_
 obtain⟨s,hs,rfl⟩:=zl.1 hx
 exact⟨qlr h s hs,fun h=>by cases h⟩
theorem cstep_zero{c:BitVec 32}(h:qhi c=0#32):c=0#32:=by
 apply qa9
 by_cases h1:c.toNat%2=1
 ·
  have h2:=cstep_odd h1
  rw[h] at h2
  have h3:(0#32:BitVec 32).toNat=0:=rfl
  rw[h3] at h2
  have h4:c.toNat/2=3988292384:=by
   have:=congrArg (· ^^^ 3988292384) h2
   simp only[Nat.zero_xor,Nat.xor_assoc,Nat.xor_self,Nat.xor_zero] at this
   exact this.symm
  have:=c.isLt
  omega
 ·
  have h2:=qnj (s:=c) (by omega)
  rw[h] at h2
  have h3:(0#32:BitVec 32).toNat=0:=rfl
  rw[h3] at h2 ⊢
  omega
theorem xor_zero_eq{a b:BitVec 32}(h:a ^^^ b=0#32):a=b:=by
 have:=congrArg (· ^^^ b) h
 simpa[qdv] using this
theorem cstep_inj{a b:BitVec 32}(h:qhi a=qhi b):a=b :=
 xor_zero_eq (cstep_zero (by rw[cstep_xor,h,BitVec.xor_self]))
theorem cstepN_inj(n:Nat){a b:BitVec 32}(h:qaz n a=qaz n b):a=b:=by
 induction n with
 | zero=>exact h
 | succ n ih=>exact ih (cstep_inj h)
theorem qix{a b c:BitVec 32}(h:a ^^^ c=b ^^^ c):a=b:=by
 have:=congrArg (· ^^^ c) h
 simpa[qdv] using this
theorem xor_left_inj{a b c:BitVec 32}(h:c ^^^ a=c ^^^ b):a=b:=by
 rw[BitVec.xor_comm c a,BitVec.xor_comm c b] at h
 exact qix h
theorem cbyte_inj{x y:UInt8}(h:qfl x=qfl y):x=y:=by
 have h1:=congrArg BitVec.toNat h
 unfold qfl at h1
 rw[kt,kt] at h1
 have hx:=jj x
 have hy:=jj y
 apply qbd.1
 omega
theorem cupd_inj_s{a b:BitVec 32}{x:UInt8}(h:qo8 a x=qo8 b x):a=b:=qix (cstepN_inj 8 h)
theorem cupd_inj_x{s:BitVec 32}{x y:UInt8}(h:qo8 s x=qo8 s y):x=y:=cbyte_inj (xor_left_inj (cstepN_inj 8 h))
theorem cfold_inj(l:List UInt8):∀ {a b:BitVec 32},qbm a l=qbm b l→a=b:=by
 induction l with
 | nil=>intro a b h;exact h
 | cons x l ih=>intro a b h;exact cupd_inj_s (ih (a:=qo8 a x) (b:=qo8 b x) h)
theorem crcL_inj_at(a b:List UInt8)(x y:UInt8):qcp (a++[x]++b)=qcp (a++[y]++b)↔x=y:=by
 refine⟨fun h => ?_,fun h=>by rw[h]⟩
 have h1:=qix h
 rw[qge,qge _ (a++[y]),qj7,qj7] at h1
 exact cupd_inj_x (cfold_inj b h1)
theorem crcB_inj{a b:BitVec 32}(h:qhe a=qhe b):a=b:=by
 have ha:=a.isLt
 have hb:=b.isLt
 unfold qhe at h
 injection h with h1 h
 injection h with h2 h
 injection h with h3 h
 injection h with h4 h
 have e1:=congrArg UInt8.toNat h1
 have e2:=congrArg UInt8.toNat h2
 have e3:=congrArg UInt8.toNat h3
 have e4:=congrArg UInt8.toNat h4
 rw[qdj (by omega),qdj (by omega)] at e1
 rw[qdj (by omega),qdj (by omega)] at e2
 rw[qdj (by omega),qdj (by omega)] at e3
 rw[qdj (by omega),qdj (by omega)] at e4
 apply qa9
 omega
theorem cstep8_shl{b:Nat}(h:b<16777216):vz (BitVec.ofNat 32 (256*b))=BitVec.ofNat 32 b:=by
 apply qa9
 rw[qn9 (m:=b) (by rw[kt];omega),kt]
 omega
theorem res1(a:BitVec 32){b:Nat}(h:b<16777216):vz a ^^^ BitVec.ofNat 32 b=vz (a ^^^ BitVec.ofNat 32 (256*b)):=by
 rw[cstep8_xor,cstep8_shl h]
theorem qob{n:Nat}(h:n<256):qfl (UInt8.ofNat n)=BitVec.ofNat 32 n:=by
 unfold qfl;rw[qdj h]
theorem xor_ofNat4(f:Nat)(h:f<4294967296):(f%256) ^^^ (256*(f/256%256)) ^^^ (65536*(f/65536%256)) ^^^ (16777216*(f/16777216))=f:=by
 have h1:=qn5 f
 have h2:=qn5 (f/256)
 have h3:=qn5 (f/65536)
 have e2:f/256/256=f/65536:=by omega
 have e3:f/65536/256=f/16777216:=by omega
 rw[e2] at h2
 rw[e3] at h3
 have m:∀a b:Nat,256*(a ^^^ b)=(256*a) ^^^ (256*b):=by
  intro a b
  have:=Nat.shiftLeft_xor_distrib (a:=a) (b:=b) (i:=8)
  simp only[qay] at this
  rw[xe 256,xe 256,xe 256]
  exact this
 have q3:65536*(f/65536)=(65536*(f/65536%256)) ^^^ (16777216*(f/16777216)):=by
  have e:65536*(f/65536)=256*(256*(f/65536)):=by omega
  rw[e]
  conv=>lhs;rw[←h3]
  rw[m,m]
  congr 1 <;> omega
 have q2:256*(f/256)=(256*(f/256%256)) ^^^ (65536*(f/65536)):=by
  conv=>lhs;rw[←h2]
  rw[m]
  congr 1
  omega
 conv=>rhs;rw[←h1,q2,q3]
 simp only[Nat.xor_assoc]
theorem word_bytes(f:BitVec 32):f=BitVec.ofNat 32 (f.toNat%256) ^^^ BitVec.ofNat 32 (256*(f.toNat/256%256)) ^^^ BitVec.ofNat 32 (65536*(f.toNat/65536%256)) ^^^ BitVec.ofNat 32 (16777216*(f.toNat/16777216)):=by
 rw[←qlz,←qlz,←qlz,xor_ofNat4 _ f.isLt]
 apply qa9
 rw[kt,vc f.isLt]
theorem cfold_four(s:BitVec 32)(f0 f1 f2 f3:Nat)(h1:f1<256)(h2:f2<256)(h3:f3<256) :
  vz (vz (vz (vz (s ^^^ BitVec.ofNat 32 f0) ^^^ BitVec.ofNat 32 f1) ^^^ BitVec.ofNat 32 f2) ^^^ BitVec.ofNat 32 f3) =
   vz (vz (vz (vz (s ^^^ (BitVec.ofNat 32 f0 ^^^ BitVec.ofNat 32 (256*f1) ^^^ BitVec.ofNat 32 (65536*f2) ^^^ BitVec.ofNat 32 (16777216*f3)))))):=by
 rw[res1 (s ^^^ BitVec.ofNat 32 f0) (b:=f1) (by omega)]
 rw[res1 (vz _) (b:=f2) (by omega),res1 _ (b:=256*f2) (by omega)]
 rw[res1 (vz (vz _)) (b:=f3) (by omega),res1 (vz _) (b:=256*f3) (by omega),res1 _ (b:=256*(256*f3)) (by omega)]
 have e2:256*(256*f2)=65536*f2:=by omega
 have e3:256*(256*(256*f3))=16777216*f3:=by omega
 rw[e2,e3]
 simp only[qdv]
theorem cfold_sum(s f:BitVec 32):qbm s (qhe f)=vz (vz (vz (vz (s ^^^ f)))):=by
 have hf:=f.isLt
 show vz (vz (vz (vz (s ^^^ qfl _) ^^^ qfl _) ^^^ qfl _) ^^^ qfl _)=_
 rw[qob (by omega),qob (by omega),qob (by omega),qob (by omega),cfold_four _ _ _ _ _ (by omega) (by omega) (by omega),←word_bytes]
theorem crcL_seal(l:List UInt8):qcp (vo l)=vz (vz (vz (vz qci))) ^^^ qci:=by
 unfold vo qcp
 rw[qge,cfold_sum,←qdv,BitVec.xor_self,BitVec.zero_xor]
theorem crcL_seal_eq(a b:List UInt8):qcp (vo a)=qcp (vo b):=by rw[crcL_seal,crcL_seal]
theorem set_parts{l:List UInt8}{k:Nat}(h:k<l.length)(y:UInt8):l.set k y=l.take k++[y]++l.drop (k+1):=by
 rw[List.set_eq_take_append_cons_drop,if_pos h]
 simp
theorem get_parts{l:List UInt8}{k:Nat}(h:k<l.length):l=l.take k++[l[k]]++l.drop (k+1):=by
 have:=set_parts h l[k]
 rwa [List.set_getElem_self] at this
theorem crcL_set{l:List UInt8}{k:Nat}(h:k<l.length)(y:UInt8):qcp (l.set k y)=qcp l↔y=l[k]:=by
 rw[set_parts h]
 conv=>lhs;rhs;rw[get_parts h]
 exact crcL_inj_at _ _ _ _
theorem sealedB_set{l:List UInt8}{k:Nat}(h:k<(vo l).length)(y:UInt8):qak ((vo l).set k y)=decide (y=(vo l)[k]):=by
 have hl:=qc2 l
 have h4:4≤((vo l).set k y).length:=by rw[jn];omega
 unfold qak
 rw[qx h4,qe2,decide_eq_decide,jn,hl,Nat.add_sub_cancel]
 rcases vf k l.length with hk | hk
 ·
  have e1:((vo l).set k y).drop l.length=qhe (qcp l):=by
   rw[List.drop_set,if_pos hk,qmw]
  have e2:((vo l).set k y).take l.length=l.set k y:=by rw[List.take_set,qh3]
  have e3:(vo l)[k]=l[k]:=by simp[vo,xh hk]
  rw[e1,e2,e3]
  constructor
  ·
   intro q
   exact(crcL_set hk y).1 (crcB_inj q).symm
  ·
   intro q
   rw[(crcL_set hk y).2 q]
 ·
  have e1:((vo l).set k y).drop l.length=(qhe (qcp l)).set (k-l.length) y:=by
   rw[List.drop_set,if_neg (by omega),qmw]
  have e2:((vo l).set k y).take l.length=l:=by
   rw[List.take_set,qh3,List.set_eq_of_length_le hk]
  have hk4:k-l.length<(qhe (qcp l)).length:=by rw[qb7];omega
  have e3:(vo l)[k]=(qhe (qcp l))[k-l.length]:=by simp[vo,vl hk]
  rw[e1,e2,e3]
  constructor
  ·
   intro q
   have:=congrArg (fun z=>z[k-l.length]?) q
   simp only[qdo hk4,qe hk4] at this
   exact zr this
  ·
   intro q
   rw[q,List.set_getElem_self]
theorem u8_xor_self(x t:UInt8):(x ^^^ t=x)↔t=0:=by
 constructor
 ·
  intro h
  have:=congrArg (x ^^^ ·) h
  simpa[←UInt8.xor_assoc] using this
 ·
  intro h;rw[h];simp
theorem bn_inj{a b:BitVec 32}(h:bn a=bn b):a=b:=by
 apply qa9
 unfold bn at h
 omega
theorem qqg{ops:Array Oper}{rest:List Oper}{o:Oper}{a:Act}{w:World}{Q:Exit→Act→World→Prop}(e:Vl)(hg:o.guard=none)(x:Operand)(ho:o.op= .buildSlice 73 1 #[(0,x)])(hx:a.eval x= .agg (qct e).toArray)
  (h:wpList Tryz.prog ops Q rest (a.put o.dst (.slice (some ⟨w.heap.size,0,none⟩) 1 1)) (w.alloc (.cells (qct e).toArray 72))):wpList Tryz.prog ops Q (o :: rest) a w:=by
 obtain⟨i0,hi0,hz0,hz1,hz2⟩:=info_parts Tryz.infoVal
 refine wpList_buildSlice hg _ _ 1 _ ho (qct e).toArray i0 _ Tryz.underlying73 hi0 hz0 (by rw[hz1];omega) (by rw[hz1];omega) ?_ h
 have hf:=Great.fill_whole (s:=2) (by omega) [.agg (qct e).toArray] ((Array.range (1*2)).map ((Value.agg #[.bool false,.string ⟨#[]⟩]).cells[· % (Value.agg #[.bool false,.string ⟨#[]⟩]).cells.size]!)) (fun u hu=>by
  rw[ze.1 hu]
  rfl) (by simp)
 have e1:([Value.agg (qct e).toArray].flatMap fun u=>u.cells.toList).toArray=(qct e).toArray:=by
  show((qct e).toArray.toList++[]).toArray=(qct e).toArray
  rw[jb]
 rw[e1] at hf
 rw[hz1]
 simp only[qcn,yc,vu,hx]
 exact hf
theorem vv_snoc(es:List Vl)(e:Vl):vv (es++[e])=vv es++qct e:=by simp[vv]
theorem qqd{ops:Array Oper}{rest:List Oper}{o:Oper}{a:Act}{Q:Exit→Act→World→Prop}{w:World}{v:Value}{g n:Nat}(base:Nat)(es:List Vl)(e:Vl)(hn:es.length=n)(hgd:o.guard=none)(s x:Operand)
  (ho:o.op= .call { callee:= .builtin .append,args:=#[s,x],argTypes:=#[73,73] }) (hty:o.type=73)
  (hs:a.eval s=v) (hx:a.eval x= .slice (some ⟨g,0,none⟩) 1 1) (hc0:w.cell? ⟨g,0,none⟩=some (.bool e.null)) (hc1:w.cell? ⟨g,1,none⟩=some (.string e.s))
  (hown:w.ownsRow base 72 2 v n (vv es)) (hb:n+1≤1000000000) (hbase:base≤w.heap.size)
  (h:∀A' c' w',w'.ownsRow base 72 2 (.slice A' (n+1) c') (n+1) (vv (es++[e]))→w.grownBy w' v.ownBlock→((Value.slice A' (n+1) c').ownBlock=v.ownBlock∨(Value.slice A' (n+1) c').ownBlock=some w.heap.size)→wpList Tryz.prog ops Q rest (a.put o.dst (.slice A' (n+1) c')) w') :
  wpList Tryz.prog ops Q (o :: rest) a w:=by
 subst hn
 obtain⟨i0,hi0,hz0,hz1,hz2⟩:=info_parts Tryz.infoVal
 have hcells:∀j u,(qct e)[j]? = some u→w.cell? ⟨g,j,none⟩=some u:=fun j u hu=>by
  match j,hu with
  | 0,hu=>simp[qct] at hu;subst hu;exact hc0
  | 1,hu=>simp[qct] at hu;subst hu;exact hc1
  | j+2,hu=>simp[qct] at hu
 obtain⟨v',w',hrun,h2,h3,_,h5⟩:=run_append_own_at (P:=Tryz.prog) w base 73 73 72 i0 _ 2 24 Tryz.underlying73 hi0 hz0 hz1 hz2 rfl (by omega) v es.length (vv es) hown ⟨g,0,none⟩ 1 1 (qct e) rfl
  (fun j u hu=>by
   have:=hcells j u hu
   rwa [show(⟨g,j,none⟩:Addr)=(⟨g,0,none⟩:Addr).add j from by unfold Addr.add;by_cases h0:j=0 <;> simp[h0]] at this) (fun u hu=>by
    rcases z7.1 hu with rfl | hu
    ·
     rfl
    ·
     rw[ze.1 hu]
     rfl) (by simp only[maxLen];omega) (by omega) hbase
 obtain⟨A',c',rfl,_⟩:=qbx w' h2
 refine wpList_append_run hgd s x _ _ ho hs hx (by rw[hty];exact hrun) (h A' c' w' ?_ h3 h5)
 rw[vv_snoc]
 exact h2
theorem qa6(rs:List (List Vl))(k:Nat):(vk rs k).length=rs.length:=by simp[vk]
theorem colV_take{rs:List (List Vl)}{k i:Nat}(hi:i<rs.length)(hk:k<rs[i].length):vk (rs.take (i+1)) k=vk (rs.take i) k++[rs[i][k]]:=by
 unfold vk
 rw[qj hi,jl]
 simp[List.getD,qe hk]
theorem qfu{gs:List (List (List Vl))}{i:Nat}(hi:i<gs.length):uf (gs.take (i+1))=uf (gs.take i)+gs[i].length:=by
 unfold uf
 rw[qj hi,jl,qb5]
 simp
theorem qja(gs:List (List (List Vl)))(i:Nat):uf (gs.take i)≤uf gs:=by
 have h:uf gs=uf (gs.take i)+uf (gs.drop i):=by
  unfold uf
  rw[←qb5,←jl,zx]
 omega
theorem fits_nil:kr []:=⟨qi _,fun v hv=>by cases hv⟩
theorem isEmpty_ne{s:ByteArray}(h:¬s=⟨#[]⟩):s.toList.isEmpty=false:=by
 cases he:s.toList with
 | nil=>exact absurd (ByteArray.ext (qdw.1 (by rw[←z6,he]))) h
 | cons a t=>rfl
theorem qoo{ops:Array Oper}{rest:List Oper}{o:Oper}{a:Act}{Q:Exit→Act→World→Prop}{w:World}{v:Value}{g:Nat}(base:Nat)(ys:List Bool)(z:Bool)(hgd:o.guard=none)(s x:Operand)
  (ho:o.op= .call { callee:= .builtin .append,args:=#[s,x],argTypes:=#[105,105] }) (hty:o.type=105)
  (hs:a.eval s=v) (hx:a.eval x= .slice (some ⟨g,0,none⟩) 1 1) (hcell:w.cell? ⟨g,0,none⟩=some (.bool z))
  (hown:w.ownsRow base 4 1 v ys.length (lv ys)) (hb:ys.length+1≤17592186044416) (hbase:base≤w.heap.size)
  (h:∀A' c' w',w'.ownsRow base 4 1 (.slice A' (ys++[z]).length c') (ys++[z]).length (lv (ys++[z]))→w.grownBy w' v.ownBlock→
   ((Value.slice A' (ys++[z]).length c').ownBlock=v.ownBlock∨(Value.slice A' (ys++[z]).length c').ownBlock=some w.heap.size)→wpList Tryz.prog ops Q rest (a.put o.dst (.slice A' (ys.length+1) c')) w') :
  wpList Tryz.prog ops Q (o :: rest) a w:=by
 have hr:Rd w 0 w.heap.size (some ⟨g,0,none⟩) 1 (lv [z]):=⟨by simp[lv],by simp[maxLen],fun _=>⟨g,0,rfl,qi _,ya w _ hcell,fun j u hu=>by
  match j,hu with
  | 0,hu =>
   simp[lv] at hu
   subst hu
   exact hcell
  | j+1,hu=>simp[lv] at hu⟩⟩
 obtain⟨i0,hi0,hz0,hz1,hz2⟩:=info_parts Tryz.infoBool
 obtain⟨A',c',w',hrun,h2,h3,h4⟩:=vt (P:=Tryz.prog) w base 105 105 4 i0 _ 1 Tryz.underlying105 hi0 hz0 hz1 hz2 rfl v ys.length (lv ys) hown 0 w.heap.size _ 1 (lv [z]) hr (lv_one _)
  (by simp[lv,maxLen];omega) (by simp[lv];omega) hbase
 have hl:(lv [z]).length=1:=rfl
 have hl2:(ys++[z]).length=ys.length+1:=by simp
 rw[hl] at hrun h2 h4
 exact wpList_append_run hgd s x _ _ ho hs hx (by rw[hty];exact hrun) (h A' c' w' (by rw[lv_append,hl2];exact h2) h3 (by rw[hl2];exact h4))
theorem qil{w:World}(s:ByteArray)(hs:s.size≤100000) :
  Calls Tryz.prog 159 #[.string s] w fun r w'=>∃A c,r= .returned (.slice A (vm s.data.toList).length c)∧w'.ownsRow w.heap.size 5 1 (.slice A (vm s.data.toList).length c) (vm s.data.toList).length (bv (vm s.data.toList))∧Below w.heap.size w w':=by
 have h9:=ve s.size (by omega)
 go_enter Tryz.func159,Tryz.ntmps159
 go_wp2_with fail
 refine(ux s.size (by omega)).mono ?_
 rintro r w1 ⟨A,c,rfl,hown,hbel⟩
 have hcv:=qdd (P:=Tryz.prog) w1 9 36 5 s Tryz.underlying9 Tryz.underlying36 Tryz.underlying5
 have hcap:=grownCap_le_maxLen w1 s.size 0 5 (by simp only[maxLen];omega)
 have hrd:=qfm w1 5 s hcap
 have hb2:=qdm w1 5 s (qc _)
 have hsz:=hb2.size
 obtain⟨A',c',w2,hrun,hown2,hg2⟩:=qe9 (Lib.bytesWorld w1 5 s) w.heap.size _ _ s.data.toList (jp hown hb2 (qc _)) hrd (by have:s.data.toList.length=s.size:=rfl;omega) (by have:=hbel.size;omega)
 have HO:=qa hown
 have HO2:=qa hown2
 have HG2:=qa hg2
 have HB:=qa hbel
 have HB2:=qa hb2
 clear hown hown2 hg2 hbel hb2 hrd
 go_wp2_with (at_builtin;refine wpList_append_run rfl _ _ _ _ rfl rfl rfl hrun ?_)
 go_ret
 have e:(vm s.data.toList).length=(ji s.size).length+s.data.toList.length:=by simp[vm]
 refine⟨A',c',by rw[e];rfl,by rw[e];exact HO2.out,?_⟩
 refine(HB.out.trans (HB2.out.mono HB.out.size)).grown HG2.out (zb HB.out.size HB2.out.size) (fun k hk=>(HO.out.lt k hk).1)
end Go.Proofs.YtjfecojdagmacaaGreat
