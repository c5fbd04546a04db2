/-
  Lemmas.
-/
import Derived.Test.YtnjkipnklpkaoaaGreatA04
import Derived.ChangeShapes
import Derived.SizedLaws
import Derived.WideShapes
namespace Go.Proofs.YtnjkipnklpkaoaaGreat
open Go.RowKit
set_option maxRecDepth 20000
set_option maxHeartbeats 16000000
set_option linter.unusedSimpArgs false
set_option linter.unusedVariables false
theorem qle{n:Nat}(h:n<256):(UInt8.ofNat n).toNat=n:=by rw[xh];omega
theorem putL_facts(n:Nat):∀rest:List UInt8,qbj (jo n++rest)+1=(jo n).length∧val ((jo n++rest).take (qbj (jo n++rest)+1))=n∧
  (0<n→((jo n++rest)[qbj (jo n++rest)]?.getD 0).toNat≠0):=by
 induction n using Nat.strongRecOn with
 | ind n ih =>
  intro rest
  by_cases h:n<128
  ·
   rw[qc1 h]
   have e:=qle (n:=n) (by omega)
   have hl:qbj ([UInt8.ofNat n]++rest)=0:=by
    simp only[z6,qbj]
    rw[if_neg (by omega)]
   rw[hl]
   refine⟨rfl,?_,fun hp => ?_⟩
   ·
    simp only[z6,yk,xa,jn,y8,val,e]
    omega
   ·
    simp only[z6,q9,xj,e]
    omega
  ·
   rw[qjq (by omega)]
   obtain⟨i1,i2,i3⟩:=ih (n/128) (by omega) rest
   have e:=qle (n:=n%128+128) (by omega)
   have hl:qbj (UInt8.ofNat (n%128+128) :: jo (n/128)++rest)=qbj (jo (n/128)++rest)+1:=by
    simp only[z6,qbj]
    rw[if_pos (by omega)]
   rw[hl]
   refine⟨by simp only[qt];omega,?_,fun hp => ?_⟩
   ·
    simp only[z6,jn,val,e,i2]
    omega
   ·
    simp only[z6,zb]
    exact i3 (by omega)
theorem vnum_putL(n:Nat)(h:n≤9223372036854775807)(rest:List UInt8):qb2 (jo n++rest)=(n,(jo n).length,0):=by
 obtain⟨h1,h2,h3⟩:=putL_facts n rest
 have h9:=vo n h
 have hlen:(jo n++rest).length=(jo n).length+rest.length:=qd
 unfold qb2
 rw[if_neg (by omega),if_neg (by omega),if_neg,h2,h1]
 rintro⟨hp,hz⟩
 refine h3 ?_ hz
 rcases jr n with h0 | h0
 ·
  subst h0
  rw[qc1 (by omega)] at h1
  simp only[qt,je] at h1
  rw[qc1 (by omega)] at hp
  omega
 ·
  exact h0
theorem val_pos:∀b:List UInt8,qbj b<b.length→(b[qbj b]?.getD 0).toNat≠0→0<val (b.take (qbj b+1))
 | [],h,_=>by simp at h
 | y :: r,h,hz=>by
  by_cases hy:128≤y.toNat
  ·
   have hl:qbj (y :: r)=qbj r+1:=by simp only[qbj];rw[if_pos hy]
   rw[hl] at h hz ⊢
   simp only[qt,zb] at h hz
   have:=val_pos r (by omega) hz
   simp only[jn,val]
   omega
  ·
   have hl:qbj (y :: r)=0:=by simp only[qbj];rw[if_neg hy]
   rw[hl] at hz ⊢
   simp only[q9,xj] at hz
   simp only[xa,jn,y8,val]
   omega
theorem putL_val:∀b:List UInt8,qbj b<b.length→¬(0<qbj b∧(b[qbj b]?.getD 0).toNat=0)→jo (val (b.take (qbj b+1)))=b.take (qbj b+1)
 | [],h,_=>by simp at h
 | y :: r,h,hz=>by
  have hy256:y.toNat<256:=zp y
  by_cases hy:128≤y.toNat
  ·
   have hl:qbj (y :: r)=qbj r+1:=by simp only[qbj];rw[if_pos hy]
   rw[hl] at h hz ⊢
   simp only[qt,zb] at h hz
   have hz':(r[qbj r]?.getD 0).toNat≠0:=fun e=>hz ⟨by omega,e⟩
   have hp:=val_pos r (by omega) hz'
   have hi:=putL_val r (by omega) (fun e=>hz' e.2)
   simp only[jn,val]
   rw[qjq (by omega)]
   rw[show(y.toNat%128+128*val (r.take (qbj r+1)))%128+128=y.toNat from by omega,show(y.toNat%128+128*val (r.take (qbj r+1)))/128=val (r.take (qbj r+1)) from by omega,hi]
   simp
  ·
   have hl:qbj (y :: r)=0:=by simp only[qbj];rw[if_neg hy]
   rw[hl]
   simp only[xa,jn,y8,val]
   rw[qc1 (by omega),show y.toNat%128+128*0=y.toNat from by omega]
   simp
theorem vnum_form(b:List UInt8)(h:(qb2 b).2.2=0):jo (qb2 b).1=b.take (qb2 b).2.1∧0<(qb2 b).2.1∧(qb2 b).1≤9223372036854775807:=by
 unfold qb2 at h ⊢
 by_cases h9:9≤qbj b
 ·
  rw[if_pos h9] at h
  simp only[] at h
  split at h <;> omega
 ·
  rw[if_neg h9] at h ⊢
  by_cases hl:b.length≤qbj b
  ·
   rw[if_pos hl] at h
   simp only[] at h
   omega
  ·
   rw[if_neg hl] at h ⊢
   by_cases hz:0<qbj b∧(b[qbj b]?.getD 0).toNat=0
   ·
    rw[if_pos hz] at h
    simp only[] at h
    omega
   ·
    rw[if_neg hz]
    refine⟨putL_val b (by omega) hz,Nat.succ_pos _,?_⟩
    have h1:=val_lt (b.take (qbj b+1))
    have h2:128 ^ (b.take (qbj b+1)).length≤128 ^ 9:=yb (by omega) (by rw[qy];omega)
    simp only[]
    omega
theorem qku(ub:List UInt8)(n k:Nat)(e:Int)(he:e≠0):qd6 ub n k e=([],k,e):=by
 unfold qd6
 rw[if_pos he]
theorem qil(bs:List UInt8)(k:Nat){e:Int}(m:Int)(h:e≠0):j8 bs k e m=(0,k,e):=by simp[j8,jac,h]
theorem peek_split(bs:List UInt8)(k:Nat)(m:Int):(∃e,e≠0∧jac bs k 0 m=(0,0,e))∨((qb2 (bs.drop k)).2.2=0∧((qb2 (bs.drop k)).1:Int)≤m∧jac bs k 0 m=((qb2 (bs.drop k)).1,(qb2 (bs.drop k)).2.1,0)):=by
 by_cases hp:qgd bs k m=0
 ·
  refine .inr ?_
  have h2:=hp
  unfold qgd at h2
  split at h2
  ·
   contradiction
  ·
   rename_i h3
   split at h2
   ·
    cases h2
   ·
    exact⟨Decidable.not_not.1 h3,by omega,by simp[jac,hp]⟩
 ·
  exact .inl ⟨_,hp,by simp[jac,hp]⟩
theorem qfe{bs:List UInt8}{k n k2:Nat}{m:Int}(hk:k≤bs.length)(h:j8 bs k 0 m=(n,k2,0)) :
  (n:Int)≤m∧n≤9223372036854775807∧bs.drop k=jo n++bs.drop k2∧k2=k+(jo n).length∧k2≤bs.length:=by
 unfold j8 at h
 rcases peek_split bs k m with ⟨e,he,hr⟩ | ⟨h1,h2,hr⟩
 ·
  rw[hr] at h
  simp only[Prod.mk.injEq] at h
  exact absurd h.2.2 he
 ·
  rw[hr] at h
  simp only[Prod.mk.injEq] at h
  obtain⟨rfl,rfl, -⟩:=h
  obtain⟨f1,f2,f3⟩:=vnum_form _ h1
  have hs:=qp1 (bs.drop k)
  rw[qu] at hs
  have hl:(jo (qb2 (bs.drop k)).1).length=(qb2 (bs.drop k)).2.1:=by rw[f1,qy,qu];omega
  refine⟨h2,f3,?_,by rw[hl],by omega⟩
  rw[f1,←z7,zx]
theorem qbr{bs rest:List UInt8}{k n:Nat}{m:Int}(h:bs.drop k=jo n++rest)(hn:(n:Int)≤m)(h63:n≤9223372036854775807):j8 bs k 0 m=(n,k+(jo n).length,0):=by
 have hv:=vnum_putL n h63 rest
 have h0:qgd bs k m=0:=by
  unfold qgd
  rw[h,hv,if_neg (by simp),if_neg (by simp only[];omega)]
 unfold j8 jac
 rw[h,hv]
 simp[h0]
theorem qj5(bs:List UInt8)(k:Nat){e:Int}(m:Int)(h:e≠0):qcj bs k e m=([],k,e):=by
 unfold qcj
 rw[qil _ _ _ h]
 dsimp only
 rw[qde _ _ _ _ _ h,qku _ _ _ _ h]
theorem bread_good{bs:List UInt8}{k k2:Nat}{m:Int}{rs:List Bool}(hk:k≤bs.length)(h:qcj bs k 0 m=(rs,k2,0)) :
  (rs.length:Int)≤m∧bs.drop k=xe rs++bs.drop k2∧k2=k+(xe rs).length∧k2≤bs.length:=by
 unfold qcj at h
 obtain⟨M,hM⟩:∃M,j8 bs k 0 m=M:=⟨_,rfl⟩
 rw[hM] at h
 obtain⟨n,k1,e1⟩:=M
 dsimp only at h
 by_cases he1:e1=0
 ·
  subst he1
  obtain⟨g1,g2,g3,g4,g5⟩:=qfe hk hM
  by_cases h2:k1+(n+7)/8≤bs.length
  ·
   have hUL:((bs.drop k1).take ((n+7)/8)).length=(n+7)/8:=by simp;omega
   have hd2:bs.drop k1=(bs.drop k1).take ((n+7)/8)++bs.drop (k1+(n+7)/8):=(zx ((n+7)/8) (bs.drop k1)).symm.trans (by rw[z7])
   rw[qd8 bs k1 _ h2] at h
   dsimp only at h
   generalize (bs.drop k1).take ((n+7)/8)=ub at *
   unfold qd6 at h
   rw[if_neg (by simp)] at h
   by_cases hc:qbg ub<2 ^ n
   ·
    rw[if_pos hc] at h
    simp only[Prod.mk.injEq,and_true] at h
    obtain⟨rfl,rfl⟩:=h
    have hW:xe (qi3 ub n)=jo n++ub:=by
     unfold xe
     rw[qcw,packB_getsB ub n hUL hc]
    refine⟨by rw[qcw];exact g1,?_,?_,h2⟩
    ·
     rw[hW,g3,hd2,qv]
    ·
     rw[hW,qd,hUL]
     omega
   ·
    rw[if_neg hc] at h
    simp at h
  ·
   rw[qdt bs k1 _ (by omega)] at h
   dsimp only at h
   rw[qku _ _ _ _ (show(2:Int)≠0 by decide)] at h
   simp at h
 ·
  rw[qde _ _ _ _ _ he1] at h
  rw[qku _ _ _ _ he1] at h
  simp only[Prod.mk.injEq] at h
  exact absurd h.2.2 he1
theorem qi7{bs rest:List UInt8}{k:Nat}(rs:List Bool)(m:Int)(hk:k≤bs.length)(h:bs.drop k=xe rs++rest)(hl:(rs.length:Int)≤m)(h63:rs.length≤9223372036854775807):qcj bs k 0 m=(rs,k+(xe rs).length,0):=by
 have h1:bs.drop k=jo rs.length++(qdg rs++rest):=by rw[h,xe,qv]
 have hM:=qbr (m:=m) h1 hl h63
 have hpl:(qdg rs).length=(rs.length+7)/8:=qfb rs
 have hlen:bs.length-k=(jo rs.length).length+((rs.length+7)/8+rest.length):=by
  rw[←qu,h1,qd,qd,hpl]
 have hd1:bs.drop (k+(jo rs.length).length)=qdg rs++rest:=by rw[←z7,h1,yc]
 have hU:=qd8 bs (k+(jo rs.length).length) ((rs.length+7)/8) (by omega)
 rw[hd1,←hpl,List.take_left] at hU
 rw[hpl] at hU
 unfold qcj
 rw[hM]
 dsimp only
 rw[hU]
 unfold qd6
 dsimp only
 rw[if_neg (by simp),if_pos (bval_packB rs),getsB_packB,xe,qd,hpl]
 simp only[Prod.mk.injEq,and_true,true_and]
 omega
theorem qlu(bs:List UInt8)(n wd k:Nat)(e:Int)(he:e≠0):qed bs n wd k e=([],k,qfw wd e)∧qfw wd e≠0:=by
 have h:qfw wd e=e:=by
  unfold qfw
  by_cases hw:wd≤32
  ·
   rw[if_pos hw]
  ·
   rw[if_neg hw,if_neg he]
 rw[h]
 refine⟨?_,he⟩
 unfold qed
 rw[h,qde _ _ _ _ _ he]
 unfold qc8
 rw[if_pos he]
theorem qqw{wd:Nat}(h:wd≤32):qfw wd 0=0:=by
 unfold qfw
 rw[if_pos h]
theorem qlt(bs:List UInt8)(k:Nat){e:Int}(m:Int)(h:e≠0):qa5 bs k e m=([],k,e):=by
 unfold qa5
 rw[qil _ _ _ h]
 dsimp only
 rw[qde _ _ _ _ _ h]
 have:=qlu bs 0 (([]:List UInt8).headD 0).toNat k e h
 rw[this.1]
 have h2:qfw (([]:List UInt8).headD 0).toNat e=e:=by unfold qfw;simp[h]
 rw[h2]
theorem qjp{bs:List UInt8}{k k2:Nat}{m:Nat}{ns:List Nat}(hk:k≤bs.length)(hm:m≤2147483647)(h:qa5 bs k 0 (m:Int)=(ns,k2,0)) :
  ns.length≤m∧qpw (zu ns)∧bs.drop k=jq (zu ns)++bs.drop k2∧k2=k+(jq (zu ns)).length∧k2≤bs.length:=by
 have hmm:min (m:Int) 2147483647=(m:Int):=by omega
 unfold qa5 at h
 rw[hmm] at h
 obtain⟨M,hM⟩:∃M,j8 bs k 0 (m:Int)=M:=⟨_,rfl⟩
 rw[hM] at h
 obtain⟨n,k1,e1⟩:=M
 dsimp only at h
 by_cases he1:e1=0
 ·
  subst he1
  obtain⟨g1,g2,g3,g4,g5⟩:=qfe hk hM
  by_cases h1:k1+1≤bs.length
  ·
   have hT:jy bs k1 0 0 1=([bs[k1]],k1+1,0):=by
    have:=qd8 bs k1 1 h1
    rw[zv (by omega)] at this
    exact this
   rw[hT] at h
   dsimp only[List.headD_cons] at h
   have hbyte:UInt8.ofNat bs[k1].toNat=bs[k1]:=by simp
   have hd1:bs.drop k1=bs[k1] :: bs.drop (k1+1):=zv (by omega)
   generalize hx:bs[k1].toNat=wd at *
   unfold qed at h
   by_cases hw:wd≤32
   ·
    rw[qqw hw] at h
    by_cases h2:k1+1+(n*wd+7)/8≤bs.length
    ·
     have hUL:((bs.drop (k1+1)).take ((n*wd+7)/8)).length=(n*wd+7)/8:=by simp;omega
     have hd2:bs.drop (k1+1)=(bs.drop (k1+1)).take ((n*wd+7)/8)++bs.drop (k1+1+(n*wd+7)/8):=(zx ((n*wd+7)/8) (bs.drop (k1+1))).symm.trans (by rw[z7])
     rw[qd8 bs (k1+1) _ h2] at h
     dsimp only at h
     generalize (bs.drop (k1+1)).take ((n*wd+7)/8)=ub at *
     unfold qc8 at h
     rw[if_neg (by simp)] at h
     by_cases hc:wd=wide (zu (qci ub wd n))∧qbg ub<2 ^ (n*wd)
     ·
      rw[if_pos hc] at h
      simp only[Prod.mk.injEq,and_true] at h
      obtain⟨rfl,rfl⟩:=h
      have hgl:(qci ub wd n).length=n:=qd1 _ _ _
      have hW:jq (zu (qci ub wd n))=jo n++([bs[k1]]++ub):=by
       unfold jq
       rw[zj,hgl,←hc.1,qqd,pack_gets ub wd n hUL hc.2,hbyte]
      refine⟨by omega,?_,?_,?_,h2⟩
      ·
       intro z hz
       obtain⟨x,hx,rfl⟩:=zn.1 hz
       have h3:=getsN_lt ub wd n x hx
       have h4:2 ^ wd≤2 ^ 32:=yb (by omega) hw
       omega
      ·
       rw[hW,g3,hd1,hd2]
       simp
      ·
       rw[hW,qd,qd,hUL,jd]
       omega
     ·
      rw[if_neg hc] at h
      simp at h
    ·
     rw[qdt bs (k1+1) _ (by omega)] at h
     unfold qc8 at h
     rw[if_pos (show(2:Int)≠0 by decide)] at h
     simp at h
   ·
    have h3:qfw wd 0=3:=by
     unfold qfw
     rw[if_neg hw,if_pos rfl]
    rw[h3,qde _ _ _ _ _ (by decide)] at h
    unfold qc8 at h
    rw[if_pos (show(3:Int)≠0 by decide)] at h
    simp at h
  ·
   have hT:jy bs k1 0 0 1=([],k1,2):=qdt bs k1 1 (by omega)
   rw[hT] at h
   dsimp only at h
   have h4:=qlu bs n (([]:List UInt8).headD 0).toNat k1 2 (by decide)
   rw[h4.1] at h
   simp only[Prod.mk.injEq] at h
   exact absurd h.2.2 h4.2
 ·
  rw[qde _ _ _ _ _ he1] at h
  have h4:=qlu bs n (([]:List UInt8).headD 0).toNat k1 e1 he1
  dsimp only at h
  rw[h4.1] at h
  simp only[Prod.mk.injEq] at h
  exact absurd h.2.2 h4.2
theorem qih{bs rest:List UInt8}{k:Nat}(zs:List Int)(hz:qpw zs)(m:Nat)(hk:k≤bs.length)(h:bs.drop k=jq zs++rest)(hl:zs.length≤m)(hm:m≤2147483647):qa5 bs k 0 (m:Int)=(qbo zs,k+(jq zs).length,0):=by
 have hmm:min (m:Int) 2147483647=(m:Int):=by omega
 have hw:=hz.wide_le
 have h1:bs.drop k=jo zs.length++(UInt8.ofNat (wide zs) :: (qa6 (wide zs) (qbo zs)++rest)):=by rw[h,jq];simp
 have hM:=qbr (m:=(m:Int)) h1 (by omega) (by omega)
 have hpl:(qa6 (wide zs) (qbo zs)).length=(zs.length*wide zs+7)/8:=by rw[qcu,ud]
 have hlen:bs.length-k=(jo zs.length).length+((zs.length*wide zs+7)/8+rest.length+1):=by
  rw[←qu,h1]
  simp[hpl]
 have hd1:bs.drop (k+(jo zs.length).length)=UInt8.ofNat (wide zs) :: (qa6 (wide zs) (qbo zs)++rest):=by rw[←z7,h1,yc]
 have hd2:bs.drop (k+(jo zs.length).length+1)=qa6 (wide zs) (qbo zs)++rest:=by
  rw[←z7,hd1]
  rfl
 have hT:jy bs (k+(jo zs.length).length) 0 0 1=([UInt8.ofNat (wide zs)],k+(jo zs.length).length+1,0):=by
  have:=qd8 bs (k+(jo zs.length).length) 1 (by omega)
  rw[hd1] at this
  exact this
 have hU:=qd8 bs (k+(jo zs.length).length+1) ((zs.length*wide zs+7)/8) (by omega)
 rw[hd2,←hpl,List.take_left] at hU
 rw[hpl] at hU
 have hlt:∀x∈qbo zs,x<2 ^ wide zs:=by
  have:=hz.fits.nats_lt
  rwa [vf] at this
 have hg:qci (qa6 (wide zs) (qbo zs)) (wide zs) zs.length=qbo zs:=by
  have:=gets_pack (wide zs) (qbo zs) hlt
  rwa [ud] at this
 have hwl:(jq zs).length=(jo zs.length).length+((zs.length*wide zs+7)/8+1):=by rw[jq];simp[hpl]
 unfold qa5
 rw[hmm,hM]
 dsimp only
 rw[hT]
 dsimp only
 rw[show([UInt8.ofNat (wide zs)].headD 0).toNat=wide zs from qik (by omega)]
 unfold qed
 rw[qqw hw,hU]
 unfold qc8
 dsimp only
 rw[if_neg (by simp),hg,if_pos]
 ·
  rw[hwl]
  simp only[Prod.mk.injEq,and_true,true_and]
  omega
 refine⟨by rw[qmv (fun z h=>(hz z h).1)],?_⟩
 rw[qog _ _ hlt]
 have:=qol (wide zs) (qbo zs) hlt
 rwa [ud,xo] at this
structure UpG (gs:List Nat):Prop where
 up:gs.Pairwise (· < ·)
 lt:∀g∈gs,g<16777216
theorem UpG.nil:UpG []:=⟨List.Pairwise.nil,fun g h=>absurd h ve⟩
theorem UpG.take{gs:List Nat}(h:UpG gs)(k:Nat):UpG (gs.take k):=⟨h.up.sublist (List.take_sublist k gs),fun g hg=>h.lt g (xk hg)⟩
theorem qmy(gs:List Nat)(i k:Nat)(h:i<k):(gs.take k).getD i 0=gs.getD i 0:=by
 simp[List.getD,qbh,h]
theorem qha(gs:List Nat)(k:Nat):yp (gs.take k)=(yp gs).take k:=by
 apply List.ext_getElem
 ·
  simp[yp]
 ·
  intro i h1 h2
  simp only[yp,yz,List.getElem_range,qb0]
  have hi:i<k:=by
   rw[ya,qy] at h1
   omega
  rw[qmy gs i k hi,qmy gs 0 k (by omega),qmy gs (i-1) k (by omega)]
theorem qiv(gs:List Nat)(g:Nat):yp (gs++[g])=yp gs++[(g:Int)-(qgs gs gs.length:Int)]:=by
 apply qc3
 intro i
 rcases qa1 i gs.length with h | h | h
 ·
  rw[vh (by rw[ya];exact h)]
  have e:=qha (gs++[g]) gs.length
  rw[List.take_left] at e
  rw[e,qbh,if_pos h]
 ·
  subst h
  have hs:(yp (gs++[g])).length=gs.length+1:=by rw[ya,qd];rfl
  rw[ku (by rw[ya];exact qc _),ya,Nat.sub_self,qe (by omega)]
  simp only[q9,Option.some.injEq]
  simp only[yp,yz,List.getElem_range,qgs]
  by_cases h0:gs.length=0
  ·
   have:gs=[]:=zd h0
   subst this
   simp
  ·
   rw[if_neg h0,if_neg h0]
   have h5:(gs++[g]).getD (gs.length-1) 0=gs.getD (gs.length-1) 0:=by simp[List.getD,vh (show gs.length-1<gs.length by omega)]
   have h6:(gs++[g]).getD gs.length 0=g:=by simp[List.getD]
   rw[h5,h6]
 ·
  rw[jz (by rw[ya,qd,jd];omega),jz (by rw[qd,ya,jd];omega)]
theorem qnm:∀ {a b:List Nat},yp a=yp b→a=b:=by
 intro a b h
 have hl:a.length=b.length:=by rw[←ya a,h,ya]
 have key:∀k,k≤a.length→a.take k=b.take k:=by
  intro k
  induction k with
  | zero=>intro _;simp
  | succ k ih =>
   intro hk
   have e:=ih (by omega)
   have h1:=qha a (k+1)
   have h2:=qha b (k+1)
   rw[h,←h2,qg (show k<a.length by omega),qg (show k<b.length by omega),e,qiv,qiv] at h1
   have h3:=qai h1
   simp only[List.cons.injEq,and_true] at h3
   rw[qg (show k<a.length by omega),qg (show k<b.length by omega),e]
   congr 2
   omega
 have:=key a.length (qc _)
 rwa [yf,hl,yf] at this
def qhk(gs:List Nat):Int:=if gs.length=0 then -1 else ((gs.getD (gs.length-1) 0:Nat):Int)
theorem lastG_snoc(gs:List Nat)(g:Nat):qhk (gs++[g])=(g:Int):=by simp[qhk,List.getD]
theorem lastG_max(gs:List Nat):max (qhk gs) 0=(qgs gs gs.length:Int):=by
 unfold qhk qgs
 split <;> omega
theorem lastG_lt{gs:List Nat}(h:UpG gs) : -1≤qhk gs∧qhk gs<16777216:=by
 unfold qhk
 split
 ·
  omega
 ·
  rename_i h0
  have:=h.lt (gs.getD (gs.length-1) 0) (by rw[List.getD,qe (by omega)];exact qj _)
  omega
theorem UpG.snoc{gs:List Nat}{g:Nat}(h:UpG gs)(h1:qhk gs<(g:Int))(h2:g<16777216):UpG (gs++[g]):=by
 refine⟨List.pairwise_append.2 ⟨h.up,List.pairwise_singleton _ _,fun a ha b hb => ?_⟩,fun x hx => ?_⟩
 ·
  rw[zo] at hb
  subst hb
  obtain⟨j,hj,rfl⟩:=zq ha
  unfold qhk at h1
  rw[if_neg (by omega)] at h1
  rw[List.getD,qe (by omega),xj] at h1
  rcases xc j (gs.length-1) with h3 | h3
  ·
   have:=ug.1 h.up j (gs.length-1) hj (by omega) h3
   omega
  ·
   have:j=gs.length-1:=by omega
   subst this
   omega
 ·
  rcases zt.1 hx with hx | hx
  ·
   exact h.lt x hx
  ·
   rw[zo] at hx
   exact hx ▸ h2
theorem UpG.next{gs t:List Nat}{k:Nat}{ns:List Nat}(h:UpG gs)(hs:yp gs=zu ns)(ht:yp t=zu (ns.take k))(hk:k<ns.length) :
  ∃g:Nat,(g:Int)=(qgs t t.length:Int)+(ns[k]:Int)∧qhk t<(g:Int)∧g<16777216:=by
 have hl:gs.length=ns.length:=by rw[←ya,hs,zj]
 have e:gs.take k=t:=qnm (by rw[qha,hs,ht,zu,zu,qbx])
 have hkg:k<gs.length:=by omega
 have h2:=qha gs (k+1)
 rw[qg hkg,e,qiv,hs] at h2
 rw[zu,←qbx,qg hk,jg,ht,zu] at h2
 have h3:=qai h2
 simp only[ym,uq,List.cons.injEq,and_true] at h3
 have htl:t.length=k:=by rw[←e,qy];omega
 refine⟨gs[k],by omega,?_,h.lt _ (qj hkg)⟩
 unfold qhk
 split
 ·
  omega
 ·
  rename_i h0
  have h5:t.getD (t.length-1) 0=gs[k-1]'(by omega):=by
   have h6:=qmy gs (k-1) k (by omega)
   rw[e] at h6
   rw[htl,h6,List.getD,qe (show k-1<gs.length by omega)]
   rfl
  rw[h5]
  have:=ug.1 h.up (k-1) k (by omega) hkg (by omega)
  omega
structure ListG (ns:List Nat) (e:Int) (gs:List Nat) (e':Int):Prop where
 ok:e'=0→e=0∧yp gs=zu ns∧UpG gs
 there:e=0→∀gs0,UpG gs0→yp gs0=zu ns→e'=0
def qmf(ns t:List Nat)(xs:List Value):Prop:=xs.length=ns.length∧(∀j,j<t.length→xs[j]? = (iv (zu t))[j]?)∧∀j,t.length≤j→xs[j]? = (iv (zu ns))[j]?
theorem qmf.zero(ns:List Nat):qmf ns [] (iv (zu ns)):=⟨by rw[ji,zj],fun j h=>absurd h (jp j),fun _ _=>rfl⟩
theorem qmf.snoc{ns t:List Nat}{xs:List Value}(h:qmf ns t xs)(g:Nat)(ht:t.length<ns.length):qmf ns (t++[g]) (xs.set t.length (.int .i64 (g:Int))):=by
 refine⟨by rw[xt];exact h.1,fun j hj => ?_,fun j hj => ?_⟩
 ·
  rw[qd,jd] at hj
  have hgi:(iv (zu (t++[g])))=iv (zu t)++[.int .i64 (g:Int)]:=by simp[iv,zu]
  rw[hgi]
  by_cases e:j=t.length
  ·
   subst e
   rw[qdq (by rw[h.1];exact ht),ku (by rw[ji,zj];exact qc _),ji,zj,Nat.sub_self]
   rfl
  ·
   rw[qbm (by omega),h.2.1 j (by omega),vh (by rw[ji,zj];omega)]
 ·
  rw[qd,jd] at hj
  rw[qbm (by omega)]
  exact h.2.2 j (by omega)
theorem qmf.all{ns t:List Nat}{xs:List Value}(h:qmf ns t xs)(ht:t.length=ns.length):xs=iv (zu t):=by
 apply qc3
 intro j
 rcases xc j t.length with hj | hj
 ·
  exact h.2.1 j hj
 ·
  rw[jz (by rw[h.1];omega),jz (by rw[ji,zj];omega)]
theorem qmf.get{ns t:List Nat}{xs:List Value}(h:qmf ns t xs)(ht:t.length<ns.length):xs[t.length]? = some (.int .i64 ((ns[t.length]:Nat):Int)):=by
 rw[h.2.2 _ (qc _),iv_get _ _ (by rw[zj];exact ht)]
 simp[zu]
theorem gtakeList_any{w:World}{lo g k:Nat}{bs:List UInt8}{e:Int}(hc:vw w lo g bs k e)(hbs:bs.length≤1000000000)(ns:List Nat)(k1:Nat)(e1:Int)(hR:qa5 bs k e 65536=(ns,k1,e1))(hns:∀x∈ns,x<4294967296)(hnl:ns.length≤2147483647) :
  Calls Tryz.prog 83 #[cp g] w fun r w'=>∃(gs:List Nat) (A:Option Addr) (c:Nat) (e':Int),r= .returned (.slice A gs.length c)∧w'.ownsRow w.heap.size 3 1 (.slice A gs.length c) gs.length (iv (zu gs))∧
   vw w' lo g bs k1 e'∧ListG ns e1 gs e'∧w.grownBy w' (some g):=by
 have hgl:=hc.lt
 have HPR:=qa (qp9 65536 hc (by omega))
 rw[hR] at HPR
 dsimp only at HPR
 have HNS:Hid (∀k (hk:k<ns.length),ns[k]<4294967296):=fun k hk=>hns _ (qj hk)
 clear hc hR hns
 unfold cp
 go_enter Tryz.func83,Tryz.ntmps83
 go_wp2_with fail
 refine HPR.out.mono ?_
 rintro r w1 ⟨A1,c1,rfl,ho1,hc1,hg1⟩
 have HO1:=qa ho1
 have HC1:=qa hc1
 have HG1:=qa hg1
 have s1:=hg1.size
 have hlc:=(Rd.of_own ho1).len
 have hmc:=(Rd.of_own ho1).cap
 rw[ji,zj] at hlc
 unfold maxLen at hmc
 clear ho1 hc1 hg1 HPR
 go_wp2_with fail
 go_loopw [4,12] (fun x4 x12 wr=>∃(k:Nat) (t:List Nat) (xs:List Value),k≤ns.length∧x12= .int .i64 (k:Int)∧x4= .int .i64 (qhk t)∧t.length=k∧UpG t∧yp t=zu (ns.take k)∧wr.ownsRow w.heap.size 3 1 (.slice A1 ns.length c1) ns.length xs∧qmf ns t xs∧vw wr lo g bs k1 e1∧w.grownBy wr (some g)) (fun _ x12 _=>ns.length-(intOf x12).toNat)
 case atStart=>exact⟨0,[],_,qi _,rfl,rfl,rfl,UpG.nil,rfl,HO1.out,qmf.zero ns,HC1.out,HG1.out⟩
 case round =>
  clear HO1 HC1 HG1
  obtain⟨k,t,xs,hk,rfl,rfl,htl,hup,hst,hown,hha,hcu,hgb⟩:=hrel
  obtain⟨wz,hwz⟩:∃wz,wz=wr:=⟨_,rfl⟩
  subst hwz
  have HTL:=qa htl
  have HU:=qa hup
  have HS:=qa hst
  have HO:=qa hown
  have HH:=qa hha
  have HC:=qa hcu
  have HG:=qa hgb
  clear htl hup hst hown hha hcu hgb
  by_cases hlt:k<ns.length
  ·
   have ik:(k:Int)<(ns.length:Int):=by omega
   obtain⟨gb,rfl,hgb1,hgb2⟩:=qdh HO.out (by omega)
   have hget:xs[k]? = some (.int .i64 ((ns[k]:Nat):Int)):=by
    have:=HH.out.get (by rw[HTL.out];exact hlt)
    simpa only[HTL.out] using this
   have hcell:wz.cell? ⟨gb,k,none⟩=some (.int .i64 ((ns[k]:Nat):Int)):=by rw[HO.out.cellAt k (by omega),hget]
   have hfr:=HO.out.frozenAt k
   have hx:=HNS.out k hlt
   have hzl:=lastG_lt HU.out
   have hmx:max (qhk t) 0=(qgs t k:Int):=by
    have:=lastG_max t
    rwa [HTL.out] at this
   have HNX:Hid (∀gs0,UpG gs0→yp gs0=zu ns→∃q:Nat,(q:Int)=(qgs t k:Int)+(ns[k]:Int)∧qhk t<(q:Int)∧q<16777216):=fun gs0 h1 h2=>by
    have:=h1.next h2 HS.out hlt
    rwa [HTL.out] at this
   have HSN:Hid (∀q:Nat,(q:Int)=(qgs t k:Int)+(ns[k]:Int)→qhk t<(q:Int)→q<16777216→UpG (t++[q])∧yp (t++[q])=zu (ns.take (k+1))∧qhk (t++[q])=(q:Int)):=fun q h1 h2 h3=>by
    refine⟨HU.out.snoc h2 h3,?_,lastG_snoc t q⟩
    rw[qiv,HTL.out,HS.out,qg hlt,zu,zu,jg]
    congr 1
    simp only[ym,uq,List.cons.injEq,and_true]
    omega
   have HSET:=fun q:Nat=>qa (HH.out.snoc q (by rw[HTL.out];exact hlt))
   rw[HTL.out] at HSET
   have HSTO:=fun u=>qa (HO.out.stored k u)
   obtain⟨z,hz⟩:∃z,qhk t=z:=⟨_,rfl⟩
   rw[hz] at hzl hmx HNX HSN ⊢
   have hpl:qgs t k<16777216:=by omega
   generalize qgs t k=p at *
   generalize ns[k]=x at *
   obtain⟨q,hq⟩:∃q:Nat,q=p+x:=⟨_,rfl⟩
   have iq:(p:Int)+(x:Int)=(q:Int):=by omega
   have HQ:=qa hq
   have hql:q<8589934592:=by omega
   clear hget hz hq
   by_cases h1:(q:Int)≤z
   ·
    have d1:decide ((q:Int)≤z)=true:=qp h1
    have HNO:Hid (∀gs0,UpG gs0→¬yp gs0=zu ns):=fun gs0 h2 h3=>by
     obtain⟨q2,e1,e2,e3⟩:=HNX.out gs0 h2 h3
     omega
    have HFA:=qa (kx 3 HC.out)
    unfold cp at HFA
    clear HNX HSN HSET HSTO
    go_wp2_with fail
    refine HFA.out.mono ?_
    rintro r w5 ⟨rfl,hc5,hg5⟩
    have HC5:=qa hc5
    have HG5:=qa (HG.out.trans hg5)
    clear hc5 hg5 HFA
    go_wp2_with fail
    go_ret
    refine⟨[],none,0,_,rfl,zh ..,HC5.out,⟨fun h => ?_,fun _ gs0 h2 h3=>absurd h3 (HNO.out gs0 h2)⟩,HG5.out⟩
    exfalso
    split at h
    ·
     exact absurd h (by decide)
    ·
     rename_i h4;exact h4 h
   ·
    have d1:decide ((q:Int)≤z)=false:=ql h1
    by_cases h2:(16777215:Int)<(q:Int)
    ·
     have d2:decide ((16777215:Int)<(q:Int))=true:=qp h2
     have HNO:Hid (∀gs0,UpG gs0→¬yp gs0=zu ns):=fun gs0 h2 h3=>by
      obtain⟨q2,e1,e2,e3⟩:=HNX.out gs0 h2 h3
      omega
     have HFA:=qa (kx 3 HC.out)
     unfold cp at HFA
     clear HNX HSN HSET HSTO
     go_wp2_with fail
     refine HFA.out.mono ?_
     rintro r w5 ⟨rfl,hc5,hg5⟩
     have HC5:=qa hc5
     have HG5:=qa (HG.out.trans hg5)
     clear hc5 hg5 HFA
     go_wp2_with fail
     go_ret
     refine⟨[],none,0,_,rfl,zh ..,HC5.out,⟨fun h => ?_,fun _ gs0 h2 h3=>absurd h3 (HNO.out gs0 h2)⟩,HG5.out⟩
     exfalso
     split at h
     ·
      exact absurd h (by decide)
     ·
      rename_i h4;exact h4 h
    ·
     have d2:decide ((16777215:Int)<(q:Int))=false:=ql h2
     obtain⟨a1,a2,a3⟩:=HSN.out q iq.symm (by omega) (by omega)
     have HU2:=qa a1
     have HS2:=qa a2
     have HL2:=qa a3
     have HT2:Hid ((t++[q]).length=k+1):=by unfold Hid;rw[qd,HTL.out];rfl
     have HO2:=qa (HSTO (.int .i64 (q:Int))).out.1
     have HC2:=qa (HC.out.grown (HSTO (.int .i64 (q:Int))).out.2 (fun x hx=> .inr (by injection hx with hx;omega)))
     have HG2:=qa (xv HG.out (p:=⟨gb,k,none⟩) (.inr hgb1) (.int .i64 (q:Int)))
     have HH2:=HSET q
     clear HNX HSN HSET HSTO a1 a2 a3
     go_wp2_with fail
     go_roundw
     case rel=>exact⟨k+1,t++[q],_,by omega,by go_num,by rw[HL2.out],HT2.out,HU2.out,HS2.out,HO2.out,HH2.out,HC2.out,HG2.out⟩
     case measure=>simp[intOf] <;> omega
  ·
   have ik:¬(k:Int)<(ns.length:Int):=by omega
   obtain rfl:k=ns.length:=by omega
   have hxs:=HH.out.all HTL.out
   have hoL:=HO.out
   rw[hxs,←HTL.out] at hoL
   have hsL:=HS.out
   rw[yf] at hsL
   have HOL:=qa hoL
   have HSL:=qa hsL
   clear hxs hoL hsL
   go_wp2_with fail
   go_ret
   rw[←HTL.out]
   exact⟨t,A1,c1,rfl,HOL.out,e1,HC.out,⟨fun h=>⟨h,HSL.out,HU.out⟩,fun h _ _ _=>h⟩,HG.out⟩
section
open Go.RowKit Go.ChangeShapes Go.WideShapes Go.ChangeAt
theorem qg5{α:Type}{n:Nat}{Q:Nat→α→Prop}(h:∀i,i<n→∃x,Q i x):∃l:List α,l.length=n∧∀i (hi:i<l.length),Q i l[i]:=by
 induction n with
 | zero=>exact⟨[],rfl,fun i hi=>absurd hi (jp i)⟩
 | succ n ih =>
  obtain⟨l,hl,hq⟩:=ih fun i hi=>h i (by omega)
  obtain⟨x,hx⟩:=h n (by omega)
  refine⟨l++[x],by simp[hl],fun i hi => ?_⟩
  rw[qd,jd] at hi
  by_cases e:i<l.length
  ·
   rw[qba e];exact hq i e
  ·
   have:i=n:=by omega
   subst this
   rw[qce (by omega)]
   simpa[hl] using hx
structure Els (w:World) (lo hi:Nat) (A:Option Addr) (c k n:Nat) (cell:Nat→Nat→Option Value):Prop where
 len:n≤c
 cap:c≤maxLen
 lies:0<n→∃b off,A=some ⟨b,off,none⟩∧lo≤b∧b<hi∧∀j,j<n→∀i,i<k→w.cell? ⟨b,off+j*k+i,none⟩=cell j i
theorem Els.keep{w w':World}{lo hi c k n:Nat}{A:Option Addr}{cell:Nat→Nat→Option Value}(h:Els w lo hi A c k n cell)(hk:∀p:Addr,lo≤p.block→p.block<hi→w'.cell? p=w.cell? p):Els w' lo hi A c k n cell :=
 ⟨h.len,h.cap,fun h0=>by
  obtain⟨b,off,e,h1,h2,h3⟩:=h.lies h0
  exact⟨b,off,e,h1,h2,fun j hj i hi=>(hk ⟨b,off+j*k+i,none⟩ h1 h2).trans (h3 j hj i hi)⟩⟩
theorem Els.below{w w':World}{lo hi c k n B:Nat}{A:Option Addr}{cell:Nat→Nat→Option Value}(h:Els w lo hi A c k n cell)(hb:Below B w w')(hB:hi≤B):Els w' lo hi A c k n cell :=
 h.keep fun _ _ hp=>hb.cell (by omega)
theorem Els.wide{w:World}{lo hi lo' hi' c k n:Nat}{A:Option Addr}{cell:Nat→Nat→Option Value}(h:Els w lo hi A c k n cell)(h1:lo'≤lo)(h2:hi≤hi'):Els w lo' hi' A c k n cell :=
 ⟨h.len,h.cap,fun h0=>by
  obtain⟨b,off,e,h3,h4,h5⟩:=h.lies h0
  exact⟨b,off,e,by omega,by omega,h5⟩⟩
theorem Els.nil(w:World)(lo hi k:Nat)(cell:Nat→Nat→Option Value):Els w lo hi none 0 k 0 cell:=⟨qc _,by simp[maxLen],fun h=>absurd h (qaq 0)⟩
variable {H:Type}{enc:TypeId×Value→H}{P:Program}{W:World}
end
inductive Pr where
 | mk (kind col:Int) (s:ByteArray) (esc coll:Int) (kids:List Pr)
def Pr.kind:Pr→Int | .mk k _ _ _ _ _=>k
def Pr.col:Pr→Int | .mk _ c _ _ _ _=>c
def Pr.s:Pr→ByteArray | .mk _ _ s _ _ _=>s
def Pr.esc:Pr→Int | .mk _ _ _ e _ _=>e
def Pr.coll:Pr→Int | .mk _ _ _ _ c _=>c
def Pr.kids:Pr→List Pr | .mk _ _ _ _ _ l=>l
def I64(z:Int):Prop := -9223372036854775808≤z∧z≤9223372036854775807
structure PrOk (p:Pr):Prop where
 s:p.s.size≤9223372036854775807
 kind:I64 p.kind
 col:I64 p.col
 esc:I64 p.esc
 coll:I64 p.coll
def prVals(p:Pr)(A:Option Addr)(c:Nat):List Value:=[.int .i64 p.kind,.int .i64 p.col,.string p.s,.int .i64 p.esc,.int .i64 p.coll,.slice A p.kids.length c]
inductive Kin (w:World) (lo hi:Nat):List Pr→Option Addr→Nat→Prop
 | mk (l:List Pr) (A:Option Addr) (c:Nat) (kA:Nat→Option Addr) (kc:Nat→Nat) (he:Els w lo hi A c 6 l.length (fun j i=>(l[j]?).bind fun p=>(prVals p (kA j) (kc j))[i]?))
   (ho:∀j (hj:j<l.length),PrOk l[j]) (hk:∀j (hj:j<l.length),Kin w lo hi l[j].kids (kA j) (kc j)):Kin w lo hi l A c
theorem Kin.kept{w w':World}{lo hi B:Nat}(hb:Below B w w')(hB:hi≤B){l:List Pr}{A:Option Addr}{c:Nat}(h:Kin w lo hi l A c):Kin w' lo hi l A c:=by
 induction h with
 | mk l A c kA kc he ho hk ih=>exact .mk l A c kA kc (he.below hb hB) ho ih
theorem Kin.drewN{w:World}{lo hi:Nat}{l:List Pr}{A:Option Addr}{c:Nat}(h:Kin w lo hi l A c)(m:Nat):Kin (w.drewN m) lo hi l A c:=by
 induction h with
 | mk l A c kA kc he ho hk ih=>exact .mk l A c kA kc (he.keep fun _ _ _=>rfl) ho ih
theorem Kin.wide{w:World}{lo hi lo' hi':Nat}{l:List Pr}{A:Option Addr}{c:Nat}(h1:lo'≤lo)(h2:hi≤hi')(h:Kin w lo hi l A c):Kin w lo' hi' l A c:=by
 induction h with
 | mk l A c kA kc he ho hk ih=>exact .mk l A c kA kc (he.wide h1 h2) ho ih
theorem Kin.len{w:World}{lo hi:Nat}{l:List Pr}{A:Option Addr}{c:Nat}(h:Kin w lo hi l A c):l.length≤c∧c≤9223372036854775807:=by
 cases h with
 | mk l A c kA kc he ho hk=>exact⟨he.len,by have:=he.cap;simpa[maxLen] using this⟩
theorem Kin.get{w:World}{lo hi:Nat}{l:List Pr}{A:Option Addr}{c:Nat}(h:Kin w lo hi l A c){j:Nat}(hj:j<l.length) :
  ∃b off kA kc,A=some ⟨b,off,none⟩∧lo≤b∧b<hi∧(∀i,i<6→w.cell? ⟨b,off+j*6+i,none⟩=(prVals l[j] kA kc)[i]?)∧PrOk l[j]∧Kin w lo hi l[j].kids kA kc:=by
 cases h with
 | mk l A c kA kc he ho hk =>
  obtain⟨b,off,h1,h2,h3,h4⟩:=he.lies (by omega)
  refine⟨b,off,kA j,kc j,h1,h2,h3,fun i hi => ?_,ho j hj,hk j hj⟩
  have:=h4 j hj i hi
  rw[qe hj] at this
  exact this
def PrV(w:World)(lo hi:Nat)(v:Value)(p:Pr):Prop:=∃A c,v= .agg #[.int .i64 p.kind,.int .i64 p.col,.string p.s,.int .i64 p.esc,.int .i64 p.coll,.slice A p.kids.length c]∧PrOk p∧Kin w lo hi p.kids A c
theorem PrV.below{w w':World}{lo hi B:Nat}{v:Value}{p:Pr}(h:PrV w lo hi v p)(hb:Below B w w')(hB:hi≤B):PrV w' lo hi v p:=by
 obtain⟨A,c,h1,h2,h3⟩:=h
 exact⟨A,c,h1,h2,h3.kept hb hB⟩
theorem PrV.drewN{w:World}{lo hi:Nat}{v:Value}{p:Pr}(h:PrV w lo hi v p)(m:Nat):PrV (w.drewN m) lo hi v p:=by
 obtain⟨A,c,h1,h2,h3⟩:=h
 exact⟨A,c,h1,h2,h3.drewN m⟩
theorem PrV.wide{w:World}{lo hi lo' hi':Nat}{v:Value}{p:Pr}(h:PrV w lo hi v p)(h1:lo'≤lo)(h2:hi≤hi'):PrV w lo' hi' v p:=by
 obtain⟨A,c,h3,h4,h5⟩:=h
 exact⟨A,c,h3,h4,h5.wide h1 h2⟩
structure Vl where
 null:Bool
 s:ByteArray
 deriving DecidableEq
def qcn(v:Vl):List Value:=[.bool v.null,.string v.s]
structure Row (w:World) (lo hi:Nat) (A:Option Addr) (c:Nat) (r:List Vl):Prop where
 els:Els w lo hi A c 2 r.length (fun j i=>(r[j]?).bind fun v=>(qcn v)[i]?)
 ok:∀v∈r,v.s.size≤9223372036854775807
theorem Row.below{w w':World}{lo hi B c:Nat}{A:Option Addr}{r:List Vl}(h:Row w lo hi A c r)(hb:Below B w w')(hB:hi≤B):Row w' lo hi A c r:=⟨h.els.below hb hB,h.ok⟩
theorem Row.drewN{w:World}{lo hi c:Nat}{A:Option Addr}{r:List Vl}(h:Row w lo hi A c r)(m:Nat):Row (w.drewN m) lo hi A c r:=⟨h.els.keep fun _ _ _=>rfl,h.ok⟩
theorem Row.wide{w:World}{lo hi lo' hi' c:Nat}{A:Option Addr}{r:List Vl}(h:Row w lo hi A c r)(h1:lo'≤lo)(h2:hi≤hi'):Row w lo' hi' A c r:=⟨h.els.wide h1 h2,h.ok⟩
theorem Row.len{w:World}{lo hi c:Nat}{A:Option Addr}{r:List Vl}(h:Row w lo hi A c r):r.length≤c∧c≤9223372036854775807:=⟨h.els.len,by have:=h.els.cap;simpa[maxLen] using this⟩
theorem Row.get{w:World}{lo hi c:Nat}{A:Option Addr}{r:List Vl}(h:Row w lo hi A c r){j:Nat}(hj:j<r.length) :
  ∃b off,A=some ⟨b,off,none⟩∧lo≤b∧b<hi∧w.cell? ⟨b,off+j*2,none⟩=some (.bool r[j].null)∧w.cell? ⟨b,off+j*2+1,none⟩=some (.string r[j].s):=by
 obtain⟨b,off,h1,h2,h3,h4⟩:=h.els.lies (by omega)
 have h5:=h4 j hj 0 (by omega)
 have h6:=h4 j hj 1 (by omega)
 rw[qe hj] at h5 h6
 exact⟨b,off,h1,h2,h3,h5,h6⟩
structure Rows2 (w:World) (lo hi:Nat) (A:Option Addr) (c:Nat) (rs:List (List Vl)) (rA:Nat→Option Addr) (rc:Nat→Nat):Prop where
 els:Els w lo hi A c 1 rs.length (fun j i=>(rs[j]?).bind fun r=>[Value.slice (rA j) r.length (rc j)][i]?)
 row:∀j (hj:j<rs.length),Row w lo hi (rA j) (rc j) rs[j]
theorem Rows2.below{w w':World}{lo hi B c:Nat}{A:Option Addr}{rs:List (List Vl)}{rA:Nat→Option Addr}{rc:Nat→Nat}(h:Rows2 w lo hi A c rs rA rc)(hb:Below B w w')(hB:hi≤B):Rows2 w' lo hi A c rs rA rc :=
 ⟨h.els.below hb hB,fun j hj=>(h.row j hj).below hb hB⟩
theorem Rows2.drewN{w:World}{lo hi c:Nat}{A:Option Addr}{rs:List (List Vl)}{rA:Nat→Option Addr}{rc:Nat→Nat}(h:Rows2 w lo hi A c rs rA rc)(m:Nat):Rows2 (w.drewN m) lo hi A c rs rA rc :=
 ⟨h.els.keep fun _ _ _=>rfl,fun j hj=>(h.row j hj).drewN m⟩
theorem Rows2.wide{w:World}{lo hi lo' hi' c:Nat}{A:Option Addr}{rs:List (List Vl)}{rA:Nat→Option Addr}{rc:Nat→Nat}(h:Rows2 w lo hi A c rs rA rc)(h1:lo'≤lo)(h2:hi≤hi'):Rows2 w lo' hi' A c rs rA rc :=
 ⟨h.els.wide h1 h2,fun j hj=>(h.row j hj).wide h1 h2⟩
theorem Rows2.len{w:World}{lo hi c:Nat}{A:Option Addr}{rs:List (List Vl)}{rA:Nat→Option Addr}{rc:Nat→Nat}(h:Rows2 w lo hi A c rs rA rc):rs.length≤c∧c≤9223372036854775807:=⟨h.els.len,by have:=h.els.cap;simpa[maxLen] using this⟩
theorem Rows2.get{w:World}{lo hi c:Nat}{A:Option Addr}{rs:List (List Vl)}{rA:Nat→Option Addr}{rc:Nat→Nat}(h:Rows2 w lo hi A c rs rA rc){j:Nat}(hj:j<rs.length) :
  ∃b off,A=some ⟨b,off,none⟩∧lo≤b∧b<hi∧w.cell? ⟨b,off+j,none⟩=some (.slice (rA j) rs[j].length (rc j))∧Row w lo hi (rA j) (rc j) rs[j]:=by
 obtain⟨b,off,h1,h2,h3,h4⟩:=h.els.lies (by omega)
 have h5:=h4 j hj 0 (by omega)
 rw[qe hj,va] at h5
 exact⟨b,off,h1,h2,h3,h5,h.row j hj⟩
end Go.Proofs.YtnjkipnklpkaoaaGreat
