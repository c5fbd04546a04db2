/-
  Lemmas.
-/
import Derived.Test.YtjfecojdagmacaaGreatD03
import Derived.ChangeShapes
import Derived.SizedLaws
import Derived.WideShapes
namespace Go.Proofs.YtjfecojdagmacaaGreat
open Go.RowKit
set_option maxRecDepth 20000
set_option maxHeartbeats 16000000
set_option linter.unusedSimpArgs false
set_option linter.unusedVariables false
theorem qkz(bs:List UInt8)(k:Nat){e:Int}(m:Int)(h:e≠0):qa4 bs k e m=([],k,e):=by
 unfold qa4
 rw[qib _ _ _ h]
 dsimp only
 rw[qcx _ _ _ _ _ h]
 have:=qk0 bs 0 (([]:List UInt8).headD 0).toNat k e h
 rw[this.1]
 have h2:qfs (([]:List UInt8).headD 0).toNat e=e:=by unfold qfs;simp[h]
 rw[h2]
theorem qjb{bs:List UInt8}{k k2:Nat}{m:Nat}{ns:List Nat}(hk:k≤bs.length)(hm:m≤2147483647)(h:qa4 bs k 0 (m:Int)=(ns,k2,0)) :
  ns.length≤m∧qok (z8 ns)∧bs.drop k=js (z8 ns)++bs.drop k2∧k2=k+(js (z8 ns)).length∧k2≤bs.length:=by
 have hmm:min (m:Int) 2147483647=(m:Int):=by omega
 unfold qa4 at h
 rw[hmm] at h
 obtain⟨M,hM⟩:∃M,jw bs k 0 (m:Int)=M:=⟨_,rfl⟩
 rw[hM] at h
 obtain⟨n,k1,e1⟩:=M
 dsimp only at h
 by_cases he1:e1=0
 ·
  subst he1
  obtain⟨g1,g2,g3,g4,g5⟩:=qbp hk hM
  by_cases h1:k1+1≤bs.length
  ·
   have hT:jo bs k1 0 0 1=([bs[k1]],k1+1,0):=by
    have:=qcw bs k1 1 h1
    rw[jc (by omega)] at this
    exact this
   rw[hT] at h
   dsimp only[List.headD_cons] at h
   have hbyte:UInt8.ofNat bs[k1].toNat=bs[k1]:=by simp
   have hd1:bs.drop k1=bs[k1] :: bs.drop (k1+1):=jc (by omega)
   generalize hx:bs[k1].toNat=wd at *
   unfold qd9 at h
   by_cases hw:wd≤32
   ·
    rw[qpf hw] at h
    by_cases h2:k1+1+(n*wd+7)/8≤bs.length
    ·
     have hUL:((bs.drop (k1+1)).take ((n*wd+7)/8)).length=(n*wd+7)/8:=by simp;omega
     have hd2:bs.drop (k1+1)=(bs.drop (k1+1)).take ((n*wd+7)/8)++bs.drop (k1+1+(n*wd+7)/8):=(zx ((n*wd+7)/8) (bs.drop (k1+1))).symm.trans (by rw[jh])
     rw[qcw bs (k1+1) _ h2] at h
     dsimp only at h
     generalize (bs.drop (k1+1)).take ((n*wd+7)/8)=ub at *
     unfold qde at h
     rw[if_neg (by simp)] at h
     by_cases hc:wd=wide (z8 (qch ub wd n))∧qbf ub<2 ^ (n*wd)
     ·
      rw[if_pos hc] at h
      simp only[Prod.mk.injEq,and_true] at h
      obtain⟨rfl,rfl⟩:=h
      have hgl:(qch ub wd n).length=n:=qd0 _ _ _
      have hW:js (z8 (qch ub wd n))=ji n++([bs[k1]]++ub):=by
       unfold js
       rw[zu,hgl,←hc.1,qo0,pack_gets ub wd n hUL hc.2,hbyte]
      refine⟨by omega,?_,?_,?_,h2⟩
      ·
       intro z hz
       obtain⟨x,hx,rfl⟩:=zl.1 hz
       have h3:=getsN_lt ub wd n x hx
       have h4:2 ^ wd≤2 ^ 32:=yg (by omega) hw
       omega
      ·
       rw[hW,g3,hd1,hd2]
       simp
      ·
       rw[hW,qd,qd,hUL,zy]
       omega
     ·
      rw[if_neg hc] at h
      simp at h
    ·
     rw[qc0 bs (k1+1) _ (by omega)] at h
     unfold qde at h
     rw[if_pos (show(2:Int)≠0 by decide)] at h
     simp at h
   ·
    have h3:qfs wd 0=3:=by
     unfold qfs
     rw[if_neg hw,if_pos rfl]
    rw[h3,qcx _ _ _ _ _ (by decide)] at h
    unfold qde at h
    rw[if_pos (show(3:Int)≠0 by decide)] at h
    simp at h
  ·
   have hT:jo bs k1 0 0 1=([],k1,2):=qc0 bs k1 1 (by omega)
   rw[hT] at h
   dsimp only at h
   have h4:=qk0 bs n (([]:List UInt8).headD 0).toNat k1 2 (by decide)
   rw[h4.1] at h
   simp only[Prod.mk.injEq] at h
   exact absurd h.2.2 h4.2
 ·
  rw[qcx _ _ _ _ _ he1] at h
  have h4:=qk0 bs n (([]:List UInt8).headD 0).toNat k1 e1 he1
  dsimp only at h
  rw[h4.1] at h
  simp only[Prod.mk.injEq] at h
  exact absurd h.2.2 h4.2
theorem qh7{bs rest:List UInt8}{k:Nat}(zs:List Int)(hz:qok zs)(m:Nat)(hk:k≤bs.length)(h:bs.drop k=js zs++rest)(hl:zs.length≤m)(hm:m≤2147483647):qa4 bs k 0 (m:Int)=(qbn zs,k+(js zs).length,0):=by
 have hmm:min (m:Int) 2147483647=(m:Int):=by omega
 have hw:=hz.wide_le
 have h1:bs.drop k=ji zs.length++(UInt8.ofNat (wide zs) :: (qa5 (wide zs) (qbn zs)++rest)):=by rw[h,js];simp
 have hM:=ut (m:=(m:Int)) h1 (by omega) (by omega)
 have hpl:(qa5 (wide zs) (qbn zs)).length=(zs.length*wide zs+7)/8:=by rw[qc4,uh]
 have hlen:bs.length-k=(ji zs.length).length+((zs.length*wide zs+7)/8+rest.length+1):=by
  rw[←qy,h1]
  simp[hpl]
 have hd1:bs.drop (k+(ji zs.length).length)=UInt8.ofNat (wide zs) :: (qa5 (wide zs) (qbn zs)++rest):=by rw[←jh,h1,ym]
 have hd2:bs.drop (k+(ji zs.length).length+1)=qa5 (wide zs) (qbn zs)++rest:=by
  rw[←jh,hd1]
  rfl
 have hT:jo bs (k+(ji zs.length).length) 0 0 1=([UInt8.ofNat (wide zs)],k+(ji zs.length).length+1,0):=by
  have:=qcw bs (k+(ji zs.length).length) 1 (by omega)
  rw[hd1] at this
  exact this
 have hU:=qcw bs (k+(ji zs.length).length+1) ((zs.length*wide zs+7)/8) (by omega)
 rw[hd2,←hpl,List.take_left] at hU
 rw[hpl] at hU
 have hlt:∀x∈qbn zs,x<2 ^ wide zs:=by
  have:=hz.fits.nats_lt
  rwa [vr] at this
 have hg:qch (qa5 (wide zs) (qbn zs)) (wide zs) zs.length=qbn zs:=by
  have:=gets_pack (wide zs) (qbn zs) hlt
  rwa [uh] at this
 have hwl:(js zs).length=(ji zs.length).length+((zs.length*wide zs+7)/8+1):=by rw[js];simp[hpl]
 unfold qa4
 rw[hmm,hM]
 dsimp only
 rw[hT]
 dsimp only
 rw[show([UInt8.ofNat (wide zs)].headD 0).toNat=wide zs from qia (by omega)]
 unfold qd9
 rw[qpf hw,hU]
 unfold qde
 dsimp only
 rw[if_neg (by simp),hg,if_pos]
 ·
  rw[hwl]
  simp only[Prod.mk.injEq,and_true,true_and]
  omega
 refine⟨by rw[ql1 (fun z h=>(hz z h).1)],?_⟩
 rw[qnl _ _ hlt]
 have:=qno (wide zs) (qbn zs) hlt
 rwa [uh,xe] at this
structure UpG (gs:List Nat):Prop where
 up:gs.Pairwise (· < ·)
 lt:∀g∈gs,g<16777216
theorem UpG.nil:UpG []:=⟨List.Pairwise.nil,fun g h=>absurd h xv⟩
theorem UpG.take{gs:List Nat}(h:UpG gs)(k:Nat):UpG (gs.take k):=⟨h.up.sublist (List.take_sublist k gs),fun g hg=>h.lt g (yz hg)⟩
theorem ql4(gs:List Nat)(i k:Nat)(h:i<k):(gs.take k).getD i 0=gs.getD i 0:=by
 simp[List.getD,uq,h]
theorem qg0(gs:List Nat)(k:Nat):yp (gs.take k)=(yp gs).take k:=by
 apply qco
 ·
  simp[yp]
 ·
  intro i h1 h2
  simp only[yp,j6,List.getElem_range,qa1]
  have hi:i<k:=by
   rw[yd,qz] at h1
   omega
  rw[ql4 gs i k hi,ql4 gs 0 k (by omega),ql4 gs (i-1) k (by omega)]
theorem qij(gs:List Nat)(g:Nat):yp (gs++[g])=yp gs++[(g:Int)-(qgl gs gs.length:Int)]:=by
 apply qem
 intro i
 rcases qei i gs.length with h | h | h
 ·
  rw[xa (by rw[yd];exact h)]
  have e:=qg0 (gs++[g]) gs.length
  rw[List.take_left] at e
  rw[e,uq,if_pos h]
 ·
  subst h
  have hs:(yp (gs++[g])).length=gs.length+1:=by rw[yd,qd];rfl
  rw[xr (by rw[yd];exact qc _),yd,qdn,qe (by omega)]
  simp only[zq,Option.some.injEq]
  simp only[yp,j6,List.getElem_range,qgl]
  by_cases h0:gs.length=0
  ·
   have:gs=[]:=zh h0
   subst this
   simp
  ·
   rw[if_neg h0,if_neg h0]
   have h5:(gs++[g]).getD (gs.length-1) 0=gs.getD (gs.length-1) 0:=by simp[List.getD,xa (show gs.length-1<gs.length by omega)]
   have h6:(gs++[g]).getD gs.length 0=g:=by simp[List.getD]
   rw[h5,h6]
 ·
  rw[yh (by rw[yd,qd,zy];omega),yh (by rw[qd,yd,zy];omega)]
theorem qmv:∀ {a b:List Nat},yp a=yp b→a=b:=by
 intro a b h
 have hl:a.length=b.length:=by rw[←yd a,h,yd]
 have key:∀k,k≤a.length→a.take k=b.take k:=by
  intro k
  induction k with
  | zero=>intro _;simp
  | succ k ih =>
   intro hk
   have e:=ih (by omega)
   have h1:=qg0 a (k+1)
   have h2:=qg0 b (k+1)
   rw[h,←h2,qj (show k<a.length by omega),qj (show k<b.length by omega),e,qij,qij] at h1
   have h3:=vi h1
   simp only[List.cons.injEq,and_true] at h3
   rw[qj (show k<a.length by omega),qj (show k<b.length by omega),e]
   congr 2
   omega
 have:=key a.length (qc _)
 rwa [yw,hl,yw] at this
def qg8(gs:List Nat):Int:=if gs.length=0 then -1 else ((gs.getD (gs.length-1) 0:Nat):Int)
theorem lastG_snoc(gs:List Nat)(g:Nat):qg8 (gs++[g])=(g:Int):=by simp[qg8,List.getD]
theorem lastG_max(gs:List Nat):max (qg8 gs) 0=(qgl gs gs.length:Int):=by
 unfold qg8 qgl
 split <;> omega
theorem lastG_lt{gs:List Nat}(h:UpG gs) : -1≤qg8 gs∧qg8 gs<16777216:=by
 unfold qg8
 split
 ·
  omega
 ·
  rename_i h0
  have:=h.lt (gs.getD (gs.length-1) 0) (by rw[List.getD,qe (by omega)];exact ql _)
  omega
theorem UpG.snoc{gs:List Nat}{g:Nat}(h:UpG gs)(h1:qg8 gs<(g:Int))(h2:g<16777216):UpG (gs++[g]):=by
 refine⟨List.pairwise_append.2 ⟨h.up,List.pairwise_singleton _ _,fun a ha b hb => ?_⟩,fun x hx => ?_⟩
 ·
  rw[ze] at hb
  subst hb
  obtain⟨j,hj,rfl⟩:=zc ha
  unfold qg8 at h1
  rw[if_neg (by omega)] at h1
  rw[List.getD,qe (by omega),qax] at h1
  rcases vf j (gs.length-1) with h3 | h3
  ·
   have:=ui.1 h.up j (gs.length-1) hj (by omega) h3
   omega
  ·
   have:j=gs.length-1:=by omega
   subst this
   omega
 ·
  rcases zm.1 hx with hx | hx
  ·
   exact h.lt x hx
  ·
   rw[ze] at hx
   exact hx ▸ h2
theorem UpG.next{gs t:List Nat}{k:Nat}{ns:List Nat}(h:UpG gs)(hs:yp gs=z8 ns)(ht:yp t=z8 (ns.take k))(hk:k<ns.length) :
  ∃g:Nat,(g:Int)=(qgl t t.length:Int)+(ns[k]:Int)∧qg8 t<(g:Int)∧g<16777216:=by
 have hl:gs.length=ns.length:=by rw[←yd,hs,zu]
 have e:gs.take k=t:=qmv (by rw[qg0,hs,ht,z8,z8,qbt])
 have hkg:k<gs.length:=by omega
 have h2:=qg0 gs (k+1)
 rw[qj hkg,e,qij,hs] at h2
 rw[z8,←qbt,qj hk,jl,ht,z8] at h2
 have h3:=vi h2
 simp only[yc,vu,List.cons.injEq,and_true] at h3
 have htl:t.length=k:=by rw[←e,qz];omega
 refine⟨gs[k],by omega,?_,h.lt _ (ql hkg)⟩
 unfold qg8
 split
 ·
  omega
 ·
  rename_i h0
  have h5:t.getD (t.length-1) 0=gs[k-1]'(by omega):=by
   have h6:=ql4 gs (k-1) k (by omega)
   rw[e] at h6
   rw[htl,h6,List.getD,qe (show k-1<gs.length by omega)]
   rfl
  rw[h5]
  have:=ui.1 h.up (k-1) k (by omega) hkg (by omega)
  omega
structure ListG (ns:List Nat) (e:Int) (gs:List Nat) (e':Int):Prop where
 ok:e'=0→e=0∧yp gs=z8 ns∧UpG gs
 there:e=0→∀gs0,UpG gs0→yp gs0=z8 ns→e'=0
def qln(ns t:List Nat)(xs:List Value):Prop:=xs.length=ns.length∧(∀j,j<t.length→xs[j]? = (iv (z8 t))[j]?)∧∀j,t.length≤j→xs[j]? = (iv (z8 ns))[j]?
theorem qln.zero(ns:List Nat):qln ns [] (iv (z8 ns)):=⟨by rw[jz,zu],fun j h=>absurd h (ja j),fun _ _=>rfl⟩
theorem qln.snoc{ns t:List Nat}{xs:List Value}(h:qln ns t xs)(g:Nat)(ht:t.length<ns.length):qln ns (t++[g]) (xs.set t.length (.int .i64 (g:Int))):=by
 refine⟨by rw[jn];exact h.1,fun j hj => ?_,fun j hj => ?_⟩
 ·
  rw[qd,zy] at hj
  have hgi:(iv (z8 (t++[g])))=iv (z8 t)++[.int .i64 (g:Int)]:=by simp[iv,z8]
  rw[hgi]
  by_cases e:j=t.length
  ·
   subst e
   rw[qdo (by rw[h.1];exact ht),xr (by rw[jz,zu];exact qc _),jz,zu,qdn]
   rfl
  ·
   rw[List.getElem?_set_ne (by omega),h.2.1 j (by omega),xa (by rw[jz,zu];omega)]
 ·
  rw[qd,zy] at hj
  rw[List.getElem?_set_ne (by omega)]
  exact h.2.2 j (by omega)
theorem qln.all{ns t:List Nat}{xs:List Value}(h:qln ns t xs)(ht:t.length=ns.length):xs=iv (z8 t):=by
 apply qem
 intro j
 rcases vf j t.length with hj | hj
 ·
  exact h.2.1 j hj
 ·
  rw[yh (by rw[h.1];omega),yh (by rw[jz,zu];omega)]
theorem qln.get{ns t:List Nat}{xs:List Value}(h:qln ns t xs)(ht:t.length<ns.length):xs[t.length]? = some (.int .i64 ((ns[t.length]:Nat):Int)):=by
 rw[h.2.2 _ (qc _),iv_get _ _ (by rw[zu];exact ht)]
 simp[z8]
theorem gtakeList_any{w:World}{lo g k:Nat}{bs:List UInt8}{e:Int}(hc:vx w lo g bs k e)(hbs:bs.length≤1000000000)(ns:List Nat)(k1:Nat)(e1:Int)(hR:qa4 bs k e 65536=(ns,k1,e1))(hns:∀x∈ns,x<4294967296)(hnl:ns.length≤2147483647) :
  Calls Tryz.prog 124 #[cp g] w fun r w'=>∃(gs:List Nat) (A:Option Addr) (c:Nat) (e':Int),r= .returned (.slice A gs.length c)∧w'.ownsRow w.heap.size 3 1 (.slice A gs.length c) gs.length (iv (z8 gs))∧
   vx w' lo g bs k1 e'∧ListG ns e1 gs e'∧w.grownBy w' (some g):=by
 have hgl:=hc.lt
 have HPR:=qa (qox 65536 hc (by omega))
 rw[hR] at HPR
 dsimp only at HPR
 have HNS:Hid (∀k (hk:k<ns.length),ns[k]<4294967296):=fun k hk=>hns _ (ql hk)
 clear hc hR hns
 unfold cp
 go_enter Tryz.func124,Tryz.ntmps124
 go_wp2_with fail
 refine HPR.out.mono ?_
 rintro r w1 ⟨A1,c1,rfl,ho1,hc1,hg1⟩
 have HO1:=qa ho1
 have HC1:=qa hc1
 have HG1:=qa hg1
 have s1:=hg1.size
 have hlc:=(Rd.of_own ho1).len
 have hmc:=(Rd.of_own ho1).cap
 rw[jz,zu] at hlc
 unfold maxLen at hmc
 clear ho1 hc1 hg1 HPR
 go_wp2_with fail
 go_loopw [4,12] (fun x4 x12 wr=>∃(k:Nat) (t:List Nat) (xs:List Value),k≤ns.length∧x12= .int .i64 (k:Int)∧x4= .int .i64 (qg8 t)∧t.length=k∧UpG t∧yp t=z8 (ns.take k)∧wr.ownsRow w.heap.size 3 1 (.slice A1 ns.length c1) ns.length xs∧qln ns t xs∧vx wr lo g bs k1 e1∧w.grownBy wr (some g)) (fun _ x12 _=>ns.length-(intOf x12).toNat)
 case atStart=>exact⟨0,[],_,qi _,rfl,rfl,rfl,UpG.nil,rfl,HO1.out,qln.zero ns,HC1.out,HG1.out⟩
 case round =>
  clear HO1 HC1 HG1
  obtain⟨k,t,xs,hk,rfl,rfl,htl,hup,hst,hown,hha,hcu,hgb⟩:=hrel
  obtain⟨wz,hwz⟩:∃wz,wz=wr:=⟨_,rfl⟩
  subst hwz
  have HTL:=qa htl
  have HU:=qa hup
  have HS:=qa hst
  have HO:=qa hown
  have HH:=qa hha
  have HC:=qa hcu
  have HG:=qa hgb
  clear htl hup hst hown hha hcu hgb
  by_cases hlt:k<ns.length
  ·
   have ik:(k:Int)<(ns.length:Int):=by omega
   obtain⟨gb,rfl,hgb1,hgb2⟩:=qcg HO.out (by omega)
   have hget:xs[k]? = some (.int .i64 ((ns[k]:Nat):Int)):=by
    have:=HH.out.get (by rw[HTL.out];exact hlt)
    simpa only[HTL.out] using this
   have hcell:wz.cell? ⟨gb,k,none⟩=some (.int .i64 ((ns[k]:Nat):Int)):=by rw[HO.out.cellAt k (by omega),hget]
   have hfr:=HO.out.frozenAt k
   have hx:=HNS.out k hlt
   have hzl:=lastG_lt HU.out
   have hmx:max (qg8 t) 0=(qgl t k:Int):=by
    have:=lastG_max t
    rwa [HTL.out] at this
   have HNX:Hid (∀gs0,UpG gs0→yp gs0=z8 ns→∃q:Nat,(q:Int)=(qgl t k:Int)+(ns[k]:Int)∧qg8 t<(q:Int)∧q<16777216):=fun gs0 h1 h2=>by
    have:=h1.next h2 HS.out hlt
    rwa [HTL.out] at this
   have HSN:Hid (∀q:Nat,(q:Int)=(qgl t k:Int)+(ns[k]:Int)→qg8 t<(q:Int)→q<16777216→UpG (t++[q])∧yp (t++[q])=z8 (ns.take (k+1))∧qg8 (t++[q])=(q:Int)):=fun q h1 h2 h3=>by
    refine⟨HU.out.snoc h2 h3,?_,lastG_snoc t q⟩
    rw[qij,HTL.out,HS.out,qj hlt,z8,z8,jl]
    congr 1
    simp only[yc,vu,List.cons.injEq,and_true]
    omega
   have HSET:=fun q:Nat=>qa (HH.out.snoc q (by rw[HTL.out];exact hlt))
   rw[HTL.out] at HSET
   have HSTO:=fun u=>qa (HO.out.stored k u)
   obtain⟨z,hz⟩:∃z,qg8 t=z:=⟨_,rfl⟩
   rw[hz] at hzl hmx HNX HSN ⊢
   have hpl:qgl t k<16777216:=by omega
   generalize qgl t k=p at *
   generalize ns[k]=x at *
   obtain⟨q,hq⟩:∃q:Nat,q=p+x:=⟨_,rfl⟩
   have iq:(p:Int)+(x:Int)=(q:Int):=by omega
   have HQ:=qa hq
   have hql:q<8589934592:=by omega
   clear hget hz hq
   by_cases h1:(q:Int)≤z
   ·
    have d1:decide ((q:Int)≤z)=true:=qx h1
    have HNO:Hid (∀gs0,UpG gs0→¬yp gs0=z8 ns):=fun gs0 h2 h3=>by
     obtain⟨q2,e1,e2,e3⟩:=HNX.out gs0 h2 h3
     omega
    have HFA:=qa (ua 3 HC.out)
    unfold cp at HFA
    clear HNX HSN HSET HSTO
    go_wp2_with fail
    refine HFA.out.mono ?_
    rintro r w5 ⟨rfl,hc5,hg5⟩
    have HC5:=qa hc5
    have HG5:=qa (HG.out.trans hg5)
    clear hc5 hg5 HFA
    go_wp2_with fail
    go_ret
    refine⟨[],none,0,_,rfl,zf ..,HC5.out,⟨fun h => ?_,fun _ gs0 h2 h3=>absurd h3 (HNO.out gs0 h2)⟩,HG5.out⟩
    exfalso
    split at h
    ·
     exact absurd h (by decide)
    ·
     rename_i h4;exact h4 h
   ·
    have d1:decide ((q:Int)≤z)=false:=qr h1
    by_cases h2:(16777215:Int)<(q:Int)
    ·
     have d2:decide ((16777215:Int)<(q:Int))=true:=qx h2
     have HNO:Hid (∀gs0,UpG gs0→¬yp gs0=z8 ns):=fun gs0 h2 h3=>by
      obtain⟨q2,e1,e2,e3⟩:=HNX.out gs0 h2 h3
      omega
     have HFA:=qa (ua 3 HC.out)
     unfold cp at HFA
     clear HNX HSN HSET HSTO
     go_wp2_with fail
     refine HFA.out.mono ?_
     rintro r w5 ⟨rfl,hc5,hg5⟩
     have HC5:=qa hc5
     have HG5:=qa (HG.out.trans hg5)
     clear hc5 hg5 HFA
     go_wp2_with fail
     go_ret
     refine⟨[],none,0,_,rfl,zf ..,HC5.out,⟨fun h => ?_,fun _ gs0 h2 h3=>absurd h3 (HNO.out gs0 h2)⟩,HG5.out⟩
     exfalso
     split at h
     ·
      exact absurd h (by decide)
     ·
      rename_i h4;exact h4 h
    ·
     have d2:decide ((16777215:Int)<(q:Int))=false:=qr h2
     obtain⟨a1,a2,a3⟩:=HSN.out q iq.symm (by omega) (by omega)
     have HU2:=qa a1
     have HS2:=qa a2
     have HL2:=qa a3
     have HT2:Hid ((t++[q]).length=k+1):=by unfold Hid;rw[qd,HTL.out];rfl
     have HO2:=qa (HSTO (.int .i64 (q:Int))).out.1
     have HC2:=qa (HC.out.grown (HSTO (.int .i64 (q:Int))).out.2 (fun x hx=> .inr (by injection hx with hx;omega)))
     have HG2:=qa (xy HG.out (p:=⟨gb,k,none⟩) (.inr hgb1) (.int .i64 (q:Int)))
     have HH2:=HSET q
     clear HNX HSN HSET HSTO a1 a2 a3
     go_wp2_with fail
     go_roundw
     case rel=>exact⟨k+1,t++[q],_,by omega,by go_num,by rw[HL2.out],HT2.out,HU2.out,HS2.out,HO2.out,HH2.out,HC2.out,HG2.out⟩
     case measure=>simp[intOf] <;> omega
  ·
   have ik:¬(k:Int)<(ns.length:Int):=by omega
   obtain rfl:k=ns.length:=by omega
   have hxs:=HH.out.all HTL.out
   have hoL:=HO.out
   rw[hxs,←HTL.out] at hoL
   have hsL:=HS.out
   rw[yw] at hsL
   have HOL:=qa hoL
   have HSL:=qa hsL
   clear hxs hoL hsL
   go_wp2_with fail
   go_ret
   rw[←HTL.out]
   exact⟨t,A1,c1,rfl,HOL.out,e1,HC.out,⟨fun h=>⟨h,HSL.out,HU.out⟩,fun h _ _ _=>h⟩,HG.out⟩
section
open Go.RowKit Go.ChangeShapes Go.WideShapes Go.ChangeAt
theorem qfp{α:Type}{n:Nat}{Q:Nat→α→Prop}(h:∀i,i<n→∃x,Q i x):∃l:List α,l.length=n∧∀i (hi:i<l.length),Q i l[i]:=by
 induction n with
 | zero=>exact⟨[],rfl,fun i hi=>absurd hi (ja i)⟩
 | succ n ih =>
  obtain⟨l,hl,hq⟩:=ih fun i hi=>h i (by omega)
  obtain⟨x,hx⟩:=h n (by omega)
  refine⟨l++[x],by simp[hl],fun i hi => ?_⟩
  rw[qd,zy] at hi
  by_cases e:i<l.length
  ·
   rw[xh e];exact hq i e
  ·
   have:i=n:=by omega
   subst this
   rw[vl (by omega)]
   simpa[hl] using hx
structure Els (w:World) (lo hi:Nat) (A:Option Addr) (c k n:Nat) (cell:Nat→Nat→Option Value):Prop where
 len:n≤c
 cap:c≤maxLen
 lies:0<n→∃b off,A=some ⟨b,off,none⟩∧lo≤b∧b<hi∧∀j,j<n→∀i,i<k→w.cell? ⟨b,off+j*k+i,none⟩=cell j i
theorem Els.keep{w w':World}{lo hi c k n:Nat}{A:Option Addr}{cell:Nat→Nat→Option Value}(h:Els w lo hi A c k n cell)(hk:∀p:Addr,lo≤p.block→p.block<hi→w'.cell? p=w.cell? p):Els w' lo hi A c k n cell :=
 ⟨h.len,h.cap,fun h0=>by
  obtain⟨b,off,e,h1,h2,h3⟩:=h.lies h0
  exact⟨b,off,e,h1,h2,fun j hj i hi=>(hk ⟨b,off+j*k+i,none⟩ h1 h2).trans (h3 j hj i hi)⟩⟩
theorem Els.below{w w':World}{lo hi c k n B:Nat}{A:Option Addr}{cell:Nat→Nat→Option Value}(h:Els w lo hi A c k n cell)(hb:Below B w w')(hB:hi≤B):Els w' lo hi A c k n cell :=
 h.keep fun _ _ hp=>hb.cell (by omega)
theorem Els.wide{w:World}{lo hi lo' hi' c k n:Nat}{A:Option Addr}{cell:Nat→Nat→Option Value}(h:Els w lo hi A c k n cell)(h1:lo'≤lo)(h2:hi≤hi'):Els w lo' hi' A c k n cell :=
 ⟨h.len,h.cap,fun h0=>by
  obtain⟨b,off,e,h3,h4,h5⟩:=h.lies h0
  exact⟨b,off,e,by omega,by omega,h5⟩⟩
theorem Els.nil(w:World)(lo hi k:Nat)(cell:Nat→Nat→Option Value):Els w lo hi none 0 k 0 cell:=⟨qc _,by simp[maxLen],fun h=>absurd h (qbb 0)⟩
variable {H:Type}{enc:TypeId×Value→H}{P:Program}{W:World}
end
inductive Pr where
 | mk (kind col:Int) (s:ByteArray) (esc coll:Int) (kids:List Pr)
def Pr.kind:Pr→Int | .mk k _ _ _ _ _=>k
def Pr.col:Pr→Int | .mk _ c _ _ _ _=>c
def Pr.s:Pr→ByteArray | .mk _ _ s _ _ _=>s
def Pr.esc:Pr→Int | .mk _ _ _ e _ _=>e
def Pr.coll:Pr→Int | .mk _ _ _ _ c _=>c
def Pr.kids:Pr→List Pr | .mk _ _ _ _ _ l=>l
def I64(z:Int):Prop := -9223372036854775808≤z∧z≤9223372036854775807
structure PrOk (p:Pr):Prop where
 s:p.s.size≤9223372036854775807
 kind:I64 p.kind
 col:I64 p.col
 esc:I64 p.esc
 coll:I64 p.coll
def prVals(p:Pr)(A:Option Addr)(c:Nat):List Value:=[.int .i64 p.kind,.int .i64 p.col,.string p.s,.int .i64 p.esc,.int .i64 p.coll,.slice A p.kids.length c]
inductive Kin (w:World) (lo hi:Nat):List Pr→Option Addr→Nat→Prop
 | mk (l:List Pr) (A:Option Addr) (c:Nat) (kA:Nat→Option Addr) (kc:Nat→Nat) (he:Els w lo hi A c 6 l.length (fun j i=>(l[j]?).bind fun p=>(prVals p (kA j) (kc j))[i]?))
   (ho:∀j (hj:j<l.length),PrOk l[j]) (hk:∀j (hj:j<l.length),Kin w lo hi l[j].kids (kA j) (kc j)):Kin w lo hi l A c
theorem Kin.kept{w w':World}{lo hi B:Nat}(hb:Below B w w')(hB:hi≤B){l:List Pr}{A:Option Addr}{c:Nat}(h:Kin w lo hi l A c):Kin w' lo hi l A c:=by
 induction h with
 | mk l A c kA kc he ho hk ih=>exact .mk l A c kA kc (he.below hb hB) ho ih
theorem Kin.drewN{w:World}{lo hi:Nat}{l:List Pr}{A:Option Addr}{c:Nat}(h:Kin w lo hi l A c)(m:Nat):Kin (w.drewN m) lo hi l A c:=by
 induction h with
 | mk l A c kA kc he ho hk ih=>exact .mk l A c kA kc (he.keep fun _ _ _=>rfl) ho ih
theorem Kin.wide{w:World}{lo hi lo' hi':Nat}{l:List Pr}{A:Option Addr}{c:Nat}(h1:lo'≤lo)(h2:hi≤hi')(h:Kin w lo hi l A c):Kin w lo' hi' l A c:=by
 induction h with
 | mk l A c kA kc he ho hk ih=>exact .mk l A c kA kc (he.wide h1 h2) ho ih
theorem Kin.len{w:World}{lo hi:Nat}{l:List Pr}{A:Option Addr}{c:Nat}(h:Kin w lo hi l A c):l.length≤c∧c≤9223372036854775807:=by
 cases h with
 | mk l A c kA kc he ho hk=>exact⟨he.len,by have:=he.cap;simpa[maxLen] using this⟩
theorem Kin.get{w:World}{lo hi:Nat}{l:List Pr}{A:Option Addr}{c:Nat}(h:Kin w lo hi l A c){j:Nat}(hj:j<l.length) :
  ∃b off kA kc,A=some ⟨b,off,none⟩∧lo≤b∧b<hi∧(∀i,i<6→w.cell? ⟨b,off+j*6+i,none⟩=(prVals l[j] kA kc)[i]?)∧PrOk l[j]∧Kin w lo hi l[j].kids kA kc:=by
 cases h with
 | mk l A c kA kc he ho hk =>
  obtain⟨b,off,h1,h2,h3,h4⟩:=he.lies (by omega)
  refine⟨b,off,kA j,kc j,h1,h2,h3,fun i hi => ?_,ho j hj,hk j hj⟩
  have:=h4 j hj i hi
  rw[qe hj] at this
  exact this
theorem Kin.six{w:World}{lo hi:Nat}{l:List Pr}{A:Option Addr}{c:Nat}(h:Kin w lo hi l A c){j:Nat}(hj:j<l.length) :
  ∃b off kA kc,A=some ⟨b,off,none⟩∧lo≤b∧b<hi∧w.cell? ⟨b,off+j*6,none⟩=some (.int .i64 l[j].kind)∧w.cell? ⟨b,off+j*6+1,none⟩=some (.int .i64 l[j].col)∧w.cell? ⟨b,off+j*6+2,none⟩=some (.string l[j].s)∧
   w.cell? ⟨b,off+j*6+3,none⟩=some (.int .i64 l[j].esc)∧w.cell? ⟨b,off+j*6+4,none⟩=some (.int .i64 l[j].coll)∧w.cell? ⟨b,off+j*6+5,none⟩=some (.slice kA l[j].kids.length kc)∧PrOk l[j]∧Kin w lo hi l[j].kids kA kc:=by
 obtain⟨b,off,kA,kc,h1,h2,h3,h4,h5,h6⟩:=h.get hj
 exact⟨b,off,kA,kc,h1,h2,h3,h4 0 (by omega),h4 1 (by omega),h4 2 (by omega),h4 3 (by omega),h4 4 (by omega),h4 5 (by omega),h5,h6⟩
def PrV(w:World)(lo hi:Nat)(v:Value)(p:Pr):Prop:=∃A c,v= .agg #[.int .i64 p.kind,.int .i64 p.col,.string p.s,.int .i64 p.esc,.int .i64 p.coll,.slice A p.kids.length c]∧PrOk p∧Kin w lo hi p.kids A c
theorem PrV.below{w w':World}{lo hi B:Nat}{v:Value}{p:Pr}(h:PrV w lo hi v p)(hb:Below B w w')(hB:hi≤B):PrV w' lo hi v p:=by
 obtain⟨A,c,h1,h2,h3⟩:=h
 exact⟨A,c,h1,h2,h3.kept hb hB⟩
theorem PrV.drewN{w:World}{lo hi:Nat}{v:Value}{p:Pr}(h:PrV w lo hi v p)(m:Nat):PrV (w.drewN m) lo hi v p:=by
 obtain⟨A,c,h1,h2,h3⟩:=h
 exact⟨A,c,h1,h2,h3.drewN m⟩
theorem PrV.wide{w:World}{lo hi lo' hi':Nat}{v:Value}{p:Pr}(h:PrV w lo hi v p)(h1:lo'≤lo)(h2:hi≤hi'):PrV w lo' hi' v p:=by
 obtain⟨A,c,h3,h4,h5⟩:=h
 exact⟨A,c,h3,h4,h5.wide h1 h2⟩
structure Vl where
 null:Bool
 s:ByteArray
 deriving DecidableEq
def qct(v:Vl):List Value:=[.bool v.null,.string v.s]
structure Row (w:World) (lo hi:Nat) (A:Option Addr) (c:Nat) (r:List Vl):Prop where
 els:Els w lo hi A c 2 r.length (fun j i=>(r[j]?).bind fun v=>(qct v)[i]?)
 ok:∀v∈r,v.s.size≤9223372036854775807
theorem Row.below{w w':World}{lo hi B c:Nat}{A:Option Addr}{r:List Vl}(h:Row w lo hi A c r)(hb:Below B w w')(hB:hi≤B):Row w' lo hi A c r:=⟨h.els.below hb hB,h.ok⟩
theorem Row.drewN{w:World}{lo hi c:Nat}{A:Option Addr}{r:List Vl}(h:Row w lo hi A c r)(m:Nat):Row (w.drewN m) lo hi A c r:=⟨h.els.keep fun _ _ _=>rfl,h.ok⟩
theorem Row.wide{w:World}{lo hi lo' hi' c:Nat}{A:Option Addr}{r:List Vl}(h:Row w lo hi A c r)(h1:lo'≤lo)(h2:hi≤hi'):Row w lo' hi' A c r:=⟨h.els.wide h1 h2,h.ok⟩
theorem Row.len{w:World}{lo hi c:Nat}{A:Option Addr}{r:List Vl}(h:Row w lo hi A c r):r.length≤c∧c≤9223372036854775807:=⟨h.els.len,by have:=h.els.cap;simpa[maxLen] using this⟩
theorem Row.get{w:World}{lo hi c:Nat}{A:Option Addr}{r:List Vl}(h:Row w lo hi A c r){j:Nat}(hj:j<r.length) :
  ∃b off,A=some ⟨b,off,none⟩∧lo≤b∧b<hi∧w.cell? ⟨b,off+j*2,none⟩=some (.bool r[j].null)∧w.cell? ⟨b,off+j*2+1,none⟩=some (.string r[j].s):=by
 obtain⟨b,off,h1,h2,h3,h4⟩:=h.els.lies (by omega)
 have h5:=h4 j hj 0 (by omega)
 have h6:=h4 j hj 1 (by omega)
 rw[qe hj] at h5 h6
 exact⟨b,off,h1,h2,h3,h5,h6⟩
structure Rows2 (w:World) (lo hi:Nat) (A:Option Addr) (c:Nat) (rs:List (List Vl)) (rA:Nat→Option Addr) (rc:Nat→Nat):Prop where
 els:Els w lo hi A c 1 rs.length (fun j i=>(rs[j]?).bind fun r=>[Value.slice (rA j) r.length (rc j)][i]?)
 row:∀j (hj:j<rs.length),Row w lo hi (rA j) (rc j) rs[j]
theorem Rows2.below{w w':World}{lo hi B c:Nat}{A:Option Addr}{rs:List (List Vl)}{rA:Nat→Option Addr}{rc:Nat→Nat}(h:Rows2 w lo hi A c rs rA rc)(hb:Below B w w')(hB:hi≤B):Rows2 w' lo hi A c rs rA rc :=
 ⟨h.els.below hb hB,fun j hj=>(h.row j hj).below hb hB⟩
theorem Rows2.drewN{w:World}{lo hi c:Nat}{A:Option Addr}{rs:List (List Vl)}{rA:Nat→Option Addr}{rc:Nat→Nat}(h:Rows2 w lo hi A c rs rA rc)(m:Nat):Rows2 (w.drewN m) lo hi A c rs rA rc :=
 ⟨h.els.keep fun _ _ _=>rfl,fun j hj=>(h.row j hj).drewN m⟩
theorem Rows2.wide{w:World}{lo hi lo' hi' c:Nat}{A:Option Addr}{rs:List (List Vl)}{rA:Nat→Option Addr}{rc:Nat→Nat}(h:Rows2 w lo hi A c rs rA rc)(h1:lo'≤lo)(h2:hi≤hi'):Rows2 w lo' hi' A c rs rA rc :=
 ⟨h.els.wide h1 h2,fun j hj=>(h.row j hj).wide h1 h2⟩
theorem Rows2.len{w:World}{lo hi c:Nat}{A:Option Addr}{rs:List (List Vl)}{rA:Nat→Option Addr}{rc:Nat→Nat}(h:Rows2 w lo hi A c rs rA rc):rs.length≤c∧c≤9223372036854775807:=⟨h.els.len,by have:=h.els.cap;simpa[maxLen] using this⟩
theorem Rows2.get{w:World}{lo hi c:Nat}{A:Option Addr}{rs:List (List Vl)}{rA:Nat→Option Addr}{rc:Nat→Nat}(h:Rows2 w lo hi A c rs rA rc){j:Nat}(hj:j<rs.length) :
  ∃b off,A=some ⟨b,off,none⟩∧lo≤b∧b<hi∧w.cell? ⟨b,off+j,none⟩=some (.slice (rA j) rs[j].length (rc j))∧Row w lo hi (rA j) (rc j) rs[j]:=by
 obtain⟨b,off,h1,h2,h3,h4⟩:=h.els.lies (by omega)
 have h5:=h4 j hj 0 (by omega)
 rw[qe hj,xp] at h5
 exact⟨b,off,h1,h2,h3,h5,h.row j hj⟩
def xd(e:Int):Int:=if e=0 then 3 else e
theorem xw(e:Int):xd e≠0:=by unfold xd;split <;> omega
theorem uy{e:Int}(h:e≠0):xd e=e:=by rw[xd,if_neg h]
def yl:List UInt8→List UInt8→Int
 | [],[]=>0
 | [],_ :: _ => -1
 | _ :: _,[]=>1
 | x :: a,y :: b=>if x.toNat<y.toNat then -1 else if y.toNat<x.toNat then 1 else yl a b
theorem qcy:∀(a:List UInt8),yl a a=0
 | []=>rfl
 | x :: a=>by simp[yl,qcy a]
theorem qbq:∀ {a b:List UInt8},yl a b=0→a=b
 | [],[],_=>rfl
 | [],_ :: _,h=>by simp[yl] at h
 | _ :: _,[],h=>by simp[yl] at h
 | x :: a,y :: b,h=>by
  unfold yl at h
  split at h
  ·
   cases h
  ·
   split at h
   ·
    cases h
   ·
    have hx:x=y:=qbd.1 (by omega)
    rw[hx,qbq h]
theorem qcb:∀(a b:List UInt8),yl b a = - yl a b
 | [],[]=>rfl
 | [],_ :: _=>rfl
 | _ :: _,[]=>rfl
 | x :: a,y :: b=>by
  unfold yl
  by_cases h1:x.toNat<y.toNat
  ·
   rw[if_pos h1,if_neg (by omega),if_pos h1];rfl
  ·
   by_cases h2:y.toNat<x.toNat
   ·
    rw[if_pos h2,if_neg h1,if_pos h2]
   ·
    rw[if_neg h1,if_neg h2,if_neg h2,if_neg h1,qcb a b]
theorem qnk:∀(p a b:List UInt8),yl (p++a) (p++b)=yl a b
 | [],a,b=>rfl
 | x :: p,a,b=>by simp[yl,qnk p a b]
def qhm(s:List UInt8):Bool:=decide (1≤s.length)&&decide (s.length≤8)
theorem qfo{s:List UInt8}:qhm s=true↔1≤s.length∧s.length≤8:=by simp[qhm]
def xc:List (List UInt8)→Bool
 | []=>true
 | [_]=>true
 | a :: b :: t=>decide (yl a b<0)&&xc (b :: t)
theorem ug{a b:List UInt8}{t:List (List UInt8)}:xc (a :: b :: t)=true↔yl a b<0∧xc (b :: t)=true:=by
 rw[xc,yx,decide_eq_true_eq]
theorem qfv:∀ {a:List UInt8} {t:List (List UInt8)},xc (a :: t)=true→xc t=true
 | _,[],_=>rfl
 | _,_ :: _,h=>(ug.1 h).2
theorem um:∀ {a b c:List UInt8},yl a b<0→yl b c<0→yl a c<0
 | [],[],c,h1,_=>by simp[yl] at h1
 | [],y :: b,[],_,h2=>by simp[yl] at h2
 | [],y :: b,z :: c,_,_=>by simp[yl]
 | x :: a,[],c,h1,_=>by simp[yl] at h1
 | x :: a,y :: b,[],_,h2=>by simp[yl] at h2
 | x :: a,y :: b,z :: c,h1,h2=>by
  unfold yl at h1 h2 ⊢
  by_cases p1:x.toNat<y.toNat
  ·
   by_cases q1:y.toNat<z.toNat
   ·
    rw[if_pos (by omega)];decide
   ·
    rw[if_neg q1] at h2
    by_cases q2:z.toNat<y.toNat
    ·
     rw[if_pos q2] at h2;cases h2
    ·
     rw[if_pos (by omega)];decide
  ·
   rw[if_neg p1] at h1
   by_cases p2:y.toNat<x.toNat
   ·
    rw[if_pos p2] at h1;cases h1
   ·
    rw[if_neg p2] at h1
    by_cases q1:y.toNat<z.toNat
    ·
     rw[if_pos (by omega)];decide
    ·
     rw[if_neg q1] at h2
     by_cases q2:z.toNat<y.toNat
     ·
      rw[if_pos q2] at h2;cases h2
     ·
      rw[if_neg q2] at h2
      rw[if_neg (by omega),if_neg (by omega)]
      exact um h1 h2
theorem qgs:∀ {a:List UInt8} {t:List (List UInt8)},xc (a :: t)=true→∀x∈t,yl a x<0
 | a,[],_,x,hx=>by cases hx
 | a,b :: t,h,x,hx=>by
  obtain⟨h1,h2⟩:=ug.1 h
  rcases z7.1 hx with rfl | hx
  ·
   exact h1
  ·
   exact um h1 (qgs h2 x hx)
theorem qez{a:List UInt8}:¬yl a a<0:=by rw[qcy];omega
theorem qgr:∀ {u t:List (List UInt8)},xc t=true→xc u=true→(∀x∈t,x∈u)→t.Sublist u
 | [],[],_,_,_=>List.Sublist.slnil
 | [],a :: t,_,_,h=>by cases h a je
 | b :: u,[],_,_,_=>List.nil_sublist _
 | b :: u,a :: t,ht,hu,h=>by
  have h1:=qgs ht
  have h2:=qgs hu
  rcases z7.1 (h a je) with rfl | ha
  ·
   refine List.Sublist.cons_cons _ (qgr (qfv ht) (qfv hu) fun x hx => ?_)
   rcases z7.1 (h x (j5 _ hx)) with rfl | h3
   ·
    exact absurd (h1 _ hx) qez
   ·
    exact h3
  ·
   refine List.Sublist.cons _ (qgr ht (qfv hu) fun x hx => ?_)
   rcases z7.1 (h x hx) with rfl | h3
   ·
    rcases z7.1 hx with rfl | h4
    ·
     exact ha
    ·
     exact absurd (um (h2 _ ha) (h1 _ h4)) qez
   ·
    exact h3
def y7(t:List (List UInt8)):Bool:=decide (t.length≤255)&&t.all qhm&&xc t
theorem uw{t:List (List UInt8)}:y7 t=true↔t.length≤255∧(∀s∈t,qhm s=true)∧xc t=true:=by
 unfold y7
 rw[yx,yx,decide_eq_true_eq,List.all_eq_true,and_assoc]
def qef(t:List (List UInt8)):List UInt8:=UInt8.ofNat t.length :: t.flatMap fun s=>UInt8.ofNat s.length :: s
structure IsOrder (l t:List (List UInt8)):Prop where
 rises:xc t=true
 few:t.length≤255
 of:∀x∈t,x∈l∧qhm x=true
 all:∀s∈l,qhm s=true→s∈t∨(t.length=255∧∀x∈t,yl x s<0)
theorem IsOrder.sub{l t u:List (List UInt8)}(h:IsOrder l t)(k:IsOrder l u):∀x∈u,x∈t:=by
 intro x hx
 obtain⟨hxl,hxo⟩:=k.of x hx
 rcases h.all x hxl hxo with h1 | ⟨h1,h2⟩
 ·
  exact h1
 ·
  exfalso
  have hn:x∉t:=fun h3=>qez (h2 x h3)
  have htu:∀y∈t,y∈u:=fun y hy=>by
   obtain⟨hyl,hyo⟩:=h.of y hy
   rcases k.all y hyl hyo with h3 | ⟨_,h3⟩
   ·
    exact h3
   ·
    exact absurd (um (h3 x hx) (h2 y hy)) qez
  have hs:=qgr h.rises k.rises htu
  have he:=hs.eq_of_length_le (by rw[h1];exact k.few)
  exact hn (he ▸ hx)
theorem IsOrder.one{l t u:List (List UInt8)}(h:IsOrder l t)(k:IsOrder l u):t=u :=
 (qgr h.rises k.rises (k.sub h)).eq_of_length_le (qgr k.rises h.rises (h.sub k)).length_le
def qm(l:List ByteArray):List (List UInt8):=l.map fun s=>s.data.toList
theorem qif(ys:List ByteArray)(s:ByteArray):qm (ys++[s])=qm ys++[s.data.toList]:=by simp[qm]
theorem qm2:∀(t:List (List UInt8)) (a b:List UInt8),xc (t++[a,b])=(xc (t++[a])&&decide (yl a b<0))
 | [],a,b=>by simp[xc]
 | [c],a,b=>by simp[xc,Bool.and_assoc]
 | c :: d :: t,a,b=>by
  have:=qm2 (d :: t) a b
  simp only[jd] at this ⊢
  rw[xc,xc,this,Bool.and_assoc]
theorem qv(l:List ByteArray):(qm l).length=l.length:=by simp[qm]
theorem yq(l:List ByteArray)(k:Nat)(h:k<l.length):(qm l)[k]'(by rw[qv];exact h)=l[k].data.toList:=by simp[qm]
theorem qh5:∀ {T:List (List UInt8)} {i j:Nat} (h:xc T=true) (hij:i<j) (hj:j<T.length),yl T[i] T[j]<0
 | [],i,j,_,_,hj=>by simp at hj
 | a :: t,0,j+1,h,_,hj=>by
  have hj':j<t.length:=by simpa using hj
  exact qgs h _ (ql hj')
 | a :: t,i+1,j+1,h,hij,hj=>by
  have hj':j<t.length:=by simpa using hj
  exact qh5 (T:=t) (qfv h) (by omega) hj'
theorem rises_inj{T:List (List UInt8)}{i j:Nat}(h:xc T=true)(hi:i<T.length)(hj:j<T.length)(e:T[i]=T[j]):i=j:=by
 rcases qei i j with h1 | h1 | h1
 ·
  have:=qh5 h h1 hj
  rw[e,qcy] at this
  omega
 ·
  exact h1
 ·
  have:=qh5 h h1 hi
  rw[e,qcy] at this
  omega
end Go.Proofs.YtjfecojdagmacaaGreat
