/-
  Lemmas.
-/
import Derived.Test.YtnjkipnklpkaoaaGreatA09
import Derived.Lib.SlicesCompact
import Derived.Shelf.Spec.SearchS
namespace Go.Proofs.YtnjkipnklpkaoaaGreat
open Go.RowKit
set_option maxRecDepth 20000
set_option maxHeartbeats 16000000
set_option linter.unusedSimpArgs false
set_option linter.unusedVariables false
section
set_option maxRecDepth 100000
def ren2:Go.Shelf.Ren:=⟨fun | 26=>217 | 33=>237 | 34=>238 | 38=>260 | n=>n,fun | 0=>0 | 3=>3 | 4=>4 | 9=>9 | 24=>58 | 40=>124 | n=>n,fun n=>n⟩
theorem lays2_26:Go.Proofs.Lays2.n26 Tryz.prog ren2:={
 mixed:=by kernel_rfl
 f26:=Tryz.func217.trans (congrArg some (by kernel_rfl))
 f33:=Tryz.func237.trans (congrArg some (by kernel_rfl))
 f34:=Tryz.func238.trans (congrArg some (by kernel_rfl))
 f38:=Tryz.func260.trans (congrArg some (by kernel_rfl))
 t0:=Tryz.underlying0
 a0:=Tryz.isAgg0
 z0:=Tryz.sizeOf0
 v0:=Tryz.zeroValue0
 t3:=Tryz.underlying3
 a3:=Tryz.isAgg3
 z3:=Tryz.sizeOf3
 v3:=Tryz.zeroValue3
 t4:=Tryz.underlying4
 a4:=Tryz.isAgg4
 z4:=Tryz.sizeOf4
 v4:=Tryz.zeroValue4
 t9:=Tryz.underlying9
 a9:=Tryz.isAgg9
 z9:=Tryz.sizeOf9
 v9:=Tryz.zeroValue9
 t24:=Tryz.underlying58
 a24:=Tryz.isAgg58
 z24:=Tryz.sizeOf58
 v24:=Tryz.zeroValue58
 t40:=Tryz.underlying124
 a40:=Tryz.isAgg124
 z40:=Tryz.sizeOf124
 v40:=Tryz.zeroValue124 }
end
theorem search_any{w:World}(l:List ByteArray)(x:ByteArray){lo hi c n:Nat}{A:Option Addr}(h:Rd w lo hi A c (sv l))(hr:xd (qm l)=true)(hn:l.length<4611686018427387904)(hln:l.length=n) :
  Calls Tryz.prog 217 #[.slice A n c,.string x] w fun r w'=>∃k,k≤n∧(∀j (hj:j<l.length),j<k↔yr l[j].data.toList x.data.toList<0)∧r= .returned (.tuple #[.int .i64 (k:Int),.bool (decide (l[k]? = some x))])∧∃q,w'=w.drewN q:=by
 subst hln
 by_cases h0:l.length=0
 ·
  have hz:l=[]:=zd h0
  subst hz
  refine(Any2.slices_BinarySearch_string_empty lays2_26 A c x w).mono ?_
  rintro r w' ⟨rfl,rfl⟩
  exact⟨0,qc _,fun j hj=>by simp at hj,rfl,0,rfl⟩
 ·
  obtain⟨b,off,rfl, -⟩:=h.str (k:=0) (by omega)
  have hc:∀j,j<l.length→w.cell? ⟨b,off+j,none⟩=some (.string ((fun j=>l.getD j x) j)):=fun j hj=>by
   obtain⟨b2,off2,he,_,_,hcell⟩:=h.str hj
   injection he with he
   injection he with he1 he2
   subst he1 he2
   rw[hcell]
   simp[List.getD,qe hj]
  refine(Any2.slices_BinarySearch_string lays2_26 b off l.length c (fun j=>l.getD j x) x w hn hc).mono ?_
  rintro r w' ⟨rfl,q,rfl⟩
  have hless:∀j (hj:j<l.length),Op.bytesLess (l.getD j x).toList x.toList=decide (yr l[j].data.toList x.data.toList<0):=fun j hj=>by
   rw[qjt]
   simp[List.getD,qe hj]
  -- those below x are a head
  obtain⟨k,hk,hkj⟩:∃k,k≤l.length∧∀j (hj:j<l.length),j<k↔yr l[j].data.toList x.data.toList<0:=by
   have hmono:∀i j (hij:i<j) (hj:j<l.length),yr l[j].data.toList x.data.toList<0→yr l[i].data.toList x.data.toList<0:=fun i j hij hj hlt=>by
    have h1:i<(qm l).length:=by rw[qx];omega
    have h2:j<(qm l).length:=by rw[qx];omega
    have hp:yr (qm l)[i] (qm l)[j]<0:=by
     exact qie hr hij h2
    rw[yq l i (by omega),yq l j hj] at hp
    exact uj hp hlt
   have hex:∀m,m≤l.length→∃k,k≤m∧∀j (hj:j<l.length),j<m→(j<k↔yr l[j].data.toList x.data.toList<0):=by
    intro m
    induction m with
    | zero=>intro _;exact⟨0,qc _,fun j _ h=>absurd h (jp j)⟩
    | succ m ih =>
     intro hm
     obtain⟨k,hk,hkj⟩:=ih (by omega)
     by_cases hx:yr l[m].data.toList x.data.toList<0
     ·
      refine⟨m+1,qc _,fun j hj hjm=>⟨fun _ => ?_,fun _=>hjm⟩⟩
      by_cases e:j=m
      ·
       subst e;exact hx
      ·
       exact hmono j m (by omega) (by omega) hx
     ·
      refine⟨k,by omega,fun j hj hjm => ?_⟩
      by_cases e:j=m
      ·
       subst e;exact⟨fun h=>by omega,fun h=>absurd h hx⟩
      ·
       exact hkj j hj (by omega)
   obtain⟨k,hk,hkj⟩:=hex l.length (qc _)
   exact⟨k,hk,fun j hj=>hkj j hj hj⟩
  have hidx:Lib.bsGo (fun t=>Op.bytesLess (l.getD t x).toList x.toList) l.length 0 l.length=k:=by
   refine Lib.bsGo_spec _ k (fun t ht => ?_) (fun t ht => ?_) _ _ _ (by omega) (by omega) hk
   ·
    rw[hless t (by omega)]
    exact qp ((hkj t (by omega)).1 ht)
   ·
    by_cases hl:t<l.length
    ·
     rw[hless t hl]
     exact ql fun h=>by have:=(hkj t hl).2 h;omega
    ·
     have:l.getD t x=x:=by simp[List.getD,jz (Nat.le_of_not_lt hl)]
     rw[this,qjt,qdl]
     rfl
  rw[hidx]
  refine⟨k,hk,hkj,?_,q,rfl⟩
  have hb:decide (k<l.length∧l.getD k x=x)=decide (l[k]? = some x):=by
   rw[decide_eq_decide]
   by_cases hl:k<l.length
   ·
    simp[List.getD,qe hl,hl]
   ·
    simp[jz (Nat.le_of_not_lt hl),hl]
  show Ending.returned (.tuple #[.int .i64 (k:Int),.bool (decide (k<l.length∧l.getD k x=x))])=_
  rw[hb]
theorem lt_cmp:∀(a b:List UInt8),a<b↔yr a b<0
 | [],[]=>by simp[yr]
 | [],_ :: _=>by simp[yr]
 | _ :: _,[]=>by simp[yr]
 | x :: a,y :: b=>by
  have ih:=lt_cmp a b
  rw[List.cons_lt_cons_iff,yr]
  by_cases h1:x.toNat<y.toNat
  ·
   rw[if_pos h1]
   exact⟨fun _=>by decide,fun _=> .inl h1⟩
  ·
   rw[if_neg h1]
   by_cases h2:y.toNat<x.toNat
   ·
    rw[if_pos h2]
    refine⟨fun h => ?_,fun h=>absurd h (by decide)⟩
    rcases h with h | ⟨h,_⟩
    ·
     exact absurd h h1
    ·
     subst h;omega
   ·
    rw[if_neg h2]
    refine⟨fun h => ?_,fun h=> .inr ⟨qbd.1 (by omega),ih.2 h⟩⟩
    rcases h with h | ⟨_,h⟩
    ·
     exact absurd h h1
    ·
     exact ih.1 h
theorem qlz(a b:List UInt8):a≤b↔yr a b≤0:=by
 show(¬b<a)↔_
 rw[lt_cmp,qdk a b]
 omega
theorem qjg{a b c:List UInt8}(h1:yr a b≤0)(h2:yr b c≤0):yr a c≤0:=by
 by_cases e1:yr a b=0
 ·
  rw[qcr e1];exact h2
 ·
  by_cases e2:yr b c=0
  ·
   rw[←qcr e2];exact h1
  ·
   have:=uj (a:=a) (b:=b) (c:=c) (by omega) (by omega)
   omega
theorem ql6(d:Array (List UInt8))(hs:∀i j,i<j→j<d.size→yr d[i]! d[j]! ≤0):∀m,m≤d.size→
  xd (Lib.compactUpTo d m)=true∧(∀x∈Lib.compactUpTo d m,∃j,j<m∧x=d[j]!)∧∀j,j<m→d[j]! ∈Lib.compactUpTo d m
 | 0,_=>⟨rfl,fun x hx=>(by cases hx),fun j hj=>absurd hj (jp j)⟩
 | m+1,hm=>by
  obtain⟨h1,h2,h3⟩:=ql6 d hs m (by omega)
  rw[Lib.compactUpTo_succ]
  by_cases hk:Lib.keeps d m=true
  ·
   rw[if_pos hk]
   have hk2:m=0∨d[m]! ≠d[m-1]!:=by simpa[Lib.keeps] using hk
   refine⟨qnt h1 fun x hx => ?_,fun x hx => ?_,fun j hj => ?_⟩
   ·
    obtain⟨j,hj,rfl⟩:=h2 x hx
    have hne:d[m]! ≠d[m-1]!:=by
     rcases hk2 with h | h
     ·
      omega
     ·
      exact h
    have ha:yr d[j]! d[m-1]! ≤0:=by
     by_cases e:j=m-1
     ·
      rw[e,qdl];omega
     ·
      exact hs j (m-1) (by omega) (by omega)
    have hb:yr d[m-1]! d[m]!<0:=by
     have h4:=hs (m-1) m (by omega) (by omega)
     have h5:yr d[m-1]! d[m]! ≠0:=fun e=>hne (qcr e).symm
     omega
    by_cases e:yr d[j]! d[m-1]! = 0
    ·
     rw[qcr e];exact hb
    ·
     exact uj (by omega) hb
   ·
    rcases zt.1 hx with hx | hx
    ·
     obtain⟨j,hj,rfl⟩:=h2 x hx
     exact⟨j,by omega,rfl⟩
    ·
     exact⟨m,by omega,zo.1 hx⟩
   ·
    by_cases e:j=m
    ·
     subst e;exact qcg _ (zo.2 rfl)
    ·
     exact List.mem_append_left _ (h3 j (by omega))
  ·
   rw[if_neg hk,jj]
   have hk2:¬(m=0∨d[m]! ≠d[m-1]!):=by simpa[Lib.keeps] using hk
   have hm0:m≠0:=fun e=>hk2 (.inl e)
   have hme:d[m]! = d[m-1]!:=Decidable.not_not.1 fun e=>hk2 (.inr e)
   refine⟨h1,fun x hx => ?_,fun j hj => ?_⟩
   ·
    obtain⟨j,hj,rfl⟩:=h2 x hx
    exact⟨j,by omega,rfl⟩
   ·
    by_cases e:j=m
    ·
     subst e;rw[hme];exact h3 _ (by omega)
    ·
     exact h3 j (by omega)
theorem qnr:∀ {t:List (List UInt8)} (k:Nat),xd t=true→xd (t.take k)=true
 | [],k,_=>by simp[xd]
 | a :: t,0,_=>rfl
 | [a],k+1,_=>by simp[xd]
 | a :: b :: t,1,_=>rfl
 | a :: b :: t,k+2,h=>by
  rw[jn,jn]
  have h2:=qnr (k+1) (ux.1 h).2
  rw[jn] at h2
  exact ux.2 ⟨(ux.1 h).1,h2⟩
def Yet(T:List (List UInt8))(l:List UInt8)(n k:Nat):Prop:=∀j (hj:j<T.length),List.IsPrefix T[j] l→T[j].length≤n∧(T[j].length≤n→j<k)
theorem Yet.start{T:List (List UInt8)}{l:List UInt8}(h:∀t∈T,qhw t=true):Yet T l (min l.length 8) T.length:=fun j hj hp=>by
 have h1:=(qfu.1 (h _ (qj hj))).2
 have h2:=hp.length_le
 exact⟨by omega,fun _=>hj⟩
theorem Yet.found{T:List (List UInt8)}{l:List UInt8}{n k i:Nat}(h:Yet T l n k)(hr:xd T=true)(hi:i<T.length)(he:T[i]=l.take n)(h0:0<n)(hn:n≤l.length):qdv T l=((i:Int),n):=by
 have hl:(l.take n).length=n:=by rw[qy];omega
 have:=longP_is (s:=l.take n) hr hi he (List.take_prefix _ _) (by omega) fun u hu hp=>by
  obtain⟨j,hj,rfl⟩:=zq hu
  have:=(h j hj hp).1
  omega
 rw[hl] at this
 exact this
theorem Yet.next{T:List (List UInt8)}{l:List UInt8}{n k i:Nat}(h:Yet T l n k)(hk:k≤T.length)(hn:n≤l.length)(h0:0<n)(hi:∀j (hj:j<T.length),j<k→(j<i↔yr T[j] (l.take n)<0))(hf:∀(hik:i<k),T[i]'(by omega)≠l.take n)(hr:xd T=true):Yet T l (n-1) i:=fun j hj hp=>by
 obtain⟨h1,h2⟩:=h j hj hp
 have h3:=h2 h1
 have h5:T[j]=l.take T[j].length:=by
  obtain⟨r,hr⟩:=hp
  rw[←hr,List.take_left]
 have h4:T[j].length≠n:=fun e=>by
  have he:T[j]=l.take n:=by rw[←e];exact h5
  -- then it stands at i
  have h6:¬j<i:=fun h7=>by
   have:=(hi j hj h3).1 h7
   rw[he,qdl] at this
   omega
  by_cases h8:j=i
  ·
   subst h8
   exact hf h3 he
  ·
   have h9:i<j:=by omega
   have:=qie hr h9 hj
   rw[he] at this
   have:=(hi i (by omega) (by omega)).2 this
   omega
 refine⟨by omega,fun _=>(hi j hj h3).2 ?_⟩
 rw[h5]
 exact cmpL_takes (by omega) hn
theorem Yet.none{T:List (List UInt8)}{l:List UInt8}{k:Nat}(h:Yet T l 0 k):qdv T l=(-1,0):=longP_none fun u hu hp=>by
 obtain⟨j,hj,rfl⟩:=zq hu
 have:=(h j hj hp).1
 omega
theorem slongest_any{w:World}(l:List ByteArray)(s:ByteArray){lo hi c:Nat}{A:Option Addr}(h:Rd w lo hi A c (sv l))(hr:yy (qm l)=true)(hs:s.size≤9223372036854775807) :
  Calls Tryz.prog 223 #[.slice A l.length c,.string s] w fun r w'=>r= .returned (.tuple #[.int .i64 (qdv (qm l) s.data.toList).1,.int .i64 ((qdv (qm l) s.data.toList).2:Int)])∧∃m,w'=w.drewN m:=by
 have hl:=h.len
 have hm:=h.cap
 rw[yg] at hl
 unfold maxLen at hm
 obtain⟨hl5,hok,hri⟩:=uy.1 hr
 rw[qx] at hl5
 have H:=qa h
 have HRI:=qa hri
 have hsl:s.data.toList.length=s.size:=by rw[zy];rfl
 have HSL:=qa hsl
 have HST:=qa (Yet.start (l:=s.data.toList) hok)
 rw[qx,hsl] at HST
 obtain⟨V,hV⟩:∃V,qdv (qm l) s.data.toList=V:=⟨_,rfl⟩
 rw[hV]
 have HV:=qa hV
 clear h hr hok hri hsl hV
 obtain⟨N,hN⟩:∃N,min s.size 8=N:=⟨_,rfl⟩
 have hN1:N≤s.size:=by omega
 have hN8:N≤8:=by omega
 have hNI:min (s.size:Int) 8=(N:Int):=by omega
 rw[hN] at HST
 clear hN
 go_enter Tryz.func223,Tryz.ntmps223
 go_wp2_with fail
 go_loopw [0,1] (fun x0 x1 wr=>∃(n k m:Nat) (u:ByteArray),x0= .slice A k c∧x1= .string u∧u.data.toList=s.data.toList.take n∧u.size=n∧n≤N∧k≤l.length∧Yet (qm l) s.data.toList n k∧wr=w.drewN m) (fun _ x1 _=>match x1 with | .string u=>u.size | _=>0)
 case atStart=>exact⟨N,l.length,0,_,rfl,rfl,headS s N,by simp[yt];omega,qc _,qc _,HST.out,rfl⟩
 case round =>
  clear HST
  obtain⟨n,k,m,u,rfl,rfl,hu,hus,hn,hk,hy,rfl⟩:=hrel
  have HU:=qa hu
  have HY:=qa hy
  clear hu hy
  rcases jr n with hn0 | hn0
  ·
   have hue:u=⟨#[]⟩:=by
    have:=HU.out
    rw[hn0,y8] at this
    rw[←qoq u,this]
   have HVV:Hid (V=(-1,0)):=by
    unfold Hid
    rw[←HV.out]
    have:=HY.out
    rw[hn0] at this
    exact this.none
   clear hn hus hn0
   subst hue
   go_wp2_with fail
   go_ret2
   exact⟨by rw[HVV.out];rfl,m,rfl⟩
  ·
   have hne:u.toList≠[]:=fun e=>by
    rw[jf] at e
    have h1:=congrArg List.length e
    rw[zy] at h1
    have h2:u.size=0:=h1
    omega
   have hne2:u.toList.isEmpty=false:=by
    rw[xi]
    exact hne
   clear hne
   have hkl:(l.take k).length=k:=by rw[qy];omega
   have hri2:xd (qm (l.take k))=true:=by
    have:=qnr k HRI.out
    rw[qm,qbx]
    exact this
   have HRT:Hid (∀w':World,w'.heap=w.heap→Rd w' lo hi A c (sv (l.take k))):=fun w' e=>by
    rw[sv_take]
    exact(H.out.take_ k).keep fun p _ _=>by unfold World.cell?;rw[e]
   have HSE:=qa (search_any (w:=w.drewN m) (l.take k) u (HRT.out _ rfl) hri2 (by omega) hkl)
   clear hri2
   go_wp2_with fail
   refine HSE.out.mono ?_
   rintro r w1 ⟨i,hik,hij,rfl,m2,rfl⟩
   have hij':∀j (hj:j<(qm l).length),j<k→(j<i↔yr (qm l)[j] (s.data.toList.take n)<0):=fun j hj hjk=>by
    rw[qx] at hj
    have:=hij j (by rw[hkl];exact hjk)
    simp only[qb0] at this
    rw[HU.out] at this
    rw[yq l j hj]
    exact this
   have HIJ:=qa hij'
   clear hij hij'
   obtain⟨f,hf⟩:∃f,decide ((l.take k)[i]? = some u)=f:=⟨_,rfl⟩
   rw[hf]
   have HF:=qa hf
   clear hf
   have hcut:n≤s.data.toList.length:=by rw[HSL.out];omega
   cases f with
   | true =>
    have hfe:=of_decide_eq_true HF.out
    obtain⟨hi1,hi2⟩:=zw.1 hfe
    rw[hkl] at hi1
    simp only[qb0] at hi2
    have HVV:Hid (V=((i:Int),n)):=by
     unfold Hid
     rw[←HV.out]
     exact HY.out.found HRI.out (i:=i) (by rw[qx];omega) (by rw[yq l i (by omega),hi2];exact HU.out) hn0 hcut
    clear hfe hi2 hcut
    go_wp2_with fail
    go_ret2
    exact⟨by rw[HVV.out,←hus];rfl,m+m2,rfl⟩
   | false =>
    have HYN:Hid (Yet (qm l) s.data.toList (n-1) i):=by
     refine HY.out.next (by rw[qx];exact hk) hcut hn0 HIJ.out (fun hik e => ?_) HRI.out
     have:=of_decide_eq_false HF.out
     apply this
     rw[qe8 hik,qe (by omega)]
     congr 1
     rw[yq l i (by omega)] at e
     rw[←qoq l[i],e,←HU.out]
    have HUD:Hid ((u.extract 0 (n-1)).data.toList=s.data.toList.take (n-1)):=by
     unfold Hid
     rw[headS,HU.out,List.take_take]
     congr 1
     omega
    have hus2:(u.extract 0 (n-1)).size=n-1:=by simp[yt];omega
    have HUS:=qa hus2
    clear hus2 hcut
    go_wp2_with fail
    go_roundw
    case rel=>exact⟨n-1,i,m+m2,u.extract 0 (n-1),rfl,by first | rfl | go_num,HUD.out,HUS.out,by omega,by omega,HYN.out,rfl⟩
    case measure=>simp <;> omega
theorem qob{w2:World}(l:List ByteArray)(u:ByteArray){lo hi c:Nat}{A:Option Addr}(h:Rd w2 lo hi A c (sv l))(hr:yy (qm l)=true)(hs:u.size≤9223372036854775807)(v:Int×Nat)(hv:qdv (qm l) u.data.toList=v) :
  Calls Tryz.prog 223 #[.slice A l.length c,.string u] w2 fun r w'=>r= .returned (.tuple #[.int .i64 v.1,.int .i64 (v.2:Int)])∧∃m,w'=w2.drewN m:=by
 rw[←hv]
 exact slongest_any l u h hr hs
theorem qrn{w:World}(l:List ByteArray)(s:ByteArray){c:Nat}{A:Option Addr}(h:Rd w 0 w.heap.size A c (sv l))(hr:yy (qm l)=true)(hs:s.size≤100000000) :
  Calls Tryz.prog 199 #[.slice A l.length c,.string s] w fun r w'=>∃A' c',r= .returned (.slice A' (kh (qm l) s.data.toList).length c')∧
   w'.ownsRow w.heap.size 5 1 (.slice A' (kh (qm l) s.data.toList).length c') (kh (qm l) s.data.toList).length (bv (kh (qm l) s.data.toList))∧Below w.heap.size w w':=by
 have hln:=(uy.1 hr).1
 rw[qx] at hln
 have H:=qa h
 have HR:=qa hr
 clear h hr
 obtain⟨v,hv⟩:∃v,kh (qm l) s.data.toList=v:=⟨_,rfl⟩
 rw[hv]
 have HV:=qa hv
 clear hv
 have HSL:=qa (qgq s)
 go_enter Tryz.func199,Tryz.ntmps199
 go_wp2_with fail
 go_loopw [1,5] (fun x1 x5 wr=>∃(k:Nat) (u:ByteArray) (ys:List UInt8) (A':Option Addr) (c':Nat),k≤s.size∧u.size=s.size-k∧u.data.toList=s.data.toList.drop k∧x1= .string u∧x5= .slice A' ys.length c'∧ys.length≤2*k∧ys++kh (qm l) u.data.toList=v∧
  wr.ownsRow w.heap.size 5 1 (.slice A' ys.length c') ys.length (bv ys)∧Below w.heap.size w wr) (fun x1 _ _=>match x1 with | .string u=>u.size | _=>0)
 case atStart=>exact⟨0,s,[],none,0,qi _,rfl,by rw[jx],rfl,rfl,qi _,by rw[HV.out];rfl,zh _ _ _ _,Below.refl _ _⟩
 case round =>
  obtain⟨k,u,ys,A',c',hk,hus,hud,rfl,rfl,hyl,hys,hown,hb⟩:=hrel
  have HYS:=qa hys
  have HO:=qa hown
  have HB:=qa hb
  have HUD:=qa hud
  have hsz:=hb.size
  have huL:u.size≤s.size-k:=by omega
  have huG:s.size-k≤u.size:=by omega
  clear hys hown hb hud hus
  by_cases hu0:u.size=0
  ·
   have hue:u=⟨#[]⟩:=by
    have:u.data.toList=[]:=zd (by rw[qgq];exact hu0)
    rw[←str_etaU u,this]
   have hfin:ys=v:=by
    rw[←HYS.out,hue]
    exact(jj _).symm
   have HF:=qa hfin
   clear hfin hu0 huL huG HUD
   subst hue
   go_wp2_with fail
   go_ret
   exact⟨A',c',by rw[←HF.out];rfl,by rw[←HF.out];exact HO.out,HB.out⟩
  ·
   have hup:0<u.size:=by omega
   have hne:u.toList≠[]:=fun e=>by
    rw[jf] at e
    have h1:=congrArg List.length e
    rw[zy] at h1
    exact hu0 h1
   have hne2:u.toList.isEmpty=false:=by
    rw[xi]
    exact hne
   clear hne
   have HDR:=qa (dropS hup)
   rw[jx] at HDR
   rcases qd0 (qm l) u.data.toList with hp | ⟨j,t,hj,hp,hn0,hpre⟩
   ·
    have HLG:=qa (fun w2 (hb2:Below w.heap.size w w2)=>qob (w2:=w2) l u (H.out.below hb2 (qc _)) HR.out (by omega) _ hp)
    have HEQ:Hid (kh (qm l) u.data.toList=(255:UInt8) :: u[0] :: kh (qm l) (u.extract 1 u.size).data.toList):=by
     unfold Hid
     have hp2:=hp
     rw[HDR.out] at hp2
     rw[tailS,HDR.out,enc_esc hp2]
     rfl
    have HU1:Hid ((u.extract 1 u.size).data.toList=s.data.toList.drop (k+1)):=by
     unfold Hid
     rw[tailS,HUD.out,z7]
    have hu1:(u.extract 1 u.size).size=s.size-(k+1):=by rw[yt];omega
    have HUS:=qa hu1
    clear hp hu1
    have lx:u[0].toNat<256:=zp _
    go_wp2_with fail
    refine(HLG.out _ (by first | exact HB.out | exact zg HB.out _)).mono ?_
    rintro r w1 ⟨rfl,m,rfl⟩
    have hb1:Below w.heap.size w (wr.drewN m):=zg HB.out m
    have ho1:(wr.drewN m).ownsRow w.heap.size 5 1 (.slice A' ys.length c') ys.length (bv ys):=ju HO.out (fun _ _=>rfl)
    have hz1:w.heap.size≤(wr.drewN m).heap.size:=hb1.size
    generalize wr.drewN m=w1 at *
    have hlit:(w1.alloc (.cells #[.int .u8 255,.int .u8 (u[0].toNat:Int)] 5)).ownsRow w1.heap.size 5 1 (.slice (some ⟨w1.heap.size,0,none⟩) 2 2) 2 (bv [(255:UInt8),u[0]]):=qmq w1 [(255:UInt8),u[0]] #[.int .u8 255,.int .u8 (u[0].toNat:Int)] rfl (by simp)
    obtain⟨A3,c3,w3,hrun,hown3,hg3⟩:=j9 _ w.heap.size _ ys [(255:UInt8),u[0]] (ys++[(255:UInt8),u[0]]) rfl (ho1.alloc _) (Rd.own hlit) (by simp;omega) (by simp;omega)
    have hb3:Below w.heap.size w w3:=(hb1.alloc hz1 _).grown hg3 (by simp;omega) (fun q hq=>(zk ho1 hq).1)
    have hrun2:(Builtin.append_ #[26,26] 26 #[.slice A' ys.length c',.slice (some ⟨w1.heap.size,0,none⟩) 2 2]).run Tryz.prog (w1.alloc (.cells #[.int .u8 255,.int .u8 (u[0].toNat:Int)] 5))= .ok (.slice A3 (ys++[(255:UInt8),u[0]]).length c3) w3:=hrun
    have HRUN:=qa hrun2
    have HO3:=qa hown3
    have HB3:=qa hb3
    clear hrun hrun2 hown3 hb3 hg3 hb1 ho1 hlit
    go_wp2_with (at_builtin;refine wpList_append_run rfl _ _ _ _ rfl rfl rfl HRUN.out ?_)
    go_roundw
    case rel =>
     refine⟨k+1,u.extract 1 u.size,ys++[(255:UInt8),u[0]],A3,c3,by omega,HUS.out,HU1.out,rfl,by first | rfl | (rw[qd];rfl),by rw[qd,qt,qt,je];omega,?_,HO3.out,HB3.out⟩
     rw[qv,←HYS.out,HEQ.out]
     rfl
    case measure =>
     have:=HUS.out
     simp only[this]
     omega
   ·
    have HLG:=qa (fun w2 (hb2:Below w.heap.size w w2)=>qob (w2:=w2) l u (H.out.below hb2 (qc _)) HR.out (by omega) _ hp)
    have hjl:j<l.length:=by
     have:=(zw.1 hj).1
     rwa [qx] at this
    have hnl:=hpre.length_le
    rw[qgq] at hnl
    have HEQ:Hid (kh (qm l) u.data.toList=UInt8.ofNat j :: kh (qm l) (u.extract t.length u.size).data.toList):=by
     unfold Hid
     rw[enc_code hp hn0,tailS]
    have HU1:Hid ((u.extract t.length u.size).data.toList=s.data.toList.drop (k+t.length)):=by
     unfold Hid
     rw[tailS,HUD.out,z7]
    have hu1:(u.extract t.length u.size).size=s.size-(k+t.length):=by rw[yt];omega
    have HUS:=qa hu1
    clear hp hj hpre hu1 HDR
    generalize t.length=n at *
    have j0:(0:Int)≤(j:Int):=by omega
    have j1:(j:Int)<256:=by omega
    have hbs:(UInt8.ofNat j).toNat=j:=by simp;omega
    have n1:((n:Int)==0)=false:=by rw[qr];omega
    have n2:¬(n:Int)=0:=by omega
    go_wp2_with fail
    refine(HLG.out _ (by first | exact HB.out | exact zg HB.out _)).mono ?_
    rintro r w1 ⟨rfl,m,rfl⟩
    have hb1:Below w.heap.size w (wr.drewN m):=zg HB.out m
    have ho1:(wr.drewN m).ownsRow w.heap.size 5 1 (.slice A' ys.length c') ys.length (bv ys):=ju HO.out (fun _ _=>rfl)
    have hz1:w.heap.size≤(wr.drewN m).heap.size:=hb1.size
    generalize wr.drewN m=w1 at *
    have HO1:=qa ho1
    have HB1:=qa hb1
    clear ho1 hb1
    go_wp2_with (at_builtin;refine jab (v:= .slice A' ys.length c') w.heap.size ys (UInt8.ofNat j) rfl _ _ rfl rfl rfl rfl (by rw[hbs,za _ _ _ _ rfl];rfl) (HO1.out.alloc _) (by omega) (by simp;omega) ?_;intro A2 c2 w2 ho2 hg2)
    go_roundw
    case rel =>
     refine⟨k+n,u.extract n u.size,ys++[UInt8.ofNat j],A2,c2,by omega,HUS.out,HU1.out,rfl,by rw[qd];rfl,by rw[qd,qt,je];omega,?_,ho2,(HB1.out.alloc hz1 _).grown hg2 (by simp;omega) (fun q hq=>(zk HO1.out hq).1)⟩
     rw[qv,←HYS.out,HEQ.out]
     rfl
    case measure =>
     have:=HUS.out
     simp only[this]
     omega
theorem equal_any{w:World}{lo h' lo2 h2:Nat}{A B:Option Addr}{c d:Nat}(xs ys:List UInt8)(hx:Rd w lo h' A c (bv xs))(hy:Rd w lo2 h2 B d (bv ys)) :
  Calls Tryz.prog 78 #[.slice A xs.length c,.slice B ys.length d] w fun r w'=>r= .returned (.bool (decide (xs=ys)))∧w=w':=by
 have h1:=ko (P:=Tryz.prog) w 26 9 5 Tryz.underlying26 Tryz.underlying5 Tryz.underlying9 lo h' A c xs hx
 have h2:=ko (P:=Tryz.prog) w 26 9 5 Tryz.underlying26 Tryz.underlying5 Tryz.underlying9 lo2 h2 B d ys hy
 clear hx hy
 go_enter Tryz.func78,Tryz.ntmps78
 go_wp2
 go_ret
 refine⟨zf ?_,rfl⟩
 by_cases h:xs=ys
 ·
  simp[h]
 ·
  simp[h]
theorem bclone_any{w:World}(bs:List UInt8){lo h':Nat}{A:Option Addr}{c:Nat}(h:Rd w lo h' A c (bv bs))(hh:h'≤w.heap.size)(hb:bs.length≤1000000000) :
  Calls Tryz.prog 79 #[.slice A bs.length c] w fun r w'=>∃A' c',r= .returned (.slice A' bs.length c')∧
   w'.ownsRow w.heap.size 5 1 (.slice A' bs.length c') bs.length (bv bs)∧Below w.heap.size w w':=by
 rcases A with _ | ad
 ·
  obtain rfl:bs=[]:=by
   rcases jr (bv bs).length with h0 | h0
   ·
    exact zd (by simpa[bv] using h0)
   ·
    obtain⟨_,_,h,_⟩:=h.at_ h0
    cases h
  clear h
  have hnil:=Lib.run_eql_slice_nil (P:=Tryz.prog) w 26 5 none 0 c 0 0 Tryz.underlying26
  go_enter Tryz.func79,Tryz.ntmps79
  go_wp2
  go_ret
  exact⟨_,_,rfl,zh ..,Below.refl _ _⟩
 ·
  obtain⟨A1,c1,w1,hrun,hown,hg1⟩:=j9 (w.alloc (.cells #[] 5)) w.heap.size (.slice (some ⟨w.heap.size,0,none⟩) 0 0) [] bs bs (by simp) (qmq w [] #[] rfl (by simp)) (h.alloc hh _) (by simp;omega) (by simp)
  have HO:=qa hown
  have HG:=qa hg1
  clear h hown hg1
  have hnil:=Lib.run_eql_slice_nil (P:=Tryz.prog) w 26 5 (some ad) bs.length c 0 0 Tryz.underlying26
  go_enter Tryz.func79,Tryz.ntmps79
  go_wp2_with (at_builtin;refine wpList_append_run rfl _ _ _ _ rfl rfl rfl hrun ?_)
  go_ret
  exact⟨_,_,rfl,HO.out,((Below.refl _ _).alloc (qc _) _).grown HG.out (by simp) (by simp[Value.ownBlock])⟩
theorem qo4(e:Int):y9 (y9 e)=y9 e:=uz (xr e)
theorem qm9{w:World}{lo g k:Nat}{bs:List UInt8}{e:Int}(n:Nat)(most:Int)(h:vw w lo g bs k e)(hb:bs.length≤1000000000000) :
  Calls Tryz.prog 170 #[cp g,.int .i64 (n:Int),.int .i64 most] w fun r w'=>∃A c,r= .returned (.slice A (uw bs k e n most).1.length c)∧w'.ownsRow w.heap.size 3 1 (.slice A (uw bs k e n most).1.length c) (uw bs k e n most).1.length (iv (zu (uw bs k e n most).1))∧
   vw w' lo g bs (uw bs k e n most).2.1 (uw bs k e n most).2.2∧w.grownBy w' (some g):=by
 have hgl:=h.lt
 have HR:=qa (qp9 (n:Int) h hb)
 obtain⟨N,hN⟩:∃N,uw bs k e n most=N:=⟨_,rfl⟩
 rw[hN]
 unfold uw at hN
 simp only at hN
 obtain⟨⟨ns,p,e0⟩,hRR⟩:∃R,qa5 bs k e (n:Int)=R:=⟨_,rfl⟩
 rw[hRR] at HR hN
 simp only at HR hN
 obtain⟨e1,he1⟩:∃e1,(if ns.length=n then e0 else y9 e0)=e1:=⟨_,rfl⟩
 rw[he1] at hN
 have HE1:=qa he1
 have HN:=qa hN
 clear h hRR he1 hN
 unfold cp at *
 go_enter Tryz.func170,Tryz.ntmps170
 go_wp2_with fail
 refine HR.out.mono ?_
 rintro r w1 ⟨A1,c1,rfl,ho1,hc1,hg1⟩
 have hln:=(Rd.of_own ho1).len
 have hcp:=(Rd.of_own ho1).cap
 rw[ji,zj] at hln
 unfold maxLen at hcp
 have HO1:=qa ho1
 have HC1:=qa hc1
 have HG1:=qa hg1
 clear ho1 hc1 hg1 HR
 by_cases hnl:ns.length=n
 ·
  have hq:(ns.length:Int)=(n:Int):=by omega
  have bq:((ns.length:Int) != (n:Int))=false:=by rw[hq];simp
  have HC2:Hid (vw w1 lo g bs p e1):=by unfold Hid;rw[←HE1.out,if_pos hnl];exact HC1.out
  have HO2:=qa HO1.out
  have HG2:=qa HG1.out
  clear HC1 HO1 HG1 HE1 hnl
  go_wp2_with fail
  go_loopw [21] (fun x wr=>∃i:Nat,i≤ns.length∧x= .int .i64 (i:Int)∧vw wr lo g bs p (if ((ns.take i).all fun x=>decide ((x:Int)≤most))=true then e1 else y9 e1)∧wr.ownsRow w.heap.size 3 1 (.slice A1 ns.length c1) ns.length (iv (zu ns))∧w.grownBy wr (some g)) (fun x _=>ns.length-(intOf x).toNat)
  case atStart=>exact⟨0,qi _,rfl,by simpa using HC2.out,HO2.out,HG2.out⟩
  case round =>
   clear HC2 HO2 HG2
   obtain⟨i,hi,rfl,hc,ho,hg⟩:=hrel
   have HO:=qa ho
   have HG:=qa hg
   have hwl:=hg.size
   by_cases hlt:i<ns.length
   ·
    have ik:(i:Int)<(ns.length:Int):=by omega
    obtain⟨b,off,rfl,_,_,hcell⟩:=(Rd.of_own ho).num (k:=i) (by rw[zj];exact hlt)
    have hxi:(zu ns)[i]'(by rw[zj];exact hlt)=(ns[i]:Int):=by simp[zu]
    rw[hxi] at hcell
    have htk:=qg hlt
    clear ho hg hxi
    by_cases hm:(ns[i]:Int)≤most
    ·
     have im:¬most<(ns[i]:Int):=by omega
     have HC3:Hid (vw wr lo g bs p (if ((ns.take (i+1)).all fun x=>decide ((x:Int)≤most))=true then e1 else y9 e1)):=by
      unfold Hid
      rw[htk,List.all_append,List.all_cons,List.all_nil,qp hm,Bool.and_self,Bool.and_true]
      exact hc
     clear hc htk
     generalize ns[i]=x at *
     go_wp2_with fail
     go_roundw
     case rel=>exact⟨i+1,by omega,by go_num,HC3.out,HO.out,HG.out⟩
     case measure=>simp[intOf] <;> omega
    ·
     have im:most<(ns[i]:Int):=by omega
     have HF:=qa (kx 3 hc)
     have HE3:Hid ((if (if ((ns.take i).all fun x=>decide ((x:Int)≤most))=true then e1 else y9 e1)=0 then (3:Int) else (if ((ns.take i).all fun x=>decide ((x:Int)≤most))=true then e1 else y9 e1))=(if ((ns.take (i+1)).all fun x=>decide ((x:Int)≤most))=true then e1 else y9 e1)):=by
      unfold Hid
      rw[htk,List.all_append,List.all_cons,List.all_nil,ql hm,kw,Bool.and_false]
      rw[if_neg (show ¬(false=true) by decide)]
      split
      ·
       rfl
      ·
       exact qo4 e1
     rw[HE3.out] at HF
     clear hc htk HE3
     generalize ns[i]=x at *
     unfold cp at HF
     go_wp2_with fail
     refine HF.out.mono ?_
     rintro r w4 ⟨rfl,hc4,hg4⟩
     have HC4:=qa hc4
     have HG4:=qa (HG.out.trans hg4)
     have HO4:=qa (qf1 HO.out hg4 hgl)
     clear hc4 hg4 HF HO HG
     go_wp2_with fail
     go_roundw
     case rel=>exact⟨i+1,by omega,by go_num,HC4.out,HO4.out,HG4.out⟩
     case measure=>simp[intOf] <;> omega
   ·
    have ik:¬(i:Int)<(ns.length:Int):=by omega
    have hti:ns.take i=ns:=qo (by omega)
    rw[hti] at hc
    obtain⟨e2,he2⟩:∃e2,(if (ns.all fun x=>decide ((x:Int)≤most))=true then e1 else y9 e1)=e2:=⟨_,rfl⟩
    have hn:=HN.out
    rw[he2] at hc hn
    have HC:=qa hc
    have HGD:=qa (xu hc)
    unfold cp at HGD
    clear hc ho hg he2 HN
    by_cases h0:e2=0
    ·
     subst h0
     rw[if_pos rfl] at hn
     subst hn
     have b0:((0:Int)==0)=true:=rfl
     rw[b0] at HGD
     go_wp2_with fail
     refine HGD.out.mono ?_
     rintro r w' ⟨rfl,rfl⟩
     go_wp2_with fail
     go_ret
     exact⟨_,_,rfl,HO.out,HC.out,HG.out⟩
    ·
     rw[if_neg h0] at hn
     subst hn
     have b0:(e2==0)=false:=by rw[qr];exact h0
     rw[b0] at HGD
     go_wp2_with fail
     refine HGD.out.mono ?_
     rintro r w' ⟨rfl,rfl⟩
     go_wp2_with fail
     go_ret
     exact⟨none,0,rfl,⟨rfl,.inl ⟨rfl,rfl⟩⟩,HC.out,HG.out⟩
 ·
  have hq:¬(ns.length:Int)=(n:Int):=by omega
  have bq:((ns.length:Int) != (n:Int))=true:=by simpa using hq
  have HF:=qa (kx 3 HC1.out)
  have HE2:Hid ((if e0=0 then (3:Int) else e0)=e1):=by unfold Hid;rw[←HE1.out,if_neg hnl];rfl
  rw[HE2.out] at HF
  unfold cp at HF
  clear HE1 HE2 hnl
  go_wp2_with fail
  refine HF.out.mono ?_
  rintro r w2 ⟨rfl,hc2,hg2⟩
  have HC2:=qa hc2
  have HO2:=qa (qf1 HO1.out hg2 hgl)
  have HG2:=qa (HG1.out.trans hg2)
  clear hc2 hg2 HC1 HO1 HG1 HF
  go_wp2_with fail
  go_loopw [21] (fun x wr=>∃i:Nat,i≤ns.length∧x= .int .i64 (i:Int)∧vw wr lo g bs p (if ((ns.take i).all fun x=>decide ((x:Int)≤most))=true then e1 else y9 e1)∧wr.ownsRow w.heap.size 3 1 (.slice A1 ns.length c1) ns.length (iv (zu ns))∧w.grownBy wr (some g)) (fun x _=>ns.length-(intOf x).toNat)
  case atStart=>exact⟨0,qi _,rfl,by simpa using HC2.out,HO2.out,HG2.out⟩
  case round =>
   clear HC2 HO2 HG2
   obtain⟨i,hi,rfl,hc,ho,hg⟩:=hrel
   have HO:=qa ho
   have HG:=qa hg
   have hwl:=hg.size
   by_cases hlt:i<ns.length
   ·
    have ik:(i:Int)<(ns.length:Int):=by omega
    obtain⟨b,off,rfl,_,_,hcell⟩:=(Rd.of_own ho).num (k:=i) (by rw[zj];exact hlt)
    have hxi:(zu ns)[i]'(by rw[zj];exact hlt)=(ns[i]:Int):=by simp[zu]
    rw[hxi] at hcell
    have htk:=qg hlt
    clear ho hg hxi
    by_cases hm:(ns[i]:Int)≤most
    ·
     have im:¬most<(ns[i]:Int):=by omega
     have HC3:Hid (vw wr lo g bs p (if ((ns.take (i+1)).all fun x=>decide ((x:Int)≤most))=true then e1 else y9 e1)):=by
      unfold Hid
      rw[htk,List.all_append,List.all_cons,List.all_nil,qp hm,Bool.and_self,Bool.and_true]
      exact hc
     clear hc htk
     generalize ns[i]=x at *
     go_wp2_with fail
     go_roundw
     case rel=>exact⟨i+1,by omega,by go_num,HC3.out,HO.out,HG.out⟩
     case measure=>simp[intOf] <;> omega
    ·
     have im:most<(ns[i]:Int):=by omega
     have HF:=qa (kx 3 hc)
     have HE3:Hid ((if (if ((ns.take i).all fun x=>decide ((x:Int)≤most))=true then e1 else y9 e1)=0 then (3:Int) else (if ((ns.take i).all fun x=>decide ((x:Int)≤most))=true then e1 else y9 e1))=(if ((ns.take (i+1)).all fun x=>decide ((x:Int)≤most))=true then e1 else y9 e1)):=by
      unfold Hid
      rw[htk,List.all_append,List.all_cons,List.all_nil,ql hm,kw,Bool.and_false]
      rw[if_neg (show ¬(false=true) by decide)]
      split
      ·
       rfl
      ·
       exact qo4 e1
     rw[HE3.out] at HF
     clear hc htk HE3
     generalize ns[i]=x at *
     unfold cp at HF
     go_wp2_with fail
     refine HF.out.mono ?_
     rintro r w4 ⟨rfl,hc4,hg4⟩
     have HC4:=qa hc4
     have HG4:=qa (HG.out.trans hg4)
     have HO4:=qa (qf1 HO.out hg4 hgl)
     clear hc4 hg4 HF HO HG
     go_wp2_with fail
     go_roundw
     case rel=>exact⟨i+1,by omega,by go_num,HC4.out,HO4.out,HG4.out⟩
     case measure=>simp[intOf] <;> omega
   ·
    have ik:¬(i:Int)<(ns.length:Int):=by omega
    have hti:ns.take i=ns:=qo (by omega)
    rw[hti] at hc
    obtain⟨e2,he2⟩:∃e2,(if (ns.all fun x=>decide ((x:Int)≤most))=true then e1 else y9 e1)=e2:=⟨_,rfl⟩
    have hn:=HN.out
    rw[he2] at hc hn
    have HC:=qa hc
    have HGD:=qa (xu hc)
    unfold cp at HGD
    clear hc ho hg he2 HN
    by_cases h0:e2=0
    ·
     subst h0
     rw[if_pos rfl] at hn
     subst hn
     have b0:((0:Int)==0)=true:=rfl
     rw[b0] at HGD
     go_wp2_with fail
     refine HGD.out.mono ?_
     rintro r w' ⟨rfl,rfl⟩
     go_wp2_with fail
     go_ret
     exact⟨_,_,rfl,HO.out,HC.out,HG.out⟩
    ·
     rw[if_neg h0] at hn
     subst hn
     have b0:(e2==0)=false:=by rw[qr];exact h0
     rw[b0] at HGD
     go_wp2_with fail
     refine HGD.out.mono ?_
     rintro r w' ⟨rfl,rfl⟩
     go_wp2_with fail
     go_ret
     exact⟨none,0,rfl,⟨rfl,.inl ⟨rfl,rfl⟩⟩,HC.out,HG.out⟩
theorem qj7{w:World}(l:List Bool){lo h':Nat}{A:Option Addr}{c:Nat}(h:Rd w lo h' A c (lv l)) :
  Calls Tryz.prog 171 #[.slice A l.length c] w fun r w'=>r= .returned (.int .i64 (cnt l:Int))∧w=w':=count_any l h
theorem fill_same{ys xs:List Value}{k:Nat}(h:qk0 ys k xs)(j:Nat)(hj:k≤j)(u:Value):qk0 ys k (xs.set j u):=by
 refine⟨by rw[xt];exact h.1,fun i hi => ?_⟩
 rw[qbm (by omega)]
 exact h.2 i hi
theorem spreadB_no{w:World}(there:List Bool){n m lo hi c d:Nat}{A B:Option Addr}(h:Rd w lo hi A c (lv there))(hn:there.length=n)(hm:m≠cnt there){v:Value} :
  Calls Tryz.prog 173 #[.slice A n c,.slice B m d,v] w fun r w'=>r= .returned (.slice none 0 0)∧w=w':=by
 subst hn
 have HC:=qa (qj7 (w:=w) there h)
 have hq:¬(m:Int)=(cnt there:Int):=by omega
 have bq:((m:Int) != (cnt there:Int))=true:=by simpa using hq
 clear h
 go_enter Tryz.func173,Tryz.ntmps173
 go_wp2_with fail
 refine HC.out.mono ?_
 rintro r w' ⟨rfl,rfl⟩
 go_wp2_with fail
 go_ret
 exact⟨rfl,rfl⟩
theorem spreadB_yes{w:World}(there:List Bool)(xs:List Value){n m c d:Nat}{A B:Option Addr}(h:Rd w 0 w.heap.size A c (lv there))(hx:Rd w 0 w.heap.size B d xs)(hn:there.length=n)(hm:xs.length=m)(hmc:m=cnt there)(hk:n≤1000000)(h1:∀v∈xs,∃pA pn pc,v= .slice pA pn pc) :
  Calls Tryz.prog 173 #[.slice A n c,.slice B m d,Value.slice none 0 0] w fun r w'=>∃A' c',r= .returned (.slice A' n c')∧w'.ownsRow w.heap.size 26 1 (.slice A' n c') n (xw there xs (Value.slice none 0 0))∧Below w.heap.size w w':=by
 subst hn
 have HC:=qa (qj7 (w:=w) there h)
 have bq:((m:Int) != (cnt there:Int))=false:=by rw[hmc];simp
 have HMC:=qa hmc
 have hcn:=qjf there
 obtain⟨w1,hmake,ho1,hg1⟩:=make_parts w there.length (by omega)
 have HO1:=qa ho1
 have HB1:=qa (qcd (qc _) hg1 (fun g hg=>by cases hg))
 obtain⟨T,hT⟩:∃T,xw there xs (Value.slice none 0 0)=T:=⟨_,rfl⟩
 have HTL:Hid (T.length=there.length):=by unfold Hid;rw[←hT,qcb]
 have HT0:Hid (∀k,there[k]? = some false→T[k]? = some (Value.slice none 0 0)):=fun k hk=>by rw[←hT];exact qgx _ _ _ hk
 have HT1:Hid (∀k,there[k]? = some true→cnt (there.take k)<xs.length∧T[k]? = xs[cnt (there.take k)]?):=fun k hk=>by
  obtain⟨j,e1,e2,e3⟩:=qh7 there xs (Value.slice none 0 0) hk (by omega)
  rw[←hT,e1]
  exact⟨e2,e3⟩
 rw[hT]
 have H:=qa h
 have HX:=qa hx
 have H1:=qa h1
 have hl:=h.len
 have hcp:=h.cap
 rw[vk] at hl
 unfold maxLen at hcp
 clear h hx ho1 hg1 hT h1 hmc
 go_enter Tryz.func173,Tryz.ntmps173
 go_wp2_with fail
 refine HC.out.mono ?_
 rintro r w' ⟨rfl,rfl⟩
 go_wp2_with fail
 clear hmake HC bq
 go_loopw [1,20] (fun y x wr=>∃(k j:Nat) (zs:List Value) (B':Option Addr) (d':Nat),k≤there.length∧x= .int .i64 (k:Int)∧j=cnt (there.take k)∧j≤m∧y= .slice B' (m-j) d'∧Rd wr 0 w.heap.size B' d' (xs.drop j)∧
  wr.ownsRow w.heap.size 26 1 (.slice (some ⟨w.heap.size,0,none⟩) there.length there.length) there.length zs∧qk0 T k zs∧Below w.heap.size w wr) (fun _ x _=>there.length-(intOf x).toNat)
 case atStart=>exact⟨0,0,_,B,d,qi _,rfl,by simp[cnt],qi _,rfl,by rw[jx];exact HX.out.below HB1.out (qc _),HO1.out,qd9 (by rw[HTL.out];simp),HB1.out⟩
 case round =>
  clear HO1 HB1 HX
  obtain⟨k,j,zs,B',d',hkk,rfl,hj,hjm,rfl,hrx,ho,hf,hb⟩:=hrel
  have HRX:=qa hrx
  have HO:=qa ho
  have HF:=qa hf
  have HB:=qa hb
  have HJ:=qa hj
  have hsz:=hb.size
  clear hrx ho hf hb hj
  by_cases hlt:k<there.length
  ·
   have ik:(k:Int)<(there.length:Int):=by omega
   obtain⟨b,off,rfl,_,hbl,hcell⟩:=(H.out.below HB.out (qc _)).row hlt
   have hct:=cnt_take there k hlt
   have htk:there[k]? = some there[k]:=qe hlt
   have HT0k:=qa (fun h:there[k]=false=>HT0.out k (by rw[htk,h]))
   have HT1k:=qa (fun h:there[k]=true=>HT1.out k (by rw[htk,h]))
   have hfr:=HO.out.frozenAt k
   have hzk:k<zs.length:=by rw[HF.out.1,HTL.out];exact hlt
   have hzc:wr.cell? ⟨w.heap.size,k,none⟩=some zs[k]:=by
    rw[HO.out.cellAt k (by omega),qe hzk]
   have HST:=qa (World.ownsRow.stored HO.out k (Value.slice none 0 0))
   have HBS:=qa (HB.out.setCell (p:=⟨w.heap.size,k,none⟩) (qc _) (Value.slice none 0 0))
   have HRXS:=qa (HRX.out.setCell (p:=⟨w.heap.size,k,none⟩) (.inr (qc _)) (Value.slice none 0 0))
   clear htk
   generalize there[k]=q at *
   generalize zs[k]=z0 at *
   cases q with
   | false =>
    have HUS:=qa (qay HF.out (Value.slice none 0 0) (HT0k.out rfl))
    go_wp2_with fail
    go_roundw
    case rel=>exact⟨k+1,j,_,B',d',by omega,by go_num,by rw[hct,←HJ.out];rfl,hjm,rfl,HRXS.out,HST.out.1,HUS.out,HBS.out⟩
    case measure=>simp[intOf];omega
   | true =>
    obtain⟨hjx,hTk⟩:=HT1k.out rfl
    rw[←HJ.out] at hjx hTk
    obtain⟨bx,ox,rfl,_,hbx,hcx⟩:=HRX.out.get (k:=0) (by rw[qu];omega)
    rw[List.getElem_drop,xx] at hcx
    simp only[xx] at hcx
    rw[qe hjx] at hTk
    obtain⟨pA,pn,pc,he⟩:=H1.out xs[j] (qj hjx)
    obtain⟨w4,hw4⟩:∃w4,wr.setCell ⟨w.heap.size,k,none⟩ (Value.slice none 0 0)=w4:=⟨_,rfl⟩
    rw[hw4] at HST HBS HRXS
    have hdl:=HRXS.out.len
    have hdc:=HRXS.out.cap
    rw[qu] at hdl
    unfold maxLen at hdc
    have HCUT:Hid (Rd w4 0 w.heap.size (if d'=1 then some ⟨bx,ox,none⟩ else some ⟨bx,ox+1,none⟩) (d'-1) (xs.drop (j+1))):=by
     have:=HRXS.out.cut (k:=1) (n:=m-j) (by omega) (by rw[qu];omega)
     rw[z7,qo (by rw[qu];omega)] at this
     exact this
    have hcx4:w4.cell? ⟨bx,ox,none⟩=some xs[j]:=by
     rw[←hw4,World.cell?_setCell_other _ _ _ _ (by intro e;injection e with e1;omega)]
     exact hcx
    have hfr4:=HST.out.1.frozenAt k
    have hz4:w4.cell? ⟨w.heap.size,k,none⟩=some (Value.slice none 0 0):=by
     rw[HST.out.1.cellAt k (by omega),qdq hzk]
    have HST4:=qa (World.ownsRow.stored HST.out.1 k xs[j])
    have HBS4:=qa (HBS.out.setCell (p:=⟨w.heap.size,k,none⟩) (qc _) xs[j])
    have HRX4:=qa (HCUT.out.setCell (p:=⟨w.heap.size,k,none⟩) (.inr (qc _)) xs[j])
    have HUS:=qa (qay (fill_same HF.out k (qc _) (Value.slice none 0 0)) xs[j] hTk)
    have HMJ:Hid (m-j-1=m-(j+1)):=by unfold Hid;omega
    rw[he] at hcx4 HST4 HBS4 HRX4 HUS
    clear HST HBS HRXS HCUT hcx hTk he HRX HO HF HB
    go_wp2_with fail
    go_region
    go_wp2_with fail
    go_roundw
    case rel=>exact⟨k+1,j+1,_,_,d'-1,by omega,by go_num,by rw[hct,←HJ.out];rfl,by omega,by rw[←HMJ.out],HRX4.out.drew,ju HST4.out.1 fun _ _=>rfl,HUS.out,HBS4.out.drew⟩
    case measure=>simp[intOf];omega
  ·
   have ik:¬(k:Int)<(there.length:Int):=by omega
   have hx:zs=T:=qe1 HF.out (by rw[HTL.out];omega)
   subst hx
   go_wp2_with fail
   go_ret
   exact⟨_,_,rfl,HO.out,HB.out⟩
end Go.Proofs.YtnjkipnklpkaoaaGreat
