/-
  Lemmas.
-/
import Derived.Test.YtnjkipnklpkaoaaGreatA11
import Derived.Lib.AppendZeros
namespace Go.Proofs.YtnjkipnklpkaoaaGreat
open Go.RowKit
set_option maxRecDepth 20000
set_option maxHeartbeats 16000000
set_option linter.unusedSimpArgs false
set_option linter.unusedVariables false
theorem isEmpty_ne{s:ByteArray}(h:¬s=⟨#[]⟩):s.toList.isEmpty=false:=by
 cases he:s.toList with
 | nil=>exact absurd (ByteArray.ext (Array.toList_inj.1 (by rw[←jf,he]))) h
 | cons a t=>rfl
theorem fits_v{w:World}(L:List Vl){c:Nat}{A:Option Addr}(h:Row w 0 w.heap.size A c L) :
  Calls Tryz.prog 108 #[.slice A L.length c] w fun r w'=>r= .returned (.bool (decide (kj L)))∧Below w.heap.size w w':=by
 obtain⟨hl,hm⟩:=h.len
 obtain⟨v,hv⟩:∃v,decide (kj L)=v:=⟨_,rfl⟩
 rw[hv]
 have HV0:Hid (∀k (hk:k<L.length),¬qm8 L[k]→v=false):=fun k hk h0=>by rw[←hv];exact ql fun h1=>h0 (h1.2 _ (qj hk))
 have HV1:Hid (¬L.length≤4096→v=false):=fun h0=>by rw[←hv];exact ql fun h1=>h0 h1.1
 have HV2:Hid (L.length≤4096→(∀k (hk:k<L.length),qm8 L[k])→v=true):=fun h0 h1=>by
  rw[←hv]
  exact qp ⟨h0,fun x hx=>by obtain⟨k,hk,rfl⟩:=zq hx;exact h1 k hk⟩
 have H:=qa h
 clear h hv
 go_enter Tryz.func108,Tryz.ntmps108
 go_wp2_with fail
 go_loopw [7] (fun i wr=>∃k:Nat,k≤L.length∧i= .int .i64 (k:Int)∧(∀j (hj:j<L.length),j<k→qm8 L[j])∧Below w.heap.size w wr) (fun i _=>L.length-(intOf i).toNat)
 case atStart=>exact⟨0,qi _,rfl,fun j hj h0=>by omega,Below.refl _ _⟩
 case round =>
  obtain⟨k,hk,rfl,ha,hb⟩:=hrel
  have HA:=qa ha
  have HB:=qa hb
  have hsz:=hb.size
  clear ha hb
  by_cases hlt:k<L.length
  ·
   have ik:(k:Int)<(L.length:Int):=by omega
   obtain⟨b,off,rfl,_,hbl,hc0,hc1⟩:=(H.out.below HB.out (qc _)).get hlt
   have hbw:b<wr.heap.size:=by omega
   have HN:Hid (qm8 L[k]→∀j (hj:j<L.length),j<k+1→qm8 L[j]):=fun h5 j hj hjk=>by
    by_cases e:j=k
    ·
     subst e;exact h5
    ·
     exact HA.out j hj (by omega)
   have HF:=qa (HV0.out k hlt)
   have HBA:Hid (Below w.heap.size w (wr.alloc (.cells #[.bool L[k].null,.string L[k].s] 60))):=HB.out.alloc hsz _
   clear HA HB
   unfold qm8 at HN HF
   generalize L[k].null=nb at *
   generalize L[k].s=s at *
   by_cases h5:s.size≤4096
   ·
    have i5:¬(4096:Int)<(s.size:Int):=by omega
    cases nb with
    | true =>
     by_cases he:s=⟨#[]⟩
     ·
      subst he
      go_wp2_with fail
      go_roundw
      case rel=>exact⟨k+1,by omega,by go_num,HN.out ⟨h5,fun _=>rfl⟩,HBA.out⟩
      case measure=>simp[intOf];omega
     ·
      have hne:s.toList.isEmpty=false:=isEmpty_ne he
      have hvf:v=false:=HF.out (fun h=>he (h.2 rfl))
      subst hvf
      go_wp2_with fail
      go_ret
      exact⟨rfl,HBA.out⟩
    | false =>
     go_wp2_with fail
     go_roundw
     case rel=>exact⟨k+1,by omega,by go_num,HN.out ⟨h5,fun h=>by cases h⟩,HBA.out⟩
     case measure=>simp[intOf];omega
   ·
    have i5:(4096:Int)<(s.size:Int):=by omega
    have hvf:v=false:=HF.out (fun h=>h5 h.1)
    subst hvf
    go_wp2_with fail
    go_ret
    exact⟨rfl,HBA.out⟩
  ·
   have ik:¬(k:Int)<(L.length:Int):=by omega
   by_cases h4:L.length≤4096
   ·
    have i4:(L.length:Int)≤4096:=by omega
    have hvt:v=true:=HV2.out h4 fun j hj=>HA.out j hj (by omega)
    subst hvt
    go_wp2_with fail
    go_ret
    exact⟨rfl,HB.out⟩
   ·
    have i4:¬(L.length:Int)≤4096:=by omega
    have hvf:v=false:=HV1.out h4
    subst hvf
    go_wp2_with fail
    go_ret
    exact⟨rfl,HB.out⟩
theorem right_v{w:World}(o:Co){c:Nat}{A:Option Addr}(h:Rd w 0 w.heap.size A c (iv o.draws)) :
  Calls Tryz.prog 109 #[.agg #[.int .i64 o.kind,.int .i64 o.block,.int .i64 o.rounds,.slice A o.draws.length c]] w fun r w'=>r= .returned (.bool (decide (qa3 o)))∧Below w.heap.size w w':=by
 obtain⟨v,hv⟩:∃v,decide (qa3 o)=v:=⟨_,rfl⟩
 rw[hv]
 have HF:Hid (¬qa3 o→v=false):=fun h=>by rw[←hv];exact ql h
 have HT:Hid (qa3 o→v=true):=fun h=>by rw[←hv];exact qp h
 have hl:=h.len
 have hm:=h.cap
 rw[ji] at hl
 clear hv h
 unfold qa3 at HF HT
 obtain⟨kd,bl,ro,ds⟩:=o
 simp only at *
 generalize ds.length=n at *
 go_enter Tryz.func109,Tryz.ntmps109
 by_cases h1:0≤kd
 ·
  by_cases h2:kd≤3
  ·
   by_cases h3:1≤bl
   ·
    by_cases h4:bl≤64
    ·
     by_cases h5:0≤ro
     ·
      by_cases h6:ro≤8
      ·
       by_cases h7:n≤4096
       ·
        have i7:(n:Int)≤4096:=by omega
        obtain rfl:v=true:=HT.out ⟨h1,h2,h3,h4,h5,h6,h7⟩
        go_wp2_with fail
        go_ret
        exact⟨rfl,(Below.refl _ _).alloc (qc _) _⟩
       ·
        have i7:¬(n:Int)≤4096:=by omega
        obtain rfl:v=false:=HF.out (fun h=>h7 h.2.2.2.2.2.2)
        go_wp2_with fail
        go_ret
        exact⟨rfl,(Below.refl _ _).alloc (qc _) _⟩
      ·
       obtain rfl:v=false:=HF.out (fun h=>h6 h.2.2.2.2.2.1)
       go_wp2_with fail
       go_ret
       exact⟨rfl,(Below.refl _ _).alloc (qc _) _⟩
     ·
      obtain rfl:v=false:=HF.out (fun h=>h5 h.2.2.2.2.1)
      go_wp2_with fail
      go_ret
      exact⟨rfl,(Below.refl _ _).alloc (qc _) _⟩
    ·
     obtain rfl:v=false:=HF.out (fun h=>h4 h.2.2.2.1)
     go_wp2_with fail
     go_ret
     exact⟨rfl,(Below.refl _ _).alloc (qc _) _⟩
   ·
    obtain rfl:v=false:=HF.out (fun h=>h3 h.2.2.1)
    go_wp2_with fail
    go_ret
    exact⟨rfl,(Below.refl _ _).alloc (qc _) _⟩
  ·
   obtain rfl:v=false:=HF.out (fun h=>h2 h.2.1)
   go_wp2_with fail
   go_ret
   exact⟨rfl,(Below.refl _ _).alloc (qc _) _⟩
 ·
  obtain rfl:v=false:=HF.out (fun h=>h1 h.1)
  go_wp2_with fail
  go_ret
  exact⟨rfl,(Below.refl _ _).alloc (qc _) _⟩
theorem there_v{w:World}(L:List Vl){c:Nat}{A:Option Addr}(h:Row w 0 w.heap.size A c L)(hn:L.length≤1000000) :
  Calls Tryz.prog 116 #[.slice A L.length c] w fun r w'=>∃A' c',r= .returned (.slice A' L.length c')∧w'.ownsRow w.heap.size 4 1 (.slice A' L.length c') L.length (lv (xf L))∧Below w.heap.size w w':=by
 obtain⟨hl,hm⟩:=h.len
 obtain⟨w1,hmake,ho1,hg1⟩:=qf3 w L.length (by omega)
 have HO1:=qa ho1
 have HB1:=qa (qcd (qc _) hg1 (fun g hg=>by cases hg))
 have H:=qa h
 have HZ:Hid (∀i (hi:i<L.length),(lv (xf L))[i]? = some (.bool !L[i].null)):=fun i hi=>by
  simp[lv,xf,qe hi]
 have HZL:Hid ((lv (xf L)).length=L.length):=by unfold Hid;rw[vk,uh]
 generalize lv (xf L)=zs at *
 clear h ho1 hg1
 go_enter Tryz.func116,Tryz.ntmps116
 go_wp2_with fail
 clear hmake
 go_loopw [11] (fun i wr=>∃(k:Nat) (xs:List Value),k≤L.length∧i= .int .i64 (k:Int)∧wr.ownsRow w.heap.size 4 1 (.slice (some ⟨w.heap.size,0,none⟩) L.length L.length) L.length xs∧qk0 zs k xs∧Below w.heap.size w wr) (fun i _=>L.length-(intOf i).toNat)
 case atStart=>exact⟨0,_,qi _,rfl,HO1.out,qd9 (by rw[HZL.out];simp),HB1.out⟩
 case round =>
  clear HO1 HB1
  obtain⟨k,xs,hk,rfl,ho,hup,hb⟩:=hrel
  have HO:=qa ho
  have HUP:=qa hup
  have HB:=qa hb
  have hsz:=hb.size
  clear ho hup hb
  by_cases hlt:k<L.length
  ·
   have ik:(k:Int)<(L.length:Int):=by omega
   obtain⟨b,off,rfl,_,hbl,hc0,hc1⟩:=(H.out.below HB.out (qc _)).get hlt
   have hbw:b<wr.heap.size:=by omega
   have HZ1:=qa (HZ.out k hlt)
   generalize L[k].null=nb at *
   generalize L[k].s=s at *
   obtain⟨w2,hw2⟩:∃w2,wr.alloc (.cells #[.bool nb,.string s] 60)=w2:=⟨_,rfl⟩
   have HO2:Hid (w2.ownsRow w.heap.size 4 1 (.slice (some ⟨w.heap.size,0,none⟩) L.length L.length) L.length xs):=by unfold Hid;rw[←hw2];exact HO.out.alloc _
   have HB2:Hid (Below w.heap.size w w2):=by unfold Hid;rw[←hw2];exact HB.out.alloc hsz _
   have hfr:=HO2.out.frozenAt k
   have hxk:k<xs.length:=by rw[HUP.out.1,HZL.out];exact hlt
   have hcell:w2.cell? ⟨w.heap.size,k,none⟩=some xs[k]:=by
    rw[HO2.out.cellAt k (by omega),qe hxk]
   have HST:=qa (World.ownsRow.stored HO2.out k (.bool !nb))
   have HBS:=qa (HB2.out.setCell (p:=⟨w.heap.size,k,none⟩) (qc _) (.bool !nb))
   have HUS:=qa (qay HUP.out (.bool !nb) HZ1.out)
   rw[←hw2] at hfr hcell HST HBS
   clear hw2 HO2 HB2
   generalize xs[k]=x0 at *
   cases nb with
   | true =>
    go_wp2_with fail
    go_roundw
    case rel=>exact⟨k+1,_,by omega,by go_num,HST.out.1,HUS.out,HBS.out⟩
    case measure=>simp[intOf];omega
   | false =>
    go_wp2_with fail
    go_roundw
    case rel=>exact⟨k+1,_,by omega,by go_num,HST.out.1,HUS.out,HBS.out⟩
    case measure=>simp[intOf];omega
  ·
   have ik:¬(k:Int)<(L.length:Int):=by omega
   have hx:xs=zs:=qe1 HUP.out (by rw[HZL.out];omega)
   subst hx
   go_wp2_with fail
   go_ret
   exact⟨_,_,rfl,HO.out,HB.out⟩
theorem texts_v{w:World}(L:List Vl){c:Nat}{A:Option Addr}(h:Row w 0 w.heap.size A c L)(hn:L.length≤1000000) :
  Calls Tryz.prog 111 #[.slice A L.length c] w fun r w'=>∃A' c',r= .returned (.slice A' (qw L).length c')∧w'.ownsRow w.heap.size 9 1 (.slice A' (qw L).length c') (qw L).length (sv (qw L))∧Below w.heap.size w w':=by
 obtain⟨hl,hm⟩:=h.len
 have H:=qa h
 clear h
 go_enter Tryz.func111,Tryz.ntmps111
 go_wp2_with fail
 go_loopw [3,8] (fun x i wr=>∃(k:Nat) (ys:List ByteArray) (A':Option Addr) (c' n:Nat),k≤L.length∧i= .int .i64 (k:Int)∧qw (L.take k)=ys∧ys.length=n∧n≤k∧x= .slice A' n c'∧wr.ownsRow w.heap.size 9 1 (.slice A' n c') n (sv ys)∧Below w.heap.size w wr) (fun _ i _=>L.length-(intOf i).toNat)
 case atStart=>exact⟨0,[],none,0,0,qi _,rfl,rfl,rfl,qc _,rfl,⟨rfl,.inl ⟨rfl,rfl⟩⟩,Below.refl _ _⟩
 case round =>
  obtain⟨k,ys,A',c',n,hk,rfl,hys,hyn,hnk,rfl,ho,hb⟩:=hrel
  have HY:=qa hys
  have HYN:=qa hyn
  have HO:=qa ho
  have HB:=qa hb
  have hsz:=hb.size
  clear ho hb hys hyn
  by_cases hlt:k<L.length
  ·
   have ik:(k:Int)<(L.length:Int):=by omega
   obtain⟨b,off,rfl,_,hbl,hc0,hc1⟩:=(H.out.below HB.out (qc _)).get hlt
   have hbw:b<wr.heap.size:=by omega
   have HT:=qa (qlf hlt)
   rw[HY.out] at HT
   generalize L[k].null=nb at *
   generalize L[k].s=s at *
   have HOA:=qa (HO.out.alloc (.cells #[.bool nb,.string s] 60))
   have HBA:=qa (HB.out.alloc hsz (.cells #[.bool nb,.string s] 60))
   cases nb with
   | true =>
    have HT2:Hid (qw (L.take (k+1))=ys):=by unfold Hid;rw[HT.out];simp
    clear HT
    go_wp2_with fail
    go_roundw
    case rel=>exact⟨k+1,ys,A',c',n,by omega,by go_num,HT2.out,HYN.out,by omega,rfl,HOA.out,HBA.out⟩
    case measure=>simp[intOf];omega
   | false =>
    obtain⟨zs,hzs⟩:∃zs,ys++[s]=zs:=⟨_,rfl⟩
    have HT2:Hid (qw (L.take (k+1))=zs):=by unfold Hid;rw[HT.out,←hzs];simp
    have hzl:zs.length=n+1:=by rw[←hzs,qd,HYN.out];rfl
    have HZL:=qa hzl
    have HZS:=qa hzs
    clear HT hzl hzs
    have HOB:=qa (HOA.out.alloc (.cells #[.string s] 9))
    have HBB:=qa (HBA.out.alloc (by simp;omega) (.cells #[.string s] 9))
    rw[←HYN.out] at HOB
    go_wp2_with (at_builtin;refine xz (v:= .slice A' n c') w.heap.size ys s rfl _ _ rfl rfl rfl rfl (by rw[za _ _ _ _ (by simp)];rfl) (by have:=HOB.out;rw[HYN.out] at this ⊢;exact this) (by rw[HYN.out];omega) (by simp;omega) ?_;intro A7 c7 w7 ho7 hg7;refine qaz ?_)
    have hb7:Below w.heap.size w w7:=HBB.out.grown hg7 (by simp;omega) (fun q hq=>(zk HOB.out (by rw[HYN.out];exact hq)).1)
    rw[HZS.out,HZL.out] at ho7
    have HO7:=qa ho7
    have HB7:=qa hb7
    have HZV:Hid (Value.slice A7 (ys.length+1) c7= .slice A7 (n+1) c7):=by unfold Hid;rw[HYN.out]
    clear ho7 hg7 hb7 HO HB HOA HBA HOB HBB
    refine⟨?_⟩
    go_wp2_with fail
    go_roundw
    case rel=>exact⟨k+1,zs,A7,c7,n+1,by omega,by go_num,HT2.out,HZL.out,by omega,HZV.out,HO7.out,HB7.out⟩
    case measure=>simp[intOf] <;> omega
  ·
   have ik:¬(k:Int)<(L.length:Int):=by omega
   have hke:L.take k=L:=qo (by omega)
   rw[hke] at HY
   go_wp2_with fail
   go_ret
   rw[HY.out,HYN.out]
   exact⟨_,_,rfl,HO.out,HB.out⟩
def qmg(u v:Value):Prop:=∀g,u.ownBlock=some g→v.ownBlock=some g→False
theorem qmg.symm{u v:Value}(h:qmg u v):qmg v u:=fun g h1 h2=>h g h2 h1
theorem qmg.keeps{u v:Value}(h:qmg u v):u.ownBlock=none∨u.ownBlock≠v.ownBlock:=by
 cases hu:u.ownBlock with
 | none=>exact .inl rfl
 | some g=>exact .inr fun e=>h g hu e.symm
structure Tri (w:World) (base:Nat) (u v t:Value) (xs ys zs:List Bool):Prop where
 o1:w.ownsRow base 4 1 u xs.length (lv xs)
 o2:w.ownsRow base 4 1 v ys.length (lv ys)
 o3:w.ownsRow base 4 1 t zs.length (lv zs)
 a12:qmg u v
 a13:qmg u t
 a23:qmg v t
theorem Tri.nil(w:World)(base:Nat):Tri w base (.slice none 0 0) (.slice none 0 0) (.slice none 0 0) [] [] [] :=
 ⟨zh ..,zh ..,zh ..,fun _ h=>(by cases h),fun _ h=>(by cases h),fun _ h=>(by cases h)⟩
theorem Tri.push{w w2:World}{base:Nat}{u v t u':Value}{xs ys zs xs':List Bool}(h:Tri w base u v t xs ys zs)(o:Obj)(h1:w2.ownsRow base 4 1 u' xs'.length (lv xs'))(hg:(w.alloc o).grownBy w2 u.ownBlock)
  (hb:u'.ownBlock=u.ownBlock∨u'.ownBlock=some (w.alloc o).heap.size):Tri w2 base u' v t xs' ys zs:=by
 have hs:(w.alloc o).heap.size=w.heap.size+1:=by simp
 have key:∀ {s:Value} {ls:List Bool},w.ownsRow base 4 1 s ls.length (lv ls)→qmg u s→qmg u' s:=by
  intro s ls ho ha g hg1 hg2
  rcases hb with e | e
  ·
   exact ha g (e ▸ hg1) hg2
  ·
   rw[e] at hg1
   have:=(ho.lt g hg2).2
   injection hg1 with hg1
   omega
 exact⟨h1,(h.o2.alloc o).kept hg h.a12.symm.keeps,(h.o3.alloc o).kept hg h.a13.symm.keeps,key h.o2 h.a12,key h.o3 h.a13,h.a23⟩
theorem qis(w:World)(base:Nat)(v:Value)(ys zs us:List Int)(hus:ys++zs=us)(hown:w.ownsRow base 3 1 v ys.length (iv ys)){lo h':Nat}{A:Option Addr}{c:Nat}(hr:Rd w lo h' A c (iv zs))
  (hb:ys.length+zs.length≤17592186044416) (hbase:base≤w.heap.size) :
  ∃A' c' w',(Builtin.append_ #[64,64] 64 #[v,.slice A zs.length c]).run Tryz.prog w= .ok (.slice A' us.length c') w'∧
   w'.ownsRow base 3 1 (.slice A' us.length c') us.length (iv us)∧w.grownBy w' v.ownBlock∧((Value.slice A' us.length c').ownBlock=v.ownBlock∨(Value.slice A' us.length c').ownBlock=some w.heap.size):=by
 subst hus
 obtain⟨i0,hi0,hz0,hz1,hz2⟩:=info_parts Tryz.infoI64
 have hl:=ji zs
 obtain⟨A',c',w',hrun,h2,h3,h4⟩:=ui (P:=Tryz.prog) w base 64 64 3 i0 _ 8 Tryz.underlying64 hi0 hz0 hz1 hz2 rfl v ys.length (iv ys) hown lo h' A c (iv zs) hr (iv_one _)
  (by rw[hl];simp only[maxLen];omega) (by rw[hl];omega) hbase
 rw[hl] at hrun h2 h4
 rw[qd]
 exact⟨A',c',w',hrun,by rw[iv_append];exact h2,h3,h4⟩
structure SB (w:World) (lo hi:Nat) (u v:Value) (ss:List Nat) (bs:List UInt8):Prop where
 o1:w.ownsRow lo 3 1 u ss.length (iv (zu ss))
 o2:w.ownsRow lo 5 1 v bs.length (bv bs)
 h1:∀g,u.ownBlock=some g→g<hi
 h2:∀g,v.ownBlock=some g→g<hi
 ap:∀g,u.ownBlock=some g→v.ownBlock=some g→False
section
variable {w w':World}{lo hi:Nat}{u v:Value}{ss:List Nat}{bs:List UInt8}
theorem SB.nil(w:World)(lo hi:Nat):SB w lo hi (.slice none 0 0) (.slice none 0 0) [] []:=⟨zh ..,zh ..,fun _ h=>(by cases h),fun _ h=>(by cases h),fun _ h=>(by cases h)⟩
theorem SB.top(h:SB w lo hi u v ss bs):SB w lo w.heap.size u v ss bs:=⟨h.o1,h.o2,fun g hg=>(zk h.o1 hg).2,fun g hg=>(zk h.o2 hg).2,h.ap⟩
theorem SB.drewN(h:SB w lo hi u v ss bs)(m:Nat):SB (w.drewN m) lo hi u v ss bs:=⟨ju h.o1 (fun _ _=>rfl),ju h.o2 (fun _ _=>rfl),h.h1,h.h2,h.ap⟩
theorem SB.below{B:Nat}(h:SB w lo hi u v ss bs)(hb:Below B w w')(hB:hi≤B):SB w' lo hi u v ss bs :=
 ⟨ju h.o1 (fun k hk=>hb.block k (by have:=h.h1 k hk;omega)),ju h.o2 (fun k hk=>hb.block k (by have:=h.h2 k hk;omega)),h.h1,h.h2,h.ap⟩
theorem SB.grown{row:Option Nat}(h:SB w lo hi u v ss bs)(hg:w.grownBy w' row)(hr:∀g,row=some g→hi≤g):SB w' lo hi u v ss bs :=
 ⟨ju h.o1 (fun k hk=>hg.block k (zk h.o1 hk).2 (fun e=>by have:=h.h1 k hk;have:=hr k e.symm;omega)),ju h.o2 (fun k hk=>hg.block k (zk h.o2 hk).2 (fun e=>by have:=h.h2 k hk;have:=hr k e.symm;omega)),h.h1,h.h2,h.ap⟩
theorem SB.push{A:Option Addr}{n c:Nat}(h:SB w lo hi (.slice A n c) v ss bs)(hn:n=ss.length)(hl:n≤1000000000)(hlo:lo≤w.heap.size) :
  ∃A' c' w',(Builtin.append_ #[64,64] 64 #[.slice A n c,.slice (some ⟨w.heap.size,0,none⟩) 1 1]).run Tryz.prog (w.alloc (.cells #[.int .i64 0] 3))= .ok (.slice A' (n+1) c') w'∧
   SB w' lo w'.heap.size (.slice A' (n+1) c') v (ss++[0]) bs∧Below lo w w':=by
 subst hn
 have hil:=zj ss
 have h1:(w.alloc (.cells #[.int .i64 0] 3)).ownsRow lo 3 1 (.slice A ss.length c) (zu ss).length (iv (zu ss)):=by rw[hil];exact h.o1.alloc _
 obtain⟨A',c',w',hrun,ho,hg,hb⟩:=qis (w.alloc (.cells #[.int .i64 0] 3)) lo (.slice A ss.length c) (zu ss) [0] (zu (ss++[0])) (by simp[zu]) h1 (rd_ints w 3 [0] #[.int .i64 0] rfl (by simp)) (by rw[hil];simp;omega) (by simp;omega)
 rw[zj,qd] at hrun ho hb
 have hv:v.ownBlock=none∨v.ownBlock≠(Value.slice A ss.length c).ownBlock:=by
  cases hx:v.ownBlock with
  | none=>exact Or.inl rfl
  | some g=>exact Or.inr fun e=>h.ap g e.symm hx
 have ho2:=(h.o2.alloc (.cells #[.int .i64 0] 3)).kept hg hv
 refine⟨A',c',w',hrun,⟨by rw[qd];exact ho,ho2,fun g hg2=>(zk ho hg2).2,fun g hg2=>(zk ho2 hg2).2,fun g hg2 hg3 => ?_⟩,((Below.refl lo w).alloc hlo _).grown hg (by simp;omega) (fun g hg2=>(zk h.o1 hg2).1)⟩
 rcases hb with e | e
 ·
  exact h.ap g (e.symm.trans hg2) hg3
 ·
  have h3:=(zk h.o2 hg3).2
  have h4:(Value.slice A' (ss.length+1) c').ownBlock=some g:=hg2
  have h5:some g=some (w.alloc (.cells #[.int .i64 0] 3)).heap.size:=h4.symm.trans e
  injection h5 with h5
  simp at h5
  omega
theorem SB.set{g n c:Nat}(h:SB w lo hi (.slice (some ⟨g,0,none⟩) n c) v ss bs)(hn:n=ss.length)(i x:Nat):SB (w.setCell ⟨g,i,none⟩ (.int .i64 (x:Int))) lo hi (.slice (some ⟨g,0,none⟩) n c) v (ss.set i x) bs:=by
 subst hn
 refine⟨?_,ownsRow_setCell_other h.o2 (fun e=>h.ap g rfl e) _,h.h1,h.h2,h.ap⟩
 have:=(h.o1.stored i (.int .i64 (x:Int))).1
 rw[xt]
 have e:iv (zu (ss.set i x))=(iv (zu ss)).set i (.int .i64 (x:Int)):=by simp[iv,zu,List.map_set]
 rw[e]
 exact this
end
theorem zero_size(z:Value)(n:Nat)(h:z.cells.size=1):(Builtin.zeroCells z.cells n).size=n:=by simp[Builtin.zeroCells,h]
theorem sgrow_any{w:World}(n:Nat)(h0:0<n)(h1:n≤100000000000000) :
  Calls Tryz.prog 157 #[.slice none 0 0,.int .i64 (n:Int)] w fun r w'=>∃A c,r= .returned (.slice A 0 c)∧w'.ownsRow w.heap.size 5 1 (.slice A 0 c) 0 []∧Below w.heap.size w w':=by
 obtain⟨i0,hi0,hz0,hz1,hz2⟩:=info_parts Tryz.infoU8
 have hc1:=grownCap_le_maxLen w n 0 5 (by unfold maxLen;omega)
 have hc2:=grownCap_ge w n 0 5
 have hrun:=fun ty=>Lib.run_append_nil_zeros (P:=Tryz.prog) w 26 3 ty 5 i0 (.int .u8 0) .i64 .i64 Tryz.underlying26 Tryz.underlying3 hi0 hz0 n h0 (by omega) (by omega) (by rw[hz2];omega)
 have hown:(w.drew.alloc (.cells (Builtin.zeroCells (Value.int .u8 0).cells n++Builtin.zeroCells (Value.int .u8 0).cells (grownCap w n 0 5-n)) 5)).ownsRow w.heap.size 5 1 (.slice (some ⟨w.heap.size,0,none⟩) 0 (grownCap w n 0 5)) 0 []:=by
  have:=World.ownsRow_made (e:=5) (size:=1) (base:=w.heap.size) w.drew (Builtin.zeroCells (Value.int .u8 0).cells n++Builtin.zeroCells (Value.int .u8 0).cells (grownCap w n 0 5-n)) (grownCap w n 0 5) (qc _) hc1 (by rw[Array.size_append,zero_size _ _ rfl,zero_size _ _ rfl];omega)
  exact this
 have hbel:Below w.heap.size w (w.drew.alloc (.cells (Builtin.zeroCells (Value.int .u8 0).cells n++Builtin.zeroCells (Value.int .u8 0).cells (grownCap w n 0 5-n)) 5)):=(zg (Below.refl _ w) 1).alloc (qc _) _
 unfold maxLen at hc1
 generalize grownCap w n 0 5=G at *
 generalize w.drew.alloc (.cells (Builtin.zeroCells (Value.int .u8 0).cells n++Builtin.zeroCells (Value.int .u8 0).cells (G-n)) 5)=w1 at *
 have HO:=qa hown
 have HB:=qa hbel
 have HRUN:=qa hrun
 have i1:¬(n:Int)<0:=by omega
 have i2:(0:Int)<(n:Int):=by omega
 clear hown hbel hrun
 go_enter Tryz.func157,Tryz.ntmps157
 go_wp2_with (at_builtin;refine Lib.wpList_append_run _ rfl _ _ _ _ rfl _ _ rfl rfl _ _ (HRUN.out _) ?_)
 go_ret
 exact⟨_,_,rfl,HO.out,HB.out⟩
theorem partsL_len(ps:List Part){k:Nat}(hk:k≤ps.length):(xl (ps.take k)).length≤(xl ps).length:=by
 have:xl ps=xl (ps.take k)++xl (ps.drop k):=by unfold xl;rw[←List.flatMap_append,zx]
 rw[this,qd]
 omega
theorem qq0{w:World}(ps:List Part){A:Option Addr}{c:Nat}(h:Rd w 0 w.heap.size A c (ps.map Part.val))(hp:∀p∈ps,p.rd w w.heap.size)(h0:0<(xl ps).length)(h1:(xl ps).length≤100000000000000) :
  Calls Tryz.prog 114 #[.slice A ps.length c] w fun r w'=>∃A' c',r= .returned (.slice A' (xl ps).length c')∧w'.ownsRow w.heap.size 5 1 (.slice A' (xl ps).length c') (xl ps).length (bv (xl ps))∧Below w.heap.size w w':=by
 have hl:=h.len
 have hm:=h.cap
 rw[q8] at hl
 unfold maxLen at hm
 have H:=qa h
 have HP:=qa hp
 have HTK:Hid (∀k (hk:k<ps.length),xl (ps.take (k+1))=xl (ps.take k)++ps[k].bs):=fun k hk=>qq8 ps hk
 have HLE:Hid (∀k,k≤ps.length→(xl (ps.take k)).length≤(xl ps).length):=fun k hk=>partsL_len ps hk
 have HALL:Hid (xl (ps.take ps.length)=xl ps):=by unfold Hid;rw[yf]
 generalize (xl ps)=T at *
 obtain⟨N,hN⟩:∃N,T.length=N:=⟨_,rfl⟩
 have HN:=qa hN
 rw[hN] at h0 h1 HLE
 clear h hp hN
 go_enter Tryz.func114,Tryz.ntmps114
 go_wp2_with fail
 go_loop [3,11] (fun x3 x11=>∃k q:Nat,k≤ps.length∧x11= .int .i64 (k:Int)∧x3= .int .i64 (q:Int)∧q=(xl (ps.take k)).length) (fun _ i=>ps.length-(intOf i).toNat)
 case atStart=>exact⟨0,0,qi _,rfl,rfl,rfl⟩
 case round =>
  obtain⟨k,q,hk,rfl,rfl,hq⟩:=hrel
  have HQ:=qa hq
  clear hq
  by_cases hlt:k<ps.length
  ·
   have ik:(k:Int)<(ps.length:Int):=by omega
   obtain⟨b,off,rfl,_,_,hcell⟩:=H.out.get (k:=k) (by rw[q8];exact hlt)
   rw[yz] at hcell
   have hle:=HLE.out (k+1) (by omega)
   have HT:=qa (HTK.out k hlt)
   have e:=HT.out
   rw[e,qd,←HQ.out] at hle
   have hql:Hid ((xl (ps.take (k+1))).length=q+ps[k].bs.length):=by unfold Hid;rw[e,qd,←HQ.out]
   clear e HT HTK HLE
   generalize ps[k]=p at *
   obtain⟨A1,c1,bs⟩:=p
   unfold Part.val at hcell
   dsimp only at hcell hle hql
   have w1:IntKind.i64.wrap ((q:Int)+(bs.length:Int))=((q+bs.length:Nat):Int):=(z8 _ (by omega)).trans (by omega)
   have n1:¬((q+bs.length:Nat):Int)<0:=by omega
   go_wp2_with fail
   go_round
   case rel=>exact⟨k+1,q+bs.length,by omega,by go_num,by go_num,hql.out.symm⟩
   case measure=>simp[intOf];omega
  ·
   obtain rfl:k=ps.length:=by omega
   have hqN:q=N:=by rw[HQ.out,HALL.out,HN.out]
   subst hqN
   go_wp2_with fail
   refine(sgrow_any q h0 h1).mono ?_
   rintro r w1 ⟨A1,c1,rfl,hown1,hb1⟩
   have HO1:=qa hown1
   have HB1:=qa hb1
   clear hown1 hb1
   go_wp2_with fail
   go_loopw [6,27] (fun x6 x27 wr=>∃(k n:Nat) (A':Option Addr) (c':Nat),k≤ps.length∧x27= .int .i64 (k:Int)∧x6= .slice A' n c'∧n=(xl (ps.take k)).length∧
    wr.ownsRow w.heap.size 5 1 (.slice A' n c') n (bv (xl (ps.take k)))∧Below w.heap.size w wr) (fun _ i _=>ps.length-(intOf i).toNat)
   case atStart=>exact⟨0,0,A1,c1,qi _,rfl,rfl,rfl,HO1.out,HB1.out⟩
   case round =>
    clear HO1 HB1 HQ
    obtain⟨k,n,A',c',hk2,rfl,rfl,hn,hown,hb⟩:=hrel
    have HNN:=qa hn
    have HO:=qa hown
    have HB:=qa hb
    have hsz:=hb.size
    clear hn hown hb
    by_cases hlt:k<ps.length
    ·
     have ik:(k:Int)<(ps.length:Int):=by omega
     obtain⟨b,off,rfl,_,_,hcell⟩:=(H.out.below HB.out (qc _)).get (k:=k) (by rw[q8];exact hlt)
     rw[yz] at hcell
     have hle:=HLE.out (k+1) (by omega)
     have hr:=(HP.out ps[k] (qj hlt)).below HB.out (qc _)
     have e:=HTK.out k hlt
     rw[e,qd,←HNN.out] at hle
     have ho:=HO.out
     rw[HNN.out] at ho
     obtain⟨A2,c2,w2,hrun2,hown2,hg2⟩:=j9 wr w.heap.size _ _ ps[k].bs (xl (ps.take (k+1))) e.symm ho hr (by rw[←HNN.out];omega) hsz
     rw[←HNN.out] at hrun2
     obtain⟨us,hus⟩:∃us,xl (ps.take (k+1))=us:=⟨_,rfl⟩
     rw[hus] at hrun2 hown2 e
     have HUS:=qa hus
     have HO2:=qa hown2
     have HB2:=qa (HB.out.grown hg2 hsz (fun g hg=>(zk ho hg).1))
     clear hown2 hg2 ho hr e hus HO HB HLE HTK
     generalize ps[k]=p at *
     obtain⟨A1,c1,bs⟩:=p
     unfold Part.val at hcell
     dsimp only at hcell hle hrun2
     go_wp2_with (at_builtin;refine wpList_append_run rfl _ _ _ _ rfl rfl rfl hrun2 ?_;refine qaz ?_)
     refine⟨?_⟩
     clear hrun2
     go_wp2_with fail
     go_roundw
     case rel=>exact⟨k+1,us.length,A2,c2,by omega,by go_num,rfl,by rw[HUS.out],by rw[HUS.out];exact HO2.out,HB2.out⟩
     case measure=>simp[intOf];omega
    ·
     obtain rfl:k=ps.length:=by omega
     have hnn:=HNN.out
     have ho:=HO.out
     rw[HALL.out] at hnn ho
     have HNF:=qa hnn
     have HOF:=qa ho
     clear hnn ho
     go_wp2_with fail
     go_ret
     exact⟨A',c',by rw[←HNF.out];rfl,by rw[←HNF.out];exact HOF.out,HB.out⟩
section
open Go.RowKit Go.Shelf
attribute [local go_sem] Oper.semAt_some
structure Ck (K n:Nat) where
 i:Nat
 h:i*K<n
end
section
open Go.RowKit Go.Shelf
section
variable {w w':World}{lo:Nat}{u v:Value}{ss:List Nat}{bs:List UInt8}
theorem SB.keptG{row:Option Nat}(h:SB w lo w.heap.size u v ss bs)(hg:w.grownBy w' row)(hr:∀r,row=some r→∃o:Obj,w.heap[r]? = some o∧o.isCells=false):SB w' lo w'.heap.size u v ss bs:=by
 have h1:=row_keep h.o1 hg hr
 have h2:=row_keep h.o2 hg hr
 exact⟨h1,h2,fun g hg2=>(zk h1 hg2).2,fun g hg2=>(zk h2 hg2).2,h.ap⟩
end
end
section
open Go.RowKit Go.Shelf
attribute [local go_sem] Oper.semAt_some
def BI(b6 b7 lo:Nat)(S:List Nat)(E:List UInt8)(W:World):Prop :=
 ∃As cs Aa ca,Boxed W b6 64 (.slice As S.length cs)∧Boxed W b7 26 (.slice Aa E.length ca)∧SB W lo W.heap.size (.slice As S.length cs) (.slice Aa E.length ca) S E
theorem BI.own(b6 b7 lo:Nat){α:Type}(S:α→List Nat)(E:α→List UInt8):Own (fun s=>BI b6 b7 lo (S s) (E s)):=fun s X Y row h hg hr=>by
 obtain⟨As,cs,Aa,ca,h6,h7,hsb⟩:=h
 exact⟨As,cs,Aa,ca,qck h6 hg hr,qck h7 hg hr,hsb.keptG hg hr⟩
end
structure Tw (w:World) (base:Nat) (t1 t2:TypeId) (u v:Value) (n m:Nat) (xs ys:List Value):Prop where
 o1:w.ownsRow base t1 1 u n xs
 o2:w.ownsRow base t2 1 v m ys
 ap:qmg u v
section
variable {w w':World}{base n m n' m':Nat}{t1 t2:TypeId}{u v u' v':Value}{xs ys xs' ys':List Value}
theorem Tw.nil(w:World)(base:Nat)(t1 t2:TypeId):Tw w base t1 t2 (.slice none 0 0) (.slice none 0 0) 0 0 [] []:=⟨zh ..,zh ..,fun _ h=>(by cases h)⟩
theorem Tw.below(h:Tw w base t1 t2 u v n m xs ys)(hb:Below w.heap.size w w'):Tw w' base t1 t2 u v n m xs ys:=⟨js h.o1 hb (qc _),js h.o2 hb (qc _),h.ap⟩
theorem Tw.alloc(h:Tw w base t1 t2 u v n m xs ys)(o:Obj):Tw (w.alloc o) base t1 t2 u v n m xs ys:=⟨h.o1.alloc o,h.o2.alloc o,h.ap⟩
theorem Tw.symm(h:Tw w base t1 t2 u v n m xs ys):Tw w base t2 t1 v u m n ys xs:=⟨h.o2,h.o1,h.ap.symm⟩
end
theorem refSame_v{w:World}(L M:List Vl){lo lo2 c d:Nat}{A B:Option Addr}(h:Row w lo w.heap.size A c L)(h2:Row w lo2 w.heap.size B d M) :
  Calls Tryz.prog 51 #[.slice A L.length c,.slice B M.length d] w fun r w'=>r= .returned (.bool (decide (L=M)))∧∃k,w.drewN k=w':=by
 obtain⟨hl,hm⟩:=h.len
 obtain⟨hl2,hm2⟩:=h2.len
 have H:=qa h
 have H2:=qa h2
 clear h h2
 by_cases hlen:L.length=M.length
 ·
  rw[←hlen]
  have HL:=qa hlen
  clear hlen
  go_enter Tryz.func51,Tryz.ntmps51
  go_wp2_with fail
  go_loopw [5] (fun i wr=>∃k q:Nat,k≤L.length∧i= .int .i64 (k:Int)∧Hid (L.take k=M.take k)∧w.drewN q=wr) (fun i _=>L.length-(intOf i).toNat)
  case atStart=>exact⟨0,0,qi _,rfl,rfl,rfl⟩
  case round =>
   obtain⟨k,q,hk,rfl,HE,rfl⟩:=hrel
   by_cases hlt:k<L.length
   ·
    have ik:(k:Int)<(L.length:Int):=by omega
    have hlt2:k<M.length:=by have:=HL.out;omega
    obtain⟨b1,o1,rfl,_,_,x0,x1⟩:=H.out.get hlt
    obtain⟨b2,o2,rfl,_,_,y0,y1⟩:=H2.out.get hlt2
    have ht1:Hid (L.take (k+1)=L.take k++[L[k]]):=qg hlt
    have ht2:Hid (M.take (k+1)=M.take k++[M[k]]):=qg hlt2
    have hq:Hid (L=M→L[k]=M[k]):=fun h=>by subst h;rfl
    have i0:(0:Int)≤(k:Int):=by omega
    generalize L[k]=x at *
    generalize M[k]=y at *
    obtain⟨xn,xs⟩:=x
    obtain⟨yn,ys⟩:=y
    simp only at x0 x1 y0 y1
    by_cases hxy:xn=yn∧xs=ys
    ·
     obtain⟨rfl,rfl⟩:=hxy
     go_wp2_with fail
     go_quiet (fail)
     go_wp2_with fail
     go_roundw
     case rel=>exact⟨k+1,_,by omega,by go_num,by unfold Hid;rw[ht1.out,ht2.out,HE.out],rfl⟩
     case measure=>simp[intOf];omega
    ·
     have HX:Hid (decide (L=M)=false):=ql fun h=>hxy (by have:=hq.out h;injection this with h1 h2;exact⟨h1,h2⟩)
     by_cases hs:xs=ys
     ·
      subst hs
      cases xn <;> cases yn
      ·
       exact absurd ⟨rfl,rfl⟩ hxy
      ·
       clear hxy
       go_wp2_with fail
       go_quiet (fail)
       go_wp2_with fail
       go_ret
       exact⟨zf HX.out.symm,_,(zr _ _ _).symm⟩
      ·
       clear hxy
       go_wp2_with fail
       go_quiet (fail)
       go_wp2_with fail
       go_ret
       exact⟨zf HX.out.symm,_,(zr _ _ _).symm⟩
      ·
       exact absurd ⟨rfl,rfl⟩ hxy
     ·
      have hs2:(xs.toList==ys.toList)=false:=qr.2 fun h=>hs (ByteArray.ext (Array.toList_inj.1 (by rw[←jf,←jf,h])))
      clear hxy
      cases xn <;> cases yn
      all_goals
       go_wp2_with fail
       go_quiet (fail)
       go_wp2_with fail
       go_ret
       exact⟨zf HX.out.symm,_,(zr _ _ _).symm⟩
   ·
    have ik:¬(k:Int)<(L.length:Int):=by omega
    have hall:Hid (L=M):=by
     have h:=HE.out
     rw[qo (by omega),qo (by have:=HL.out;omega)] at h
     exact h
    go_wp2_with fail
    go_ret
    exact⟨zf (qp hall.out).symm,_,rfl⟩
 ·
  have hne:((L.length:Int) != (M.length:Int))=true:=by rw[bne_iff_ne];omega
  have HN:Hid (decide (L=M)=false):=ql fun h=>hlen (by rw[h])
  go_enter Tryz.func51,Tryz.ntmps51
  go_wp2_with fail
  go_ret
  exact⟨zf HN.out.symm,0,rfl⟩
end Go.Proofs.YtnjkipnklpkaoaaGreat
