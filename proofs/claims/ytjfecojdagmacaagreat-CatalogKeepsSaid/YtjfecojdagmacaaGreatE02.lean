/-
  Lemmas.
-/
import Derived.Test.YtjfecojdagmacaaGreatE01
import Derived.BigFrame
namespace Go.Proofs.YtjfecojdagmacaaGreat
open Go.RowKit
set_option maxRecDepth 20000
set_option maxHeartbeats 16000000
set_option linter.unusedSimpArgs false
set_option linter.unusedVariables false
theorem qcf{w:World}(n:Nat)(hn:n≤9223372036854775807) :
  Calls Tryz.prog 39 #[.int .i64 (n:Int)] w fun r w'=>∃A c,r= .returned (.slice A (jc n).length c)∧w'.ownsRow w.heap.size 5 1 (.slice A (jc n).length c) (jc n).length (bv (jc n))∧Below w.heap.size w w':=by
 have h9:=kt n hn
 go_enter Tryz.func39,Tryz.ntmps39
 go_wp2_with fail
 go_loopw [0,3] (fun i v wr=>∃(m:Nat) (ys:List UInt8) (A:Option Addr) (c:Nat),m≤n∧i= .int .i64 (m:Int)∧v= .slice A ys.length c∧ys++jc m=jc n∧wr.ownsRow w.heap.size 5 1 (.slice A ys.length c) ys.length (bv ys)∧Below w.heap.size w wr) (fun i _ _=>(intOf i).toNat)
 case atStart=>exact⟨n,[],none,0,by omega,rfl,rfl,rfl,zj ..,Below.refl _ _⟩
 case round =>
  obtain⟨m,ys,A,c,hm,rfl,rfl,hys,hown,hbel⟩:=hrel
  have hl:ys.length+1≤9:=by
   have h1:=congrArg List.length hys
   have h2:=qks m
   rw[qd] at h1
   omega
  have HO:=qa hown
  have HY:=qa hys
  have HB:=qa hbel
  have hsz:=hbel.size
  clear hown hys hbel
  by_cases hlt:128≤m
  ·
   have HA:=qa (or_more m)
   go_wp2_with (at_builtin;refine qcs (v:= .slice A ys.length c) w.heap.size ys (UInt8.ofNat (m%128+128)) rfl _ _ rfl rfl rfl rfl (by rw[HA.out,zm _ _ _ _ rfl];rfl) (HO.out.alloc _) (by omega) (by simp;omega) ?_;intro A' c' w1 hown1 hgr1)
   have HO1:=qa hown1
   have HG1:=qa hgr1
   clear hown1 hgr1
   go_wp2
   go_roundw
   case rel =>
    refine⟨m/128,ys++[UInt8.ofNat (m%128+128)],A',c',by omega,by go_num,by simp,?_,HO1.out,?_⟩
    ·
     rw[←HY.out,qe6 hlt];simp
    ·
     exact(HB.out.alloc hsz _).grown HG1.out (by simp;omega) (fun k hk=>(HO.out.lt k hk).1)
   case measure=>simp[intOf];omega
  ·
   have HA:Hid ((UInt8.ofNat m).toNat=m):=by
    unfold Hid
    rw[yj];omega
   go_wp2_with (at_builtin;refine qcs (v:= .slice A ys.length c) w.heap.size ys (UInt8.ofNat m) rfl _ _ rfl rfl rfl rfl (by rw[HA.out,zm _ _ _ _ rfl];first | rfl | (simp;omega)) (HO.out.alloc _) (by omega) (by simp;omega) ?_;intro A' c' w1 hown1 hgr1)
   have HO1:=qa hown1
   have HG1:=qa hgr1
   clear hown1 hgr1
   go_wp2
   go_ret
   have e:jc n=ys++[UInt8.ofNat m]:=by rw[←HY.out,k8 (by omega)]
   have e2:(jc n).length=ys.length+1:=by rw[e];simp
   refine⟨A',c',by rw[e2];rfl,by rw[e];exact HO1.out,?_⟩
   exact(HB.out.alloc hsz _).grown HG1.out (by simp;omega) (fun k hk=>(HO.out.lt k hk).1)
theorem qjz{w:World}(zs:List Int)(hm:May zs){h':Nat}{A:Option Addr}{c:Nat}(h:Rd w 0 h' A c (iv zs))(hh:h'≤w.heap.size)(hlen:zs.length≤4294967295) :
  Calls Tryz.prog 112 #[.slice A zs.length c] w fun r w'=>∃A' c',r= .returned (.tuple #[.slice A' (jr zs).length c',.int .i64 0])∧
   w'.ownsRow w.heap.size 5 1 (.slice A' (jr zs).length c') (jr zs).length (bv (jr zs))∧Below w.heap.size w w':=by
 have HW:=qa (width_any (w:=w) zs hm.word h)
 have HP:=qa (pput_yes (w:=w) zs (wide zs) hm.fits h hh hlen)
 have h1:=kt zs.length (by omega)
 have h2:=hm.wide_le
 have h3:zs.length*wide zs≤4294967295*32:=ug hlen h2
 have h4:(qbo (wide zs) (qcu zs)).length≤4294967295*4+1:=by rw[qbz,ux];omega
 have h5:(qbo (wide zs) (qcu zs)).length≤140737488355328:=by omega
 have HE:Hid (jc zs.length++([UInt8.ofNat (wide zs)]++qbo (wide zs) (qcu zs))=jr zs):=rfl
 have HB:=qa (qii (n:=wide zs) (by omega))
 clear h hm
 generalize qbo (wide zs) (qcu zs)=pk at *
 generalize wide zs=wd at *
 go_enter Tryz.func112,Tryz.ntmps112
 go_wp2_with fail
 refine HW.out.mono ?_
 rintro r w' ⟨rfl,rfl⟩
 go_wp2_with fail
 refine HP.out.mono ?_
 rintro r w1 ⟨A1,c1,rfl,hown1,hb1⟩
 have HO1:=qa hown1
 have HB1:=qa hb1
 have s1:=hb1.size
 clear hown1 hb1
 go_wp2_with fail
 refine(qcf zs.length (by omega)).mono ?_
 rintro r w2 ⟨A2,c2,rfl,hown2,hb2⟩
 have HO2:=qa hown2
 have HB2:=qa (zz HB1.out hb2 s1)
 have HK2:=qa (ji HO1.out hb2 (qc _))
 have s2:=hb2.size
 have hb2':=hb2
 clear hown2 hb2
 generalize jc zs.length=pl at *
 go_wp2_with (at_builtin;refine qcs (v:= .slice A2 pl.length c2) w1.heap.size pl (UInt8.ofNat wd) rfl _ _ rfl rfl rfl rfl (by rw[HB.out,zm _ _ _ _ rfl];first | rfl | (simp;omega)) (HO2.out.alloc _) (by omega) (by simp;omega) ?_;intro A3 c3 w3 hown3 hgr3;refine qbj ?_)
 refine⟨?_⟩
 have HR3:=qa ((((Rd.own HO1.out).below hb2' (qc _)).alloc s2 (.cells #[.int .u8 (wd:Int)] 5)).grown hgr3 (by simp;omega) (fun k hk=> .inr (qhe HO2.out k hk)))
 have k3:=(HB2.out.alloc (zc s1 s2) _).grown hgr3 (by simp;omega) (fun k hk=>zc s1 (qhe HO2.out k hk))
 have HB3:=qa k3
 obtain⟨A4,c4,w4,hrun4,hown4,hg4⟩:=xm w3 w.heap.size _ (pl++[UInt8.ofNat wd]) pk (jr zs) (by rw[qm];exact HE.out) (j9 hown3 s1) HR3.out (by simp;omega) k3.size
 rw[show(pl++[UInt8.ofNat wd]).length=pl.length+1 from by simp] at hrun4 hown3 hg4
 have HO4:=qa hown4
 have HG4:=qa hg4
 have HO3:=qa hown3
 clear hown3 hgr3 hown4 hg4 k3 hb2'
 go_wp2_with (at_builtin;refine wpList_append_run rfl _ _ _ _ rfl rfl rfl hrun4 ?_)
 go_ret2
 exact⟨A4,c4,rfl,HO4.out,HB3.out.grown HG4.out HB3.out.size (fun k hk=>zc s1 (qhe HO3.out k hk))⟩
def qhu(l:List Bool):List Nat:=l.map Bool.toNat
theorem qfj(l:List Bool):(qhu l).length=l.length:=by simp[qhu]
theorem qk8(l:List Bool):∀x∈qhu l,x<2 ^ 1:=by
 intro x hx
 obtain⟨b,_,rfl⟩:=za.1 hx
 cases b <;> decide
def qhz(l:List Bool)(k:Nat):Nat:=qef 1 (qhu (l.take k))
theorem bsum_succ(l:List Bool)(k:Nat)(h:k<l.length):qhz l (k+1)=qhz l k+2 ^ k*(l[k]).toNat:=by
 unfold qhz
 rw[qi h]
 unfold qhu
 rw[jg,List.map_singleton,qlg,qz,qy,vr (Nat.le_of_lt h),qa5]
theorem bsum_no(l:List Bool)(k:Nat)(h:k<l.length)(hb:l[k]=false):qhz l (k+1)=qhz l k:=by rw[bsum_succ l k h,hb];rfl
theorem bsum_yes(l:List Bool)(k:Nat)(h:k<l.length)(hb:l[k]=true):qhz l (k+1)=qhz l k+2 ^ k:=by rw[bsum_succ l k h,hb];simp
theorem bsum_lt(l:List Bool)(k:Nat)(h:k≤l.length):qhz l k<2 ^ k:=by
 have:=qkm 1 (qhu (l.take k)) (qk8 _)
 rwa [qfj,qy,vr h,qa5] at this
def qea(l:List Bool):List UInt8:=yi ((l.length+7)/8) (qhz l l.length)
theorem qd9(l:List Bool):(qea l).length=(l.length+7)/8:=vl _ _
theorem qig(l:List Bool):qea l=qbo 1 (qhu l):=by
 unfold qea qbo qhz
 rw[qfj,xl,yo]
def xz(l:List Bool):List UInt8:=jc l.length++qea l
theorem qeu(l:List Bool)(h:l.length≤9223372036854775807):(xz l).length≤9+(l.length+7)/8:=by
 have:=kt l.length h
 unfold xz
 rw[qd,qd9]
 omega
def getB(bs:List UInt8)(i:Nat):Bool:=qgr bs 1 i==1
theorem getB_toNat(bs:List UInt8)(i:Nat):(getB bs i).toNat=qgr bs 1 i:=by
 have h:=getN_lt bs 1 i
 unfold getB
 rcases jh (qgr bs 1 i) with h0 | h0
 ·
  rw[h0];rfl
 ·
  rw[show qgr bs 1 i=1 by omega];rfl
def qgg(bs:List UInt8)(n:Nat):List Bool:=(List.range n).map (getB bs)
theorem qbd(bs:List UInt8)(n:Nat):(qgg bs n).length=n:=by simp[qgg]
theorem getsB_get(bs:List UInt8)(n i:Nat)(h:i<n):(qgg bs n)[i]? = some (getB bs i):=by simp[qgg,h]
theorem bitsN_getsB(bs:List UInt8)(n:Nat):qhu (qgg bs n)=qas bs 1 n:=by
 unfold qhu qgg qas
 rw[uk]
 exact qal fun i _=>getB_toNat bs i
theorem packB_getsB(bs:List UInt8)(n:Nat)(hl:bs.length=(n+7)/8)(hb:un bs<2 ^ n):qea (qgg bs n)=bs:=by
 rw[qig,bitsN_getsB,pack_gets bs 1 n (by rw[xl];exact hl) (by rw[xl];exact hb)]
theorem getsB_packB(l:List Bool):qgg (qea l) l.length=l:=by
 apply qcp
 intro i
 by_cases hi:i<l.length
 ·
  rw[getsB_get _ _ _ hi,qe hi]
  have h:=get_pack 1 (qhu l) (qk8 l) i (by rw[qfj];exact hi)
  rw[←qig] at h
  unfold getB
  rw[h]
  simp only[qhu,j5]
  cases l[i] <;> rfl
 ·
  rw[jp (by rw[qbd];omega),jp (by omega)]
theorem bval_packB(l:List Bool):un (qea l)<2 ^ l.length:=by
 rw[qig,qki 1 _ (qk8 l)]
 have:=qkm 1 (qhu l) (qk8 l)
 rwa [qfj,qa5] at this
theorem getN_byte(bs:List UInt8)(i:Nat)(h:i/8<bs.length):qgr bs 1 i=bs[i/8].toNat/2 ^ (i%8)%2:=by
 unfold qgr
 rw[qa5,Nat.pow_one,←bval_at bs (i/8) h,qh4 i,←vm]
 generalize un bs/256 ^ (i/8)=y
 have hr:i%8<8:=qb1 _ (by decide)
 rw[show(256:Nat)=2 ^ (i%8)*(2*2 ^ (7-i%8)) by rw[←Nat.pow_succ',←xx,show i%8+(7-i%8).succ=8 by omega]]
 rw[Nat.mod_mul_right_div_self,Nat.mod_mul_right_mod]
theorem bytesN_bit(s k V:Nat)(hs:k/8<s)(hV:V<2 ^ k)(x:UInt8)(hx:(yi s V)[k/8]? = some x) :
  x.toNat<2 ^ (k%8)∧x.toNat+2 ^ (k%8)<256∧yi s (V+2 ^ k)=(yi s V).set (k/8) (UInt8.ofNat (x.toNat+2 ^ (k%8))):=by
 have hsplit:∀U:Nat,yi s U=yi (k/8+1) U++yi (s-(k/8+1)) (U/256 ^ (k/8+1)):=fun U=>by
  rw[←bytesN_add,show k/8+1+(s-(k/8+1))=s by omega]
 have hpow:2 ^ (k+1)≤256 ^ (k/8+1):=by rw[qf1];exact yb (by decide) (by omega)
 have hp2:2 ^ (k+1)=2*2 ^ k:=by rw[kw,yz]
 have h0:V/256 ^ (k/8+1)=0:=Nat.div_eq_of_lt (by omega)
 have h1:(V+2 ^ k)/256 ^ (k/8+1)=0:=Nat.div_eq_of_lt (by omega)
 have hlen:(yi (k/8+1) V).length=k/8+1:=vl _ _
 have hx':(yi (k/8+1) V)[k/8]? = some x:=by
  rw[hsplit V,ju (by omega)] at hx
  exact hx
 obtain⟨h2,h3,h4⟩:=bitsAt_one (n:=k) (V:=V) (ys:=yi (k/8+1) V) ⟨hV,rfl⟩ x hx'
 refine⟨?_,h2,?_⟩
 ·
  rw[qd3,yl (by rw[vl];exact qc _),vl,qbt] at hx'
  simp only[zf,Option.some.injEq] at hx'
  rw[←hx',qhn]
  have h5:=hV
  rw[qh4] at h5
  have:=Nat.div_lt_of_lt_mul h5
  exact Nat.lt_of_le_of_lt (Nat.mod_le _ _) this
 ·
  rw[hsplit,hsplit V,h0,h1,List.set_append_left _ _ (by omega),h4,show(k+1+7)/8=k/8+1 by omega]
theorem bsize_any{w:World}(n s:Nat)(h:n≤9223372036854775807)(hs:(n+7)/8=s) :
  Calls Tryz.prog 163 #[.int .i64 (n:Int)] w fun r w'=>r= .returned (.int .i64 (s:Int))∧w=w':=by
 have h1:Hid ((n:Int)/8+((n:Int)%8+8-1)/8=(s:Int)):=by unfold Hid;omega
 clear hs
 go_enter Tryz.func163,Tryz.ntmps163
 go_wp2
 go_ret
 exact⟨qar (by rw[←h1.out]),rfl⟩
theorem bytesN_zero(s:Nat):bv (yi s 0)=List.replicate s (.int .u8 0):=by
 induction s with
 | zero=>rfl
 | succ s ih =>
  rw[yi,List.replicate_succ,←ih]
  rfl
theorem make_zeros(w:World)(n:Nat)(h:n≤281474976710656):∃w1,(Instr.makeSlice 36 (.int .i64 (n:Int)) (.int .i64 (n:Int))).run Tryz.prog w= .ok (.slice (some ⟨w.heap.size,0,none⟩) n n) w1∧
  w1.ownsRow w.heap.size 5 1 (.slice (some ⟨w.heap.size,0,none⟩) n n) n (bv (yi n 0))∧w.grownBy w1 none:=by
 obtain⟨i0,hi0,hz0,hz1,hz2⟩:=info_parts Tryz.infoU8
 have:=run_make_full (P:=Tryz.prog) w w.heap.size 36 5 i0 _ 1 Tryz.underlying36 hi0 hz0 hz1 .i64 .i64 n (by rw[hz2];omega) (by simp only[maxLen];omega) (qc _)
 rw[xl,show(Value.int .u8 0).cells=#[.int .u8 0] from rfl,toList_madeCells_one,←bytesN_zero] at this
 exact this
theorem or_bit(x r:Nat)(hr:r<8)(hx:x<2 ^ r):bits .or .u8 (x:Int) (2 ^ r%256)=((x+2 ^ r:Nat):Int):=by
 have hp:2 ^ r≤2 ^ 7:=yb (by omega) (by omega)
 have e2:(2:Int) ^ r=((2 ^ r:Nat):Int):=by norm_cast
 rw[e2,show((2 ^ r:Nat):Int)%256=((2 ^ r:Nat):Int) by omega,u8_or_nat _ _ (by omega) (by omega)]
 congr 1
 have:=uc hx 1
 rw[uw,qa5] at this
 rw[Nat.or_comm,←this,Nat.add_comm]
theorem bput_any{w:World}(l:List Bool){h':Nat}{A:Option Addr}{c:Nat}(h:Rd w 0 h' A c (lv l))(hh:h'≤w.heap.size)(hlen:l.length≤140737488355328) :
  Calls Tryz.prog 155 #[.slice A l.length c] w fun r w'=>∃A' c',r= .returned (.slice A' (qea l).length c')∧
   w'.ownsRow w.heap.size 5 1 (.slice A' (qea l).length c') (qea l).length (bv (qea l))∧Below w.heap.size w w':=by
 have hl:=h.len
 have hc:=h.cap
 rw[qac] at hl
 unfold maxLen at hc
 rw[qd9]
 obtain⟨s,hs⟩:∃s,(l.length+7)/8=s:=⟨_,rfl⟩
 have HP:Hid (qea l=yi s (qhz l l.length)):=by unfold Hid qea;rw[hs]
 rw[hs]
 obtain⟨w1,hmake,ho1,hg1⟩:=make_zeros w s (by omega)
 have hb1:Below w.heap.size w w1:=(Below.refl _ _).grown hg1 (qc _) (by simp)
 have HSZ:=qa (bsize_any (w:=w) l.length s (by omega) hs)
 have hs8:l.length≤8*s:=by omega
 have hsb:s≤140737488355328:=by omega
 have HO1:=qa ho1
 have HB1:=qa hb1
 have H:=qa h
 clear h ho1 hg1 hb1 hs
 go_enter Tryz.func155,Tryz.ntmps155
 go_wp2_with fail
 refine HSZ.out.mono ?_
 rintro r w' ⟨rfl,rfl⟩
 go_wp2_with fail
 go_loopw [12] (fun i wr=>∃(k:Nat),k≤l.length∧i= .int .i64 (k:Int)∧
   wr.ownsRow w.heap.size 5 1 (.slice (some ⟨w.heap.size,0,none⟩) s s) s (bv (yi s (qhz l k)))∧Below w.heap.size w wr) (fun i _=>l.length-(intOf i).toNat)
 case atStart=>exact⟨0,qj _,rfl,HO1.out,HB1.out⟩
 case round =>
  obtain⟨k,hk,rfl,ho,hb⟩:=hrel
  have HO:=qa ho
  have HB:=qa hb
  clear ho hb
  by_cases hlt:k<l.length
  ·
   obtain⟨b,off,rfl,_,hbh,hcell⟩:=(H.out.below HB.out hh).row hlt
   cases hx:l[k]
   ·
    have HN:=qa (bsum_no l k hlt hx)
    rw[hx] at hcell
    clear hx
    go_wp2
    go_roundw
    case rel=>exact⟨k+1,by omega,by go_num,by rw[HN.out];exact HO.out,HB.out⟩
    case measure=>simp[intOf];omega
   ·
    have hks:k/8<s:=by omega
    have hkl:k/8<(yi s (qhz l k)).length:=by rw[vl];exact hks
    obtain⟨x0,hx0⟩:∃x0,(yi s (qhz l k))[k/8]? = some x0:=⟨_,qe hkl⟩
    obtain⟨hx1,hx2,hx3⟩:=bytesN_bit s k (qhz l k) hks (bsum_lt l k hk) x0 hx0
    rw[←bsum_yes l k hlt hx] at hx3
    have HN:=qa hx3
    rw[hx] at hcell
    have hor:=or_bit x0.toNat (k%8) (qb1 _ (by decide)) hx1
    have hload:wr.drew.cell? ⟨w.heap.size,k/8,none⟩=some (.int .u8 (x0.toNat:Int)):=by
     have h1:=HO.out.cellAt (k/8) (by omega)
     have h2:(bv (yi s (qhz l k)))[k/8]? = some (.int .u8 (x0.toNat:Int)):=by simp[bv,hx0]
     exact h1.trans h2
    have hfr:wr.drew.frozen? ⟨w.heap.size,k/8,none⟩=false:=HO.out.frozenAt (k/8)
    have hbn:(UInt8.ofNat (x0.toNat+2 ^ (k%8))).toNat=x0.toNat+2 ^ (k%8):=by rw[yj];omega
    have hbs:bv (yi s (qhz l (k+1)))=(bv (yi s (qhz l k))).set (k/8) (.int .u8 ((x0.toNat+2 ^ (k%8):Nat):Int)):=by
     rw[hx3,bv_set,hbn]
    have hst:=World.ownsRow.stored (w:=wr.drew) HO.out (k/8) (.int .u8 ((x0.toNat+2 ^ (k%8):Nat):Int))
    rw[←hbs] at hst
    have HST:=qa hst
    have HB3:Hid (Below w.heap.size w wr.drew):=js HB.out 1
    have hn8:(k:Int)/8=((k/8:Nat):Int):=by omega
    have hn8':(k:Int)%8=((k%8:Nat):Int):=by omega
    have hn8t:(k:Int).tmod 8=((k%8:Nat):Int):=by rw[Int.tmod_eq_emod_of_nonneg (by omega)];omega
    have hr8:k%8<8:=qb1 _ (by decide)
    clear hx hx0 hx3 hbn hbs hst hkl
    go_wp2_with fail
    refine wp_region_still_tail 9 (by kernel_rfl) (by kernel_rfl) ?_
    change wpStill _ _ wr.drew (fun a'=>wpList _ _ _ _ a' wr.drew) _ _
    generalize wr.drew=w4 at *
    generalize k/8=q at *
    generalize k%8=r at *
    simp only[yy,uh,List.drop_succ_cons,jv]
    have hqw:IntKind.i64.wrap (q:Int)=(q:Int):=xa _ (by omega)
    have hrw:IntKind.i64.wrap (r:Int)=(r:Int):=xa _ (by omega)
    repeat still_step
    refine wpStill_nil ?_
    go_wp2
    go_roundw
    case rel =>
     rw[show(x0.toNat:Int)+2 ^ r=((x0.toNat+2 ^ r:Nat):Int) by push_cast;rfl]
     exact⟨k+1,by omega,by go_num,HST.out.1,below_some HB3.out HST.out.2 HB3.out.size (qc _)⟩
    case measure=>simp[intOf] <;> omega
  ·
   obtain rfl:k=l.length:=by omega
   go_wp2
   go_ret
   rw[HP.out]
   exact⟨_,_,rfl,HO.out,HB.out⟩
theorem bwrite_any{w:World}(l:List Bool){h':Nat}{A:Option Addr}{c:Nat}(h:Rd w 0 h' A c (lv l))(hh:h'≤w.heap.size)(hlen:l.length≤140737488355328) :
  Calls Tryz.prog 110 #[.slice A l.length c] w fun r w'=>∃A' c',r= .returned (.slice A' (xz l).length c')∧
   w'.ownsRow w.heap.size 5 1 (.slice A' (xz l).length c') (xz l).length (bv (xz l))∧Below w.heap.size w w':=by
 have HE:Hid (jc l.length++qea l=xz l):=rfl
 have h9:=kt l.length (by omega)
 have hpl:(qea l).length≤140737488355328/8+1:=by rw[qd9];omega
 have HP:=fun(w1:World) (h:Rd w1 0 h' A c (lv l)) (hh:h'≤w1.heap.size)=>qa (bput_any (w:=w1) (A:=A) (c:=c) l h hh hlen)
 have H:=qa h
 have hl:=h.len
 have hc:=h.cap
 rw[qac] at hl
 unfold maxLen at hc
 clear h
 generalize qea l=pk at *
 go_enter Tryz.func110,Tryz.ntmps110
 go_wp2_with fail
 refine(qcf l.length (by omega)).mono ?_
 rintro r w1 ⟨A1,c1,rfl,ho1,hb1⟩
 have HO1:=qa ho1
 have HB1:=qa hb1
 have s1:=hb1.size
 clear ho1 hb1
 generalize jc l.length=pl at *
 go_wp2_with fail
 refine(HP w1 (H.out.below HB1.out hh) (by omega)).out.mono ?_
 rintro r w2 ⟨A2,c2,rfl,ho2,hb2⟩
 have HO2:=qa ho2
 have HB2:=qa (zz HB1.out hb2 s1)
 have s2:=hb2.size
 obtain⟨A3,c3,w3,hrun3,ho3,hg3⟩:=xm w2 w.heap.size _ pl pk (xz l) HE.out (ji HO1.out hb2 (qc _)) (Rd.own ho2) (by omega) (by omega)
 have HO3:=qa ho3
 have HB3:=qa (HB2.out.grown hg3 HB2.out.size (fun k hk=>qhe HO1.out k hk))
 clear ho2 hb2 ho3 hg3
 go_wp2_with (at_builtin;refine wpList_append_run rfl _ _ _ _ rfl rfl rfl hrun3 ?_)
 go_ret
 exact⟨A3,c3,rfl,HO3.out,HB3.out⟩
theorem qae{P:Program}{o:Oper}{a:Act}{Q:Exit→Act→World→Prop}{K:Act→World→Prop}{w w':World}{v1 v2 v':Value}(s x:Operand)(t t':TypeId)
  (ho:o.op= .call { callee:= .builtin .append,args:=#[s,x],argTypes:=#[t,t'] }) (hs:a.eval s=v1) (hx:a.eval x=v2)
  (hr:(Builtin.append_ #[t,t'] o.type #[v1,v2]).run P w= .ok v' w') (h:K (a.put o.dst v') w'):Oper.wp P o a w K Q:=by
 unfold Oper.wp execOp
 simp only[ho,resolve,invoke,builtin,Sem.run_bind,Sem.run_pure,Result.andThen_ok,List.map_toArray,y8,qbu,hs,hx,hr]
 exact h
def ya(gs:List Nat):List Int:=(List.range gs.length).map fun i=>if i=0 then ((gs.getD 0 0:Nat):Int) else ((gs.getD i 0:Nat):Int)-((gs.getD (i-1) 0:Nat):Int)
theorem jl(gs:List Nat):(ya gs).length=gs.length:=by simp[ya]
theorem qmd(gs:List Nat)(h:0<gs.length):(ya gs)[0]'(by rw[jl];exact h)=((gs[0]:Nat):Int):=by
 simp[ya,List.getD,qe h]
theorem qme(gs:List Nat)(k:Nat)(h:k+1<gs.length):(ya gs)[k+1]'(by rw[jl];exact h)=((gs[k+1]:Nat):Int)-((gs[k]'(by omega):Nat):Int):=by
 simp[ya,List.getD,qe h,qe (show k<gs.length by omega)]
theorem qem{gs:List Nat}(hu:gs.Pairwise (· < ·))(hl:∀g∈gs,g<16777216):May (ya gs):=fun z hz=>by
 obtain⟨i,hi,rfl⟩:=zl hz
 rw[jl] at hi
 match i,hi with
 | 0,hi =>
  rw[qmd gs hi]
  have:=hl gs[0] (ql hi)
  omega
 | k+1,hi =>
  rw[qme gs k hi]
  have h1:=hl gs[k+1] (ql hi)
  have h2:=kz.1 hu k (k+1) (by omega) hi (by omega)
  omega
def xg(b:Nat)(gs:List Nat)(rs:List Bool):List UInt8:=if 0<b then jc b++xz rs else jc 0++jr (ya gs)
structure TakeG (bs:List UInt8) (k:Nat) (e:Int) (b:Nat) (gs:List Nat) (rs:List Bool) (k':Nat) (e':Int):Prop where
 bad:e'≠0→b=0∧gs=[]∧rs=[]
 good:e'=0→e=0∧FilG b gs rs∧bs.drop k=xg b gs rs++bs.drop k'∧k'=k+(xg b gs rs).length∧k'≤bs.length
 there:∀b0 gs0 rs0 rest,e=0→FilG b0 gs0 rs0→bs.drop k=xg b0 gs0 rs0++rest→e'=0∧b=b0∧gs=gs0∧rs=rs0
theorem or_i64(a b:Nat)(ha:a<9223372036854775808)(hb:b<9223372036854775808):bits .or .i64 (a:Int) (b:Int)=((a ||| b:Nat):Int):=by
 have e:∀n:Nat,n<9223372036854775808→(BitVec.ofInt 64 (n:Int)).toNat=n:=fun n hn=>by
  rw[BitVec.ofInt_natCast,qav];exact xt (by omega)
 have hx:a ||| b<2 ^ 63:=Nat.or_lt_two_pow (by omega) (by omega)
 show IntKind.i64.wrap ((BitVec.ofInt 64 (a:Int) ||| BitVec.ofInt 64 (b:Int)).toNat:Int)=_
 rw[BitVec.toNat_or,e a ha,e b hb,IntKind.wrap_i64]
 omega
theorem gplaces_any{w:World}(s:ByteArray)(hs:s.size≤100000)(n:Nat)(hn:s.size-2=n) :
  Calls Tryz.prog 149 #[.string s] w fun r w'=>r= .returned (.int .i64 (n:Int))∧w=w':=by
 have HN:=qa hn
 clear hn
 go_enter Tryz.func149,Tryz.ntmps149
 go_wp2
 all_goals
  have hn:=HN.out
  go_ret
  exact⟨qar (by omega),rfl⟩
theorem or_three(a b c:Nat)(ha:a<256)(hb:b<256)(hc:c<256) :
  bits .or .i64 (bits .or .i64 (wrap64 (wrap64 (a:Int)*65536)) (wrap64 (wrap64 (b:Int)*256))) (wrap64 (c:Int))=((65536*a+256*b+c:Nat):Int):=by
 have e1:wrap64 (a:Int)=(a:Int):=ud _ (by omega)
 have e2:wrap64 (b:Int)=(b:Int):=ud _ (by omega)
 have e3:wrap64 (c:Int)=(c:Int):=ud _ (by omega)
 have e4:wrap64 ((a:Int)*65536)=((65536*a:Nat):Int):=by rw[show(a:Int)*65536=((65536*a:Nat):Int) by omega];exact ud _ (by omega)
 have e5:wrap64 ((b:Int)*256)=((256*b:Nat):Int):=by rw[show(b:Int)*256=((256*b:Nat):Int) by omega];exact ud _ (by omega)
 have f1:65536*a ||| 256*b=65536*a+256*b:=by
  have:=uc (a:=a) (b:=256*b) (i:=16) (by omega)
  rw[uw,yz a] at this
  exact this.symm
 have f2:(65536*a+256*b) ||| c=65536*a+256*b+c:=by
  have:=uc (a:=256*a+b) (b:=c) (i:=8) (by omega)
  rw[uw,show(256*a+b)*2 ^ 8=65536*a+256*b by omega] at this
  exact this.symm
 rw[e1,e2,e3,e4,e5,or_i64 _ _ (by omega) (by omega),f1,or_i64 _ _ (by omega) (by omega),f2]
theorem ggram_any{w:World}(s:ByteArray)(h:2<s.size)(hs:s.size≤100000)(g:Nat)(hg:qjm (s[0]'(by omega)) (s[1]'(by omega)) (s[2]'(by omega))=g) :
  Calls Tryz.prog 150 #[.string s] w fun r w'=>r= .returned (.int .i64 (g:Int))∧∃m,w'=w.drewN m:=by
 have h0:0<s.size:=by omega
 have h1:1<s.size:=by omega
 have i0:(0:Int)<(s.size:Int):=by omega
 have i1:(1:Int)<(s.size:Int):=by omega
 have i2:(2:Int)<(s.size:Int):=by omega
 have HG:=qa hg
 clear hg
 go_enter Tryz.func150,Tryz.ntmps150
 go_wp2_with fail
 go_quiet (fail)
 go_wp2_with fail
 go_ret
 refine⟨qar ?_,_,rfl⟩
 rw[←HG.out]
 exact or_three _ _ _ (je _) (je _) (je _)
theorem gbit_any{w:World}(g b q:Nat)(hg:g<16777216)(hb0:0<b)(hb:b≤70000)(hq:bitG g b=q) :
  Calls Tryz.prog 153 #[.int .i64 (g:Int),.int .i64 (b:Int)] w fun r w'=>r= .returned (.int .i64 (q:Int))∧w=w':=by
 have hqz:((g:Int)*40503%65521)%(b:Int)=(q:Int):=by rw[←hq,bitG,Int.natCast_emod,Int.natCast_emod,qan];rfl
 have hbz:(b:Int)≠0:=by omega
 have HQ:=qa hqz
 clear hq hqz
 go_enter Tryz.func153,Tryz.ntmps153
 go_wp2
 go_ret
 exact⟨qar HQ.out,rfl⟩
theorem gmark_any{w:World}(t:List Nat)(b:Nat)(hb0:0<b)(hb:b≤70000)(hlt:∀g∈t,g<16777216){lo hi c:Nat}{A:Option Addr}(h:Rd w lo hi A c (iv (jf t)))(hhi:hi≤w.heap.size) :
  Calls Tryz.prog 108 #[.slice A t.length c,.int .i64 (b:Int)] w fun r w'=>r= .returned (.slice (some ⟨w.heap.size,0,none⟩) b b)∧
   w'.ownsRow w.heap.size 4 1 (.slice (some ⟨w.heap.size,0,none⟩) b b) b (lv (qfu b t))∧Below w.heap.size w w':=by
 have hl:=h.len
 have hm:=h.cap
 rw[yd,zq] at hl
 unfold maxLen at hm
 have HLT:Hid (∀k (hk:k<t.length),t[k]<16777216):=fun k hk=>hlt _ (ql hk)
 obtain⟨w1,hmake,hown,hg1⟩:=qj3 w b (by omega)
 have HO1:Hid (w1.ownsRow w.heap.size 4 1 (.slice (some ⟨w.heap.size,0,none⟩) b b) b (lv (qfu b []))):=by
  unfold Hid
  simpa[qfu,lv] using hown
 have HB1:Hid (Below w.heap.size w w1):=(Below.refl _ w).grown hg1 (qc _) (by simp)
 have H:=qa h
 clear h hlt hown hg1
 go_enter Tryz.func108,Tryz.ntmps108
 go_wp2_with fail
 go_loopw [12] (fun x12 wr=>∃k:Nat,k≤t.length∧x12= .int .i64 (k:Int)∧wr.ownsRow w.heap.size 4 1 (.slice (some ⟨w.heap.size,0,none⟩) b b) b (lv (qfu b (t.take k)))∧Below w.heap.size w wr) (fun x12 _=>t.length-(intOf x12).toNat)
 case atStart=>exact⟨0,qj _,rfl,HO1.out,HB1.out⟩
 case round =>
  clear HO1 hmake
  obtain⟨k,hk,rfl,hown,hbe⟩:=hrel
  obtain⟨wz,hwz⟩:∃wz,wz=wr:=⟨_,rfl⟩
  subst hwz
  have HO:=qa hown
  have HB:=qa hbe
  clear hown hbe
  by_cases hlt:k<t.length
  ·
   have ik:(k:Int)<(t.length:Int):=by omega
   obtain⟨bb,off,rfl,_,hbb,hcell0⟩:=H.out.nat hlt
   have hcell:wz.cell? ⟨bb,off+k,none⟩=some (.int .i64 ((t[k]:Nat):Int)):=(HB.out.cell (by show bb<_;omega)).trans hcell0
   have hgl:=HLT.out k hlt
   obtain⟨q,hqe⟩:∃q,bitG t[k] b=q:=⟨_,rfl⟩
   have hqb:q<b:=by rw[←hqe];exact qb1 _ hb0
   have HBT:=qa (gbit_any (w:=wz) t[k] b q hgl hb0 hb hqe)
   have HSN:Hid (qfu b (t.take (k+1))=(qfu b (t.take k)).set q true):=by
    unfold Hid
    rw[qi hlt,setB_snoc,hqe]
   have hsl:(lv (qfu b (t.take k))).length=b:=by rw[qac,qdy]
   obtain⟨u0,hu0⟩:∃u0,(lv (qfu b (t.take k)))[q]? = some u0:=⟨_,qe (by omega)⟩
   have hrc:wz.cell? ⟨w.heap.size,q,none⟩=some u0:=by rw[HO.out.cellAt q (by omega),hu0]
   have hrf:=HO.out.frozenAt q
   have iqb:(q:Int)<(b:Int):=by omega
   clear hu0 hsl hqe hcell0
   generalize t[k]=g at *
   go_wp2_with fail
   refine HBT.out.mono ?_
   rintro r w' ⟨rfl,rfl⟩
   clear HBT
   go_wp2_with fail
   have hst:=HO.out.stored q (.bool true)
   have hst1:(wz.setCell ⟨w.heap.size,q,none⟩ (.bool true)).ownsRow w.heap.size 4 1 (.slice (some ⟨w.heap.size,0,none⟩) b b) b (lv (qfu b (t.take (k+1)))):=by
    rw[HSN.out,lv_set]
    exact hst.1
   have HS1:=qa hst1
   have HBB:Hid (Below w.heap.size w (wz.setCell ⟨w.heap.size,q,none⟩ (.bool true))):=HB.out.setCell (p:=⟨w.heap.size,q,none⟩) (qc _) _
   clear hst hst1
   go_roundw
   case rel=>exact⟨k+1,by omega,by go_num,HS1.out,HBB.out⟩
   case measure=>simp[intOf] <;> omega
  ·
   have ik:¬(k:Int)<(t.length:Int):=by omega
   have hkt:t.take k=t:=qp (by omega)
   rw[hkt] at HO
   clear hkt
   go_wp2_with fail
   go_ret
   exact⟨rfl,HO.out,HB.out⟩
def qej(gs:List Nat)(k:Nat):Nat:=if k=0 then 0 else gs.getD (k-1) 0
theorem qj0(gs:List Nat)(k:Nat)(h:k<gs.length):qej gs (k+1)=gs[k]:=by simp[qej,List.getD,qe h]
theorem stepsG_get(gs:List Nat)(k:Nat)(h:k<gs.length):(iv (ya gs))[k]? = some (.int .i64 (((gs[k]:Nat):Int)-(qej gs k:Int))):=by
 rw[iv_get _ k (by rw[jl];exact h)]
 congr 2
 match k,h with
 | 0,h=>rw[qmd gs h];simp[qej]
 | k+1,h=>rw[qme gs k h,qj0 gs k (by omega)]
theorem prevG_lt{gs:List Nat}(h:∀k (hk:k<gs.length),gs[k]<16777216)(k:Nat)(hk:k≤gs.length):qej gs k<16777216:=by
 match k,hk with
 | 0,_=>simp[qej]
 | k+1,hk=>rw[qj0 gs k (by omega)];exact h k (by omega)
theorem gsteps_any{w:World}(gs:List Nat)(hlen:gs.length≤100000000)(hlt:∀g∈gs,g<16777216){lo hi c:Nat}{A:Option Addr}(h:Rd w lo hi A c (iv (jf gs)))(hhi:hi≤w.heap.size) :
  Calls Tryz.prog 113 #[.slice A gs.length c] w fun r w'=>r= .returned (.slice (some ⟨w.heap.size,0,none⟩) gs.length gs.length)∧
   w'.ownsRow w.heap.size 3 1 (.slice (some ⟨w.heap.size,0,none⟩) gs.length gs.length) gs.length (iv (ya gs))∧Below w.heap.size w w':=by
 have hl:=h.len
 have hm:=h.cap
 rw[yd,zq] at hl
 unfold maxLen at hm
 have HLT:Hid (∀k (hk:k<gs.length),gs[k]<16777216):=fun k hk=>hlt _ (ql hk)
 have HSL:Hid ((iv (ya gs)).length=gs.length):=by unfold Hid;rw[yd,jl]
 obtain⟨w1,hmake,hown,hg1⟩:=qg0 w gs.length (by omega)
 have HO1:=qa hown
 have HB1:Hid (Below w.heap.size w w1):=(Below.refl _ w).grown hg1 (qc _) (by simp)
 have H:=qa h
 clear h hlt hown hg1
 go_enter Tryz.func113,Tryz.ntmps113
 go_wp2_with fail
 go_loopw [4,12] (fun x4 x12 wr=>∃(k:Nat) (xs:List Value),k≤gs.length∧x12= .int .i64 (k:Int)∧x4= .int .i64 (qej gs k:Int)∧wr.ownsRow w.heap.size 3 1 (.slice (some ⟨w.heap.size,0,none⟩) gs.length gs.length) gs.length xs∧qhs (iv (ya gs)) k xs∧Below w.heap.size w wr) (fun _ x12 _=>gs.length-(intOf x12).toNat)
 case atStart=>exact⟨0,_,qj _,rfl,rfl,HO1.out,qcb (by rw[List.length_replicate];exact HSL.out.symm),HB1.out⟩
 case round =>
  clear HO1 hmake
  obtain⟨k,xs,hk,rfl,rfl,hown,hfi,hbe⟩:=hrel
  obtain⟨wz,hwz⟩:∃wz,wz=wr:=⟨_,rfl⟩
  subst hwz
  have HO:=qa hown
  have HF:=qa hfi
  have HB:=qa hbe
  clear hown hfi hbe
  by_cases hlt:k<gs.length
  ·
   have ik:(k:Int)<(gs.length:Int):=by omega
   obtain⟨bb,off,rfl,_,hbb,hcell0⟩:=H.out.nat hlt
   have hcell:wz.cell? ⟨bb,off+k,none⟩=some (.int .i64 ((gs[k]:Nat):Int)):=(HB.out.cell (by show bb<_;omega)).trans hcell0
   have hgl:=HLT.out k hlt
   have hpl:=prevG_lt HLT.out k hk
   have HPS:=qa (qj0 gs k hlt)
   have HST:=qa (stepsG_get gs k hlt)
   obtain⟨p,hp⟩:∃p,qej gs k=p:=⟨_,rfl⟩
   have hsl:xs.length=gs.length:=HF.out.1.trans HSL.out
   obtain⟨u0,hu0⟩:∃u0,xs[k]? = some u0:=⟨_,qe (by omega)⟩
   have hrc:wz.cell? ⟨w.heap.size,k,none⟩=some u0:=by rw[HO.out.cellAt k (by omega),hu0]
   have hrf:=HO.out.frozenAt k
   rw[hp] at hpl HST ⊢
   clear hu0 hsl hcell0 hp
   generalize gs[k]=g at *
   go_wp2_with fail
   have hst:=HO.out.stored k (.int .i64 ((g:Int)-(p:Int)))
   have HS1:=qa hst.1
   have HF1:=qa (um HF.out _ HST.out)
   have HBB:Hid (Below w.heap.size w (wz.setCell ⟨w.heap.size,k,none⟩ (.int .i64 ((g:Int)-(p:Int))))):=HB.out.setCell (p:=⟨w.heap.size,k,none⟩) (qc _) _
   clear hst
   go_roundw
   case rel=>exact⟨k+1,_,by omega,by go_num,by rw[HPS.out],HS1.out,HF1.out,HBB.out⟩
   case measure=>simp[intOf] <;> omega
  ·
   have ik:¬(k:Int)<(gs.length:Int):=by omega
   obtain rfl:k=gs.length:=by omega
   have hall:=qdo HF.out (by rw[HSL.out];exact qc _)
   have hoL:=HO.out
   rw[hall] at hoL
   have HOL:=qa hoL
   clear hall hoL
   go_wp2_with fail
   go_ret
   exact⟨rfl,HOL.out,HB.out⟩
theorem mod_shift(Y n r w:Nat)(h:r+w≤n):Y%2 ^ n/2 ^ r%2 ^ w=Y/2 ^ r%2 ^ w:=by
 obtain⟨d,rfl⟩:∃d,n=r+(w+d):=⟨n-r-w,by omega⟩
 rw[xx,Nat.mod_mul_right_div_self,xx,Nat.mod_mul_right_mod]
theorem get_word(bs:List UInt8)(p f M wd:Nat)(hf:p/8=f)(hM:min 5 (bs.length-f)=M)(hw:wd≤32) :
  un bs/256 ^ f%256 ^ M/2 ^ (p%8)%2 ^ wd=un bs/2 ^ p%2 ^ wd:=by
 have e:un bs/2 ^ p=un bs/256 ^ f/2 ^ (p%8):=by
  rw[qf1,vm,←xx]
  congr 2
  omega
 rw[e]
 by_cases h5:M=5
 ·
  subst h5
  rw[show(256:Nat) ^ 5=2 ^ 40 from by decide]
  exact mod_shift _ 40 _ _ (by omega)
 ·
  have hlt:un bs/256 ^ f<256 ^ M:=by
   by_cases hfl:f≤bs.length
   ·
    apply Nat.div_lt_of_lt_mul
    rw[←xx,show f+M=bs.length from by omega]
    exact bval_lt bs
   ·
    have h0:un bs/256 ^ f=0:=by rw[qf1];exact bval_over bs _ (by omega)
    rw[h0]
    exact Nat.pow_pos (by omega)
  rw[xt hlt]
theorem get_next(bs:List UInt8)(f j:Nat)(h:f+j<bs.length):un bs/256 ^ f%256 ^ (j+1)=un bs/256 ^ f%256 ^ j+2 ^ (8*j)*bs[f+j].toNat:=by
 rw[kw,Nat.mod_mul,←bval_at bs (f+j) h,qf1 j,xx,←vm,qf1 j]
theorem or_byte(W x j:Nat)(hW:W<2 ^ (8*j))(hx:x<256)(hj:j<5) :
  bits .or .u64 (W:Int) (IntKind.u64.wrap ((x:Int)*2 ^ (8*j)))=((W+2 ^ (8*j)*x:Nat):Int)∧W+2 ^ (8*j)*x<1099511627776:=by
 have hp:2 ^ (8*j)≤2 ^ 32:=yb (by omega) (by omega)
 have hb:2 ^ (8*j)*x≤2 ^ 32*255:=ug hp (by omega)
 have e2:(2:Int) ^ (8*j)=((2 ^ (8*j):Nat):Int):=by norm_cast
 have e3:IntKind.u64.wrap ((2 ^ (8*j)*x:Nat):Int)=((2 ^ (8*j)*x:Nat):Int):=by rw[IntKind.wrap_u64];omega
 refine⟨?_,by omega⟩
 rw[e2,Int.mul_comm,←qan,e3,u64_or_nat _ _ (by omega) (by omega)]
 congr 1
 rw[Nat.or_comm,yz,←uw,←uc hW,Nat.add_comm]
theorem mask_at(W r wd:Nat)(hW:W<1099511627776)(hw:wd≤32) :
  wrap64 (bits .and .u64 ((W:Int)/2 ^ r) (IntKind.u64.wrap (IntKind.u64.wrap ((2:Int) ^ wd)-1)))=((W/2 ^ r%2 ^ wd:Nat):Int):=by
 have hp:2 ^ wd≤2 ^ 32:=yb (by omega) hw
 have hp0:0<2 ^ wd:=Nat.two_pow_pos wd
 have e1:(2:Int) ^ wd=((2 ^ wd:Nat):Int):=by norm_cast
 have e2:IntKind.u64.wrap ((2 ^ wd:Nat):Int)=((2 ^ wd:Nat):Int):=by rw[IntKind.wrap_u64];omega
 have e3:IntKind.u64.wrap (((2 ^ wd:Nat):Int)-1)=((2 ^ wd-1:Nat):Int):=by rw[IntKind.wrap_u64];omega
 have e4:(W:Int)/2 ^ r=((W/2 ^ r:Nat):Int):=by push_cast;rfl
 have hq:W/2 ^ r≤W:=Nat.div_le_self _ _
 have hm:=qb1 (W/2 ^ r) hp0
 rw[e1,e2,e3,e4,u64_and_nat _ _ (by omega) (by omega),Nat.and_two_pow_sub_one_eq_mod]
 exact ud _ (by omega)
def GetAt(bs:List UInt8)(f j W:Nat):Prop:=W=un bs/256 ^ f%256 ^ j
theorem getAt_lt{bs:List UInt8}{f j W:Nat}(h:GetAt bs f j W):W<2 ^ (8*j):=by
 rw[h,←qf1];exact qb1 _ (Nat.pow_pos (by omega))
theorem pget_any{w:World}(bs:List UInt8)(wd i:Nat)(hw:wd≤32)(hi:i≤1000000000000)(hb:bs.length≤1000000000000){lo h':Nat}{A:Option Addr}{c:Nat}(h:Rd w lo h' A c (bv bs)) :
  Calls Tryz.prog 188 #[.slice A bs.length c,.int .i64 (wd:Int),.int .i64 (i:Int)] w fun r w'=>r= .returned (.int .i64 (qgr bs wd i:Int))∧∃n,w.drewN n=w':=by
 have hl:=h.len
 have hc:=h.cap
 rw[jj] at hl
 unfold maxLen at hc
 have H:=qa h
 clear h
 have HR:Hid (qic (wd:Int)=true):=qx (by omega)
 by_cases h0:wd=0
 ·
  have HE:Hid (qgr bs wd i=0):=by unfold Hid qgr;rw[h0,Nat.pow_zero,Nat.mod_one]
  have hb0:((wd:Int)==0)=true:=by rw[beq_iff_eq];omega
  clear h0
  go_enter Tryz.func188,Tryz.ntmps188
  go_wp2_with fail
  refine(qfz _ true HR.out).mono ?_
  rintro r w' ⟨rfl,rfl⟩
  go_wp2
  go_ret
  exact⟨qar (by rw[HE.out];rfl),0,rfl⟩
 ·
  have hb0:((wd:Int)==0)=false:=by rw[q9];omega
  have hwp:1≤(wd:Int):=by omega
  have hq:Hid (((bs.length:Int)*8/(wd:Int))=((bs.length*8/wd:Nat):Int)):=by unfold Hid;push_cast;rfl
  by_cases hov:bs.length*8/wd<i
  ·
   have hov':(bs.length:Int)*8/(wd:Int)<(i:Int):=by rw[hq.out];omega
   have HE:Hid (qgr bs wd i=0):=by
    unfold Hid qgr
    rw[bval_over bs _ ?_,Nat.zero_mod]
    have:=(Nat.div_lt_iff_lt_mul (show 0<wd by omega)).1 hov
    rw[yz wd]
    omega
   clear hov h0
   go_enter Tryz.func188,Tryz.ntmps188
   go_wp2_with fail
   refine(qfz _ true HR.out).mono ?_
   rintro r w' ⟨rfl,rfl⟩
   go_wp2
   go_ret
   exact⟨qar (by rw[HE.out];rfl),0,rfl⟩
  ·
   have hov':(i:Int)≤(bs.length:Int)*8/(wd:Int):=by rw[hq.out];omega
   have hp8:i*wd≤bs.length*8:=(Nat.le_div_iff_mul_le (show 0<wd by omega)).1 (by omega)
   have hp:(i:Int)*(wd:Int)=((i*wd:Nat):Int):=(qan i wd).symm
   have hpe:Hid (wd*i=i*wd):=yz _ _
   generalize i*wd=p at *
   have hf:(p:Int)/8=((p/8:Nat):Int):=by omega
   have hfb:p/8≤bs.length:=by omega
   generalize hfq:p/8=f at *
   have HF:=qa hfq
   clear hfq h0 hov
   have hM:min (5:Int) ((bs.length:Int)-(f:Int))=((min 5 (bs.length-f):Nat):Int):=by omega
   generalize hMe:min 5 (bs.length-f)=M at *
   have hM5:M≤5:=by omega
   have hMl:f+M≤bs.length:=by omega
   have HM:=qa hMe
   clear hMe
   go_enter Tryz.func188,Tryz.ntmps188
   go_wp2_with fail
   refine(qfz _ true HR.out).mono ?_
   rintro r w' ⟨rfl,rfl⟩
   go_wp2_with fail
   go_loop [8,39] (fun x i=>∃j W:Nat,j≤M∧i= .int .i64 (j:Int)∧x= .int .u64 (W:Int)∧GetAt bs f j W) (fun _ i=>M-(intOf i).toNat)
   case atStart=>exact⟨0,0,qj _,rfl,rfl,by unfold GetAt;rw[Nat.pow_zero,Nat.mod_one]⟩
   case round =>
    obtain⟨j,W,hj,rfl,rfl,hat⟩:=hrel
    by_cases hlt:j<M
    ·
     obtain⟨b,off,rfl,_,_,hcell⟩:=H.out.byte (k:=f+j) (by omega)
     have hnext:=get_next bs f j (by omega)
     rw[←hat] at hnext
     have hW:=getAt_lt hat
     generalize bs[f+j]=x8 at *
     have hx:=je x8
     generalize x8.toNat=x at *
     obtain⟨hor,hT⟩:=or_byte W x j hW hx (by omega)
     have HX:Hid (GetAt bs f (j+1) (W+2 ^ (8*j)*x)):=hnext.symm
     clear hnext hat hW
     generalize W+2 ^ (8*j)*x=T at *
     go_wp2
     go_round
     case rel=>exact⟨j+1,T,by omega,by go_num,rfl,HX.out⟩
     case measure=>simp[intOf];omega
    ·
     obtain rfl:j=M:=by omega
     have hW:=getAt_lt hat
     have hW40:W<1099511627776:=zh hW (yb (by omega) (show 8*j≤40 by omega))
     have HE:Hid (wrap64 (bits .and .u64 ((W:Int)/2 ^ (p%8)) (IntKind.u64.wrap (IntKind.u64.wrap ((2:Int) ^ wd)-1)))=(qgr bs wd i:Int)):=by
      unfold Hid qgr
      rw[mask_at W (p%8) wd hW40 hw]
      rw[hpe.out,←get_word bs p f j wd HF.out HM.out hw,←hat]
     clear hat hW
     go_wp2_with fail
     go_quiet (fail)
     go_wp2
     go_ret
     exact⟨qar HE.out,_,rfl⟩
end Go.Proofs.YtjfecojdagmacaaGreat
