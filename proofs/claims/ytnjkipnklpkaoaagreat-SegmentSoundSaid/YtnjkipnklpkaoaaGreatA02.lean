/-
  Lemmas.
-/
import Derived.Test.YtnjkipnklpkaoaaGreatA01
import Derived.BigFrame
import Derived.Laws.BitsAll
namespace Go.Proofs.YtnjkipnklpkaoaaGreat
open Go.RowKit
set_option maxRecDepth 20000
set_option maxHeartbeats 16000000
set_option linter.unusedSimpArgs false
set_option linter.unusedVariables false
theorem put_step(S n x m:Nat)(hx:x<2 ^ m)(hS:S<2 ^ n)(T:Nat)(hT:T=S/256 ^ (n/8)+2 ^ (n%8)*x) :
  S/256 ^ (n/8)<2 ^ (n%8)∧xm ((n+m)/8) (S+2 ^ n*x)=xm (n/8) S++xm ((n%8+m)/8) T∧(S+2 ^ n*x)/256 ^ ((n+m)/8)=T/256 ^ ((n%8+m)/8):=by
 have e2:2 ^ n=256 ^ (n/8)*2 ^ (n%8):=by
  rw[qii,←vq]
  congr 1
  omega
 have hp:0<256 ^ (n/8):=Nat.pow_pos (by omega)
 have hd:(S+2 ^ n*x)/256 ^ (n/8)=T:=by
  rw[e2,qdr,Nat.add_mul_div_left _ _ hp,hT]
 have hq:(n+m)/8=n/8+(n%8+m)/8:=by omega
 refine⟨?_,?_,?_⟩
 ·
  rw[e2] at hS
  exact Nat.div_lt_of_lt_mul hS
 ·
  rw[hq,bytesN_add,hd,e2,qdr,qrs]
 ·
  rw[hq,vq,←ul,hd]
def qpv(m:Nat)(ns:List Nat)(k:Nat)(ys:List UInt8)(x hd:Nat):Prop :=
 ys=xm (k*m/8) (qfo m (ns.take k))∧x=qfo m (ns.take k)/256 ^ (k*m/8)∧hd=k*m%8
theorem putAt_zero(m:Nat)(ns:List Nat):qpv m ns 0 [] 0 0:=by simp[qpv,xm,qfo]
theorem putAt_len{m k:Nat}{ns:List Nat}{ys:List UInt8}{x hd:Nat}(h:qpv m ns k ys x hd):ys.length=k*m/8:=by rw[h.1,vx]
theorem vsum_take{m:Nat}{ns:List Nat}(hf:∀x∈ns,x<2 ^ m){k:Nat}(hk:k≤ns.length):qfo m (ns.take k)<2 ^ (k*m):=by
 have:=qol m (ns.take k) fun x hx=>hf x (xk hx)
 rwa [qy,yx hk,xo] at this
theorem putAt_step{m k:Nat}{ns:List Nat}{ys:List UInt8}{x hd:Nat}(hf:∀x∈ns,x<2 ^ m)(h:qpv m ns k ys x hd)(hk:k<ns.length)(z:Nat)(hz:ns[k]=z) :
  x<2 ^ hd∧z<2 ^ m∧qpv m ns (k+1) (ys++xm ((hd+m)/8) (x+2 ^ hd*z)) ((x+2 ^ hd*z)/256 ^ ((hd+m)/8)) ((hd+m)%8):=by
 obtain⟨rfl,rfl,rfl⟩:=h
 have hzm:z<2 ^ m:=by rw[←hz];exact hf _ (qj hk)
 have hS:=vsum_take hf (qdo hk)
 obtain⟨h1,h2,h3⟩:=put_step (qfo m (ns.take k)) (k*m) z m hzm hS _ rfl
 have e:qfo m (ns.take (k+1))=qfo m (ns.take k)+2 ^ (k*m)*z:=by
  rw[qg hk,qmh,qy,yx (qdo hk),hz,xo m]
 have e2:(k+1)*m=k*m+m:=by rw[qel,qca]
 refine⟨h1,hzm,?_,?_,?_⟩
 ·
  rw[e2,e,h2]
 ·
  rw[e2,e,h3]
 ·
  rw[e2];omega
theorem putAt_full{m:Nat}{ns:List Nat}{ys:List UInt8}{x:Nat}(h:qpv m ns ns.length ys x 0):ys=qa6 m ns:=by
 obtain⟨rfl, -,h3⟩:=h
 unfold qa6
 rw[yf,show(ns.length*m+7)/8=ns.length*m/8 from by omega]
theorem putAt_rest{m:Nat}{ns:List Nat}{ys:List UInt8}{x hd:Nat}(h:qpv m ns ns.length ys x hd)(hd0:0<hd):ys++[UInt8.ofNat (x%256)]=qa6 m ns:=by
 obtain⟨rfl,rfl,h3⟩:=h
 unfold qa6
 rw[yf,show(ns.length*m+7)/8=ns.length*m/8+1 from by omega,qe6]
def InAt(ys:List UInt8)(T j:Nat)(us:List UInt8)(y:Nat):Prop:=us=ys++xm j T∧y=T/256 ^ j
theorem inAt_zero(ys:List UInt8)(T:Nat):InAt ys T 0 ys T:=by simp[InAt,xm]
theorem inAt_len{ys us:List UInt8}{T j y:Nat}(h:InAt ys T j us y):us.length=ys.length+j:=by rw[h.1,qd,vx]
theorem inAt_le{ys us:List UInt8}{T j y:Nat}(h:InAt ys T j us y):y≤T:=by rw[h.2];exact Nat.div_le_self _ _
theorem inAt_step{ys us:List UInt8}{T j y:Nat}(h:InAt ys T j us y):InAt ys T (j+1) (us++[UInt8.ofNat (y%256)]) (y/256):=by
 obtain⟨rfl,rfl⟩:=h
 refine⟨?_,?_⟩
 ·
  rw[qe6,qv]
 ·
  rw[kt,ul]
theorem or_add(X z D:Nat)(hX:X<2 ^ D)(hD:D<8)(hz:z<2 ^ 32) :
  bits .or .u64 (X:Int) (IntKind.u64.wrap (IntKind.u64.wrap (z:Int)*2 ^ D))=((X+2 ^ D*z:Nat):Int)∧X+2 ^ D*z<1099511627776:=by
 have hp:2 ^ D≤2 ^ 7:=yb (by omega) (by omega)
 have hb:2 ^ D*z≤2 ^ 7*(2 ^ 32-1):=vz hp (by omega)
 have e1:IntKind.u64.wrap (z:Int)=(z:Int):=by rw[IntKind.wrap_u64];omega
 have e2:(2:Int) ^ D=((2 ^ D:Nat):Int):=by norm_cast
 have e3:IntKind.u64.wrap ((2 ^ D*z:Nat):Int)=((2 ^ D*z:Nat):Int):=by rw[IntKind.wrap_u64];omega
 refine⟨?_,by omega⟩
 rw[e1,e2,Int.mul_comm,←qar,e3,u64_or_nat _ _ (by omega) (by omega)]
 congr 1
 rw[Nat.or_comm,xo,←qbl,←qa0 hX,Nat.add_comm]
theorem make_bytes(w:World)(n:Nat)(h:n≤100000000000000):∃w1,(Instr.makeSlice 26 (.int .i64 0) (.int .i64 (n:Int))).run Tryz.prog w= .ok (.slice (some ⟨w.heap.size,0,none⟩) 0 n) w1∧
  w1.ownsRow w.heap.size 5 1 (.slice (some ⟨w.heap.size,0,none⟩) 0 n) 0 []∧w.grownBy w1 none:=by
 obtain⟨i0,hi0,hz0,hz1,hz2⟩:=info_parts Tryz.infoU8
 have:=run_make_own (P:=Tryz.prog) w w.heap.size 26 5 i0 _ 1 Tryz.underlying26 hi0 hz0 hz1 .i64 .i64 n (by rw[hz2];omega) (by simp only[maxLen];omega) (qc _)
 simpa using this
theorem fit_is{w:World}(zs:List Int)(wd:Int)(b:Bool)(hb:fitB zs wd=b){lo h':Nat}{A:Option Addr}{c:Nat}(h:Rd w lo h' A c (iv zs)) :
  Calls Tryz.prog 196 #[.slice A zs.length c,.int .i64 wd] w fun r w'=>r= .returned (.bool b)∧w=w':=by
 subst hb
 exact fit_any zs wd h
theorem pput_yes{w:World}(zs:List Int)(m:Nat)(hf:Fits zs (m:Int)){h':Nat}{A:Option Addr}{c:Nat}(h:Rd w 0 h' A c (iv zs))(hh:h'≤w.heap.size)(hlen:zs.length≤4294967295) :
  Calls Tryz.prog 160 #[.slice A zs.length c,.int .i64 (m:Int)] w fun r w'=>∃A' c',r= .returned (.tuple #[.slice A' (qa6 m (qbo zs)).length c',.int .i64 0])∧
   w'.ownsRow w.heap.size 5 1 (.slice A' (qa6 m (qbo zs)).length c') (qa6 m (qbo zs)).length (bv (qa6 m (qbo zs)))∧Below w.heap.size w w':=by
 have hm:m≤32:=by have:=hf.2.1;omega
 have hnm:zs.length*m≤4294967295*32:=vz hlen hm
 generalize hs:(zs.length*m+7)/8=s
 obtain⟨w1,hmake,hown1,hg1⟩:=make_bytes w s (by omega)
 have k1:Below w.heap.size w w1:=(Below.refl _ _).grown hg1 (qc _) (by simp)
 have hl:=h.len
 have hc:=h.cap
 rw[ji] at hl
 unfold maxLen at hc
 have H:=qa h
 have H1:=qa (h.below k1 hh)
 have HS:=qa hs
 have HF:=qa hf
 have HO:=qa hown1
 have K1:=qa k1
 clear h hs hf hown1 hg1 k1
 go_enter Tryz.func160,Tryz.ntmps160
 go_wp2_with fail
 refine(fit_is zs m true (qp HF.out) H.out).mono ?_
 rintro r w' ⟨rfl,rfl⟩
 go_wp2_with fail
 refine(size_is zs.length m s (by omega) HS.out).mono ?_
 rintro r w' ⟨rfl,rfl⟩
 go_wp2_with fail
 have hK:=qa HF.out.nats_lt
 have hN:=ud zs
 have HN:=qa hN
 clear hN
 go_loopw [6,7,8,22] (fun b x hd i wr=>∃(k:Nat) (ys:List UInt8) (A':Option Addr) (c' X D:Nat),k≤zs.length∧i= .int .i64 (k:Int)∧b= .slice A' ys.length c'∧x= .int .u64 (X:Int)∧hd= .int .i64 (D:Int)∧
   qpv m (qbo zs) k ys X D∧wr.ownsRow w.heap.size 5 1 (.slice A' ys.length c') ys.length (bv ys)∧Below w.heap.size w wr) (fun _ _ _ i _=>zs.length-(intOf i).toNat)
 case atStart=>exact⟨0,[],_,_,0,0,qi _,rfl,rfl,rfl,rfl,putAt_zero _ _,HO.out,K1.out⟩
 case round =>
  obtain⟨k,ys,A',c',X,D,hk,rfl,rfl,rfl,rfl,hat,hown,hbel⟩:=hrel
  have HAT:=qa hat
  have HOW:=qa hown
  have HBL:=qa hbel
  have hD:D<8:=by have:=hat.2.2;omega
  by_cases hlt:k<zs.length
  ·
   obtain⟨b,off,rfl,_,_,hcell⟩:=(H.out.below hbel hh).num hlt
   have hkn:k<(qbo zs).length:=by rw[ud];exact hlt
   have hzk:(qbo zs)[k]=zs[k].toNat:=by simp[qbo]
   have hz0:=(HF.out.2.2 _ (qj hlt)).1
   obtain⟨hX,hZ,hnext⟩:=putAt_step HF.out.nats_lt hat hkn _ hzk
   have HX:=qa hnext
   generalize zs[k]=z0 at *
   obtain⟨z,rfl⟩:=Int.eq_ofNat_of_zero_le hz0
   simp only[vf] at HX hZ
   have hz32:z<2 ^ 32:=ja hZ (yb (by omega) hm)
   obtain⟨hor,hT⟩:=or_add X z D hX hD hz32
   have hlen:ys.length≤k*m/8:=qek (putAt_len hat)
   have hkm:k*m≤zs.length*m:=vy _ hk
   have hq:(((D:Int)+(m:Int))/8)≤(((D+m)/8:Nat):Int):=by omega
   have hq':(((D+m)/8:Nat):Int)≤(((D:Int)+(m:Int))/8):=by omega
   have hN4:(D+m)/8≤4:=by omega
   have HM:Hid ((((D:Int)+(m:Int))%8)=(((D+m)%8:Nat):Int)):=by unfold Hid;omega
   clear hat hown hbel hzk hnext hz0 hX hZ hz32
   generalize X+2 ^ D*z=T at *
   generalize (D+m)/8=N at *
   generalize (D+m)%8=D' at *
   obtain⟨wo,rfl⟩:∃wo:World,wo=wr:=⟨_,rfl⟩
   go_wp2_with fail
   go_loopw [6,7,37] (fun b x i wr=>∃(j:Nat) (us:List UInt8) (A':Option Addr) (c' y:Nat),j≤N∧i= .int .i64 (j:Int)∧b= .slice A' us.length c'∧x= .int .u64 (y:Int)∧
     InAt ys T j us y∧wr.ownsRow w.heap.size 5 1 (.slice A' us.length c') us.length (bv us)∧Below w.heap.size w wr) (fun _ _ i _=>N-(intOf i).toNat)
   case atStart=>exact⟨0,ys,_,_,T,qi _,rfl,rfl,rfl,inAt_zero _ _,HOW.out,HBL.out⟩
   case round =>
    obtain⟨j,us,A2,c2,y,hj,rfl,rfl,rfl,hin,hown,hbel⟩:=hrel
    have HIN:=qa hin
    have HO2:=qa hown
    have HB2:=qa hbel
    have hsz:=hbel.size
    have hul:us.length≤ys.length+j:=qek (inAt_len hin)
    have hyT:=inAt_le hin
    clear hin hown hbel
    by_cases hlj:j<N
    ·
     have HA:Hid ((UInt8.ofNat (y%256)).toNat=y%256):=qkr y
     clear hor
     go_wp2_with (at_builtin;refine jab (v:= .slice A2 us.length c2) w.heap.size us (UInt8.ofNat (y%256)) rfl _ _ rfl rfl rfl rfl (by rw[HA.out,za _ _ _ _ rfl];rfl) (HO2.out.alloc _) (by omega) (by simp;omega) ?_;intro A3 c3 w3 hown3 hgr3)
     have HO3:=qa hown3
     have HG3:=qa hgr3
     clear hown3 hgr3
     go_wp2
     go_roundw
     case rel =>
      refine⟨j+1,us++[UInt8.ofNat (y%256)],A3,c3,y/256,by omega,by go_num,by simp,by go_num,inAt_step HIN.out,HO3.out,?_⟩
      exact(HB2.out.alloc hsz _).grown HG3.out (by simp;omega) (fun k hk=>qef HO2.out k hk)
     case measure=>simp[intOf];omega
    ·
     obtain rfl:j=N:=by omega
     go_wp2
     go_roundw
     case rel =>
      refine⟨k+1,us,A2,c2,y,D',by omega,by go_num,rfl,rfl,by rw[HM.out],?_,HO2.out,HB2.out⟩
      rw[HIN.out.1,HIN.out.2]
      exact HX.out
     case measure=>simp[intOf];omega
  ·
   obtain rfl:k=zs.length:=by omega
   have hlen:ys.length≤zs.length*m/8:=qek (putAt_len hat)
   have hX:=(HF.out.nats_lt)
   have hXD:X<2 ^ D:=by
    have h1:=vsum_take (m:=m) (ns:=qbo zs) (by simpa using HF.out.nats_lt) (k:=zs.length) (by rw[HN.out];exact qc _)
    have h2:=(put_step _ _ 0 0 (by simp) h1 _ rfl).1
    rw[←hat.2.1,←hat.2.2] at h2
    exact h2
   have hX128:X<128:=ja hXD (yb (by omega) (show D≤7 by omega))
   have hsz:=hbel.size
   have hat':qpv m (qbo zs) (qbo zs).length ys X D:=by rw[HN.out];exact hat
   by_cases hD0:D=0
   ·
    subst hD0
    have HE:=qa (putAt_full hat')
    clear hat hat' hown hbel hX
    go_wp2
    go_ret2
    exact⟨A',c',by rw[←HE.out];rfl,by rw[←HE.out];exact HOW.out,HBL.out⟩
   ·
    have hrest:=putAt_rest hat' (by omega)
    rw[vd (show X<256 by omega)] at hrest
    have HE:=qa hrest
    have hDp:0<D:=by omega
    have HA:Hid ((UInt8.ofNat X).toNat=X):=by unfold Hid;rw[xh];omega
    clear hat hat' hown hbel hX hrest
    go_wp2_with (at_builtin;refine jab (v:= .slice A' ys.length c') w.heap.size ys (UInt8.ofNat X) rfl _ _ rfl rfl rfl rfl (by rw[HA.out,za _ _ _ _ rfl];rfl) (HOW.out.alloc _) (by omega) (by simp;omega) ?_;intro A3 c3 w3 hown3 hgr3)
    have HO3:=qa hown3
    have HG3:=qa hgr3
    clear hown3 hgr3
    go_wp2
    go_ret2
    refine⟨A3,c3,by rw[←HE.out,qd];rfl,by rw[←HE.out];exact HO3.out,?_⟩
    exact(HBL.out.alloc hsz _).grown HG3.out (by simp;omega) (fun k hk=>qef HOW.out k hk)
theorem qgl{w:World}(n:Nat)(hn:n≤9223372036854775807) :
  Calls Tryz.prog 32 #[.int .i64 (n:Int)] w fun r w'=>∃A c,r= .returned (.slice A (jo n).length c)∧w'.ownsRow w.heap.size 5 1 (.slice A (jo n).length c) (jo n).length (bv (jo n))∧Below w.heap.size w w':=by
 have h9:=vo n hn
 go_enter Tryz.func32,Tryz.ntmps32
 go_wp2_with fail
 go_loopw [0,3] (fun i v wr=>∃(m:Nat) (ys:List UInt8) (A:Option Addr) (c:Nat),m≤n∧i= .int .i64 (m:Int)∧v= .slice A ys.length c∧ys++jo m=jo n∧wr.ownsRow w.heap.size 5 1 (.slice A ys.length c) ys.length (bv ys)∧Below w.heap.size w wr) (fun i _ _=>(intOf i).toNat)
 case atStart=>exact⟨n,[],none,0,by omega,rfl,rfl,rfl,zh ..,Below.refl _ _⟩
 case round =>
  obtain⟨m,ys,A,c,hm,rfl,rfl,hys,hown,hbel⟩:=hrel
  have hl:ys.length+1≤9:=by
   have h1:=congrArg List.length hys
   have h2:=qlv m
   rw[qd] at h1
   omega
  have HO:=qa hown
  have HY:=qa hys
  have HB:=qa hbel
  have hsz:=hbel.size
  clear hown hys hbel
  by_cases hlt:128≤m
  ·
   have HA:=qa (or_more m)
   go_wp2_with (at_builtin;refine jab (v:= .slice A ys.length c) w.heap.size ys (UInt8.ofNat (m%128+128)) rfl _ _ rfl rfl rfl rfl (by rw[HA.out,za _ _ _ _ rfl];rfl) (HO.out.alloc _) (by omega) (by simp;omega) ?_;intro A' c' w1 hown1 hgr1)
   have HO1:=qa hown1
   have HG1:=qa hgr1
   clear hown1 hgr1
   go_wp2
   go_roundw
   case rel =>
    refine⟨m/128,ys++[UInt8.ofNat (m%128+128)],A',c',by omega,by go_num,by simp,?_,HO1.out,?_⟩
    ·
     rw[←HY.out,qjq hlt];simp
    ·
     exact(HB.out.alloc hsz _).grown HG1.out (by simp;omega) (fun k hk=>(HO.out.lt k hk).1)
   case measure=>simp[intOf];omega
  ·
   have HA:Hid ((UInt8.ofNat m).toNat=m):=by
    unfold Hid
    rw[xh];omega
   go_wp2_with (at_builtin;refine jab (v:= .slice A ys.length c) w.heap.size ys (UInt8.ofNat m) rfl _ _ rfl rfl rfl rfl (by rw[HA.out,za _ _ _ _ rfl];first | rfl | (simp;omega)) (HO.out.alloc _) (by omega) (by simp;omega) ?_;intro A' c' w1 hown1 hgr1)
   have HO1:=qa hown1
   have HG1:=qa hgr1
   clear hown1 hgr1
   go_wp2
   go_ret
   have e:jo n=ys++[UInt8.ofNat m]:=by rw[←HY.out,qc1 (by omega)]
   have e2:(jo n).length=ys.length+1:=by rw[e];simp
   refine⟨A',c',by rw[e2];rfl,by rw[e];exact HO1.out,?_⟩
   exact(HB.out.alloc hsz _).grown HG1.out (by simp;omega) (fun k hk=>(HO.out.lt k hk).1)
theorem qnv{w:World}(zs:List Int)(hm:qpw zs){h':Nat}{A:Option Addr}{c:Nat}(h:Rd w 0 h' A c (iv zs))(hh:h'≤w.heap.size)(hlen:zs.length≤4294967295) :
  Calls Tryz.prog 117 #[.slice A zs.length c] w fun r w'=>∃A' c',r= .returned (.tuple #[.slice A' (jq zs).length c',.int .i64 0])∧
   w'.ownsRow w.heap.size 5 1 (.slice A' (jq zs).length c') (jq zs).length (bv (jq zs))∧Below w.heap.size w w':=by
 have HW:=qa (width_any (w:=w) zs hm.word h)
 have HP:=qa (pput_yes (w:=w) zs (wide zs) hm.fits h hh hlen)
 have h1:=vo zs.length (by omega)
 have h2:=hm.wide_le
 have h3:zs.length*wide zs≤4294967295*32:=vz hlen h2
 have h4:(qa6 (wide zs) (qbo zs)).length≤4294967295*4+1:=by rw[qcu,ud];omega
 have h5:(qa6 (wide zs) (qbo zs)).length≤140737488355328:=by omega
 have HE:Hid (jo zs.length++([UInt8.ofNat (wide zs)]++qa6 (wide zs) (qbo zs))=jq zs):=rfl
 have HB:=qa (qik (n:=wide zs) (by omega))
 clear h hm
 generalize qa6 (wide zs) (qbo zs)=pk at *
 generalize wide zs=wd at *
 go_enter Tryz.func117,Tryz.ntmps117
 go_wp2_with fail
 refine HW.out.mono ?_
 rintro r w' ⟨rfl,rfl⟩
 go_wp2_with fail
 refine HP.out.mono ?_
 rintro r w1 ⟨A1,c1,rfl,hown1,hb1⟩
 have HO1:=qa hown1
 have HB1:=qa hb1
 have s1:=hb1.size
 clear hown1 hb1
 go_wp2_with fail
 refine(qgl zs.length (by omega)).mono ?_
 rintro r w2 ⟨A2,c2,rfl,hown2,hb2⟩
 have HO2:=qa hown2
 have HB2:=qa (qz HB1.out hb2 s1)
 have HK2:=qa (js HO1.out hb2 (qc _))
 have s2:=hb2.size
 have hb2':=hb2
 clear hown2 hb2
 generalize jo zs.length=pl at *
 go_wp2_with (at_builtin;refine jab (v:= .slice A2 pl.length c2) w1.heap.size pl (UInt8.ofNat wd) rfl _ _ rfl rfl rfl rfl (by rw[HB.out,za _ _ _ _ rfl];first | rfl | (simp;omega)) (HO2.out.alloc _) (by omega) (by simp;omega) ?_;intro A3 c3 w3 hown3 hgr3;refine qaz ?_)
 refine⟨?_⟩
 have HR3:=qa ((((Rd.own HO1.out).below hb2' (qc _)).alloc s2 (.cells #[.int .u8 (wd:Int)] 5)).grown hgr3 (by simp;omega) (fun k hk=> .inr (qef HO2.out k hk)))
 have k3:=(HB2.out.alloc (ze s1 s2) _).grown hgr3 (by simp;omega) (fun k hk=>ze s1 (qef HO2.out k hk))
 have HB3:=qa k3
 obtain⟨A4,c4,w4,hrun4,hown4,hg4⟩:=j9 w3 w.heap.size _ (pl++[UInt8.ofNat wd]) pk (jq zs) (by rw[qv];exact HE.out) (j4 hown3 s1) HR3.out (by simp;omega) k3.size
 rw[show(pl++[UInt8.ofNat wd]).length=pl.length+1 from by simp] at hrun4 hown3 hg4
 have HO4:=qa hown4
 have HG4:=qa hg4
 have HO3:=qa hown3
 clear hown3 hgr3 hown4 hg4 k3 hb2'
 go_wp2_with (at_builtin;refine wpList_append_run rfl _ _ _ _ rfl rfl rfl hrun4 ?_)
 go_ret2
 exact⟨A4,c4,rfl,HO4.out,HB3.out.grown HG4.out HB3.out.size (fun k hk=>ze s1 (qef HO3.out k hk))⟩
def qk4(l:List Bool):List Nat:=l.map Bool.toNat
theorem qh3(l:List Bool):(qk4 l).length=l.length:=by simp[qk4]
theorem qpt(l:List Bool):∀x∈qk4 l,x<2 ^ 1:=by
 intro x hx
 obtain⟨b,_,rfl⟩:=zn.1 hx
 cases b <;> decide
def qj4(l:List Bool)(k:Nat):Nat:=qfo 1 (qk4 (l.take k))
theorem bsum_succ(l:List Bool)(k:Nat)(h:k<l.length):qj4 l (k+1)=qj4 l k+2 ^ k*(l[k]).toNat:=by
 unfold qj4
 rw[qg h]
 unfold qk4
 rw[jg,List.map_singleton,qmh,q8,qy,yx (qdo h),qca]
theorem bsum_no(l:List Bool)(k:Nat)(h:k<l.length)(hb:l[k]=false):qj4 l (k+1)=qj4 l k:=by rw[bsum_succ l k h,hb];rfl
theorem bsum_yes(l:List Bool)(k:Nat)(h:k<l.length)(hb:l[k]=true):qj4 l (k+1)=qj4 l k+2 ^ k:=by rw[bsum_succ l k h,hb];simp
theorem bsum_lt(l:List Bool)(k:Nat)(h:k≤l.length):qj4 l k<2 ^ k:=by
 have:=qol 1 (qk4 (l.take k)) (qpt _)
 rwa [qh3,qy,yx h,qca] at this
def qdg(l:List Bool):List UInt8:=xm ((l.length+7)/8) (qj4 l l.length)
theorem qfb(l:List Bool):(qdg l).length=(l.length+7)/8:=vx _ _
theorem qlx(l:List Bool):qdg l=qa6 1 (qk4 l):=by
 unfold qdg qa6 qj4
 rw[qh3,va,yf]
def xe(l:List Bool):List UInt8:=jo l.length++qdg l
theorem qfn(l:List Bool)(h:l.length≤9223372036854775807):(xe l).length≤9+(l.length+7)/8:=by
 have:=vo l.length h
 unfold xe
 rw[qd,qfb]
 omega
def getB(bs:List UInt8)(i:Nat):Bool:=qje bs 1 i==1
theorem getB_toNat(bs:List UInt8)(i:Nat):(getB bs i).toNat=qje bs 1 i:=by
 have h:=getN_lt bs 1 i
 unfold getB
 rcases jr (qje bs 1 i) with h0 | h0
 ·
  rw[h0];rfl
 ·
  rw[show qje bs 1 i=1 by omega];rfl
def qi3(bs:List UInt8)(n:Nat):List Bool:=(List.range n).map (getB bs)
theorem qcw(bs:List UInt8)(n:Nat):(qi3 bs n).length=n:=by simp[qi3]
theorem getsB_get(bs:List UInt8)(n i:Nat)(h:i<n):(qi3 bs n)[i]? = some (getB bs i):=by simp[qi3,h]
theorem bitsN_getsB(bs:List UInt8)(n:Nat):qk4 (qi3 bs n)=qci bs 1 n:=by
 unfold qk4 qi3 qci
 rw[ut]
 exact qb7 fun i _=>getB_toNat bs i
theorem packB_getsB(bs:List UInt8)(n:Nat)(hl:bs.length=(n+7)/8)(hb:qbg bs<2 ^ n):qdg (qi3 bs n)=bs:=by
 rw[qlx,bitsN_getsB,pack_gets bs 1 n (by rw[va];exact hl) (by rw[va];exact hb)]
theorem getsB_packB(l:List Bool):qi3 (qdg l) l.length=l:=by
 apply qc3
 intro i
 by_cases hi:i<l.length
 ·
  rw[getsB_get _ _ _ hi,qe hi]
  have h:=get_pack 1 (qk4 l) (qpt l) i (by rw[qh3];exact hi)
  rw[←qlx] at h
  unfold getB
  rw[h]
  simp only[qk4,yz]
  cases l[i] <;> rfl
 ·
  rw[jz (by rw[qcw];omega),jz (by omega)]
theorem bval_packB(l:List Bool):qbg (qdg l)<2 ^ l.length:=by
 rw[qlx,qog 1 _ (qpt l)]
 have:=qol 1 (qk4 l) (qpt l)
 rwa [qh3,qca] at this
theorem getN_byte(bs:List UInt8)(i:Nat)(h:i/8<bs.length):qje bs 1 i=bs[i/8].toNat/2 ^ (i%8)%2:=by
 unfold qje
 rw[qca,Nat.pow_one,←bval_at bs (i/8) h,qjm i,←ul]
 generalize qbg bs/256 ^ (i/8)=y
 have hr:i%8<8:=qak _ (by decide)
 rw[show(256:Nat)=2 ^ (i%8)*(2*2 ^ (7-i%8)) by rw[←Nat.pow_succ',←vq,show i%8+(7-i%8).succ=8 by omega]]
 rw[Nat.mod_mul_right_div_self,Nat.mod_mul_right_mod]
theorem bytesN_bit(s k V:Nat)(hs:k/8<s)(hV:V<2 ^ k)(x:UInt8)(hx:(xm s V)[k/8]? = some x) :
  x.toNat<2 ^ (k%8)∧x.toNat+2 ^ (k%8)<256∧xm s (V+2 ^ k)=(xm s V).set (k/8) (UInt8.ofNat (x.toNat+2 ^ (k%8))):=by
 have hsplit:∀U:Nat,xm s U=xm (k/8+1) U++xm (s-(k/8+1)) (U/256 ^ (k/8+1)):=fun U=>by
  rw[←bytesN_add,show k/8+1+(s-(k/8+1))=s by omega]
 have hpow:2 ^ (k+1)≤256 ^ (k/8+1):=by rw[qii];exact yb (by decide) (by omega)
 have hp2:2 ^ (k+1)=2*2 ^ k:=by rw[kt,xo]
 have h0:V/256 ^ (k/8+1)=0:=Nat.div_eq_of_lt (by omega)
 have h1:(V+2 ^ k)/256 ^ (k/8+1)=0:=Nat.div_eq_of_lt (by omega)
 have hlen:(xm (k/8+1) V).length=k/8+1:=vx _ _
 have hx':(xm (k/8+1) V)[k/8]? = some x:=by
  rw[hsplit V,vh (by omega)] at hx
  exact hx
 obtain⟨h2,h3,h4⟩:=qir (n:=k) (V:=V) (ys:=xm (k/8+1) V) ⟨hV,rfl⟩ x hx'
 refine⟨?_,h2,?_⟩
 ·
  rw[qe6,ku (by rw[vx];exact qc _),vx,Nat.sub_self] at hx'
  simp only[q9,Option.some.injEq] at hx'
  rw[←hx',qkr]
  have h5:=hV
  rw[qjm] at h5
  have:=Nat.div_lt_of_lt_mul h5
  exact Nat.lt_of_le_of_lt (Nat.mod_le _ _) this
 ·
  rw[hsplit,hsplit V,h0,h1,List.set_append_left _ _ (by omega),h4,show(k+1+7)/8=k/8+1 by omega]
theorem bsize_any{w:World}(n s:Nat)(h:n≤9223372036854775807)(hs:(n+7)/8=s) :
  Calls Tryz.prog 132 #[.int .i64 (n:Int)] w fun r w'=>r= .returned (.int .i64 (s:Int))∧w=w':=by
 have h1:Hid ((n:Int)/8+((n:Int)%8+8-1)/8=(s:Int)):=by unfold Hid;omega
 clear hs
 go_enter Tryz.func132,Tryz.ntmps132
 go_wp2
 go_ret
 exact⟨kf (by rw[←h1.out]),rfl⟩
theorem bytesN_zero(s:Nat):bv (xm s 0)=List.replicate s (.int .u8 0):=by
 induction s with
 | zero=>rfl
 | succ s ih =>
  rw[xm,List.replicate_succ,←ih]
  rfl
theorem make_zeros(w:World)(n:Nat)(h:n≤281474976710656):∃w1,(Instr.makeSlice 26 (.int .i64 (n:Int)) (.int .i64 (n:Int))).run Tryz.prog w= .ok (.slice (some ⟨w.heap.size,0,none⟩) n n) w1∧
  w1.ownsRow w.heap.size 5 1 (.slice (some ⟨w.heap.size,0,none⟩) n n) n (bv (xm n 0))∧w.grownBy w1 none:=by
 obtain⟨i0,hi0,hz0,hz1,hz2⟩:=info_parts Tryz.infoU8
 have:=run_make_full (P:=Tryz.prog) w w.heap.size 26 5 i0 _ 1 Tryz.underlying26 hi0 hz0 hz1 .i64 .i64 n (by rw[hz2];omega) (by simp only[maxLen];omega) (qc _)
 rw[va,show(Value.int .u8 0).cells=#[.int .u8 0] from rfl,toList_madeCells_one,←bytesN_zero] at this
 exact this
theorem or_bit(x r:Nat)(hr:r<8)(hx:x<2 ^ r):bits .or .u8 (x:Int) (2 ^ r%256)=((x+2 ^ r:Nat):Int):=by
 have hp:2 ^ r≤2 ^ 7:=yb (by omega) (by omega)
 have e2:(2:Int) ^ r=((2 ^ r:Nat):Int):=by norm_cast
 rw[e2,show((2 ^ r:Nat):Int)%256=((2 ^ r:Nat):Int) by omega,u8_or_nat _ _ (by omega) (by omega)]
 congr 1
 have:=qa0 hx 1
 rw[qbl,qca] at this
 rw[Nat.or_comm,←this,Nat.add_comm]
theorem bput_any{w:World}(l:List Bool){h':Nat}{A:Option Addr}{c:Nat}(h:Rd w 0 h' A c (lv l))(hh:h'≤w.heap.size)(hlen:l.length≤140737488355328) :
  Calls Tryz.prog 158 #[.slice A l.length c] w fun r w'=>∃A' c',r= .returned (.slice A' (qdg l).length c')∧
   w'.ownsRow w.heap.size 5 1 (.slice A' (qdg l).length c') (qdg l).length (bv (qdg l))∧Below w.heap.size w w':=by
 have hl:=h.len
 have hc:=h.cap
 rw[vk] at hl
 unfold maxLen at hc
 rw[qfb]
 obtain⟨s,hs⟩:∃s,(l.length+7)/8=s:=⟨_,rfl⟩
 have HP:Hid (qdg l=xm s (qj4 l l.length)):=by unfold Hid qdg;rw[hs]
 rw[hs]
 obtain⟨w1,hmake,ho1,hg1⟩:=make_zeros w s (by omega)
 have hb1:Below w.heap.size w w1:=(Below.refl _ _).grown hg1 (qc _) (by simp)
 have HSZ:=qa (bsize_any (w:=w) l.length s (by omega) hs)
 have hs8:l.length≤8*s:=by omega
 have hsb:s≤140737488355328:=by omega
 have HO1:=qa ho1
 have HB1:=qa hb1
 have H:=qa h
 clear h ho1 hg1 hb1 hs
 go_enter Tryz.func158,Tryz.ntmps158
 go_wp2_with fail
 refine HSZ.out.mono ?_
 rintro r w' ⟨rfl,rfl⟩
 go_wp2_with fail
 go_loopw [12] (fun i wr=>∃(k:Nat),k≤l.length∧i= .int .i64 (k:Int)∧
   wr.ownsRow w.heap.size 5 1 (.slice (some ⟨w.heap.size,0,none⟩) s s) s (bv (xm s (qj4 l k)))∧Below w.heap.size w wr) (fun i _=>l.length-(intOf i).toNat)
 case atStart=>exact⟨0,qi _,rfl,HO1.out,HB1.out⟩
 case round =>
  obtain⟨k,hk,rfl,ho,hb⟩:=hrel
  have HO:=qa ho
  have HB:=qa hb
  clear ho hb
  by_cases hlt:k<l.length
  ·
   obtain⟨b,off,rfl,_,hbh,hcell⟩:=(H.out.below HB.out hh).row hlt
   cases hx:l[k]
   ·
    have HN:=qa (bsum_no l k hlt hx)
    rw[hx] at hcell
    clear hx
    go_wp2
    go_roundw
    case rel=>exact⟨k+1,by omega,by go_num,by rw[HN.out];exact HO.out,HB.out⟩
    case measure=>simp[intOf];omega
   ·
    have hks:k/8<s:=by omega
    have hkl:k/8<(xm s (qj4 l k)).length:=by rw[vx];exact hks
    obtain⟨x0,hx0⟩:∃x0,(xm s (qj4 l k))[k/8]? = some x0:=⟨_,qe hkl⟩
    obtain⟨hx1,hx2,hx3⟩:=bytesN_bit s k (qj4 l k) hks (bsum_lt l k hk) x0 hx0
    rw[←bsum_yes l k hlt hx] at hx3
    have HN:=qa hx3
    rw[hx] at hcell
    have hor:=or_bit x0.toNat (k%8) (qak _ (by decide)) hx1
    have hload:wr.drew.cell? ⟨w.heap.size,k/8,none⟩=some (.int .u8 (x0.toNat:Int)):=by
     have h1:=HO.out.cellAt (k/8) (by omega)
     have h2:(bv (xm s (qj4 l k)))[k/8]? = some (.int .u8 (x0.toNat:Int)):=by simp[bv,hx0]
     exact h1.trans h2
    have hfr:wr.drew.frozen? ⟨w.heap.size,k/8,none⟩=false:=HO.out.frozenAt (k/8)
    have hbn:(UInt8.ofNat (x0.toNat+2 ^ (k%8))).toNat=x0.toNat+2 ^ (k%8):=by rw[xh];omega
    have hbs:bv (xm s (qj4 l (k+1)))=(bv (xm s (qj4 l k))).set (k/8) (.int .u8 ((x0.toNat+2 ^ (k%8):Nat):Int)):=by
     rw[hx3,bv_set,hbn]
    have hst:=World.ownsRow.stored (w:=wr.drew) HO.out (k/8) (.int .u8 ((x0.toNat+2 ^ (k%8):Nat):Int))
    rw[←hbs] at hst
    have HST:=qa hst
    have HB3:Hid (Below w.heap.size w wr.drew):=zg HB.out 1
    have hn8:(k:Int)/8=((k/8:Nat):Int):=by omega
    have hn8':(k:Int)%8=((k%8:Nat):Int):=by omega
    have hn8t:(k:Int).tmod 8=((k%8:Nat):Int):=by rw[qal (by omega)];omega
    have hr8:k%8<8:=qak _ (by decide)
    clear hx hx0 hx3 hbn hbs hst hkl
    go_wp2_with fail
    refine wp_region_still_tail 9 (by kernel_rfl) (by kernel_rfl) ?_
    change wpStill _ _ wr.drew (fun a'=>wpList _ _ _ _ a' wr.drew) _ _
    generalize wr.drew=w4 at *
    generalize k/8=q at *
    generalize k%8=r at *
    simp only[jn,y8,vt,jx]
    have hqw:IntKind.i64.wrap (q:Int)=(q:Int):=z8 _ (by omega)
    have hrw:IntKind.i64.wrap (r:Int)=(r:Int):=z8 _ (by omega)
    repeat still_step
    refine wpStill_nil ?_
    go_wp2
    go_roundw
    case rel =>
     rw[show(x0.toNat:Int)+2 ^ r=((x0.toNat+2 ^ r:Nat):Int) by push_cast;rfl]
     exact⟨k+1,by omega,by go_num,HST.out.1,qf7 HB3.out HST.out.2 HB3.out.size (qc _)⟩
    case measure=>simp[intOf] <;> omega
  ·
   obtain rfl:k=l.length:=by omega
   go_wp2
   go_ret
   rw[HP.out]
   exact⟨_,_,rfl,HO.out,HB.out⟩
theorem bwrite_any{w:World}(l:List Bool){h':Nat}{A:Option Addr}{c:Nat}(h:Rd w 0 h' A c (lv l))(hh:h'≤w.heap.size)(hlen:l.length≤140737488355328) :
  Calls Tryz.prog 115 #[.slice A l.length c] w fun r w'=>∃A' c',r= .returned (.slice A' (xe l).length c')∧
   w'.ownsRow w.heap.size 5 1 (.slice A' (xe l).length c') (xe l).length (bv (xe l))∧Below w.heap.size w w':=by
 have HE:Hid (jo l.length++qdg l=xe l):=rfl
 have h9:=vo l.length (by omega)
 have hpl:(qdg l).length≤140737488355328/8+1:=by rw[qfb];omega
 have HP:=fun(w1:World) (h:Rd w1 0 h' A c (lv l)) (hh:h'≤w1.heap.size)=>qa (bput_any (w:=w1) (A:=A) (c:=c) l h hh hlen)
 have H:=qa h
 have hl:=h.len
 have hc:=h.cap
 rw[vk] at hl
 unfold maxLen at hc
 clear h
 generalize qdg l=pk at *
 go_enter Tryz.func115,Tryz.ntmps115
 go_wp2_with fail
 refine(qgl l.length (by omega)).mono ?_
 rintro r w1 ⟨A1,c1,rfl,ho1,hb1⟩
 have HO1:=qa ho1
 have HB1:=qa hb1
 have s1:=hb1.size
 clear ho1 hb1
 generalize jo l.length=pl at *
 go_wp2_with fail
 refine(HP w1 (H.out.below HB1.out hh) (by omega)).out.mono ?_
 rintro r w2 ⟨A2,c2,rfl,ho2,hb2⟩
 have HO2:=qa ho2
 have HB2:=qa (qz HB1.out hb2 s1)
 have s2:=hb2.size
 obtain⟨A3,c3,w3,hrun3,ho3,hg3⟩:=j9 w2 w.heap.size _ pl pk (xe l) HE.out (js HO1.out hb2 (qc _)) (Rd.own ho2) (by omega) (by omega)
 have HO3:=qa ho3
 have HB3:=qa (HB2.out.grown hg3 HB2.out.size (fun k hk=>qef HO1.out k hk))
 clear ho2 hb2 ho3 hg3
 go_wp2_with (at_builtin;refine wpList_append_run rfl _ _ _ _ rfl rfl rfl hrun3 ?_)
 go_ret
 exact⟨A3,c3,rfl,HO3.out,HB3.out⟩
theorem qag{P:Program}{o:Oper}{a:Act}{Q:Exit→Act→World→Prop}{K:Act→World→Prop}{w w':World}{v1 v2 v':Value}(s x:Operand)(t t':TypeId)
  (ho:o.op= .call { callee:= .builtin .append,args:=#[s,x],argTypes:=#[t,t'] }) (hs:a.eval s=v1) (hx:a.eval x=v2)
  (hr:(Builtin.append_ #[t,t'] o.type #[v1,v2]).run P w= .ok v' w') (h:K (a.put o.dst v') w'):Oper.wp P o a w K Q:=by
 unfold Oper.wp execOp
 simp only[ho,resolve,invoke,builtin,Sem.run_bind,Sem.run_pure,Result.andThen_ok,List.map_toArray,ym,uq,hs,hx,hr]
 exact h
def yp(gs:List Nat):List Int:=(List.range gs.length).map fun i=>if i=0 then ((gs.getD 0 0:Nat):Int) else ((gs.getD i 0:Nat):Int)-((gs.getD (i-1) 0:Nat):Int)
theorem ya(gs:List Nat):(yp gs).length=gs.length:=by simp[yp]
theorem qlh(gs:List Nat)(h:0<gs.length):(yp gs)[0]'(by rw[ya];exact h)=((gs[0]:Nat):Int):=by
 simp[yp,List.getD,qe h]
theorem qli(gs:List Nat)(k:Nat)(h:k+1<gs.length):(yp gs)[k+1]'(by rw[ya];exact h)=((gs[k+1]:Nat):Int)-((gs[k]'(by omega):Nat):Int):=by
 simp[yp,List.getD,qe h,qe (show k<gs.length by omega)]
theorem qfy{gs:List Nat}(hu:gs.Pairwise (· < ·))(hl:∀g∈gs,g<16777216):qpw (yp gs):=fun z hz=>by
 obtain⟨i,hi,rfl⟩:=zq hz
 rw[ya] at hi
 match i,hi with
 | 0,hi =>
  rw[qlh gs hi]
  have:=hl gs[0] (qj hi)
  omega
 | k+1,hi =>
  rw[qli gs k hi]
  have h1:=hl gs[k+1] (qj hi)
  have h2:=ug.1 hu k (k+1) (by omega) hi (by omega)
  omega
def y7(b:Nat)(gs:List Nat)(rs:List Bool):List UInt8:=if 0<b then jo b++xe rs else jo 0++jq (yp gs)
structure TakeG (bs:List UInt8) (k:Nat) (e:Int) (b:Nat) (gs:List Nat) (rs:List Bool) (k':Nat) (e':Int):Prop where
 bad:e'≠0→b=0∧gs=[]∧rs=[]
 good:e'=0→e=0∧FilG b gs rs∧bs.drop k=y7 b gs rs++bs.drop k'∧k'=k+(y7 b gs rs).length∧k'≤bs.length
 there:∀b0 gs0 rs0 rest,e=0→FilG b0 gs0 rs0→bs.drop k=y7 b0 gs0 rs0++rest→e'=0∧b=b0∧gs=gs0∧rs=rs0
theorem writeG_zero(b:Nat)(gs:List Nat)(rs:List Bool):0<(y7 b gs rs).length:=by
 unfold y7
 split <;> (rw[qd];have:=qlv b;have:=qlv 0;omega)
theorem or_i64(a b:Nat)(ha:a<9223372036854775808)(hb:b<9223372036854775808):bits .or .i64 (a:Int) (b:Int)=((a ||| b:Nat):Int):=by
 have e:∀n:Nat,n<9223372036854775808→(BitVec.ofInt 64 (n:Int)).toNat=n:=fun n hn=>by
  rw[BitVec.ofInt_natCast,qbi];exact vd (by omega)
 have hx:a ||| b<2 ^ 63:=Nat.or_lt_two_pow (by omega) (by omega)
 show IntKind.i64.wrap ((BitVec.ofInt 64 (a:Int) ||| BitVec.ofInt 64 (b:Int)).toNat:Int)=_
 rw[BitVec.toNat_or,e a ha,e b hb,IntKind.wrap_i64]
 omega
theorem qrk{w:World}(s:ByteArray)(hs:s.size≤100000)(n:Nat)(hn:s.size-2=n) :
  Calls Tryz.prog 144 #[.string s] w fun r w'=>r= .returned (.int .i64 (n:Int))∧w=w':=by
 have HN:=qa hn
 clear hn
 go_enter Tryz.func144,Tryz.ntmps144
 go_wp2
 all_goals
  have hn:=HN.out
  go_ret
  exact⟨kf (by omega),rfl⟩
theorem or_three(a b c:Nat)(ha:a<256)(hb:b<256)(hc:c<256) :
  bits .or .i64 (bits .or .i64 (wrap64 (wrap64 (a:Int)*65536)) (wrap64 (wrap64 (b:Int)*256))) (wrap64 (c:Int))=((65536*a+256*b+c:Nat):Int):=by
 have e1:wrap64 (a:Int)=(a:Int):=ky _ (by omega)
 have e2:wrap64 (b:Int)=(b:Int):=ky _ (by omega)
 have e3:wrap64 (c:Int)=(c:Int):=ky _ (by omega)
 have e4:wrap64 ((a:Int)*65536)=((65536*a:Nat):Int):=by rw[show(a:Int)*65536=((65536*a:Nat):Int) by omega];exact ky _ (by omega)
 have e5:wrap64 ((b:Int)*256)=((256*b:Nat):Int):=by rw[show(b:Int)*256=((256*b:Nat):Int) by omega];exact ky _ (by omega)
 have f1:65536*a ||| 256*b=65536*a+256*b:=by
  have:=qa0 (a:=a) (b:=256*b) (i:=16) (by omega)
  rw[qbl,xo a] at this
  exact this.symm
 have f2:(65536*a+256*b) ||| c=65536*a+256*b+c:=by
  have:=qa0 (a:=256*a+b) (b:=c) (i:=8) (by omega)
  rw[qbl,show(256*a+b)*2 ^ 8=65536*a+256*b by omega] at this
  exact this.symm
 rw[e1,e2,e3,e4,e5,or_i64 _ _ (by omega) (by omega),f1,or_i64 _ _ (by omega) (by omega),f2]
theorem ggram_any{w:World}(s:ByteArray)(h:2<s.size)(hs:s.size≤100000)(g:Nat)(hg:qjw (s[0]'(by omega)) (s[1]'(by omega)) (s[2]'(by omega))=g) :
  Calls Tryz.prog 146 #[.string s] w fun r w'=>r= .returned (.int .i64 (g:Int))∧∃m,w'=w.drewN m:=by
 have h0:0<s.size:=by omega
 have h1:1<s.size:=by omega
 have i0:(0:Int)<(s.size:Int):=by omega
 have i1:(1:Int)<(s.size:Int):=by omega
 have i2:(2:Int)<(s.size:Int):=by omega
 have HG:=qa hg
 clear hg
 go_enter Tryz.func146,Tryz.ntmps146
 go_wp2_with fail
 go_quiet (fail)
 go_wp2_with fail
 go_ret
 refine⟨kf ?_,_,rfl⟩
 rw[←HG.out]
 exact or_three _ _ _ (zp _) (zp _) (zp _)
theorem gbit_any{w:World}(g b q:Nat)(hg:g<16777216)(hb0:0<b)(hb:b≤70000)(hq:ql9 g b=q) :
  Calls Tryz.prog 156 #[.int .i64 (g:Int),.int .i64 (b:Int)] w fun r w'=>r= .returned (.int .i64 (q:Int))∧w=w':=by
 have hqz:((g:Int)*40503%65521)%(b:Int)=(q:Int):=by rw[←hq,ql9,Int.natCast_emod,Int.natCast_emod,qar];rfl
 have hbz:(b:Int)≠0:=by omega
 have HQ:=qa hqz
 clear hq hqz
 go_enter Tryz.func156,Tryz.ntmps156
 go_wp2
 go_ret
 exact⟨kf HQ.out,rfl⟩
end Go.Proofs.YtnjkipnklpkaoaaGreat
