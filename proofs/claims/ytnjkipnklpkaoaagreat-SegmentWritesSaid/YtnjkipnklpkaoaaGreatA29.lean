/-
  Lemmas.
-/
import Derived.Test.YtnjkipnklpkaoaaGreatA39
namespace Go.Proofs.YtnjkipnklpkaoaaGreat
open Go.RowKit
set_option maxRecDepth 20000
set_option maxHeartbeats 16000000
set_option linter.unusedSimpArgs false
set_option linter.unusedVariables false
section
variable {P:Program}{f:FuncId}{args:Array Value}{w:World}{v:Value}
theorem qev{a n:Nat}(h:Calls P f args (w.drewN (a+n)) fun e w'=>e= .returned v∧∃m,w'=(w.drewN (a+n)).drewN m):Calls P f args (w.drewN (a+n)) fun e w''=>e= .returned v∧∃m,w''=w.drewN (a+m) :=
 h.mono fun _ _ ⟨he,m,hm⟩=>⟨he,n+m,by rw[hm,zr,qa9]⟩
end
theorem own_byte(w:World)(e:TypeId)(X:Int)(b:UInt8)(h:X=(b.toNat:Int)):(w.alloc (.cells #[.int .u8 X] e)).ownsRow w.heap.size e 1 (.slice (some ⟨w.heap.size,0,none⟩) 1 1) [b].length (bv [b]):=by
 subst h
 exact vm w #[_] 1 (qc _) (by simp[maxLen]) rfl
theorem lv_append(a b:List Bool):lv (a++b)=lv a++lv b:=by simp[lv]
theorem lv_one(l:List Bool):∀u∈lv l,u.oneCell'=true:=by
 intro u hu
 obtain⟨c,_,rfl⟩:=zn.1 hu
 rfl
theorem len_zero:Lib.bitLen 0=0:=Lib.bitLenAux_zero 64
theorem len_iff(x w:Nat)(hx:x<2 ^ 64):2 ^ w≤x↔w<Lib.bitLen x:=by
 constructor
 ·
  intro h
  rcases xc w (Lib.bitLen x) with h1 | h1
  ·
   exact h1
  ·
   have h2:=len_lt x hx
   have h3:2 ^ Lib.bitLen x≤2 ^ w:=yb (by omega) h1
   omega
 ·
  intro h
  have h0:x≠0:=by rintro rfl;rw[len_zero] at h;omega
  have h1:=(len_bounds x hx h0).2.1
  exact ze (yb (by omega) (by omega)) h1
theorem len_max(a b:Nat)(ha:a<2 ^ 64)(hb:b<2 ^ 64):Lib.bitLen (max a b)=max (Lib.bitLen a) (Lib.bitLen b):=by
 have mono:∀a b:Nat,a<2 ^ 64→b<2 ^ 64→a≤b→Lib.bitLen a≤Lib.bitLen b:=by
  intro a b ha hb h
  rcases xc (Lib.bitLen b) (Lib.bitLen a) with h1 | h1
  ·
   have h2:=(len_iff a _ ha).2 h1
   have h3:=len_lt b hb
   omega
  ·
   exact h1
 rcases Nat.le_total a b with h | h
 ·
  rw[Nat.max_eq_right h,Nat.max_eq_right (mono a b ha hb h)]
 ·
  rw[Nat.max_eq_left h,Nat.max_eq_left (mono b a hb ha h)]
theorem wide_nil:wide []=0:=len_zero
theorem wide_take{zs:List Int}(hw:qj8 zs)(k:Nat)(h:k<zs.length):wide (zs.take (k+1))=max (wide (zs.take k)) (Lib.bitLen zs[k].toNat):=by
 have h1:=word_grt (hw.take k)
 have h2:=(hw _ (qj h)).2
 unfold wide
 rw[grt_take zs k h,show(max (grt (zs.take k)) zs[k]).toNat=max (grt (zs.take k)).toNat zs[k].toNat from by omega,len_max _ _ (by omega) (by omega)]
def putR(zs:List Int)(wd:Int):List UInt8×Int:=if Fits zs wd then (qa6 wd.toNat (qbo zs),0) else ([],1)
theorem putR_yes{zs:List Int}{wd:Int}(h:Fits zs wd):putR zs wd=(qa6 wd.toNat (qbo zs),0):=if_pos h
theorem putR_no{zs:List Int}{wd:Int}(h:¬Fits zs wd):putR zs wd=([],1):=if_neg h
theorem pow_small{k n:Nat}(h:k≤n)(hn:n≤62):2 ^ k≤4611686018427387904:=ze (yb (by omega) (ze h hn)) (by decide)
theorem qgc{w:World}(n:Nat)(hn:n≤62) :
  Calls Tryz.prog 162 #[.int .i64 (n:Int)] w fun r w'=>r= .returned (.int .i64 ((2 ^ n:Nat):Int))∧w=w':=by
 go_enter Tryz.func162,Tryz.ntmps162
 go_wp2_with fail
 go_loop [3,4] (fun x i=>∃k:Nat,k≤n∧i= .int .i64 (k:Int)∧x= .int .i64 ((2 ^ k:Nat):Int)) (fun _ i=>n-(intOf i).toNat)
 case atStart=>exact⟨0,qi _,rfl,rfl⟩
 case round =>
  obtain⟨k,hk,rfl,rfl⟩:=hrel
  by_cases hlt:k<n
  ·
   have hb:=pow_small (k:=k+1) hlt hn
   have hs:Hid ((2 ^ (k+1):Nat)=2*2 ^ k):=by unfold Hid;rw[kt,xo]
   rw[hs] at hb
   generalize 2 ^ k=p at *
   go_wp2
   go_round
   case rel=>exact⟨k+1,by omega,by go_num,by rw[hs.out];go_num⟩
   case measure=>simp[intOf];omega
  ·
   obtain rfl:k=n:=by omega
   go_wp2
   go_ret
   exact⟨rfl,rfl⟩
theorem rwidth_any{w:World}(zs:List Int)(hz:qpw zs){lo h':Nat}{A:Option Addr}{c:Nat}(h:Rd w lo h' A c (iv zs)) :
  Calls Tryz.prog 122 #[.slice A zs.length c] w fun r w'=>r= .returned (.int .i64 (wide zs:Int))∧∃n,w.drewN n=w':=by
 have hl:=h.len
 have hc:=h.cap
 rw[ji] at hl
 unfold maxLen at hc
 have H:=qa h
 have HZ:=qa hz
 clear h hz
 go_enter Tryz.func122,Tryz.ntmps122
 go_wp2_with fail
 go_loopw [3,4] (fun v i wr=>∃k n:Nat,k≤zs.length∧i= .int .i64 (k:Int)∧v= .int .i64 (wide (zs.take k):Int)∧w.drewN n=wr) (fun _ i _=>zs.length-(intOf i).toNat)
 case atStart=>exact⟨0,0,qi _,rfl,by rw[y8,wide_nil];rfl,rfl⟩
 case round =>
  obtain⟨k,n,hk,rfl,rfl,rfl⟩:=hrel
  by_cases hlt:k<zs.length
  ·
   obtain⟨b,off,rfl,_,_,hcell⟩:=H.out.num hlt
   have hts:=qa (wide_take HZ.out.word k hlt)
   have hm:=HZ.out _ (qj hlt)
   have hw32:wide (zs.take k)≤32:=wide_le _ 32 (by omega) fun z hz=>by have:=HZ.out z (xk hz);omega
   have hb32:Lib.bitLen zs[k].toNat≤32:=Lib.bitLen_le _ 32 (by omega) (by omega)
   have hiff:=fun m=>len_iff zs[k].toNat m (by omega)
   have HI:=qa hiff
   obtain⟨hm0,hm1⟩:=hm
   clear hiff
   generalize zs[k]=z at *
   generalize wide (zs.take k)=v0 at *
   generalize Lib.bitLen z.toNat=v1 at *
   go_wp2_with fail
   go_loopw [3] (fun v wr=>∃m n:Nat,v0≤m∧m≤max v0 v1∧v= .int .i64 (m:Int)∧w.drewN n=wr) (fun v _=>64-(intOf v).toNat)
   case atStart=>exact⟨v0,n,by omega,by omega,rfl,rfl⟩
   case round =>
    obtain⟨m,n,h1,h2,rfl,rfl⟩:=hrel
    have HP:=fun j:Nat=>qa (qgc (w:=w.drewN j) m (by omega))
    have hge:=(HI.out m)
    by_cases hlv:m<v1
    ·
     have hpz:((2 ^ m:Nat):Int)≤z:=by have:=hge.2 hlv;omega
     clear hge
     generalize 2 ^ m=p at *
     go_wp2_with fail
     go_quiet ((go_at_call 162;exact qjc (HP _).out))
     go_wp2
     go_roundw
     case rel=>exact⟨m+1,_,by omega,by omega,by go_num,rfl⟩
     case measure=>simp[intOf];omega
    ·
     have hpz:z<((2 ^ m:Nat):Int):=by
      have h3:¬2 ^ m≤z.toNat:=fun h=>hlv (hge.1 h)
      omega
     clear hge
     generalize 2 ^ m=p at *
     go_wp2_with fail
     go_quiet ((go_at_call 162;exact qjc (HP _).out))
     go_wp2
     go_roundw
     case rel=>exact⟨k+1,_,by omega,by go_num,by rw[hts.out];go_num,rfl⟩
     case measure=>simp[intOf];omega
  ·
   obtain rfl:k=zs.length:=by omega
   rw[yf]
   go_wp2
   go_ret
   exact⟨rfl,_,rfl⟩
theorem qrv:qjj 0 0 []:=⟨by simp,rfl⟩
theorem bitsAt_len{n V:Nat}{ys:List UInt8}(h:qjj n V ys):ys.length=(n+7)/8:=by rw[h.2,vx]
theorem qkj{n V:Nat}{ys:List UInt8}(h:OpenAt n V ys):ys.length=n/8+1:=by rw[h.2,vx]
theorem qrc{n V:Nat}{ys:List UInt8}(h:qjj n V ys)(hn:n%8≠0):OpenAt n V ys:=by
 obtain⟨h1,rfl⟩:=h
 exact⟨h1,by rw[show(n+7)/8=n/8+1 from by omega]⟩
theorem qrd{n V:Nat}{ys:List UInt8}(h:qjj n V ys)(hn:n%8=0):OpenAt n V (ys++[0]):=by
 obtain⟨h1,rfl⟩:=h
 refine⟨h1,?_⟩
 rw[show(n+7)/8=n/8 from by omega,qe6]
 rw[qjm,hn,Nat.pow_zero,va] at h1
 rw[Nat.div_eq_of_lt h1]
 rfl
theorem qi8{n V:Nat}{ys:List UInt8}(h:OpenAt n V ys):qjj (n+1) V ys:=by
 obtain⟨h1,rfl⟩:=h
 exact⟨by rw[kt];omega,by rw[show(n+1+7)/8=n/8+1 from by omega]⟩
def qhf(m:Nat)(l:List Nat)(x j:Nat):Nat:=qfo m l+2 ^ (l.length*m)*(x%2 ^ j)
theorem partial_zero(m:Nat)(l:List Nat)(x:Nat):qhf m l x 0=qfo m l:=by simp[qhf,Nat.mod_one]
theorem partial_all(m:Nat)(l:List Nat)(x:Nat)(hx:x<2 ^ m):qhf m l x m=qfo m (l++[x]):=by
 rw[qhf,qmh,vd hx,xo m]
theorem qo3(m:Nat)(l:List Nat)(x j t:Nat)(ht:x/2 ^ j%2=t):qhf m l x (j+1)=qhf m l x j+2 ^ (l.length*m+j)*t:=by
 unfold qhf
 rw[kt,Nat.mod_mul,ht,qds,vq,qdr,qa9]
theorem bit_test(x pj:Nat)(hx:x≤4294967295):(x/pj%2=1→((wrap64 ((x:Int)/(pj:Int))).tmod 2==1)=true)∧(¬x/pj%2=1→((wrap64 ((x:Int)/(pj:Int))).tmod 2==1)=false):=by
 have h1:x/pj≤x:=Nat.div_le_self _ _
 have e1:(x:Int)/(pj:Int)=((x/pj:Nat):Int):=by push_cast;rfl
 rw[e1]
 generalize x/pj=y at *
 rw[ky (y:Int) (by omega),qal (by omega)]
 refine⟨fun h => ?_,fun h => ?_⟩
 ·
  rw[beq_iff_eq];omega
 ·
  rw[qr];omega
def AheadR(m:Nat)(zs:List Int)(k n:Nat)(ys:List UInt8):Prop :=
 (∀z∈zs.take k,0≤z∧z<2 ^ m)∧n=k*m∧qjj n (qfo m (qbo (zs.take k))) ys
def InR(m:Nat)(zs:List Int)(k x j n:Nat)(ys:List UInt8):Prop :=
 n=k*m+j∧qjj n (qhf m (qbo (zs.take k)) x j) ys
theorem rput_any{w:World}(zs:List Int)(wd:Int){h':Nat}{A:Option Addr}{c:Nat}(h:Rd w 0 h' A c (iv zs))(hh:h'≤w.heap.size)(hlen:zs.length≤4294967295) :
  Calls Tryz.prog 121 #[.slice A zs.length c,.int .i64 wd] w fun r w'=>∃A' c',r= .returned (.tuple #[.slice A' (putR zs wd).1.length c',.int .i64 (putR zs wd).2])∧
   w'.ownsRow w.heap.size 5 1 (.slice A' (putR zs wd).1.length c') (putR zs wd).1.length (bv (putR zs wd).1)∧Below w.heap.size w w':=by
 by_cases hr:0≤wd∧wd≤32
 ·
  obtain⟨hr0,hr1⟩:=hr
  obtain⟨m,rfl⟩:=Int.eq_ofNat_of_zero_le hr0
  have hm:m≤32:=by omega
  have hl:=h.len
  have hc:=h.cap
  rw[ji] at hl
  unfold maxLen at hc
  have H:=qa h
  clear h
  have hnm:zs.length*m≤4294967295*32:=vz hlen hm
  go_enter Tryz.func121,Tryz.ntmps121
  go_wp2_with fail
  go_loopw [6,7,8] (fun b n i wr=>∃(k N:Nat) (ys:List UInt8) (A':Option Addr) (c':Nat),k≤zs.length∧i= .int .i64 (k:Int)∧n= .int .i64 (N:Int)∧b= .slice A' ys.length c'∧
    AheadR m zs k N ys∧wr.ownsRow w.heap.size 5 1 (.slice A' ys.length c') ys.length (bv ys)∧Below w.heap.size w wr) (fun _ _ i _=>zs.length-(intOf i).toNat)
  case atStart=>exact⟨0,0,[],none,0,qi _,rfl,rfl,rfl,⟨by simp,by simp,qrv⟩,zh ..,Below.refl _ _⟩
  case round =>
   obtain⟨k,N,ys,A',c',hk,rfl,rfl,rfl,hat,hown,hbel⟩:=hrel
   have HAT:=qa hat
   have HOW:=qa hown
   have HBL:=qa hbel
   have hsz:=hbel.size
   by_cases hlt:k<zs.length
   ·
    obtain⟨b,off,rfl,_,hbh0,hcw⟩:=H.out.num hlt
    have hbh:b<w.heap.size:=ja hbh0 hh
    have hcell:=(hbel.cell (p:=⟨b,off+k,none⟩) hbh).trans hcw
    have HCW:=qa hcw
    clear hcw
    have HP:=fun q:Nat=>qa (qgc (w:=wr.drewN q) m (by omega))
    have hmem:Hid (zs[k]∈zs):=qj hlt
    have hts:Hid (zs.take (k+1)=zs.take k++[zs[k]]):=by unfold Hid;exact qg hlt
    have hpw:Hid (((2 ^ m:Nat):Int)=2 ^ m):=by unfold Hid;norm_cast
    generalize zs[k]=z0 at *
    clear hat hown hbel
    by_cases hneg:z0<0
    ·
     have HE:Hid (putR zs m=([],1)):=by
      refine putR_no fun hf => ?_
      have:=hf.2.2 z0 hmem
      omega
     go_wp2_with fail
     go_quiet (fail)
     go_wp2
     go_ret2
     rw[HE.out]
     exact⟨none,0,rfl,zh ..,zg HBL.out _⟩
    ·
     by_cases hbig:((2 ^ m:Nat):Int)≤z0
     ·
      have HE:Hid (putR zs m=([],1)):=by
       refine putR_no fun hf => ?_
       have:=(hf.2.2 z0 hmem).2
       rw[vf,←hpw.out] at this
       omega
      have hneg':decide (z0<0)=false:=by simpa using hneg
      clear hpw
      generalize 2 ^ m=pm at *
      go_wp2_with fail
      go_quiet ((go_at_call 162;exact qdz (HP _).out))
      go_wp2
      go_ret2
      rw[HE.out]
      exact⟨none,0,rfl,zh ..,zg HBL.out _⟩
     ·
      obtain⟨x,rfl⟩:=Int.eq_ofNat_of_zero_le (show 0≤z0 by omega)
      have hneg':decide ((x:Int)<0)=false:=by simp
      have hxm:x<2 ^ m:=by omega
      have HXM:=qa hxm
      have hxb:x≤4294967295:=by
       have:2 ^ m≤2 ^ 32:=yb (by omega) hm
       omega
      have hlt2:(x:Int)<((2 ^ m:Nat):Int):=by omega
      have HXM2:Hid (x<2 ^ m):=hxm
      have HPM:=hpw
      clear hpw hxm hbig hneg
      obtain⟨pm,hpm⟩:∃pm,pm=2 ^ m:=⟨_,rfl⟩
      rw[←hpm] at HP hlt2 HPM HXM
      clear hpm
      have hdx:decide (pm≤x)=false:=by simp;omega
      go_wp2_with fail
      go_quiet ((go_at_call 162;exact qdz (HP _).out))
      go_wp2_with fail
      have hcell1:(wr.drewN nq).cell? ⟨b,off+k,none⟩=some (.int .i64 (x:Int)):=hcell
      have HO1:Hid ((wr.drewN nq).ownsRow w.heap.size 5 1 (.slice A' ys.length c') ys.length (bv ys)):=HOW.out
      have HB1:=qa (zg HBL.out nq)
      clear hcell
      generalize wr.drewN nq=wo at *
      go_loopw [6,7,9] (fun b n i wr=>∃(j N:Nat) (ys:List UInt8) (A':Option Addr) (c':Nat),j≤m∧i= .int .i64 (j:Int)∧n= .int .i64 (N:Int)∧b= .slice A' ys.length c'∧
        InR m zs k x j N ys∧wr.ownsRow w.heap.size 5 1 (.slice A' ys.length c') ys.length (bv ys)∧Below w.heap.size w wr) (fun _ _ i _=>m-(intOf i).toNat)
      case atStart=>exact⟨0,N,ys,A',c',qi _,rfl,rfl,rfl,⟨HAT.out.2.1,by rw[partial_zero];exact HAT.out.2.2⟩,HO1.out,HB1.out⟩
      case round =>
       obtain⟨j,n,ys1,A1,c1,hj,rfl,rfl,rfl,hin,hown1,hbel1⟩:=hrel
       have HIN:=qa hin
       have HO1:=qa hown1
       have HB1:=qa hbel1
       have hsz1:=hbel1.size
       have hyl:=qek (bitsAt_len hin.2)
       have hnb:n≤4294967295*32+32:=by
        have h1:=hin.1
        have h2:k*m≤zs.length*m:=vy _ hk
        omega
       clear hin hown1 hbel1
       by_cases hjm:j<m
       ·
        by_cases h8:n%8=0
        ·
         have HOP:=qa (qrd HIN.out.2 h8)
         have hL:(ys1++[0]).length=ys1.length+1:=by simp
         go_wp2_with (at_builtin;refine jab (v:= .slice A1 ys1.length c1) w.heap.size ys1 0 rfl _ _ rfl rfl rfl rfl (by rw[za _ _ _ _ rfl];rfl) (HO1.out.alloc _) (by omega) (by simp;omega) ?_;intro A2 c2 w2 hown2 hgr2)
         have HB2:=qa ((HB1.out.alloc hsz1 _).grown hgr2 (by simp;omega) (fun k hk=>qef HO1.out k hk))
         rw[hL] at hown2
         have HO2:=qa hown2
         have HL:=qa hL
         clear hown2 hgr2 hL
         generalize ys1++[0]=ys2 at *
         generalize hLe:ys1.length+1=L at *
         have hLn:L=n/8+1:=by rw[←HL.out];exact qkj HOP.out
         have hL1:L≤n/8+1:=by omega
         have hL2:n/8<L:=by omega
         have HN8:=qa h8
         clear hLe hLn h8
         obtain⟨g,rfl,hg1,hg2⟩:=qdh HO2.out (by omega)
         have hcell2:w2.cell? ⟨b,off+k,none⟩=some (.int .i64 (x:Int)):=(HB2.out.cell (p:=⟨b,off+k,none⟩) hbh).trans HCW.out
         have HP2:=fun q:Nat=>qa (qgc (w:=w2.drewN q) j (by omega))
         have hpj:=qej j
         have hbq:=bit_test x (2 ^ j) hxb
         have HPS:=fun t ht=>qo3 m (qbo (zs.take k)) x j t ht
         rw[ud,qy,yx hk,←HIN.out.1] at HPS
         have HPT:=qa HPS
         clear HPS
         by_cases hbit:x/2 ^ j%2=1
         ·
          have HPA:=qa (HPT.out 1 hbit)
          have hbt:=hbq.1 hbit
          clear hbq hbit
          generalize 2 ^ j=pj at *
          go_quiet ((go_at_call 162;exact qdz (HP2 _).out))
          go_wp2_with fail
          have hy0:n/8<ys2.length:=by rw[HL.out];exact hL2
          obtain⟨y0,hy0e⟩:∃y0,ys2[n/8]? = some y0:=⟨_,qe hy0⟩
          have hload:(w2.drewN nq).drew.cell? ⟨g,n/8,none⟩=some (.int .u8 (y0.toNat:Int)):=by
           have h1:=HO2.out.cellAt (n/8) (by omega)
           have h2:(bv ys2)[n/8]? = some (.int .u8 (y0.toNat:Int)):=by simp[bv,hy0e]
           exact h1.trans h2
          have hfr:(w2.drewN nq).drew.frozen? ⟨g,n/8,none⟩=false:=HO2.out.frozenAt (n/8)
          have HO3:Hid ((w2.drewN nq).drew.ownsRow w.heap.size 5 1 (.slice (some ⟨g,0,none⟩) L c2) L (bv ys2)):=HO2.out
          have HB3:Hid (Below w.heap.size w (w2.drewN nq).drew):=zg (zg HB2.out nq) 1
          have HP3:=qa (qgc (w:=(w2.drewN nq).drew) (n%8) (by omega))
          have hn8:(n:Int)/8=((n/8:Nat):Int):=by omega
          have hn8':(n:Int)%8=((n%8:Nat):Int):=by omega
          have hn8t:(n:Int).tmod 8=((n%8:Nat):Int):=by rw[qal (by omega)];omega
          have HW:=qa (qir HOP.out y0 hy0e)
          have hyb:=HW.out.1
          have hy256:=zp y0
          generalize 2 ^ (n%8)=pr at *
          refine wp_region_still_tail 13 (by kernel_rfl) (by kernel_rfl) ?_
          change wpStill _ _ (w2.drewN nq).drew (fun a'=>wpList _ _ _ _ a' (w2.drewN nq).drew) _ _
          generalize (w2.drewN nq).drew=w4 at *
          generalize hq8:n/8=q at *
          generalize hr8:n%8=r at *
          clear hq8 hr8
          simp only[jn,y8,vt,jx]
          have hqw:IntKind.i64.wrap (q:Int)=(q:Int):=z8 _ (by omega)
          have hrw:IntKind.i64.wrap (r:Int)=(r:Int):=z8 _ (by omega)
          have hpw:IntKind.u8.wrap (pr:Int)=(pr:Int):=by rw[IntKind.wrap_u8];omega
          have hsum:IntKind.u8.wrap ((y0.toNat:Int)+(pr:Int))=((y0.toNat+pr:Nat):Int):=by rw[IntKind.wrap_u8];omega
          repeat still_step
          refine wpStill_step (fun K hK => ?_)
          go_simp
          refine⟨_,HP3.out.mono fun _ _ ⟨a,b⟩=>⟨a,b.symm⟩,hK _ ?_⟩
          clear hK K
          repeat still_step
          refine wpStill_nil ?_
          go_wp2
          go_roundw
          case rel =>
           have hst:=HO3.out.stored q (.int .u8 ((y0.toNat:Int)+(pr:Int)))
           have hbn:(UInt8.ofNat (y0.toNat+pr)).toNat=y0.toNat+pr:=by rw[xh];omega
           have hbs:bv (ys2.set q (UInt8.ofNat (y0.toNat+pr)))=(bv ys2).set q (.int .u8 ((y0.toNat:Int)+(pr:Int))):=by
            rw[bv_set,hbn]
            congr 2
           have hls:(ys2.set q (UInt8.ofNat (y0.toNat+pr))).length=L:=by rw[xt,HL.out]
           refine⟨j+1,n+1,ys2.set q (UInt8.ofNat (y0.toNat+pr)),some ⟨g,0,none⟩,c2,by omega,by go_num,by go_num,?_,⟨by have:=HIN.out.1;omega,?_⟩,?_,HB3.out.setCell (by simpa using hg1) _⟩
           ·
            rw[hls]
           ·
            rw[HPA.out,va];exact HW.out.2
           ·
            rw[hls,hbs];exact hst.1
          case measure=>simp[intOf] <;> omega
         ·
          have HPA:=qa (HPT.out 0 (by omega))
          have hbt:=hbq.2 hbit
          clear hbq hbit
          generalize 2 ^ j=pj at *
          go_quiet ((go_at_call 162;exact qdz (HP2 _).out))
          go_wp2
          go_roundw
          case rel =>
           refine⟨j+1,n+1,ys2,some ⟨g,0,none⟩,c2,by omega,by go_num,by go_num,?_,⟨by have:=HIN.out.1;omega,?_⟩,?_,zg HB2.out _⟩
           ·
            rw[HL.out]
           ·
            rw[HPA.out,Nat.mul_zero,xx];exact qi8 HOP.out
           ·
            rw[HL.out];exact HO2.out
          case measure=>simp[intOf] <;> omega
        ·
         have HOP:=qa (qrc HIN.out.2 h8)
         have HB2:=qa HB1.out
         have hL:=qkj HOP.out
         generalize hLe:ys1.length=L at *
         have HL:=qa hLe
         have hL1:L≤n/8+1:=by omega
         have hL2:n/8<L:=by omega
         have HO2:=qa HO1.out
         have HN8:=qa h8
         have hn80:((n:Int)%8==0)=false:=by rw[qr];omega
         clear hLe hL h8 HO1
         go_wp2_with fail
         obtain⟨g,rfl,hg1,hg2⟩:=qdh HO2.out (by omega)
         have hcell2:wr.cell? ⟨b,off+k,none⟩=some (.int .i64 (x:Int)):=(HB2.out.cell (p:=⟨b,off+k,none⟩) hbh).trans HCW.out
         have HP2:=fun q:Nat=>qa (qgc (w:=wr.drewN q) j (by omega))
         have hpj:=qej j
         have hbq:=bit_test x (2 ^ j) hxb
         have HPS:=fun t ht=>qo3 m (qbo (zs.take k)) x j t ht
         rw[ud,qy,yx hk,←HIN.out.1] at HPS
         have HPT:=qa HPS
         clear HPS
         by_cases hbit:x/2 ^ j%2=1
         ·
          have HPA:=qa (HPT.out 1 hbit)
          have hbt:=hbq.1 hbit
          clear hbq hbit
          generalize 2 ^ j=pj at *
          go_quiet ((go_at_call 162;exact qdz (HP2 _).out))
          go_wp2_with fail
          have hy0:n/8<ys1.length:=by rw[HL.out];exact hL2
          obtain⟨y0,hy0e⟩:∃y0,ys1[n/8]? = some y0:=⟨_,qe hy0⟩
          have hload:(wr.drewN nq).drew.cell? ⟨g,n/8,none⟩=some (.int .u8 (y0.toNat:Int)):=by
           have h1:=HO2.out.cellAt (n/8) (by omega)
           have h2:(bv ys1)[n/8]? = some (.int .u8 (y0.toNat:Int)):=by simp[bv,hy0e]
           exact h1.trans h2
          have hfr:(wr.drewN nq).drew.frozen? ⟨g,n/8,none⟩=false:=HO2.out.frozenAt (n/8)
          have HO3:Hid ((wr.drewN nq).drew.ownsRow w.heap.size 5 1 (.slice (some ⟨g,0,none⟩) L c1) L (bv ys1)):=HO2.out
          have HB3:Hid (Below w.heap.size w (wr.drewN nq).drew):=zg (zg HB2.out nq) 1
          have HP3:=qa (qgc (w:=(wr.drewN nq).drew) (n%8) (by omega))
          have hn8:(n:Int)/8=((n/8:Nat):Int):=by omega
          have hn8':(n:Int)%8=((n%8:Nat):Int):=by omega
          have hn8t:(n:Int).tmod 8=((n%8:Nat):Int):=by rw[qal (by omega)];omega
          have HW:=qa (qir HOP.out y0 hy0e)
          have hyb:=HW.out.1
          have hy256:=zp y0
          generalize 2 ^ (n%8)=pr at *
          refine wp_region_still_tail 13 (by kernel_rfl) (by kernel_rfl) ?_
          change wpStill _ _ (wr.drewN nq).drew (fun a'=>wpList _ _ _ _ a' (wr.drewN nq).drew) _ _
          generalize (wr.drewN nq).drew=w4 at *
          generalize hq8:n/8=q at *
          generalize hr8:n%8=r at *
          clear hq8 hr8
          simp only[jn,y8,vt,jx]
          have hqw:IntKind.i64.wrap (q:Int)=(q:Int):=z8 _ (by omega)
          have hrw:IntKind.i64.wrap (r:Int)=(r:Int):=z8 _ (by omega)
          have hpw:IntKind.u8.wrap (pr:Int)=(pr:Int):=by rw[IntKind.wrap_u8];omega
          have hsum:IntKind.u8.wrap ((y0.toNat:Int)+(pr:Int))=((y0.toNat+pr:Nat):Int):=by rw[IntKind.wrap_u8];omega
          repeat still_step
          refine wpStill_step (fun K hK => ?_)
          go_simp
          refine⟨_,HP3.out.mono fun _ _ ⟨a,b⟩=>⟨a,b.symm⟩,hK _ ?_⟩
          clear hK K
          repeat still_step
          refine wpStill_nil ?_
          go_wp2
          go_roundw
          case rel =>
           have hst:=HO3.out.stored q (.int .u8 ((y0.toNat:Int)+(pr:Int)))
           have hbn:(UInt8.ofNat (y0.toNat+pr)).toNat=y0.toNat+pr:=by rw[xh];omega
           have hbs:bv (ys1.set q (UInt8.ofNat (y0.toNat+pr)))=(bv ys1).set q (.int .u8 ((y0.toNat:Int)+(pr:Int))):=by
            rw[bv_set,hbn]
            congr 2
           have hls:(ys1.set q (UInt8.ofNat (y0.toNat+pr))).length=L:=by rw[xt,HL.out]
           refine⟨j+1,n+1,ys1.set q (UInt8.ofNat (y0.toNat+pr)),some ⟨g,0,none⟩,c1,by omega,by go_num,by go_num,?_,⟨by have:=HIN.out.1;omega,?_⟩,?_,HB3.out.setCell (by simpa using hg1) _⟩
           ·
            rw[hls]
           ·
            rw[HPA.out,va];exact HW.out.2
           ·
            rw[hls,hbs];exact hst.1
          case measure=>simp[intOf] <;> omega
         ·
          have HPA:=qa (HPT.out 0 (by omega))
          have hbt:=hbq.2 hbit
          clear hbq hbit
          generalize 2 ^ j=pj at *
          go_quiet ((go_at_call 162;exact qdz (HP2 _).out))
          go_wp2
          go_roundw
          case rel =>
           refine⟨j+1,n+1,ys1,some ⟨g,0,none⟩,c1,by omega,by go_num,by go_num,?_,⟨by have:=HIN.out.1;omega,?_⟩,?_,zg HB2.out _⟩
           ·
            rw[HL.out]
           ·
            rw[HPA.out,Nat.mul_zero,xx];exact qi8 HOP.out
           ·
            rw[HL.out];exact HO2.out
          case measure=>simp[intOf] <;> omega
       ·
        obtain rfl:j=m:=by omega
        have HNX:Hid (AheadR j zs (k+1) n ys1):=by
         refine⟨?_,by rw[qel,qca];exact HIN.out.1,?_⟩
         ·
          intro y hy
          rw[hts.out] at hy
          rcases zt.1 hy with hy | hy
          ·
           exact HAT.out.1 y hy
          ·
           rw[zo.1 hy]
           have e:((pm:Nat):Int)=2 ^ j:=HPM.out
           omega
         ·
          have h1:=HIN.out.2
          rw[partial_all _ _ _ HXM2.out] at h1
          rw[hts.out]
          have e:qbo (zs.take k++[(x:Int)])=qbo (zs.take k)++[x]:=by simp[qbo]
          rw[e]
          exact h1
        go_wp2
        go_roundw
        case rel=>exact⟨k+1,n,ys1,A1,c1,by omega,by go_num,rfl,rfl,HNX.out,HO1.out,HB1.out⟩
        case measure=>simp[intOf] <;> omega
   ·
    obtain rfl:k=zs.length:=by omega
    have HE:Hid (putR zs m=(ys,0)):=by
     obtain⟨h1,h2,h3,h4⟩:=hat
     rw[yf] at h1 h4
     unfold Hid
     rw[putR_yes ⟨hr0,hr1,by simpa using h1⟩,h4,vf]
     unfold qa6
     rw[ud,h2]
    clear hat hown hbel
    go_wp2
    go_ret2
    rw[HE.out]
    exact⟨A',c',rfl,HOW.out,HBL.out⟩
 ·
  rw[putR_no fun hf=>hr ⟨hf.1,hf.2.1⟩]
  by_cases hr0:wd<0
  ·
   go_enter Tryz.func121,Tryz.ntmps121
   go_wp2
   go_ret2
   exact⟨none,0,rfl,zh ..,Below.refl _ _⟩
  ·
   have hr1:32<wd:=by omega
   go_enter Tryz.func121,Tryz.ntmps121
   go_wp2
   go_ret2
   exact⟨none,0,rfl,zh ..,Below.refl _ _⟩
theorem qbf(n:Nat):∀ {w:World},n≤9223372036854775807→
  Calls Tryz.prog 38 #[.int .i64 (n:Int)] w fun r w'=>∃A c,r= .returned (.slice A (jo n).length c)∧w'.ownsRow w.heap.size 5 1 (.slice A (jo n).length c) (jo n).length (bv (jo n))∧Below w.heap.size w w':=by
 induction n using Nat.strongRecOn with
 | ind n ih =>
  intro w hn
  have h9:=vo n hn
  have HI:=qa ih
  clear ih
  by_cases hlt:n<128
  ·
   have HE:=qa (qc1 hlt)
   have HA:Hid ((UInt8.ofNat n).toNat=n):=by
    unfold Hid
    rw[xh];omega
   go_enter Tryz.func38,Tryz.ntmps38
   go_wp2
   go_ret
   rw[HE.out]
   have hv:bv [UInt8.ofNat n]=[.int .u8 (n:Int)]:=by simp only[bv,ym,uq,HA.out]
   refine⟨_,_,rfl,?_,(Below.refl _ _).alloc (qc _) _⟩
   rw[hv]
   exact vm w #[_] 1 (qc _) (by simp[maxLen]) rfl
  ·
   have HE:=qa (qjq (n:=n) (by omega))
   have h10:=vo (n/128) (by omega)
   have HA:Hid ((UInt8.ofNat (n%128+128)).toNat=n%128+128):=by
    unfold Hid
    rw[xh];omega
   go_enter Tryz.func38,Tryz.ntmps38
   go_wp2_with fail
   rw[show((n:Int)/128)=((n/128:Nat):Int) from by omega]
   refine(HI.out (n/128) (by omega) (by omega)).mono ?_
   rintro r w1 ⟨A,c,rfl,hown,hbel⟩
   have hsz:=hbel.size
   simp only[yl] at hsz
   have hlit:=js (own_byte w 5 _ (UInt8.ofNat (n%128+128)) (by rw[HA.out];omega)) hbel (by simp)
   obtain⟨A',c',w2,hrun,hown2,hg2⟩:=qfg w1 w.heap.size _ _ _ hlit (Rd.own hown) (by simp;omega) (by omega)
   have HO2:=qa hown2
   have HG2:=qa hg2
   have HB:=qa hbel
   clear hown hown2 hg2 hbel hlit
   go_wp2_with (at_builtin;refine wpList_append_run rfl _ _ _ _ rfl rfl rfl hrun ?_)
   go_ret
   have e:(jo n).length=1+(jo (n/128)).length:=by rw[HE.out];simp;omega
   refine⟨A',c',by rw[e];rfl,?_,?_⟩
   ·
    rw[e,HE.out];exact HO2.out
   ·
    exact(((Below.refl _ _).alloc (qc _) _).trans (HB.out.mono (by simp))).grown HG2.out (by omega) (by simp[Value.ownBlock])
theorem pput_may{w:World}(zs:List Int)(hm:qpw zs){h':Nat}{A:Option Addr}{c:Nat}(h:Rd w 0 h' A c (iv zs))(hh:h'≤w.heap.size)(hlen:zs.length≤4294967295) :
  Calls Tryz.prog 121 #[.slice A zs.length c,.int .i64 (wide zs:Int)] w fun r w'=>∃A' c',r= .returned (.tuple #[.slice A' (qa6 (wide zs) (qbo zs)).length c',.int .i64 0])∧
   w'.ownsRow w.heap.size 5 1 (.slice A' (qa6 (wide zs) (qbo zs)).length c') (qa6 (wide zs) (qbo zs)).length (bv (qa6 (wide zs) (qbo zs)))∧Below w.heap.size w w':=by
 have:=rput_any (w:=w) zs (wide zs) h hh hlen
 rw[putR_yes hm.fits,vf] at this
 exact this
theorem qid{w:World}(zs:List Int)(hm:qpw zs){h':Nat}{A:Option Addr}{c:Nat}(h:Rd w 0 h' A c (iv zs))(hh:h'≤w.heap.size)(hlen:zs.length≤4294967295) :
  Calls Tryz.prog 75 #[.slice A zs.length c] w fun r w'=>∃A' c',r= .returned (.slice A' (jq zs).length c')∧
   w'.ownsRow w.heap.size 5 1 (.slice A' (jq zs).length c') (jq zs).length (bv (jq zs))∧Below w.heap.size w w':=by
 have h1:=vo zs.length (by omega)
 have h2:=hm.wide_le
 have h3:zs.length*wide zs≤4294967295*32:=vz hlen h2
 have h4:(qa6 (wide zs) (qbo zs)).length≤4294967295*4+1:=by rw[qcu,ud];omega
 have h5:(qa6 (wide zs) (qbo zs)).length≤140737488355328:=by omega
 have HE:Hid (jo zs.length++([UInt8.ofNat (wide zs)]++qa6 (wide zs) (qbo zs))=jq zs):=rfl
 have HB:=qa (qik (n:=wide zs) (by omega))
 have HWD:=fun(w1:World) (h:Rd w1 0 h' A c (iv zs))=>qa (rwidth_any (w:=w1) (A:=A) (c:=c) zs hm h)
 have HPT:=fun(w1:World) (h:Rd w1 0 h' A c (iv zs)) (hh:h'≤w1.heap.size)=>qa (pput_may (w:=w1) (A:=A) (c:=c) (h':=h') zs hm h hh hlen)
 have H:=qa h
 clear h hm
 generalize qa6 (wide zs) (qbo zs)=pk at *
 generalize wide zs=wd at *
 go_enter Tryz.func75,Tryz.ntmps75
 go_wp2_with fail
 refine(HWD _ H.out).out.mono ?_
 rintro r w' ⟨rfl,n0,rfl⟩
 go_wp2_with fail
 refine(HPT _ (H.out.drewN n0) hh).out.mono ?_
 rintro r w1 ⟨A1,c1,rfl,hown1,hb1⟩
 have hb1':Below w.heap.size w w1:=qz (zg (Below.refl w.heap.size w) n0) hb1 (qc _)
 have HO1:=qa hown1
 have HB1:=qa hb1'
 have s1:=hb1'.size
 clear hown1 hb1 hb1'
 go_wp2_with fail
 refine(qbf zs.length (by omega)).mono ?_
 rintro r w2 ⟨A2,c2,rfl,hown2,hb2⟩
 have HO2:=qa hown2
 have HB2:=qa (qz HB1.out hb2 s1)
 have hb2':=hb2
 have s2:=hb2.size
 clear hown2 hb2
 generalize jo zs.length=pl at *
 go_wp2_with fail
 refine(HWD _ (H.out.below HB2.out hh)).out.mono ?_
 rintro r w' ⟨rfl,n1,rfl⟩
 have HO2':Hid ((w2.drewN n1).ownsRow w1.heap.size 5 1 (.slice A2 pl.length c2) pl.length (bv pl)):=HO2.out
 have hb2n:Below w1.heap.size w1 (w2.drewN n1):=zg hb2' n1
 have HB2n:=qa (zg HB2.out n1)
 have s2n:w1.heap.size≤(w2.drewN n1).heap.size:=s2
 generalize w2.drewN n1=w3 at *
 go_wp2_with (at_builtin;refine jab (v:= .slice A2 pl.length c2) w1.heap.size pl (UInt8.ofNat wd) rfl _ _ rfl rfl rfl rfl (by rw[HB.out,za _ _ _ _ rfl];first | rfl | (simp;omega)) (HO2'.out.alloc _) (by omega) (by simp;omega) ?_;intro A4 c4 w4 hown4 hgr4;refine qaz ?_)
 refine⟨?_⟩
 have HR4:=qa ((((Rd.own HO1.out).below hb2n (qc _)).alloc s2n (.cells #[.int .u8 (wd:Int)] 5)).grown hgr4 (by simp;omega) (fun k hk=> .inr (qef HO2'.out k hk)))
 have k4:=(HB2n.out.alloc (ze s1 s2n) _).grown hgr4 (by simp;omega) (fun k hk=>ze s1 (qef HO2'.out k hk))
 have HB4:=qa k4
 obtain⟨A5,c5,w5,hrun5,hown5,hg5⟩:=j9 w4 w.heap.size _ (pl++[UInt8.ofNat wd]) pk (jq zs) (by rw[qv];exact HE.out) (j4 hown4 s1) HR4.out (by simp;omega) k4.size
 rw[show(pl++[UInt8.ofNat wd]).length=pl.length+1 from by simp] at hrun5 hown4 hg5
 have HO5:=qa hown5
 have HG5:=qa hg5
 have HO4:=qa hown4
 clear hown4 hgr4 hown5 hg5 k4 hb2' hb2n
 go_wp2_with (at_builtin;refine wpList_append_run rfl _ _ _ _ rfl rfl rfl hrun5 ?_)
 go_ret
 exact⟨A5,c5,rfl,HO5.out,HB4.out.grown HG5.out HB4.out.size (fun k hk=>ze s1 (qef HO4.out k hk))⟩
end Go.Proofs.YtnjkipnklpkaoaaGreat
