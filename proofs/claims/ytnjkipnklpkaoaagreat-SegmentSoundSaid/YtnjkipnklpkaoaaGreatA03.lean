/-
  Lemmas.
-/
import Derived.Test.YtnjkipnklpkaoaaGreatA02
namespace Go.Proofs.YtnjkipnklpkaoaaGreat
open Go.RowKit
set_option maxRecDepth 20000
set_option maxHeartbeats 16000000
set_option linter.unusedSimpArgs false
set_option linter.unusedVariables false
theorem gmark_any{w:World}(t:List Nat)(b:Nat)(hb0:0<b)(hb:b≤70000)(hlt:∀g∈t,g<16777216){lo hi c:Nat}{A:Option Addr}(h:Rd w lo hi A c (iv (zu t)))(hhi:hi≤w.heap.size) :
  Calls Tryz.prog 113 #[.slice A t.length c,.int .i64 (b:Int)] w fun r w'=>r= .returned (.slice (some ⟨w.heap.size,0,none⟩) b b)∧
   w'.ownsRow w.heap.size 4 1 (.slice (some ⟨w.heap.size,0,none⟩) b b) b (lv (qdx b t))∧Below w.heap.size w w':=by
 have hl:=h.len
 have hm:=h.cap
 rw[ji,zj] at hl
 unfold maxLen at hm
 have HLT:Hid (∀k (hk:k<t.length),t[k]<16777216):=fun k hk=>hlt _ (qj hk)
 obtain⟨w1,hmake,hown,hg1⟩:=qf3 w b (by omega)
 have HO1:Hid (w1.ownsRow w.heap.size 4 1 (.slice (some ⟨w.heap.size,0,none⟩) b b) b (lv (qdx b []))):=by
  unfold Hid
  simpa[qdx,lv] using hown
 have HB1:Hid (Below w.heap.size w w1):=(Below.refl _ w).grown hg1 (qc _) (by simp)
 have H:=qa h
 clear h hlt hown hg1
 go_enter Tryz.func113,Tryz.ntmps113
 go_wp2_with fail
 go_loopw [12] (fun x12 wr=>∃k:Nat,k≤t.length∧x12= .int .i64 (k:Int)∧wr.ownsRow w.heap.size 4 1 (.slice (some ⟨w.heap.size,0,none⟩) b b) b (lv (qdx b (t.take k)))∧Below w.heap.size w wr) (fun x12 _=>t.length-(intOf x12).toNat)
 case atStart=>exact⟨0,qi _,rfl,HO1.out,HB1.out⟩
 case round =>
  clear HO1 hmake
  obtain⟨k,hk,rfl,hown,hbe⟩:=hrel
  obtain⟨wz,hwz⟩:∃wz,wz=wr:=⟨_,rfl⟩
  subst hwz
  have HO:=qa hown
  have HB:=qa hbe
  clear hown hbe
  by_cases hlt:k<t.length
  ·
   have ik:(k:Int)<(t.length:Int):=by omega
   obtain⟨bb,off,rfl,_,hbb,hcell0⟩:=H.out.nat hlt
   have hcell:wz.cell? ⟨bb,off+k,none⟩=some (.int .i64 ((t[k]:Nat):Int)):=(HB.out.cell (by show bb<_;omega)).trans hcell0
   have hgl:=HLT.out k hlt
   obtain⟨q,hqe⟩:∃q,ql9 t[k] b=q:=⟨_,rfl⟩
   have hqb:q<b:=by rw[←hqe];exact qak _ hb0
   have HBT:=qa (gbit_any (w:=wz) t[k] b q hgl hb0 hb hqe)
   have HSN:Hid (qdx b (t.take (k+1))=(qdx b (t.take k)).set q true):=by
    unfold Hid
    rw[qg hlt,setB_snoc,hqe]
   have hsl:(lv (qdx b (t.take k))).length=b:=by rw[vk,qct]
   obtain⟨u0,hu0⟩:∃u0,(lv (qdx b (t.take k)))[q]? = some u0:=⟨_,qe (by omega)⟩
   have hrc:wz.cell? ⟨w.heap.size,q,none⟩=some u0:=by rw[HO.out.cellAt q (by omega),hu0]
   have hrf:=HO.out.frozenAt q
   have iqb:(q:Int)<(b:Int):=by omega
   clear hu0 hsl hqe hcell0
   generalize t[k]=g at *
   go_wp2_with fail
   refine HBT.out.mono ?_
   rintro r w' ⟨rfl,rfl⟩
   clear HBT
   go_wp2_with fail
   have hst:=HO.out.stored q (.bool true)
   have hst1:(wz.setCell ⟨w.heap.size,q,none⟩ (.bool true)).ownsRow w.heap.size 4 1 (.slice (some ⟨w.heap.size,0,none⟩) b b) b (lv (qdx b (t.take (k+1)))):=by
    rw[HSN.out,lv_set]
    exact hst.1
   have HS1:=qa hst1
   have HBB:Hid (Below w.heap.size w (wz.setCell ⟨w.heap.size,q,none⟩ (.bool true))):=HB.out.setCell (p:=⟨w.heap.size,q,none⟩) (qc _) _
   clear hst hst1
   go_roundw
   case rel=>exact⟨k+1,by omega,by go_num,HS1.out,HBB.out⟩
   case measure=>simp[intOf] <;> omega
  ·
   have ik:¬(k:Int)<(t.length:Int):=by omega
   have hkt:t.take k=t:=qo (by omega)
   rw[hkt] at HO
   clear hkt
   go_wp2_with fail
   go_ret
   exact⟨rfl,HO.out,HB.out⟩
def qgs(gs:List Nat)(k:Nat):Nat:=if k=0 then 0 else gs.getD (k-1) 0
theorem qnw(gs:List Nat)(k:Nat)(h:k<gs.length):qgs gs (k+1)=gs[k]:=by simp[qgs,List.getD,qe h]
theorem stepsG_get(gs:List Nat)(k:Nat)(h:k<gs.length):(iv (yp gs))[k]? = some (.int .i64 (((gs[k]:Nat):Int)-(qgs gs k:Int))):=by
 rw[iv_get _ k (by rw[ya];exact h)]
 congr 2
 match k,h with
 | 0,h=>rw[qlh gs h];simp[qgs]
 | k+1,h=>rw[qli gs k h,qnw gs k (by omega)]
theorem prevG_lt{gs:List Nat}(h:∀k (hk:k<gs.length),gs[k]<16777216)(k:Nat)(hk:k≤gs.length):qgs gs k<16777216:=by
 match k,hk with
 | 0,_=>simp[qgs]
 | k+1,hk=>rw[qnw gs k (by omega)];exact h k (by omega)
theorem gsteps_any{w:World}(gs:List Nat)(hlen:gs.length≤100000000)(hlt:∀g∈gs,g<16777216){lo hi c:Nat}{A:Option Addr}(h:Rd w lo hi A c (iv (zu gs)))(hhi:hi≤w.heap.size) :
  Calls Tryz.prog 118 #[.slice A gs.length c] w fun r w'=>r= .returned (.slice (some ⟨w.heap.size,0,none⟩) gs.length gs.length)∧
   w'.ownsRow w.heap.size 3 1 (.slice (some ⟨w.heap.size,0,none⟩) gs.length gs.length) gs.length (iv (yp gs))∧Below w.heap.size w w':=by
 have hl:=h.len
 have hm:=h.cap
 rw[ji,zj] at hl
 unfold maxLen at hm
 have HLT:Hid (∀k (hk:k<gs.length),gs[k]<16777216):=fun k hk=>hlt _ (qj hk)
 have HSL:Hid ((iv (yp gs)).length=gs.length):=by unfold Hid;rw[ji,ya]
 obtain⟨w1,hmake,hown,hg1⟩:=qjs w gs.length (by omega)
 have HO1:=qa hown
 have HB1:Hid (Below w.heap.size w w1):=(Below.refl _ w).grown hg1 (qc _) (by simp)
 have H:=qa h
 clear h hlt hown hg1
 go_enter Tryz.func118,Tryz.ntmps118
 go_wp2_with fail
 go_loopw [4,12] (fun x4 x12 wr=>∃(k:Nat) (xs:List Value),k≤gs.length∧x12= .int .i64 (k:Int)∧x4= .int .i64 (qgs gs k:Int)∧wr.ownsRow w.heap.size 3 1 (.slice (some ⟨w.heap.size,0,none⟩) gs.length gs.length) gs.length xs∧qk0 (iv (yp gs)) k xs∧Below w.heap.size w wr) (fun _ x12 _=>gs.length-(intOf x12).toNat)
 case atStart=>exact⟨0,_,qi _,rfl,rfl,HO1.out,qd9 (by rw[List.length_replicate];exact HSL.out.symm),HB1.out⟩
 case round =>
  clear HO1 hmake
  obtain⟨k,xs,hk,rfl,rfl,hown,hfi,hbe⟩:=hrel
  obtain⟨wz,hwz⟩:∃wz,wz=wr:=⟨_,rfl⟩
  subst hwz
  have HO:=qa hown
  have HF:=qa hfi
  have HB:=qa hbe
  clear hown hfi hbe
  by_cases hlt:k<gs.length
  ·
   have ik:(k:Int)<(gs.length:Int):=by omega
   obtain⟨bb,off,rfl,_,hbb,hcell0⟩:=H.out.nat hlt
   have hcell:wz.cell? ⟨bb,off+k,none⟩=some (.int .i64 ((gs[k]:Nat):Int)):=(HB.out.cell (by show bb<_;omega)).trans hcell0
   have hgl:=HLT.out k hlt
   have hpl:=prevG_lt HLT.out k hk
   have HPS:=qa (qnw gs k hlt)
   have HST:=qa (stepsG_get gs k hlt)
   obtain⟨p,hp⟩:∃p,qgs gs k=p:=⟨_,rfl⟩
   have hsl:xs.length=gs.length:=HF.out.1.trans HSL.out
   obtain⟨u0,hu0⟩:∃u0,xs[k]? = some u0:=⟨_,qe (by omega)⟩
   have hrc:wz.cell? ⟨w.heap.size,k,none⟩=some u0:=by rw[HO.out.cellAt k (by omega),hu0]
   have hrf:=HO.out.frozenAt k
   rw[hp] at hpl HST ⊢
   clear hu0 hsl hcell0 hp
   generalize gs[k]=g at *
   go_wp2_with fail
   have hst:=HO.out.stored k (.int .i64 ((g:Int)-(p:Int)))
   have HS1:=qa hst.1
   have HF1:=qa (qay HF.out _ HST.out)
   have HBB:Hid (Below w.heap.size w (wz.setCell ⟨w.heap.size,k,none⟩ (.int .i64 ((g:Int)-(p:Int))))):=HB.out.setCell (p:=⟨w.heap.size,k,none⟩) (qc _) _
   clear hst
   go_roundw
   case rel=>exact⟨k+1,_,by omega,by go_num,by rw[HPS.out],HS1.out,HF1.out,HBB.out⟩
   case measure=>simp[intOf] <;> omega
  ·
   have ik:¬(k:Int)<(gs.length:Int):=by omega
   obtain rfl:k=gs.length:=by omega
   have hall:=qe1 HF.out (by rw[HSL.out];exact qc _)
   have hoL:=HO.out
   rw[hall] at hoL
   have HOL:=qa hoL
   clear hall hoL
   go_wp2_with fail
   go_ret
   exact⟨rfl,HOL.out,HB.out⟩
theorem mod_shift(Y n r w:Nat)(h:r+w≤n):Y%2 ^ n/2 ^ r%2 ^ w=Y/2 ^ r%2 ^ w:=by
 obtain⟨d,rfl⟩:∃d,n=r+(w+d):=⟨n-r-w,by omega⟩
 rw[vq,Nat.mod_mul_right_div_self,vq,Nat.mod_mul_right_mod]
theorem get_word(bs:List UInt8)(p f M wd:Nat)(hf:p/8=f)(hM:min 5 (bs.length-f)=M)(hw:wd≤32) :
  qbg bs/256 ^ f%256 ^ M/2 ^ (p%8)%2 ^ wd=qbg bs/2 ^ p%2 ^ wd:=by
 have e:qbg bs/2 ^ p=qbg bs/256 ^ f/2 ^ (p%8):=by
  rw[qii,ul,←vq]
  congr 2
  omega
 rw[e]
 by_cases h5:M=5
 ·
  subst h5
  rw[show(256:Nat) ^ 5=2 ^ 40 from by decide]
  exact mod_shift _ 40 _ _ (by omega)
 ·
  have hlt:qbg bs/256 ^ f<256 ^ M:=by
   by_cases hfl:f≤bs.length
   ·
    apply Nat.div_lt_of_lt_mul
    rw[←vq,show f+M=bs.length from by omega]
    exact bval_lt bs
   ·
    have h0:qbg bs/256 ^ f=0:=by rw[qii];exact bval_over bs _ (by omega)
    rw[h0]
    exact Nat.pow_pos (by omega)
  rw[vd hlt]
theorem get_next(bs:List UInt8)(f j:Nat)(h:f+j<bs.length):qbg bs/256 ^ f%256 ^ (j+1)=qbg bs/256 ^ f%256 ^ j+2 ^ (8*j)*bs[f+j].toNat:=by
 rw[kt,Nat.mod_mul,←bval_at bs (f+j) h,qii j,vq,←ul,qii j]
theorem or_byte(W x j:Nat)(hW:W<2 ^ (8*j))(hx:x<256)(hj:j<5) :
  bits .or .u64 (W:Int) (IntKind.u64.wrap ((x:Int)*2 ^ (8*j)))=((W+2 ^ (8*j)*x:Nat):Int)∧W+2 ^ (8*j)*x<1099511627776:=by
 have hp:2 ^ (8*j)≤2 ^ 32:=yb (by omega) (by omega)
 have hb:2 ^ (8*j)*x≤2 ^ 32*255:=vz hp (by omega)
 have e2:(2:Int) ^ (8*j)=((2 ^ (8*j):Nat):Int):=by norm_cast
 have e3:IntKind.u64.wrap ((2 ^ (8*j)*x:Nat):Int)=((2 ^ (8*j)*x:Nat):Int):=by rw[IntKind.wrap_u64];omega
 refine⟨?_,by omega⟩
 rw[e2,Int.mul_comm,←qar,e3,u64_or_nat _ _ (by omega) (by omega)]
 congr 1
 rw[Nat.or_comm,xo,←qbl,←qa0 hW,Nat.add_comm]
theorem mask_at(W r wd:Nat)(hW:W<1099511627776)(hw:wd≤32) :
  wrap64 (bits .and .u64 ((W:Int)/2 ^ r) (IntKind.u64.wrap (IntKind.u64.wrap ((2:Int) ^ wd)-1)))=((W/2 ^ r%2 ^ wd:Nat):Int):=by
 have hp:2 ^ wd≤2 ^ 32:=yb (by omega) hw
 have hp0:0<2 ^ wd:=qej wd
 have e1:(2:Int) ^ wd=((2 ^ wd:Nat):Int):=by norm_cast
 have e2:IntKind.u64.wrap ((2 ^ wd:Nat):Int)=((2 ^ wd:Nat):Int):=by rw[IntKind.wrap_u64];omega
 have e3:IntKind.u64.wrap (((2 ^ wd:Nat):Int)-1)=((2 ^ wd-1:Nat):Int):=by rw[IntKind.wrap_u64];omega
 have e4:(W:Int)/2 ^ r=((W/2 ^ r:Nat):Int):=by push_cast;rfl
 have hq:W/2 ^ r≤W:=Nat.div_le_self _ _
 have hm:=qak (W/2 ^ r) hp0
 rw[e1,e2,e3,e4,u64_and_nat _ _ (by omega) (by omega),Nat.and_two_pow_sub_one_eq_mod]
 exact ky _ (by omega)
def GetAt(bs:List UInt8)(f j W:Nat):Prop:=W=qbg bs/256 ^ f%256 ^ j
theorem getAt_lt{bs:List UInt8}{f j W:Nat}(h:GetAt bs f j W):W<2 ^ (8*j):=by
 rw[h,←qii];exact qak _ (Nat.pow_pos (by omega))
theorem pget_any{w:World}(bs:List UInt8)(wd i:Nat)(hw:wd≤32)(hi:i≤1000000000000)(hb:bs.length≤1000000000000){lo h':Nat}{A:Option Addr}{c:Nat}(h:Rd w lo h' A c (bv bs)) :
  Calls Tryz.prog 168 #[.slice A bs.length c,.int .i64 (wd:Int),.int .i64 (i:Int)] w fun r w'=>r= .returned (.int .i64 (qje bs wd i:Int))∧∃n,w.drewN n=w':=by
 have hl:=h.len
 have hc:=h.cap
 rw[yh] at hl
 unfold maxLen at hc
 have H:=qa h
 clear h
 have HR:Hid (qlq (wd:Int)=true):=qp (by omega)
 by_cases h0:wd=0
 ·
  have HE:Hid (qje bs wd i=0):=by unfold Hid qje;rw[h0,Nat.pow_zero,Nat.mod_one]
  have hb0:((wd:Int)==0)=true:=by rw[beq_iff_eq];omega
  clear h0
  go_enter Tryz.func168,Tryz.ntmps168
  go_wp2_with fail
  refine(qif _ true HR.out).mono ?_
  rintro r w' ⟨rfl,rfl⟩
  go_wp2
  go_ret
  exact⟨kf (by rw[HE.out];rfl),0,rfl⟩
 ·
  have hb0:((wd:Int)==0)=false:=by rw[qr];omega
  have hwp:1≤(wd:Int):=by omega
  have hq:Hid (((bs.length:Int)*8/(wd:Int))=((bs.length*8/wd:Nat):Int)):=by unfold Hid;push_cast;rfl
  by_cases hov:bs.length*8/wd<i
  ·
   have hov':(bs.length:Int)*8/(wd:Int)<(i:Int):=by rw[hq.out];omega
   have HE:Hid (qje bs wd i=0):=by
    unfold Hid qje
    rw[bval_over bs _ ?_,Nat.zero_mod]
    have:=(Nat.div_lt_iff_lt_mul (show 0<wd by omega)).1 hov
    rw[xo wd]
    omega
   clear hov h0
   go_enter Tryz.func168,Tryz.ntmps168
   go_wp2_with fail
   refine(qif _ true HR.out).mono ?_
   rintro r w' ⟨rfl,rfl⟩
   go_wp2
   go_ret
   exact⟨kf (by rw[HE.out];rfl),0,rfl⟩
  ·
   have hov':(i:Int)≤(bs.length:Int)*8/(wd:Int):=by rw[hq.out];omega
   have hp8:i*wd≤bs.length*8:=(Nat.le_div_iff_mul_le (show 0<wd by omega)).1 (by omega)
   have hp:(i:Int)*(wd:Int)=((i*wd:Nat):Int):=(qar i wd).symm
   have hpe:Hid (wd*i=i*wd):=xo _ _
   generalize i*wd=p at *
   have hf:(p:Int)/8=((p/8:Nat):Int):=by omega
   have hfb:p/8≤bs.length:=by omega
   generalize hfq:p/8=f at *
   have HF:=qa hfq
   clear hfq h0 hov
   have hM:min (5:Int) ((bs.length:Int)-(f:Int))=((min 5 (bs.length-f):Nat):Int):=by omega
   generalize hMe:min 5 (bs.length-f)=M at *
   have hM5:M≤5:=by omega
   have hMl:f+M≤bs.length:=by omega
   have HM:=qa hMe
   clear hMe
   go_enter Tryz.func168,Tryz.ntmps168
   go_wp2_with fail
   refine(qif _ true HR.out).mono ?_
   rintro r w' ⟨rfl,rfl⟩
   go_wp2_with fail
   go_loop [8,39] (fun x i=>∃j W:Nat,j≤M∧i= .int .i64 (j:Int)∧x= .int .u64 (W:Int)∧GetAt bs f j W) (fun _ i=>M-(intOf i).toNat)
   case atStart=>exact⟨0,0,qi _,rfl,rfl,by unfold GetAt;rw[Nat.pow_zero,Nat.mod_one]⟩
   case round =>
    obtain⟨j,W,hj,rfl,rfl,hat⟩:=hrel
    by_cases hlt:j<M
    ·
     obtain⟨b,off,rfl,_,_,hcell⟩:=H.out.byte (k:=f+j) (by omega)
     have hnext:=get_next bs f j (by omega)
     rw[←hat] at hnext
     have hW:=getAt_lt hat
     generalize bs[f+j]=x8 at *
     have hx:=zp x8
     generalize x8.toNat=x at *
     obtain⟨hor,hT⟩:=or_byte W x j hW hx (by omega)
     have HX:Hid (GetAt bs f (j+1) (W+2 ^ (8*j)*x)):=hnext.symm
     clear hnext hat hW
     generalize W+2 ^ (8*j)*x=T at *
     go_wp2
     go_round
     case rel=>exact⟨j+1,T,by omega,by go_num,rfl,HX.out⟩
     case measure=>simp[intOf];omega
    ·
     obtain rfl:j=M:=by omega
     have hW:=getAt_lt hat
     have hW40:W<1099511627776:=ja hW (yb (by omega) (show 8*j≤40 by omega))
     have HE:Hid (wrap64 (bits .and .u64 ((W:Int)/2 ^ (p%8)) (IntKind.u64.wrap (IntKind.u64.wrap ((2:Int) ^ wd)-1)))=(qje bs wd i:Int)):=by
      unfold Hid qje
      rw[mask_at W (p%8) wd hW40 hw]
      rw[hpe.out,←get_word bs p f j wd HF.out HM.out hw,←hat]
     clear hat hW
     go_wp2_with fail
     go_quiet (fail)
     go_wp2
     go_ret
     exact⟨kf HE.out,_,rfl⟩
theorem vw.setErr{w:World}{lo g k:Nat}{bs:List UInt8}{e:Int}(h:vw w lo g bs k e)(x:Int):vw (w.setCell ⟨g,2,none⟩ (.int .i64 x)) lo g bs k x:=by
 obtain⟨A,c,hb,hrd,hk,hl⟩:=h
 exact⟨A,c,by simpa using hb.put 2 (.int .i64 x),hrd.setCell (p:=⟨g,2,none⟩) (.inr (qc _)) _,hk,hl⟩
theorem vw.setPlace{w:World}{lo g k:Nat}{bs:List UInt8}{e:Int}(h:vw w lo g bs k e)(x:Nat)(hx:x≤bs.length):vw (w.setCell ⟨g,1,none⟩ (.int .i64 (x:Int))) lo g bs x e:=by
 obtain⟨A,c,hb,hrd,hk,hl⟩:=h
 exact⟨A,c,by simpa using hb.put 1 (.int .i64 (x:Int)),hrd.setCell (p:=⟨g,1,none⟩) (.inr (qc _)) _,hx,hl⟩
theorem qjz{w:World}{lo g k:Nat}{bs:List UInt8}(x:Int)(h:vw w lo g bs k 0) :
  Calls Tryz.prog 87 #[cp g,.int .i64 x] w fun r w'=>r= .returned (.tuple #[])∧w.setCell ⟨g,2,none⟩ (.int .i64 x)=w':=by
 have hg:=xu h
 obtain⟨A,c,hb, -, -, -⟩:=h
 have h2:=hb.cell 2
 have hf:=hb.frozen 2
 simp at h2
 clear hb
 unfold cp at hg ⊢
 go_enter Tryz.func87,Tryz.ntmps87
 go_wp2_with fail
 refine hg.mono ?_
 rintro e w' ⟨rfl,rfl⟩
 go_wp2_with fail
 go_end0
 exact⟨rfl,rfl⟩
theorem fail_bad{w:World}{lo g k:Nat}{bs:List UInt8}{e:Int}(x:Int)(h:vw w lo g bs k e)(he:e≠0) :
  Calls Tryz.prog 87 #[cp g,.int .i64 x] w fun r w'=>r= .returned (.tuple #[])∧w=w':=by
 have hg:=xu h
 have h0:(e==0)=false:=by simpa using he
 rw[h0] at hg
 clear h h0 he
 unfold cp at hg ⊢
 go_enter Tryz.func87,Tryz.ntmps87
 go_wp2_with fail
 refine hg.mono ?_
 rintro e w' ⟨rfl,rfl⟩
 go_wp2_with fail
 go_end0
 exact⟨rfl,rfl⟩
def jy(bs:List UInt8)(k:Nat)(e:Int)(skip:Nat)(n:Int):List UInt8×Nat×Int :=
 if e≠0 then ([],k,e) else if n<0 then ([],k,3) else if (bs.length:Int)-k-skip<n then ([],k,2) else ((bs.drop (k+skip)).take n.toNat,k+skip+n.toNat,0)
theorem take_bad{w:World}{lo g k:Nat}{bs:List UInt8}{e:Int}(skip:Nat)(n:Int)(h:vw w lo g bs k e)(he:e≠0)(hs:skip≤bs.length)(h63:bs.length≤maxLen) :
  Calls Tryz.prog 82 #[cp g,.int .i64 (skip:Int),.int .i64 n] w fun r w'=>r= .returned (.slice none 0 0)∧∃m,w.drewN m=w':=by
 have h0:(e==0)=false:=by simpa using he
 unfold maxLen at h63
 have hk:(bs.length-k:Nat)≤bs.length:=by omega
 have H:=qa h
 have HE:=qa he
 clear h he
 unfold cp
 go_enter Tryz.func82,Tryz.ntmps82
 go_wp2_with (first
  | (go_at_call 87;refine(fail_bad _ (by first | exact H.out | exact H.out.drewN _) HE.out).mono ?_;rintro e w' ⟨rfl,rfl⟩)
  | (go_at_call 93;refine(qey (by first | exact H.out | exact H.out.drewN _)).mono ?_;rintro e w' ⟨rfl,⟨m,rfl⟩⟩)
  | (go_at_call 85;refine(xu (by first | exact H.out | exact H.out.drewN _)).mono ?_;rintro e w' ⟨rfl,rfl⟩))
 all_goals go_ret
 all_goals exact⟨rfl,_,rfl⟩
theorem take_neg{w:World}{lo g k:Nat}{bs:List UInt8}(skip:Nat)(n:Int)(h:vw w lo g bs k 0)(hn:n<0)(hs:k+skip≤bs.length)(h63:bs.length≤maxLen) :
  Calls Tryz.prog 82 #[cp g,.int .i64 (skip:Int),.int .i64 n] w fun r w'=>r= .returned (.slice none 0 0)∧∃m,(w.setCell ⟨g,2,none⟩ (.int .i64 3)).drewN m=w':=by
 unfold maxLen at h63
 have hk:skip≤(bs.length-k:Nat):=by omega
 have hk':(bs.length-k:Nat)≤bs.length:=by omega
 have H:=qa h
 have H':=qa (h.setErr 3)
 clear h
 unfold cp
 go_enter Tryz.func82,Tryz.ntmps82
 go_wp2_with (first
  | (go_at_call 87;refine(qjz _ H.out).mono ?_;rintro e w' ⟨rfl,rfl⟩)
  | (go_at_call 93;refine(qey (by first | exact H'.out | exact H'.out.drewN _)).mono ?_;rintro e w' ⟨rfl,⟨m,rfl⟩⟩)
  | (go_at_call 85;refine(xu (by first | exact H'.out | exact H'.out.drewN _)).mono ?_;rintro e w' ⟨rfl,rfl⟩))
 all_goals go_ret
 all_goals exact⟨rfl,_,rfl⟩
theorem take_over{w:World}{lo g k:Nat}{bs:List UInt8}(skip:Nat)(n:Int)(h:vw w lo g bs k 0)(hn:0≤n)(hov:((bs.length-k:Nat):Int)-skip<n)(hs:k+skip≤bs.length)(h63:bs.length≤maxLen) :
  Calls Tryz.prog 82 #[cp g,.int .i64 (skip:Int),.int .i64 n] w fun r w'=>r= .returned (.slice none 0 0)∧∃m,(w.setCell ⟨g,2,none⟩ (.int .i64 2)).drewN m=w':=by
 unfold maxLen at h63
 have hk:skip≤(bs.length-k:Nat):=by omega
 have hk':(bs.length-k:Nat)≤bs.length:=by omega
 have H:=qa h
 have H':=qa (h.setErr 2)
 clear h
 unfold cp
 go_enter Tryz.func82,Tryz.ntmps82
 go_wp2_with (first
  | (go_at_call 87;refine(qjz _ (H.out.drewN _)).mono ?_;rintro e w' ⟨rfl,rfl⟩)
  | (go_at_call 93;refine(qey H.out).mono ?_;rintro e w' ⟨rfl,⟨m,rfl⟩⟩)
  | (go_at_call 85;refine(xu (by first | exact H'.out | exact H'.out.drewN _)).mono ?_;rintro e w' ⟨rfl,rfl⟩))
 all_goals go_ret
 all_goals exact⟨rfl,_,rfl⟩
theorem take_ok{w:World}{lo g k:Nat}{bs:List UInt8}{A:Option Addr}{c:Nat}(skip n:Nat)(hb:j6 w g 131 #[.slice A bs.length c,.int .i64 (k:Int),.int .i64 0])(hrd:Rd w lo g A c (bv bs))(hs:k+skip+n≤bs.length)(hl:lo≤g) :
  Calls Tryz.prog 82 #[cp g,.int .i64 (skip:Int),.int .i64 (n:Int)] w fun r w'=>r= .returned (.slice (if c=k+skip then A else A.map (·.add (k+skip))) n (c-(k+skip)))∧∃m m',((w.drewN m).setCell ⟨g,1,none⟩ (.int .i64 ((k:Int)+skip+n))).drewN m'=w':=by
 have h63:=hrd.cap
 have hlc:=hrd.len
 rw[yh] at hlc
 unfold maxLen at h63
 have h:vw w lo g bs k 0:=⟨A,c,hb,hrd,by omega,hl⟩
 have hk:skip+n≤(bs.length-k:Nat):=by omega
 have hk':(bs.length-k:Nat)≤bs.length:=by omega
 have H:=qa h
 have h0:=hb.cell 0
 have h1:=hb.cell 1
 have hf:=hb.frozen 1
 simp at h0 h1
 have hn0:¬((n:Int)<0):=by omega
 have hle:(n:Int)≤((bs.length-k:Nat):Int)-(skip:Int):=by omega
 clear h hb hrd
 unfold cp
 go_enter Tryz.func82,Tryz.ntmps82
 go_wp2_with (first
  | (go_at_call 93;refine(qey H.out).mono ?_;rintro e w' ⟨rfl,⟨m,rfl⟩⟩)
  | (go_at_call 85;refine(xu (by first | exact H.out | exact H.out.drewN _)).mono ?_;rintro e w' ⟨rfl,rfl⟩))
 go_quiet (fail)
 all_goals go_wp2
 all_goals go_ret
 all_goals refine⟨?_,_,_,rfl⟩
 all_goals (rename_i hcc;simp[hcc])
theorem qom{w:World}{lo g k:Nat}{bs:List UInt8}{e:Int}(skip:Nat)(n:Int)(h:vw w lo g bs k e)(hs:k+skip≤bs.length) :
  Calls Tryz.prog 82 #[cp g,.int .i64 (skip:Int),.int .i64 n] w fun r w'=>∃A c,r= .returned (.slice A (jy bs k e skip n).1.length c)∧
   Rd w' lo g A c (bv (jy bs k e skip n).1)∧vw w' lo g bs (jy bs k e skip n).2.1 (jy bs k e skip n).2.2∧w.grownBy w' (some g):=by
 have h63:bs.length≤maxLen:=by
  obtain⟨A,c,_,hrd,_⟩:=h
  have h1:=hrd.len
  have h2:=hrd.cap
  rw[yh] at h1
  omega
 by_cases he:e=0
 ·
  subst he
  by_cases hn:n<0
  ·
   rw[show jy bs k 0 skip n=([],k,3) from by simp[jy,hn]]
   refine(take_neg skip n h hn hs h63).mono ?_
   rintro r w' ⟨rfl,m,rfl⟩
   exact⟨_,_,rfl,Rd.nil _ _ _,(h.setErr 3).drewN m,qb5 (xv (vc w _) (.inl rfl) _) m⟩
  ·
   by_cases hov:(bs.length:Int)-k-skip<n
   ·
    rw[show jy bs k 0 skip n=([],k,2) from by simp[jy,hn,hov]]
    refine(take_over skip n h (by omega) (by have:k≤bs.length:=(by omega);rw[Int.ofNat_sub this];exact hov) hs h63).mono ?_
    rintro r w' ⟨rfl,m,rfl⟩
    exact⟨_,_,rfl,Rd.nil _ _ _,(h.setErr 2).drewN m,qb5 (xv (vc w _) (.inl rfl) _) m⟩
   ·
    obtain⟨j,rfl⟩:=Int.eq_ofNat_of_zero_le (show 0≤n by omega)
    have hj:k+skip+j≤bs.length:=by omega
    rw[show jy bs k 0 skip (j:Int)=((bs.drop (k+skip)).take j,k+skip+j,0) from by simp[jy,hov]]
    obtain⟨A,c,hb,hrd,hk,hl⟩:=h
    refine(take_ok skip j hb hrd hj hl).mono ?_
    rintro r w' ⟨rfl,m,m',rfl⟩
    have hcur:vw w lo g bs k 0:=⟨A,c,hb,hrd,hk,hl⟩
    have hcut:=(hrd.drewN m).setCell (p:=⟨g,1,none⟩) (.inr (qc _)) (.int .i64 ((k:Int)+skip+j))
    have hcut2:=(hcut.cut (k:=k+skip) (n:=k+skip+j) (by omega) (by rw[yh];exact hj)).drewN m'
    rw[show k+skip+j-(k+skip)=j from by omega,←qpq,←bv_take] at hcut2
    have hlen:((bs.drop (k+skip)).take j).length=j:=by simp;omega
    refine⟨_,_,by rw[hlen],hcut2,?_,qb5 (xv (qb5 (vc w _) m) (.inl rfl) _) m'⟩
    have:=((hcur.drewN m).setPlace (k+skip+j) hj).drewN m'
    simpa using this
 ·
  rw[show jy bs k e skip n=([],k,e) from by simp[jy,he]]
  refine(take_bad skip n h he (by omega) h63).mono ?_
  rintro r w' ⟨rfl,m,rfl⟩
  exact⟨_,_,rfl,Rd.nil _ _ _,h.drewN m,qb5 (vc w _) m⟩
theorem vw.open_{w:World}{lo g k:Nat}{bs:List UInt8}{e:Int}(h:vw w lo g bs k e):∃A c,w.cell? ⟨g,0,none⟩=some (.slice A bs.length c)∧w.cell? ⟨g,1,none⟩=some (.int .i64 (k:Int))∧w.cell? ⟨g,2,none⟩=some (.int .i64 e)∧Rd w lo g A c (bv bs)∧k≤bs.length∧bs.length≤c∧c≤9223372036854775807:=by
 obtain⟨A,c,hb,hrd,hk, -⟩:=h
 have h0:=hb.cell 0
 have h1:=hb.cell 1
 have h2:=hb.cell 2
 have h3:=hrd.len
 have h4:=hrd.cap
 rw[yh] at h3
 exact⟨A,c,h0,h1,h2,hrd,hk,h3,by simpa[maxLen] using h4⟩
theorem vw.le{w:World}{lo g k:Nat}{bs:List UInt8}{e:Int}(h:vw w lo g bs k e):k≤bs.length:=by obtain⟨_,_,_,_,hk,_⟩:=h;exact hk
theorem qde(bs:List UInt8)(k:Nat)(e:Int)(skip:Nat)(n:Int)(he:e≠0):jy bs k e skip n=([],k,e):=by simp[jy,he]
theorem takeR_one(bs:List UInt8)(k:Nat)(e:Int):(jy bs k e 0 1).1.length≤1:=by
 unfold jy
 repeat' split
 all_goals simp
 all_goals omega
theorem qgf{w:World}{lo g k:Nat}{bs:List UInt8}{e:Int}(n:Int)(h:vw w lo g bs k e)(hb:bs.length≤140737488355328) :
  Calls Tryz.prog 131 #[cp g,.int .i64 n] w fun r w'=>∃A c,r= .returned (.slice A (jy bs k e 0 n).1.length c)∧w'.ownsRow w.heap.size 5 1 (.slice A (jy bs k e 0 n).1.length c) (jy bs k e 0 n).1.length (bv (jy bs k e 0 n).1)∧
   vw w' lo g bs (jy bs k e 0 n).2.1 (jy bs k e 0 n).2.2∧w.grownBy w' (some g):=by
 have hk:=h.le
 have hgl:=h.lt
 have HT:=qa (qom 0 n h (by omega))
 have hl:(jy bs k e 0 n).1.length≤bs.length:=by
  unfold jy
  repeat' split
  all_goals simp
  all_goals omega
 clear h
 generalize jy bs k e 0 n=T at *
 go_enter Tryz.func131,Tryz.ntmps131
 go_wp2_with fail
 refine HT.out.mono ?_
 rintro r w1 ⟨A,c,rfl,hrd,hc1,hg1⟩
 have HC:=qa hc1
 have HR:=qa hrd
 have HG:=qa hg1
 have hs:=hg1.size
 clear hc1 hrd hg1
 go_wp2_with fail
 refine(clone_any _ _ HR.out (by omega)).mono ?_
 rintro r w2 ⟨A',c',rfl,hown,hbel⟩
 have HO:=qa hown
 clear hown
 go_wp2_with fail
 go_ret
 have hg2:w1.grownBy w2 none:=qjh (qc _) hbel
 refine⟨_,_,rfl,?_,HC.out.grown hg2 (by simp),HG.out.trans (qg6 hg2)⟩
 obtain⟨hlen,hrest⟩:=HO.out
 refine⟨hlen,?_⟩
 rcases hrest with h0 | ⟨g',cap,cur,hv,hb',hr⟩
 ·
  exact .inl h0
 ·
  exact .inr ⟨g',cap,cur,hv,by omega,hr⟩
theorem qpp{w:World}{lo g k:Nat}{bs:List UInt8}{e:Int}(h:vw w lo g bs k e) :
  Calls Tryz.prog 86 #[cp g] w fun r w'=>r= .returned (.int .i64 (((jy bs k e 0 1).1.headD 0).toNat:Int))∧
   vw w' lo g bs (jy bs k e 0 1).2.1 (jy bs k e 0 1).2.2∧w.grownBy w' (some g):=by
 have hk:=h.le
 have HT:=qa (qom 0 1 h (by omega))
 have h1:=takeR_one bs k e
 clear h
 generalize jy bs k e 0 1=T at *
 obtain⟨l,k',e'⟩:=T
 simp only[] at *
 rcases l with _ | ⟨x,r⟩
 ·
  go_enter Tryz.func86,Tryz.ntmps86
  go_wp2_with fail
  refine HT.out.mono ?_
  rintro r w1 ⟨A,c,rfl,hrd,hc1,hg1⟩
  have HC:=qa hc1
  clear hc1 hrd
  go_wp2_with fail
  go_ret
  exact⟨rfl,HC.out,hg1⟩
 ·
  have hr:r=[]:=by simp at h1;exact h1
  subst hr
  have hx:x.toNat<256:=zp _
  go_enter Tryz.func86,Tryz.ntmps86
  go_wp2_with fail
  refine HT.out.mono ?_
  rintro r w1 ⟨A,c,rfl,hrd,hc1,hg1⟩
  have HC:=qa hc1
  obtain⟨b,off,rfl,_,_,hcell⟩:=hrd.get (k:=0) (by simp[bv])
  rw[xx] at hcell
  have hcell':w1.cell? ⟨b,off,none⟩=some (.int .u8 (x.toNat:Int)):=hcell
  have HG:=qa hg1
  clear hc1 hrd hcell h1 hg1
  go_wp2
  go_ret
  exact⟨rfl,HC.out,HG.out⟩
def val:List UInt8→Nat
 | []=>0
 | b :: r=>b.toNat%128+128*val r
theorem val_snoc(l:List UInt8)(b:UInt8):val (l++[b])=val l+128 ^ l.length*(b.toNat%128):=by
 induction l with
 | nil=>simp[val]
 | cons x r ih =>
  simp only[z6,val,ih,qt,kt]
  rw[qds,xo (128 ^ r.length) 128,←qdr,qa9]
theorem val_lt(l:List UInt8):val l<128 ^ l.length:=by
 induction l with
 | nil=>simp[val]
 | cons x r ih =>
  simp only[val,qt,kt]
  have:=qak x.toNat (show 0<128 by omega)
  omega
def qbj:List UInt8→Nat
 | []=>0
 | b :: r=>if 128≤b.toNat then qbj r+1 else 0
theorem lead_le(l:List UInt8):qbj l≤l.length:=by
 induction l with
 | nil=>simp[qbj]
 | cons b r ih=>simp only[qbj,qt];split <;> omega
theorem lead_at(l:List UInt8)(k:Nat)(hk:k≤qbj l)(hl:k<l.length):(128≤l[k].toNat→k+1≤qbj l)∧(l[k].toNat<128→qbj l=k):=by
 induction l generalizing k with
 | nil=>simp at hl
 | cons b r ih =>
  simp only[qbj] at hk ⊢
  rcases k with _ | k
  ·
   simp only[qdp]
   constructor
   ·
    intro h;rw[if_pos h];omega
   ·
    intro h;rw[if_neg (by omega)]
  ·
   simp only[List.getElem_cons_succ]
   by_cases hb:128≤b.toNat
   ·
    rw[if_pos hb] at hk ⊢
    have:=ih k (by omega) (by simpa using hl)
    constructor
    ·
     intro h;have:=this.1 h;omega
    ·
     intro h;have:=this.2 h;omega
   ·
    rw[if_neg hb] at hk;omega
def qb2(bs:List UInt8):Nat×Nat×Int :=
 if 9≤qbj bs then (0,0,if 9<bs.length then 3 else 2)
 else if bs.length≤qbj bs then (0,0,2)
 else if 0<qbj bs∧(bs[qbj bs]?.getD 0).toNat=0 then (0,0,3)
 else (val (bs.take (qbj bs+1)),qbj bs+1,0)
theorem vnum_here(bs:List UInt8)(k:Nat)(hk:k≤qbj bs)(hl:k<bs.length)(h9:k<9)(hx:bs[k].toNat<128) :
  qb2 bs=if 0<k∧bs[k].toNat=0 then (0,0,3) else (val (bs.take k)+128 ^ k*(bs[k].toNat%128),k+1,0):=by
 have e:=(lead_at bs k hk hl).2 hx
 unfold qb2
 rw[e,if_neg (by omega),if_neg (by omega),qe hl,xj]
 split
 ·
  rfl
 ·
  rw[qg hl,val_snoc,qy,yx (by omega)]
theorem vnum_over(bs:List UInt8)(h:min bs.length 9≤qbj bs):qb2 bs=(0,0,if 9<bs.length then 3 else 2):=by
 have:=lead_le bs
 unfold qb2
 by_cases h9:9≤qbj bs
 ·
  rw[if_pos h9]
 ·
  rw[if_neg h9,if_pos (by omega),if_neg (by omega)]
theorem and127(x:Nat):x &&& 127=x%128:=Nat.and_two_pow_sub_one_eq_mod x 7
theorem digit_in(V x k:Nat)(hV:V<128 ^ k)(hx:x<256)(hk:k<9) :
  bits .or .i64 (V:Int) (wrap64 (wrap64 (bits .andNot .u8 (x:Int) 128)*2 ^ (7*k)))=((V+128 ^ k*(x%128):Nat):Int):=by
 have e1:bits .andNot .u8 (x:Int) 128=((x%128:Nat):Int):=by
  have:=u8_andNot_nat x 128 hx (by omega)
  rw[←and127]
  exact this
 have hd:=qak x (show 0<128 by omega)
 have e2:(2:Int) ^ (7*k)=((128 ^ k:Nat):Int):=by
  rw[Int.pow_mul];norm_cast
 have hp:128 ^ k≤128 ^ 8:=yb (by omega) (by omega)
 have hb:x%128*128 ^ k<9223372036854775808:=by
  calc x%128*128 ^ k≤127*128 ^ 8:=vz (by omega) hp
   _<9223372036854775808:=by decide
 have e4:wrap64 ((x%128:Nat):Int)=((x%128:Nat):Int):=ky _ (by omega)
 have e5:wrap64 ((x%128*128 ^ k:Nat):Int)=((x%128*128 ^ k:Nat):Int):=ky _ (by omega)
 rw[e1,e2,e4,←qar,e5,or_i64 V _ (by omega) hb]
 congr 1
 have e3:128 ^ k=2 ^ (7*k):=by rw[Nat.pow_mul]
 rw[e3] at hV ⊢
 rw[Nat.or_comm,←qbl,←qa0 hV,qbl]
 rw[Nat.add_comm,xo]
theorem qnl{w:World}{lo h':Nat}{A:Option Addr}{c:Nat}(bs:List UInt8)(h:Rd w lo h' A c (bv bs)) :
  Calls Tryz.prog 129 #[.slice A bs.length c] w fun r w'=>r= .returned (.tuple #[.int .i64 ((qb2 bs).1:Int),.int .i64 ((qb2 bs).2.1:Int),.int .i64 (qb2 bs).2.2])∧w=w':=by
 have hl:=h.len
 have hc:=h.cap
 rw[yh] at hl
 unfold maxLen at hc
 have H:=qa h
 clear h
 by_cases h9:bs.length≤9
 all_goals
  go_enter Tryz.func129,Tryz.ntmps129
  go_wp2_with fail
  go_loop [2,13] (fun n i=>∃k:Nat,k≤min bs.length 9∧i= .int .i64 k∧k≤qbj bs∧n= .int .i64 (val (bs.take k))) (fun _ i=>bs.length-(intOf i).toNat)
  case atStart=>exact⟨0,by omega,rfl,by omega,by simp[val]⟩
  case round =>
   obtain⟨k,hk,rfl,hlead,rfl⟩:=hrel
   by_cases hlt:k<min bs.length 9
   ·
    obtain⟨b,off,rfl,_,_,hcell⟩:=H.out.get (k:=k) (by rw[yh];omega)
    have hv:=qks bs k (by omega)
    rw[qe (by rw[yh];omega)] at hv
    injection hv with hv
    rw[hv] at hcell
    clear hv
    have hlast:=qa (vnum_here bs k hlead (by omega) (by omega))
    have hnext:=qa ((lead_at bs k hlead (by omega)).1)
    have hV:=val_lt (bs.take k)
    have hx256:bs[k].toNat<256:=zp _
    rw[qy,yx (by omega)] at hV
    have HD:=qa (digit_in (val (bs.take k)) bs[k].toNat k hV hx256 (by omega))
    have hS:val (bs.take (k+1))=val (bs.take k)+128 ^ k*(bs[k].toNat%128):=by
     rw[qg (by omega),val_snoc,qy,yx (by omega)]
    have HS:=qa hS
    generalize bs[k].toNat=x at *
    generalize val (bs.take k)=V at *
    clear hV hS hlead
    go_wp2
    case roundEnd =>
     have hge:128≤x:=by omega
     exact⟨⟨k+1,by omega,by go_num,hnext.out hge,by rw[HS.out,HD.out]⟩,by simp[intOf];omega⟩
    all_goals
     go_ret3
     have hlt':x<128:=by omega
     rw[hlast.out hlt']
     first
     | (rw[if_pos (by omega)];exact⟨rfl,rfl⟩)
     | (rw[if_neg (by omega)];exact⟨by rw[←HD.out];rfl,rfl⟩)
     | (rw[if_neg (by omega)];have hx0:x=0:=(by omega);subst hx0;exact⟨(by rw[←HD.out];rfl),rfl⟩)
   ·
    have hv:=qa (vnum_over bs (by omega))
    go_wp2
    all_goals
     go_ret3
     rw[hv.out]
     first
     | (rw[if_pos (by omega)];exact⟨rfl,rfl⟩)
     | (rw[if_neg (by omega)];exact⟨rfl,rfl⟩)
end Go.Proofs.YtnjkipnklpkaoaaGreat
