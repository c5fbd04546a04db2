/-
  Lemmas.
-/
import Derived.Test.YtjfecojdagmacaaGreatD01
import Derived.Test.YtjfecojdagmacaaGreatD25
namespace Go.Proofs.YtjfecojdagmacaaGreat
open Go.RowKit
set_option maxRecDepth 20000
set_option maxHeartbeats 16000000
set_option linter.unusedSimpArgs false
set_option linter.unusedVariables false
theorem makeg_zero{w:World}(l:List ByteArray){c:Nat}{A:Option Addr}(h:Rd w 0 w.heap.size A c (sv l))(hsz:∀s∈l,s.size≤100000)(hlen:l.length≤1000) :
  Calls Tryz.prog 57 #[.slice A l.length c,.int .i64 0] w fun r w'=>∃(v:Value) (t:List Nat),r= .returned v∧Rise (qcc (qcu l)) t∧Flt w' w.heap.size w'.heap.size v 0 t []∧Below w.heap.size w w':=by
 obtain⟨w1,hw1⟩:∃w1,w.alloc (.cells #[.int .i64 0,.slice none 0 0,.slice none 0 0] 110)=w1:=⟨_,rfl⟩
 have B1:Hid (Below w.heap.size w w1):=by unfold Hid;rw[←hw1];exact(Below.refl _ w).alloc (qc _) _
 have hk:yy w1 w.heap.size 110 #[.int .i64 0,.slice none 0 0,.slice none 0 0]:=by rw[←hw1];exact yy.new w _ _
 have hs1:w1.heap.size=w.heap.size+1:=by rw[←hw1];simp
 have HAL:=qa (allg_any l ((h.below B1.out (qc _)).wide (qc _) B1.out.size) hsz hlen)
 have HK:=qa hk
 clear h hsz hk
 go_enter Tryz.func57,Tryz.ntmps57
 go_wp2_with fail
 refine HAL.out.mono ?_
 rintro r w2 ⟨t,A2,c2,rfl,hri,htl,hrd,b2⟩
 have hk2:=HK.out.below b2 (by omega)
 have HK2:=qa hk2
 have q0:=hk2.cell 0
 have q1:=hk2.cell 1
 have q2:=hk2.cell 2
 have f0:=hk2.frozen 0
 have f1:=hk2.frozen 1
 have f2:=hk2.frozen 2
 clear hk2
 have HRI:=qa hri
 have HRD:=qa hrd
 have B2:=qa (B1.out.trans (b2.mono B1.out.size))
 have s2:=b2.size
 have hg2:w.heap.size<w2.heap.size:=by omega
 clear hri hrd b2
 go_wp2_with fail
 obtain⟨w3,hw3⟩:∃w3,((w2.setCell ⟨w.heap.size,0,none⟩ (.int .i64 0)).setCell ⟨w.heap.size,1,none⟩ (.slice A2 t.length c2)).setCell ⟨w.heap.size,2,none⟩ (.slice none 0 0)=w3:=⟨_,rfl⟩
 have hk3:yy w3 w.heap.size 110 #[.int .i64 0,.slice A2 t.length c2,.slice none 0 0]:=by rw[←hw3];exact((HK2.out.put 0 _).put 1 _).put 2 _
 have hb3:Below w.heap.size w w3:=by rw[←hw3];exact((B2.out.setCell (qc _) _).setCell (qc _) _).setCell (qc _) _
 have hr3:Rd w3 (w.heap.size+1) w3.heap.size A2 c2 (iv (z8 t)):=by
  have h9:Rd w2 (w.heap.size+1) w2.heap.size A2 c2 (iv (z8 t)):=HRD.out.wide (by omega) (qc _)
  rw[←hw3]
  exact(((h9.setCell (p:=⟨w.heap.size,0,none⟩) (.inl (qbk _)) _).setCell (p:=⟨w.heap.size,1,none⟩) (.inl (qbk _)) _).setCell (p:=⟨w.heap.size,2,none⟩) (.inl (qbk _)) _).wide (qc _) (by simp)
 rw[hw3]
 refine bodyPost_ret (v:= .agg #[.int .i64 0,.slice A2 t.length c2,.slice none 0 0]) ?_ rfl ⟨_,t,rfl,HRI.out,⟨A2,c2,none,0,rfl,hr3.wide (Nat.le_succ _) (qc _),Rd.nil _ _ _⟩,hb3⟩
 exact results_cell_row rfl _ _ w.heap.size 110 _ (0,0) _ rfl hk3 Tryz.underlying110 rfl (by kernel_rfl)
theorem makeg_bits{w:World}(l:List ByteArray){c:Nat}{A:Option Addr}(h:Rd w 0 w.heap.size A c (sv l))(hsz:∀s∈l,s.size≤100000)(hlen:l.length≤1000)(b:Nat)(hb0:0<b)(hb:b≤70000) :
  Calls Tryz.prog 57 #[.slice A l.length c,.int .i64 (b:Int)] w fun r w'=>∃(v:Value) (t:List Nat),r= .returned v∧Rise (qcc (qcu l)) t∧Flt w' w.heap.size w'.heap.size v b [] (qe4 b t)∧Below w.heap.size w w':=by
 obtain⟨w1,hw1⟩:∃w1,w.alloc (.cells #[.int .i64 0,.slice none 0 0,.slice none 0 0] 110)=w1:=⟨_,rfl⟩
 have B1:Hid (Below w.heap.size w w1):=by unfold Hid;rw[←hw1];exact(Below.refl _ w).alloc (qc _) _
 have hk:yy w1 w.heap.size 110 #[.int .i64 0,.slice none 0 0,.slice none 0 0]:=by rw[←hw1];exact yy.new w _ _
 have hs1:w1.heap.size=w.heap.size+1:=by rw[←hw1];simp
 have HAL:=qa (allg_any l ((h.below B1.out (qc _)).wide (qc _) B1.out.size) hsz hlen)
 have HK:=qa hk
 have ib0:¬(b:Int)=0:=by omega
 have ib1:((b:Int)==0)=false:=by rw[q9];exact ib0
 clear h hsz hk
 go_enter Tryz.func57,Tryz.ntmps57
 go_wp2_with fail
 refine HAL.out.mono ?_
 rintro r w2 ⟨t,A2,c2,rfl,hri,htl,hrd,b2⟩
 have hk2:=HK.out.below b2 (by omega)
 have HK2:=qa hk2
 have HRI:=qa hri
 have HRD:=qa hrd
 have B2:=qa (B1.out.trans (b2.mono B1.out.size))
 have s2:=b2.size
 have hg2:w.heap.size<w2.heap.size:=by omega
 have hlc:=hrd.len
 have hmc:=hrd.cap
 rw[jz,zu] at hlc
 unfold maxLen at hmc
 clear hri hrd b2 hk2 HAL hw1
 obtain⟨w3,hmake,hown,hg3⟩:=qic w2 b (by omega)
 have B3:=qa (B2.out.grown hg3 (by omega) (by simp))
 have HK3:=qa (HK2.out.grown hg3 (by simp))
 have HRD3:=qa (HRD.out.grown hg3 (qc _) (by simp))
 have HO3:=qa hown
 have s3:=hg3.size
 have hlt3:w2.heap.size<w3.heap.size:=(zk hown (k:=w2.heap.size) rfl).2
 clear hown hg3 HK2 HRD
 obtain⟨w4,hw4⟩:∃w4,w3.alloc (.cells #[.int .i64 (b:Int),.slice none 0 0,.slice (some ⟨w2.heap.size,0,none⟩) b b] 110)=w4:=⟨_,rfl⟩
 have B4:Hid (Below w.heap.size w w4):=by unfold Hid;rw[←hw4];exact B3.out.alloc (by omega) _
 have HQ4:Hid (yy w4 w3.heap.size 110 #[.int .i64 (b:Int),.slice none 0 0,.slice (some ⟨w2.heap.size,0,none⟩) b b]):=by unfold Hid;rw[←hw4];exact yy.new w3 _ _
 have HK4:Hid (yy w4 w.heap.size 110 #[.int .i64 0,.slice none 0 0,.slice none 0 0]):=by unfold Hid;rw[←hw4];exact HK3.out.alloc _
 have HT4:Hid (Rd w4 w1.heap.size w2.heap.size A2 c2 (iv (z8 t))):=by unfold Hid;rw[←hw4];exact HRD3.out.alloc s3 _
 have HO4:Hid (w4.ownsRow w2.heap.size 4 1 (.slice (some ⟨w2.heap.size,0,none⟩) b b) b (lv (qe4 b []))):=by
  unfold Hid
  rw[←hw4]
  have:=HO3.out.alloc (.cells #[.int .i64 (b:Int),.slice none 0 0,.slice (some ⟨w2.heap.size,0,none⟩) b b] 110)
  simpa[qe4,lv] using this
 have s4:w4.heap.size=w3.heap.size+1:=by rw[←hw4];simp
 clear HK3 HRD3 HO3
 go_wp2_with fail
 go_loopw [7] (fun x7 wr=>∃k:Nat,k≤t.length∧x7= .int .i64 (k:Int)∧wr.ownsRow w2.heap.size 4 1 (.slice (some ⟨w2.heap.size,0,none⟩) b b) b (lv (qe4 b (t.take k)))∧
  yy wr w3.heap.size 110 #[.int .i64 (b:Int),.slice none 0 0,.slice (some ⟨w2.heap.size,0,none⟩) b b]∧yy wr w.heap.size 110 #[.int .i64 0,.slice none 0 0,.slice none 0 0]∧Rd wr w1.heap.size w2.heap.size A2 c2 (iv (z8 t))∧Below w.heap.size w wr) (fun x7 _=>t.length-(intOf x7).toNat)
 case atStart=>exact⟨0,qi _,rfl,HO4.out,HQ4.out,HK4.out,HT4.out,B4.out⟩
 case round =>
  clear HO4 HQ4 HK4 HT4
  obtain⟨k,hk,rfl,hown,hq,hz,hrd,hbe⟩:=hrel
  obtain⟨wz,hwz⟩:∃wz,wz=wr:=⟨_,rfl⟩
  subst hwz
  have HO:=qa hown
  have HQ:=qa hq
  have HZ:=qa hz
  have HR:=qa hrd
  have HB:=qa hbe
  clear hown hq hz hrd hbe
  by_cases hlt:k<t.length
  ·
   have ik:(k:Int)<(t.length:Int):=by omega
   obtain⟨bb,off,rfl,hbl,hbb,hcell⟩:=HR.out.nat hlt
   have hgl:t[k]<16777216:=by
    have:=(HRI.out.mem t[k]).1 (ql hlt)
    obtain⟨s,_,h2⟩:=List.mem_flatMap.1 this
    exact ql3 h2
   obtain⟨q,hqe⟩:∃q,bitG t[k] b=q:=⟨_,rfl⟩
   have hqb:q<b:=by rw[←hqe];exact qcm _ hb0
   have hqz:(((t[k]:Nat):Int)*40503%65521)%(b:Int)=(q:Int):=by rw[←hqe,bitG,Int.natCast_emod,Int.natCast_emod,qaw];rfl
   have hbz:(b:Int)≠0:=by omega
   have HSN:Hid (qe4 b (t.take (k+1))=(qe4 b (t.take k)).set q true):=by
    unfold Hid
    rw[qj hlt,setB_snoc,hqe]
   have hqc:wz.cell? ⟨w3.heap.size,2,none⟩=some (.slice (some ⟨w2.heap.size,0,none⟩) b b):=HQ.out.cell 2
   have hsl:(lv (qe4 b (t.take k))).length=b:=by rw[qau,qc1]
   obtain⟨u0,hu0⟩:∃u0,(lv (qe4 b (t.take k)))[q]? = some u0:=⟨_,qe (by omega)⟩
   have hrc:wz.cell? ⟨w2.heap.size,q,none⟩=some u0:=by rw[HO.out.cellAt q (by omega),hu0]
   have hrf:=HO.out.frozenAt q
   have iqb:(q:Int)<(b:Int):=by omega
   clear hu0 hsl hqe
   generalize t[k]=g at *
   go_wp2_with fail
   go_region
   have hst:=HO.out.stored q (.bool true)
   have hst1:(wz.setCell ⟨w2.heap.size,q,none⟩ (.bool true)).drew.ownsRow w2.heap.size 4 1 (.slice (some ⟨w2.heap.size,0,none⟩) b b) b (lv (qe4 b (t.take (k+1)))):=by
    rw[HSN.out,lv_set]
    exact jv hst.1 (fun _ _=>rfl)
   have HS1:=qa hst1
   have HQ1:Hid (yy (wz.setCell ⟨w2.heap.size,q,none⟩ (.bool true)).drew w3.heap.size 110 #[.int .i64 (b:Int),.slice none 0 0,.slice (some ⟨w2.heap.size,0,none⟩) b b]):=(HQ.out.far (p:=⟨w2.heap.size,q,none⟩) (by show w3.heap.size≠w2.heap.size;omega) _).drew
   have HZ1:Hid (yy (wz.setCell ⟨w2.heap.size,q,none⟩ (.bool true)).drew w.heap.size 110 #[.int .i64 0,.slice none 0 0,.slice none 0 0]):=(HZ.out.far (p:=⟨w2.heap.size,q,none⟩) (by show w.heap.size≠w2.heap.size;omega) _).drew
   have HR1:Hid (Rd (wz.setCell ⟨w2.heap.size,q,none⟩ (.bool true)).drew w1.heap.size w2.heap.size (some ⟨bb,off,none⟩) c2 (iv (z8 t))):=(HR.out.setCell (p:=⟨w2.heap.size,q,none⟩) (.inr (qc _)) _).drew
   have HBB:Hid (Below w.heap.size w (wz.setCell ⟨w2.heap.size,q,none⟩ (.bool true)).drew):=(HB.out.setCell (p:=⟨w2.heap.size,q,none⟩) (by show w.heap.size≤w2.heap.size;omega) _).drew
   clear hst hst1
   go_wp2_with fail
   go_roundw
   case rel=>exact⟨k+1,by omega,by go_num,HS1.out,HQ1.out,HZ1.out,HR1.out,HBB.out⟩
   case measure=>simp[intOf] <;> omega
  ·
   have ik:¬(k:Int)<(t.length:Int):=by omega
   have hkt:t.take k=t:=qo (by omega)
   rw[hkt] at HO
   have q0:=HQ.out.cell 0
   have q1:=HQ.out.cell 1
   have q2:=HQ.out.cell 2
   have z0:=HZ.out.cell 0
   have z1:=HZ.out.cell 1
   have z2:=HZ.out.cell 2
   have f0:=HZ.out.frozen 0
   have f1:=HZ.out.frozen 1
   have f2:=HZ.out.frozen 2
   clear hkt
   go_wp2_with fail
   obtain⟨w5,hw5⟩:∃w5,((wz.setCell ⟨w.heap.size,0,none⟩ (.int .i64 (b:Int))).setCell ⟨w.heap.size,1,none⟩ (.slice none 0 0)).setCell ⟨w.heap.size,2,none⟩ (.slice (some ⟨w2.heap.size,0,none⟩) b b)=w5:=⟨_,rfl⟩
   have hk5:yy w5 w.heap.size 110 #[.int .i64 (b:Int),.slice none 0 0,.slice (some ⟨w2.heap.size,0,none⟩) b b]:=by rw[←hw5];exact((HZ.out.put 0 _).put 1 _).put 2 _
   have hb5:Below w.heap.size w w5:=by rw[←hw5];exact((HB.out.setCell (qc _) _).setCell (qc _) _).setCell (qc _) _
   have hr5:Rd w5 w2.heap.size w5.heap.size (some ⟨w2.heap.size,0,none⟩) b (lv (qe4 b t)):=by
    have h9:=Rd.of_own HO.out
    rw[←hw5]
    exact(((h9.setCell (p:=⟨w.heap.size,0,none⟩) (.inl hg2) _).setCell (p:=⟨w.heap.size,1,none⟩) (.inl hg2) _).setCell (p:=⟨w.heap.size,2,none⟩) (.inl hg2) _).wide (qc _) (by simp)
   rw[hw5]
   refine bodyPost_ret (v:= .agg #[.int .i64 (b:Int),.slice none 0 0,.slice (some ⟨w2.heap.size,0,none⟩) b b]) ?_ rfl ⟨_,rfl,t,HRI.out,⟨none,0,_,b,by rw[qc1];rfl,Rd.nil _ _ _,hr5.wide (by omega) (qc _)⟩,hb5⟩
   exact results_cell_row rfl _ _ w.heap.size 110 _ (0,0) _ rfl hk5 Tryz.underlying110 rfl (by kernel_rfl)
theorem qe0(m V:Nat):xq (m+1) V=xq m V++[UInt8.ofNat (V/256 ^ m%256)]:=by
 induction m generalizing V with
 | zero=>simp[xq]
 | succ m ih =>
  rw[xq,ih (V/256),xq,jd,uo,ky,xe 256]
theorem bytesN_mod(m V:Nat):xq m (V%256 ^ m)=xq m V:=by
 induction m generalizing V with
 | zero=>rfl
 | succ m ih =>
  simp only[xq]
  rw[ky,xe (256 ^ m),Nat.mod_mul_right_mod,Nat.mod_mul_right_div_self,ih]
theorem qp6(m V y:Nat):xq m (V+256 ^ m*y)=xq m V:=by
 rw[←bytesN_mod,Nat.add_mul_mod_self_left,bytesN_mod]
theorem len_zero:Lib.bitLen 0=0:=Lib.bitLenAux_zero 64
theorem len_iff(x w:Nat)(hx:x<2 ^ 64):2 ^ w≤x↔w<Lib.bitLen x:=by
 constructor
 ·
  intro h
  rcases vf w (Lib.bitLen x) with h1 | h1
  ·
   exact h1
  ·
   have h2:=len_lt x hx
   have h3:2 ^ Lib.bitLen x≤2 ^ w:=yg (by omega) h1
   omega
 ·
  intro h
  have h0:x≠0:=by rintro rfl;rw[len_zero] at h;omega
  have h1:=(len_bounds x hx h0).2.1
  exact zb (yg (by omega) (by omega)) h1
theorem len_max(a b:Nat)(ha:a<2 ^ 64)(hb:b<2 ^ 64):Lib.bitLen (max a b)=max (Lib.bitLen a) (Lib.bitLen b):=by
 have mono:∀a b:Nat,a<2 ^ 64→b<2 ^ 64→a≤b→Lib.bitLen a≤Lib.bitLen b:=by
  intro a b ha hb h
  rcases vf (Lib.bitLen b) (Lib.bitLen a) with h1 | h1
  ·
   have h2:=(len_iff a _ ha).2 h1
   have h3:=len_lt b hb
   omega
  ·
   exact h1
 rcases Nat.le_total a b with h | h
 ·
  rw[Nat.max_eq_right h,Nat.max_eq_right (mono a b ha hb h)]
 ·
  rw[Nat.max_eq_left h,Nat.max_eq_left (mono b a hb ha h)]
theorem wide_nil:wide []=0:=len_zero
theorem wide_take{zs:List Int}(hw:qjq zs)(k:Nat)(h:k<zs.length):wide (zs.take (k+1))=max (wide (zs.take k)) (Lib.bitLen zs[k].toNat):=by
 have h1:=word_grt (hw.take k)
 have h2:=(hw _ (ql h)).2
 unfold wide
 rw[grt_take zs k h,show(max (grt (zs.take k)) zs[k]).toNat=max (grt (zs.take k)).toNat zs[k].toNat from by omega,len_max _ _ (by omega) (by omega)]
def putR(zs:List Int)(wd:Int):List UInt8×Int:=if Fits zs wd then (qa5 wd.toNat (qbn zs),0) else ([],1)
theorem putR_yes{zs:List Int}{wd:Int}(h:Fits zs wd):putR zs wd=(qa5 wd.toNat (qbn zs),0):=if_pos h
theorem putR_no{zs:List Int}{wd:Int}(h:¬Fits zs wd):putR zs wd=([],1):=if_neg h
theorem pow_small{k n:Nat}(h:k≤n)(hn:n≤62):2 ^ k≤4611686018427387904:=zb (yg (by omega) (zb h hn)) (by decide)
theorem qf2{w:World}(n:Nat)(hn:n≤62) :
  Calls Tryz.prog 158 #[.int .i64 (n:Int)] w fun r w'=>r= .returned (.int .i64 ((2 ^ n:Nat):Int))∧w=w':=by
 go_enter Tryz.func158,Tryz.ntmps158
 go_wp2_with fail
 go_loop [3,4] (fun x i=>∃k:Nat,k≤n∧i= .int .i64 (k:Int)∧x= .int .i64 ((2 ^ k:Nat):Int)) (fun _ i=>n-(intOf i).toNat)
 case atStart=>exact⟨0,qi _,rfl,rfl⟩
 case round =>
  obtain⟨k,hk,rfl,rfl⟩:=hrel
  by_cases hlt:k<n
  ·
   have hb:=pow_small (k:=k+1) hlt hn
   have hs:Hid ((2 ^ (k+1):Nat)=2*2 ^ k):=by unfold Hid;rw[ky,xe]
   rw[hs] at hb
   generalize 2 ^ k=p at *
   go_wp2
   go_round
   case rel=>exact⟨k+1,by omega,by go_num,by rw[hs.out];go_num⟩
   case measure=>simp[intOf];omega
  ·
   obtain rfl:k=n:=by omega
   go_wp2
   go_ret
   exact⟨rfl,rfl⟩
theorem rwidth_any{w:World}(zs:List Int)(hz:qok zs){lo h':Nat}{A:Option Addr}{c:Nat}(h:Rd w lo h' A c (iv zs)) :
  Calls Tryz.prog 116 #[.slice A zs.length c] w fun r w'=>r= .returned (.int .i64 (wide zs:Int))∧∃n,w.drewN n=w':=by
 have hl:=h.len
 have hc:=h.cap
 rw[jz] at hl
 unfold maxLen at hc
 have H:=qa h
 have HZ:=qa hz
 clear h hz
 go_enter Tryz.func116,Tryz.ntmps116
 go_wp2_with fail
 go_loopw [3,4] (fun v i wr=>∃k n:Nat,k≤zs.length∧i= .int .i64 (k:Int)∧v= .int .i64 (wide (zs.take k):Int)∧w.drewN n=wr) (fun _ i _=>zs.length-(intOf i).toNat)
 case atStart=>exact⟨0,0,qi _,rfl,by rw[y9,wide_nil];rfl,rfl⟩
 case round =>
  obtain⟨k,n,hk,rfl,rfl,rfl⟩:=hrel
  by_cases hlt:k<zs.length
  ·
   obtain⟨b,off,rfl,_,_,hcell⟩:=H.out.num hlt
   have hts:=qa (wide_take HZ.out.word k hlt)
   have hm:=HZ.out _ (ql hlt)
   have hw32:wide (zs.take k)≤32:=wide_le _ 32 (by omega) fun z hz=>by have:=HZ.out z (yz hz);omega
   have hb32:Lib.bitLen zs[k].toNat≤32:=Lib.bitLen_le _ 32 (by omega) (by omega)
   have hiff:=fun m=>len_iff zs[k].toNat m (by omega)
   have HI:=qa hiff
   obtain⟨hm0,hm1⟩:=hm
   clear hiff
   generalize zs[k]=z at *
   generalize wide (zs.take k)=v0 at *
   generalize Lib.bitLen z.toNat=v1 at *
   go_wp2_with fail
   go_loopw [3] (fun v wr=>∃m n:Nat,v0≤m∧m≤max v0 v1∧v= .int .i64 (m:Int)∧w.drewN n=wr) (fun v _=>64-(intOf v).toNat)
   case atStart=>exact⟨v0,n,by omega,by omega,rfl,rfl⟩
   case round =>
    obtain⟨m,n,h1,h2,rfl,rfl⟩:=hrel
    have HP:=fun j:Nat=>qa (qf2 (w:=w.drewN j) m (by omega))
    have hge:=(HI.out m)
    by_cases hlv:m<v1
    ·
     have hpz:((2 ^ m:Nat):Int)≤z:=by have:=hge.2 hlv;omega
     clear hge
     generalize 2 ^ m=p at *
     go_wp2_with fail
     go_quiet ((go_at_call 158;exact qml (HP _).out))
     go_wp2
     go_roundw
     case rel=>exact⟨m+1,_,by omega,by omega,by go_num,rfl⟩
     case measure=>simp[intOf];omega
    ·
     have hpz:z<((2 ^ m:Nat):Int):=by
      have h3:¬2 ^ m≤z.toNat:=fun h=>hlv (hge.1 h)
      omega
     clear hge
     generalize 2 ^ m=p at *
     go_wp2_with fail
     go_quiet ((go_at_call 158;exact qml (HP _).out))
     go_wp2
     go_roundw
     case rel=>exact⟨k+1,_,by omega,by go_num,by rw[hts.out];go_num,rfl⟩
     case measure=>simp[intOf];omega
  ·
   obtain rfl:k=zs.length:=by omega
   rw[yw]
   go_wp2
   go_ret
   exact⟨rfl,_,rfl⟩
def qi6(n V:Nat)(ys:List UInt8):Prop:=V<2 ^ n∧ys=xq ((n+7)/8) V
def OpenAt(n V:Nat)(ys:List UInt8):Prop:=V<2 ^ n∧ys=xq (n/8+1) V
theorem qp9:qi6 0 0 []:=⟨by simp,rfl⟩
theorem bitsAt_len{n V:Nat}{ys:List UInt8}(h:qi6 n V ys):ys.length=(n+7)/8:=by rw[h.2,vy]
theorem qj1{n V:Nat}{ys:List UInt8}(h:OpenAt n V ys):ys.length=n/8+1:=by rw[h.2,vy]
theorem qpu{n V:Nat}{ys:List UInt8}(h:qi6 n V ys)(hn:n%8≠0):OpenAt n V ys:=by
 obtain⟨h1,rfl⟩:=h
 exact⟨h1,by rw[show(n+7)/8=n/8+1 from by omega]⟩
theorem qpv{n V:Nat}{ys:List UInt8}(h:qi6 n V ys)(hn:n%8=0):OpenAt n V (ys++[0]):=by
 obtain⟨h1,rfl⟩:=h
 refine⟨h1,?_⟩
 rw[show(n+7)/8=n/8 from by omega,qe0]
 rw[qi8,hn,Nat.pow_zero,xp] at h1
 rw[Nat.div_eq_of_lt h1]
 rfl
theorem qiu{n V:Nat}{ys:List UInt8}(h:OpenAt n V ys):qi6 (n+1) V ys:=by
 obtain⟨h1,rfl⟩:=h
 exact⟨by rw[ky];omega,by rw[show(n+1+7)/8=n/8+1 from by omega]⟩
theorem qig{n V:Nat}{ys:List UInt8}(h:OpenAt n V ys)(x:UInt8)(hx:ys[n/8]? = some x) :
  x.toNat+2 ^ (n%8)<256∧qi6 (n+1) (V+2 ^ n) (ys.set (n/8) (UInt8.ofNat (x.toNat+2 ^ (n%8)))):=by
 obtain⟨h1,rfl⟩:=h
 rw[qe0,xr (by rw[vy];exact qc _),vy,qdn] at hx
 simp only[zq,Option.some.injEq] at hx
 have h2:=h1
 rw[qi8] at h2
 have h3:=Nat.div_lt_of_lt_mul h2
 have h4:2 ^ (n%8)≤2 ^ 7:=yg (by omega) (by omega)
 have hp:0<256 ^ (n/8):=Nat.pow_pos (by omega)
 have hxv:x.toNat=V/256 ^ (n/8):=by
  rw[←hx,qj8,vc (by omega)]
 rw[hxv]
 refine⟨by omega,by rw[ky];omega,?_⟩
 rw[show(n+1+7)/8=n/8+1 from by omega,qe0,qe0,List.set_append_right _ _ (by rw[vy];exact qc _),vy,qdn]
 have e:(V+2 ^ n)/256 ^ (n/8)=V/256 ^ (n/8)+2 ^ (n%8):=by rw[qi8 n,Nat.add_mul_div_left _ _ hp]
 rw[e,vc (show V/256 ^ (n/8)+2 ^ (n%8)<256 by omega)]
 congr 1
 rw[qi8 n,qp6]
theorem bv_set(l:List UInt8)(j:Nat)(x:UInt8):bv (l.set j x)=(bv l).set j (.int .u8 (x.toNat:Int)):=by simp[bv,List.map_set]
def qg4(m:Nat)(l:List Nat)(x j:Nat):Nat:=qfh m l+2 ^ (l.length*m)*(x%2 ^ j)
theorem partial_zero(m:Nat)(l:List Nat)(x:Nat):qg4 m l x 0=qfh m l:=by simp[qg4,Nat.mod_one]
theorem partial_all(m:Nat)(l:List Nat)(x:Nat)(hx:x<2 ^ m):qg4 m l x m=qfh m (l++[x]):=by
 rw[qg4,qlp,vc hx,xe m]
theorem qn0(m:Nat)(l:List Nat)(x j t:Nat)(ht:x/2 ^ j%2=t):qg4 m l x (j+1)=qg4 m l x j+2 ^ (l.length*m+j)*t:=by
 unfold qg4
 rw[ky,Nat.mod_mul,ht,qds,vw,qdr,qav]
theorem bit_test(x pj:Nat)(hx:x≤4294967295):(x/pj%2=1→((wrap64 ((x:Int)/(pj:Int))).tmod 2==1)=true)∧(¬x/pj%2=1→((wrap64 ((x:Int)/(pj:Int))).tmod 2==1)=false):=by
 have h1:x/pj≤x:=Nat.div_le_self _ _
 have e1:(x:Int)/(pj:Int)=((x/pj:Nat):Int):=by push_cast;rfl
 rw[e1]
 generalize x/pj=y at *
 rw[uc (y:Int) (by omega),qaq (by omega)]
 refine⟨fun h => ?_,fun h => ?_⟩
 ·
  rw[beq_iff_eq];omega
 ·
  rw[q9];omega
def AheadR(m:Nat)(zs:List Int)(k n:Nat)(ys:List UInt8):Prop :=
 (∀z∈zs.take k,0≤z∧z<2 ^ m)∧n=k*m∧qi6 n (qfh m (qbn (zs.take k))) ys
def InR(m:Nat)(zs:List Int)(k x j n:Nat)(ys:List UInt8):Prop :=
 n=k*m+j∧qi6 n (qg4 m (qbn (zs.take k)) x j) ys
theorem rput_any{w:World}(zs:List Int)(wd:Int){h':Nat}{A:Option Addr}{c:Nat}(h:Rd w 0 h' A c (iv zs))(hh:h'≤w.heap.size)(hlen:zs.length≤4294967295) :
  Calls Tryz.prog 115 #[.slice A zs.length c,.int .i64 wd] w fun r w'=>∃A' c',r= .returned (.tuple #[.slice A' (putR zs wd).1.length c',.int .i64 (putR zs wd).2])∧
   w'.ownsRow w.heap.size 5 1 (.slice A' (putR zs wd).1.length c') (putR zs wd).1.length (bv (putR zs wd).1)∧Below w.heap.size w w':=by
 by_cases hr:0≤wd∧wd≤32
 ·
  obtain⟨hr0,hr1⟩:=hr
  obtain⟨m,rfl⟩:=Int.eq_ofNat_of_zero_le hr0
  have hm:m≤32:=by omega
  have hl:=h.len
  have hc:=h.cap
  rw[jz] at hl
  unfold maxLen at hc
  have H:=qa h
  clear h
  have hnm:zs.length*m≤4294967295*32:=ki hlen hm
  go_enter Tryz.func115,Tryz.ntmps115
  go_wp2_with fail
  go_loopw [6,7,8] (fun b n i wr=>∃(k N:Nat) (ys:List UInt8) (A':Option Addr) (c':Nat),k≤zs.length∧i= .int .i64 (k:Int)∧n= .int .i64 (N:Int)∧b= .slice A' ys.length c'∧
    AheadR m zs k N ys∧wr.ownsRow w.heap.size 5 1 (.slice A' ys.length c') ys.length (bv ys)∧Below w.heap.size w wr) (fun _ _ i _=>zs.length-(intOf i).toNat)
  case atStart=>exact⟨0,0,[],none,0,qi _,rfl,rfl,rfl,⟨by simp,by simp,qp9⟩,zf ..,Below.refl _ _⟩
  case round =>
   obtain⟨k,N,ys,A',c',hk,rfl,rfl,rfl,hat,hown,hbel⟩:=hrel
   have HAT:=qa hat
   have HOW:=qa hown
   have HBL:=qa hbel
   have hsz:=hbel.size
   by_cases hlt:k<zs.length
   ·
    obtain⟨b,off,rfl,_,hbh0,hcw⟩:=H.out.num hlt
    have hbh:b<w.heap.size:=zn hbh0 hh
    have hcell:=(hbel.cell (p:=⟨b,off+k,none⟩) hbh).trans hcw
    have HCW:=qa hcw
    clear hcw
    have HP:=fun q:Nat=>qa (qf2 (w:=wr.drewN q) m (by omega))
    have hmem:Hid (zs[k]∈zs):=ql hlt
    have hts:Hid (zs.take (k+1)=zs.take k++[zs[k]]):=by unfold Hid;exact qj hlt
    have hpw:Hid (((2 ^ m:Nat):Int)=2 ^ m):=by unfold Hid;norm_cast
    generalize zs[k]=z0 at *
    clear hat hown hbel
    by_cases hneg:z0<0
    ·
     have HE:Hid (putR zs m=([],1)):=by
      refine putR_no fun hf => ?_
      have:=hf.2.2 z0 hmem
      omega
     go_wp2_with fail
     go_quiet (fail)
     go_wp2
     go_ret2
     rw[HE.out]
     exact⟨none,0,rfl,zf ..,zj HBL.out _⟩
    ·
     by_cases hbig:((2 ^ m:Nat):Int)≤z0
     ·
      have HE:Hid (putR zs m=([],1)):=by
       refine putR_no fun hf => ?_
       have:=(hf.2.2 z0 hmem).2
       rw[vr,←hpw.out] at this
       omega
      have hneg':decide (z0<0)=false:=by simpa using hneg
      clear hpw
      generalize 2 ^ m=pm at *
      go_wp2_with fail
      go_quiet ((go_at_call 158;exact qdx (HP _).out))
      go_wp2
      go_ret2
      rw[HE.out]
      exact⟨none,0,rfl,zf ..,zj HBL.out _⟩
     ·
      obtain⟨x,rfl⟩:=Int.eq_ofNat_of_zero_le (show 0≤z0 by omega)
      have hneg':decide ((x:Int)<0)=false:=by simp
      have hxm:x<2 ^ m:=by omega
      have HXM:=qa hxm
      have hxb:x≤4294967295:=by
       have:2 ^ m≤2 ^ 32:=yg (by omega) hm
       omega
      have hlt2:(x:Int)<((2 ^ m:Nat):Int):=by omega
      have HXM2:Hid (x<2 ^ m):=hxm
      have HPM:=hpw
      clear hpw hxm hbig hneg
      obtain⟨pm,hpm⟩:∃pm,pm=2 ^ m:=⟨_,rfl⟩
      rw[←hpm] at HP hlt2 HPM HXM
      clear hpm
      have hdx:decide (pm≤x)=false:=by simp;omega
      go_wp2_with fail
      go_quiet ((go_at_call 158;exact qdx (HP _).out))
      go_wp2_with fail
      have hcell1:(wr.drewN nq).cell? ⟨b,off+k,none⟩=some (.int .i64 (x:Int)):=hcell
      have HO1:Hid ((wr.drewN nq).ownsRow w.heap.size 5 1 (.slice A' ys.length c') ys.length (bv ys)):=HOW.out
      have HB1:=qa (zj HBL.out nq)
      clear hcell
      generalize wr.drewN nq=wo at *
      go_loopw [6,7,9] (fun b n i wr=>∃(j N:Nat) (ys:List UInt8) (A':Option Addr) (c':Nat),j≤m∧i= .int .i64 (j:Int)∧n= .int .i64 (N:Int)∧b= .slice A' ys.length c'∧
        InR m zs k x j N ys∧wr.ownsRow w.heap.size 5 1 (.slice A' ys.length c') ys.length (bv ys)∧Below w.heap.size w wr) (fun _ _ i _=>m-(intOf i).toNat)
      case atStart=>exact⟨0,N,ys,A',c',qi _,rfl,rfl,rfl,⟨HAT.out.2.1,by rw[partial_zero];exact HAT.out.2.2⟩,HO1.out,HB1.out⟩
      case round =>
       obtain⟨j,n,ys1,A1,c1,hj,rfl,rfl,rfl,hin,hown1,hbel1⟩:=hrel
       have HIN:=qa hin
       have HO1:=qa hown1
       have HB1:=qa hbel1
       have hsz1:=hbel1.size
       have hyl:=qej (bitsAt_len hin.2)
       have hnb:n≤4294967295*32+32:=by
        have h1:=hin.1
        have h2:k*m≤zs.length*m:=kh _ hk
        omega
       clear hin hown1 hbel1
       by_cases hjm:j<m
       ·
        by_cases h8:n%8=0
        ·
         have HOP:=qa (qpv HIN.out.2 h8)
         have hL:(ys1++[0]).length=ys1.length+1:=by simp
         go_wp2_with (at_builtin;refine qa3 (v:= .slice A1 ys1.length c1) w.heap.size ys1 0 rfl _ _ rfl rfl rfl rfl (by rw[zg _ _ _ _ rfl];rfl) (HO1.out.alloc _) (by omega) (by simp;omega) ?_;intro A2 c2 w2 hown2 hgr2)
         have HB2:=qa ((HB1.out.alloc hsz1 _).grown hgr2 (by simp;omega) (fun k hk=>qec HO1.out k hk))
         rw[hL] at hown2
         have HO2:=qa hown2
         have HL:=qa hL
         clear hown2 hgr2 hL
         generalize ys1++[0]=ys2 at *
         generalize hLe:ys1.length+1=L at *
         have hLn:L=n/8+1:=by rw[←HL.out];exact qj1 HOP.out
         have hL1:L≤n/8+1:=by omega
         have hL2:n/8<L:=by omega
         have HN8:=qa h8
         clear hLe hLn h8
         obtain⟨g,rfl,hg1,hg2⟩:=qcg HO2.out (by omega)
         have hcell2:w2.cell? ⟨b,off+k,none⟩=some (.int .i64 (x:Int)):=(HB2.out.cell (p:=⟨b,off+k,none⟩) hbh).trans HCW.out
         have HP2:=fun q:Nat=>qa (qf2 (w:=w2.drewN q) j (by omega))
         have hpj:=qeg j
         have hbq:=bit_test x (2 ^ j) hxb
         have HPS:=fun t ht=>qn0 m (qbn (zs.take k)) x j t ht
         rw[uh,qz,vj hk,←HIN.out.1] at HPS
         have HPT:=qa HPS
         clear HPS
         by_cases hbit:x/2 ^ j%2=1
         ·
          have HPA:=qa (HPT.out 1 hbit)
          have hbt:=hbq.1 hbit
          clear hbq hbit
          generalize 2 ^ j=pj at *
          go_quiet ((go_at_call 158;exact qdx (HP2 _).out))
          go_wp2_with fail
          have hy0:n/8<ys2.length:=by rw[HL.out];exact hL2
          obtain⟨y0,hy0e⟩:∃y0,ys2[n/8]? = some y0:=⟨_,qe hy0⟩
          have hload:(w2.drewN nq).drew.cell? ⟨g,n/8,none⟩=some (.int .u8 (y0.toNat:Int)):=by
           have h1:=HO2.out.cellAt (n/8) (by omega)
           have h2:(bv ys2)[n/8]? = some (.int .u8 (y0.toNat:Int)):=by simp[bv,hy0e]
           exact h1.trans h2
          have hfr:(w2.drewN nq).drew.frozen? ⟨g,n/8,none⟩=false:=HO2.out.frozenAt (n/8)
          have HO3:Hid ((w2.drewN nq).drew.ownsRow w.heap.size 5 1 (.slice (some ⟨g,0,none⟩) L c2) L (bv ys2)):=HO2.out
          have HB3:Hid (Below w.heap.size w (w2.drewN nq).drew):=zj (zj HB2.out nq) 1
          have HP3:=qa (qf2 (w:=(w2.drewN nq).drew) (n%8) (by omega))
          have hn8:(n:Int)/8=((n/8:Nat):Int):=by omega
          have hn8':(n:Int)%8=((n%8:Nat):Int):=by omega
          have hn8t:(n:Int).tmod 8=((n%8:Nat):Int):=by rw[qaq (by omega)];omega
          have HW:=qa (qig HOP.out y0 hy0e)
          have hyb:=HW.out.1
          have hy256:=jj y0
          generalize 2 ^ (n%8)=pr at *
          refine wp_region_still_tail 13 (by kernel_rfl) (by kernel_rfl) ?_
          change wpStill _ _ (w2.drewN nq).drew (fun a'=>wpList _ _ _ _ a' (w2.drewN nq).drew) _ _
          generalize (w2.drewN nq).drew=w4 at *
          generalize hq8:n/8=q at *
          generalize hr8:n%8=r at *
          clear hq8 hr8
          simp only[j8,y9,qdh,jy]
          have hqw:IntKind.i64.wrap (q:Int)=(q:Int):=jf _ (by omega)
          have hrw:IntKind.i64.wrap (r:Int)=(r:Int):=jf _ (by omega)
          have hpw:IntKind.u8.wrap (pr:Int)=(pr:Int):=by rw[IntKind.wrap_u8];omega
          have hsum:IntKind.u8.wrap ((y0.toNat:Int)+(pr:Int))=((y0.toNat+pr:Nat):Int):=by rw[IntKind.wrap_u8];omega
          repeat still_step
          refine wpStill_step (fun K hK => ?_)
          go_simp
          refine⟨_,HP3.out.mono fun _ _ ⟨a,b⟩=>⟨a,b.symm⟩,hK _ ?_⟩
          clear hK K
          repeat still_step
          refine wpStill_nil ?_
          go_wp2
          go_roundw
          case rel =>
           have hst:=HO3.out.stored q (.int .u8 ((y0.toNat:Int)+(pr:Int)))
           have hbn:(UInt8.ofNat (y0.toNat+pr)).toNat=y0.toNat+pr:=by rw[jq];omega
           have hbs:bv (ys2.set q (UInt8.ofNat (y0.toNat+pr)))=(bv ys2).set q (.int .u8 ((y0.toNat:Int)+(pr:Int))):=by
            rw[bv_set,hbn]
            congr 2
           have hls:(ys2.set q (UInt8.ofNat (y0.toNat+pr))).length=L:=by rw[jn,HL.out]
           refine⟨j+1,n+1,ys2.set q (UInt8.ofNat (y0.toNat+pr)),some ⟨g,0,none⟩,c2,by omega,by go_num,by go_num,?_,⟨by have:=HIN.out.1;omega,?_⟩,?_,HB3.out.setCell (by simpa using hg1) _⟩
           ·
            rw[hls]
           ·
            rw[HPA.out,xp];exact HW.out.2
           ·
            rw[hls,hbs];exact hst.1
          case measure=>simp[intOf] <;> omega
         ·
          have HPA:=qa (HPT.out 0 (by omega))
          have hbt:=hbq.2 hbit
          clear hbq hbit
          generalize 2 ^ j=pj at *
          go_quiet ((go_at_call 158;exact qdx (HP2 _).out))
          go_wp2
          go_roundw
          case rel =>
           refine⟨j+1,n+1,ys2,some ⟨g,0,none⟩,c2,by omega,by go_num,by go_num,?_,⟨by have:=HIN.out.1;omega,?_⟩,?_,zj HB2.out _⟩
           ·
            rw[HL.out]
           ·
            rw[HPA.out,Nat.mul_zero,xj];exact qiu HOP.out
           ·
            rw[HL.out];exact HO2.out
          case measure=>simp[intOf] <;> omega
        ·
         have HOP:=qa (qpu HIN.out.2 h8)
         have HB2:=qa HB1.out
         have hL:=qj1 HOP.out
         generalize hLe:ys1.length=L at *
         have HL:=qa hLe
         have hL1:L≤n/8+1:=by omega
         have hL2:n/8<L:=by omega
         have HO2:=qa HO1.out
         have HN8:=qa h8
         have hn80:((n:Int)%8==0)=false:=by rw[q9];omega
         clear hLe hL h8 HO1
         go_wp2_with fail
         obtain⟨g,rfl,hg1,hg2⟩:=qcg HO2.out (by omega)
         have hcell2:wr.cell? ⟨b,off+k,none⟩=some (.int .i64 (x:Int)):=(HB2.out.cell (p:=⟨b,off+k,none⟩) hbh).trans HCW.out
         have HP2:=fun q:Nat=>qa (qf2 (w:=wr.drewN q) j (by omega))
         have hpj:=qeg j
         have hbq:=bit_test x (2 ^ j) hxb
         have HPS:=fun t ht=>qn0 m (qbn (zs.take k)) x j t ht
         rw[uh,qz,vj hk,←HIN.out.1] at HPS
         have HPT:=qa HPS
         clear HPS
         by_cases hbit:x/2 ^ j%2=1
         ·
          have HPA:=qa (HPT.out 1 hbit)
          have hbt:=hbq.1 hbit
          clear hbq hbit
          generalize 2 ^ j=pj at *
          go_quiet ((go_at_call 158;exact qdx (HP2 _).out))
          go_wp2_with fail
          have hy0:n/8<ys1.length:=by rw[HL.out];exact hL2
          obtain⟨y0,hy0e⟩:∃y0,ys1[n/8]? = some y0:=⟨_,qe hy0⟩
          have hload:(wr.drewN nq).drew.cell? ⟨g,n/8,none⟩=some (.int .u8 (y0.toNat:Int)):=by
           have h1:=HO2.out.cellAt (n/8) (by omega)
           have h2:(bv ys1)[n/8]? = some (.int .u8 (y0.toNat:Int)):=by simp[bv,hy0e]
           exact h1.trans h2
          have hfr:(wr.drewN nq).drew.frozen? ⟨g,n/8,none⟩=false:=HO2.out.frozenAt (n/8)
          have HO3:Hid ((wr.drewN nq).drew.ownsRow w.heap.size 5 1 (.slice (some ⟨g,0,none⟩) L c1) L (bv ys1)):=HO2.out
          have HB3:Hid (Below w.heap.size w (wr.drewN nq).drew):=zj (zj HB2.out nq) 1
          have HP3:=qa (qf2 (w:=(wr.drewN nq).drew) (n%8) (by omega))
          have hn8:(n:Int)/8=((n/8:Nat):Int):=by omega
          have hn8':(n:Int)%8=((n%8:Nat):Int):=by omega
          have hn8t:(n:Int).tmod 8=((n%8:Nat):Int):=by rw[qaq (by omega)];omega
          have HW:=qa (qig HOP.out y0 hy0e)
          have hyb:=HW.out.1
          have hy256:=jj y0
          generalize 2 ^ (n%8)=pr at *
          refine wp_region_still_tail 13 (by kernel_rfl) (by kernel_rfl) ?_
          change wpStill _ _ (wr.drewN nq).drew (fun a'=>wpList _ _ _ _ a' (wr.drewN nq).drew) _ _
          generalize (wr.drewN nq).drew=w4 at *
          generalize hq8:n/8=q at *
          generalize hr8:n%8=r at *
          clear hq8 hr8
          simp only[j8,y9,qdh,jy]
          have hqw:IntKind.i64.wrap (q:Int)=(q:Int):=jf _ (by omega)
          have hrw:IntKind.i64.wrap (r:Int)=(r:Int):=jf _ (by omega)
          have hpw:IntKind.u8.wrap (pr:Int)=(pr:Int):=by rw[IntKind.wrap_u8];omega
          have hsum:IntKind.u8.wrap ((y0.toNat:Int)+(pr:Int))=((y0.toNat+pr:Nat):Int):=by rw[IntKind.wrap_u8];omega
          repeat still_step
          refine wpStill_step (fun K hK => ?_)
          go_simp
          refine⟨_,HP3.out.mono fun _ _ ⟨a,b⟩=>⟨a,b.symm⟩,hK _ ?_⟩
          clear hK K
          repeat still_step
          refine wpStill_nil ?_
          go_wp2
          go_roundw
          case rel =>
           have hst:=HO3.out.stored q (.int .u8 ((y0.toNat:Int)+(pr:Int)))
           have hbn:(UInt8.ofNat (y0.toNat+pr)).toNat=y0.toNat+pr:=by rw[jq];omega
           have hbs:bv (ys1.set q (UInt8.ofNat (y0.toNat+pr)))=(bv ys1).set q (.int .u8 ((y0.toNat:Int)+(pr:Int))):=by
            rw[bv_set,hbn]
            congr 2
           have hls:(ys1.set q (UInt8.ofNat (y0.toNat+pr))).length=L:=by rw[jn,HL.out]
           refine⟨j+1,n+1,ys1.set q (UInt8.ofNat (y0.toNat+pr)),some ⟨g,0,none⟩,c1,by omega,by go_num,by go_num,?_,⟨by have:=HIN.out.1;omega,?_⟩,?_,HB3.out.setCell (by simpa using hg1) _⟩
           ·
            rw[hls]
           ·
            rw[HPA.out,xp];exact HW.out.2
           ·
            rw[hls,hbs];exact hst.1
          case measure=>simp[intOf] <;> omega
         ·
          have HPA:=qa (HPT.out 0 (by omega))
          have hbt:=hbq.2 hbit
          clear hbq hbit
          generalize 2 ^ j=pj at *
          go_quiet ((go_at_call 158;exact qdx (HP2 _).out))
          go_wp2
          go_roundw
          case rel =>
           refine⟨j+1,n+1,ys1,some ⟨g,0,none⟩,c1,by omega,by go_num,by go_num,?_,⟨by have:=HIN.out.1;omega,?_⟩,?_,zj HB2.out _⟩
           ·
            rw[HL.out]
           ·
            rw[HPA.out,Nat.mul_zero,xj];exact qiu HOP.out
           ·
            rw[HL.out];exact HO2.out
          case measure=>simp[intOf] <;> omega
       ·
        obtain rfl:j=m:=by omega
        have HNX:Hid (AheadR j zs (k+1) n ys1):=by
         refine⟨?_,by rw[qek,qb4];exact HIN.out.1,?_⟩
         ·
          intro y hy
          rw[hts.out] at hy
          rcases zm.1 hy with hy | hy
          ·
           exact HAT.out.1 y hy
          ·
           rw[ze.1 hy]
           have e:((pm:Nat):Int)=2 ^ j:=HPM.out
           omega
         ·
          have h1:=HIN.out.2
          rw[partial_all _ _ _ HXM2.out] at h1
          rw[hts.out]
          have e:qbn (zs.take k++[(x:Int)])=qbn (zs.take k)++[x]:=by simp[qbn]
          rw[e]
          exact h1
        go_wp2
        go_roundw
        case rel=>exact⟨k+1,n,ys1,A1,c1,by omega,by go_num,rfl,rfl,HNX.out,HO1.out,HB1.out⟩
        case measure=>simp[intOf] <;> omega
   ·
    obtain rfl:k=zs.length:=by omega
    have HE:Hid (putR zs m=(ys,0)):=by
     obtain⟨h1,h2,h3,h4⟩:=hat
     rw[yw] at h1 h4
     unfold Hid
     rw[putR_yes ⟨hr0,hr1,by simpa using h1⟩,h4,vr]
     unfold qa5
     rw[uh,h2]
    clear hat hown hbel
    go_wp2
    go_ret2
    rw[HE.out]
    exact⟨A',c',rfl,HOW.out,HBL.out⟩
 ·
  rw[putR_no fun hf=>hr ⟨hf.1,hf.2.1⟩]
  by_cases hr0:wd<0
  ·
   go_enter Tryz.func115,Tryz.ntmps115
   go_wp2
   go_ret2
   exact⟨none,0,rfl,zf ..,Below.refl _ _⟩
  ·
   have hr1:32<wd:=by omega
   go_enter Tryz.func115,Tryz.ntmps115
   go_wp2
   go_ret2
   exact⟨none,0,rfl,zf ..,Below.refl _ _⟩
end Go.Proofs.YtjfecojdagmacaaGreat
