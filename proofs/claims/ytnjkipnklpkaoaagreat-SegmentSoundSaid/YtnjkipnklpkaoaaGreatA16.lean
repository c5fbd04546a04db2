/-
  Lemmas.
-/
import Derived.Test.YtnjkipnklpkaoaaGreatA15
import Derived.Deep.WholeRow
import Derived.Lib.SliceRun
import Derived.ScopeJumps
namespace Go.Proofs.YtnjkipnklpkaoaaGreat
open Go.RowKit
set_option maxRecDepth 20000
set_option maxHeartbeats 16000000
set_option linter.unusedSimpArgs false
set_option linter.unusedVariables false
theorem xor_cdiv{s:BitVec 32}(h:bn s%2=1):bits .xor .u32 (bn s/2) 3988292384=bn (qht s):=by
 have hs:=s.isLt
 unfold bn at *
 rw[show((s.toNat:Int)/2)=((s.toNat/2:Nat):Int) from by omega,show(3988292384:Int)=((3988292384:Nat):Int) from rfl,u32_xor_nat _ _ (by omega) (by omega),cstep_odd (by omega)]
theorem crcB_cells(s:BitVec 32):bv (qh0 s)=[.int .u8 (bn s%256),.int .u8 (bn s/256%256),.int .u8 (bn s/65536%256),.int .u8 (bn s/16777216)]:=by
 have h:=congrArg (List.map fun n=>Value.int .u8 n) (crcB_nums s)
 rw[ut] at h
 exact h
def zero256:Array Value:=⟨List.replicate 256 (.int .u32 0)⟩
theorem Tryz.infoTab:(Tryz.prog.info? 194).map (fun i=>(i.zero,i.size))=some (some (.agg zero256),256):=by kernel_rfl
def tabV(j:Nat):Value:= .int .u32 (bn (qg3 (BitVec.ofNat 32 j)))
def qga(k:Nat):Array Value:=Array.ofFn (n:=256) fun i=>if i.val<k then tabV i.val else .int .u32 0
theorem qbv(k:Nat):(qga k).size=256:=Array.size_ofFn
theorem zero256_rep:zero256=Array.replicate 256 (.int .u32 0):=by kernel_rfl
theorem tabTo_zero:qga 0=zero256:=by
 rw[zero256_rep]
 apply Array.ext
 ·
  rw[qbv,Array.size_replicate]
 ·
  intro i h1 h2
  rw[Array.getElem_replicate]
  simp only[qga,Array.getElem_ofFn]
  rw[if_neg (by omega)]
theorem tabTo_get{k j:Nat}(hj:j<256):(qga k)[j]? = some (if j<k then tabV j else .int .u32 0):=by
 unfold qga
 rw[Array.getElem?_ofFn,dif_pos hj]
theorem tabTo_put{k:Nat}(hk:k<256):(qga k).setIfInBounds k (tabV k)=qga (k+1):=by
 apply Array.ext
 ·
  rw[Array.size_setIfInBounds,qbv,qbv]
 ·
  intro i h1 h2
  rw[qbv] at h2
  rw[Array.getElem_setIfInBounds (by rw[qbv];exact h2)]
  simp only[qga,Array.getElem_ofFn]
  by_cases e:k=i
  ·
   subst e;simp
  ·
   by_cases h:i<k
   ·
    simp[e,h,show i<k+1 from by omega]
   ·
    simp[e,h,show ¬i<k+1 from by omega]
theorem tabTo_one(k:Nat):(qga k).all (·.oneCell')=true:=by
 rw[Array.all_eq_true]
 intro i hi
 simp only[qga,Array.getElem_ofFn]
 split <;> rfl
def qhn:Array Value:=qga 256
theorem tabAll_get{j:Nat}(hj:j<256):qhn[j]? = some (.int .u32 (bn (qg3 (BitVec.ofNat 32 j)))):=by
 unfold qhn
 rw[tabTo_get hj,if_pos hj]
 rfl
theorem and_one(s:BitVec 32):bits .and .u32 (bn s) 1=bn s%2:=by
 have hs:=s.isLt
 unfold bn
 rw[show(1:Int)=((1:Nat):Int) from rfl,u32_and_nat _ _ hs (by omega),Nat.and_one_is_mod]
 omega
theorem xor_none{s:BitVec 32}(h:bn s%2=0):bits .xor .u32 (bn s/2) 0=bn (qht s):=by
 have hs:=s.isLt
 have e:=bn_even h
 rw[←e]
 unfold bn
 rw[show((s.toNat:Int)/2)=((s.toNat/2:Nat):Int) from by omega,show(0:Int)=((0:Nat):Int) from rfl,u32_xor_nat _ _ (by omega) (by omega),Nat.xor_zero]
theorem setRow_blk{w:World}{g:Nat}{t:TypeId}{cs:Array Value}(h:j6 w g t cs)(cs':Array Value):j6 (w.setRow g cs') g t cs':=setRow_heap w g cs cs' t _ h
theorem setRow_gb{a w:World}{g:Nat}(h:a.grownBy w (some g))(cs:Array Value):a.grownBy (w.setRow g cs) (some g) :=
 ⟨h.os,h.tape,h.output,by simpa using h.size,fun i hi hne=>(setRow_other w g i cs (fun e=>hne (by rw[e]))).trans (h.block i hi hne)⟩
theorem table_any{w:World}:Calls Tryz.prog 161 #[] w fun r w'=>r= .returned (.agg qhn)∧Below w.heap.size w w':=by
 obtain⟨hz,hsz⟩:=zero_of_info Tryz.infoTab
 have HSZ:=qa hsz
 clear hsz
 go_enter Tryz.func161,Tryz.ntmps161
 go_wp2_with fail
 rw[←tabTo_zero]
 go_loopw [5] (fun i wr=>∃k:Nat,k≤256∧i= .int .i64 (k:Int)∧j6 wr (w.heap.size+1) 194 (qga k)∧j6 wr w.heap.size 194 (qga 0)∧Below w.heap.size w wr) (fun i _=>256-(intOf i).toNat)
 case atStart =>
  refine⟨0,by omega,rfl,?_,?_,((Below.refl _ _).alloc (qc _) _).alloc (by simp) _⟩
  ·
   have:=j6.new (w.alloc (.cells (qga 0) 194)) 194 (qga 0)
   simpa using this
  ·
   exact(j6.new w 194 (qga 0)).alloc _
 case round =>
  obtain⟨k,hk,rfl,hb1,hb0,hbel⟩:=hrel
  have HB1:=qa hb1
  have HB0:=qa hb0
  have HBL:=qa hbel
  by_cases hlt:k<256
  ·
   have hcell:wr.cell? ⟨w.heap.size+1,k,none⟩=some (.int .u32 0):=by
    rw[hb1.cell,tabTo_get hlt,if_neg (by omega)]
   have hfr:=hb1.frozen k
   have hkn:Hid ((k:Int)=bn (BitVec.ofNat 32 k)):=by
    unfold Hid bn
    rw[qbi]
    omega
   clear hb1 hb0 hbel
   go_wp2_with fail
   go_loop [10,3] (fun j q=>∃n:Nat,n≤8∧j= .int .i64 (n:Int)∧q= .int .u32 (bn (qaw n (BitVec.ofNat 32 k)))) (fun j _=>8-(intOf j).toNat)
   case atStart=>exact⟨0,by omega,rfl,by rw[hkn.out];rfl⟩
   case round =>
    obtain⟨n,hn,rfl,rfl⟩:=hrel
    by_cases hlt8:n<8
    ·
     have hq:=qps (qaw n (BitVec.ofNat 32 k))
     have hand:=and_one (qaw n (BitVec.ofNat 32 k))
     by_cases hodd:bn (qaw n (BitVec.ofNat 32 k))%2=1
     ·
      have hst:=xor_cdiv hodd
      rw[qi5] at hst
      rw[hodd] at hand
      clear hodd
      generalize qaw n (BitVec.ofNat 32 k)=q at *
      generalize hq':bn (qaw (n+1) (BitVec.ofNat 32 k))=q' at hst
      have HQ:=qa hq'
      clear hq'
      go_wp2
      go_round
      case rel=>exact⟨n+1,by omega,by go_num,by rw[HQ.out]⟩
      case measure=>simp[intOf];omega
     ·
      have hodd0:bn (qaw n (BitVec.ofNat 32 k))%2=0:=by omega
      have hst:=xor_none hodd0
      rw[qi5] at hst
      rw[hodd0] at hand
      clear hodd hodd0
      generalize qaw n (BitVec.ofNat 32 k)=q at *
      generalize hq':bn (qaw (n+1) (BitVec.ofNat 32 k))=q' at hst
      have HQ:=qa hq'
      clear hq'
      go_wp2
      go_round
      case rel=>exact⟨n+1,by omega,by go_num,by rw[HQ.out]⟩
      case measure=>simp[intOf];omega
    ·
     obtain rfl:n=8:=by omega
     go_wp2
     go_roundw
     case rel =>
      refine⟨k+1,by omega,by go_num,?_,HB0.out.far (by simp) _,HBL.out.setCell (by simp) _⟩
      rw[←tabTo_put hlt]
      exact HB1.out.put k _
     case measure=>simp[intOf];omega
  ·
   obtain rfl:k=256:=by omega
   clear hb1 hb0 hbel
   go_wp2_with (first | (refine wpList_load_row rfl 194 _ rfl (w.heap.size+1) rfl 194 (qga 256) (0,0) _ HB1.out Tryz.underlying194 rfl (by rw[qbv];exact HSZ.out) ?_;refine qaz ?_))
   refine⟨?_⟩
   go_wp2_with (refine wpList_store_row rfl 194 _ _ rfl w.heap.size (qga 256) rfl rfl 194 (qga 0) HB0.out (by rw[qbv];exact HSZ.out) (by rw[qbv,qbv]) (tabTo_one _) ?_)
   refine bodyPost_ret (v:= .agg qhn) ?_ rfl ⟨rfl,?_⟩
   ·
    exact results_cell_row rfl _ _ w.heap.size 194 (qga 256) (0,0) _ rfl (setRow_blk HB0.out _) Tryz.underlying194 rfl (by rw[qbv];exact HSZ.out)
   ·
    exact HBL.out.grown (row:=some w.heap.size) (setRow_gb (vc _ _) _) HBL.out.size (fun g hg=>by injection hg with hg;omega)
theorem tab_index(s:BitVec 32)(x:UInt8):bits .xor .u8 (bn s%256) (x.toNat:Int)=(((s.toNat%256) ^^^ x.toNat:Nat):Int):=by
 have hx:=zp x
 unfold bn
 rw[show((s.toNat:Int)%256)=((s.toNat%256:Nat):Int) from by omega,u8_xor_nat _ _ (by omega) (by omega)]
theorem tab_lt(s:BitVec 32)(x:UInt8):(s.toNat%256) ^^^ x.toNat<256:=by
 have hx:=zp x
 exact Nat.xor_lt_two_pow (n:=8) (by omega) (by omega)
theorem tab_next(s:BitVec 32)(x:UInt8):bits .xor .u32 (bn (qg3 (BitVec.ofNat 32 ((s.toNat%256) ^^^ x.toNat)))) (bn s/256)=bn (qqn s x):=by
 have hs:=s.isLt
 rw[cupd_table]
 have h1:=(qg3 (BitVec.ofNat 32 ((s.toNat%256) ^^^ x.toNat))).isLt
 unfold bn
 rw[show((s.toNat:Int)/256)=((s.toNat/256:Nat):Int) from by omega,u32_xor_nat _ _ h1 (by omega),BitVec.toNat_xor,BitVec.toNat_ushiftRight,Nat.shiftRight_eq_div_pow]
theorem xor_end(s:BitVec 32):bits .xor .u32 (bn s) 4294967295=bn (s ^^^ qcy):=by
 have hs:=s.isLt
 unfold bn
 rw[show(4294967295:Int)=((4294967295:Nat):Int) from rfl,u32_xor_nat _ _ hs (by omega),BitVec.toNat_xor]
 rfl
theorem of_any{w:World}(ps:List Part){h':Nat}{A:Option Addr}{c:Nat}(h:Rd w 0 h' A c (ps.map Part.val))(hh:h'≤w.heap.size)(hp:∀p∈ps,p.rd w w.heap.size) :
  Calls Tryz.prog 119 #[.slice A ps.length c] w fun r w'=>r= .returned (.int .u32 (bn (qc7 (xl ps))))∧Below w.heap.size w w':=by
 obtain⟨hz,hsz⟩:=zero_of_info Tryz.infoTab
 have HSZ:=qa hsz
 clear hsz
 have hl:=h.len
 have hc:=h.cap
 rw[q8] at hl
 unfold maxLen at hc
 have H:=qa h
 have HP:=qa hp
 clear h hp
 go_enter Tryz.func119,Tryz.ntmps119
 go_wp2_with fail
 refine table_any.mono ?_
 rintro r w1 ⟨rfl,hb1⟩
 have HB1:=qa hb1
 have s1:=hb1.size
 clear hb1
 go_wp2_with (refine wpList_store_row rfl 194 _ _ rfl w1.heap.size qhn rfl rfl 194 zero256 (j6.new w1 _ _) (by rw[show qhn.size=256 from qbv _];exact HSZ.out) (by rw[show qhn.size=256 from qbv _];rfl) (tabTo_one _) ?_;rw[World.setRow_alloc_new];refine qaz ?_)
 refine⟨?_⟩
 have HT:=qa (j6.new w1 194 qhn)
 have HW:=qa (HB1.out.alloc s1 (.cells qhn 194))
 have HA:=qa ((H.out.below HB1.out hh).alloc (ze hh s1) (.cells qhn 194))
 have hpa:∀p∈ps,p.rd (w1.alloc (.cells qhn 194)) w.heap.size:=fun p hp=>((HP.out p hp).below HB1.out (qc _)).alloc s1 _
 have HPA:=qa hpa
 clear hpa
 generalize w1.alloc (.cells qhn 194)=w2 at *
 go_wp2_with fail
 go_loop [4,12] (fun q i=>∃k:Nat,k≤ps.length∧i= .int .i64 (k:Int)∧q= .int .u32 (bn (qbt qcy (xl (ps.take k))))) (fun _ i=>ps.length-(intOf i).toNat)
 case atStart=>exact⟨0,qi _,rfl,rfl⟩
 case round =>
  obtain⟨k,hk,rfl,rfl⟩:=hrel
  by_cases hlt:k<ps.length
  ·
   have hsn:=qa (qq8 ps hlt)
   have HR:=qa (HPA.out ps[k] (qj hlt))
   obtain⟨b,off,rfl,_,_,hcell⟩:=HA.out.get (k:=k) (by rw[q8];exact hlt)
   rw[yz] at hcell
   generalize ps[k]=p at *
   generalize xl (ps.take k)=pre at *
   obtain⟨A1,c1,bs⟩:=p
   unfold Part.rd at HR
   unfold Part.val at hcell
   dsimp only at hcell HR
   have hlb:=HR.out.len
   have hcb:=HR.out.cap
   rw[yh] at hlb
   unfold maxLen at hcb
   go_wp2_with fail
   clear hcell
   go_loop [18,4] (fun i q=>∃j:Nat,j≤bs.length∧i= .int .i64 (j:Int)∧q= .int .u32 (bn (qbt (qbt qcy pre) (bs.take j)))) (fun i _=>bs.length-(intOf i).toNat)
   case atStart=>exact⟨0,qi _,rfl,rfl⟩
   case round =>
    obtain⟨j,hj,rfl,rfl⟩:=hrel
    by_cases hlj:j<bs.length
    ·
     have hst:Hid (qbt (qbt qcy pre) (bs.take (j+1))=qqn (qbt (qbt qcy pre) (bs.take j)) bs[j]):=by
      unfold Hid
      rw[qg hlj,qkp]
     obtain⟨b2,off2,rfl,_,_,hcell⟩:=HR.out.byte hlj
     have hs:=qps (qbt (qbt qcy pre) (bs.take j))
     generalize qbt (qbt qcy pre) (bs.take j)=s at *
     generalize bs[j]=x at *
     have hx:=zp x
     have hti:=tab_index s x
     have htl:=tab_lt s x
     have htn:=tab_next s x
     have htc:w2.cell? ⟨w1.heap.size,(s.toNat%256) ^^^ x.toNat,none⟩=some (.int .u32 (bn (qg3 (BitVec.ofNat 32 ((s.toNat%256) ^^^ x.toNat))))):=by
      rw[HT.out.cell,tabAll_get htl]
     have htb:=qps (qg3 (BitVec.ofNat 32 ((s.toNat%256) ^^^ x.toNat)))
     generalize bn (qg3 (BitVec.ofNat 32 ((s.toNat%256) ^^^ x.toNat)))=v at *
     generalize (s.toNat%256) ^^^ x.toNat=d at *
     go_wp2
     go_round
     case rel=>exact⟨j+1,by omega,by go_num,by rw[hst.out]⟩
     case measure=>simp[intOf];omega
    ·
     obtain rfl:j=bs.length:=by omega
     go_wp2
     go_round
     case rel=>exact⟨k+1,by omega,by go_num,by rw[hsn.out,qh2,yf]⟩
     case measure=>simp[intOf];omega
  ·
   obtain rfl:k=ps.length:=by omega
   have hs:=qps (qbt qcy (xl (ps.take ps.length)))
   have hnot:=xor_end (qbt qcy (xl (ps.take ps.length)))
   have HE:Hid (qbt qcy (xl (ps.take ps.length)) ^^^ qcy=qc7 (xl ps)):=by
    unfold Hid qc7
    rw[yf]
   generalize qbt qcy (xl (ps.take ps.length))=s at *
   go_wp2
   go_ret
   exact⟨kf (by rw[HE.out]),HW.out⟩
theorem rd_lit(w:World)(t:TypeId)(cs:Array Value)(hm:cs.size≤100000):Rd (w.alloc (.cells cs t)) 0 (w.heap.size+1) (some ⟨w.heap.size,0,none⟩) cs.size cs.toList :=
 ⟨by simp,by simp only[maxLen];omega,fun _=>⟨w.heap.size,0,rfl,qi _,by omega,fun j u hu=>by
  rw[xa,(j6.new w t cs).cell]
  simpa using hu⟩⟩
theorem of_one{w:World}(bs:List UInt8){h':Nat}{A:Option Addr}{c:Nat}(h:Rd w 0 h' A c (bv bs))(hh:h'≤w.heap.size) :
  Calls Tryz.prog 119 #[.slice (some ⟨w.heap.size,0,none⟩) 1 1] (w.alloc (.cells #[.slice A bs.length c] 26)) fun r w'=>r= .returned (.int .u32 (bn (qc7 bs)))∧Below w.heap.size w w':=by
 have hr:=rd_lit w 26 #[.slice A bs.length c] (by simp)
 refine(of_any (w:=w.alloc (.cells #[.slice A bs.length c] 26)) [⟨A,c,bs⟩] hr (by simp) ?_).mono ?_
 ·
  intro p hp
  obtain rfl:p=⟨A,c,bs⟩:=by simpa using hp
  exact(h.alloc hh _).wide (qc _) (by simp;omega)
 ·
  rintro r w' ⟨rfl,hb⟩
  refine⟨kf (by simp[xl]),?_⟩
  exact qz ((Below.refl _ _).alloc (qc _) _) hb (by simp)
theorem seal_any{w:World}(bs:List UInt8){h':Nat}{A:Option Addr}{c:Nat}(h:Rd w 0 h' A c (bv bs))(hh:h'≤w.heap.size) :
  Calls Tryz.prog 73 #[.slice A bs.length c] w fun r w'=>∃A' c',r= .returned (.slice A' 4 c')∧
   w'.ownsRow w.heap.size 5 1 (.slice A' 4 c') 4 (bv (qh0 (qc7 bs)))∧Below w.heap.size w w':=by
 have hs:=qps (qc7 bs)
 have H:=qa h
 clear h
 go_enter Tryz.func73,Tryz.ntmps73
 go_wp2_with fail
 refine(of_one bs H.out hh).mono ?_
 rintro r w1 ⟨rfl,hb1⟩
 have HB1:=qa hb1
 have s1:=hb1.size
 clear hb1
 go_wp2
 go_ret
 have h4:=qmq w1 (qh0 (qc7 bs)) #[.int .u8 (bn (qc7 bs)%256),.int .u8 (bn (qc7 bs)/256%256),.int .u8 (bn (qc7 bs)/65536%256),.int .u8 (bn (qc7 bs)/16777216)] (by rw[crcB_cells]) (by simp[qcc])
 exact⟨_,_,rfl,j4 h4 s1,HB1.out.alloc s1 _⟩
theorem Seal_any{w:World}(bs:List UInt8){h':Nat}{A:Option Addr}{c:Nat}(h:Rd w 0 h' A c (bv bs))(hh:h'≤w.heap.size)(hb:bs.length≤1000000000) :
  Calls Tryz.prog 35 #[.slice A bs.length c] w fun r w'=>∃A' c',r= .returned (.slice A' (kr bs).length c')∧
   w'.ownsRow w.heap.size 5 1 (.slice A' (kr bs).length c') (kr bs).length (bv (kr bs))∧Below w.heap.size w w':=by
 have hmk:∃w1,(Instr.makeSlice 26 (.int .i64 0) (.int .i64 ((bs.length:Int)+4))).run Tryz.prog w= .ok (.slice (some ⟨w.heap.size,0,none⟩) 0 (bs.length+4)) w1∧
   w1.ownsRow w.heap.size 5 1 (.slice (some ⟨w.heap.size,0,none⟩) 0 (bs.length+4)) 0 []∧w.grownBy w1 none:=by
  obtain⟨i0,hi0,hz0,hz1,hz2⟩:=info_parts Tryz.infoU8
  have:=run_make_own (P:=Tryz.prog) w w.heap.size 26 5 i0 _ 1 Tryz.underlying26 hi0 hz0 hz1 .i64 .i64 (bs.length+4) (by rw[hz2];omega) (by simp only[maxLen];omega) (qc _)
  simpa using this
 obtain⟨w1,hmake,hown1,hg1⟩:=hmk
 have k1:Below w.heap.size w w1:=(Below.refl _ _).grown hg1 (qc _) (by simp)
 have s1:=k1.size
 obtain⟨A2,c2,w2,hrun2,hown2,hg2⟩:=j9 w1 w.heap.size (.slice (some ⟨w.heap.size,0,none⟩) 0 (bs.length+4)) [] bs bs (by simp) hown1 (h.below k1 hh) (by simp;omega) s1
 have k2:Below w.heap.size w w2:=k1.grown hg2 s1 (by simp[Value.ownBlock])
 have s2:=k2.size
 have H:=qa h
 have HO2:=qa hown2
 have K2:=qa k2
 clear h hown1 hg1 k1 hown2 hg2 k2
 go_enter Tryz.func35,Tryz.ntmps35
 go_wp2_with (at_builtin;refine wpList_append_run rfl _ _ _ _ rfl rfl rfl hrun2 ?_)
 refine(seal_any bs (H.out.below K2.out hh) (by omega)).mono ?_
 rintro r w3 ⟨A3,c3,rfl,hown3,hb3⟩
 have HB3:=qa hb3
 have s3:=hb3.size
 obtain⟨A4,c4,w4,hrun4,hown4,hg4⟩:=j9 w3 w.heap.size _ bs (qh0 (qc7 bs)) (kr bs) rfl (js HO2.out hb3 (qc _)) (Rd.own hown3) (by rw[qcc];omega) (by omega)
 rw[qcc] at hrun4
 have HO4:=qa hown4
 have HG4:=qa hg4
 clear hown3 hb3 hown4 hg4 hrun2 hmake
 go_wp2_with (at_builtin;refine wpList_append_run rfl _ _ _ _ rfl rfl rfl hrun4 ?_)
 go_ret
 refine⟨A4,c4,rfl,HO4.out,?_⟩
 exact(qz K2.out HB3.out s2).grown HG4.out (by omega) (fun k hk=>qef HO2.out k hk)
theorem open_short{w:World}(bs:List UInt8){h':Nat}{A:Option Addr}{c:Nat}(h:Rd w 0 h' A c (bv bs))(hh:h'≤w.heap.size)(hb:bs.length<4) :
  Calls Tryz.prog 42 #[.slice A bs.length c] w fun r w'=>r= .returned (.tuple #[.slice none 0 0,.bool false])∧Below w.heap.size w w':=by
 have hd:decide ((bs.length:Int)-4<0)=true:=by simp;omega
 go_enter Tryz.func42,Tryz.ntmps42
 go_wp2
 go_outline
 go_quiet (fail)
 go_wp2
 go_ret2
 exact⟨rfl,zg (Below.refl _ _) _⟩
theorem equal_len{w:World}{lo h' lo2 h2 n m:Nat}{A B:Option Addr}{c d:Nat}(xs ys:List UInt8)(b:Bool)(hx:Rd w lo h' A c (bv xs))(hy:Rd w lo2 h2 B d (bv ys))(hn:xs.length=n)(hm:ys.length=m)(he:decide (xs=ys)=b) :
  Calls Tryz.prog 78 #[.slice A n c,.slice B m d] w fun r w'=>r= .returned (.bool b)∧w=w':=by
 subst hn hm he
 exact equal_any xs ys hx hy
theorem seal_len{w:World}{n:Nat}(bs xs:List UInt8){h':Nat}{A:Option Addr}{c:Nat}(h:Rd w 0 h' A c (bv bs))(hh:h'≤w.heap.size)(hn:n≤bs.length)(hx:bs.take n=xs) :
  Calls Tryz.prog 73 #[.slice A n c] w fun r w'=>∃A' c',r= .returned (.slice A' 4 c')∧
   w'.ownsRow w.heap.size 5 1 (.slice A' 4 c') 4 (bv (qh0 (qc7 xs)))∧Below w.heap.size w w':=by
 subst hx
 have h1:=seal_any (w:=w) (bs.take n) (A:=A) (c:=c) (h':=h') (by rw[bv_take];exact h.take_ n) hh
 rwa [qy,yx hn] at h1
theorem bclone_len{w:World}{n:Nat}(bs xs:List UInt8){h':Nat}{A:Option Addr}{c:Nat}(h:Rd w 0 h' A c (bv bs))(hh:h'≤w.heap.size)(hn:n≤bs.length)(hx:bs.take n=xs)(hb:bs.length≤1000000000) :
  Calls Tryz.prog 79 #[.slice A n c] w fun r w'=>∃A' c',r= .returned (.slice A' n c')∧
   w'.ownsRow w.heap.size 5 1 (.slice A' n c') n (bv xs)∧Below w.heap.size w w':=by
 subst hx
 have h1:=bclone_any (w:=w) (bs.take n) (A:=A) (c:=c) (h':=h') (by rw[bv_take];exact h.take_ n) hh (by rw[qy];omega)
 rwa [qy,yx hn] at h1
theorem Rd.behind{w:World}{lo hi c n:Nat}{A:Option Addr}{bs:List UInt8}(h:Rd w lo hi A c (bv bs))(hn:n<bs.length):Rd w lo hi (Option.map (fun x=>x.add n) A) (c-n) (bv (bs.drop n)):=by
 have hl:=h.len
 rw[yh] at hl
 have h1:=h.cut (k:=n) (n:=bs.length) (by omega) (by rw[yh];omega)
 rw[if_neg (by omega),qo (by simp[bv])] at h1
 rw[qpq]
 exact h1
theorem open_no{w:World}(bs:List UInt8){h':Nat}{A:Option Addr}{c:Nat}(h:Rd w 0 h' A c (bv bs))(hh:h'≤w.heap.size)(hb:4≤bs.length)(hs:qft bs=false) :
  Calls Tryz.prog 42 #[.slice A bs.length c] w fun r w'=>r= .returned (.tuple #[.slice none 0 0,.bool false])∧Below w.heap.size w w':=by
 obtain⟨n,hn⟩:∃n,bs.length=n+4:=⟨bs.length-4,by omega⟩
 have hd:decide ((n:Int)<0)=false:=by simp
 have hsub:(bs.length:Int)-4=(n:Int):=by omega
 have hl:=h.len
 have hc:=h.cap
 rw[yh] at hl
 unfold maxLen at hc
 have l1:(0:Int)≤(n:Int):=by omega
 have l2:(n:Int)≤(bs.length:Int):=by omega
 have l3:(n:Int)<(c:Int):=by omega
 have l4:(bs.length:Int)≤(c:Int):=by omega
 have l5:n<c:=by omega
 have l6:(n:Int)≤(c:Int):=by omega
 have l7:n≤c:=by omega
 have HE:Hid (decide (bs.drop n=qh0 (qc7 (bs.take n)))=false):=by
  unfold Hid
  unfold qft at hs
  rw[qp hb,qbb,show bs.length-4=n from by omega] at hs
  exact hs
 have HN:=qa hn
 have H:=qa h
 clear h hn hs
 go_enter Tryz.func42,Tryz.ntmps42
 go_wp2
 go_region_held3 (fun _=>True) (trivial) (first
  | (go_at_call 73;refine(seal_len bs (bs.take n) H.out.drew hh (by omega) rfl).mono ?_;rintro r w1 ⟨A3,c3,rfl,hown,hb1⟩;have HO:=qa hown;have HB:=qa hb1;clear hown hb1)
  | (go_at_call 78;refine(equal_len (bs.drop n) (qh0 (qc7 (bs.take n))) false ((H.out.drew.below HB.out hh).behind (by have:=HN.out;omega)) (Rd.own HO.out) (by rw[qu]) (qcc _) HE.out).mono ?_;rintro r w2 ⟨rfl,rfl⟩))
 go_wp2
 go_ret2
 exact⟨rfl,qz (Below.drew (Below.refl w.heap.size w)) HB.out (qc _)⟩
theorem open_yes{w:World}(bs:List UInt8){h':Nat}{A:Option Addr}{c:Nat}(h:Rd w 0 h' A c (bv bs))(hh:h'≤w.heap.size)(hs:qft bs=true)(hbig:bs.length≤1000000000) :
  Calls Tryz.prog 42 #[.slice A bs.length c] w fun r w'=>∃A' c',r= .returned (.tuple #[.slice A' (bs.length-4) c',.bool true])∧
   w'.ownsRow w.heap.size 5 1 (.slice A' (bs.length-4) c') (bs.length-4) (bv (bs.take (bs.length-4)))∧Below w.heap.size w w':=by
 have hb:4≤bs.length:=by
  unfold qft at hs
  simp only[jl,decide_eq_true_eq] at hs
  exact hs.1
 obtain⟨n,hn⟩:∃n,bs.length=n+4:=⟨bs.length-4,by omega⟩
 have hd:decide ((n:Int)<0)=false:=by simp
 have hsub:(bs.length:Int)-4=(n:Int):=by omega
 have hl:=h.len
 have hc:=h.cap
 rw[yh] at hl
 unfold maxLen at hc
 have l1:(0:Int)≤(n:Int):=by omega
 have l2:(n:Int)≤(bs.length:Int):=by omega
 have l3:(n:Int)<(c:Int):=by omega
 have l4:(bs.length:Int)≤(c:Int):=by omega
 have l5:n<c:=by omega
 have l6:(n:Int)≤(c:Int):=by omega
 have l7:n≤c:=by omega
 have HE:Hid (decide (bs.drop n=qh0 (qc7 (bs.take n)))=true):=by
  unfold Hid
  unfold qft at hs
  rw[qp hb,qbb,show bs.length-4=n from by omega] at hs
  exact hs
 have HN:=qa hn
 have H:=qa h
 clear h hn hs
 go_enter Tryz.func42,Tryz.ntmps42
 go_wp2
 go_region_held3 (fun _=>True) (trivial) (first
  | (go_at_call 73;refine(seal_len bs (bs.take n) H.out.drew hh (by omega) rfl).mono ?_;rintro r w1 ⟨A3,c3,rfl,hown,hb1⟩;have HO:=qa hown;have HB:=qa hb1;clear hown hb1)
  | (go_at_call 78;refine(equal_len (bs.drop n) (qh0 (qc7 (bs.take n))) true ((H.out.drew.below HB.out hh).behind (by have:=HN.out;omega)) (Rd.own HO.out) (by rw[qu]) (qcc _) HE.out).mono ?_;rintro r w2 ⟨rfl,rfl⟩))
 have k1:=qz (Below.drew (Below.refl w.heap.size w)) HB.out (qc _)
 have K1:=qa k1
 have s1:=k1.size
 clear k1
 go_wp2_with fail
 refine(bclone_len bs (bs.take n) (H.out.below K1.out hh) (by omega) (by omega) rfl hbig).mono ?_
 rintro r w2 ⟨A4,c4,rfl,hown4,hb4⟩
 have HO4:=qa hown4
 have HB4:=qa hb4
 clear hown4 hb4
 go_wp2
 go_ret2
 have e:bs.length-4=n:=by have:=HN.out;omega
 rw[e]
 exact⟨A4,c4,rfl,j4 HO4.out s1,qz K1.out HB4.out s1⟩
def OpenS(bs:List UInt8)(k:Nat):Prop:=∀ {w:World} {lo g:Nat},vw w lo g bs k 0→
  Calls Tryz.prog 46 #[cp g] w fun r w'=>∃G,r= .returned (.pointer (some ⟨G,0,none⟩))∧w.heap.size≤G∧qcp w' w.heap.size G (qb3 bs k 0).1∧vw w' lo g bs (qb3 bs k 0).2.1 (qb3 bs k 0).2.2∧w.grownBy w' (some g)
def qrx(bs:List UInt8):Prop:=∀(nc k0 cn k1 i kp left m k2 j kq b k3:Nat) (e0 e1:Int) (gs:List GrpS) (cs:List ColS) (fg:List Nat) (fr:List Bool),j8 bs 0 0 8=(nc,k0,e0)→j8 bs k0 0 4096=(cn,k1,e1)→i<cn→qcv bs nc k1 i=some (gs,kp,left)→j8 bs kp 0 (left:Int)=(m,k2,0)→m≠0→j<nc→qc5 bs m k2 j=some (cs,kq)→
  TakeG bs kq 0 b fg fr k3 0→OpenS bs k3
theorem open_bad{w:World}{lo g k:Nat}{bs:List UInt8}{e:Int}(h:vw w lo g bs k e)(hb:bs.length≤1000000000)(he:e≠0) :
  Calls Tryz.prog 46 #[cp g] w fun r w'=>∃G,r= .returned (.pointer (some ⟨G,0,none⟩))∧w.heap.size≤G∧qcp w' w.heap.size G (qb3 bs k e).1∧vw w' lo g bs (qb3 bs k e).2.1 (qb3 bs k e).2.2∧w.grownBy w' (some g):=by
 refine open_vW h hb fun kd hkd => ?_
 rw[qde _ _ _ _ _ he] at hkd
 have hk0:kd=0:=by rw[←hkd];rfl
 subst hk0
 exact fun {w G k c0 e} there {A0} h1 h2 h3 h4 h5 h6 h7 h8=>(take_other 0 (by decide) (by decide) (by decide) there h1 h2 h3 h4 h5 h6 h7).mono fun r w' ⟨a,b,c⟩=>⟨a,b,c,fun hz=>by
  have he:e≠0:=h8 (by omega)
  rw[qjk bs k 0 there he] at hz
  exact absurd hz he⟩
theorem Tryz.infoGrp:(Tryz.prog.info? 48).map (fun i=>(i.zero,i.size,i.bytes))=some (some (.agg #[.int .i64 0,.slice none 0 0,.slice none 0 0]),3,56):=by kernel_rfl
theorem Tryz.infoChk:(Tryz.prog.info? 51).map (fun i=>(i.zero,i.size,i.bytes))=some (some (.pointer none),1,8):=by kernel_rfl
theorem append_flt{w:World}{base:Nat}{v:Value}{es:List Fc}{e:Fc}{g n:Nat}(hn:es.length=n)(hown:w.ownsRow base 67 3 v n (fcs es))(hc:∀j u,(qfk e)[j]? = some u→w.cell? ⟨g,j,none⟩=some u)(hb:n+1≤1000000)(hbase:base≤w.heap.size) :
  ∃A' c' w',(Builtin.append_ #[45,45] 45 #[v,.slice (some ⟨g,0,none⟩) 1 1]).run Tryz.prog w= .ok (.slice A' (n+1) c') w'∧w'.ownsRow base 67 3 (.slice A' (n+1) c') (n+1) (fcs (es++[e]))∧w.grownBy w' v.ownBlock∧
   ((Value.slice A' (n+1) c').ownBlock=v.ownBlock∨(Value.slice A' (n+1) c').ownBlock=some w.heap.size):=by
 subst hn
 obtain⟨i0,hi0,hz0,hz1,hz2⟩:=info_parts Tryz.infoFlt
 obtain⟨v',w',hrun,h2,h3,_,h5⟩:=run_append_own_at (P:=Tryz.prog) w base 45 45 67 i0 _ 3 56 Tryz.underlying45 hi0 hz0 hz1 hz2 rfl (by omega) v es.length (fcs es) hown ⟨g,0,none⟩ 1 1 (qfk e) rfl
  (fun j u hu=>by
   have:=hc j u hu
   rwa [show(⟨g,j,none⟩:Addr)=(⟨g,0,none⟩:Addr).add j from by unfold Addr.add;by_cases h0:j=0 <;> simp[h0]] at this) (fc_one e) (by simp only[maxLen];omega) (by omega) hbase
 obtain⟨A',c',rfl,_⟩:=qd3 w' h2
 exact⟨A',c',w',hrun,by rw[fcs_snoc];exact h2,h3,h5⟩
theorem append_grp{w:World}{base:Nat}{v:Value}{rs:List Gr}{r:Gr}{g n:Nat}(hn:rs.length=n)(hown:w.ownsRow base 48 3 v n (grs rs))(hc:∀j u,(qjd r)[j]? = some u→w.cell? ⟨g,j,none⟩=some u)(hb:n+1≤1000000)(hbase:base≤w.heap.size) :
  ∃A' c' w',(Builtin.append_ #[37,37] 37 #[v,.slice (some ⟨g,0,none⟩) 1 1]).run Tryz.prog w= .ok (.slice A' (n+1) c') w'∧w'.ownsRow base 48 3 (.slice A' (n+1) c') (n+1) (grs (rs++[r]))∧w.grownBy w' v.ownBlock∧
   ((Value.slice A' (n+1) c').ownBlock=v.ownBlock∨(Value.slice A' (n+1) c').ownBlock=some w.heap.size):=by
 subst hn
 obtain⟨i0,hi0,hz0,hz1,hz2⟩:=info_parts Tryz.infoGrp
 obtain⟨v',w',hrun,h2,h3,_,h5⟩:=run_append_own_at (P:=Tryz.prog) w base 37 37 48 i0 _ 3 56 Tryz.underlying37 hi0 hz0 hz1 hz2 rfl (by omega) v rs.length (grs rs) hown ⟨g,0,none⟩ 1 1 (qjd r) rfl
  (fun j u hu=>by
   have:=hc j u hu
   rwa [show(⟨g,j,none⟩:Addr)=(⟨g,0,none⟩:Addr).add j from by unfold Addr.add;by_cases h0:j=0 <;> simp[h0]] at this) (gr_one r) (by simp only[maxLen];omega) (by omega) hbase
 obtain⟨A',c',rfl,_⟩:=qd3 w' h2
 exact⟨A',c',w',hrun,by rw[grs_snoc];exact h2,h3,h5⟩
theorem append_chk{w:World}{base:Nat}{v:Value}{ps:List Nat}{G g n:Nat}(hn:ps.length=n)(hown:w.ownsRow base 51 1 v n (ptV ps))(hc:w.cell? ⟨g,0,none⟩=some (.pointer (some ⟨G,0,none⟩)))(hb:n+1≤1000000)(hbase:base≤w.heap.size) :
  ∃A' c' w',(Builtin.append_ #[46,46] 46 #[v,.slice (some ⟨g,0,none⟩) 1 1]).run Tryz.prog w= .ok (.slice A' (n+1) c') w'∧w'.ownsRow base 51 1 (.slice A' (n+1) c') (n+1) (ptV (ps++[G]))∧w.grownBy w' v.ownBlock∧
   ((Value.slice A' (n+1) c').ownBlock=v.ownBlock∨(Value.slice A' (n+1) c').ownBlock=some w.heap.size):=by
 subst hn
 obtain⟨i0,hi0,hz0,hz1,hz2⟩:=info_parts Tryz.infoChk
 have hown2:w.ownsRow base 51 1 v ps.length (ptV ps):=hown
 obtain⟨v',w',hrun,h2,h3,_,h5⟩:=run_append_own_at (P:=Tryz.prog) w base 46 46 51 i0 _ 1 8 Tryz.underlying46 hi0 hz0 hz1 hz2 rfl (by omega) v ps.length (ptV ps) hown2 ⟨g,0,none⟩ 1 1 [.pointer (some ⟨G,0,none⟩)] rfl
  (fun j u hu=>by
   match j,hu with
   | 0,hu=>simp at hu;subst hu;exact hc
   | j+1,hu=>simp at hu) (fun u hu=>by rw[zo.1 hu];rfl) (by simp only[maxLen];omega) (by omega) hbase
 obtain⟨A',c',rfl,_⟩:=qd3 w' h2
 exact⟨A',c',w',hrun,by rw[ptV_snoc];exact h2,h3,h5⟩
theorem GrM.wide{w:World}{lo lo':Nat}{r:Gr}(h:GrM w lo r)(hl:lo'≤lo):GrM w lo' r:=⟨h.fil.wide hl (qc _),h.chk.wide hl (qc _),fun t ht=>(h.its t ht).wide hl⟩
theorem GrM.of{w:World}{B rows:Nat}{its:List It}{FA KA:Option Addr}{fc kc:Nat}(hF:w.ownsRow B 67 3 (.slice FA its.length fc) its.length (fcs (its.map It.e)))(hK:w.ownsRow B 51 1 (.slice KA its.length kc) its.length (ptV (its.map It.g)))(hI:∀t∈its,ItM w B t):GrM w B ⟨rows,its,FA,fc,KA,kc⟩:=by
 refine⟨?_,?_,hI⟩
 ·
  have h1:fcs (its.map It.e)=its.flatMap fun t=>qfk t.e:=by simp[fcs,List.flatMap_map]
  rw[h1] at hF
  exact els_own (k:=3) (fun t:It=>qfk t.e) (by decide) (fun _=>rfl) hF
 ·
  have h1:ptV (its.map It.g)=its.flatMap fun t=>[Value.pointer (some ⟨t.g,0,none⟩)]:=by
   clear hF hK hI
   induction its with
   | nil=>rfl
   | cons a l ih=>rw[qen,←ih];rfl
  rw[h1] at hK
  exact els_own (k:=1) (fun t:It=>[Value.pointer (some ⟨t.g,0,none⟩)]) (by decide) (fun _=>rfl) hK
structure InnS (bs:List UInt8) (lo cg G gv B2 m k2:Nat) (wb w:World) (j kq:Nat) (its:List It) (FA:Option Addr) (fc:Nat) (KA:Option Addr) (kc:Nat):Prop where
 len:its.length=j
 cols:qc5 bs m k2 j=some (its.map It.c,kq)
 cur:vw w lo cg bs kq 0
 blk:j6 w gv 48 #[.int .i64 (m:Int),.slice FA j fc,.slice KA j kc]
 fil:w.ownsRow B2 67 3 (.slice FA j fc) j (fcs (its.map It.e))
 chk:w.ownsRow B2 51 1 (.slice KA j kc) j (ptV (its.map It.g))
 apart:∀q,(Value.slice FA j fc).ownBlock=some q→(Value.slice KA j kc).ownBlock≠some q
 its:qfs w (fun k=>k<B2∨(Value.slice FA j fc).ownBlock=some k∨(Value.slice KA j kc).ownBlock=some k) (fun W=>∀t∈its,ItM W B2 t)
 out:Out wb w (fun k=>k=cg∨k=gv)
 size:B2≤w.heap.size
theorem gb_set(w:World)(g i:Nat)(u:Value):w.grownBy (w.setCell ⟨g,i,none⟩ u) (some g):=xv (vc w (some g)) (.inl rfl) _
theorem own_al{w:World}{base n size:Nat}{e:TypeId}{v:Value}{xs:List Value}(h:w.ownsRow base e size v n xs)(o:Obj):(w.alloc o).ownsRow base e size v n xs :=
 js h ((Below.refl _ w).alloc (qc _) o) (qc _)
theorem InnS.push{bs:List UInt8}{lo cg G gv B2 m k2:Nat}{wb w wf:World}{j kq k':Nat}{its:List It}{FA KA:Option Addr}{fc kc:Nat}(h:InnS bs lo cg G gv B2 m k2 wb w j kq its FA fc KA kc)(hcg:cg<B2)(hG:G<B2)(hgv:gv<B2)(hcgv:cg<gv)(hj:j<100)(hB2:wb.heap.size≤B2)
  (ho:Out w wf (fun k=>k=cg)) (hc:vw wf lo cg bs k' 0) (t:It) (hcol:qc5 bs m k2 (j+1)=some (its.map It.c++[t.c],k'))
  (ht:qfs wf (fun k=>k<B2∨(Value.slice FA j fc).ownBlock=some k∨(Value.slice KA j kc).ownBlock=some k) (fun W=>ItM W B2 t)) :
  j6 wf gv 48 #[.int .i64 (m:Int),.slice FA j fc,.slice KA j kc]∧
  ∃FA' fc' wh,(Builtin.append_ #[45,45] 45 #[.slice FA j fc,.slice (some ⟨wf.heap.size,0,none⟩) 1 1]).run Tryz.prog (wf.alloc (.cells (qfk t.e).toArray 67))= .ok (.slice FA' (j+1) fc') wh∧
   j6 wh gv 48 #[.int .i64 (m:Int),.slice FA j fc,.slice KA j kc]∧∃wi,wh.setCell ⟨gv,1,none⟩ (.slice FA' (j+1) fc')=wi∧j6 wi gv 48 #[.int .i64 (m:Int),.slice FA' (j+1) fc',.slice KA j kc]∧
  ∃KA' kc' wk,(Builtin.append_ #[46,46] 46 #[.slice KA j kc,.slice (some ⟨wi.heap.size,0,none⟩) 1 1]).run Tryz.prog (wi.alloc (.cells #[.pointer (some ⟨t.g,0,none⟩)] 51))= .ok (.slice KA' (j+1) kc') wk∧
   j6 wk gv 48 #[.int .i64 (m:Int),.slice FA' (j+1) fc',.slice KA j kc]∧∃wl,wk.setCell ⟨gv,2,none⟩ (.slice KA' (j+1) kc')=wl∧
   InnS bs lo cg G gv B2 m k2 wb wl (j+1) k' (its++[t]) FA' fc' KA' kc':=by
 have hlen:=h.len
 have hsf:=ho.size
 have hsz:=h.size
 have bf:j6 wf gv 48 #[.int .i64 (m:Int),.slice FA j fc,.slice KA j kc]:=h.blk.out ho (by omega)
 have hFq:∀q,(Value.slice FA j fc).ownBlock=some q→B2≤q∧q<w.heap.size:=fun q hq=>zk h.fil hq
 have hKq:∀q,(Value.slice KA j kc).ownBlock=some q→B2≤q∧q<w.heap.size:=fun q hq=>zk h.chk hq
 have of:wf.ownsRow B2 67 3 (.slice FA j fc) j (fcs (its.map It.e)):=qfc h.fil ho fun k hk e=>by have:=hFq k hk;omega
 have ok:wf.ownsRow B2 51 1 (.slice KA j kc) j (ptV (its.map It.g)):=qfc h.chk ho fun k hk e=>by have:=hKq k hk;omega
 -- the literal of the filter
 obtain⟨wg,hwg⟩:∃wg,wf.alloc (.cells (qfk t.e).toArray 67)=wg:=⟨_,rfl⟩
 have sg:wg.heap.size=wf.heap.size+1:=by rw[←hwg];simp
 have ofg:wg.ownsRow B2 67 3 (.slice FA j fc) j (fcs (its.map It.e)):=by rw[←hwg];exact own_al of _
 have okg:wg.ownsRow B2 51 1 (.slice KA j kc) j (ptV (its.map It.g)):=by rw[←hwg];exact own_al ok _
 have bg:j6 wg gv 48 #[.int .i64 (m:Int),.slice FA j fc,.slice KA j kc]:=by rw[←hwg];exact bf.alloc _
 have lg:j6 wg wf.heap.size 67 (qfk t.e).toArray:=by rw[←hwg];exact j6.new wf _ _
 obtain⟨FA',fc',wh,hrun1,of1,g1,q1⟩:=append_flt (e:=t.e) (g:=wf.heap.size) (by rw[q8,hlen]) ofg (fun i u hu=>by rw[lg.cell];simpa using hu) (by omega) (by omega)
 have sh:=g1.size
 have bh:j6 wh gv 48 #[.int .i64 (m:Int),.slice FA j fc,.slice KA j kc]:=bg.grown g1 fun e=>by have:=hFq gv e.symm;omega
 have okh:wh.ownsRow B2 51 1 (.slice KA j kc) j (ptV (its.map It.g)):=ju okg fun k hk=>g1.block k (zk okg hk).2 fun e=>h.apart k e.symm hk
 have hF1:∀q,(Value.slice FA' (j+1) fc').ownBlock=some q→(Value.slice FA j fc).ownBlock=some q∨q=wg.heap.size:=fun q hq=>by
  rcases q1 with e | e
  ·
   exact .inl (e ▸ hq)
  ·
   rw[e] at hq;injection hq with hq;exact .inr hq.symm
 obtain⟨wi,hwi⟩:∃wi,wh.setCell ⟨gv,1,none⟩ (.slice FA' (j+1) fc')=wi:=⟨_,rfl⟩
 have gi:wh.grownBy wi (some gv):=by rw[←hwi];exact gb_set wh gv 1 _
 have si:=gi.size
 have bi:j6 wi gv 48 #[.int .i64 (m:Int),.slice FA' (j+1) fc',.slice KA j kc]:=by rw[←hwi];exact bh.put 1 _
 have ofi:wi.ownsRow B2 67 3 (.slice FA' (j+1) fc') (j+1) (fcs (its.map It.e++[t.e])):=ju of1 fun k hk=>gi.block k (zk of1 hk).2 fun e=>by have:=(zk of1 hk).1;injection e with e;omega
 have oki:wi.ownsRow B2 51 1 (.slice KA j kc) j (ptV (its.map It.g)):=ju okh fun k hk=>gi.block k (zk okh hk).2 fun e=>by have:=hKq k hk;injection e with e;omega
 -- the literal of the chunk
 obtain⟨wj,hwj⟩:∃wj,wi.alloc (.cells #[.pointer (some ⟨t.g,0,none⟩)] 51)=wj:=⟨_,rfl⟩
 have sj:wj.heap.size=wi.heap.size+1:=by rw[←hwj];simp
 have ofj:wj.ownsRow B2 67 3 (.slice FA' (j+1) fc') (j+1) (fcs (its.map It.e++[t.e])):=by rw[←hwj];exact own_al ofi _
 have okj:wj.ownsRow B2 51 1 (.slice KA j kc) j (ptV (its.map It.g)):=by rw[←hwj];exact own_al oki _
 have bj:j6 wj gv 48 #[.int .i64 (m:Int),.slice FA' (j+1) fc',.slice KA j kc]:=by rw[←hwj];exact bi.alloc _
 have lj:wj.cell? ⟨wi.heap.size,0,none⟩=some (.pointer (some ⟨t.g,0,none⟩)):=by rw[←hwj,za _ _ _ _ rfl];rfl
 obtain⟨KA',kc',wk,hrun2,ok1,g2,q2⟩:=append_chk (by rw[q8,hlen]) okj lj (by omega) (by omega)
 have sk:=g2.size
 have bk:j6 wk gv 48 #[.int .i64 (m:Int),.slice FA' (j+1) fc',.slice KA j kc]:=bj.grown g2 fun e=>by have:=hKq gv e.symm;omega
 have hFK:∀q,(Value.slice FA' (j+1) fc').ownBlock=some q→(Value.slice KA j kc).ownBlock≠some q:=fun q hq e=>by
  rcases hF1 q hq with h1 | h1
  ·
   exact h.apart q h1 e
  ·
   have:=hKq q e;omega
 have ofk:wk.ownsRow B2 67 3 (.slice FA' (j+1) fc') (j+1) (fcs (its.map It.e++[t.e])):=ju ofj fun k hk=>g2.block k (zk ofj hk).2 fun e=>hFK k hk e.symm
 have hK1:∀q,(Value.slice KA' (j+1) kc').ownBlock=some q→(Value.slice KA j kc).ownBlock=some q∨q=wj.heap.size:=fun q hq=>by
  rcases q2 with e | e
  ·
   exact .inl (e ▸ hq)
  ·
   rw[e] at hq;injection hq with hq;exact .inr hq.symm
 obtain⟨wl,hwl2⟩:∃wl,wk.setCell ⟨gv,2,none⟩ (.slice KA' (j+1) kc')=wl:=⟨_,rfl⟩
 have gl:wk.grownBy wl (some gv):=by rw[←hwl2];exact gb_set wk gv 2 _
 have bl:j6 wl gv 48 #[.int .i64 (m:Int),.slice FA' (j+1) fc',.slice KA' (j+1) kc']:=by rw[←hwl2];exact bk.put 2 _
 have ofl:wl.ownsRow B2 67 3 (.slice FA' (j+1) fc') (j+1) (fcs (its.map It.e++[t.e])):=ju ofk fun k hk=>gl.block k (zk ofk hk).2 fun e=>by have:=(zk ofk hk).1;injection e with e;omega
 have okl:wl.ownsRow B2 51 1 (.slice KA' (j+1) kc') (j+1) (ptV (its.map It.g++[t.g])):=ju ok1 fun k hk=>gl.block k (zk ok1 hk).2 fun e=>by have:=(zk ok1 hk).1;injection e with e;omega
 have sl:=gl.size
 -- what was written
 have o1:Out wf wg (fun _=>False):=by rw[←hwg];exact(Out.refl _ _).alloc _
 have o2:Out wg wh (fun k=>(Value.slice FA j fc).ownBlock=some k):=Out.of_gb g1 fun k hk=>hk
 have o3:Out wh wi (fun k=>k=gv):=Out.of_gb gi fun k hk=>(jh hk).symm
 have o4:Out wi wj (fun _=>False):=by rw[←hwj];exact(Out.refl _ _).alloc _
 have o5:Out wj wk (fun k=>(Value.slice KA j kc).ownBlock=some k):=Out.of_gb g2 fun k hk=>hk
 have o6:Out wk wl (fun k=>k=gv):=Out.of_gb gl fun k hk=>(jh hk).symm
 have oX:Out wf wl (fun k=>k<B2∨(Value.slice FA j fc).ownBlock=some k∨(Value.slice KA j kc).ownBlock=some k) :=
  (((((Out.refl wf _).trans o1 (fun _ _ h=>h.elim)).trans o2 (fun i _ h=> .inr (.inl h))).trans o3 (fun i _ h=> .inl (by omega))).trans o4 (fun _ _ h=>h.elim)).trans o5 (fun i _ h=> .inr (.inr h)) |>.trans o6 (fun i _ h=> .inl (by omega))
 have oY:Out wf wl (fun k=>k=gv∨B2≤k) :=
  (((((Out.refl wf _).trans o1 (fun _ _ h=>h.elim)).trans o2 (fun i _ h=> .inr (hFq i h).1)).trans o3 (fun i _ h=> .inl h)).trans o4 (fun _ _ h=>h.elim)).trans o5 (fun i _ h=> .inr (hKq i h).1) |>.trans o6 (fun i _ h=> .inl h)
 have hY:∀i,i<wf.heap.size→(i<B2∨(Value.slice FA' (j+1) fc').ownBlock=some i∨(Value.slice KA' (j+1) kc').ownBlock=some i)→(i<B2∨(Value.slice FA j fc).ownBlock=some i∨(Value.slice KA j kc).ownBlock=some i):=fun i hi h=>by
  rcases h with h | h | h
  ·
   exact .inl h
  ·
   rcases hF1 i h with h1 | h1
   ·
    exact .inr (.inl h1)
   ·
    omega
  ·
   rcases hK1 i h with h1 | h1
   ·
    exact .inr (.inr h1)
   ·
    omega
 have hcur:vw wl lo cg bs k' 0:=by
  obtain⟨A,c,hb,hrd,hk,hl⟩:=hc
  exact⟨A,c,hb.out oY (by omega),hrd.out oY (by have:=hb.lt;omega) (fun k h1 h2=>by omega),hk,hl⟩
 have hwl:Out w wl (fun k=>k<B2∨(Value.slice FA j fc).ownBlock=some k∨(Value.slice KA j kc).ownBlock=some k):=((Out.refl w _).trans ho (fun i _ h=> .inl (by omega))).trans oX (fun i _ h=>h)
 have hap:∀q,(Value.slice FA' (j+1) fc').ownBlock=some q→(Value.slice KA' (j+1) kc').ownBlock≠some q:=fun q hq e=>by
  rcases hK1 q e with h1 | h1
  ·
   exact hFK q hq h1
  ·
   have:=(zk ofj hq).2;omega
 refine⟨bf,FA',fc',wh,by rw[hwg];exact hrun1,bh,wi,hwi,bi,KA',kc',wk,by rw[hwj];exact hrun2,bk,wl,hwl2,⟨by rw[qd,hlen];rfl,by rw[jg];exact hcol,hcur,bl,by rw[jg];exact ofl,by rw[jg];exact okl,hap,fun W hW x hx => ?_,?_,by omega⟩⟩
 ·
  have hW1:Out wf W _:=oX.trans hW hY
  rcases zt.1 hx with hx | hx
  ·
   exact h.its W (hwl.trans hW (fun i hi hx=>hY i (by omega) hx)) x hx
  ·
   rw[zo.1 hx]
   exact ht W hW1
 ·
  refine(h.out.trans ho (fun i _ h=> .inl h)).trans oY (fun i hi h => ?_)
  rcases h with h | h
  ·
   exact .inr h
  ·
   exact absurd h (by omega)
structure OttS (bs:List UInt8) (lo cg G B nc k1:Nat) (e1:Int) (w:World) (i kp left:Nat) (rs:List Gr) (A:Option Addr) (c:Nat):Prop where
 len:rs.length=i
 grps:qcv bs nc k1 i=some (rs.map Gr.toS,kp,left)
 cur:vw w lo cg bs kp e1
 blk:j6 w G 39 #[.int .i64 (nc:Int),.slice A i c]
 row:w.ownsRow B 48 3 (.slice A i c) i (grs rs)
 grs:qfs w (fun k=>k<B∨(Value.slice A i c).ownBlock=some k) (fun W=>∀r∈rs,GrM W B r)
 size:B≤w.heap.size
theorem vw.out{w w':World}{lo g k:Nat}{bs:List UInt8}{e:Int}{X:Nat→Prop}(h:vw w lo g bs k e)(ho:Out w w' X)(hX:∀i,i≤g→¬X i):vw w' lo g bs k e:=by
 obtain⟨A,c,hb,hrd,hk,hl⟩:=h
 exact⟨A,c,hb.out ho (hX g (qc _)),hrd.out ho (by have:=hb.lt;omega) (fun k h1 h2=>hX k (by omega)),hk,hl⟩
theorem OttS.begin{bs:List UInt8}{lo cg G B nc k1:Nat}{w wa:World}{i kp left:Nat}{rs:List Gr}{A:Option Addr}{c:Nat}(h:OttS bs lo cg G B nc k1 0 w i kp left rs A c)(hcg:cg<B)(hG:G<B)(hcG:G<lo)(hg:w.grownBy wa (some cg))(m k2:Nat)(hc:vw wa lo cg bs k2 0){wb:World}(hwb:wa.alloc (.cells #[.int .i64 (m:Int),.slice none 0 0,.slice none 0 0] 48)=wb) :
  InnS bs lo cg G wa.heap.size wb.heap.size m k2 wb wb 0 k2 [] none 0 none 0∧j6 wb G 39 #[.int .i64 (nc:Int),.slice A i c]∧wa.heap.size<wb.heap.size∧B≤wa.heap.size∧cg<wa.heap.size∧G<wa.heap.size∧Out w wb (fun k=>k=cg):=by
 have hs:=hg.size
 have hz:=h.size
 have hs2:wb.heap.size=wa.heap.size+1:=by rw[←hwb];simp
 have o1:Out w wb (fun k=>k=cg):=by rw[←hwb];exact(Out.of_gb hg fun k hk=>(jh hk).symm).alloc _
 refine⟨⟨rfl,rfl,?_,?_,zh _ _ _ _,zh _ _ _ _,(fun q hq=>by cases hq),(fun W _ t ht=>by cases ht),Out.refl _ _,qc _⟩,?_,by omega,by omega,by omega,by omega,o1⟩
 ·
  rw[←hwb];exact hc.behind ((Below.refl wa.heap.size wa).alloc (qc _) _) (by omega)
 ·
  rw[←hwb];exact j6.new wa _ _
 ·
  exact h.blk.out o1 (by have:=hc.base;omega)
theorem OttS.push{bs:List UInt8}{lo cg G B nc k1 gv B2 m k2:Nat}{w wb wr:World}{i kp kq left:Nat}{rs:List Gr}{A:Option Addr}{c:Nat}(h:OttS bs lo cg G B nc k1 0 w i kp left rs A c)(hcg:cg<B)(hG:G<B)(hcG:G<lo)(hi:i<100000)
  (hob:Out w wb (fun k=>k=cg)) (hgv:B≤gv) (hgv2:gv<B2) (hB2:wb.heap.size=B2) (hwg:w.heap.size≤gv) {its:List It} {FA KA:Option Addr} {fc kc:Nat} (hI:InnS bs lo cg G gv B2 m k2 wb wr nc kq its FA fc KA kc) (hg:qqi bs nc left kp=some (⟨m,its.map It.c⟩,kq)) :
  j6 wr G 39 #[.int .i64 (nc:Int),.slice A i c]∧∃A' c' wj,(Builtin.append_ #[37,37] 37 #[.slice A i c,.slice (some ⟨wr.heap.size,0,none⟩) 1 1]).run Tryz.prog (wr.alloc (.cells #[.int .i64 (m:Int),.slice FA nc fc,.slice KA nc kc] 48))= .ok (.slice A' (i+1) c') wj∧
   j6 wj G 39 #[.int .i64 (nc:Int),.slice A i c]∧j6 wj gv 48 #[.int .i64 (m:Int),.slice FA nc fc,.slice KA nc kc]∧∃wk,wj.setCell ⟨G,1,none⟩ (.slice A' (i+1) c')=wk∧j6 wk gv 48 #[.int .i64 (m:Int),.slice FA nc fc,.slice KA nc kc]∧
   ∃rs',OttS bs lo cg G B nc k1 0 wk (i+1) kq (left-m) rs' A' c'∧Out w wk (fun k=>k=cg∨k=G∨B≤k):=by
 have hz:=h.size
 have hlen:=h.len
 have hil:=hI.len
 have hsb:=hob.size
 have hsr:=hI.out.size
 have hsz:=hI.size
 have hAq:∀q,(Value.slice A i c).ownBlock=some q→B≤q∧q<w.heap.size:=fun q hq=>zk h.row hq
 have o1:Out w wr (fun k=>k=cg):=hob.trans hI.out (fun k hk hx=>by rcases hx with hx | hx;exact hx;omega)
 have b1:j6 wr G 39 #[.int .i64 (nc:Int),.slice A i c]:=h.blk.out o1 (by have:=hI.cur.base;omega)
 have r1:wr.ownsRow B 48 3 (.slice A i c) i (Go.Proofs.YtnjkipnklpkaoaaGreat.grs rs):=qfc h.row o1 fun k hk e=>by have:=hAq k hk;omega
 obtain⟨wi,hwi⟩:∃wi,wr.alloc (.cells #[.int .i64 (m:Int),.slice FA nc fc,.slice KA nc kc] 48)=wi:=⟨_,rfl⟩
 have si:wi.heap.size=wr.heap.size+1:=by rw[←hwi];simp
 have r2:wi.ownsRow B 48 3 (.slice A i c) i (Go.Proofs.YtnjkipnklpkaoaaGreat.grs rs):=by rw[←hwi];exact own_al r1 _
 have li:j6 wi wr.heap.size 48 #[.int .i64 (m:Int),.slice FA nc fc,.slice KA nc kc]:=by rw[←hwi];exact j6.new wr _ _
 have b2:j6 wi G 39 #[.int .i64 (nc:Int),.slice A i c]:=by rw[←hwi];exact b1.alloc _
 have g2:j6 wi gv 48 #[.int .i64 (m:Int),.slice FA nc fc,.slice KA nc kc]:=by rw[←hwi];exact hI.blk.alloc _
 obtain⟨A',c',wj,hrun,r3,hgj,hq⟩:=append_grp (r:=⟨m,its,FA,fc,KA,kc⟩) (g:=wr.heap.size) hlen r2 (fun j u hu=>by
  rw[li.cell]
  simp only[qjd,hil] at hu
  simpa using hu) (by omega) (by omega)
 have sj:=hgj.size
 have b3:j6 wj G 39 #[.int .i64 (nc:Int),.slice A i c]:=b2.grown hgj fun e=>by have:=hAq G e.symm;omega
 have g3:j6 wj gv 48 #[.int .i64 (m:Int),.slice FA nc fc,.slice KA nc kc]:=g2.grown hgj fun e=>by have:=hAq gv e.symm;omega
 have hA1:∀q,(Value.slice A' (i+1) c').ownBlock=some q→(Value.slice A i c).ownBlock=some q∨q=wi.heap.size:=fun q hq2=>by
  rcases hq with e | e
  ·
   exact .inl (e ▸ hq2)
  ·
   rw[e] at hq2;injection hq2 with hq2;exact .inr hq2.symm
 obtain⟨wk,hwk⟩:∃wk,wj.setCell ⟨G,1,none⟩ (.slice A' (i+1) c')=wk:=⟨_,rfl⟩
 have gk:wj.grownBy wk (some G):=by rw[←hwk];exact gb_set wj G 1 _
 have sk:=gk.size
 have b4:j6 wk G 39 #[.int .i64 (nc:Int),.slice A' (i+1) c']:=by rw[←hwk];exact b3.put 1 _
 have g4:j6 wk gv 48 #[.int .i64 (m:Int),.slice FA nc fc,.slice KA nc kc]:=g3.grown gk fun e=>by injection e with e;omega
 have r4:wk.ownsRow B 48 3 (.slice A' (i+1) c') (i+1) (Go.Proofs.YtnjkipnklpkaoaaGreat.grs (rs++[⟨m,its,FA,fc,KA,kc⟩])):=ju r3 fun k hk=>gk.block k (zk r3 hk).2 fun e=>by have:=(zk r3 hk).1;injection e with e;omega
 have o2:Out wr wi (fun _=>False):=by rw[←hwi];exact(Out.refl _ _).alloc _
 have o3:Out wi wj (fun k=>(Value.slice A i c).ownBlock=some k):=Out.of_gb hgj fun k hk=>hk
 have o4:Out wj wk (fun k=>k=G):=Out.of_gb gk fun k hk=>(jh hk).symm
 have oX:Out wr wk (fun k=>k<B∨(Value.slice A i c).ownBlock=some k):=(((Out.refl wr _).trans o2 (fun _ _ h=>h.elim)).trans o3 (fun _ _ h=> .inr h)).trans o4 (fun _ _ h=> .inl (by omega))
 have hY:∀q,q<wr.heap.size→(q<B∨(Value.slice A' (i+1) c').ownBlock=some q)→(q<B∨(Value.slice A i c).ownBlock=some q):=fun q hq h=>by
  rcases h with h | h
  ·
   exact .inl h
  ·
   rcases hA1 q h with h1 | h1
   ·
    exact .inr h1
   ·
    omega
 have hcur:vw wk lo cg bs kq 0:=by
  obtain⟨A5,c5,hb,hrd,hk,hl⟩:=hI.cur
  have oZ:Out wr wk (fun k=>k=G∨B≤k):=(((Out.refl wr _).trans o2 (fun _ _ h=>h.elim)).trans o3 (fun q _ h=> .inr (hAq q h).1)).trans o4 (fun _ _ h=> .inl h)
  exact⟨A5,c5,hb.out oZ (by omega),hrd.out oZ (by have:=hb.lt;omega) (fun k h1 h2=>by omega),hk,hl⟩
 refine⟨b1,A',c',wj,by rw[hwi];exact hrun,b3,g3,wk,hwk,g4,rs++[⟨m,its,FA,fc,KA,kc⟩],⟨by rw[qd,hlen];rfl,?_,hcur,b4,r4,fun W hW x hx => ?_,by omega⟩,?_⟩
 ·
  have:=grps_some h.grps hg
  rw[jg]
  exact this
 ·
  have hW1:=oX.trans hW hY
  rcases zt.1 hx with hx | hx
  ·
   refine h.grs W ?_ x hx
   exact((Out.refl w _).trans o1 (fun q _ h=> .inl (by omega))).trans hW1 (fun q _ h=>h)
  ·
   rw[zo.1 hx]
   have hX3:∀q,(q<B∨(Value.slice A i c).ownBlock=some q)→q<B2:=fun q h1=>by
    rcases h1 with h1 | h1
    ·
     omega
    ·
     have:=hAq q h1;omega
   have f1:W.ownsRow B2 67 3 (.slice FA nc fc) nc (fcs (its.map It.e)):=qfc hI.fil hW1 fun k hk hx=>qaq _ (ja (hX3 k hx) (zk hI.fil hk).1)
   have f2:W.ownsRow B2 51 1 (.slice KA nc kc) nc (ptV (its.map It.g)):=qfc hI.chk hW1 fun k hk hx=>qaq _ (ja (hX3 k hx) (zk hI.chk hk).1)
   have f3:∀t∈its,ItM W B2 t:=hI.its W ((Out.refl wr _).trans hW1 (fun q hq h=> .inl (hX3 q h)))
   rw[←hil] at f1 f2
   exact(GrM.of (rows:=m) f1 f2 f3).wide (by omega)
 ·
  exact((((Out.refl w _).trans o1 (fun _ _ h=> .inl h)).trans o2 (fun _ _ h=>h.elim)).trans o3 (fun q _ h=> .inr (.inr (hAq q h).1))).trans o4 (fun _ _ h=> .inr (.inl h))
end Go.Proofs.YtnjkipnklpkaoaaGreat
