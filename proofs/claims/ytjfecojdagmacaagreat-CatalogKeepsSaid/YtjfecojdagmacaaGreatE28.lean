/-
  Lemmas.
-/
import Derived.Test.YtjfecojdagmacaaGreatE27
import Derived.Deep.RegionHeld
import Derived.Deep.WholeRow
namespace Go.Proofs.YtjfecojdagmacaaGreat
open Go.RowKit
set_option maxRecDepth 20000
set_option maxHeartbeats 16000000
set_option linter.unusedSimpArgs false
set_option linter.unusedVariables false
def zero256:Array Value:=⟨List.replicate 256 (.int .u32 0)⟩
theorem Tryz.infoTab:(Tryz.prog.info? 189).map (fun i=>(i.zero,i.size))=some (some (.agg zero256),256):=by kernel_rfl
def tabV(j:Nat):Value:= .int .u32 (bn (qet (BitVec.ofNat 32 j)))
def qdx(k:Nat):Array Value:=Array.ofFn (n:=256) fun i=>if i.val<k then tabV i.val else .int .u32 0
theorem qad(k:Nat):(qdx k).size=256:=Array.size_ofFn
theorem zero256_rep:zero256=Array.replicate 256 (.int .u32 0):=by kernel_rfl
theorem tabTo_zero:qdx 0=zero256:=by
 rw[zero256_rep]
 apply Array.ext
 ·
  rw[qad,Array.size_replicate]
 ·
  intro i h1 h2
  rw[Array.getElem_replicate]
  simp only[qdx,Array.getElem_ofFn]
  rw[if_neg (by omega)]
theorem tabTo_get{k j:Nat}(hj:j<256):(qdx k)[j]? = some (if j<k then tabV j else .int .u32 0):=by
 unfold qdx
 rw[Array.getElem?_ofFn,dif_pos hj]
theorem tabTo_put{k:Nat}(hk:k<256):(qdx k).setIfInBounds k (tabV k)=qdx (k+1):=by
 apply Array.ext
 ·
  rw[Array.size_setIfInBounds,qad,qad]
 ·
  intro i h1 h2
  rw[qad] at h2
  rw[Array.getElem_setIfInBounds (by rw[qad];exact h2)]
  simp only[qdx,Array.getElem_ofFn]
  by_cases e:k=i
  ·
   subst e;simp
  ·
   by_cases h:i<k
   ·
    simp[e,h,show i<k+1 from by omega]
   ·
    simp[e,h,show ¬i<k+1 from by omega]
theorem tabTo_one(k:Nat):(qdx k).all (·.oneCell')=true:=by
 rw[Array.all_eq_true]
 intro i hi
 simp only[qdx,Array.getElem_ofFn]
 split <;> rfl
def qfd:Array Value:=qdx 256
theorem tabAll_get{j:Nat}(hj:j<256):qfd[j]? = some (.int .u32 (bn (qet (BitVec.ofNat 32 j)))):=by
 unfold qfd
 rw[tabTo_get hj,if_pos hj]
 rfl
theorem and_one(s:BitVec 32):bits .and .u32 (bn s) 1=bn s%2:=by
 have hs:=s.isLt
 unfold bn
 rw[show(1:Int)=((1:Nat):Int) from rfl,u32_and_nat _ _ hs (by omega),Nat.and_one_is_mod]
 omega
theorem xor_none{s:BitVec 32}(h:bn s%2=0):bits .xor .u32 (bn s/2) 0=bn (qfg s):=by
 have hs:=s.isLt
 have e:=bn_even h
 rw[←e]
 unfold bn
 rw[show((s.toNat:Int)/2)=((s.toNat/2:Nat):Int) from by omega,show(0:Int)=((0:Nat):Int) from rfl,u32_xor_nat _ _ (by omega) (by omega),Nat.xor_zero]
theorem setRow_blk{w:World}{g:Nat}{t:TypeId}{cs:Array Value}(h:j8 w g t cs)(cs':Array Value):j8 (w.setRow g cs') g t cs':=setRow_heap w g cs cs' t _ h
theorem setRow_gb{a w:World}{g:Nat}(h:a.grownBy w (some g))(cs:Array Value):a.grownBy (w.setRow g cs) (some g) :=
 ⟨h.os,h.tape,h.output,by simpa using h.size,fun i hi hne=>(setRow_other w g i cs (fun e=>hne (by rw[e]))).trans (h.block i hi hne)⟩
theorem table_any{w:World}:Calls Tryz.prog 132 #[] w fun r w'=>r= .returned (.agg qfd)∧Below w.heap.size w w':=by
 obtain⟨hz,hsz⟩:=zero_of_info Tryz.infoTab
 have HSZ:=qa hsz
 clear hsz
 go_enter Tryz.func132,Tryz.ntmps132
 go_wp2_with fail
 rw[←tabTo_zero]
 go_loopw [5] (fun i wr=>∃k:Nat,k≤256∧i= .int .i64 (k:Int)∧j8 wr (w.heap.size+1) 189 (qdx k)∧j8 wr w.heap.size 189 (qdx 0)∧Below w.heap.size w wr) (fun i _=>256-(intOf i).toNat)
 case atStart =>
  refine⟨0,by omega,rfl,?_,?_,((Below.refl _ _).alloc (qc _) _).alloc (by simp) _⟩
  ·
   have:=j8.new (w.alloc (.cells (qdx 0) 189)) 189 (qdx 0)
   simpa using this
  ·
   exact(j8.new w 189 (qdx 0)).alloc _
 case round =>
  obtain⟨k,hk,rfl,hb1,hb0,hbel⟩:=hrel
  have HB1:=qa hb1
  have HB0:=qa hb0
  have HBL:=qa hbel
  by_cases hlt:k<256
  ·
   have hcell:wr.cell? ⟨w.heap.size+1,k,none⟩=some (.int .u32 0):=by
    rw[hb1.cell,tabTo_get hlt,if_neg (by omega)]
   have hfr:=hb1.frozen k
   have hkn:Hid ((k:Int)=bn (BitVec.ofNat 32 k)):=by
    unfold Hid bn
    rw[qav]
    omega
   clear hb1 hb0 hbel
   go_wp2_with fail
   go_loop [10,3] (fun j q=>∃n:Nat,n≤8∧j= .int .i64 (n:Int)∧q= .int .u32 (bn (qa1 n (BitVec.ofNat 32 k)))) (fun j _=>8-(intOf j).toNat)
   case atStart=>exact⟨0,by omega,rfl,by rw[hkn.out];rfl⟩
   case round =>
    obtain⟨n,hn,rfl,rfl⟩:=hrel
    by_cases hlt8:n<8
    ·
     have hq:=bn_bd (qa1 n (BitVec.ofNat 32 k))
     have hand:=and_one (qa1 n (BitVec.ofNat 32 k))
     by_cases hodd:bn (qa1 n (BitVec.ofNat 32 k))%2=1
     ·
      have hst:=xor_cdiv hodd
      rw[qmx] at hst
      rw[hodd] at hand
      clear hodd
      generalize qa1 n (BitVec.ofNat 32 k)=q at *
      generalize hq':bn (qa1 (n+1) (BitVec.ofNat 32 k))=q' at hst
      have HQ:=qa hq'
      clear hq'
      go_wp2
      go_round
      case rel=>exact⟨n+1,by omega,by go_num,by rw[HQ.out]⟩
      case measure=>simp[intOf];omega
     ·
      have hodd0:bn (qa1 n (BitVec.ofNat 32 k))%2=0:=by omega
      have hst:=xor_none hodd0
      rw[qmx] at hst
      rw[hodd0] at hand
      clear hodd hodd0
      generalize qa1 n (BitVec.ofNat 32 k)=q at *
      generalize hq':bn (qa1 (n+1) (BitVec.ofNat 32 k))=q' at hst
      have HQ:=qa hq'
      clear hq'
      go_wp2
      go_round
      case rel=>exact⟨n+1,by omega,by go_num,by rw[HQ.out]⟩
      case measure=>simp[intOf];omega
    ·
     obtain rfl:n=8:=by omega
     go_wp2
     go_roundw
     case rel =>
      refine⟨k+1,by omega,by go_num,?_,HB0.out.far (by simp) _,HBL.out.setCell (by simp) _⟩
      rw[←tabTo_put hlt]
      exact HB1.out.put k _
     case measure=>simp[intOf];omega
  ·
   obtain rfl:k=256:=by omega
   clear hb1 hb0 hbel
   go_wp2_with (first | (refine wpList_load_row rfl 189 _ rfl (w.heap.size+1) rfl 189 (qdx 256) (0,0) _ HB1.out Tryz.underlying189 rfl (by rw[qad];exact HSZ.out) ?_;refine qbj ?_))
   refine⟨?_⟩
   go_wp2_with (refine wpList_store_row rfl 189 _ _ rfl w.heap.size (qdx 256) rfl rfl 189 (qdx 0) HB0.out (by rw[qad];exact HSZ.out) (by rw[qad,qad]) (tabTo_one _) ?_)
   refine bodyPost_ret (v:= .agg qfd) ?_ rfl ⟨rfl,?_⟩
   ·
    exact results_cell_row rfl _ _ w.heap.size 189 (qdx 256) (0,0) _ rfl (setRow_blk HB0.out _) Tryz.underlying189 rfl (by rw[qad];exact HSZ.out)
   ·
    exact HBL.out.grown (row:=some w.heap.size) (setRow_gb (yx _ _) _) HBL.out.size (fun g hg=>by injection hg with hg;omega)
theorem tab_index(s:BitVec 32)(x:UInt8):bits .xor .u8 (bn s%256) (x.toNat:Int)=(((s.toNat%256) ^^^ x.toNat:Nat):Int):=by
 have hx:=je x
 unfold bn
 rw[show((s.toNat:Int)%256)=((s.toNat%256:Nat):Int) from by omega,u8_xor_nat _ _ (by omega) (by omega)]
theorem tab_lt(s:BitVec 32)(x:UInt8):(s.toNat%256) ^^^ x.toNat<256:=by
 have hx:=je x
 exact Nat.xor_lt_two_pow (n:=8) (by omega) (by omega)
theorem tab_next(s:BitVec 32)(x:UInt8):bits .xor .u32 (bn (qet (BitVec.ofNat 32 ((s.toNat%256) ^^^ x.toNat)))) (bn s/256)=bn (qnd s x):=by
 have hs:=s.isLt
 rw[cupd_table]
 have h1:=(qet (BitVec.ofNat 32 ((s.toNat%256) ^^^ x.toNat))).isLt
 unfold bn
 rw[show((s.toNat:Int)/256)=((s.toNat/256:Nat):Int) from by omega,u32_xor_nat _ _ h1 (by omega),BitVec.toNat_xor,BitVec.toNat_ushiftRight,Nat.shiftRight_eq_div_pow]
theorem xor_end(s:BitVec 32):bits .xor .u32 (bn s) 4294967295=bn (s ^^^ qgi):=by
 have hs:=s.isLt
 unfold bn
 rw[show(4294967295:Int)=((4294967295:Nat):Int) from rfl,u32_xor_nat _ _ hs (by omega),BitVec.toNat_xor]
 rfl
theorem of_any{w:World}(ps:List Part){h':Nat}{A:Option Addr}{c:Nat}(h:Rd w 0 h' A c (ps.map Part.val))(hh:h'≤w.heap.size)(hp:∀p∈ps,p.rd w w.heap.size) :
  Calls Tryz.prog 91 #[.slice A ps.length c] w fun r w'=>r= .returned (.int .u32 (bn (qeh (yg ps))))∧Below w.heap.size w w':=by
 obtain⟨hz,hsz⟩:=zero_of_info Tryz.infoTab
 have HSZ:=qa hsz
 clear hsz
 have hl:=h.len
 have hc:=h.cap
 rw[qz] at hl
 unfold maxLen at hc
 have H:=qa h
 have HP:=qa hp
 clear h hp
 go_enter Tryz.func91,Tryz.ntmps91
 go_wp2_with fail
 refine table_any.mono ?_
 rintro r w1 ⟨rfl,hb1⟩
 have HB1:=qa hb1
 have s1:=hb1.size
 clear hb1
 go_wp2_with (refine wpList_store_row rfl 189 _ _ rfl w1.heap.size qfd rfl rfl 189 zero256 (j8.new w1 _ _) (by rw[show qfd.size=256 from qad _];exact HSZ.out) (by rw[show qfd.size=256 from qad _];rfl) (tabTo_one _) ?_;rw[World.setRow_alloc_new];refine qbj ?_)
 refine⟨?_⟩
 have HT:=qa (j8.new w1 189 qfd)
 have HW:=qa (HB1.out.alloc s1 (.cells qfd 189))
 have HA:=qa ((H.out.below HB1.out hh).alloc (zc hh s1) (.cells qfd 189))
 have hpa:∀p∈ps,p.rd (w1.alloc (.cells qfd 189)) w.heap.size:=fun p hp=>((HP.out p hp).below HB1.out (qc _)).alloc s1 _
 have HPA:=qa hpa
 clear hpa
 generalize w1.alloc (.cells qfd 189)=w2 at *
 go_wp2_with fail
 go_loop [4,12] (fun q i=>∃k:Nat,k≤ps.length∧i= .int .i64 (k:Int)∧q= .int .u32 (bn (qch qgi (yg (ps.take k))))) (fun _ i=>ps.length-(intOf i).toNat)
 case atStart=>exact⟨0,qj _,rfl,rfl⟩
 case round =>
  obtain⟨k,hk,rfl,rfl⟩:=hrel
  by_cases hlt:k<ps.length
  ·
   have hsn:=qa (qml ps hlt)
   have HR:=qa (HPA.out ps[k] (ql hlt))
   obtain⟨b,off,rfl,_,_,hcell⟩:=HA.out.get (k:=k) (by rw[qz];exact hlt)
   rw[j5] at hcell
   generalize ps[k]=p at *
   generalize yg (ps.take k)=pre at *
   obtain⟨A1,c1,bs⟩:=p
   unfold Part.rd at HR
   unfold Part.val at hcell
   dsimp only at hcell HR
   have hlb:=HR.out.len
   have hcb:=HR.out.cap
   rw[jj] at hlb
   unfold maxLen at hcb
   go_wp2_with fail
   clear hcell
   go_loop [18,4] (fun i q=>∃j:Nat,j≤bs.length∧i= .int .i64 (j:Int)∧q= .int .u32 (bn (qch (qch qgi pre) (bs.take j)))) (fun i _=>bs.length-(intOf i).toNat)
   case atStart=>exact⟨0,qj _,rfl,rfl⟩
   case round =>
    obtain⟨j,hj,rfl,rfl⟩:=hrel
    by_cases hlj:j<bs.length
    ·
     have hst:Hid (qch (qch qgi pre) (bs.take (j+1))=qnd (qch (qch qgi pre) (bs.take j)) bs[j]):=by
      unfold Hid
      rw[qi hlj,qkh]
     obtain⟨b2,off2,rfl,_,_,hcell⟩:=HR.out.byte hlj
     have hs:=bn_bd (qch (qch qgi pre) (bs.take j))
     generalize qch (qch qgi pre) (bs.take j)=s at *
     generalize bs[j]=x at *
     have hx:=je x
     have hti:=tab_index s x
     have htl:=tab_lt s x
     have htn:=tab_next s x
     have htc:w2.cell? ⟨w1.heap.size,(s.toNat%256) ^^^ x.toNat,none⟩=some (.int .u32 (bn (qet (BitVec.ofNat 32 ((s.toNat%256) ^^^ x.toNat))))):=by
      rw[HT.out.cell,tabAll_get htl]
     have htb:=bn_bd (qet (BitVec.ofNat 32 ((s.toNat%256) ^^^ x.toNat)))
     generalize bn (qet (BitVec.ofNat 32 ((s.toNat%256) ^^^ x.toNat)))=v at *
     generalize (s.toNat%256) ^^^ x.toNat=d at *
     go_wp2
     go_round
     case rel=>exact⟨j+1,by omega,by go_num,by rw[hst.out]⟩
     case measure=>simp[intOf];omega
    ·
     obtain rfl:j=bs.length:=by omega
     go_wp2
     go_round
     case rel=>exact⟨k+1,by omega,by go_num,by rw[hsn.out,qfi,yo]⟩
     case measure=>simp[intOf];omega
  ·
   obtain rfl:k=ps.length:=by omega
   have hs:=bn_bd (qch qgi (yg (ps.take ps.length)))
   have hnot:=xor_end (qch qgi (yg (ps.take ps.length)))
   have HE:Hid (qch qgi (yg (ps.take ps.length)) ^^^ qgi=qeh (yg ps)):=by
    unfold Hid qeh
    rw[yo]
   generalize qch qgi (yg (ps.take ps.length))=s at *
   go_wp2
   go_ret
   exact⟨qar (by rw[HE.out]),HW.out⟩
theorem rd_lit(w:World)(t:TypeId)(cs:Array Value)(hm:cs.size≤100000):Rd (w.alloc (.cells cs t)) 0 (w.heap.size+1) (some ⟨w.heap.size,0,none⟩) cs.size cs.toList :=
 ⟨by simp,by simp only[maxLen];omega,fun _=>⟨w.heap.size,0,rfl,qj _,by omega,fun j u hu=>by
  rw[yk,(j8.new w t cs).cell]
  simpa using hu⟩⟩
theorem of_one{w:World}(bs:List UInt8){h':Nat}{A:Option Addr}{c:Nat}(h:Rd w 0 h' A c (bv bs))(hh:h'≤w.heap.size) :
  Calls Tryz.prog 91 #[.slice (some ⟨w.heap.size,0,none⟩) 1 1] (w.alloc (.cells #[.slice A bs.length c] 36)) fun r w'=>r= .returned (.int .u32 (bn (qeh bs)))∧Below w.heap.size w w':=by
 have hr:=rd_lit w 36 #[.slice A bs.length c] (by simp)
 refine(of_any (w:=w.alloc (.cells #[.slice A bs.length c] 36)) [⟨A,c,bs⟩] hr (by simp) ?_).mono ?_
 ·
  intro p hp
  obtain rfl:p=⟨A,c,bs⟩:=by simpa using hp
  exact(h.alloc hh _).wide (qc _) (by simp;omega)
 ·
  rintro r w' ⟨rfl,hb⟩
  refine⟨qar (by simp[yg]),?_⟩
  exact zz ((Below.refl _ _).alloc (qc _) _) hb (by simp)
theorem seal_any{w:World}(bs:List UInt8){h':Nat}{A:Option Addr}{c:Nat}(h:Rd w 0 h' A c (bv bs))(hh:h'≤w.heap.size) :
  Calls Tryz.prog 62 #[.slice A bs.length c] w fun r w'=>∃A' c',r= .returned (.slice A' 4 c')∧
   w'.ownsRow w.heap.size 5 1 (.slice A' 4 c') 4 (bv (qf9 (qeh bs)))∧Below w.heap.size w w':=by
 have hs:=bn_bd (qeh bs)
 have H:=qa h
 clear h
 go_enter Tryz.func62,Tryz.ntmps62
 go_wp2_with fail
 refine(of_one bs H.out hh).mono ?_
 rintro r w1 ⟨rfl,hb1⟩
 have HB1:=qa hb1
 have s1:=hb1.size
 clear hb1
 go_wp2
 go_ret
 have h4:=own_lit w1 (qf9 (qeh bs)) #[.int .u8 (bn (qeh bs)%256),.int .u8 (bn (qeh bs)/256%256),.int .u8 (bn (qeh bs)/65536%256),.int .u8 (bn (qeh bs)/16777216)] (by rw[crcB_cells]) (by simp[qc3])
 exact⟨_,_,rfl,j9 h4 s1,HB1.out.alloc s1 _⟩
theorem Seal_any{w:World}(bs:List UInt8){h':Nat}{A:Option Addr}{c:Nat}(h:Rd w 0 h' A c (bv bs))(hh:h'≤w.heap.size)(hb:bs.length≤1000000000) :
  Calls Tryz.prog 40 #[.slice A bs.length c] w fun r w'=>∃A' c',r= .returned (.slice A' (vn bs).length c')∧
   w'.ownsRow w.heap.size 5 1 (.slice A' (vn bs).length c') (vn bs).length (bv (vn bs))∧Below w.heap.size w w':=by
 have hmk:∃w1,(Instr.makeSlice 36 (.int .i64 0) (.int .i64 ((bs.length:Int)+4))).run Tryz.prog w= .ok (.slice (some ⟨w.heap.size,0,none⟩) 0 (bs.length+4)) w1∧
   w1.ownsRow w.heap.size 5 1 (.slice (some ⟨w.heap.size,0,none⟩) 0 (bs.length+4)) 0 []∧w.grownBy w1 none:=by
  obtain⟨i0,hi0,hz0,hz1,hz2⟩:=info_parts Tryz.infoU8
  have:=run_make_own (P:=Tryz.prog) w w.heap.size 36 5 i0 _ 1 Tryz.underlying36 hi0 hz0 hz1 .i64 .i64 (bs.length+4) (by rw[hz2];omega) (by simp only[maxLen];omega) (qc _)
  simpa using this
 obtain⟨w1,hmake,hown1,hg1⟩:=hmk
 have k1:Below w.heap.size w w1:=(Below.refl _ _).grown hg1 (qc _) (by simp)
 have s1:=k1.size
 obtain⟨A2,c2,w2,hrun2,hown2,hg2⟩:=xm w1 w.heap.size (.slice (some ⟨w.heap.size,0,none⟩) 0 (bs.length+4)) [] bs bs (by simp) hown1 (h.below k1 hh) (by simp;omega) s1
 have k2:Below w.heap.size w w2:=k1.grown hg2 s1 (by simp[Value.ownBlock])
 have s2:=k2.size
 have H:=qa h
 have HO2:=qa hown2
 have K2:=qa k2
 clear h hown1 hg1 k1 hown2 hg2 k2
 go_enter Tryz.func40,Tryz.ntmps40
 go_wp2_with (at_builtin;refine wpList_append_run rfl _ _ _ _ rfl rfl rfl hrun2 ?_)
 refine(seal_any bs (H.out.below K2.out hh) (by omega)).mono ?_
 rintro r w3 ⟨A3,c3,rfl,hown3,hb3⟩
 have HB3:=qa hb3
 have s3:=hb3.size
 obtain⟨A4,c4,w4,hrun4,hown4,hg4⟩:=xm w3 w.heap.size _ bs (qf9 (qeh bs)) (vn bs) rfl (ji HO2.out hb3 (qc _)) (Rd.own hown3) (by rw[qc3];omega) (by omega)
 rw[qc3] at hrun4
 have HO4:=qa hown4
 have HG4:=qa hg4
 clear hown3 hb3 hown4 hg4 hrun2 hmake
 go_wp2_with (at_builtin;refine wpList_append_run rfl _ _ _ _ rfl rfl rfl hrun4 ?_)
 go_ret
 refine⟨A4,c4,rfl,HO4.out,?_⟩
 exact(zz K2.out HB3.out s2).grown HG4.out (by omega) (fun k hk=>qhe HO2.out k hk)
theorem qly{cols:Int}{gs:List (List (List Vl))}:qkz cols gs=true↔(1≤cols∧cols≤8∧vo gs≤4096)∧∀g∈gs,0<g.length∧∀r∈g,(r.length:Int)=cols:=by
 unfold qkz badG
 rw[jq,decide_eq_true_eq,Bool.not_eq_true',List.any_eq_false]
 constructor
 ·
  rintro⟨h1,h2⟩
  refine⟨h2,fun g hg => ?_⟩
  have h3:=h1 g hg
  simp only[Bool.or_eq_true,decide_eq_true_eq,List.any_eq_true,not_or,not_exists,not_and,Decidable.not_not] at h3
  exact⟨by omega,fun r hr=>h3.2 r hr⟩
 ·
  rintro⟨h2,h1⟩
  refine⟨fun g hg => ?_,h2⟩
  obtain⟨h3,h4⟩:=h1 g hg
  simp only[Bool.or_eq_true,decide_eq_true_eq,List.any_eq_true,not_or,not_exists,not_and,Decidable.not_not]
  exact⟨by omega,fun r hr=>h4 r hr⟩
theorem rightG_of{cols:Int}{gs:List (List (List Vl))}{os:List Co}{bits:Int}(h1:qkz cols gs=true)(h2:(os.length:Int)=cols)(h3:(∀o∈os,qbs o)∧0≤bits∧bits≤65536)(h4:∀g∈gs,∀k,k<os.length→uj (ko g k)):qaf cols gs os bits:=by
 obtain⟨⟨a1,a2,a3⟩,a4⟩:=qly.1 h1
 refine⟨a1,a2,h2,h3.2.1,h3.2.2,h3.1,a3,fun g hg=>⟨(a4 g hg).1,fun r hr => ?_,h4 g hg⟩⟩
 have:=(a4 g hg).2 r hr
 omega
theorem right_fits{cols:Int}{gs:List (List (List Vl))}{os:List Co}{bits:Int}(h:qaf cols gs os bits):qkz cols gs=true:=by
 obtain⟨a1,a2,a3,a4,a5,a6,a7,a8⟩:=h
 refine qly.2 ⟨⟨a1,a2,a7⟩,fun g hg=>⟨(a8 g hg).1,fun r hr => ?_⟩⟩
 have:=(a8 g hg).2.1 r hr
 omega
theorem rise_ex:∀L:List Nat,∃t,Rise L t
 | []=>⟨[],List.Pairwise.nil,fun _=>Iff.rfl⟩
 | a :: L=>by
  obtain⟨t,h1,h2⟩:=rise_ex L
  refine⟨t.filter (· < a)++a :: t.filter (a < ·),?_,fun x => ?_⟩
  ·
   refine List.pairwise_append.2 ⟨h1.filter _,List.pairwise_cons.2 ⟨fun x hx=>of_decide_eq_true (List.mem_filter.1 hx).2,h1.filter _⟩,fun x hx y hy => ?_⟩
   have h3:x<a:=of_decide_eq_true (List.mem_filter.1 hx).2
   rcases zv.1 hy with rfl | hy
   ·
    exact h3
   ·
    have h4:a<y:=of_decide_eq_true (List.mem_filter.1 hy).2
    omega
  ·
   rw[zn,zv,List.mem_filter,List.mem_filter,decide_eq_true_eq,decide_eq_true_eq,zv,h2 x]
   constructor
   ·
    rintro(h | h | h)
    ·
     exact .inr h.1
    ·
     exact .inl h
    ·
     exact .inr h.1
   ·
    rintro(h | h)
    ·
     exact .inr (.inl h)
    ·
     rcases Nat.lt_trichotomy x a with h5 | h5 | h5
     ·
      exact .inl ⟨h,h5⟩
     ·
      exact .inr (.inl h5)
     ·
      exact .inr (.inr ⟨h,h5⟩)
def qf7(gs:List (List (List Vl)))(os:List Co):Prop:=∀g∈gs,∀k,k<os.length→y9 (qr (ko g k)) (qc5 os k)=2→jz (ki (qr (ko g k)) (qc5 os k))=true
def CodeG(gs:List (List (List Vl)))(os:List Co):Prop:=(∀o∈os,qbs o→qlc [] o)∧∀g∈gs,∀k,k<os.length→uj (ko g k)→qlc (qr (ko g k)) (qc5 os k)
set_option maxRecDepth 100000 in
set_option maxHeartbeats 16000000 in
theorem sgwrite_vW{w:World}{gs:List (List (List Vl))}{os:List Co}{A B:Option Addr}{c d:Nat}(cols bits:Int)(h:qbg w 0 w.heap.size A c gs)(ho:qb8 w 0 w.heap.size B d os)(hF:FewSg gs os)(hC:CodeG gs os) :
  Calls Tryz.prog 27 #[.int .i64 cols,.slice A gs.length c,.slice B os.length d,.int .i64 bits] w fun r w'=>Below w.heap.size w w'∧
   ((qaf cols gs os bits∧qf7 gs os∧∃A' c',r= .returned (.tuple #[.slice A' (vn (qgn os bits.toNat gs)).length c',.int .i64 0])∧w'.ownsRow w.heap.size 5 1 (.slice A' (vn (qgn os bits.toNat gs)).length c') (vn (qgn os bits.toNat gs)).length (bv (vn (qgn os bits.toNat gs))))∨
    (¬qaf cols gs os bits∧r= .returned (.tuple #[.slice none 0 0,.int .i64 1]))):=by
 obtain⟨hl,hm⟩:=h.len
 obtain⟨hl2,hm2⟩:=ho.len
 have H:Hid (∀W,Below w.heap.size w W→qbg W 0 W.heap.size A c gs):=fun W hW=>(h.below hW (qc _)).wide (qc _) hW.size
 have HO:Hid (∀W,Below w.heap.size w W→qb8 W 0 W.heap.size B d os):=fun W hW=>(ho.below hW (qc _)).wide (qc _) hW.size
 have HFW:=qa hF
 have HCG:=qa hC
 have hg40:=hF.groups
 have ho12:=hF.cods
 have HFI:=qa (sgfits_v (w:=w) h cols (by have:=hF.rows;omega))
 have HRI:Hid (∀W,Below w.heap.size w W→Calls Tryz.prog 49 #[.slice B os.length d,.int .i64 bits] W fun r w'=>r= .returned (.bool (decide ((∀o∈os,qbs o)∧0≤bits∧bits≤65536)))∧Below W.heap.size W w'):=fun W hW=>sgright_v (HO.out W hW) bits (fun o ho=>by have:=hF.draws o ho;omega) hC.1
 clear h ho hF hC
 by_cases hfi:qkz cols gs=true
 case neg =>
  have HNR:Hid (¬qaf cols gs os bits):=fun h=>hfi (right_fits h)
  rw[show qkz cols gs=false from by simpa using hfi] at HFI
  clear hfi
  go_enter Tryz.func27,Tryz.ntmps27
  go_wp2_with fail
  refine HFI.out.mono ?_
  rintro r w1 ⟨rfl,hb1⟩
  have B1:=qa hb1
  clear hb1
  go_wp2_with fail
  go_ret2
  exact⟨B1.out,.inr ⟨HNR.out,rfl⟩⟩
 case pos =>
 rw[hfi] at HFI
 have HFG:=qa hfi
 clear hfi
 by_cases hcl:(os.length:Int)=cols
 case neg =>
  have HNR:Hid (¬qaf cols gs os bits):=fun h=>hcl h.2.2.1
  have hne:((os.length:Int) != cols)=true:=by simpa using hcl
  clear hcl
  go_enter Tryz.func27,Tryz.ntmps27
  go_wp2_with fail
  refine HFI.out.mono ?_
  rintro r w1 ⟨rfl,hb1⟩
  have B1:=qa hb1
  clear hb1
  go_wp2_with fail
  go_ret2
  exact⟨B1.out,.inr ⟨HNR.out,rfl⟩⟩
 case pos =>
 have hne:((os.length:Int) != cols)=false:=by simpa using hcl
 by_cases hri:(∀o∈os,qbs o)∧0≤bits∧bits≤65536
 case neg =>
  have HNR:Hid (¬qaf cols gs os bits):=fun h=>hri ⟨h.2.2.2.2.2.1,h.2.2.2.1,h.2.2.2.2.1⟩
  rw[qw hri] at HRI
  clear hcl hri
  go_enter Tryz.func27,Tryz.ntmps27
  go_wp2_with fail
  refine HFI.out.mono ?_
  rintro r w1 ⟨rfl,hb1⟩
  have B1:=qa hb1
  have HR1:=qa (HRI.out w1 hb1)
  clear hb1
  go_wp2_with fail
  refine HR1.out.mono ?_
  rintro r w2 ⟨rfl,hb2⟩
  have B2:Hid (Below w.heap.size w w2):=B1.out.trans (hb2.mono B1.out.size)
  clear hb2
  go_wp2_with fail
  go_ret2
  exact⟨B2.out,.inr ⟨HNR.out,rfl⟩⟩
 case pos =>
 rw[qx hri] at HRI
 obtain⟨nb,hnb⟩:∃nb:Nat,bits=(nb:Int):=⟨bits.toNat,by omega⟩
 have hnb6:nb≤65536:=by omega
 subst hnb
 obtain⟨n,hn⟩:∃n,os.length=n:=⟨_,rfl⟩
 have HN:=qa hn
 have HCOK:=qa hri.1
 have HRG:Hid ((∀g∈gs,∀k,k<os.length→uj (ko g k))→qaf cols gs os (nb:Int)):=fun h=>rightG_of HFG.out hcl hri h
 have hcn:cols=(n:Int):=by rw[←hcl,hn]
 subst hcn
 obtain⟨⟨a1,a2,a3⟩,a4⟩:=qly.1 HFG.out
 have hn8:n≤8:=by omega
 have HWD:Hid (∀i (hi:i<gs.length),0<gs[i].length∧∀r∈gs[i],r.length=n):=fun i hi=>⟨(a4 _ (ql hi)).1,fun r hr=>by have:=(a4 _ (ql hi)).2 r hr;omega⟩
 have HCG2:Hid (∀i (hi:i<gs.length),∀k,k<n→uj (ko gs[i] k)→qlc (qr (ko gs[i] k)) (qc5 os k)):=fun i hi k hk=>HCG.out.2 _ (ql hi) k (by omega)
 have HPU1:Hid (∀W,Calls Tryz.prog 39 #[.int .i64 (n:Int)] W fun r w'=>∃A c,r= .returned (.slice A (jc n).length c)∧w'.ownsRow W.heap.size 5 1 (.slice A (jc n).length c) (jc n).length (bv (jc n))∧Below W.heap.size W w'):=fun W=>qcf (w:=W) n (by omega)
 have HPU2:Hid (∀W,Calls Tryz.prog 39 #[.int .i64 (gs.length:Int)] W fun r w'=>∃A c,r= .returned (.slice A (jc gs.length).length c)∧w'.ownsRow W.heap.size 5 1 (.slice A (jc gs.length).length c) (jc gs.length).length (bv (jc gs.length))∧Below W.heap.size W w'):=fun W=>qcf (w:=W) gs.length (by omega)
 have hp1:=qe5 n (by omega)
 have hp2:=qe5 gs.length (by omega)
 rw[kf]
 obtain⟨SG,hSG⟩:∃SG,qgn os nb gs=SG:=⟨_,rfl⟩
 rw[hSG]
 have HSG:Hid (jc n++jc gs.length++qbx os nb gs=SG):=by unfold Hid;rw[←hSG,qgn,hn]
 obtain⟨sl,hsl⟩:∃sl,(vn SG).length=sl:=⟨_,rfl⟩
 rw[hsl]
 have HSLN:=qa hsl
 rw[hn] at hne hl2 HRI
 rw[hn]
 clear hsl hcl hri a1 a2 a3 a4 hn hSG HCG
 go_enter Tryz.func27,Tryz.ntmps27
 go_wp2_with fail
 refine HFI.out.mono ?_
 rintro r v1 ⟨rfl,hbv1⟩
 have BV1:=qa hbv1
 have HR1:=qa (HRI.out v1 hbv1)
 clear hbv1 HFI HRI
 go_wp2_with fail
 refine HR1.out.mono ?_
 rintro r v2 ⟨rfl,hbv2⟩
 have BV2:Hid (Below w.heap.size w v2):=BV1.out.trans (hbv2.mono BV1.out.size)
 have hsv2:=BV2.out.size
 have HP1:=qa (HPU1.out v2)
 clear hbv2 HR1 BV1
 go_wp2_with fail
 refine HP1.out.mono ?_
 rintro r w1 ⟨A1,c1,rfl,ho1,hb1⟩
 have HP2:=qa (HPU2.out w1)
 have HO1:=qa (j9 ho1 hsv2)
 have HB1:Hid (Below w.heap.size w w1):=BV2.out.trans (hb1.mono hsv2)
 have hs1:=HB1.out.size
 clear ho1 hb1 HPU1 HPU2 HP1
 go_wp2_with fail
 refine HP2.out.mono ?_
 rintro r w2 ⟨A2,c2,rfl,ho2,hb2⟩
 obtain⟨p0,hp0⟩:∃p0,(jc n).length+(jc gs.length).length=p0:=⟨_,rfl⟩
 obtain⟨HD,hHD⟩:∃HD,jc n++jc gs.length=HD:=⟨_,rfl⟩
 have hp18:p0≤18:=by omega
 obtain⟨A3,c3,w3,hrun3,ho3,hb3, -, -⟩:=qj7 HO1.out rfl hs1 hb2 ho2 rfl hHD hp0 (by omega)
 have hs2:=hb2.size
 have HB3:Hid (Below w.heap.size w w3):=(HB1.out.trans (hb2.mono hs1)).trans hb3
 have HO3:=qa ho3
 have HDL:Hid (HD.length=p0):=by unfold Hid;rw[←hHD,qd,hp0]
 rw[hHD] at HSG
 clear ho2 hb2 ho3 hb3 HO1 HP2 HB1 hHD hp0
 generalize (jc n).length=y1 at *
 generalize (jc gs.length).length=y2 at *
 go_wp2_with (at_builtin;refine wpList_append_run rfl _ _ _ _ rfl rfl rfl hrun3 ?_)
 clear hrun3
 go_loopw [10,40] (fun x10 x40 wr=>∃(g p:Nat) (A':Option Addr) (c':Nat),g≤gs.length∧x40= .int .i64 (g:Int)∧x10= .slice A' p c'∧Hid ((HD++qbx os nb (gs.take g)).length=p)∧PA g p∧Hid (wr.ownsRow w.heap.size 5 1 (.slice A' p c') p (bv (HD++qbx os nb (gs.take g))))∧Hid (∀i (hi:i<gs.length),i<g→∀k,k<n→uj (ko gs[i] k)∧(y9 (qr (ko gs[i] k)) (qc5 os k)=2→jz (ki (qr (ko gs[i] k)) (qc5 os k))=true))∧Below w.heap.size w wr) (fun _ x40 _=>gs.length-(intOf x40).toNat)
 case atStart=>exact⟨0,p0,A3,c3,qj _,rfl,rfl,by unfold Hid;rw[uh,show qbx os nb []=[] from rfl,jd];exact HDL.out,PA.zero hp18,by unfold Hid;rw[uh,show qbx os nb []=[] from rfl,jd];exact HO3.out,(fun i _ hi=>absurd hi (jm i)),HB3.out⟩
 case round =>
  clear HO3 HB3 HDL
  obtain⟨g,p,A',c',hg,rfl,rfl,HP,hpb,HOW,HT,hb⟩:=hrel
  obtain⟨wg,hwg⟩:∃wg,wg=wr:=⟨_,rfl⟩
  subst hwg
  have HBG:=qa hb
  have hszg:=hb.size
  clear hb
  by_cases hgl:g<gs.length
  ·
   have ig:(g:Int)<(gs.length:Int):=by omega
   have ig0:(0:Int)≤(g:Int):=by omega
   obtain⟨b,off,Ag,cg,rfl,_,hbl,hcell,hrows⟩:=(H.out w (Below.refl _ _)).get hgl
   obtain⟨hrl,hrm⟩:=hrows.len
   have HRW:Hid (∀W,Below w.heap.size w W→ka W 0 W.heap.size Ag cg gs[g]):=fun W hW=>(hrows.below hW (qc _)).wide (qc _) hW.size
   have HGT:=qa (qj6 (os:=os) (b:=nb) hgl)
   have HWG:=qa (HWD.out g hgl)
   have HCC:=qa (HCG2.out g hgl)
   have HNX:Hid ((∀k,k<n→uj (ko gs[g] k)∧(y9 (qr (ko gs[g] k)) (qc5 os k)=2→jz (ki (qr (ko gs[g] k)) (qc5 os k))=true))→∀i (hi:i<gs.length),i<g+1→∀k,k<n→uj (ko gs[i] k)∧(y9 (qr (ko gs[i] k)) (qc5 os k)=2→jz (ki (qr (ko gs[i] k)) (qc5 os k))=true)):=fun hh i hi hig k hk=>by
    by_cases e:i=g
    ·
     subst e;exact hh k hk
    ·
     exact HT.out i hi (by omega) k hk
   have HNR:Hid (∀k,k<n→¬uj (ko gs[g] k)→¬qaf (n:Int) gs os (nb:Int)):=fun k hk hnf hR=>hnf ((hR.2.2.2.2.2.2.2 _ (ql hgl)).2.2 k (by rw[HN.out];exact hk))
   have hrn:gs[g].length≤60:=by
    have h1:=qdt hgl
    have h2:=qh9 gs (g+1)
    have h3:=HFW.out.rows
    omega
   have hbn:qjc gs[g]≤3000:=by
    have h1:=sumA_take hgl
    have h2:qjr (gs.take (g+1))≤qjr gs:=by
     have h:qjr gs=qjr (gs.take (g+1))+qjr (gs.drop (g+1)):=by
      unfold qjr
      rw[←qcj,←jg,zw]
     omega
    have h3:=HFW.out.bytes
    omega
   obtain⟨G,hG⟩:∃G,gs[g]=G:=⟨_,rfl⟩
   rw[hG] at hcell hrl HRW HGT HWG HCC HNX HNR hrn hbn
   have HBN:=qa hbn
   obtain⟨gl,hgl2⟩:∃gl,G.length=gl:=⟨_,rfl⟩
   have HGL:=qa hgl2
   rw[hgl2] at hcell hrl hrn
   have HCE:Hid (∀W,Below w.heap.size w W→W.cell? ⟨b,off+g,none⟩=some (.slice Ag gl cg)):=fun W hW=>(hW.cell (p:=⟨b,off+g,none⟩) hbl).trans hcell
   have hcell:=HCE.out wg HBG.out
   have HPU:=qa (qcf (w:=wg) gl (by omega))
   have hpg:=qe5 gl (by omega)
   obtain⟨pg,hpg2⟩:∃pg,(jc gl).length=pg:=⟨_,rfl⟩
   rw[hpg2] at HPU hpg
   obtain⟨PG,hPG⟩:∃PG,jc gl=PG:=⟨_,rfl⟩
   rw[hPG] at HPU hpg2
   have HGB:Hid (qlw os nb G=PG++qb6 G os nb n):=by unfold Hid;rw[qlw,hgl2,hPG,HN.out]
   clear hrows hG hgl2 hbn hPG
   go_wp2_with fail
   refine HPU.out.mono ?_
   rintro r w4 ⟨A4,c4,rfl,ho4,hb4⟩
   obtain⟨X0,hX0⟩:∃X0,HD++qbx os nb (gs.take g)++PG=X0:=⟨_,rfl⟩
   obtain⟨p5,hp5⟩:∃p5,p+pg=p5:=⟨_,rfl⟩
   have hpg3:=hpb.big (by omega)
   obtain⟨A5,c5,w5,hrun5,ho5,hb5', -, -⟩:=qj7 HOW.out HP.out hszg hb4 ho4 hpg2 hX0 hp5 (by omega)
   have hs4:=hb4.size
   have HB5:Hid (Below w.heap.size w w5):=(HBG.out.trans (hb4.mono hszg)).trans hb5'
   have HO5:=qa ho5
   have HX0:Hid (X0.length=p5):=by unfold Hid;rw[←hX0,qd,HP.out,hpg2,hp5]
   have hpb5:=PA.put hpb hpg hp5
   have HXE:=qa hX0
   clear ho4 hb4 ho5 hb5' hX0 hp5 HPU HOW HP hpb
   go_wp2_with (at_builtin;refine wpList_append_run rfl _ _ _ _ rfl rfl rfl hrun5 ?_)
   clear hrun5
   go_loopw [10,50] (fun x10 x50 wr=>∃(k p:Nat) (A':Option Addr) (c':Nat),k≤n∧x50= .int .i64 (k:Int)∧x10= .slice A' p c'∧Hid ((X0++qb6 G os nb k).length=p)∧PB g k p∧Hid (wr.ownsRow w.heap.size 5 1 (.slice A' p c') p (bv (X0++qb6 G os nb k)))∧Hid (∀j,j<k→uj (ko G j)∧(y9 (qr (ko G j)) (qc5 os j)=2→jz (ki (qr (ko G j)) (qc5 os j))=true))∧Below w.heap.size w wr) (fun _ x50 _=>n-(intOf x50).toNat)
   case atStart=>exact⟨0,p5,A5,c5,qj _,rfl,rfl,by unfold Hid;rw[show qb6 G os nb 0=[] from rfl,jd];exact HX0.out,hpb5,by unfold Hid;rw[show qb6 G os nb 0=[] from rfl,jd];exact HO5.out,(fun j hj=>absurd hj (jm j)),HB5.out⟩
   case round =>
    as_aux_lemma =>
    clear HO5 HB5 HX0
    obtain⟨k,p,A',c',hk,rfl,rfl,HP,hpb,HOW,HTK,hb⟩:=hrel
    obtain⟨wk,hwk⟩:∃wk,wk=wr:=⟨_,rfl⟩
    subst hwk
    have HBK:=qa hb
    have hszk:=hb.size
    clear hb
    by_cases hkl:k<n
    ·
     have ik:(k:Int)<(n:Int):=by omega
     have ik0:(0:Int)≤(k:Int):=by omega
     have hko:k<os.length:=by rw[HN.out];exact hkl
     obtain⟨b9,off9,A9,c9,rfl,_,hbl9,e0,e1,e2,e3,hrd9,hwd9⟩:=(HO.out w (Below.refl _ _)).get hko
     have HCO:Hid (∀W,Below w.heap.size w W→W.cell? ⟨b9,off9+k*4,none⟩=some (.int .i64 os[k].kind)∧W.cell? ⟨b9,off9+k*4+1,none⟩=some (.int .i64 os[k].block)∧W.cell? ⟨b9,off9+k*4+2,none⟩=some (.int .i64 os[k].rounds)∧W.cell? ⟨b9,off9+k*4+3,none⟩=some (.slice A9 os[k].draws.length c9)):=fun W hW=>⟨(hW.cell (p:=⟨b9,off9+k*4,none⟩) hbl9).trans e0,(hW.cell (p:=⟨b9,off9+k*4+1,none⟩) hbl9).trans e1,(hW.cell (p:=⟨b9,off9+k*4+2,none⟩) hbl9).trans e2,(hW.cell (p:=⟨b9,off9+k*4+3,none⟩) hbl9).trans e3⟩
     have hcols:∀r∈G,k<r.length:=fun r hr=>by rw[HWG.out.2 r hr];exact hkl
     have HCL:Hid (∀W,Below w.heap.size w W→Calls Tryz.prog 51 #[.slice Ag gl cg,.int .i64 (k:Int)] W fun r w'=>∃A' c',r= .returned (.slice A' gl c')∧Row w' W.heap.size w'.heap.size A' c' (ko G k)∧Below W.heap.size W w'):=fun W hW=>by
      have:=column_v (HRW.out W hW) k hcols (by rw[HGL.out];omega)
      rw[HGL.out] at this
      exact this
     obtain⟨L,hL⟩:∃L,ko G k=L:=⟨_,rfl⟩
     have HLL:Hid (L.length=gl):=by unfold Hid;rw[←hL,qd1,HGL.out]
     have HSM:Hid (qel L≤3000):=by unfold Hid;rw[←hL];exact zc (qko hcols) HBN.out
     obtain⟨o,hoq⟩:∃o,os[k]=o:=⟨_,rfl⟩
     have HAT:Hid (qc5 os k=o):=by unfold Hid;rw[coAt_is hko,hoq]
     have HCOO:Hid (qbs o):=by unfold Hid;rw[←hoq];exact HCOK.out _ (ql hko)
     have HDR:Hid (o.draws.length≤60):=by unfold Hid;rw[←hoq];exact HFW.out.draws _ (ql hko)
     have HCS:Hid (qb6 G os nb (k+1)=qb6 G os nb k++qga L o nb):=by unfold Hid;rw[qhm,HAT.out,hL]
     have HCD:Hid (uj L→qlc (qr L) o):=fun hf=>by
      have:=HCC.out k hkl (by rw[hL];exact hf)
      rw[HAT.out,hL] at this
      exact this
     have HTK2:Hid (uj L→(y9 (qr L) o=2→jz (ki (qr L) o)=true)→∀j,j<k+1→uj (ko G j)∧(y9 (qr (ko G j)) (qc5 os j)=2→jz (ki (qr (ko G j)) (qc5 os j))=true)):=fun hf ht j hj=>by
      by_cases e:j=k
      ·
       subst e;rw[HAT.out,hL];exact⟨hf,ht⟩
      ·
       exact HTK.out j (by omega)
     have HNR2:Hid (¬uj L→¬qaf (n:Int) gs os (nb:Int)):=fun hf=>HNR.out k hkl (by rw[hL];exact hf)
     rw[hL] at HCL
     rw[hoq] at HCO hrd9 hwd9
     have HRD:Hid (∀W,Below w.heap.size w W→Rd W 0 W.heap.size A9 c9 (iv o.draws)):=fun W hW=>(hrd9.below hW (qc _)).wide (qc _) hW.size
     have HWD9:=qa hwd9
     clear hrd9 hwd9 e0 e1 e2 e3 hL hcols hoq
     have HCF:Hid (∀W,Below wk.heap.size wk W→W.cell? ⟨b9,off9+k*4,none⟩=some (.int .i64 o.kind)∧W.cell? ⟨b9,off9+k*4+1,none⟩=some (.int .i64 o.block)∧W.cell? ⟨b9,off9+k*4+2,none⟩=some (.int .i64 o.rounds)∧W.cell? ⟨b9,off9+k*4+3,none⟩=some (.slice A9 o.draws.length c9)):=fun W hW=>HCO.out W (HBK.out.trans (hW.mono hszk))
     have HCLK:Hid (∀W,Below wk.heap.size wk W→Calls Tryz.prog 51 #[.slice Ag gl cg,.int .i64 (k:Int)] W fun r w'=>∃A' c',r= .returned (.slice A' gl c')∧Row w' W.heap.size w'.heap.size A' c' L∧Below W.heap.size W w'):=fun W hW=>HCL.out W (HBK.out.trans (hW.mono hszk))
     have HIN:Hid (∀W A' c',Below wk.heap.size wk W→Row W 0 W.heap.size A' c' L→CIn W L o.kind o.block o.rounds o.draws A' A9 c' c9):=fun W A' c' hW hr=>⟨hr,HRD.out W (HBK.out.trans (hW.mono hszk)),HWD9.out,by have:=HDR.out;omega⟩
     obtain⟨dl,hdl⟩:∃n,o.draws.length=n:=⟨_,rfl⟩
     have HDL:=qa hdl
     rw[hdl] at HCF
     clear hdl
     have KD:Hid (Below wk.heap.size wk wk.drew):=(Below.refl _ _).drew
     go_wp2_with fail
     by_cases hfv:uj L
     ·
      have HCO8:Hid (qlc (qr L) o):=HCD.out hfv
      have HTK3:Hid ((y9 (qr L) o=2→jz (ki (qr L) o)=true)→∀j,j<k+1→uj (ko G j)∧(y9 (qr (ko G j)) (qc5 os j)=2→jz (ki (qr (ko G j)) (qc5 os j))=true)):=HTK2.out hfv
      have HFV:=qa hfv
      have hal:(qcc (qdh (qr L))).length≤65536:=by
       have h1:=allL_sum (qr L)
       have h2:=qfk L
       have:=HSM.out
       omega
      have HAL:=qa hal
      have HFB:Hid ((qnb (qr L) nb).length≤1000000):=by
       obtain⟨t,ht⟩:=rise_ex (qcc (qdh (qr L)))
       exact qlz ht (by omega) hnb6
      clear hfv hal
      refine wp_region_held_drew (S:=fun w'=>Below wk.heap.size wk w') (by kernel_rfl) KD.out (fun hHeld => ?_)
      refine tk 0 ?_ rfl hHeld ?_ ?_
      rotate_left
      focus (intro W hSw;go_simp;try with_reducible rfl)
      try simp only[jt,Act.put]
      refine tk 1 ?_ rfl hHeld ?_ ?_
      rotate_left
      focus (intro W hSw;go_simp;try with_reducible rfl)
      try simp only[jt,Act.put]
      refine tk 3 ?_ rfl hHeld ?_ ?_
      rotate_left
      focus (intro W hSw;go_simp;try with_reducible rfl)
      try simp only[jt,Act.put]
      refine tk 4 ?_ rfl hHeld ?_ ?_
      rotate_left
      focus (intro W hSw;go_simp;try with_reducible rfl)
      try simp only[jt,Act.put]
      refine tk 5 ?_ rfl hHeld ?_ ?_
      rotate_left
      focus (intro W hSw;go_simp;try with_reducible rfl)
      try simp only[jt,Act.put]
      refine tk 7 ?_ rfl hHeld ?_ ?_
      rotate_left
      focus (intro W hSw;go_simp;try with_reducible rfl)
      try simp only[jt,Act.put]
      refine tk 6 ?_ rfl hHeld ?_ ?_
      rotate_left
      focus (intro W hSw;obtain⟨q0,q1,q2,q3⟩:=HCF.out W hSw;go_simp;try with_reducible rfl)
      try simp only[jt,Act.put]
      obtain⟨wx,hwx⟩:∃q,wk.drew=q:=⟨_,rfl⟩
      rw[hwx] at hHeld ⊢
      clear KD hwx
      have K0:=qa hHeld
      refine wpAnyH_ready (rs:=[2]) (by kernel_rfl) (by simp) ?_
      refine qu (o:=_) rfl (fun K hK => ?_) q5
      go_simp
      refine(HCLK.out _ K0.out).mono ?_
      rintro r wy ⟨A7,c7,rfl,hr7,hb7⟩
      have K7:Hid (Below wk.heap.size wk wy):=K0.out.trans (hb7.mono K0.out.size)
      have HI7:=qa (HIN.out wy A7 c7 K7.out (hr7.wide (qj _) (qc _)))
      clear hr7 hb7
      refine hK.out _ _ K7.out (fun hHeld => ?_)
      clear hK K
      try simp only[jt,Act.put]
      obtain⟨CB,hCB⟩:∃CB,qga L o nb=CB:=⟨_,rfl⟩
      have HCB:=qa hCB
      clear hCB
      refine wpAnyH_ready (rs:=[8]) (by kernel_rfl) (by simp) ?_
      refine qu (o:=_) rfl (fun K hK => ?_) q5
      go_simp
      have HC8:Hid (Calls Tryz.prog 50 #[.slice A7 gl c7,.agg #[.int .i64 o.kind,.int .i64 o.block,.int .i64 o.rounds,.slice A9 dl c9],.int .i64 (nb:Int)] wy fun r w'=>∃A' c',r= .returned (.tuple #[.slice A' CB.length c',.int .i64 0])∧w'.ownsRow wy.heap.size 5 1 (.slice A' CB.length c') CB.length (bv CB)∧Below wy.heap.size wy w'∧(y9 (qr L) o=2→jz (ki (qr L) o)=true)):=by
       have:=sgcode_yes HI7.out (o:=o) rfl ⟨HFV.out,HCOO.out⟩ nb hnb6 HAL.out (by rw[HLL.out];omega) (by have:=HSM.out;omega) HCO8.out
       rw[HLL.out,HDL.out,HCB.out] at this
       exact this
      refine HC8.out.mono ?_
      rintro r wz ⟨A8,c8,rfl,ho8,hb8,ht8⟩
      have K8:Hid (Below wk.heap.size wk wz):=K7.out.trans (hb8.mono K7.out.size)
      have HO8:=qa (j9 ho8 K7.out.size)
      have HT8:=qa ht8
      clear ho8 hb8 ht8 HC8 HI7
      refine hK.out _ _ K8.out (fun hHeld => ?_)
      clear hK K
      try simp only[jt,Act.put]
      refine tk 9 ?_ rfl hHeld ?_ ?_
      rotate_left
      focus (intro W hSw;go_simp;try with_reducible rfl)
      try simp only[jt,Act.put]
      refine tk 10 ?_ rfl hHeld ?_ ?_
      rotate_left
      focus (intro W hSw;go_simp;try with_reducible rfl)
      try simp only[jt,Act.put]
      refine tk 11 ?_ rfl hHeld ?_ ?_
      rotate_left
      focus (intro W hSw;go_simp;try with_reducible rfl)
      try simp only[jt,Act.put]
      refine tk 12 ?_ rfl hHeld ?_ ?_
      rotate_left
      focus (intro W hSw;go_simp;try with_reducible rfl)
      try simp only[jt,Act.put]
      refine tk 13 ?_ rfl hHeld ?_ ?_
      rotate_left
      focus (intro W hSw;go_simp;try with_reducible rfl)
      try simp only[jt,Act.put]
      refine wpAnyH_done (by kernel_rfl) ?_ _
      clear HCLK HCF HIN HCL HCO
      have hcode:=qk5 HFV.out HCOO.out HT8.out (by rw[HLL.out];omega) (by have:=HSM.out;omega)
      obtain⟨cl,hcl⟩:∃q,CB.length=q:=⟨_,rfl⟩
      have hcl2:cl=(qnb (qr L) nb).length+(qf6 L o).length:=by rw[←hcl,←HCB.out,qga,qd]
      have HK8:Hid (Below w.heap.size w wz):=HBK.out.trans (K8.out.mono hszk)
      rw[hcl] at HO8
      have hpk3:=hpb.big (by omega) (by omega)
      have hfl:=HFB.out
      obtain⟨p7,hp7⟩:∃p7,p+cl=p7:=⟨_,rfl⟩
      obtain⟨A7,c7,w7,hrun7,ho7,hb7, -, -⟩:=qj7 HOW.out HP.out hszk K8.out HO8.out hcl rfl hp7 (by omega)
      have HB7:Hid (Below w.heap.size w w7):=HK8.out.trans hb7
      have hpb7:PB g (k+1) p7:=hpb.step (a:=(qnb (qr L) nb).length) (b:=(qf6 L o).length) hfl hcode rfl (by omega)
      have HE:Hid (X0++qb6 G os nb k++CB=X0++qb6 G os nb (k+1)):=by unfold Hid;rw[HCS.out,HCB.out,qm]
      have HP7:Hid ((X0++qb6 G os nb (k+1)).length=p7):=by unfold Hid;rw[←HE.out,qd,HP.out,hcl,hp7]
      rw[HE.out] at ho7
      have HO7:=qa ho7
      have HTK4:=qa (HTK3.out HT8.out)
      rw[hcl]
      clear ho7 hb7 hp7 hpb HOW HP hcode hcl hcl2 hfl HO8
      go_wp2_with (at_builtin;refine wpList_append_run rfl _ _ _ _ rfl rfl rfl hrun7 ?_)
      go_roundw
      case rel=>exact⟨k+1,p7,A7,c7,by omega,by go_num,rfl,HP7.out,hpb7,HO7.out,HTK4.out,HB7.out⟩
      case measure=>simp[intOf];omega
     ·
      have HNR3:=qa (HNR2.out hfv)
      have HFV:=qa hfv
      clear hfv
      refine wp_region_held_drew (S:=fun w'=>Below wk.heap.size wk w') (by kernel_rfl) KD.out (fun hHeld => ?_)
      refine tk 0 ?_ rfl hHeld ?_ ?_
      rotate_left
      focus (intro W hSw;go_simp;try with_reducible rfl)
      try simp only[jt,Act.put]
      refine tk 1 ?_ rfl hHeld ?_ ?_
      rotate_left
      focus (intro W hSw;go_simp;try with_reducible rfl)
      try simp only[jt,Act.put]
      refine tk 3 ?_ rfl hHeld ?_ ?_
      rotate_left
      focus (intro W hSw;go_simp;try with_reducible rfl)
      try simp only[jt,Act.put]
      refine tk 4 ?_ rfl hHeld ?_ ?_
      rotate_left
      focus (intro W hSw;go_simp;try with_reducible rfl)
      try simp only[jt,Act.put]
      refine tk 5 ?_ rfl hHeld ?_ ?_
      rotate_left
      focus (intro W hSw;go_simp;try with_reducible rfl)
      try simp only[jt,Act.put]
      refine tk 7 ?_ rfl hHeld ?_ ?_
      rotate_left
      focus (intro W hSw;go_simp;try with_reducible rfl)
      try simp only[jt,Act.put]
      refine tk 6 ?_ rfl hHeld ?_ ?_
      rotate_left
      focus (intro W hSw;obtain⟨q0,q1,q2,q3⟩:=HCF.out W hSw;go_simp;try with_reducible rfl)
      try simp only[jt,Act.put]
      obtain⟨wx,hwx⟩:∃q,wk.drew=q:=⟨_,rfl⟩
      rw[hwx] at hHeld ⊢
      clear KD hwx
      have K0:=qa hHeld
      refine wpAnyH_ready (rs:=[2]) (by kernel_rfl) (by simp) ?_
      refine qu (o:=_) rfl (fun K hK => ?_) q5
      go_simp
      refine(HCLK.out _ K0.out).mono ?_
      rintro r wy ⟨A7,c7,rfl,hr7,hb7⟩
      have K7:Hid (Below wk.heap.size wk wy):=K0.out.trans (hb7.mono K0.out.size)
      have HI7:=qa (HIN.out wy A7 c7 K7.out (hr7.wide (qj _) (qc _)))
      clear hr7 hb7
      refine hK.out _ _ K7.out (fun hHeld => ?_)
      clear hK K
      try simp only[jt,Act.put]
      refine wpAnyH_ready (rs:=[8]) (by kernel_rfl) (by simp) ?_
      refine qu (o:=_) rfl (fun K hK => ?_) q5
      go_simp
      have HC8:Hid (Calls Tryz.prog 50 #[.slice A7 gl c7,.agg #[.int .i64 o.kind,.int .i64 o.block,.int .i64 o.rounds,.slice A9 dl c9],.int .i64 (nb:Int)] wy fun r w'=>r= .returned (.tuple #[.slice none 0 0,.int .i64 1])∧Below wy.heap.size wy w'):=by
       have:=sgcode_no HI7.out (fun h=>HFV.out h.1) (nb:Int)
       rw[HLL.out,HDL.out] at this
       exact this
      refine HC8.out.mono ?_
      rintro r wz ⟨rfl,hb8⟩
      have K8:Hid (Below wk.heap.size wk wz):=K7.out.trans (hb8.mono K7.out.size)
      clear hb8 HC8 HI7
      refine hK.out _ _ K8.out (fun hHeld => ?_)
      clear hK K
      try simp only[jt,Act.put]
      refine tk 9 ?_ rfl hHeld ?_ ?_
      rotate_left
      focus (intro W hSw;go_simp;try with_reducible rfl)
      try simp only[jt,Act.put]
      refine tk 10 ?_ rfl hHeld ?_ ?_
      rotate_left
      focus (intro W hSw;go_simp;try with_reducible rfl)
      try simp only[jt,Act.put]
      refine tk 11 ?_ rfl hHeld ?_ ?_
      rotate_left
      focus (intro W hSw;go_simp;try with_reducible rfl)
      try simp only[jt,Act.put]
      refine tk 12 ?_ rfl hHeld ?_ ?_
      rotate_left
      focus (intro W hSw;go_simp;try with_reducible rfl)
      try simp only[jt,Act.put]
      refine tk 13 ?_ rfl hHeld ?_ ?_
      rotate_left
      focus (intro W hSw;go_simp;try with_reducible rfl)
      try simp only[jt,Act.put]
      refine wpAnyH_done (by kernel_rfl) ?_ _
      go_wp2_with fail
      go_ret2
      exact⟨HBK.out.trans (K8.out.mono hszk),.inr ⟨HNR3.out,rfl⟩⟩
    ·
     have ik:¬(k:Int)<(n:Int):=by omega
     have hkn:k=n:=by omega
     have HXN:Hid (HD++qbx os nb (gs.take (g+1))=X0++qb6 G os nb n):=by
      unfold Hid
      rw[HGT.out,HGB.out,←HXE.out]
      simp only[qm]
     subst hkn
     rw[←HXN.out] at HP HOW
     have HTN:=qa (HNX.out HTK.out)
     go_wp2_with fail
     go_roundw
     case rel=>exact⟨g+1,p,A',c',by omega,by go_num,rfl,HP.out,hpb.next (by omega),HOW.out,HTN.out,HBK.out⟩
     case measure=>simp[intOf];omega
  ·
   have ig:¬(g:Int)<(gs.length:Int):=by omega
   have HTA:Hid (gs.take g=gs):=qp (by omega)
   rw[HTA.out,HSG.out] at HP HOW
   have HALL:Hid (∀x∈gs,∀k,k<os.length→uj (ko x k)∧(y9 (qr (ko x k)) (qc5 os k)=2→jz (ki (qr (ko x k)) (qc5 os k))=true)):=fun x hx k hk=>by
    obtain⟨i,hi,rfl⟩:=zl hx
    exact HT.out i hi (by omega) k (by rw[HN.out] at hk;exact hk)
   have HRR:Hid (qaf (n:Int) gs os (nb:Int)):=HRG.out fun x hx k hk=>(HALL.out x hx k hk).1
   have HTT:Hid (qf7 gs os):=fun x hx k hk=>(HALL.out x hx k hk).2
   have HSE:=qa (Seal_any (w:=wg) SG ((Rd.of_own HOW.out).wide (qj _) (qc _)) (qc _) (by rw[HP.out];have:=hpb.big (by omega);omega))
   rw[HP.out] at HSE
   go_wp2_with fail
   refine HSE.out.mono ?_
   rintro r w2 ⟨A2,c2,rfl,ho2,hb2⟩
   have HB2:Hid (Below w.heap.size w w2):=HBG.out.trans (hb2.mono hszg)
   have HO2:=qa (j9 ho2 hszg)
   clear ho2 hb2
   rw[HSLN.out] at HO2 ⊢
   go_wp2_with fail
   go_ret2
   exact⟨HB2.out,.inl ⟨HRR.out,HTT.out,_,_,rfl,HO2.out⟩⟩
end Go.Proofs.YtjfecojdagmacaaGreat
