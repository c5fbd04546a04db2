/-
  Lemmas.
-/
import Derived.Test.YtnjkipnklpkaoaaGreatA16
namespace Go.Proofs.YtnjkipnklpkaoaaGreat
open Go.RowKit
set_option maxRecDepth 20000
set_option maxHeartbeats 16000000
set_option linter.unusedSimpArgs false
set_option linter.unusedVariables false
section
variable {P:Program}{f:FuncId}{args:Array Value}{w:World}{v:Value}
theorem qjc{a n:Nat}(h:Calls P f args (w.drewN (a+n)) fun e w'=>e= .returned v∧w.drewN (a+n)=w'):Calls P f args (w.drewN (a+n)) fun e w''=>e= .returned v∧∃m,w''=w.drewN (a+m) :=
 h.mono fun _ _ ⟨he,hm⟩=>⟨he,n,hm.symm⟩
end
theorem not_xor(s:BitVec 32):(s ^^^ qcy).toNat=4294967295-s.toNat:=by
 have e:s ^^^ qcy = ~~~s:=by
  apply BitVec.eq_of_getLsbD_eq
  intro i hi
  have h1:qcy=BitVec.allOnes 32:=rfl
  rw[h1,BitVec.getLsbD_xor,BitVec.getLsbD_not,BitVec.getLsbD_allOnes]
  simp[hi]
 rw[e,BitVec.toNat_not]
theorem bn_not(s:BitVec 32):4294967295-bn s=bn (s ^^^ qcy):=by
 have:=s.isLt
 unfold bn
 rw[not_xor]
 omega
theorem xor_byte(s:BitVec 32)(x:UInt8):bits .xor .u32 (bn s) (x.toNat:Int)=bn (s ^^^ qip x):=by
 have hs:=s.isLt
 have hx:=zp x
 unfold bn
 rw[u32_xor_nat _ _ hs (by omega),BitVec.toNat_xor]
 unfold qip
 rw[qbi,vd (by omega)]
theorem refOf_any{w:World}(bs:List UInt8){lo h':Nat}{A:Option Addr}{c:Nat}(h:Rd w lo h' A c (bv bs)) :
  Calls Tryz.prog 54 #[.slice A bs.length c] w fun r w'=>r= .returned (.int .u32 (bn (qc7 bs)))∧w=w':=by
 have hl:=h.len
 have hc:=h.cap
 rw[yh] at hl
 unfold maxLen at hc
 have H:=qa h
 clear h
 go_enter Tryz.func54,Tryz.ntmps54
 go_wp2_with fail
 go_loop [3,4] (fun s i=>∃k:Nat,k≤bs.length∧i= .int .i64 (k:Int)∧s= .int .u32 (bn (qbt qcy (bs.take k)))) (fun _ i=>bs.length-(intOf i).toNat)
 case atStart=>exact⟨0,qi _,rfl,rfl⟩
 case round =>
  obtain⟨k,hk,rfl,rfl⟩:=hrel
  by_cases hlt:k<bs.length
  ·
   have hsn:Hid (qbt qcy (bs.take (k+1))=qqn (qbt qcy (bs.take k)) bs[k]):=by
    unfold Hid
    rw[qg hlt,qkp]
   obtain⟨b,off,rfl,_,_,hcell⟩:=H.out.byte hlt
   have hs:=qps (qbt qcy (bs.take k))
   have hx:=zp bs[k]
   have hxor:=xor_byte (qbt qcy (bs.take k)) bs[k]
   generalize qbt qcy (bs.take k)=s at *
   generalize bs[k]=x at *
   go_wp2
   clear hxor hs hcell
   go_loop [5,3] (fun j q=>∃n:Nat,n≤8∧j= .int .i64 (n:Int)∧q= .int .u32 (bn (qaw n (s ^^^ qip x)))) (fun j _=>8-(intOf j).toNat)
   case atStart=>exact⟨0,qi _,rfl,rfl⟩
   case round =>
    obtain⟨n,hn,rfl,rfl⟩:=hrel
    by_cases hlt8:n<8
    ·
     have hq:=qps (qaw n (s ^^^ qip x))
     by_cases hodd:bn (qaw n (s ^^^ qip x))%2=1
     ·
      have hst:=xor_cdiv hodd
      rw[qi5] at hst
      generalize qaw n (s ^^^ qip x)=q at *
      generalize hq':bn (qaw (n+1) (s ^^^ qip x))=q' at hst
      have HQ:=qa hq'
      clear hq'
      go_wp2
      go_round
      case rel=>exact⟨n+1,by omega,by go_num,by rw[HQ.out]⟩
      case measure=>simp[intOf];omega
     ·
      have hodd0:bn (qaw n (s ^^^ qip x))%2=0:=by omega
      have hst:=bn_even hodd0
      rw[qi5] at hst
      have HQ:=qa hst
      clear hodd hst
      generalize qaw n (s ^^^ qip x)=q at *
      go_wp2
      go_round
      case rel=>exact⟨n+1,by omega,by go_num,by rw[HQ.out]⟩
      case measure=>simp[intOf];omega
    ·
     obtain rfl:n=8:=by omega
     go_wp2
     go_round
     case rel=>exact⟨k+1,by omega,by go_num,by rw[hsn.out];rfl⟩
     case measure=>simp[intOf];omega
  ·
   obtain rfl:k=bs.length:=by omega
   have hs:=qps (qbt qcy (bs.take bs.length))
   have hnot:=bn_not (qbt qcy (bs.take bs.length))
   have HE:Hid (qbt qcy (bs.take bs.length) ^^^ qcy=qc7 bs):=by
    unfold Hid qc7
    rw[yf]
   generalize qbt qcy (bs.take bs.length)=s at *
   go_wp2
   go_ret
   exact⟨kf (by rw[HE.out]),rfl⟩
theorem qlr{w:World}(bs:List UInt8){lo h':Nat}{A:Option Addr}{c:Nat}(h:Rd w lo h' A c (bv bs))(hh:h'≤w.heap.size)(hb:bs.length≤1000000000) :
  Calls Tryz.prog 20 #[.slice A bs.length c] w fun r w'=>∃A' c',r= .returned (.slice A' (kr bs).length c')∧
   w'.ownsRow w.heap.size 5 1 (.slice A' (kr bs).length c') (kr bs).length (bv (kr bs))∧Below w.heap.size w w':=by
 have hs:=qps (qc7 bs)
 have H:=qa h
 obtain⟨A1,c1,w1,hrun,hown,hg1⟩:=qfg (w.alloc (.cells #[] 5)) w.heap.size (.slice (some ⟨w.heap.size,0,none⟩) 0 0) [] bs (qmq w [] #[] rfl (by simp)) (h.alloc hh _) (by simp;omega) (by simp)
 simp only[je,xa,yk] at hrun hown
 clear h
 have k1:Below w.heap.size w w1:=((Below.refl _ _).alloc (qc _) _).grown hg1 (by simp) (by simp[Value.ownBlock])
 have HO:=qa hown
 have HK1:=qa k1
 have s1:=k1.size
 clear hown hg1 k1
 have h4:=qmq w1 (qh0 (qc7 bs)) #[.int .u8 (bn (qc7 bs)%256),.int .u8 (bn (qc7 bs)/256%256),.int .u8 (bn (qc7 bs)/65536%256),.int .u8 (bn (qc7 bs)/16777216)] (by rw[crcB_cells]) (by simp[qcc])
 obtain⟨A2,c2,w2,hrun2,hown2,hg2⟩:=j9 (w1.alloc (.cells #[.int .u8 (bn (qc7 bs)%256),.int .u8 (bn (qc7 bs)/256%256),.int .u8 (bn (qc7 bs)/65536%256),.int .u8 (bn (qc7 bs)/16777216)] 5)) w.heap.size _ bs (qh0 (qc7 bs)) (kr bs) rfl (HO.out.alloc _) (Rd.own h4) (by rw[qcc];omega) (by simp;omega)
 have HO2:=qa hown2
 have HG2:=qa hg2
 clear hown2 hg2 h4
 rw[qcc] at hrun2
 go_enter Tryz.func20,Tryz.ntmps20
 go_wp2_with fail
 refine(refOf_any bs H.out).mono ?_
 rintro r w' ⟨rfl,rfl⟩
 go_wp2_with (at_builtin;refine wpList_append_run rfl _ _ _ _ rfl rfl rfl hrun ?_;refine qaz ?_)
 refine⟨?_⟩
 clear hrun
 go_wp2_with (at_builtin;refine wpList_append_run rfl _ _ _ _ rfl rfl rfl hrun2 ?_)
 go_ret
 refine⟨A2,c2,rfl,HO2.out,?_⟩
 refine((HK1.out).alloc s1 _).grown HG2.out (by simp;omega) (fun k hk=>qef HO.out k hk)
end Go.Proofs.YtnjkipnklpkaoaaGreat
