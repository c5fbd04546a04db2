/-
  Lemmas.
-/
import Derived.Test.YtjfecojdagmacaaGreatE08
import Derived.Lib.SlicesCompact
import Derived.Shelf.Spec.SearchS
namespace Go.Proofs.YtjfecojdagmacaaGreat
open Go.RowKit
set_option maxRecDepth 20000
set_option maxHeartbeats 16000000
set_option linter.unusedSimpArgs false
set_option linter.unusedVariables false
section
open Go.RowKit Go.Shelf
attribute [local go_sem] Oper.semAt_some
def piecesV(Bb Bt:Nat):Array Value:=#[.pointer (some ⟨Bb,0,none⟩),.pointer (some ⟨Bt,0,none⟩)]
def encPc(x:Pc):Array Value:=#[.string x.s,.int .i64 (x.e:Int)]
set_option maxRecDepth 100000 in
set_option maxHeartbeats 4000000 in
theorem pieces1_in(F:Fence)(n:Nat)(hf:F.fn 218)(hro:F.round=none)(hn:1≤n)(lp Bb Bt n₀:Nat)(l:List ByteArray)(h8:∀t∈l,t.size≤8)(hln:l.length≤255)(bs:List UInt8)(hbl:bs.length≤1000000){c c2:Nat}{A B:Option Addr}(J Jx:List Pc→World→Prop)
  (hY:∀pre x W,J pre W→pre.length<(qgf l h8 false bs).length→YieldAt F (n-1) Tryz.prog lp (encPc x) W fun e W' =>
   (e= .returned (.bool true)∧J (pre++[x]) W'∧Kp2 n₀ Bb Bt W W')∨(e= .returned (.bool false)∧Jx (pre++[x]) W'))
  (W:World) (hBb:W.cell? ⟨Bb,0,none⟩=some (.slice B bs.length c2)) (hBt:W.cell? ⟨Bt,0,none⟩=some (.slice A l.length c)) (hb:Rd W 0 n₀ B c2 (bv bs)) (ht:Rd W 0 n₀ A c (sv l)) (h0:J [] W) :
  CallsIn F n Tryz.prog 218 #[.func (.yield lp) #[] #[],.pointer (some ⟨Bb,0,none⟩),.pointer (some ⟨Bt,0,none⟩)] W fun e W'=>(∃v,e= .returned v)∧
   ((∃ys,ys=qgf l h8 false bs∧J ys W')∨(∃pre,pre <+: qgf l h8 false bs∧Jx pre W')):=by
 have hl:=hb.len
 have hm:=hb.cap
 have hl1:=ht.len
 have hm1:=ht.cap
 rw[xr] at hl1
 rw[jj] at hl
 unfold maxLen at hm hm1
 have HB:=qa hb
 have HT:=qa ht
 have HY:=qa hY
 obtain⟨ps,hps⟩:∃ps,qgf l h8 false bs=ps:=⟨_,rfl⟩
 rw[hps] at HY ⊢
 have HPS:=qa hps
 clear hb ht hY hps
 refine callsIn_of_wp Tryz.func218 rfl hf ?_ hro
 simp only[Tryz.ntmps218,qcn,qo,jy,Nat.reduceAdd,Nat.reduceSub,qcr,qcq,List.push_toArray,qdm,xu,z7]
 gi_wp2
 gi_loopw [4,11] (fun x4 x11 wr=>∃(k:Nat) (f:Bool) (pre:List Pc),k≤bs.length∧x4= .bool f∧x11= .int .i64 (k:Int)∧pre++qgf l h8 f (bs.drop k)=ps∧J pre wr∧Kp2 n₀ Bb Bt W wr) (fun _ i _=>bs.length-(intOf i).toNat)
 case atStart=>exact⟨0,false,[],qj _,rfl,rfl,by rw[jv,HPS.out];rfl,h0,Kp2.refl _ _ _ _⟩
 case round =>
  obtain⟨k,f,pre,hk,rfl,rfl,hpre,hJs,hkp⟩:=hrel
  have HPRE:=qa hpre
  have HKP:=qa hkp
  have hcb:wr.cell? ⟨Bb,0,none⟩=some (.slice B bs.length c2):=hkp.cellb.trans hBb
  have hct:wr.cell? ⟨Bt,0,none⟩=some (.slice A l.length c):=hkp.cellt.trans hBt
  clear hpre hkp
  by_cases hlt:k<bs.length
  ·
   have ik:(k:Int)<(bs.length:Int):=by omega
   obtain⟨b,off,rfl,hb1,hb2,hcell⟩:=(HB.out.below HKP.out.below (qc _)).byte hlt
   have lx:bs[k].toNat<256:=je _
   cases f with
   | true =>
    have hpc:=HPRE.out
    rw[pc_lit hlt] at hpc
    obtain⟨fn,tmps,assign,body,hy,hR⟩:=HY.out pre (Pc.lit bs[k]) wr hJs (by rw[←hpc];simp)
    dsimp only[encPc,Pc.lit] at hy
    rw[show((0:Nat):Int)=0 from rfl] at hy
    have HPC:=qa hpc
    clear hpc
    have hcv:(convert 36 9 (.slice (some ⟨b,off+k,none⟩) 1 (c2-k))).run Tryz.prog wr= .ok (.string ⟨#[bs[k]]⟩) wr:=by
     refine vk (P:=Tryz.prog) wr 36 9 5 Tryz.underlying36 Tryz.underlying5 Tryz.underlying9 0 (b+1) _ _ [bs[k]] ⟨by simp[bv];omega,by simp only[maxLen];omega,fun _=>⟨b,off+k,rfl,qj _,by omega,fun j u hu => ?_⟩⟩
     match j,hu with
     | 0,hu =>
      simp[bv] at hu
      subst hu
      exact hcell
     | j+1,hu=>simp[bv] at hu
    by_cases hx:bs[k].toNat=255
    ·
     rw[hx] at hcell
     gi_wp2
     refine hR.mono ?_
     rintro e W3 (⟨rfl,hJ3,hk3⟩ | ⟨rfl,hJx3⟩)
     ·
      gi_wp2
      go_roundw
      case rel=>exact⟨k+1,false,pre++[Pc.lit bs[k]],by omega,rfl,by go_num,by rw[qm,yw];exact HPC.out,hJ3,HKP.out.trans hk3⟩
      case measure=>simp[intOf];omega
     ·
      gi_wp2
      refine bodyPost_ret (results_none rfl _ _ _) rfl ?_
      exact⟨⟨_,rfl⟩,.inr ⟨_,⟨qgf l h8 false (bs.drop (k+1)),by rw[qm,yw];exact HPC.out⟩,hJx3⟩⟩
    ·
     have ix:¬(bs[k].toNat:Int)=255:=by omega
     have bx:((bs[k].toNat:Int)==255)=false:=by rw[q9];exact ix
     gi_wp2
     refine hR.mono ?_
     rintro e W3 (⟨rfl,hJ3,hk3⟩ | ⟨rfl,hJx3⟩)
     ·
      gi_wp2
      go_roundw
      case rel=>exact⟨k+1,false,pre++[Pc.lit bs[k]],by omega,rfl,by go_num,by rw[qm,yw];exact HPC.out,hJ3,HKP.out.trans hk3⟩
      case measure=>simp[intOf];omega
     ·
      gi_wp2
      refine bodyPost_ret (results_none rfl _ _ _) rfl ?_
      exact⟨⟨_,rfl⟩,.inr ⟨_,⟨qgf l h8 false (bs.drop (k+1)),by rw[qm,yw];exact HPC.out⟩,hJx3⟩⟩
   | false =>
    by_cases hx:bs[k].toNat=255
    ·
     have hpc:=HPRE.out
     rw[pc_esc hlt hx] at hpc
     have HPC:=qa hpc
     clear hpc
     rw[hx] at hcell
     gi_wp2
     go_roundw
     case rel=>exact⟨k+1,true,pre,by omega,rfl,by go_num,HPC.out,hJs,HKP.out⟩
     case measure=>simp[intOf];omega
    ·
     have ix:¬(bs[k].toNat:Int)=255:=by omega
     have bx:((bs[k].toNat:Int)==255)=false:=by rw[q9];exact ix
     by_cases hxl:bs[k].toNat<l.length
     ·
      have i1:(bs[k].toNat:Int)<(l.length:Int):=by omega
      have d1:decide ((bs[k].toNat:Int)<(l.length:Int))=true:=qx (by omega)
      obtain⟨b1,off1,rfl,_,_,hcell1⟩:=(HT.out.below HKP.out.below (qc _)).str hxl
      have hpc:=HPRE.out
      rw[pc_sym hlt hx hxl] at hpc
      obtain⟨fn,tmps,assign,body,hy,hR⟩:=HY.out pre ⟨l[bs[k].toNat],0,h8 _ (ql hxl)⟩ wr hJs (by rw[←hpc];simp)
      dsimp only[encPc] at hy
      rw[show((0:Nat):Int)=0 from rfl] at hy
      have HPC:=qa hpc
      clear hpc
      gi_wp2
      refine hR.mono ?_
      rintro e W3 (⟨rfl,hJ3,hk3⟩ | ⟨rfl,hJx3⟩)
      ·
       gi_wp2
       go_roundw
       case rel=>exact⟨k+1,false,pre++[⟨l[bs[k].toNat],0,h8 _ (ql hxl)⟩],by omega,rfl,by go_num,by rw[qm,yw];exact HPC.out,hJ3,HKP.out.trans hk3⟩
       case measure=>simp[intOf];omega
      ·
       gi_wp2
       refine bodyPost_ret (results_none rfl _ _ _) rfl ?_
       exact⟨⟨_,rfl⟩,.inr ⟨_,⟨qgf l h8 false (bs.drop (k+1)),by rw[qm,yw];exact HPC.out⟩,hJx3⟩⟩
     ·
      have i1:¬(bs[k].toNat:Int)<(l.length:Int):=by omega
      have d1:decide ((bs[k].toNat:Int)<(l.length:Int))=false:=qw (by omega)
      have hpc:=HPRE.out
      rw[pc_bad hlt hx hxl] at hpc
      obtain⟨fn,tmps,assign,body,hy,hR⟩:=HY.out pre (Pc.err 3) wr hJs (by rw[←hpc];simp)
      dsimp only[encPc,Pc.err] at hy
      rw[show((3:Nat):Int)=3 from rfl] at hy
      have HPC:=qa hpc
      clear hpc
      gi_wp2
      refine hR.mono ?_
      rintro e W3 (⟨rfl,hJ3,hk3⟩ | ⟨rfl,hJx3⟩)
      ·
       gi_wp2
       refine bodyPost_ret (results_none rfl _ _ _) rfl ?_
       exact⟨⟨_,rfl⟩,.inl ⟨_,HPC.out,hJ3⟩⟩
      ·
       gi_wp2
       refine bodyPost_ret (results_none rfl _ _ _) rfl ?_
       exact⟨⟨_,rfl⟩,.inr ⟨_,⟨[],by rw[jd];exact HPC.out⟩,hJx3⟩⟩
  ·
   have ik:¬(k:Int)<(bs.length:Int):=by omega
   obtain rfl:k=bs.length:=by omega
   cases f with
   | true =>
    have hpc:=HPRE.out
    rw[pc_cut] at hpc
    obtain⟨fn,tmps,assign,body,hy,hR⟩:=HY.out pre (Pc.err 2) wr hJs (by rw[←hpc];simp)
    dsimp only[encPc,Pc.err] at hy
    rw[show((2:Nat):Int)=2 from rfl] at hy
    have HPC:=qa hpc
    clear hpc
    gi_wp2
    refine hR.mono ?_
    rintro e W3 (⟨rfl,hJ3,hk3⟩ | ⟨rfl,hJx3⟩)
    ·
     gi_wp2
     go_end0
     exact⟨⟨_,rfl⟩,.inl ⟨_,HPC.out,hJ3⟩⟩
    ·
     gi_wp2
     go_end0
     exact⟨⟨_,rfl⟩,.inr ⟨_,⟨[],by rw[jd];exact HPC.out⟩,hJx3⟩⟩
   | false =>
    have hpc:=HPRE.out
    rw[pc_end,jd] at hpc
    gi_wp2
    go_end0
    exact⟨⟨_,rfl⟩,.inl (hpc ▸ hJs)⟩
end
section
open Go.RowKit Go.Shelf
attribute [local go_sem] Oper.semAt_some
set_option maxRecDepth 100000 in
set_option maxHeartbeats 1000000 in
theorem pieces_in(F:Fence)(n:Nat)(hf:F.fn 200)(hro:F.round=none)(A B:Option Addr)(k c k2 c2:Nat)(w:World) :
  CallsIn F n Tryz.prog 200 #[.slice A k c,.slice B k2 c2] w fun e w'=>e= .returned (.func (.func 218) #[] (piecesV (w.heap.size+1) w.heap.size))∧w'=(w.alloc (.cells #[.slice A k c] 52)).alloc (.cells #[.slice B k2 c2] 36):=by
 refine callsIn_of_wp Tryz.func200 rfl hf ?_ hro
 simp only[Tryz.ntmps200,qcn,qo,jy,Nat.reduceAdd,Nat.reduceSub,qcr,qcq,List.push_toArray,qdm,xu,z7]
 gi_wp2
 go_ret
 exact⟨rfl,rfl⟩
theorem pieces_stops(F:Fence)(n:Nat)(hf:F.fn 218)(hro:F.round=none)(hn:1≤n)(Bb Bt n₀:Nat)(l:List ByteArray)(h8:∀t∈l,t.size≤8)(hln:l.length≤255)(bs:List UInt8)(hbl:bs.length≤1000000){c c2:Nat}{A B:Option Addr}(w:World)
  (hBb:Boxed w Bb 36 (.slice B bs.length c2)) (hBt:Boxed w Bt 52 (.slice A l.length c)) (hn₀:n₀≤w.heap.size) (hb:Rd w 0 n₀ B c2 (bv bs)) (ht:Rd w 0 n₀ A c (sv l)) :
  SeqStopsK F n Tryz.prog 218 (piecesV Bb Bt) encPc (Kp2 n₀ Bb Bt) (fun ys=>ys=qgf l h8 false bs) (fun pre=>pre <+: qgf l h8 false bs) (qgf l h8 false bs).length w:=fun lp J Jx W hW _ _ hY h0 =>
 pieces1_in F n hf hro hn lp Bb Bt n₀ l h8 hln bs hbl J Jx hY W ((hW.cell (p:=⟨Bb,0,none⟩) hBb.lt).trans hBb.cell) ((hW.cell (p:=⟨Bt,0,none⟩) hBt.lt).trans hBt.cell) (hb.below hW hn₀) (ht.below hW hn₀) h0
end
section
open Go.RowKit Go.Shelf
attribute [local go_sem] Oper.semAt_some
structure DB (most:Int) (A B:Option Addr) (k c k2 c2 b0 b4 b5:Nat) (W:World):Prop where
 m:Boxed W b0 3 (.int .i64 most)
 t:Boxed W b4 52 (.slice A k c)
 b:Boxed W b5 36 (.slice B k2 c2)
theorem DB.keep{most:Int}{A B:Option Addr}{k c k2 c2 b0 b4 b5:Nat}{X Y:World}{row:Option Nat}(h:DB most A B k c k2 c2 b0 b4 b5 X)(hg:X.grownBy Y row)(hr:∀r,row=some r→∃o:Obj,X.heap[r]? = some o∧o.isCells=false):DB most A B k c k2 c2 b0 b4 b5 Y :=
 ⟨qau h.m hg hr,qau h.t hg hr,qau h.b hg hr⟩
structure DI (most:Int) (A B:Option Addr) (k c k2 c2 b0 b1 b2 b3 b4 b5:Nat) (pre:List Pc) (W:World):Prop where
 db:DB most A B k c k2 c2 b0 b4 b5 W
 s:Boxed W b1 9 (.string ⟨#[]⟩)
 e:Boxed W b2 32 (.int .i64 0)
 row:∃(A':Option Addr) (c':Nat) (o:List UInt8),Boxed W b3 36 (.slice A' o.length c')∧W.ownsRow b0 5 1 (.slice A' o.length c') o.length (bv o)∧o.length≤8*pre.length∧(o.length:Int)≤most∧∀r,dP most (pre++r) []=dP most r o
structure DX (most:Int) (b1 b2:Nat) (pre:List Pc) (W:World):Prop where
 s:Boxed W b1 9 (.string ⟨#[]⟩)
 e:∃k:Nat,Boxed W b2 32 (.int .i64 (k:Int))∧∀r,dP most (pre++r) []=([],k)
theorem DI.own(most:Int)(A B:Option Addr)(k c k2 c2 b0 b1 b2 b3 b4 b5:Nat):Own (DI most A B k c k2 c2 b0 b1 b2 b3 b4 b5):=fun s X Y row h hg hr=>by
 obtain⟨A',c',o,h1,h2,h3⟩:=h.row
 exact⟨h.db.keep hg hr,qau h.s hg hr,qau h.e hg hr,A',c',o,qau h1 hg hr,row_keep h2 hg hr,h3⟩
theorem DX.own(most:Int)(b1 b2:Nat):Own (DX most b1 b2):=fun s X Y row h hg hr=>by
 obtain⟨k,h1,h2⟩:=h.e
 exact⟨qau h.s hg hr,k,qau h1 hg hr,h2⟩
theorem six_boxes(w:World)(t0 t1 t2 t3 t4 t5:TypeId)(v0 v1 v2 v3 v4 v5:Value):∃W,(((((w.alloc (.cells #[v0] t0)).alloc (.cells #[v1] t1)).alloc (.cells #[v2] t2)).alloc (.cells #[v3] t3)).alloc (.cells #[v4] t4)).alloc (.cells #[v5] t5)=W∧
  Boxed W w.heap.size t0 v0∧Boxed W (w.heap.size+1) t1 v1∧Boxed W (w.heap.size+1+1) t2 v2∧Boxed W (w.heap.size+1+1+1) t3 v3∧Boxed W (w.heap.size+1+1+1+1) t4 v4∧Boxed W (w.heap.size+1+1+1+1+1) t5 v5∧Below w.heap.size w W∧W.heap.size=w.heap.size+1+1+1+1+1+1:=by
 refine⟨_,rfl,?_,?_,?_,?_,?_,?_,?_,?_⟩
 ·
  exact(((((Boxed.new w t0 v0).alloc _).alloc _).alloc _).alloc _).alloc _
 ·
  have:=((((Boxed.new (w.alloc (.cells #[v0] t0)) t1 v1).alloc (.cells #[v2] t2)).alloc (.cells #[v3] t3)).alloc (.cells #[v4] t4)).alloc (.cells #[v5] t5)
  simpa only[ym] using this
 ·
  have:=(((Boxed.new ((w.alloc (.cells #[v0] t0)).alloc (.cells #[v1] t1)) t2 v2).alloc (.cells #[v3] t3)).alloc (.cells #[v4] t4)).alloc (.cells #[v5] t5)
  simpa only[ym] using this
 ·
  have:=((Boxed.new (((w.alloc (.cells #[v0] t0)).alloc (.cells #[v1] t1)).alloc (.cells #[v2] t2)) t3 v3).alloc (.cells #[v4] t4)).alloc (.cells #[v5] t5)
  simpa only[ym] using this
 ·
  have:=(Boxed.new ((((w.alloc (.cells #[v0] t0)).alloc (.cells #[v1] t1)).alloc (.cells #[v2] t2)).alloc (.cells #[v3] t3)) t4 v4).alloc (.cells #[v5] t5)
  simpa only[ym] using this
 ·
  have:=Boxed.new (((((w.alloc (.cells #[v0] t0)).alloc (.cells #[v1] t1)).alloc (.cells #[v2] t2)).alloc (.cells #[v3] t3)).alloc (.cells #[v4] t4)) t5 v5
  simpa only[ym] using this
 ·
  exact((((((Below.refl _ w).alloc (qc _) _).alloc (by simp only[ym];omega) _).alloc (by simp only[ym];omega) _).alloc (by simp only[ym];omega) _).alloc (by simp only[ym];omega) _).alloc (by simp only[ym];omega) _
 ·
  simp only[ym]
set_option maxRecDepth 100000 in
set_option maxHeartbeats 4000000 in
theorem fdecode_in(F:Fence)(n:Nat)(hf:F.fn 169)(hf1:F.fn 200)(hf2:F.fn 218)(hro:F.round=none)(hn:4≤n){w:World}(l:List ByteArray)(h8:∀t∈l,t.size≤8)(hln:l.length≤255)(bs:List UInt8)(hbl:bs.length≤1000000)(most:Int)(hm0:0≤most)(hm1:most≤9223372036854775807){c c2:Nat}{A B:Option Addr}(ht:Rd w 0 w.heap.size A c (sv l))(hb:Rd w 0 w.heap.size B c2 (bv bs)) :
  CallsIn F n Tryz.prog 169 #[.slice A l.length c,.slice B bs.length c2,.int .i64 most] w fun r w'=>r= .returned (.tuple #[.string ⟨(dP most (qgf l h8 false bs) []).1.toArray⟩,.int .i64 ((dP most (qgf l h8 false bs) []).2:Int)])∧Below w.heap.size w w':=by
 have h1:1≤n:=by omega
 refine callsIn_of_wp_marks Tryz.func169 rfl hf ?_ hro
 simp only[Tryz.ntmps169,qcn,qo,jy,Nat.reduceAdd,Nat.reduceSub,qcr,qcq,List.push_toArray,qdm,xu,z7]
 gi_wp2_with (gi_at_call 200;refine(pieces_in F (n-1) hf1 hro _ _ _ _ _ _ _).mono ?_;rintro e w' ⟨rfl,rfl⟩)
 obtain⟨W6,hW6,x0,x1,x2,x3,x4,x5,hB0,hs6⟩:=six_boxes w 3 9 32 36 52 36 (.int .i64 most) (.string ⟨#[]⟩) (.int .i64 0) (.slice none 0 0) (.slice A l.length c) (.slice B bs.length c2)
 rw[hW6]
 clear hW6
 obtain⟨b1,e1⟩:∃b,w.heap.size+1=b:=⟨_,rfl⟩
 rw[e1] at x1 x2 x3 x4 x5 hs6 ⊢
 obtain⟨b2,e2⟩:∃b,b1+1=b:=⟨_,rfl⟩
 rw[e2] at x2 x3 x4 x5 hs6 ⊢
 obtain⟨b3,e3⟩:∃b,b2+1=b:=⟨_,rfl⟩
 rw[e3] at x3 x4 x5 hs6 ⊢
 obtain⟨b4,e4⟩:∃b,b3+1=b:=⟨_,rfl⟩
 rw[e4] at x4 x5 hs6 ⊢
 obtain⟨b5,e5⟩:∃b,b4+1=b:=⟨_,rfl⟩
 rw[e5] at x5 hs6 ⊢
 obtain⟨b0,e0⟩:∃b,w.heap.size=b:=⟨_,rfl⟩
 rw[e0] at x0 e1 hB0 ht hb ⊢
 refine wpIn_rangeFunc_ownG hro h1 (gf:=218) (lb:=piecesV b5 b4) rfl hf2 (enters_of Tryz.func218 (by kernel_rfl) rfl)
  (pieces_stops F (n-1) hf2 hro (by omega) b5 b4 b0 l h8 hln bs hbl W6 x5 x4 (by omega) (hb.below hB0 (qc _)) (ht.below hB0 (qc _)))
  Kp2.trans (fun W lk o o' hlk hk ho hwk=>⟨belowK_b (w:=W6) (by omega) W lk o o' hlk hk ho hwk,World.putObj_heap_other (by omega),World.putObj_heap_other (by omega)⟩) (Below.refl _ _) (fun _=>rfl)
  (fun pre W=>DI most A B l.length c bs.length c2 b0 b1 b2 b3 b4 b5 pre W∧Below b0 w W)
  (fun c pre W=>(c= .ret∧DX most b1 b2 pre W)∧Below b0 w W)
  (OwnFrom.and (Own.from (DI.own _ _ _ _ _ _ _ _ _ _ _ _ _) _) (ownFrom_below (by omega) (by omega)))
  (fun c=>OwnFrom.and (Own.from (fun s X Y row hs hg hr=>⟨hs.1,DX.own _ _ _ s X Y row hs.2 hg hr⟩) _) (ownFrom_below (by omega) (by omega)))
  ⟨⟨⟨x0,x4,x5⟩,x1,x2,none,0,[],x3,zj _ _ _ _,qj _,hm0,fun r=>rfl⟩,hB0⟩
  (fun x=>{ tmps:=#[.slice A l.length c,.slice B bs.length c2,.int .i64 most,undef,undef,.pointer (some ⟨b0,0,none⟩),.pointer (some ⟨b1,0,none⟩),.pointer (some ⟨b2,0,none⟩),.pointer (some ⟨b3,0,none⟩),.string x.s,.int .i64 (x.e:Int),.int .i64 most,.bool (decide (most<0)),.slice A l.length c,.slice B bs.length c2,.func (.func 218) #[] (piecesV b5 b4),.string x.s,.int .i64 (x.e:Int),undef,undef,undef,undef,undef,undef,undef,undef,undef,undef,undef,undef,undef,undef,undef],defers:=[] }) ?assign ?body ?done ?stop
 case assign =>
  intro lp x W K hK
  dsimp only[encPc]
  gi_wp2
  exact hK
 case body =>
  rintro lp pre x W ⟨hI,hB⟩ hlt
  obtain⟨⟨hm,hT,hBb⟩,hs,he,A',c',o,hv,hown,hol,hom,hdp⟩:=hI
  have cm:=hm.cell
  have cs:=hs.cell
  have fs:=hs.frozen
  have ce:=he.cell
  have fe:=he.frozen
  have cv:=hv.cell
  have hpl:=pc_len (l:=l) (h8:=h8) bs false
  simp only[kr,if_false] at hpl
  have hz:=hB.size
  have hx8:=x.h
  have HDP:=qa hdp
  have HOWN:=qa hown
  clear hdp hown
  have n12:b1≠b2:=by omega
  by_cases hx:x.e=0
  ·
   have ix:(x.e:Int)=0:=by omega
   have bx:((x.e:Int)==0)=true:=by rw[ix];rfl
   have wm:IntKind.i64.wrap (most-(o.length:Int))=most-(o.length:Int):=xa _ (by omega)
   by_cases hmo:most<((o.length+x.s.size:Nat):Int)
   ·
    have d1:most-(o.length:Int)<(x.s.size:Int):=by omega
    have d2:decide (most-(o.length:Int)<(x.s.size:Int))=true:=qx d1
    have HE:Hid (∀r,dP most (pre++[x]++r) []=([],6)):=fun r=>by rw[qm,yw,HDP.out,dP,if_neg (by omega),if_pos hmo]
    clear hmo
    gi_wp2
    exact⟨((KeepsOthers.setCell _ _ _).trans (KeepsOthers.setCell _ _ _)).from _,⟨rfl,qbe (hs.set _) n12,6,(qbe he n12.symm).set _,HE.out⟩,(hB.setCell (p:=⟨b1,0,none⟩) (by show b0≤b1;omega) _).setCell (p:=⟨b2,0,none⟩) (by show b0≤b2;omega) _⟩
   ·
    have d1:¬most-(o.length:Int)<(x.s.size:Int):=by omega
    have d2:decide (most-(o.length:Int)<(x.s.size:Int))=false:=qw d1
    have HE:Hid (∀r,dP most (pre++[x]++r) []=dP most r (o++x.s.data.toList)):=fun r=>by rw[qm,yw,HDP.out,dP,if_neg (by omega),if_neg hmo]
    obtain⟨i0,hi0,hz0,hz1,hz2⟩:=info_parts Tryz.infoU8
    obtain⟨A2,c3,w1,hrun,ho2,hg2, -⟩:=qh7 (P:=Tryz.prog) W b0 36 9 36 5 i0 Tryz.underlying36 Tryz.underlying9 hi0 hz0 hz1 hz2 (.slice A' o.length c') o.length (bv o) HOWN.out x.s (by omega) (by omega)
    rw[←qg5] at ho2
    obtain⟨o2,he2⟩:∃o2,o++x.s.data.toList=o2:=⟨_,rfl⟩
    have hl2:o.length+x.s.size=o2.length:=by rw[←he2,qd,qje]
    rw[he2] at ho2 HE
    rw[hl2] at ho2 hrun
    obtain⟨y1,y2,y3,y4,y5,y6⟩:=appendedS hv (by decide) HOWN.out (by omega) (by omega) ho2 hg2
    have cy:=y1.cell
    have fy:=y1.frozen
    have HRUN:=qa hrun
    have HL2:=qa hl2
    have HP:=qa (⟨y6 b0 _ _ (by omega) (by decide) hm,y6 b4 _ _ (by omega) (by decide) hT,y6 b5 _ _ (by omega) (by decide) hBb,y6 b1 _ _ (by omega) (by decide) hs,y6 b2 _ _ (by omega) (by decide) he⟩:_∧_∧_∧_∧_)
    have H2:=qa y2
    have H3:=qa y3
    clear hrun hl2 he2 y2 y3 y6 hg2
    gi_wp2_with (gi_at_builtin;refine qdk rfl _ _ _ rfl _ _ rfl rfl HRUN.out ?_)
    obtain⟨z0,z4,z5,z1,z2⟩:=HP.out
    have hl2:=HL2.out
    exact⟨y4.from _,⟨y5,z5.trans hBb.symm,z4.trans hT.symm⟩,⟨⟨z0,z4,z5⟩,z1,z2,A2,c3,o2,H2.out,H3.out,by rw[qd,zx];omega,by omega,HE.out⟩,hB.trans y5⟩
  ·
   have ix:¬(x.e:Int)=0:=by omega
   have bx:((x.e:Int)==0)=false:=by rw[q9];exact ix
   have HE:Hid (∀r,dP most (pre++[x]++r) []=([],x.e)):=fun r=>by rw[qm,yw,HDP.out,dP,if_pos hx]
   gi_wp2
   exact⟨((KeepsOthers.setCell _ _ _).trans (KeepsOthers.setCell _ _ _)).from _,⟨rfl,qbe (hs.set _) n12,x.e,(qbe he n12.symm).set _,HE.out⟩,(hB.setCell (p:=⟨b1,0,none⟩) (by show b0≤b1;omega) _).setCell (p:=⟨b2,0,none⟩) (by show b0≤b2;omega) _⟩
 case done =>
  rintro D ys W hD rfl ⟨hI,hB⟩ hK
  obtain⟨⟨hm,hT,hBb⟩,hs,he,A',c',o,hv,hown,hol,hom,hdp⟩:=hI
  have hpl:=pc_len (l:=l) (h8:=h8) bs false
  simp only[kr,if_false] at hpl
  have n12:b1≠b2:=by omega
  have cs:=hs.cell
  have fs:=hs.frozen
  have ce:=he.cell
  have fe:=he.frozen
  have cv:=hv.cell
  have hfin:=hdp []
  rw[jd,dP] at hfin
  have hcv:(convert 36 9 (.slice A' o.length c')).run Tryz.prog W= .ok (.string ⟨o.toArray⟩) W:=vk (P:=Tryz.prog) W 36 9 5 Tryz.underlying36 Tryz.underlying5 Tryz.underlying9 _ _ A' c' o (Rd.of_own hown)
  have HF:=qa hfin
  clear hdp hown hfin
  gi_wp2
  have hK':=((KeepsOthers.setCell W ⟨b1,0,none⟩ (.string ⟨o.toArray⟩)).trans (KeepsOthers.setCell _ ⟨b2,0,none⟩ (.int .i64 0))).same D _ hK rfl
  refine⟨by simp,.inl ⟨_,_,rfl,run_takeDeferred hK',?_⟩⟩
  have cs2:=(qi8 (qbe (hs.set (.string ⟨o.toArray⟩)) n12) (.deferred none) hK' rfl).cell
  have ce2:=(qi8 ((qbe he n12.symm).set (.int .i64 0)) (.deferred none) hK' rfl).cell
  subst e0
  refine⟨.tuple #[.string ⟨o.toArray⟩,.int .i64 0],?_,by rw[HF.out];rfl,((hB.setCell (p:=⟨b1,0,none⟩) (by show w.heap.size≤b1;omega) _).setCell (p:=⟨b2,0,none⟩) (by show w.heap.size≤b2;omega) _).trans (belowK_b (w:=w) (qc _) _ D _ _ (by omega) hK' rfl rfl)⟩
  simp[results,Tryz.f169,go_sem,cs2,ce2]
 case stop =>
  rintro D c' pre W hD ⟨r,hr⟩ ⟨⟨rfl,hX⟩,hB⟩ hK
  obtain⟨hs,k,he,hdp⟩:=hX
  have hfin:=hdp r
  rw[hr] at hfin
  gi_wp2
  refine⟨by simp,.inl ⟨_,_,rfl,run_takeDeferred hK,?_⟩⟩
  have cs:=(qi8 hs (.deferred none) hK rfl).cell
  have ce:=(qi8 he (.deferred none) hK rfl).cell
  subst e0
  refine⟨.tuple #[.string ⟨#[]⟩,.int .i64 (k:Int)],?_,by rw[hfin],hB.trans (belowK_b (w:=w) (qc _) W D _ _ (by omega) hK rfl rfl)⟩
  simp[results,Tryz.f169,go_sem,cs,ce]
theorem qmw{w:World}(l:List ByteArray)(h8:∀t∈l,t.size≤8)(hln:l.length≤255)(bs:List UInt8)(hbl:bs.length≤1000000)(most:Int)(hm0:0≤most)(hm1:most≤9223372036854775807){c c2:Nat}{A B:Option Addr}(ht:Rd w 0 w.heap.size A c (sv l))(hb:Rd w 0 w.heap.size B c2 (bv bs)) :
  Calls Tryz.prog 169 #[.slice A l.length c,.slice B bs.length c2,.int .i64 most] w fun r w'=>r= .returned (.tuple #[.string ⟨(qc2 (qt l) most bs [] 0).1.toArray⟩,.int .i64 ((qc2 (qt l) most bs [] 0).2.1:Int)])∧Below w.heap.size w w':=by
 obtain⟨e1,e2⟩:=dP_dec (l:=l) (h8:=h8) (most:=most) bs.length bs [] 0 (qc _)
 rw[e1,e2]
 exact(callsIn_wide (n:=4)).1 (fdecode_in Fence.wide 4 trivial trivial trivial rfl (qc _) l h8 hln bs hbl most hm0 hm1 ht hb)
end
section
set_option maxRecDepth 100000
def ren2:Go.Shelf.Ren:=⟨fun | 26=>211 | 33=>142 | 34=>228 | 38=>176 | n=>n,fun | 0=>0 | 3=>3 | 4=>4 | 9=>9 | 24=>52 | 40=>119 | n=>n,fun n=>n⟩
theorem lays2_26:Go.Proofs.Lays2.n26 Tryz.prog ren2:={
 mixed:=by kernel_rfl
 f26:=Tryz.func211.trans (congrArg some (by kernel_rfl))
 f33:=Tryz.func142.trans (congrArg some (by kernel_rfl))
 f34:=Tryz.func228.trans (congrArg some (by kernel_rfl))
 f38:=Tryz.func176.trans (congrArg some (by kernel_rfl))
 t0:=Tryz.underlying0
 a0:=Tryz.isAgg0
 z0:=Tryz.sizeOf0
 v0:=Tryz.zeroValue0
 t3:=Tryz.underlying3
 a3:=Tryz.isAgg3
 z3:=Tryz.sizeOf3
 v3:=Tryz.zeroValue3
 t4:=Tryz.underlying4
 a4:=Tryz.isAgg4
 z4:=Tryz.sizeOf4
 v4:=Tryz.zeroValue4
 t9:=Tryz.underlying9
 a9:=Tryz.isAgg9
 z9:=Tryz.sizeOf9
 v9:=Tryz.zeroValue9
 t24:=Tryz.underlying52
 a24:=Tryz.isAgg52
 z24:=Tryz.sizeOf52
 v24:=Tryz.zeroValue52
 t40:=Tryz.underlying119
 a40:=Tryz.isAgg119
 z40:=Tryz.sizeOf119
 v40:=Tryz.zeroValue119 }
end
theorem search_any{w:World}(l:List ByteArray)(x:ByteArray){lo hi c n:Nat}{A:Option Addr}(h:Rd w lo hi A c (sv l))(hr:yh (qt l)=true)(hn:l.length<4611686018427387904)(hln:l.length=n) :
  Calls Tryz.prog 211 #[.slice A n c,.string x] w fun r w'=>∃k,k≤n∧(∀j (hj:j<l.length),j<k↔xd l[j].data.toList x.data.toList<0)∧r= .returned (.tuple #[.int .i64 (k:Int),.bool (decide (l[k]? = some x))])∧∃q,w'=w.drewN q:=by
 subst hln
 by_cases h0:l.length=0
 ·
  have hz:l=[]:=ze h0
  subst hz
  refine(Any2.slices_BinarySearch_string_empty lays2_26 A c x w).mono ?_
  rintro r w' ⟨rfl,rfl⟩
  exact⟨0,qc _,fun j hj=>by simp at hj,rfl,0,rfl⟩
 ·
  obtain⟨b,off,rfl, -⟩:=h.str (k:=0) (by omega)
  have hc:∀j,j<l.length→w.cell? ⟨b,off+j,none⟩=some (.string ((fun j=>l.getD j x) j)):=fun j hj=>by
   obtain⟨b2,off2,he,_,_,hcell⟩:=h.str hj
   injection he with he
   injection he with he1 he2
   subst he1 he2
   rw[hcell]
   simp[List.getD,qe hj]
  refine(Any2.slices_BinarySearch_string lays2_26 b off l.length c (fun j=>l.getD j x) x w hn hc).mono ?_
  rintro r w' ⟨rfl,q,rfl⟩
  have hless:∀j (hj:j<l.length),Op.bytesLess (l.getD j x).toList x.toList=decide (xd l[j].data.toList x.data.toList<0):=fun j hj=>by
   rw[qg1]
   simp[List.getD,qe hj]
  -- those below x are a head
  obtain⟨k,hk,hkj⟩:∃k,k≤l.length∧∀j (hj:j<l.length),j<k↔xd l[j].data.toList x.data.toList<0:=by
   have hmono:∀i j (hij:i<j) (hj:j<l.length),xd l[j].data.toList x.data.toList<0→xd l[i].data.toList x.data.toList<0:=fun i j hij hj hlt=>by
    have h1:i<(qt l).length:=by rw[zb];omega
    have h2:j<(qt l).length:=by rw[zb];omega
    have hp:xd (qt l)[i] (qt l)[j]<0:=by
     exact qfy hr hij h2
    rw[vq l i (by omega),vq l j hj] at hp
    exact uv hp hlt
   have hex:∀m,m≤l.length→∃k,k≤m∧∀j (hj:j<l.length),j<m→(j<k↔xd l[j].data.toList x.data.toList<0):=by
    intro m
    induction m with
    | zero=>intro _;exact⟨0,qc _,fun j _ h=>absurd h (jm j)⟩
    | succ m ih =>
     intro hm
     obtain⟨k,hk,hkj⟩:=ih (by omega)
     by_cases hx:xd l[m].data.toList x.data.toList<0
     ·
      refine⟨m+1,qc _,fun j hj hjm=>⟨fun _ => ?_,fun _=>hjm⟩⟩
      by_cases e:j=m
      ·
       subst e;exact hx
      ·
       exact hmono j m (by omega) (by omega) hx
     ·
      refine⟨k,by omega,fun j hj hjm => ?_⟩
      by_cases e:j=m
      ·
       subst e;exact⟨fun h=>by omega,fun h=>absurd h hx⟩
      ·
       exact hkj j hj (by omega)
   obtain⟨k,hk,hkj⟩:=hex l.length (qc _)
   exact⟨k,hk,fun j hj=>hkj j hj hj⟩
  have hidx:Lib.bsGo (fun t=>Op.bytesLess (l.getD t x).toList x.toList) l.length 0 l.length=k:=by
   refine Lib.bsGo_spec _ k (fun t ht => ?_) (fun t ht => ?_) _ _ _ (by omega) (by omega) hk
   ·
    rw[hless t (by omega)]
    exact qx ((hkj t (by omega)).1 ht)
   ·
    by_cases hl:t<l.length
    ·
     rw[hless t hl]
     exact qw fun h=>by have:=(hkj t hl).2 h;omega
    ·
     have:l.getD t x=x:=by simp[List.getD,jp (Nat.le_of_not_lt hl)]
     rw[this,qg1,qdf]
     rfl
  rw[hidx]
  refine⟨k,hk,hkj,?_,q,rfl⟩
  have hb:decide (k<l.length∧l.getD k x=x)=decide (l[k]? = some x):=by
   rw[decide_eq_decide]
   by_cases hl:k<l.length
   ·
    simp[List.getD,qe hl,hl]
   ·
    simp[jp (Nat.le_of_not_lt hl),hl]
  show Ending.returned (.tuple #[.int .i64 (k:Int),.bool (decide (k<l.length∧l.getD k x=x))])=_
  rw[hb]
theorem lt_cmp:∀(a b:List UInt8),a<b↔xd a b<0
 | [],[]=>by simp[xd]
 | [],_ :: _=>by simp[xd]
 | _ :: _,[]=>by simp[xd]
 | x :: a,y :: b=>by
  have ih:=lt_cmp a b
  rw[List.cons_lt_cons_iff,xd]
  by_cases h1:x.toNat<y.toNat
  ·
   rw[if_pos h1]
   exact⟨fun _=>by decide,fun _=> .inl h1⟩
  ·
   rw[if_neg h1]
   by_cases h2:y.toNat<x.toNat
   ·
    rw[if_pos h2]
    refine⟨fun h => ?_,fun h=>absurd h (by decide)⟩
    rcases h with h | ⟨h,_⟩
    ·
     exact absurd h h1
    ·
     subst h;omega
   ·
    rw[if_neg h2]
    refine⟨fun h => ?_,fun h=> .inr ⟨UInt8.toNat_inj.1 (by omega),ih.2 h⟩⟩
    rcases h with h | ⟨_,h⟩
    ·
     exact absurd h h1
    ·
     exact ih.1 h
theorem qfe(a b:List UInt8):a≤b↔xd a b≤0:=by
 show(¬b<a)↔_
 rw[lt_cmp,qd2 a b]
 omega
theorem qey{a b c:List UInt8}(h1:xd a b≤0)(h2:xd b c≤0):xd a c≤0:=by
 by_cases e1:xd a b=0
 ·
  rw[qde e1];exact h2
 ·
  by_cases e2:xd b c=0
  ·
   rw[←qde e2];exact h1
  ·
   have:=uv (a:=a) (b:=b) (c:=c) (by omega) (by omega)
   omega
theorem qip(d:Array (List UInt8))(hs:∀i j,i<j→j<d.size→xd d[i]! d[j]! ≤0):∀m,m≤d.size→
  yh (Lib.compactUpTo d m)=true∧(∀x∈Lib.compactUpTo d m,∃j,j<m∧x=d[j]!)∧∀j,j<m→d[j]! ∈Lib.compactUpTo d m
 | 0,_=>⟨rfl,fun x hx=>(by cases hx),fun j hj=>absurd hj (jm j)⟩
 | m+1,hm=>by
  obtain⟨h1,h2,h3⟩:=qip d hs m (by omega)
  rw[Lib.compactUpTo_succ]
  by_cases hk:Lib.keeps d m=true
  ·
   rw[if_pos hk]
   have hk2:m=0∨d[m]! ≠d[m-1]!:=by simpa[Lib.keeps] using hk
   refine⟨qjw h1 fun x hx => ?_,fun x hx => ?_,fun j hj => ?_⟩
   ·
    obtain⟨j,hj,rfl⟩:=h2 x hx
    have hne:d[m]! ≠d[m-1]!:=by
     rcases hk2 with h | h
     ·
      omega
     ·
      exact h
    have ha:xd d[j]! d[m-1]! ≤0:=by
     by_cases e:j=m-1
     ·
      rw[e,qdf];omega
     ·
      exact hs j (m-1) (by omega) (by omega)
    have hb:xd d[m-1]! d[m]!<0:=by
     have h4:=hs (m-1) m (by omega) (by omega)
     have h5:xd d[m-1]! d[m]! ≠0:=fun e=>hne (qde e).symm
     omega
    by_cases e:xd d[j]! d[m-1]! = 0
    ·
     rw[qde e];exact hb
    ·
     exact uv (by omega) hb
   ·
    rcases zn.1 hx with hx | hx
    ·
     obtain⟨j,hj,rfl⟩:=h2 x hx
     exact⟨j,by omega,rfl⟩
    ·
     exact⟨m,by omega,q8.1 hx⟩
   ·
    by_cases e:j=m
    ·
     subst e;exact List.mem_append_right _ (q8.2 rfl)
    ·
     exact List.mem_append_left _ (h3 j (by omega))
  ·
   rw[if_neg hk,jd]
   have hk2:¬(m=0∨d[m]! ≠d[m-1]!):=by simpa[Lib.keeps] using hk
   have hm0:m≠0:=fun e=>hk2 (.inl e)
   have hme:d[m]! = d[m-1]!:=Decidable.not_not.1 fun e=>hk2 (.inr e)
   refine⟨h1,fun x hx => ?_,fun j hj => ?_⟩
   ·
    obtain⟨j,hj,rfl⟩:=h2 x hx
    exact⟨j,by omega,rfl⟩
   ·
    by_cases e:j=m
    ·
     subst e;rw[hme];exact h3 _ (by omega)
    ·
     exact h3 j (by omega)
def qff(l:List (List UInt8)):List (List UInt8):=(l.filter qgo).mergeSort fun x y=>decide (x≤y)
theorem mem_sortL{l:List (List UInt8)}{s:List UInt8}:s∈qff l↔s∈l∧qgo s=true:=by
 rw[qff,List.mem_mergeSort,List.mem_filter]
theorem sortL_rises(l:List (List UInt8)):∀i j,i<j→j<(qff l).toArray.size→xd (qff l).toArray[i]! (qff l).toArray[j]! ≤0:=by
 have h:=qdn (le:=fun x y:List UInt8=>decide (x≤y)) (fun a b c h1 h2=>by
  rw[decide_eq_true_eq,qfe] at *
  exact qey h1 h2) (fun a b=>by
  rw[Bool.or_eq_true,decide_eq_true_eq,decide_eq_true_eq,qfe,qfe,qd2 a b]
  omega) (l.filter qgo)
 intro i j hij hj
 rw[kz] at h
 have hj':j<(qff l).length:=by simpa using hj
 have:=h i j (by show i<(qff l).length;omega) hj' hij
 rw[decide_eq_true_eq,qfe] at this
 rw[getElem!_pos _ i (by simpa using Nat.lt_trans hij hj'),getElem!_pos _ j hj]
 exact this
def ordL(l:List (List UInt8)):List (List UInt8):=(Lib.compact (qff l)).take 255
theorem qju:∀ {t:List (List UInt8)} (k:Nat),yh t=true→yh (t.take k)=true
 | [],k,_=>by simp[yh]
 | a :: t,0,_=>rfl
 | [a],k+1,_=>by simp[yh]
 | a :: b :: t,1,_=>rfl
 | a :: b :: t,k+2,h=>by
  rw[yy,yy]
  have h2:=qju (k+1) (kn.1 h).2
  rw[yy] at h2
  exact kn.2 ⟨(kn.1 h).1,h2⟩
theorem qmh:∀ {p q:List (List UInt8)},yh (p++q)=true→∀x∈p,∀y∈q,xd x y<0
 | [],_,_,x,hx,_,_=>by cases hx
 | a :: p,q,h,x,hx,y,hy=>by
  rcases zv.1 hx with rfl | hx
  ·
   exact qfx (t:=p++q) h y (List.mem_append_right _ hy)
  ·
   exact qmh (qfw (a:=a) (t:=p++q) h) x hx y hy
theorem ordL_is(l:List (List UInt8)):IsOrder l (ordL l):=by
 obtain⟨h1,h2,h3⟩:=qip (qff l).toArray (sortL_rises l) (qff l).length (by simp)
 have hm:∀s,s∈Lib.compact (qff l)↔s∈l∧qgo s=true:=fun s=>by
  rw[←mem_sortL]
  constructor
  ·
   intro h
   obtain⟨j,hj,rfl⟩:=h2 s h
   rw[getElem!_pos _ j (by simpa using hj)]
   simp
  ·
   intro h
   obtain⟨j,hj,rfl⟩:=zl h
   have:=h3 j hj
   rw[getElem!_pos _ j (by simpa using hj),List.getElem_toArray] at this
   exact this
 refine⟨qju 255 h1,List.length_take_le _ _,fun x hx=>(hm x).1 (vg hx),fun s hs ho => ?_⟩
 have hin:=(hm s).2 ⟨hs,ho⟩
 rw[←zw 255 (Lib.compact (qff l))] at hin
 rcases zn.1 hin with h | h
 ·
  exact .inl h
 ·
  refine .inr ⟨?_,fun x hx => ?_⟩
  ·
   have:=List.length_pos_of_mem h
   rw[qv] at this
   show((Lib.compact (qff l)).take 255).length=255
   rw[qy]
   omega
  ·
   refine qmh (p:=(Lib.compact (qff l)).take 255) (q:=(Lib.compact (qff l)).drop 255) ?_ x hx s h
   rw[zw]
   exact h1
def Yet(T:List (List UInt8))(l:List UInt8)(n k:Nat):Prop:=∀j (hj:j<T.length),List.IsPrefix T[j] l→T[j].length≤n∧(T[j].length≤n→j<k)
theorem Yet.start{T:List (List UInt8)}{l:List UInt8}(h:∀t∈T,qgo t=true):Yet T l (min l.length 8) T.length:=fun j hj hp=>by
 have h1:=(qeb.1 (h _ (ql hj))).2
 have h2:=hp.length_le
 exact⟨by omega,fun _=>hj⟩
theorem Yet.found{T:List (List UInt8)}{l:List UInt8}{n k i:Nat}(h:Yet T l n k)(hr:yh T=true)(hi:i<T.length)(he:T[i]=l.take n)(h0:0<n)(hn:n≤l.length):qb4 T l=((i:Int),n):=by
 have hl:(l.take n).length=n:=by rw[qy];omega
 have:=longP_is (s:=l.take n) hr hi he (List.take_prefix _ _) (by omega) fun u hu hp=>by
  obtain⟨j,hj,rfl⟩:=zl hu
  have:=(h j hj hp).1
  omega
 rw[hl] at this
 exact this
theorem Yet.next{T:List (List UInt8)}{l:List UInt8}{n k i:Nat}(h:Yet T l n k)(hk:k≤T.length)(hn:n≤l.length)(h0:0<n)(hi:∀j (hj:j<T.length),j<k→(j<i↔xd T[j] (l.take n)<0))(hf:∀(hik:i<k),T[i]'(by omega)≠l.take n)(hr:yh T=true):Yet T l (n-1) i:=fun j hj hp=>by
 obtain⟨h1,h2⟩:=h j hj hp
 have h3:=h2 h1
 have h5:T[j]=l.take T[j].length:=by
  obtain⟨r,hr⟩:=hp
  rw[←hr,List.take_left]
 have h4:T[j].length≠n:=fun e=>by
  have he:T[j]=l.take n:=by rw[←e];exact h5
  -- then it stands at i
  have h6:¬j<i:=fun h7=>by
   have:=(hi j hj h3).1 h7
   rw[he,qdf] at this
   omega
  by_cases h8:j=i
  ·
   subst h8
   exact hf h3 he
  ·
   have h9:i<j:=by omega
   have:=qfy hr h9 hj
   rw[he] at this
   have:=(hi i (by omega) (by omega)).2 this
   omega
 refine⟨by omega,fun _=>(hi j hj h3).2 ?_⟩
 rw[h5]
 exact cmpL_takes (by omega) hn
theorem Yet.none{T:List (List UInt8)}{l:List UInt8}{k:Nat}(h:Yet T l 0 k):qb4 T l=(-1,0):=longP_none fun u hu hp=>by
 obtain⟨j,hj,rfl⟩:=zl hu
 have:=(h j hj hp).1
 omega
theorem slongest_any{w:World}(l:List ByteArray)(s:ByteArray){lo hi c:Nat}{A:Option Addr}(h:Rd w lo hi A c (sv l))(hr:jz (qt l)=true)(hs:s.size≤9223372036854775807) :
  Calls Tryz.prog 223 #[.slice A l.length c,.string s] w fun r w'=>r= .returned (.tuple #[.int .i64 (qb4 (qt l) s.data.toList).1,.int .i64 ((qb4 (qt l) s.data.toList).2:Int)])∧∃m,w'=w.drewN m:=by
 have hl:=h.len
 have hm:=h.cap
 rw[xr] at hl
 unfold maxLen at hm
 obtain⟨hl5,hok,hri⟩:=vu.1 hr
 rw[zb] at hl5
 have H:=qa h
 have HRI:=qa hri
 have hsl:s.data.toList.length=s.size:=by rw[jo];rfl
 have HSL:=qa hsl
 have HST:=qa (Yet.start (l:=s.data.toList) hok)
 rw[zb,hsl] at HST
 obtain⟨V,hV⟩:∃V,qb4 (qt l) s.data.toList=V:=⟨_,rfl⟩
 rw[hV]
 have HV:=qa hV
 clear h hr hok hri hsl hV
 obtain⟨N,hN⟩:∃N,min s.size 8=N:=⟨_,rfl⟩
 have hN1:N≤s.size:=by omega
 have hN8:N≤8:=by omega
 have hNI:min (s.size:Int) 8=(N:Int):=by omega
 rw[hN] at HST
 clear hN
 go_enter Tryz.func223,Tryz.ntmps223
 go_wp2_with fail
 go_loopw [0,1] (fun x0 x1 wr=>∃(n k m:Nat) (u:ByteArray),x0= .slice A k c∧x1= .string u∧u.data.toList=s.data.toList.take n∧u.size=n∧n≤N∧k≤l.length∧Yet (qt l) s.data.toList n k∧wr=w.drewN m) (fun _ x1 _=>match x1 with | .string u=>u.size | _=>0)
 case atStart=>exact⟨N,l.length,0,_,rfl,rfl,headS s N,by simp[xk];omega,qc _,qc _,HST.out,rfl⟩
 case round =>
  clear HST
  obtain⟨n,k,m,u,rfl,rfl,hu,hus,hn,hk,hy,rfl⟩:=hrel
  have HU:=qa hu
  have HY:=qa hy
  clear hu hy
  rcases jh n with hn0 | hn0
  ·
   have hue:u=⟨#[]⟩:=by
    have:=HU.out
    rw[hn0,uh] at this
    rw[←str_eta u,this]
   have HVV:Hid (V=(-1,0)):=by
    unfold Hid
    rw[←HV.out]
    have:=HY.out
    rw[hn0] at this
    exact this.none
   clear hn hus hn0
   subst hue
   go_wp2_with fail
   go_ret2
   exact⟨by rw[HVV.out];rfl,m,rfl⟩
  ·
   have hne:u.toList≠[]:=fun e=>by
    rw[ul] at e
    have h1:=congrArg List.length e
    rw[jo] at h1
    have h2:u.size=0:=h1
    omega
   have hne2:u.toList.isEmpty=false:=by
    rw[List.isEmpty_eq_false_iff]
    exact hne
   clear hne
   have hkl:(l.take k).length=k:=by rw[qy];omega
   have hri2:yh (qt (l.take k))=true:=by
    have:=qju k HRI.out
    rw[qt,List.map_take]
    exact this
   have HRT:Hid (∀w':World,w'.heap=w.heap→Rd w' lo hi A c (sv (l.take k))):=fun w' e=>by
    rw[sv_take]
    exact(H.out.take_ k).keep fun p _ _=>by unfold World.cell?;rw[e]
   have HSE:=qa (search_any (w:=w.drewN m) (l.take k) u (HRT.out _ rfl) hri2 (by omega) hkl)
   clear hri2
   go_wp2_with fail
   refine HSE.out.mono ?_
   rintro r w1 ⟨i,hik,hij,rfl,m2,rfl⟩
   have hij':∀j (hj:j<(qt l).length),j<k→(j<i↔xd (qt l)[j] (s.data.toList.take n)<0):=fun j hj hjk=>by
    rw[zb] at hj
    have:=hij j (by rw[hkl];exact hjk)
    simp only[qag] at this
    rw[HU.out] at this
    rw[vq l j hj]
    exact this
   have HIJ:=qa hij'
   clear hij hij'
   obtain⟨f,hf⟩:∃f,decide ((l.take k)[i]? = some u)=f:=⟨_,rfl⟩
   rw[hf]
   have HF:=qa hf
   clear hf
   have hcut:n≤s.data.toList.length:=by rw[HSL.out];omega
   cases f with
   | true =>
    have hfe:=of_decide_eq_true HF.out
    obtain⟨hi1,hi2⟩:=zt.1 hfe
    rw[hkl] at hi1
    simp only[qag] at hi2
    have HVV:Hid (V=((i:Int),n)):=by
     unfold Hid
     rw[←HV.out]
     exact HY.out.found HRI.out (i:=i) (by rw[zb];omega) (by rw[vq l i (by omega),hi2];exact HU.out) hn0 hcut
    clear hfe hi2 hcut
    go_wp2_with fail
    go_ret2
    exact⟨by rw[HVV.out,←hus];rfl,m+m2,rfl⟩
   | false =>
    have HYN:Hid (Yet (qt l) s.data.toList (n-1) i):=by
     refine HY.out.next (by rw[zb];exact hk) hcut hn0 HIJ.out (fun hik e => ?_) HRI.out
     have:=of_decide_eq_false HF.out
     apply this
     rw[qa0 hik,qe (by omega)]
     congr 1
     rw[vq l i (by omega)] at e
     rw[←str_eta l[i],e,←HU.out]
    have HUD:Hid ((u.extract 0 (n-1)).data.toList=s.data.toList.take (n-1)):=by
     unfold Hid
     rw[headS,HU.out,List.take_take]
     congr 1
     omega
    have hus2:(u.extract 0 (n-1)).size=n-1:=by simp[xk];omega
    have HUS:=qa hus2
    clear hus2 hcut
    go_wp2_with fail
    go_roundw
    case rel=>exact⟨n-1,i,m+m2,u.extract 0 (n-1),rfl,by first | rfl | go_num,HUD.out,HUS.out,by omega,by omega,HYN.out,rfl⟩
    case measure=>simp <;> omega
end Go.Proofs.YtjfecojdagmacaaGreat
