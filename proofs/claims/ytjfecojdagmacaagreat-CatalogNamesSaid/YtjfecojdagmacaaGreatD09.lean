/-
  Lemmas.
-/
import Derived.Test.YtjfecojdagmacaaGreatD08
import Derived.Lib.SlicesCompact
import Derived.Shelf.Spec.SearchS
namespace Go.Proofs.YtjfecojdagmacaaGreat
open Go.RowKit
set_option maxRecDepth 20000
set_option maxHeartbeats 16000000
set_option linter.unusedSimpArgs false
set_option linter.unusedVariables false
section
open Go.RowKit Go.Shelf
attribute [local go_sem] Oper.semAt_some
set_option maxRecDepth 100000 in
set_option maxHeartbeats 1000000 in
theorem pieces_in(F:Fence)(n:Nat)(hf:F.fn 200)(hro:F.round=none)(A B:Option Addr)(k c k2 c2:Nat)(w:World) :
  CallsIn F n Tryz.prog 200 #[.slice A k c,.slice B k2 c2] w fun e w'=>e= .returned (.func (.func 218) #[] (piecesV (w.heap.size+1) w.heap.size))∧w'=(w.alloc (.cells #[.slice A k c] 52)).alloc (.cells #[.slice B k2 c2] 36):=by
 refine callsIn_of_wp Tryz.func200 rfl hf ?_ hro
 simp only[Tryz.ntmps200,qel,qw,j4,Nat.reduceAdd,Nat.reduceSub,qep,qeo,List.push_toArray,qfe,yu,jd]
 gi_wp2
 go_ret
 exact⟨rfl,rfl⟩
theorem pieces_stops(F:Fence)(n:Nat)(hf:F.fn 218)(hro:F.round=none)(hn:1≤n)(Bb Bt n₀:Nat)(l:List ByteArray)(h8:∀t∈l,t.size≤8)(hln:l.length≤255)(bs:List UInt8)(hbl:bs.length≤1000000){c c2:Nat}{A B:Option Addr}(w:World)
  (hBb:Boxed w Bb 36 (.slice B bs.length c2)) (hBt:Boxed w Bt 52 (.slice A l.length c)) (hn₀:n₀≤w.heap.size) (hb:Rd w 0 n₀ B c2 (bv bs)) (ht:Rd w 0 n₀ A c (sv l)) :
  SeqStopsK F n Tryz.prog 218 (piecesV Bb Bt) encPc (Kp2 n₀ Bb Bt) (fun ys=>ys=qip l h8 false bs) (fun pre=>pre <+: qip l h8 false bs) (qip l h8 false bs).length w:=fun lp J Jx W hW _ _ hY h0 =>
 pieces1_in F n hf hro hn lp Bb Bt n₀ l h8 hln bs hbl J Jx hY W ((hW.cell (p:=⟨Bb,0,none⟩) hBb.lt).trans hBb.cell) ((hW.cell (p:=⟨Bt,0,none⟩) hBt.lt).trans hBt.cell) (hb.below hW hn₀) (ht.below hW hn₀) h0
end
section
open Go.RowKit Go.Shelf
attribute [local go_sem] Oper.semAt_some
structure DB (most:Int) (A B:Option Addr) (k c k2 c2 b0 b4 b5:Nat) (W:World):Prop where
 m:Boxed W b0 3 (.int .i64 most)
 t:Boxed W b4 52 (.slice A k c)
 b:Boxed W b5 36 (.slice B k2 c2)
theorem DB.keep{most:Int}{A B:Option Addr}{k c k2 c2 b0 b4 b5:Nat}{X Y:World}{row:Option Nat}(h:DB most A B k c k2 c2 b0 b4 b5 X)(hg:X.grownBy Y row)(hr:∀r,row=some r→∃o:Obj,X.heap[r]? = some o∧o.isCells=false):DB most A B k c k2 c2 b0 b4 b5 Y :=
 ⟨qck h.m hg hr,qck h.t hg hr,qck h.b hg hr⟩
structure DI (most:Int) (A B:Option Addr) (k c k2 c2 b0 b1 b2 b3 b4 b5:Nat) (pre:List Pc) (W:World):Prop where
 db:DB most A B k c k2 c2 b0 b4 b5 W
 s:Boxed W b1 9 (.string ⟨#[]⟩)
 e:Boxed W b2 32 (.int .i64 0)
 row:∃(A':Option Addr) (c':Nat) (o:List UInt8),Boxed W b3 36 (.slice A' o.length c')∧W.ownsRow b0 5 1 (.slice A' o.length c') o.length (bv o)∧o.length≤8*pre.length∧(o.length:Int)≤most∧∀r,dP most (pre++r) []=dP most r o
structure DX (most:Int) (b1 b2:Nat) (pre:List Pc) (W:World):Prop where
 s:Boxed W b1 9 (.string ⟨#[]⟩)
 e:∃k:Nat,Boxed W b2 32 (.int .i64 (k:Int))∧∀r,dP most (pre++r) []=([],k)
theorem DI.own(most:Int)(A B:Option Addr)(k c k2 c2 b0 b1 b2 b3 b4 b5:Nat):Own (DI most A B k c k2 c2 b0 b1 b2 b3 b4 b5):=fun s X Y row h hg hr=>by
 obtain⟨A',c',o,h1,h2,h3⟩:=h.row
 exact⟨h.db.keep hg hr,qck h.s hg hr,qck h.e hg hr,A',c',o,qck h1 hg hr,row_keep h2 hg hr,h3⟩
theorem DX.own(most:Int)(b1 b2:Nat):Own (DX most b1 b2):=fun s X Y row h hg hr=>by
 obtain⟨k,h1,h2⟩:=h.e
 exact⟨qck h.s hg hr,k,qck h1 hg hr,h2⟩
theorem six_boxes(w:World)(t0 t1 t2 t3 t4 t5:TypeId)(v0 v1 v2 v3 v4 v5:Value):∃W,(((((w.alloc (.cells #[v0] t0)).alloc (.cells #[v1] t1)).alloc (.cells #[v2] t2)).alloc (.cells #[v3] t3)).alloc (.cells #[v4] t4)).alloc (.cells #[v5] t5)=W∧
  Boxed W w.heap.size t0 v0∧Boxed W (w.heap.size+1) t1 v1∧Boxed W (w.heap.size+1+1) t2 v2∧Boxed W (w.heap.size+1+1+1) t3 v3∧Boxed W (w.heap.size+1+1+1+1) t4 v4∧Boxed W (w.heap.size+1+1+1+1+1) t5 v5∧Below w.heap.size w W∧W.heap.size=w.heap.size+1+1+1+1+1+1:=by
 refine⟨_,rfl,?_,?_,?_,?_,?_,?_,?_,?_⟩
 ·
  exact(((((Boxed.new w t0 v0).alloc _).alloc _).alloc _).alloc _).alloc _
 ·
  have:=((((Boxed.new (w.alloc (.cells #[v0] t0)) t1 v1).alloc (.cells #[v2] t2)).alloc (.cells #[v3] t3)).alloc (.cells #[v4] t4)).alloc (.cells #[v5] t5)
  simpa only[yi] using this
 ·
  have:=(((Boxed.new ((w.alloc (.cells #[v0] t0)).alloc (.cells #[v1] t1)) t2 v2).alloc (.cells #[v3] t3)).alloc (.cells #[v4] t4)).alloc (.cells #[v5] t5)
  simpa only[yi] using this
 ·
  have:=((Boxed.new (((w.alloc (.cells #[v0] t0)).alloc (.cells #[v1] t1)).alloc (.cells #[v2] t2)) t3 v3).alloc (.cells #[v4] t4)).alloc (.cells #[v5] t5)
  simpa only[yi] using this
 ·
  have:=(Boxed.new ((((w.alloc (.cells #[v0] t0)).alloc (.cells #[v1] t1)).alloc (.cells #[v2] t2)).alloc (.cells #[v3] t3)) t4 v4).alloc (.cells #[v5] t5)
  simpa only[yi] using this
 ·
  have:=Boxed.new (((((w.alloc (.cells #[v0] t0)).alloc (.cells #[v1] t1)).alloc (.cells #[v2] t2)).alloc (.cells #[v3] t3)).alloc (.cells #[v4] t4)) t5 v5
  simpa only[yi] using this
 ·
  exact((((((Below.refl _ w).alloc (qc _) _).alloc (by simp only[yi];omega) _).alloc (by simp only[yi];omega) _).alloc (by simp only[yi];omega) _).alloc (by simp only[yi];omega) _).alloc (by simp only[yi];omega) _
 ·
  simp only[yi]
set_option maxRecDepth 100000 in
set_option maxHeartbeats 4000000 in
theorem fdecode_in(F:Fence)(n:Nat)(hf:F.fn 169)(hf1:F.fn 200)(hf2:F.fn 218)(hro:F.round=none)(hn:4≤n){w:World}(l:List ByteArray)(h8:∀t∈l,t.size≤8)(hln:l.length≤255)(bs:List UInt8)(hbl:bs.length≤1000000)(most:Int)(hm0:0≤most)(hm1:most≤9223372036854775807){c c2:Nat}{A B:Option Addr}(ht:Rd w 0 w.heap.size A c (sv l))(hb:Rd w 0 w.heap.size B c2 (bv bs)) :
  CallsIn F n Tryz.prog 169 #[.slice A l.length c,.slice B bs.length c2,.int .i64 most] w fun r w'=>r= .returned (.tuple #[.string ⟨(dP most (qip l h8 false bs) []).1.toArray⟩,.int .i64 ((dP most (qip l h8 false bs) []).2:Int)])∧Below w.heap.size w w':=by
 have h1:1≤n:=by omega
 refine callsIn_of_wp_marks Tryz.func169 rfl hf ?_ hro
 simp only[Tryz.ntmps169,qel,qw,j4,Nat.reduceAdd,Nat.reduceSub,qep,qeo,List.push_toArray,qfe,yu,jd]
 gi_wp2_with (gi_at_call 200;refine(pieces_in F (n-1) hf1 hro _ _ _ _ _ _ _).mono ?_;rintro e w' ⟨rfl,rfl⟩)
 obtain⟨W6,hW6,x0,x1,x2,x3,x4,x5,hB0,hs6⟩:=six_boxes w 3 9 32 36 52 36 (.int .i64 most) (.string ⟨#[]⟩) (.int .i64 0) (.slice none 0 0) (.slice A l.length c) (.slice B bs.length c2)
 rw[hW6]
 clear hW6
 obtain⟨b1,e1⟩:∃b,w.heap.size+1=b:=⟨_,rfl⟩
 rw[e1] at x1 x2 x3 x4 x5 hs6 ⊢
 obtain⟨b2,e2⟩:∃b,b1+1=b:=⟨_,rfl⟩
 rw[e2] at x2 x3 x4 x5 hs6 ⊢
 obtain⟨b3,e3⟩:∃b,b2+1=b:=⟨_,rfl⟩
 rw[e3] at x3 x4 x5 hs6 ⊢
 obtain⟨b4,e4⟩:∃b,b3+1=b:=⟨_,rfl⟩
 rw[e4] at x4 x5 hs6 ⊢
 obtain⟨b5,e5⟩:∃b,b4+1=b:=⟨_,rfl⟩
 rw[e5] at x5 hs6 ⊢
 obtain⟨b0,e0⟩:∃b,w.heap.size=b:=⟨_,rfl⟩
 rw[e0] at x0 e1 hB0 ht hb ⊢
 refine wpIn_rangeFunc_ownG hro h1 (gf:=218) (lb:=piecesV b5 b4) rfl hf2 (enters_of Tryz.func218 (by kernel_rfl) rfl)
  (pieces_stops F (n-1) hf2 hro (by omega) b5 b4 b0 l h8 hln bs hbl W6 x5 x4 (by omega) (hb.below hB0 (qc _)) (ht.below hB0 (qc _)))
  Kp2.trans (fun W lk o o' hlk hk ho hwk=>⟨belowK_b (w:=W6) (by omega) W lk o o' hlk hk ho hwk,World.putObj_heap_other (by omega),World.putObj_heap_other (by omega)⟩) (Below.refl _ _) (fun _=>rfl)
  (fun pre W=>DI most A B l.length c bs.length c2 b0 b1 b2 b3 b4 b5 pre W∧Below b0 w W)
  (fun c pre W=>(c= .ret∧DX most b1 b2 pre W)∧Below b0 w W)
  (OwnFrom.and (Own.from (DI.own _ _ _ _ _ _ _ _ _ _ _ _ _) _) (ownFrom_below (by omega) (by omega)))
  (fun c=>OwnFrom.and (Own.from (fun s X Y row hs hg hr=>⟨hs.1,DX.own _ _ _ s X Y row hs.2 hg hr⟩) _) (ownFrom_below (by omega) (by omega)))
  ⟨⟨⟨x0,x4,x5⟩,x1,x2,none,0,[],x3,zf _ _ _ _,qi _,hm0,fun r=>rfl⟩,hB0⟩
  (fun x=>{ tmps:=#[.slice A l.length c,.slice B bs.length c2,.int .i64 most,undef,undef,.pointer (some ⟨b0,0,none⟩),.pointer (some ⟨b1,0,none⟩),.pointer (some ⟨b2,0,none⟩),.pointer (some ⟨b3,0,none⟩),.string x.s,.int .i64 (x.e:Int),.int .i64 most,.bool (decide (most<0)),.slice A l.length c,.slice B bs.length c2,.func (.func 218) #[] (piecesV b5 b4),.string x.s,.int .i64 (x.e:Int),undef,undef,undef,undef,undef,undef,undef,undef,undef,undef,undef,undef,undef,undef,undef],defers:=[] }) ?assign ?body ?done ?stop
 case assign =>
  intro lp x W K hK
  dsimp only[encPc]
  gi_wp2
  exact hK
 case body =>
  rintro lp pre x W ⟨hI,hB⟩ hlt
  obtain⟨⟨hm,hT,hBb⟩,hs,he,A',c',o,hv,hown,hol,hom,hdp⟩:=hI
  have cm:=hm.cell
  have cs:=hs.cell
  have fs:=hs.frozen
  have ce:=he.cell
  have fe:=he.frozen
  have cv:=hv.cell
  have hpl:=pc_len (l:=l) (h8:=h8) bs false
  simp only[qar,if_false] at hpl
  have hz:=hB.size
  have hx8:=x.h
  have HDP:=qa hdp
  have HOWN:=qa hown
  clear hdp hown
  have n12:b1≠b2:=by omega
  by_cases hx:x.e=0
  ·
   have ix:(x.e:Int)=0:=by omega
   have bx:((x.e:Int)==0)=true:=by rw[ix];rfl
   have wm:IntKind.i64.wrap (most-(o.length:Int))=most-(o.length:Int):=jf _ (by omega)
   by_cases hmo:most<((o.length+x.s.size:Nat):Int)
   ·
    have d1:most-(o.length:Int)<(x.s.size:Int):=by omega
    have d2:decide (most-(o.length:Int)<(x.s.size:Int))=true:=qx d1
    have HE:Hid (∀r,dP most (pre++[x]++r) []=([],6)):=fun r=>by rw[qp,va,HDP.out,dP,if_neg (by omega),if_pos hmo]
    clear hmo
    gi_wp2
    exact⟨((KeepsOthers.setCell _ _ _).trans (KeepsOthers.setCell _ _ _)).from _,⟨rfl,qc8 (hs.set _) n12,6,(qc8 he n12.symm).set _,HE.out⟩,(hB.setCell (p:=⟨b1,0,none⟩) (by show b0≤b1;omega) _).setCell (p:=⟨b2,0,none⟩) (by show b0≤b2;omega) _⟩
   ·
    have d1:¬most-(o.length:Int)<(x.s.size:Int):=by omega
    have d2:decide (most-(o.length:Int)<(x.s.size:Int))=false:=qr d1
    have HE:Hid (∀r,dP most (pre++[x]++r) []=dP most r (o++x.s.data.toList)):=fun r=>by rw[qp,va,HDP.out,dP,if_neg (by omega),if_neg hmo]
    obtain⟨i0,hi0,hz0,hz1,hz2⟩:=info_parts Tryz.infoU8
    obtain⟨A2,c3,w1,hrun,ho2,hg2, -⟩:=qku (P:=Tryz.prog) W b0 36 9 36 5 i0 Tryz.underlying36 Tryz.underlying9 hi0 hz0 hz1 hz2 (.slice A' o.length c') o.length (bv o) HOWN.out x.s (by omega) (by omega)
    rw[←qjl] at ho2
    obtain⟨o2,he2⟩:∃o2,o++x.s.data.toList=o2:=⟨_,rfl⟩
    have hl2:o.length+x.s.size=o2.length:=by rw[←he2,qd,qgi]
    rw[he2] at ho2 HE
    rw[hl2] at ho2 hrun
    obtain⟨y1,y2,y3,y4,y5,y6⟩:=appendedS hv (by decide) HOWN.out (by omega) (by omega) ho2 hg2
    have cy:=y1.cell
    have fy:=y1.frozen
    have HRUN:=qa hrun
    have HL2:=qa hl2
    have HP:=qa (⟨y6 b0 _ _ (by omega) (by decide) hm,y6 b4 _ _ (by omega) (by decide) hT,y6 b5 _ _ (by omega) (by decide) hBb,y6 b1 _ _ (by omega) (by decide) hs,y6 b2 _ _ (by omega) (by decide) he⟩:_∧_∧_∧_∧_)
    have H2:=qa y2
    have H3:=qa y3
    clear hrun hl2 he2 y2 y3 y6 hg2
    gi_wp2_with (gi_at_builtin;refine qfb rfl _ _ _ rfl _ _ rfl rfl HRUN.out ?_)
    obtain⟨z0,z4,z5,z1,z2⟩:=HP.out
    have hl2:=HL2.out
    exact⟨y4.from _,⟨y5,z5.trans hBb.symm,z4.trans hT.symm⟩,⟨⟨z0,z4,z5⟩,z1,z2,A2,c3,o2,H2.out,H3.out,by rw[qd,zy];omega,by omega,HE.out⟩,hB.trans y5⟩
  ·
   have ix:¬(x.e:Int)=0:=by omega
   have bx:((x.e:Int)==0)=false:=by rw[q9];exact ix
   have HE:Hid (∀r,dP most (pre++[x]++r) []=([],x.e)):=fun r=>by rw[qp,va,HDP.out,dP,if_pos hx]
   gi_wp2
   exact⟨((KeepsOthers.setCell _ _ _).trans (KeepsOthers.setCell _ _ _)).from _,⟨rfl,qc8 (hs.set _) n12,x.e,(qc8 he n12.symm).set _,HE.out⟩,(hB.setCell (p:=⟨b1,0,none⟩) (by show b0≤b1;omega) _).setCell (p:=⟨b2,0,none⟩) (by show b0≤b2;omega) _⟩
 case done =>
  rintro D ys W hD rfl ⟨hI,hB⟩ hK
  obtain⟨⟨hm,hT,hBb⟩,hs,he,A',c',o,hv,hown,hol,hom,hdp⟩:=hI
  have hpl:=pc_len (l:=l) (h8:=h8) bs false
  simp only[qar,if_false] at hpl
  have n12:b1≠b2:=by omega
  have cs:=hs.cell
  have fs:=hs.frozen
  have ce:=he.cell
  have fe:=he.frozen
  have cv:=hv.cell
  have hfin:=hdp []
  rw[jb,dP] at hfin
  have hcv:(convert 36 9 (.slice A' o.length c')).run Tryz.prog W= .ok (.string ⟨o.toArray⟩) W:=ul (P:=Tryz.prog) W 36 9 5 Tryz.underlying36 Tryz.underlying5 Tryz.underlying9 _ _ A' c' o (Rd.of_own hown)
  have HF:=qa hfin
  clear hdp hown hfin
  gi_wp2
  have hK':=((KeepsOthers.setCell W ⟨b1,0,none⟩ (.string ⟨o.toArray⟩)).trans (KeepsOthers.setCell _ ⟨b2,0,none⟩ (.int .i64 0))).same D _ hK rfl
  refine⟨by simp,.inl ⟨_,_,rfl,run_takeDeferred hK',?_⟩⟩
  have cs2:=(qmc (qc8 (hs.set (.string ⟨o.toArray⟩)) n12) (.deferred none) hK' rfl).cell
  have ce2:=(qmc ((qc8 he n12.symm).set (.int .i64 0)) (.deferred none) hK' rfl).cell
  subst e0
  refine⟨.tuple #[.string ⟨o.toArray⟩,.int .i64 0],?_,by rw[HF.out];rfl,((hB.setCell (p:=⟨b1,0,none⟩) (by show w.heap.size≤b1;omega) _).setCell (p:=⟨b2,0,none⟩) (by show w.heap.size≤b2;omega) _).trans (belowK_b (w:=w) (qc _) _ D _ _ (by omega) hK' rfl rfl)⟩
  simp[results,Tryz.f169,go_sem,cs2,ce2]
 case stop =>
  rintro D c' pre W hD ⟨r,hr⟩ ⟨⟨rfl,hX⟩,hB⟩ hK
  obtain⟨hs,k,he,hdp⟩:=hX
  have hfin:=hdp r
  rw[hr] at hfin
  gi_wp2
  refine⟨by simp,.inl ⟨_,_,rfl,run_takeDeferred hK,?_⟩⟩
  have cs:=(qmc hs (.deferred none) hK rfl).cell
  have ce:=(qmc he (.deferred none) hK rfl).cell
  subst e0
  refine⟨.tuple #[.string ⟨#[]⟩,.int .i64 (k:Int)],?_,by rw[hfin],hB.trans (belowK_b (w:=w) (qc _) W D _ _ (by omega) hK rfl rfl)⟩
  simp[results,Tryz.f169,go_sem,cs,ce]
theorem qp2{w:World}(l:List ByteArray)(h8:∀t∈l,t.size≤8)(hln:l.length≤255)(bs:List UInt8)(hbl:bs.length≤1000000)(most:Int)(hm0:0≤most)(hm1:most≤9223372036854775807){c c2:Nat}{A B:Option Addr}(ht:Rd w 0 w.heap.size A c (sv l))(hb:Rd w 0 w.heap.size B c2 (bv bs)) :
  Calls Tryz.prog 169 #[.slice A l.length c,.slice B bs.length c2,.int .i64 most] w fun r w'=>r= .returned (.tuple #[.string ⟨(qey (qm l) most bs [] 0).1.toArray⟩,.int .i64 ((qey (qm l) most bs [] 0).2.1:Int)])∧Below w.heap.size w w':=by
 obtain⟨e1,e2⟩:=dP_dec (l:=l) (h8:=h8) (most:=most) bs.length bs [] 0 (qc _)
 rw[e1,e2]
 exact(callsIn_wide (n:=4)).1 (fdecode_in Fence.wide 4 trivial trivial trivial rfl (qc _) l h8 hln bs hbl most hm0 hm1 ht hb)
end
section
set_option maxRecDepth 100000
def ren2:Go.Shelf.Ren:=⟨fun | 26=>211 | 33=>142 | 34=>228 | 38=>176 | n=>n,fun | 0=>0 | 3=>3 | 4=>4 | 9=>9 | 24=>52 | 40=>119 | n=>n,fun n=>n⟩
theorem lays2_26:Go.Proofs.Lays2.n26 Tryz.prog ren2:={
 mixed:=by kernel_rfl
 f26:=Tryz.func211.trans (congrArg some (by kernel_rfl))
 f33:=Tryz.func142.trans (congrArg some (by kernel_rfl))
 f34:=Tryz.func228.trans (congrArg some (by kernel_rfl))
 f38:=Tryz.func176.trans (congrArg some (by kernel_rfl))
 t0:=Tryz.underlying0
 a0:=Tryz.isAgg0
 z0:=Tryz.sizeOf0
 v0:=Tryz.zeroValue0
 t3:=Tryz.underlying3
 a3:=Tryz.isAgg3
 z3:=Tryz.sizeOf3
 v3:=Tryz.zeroValue3
 t4:=Tryz.underlying4
 a4:=Tryz.isAgg4
 z4:=Tryz.sizeOf4
 v4:=Tryz.zeroValue4
 t9:=Tryz.underlying9
 a9:=Tryz.isAgg9
 z9:=Tryz.sizeOf9
 v9:=Tryz.zeroValue9
 t24:=Tryz.underlying52
 a24:=Tryz.isAgg52
 z24:=Tryz.sizeOf52
 v24:=Tryz.zeroValue52
 t40:=Tryz.underlying119
 a40:=Tryz.isAgg119
 z40:=Tryz.sizeOf119
 v40:=Tryz.zeroValue119 }
end
theorem search_any{w:World}(l:List ByteArray)(x:ByteArray){lo hi c n:Nat}{A:Option Addr}(h:Rd w lo hi A c (sv l))(hr:xc (qm l)=true)(hn:l.length<4611686018427387904)(hln:l.length=n) :
  Calls Tryz.prog 211 #[.slice A n c,.string x] w fun r w'=>∃k,k≤n∧(∀j (hj:j<l.length),j<k↔yl l[j].data.toList x.data.toList<0)∧r= .returned (.tuple #[.int .i64 (k:Int),.bool (decide (l[k]? = some x))])∧∃q,w'=w.drewN q:=by
 subst hln
 by_cases h0:l.length=0
 ·
  have hz:l=[]:=zh h0
  subst hz
  refine(Any2.slices_BinarySearch_string_empty lays2_26 A c x w).mono ?_
  rintro r w' ⟨rfl,rfl⟩
  exact⟨0,qc _,fun j hj=>by simp at hj,rfl,0,rfl⟩
 ·
  obtain⟨b,off,rfl, -⟩:=h.str (k:=0) (by omega)
  have hc:∀j,j<l.length→w.cell? ⟨b,off+j,none⟩=some (.string ((fun j=>l.getD j x) j)):=fun j hj=>by
   obtain⟨b2,off2,he,_,_,hcell⟩:=h.str hj
   injection he with he
   injection he with he1 he2
   subst he1 he2
   rw[hcell]
   simp[List.getD,qe hj]
  refine(Any2.slices_BinarySearch_string lays2_26 b off l.length c (fun j=>l.getD j x) x w hn hc).mono ?_
  rintro r w' ⟨rfl,q,rfl⟩
  have hless:∀j (hj:j<l.length),Op.bytesLess (l.getD j x).toList x.toList=decide (yl l[j].data.toList x.data.toList<0):=fun j hj=>by
   rw[qjf]
   simp[List.getD,qe hj]
  -- those below x are a head
  obtain⟨k,hk,hkj⟩:∃k,k≤l.length∧∀j (hj:j<l.length),j<k↔yl l[j].data.toList x.data.toList<0:=by
   have hmono:∀i j (hij:i<j) (hj:j<l.length),yl l[j].data.toList x.data.toList<0→yl l[i].data.toList x.data.toList<0:=fun i j hij hj hlt=>by
    have h1:i<(qm l).length:=by rw[qv];omega
    have h2:j<(qm l).length:=by rw[qv];omega
    have hp:yl (qm l)[i] (qm l)[j]<0:=by
     exact qh5 hr hij h2
    rw[yq l i (by omega),yq l j hj] at hp
    exact um hp hlt
   have hex:∀m,m≤l.length→∃k,k≤m∧∀j (hj:j<l.length),j<m→(j<k↔yl l[j].data.toList x.data.toList<0):=by
    intro m
    induction m with
    | zero=>intro _;exact⟨0,qc _,fun j _ h=>absurd h (ja j)⟩
    | succ m ih =>
     intro hm
     obtain⟨k,hk,hkj⟩:=ih (by omega)
     by_cases hx:yl l[m].data.toList x.data.toList<0
     ·
      refine⟨m+1,qc _,fun j hj hjm=>⟨fun _ => ?_,fun _=>hjm⟩⟩
      by_cases e:j=m
      ·
       subst e;exact hx
      ·
       exact hmono j m (by omega) (by omega) hx
     ·
      refine⟨k,by omega,fun j hj hjm => ?_⟩
      by_cases e:j=m
      ·
       subst e;exact⟨fun h=>by omega,fun h=>absurd h hx⟩
      ·
       exact hkj j hj (by omega)
   obtain⟨k,hk,hkj⟩:=hex l.length (qc _)
   exact⟨k,hk,fun j hj=>hkj j hj hj⟩
  have hidx:Lib.bsGo (fun t=>Op.bytesLess (l.getD t x).toList x.toList) l.length 0 l.length=k:=by
   refine Lib.bsGo_spec _ k (fun t ht => ?_) (fun t ht => ?_) _ _ _ (by omega) (by omega) hk
   ·
    rw[hless t (by omega)]
    exact qx ((hkj t (by omega)).1 ht)
   ·
    by_cases hl:t<l.length
    ·
     rw[hless t hl]
     exact qr fun h=>by have:=(hkj t hl).2 h;omega
    ·
     have:l.getD t x=x:=by simp[List.getD,yh (Nat.le_of_not_lt hl)]
     rw[this,qjf,qcy]
     rfl
  rw[hidx]
  refine⟨k,hk,hkj,?_,q,rfl⟩
  have hb:decide (k<l.length∧l.getD k x=x)=decide (l[k]? = some x):=by
   rw[decide_eq_decide]
   by_cases hl:k<l.length
   ·
    simp[List.getD,qe hl,hl]
   ·
    simp[yh (Nat.le_of_not_lt hl),hl]
  show Ending.returned (.tuple #[.int .i64 (k:Int),.bool (decide (k<l.length∧l.getD k x=x))])=_
  rw[hb]
theorem lt_cmp:∀(a b:List UInt8),a<b↔yl a b<0
 | [],[]=>by simp[yl]
 | [],_ :: _=>by simp[yl]
 | _ :: _,[]=>by simp[yl]
 | x :: a,y :: b=>by
  have ih:=lt_cmp a b
  rw[List.cons_lt_cons_iff,yl]
  by_cases h1:x.toNat<y.toNat
  ·
   rw[if_pos h1]
   exact⟨fun _=>by decide,fun _=> .inl h1⟩
  ·
   rw[if_neg h1]
   by_cases h2:y.toNat<x.toNat
   ·
    rw[if_pos h2]
    refine⟨fun h => ?_,fun h=>absurd h (by decide)⟩
    rcases h with h | ⟨h,_⟩
    ·
     exact absurd h h1
    ·
     subst h;omega
   ·
    rw[if_neg h2]
    refine⟨fun h => ?_,fun h=> .inr ⟨qbd.1 (by omega),ih.2 h⟩⟩
    rcases h with h | ⟨_,h⟩
    ·
     exact absurd h h1
    ·
     exact ih.1 h
theorem qhd(a b:List UInt8):a≤b↔yl a b≤0:=by
 show(¬b<a)↔_
 rw[lt_cmp,qcb a b]
 omega
theorem qgy{a b c:List UInt8}(h1:yl a b≤0)(h2:yl b c≤0):yl a c≤0:=by
 by_cases e1:yl a b=0
 ·
  rw[qbq e1];exact h2
 ·
  by_cases e2:yl b c=0
  ·
   rw[←qbq e2];exact h1
  ·
   have:=um (a:=a) (b:=b) (c:=c) (by omega) (by omega)
   omega
theorem qm1:∀ {t:List (List UInt8)} (k:Nat),xc t=true→xc (t.take k)=true
 | [],k,_=>by simp[xc]
 | a :: t,0,_=>rfl
 | [a],k+1,_=>by simp[xc]
 | a :: b :: t,1,_=>rfl
 | a :: b :: t,k+2,h=>by
  rw[j8,j8]
  have h2:=qm1 (k+1) (ug.1 h).2
  rw[j8] at h2
  exact ug.2 ⟨(ug.1 h).1,h2⟩
def Yet(T:List (List UInt8))(l:List UInt8)(n k:Nat):Prop:=∀j (hj:j<T.length),List.IsPrefix T[j] l→T[j].length≤n∧(T[j].length≤n→j<k)
theorem Yet.start{T:List (List UInt8)}{l:List UInt8}(h:∀t∈T,qhm t=true):Yet T l (min l.length 8) T.length:=fun j hj hp=>by
 have h1:=(qfo.1 (h _ (ql hj))).2
 have h2:=hp.length_le
 exact⟨by omega,fun _=>hj⟩
theorem Yet.found{T:List (List UInt8)}{l:List UInt8}{n k i:Nat}(h:Yet T l n k)(hr:xc T=true)(hi:i<T.length)(he:T[i]=l.take n)(h0:0<n)(hn:n≤l.length):qdu T l=((i:Int),n):=by
 have hl:(l.take n).length=n:=by rw[qz];omega
 have:=longP_is (s:=l.take n) hr hi he (List.take_prefix _ _) (by omega) fun u hu hp=>by
  obtain⟨j,hj,rfl⟩:=zc hu
  have:=(h j hj hp).1
  omega
 rw[hl] at this
 exact this
theorem Yet.next{T:List (List UInt8)}{l:List UInt8}{n k i:Nat}(h:Yet T l n k)(hk:k≤T.length)(hn:n≤l.length)(h0:0<n)(hi:∀j (hj:j<T.length),j<k→(j<i↔yl T[j] (l.take n)<0))(hf:∀(hik:i<k),T[i]'(by omega)≠l.take n)(hr:xc T=true):Yet T l (n-1) i:=fun j hj hp=>by
 obtain⟨h1,h2⟩:=h j hj hp
 have h3:=h2 h1
 have h5:T[j]=l.take T[j].length:=by
  obtain⟨r,hr⟩:=hp
  rw[←hr,List.take_left]
 have h4:T[j].length≠n:=fun e=>by
  have he:T[j]=l.take n:=by rw[←e];exact h5
  -- then it stands at i
  have h6:¬j<i:=fun h7=>by
   have:=(hi j hj h3).1 h7
   rw[he,qcy] at this
   omega
  by_cases h8:j=i
  ·
   subst h8
   exact hf h3 he
  ·
   have h9:i<j:=by omega
   have:=qh5 hr h9 hj
   rw[he] at this
   have:=(hi i (by omega) (by omega)).2 this
   omega
 refine⟨by omega,fun _=>(hi j hj h3).2 ?_⟩
 rw[h5]
 exact cmpL_takes (by omega) hn
theorem Yet.none{T:List (List UInt8)}{l:List UInt8}{k:Nat}(h:Yet T l 0 k):qdu T l=(-1,0):=longP_none fun u hu hp=>by
 obtain⟨j,hj,rfl⟩:=zc hu
 have:=(h j hj hp).1
 omega
theorem slongest_any{w:World}(l:List ByteArray)(s:ByteArray){lo hi c:Nat}{A:Option Addr}(h:Rd w lo hi A c (sv l))(hr:y7 (qm l)=true)(hs:s.size≤9223372036854775807) :
  Calls Tryz.prog 223 #[.slice A l.length c,.string s] w fun r w'=>r= .returned (.tuple #[.int .i64 (qdu (qm l) s.data.toList).1,.int .i64 ((qdu (qm l) s.data.toList).2:Int)])∧∃m,w'=w.drewN m:=by
 have hl:=h.len
 have hm:=h.cap
 rw[j7] at hl
 unfold maxLen at hm
 obtain⟨hl5,hok,hri⟩:=uw.1 hr
 rw[qv] at hl5
 have H:=qa h
 have HRI:=qa hri
 have hsl:s.data.toList.length=s.size:=by rw[jt];rfl
 have HSL:=qa hsl
 have HST:=qa (Yet.start (l:=s.data.toList) hok)
 rw[qv,hsl] at HST
 obtain⟨V,hV⟩:∃V,qdu (qm l) s.data.toList=V:=⟨_,rfl⟩
 rw[hV]
 have HV:=qa hV
 clear h hr hok hri hsl hV
 obtain⟨N,hN⟩:∃N,min s.size 8=N:=⟨_,rfl⟩
 have hN1:N≤s.size:=by omega
 have hN8:N≤8:=by omega
 have hNI:min (s.size:Int) 8=(N:Int):=by omega
 rw[hN] at HST
 clear hN
 go_enter Tryz.func223,Tryz.ntmps223
 go_wp2_with fail
 go_loopw [0,1] (fun x0 x1 wr=>∃(n k m:Nat) (u:ByteArray),x0= .slice A k c∧x1= .string u∧u.data.toList=s.data.toList.take n∧u.size=n∧n≤N∧k≤l.length∧Yet (qm l) s.data.toList n k∧wr=w.drewN m) (fun _ x1 _=>match x1 with | .string u=>u.size | _=>0)
 case atStart=>exact⟨N,l.length,0,_,rfl,rfl,headS s N,by simp[yt];omega,qc _,qc _,HST.out,rfl⟩
 case round =>
  clear HST
  obtain⟨n,k,m,u,rfl,rfl,hu,hus,hn,hk,hy,rfl⟩:=hrel
  have HU:=qa hu
  have HY:=qa hy
  clear hu hy
  rcases jr n with hn0 | hn0
  ·
   have hue:u=⟨#[]⟩:=by
    have:=HU.out
    rw[hn0,y9] at this
    rw[←qhk u,this]
   have HVV:Hid (V=(-1,0)):=by
    unfold Hid
    rw[←HV.out]
    have:=HY.out
    rw[hn0] at this
    exact this.none
   clear hn hus hn0
   subst hue
   go_wp2_with fail
   go_ret2
   exact⟨by rw[HVV.out];rfl,m,rfl⟩
  ·
   have hne:u.toList≠[]:=fun e=>by
    rw[z6] at e
    have h1:=congrArg List.length e
    rw[jt] at h1
    have h2:u.size=0:=h1
    omega
   have hne2:u.toList.isEmpty=false:=by
    rw[uj]
    exact hne
   clear hne
   have hkl:(l.take k).length=k:=by rw[qz];omega
   have hri2:xc (qm (l.take k))=true:=by
    have:=qm1 k HRI.out
    rw[qm,qbt]
    exact this
   have HRT:Hid (∀w':World,w'.heap=w.heap→Rd w' lo hi A c (sv (l.take k))):=fun w' e=>by
    rw[sv_take]
    exact(H.out.take_ k).keep fun p _ _=>by unfold World.cell?;rw[e]
   have HSE:=qa (search_any (w:=w.drewN m) (l.take k) u (HRT.out _ rfl) hri2 (by omega) hkl)
   clear hri2
   go_wp2_with fail
   refine HSE.out.mono ?_
   rintro r w1 ⟨i,hik,hij,rfl,m2,rfl⟩
   have hij':∀j (hj:j<(qm l).length),j<k→(j<i↔yl (qm l)[j] (s.data.toList.take n)<0):=fun j hj hjk=>by
    rw[qv] at hj
    have:=hij j (by rw[hkl];exact hjk)
    simp only[qa1] at this
    rw[HU.out] at this
    rw[yq l j hj]
    exact this
   have HIJ:=qa hij'
   clear hij hij'
   obtain⟨f,hf⟩:∃f,decide ((l.take k)[i]? = some u)=f:=⟨_,rfl⟩
   rw[hf]
   have HF:=qa hf
   clear hf
   have hcut:n≤s.data.toList.length:=by rw[HSL.out];omega
   cases f with
   | true =>
    have hfe:=of_decide_eq_true HF.out
    obtain⟨hi1,hi2⟩:=zw.1 hfe
    rw[hkl] at hi1
    simp only[qa1] at hi2
    have HVV:Hid (V=((i:Int),n)):=by
     unfold Hid
     rw[←HV.out]
     exact HY.out.found HRI.out (i:=i) (by rw[qv];omega) (by rw[yq l i (by omega),hi2];exact HU.out) hn0 hcut
    clear hfe hi2 hcut
    go_wp2_with fail
    go_ret2
    exact⟨by rw[HVV.out,←hus];rfl,m+m2,rfl⟩
   | false =>
    have HYN:Hid (Yet (qm l) s.data.toList (n-1) i):=by
     refine HY.out.next (by rw[qv];exact hk) hcut hn0 HIJ.out (fun hik e => ?_) HRI.out
     have:=of_decide_eq_false HF.out
     apply this
     rw[qcr hik,qe (by omega)]
     congr 1
     rw[yq l i (by omega)] at e
     rw[←qhk l[i],e,←HU.out]
    have HUD:Hid ((u.extract 0 (n-1)).data.toList=s.data.toList.take (n-1)):=by
     unfold Hid
     rw[headS,HU.out,List.take_take]
     congr 1
     omega
    have hus2:(u.extract 0 (n-1)).size=n-1:=by simp[yt];omega
    have HUS:=qa hus2
    clear hus2 hcut
    go_wp2_with fail
    go_roundw
    case rel=>exact⟨n-1,i,m+m2,u.extract 0 (n-1),rfl,by first | rfl | go_num,HUD.out,HUS.out,by omega,by omega,HYN.out,rfl⟩
    case measure=>simp <;> omega
theorem qnh{w2:World}(l:List ByteArray)(u:ByteArray){lo hi c:Nat}{A:Option Addr}(h:Rd w2 lo hi A c (sv l))(hr:y7 (qm l)=true)(hs:u.size≤9223372036854775807)(v:Int×Nat)(hv:qdu (qm l) u.data.toList=v) :
  Calls Tryz.prog 223 #[.slice A l.length c,.string u] w2 fun r w'=>r= .returned (.tuple #[.int .i64 v.1,.int .i64 (v.2:Int)])∧∃m,w'=w2.drewN m:=by
 rw[←hv]
 exact slongest_any l u h hr hs
theorem qp1{w:World}(l:List ByteArray)(s:ByteArray){c:Nat}{A:Option Addr}(h:Rd w 0 w.heap.size A c (sv l))(hr:y7 (qm l)=true)(hs:s.size≤100000000) :
  Calls Tryz.prog 206 #[.slice A l.length c,.string s] w fun r w'=>∃A' c',r= .returned (.slice A' (kn (qm l) s.data.toList).length c')∧
   w'.ownsRow w.heap.size 5 1 (.slice A' (kn (qm l) s.data.toList).length c') (kn (qm l) s.data.toList).length (bv (kn (qm l) s.data.toList))∧Below w.heap.size w w':=by
 have hln:=(uw.1 hr).1
 rw[qv] at hln
 have H:=qa h
 have HR:=qa hr
 clear h hr
 obtain⟨v,hv⟩:∃v,kn (qm l) s.data.toList=v:=⟨_,rfl⟩
 rw[hv]
 have HV:=qa hv
 clear hv
 have HSL:=qa (qgi s)
 go_enter Tryz.func206,Tryz.ntmps206
 go_wp2_with fail
 go_loopw [1,5] (fun x1 x5 wr=>∃(k:Nat) (u:ByteArray) (ys:List UInt8) (A':Option Addr) (c':Nat),k≤s.size∧u.size=s.size-k∧u.data.toList=s.data.toList.drop k∧x1= .string u∧x5= .slice A' ys.length c'∧ys.length≤2*k∧ys++kn (qm l) u.data.toList=v∧
  wr.ownsRow w.heap.size 5 1 (.slice A' ys.length c') ys.length (bv ys)∧Below w.heap.size w wr) (fun x1 _ _=>match x1 with | .string u=>u.size | _=>0)
 case atStart=>exact⟨0,s,[],none,0,qi _,rfl,by rw[jy],rfl,rfl,qi _,by rw[HV.out];rfl,zf _ _ _ _,Below.refl _ _⟩
 case round =>
  obtain⟨k,u,ys,A',c',hk,hus,hud,rfl,rfl,hyl,hys,hown,hb⟩:=hrel
  have HYS:=qa hys
  have HO:=qa hown
  have HB:=qa hb
  have HUD:=qa hud
  have hsz:=hb.size
  have huL:u.size≤s.size-k:=by omega
  have huG:s.size-k≤u.size:=by omega
  clear hys hown hb hud hus
  by_cases hu0:u.size=0
  ·
   have hue:u=⟨#[]⟩:=by
    have:u.data.toList=[]:=zh (by rw[qgi];exact hu0)
    rw[←str_etaU u,this]
   have hfin:ys=v:=by
    rw[←HYS.out,hue]
    exact(jb _).symm
   have HF:=qa hfin
   clear hfin hu0 huL huG HUD
   subst hue
   go_wp2_with fail
   go_ret
   exact⟨A',c',by rw[←HF.out];rfl,by rw[←HF.out];exact HO.out,HB.out⟩
  ·
   have hup:0<u.size:=by omega
   have hne:u.toList≠[]:=fun e=>by
    rw[z6] at e
    have h1:=congrArg List.length e
    rw[jt] at h1
    exact hu0 h1
   have hne2:u.toList.isEmpty=false:=by
    rw[uj]
    exact hne
   clear hne
   have HDR:=qa (dropS hup)
   rw[jy] at HDR
   rcases qdy (qm l) u.data.toList with hp | ⟨j,t,hj,hp,hn0,hpre⟩
   ·
    have HLG:=qa (fun w2 (hb2:Below w.heap.size w w2)=>qnh (w2:=w2) l u (H.out.below hb2 (qc _)) HR.out (by omega) _ hp)
    have HEQ:Hid (kn (qm l) u.data.toList=(255:UInt8) :: u[0] :: kn (qm l) (u.extract 1 u.size).data.toList):=by
     unfold Hid
     have hp2:=hp
     rw[HDR.out] at hp2
     rw[tailS,HDR.out,enc_esc hp2]
     rfl
    have HU1:Hid ((u.extract 1 u.size).data.toList=s.data.toList.drop (k+1)):=by
     unfold Hid
     rw[tailS,HUD.out,jh]
    have hu1:(u.extract 1 u.size).size=s.size-(k+1):=by rw[yt];omega
    have HUS:=qa hu1
    clear hp hu1
    have lx:u[0].toNat<256:=jj _
    go_wp2_with fail
    refine(HLG.out _ (by first | exact HB.out | exact zj HB.out _)).mono ?_
    rintro r w1 ⟨rfl,m,rfl⟩
    have hb1:Below w.heap.size w (wr.drewN m):=zj HB.out m
    have ho1:(wr.drewN m).ownsRow w.heap.size 5 1 (.slice A' ys.length c') ys.length (bv ys):=jv HO.out (fun _ _=>rfl)
    have hz1:w.heap.size≤(wr.drewN m).heap.size:=hb1.size
    generalize wr.drewN m=w1 at *
    have hlit:(w1.alloc (.cells #[.int .u8 255,.int .u8 (u[0].toNat:Int)] 5)).ownsRow w1.heap.size 5 1 (.slice (some ⟨w1.heap.size,0,none⟩) 2 2) 2 (bv [(255:UInt8),u[0]]):=qlw w1 [(255:UInt8),u[0]] #[.int .u8 255,.int .u8 (u[0].toNat:Int)] rfl (by simp)
    obtain⟨A3,c3,w3,hrun,hown3,hg3⟩:=j9 _ w.heap.size _ ys [(255:UInt8),u[0]] (ys++[(255:UInt8),u[0]]) rfl (ho1.alloc _) (Rd.own hlit) (by simp;omega) (by simp;omega)
    have hb3:Below w.heap.size w w3:=(hb1.alloc hz1 _).grown hg3 (by simp;omega) (fun q hq=>(zk ho1 hq).1)
    have hrun2:(Builtin.append_ #[36,36] 36 #[.slice A' ys.length c',.slice (some ⟨w1.heap.size,0,none⟩) 2 2]).run Tryz.prog (w1.alloc (.cells #[.int .u8 255,.int .u8 (u[0].toNat:Int)] 5))= .ok (.slice A3 (ys++[(255:UInt8),u[0]]).length c3) w3:=hrun
    have HRUN:=qa hrun2
    have HO3:=qa hown3
    have HB3:=qa hb3
    clear hrun hrun2 hown3 hb3 hg3 hb1 ho1 hlit
    go_wp2_with (at_builtin;refine wpList_append_run rfl _ _ _ _ rfl rfl rfl HRUN.out ?_)
    go_roundw
    case rel =>
     refine⟨k+1,u.extract 1 u.size,ys++[(255:UInt8),u[0]],A3,c3,by omega,HUS.out,HU1.out,rfl,by first | rfl | (rw[qd];rfl),by rw[qd,qw,qw,j4];omega,?_,HO3.out,HB3.out⟩
     rw[qp,←HYS.out,HEQ.out]
     rfl
    case measure =>
     have:=HUS.out
     simp only[this]
     omega
   ·
    have HLG:=qa (fun w2 (hb2:Below w.heap.size w w2)=>qnh (w2:=w2) l u (H.out.below hb2 (qc _)) HR.out (by omega) _ hp)
    have hjl:j<l.length:=by
     have:=(zw.1 hj).1
     rwa [qv] at this
    have hnl:=hpre.length_le
    rw[qgi] at hnl
    have HEQ:Hid (kn (qm l) u.data.toList=UInt8.ofNat j :: kn (qm l) (u.extract t.length u.size).data.toList):=by
     unfold Hid
     rw[enc_code hp hn0,tailS]
    have HU1:Hid ((u.extract t.length u.size).data.toList=s.data.toList.drop (k+t.length)):=by
     unfold Hid
     rw[tailS,HUD.out,jh]
    have hu1:(u.extract t.length u.size).size=s.size-(k+t.length):=by rw[yt];omega
    have HUS:=qa hu1
    clear hp hj hpre hu1 HDR
    generalize t.length=n at *
    have j0:(0:Int)≤(j:Int):=by omega
    have j1:(j:Int)<256:=by omega
    have hbs:(UInt8.ofNat j).toNat=j:=by simp;omega
    have n1:((n:Int)==0)=false:=by rw[q9];omega
    have n2:¬(n:Int)=0:=by omega
    go_wp2_with fail
    refine(HLG.out _ (by first | exact HB.out | exact zj HB.out _)).mono ?_
    rintro r w1 ⟨rfl,m,rfl⟩
    have hb1:Below w.heap.size w (wr.drewN m):=zj HB.out m
    have ho1:(wr.drewN m).ownsRow w.heap.size 5 1 (.slice A' ys.length c') ys.length (bv ys):=jv HO.out (fun _ _=>rfl)
    have hz1:w.heap.size≤(wr.drewN m).heap.size:=hb1.size
    generalize wr.drewN m=w1 at *
    have HO1:=qa ho1
    have HB1:=qa hb1
    clear ho1 hb1
    go_wp2_with (at_builtin;refine qa3 (v:= .slice A' ys.length c') w.heap.size ys (UInt8.ofNat j) rfl _ _ rfl rfl rfl rfl (by rw[hbs,zg _ _ _ _ rfl];rfl) (HO1.out.alloc _) (by omega) (by simp;omega) ?_;intro A2 c2 w2 ho2 hg2)
    go_roundw
    case rel =>
     refine⟨k+n,u.extract n u.size,ys++[UInt8.ofNat j],A2,c2,by omega,HUS.out,HU1.out,rfl,by rw[qd];rfl,by rw[qd,qw,j4];omega,?_,ho2,(HB1.out.alloc hz1 _).grown hg2 (by simp;omega) (fun q hq=>(zk HO1.out hq).1)⟩
     rw[qp,←HYS.out,HEQ.out]
     rfl
    case measure =>
     have:=HUS.out
     simp only[this]
     omega
theorem equal_any{w:World}{lo h' lo2 h2:Nat}{A B:Option Addr}{c d:Nat}(xs ys:List UInt8)(hx:Rd w lo h' A c (bv xs))(hy:Rd w lo2 h2 B d (bv ys)) :
  Calls Tryz.prog 92 #[.slice A xs.length c,.slice B ys.length d] w fun r w'=>r= .returned (.bool (decide (xs=ys)))∧w=w':=by
 have h1:=ul (P:=Tryz.prog) w 36 9 5 Tryz.underlying36 Tryz.underlying5 Tryz.underlying9 lo h' A c xs hx
 have h2:=ul (P:=Tryz.prog) w 36 9 5 Tryz.underlying36 Tryz.underlying5 Tryz.underlying9 lo2 h2 B d ys hy
 clear hx hy
 go_enter Tryz.func92,Tryz.ntmps92
 go_wp2
 go_ret
 refine⟨xg ?_,rfl⟩
 by_cases h:xs=ys
 ·
  simp[h]
 ·
  simp[h]
theorem bclone_any{w:World}(bs:List UInt8){lo h':Nat}{A:Option Addr}{c:Nat}(h:Rd w lo h' A c (bv bs))(hh:h'≤w.heap.size)(hb:bs.length≤1000000000) :
  Calls Tryz.prog 61 #[.slice A bs.length c] w fun r w'=>∃A' c',r= .returned (.slice A' bs.length c')∧
   w'.ownsRow w.heap.size 5 1 (.slice A' bs.length c') bs.length (bv bs)∧Below w.heap.size w w':=by
 rcases A with _ | ad
 ·
  obtain rfl:bs=[]:=by
   rcases jr (bv bs).length with h0 | h0
   ·
    exact zh (by simpa[bv] using h0)
   ·
    obtain⟨_,_,h,_⟩:=h.at_ h0
    cases h
  clear h
  have hnil:=Lib.run_eql_slice_nil (P:=Tryz.prog) w 36 5 none 0 c 0 0 Tryz.underlying36
  go_enter Tryz.func61,Tryz.ntmps61
  go_wp2
  go_ret
  exact⟨_,_,rfl,zf ..,Below.refl _ _⟩
 ·
  obtain⟨A1,c1,w1,hrun,hown,hg1⟩:=j9 (w.alloc (.cells #[] 5)) w.heap.size (.slice (some ⟨w.heap.size,0,none⟩) 0 0) [] bs bs (by simp) (qlw w [] #[] rfl (by simp)) (h.alloc hh _) (by simp;omega) (by simp)
  have HO:=qa hown
  have HG:=qa hg1
  clear h hown hg1
  have hnil:=Lib.run_eql_slice_nil (P:=Tryz.prog) w 36 5 (some ad) bs.length c 0 0 Tryz.underlying36
  go_enter Tryz.func61,Tryz.ntmps61
  go_wp2_with (at_builtin;refine wpList_append_run rfl _ _ _ _ rfl rfl rfl hrun ?_)
  go_ret
  exact⟨_,_,rfl,HO.out,((Below.refl _ _).alloc (qc _) _).grown HG.out (by simp) (by simp[Value.ownBlock])⟩
end Go.Proofs.YtjfecojdagmacaaGreat
