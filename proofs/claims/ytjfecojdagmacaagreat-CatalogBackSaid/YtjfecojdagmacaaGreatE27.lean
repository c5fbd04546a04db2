/-
  Lemmas.
-/
import Derived.Test.YtjfecojdagmacaaGreatE26
namespace Go.Proofs.YtjfecojdagmacaaGreat
open Go.RowKit
set_option maxRecDepth 20000
set_option maxHeartbeats 16000000
set_option linter.unusedSimpArgs false
set_option linter.unusedVariables false
theorem qe4{fn:Func}{p u:Tmp}(h:fn.results=#[.cell p 110,.tmp u])(tmps:Array Value)(w:World)(g:Nat)(a b c:Value)(hp:tmps.getD p undef= .pointer (some ⟨g,0,none⟩))
  (hb:j8 w g 110 #[a,b,c]):(results fn tmps).run Tryz.prog w= .ok (.tuple #[.agg #[a,b,c],tmps.getD u undef]) w:=by
 have h1:=run_loadVar_row (P:=Tryz.prog) w g 110 110 #[a,b,c] (0,0) _ hb Tryz.underlying110 rfl (by kernel_rfl)
 rw[results_cell_tmp h,hp]
 simp only[asAddr,Sem.run_pure,Result.andThen_ok,h1]
theorem ql4(w:World):(Instr.build 110 #[]).run Tryz.prog w= .ok (.agg #[.int .i64 0,.slice none 0 0,.slice none 0 0]) w:=run_build w _ _ _ (by kernel_rfl)
theorem gmake_not{w:World}(l:List ByteArray){c:Nat}{A:Option Addr}(h:Rd w 0 w.heap.size A c (sv l))(z:Int)(hz:z<0∨65536<z) :
  Calls Tryz.prog 77 #[.slice A l.length c,.int .i64 z] w fun r w'=>r= .returned (.tuple #[.agg #[.int .i64 0,.slice none 0 0,.slice none 0 0],.int .i64 1])∧Below w.heap.size w w':=by
 have hbuild:=ql4
 by_cases h0:z<0
 ·
  have d0:decide (z<0)=true:=qx h0
  go_enter Tryz.func77,Tryz.ntmps77
  go_wp2_with fail
  refine bodyPost_ret (v:= .tuple #[.agg #[.int .i64 0,.slice none 0 0,.slice none 0 0],.int .i64 1]) ?_ rfl ⟨rfl,(Below.refl _ w).alloc (qc _) _⟩
  exact qe4 (p:=4) (u:=5) rfl _ _ w.heap.size _ _ _ rfl (j8.new w _ _)
 ·
  have d0:decide (z<0)=false:=qw h0
  have h1:65536<z:=by omega
  have d1:decide (65536<z)=true:=qx h1
  go_enter Tryz.func77,Tryz.ntmps77
  go_wp2_with fail
  refine bodyPost_ret (v:= .tuple #[.agg #[.int .i64 0,.slice none 0 0,.slice none 0 0],.int .i64 1]) ?_ rfl ⟨rfl,(Below.refl _ w).alloc (qc _) _⟩
  exact qe4 (p:=4) (u:=5) rfl _ _ w.heap.size _ _ _ rfl (j8.new w _ _)
theorem gmake_list{w:World}(l:List ByteArray){c:Nat}{A:Option Addr}(h:Rd w 0 w.heap.size A c (sv l))(hsz:∀s∈l,s.size≤100000)(hlen:l.length≤5000) :
  Calls Tryz.prog 77 #[.slice A l.length c,.int .i64 0] w fun r w'=>∃t:List Nat,Rise (qcc (qdh l)) t∧Below w.heap.size w w'∧((t.length≤65536∧∃(A':Option Addr) (c':Nat),r= .returned (.tuple #[.agg #[.int .i64 0,.slice A' t.length c',.slice none 0 0],.int .i64 0])∧w'.ownsRow w.heap.size 3 1 (.slice A' t.length c') t.length (iv (jf t)))∨(65536<t.length∧r= .returned (.tuple #[.agg #[.int .i64 0,.slice none 0 0,.slice none 0 0],.int .i64 1]))):=by
 obtain⟨w1,hw1⟩:∃w1,w.alloc (.cells #[.int .i64 0,.slice none 0 0,.slice none 0 0] 110)=w1:=⟨_,rfl⟩
 have B1:Hid (Below w.heap.size w w1):=by unfold Hid;rw[←hw1];exact(Below.refl _ w).alloc (qc _) _
 have hk:j8 w1 w.heap.size 110 #[.int .i64 0,.slice none 0 0,.slice none 0 0]:=by rw[←hw1];exact j8.new w _ _
 have hs1:w1.heap.size=w.heap.size+1:=by rw[←hw1];simp
 have HGA:=qa (qms l ((h.below B1.out (qc _)).wide (qc _) B1.out.size) hsz hlen)
 have HK:=qa hk
 clear h hsz hk
 have hbuild:=ql4
 go_enter Tryz.func77,Tryz.ntmps77
 go_wp2_with fail
 refine HGA.out.mono ?_
 rintro r w2 ⟨t,A2,c2,rfl,hri,hown,b2⟩
 have hk2:=HK.out.below b2 (by omega)
 have HK2:=qa hk2
 have q0:=hk2.cell 0
 have q1:=hk2.cell 1
 have q2:=hk2.cell 2
 have f0:=hk2.frozen 0
 have f1:=hk2.frozen 1
 have f2:=hk2.frozen 2
 have HRI:=qa hri
 have HO:=qa hown
 have B2:=qa (B1.out.trans (b2.mono B1.out.size))
 have s2:=b2.size
 have hg2:w.heap.size<w2.heap.size:=by omega
 clear hk2 hri hown b2 HGA
 by_cases hlen2:65536<t.length
 ·
  have il:(65536:Int)<(t.length:Int):=by omega
  go_wp2_with fail
  have hk3:=((HK2.out.put 0 (.int .i64 0)).put 1 (.slice none 0 0)).put 2 (.slice none 0 0)
  have hb3:=((B2.out.setCell (p:=⟨w.heap.size,0,none⟩) (qc _) (.int .i64 0)).setCell (p:=⟨w.heap.size,1,none⟩) (qc _) (.slice none 0 0)).setCell (p:=⟨w.heap.size,2,none⟩) (qc _) (.slice none 0 0)
  refine bodyPost_ret (v:= .tuple #[.agg #[.int .i64 0,.slice none 0 0,.slice none 0 0],.int .i64 1]) ?_ rfl ⟨t,HRI.out,hb3,.inr ⟨hlen2,rfl⟩⟩
  exact qe4 (p:=4) (u:=5) rfl _ _ w.heap.size _ _ _ rfl hk3
 have hlen3:t.length≤65536:=by omega
 have il:¬(65536:Int)<(t.length:Int):=by omega
 clear hbuild
 go_wp2_with fail
 obtain⟨w3,hw3⟩:∃w3,((w2.setCell ⟨w.heap.size,0,none⟩ (.int .i64 0)).setCell ⟨w.heap.size,1,none⟩ (.slice A2 t.length c2)).setCell ⟨w.heap.size,2,none⟩ (.slice none 0 0)=w3:=⟨_,rfl⟩
 have hk3:j8 w3 w.heap.size 110 #[.int .i64 0,.slice A2 t.length c2,.slice none 0 0]:=by rw[←hw3];exact((HK2.out.put 0 _).put 1 _).put 2 _
 have ho3:Out w2 w3 (fun k=>k=w.heap.size):=by rw[←hw3];exact(((Out.refl _ (fun k=>k=w.heap.size)).setCell (p:=⟨w.heap.size,0,none⟩) (.inl rfl) _).setCell (p:=⟨w.heap.size,1,none⟩) (.inl rfl) _).setCell (p:=⟨w.heap.size,2,none⟩) (.inl rfl) _
 have hb3:Below w.heap.size w w3:=B2.out.trans (ho3.below (Nat.le_of_lt hg2) (fun k hk=>by omega))
 have hr3:=qaa HO.out ho3 (fun k hk e=>by have:=zk HO.out hk;omega)
 rw[hw3]
 refine bodyPost_ret (v:= .tuple #[.agg #[.int .i64 0,.slice A2 t.length c2,.slice none 0 0],.int .i64 0]) ?_ rfl ⟨t,HRI.out,hb3,.inl ⟨hlen3,A2,c2,rfl,j9 hr3 (by omega)⟩⟩
 exact qe4 (p:=4) (u:=5) rfl _ _ w.heap.size _ _ _ rfl hk3
theorem gmake_zero{w:World}(l:List ByteArray){c:Nat}{A:Option Addr}(h:Rd w 0 w.heap.size A c (sv l))(hsz:∀s∈l,s.size≤100000)(hlen:l.length≤5000)(hf:(qcc (qdh l)).length≤65536) :
  Calls Tryz.prog 77 #[.slice A l.length c,.int .i64 0] w fun r w'=>∃(t:List Nat) (A':Option Addr) (c':Nat),r= .returned (.tuple #[.agg #[.int .i64 0,.slice A' t.length c',.slice none 0 0],.int .i64 0])∧Rise (qcc (qdh l)) t∧w'.ownsRow w.heap.size 3 1 (.slice A' t.length c') t.length (iv (jf t))∧Below w.heap.size w w':=by
 refine(gmake_list l h hsz hlen).mono ?_
 rintro r w' ⟨t,h1,h2,⟨h3,A',c',rfl,h4⟩ | ⟨h3,rfl⟩⟩
 ·
  exact⟨t,A',c',rfl,h1,h4,h2⟩
 ·
  have:=h1.len
  omega
theorem qkb{w:World}(l:List ByteArray){c:Nat}{A:Option Addr}(h:Rd w 0 w.heap.size A c (sv l))(hsz:∀s∈l,s.size≤100000)(hlen:l.length≤5000)(b:Nat)(hb0:0<b)(hb:b≤65536) :
  Calls Tryz.prog 77 #[.slice A l.length c,.int .i64 (b:Int)] w fun r w'=>∃(t:List Nat) (B:Option Addr) (d:Nat),r= .returned (.tuple #[.agg #[.int .i64 (b:Int),.slice none 0 0,.slice B b d],.int .i64 0])∧Rise (qcc (qdh l)) t∧w'.ownsRow w.heap.size 4 1 (.slice B b d) b (lv (qfu b t))∧Below w.heap.size w w':=by
 obtain⟨w1,hw1⟩:∃w1,w.alloc (.cells #[.int .i64 0,.slice none 0 0,.slice none 0 0] 110)=w1:=⟨_,rfl⟩
 have B1:Hid (Below w.heap.size w w1):=by unfold Hid;rw[←hw1];exact(Below.refl _ w).alloc (qc _) _
 have hk:j8 w1 w.heap.size 110 #[.int .i64 0,.slice none 0 0,.slice none 0 0]:=by rw[←hw1];exact j8.new w _ _
 have hs1:w1.heap.size=w.heap.size+1:=by rw[←hw1];simp
 have HGA:=qa (qms l ((h.below B1.out (qc _)).wide (qc _) B1.out.size) hsz hlen)
 have HK:=qa hk
 have i0:¬(b:Int)<0:=by omega
 have d0:decide ((b:Int)<0)=false:=qw i0
 have i1:¬(65536:Int)<(b:Int):=by omega
 have d1:decide ((65536:Int)<(b:Int))=false:=qw i1
 have i2:(0:Int)<(b:Int):=by omega
 clear h hsz hk
 go_enter Tryz.func77,Tryz.ntmps77
 go_wp2_with fail
 refine HGA.out.mono ?_
 rintro r w2 ⟨t,A2,c2,rfl,hri,hown,b2⟩
 have HRI:=qa hri
 have HMK:=qa (gmark_any t b hb0 (by omega) (fun g hg=>allL_lt ((hri.mem g).1 hg)) (Rd.own hown) (qc _))
 have HK2:=qa (HK.out.below b2 (by omega))
 have B2:=qa (B1.out.trans (b2.mono B1.out.size))
 have s2:=b2.size
 have hg2:w.heap.size<w2.heap.size:=by omega
 clear hri hown b2 HGA
 go_wp2_with fail
 refine HMK.out.mono ?_
 rintro r w3 ⟨rfl,hown,b3⟩
 have hk3:=HK2.out.below b3 hg2
 have HK3:=qa hk3
 have q0:=hk3.cell 0
 have q1:=hk3.cell 1
 have q2:=hk3.cell 2
 have f0:=hk3.frozen 0
 have f1:=hk3.frozen 1
 have f2:=hk3.frozen 2
 have HO:=qa hown
 have B3:=qa (B2.out.trans (b3.mono B2.out.size))
 have s3:=b3.size
 clear hk3 hown b3 HMK
 go_wp2_with fail
 obtain⟨w4,hw4⟩:∃w4,((w3.setCell ⟨w.heap.size,0,none⟩ (.int .i64 (b:Int))).setCell ⟨w.heap.size,1,none⟩ (.slice none 0 0)).setCell ⟨w.heap.size,2,none⟩ (.slice (some ⟨w2.heap.size,0,none⟩) b b)=w4:=⟨_,rfl⟩
 have hk4:j8 w4 w.heap.size 110 #[.int .i64 (b:Int),.slice none 0 0,.slice (some ⟨w2.heap.size,0,none⟩) b b]:=by rw[←hw4];exact((HK3.out.put 0 _).put 1 _).put 2 _
 have ho4:Out w3 w4 (fun k=>k=w.heap.size):=by rw[←hw4];exact(((Out.refl _ (fun k=>k=w.heap.size)).setCell (p:=⟨w.heap.size,0,none⟩) (.inl rfl) _).setCell (p:=⟨w.heap.size,1,none⟩) (.inl rfl) _).setCell (p:=⟨w.heap.size,2,none⟩) (.inl rfl) _
 have hb4:Below w.heap.size w w4:=B3.out.trans (ho4.below (by omega) (fun k hk=>by omega))
 have hr4:=qaa HO.out ho4 (fun k hk e=>by have:=zk HO.out hk;omega)
 rw[hw4]
 refine bodyPost_ret (v:= .tuple #[.agg #[.int .i64 (b:Int),.slice none 0 0,.slice (some ⟨w2.heap.size,0,none⟩) b b],.int .i64 0]) ?_ rfl ⟨t,_,b,rfl,HRI.out,j9 hr4 (by omega),hb4⟩
 exact qe4 (p:=4) (u:=5) rfl _ _ w.heap.size _ _ _ rfl hk4
theorem gwrite_bits{w:World}{hi b:Nat}{v:Value}{gs:List Nat}{rs:List Bool}(h:Flt w 0 hi v b gs rs)(hhi:hi≤w.heap.size)(hf:FilG b gs rs)(hb0:0<b) :
  Calls Tryz.prog 80 #[v] w fun r w'=>∃A' c',r= .returned (.slice A' (xg b gs rs).length c')∧w'.ownsRow w.heap.size 5 1 (.slice A' (xg b gs rs).length c') (xg b gs rs).length (bv (xg b gs rs))∧Below w.heap.size w w':=by
 obtain⟨A,c,B,d,rfl,h1,h2⟩:=h
 have hble:=hf.le
 have hrl:=hf.rows
 obtain⟨w1,hw1⟩:∃w1,w.alloc (.cells #[.int .i64 (b:Int),.slice A gs.length c,.slice B rs.length d] 110)=w1:=⟨_,rfl⟩
 have B1:Hid (Below w.heap.size w w1):=by unfold Hid;rw[←hw1];exact(Below.refl _ w).alloc (qc _) _
 have hk:j8 w1 w.heap.size 110 #[.int .i64 (b:Int),.slice A gs.length c,.slice B rs.length d]:=by rw[←hw1];exact j8.new w _ _
 have hs1:w1.heap.size=w.heap.size+1:=by rw[←hw1];simp
 have hgt1:w.heap.size<w1.heap.size:=by omega
 have hc0:w1.cell? ⟨w.heap.size,0,none⟩=some (.int .i64 (b:Int)):=hk.cell 0
 have HK:=qa hk
 have HPU:=qa (qcf (w:=w1) b (by omega))
 have HR2:=qa ((h2.below B1.out hhi).wide (qj _) (qc _))
 have ib0:¬(b:Int)=0:=by omega
 have ib1:((b:Int)==0)=false:=by rw[q9];exact ib0
 have ib2:((b:Int) != 0)=true:=by rw[bne,ib1];rfl
 obtain⟨V,hV⟩:∃V,jc b++xz rs=V:=⟨_,rfl⟩
 rw[show xg b gs rs=V from (if_pos hb0).trans hV]
 have HV:=qa hV
 have HWL:Hid ((jc b).length+(xz rs).length≤10000000):=by
  have h3:=kt b (by omega)
  have h4:=qeu rs (by omega)
  unfold Hid
  omega
 have HWR:=fun(W:World) (hW:Below w1.heap.size w1 W)=>qa (bwrite_any (w:=W) rs (HR2.out.below hW (by omega)) (by have:=hW.size;omega) (by omega))
 clear h1 h2 hk hV hf hrl hs1
 generalize xz rs=wb at *
 generalize jc b=pb at *
 go_enter Tryz.func80,Tryz.ntmps80
 go_wp2_with fail
 refine HPU.out.mono ?_
 rintro r w2 ⟨A2,c2,rfl,ho2,b2⟩
 have HO2:=qa ho2
 have HK2:=qa (HK.out.below b2 hgt1)
 have hd0:w2.cell? ⟨w.heap.size,0,none⟩=some (.int .i64 (b:Int)):=HK2.out.cell 0
 have hd2:w2.cell? ⟨w.heap.size,2,none⟩=some (.slice B rs.length d):=HK2.out.cell 2
 have HWR2:=HWR w2 b2
 have B2:=qa b2
 have S2:=b2.size
 clear ho2 b2 HPU HWR
 go_wp2_with fail
 refine HWR2.out.mono ?_
 rintro r w3 ⟨A3,c3,rfl,ho3,b3⟩
 have HO3:=qa (Rd.of_own ho3)
 have HO23:=qa (ji HO2.out b3 (qc _))
 have B3:=qa (zz B2.out b3 S2)
 have S3:=b3.size
 obtain⟨A4,c4,w4,hrun,ho4,hg4⟩:=xm w3 w1.heap.size _ pb wb V HV.out HO23.out HO3.out (by have:=HWL.out;omega) B3.out.size
 have HO4:=qa ho4
 have B4:=qa (B3.out.grown hg4 B3.out.size (fun q hq=>(zk HO23.out hq).1))
 clear ho3 b3 ho4 hg4 HWR2
 go_wp2_with (at_builtin;refine wpList_append_run rfl _ _ _ _ rfl rfl rfl hrun ?_)
 go_ret
 exact⟨A4,c4,rfl,j9 HO4.out (by omega),zz B1.out B4.out (by omega)⟩
theorem gwrite_list{w:World}{hi:Nat}{v:Value}{gs:List Nat}{rs:List Bool}(h:Flt w 0 hi v 0 gs rs)(hhi:hi≤w.heap.size)(hf:FilG 0 gs rs) :
  Calls Tryz.prog 80 #[v] w fun r w'=>∃A' c',r= .returned (.slice A' (xg 0 gs rs).length c')∧w'.ownsRow w.heap.size 5 1 (.slice A' (xg 0 gs rs).length c') (xg 0 gs rs).length (bv (xg 0 gs rs))∧Below w.heap.size w w':=by
 obtain⟨A,c,B,d,rfl,h1,h2⟩:=h
 rw[show((0:Nat):Int)=0 from rfl]
 have hfew:=hf.few
 have hmay:=qem hf.up hf.lt
 obtain⟨w1,hw1⟩:∃w1,w.alloc (.cells #[.int .i64 0,.slice A gs.length c,.slice B rs.length d] 110)=w1:=⟨_,rfl⟩
 have B1:Hid (Below w.heap.size w w1):=by unfold Hid;rw[←hw1];exact(Below.refl _ w).alloc (qc _) _
 have hk:j8 w1 w.heap.size 110 #[.int .i64 0,.slice A gs.length c,.slice B rs.length d]:=by rw[←hw1];exact j8.new w _ _
 have hs1:w1.heap.size=w.heap.size+1:=by rw[←hw1];simp
 have hgt1:w.heap.size<w1.heap.size:=by omega
 have hc0:w1.cell? ⟨w.heap.size,0,none⟩=some (.int .i64 0):=hk.cell 0
 have HK:=qa hk
 have HPU:=qa (qcf (w:=w1) 0 (by omega))
 rw[show((0:Nat):Int)=0 from rfl] at HPU
 have HR1:=qa ((h1.below B1.out hhi).wide (qj _) (qc _))
 obtain⟨V,hV⟩:∃V,jc 0++jr (ya gs)=V:=⟨_,rfl⟩
 rw[show xg 0 gs rs=V from (if_neg (qay 0)).trans hV]
 have HV:=qa hV
 have HSL:=qa (jl gs)
 have HST:=fun(W:World) (hW:Below w1.heap.size w1 W)=>qa (gsteps_any (w:=W) gs (by omega) hf.lt (HR1.out.below hW (by omega)) (by have:=hW.size;omega))
 have HPW:=fun(W:World) (A:Option Addr) (c hi:Nat) (hR:Rd W 0 hi A c (iv (ya gs))) (hh:hi≤W.heap.size)=>qa (qjz (w:=W) (ya gs) hmay hR hh (by rw[jl];omega))
 have HWL:Hid ((jc 0).length+(jr (ya gs)).length≤10000000):=by
  have h3:=kt 0 (by omega)
  have h5:=kt (ya gs).length (by rw[jl];omega)
  have h6:=hmay.wide_le
  have h7:(ya gs).length*wide (ya gs)≤65536*32:=ug (by rw[jl];exact hfew) h6
  unfold Hid
  have h8:(jr (ya gs)).length=(jc (ya gs).length).length+(((ya gs).length*wide (ya gs)+7)/8+1):=by rw[jr];simp[qbz,ux]
  omega
 rw[jl] at HPW
 clear h1 h2 hk hV hf hmay hs1
 generalize jr (ya gs)=wb at *
 generalize jc 0=pb at *
 go_enter Tryz.func80,Tryz.ntmps80
 go_wp2_with fail
 refine HPU.out.mono ?_
 rintro r w2 ⟨A2,c2,rfl,ho2,b2⟩
 have HO2:=qa ho2
 have HK2:=qa (HK.out.below b2 hgt1)
 have hd0:w2.cell? ⟨w.heap.size,0,none⟩=some (.int .i64 0):=HK2.out.cell 0
 have hd1:w2.cell? ⟨w.heap.size,1,none⟩=some (.slice A gs.length c):=HK2.out.cell 1
 have HST2:=HST w2 b2
 have B2:=qa b2
 have S2:=b2.size
 clear ho2 b2 HPU HST
 go_wp2_with fail
 refine HST2.out.mono ?_
 rintro r w3 ⟨rfl,ho3,b3⟩
 have HPW3:=HPW w3 _ _ _ ((Rd.of_own ho3).wide (qj _) (qc _)) (qc _)
 have HO23:=qa (ji HO2.out b3 (qc _))
 have B3:=qa (zz B2.out b3 S2)
 have S3:=b3.size
 clear ho3 b3 HST2 HPW
 go_wp2_with fail
 refine HPW3.out.mono ?_
 rintro r w4 ⟨A4,c4,rfl,ho4,b4⟩
 have HO4:=qa (Rd.of_own ho4)
 have HO24:=qa (ji HO23.out b4 (qc _))
 have B4:=qa (zz B3.out b4 B3.out.size)
 have S4:=b4.size
 obtain⟨A5,c5,w5,hrun,ho5,hg5⟩:=xm w4 w1.heap.size _ pb wb V HV.out HO24.out HO4.out (by have:=HWL.out;omega) B4.out.size
 have HO5:=qa ho5
 have B5:=qa (B4.out.grown hg5 B4.out.size (fun q hq=>(zk HO24.out hq).1))
 clear ho4 b4 ho5 hg5 HPW3
 go_wp2_with (at_builtin;refine wpList_append_run rfl _ _ _ _ rfl rfl rfl hrun ?_)
 go_ret
 exact⟨A5,c5,rfl,j9 HO5.out (by omega),zz B1.out B5.out (by omega)⟩
theorem gwrite_any{w:World}{hi b:Nat}{v:Value}{gs:List Nat}{rs:List Bool}(h:Flt w 0 hi v b gs rs)(hhi:hi≤w.heap.size)(hf:FilG b gs rs) :
  Calls Tryz.prog 80 #[v] w fun r w'=>∃A' c',r= .returned (.slice A' (xg b gs rs).length c')∧w'.ownsRow w.heap.size 5 1 (.slice A' (xg b gs rs).length c') (xg b gs rs).length (bv (xg b gs rs))∧Below w.heap.size w w':=by
 rcases jh b with rfl | hb0
 ·
  exact gwrite_list h hhi hf
 ·
  exact gwrite_bits h hhi hf hb0
theorem qj7{w w2:World}{base n m p:Nat}{A A2:Option Addr}{c c2:Nat}{xs ys zs:List UInt8}(ho:w.ownsRow base 5 1 (.slice A n c) n (bv xs))(hx:xs.length=n)(hbase:base≤w.heap.size)(hb:Below w.heap.size w w2)(ho2:w2.ownsRow w.heap.size 5 1 (.slice A2 m c2) m (bv ys))(hy:ys.length=m)(hz:xs++ys=zs)(hp:n+m=p)(hbig:p≤140737488355328) :
  ∃A' c' w',(Builtin.append_ #[36,36] 36 #[.slice A n c,.slice A2 m c2]).run Tryz.prog w2= .ok (.slice A' p c') w'∧w'.ownsRow base 5 1 (.slice A' p c') p (bv zs)∧Below base w2 w'∧w2.grownBy w' (Value.slice A n c).ownBlock∧∀q,(Value.slice A n c).ownBlock=some q→q<w.heap.size:=by
 subst hx hy hz hp
 have ho3:=ji ho hb (qc _)
 have hs:=hb.size
 obtain⟨A',c',w',h1,h2,h3⟩:=xm w2 base _ xs ys (xs++ys) rfl ho3 (Rd.of_own ho2) hbig (by omega)
 rw[qd] at h1 h2
 exact⟨A',c',w',h1,h2,(Below.refl base w2).grown h3 (by omega) (fun q hq=>(zk ho3 hq).1),h3,fun q hq=>(zk ho hq).2⟩
theorem Row.grown{w w':World}{lo hi c:Nat}{A:Option Addr}{r:List Vl}{row:Option Nat}(h:Row w lo hi A c r)(hg:w.grownBy w' row)(hB:hi≤w.heap.size)(hr:∀q,row=some q→q<lo):Row w' lo hi A c r :=
 ⟨h.els.keep fun p h1 h2=>qa4 (hg.block p.block (zh h2 hB) fun e=>by have:=hr _ e.symm;omega),h.ok⟩
def qlc(l:List ByteArray)(o:Co):Prop:=∀(B:Option Addr) (d:Nat),CodeC l o.kind o.block o.rounds o.draws B d o
theorem sgright_v{w:World}{os:List Co}{A:Option Addr}{c:Nat}(h:qb8 w 0 w.heap.size A c os)(bits:Int)(hd:∀o∈os,o.draws.length≤400)(hC:∀o∈os,qbs o→qlc [] o) :
  Calls Tryz.prog 49 #[.slice A os.length c,.int .i64 bits] w fun r w'=>r= .returned (.bool (decide ((∀o∈os,qbs o)∧0≤bits∧bits≤65536)))∧Below w.heap.size w w':=by
 obtain⟨hl,hm⟩:=h.len
 have H:Hid (∀W,Below w.heap.size w W→∀k (hk:k<os.length),∃b off A' c',A=some ⟨b,off,none⟩∧b<w.heap.size∧W.cell? ⟨b,off+k*4,none⟩=some (.int .i64 os[k].kind)∧W.cell? ⟨b,off+k*4+1,none⟩=some (.int .i64 os[k].block)∧W.cell? ⟨b,off+k*4+2,none⟩=some (.int .i64 os[k].rounds)∧W.cell? ⟨b,off+k*4+3,none⟩=some (.slice A' os[k].draws.length c')∧
   Rd W 0 W.heap.size A' c' (iv os[k].draws)):=fun W hW k hk=>by
  obtain⟨b,off,A',c',h1,_,h2,h3,h4,h5,h6,h7,h8⟩:=(h.below hW (qc _)).get hk
  exact⟨b,off,A',c',h1,h2,h3,h4,h5,h6,h7.wide (qc _) hW.size⟩
 have HWD:Hid (∀k (hk:k<os.length),qjg os[k].draws∧os[k].draws.length≤400):=fun k hk=>by
  obtain⟨_,_,_,_,_,_,_,_,_,_,_,_,h8⟩:=h.get hk
  exact⟨h8,hd _ (ql hk)⟩
 have HCO:Hid (∀k (hk:k<os.length),qbs os[k]→qlc [] os[k]):=fun k hk=>hC _ (ql hk)
 have HCK:Hid (∀k (hk:k<os.length),¬qbs os[k]→¬∀o∈os,qbs o):=fun k hk hn ha=>hn (ha _ (ql hk))
 obtain⟨V,hV⟩:∃V,decide ((∀o∈os,qbs o)∧0≤bits∧bits≤65536)=V:=⟨_,rfl⟩
 rw[hV]
 have HVV:=qa hV
 clear h hd hC hV
 go_enter Tryz.func49,Tryz.ntmps49
 go_wp2_with fail
 go_loopw [13] (fun x13 wr=>∃k:Nat,k≤os.length∧x13= .int .i64 (k:Int)∧Hid (∀o∈os.take k,qbs o)∧Below w.heap.size w wr) (fun x13 _=>os.length-(intOf x13).toNat)
 case atStart=>exact⟨0,qj _,rfl,(fun o ho=>by rw[uh] at ho;cases ho),Below.refl _ _⟩
 case round =>
  obtain⟨k,hk,rfl,HALL,hb⟩:=hrel
  have HB:=qa hb
  have hsz:=hb.size
  clear hb
  by_cases hlt:k<os.length
  ·
   have ik:(k:Int)<(os.length:Int):=by omega
   obtain⟨b,off,A',c',rfl,hbl,e0,e1,e2,e3,hrd⟩:=H.out wr HB.out k hlt
   have HWK:=qa (HWD.out k hlt)
   have HOK:=qa (HCO.out k hlt)
   have HNO:=qa (HCK.out k hlt)
   have HNX:Hid (qbs os[k]→∀o∈os.take (k+1),qbs o):=fun hc o ho=>by
    rw[qi hlt] at ho
    rcases zn.1 ho with ho | ho
    ·
     exact HALL.out o ho
    ·
     rw[q8.1 ho];exact hc
   obtain⟨o,ho⟩:∃o,os[k]=o:=⟨_,rfl⟩
   rw[ho] at e0 e1 e2 e3 hrd HWK HOK HNO HNX
   obtain⟨dl,hdl⟩:∃n,o.draws.length=n:=⟨_,rfl⟩
   rw[hdl] at e3
   obtain⟨w2,hw2⟩:∃w2,wr.alloc (.cells #[.int .i64 o.kind,.int .i64 o.block,.int .i64 o.rounds,.slice A' dl c'] 60)=w2:=⟨_,rfl⟩
   have HB2:Hid (Below w.heap.size w w2):=by unfold Hid;rw[←hw2];exact HB.out.alloc hsz _
   have B2:Below wr.heap.size wr w2:=by rw[←hw2];exact(Below.refl _ wr).alloc (qc _) _
   have hgb:j8 w2 wr.heap.size 60 #[.int .i64 o.kind,.int .i64 o.block,.int .i64 o.rounds,.slice A' dl c']:=by rw[←hw2];exact j8.new wr _ _
   have p0:w2.cell? ⟨wr.heap.size,0,none⟩=some (.int .i64 o.kind):=hgb.cell 0
   have p1:w2.cell? ⟨wr.heap.size,1,none⟩=some (.int .i64 o.block):=hgb.cell 1
   have p2:w2.cell? ⟨wr.heap.size,2,none⟩=some (.int .i64 o.rounds):=hgb.cell 2
   have p3:w2.cell? ⟨wr.heap.size,3,none⟩=some (.slice A' dl c'):=hgb.cell 3
   have hci:CIn w2 [] o.kind o.block o.rounds o.draws none A' 0 c':=⟨⟨Els.nil _ _ _ _ _,fun v hv=>by cases hv⟩,(hrd.below B2 (qc _)).wide (qc _) B2.size,HWK.out.1,HWK.out.2⟩
   have hsz2:=HB2.out.size
   by_cases hco:qbs o
   ·
    have HM:=measure_yesW hci (o:=o) rfl ⟨fits_nil,hco⟩ (HOK.out hco A' c')
    rw[show(([]:List Vl).length)=0 from rfl,hdl] at HM
    have HM:=qa HM
    have HNK:=qa (HNX.out hco)
    generalize o.kind=z0 at *
    generalize o.block=z1 at *
    generalize o.rounds=z2 at *
    generalize (yu (qr []) o (y9 (qr []) o)).length=pl at *
    clear ho hci hgb hrd B2 hco
    go_wp2_with fail
    try rw[hw2]
    clear hw2
    go_wp2_with fail
    refine HM.out.mono ?_
    rintro r w3 ⟨rfl,hb3, -, -⟩
    have HB3:=qa (zz HB2.out hb3 hsz2)
    clear hb3 HM
    go_wp2_with fail
    go_roundw
    case rel=>exact⟨k+1,by omega,by go_num,HNK.out,HB3.out⟩
    case measure=>simp[intOf];omega
   ·
    have HM:=measure_no hci (fun h=>hco h.2)
    rw[show(([]:List Vl).length)=0 from rfl,hdl] at HM
    have HM:=qa HM
    have HV:Hid (decide ((∀o∈os,qbs o)∧0≤bits∧bits≤65536)=false):=qw fun h=>HNO.out hco h.1
    rw[HV.out] at HVV
    generalize o.kind=z0 at *
    generalize o.block=z1 at *
    generalize o.rounds=z2 at *
    clear ho hci hgb hrd B2 hco
    go_wp2_with fail
    try rw[hw2]
    clear hw2
    go_wp2_with fail
    refine HM.out.mono ?_
    rintro r w3 ⟨rfl,hb3⟩
    have HB3:=qa (zz HB2.out hb3 hsz2)
    clear hb3 HM
    go_wp2_with fail
    go_ret
    exact⟨yc HVV.out,HB3.out⟩
  ·
   have ik:¬(k:Int)<(os.length:Int):=by omega
   have HA:Hid (∀o∈os,qbs o):=by
    have:=HALL.out
    rwa [qp (by omega)] at this
   have hrn:Rd wr 0 wr.heap.size none 0 (sv []):=Rd.nil _ _ _
   by_cases hz:bits<0∨65536<bits
   ·
    have HM:=qa (gmake_not [] hrn bits hz)
    have HV:Hid (decide ((∀o∈os,qbs o)∧0≤bits∧bits≤65536)=false):=qw fun h=>by omega
    rw[HV.out] at HVV
    clear hrn
    go_wp2_with fail
    refine HM.out.mono ?_
    rintro r w3 ⟨rfl,hb3⟩
    have HB3:=qa ((zz HB.out hb3 hsz).alloc (by have:=hb3.size;omega) (.cells #[.int .i64 0,.slice none 0 0,.slice none 0 0] 110))
    go_wp2_with fail
    go_ret
    exact⟨yc HVV.out,HB3.out⟩
   ·
    have HV:Hid (decide ((∀o∈os,qbs o)∧0≤bits∧bits≤65536)=true):=qx ⟨HA.out,by omega,by omega⟩
    rw[HV.out] at HVV
    by_cases hb0:bits=0
    ·
     subst hb0
     have HM:=qa (gmake_zero [] hrn (fun s hs=>by cases hs) (by simp) (by simp[qcc,qdh]))
     clear hrn
     go_wp2_with fail
     refine HM.out.mono ?_
     rintro r w3 ⟨t,A3,c3,rfl, -, -,hb3⟩
     have HB3:=qa ((zz HB.out hb3 hsz).alloc (by have:=hb3.size;omega) (.cells #[.int .i64 0,.slice A3 t.length c3,.slice none 0 0] 110))
     clear hb3
     go_wp2_with fail
     go_ret
     exact⟨yc HVV.out,HB3.out⟩
    ·
     obtain⟨b,rfl⟩:∃b:Nat,bits=(b:Int):=⟨bits.toNat,by omega⟩
     have HM:=qa (qkb [] hrn (fun s hs=>by cases hs) (by simp) b (by omega) (by omega))
     clear hrn
     go_wp2_with fail
     refine HM.out.mono ?_
     rintro r w3 ⟨t,A3,c3,rfl, -, -,hb3⟩
     have HB3:=qa ((zz HB.out hb3 hsz).alloc (by have:=hb3.size;omega) (.cells #[.int .i64 (b:Int),.slice none 0 0,.slice A3 b c3] 110))
     clear hb3
     go_wp2_with fail
     go_ret
     exact⟨yc HVV.out,HB3.out⟩
theorem sgcode_no{w:World}{L:List Vl}{kd bl ro:Int}{ds:List Int}{A B:Option Addr}{c d:Nat}(h:CIn w L kd bl ro ds A B c d)(hm:¬qjo L ⟨kd,bl,ro,ds⟩)(bits:Int) :
  Calls Tryz.prog 50 #[.slice A L.length c,.agg #[.int .i64 kd,.int .i64 bl,.int .i64 ro,.slice B ds.length d],.int .i64 bits] w fun r w'=>r= .returned (.tuple #[.slice none 0 0,.int .i64 1])∧Below w.heap.size w w':=by
 obtain⟨w1,hw1⟩:∃w1,w.alloc (.cells #[.int .i64 kd,.int .i64 bl,.int .i64 ro,.slice B ds.length d] 60)=w1:=⟨_,rfl⟩
 have B1:Hid (Below w.heap.size w w1):=by unfold Hid;rw[←hw1];exact(Below.refl _ w).alloc (qc _) _
 have hbx:j8 w1 w.heap.size 60 #[.int .i64 kd,.int .i64 bl,.int .i64 ro,.slice B ds.length d]:=by rw[←hw1];exact j8.new w _ _
 have b0:w1.cell? ⟨w.heap.size,0,none⟩=some (.int .i64 kd):=hbx.cell 0
 have b1:w1.cell? ⟨w.heap.size,1,none⟩=some (.int .i64 bl):=hbx.cell 1
 have b2:w1.cell? ⟨w.heap.size,2,none⟩=some (.int .i64 ro):=hbx.cell 2
 have b3:w1.cell? ⟨w.heap.size,3,none⟩=some (.slice B ds.length d):=hbx.cell 3
 have HC:=qa (code_no (h.on B1.out) hm)
 clear h hm hbx
 go_enter Tryz.func50,Tryz.ntmps50
 go_wp2_with fail
 try rw[hw1]
 clear hw1
 go_wp2_with fail
 refine HC.out.mono ?_
 rintro r w2 ⟨rfl,hb2⟩
 have B2:Hid (Below w.heap.size w w2):=B1.out.trans (hb2.mono B1.out.size)
 clear hb2 HC
 go_wp2_with fail
 go_ret2
 exact⟨rfl,B2.out⟩
theorem sgcode_yes{w:World}{L:List Vl}{kd bl ro:Int}{ds:List Int}{A B:Option Addr}{c d:Nat}(h:CIn w L kd bl ro ds A B c d){o:Co}(ho:o=⟨kd,bl,ro,ds⟩)(hm:qjo L o)(b:Nat)(hb:b≤65536)(hsz:(qcc (qdh (qr L))).length≤65536)(hl1:L.length≤100)(hs5:qel L≤5000)(hC:qlc (qr L) o) :
  Calls Tryz.prog 50 #[.slice A L.length c,.agg #[.int .i64 kd,.int .i64 bl,.int .i64 ro,.slice B ds.length d],.int .i64 (b:Int)] w fun r w'=>∃A' c',r= .returned (.tuple #[.slice A' (qga L o b).length c',.int .i64 0])∧w'.ownsRow w.heap.size 5 1 (.slice A' (qga L o b).length c') (qga L o b).length (bv (qga L o b))∧Below w.heap.size w w'∧
   (y9 (qr L) o=2→jz (ki (qr L) o)=true):=by
 obtain⟨w1,hw1⟩:∃w1,w.alloc (.cells #[.int .i64 kd,.int .i64 bl,.int .i64 ro,.slice B ds.length d] 60)=w1:=⟨_,rfl⟩
 have B1:Hid (Below w.heap.size w w1):=by unfold Hid;rw[←hw1];exact(Below.refl _ w).alloc (qc _) _
 have hbx:j8 w1 w.heap.size 60 #[.int .i64 kd,.int .i64 bl,.int .i64 ro,.slice B ds.length d]:=by rw[←hw1];exact j8.new w _ _
 have b0:w1.cell? ⟨w.heap.size,0,none⟩=some (.int .i64 kd):=hbx.cell 0
 have b1:w1.cell? ⟨w.heap.size,1,none⟩=some (.int .i64 bl):=hbx.cell 1
 have b2:w1.cell? ⟨w.heap.size,2,none⟩=some (.int .i64 ro):=hbx.cell 2
 have b3:w1.cell? ⟨w.heap.size,3,none⟩=some (.slice B ds.length d):=hbx.cell 3
 have hl4:=hm.1.1
 have HLN:Hid ((y9 (qr L) o=2→jz (ki (qr L) o)=true)→(qf6 L o).length≤1000000):=fun ht=>qk5 hm.1 hm.2 ht hl1 hs5
 have hs1:w1.heap.size=w.heap.size+1:=by rw[←hw1];simp
 have hci:=h.on B1.out
 have hCO:CodeC (qr L) kd bl ro ds B d o:=by
  subst ho
  exact fun {w A c} h=>hC B d h
 have HC:=qa (code_yesW hci ho hm hCO)
 have HT:Hid (∀W,Below w1.heap.size w1 W→Calls Tryz.prog 79 #[.slice A L.length c] W fun r w'=>∃A' c',r= .returned (.slice A' (qr L).length c')∧w'.ownsRow W.heap.size 9 1 (.slice A' (qr L).length c') (qr L).length (sv (qr L))∧Below W.heap.size W w'):=fun W hW =>
  sgtexts_v L ((hci.row.below hW (qc _)).wide (qc _) hW.size) (by omega)
 have hts:∀s∈qr L,s.size≤100000:=fun s hs=>by
  obtain⟨v,hv,rfl⟩:=qfs hs
  have:=(hm.1.2 v hv).1
  omega
 have htl:(qr L).length≤5000:=zc (qfl L) (by omega)
 have HMK:Hid (∀W A' c',Rd W 0 W.heap.size A' c' (sv (qr L))→Calls Tryz.prog 77 #[.slice A' (qr L).length c',.int .i64 (b:Int)] W fun r w'=>∃v,r= .returned (.tuple #[v,.int .i64 0])∧(∃gs rs A3 n3 c3 A4 n4 c4,v= .agg #[.int .i64 (b:Int),.slice A3 n3 c3,.slice A4 n4 c4]∧Flt w' 0 w'.heap.size v b gs rs∧FilG b gs rs∧xg b gs rs=qnb (qr L) b)∧Below W.heap.size W w'):=fun W A' c' hr=>by
  by_cases hb0:b=0
  ·
   subst hb0
   refine(gmake_zero (qr L) hr hts htl hsz).mono ?_
   rintro r w' ⟨t,A3,c3,rfl,hri,hown,hb⟩
   refine⟨_,rfl,⟨t,[],A3,t.length,c3,none,0,0,rfl,⟨A3,c3,none,0,rfl,(Rd.of_own hown).wide (qj _) (qc _),Rd.nil _ _ _⟩,FilG.list hri hsz,?_⟩,hb⟩
   rw[qnb,if_pos rfl,qi4 hri]
  ·
   refine(qkb (qr L) hr hts htl b (by omega) hb).mono ?_
   rintro r w' ⟨t,A3,c3,rfl,hri,hown,hbb⟩
   have hlen:=qdy b t
   refine⟨_,rfl,⟨[],qfu b t,none,0,0,A3,b,c3,rfl,⟨none,0,A3,c3,by rw[hlen];rfl,Rd.nil _ _ _,(Rd.of_own hown).wide (qj _) (qc _)⟩,FilG.set t hb,?_⟩,hbb⟩
   rw[qnb,if_neg hb0,qi4 hri]
 obtain⟨CL,hCL⟩:∃CL,qf6 L o=CL:=⟨_,rfl⟩
 obtain⟨FB,hFB⟩:∃FB,qnb (qr L) b=FB:=⟨_,rfl⟩
 obtain⟨RES,hRES⟩:∃RES,qga L o b=RES:=⟨_,rfl⟩
 have HRES:Hid (RES=FB++CL):=by unfold Hid;rw[←hRES,←hCL,←hFB];rfl
 rw[hCL] at HC HLN
 rw[hFB] at HMK
 rw[hRES]
 obtain⟨cl,hcl⟩:∃cl,CL.length=cl:=⟨_,rfl⟩
 rw[hcl] at HC HLN
 generalize y9 (qr L) o=kk at *
 generalize ki (qr L) o=tt at *
 generalize qr L=S at *
 clear h hbx hci hCO hC hm ho hsz hCL hFB hRES hts
 go_enter Tryz.func50,Tryz.ntmps50
 go_wp2_with fail
 try rw[hw1]
 clear hw1
 go_wp2_with fail
 refine HC.out.mono ?_
 rintro r w2 ⟨A2,c2,rfl,ho2,hb2,hrt⟩
 have HRT:=qa hrt
 have hL:=HLN.out hrt
 have B2:Hid (Below w.heap.size w w2):=B1.out.trans (hb2.mono B1.out.size)
 have HR2:=qa (Rd.of_own ho2)
 have HT2:=qa (HT.out w2 hb2)
 have hs2:=hb2.size
 clear ho2 hb2 HC HT hrt b0 b1 b2 b3
 go_wp2_with fail
 refine HT2.out.mono ?_
 rintro r w3 ⟨A3,c3,rfl,ho3,hb3⟩
 have B3:Hid (Below w.heap.size w w3):=B2.out.trans (hb3.mono B2.out.size)
 have HR3:=qa (HR2.out.below hb3 (qc _))
 have HM3:=qa (HMK.out w3 A3 c3 ((Rd.of_own ho3).wide (qj _) (qc _)))
 have hs3:=hb3.size
 clear ho3 hb3 HT2 HR2 HMK
 go_wp2_with fail
 refine HM3.out.mono ?_
 rintro r w4 ⟨v,rfl,⟨gs,rs,A4,n4,c4,A5,n5,c5,rfl,hfl,hfg,hwr⟩,hb4⟩
 have B4:Hid (Below w.heap.size w w4):=B3.out.trans (hb4.mono B3.out.size)
 have HR4:=qa (HR3.out.below hb4 (by omega))
 have hs4:=hb4.size
 obtain⟨w5,hw5⟩:∃w5,w4.alloc (.cells #[.int .i64 (b:Int),.slice A4 n4 c4,.slice A5 n5 c5] 110)=w5:=⟨_,rfl⟩
 have B45:Below w4.heap.size w4 w5:=by rw[←hw5];exact(Below.refl _ w4).alloc (qc _) _
 have B5:Hid (Below w.heap.size w w5):=B4.out.trans (B45.mono B4.out.size)
 have hk5:j8 w5 w4.heap.size 110 #[.int .i64 (b:Int),.slice A4 n4 c4,.slice A5 n5 c5]:=by rw[←hw5];exact j8.new w4 _ _
 have q0:w5.cell? ⟨w4.heap.size,0,none⟩=some (.int .i64 (b:Int)):=hk5.cell 0
 have q1:w5.cell? ⟨w4.heap.size,1,none⟩=some (.slice A4 n4 c4):=hk5.cell 1
 have q2:w5.cell? ⟨w4.heap.size,2,none⟩=some (.slice A5 n5 c5):=hk5.cell 2
 have hfl5:Flt w5 0 w4.heap.size (.agg #[.int .i64 (b:Int),.slice A4 n4 c4,.slice A5 n5 c5]) b gs rs:=by
  obtain⟨x1,x2,x3,x4,e,x5,x6⟩:=hfl
  exact⟨x1,x2,x3,x4,e,x5.below B45 (qc _),x6.below B45 (qc _)⟩
 have HR5:=qa (HR4.out.below B45 (by omega))
 have HW:=qa (gwrite_any hfl5 B45.size hfg)
 rw[hwr] at HW
 have hFL:FB.length≤100000000:=by
  have h1:=hfg.few
  have h2:=hfg.rows
  have h3:=hfg.le
  rw[←hwr]
  unfold xg
  split
  ·
   rw[qd]
   have h5:=qe5 b (by omega)
   have h6:=qeu rs (by omega)
   omega
  ·
   rw[qd]
   have h5:=qe5 0 (by omega)
   have h6:=write_most (qem hfg.up hfg.lt) (by rw[jl];omega)
   omega
 have hs5:=B45.size
 clear hfl hfl5 hfg hwr hk5 B45 HR4 hb4 HM3
 go_wp2_with fail
 try rw[hw5]
 clear hw5
 go_wp2_with fail
 refine HW.out.mono ?_
 rintro r w6 ⟨A6,c6,rfl,ho6,hb6⟩
 have B6:Hid (Below w.heap.size w w6):=B5.out.trans (hb6.mono B5.out.size)
 have hs6:=hb6.size
 have hr6:=HR5.out.below hb6 (by omega)
 obtain⟨A7,c7,w7,hrun,ho7,hg7⟩:=xm w6 w5.heap.size (.slice A6 FB.length c6) FB CL RES HRES.out.symm ho6 hr6 (by rw[hcl];omega) hs6
 rw[hcl] at hrun
 have B7:Hid (Below w.heap.size w w7):=B6.out.grown hg7 (by have:=B6.out.size;omega) (fun q hq=>by have:=(zk ho6 hq).1;have:=B5.out.size;omega)
 have HO7:=qa (j9 ho7 B5.out.size)
 clear ho6 hb6 hr6 ho7 hg7 HR5 HW
 generalize FB.length=fl2 at *
 go_wp2_with (at_builtin;refine wpList_append_run rfl _ _ _ _ rfl rfl rfl hrun ?_)
 go_ret2
 exact⟨A7,c7,rfl,HO7.out,B7.out,HRT.out⟩
theorem xor_cdiv{s:BitVec 32}(h:bn s%2=1):bits .xor .u32 (bn s/2) 3988292384=bn (qfg s):=by
 have hs:=s.isLt
 unfold bn at *
 rw[show((s.toNat:Int)/2)=((s.toNat/2:Nat):Int) from by omega,show(3988292384:Int)=((3988292384:Nat):Int) from rfl,u32_xor_nat _ _ (by omega) (by omega),cstep_odd (by omega)]
theorem crcB_cells(s:BitVec 32):bv (qf9 s)=[.int .u8 (bn s%256),.int .u8 (bn s/256%256),.int .u8 (bn s/65536%256),.int .u8 (bn s/16777216)]:=by
 have h:=congrArg (List.map fun n=>Value.int .u8 n) (crcB_nums s)
 rw[uk] at h
 exact h
end Go.Proofs.YtjfecojdagmacaaGreat
