/-
  Lemmas.
-/
import Derived.Test.YtnjkipnklpkaoaaGreatA20
namespace Go.Proofs.YtnjkipnklpkaoaaGreat
open Go.RowKit
set_option maxRecDepth 20000
set_option maxHeartbeats 16000000
set_option linter.unusedSimpArgs false
set_option linter.unusedVariables false
noncomputable def qn7 (S:List ByteArray):List Nat:=Classical.epsilon (Rise (qb6 (qcl S)))
theorem qia{S:List ByteArray}{t:List Nat}(h:Rise (qb6 (qcl S)) t):qn7 S=t:=(Classical.epsilon_spec (p:=Rise (qb6 (qcl S))) ⟨t,h⟩).one h
noncomputable def qla (S:List ByteArray)(b:Nat):List UInt8:=if b=0 then y7 0 (qn7 S) [] else y7 b [] (qdx b (qn7 S))
noncomputable def qj0 (L:List Vl)(o:Co)(b:Nat):List UInt8:=qla (qw L) b++qeh L o
def qdj(os:List Co)(k:Nat):Co:=os.getD k ⟨0,0,0,[]⟩
theorem qpo{os:List Co}{k:Nat}(h:k<os.length):qdj os k=os[k]:=by simp[qdj,qe h]
noncomputable def qbc (g:List (List Vl))(os:List Co)(b k:Nat):List UInt8:=((List.range k).map fun j=>qj0 (vg g j) (qdj os j) b).flatten
theorem qin(g:List (List Vl))(os:List Co)(b k:Nat):qbc g os b (k+1)=qbc g os b k++qj0 (vg g k) (qdj os k) b:=by
 simp[qbc,List.range_succ]
noncomputable def qqj (os:List Co)(b:Nat)(g:List (List Vl)):List UInt8:=jo g.length++qbc g os b os.length
noncomputable def qb4 (os:List Co)(b:Nat)(gs:List (List (List Vl))):List UInt8:=(gs.map (qqj os b)).flatten
theorem qkl{os:List Co}{b:Nat}{gs:List (List (List Vl))}{i:Nat}(hi:i<gs.length):qb4 os b (gs.take (i+1))=qb4 os b (gs.take i)++qqj os b gs[i]:=by
 unfold qb4
 rw[qg hi,jg,qdb]
 simp
noncomputable def qgh (os:List Co)(b:Nat)(gs:List (List (List Vl))):List UInt8:=jo os.length++jo gs.length++qb4 os b gs
theorem qew(n:Nat)(h:n≤9223372036854775807):(jo n).length≤9:=qi0 8 n (by omega)
theorem write_most{zs:List Int}(h:qpw zs)(hl:zs.length≤100000):(jq zs).length≤500000:=by
 have hw:wide zs≤32:=wide_le zs 32 (by omega) fun z hz=>by
  have:=h z hz
  omega
 have h1:zs.length*wide zs≤zs.length*32:=qc9 _ hw
 have h2:=qew zs.length (by omega)
 rw[jq,qd,qd,qcu,ud]
 simp only[jd]
 omega
theorem qm0{S:List ByteArray}{b:Nat}{t:List Nat}(ht:Rise (qb6 (qcl S)) t)(hn:(qb6 (qcl S)).length≤100000)(hb:b≤65536):(qla S b).length≤1000000:=by
 unfold qla
 rw[qia ht]
 have hl:=ht.len
 split
 ·
  rw[y7,if_neg (by omega),qd]
  have h1:=qew 0 (by omega)
  have h2:=write_most (qfy ht.up fun g hg=>by
   obtain⟨s,_,hs⟩:=List.mem_flatMap.1 ((ht.mem g).1 hg)
   exact qmx hs) (by rw[ya];omega)
  omega
 ·
  rename_i h0
  rw[y7,if_pos (by omega),qd]
  have h1:=qew b (by omega)
  have h2:=qfn (qdx b t) (by rw[qct];omega)
  rw[qct] at h2
  omega
theorem size_sumV{v:Vl}:∀ {r:List Vl},v∈r→v.s.size≤qgp r
 | [],h=>by cases h
 | x :: r,h=>by
  show v.s.size≤x.s.size+qgp r
  rcases jc.1 h with rfl | h
  ·
   omega
  ·
   have:=size_sumV h
   omega
theorem qon{g:List (List Vl)}{k:Nat}(h:∀r∈g,k<r.length):qgp (vg g k)≤qhu g:=by
 induction g with
 | nil=>exact qc _
 | cons r g ih =>
  have h1:=ih fun x hx=>h x (jm _ hx)
  have h2:(r.getD k ⟨true,⟨#[]⟩⟩).s.size≤qgp r:=by
   have hk:=h r jb
   rw[List.getD,qe hk]
   exact size_sumV (qj hk)
  show(r.getD k ⟨true,⟨#[]⟩⟩).s.size+qgp (vg g k)≤qgp r+qhu g
  omega
theorem allL_sum(S:List ByteArray):(qb6 (qcl S)).length≤(S.map ByteArray.size).sum:=by
 induction S with
 | nil=>simp[qb6,qcl]
 | cons s l ih =>
  have h1:(qb6 (qcl (s :: l))).length=(qad s.data.toList).length+(qb6 (qcl l)).length:=by simp[qb6,qcl]
  have h3:s.data.toList.length=s.size:=by simp
  rw[h1,qau,ym,List.sum_cons]
  omega
def PA(g p:Nat):Prop:=p≤100+g*20000000
def PB(g k p:Nat):Prop:=p≤109+g*20000000+k*2000000
theorem PA.zero{p:Nat}(h:p≤18):PA 0 p:=by unfold PA;omega
theorem PA.big{g p:Nat}(h:PA g p)(hg:g≤40):p≤900000000:=by unfold PA at h;omega
theorem PA.put{g p q r:Nat}(h:PA g p)(hq:q≤9)(hr:p+q=r):PB g 0 r:=by unfold PA at h;unfold PB;omega
theorem PB.big{g k p:Nat}(h:PB g k p)(hg:g≤40)(hk:k≤8):p≤900000000:=by unfold PB at h;omega
theorem PB.step{g k p a b q r:Nat}(h:PB g k p)(ha:a≤1000000)(hb:b≤1000000)(hq:p+a=q)(hr:q+b=r):PB g (k+1) r:=by unfold PB at *;omega
theorem PB.next{g k p:Nat}(h:PB g k p)(hk:k≤8):PA (g+1) p:=by unfold PB at h;unfold PA;omega
theorem gwrite_bits{w:World}{hi b:Nat}{v:Value}{gs:List Nat}{rs:List Bool}(h:qok w 0 hi v b gs rs)(hhi:hi≤w.heap.size)(hf:FilG b gs rs)(hb0:0<b) :
  Calls Tryz.prog 72 #[v] w fun r w'=>∃A' c',r= .returned (.slice A' (y7 b gs rs).length c')∧w'.ownsRow w.heap.size 5 1 (.slice A' (y7 b gs rs).length c') (y7 b gs rs).length (bv (y7 b gs rs))∧Below w.heap.size w w':=by
 obtain⟨A,c,B,d,rfl,h1,h2⟩:=h
 have hble:=hf.le
 have hrl:=hf.rows
 obtain⟨w1,hw1⟩:∃w1,w.alloc (.cells #[.int .i64 (b:Int),.slice A gs.length c,.slice B rs.length d] 67)=w1:=⟨_,rfl⟩
 have B1:Hid (Below w.heap.size w w1):=by unfold Hid;rw[←hw1];exact(Below.refl _ w).alloc (qc _) _
 have hk:j6 w1 w.heap.size 67 #[.int .i64 (b:Int),.slice A gs.length c,.slice B rs.length d]:=by rw[←hw1];exact j6.new w _ _
 have hs1:w1.heap.size=w.heap.size+1:=by rw[←hw1];simp
 have hgt1:w.heap.size<w1.heap.size:=by omega
 have hc0:w1.cell? ⟨w.heap.size,0,none⟩=some (.int .i64 (b:Int)):=hk.cell 0
 have HK:=qa hk
 have HPU:=qa (qgl (w:=w1) b (by omega))
 have HR2:=qa ((h2.below B1.out hhi).wide (qi _) (qc _))
 have ib0:¬(b:Int)=0:=by omega
 have ib1:((b:Int)==0)=false:=by rw[qr];exact ib0
 have ib2:((b:Int) != 0)=true:=by rw[bne,ib1];rfl
 obtain⟨V,hV⟩:∃V,jo b++xe rs=V:=⟨_,rfl⟩
 rw[show y7 b gs rs=V from (if_pos hb0).trans hV]
 have HV:=qa hV
 have HWL:Hid ((jo b).length+(xe rs).length≤10000000):=by
  have h3:=vo b (by omega)
  have h4:=qfn rs (by omega)
  unfold Hid
  omega
 have HWR:=fun(W:World) (hW:Below w1.heap.size w1 W)=>qa (bwrite_any (w:=W) rs (HR2.out.below hW (by omega)) (by have:=hW.size;omega) (by omega))
 clear h1 h2 hk hV hf hrl hs1
 generalize xe rs=wb at *
 generalize jo b=pb at *
 go_enter Tryz.func72,Tryz.ntmps72
 go_wp2_with fail
 refine HPU.out.mono ?_
 rintro r w2 ⟨A2,c2,rfl,ho2,b2⟩
 have HO2:=qa ho2
 have HK2:=qa (HK.out.below b2 hgt1)
 have hd0:w2.cell? ⟨w.heap.size,0,none⟩=some (.int .i64 (b:Int)):=HK2.out.cell 0
 have hd2:w2.cell? ⟨w.heap.size,2,none⟩=some (.slice B rs.length d):=HK2.out.cell 2
 have HWR2:=HWR w2 b2
 have B2:=qa b2
 have S2:=b2.size
 clear ho2 b2 HPU HWR
 go_wp2_with fail
 refine HWR2.out.mono ?_
 rintro r w3 ⟨A3,c3,rfl,ho3,b3⟩
 have HO3:=qa (Rd.of_own ho3)
 have HO23:=qa (js HO2.out b3 (qc _))
 have B3:=qa (qz B2.out b3 S2)
 have S3:=b3.size
 obtain⟨A4,c4,w4,hrun,ho4,hg4⟩:=j9 w3 w1.heap.size _ pb wb V HV.out HO23.out HO3.out (by have:=HWL.out;omega) B3.out.size
 have HO4:=qa ho4
 have B4:=qa (B3.out.grown hg4 B3.out.size (fun q hq=>(zk HO23.out hq).1))
 clear ho3 b3 ho4 hg4 HWR2
 go_wp2_with (at_builtin;refine wpList_append_run rfl _ _ _ _ rfl rfl rfl hrun ?_)
 go_ret
 exact⟨A4,c4,rfl,j4 HO4.out (by omega),qz B1.out B4.out (by omega)⟩
theorem gwrite_list{w:World}{hi:Nat}{v:Value}{gs:List Nat}{rs:List Bool}(h:qok w 0 hi v 0 gs rs)(hhi:hi≤w.heap.size)(hf:FilG 0 gs rs) :
  Calls Tryz.prog 72 #[v] w fun r w'=>∃A' c',r= .returned (.slice A' (y7 0 gs rs).length c')∧w'.ownsRow w.heap.size 5 1 (.slice A' (y7 0 gs rs).length c') (y7 0 gs rs).length (bv (y7 0 gs rs))∧Below w.heap.size w w':=by
 obtain⟨A,c,B,d,rfl,h1,h2⟩:=h
 rw[show((0:Nat):Int)=0 from rfl]
 have hfew:=hf.few
 have hmay:=qfy hf.up hf.lt
 obtain⟨w1,hw1⟩:∃w1,w.alloc (.cells #[.int .i64 0,.slice A gs.length c,.slice B rs.length d] 67)=w1:=⟨_,rfl⟩
 have B1:Hid (Below w.heap.size w w1):=by unfold Hid;rw[←hw1];exact(Below.refl _ w).alloc (qc _) _
 have hk:j6 w1 w.heap.size 67 #[.int .i64 0,.slice A gs.length c,.slice B rs.length d]:=by rw[←hw1];exact j6.new w _ _
 have hs1:w1.heap.size=w.heap.size+1:=by rw[←hw1];simp
 have hgt1:w.heap.size<w1.heap.size:=by omega
 have hc0:w1.cell? ⟨w.heap.size,0,none⟩=some (.int .i64 0):=hk.cell 0
 have HK:=qa hk
 have HPU:=qa (qgl (w:=w1) 0 (by omega))
 rw[show((0:Nat):Int)=0 from rfl] at HPU
 have HR1:=qa ((h1.below B1.out hhi).wide (qi _) (qc _))
 obtain⟨V,hV⟩:∃V,jo 0++jq (yp gs)=V:=⟨_,rfl⟩
 rw[show y7 0 gs rs=V from (if_neg (qaq 0)).trans hV]
 have HV:=qa hV
 have HSL:=qa (ya gs)
 have HST:=fun(W:World) (hW:Below w1.heap.size w1 W)=>qa (gsteps_any (w:=W) gs (by omega) hf.lt (HR1.out.below hW (by omega)) (by have:=hW.size;omega))
 have HPW:=fun(W:World) (A:Option Addr) (c hi:Nat) (hR:Rd W 0 hi A c (iv (yp gs))) (hh:hi≤W.heap.size)=>qa (qnv (w:=W) (yp gs) hmay hR hh (by rw[ya];omega))
 have HWL:Hid ((jo 0).length+(jq (yp gs)).length≤10000000):=by
  have h3:=vo 0 (by omega)
  have h5:=vo (yp gs).length (by rw[ya];omega)
  have h6:=hmay.wide_le
  have h7:(yp gs).length*wide (yp gs)≤65536*32:=vz (by rw[ya];exact hfew) h6
  unfold Hid
  have h8:(jq (yp gs)).length=(jo (yp gs).length).length+(((yp gs).length*wide (yp gs)+7)/8+1):=by rw[jq];simp[qcu,ud]
  omega
 rw[ya] at HPW
 clear h1 h2 hk hV hf hmay hs1
 generalize jq (yp gs)=wb at *
 generalize jo 0=pb at *
 go_enter Tryz.func72,Tryz.ntmps72
 go_wp2_with fail
 refine HPU.out.mono ?_
 rintro r w2 ⟨A2,c2,rfl,ho2,b2⟩
 have HO2:=qa ho2
 have HK2:=qa (HK.out.below b2 hgt1)
 have hd0:w2.cell? ⟨w.heap.size,0,none⟩=some (.int .i64 0):=HK2.out.cell 0
 have hd1:w2.cell? ⟨w.heap.size,1,none⟩=some (.slice A gs.length c):=HK2.out.cell 1
 have HST2:=HST w2 b2
 have B2:=qa b2
 have S2:=b2.size
 clear ho2 b2 HPU HST
 go_wp2_with fail
 refine HST2.out.mono ?_
 rintro r w3 ⟨rfl,ho3,b3⟩
 have HPW3:=HPW w3 _ _ _ ((Rd.of_own ho3).wide (qi _) (qc _)) (qc _)
 have HO23:=qa (js HO2.out b3 (qc _))
 have B3:=qa (qz B2.out b3 S2)
 have S3:=b3.size
 clear ho3 b3 HST2 HPW
 go_wp2_with fail
 refine HPW3.out.mono ?_
 rintro r w4 ⟨A4,c4,rfl,ho4,b4⟩
 have HO4:=qa (Rd.of_own ho4)
 have HO24:=qa (js HO23.out b4 (qc _))
 have B4:=qa (qz B3.out b4 B3.out.size)
 have S4:=b4.size
 obtain⟨A5,c5,w5,hrun,ho5,hg5⟩:=j9 w4 w1.heap.size _ pb wb V HV.out HO24.out HO4.out (by have:=HWL.out;omega) B4.out.size
 have HO5:=qa ho5
 have B5:=qa (B4.out.grown hg5 B4.out.size (fun q hq=>(zk HO24.out hq).1))
 clear ho4 b4 ho5 hg5 HPW3
 go_wp2_with (at_builtin;refine wpList_append_run rfl _ _ _ _ rfl rfl rfl hrun ?_)
 go_ret
 exact⟨A5,c5,rfl,j4 HO5.out (by omega),qz B1.out B5.out (by omega)⟩
theorem gwrite_any{w:World}{hi b:Nat}{v:Value}{gs:List Nat}{rs:List Bool}(h:qok w 0 hi v b gs rs)(hhi:hi≤w.heap.size)(hf:FilG b gs rs) :
  Calls Tryz.prog 72 #[v] w fun r w'=>∃A' c',r= .returned (.slice A' (y7 b gs rs).length c')∧w'.ownsRow w.heap.size 5 1 (.slice A' (y7 b gs rs).length c') (y7 b gs rs).length (bv (y7 b gs rs))∧Below w.heap.size w w':=by
 rcases jr b with rfl | hb0
 ·
  exact gwrite_list h hhi hf
 ·
  exact gwrite_bits h hhi hf hb0
theorem qf4{w w2:World}{base n m p:Nat}{A A2:Option Addr}{c c2:Nat}{xs ys zs:List UInt8}(ho:w.ownsRow base 5 1 (.slice A n c) n (bv xs))(hx:xs.length=n)(hbase:base≤w.heap.size)(hb:Below w.heap.size w w2)(ho2:w2.ownsRow w.heap.size 5 1 (.slice A2 m c2) m (bv ys))(hy:ys.length=m)(hz:xs++ys=zs)(hp:n+m=p)(hbig:p≤140737488355328) :
  ∃A' c' w',(Builtin.append_ #[26,26] 26 #[.slice A n c,.slice A2 m c2]).run Tryz.prog w2= .ok (.slice A' p c') w'∧w'.ownsRow base 5 1 (.slice A' p c') p (bv zs)∧Below base w2 w'∧w2.grownBy w' (Value.slice A n c).ownBlock∧∀q,(Value.slice A n c).ownBlock=some q→q<w.heap.size:=by
 subst hx hy hz hp
 have ho3:=js ho hb (qc _)
 have hs:=hb.size
 obtain⟨A',c',w',h1,h2,h3⟩:=j9 w2 base _ xs ys (xs++ys) rfl ho3 (Rd.of_own ho2) hbig (by omega)
 rw[qd] at h1 h2
 exact⟨A',c',w',h1,h2,(Below.refl base w2).grown h3 (by omega) (fun q hq=>(zk ho3 hq).1),h3,fun q hq=>(zk ho hq).2⟩
theorem Row.grown{w w':World}{lo hi c:Nat}{A:Option Addr}{r:List Vl}{row:Option Nat}(h:Row w lo hi A c r)(hg:w.grownBy w' row)(hB:hi≤w.heap.size)(hr:∀q,row=some q→q<lo):Row w' lo hi A c r :=
 ⟨h.els.keep fun p h1 h2=>qbk (hg.block p.block (ja h2 hB) fun e=>by have:=hr _ e.symm;omega),h.ok⟩
def qnk(l:List ByteArray)(o:Co):Prop:=∀(B:Option Addr) (d:Nat),CodeC l o.kind o.block o.rounds o.draws B d o
theorem sgright_v{w:World}{os:List Co}{A:Option Addr}{c:Nat}(h:qbu w 0 w.heap.size A c os)(bits:Int)(hd:∀o∈os,o.draws.length≤400)(hC:∀o∈os,qa3 o→qnk [] o) :
  Calls Tryz.prog 31 #[.slice A os.length c,.int .i64 bits] w fun r w'=>r= .returned (.bool (decide ((∀o∈os,qa3 o)∧0≤bits∧bits≤65536)))∧Below w.heap.size w w':=by
 obtain⟨hl,hm⟩:=h.len
 have H:Hid (∀W,Below w.heap.size w W→∀k (hk:k<os.length),∃b off A' c',A=some ⟨b,off,none⟩∧b<w.heap.size∧W.cell? ⟨b,off+k*4,none⟩=some (.int .i64 os[k].kind)∧W.cell? ⟨b,off+k*4+1,none⟩=some (.int .i64 os[k].block)∧W.cell? ⟨b,off+k*4+2,none⟩=some (.int .i64 os[k].rounds)∧W.cell? ⟨b,off+k*4+3,none⟩=some (.slice A' os[k].draws.length c')∧
   Rd W 0 W.heap.size A' c' (iv os[k].draws)):=fun W hW k hk=>by
  obtain⟨b,off,A',c',h1,_,h2,h3,h4,h5,h6,h7,h8⟩:=(h.below hW (qc _)).get hk
  exact⟨b,off,A',c',h1,h2,h3,h4,h5,h6,h7.wide (qc _) hW.size⟩
 have HWD:Hid (∀k (hk:k<os.length),qj8 os[k].draws∧os[k].draws.length≤400):=fun k hk=>by
  obtain⟨_,_,_,_,_,_,_,_,_,_,_,_,h8⟩:=h.get hk
  exact⟨h8,hd _ (qj hk)⟩
 have HCO:Hid (∀k (hk:k<os.length),qa3 os[k]→qnk [] os[k]):=fun k hk=>hC _ (qj hk)
 have HCK:Hid (∀k (hk:k<os.length),¬qa3 os[k]→¬∀o∈os,qa3 o):=fun k hk hn ha=>hn (ha _ (qj hk))
 obtain⟨V,hV⟩:∃V,decide ((∀o∈os,qa3 o)∧0≤bits∧bits≤65536)=V:=⟨_,rfl⟩
 rw[hV]
 have HVV:=qa hV
 clear h hd hC hV
 go_enter Tryz.func31,Tryz.ntmps31
 go_wp2_with fail
 go_loopw [13] (fun x13 wr=>∃k:Nat,k≤os.length∧x13= .int .i64 (k:Int)∧Hid (∀o∈os.take k,qa3 o)∧Below w.heap.size w wr) (fun x13 _=>os.length-(intOf x13).toNat)
 case atStart=>exact⟨0,qi _,rfl,(fun o ho=>by rw[y8] at ho;cases ho),Below.refl _ _⟩
 case round =>
  obtain⟨k,hk,rfl,HALL,hb⟩:=hrel
  have HB:=qa hb
  have hsz:=hb.size
  clear hb
  by_cases hlt:k<os.length
  ·
   have ik:(k:Int)<(os.length:Int):=by omega
   obtain⟨b,off,A',c',rfl,hbl,e0,e1,e2,e3,hrd⟩:=H.out wr HB.out k hlt
   have HWK:=qa (HWD.out k hlt)
   have HOK:=qa (HCO.out k hlt)
   have HNO:=qa (HCK.out k hlt)
   have HNX:Hid (qa3 os[k]→∀o∈os.take (k+1),qa3 o):=fun hc o ho=>by
    rw[qg hlt] at ho
    rcases zt.1 ho with ho | ho
    ·
     exact HALL.out o ho
    ·
     rw[zo.1 ho];exact hc
   obtain⟨o,ho⟩:∃o,os[k]=o:=⟨_,rfl⟩
   rw[ho] at e0 e1 e2 e3 hrd HWK HOK HNO HNX
   obtain⟨dl,hdl⟩:∃n,o.draws.length=n:=⟨_,rfl⟩
   rw[hdl] at e3
   obtain⟨w2,hw2⟩:∃w2,wr.alloc (.cells #[.int .i64 o.kind,.int .i64 o.block,.int .i64 o.rounds,.slice A' dl c'] 76)=w2:=⟨_,rfl⟩
   have HB2:Hid (Below w.heap.size w w2):=by unfold Hid;rw[←hw2];exact HB.out.alloc hsz _
   have B2:Below wr.heap.size wr w2:=by rw[←hw2];exact(Below.refl _ wr).alloc (qc _) _
   have hgb:j6 w2 wr.heap.size 76 #[.int .i64 o.kind,.int .i64 o.block,.int .i64 o.rounds,.slice A' dl c']:=by rw[←hw2];exact j6.new wr _ _
   have p0:w2.cell? ⟨wr.heap.size,0,none⟩=some (.int .i64 o.kind):=hgb.cell 0
   have p1:w2.cell? ⟨wr.heap.size,1,none⟩=some (.int .i64 o.block):=hgb.cell 1
   have p2:w2.cell? ⟨wr.heap.size,2,none⟩=some (.int .i64 o.rounds):=hgb.cell 2
   have p3:w2.cell? ⟨wr.heap.size,3,none⟩=some (.slice A' dl c'):=hgb.cell 3
   have hci:CIn w2 [] o.kind o.block o.rounds o.draws none A' 0 c':=⟨⟨Els.nil _ _ _ _ _,fun v hv=>by cases hv⟩,(hrd.below B2 (qc _)).wide (qc _) B2.size,HWK.out.1,HWK.out.2⟩
   have hsz2:=HB2.out.size
   by_cases hco:qa3 o
   ·
    have HM:=measure_yesW hci (o:=o) rfl ⟨fits_nil,hco⟩ (HOK.out hco A' c')
    rw[show(([]:List Vl).length)=0 from rfl,hdl] at HM
    have HM:=qa HM
    have HNK:=qa (HNX.out hco)
    generalize o.kind=z0 at *
    generalize o.block=z1 at *
    generalize o.rounds=z2 at *
    generalize (yj (qw []) o (yu (qw []) o)).length=pl at *
    clear ho hci hgb hrd B2 hco
    go_wp2_with fail
    try rw[hw2]
    clear hw2
    go_wp2_with fail
    refine HM.out.mono ?_
    rintro r w3 ⟨rfl,hb3, -, -⟩
    have HB3:=qa (qz HB2.out hb3 hsz2)
    clear hb3 HM
    go_wp2_with fail
    go_roundw
    case rel=>exact⟨k+1,by omega,by go_num,HNK.out,HB3.out⟩
    case measure=>simp[intOf];omega
   ·
    have HM:=measure_no hci (fun h=>hco h.2)
    rw[show(([]:List Vl).length)=0 from rfl,hdl] at HM
    have HM:=qa HM
    have HV:Hid (decide ((∀o∈os,qa3 o)∧0≤bits∧bits≤65536)=false):=ql fun h=>HNO.out hco h.1
    rw[HV.out] at HVV
    generalize o.kind=z0 at *
    generalize o.block=z1 at *
    generalize o.rounds=z2 at *
    clear ho hci hgb hrd B2 hco
    go_wp2_with fail
    try rw[hw2]
    clear hw2
    go_wp2_with fail
    refine HM.out.mono ?_
    rintro r w3 ⟨rfl,hb3⟩
    have HB3:=qa (qz HB2.out hb3 hsz2)
    clear hb3 HM
    go_wp2_with fail
    go_ret
    exact⟨zf HVV.out,HB3.out⟩
  ·
   have ik:¬(k:Int)<(os.length:Int):=by omega
   have HA:Hid (∀o∈os,qa3 o):=by
    have:=HALL.out
    rwa [qo (by omega)] at this
   have hrn:Rd wr 0 wr.heap.size none 0 (sv []):=Rd.nil _ _ _
   by_cases hz:bits<0∨65536<bits
   ·
    have HM:=qa (gmake_not [] hrn bits hz)
    have HV:Hid (decide ((∀o∈os,qa3 o)∧0≤bits∧bits≤65536)=false):=ql fun h=>by omega
    rw[HV.out] at HVV
    clear hrn
    go_wp2_with fail
    refine HM.out.mono ?_
    rintro r w3 ⟨rfl,hb3⟩
    have HB3:=qa ((qz HB.out hb3 hsz).alloc (by have:=hb3.size;omega) (.cells #[.int .i64 0,.slice none 0 0,.slice none 0 0] 67))
    go_wp2_with fail
    go_ret
    exact⟨zf HVV.out,HB3.out⟩
   ·
    have HV:Hid (decide ((∀o∈os,qa3 o)∧0≤bits∧bits≤65536)=true):=qp ⟨HA.out,by omega,by omega⟩
    rw[HV.out] at HVV
    by_cases hb0:bits=0
    ·
     subst hb0
     have HM:=qa (gmake_zero [] hrn (fun s hs=>by cases hs) (by simp) (by simp[qb6,qcl]))
     clear hrn
     go_wp2_with fail
     refine HM.out.mono ?_
     rintro r w3 ⟨t,A3,c3,rfl, -, -,hb3⟩
     have HB3:=qa ((qz HB.out hb3 hsz).alloc (by have:=hb3.size;omega) (.cells #[.int .i64 0,.slice A3 t.length c3,.slice none 0 0] 67))
     clear hb3
     go_wp2_with fail
     go_ret
     exact⟨zf HVV.out,HB3.out⟩
    ·
     obtain⟨b,rfl⟩:∃b:Nat,bits=(b:Int):=⟨bits.toNat,by omega⟩
     have HM:=qa (qn9 [] hrn (fun s hs=>by cases hs) (by simp) b (by omega) (by omega))
     clear hrn
     go_wp2_with fail
     refine HM.out.mono ?_
     rintro r w3 ⟨t,A3,c3,rfl, -, -,hb3⟩
     have HB3:=qa ((qz HB.out hb3 hsz).alloc (by have:=hb3.size;omega) (.cells #[.int .i64 (b:Int),.slice none 0 0,.slice A3 b c3] 67))
     clear hb3
     go_wp2_with fail
     go_ret
     exact⟨zf HVV.out,HB3.out⟩
theorem sgcode_no{w:World}{L:List Vl}{kd bl ro:Int}{ds:List Int}{A B:Option Addr}{c d:Nat}(h:CIn w L kd bl ro ds A B c d)(hm:¬qmd L ⟨kd,bl,ro,ds⟩)(bits:Int) :
  Calls Tryz.prog 33 #[.slice A L.length c,.agg #[.int .i64 kd,.int .i64 bl,.int .i64 ro,.slice B ds.length d],.int .i64 bits] w fun r w'=>r= .returned (.tuple #[.slice none 0 0,.int .i64 1])∧Below w.heap.size w w':=by
 obtain⟨w1,hw1⟩:∃w1,w.alloc (.cells #[.int .i64 kd,.int .i64 bl,.int .i64 ro,.slice B ds.length d] 76)=w1:=⟨_,rfl⟩
 have B1:Hid (Below w.heap.size w w1):=by unfold Hid;rw[←hw1];exact(Below.refl _ w).alloc (qc _) _
 have hbx:j6 w1 w.heap.size 76 #[.int .i64 kd,.int .i64 bl,.int .i64 ro,.slice B ds.length d]:=by rw[←hw1];exact j6.new w _ _
 have b0:w1.cell? ⟨w.heap.size,0,none⟩=some (.int .i64 kd):=hbx.cell 0
 have b1:w1.cell? ⟨w.heap.size,1,none⟩=some (.int .i64 bl):=hbx.cell 1
 have b2:w1.cell? ⟨w.heap.size,2,none⟩=some (.int .i64 ro):=hbx.cell 2
 have b3:w1.cell? ⟨w.heap.size,3,none⟩=some (.slice B ds.length d):=hbx.cell 3
 have HC:=qa (code_no (h.on B1.out) hm)
 clear h hm hbx
 go_enter Tryz.func33,Tryz.ntmps33
 go_wp2_with fail
 try rw[hw1]
 clear hw1
 go_wp2_with fail
 refine HC.out.mono ?_
 rintro r w2 ⟨rfl,hb2⟩
 have B2:Hid (Below w.heap.size w w2):=B1.out.trans (hb2.mono B1.out.size)
 clear hb2 HC
 go_wp2_with fail
 go_ret2
 exact⟨rfl,B2.out⟩
theorem sgcode_yes{w:World}{L:List Vl}{kd bl ro:Int}{ds:List Int}{A B:Option Addr}{c d:Nat}(h:CIn w L kd bl ro ds A B c d){o:Co}(ho:o=⟨kd,bl,ro,ds⟩)(hm:qmd L o)(b:Nat)(hb:b≤65536)(hsz:(qb6 (qcl (qw L))).length≤65536)(hl1:L.length≤100)(hs5:qgp L≤5000)(hC:qnk (qw L) o) :
  Calls Tryz.prog 33 #[.slice A L.length c,.agg #[.int .i64 kd,.int .i64 bl,.int .i64 ro,.slice B ds.length d],.int .i64 (b:Int)] w fun r w'=>∃A' c',r= .returned (.tuple #[.slice A' (qj0 L o b).length c',.int .i64 0])∧w'.ownsRow w.heap.size 5 1 (.slice A' (qj0 L o b).length c') (qj0 L o b).length (bv (qj0 L o b))∧Below w.heap.size w w'∧
   (yu (qw L) o=2→yy (uc (qw L) o)=true):=by
 obtain⟨w1,hw1⟩:∃w1,w.alloc (.cells #[.int .i64 kd,.int .i64 bl,.int .i64 ro,.slice B ds.length d] 76)=w1:=⟨_,rfl⟩
 have B1:Hid (Below w.heap.size w w1):=by unfold Hid;rw[←hw1];exact(Below.refl _ w).alloc (qc _) _
 have hbx:j6 w1 w.heap.size 76 #[.int .i64 kd,.int .i64 bl,.int .i64 ro,.slice B ds.length d]:=by rw[←hw1];exact j6.new w _ _
 have b0:w1.cell? ⟨w.heap.size,0,none⟩=some (.int .i64 kd):=hbx.cell 0
 have b1:w1.cell? ⟨w.heap.size,1,none⟩=some (.int .i64 bl):=hbx.cell 1
 have b2:w1.cell? ⟨w.heap.size,2,none⟩=some (.int .i64 ro):=hbx.cell 2
 have b3:w1.cell? ⟨w.heap.size,3,none⟩=some (.slice B ds.length d):=hbx.cell 3
 have hl4:=hm.1.1
 have HLN:Hid ((yu (qw L) o=2→yy (uc (qw L) o)=true)→(qeh L o).length≤1000000):=fun ht=>qpn hm.1 hm.2 ht hl1 hs5
 have hs1:w1.heap.size=w.heap.size+1:=by rw[←hw1];simp
 have hci:=h.on B1.out
 have hCO:CodeC (qw L) kd bl ro ds B d o:=by
  subst ho
  exact fun {w A c} h=>hC B d h
 have HC:=qa (code_yesW hci ho hm hCO)
 have HT:Hid (∀W,Below w1.heap.size w1 W→Calls Tryz.prog 48 #[.slice A L.length c] W fun r w'=>∃A' c',r= .returned (.slice A' (qw L).length c')∧w'.ownsRow W.heap.size 9 1 (.slice A' (qw L).length c') (qw L).length (sv (qw L))∧Below W.heap.size W w'):=fun W hW =>
  sgtexts_v L ((hci.row.below hW (qc _)).wide (qc _) hW.size) (by omega)
 have hts:∀s∈qw L,s.size≤100000:=fun s hs=>by
  obtain⟨v,hv,rfl⟩:=qgv hs
  have:=(hm.1.2 v hv).1
  omega
 have htl:(qw L).length≤5000:=ze (qf8 L) (by omega)
 have HMK:Hid (∀W A' c',Rd W 0 W.heap.size A' c' (sv (qw L))→Calls Tryz.prog 70 #[.slice A' (qw L).length c',.int .i64 (b:Int)] W fun r w'=>∃v,r= .returned (.tuple #[v,.int .i64 0])∧(∃gs rs A3 n3 c3 A4 n4 c4,v= .agg #[.int .i64 (b:Int),.slice A3 n3 c3,.slice A4 n4 c4]∧qok w' 0 w'.heap.size v b gs rs∧FilG b gs rs∧y7 b gs rs=qla (qw L) b)∧Below W.heap.size W w'):=fun W A' c' hr=>by
  by_cases hb0:b=0
  ·
   subst hb0
   refine(gmake_zero (qw L) hr hts htl hsz).mono ?_
   rintro r w' ⟨t,A3,c3,rfl,hri,hown,hb⟩
   refine⟨_,rfl,⟨t,[],A3,t.length,c3,none,0,0,rfl,⟨A3,c3,none,0,rfl,(Rd.of_own hown).wide (qi _) (qc _),Rd.nil _ _ _⟩,FilG.list hri hsz,?_⟩,hb⟩
   rw[qla,if_pos rfl,qia hri]
  ·
   refine(qn9 (qw L) hr hts htl b (by omega) hb).mono ?_
   rintro r w' ⟨t,A3,c3,rfl,hri,hown,hbb⟩
   have hlen:=qct b t
   refine⟨_,rfl,⟨[],qdx b t,none,0,0,A3,b,c3,rfl,⟨none,0,A3,c3,by rw[hlen];rfl,Rd.nil _ _ _,(Rd.of_own hown).wide (qi _) (qc _)⟩,FilG.set t hb,?_⟩,hbb⟩
   rw[qla,if_neg hb0,qia hri]
 obtain⟨CL,hCL⟩:∃CL,qeh L o=CL:=⟨_,rfl⟩
 obtain⟨FB,hFB⟩:∃FB,qla (qw L) b=FB:=⟨_,rfl⟩
 obtain⟨RES,hRES⟩:∃RES,qj0 L o b=RES:=⟨_,rfl⟩
 have HRES:Hid (RES=FB++CL):=by unfold Hid;rw[←hRES,←hCL,←hFB];rfl
 rw[hCL] at HC HLN
 rw[hFB] at HMK
 rw[hRES]
 obtain⟨cl,hcl⟩:∃cl,CL.length=cl:=⟨_,rfl⟩
 rw[hcl] at HC HLN
 generalize yu (qw L) o=kk at *
 generalize uc (qw L) o=tt at *
 generalize qw L=S at *
 clear h hbx hci hCO hC hm ho hsz hCL hFB hRES hts
 go_enter Tryz.func33,Tryz.ntmps33
 go_wp2_with fail
 try rw[hw1]
 clear hw1
 go_wp2_with fail
 refine HC.out.mono ?_
 rintro r w2 ⟨A2,c2,rfl,ho2,hb2,hrt⟩
 have HRT:=qa hrt
 have hL:=HLN.out hrt
 have B2:Hid (Below w.heap.size w w2):=B1.out.trans (hb2.mono B1.out.size)
 have HR2:=qa (Rd.of_own ho2)
 have HT2:=qa (HT.out w2 hb2)
 have hs2:=hb2.size
 clear ho2 hb2 HC HT hrt b0 b1 b2 b3
 go_wp2_with fail
 refine HT2.out.mono ?_
 rintro r w3 ⟨A3,c3,rfl,ho3,hb3⟩
 have B3:Hid (Below w.heap.size w w3):=B2.out.trans (hb3.mono B2.out.size)
 have HR3:=qa (HR2.out.below hb3 (qc _))
 have HM3:=qa (HMK.out w3 A3 c3 ((Rd.of_own ho3).wide (qi _) (qc _)))
 have hs3:=hb3.size
 clear ho3 hb3 HT2 HR2 HMK
 go_wp2_with fail
 refine HM3.out.mono ?_
 rintro r w4 ⟨v,rfl,⟨gs,rs,A4,n4,c4,A5,n5,c5,rfl,hfl,hfg,hwr⟩,hb4⟩
 have B4:Hid (Below w.heap.size w w4):=B3.out.trans (hb4.mono B3.out.size)
 have HR4:=qa (HR3.out.below hb4 (by omega))
 have hs4:=hb4.size
 obtain⟨w5,hw5⟩:∃w5,w4.alloc (.cells #[.int .i64 (b:Int),.slice A4 n4 c4,.slice A5 n5 c5] 67)=w5:=⟨_,rfl⟩
 have B45:Below w4.heap.size w4 w5:=by rw[←hw5];exact(Below.refl _ w4).alloc (qc _) _
 have B5:Hid (Below w.heap.size w w5):=B4.out.trans (B45.mono B4.out.size)
 have hk5:j6 w5 w4.heap.size 67 #[.int .i64 (b:Int),.slice A4 n4 c4,.slice A5 n5 c5]:=by rw[←hw5];exact j6.new w4 _ _
 have q0:w5.cell? ⟨w4.heap.size,0,none⟩=some (.int .i64 (b:Int)):=hk5.cell 0
 have q1:w5.cell? ⟨w4.heap.size,1,none⟩=some (.slice A4 n4 c4):=hk5.cell 1
 have q2:w5.cell? ⟨w4.heap.size,2,none⟩=some (.slice A5 n5 c5):=hk5.cell 2
 have hfl5:qok w5 0 w4.heap.size (.agg #[.int .i64 (b:Int),.slice A4 n4 c4,.slice A5 n5 c5]) b gs rs:=by
  obtain⟨x1,x2,x3,x4,e,x5,x6⟩:=hfl
  exact⟨x1,x2,x3,x4,e,x5.below B45 (qc _),x6.below B45 (qc _)⟩
 have HR5:=qa (HR4.out.below B45 (by omega))
 have HW:=qa (gwrite_any hfl5 B45.size hfg)
 rw[hwr] at HW
 have hFL:FB.length≤100000000:=by
  have h1:=hfg.few
  have h2:=hfg.rows
  have h3:=hfg.le
  rw[←hwr]
  unfold y7
  split
  ·
   rw[qd]
   have h5:=qew b (by omega)
   have h6:=qfn rs (by omega)
   omega
  ·
   rw[qd]
   have h5:=qew 0 (by omega)
   have h6:=write_most (qfy hfg.up hfg.lt) (by rw[ya];omega)
   omega
 have hs5:=B45.size
 clear hfl hfl5 hfg hwr hk5 B45 HR4 hb4 HM3
 go_wp2_with fail
 try rw[hw5]
 clear hw5
 go_wp2_with fail
 refine HW.out.mono ?_
 rintro r w6 ⟨A6,c6,rfl,ho6,hb6⟩
 have B6:Hid (Below w.heap.size w w6):=B5.out.trans (hb6.mono B5.out.size)
 have hs6:=hb6.size
 have hr6:=HR5.out.below hb6 (by omega)
 obtain⟨A7,c7,w7,hrun,ho7,hg7⟩:=j9 w6 w5.heap.size (.slice A6 FB.length c6) FB CL RES HRES.out.symm ho6 hr6 (by rw[hcl];omega) hs6
 rw[hcl] at hrun
 have B7:Hid (Below w.heap.size w w7):=B6.out.grown hg7 (by have:=B6.out.size;omega) (fun q hq=>by have:=(zk ho6 hq).1;have:=B5.out.size;omega)
 have HO7:=qa (j4 ho7 B5.out.size)
 clear ho6 hb6 hr6 ho7 hg7 HR5 HW
 generalize FB.length=fl2 at *
 go_wp2_with (at_builtin;refine wpList_append_run rfl _ _ _ _ rfl rfl rfl hrun ?_)
 go_ret2
 exact⟨A7,c7,rfl,HO7.out,B7.out,HRT.out⟩
end Go.Proofs.YtnjkipnklpkaoaaGreat
