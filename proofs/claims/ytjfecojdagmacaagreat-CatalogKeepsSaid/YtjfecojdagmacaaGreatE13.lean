/-
  Lemmas.
-/
import Derived.Test.YtjfecojdagmacaaGreatE12
import Derived.Shelf.LaysM
import Derived.Shelf.Strconv.Clone
namespace Go.Proofs.YtjfecojdagmacaaGreat
open Go.RowKit
set_option maxRecDepth 20000
set_option maxHeartbeats 16000000
set_option linter.unusedSimpArgs false
set_option linter.unusedVariables false
section
set_option maxRecDepth 100000
def renC:Go.Shelf.Ren:=⟨fun | 316=>219 | n=>n,fun | 0=>0 | 3=>3 | 4=>4 | 5=>5 | 9=>9 | 37=>36 | 127=>273 | n=>n,fun n=>n⟩
theorem laysC316:Go.Proofs.LaysM.n316 Tryz.prog renC:={
 mixed:=by kernel_rfl
 f316:=Tryz.func219.trans (congrArg some (by kernel_rfl))
 t0:=Tryz.underlying0
 a0:=Tryz.isAgg0
 z0:=Tryz.sizeOf0
 v0:=Tryz.zeroValue0
 t3:=Tryz.underlying3
 a3:=Tryz.isAgg3
 z3:=Tryz.sizeOf3
 v3:=Tryz.zeroValue3
 t4:=Tryz.underlying4
 a4:=Tryz.isAgg4
 z4:=Tryz.sizeOf4
 v4:=Tryz.zeroValue4
 t9:=Tryz.underlying9
 a9:=Tryz.isAgg9
 z9:=Tryz.sizeOf9
 v9:=Tryz.zeroValue9
 t37:=Tryz.underlying36
 a37:=Tryz.isAgg36
 z37:=Tryz.sizeOf36
 v37:=Tryz.zeroValue36
 t127:=Tryz.underlying273
 a127:=Tryz.isAgg273
 z127:=Tryz.sizeOf273
 v127:=Tryz.zeroValue273
 t5:=Tryz.underlying5
 a5:=Tryz.isAgg5
 z5:=Tryz.sizeOf5
 v5:=Tryz.zeroValue5
 i0:=by kernel_rfl
 i3:=by kernel_rfl
 i4:=by kernel_rfl
 i5:=by kernel_rfl
 i9:=by kernel_rfl
 i37:=by kernel_rfl
 i127:=by kernel_rfl }
theorem cloneS_any{w:World}(s:ByteArray)(hs:s.size≤281474976710656) :
  Calls Tryz.prog 201 #[.string s] w fun e w'=>e= .returned (.string s)∧Below w.heap.size w w':=by
 have h:=fun w=>Any.stringslite_Clone laysC316 s w hs
 have H:=qa h
 clear h
 go_enter Tryz.func201,Tryz.ntmps201
 go_wp2_with fail
 refine(H.out _).mono ?_
 rintro r w1 ⟨rfl,hb⟩
 go_wp2
 go_ret
 exact⟨rfl,hb⟩
end
def DcR(w:World)(d:Nat)(ys:List ByteArray):Prop:=∃A c,w.cell? ⟨d,0,none⟩=some (.slice A ys.length c)∧w.frozen? ⟨d,0,none⟩=false∧Rd w 0 w.heap.size A c (sv ys)
theorem Dc.reads{w:World}{d:Nat}{ys:List ByteArray}(h:Dc w d ys):DcR w d ys:=by
 obtain⟨A,c,h1,h2,h3⟩:=h.open_
 exact⟨A,c,h1,h2,h3.wide (qj _) (qc _)⟩
theorem flen_r{w:World}{d:Nat}{ys:List ByteArray}(h:DcR w d ys) :
  Calls Tryz.prog 198 #[.pointer (some ⟨d,0,none⟩)] w fun r w'=>r= .returned (.int .i64 (ys.length:Int))∧w=w':=by
 obtain⟨A,c,hcell,hfr,hrd⟩:=h
 clear hrd
 go_enter Tryz.func198,Tryz.ntmps198
 go_wp2
 go_ret
 exact⟨rfl,rfl⟩
theorem fat_in_r{w:World}{d:Nat}{ys:List ByteArray}(h:DcR w d ys)(k:Nat)(hk:k<ys.length)(h4:ys[k].size≤281474976710656) :
  Calls Tryz.prog 170 #[.pointer (some ⟨d,0,none⟩),.int .i64 (k:Int)] w fun r w'=>r= .returned (.string ys[k])∧Below w.heap.size w w':=by
 have HL:=qa (flen_r h)
 obtain⟨A,c,hcell,hfr,hrd⟩:=h
 have hl:=hrd.len
 have hm:=hrd.cap
 rw[xr] at hl
 unfold maxLen at hm
 obtain⟨b,off,rfl,_,_,hcell2⟩:=hrd.str hk
 have HC:=qa (fun w=>cloneS_any (w:=w) ys[k] h4)
 have i0:¬(k:Int)<0:=by omega
 have d0:decide ((k:Int)<0)=false:=qw i0
 have i1:¬(ys.length:Int)≤(k:Int):=by omega
 have d1:decide ((ys.length:Int)≤(k:Int))=false:=qw i1
 have i2:(k:Int)<(ys.length:Int):=by omega
 generalize ys[k]=s at *
 clear hrd
 go_enter Tryz.func170,Tryz.ntmps170
 go_wp2_with fail
 refine HL.out.mono ?_
 rintro r w' ⟨rfl,rfl⟩
 go_wp2_with fail
 refine(HC.out _).mono ?_
 rintro r w1 ⟨rfl,hb⟩
 go_wp2_with fail
 go_ret
 exact⟨rfl,hb⟩
theorem flen_any{w:World}{d:Nat}{ys:List ByteArray}(h:Dc w d ys) :
  Calls Tryz.prog 198 #[.pointer (some ⟨d,0,none⟩)] w fun r w'=>r= .returned (.int .i64 (ys.length:Int))∧w=w':=flen_r h.reads
theorem fat_in{w:World}{d:Nat}{ys:List ByteArray}(h:Dc w d ys)(k:Nat)(hk:k<ys.length)(h4:ys[k].size≤281474976710656) :
  Calls Tryz.prog 170 #[.pointer (some ⟨d,0,none⟩),.int .i64 (k:Int)] w fun r w'=>r= .returned (.string ys[k])∧Below w.heap.size w w':=fat_in_r h.reads k hk h4
theorem takeCodes_v{w:World}{lo g G k n0 c0 dg:Nat}{bs:List UInt8}{e:Int}(kd:Nat)(there:List Bool)(ys:List ByteArray){A0:Option Addr}{v2 v3 v5:Value}(h:xq w lo g bs k e)(hb:bs.length≤1000000000)(hgG:g<G)
  (hG:j8 w G 184 #[.int .i64 (kd:Int),.slice A0 n0 c0,v2,v3,.pointer (some ⟨dg,0,none⟩),v5]) (ht:Rd w (g+1) w.heap.size A0 c0 (lv there)) (hn0:there.length=n0) (ht4:n0≤4096) (hd:Dc w dg ys) (hyl:ys.length≤1000000) :
  Calls Tryz.prog 168 #[.pointer (some ⟨G,0,none⟩),cp g] w fun r w'=>∃A n c,r= .returned (.slice A n c)∧xq w' lo g bs (vt bs k e (cnt there) ((ys.length:Int)-1)).2.1 (vt bs k e (cnt there) ((ys.length:Int)-1)).2.2∧w.grownBy w' (some g)∧
   ((vt bs k e (cnt there) ((ys.length:Int)-1)).1.length=cnt there→n=there.length∧Rd w' w.heap.size w'.heap.size A c (yt there (iv (jf (vt bs k e (cnt there) ((ys.length:Int)-1)).1)) (.int .i64 (-1)))):=by
 have hgl:=h.lt
 have hGl:=hG.lt
 have HBX:Hid (∀W,w.grownBy W (some g)→j8 W G 184 #[.int .i64 (kd:Int),.slice A0 n0 c0,v2,v3,.pointer (some ⟨dg,0,none⟩),v5]):=fun W hW=>hG.grown hW (by intro e;injection e with e;omega)
 have HTH:Hid (∀W,w.grownBy W (some g)→Rd W 0 W.heap.size A0 c0 (lv there)):=fun W hW=>(ht.grown hW (qc _) (fun q hq=>by cases hq;exact .inl (by omega))).wide (qj _) hW.size
 have HCF:Hid (∀W,w.grownBy W (some g)→W.cell? ⟨G,1,none⟩=some (.slice A0 n0 c0)∧W.cell? ⟨G,4,none⟩=some (.pointer (some ⟨dg,0,none⟩))):=fun W hW=>⟨(HBX.out W hW).cell 1,(HBX.out W hW).cell 4⟩
 have HCT:Hid (∀W,Below w.heap.size w W→Calls Tryz.prog 191 #[.slice A0 n0 c0] W fun r w'=>r= .returned (.int .i64 (cnt there:Int))∧W=w'):=fun W hW=>by
  have:=qg8 (w:=W) there (HTH.out W (qin hW))
  rw[hn0] at this
  exact this
 have HLN:Hid (∀W,Below w.heap.size w W→Calls Tryz.prog 198 #[.pointer (some ⟨dg,0,none⟩)] W fun r w'=>r= .returned (.int .i64 (ys.length:Int))∧W=w'):=fun W hW=>flen_any (hd.below hW (qc _))
 have HTN:Hid (∀W,Below w.heap.size w W→Calls Tryz.prog 190 #[cp g,.int .i64 (cnt there:Int),.int .i64 ((ys.length:Int)-1)] W fun r w'=>∃A c,r= .returned (.slice A (vt bs k e (cnt there) ((ys.length:Int)-1)).1.length c)∧w'.ownsRow W.heap.size 3 1 (.slice A (vt bs k e (cnt there) ((ys.length:Int)-1)).1.length c) (vt bs k e (cnt there) ((ys.length:Int)-1)).1.length (iv (jf (vt bs k e (cnt there) ((ys.length:Int)-1)).1))∧
   xq w' lo g bs (vt bs k e (cnt there) ((ys.length:Int)-1)).2.1 (vt bs k e (cnt there) ((ys.length:Int)-1)).2.2∧W.grownBy w' (some g)):=fun W hW=>qjh (cnt there) ((ys.length:Int)-1) (h.behind hW hgl) (by omega)
 have hcl:=qgs there
 have hnl:=numsR_len bs k e (cnt there) ((ys.length:Int)-1)
 generalize vt bs k e (cnt there) ((ys.length:Int)-1)=S at *
 obtain⟨ns,p,e1⟩:=S
 simp only at *
 have hwr:IntKind.i64.wrap ((ys.length:Int)-1)=(ys.length:Int)-1:=xa _ (by omega)
 have KD:Hid (Below w.heap.size w w.drew):=(Below.refl _ _).drew
 have HN0:=qa hn0
 clear h hG ht hd hn0
 unfold cp at *
 go_enter Tryz.func168,Tryz.ntmps168
 go_wp2_with fail
 refine wp_region_held_drew (S:=fun w'=>w.grownBy w' (some g)) (by kernel_rfl) (gb_drew (yx _ _)) (fun hHeld => ?_)
 refine tk 0 ?_ rfl hHeld ?_ ?_
 rotate_left
 focus (intro W hSw;obtain⟨q1,q4⟩:=HCF.out W hSw;go_simp;try with_reducible rfl)
 try simp only[jt,Act.put]
 refine tk 1 ?_ rfl hHeld ?_ ?_
 rotate_left
 focus (intro W hSw;obtain⟨q1,q4⟩:=HCF.out W hSw;go_simp;try with_reducible rfl)
 try simp only[jt,Act.put]
 refine tk 2 ?_ rfl hHeld ?_ ?_
 rotate_left
 focus (intro W hSw;obtain⟨q1,q4⟩:=HCF.out W hSw;go_simp;try with_reducible rfl)
 try simp only[jt,Act.put]
 refine tk 3 ?_ rfl hHeld ?_ ?_
 rotate_left
 focus (intro W hSw;obtain⟨q1,q4⟩:=HCF.out W hSw;go_simp;try with_reducible rfl)
 try simp only[jt,Act.put]
 refine tk 4 ?_ rfl hHeld ?_ ?_
 rotate_left
 focus (intro W hSw;obtain⟨q1,q4⟩:=HCF.out W hSw;go_simp;try with_reducible rfl)
 try simp only[jt,Act.put]
 refine tk 6 ?_ rfl hHeld ?_ ?_
 rotate_left
 focus (intro W hSw;obtain⟨q1,q4⟩:=HCF.out W hSw;go_simp;try with_reducible rfl)
 try simp only[jt,Act.put]
 refine tk 7 ?_ rfl hHeld ?_ ?_
 rotate_left
 focus (intro W hSw;obtain⟨q1,q4⟩:=HCF.out W hSw;go_simp;try with_reducible rfl)
 try simp only[jt,Act.put]
 refine tk 8 ?_ rfl hHeld ?_ ?_
 rotate_left
 focus (intro W hSw;obtain⟨q1,q4⟩:=HCF.out W hSw;go_simp;try with_reducible rfl)
 try simp only[jt,Act.put]
 refine tk 9 ?_ rfl hHeld ?_ ?_
 rotate_left
 focus (intro W hSw;obtain⟨q1,q4⟩:=HCF.out W hSw;go_simp;try with_reducible rfl)
 try simp only[jt,Act.put]
 obtain⟨wd,hwd⟩:∃q,w.drew=q:=⟨_,rfl⟩
 have K_wd:Hid (Below w.heap.size w wd):=by rw[←hwd];exact KD.out
 rw[hwd] at hHeld ⊢
 have HG0:=qa hHeld
 clear KD hwd
 refine wpAnyH_ready (rs:=[5]) (by kernel_rfl) (by simp) ?_
 refine qu (o:=_) rfl (fun K hK => ?_) q5
 go_simp
 refine(HCT.out _ K_wd.out).mono ?_
 rintro r wx ⟨rfl,rfl⟩
 refine hK.out _ _ HG0.out (fun hHeld => ?_)
 clear hK K
 try simp only[jt,Act.put]
 refine wpAnyH_ready (rs:=[10]) (by kernel_rfl) (by simp) ?_
 refine qu (o:=_) rfl (fun K hK => ?_) q5
 go_simp
 refine(HLN.out _ K_wd.out).mono ?_
 rintro r wx ⟨rfl,rfl⟩
 refine hK.out _ _ HG0.out (fun hHeld => ?_)
 clear hK K
 try simp only[jt,Act.put]
 refine tk 11 ?_ rfl hHeld ?_ ?_
 rotate_left
 focus (intro W hSw;obtain⟨q1,q4⟩:=HCF.out W hSw;go_simp;try with_reducible rfl)
 try simp only[jt,Act.put]
 try rw[hwr]
 refine wpAnyH_ready (rs:=[12]) (by kernel_rfl) (by simp) ?_
 refine qu (o:=_) rfl (fun K hK => ?_) q5
 go_simp
 refine(HTN.out _ K_wd.out).mono ?_
 rintro r wy ⟨A1,c1,rfl,ho1,hc1,hg1⟩
 have HO1:=qa ho1
 have HC1:=qa hc1
 have HG1:Hid (w.grownBy wy (some g)):=HG0.out.trans hg1
 have b1:wy.cell? ⟨G,1,none⟩=some (.slice A0 n0 c0):=(HCF.out _ HG1.out).1
 clear ho1 hc1 hg1
 refine hK.out _ _ HG1.out (fun hHeld => ?_)
 clear hK K
 try simp only[jt,Act.put]
 refine tk 13 ?_ rfl hHeld ?_ ?_
 rotate_left
 focus (intro W hSw;obtain⟨q1,q4⟩:=HCF.out W hSw;go_simp;try with_reducible rfl)
 try simp only[jt,Act.put]
 refine wpAnyH_done (by kernel_rfl) ?_ _
 have hsg:=HG1.out.size
 clear HTN HCT HLN HCF
 by_cases hcn:ns.length=cnt there
 ·
  have HS:=qa (spreadI_yes (w:=wy) there (iv (jf ns)) (n:=n0) (m:=ns.length) (HTH.out wy HG1.out) ((Rd.of_own HO1.out).wide (qj _) (qc _)) HN0.out (by rw[yd,zq]) hcn (by omega) (fun v hv=>by
   obtain⟨z,_,rfl⟩:=za.1 hv
   exact⟨_,rfl⟩))
  clear hcn
  go_wp2_with fail
  refine HS.out.mono ?_
  rintro r w6 ⟨A6,c6,rfl,ho6,hb6⟩
  have HO6:=qa ho6
  have HB6:=qa hb6
  clear ho6 hb6 HS
  go_wp2_with fail
  go_ret
  exact⟨_,_,_,rfl,HC1.out.behind HB6.out HC1.out.lt,HG1.out.trans (qin HB6.out),fun _=>⟨HN0.out.symm,(Rd.of_own HO6.out).wide hsg (qc _)⟩⟩
 ·
  have HS:=qa (spreadI_no (w:=wy) there (n:=n0) (m:=ns.length) (B:=A1) (d:=c1) (v:= .int .i64 (-1)) (HTH.out wy HG1.out) HN0.out hcn)
  have HCN:=qa hcn
  clear hcn
  go_wp2_with fail
  refine HS.out.mono ?_
  rintro r w' ⟨rfl,rfl⟩
  go_wp2_with fail
  go_ret
  exact⟨_,_,_,rfl,HC1.out,HG1.out,fun h=>absurd h HCN.out⟩
def qbh(w:World)(lo G:Nat)(c:Chk):Prop :=
 ∃(A0:Option Addr) (c0:Nat) (A2:Option Addr) (n2 c2:Nat) (A3:Option Addr) (n3 c3:Nat) (d:Option Addr) (A5:Option Addr) (n5 c5:Nat),
  j8 w G 184 #[.int .i64 (c.kind:Int),.slice A0 c.there.length c0,.slice A2 n2 c2,.slice A3 n3 c3,.pointer d,.slice A5 n5 c5]∧lo≤G∧Rd w lo w.heap.size A0 c0 (lv c.there)∧
  (c.kind=1∨c.kind=2→n2=c.there.length∧∃ps,qi6 ps=c.raws∧Rd w lo w.heap.size A2 c2 (yt c.there (pv ps) (.slice none 0 0))∧qm3 w lo w.heap.size ps)∧
  (c.kind=2→n3=c.tab.length∧Rd w lo w.heap.size A3 c3 (sv (j4 c.tab)))∧
  (c.kind=3→∃(dg:Nat) (ys:List ByteArray),d=some ⟨dg,0,none⟩∧Dc w dg ys∧qt ys=c.dic∧n5=c.there.length∧Rd w lo w.heap.size A5 c5 (yt c.there (iv (jf c.codes)) (.int .i64 (-1)))∧lo≤dg)
theorem qbh.below{w w':World}{lo G:Nat}{c:Chk}(h:qbh w lo G c)(hb:Below w.heap.size w w'):qbh w' lo G c:=by
 obtain⟨A0,c0,A2,n2,c2,A3,n3,c3,d,A5,n5,c5,h1,h2,h3,h4,h5,h6⟩:=h
 have up:∀ {A:Option Addr} {c:Nat} {xs:List Value},Rd w lo w.heap.size A c xs→Rd w' lo w'.heap.size A c xs:=fun hr=>(hr.below hb (qc _)).wide (qc _) hb.size
 refine⟨A0,c0,A2,n2,c2,A3,n3,c3,d,A5,n5,c5,h1.below hb h1.lt,h2,up h3,fun hk => ?_,fun hk => ?_,fun hk => ?_⟩
 ·
  obtain⟨e1,ps,e2,e3,e4⟩:=h4 hk
  exact⟨e1,ps,e2,up e3,fun p hp=>up (e4 p hp)⟩
 ·
  obtain⟨e1,e2⟩:=h5 hk
  exact⟨e1,up e2⟩
 ·
  obtain⟨dg,ys,e1,e2,e3,e4,e5⟩:=h6 hk
  exact⟨dg,ys,e1,e2.below hb (qc _),e3,e4,up e5.1,e5.2⟩
theorem qgh{w:World}{lo g k G i:Nat}{bs:List UInt8}{e:Int}{u:Value}(h:xq w lo g bs k e)(hg:g<G):xq (w.setCell ⟨G,i,none⟩ u) lo g bs k e :=
 h.grown (row:=some G) (yr (yx _ _) (.inl rfl) u) (fun x hx=>by cases hx;exact .inr hg)
theorem qd8{w:World}{lo hi c G i:Nat}{A:Option Addr}{xs:List Value}{u:Value}(h:Rd w lo hi A c xs)(hg:G<lo∨hi≤G):Rd (w.setCell ⟨G,i,none⟩ u) lo hi A c xs:=h.setCell (p:=⟨G,i,none⟩) hg u
theorem prt_set{w:World}{lo hi G i:Nat}{ps:List Part}{u:Value}(h:qm3 w lo hi ps)(hg:G<lo∨hi≤G):qm3 (w.setCell ⟨G,i,none⟩ u) lo hi ps:=fun p hp=>qd8 (h p hp) hg
theorem dc_set{w:World}{d G i:Nat}{ys:List ByteArray}{u:Value}(h:Dc w d ys)(hg:G<d):Dc (w.setCell ⟨G,i,none⟩ u) d ys:=by
 obtain⟨A,c,hb,ho⟩:=h
 exact⟨A,c,hb.far (by show d≠G;omega) u,jw ho (fun k hk=>Below.heap_setCell _ _ _ _ (by have:=(zk ho hk).1;show k≠G;omega))⟩
theorem out_gG{w w':World}{g G:Nat}(h:w.grownBy w' (some g)):Out w w' (fun i=>i=g∨i=G):=Out.of_gb h (fun k hk=>by cases hk;exact .inl rfl)
theorem nums_full{bs:List UInt8}{k n:Nat}{e m:Int}(hk:k≤bs.length)(hn:n≤2147483647):(vt bs k e n m).2.2=0→(vt bs k e n m).1.length=n:=fun h0=>by
 by_cases he:e=0
 ·
  subst he
  obtain⟨⟨l,q,z⟩,hR⟩:∃R,vt bs k 0 n m=R:=⟨_,rfl⟩
  rw[hR] at h0 ⊢
  simp only at h0
  subst h0
  exact(qj2 hk hn hR).1
 ·
  rw[qi1 bs k _ _ he] at h0
  exact absurd h0 he
theorem raws_full{bs:List UInt8}{k:Nat}{e m:Int}{there:List Bool}{ok:List UInt8→Bool}(hk:k≤bs.length)(hn:there.length≤2147483647):(uz bs k e (cnt there) m ok).2.2=0→(uz bs k e (cnt there) m ok).1.length=cnt there:=fun h0=>by
 by_cases he:e=0
 ·
  subst he
  obtain⟨⟨l,q,z⟩,hR⟩:∃R,uz bs k 0 (cnt there) m ok=R:=⟨_,rfl⟩
  rw[hR] at h0 ⊢
  simp only at h0
  subst h0
  exact(qjx hk (by have:=qgs there;omega) hR).1
 ·
  rw[qln bs k _ _ _ he] at h0
  exact absurd h0 he
theorem getK_right{bs:List UInt8}{k:Nat}{e:Int}(hk:k≤bs.length):jz (qdd bs k e).1=true:=by
 obtain⟨⟨t,q,z⟩,hS⟩:∃S,qdd bs k e=S:=⟨_,rfl⟩
 rw[hS]
 by_cases he:e=0
 ·
  subst he
  by_cases hz:z=0
  ·
   subst hz
   exact(getK_good hk hS).1
  ·
   unfold qdd at hS
   split at hS
   ·
    rename_i h0
    rw[hS] at h0
    exact absurd h0 hz
   ·
    simp only[Prod.mk.injEq] at hS
    rw[←hS.1];rfl
 ·
  rw[getK_bad bs k he] at hS
  simp only[Prod.mk.injEq] at hS
  rw[←hS.1];rfl
theorem openR_few{bs:List UInt8}{k:Nat}{e:Int}(hk:k≤bs.length):(qaw bs k e).1.length≤4096:=by
 obtain⟨⟨t,q,z⟩,hS⟩:∃S,qaw bs k e=S:=⟨_,rfl⟩
 rw[hS]
 by_cases he:e=0
 ·
  subst he
  by_cases hz:z=0
  ·
   subst hz
   obtain⟨K,_,_,h,_⟩:=openR_good hk hS
   exact(qc1.1 h).1
  ·
   unfold qaw openK at hS
   split at hS
   ·
    split at hS
    ·
     rename_i h0
     rw[hS] at h0
     exact absurd h0 hz
    ·
     simp only[Prod.mk.injEq] at hS
     rw[←hS.1];simp
   ·
    simp only[Prod.mk.injEq] at hS
    rw[←hS.1];simp
 ·
  rw[openR_bad bs k he] at hS
  simp only[Prod.mk.injEq] at hS
  rw[←hS.1];simp
theorem take_one{w:World}{lo g G k c0 B:Nat}{bs:List UInt8}{e:Int}(there:List Bool){A0:Option Addr}(h:xq w lo g bs k e)(hb:bs.length≤1000000000)(hgB:g<B)(hBG:B≤G)
  (hG:j8 w G 184 #[.int .i64 1,.slice A0 there.length c0,.slice none 0 0,.slice none 0 0,.pointer none,.slice none 0 0]) (ht:Rd w (G+1) w.heap.size A0 c0 (lv there)) (ht4:there.length≤4096) :
  Calls Tryz.prog 129 #[.pointer (some ⟨G,0,none⟩),cp g] w fun r w'=>r= .returned (.tuple #[])∧xq w' lo g bs (kg bs k e 1 there).2.1 (kg bs k e 1 there).2.2∧Out w w' (fun i=>i=g∨i=G)∧
   ((kg bs k e 1 there).2.2=0→qbh w' B G (kg bs k e 1 there).1):=by
 have hgl:=h.lt
 have hGl:=hG.lt
 have hk:=h.le
 have hgG:g<G:=by omega
 have b0:=hG.cell 0
 simp only[zo,zf,zg] at b0
 have HTR:=qa (qmb 1 there [] 4096 (fun _=>true) h hb hgG hG (ht.wide (by omega) (qc _)) rfl ht4 (.inl ⟨rfl,rfl⟩) (fun h=>absurd h (by decide)) (by decide))
 have HTC:Hid (kg bs k e 1 there=(⟨1,there,(uz bs k e (cnt there) 4096 fun _=>true).1,[],[],[]⟩,(uz bs k e (cnt there) 4096 fun _=>true).2)):=by unfold Hid;rw[kg,if_pos rfl]
 have HLN:Hid ((uz bs k e (cnt there) 4096 fun _=>true).2.2=0→(uz bs k e (cnt there) 4096 fun _=>true).1.length=cnt there):=raws_full hk (by omega)
 rw[HTC.out]
 generalize uz bs k e (cnt there) 4096 (fun _=>true)=R at *
 obtain⟨l,q,z⟩:=R
 simp only at *
 have HG0:=qa hG
 have HTH:=qa ht
 clear h hG ht HTC
 unfold cp at *
 go_enter Tryz.func129,Tryz.ntmps129
 go_wp2_with fail
 refine HTR.out.mono ?_
 rintro r w1 ⟨A1,n1,c1,rfl,hc1,hg1,hp1⟩
 have hs1:=hg1.size
 have HC1:=qa hc1
 have HG1:=qa hg1
 have HP1:=qa hp1
 have hx:=HG0.out.grown hg1 (by intro e;injection e with e;omega)
 have HX:=qa (hx.put 2 (.slice A1 n1 c1))
 have x2:=hx.cell 2
 have f2:=hx.frozen 2
 simp only[zo,zf,zg] at x2
 have HTH1:=qa (HTH.out.grown hg1 (qc _) (fun r hr=>by cases hr;exact .inl (by omega)))
 clear hc1 hg1 hp1 hx b0 HTR
 go_wp2_with fail
 refine bodyPost_end (results_none rfl _ _ _) rfl ?_
 refine⟨rfl,qgh HC1.out hgG,(out_gG HG1.out).setCell (p:=⟨G,2,none⟩) (.inl (.inr rfl)) _,fun hz => ?_⟩
 obtain⟨hn1,ps,hps,hr,hpp⟩:=HP1.out (HLN.out hz)
 have hsz:(w1.setCell ⟨G,2,none⟩ (.slice A1 n1 c1)).heap.size=w1.heap.size:=by simp[World.setCell]
 refine⟨A0,c0,A1,n1,c1,none,0,0,none,none,0,0,by simpa using HX.out,hBG,?_,fun _=>⟨hn1,ps,hps,?_,?_⟩,fun h=>absurd h (show ¬(1:Nat)=2 by decide),fun h=>absurd h (show ¬(1:Nat)=3 by decide)⟩
 ·
  rw[hsz];exact(qd8 HTH1.out (.inl (by omega))).wide (by omega) hs1
 ·
  rw[hsz];exact(qd8 hr (.inl hGl)).wide (by omega) (qc _)
 ·
  rw[hsz];exact(prt_set hpp (.inl hGl)).wide (by omega) (qc _)
theorem take_two{w:World}{lo g G k c0 B:Nat}{bs:List UInt8}{e:Int}(there:List Bool){A0:Option Addr}(h:xq w lo g bs k e)(hb:bs.length≤1000000000)(hgB:g<B)(hBG:B≤G)
  (hG:j8 w G 184 #[.int .i64 2,.slice A0 there.length c0,.slice none 0 0,.slice none 0 0,.pointer none,.slice none 0 0]) (ht:Rd w (G+1) w.heap.size A0 c0 (lv there)) (ht4:there.length≤4096) :
  Calls Tryz.prog 129 #[.pointer (some ⟨G,0,none⟩),cp g] w fun r w'=>r= .returned (.tuple #[])∧xq w' lo g bs (kg bs k e 2 there).2.1 (kg bs k e 2 there).2.2∧Out w w' (fun i=>i=g∨i=G)∧
   ((kg bs k e 2 there).2.2=0→qbh w' B G (kg bs k e 2 there).1):=by
 have hgl:=h.lt
 have hGl:=hG.lt
 have hk:=h.le
 have hgG:g<G:=by omega
 have b0:=hG.cell 0
 simp only[zo,zf,zg] at b0
 have HSG:=qa (sget_at h hb)
 have HTC:Hid (kg bs k e 2 there=(⟨2,there,(uz bs (qdd bs k e).2.1 (qdd bs k e).2.2 (cnt there) 8192 (qdp (qdd bs k e).1)).1,(qdd bs k e).1,[],[]⟩,(uz bs (qdd bs k e).2.1 (qdd bs k e).2.2 (cnt there) 8192 (qdp (qdd bs k e).1)).2)):=by unfold Hid;rw[kg,if_neg (by decide),if_pos rfl]
 have HRT:Hid (jz (qdd bs k e).1=true):=getK_right hk
 rw[HTC.out]
 have HG0:=qa hG
 have HTH:=qa ht
 generalize qdd bs k e=S at *
 obtain⟨T,q0,e0⟩:=S
 simp only at *
 obtain⟨⟨l,q,z⟩,hN⟩:∃R,uz bs q0 e0 (cnt there) 8192 (qdp T)=R:=⟨_,rfl⟩
 rw[hN]
 simp only
 have HNR:=qa hN
 clear h hG ht HTC hN
 unfold cp at *
 go_enter Tryz.func129,Tryz.ntmps129
 go_wp2_with fail
 refine HSG.out.mono ?_
 rintro r w1 ⟨A3,c3,rfl,ho3,hc1,hg1⟩
 have hs1:=hg1.size
 have hk1:=hc1.le
 have HC1:=qa hc1
 have HG1:=qa hg1
 have HR3:=qa (Rd.of_own ho3)
 have hx:=HG0.out.grown hg1 (by intro e;injection e with e;omega)
 have x3:=hx.cell 3
 have f3:=hx.frozen 3
 simp only[zo,zf,zg] at x3
 obtain⟨w2,hw2⟩:∃w2,w1.setCell ⟨G,3,none⟩ (.slice A3 T.length c3)=w2:=⟨_,rfl⟩
 have hx2:j8 w2 G 184 #[.int .i64 2,.slice A0 there.length c0,.slice none 0 0,.slice A3 T.length c3,.pointer none,.slice none 0 0]:=by rw[←hw2];simpa using hx.put 3 (.slice A3 T.length c3)
 have hs2:w2.heap.size=w1.heap.size:=by rw[←hw2];simp[World.setCell]
 have HC2:Hid (xq w2 lo g bs q0 e0):=by unfold Hid;rw[←hw2];exact qgh HC1.out hgG
 have HTH2:Hid (Rd w2 (G+1) w2.heap.size A0 c0 (lv there)):=by unfold Hid;rw[hs2,←hw2];exact(qd8 (HTH.out.grown HG1.out (qc _) (fun r hr=>by cases hr;exact .inl (by omega))) (.inl (by omega))).wide (qc _) hs1
 have HR32:Hid (Rd w2 w.heap.size w2.heap.size A3 c3 (sv (j4 T))):=by unfold Hid;rw[hs2,←hw2];exact qd8 HR3.out (.inl hGl)
 have HO2:Hid (Out w w2 (fun i=>i=g∨i=G)):=by unfold Hid;rw[←hw2];exact(out_gG HG1.out).setCell (p:=⟨G,3,none⟩) (.inl (.inr rfl)) _
 have HTR:=qa (takeRaws_v 2 there T 8192 (qdp T) HC2.out hb hgG hx2 (HTH2.out.wide (by omega) (qc _)) rfl ht4 (.inr ⟨rfl,rfl,HRT.out,rfl,HR32.out.wide (by omega) (qc _)⟩) (by decide))
 have HLN:Hid ((uz bs q0 e0 (cnt there) 8192 (qdp T)).2.2=0→(uz bs q0 e0 (cnt there) 8192 (qdp T)).1.length=cnt there):=raws_full hk1 (by omega)
 rw[HNR.out] at HTR HLN
 have HG2:=qa hx2
 have y2:=hx2.cell 2
 have h2:=hx2.frozen 2
 have y0:=hx2.cell 0
 simp only[zo,zf,zg] at y2 y0
 simp only at HTR HLN
 have hs12:w1.heap.size≤w2.heap.size:=by omega
 clear hx hx2 ho3 hc1 hg1 HC1 HTH HR3 HG0 b0 HSG hs2
 unfold cp at *
 go_wp2_with fail
 refine HTR.out.mono ?_
 rintro r w3 ⟨A1,n1,c1,rfl,hc3,hg3,hp3⟩
 have hs3:=hg3.size
 have HC3:=qa hc3
 have HG3:=qa hg3
 have HP3:=qa hp3
 have hx:=HG2.out.grown hg3 (by intro e;injection e with e;omega)
 have HX:=qa (hx.put 2 (.slice A1 n1 c1))
 have z2:=hx.cell 2
 have zf2:=hx.frozen 2
 simp only[zo,zf,zg] at z2
 have HTH3:=qa (HTH2.out.grown hg3 (qc _) (fun r hr=>by cases hr;exact .inl (by omega)))
 have HR33:=qa (HR32.out.grown hg3 (qc _) (fun r hr=>by cases hr;exact .inl hgl))
 clear hc3 hg3 hp3 hx HTR hw2 x3 f3 y2 h2 y0
 go_wp2_with fail
 refine bodyPost_end (results_none rfl _ _ _) rfl ?_
 refine⟨rfl,qgh HC3.out hgG,(HO2.out.trans (Out.of_gb (X:=fun i=>i=g∨i=G) HG3.out (fun k hk=>by cases hk;exact .inl rfl)) (fun i _ h=>h)).setCell (p:=⟨G,2,none⟩) (.inl (.inr rfl)) _,fun hz => ?_⟩
 obtain⟨hn1,ps,hps,hr,hpp⟩:=HP3.out (HLN.out hz)
 have hsz:(w3.setCell ⟨G,2,none⟩ (.slice A1 n1 c1)).heap.size=w3.heap.size:=by simp[World.setCell]
 refine⟨A0,c0,A1,n1,c1,A3,T.length,c3,none,none,0,0,by simpa using HX.out,hBG,?_,fun _=>⟨hn1,ps,hps,?_,?_⟩,fun _=>⟨rfl,?_⟩,fun h=>absurd h (show ¬(2:Nat)=3 by decide)⟩
 ·
  rw[hsz];exact(qd8 HTH3.out (.inl (by omega))).wide (by omega) hs3
 ·
  rw[hsz];exact(qd8 hr (.inl (by omega))).wide (by omega) (qc _)
 ·
  rw[hsz];exact(prt_set hpp (.inl (by omega))).wide (by omega) (qc _)
 ·
  rw[hsz];exact(qd8 HR33.out (.inl hGl)).wide (by omega) hs3
theorem take_three{w:World}{lo g G k c0 B:Nat}{bs:List UInt8}{e:Int}(there:List Bool){A0:Option Addr}(h:xq w lo g bs k e)(hb:bs.length≤1000000000)(hgB:g<B)(hBG:B≤G)
  (hG:j8 w G 184 #[.int .i64 3,.slice A0 there.length c0,.slice none 0 0,.slice none 0 0,.pointer none,.slice none 0 0]) (ht:Rd w (G+1) w.heap.size A0 c0 (lv there)) (ht4:there.length≤4096) :
  Calls Tryz.prog 129 #[.pointer (some ⟨G,0,none⟩),cp g] w fun r w'=>r= .returned (.tuple #[])∧xq w' lo g bs (kg bs k e 3 there).2.1 (kg bs k e 3 there).2.2∧Out w w' (fun i=>i=g∨i=G)∧
   ((kg bs k e 3 there).2.2=0→qbh w' B G (kg bs k e 3 there).1):=by
 have hgl:=h.lt
 have hGl:=hG.lt
 have hk:=h.le
 have hgG:g<G:=by omega
 have b0:=hG.cell 0
 simp only[zo,zf,zg] at b0
 have HOP:=qa (fopen_any h (by omega))
 have HTC:Hid (kg bs k e 3 there=(⟨3,there,[],[],(qaw bs k e).1,(vt bs (qaw bs k e).2.1 (qaw bs k e).2.2 (cnt there) (((qaw bs k e).1.length:Int)-1)).1⟩,(vt bs (qaw bs k e).2.1 (qaw bs k e).2.2 (cnt there) (((qaw bs k e).1.length:Int)-1)).2)):=by unfold Hid;rw[kg,if_neg (by decide),if_neg (by decide),if_pos rfl]
 have HDL:Hid ((qaw bs k e).1.length≤4096):=openR_few hk
 rw[HTC.out]
 have HG0:=qa hG
 have HTH:=qa ht
 generalize qaw bs k e=S at *
 obtain⟨D,q0,e0⟩:=S
 simp only at *
 obtain⟨⟨l,q,z⟩,hN⟩:∃R,vt bs q0 e0 (cnt there) ((D.length:Int)-1)=R:=⟨_,rfl⟩
 rw[hN]
 simp only
 have HNR:=qa hN
 clear h hG ht HTC hN
 unfold cp at *
 go_enter Tryz.func129,Tryz.ntmps129
 go_wp2_with fail
 refine HOP.out.mono ?_
 rintro r w1 ⟨dg,ys,rfl,hys,hdc,hdg,hc1,hg1⟩
 have hyl:ys.length=D.length:=by rw[←hys,zb]
 have HYL:=qa hyl
 have HYS:=qa hys
 have hyl4:ys.length≤4096:=by rw[hyl];exact HDL.out
 have hs1:=hg1.size
 have hk1:=hc1.le
 have HC1:=qa hc1
 have HG1:=qa hg1
 have hx:=HG0.out.grown hg1 (by intro e;injection e with e;omega)
 have x4:=hx.cell 4
 have f4:=hx.frozen 4
 simp only[zo,zf,zg] at x4
 obtain⟨w2,hw2⟩:∃w2,w1.setCell ⟨G,4,none⟩ (.pointer (some ⟨dg,0,none⟩))=w2:=⟨_,rfl⟩
 have hx2:j8 w2 G 184 #[.int .i64 3,.slice A0 there.length c0,.slice none 0 0,.slice none 0 0,.pointer (some ⟨dg,0,none⟩),.slice none 0 0]:=by rw[←hw2];simpa using hx.put 4 (.pointer (some ⟨dg,0,none⟩))
 have hs2:w2.heap.size=w1.heap.size:=by rw[←hw2];simp[World.setCell]
 have HC2:Hid (xq w2 lo g bs q0 e0):=by unfold Hid;rw[←hw2];exact qgh HC1.out hgG
 have HTH2:Hid (Rd w2 (G+1) w2.heap.size A0 c0 (lv there)):=by unfold Hid;rw[hs2,←hw2];exact(qd8 (HTH.out.grown HG1.out (qc _) (fun r hr=>by cases hr;exact .inl (by omega))) (.inl (by omega))).wide (qc _) hs1
 have HD2:Hid (Dc w2 dg ys):=by unfold Hid;rw[←hw2];exact dc_set hdc (by omega)
 have HO2:Hid (Out w w2 (fun i=>i=g∨i=G)):=by unfold Hid;rw[←hw2];exact(out_gG HG1.out).setCell (p:=⟨G,4,none⟩) (.inl (.inr rfl)) _
 have HTR:=qa (takeCodes_v 3 there ys HC2.out hb hgG hx2 (HTH2.out.wide (by omega) (qc _)) rfl ht4 HD2.out (by omega))
 have HLN:Hid ((vt bs q0 e0 (cnt there) ((ys.length:Int)-1)).2.2=0→(vt bs q0 e0 (cnt there) ((ys.length:Int)-1)).1.length=cnt there):=nums_full hk1 (by have:=qgs there;omega)
 rw[hyl,HNR.out] at HTR HLN
 have HG2:=qa hx2
 have y0:=hx2.cell 0
 simp only[zo,zf,zg] at y0
 simp only at HTR HLN
 have hs12:w1.heap.size≤w2.heap.size:=by omega
 have hdgG:G<dg:=by omega
 clear hx hx2 hdc hc1 hg1 HC1 HTH HG0 b0 HOP hs2 hyl hys
 unfold cp at *
 go_wp2_with fail
 refine HTR.out.mono ?_
 rintro r w3 ⟨A1,n1,c1,rfl,hc3,hg3,hp3⟩
 have hs3:=hg3.size
 have HC3:=qa hc3
 have HG3:=qa hg3
 have HP3:=qa hp3
 have hx:=HG2.out.grown hg3 (by intro e;injection e with e;omega)
 have HX:=qa (hx.put 5 (.slice A1 n1 c1))
 have z5:=hx.cell 5
 have zf5:=hx.frozen 5
 simp only[zo,zf,zg] at z5
 have HTH3:=qa (HTH2.out.grown hg3 (qc _) (fun r hr=>by cases hr;exact .inl (by omega)))
 have HD3:=qa (HD2.out.cur hg3 (by omega))
 clear hc3 hg3 hp3 hx HTR hw2 x4 f4 y0
 go_wp2_with fail
 refine bodyPost_end (results_none rfl _ _ _) rfl ?_
 refine⟨rfl,qgh HC3.out hgG,(HO2.out.trans (Out.of_gb (X:=fun i=>i=g∨i=G) HG3.out (fun k hk=>by cases hk;exact .inl rfl)) (fun i _ h=>h)).setCell (p:=⟨G,5,none⟩) (.inl (.inr rfl)) _,fun hz => ?_⟩
 obtain⟨hn1,hr⟩:=HP3.out (HLN.out hz)
 have hsz:(w3.setCell ⟨G,5,none⟩ (.slice A1 n1 c1)).heap.size=w3.heap.size:=by simp[World.setCell]
 refine⟨A0,c0,none,0,0,none,0,0,some ⟨dg,0,none⟩,A1,n1,c1,by simpa using HX.out,hBG,?_,fun h=>absurd h (show ¬((3:Nat)=1∨(3:Nat)=2) by decide),fun h=>absurd h (show ¬(3:Nat)=2 by decide),fun _=>⟨dg,ys,rfl,dc_set HD3.out hdgG,HYS.out,hn1,?_,by omega⟩⟩
 ·
  rw[hsz];exact(qd8 HTH3.out (.inl (by omega))).wide (by omega) hs3
 ·
  rw[hsz];exact(qd8 hr (.inl (by omega))).wide (by omega) (qc _)
theorem take_other{w:World}{lo g G k c0 B:Nat}{bs:List UInt8}{e:Int}(kd:Nat)(h1:kd≠1)(h2:kd≠2)(h3:kd≠3)(there:List Bool){A0:Option Addr}(h:xq w lo g bs k e)(hb:bs.length≤1000000000)(hgB:g<B)(hBG:B≤G)
  (hG:j8 w G 184 #[.int .i64 (kd:Int),.slice A0 there.length c0,.slice none 0 0,.slice none 0 0,.pointer none,.slice none 0 0]) (ht:Rd w (G+1) w.heap.size A0 c0 (lv there)) (ht4:there.length≤4096) :
  Calls Tryz.prog 129 #[.pointer (some ⟨G,0,none⟩),cp g] w fun r w'=>r= .returned (.tuple #[])∧xq w' lo g bs (kg bs k e kd there).2.1 (kg bs k e kd there).2.2∧Out w w' (fun i=>i=g∨i=G):=by
 have hgl:=h.lt
 have hGl:=hG.lt
 have hk:=h.le
 have hgG:g<G:=by omega
 have b0:=hG.cell 0
 simp only[zo,zf,zg] at b0
 have e1:kg bs k e kd there=(⟨kd,there,[],[],[],[]⟩,k,e):=by rw[kg,if_neg h1,if_neg h2,if_neg h3]
 rw[e1]
 have i1:((kd:Int)==1)=false:=by rw[q9];omega
 have i2:((kd:Int)==2)=false:=by rw[q9];omega
 have i3:((kd:Int)==3)=false:=by rw[q9];omega
 have j1:¬(kd:Int)=1:=by omega
 have j2:¬(kd:Int)=2:=by omega
 have j3:¬(kd:Int)=3:=by omega
 have HC:=qa h
 clear h hG ht e1 h1 h2 h3
 unfold cp at *
 go_enter Tryz.func129,Tryz.ntmps129
 go_wp2_with fail
 refine bodyPost_end (results_none rfl _ _ _) rfl ?_
 exact⟨rfl,HC.out,Out.refl _ _⟩
end Go.Proofs.YtjfecojdagmacaaGreat
