/-
  Lemmas.
-/
import Derived.Test.YtjfecojdagmacaaGreatE24
namespace Go.Proofs.YtjfecojdagmacaaGreat
open Go.RowKit
set_option maxRecDepth 20000
set_option maxHeartbeats 16000000
set_option linter.unusedSimpArgs false
set_option linter.unusedVariables false
noncomputable def qj9 (S:List ByteArray):List Nat:=Classical.epsilon (Rise (qcc (qdh S)))
theorem qi4{S:List ByteArray}{t:List Nat}(h:Rise (qcc (qdh S)) t):qj9 S=t:=(Classical.epsilon_spec (p:=Rise (qcc (qdh S))) ⟨t,h⟩).one h
noncomputable def qnb (S:List ByteArray)(b:Nat):List UInt8:=if b=0 then xg 0 (qj9 S) [] else xg b [] (qfu b (qj9 S))
noncomputable def qga (L:List Vl)(o:Co)(b:Nat):List UInt8:=qnb (qr L) b++qf6 L o
def qc5(os:List Co)(k:Nat):Co:=os.getD k ⟨0,0,0,[]⟩
theorem coAt_is{os:List Co}{k:Nat}(h:k<os.length):qc5 os k=os[k]:=by simp[qc5,qe h]
noncomputable def qb6 (g:List (List Vl))(os:List Co)(b k:Nat):List UInt8:=((List.range k).map fun j=>qga (ko g j) (qc5 os j) b).flatten
theorem qhm(g:List (List Vl))(os:List Co)(b k:Nat):qb6 g os b (k+1)=qb6 g os b k++qga (ko g k) (qc5 os k) b:=by
 simp[qb6,List.range_succ]
noncomputable def qlw (os:List Co)(b:Nat)(g:List (List Vl)):List UInt8:=jc g.length++qb6 g os b os.length
noncomputable def qbx (os:List Co)(b:Nat)(gs:List (List (List Vl))):List UInt8:=(gs.map (qlw os b)).flatten
theorem qj6{os:List Co}{b:Nat}{gs:List (List (List Vl))}{i:Nat}(hi:i<gs.length):qbx os b (gs.take (i+1))=qbx os b (gs.take i)++qlw os b gs[i]:=by
 unfold qbx
 rw[qi hi,jg,List.flatten_append]
 simp
noncomputable def qgn (os:List Co)(b:Nat)(gs:List (List (List Vl))):List UInt8:=jc os.length++jc gs.length++qbx os b gs
theorem qe5(n:Nat)(h:n≤9223372036854775807):(jc n).length≤9:=qba 8 n (by omega)
theorem write_most{zs:List Int}(h:May zs)(hl:zs.length≤100000):(jr zs).length≤500000:=by
 have hw:wide zs≤32:=wide_le zs 32 (by omega) fun z hz=>by
  have:=h z hz
  omega
 have h1:zs.length*wide zs≤zs.length*32:=qbl _ hw
 have h2:=qe5 zs.length (by omega)
 rw[jr,qd,qd,qbz,ux]
 simp only[zx]
 omega
theorem qlz{S:List ByteArray}{b:Nat}{t:List Nat}(ht:Rise (qcc (qdh S)) t)(hn:(qcc (qdh S)).length≤100000)(hb:b≤65536):(qnb S b).length≤1000000:=by
 unfold qnb
 rw[qi4 ht]
 have hl:=ht.len
 split
 ·
  rw[xg,if_neg (by omega),qd]
  have h1:=qe5 0 (by omega)
  have h2:=write_most (qem ht.up fun g hg=>by
   obtain⟨s,_,hs⟩:=List.mem_flatMap.1 ((ht.mem g).1 hg)
   exact gramsL_lt hs) (by rw[jl];omega)
  omega
 ·
  rename_i h0
  rw[xg,if_pos (by omega),qd]
  have h1:=qe5 b (by omega)
  have h2:=qeu (qfu b t) (by rw[qdy];omega)
  rw[qdy] at h2
  omega
theorem size_sumV{v:Vl}:∀ {r:List Vl},v∈r→v.s.size≤qel r
 | [],h=>by cases h
 | x :: r,h=>by
  show v.s.size≤x.s.size+qel r
  rcases zv.1 h with rfl | h
  ·
   omega
  ·
   have:=size_sumV h
   omega
theorem qko{g:List (List Vl)}{k:Nat}(h:∀r∈g,k<r.length):qel (ko g k)≤qjc g:=by
 induction g with
 | nil=>exact qc _
 | cons r g ih =>
  have h1:=ih fun x hx=>h x (jb _ hx)
  have h2:(r.getD k ⟨true,⟨#[]⟩⟩).s.size≤qel r:=by
   have hk:=h r zr
   rw[List.getD,qe hk]
   exact size_sumV (ql hk)
  show(r.getD k ⟨true,⟨#[]⟩⟩).s.size+qel (ko g k)≤qel r+qjc g
  omega
theorem allL_sum(S:List ByteArray):(qcc (qdh S)).length≤(S.map ByteArray.size).sum:=by
 induction S with
 | nil=>simp[qcc,qdh]
 | cons s l ih =>
  have h1:(qcc (qdh (s :: l))).length=(qcy s.data.toList).length+(qcc (qdh l)).length:=by simp[qcc,qdh]
  have h3:s.data.toList.length=s.size:=by simp
  rw[h1,qbi,y8,List.sum_cons]
  omega
def PA(g p:Nat):Prop:=p≤100+g*20000000
def PB(g k p:Nat):Prop:=p≤109+g*20000000+k*2000000
theorem PA.zero{p:Nat}(h:p≤18):PA 0 p:=by unfold PA;omega
theorem PA.big{g p:Nat}(h:PA g p)(hg:g≤40):p≤900000000:=by unfold PA at h;omega
theorem PA.put{g p q r:Nat}(h:PA g p)(hq:q≤9)(hr:p+q=r):PB g 0 r:=by unfold PA at h;unfold PB;omega
theorem PB.big{g k p:Nat}(h:PB g k p)(hg:g≤40)(hk:k≤8):p≤900000000:=by unfold PB at h;omega
theorem PB.step{g k p a b q r:Nat}(h:PB g k p)(ha:a≤1000000)(hb:b≤1000000)(hq:p+a=q)(hr:q+b=r):PB g (k+1) r:=by unfold PB at *;omega
theorem PB.next{g k p:Nat}(h:PB g k p)(hk:k≤8):PA (g+1) p:=by unfold PB at h;unfold PA;omega
theorem spread_at{α:Type}{there:List Bool}{xs:List α}(d:α){k:Nat}(hk:there[k]? = some true)(hl:cnt there≤xs.length):(yt there xs d)[k]? = xs[cnt (there.take k)]?∧cnt (there.take k)<xs.length:=by
 obtain⟨j,h1,h2,h3⟩:=qfo there xs d hk hl
 rw[h1]
 exact⟨h3,h2⟩
theorem qbh.raw{w:World}{lo G:Nat}{c:Chk}(h:qbh w lo G c)(hk2:c.kind=1∨c.kind=2)(hl:c.raws.length=cnt c.there){k:Nat}(hk:c.there[k]? = some true) :
  ∃(b off c2:Nat) (p:Part),w.cell? ⟨G,2,none⟩=some (.slice (some ⟨b,off,none⟩) c.there.length c2)∧b<w.heap.size∧w.cell? ⟨b,off+k,none⟩=some (.slice p.A p.bs.length p.c)∧Rd w lo w.heap.size p.A p.c (bv p.bs)∧c.raws[cnt (c.there.take k)]? = some p.bs:=by
 obtain⟨A0,c0,A2,n2,c2,A3,n3,c3,d,A5,n5,c5,h1,h2,h3,h4,h5,h6⟩:=h
 obtain⟨e1,ps,e2,e3,e4⟩:=h4 hk2
 subst e1
 have hlp:ps.length=cnt c.there:=by rw[←hl,←e2,qho]
 obtain⟨g1,g2⟩:=spread_at (.slice none 0 0) hk (xs:=pv ps) (by rw[qdc,hlp];exact qc _)
 rw[qdc] at g2
 have hlt:k<c.there.length:=(zt.1 hk).1
 obtain⟨b,off,rfl,_,hb,hall⟩:=e3.at_ (by rw[qao];omega)
 have x2:=h1.cell 2
 simp only[zo,zf,zg] at x2
 have hp:=pv_get ps _ g2
 rw[hp] at g1
 refine⟨b,off,c2,ps[cnt (c.there.take k)],x2,hb,hall k _ g1,e4 _ (ql g2),?_⟩
 rw[←e2,qi6,qah,qe g2]
 rfl
theorem qbh.kindCell{w:World}{lo G:Nat}{c:Chk}(h:qbh w lo G c):w.cell? ⟨G,0,none⟩=some (.int .i64 (c.kind:Int)):=by
 obtain⟨A0,c0,A2,n2,c2,A3,n3,c3,d,A5,n5,c5,h1, -⟩:=h
 have x0:=h1.cell 0
 simpa using x0
theorem qbh.tabCell{w:World}{lo G:Nat}{c:Chk}(h:qbh w lo G c)(h2:c.kind=2):∃A3 c3,w.cell? ⟨G,3,none⟩=some (.slice A3 c.tab.length c3)∧Rd w lo w.heap.size A3 c3 (sv (j4 c.tab)):=by
 obtain⟨A0,c0,A2,n2,c2,A3,n3,c3,d,A5,n5,c5,h1,_,_,_,h5,_⟩:=h
 obtain⟨e1,e2⟩:=h5 h2
 subst e1
 have x3:=h1.cell 3
 exact⟨A3,c3,by simpa using x3,e2⟩
theorem qbh.dicCell{w:World}{lo G:Nat}{c:Chk}(h:qbh w lo G c)(h3:c.kind=3):∃(dg:Nat) (ys:List ByteArray) (A5:Option Addr) (c5:Nat),w.cell? ⟨G,4,none⟩=some (.pointer (some ⟨dg,0,none⟩))∧w.cell? ⟨G,5,none⟩=some (.slice A5 c.there.length c5)∧
  Dc w dg ys∧qt ys=c.dic∧Rd w lo w.heap.size A5 c5 (yt c.there (iv (jf c.codes)) (.int .i64 (-1))):=by
 obtain⟨A0,c0,A2,n2,c2,A3,n3,c3,d,A5,n5,c5,h1,_,_,_,_,h6⟩:=h
 obtain⟨dg,ys,rfl,e2,e3,rfl,e5, -⟩:=h6 h3
 have x4:=h1.cell 4
 have x5:=h1.cell 5
 exact⟨dg,ys,A5,c5,by simpa using x4,by simpa using x5,e2,e3,e5⟩
theorem strs_of{ys:List ByteArray}{D:List (List UInt8)}(h:qt ys=D):ys=j4 D:=by rw[←h,qe0]
set_option maxRecDepth 100000 in
set_option maxHeartbeats 4000000 in
theorem text_v{w:World}{lo G:Nat}{c:Chk}(h:qbh w lo G c)(ho:ChkOk c){k:Nat}(hk:c.there[k]? = some true){s:ByteArray}(hs:(qaj c)[k]? = some ⟨false,s⟩) :
  Calls Tryz.prog 135 #[.pointer (some ⟨G,0,none⟩),.int .i64 (k:Int)] w fun r w'=>r= .returned (.string s)∧Below w.heap.size w w':=by
 obtain⟨j,hj,hcj,hv⟩:=vals_at ho hk
 rw[hv] at hs
 have hse:(qd4 c)[j]=s:=by injection hs with hs;injection hs
 have hlt:k<c.there.length:=(zt.1 hk).1
 have hfew:=h.few
 have x0:=h.kindCell
 have hGl:=h.lt
 have ik:(k:Int)<(c.there.length:Int):=by omega
 have i0:(0:Int)≤(k:Int):=by omega
 rcases ho.kinds with ⟨h1,hl,h4,_⟩ | ⟨h1,hl,htr,h4,_⟩ | ⟨h1,_,_,hdc,hl,h4⟩
 ·
  obtain⟨b,off,c2,q,x2,hb,hcell,hrd,hrw⟩:=h.raw (.inl h1) hl hk
  have hst:=vk (P:=Tryz.prog) w 36 9 5 Tryz.underlying36 Tryz.underlying5 Tryz.underlying9 _ _ q.A q.c q.bs hrd
  have hsq:(⟨q.bs.toArray⟩:ByteArray)=s:=by
   rw[←hse]
   have e:qd4 c=j4 c.raws:=by rw[qd4,if_neg (by omega),if_neg (by omega)]
   rw[hcj] at hrw
   have h5:=(zt.1 hrw).2
   simp[e,j4,h5]
  rw[hsq] at hst
  rw[h1] at x0
  clear h ho hk hs hv hrw hsq hrd hcj hse
  generalize c.there.length=n at *
  generalize q.bs.length=qn at *
  go_enter Tryz.func135,Tryz.ntmps135
  go_wp2_with fail
  go_ret
  exact⟨rfl,Below.refl _ _⟩
 ·
  obtain⟨b,off,c2,q,x2,hb,hcell,hrd,hrw⟩:=h.raw (.inr h1) hl hk
  obtain⟨A3,c3,x3,hrt⟩:=h.tabCell h1
  have hq:=h4 q.bs (List.mem_of_getElem? hrw)
  obtain⟨h5,h8⟩:=strs_small htr
  have HCF:Hid (∀W,Below w.heap.size w W→W.cell? ⟨G,3,none⟩=some (.slice A3 c.tab.length c3)∧W.cell? ⟨G,2,none⟩=some (.slice (some ⟨b,off,none⟩) c.there.length c2)∧W.cell? ⟨b,off+k,none⟩=some (.slice q.A q.bs.length q.c)):=fun W hW=>⟨(hW.cell (p:=⟨G,3,none⟩) hGl).trans x3,(hW.cell (p:=⟨G,2,none⟩) hGl).trans x2,(hW.cell (p:=⟨b,off+k,none⟩) hb).trans hcell⟩
  have HDE:Hid (∀W,Below w.heap.size w W→Calls Tryz.prog 169 #[.slice A3 c.tab.length c3,.slice q.A q.bs.length q.c,.int .i64 4096] W fun r w'=>∃e:Int,r= .returned (.tuple #[.string s,.int .i64 e])∧Below W.heap.size W w'):=fun W hW=>by
   have h9:=qmw (w:=W) (c:=c3) (A:=A3) (c2:=q.c) (B:=q.A) (j4 c.tab) h8 h5 q.bs (by omega) 4096 (by omega) (by omega) ((hrt.below hW (qc _)).wide (qj _) hW.size) ((hrd.below hW (qc _)).wide (qj _) hW.size)
   rw[yf,kv] at h9
   have hsq:(⟨(qc2 c.tab 4096 q.bs [] 0).1.toArray⟩:ByteArray)=s:=by
    rw[←hse]
    have e:qd4 c=c.raws.map fun b=>⟨(qc2 c.tab 4096 b [] 0).1.toArray⟩:=by rw[qd4,if_pos h1]
    rw[hcj] at hrw
    have h7:=(zt.1 hrw).2
    simp[e,h7]
   rw[hsq] at h9
   refine h9.mono ?_
   rintro r w' ⟨rfl,hb⟩
   exact⟨_,rfl,hb⟩
  rw[h1] at x0
  clear h ho hk hs hv hrw hrd hcj hse hrt h8 x2 x3 hcell hq h4
  generalize c.there.length=n at *
  generalize q.bs.length=qn at *
  generalize c.tab.length=tn at *
  go_enter Tryz.func135,Tryz.ntmps135
  go_wp2_with fail
  have KD:Hid (Below w.heap.size w w.drew):=(Below.refl _ _).drew
  refine wp_region_held_drew (S:=fun w'=>Below w.heap.size w w') (by kernel_rfl) KD.out (fun hHeld => ?_)
  refine tk 0 ?_ rfl hHeld ?_ ?_
  rotate_left
  focus (intro W hSw;obtain⟨q1,q2,q3⟩:=HCF.out W hSw;go_simp;try with_reducible rfl)
  try simp only[jt,Act.put]
  refine tk 1 ?_ rfl hHeld ?_ ?_
  rotate_left
  focus (intro W hSw;obtain⟨q1,q2,q3⟩:=HCF.out W hSw;go_simp;try with_reducible rfl)
  try simp only[jt,Act.put]
  refine tk 2 ?_ rfl hHeld ?_ ?_
  rotate_left
  focus (intro W hSw;obtain⟨q1,q2,q3⟩:=HCF.out W hSw;go_simp;try with_reducible rfl)
  try simp only[jt,Act.put]
  refine tk 3 ?_ rfl hHeld ?_ ?_
  rotate_left
  focus (intro W hSw;obtain⟨q1,q2,q3⟩:=HCF.out W hSw;go_simp;try with_reducible rfl)
  try simp only[jt,Act.put]
  refine tk 4 ?_ rfl hHeld ?_ ?_
  rotate_left
  focus (intro W hSw;obtain⟨q1,q2,q3⟩:=HCF.out W hSw;go_simp;try with_reducible rfl)
  try simp only[jt,Act.put]
  refine tk 5 ?_ rfl hHeld ?_ ?_
  rotate_left
  focus (intro W hSw;obtain⟨q1,q2,q3⟩:=HCF.out W hSw;go_simp;try with_reducible rfl)
  try simp only[jt,Act.put]
  refine tk 6 ?_ rfl hHeld ?_ ?_
  rotate_left
  focus (intro W hSw;obtain⟨q1,q2,q3⟩:=HCF.out W hSw;go_simp;try with_reducible rfl)
  try simp only[jt,Act.put]
  refine tk 7 ?_ rfl hHeld ?_ ?_
  rotate_left
  focus (intro W hSw;obtain⟨q1,q2,q3⟩:=HCF.out W hSw;go_simp;try with_reducible rfl)
  try simp only[jt,Act.put]
  refine tk 8 ?_ rfl hHeld ?_ ?_
  rotate_left
  focus (intro W hSw;obtain⟨q1,q2,q3⟩:=HCF.out W hSw;go_simp;try with_reducible rfl)
  try simp only[jt,Act.put]
  refine tk 9 ?_ rfl hHeld ?_ ?_
  rotate_left
  focus (intro W hSw;obtain⟨q1,q2,q3⟩:=HCF.out W hSw;go_simp;try with_reducible rfl)
  try simp only[jt,Act.put]
  refine tk 10 ?_ rfl hHeld ?_ ?_
  rotate_left
  focus (intro W hSw;obtain⟨q1,q2,q3⟩:=HCF.out W hSw;go_simp;try with_reducible rfl)
  try simp only[jt,Act.put]
  obtain⟨wd,hwd⟩:∃q,w.drew=q:=⟨_,rfl⟩
  rw[hwd] at hHeld ⊢
  clear KD hwd
  have K_wd:=qa hHeld
  refine wpAnyH_ready (rs:=[11]) (by kernel_rfl) (by simp) ?_
  refine qu (o:=_) rfl (fun K hK => ?_) q5
  go_simp
  refine(HDE.out _ K_wd.out).mono ?_
  rintro r v1 ⟨e9,rfl,hb_v1⟩
  have s_v1:wd.heap.size≤v1.heap.size:=hb_v1.size
  have K_v1:Hid (Below w.heap.size w v1):=qa (K_wd.out.trans (hb_v1.mono K_wd.out.size))
  clear hb_v1
  refine hK.out _ _ K_v1.out (fun hHeld => ?_)
  clear hK K
  try simp only[jt,Act.put]
  refine tk 12 ?_ rfl hHeld ?_ ?_
  rotate_left
  focus (intro W hSw;obtain⟨q1,q2,q3⟩:=HCF.out W hSw;go_simp;try with_reducible rfl)
  try simp only[jt,Act.put]
  refine tk 13 ?_ rfl hHeld ?_ ?_
  rotate_left
  focus (intro W hSw;obtain⟨q1,q2,q3⟩:=HCF.out W hSw;go_simp;try with_reducible rfl)
  try simp only[jt,Act.put]
  refine tk 14 ?_ rfl hHeld ?_ ?_
  rotate_left
  focus (intro W hSw;obtain⟨q1,q2,q3⟩:=HCF.out W hSw;go_simp;try with_reducible rfl)
  try simp only[jt,Act.put]
  refine tk 15 ?_ rfl hHeld ?_ ?_
  rotate_left
  focus (intro W hSw;obtain⟨q1,q2,q3⟩:=HCF.out W hSw;go_simp;try with_reducible rfl)
  try simp only[jt,Act.put]
  refine tk 16 ?_ rfl hHeld ?_ ?_
  rotate_left
  focus (intro W hSw;obtain⟨q1,q2,q3⟩:=HCF.out W hSw;go_simp;try with_reducible rfl)
  try simp only[jt,Act.put]
  refine wpAnyH_done (by kernel_rfl) ?_ _
  go_wp2_with fail
  go_ret
  exact⟨rfl,K_v1.out⟩
 ·
  obtain⟨dg,ys,A5,c5,x4,x5,hd,hys,hr5⟩:=h.dicCell h1
  obtain⟨g1,g2⟩:=spread_at (.int .i64 (-1)) hk (xs:=iv (jf c.codes)) (by rw[yd,zq,hl];exact qc _)
  rw[yd,zq] at g2
  rw[hcj] at g1 g2
  have hz:=h4 c.codes[j] (ql g2)
  have hzz:(iv (jf c.codes))[j]? = some (.int .i64 (c.codes[j]:Int)):=by simp[iv,jf,qe g2]
  rw[hzz] at g1
  obtain⟨b,off,rfl,_,hb,hall⟩:=hr5.at_ (by rw[qao];omega)
  have hcell:=hall k _ g1
  have hyl:c.codes[j]<ys.length:=by rw[strs_of hys,yf];exact hz
  have hsy:ys[c.codes[j]]=s:=by
   rw[←hse]
   have e:qd4 c=c.codes.map fun n=>(j4 c.dic).getD n ⟨#[]⟩:=by rw[qd4,if_neg (by omega),if_pos h1]
   have e2:(qd4 c)[j]=(j4 c.dic).getD c.codes[j] ⟨#[]⟩:=by simp[e]
   rw[e2,j7,←strs_of hys,qe hyl]
   rfl
  have hss:s.size≤4096:=by rw[←hse];exact qix ho _ (ql hj)
  have HCF:Hid (∀W,Below w.heap.size w W→W.cell? ⟨G,4,none⟩=some (.pointer (some ⟨dg,0,none⟩))∧W.cell? ⟨G,5,none⟩=some (.slice (some ⟨b,off,none⟩) c.there.length c5)∧W.cell? ⟨b,off+k,none⟩=some (.int .i64 (c.codes[j]:Int))):=fun W hW=>⟨(hW.cell (p:=⟨G,4,none⟩) hGl).trans x4,(hW.cell (p:=⟨G,5,none⟩) hGl).trans x5,(hW.cell (p:=⟨b,off+k,none⟩) hb).trans hcell⟩
  have HDE:Hid (∀W,Below w.heap.size w W→Calls Tryz.prog 170 #[.pointer (some ⟨dg,0,none⟩),.int .i64 (c.codes[j]:Int)] W fun r w'=>r= .returned (.string s)∧Below W.heap.size W w'):=fun W hW=>by
   have:=fat_in (hd.below hW (qc _)) c.codes[j] hyl (by rw[hsy];omega)
   rw[hsy] at this
   exact this
  rw[h1] at x0
  clear h ho hk hs hv hcj hse x4 x5 hcell hd hys hr5 hall g1 hzz hsy hyl hz h4 hdc
  generalize c.there.length=n at *
  generalize c.codes[j]=cj at *
  go_enter Tryz.func135,Tryz.ntmps135
  go_wp2_with fail
  have KD:Hid (Below w.heap.size w w.drew):=(Below.refl _ _).drew
  refine wp_region_held_drew (S:=fun w'=>Below w.heap.size w w') (by kernel_rfl) KD.out (fun hHeld => ?_)
  refine tk 0 ?_ rfl hHeld ?_ ?_
  rotate_left
  focus (intro W hSw;obtain⟨q1,q2,q3⟩:=HCF.out W hSw;go_simp;try with_reducible rfl)
  try simp only[jt,Act.put]
  refine tk 1 ?_ rfl hHeld ?_ ?_
  rotate_left
  focus (intro W hSw;obtain⟨q1,q2,q3⟩:=HCF.out W hSw;go_simp;try with_reducible rfl)
  try simp only[jt,Act.put]
  refine tk 2 ?_ rfl hHeld ?_ ?_
  rotate_left
  focus (intro W hSw;obtain⟨q1,q2,q3⟩:=HCF.out W hSw;go_simp;try with_reducible rfl)
  try simp only[jt,Act.put]
  refine tk 3 ?_ rfl hHeld ?_ ?_
  rotate_left
  focus (intro W hSw;obtain⟨q1,q2,q3⟩:=HCF.out W hSw;go_simp;try with_reducible rfl)
  try simp only[jt,Act.put]
  refine tk 4 ?_ rfl hHeld ?_ ?_
  rotate_left
  focus (intro W hSw;obtain⟨q1,q2,q3⟩:=HCF.out W hSw;go_simp;try with_reducible rfl)
  try simp only[jt,Act.put]
  refine tk 5 ?_ rfl hHeld ?_ ?_
  rotate_left
  focus (intro W hSw;obtain⟨q1,q2,q3⟩:=HCF.out W hSw;go_simp;try with_reducible rfl)
  try simp only[jt,Act.put]
  refine tk 6 ?_ rfl hHeld ?_ ?_
  rotate_left
  focus (intro W hSw;obtain⟨q1,q2,q3⟩:=HCF.out W hSw;go_simp;try with_reducible rfl)
  try simp only[jt,Act.put]
  refine tk 7 ?_ rfl hHeld ?_ ?_
  rotate_left
  focus (intro W hSw;obtain⟨q1,q2,q3⟩:=HCF.out W hSw;go_simp;try with_reducible rfl)
  try simp only[jt,Act.put]
  refine tk 8 ?_ rfl hHeld ?_ ?_
  rotate_left
  focus (intro W hSw;obtain⟨q1,q2,q3⟩:=HCF.out W hSw;go_simp;try with_reducible rfl)
  try simp only[jt,Act.put]
  refine tk 9 ?_ rfl hHeld ?_ ?_
  rotate_left
  focus (intro W hSw;obtain⟨q1,q2,q3⟩:=HCF.out W hSw;go_simp;try with_reducible rfl)
  try simp only[jt,Act.put]
  refine tk 10 ?_ rfl hHeld ?_ ?_
  rotate_left
  focus (intro W hSw;obtain⟨q1,q2,q3⟩:=HCF.out W hSw;go_simp;try with_reducible rfl)
  try simp only[jt,Act.put]
  obtain⟨wd,hwd⟩:∃q,w.drew=q:=⟨_,rfl⟩
  rw[hwd] at hHeld ⊢
  clear KD hwd
  have K_wd:=qa hHeld
  refine wpAnyH_ready (rs:=[11]) (by kernel_rfl) (by simp) ?_
  refine qu (o:=_) rfl (fun K hK => ?_) q5
  go_simp
  refine(HDE.out _ K_wd.out).mono ?_
  rintro r v1 ⟨rfl,hb_v1⟩
  have s_v1:wd.heap.size≤v1.heap.size:=hb_v1.size
  have K_v1:Hid (Below w.heap.size w v1):=qa (K_wd.out.trans (hb_v1.mono K_wd.out.size))
  clear hb_v1
  refine hK.out _ _ K_v1.out (fun hHeld => ?_)
  clear hK K
  try simp only[jt,Act.put]
  refine tk 12 ?_ rfl hHeld ?_ ?_
  rotate_left
  focus (intro W hSw;obtain⟨q1,q2,q3⟩:=HCF.out W hSw;go_simp;try with_reducible rfl)
  try simp only[jt,Act.put]
  refine wpAnyH_done (by kernel_rfl) ?_ _
  go_wp2_with fail
  go_ret
  exact⟨rfl,K_v1.out⟩
-- AT
theorem put2{w:World}{g:Nat}{t:TypeId}{a0 a1:Value}(b0 b1:Value)(h:j8 w g t #[a0,a1]):j8 ((w.setCell ⟨g,0,none⟩ b0).setCell ⟨g,1,none⟩ b1) g t #[b0,b1]:=by
 have:=(h.put 0 b0).put 1 b1
 simpa using this
theorem below2{a w:World}{B g:Nat}(b0 b1:Value)(h:Below B a w)(hg:B≤g):Below B a ((w.setCell ⟨g,0,none⟩ b0).setCell ⟨g,1,none⟩ b1) :=
 (h.setCell (p:=⟨g,0,none⟩) hg _).setCell (p:=⟨g,1,none⟩) hg _
theorem build_val1(W:World)(b:Bool):(Instr.build 72 #[(0,.bool b)]).run Tryz.prog W= .ok (.agg #[.bool b,.string ⟨#[]⟩]) W:=by cases b <;> exact run_build W _ _ _ (by kernel_rfl)
theorem build_val2(W:World)(s:ByteArray):(Instr.build 72 #[(1,.string s)]).run Tryz.prog W= .ok (.agg #[.bool false,.string s]) W:=run_build W _ _ _ (by kernel_rfl)
theorem at_none{w:World}{lo G:Nat}{c:Chk}(h:qbh w lo G c)(z:Int)(hz:(z<0∨(c.there.length:Int)≤z)∨∃k:Nat,z=(k:Int)∧c.there[k]? = some false) :
  Calls Tryz.prog 98 #[.pointer (some ⟨G,0,none⟩),.int .i64 z] w fun r w'=>r= .returned (.agg #[.bool true,.string ⟨#[]⟩])∧Below w.heap.size w w':=by
 obtain⟨w1,hw1⟩:∃w1,w.alloc (.cells #[.bool false,.string ⟨#[]⟩] 72)=w1:=⟨_,rfl⟩
 have hb1:Below w.heap.size w w1:=by rw[←hw1];exact(Below.refl _ _).alloc (qc _) _
 have hx:j8 w1 w.heap.size 72 #[.bool false,.string ⟨#[]⟩]:=by rw[←hw1];exact j8.new w _ _
 have h1:=h.below hb1
 have HH:Hid (Calls Tryz.prog 134 #[.pointer (some ⟨G,0,none⟩),.int .i64 z] w1 fun r w'=>r= .returned (.bool false)∧w1=w'):=by
  unfold Hid
  rcases hz with hz | ⟨k,rfl,hk⟩
  ·
   exact has_out h1 z hz
  ·
   exact has_in h1 hk
 have HX:=qa hx
 have HB1:=qa hb1
 have x0:=hx.cell 0
 have x1:=hx.cell 1
 have f0:=hx.frozen 0
 have f1:=hx.frozen 1
 simp only[zo,zf,zg] at x0 x1
 have hbv:=fun W=>build_val1 W true
 clear h hz h1 hb1 hx
 go_enter Tryz.func98,Tryz.ntmps98
 go_wp2_with fail
 refine HH.out.mono ?_
 rintro r w' ⟨rfl,rfl⟩
 clear hw1
 go_wp2_with fail
 have hr3:=put2 (.bool true) (.string ⟨#[]⟩) HX.out
 refine bodyPost_ret (v:= .agg #[.bool true,.string ⟨#[]⟩]) ?_ rfl ⟨rfl,below2 _ _ HB1.out (qc _)⟩
 exact results_cell_row rfl _ _ w.heap.size 72 #[.bool true,.string ⟨#[]⟩] (0,0) _ rfl hr3 Tryz.underlying72 rfl (by kernel_rfl)
theorem at_some{w:World}{lo G:Nat}{c:Chk}(h:qbh w lo G c)(ho:ChkOk c){k:Nat}(hk:c.there[k]? = some true){s:ByteArray}(hs:(qaj c)[k]? = some ⟨false,s⟩) :
  Calls Tryz.prog 98 #[.pointer (some ⟨G,0,none⟩),.int .i64 (k:Int)] w fun r w'=>r= .returned (.agg #[.bool false,.string s])∧Below w.heap.size w w':=by
 obtain⟨w1,hw1⟩:∃w1,w.alloc (.cells #[.bool false,.string ⟨#[]⟩] 72)=w1:=⟨_,rfl⟩
 have hb1:Below w.heap.size w w1:=by rw[←hw1];exact(Below.refl _ _).alloc (qc _) _
 have hx:j8 w1 w.heap.size 72 #[.bool false,.string ⟨#[]⟩]:=by rw[←hw1];exact j8.new w _ _
 have hs1:w.heap.size<w1.heap.size:=by rw[←hw1];simp
 have h1:=h.below hb1
 have HH:=qa (has_in h1 hk)
 have HT:=qa (text_v h1 ho hk hs)
 have HX:=qa hx
 have HB1:=qa hb1
 have hbv:=fun W=>build_val2 W s
 clear h h1 hb1 hx hk hs ho
 go_enter Tryz.func98,Tryz.ntmps98
 go_wp2_with fail
 refine HH.out.mono ?_
 rintro r w' ⟨rfl,rfl⟩
 go_wp2_with fail
 refine HT.out.mono ?_
 rintro r w2 ⟨rfl,hb2⟩
 have hx2:=HX.out.below hb2 hs1
 have HX2:=qa hx2
 have HB2:=qa (HB1.out.trans (hb2.mono (by omega)))
 have x0:=hx2.cell 0
 have x1:=hx2.cell 1
 have f0:=hx2.frozen 0
 have f1:=hx2.frozen 1
 simp only[zo,zf,zg] at x0 x1
 clear hw1 hb2 hx2
 go_wp2_with fail
 have hr3:=put2 (.bool false) (.string s) HX2.out
 refine bodyPost_ret (v:= .agg #[.bool false,.string s]) ?_ rfl ⟨rfl,below2 _ _ HB2.out (qc _)⟩
 exact results_cell_row rfl _ _ w.heap.size 72 #[.bool false,.string s] (0,0) _ rfl hr3 Tryz.underlying72 rfl (by kernel_rfl)
theorem at_v{w:World}{lo G:Nat}{c:Chk}(h:qbh w lo G c)(ho:ChkOk c∨c=Chk.none){k:Nat}{v:Vl}(hv:(qaj c)[k]? = some v) :
  Calls Tryz.prog 98 #[.pointer (some ⟨G,0,none⟩),.int .i64 (k:Int)] w fun r w'=>r= .returned (.agg #[.bool v.null,.string v.s])∧Below w.heap.size w w':=by
 have hlt:k<(qaj c).length:=(zt.1 hv).1
 rw[qdb] at hlt
 rcases ho with ho | rfl
 ·
  have hk:c.there[k]? = some c.there[k]:=qe hlt
  cases hb:c.there[k] with
  | true =>
   rw[hb] at hk
   obtain⟨j,hj,_,h2⟩:=vals_at ho hk
   rw[hv] at h2
   obtain rfl:=zy h2
   exact at_some h ho hk hv
  | false =>
   rw[hb] at hk
   have h2:=vals_not (c:=c) hk
   rw[hv] at h2
   obtain rfl:=zy h2
   exact at_none h _ (.inr ⟨k,rfl,hk⟩)
 ·
  exact absurd hlt (jm k)
theorem qls(w:World)(n:Nat)(h:n≤4294967295):∃w1 xs,(Instr.makeSlice 73 (.int .i64 (n:Int)) (.int .i64 (n:Int))).run Tryz.prog w= .ok (.slice (some ⟨w.heap.size,0,none⟩) n n) w1∧
  w1.ownsRow w.heap.size 72 2 (.slice (some ⟨w.heap.size,0,none⟩) n n) n xs∧w.grownBy w1 none:=by
 obtain⟨i0,hi0,hz0,hz1,hz2⟩:=info_parts Tryz.infoVal
 obtain⟨w1,h1,h2,h3⟩:=run_make_full (P:=Tryz.prog) w w.heap.size 73 72 i0 _ 2 Tryz.underlying73 hi0 hz0 hz1 .i64 .i64 n (by rw[hz2];omega) (by simp only[maxLen];omega) (qc _)
 exact⟨w1,_,h1,h2,h3⟩
theorem all_v{w:World}{lo G:Nat}{c:Chk}(h:qbh w lo G c)(ho:ChkOk c∨c=Chk.none) :
  Calls Tryz.prog 90 #[.pointer (some ⟨G,0,none⟩)] w fun r w'=>∃A' c',r= .returned (.slice A' (qaj c).length c')∧Row w' w.heap.size w'.heap.size A' c' (qaj c)∧Below w.heap.size w w'∧∃g,A'=some ⟨g,0,none⟩∧w'.ownsRow w.heap.size 72 2 (.slice A' (qaj c).length c') (qaj c).length (vv (qaj c)):=by
 have HL:=qa (len_v h)
 have hlen:c.there.length≤4096:=by
  rcases ho with ho | rfl
  ·
   exact ho.few
  ·
   exact qj _
 have HSZ:Hid (∀v∈qaj c,v.s.size≤9223372036854775807):=fun v hv=>by
  rcases ho with h1 | rfl
  ·
   exact zc (vals_size h1 v hv) (by omega)
  ·
   cases hv
 obtain⟨n,hn⟩:∃n,c.there.length=n:=⟨_,rfl⟩
 have hvn:(qaj c).length=n:=by rw[qdb,hn]
 have HVN:=qa hvn
 rw[hvn]
 rw[hn] at HL hlen
 obtain⟨w1,xs0,hmake,ho1,hg1⟩:=qls w n (by omega)
 have HO1:=qa ho1
 have HB1:=qa (qaq (qc _) hg1 (fun g hg=>by cases hg))
 have HX0:Hid (xs0.length=n*2):=ho1.1
 have HA:Hid (∀(W:World) (k:Nat) (v:Vl),Below w.heap.size w W→(qaj c)[k]? = some v→Calls Tryz.prog 98 #[.pointer (some ⟨G,0,none⟩),.int .i64 (k:Int)] W fun r w'=>r= .returned (.agg #[.bool v.null,.string v.s])∧Below W.heap.size W w'):=fun W k v hW hv=>at_v (h.below hW) ho hv
 generalize qaj c=L at *
 clear h ho ho1 hg1 hn hvn
 go_enter Tryz.func90,Tryz.ntmps90
 go_wp2_with fail
 refine HL.out.mono ?_
 rintro r w' ⟨rfl,rfl⟩
 go_wp2_with fail
 clear hmake HL
 go_loopw [10] (fun x wr=>∃(k:Nat) (xs:List Value),k≤n∧x= .int .i64 (k:Int)∧wr.ownsRow w.heap.size 72 2 (.slice (some ⟨w.heap.size,0,none⟩) n n) n xs∧qhs (vv L) (k*2) xs∧Below w.heap.size w wr) (fun x _=>n-(intOf x).toNat)
 case atStart=>exact⟨0,xs0,qj _,rfl,HO1.out,qcb (by rw[HX0.out,qca,HVN.out]),HB1.out⟩
 case round =>
  clear HO1 HB1 HX0
  obtain⟨k,xs,hk,rfl,ho,hf,hb⟩:=hrel
  have HO:=qa ho
  have HF:=qa hf
  have HB:=qa hb
  have hsz:=hb.size
  clear ho hf hb
  by_cases hlt:k<n
  ·
   have ik:(k:Int)<(n:Int):=by omega
   have hkl:k<L.length:=by rw[HVN.out];exact hlt
   have HA1:=qa (HA.out wr k L[k] HB.out (qe hkl))
   have HU0:Hid ((vv L)[k*2]? = some (.bool L[k].null)):=by
    have:=qh1 L k 0 (by omega)
    rw[y7,qe hkl] at this
    exact this
   have HU1:Hid ((vv L)[k*2+1]? = some (.string L[k].s)):=by
    have:=qh1 L k 1 (by omega)
    rw[qe hkl] at this
    exact this
   generalize L[k].null=b at *
   generalize L[k].s=s at *
   have HXL:Hid (xs.length=n*2):=by unfold Hid;rw[HF.out.1,qca,HVN.out]
   go_wp2_with fail
   refine HA1.out.mono ?_
   rintro r w2 ⟨rfl,hb2⟩
   have HO2:=qa (ji HO.out hb2 (qc _))
   have HB2:=qa (zz HB.out hb2 hsz)
   have hsz2:=HB2.out.size
   have hxl:=HXL.out
   have fr0:=HO2.out.frozenAt (k*2)
   have fr1:=HO2.out.frozenAt (k*2+1)
   have c0:w2.cell? ⟨w.heap.size,k*2,none⟩=some (xs[k*2]'(by omega)):=by
    rw[HO2.out.cellAt (k*2) (by omega),qe (by omega)]
   have c1:w2.cell? ⟨w.heap.size,k*2+1,none⟩=some (xs[k*2+1]'(by omega)):=by
    rw[HO2.out.cellAt (k*2+1) (by omega),qe (by omega)]
   have HS1:=qa (World.ownsRow.stored HO2.out (k*2) (.bool b))
   have HS2:=qa (World.ownsRow.stored HS1.out.1 (k*2+1) (.string s))
   have HBS:=qa ((HB2.out.setCell (p:=⟨w.heap.size,k*2,none⟩) (qc _) (.bool b)).setCell (p:=⟨w.heap.size,k*2+1,none⟩) (qc _) (.string s))
   have HFS:Hid (qhs (vv L) ((k+1)*2) ((xs.set (k*2) (.bool b)).set (k*2+1) (.string s))):=by
    have:=um (um HF.out (.bool b) HU0.out) (.string s) HU1.out
    rw[show(k+1)*2=k*2+1+1 by omega]
    exact this
   generalize xs[k*2]'(by omega)=y0 at *
   generalize xs[k*2+1]'(by omega)=y1 at *
   clear hb2 HA1 HO HB HF HU0 HU1
   go_wp2_with fail
   go_roundw
   case rel=>exact⟨k+1,_,by omega,by go_num,HS2.out.1,HFS.out,HBS.out⟩
   case measure=>simp[intOf];omega
  ·
   have ik:¬(k:Int)<(n:Int):=by omega
   have hke:k=n:=by omega
   have hx:xs=vv L:=qdo HF.out (by rw[qca,HVN.out];omega)
   subst hx
   go_wp2_with fail
   go_ret
   have hro:=row_own HO.out HVN.out HSZ.out
   exact⟨_,_,rfl,hro,HB.out,⟨_,rfl⟩,HO.out⟩
end Go.Proofs.YtjfecojdagmacaaGreat
