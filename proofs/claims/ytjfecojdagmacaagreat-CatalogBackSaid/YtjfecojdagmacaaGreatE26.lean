/-
  Lemmas.
-/
import Derived.Test.YtjfecojdagmacaaGreatE25
import Derived.Maps.OwnSet
import Derived.Shelf.SlIterI.Keys
import Derived.Shelf.SlIterI.Sorted
import Derived.Shelf.SortM.Plain
import Derived.Shelf.SortM.SortNone
namespace Go.Proofs.YtjfecojdagmacaaGreat
open Go.RowKit
set_option maxRecDepth 20000
set_option maxHeartbeats 16000000
set_option linter.unusedSimpArgs false
set_option linter.unusedVariables false
theorem sgtexts_v{w:World}(L:List Vl){c:Nat}{A:Option Addr}(h:Row w 0 w.heap.size A c L)(hn:L.length≤1000000) :
  Calls Tryz.prog 79 #[.slice A L.length c] w fun r w'=>∃A' c',r= .returned (.slice A' (qr L).length c')∧w'.ownsRow w.heap.size 9 1 (.slice A' (qr L).length c') (qr L).length (sv (qr L))∧Below w.heap.size w w':=by
 obtain⟨hl,hm⟩:=h.len
 have H:=qa h
 clear h
 go_enter Tryz.func79,Tryz.ntmps79
 go_wp2_with fail
 go_loopw [3,8] (fun x i wr=>∃(k:Nat) (ys:List ByteArray) (A':Option Addr) (c' n:Nat),k≤L.length∧i= .int .i64 (k:Int)∧qr (L.take k)=ys∧ys.length=n∧n≤k∧x= .slice A' n c'∧wr.ownsRow w.heap.size 9 1 (.slice A' n c') n (sv ys)∧Below w.heap.size w wr) (fun _ i _=>L.length-(intOf i).toNat)
 case atStart=>exact⟨0,[],none,0,0,qj _,rfl,rfl,rfl,qc _,rfl,⟨rfl,.inl ⟨rfl,rfl⟩⟩,Below.refl _ _⟩
 case round =>
  obtain⟨k,ys,A',c',n,hk,rfl,hys,hyn,hnk,rfl,ho,hb⟩:=hrel
  have HY:=qa hys
  have HYN:=qa hyn
  have HO:=qa ho
  have HB:=qa hb
  have hsz:=hb.size
  clear ho hb hys hyn
  by_cases hlt:k<L.length
  ·
   have ik:(k:Int)<(L.length:Int):=by omega
   obtain⟨b,off,rfl,_,hbl,hc0,hc1⟩:=(H.out.below HB.out (qc _)).get hlt
   have hbw:b<wr.heap.size:=by omega
   have HT:=qa (qma hlt)
   rw[HY.out] at HT
   generalize L[k].null=nb at *
   generalize L[k].s=s at *
   have HOA:=qa (HO.out.alloc (.cells #[.bool nb,.string s] 72))
   have HBA:=qa (HB.out.alloc hsz (.cells #[.bool nb,.string s] 72))
   cases nb with
   | true =>
    have HT2:Hid (qr (L.take (k+1))=ys):=by unfold Hid;rw[HT.out];simp
    clear HT
    go_wp2_with fail
    go_roundw
    case rel=>exact⟨k+1,ys,A',c',n,by omega,by go_num,HT2.out,HYN.out,by omega,rfl,HOA.out,HBA.out⟩
    case measure=>simp[intOf];omega
   | false =>
    obtain⟨zs,hzs⟩:∃zs,ys++[s]=zs:=⟨_,rfl⟩
    have HT2:Hid (qr (L.take (k+1))=zs):=by unfold Hid;rw[HT.out,←hzs];simp
    have hzl:zs.length=n+1:=by rw[←hzs,qd,HYN.out];rfl
    have HZL:=qa hzl
    have HZS:=qa hzs
    clear HT hzl hzs
    have HOB:=qa (HOA.out.alloc (.cells #[.string s] 9))
    have HBB:=qa (HBA.out.alloc (by simp;omega) (.cells #[.string s] 9))
    rw[←HYN.out] at HOB
    go_wp2_with (at_builtin;refine vj (v:= .slice A' n c') w.heap.size ys s rfl _ _ rfl rfl rfl rfl (by rw[zm _ _ _ _ (by simp)];rfl) (by have:=HOB.out;rw[HYN.out] at this ⊢;exact this) (by rw[HYN.out];omega) (by simp;omega) ?_;intro A7 c7 w7 ho7 hg7;refine qbj ?_)
    have hb7:Below w.heap.size w w7:=HBB.out.grown hg7 (by simp;omega) (fun q hq=>(zk HOB.out (by rw[HYN.out];exact hq)).1)
    rw[HZS.out,HZL.out] at ho7
    have HO7:=qa ho7
    have HB7:=qa hb7
    have HZV:Hid (Value.slice A7 (ys.length+1) c7= .slice A7 (n+1) c7):=by unfold Hid;rw[HYN.out]
    clear ho7 hg7 hb7 HO HB HOA HBA HOB HBB
    refine⟨?_⟩
    go_wp2_with fail
    go_roundw
    case rel=>exact⟨k+1,zs,A7,c7,n+1,by omega,by go_num,HT2.out,HZL.out,by omega,HZV.out,HO7.out,HB7.out⟩
    case measure=>simp[intOf] <;> omega
  ·
   have ik:¬(k:Int)<(L.length:Int):=by omega
   have hke:L.take k=L:=qp (by omega)
   rw[hke] at HY
   go_wp2_with fail
   go_ret
   rw[HY.out,HYN.out]
   exact⟨_,_,rfl,HO.out,HB.out⟩
theorem colV_get{rs:List (List Vl)}{k i:Nat}(hi:i<rs.length)(hk:k<rs[i].length):(ko rs k)[i]? = some rs[i][k]:=by
 unfold ko
 rw[qah,qe hi,Option.map_some,List.getD,qe hk]
 rfl
theorem column_v{w:World}{rs:List (List Vl)}{c:Nat}{A:Option Addr}(h:ka w 0 w.heap.size A c rs)(i:Nat)(hi:∀r∈rs,i<r.length)(hn:rs.length≤1000000) :
  Calls Tryz.prog 51 #[.slice A rs.length c,.int .i64 (i:Int)] w fun r w'=>∃A' c',r= .returned (.slice A' rs.length c')∧Row w' w.heap.size w'.heap.size A' c' (ko rs i)∧Below w.heap.size w w':=by
 obtain⟨hl,hm⟩:=h.len
 obtain⟨n,hnn⟩:∃n,rs.length=n:=⟨_,rfl⟩
 have HL:Hid (rs.length=n):=hnn
 obtain⟨w1,xs0,hmake,ho1,hg1⟩:=qls w n (by omega)
 have HO1:=qa ho1
 have HB1:=qa (qaq (qc _) hg1 (fun g hg=>by cases hg))
 have HX0:Hid (xs0.length=n*2):=ho1.1
 have HR:Hid (∀(W:World) (k:Nat) (hk:k<n),Below w.heap.size w W→∃b off b2 off2 m c' nb s,A=some ⟨b,off,none⟩∧b<w.heap.size∧b2<w.heap.size∧W.cell? ⟨b,off+k,none⟩=some (.slice (some ⟨b2,off2,none⟩) m c')∧i<m∧m≤9223372036854775807∧W.cell? ⟨b2,off2+i*2,none⟩=some (.bool nb)∧W.cell? ⟨b2,off2+i*2+1,none⟩=some (.string s)∧(ko rs i)[k]? = some ⟨nb,s⟩∧s.size≤9223372036854775807):=fun W k hk hW=>by
  have hkr:k<rs.length:=by omega
  obtain⟨b,off,A',c',h1,h2,h3,h4,h5⟩:=(h.below hW (qc _)).get hkr
  have h6:=hi _ (ql hkr)
  obtain⟨b2,off2,h7,h8,h9,h10,h11⟩:=h5.get h6
  have h12:=h5.len
  rw[h7] at h4
  exact⟨b,off,b2,off2,_,c',_,_,h1,h3,h9,h4,h6,by omega,h10,h11,by rw[colV_get hkr h6],h5.ok _ (ql h6)⟩
 have HVN:Hid ((ko rs i).length=n):=by unfold Hid;rw[qd1];exact hnn
 have HSZ:Hid (∀v∈ko rs i,v.s.size≤9223372036854775807):=fun v hv=>by
  obtain⟨k,hk,rfl⟩:=zl hv
  obtain⟨_,_,_,_,_,_,nb,s,_,_,_,_,_,_,_,_,e,hs⟩:=HR.out w k (by rw[qd1] at hk;omega) (Below.refl _ _)
  rw[qe hk] at e
  rw[zy e]
  exact hs
 rw[hnn]
 generalize ko rs i=L at *
 have hn2:n≤1000000:=by omega
 rw[hnn] at hl
 have i0:(0:Int)≤(i:Int):=by omega
 clear h hi ho1 hg1 hnn hn HL
 go_enter Tryz.func51,Tryz.ntmps51
 go_wp2_with fail
 clear hmake
 go_loopw [13] (fun x wr=>∃(k:Nat) (xs:List Value),k≤n∧x= .int .i64 (k:Int)∧wr.ownsRow w.heap.size 72 2 (.slice (some ⟨w.heap.size,0,none⟩) n n) n xs∧qhs (vv L) (k*2) xs∧Below w.heap.size w wr) (fun x _=>n-(intOf x).toNat)
 case atStart=>exact⟨0,xs0,qj _,rfl,HO1.out,qcb (by rw[HX0.out,qca,HVN.out]),HB1.out⟩
 case round =>
  clear HO1 HB1 HX0
  obtain⟨k,xs,hk,rfl,ho,hf,hb⟩:=hrel
  have HO:=qa ho
  have HF:=qa hf
  have HB:=qa hb
  have hsz:=hb.size
  clear ho hf hb
  by_cases hlt:k<n
  ·
   have ik:(k:Int)<(n:Int):=by omega
   obtain⟨b,off,b2,off2,m,c',nb,s,rfl,hbl,hbl2,e0,him,hmm,e1,e2,hck,hss⟩:=HR.out wr k hlt HB.out
   have ii:(i:Int)<(m:Int):=by omega
   have hkl:k<L.length:=by rw[HVN.out];exact hlt
   have HU0:Hid ((vv L)[k*2]? = some (.bool nb)):=by
    have:=qh1 L k 0 (by omega)
    rw[y7,hck] at this
    exact this
   have HU1:Hid ((vv L)[k*2+1]? = some (.string s)):=by
    have:=qh1 L k 1 (by omega)
    rw[hck] at this
    exact this
   have HXL:Hid (xs.length=n*2):=by unfold Hid;rw[HF.out.1,qca,HVN.out]
   have hxl:=HXL.out
   have fr0:=HO.out.frozenAt (k*2)
   have fr1:=HO.out.frozenAt (k*2+1)
   have c0:wr.cell? ⟨w.heap.size,k*2,none⟩=some (xs[k*2]'(by omega)):=by
    rw[HO.out.cellAt (k*2) (by omega),qe (by omega)]
   have c1:wr.cell? ⟨w.heap.size,k*2+1,none⟩=some (xs[k*2+1]'(by omega)):=by
    rw[HO.out.cellAt (k*2+1) (by omega),qe (by omega)]
   have HS1:=qa (World.ownsRow.stored HO.out (k*2) (.bool nb))
   have HS2:=qa (World.ownsRow.stored HS1.out.1 (k*2+1) (.string s))
   have HBS:=qa ((HB.out.setCell (p:=⟨w.heap.size,k*2,none⟩) (qc _) (.bool nb)).setCell (p:=⟨w.heap.size,k*2+1,none⟩) (qc _) (.string s))
   have HFS:Hid (qhs (vv L) ((k+1)*2) ((xs.set (k*2) (.bool nb)).set (k*2+1) (.string s))):=by
    have:=um (um HF.out (.bool nb) HU0.out) (.string s) HU1.out
    rw[show(k+1)*2=k*2+1+1 by omega]
    exact this
   generalize xs[k*2]'(by omega)=y0 at *
   generalize xs[k*2+1]'(by omega)=y1 at *
   clear HO HB HF HU0 HU1 hck
   go_wp2_with fail
   go_roundw
   case rel=>exact⟨k+1,_,by omega,by go_num,HS2.out.1,HFS.out,HBS.out⟩
   case measure=>simp[intOf];omega
  ·
   have ik:¬(k:Int)<(n:Int):=by omega
   have hke:k=n:=by omega
   have hx:xs=vv L:=qdo HF.out (by rw[qca,HVN.out];omega)
   subst hx
   go_wp2_with fail
   go_ret
   have hro:=row_own HO.out HVN.out HSZ.out
   exact⟨_,_,rfl,hro,HB.out⟩
theorem fitslit_v{w:World}{B m c:Nat}{A:Option Addr}(cols:Int)(h:w.cell? ⟨B,0,none⟩=some (.int .i64 cols))(hm:m≤9223372036854775807) :
  Calls Tryz.prog 75 #[.slice A m c,.pointer (some ⟨B,0,none⟩)] w fun r w'=>r= .returned (.bool (decide (¬(m:Int)=cols)))∧w=w':=by
 by_cases hc:(m:Int)=cols
 ·
  subst hc
  rw[qw (by simp)]
  go_enter Tryz.func75,Tryz.ntmps75
  go_wp2_with fail
  go_ret
  exact⟨yc (by simp),rfl⟩
 ·
  rw[qx hc]
  go_enter Tryz.func75,Tryz.ntmps75
  go_wp2_with fail
  go_ret
  exact⟨yc (by simpa using hc),rfl⟩
theorem idx_fits{w:World}{lo hi B:Nat}{rs:List (List Vl)}{A:Option Addr}{c:Nat}(hk:ka w lo hi A c rs)(hhi:hi≤w.heap.size)(cols:Int)(h:w.cell? ⟨B,0,none⟩=some (.int .i64 cols))(hB:B<w.heap.size) :
  Calls Tryz.prog 102 #[.slice A rs.length c,.func (.func 75) #[] #[.pointer (some ⟨B,0,none⟩)]] w fun r w'=>∃z:Int,r= .returned (.int .i64 z)∧decide (0≤z)=rs.any (fun r=>decide (¬(r.length:Int)=cols))∧w=w':=by
 have HK:=qa hk
 obtain⟨hl1,hl2⟩:=hk.len
 have HC0:=qa h
 clear hk h
 obtain⟨f,hf⟩:∃f:List Vl→Bool,(fun r=>decide (¬(r.length:Int)=cols))=f:=⟨_,rfl⟩
 have HF:Hid (∀r,decide (¬((r.length:Nat):Int)=cols)=f r):=fun r=>congrFun hf r
 rw[hf]
 clear hf
 go_enter Tryz.func102,Tryz.ntmps102
 go_wp2_with fail
 go_loopw [8] (fun x8 wr=>∃k:Nat,k≤rs.length∧x8= .int .i64 (k:Int)∧(rs.take k).any f=false∧w=wr) (fun x8 _=>rs.length-(intOf x8).toNat)
 case atStart=>exact⟨0,qj _,rfl,rfl,rfl⟩
 case round =>
  obtain⟨k,hkl,rfl,hno,rfl⟩:=hrel
  have HN:=qa hno
  clear hno
  by_cases hlt:k<rs.length
  ·
   have ik:(k:Int)<(rs.length:Int):=by omega
   obtain⟨bk,off,rA,rc,rfl,hlo,hbh,c0,hrow⟩:=HK.out.get hlt
   have hrl:=hrow.len
   have HC:=qa (fitslit_v (w:=w) (B:=B) (m:=rs[k].length) (c:=rc) (A:=rA) cols HC0.out (by omega))
   rw[HF.out] at HC
   have HT:Hid ((rs.take (k+1)).any f=f rs[k]):=by
    unfold Hid
    rw[qi hlt,List.any_append,HN.out]
    simp
   have HY:Hid (f rs[k]=true→rs.any f=true):=fun h=>List.any_eq_true.2 ⟨_,ql hlt,h⟩
   obtain⟨v,hv⟩:∃v,f rs[k]=v:=⟨_,rfl⟩
   rw[hv] at HC HT HY
   clear hv hrow hrl
   generalize rs[k].length=m at *
   go_wp2_with fail
   refine HC.out.mono ?_
   rintro r w3 ⟨rfl,rfl⟩
   cases v with
   | true =>
    have HV:=qa (HY.out rfl)
    clear HY HT
    go_wp2_with fail
    go_ret
    exact⟨_,rfl,by rw[HV.out];exact qx (by omega),rfl⟩
   | false =>
    clear HY
    go_wp2_with fail
    go_roundw
    case rel=>exact⟨k+1,by omega,by go_num,HT.out,trivial⟩
    case measure=>simp[intOf] <;> omega
  ·
   have ik:¬(k:Int)<(rs.length:Int):=by omega
   have HV:Hid (rs.any f=false):=by
    have:=HN.out
    rwa [qp (by omega)] at this
   go_wp2_with fail
   go_ret
   exact⟨-1,rfl,by rw[HV.out];exact qw (by omega),rfl⟩
theorem has_fits{w:World}{lo hi B:Nat}{rs:List (List Vl)}{A:Option Addr}{c:Nat}(hk:ka w lo hi A c rs)(hhi:hi≤w.heap.size)(cols:Int)(h:w.cell? ⟨B,0,none⟩=some (.int .i64 cols))(hB:B<w.heap.size) :
  Calls Tryz.prog 74 #[.slice A rs.length c,.func (.func 75) #[] #[.pointer (some ⟨B,0,none⟩)]] w fun r w'=>r= .returned (.bool (rs.any (fun r=>decide (¬(r.length:Int)=cols))))∧w=w':=by
 have HI:=qa (idx_fits hk hhi cols h hB)
 clear hk
 go_enter Tryz.func74,Tryz.ntmps74
 go_wp2_with fail
 refine HI.out.mono ?_
 rintro r w' ⟨z,rfl,hz,rfl⟩
 have HZ:=qa hz
 clear hz
 go_wp2_with fail
 go_ret
 exact⟨yc HZ.out,rfl⟩
def badG(cols:Int)(g:List (List Vl)):Bool:=decide (g.length=0)||g.any (fun r=>decide (¬(r.length:Int)=cols))
def qkz(cols:Int)(gs:List (List (List Vl))):Bool := !gs.any (badG cols)&&decide (1≤cols∧cols≤8∧vo gs≤4096)
theorem sgfits_v{w:World}{gs:List (List (List Vl))}{c:Nat}{A:Option Addr}(h:qbg w 0 w.heap.size A c gs)(cols:Int)(hr:vo gs≤1000000000) :
  Calls Tryz.prog 48 #[.int .i64 cols,.slice A gs.length c] w fun r w'=>r= .returned (.bool (qkz cols gs))∧Below w.heap.size w w':=by
 obtain⟨hl1,hl2⟩:=h.len
 obtain⟨w1,hw1⟩:∃w1,w.alloc (.cells #[.int .i64 cols] 3)=w1:=⟨_,rfl⟩
 have hb1:j8 w1 w.heap.size 3 #[.int .i64 cols]:=by rw[←hw1];exact j8.new w _ _
 have B1:Hid (Below w.heap.size w w1):=by unfold Hid;rw[←hw1];exact(Below.refl _ w).alloc (qc _) _
 have hs1:w.heap.size<w1.heap.size:=by rw[←hw1];simp
 have q0:w1.cell? ⟨w.heap.size,0,none⟩=some (.int .i64 cols):=hb1.cell 0
 have HK:Hid (qbg w1 0 w1.heap.size A c gs):=(h.below B1.out (qc _)).wide (qc _) (by omega)
 have HR:=qa hr
 obtain⟨f,hf⟩:∃f,badG cols=f:=⟨_,rfl⟩
 have HFB:Hid (∀g,badG cols g=f g):=fun g=>congrFun hf g
 have HFG:Hid (qkz cols gs=(!gs.any f&&decide (1≤cols∧cols≤8∧vo gs≤4096))):=by unfold Hid;rw[←hf];rfl
 obtain⟨V,hV⟩:∃V,qkz cols gs=V:=⟨_,rfl⟩
 rw[hV]
 have HVV:Hid ((!gs.any f&&decide (1≤cols∧cols≤8∧vo gs≤4096))=V):=by unfold Hid;rw[←HFG.out,hV]
 clear h hr hb1 hf HFG hV
 go_enter Tryz.func48,Tryz.ntmps48
 go_wp2_with fail
 try rw[hw1]
 clear hw1
 go_loopw [5,10] (fun x5 x10 wr=>∃k:Nat,k≤gs.length∧x10= .int .i64 (k:Int)∧x5= .int .i64 ((vo (gs.take k):Nat):Int)∧(gs.take k).any f=false∧wr=w1) (fun _ x10 _=>gs.length-(intOf x10).toNat)
 case atStart=>exact⟨0,qj _,rfl,rfl,rfl,rfl⟩
 case round =>
  obtain⟨k,hkl,rfl,rfl,hno,rfl⟩:=hrel
  have HN:=qa hno
  clear hno
  by_cases hlt:k<gs.length
  ·
   have ik:(k:Int)<(gs.length:Int):=by omega
   obtain⟨bk,off,gA,gc,rfl,hlo,hbh,c0,hrows⟩:=HK.out.get hlt
   have hrl:=hrows.len
   have HC:=qa (has_fits hrows (qc _) cols q0 hs1)
   have HT:Hid ((gs.take (k+1)).any f=f gs[k]):=by
    unfold Hid
    rw[qi hlt,List.any_append,HN.out]
    simp
   have HY:Hid (f gs[k]=true→gs.any f=true):=fun h=>List.any_eq_true.2 ⟨_,ql hlt,h⟩
   have HB:Hid (f gs[k]=(decide (gs[k].length=0)||gs[k].any (fun r=>decide (¬(r.length:Int)=cols)))):=by unfold Hid;rw[←HFB.out];rfl
   have HS:Hid (vo (gs.take (k+1))=vo (gs.take k)+gs[k].length):=qdt hlt
   have HS2:Hid (vo (gs.take (k+1))≤1000000000):=zc (qh9 gs (k+1)) HR.out
   obtain⟨v,hv⟩:∃v,gs[k].any (fun r=>decide (¬(r.length:Int)=cols))=v:=⟨_,rfl⟩
   rw[hv] at HC HB
   generalize f gs[k]=fg at *
   generalize gs[k].length=m at *
   clear hv hrows hrl
   by_cases hm0:m=0
   ·
    subst hm0
    have HV:Hid (V=false):=by unfold Hid;rw[←HVV.out,HY.out (by rw[HB.out];rfl)];rfl
    go_wp2_with fail
    go_ret
    exact⟨yc HV.out.symm,B1.out⟩
   ·
    have im0:¬(m:Int)=0:=by omega
    rw[show decide (m=0)=false from qw hm0,Bool.false_or] at HB
    go_wp2_with fail
    refine HC.out.mono ?_
    rintro r w3 ⟨rfl,rfl⟩
    cases v with
    | true =>
     have HV:Hid (V=false):=by unfold Hid;rw[←HVV.out,HY.out HB.out];rfl
     go_wp2_with fail
     go_ret
     exact⟨yc HV.out.symm,B1.out⟩
    | false =>
     have HT2:Hid ((gs.take (k+1)).any f=false):=by unfold Hid;rw[HT.out,HB.out]
     have hs2:=HS2.out
     have hs:=HS.out
     clear HT HY HB
     go_wp2_with fail
     go_roundw
     case rel=>exact⟨k+1,by omega,by go_num,by rw[hs];go_num,HT2.out,trivial⟩
     case measure=>simp[intOf] <;> omega
  ·
   have ik:¬(k:Int)<(gs.length:Int):=by omega
   have HV:Hid (gs.any f=false):=by
    have:=HN.out
    rwa [qp (by omega)] at this
   rw[HV.out] at HVV
   rw[qp (show gs.length≤k by omega)]
   clear HN
   generalize vo gs=N at *
   have hN:=HR.out
   by_cases h1:1≤cols
   ·
    by_cases h8:cols≤8
    ·
     by_cases h4:N≤4096
     ·
      have i4:(N:Int)≤4096:=by omega
      rw[qx ⟨h1,h8,h4⟩] at HVV
      go_wp2_with fail
      go_ret
      exact⟨yc HVV.out,B1.out⟩
     ·
      have i4:¬(N:Int)≤4096:=by omega
      rw[qw (fun h=>h4 h.2.2)] at HVV
      go_wp2_with fail
      go_ret
      exact⟨yc HVV.out,B1.out⟩
    ·
     rw[qw (fun h=>h8 h.2.1)] at HVV
     go_wp2_with fail
     go_ret
     exact⟨yc HVV.out,B1.out⟩
   ·
    rw[qw (fun h=>h1 h.1)] at HVV
    go_wp2_with fail
    go_ret
    exact⟨yc HVV.out,B1.out⟩
theorem cut_get(s:ByteArray)(k j:Nat)(h:k+j<s.size):(s.extract k s.size)[j]'(by rw[xk];omega)=s[k+j]:=by
 rw[ByteArray.getElem_extract]
theorem ggram_at{w:World}(s:ByteArray)(k:Nat)(h:k+2<s.size)(hs:s.size≤100000)(g:Nat)(hg:qjm s[k] s[k+1] s[k+2]=g) :
  Calls Tryz.prog 150 #[.string (s.extract k s.size)] w fun r w'=>r= .returned (.int .i64 (g:Int))∧∃m,w'=w.drewN m :=
 ggram_any (s.extract k s.size) (by rw[xk];omega) (by rw[xk];omega) g (by
  rw[←hg,cut_get s k 0 (by omega),cut_get s k 1 (by omega),cut_get s k 2 h]
  rfl)
section
set_option maxRecDepth 100000
open Go.RowKit Go.Maps Go.Sort
theorem xy{P : Program}{f : FuncId}{B g : Func}(h : P.funcs[f]? = some g)(hb : g = { B with name := g.name })(hn : (g.name == "runtime.NumGoroutine") = false) : Bears P f B := ⟨g.name, hn, h.trans (congrArg some hb)⟩
def gkren:Go.Shelf.Ren:=⟨fun | 6=>151 | 7=>152 | 8=>180 | 9=>181 | 10=>182 | 11=>213 | 12=>214 | 13=>101 | 14=>229 | 15=>230 | 16=>231 | 17=>232 | 18=>233 | 19=>234 | 20=>235 | 21=>236 | 22=>237 | 23=>145 | 24=>146 | 25=>244 | 26=>172 | 27=>173 | 28=>245 | 29=>246 | 30=>247 | 31=>251 | n=>n,fun | 0=>0 | 1=>1 | 2=>2 | 3=>210 | 4=>4 | 5=>5 | 6=>6 | 7=>7 | 8=>8 | 9=>9 | 10=>10 | 11=>11 | 12=>12 | 13=>13 | 14=>14 | 15=>15 | 16=>16 | 17=>17 | 18=>18 | 19=>19 | 20=>20 | 21=>21 | 23=>208 | 24=>58 | 25=>211 | 26=>3 | 27=>212 | 28=>213 | 29=>214 | 32=>233 | 33=>193 | 34=>256 | 35=>257 | 36=>160 | 37=>119 | 38=>267 | 39=>196 | 40=>197 | 41=>268 | 42=>269 | 43=>270 | 44=>271 | 45=>202 | 46=>272 | 47=>204 | 48=>102 | 49=>205 | 50=>206 | 51=>227 | 52=>228 | 53=>229 | 54=>277 | 55=>231 | 56=>278 | 57=>250 | 58=>154 | 59=>284 | 60=>258 | 61=>295 | 62=>296 | 63=>297 | 64=>298 | 65=>299 | 66=>118 | 67=>300 | 68=>301 | 69=>302 | 70=>273 | 71=>303 | 72=>304 | 73=>305 | 74=>306 | 75=>307 | n=>n,fun n=>n⟩
theorem gklays:Go.Proofs.SlLaysZI.n7 Tryz.prog gkren:={
 mixed:=by kernel_rfl
 f7:=xy Tryz.func152 (by kernel_rfl) (by kernel_rfl)
 f10:=xy Tryz.func182 (by kernel_rfl) (by kernel_rfl)
 t0:=Tryz.underlying0
 a0:=Tryz.isAgg0
 z0:=Tryz.sizeOf0
 v0:=Tryz.zeroValue0
 t4:=Tryz.underlying4
 a4:=Tryz.isAgg4
 z4:=Tryz.sizeOf4
 v4:=Tryz.zeroValue4
 t23:=Tryz.underlying208
 a23:=Tryz.isAgg208
 z23:=Tryz.sizeOf208
 v23:=Tryz.zeroValue208
 t26:=Tryz.underlying3
 a26:=Tryz.isAgg3
 z26:=Tryz.sizeOf3
 v26:=Tryz.zeroValue3
 t27:=Tryz.underlying212
 a27:=Tryz.isAgg212
 z27:=Tryz.sizeOf212
 v27:=Tryz.zeroValue212
 t28:=Tryz.underlying213
 a28:=Tryz.isAgg213
 z28:=Tryz.sizeOf213
 v28:=Tryz.zeroValue213
 t33:=Tryz.underlying193
 a33:=Tryz.isAgg193
 z33:=Tryz.sizeOf193
 v33:=Tryz.zeroValue193
 }
def gdren:Go.Shelf.Ren:=⟨fun | 6=>151 | 7=>152 | 8=>180 | 9=>181 | 10=>182 | 11=>213 | 12=>214 | 13=>101 | 14=>229 | 15=>230 | 16=>231 | 17=>232 | 18=>233 | 19=>234 | 20=>235 | 21=>236 | 22=>237 | 23=>145 | 24=>146 | 25=>244 | 26=>172 | 27=>173 | 28=>245 | 29=>246 | 30=>247 | 31=>251 | n=>n,fun | 0=>0 | 1=>1 | 2=>2 | 3=>3 | 4=>4 | 5=>5 | 6=>6 | 7=>7 | 8=>8 | 9=>9 | 10=>10 | 11=>11 | 12=>12 | 13=>13 | 14=>14 | 15=>15 | 16=>16 | 17=>17 | 18=>18 | 19=>19 | 20=>20 | 21=>21 | 23=>208 | 24=>58 | 25=>211 | 26=>3 | 27=>212 | 28=>213 | 29=>214 | 32=>233 | 33=>193 | 34=>256 | 35=>257 | 36=>160 | 37=>119 | 38=>267 | 39=>196 | 40=>197 | 41=>268 | 42=>269 | 43=>270 | 44=>271 | 45=>202 | 46=>272 | 47=>204 | 48=>102 | 49=>205 | 50=>206 | 51=>227 | 52=>228 | 53=>229 | 54=>277 | 55=>231 | 56=>278 | 57=>250 | 58=>154 | 59=>284 | 60=>258 | 61=>295 | 62=>296 | 63=>297 | 64=>298 | 65=>299 | 66=>118 | 67=>300 | 68=>301 | 69=>302 | 70=>273 | 71=>303 | 72=>304 | 73=>305 | 74=>306 | 75=>307 | n=>n,fun n=>n⟩
theorem gdlays:Go.Proofs.SlLaysZI.n6 Tryz.prog gdren:={
 mixed:=by kernel_rfl
 f6:=xy Tryz.func151 (by kernel_rfl) (by kernel_rfl)
 f8:=xy Tryz.func180 (by kernel_rfl) (by kernel_rfl)
 f11:=xy Tryz.func213 (by kernel_rfl) (by kernel_rfl)
 t0:=Tryz.underlying0
 a0:=Tryz.isAgg0
 z0:=Tryz.sizeOf0
 v0:=Tryz.zeroValue0
 t24:=Tryz.underlying58
 a24:=Tryz.isAgg58
 z24:=Tryz.sizeOf58
 v24:=Tryz.zeroValue58
 t26:=Tryz.underlying3
 a26:=Tryz.isAgg3
 z26:=Tryz.sizeOf3
 v26:=Tryz.zeroValue3
 t28:=Tryz.underlying213
 a28:=Tryz.isAgg213
 z28:=Tryz.sizeOf213
 v28:=Tryz.zeroValue213
 i26:=by kernel_rfl
 }
def gmren:Go.Shelf.Ren:=⟨fun | 5=>181 | 7=>214 | 8=>101 | 10=>229 | 11=>230 | 12=>231 | 13=>232 | 14=>233 | 15=>234 | 16=>235 | 17=>236 | 18=>237 | 19=>145 | 20=>146 | 30=>244 | 31=>172 | 32=>173 | 33=>245 | 34=>246 | 35=>247 | 40=>251 | n=>n,fun | 0=>0 | 1=>1 | 2=>2 | 3=>3 | 4=>4 | 5=>5 | 6=>6 | 7=>7 | 8=>8 | 9=>9 | 10=>10 | 11=>11 | 12=>12 | 13=>13 | 14=>14 | 15=>15 | 16=>16 | 17=>17 | 18=>18 | 19=>19 | 20=>20 | 21=>21 | 22=>58 | 23=>58 | 24=>233 | 25=>3 | 30=>257 | 31=>160 | 32=>119 | 34=>267 | 35=>196 | 36=>197 | 37=>268 | 38=>269 | 39=>270 | 40=>271 | 41=>202 | 42=>272 | 43=>204 | 44=>102 | 45=>205 | 46=>206 | 53=>227 | 54=>228 | 55=>229 | 56=>277 | 57=>231 | 58=>278 | 59=>193 | 63=>250 | 64=>154 | 65=>284 | 67=>258 | 68=>295 | 69=>296 | 70=>297 | 71=>298 | 72=>299 | 73=>118 | 74=>300 | 75=>301 | 76=>302 | 77=>273 | 78=>303 | 79=>304 | 80=>305 | 81=>306 | 82=>307 | n=>n,fun n=>n⟩
theorem gmlays:Go.Proofs.SlLaysM.n5 Tryz.prog gmren:={
 mixed:=by kernel_rfl
 f5:=xy Tryz.func181 (by kernel_rfl) (by kernel_rfl)
 f7:=xy Tryz.func214 (by kernel_rfl) (by kernel_rfl)
 f8:=Tryz.func101.trans (congrArg some (by kernel_rfl))
 f10:=xy Tryz.func229 (by kernel_rfl) (by kernel_rfl)
 f11:=xy Tryz.func230 (by kernel_rfl) (by kernel_rfl)
 f12:=xy Tryz.func231 (by kernel_rfl) (by kernel_rfl)
 f13:=xy Tryz.func232 (by kernel_rfl) (by kernel_rfl)
 f14:=xy Tryz.func233 (by kernel_rfl) (by kernel_rfl)
 f15:=xy Tryz.func234 (by kernel_rfl) (by kernel_rfl)
 f16:=xy Tryz.func235 (by kernel_rfl) (by kernel_rfl)
 f17:=xy Tryz.func236 (by kernel_rfl) (by kernel_rfl)
 f18:=xy Tryz.func237 (by kernel_rfl) (by kernel_rfl)
 f19:=Tryz.func145.trans (congrArg some (by kernel_rfl))
 f20:=Tryz.func146.trans (congrArg some (by kernel_rfl))
 f30:=xy Tryz.func244 (by kernel_rfl) (by kernel_rfl)
 f31:=Tryz.func172.trans (congrArg some (by kernel_rfl))
 f32:=Tryz.func173.trans (congrArg some (by kernel_rfl))
 f33:=xy Tryz.func245 (by kernel_rfl) (by kernel_rfl)
 f34:=xy Tryz.func246 (by kernel_rfl) (by kernel_rfl)
 f35:=xy Tryz.func247 (by kernel_rfl) (by kernel_rfl)
 f40:=xy Tryz.func251 (by kernel_rfl) (by kernel_rfl)
 t0:=Tryz.underlying0
 a0:=Tryz.isAgg0
 z0:=Tryz.sizeOf0
 v0:=Tryz.zeroValue0
 t3:=Tryz.underlying3
 a3:=Tryz.isAgg3
 z3:=Tryz.sizeOf3
 v3:=Tryz.zeroValue3
 t4:=Tryz.underlying4
 a4:=Tryz.isAgg4
 z4:=Tryz.sizeOf4
 v4:=Tryz.zeroValue4
 t5:=Tryz.underlying5
 a5:=Tryz.isAgg5
 z5:=Tryz.sizeOf5
 v5:=Tryz.zeroValue5
 t9:=Tryz.underlying9
 a9:=Tryz.isAgg9
 z9:=Tryz.sizeOf9
 v9:=Tryz.zeroValue9
 t22:=Tryz.underlying58
 a22:=Tryz.isAgg58
 z22:=Tryz.sizeOf58
 v22:=Tryz.zeroValue58
 t23:=Tryz.underlying58
 a23:=Tryz.isAgg58
 z23:=Tryz.sizeOf58
 v23:=Tryz.zeroValue58
 t25:=Tryz.underlying3
 a25:=Tryz.isAgg3
 z25:=Tryz.sizeOf3
 v25:=Tryz.zeroValue3
 t32:=Tryz.underlying119
 a32:=Tryz.isAgg119
 z32:=Tryz.sizeOf119
 v32:=Tryz.zeroValue119
 t35:=Tryz.underlying196
 a35:=Tryz.isAgg196
 z35:=Tryz.sizeOf196
 v35:=Tryz.zeroValue196
 t36:=Tryz.underlying197
 a36:=Tryz.isAgg197
 z36:=Tryz.sizeOf197
 v36:=Tryz.zeroValue197
 t41:=Tryz.underlying202
 a41:=Tryz.isAgg202
 z41:=Tryz.sizeOf202
 v41:=Tryz.zeroValue202
 t44:=Tryz.underlying102
 a44:=Tryz.isAgg102
 z44:=Tryz.sizeOf102
 v44:=Tryz.zeroValue102
 t46:=Tryz.underlying206
 a46:=Tryz.isAgg206
 z46:=Tryz.sizeOf206
 v46:=Tryz.zeroValue206
 t53:=Tryz.underlying227
 a53:=Tryz.isAgg227
 z53:=Tryz.sizeOf227
 v53:=Tryz.zeroValue227
 t57:=Tryz.underlying231
 a57:=Tryz.isAgg231
 z57:=Tryz.sizeOf231
 v57:=Tryz.zeroValue231
 t63:=Tryz.underlying250
 a63:=Tryz.isAgg250
 z63:=Tryz.sizeOf250
 v63:=Tryz.zeroValue250
 t64:=Tryz.underlying154
 a64:=Tryz.isAgg154
 z64:=Tryz.sizeOf154
 v64:=Tryz.zeroValue154
 }
theorem gsorts(m:Nat):AnyZI.SortsIn Tryz.prog gdren Fence.wide m :=
 ⟨fun blk off cap ss W hH hblk hsz=>callsIn_wide.2 (AnyM.slices_Sort_int gmlays blk off cap ss W hH hblk hsz),
  fun p cap W=>callsIn_wide.2 (AnyM.slices_Sort_int_none gmlays p cap W)⟩
theorem gkeys_any(mb:Option Nat)(W:World):Calls Tryz.prog 152 #[.map mb] W fun e w'=>e= .returned (.func (.func 182) #[] #[.pointer (some ⟨W.heap.size,0,none⟩)])∧w'=W.alloc (.cells #[.map mb] 208) :=
 (callsIn_wide (n:=5)).1 (AnyZI.keys_in gklays Fence.wide 5 trivial rfl mb W)
theorem gsorted_any(b nn:Nat)(D0:DataW Unit)(w:World)(hown:w.ownsMap Tryz.prog 3 (unitElem (H:=Unit)) b nn D0)(hmax:Maps.size D0≤maxLen)(hbytes:Maps.size D0*8≤140737488355328)(w1:World)(hw1:w1=w.alloc (.cells #[.map (some b)] 208)) :
  Calls Tryz.prog 151 #[.func (.func 182) #[] #[.pointer (some ⟨w.heap.size,0,none⟩)]] w1 fun e w'=>∃(v:Value) (ss:List Int),e= .returned v∧ss.Perm (intKeys D0)∧
   w'.ownsRow w1.heap.size 3 1 v ss.length ((ss.mergeSort (fun x y=>decide (x≤y))).map encZ)∧(v= .slice none 0 0↔ss=[])∧Below w1.heap.size w1 w':=by
 subst hw1
 have hbl:=hown.lt
 have hseq:SeqGives Fence.wide 2 Tryz.prog 182 #[.pointer (some ⟨w.heap.size,0,none⟩)] encZ (fun ss=>ss.Perm (intKeys D0)) (Maps.size D0) (w.alloc (.cells #[.map (some b)] 208)) :=
  AnyZI.keys_gives (ρ:=gkren) { gklays with } Fence.wide _ trivial rfl (by omega) w.heap.size b nn D0 _ (by simp) (by simp) (by
   obtain⟨es,clock,hb,Ft,hs,hD⟩:=hown
   exact⟨es,clock,(Below.heap_alloc _ _ b hbl).trans hb,Ft,hs,hD⟩)
 exact(callsIn_wide (n:=5)).1 (AnyZI.sorted_in gdlays Fence.wide 5 trivial trivial trivial trivial rfl (by omega) (gsorts _) (enters_of Tryz.func181 (by kernel_rfl) rfl) 182 #[.pointer (some ⟨w.heap.size,0,none⟩)] trivial (enters_of Tryz.func182 (by kernel_rfl) rfl) _ _ hmax hbytes _ hseq)
end
section
open Go.RowKit Go.Maps Go.Sort
structure SetN (D:DataW Unit) (P:List Nat):Prop where
 map:IsMap D
 has:∀x:Int,Maps.has D (.int .i64 x)=decide (x∈jf P)
theorem SetN.nil:SetN (.map []) []:=⟨isMap_empty,fun _=>rfl⟩
theorem SetN.put{D:DataW Unit}{P:List Nat}(h:SetN D P)(g:Nat):SetN (D.put (.int .i64 (g:Int)) (.agg [])) (P++[g]):=by
 refine⟨h.map.put _ _,fun y => ?_⟩
 by_cases hy:y=(g:Int)
 ·
  subst hy
  rw[has_put_same h.map (show WideAt.IsKeyLit (Lit.int .i64 (g:Int)) from trivial)]
  simp[jf]
 ·
  rw[has_put_other (fun e=>hy (by injection e)),h.has y]
  simp[jf,hy]
theorem once_of:∀P:List Nat,∃u:List Nat,u.Nodup∧∀x,x∈u↔x∈P
 | []=>⟨[],List.nodup_nil,fun _=>Iff.rfl⟩
 | a :: P=>by
  obtain⟨u,h1,h2⟩:=once_of P
  by_cases ha:a∈P
  ·
   exact⟨u,h1,fun x=>by
    rw[h2 x,zv]
    exact⟨.inr,fun h=>h.elim (fun e=>e ▸ ha) id⟩⟩
  ·
   exact⟨a :: u,List.nodup_cons.2 ⟨fun h=>ha ((h2 a).1 h),h1⟩,fun x=>by rw[zv,zv,h2 x]⟩
theorem qkx{P:List Nat}{z:Int}:z∈jf P↔∃g∈P,(g:Int)=z:=za
theorem qkw{P:List Nat}{g:Nat}:(g:Int)∈jf P↔g∈P:=by
 rw[qkx]
 constructor
 ·
  rintro⟨x,hx,e⟩
  have:x=g:=by omega
  exact this ▸ hx
 ·
  exact fun h=>⟨g,h,rfl⟩
def MapN(w:World)(B n:Nat)(D:DataW Unit):Prop:=w.ownsMap Tryz.prog 3 (unitElem (H:=Unit)) B n D
theorem MapN.out{w w':World}{B n:Nat}{D:DataW Unit}{X:Nat→Prop}(h:MapN w B n D)(ho:Out w w' X)(hB:¬X B):MapN w' B n D:=by
 have hlt:=h.lt
 obtain⟨es,clock,hb,rest⟩:=h
 exact⟨es,clock,(ho.block B hlt hB).trans hb,rest⟩
theorem SetN.perm{w:World}{B n:Nat}{D:DataW Unit}{P:List Nat}(h:SetN D P)(hown:MapN w B n D):∃u:List Nat,u.Nodup∧(∀x,x∈u↔x∈P)∧(jf u).Perm (intKeys D):=by
 obtain⟨u,h1,h2⟩:=once_of P
 have hc:CollectedI D (fun _=>false) (jf u):=by
  refine⟨List.pairwise_map.2 (h1.imp fun {a b} hab e=>hab (by omega)),fun x => ?_⟩
  rw[h.has x,decide_eq_true_iff,qkx,qkx]
  constructor
  ·
   rintro⟨g,hg,e⟩
   exact⟨⟨g,(h2 g).1 hg,e⟩,rfl⟩
  ·
   rintro⟨⟨g,hg,e⟩, -⟩
   exact⟨g,(h2 g).2 hg,e⟩
 exact⟨u,h1,h2,hc.perm hown (int_keyed Tryz.underlying3) Tryz.underlying3 (fun _=>rfl)⟩
theorem size_keys{D:DataW Unit}(h:IsMap D):Maps.size D=(intKeys D).length:=by
 obtain⟨es,rfl⟩:=h
 simp[Maps.size,intKeys]
theorem SetN.size{w:World}{B n:Nat}{D:DataW Unit}{P:List Nat}(h:SetN D P)(hown:MapN w B n D):Maps.size D≤P.length:=by
 obtain⟨u,h1,h2,hp⟩:=h.perm hown
 rw[size_keys h.map,←hp.length_eq,zq]
 exact List.Nodup.length_le_of_subset h1 fun x hx=>(h2 x).1 hx
theorem SetN.keys{w:World}{B n:Nat}{D:DataW Unit}{P:List Nat}(h:SetN D P)(hown:MapN w B n D){ss:List Int}(hp:ss.Perm (intKeys D)) :
  ∃t:List Nat,Rise P t∧(ss.mergeSort (fun x y=>decide (x≤y))).map encZ=iv (jf t)∧ss.length=t.length:=by
 obtain⟨u,h1,h2,hu⟩:=h.perm hown
 have hsu:ss.Perm (jf u):=hp.trans hu.symm
 have hz:=List.mergeSort_perm ss (fun x y=>decide (x≤y))
 have hzu:=hz.trans hsu
 have tr:∀a b c:Int,decide (a≤b)=true→decide (b≤c)=true→decide (a≤c)=true:=fun a b c h1 h2=>by simp only[decide_eq_true_eq] at *;omega
 have tot:∀a b:Int,(decide (a≤b)||decide (b≤a))=true:=fun a b=>by simp only[Bool.or_eq_true,decide_eq_true_eq];omega
 have hord:=qdn (le:=fun x y:Int=>decide (x≤y)) tr tot ss
 obtain⟨zs,hzs⟩:∃zs,ss.mergeSort (fun x y:Int=>decide (x≤y))=zs:=⟨_,rfl⟩
 rw[hzs] at hord hzu hz ⊢
 have hnd:zs.Nodup:=hzu.nodup_iff.2 (List.pairwise_map.2 (h1.imp fun {a b} hab e=>hab (by omega)))
 have hnat:∀z∈zs,((z.toNat:Nat):Int)=z:=fun z hz=>by
  obtain⟨g,_,rfl⟩:=qkx.1 (hzu.mem_iff.1 hz)
  rfl
 have hit:jf (zs.map Int.toNat)=zs:=by
  rw[jf,uk]
  conv=>rhs;rw[←List.map_id zs]
  exact qal fun z hz=>hnat z hz
 refine⟨zs.map Int.toNat,⟨?_,fun x => ?_⟩,by rw[hit];rfl,by rw[qz];exact hz.length_eq.symm⟩
 ·
  refine List.pairwise_map.2 ((hord.and hnd).imp_of_mem fun {a b} ha hb hab => ?_)
  have e1:=hnat a ha
  have e2:=hnat b hb
  have h3:=hab.1
  have h4:=hab.2
  simp only[decide_eq_true_eq] at h3
  omega
 ·
  rw[←qkw,hit,hzu.mem_iff,qkw,h2 x]
end
section
open Go.RowKit Go.Maps Go.Sort
theorem qms{w:World}(l:List ByteArray){c:Nat}{A:Option Addr}(h:Rd w 0 w.heap.size A c (sv l))(hsz:∀s∈l,s.size≤100000)(hlen:l.length≤5000) :
  Calls Tryz.prog 107 #[.slice A l.length c] w fun r w'=>∃(t:List Nat) (A':Option Addr) (c':Nat),r= .returned (.slice A' t.length c')∧Rise (qcc (qdh l)) t∧
   w'.ownsRow w.heap.size 3 1 (.slice A' t.length c') t.length (iv (jf t))∧Below w.heap.size w w':=by
 have hl:=h.len
 have hm:=h.cap
 rw[xr] at hl
 unfold maxLen at hm
 have H:=qa h
 have H1:Hid (∀k (hk:k<l.length),l[k].size≤100000):=fun k hk=>hsz _ (ql hk)
 clear h hsz
 have hmm:=@run_makeMap Tryz.prog
 go_enter Tryz.func107,Tryz.ntmps107
 go_wp2_with fail
 go_loopw [10] (fun x10 wr=>∃(i n:Nat) (D:DataW Unit),i≤l.length∧x10= .int .i64 (i:Int)∧MapN wr w.heap.size n D∧n≤100000*i∧SetN D (qcc (qdh (l.take i)))∧(qcc (qdh (l.take i))).length≤100000*i∧Below w.heap.size w wr∧w.heap.size<wr.heap.size) (fun x10 _=>l.length-(intOf x10).toNat)
 case atStart=>exact⟨0,0,.map [],qj _,rfl,World.ownsMap_made _ _ _ _,qc _,SetN.nil,qc _,(Below.refl _ _).alloc (qc _) _,by simp⟩
 case round =>
  clear hmm
  obtain⟨i,n,D,hi,rfl,hmp,hn,hset,hal,hb,hgt⟩:=hrel
  obtain⟨wy,hwy⟩:∃wy,wy=wr:=⟨_,rfl⟩
  subst hwy
  have HM:=qa hmp
  have HS:=qa hset
  have HA:=qa hal
  have HB:=qa hb
  clear hmp hset hal hb
  by_cases hlt:i<l.length
  ·
   have ik:(i:Int)<(l.length:Int):=by omega
   obtain⟨b1,off1,rfl,_,hb1,hcell0⟩:=H.out.str hlt
   have hss:=H1.out i hlt
   have HTK:=qa (bytG_take l i hlt)
   obtain⟨s,hs⟩:∃s,l[i]=s:=⟨_,rfl⟩
   rw[hs] at hcell0 hss HTK
   clear hs
   have hcell:wy.cell? ⟨b1,off1+i,none⟩=some (.string s):=(HB.out.cell hb1).trans hcell0
   obtain⟨N,hN⟩:∃N,s.size-2=N:=⟨_,rfl⟩
   have hN1:N≤s.size:=by omega
   have hN2:N=0∨N+2=s.size:=by omega
   have HPL:=qa (gplaces_any (w:=wy) s hss N hN)
   have HGL:Hid ((qcy s.data.toList).take N=qcy s.data.toList):=qp (by rw[qbi,jo];show s.size-2≤N;omega)
   clear hN hcell0
   go_wp2_with fail
   refine HPL.out.mono ?_
   rintro r w' ⟨rfl,rfl⟩
   clear HPL
   go_wp2_with fail
   go_loopw [16] (fun x16 wr=>∃(k n:Nat) (D:DataW Unit),k≤N∧x16= .int .i64 (k:Int)∧MapN wr w.heap.size n D∧n≤100000*i+k∧SetN D (qcc (qdh (l.take i))++(qcy s.data.toList).take k)∧Below w.heap.size w wr∧w.heap.size<wr.heap.size) (fun x16 _=>N-(intOf x16).toNat)
   case atStart=>exact⟨0,n,D,qj _,rfl,HM.out,hn,by rw[uh,jd];exact HS.out,HB.out,hgt⟩
   case round =>
    clear HM HS HB hn hgt hcell
    obtain⟨k,n,D,hk,rfl,hmp,hn,hset,hb,hgt⟩:=hrel
    obtain⟨wz,hwz⟩:∃wz,wz=wr:=⟨_,rfl⟩
    subst hwz
    have HM:=qa hmp
    have HS:=qa hset
    have HB:=qa hb
    clear hmp hset hb
    by_cases hkn:k<N
    ·
     have jk:(k:Int)<(N:Int):=by omega
     have hk2:k+2<s.size:=by omega
     have hk1:k<s.size:=by omega
     have hkle:k≤s.size:=by omega
     obtain⟨g,hg⟩:∃g,qjm s[k] s[k+1] s[k+2]=g:=⟨_,rfl⟩
     have HGA:=qa (ggram_at (w:=wz) s k hk2 hss g hg)
     have hgl:g<16777216:=by rw[←hg];exact gramN_lt _ _ _
     have HSN:Hid (SetN (D.put (.int .i64 (g:Int)) (.agg [])) (qcc (qdh (l.take i))++(qcy s.data.toList).take (k+1))):=by
      unfold Hid
      rw[gramsS_take s k hk2,hg,←qm]
      exact HS.out.put g
     have HKY:=qa (keyOf_int_mk (P:=Tryz.prog) Tryz.underlying3 (q:= .i64) (a:=(g:Int)) (by go_wf))
     clear hg
     go_wp2_with fail
     refine HGA.out.mono ?_
     rintro r w' ⟨rfl,m,rfl⟩
     have HM1:Hid (MapN (wz.drewN m) w.heap.size n D):=HM.out.out (X:=fun _=>False) ((Out.refl _ _).drewN m) (fun h=>h)
     have HB1:=qa (js HB.out m)
     have hgt1:w.heap.size<(wz.drewN m).heap.size:=hgt
     generalize wz.drewN m=w1 at *
     go_wp2_with (at_mapUpdate;refine wpList_mapUpdate_own _ rfl _ _ _ 208 rfl 3 210 (int_keyed Tryz.underlying3) Tryz.underlying208 (unitElem (H:=Unit)) w.heap.size n D rfl HM1.out (by unfold maxLen;omega) _ _ _ rfl rfl HKY.out _ [] unitElem_mk ?_;refine qbj ?_)
     refine⟨?_⟩
     intro w2 hm2 hg2
     have HM2:Hid (MapN w2 w.heap.size (n+1) _):=hm2
     have HB2:Hid (Below w.heap.size w w2):=HB1.out.grown hg2 (by omega) (fun j hj=>by cases hj;exact qc _)
     have hgt2:w.heap.size<w2.heap.size:=zh hgt1 hg2.size
     clear hm2 hg2
     go_wp2_with fail
     go_roundw
     case rel=>exact⟨k+1,n+1,_,by omega,by go_num,HM2.out,by omega,HSN.out,HB2.out,hgt2⟩
     case measure=>simp[intOf] <;> omega
    ·
     have jk:¬(k:Int)<(N:Int):=by omega
     obtain rfl:k=N:=by omega
     have HSN:Hid (SetN D (qcc (qdh (l.take (i+1))))):=by
      unfold Hid
      rw[HTK.out,←HGL.out]
      exact HS.out
     have HAL:Hid ((qcc (qdh (l.take (i+1)))).length≤100000*(i+1)):=by
      unfold Hid
      have h1:(qcy s.data.toList).length≤100000:=by
       rw[qbi,jo]
       exact zc (Nat.sub_le _ _) hss
      have h2:=HA.out
      rw[HTK.out,qd]
      omega
     go_wp2_with fail
     go_roundw
     case rel=>exact⟨i+1,n,D,by omega,by go_num,HM.out,by omega,HSN.out,HAL.out,HB.out,hgt⟩
     case measure=>simp[intOf] <;> omega
  ·
   have ik:¬(i:Int)<(l.length:Int):=by omega
   have hkt:l.take i=l:=qp (by omega)
   rw[hkt] at HS HA
   have hsd:=HS.out.size HM.out
   have hal:=HA.out
   have HSO:=qa (gsorted_any w.heap.size n D wy HM.out (by unfold maxLen;omega) (by omega) _ rfl)
   have HKE:=qa (gkeys_any (some w.heap.size) wy)
   obtain⟨w1,hw1⟩:∃w1,wy.alloc (.cells #[.map (some w.heap.size)] 208)=w1:=⟨_,rfl⟩
   have HB1:Hid (Below w.heap.size w w1):=by unfold Hid;rw[←hw1];exact HB.out.alloc (by omega) _
   have hgt1:w.heap.size≤w1.heap.size:=by rw[←hw1];simp;omega
   rw[hw1] at HSO HKE
   clear hkt hw1 hsd hal
   go_wp2_with fail
   refine HKE.out.mono ?_
   rintro r w' ⟨rfl,rfl⟩
   go_wp2_with fail
   refine HSO.out.mono ?_
   rintro r w2 ⟨v,ss,rfl,hp,hown, -,hb2⟩
   obtain⟨t,hri,hiv,htl⟩:=HS.out.keys HM.out hp
   rw[hiv,htl] at hown
   have HRI:=qa hri
   have HO:=qa hown
   have HB2:=qa (zz HB1.out hb2 hgt1)
   clear hri hown hb2 hp hiv htl
   obtain⟨A2,c2,rfl, -, -⟩:=qbp _ HO.out
   go_wp2_with fail
   go_ret
   exact⟨t,A2,c2,rfl,HRI.out,j9 HO.out hgt1,HB2.out⟩
end
end Go.Proofs.YtjfecojdagmacaaGreat
