/-
  Lemmas.
-/
import Derived.Test.YtnjkipnklpkaoaaGreatA14
namespace Go.Proofs.YtnjkipnklpkaoaaGreat
open Go.RowKit
set_option maxRecDepth 20000
set_option maxHeartbeats 16000000
set_option linter.unusedSimpArgs false
set_option linter.unusedVariables false
def vr(w:World)(lo hi:Nat)(A:Option Addr)(c:Nat)(rs:List (List Vl)):Prop:=∃rA rc,Rows2 w lo hi A c rs rA rc
section
variable {w w':World}{lo hi lo' hi' c B:Nat}{A:Option Addr}{rs:List (List Vl)}
theorem vr.below(h:vr w lo hi A c rs)(hb:Below B w w')(hB:hi≤B):vr w' lo hi A c rs:=by
 obtain⟨rA,rc,h⟩:=h
 exact⟨rA,rc,h.below hb hB⟩
theorem vr.drewN(h:vr w lo hi A c rs)(m:Nat):vr (w.drewN m) lo hi A c rs:=by
 obtain⟨rA,rc,h⟩:=h
 exact⟨rA,rc,h.drewN m⟩
theorem vr.wide(h:vr w lo hi A c rs)(h1:lo'≤lo)(h2:hi≤hi'):vr w lo' hi' A c rs:=by
 obtain⟨rA,rc,h⟩:=h
 exact⟨rA,rc,h.wide h1 h2⟩
theorem vr.len(h:vr w lo hi A c rs):rs.length≤c∧c≤9223372036854775807:=by
 obtain⟨rA,rc,h⟩:=h
 exact h.len
theorem vr.get(h:vr w lo hi A c rs){j:Nat}(hj:j<rs.length) :
  ∃b off A' c',A=some ⟨b,off,none⟩∧lo≤b∧b<hi∧w.cell? ⟨b,off+j,none⟩=some (.slice A' rs[j].length c')∧Row w lo hi A' c' rs[j]:=by
 obtain⟨rA,rc,h⟩:=h
 obtain⟨b,off,h1,h2,h3,h4,h5⟩:=h.get hj
 exact⟨b,off,_,_,h1,h2,h3,h4,h5⟩
theorem vr.nil(w:World)(lo hi:Nat):vr w lo hi none 0 []:=⟨fun _=>none,fun _=>0,Els.nil _ _ _ _ _,fun j hj=>absurd hj (jp j)⟩
end
def qax(w:World)(lo hi:Nat)(A:Option Addr)(c:Nat)(gs:List (List (List Vl))):Prop :=
 ∃(gA:Nat→Option Addr) (gc:Nat→Nat),Els w lo hi A c 1 gs.length (fun j i=>(gs[j]?).bind fun g=>[Value.slice (gA j) g.length (gc j)][i]?)∧∀j (hj:j<gs.length),vr w lo hi (gA j) (gc j) gs[j]
section
variable {w w':World}{lo hi lo' hi' c B:Nat}{A:Option Addr}{gs:List (List (List Vl))}
theorem qax.below(h:qax w lo hi A c gs)(hb:Below B w w')(hB:hi≤B):qax w' lo hi A c gs:=by
 obtain⟨gA,gc,h1,h2⟩:=h
 exact⟨gA,gc,h1.below hb hB,fun j hj=>(h2 j hj).below hb hB⟩
theorem qax.drewN(h:qax w lo hi A c gs)(m:Nat):qax (w.drewN m) lo hi A c gs:=by
 obtain⟨gA,gc,h1,h2⟩:=h
 exact⟨gA,gc,h1.keep fun _ _ _=>rfl,fun j hj=>(h2 j hj).drewN m⟩
theorem qax.wide(h:qax w lo hi A c gs)(h1:lo'≤lo)(h2:hi≤hi'):qax w lo' hi' A c gs:=by
 obtain⟨gA,gc,h3,h4⟩:=h
 exact⟨gA,gc,h3.wide h1 h2,fun j hj=>(h4 j hj).wide h1 h2⟩
theorem qax.len(h:qax w lo hi A c gs):gs.length≤c∧c≤9223372036854775807:=by
 obtain⟨gA,gc,h1,h2⟩:=h
 exact⟨h1.len,by have:=h1.cap;simpa[maxLen] using this⟩
theorem qax.get(h:qax w lo hi A c gs){j:Nat}(hj:j<gs.length) :
  ∃b off A' c',A=some ⟨b,off,none⟩∧lo≤b∧b<hi∧w.cell? ⟨b,off+j,none⟩=some (.slice A' gs[j].length c')∧vr w lo hi A' c' gs[j]:=by
 obtain⟨gA,gc,h1,h2⟩:=h
 obtain⟨b,off,e,h3,h4,h5⟩:=h1.lies (by omega)
 have h6:=h5 j hj 0 (by omega)
 rw[qe hj,va,xx] at h6
 exact⟨b,off,_,_,e,h3,h4,h6,h2 j hj⟩
end
def qbu(w:World)(lo hi:Nat)(A:Option Addr)(c:Nat)(os:List Co):Prop :=
 ∃(oA:Nat→Option Addr) (oc:Nat→Nat),Els w lo hi A c 4 os.length (fun j i=>(os[j]?).bind fun o=>[Value.int .i64 o.kind,.int .i64 o.block,.int .i64 o.rounds,.slice (oA j) o.draws.length (oc j)][i]?)∧
  ∀j (hj:j<os.length),Rd w lo hi (oA j) (oc j) (iv os[j].draws)∧qj8 os[j].draws
section
variable {w w':World}{lo hi lo' hi' c B:Nat}{A:Option Addr}{os:List Co}
theorem qbu.below(h:qbu w lo hi A c os)(hb:Below B w w')(hB:hi≤B):qbu w' lo hi A c os:=by
 obtain⟨gA,gc,h1,h2⟩:=h
 exact⟨gA,gc,h1.below hb hB,fun j hj=>⟨(h2 j hj).1.below hb hB,(h2 j hj).2⟩⟩
theorem qbu.drewN(h:qbu w lo hi A c os)(m:Nat):qbu (w.drewN m) lo hi A c os:=by
 obtain⟨gA,gc,h1,h2⟩:=h
 exact⟨gA,gc,h1.keep fun _ _ _=>rfl,fun j hj=>⟨(h2 j hj).1.drewN m,(h2 j hj).2⟩⟩
theorem qbu.wide(h:qbu w lo hi A c os)(h1:lo'≤lo)(h2:hi≤hi'):qbu w lo' hi' A c os:=by
 obtain⟨gA,gc,h3,h4⟩:=h
 exact⟨gA,gc,h3.wide h1 h2,fun j hj=>⟨(h4 j hj).1.wide h1 h2,(h4 j hj).2⟩⟩
theorem qbu.len(h:qbu w lo hi A c os):os.length≤c∧c≤9223372036854775807:=by
 obtain⟨gA,gc,h1,h2⟩:=h
 exact⟨h1.len,by have:=h1.cap;simpa[maxLen] using this⟩
theorem qbu.get(h:qbu w lo hi A c os){j:Nat}(hj:j<os.length) :
  ∃b off A' c',A=some ⟨b,off,none⟩∧lo≤b∧b<hi∧w.cell? ⟨b,off+j*4,none⟩=some (.int .i64 os[j].kind)∧w.cell? ⟨b,off+j*4+1,none⟩=some (.int .i64 os[j].block)∧w.cell? ⟨b,off+j*4+2,none⟩=some (.int .i64 os[j].rounds)∧w.cell? ⟨b,off+j*4+3,none⟩=some (.slice A' os[j].draws.length c')∧
   Rd w lo hi A' c' (iv os[j].draws)∧qj8 os[j].draws:=by
 obtain⟨gA,gc,h1,h2⟩:=h
 obtain⟨b,off,e,h3,h4,h5⟩:=h1.lies (by omega)
 have g:=fun i hi=>h5 j hj i hi
 simp only[qe hj,vb] at g
 exact⟨b,off,_,_,e,h3,h4,g 0 (by omega),g 1 (by omega),g 2 (by omega),g 3 (by omega),h2 j hj⟩
end
def vg(rs:List (List Vl))(k:Nat):List Vl:=rs.map fun r=>r.getD k ⟨true,⟨#[]⟩⟩
theorem qa7(rs:List (List Vl))(k:Nat):(vg rs k).length=rs.length:=by simp[vg]
def qj9(n:Nat)(g:List (List Vl)):Prop:=0<g.length∧(∀r∈g,r.length=n)∧∀k,k<n→kj (vg g k)
instance (n:Nat) (g:List (List Vl)):Decidable (qj9 n g):=by unfold qj9;infer_instance
def ki(gs:List (List (List Vl))):Nat:=(gs.map List.length).sum
theorem qfz{gs:List (List (List Vl))}{i:Nat}(hi:i<gs.length):ki (gs.take (i+1))=ki (gs.take i)+gs[i].length:=by
 unfold ki
 rw[qg hi,jg,qbe]
 simp
theorem qjo(gs:List (List (List Vl)))(i:Nat):ki (gs.take i)≤ki gs:=by
 have h:ki gs=ki (gs.take i)+ki (gs.drop i):=by
  unfold ki
  rw[←qbe,←jg,zx]
 omega
def jaa(cols:Int)(gs:List (List (List Vl)))(os:List Co)(bits:Int):Prop :=
 1≤cols∧cols≤8∧(os.length:Int)=cols∧0≤bits∧bits≤65536∧(∀o∈os,qa3 o)∧ki gs≤4096∧∀g∈gs,qj9 os.length g
instance (cols:Int) (gs:List (List (List Vl))) (os:List Co) (bits:Int):Decidable (jaa cols gs os bits):=by unfold jaa;infer_instance
theorem fits_nil:kj []:=⟨qi _,fun v hv=>by cases hv⟩
theorem sgtexts_v{w:World}(L:List Vl){c:Nat}{A:Option Addr}(h:Row w 0 w.heap.size A c L)(hn:L.length≤1000000) :
  Calls Tryz.prog 48 #[.slice A L.length c] w fun r w'=>∃A' c',r= .returned (.slice A' (qw L).length c')∧w'.ownsRow w.heap.size 9 1 (.slice A' (qw L).length c') (qw L).length (sv (qw L))∧Below w.heap.size w w':=by
 obtain⟨hl,hm⟩:=h.len
 have H:=qa h
 clear h
 go_enter Tryz.func48,Tryz.ntmps48
 go_wp2_with fail
 go_loopw [3,8] (fun x i wr=>∃(k:Nat) (ys:List ByteArray) (A':Option Addr) (c' n:Nat),k≤L.length∧i= .int .i64 (k:Int)∧qw (L.take k)=ys∧ys.length=n∧n≤k∧x= .slice A' n c'∧wr.ownsRow w.heap.size 9 1 (.slice A' n c') n (sv ys)∧Below w.heap.size w wr) (fun _ i _=>L.length-(intOf i).toNat)
 case atStart=>exact⟨0,[],none,0,0,qi _,rfl,rfl,rfl,qc _,rfl,⟨rfl,.inl ⟨rfl,rfl⟩⟩,Below.refl _ _⟩
 case round =>
  obtain⟨k,ys,A',c',n,hk,rfl,hys,hyn,hnk,rfl,ho,hb⟩:=hrel
  have HY:=qa hys
  have HYN:=qa hyn
  have HO:=qa ho
  have HB:=qa hb
  have hsz:=hb.size
  clear ho hb hys hyn
  by_cases hlt:k<L.length
  ·
   have ik:(k:Int)<(L.length:Int):=by omega
   obtain⟨b,off,rfl,_,hbl,hc0,hc1⟩:=(H.out.below HB.out (qc _)).get hlt
   have hbw:b<wr.heap.size:=by omega
   have HT:=qa (qlf hlt)
   rw[HY.out] at HT
   generalize L[k].null=nb at *
   generalize L[k].s=s at *
   have HOA:=qa (HO.out.alloc (.cells #[.bool nb,.string s] 60))
   have HBA:=qa (HB.out.alloc hsz (.cells #[.bool nb,.string s] 60))
   cases nb with
   | true =>
    have HT2:Hid (qw (L.take (k+1))=ys):=by unfold Hid;rw[HT.out];simp
    clear HT
    go_wp2_with fail
    go_roundw
    case rel=>exact⟨k+1,ys,A',c',n,by omega,by go_num,HT2.out,HYN.out,by omega,rfl,HOA.out,HBA.out⟩
    case measure=>simp[intOf];omega
   | false =>
    obtain⟨zs,hzs⟩:∃zs,ys++[s]=zs:=⟨_,rfl⟩
    have HT2:Hid (qw (L.take (k+1))=zs):=by unfold Hid;rw[HT.out,←hzs];simp
    have hzl:zs.length=n+1:=by rw[←hzs,qd,HYN.out];rfl
    have HZL:=qa hzl
    have HZS:=qa hzs
    clear HT hzl hzs
    have HOB:=qa (HOA.out.alloc (.cells #[.string s] 9))
    have HBB:=qa (HBA.out.alloc (by simp;omega) (.cells #[.string s] 9))
    rw[←HYN.out] at HOB
    go_wp2_with (at_builtin;refine xz (v:= .slice A' n c') w.heap.size ys s rfl _ _ rfl rfl rfl rfl (by rw[za _ _ _ _ (by simp)];rfl) (by have:=HOB.out;rw[HYN.out] at this ⊢;exact this) (by rw[HYN.out];omega) (by simp;omega) ?_;intro A7 c7 w7 ho7 hg7;refine qaz ?_)
    have hb7:Below w.heap.size w w7:=HBB.out.grown hg7 (by simp;omega) (fun q hq=>(zk HOB.out (by rw[HYN.out];exact hq)).1)
    rw[HZS.out,HZL.out] at ho7
    have HO7:=qa ho7
    have HB7:=qa hb7
    have HZV:Hid (Value.slice A7 (ys.length+1) c7= .slice A7 (n+1) c7):=by unfold Hid;rw[HYN.out]
    clear ho7 hg7 hb7 HO HB HOA HBA HOB HBB
    refine⟨?_⟩
    go_wp2_with fail
    go_roundw
    case rel=>exact⟨k+1,zs,A7,c7,n+1,by omega,by go_num,HT2.out,HZL.out,by omega,HZV.out,HO7.out,HB7.out⟩
    case measure=>simp[intOf] <;> omega
  ·
   have ik:¬(k:Int)<(L.length:Int):=by omega
   have hke:L.take k=L:=qo (by omega)
   rw[hke] at HY
   go_wp2_with fail
   go_ret
   rw[HY.out,HYN.out]
   exact⟨_,_,rfl,HO.out,HB.out⟩
theorem colV_get{rs:List (List Vl)}{k i:Nat}(hi:i<rs.length)(hk:k<rs[i].length):(vg rs k)[i]? = some rs[i][k]:=by
 unfold vg
 rw[ke,qe hi,qap,List.getD,qe hk]
 rfl
theorem column_v{w:World}{rs:List (List Vl)}{c:Nat}{A:Option Addr}(h:vr w 0 w.heap.size A c rs)(i:Nat)(hi:∀r∈rs,i<r.length)(hn:rs.length≤1000000) :
  Calls Tryz.prog 34 #[.slice A rs.length c,.int .i64 (i:Int)] w fun r w'=>∃A' c',r= .returned (.slice A' rs.length c')∧Row w' w.heap.size w'.heap.size A' c' (vg rs i)∧Below w.heap.size w w':=by
 obtain⟨hl,hm⟩:=h.len
 obtain⟨n,hnn⟩:∃n,rs.length=n:=⟨_,rfl⟩
 have HL:Hid (rs.length=n):=hnn
 obtain⟨w1,xs0,hmake,ho1,hg1⟩:=qqe w n (by omega)
 have HO1:=qa ho1
 have HB1:=qa (qcd (qc _) hg1 (fun g hg=>by cases hg))
 have HX0:Hid (xs0.length=n*2):=ho1.1
 have HR:Hid (∀(W:World) (k:Nat) (hk:k<n),Below w.heap.size w W→∃b off b2 off2 m c' nb s,A=some ⟨b,off,none⟩∧b<w.heap.size∧b2<w.heap.size∧W.cell? ⟨b,off+k,none⟩=some (.slice (some ⟨b2,off2,none⟩) m c')∧i<m∧m≤9223372036854775807∧W.cell? ⟨b2,off2+i*2,none⟩=some (.bool nb)∧W.cell? ⟨b2,off2+i*2+1,none⟩=some (.string s)∧(vg rs i)[k]? = some ⟨nb,s⟩∧s.size≤9223372036854775807):=fun W k hk hW=>by
  have hkr:k<rs.length:=by omega
  obtain⟨b,off,A',c',h1,h2,h3,h4,h5⟩:=(h.below hW (qc _)).get hkr
  have h6:=hi _ (qj hkr)
  obtain⟨b2,off2,h7,h8,h9,h10,h11⟩:=h5.get h6
  have h12:=h5.len
  rw[h7] at h4
  exact⟨b,off,b2,off2,_,c',_,_,h1,h3,h9,h4,h6,by omega,h10,h11,by rw[colV_get hkr h6],h5.ok _ (qj h6)⟩
 have HVN:Hid ((vg rs i).length=n):=by unfold Hid;rw[qa7];exact hnn
 have HSZ:Hid (∀v∈vg rs i,v.s.size≤9223372036854775807):=fun v hv=>by
  obtain⟨k,hk,rfl⟩:=zq hv
  obtain⟨_,_,_,_,_,_,nb,s,_,_,_,_,_,_,_,_,e,hs⟩:=HR.out w k (by rw[qa7] at hk;omega) (Below.refl _ _)
  rw[qe hk] at e
  rw[jh e]
  exact hs
 rw[hnn]
 generalize vg rs i=L at *
 have hn2:n≤1000000:=by omega
 rw[hnn] at hl
 have i0:(0:Int)≤(i:Int):=by omega
 clear h hi ho1 hg1 hnn hn HL
 go_enter Tryz.func34,Tryz.ntmps34
 go_wp2_with fail
 clear hmake
 go_loopw [13] (fun x wr=>∃(k:Nat) (xs:List Value),k≤n∧x= .int .i64 (k:Int)∧wr.ownsRow w.heap.size 60 2 (.slice (some ⟨w.heap.size,0,none⟩) n n) n xs∧qk0 (vv L) (k*2) xs∧Below w.heap.size w wr) (fun x _=>n-(intOf x).toNat)
 case atStart=>exact⟨0,xs0,qi _,rfl,HO1.out,qd9 (by rw[HX0.out,qdd,HVN.out]),HB1.out⟩
 case round =>
  clear HO1 HB1 HX0
  obtain⟨k,xs,hk,rfl,ho,hf,hb⟩:=hrel
  have HO:=qa ho
  have HF:=qa hf
  have HB:=qa hb
  have hsz:=hb.size
  clear ho hf hb
  by_cases hlt:k<n
  ·
   have ik:(k:Int)<(n:Int):=by omega
   obtain⟨b,off,b2,off2,m,c',nb,s,rfl,hbl,hbl2,e0,him,hmm,e1,e2,hck,hss⟩:=HR.out wr k hlt HB.out
   have ii:(i:Int)<(m:Int):=by omega
   have hkl:k<L.length:=by rw[HVN.out];exact hlt
   have HU0:Hid ((vv L)[k*2]? = some (.bool nb)):=by
    have:=qlc L k 0 (by omega)
    rw[xx,hck] at this
    exact this
   have HU1:Hid ((vv L)[k*2+1]? = some (.string s)):=by
    have:=qlc L k 1 (by omega)
    rw[hck] at this
    exact this
   have HXL:Hid (xs.length=n*2):=by unfold Hid;rw[HF.out.1,qdd,HVN.out]
   have hxl:=HXL.out
   have fr0:=HO.out.frozenAt (k*2)
   have fr1:=HO.out.frozenAt (k*2+1)
   have c0:wr.cell? ⟨w.heap.size,k*2,none⟩=some (xs[k*2]'(by omega)):=by
    rw[HO.out.cellAt (k*2) (by omega),qe (by omega)]
   have c1:wr.cell? ⟨w.heap.size,k*2+1,none⟩=some (xs[k*2+1]'(by omega)):=by
    rw[HO.out.cellAt (k*2+1) (by omega),qe (by omega)]
   have HS1:=qa (World.ownsRow.stored HO.out (k*2) (.bool nb))
   have HS2:=qa (World.ownsRow.stored HS1.out.1 (k*2+1) (.string s))
   have HBS:=qa ((HB.out.setCell (p:=⟨w.heap.size,k*2,none⟩) (qc _) (.bool nb)).setCell (p:=⟨w.heap.size,k*2+1,none⟩) (qc _) (.string s))
   have HFS:Hid (qk0 (vv L) ((k+1)*2) ((xs.set (k*2) (.bool nb)).set (k*2+1) (.string s))):=by
    have:=qay (qay HF.out (.bool nb) HU0.out) (.string s) HU1.out
    rw[show(k+1)*2=k*2+1+1 by omega]
    exact this
   generalize xs[k*2]'(by omega)=y0 at *
   generalize xs[k*2+1]'(by omega)=y1 at *
   clear HO HB HF HU0 HU1 hck
   go_wp2_with fail
   go_roundw
   case rel=>exact⟨k+1,_,by omega,by go_num,HS2.out.1,HFS.out,HBS.out⟩
   case measure=>simp[intOf];omega
  ·
   have ik:¬(k:Int)<(n:Int):=by omega
   have hke:k=n:=by omega
   have hx:xs=vv L:=qe1 HF.out (by rw[qdd,HVN.out];omega)
   subst hx
   go_wp2_with fail
   go_ret
   have hro:=qow HO.out HVN.out HSZ.out
   exact⟨_,_,rfl,hro,HB.out⟩
theorem fitslit_v{w:World}{B m c:Nat}{A:Option Addr}(cols:Int)(h:w.cell? ⟨B,0,none⟩=some (.int .i64 cols))(hm:m≤9223372036854775807) :
  Calls Tryz.prog 68 #[.slice A m c,.pointer (some ⟨B,0,none⟩)] w fun r w'=>r= .returned (.bool (decide (¬(m:Int)=cols)))∧w=w':=by
 by_cases hc:(m:Int)=cols
 ·
  subst hc
  rw[ql (by simp)]
  go_enter Tryz.func68,Tryz.ntmps68
  go_wp2_with fail
  go_ret
  exact⟨zf (by simp),rfl⟩
 ·
  rw[qp hc]
  go_enter Tryz.func68,Tryz.ntmps68
  go_wp2_with fail
  go_ret
  exact⟨zf (by simpa using hc),rfl⟩
theorem idx_fits{w:World}{lo hi B:Nat}{rs:List (List Vl)}{A:Option Addr}{c:Nat}(hk:vr w lo hi A c rs)(hhi:hi≤w.heap.size)(cols:Int)(h:w.cell? ⟨B,0,none⟩=some (.int .i64 cols))(hB:B<w.heap.size) :
  Calls Tryz.prog 107 #[.slice A rs.length c,.func (.func 68) #[] #[.pointer (some ⟨B,0,none⟩)]] w fun r w'=>∃z:Int,r= .returned (.int .i64 z)∧decide (0≤z)=rs.any (fun r=>decide (¬(r.length:Int)=cols))∧w=w':=by
 have HK:=qa hk
 obtain⟨hl1,hl2⟩:=hk.len
 have HC0:=qa h
 clear hk h
 obtain⟨f,hf⟩:∃f:List Vl→Bool,(fun r=>decide (¬(r.length:Int)=cols))=f:=⟨_,rfl⟩
 have HF:Hid (∀r,decide (¬((r.length:Nat):Int)=cols)=f r):=fun r=>congrFun hf r
 rw[hf]
 clear hf
 go_enter Tryz.func107,Tryz.ntmps107
 go_wp2_with fail
 go_loopw [8] (fun x8 wr=>∃k:Nat,k≤rs.length∧x8= .int .i64 (k:Int)∧(rs.take k).any f=false∧w=wr) (fun x8 _=>rs.length-(intOf x8).toNat)
 case atStart=>exact⟨0,qi _,rfl,rfl,rfl⟩
 case round =>
  obtain⟨k,hkl,rfl,hno,rfl⟩:=hrel
  have HN:=qa hno
  clear hno
  by_cases hlt:k<rs.length
  ·
   have ik:(k:Int)<(rs.length:Int):=by omega
   obtain⟨bk,off,rA,rc,rfl,hlo,hbh,c0,hrow⟩:=HK.out.get hlt
   have hrl:=hrow.len
   have HC:=qa (fitslit_v (w:=w) (B:=B) (m:=rs[k].length) (c:=rc) (A:=rA) cols HC0.out (by omega))
   rw[HF.out] at HC
   have HT:Hid ((rs.take (k+1)).any f=f rs[k]):=by
    unfold Hid
    rw[qg hlt,List.any_append,HN.out]
    simp
   have HY:Hid (f rs[k]=true→rs.any f=true):=fun h=>kv.2 ⟨_,qj hlt,h⟩
   obtain⟨v,hv⟩:∃v,f rs[k]=v:=⟨_,rfl⟩
   rw[hv] at HC HT HY
   clear hv hrow hrl
   generalize rs[k].length=m at *
   go_wp2_with fail
   refine HC.out.mono ?_
   rintro r w3 ⟨rfl,rfl⟩
   cases v with
   | true =>
    have HV:=qa (HY.out rfl)
    clear HY HT
    go_wp2_with fail
    go_ret
    exact⟨_,rfl,by rw[HV.out];exact qp (by omega),rfl⟩
   | false =>
    clear HY
    go_wp2_with fail
    go_roundw
    case rel=>exact⟨k+1,by omega,by go_num,HT.out,trivial⟩
    case measure=>simp[intOf] <;> omega
  ·
   have ik:¬(k:Int)<(rs.length:Int):=by omega
   have HV:Hid (rs.any f=false):=by
    have:=HN.out
    rwa [qo (by omega)] at this
   go_wp2_with fail
   go_ret
   exact⟨-1,rfl,by rw[HV.out];exact ql (by omega),rfl⟩
theorem has_fits{w:World}{lo hi B:Nat}{rs:List (List Vl)}{A:Option Addr}{c:Nat}(hk:vr w lo hi A c rs)(hhi:hi≤w.heap.size)(cols:Int)(h:w.cell? ⟨B,0,none⟩=some (.int .i64 cols))(hB:B<w.heap.size) :
  Calls Tryz.prog 67 #[.slice A rs.length c,.func (.func 68) #[] #[.pointer (some ⟨B,0,none⟩)]] w fun r w'=>r= .returned (.bool (rs.any (fun r=>decide (¬(r.length:Int)=cols))))∧w=w':=by
 have HI:=qa (idx_fits hk hhi cols h hB)
 clear hk
 go_enter Tryz.func67,Tryz.ntmps67
 go_wp2_with fail
 refine HI.out.mono ?_
 rintro r w' ⟨z,rfl,hz,rfl⟩
 have HZ:=qa hz
 clear hz
 go_wp2_with fail
 go_ret
 exact⟨zf HZ.out,rfl⟩
def badG(cols:Int)(g:List (List Vl)):Bool:=decide (g.length=0)||g.any (fun r=>decide (¬(r.length:Int)=cols))
def qpl(cols:Int)(gs:List (List (List Vl))):Bool := !gs.any (badG cols)&&decide (1≤cols∧cols≤8∧ki gs≤4096)
theorem sgfits_v{w:World}{gs:List (List (List Vl))}{c:Nat}{A:Option Addr}(h:qax w 0 w.heap.size A c gs)(cols:Int)(hr:ki gs≤1000000000) :
  Calls Tryz.prog 30 #[.int .i64 cols,.slice A gs.length c] w fun r w'=>r= .returned (.bool (qpl cols gs))∧Below w.heap.size w w':=by
 obtain⟨hl1,hl2⟩:=h.len
 obtain⟨w1,hw1⟩:∃w1,w.alloc (.cells #[.int .i64 cols] 3)=w1:=⟨_,rfl⟩
 have hb1:j6 w1 w.heap.size 3 #[.int .i64 cols]:=by rw[←hw1];exact j6.new w _ _
 have B1:Hid (Below w.heap.size w w1):=by unfold Hid;rw[←hw1];exact(Below.refl _ w).alloc (qc _) _
 have hs1:w.heap.size<w1.heap.size:=by rw[←hw1];simp
 have q0:w1.cell? ⟨w.heap.size,0,none⟩=some (.int .i64 cols):=hb1.cell 0
 have HK:Hid (qax w1 0 w1.heap.size A c gs):=(h.below B1.out (qc _)).wide (qc _) (by omega)
 have HR:=qa hr
 obtain⟨f,hf⟩:∃f,badG cols=f:=⟨_,rfl⟩
 have HFB:Hid (∀g,badG cols g=f g):=fun g=>congrFun hf g
 have HFG:Hid (qpl cols gs=(!gs.any f&&decide (1≤cols∧cols≤8∧ki gs≤4096))):=by unfold Hid;rw[←hf];rfl
 obtain⟨V,hV⟩:∃V,qpl cols gs=V:=⟨_,rfl⟩
 rw[hV]
 have HVV:Hid ((!gs.any f&&decide (1≤cols∧cols≤8∧ki gs≤4096))=V):=by unfold Hid;rw[←HFG.out,hV]
 clear h hr hb1 hf HFG hV
 go_enter Tryz.func30,Tryz.ntmps30
 go_wp2_with fail
 try rw[hw1]
 clear hw1
 go_loopw [5,10] (fun x5 x10 wr=>∃k:Nat,k≤gs.length∧x10= .int .i64 (k:Int)∧x5= .int .i64 ((ki (gs.take k):Nat):Int)∧(gs.take k).any f=false∧wr=w1) (fun _ x10 _=>gs.length-(intOf x10).toNat)
 case atStart=>exact⟨0,qi _,rfl,rfl,rfl,rfl⟩
 case round =>
  obtain⟨k,hkl,rfl,rfl,hno,rfl⟩:=hrel
  have HN:=qa hno
  clear hno
  by_cases hlt:k<gs.length
  ·
   have ik:(k:Int)<(gs.length:Int):=by omega
   obtain⟨bk,off,gA,gc,rfl,hlo,hbh,c0,hrows⟩:=HK.out.get hlt
   have hrl:=hrows.len
   have HC:=qa (has_fits hrows (qc _) cols q0 hs1)
   have HT:Hid ((gs.take (k+1)).any f=f gs[k]):=by
    unfold Hid
    rw[qg hlt,List.any_append,HN.out]
    simp
   have HY:Hid (f gs[k]=true→gs.any f=true):=fun h=>kv.2 ⟨_,qj hlt,h⟩
   have HB:Hid (f gs[k]=(decide (gs[k].length=0)||gs[k].any (fun r=>decide (¬(r.length:Int)=cols)))):=by unfold Hid;rw[←HFB.out];rfl
   have HS:Hid (ki (gs.take (k+1))=ki (gs.take k)+gs[k].length):=qfz hlt
   have HS2:Hid (ki (gs.take (k+1))≤1000000000):=ze (qjo gs (k+1)) HR.out
   obtain⟨v,hv⟩:∃v,gs[k].any (fun r=>decide (¬(r.length:Int)=cols))=v:=⟨_,rfl⟩
   rw[hv] at HC HB
   generalize f gs[k]=fg at *
   generalize gs[k].length=m at *
   clear hv hrows hrl
   by_cases hm0:m=0
   ·
    subst hm0
    have HV:Hid (V=false):=by unfold Hid;rw[←HVV.out,HY.out (by rw[HB.out];rfl)];rfl
    go_wp2_with fail
    go_ret
    exact⟨zf HV.out.symm,B1.out⟩
   ·
    have im0:¬(m:Int)=0:=by omega
    rw[show decide (m=0)=false from ql hm0,Bool.false_or] at HB
    go_wp2_with fail
    refine HC.out.mono ?_
    rintro r w3 ⟨rfl,rfl⟩
    cases v with
    | true =>
     have HV:Hid (V=false):=by unfold Hid;rw[←HVV.out,HY.out HB.out];rfl
     go_wp2_with fail
     go_ret
     exact⟨zf HV.out.symm,B1.out⟩
    | false =>
     have HT2:Hid ((gs.take (k+1)).any f=false):=by unfold Hid;rw[HT.out,HB.out]
     have hs2:=HS2.out
     have hs:=HS.out
     clear HT HY HB
     go_wp2_with fail
     go_roundw
     case rel=>exact⟨k+1,by omega,by go_num,by rw[hs];go_num,HT2.out,trivial⟩
     case measure=>simp[intOf] <;> omega
  ·
   have ik:¬(k:Int)<(gs.length:Int):=by omega
   have HV:Hid (gs.any f=false):=by
    have:=HN.out
    rwa [qo (by omega)] at this
   rw[HV.out] at HVV
   rw[qo (show gs.length≤k by omega)]
   clear HN
   generalize ki gs=N at *
   have hN:=HR.out
   by_cases h1:1≤cols
   ·
    by_cases h8:cols≤8
    ·
     by_cases h4:N≤4096
     ·
      have i4:(N:Int)≤4096:=by omega
      rw[qp ⟨h1,h8,h4⟩] at HVV
      go_wp2_with fail
      go_ret
      exact⟨zf HVV.out,B1.out⟩
     ·
      have i4:¬(N:Int)≤4096:=by omega
      rw[ql (fun h=>h4 h.2.2)] at HVV
      go_wp2_with fail
      go_ret
      exact⟨zf HVV.out,B1.out⟩
    ·
     rw[ql (fun h=>h8 h.2.1)] at HVV
     go_wp2_with fail
     go_ret
     exact⟨zf HVV.out,B1.out⟩
   ·
    rw[ql (fun h=>h1 h.1)] at HVV
    go_wp2_with fail
    go_ret
    exact⟨zf HVV.out,B1.out⟩
theorem readEnd_nil(bs:List UInt8)(n wd k:Nat)(e:Int):(qc8 bs n wd k e).2.2≠0→(qc8 bs n wd k e).1=[]:=by
 unfold qc8
 split
 ·
  exact fun _=>rfl
 ·
  split
  ·
   exact fun h=>absurd rfl h
  ·
   exact fun _=>rfl
theorem readR_nil(bs:List UInt8)(k:Nat)(e m:Int):(qa5 bs k e m).2.2≠0→(qa5 bs k e m).1=[]:=readEnd_nil _ _ _ _ _
theorem readR_small{bs:List UInt8}{k:Nat}{e:Int}{m:Nat}(hm:m≤2147483647)(hk:k≤bs.length){ns:List Nat}{k2:Nat}{e2:Int}(h:qa5 bs k e (m:Int)=(ns,k2,e2)):(∀x∈ns,x<4294967296)∧ns.length≤2147483647:=by
 by_cases h2:e2=0
 ·
  subst h2
  by_cases h1:e=0
  ·
   subst h1
   obtain⟨a1,a2, -⟩:=qjp hk hm h
   refine⟨fun x hx => ?_,by omega⟩
   have:=a2 (x:Int) (zn.2 ⟨x,hx,rfl⟩)
   omega
  ·
   rw[qlt _ _ _ h1] at h
   simp only[Prod.mk.injEq] at h
   exact absurd h.2.2 h1
 ·
  have:=readR_nil bs k e m
  rw[h] at this
  have e3:=this h2
  dsimp only at e3
  subst e3
  exact⟨fun x hx=>absurd hx ve,by simp⟩
theorem take_list{bs:List UInt8}{k k1 k2:Nat}{e e1 e2 e':Int}{ns gs:List Nat}(hk:k≤bs.length)(hM:j8 bs k e 65536=(0,k1,e1))(hR:qa5 bs k1 e1 65536=(ns,k2,e2))(hL:ListG ns e2 gs e') :
  TakeG bs k e 0 (if e'=0 then gs else []) [] k2 e':=by
 refine⟨fun h=>⟨rfl,if_neg h,rfl⟩,fun h => ?_,fun b0 gs0 rs0 rest he hf hd => ?_⟩
 ·
  subst h
  rw[if_pos rfl]
  obtain⟨h1,h2,h3⟩:=hL.ok rfl
  subst h1
  by_cases h4:e1=0
  ·
   subst h4
   by_cases h5:e=0
   ·
    subst h5
    obtain⟨-, -,m3,m4,m5⟩:=qfe hk hM
    obtain⟨r1, -,r3,r4,r5⟩:=qjp (m:=65536) m5 (by omega) hR
    have hlen:gs.length=ns.length:=by rw[←ya,h2,zj]
    have hw:y7 0 gs []=jo 0++jq (zu ns):=by rw[←h2];exact if_neg (qaq 0)
    refine⟨rfl,⟨by omega,rfl,fun h=>absurd h (qaq 0),h3.up,h3.lt,by omega⟩,?_,?_,r5⟩
    ·
     rw[hw,m3,r3,qv]
    ·
     rw[hw,qd];omega
   ·
    rw[qil _ _ _ h5] at hM
    simp only[Prod.mk.injEq] at hM
    exact absurd hM.2.2 h5
  ·
   rw[qlt _ _ _ h4] at hR
   simp only[Prod.mk.injEq] at hR
   exact absurd hR.2.2 h4
 ·
  subst he
  have hle:=hf.le
  rcases jr b0 with h0 | h0
  ·
   subst h0
   have hw:y7 0 gs0 rs0=jo 0++jq (yp gs0):=if_neg (qaq 0)
   rw[hw,qv] at hd
   have hmay:=qfy hf.up hf.lt
   have hM2:=qbr (m:=65536) hd (by omega) (by omega)
   rw[hM] at hM2
   simp only[Prod.mk.injEq,true_and] at hM2
   obtain⟨hk1,he1⟩:=hM2
   subst he1
   have hd1:bs.drop k1=jq (yp gs0)++rest:=by rw[hk1,←z7,hd,yc]
   obtain⟨-, -, -, -,m5⟩:=qfe hk hM
   have hR2:=qih (yp gs0) hmay 65536 m5 hd1 (by rw[ya];exact hf.few) (by omega)
   rw[show((65536:Nat):Int)=65536 from rfl,hR] at hR2
   simp only[Prod.mk.injEq] at hR2
   obtain⟨hn, -,he2⟩:=hR2
   have hi:yp gs0=zu ns:=by rw[hn,qmv (fun z h=>(hmay z h).1)]
   have he':=hL.there he2 gs0 ⟨hf.up,hf.lt⟩ hi
   subst he'
   refine⟨rfl,rfl,?_,?_⟩
   ·
    rw[if_pos rfl]
    exact qnm ((hL.ok rfl).2.1.trans hi.symm)
   ·
    exact(zd hf.rows).symm
  ·
   have hw:y7 b0 gs0 rs0=jo b0++xe rs0:=if_pos h0
   rw[hw,qv] at hd
   have hM2:=qbr (m:=65536) hd (by omega) (by omega)
   rw[hM] at hM2
   simp only[Prod.mk.injEq] at hM2
   omega
theorem take_set{bs:List UInt8}{k k1 k2 b:Nat}{e e1 e2:Int}{rs:List Bool}(hk:k≤bs.length)(hb0:0<b)(hM:j8 bs k e 65536=(b,k1,e1))(hR:qcj bs k1 e1 (b:Int)=(rs,k2,e2))(e':Int)(he':e'=if rs.length=b then e2 else if e2=0 then 3 else e2) :
  TakeG bs k e (if e'=0 then b else 0) [] (if e'=0 then rs else []) k2 e':=by
 refine⟨fun h=>⟨if_neg h,rfl,if_neg h⟩,fun h => ?_,fun b0 gs0 rs0 rest he hf hd => ?_⟩
 ·
  rw[h] at he' ⊢
  rw[if_pos rfl,if_pos rfl]
  by_cases hl:rs.length=b
  ·
   rw[if_pos hl] at he'
   subst he'
   by_cases h4:e1=0
   ·
    subst h4
    by_cases h5:e=0
    ·
     subst h5
     obtain⟨m1, -,m3,m4,m5⟩:=qfe hk hM
     obtain⟨-,r3,r4,r5⟩:=bread_good m5 hR
     have hw:y7 b [] rs=jo b++xe rs:=if_pos hb0
     refine⟨rfl,⟨by omega,hl,fun _=>rfl,List.Pairwise.nil,fun g hg=>absurd hg ve,by simp⟩,?_,?_,r5⟩
     ·
      rw[hw,m3,r3,qv]
     ·
      rw[hw,qd];omega
    ·
     rw[qil _ _ _ h5] at hM
     simp only[Prod.mk.injEq] at hM
     exact absurd hM.2.2 h5
   ·
    rw[qj5 _ _ _ h4] at hR
    simp only[Prod.mk.injEq] at hR
    exact absurd hR.2.2 h4
  ·
   rw[if_neg hl] at he'
   split at he'
   ·
    exact absurd he'.symm (by decide)
   ·
    rename_i h6;exact absurd he'.symm h6
 ·
  subst he
  have hle:=hf.le
  have hrl:=hf.rows
  rcases jr b0 with h0 | h0
  ·
   subst h0
   have hw:y7 0 gs0 rs0=jo 0++jq (yp gs0):=if_neg (qaq 0)
   rw[hw,qv] at hd
   have hM2:=qbr (m:=65536) hd (by omega) (by omega)
   rw[hM] at hM2
   simp only[Prod.mk.injEq] at hM2
   omega
  ·
   have hw:y7 b0 gs0 rs0=jo b0++xe rs0:=if_pos h0
   rw[hw,qv] at hd
   have hM2:=qbr (m:=65536) hd (by omega) (by omega)
   rw[hM] at hM2
   simp only[Prod.mk.injEq] at hM2
   obtain⟨hb,hk1,he1⟩:=hM2
   subst hb he1
   have hd1:bs.drop k1=xe rs0++rest:=by rw[hk1,←z7,hd,yc]
   obtain⟨-, -, -, -,m5⟩:=qfe hk hM
   have hR2:=qi7 rs0 (b:Int) m5 hd1 (by omega) (by omega)
   rw[hR] at hR2
   simp only[Prod.mk.injEq] at hR2
   obtain⟨hr, -,he2⟩:=hR2
   subst hr he2
   rw[if_pos hrl] at he'
   subst he'
   exact⟨rfl,if_pos rfl,(hf.none hb0).symm,if_pos rfl⟩
theorem gtakeSet_any{w:World}{lo g k:Nat}{bs:List UInt8}{e:Int}(hc:vw w lo g bs k e)(hbs:bs.length≤1000000000)(b:Nat)(hb:b≤65536)(rs:List Bool)(k1:Nat)(e1:Int)(hR:qcj bs k e (b:Int)=(rs,k1,e1))(e':Int)(he':e'=if rs.length=b then e1 else if e1=0 then 3 else e1) :
  Calls Tryz.prog 84 #[cp g,.int .i64 (b:Int)] w fun r w'=>∃(A:Option Addr) (c:Nat),r= .returned (.slice A rs.length c)∧w'.ownsRow w.heap.size 4 1 (.slice A rs.length c) rs.length (lv rs)∧
   vw w' lo g bs k1 e'∧w.grownBy w' (some g):=by
 have hgl:=hc.lt
 have HPR:=qa (qm5 (b:Int) (by omega) hc (by omega))
 rw[hR] at HPR
 dsimp only at HPR
 clear hc hR
 unfold cp
 go_enter Tryz.func84,Tryz.ntmps84
 go_wp2_with fail
 refine HPR.out.mono ?_
 rintro r w1 ⟨A1,c1,rfl,ho1,hc1,hg1⟩
 have HO1:=qa ho1
 have HC1:=qa hc1
 have HG1:=qa hg1
 have s1:=hg1.size
 have hlc:=(Rd.of_own ho1).len
 have hmc:=(Rd.of_own ho1).cap
 rw[vk] at hlc
 unfold maxLen at hmc
 clear ho1 hc1 hg1 HPR
 by_cases hl:rs.length=b
 ·
  rw[if_pos hl] at he'
  subst hl he'
  go_wp2_with fail
  go_ret
  exact⟨A1,c1,rfl,HO1.out,HC1.out,HG1.out⟩
 ·
  rw[if_neg hl] at he'
  have i1:¬(rs.length:Int)=(b:Int):=by omega
  have i2:(((rs.length:Int))==(b:Int))=false:=qr.2 i1
  have i3:(((rs.length:Int)) != (b:Int))=true:=by rw[bne,i2];rfl
  have HFA:=qa (kx 3 HC1.out)
  rw[←he'] at HFA
  unfold cp at HFA
  clear hl he'
  go_wp2_with fail
  refine HFA.out.mono ?_
  rintro r w5 ⟨rfl,hc5,hg5⟩
  have HC5:=qa hc5
  have HG5:=qa (HG1.out.trans hg5)
  have HO5:=qa (ju HO1.out (fun q hq=>hg5.block q (zk HO1.out hq).2 (fun e=>by have:=(zk HO1.out hq).1;injection e with e;omega)))
  clear hc5 hg5 HFA
  go_wp2_with fail
  go_ret
  exact⟨A1,c1,rfl,HO5.out,HC5.out,HG5.out⟩
theorem gread_any{w:World}{lo g k:Nat}{bs:List UInt8}{e:Int}(hc:vw w lo g bs k e)(hbs:bs.length≤1000000000) :
  Calls Tryz.prog 45 #[cp g] w fun r w'=>∃(v:Value) (b:Nat) (gs:List Nat) (rs:List Bool) (k':Nat) (e':Int),r= .returned v∧TakeG bs k e b gs rs k' e'∧qok w' w.heap.size w'.heap.size v b gs rs∧vw w' lo g bs k' e'∧Out w w' (fun i=>i=g):=by
 have hgl:=hc.lt
 have hkl:=hc.le
 obtain⟨w1,hw1⟩:∃w1,w.alloc (.cells #[.int .i64 0,.slice none 0 0,.slice none 0 0] 67)=w1:=⟨_,rfl⟩
 have B1:Hid (Below w.heap.size w w1):=by unfold Hid;rw[←hw1];exact(Below.refl _ w).alloc (qc _) _
 have HK1:Hid (j6 w1 w.heap.size 67 #[.int .i64 0,.slice none 0 0,.slice none 0 0]):=by unfold Hid;rw[←hw1];exact j6.new w _ _
 have hs1:w.heap.size<w1.heap.size:=by rw[←hw1];simp
 have HC1:=qa (hc.behind B1.out hgl)
 have HM:=qa (qgm 65536 HC1.out)
 have hml:=qd4 bs k e 65536
 obtain⟨M,hM⟩:∃M,j8 bs k e 65536=M:=⟨_,rfl⟩
 rw[hM] at HM hml
 obtain⟨b,k1,e1⟩:=M
 dsimp only at HM hml
 have hb:b≤65536:=by omega
 have HMR:=qa hM
 have hbuild:=qqr
 clear hc hM hml
 unfold cp at HM ⊢
 go_enter Tryz.func45,Tryz.ntmps45
 go_wp2_with fail
 refine HM.out.mono ?_
 rintro r w2 ⟨rfl,hc2,hg2⟩
 have HC2:=qa hc2
 have HG2:=qa hg2
 have s2:=hg2.size
 have HK2:=qa (HK1.out.grown hg2 (fun e=>by injection e with e;omega))
 clear hc2 hg2 HM hw1
 by_cases hb0:b=0
 ·
  subst hb0
  rw[show((0:Nat):Int)=0 from rfl]
  go_wp2_with fail
  obtain⟨w3,hw3⟩:∃w3,w2.alloc (.cells #[.int .i64 0,.slice none 0 0,.slice none 0 0] 67)=w3:=⟨_,rfl⟩
  rw[hw3]
  have B23:Below w2.heap.size w2 w3:=by rw[←hw3];exact(Below.refl _ w2).alloc (qc _) _
  have HK3:=qa (HK2.out.below B23 (by omega))
  have HF3:Hid (j6 w3 w2.heap.size 67 #[.int .i64 0,.slice none 0 0,.slice none 0 0]):=by unfold Hid;rw[←hw3];exact j6.new w2 _ _
  have HC3:=qa (HC2.out.behind B23 (by omega))
  have HO3:Hid (Out w w3 (fun i=>i=g)):=by
   unfold Hid
   rw[←hw3]
   exact((Out.of_below (X:=fun i=>i=g) B1.out).trans (Out.of_gb (X:=fun i=>i=g) HG2.out (fun q hq=>by injection hq with hq;exact hq.symm)) (fun _ _ h=>h)).alloc _
  have s3:w2.heap.size<w3.heap.size:=by rw[←hw3];simp
  obtain⟨R,hR⟩:∃R,qa5 bs k1 e1 65536=R:=⟨_,rfl⟩
  obtain⟨ns,k2,e2⟩:=R
  obtain⟨hn1,hn2⟩:=readR_small (m:=65536) (by omega) HC2.out.le hR
  have HTK:=qa (gtakeList_any HC3.out hbs ns k2 e2 hR hn1 hn2)
  unfold cp at HTK
  have HRR:=qa hR
  clear hw3 B23 hR hn1
  refine HTK.out.mono ?_
  rintro r w4 ⟨gs,A4,c4,e4,rfl,ho4,hc4,hL,hg4⟩
  have HTG:=qa (take_list hkl HMR.out HRR.out hL)
  clear hL
  have hF4:=HF3.out.grown hg4 (fun e=>by injection e with e;omega)
  have HF4:=qa hF4
  have HK4:=qa (HK3.out.grown hg4 (fun e=>by injection e with e;omega))
  have q1:=hF4.cell 1
  have f1:=hF4.frozen 1
  have HR4:=qa ho4
  have HC4:=qa hc4
  have HO4:=qa (HO3.out.trans (Out.of_gb (X:=fun i=>i=g) hg4 (fun q hq=>by injection hq with hq;exact hq.symm)) (fun _ _ h=>h))
  have s4:=hg4.size
  clear hF4 ho4 hc4 hg4 HTK
  go_wp2_with fail
  obtain⟨w5,hw5⟩:∃w5,w4.setCell ⟨w2.heap.size,1,none⟩ (.slice A4 gs.length c4)=w5:=⟨_,rfl⟩
  rw[hw5]
  have g45:w4.grownBy w5 (some w2.heap.size):=by rw[←hw5];exact xv (vc w4 (some w2.heap.size)) (.inl rfl) _
  have hF5:j6 w5 w2.heap.size 67 #[.int .i64 0,.slice A4 gs.length c4,.slice none 0 0]:=by rw[←hw5];exact HF4.out.put 1 _
  have HF5:=qa hF5
  have hK5:=HK4.out.grown g45 (fun e=>by injection e with e;omega)
  have HK5:=qa hK5
  have HC5:=qa (HC4.out.grown g45 (fun x hx=> .inr (by injection hx with hx;omega)))
  have HO5:Hid (Out w w5 (fun i=>i=g)):=by unfold Hid;rw[←hw5];exact HO4.out.setCell (.inr (by show w.heap.size≤w2.heap.size;omega)) _
  have HR5:Hid (w5.ownsRow w3.heap.size 3 1 (.slice A4 gs.length c4) gs.length (iv (zu gs))):=by
   unfold Hid
   rw[←hw5]
   exact qfc HR4.out ((Out.refl w4 (fun q=>q=w2.heap.size)).setCell (p:=⟨w2.heap.size,1,none⟩) (.inl rfl) _) (fun q hq e=>by have:=zk HR4.out hq;omega)
  have s5:=g45.size
  have HGD:=qa (xu HC5.out)
  unfold cp at HGD
  have u0:=hF5.cell 0
  have u1:=hF5.cell 1
  have u2:=hF5.cell 2
  have v0:=hK5.cell 0
  have v1:=hK5.cell 1
  have v2:=hK5.cell 2
  have y0:=hK5.frozen 0
  have y1:=hK5.frozen 1
  have y2:=hK5.frozen 2
  clear hw5 g45 hF5 hK5 q1 f1
  by_cases he:e4=0
  ·
   subst he
   go_wp2_with fail
   refine HGD.out.mono ?_
   rintro r w' ⟨rfl,rfl⟩
   clear HGD
   go_wp2_with fail
   obtain⟨w6,hw6⟩:∃w6,((w5.setCell ⟨w.heap.size,0,none⟩ (.int .i64 0)).setCell ⟨w.heap.size,1,none⟩ (.slice A4 gs.length c4)).setCell ⟨w.heap.size,2,none⟩ (.slice none 0 0)=w6:=⟨_,rfl⟩
   try rw[hw6]
   have hk6:j6 w6 w.heap.size 67 #[.int .i64 0,.slice A4 gs.length c4,.slice none 0 0]:=by rw[←hw6];exact((HK5.out.put 0 _).put 1 _).put 2 _
   have g56:w5.grownBy w6 (some w.heap.size):=by rw[←hw6];exact xv (xv (xv (vc w5 (some w.heap.size)) (p:=⟨w.heap.size,0,none⟩) (.inl rfl) _) (p:=⟨w.heap.size,1,none⟩) (.inl rfl) _) (p:=⟨w.heap.size,2,none⟩) (.inl rfl) _
   have ho6:=HO5.out.trans (Out.of_gb (X:=fun q=>q=w.heap.size) g56 (fun q hq=>by injection hq with hq;exact hq.symm)) (fun q hq e=>by omega)
   have hc6:=HC5.out.grown g56 (fun x hx=> .inr (by injection hx with hx;omega))
   have hr6:=ju HR5.out (fun q hq=>g56.block q (zk HR5.out hq).2 (fun e=>by have:=(zk HR5.out hq).1;injection e with e;omega))
   have htg:TakeG bs k e 0 gs [] k2 0:=by simpa only[if_true] using HTG.out
   refine bodyPost_ret (v:= .agg #[.int .i64 0,.slice A4 gs.length c4,.slice none 0 0]) ?_ rfl ⟨_,0,gs,[],k2,0,rfl,htg,⟨A4,c4,none,0,rfl,(Rd.of_own hr6).wide (by omega) (qc _),Rd.nil _ _ _⟩,hc6,ho6⟩
   exact results_cell_row rfl _ _ w.heap.size 67 _ (0,0) _ rfl hk6 Tryz.underlying67 rfl (by kernel_rfl)
  ·
   have hbe:(e4==0)=false:=qr.2 he
   rw[hbe] at HGD
   have HE:=qa he
   clear hbe he
   go_wp2_with fail
   refine HGD.out.mono ?_
   rintro r w' ⟨rfl,rfl⟩
   clear HGD
   go_wp2_with fail
   obtain⟨w6,hw6⟩:∃w6,((w5.setCell ⟨w.heap.size,0,none⟩ (.int .i64 0)).setCell ⟨w.heap.size,1,none⟩ (.slice none 0 0)).setCell ⟨w.heap.size,2,none⟩ (.slice none 0 0)=w6:=⟨_,rfl⟩
   try rw[hw6]
   have hk6:j6 w6 w.heap.size 67 #[.int .i64 0,.slice none 0 0,.slice none 0 0]:=by rw[←hw6];exact((HK5.out.put 0 _).put 1 _).put 2 _
   have g56:w5.grownBy w6 (some w.heap.size):=by rw[←hw6];exact xv (xv (xv (vc w5 (some w.heap.size)) (p:=⟨w.heap.size,0,none⟩) (.inl rfl) _) (p:=⟨w.heap.size,1,none⟩) (.inl rfl) _) (p:=⟨w.heap.size,2,none⟩) (.inl rfl) _
   have ho6:=HO5.out.trans (Out.of_gb (X:=fun q=>q=w.heap.size) g56 (fun q hq=>by injection hq with hq;exact hq.symm)) (fun q hq e=>by omega)
   have hc6:=HC5.out.grown g56 (fun x hx=> .inr (by injection hx with hx;omega))
   have htg:=HTG.out
   rw[if_neg HE.out] at htg
   refine bodyPost_ret (v:= .agg #[.int .i64 0,.slice none 0 0,.slice none 0 0]) ?_ rfl ⟨_,0,[],[],k2,e4,rfl,htg,⟨none,0,none,0,rfl,Rd.nil _ _ _,Rd.nil _ _ _⟩,hc6,ho6⟩
   exact results_cell_row rfl _ _ w.heap.size 67 _ (0,0) _ rfl hk6 Tryz.underlying67 rfl (by kernel_rfl)
 ·
  have ib0:¬(b:Int)=0:=by omega
  have ib1:((b:Int)==0)=false:=qr.2 ib0
  go_wp2_with fail
  obtain⟨w3,hw3⟩:∃w3,w2.alloc (.cells #[.int .i64 (b:Int),.slice none 0 0,.slice none 0 0] 67)=w3:=⟨_,rfl⟩
  rw[hw3]
  have B23:Below w2.heap.size w2 w3:=by rw[←hw3];exact(Below.refl _ w2).alloc (qc _) _
  have HK3:=qa (HK2.out.below B23 (by omega))
  have HF3:Hid (j6 w3 w2.heap.size 67 #[.int .i64 (b:Int),.slice none 0 0,.slice none 0 0]):=by unfold Hid;rw[←hw3];exact j6.new w2 _ _
  have HC3:=qa (HC2.out.behind B23 (by omega))
  have HO3:Hid (Out w w3 (fun i=>i=g)):=by
   unfold Hid
   rw[←hw3]
   exact((Out.of_below (X:=fun i=>i=g) B1.out).trans (Out.of_gb (X:=fun i=>i=g) HG2.out (fun q hq=>by injection hq with hq;exact hq.symm)) (fun _ _ h=>h)).alloc _
  have s3:w2.heap.size<w3.heap.size:=by rw[←hw3];simp
  obtain⟨R,hR⟩:∃R,qcj bs k1 e1 (b:Int)=R:=⟨_,rfl⟩
  obtain⟨rs,k2,e2⟩:=R
  obtain⟨e4,he4⟩:∃e4,e4=if rs.length=b then e2 else if e2=0 then 3 else e2:=⟨_,rfl⟩
  have HTG:=qa (take_set hkl (by omega) HMR.out hR e4 he4)
  have HLB:Hid (e4=0→rs.length=b):=fun h=>by
   rw[h] at he4
   split at he4
   ·
    assumption
   ·
    split at he4
    ·
     exact absurd he4 (by decide)
    ·
     rename_i h6;exact absurd he4.symm h6
  have HTK:=qa (gtakeSet_any HC3.out hbs b hb rs k2 e2 hR e4 he4)
  unfold cp at HTK
  clear hw3 B23 hR he4
  refine HTK.out.mono ?_
  rintro r w4 ⟨A4,c4,rfl,ho4,hc4,hg4⟩
  have hF4:=HF3.out.grown hg4 (fun e=>by injection e with e;omega)
  have HF4:=qa hF4
  have HK4:=qa (HK3.out.grown hg4 (fun e=>by injection e with e;omega))
  have q1:=hF4.cell 2
  have f1:=hF4.frozen 2
  have HR4:=qa ho4
  have HC4:=qa hc4
  have HO4:=qa (HO3.out.trans (Out.of_gb (X:=fun i=>i=g) hg4 (fun q hq=>by injection hq with hq;exact hq.symm)) (fun _ _ h=>h))
  have s4:=hg4.size
  clear hF4 ho4 hc4 hg4 HTK
  go_wp2_with fail
  obtain⟨w5,hw5⟩:∃w5,w4.setCell ⟨w2.heap.size,2,none⟩ (.slice A4 rs.length c4)=w5:=⟨_,rfl⟩
  rw[hw5]
  have g45:w4.grownBy w5 (some w2.heap.size):=by rw[←hw5];exact xv (vc w4 (some w2.heap.size)) (.inl rfl) _
  have hF5:j6 w5 w2.heap.size 67 #[.int .i64 (b:Int),.slice none 0 0,.slice A4 rs.length c4]:=by rw[←hw5];exact HF4.out.put 2 _
  have HF5:=qa hF5
  have hK5:=HK4.out.grown g45 (fun e=>by injection e with e;omega)
  have HK5:=qa hK5
  have HC5:=qa (HC4.out.grown g45 (fun x hx=> .inr (by injection hx with hx;omega)))
  have HO5:Hid (Out w w5 (fun i=>i=g)):=by unfold Hid;rw[←hw5];exact HO4.out.setCell (.inr (by show w.heap.size≤w2.heap.size;omega)) _
  have HR5:Hid (w5.ownsRow w3.heap.size 4 1 (.slice A4 rs.length c4) rs.length (lv rs)):=by
   unfold Hid
   rw[←hw5]
   exact qfc HR4.out ((Out.refl w4 (fun q=>q=w2.heap.size)).setCell (p:=⟨w2.heap.size,2,none⟩) (.inl rfl) _) (fun q hq e=>by have:=zk HR4.out hq;omega)
  have s5:=g45.size
  have HGD:=qa (xu HC5.out)
  unfold cp at HGD
  have u0:=hF5.cell 0
  have u1:=hF5.cell 1
  have u2:=hF5.cell 2
  have v0:=hK5.cell 0
  have v1:=hK5.cell 1
  have v2:=hK5.cell 2
  have y0:=hK5.frozen 0
  have y1:=hK5.frozen 1
  have y2:=hK5.frozen 2
  clear hw5 g45 hF5 hK5 q1 f1
  by_cases he:e4=0
  ·
   subst he
   go_wp2_with fail
   refine HGD.out.mono ?_
   rintro r w' ⟨rfl,rfl⟩
   clear HGD
   go_wp2_with fail
   obtain⟨w6,hw6⟩:∃w6,((w5.setCell ⟨w.heap.size,0,none⟩ (.int .i64 (b:Int))).setCell ⟨w.heap.size,1,none⟩ (.slice none 0 0)).setCell ⟨w.heap.size,2,none⟩ (.slice A4 rs.length c4)=w6:=⟨_,rfl⟩
   try rw[hw6]
   have hk6:j6 w6 w.heap.size 67 #[.int .i64 (b:Int),.slice none 0 0,.slice A4 rs.length c4]:=by rw[←hw6];exact((HK5.out.put 0 _).put 1 _).put 2 _
   have g56:w5.grownBy w6 (some w.heap.size):=by rw[←hw6];exact xv (xv (xv (vc w5 (some w.heap.size)) (p:=⟨w.heap.size,0,none⟩) (.inl rfl) _) (p:=⟨w.heap.size,1,none⟩) (.inl rfl) _) (p:=⟨w.heap.size,2,none⟩) (.inl rfl) _
   have ho6:=HO5.out.trans (Out.of_gb (X:=fun q=>q=w.heap.size) g56 (fun q hq=>by injection hq with hq;exact hq.symm)) (fun q hq e=>by omega)
   have hc6:=HC5.out.grown g56 (fun x hx=> .inr (by injection hx with hx;omega))
   have hr6:=ju HR5.out (fun q hq=>g56.block q (zk HR5.out hq).2 (fun e=>by have:=(zk HR5.out hq).1;injection e with e;omega))
   have htg:TakeG bs k e b [] rs k2 0:=by simpa only[if_true] using HTG.out
   refine bodyPost_ret (v:= .agg #[.int .i64 (b:Int),.slice none 0 0,.slice A4 rs.length c4]) ?_ rfl ⟨_,b,[],rs,k2,0,rfl,htg,⟨none,0,A4,c4,rfl,Rd.nil _ _ _,(Rd.of_own hr6).wide (by omega) (qc _)⟩,hc6,ho6⟩
   exact results_cell_row rfl _ _ w.heap.size 67 _ (0,0) _ rfl hk6 Tryz.underlying67 rfl (by kernel_rfl)
  ·
   have hbe:(e4==0)=false:=qr.2 he
   rw[hbe] at HGD
   have HE:=qa he
   clear hbe he
   go_wp2_with fail
   refine HGD.out.mono ?_
   rintro r w' ⟨rfl,rfl⟩
   clear HGD
   go_wp2_with fail
   obtain⟨w6,hw6⟩:∃w6,((w5.setCell ⟨w.heap.size,0,none⟩ (.int .i64 0)).setCell ⟨w.heap.size,1,none⟩ (.slice none 0 0)).setCell ⟨w.heap.size,2,none⟩ (.slice none 0 0)=w6:=⟨_,rfl⟩
   try rw[hw6]
   have hk6:j6 w6 w.heap.size 67 #[.int .i64 0,.slice none 0 0,.slice none 0 0]:=by rw[←hw6];exact((HK5.out.put 0 _).put 1 _).put 2 _
   have g56:w5.grownBy w6 (some w.heap.size):=by rw[←hw6];exact xv (xv (xv (vc w5 (some w.heap.size)) (p:=⟨w.heap.size,0,none⟩) (.inl rfl) _) (p:=⟨w.heap.size,1,none⟩) (.inl rfl) _) (p:=⟨w.heap.size,2,none⟩) (.inl rfl) _
   have ho6:=HO5.out.trans (Out.of_gb (X:=fun q=>q=w.heap.size) g56 (fun q hq=>by injection hq with hq;exact hq.symm)) (fun q hq e=>by omega)
   have hc6:=HC5.out.grown g56 (fun x hx=> .inr (by injection hx with hx;omega))
   have htg:=HTG.out
   rw[if_neg HE.out,if_neg HE.out] at htg
   refine bodyPost_ret (v:= .agg #[.int .i64 0,.slice none 0 0,.slice none 0 0]) ?_ rfl ⟨_,0,[],[],k2,e4,rfl,htg,⟨none,0,none,0,rfl,Rd.nil _ _ _,Rd.nil _ _ _⟩,hc6,ho6⟩
   exact results_cell_row rfl _ _ w.heap.size 67 _ (0,0) _ rfl hk6 Tryz.underlying67 rfl (by kernel_rfl)
end Go.Proofs.YtnjkipnklpkaoaaGreat
