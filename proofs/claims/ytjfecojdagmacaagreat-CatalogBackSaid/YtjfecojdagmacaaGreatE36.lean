/-
  Lemmas.
-/
import Derived.Test.YtjfecojdagmacaaGreatE35
import Derived.Shelf.SlIter.Keys
import Derived.Shelf.SlIter.Nil
import Derived.Shelf.SlIter.Sorted
namespace Go.Proofs.YtjfecojdagmacaaGreat
open Go.RowKit
set_option maxRecDepth 20000
set_option maxHeartbeats 16000000
set_option linter.unusedSimpArgs false
set_option linter.unusedVariables false
theorem Els.out{w w':World}{X:Nat→Prop}{lo hi c k n:Nat}{A:Option Addr}{cell:Nat→Nat→Option Value}(h:Els w lo hi A c k n cell)(ho:Out w w' X)(hh:hi≤w.heap.size)(hX:∀k,lo≤k→k<hi→¬X k):Els w' lo hi A c k n cell :=
 h.keep fun p h1 h2=>qa4 (ho.block p.block (by omega) (hX _ h1 h2))
theorem qla.out{w w':World}{lo G n:Nat}{gs:List GrpS}{X:Nat→Prop}(h:qla w lo G n gs)(hb:Out w w' X)(hX:∀k,lo≤k→k<w.heap.size→¬X k):qla w' lo G n gs:=by
 obtain⟨rs,A,c,h1,h2,h3,h4,h5⟩:=h
 have up:∀ {A:Option Addr} {c k n:Nat} {cell:Nat→Nat→Option Value},Els w lo w.heap.size A c k n cell→Els w' lo w'.heap.size A c k n cell:=fun hr=>(hr.out hb (qc _) hX).wide (qc _) hb.size
 have ur:∀ {A:Option Addr} {c:Nat} {xs:List Value},Rd w lo w.heap.size A c xs→Rd w' lo w'.heap.size A c xs:=fun hr=>(hr.out hb (qc _) hX).wide (qc _) hb.size
 exact⟨rs,A,c,h1,h2.out hb (hX G h3 h2.lt),h3,up h4,fun r hr=>⟨up (h5 r hr).fil,up (h5 r hr).chk,fun t ht=>⟨((h5 r hr).its t ht).b,((h5 r hr).its t ht).gs,((h5 r hr).its t ht).rs,ur ((h5 r hr).its t ht).list,ur ((h5 r hr).its t ht).set,((h5 r hr).its t ht).chk.out hb hX⟩⟩⟩
def RowAny(w:World)(base:Nat)(o:Option Nat)(xs:List Value)(m n:Nat):Prop:=xs.length=m∧∀j,j<m→∃g c ys,xs[j]? = some (.slice (some ⟨g,0,none⟩) n c)∧w.ownsRow base 72 2 (.slice (some ⟨g,0,none⟩) n c) n ys∧o≠some g
theorem uy.any{w:World}{base m n:Nat}{o:Option Nat}{xs:List Value}{rs:List (List Vl)}(h:uy w base o xs rs)(hm:rs.length=m)(hn:∀r∈rs,r.length=n)(hp:0<n):RowAny w base o xs m n:=by
 subst hm
 refine⟨h.1,fun j hj => ?_⟩
 obtain⟨A,c,h1,h2,h3⟩:=h.2 j hj
 have hl:=hn _ (ql hj)
 rw[hl] at h1 h2 h3
 rcases h2.2 with ⟨hv,h0⟩ | ⟨g,cap,cur,hv,_⟩
 ·
  have:=h2.1
  injection hv with e1 e2 e3
  omega
 ·
  injection hv with e1 e2 e3
  subst e1
  exact⟨g,c,_,h1,h2,h3 g rfl⟩
theorem RowAny.set{w:World}{base m n:Nat}{o:Option Nat}{xs:List Value}(h:RowAny w base o xs m n){k:Nat}(hk:k<m){g c:Nat}(hg:xs[k]? = some (.slice (some ⟨g,0,none⟩) n c))(p:Nat)(u:Value):RowAny (w.setCell ⟨g,p,none⟩ u) base o xs m n:=by
 refine⟨h.1,fun j hj => ?_⟩
 obtain⟨g',c',ys,h1,h2,h3⟩:=h.2 j hj
 by_cases e:g'=g
 ·
  subst e
  exact⟨g',c',_,h1,(h2.stored p u).1,h3⟩
 ·
  exact⟨g',c',ys,h1,ownsRow_setCell_other (a:=⟨g,p,none⟩) h2 (fun h=>e (zy h)) u,h3⟩
def qgk(w:World)(base n:Nat)(o:Option Nat)(xs:List Value)(l:List Pt):Prop :=
 xs.length=l.length∧∀j (hj:j<l.length),∃G lo hi,xs[j]? = some (.pointer (some ⟨G,0,none⟩))∧base≤lo∧hi≤w.heap.size∧(∀g,o=some g→g<lo∨hi≤g)∧qck w (fun k=>k<lo∨hi≤k) (fun W=>qla W lo G n l[j].gs)
section
variable {w w':World}{base n:Nat}{o o':Option Nat}{xs:List Value}{l:List Pt}
theorem qgk.nil(w:World)(base n:Nat)(o:Option Nat):qgk w base n o [] []:=⟨rfl,fun j hj=>absurd hj (jm j)⟩
theorem qgk.step(h:qgk w base n o xs l)(hg:w.grownBy w' o)(ho:o'=o∨o'=some w.heap.size):qgk w' base n o' xs l:=by
 refine⟨h.1,fun j hj => ?_⟩
 obtain⟨G,lo,hi,h1,h2,h3,h4,h5⟩:=h.2 j hj
 refine⟨G,lo,hi,h1,h2,zc h3 hg.size,fun g hgo => ?_,h5.step (Out.of_gb (X:=fun k=>k<lo∨hi≤k) hg fun k hk=>h4 k hk) fun i _ hi=>hi⟩
 rcases ho with e | e
 ·
  exact h4 g (e ▸ hgo)
 ·
  rw[e] at hgo
  obtain rfl:=zy hgo
  exact .inr h3
theorem qgk.below(h:qgk w base n o xs l)(hb:Below w.heap.size w w'):qgk w' base n o xs l:=h.step (qin hb) (.inl rfl)
theorem qgk.snoc(h:qgk w base n o xs l)(hb:Below w.heap.size w w'){G:Nat}{p:Pt}(hs:qla w' w.heap.size G n p.gs)(ho:∀g,o=some g→g<w.heap.size)(hbase:base≤w.heap.size):qgk w' base n o (xs++[.pointer (some ⟨G,0,none⟩)]) (l++[p]):=by
 have h':=h.below hb
 refine⟨by rw[qd,qd,h.1];rfl,fun j hj => ?_⟩
 rw[qd,zx] at hj
 by_cases hjl:j<l.length
 ·
  rw[ju (by rw[h.1];exact hjl),j6 hjl]
  exact h'.2 j hjl
 ·
  obtain rfl:j=l.length:=by omega
  refine⟨G,w.heap.size,w'.heap.size,?_,hbase,qc _,fun g hg=> .inl (ho g hg),fun W hW => ?_⟩
  ·
   rw[yl (by rw[h.1];exact qc _),h.1,qbt]
   rfl
  ·
   rw[xh (qc _)]
   simp only[qbt,xj]
   exact hs.out hW fun k h1 h2 h3=>by omega
end
theorem Tryz.infoSegP:(Tryz.prog.info? 91).map (fun i=>(i.zero,i.size,i.bytes))=some (some (.pointer none),1,8):=by kernel_rfl
theorem append_seg1{w:World}{base n:Nat}{v:Value}{xs:List Value}(hown:w.ownsRow base 91 1 v n xs){g:Nat}{u:Value}(hc:w.cell? ⟨g,0,none⟩=some u)(h1:u.oneCell'=true)(hb:n+1≤2000000000)(hbase:base≤w.heap.size) :
  ∃A' c' w',(Builtin.append_ #[62,62] 62 #[v,.slice (some ⟨g,0,none⟩) 1 1]).run Tryz.prog w= .ok (.slice A' (n+1) c') w'∧w'.ownsRow base 91 1 (.slice A' (n+1) c') (n+1) (xs++[u])∧w.grownBy w' v.ownBlock∧
   ((Value.slice A' (n+1) c').ownBlock=v.ownBlock∨(Value.slice A' (n+1) c').ownBlock=some w.heap.size):=by
 obtain⟨i0,hi0,hz0,hz1,hz2⟩:=info_parts Tryz.infoSegP
 have hr:Rd w 0 w.heap.size (some ⟨g,0,none⟩) 1 [u]:=⟨by simp,by simp[maxLen],fun _=>⟨g,0,rfl,qj _,km w _ hc,fun j y hj=>by
  match j,hj with
  | 0,hj=>simp at hj;subst hj;exact hc
  | j+1,hj=>simp at hj⟩⟩
 exact ky (P:=Tryz.prog) w base 62 62 91 i0 _ 8 Tryz.underlying62 hi0 hz0 hz1 hz2 rfl v n xs hown 0 _ _ 1 [u] hr (fun y hy=>by rw[q8.1 hy];exact h1) (by simp only[maxLen,zx];omega) (by simp;omega) hbase
theorem segs_v{w:World}{lo G n:Nat}{S:Nat→Prop}{l:List Pt}(h:TabM w lo S G n l)(hok:TbOk n l)(hcnt:l.length≤1000000000) :
  Calls Tryz.prog 43 #[.pointer (some ⟨G,0,none⟩)] w fun r w'=>∃A' c' xs,r= .returned (.slice A' l.length c')∧w'.ownsRow w.heap.size 91 1 (.slice A' l.length c') l.length xs∧qgk w' w.heap.size n (Value.slice A' l.length c').ownBlock xs l∧Below w.heap.size w w':=by
 have HH:=qa h
 obtain⟨A,c,zs,h1,h2,h3,h4⟩:=h.at_
 have c2:w.cell? ⟨G,2,none⟩=some (.slice A l.length c):=h1.cell 2
 have hlc:l.length≤c∧c≤9223372036854775807:=by
  have e1:=(Rd.of_own h2).len
  have e2:=(Rd.of_own h2).cap
  rw[h2.1] at e1
  simp only[maxLen] at e2
  exact⟨by omega,by omega⟩
 have HP:Hid (∀W,Below w.heap.size w W→∀k (hk:k<l.length),∃b A1 c1,A=some ⟨b,0,none⟩∧W.cell? ⟨b,k,none⟩=some (.slice A1 l[k].b.length c1)∧Rd W 0 W.heap.size A1 c1 (bv l[k].b)):=fun W hW k hk=>by
  obtain⟨A1,c1,g,e1,e2,e3,e4,e5,e6⟩:=h3.2 k hk
  obtain⟨b,e7,e8,e9⟩:=qe8 h2 (by omega)
  refine⟨b,A1,c1,e7,?_,(e6.below hW (by omega)).wide (qj _) (by have:=hW.size;omega)⟩
  subst e7
  exact(hW.cell (p:=⟨b,k,none⟩) e9).trans ((h2.cellAt k (by omega)).trans e1)
 have HOK:Hid (∀k (hk:k<l.length),xo l[k].b n l[k].gs∧l[k].b.length≤1000000000):=fun k hk=>⟨hok.read _ (ql hk),hok.size _ (ql hk)⟩
 clear h h1 h2 h3 h4 hok
 go_enter Tryz.func43,Tryz.ntmps43
 go_wp2_with fail
 go_loopw [3,13] (fun x3 x13 wr=>∃(k:Nat) (A':Option Addr) (c':Nat) (xs:List Value),k≤l.length∧x13= .int .i64 (k:Int)∧x3= .slice A' k c'∧Hid (wr.ownsRow w.heap.size 91 1 (.slice A' k c') k xs)∧Hid (qgk wr w.heap.size n (Value.slice A' k c').ownBlock xs (l.take k))∧Below w.heap.size w wr) (fun _ x13 _=>l.length-(intOf x13).toNat)
 case atStart=>exact⟨0,none,0,[],qj _,rfl,rfl,zj _ _ _ _,qgk.nil _ _ _ _,Below.refl _ _⟩
 case round =>
  obtain⟨k,A',c',xs,hkl,rfl,rfl,HO,HX,hb⟩:=hrel
  obtain⟨wk,rfl⟩:∃x,x=wr:=⟨_,rfl⟩
  have HB:=qa hb
  have hsz:=hb.size
  by_cases hlt:k<l.length
  ·
   have ik:(k:Int)<(l.length:Int):=by omega
   have ik0:(0:Int)≤(k:Int):=by omega
   obtain⟨b,A1,c1,rfl,hcell,hrd⟩:=HP.out wk hb k hlt
   obtain⟨hro,hbl⟩:=HOK.out k hlt
   have HTK:Hid (l.take (k+1)=l.take k++[l[k]]):=qi hlt
   obtain⟨p,hp⟩:∃p,l[k]=p:=⟨_,rfl⟩
   rw[hp] at hcell hrd hro hbl HTK
   have HRD:=qa (sgread_vW hrd hbl (qmo hbl))
   have HRO:=qa hro
   clear hb hrd hro hp
   go_wp2_with fail
   refine HRD.out.mono ?_
   rintro r w2 ⟨hb2,⟨Gs,n',gs,rfl,hro,hsm⟩ | ⟨-,hno⟩⟩
   case inr=>exact absurd HRO.out (hno _ _)
   obtain⟨rfl,rfl⟩:=hro.one HRO.out
   have HB2:Hid (Below w.heap.size w w2):=HB.out.trans (hb2.mono hsz)
   have hob:∀g,(Value.slice A' k c').ownBlock=some g→g<wk.heap.size:=fun g hg=>(zk HO.out hg).2
   have HS2:=qa (HX.out.snoc hb2 hsm hob hsz)
   rw[←HTK.out] at HS2
   have HO2:=qa (ji HO.out hb2 (qc _))
   obtain⟨w3,hw3⟩:∃x,w2.alloc (.cells #[.pointer (some ⟨Gs,0,none⟩)] 91)=x:=⟨_,rfl⟩
   have b3:Below w2.heap.size w2 w3:=by rw[←hw3];exact(Below.refl _ w2).alloc (qc _) _
   have hc3:w3.cell? ⟨w2.heap.size,0,none⟩=some (.pointer (some ⟨Gs,0,none⟩)):=by rw[←hw3,zm _ _ _ _ rfl];rfl
   have B3:Below w.heap.size w w3:=HB2.out.trans (b3.mono HB2.out.size)
   obtain⟨A5,c5,w5,hrun,ho5,hg5,hq5⟩:=append_seg1 (ji HO2.out b3 (qc _)) hc3 rfl (by omega) B3.size
   have HS5:=qa ((HS2.out.below b3).step hg5 hq5)
   have HO5:=qa ho5
   have HB5:Hid (Below w.heap.size w w5):=B3.grown hg5 B3.size (fun q hq=>(zk HO2.out hq).1)
   clear hb2 hro hsm hob HX HO HS2 HO2 b3 hc3 B3 ho5 hg5 hq5 HRD
   go_wp2_with (at_builtin;refine wpList_append_run rfl _ _ _ _ rfl rfl rfl hrun ?_)
   go_roundw
   case rel=>exact⟨k+1,A5,c5,_,by omega,by go_num,rfl,HO5.out,HS5.out,HB5.out⟩
   case measure=>simp[intOf];omega
  ·
   have ik:¬(k:Int)<(l.length:Int):=by omega
   obtain rfl:k=l.length:=by omega
   have HL:Hid (l.take l.length=l):=yo
   clear hb
   go_wp2_with fail
   go_ret
   refine⟨_,_,rfl,xs,HO.out,?_,HB.out⟩
   have:=HX.out
   rw[HL.out] at this
   exact this
theorem append_rowsq{w:World}{base n:Nat}{v:Value}{xs:List Value}(hown:w.ownsRow base 73 1 v n xs){lo hi c:Nat}{A:Option Addr}{ys:List Value}(hr:Rd w lo hi A c ys)(h1:∀u∈ys,u.oneCell'=true){m:Nat}(hm:ys.length=m)(hb:n+m≤1000000)(hbase:base≤w.heap.size) :
  ∃A' c' w',(Builtin.append_ #[28,28] 28 #[v,.slice A m c]).run Tryz.prog w= .ok (.slice A' (n+m) c') w'∧w'.ownsRow base 73 1 (.slice A' (n+m) c') (n+m) (xs++ys)∧w.grownBy w' v.ownBlock∧
   ((Value.slice A' (n+m) c').ownBlock=v.ownBlock∨(Value.slice A' (n+m) c').ownBlock=some w.heap.size):=by
 subst hm
 obtain⟨i0,hi0,hz0,hz1,hz2⟩:=info_parts Tryz.infoRow
 exact ky (P:=Tryz.prog) w base 28 28 73 i0 _ 24 Tryz.underlying28 hi0 hz0 hz1 hz2 rfl v n xs hown lo hi A c ys hr h1 (by simp only[maxLen];omega) (by omega) hbase
theorem uy.one{w:World}{base:Nat}{o:Option Nat}{xs:List Value}{rs:List (List Vl)}(h:uy w base o xs rs):∀u∈xs,u.oneCell'=true:=by
 intro u hu
 obtain⟨j,hj,rfl⟩:=zl hu
 obtain⟨A,c,h1,_,_⟩:=h.2 j (by rw[←h.1];exact hj)
 rw[qe hj] at h1
 rw[zy h1]
 rfl
theorem uy.lower{w:World}{base base':Nat}{o:Option Nat}{xs:List Value}{rs:List (List Vl)}(h:uy w base o xs rs)(hl:base'≤base):uy w base' o xs rs:=by
 refine⟨h.1,fun j hj => ?_⟩
 obtain⟨A,c,h1,h2,h3⟩:=h.2 j hj
 exact⟨A,c,h1,j9 h2 hl,h3⟩
theorem uy.join{w w1 w':World}{base:Nat}{o o1 o':Option Nat}{xs ys:List Value}{rs ts:List (List Vl)}(h:uy w base o xs rs)(hb:Below w.heap.size w w1)(k:uy w1 w.heap.size o1 ys ts)(ho:∀q,o=some q→q<w.heap.size)(hbase:base≤w.heap.size)
  (hg:w1.grownBy w' o) (hq:o'=o∨o'=some w1.heap.size):uy w' base o' (xs++ys) (rs++ts):=by
 have h':=(h.below hb).step hg hq
 refine⟨by rw[qd,qd,h.1,k.1],fun j hj => ?_⟩
 by_cases hlt:j<rs.length
 ·
  rw[ju (by rw[h.1];exact hlt),j6 hlt]
  exact h'.2 j hlt
 ·
  rw[yl (by rw[h.1];omega),h.1,xh (by omega)]
  rw[qd] at hj
  obtain⟨A,c,e1,e2,e3⟩:=k.2 (j-rs.length) (by omega)
  refine⟨A,c,e1,jw (j9 e2 hbase) fun q hq2=>hg.block q (zk e2 hq2).2 fun e => ?_,fun q hq2 e => ?_⟩
  ·
   have:=ho q e.symm
   have:=(zk e2 hq2).1
   omega
  ·
   have h8:=zk e2 hq2
   rcases hq with h7 | h7
   ·
    rw[h7] at e
    have:=ho q e
    omega
   ·
    rw[h7] at e
    have:=zy e
    omega
theorem rows_no{w:World}{lo C:Nat}{M:Nat→Prop}{es:List En}(h:CatE w lo M C es)(s:ByteArray)(hs:s.size≤9223372036854775807)(hn:∀e∈es,e.name≠s) :
  Calls Tryz.prog 21 #[.pointer (some ⟨C,0,none⟩),.string s] w fun r w'=>r= .returned (.tuple #[.slice none 0 0,.int .i64 7])∧w=w':=by
 have hf:=qkf h s hs
 rw[qlo hn] at hf
 have HF:=qa hf
 clear hf h hn
 go_enter Tryz.func21,Tryz.ntmps21
 go_wp2_with fail
 refine HF.out.mono ?_
 rintro r w1 ⟨rfl,rfl⟩
 go_wp2_with fail
 go_ret2
 exact⟨rfl,rfl⟩
theorem rows_yes{w:World}{lo C:Nat}{M:Nat→Prop}{es:List En}(h:CatE w lo M C es)(s:ByteArray){k:Nat}(hk:k<es.length)(he:es[k].name=s){T:Nat}(hT:ui es[k].pts=T)(hcnt:es[k].pts.length≤1000000000) :
  Calls Tryz.prog 21 #[.pointer (some ⟨C,0,none⟩),.string s] w fun r w'=>∃A' c' xs,r= .returned (.tuple #[.slice A' T c',.int .i64 0])∧w'.ownsRow w.heap.size 73 1 (.slice A' T c') T xs∧uy w' w.heap.size (Value.slice A' T c').ownBlock xs (qeo es[k].pts)∧Below w.heap.size w w':=by
 have hm:=ql hk
 obtain⟨hok,hsz1,hsz2⟩:=h.ok _ hm
 have hf:=qkf h s (by rw[←he];omega)
 rw[qer hk he h.names] at hf
 have HF:=qa hf
 have HS:=qa (segs_v (h.tabs _ hm) hok hcnt)
 have HTB:=qa hok
 obtain⟨g,hg⟩:∃g,es[k].g=g:=⟨_,rfl⟩
 obtain⟨l,hl⟩:∃l,es[k].pts=l:=⟨_,rfl⟩
 obtain⟨n,hn⟩:∃n,es[k].cols=n:=⟨_,rfl⟩
 rw[hg] at HF HS
 rw[hl,hn] at HS HTB
 rw[hl] at hT hcnt ⊢
 have HT:=qa hT
 have hT4:T≤4096:=by rw[←hT];exact HTB.out.tot
 have HN:Hid (∀k,ui (l.take k)≤T):=fun k=>by rw[←hT];exact totPt_take l k
 clear hf h hm hok hg hl hn hT hsz1 hsz2 he hk
 go_enter Tryz.func21,Tryz.ntmps21
 go_wp2_with fail
 refine HF.out.mono ?_
 rintro r w1 ⟨rfl,rfl⟩
 clear HF
 go_wp2_with fail
 refine HS.out.mono ?_
 rintro r w2 ⟨A2,c2,zs,rfl,ho2,hs2,hb2⟩
 have HO2:=qa ho2
 have HS2:=qa hs2
 have HB2:=qa hb2
 have hlc:l.length≤c2∧c2≤9223372036854775807:=by
  have e1:=(Rd.of_own ho2).len
  have e2:=(Rd.of_own ho2).cap
  rw[ho2.1] at e1
  simp only[maxLen] at e2
  exact⟨by omega,by omega⟩
 have hs12:=hb2.size
 clear ho2 hs2 hb2 HS
 go_wp2_with fail
 go_loopw [7,18] (fun x7 x18 wr=>∃(k p:Nat) (A':Option Addr) (c':Nat) (xs:List Value),k≤l.length∧x18= .int .i64 (k:Int)∧x7= .slice A' p c'∧Hid (ui (l.take k)=p)∧Hid (wr.ownsRow w2.heap.size 73 1 (.slice A' p c') p xs)∧Hid (uy wr w2.heap.size (Value.slice A' p c').ownBlock xs (qeo (l.take k)))∧Below w2.heap.size w2 wr) (fun _ x18 _=>l.length-(intOf x18).toNat)
 case atStart=>exact⟨0,0,none,0,[],qj _,rfl,rfl,rfl,zj _ _ _ _,uy.nil _ _ _,Below.refl _ _⟩
 case round =>
  obtain⟨k,p,A',c',xs,hkl,rfl,rfl,HP,HO,HX,hb⟩:=hrel
  obtain⟨wk,rfl⟩:∃x,x=wr:=⟨_,rfl⟩
  have HB:=qa hb
  have hsz:=hb.size
  clear hb
  by_cases hlt:k<l.length
  ·
   have ik:(k:Int)<(l.length:Int):=by omega
   have ik0:(0:Int)≤(k:Int):=by omega
   obtain⟨G,lo,hi,e1,e2,e3,e4,e5⟩:=HS2.out.2 k hlt
   obtain⟨b,rfl,hb1,hb2⟩:=qe8 HO2.out (by omega)
   have hcell:wk.cell? ⟨b,k,none⟩=some (.pointer (some ⟨G,0,none⟩)):=(HB.out.cell (p:=⟨b,k,none⟩) hb2).trans ((HO2.out.cellAt k (by omega)).trans e1)
   have hsm:=e5 wk (Out.of_below HB.out)
   have hro:=HTB.out.read _ (ql hlt)
   have HTK:Hid (l.take (k+1)=l.take k++[l[k]]):=qi hlt
   have hn1:=HN.out (k+1)
   rw[HTK.out,qct,HP.out] at hn1
   obtain⟨q,hq⟩:∃q,l[k]=q:=⟨_,rfl⟩
   rw[hq] at hsm hro HTK hn1
   obtain⟨R,hR⟩:∃R,vi q.gs=R:=⟨_,rfl⟩
   have HR:=qa hR
   rw[hR] at hn1
   have HRW:=qa (sgrows_v hsm hro.ok hR)
   clear e1 e2 e3 e4 e5 hsm hro hq hR
   go_wp2_with fail
   refine HRW.out.mono ?_
   rintro r w4 ⟨A4,c4,ys,rfl,ho4,hro4,hb4⟩
   have HB4:Hid (Below w2.heap.size w2 w4):=HB.out.trans (hb4.mono hsz)
   have ho3:=ji HO.out hb4 (qc _)
   obtain⟨A5,c5,w5,hrun,ho5,hg5,hq5⟩:=append_rowsq ho3 (Rd.of_own ho4) hro4.one (by rw[hro4.1,qhc,HR.out]) (by omega) HB4.out.size
   have HS5:=qa (HX.out.join hb4 hro4 (fun q hq=>(zk HO.out hq).2) hsz hg5 hq5)
   rw[←qh8,←HTK.out] at HS5
   have HO5:=qa ho5
   have HB5:Hid (Below w2.heap.size w2 w5):=HB4.out.grown hg5 HB4.out.size (fun q hq=>(zk HO.out hq).1)
   have HP5:Hid (ui (l.take (k+1))=p+R):=by unfold Hid;rw[HTK.out,qct,HP.out,HR.out]
   clear hb4 ho3 ho4 hro4 ho5 hg5 hq5 HRW HX HO
   go_wp2_with (at_builtin;refine wpList_append_run rfl _ _ _ _ rfl rfl rfl hrun ?_)
   go_roundw
   case rel=>exact⟨k+1,p+R,A5,c5,_,by omega,by go_num,rfl,HP5.out,HO5.out,HS5.out,HB5.out⟩
   case measure=>simp[intOf];omega
  ·
   have ik:¬(k:Int)<(l.length:Int):=by omega
   obtain rfl:k=l.length:=by omega
   have HL:Hid (l.take l.length=l):=yo
   have hpT:p=T:=by
    have:=HP.out
    rw[HL.out,HT.out] at this
    exact this.symm
   subst hpT
   have HX2:=HX.out
   rw[HL.out] at HX2
   have HX3:=qa HX2
   clear HX HX2
   go_wp2_with fail
   go_ret2
   exact⟨_,_,rfl,xs,j9 HO.out hs12,HX3.out.lower hs12,HB2.out.trans (HB.out.mono hs12)⟩
section
set_option maxRecDepth 100000
open Go.RowKit Go.Maps Go.Sort
def zkren:Go.Shelf.Ren:=⟨fun | 6=>46 | 7=>47 | 8=>71 | 9=>72 | 10=>73 | 11=>99 | 12=>100 | 13=>101 | 14=>136 | 15=>137 | 16=>138 | 17=>139 | 18=>140 | 19=>141 | 20=>142 | 21=>143 | 22=>144 | 23=>145 | 24=>146 | 25=>171 | 26=>172 | 27=>173 | 28=>174 | 29=>175 | 30=>176 | 31=>202 | n=>n,fun | 0=>0 | 1=>1 | 2=>2 | 3=>80 | 4=>4 | 5=>5 | 6=>6 | 7=>7 | 8=>8 | 9=>9 | 10=>10 | 11=>11 | 12=>12 | 13=>13 | 14=>14 | 15=>15 | 16=>16 | 17=>17 | 18=>18 | 19=>19 | 20=>20 | 21=>21 | 22=>274 | 23=>75 | 24=>52 | 25=>94 | 26=>9 | 27=>95 | 28=>96 | 29=>97 | 32=>131 | 33=>78 | 34=>158 | 35=>159 | 36=>160 | 37=>119 | 38=>195 | 39=>196 | 40=>197 | 41=>198 | 42=>199 | 43=>200 | 44=>201 | 45=>202 | 46=>203 | 47=>204 | 48=>102 | 49=>205 | 50=>206 | 51=>227 | 52=>228 | 53=>229 | 54=>230 | 55=>231 | 56=>232 | 57=>250 | 58=>154 | 59=>251 | 60=>258 | 61=>295 | 62=>296 | 63=>297 | 64=>298 | 65=>299 | 66=>118 | 67=>300 | 68=>301 | 69=>302 | 70=>273 | 71=>303 | 72=>304 | 73=>305 | 74=>306 | 75=>307 | n=>n,fun n=>n⟩
theorem zklays:Go.Proofs.SlLaysZ.n7 Tryz.prog zkren:={
 mixed:=by kernel_rfl
 f7:=xy Tryz.func47 (by kernel_rfl) (by kernel_rfl)
 f10:=xy Tryz.func73 (by kernel_rfl) (by kernel_rfl)
 t0:=Tryz.underlying0
 a0:=Tryz.isAgg0
 z0:=Tryz.sizeOf0
 v0:=Tryz.zeroValue0
 t4:=Tryz.underlying4
 a4:=Tryz.isAgg4
 z4:=Tryz.sizeOf4
 v4:=Tryz.zeroValue4
 t23:=Tryz.underlying75
 a23:=Tryz.isAgg75
 z23:=Tryz.sizeOf75
 v23:=Tryz.zeroValue75
 t26:=Tryz.underlying9
 a26:=Tryz.isAgg9
 z26:=Tryz.sizeOf9
 v26:=Tryz.zeroValue9
 t27:=Tryz.underlying95
 a27:=Tryz.isAgg95
 z27:=Tryz.sizeOf95
 v27:=Tryz.zeroValue95
 t28:=Tryz.underlying96
 a28:=Tryz.isAgg96
 z28:=Tryz.sizeOf96
 v28:=Tryz.zeroValue96
 t33:=Tryz.underlying78
 a33:=Tryz.isAgg78
 z33:=Tryz.sizeOf78
 v33:=Tryz.zeroValue78
 }
def zdren:Go.Shelf.Ren:=⟨fun | 6=>46 | 7=>47 | 8=>71 | 9=>72 | 10=>73 | 11=>99 | 12=>100 | 13=>101 | 14=>136 | 15=>137 | 16=>138 | 17=>139 | 18=>140 | 19=>141 | 20=>142 | 21=>143 | 22=>144 | 23=>145 | 24=>146 | 25=>171 | 26=>172 | 27=>173 | 28=>174 | 29=>175 | 30=>176 | 31=>202 | n=>n,fun | 0=>0 | 1=>1 | 2=>2 | 3=>3 | 4=>4 | 5=>5 | 6=>6 | 7=>7 | 8=>8 | 9=>9 | 10=>10 | 11=>11 | 12=>12 | 13=>13 | 14=>14 | 15=>15 | 16=>16 | 17=>17 | 18=>18 | 19=>19 | 20=>20 | 21=>21 | 22=>274 | 23=>75 | 24=>52 | 25=>94 | 26=>9 | 27=>95 | 28=>96 | 29=>97 | 32=>131 | 33=>78 | 34=>158 | 35=>159 | 36=>160 | 37=>119 | 38=>195 | 39=>196 | 40=>197 | 41=>198 | 42=>199 | 43=>200 | 44=>201 | 45=>202 | 46=>203 | 47=>204 | 48=>102 | 49=>205 | 50=>206 | 51=>227 | 52=>228 | 53=>229 | 54=>230 | 55=>231 | 56=>232 | 57=>250 | 58=>154 | 59=>251 | 60=>258 | 61=>295 | 62=>296 | 63=>297 | 64=>298 | 65=>299 | 66=>118 | 67=>300 | 68=>301 | 69=>302 | 70=>273 | 71=>303 | 72=>304 | 73=>305 | 74=>306 | 75=>307 | n=>n,fun n=>n⟩
theorem zdlays:Go.Proofs.SlLaysZ.n6 Tryz.prog zdren:={
 mixed:=by kernel_rfl
 f6:=xy Tryz.func46 (by kernel_rfl) (by kernel_rfl)
 f8:=xy Tryz.func71 (by kernel_rfl) (by kernel_rfl)
 f11:=xy Tryz.func99 (by kernel_rfl) (by kernel_rfl)
 t0:=Tryz.underlying0
 a0:=Tryz.isAgg0
 z0:=Tryz.sizeOf0
 v0:=Tryz.zeroValue0
 t24:=Tryz.underlying52
 a24:=Tryz.isAgg52
 z24:=Tryz.sizeOf52
 v24:=Tryz.zeroValue52
 t26:=Tryz.underlying9
 a26:=Tryz.isAgg9
 z26:=Tryz.sizeOf9
 v26:=Tryz.zeroValue9
 t28:=Tryz.underlying96
 a28:=Tryz.isAgg96
 z28:=Tryz.sizeOf96
 v28:=Tryz.zeroValue96
 i26:=by kernel_rfl
 }
theorem zsorts(m:Nat):AnyZ.SortsIn Tryz.prog zdren Fence.wide m :=
 ⟨fun blk off cap ss W hH hblk hsz=>callsIn_wide.2 (Any.slices_Sort_string lays190 blk off cap ss W hH hblk hsz),
  fun p cap W=>callsIn_wide.2 (Any.slices_Sort_string_none lays190 p cap W)⟩
theorem zkeys_any(mb:Option Nat)(W:World):Calls Tryz.prog 47 #[.map mb] W fun e w'=>e= .returned (.func (.func 73) #[] #[.pointer (some ⟨W.heap.size,0,none⟩)])∧w'=W.alloc (.cells #[.map mb] 75) :=
 (callsIn_wide (n:=5)).1 (AnyZ.keys_in zklays Fence.wide 5 trivial rfl mb W)
theorem zsorted_any{R:Value→Option (DataW Unit×List MemPlace)}(b nn:Nat)(D0:DataW Unit)(w:World)(hown:w.ownsMap Tryz.prog 9 R b nn D0)(hmax:Maps.size D0≤100000)(w1:World)(hw1:w1=w.alloc (.cells #[.map (some b)] 75)) :
  Calls Tryz.prog 46 #[.func (.func 73) #[] #[.pointer (some ⟨w.heap.size,0,none⟩)]] w1 fun e w'=>∃(v:Value) (ss:List (List UInt8)),e= .returned v∧ss.Perm (strKeys D0)∧
   w'.ownsRow w1.heap.size 9 1 v ss.length ((ss.mergeSort (fun x y=>decide (x≤y))).map encStr)∧Below w1.heap.size w1 w':=by
 subst hw1
 have hbl:=hown.lt
 have hseq:SeqGives Fence.wide 2 Tryz.prog 73 #[.pointer (some ⟨w.heap.size,0,none⟩)] encStr (fun ss=>ss.Perm (strKeys D0)) (Maps.size D0) (w.alloc (.cells #[.map (some b)] 75)) :=
  AnyZ.keys_gives (ρ:=zkren) { zklays with } Fence.wide _ trivial rfl (by omega) w.heap.size b nn D0 _ (by simp) (by simp) (by
   obtain⟨es,clock,hb,Ft,hs,hD⟩:=hown
   exact⟨es,clock,(Below.heap_alloc _ _ b hbl).trans hb,Ft,hs,hD⟩)
 refine((callsIn_wide (n:=5)).1 (AnyZ.sorted_in zdlays Fence.wide 5 trivial trivial trivial trivial rfl (by omega) (zsorts _) (enters_of Tryz.func72 (by kernel_rfl) rfl) 73 #[.pointer (some ⟨w.heap.size,0,none⟩)] trivial (enters_of Tryz.func73 (by kernel_rfl) rfl) _ _ (by unfold maxLen;omega) (by omega) _ hseq)).mono ?_
 rintro e w' ⟨v,ss,h1,h2,h3,_,h5⟩
 exact⟨v,ss,h1,h2,h3,h5⟩
theorem zsorted_nil(w:World)(w1:World)(hw1:w1=w.alloc (.cells #[.map none] 75)) :
  Calls Tryz.prog 46 #[.func (.func 73) #[] #[.pointer (some ⟨w.heap.size,0,none⟩)]] w1 fun e w'=>e= .returned (.slice none 0 0)∧Below w1.heap.size w1 w':=by
 subst hw1
 have hseq:SeqGives Fence.wide 2 Tryz.prog 73 #[.pointer (some ⟨w.heap.size,0,none⟩)] encStr (fun ss:List (List UInt8)=>ss=[]) 0 (w.alloc (.cells #[.map none] 75)) :=
  AnyZ.keys_gives_nil (ρ:=zkren) { zklays with } Fence.wide _ trivial rfl w.heap.size _ (by simp) (by simp)
 refine((callsIn_wide (n:=5)).1 (AnyZ.sorted_in zdlays Fence.wide 5 trivial trivial trivial trivial rfl (by omega) (zsorts _) (enters_of Tryz.func72 (by kernel_rfl) rfl) 73 #[.pointer (some ⟨w.heap.size,0,none⟩)] trivial (enters_of Tryz.func73 (by kernel_rfl) rfl) _ _ (by unfold maxLen;omega) (by omega) _ hseq)).mono ?_
 rintro e w' ⟨v,ss,rfl,h2,_,h4,h5⟩
 rw[h4.2 h2]
 exact⟨rfl,h5⟩
end
theorem exp_yes{w:World}{lo C:Nat}{M:Nat→Prop}{es:List En}(h:CatE w lo M C es)(s:ByteArray){k:Nat}(hk:k<es.length)(he:es[k].name=s)(hcnt:es[k].pts.length≤1000000000){T X:List UInt8}(hT:xf es[k].cols (vb es[k].pts)=T)(hX:vn T=X)(hs:T.length≤1000000000) :
  Calls Tryz.prog 17 #[.pointer (some ⟨C,0,none⟩),.string s] w fun r w'=>∃A' c',r= .returned (.tuple #[.slice A' X.length c',.int .i64 0])∧w'.ownsRow w.heap.size 5 1 (.slice A' X.length c') X.length (bv X)∧Below w.heap.size w w':=by
 have hm:=ql hk
 obtain⟨hok,hsz1,hsz2⟩:=h.ok _ hm
 have hf:=qkf h s (by rw[←he];omega)
 rw[qer hk he h.names] at hf
 have HF:=qa hf
 have htb:=h.tabs _ hm
 obtain⟨g,hg⟩:∃g,es[k].g=g:=⟨_,rfl⟩
 obtain⟨l,hl⟩:∃l,es[k].pts=l:=⟨_,rfl⟩
 obtain⟨n,hn⟩:∃n,es[k].cols=n:=⟨_,rfl⟩
 obtain⟨S,hS⟩:∃S,es[k].S=S:=⟨_,rfl⟩
 rw[hg] at HF htb
 rw[hl,hn,hS] at htb
 rw[hl,hn] at hT
 rw[hl] at hcnt
 rw[hn] at hok
 have hn8:=hok.cols
 obtain⟨A,c,zs,h1,h2,h3,h4⟩:=htb.at_
 have hlc:l.length≤c∧c≤9223372036854775807:=by
  have e1:=(Rd.of_own h2).len
  have e2:=(Rd.of_own h2).cap
  rw[h2.1] at e1
  simp only[maxLen] at e2
  exact⟨by omega,by omega⟩
 have HCF:Hid (∀W,Below w.heap.size w W→W.cell? ⟨g,0,none⟩=some (.int .i64 (n:Int))∧W.cell? ⟨g,2,none⟩=some (.slice A l.length c)):=fun W hW=>⟨(h1.below hW h1.lt).cell 0,(h1.below hW h1.lt).cell 2⟩
 have HP:Hid (∀W,Below w.heap.size w W→∀k (hk:k<l.length),∃b A1 c1,A=some ⟨b,0,none⟩∧b<w.heap.size∧W.cell? ⟨b,k,none⟩=some (.slice A1 l[k].b.length c1)∧Rd W 0 W.heap.size A1 c1 (bv l[k].b)):=fun W hW k hk=>by
  obtain⟨A1,c1,g,e1,e2,e3,e4,e5,e6⟩:=h3.2 k hk
  obtain⟨b,e7,e8,e9⟩:=qe8 h2 (by omega)
  refine⟨b,A1,c1,e7,e9,?_,(e6.below hW (by omega)).wide (qj _) (by have:=hW.size;omega)⟩
  subst e7
  exact(hW.cell (p:=⟨b,k,none⟩) e9).trans ((h2.cellAt k (by omega)).trans e1)
 obtain⟨P1,hP1⟩:∃P,jc n=P:=⟨_,rfl⟩
 obtain⟨P2,hP2⟩:∃P,jc l.length=P:=⟨_,rfl⟩
 obtain⟨HD,hHD⟩:∃P,P1++P2=P:=⟨_,rfl⟩
 obtain⟨raw,hraw⟩:∃raw,vb l=raw:=⟨_,rfl⟩
 have hrl:raw.length=l.length:=by rw[←hraw,qam]
 have HRG:Hid (∀k (hk:k<l.length) (h2:k<raw.length),raw[k]=l[k].b):=fun k hk h2=>by subst hraw;simp[vb]
 have hTH:HD++kh raw=T:=by rw[←hHD,←hP1,←hP2,←hT,xf,hraw,hrl]
 have hp1:P1.length≤9:=by rw[←hP1];exact kt n (by omega)
 have hp2:P2.length≤9:=by rw[←hP2];exact kt l.length (by omega)
 have HPU1:Hid (∀W:World,Calls Tryz.prog 39 #[.int .i64 (n:Int)] W fun r w'=>∃A c,r= .returned (.slice A P1.length c)∧w'.ownsRow W.heap.size 5 1 (.slice A P1.length c) P1.length (bv P1)∧Below W.heap.size W w'):=fun W=>by
  rw[←hP1]
  exact qcf n (by omega)
 have HPU2:Hid (∀W:World,Calls Tryz.prog 39 #[.int .i64 (l.length:Int)] W fun r w'=>∃A c,r= .returned (.slice A P2.length c)∧w'.ownsRow W.heap.size 5 1 (.slice A P2.length c) P2.length (bv P2)∧Below W.heap.size W w'):=fun W=>by
  rw[←hP2]
  exact qcf l.length (by omega)
 have HHD:=qa hHD
 have HTH:=qa hTH
 have HSX:=qa hX
 have HHL:Hid (HD.length=P1.length+P2.length):=by unfold Hid;rw[←hHD,qd]
 have HFL:Hid (∀i,(HD++kh (raw.take i)).length≤1000000000):=fun i=>by
  have h1:=flatB_le raw i
  have h2:(HD++kh raw).length≤1000000000:=by rw[hTH];exact hs
  rw[qd] at h2 ⊢
  omega
 have HRL:=qa hrl
 have HTL:=qa hs
 clear hf h hm hok hg hl hn hS hT hsz1 hsz2 he hk htb h1 h2 h3 h4 hP1 hP2 hHD hTH hraw hrl hX hs
 go_enter Tryz.func17,Tryz.ntmps17
 go_wp2_with fail
 refine HF.out.mono ?_
 rintro r w1 ⟨rfl,rfl⟩
 clear HF
 go_wp2_with fail
 refine wp_region_held_drew (S:=fun W=>Below w.heap.size w W) (by kernel_rfl) (Below.refl _ _).drew (fun hHeld => ?_)
 refine tk 0 ?_ rfl hHeld ?_ ?_
 rotate_left
 focus (intro W hSw;go_simp;try with_reducible rfl)
 try simp only[jt,Act.put]
 refine tk 1 ?_ rfl hHeld ?_ ?_
 rotate_left
 focus (intro W hSw;go_simp;try with_reducible rfl)
 try simp only[jt,Act.put]
 refine tk 2 ?_ rfl hHeld ?_ ?_
 rotate_left
 focus (intro W hSw;go_simp;try with_reducible rfl)
 try simp only[jt,Act.put]
 refine tk 3 ?_ rfl hHeld ?_ ?_
 rotate_left
 focus (intro W hSw;obtain⟨q0,q1⟩:=HCF.out W hSw;go_simp;try with_reducible rfl)
 try simp only[jt,Act.put]
 refine tk 5 ?_ rfl hHeld ?_ ?_
 rotate_left
 focus (intro W hSw;go_simp;try with_reducible rfl)
 try simp only[jt,Act.put]
 refine tk 6 ?_ rfl hHeld ?_ ?_
 rotate_left
 focus (intro W hSw;go_simp;try with_reducible rfl)
 try simp only[jt,Act.put]
 refine tk 7 ?_ rfl hHeld ?_ ?_
 rotate_left
 focus (intro W hSw;go_simp;try with_reducible rfl)
 try simp only[jt,Act.put]
 refine tk 8 ?_ rfl hHeld ?_ ?_
 rotate_left
 focus (intro W hSw;obtain⟨q0,q1⟩:=HCF.out W hSw;go_simp;try with_reducible rfl)
 try simp only[jt,Act.put]
 refine tk 9 ?_ rfl hHeld ?_ ?_
 rotate_left
 focus (intro W hSw;go_simp;try with_reducible rfl)
 try simp only[jt,Act.put]
 obtain⟨wd,hwd⟩:∃q,w.drew=q:=⟨_,rfl⟩
 rw[hwd] at hHeld ⊢
 clear hwd
 have L1:=qa hHeld
 refine wpAnyH_ready (rs:=[4]) (by kernel_rfl) (by simp) ?_
 refine qu (o:=_) rfl (fun K hK => ?_) q5
 go_simp
 refine(HPU1.out wd).mono ?_
 rintro r w2 ⟨A1,c1,rfl,ho1,hb1⟩
 have L2:Hid (Below w.heap.size w w2):=L1.out.trans (hb1.mono L1.out.size)
 have HO1:=qa ho1
 clear ho1 hb1
 refine hK.out _ _ L2.out (fun hHeld => ?_)
 clear hK K
 try simp only[jt,Act.put]
 refine wpAnyH_ready (rs:=[10]) (by kernel_rfl) (by simp) ?_
 refine qu (o:=_) rfl (fun K hK => ?_) q5
 go_simp
 refine(HPU2.out w2).mono ?_
 rintro r w3 ⟨A2,c2,rfl,ho2,hb2⟩
 have L3:Hid (Below w.heap.size w w3):=L2.out.trans (hb2.mono L2.out.size)
 have HO2:=qa ho2
 have HO1':Hid (w3.ownsRow w.heap.size 5 1 (.slice A1 P1.length c1) P1.length (bv P1)):=j9 (ji HO1.out hb2 (qc _)) L1.out.size
 clear ho2 hb2
 refine hK.out _ _ L3.out (fun hHeld => ?_)
 clear hK K
 try simp only[jt,Act.put]
 refine wpAnyH_ready (rs:=[11]) (by kernel_rfl) (by simp) ?_
 refine qu (o:=_) rfl (fun K hK => ?_) q5
 obtain⟨A3,c3,w4,hrun3,ho3,hb3⟩:=qjb HO1'.out rfl (Rd.of_own HO2.out) rfl HHD.out rfl (by omega) L3.out.size
 rw[←HHL.out] at hrun3 ho3
 have K4:Hid (Below w.heap.size w w4):=L3.out.trans hb3
 have HO3:=qa ho3
 refine qae (.tmp 19) (.tmp 25) _ _ rfl rfl rfl hrun3 ?_
 clear hrun3 ho3 hb3
 refine hK.out _ _ K4.out (fun hHeld => ?_)
 clear hK K
 try simp only[jt,Act.put]
 refine tk 12 ?_ rfl hHeld ?_ ?_
 rotate_left
 focus (intro W hSw;go_simp;try with_reducible rfl)
 try simp only[jt,Act.put]
 refine wpAnyH_done (by kernel_rfl) ?_ _
 try simp only[jt,Act.put]
 clear hHeld HPU1 HPU2 HO1 HO2 HO1' L1 L2 L3
 have q1:=(HCF.out w4 K4.out).2
 go_wp2_with fail
 clear q1
 go_loopw [7,32] (fun x7 x32 wr=>∃(i p:Nat) (A':Option Addr) (c':Nat),i≤l.length∧x32= .int .i64 (i:Int)∧x7= .slice A' p c'∧Hid ((HD++kh (raw.take i)).length=p)∧Hid (wr.ownsRow w.heap.size 5 1 (.slice A' p c') p (bv (HD++kh (raw.take i))))∧Below w.heap.size w wr) (fun _ x32 _=>l.length-(intOf x32).toNat)
 case atStart=>exact⟨0,HD.length,A3,c3,qj _,rfl,rfl,by unfold Hid;rw[uh,show kh []=[] from rfl,jd],by unfold Hid;rw[uh,show kh []=[] from rfl,jd];exact HO3.out,K4.out⟩
 case round =>
  clear HO3 K4
  obtain⟨i,p,A',c',hi,rfl,rfl,HP2,HOW,hb⟩:=hrel
  obtain⟨wg,rfl⟩:∃x,x=wr:=⟨_,rfl⟩
  have HBG:=qa hb
  have hszg:=hb.size
  clear hb
  by_cases hlt:i<l.length
  case neg =>
   have ii:¬(i:Int)<(l.length:Int):=by omega
   have hte:raw.take i=raw:=qp (by rw[HRL.out];omega)
   rw[hte,HTH.out] at HP2 HOW
   have hpt:T.length=p:=HP2.out
   subst hpt
   have hse:=Seal_any (w:=wg) T ((Rd.of_own HOW.out).wide (qj _) (qc _)) (qc _) HTL.out
   rw[HSX.out] at hse
   have HSE:=qa hse
   clear hte HOW HP2 hse
   go_wp2_with fail
   refine HSE.out.mono ?_
   rintro r w5 ⟨A5,c5,rfl,ho5,hb5⟩
   have HO5:=qa ho5
   have HB5:Hid (Below w.heap.size w w5):=HBG.out.trans (hb5.mono HBG.out.size)
   clear ho5 hb5 HSE
   go_wp2_with fail
   go_ret2
   exact⟨_,_,rfl,j9 HO5.out HBG.out.size,HB5.out⟩
  have ii:(i:Int)<(l.length:Int):=by omega
  have ii0:(0:Int)≤(i:Int):=by omega
  have hlt2:i<raw.length:=by rw[HRL.out];exact hlt
  obtain⟨b,Ab,cb,rfl,hbl,hcell, -⟩:=HP.out wg HBG.out i hlt
  have HRD:Hid (∀W,Below w.heap.size w W→Rd W 0 W.heap.size Ab cb (bv l[i].b)):=fun W hW=>by
   obtain⟨b',A1,c1,e1,e2,e3,e4⟩:=HP.out W hW i hlt
   obtain⟨_,A2,c2,f1,_,f3,_⟩:=HP.out wg HBG.out i hlt
   injection e1 with e1
   injection e1 with e1 _
   subst e1
   have e5:=((hW.cell (p:=⟨b,i,none⟩) e2).symm.trans e3)
   have e6:=((HBG.out.cell (p:=⟨b,i,none⟩) e2).symm.trans hcell)
   have e7:=zy (e5.symm.trans e6)
   injection e7 with e8 _ e9
   subst e8 e9
   exact e4
  have HFT:=qa (flatB_take hlt2)
  rw[HRG.out i hlt hlt2] at HFT
  have HL1:=qa (HFL.out (i+1))
  obtain⟨bs,hbs⟩:∃x,l[i].b=x:=⟨_,rfl⟩
  rw[hbs] at hcell HFT HRD
  obtain⟨m,hm2⟩:∃m,bs.length=m:=⟨_,rfl⟩
  rw[hm2] at hcell HFT
  obtain⟨PM,hPM⟩:∃x,jc m=x:=⟨_,rfl⟩
  rw[hPM] at HFT
  obtain⟨XS,hXS⟩:∃x,HD++kh (raw.take i)=x:=⟨_,rfl⟩
  rw[hXS] at HP2 HOW
  obtain⟨X1,hX1⟩:∃x,XS++PM=x:=⟨_,rfl⟩
  obtain⟨X2,hX2⟩:∃x,X1++bs=x:=⟨_,rfl⟩
  have HX2:Hid (HD++kh (raw.take (i+1))=X2):=by unfold Hid;rw[HFT.out,←qm,←qm,hXS,hX1,hX2]
  obtain⟨pm,hpm⟩:∃x,PM.length=x:=⟨_,rfl⟩
  obtain⟨p1,hp11⟩:∃x,p+pm=x:=⟨_,rfl⟩
  obtain⟨p2,hp22⟩:∃x,p1+m=x:=⟨_,rfl⟩
  have hx1l:X1.length=p1:=by rw[←hX1,qd,HP2.out,hpm,hp11]
  have hx2l:X2.length=p2:=by rw[←hX2,qd,hx1l,hm2,hp22]
  have hbig:p2≤1000000000:=by rw[←hx2l,←HX2.out];exact HL1.out
  have hbig1:p1≤1000000000:=by omega
  have hm9:m≤1000000000:=by omega
  have HPU:Hid (∀W:World,Calls Tryz.prog 39 #[.int .i64 (m:Int)] W fun r w'=>∃A c,r= .returned (.slice A pm c)∧w'.ownsRow W.heap.size 5 1 (.slice A pm c) pm (bv PM)∧Below W.heap.size W w'):=fun W=>by
   rw[←hpm,←hPM]
   exact qcf m (by omega)
  have HH1:=qa hX1
  have HH2:=qa hX2
  have HH3:=qa hpm
  have HH4:=qa hp11
  have HH5:=qa hp22
  have HH6:=qa hm2
  have HX1L:=qa hx1l
  have HX2L:=qa hx2l
  clear hbs hm2 hPM hXS hX1 hX2 hpm hp11 hp22 hx1l hx2l HFT
  go_wp2_with fail
  refine(HPU.out _).mono ?_
  rintro r w2 ⟨A2,c2,rfl,ho2,hb2⟩
  have L2:Hid (Below w.heap.size w w2):=HBG.out.trans (hb2.mono hszg)
  have HOS:Hid (w2.ownsRow w.heap.size 5 1 (.slice A' p c') p (bv XS)):=ji HOW.out hb2 (qc _)
  obtain⟨A3,c3,w3,hrun3,ho3,hb3⟩:=qjb HOS.out HP2.out (Rd.of_own ho2) HH3.out HH1.out HH4.out (by omega) L2.out.size
  have L3:Hid (Below w.heap.size w w3):=L2.out.trans hb3
  have HO3:=qa ho3
  obtain⟨A4,c4,w4,hrun4,ho4,hb4⟩:=qjb HO3.out HX1L.out (HRD.out _ L3.out) HH6.out HH2.out HH5.out (by omega) L3.out.size
  have L4:Hid (Below w.heap.size w w4):=L3.out.trans hb4
  have HO4:=qa ho4
  clear ho2 hb2 ho3 hb3 ho4 hb4 HOW hcell
  go_wp2_with (at_builtin;refine wpList_append_run rfl _ _ _ _ rfl rfl rfl hrun3 ?_;refine qbj ?_)
  refine⟨?_⟩
  clear hrun3
  go_wp2_with (at_builtin;refine wpList_append_run rfl _ _ _ _ rfl rfl rfl hrun4 ?_)
  go_roundw
  case rel=>exact⟨i+1,p2,A4,c4,by omega,by go_num,rfl,by unfold Hid;rw[HX2.out];exact HX2L.out,by unfold Hid;rw[HX2.out];exact HO4.out,L4.out⟩
  case measure=>simp[intOf];omega
theorem CatE.turn{w w':World}{lo C:Nat}{M S':Nat→Prop}{es:List En}(h:CatE w lo M C es){k:Nat}(hk:k<es.length){l:List Pt}(ht:TabM w' lo S' es[k].g es[k].cols l)(hok:TbOk es[k].cols l)(hs:Step w w' es[k].S S') :
  CatE w' lo (fun i=>M i∨S' i) C (es.set k ⟨es[k].name,es[k].g,S',es[k].cols,l⟩)∧Step w w' M (fun i=>M i∨S' i):=by
 have hkm:=ql hk
 have hM:∀i,es[k].S i→M i:=fun i hi=>(h.sub _ hkm i hi).1
 have hnew:∀i,S' i→∀e∈es,e.S i→es[k].S i:=fun i hi e he hei=>(hs.more i hi).elim id fun h2=>by have:=((h.tabs e he).mine i hei).2;omega
 have ho:Out w w' M:=⟨hs.out.os,hs.out.tape,hs.out.output,hs.out.size,fun i hi hm=>hs.out.block i hi fun h2=>hm (hM i h2)⟩
 refine⟨⟨fun e he => ?_,fun e he => ?_,fun i j hi hj hij => ?_,fun e he i hi => ?_,fun i hi => ?_,.inl h.own,by rw[xv];exact h.few,?_⟩,ho,fun i hi=>hi.elim .inl fun h2=>(hs.more i h2).imp (hM i) id⟩
 ·
  obtain⟨i,hi,rfl⟩:=zl he
  rw[xv] at hi
  by_cases hik:k=i
  ·
   subst hik
   rw[uf]
   exact ht
  ·
   rw[ua hik]
   exact(h.tabs _ (ql hi)).out hs.out fun q h1 h2=>(h.apart i k hi hk (Ne.symm hik)).2 q h1 h2
 ·
  obtain⟨i,hi,rfl⟩:=zl he
  rw[xv] at hi
  by_cases hik:k=i
  ·
   subst hik
   rw[uf]
   exact⟨hok,(h.ok _ hkm).2⟩
  ·
   rw[ua hik]
   exact h.ok _ (ql hi)
 ·
  rw[xv] at hi hj
  by_cases hik:k=i
  ·
   subst hik
   rw[uf,ua hij]
   refine⟨(h.apart k j hi hj hij).1,fun q h1 h2=>(h.apart k j hi hj hij).2 q (hnew q h1 _ (ql hj) h2) h2⟩
  ·
   rw[ua hik]
   by_cases hjk:k=j
   ·
    subst hjk
    rw[uf]
    refine⟨(h.apart i k hi hj hij).1,fun q h1 h2=>(h.apart i k hi hj hij).2 q h1 (hnew q h2 _ (ql hi) h1)⟩
   ·
    rw[ua hjk]
    exact h.apart i j hi hj hij
 ·
  obtain⟨j,hj,rfl⟩:=zl he
  rw[xv] at hj
  by_cases hjk:k=j
  ·
   subst hjk
   rw[uf] at hi
   exact⟨.inr hi,fun e=>(hs.more i hi).elim (fun h2=>(h.sub _ hkm i h2).2 e) fun h2=>by have:=h.lt;omega⟩
  ·
   rw[ua hjk] at hi
   exact⟨.inl (h.sub _ (ql hj) i hi).1,(h.sub _ (ql hj) i hi).2⟩
 ·
  rcases hi with hi | hi
  ·
   exact⟨(h.mine i hi).1,zh (h.mine i hi).2 hs.out.size⟩
  ·
   exact ht.mine i hi
 ·
  obtain⟨mb,hb,hm⟩:=h.map
  refine⟨mb,hb.out hs.out fun h2=>(h.sub _ hkm C h2).2 rfl,?_⟩
  cases mb with
  | none =>
   have:es=[]:=hm
   subst this
   exact absurd hk (jm _)
  | some B =>
   obtain⟨h1,h2,h3,D,h4,h5⟩:=hm
   refine⟨.inl h1,h2,fun e he hB => ?_,D,by rw[xv];exact qmm h4 hs.out (h3 _ hkm),h5.same ?_ ?_⟩
   ·
    obtain⟨j,hj,rfl⟩:=zl he
    rw[xv] at hj
    by_cases hjk:k=j
    ·
     subst hjk
     rw[uf] at hB
     exact(hs.more B hB).elim (h3 _ hkm) fun h6=>by have:=(h.mine B h1).2;omega
    ·
     rw[ua hjk] at hB
     exact h3 _ (ql hj) hB
   ·
    apply List.ext_getElem
    ·
     simp
    ·
     intro j h1 h2
     simp only[j5]
     by_cases hjk:k=j
     ·
      subst hjk;rw[uf];try rfl
     ·
      rw[ua hjk]
   ·
    apply List.ext_getElem
    ·
     simp
    ·
     intro j h1 h2
     simp only[j5]
     by_cases hjk:k=j
     ·
      subst hjk;rw[uf]
     ·
      rw[ua hjk]
def AddR(w w':World)(lo C:Nat)(M:Nat→Prop)(es:List En)(k:Nat)(b:List UInt8)(r:Ending):Prop :=
 ∃hk:k<es.length,(∃gs S' M',r= .returned (.int .i64 0)∧xo b es[k].cols gs∧ui es[k].pts+vi gs≤4096∧CatE w' lo M' C (es.set k ⟨es[k].name,es[k].g,S',es[k].cols,es[k].pts++[⟨b,gs⟩]⟩)∧Step w w' M M')∨
  (∃e:Int,r= .returned (.int .i64 e)∧((e=4∧∀gs,¬xo b es[k].cols gs)∨(e=6∧∃gs,xo b es[k].cols gs∧4096<ui es[k].pts+vi gs))∧Below w.heap.size w w')
theorem AddP.cat{w w':World}{lo C:Nat}{M:Nat→Prop}{es:List En}(h:CatE w lo M C es){k:Nat}(hk:k<es.length){b:List UInt8}(hbl:b.length≤1000000000){r:Ending}(hp:AddP w w' lo es[k].S es[k].g es[k].cols es[k].pts b r):AddR w w' lo C M es k b r:=by
 rcases hp with ⟨gs,S',h1,h2,h3,h4,h5⟩ | ⟨e,h1,h2,h3⟩
 ·
  have hok:=(h.ok _ (ql hk)).1
  have hok2:TbOk es[k].cols (es[k].pts++[⟨b,gs⟩]):=by
   refine⟨hok.cols,fun p hp => ?_,fun p hp => ?_,by rw[qct];exact h3⟩
   ·
    rcases zn.1 hp with hp | hp
    ·
     exact hok.read p hp
    ·
     obtain rfl:=q8.1 hp
     exact h2
   ·
    rcases zn.1 hp with hp | hp
    ·
     exact hok.size p hp
    ·
     obtain rfl:=q8.1 hp
     exact hbl
  obtain⟨g1,g2⟩:=h.turn hk h4 hok2 h5
  exact⟨hk,.inl ⟨gs,S',_,h1,h2,h3,g1,g2⟩⟩
 ·
  exact⟨hk,.inr ⟨e,h1,h2,h3⟩⟩
theorem add_yes{w:World}{lo C:Nat}{M:Nat→Prop}{es:List En}(h:CatE w lo M C es)(s:ByteArray){k:Nat}(hk:k<es.length)(he:es[k].name=s)(hcnt:es[k].pts.length≤1000000000){b:List UInt8}{A:Option Addr}{c:Nat}(hb:Rd w 0 w.heap.size A c (bv b))(hbl:b.length≤1000000000) :
  Calls Tryz.prog 15 #[.pointer (some ⟨C,0,none⟩),.string s,.slice A b.length c] w fun r w'=>AddR w w' lo C M es k b r:=by
 have hm:=ql hk
 obtain⟨hok,hsz1,hsz2⟩:=h.ok _ hm
 have hf:=qkf h s (by rw[←he];omega)
 rw[qer hk he h.names] at hf
 have HF:=qa hf
 have HAD:Hid (Calls Tryz.prog 38 #[.pointer (some ⟨es[k].g,0,none⟩),.slice A b.length c] w fun r w'=>AddR w w' lo C M es k b r):=(tadd_v (h.tabs _ hm) hok.tot hcnt hb hbl).mono fun r w' hp=>hp.cat h hk hbl
 obtain⟨g,hg⟩:∃g,es[k].g=g:=⟨_,rfl⟩
 rw[hg] at HF HAD
 have HRT:Hid (∀w' r,AddR w w' lo C M es k b r→∃e:Int,r= .returned (.int .i64 e)):=fun w' r hr=>by
  obtain⟨_,hr⟩:=hr
  rcases hr with ⟨_,_,_,h1,_⟩ | ⟨e,h1,_⟩
  ·
   exact⟨_,h1⟩
  ·
   exact⟨_,h1⟩
 clear hf h hm hok hg hsz1 hsz2 he hb
 go_enter Tryz.func15,Tryz.ntmps15
 go_wp2_with fail
 refine HF.out.mono ?_
 rintro r w1 ⟨rfl,rfl⟩
 clear HF
 go_wp2_with fail
 refine HAD.out.mono ?_
 intro r w2 hr
 obtain⟨e,rfl⟩:=HRT.out _ _ hr
 have HR:=qa hr
 clear hr HAD HRT
 go_wp2_with fail
 go_ret
 exact HR.out
theorem rises_pair:∀ {l:List (List UInt8)},l.Pairwise (fun a b=>xd a b<0)→yh l=true
 | [],_=>rfl
 | [_],_=>rfl
 | a :: b :: l,h=>by
  rw[List.pairwise_cons] at h
  exact kn.2 ⟨h.1 b zr,rises_pair h.2⟩
theorem sort_is{ss:List (List UInt8)}(hn:ss.Nodup){L:List (List UInt8)}(hm:∀x,x∈ss↔x∈L):qdl L (ss.mergeSort fun x y=>decide (x≤y)):=by
 have hp:=List.mergeSort_perm ss (fun x y=>decide (x≤y))
 have hord:=qdn (le:=fun x y:List UInt8=>decide (x≤y)) (fun a b c h1 h2=>by
  rw[decide_eq_true_eq,qfe] at *
  exact qey h1 h2) (fun a b=>by
  rw[Bool.or_eq_true,decide_eq_true_eq,decide_eq_true_eq,qfe,qfe,qd2 a b]
  omega) ss
 have hnd:(ss.mergeSort fun x y=>decide (x≤y)).Nodup:=hp.nodup_iff.2 hn
 refine⟨rises_pair ((hord.and hnd).imp fun {a b} hab => ?_),fun x=>by rw[hp.mem_iff];exact hm x⟩
 have h1:=hab.1
 rw[decide_eq_true_eq,qfe] at h1
 have h2:xd a b≠0:=fun e=>hab.2 (qde e)
 omega
theorem nodup_of{α:Type}:∀P:List α,∃u:List α,u.Nodup∧∀x,x∈u↔x∈P
 | []=>⟨[],List.nodup_nil,fun _=>Iff.rfl⟩
 | a :: P=>by
  obtain⟨u,h1,h2⟩:=nodup_of P
  by_cases ha:a∈P
  ·
   exact⟨u,h1,fun x=>by
    rw[h2 x,zv]
    exact⟨.inr,fun h=>h.elim (fun e=>e ▸ ha) id⟩⟩
  ·
   exact⟨a :: u,List.nodup_cons.2 ⟨fun h=>ha ((h2 a).1 h),h1⟩,fun x=>by rw[zv,zv,h2 x]⟩
theorem keys_size{D:DataW Unit}(h:Maps.IsMap D):(strKeys D).length=Maps.size D:=by
 obtain⟨es,rfl⟩:=h
 simp[strKeys,Maps.size]
theorem dir_keys{w:World}{B n:Nat}{D:DataW Unit}{es:List En}(hd:Dir D es)(hown:w.ownsMap Tryz.prog 9 ptE B n D):(strKeys D).Nodup∧∀x,x∈strKeys D↔x∈es.map qeg:=by
 obtain⟨u,h1,h2⟩:=nodup_of (es.map qeg)
 have hc:Collected D (fun _=>false) u:=⟨h1,fun x=>by rw[hd.has x,h2 x,decide_eq_true_iff];simp⟩
 have hp:=hc.perm hown Tryz.keyS Tryz.underlying9 (fun _=>rfl)
 exact⟨hp.nodup_iff.1 h1,fun x=>by rw[←hp.mem_iff,h2 x]⟩
theorem names_v{w:World}{lo C:Nat}{M:Nat→Prop}{es:List En}(h:CatE w lo M C es) :
  Calls Tryz.prog 24 #[.pointer (some ⟨C,0,none⟩)] w fun r w'=>∃(t:List ByteArray) (A':Option Addr) (c':Nat),r= .returned (.slice A' t.length c')∧qdl (es.map qeg) (qt t)∧t.length=es.length∧w'.ownsRow w.heap.size 9 1 (.slice A' t.length c') t.length (sv t)∧Below w.heap.size w w':=by
 obtain⟨mb,hb,hm⟩:=h.map
 have c0:w.cell? ⟨C,0,none⟩=some (.map mb):=hb.cell 0
 obtain⟨w1,hw10⟩:∃x,Hid (x=w.alloc (.cells #[.map mb] 75)):=⟨_,rfl⟩
 have hw1:=hw10.out
 have B1:Hid (Below w.heap.size w w1):=by unfold Hid;rw[hw1];exact(Below.refl _ w).alloc (qc _) _
 have HKY:=qa (zkeys_any mb w)
 rw[←hw1] at HKY
 have HSO:Hid (Calls Tryz.prog 46 #[.func (.func 73) #[] #[.pointer (some ⟨w.heap.size,0,none⟩)]] w1 fun r w'=>∃(t:List ByteArray) (A':Option Addr) (c':Nat),r= .returned (.slice A' t.length c')∧qdl (es.map qeg) (qt t)∧t.length=es.length∧w'.ownsRow w.heap.size 9 1 (.slice A' t.length c') t.length (sv t)∧Below w.heap.size w w'):=by
  cases mb with
  | none =>
   have:es=[]:=hm
   subst this
   refine(zsorted_nil w w1 hw1).mono ?_
   rintro r w' ⟨rfl,hb⟩
   exact⟨[],none,0,rfl,⟨rfl,fun x=>Iff.rfl⟩,rfl,zj _ _ _ _,B1.out.trans (hb.mono B1.out.size)⟩
  | some B =>
   obtain⟨-, -, -,D,hown,hd⟩:=hm
   have hf:=h.few
   refine(zsorted_any B _ D w hown (by rw[hd.size];omega) w1 hw1).mono ?_
   rintro r w' ⟨v,ss,rfl,hp,ho,hb⟩
   obtain⟨k1,k2⟩:=dir_keys hd hown
   have hs:=sort_is (hp.nodup_iff.2 k1) (L:=es.map qeg) fun x=>by rw[hp.mem_iff];exact k2 x
   obtain⟨A',c',rfl,_⟩:=qbp w' ho
   have hlen:ss.length=es.length:=by
    have h5:=hp.length_eq
    have h6:(strKeys D).length=Maps.size D:=keys_size hown.isMap
    rw[h5,h6,hd.size]
   have hl2:(j4 (ss.mergeSort fun x y=>decide (x≤y))).length=ss.length:=by rw[yf,List.length_mergeSort]
   refine⟨j4 (ss.mergeSort fun x y=>decide (x≤y)),A',c',by rw[hl2],by rw[kv];exact hs,by rw[hl2,hlen],?_,B1.out.trans (hb.mono B1.out.size)⟩
   rw[hl2,sv_enc]
   exact j9 ho B1.out.size
 clear h hb hm hw1
 go_enter Tryz.func24,Tryz.ntmps24
 go_wp2_with fail
 refine HKY.out.mono ?_
 rintro r w2 ⟨rfl,hw2⟩
 subst hw2
 clear HKY
 go_wp2_with fail
 refine HSO.out.mono ?_
 rintro r w3 ⟨t,A',c',rfl,h1,h2,h3,h4⟩
 have H1:=qa h1
 have H2:=qa h2
 have H3:=qa h3
 have H4:=qa h4
 clear h1 h2 h3 h4 HSO
 go_wp2_with fail
 go_ret
 exact⟨t,_,_,rfl,H1.out,H2.out,H3.out,H4.out⟩
end Go.Proofs.YtjfecojdagmacaaGreat
