/-
  Lemmas.
-/
import Derived.Test.YtjfecojdagmacaaGreatE03
import Derived.ChangeShapes
import Derived.SizedLaws
import Derived.WideShapes
namespace Go.Proofs.YtjfecojdagmacaaGreat
open Go.RowKit
set_option maxRecDepth 20000
set_option maxHeartbeats 16000000
set_option linter.unusedSimpArgs false
set_option linter.unusedVariables false
section
open Go.RowKit Go.ChangeShapes Go.WideShapes Go.ChangeAt
theorem qhf{α:Type}{n:Nat}{Q:Nat→α→Prop}(h:∀i,i<n→∃x,Q i x):∃l:List α,l.length=n∧∀i (hi:i<l.length),Q i l[i]:=by
 induction n with
 | zero=>exact⟨[],rfl,fun i hi=>absurd hi (jm i)⟩
 | succ n ih =>
  obtain⟨l,hl,hq⟩:=ih fun i hi=>h i (by omega)
  obtain⟨x,hx⟩:=h n (by omega)
  refine⟨l++[x],by simp[hl],fun i hi => ?_⟩
  rw[qd,zx] at hi
  by_cases e:i<l.length
  ·
   rw[j6 e];exact hq i e
  ·
   have:i=n:=by omega
   subst this
   rw[xh (by omega)]
   simpa[hl] using hx
structure Els (w:World) (lo hi:Nat) (A:Option Addr) (c k n:Nat) (cell:Nat→Nat→Option Value):Prop where
 len:n≤c
 cap:c≤maxLen
 lies:0<n→∃b off,A=some ⟨b,off,none⟩∧lo≤b∧b<hi∧∀j,j<n→∀i,i<k→w.cell? ⟨b,off+j*k+i,none⟩=cell j i
theorem Els.keep{w w':World}{lo hi c k n:Nat}{A:Option Addr}{cell:Nat→Nat→Option Value}(h:Els w lo hi A c k n cell)(hk:∀p:Addr,lo≤p.block→p.block<hi→w'.cell? p=w.cell? p):Els w' lo hi A c k n cell :=
 ⟨h.len,h.cap,fun h0=>by
  obtain⟨b,off,e,h1,h2,h3⟩:=h.lies h0
  exact⟨b,off,e,h1,h2,fun j hj i hi=>(hk ⟨b,off+j*k+i,none⟩ h1 h2).trans (h3 j hj i hi)⟩⟩
theorem Els.below{w w':World}{lo hi c k n B:Nat}{A:Option Addr}{cell:Nat→Nat→Option Value}(h:Els w lo hi A c k n cell)(hb:Below B w w')(hB:hi≤B):Els w' lo hi A c k n cell :=
 h.keep fun _ _ hp=>hb.cell (by omega)
theorem Els.wide{w:World}{lo hi lo' hi' c k n:Nat}{A:Option Addr}{cell:Nat→Nat→Option Value}(h:Els w lo hi A c k n cell)(h1:lo'≤lo)(h2:hi≤hi'):Els w lo' hi' A c k n cell :=
 ⟨h.len,h.cap,fun h0=>by
  obtain⟨b,off,e,h3,h4,h5⟩:=h.lies h0
  exact⟨b,off,e,by omega,by omega,h5⟩⟩
theorem Els.nil(w:World)(lo hi k:Nat)(cell:Nat→Nat→Option Value):Els w lo hi none 0 k 0 cell:=⟨qc _,by simp[maxLen],fun h=>absurd h (qay 0)⟩
variable {H:Type}{enc:TypeId×Value→H}{P:Program}{W:World}
end
inductive Pr where
 | mk (kind col:Int) (s:ByteArray) (esc coll:Int) (kids:List Pr)
def Pr.kind:Pr→Int | .mk k _ _ _ _ _=>k
def Pr.col:Pr→Int | .mk _ c _ _ _ _=>c
def Pr.s:Pr→ByteArray | .mk _ _ s _ _ _=>s
def Pr.esc:Pr→Int | .mk _ _ _ e _ _=>e
def Pr.coll:Pr→Int | .mk _ _ _ _ c _=>c
def Pr.kids:Pr→List Pr | .mk _ _ _ _ _ l=>l
def I64(z:Int):Prop := -9223372036854775808≤z∧z≤9223372036854775807
structure PrOk (p:Pr):Prop where
 s:p.s.size≤9223372036854775807
 kind:I64 p.kind
 col:I64 p.col
 esc:I64 p.esc
 coll:I64 p.coll
def prVals(p:Pr)(A:Option Addr)(c:Nat):List Value:=[.int .i64 p.kind,.int .i64 p.col,.string p.s,.int .i64 p.esc,.int .i64 p.coll,.slice A p.kids.length c]
inductive Kin (w:World) (lo hi:Nat):List Pr→Option Addr→Nat→Prop
 | mk (l:List Pr) (A:Option Addr) (c:Nat) (kA:Nat→Option Addr) (kc:Nat→Nat) (he:Els w lo hi A c 6 l.length (fun j i=>(l[j]?).bind fun p=>(prVals p (kA j) (kc j))[i]?))
   (ho:∀j (hj:j<l.length),PrOk l[j]) (hk:∀j (hj:j<l.length),Kin w lo hi l[j].kids (kA j) (kc j)):Kin w lo hi l A c
theorem Kin.kept{w w':World}{lo hi B:Nat}(hb:Below B w w')(hB:hi≤B){l:List Pr}{A:Option Addr}{c:Nat}(h:Kin w lo hi l A c):Kin w' lo hi l A c:=by
 induction h with
 | mk l A c kA kc he ho hk ih=>exact .mk l A c kA kc (he.below hb hB) ho ih
theorem Kin.drewN{w:World}{lo hi:Nat}{l:List Pr}{A:Option Addr}{c:Nat}(h:Kin w lo hi l A c)(m:Nat):Kin (w.drewN m) lo hi l A c:=by
 induction h with
 | mk l A c kA kc he ho hk ih=>exact .mk l A c kA kc (he.keep fun _ _ _=>rfl) ho ih
theorem Kin.wide{w:World}{lo hi lo' hi':Nat}{l:List Pr}{A:Option Addr}{c:Nat}(h1:lo'≤lo)(h2:hi≤hi')(h:Kin w lo hi l A c):Kin w lo' hi' l A c:=by
 induction h with
 | mk l A c kA kc he ho hk ih=>exact .mk l A c kA kc (he.wide h1 h2) ho ih
theorem Kin.len{w:World}{lo hi:Nat}{l:List Pr}{A:Option Addr}{c:Nat}(h:Kin w lo hi l A c):l.length≤c∧c≤9223372036854775807:=by
 cases h with
 | mk l A c kA kc he ho hk=>exact⟨he.len,by have:=he.cap;simpa[maxLen] using this⟩
theorem Kin.get{w:World}{lo hi:Nat}{l:List Pr}{A:Option Addr}{c:Nat}(h:Kin w lo hi l A c){j:Nat}(hj:j<l.length) :
  ∃b off kA kc,A=some ⟨b,off,none⟩∧lo≤b∧b<hi∧(∀i,i<6→w.cell? ⟨b,off+j*6+i,none⟩=(prVals l[j] kA kc)[i]?)∧PrOk l[j]∧Kin w lo hi l[j].kids kA kc:=by
 cases h with
 | mk l A c kA kc he ho hk =>
  obtain⟨b,off,h1,h2,h3,h4⟩:=he.lies (by omega)
  refine⟨b,off,kA j,kc j,h1,h2,h3,fun i hi => ?_,ho j hj,hk j hj⟩
  have:=h4 j hj i hi
  rw[qe hj] at this
  exact this
theorem Kin.six{w:World}{lo hi:Nat}{l:List Pr}{A:Option Addr}{c:Nat}(h:Kin w lo hi l A c){j:Nat}(hj:j<l.length) :
  ∃b off kA kc,A=some ⟨b,off,none⟩∧lo≤b∧b<hi∧w.cell? ⟨b,off+j*6,none⟩=some (.int .i64 l[j].kind)∧w.cell? ⟨b,off+j*6+1,none⟩=some (.int .i64 l[j].col)∧w.cell? ⟨b,off+j*6+2,none⟩=some (.string l[j].s)∧
   w.cell? ⟨b,off+j*6+3,none⟩=some (.int .i64 l[j].esc)∧w.cell? ⟨b,off+j*6+4,none⟩=some (.int .i64 l[j].coll)∧w.cell? ⟨b,off+j*6+5,none⟩=some (.slice kA l[j].kids.length kc)∧PrOk l[j]∧Kin w lo hi l[j].kids kA kc:=by
 obtain⟨b,off,kA,kc,h1,h2,h3,h4,h5,h6⟩:=h.get hj
 exact⟨b,off,kA,kc,h1,h2,h3,h4 0 (by omega),h4 1 (by omega),h4 2 (by omega),h4 3 (by omega),h4 4 (by omega),h4 5 (by omega),h5,h6⟩
def PrV(w:World)(lo hi:Nat)(v:Value)(p:Pr):Prop:=∃A c,v= .agg #[.int .i64 p.kind,.int .i64 p.col,.string p.s,.int .i64 p.esc,.int .i64 p.coll,.slice A p.kids.length c]∧PrOk p∧Kin w lo hi p.kids A c
theorem PrV.below{w w':World}{lo hi B:Nat}{v:Value}{p:Pr}(h:PrV w lo hi v p)(hb:Below B w w')(hB:hi≤B):PrV w' lo hi v p:=by
 obtain⟨A,c,h1,h2,h3⟩:=h
 exact⟨A,c,h1,h2,h3.kept hb hB⟩
theorem PrV.drewN{w:World}{lo hi:Nat}{v:Value}{p:Pr}(h:PrV w lo hi v p)(m:Nat):PrV (w.drewN m) lo hi v p:=by
 obtain⟨A,c,h1,h2,h3⟩:=h
 exact⟨A,c,h1,h2,h3.drewN m⟩
theorem PrV.wide{w:World}{lo hi lo' hi':Nat}{v:Value}{p:Pr}(h:PrV w lo hi v p)(h1:lo'≤lo)(h2:hi≤hi'):PrV w lo' hi' v p:=by
 obtain⟨A,c,h3,h4,h5⟩:=h
 exact⟨A,c,h3,h4,h5.wide h1 h2⟩
structure Vl where
 null:Bool
 s:ByteArray
 deriving DecidableEq
def qli(v:Vl):List Value:=[.bool v.null,.string v.s]
structure Row (w:World) (lo hi:Nat) (A:Option Addr) (c:Nat) (r:List Vl):Prop where
 els:Els w lo hi A c 2 r.length (fun j i=>(r[j]?).bind fun v=>(qli v)[i]?)
 ok:∀v∈r,v.s.size≤9223372036854775807
theorem Row.below{w w':World}{lo hi B c:Nat}{A:Option Addr}{r:List Vl}(h:Row w lo hi A c r)(hb:Below B w w')(hB:hi≤B):Row w' lo hi A c r:=⟨h.els.below hb hB,h.ok⟩
theorem Row.drewN{w:World}{lo hi c:Nat}{A:Option Addr}{r:List Vl}(h:Row w lo hi A c r)(m:Nat):Row (w.drewN m) lo hi A c r:=⟨h.els.keep fun _ _ _=>rfl,h.ok⟩
theorem Row.wide{w:World}{lo hi lo' hi' c:Nat}{A:Option Addr}{r:List Vl}(h:Row w lo hi A c r)(h1:lo'≤lo)(h2:hi≤hi'):Row w lo' hi' A c r:=⟨h.els.wide h1 h2,h.ok⟩
theorem Row.len{w:World}{lo hi c:Nat}{A:Option Addr}{r:List Vl}(h:Row w lo hi A c r):r.length≤c∧c≤9223372036854775807:=⟨h.els.len,by have:=h.els.cap;simpa[maxLen] using this⟩
theorem Row.get{w:World}{lo hi c:Nat}{A:Option Addr}{r:List Vl}(h:Row w lo hi A c r){j:Nat}(hj:j<r.length) :
  ∃b off,A=some ⟨b,off,none⟩∧lo≤b∧b<hi∧w.cell? ⟨b,off+j*2,none⟩=some (.bool r[j].null)∧w.cell? ⟨b,off+j*2+1,none⟩=some (.string r[j].s):=by
 obtain⟨b,off,h1,h2,h3,h4⟩:=h.els.lies (by omega)
 have h5:=h4 j hj 0 (by omega)
 have h6:=h4 j hj 1 (by omega)
 rw[qe hj] at h5 h6
 exact⟨b,off,h1,h2,h3,h5,h6⟩
structure Rows2 (w:World) (lo hi:Nat) (A:Option Addr) (c:Nat) (rs:List (List Vl)) (rA:Nat→Option Addr) (rc:Nat→Nat):Prop where
 els:Els w lo hi A c 1 rs.length (fun j i=>(rs[j]?).bind fun r=>[Value.slice (rA j) r.length (rc j)][i]?)
 row:∀j (hj:j<rs.length),Row w lo hi (rA j) (rc j) rs[j]
theorem Rows2.below{w w':World}{lo hi B c:Nat}{A:Option Addr}{rs:List (List Vl)}{rA:Nat→Option Addr}{rc:Nat→Nat}(h:Rows2 w lo hi A c rs rA rc)(hb:Below B w w')(hB:hi≤B):Rows2 w' lo hi A c rs rA rc :=
 ⟨h.els.below hb hB,fun j hj=>(h.row j hj).below hb hB⟩
theorem Rows2.drewN{w:World}{lo hi c:Nat}{A:Option Addr}{rs:List (List Vl)}{rA:Nat→Option Addr}{rc:Nat→Nat}(h:Rows2 w lo hi A c rs rA rc)(m:Nat):Rows2 (w.drewN m) lo hi A c rs rA rc :=
 ⟨h.els.keep fun _ _ _=>rfl,fun j hj=>(h.row j hj).drewN m⟩
theorem Rows2.wide{w:World}{lo hi lo' hi' c:Nat}{A:Option Addr}{rs:List (List Vl)}{rA:Nat→Option Addr}{rc:Nat→Nat}(h:Rows2 w lo hi A c rs rA rc)(h1:lo'≤lo)(h2:hi≤hi'):Rows2 w lo' hi' A c rs rA rc :=
 ⟨h.els.wide h1 h2,fun j hj=>(h.row j hj).wide h1 h2⟩
theorem Rows2.len{w:World}{lo hi c:Nat}{A:Option Addr}{rs:List (List Vl)}{rA:Nat→Option Addr}{rc:Nat→Nat}(h:Rows2 w lo hi A c rs rA rc):rs.length≤c∧c≤9223372036854775807:=⟨h.els.len,by have:=h.els.cap;simpa[maxLen] using this⟩
theorem Rows2.get{w:World}{lo hi c:Nat}{A:Option Addr}{rs:List (List Vl)}{rA:Nat→Option Addr}{rc:Nat→Nat}(h:Rows2 w lo hi A c rs rA rc){j:Nat}(hj:j<rs.length) :
  ∃b off,A=some ⟨b,off,none⟩∧lo≤b∧b<hi∧w.cell? ⟨b,off+j,none⟩=some (.slice (rA j) rs[j].length (rc j))∧Row w lo hi (rA j) (rc j) rs[j]:=by
 obtain⟨b,off,h1,h2,h3,h4⟩:=h.els.lies (by omega)
 have h5:=h4 j hj 0 (by omega)
 rw[qe hj,xl] at h5
 exact⟨b,off,h1,h2,h3,h5,h.row j hj⟩
def jx(e:Int):Int:=if e=0 then 3 else e
theorem yp(e:Int):jx e≠0:=by unfold jx;split <;> omega
theorem vw{e:Int}(h:e≠0):jx e=e:=by rw[jx,if_neg h]
def xd:List UInt8→List UInt8→Int
 | [],[]=>0
 | [],_ :: _ => -1
 | _ :: _,[]=>1
 | x :: a,y :: b=>if x.toNat<y.toNat then -1 else if y.toNat<x.toNat then 1 else xd a b
theorem qdf:∀(a:List UInt8),xd a a=0
 | []=>rfl
 | x :: a=>by simp[xd,qdf a]
theorem qde:∀ {a b:List UInt8},xd a b=0→a=b
 | [],[],_=>rfl
 | [],_ :: _,h=>by simp[xd] at h
 | _ :: _,[],h=>by simp[xd] at h
 | x :: a,y :: b,h=>by
  unfold xd at h
  split at h
  ·
   cases h
  ·
   split at h
   ·
    cases h
   ·
    have hx:x=y:=UInt8.toNat_inj.1 (by omega)
    rw[hx,qde h]
theorem qd2:∀(a b:List UInt8),xd b a = - xd a b
 | [],[]=>rfl
 | [],_ :: _=>rfl
 | _ :: _,[]=>rfl
 | x :: a,y :: b=>by
  unfold xd
  by_cases h1:x.toNat<y.toNat
  ·
   rw[if_pos h1,if_neg (by omega),if_pos h1];rfl
  ·
   by_cases h2:y.toNat<x.toNat
   ·
    rw[if_pos h2,if_neg h1,if_pos h2]
   ·
    rw[if_neg h1,if_neg h2,if_neg h2,if_neg h1,qd2 a b]
theorem cmpL_three(a b:List UInt8):xd a b = -1∨xd a b=0∨xd a b=1:=by
 induction a generalizing b with
 | nil=>cases b <;> simp[xd]
 | cons x a ih =>
  cases b with
  | nil=>simp[xd]
  | cons y b =>
   unfold xd
   split
   ·
    simp
   ·
    split
    ·
     simp
    ·
     exact ih b
theorem cmpL_ahead:∀(p a b:List UInt8),xd (p++a) (p++b)=xd a b
 | [],a,b=>rfl
 | x :: p,a,b=>by simp[xd,cmpL_ahead p a b]
def qgo(s:List UInt8):Bool:=decide (1≤s.length)&&decide (s.length≤8)
theorem qeb{s:List UInt8}:qgo s=true↔1≤s.length∧s.length≤8:=by simp[qgo]
def yh:List (List UInt8)→Bool
 | []=>true
 | [_]=>true
 | a :: b :: t=>decide (xd a b<0)&&yh (b :: t)
theorem kn{a b:List UInt8}{t:List (List UInt8)}:yh (a :: b :: t)=true↔xd a b<0∧yh (b :: t)=true:=by
 rw[yh,jq,decide_eq_true_eq]
theorem qfw:∀ {a:List UInt8} {t:List (List UInt8)},yh (a :: t)=true→yh t=true
 | _,[],_=>rfl
 | _,_ :: _,h=>(kn.1 h).2
theorem uv:∀ {a b c:List UInt8},xd a b<0→xd b c<0→xd a c<0
 | [],[],c,h1,_=>by simp[xd] at h1
 | [],y :: b,[],_,h2=>by simp[xd] at h2
 | [],y :: b,z :: c,_,_=>by simp[xd]
 | x :: a,[],c,h1,_=>by simp[xd] at h1
 | x :: a,y :: b,[],_,h2=>by simp[xd] at h2
 | x :: a,y :: b,z :: c,h1,h2=>by
  unfold xd at h1 h2 ⊢
  by_cases p1:x.toNat<y.toNat
  ·
   by_cases q1:y.toNat<z.toNat
   ·
    rw[if_pos (by omega)];decide
   ·
    rw[if_neg q1] at h2
    by_cases q2:z.toNat<y.toNat
    ·
     rw[if_pos q2] at h2;cases h2
    ·
     rw[if_pos (by omega)];decide
  ·
   rw[if_neg p1] at h1
   by_cases p2:y.toNat<x.toNat
   ·
    rw[if_pos p2] at h1;cases h1
   ·
    rw[if_neg p2] at h1
    by_cases q1:y.toNat<z.toNat
    ·
     rw[if_pos (by omega)];decide
    ·
     rw[if_neg q1] at h2
     by_cases q2:z.toNat<y.toNat
     ·
      rw[if_pos q2] at h2;cases h2
     ·
      rw[if_neg q2] at h2
      rw[if_neg (by omega),if_neg (by omega)]
      exact uv h1 h2
theorem qfx:∀ {a:List UInt8} {t:List (List UInt8)},yh (a :: t)=true→∀x∈t,xd a x<0
 | a,[],_,x,hx=>by cases hx
 | a,b :: t,h,x,hx=>by
  obtain⟨h1,h2⟩:=kn.1 h
  rcases zv.1 hx with rfl | hx
  ·
   exact h1
  ·
   exact uv h1 (qfx h2 x hx)
theorem qc6{a:List UInt8}:¬xd a a<0:=by rw[qdf];omega
theorem qep:∀ {u t:List (List UInt8)},yh t=true→yh u=true→(∀x∈t,x∈u)→t.Sublist u
 | [],[],_,_,_=>List.Sublist.slnil
 | [],a :: t,_,_,h=>by cases h a zr
 | b :: u,[],_,_,_=>List.nil_sublist _
 | b :: u,a :: t,ht,hu,h=>by
  have h1:=qfx ht
  have h2:=qfx hu
  rcases zv.1 (h a zr) with rfl | ha
  ·
   refine List.Sublist.cons_cons _ (qep (qfw ht) (qfw hu) fun x hx => ?_)
   rcases zv.1 (h x (jb _ hx)) with rfl | h3
   ·
    exact absurd (h1 _ hx) qc6
   ·
    exact h3
  ·
   refine List.Sublist.cons _ (qep ht (qfw hu) fun x hx => ?_)
   rcases zv.1 (h x hx) with rfl | h3
   ·
    rcases zv.1 hx with rfl | h4
    ·
     exact ha
    ·
     exact absurd (uv (h2 _ ha) (h1 _ h4)) qc6
   ·
    exact h3
def jz(t:List (List UInt8)):Bool:=decide (t.length≤255)&&t.all qgo&&yh t
theorem vu{t:List (List UInt8)}:jz t=true↔t.length≤255∧(∀s∈t,qgo s=true)∧yh t=true:=by
 unfold jz
 rw[jq,jq,decide_eq_true_eq,List.all_eq_true,and_assoc]
def qeq(t:List (List UInt8)):List UInt8:=UInt8.ofNat t.length :: t.flatMap fun s=>UInt8.ofNat s.length :: s
structure IsOrder (l t:List (List UInt8)):Prop where
 rises:yh t=true
 few:t.length≤255
 of:∀x∈t,x∈l∧qgo x=true
 all:∀s∈l,qgo s=true→s∈t∨(t.length=255∧∀x∈t,xd x s<0)
theorem IsOrder.right{l t:List (List UInt8)}(h:IsOrder l t):jz t=true:=vu.2 ⟨h.few,fun s hs=>(h.of s hs).2,h.rises⟩
theorem IsOrder.sub{l t u:List (List UInt8)}(h:IsOrder l t)(k:IsOrder l u):∀x∈u,x∈t:=by
 intro x hx
 obtain⟨hxl,hxo⟩:=k.of x hx
 rcases h.all x hxl hxo with h1 | ⟨h1,h2⟩
 ·
  exact h1
 ·
  exfalso
  have hn:x∉t:=fun h3=>qc6 (h2 x h3)
  have htu:∀y∈t,y∈u:=fun y hy=>by
   obtain⟨hyl,hyo⟩:=h.of y hy
   rcases k.all y hyl hyo with h3 | ⟨_,h3⟩
   ·
    exact h3
   ·
    exact absurd (uv (h3 x hx) (h2 y hy)) qc6
  have hs:=qep h.rises k.rises htu
  have he:=hs.eq_of_length_le (by rw[h1];exact k.few)
  exact hn (he ▸ hx)
theorem IsOrder.one{l t u:List (List UInt8)}(h:IsOrder l t)(k:IsOrder l u):t=u :=
 (qep h.rises k.rises (k.sub h)).eq_of_length_le (qep k.rises h.rises (h.sub k)).length_le
def qt(l:List ByteArray):List (List UInt8):=l.map fun s=>s.data.toList
theorem bytL2_snoc(ys:List ByteArray)(s:ByteArray):qt (ys++[s])=qt ys++[s.data.toList]:=by simp[qt]
theorem qjv:∀(t:List (List UInt8)) (a b:List UInt8),yh (t++[a,b])=(yh (t++[a])&&decide (xd a b<0))
 | [],a,b=>by simp[yh]
 | [c],a,b=>by simp[yh,Bool.and_assoc]
 | c :: d :: t,a,b=>by
  have:=qjv (d :: t) a b
  simp only[z7] at this ⊢
  rw[yh,yh,this,Bool.and_assoc]
theorem rises_adj:∀ {t:List (List UInt8)} {k:Nat} (h:yh t=true) (hk:k+1<t.length),xd t[k] t[k+1]<0
 | [],k,_,hk=>by simp at hk
 | [_],k,_,hk=>by simp at hk
 | a :: b :: t,0,h,_=>(kn.1 h).1
 | a :: b :: t,k+1,h,hk=>by
  have:=rises_adj (kn.1 h).2 (k:=k) (by simpa using hk)
  exact this
theorem qm9{t:List (List UInt8)}{k:Nat}(hk:k+1<t.length):yh (t.take (k+2))=(yh (t.take (k+1))&&decide (xd t[k] t[k+1]<0)):=by
 rw[qi (i:=k+1) (by omega),qi (i:=k) (by omega),qm]
 exact qjv _ _ _
theorem zb(l:List ByteArray):(qt l).length=l.length:=by simp[qt]
theorem vq(l:List ByteArray)(k:Nat)(h:k<l.length):(qt l)[k]'(by rw[zb];exact h)=l[k].data.toList:=by simp[qt]
theorem qfy:∀ {T:List (List UInt8)} {i j:Nat} (h:yh T=true) (hij:i<j) (hj:j<T.length),xd T[i] T[j]<0
 | [],i,j,_,_,hj=>by simp at hj
 | a :: t,0,j+1,h,_,hj=>by
  have hj':j<t.length:=by simpa using hj
  exact qfx h _ (ql hj')
 | a :: t,i+1,j+1,h,hij,hj=>by
  have hj':j<t.length:=by simpa using hj
  exact qfy (T:=t) (qfw h) (by omega) hj'
theorem rises_inj{T:List (List UInt8)}{i j:Nat}(h:yh T=true)(hi:i<T.length)(hj:j<T.length)(e:T[i]=T[j]):i=j:=by
 rcases Nat.lt_trichotomy i j with h1 | h1 | h1
 ·
  have:=qfy h h1 hj
  rw[e,qdf] at this
  omega
 ·
  exact h1
 ·
  have:=qfy h h1 hi
  rw[e,qdf] at this
  omega
theorem Tryz.infoStr:(Tryz.prog.info? 9).map (fun i=>(i.zero,i.size,i.bytes))=some (some (.string ⟨#[]⟩),1,16):=by kernel_rfl
theorem qis(w:World)(base:Nat)(v:Value)(ys zs us:List ByteArray)(hus:ys++zs=us)(hown:w.ownsRow base 9 1 v ys.length (sv ys)){lo h':Nat}{A:Option Addr}{c:Nat}(hr:Rd w lo h' A c (sv zs))
  (hb:ys.length+zs.length≤1000000000) (hbase:base≤w.heap.size) :
  ∃A' c' w',(Builtin.append_ #[52,52] 52 #[v,.slice A zs.length c]).run Tryz.prog w= .ok (.slice A' us.length c') w'∧
   w'.ownsRow base 9 1 (.slice A' us.length c') us.length (sv us)∧w.grownBy w' v.ownBlock:=by
 subst hus
 obtain⟨i0,hi0,hz0,hz1,hz2⟩:=info_parts Tryz.infoStr
 have hl:=xr zs
 obtain⟨A',c',w',hrun,h2,h3,_⟩:=ky (P:=Tryz.prog) w base 52 52 9 i0 _ 16 Tryz.underlying52 hi0 hz0 hz1 hz2 rfl v ys.length (sv ys) hown lo h' A c (sv zs) hr (sv_one _)
  (by rw[hl];simp only[maxLen];omega) (by rw[hl];omega) hbase
 rw[hl] at hrun h2
 rw[qd]
 exact⟨A',c',w',hrun,by rw[sv_append];exact h2,h3⟩
theorem vj{ops:Array Oper}{rest:List Oper}{o:Oper}{a:Act}{Q:Exit→Act→World→Prop}{w:World}{v:Value}{g:Nat}(base:Nat)(ys:List ByteArray)(z:ByteArray)(hgd:o.guard=none)(s x:Operand)
  (ho:o.op= .call { callee:= .builtin .append,args:=#[s,x],argTypes:=#[52,52] }) (hty:o.type=52)
  (hs:a.eval s=v) (hx:a.eval x= .slice (some ⟨g,0,none⟩) 1 1) (hcell:w.cell? ⟨g,0,none⟩=some (.string z))
  (hown:w.ownsRow base 9 1 v ys.length (sv ys)) (hb:ys.length+1≤1000000000) (hbase:base≤w.heap.size)
  (h:∀A' c' w',w'.ownsRow base 9 1 (.slice A' (ys++[z]).length c') (ys++[z]).length (sv (ys++[z]))→w.grownBy w' v.ownBlock→wpList Tryz.prog ops Q rest (a.put o.dst (.slice A' (ys.length+1) c')) w') :
  wpList Tryz.prog ops Q (o :: rest) a w:=by
 have hr:Rd w 0 w.heap.size (some ⟨g,0,none⟩) 1 (sv [z]):=⟨by simp[sv],by simp[maxLen],fun _=>⟨g,0,rfl,qj _,km w _ hcell,fun j u hu=>by
  match j,hu with
  | 0,hu =>
   simp[sv] at hu
   subst hu
   exact hcell
  | j+1,hu=>simp[sv] at hu⟩⟩
 obtain⟨A',c',w',hrun,h2,h3⟩:=qis w base v ys [z] (ys++[z]) rfl hown hr (by simpa using hb) hbase
 rw[show(ys++[z]).length=ys.length+1 from by simp] at hrun
 exact wpList_append_run hgd s x _ _ ho hs hx (by rw[hty];exact hrun) (h A' c' w' h2 h3)
theorem put_take{l:List ByteArray}{k:Nat}(h:k<l.length):((qt l).take (k+1)).flatMap (fun s=>UInt8.ofNat s.length :: s)=(((qt l).take k).flatMap fun s=>UInt8.ofNat s.length :: s)++UInt8.ofNat l[k].size :: l[k].data.toList:=by
 have hk:k<(qt l).length:=by simpa[qt] using h
 rw[qi hk,qbm,qco,List.flatMap_nil,jd]
 have he:(qt l)[k]=l[k].data.toList:=by simp[qt]
 rw[he,jo]
 rfl
theorem ok_size(s:ByteArray):qgo s.data.toList=(decide (1≤s.size)&&decide (s.size≤8)):=by
 unfold qgo
 rw[jo]
 rfl
theorem fits_any{w:World}(z:Int):Calls Tryz.prog 194 #[.int .i64 z] w fun r w'=>r= .returned (.bool (decide (1≤z)&&decide (z≤8)))∧w=w':=by
 by_cases h0:z<1
 ·
  have hf:decide (1≤z)=false:=qw (by omega)
  rw[hf]
  go_enter Tryz.func194,Tryz.ntmps194
  go_wp2
  go_ret
  exact⟨rfl,rfl⟩
 ·
  have ht:decide (1≤z)=true:=qx (by omega)
  rw[ht]
  by_cases h1:z≤8
  ·
   have h2:decide (z≤8)=true:=qx h1
   rw[h2]
   go_enter Tryz.func194,Tryz.ntmps194
   go_wp2
   go_ret
   exact⟨rfl,rfl⟩
  ·
   have h2:decide (z≤8)=false:=qw h1
   rw[h2]
   go_enter Tryz.func194,Tryz.ntmps194
   go_wp2
   go_ret
   exact⟨rfl,rfl⟩
theorem fits_size(s:ByteArray):(decide (1≤(s.size:Int))&&decide ((s.size:Int)≤8))=qgo s.data.toList:=by
 rw[ok_size]
 congr 1 <;> (rw[decide_eq_decide];omega)
theorem less_cmp:∀(a b:List UInt8),Op.bytesLess a b=decide (xd a b<0)
 | [],[]=>by simp[Op.bytesLess,xd]
 | [],_ :: _=>by simp[Op.bytesLess,xd]
 | _ :: _,[]=>by simp[Op.bytesLess,xd]
 | x :: a,y :: b=>by
  unfold Op.bytesLess xd
  by_cases h1:x.toNat<y.toNat
  ·
   rw[if_pos h1,qx (show x<y from h1)];rfl
  ·
   rw[if_neg h1,qw (show ¬x<y from h1),Bool.false_or]
   by_cases h2:y.toNat<x.toNat
   ·
    rw[if_pos h2,show(x==y)=false from q9.2 (fun e=>by subst e;omega)];rfl
   ·
    rw[if_neg h2,show(x==y)=true from beq_iff_eq.2 (UInt8.toNat_inj.1 (by omega)),qda,less_cmp a b]
theorem qg1(a b:ByteArray):Op.bytesLess a.toList b.toList=decide (xd a.data.toList b.data.toList<0):=by rw[ul,ul,less_cmp]
def qik:List (List UInt8)→Nat→Int→Nat→List UInt8→Int×Nat
 | [],_,c,n,_=>(c,n)
 | t :: ts,i,c,n,l=>if n<t.length∧t.isPrefixOf l=true then qik ts (i+1) (i:Int) t.length l else qik ts (i+1) c n l
theorem qje(s:ByteArray):s.data.toList.length=s.size:=by rw[jo];rfl
theorem headS(s:ByteArray)(k:Nat):(s.extract 0 k).data.toList=s.data.toList.take k:=by
 rw[ByteArray.data_extract,Array.toList_extract]
 simp[qci]
def Cand(ts:List (List UInt8))(s:List UInt8):Prop:=qgo s=true∧∀x∈ts,xd x s<0
theorem qjw:∀ {t:List (List UInt8)} {b:List UInt8},yh t=true→(∀x∈t,xd x b<0)→yh (t++[b])=true
 | [],b,_,_=>rfl
 | [a],b,_,h=>by
  show yh [a,b]=true
  exact kn.2 ⟨h a zr,rfl⟩
 | a :: c :: t,b,hr,h=>by
  obtain⟨h1,h2⟩:=kn.1 hr
  exact kn.2 ⟨h1,qjw h2 fun x hx=>h x (jb _ hx)⟩
structure Ord (l t:List (List UInt8)):Prop where
 rises:yh t=true
 of:∀x∈t,x∈l∧qgo x=true
 all:∀s∈l,qgo s=true→s∈t∨∀x∈t,xd x s<0
theorem Ord.nil(l:List (List UInt8)):Ord l []:=⟨rfl,fun x hx=>(by cases hx),fun s _ _=>Or.inr fun x hx=>(by cases hx)⟩
theorem Ord.push{l t:List (List UInt8)}{b:List UInt8}(h:Ord l t)(hb:b∈l)(hc:Cand t b)(hm:∀s∈l,Cand t s→xd b s≤0):Ord l (t++[b]):=by
 refine⟨qjw h.rises hc.2,fun x hx => ?_,fun s hs ho => ?_⟩
 ·
  rcases zn.1 hx with hx | hx
  ·
   exact h.of x hx
  ·
   rw[q8.1 hx];exact⟨hb,hc.1⟩
 ·
  rcases h.all s hs ho with h1 | h1
  ·
   exact Or.inl (List.mem_append_left _ h1)
  ·
   have h2:=hm s hs ⟨ho,h1⟩
   rcases Int.lt_or_eq_of_le h2 with h3 | h3
   ·
    refine Or.inr fun x hx => ?_
    rcases zn.1 hx with hx | hx
    ·
     exact h1 x hx
    ·
     rw[q8.1 hx];exact h3
   ·
    rw[←qde h3]
    exact Or.inl (List.mem_append_right _ zr)
def qke(last s:List UInt8):Bool:=qgo s&&decide (xd last s<0)
theorem qmu{w:World}(a s:ByteArray)(hs:s.size≤9223372036854775807):Calls Tryz.prog 195 #[.string a,.string s] w fun r w'=>r= .returned (.bool (qke a.data.toList s.data.toList))∧∃m,w'=w.drewN m:=by
 have HF:=qa (fun w=>fits_any (w:=w) (s.size:Int))
 rw[fits_size] at HF
 have hless:=qg1 a s
 unfold qke
 by_cases hok:qgo s.data.toList=true
 ·
  rw[hok] at HF ⊢
  generalize decide (xd a.data.toList s.data.toList<0)=v at *
  go_enter Tryz.func195,Tryz.ntmps195
  go_wp2_with fail
  refine(HF.out _).mono ?_
  rintro r w' ⟨rfl,rfl⟩
  go_wp2
  go_ret
  exact⟨rfl,0,rfl⟩
 ·
  rw[Bool.not_eq_true] at hok
  rw[hok] at HF ⊢
  clear hless
  go_enter Tryz.func195,Tryz.ntmps195
  go_wp2_with fail
  refine(HF.out _).mono ?_
  rintro r w' ⟨rfl,rfl⟩
  go_wp2
  go_ret
  exact⟨rfl,0,rfl⟩
theorem sright_any{w:World}(l:List ByteArray){lo hi c:Nat}{A:Option Addr}(h:Rd w lo hi A c (sv l))(h1k:∀s∈l,s.size≤9223372036854775807) :
  Calls Tryz.prog 222 #[.slice A l.length c] w fun r w'=>r= .returned (.bool (jz (qt l)))∧∃m,w'=w.drewN m:=by
 have hl:=h.len
 have hm:=h.cap
 rw[xr] at hl
 unfold maxLen at hm
 have H:=qa h
 have H1:Hid (∀k (hk:k<l.length),l[k].size≤9223372036854775807):=fun k hk=>h1k _ (ql hk)
 clear h h1k
 obtain⟨v,hv⟩:∃v,jz (qt l)=v:=⟨_,rfl⟩
 rw[hv]
 have HNO:Hid (∀k (hk:k<l.length) (last:ByteArray),(last=⟨#[]⟩∧k=0∨∃j,∃(hj:j<l.length),k=j+1∧last=l[j])→qke last.data.toList l[k].data.toList=false→v=false):=fun k hk last hla h=>by
  cases hvv:v with
  | false=>rfl
  | true =>
   rw[hvv] at hv
   have h1:=(vu.1 hv).2.1 _ (ql (l:=qt l) (n:=k) (by rw[zb];exact hk))
   rw[vq l k hk] at h1
   rw[qke,h1,qda] at h
   have h:=of_decide_eq_false h
   rcases hla with ⟨rfl,_⟩ | ⟨j,hj,rfl,rfl⟩
   ·
    refine absurd ?_ h
    have:=(qeb.1 h1).1
    cases hx:l[k].data.toList with
    | nil=>rw[hx] at this;simp at this
    | cons=>simp[xd]
   ·
    have:=rises_adj (vu.1 hv).2.2 (k:=j) (by rw[zb];exact hk)
    rw[vq l j (by omega),vq l (j+1) hk] at this
    exact absurd this h
 have HFI:Hid ((∀k (hk:k<l.length),qgo l[k].data.toList=true)→yh ((qt l).take l.length)=true→v=decide (l.length≤255)):=fun h3 h4=>by
  rw[←hv,Bool.eq_iff_iff,vu,zb,decide_eq_true_eq]
  refine⟨fun h=>h.1,fun h2=>⟨h2,fun s hs => ?_,?_⟩⟩
  ·
   obtain⟨k,hk,rfl⟩:=zl hs
   rw[zb] at hk
   rw[vq l k hk]
   exact h3 k hk
  ·
   rw[qp (by rw[zb];exact qc _)] at h4
   exact h4
 clear hv
 go_enter Tryz.func222,Tryz.ntmps222
 go_wp2_with fail
 go_loopw [3,8] (fun la i wr=>∃(k m:Nat) (last:ByteArray),k≤l.length∧i= .int .i64 (k:Int)∧la= .string last∧(last=⟨#[]⟩∧k=0∨∃j,∃(hj:j<l.length),k=j+1∧last=l[j])∧(∀j (hj:j<l.length),j<k→qgo l[j].data.toList=true)∧yh ((qt l).take k)=true∧wr=w.drewN m) (fun _ i _=>l.length-(intOf i).toNat)
 case atStart=>exact⟨0,0,⟨#[]⟩,qj _,rfl,rfl,.inl ⟨rfl,rfl⟩,fun j _ h=>absurd h (jm j),rfl,rfl⟩
 case round =>
  obtain⟨k,m,last,hk,rfl,rfl,hla,hok,hri,rfl⟩:=hrel
  have HO:=qa hok
  have HR:=qa hri
  have HLA:=qa hla
  clear hok hri hla
  by_cases hlt:k<l.length
  ·
   have ik:(k:Int)<(l.length:Int):=by omega
   obtain⟨b,off,rfl,_,_,hcell⟩:=H.out.str hlt
   have HFO:=qa (fun w=>qmu (w:=w) last l[k] (H1.out k hlt))
   have HV:=qa (HNO.out k hlt last HLA.out)
   obtain⟨f,hf⟩:∃f,qke last.data.toList l[k].data.toList=f:=⟨_,rfl⟩
   have HE:Hid (qke last.data.toList l[k].data.toList=f):=hf
   rw[hf] at HFO HV
   clear hf
   cases f with
   | false =>
    have HVV:=qa (HV.out rfl)
    go_wp2_with fail
    refine(HFO.out _).mono ?_
    rintro r w' ⟨rfl,m2,rfl⟩
    go_wp2_with fail
    go_ret
    exact⟨yc HVV.out.symm,m+m2,rfl⟩
   | true =>
    have HOK:Hid (∀j (hj:j<l.length),j<k+1→qgo l[j].data.toList=true):=fun j hj hjk=>by
     rcases Nat.lt_or_ge j k with h2 | h2
     ·
      exact HO.out j hj h2
     ·
      have:j=k:=by omega
      subst this
      have:=HE.out
      rw[qke,jq] at this
      exact this.1
    have HRS:Hid (yh ((qt l).take (k+1))=true):=by
     unfold Hid
     rcases HLA.out with ⟨rfl,rfl⟩ | ⟨j,hj,rfl,rfl⟩
     ·
      rw[qi (by rw[zb];omega)]
      rfl
     ·
      rw[qm9 (by rw[zb];omega),vq l j (by omega),vq l (j+1) hlt,HR.out,qda]
      have:=HE.out
      rw[qke,jq] at this
      exact this.2
    go_wp2_with fail
    refine(HFO.out _).mono ?_
    rintro r w' ⟨rfl,m2,rfl⟩
    go_wp2_with fail
    go_roundw
    case rel=>exact⟨k+1,m+m2,l[k],by omega,by first | rfl | go_num,rfl,.inr ⟨k,hlt,rfl,rfl⟩,HOK.out,HRS.out,rfl⟩
    case measure=>simp[intOf] <;> omega
  ·
   have ik:¬(k:Int)<(l.length:Int):=by omega
   have hke:k=l.length:=by omega
   have HV:Hid (v=decide (l.length≤255)):=HFI.out (fun j hj=>HO.out j hj (by omega)) (by rw[←hke];exact HR.out)
   go_wp2_with fail
   go_ret
   refine⟨?_,m,rfl⟩
   rw[HV.out]
   first | rfl | (apply yc;rw[decide_eq_decide];omega)
def qft(n:Nat):Bool:=decide (1≤(n:Int))&&decide ((n:Int)≤8)
theorem sizeOk_iff{n:Nat}:qft n=true↔1≤n∧n≤8:=by
 unfold qft
 rw[jq,decide_eq_true_eq,decide_eq_true_eq]
 omega
def qd0(bs:List UInt8)(p:Nat)(e:Int)(last:List UInt8):List UInt8×Nat×Int :=
 let r:=z6 bs p e 0 1
 let n:=(r.1.headD 0).toNat
 let e2:=if qft n=true then r.2.2 else jx r.2.2
 let q:=z6 bs r.2.1 e2 0 n
 (q.1,q.2.1,if qke last q.1=true then q.2.2 else jx q.2.2)
def qdv(bs:List UInt8):Nat→Nat→Int→List UInt8→List (List UInt8)×Nat×Int
 | 0,p,e,_=>([],p,e)
 | n+1,p,e,last=>((qd0 bs p e last).1 :: (qdv bs n (qd0 bs p e last).2.1 (qd0 bs p e last).2.2 (qd0 bs p e last).1).1,(qdv bs n (qd0 bs p e last).2.1 (qd0 bs p e last).2.2 (qd0 bs p e last).1).2)
theorem qfm(bs:List UInt8)(k:Nat){e:Int}(n:Int)(h:e≠0):z6 bs k e 0 n=([],k,e):=by simp[z6,h]
theorem gstep_bad(bs:List UInt8)(p:Nat){e:Int}(last:List UInt8)(h:e≠0):qd0 bs p e last=([],p,e):=by
 unfold qd0
 simp only[qfm bs p _ h,vw h,ite_self]
theorem qim(bs:List UInt8):∀(n p:Nat) {e:Int} (last:List UInt8),e≠0→(qdv bs n p e last).2=(p,e)
 | 0,p,e,last,_=>rfl
 | n+1,p,e,last,h=>by
  unfold qdv
  simp only[gstep_bad bs p last h]
  exact qim bs n p [] h
theorem qds{bs:List UInt8}{p:Nat}(h:p<bs.length):z6 bs p 0 0 1=([bs[p]],p+1,0):=by
 rw[show(1:Int)=((1:Nat):Int) from rfl,qa2 bs p 1 (by omega)]
 congr 1
 rw[ja h]
 rfl
theorem gstep_end{bs:List UInt8}{p:Nat}(last:List UInt8)(h:bs.length≤p):qd0 bs p 0 last=([],p,2):=by
 have h1:z6 bs p 0 0 1=([],p,2):=by
  rw[show(1:Int)=((1:Nat):Int) from rfl]
  exact qa8 bs p 1 (by omega)
 unfold qd0
 simp only[h1]
 have h2:qft (([]:List UInt8).headD 0).toNat=false:=rfl
 have h3:jx 2=2:=rfl
 simp only[h2,h3,kr,if_false,qfm bs p _ (show(2:Int)≠0 by decide),ite_self]
theorem gstep_short{bs:List UInt8}{p:Nat}(last:List UInt8)(h:p<bs.length)(ho:qft bs[p].toNat=true)(hs:bs.length<p+1+bs[p].toNat):qd0 bs p 0 last=([],p+1,2):=by
 unfold qd0
 simp only[qds h,List.headD_cons,ho,if_true,qa8 bs (p+1) _ hs]
 have h3:jx 2=2:=rfl
 simp only[h3,ite_self]
theorem gstep_size{bs:List UInt8}{p:Nat}(last:List UInt8)(h:p<bs.length)(ho:qft bs[p].toNat=false):qd0 bs p 0 last=([],p+1,3):=by
 unfold qd0
 have h3:jx 0=3:=rfl
 have h4:jx 3=3:=rfl
 simp only[qds h,List.headD_cons,ho,kr,if_false,h3,qfm bs (p+1) _ (show(3:Int)≠0 by decide),h4,ite_self]
theorem qlt{bs:List UInt8}{p:Nat}(last:List UInt8)(h:p<bs.length)(ho:qft bs[p].toNat=true)(hs:p+1+bs[p].toNat≤bs.length) :
  qd0 bs p 0 last=((bs.drop (p+1)).take bs[p].toNat,p+1+bs[p].toNat,if qke last ((bs.drop (p+1)).take bs[p].toNat)=true then 0 else 3):=by
 unfold qd0
 simp only[qds h,List.headD_cons,ho,if_true,qa2 bs (p+1) _ hs]
 rfl
def qhx(t:List (List UInt8)):List UInt8:=t.flatMap fun s=>UInt8.ofNat s.length :: s
theorem qfn(s:List UInt8)(t:List (List UInt8)):qhx (s :: t)=UInt8.ofNat s.length :: (s++qhx t):=by simp[qhx]
theorem qfq(t:List (List UInt8)):qeq t=UInt8.ofNat t.length :: qhx t:=rfl
theorem getF_good{bs:List UInt8}:∀(n p:Nat) (last:List UInt8) {t:List (List UInt8)} {q:Nat},qdv bs n p 0 last=(t,q,0)→p≤bs.length→
  t.length=n∧(∀s∈t,qgo s=true)∧yh (last :: t)=true∧p≤q∧q≤bs.length∧(bs.drop p).take (q-p)=qhx t
 | 0,p,last,t,q,h,hp=>by
  simp only[qdv,Prod.mk.injEq,and_true] at h
  obtain⟨rfl,rfl⟩:=h
  exact⟨rfl,fun s hs=>(by cases hs),rfl,qc _,hp,by simp[qhx]⟩
 | n+1,p,last,t,q,h,hp=>by
  by_cases h1:p<bs.length
  ·
   cases ho:qft bs[p].toNat with
   | false =>
    exfalso
    unfold qdv at h
    simp only[gstep_size last h1 ho] at h
    have:=qim bs n (p+1) (e:=3) [] (by decide)
    rw[this] at h
    simp at h
   | true =>
    by_cases hs:p+1+bs[p].toNat≤bs.length
    ·
     obtain⟨s,hse⟩:∃s,(bs.drop (p+1)).take bs[p].toNat=s:=⟨_,rfl⟩
     have hsl:s.length=bs[p].toNat:=by rw[←hse,qy,qv];omega
     cases hf:qke last s with
     | false =>
      exfalso
      unfold qdv at h
      simp only[qlt last h1 ho hs,hse,hf,kr,if_false] at h
      have:=qim bs n (p+1+bs[p].toNat) (e:=3) s (by decide)
      rw[this] at h
      simp at h
     | true =>
      unfold qdv at h
      simp only[qlt last h1 ho hs,hse,hf,if_true] at h
      obtain⟨R,hR⟩:∃R,qdv bs n (p+1+bs[p].toNat) 0 s=R:=⟨_,rfl⟩
      rw[hR] at h
      obtain⟨t',q',e'⟩:=R
      simp only[Prod.mk.injEq] at h
      obtain⟨rfl,rfl,rfl⟩:=h
      obtain⟨i1,i2,i3,i4,i5,i6⟩:=getF_good n (p+1+bs[p].toNat) s hR hs
      rw[qke,jq,decide_eq_true_eq] at hf
      refine⟨by rw[qo,i1],fun x hx => ?_,kn.2 ⟨hf.2,i3⟩,by omega,i5,?_⟩
      ·
       rcases zv.1 hx with rfl | hx
       ·
        exact hf.1
       ·
        exact i2 x hx
      ·
       rw[qfn,←i6,hsl]
       have hx:UInt8.ofNat bs[p].toNat=bs[p]:=by simp
       rw[hx,ja h1]
       obtain⟨d,hd⟩:∃d,q'-p=d+1:=⟨q'-p-1,by omega⟩
       rw[hd,yy]
       congr 1
       have hd2:d=bs[p].toNat+(q'-(p+1+bs[p].toNat)):=by omega
       rw[hd2,List.take_add,hse,zu]
    ·
     exfalso
     unfold qdv at h
     simp only[gstep_short last h1 ho (by omega)] at h
     have:=qim bs n (p+1) (e:=2) [] (by decide)
     rw[this] at h
     simp at h
  ·
   exfalso
   unfold qdv at h
   simp only[gstep_end last (Nat.le_of_not_lt h1)] at h
   have:=qim bs n p (e:=2) [] (by decide)
   rw[this] at h
   simp at h
theorem rises_nil{t:List (List UInt8)}(h:∀s∈t,qgo s=true)(hr:yh t=true):yh ([] :: t)=true:=by
 cases t with
 | nil=>rfl
 | cons s t =>
  refine kn.2 ⟨?_,hr⟩
  have:=(qeb.1 (h s zr)).1
  cases s with
  | nil=>simp at this
  | cons=>simp[xd]
theorem gstep_put{pre s post:List UInt8}{last:List UInt8}(ho:qgo s=true)(hr:xd last s<0):qd0 (pre++UInt8.ofNat s.length :: (s++post)) pre.length 0 last=(s,pre.length+1+s.length,0):=by
 obtain⟨h1,h2⟩:=qeb.1 ho
 have hp:pre.length<(pre++UInt8.ofNat s.length :: (s++post)).length:=by simp
 have hx:(pre++UInt8.ofNat s.length :: (s++post))[pre.length]=UInt8.ofNat s.length:=by simp
 have hn:(UInt8.ofNat s.length).toNat=s.length:=by simp;omega
 have hd:((pre++UInt8.ofNat s.length :: (s++post)).drop (pre.length+1)).take s.length=s:=by
  rw[show pre++UInt8.ofNat s.length :: (s++post)=(pre++[UInt8.ofNat s.length])++(s++post) by simp,show pre.length+1=(pre++[UInt8.ofNat s.length]).length by simp,jn,List.take_left]
 have:=qlt last hp (by rw[hx,hn];exact sizeOk_iff.2 ⟨h1,h2⟩) (by rw[hx,hn];simp;omega)
 rw[this,hx,hn,hd]
 have hf:qke last s=true:=by rw[qke,ho,qx hr];rfl
 rw[if_pos hf]
theorem getF_put:∀(t:List (List UInt8)) (pre post last:List UInt8),(∀s∈t,qgo s=true)→yh (last :: t)=true→qdv (pre++(qhx t++post)) t.length pre.length 0 last=(t,pre.length+(qhx t).length,0)
 | [],pre,post,last,_,_=>rfl
 | s :: t,pre,post,last,ho,hr=>by
  obtain⟨h1,h2⟩:=kn.1 hr
  have hb:pre++(qhx (s :: t)++post)=pre++UInt8.ofNat s.length :: (s++(qhx t++post)):=by rw[qfn];simp
  have hb2:pre++(qhx (s :: t)++post)=(pre++UInt8.ofNat s.length :: s)++(qhx t++post):=by rw[qfn];simp
  have hl:(pre++UInt8.ofNat s.length :: s).length=pre.length+1+s.length:=by simp;omega
  have ih:=getF_put t (pre++UInt8.ofNat s.length :: s) post s (fun x hx=>ho x (jb _ hx)) h2
  rw[←hb2,hl] at ih
  rw[qo,qdv]
  have hg:=gstep_put (pre:=pre) (post:=qhx t++post) (ho s zr) h1
  rw[←hb] at hg
  simp only[hg]
  rw[ih,qfn]
  simp
  omega
def qm8(bs:List UInt8)(k:Nat)(e:Int):Nat:=((z6 bs k e 0 1).1.headD 0).toNat
def qg2(bs:List UInt8)(k:Nat)(e:Int):List (List UInt8)×Nat×Int:=qdv bs (qm8 bs k e) (z6 bs k e 0 1).2.1 (z6 bs k e 0 1).2.2 []
def qdd(bs:List UInt8)(k:Nat)(e:Int):List (List UInt8)×Nat×Int:=if (qg2 bs k e).2.2=0 then qg2 bs k e else ([],(qg2 bs k e).2)
theorem getK_bad(bs:List UInt8)(k:Nat){e:Int}(h:e≠0):qdd bs k e=([],k,e):=by
 have h1:qg2 bs k e=([],k,e):=by
  unfold qg2 qm8
  rw[qfm bs k 1 h]
  rfl
 rw[qdd,h1,if_neg h]
theorem getK_good{bs:List UInt8}{k k2:Nat}{t:List (List UInt8)}(hk:k≤bs.length)(h:qdd bs k 0=(t,k2,0)) :
  jz t=true∧bs.drop k=qeq t++bs.drop k2∧k2=k+(qeq t).length∧k2≤bs.length:=by
 unfold qdd at h
 split at h
 ·
  unfold qg2 at h
  by_cases hlt:k<bs.length
  ·
   have hT:=qds hlt
   have hN:qm8 bs k 0=bs[k].toNat:=by rw[qm8,hT];rfl
   rw[hN,hT] at h
   obtain⟨h1,h2,h3,h4,h5,h6⟩:=getF_good _ _ _ h (by show k+1≤bs.length;omega)
   have hb:=je bs[k]
   have hr:yh t=true:=by
    cases t with
    | nil=>rfl
    | cons s t=>exact(kn.1 h3).2
   have hx:UInt8.ofNat t.length=bs[k]:=by rw[h1];simp
   have hd:bs.drop k=qeq t++bs.drop k2:=by
    rw[ja hlt,qfq,hx,z7,←h6]
    congr 1
    have e2:bs.drop k2=(bs.drop (k+1)).drop (k2-(k+1)):=by rw[zu];congr 1;simp at h4;omega
    rw[e2,zw]
   have hl:=congrArg List.length hd
   rw[qd,qv,qv] at hl
   simp at h4 h5
   exact⟨vu.2 ⟨by omega,h2,hr⟩,hd,by omega,h5⟩
  ·
   exfalso
   have hT:z6 bs k 0 0 1=([],k,2):=by
    rw[show(1:Int)=((1:Nat):Int) from rfl]
    exact qa8 bs k 1 (by omega)
   have hN:qm8 bs k 0=0:=by rw[qm8,hT];rfl
   rw[hN,hT] at h
   simp[qdv] at h
 ·
  rename_i hne
  simp only[Prod.mk.injEq] at h
  exact absurd (congrArg Prod.snd h.2) hne
theorem getK_there{bs rest:List UInt8}{k:Nat}{t:List (List UInt8)}(hk:k≤bs.length)(hr:jz t=true)(h:bs.drop k=qeq t++rest):qdd bs k 0=(t,k+(qeq t).length,0):=by
 obtain⟨h5,ho,hri⟩:=vu.1 hr
 have hn:(UInt8.ofNat t.length).toNat=t.length:=by simp;omega
 have hlt:k<bs.length:=by
  have:=congrArg List.length h
  rw[qv,qfq] at this
  simp at this
  omega
 have hc:=ja hlt
 rw[h,qfq,z7,List.cons.injEq] at hc
 obtain⟨c1,c2⟩:=hc
 have hT:=qds hlt
 have hN:qm8 bs k 0=t.length:=by rw[qm8,hT,List.headD_cons,←c1];exact hn
 have hb:bs=bs.take (k+1)++(qhx t++rest):=by rw[c2,zw]
 have hl:(bs.take (k+1)).length=k+1:=by rw[qy];omega
 have hA:qg2 bs k 0=(t,k+(qeq t).length,0):=by
  rw[qg2,hN,hT]
  have:=getF_put t (bs.take (k+1)) rest [] ho (rises_nil ho hri)
  rw[←hb,hl] at this
  refine this.trans ?_
  rw[qfq]
  simp
  omega
 rw[qdd,hA,if_pos rfl]
end Go.Proofs.YtjfecojdagmacaaGreat
