/-
  Lemmas.
-/
import Derived.Test.YtnjkipnklpkaoaaGreatA47
namespace Go.Proofs.YtnjkipnklpkaoaaGreat
open Go.RowKit
set_option maxRecDepth 20000
set_option maxHeartbeats 16000000
set_option linter.unusedSimpArgs false
set_option linter.unusedVariables false
def byt(l:List UInt8)(k:Nat):Nat:=(l.getD k 0).toNat
theorem qg8{l:List UInt8}{k:Nat}(h:k<l.length):byt l k=l[k].toNat:=by simp[byt,List.getD,qe h]
def ptL(l:List UInt8):Nat×Nat:=ptN l.length (byt l 0) (byt l 1) (byt l 2) (byt l 3)
theorem qo2(l:List UInt8):1≤(ptL l).2:=(ptN_size _ _ _ _ _).1
theorem ptL_le{l:List UInt8}(h:l≠[]):(ptL l).2≤l.length:=(ptN_size _ _ _ _ _).2.2 (qda.2 h)
def ptsF:Nat→List UInt8→List Nat
 | 0,_=>[]
 | f+1,l=>if l=[] then [] else (ptL l).1 :: ptsF f (l.drop (ptL l).2)
def qhe(l:List UInt8):List Nat:=ptsF l.length l
theorem ptsF_nil:∀f,ptsF f []=[]
 | 0=>rfl
 | f+1=>rfl
theorem ptsF_more:∀(f g:Nat) (l:List UInt8),l.length≤f→l.length≤g→ptsF f l=ptsF g l
 | f,g,[],_,_=>by rw[ptsF_nil,ptsF_nil]
 | 0,_,x :: r,h,_=>by simp at h
 | _,0,x :: r,_,h=>by simp at h
 | f+1,g+1,x :: r,hf,hg=>by
  have h1:=qo2 (x :: r)
  unfold ptsF
  rw[if_neg (by simp),if_neg (by simp),ptsF_more f g _ (by rw[qu];omega) (by rw[qu];omega)]
theorem ptsL_nil:qhe []=[]:=rfl
theorem ptsL_cons{l:List UInt8}(h:l≠[]):qhe l=(ptL l).1 :: qhe (l.drop (ptL l).2):=by
 have h1:=qo2 l
 have hp:=qda.2 h
 unfold qhe
 obtain⟨f,hf⟩:∃f,l.length=f+1:=⟨l.length-1,by omega⟩
 rw[hf]
 show(if l=[] then [] else _)=_
 rw[if_neg h,ptsF_more f _ _ (by rw[qu];omega) (qc _)]
theorem pts_ind{P:List UInt8→Prop}(h0:P [])(h1:∀l,l≠[]→P (l.drop (ptL l).2)→P l):∀l,P l:=by
 have key:∀(n:Nat) (l:List UInt8),l.length≤n→P l:=by
  intro n
  induction n with
  | zero =>
   intro l hl
   have he:l=[]:=zd (by omega)
   rw[he]
   exact h0
  | succ n ih =>
   intro l hl
   by_cases he:l=[]
   ·
    rw[he];exact h0
   ·
    exact h1 l he (ih _ (by have:=qo2 l;rw[qu];omega))
 exact fun l=>key l.length l (qc _)
theorem pts_le:∀l,(qhe l).length≤l.length:=pts_ind (P:=fun l=>(qhe l).length≤l.length) (qc _) fun l h ih=>by
 have h1:=qo2 l
 have h2:=ptL_le h
 rw[ptsL_cons h,qt]
 rw[qu] at ih
 omega
def qr5:List Nat→List Nat→Int
 | [],[]=>0
 | [],_ :: _ => -1
 | _ :: _,[]=>1
 | x :: a,y :: b=>if x<y then -1 else if y<x then 1 else qr5 a b
theorem qqo:∀ {k:Nat} {a b:List Nat},a.take k=b.take k→qr5 (a.drop k) (b.drop k)=qr5 a b
 | 0,a,b,_=>rfl
 | k+1,[],[],_=>rfl
 | k+1,[],_ :: _,h=>by simp at h
 | k+1,_ :: _,[],h=>by simp at h
 | k+1,x :: a,y :: b,h=>by
  simp only[jn,List.cons.injEq] at h
  obtain⟨rfl,h⟩:=h
  rw[vt,vt,qqo h]
  simp[qr5]
theorem cmpP_at{k:Nat}{a b:List Nat}(h:a.take k=b.take k)(ha:k<a.length)(hb:k<b.length)(hne:a[k]≠b[k]):qr5 a b=if a[k]<b[k] then -1 else 1:=by
 rw[←qqo h,zv ha,zv hb]
 unfold qr5
 by_cases h1:a[k]<b[k]
 ·
  rw[if_pos h1,if_pos h1]
 ·
  rw[if_neg h1,if_neg h1,if_pos (by omega)]
theorem cmpP_end{k:Nat}{a b:List Nat}(h:a.take k=b.take k)(hk:k=min a.length b.length):qr5 a b=if a.length<b.length then -1 else if b.length<a.length then 1 else 0:=by
 rw[←qqo h]
 subst hk
 rcases qa1 a.length b.length with h1 | h1 | h1
 ·
  rw[if_pos h1,yx (by omega),qat,zv h1]
  rfl
 ·
  rw[if_neg (by omega),if_neg (by omega),yx (by omega),qat,List.drop_eq_nil_of_le (by omega)]
  rfl
 ·
  rw[if_neg (by omega),if_pos h1,Nat.min_eq_right (by omega),qat,zv h1]
  rfl
def qpk(c:UInt8):UInt8:=if 65≤c.toNat∧c.toNat≤90 then UInt8.ofNat (c.toNat+32) else c
def qcx(l:List UInt8):List UInt8:=l.map qpk
theorem foldB_nat(c:UInt8):(qpk c).toNat=if 65≤c.toNat∧c.toNat≤90 then c.toNat+32 else c.toNat:=by
 have:=zp c
 unfold qpk
 split
 ·
  rw[xh];omega
 ·
  rfl
theorem qpj(l:List UInt8):(qcx l).length=l.length:=by simp[qcx]
theorem qjl{w:World}(x:Nat)(hx:x<256) :
  Calls Tryz.prog 208 #[.int .u8 (x:Int)] w fun r w'=>r= .returned (.bool (decide (qf9 x)))∧w=w':=by
 by_cases h1:128≤x
 ·
  by_cases h2:x<192
  ·
   rw[qp (show qf9 x from ⟨h1,h2⟩)]
   go_enter Tryz.func208,Tryz.ntmps208
   go_wp2
   go_ret
   exact⟨zf (by first | (simp;done) | (simp;omega)),rfl⟩
  ·
   rw[ql (fun h:qf9 x=>h2 h.2)]
   go_enter Tryz.func208,Tryz.ntmps208
   go_wp2
   go_ret
   exact⟨zf (by first | (simp;done) | (simp;omega)),rfl⟩
 ·
  rw[ql (fun h:qf9 x=>h1 h.1)]
  go_enter Tryz.func208,Tryz.ntmps208
  go_wp2
  go_ret
  exact⟨zf (by first | (simp;done) | (simp;omega)),rfl⟩
theorem qdf{n b0 b1 b2 b3:Nat}{p k:Int}{q:Nat×Nat}(h:ptN n b0 b1 b2 b3=q)(hp:p=(q.1:Int))(hk:k=(q.2:Int)) :
  Ending.returned (.tuple #[.int .i64 p,.int .i64 k])= .returned (.tuple #[.int .i64 ((ptN n b0 b1 b2 b3).1:Int),.int .i64 ((ptN n b0 b1 b2 b3).2:Int)]):=by
 rw[h,hp,hk]
section
variable {n b0 b1 b2 b3:Nat}
theorem ptN_a(h:b0<128):ptN n b0 b1 b2 b3=(b0,1):=by unfold ptN;rw[if_pos h]
theorem ptN_b(h:194≤b0∧b0<224∧1<n∧128≤b1∧b1<192):ptN n b0 b1 b2 b3=((b0-192)*64+b1-128,2):=by
 unfold ptN qf9
 rw[if_neg (by omega),if_pos (by omega)]
theorem ptN_c(h:224≤b0∧b0<240∧2<n∧128≤b1∧b1<192∧128≤b2∧b2<192∧2048≤(b0-224)*4096+(b1-128)*64+b2-128∧((b0-224)*4096+(b1-128)*64+b2-128<55296∨57343<(b0-224)*4096+(b1-128)*64+b2-128)) :
  ptN n b0 b1 b2 b3=((b0-224)*4096+(b1-128)*64+b2-128,3):=by
 unfold ptN qf9
 rw[if_neg (by omega),if_neg (by omega),if_pos (by omega)]
theorem ptN_d(h:240≤b0∧b0<245∧3<n∧128≤b1∧b1<192∧128≤b2∧b2<192∧128≤b3∧b3<192∧65536≤(b0-240)*262144+(b1-128)*4096+(b2-128)*64+b3-128∧(b0-240)*262144+(b1-128)*4096+(b2-128)*64+b3-128≤1114111) :
  ptN n b0 b1 b2 b3=((b0-240)*262144+(b1-128)*4096+(b2-128)*64+b3-128,4):=by
 unfold ptN qf9
 rw[if_neg (by omega),if_neg (by omega),if_neg (by omega),if_pos (by omega)]
theorem ptN_e(hA:¬b0<128)(hB:¬(194≤b0∧b0<224∧1<n∧128≤b1∧b1<192))
  (hC:¬(224≤b0∧b0<240∧2<n∧128≤b1∧b1<192∧128≤b2∧b2<192∧2048≤(b0-224)*4096+(b1-128)*64+b2-128∧((b0-224)*4096+(b1-128)*64+b2-128<55296∨57343<(b0-224)*4096+(b1-128)*64+b2-128)))
  (hD:¬(240≤b0∧b0<245∧3<n∧128≤b1∧b1<192∧128≤b2∧b2<192∧128≤b3∧b3<192∧65536≤(b0-240)*262144+(b1-128)*4096+(b2-128)*64+b3-128∧(b0-240)*262144+(b1-128)*4096+(b2-128)*64+b3-128≤1114111)) :
  ptN n b0 b1 b2 b3=(1114112+b0,1):=by
 unfold ptN qf9
 rw[if_neg hA,if_neg (by omega),if_neg (by omega),if_neg (by omega)]
end
theorem qm2(w:World):∃m,w=w.drewN m:=⟨0,rfl⟩
theorem point_one{w:World}(s:ByteArray)(h4:s.size=1)(hs:s.size≤1000000) :
  Calls Tryz.prog 188 #[.string s] w fun r w'=>r= .returned (.tuple #[.int .i64 ((ptL s.data.toList).1:Int),.int .i64 ((ptL s.data.toList).2:Int)])∧∃m,w'=w.drewN m:=by
 have p0:0<s.size:=by omega
 have hl:s.data.toList.length=s.size:=by rw[zy];rfl
 have e0:byt s.data.toList 0=(s[0]'p0).toNat:=qg8 (by omega)
 obtain⟨z1,e1⟩:∃z,byt s.data.toList 1=z:=⟨_,rfl⟩
 obtain⟨z2,e2⟩:∃z,byt s.data.toList 2=z:=⟨_,rfl⟩
 obtain⟨z3,e3⟩:∃z,byt s.data.toList 3=z:=⟨_,rfl⟩
 unfold ptL
 rw[hl,e0,e1,e2,e3]
 have l0:(s[0]'p0).toNat<256:=zp _
 have i0:(0:Int)<(s.size:Int):=by omega
 have i1:¬(1:Int)<(s.size:Int):=by omega
 have i2:¬(2:Int)<(s.size:Int):=by omega
 have i3:¬(3:Int)<(s.size:Int):=by omega
 have i9:(s.size:Int)≤1:=by omega
 clear hl e0 e1 e2 e3
 have H4:=qa h4
 clear h4
 go_enter Tryz.func188,Tryz.ntmps188
 go_wp2_with (go_at_call 208;refine(qjl _ (by omega)).mono ?_;rintro e w' ⟨rfl,rfl⟩)
 all_goals go_ret2
 all_goals (try simp only[qf9] at *)
 all_goals (refine⟨?_,by first | exact⟨_,rfl⟩ | exact qm2 _⟩)
 all_goals first
  | exact qdf (ptN_a (by omega)) (by omega) rfl
  | exact qdf (ptN_b (by omega)) (by simp only;omega) rfl
  | exact qdf (ptN_c (by omega)) (by simp only;omega) rfl
  | exact qdf (ptN_d (by omega)) (by simp only;omega) rfl
  | exact qdf (ptN_e (by omega) (by omega) (by omega) (by omega)) (by simp only;omega) rfl
theorem point_two{w:World}(s:ByteArray)(h4:s.size=2)(hs:s.size≤1000000) :
  Calls Tryz.prog 188 #[.string s] w fun r w'=>r= .returned (.tuple #[.int .i64 ((ptL s.data.toList).1:Int),.int .i64 ((ptL s.data.toList).2:Int)])∧∃m,w'=w.drewN m:=by
 have p0:0<s.size:=by omega
 have p1:1<s.size:=by omega
 have hl:s.data.toList.length=s.size:=by rw[zy];rfl
 have e0:byt s.data.toList 0=(s[0]'p0).toNat:=qg8 (by omega)
 have e1:byt s.data.toList 1=(s[1]'p1).toNat:=qg8 (by omega)
 obtain⟨z2,e2⟩:∃z,byt s.data.toList 2=z:=⟨_,rfl⟩
 obtain⟨z3,e3⟩:∃z,byt s.data.toList 3=z:=⟨_,rfl⟩
 unfold ptL
 rw[hl,e0,e1,e2,e3]
 have l0:(s[0]'p0).toNat<256:=zp _
 have l1:(s[1]'p1).toNat<256:=zp _
 have i0:(0:Int)<(s.size:Int):=by omega
 have i1:(1:Int)<(s.size:Int):=by omega
 have i2:¬(2:Int)<(s.size:Int):=by omega
 have i3:¬(3:Int)<(s.size:Int):=by omega
 have i9:(s.size:Int)≤2:=by omega
 clear hl e0 e1 e2 e3
 have H4:=qa h4
 clear h4
 go_enter Tryz.func188,Tryz.ntmps188
 go_wp2_with (go_at_call 208;refine(qjl _ (by omega)).mono ?_;rintro e w' ⟨rfl,rfl⟩)
 all_goals go_ret2
 all_goals (try simp only[qf9] at *)
 all_goals (refine⟨?_,by first | exact⟨_,rfl⟩ | exact qm2 _⟩)
 all_goals first
  | exact qdf (ptN_a (by omega)) (by omega) rfl
  | exact qdf (ptN_b (by omega)) (by simp only;omega) rfl
  | exact qdf (ptN_c (by omega)) (by simp only;omega) rfl
  | exact qdf (ptN_d (by omega)) (by simp only;omega) rfl
  | exact qdf (ptN_e (by omega) (by omega) (by omega) (by omega)) (by simp only;omega) rfl
theorem point_three{w:World}(s:ByteArray)(h4:s.size=3)(hs:s.size≤1000000) :
  Calls Tryz.prog 188 #[.string s] w fun r w'=>r= .returned (.tuple #[.int .i64 ((ptL s.data.toList).1:Int),.int .i64 ((ptL s.data.toList).2:Int)])∧∃m,w'=w.drewN m:=by
 have p0:0<s.size:=by omega
 have p1:1<s.size:=by omega
 have p2:2<s.size:=by omega
 have hl:s.data.toList.length=s.size:=by rw[zy];rfl
 have e0:byt s.data.toList 0=(s[0]'p0).toNat:=qg8 (by omega)
 have e1:byt s.data.toList 1=(s[1]'p1).toNat:=qg8 (by omega)
 have e2:byt s.data.toList 2=(s[2]'p2).toNat:=qg8 (by omega)
 obtain⟨z3,e3⟩:∃z,byt s.data.toList 3=z:=⟨_,rfl⟩
 unfold ptL
 rw[hl,e0,e1,e2,e3]
 have l0:(s[0]'p0).toNat<256:=zp _
 have l1:(s[1]'p1).toNat<256:=zp _
 have l2:(s[2]'p2).toNat<256:=zp _
 have i0:(0:Int)<(s.size:Int):=by omega
 have i1:(1:Int)<(s.size:Int):=by omega
 have i2:(2:Int)<(s.size:Int):=by omega
 have i3:¬(3:Int)<(s.size:Int):=by omega
 have i9:(s.size:Int)≤3:=by omega
 clear hl e0 e1 e2 e3
 have H4:=qa h4
 clear h4
 go_enter Tryz.func188,Tryz.ntmps188
 go_wp2_with (go_at_call 208;refine(qjl _ (by omega)).mono ?_;rintro e w' ⟨rfl,rfl⟩)
 all_goals (try (go_quiet (fail)))
 all_goals (try (go_wp2_with (go_at_call 208;refine(qjl _ (by omega)).mono ?_;rintro e w' ⟨rfl,rfl⟩)))
 all_goals go_ret2
 all_goals (try simp only[qf9] at *)
 all_goals (refine⟨?_,by first | exact⟨_,rfl⟩ | exact qm2 _⟩)
 all_goals first
  | exact qdf (ptN_a (by omega)) (by omega) rfl
  | exact qdf (ptN_b (by omega)) (by simp only;omega) rfl
  | exact qdf (ptN_c (by omega)) (by simp only;omega) rfl
  | exact qdf (ptN_d (by omega)) (by simp only;omega) rfl
  | exact qdf (ptN_e (by omega) (by omega) (by omega) (by omega)) (by simp only;omega) rfl
theorem point_four{w:World}(s:ByteArray)(h4:3<s.size)(hs:s.size≤1000000) :
  Calls Tryz.prog 188 #[.string s] w fun r w'=>r= .returned (.tuple #[.int .i64 ((ptL s.data.toList).1:Int),.int .i64 ((ptL s.data.toList).2:Int)])∧∃m,w'=w.drewN m:=by
 have p0:0<s.size:=by omega
 have p1:1<s.size:=by omega
 have p2:2<s.size:=by omega
 have p3:3<s.size:=by omega
 have hl:s.data.toList.length=s.size:=by rw[zy];rfl
 have e0:byt s.data.toList 0=(s[0]'p0).toNat:=qg8 (by omega)
 have e1:byt s.data.toList 1=(s[1]'p1).toNat:=qg8 (by omega)
 have e2:byt s.data.toList 2=(s[2]'p2).toNat:=qg8 (by omega)
 have e3:byt s.data.toList 3=(s[3]'p3).toNat:=qg8 (by omega)
 unfold ptL
 rw[hl,e0,e1,e2,e3]
 have l0:(s[0]'p0).toNat<256:=zp _
 have l1:(s[1]'p1).toNat<256:=zp _
 have l2:(s[2]'p2).toNat<256:=zp _
 have l3:(s[3]'p3).toNat<256:=zp _
 have i0:(0:Int)<(s.size:Int):=by omega
 have i1:(1:Int)<(s.size:Int):=by omega
 have i2:(2:Int)<(s.size:Int):=by omega
 have i3:(3:Int)<(s.size:Int):=by omega
 clear hl e0 e1 e2 e3
 go_enter Tryz.func188,Tryz.ntmps188
 go_wp2_with (go_at_call 208;refine(qjl _ (by omega)).mono ?_;rintro e w' ⟨rfl,rfl⟩)
 all_goals (try (go_quiet (fail)))
 all_goals (try (go_wp2_with (go_at_call 208;refine(qjl _ (by omega)).mono ?_;rintro e w' ⟨rfl,rfl⟩)))
 all_goals go_ret2
 all_goals (try simp only[qf9] at *)
 all_goals (refine⟨?_,by first | exact⟨_,rfl⟩ | exact qm2 _⟩)
 all_goals first
  | exact qdf (ptN_a (by omega)) (by omega) rfl
  | exact qdf (ptN_b (by omega)) (by simp only;omega) rfl
  | exact qdf (ptN_c (by omega)) (by simp only;omega) rfl
  | exact qdf (ptN_d (by omega)) (by simp only;omega) rfl
  | exact qdf (ptN_e (by omega) (by omega) (by omega) (by omega)) (by simp only;omega) rfl
theorem point_any{w:World}(s:ByteArray)(h0:0<s.size)(hs:s.size≤1000000) :
  Calls Tryz.prog 188 #[.string s] w fun r w'=>r= .returned (.tuple #[.int .i64 ((ptL s.data.toList).1:Int),.int .i64 ((ptL s.data.toList).2:Int)])∧∃m,w'=w.drewN m:=by
 rcases xc 3 s.size with h | h
 ·
  exact point_four s h hs
 ·
  rcases xc 2 s.size with h' | h'
  ·
   exact point_three s (by omega) hs
  ·
   rcases xc 1 s.size with h'' | h''
   ·
    exact point_two s (by omega) hs
   ·
    exact point_one s (by omega) hs
theorem qet(s:ByteArray):s.data.toList.length=s.size:=by rw[zy];rfl
theorem ext_toL(s:ByteArray)(k:Nat):(s.extract k s.size).data.toList=s.data.toList.drop k:=by
 rw[Lib.extract_data,qo]
 rw[qu,qet]
 exact qc _
theorem size_ne{s:ByteArray}(h:0<s.size):s.data.toList≠[]:=fun e=>by
 have:=qet s
 rw[e] at this
 simp at this
 omega
theorem qnb{w:World}(s:ByteArray)(hs:s.size≤1000000) :
  Calls Tryz.prog 151 #[.string s] w fun r w'=>∃A c,r= .returned (.slice A (qhe s.data.toList).length c)∧w'.ownsRow w.heap.size 3 1 (.slice A (qhe s.data.toList).length c) (qhe s.data.toList).length (iv (zu (qhe s.data.toList)))∧Below w.heap.size w w':=by
 go_enter Tryz.func151,Tryz.ntmps151
 go_wp2_with fail
 go_loopw [0,3] (fun x0 x3 wr=>∃(t:ByteArray) (ys:List Int) (A:Option Addr) (c:Nat),t.size≤s.size∧x0= .string t∧x3= .slice A ys.length c∧ys.length+t.size≤s.size∧ys++zu (qhe t.data.toList)=zu (qhe s.data.toList)∧
  wr.ownsRow w.heap.size 3 1 (.slice A ys.length c) ys.length (iv ys)∧Below w.heap.size w wr) (fun x0 _ _=>(match x0 with | .string t=>t.size | _=>0))
 case atStart=>exact⟨s,[],none,0,qc _,rfl,rfl,by simp,by simp,zh _ _ _ _,Below.refl _ _⟩
 case round =>
  obtain⟨t,ys,A,c,ht,rfl,rfl,hyt,hys,hown,hb⟩:=hrel
  have HYS:=qa hys
  have HOW:=qa hown
  have HB:=qa hb
  have hsz:=hb.size
  clear hys hown hb
  by_cases h0:0<t.size
  ·
   have hne:=size_ne h0
   have hk1:=qo2 t.data.toList
   have hk2:=ptL_le hne
   rw[qet] at hk2
   have HPC:=qa (ptsL_cons hne)
   have HEX:=qa (ext_toL t (ptL t.data.toList).2)
   have hpt:=fun w0=>point_any (w:=w0) t h0 (by omega)
   have HPT:=qa hpt
   clear hpt hne
   generalize (ptL t.data.toList).1=p at *
   generalize (ptL t.data.toList).2=k at *
   go_wp2_with fail
   refine(HPT.out _).mono ?_
   rintro r w1 ⟨rfl,m,rfl⟩
   have ho1:(wr.drewN m).ownsRow w.heap.size 3 1 (.slice A ys.length c) ys.length (iv ys):=ju HOW.out (fun _ _=>rfl)
   have hb1:=zg HB.out m
   have hz1:wr.heap.size≤(wr.drewN m).heap.size:=qc _
   generalize wr.drewN m=w1 at *
   have HO1:=qa ho1
   have HB1:=qa hb1
   have ik:(k:Int)≤(t.size:Int):=by omega
   have hxs:(t.extract k t.size).size=t.size-k:=by rw[←qet,HEX.out,qu,qet]
   have HXS:=qa hxs
   clear ho1 hb1 hxs
   go_wp2_with (at_builtin;refine qa4 (v:= .slice A ys.length c) w.heap.size ys (p:Int) rfl _ _ rfl rfl rfl rfl (by rw[za _ _ _ _ rfl];rfl) (HO1.out.alloc _) (by omega) (by simp;omega) ?_;intro A' c' w2 ho2 hg2)
   go_roundw
   case rel =>
    refine⟨t.extract k t.size,ys++[(p:Int)],A',c',by rw[HXS.out];omega,rfl,by rw[qd];rfl,?_,?_,ho2,?_⟩
    ·
     rw[qd,HXS.out,qt,je];omega
    ·
     rw[HEX.out,qv,←HYS.out,HPC.out];rfl
    ·
     exact(HB1.out.alloc (by omega) _).grown hg2 (by simp;omega) (fun i hi=>(zk HO1.out hi).1)
   case measure =>
    show(t.extract k t.size).size<t.size
    rw[HXS.out];omega
  ·
   have ht0:t.data.toList=[]:=zd (by rw[qet];omega)
   have hy:ys=zu (qhe s.data.toList):=by
    have:=HYS.out
    rw[ht0,ptsL_nil] at this
    simpa[zu] using this
   have hyl:ys.length=(qhe s.data.toList).length:=by rw[hy,zj]
   have HY:=qa hy
   have HYL:=qa hyl
   clear hy hyl
   go_wp2_with fail
   go_ret
   exact⟨A,c,by rw[←HYL.out];rfl,by rw[←HYL.out,←HY.out];exact HOW.out,HB.out⟩
theorem fold_take{l:List UInt8}{k:Nat}(hk:k<l.length):qcx (l.take (k+1))=qcx (l.take k)++[qpk l[k]]:=by
 rw[qg hk]
 unfold qcx
 rw[jg]
 rfl
theorem qq3{w:World}(s:ByteArray)(hs:s.size≤1000000) :
  Calls Tryz.prog 150 #[.string s] w fun r w'=>r= .returned (.string ⟨(qcx s.data.toList).toArray⟩)∧Below w.heap.size w w':=by
 have hsl:=qet s
 have HSL:=qa hsl
 clear hsl
 go_enter Tryz.func150,Tryz.ntmps150
 go_wp2_with fail
 go_loopw [3,4] (fun x3 x4 wr=>∃(k:Nat) (ys:List UInt8) (A:Option Addr) (c:Nat),k≤s.size∧x4= .int .i64 (k:Int)∧x3= .slice A ys.length c∧ys.length=k∧ys=qcx (s.data.toList.take k)∧
  wr.ownsRow w.heap.size 5 1 (.slice A ys.length c) ys.length (bv ys)∧Below w.heap.size w wr) (fun _ i _=>s.size-(intOf i).toNat)
 case atStart=>exact⟨0,[],none,0,qi _,rfl,rfl,rfl,by simp[qcx],zh _ _ _ _,Below.refl _ _⟩
 case round =>
  obtain⟨k,ys,A,c,hk,rfl,rfl,hyl,hys,hown,hb⟩:=hrel
  have HYS:=qa hys
  have HOW:=qa hown
  have HB:=qa hb
  have hsz:=hb.size
  have HYL:=qa hyl
  have hyle:ys.length≤s.size:=by omega
  clear hys hown hb hyl
  by_cases hlt:k<s.size
  ·
   have ik:(k:Int)<(s.size:Int):=by omega
   have HFT:Hid (qcx (s.data.toList.take (k+1))=qcx (s.data.toList.take k)++[qpk s[k]]):=fold_take (by rw[HSL.out];exact hlt)
   have hfb:=foldB_nat s[k]
   have lk:s[k].toNat<256:=zp _
   obtain⟨x,hx⟩:∃x:UInt8,s[k]=x:=⟨_,rfl⟩
   by_cases h1:65≤s[k].toNat∧s[k].toNat≤90
   ·
    rw[if_pos h1] at hfb
    obtain⟨h65,h90⟩:=h1
    have HFB:=qa hfb
    clear hfb hx
    go_wp2_with (at_builtin;refine jab (v:= .slice A ys.length c) w.heap.size ys (qpk s[k]) rfl _ _ rfl rfl rfl rfl (by rw[HFB.out,za _ _ _ _ rfl];first | rfl | (simp;omega)) (HOW.out.alloc _) (by omega) (by simp;omega) ?_;intro A' c' w2 ho2 hg2)
    go_roundw
    case rel =>
     refine⟨k+1,ys++[qpk s[k]],A',c',by omega,by go_num,by rw[qd];rfl,by rw[qd,HYL.out];rfl,by rw[HFT.out,←HYS.out],ho2,?_⟩
     exact(HB.out.alloc (by omega) _).grown hg2 (by simp;omega) (fun i hi=>(zk HOW.out hi).1)
    case measure=>simp[intOf];omega
   ·
    rw[if_neg h1] at hfb
    have HFB:=qa hfb
    clear hfb hx
    rcases xc s[k].toNat 65 with h65 | h65
    all_goals
     try (have h90:90<s[k].toNat:=by omega)
     go_wp2_with (at_builtin;refine jab (v:= .slice A ys.length c) w.heap.size ys (qpk s[k]) rfl _ _ rfl rfl rfl rfl (by rw[HFB.out,za _ _ _ _ rfl];first | rfl | (simp;omega)) (HOW.out.alloc _) (by omega) (by simp;omega) ?_;intro A' c' w2 ho2 hg2)
     go_roundw
     case rel =>
      refine⟨k+1,ys++[qpk s[k]],A',c',by omega,by go_num,by rw[qd];rfl,by rw[qd,HYL.out];rfl,by rw[HFT.out,←HYS.out],ho2,?_⟩
      exact(HB.out.alloc (by omega) _).grown hg2 (by simp;omega) (fun i hi=>(zk HOW.out hi).1)
     case measure=>simp[intOf];omega
  ·
   obtain rfl:k=s.size:=by omega
   have hst:=ko (P:=Tryz.prog) wr 26 9 5 Tryz.underlying26 Tryz.underlying5 Tryz.underlying9 _ _ _ _ ys (Rd.of_own HOW.out)
   have hfull:ys=qcx s.data.toList:=by rw[HYS.out,qo (by rw[HSL.out];exact qc _)]
   have HFU:=qa hfull
   clear hfull
   go_wp2_with fail
   go_ret
   exact⟨by rw[←HFU.out];rfl,HB.out⟩
theorem ints_at(ns:List Nat)(k:Nat)(h:k<ns.length):(zu ns)[k]'(by rw[zj];exact h)=(ns[k]:Int):=by simp[zu]
theorem rd_pt{w:World}{lo hi c:Nat}{A:Option Addr}{ns:List Nat}(h:Rd w lo hi A c (iv (zu ns))){k:Nat}(hk:k<ns.length) :
  ∃b off,A=some ⟨b,off,none⟩∧w.cell? ⟨b,off+k,none⟩=some (.int .i64 (ns[k]:Int)):=by
 obtain⟨b,off,e,_,_,hc⟩:=h.num (k:=k) (by rw[zj];exact hk)
 exact⟨b,off,e,by rw[hc,ints_at ns k hk]⟩
theorem qr3{w:World}(a b:ByteArray)(ha:a.size≤1000000)(hb:b.size≤1000000) :
  Calls Tryz.prog 105 #[.string a,.string b] w fun r w'=>r= .returned (.int .i64 (qr5 (qhe a.data.toList) (qhe b.data.toList)))∧Below w.heap.size w w':=by
 have hla:=pts_le a.data.toList
 have hlb:=pts_le b.data.toList
 rw[qet] at hla hlb
 have h1:=fun w0=>qnb (w:=w0) a ha
 have h2:=fun w0=>qnb (w:=w0) b hb
 obtain⟨v,hv⟩:∃v,qr5 (qhe a.data.toList) (qhe b.data.toList)=v:=⟨_,rfl⟩
 rw[hv]
 generalize qhe a.data.toList=x at *
 generalize qhe b.data.toList=y at *
 have HAT:Hid (∀k (h1:k<x.length) (h2:k<y.length),x.take k=y.take k→x[k]≠y[k]→v=if x[k]<y[k] then -1 else 1):=fun k h1 h2 ht hne=>by
  rw[←hv]
  exact cmpP_at ht h1 h2 hne
 have HNX:Hid (∀k (h1:k<x.length) (h2:k<y.length),x.take k=y.take k→x[k]=y[k]→x.take (k+1)=y.take (k+1)):=fun k h1 h2 ht he=>by
  rw[qg h1,qg h2,ht,he]
 have HEND:Hid (∀k,x.take k=y.take k→k=min x.length y.length→v=if x.length<y.length then -1 else if y.length<x.length then 1 else 0):=fun k ht hk=>by
  rw[←hv]
  exact cmpP_end ht hk
 have H1:=qa h1
 have H2:=qa h2
 clear h1 h2 hv
 go_enter Tryz.func105,Tryz.ntmps105
 go_wp2_with fail
 refine(H1.out _).mono ?_
 rintro r w1 ⟨A,c,rfl,ho1,hb1⟩
 have HO1:=qa ho1
 have HB1:=qa hb1
 clear ho1 hb1
 go_wp2_with fail
 refine(H2.out _).mono ?_
 rintro r w2 ⟨B,d,rfl,ho2,hb2⟩
 have hx:=(Rd.own HO1.out).below hb2 (qc _)
 have hy:=Rd.own ho2
 have HX:=qa hx
 have HY:=qa hy
 have hcx:=hx.len
 have hcx2:=hx.cap
 have hcy:=hy.len
 have hcy2:=hy.cap
 rw[ji,zj] at hcx hcy
 unfold maxLen at hcx2 hcy2
 have HB2:=qa (qz HB1.out hb2 HB1.out.size)
 clear hx hy ho2 hb2 HO1 HB1
 go_wp2_with fail
 go_loopw [7] (fun i wr=>∃k m:Nat,k≤x.length∧k≤y.length∧i= .int .i64 (k:Int)∧x.take k=y.take k∧wr=w2.drewN m) (fun i _=>x.length-(intOf i).toNat)
 case atStart=>exact⟨0,0,by omega,by omega,rfl,by simp,rfl⟩
 case round =>
  obtain⟨k,m,hka,hkb,rfl,ht,rfl⟩:=hrel
  have HT:=qa ht
  have HBW:=qa (zg HB2.out m)
  clear ht
  by_cases hl:k<x.length∧k<y.length
  ·
   obtain⟨h1,h2⟩:=hl
   have i1:(k:Int)<(x.length:Int):=by omega
   have i2:(k:Int)<(y.length:Int):=by omega
   obtain⟨g1,o1,rfl,hc1⟩:=rd_pt HX.out h1
   obtain⟨g2,o2,rfl,hc2⟩:=rd_pt HY.out h2
   have HA:=qa (HAT.out k h1 h2 HT.out)
   have HN:=qa (HNX.out k h1 h2 HT.out)
   clear HAT HNX
   generalize x[k]=p at *
   generalize y[k]=q at *
   rcases qa1 p q with h3 | h3 | h3
   ·
    go_wp2
    go_quiet (fail)
    go_wp2
    go_ret
    exact⟨kf (by rw[HA.out (by omega),if_pos h3]),zg HBW.out _⟩
   ·
    go_wp2
    go_quiet (fail)
    go_wp2
    go_quiet (fail)
    go_wp2
    go_roundw
    case rel=>exact⟨k+1,_,by omega,by omega,by go_num,HN.out h3,by first | rfl | (rw[zr]) | (rw[zr,zr])⟩
    case measure=>simp[intOf];omega
   ·
    go_wp2
    go_quiet (fail)
    go_wp2
    go_quiet (fail)
    go_wp2
    go_ret
    exact⟨kf (by rw[HA.out (by omega),if_neg (by omega)]),zg (zg HBW.out _) _⟩
  ·
   have HE:=qa (HEND.out k HT.out)
   have HK:Hid (k=min x.length y.length):=by unfold Hid;omega
   rcases qa1 x.length y.length with h3 | h3 | h3
   ·
    go_wp2
    go_ret
    exact⟨kf (by rw[HE.out HK.out,if_pos h3]),HBW.out⟩
   ·
    go_wp2
    go_ret
    exact⟨kf (by rw[HE.out HK.out,if_neg (by omega),if_neg (by omega)]),HBW.out⟩
   ·
    go_wp2
    go_ret
    exact⟨kf (by rw[HE.out HK.out,if_neg (by omega),if_pos h3]),HBW.out⟩
theorem refByFold_any{w:World}(a b:ByteArray)(ha:a.size≤100000)(hb:b.size≤100000) :
  Calls Tryz.prog 104 #[.string a,.string b] w fun r w'=>r= .returned (.int .i64 (yr (qcx a.data.toList) (qcx b.data.toList)))∧Below w.heap.size w w':=by
 have h1:=fun w0=>qq3 (w:=w0) a (by omega)
 have h2:=fun w0=>qq3 (w:=w0) b (by omega)
 have h3:=fun w0=>qch (w:=w0) ⟨(qcx a.data.toList).toArray⟩ ⟨(qcx b.data.toList).toArray⟩ (by show(qcx a.data.toList).toArray.size≤_;rw[qby,qpj,qet];exact ha) (by show(qcx b.data.toList).toArray.size≤_;rw[qby,qpj,qet];exact hb)
 change ∀w0,Calls _ _ _ w0 (fun r w'=>r= .returned (.int .i64 (yr (qcx a.data.toList) (qcx b.data.toList)))∧∃m,w'=w0.drewN m) at h3
 generalize yr (qcx a.data.toList) (qcx b.data.toList)=z at *
 generalize (⟨(qcx a.data.toList).toArray⟩:ByteArray)=x at *
 generalize (⟨(qcx b.data.toList).toArray⟩:ByteArray)=y at *
 have H1:=qa h1
 have H2:=qa h2
 have H3:=qa h3
 clear h1 h2 h3
 go_enter Tryz.func104,Tryz.ntmps104
 go_wp2_with fail
 refine(H1.out _).mono ?_
 rintro r w1 ⟨rfl,hb1⟩
 have HB1:=qa hb1
 clear hb1
 go_wp2_with fail
 refine(H2.out _).mono ?_
 rintro r w2 ⟨rfl,hb2⟩
 have HB2:=qa (qz HB1.out hb2 HB1.out.size)
 clear hb2
 go_wp2_with fail
 refine(H3.out _).mono ?_
 rintro r w3 ⟨rfl,m,rfl⟩
 go_wp2_with fail
 go_ret
 exact⟨rfl,zg HB2.out m⟩
theorem eqB(a b:ByteArray):(a.toList==b.toList)=decide (a=b):=by
 rw[j5,beq_iff_eq,decide_eq_true_eq,jf,jf]
 refine⟨fun h => ?_,fun h=>by rw[h]⟩
 cases a
 cases b
 exact congrArg ByteArray.mk (Array.toList_inj.1 h)
def begS(s p:ByteArray):Bool:=decide (p.size≤s.size∧s.extract 0 p.size=p)
def endS(s p:ByteArray):Bool:=decide (p.size≤s.size∧s.extract (s.size-p.size) s.size=p)
def hasS(s p:ByteArray):Bool:=(List.range (s.size+1)).any fun i=>decide (i+p.size≤s.size∧s.extract i (i+p.size)=p)
theorem hasS_true{s p:ByteArray}{i:Nat}(h:i+p.size≤s.size)(he:s.extract i (i+p.size)=p):hasS s p=true :=
 kv.2 ⟨i,List.mem_range.2 (by omega),qp ⟨h,he⟩⟩
theorem hasS_false{s p:ByteArray}(h:∀i,i+p.size≤s.size→s.extract i (i+p.size)≠p):hasS s p=false :=
 qeo.2 fun h'=>by
  obtain⟨i,_,hi⟩:=kv.1 h'
  have:=of_decide_eq_true hi
  exact h i this.1 this.2
def qiu(a b:ByteArray)(coll:Int):Int :=
 if coll=1 then yr (qcx a.data.toList) (qcx b.data.toList) else if coll=2 then qr5 (qhe a.data.toList) (qhe b.data.toList) else yr a.data.toList b.data.toList
theorem qcq{w:World}(b:Bool):Calls Tryz.prog 62 #[.bool b] w fun r w'=>r= .returned (.int .i64 (if b then 1 else 0))∧w=w':=by
 cases b with
 | true =>
  go_enter Tryz.func62,Tryz.ntmps62
  go_wp2_with fail
  go_ret
  exact⟨rfl,rfl⟩
 | false =>
  go_enter Tryz.func62,Tryz.ntmps62
  go_wp2_with fail
  go_ret
  exact⟨rfl,rfl⟩
theorem ndbegins_any{w:World}(s p:ByteArray)(hs:s.size≤100000000)(hp:p.size≤100000000) :
  Calls Tryz.prog 63 #[.string s,.string p] w fun r w'=>r= .returned (.bool (begS s p))∧w=w':=by
 obtain⟨V,hV⟩:∃V,begS s p=V:=⟨_,rfl⟩
 rw[hV]
 by_cases h1:p.size≤s.size
 ·
  have i1:(p.size:Int)≤(s.size:Int):=by omega
  obtain⟨e,he⟩:∃e,decide (s.extract 0 p.size=p)=e:=⟨_,rfl⟩
  have HV:Hid (e=V):=by
   unfold Hid
   rw[←hV,begS,j5,←he,decide_eq_true_eq,decide_eq_true_eq]
   exact⟨fun h=>⟨h1,h⟩,fun h=>h.2⟩
  have he2:((s.extract 0 p.size).toList==p.toList)=e:=by rw[←he,eqB]
  clear hV
  go_enter Tryz.func63,Tryz.ntmps63
  go_wp2_with fail
  go_ret
  exact⟨zf HV.out,rfl⟩
 ·
  have i1:¬(p.size:Int)≤(s.size:Int):=by omega
  have HV:Hid (V=false):=by
   unfold Hid
   rw[←hV,begS]
   exact ql fun h=>h1 h.1
  clear hV
  go_enter Tryz.func63,Tryz.ntmps63
  go_wp2_with fail
  go_ret
  exact⟨zf HV.out.symm,rfl⟩
theorem ndhas_any{w:World}(s p:ByteArray)(hs:s.size≤100000000)(hp:p.size≤100000000) :
  Calls Tryz.prog 64 #[.string s,.string p] w fun r w'=>r= .returned (.bool (hasS s p))∧w=w':=by
 obtain⟨V,hV⟩:∃V,hasS s p=V:=⟨_,rfl⟩
 rw[hV]
 have HV:=qa hV
 clear hV
 go_enter Tryz.func64,Tryz.ntmps64
 go_wp2_with fail
 go_loopw [5] (fun x5 wr=>∃k:Nat,k≤s.size+1∧x5= .int .i64 (k:Int)∧(∀i,i<k→i+p.size≤s.size→s.extract i (i+p.size)≠p)∧w=wr) (fun x5 _=>s.size+1-(intOf x5).toNat)
 case atStart=>exact⟨0,qi _,rfl,fun i h=>absurd h (jp i),rfl⟩
 case round =>
  obtain⟨k,hk,rfl,ha,rfl⟩:=hrel
  have HA:=qa ha
  clear ha
  have hw:IntKind.i64.wrap ((k:Int)+(p.size:Int))=((k+p.size:Nat):Int):=by rw[z8 _ (by omega)];omega
  by_cases hlt:k+p.size≤s.size
  ·
   have ik:((k+p.size:Nat):Int)≤(s.size:Int):=by omega
   have ik2:(k:Int)≤((k+p.size:Nat):Int):=by omega
   by_cases he:s.extract k (k+p.size)=p
   ·
    have he2:((s.extract k (k+p.size)).toList==p.toList)=true:=by rw[eqB];exact qp he
    have HVV:Hid (V=true):=by unfold Hid;rw[←HV.out];exact hasS_true hlt he
    clear he
    go_wp2_with fail
    go_ret
    exact⟨zf HVV.out.symm,rfl⟩
   ·
    have he2:((s.extract k (k+p.size)).toList==p.toList)=false:=by rw[eqB];exact ql he
    have HA2:Hid (∀i,i<k+1→i+p.size≤s.size→s.extract i (i+p.size)≠p):=fun i hi hi2=>by
     by_cases h:i=k
     ·
      subst h;exact he
     ·
      exact HA.out i (by omega) hi2
    clear he
    go_wp2_with fail
    go_roundw
    case rel=>exact⟨k+1,by omega,by go_num,HA2.out,by first | rfl | trivial⟩
    case measure=>simp[intOf] <;> omega
  ·
   have ik:¬((k+p.size:Nat):Int)≤(s.size:Int):=by omega
   have HVV:Hid (V=false):=by unfold Hid;rw[←HV.out];exact hasS_false fun i hi=>HA.out i (by omega) hi
   go_wp2_with fail
   go_ret
   exact⟨zf HVV.out.symm,rfl⟩
theorem qh9{w:World}(a b:ByteArray)(coll:Int)(ha:a.size≤100000)(hb:b.size≤100000) :
  Calls Tryz.prog 66 #[.string a,.string b,.int .i64 coll] w fun r w'=>r= .returned (.int .i64 (qiu a b coll))∧Below w.heap.size w w':=by
 have H1:=qa (refByFold_any (w:=w) a b ha hb)
 have H2:=qa (qr3 (w:=w) a b (by omega) (by omega))
 have H3:=qa (qch (w:=w) a b ha hb)
 by_cases h1:coll=1
 ·
  subst h1
  have hc:qiu a b 1=yr (qcx a.data.toList) (qcx b.data.toList):=if_pos rfl
  rw[hc]
  generalize yr (qcx a.data.toList) (qcx b.data.toList)=z at *
  clear H2 H3 hc
  go_enter Tryz.func66,Tryz.ntmps66
  go_wp2_with fail
  refine H1.out.mono ?_
  rintro r w2 ⟨rfl,q2⟩
  go_wp2_with fail
  go_ret
  exact⟨rfl,q2⟩
 ·
  have e1:(coll==1)=false:=by rw[qr];exact h1
  by_cases h2:coll=2
  ·
   subst h2
   have hc:qiu a b 2=qr5 (qhe a.data.toList) (qhe b.data.toList):=by rw[qiu,if_neg h1,if_pos rfl]
   rw[hc]
   generalize qr5 (qhe a.data.toList) (qhe b.data.toList)=z at *
   clear H1 H3 hc
   go_enter Tryz.func66,Tryz.ntmps66
   go_wp2_with fail
   refine H2.out.mono ?_
   rintro r w2 ⟨rfl,q2⟩
   go_wp2_with fail
   go_ret
   exact⟨rfl,q2⟩
  ·
   have e2:(coll==2)=false:=by rw[qr];exact h2
   have hc:qiu a b coll=yr a.data.toList b.data.toList:=by rw[qiu,if_neg h1,if_neg h2]
   rw[hc]
   generalize yr a.data.toList b.data.toList=z at *
   clear H1 H2 hc
   go_enter Tryz.func66,Tryz.ntmps66
   go_wp2_with fail
   refine H3.out.mono ?_
   rintro r w2 ⟨rfl,m,rfl⟩
   go_wp2_with fail
   go_ret
   exact⟨rfl,zg (Below.refl _ _) m⟩
end Go.Proofs.YtnjkipnklpkaoaaGreat
