/-
  Lemmas.
-/
import Derived.Test.YtnjkipnklpkaoaaGreatA05
namespace Go.Proofs.YtnjkipnklpkaoaaGreat
open Go.RowKit
set_option maxRecDepth 20000
set_option maxHeartbeats 16000000
set_option linter.unusedSimpArgs false
set_option linter.unusedVariables false
def y9(e:Int):Int:=if e=0 then 3 else e
theorem xr(e:Int):y9 e≠0:=by unfold y9;split <;> omega
theorem uz{e:Int}(h:e≠0):y9 e=e:=by rw[y9,if_neg h]
def yr:List UInt8→List UInt8→Int
 | [],[]=>0
 | [],_ :: _ => -1
 | _ :: _,[]=>1
 | x :: a,y :: b=>if x.toNat<y.toNat then -1 else if y.toNat<x.toNat then 1 else yr a b
theorem qdl:∀(a:List UInt8),yr a a=0
 | []=>rfl
 | x :: a=>by simp[yr,qdl a]
theorem qcr:∀ {a b:List UInt8},yr a b=0→a=b
 | [],[],_=>rfl
 | [],_ :: _,h=>by simp[yr] at h
 | _ :: _,[],h=>by simp[yr] at h
 | x :: a,y :: b,h=>by
  unfold yr at h
  split at h
  ·
   cases h
  ·
   split at h
   ·
    cases h
   ·
    have hx:x=y:=qbd.1 (by omega)
    rw[hx,qcr h]
theorem qdk:∀(a b:List UInt8),yr b a = - yr a b
 | [],[]=>rfl
 | [],_ :: _=>rfl
 | _ :: _,[]=>rfl
 | x :: a,y :: b=>by
  unfold yr
  by_cases h1:x.toNat<y.toNat
  ·
   rw[if_pos h1,if_neg (by omega),if_pos h1];rfl
  ·
   by_cases h2:y.toNat<x.toNat
   ·
    rw[if_pos h2,if_neg h1,if_pos h2]
   ·
    rw[if_neg h1,if_neg h2,if_neg h2,if_neg h1,qdk a b]
theorem qof:∀(p a b:List UInt8),yr (p++a) (p++b)=yr a b
 | [],a,b=>rfl
 | x :: p,a,b=>by simp[yr,qof p a b]
def qhw(s:List UInt8):Bool:=decide (1≤s.length)&&decide (s.length≤8)
theorem qfu{s:List UInt8}:qhw s=true↔1≤s.length∧s.length≤8:=by simp[qhw]
def xd:List (List UInt8)→Bool
 | []=>true
 | [_]=>true
 | a :: b :: t=>decide (yr a b<0)&&xd (b :: t)
theorem ux{a b:List UInt8}{t:List (List UInt8)}:xd (a :: b :: t)=true↔yr a b<0∧xd (b :: t)=true:=by
 rw[xd,jl,decide_eq_true_eq]
theorem qf0:∀ {a:List UInt8} {t:List (List UInt8)},xd (a :: t)=true→xd t=true
 | _,[],_=>rfl
 | _,_ :: _,h=>(ux.1 h).2
theorem uj:∀ {a b c:List UInt8},yr a b<0→yr b c<0→yr a c<0
 | [],[],c,h1,_=>by simp[yr] at h1
 | [],y :: b,[],_,h2=>by simp[yr] at h2
 | [],y :: b,z :: c,_,_=>by simp[yr]
 | x :: a,[],c,h1,_=>by simp[yr] at h1
 | x :: a,y :: b,[],_,h2=>by simp[yr] at h2
 | x :: a,y :: b,z :: c,h1,h2=>by
  unfold yr at h1 h2 ⊢
  by_cases p1:x.toNat<y.toNat
  ·
   by_cases q1:y.toNat<z.toNat
   ·
    rw[if_pos (by omega)];decide
   ·
    rw[if_neg q1] at h2
    by_cases q2:z.toNat<y.toNat
    ·
     rw[if_pos q2] at h2;cases h2
    ·
     rw[if_pos (by omega)];decide
  ·
   rw[if_neg p1] at h1
   by_cases p2:y.toNat<x.toNat
   ·
    rw[if_pos p2] at h1;cases h1
   ·
    rw[if_neg p2] at h1
    by_cases q1:y.toNat<z.toNat
    ·
     rw[if_pos (by omega)];decide
    ·
     rw[if_neg q1] at h2
     by_cases q2:z.toNat<y.toNat
     ·
      rw[if_pos q2] at h2;cases h2
     ·
      rw[if_neg q2] at h2
      rw[if_neg (by omega),if_neg (by omega)]
      exact uj h1 h2
theorem qg1:∀ {a:List UInt8} {t:List (List UInt8)},xd (a :: t)=true→∀x∈t,yr a x<0
 | a,[],_,x,hx=>by cases hx
 | a,b :: t,h,x,hx=>by
  obtain⟨h1,h2⟩:=ux.1 h
  rcases jc.1 hx with rfl | hx
  ·
   exact h1
  ·
   exact uj h1 (qg1 h2 x hx)
theorem qe4{a:List UInt8}:¬yr a a<0:=by rw[qdl];omega
theorem qg0:∀ {u t:List (List UInt8)},xd t=true→xd u=true→(∀x∈t,x∈u)→t.Sublist u
 | [],[],_,_,_=>List.Sublist.slnil
 | [],a :: t,_,_,h=>by cases h a jb
 | b :: u,[],_,_,_=>List.nil_sublist _
 | b :: u,a :: t,ht,hu,h=>by
  have h1:=qg1 ht
  have h2:=qg1 hu
  rcases jc.1 (h a jb) with rfl | ha
  ·
   refine List.Sublist.cons_cons _ (qg0 (qf0 ht) (qf0 hu) fun x hx => ?_)
   rcases jc.1 (h x (jm _ hx)) with rfl | h3
   ·
    exact absurd (h1 _ hx) qe4
   ·
    exact h3
  ·
   refine List.Sublist.cons _ (qg0 ht (qf0 hu) fun x hx => ?_)
   rcases jc.1 (h x hx) with rfl | h3
   ·
    rcases jc.1 hx with rfl | h4
    ·
     exact ha
    ·
     exact absurd (uj (h2 _ ha) (h1 _ h4)) qe4
   ·
    exact h3
def yy(t:List (List UInt8)):Bool:=decide (t.length≤255)&&t.all qhw&&xd t
theorem uy{t:List (List UInt8)}:yy t=true↔t.length≤255∧(∀s∈t,qhw s=true)∧xd t=true:=by
 unfold yy
 rw[jl,jl,decide_eq_true_eq,jt,and_assoc]
def qei(t:List (List UInt8)):List UInt8:=UInt8.ofNat t.length :: t.flatMap fun s=>UInt8.ofNat s.length :: s
structure IsOrder (l t:List (List UInt8)):Prop where
 rises:xd t=true
 few:t.length≤255
 of:∀x∈t,x∈l∧qhw x=true
 all:∀s∈l,qhw s=true→s∈t∨(t.length=255∧∀x∈t,yr x s<0)
theorem IsOrder.sub{l t u:List (List UInt8)}(h:IsOrder l t)(k:IsOrder l u):∀x∈u,x∈t:=by
 intro x hx
 obtain⟨hxl,hxo⟩:=k.of x hx
 rcases h.all x hxl hxo with h1 | ⟨h1,h2⟩
 ·
  exact h1
 ·
  exfalso
  have hn:x∉t:=fun h3=>qe4 (h2 x h3)
  have htu:∀y∈t,y∈u:=fun y hy=>by
   obtain⟨hyl,hyo⟩:=h.of y hy
   rcases k.all y hyl hyo with h3 | ⟨_,h3⟩
   ·
    exact h3
   ·
    exact absurd (uj (h3 x hx) (h2 y hy)) qe4
  have hs:=qg0 h.rises k.rises htu
  have he:=hs.eq_of_length_le (by rw[h1];exact k.few)
  exact hn (he ▸ hx)
theorem IsOrder.one{l t u:List (List UInt8)}(h:IsOrder l t)(k:IsOrder l u):t=u :=
 (qg0 h.rises k.rises (k.sub h)).eq_of_length_le (qg0 k.rises h.rises (h.sub k)).length_le
def qm(l:List ByteArray):List (List UInt8):=l.map fun s=>s.data.toList
theorem qiq(ys:List ByteArray)(s:ByteArray):qm (ys++[s])=qm ys++[s.data.toList]:=by simp[qm]
theorem qns:∀(t:List (List UInt8)) (a b:List UInt8),xd (t++[a,b])=(xd (t++[a])&&decide (yr a b<0))
 | [],a,b=>by simp[xd]
 | [c],a,b=>by simp[xd,Bool.and_assoc]
 | c :: d :: t,a,b=>by
  have:=qns (d :: t) a b
  simp only[z6] at this ⊢
  rw[xd,xd,this,Bool.and_assoc]
theorem qx(l:List ByteArray):(qm l).length=l.length:=by simp[qm]
theorem yq(l:List ByteArray)(k:Nat)(h:k<l.length):(qm l)[k]'(by rw[qx];exact h)=l[k].data.toList:=by simp[qm]
theorem qie:∀ {T:List (List UInt8)} {i j:Nat} (h:xd T=true) (hij:i<j) (hj:j<T.length),yr T[i] T[j]<0
 | [],i,j,_,_,hj=>by simp at hj
 | a :: t,0,j+1,h,_,hj=>by
  have hj':j<t.length:=by simpa using hj
  exact qg1 h _ (qj hj')
 | a :: t,i+1,j+1,h,hij,hj=>by
  have hj':j<t.length:=by simpa using hj
  exact qie (T:=t) (qf0 h) (by omega) hj'
theorem rises_inj{T:List (List UInt8)}{i j:Nat}(h:xd T=true)(hi:i<T.length)(hj:j<T.length)(e:T[i]=T[j]):i=j:=by
 rcases qa1 i j with h1 | h1 | h1
 ·
  have:=qie h h1 hj
  rw[e,qdl] at this
  omega
 ·
  exact h1
 ·
  have:=qie h h1 hi
  rw[e,qdl] at this
  omega
theorem Tryz.infoStr:(Tryz.prog.info? 9).map (fun i=>(i.zero,i.size,i.bytes))=some (some (.string ⟨#[]⟩),1,16):=by kernel_rfl
theorem qi9(w:World)(base:Nat)(v:Value)(ys zs us:List ByteArray)(hus:ys++zs=us)(hown:w.ownsRow base 9 1 v ys.length (sv ys)){lo h':Nat}{A:Option Addr}{c:Nat}(hr:Rd w lo h' A c (sv zs))
  (hb:ys.length+zs.length≤1000000000) (hbase:base≤w.heap.size) :
  ∃A' c' w',(Builtin.append_ #[58,58] 58 #[v,.slice A zs.length c]).run Tryz.prog w= .ok (.slice A' us.length c') w'∧
   w'.ownsRow base 9 1 (.slice A' us.length c') us.length (sv us)∧w.grownBy w' v.ownBlock:=by
 subst hus
 obtain⟨i0,hi0,hz0,hz1,hz2⟩:=info_parts Tryz.infoStr
 have hl:=yg zs
 obtain⟨A',c',w',hrun,h2,h3,_⟩:=ui (P:=Tryz.prog) w base 58 58 9 i0 _ 16 Tryz.underlying58 hi0 hz0 hz1 hz2 rfl v ys.length (sv ys) hown lo h' A c (sv zs) hr (sv_one _)
  (by rw[hl];simp only[maxLen];omega) (by rw[hl];omega) hbase
 rw[hl] at hrun h2
 rw[qd]
 exact⟨A',c',w',hrun,by rw[qp3];exact h2,h3⟩
theorem xz{ops:Array Oper}{rest:List Oper}{o:Oper}{a:Act}{Q:Exit→Act→World→Prop}{w:World}{v:Value}{g:Nat}(base:Nat)(ys:List ByteArray)(z:ByteArray)(hgd:o.guard=none)(s x:Operand)
  (ho:o.op= .call { callee:= .builtin .append,args:=#[s,x],argTypes:=#[58,58] }) (hty:o.type=58)
  (hs:a.eval s=v) (hx:a.eval x= .slice (some ⟨g,0,none⟩) 1 1) (hcell:w.cell? ⟨g,0,none⟩=some (.string z))
  (hown:w.ownsRow base 9 1 v ys.length (sv ys)) (hb:ys.length+1≤1000000000) (hbase:base≤w.heap.size)
  (h:∀A' c' w',w'.ownsRow base 9 1 (.slice A' (ys++[z]).length c') (ys++[z]).length (sv (ys++[z]))→w.grownBy w' v.ownBlock→wpList Tryz.prog ops Q rest (a.put o.dst (.slice A' (ys.length+1) c')) w') :
  wpList Tryz.prog ops Q (o :: rest) a w:=by
 have hr:Rd w 0 w.heap.size (some ⟨g,0,none⟩) 1 (sv [z]):=⟨by simp[sv],by simp[maxLen],fun _=>⟨g,0,rfl,qi _,yv w _ hcell,fun j u hu=>by
  match j,hu with
  | 0,hu =>
   simp[sv] at hu
   subst hu
   exact hcell
  | j+1,hu=>simp[sv] at hu⟩⟩
 obtain⟨A',c',w',hrun,h2,h3⟩:=qi9 w base v ys [z] (ys++[z]) rfl hown hr (by simpa using hb) hbase
 rw[show(ys++[z]).length=ys.length+1 from by simp] at hrun
 exact wpList_append_run hgd s x _ _ ho hs hx (by rw[hty];exact hrun) (h A' c' w' h2 h3)
theorem ok_size(s:ByteArray):qhw s.data.toList=(decide (1≤s.size)&&decide (s.size≤8)):=by
 unfold qhw
 rw[zy]
 rfl
theorem fits_any{w:World}(z:Int):Calls Tryz.prog 174 #[.int .i64 z] w fun r w'=>r= .returned (.bool (decide (1≤z)&&decide (z≤8)))∧w=w':=by
 by_cases h0:z<1
 ·
  have hf:decide (1≤z)=false:=ql (by omega)
  rw[hf]
  go_enter Tryz.func174,Tryz.ntmps174
  go_wp2
  go_ret
  exact⟨rfl,rfl⟩
 ·
  have ht:decide (1≤z)=true:=qp (by omega)
  rw[ht]
  by_cases h1:z≤8
  ·
   have h2:decide (z≤8)=true:=qp h1
   rw[h2]
   go_enter Tryz.func174,Tryz.ntmps174
   go_wp2
   go_ret
   exact⟨rfl,rfl⟩
  ·
   have h2:decide (z≤8)=false:=ql h1
   rw[h2]
   go_enter Tryz.func174,Tryz.ntmps174
   go_wp2
   go_ret
   exact⟨rfl,rfl⟩
theorem fits_size(s:ByteArray):(decide (1≤(s.size:Int))&&decide ((s.size:Int)≤8))=qhw s.data.toList:=by
 rw[ok_size]
 congr 1 <;> (rw[decide_eq_decide];omega)
theorem less_cmp:∀(a b:List UInt8),Op.bytesLess a b=decide (yr a b<0)
 | [],[]=>by simp[Op.bytesLess,yr]
 | [],_ :: _=>by simp[Op.bytesLess,yr]
 | _ :: _,[]=>by simp[Op.bytesLess,yr]
 | x :: a,y :: b=>by
  unfold Op.bytesLess yr
  by_cases h1:x.toNat<y.toNat
  ·
   rw[if_pos h1,qp (show x<y from h1)];rfl
  ·
   rw[if_neg h1,ql (show ¬x<y from h1),Bool.false_or]
   by_cases h2:y.toNat<x.toNat
   ·
    rw[if_pos h2,show(x==y)=false from qr.2 (fun e=>by subst e;omega)];rfl
   ·
    rw[if_neg h2,show(x==y)=true from beq_iff_eq.2 (qbd.1 (by omega)),qbb,less_cmp a b]
theorem qjt(a b:ByteArray):Op.bytesLess a.toList b.toList=decide (yr a.data.toList b.data.toList<0):=by rw[jf,jf,less_cmp]
def qfp:List (List UInt8)→Nat→Int→Nat→List UInt8→Int×Nat
 | [],_,c,n,_=>(c,n)
 | t :: ts,i,c,n,l=>if n<t.length∧t.isPrefixOf l=true then qfp ts (i+1) (i:Int) t.length l else qfp ts (i+1) c n l
theorem qgq(s:ByteArray):s.data.toList.length=s.size:=by rw[zy];rfl
theorem headS(s:ByteArray)(k:Nat):(s.extract 0 k).data.toList=s.data.toList.take k:=by
 rw[qb1,qep]
 simp[qcf]
def qji(ts:List (List UInt8))(s:List UInt8):Prop:=qhw s=true∧∀x∈ts,yr x s<0
theorem qnt:∀ {t:List (List UInt8)} {b:List UInt8},xd t=true→(∀x∈t,yr x b<0)→xd (t++[b])=true
 | [],b,_,_=>rfl
 | [a],b,_,h=>by
  show xd [a,b]=true
  exact ux.2 ⟨h a jb,rfl⟩
 | a :: c :: t,b,hr,h=>by
  obtain⟨h1,h2⟩:=ux.1 hr
  exact ux.2 ⟨h1,qnt h2 fun x hx=>h x (jm _ hx)⟩
structure Ord (l t:List (List UInt8)):Prop where
 rises:xd t=true
 of:∀x∈t,x∈l∧qhw x=true
 all:∀s∈l,qhw s=true→s∈t∨∀x∈t,yr x s<0
theorem Ord.nil(l:List (List UInt8)):Ord l []:=⟨rfl,fun x hx=>(by cases hx),fun s _ _=>Or.inr fun x hx=>(by cases hx)⟩
theorem Ord.push{l t:List (List UInt8)}{b:List UInt8}(h:Ord l t)(hb:b∈l)(hc:qji t b)(hm:∀s∈l,qji t s→yr b s≤0):Ord l (t++[b]):=by
 refine⟨qnt h.rises hc.2,fun x hx => ?_,fun s hs ho => ?_⟩
 ·
  rcases zt.1 hx with hx | hx
  ·
   exact h.of x hx
  ·
   rw[zo.1 hx];exact⟨hb,hc.1⟩
 ·
  rcases h.all s hs ho with h1 | h1
  ·
   exact Or.inl (List.mem_append_left _ h1)
  ·
   have h2:=hm s hs ⟨ho,h1⟩
   rcases Int.lt_or_eq_of_le h2 with h3 | h3
   ·
    refine Or.inr fun x hx => ?_
    rcases zt.1 hx with hx | hx
    ·
     exact h1 x hx
    ·
     rw[zo.1 hx];exact h3
   ·
    rw[←qcr h3]
    exact Or.inl (qcg _ jb)
def qoc(last s:List UInt8):Bool:=qhw s&&decide (yr last s<0)
theorem qrm{w:World}(a s:ByteArray)(hs:s.size≤9223372036854775807):Calls Tryz.prog 175 #[.string a,.string s] w fun r w'=>r= .returned (.bool (qoc a.data.toList s.data.toList))∧∃m,w'=w.drewN m:=by
 have HF:=qa (fun w=>fits_any (w:=w) (s.size:Int))
 rw[fits_size] at HF
 have hless:=qjt a s
 unfold qoc
 by_cases hok:qhw s.data.toList=true
 ·
  rw[hok] at HF ⊢
  generalize decide (yr a.data.toList s.data.toList<0)=v at *
  go_enter Tryz.func175,Tryz.ntmps175
  go_wp2_with fail
  refine(HF.out _).mono ?_
  rintro r w' ⟨rfl,rfl⟩
  go_wp2
  go_ret
  exact⟨rfl,0,rfl⟩
 ·
  rw[Bool.not_eq_true] at hok
  rw[hok] at HF ⊢
  clear hless
  go_enter Tryz.func175,Tryz.ntmps175
  go_wp2_with fail
  refine(HF.out _).mono ?_
  rintro r w' ⟨rfl,rfl⟩
  go_wp2
  go_ret
  exact⟨rfl,0,rfl⟩
def qic(n:Nat):Bool:=decide (1≤(n:Int))&&decide ((n:Int)≤8)
theorem sizeOk_iff{n:Nat}:qic n=true↔1≤n∧n≤8:=by
 unfold qic
 rw[jl,decide_eq_true_eq,decide_eq_true_eq]
 omega
def qge(bs:List UInt8)(p:Nat)(e:Int)(last:List UInt8):List UInt8×Nat×Int :=
 let r:=jy bs p e 0 1
 let n:=(r.1.headD 0).toNat
 let e2:=if qic n=true then r.2.2 else y9 r.2.2
 let q:=jy bs r.2.1 e2 0 n
 (q.1,q.2.1,if qoc last q.1=true then q.2.2 else y9 q.2.2)
def qf5(bs:List UInt8):Nat→Nat→Int→List UInt8→List (List UInt8)×Nat×Int
 | 0,p,e,_=>([],p,e)
 | n+1,p,e,last=>((qge bs p e last).1 :: (qf5 bs n (qge bs p e last).2.1 (qge bs p e last).2.2 (qge bs p e last).1).1,(qf5 bs n (qge bs p e last).2.1 (qge bs p e last).2.2 (qge bs p e last).1).2)
theorem qh4(bs:List UInt8)(k:Nat){e:Int}(n:Int)(h:e≠0):jy bs k e 0 n=([],k,e):=by simp[jy,h]
theorem gstep_bad(bs:List UInt8)(p:Nat){e:Int}(last:List UInt8)(h:e≠0):qge bs p e last=([],p,e):=by
 unfold qge
 simp only[qh4 bs p _ h,uz h,ite_self]
theorem ql1(bs:List UInt8):∀(n p:Nat) {e:Int} (last:List UInt8),e≠0→(qf5 bs n p e last).2=(p,e)
 | 0,p,e,last,_=>rfl
 | n+1,p,e,last,h=>by
  unfold qf5
  simp only[gstep_bad bs p last h]
  exact ql1 bs n p [] h
theorem qes{bs:List UInt8}{p:Nat}(h:p<bs.length):jy bs p 0 0 1=([bs[p]],p+1,0):=by
 rw[show(1:Int)=((1:Nat):Int) from rfl,qd8 bs p 1 (by omega)]
 congr 1
 rw[zv h]
 rfl
theorem gstep_end{bs:List UInt8}{p:Nat}(last:List UInt8)(h:bs.length≤p):qge bs p 0 last=([],p,2):=by
 have h1:jy bs p 0 0 1=([],p,2):=by
  rw[show(1:Int)=((1:Nat):Int) from rfl]
  exact qdt bs p 1 (by omega)
 unfold qge
 simp only[h1]
 have h2:qic (([]:List UInt8).headD 0).toNat=false:=rfl
 have h3:y9 2=2:=rfl
 simp only[h2,h3,qam,if_false,qh4 bs p _ (show(2:Int)≠0 by decide),ite_self]
theorem gstep_short{bs:List UInt8}{p:Nat}(last:List UInt8)(h:p<bs.length)(ho:qic bs[p].toNat=true)(hs:bs.length<p+1+bs[p].toNat):qge bs p 0 last=([],p+1,2):=by
 unfold qge
 simp only[qes h,List.headD_cons,ho,if_true,qdt bs (p+1) _ hs]
 have h3:y9 2=2:=rfl
 simp only[h3,ite_self]
theorem gstep_size{bs:List UInt8}{p:Nat}(last:List UInt8)(h:p<bs.length)(ho:qic bs[p].toNat=false):qge bs p 0 last=([],p+1,3):=by
 unfold qge
 have h3:y9 0=3:=rfl
 have h4:y9 3=3:=rfl
 simp only[qes h,List.headD_cons,ho,qam,if_false,h3,qh4 bs (p+1) _ (show(3:Int)≠0 by decide),h4,ite_self]
theorem qqg{bs:List UInt8}{p:Nat}(last:List UInt8)(h:p<bs.length)(ho:qic bs[p].toNat=true)(hs:p+1+bs[p].toNat≤bs.length) :
  qge bs p 0 last=((bs.drop (p+1)).take bs[p].toNat,p+1+bs[p].toNat,if qoc last ((bs.drop (p+1)).take bs[p].toNat)=true then 0 else 3):=by
 unfold qge
 simp only[qes h,List.headD_cons,ho,if_true,qd8 bs (p+1) _ hs]
 rfl
def qk6(t:List (List UInt8)):List UInt8:=t.flatMap fun s=>UInt8.ofNat s.length :: s
theorem qh5(s:List UInt8)(t:List (List UInt8)):qk6 (s :: t)=UInt8.ofNat s.length :: (s++qk6 t):=by simp[qk6]
theorem qh8(t:List (List UInt8)):qei t=UInt8.ofNat t.length :: qk6 t:=rfl
theorem getF_good{bs:List UInt8}:∀(n p:Nat) (last:List UInt8) {t:List (List UInt8)} {q:Nat},qf5 bs n p 0 last=(t,q,0)→p≤bs.length→
  t.length=n∧(∀s∈t,qhw s=true)∧xd (last :: t)=true∧p≤q∧q≤bs.length∧(bs.drop p).take (q-p)=qk6 t
 | 0,p,last,t,q,h,hp=>by
  simp only[qf5,Prod.mk.injEq,and_true] at h
  obtain⟨rfl,rfl⟩:=h
  exact⟨rfl,fun s hs=>(by cases hs),rfl,qc _,hp,by simp[qk6]⟩
 | n+1,p,last,t,q,h,hp=>by
  by_cases h1:p<bs.length
  ·
   cases ho:qic bs[p].toNat with
   | false =>
    exfalso
    unfold qf5 at h
    simp only[gstep_size last h1 ho] at h
    have:=ql1 bs n (p+1) (e:=3) [] (by decide)
    rw[this] at h
    simp at h
   | true =>
    by_cases hs:p+1+bs[p].toNat≤bs.length
    ·
     obtain⟨s,hse⟩:∃s,(bs.drop (p+1)).take bs[p].toNat=s:=⟨_,rfl⟩
     have hsl:s.length=bs[p].toNat:=by rw[←hse,qy,qu];omega
     cases hf:qoc last s with
     | false =>
      exfalso
      unfold qf5 at h
      simp only[qqg last h1 ho hs,hse,hf,qam,if_false] at h
      have:=ql1 bs n (p+1+bs[p].toNat) (e:=3) s (by decide)
      rw[this] at h
      simp at h
     | true =>
      unfold qf5 at h
      simp only[qqg last h1 ho hs,hse,hf,if_true] at h
      obtain⟨R,hR⟩:∃R,qf5 bs n (p+1+bs[p].toNat) 0 s=R:=⟨_,rfl⟩
      rw[hR] at h
      obtain⟨t',q',e'⟩:=R
      simp only[Prod.mk.injEq] at h
      obtain⟨rfl,rfl,rfl⟩:=h
      obtain⟨i1,i2,i3,i4,i5,i6⟩:=getF_good n (p+1+bs[p].toNat) s hR hs
      rw[qoc,jl,decide_eq_true_eq] at hf
      refine⟨by rw[qt,i1],fun x hx => ?_,ux.2 ⟨hf.2,i3⟩,by omega,i5,?_⟩
      ·
       rcases jc.1 hx with rfl | hx
       ·
        exact hf.1
       ·
        exact i2 x hx
      ·
       rw[qh5,←i6,hsl]
       have hx:UInt8.ofNat bs[p].toNat=bs[p]:=by simp
       rw[hx,zv h1]
       obtain⟨d,hd⟩:∃d,q'-p=d+1:=⟨q'-p-1,by omega⟩
       rw[hd,jn]
       congr 1
       have hd2:d=bs[p].toNat+(q'-(p+1+bs[p].toNat)):=by omega
       rw[hd2,List.take_add,hse,z7]
    ·
     exfalso
     unfold qf5 at h
     simp only[gstep_short last h1 ho (by omega)] at h
     have:=ql1 bs n (p+1) (e:=2) [] (by decide)
     rw[this] at h
     simp at h
  ·
   exfalso
   unfold qf5 at h
   simp only[gstep_end last (Nat.le_of_not_lt h1)] at h
   have:=ql1 bs n p (e:=2) [] (by decide)
   rw[this] at h
   simp at h
theorem rises_nil{t:List (List UInt8)}(h:∀s∈t,qhw s=true)(hr:xd t=true):xd ([] :: t)=true:=by
 cases t with
 | nil=>rfl
 | cons s t =>
  refine ux.2 ⟨?_,hr⟩
  have:=(qfu.1 (h s jb)).1
  cases s with
  | nil=>simp at this
  | cons=>simp[yr]
theorem gstep_put{pre s post:List UInt8}{last:List UInt8}(ho:qhw s=true)(hr:yr last s<0):qge (pre++UInt8.ofNat s.length :: (s++post)) pre.length 0 last=(s,pre.length+1+s.length,0):=by
 obtain⟨h1,h2⟩:=qfu.1 ho
 have hp:pre.length<(pre++UInt8.ofNat s.length :: (s++post)).length:=by simp
 have hx:(pre++UInt8.ofNat s.length :: (s++post))[pre.length]=UInt8.ofNat s.length:=by simp
 have hn:(UInt8.ofNat s.length).toNat=s.length:=by simp;omega
 have hd:((pre++UInt8.ofNat s.length :: (s++post)).drop (pre.length+1)).take s.length=s:=by
  rw[show pre++UInt8.ofNat s.length :: (s++post)=(pre++[UInt8.ofNat s.length])++(s++post) by simp,show pre.length+1=(pre++[UInt8.ofNat s.length]).length by simp,yc,List.take_left]
 have:=qqg last hp (by rw[hx,hn];exact sizeOk_iff.2 ⟨h1,h2⟩) (by rw[hx,hn];simp;omega)
 rw[this,hx,hn,hd]
 have hf:qoc last s=true:=by rw[qoc,ho,qp hr];rfl
 rw[if_pos hf]
theorem getF_put:∀(t:List (List UInt8)) (pre post last:List UInt8),(∀s∈t,qhw s=true)→xd (last :: t)=true→qf5 (pre++(qk6 t++post)) t.length pre.length 0 last=(t,pre.length+(qk6 t).length,0)
 | [],pre,post,last,_,_=>rfl
 | s :: t,pre,post,last,ho,hr=>by
  obtain⟨h1,h2⟩:=ux.1 hr
  have hb:pre++(qk6 (s :: t)++post)=pre++UInt8.ofNat s.length :: (s++(qk6 t++post)):=by rw[qh5];simp
  have hb2:pre++(qk6 (s :: t)++post)=(pre++UInt8.ofNat s.length :: s)++(qk6 t++post):=by rw[qh5];simp
  have hl:(pre++UInt8.ofNat s.length :: s).length=pre.length+1+s.length:=by simp;omega
  have ih:=getF_put t (pre++UInt8.ofNat s.length :: s) post s (fun x hx=>ho x (jm _ hx)) h2
  rw[←hb2,hl] at ih
  rw[qt,qf5]
  have hg:=gstep_put (pre:=pre) (post:=qk6 t++post) (ho s jb) h1
  rw[←hb] at hg
  simp only[hg]
  rw[ih,qh5]
  simp
  omega
def qr1(bs:List UInt8)(k:Nat)(e:Int):Nat:=((jy bs k e 0 1).1.headD 0).toNat
def qjx(bs:List UInt8)(k:Nat)(e:Int):List (List UInt8)×Nat×Int:=qf5 bs (qr1 bs k e) (jy bs k e 0 1).2.1 (jy bs k e 0 1).2.2 []
def qff(bs:List UInt8)(k:Nat)(e:Int):List (List UInt8)×Nat×Int:=if (qjx bs k e).2.2=0 then qjx bs k e else ([],(qjx bs k e).2)
theorem getK_bad(bs:List UInt8)(k:Nat){e:Int}(h:e≠0):qff bs k e=([],k,e):=by
 have h1:qjx bs k e=([],k,e):=by
  unfold qjx qr1
  rw[qh4 bs k 1 h]
  rfl
 rw[qff,h1,if_neg h]
theorem getK_good{bs:List UInt8}{k k2:Nat}{t:List (List UInt8)}(hk:k≤bs.length)(h:qff bs k 0=(t,k2,0)) :
  yy t=true∧bs.drop k=qei t++bs.drop k2∧k2=k+(qei t).length∧k2≤bs.length:=by
 unfold qff at h
 split at h
 ·
  unfold qjx at h
  by_cases hlt:k<bs.length
  ·
   have hT:=qes hlt
   have hN:qr1 bs k 0=bs[k].toNat:=by rw[qr1,hT];rfl
   rw[hN,hT] at h
   obtain⟨h1,h2,h3,h4,h5,h6⟩:=getF_good _ _ _ h (by show k+1≤bs.length;omega)
   have hb:=zp bs[k]
   have hr:xd t=true:=by
    cases t with
    | nil=>rfl
    | cons s t=>exact(ux.1 h3).2
   have hx:UInt8.ofNat t.length=bs[k]:=by rw[h1];simp
   have hd:bs.drop k=qei t++bs.drop k2:=by
    rw[zv hlt,qh8,hx,z6,←h6]
    congr 1
    have e2:bs.drop k2=(bs.drop (k+1)).drop (k2-(k+1)):=by rw[z7];congr 1;simp at h4;omega
    rw[e2,zx]
   have hl:=congrArg List.length hd
   rw[qd,qu,qu] at hl
   simp at h4 h5
   exact⟨uy.2 ⟨by omega,h2,hr⟩,hd,by omega,h5⟩
  ·
   exfalso
   have hT:jy bs k 0 0 1=([],k,2):=by
    rw[show(1:Int)=((1:Nat):Int) from rfl]
    exact qdt bs k 1 (by omega)
   have hN:qr1 bs k 0=0:=by rw[qr1,hT];rfl
   rw[hN,hT] at h
   simp[qf5] at h
 ·
  rename_i hne
  simp only[Prod.mk.injEq] at h
  exact absurd (congrArg Prod.snd h.2) hne
theorem getK_there{bs rest:List UInt8}{k:Nat}{t:List (List UInt8)}(hk:k≤bs.length)(hr:yy t=true)(h:bs.drop k=qei t++rest):qff bs k 0=(t,k+(qei t).length,0):=by
 obtain⟨h5,ho,hri⟩:=uy.1 hr
 have hn:(UInt8.ofNat t.length).toNat=t.length:=by simp;omega
 have hlt:k<bs.length:=by
  have:=congrArg List.length h
  rw[qu,qh8] at this
  simp at this
  omega
 have hc:=zv hlt
 rw[h,qh8,z6,List.cons.injEq] at hc
 obtain⟨c1,c2⟩:=hc
 have hT:=qes hlt
 have hN:qr1 bs k 0=t.length:=by rw[qr1,hT,List.headD_cons,←c1];exact hn
 have hb:bs=bs.take (k+1)++(qk6 t++rest):=by rw[c2,zx]
 have hl:(bs.take (k+1)).length=k+1:=by rw[qy];omega
 have hA:qjx bs k 0=(t,k+(qei t).length,0):=by
  rw[qjx,hN,hT]
  have:=getF_put t (bs.take (k+1)) rest [] ho (rises_nil ho hri)
  rw[←hb,hl] at this
  refine this.trans ?_
  rw[qh8]
  simp
  omega
 rw[qff,hA,if_pos rfl]
def vi(s:List UInt8):List UInt8:=jo s.length++s
def ql5(l:List (List UInt8)):Bool:=decide (l.length≤4096)&&l.all (fun s=>decide (s.length≤4096))&&xd l
theorem qdi{l:List (List UInt8)}:ql5 l=true↔l.length≤4096∧(∀s∈l,s.length≤4096)∧xd l=true:=by
 unfold ql5
 rw[jl,jl,decide_eq_true_eq,jt,and_assoc]
 simp only[decide_eq_true_eq]
def xg:List UInt8→List UInt8→Nat
 | x :: a,y :: b=>if x=y then xg a b+1 else 0
 | _,_=>0
theorem qlk:∀a b:List UInt8,xg a b≤a.length∧xg a b≤b.length
 | [],_=>⟨qi _,qi _⟩
 | _ :: _,[]=>⟨qi _,qi _⟩
 | x :: a,y :: b=>by
  unfold xg
  have:=qlk a b
  split <;> simp <;> omega
theorem qjn:∀ {a b:List UInt8} {n:Nat} (hn:n≤a.length) (hm:n≤b.length),a.take n=b.take n→(∀(h1:n<a.length) (h2:n<b.length),a[n]≠b[n])→xg a b=n
 | [],b,n,hn,_,_,_=>by
  obtain rfl:n=0:=Nat.le_zero.1 hn
  cases b <;> rfl
 | x :: a,[],n,_,hm,_,_=>by
  obtain rfl:n=0:=Nat.le_zero.1 hm
  rfl
 | x :: a,y :: b,0,_,_,_,h=>by
  have:=h (by simp) (by simp)
  simp only[qdp] at this
  unfold xg
  rw[if_neg this]
 | x :: a,y :: b,n+1,hn,hm,he,h=>by
  simp only[jn,List.cons.injEq] at he
  unfold xg
  rw[if_pos he.1,qjn (n:=n) (by simpa using hn) (by simpa using hm) he.2 (fun h1 h2=>by
   have:=h (by simpa using h1) (by simpa using h2)
   simpa using this)]
def entL(block i:Nat)(prev cur:List UInt8):List UInt8 :=
 if i%block=0 then vi cur else jo (xg prev cur)++vi (cur.drop (xg prev cur))
def qhm(block:Nat)(l:List (List UInt8))(i:Nat):List UInt8:=entL block i (l.getD (i-1) []) (l.getD i [])
def qaj(block:Nat)(l:List (List UInt8))(k:Nat):List UInt8:=((List.range k).map (qhm block l)).flatten
theorem ents_zero(block:Nat)(l:List (List UInt8)):qaj block l 0=[]:=rfl
theorem qea(block:Nat)(l:List (List UInt8))(k:Nat):qaj block l (k+1)=qaj block l k++qhm block l k:=by
 unfold qaj
 rw[List.range_succ,jg,qdb]
 simp
def qni(ss:List Nat)(n:Nat):List Nat:=ss.set (ss.length-1) (ss.getLastD 0+n)
theorem qrt(ss:List Nat)(n:Nat):(qni ss n).length=ss.length:=by simp[qni]
def yi(block:Nat)(l:List (List UInt8)):Nat→List Nat
 | 0=>[]
 | k+1=>qni (if k%block=0 then yi block l k++[0] else yi block l k) (qhm block l k).length
theorem qml(block:Nat)(l:List (List UInt8)):∀k,(yi block l k).length≤k
 | 0=>qc _
 | k+1=>by
  have:=qml block l k
  unfold yi
  rw[qrt]
  split
  ·
   rw[qd];simp;omega
  ·
   omega
theorem getLastD_mem{ss:List Nat}:ss.getLastD 0=0∨ss.getLastD 0∈ss:=by
 cases ss with
 | nil=>exact Or.inl rfl
 | cons a t =>
  right
  rw[List.getLastD_eq_getLast?,List.getLast?_eq_some_getLast (by simp)]
  exact List.getLast_mem _
theorem sizes_le(block:Nat)(l:List (List UInt8)):∀k,∀x∈yi block l k,x≤(qaj block l k).length
 | 0,x,hx=>by cases hx
 | k+1,x,hx=>by
  have ih:=sizes_le block l k
  have hl:∀y∈(if k%block=0 then yi block l k++[0] else yi block l k),y≤(qaj block l k).length:=by
   intro y hy
   split at hy
   ·
    rcases zt.1 hy with h | h
    ·
     exact ih y h
    ·
     rw[zo.1 h];exact qi _
   ·
    exact ih y hy
  unfold yi qni at hx
  generalize (if k%block=0 then yi block l k++[0] else yi block l k)=ss at *
  rw[qea,qd]
  rcases List.mem_or_eq_of_mem_set hx with h | rfl
  ·
   have:=hl x h;omega
  ·
   rcases getLastD_mem (ss:=ss) with h | h
   ·
    rw[h];omega
   ·
    have:=hl _ h;omega
theorem entI_len(block:Nat){l:List (List UInt8)}(h:∀s∈l,s.length≤4096)(k:Nat):(qhm block l k).length≤4200:=by
 have hd:∀i,(l.getD i []).length≤4096:=fun i=>by
  rw[yw]
  cases he:l[i]? with
  | none=>simp
  | some s=>exact h s (List.mem_of_getElem? he)
 have hp:∀n,n≤4096→(jo n).length≤9:=fun n hn=>vo n (by omega)
 have h1:=hd k
 have h2:=qlk (l.getD (k-1) []) (l.getD k [])
 unfold qhm entL vi
 split
 ·
  rw[qd]
  have:=hp _ h1
  omega
 ·
  rw[qd,qd]
  have h3:=hp (xg (l.getD (k-1) []) (l.getD k [])) (by omega)
  have h4:=hp (List.drop (xg (l.getD (k-1) []) (l.getD k [])) (l.getD k [])).length (by rw[qu];omega)
  have h5:=qu (i:=xg (l.getD (k-1) []) (l.getD k [])) (l:=l.getD k [])
  omega
theorem ql4(block:Nat){l:List (List UInt8)}(h:∀s∈l,s.length≤4096):∀k,(qaj block l k).length≤4200*k
 | 0=>qc _
 | k+1=>by
  rw[qea,qd]
  have h1:=ql4 block h k
  have h2:=entI_len block h k
  omega
def kn(block:Nat)(l:List (List UInt8)):List UInt8:=jo l.length++jo block++jq (zu (yi block l l.length))++qaj block l l.length
def qgi(bs:List UInt8)(k:Nat)(e:Int):List UInt8×Nat×Int :=
 jy bs k (jac bs k e 4096).2.2 (jac bs k e 4096).2.1 ((jac bs k e 4096).1:Int)
theorem text_bad(bs:List UInt8)(k:Nat){e:Int}(h:e≠0):qgi bs k e=([],k,e):=by simp[qgi,jac,jy,h]
theorem text_good{bs s:List UInt8}{k k2:Nat}(hk:k≤bs.length)(h:qgi bs k 0=(s,k2,0)) :
  s.length≤4096∧bs.drop k=vi s++bs.drop k2∧k2=k+(vi s).length∧k2≤bs.length:=by
 unfold qgi at h
 rcases peek_split bs k 4096 with ⟨e,he,hr⟩ | ⟨h1,h2,hr⟩
 ·
  rw[hr] at h
  simp only[qde _ _ _ _ _ he,Prod.mk.injEq] at h
  exact absurd h.2.2 he
 ·
  rw[hr] at h
  obtain⟨f1,f2,f3⟩:=vnum_form _ h1
  have hs:=qp1 (bs.drop k)
  rw[qu] at hs
  have hl:(jo (qb2 (bs.drop k)).1).length=(qb2 (bs.drop k)).2.1:=by rw[f1,qy,qu];omega
  generalize (qb2 (bs.drop k)).1=n at *
  generalize (qb2 (bs.drop k)).2.1=z at *
  by_cases hf:k+z+n≤bs.length
  ·
   have hT:jy bs k 0 z (n:Int)=((bs.drop (k+z)).take n,k+z+n,0):=by
    unfold jy
    rw[if_neg (by simp),if_neg (by omega),if_neg (by omega),vf]
   simp only[hT,Prod.mk.injEq,and_true] at h
   obtain⟨rfl,rfl⟩:=h
   have hsl:((bs.drop (k+z)).take n).length=n:=by rw[qy,qu];omega
   refine⟨by omega,?_,by rw[vi,qd,hsl,hl];omega,hf⟩
   rw[vi,hsl,f1,qv,←z7 (i:=n),zx,←z7,zx]
  ·
   have hT:jy bs k 0 z (n:Int)=([],k,2):=by
    unfold jy
    rw[if_neg (by simp),if_neg (by omega),if_pos (by omega)]
   rw[hT] at h
   simp at h
theorem text_back{bs s rest:List UInt8}{k:Nat}(hk:k≤bs.length)(h:bs.drop k=vi s++rest)(hs:s.length≤4096):qgi bs k 0=(s,k+(vi s).length,0):=by
 have hv:=vnum_putL s.length (by omega) (s++rest)
 have h':bs.drop k=jo s.length++(s++rest):=by rw[h,vi,qv]
 have h0:qgd bs k 4096=0:=by
  unfold qgd
  rw[h',hv,if_neg (by simp),if_neg (by simp only[];omega)]
 have hlen:bs.length-k=(jo s.length).length+(s.length+rest.length):=by rw[←qu,h',qd,qd]
 have hp:jac bs k 0 4096=(s.length,(jo s.length).length,0):=by
  unfold jac
  rw[h',hv]
  simp[h0]
 unfold qgi
 rw[hp]
 unfold jy
 simp only[]
 rw[if_neg (by simp),if_neg (by omega),if_neg (by omega),vf,←z7,h',yc,List.take_left,vi,qd,qa9]
end Go.Proofs.YtnjkipnklpkaoaaGreat
