/-
  Lemmas.
-/
import Derived.Test.YtjfecojdagmacaaGreatE04
import Derived.Test.YtjfecojdagmacaaGreatE05
namespace Go.Proofs.YtjfecojdagmacaaGreat
open Go.RowKit
set_option maxRecDepth 20000
set_option maxHeartbeats 16000000
set_option linter.unusedSimpArgs false
set_option linter.unusedVariables false
theorem append_string(w:World)(base:Nat)(v:Value)(ys:List UInt8)(s:ByteArray)(hown:w.ownsRow base 5 1 v ys.length (bv ys))
  (hb:ys.length+s.size≤140737488355328) (hbase:base≤w.heap.size) :
  ∃A' c' w',(Builtin.append_ #[36,9] 36 #[v,.string s]).run Tryz.prog w= .ok (.slice A' (ys.length+s.size) c') w'∧
   w'.ownsRow base 5 1 (.slice A' (ys.length+s.size) c') (ys.length+s.size) (bv (ys++s.data.toList))∧w.grownBy w' v.ownBlock:=by
 obtain⟨i0,hi0,hz0,hz1,hz2⟩:=info_parts Tryz.infoU8
 obtain⟨v',w',hrun,h2,h3,_⟩:=Lib.run_append_own_string (P:=Tryz.prog) w base 36 9 36 5 i0 Tryz.underlying36 Tryz.underlying9 hi0 hz0 hz1 hz2 v ys.length (bv ys) hown s (by simp only[maxLen];omega) hb hbase
 obtain⟨A',c',rfl,_⟩:=qbp w' h2
 exact⟨A',c',w',hrun,by rw[qg5];exact h2,h3⟩
def vh(s:List UInt8):List UInt8:=jc s.length++s
def qjf(l:List (List UInt8)):Bool:=decide (l.length≤4096)&&l.all (fun s=>decide (s.length≤4096))&&yh l
theorem qc1{l:List (List UInt8)}:qjf l=true↔l.length≤4096∧(∀s∈l,s.length≤4096)∧yh l=true:=by
 unfold qjf
 rw[jq,jq,decide_eq_true_eq,List.all_eq_true,and_assoc]
 simp only[decide_eq_true_eq]
def yv:List UInt8→List UInt8→Nat
 | x :: a,y :: b=>if x=y then yv a b+1 else 0
 | _,_=>0
theorem qh5:∀a b:List UInt8,yv a b≤a.length∧yv a b≤b.length
 | [],_=>⟨qj _,qj _⟩
 | _ :: _,[]=>⟨qj _,qj _⟩
 | x :: a,y :: b=>by
  unfold yv
  have:=qh5 a b
  split <;> simp <;> omega
theorem share_is:∀ {a b:List UInt8} {n:Nat} (hn:n≤a.length) (hm:n≤b.length),a.take n=b.take n→(∀(h1:n<a.length) (h2:n<b.length),a[n]≠b[n])→yv a b=n
 | [],b,n,hn,_,_,_=>by
  obtain rfl:n=0:=Nat.le_zero.1 hn
  cases b <;> rfl
 | x :: a,[],n,_,hm,_,_=>by
  obtain rfl:n=0:=Nat.le_zero.1 hm
  rfl
 | x :: a,y :: b,0,_,_,_,h=>by
  have:=h (by simp) (by simp)
  simp only[xj] at this
  unfold yv
  rw[if_neg this]
 | x :: a,y :: b,n+1,hn,hm,he,h=>by
  simp only[yy,List.cons.injEq] at he
  unfold yv
  rw[if_pos he.1,share_is (n:=n) (by simpa using hn) (by simpa using hm) he.2 (fun h1 h2=>by
   have:=h (by simpa using h1) (by simpa using h2)
   simpa using this)]
def entL(block i:Nat)(prev cur:List UInt8):List UInt8 :=
 if i%block=0 then vh cur else jc (yv prev cur)++vh (cur.drop (yv prev cur))
def qnc(block:Nat)(l:List (List UInt8))(i:Nat):List UInt8:=entL block i (l.getD (i-1) []) (l.getD i [])
def qbq(block:Nat)(l:List (List UInt8))(k:Nat):List UInt8:=((List.range k).map (qnc block l)).flatten
theorem ents_zero(block:Nat)(l:List (List UInt8)):qbq block l 0=[]:=rfl
theorem qfr(block:Nat)(l:List (List UInt8))(k:Nat):qbq block l (k+1)=qbq block l k++qnc block l k:=by
 unfold qbq
 rw[List.range_succ,jg,List.flatten_append]
 simp
def bumpL(ss:List Nat)(n:Nat):List Nat:=ss.set (ss.length-1) (ss.getLastD 0+n)
theorem bump_length(ss:List Nat)(n:Nat):(bumpL ss n).length=ss.length:=by simp[bumpL]
def xw(block:Nat)(l:List (List UInt8)):Nat→List Nat
 | 0=>[]
 | k+1=>bumpL (if k%block=0 then xw block l k++[0] else xw block l k) (qnc block l k).length
theorem qll(block:Nat)(l:List (List UInt8)):∀k,(xw block l k).length≤k
 | 0=>qc _
 | k+1=>by
  have:=qll block l k
  unfold xw
  rw[bump_length]
  split
  ·
   rw[qd];simp;omega
  ·
   omega
theorem getLastD_mem{ss:List Nat}:ss.getLastD 0=0∨ss.getLastD 0∈ss:=by
 cases ss with
 | nil=>exact Or.inl rfl
 | cons a t =>
  right
  rw[List.getLastD_eq_getLast?,List.getLast?_eq_some_getLast (by simp)]
  exact List.getLast_mem _
theorem sizes_le(block:Nat)(l:List (List UInt8)):∀k,∀x∈xw block l k,x≤(qbq block l k).length
 | 0,x,hx=>by cases hx
 | k+1,x,hx=>by
  have ih:=sizes_le block l k
  have hl:∀y∈(if k%block=0 then xw block l k++[0] else xw block l k),y≤(qbq block l k).length:=by
   intro y hy
   split at hy
   ·
    rcases zn.1 hy with h | h
    ·
     exact ih y h
    ·
     rw[q8.1 h];exact qj _
   ·
    exact ih y hy
  unfold xw bumpL at hx
  generalize (if k%block=0 then xw block l k++[0] else xw block l k)=ss at *
  rw[qfr,qd]
  rcases List.mem_or_eq_of_mem_set hx with h | rfl
  ·
   have:=hl x h;omega
  ·
   rcases getLastD_mem (ss:=ss) with h | h
   ·
    rw[h];omega
   ·
    have:=hl _ h;omega
theorem entI_len(block:Nat){l:List (List UInt8)}(h:∀s∈l,s.length≤4096)(k:Nat):(qnc block l k).length≤4200:=by
 have hd:∀i,(l.getD i []).length≤4096:=fun i=>by
  rw[j7]
  cases he:l[i]? with
  | none=>simp
  | some s=>exact h s (List.mem_of_getElem? he)
 have hp:∀n,n≤4096→(jc n).length≤9:=fun n hn=>kt n (by omega)
 have h1:=hd k
 have h2:=qh5 (l.getD (k-1) []) (l.getD k [])
 unfold qnc entL vh
 split
 ·
  rw[qd]
  have:=hp _ h1
  omega
 ·
  rw[qd,qd]
  have h3:=hp (yv (l.getD (k-1) []) (l.getD k [])) (by omega)
  have h4:=hp (List.drop (yv (l.getD (k-1) []) (l.getD k [])) (l.getD k [])).length (by rw[qv];omega)
  have h5:=qv (i:=yv (l.getD (k-1) []) (l.getD k [])) (l:=l.getD k [])
  omega
theorem qk0(block:Nat){l:List (List UInt8)}(h:∀s∈l,s.length≤4096):∀k,(qbq block l k).length≤4200*k
 | 0=>qc _
 | k+1=>by
  rw[qfr,qd]
  have h1:=qk0 block h k
  have h2:=entI_len block h k
  omega
def k9(block:Nat)(l:List (List UInt8)):List UInt8:=jc l.length++jc block++jr (jf (xw block l l.length))++qbq block l l.length
def qd5(bs:List UInt8)(k:Nat)(e:Int):List UInt8×Nat×Int :=
 z6 bs k (vy bs k e 4096).2.2 (vy bs k e 4096).2.1 ((vy bs k e 4096).1:Int)
theorem text_any{w:World}{lo g k:Nat}{bs:List UInt8}{e:Int}(h:xq w lo g bs k e) :
  Calls Tryz.prog 215 #[cp g] w fun r w'=>r= .returned (.string ⟨(qd5 bs k e).1.toArray⟩)∧
   xq w' lo g bs (qd5 bs k e).2.1 (qd5 bs k e).2.2∧w.grownBy w' (some g):=by
 have hk:=h.le
 have HP:=qa (peek_any 4096 h)
 have hs:=qj1 bs k e 4096 hk
 have HE0:qd5 bs k e=z6 bs k (vy bs k e 4096).2.2 (vy bs k e 4096).2.1 ((vy bs k e 4096).1:Int):=rfl
 have HE:=qa HE0
 clear h HE0
 generalize qd5 bs k e=M at *
 generalize vy bs k e 4096=R at *
 go_enter Tryz.func215,Tryz.ntmps215
 go_wp2_with fail
 refine HP.out.mono ?_
 rintro r w1 ⟨rfl,hc1,hg1⟩
 have HC:=qa hc1
 clear hc1
 go_wp2_with fail
 refine(qkn _ _ HC.out hs).mono ?_
 rintro r w2 ⟨A,c,rfl,hrd,hc2,hg2⟩
 rw[←HE.out] at hc2 hrd ⊢
 have HC2:=qa hc2
 have hstr:=vk (P:=Tryz.prog) w2 36 9 5 Tryz.underlying36 Tryz.underlying5 Tryz.underlying9 lo g A c M.1 hrd
 clear hc2 hrd
 go_wp2
 go_ret
 exact⟨rfl,HC2.out,hg1.trans hg2⟩
theorem text_bad(bs:List UInt8)(k:Nat){e:Int}(h:e≠0):qd5 bs k e=([],k,e):=by simp[qd5,vy,z6,h]
theorem text_good{bs s:List UInt8}{k k2:Nat}(hk:k≤bs.length)(h:qd5 bs k 0=(s,k2,0)) :
  s.length≤4096∧bs.drop k=vh s++bs.drop k2∧k2=k+(vh s).length∧k2≤bs.length:=by
 unfold qd5 at h
 rcases peek_split bs k 4096 with ⟨e,he,hr⟩ | ⟨h1,h2,hr⟩
 ·
  rw[hr] at h
  simp only[qa3 _ _ _ _ _ he,Prod.mk.injEq] at h
  exact absurd h.2.2 he
 ·
  rw[hr] at h
  obtain⟨f1,f2,f3⟩:=vnum_form _ h1
  have hs:=qlh (bs.drop k)
  rw[qv] at hs
  have hl:(jc (qai (bs.drop k)).1).length=(qai (bs.drop k)).2.1:=by rw[f1,qy,qv];omega
  generalize (qai (bs.drop k)).1=n at *
  generalize (qai (bs.drop k)).2.1=z at *
  by_cases hf:k+z+n≤bs.length
  ·
   have hT:z6 bs k 0 z (n:Int)=((bs.drop (k+z)).take n,k+z+n,0):=by
    unfold z6
    rw[if_neg (by simp),if_neg (by omega),if_neg (by omega),kf]
   simp only[hT,Prod.mk.injEq,and_true] at h
   obtain⟨rfl,rfl⟩:=h
   have hsl:((bs.drop (k+z)).take n).length=n:=by rw[qy,qv];omega
   refine⟨by omega,?_,by rw[vh,qd,hsl,hl];omega,hf⟩
   rw[vh,hsl,f1,qm,←zu (i:=n),zw,←zu,zw]
  ·
   have hT:z6 bs k 0 z (n:Int)=([],k,2):=by
    unfold z6
    rw[if_neg (by simp),if_neg (by omega),if_pos (by omega)]
   rw[hT] at h
   simp at h
theorem text_back{bs s rest:List UInt8}{k:Nat}(hk:k≤bs.length)(h:bs.drop k=vh s++rest)(hs:s.length≤4096):qd5 bs k 0=(s,k+(vh s).length,0):=by
 have hv:=vnum_putL s.length (by omega) (s++rest)
 have h':bs.drop k=jc s.length++(s++rest):=by rw[h,vh,qm]
 have h0:qdz bs k 4096=0:=by
  unfold qdz
  rw[h',hv,if_neg (by simp),if_neg (by simp only[];omega)]
 have hlen:bs.length-k=(jc s.length).length+(s.length+rest.length):=by rw[←qv,h',qd,qd]
 have hp:vy bs k 0 4096=(s.length,(jc s.length).length,0):=by
  unfold vy
  rw[h',hv]
  simp[h0]
 unfold qd5
 rw[hp]
 unfold z6
 simp only[]
 rw[if_neg (by simp),if_neg (by omega),if_neg (by omega),kf,←zu,h',jn,List.take_left,vh,qd,qaz]
def qb5:List UInt8→List (List UInt8)→List UInt8
 | _,[]=>[]
 | p,s :: t=>jc (yv p s)++(vh (s.drop (yv p s))++qb5 s t)
def kb:List (List UInt8)→List UInt8
 | []=>[]
 | s :: t=>vh s++qb5 s t
theorem entsR_snoc:∀(p:List UInt8) (t:List (List UInt8)) (s:List UInt8),qb5 p (t++[s])=qb5 p t++(jc (yv (t.getLastD p) s)++vh (s.drop (yv (t.getLastD p) s)))
 | p,[],s=>by simp[qb5]
 | p,x :: t,s=>by
  rw[z7,qb5,entsR_snoc x t s,qb5,List.getLastD_cons]
  simp
theorem blkL_snoc{t:List (List UInt8)}(h:t≠[])(s:List UInt8):kb (t++[s])=kb t++(jc (yv (t.getLastD []) s)++vh (s.drop (yv (t.getLastD []) s))):=by
 cases t with
 | nil=>exact absurd rfl h
 | cons x t =>
  rw[z7,kb,entsR_snoc,kb,List.getLastD_cons]
  simp
theorem lastD_take{l:List (List UInt8)}{j:Nat}(h:j<l.length)(d:List UInt8):(l.take (j+1)).getLastD d=l[j]:=by
 rw[qi h,List.getLastD_concat]
theorem getD_at{l:List (List UInt8)}{i:Nat}(h:i<l.length):l.getD i []=l[i]:=by
 rw[j7,qe h]
 rfl
theorem blk_ent{K i j:Nat}{l:List (List UInt8)}(hj:j<K)(h:i*K+j<l.length):kb ((l.drop (i*K)).take (j+1))=kb ((l.drop (i*K)).take j)++qnc K l (i*K+j):=by
 have hd:j<(l.drop (i*K)).length:=by rw[qv];omega
 have he:(l.drop (i*K))[j]=l[i*K+j]:=by simp
 rw[qi hd,he]
 unfold qnc entL
 rw[getD_at h]
 have hm:(i*K+j)%K=j:=by rw[yz,Nat.mul_add_mod,xt hj]
 rw[hm]
 cases j with
 | zero=>simp[kb,qb5]
 | succ j =>
  have hne:(l.drop (i*K)).take (j+1)≠[]:=fun e=>by
   have:=congrArg List.length e
   rw[qy,jy] at this
   omega
  have h2:i*K+(j+1)-1=i*K+j:=by omega
  rw[blkL_snoc hne,lastD_take (by omega),if_neg (by omega),h2,getD_at (by omega)]
  simp
theorem qk3{K i:Nat}{l:List (List UInt8)}:∀ {j:Nat},j≤K→i*K+j≤l.length→qbq K l (i*K+j)=qbq K l (i*K)++kb ((l.drop (i*K)).take j)
 | 0,_,_=>by simp[kb]
 | j+1,hj,h=>by
  rw[←qaz,qfr,qk3 (j:=j) (by omega) (by omega),blk_ent (by omega) (by omega),qm]
theorem bump_snoc(S:List Nat)(x n:Nat):bumpL (S++[x]) n=S++[x+n]:=by
 unfold bumpL
 simp
theorem qlm{K i:Nat}{l:List (List UInt8)}:∀ {j:Nat},j<K→i*K+(j+1)≤l.length→xw K l (i*K+(j+1))=xw K l (i*K)++[(kb ((l.drop (i*K)).take (j+1))).length]
 | 0,hj,h=>by
  rw[blk_ent hj (by omega)]
  simp[kb,xw,bump_snoc]
 | j+1,hj,h=>by
  have hm:(i*K+(j+1))%K=j+1:=by rw[yz,Nat.mul_add_mod,xt hj]
  rw[←qaz,xw,if_neg (by omega),qlm (j:=j) (by omega) (by omega),bump_snoc,blk_ent (j:=j+1) hj (by omega),qd]
theorem entI_app{K k:Nat}{l t:List (List UInt8)}(h:k<l.length):qnc K (l++t) k=qnc K l k:=by
 unfold qnc
 rw[j7,j7,ju h,ju (by omega),←j7,←j7]
theorem ents_app{K:Nat}{l t:List (List UInt8)}:∀ {k:Nat},k≤l.length→qbq K (l++t) k=qbq K l k
 | 0,_=>rfl
 | k+1,h=>by rw[qfr,qfr,ents_app (by omega),entI_app (by omega)]
theorem sizes_app{K:Nat}{l t:List (List UInt8)}:∀ {k:Nat},k≤l.length→xw K (l++t) k=xw K l k
 | 0,_=>rfl
 | k+1,h=>by rw[xw,xw,sizes_app (by omega),entI_app (by omega)]
def qcz(l:List (List UInt8))(s:List UInt8):Bool:=decide (s.length≤4096)&&(decide (l.length=0)||decide (xd (l.getLastD []) s<0))
def qcg(l:List (List UInt8)):Bool:=l.all (fun s=>decide (s.length≤4096))&&yh l
theorem qes(l:List (List UInt8))(s:List UInt8):qcg (l++[s])=(qcg l&&qcz l s):=by
 unfold qcg qcz
 rw[List.all_append,List.all_cons,List.all_nil,Bool.and_true]
 rcases List.eq_nil_or_concat l with rfl | ⟨t,a,rfl⟩
 ·
  simp[yh]
 ·
  rw[List.concat_eq_append,qm,yw,qjv]
  have h1:decide ((t++[a]).length=0)=false:=qw (by simp)
  have h2:(t++[a]).getLastD []=a:=by simp
  rw[h1,h2,Bool.false_or]
  generalize (t++[a]).all _=p
  generalize yh (t++[a])=q
  generalize decide (s.length≤4096)=r
  generalize decide (xd a s<0)=v
  revert p q r v
  decide
theorem qil:∀ {l t:List (List UInt8)},qcg (l++t)=true→qcg l=true
 | l,[],h=>by simpa using h
 | l,s :: t,h=>by
  have h2:=qil (l:=l++[s]) (t:=t) (by rw[qm];exact h)
  rw[qes,jq] at h2
  exact h2.1
theorem dic_good{l:List (List UInt8)}:qjf l=(decide (l.length≤4096)&&qcg l):=by unfold qjf qcg;rw[Bool.and_assoc]
def qfa(bs:List UInt8)(k:Nat)(e:Int)(last:List UInt8):List UInt8×Nat×Int :=
 let r:=z8 bs k e last.length
 let t:=qd5 bs r.2.1 r.2.2
 let s:=last.take r.1++t.1
 (s,t.2.1,if yv last s=r.1 then t.2.2 else jx t.2.2)
def ql0(first:Bool)(bs:List UInt8)(k:Nat)(e:Int)(last:List UInt8):List UInt8×Nat×Int:=if first then qd5 bs k e else qfa bs k e last
def qe2(bs:List UInt8)(E:Int)(l:List (List UInt8))(first:Bool)(last:List UInt8)(k:Nat)(e:Int):List UInt8×Nat×Int :=
 let r:=ql0 first bs k e last
 (r.1,r.2.1,if qcz l r.1=true∧E≤((bs.length-r.2.1:Nat):Int) then r.2.2 else jx r.2.2)
def qd6(bs:List UInt8)(E:Int):Nat→Bool→List (List UInt8)→List UInt8→Nat→Int→List (List UInt8)×Nat×Int
 | 0,_,l,_,k,e=>(l,k,e)
 | m+1,f,l,last,k,e=>if (qe2 bs E l f last k e).2.2=0 then qd6 bs E m false (l++[(qe2 bs E l f last k e).1]) (qe2 bs E l f last k e).1 (qe2 bs E l f last k e).2.1 0 else (l,(qe2 bs E l f last k e).2.1,(qe2 bs E l f last k e).2.2)
def qez(bs:List UInt8)(l:List (List UInt8))(k:Nat)(e:Int)(n size:Nat):List (List UInt8)×Nat×Int :=
 let r:=qd6 bs (((bs.length-k:Nat):Int)-size) n true l [] k e
 (r.1,r.2.1,if ((bs.length-r.2.1:Nat):Int)=((bs.length-k:Nat):Int)-size then r.2.2 else jx r.2.2)
def qe9(bs:List UInt8)(count K:Nat):List Nat→Nat→List (List UInt8)→Nat→Int→List (List UInt8)×Nat×Int
 | [],_,l,k,e=>(l,k,e)
 | z :: ns,i,l,k,e=>qe9 bs count K ns (i+1) (qez bs l k e (min K (count-i*K)) z).1 (qez bs l k e (min K (count-i*K)) z).2.1 (qez bs l k e (min K (count-i*K)) z).2.2
def vz(count K:Nat):Nat:=(count+K-1)/K
def qku(bs:List UInt8)(count K:Nat)(k:Nat)(e:Int):List (List UInt8)×Nat×Int :=
 qe9 bs count K (ue bs k e (vz count K:Int)).1 0 [] (ue bs k e (vz count K:Int)).2.1 (if (ue bs k e (vz count K:Int)).1.length=vz count K then (ue bs k e (vz count K:Int)).2.2 else jx (ue bs k e (vz count K:Int)).2.2)
def openK(bs:List UInt8)(count K:Nat)(k:Nat)(e:Int):List (List UInt8)×Nat×Int :=
 if 1≤K∧K≤64 then (if (qku bs count K k e).2.2=0 then qku bs count K k e else ([],(qku bs count K k e).2)) else ([],k,jx e)
def qaw(bs:List UInt8)(k:Nat)(e:Int):List (List UInt8)×Nat×Int :=
 openK bs (z8 bs k e 4096).1 (z8 bs (z8 bs k e 4096).2.1 (z8 bs k e 4096).2.2 64).1 (z8 bs (z8 bs k e 4096).2.1 (z8 bs k e 4096).2.2 64).2.1 (z8 bs (z8 bs k e 4096).2.1 (z8 bs k e 4096).2.2 64).2.2
theorem nextR_bad(bs:List UInt8)(k:Nat){e:Int}(last:List UInt8)(h:e≠0):(qfa bs k e last).2=(k,e):=by
 unfold qfa
 simp only[qf3 _ _ _ h,text_bad _ _ h,vw h,ite_self]
theorem entR_bad(f:Bool)(bs:List UInt8)(k:Nat){e:Int}(last:List UInt8)(h:e≠0):(ql0 f bs k e last).2=(k,e):=by
 unfold ql0
 split
 ·
  rw[text_bad _ _ h]
 ·
  exact nextR_bad bs k last h
theorem stepF_bad(bs:List UInt8)(E:Int)(l:List (List UInt8))(f:Bool)(last:List UInt8)(k:Nat){e:Int}(h:e≠0):(qe2 bs E l f last k e).2=(k,e):=by
 unfold qe2
 simp only[entR_bad f bs k last h,vw h,ite_self]
theorem takeF_bad(bs:List UInt8)(E:Int)(n:Nat)(f:Bool)(l:List (List UInt8))(last:List UInt8)(k:Nat){e:Int}(h:e≠0):qd6 bs E n f l last k e=(l,k,e):=by
 cases n with
 | zero=>rfl
 | succ n =>
  rw[qd6]
  simp only[stepF_bad bs E l f last k h,if_neg h]
theorem takeT_bad(bs:List UInt8)(l:List (List UInt8))(k:Nat){e:Int}(n size:Nat)(h:e≠0):qez bs l k e n size=(l,k,e):=by
 unfold qez
 simp only[takeF_bad bs _ n true l [] k h,vw h,ite_self]
theorem qi0(bs:List UInt8)(count K:Nat):∀(ns:List Nat) (i:Nat) (l:List (List UInt8)) (k:Nat) {e:Int},e≠0→qe9 bs count K ns i l k e=(l,k,e)
 | [],i,l,k,e,_=>rfl
 | z :: ns,i,l,k,e,h=>by
  rw[qe9]
  simp only[takeT_bad bs l k _ z h]
  exact qi0 bs count K ns (i+1) l k h
theorem share_take{last s:List UInt8}:last.take (yv last s)++s.drop (yv last s)=s:=by
 induction last generalizing s with
 | nil=>cases s <;> simp[yv]
 | cons x a ih =>
  cases s with
  | nil=>simp[yv]
  | cons y b =>
   unfold yv
   split
   ·
    rename_i h
    rw[yy,List.drop_succ_cons,z7,ih,h]
   ·
    simp
theorem nextR_good{bs s last:List UInt8}{k k2:Nat}(hk:k≤bs.length)(h:qfa bs k 0 last=(s,k2,0)) :
  bs.drop k=jc (yv last s)++(vh (s.drop (yv last s))++bs.drop k2)∧k2=k+((jc (yv last s)).length+(vh (s.drop (yv last s))).length)∧k2≤bs.length:=by
 unfold qfa at h
 obtain⟨R,hR⟩:∃R,z8 bs k 0 (last.length:Int)=R:=⟨_,rfl⟩
 simp only[hR] at h
 obtain⟨n,k1,e1⟩:=R
 simp only at h
 by_cases he1:e1=0
 ·
  subst he1
  obtain⟨g1,g2,g3,g4,g5⟩:=qab hk hR
  obtain⟨T,hT⟩:∃T,qd5 bs k1 0=T:=⟨_,rfl⟩
  simp only[hT] at h
  obtain⟨t,k3,e3⟩:=T
  simp only[Prod.mk.injEq] at h
  obtain⟨rfl,rfl,h3⟩:=h
  by_cases hs:yv last (last.take n++t)=n
  ·
   rw[if_pos hs] at h3
   subst h3
   obtain⟨t1,t2,t3,t4⟩:=text_good g5 hT
   have hd:(last.take n++t).drop n=t:=by rw[List.drop_append_of_le_length (by rw[qy];omega),List.drop_eq_nil_of_le (by rw[qy];omega),xu]
   rw[hs,hd]
   exact⟨by rw[g3,t2],by omega,t4⟩
  ·
   rw[if_neg hs] at h3
   exact absurd h3 (yp _)
 ·
  simp only[text_bad _ _ he1,vw he1,ite_self,Prod.mk.injEq] at h
  exact absurd h.2.2 he1
theorem nextR_back{bs s last rest:List UInt8}{k:Nat}(hk:k≤bs.length)(h:bs.drop k=jc (yv last s)++(vh (s.drop (yv last s))++rest))(hs:s.length≤4096)(hl:last.length≤4096) :
  qfa bs k 0 last=(s,k+((jc (yv last s)).length+(vh (s.drop (yv last s))).length),0):=by
 have hsh:=qh5 last s
 have hM:=vp (m:=(last.length:Int)) h (by omega) (by omega)
 have hlen:bs.length-k=(jc (yv last s)).length+((vh (s.drop (yv last s))).length+rest.length):=by rw[←qv,h,qd,qd]
 have hd:bs.drop (k+(jc (yv last s)).length)=vh (s.drop (yv last s))++rest:=by rw[←zu,h,jn]
 have hT:=text_back (by omega) hd (by rw[qv];omega)
 unfold qfa
 simp only[hM,hT,share_take,if_true,Prod.mk.injEq,and_true,true_and]
 omega
theorem stepF_split{bs s:List UInt8}{E:Int}{l:List (List UInt8)}{f:Bool}{last:List UInt8}{k k2:Nat}(h:qe2 bs E l f last k 0=(s,k2,0)):ql0 f bs k 0 last=(s,k2,0)∧qcz l s=true∧E≤((bs.length-k2:Nat):Int):=by
 unfold qe2 at h
 simp only[Prod.mk.injEq] at h
 obtain⟨h1,h2,h3⟩:=h
 rw[h1,h2] at h3
 by_cases hc:qcz l s=true∧E≤((bs.length-k2:Nat):Int)
 ·
  rw[if_pos hc] at h3
  exact⟨Prod.ext h1 (Prod.ext h2 h3),hc⟩
 ·
  rw[if_neg hc] at h3
  exact absurd h3 (yp _)
theorem takeF_step{bs:List UInt8}{E:Int}{m k k2:Nat}{f:Bool}{l l2:List (List UInt8)}{last:List UInt8}(h:qd6 bs E (m+1) f l last k 0=(l2,k2,0)) :
  ∃s k1,ql0 f bs k 0 last=(s,k1,0)∧qcz l s=true∧E≤((bs.length-k1:Nat):Int)∧qd6 bs E m false (l++[s]) s k1 0=(l2,k2,0):=by
 rw[qd6] at h
 obtain⟨S,hS⟩:∃S,qe2 bs E l f last k 0=S:=⟨_,rfl⟩
 rw[hS] at h
 obtain⟨s,k1,e1⟩:=S
 simp only at h
 by_cases he1:e1=0
 ·
  subst he1
  rw[if_pos rfl] at h
  obtain⟨h1,h2,h3⟩:=stepF_split hS
  exact⟨s,k1,h1,h2,h3,h⟩
 ·
  rw[if_neg he1] at h
  simp only[Prod.mk.injEq] at h
  exact absurd h.2.2 he1
theorem takeF_rest{bs:List UInt8}{E:Int}:∀ {m k k2:Nat} {l l2:List (List UInt8)} {last:List UInt8},k≤bs.length→qd6 bs E m false l last k 0=(l2,k2,0)→
  ∃t,t.length=m∧l2=l++t∧(qcg l=true→qcg l2=true)∧bs.drop k=qb5 last t++bs.drop k2∧k2=k+(qb5 last t).length∧k2≤bs.length
 | 0,k,k2,l,l2,last,hk,h=>by
  simp only[qd6,Prod.mk.injEq,and_true] at h
  obtain⟨rfl,rfl⟩:=h
  exact⟨[],rfl,by simp,id,rfl,rfl,hk⟩
 | m+1,k,k2,l,l2,last,hk,h=>by
  obtain⟨s,k1,h1,h2,h3,h4⟩:=takeF_step h
  obtain⟨g1,g2,g3⟩:=nextR_good hk (show qfa bs k 0 last=(s,k1,0) from h1)
  obtain⟨t,t1,t2,t3,t4,t5,t6⟩:=takeF_rest g3 h4
  refine⟨s :: t,by simp[t1],by rw[t2];simp,fun hg=>t3 (by rw[qes,hg,h2];rfl),?_,?_,t6⟩
  ·
   rw[g1,t4,qb5]
   simp
  ·
   rw[qb5]
   simp only[qd]
   omega
theorem takeT_good{bs:List UInt8}{k k2 n size:Nat}{l l2:List (List UInt8)}(hk:k≤bs.length)(h:qez bs l k 0 (n+1) size=(l2,k2,0)) :
  ∃t,t.length=n+1∧l2=l++t∧(qcg l=true→qcg l2=true)∧bs.drop k=kb t++bs.drop k2∧(kb t).length=size∧k2=k+size∧k2≤bs.length:=by
 unfold qez at h
 obtain⟨R,hR⟩:∃R,qd6 bs (((bs.length-k:Nat):Int)-size) (n+1) true l [] k 0=R:=⟨_,rfl⟩
 simp only[hR] at h
 obtain⟨l3,k3,e3⟩:=R
 simp only[Prod.mk.injEq] at h
 obtain⟨rfl,rfl,h⟩:=h
 by_cases hc:((bs.length-k3:Nat):Int)=((bs.length-k:Nat):Int)-size
 ·
  rw[if_pos hc] at h
  subst h
  obtain⟨s,k1,h1,h2,h3,h4⟩:=takeF_step hR
  obtain⟨g1,g2,g3,g4⟩:=text_good hk (show qd5 bs k 0=(s,k1,0) from h1)
  obtain⟨t,t1,t2,t3,t4,t5,t6⟩:=takeF_rest g4 h4
  have hb:(kb (s :: t)).length=size:=by
   rw[kb,qd]
   omega
  refine⟨s :: t,by simp[t1],by rw[t2];simp,fun hg=>t3 (by rw[qes,hg,h2];rfl),?_,hb,?_,t6⟩
  ·
   rw[g2,t4,kb]
   simp
  ·
   rw[kb,qd] at hb
   omega
 ·
  rw[if_neg hc] at h
  exact absurd h (yp _)
theorem qmc{bs rest:List UInt8}{E:Int}(hE:E≤(rest.length:Int)):∀ {t:List (List UInt8)} {k:Nat} {l:List (List UInt8)} {last:List UInt8},k≤bs.length→last.length≤4096→qcg (l++t)=true→bs.drop k=qb5 last t++rest→
  qd6 bs E t.length false l last k 0=(l++t,k+(qb5 last t).length,0)
 | [],k,l,last,hk,hl,hg,h=>by simp[qd6,qb5]
 | s :: t,k,l,last,hk,hl,hg,h=>by
  have hg1:qcg (l++[s]++t)=true:=by rw[qm];exact hg
  have hg2:=qil hg1
  rw[qes,jq] at hg2
  have hs:s.length≤4096:=by have:=hg2.2;unfold qcz at this;rw[jq,decide_eq_true_eq] at this;exact this.1
  have h':bs.drop k=jc (yv last s)++(vh (s.drop (yv last s))++(qb5 s t++rest)):=by rw[h,qb5];simp
  have hN:=nextR_back hk h' hs hl
  have hlen:bs.length-k=(jc (yv last s)).length+((vh (s.drop (yv last s))).length+((qb5 s t).length+rest.length)):=by rw[←qv,h'];simp
  obtain⟨k1,hk1⟩:∃k1,k+((jc (yv last s)).length+(vh (s.drop (yv last s))).length)=k1:=⟨_,rfl⟩
  rw[hk1] at hN
  have hd:bs.drop k1=qb5 s t++rest:=by rw[←hk1,←zu,h',←zu,jn,jn]
  have ih:=qmc hE (t:=t) (k:=k1) (l:=l++[s]) (last:=s) (by omega) hs hg1 hd
  have hS:qe2 bs E l false last k 0=(s,k1,0):=by
   unfold qe2
   have:ql0 false bs k 0 last=(s,k1,0):=hN
   simp only[this]
   rw[if_pos ⟨hg2.2,by omega⟩]
  rw[qo,qd6]
  simp only[hS,if_true]
  rw[ih,qb5]
  simp
  omega
theorem takeT_there{bs rest:List UInt8}{s:List UInt8}{t:List (List UInt8)}{k:Nat}{l:List (List UInt8)}(hk:k≤bs.length)(hg:qcg (l++s :: t)=true)(h:bs.drop k=kb (s :: t)++rest) :
  qez bs l k 0 (t.length+1) (kb (s :: t)).length=(l++s :: t,k+(kb (s :: t)).length,0):=by
 have hg1:qcg (l++[s]++t)=true:=by rw[qm];exact hg
 have hg2:=qil hg1
 rw[qes,jq] at hg2
 have hs:s.length≤4096:=by have:=hg2.2;unfold qcz at this;rw[jq,decide_eq_true_eq] at this;exact this.1
 have h':bs.drop k=vh s++(qb5 s t++rest):=by rw[h,kb];simp
 have hlen:bs.length-k=(kb (s :: t)).length+rest.length:=by rw[←qv,h];simp
 have hbl:(kb (s :: t)).length=(vh s).length+(qb5 s t).length:=by rw[kb,qd]
 have hT:=text_back hk h' hs
 obtain⟨k1,hk1⟩:∃k1,k+(vh s).length=k1:=⟨_,rfl⟩
 rw[hk1] at hT
 have hd:bs.drop k1=qb5 s t++rest:=by rw[←hk1,←zu,h',jn]
 obtain⟨E,hE⟩:∃E,((bs.length-k:Nat):Int)-((kb (s :: t)).length:Int)=E:=⟨_,rfl⟩
 have hF:=qmc (E:=E) (rest:=rest) (by omega) (t:=t) (k:=k1) (l:=l++[s]) (last:=s) (by omega) hs hg1 hd
 have hS:qe2 bs E l true [] k 0=(s,k1,0):=by
  unfold qe2
  have:ql0 true bs k 0 []=(s,k1,0):=hT
  simp only[this]
  rw[if_pos ⟨hg2.2,by omega⟩]
 have hA:qd6 bs E (t.length+1) true l [] k 0=(l++s :: t,k+(kb (s :: t)).length,0):=by
  rw[qd6]
  simp only[hS,if_true]
  rw[hF]
  simp
  omega
 unfold qez
 rw[hE]
 simp only[hA]
 rw[if_pos (by omega)]
theorem qm1{K:Nat}(hK:1≤K):vz 0 K=0:=by
 unfold vz
 rw[yk]
 exact Nat.div_eq_of_lt (by omega)
theorem qg7{count K q:Nat}(hK:1≤K)(h:q<vz count K):q*K<count:=by
 unfold vz at h
 have h1:(q+1)*K≤count+K-1:=(Nat.le_div_iff_mul_le (by omega)).1 h
 rw[Nat.add_mul,qa5] at h1
 omega
theorem qi9{count K:Nat}(hK:1≤K):count≤vz count K*K:=by
 unfold vz
 have h1:=Nat.div_add_mod (count+K-1) K
 have h2:=qb1 (count+K-1) (show 0<K by omega)
 rw[yz] at h1
 omega
theorem ql5{count K:Nat}(hK:1≤K):vz count K≤count:=by
 rcases jh count with rfl | h0
 ·
  rw[qm1 hK];omega
 ·
  unfold vz
  rw[Nat.div_le_iff_le_mul_add_pred (by omega)]
  have:count≤K*count:=Nat.le_mul_of_pos_left _ (by omega)
  omega
theorem openB_good{bs:List UInt8}{count K:Nat}(hK:1≤K):∀ {ns:List Nat} {i k k2:Nat} {l l2:List (List UInt8)},k≤bs.length→l.length=i*K→(∀q,q<i+ns.length→q*K<count)→qe9 bs count K ns i l k 0=(l2,k2,0)→
  (qcg l=true→qcg l2=true)∧(ns=[]→l2=l)∧(ns≠[]→l2.length=min count ((i+ns.length)*K))∧xw K l2 l2.length=xw K l l.length++ns∧qbq K l2 l2.length++bs.drop k2=qbq K l l.length++bs.drop k∧k≤k2∧k2≤bs.length
 | [],i,k,k2,l,l2,hk,hl,hq,h=>by
  simp only[qe9,Prod.mk.injEq,and_true] at h
  obtain⟨rfl,rfl⟩:=h
  exact⟨id,fun _=>rfl,fun h=>absurd rfl h,by simp,rfl,qc _,hk⟩
 | z :: ns,i,k,k2,l,l2,hk,hl,hq,h=>by
  have hi:=hq i (by simp)
  rw[qe9] at h
  obtain⟨n,hn⟩:∃n,min K (count-i*K)=n+1:=⟨min K (count-i*K)-1,by omega⟩
  rw[hn] at h
  obtain⟨R,hR⟩:∃R,qez bs l k 0 (n+1) z=R:=⟨_,rfl⟩
  rw[hR] at h
  obtain⟨l1,k1,e1⟩:=R
  simp only at h
  by_cases he:e1=0
  ·
   subst he
   obtain⟨t,t1,t2,t3,t4,t5,t6,t7⟩:=takeT_good hk hR
   have hl1:l1.length=i*K+(n+1):=by rw[t2,qd,hl,t1]
   have hnK:n<K:=by omega
   have hd:(l1.drop (i*K)).take (n+1)=t:=by
    rw[t2,←hl,jn,qp (by omega)]
   have hS:xw K l1 l1.length=xw K l l.length++[z]:=by
    rw[hl1,qlm hnK (by omega),hd,t5,hl,t2,sizes_app (by omega)]
   have hE:qbq K l1 l1.length++bs.drop k1=qbq K l l.length++bs.drop k:=by
    rw[hl1,qk3 (by omega) (by omega),hd,hl,t2,ents_app (by omega),t4,qm]
   cases ns with
   | nil =>
    simp only[qe9,Prod.mk.injEq,and_true] at h
    obtain⟨rfl,rfl⟩:=h
    refine⟨t3,fun h=>(by cases h),fun _ => ?_,hS,hE,by omega,t7⟩
    rw[hl1,zx,Nat.add_mul,qa5]
    omega
   | cons y ns =>
    have hi2:=hq (i+1) (by simp)
    rw[Nat.add_mul,qa5] at hi2
    have hl2:l1.length=(i+1)*K:=by rw[hl1,Nat.add_mul,qa5];omega
    obtain⟨i1,i2,i3,i4,i5,i6,i7⟩:=openB_good hK (ns:=y :: ns) t7 hl2 (fun q hq2=>hq q (by simp only[qo] at hq2 ⊢;omega)) h
    refine⟨fun hg=>i1 (t3 hg),fun h=>(by cases h),fun _ => ?_,?_,by rw[i5,hE],by omega,i7⟩
    ·
     rw[i3 (by simp)]
     have e:i+1+(y :: ns).length=i+(z :: y :: ns).length:=by simp;omega
     rw[e]
    ·
     rw[i4,hS]
     simp
  ·
   rw[qi0 _ _ _ _ _ _ _ he] at h
   simp only[Prod.mk.injEq] at h
   exact absurd h.2.2 he
def qhq(K:Nat)(L:List (List UInt8))(i m:Nat):List (List (List UInt8)):=(List.range' i m).map fun q=>(L.drop (q*K)).take K
theorem ql6(K:Nat)(L:List (List UInt8))(i m:Nat):qhq K L i (m+1)=(L.drop (i*K)).take K :: qhq K L (i+1) m:=rfl
theorem blks_concat(K:Nat)(L:List (List UInt8))(m:Nat):qhq K L 0 (m+1)=qhq K L 0 m++[(L.drop (m*K)).take K]:=by
 unfold qhq
 rw[List.range'_concat]
 simp
theorem blks_all{K:Nat}(hK:1≤K){L:List (List UInt8)}:∀ {m:Nat},(∀q,q<m→q*K<L.length)→xw K L (min (m*K) L.length)=(qhq K L 0 m).map (fun b=>(kb b).length)∧qbq K L (min (m*K) L.length)=((qhq K L 0 m).map kb).flatten
 | 0,_=>by simp[qhq,xw,ents_zero]
 | m+1,h=>by
  have hm:=h m (by omega)
  obtain⟨h1,h2⟩:=blks_all hK (m:=m) fun q hq=>h q (by omega)
  rw[vr (by omega)] at h1 h2
  obtain⟨j,hj⟩:∃j,min K (L.length-m*K)=j+1:=⟨min K (L.length-m*K)-1,by omega⟩
  have e:min ((m+1)*K) L.length=m*K+(j+1):=by rw[Nat.add_mul,qa5];omega
  have ht:(L.drop (m*K)).take (j+1)=(L.drop (m*K)).take K:=by
   rw[←hj,List.take_eq_take_iff]
   simp
  rw[e,qlm (by omega) (by omega),qk3 (by omega) (by omega),h1,h2,ht,blks_concat]
  simp
theorem qmp{bs rest:List UInt8}{K:Nat}(hK:1≤K){L:List (List UInt8)}(hg:qcg L=true):∀ {m i k:Nat},k≤bs.length→(∀q,q<i+m→q*K<L.length)→L.length≤(i+m)*K→bs.drop k=((qhq K L i m).map kb).flatten++rest→
  qe9 bs L.length K ((qhq K L i m).map fun b=>(kb b).length) i (L.take (i*K)) k 0=(L,k+((qhq K L i m).map kb).flatten.length,0)
 | 0,i,k,hk,hq,hL,h=>by
  rw[y7] at hL
  simp[qhq,qe9,qp hL]
 | m+1,i,k,hk,hq,hL,h=>by
  have hi:=hq i (by omega)
  obtain⟨b,hb⟩:∃b,(L.drop (i*K)).take K=b:=⟨_,rfl⟩
  have hbl:b.length=min K (L.length-i*K):=by rw[←hb,qy,qv]
  have htk:L.take (i*K)++b=L.take ((i+1)*K):=by rw[←hb,Nat.add_mul,qa5,List.take_add]
  have hgb:qcg (L.take (i*K)++b)=true:=by
   rw[htk]
   exact qil (t:=L.drop ((i+1)*K)) (by rw[zw];exact hg)
  rw[ql6,hb,y8,ke,qm] at h
  rw[ql6,hb,y8,y8,ke,qe9,←hbl]
  cases b with
  | nil=>simp at hbl;omega
  | cons s t =>
   have hT:=takeT_there (l:=L.take (i*K)) hk hgb h
   rw[qo]
   simp only[hT]
   rw[htk]
   have hlen:bs.length-k=(kb (s :: t)).length+(((qhq K L (i+1) m).map kb).flatten++rest).length:=by rw[←qv,h,qd]
   rw[qmp hK hg (m:=m) (i:=i+1) (by omega) (fun q h2=>hq q (by omega)) (by rw[show i+1+m=i+(m+1) by omega];exact hL) (by rw[←zu,h,jn])]
   rw[qd,qaz]
theorem qiy{K:Nat}{l:List (List UInt8)}(h:qjf l=true):May (jf (xw K l l.length))∧(xw K l l.length).length≤4096:=by
 obtain⟨h1,h2,h3⟩:=qc1.1 h
 refine⟨fun z hz => ?_,by have:=qll K l l.length;omega⟩
 obtain⟨x,hx,rfl⟩:=za.1 hz
 have h4:=sizes_le K l l.length x hx
 have h5:=qk0 K h2 l.length
 omega
theorem qkr{K:Nat}{l:List (List UInt8)}(hK:1≤K):xw K l l.length=(qhq K l 0 (vz l.length K)).map (fun b=>(kb b).length)∧qbq K l l.length=((qhq K l 0 (vz l.length K)).map kb).flatten:=by
 have h:=blks_all hK (L:=l) (m:=vz l.length K) fun q hq=>qg7 hK hq
 rw[Nat.min_eq_right (qi9 hK)] at h
 exact h
theorem openR_good{bs:List UInt8}{k k2:Nat}{l:List (List UInt8)}(hk:k≤bs.length)(h:qaw bs k 0=(l,k2,0)) :
  ∃K,1≤K∧K≤64∧qjf l=true∧bs.drop k=k9 K l++bs.drop k2∧k2=k+(k9 K l).length∧k2≤bs.length:=by
 unfold qaw at h
 obtain⟨C,hC⟩:∃C,z8 bs k 0 4096=C:=⟨_,rfl⟩
 rw[hC] at h
 obtain⟨count,k1,e1⟩:=C
 simp only at h
 obtain⟨D,hD⟩:∃D,z8 bs k1 e1 64=D:=⟨_,rfl⟩
 rw[hD] at h
 obtain⟨K,k3,e3⟩:=D
 simp only at h
 unfold openK at h
 by_cases hKK:1≤K∧K≤64
 ·
  rw[if_pos hKK] at h
  by_cases h0:(qku bs count K k3 e3).2.2=0
  ·
   rw[if_pos h0] at h
   unfold qku at h
   obtain⟨R,hR⟩:∃R,ue bs k3 e3 (vz count K:Int)=R:=⟨_,rfl⟩
   rw[hR] at h
   obtain⟨ns,k4,e4⟩:=R
   simp only at h
   by_cases hn:ns.length=vz count K
   ·
    rw[if_pos hn] at h
    by_cases he4:e4=0
    ·
     subst he4
     have he3:e3=0:=Decidable.byContradiction fun hne=>by
      rw[qid _ _ _ hne] at hR
      simp only[Prod.mk.injEq] at hR
      exact hne hR.2.2
     subst he3
     have he1:e1=0:=Decidable.byContradiction fun hne=>by
      rw[qf3 _ _ _ hne] at hD
      simp only[Prod.mk.injEq] at hD
      exact hne hD.2.2
     subst he1
     obtain⟨a1,a2,a3,a4,a5⟩:=qab hk hC
     obtain⟨b1,b2,b3,b4,b5⟩:=qab a5 hD
     have hbl:=ql5 (count:=count) (K:=K) hKK.1
     obtain⟨c1,c2,c3,c4,c5⟩:=qgx b5 (by omega) hR
     obtain⟨o1,o2,o3,o4,o5,o6,o7⟩:=openB_good hKK.1 c5 (by simp) (fun q hq=>qg7 hKK.1 (by rw[←hn];omega)) h
     have hcl:l.length=count:=by
      rcases jh count with hz | hz
      ·
       subst hz
       rw[qm1 hKK.1] at hn
       rw[o2 (ze hn)]
       rfl
      ·
       have hg:=qi9 (count:=count) hKK.1
       have hne:ns≠[]:=fun e=>by
        rw[e] at hn
        rw[←hn] at hg
        simp at hg
        omega
       rw[o3 hne,yk,hn]
       omega
     have hd:qjf l=true:=by
      rw[dic_good,o1 rfl,qx (by omega)]
      rfl
     have hs:xw K l l.length=ns:=by rw[o4];rfl
     have hE:bs.drop k4=qbq K l l.length++bs.drop k2:=by rw[o5];rfl
     have hF:bs.drop k=k9 K l++bs.drop k2:=by
      rw[a3,b3,c3,hE,k9,hs,hcl]
      simp
     refine⟨K,hKK.1,hKK.2,hd,hF,?_,o7⟩
     have:=congrArg List.length hF
     rw[qd,qv,qv] at this
     omega
    ·
     rw[qi0 _ _ _ _ _ _ _ he4] at h
     simp only[Prod.mk.injEq] at h
     exact absurd h.2.2 he4
   ·
    rw[if_neg hn,qi0 _ _ _ _ _ _ _ (yp _)] at h
    simp only[Prod.mk.injEq] at h
    exact absurd h.2.2 (yp _)
  ·
   rw[if_neg h0] at h
   simp only[Prod.mk.injEq] at h
   have:=h.2
   rw[this] at h0
   exact absurd rfl h0
 ·
  rw[if_neg hKK] at h
  simp only[Prod.mk.injEq] at h
  exact absurd h.2.2 (yp _)
theorem openR_there{bs rest:List UInt8}{k K:Nat}{l:List (List UInt8)}(hk:k≤bs.length)(hK:1≤K)(hK2:K≤64)(hd:qjf l=true)(h:bs.drop k=k9 K l++rest) :
  qaw bs k 0=(l,k+(k9 K l).length,0):=by
 have hg:qcg l=true:=by rw[dic_good,jq] at hd;exact hd.2
 have hl:l.length≤4096:=(qc1.1 hd).1
 obtain⟨hm,hm2⟩:=qiy (K:=K) hd
 obtain⟨hsb,heb⟩:=qkr (K:=K) (l:=l) hK
 have hlen:=congrArg List.length h
 rw[qv,qd] at hlen
 have hfl:(k9 K l).length=(jc l.length).length+((jc K).length+((jr (jf (xw K l l.length))).length+(qbq K l l.length).length)):=by simp[k9]
 have h1:bs.drop k=jc l.length++(jc K++(jr (jf (xw K l l.length))++(qbq K l l.length++rest))):=by rw[h,k9];simp
 have hC:=vp (m:=4096) h1 (by omega) (by omega)
 obtain⟨k1,hk1⟩:∃k1,k+(jc l.length).length=k1:=⟨_,rfl⟩
 rw[hk1] at hC
 have h2:bs.drop k1=jc K++(jr (jf (xw K l l.length))++(qbq K l l.length++rest)):=by rw[←hk1,←zu,h1,jn]
 have hD:=vp (m:=64) h2 (by omega) (by omega)
 obtain⟨k2,hk2⟩:∃k2,k1+(jc K).length=k2:=⟨_,rfl⟩
 rw[hk2] at hD
 have h3:bs.drop k2=jr (jf (xw K l l.length))++(qbq K l l.length++rest):=by rw[←hk2,←zu,h2,jn]
 have hnl:(xw K l l.length).length=vz l.length K:=by rw[hsb];simp[qhq]
 have hR:=qf0 (jf (xw K l l.length)) hm (vz l.length K) (by omega) h3 (by rw[zq,hnl];exact qc _) (by have:=ql5 (count:=l.length) hK;omega)
 rw[qlr] at hR
 obtain⟨k3,hk3⟩:∃k3,k2+(jr (jf (xw K l l.length))).length=k3:=⟨_,rfl⟩
 rw[hk3] at hR
 have h4:bs.drop k3=qbq K l l.length++rest:=by rw[←hk3,←zu,h3,jn]
 rw[heb] at h4
 have hB:=qmp hK hg (m:=vz l.length K) (i:=0) (k:=k3) (by omega) (fun q hq=>qg7 hK (by omega)) (by rw[yk];exact qi9 hK) h4
 rw[←hsb,←heb,Nat.zero_mul,uh] at hB
 have hM:qku bs l.length K k2 0=(l,k3+(qbq K l l.length).length,0):=by
  unfold qku
  rw[hR]
  simp only[hnl,if_true]
  exact hB
 unfold qaw openK
 simp only[hC,hD,hM,if_true]
 rw[if_pos ⟨hK,hK2⟩]
 simp only[Prod.mk.injEq,and_true,true_and]
 omega
def qg9:List (List UInt8)→Nat
 | []=>0
 | s :: t=>s.length+qg9 t
theorem sumL_take:∀(l:List (List UInt8)) (k:Nat) (hk:k<l.length),qg9 (l.take (k+1))=qg9 (l.take k)+l[k].length
 | s :: t,0,_=>by simp[qg9]
 | s :: t,k+1,hk=>by
  have:=sumL_take t k (by simpa using hk)
  simp only[yy,qg9,List.getElem_cons_succ,this]
  omega
theorem ents_sum{K:Nat}{l:List (List UInt8)}(h:∀s∈l,s.length≤4096):∀ {k:Nat},k≤l.length→(qbq K l k).length≤qg9 (l.take k)+4*k
 | 0,_=>by simp[ents_zero]
 | k+1,hk=>by
  have ih:=ents_sum (K:=K) h (k:=k) (by omega)
  have hp:∀n,n≤4096→(jc n).length≤2:=fun n hn=>qba 1 n (by omega)
  have hs:l[k].length≤4096:=h _ (ql _)
  have he:(qnc K l k).length≤l[k].length+4:=by
   unfold qnc entL
   rw[getD_at (by omega)]
   have h2:=qh5 (l.getD (k-1) []) l[k]
   split
   ·
    rw[vh,qd]
    have:=hp _ hs
    omega
   ·
    rw[vh,qd,qd]
    have h3:=hp (yv (l.getD (k-1) []) l[k]) (by omega)
    have h4:=hp (List.drop (yv (l.getD (k-1) []) l[k]) l[k]).length (by rw[qv];omega)
    have h5:=qv (i:=yv (l.getD (k-1) []) l[k]) (l:=l[k])
    omega
  rw[qfr,qd,sumL_take l k (by omega)]
  omega
theorem qlx{K:Nat}{l:List (List UInt8)}(hK:K≤64)(hd:qjf l=true):(k9 K l).length≤qg9 l+10*l.length+10:=by
 obtain⟨h1,h2,h3⟩:=qc1.1 hd
 obtain⟨hm,hm2⟩:=qiy (K:=K) hd
 have hp:∀n,n≤4096→(jc n).length≤2:=fun n hn=>qba 1 n (by omega)
 have a1:=hp _ h1
 have a2:=hp K (by omega)
 have a3:=ents_sum (K:=K) h2 (qc l.length)
 rw[qp (qc _)] at a3
 have a4:=qll K l l.length
 have a5:=hm.wide_le
 have a6:(jr (jf (xw K l l.length))).length≤2+1+4*l.length:=by
  rw[jr,qd,qd,qbz,ux,zq]
  have b1:=hp _ hm2
  have b2:(xw K l l.length).length*wide (jf (xw K l l.length))≤l.length*32:=ug a4 a5
  simp only[zx]
  omega
 simp only[k9,qd]
 omega
end Go.Proofs.YtjfecojdagmacaaGreat
