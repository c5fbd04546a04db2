/-
  Lemmas.
-/
import Derived.Test.YtnjkipnklpkaoaaGreatA56
namespace Go.Proofs.YtnjkipnklpkaoaaGreat
open Go.RowKit
set_option maxRecDepth 20000
set_option maxHeartbeats 16000000
set_option linter.unusedSimpArgs false
set_option linter.unusedVariables false
theorem sv_drop(l:List ByteArray)(k:Nat):sv (l.drop k)=(sv l).drop k:=by simp[sv,List.map_drop]
theorem cmpL_three(a b:List UInt8):yr a b = -1∨yr a b=0∨yr a b=1:=by
 induction a generalizing b with
 | nil=>cases b <;> simp[yr]
 | cons x a ih =>
  cases b with
  | nil=>simp[yr]
  | cons y b =>
   unfold yr
   split
   ·
    simp
   ·
    split
    ·
     simp
    ·
     exact ih b
theorem IsOrder.right{l t:List (List UInt8)}(h:IsOrder l t):yy t=true:=uy.2 ⟨h.few,fun s hs=>(h.of s hs).2,h.rises⟩
theorem rises_adj:∀ {t:List (List UInt8)} {k:Nat} (h:xd t=true) (hk:k+1<t.length),yr t[k] t[k+1]<0
 | [],k,_,hk=>by simp at hk
 | [_],k,_,hk=>by simp at hk
 | a :: b :: t,0,h,_=>(ux.1 h).1
 | a :: b :: t,k+1,h,hk=>by
  have:=rises_adj (ux.1 h).2 (k:=k) (by simpa using hk)
  exact this
theorem qr2{t:List (List UInt8)}{k:Nat}(hk:k+1<t.length):xd (t.take (k+2))=(xd (t.take (k+1))&&decide (yr t[k] t[k+1]<0)):=by
 rw[qg (i:=k+1) (by omega),qg (i:=k) (by omega),qv]
 exact qns _ _ _
theorem put_take{l:List ByteArray}{k:Nat}(h:k<l.length):((qm l).take (k+1)).flatMap (fun s=>UInt8.ofNat s.length :: s)=(((qm l).take k).flatMap fun s=>UInt8.ofNat s.length :: s)++UInt8.ofNat l[k].size :: l[k].data.toList:=by
 have hk:k<(qm l).length:=by simpa[qm] using h
 rw[qg hk,List.flatMap_append,qen,List.flatMap_nil,jj]
 have he:(qm l)[k]=l[k].data.toList:=by simp[qm]
 rw[he,zy]
 rfl
theorem sright_any{w:World}(l:List ByteArray){lo hi c:Nat}{A:Option Addr}(h:Rd w lo hi A c (sv l))(h1k:∀s∈l,s.size≤9223372036854775807) :
  Calls Tryz.prog 231 #[.slice A l.length c] w fun r w'=>r= .returned (.bool (yy (qm l)))∧∃m,w'=w.drewN m:=by
 have hl:=h.len
 have hm:=h.cap
 rw[yg] at hl
 unfold maxLen at hm
 have H:=qa h
 have H1:Hid (∀k (hk:k<l.length),l[k].size≤9223372036854775807):=fun k hk=>h1k _ (qj hk)
 clear h h1k
 obtain⟨v,hv⟩:∃v,yy (qm l)=v:=⟨_,rfl⟩
 rw[hv]
 have HNO:Hid (∀k (hk:k<l.length) (last:ByteArray),(last=⟨#[]⟩∧k=0∨∃j,∃(hj:j<l.length),k=j+1∧last=l[j])→qoc last.data.toList l[k].data.toList=false→v=false):=fun k hk last hla h=>by
  cases hvv:v with
  | false=>rfl
  | true =>
   rw[hvv] at hv
   have h1:=(uy.1 hv).2.1 _ (qj (l:=qm l) (n:=k) (by rw[qx];exact hk))
   rw[yq l k hk] at h1
   rw[qoc,h1,qbb] at h
   have h:=of_decide_eq_false h
   rcases hla with ⟨rfl,_⟩ | ⟨j,hj,rfl,rfl⟩
   ·
    refine absurd ?_ h
    have:=(qfu.1 h1).1
    cases hx:l[k].data.toList with
    | nil=>rw[hx] at this;simp at this
    | cons=>simp[yr]
   ·
    have:=rises_adj (uy.1 hv).2.2 (k:=j) (by rw[qx];exact hk)
    rw[yq l j (by omega),yq l (j+1) hk] at this
    exact absurd this h
 have HFI:Hid ((∀k (hk:k<l.length),qhw l[k].data.toList=true)→xd ((qm l).take l.length)=true→v=decide (l.length≤255)):=fun h3 h4=>by
  rw[←hv,j5,uy,qx,decide_eq_true_eq]
  refine⟨fun h=>h.1,fun h2=>⟨h2,fun s hs => ?_,?_⟩⟩
  ·
   obtain⟨k,hk,rfl⟩:=zq hs
   rw[qx] at hk
   rw[yq l k hk]
   exact h3 k hk
  ·
   rw[qo (by rw[qx];exact qc _)] at h4
   exact h4
 clear hv
 go_enter Tryz.func231,Tryz.ntmps231
 go_wp2_with fail
 go_loopw [3,8] (fun la i wr=>∃(k m:Nat) (last:ByteArray),k≤l.length∧i= .int .i64 (k:Int)∧la= .string last∧(last=⟨#[]⟩∧k=0∨∃j,∃(hj:j<l.length),k=j+1∧last=l[j])∧(∀j (hj:j<l.length),j<k→qhw l[j].data.toList=true)∧xd ((qm l).take k)=true∧wr=w.drewN m) (fun _ i _=>l.length-(intOf i).toNat)
 case atStart=>exact⟨0,0,⟨#[]⟩,qi _,rfl,rfl,.inl ⟨rfl,rfl⟩,fun j _ h=>absurd h (jp j),rfl,rfl⟩
 case round =>
  obtain⟨k,m,last,hk,rfl,rfl,hla,hok,hri,rfl⟩:=hrel
  have HO:=qa hok
  have HR:=qa hri
  have HLA:=qa hla
  clear hok hri hla
  by_cases hlt:k<l.length
  ·
   have ik:(k:Int)<(l.length:Int):=by omega
   obtain⟨b,off,rfl,_,_,hcell⟩:=H.out.str hlt
   have HFO:=qa (fun w=>qrm (w:=w) last l[k] (H1.out k hlt))
   have HV:=qa (HNO.out k hlt last HLA.out)
   obtain⟨f,hf⟩:∃f,qoc last.data.toList l[k].data.toList=f:=⟨_,rfl⟩
   have HE:Hid (qoc last.data.toList l[k].data.toList=f):=hf
   rw[hf] at HFO HV
   clear hf
   cases f with
   | false =>
    have HVV:=qa (HV.out rfl)
    go_wp2_with fail
    refine(HFO.out _).mono ?_
    rintro r w' ⟨rfl,m2,rfl⟩
    go_wp2_with fail
    go_ret
    exact⟨zf HVV.out.symm,m+m2,rfl⟩
   | true =>
    have HOK:Hid (∀j (hj:j<l.length),j<k+1→qhw l[j].data.toList=true):=fun j hj hjk=>by
     rcases xc j k with h2 | h2
     ·
      exact HO.out j hj h2
     ·
      have:j=k:=by omega
      subst this
      have:=HE.out
      rw[qoc,jl] at this
      exact this.1
    have HRS:Hid (xd ((qm l).take (k+1))=true):=by
     unfold Hid
     rcases HLA.out with ⟨rfl,rfl⟩ | ⟨j,hj,rfl,rfl⟩
     ·
      rw[qg (by rw[qx];omega)]
      rfl
     ·
      rw[qr2 (by rw[qx];omega),yq l j (by omega),yq l (j+1) hlt,HR.out,qbb]
      have:=HE.out
      rw[qoc,jl] at this
      exact this.2
    go_wp2_with fail
    refine(HFO.out _).mono ?_
    rintro r w' ⟨rfl,m2,rfl⟩
    go_wp2_with fail
    go_roundw
    case rel=>exact⟨k+1,m+m2,l[k],by omega,by first | rfl | go_num,rfl,.inr ⟨k,hlt,rfl,rfl⟩,HOK.out,HRS.out,rfl⟩
    case measure=>simp[intOf] <;> omega
  ·
   have ik:¬(k:Int)<(l.length:Int):=by omega
   have hke:k=l.length:=by omega
   have HV:Hid (v=decide (l.length≤255)):=HFI.out (fun j hj=>HO.out j hj (by omega)) (by rw[←hke];exact HR.out)
   go_wp2_with fail
   go_ret
   refine⟨?_,m,rfl⟩
   rw[HV.out]
   first | rfl | (apply zf;rw[decide_eq_decide];omega)
theorem append_string(w:World)(base:Nat)(v:Value)(ys:List UInt8)(s:ByteArray)(hown:w.ownsRow base 5 1 v ys.length (bv ys))
  (hb:ys.length+s.size≤140737488355328) (hbase:base≤w.heap.size) :
  ∃A' c' w',(Builtin.append_ #[26,9] 26 #[v,.string s]).run Tryz.prog w= .ok (.slice A' (ys.length+s.size) c') w'∧
   w'.ownsRow base 5 1 (.slice A' (ys.length+s.size) c') (ys.length+s.size) (bv (ys++s.data.toList))∧w.grownBy w' v.ownBlock:=by
 obtain⟨i0,hi0,hz0,hz1,hz2⟩:=info_parts Tryz.infoU8
 obtain⟨v',w',hrun,h2,h3,_⟩:=Lib.run_append_own_string (P:=Tryz.prog) w base 26 9 26 5 i0 Tryz.underlying26 Tryz.underlying9 hi0 hz0 hz1 hz2 v ys.length (bv ys) hown s (by simp only[maxLen];omega) hb hbase
 obtain⟨A',c',rfl,_⟩:=qd3 w' h2
 exact⟨A',c',w',hrun,by rw[qj3];exact h2,h3⟩
theorem qna{l:List ByteArray}(h:l≠[])(ds:List Int):(jw l ds).length=ds.length:=by rw[jw,if_neg h,q8]
theorem qh6(T:List (List UInt8))(l:List UInt8):0<qc4 T l:=by
 unfold qc4
 split <;> omega
theorem qlj{T:List (List UInt8)}{l:List UInt8}(h:l≠[]):qc4 T l≤l.length:=by
 have hl:0<l.length:=qda.2 h
 unfold qc4
 rcases qd0 T l with h1 | ⟨j,s,_,h2,h3,h4⟩
 ·
  rw[h1,if_pos rfl];exact hl
 ·
  have:=h4.length_le
  rw[h2,if_neg (by show ¬s.length=0;omega)]
  exact this
theorem stepP_ok{T:List (List UInt8)}(hT:∀s∈T,qhw s=true)(l:List UInt8):qc4 T l≤8:=by
 unfold qc4
 rcases qd0 T l with h1 | ⟨j,s,hj,h2,h3,h4⟩
 ·
  rw[h1,if_pos rfl];decide
 ·
  rw[h2,if_neg (by show ¬s.length=0;omega)]
  exact(qfu.1 (hT s (List.mem_of_getElem? hj))).2
theorem qq7(T:List (List UInt8)):∀(f g:Nat) (last l:List UInt8),l.length≤f→l.length≤g→qki T f last l=qki T g last l
 | 0,0,_,_,_,_=>rfl
 | 0,g+1,_,[],_,_=>rfl
 | f+1,0,_,[],_,_=>rfl
 | f+1,g+1,_,[],_,_=>rfl
 | f+1,g+1,last,x :: l,hf,hg=>by
  rw[qt] at hf hg
  have h0:=qh6 T (x :: l)
  unfold qki
  rw[qq7 T f g _ ((x :: l).drop (qc4 T (x :: l))) (by simp;omega) (by simp;omega)]
theorem qnx(T:List (List UInt8))(last:List UInt8):qaf T last []=[]:=rfl
theorem qi1(T:List (List UInt8))(last:List UInt8){l:List UInt8}(h:l≠[]):qaf T last l=l.take (qc4 T l) :: ((if last≠[]∧last.length+qc4 T l≤8 then [last++l.take (qc4 T l)] else []) ++
  qaf T (l.take (qc4 T l)) (l.drop (qc4 T l))):=by
 rcases l with _ | ⟨x,l⟩
 ·
  exact absurd rfl h
 ·
  have h0:=qh6 T (x :: l)
  show qki T (l.length+1) last (x :: l)=_
  unfold qki
  rw[qq7 T l.length ((x :: l).drop (qc4 T (x :: l))).length _ _ (by simp;omega) (qc _)]
  rfl
theorem pieces_len(T:List (List UInt8))(l:List UInt8):∀last,(qaf T last l).length≤2*l.length:=by
 generalize hn:l.length=n
 induction n using Nat.strongRecOn generalizing l with
 | _ n ih =>
  intro last
  by_cases h:l=[]
  ·
   subst h
   simp[qnx]
  ·
   have h0:=qh6 T l
   have h1:=qlj (T:=T) h
   rw[qi1 T last h,qt,qd]
   have:=ih (l.drop (qc4 T l)).length (by simp;omega) (l.drop (qc4 T l)) rfl (l.take (qc4 T l))
   rw[qu] at this
   split
   ·
    simp only[jd];omega
   ·
    simp only[je];omega
theorem pieces_ok{T:List (List UInt8)}(hT:∀s∈T,qhw s=true)(l:List UInt8):∀last x,x∈qaf T last l→x.length≤8:=by
 generalize hn:l.length=n
 induction n using Nat.strongRecOn generalizing l with
 | _ n ih =>
  intro last x hx
  by_cases h:l=[]
  ·
   subst h
   cases hx
  ·
   have h0:=qh6 T l
   have h1:=qlj (T:=T) h
   have h8:=stepP_ok hT l
   rw[qi1 T last h,jc,zt] at hx
   rcases hx with rfl | hx | hx
   ·
    rw[qy];omega
   ·
    split at hx
    ·
     rename_i hc
     rw[zo] at hx
     subst hx
     rw[qd,qy]
     omega
    ·
     cases hx
   ·
    exact ih (l.drop (qc4 T l)).length (by simp;omega) _ rfl _ x hx
theorem bag_ok{T:List (List UInt8)}(hT:∀s∈T,qhw s=true){S:List (List UInt8)}{x:List UInt8}(hx:x∈qfl T S):x.length≤8:=by
 obtain⟨s,_,h⟩:=List.mem_flatMap.1 hx
 exact pieces_ok hT s [] x h
theorem ql2{l:List ByteArray}{q:Nat}(h:q<l.length)(d:ByteArray):l.getD q d=l[q]:=by
 rw[yw,qe h]
 rfl
theorem tabS_is{S:List ByteArray}{o:Co}{t:List (List UInt8)}(h:qa8 (qm (jw S o.draws)) (qb8 o.rounds) t):uc S o=t :=
 (Classical.epsilon_spec (p:=fun t=>qa8 (qm (jw S o.draws)) (qb8 o.rounds) t) ⟨t,h⟩).one h
def qhq(l:List (List UInt8)):List (List UInt8):=(l.filter qhw).mergeSort fun x y=>decide (x≤y)
theorem mem_sortL{l:List (List UInt8)}{s:List UInt8}:s∈qhq l↔s∈l∧qhw s=true:=by
 rw[qhq,List.mem_mergeSort,List.mem_filter]
theorem sortL_rises(l:List (List UInt8)):∀i j,i<j→j<(qhq l).toArray.size→yr (qhq l).toArray[i]! (qhq l).toArray[j]! ≤0:=by
 have h:=List.pairwise_mergeSort (le:=fun x y:List UInt8=>decide (x≤y)) (fun a b c h1 h2=>by
  rw[decide_eq_true_eq,qlz] at *
  exact qjg h1 h2) (fun a b=>by
  rw[Bool.or_eq_true,decide_eq_true_eq,decide_eq_true_eq,qlz,qlz,qdk a b]
  omega) (l.filter qhw)
 intro i j hij hj
 rw[ug] at h
 have hj':j<(qhq l).length:=by simpa using hj
 have:=h i j (by show i<(qhq l).length;omega) hj' hij
 rw[decide_eq_true_eq,qlz] at this
 rw[getElem!_pos _ i (by simpa using Nat.lt_trans hij hj'),getElem!_pos _ j hj]
 exact this
def ordL(l:List (List UInt8)):List (List UInt8):=(Lib.compact (qhq l)).take 255
theorem qq1:∀ {p q:List (List UInt8)},xd (p++q)=true→∀x∈p,∀y∈q,yr x y<0
 | [],_,_,x,hx,_,_=>by cases hx
 | a :: p,q,h,x,hx,y,hy=>by
  rcases jc.1 hx with rfl | hx
  ·
   exact qg1 (t:=p++q) h y (qcg _ hy)
  ·
   exact qq1 (qf0 (a:=a) (t:=p++q) h) x hx y hy
theorem ordL_is(l:List (List UInt8)):IsOrder l (ordL l):=by
 obtain⟨h1,h2,h3⟩:=ql6 (qhq l).toArray (sortL_rises l) (qhq l).length (by simp)
 have hm:∀s,s∈Lib.compact (qhq l)↔s∈l∧qhw s=true:=fun s=>by
  rw[←mem_sortL]
  constructor
  ·
   intro h
   obtain⟨j,hj,rfl⟩:=h2 s h
   rw[getElem!_pos _ j (by simpa using hj)]
   simp
  ·
   intro h
   obtain⟨j,hj,rfl⟩:=zq h
   have:=h3 j hj
   rw[getElem!_pos _ j (by simpa using hj),List.getElem_toArray] at this
   exact this
 refine⟨qnr 255 h1,List.length_take_le _ _,fun x hx=>(hm x).1 (xk hx),fun s hs ho => ?_⟩
 have hin:=(hm s).2 ⟨hs,ho⟩
 rw[←zx 255 (Lib.compact (qhq l))] at hin
 rcases zt.1 hin with h | h
 ·
  exact .inl h
 ·
  refine .inr ⟨?_,fun x hx => ?_⟩
  ·
   have:=List.length_pos_of_mem h
   rw[qu] at this
   show((Lib.compact (qhq l)).take 255).length=255
   rw[qy]
   omega
  ·
   refine qq1 (p:=(Lib.compact (qhq l)).take 255) (q:=(Lib.compact (qhq l)).drop 255) ?_ x hx s h
   rw[zx]
   exact h1
theorem u8_xor_self(x t:UInt8):(x ^^^ t=x)↔t=0:=by
 constructor
 ·
  intro h
  have:=congrArg (x ^^^ ·) h
  simpa[←UInt8.xor_assoc] using this
 ·
  intro h;rw[h];simp
theorem own_lit_nil(w:World)(t:TypeId):(w.alloc (.cells #[] t)).ownsRow w.heap.size t 1 (.slice (some ⟨w.heap.size,0,none⟩) 0 0) 0 []:=by
 have:=vm (e:=t) (size:=1) (base:=w.heap.size) w #[] 0 (qc _) (by simp[maxLen]) (by simp)
 exact this
theorem clone_strs{w:World}(l:List ByteArray){lo h':Nat}{A:Option Addr}{c:Nat}(h:Rd w lo h' A c (sv l))(hh:h'≤w.heap.size)(hb:l.length≤1000000000) :
  Calls Tryz.prog 213 #[.slice A l.length c] w fun r w'=>∃A' c',r= .returned (.slice A' l.length c')∧
   w'.ownsRow w.heap.size 9 1 (.slice A' l.length c') l.length (sv l)∧Below w.heap.size w w':=by
 rcases A with _ | ad
 ·
  obtain rfl:l=[]:=by
   rcases jr (sv l).length with h0 | h0
   ·
    exact zd (by simpa[sv] using h0)
   ·
    obtain⟨_,_,h,_⟩:=h.at_ h0
    cases h
  clear h
  have hnil:=Lib.run_eql_slice_nil (P:=Tryz.prog) w 58 9 none 0 c 0 0 Tryz.underlying58
  go_enter Tryz.func213,Tryz.ntmps213
  go_wp2
  go_ret
  exact⟨_,_,rfl,zh ..,Below.refl _ _⟩
 ·
  obtain⟨A1,c1,w1,hrun,hown,hg1⟩:=qi9 (w.alloc (.cells #[] 9)) w.heap.size (.slice (some ⟨w.heap.size,0,none⟩) 0 0) [] l l (by simp) (own_lit_nil w _) (h.alloc hh _) (by simp;omega) (by simp)
  have HO:=qa hown
  have HG:=qa hg1
  clear h hown hg1
  have hnil:=Lib.run_eql_slice_nil (P:=Tryz.prog) w 58 9 (some ad) l.length c 0 0 Tryz.underlying58
  go_enter Tryz.func213,Tryz.ntmps213
  go_wp2_with (at_builtin;refine wpList_append_run rfl _ _ _ _ rfl rfl rfl hrun ?_)
  go_ret
  exact⟨_,_,rfl,HO.out,((Below.refl _ _).alloc (qc _) _).grown HG.out (by simp) (by simp[Value.ownBlock])⟩
theorem vl(w:World)(base:Nat)(v:Value)(ys zs us:List UInt8)(hus:ys++zs=us)(hown:w.ownsRow base 5 1 v ys.length (bv ys)){lo h':Nat}{A:Option Addr}{c:Nat}(hr:Rd w lo h' A c (bv zs))
  (hb:ys.length+zs.length≤140737488355328) (hbase:base≤w.heap.size) :
  ∃A' c' w',(Builtin.append_ #[26,26] 26 #[v,.slice A zs.length c]).run Tryz.prog w= .ok (.slice A' us.length c') w'∧
   w'.ownsRow base 5 1 (.slice A' us.length c') us.length (bv us)∧w.grownBy w' v.ownBlock∧((Value.slice A' us.length c').ownBlock=v.ownBlock∨(Value.slice A' us.length c').ownBlock=some w.heap.size):=by
 subst hus
 obtain⟨i0,hi0,hz0,hz1,hz2⟩:=info_parts Tryz.infoU8
 have hl:=yh zs
 obtain⟨A',c',w',hrun,h2,h3,h4⟩:=ui (P:=Tryz.prog) w base 26 26 5 i0 _ 1 Tryz.underlying26 hi0 hz0 hz1 hz2 rfl v ys.length (bv ys) hown lo h' A c (bv zs) hr (bv_one _)
  (by rw[hl];simp only[maxLen];omega) (by rw[hl];omega) hbase
 rw[hl] at hrun h2 h4
 rw[qd]
 exact⟨A',c',w',hrun,by rw[qj3];exact h2,h3,h4⟩
theorem tailD(s:ByteArray)(k:Nat):(s.extract k s.size).data.toList=s.data.toList.drop k:=by
 rw[qb1,qep]
 rw[qcf,qo (by rw[qu,qhy];omega)]
theorem qkb(s:ByteArray)(k:Nat):(s.extract k s.size).size=s.size-k:=by rw[yt];omega
theorem qiz{w:World}(s:ByteArray)(hs:s.size≤100000) :
  Calls Tryz.prog 259 #[.string s] w fun r w'=>∃A c,r= .returned (.slice A (vi s.data.toList).length c)∧w'.ownsRow w.heap.size 5 1 (.slice A (vi s.data.toList).length c) (vi s.data.toList).length (bv (vi s.data.toList))∧Below w.heap.size w w':=by
 have h9:=vo s.size (by omega)
 go_enter Tryz.func259,Tryz.ntmps259
 go_wp2_with fail
 refine(qgl s.size (by omega)).mono ?_
 rintro r w1 ⟨A,c,rfl,hown,hbel⟩
 obtain⟨A',c',w2,hrun,hown2,hg2⟩:=append_string w1 w.heap.size _ _ s hown (by omega) hbel.size
 have HO:=qa hown
 have HO2:=qa hown2
 have HG2:=qa hg2
 have HB:=qa hbel
 clear hown hown2 hg2 hbel
 go_wp2_with (at_builtin;refine wpList_append_run rfl _ _ _ _ rfl rfl rfl hrun ?_)
 go_ret
 have e:(vi s.data.toList).length=(jo s.size).length+s.size:=by simp[vi]
 refine⟨A',c',by rw[e];rfl,by rw[e];exact HO2.out,?_⟩
 exact HB.out.grown HG2.out HB.out.size (fun k hk=>(HO.out.lt k hk).1)
theorem bytL2_tk(l:List ByteArray)(k:Nat):qm (l.take k)=(qm l).take k:=by simp[qm,qbx]
theorem qfv{l:List ByteArray}{k:Nat}(hk:k<l.length):(qm l).take (k+1)=(qm l).take k++[l[k].data.toList]:=by
 rw[qg (by rw[qx];exact hk),yq l k hk]
theorem fright_any{w:World}(l:List ByteArray){lo hi c:Nat}{A:Option Addr}(h:Rd w lo hi A c (sv l))(h1k:∀s∈l,s.size≤9223372036854775807) :
  Calls Tryz.prog 234 #[.slice A l.length c] w fun r w'=>r= .returned (.bool (ql5 (qm l)))∧w=w':=by
 have hl:=h.len
 have hm:=h.cap
 rw[yg] at hl
 unfold maxLen at hm
 by_cases h4:4096<l.length
 ·
  have hv:ql5 (qm l)=false:=by
   unfold ql5
   rw[qx,ql (p:=l.length≤4096) (by omega),kw,kw]
  rw[hv]
  have i4:(4096:Int)<(l.length:Int):=by omega
  have d4:decide ((4096:Int)<(l.length:Int))=true:=qp i4
  go_enter Tryz.func234,Tryz.ntmps234
  go_wp2_with fail
  go_ret
  exact⟨rfl,rfl⟩
 ·
  have d4:decide ((4096:Int)<(l.length:Int))=false:=ql (by omega)
  have H:=qa h
  have H1:Hid (∀k (hk:k<l.length),l[k].size≤9223372036854775807):=fun k hk=>h1k _ (qj hk)
  obtain⟨v,hv⟩:∃v,ql5 (qm l)=v:=⟨_,rfl⟩
  rw[hv]
  rw[dic_good,qx,qp (p:=l.length≤4096) (by omega),qbb] at hv
  have HNO:Hid (∀k (hk:k<l.length),qe0 (qm (l.take k)) l[k].data.toList=false→v=false):=fun k hk hf=>by
   cases hvv:v with
   | false=>rfl
   | true =>
    rw[hvv] at hv
    have h2:=ql0 (l:=(qm l).take (k+1)) (t:=(qm l).drop (k+1)) (by rw[zx];exact hv)
    rw[qfv hk,qg2,←bytL2_tk,hf,Bool.and_false] at h2
    cases h2
  have HYES:Hid (∀k (hk:k<l.length),qeg ((qm l).take k)=true→qe0 (qm (l.take k)) l[k].data.toList=true→qeg ((qm l).take (k+1))=true):=fun k hk hg hf=>by
   rw[qfv hk,qg2,←bytL2_tk,hf,bytL2_tk,hg]
   rfl
  have HEND:Hid (qeg ((qm l).take l.length)=true→v=true):=fun hg=>by
   rw[qo (by rw[qx];exact qc _)] at hg
   rw[←hv,hg]
  clear h h1k hv
  go_enter Tryz.func234,Tryz.ntmps234
  go_wp2_with fail
  go_loop [10] (fun i=>∃k:Nat,k≤l.length∧i= .int .i64 (k:Int)∧qeg ((qm l).take k)=true) (fun i=>l.length-(intOf i).toNat)
  case atStart=>exact⟨0,qi _,rfl,rfl⟩
  case round =>
   obtain⟨k,hk,rfl,hg⟩:=hrel
   have HG:=qa hg
   clear hg
   by_cases hlt:k<l.length
   ·
    have ik:(k:Int)<(l.length:Int):=by omega
    have hkc:(k:Int)≤(c:Int):=by omega
    have HFO:=qa (qkm (l.take k) l[k] (n:=k) (by rw[qy];omega) (by rw[sv_take];exact H.out.take_ k) (H1.out k hlt))
    have HN:=qa (HNO.out k hlt)
    have HY:=qa (HYES.out k hlt HG.out)
    obtain⟨b,off,rfl,_,_,hcell⟩:=H.out.str hlt
    generalize l[k]=s at *
    obtain⟨f,hf⟩:∃f,qe0 (qm (l.take k)) s.data.toList=f:=⟨_,rfl⟩
    rw[hf] at HFO HN HY
    clear hf HNO HYES HEND
    cases f with
    | true =>
     have HGG:=qa (HY.out rfl)
     go_wp2_with fail
     refine HFO.out.mono ?_
     rintro r w' ⟨rfl,rfl⟩
     go_wp2_with fail
     go_round
     case rel=>exact⟨k+1,by omega,by go_num,HGG.out⟩
     case measure=>simp[intOf];omega
    | false =>
     have HVV:=qa (HN.out rfl)
     go_wp2_with fail
     refine HFO.out.mono ?_
     rintro r w' ⟨rfl,rfl⟩
     go_wp2_with fail
     go_ret
     exact⟨zf HVV.out.symm,rfl⟩
   ·
    have hke:k=l.length:=by omega
    have ik:¬(k:Int)<(l.length:Int):=by omega
    have HV:Hid (v=true):=HEND.out (by rw[←hke];exact HG.out)
    go_wp2_with fail
    go_ret
    exact⟨zf HV.out.symm,rfl⟩
theorem blk_len{t:List (List UInt8)}(h:∀s∈t,s.length≤4096):(jae t).length≤4200*t.length:=by
 have h1:=qpm (K:=t.length) (i:=0) (l:=t) (j:=t.length) (qc _) (by omega)
 have h2:=ql4 t.length h (0*t.length+t.length)
 rw[h1,qd,Nat.zero_mul,jx,qo (qc _)] at h2
 omega
theorem fcode_one{w:World}(x:ByteArray)(hx:x.size≤4096){c:Nat}{A:Option Addr}(h:Rd w 0 w.heap.size A c (sv [x])) :
  Calls Tryz.prog 236 #[.slice A 1 c] w fun r w'=>∃A' c',r= .returned (.slice A' (vi x.data.toList).length c')∧
   w'.ownsRow w.heap.size 5 1 (.slice A' (vi x.data.toList).length c') (vi x.data.toList).length (bv (vi x.data.toList))∧Below w.heap.size w w':=by
 have hl:1≤c:=h.len
 have hm:=h.cap
 unfold maxLen at hm
 obtain⟨b,off,rfl,_,hbh,hcell0⟩:=h.str (k:=0) (l:=[x]) (by simp)
 rw[xx] at hcell0
 rw[qdp] at hcell0
 clear h
 by_cases hc1:c=1
 ·
  subst hc1
  go_enter Tryz.func236,Tryz.ntmps236
  go_wp2_with fail
  refine(qiz x (by omega)).mono ?_
  rintro r w1 ⟨A1,c1,rfl,hown1,hbel1⟩
  have HO1:=qa hown1
  have HB1:=qa hbel1
  clear hown1 hbel1 hcell0
  go_wp2_with fail
  go_loop [3,14] (fun x3 x14=>x3= .slice A1 (vi x.data.toList).length c1∧x14= .int .i64 0) (fun _ _=>0)
  case atStart=>exact⟨rfl,rfl⟩
  case round =>
   obtain⟨rfl,rfl⟩:=hrel
   go_wp2_with fail
   go_ret
   exact⟨A1,c1,rfl,HO1.out,HB1.out⟩
 ·
  go_enter Tryz.func236,Tryz.ntmps236
  go_wp2_with fail
  refine(qiz x (by omega)).mono ?_
  rintro r w1 ⟨A1,c1,rfl,hown1,hbel1⟩
  have HO1:=qa hown1
  have HB1:=qa hbel1
  clear hown1 hbel1 hcell0
  go_wp2_with fail
  go_loop [3,14] (fun x3 x14=>x3= .slice A1 (vi x.data.toList).length c1∧x14= .int .i64 0) (fun _ _=>0)
  case atStart=>exact⟨rfl,rfl⟩
  case round =>
   obtain⟨rfl,rfl⟩:=hrel
   go_wp2_with fail
   go_ret
   exact⟨A1,c1,rfl,HO1.out,HB1.out⟩
theorem fcode_more{w:World}(l:List ByteArray){m:Nat}(hn:l.length=m+1)(h0m:0<m)(hm4:m+1≤4096){c:Nat}{A:Option Addr}(h:Rd w 0 w.heap.size A c (sv l))(h4:∀s∈l,s.size≤4096) :
  Calls Tryz.prog 236 #[.slice A (m+1) c] w fun r w'=>∃A' c',r= .returned (.slice A' (jae (qm l)).length c')∧
   w'.ownsRow w.heap.size 5 1 (.slice A' (jae (qm l)).length c') (jae (qm l)).length (bv (jae (qm l)))∧Below w.heap.size w w':=by
 have hl:=h.len
 have hm:=h.cap
 rw[yg,hn] at hl
 unfold maxLen at hm
 have hc1:¬c=1:=by omega
 have H:=qa h
 have HN:=qa hn
 have H1:Hid (∀k (hk:k<l.length),l[k].size≤4096):=fun k hk=>h4 _ (qj hk)
 have HBL:Hid (∀k,k≤m+1→(jae ((qm l).take k)).length≤4200*k):=fun k hk=>by
  have:=blk_len (t:=(qm l).take k) fun s hs=>by
   obtain⟨x,hx,rfl⟩:=zn.1 (xk hs)
   rw[qhy]
   exact h4 x hx
  rw[qy,qx] at this
  omega
 have HST:Hid (∀k (hj:k<l.length) (hk:k+1<l.length),jae ((qm l).take (k+2))=jae ((qm l).take (k+1))++(jo (xg l[k].data.toList l[k+1].data.toList)++vi (l[k+1].data.toList.drop (xg l[k].data.toList l[k+1].data.toList)))):=fun k hj hk=>by
  have hne:(qm l).take (k+1)≠[]:=fun e=>by
   have:=congrArg List.length e
   rw[qy,qx,je] at this
   omega
  rw[qfv (k:=k+1) hk,blkL_snoc hne,lastD_take (by rw[qx];omega),yq l k (by omega)]
 have hp0:0<l.length:=by omega
 have HS1:Hid (jae ((qm l).take 1)=vi l[0].data.toList):=by
  unfold Hid
  rw[qfv (k:=0) hp0]
  simp[jae,qd5]
 have HEND:Hid ((qm l).take (m+1)=qm l):=qo (by rw[qx];omega)
 have h0:=H1.out 0 hp0
 obtain⟨b,off,rfl,_,hbh,hcell0⟩:=h.str (k:=0) hp0
 rw[xx] at hcell0
 clear h hn h4
 generalize l[0]=x0 at *
 clear hp0
 go_enter Tryz.func236,Tryz.ntmps236
 go_wp2_with fail
 refine(qiz x0 (by omega)).mono ?_
 rintro r w1 ⟨A1,c1,rfl,hown1,hbel1⟩
 rw[←HS1.out] at hown1 ⊢
 have HO1:=qa hown1
 have HB1:=qa hbel1
 clear hown1 hbel1 hcell0
 go_wp2_with fail
 go_loopw [3,14] (fun x3 x14 wr=>∃(k n:Nat) (A':Option Addr) (c':Nat),k≤m∧x14= .int .i64 (k:Int)∧x3= .slice A' n c'∧n=(jae ((qm l).take (k+1))).length∧
  wr.ownsRow w.heap.size 5 1 (.slice A' n c') n (bv (jae ((qm l).take (k+1))))∧Below w.heap.size w wr) (fun _ i _=>m-(intOf i).toNat)
 case atStart=>exact⟨0,_,A1,c1,qi _,rfl,rfl,rfl,HO1.out,HB1.out⟩
 case round =>
  clear HO1 HB1
  obtain⟨k,n,A',c',hk,rfl,rfl,hnl,hown,hb⟩:=hrel
  have HNL:=qa hnl
  have HO:=qa hown
  have HB:=qa hb
  have hsz:=hb.size
  have hnb:n≤4200*4096:=by have:=HBL.out (k+1) (by omega);omega
  clear hnl hown hb
  by_cases hlt:k<m
  ·
   have ik:(k:Int)<(m:Int):=by omega
   have HN2:=HN.out
   have hk1:k<l.length:=by omega
   have hk2:k+1<l.length:=by omega
   clear HN2
   have hr1:=(H.out.below HB.out (qc _)).str hk1
   have hr2:=(H.out.below HB.out (qc _)).str hk2
   obtain⟨b',off',e1,_,_,hcell1⟩:=hr1
   injection e1 with e1
   injection e1 with e1 e2
   subst e1 e2
   obtain⟨b',off',e1,_,_,hcell2⟩:=hr2
   injection e1 with e1
   injection e1 with e1 e2
   subst e1 e2
   have z1:=H1.out k hk1
   have z2:=H1.out (k+1) hk2
   have HSS:=qa (HST.out k hk1 hk2)
   generalize l[k]=x at *
   generalize l[k+1]=y at *
   have hcell3:wr.cell? ⟨b,off+1+k,none⟩=some (.string y):=by rw[show off+1+k=off+(k+1) by omega];exact hcell2
   have HAL:=qa (fun w=>alike_any (w:=w) x y (by omega) (by omega))
   have hsh:=(qlk x.data.toList y.data.toList).2
   rw[qhy] at hsh
   generalize xg x.data.toList y.data.toList=q at *
   have hte:=tailD y q
   have htz:=qkb y q
   go_wp2_with fail
   refine(HAL.out _).mono ?_
   rintro r w2 ⟨rfl,mq,rfl⟩
   have HO2:=qa (ju (w':=wr.drewN mq) HO.out (fun _ _=>rfl))
   have HB2:Hid (Below w.heap.size w (wr.drewN mq)):=zg HB.out mq
   clear HO HB hcell1 hcell2 hcell3
   go_wp2_with fail
   refine(qgl q (by omega)).mono ?_
   rintro r w3 ⟨A3,c3,rfl,hown3,hb3⟩
   have hp9:=vo q (by omega)
   obtain⟨us,hus⟩:∃us,jae ((qm l).take (k+1))++jo q=us:=⟨_,rfl⟩
   have hul:us.length=n+(jo q).length:=by rw[←hus,qd,←HNL.out]
   have ho3:=js HO2.out hb3 (qc _)
   rw[HNL.out] at ho3
   have hsz3:w.heap.size≤w3.heap.size:=ze hsz hb3.size
   obtain⟨A4,c4,w4,hrun4,hown4,hg4⟩:=j9 w3 w.heap.size _ _ (jo q) us hus ho3 (Rd.of_own hown3) (by rw[←HNL.out];omega) hsz3
   rw[←HNL.out] at hrun4
   have hb4:Below w.heap.size w w4:=(qz HB2.out hb3 hsz).grown hg4 hsz3 (fun g hg=>(zk ho3 hg).1)
   have HO4:=qa hown4
   have HB4:=qa hb4
   have hub:us.length≤4200*4096+9:=by omega
   have HUS:=qa hus
   have hsz4:=hb4.size
   clear hown3 hb3 ho3 hown4 hg4 hb4 HO2 HB2 hul hus
   go_wp2_with (at_builtin;refine wpList_append_run rfl _ _ _ _ rfl rfl rfl hrun4 ?_;refine qaz ?_)
   refine⟨?_⟩
   clear hrun4
   go_wp2_with fail
   refine(qiz (y.extract q y.size) (by omega)).mono ?_
   rintro r w5 ⟨A5,c5,rfl,hown5,hb5⟩
   have htl:(vi (y.extract q y.size).data.toList).length≤4200:=by
    rw[vi,qd,qhy]
    have:=vo (y.extract q y.size).size (by omega)
    omega
   obtain⟨T,hT⟩:∃T,vi (y.extract q y.size).data.toList=T:=⟨_,rfl⟩
   rw[hT] at hown5 htl ⊢
   rw[hte] at hT
   obtain⟨vs,hvs⟩:∃vs,us++T=vs:=⟨_,rfl⟩
   have ho5:=js HO4.out hb5 (qc _)
   have hsz5:w.heap.size≤w5.heap.size:=ze hsz4 hb5.size
   obtain⟨A6,c6,w6,hrun6,hown6,hg6⟩:=j9 w5 w.heap.size _ _ _ vs hvs ho5 (Rd.of_own hown5) (by omega) hsz5
   have hb6:Below w.heap.size w w6:=(qz HB4.out hb5 hsz4).grown hg6 hsz5 (fun g hg=>(zk ho5 hg).1)
   have hfin:jae ((qm l).take (k+1+1))=vs:=by
    rw[←hvs,←hT,←HUS.out,qv]
    exact HSS.out
   have HO6:=qa hown6
   have HB6:=qa hb6
   have HF:=qa hfin
   clear hown5 hb5 ho5 hown6 hg6 hb6 HO4 HB4 hvs htl hfin hte htz hT
   generalize y.extract q y.size=ye at *
   go_wp2_with (at_builtin;refine wpList_append_run rfl _ _ _ _ rfl rfl rfl hrun6 ?_;refine qaz ?_)
   refine⟨?_⟩
   clear hrun6
   go_wp2_with fail
   go_roundw
   case rel=>exact⟨k+1,vs.length,A6,c6,by omega,by go_num,rfl,by rw[HF.out],by rw[HF.out];exact HO6.out,HB6.out⟩
   case measure=>simp[intOf];omega
  ·
   obtain rfl:k=m:=by omega
   have HO2:=HO.out
   have HNL2:=HNL.out
   rw[HEND.out] at HO2 HNL2
   have HO3:=qa HO2
   have HN3:=qa HNL2
   clear HO2 HNL2
   go_wp2_with fail
   go_ret
   exact⟨A',c',by rw[←HN3.out];rfl,by rw[←HN3.out];exact HO3.out,HB.out⟩
theorem fcode_any{w:World}(l:List ByteArray){m:Nat}(hn:l.length=m+1)(hm4:m+1≤4096){c:Nat}{A:Option Addr}(h:Rd w 0 w.heap.size A c (sv l))(h4:∀s∈l,s.size≤4096) :
  Calls Tryz.prog 236 #[.slice A (m+1) c] w fun r w'=>∃A' c',r= .returned (.slice A' (jae (qm l)).length c')∧
   w'.ownsRow w.heap.size 5 1 (.slice A' (jae (qm l)).length c') (jae (qm l)).length (bv (jae (qm l)))∧Below w.heap.size w w':=by
 rcases jr m with rfl | hp
 ·
  match l,hn with
  | [x],_ =>
   have e:jae (qm [x])=vi x.data.toList:=by simp[qm,jae,qd5]
   rw[e]
   exact fcode_one x (h4 x jb) h
 ·
  exact fcode_more l hn hp hm4 h h4
section
open Go.RowKit Go.Shelf
attribute [local go_sem] Oper.semAt_some
def ckF(K n:Nat):Nat→Nat→List (Ck K n)
 | 0,_=>[]
 | f+1,i=>if h:i*K<n then ⟨i,h⟩ :: ckF K n f (i+1) else []
def cks(K n i:Nat):List (Ck K n):=ckF K n (n-i) i
theorem cks_in{K n i:Nat}(hK:1≤K)(h:i*K<n):cks K n i=⟨i,h⟩ :: cks K n (i+1):=by
 have h1:i≤i*K:=Nat.le_mul_of_pos_right _ (by omega)
 unfold cks
 rw[show n-i=(n-(i+1))+1 by omega,ckF,dif_pos h]
theorem ckF_out{K n:Nat}:∀(f i:Nat),¬i*K<n→ckF K n f i=[]
 | 0,_,_=>rfl
 | f+1,i,h=>by rw[ckF,dif_neg h]
theorem cks_out{K n i:Nat}(h:¬i*K<n):cks K n i=[]:=ckF_out _ _ h
theorem ckF_len{K n:Nat}:∀(f i:Nat),(ckF K n f i).length≤f
 | 0,_=>qc _
 | f+1,i=>by
  rw[ckF]
  split
  ·
   rw[qt];have:=ckF_len (K:=K) (n:=n) f (i+1);omega
  ·
   simp
theorem cks_len(K n:Nat):(cks K n 0).length≤n:=ckF_len _ _
theorem cks_map{K:Nat}(hK:1≤K)(L:List (List UInt8)):∀(m i:Nat),(∀q,q<i+m→q*K<L.length)→L.length≤(i+m)*K→(cks K L.length i).map (fun x=>(L.drop (x.i*K)).take K)=qkv K L i m
 | 0,i,_,h=>by
  rw[cks_out (by rw[xx] at h;omega)]
  rfl
 | m+1,i,h,h2=>by
  have hi:=h i (by omega)
  rw[cks_in hK hi,ym,cks_map hK L m (i+1) (fun q hq=>h q (by omega)) (by rw[show i+1+m=i+(m+1) by omega];exact h2),qqt]
theorem cks_all{K:Nat}(hK:1≤K)(L:List (List UInt8)):(cks K L.length 0).map (fun x=>(L.drop (x.i*K)).take K)=qkv K L 0 (jad L.length K) :=
 cks_map hK L _ _ (fun q hq=>qj6 hK (by omega)) (by rw[xa];exact qm7 hK)
def chunkV(Bs Bn:Nat):Array Value:=#[.pointer (some ⟨Bs,0,none⟩),.pointer (some ⟨Bn,0,none⟩)]
def ckN(K n i:Nat):Nat:=min K (n-i*K)
def encCk(b off:Nat){K n:Nat}(x:Ck K n):Array Value:=#[.slice (some ⟨b,off+x.i*K,none⟩) (ckN K n x.i) (ckN K n x.i)]
set_option maxRecDepth 100000 in
set_option maxHeartbeats 4000000 in
theorem chunk1_in(n:Nat)(hn:1≤n)(lp Bs Bn n₀:Nat)(N K:Nat)(hK:1≤K)(hK2:K≤64)(hN:N≤1000000){c b off:Nat}{A:Option Addr}(J Jx:List (Ck K N)→World→Prop)(hc:N≤c)(hc2:c≤9223372036854775807)
  (hA:0<N→A=some ⟨b,off,none⟩) (W:World) (hJ:∀pre W0 m,J pre W0→J pre (W0.drewN m))
  (hY:∀pre x W,J pre W→pre.length<N→YieldAt Fence.wide (n-1) Tryz.prog lp (encCk b off x) W fun e W' =>
   (e= .returned (.bool true)∧J (pre++[x]) W'∧Kp2 n₀ Bs Bn W W')∨(e= .returned (.bool false)∧Jx (pre++[x]) W'))
  (hBs:W.cell? ⟨Bs,0,none⟩=some (.slice A N c)) (hBn:W.cell? ⟨Bn,0,none⟩=some (.int .i64 (K:Int))) (h0:J [] W) :
  CallsIn Fence.wide n Tryz.prog 258 #[.func (.yield lp) #[] #[],.pointer (some ⟨Bs,0,none⟩),.pointer (some ⟨Bn,0,none⟩)] W fun e W'=>(∃v,e= .returned v)∧
   ((∃ys,ys=cks K N 0∧J ys W')∨(∃pre,pre <+: cks K N 0∧Jx pre W')):=by
 have hro:Fence.wide.round=none:=rfl
 have HY:=qa hY
 have HJ:=qa hJ
 obtain⟨all,hall⟩:∃all,cks K N 0=all:=⟨_,rfl⟩
 have HLEN:Hid (all.length≤N):=by unfold Hid;rw[←hall];exact cks_len K N
 rw[hall]
 have HALL:=qa hall
 clear hY hJ hall
 refine callsIn_of_wp Tryz.func258 rfl trivial ?_ hro
 simp only[Tryz.ntmps258,qby,qt,je,Nat.reduceAdd,Nat.reduceSub,qer,qeq,List.push_toArray,qfm,yk,z6]
 gi_wp2
 gi_loopw [4] (fun x4 wr=>∃(i p:Nat) (pre:List (Ck K N)),p=i*K∧x4= .int .i64 (p:Int)∧p<N+64∧pre++cks K N i=all∧J pre wr∧Kp2 n₀ Bs Bn W wr) (fun x4 _=>N+64-(intOf x4).toNat)
 case atStart=>exact⟨0,0,[],by rw[Nat.zero_mul],rfl,by omega,HALL.out,h0,Kp2.refl _ _ _ _⟩
 case round =>
  obtain⟨i,p,pre,hp,rfl,hpN,hpre,hJs,hkp⟩:=hrel
  have HPRE:=qa hpre
  have HKP:=qa hkp
  have HP:=qa hp
  have hcs:wr.cell? ⟨Bs,0,none⟩=some (.slice A N c):=hkp.cellb.trans hBs
  have hcn:wr.cell? ⟨Bn,0,none⟩=some (.int .i64 (K:Int)):=hkp.cellt.trans hBn
  clear hpre hkp hp
  by_cases hlt:p<N
  ·
   have ip:(p:Int)<(N:Int):=by omega
   have hAA:=hA (by omega)
   have hiK:i*K<N:=by rw[←HP.out];exact hlt
   have hpc:=HPRE.out
   rw[cks_in hK hiK] at hpc
   have hpl:pre.length<N:=by
    have:=HLEN.out
    rw[←hpc,qd,qt] at this
    omega
   obtain⟨e,he⟩:∃e,min K (N-p)=e:=⟨_,rfl⟩
   have hck:ckN K N i=e:=by rw[ckN,←HP.out,he]
   have he1:e≤K:=by omega
   have he2:p+e≤N:=by omega
   have hmin:min (K:Int) ((N-p:Nat):Int)=(e:Int):=by omega
   have hmin2:min (K:Int) ((N:Int)-(p:Int))=(e:Int):=by omega
   have hYY:=fun W1 hJ1=>HY.out pre ⟨i,hiK⟩ W1 hJ1 hpl
   unfold encCk at hYY
   dsimp only at hYY
   rw[hck,←HP.out] at hYY
   have HYY:=qa hYY
   have HPC:=qa hpc
   have hpn:Hid ((i+1)*K=p+K):=by unfold Hid;rw[qel,qca,HP.out]
   have hcp:¬c-p=0:=by omega
   have hcp2:¬c≤p:=by omega
   have hcp3:¬c=p:=by omega
   have hw1:IntKind.i64.wrap ((p:Int)+(e:Int))=((p+e:Nat):Int):=(z8 _ (by omega)).trans (by omega)
   have hw2:IntKind.i64.wrap ((p:Int)+(K:Int))=((p+K:Nat):Int):=(z8 _ (by omega)).trans (by omega)
   clear hpc hYY hck he HY
   subst hAA
   gi_wp2
   refine wpIn_wide.2 ?_
   go_quiet (fail)
   obtain⟨fn,tmps,assign,body,hy,hR⟩:=HYY.out (wr.drewN nq) (HJ.out _ _ _ hJs)
   gi_wp2
   refine hR.mono ?_
   rintro e3 W3 (⟨rfl,hJ3,hk3⟩ | ⟨rfl,hJx3⟩)
   ·
    have hcn3:W3.cell? ⟨Bn,0,none⟩=some (.int .i64 (K:Int)):=hk3.cellt.trans hcn
    gi_wp2
    go_roundw
    case rel=>exact⟨i+1,p+K,pre++[⟨i,hiK⟩],hpn.out.symm,by go_num,by omega,by rw[qv,xy];exact HPC.out,hJ3,(HKP.out.trans ⟨zg (Below.refl _ _) nq,rfl,rfl⟩).trans hk3⟩
    case measure=>simp[intOf];omega
   ·
    gi_wp2
    refine bodyPost_ret (results_none rfl _ _ _) rfl ?_
    exact⟨⟨_,rfl⟩,.inr ⟨_,⟨cks K N (i+1),by rw[qv,xy];exact HPC.out⟩,hJx3⟩⟩
  ·
   have ip:¬(p:Int)<(N:Int):=by omega
   have hpc:=HPRE.out
   rw[cks_out (by rw[←HP.out];exact hlt),jj] at hpc
   gi_wp2
   go_end0
   exact⟨⟨_,rfl⟩,.inl (hpc ▸ hJs)⟩
set_option maxRecDepth 100000 in
set_option maxHeartbeats 1000000 in
theorem chunk_in(n:Nat)(A:Option Addr)(k c K:Nat)(hK:1≤K)(w:World) :
  CallsIn Fence.wide n Tryz.prog 235 #[.slice A k c,.int .i64 (K:Int)] w fun e w'=>e= .returned (.func (.func 258) #[] (chunkV w.heap.size (w.heap.size+1)))∧w'=(w.alloc (.cells #[.slice A k c] 58)).alloc (.cells #[.int .i64 (K:Int)] 3):=by
 refine callsIn_of_wp Tryz.func235 rfl trivial ?_ rfl
 simp only[Tryz.ntmps235,qby,qt,je,Nat.reduceAdd,Nat.reduceSub,qer,qeq,List.push_toArray,qfm,yk,z6]
 have i1:¬(K:Int)<1:=by omega
 gi_wp2
 go_ret
 exact⟨rfl,rfl⟩
theorem chunk_stops(n:Nat)(hn:1≤n)(Bs Bn n₀:Nat)(N K:Nat)(hK:1≤K)(hK2:K≤64)(hN:N≤1000000){c b off:Nat}{A:Option Addr}(hc:N≤c)(hc2:c≤9223372036854775807)
  (hA:0<N→A=some ⟨b,off,none⟩) (w:World) (hBs:Boxed w Bs 58 (.slice A N c)) (hBn:Boxed w Bn 3 (.int .i64 (K:Int))) :
  SeqStopsK Fence.wide n Tryz.prog 258 (chunkV Bs Bn) (encCk (K:=K) (n:=N) b off) (Kp2 n₀ Bs Bn) (fun ys=>ys=cks K N 0) (fun pre=>pre <+: cks K N 0) N w:=fun lp J Jx W hW hJ _ hY h0 =>
 chunk1_in n hn lp Bs Bn n₀ N K hK hK2 hN J Jx hc hc2 hA W (fun pre W0 m h=>hJ pre W0 _ none h (qb5 (vc _ _) m) (fun r e=>by cases e)) hY ((hW.cell (p:=⟨Bs,0,none⟩) hBs.lt).trans hBs.cell) ((hW.cell (p:=⟨Bn,0,none⟩) hBn.lt).trans hBn.cell) h0
end
end Go.Proofs.YtnjkipnklpkaoaaGreat
