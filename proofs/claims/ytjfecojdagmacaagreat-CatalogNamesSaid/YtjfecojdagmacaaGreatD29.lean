/-
  Lemmas.
-/
import Derived.Test.YtjfecojdagmacaaGreatD28
namespace Go.Proofs.YtjfecojdagmacaaGreat
open Go.RowKit
set_option maxRecDepth 20000
set_option maxHeartbeats 16000000
set_option linter.unusedSimpArgs false
set_option linter.unusedVariables false
theorem enc_nil(T:List (List UInt8)):kn T []=[]:=rfl
theorem enc_ind{T:List (List UInt8)}{P:List UInt8→Prop}(h0:P [])(h1:∀x l,qdu T (x :: l)=(-1,0)→P l→P (x :: l))(h2:∀(j:Nat) (s l:List UInt8),T[j]? = some s→qdu T (s++l)=((j:Int),s.length)→0<s.length→P l→P (s++l)):∀l,P l:=by
 intro l
 generalize hn:l.length=n
 induction n using Nat.strongRecOn generalizing l with
 | _ n ih =>
  rcases l with _ | ⟨x,l⟩
  ·
   exact h0
  ·
   rw[qw] at hn
   rcases qdy T (x :: l) with h | ⟨j,s,hj,h3,h4,r,h5⟩
   ·
    exact h1 x l h (ih l.length (by omega) l rfl)
   ·
    rw[←h5] at h3 ⊢
    have hl:s.length+r.length=l.length+1:=by rw[←qd,h5,qw]
    exact h2 j s r hj h3 h4 (ih r.length (by omega) r rfl)
theorem enc_sym{T:List (List UInt8)}{j:Nat}{s l:List UInt8}(h:qdu T (s++l)=((j:Int),s.length))(h0:0<s.length):kn T (s++l)=UInt8.ofNat j :: kn T l:=by
 rw[enc_code h h0,ym]
theorem ql7(T:List (List UInt8))(l:List UInt8):(kn T l).length≤2*l.length:=by
 refine enc_ind (T:=T) (P:=fun l=>(kn T l).length≤2*l.length) (by simp[enc_nil]) (fun x l h ih => ?_) (fun j s l _ h h0 ih => ?_) l
 ·
  simp only[enc_esc h,qw];omega
 ·
  simp only[enc_sym h h0,qw,qd];omega
theorem ofNat_code{T:List (List UInt8)}(hT:T.length≤255){j:Nat}{s:List UInt8}(h:T[j]? = some s):UInt8.ofNat j≠255∧(UInt8.ofNat j).toNat=j:=by
 have hj:j<T.length:=(zw.1 h).1
 have h1:(UInt8.ofNat j).toNat=j:=by simp;omega
 refine⟨fun e => ?_,h1⟩
 rw[e] at h1
 have:(255:UInt8).toNat=255:=rfl
 omega
theorem dec_enc{T:List (List UInt8)}(hT:T.length≤255)(l:List UInt8):∃k,∀(most:Int) (r o:List UInt8) (n:Nat),((o.length+l.length:Nat):Int)≤most→qey T most (kn T l++r) o n=qey T most r (o++l) (n+k):=by
 refine enc_ind (T:=T) (P:=fun l=>∃k,∀(most:Int) (r o:List UInt8) (n:Nat),((o.length+l.length:Nat):Int)≤most→qey T most (kn T l++r) o n=qey T most r (o++l) (n+k)) ?_ (fun x l h ih => ?_) (fun j s l hj h h0 ih => ?_) l
 ·
  exact⟨0,fun most r o n _=>by rw[enc_nil,yu,jb,xj]⟩
 ·
  obtain⟨k,hk⟩:=ih
  refine⟨k+1,fun most r o n hm => ?_⟩
  rw[qw] at hm
  rw[enc_esc h,jd,jd,dec_lit,if_neg (by rw[qd,qw,j4];omega),hk _ _ _ _ (by rw[qd,qw,j4];omega),qp,va,show n+1+k=n+(k+1) by omega]
 ·
  obtain⟨k,hk⟩:=ih
  refine⟨k+1,fun most r o n hm => ?_⟩
  rw[qd] at hm
  obtain⟨h1,h2⟩:=ofNat_code hT hj
  rw[enc_sym h h0,jd,dec_sym _ _ _ h1 (by rw[h2];exact hj),if_neg (by rw[qd];omega),hk _ _ _ _ (by rw[qd];omega),qp,show n+1+k=n+(k+1) by omega]
theorem qmi{l:List ByteArray}(h:l≠[])(ds:List Int):(jx l ds).length=ds.length:=by rw[jx,if_neg h,q8]
theorem tmod_neg(e n:Nat):(-(e:Int)).tmod (n:Int) = -((e%n:Nat):Int):=by rw[Int.neg_tmod];rfl
theorem Cnt.old{P ns:List (List UInt8)}{cs:List Nat}(h:Cnt P ns cs){i:Nat}(hi:i<ns.length)(hc:i<cs.length):Cnt (P++[ns[i]]) ns (cs.set i (cs[i]+1)):=by
 refine⟨by rw[jn];exact h.len,h.once,fun j hj => ?_,fun x => ?_⟩
 ·
  rw[List.getElem_set,List.count_append,List.count_singleton]
  by_cases hij:i=j
  ·
   subst hij
   rw[if_pos rfl,h.cnt i hi]
   simp
  ·
   rw[if_neg hij,h.cnt j hj]
   have:ns[i]≠ns[j]:=fun e=>hij ((List.getElem_inj h.once).1 e)
   simp[this]
 ·
  rw[zm,h.mem,ze]
  refine⟨Or.inl,fun hx => ?_⟩
  rcases hx with hx | rfl
  ·
   exact hx
  ·
   exact(h.mem _).1 (ql hi)
theorem qhu(T:List (List UInt8))(l:List UInt8):0<qdb T l:=by
 unfold qdb
 split <;> omega
theorem qks{T:List (List UInt8)}{l:List UInt8}(h:l≠[]):qdb T l≤l.length:=by
 have hl:0<l.length:=List.length_pos_iff.2 h
 unfold qdb
 rcases qdy T l with h1 | ⟨j,s,_,h2,h3,h4⟩
 ·
  rw[h1,if_pos rfl];exact hl
 ·
  have:=h4.length_le
  rw[h2,if_neg (by show ¬s.length=0;omega)]
  exact this
theorem stepP_ok{T:List (List UInt8)}(hT:∀s∈T,qhm s=true)(l:List UInt8):qdb T l≤8:=by
 unfold qdb
 rcases qdy T l with h1 | ⟨j,s,hj,h2,h3,h4⟩
 ·
  rw[h1,if_pos rfl];decide
 ·
  rw[h2,if_neg (by show ¬s.length=0;omega)]
  exact(qfo.1 (hT s (List.mem_of_getElem? hj))).2
theorem qpp(T:List (List UInt8)):∀(f g:Nat) (last l:List UInt8),l.length≤f→l.length≤g→qj0 T f last l=qj0 T g last l
 | 0,0,_,_,_,_=>rfl
 | 0,g+1,_,[],_,_=>rfl
 | f+1,0,_,[],_,_=>rfl
 | f+1,g+1,_,[],_,_=>rfl
 | f+1,g+1,last,x :: l,hf,hg=>by
  rw[qw] at hf hg
  have h0:=qhu T (x :: l)
  unfold qj0
  rw[qpp T f g _ ((x :: l).drop (qdb T (x :: l))) (by simp;omega) (by simp;omega)]
theorem qm7(T:List (List UInt8))(last:List UInt8):qal T last []=[]:=rfl
theorem qio(T:List (List UInt8))(last:List UInt8){l:List UInt8}(h:l≠[]):qal T last l=l.take (qdb T l) :: ((if last≠[]∧last.length+qdb T l≤8 then [last++l.take (qdb T l)] else []) ++
  qal T (l.take (qdb T l)) (l.drop (qdb T l))):=by
 rcases l with _ | ⟨x,l⟩
 ·
  exact absurd rfl h
 ·
  have h0:=qhu T (x :: l)
  show qj0 T (l.length+1) last (x :: l)=_
  unfold qj0
  rw[qpp T l.length ((x :: l).drop (qdb T (x :: l))).length _ _ (by simp;omega) (qc _)]
  rfl
theorem pieces_len(T:List (List UInt8))(l:List UInt8):∀last,(qal T last l).length≤2*l.length:=by
 generalize hn:l.length=n
 induction n using Nat.strongRecOn generalizing l with
 | _ n ih =>
  intro last
  by_cases h:l=[]
  ·
   subst h
   simp[qm7]
  ·
   have h0:=qhu T l
   have h1:=qks (T:=T) h
   rw[qio T last h,qw,qd]
   have:=ih (l.drop (qdb T l)).length (by simp;omega) (l.drop (qdb T l)) rfl (l.take (qdb T l))
   rw[qy] at this
   split
   ·
    simp only[zy];omega
   ·
    simp only[j4];omega
theorem beats_trans{P:List (List UInt8)}{x y z:List UInt8}(h:qgm P x y)(k:qgm P y z):qgm P x z:=by
 rcases h with h | ⟨h,h2⟩
 ·
  rcases k with k | ⟨k,_⟩
  ·
   exact Or.inl (by omega)
  ·
   exact Or.inl (by omega)
 ·
  rcases k with k | ⟨k,k2⟩
  ·
   exact Or.inl (by omega)
  ·
   exact Or.inr ⟨by omega,um h2 k2⟩
theorem bag_len(T:List (List UInt8)):∀S:List (List UInt8),(qfc T S).length≤2*(S.map List.length).sum
 | []=>qi _
 | s :: S=>by
  have h1:=pieces_len T s []
  have h2:=bag_len T S
  show((qal T [] s)++qfc T S).length≤_
  rw[qd,yc,List.sum_cons]
  omega
theorem bag_drop{T S:List (List UInt8)}{k:Nat}(h:k<S.length):qfc T (S.drop k)=qal T [] S[k]++qfc T (S.drop (k+1)):=by
 rw[jc h]
 rfl
theorem pieces_ok{T:List (List UInt8)}(hT:∀s∈T,qhm s=true)(l:List UInt8):∀last x,x∈qal T last l→x.length≤8:=by
 generalize hn:l.length=n
 induction n using Nat.strongRecOn generalizing l with
 | _ n ih =>
  intro last x hx
  by_cases h:l=[]
  ·
   subst h
   cases hx
  ·
   have h0:=qhu T l
   have h1:=qks (T:=T) h
   have h8:=stepP_ok hT l
   rw[qio T last h,z7,zm] at hx
   rcases hx with rfl | hx | hx
   ·
    rw[qz];omega
   ·
    split at hx
    ·
     rename_i hc
     rw[ze] at hx
     subst hx
     rw[qd,qz]
     omega
    ·
     cases hx
   ·
    exact ih (l.drop (qdb T l)).length (by simp;omega) _ rfl _ x hx
theorem bag_ok{T:List (List UInt8)}(hT:∀s∈T,qhm s=true){S:List (List UInt8)}{x:List UInt8}(hx:x∈qfc T S):x.length≤8:=by
 obtain⟨s,_,h⟩:=List.mem_flatMap.1 hx
 exact pieces_ok hT s [] x h
theorem Sel.done{P ns:List (List UInt8)}{cs ks:List Nat}(h:Sel P ns ks)(hc:Cnt P ns cs)(hl:ks.length≤255)(hd:ks.length=255∨∀j,j<ns.length→j∈ks){best:List (List UInt8)}(hlen:best.length=ks.length)(hb:∀i (hi:i<ks.length),best[i]'(by omega)=ns[ks[i]]'(h.lt _ (ql hi))):TopOf P best:=by
 have hmem:∀x,x∈best→∃i,∃hi:i<ks.length,x=ns[ks[i]]'(h.lt _ (ql hi)):=fun x hx=>by
  obtain⟨i,hi,rfl⟩:=zc hx
  exact⟨i,by omega,hb i (by omega)⟩
 refine⟨?_,by omega,fun x hx => ?_,fun y hy hn => ?_⟩
 ·
  rw[List.nodup_iff_pairwise_ne,ui]
  intro i j hi hj hij e
  rw[hb i (by omega),hb j (by omega)] at e
  have e2:=(List.getElem_inj hc.once).1 e
  have e3:=(List.getElem_inj h.once).1 e2
  omega
 ·
  obtain⟨i,hi,rfl⟩:=hmem x hx
  exact(hc.mem _).1 (ql _)
 ·
  obtain⟨j,hj,rfl⟩:=zc ((hc.mem y).2 hy)
  have hjk:j∉ks:=fun e=>by
   obtain⟨i,hi,e2⟩:=zc e
   have h2:=hb i hi
   have h3:best[i]'(by omega)∈best:=ql _
   rw[h2] at h3
   simp only[e2] at h3
   exact hn h3
  refine⟨?_,fun x hx => ?_⟩
  ·
   rcases hd with h1 | h1
   ·
    omega
   ·
    exact absurd (h1 j hj) hjk
  ·
   obtain⟨i,hi,rfl⟩:=hmem x hx
   exact h.top _ (ql hi) j hj hjk
def usL(n:Nat)(ks:List Nat):List Bool:=(List.range n).map fun j=>decide (j∈ks)
theorem qju(n:Nat)(ks:List Nat):(usL n ks).length=n:=by simp[usL]
theorem usL_get{n:Nat}(ks:List Nat){i:Nat}(h:i<n):(usL n ks)[i]'(by rw[qju];exact h)=decide (i∈ks):=by simp[usL]
theorem usL_set{n:Nat}(ks:List Nat){k:Nat}(h:k<n):(usL n ks).set k true=usL n (ks++[k]):=by
 apply qco
 ·
  simp[usL]
 ·
  intro i h1 h2
  rw[jn,qju] at h1
  rw[List.getElem_set,usL_get _ h1,usL_get _ h1]
  by_cases hki:k=i
  ·
   subst hki
   simp
  ·
   rw[if_neg hki]
   have:i≠k:=fun e=>hki e.symm
   simp[this]
def qlm(P ns:List (List UInt8))(ks:List Nat)(i:Nat)(kk:Int):Prop :=
 (kk = -1∧∀j,j<ns.length→j<i→j∈ks)∨(∃k:Nat,∃hk:k<ns.length,kk=(k:Int)∧k<i∧k∉ks∧∀j (hj:j<ns.length),j<i→j∉ks→j≠k→qgm P ns[k] ns[j])
section
variable {P ns:List (List UInt8)}{ks:List Nat}{i:Nat}{kk:Int}
theorem lead_used(h:qlm P ns ks i kk)(hi:i∈ks):qlm P ns ks (i+1) kk:=by
 rcases h with ⟨h1,h2⟩ | ⟨k,hk,h1,h2,h3,h4⟩
 ·
  refine Or.inl ⟨h1,fun j hj hji => ?_⟩
  by_cases e:j=i
  ·
   rw[e];exact hi
  ·
   exact h2 j hj (by omega)
 ·
  refine Or.inr ⟨k,hk,h1,by omega,h3,fun j hj hji hn hne=>h4 j hj ?_ hn hne⟩
  have:j≠i:=fun e=>hn (e ▸ hi)
  omega
theorem lead_first(h:∀j,j<ns.length→j<i→j∈ks)(hi:i<ns.length)(hn:i∉ks):qlm P ns ks (i+1) (i:Int) :=
 Or.inr ⟨i,hi,rfl,by omega,hn,fun j hj hji hjn hne=>absurd (h j hj (by omega)) hjn⟩
theorem lead_win{k:Nat}(hk:k<ns.length)(h4:∀j (hj:j<ns.length),j<i→j∉ks→j≠k→qgm P ns[k] ns[j])(hi:i<ns.length)(hn:i∉ks)(hb:qgm P ns[i] ns[k]):qlm P ns ks (i+1) (i:Int):=by
 refine Or.inr ⟨i,hi,rfl,by omega,hn,fun j hj hji hjn hne => ?_⟩
 by_cases e:j=k
 ·
  subst e
  exact hb
 ·
  exact beats_trans hb (h4 j hj (by omega) hjn e)
theorem lead_lose{k:Nat}(hk:k<ns.length)(hki:k<i)(hkn:k∉ks)(h4:∀j (hj:j<ns.length),j<i→j∉ks→j≠k→qgm P ns[k] ns[j])(hi:i<ns.length)(hb:qgm P ns[k] ns[i]):qlm P ns ks (i+1) (k:Int):=by
 refine Or.inr ⟨k,hk,rfl,by omega,hkn,fun j hj hji hjn hne => ?_⟩
 by_cases e:j=i
 ·
  subst e
  exact hb
 ·
  exact h4 j hj (by omega) hjn hne
end
theorem qla{l:List ByteArray}{q:Nat}(h:q<l.length)(d:ByteArray):l.getD q d=l[q]:=by
 rw[yb,qe h]
 rfl
theorem refSample_any{w:World}(l:List ByteArray)(ds:List Int){c d:Nat}{A B:Option Addr}(h:Rd w 0 w.heap.size A c (sv l))(hd:Rd w 0 w.heap.size B d (iv ds))(hln:l.length≤1000000)(hdn:ds.length≤1000000) :
  Calls Tryz.prog 121 #[.slice A l.length c,.slice B ds.length d] w fun r w'=>∃A' c',r= .returned (.slice A' (jx l ds).length c')∧
   w'.ownsRow w.heap.size 9 1 (.slice A' (jx l ds).length c') (jx l ds).length (sv (jx l ds))∧Below w.heap.size w w':=by
 have hl:=h.len
 have hc:=h.cap
 have hl2:=hd.len
 have hc2:=hd.cap
 rw[j7] at hl
 rw[jz] at hl2
 unfold maxLen at hc hc2
 have H:=qa h
 have HD:=qa hd
 clear h hd
 by_cases h0:l=[]
 ·
  have hl0:l.length=0:=by rw[h0];rfl
  have HS:Hid (jx l ds=[]):=if_pos h0
  have i0:¬(0:Int)<(l.length:Int):=by omega
  have d0:decide ((0:Int)<(l.length:Int))=false:=qr i0
  clear h0
  by_cases hd0:0<ds.length
  all_goals
   have:=hd0
   go_enter Tryz.func121,Tryz.ntmps121
   go_wp2_with fail
   go_loopw [5,6] (fun x5 x6 wr=>x5= .slice none 0 0∧x6= .int .i64 0∧wr=w) (fun _ _ _=>0)
   case atStart=>exact⟨rfl,rfl,rfl⟩
   case round =>
    obtain⟨rfl,rfl,rfl⟩:=hrel
    first
     | (have ik:(0:Int)<(ds.length:Int):=(by omega);go_wp2_with fail;go_ret;exact⟨none,0,(by rw[HS.out];rfl),(by rw[HS.out];exact zf _ _ _ _),Below.refl _ _⟩)
     | (have ik:¬(0:Int)<(ds.length:Int):=(by omega);go_wp2_with fail;go_ret;exact⟨none,0,(by rw[HS.out];rfl),(by rw[HS.out];exact zf _ _ _ _),Below.refl _ _⟩)
 ·
  have hln0:l.length≠0:=fun e=>h0 (zh e)
  have i0:(0:Int)<(l.length:Int):=by omega
  have d0:decide ((0:Int)<(l.length:Int))=true:=qx i0
  have HLN:=qa (qmi h0 ds)
  have HGET:Hid (∀k (hk:k<ds.length),(jx l ds)[k]'(by rw[HLN.out];exact hk)=l.getD (ds[k].natAbs%l.length) ⟨#[]⟩):=fun k hk=>by simp[jx,if_neg h0]
  clear h0
  go_enter Tryz.func121,Tryz.ntmps121
  go_wp2_with fail
  go_loopw [5,6] (fun x5 x6 wr=>∃(k:Nat) (A':Option Addr) (c':Nat),k≤ds.length∧x6= .int .i64 (k:Int)∧x5= .slice A' k c'∧wr.ownsRow w.heap.size 9 1 (.slice A' k c') k (sv ((jx l ds).take k))∧Below w.heap.size w wr) (fun _ i _=>ds.length-(intOf i).toNat)
  case atStart=>exact⟨0,none,0,qi _,rfl,rfl,zf _ _ _ _,Below.refl _ _⟩
  case round =>
   obtain⟨k,A',c',hk,rfl,rfl,hown,hb⟩:=hrel
   have HO:=qa hown
   have HB:=qa hb
   have hsz:=hb.size
   clear hown hb
   by_cases hlt:k<ds.length
   ·
    have ik:(k:Int)<(ds.length:Int):=by omega
    obtain⟨b2,off2,rfl,_,hbh2,hcell2⟩:=(HD.out.below HB.out (qc _)).num hlt
    have hql:ds[k].natAbs%l.length<l.length:=qcm _ (by omega)
    obtain⟨b,off,rfl,_,hbh,hcell⟩:=(H.out.below HB.out (qc _)).str hql
    have HTK:Hid ((jx l ds).take (k+1)=(jx l ds).take k++[l[ds[k].natAbs%l.length]]):=by
     unfold Hid
     rw[qj (by rw[HLN.out];exact hlt),HGET.out k hlt,qla hql]
    have hkl:((jx l ds).take k).length=k:=by rw[qz,HLN.out];omega
    have HKL:=qa hkl
    clear hkl
    have hdec:ds[k].tmod (l.length:Int)=((ds[k].natAbs%l.length:Nat):Int)∨(ds[k].tmod (l.length:Int) = -((ds[k].natAbs%l.length:Nat):Int)∧0<ds[k].natAbs%l.length):=by
     rcases Int.le_total 0 ds[k] with h | h
     ·
      obtain⟨e,he⟩:∃e:Nat,ds[k]=(e:Int):=⟨ds[k].toNat,by omega⟩
      rw[he,Int.natAbs_natCast]
      exact Or.inl rfl
     ·
      obtain⟨e,he⟩:∃e:Nat,ds[k] = -(e:Int):=⟨(-ds[k]).toNat,by omega⟩
      rw[he,Int.natAbs_neg,Int.natAbs_natCast,tmod_neg]
      rcases jr (e%l.length) with h1 | h1
      ·
       left
       rw[h1]
       rfl
      ·
       exact Or.inr ⟨rfl,h1⟩
    generalize ds[k].natAbs%l.length=q at *
    generalize ds[k]=z at *
    generalize l[q]=s at *
    rcases hdec with ht | ⟨ht,hq0⟩
    ·
     have iq:¬(q:Int)<0:=by omega
     go_wp2_with (at_builtin;refine vh (v:= .slice A' k c') w.heap.size ((jx l ds).take k) s rfl _ _ rfl rfl rfl rfl (by rw[zg _ _ _ _ rfl];rfl) (by rw[HKL.out];exact HO.out.alloc _) (by rw[HKL.out];omega) (by simp;omega) ?_;intro A2 c2 w2 ho2 hg2)
     go_roundw
     case rel =>
      have hl3:((jx l ds).take k++[s]).length=k+1:=by rw[qd,HKL.out];rfl
      refine⟨k+1,A2,c2,by omega,by go_num,by rw[show min k (jx l ds).length=k by rw[HLN.out];omega],?_,(HB.out.alloc hsz _).grown hg2 (by simp;omega) (fun q hq=>(zk HO.out hq).1)⟩
      rw[hl3] at ho2
      rw[HTK.out]
      exact ho2
     case measure=>simp[intOf] <;> omega
    ·
     have iq : -(q:Int)<0:=by omega
     go_wp2_with (at_builtin;refine vh (v:= .slice A' k c') w.heap.size ((jx l ds).take k) s rfl _ _ rfl rfl rfl rfl (by rw[zg _ _ _ _ rfl];rfl) (by rw[HKL.out];exact HO.out.alloc _) (by rw[HKL.out];omega) (by simp;omega) ?_;intro A2 c2 w2 ho2 hg2)
     go_roundw
     case rel =>
      have hl3:((jx l ds).take k++[s]).length=k+1:=by rw[qd,HKL.out];rfl
      refine⟨k+1,A2,c2,by omega,by go_num,by rw[show min k (jx l ds).length=k by rw[HLN.out];omega],?_,(HB.out.alloc hsz _).grown hg2 (by simp;omega) (fun q hq=>(zk HO.out hq).1)⟩
      rw[hl3] at ho2
      rw[HTK.out]
      exact ho2
     case measure=>simp[intOf] <;> omega
   ·
    have ik:¬(k:Int)<(ds.length:Int):=by omega
    have hke:k=(jx l ds).length:=by rw[HLN.out];omega
    have HKE:=qa hke
    have HT:Hid ((jx l ds).take k=jx l ds):=qo (by omega)
    clear hke
    go_wp2_with fail
    go_ret
    exact⟨A',c',by rw[←HKE.out];rfl,by rw[←HKE.out];have:=HO.out;rw[HT.out] at this;exact this,HB.out⟩
theorem qoz(cs:List Nat):(nz cs).length=cs.length:=by simp[nz,iv]
theorem nz_append(cs ds:List Nat):nz (cs++ds)=nz cs++nz ds:=by simp[nz,iv]
theorem qms(w:World)(base:Nat)(v:Value)(ys:List ByteArray)(z:ByteArray)(hown:w.ownsRow base 9 1 v ys.length (sv ys))(hb:ys.length+1≤1000000000)(hbase:base≤w.heap.size) :
  ∃A' c' w',(Builtin.append_ #[52,52] 52 #[v,.slice (some ⟨w.heap.size,0,none⟩) 1 1]).run Tryz.prog (w.alloc (.cells #[.string z] 9))= .ok (.slice A' (ys.length+1) c') w'∧
   w'.ownsRow base 9 1 (.slice A' (ys.length+1) c') (ys.length+1) (sv (ys++[z]))∧(w.alloc (.cells #[.string z] 9)).grownBy w' v.ownBlock∧
   ((Value.slice A' (ys.length+1) c').ownBlock=v.ownBlock∨(Value.slice A' (ys.length+1) c').ownBlock=some (w.heap.size+1)):=by
 obtain⟨i0,hi0,hz0,hz1,hz2⟩:=info_parts Tryz.infoStr
 have hr:Rd (w.alloc (.cells #[.string z] 9)) 0 (w.heap.size+1) (some ⟨w.heap.size,0,none⟩) 1 (sv [z]):=by
  refine⟨by simp[sv],by simp[maxLen],fun _=>⟨w.heap.size,0,rfl,qi _,by omega,fun j u hu => ?_⟩⟩
  rw[yr,(yy.new w 9 #[.string z]).cell]
  simpa[sv] using hu
 obtain⟨A',c',w',hrun,h2,h3,h4⟩:=vt (P:=Tryz.prog) (w.alloc (.cells #[.string z] 9)) base 52 52 9 i0 _ 16 Tryz.underlying52 hi0 hz0 hz1 hz2 rfl v ys.length (sv ys) (hown.alloc _) _ _ _ _ (sv [z]) hr (sv_one _)
  (by simp only[sv,q8,zy,maxLen];omega) (by simp only[sv,q8,zy];omega) (by simp;omega)
 rw[show(sv [z]).length=1 from rfl] at hrun h2 h4
 exact⟨A',c',w',hrun,by rw[qos];exact h2,h3,by rwa [show(w.alloc (.cells #[.string z] 9)).heap.size=w.heap.size+1 by simp] at h4⟩
theorem append_one_at(w:World)(base:Nat)(v:Value)(cs:List Nat)(hown:w.ownsRow base 3 1 v cs.length (nz cs))(hb:cs.length+1≤1000000000)(hbase:base≤w.heap.size) :
  ∃A' c' w',(Builtin.append_ #[58,58] 58 #[v,.slice (some ⟨w.heap.size,0,none⟩) 1 1]).run Tryz.prog (w.alloc (.cells #[.int .i64 1] 3))= .ok (.slice A' (cs.length+1) c') w'∧
   w'.ownsRow base 3 1 (.slice A' (cs.length+1) c') (cs.length+1) (nz (cs++[1]))∧(w.alloc (.cells #[.int .i64 1] 3)).grownBy w' v.ownBlock∧
   ((Value.slice A' (cs.length+1) c').ownBlock=v.ownBlock∨(Value.slice A' (cs.length+1) c').ownBlock=some (w.heap.size+1)):=by
 obtain⟨i0,hi0,hz0,hz1,hz2⟩:=info_parts Tryz.infoI64
 have hr:Rd (w.alloc (.cells #[.int .i64 1] 3)) 0 (w.heap.size+1) (some ⟨w.heap.size,0,none⟩) 1 (nz [1]):=by
  refine⟨by simp[nz,iv],by simp[maxLen],fun _=>⟨w.heap.size,0,rfl,qi _,by omega,fun j u hu => ?_⟩⟩
  rw[yr,(yy.new w 3 #[.int .i64 1]).cell]
  simpa[nz,iv] using hu
 obtain⟨A',c',w',hrun,h2,h3,h4⟩:=vt (P:=Tryz.prog) (w.alloc (.cells #[.int .i64 1] 3)) base 58 58 3 i0 _ 8 Tryz.underlying58 hi0 hz0 hz1 hz2 rfl v cs.length (nz cs) (hown.alloc _) _ _ _ _ (nz [1]) hr (iv_one _)
  (by rw[qoz];simp only[zy,maxLen];omega) (by rw[qoz];simp only[zy];omega) (by simp;omega)
 rw[show(nz [1]).length=1 from rfl] at hrun h2 h4
 exact⟨A',c',w',hrun,by rw[nz_append];exact h2,h3,by rwa [show(w.alloc (.cells #[.int .i64 1] 3)).heap.size=w.heap.size+1 by simp] at h4⟩
theorem mem_bytL2{ns:List ByteArray}{s:ByteArray}(h:s.data.toList∈qm ns):∃j,∃hj:j<ns.length,ns[j]=s:=by
 obtain⟨j,hj,he⟩:=zc h
 rw[qv] at hj
 rw[yq ns j hj] at he
 refine⟨j,hj,?_⟩
 have h2:(⟨ns[j].data.toList.toArray⟩:ByteArray)=⟨s.data.toList.toArray⟩:=by rw[he]
 exact ByteArray.ext (by simpa using h2)
theorem add_any{w:World}(base:Nat)(ns:List ByteArray)(cs:List Nat)(s:ByteArray){A B:Option Addr}{c d n:Nat}(hn:n=ns.length)(h:Two w base (.slice A n c) (.slice B n d) ns cs)(P:List (List UInt8))(hP:Cnt P (qm ns) cs)(hPl:P.length≤100000000)(hbase:base≤w.heap.size) :
  Calls Tryz.prog 185 #[.slice A n c,.slice B n d,.string s] w fun r w'=>∃(ns':List ByteArray) (cs':List Nat) (A' B':Option Addr) (c' d' n':Nat),r= .returned (.tuple #[.slice A' n' c',.slice B' n' d'])∧n'=ns'.length∧
   Two w' base (.slice A' n' c') (.slice B' n' d') ns' cs'∧Cnt (P++[s.data.toList]) (qm ns') cs'∧Below base w w':=by
 subst hn
 have hln:ns.length=cs.length:=by have:=hP.len;rwa [qv] at this
 have hlp:ns.length≤100000000:=by have:=hP.few;rw[qv] at this;omega
 have HR1:=qa (Rd.own h.o1)
 have H:=qa h
 have HC:=qa hP
 have HLN:=qa hln
 have hlc:cs.length≤100000000:=by omega
 clear h hP hln
 go_enter Tryz.func185,Tryz.ntmps185
 go_wp2_with fail
 go_loopw [8] (fun x8 wr=>∃k m:Nat,k≤ns.length∧x8= .int .i64 (k:Int)∧(∀j (hj:j<ns.length),j<k→ns[j]≠s)∧wr=w.drewN m) (fun i _=>ns.length-(intOf i).toNat)
 case atStart=>exact⟨0,0,qi _,rfl,fun j _ h=>absurd h (ja j),rfl⟩
 case round =>
  obtain⟨k,m,hk,rfl,hno,rfl⟩:=hrel
  have HNO:=qa hno
  clear hno
  by_cases hlt:k<ns.length
  ·
   have ik:(k:Int)<(ns.length:Int):=by omega
   obtain⟨b,off,rfl,_,_,hcell⟩:=HR1.out.str hlt
   by_cases he:ns[k]=s
   ·
    have e1:(ns[k].toList==s.toList)=true:=by rw[he];exact beq_self_eq_true _
    have e2:ns[k].toList=s.toList:=by rw[he]
    have hkc:k<cs.length:=by have:=HLN.out;omega
    have HCN:Hid (Cnt (P++[s.data.toList]) (qm ns) (cs.set k (cs[k]+1))):=by
     have h2:=HC.out.old (i:=k) (by rw[qv];exact hlt) hkc
     rw[yq ns k hlt,he] at h2
     exact h2
    have hlow:cs[k]≤100000000:=zb (HC.out.low hkc) hPl
    obtain⟨g,rfl⟩:∃g,B=some ⟨g,0,none⟩:=by
     rcases H.out.o2.2 with ⟨hv,h0⟩ | ⟨g,cap,cur,hv,_⟩
     ·
      have h1:=qoz cs
      have h2:=H.out.o2.1
      omega
     ·
      injection hv with h1 h2 h3
      exact⟨g,h1⟩
    have hcell2:w.cell? ⟨g,0+k,none⟩=some (.int .i64 (cs[k]:Int)):=by
     rw[yr]
     have hc9:=H.out.o2.cells (g:=g) (by simp[Value.ownBlock]) k (.int .i64 (cs[k]:Int)) (by simp[nz,iv,hkc])
     have ha9:(⟨g,0,none⟩:Addr).add k=⟨g,k,none⟩:=by unfold Addr.add;by_cases h0:k=0 <;> simp[h0]
     rw[ha9] at hc9
     exact hc9
    have hcell3:w.cell? ⟨g,k,none⟩=some (.int .i64 (cs[k]:Int)):=by
     rw[yr] at hcell2
     exact hcell2
    have hfr:w.frozen? ⟨g,k,none⟩=false:=by
     have h1:=H.out.o2
     rw[HLN.out] at h1
     exact h1.frozenAt k
    have hbg:base≤g:=(zk H.out.o2 (k:=g) (by simp[Value.ownBlock])).1
    have HT:Hid (Two ((w.drewN m).setCell ⟨g,k,none⟩ (.int .i64 ((cs[k]:Int)+1))) base (.slice (some ⟨b,off,none⟩) ns.length c) (.slice (some ⟨g,0,none⟩) ns.length d) ns (cs.set k (cs[k]+1))∧Below base w ((w.drewN m).setCell ⟨g,k,none⟩ (.int .i64 ((cs[k]:Int)+1)))):=by
     have hT:=(H.out.drewN m).set HLN.out k (cs[k]+1)
     rw[show((cs[k]+1:Nat):Int)=(cs[k]:Int)+1 by omega] at hT
     exact⟨hT,(zj (Below.refl _ _) m).setCell hbg _⟩
    clear he
    generalize cs[k]=z at *
    generalize ns[k]=t at *
    go_wp2_with fail
    go_ret2
    exact⟨ns,_,_,_,c,d,ns.length,rfl,rfl,HT.out.1,HCN.out,HT.out.2⟩
   ·
    have e1:(ns[k].toList==s.toList)=false:=by
     rw[q9,ne_eq,z6,z6]
     exact fun e=>he (ByteArray.ext (qdw.1 e))
    have e2:¬ns[k].toList=s.toList:=by
     rw[z6,z6]
     exact fun e=>he (ByteArray.ext (qdw.1 e))
    have HNO2:Hid (∀j (hj:j<ns.length),j<k+1→ns[j]≠s):=fun j hj hjk=>by
     rcases vf j k with h2 | h2
     ·
      exact HNO.out j hj h2
     ·
      have:j=k:=by omega
      subst this
      exact he
    clear he
    generalize ns[k]=t at *
    go_wp2_with fail
    go_roundw
    case rel=>exact⟨k+1,m,by omega,by go_num,HNO2.out,rfl⟩
    case measure=>simp[intOf] <;> omega
  ·
   have ik:¬(k:Int)<(ns.length:Int):=by omega
   have HCN:Hid (Cnt (P++[s.data.toList]) (qm (ns++[s])) (cs++[1])):=by
    have h2:=HC.out.new (s:=s.data.toList) (fun hx=>by
     obtain⟨j,hj,e⟩:=mem_bytL2 hx
     exact HNO.out j hj (by omega) e)
    have h3:qm (ns++[s])=qm ns++[s.data.toList]:=by simp[qm]
    rw[h3]
    exact h2
   have HT:=qa (H.out.drewN m)
   have hb0:Below base w (w.drewN m):=zj (Below.refl _ _) m
   have hz0:base≤(w.drewN m).heap.size:=hbase
   generalize w.drewN m=w0 at *
   obtain⟨A2,c2,w2,hrun2,ho2,hg2,hB2⟩:=qms w0 base _ ns s HT.out.o1 (by omega) hz0
   have hz2:base≤w2.heap.size:=by have:=hg2.size;simp at this;omega
   have hob:w2.ownsRow base 3 1 (.slice B ns.length d) cs.length (nz cs):=(HT.out.o2.alloc _).kept hg2 (by
    cases hB:(Value.slice B ns.length d).ownBlock with
    | none=>exact .inl rfl
    | some g=>exact .inr fun e=>HT.out.ap g e.symm hB)
   obtain⟨A3,c3,w3,hrun3,ho3,hg3,hB3⟩:=append_one_at w2 base _ cs hob (by omega) hz2
   have HR2:=qa hrun2
   have HFIN:Hid (Two w3 base (.slice A2 (ns.length+1) c2) (.slice A3 (ns.length+1) c3) (ns++[s]) (cs++[1])∧Below base w w3):=by
    have hs2:(w0.alloc (.cells #[.string s] 9)).heap.size=w0.heap.size+1:=by simp
    have hs3:(w2.alloc (.cells #[.int .i64 1] 3)).heap.size=w2.heap.size+1:=by simp
    have hb2:Below base w w2:=(hb0.alloc hz0 _).grown hg2 (by omega) (fun q hq=>(zk HT.out.o1 hq).1)
    have hg2s:=hg2.size
    refine⟨⟨?_,by rw[HLN.out,qd];exact ho3,?_⟩,(hb2.alloc hz2 _).grown hg3 (by omega) (fun q hq=>(zk hob hq).1)⟩
    ·
     rw[qd]
     refine(ho2.alloc _).kept hg3 ?_
     cases hA:(Value.slice A2 (ns.length+1) c2).ownBlock with
     | none=>exact .inl rfl
     | some q =>
      right
      intro e
      rcases hB2 with h1 | h1
      ·
       exact HT.out.ap q (h1 ▸ hA) e.symm
      ·
       rw[h1] at hA
       injection hA with hA
       have:=(zk HT.out.o2 e.symm).2
       omega
    ·
     intro q h1 h2
     have hq:=(zk ho2 h1).2
     rcases hB3 with h3 | h3
     ·
      have h2':(Value.slice B ns.length d).ownBlock=some q:=by
       rw[←h3]
       cases A3 <;> exact h2
      rcases hB2 with h4 | h4
      ·
       exact HT.out.ap q (h4 ▸ h1) h2'
      ·
       rw[h4] at h1
       injection h1 with h1
       have:=(zk HT.out.o2 h2').2
       omega
     ·
      have h2':(Value.slice A3 (cs.length+1) c3).ownBlock=some q:=by cases A3 <;> exact h2
      rw[h3] at h2'
      injection h2' with h2'
      omega
   have hl3:=HLN.out
   rw[←hl3] at hrun3
   have HR3:=qa hrun3
   clear hl3
   clear hrun2 hrun3 ho2 hg2 hB2 hob ho3 hg3 hB3
   go_wp2_with (at_builtin;refine wpList_append_run rfl _ _ _ _ rfl rfl rfl HR2.out ?_;refine qam ?_)
   refine⟨?_⟩
   go_wp2_with (at_builtin;refine wpList_append_run rfl _ _ _ _ rfl rfl rfl HR3.out ?_)
   go_ret2
   exact⟨ns++[s],cs++[1],A2,A3,c2,c3,ns.length+1,rfl,by simp,HFIN.out.1,HCN.out,HFIN.out.2⟩
theorem gain_at{bag:List (List UInt8)}{ns:List ByteArray}{cs:List Nat}(hc:Cnt bag (qm ns) cs){i:Nat}(hi:i<ns.length)(hic:i<cs.length):qmo bag ns[i].data.toList=cs[i]*ns[i].size:=by
 have:=hc.cnt i (by rw[qv];exact hi)
 rw[yq ns i hi] at this
 rw[qmo,←this,qgi]
theorem wrap_gain{z s:Nat}(hz:z≤1000000)(hs:s≤8):IntKind.i64.wrap ((z:Int)*(s:Int))=((z*s:Nat):Int)∧wrap64 ((z:Int)*(s:Int))=((z*s:Nat):Int):=by
 have h1:z*s≤1000000*8:=ki hz hs
 rw[←qaw]
 exact⟨jf _ (by omega),uc _ (by omega)⟩
theorem spot_of{w:World}{lo hi:Nat}{b1 o1 b2 o2 c1 d1:Nat}{ns:List ByteArray}{cs:List Nat}{i:Nat}(h1:Rd w lo hi (some ⟨b1,o1,none⟩) c1 (sv ns))(h2:Rd w lo hi (some ⟨b2,o2,none⟩) d1 (nz cs))(hi1:i<ns.length)(hi2:i<cs.length)
  (hs:ns[i].size≤8) (hz:cs[i]≤1000000):Spot w b1 o1 b2 o2 i ns[i] cs[i] (cs[i]*ns[i].size):=by
 obtain⟨b,off,he,_,_,hc1⟩:=h1.str hi1
 injection he with he
 injection he with e1 e2
 subst e1 e2
 obtain⟨b,off,he,_,_,hc2⟩:=Rd.num (zs:=cs.map fun(n:Nat)=>(n:Int)) h2 (k:=i) (by rw[q8];exact hi2)
 injection he with he
 injection he with e1 e2
 subst e1 e2
 rw[j6] at hc2
 obtain⟨hw1,hw2⟩:=wrap_gain hz hs
 exact⟨hc1,hc2,hs,hz,by rw[hw1],by rw[hw2],zb (ki hz hs) (by decide)⟩
theorem rival{bag:List (List UInt8)}{ns:List ByteArray}{cs ks:List Nat}{i k:Nat}(hc:Cnt bag (qm ns) cs)(hi:i<ns.length)(hic:i<cs.length)(hk:k<ns.length)(hkc:k<cs.length)(hki:k<i)(hkn:k∉ks)(hin:i∉ks)
  (hbt:∀j (hj:j<(qm ns).length),j<i→j∉ks→j≠k→qgm bag ((qm ns)[k]'(by rw[qv];exact hk)) (qm ns)[j]) :
  (cs[k]*ns[k].size<cs[i]*ns[i].size→qlm bag (qm ns) ks (i+1) (i:Int))∧
  (cs[i]*ns[i].size=cs[k]*ns[k].size→yl ns[i].data.toList ns[k].data.toList<0→qlm bag (qm ns) ks (i+1) (i:Int))∧
  (cs[i]*ns[i].size=cs[k]*ns[k].size→¬yl ns[i].data.toList ns[k].data.toList<0→qlm bag (qm ns) ks (i+1) (k:Int))∧
  (cs[i]*ns[i].size<cs[k]*ns[k].size→qlm bag (qm ns) ks (i+1) (k:Int)):=by
 have hk2:k<(qm ns).length:=by rw[qv];exact hk
 have hi2:i<(qm ns).length:=by rw[qv];exact hi
 have hwin:qgm bag ns[i].data.toList ns[k].data.toList→qlm bag (qm ns) ks (i+1) (i:Int):=fun h=>lead_win hk2 hbt hi2 hin (by rw[yq ns i hi,yq ns k hk];exact h)
 have hlose:qgm bag ns[k].data.toList ns[i].data.toList→qlm bag (qm ns) ks (i+1) (k:Int):=fun h=>lead_lose hk2 hki hkn hbt hi2 (by rw[yq ns i hi,yq ns k hk];exact h)
 have hne:yl ns[i].data.toList ns[k].data.toList≠0:=fun e=>by
  have e2:=qbq e
  rw[←yq ns i hi,←yq ns k hk] at e2
  have:=(List.getElem_inj hc.once).1 e2
  omega
 have htn:=qcb ns[i].data.toList ns[k].data.toList
 unfold qgm at hwin hlose
 rw[gain_at hc hi hic,gain_at hc hk hkc] at hwin hlose
 rw[htn] at hlose
 exact⟨fun h=>hwin (Or.inl h),fun h1 h2=>hwin (Or.inr ⟨h1,h2⟩),fun h1 h2=>hlose (Or.inr ⟨h1.symm,by omega⟩),fun h=>hlose (Or.inl h)⟩
theorem lit_add(g k:Nat):(⟨g,0,none⟩:Addr).add k=⟨g,k,none⟩:=by unfold Addr.add;by_cases h0:k=0 <;> simp[h0]
theorem chosen{wv:World}{u k n m c5:Nat}{A5:Option Addr}{ks:List Nat}{bs:List ByteArray}(t:ByteArray)(hO:wv.ownsRow u 4 1 (.slice (some ⟨u,0,none⟩) n n) n (lv (usL n ks)))(hB:wv.ownsRow (u+1) 9 1 (.slice A5 m c5) m (sv bs))(hm:m=bs.length)
  (hk:k<n) (hn:k∉ks) (h254:m≤254) (hz:u+1≤wv.heap.size) :
  wv.frozen? ⟨u,k,none⟩=false∧wv.cell? ⟨u,k,none⟩=some (.bool false)∧∃A6 c6 w6,(Builtin.append_ #[52,52] 52 #[.slice A5 m c5,.slice (some ⟨wv.heap.size,0,none⟩) 1 1]).run Tryz.prog ((wv.setCell ⟨u,k,none⟩ (.bool true)).alloc (.cells #[.string t] 9))= .ok (.slice A6 (m+1) c6) w6∧
   w6.ownsRow u 4 1 (.slice (some ⟨u,0,none⟩) n n) n (lv (usL n (ks++[k])))∧w6.ownsRow (u+1) 9 1 (.slice A6 (m+1) c6) (m+1) (sv (bs++[t]))∧Below u wv w6∧u+1≤w6.heap.size:=by
 subst hm
 have hz3:(wv.setCell ⟨u,k,none⟩ (.bool true)).heap.size=wv.heap.size:=by simp[World.setCell]
 have hcx:=hO.cells (g:=u) (by simp[Value.ownBlock]) k (.bool (decide (k∈ks))) (by rw[lv_get _ _ (by rw[qju];exact hk),usL_get _ hk])
 rw[lit_add,qr hn] at hcx
 obtain⟨hO3,hg3⟩:=hO.stored k (.bool true)
 rw[←lv_set,usL_set ks hk] at hO3
 have hB3:=ownsRow_setCell_other hB (a:=⟨u,k,none⟩) (fun e=>by have:=(zk hB e).1;simp only at this;omega) (.bool true)
 obtain⟨A6,c6,w6,hrun,ho6,hg6,_⟩:=qms (wv.setCell ⟨u,k,none⟩ (.bool true)) (u+1) (.slice A5 bs.length c5) bs t hB3 (by omega) (by rw[hz3];exact hz)
 rw[hz3] at hrun
 have hb3:Below u wv (wv.setCell ⟨u,k,none⟩ (.bool true)):=(Below.refl u wv).grown hg3 (by omega) (fun g hg=>by simp[Value.ownBlock] at hg;omega)
 have hb6:Below u wv w6:=(hb3.alloc (by rw[hz3];omega) _).grown hg6 (by simp;omega) (fun g hg=>by have:=(zk hB3 hg).1;omega)
 refine⟨hO.frozenAt k,hcx,A6,c6,w6,hrun,(hO3.alloc _).kept hg6 (Or.inr fun e => ?_),ho6,hb6,?_⟩
 ·
  have h2:(Value.slice A5 bs.length c5).ownBlock=some u:=e.symm
  have:=(zk hB3 h2).1
  omega
 ·
  have:=hg6.size
  rw[yi,hz3] at this
  omega
end Go.Proofs.YtjfecojdagmacaaGreat
