/-
  Lemmas.
-/
import Derived.Test.YtjfecojdagmacaaGreatE19
import Derived.Test.YtjfecojdagmacaaGreatE20
import Derived.Carry
import Derived.Maps.RangeWalk
namespace Go.Proofs.YtjfecojdagmacaaGreat
open Go.RowKit
set_option maxRecDepth 20000
set_option maxHeartbeats 16000000
set_option linter.unusedSimpArgs false
set_option linter.unusedVariables false
theorem filter_yes{l:List ByteArray}{k:Nat}(h:k<l.length)(ho:qgo l[k].data.toList=true):((qt l).take (k+1)).filter qgo=((qt l).take k).filter qgo++[l[k].data.toList]:=by
 rw[qi (by rw[zb];exact h),vq l k h,List.filter_append,List.filter_cons,if_pos ho,List.filter_nil]
theorem filter_no{l:List ByteArray}{k:Nat}(h:k<l.length)(ho:qgo l[k].data.toList=false):((qt l).take (k+1)).filter qgo=((qt l).take k).filter qgo:=by
 rw[qi (by rw[zb];exact h),vq l k h,List.filter_append,List.filter_cons,if_neg (by rw[ho];decide),List.filter_nil,jd]
theorem own_nil(w:World)(base:Nat)(e:TypeId):w.ownsRow base e 1 (.slice none 0 0) 0 (sv []):=⟨rfl,.inl ⟨rfl,rfl⟩⟩
theorem sorder_any{w:World}(l:List ByteArray){c:Nat}{A:Option Addr}(h:Rd w 0 w.heap.size A c (sv l))(hln:l.length≤1000000)(hsz:∀s∈l,s.size≤9223372036854775807) :
  Calls Tryz.prog 250 #[.slice A l.length c] w fun r w'=>∃A' c',r= .returned (.slice A' (ordL (qt l)).length c')∧w'.ownsRow w.heap.size 9 1 (.slice A' (ordL (qt l)).length c') (ordL (qt l)).length (sv (j4 (ordL (qt l))))∧Below w.heap.size w w':=by
 have hl:=h.len
 have hm:=h.cap
 rw[xr] at hl
 unfold maxLen at hm
 have H:=qa h
 have HSZ:Hid (∀k (hk:k<l.length),l[k].size≤9223372036854775807):=fun k hk=>hsz _ (ql hk)
 clear h hsz
 go_enter Tryz.func250,Tryz.ntmps250
 go_wp2_with fail
 go_loopw [3,11] (fun x3 x11 wr=>∃(k:Nat) (ys:List ByteArray) (A':Option Addr) (c':Nat),k≤l.length∧x11= .int .i64 (k:Int)∧x3= .slice A' ys.length c'∧ys.length≤k∧qt ys=((qt l).take k).filter qgo∧
  wr.ownsRow w.heap.size 9 1 (.slice A' ys.length c') ys.length (sv ys)∧Below w.heap.size w wr) (fun _ i _=>l.length-(intOf i).toNat)
 case atStart=>exact⟨0,[],_,_,qj _,rfl,rfl,by simp,by simp[qt],own_nil _ _ _,Below.refl _ _⟩
 case round =>
  obtain⟨k,ys,A',c',hk,rfl,rfl,hyl,hys,hown,hb⟩:=hrel
  have HYS:=qa hys
  have HO:=qa hown
  have HB:=qa hb
  have hsz:=hb.size
  clear hys hown hb
  by_cases hlt:k<l.length
  ·
   have ik:(k:Int)<(l.length:Int):=by omega
   obtain⟨b,off,rfl,_,hbh,hcell⟩:=(H.out.below HB.out (qc _)).str hlt
   have hs63:=HSZ.out k hlt
   have HFY:=qa (filter_yes hlt)
   have HFN:=qa (filter_no hlt)
   have HFI:=qa (fun w=>fits_any (w:=w) (l[k].size:Int))
   rw[fits_size] at HFI
   generalize l[k]=s at *
   obtain⟨f,hf⟩:∃f,qgo s.data.toList=f:=⟨_,rfl⟩
   rw[hf] at HFI HFY HFN
   clear hf
   cases f with
   | false =>
    replace HFN:=qa (HFN.out rfl)
    clear HFY
    go_wp2_with fail
    refine(HFI.out _).mono ?_
    rintro r w' ⟨rfl,rfl⟩
    go_wp2_with fail
    go_roundw
    case rel=>exact⟨k+1,ys,A',c',by omega,by go_num,rfl,by omega,by rw[HFN.out];exact HYS.out,HO.out,HB.out⟩
    case measure=>simp[intOf] <;> omega
   | true =>
    replace HFY:=qa (HFY.out rfl)
    clear HFN
    go_wp2_with fail
    refine(HFI.out _).mono ?_
    rintro r w' ⟨rfl,rfl⟩
    go_wp2_with (at_builtin;refine vj (v:= .slice A' ys.length c') w.heap.size ys s rfl _ _ rfl rfl rfl rfl (by rw[zm _ _ _ _ rfl];rfl) (HO.out.alloc _) (by omega) (by simp;omega) ?_;intro A2 c2 w2 ho2 hg2;refine qbj ?_)
    have hb2w:Below w.heap.size w w2:=(HB.out.alloc hsz _).grown hg2 (by simp;omega) (fun q hq=>(zk HO.out hq).1)
    obtain⟨zs,hzs⟩:∃zs,ys++[s]=zs:=⟨_,rfl⟩
    rw[hzs] at ho2
    have hzl:zs.length=ys.length+1:=by rw[←hzs,qd];rfl
    have HZL:Hid (Value.slice A2 (ys.length+1) c2= .slice A2 zs.length c2):=by unfold Hid;rw[hzl]
    have HZK:Hid (zs.length≤k+1):=by unfold Hid;omega
    have HZ:Hid (qt zs=((qt l).take (k+1)).filter qgo):=by
     unfold Hid
     rw[HFY.out,←HYS.out,←hzs]
     simp[qt]
    have HO2:=qa ho2
    have HB2:=qa hb2w
    clear ho2 hg2 hb2w hzl hzs
    refine⟨?_⟩
    go_wp2_with fail
    go_roundw
    case rel=>exact⟨k+1,zs,A2,c2,by omega,by go_num,HZL.out,HZK.out,HZ.out,HO2.out,HB2.out⟩
    case measure=>simp[intOf] <;> omega
  ·
   have ik:¬(k:Int)<(l.length:Int):=by omega
   have hke:k=l.length:=by omega
   obtain⟨zs,hzs⟩:∃zs,qt ys=zs:=⟨_,rfl⟩
   have hys2:ys=j4 zs:=by rw[←hzs,qe0]
   have hzf:zs=(qt l).filter qgo:=by
    have:=HYS.out
    rw[hke,qp (by rw[zb];exact qc _),hzs] at this
    exact this
   have HZF:=qa hzf
   have hzl:zs.length=ys.length:=by rw[←hzs,zb]
   subst hys2
   clear hzs HYS hzf hke
   obtain⟨n,hn⟩:∃n,(j4 zs).length=n:=⟨_,rfl⟩
   rw[hn] at HO hzl hyl ⊢
   subst hzl
   clear hn
   have HST:=qa (sort_own (v:= .slice A' zs.length c') zs HO.out (by omega))
   go_wp2_with fail
   refine HST.out.mono ?_
   rintro r w2 ⟨rfl,ho2,hg2⟩
   have hb2:Below w.heap.size w w2:=HB.out.grown hg2 hsz (fun q hq=>(zk HO.out hq).1)
   obtain⟨us,hus⟩:∃us,(zs.mergeSort fun x y=>decide (x≤y))=us:=⟨_,rfl⟩
   have hul:us.length=zs.length:=by rw[←hus,List.length_mergeSort]
   have HUS:Hid (us=qff (qt l)):=by unfold Hid;rw[←hus,HZF.out];rfl
   rw[hus,←hul] at ho2
   have HO2:=qa ho2
   have HB2:=qa hb2
   have hsz2:=hb2.size
   clear ho2 hg2 hb2 hus
   have HCO:=qa (qmy us HO2.out (by omega))
   rw[hul] at HCO
   have HUL:=qa hul
   clear hul
   go_wp2_with fail
   refine HCO.out.mono ?_
   rintro r w3 ⟨rfl,ho3,hg3⟩
   have hb3:Below w.heap.size w w3:=HB2.out.grown hg3 hsz2 (fun q hq=>(zk HO2.out (by rw[HUL.out];exact hq)).1)
   obtain⟨vs,hvs⟩:∃vs,Lib.compact us=vs:=⟨_,rfl⟩
   have HVL:Hid (vs.length≤1000000):=by
    unfold Hid
    have:=Lib.compact_length_le us
    rw[hvs,HUL.out] at this
    omega
   have HVO:Hid (vs.take 255=ordL (qt l)):=by unfold Hid;rw[←hvs,HUS.out];rfl
   rw[hvs] at ho3 ⊢
   have HR3:=qa (Rd.of_own ho3)
   have HB3:=qa hb3
   have hsz3:=hb3.size
   have hvc:=(qbp _ ho3)
   clear ho3 hg3 hb3 hvs HCO HST HO HB HO2 HB2 HUS
   have hvl:=HVL.out
   have hvc2:vs.length≤c':=by
    obtain⟨_,_,he,h1,_⟩:=hvc
    injection he with _ _ he
    omega
   clear hvc
   obtain⟨M,hM⟩:∃M,min vs.length 255=M:=⟨_,rfl⟩
   have hM1:M≤vs.length:=by omega
   have hM2:M≤255:=by omega
   have hMI:min (vs.length:Int) 255=(M:Int):=by omega
   have HML:Hid ((vs.take 255).length=M):=by unfold Hid;rw[qy];omega
   have HV8:Hid (∀j (hj:j<(j4 vs).length),j<M→(j4 vs)[j].size≤281474976710656):=fun j hj hjM=>by
    have h1:(j4 vs)[j].data.toList=(vs.take 255)[j]'(by rw[HML.out];exact hjM):=by simp[j4]
    have h2:=(ordL_is (qt l)).right
    rw[←HVO.out] at h2
    have h3:=(qeb.1 ((vu.1 h2).2.1 _ (ql (l:=vs.take 255) (n:=j) (by rw[HML.out];exact hjM)))).2
    rw[←h1,jo] at h3
    have h4:(j4 vs)[j].data.size=(j4 vs)[j].size:=rfl
    omega
   have HVL2:Hid ((j4 vs).length=vs.length):=yf vs
   clear hM
   go_wp2_with fail
   go_loopw [6,33] (fun x6 x33 wr=>∃(j:Nat) (ts:List ByteArray) (A2:Option Addr) (c2:Nat),j≤M∧x33= .int .i64 (j:Int)∧x6= .slice A2 j c2∧ts=(j4 vs).take j∧ts.length=j∧
    wr.ownsRow w3.heap.size 9 1 (.slice A2 j c2) j (sv ts)∧Below w3.heap.size w3 wr) (fun _ i _=>M-(intOf i).toNat)
   case atStart=>exact⟨0,[],_,_,qj _,rfl,rfl,by simp,rfl,own_nil _ _ _,Below.refl _ _⟩
   case round =>
    obtain⟨j,ts,A2,c2,hj,rfl,rfl,hts,htl,hown,hb⟩:=hrel
    have HTS:=qa hts
    have HTL:=qa htl
    have HO:=qa hown
    have HB:=qa hb
    have hszr:=hb.size
    clear hts htl hown hb
    by_cases hlt:j<M
    ·
     have ij:(j:Int)<(M:Int):=by omega
     have hjv:j<(j4 vs).length:=by rw[HVL2.out];omega
     obtain⟨b,off,rfl,_,hbh,hcell⟩:=(HR3.out.below HB.out (qc _)).str hjv
     have HCL:=qa (fun w=>sclone_any (w:=w) (j4 vs)[j] (HV8.out j hjv hlt))
     have HTN:Hid (ts++[(j4 vs)[j]]=(j4 vs).take (j+1)):=by
      unfold Hid
      rw[qi hjv,←HTS.out]
     generalize (j4 vs)[j]=s at *
     go_wp2_with fail
     refine(HCL.out _).mono ?_
     rintro r w4 ⟨rfl,hb4⟩
     have HB4:=qa (HB.out.trans (hb4.mono hszr))
     have HO4:=qa (ji HO.out hb4 (qc _))
     have hszr4:=HB4.out.size
     clear hb4 HO
     rw[←HTL.out] at HO4
     go_wp2_with (at_builtin;refine vj (v:= .slice A2 j c2) w3.heap.size ts s rfl _ _ rfl rfl rfl rfl (by rw[zm _ _ _ _ rfl];rfl) (by have:=HO4.out.alloc (.cells #[.string s] 9);rw[HTL.out] at this ⊢;exact this) (by rw[HTL.out];omega) (by simp;omega) ?_;intro A5 c5 w5 ho5 hg5;refine qbj ?_)
     have hb5:Below w3.heap.size w3 w5:=(HB4.out.alloc (by omega) _).grown hg5 (by simp;omega) (fun q hq=>(zk HO4.out (by rw[HTL.out];exact hq)).1)
     obtain⟨qs,hqs⟩:∃qs,ts++[s]=qs:=⟨_,rfl⟩
     rw[hqs] at ho5
     have hql:qs.length=j+1:=by rw[←hqs,qd,HTL.out];rfl
     have HQS:Hid (qs=(j4 vs).take (j+1)):=by unfold Hid;rw[←hqs];exact HTN.out
     have HQV:Hid (Value.slice A5 (ts.length+1) c5= .slice A5 (j+1) c5):=by unfold Hid;rw[HTL.out]
     rw[hql] at ho5
     have HQL:=qa hql
     have HO5:=qa ho5
     have HB5:=qa hb5
     clear ho5 hg5 hb5 hqs hql
     refine⟨?_⟩
     go_wp2_with fail
     go_roundw
     case rel=>exact⟨j+1,qs,A5,c5,by omega,by go_num,HQV.out,HQS.out,HQL.out,HO5.out,HB5.out⟩
     case measure=>simp[intOf] <;> omega
    ·
     have ij:¬(j:Int)<(M:Int):=by omega
     have hjM:j=M:=by omega
     have HLM:Hid ((ordL (qt l)).length=j):=by unfold Hid;rw[←HVO.out,HML.out,hjM]
     have HTF:Hid (ts=j4 (ordL (qt l))):=by
      unfold Hid
      rw[HTS.out,←HVO.out,j4,←List.map_take,j4]
      congr 1
      have h1:=HVL.out
      rw[hjM]
      rcases Nat.le_total vs.length 255 with h2 | h2
      ·
       rw[qp (by omega),qp h2]
      ·
       congr 1;omega
     have HOF:=qa (j9 HO.out HB3.out.size)
     have HBF:=qa (zz HB3.out HB.out HB3.out.size)
     go_wp2_with fail
     go_ret
     rw[HLM.out,←HTF.out]
     exact⟨A2,c2,by rw[hjM];rfl,HOF.out,HBF.out⟩
section
open Go.RowKit Go.Maps Go.WideMaps
theorem own2_at{w:World}{base c:Nat}{A:Option Addr}{es:List (ByteArray×Int)}(h:w.ownsRow base 281 2 (.slice A es.length c) es.length (gvs es)){j:Nat}(hj:j<es.length) :
  ∃b,A=some ⟨b,0,none⟩∧base≤b∧b<w.heap.size∧w.cell? ⟨b,j*2,none⟩=some (.string es[j].1)∧w.cell? ⟨b,j*2+1,none⟩=some (.int .i64 es[j].2):=by
 rcases h.2 with ⟨h1,h2⟩ | ⟨g,cap,cur,hv,hb,hg,_⟩
 ·
  omega
 ·
  injection hv with hv1 _ hv3
  subst hv1 hv3
  refine⟨g,rfl,hb,(xc.1 hg).1,?_,?_⟩
  ·
   rw[h.cellAt (j*2) (by omega)]
   have:=gvs_get (es:=es) (i:=0) hj (by omega)
   rw[y7] at this
   rw[this]
   rfl
  ·
   rw[h.cellAt (j*2+1) (by omega),gvs_get (es:=es) (i:=1) hj (by omega)]
   rfl
theorem key_str{key:Value}{kl:Lit}(h:keyOf Tryz.prog 9 key=some kl):∃x:ByteArray,key= .string x:=by
 have hk:=Tryz.underlying9
 cases key <;> simp[keyOf,hk,mapKey] at h
 exact⟨_,rfl⟩
theorem key_lit{x:ByteArray}{kl:Lit}(h:keyOf Tryz.prog 9 (.string x)=some kl):kl= .string x.data.toList:=by
 have hk:=Tryz.underlying9
 simp[keyOf,hk,mapKey] at h
 exact h.2.symm
theorem elem_int{v:Value}{y:DataW Unit×List MemPlace}(h:plainElem Tryz.prog 3 v=some y):∃c:Int,v= .int .i64 c:=by
 obtain⟨c,rfl,_⟩:=plainElem_int_inv Tryz.underlying3 h
 exact⟨c,rfl⟩
theorem best_any{w:World}{B n:Nat}{D:DataW Unit}{P:List (List UInt8)}(hm:qkl w B n D)(hD:Bag D P)(hP:P.length≤100000000)(h8:∀x∈P,x.length≤8) :
  Calls Tryz.prog 240 #[.map (some B)] w fun r w'=>∃t A' c',r= .returned (.slice A' t.length c')∧qed P t∧w'.ownsRow w.heap.size 9 1 (.slice A' t.length c') t.length (sv (j4 t))∧Below w.heap.size w w':=by
 have hBw:B<w.heap.size:=hm.lt
 have HM:=qa hm
 have HD:=qa hD
 have H8:=qa h8
 clear hm hD h8
 go_enter Tryz.func240,Tryz.ntmps240
 go_wp2_with (at_range;refine wpList_range_own _ rfl _ 274 rfl 9 3 Tryz.keyStr Tryz.underlying274 _ B n D rfl HM.out ?_;refine qbj ?_)
 refine⟨?_⟩
 intro w0 hrg0 hg0 hs0
 have HB0:Hid (Below w.heap.size w w0):=(Below.refl _ w).grown hg0 (qc _) (fun j hj=>by cases hj)
 have HR0:=qa hrg0
 clear hrg0 hg0 hs0
 go_wp2_with fail
 go_loopw [3] (fun x3 wr=>∃(left:Lit→Bool) (cnt:Nat) (es:List (ByteArray×Int)) (A':Option Addr) (c':Nat),x3= .slice A' es.length c'∧wr.ranges Tryz.prog 9 (plainElem Tryz.prog 3) B w.heap.size n D left cnt∧
  Coll P (fun x=>left (.string x)) es∧(∀x,left (.string x)=true→x∈P)∧wr.ownsRow w.heap.size 281 2 (.slice A' es.length c') es.length (gvs es)∧Below w.heap.size w wr) (fun _ wr=>wr.rangeLeft B w.heap.size)
 case atStart =>
  refine⟨_,_,[],none,0,rfl,HR0.out,Coll.nil (fun x hx => ?_),fun x hx => ?_,zj _ _ _ _,HB0.out⟩
  ·
   rw[HD.out.has x]
   exact qx hx
  ·
   rw[HD.out.has x] at hx
   exact of_decide_eq_true hx
 case round =>
  obtain⟨left,cnt,es,A',c',rfl,hrg,hcoll,hlin,hown,hb⟩:=hrel
  have HRG:=qa hrg
  have HCO:=qa hcoll
  have HLI:=qa hlin
  have HO:=qa hown
  have HB:=qa hb
  have hfew:=hcoll.few
  clear hrg hcoll hlin hown hb
  go_wp2_with (at_next;refine wpList_next_ranges (α:=ByteArray) (β:=Int) _ rfl _ rfl 9 Tryz.keyStr _ Value.string (Value.int .i64) (fun _ _ h=>key_str h) (fun _ _ h=>elem_int h) B w.heap.size n D left cnt rfl HRG.out (fun h0 hl0 => ?_) (fun x c kl y w1 cnt1 hkey hl hRv hat hrg1 hlt hg1 hs1 hen => ?_);all_goals (refine qbj ?_))
  ·
   refine⟨?_⟩
   have HTOP:=qa (HCO.out.top (fun x _=>hl0 _))
   have hsz:=HB.out.size
   clear h0 hl0 HRG HCO HLI
   obtain⟨L,hL⟩:∃L,qei es=L:=⟨_,rfl⟩
   rw[hL] at HTOP
   have hLl:L.length=es.length:=by rw[←hL,rank_len]
   have HSO:=qa (sortg_own es HO.out (by omega))
   rw[hL] at HSO
   have HLL:=qa hLl
   clear hL hLl
   obtain⟨m,hm1⟩:∃m:Nat,m=min es.length 255:=⟨_,rfl⟩
   have hmin:min ((es.length:Nat):Int) 255=(m:Int):=by omega
   have hm2:m≤es.length:=by omega
   have hm3:m≤255:=by omega
   have HTK:Hid ((L.take 255).map keyA=(L.take m).map keyA):=by
    unfold Hid
    have:=HLL.out
    congr 1
    by_cases h:es.length≤255
    ·
     rw[qp (by omega),qp (by omega)]
    ·
     rw[show m=255 by omega]
   clear hm1
   obtain⟨A5,c5,he5,hc5,hc6⟩:=qbp wr HO.out
   injection he5 with he5 _ he6
   subst he5 he6
   go_wp2_with fail
   refine HSO.out.mono ?_
   rintro r w1 ⟨rfl,ho1,hg1⟩
   have HB1:Hid (Below w.heap.size w w1):=HB.out.grown hg1 hsz (fun q hq=>(zk HO.out hq).1)
   have hz1:=HB1.out.size
   rw[←HLL.out] at ho1
   have HO1:=qa ho1
   clear ho1 hg1
   obtain⟨N,hN⟩:∃N:List ByteArray,(L.take m).map (fun e=>e.1)=N:=⟨_,rfl⟩
   have hNl:N.length=m:=by rw[←hN,qz,qy];have:=HLL.out;omega
   have HNK:Hid (∀k (hk:k<m) (hk2:k<N.length) (hk3:k<L.length),N[k]=L[k].1):=fun k hk hk2 hk3=>by
    subst hN
    simp
   have HNB:Hid (qt N=(L.take m).map keyA):=by
    unfold Hid
    rw[←hN]
    unfold qt
    rw[uk]
    rfl
   have HNL:=qa hNl
   clear hN hNl
   have hm4:(m:Int)≤255:=by omega
   go_wp2_with fail
   go_loopw [6,33] (fun x6 x33 wr=>∃(k:Nat) (A2:Option Addr) (c2:Nat),k≤m∧x33= .int .i64 (k:Int)∧x6= .slice A2 k c2∧wr.ownsRow w1.heap.size 9 1 (.slice A2 k c2) k (sv (N.take k))∧Below w1.heap.size w1 wr) (fun _ x33 _=>m-(intOf x33).toNat)
   case atStart=>exact⟨0,none,0,qj _,rfl,rfl,zj _ _ _ _,Below.refl _ _⟩
   case round =>
    obtain⟨k,A2,c2,hk,rfl,rfl,hown,hb⟩:=hrel
    have HO2:=qa hown
    have HB2:=qa hb
    have hz2:=hb.size
    clear hown hb
    by_cases hlt:k<m
    ·
     have hkL:k<L.length:=by have:=HLL.out;omega
     have hkN:k<N.length:=by have:=HNL.out;omega
     obtain⟨b,rfl,_,_,hcell,hcell2⟩:=own2_at (ji HO1.out HB2.out (qc _)) hkL
     have HE:Hid (N[k]=L[k].1):=HNK.out k hlt hkN hkL
     obtain⟨s,hs⟩:∃s,L[k].1=s:=⟨_,rfl⟩
     obtain⟨g,hg⟩:∃g,L[k].2=g:=⟨_,rfl⟩
     rw[hs] at hcell HE
     rw[hg] at hcell2
     clear hs hg
     have HKL:Hid ((N.take k).length=k):=by unfold Hid;rw[qy];omega
     have HTK2:Hid (N.take (k+1)=N.take k++[s]):=by
      unfold Hid
      rw[qi hkN,HE.out]
     go_wp2_with (at_builtin;refine vj (v:= .slice A2 k c2) w1.heap.size (N.take k) s rfl _ _ rfl rfl rfl rfl (by rw[zm _ _ _ _ (by simp)];rfl) (by rw[HKL.out];exact(HO2.out.alloc _).alloc _) (by rw[HKL.out];omega) (by simp;omega) ?_;intro A3 c3 w3 ho3 hg3)
     have HO3:=qa ho3
     have HB3:Hid (Below w1.heap.size w1 w3):=((HB2.out.alloc hz2 _).alloc (by simp;omega) _).grown hg3 (by simp;omega) (fun q hq=>(zk HO2.out hq).1)
     clear ho3 hg3
     go_roundw
     case rel =>
      refine⟨k+1,A3,c3,by omega,by go_num,by rw[show min k N.length=k by omega],?_,HB3.out⟩
      have:=HO3.out
      rw[qd,HKL.out] at this
      rw[HTK2.out]
      exact this
     case measure=>simp[intOf];omega
    ·
     obtain rfl:k=m:=by omega
     have HNT:Hid (N.take k=N):=qp (by have:=HNL.out;omega)
     have ho9:=HO2.out
     rw[HNT.out] at ho9
     have hsz9:∀s∈N,s.size≤9223372036854775807:=fun s hs=>by
      have h1:s.data.toList∈qt N:=za.2 ⟨s,hs,rfl⟩
      rw[HNB.out,←HTK.out] at h1
      have h2:=H8.out _ (HTOP.out.of _ h1)
      rw[qje] at h2
      omega
     have HOR:=qa (sorder_any (w:=wr) N (A:=A2) (c:=c2) (by rw[HNL.out] at *;exact(Rd.own ho9).wide (qj _) (qc _)) (by rw[HNL.out];omega) hsz9)
     rw[HNL.out] at HOR
     have HIS:Hid (qed P (ordL (qt N))):=⟨_,HTOP.out,by rw[HTK.out,←HNB.out];exact ordL_is _⟩
     generalize ordL (qt N)=t at *
     clear ho9 hsz9
     go_wp2_with fail
     refine HOR.out.mono ?_
     rintro r w4 ⟨A4,c4,rfl,ho4,hb4⟩
     have HO4:=qa (j9 ho4 (show w.heap.size≤wr.heap.size by omega))
     have HB4:Hid (Below w.heap.size w w4):=HB1.out.trans ((HB2.out.mono hz1).trans (hb4.mono (by omega)))
     clear ho4 hb4
     go_wp2_with fail
     go_ret
     exact⟨t,A4,c4,rfl,HIS.out,HO4.out,HB4.out⟩
  ·
   refine⟨?_⟩
   obtain rfl:=key_lit hkey
   obtain⟨c2,e1,e2,_⟩:=plainElem_int_inv Tryz.underlying3 hRv
   injection e1 with _ e1
   subst e1 e2
   have hc:=HD.out.count (hat (zi 0))
   have hxP:=HLI.out _ hl
   have hx8:x.size≤8:=by rw[←qje];exact H8.out _ hxP
   have hgain:qmt P x.data.toList=P.count x.data.toList*x.size:=by rw[qmt,qje]
   have hcl:P.count x.data.toList≤P.length:=qa7
   generalize P.count x.data.toList=q at *
   subst hc
   obtain⟨G,hG⟩:∃G,q*x.size=G:=⟨_,rfl⟩
   rw[hG] at hgain
   have hG8:G≤P.length*8:=by rw[←hG];exact ug hcl hx8
   have hv:Value.int .i64 (wrap64 ((q:Int)*(x.size:Int)))= .int .i64 (G:Int):=by
    rw[←hG]
    push_cast
    rw[ud]
    have:((q*x.size:Nat):Int)=(q:Int)*(x.size:Int):=by push_cast;rfl
    omega
   have HCO2:Hid (Coll P (fun z=>left (.string z) && !(Lit.string z).sameKey (.string x.data.toList)) (es++[(x,(G:Int))])) :=
    HCO.out.snoc (e:=(x,(G:Int))) hxP hl (by show(G:Int)=_;rw[show keyA (x,(G:Int))=x.data.toList from rfl,hgain]) (fun z=>by
     show _=(left (.string z) && !decide (z=x.data.toList))
     congr 2
     by_cases hz:z=x.data.toList
     ·
      subst hz
      rw[WideAt.sameKey_self (show WideAt.IsKeyLit (Lit.string x.data.toList) from trivial)]
      simp
     ·
      rw[Maps.sameKey_ne (fun e=>hz (by injection e)),qw hz])
   have HLI2:Hid (∀z,(left (.string z) && !(Lit.string z).sameKey (.string x.data.toList))=true→z∈P):=fun z hz=>HLI.out z (by rw[jq] at hz;exact hz.1)
   have hne:some w.heap.size≠(Value.slice A' es.length c').ownBlock:=row_ne_iter HO.out HRG.out
   have HO1:Hid (w1.ownsRow w.heap.size 281 2 (.slice A' es.length c') es.length (gvs es)):=jw HO.out (fun k hk=>hg1.block k (zk HO.out hk).2 (fun e=>hne (by rw[←e,hk])))
   have HB1:Hid (Below w.heap.size w w1):=HB.out.grown hg1 HB.out.size (fun j hj=>by cases hj;exact qc _)
   have HRG1:=qa hrg1
   have HLT:=qa hlt
   have HEN:=hen
   have hz1:=HB1.out.size
   have hne2:=qa hne
   clear hkey hl hRv hat hrg1 hlt hg1 hs1 hxP hgain hG hne hen
   go_wp2_with (refine qlf (x,(G:Int)) rfl _ rfl rfl ?_;refine qbj ?_)
   refine⟨?_⟩
   go_wp2_with (at_builtin;refine qle (v:= .slice A' es.length c') w.heap.size es (x,(G:Int)) rfl _ _ rfl rfl rfl rfl (fun j u hu => ?_) (HO1.out.alloc _) (by omega) (by simp;omega) (fun A2 c2 w2 ho2 hg2 _ => ?_);all_goals (refine qbj ?_))
   ·
    refine⟨?_⟩
    rw[zm _ _ _ _ rfl]
    simpa using hu
   ·
    refine⟨?_⟩
    have HRG2:=qa ((HRG1.out.alloc (.cells (gv (x,(G:Int))).toArray 281)).kept hg2 (row_ne_low (HO1.out.alloc (.cells (gv (x,(G:Int))).toArray 281)) hBw) (row_ne_iter (HO1.out.alloc (.cells (gv (x,(G:Int))).toArray 281)) (HRG1.out.alloc (.cells (gv (x,(G:Int))).toArray 281))))
    have HO2:=qa ho2
    have HB2:Hid (Below w.heap.size w w2):=(HB1.out.alloc hz1 _).grown hg2 (by simp;omega) (fun q hq=>(zk HO1.out hq).1)
    clear ho2 hg2
    go_wp2_with fail
    go_roundw
    case rel=>exact⟨_,_,es++[(x,(G:Int))],A2,c2,by rw[qd];rfl,HRG2.out,HCO2.out,HLI2.out,HO2.out,HB2.out⟩
    case measure =>
     rw[HRG2.out.left_eq,HRG.out.left_eq]
     exact HLT.out
end
section
open Go.RowKit Go.Maps Go.WideMaps
theorem bag_snoc(T:List (List UInt8)){S:List (List UInt8)}{k:Nat}(hk:k<S.length):ql7 T (S.take (k+1))=ql7 T (S.take k)++qby T [] S[k]:=by
 unfold ql7
 rw[qi hk,qbm,List.flatMap_singleton]
theorem bag_take(T:List (List UInt8)){S:List (List UInt8)}(h:∀s∈S,s.length≤100000):∀k,k≤S.length→(ql7 T (S.take k)).length≤200000*k
 | 0,_=>by simp[ql7]
 | k+1,hk=>by
  have:=bag_take T h k (by omega)
  have h2:=pieces_len T S[k] []
  have h3:=h _ (ql (show k<S.length by omega))
  rw[bag_snoc T (by omega),qd]
  omega
theorem round_any{w:World}(T S:List ByteArray){c d:Nat}{A B:Option Addr}(h:Rd w 0 w.heap.size A c (sv T))(hr:jz (qt T)=true)(hS:Rd w 0 w.heap.size B d (sv S))(hSl:S.length≤400)(hSb:∀s∈S,s.size≤100000) :
  Calls Tryz.prog 220 #[.slice A T.length c,.slice B S.length d] w fun r w'=>∃t A' c',r= .returned (.slice A' t.length c')∧qed (ql7 (qt T) (qt S)) t∧w'.ownsRow w.heap.size 9 1 (.slice A' t.length c') t.length (sv (j4 t))∧Below w.heap.size w w':=by
 have H:=qa h
 have HR:=qa hr
 have HS:=qa hS
 have hl2:=hS.len
 have hm2:=hS.cap
 rw[xr] at hl2
 unfold maxLen at hm2
 have HSB:Hid (∀k (hk:k<S.length),S[k].size≤100000):=fun k hk=>hSb _ (ql hk)
 have HBL:Hid ((qt S).length=S.length):=zb S
 have HBG:Hid (∀k,k≤S.length→(ql7 (qt T) ((qt S).take k)).length≤200000*k):=fun k hk=>bag_take _ (fun s hs=>by
  obtain⟨u,hu,rfl⟩:=za.1 hs
  rw[qje]
  exact hSb u hu) k (by rw[HBL.out];exact hk)
 have HOK:Hid (∀x∈ql7 (qt T) (qt S),x.length≤8):=fun x hx=>bag_ok (vu.1 hr).2.1 hx
 clear h hr hS hSb
 have hmm:=@run_makeMap Tryz.prog
 go_enter Tryz.func220,Tryz.ntmps220
 go_wp2_with fail
 go_loopw [11] (fun x11 wr=>∃(k n1:Nat) (D1:DataW Unit),k≤S.length∧x11= .int .i64 (k:Int)∧qkl wr w.heap.size n1 D1∧n1≤200000*k∧Bag D1 (ql7 (qt T) ((qt S).take k))∧Below w.heap.size w wr) (fun i _=>S.length-(intOf i).toNat)
 case atStart=>exact⟨0,0,.map [],qj _,rfl,World.ownsMap_made _ _ _ _,qj _,Bag.nil,(Below.refl _ _).alloc (qc _) _⟩
 case round =>
  obtain⟨k,n1,D1,hk,rfl,hm1,hn1,hd1,hb⟩:=hrel
  have HM:=qa hm1
  have HD:=qa hd1
  have HB:=qa hb
  have hsz:=hb.size
  clear hm1 hd1 hb hmm
  by_cases hlt:k<S.length
  ·
   obtain⟨b,off,rfl, -, -,hcell⟩:=(HS.out.below HB.out (qc _)).str hlt
   have hs1:=HSB.out k hlt
   have HPC:Hid (ql7 (qt T) ((qt S).take (k+1))=ql7 (qt T) ((qt S).take k)++qby (qt T) [] S[k].data.toList):=by
    unfold Hid
    rw[bag_snoc _ (by rw[HBL.out];exact hlt)]
    unfold qt
    rw[j5]
   have hq:=HBG.out k hk
   have HCN:=qa (tcount_any (w:=wr) T S[k] (H.out.below HB.out (qc _)) HR.out (by omega) HM.out HD.out (by omega) (by omega) (qc _) hsz)
   rw[←HPC.out] at HCN
   generalize S[k]=s at *
   go_wp2_with fail
   refine HCN.out.mono ?_
   rintro r w2 ⟨rfl,n2,D2,hm2,hn2,hd2,ho2⟩
   have HM2:=qa hm2
   have HD2:=qa hd2
   have HB2:Hid (Below w.heap.size w w2):=HB.out.trans (ho2.below hsz (fun k hk=>by rw[hk];exact qc _))
   clear hm2 hd2 ho2
   go_wp2_with fail
   go_roundw
   case rel=>exact⟨k+1,n2,D2,by omega,by go_num,HM2.out,by omega,HD2.out,HB2.out⟩
   case measure=>simp[intOf];omega
  ·
   obtain rfl:k=S.length:=by omega
   have HT:Hid ((qt S).take S.length=qt S):=qp (by rw[HBL.out];exact qc _)
   have hq:=HBG.out _ hk
   have HBS:=qa (best_any (w:=wr) HM.out HD.out (by omega) (by rw[HT.out];exact HOK.out))
   rw[HT.out] at HBS
   go_wp2_with fail
   refine HBS.out.mono ?_
   rintro r w2 ⟨t,A2,c2,rfl,hrd,ho2,hb2⟩
   have HRD:=qa hrd
   have HO2:=qa (j9 ho2 hsz)
   have HB2:=qa (zz HB.out hb2 hsz)
   clear hrd ho2 hb2
   go_wp2_with fail
   go_ret
   exact⟨t,A2,c2,rfl,HRD.out,HO2.out,HB2.out⟩
theorem qbf.right{S:List (List UInt8)}:∀ {k:Nat} {t:List (List UInt8)},qbf S k t→jz t=true
 | 0,t,h=>by
  obtain rfl:t=[]:=h
  rfl
 | k+1,t,⟨u,_,b,_,h⟩=>h.right
theorem train_any{w:World}(S:List ByteArray)(N:Int){d:Nat}{B:Option Addr}(hS:Rd w 0 w.heap.size B d (sv S))(hSl:S.length≤400)(hSb:∀s∈S,s.size≤100000)(hN : -9223372036854775808≤N∧N≤9223372036854775807) :
  Calls Tryz.prog 203 #[.slice B S.length d,.int .i64 N] w fun r w'=>∃t A' c',r= .returned (.slice A' t.length c')∧qbf (qt S) (qgd N) t∧w'.ownsRow w.heap.size 9 1 (.slice A' t.length c') t.length (sv (j4 t))∧Below w.heap.size w w':=by
 have HS:=qa hS
 have HSB:=qa hSb
 clear hS hSb
 obtain⟨R,hR⟩:∃R,qgd N=R:=⟨_,rfl⟩
 rw[hR]
 obtain⟨M,hM⟩:∃M:Int,min N 8=M:=⟨_,rfl⟩
 have hMR:M≤0∧R=0∨M=(R:Int)∧R≤8:=by
  rw[←hR]
  unfold qgd
  split <;> omega
 have hM2:M≤8:=by omega
 clear hR
 go_enter Tryz.func203,Tryz.ntmps203
 go_wp2_with fail
 go_loopw [5,8] (fun x5 x8 wr=>∃(i:Nat) (t:List (List UInt8)) (A':Option Addr) (c':Nat),i≤R∧x8= .int .i64 (i:Int)∧x5= .slice A' t.length c'∧qbf (qt S) i t∧wr.ownsRow w.heap.size 9 1 (.slice A' t.length c') t.length (sv (j4 t))∧Below w.heap.size w wr) (fun _ x8 _=>8-(intOf x8).toNat)
 case atStart=>exact⟨0,[],none,0,qj _,rfl,rfl,rfl,zj _ _ _ _,Below.refl _ _⟩
 case round =>
  obtain⟨i,t,A',c',hi,rfl,rfl,htr,hown,hb⟩:=hrel
  have HT:=qa htr
  have HO:=qa hown
  have HB:=qa hb
  have hsz:=hb.size
  clear htr hown hb
  by_cases hiM:(i:Int)<M
  ·
   have hgo:i+1≤R:=by omega
   have hi8:i<8:=by omega
   have hr1:=(Rd.own HO.out).wide (qj _) (qc _)
   have hbt:=kv t
   have hsl:=yf t
   have HRN:=qa (round_any (w:=wr) (j4 t) S (c:=c') (d:=d) (A:=A') (B:=B) hr1 (by rw[hbt];exact HT.out.right) ((HS.out.below HB.out (qc _)).wide (qc _) hsz) hSl HSB.out)
   rw[hbt,hsl] at HRN
   clear hr1 hbt hsl hi
   go_wp2_with fail
   refine HRN.out.mono ?_
   rintro r w2 ⟨u,A2,c2,rfl,hrd,ho2,hb2⟩
   have HT2:Hid (qbf (qt S) (i+1) u):=⟨t,HT.out,hrd⟩
   have HO2:=qa (j9 ho2 hsz)
   have HB2:Hid (Below w.heap.size w w2):=HB.out.trans (hb2.mono hsz)
   clear hrd ho2 hb2
   go_wp2_with fail
   go_roundw
   case rel=>exact⟨i+1,u,A2,c2,hgo,by go_num,rfl,HT2.out,HO2.out,HB2.out⟩
   case measure=>simp[intOf] <;> omega
  ·
   have hfin:Hid (i=R):=by unfold Hid;omega
   go_wp2_with fail
   go_ret
   exact⟨t,A',c',rfl,by rw[←hfin.out];exact HT.out,HO.out,HB.out⟩
end
theorem ql8(w:World)(base:Nat)(v:Value)(ys cs:List UInt8)(s:ByteArray)(hcs:ys++s.data.toList=cs)(hown:w.ownsRow base 5 1 v ys.length (bv ys))
  (hb:ys.length+s.size≤140737488355328) (hbase:base≤w.heap.size) :
  ∃A' c' w',(Builtin.append_ #[36,9] 36 #[v,.string s]).run Tryz.prog w= .ok (.slice A' cs.length c') w'∧
   w'.ownsRow base 5 1 (.slice A' cs.length c') cs.length (bv cs)∧w.grownBy w' v.ownBlock:=by
 subst hcs
 obtain⟨i0,hi0,hi1⟩:=Option.map_eq_some_iff.1 Tryz.infoU8
 injection hi1 with hz0 hz1
 injection hz1 with hz1 hz2
 obtain⟨A1,c1,w1,hrun,ho1,hg1, -⟩:=qh7 (P:=Tryz.prog) w base 36 9 36 5 i0 Tryz.underlying36 Tryz.underlying9 hi0 hz0 hz1 hz2 _ ys.length (bv ys) hown s hb hbase
 have hl:(ys++s.data.toList).length=ys.length+s.size:=by rw[qd,jo];rfl
 rw[hl,qg5]
 exact⟨A1,c1,w1,hrun,ho1,hg1⟩
theorem sput_yes{w:World}(l:List ByteArray){c:Nat}{A:Option Addr}(h:Rd w 0 w.heap.size A c (sv l))(hr:jz (qt l)=true) :
  Calls Tryz.prog 205 #[.slice A l.length c] w fun r w'=>∃A' c',r= .returned (.tuple #[.slice A' (qeq (qt l)).length c',.int .i64 0])∧w'.ownsRow w.heap.size 5 1 (.slice A' (qeq (qt l)).length c') (qeq (qt l)).length (bv (qeq (qt l)))∧Below w.heap.size w w':=by
 have hl:=h.len
 have hm:=h.cap
 rw[xr] at hl
 unfold maxLen at hm
 have hl5:l.length≤255:=by have:=(vu.1 hr).1;rw[zb] at this;exact this
 have h8:∀s∈l,s.size≤8:=fun s hs=>by
  have:=(vu.1 hr).2.1 s.data.toList (vx hs)
  have:=(qeb.1 this).2
  rw[jo] at this
  exact this
 have HR:=qa (sright_any l h fun s hs=>by have:=h8 s hs;omega)
 rw[hr] at HR
 have H:=qa h
 have H8:Hid (∀k (hk:k<l.length),l[k].size≤8):=fun k hk=>h8 _ (ql hk)
 have hb0:(UInt8.ofNat l.length).toNat=l.length:=by simp;omega
 have hlit:∀w:World,(w.alloc (.cells #[.int .u8 (l.length:Int)] 5)).ownsRow w.heap.size 5 1 (.slice (some ⟨w.heap.size,0,none⟩) 1 1) 1 (bv [UInt8.ofNat l.length]):=fun w=>by
  have:=World.ownsRow_lit (e:=5) (size:=1) (base:=w.heap.size) w #[.int .u8 (l.length:Int)] 1 (qc _) (by simp[maxLen]) (by simp)
  simpa[bv,hb0] using this
 have HL:=qa hlit
 clear h h8 hlit hb0 hr
 go_enter Tryz.func205,Tryz.ntmps205
 go_wp2_with fail
 refine HR.out.mono ?_
 rintro r w' ⟨rfl,m,rfl⟩
 have HB0:Hid (Below w.heap.size w ((w.drewN m).alloc (.cells #[.int .u8 (l.length:Int)] 5))):=(js (Below.refl _ w) m).alloc (qc _) _
 clear HR
 go_wp2_with fail
 go_loopw [4,16] (fun x3 x4 wr=>∃(k:Nat) (ys:List UInt8) (A':Option Addr) (c':Nat),k≤l.length∧x4= .int .i64 (k:Int)∧x3= .slice A' ys.length c'∧ys.length≤1+9*k∧ys=UInt8.ofNat l.length :: ((qt l).take k).flatMap (fun s=>UInt8.ofNat s.length :: s)∧
  wr.ownsRow w.heap.size 5 1 (.slice A' ys.length c') ys.length (bv ys)∧Below w.heap.size w wr) (fun _ i _=>l.length-(intOf i).toNat)
 case atStart=>exact⟨0,[UInt8.ofNat l.length],_,_,qj _,rfl,rfl,by simp,by simp,HL.out _,HB0.out⟩
 case round =>
  clear HL HB0
  obtain⟨k,ys,A',c',hk,rfl,rfl,hyl,hys,hown,hb⟩:=hrel
  have HYS:=qa hys
  have HO:=qa hown
  have HB:=qa hb
  have hsz:=hb.size
  clear hys hown hb
  by_cases hlt:k<l.length
  ·
   have ik:(k:Int)<(l.length:Int):=by omega
   obtain⟨b,off,rfl,_,hbh,hcell⟩:=(H.out.below HB.out (qc _)).str hlt
   have hs8:=H8.out k hlt
   have HPT:=qa (put_take hlt)
   generalize l[k]=s at *
   have hbs:(UInt8.ofNat s.size).toNat=s.size:=by simp;omega
   have hsl:s.data.toList.length=s.size:=by rw[jo];rfl
   go_wp2_with (at_builtin;refine qcs (v:= .slice A' ys.length c') w.heap.size ys (UInt8.ofNat s.size) rfl _ _ rfl rfl rfl rfl (by rw[hbs,zm _ _ _ _ rfl];rfl) (HO.out.alloc _) (by omega) (by simp;omega) ?_;intro A2 c2 w2 ho2 hg2;refine qbj ?_)
   have hb2w:Below w.heap.size w w2:=(HB.out.alloc hsz _).grown hg2 (by simp;omega) (fun q hq=>(zk HO.out hq).1)
   have hsz2:=hb2w.size
   have hyl2:(ys++[UInt8.ofNat s.size]).length=ys.length+1:=by simp
   obtain⟨zs,hzs⟩:∃zs,ys++UInt8.ofNat s.size :: s.data.toList=zs:=⟨_,rfl⟩
   have hzl:zs.length=ys.length+(s.size+1):=by rw[←hzs,qd,qo,hsl]
   obtain⟨A3,c3,w3,hrun,hown3,hg3⟩:=ql8 w2 w.heap.size _ (ys++[UInt8.ofNat s.size]) zs s (by rw[←hzs];simp) ho2 (by omega) hsz2
   have hb3w:Below w.heap.size w w3:=hb2w.grown hg3 (by omega) (fun q hq=>(zk ho2 hq).1)
   rw[hyl2] at hrun
   have HZL:Hid (zs.length≤1+9*(k+1)):=by unfold Hid;omega
   have HZS:=qa hzs
   have HO3:=qa hown3
   have HB3:=qa hb3w
   clear hown3 hg3 hb3w ho2 hg2 hb2w hzl hzs hyl2 hsl hbs
   refine⟨?_⟩
   go_wp2_with (at_builtin;refine wpList_append_run rfl _ _ _ _ rfl rfl rfl hrun ?_)
   go_roundw
   case rel =>
    refine⟨k+1,zs,A3,c3,by omega,by go_num,rfl,HZL.out,?_,HO3.out,HB3.out⟩
    rw[HPT.out,←HZS.out,HYS.out];rfl
   case measure=>simp[intOf] <;> omega
  ·
   have ik:¬(k:Int)<(l.length:Int):=by omega
   have hfin:ys=qeq (qt l):=by
    rw[HYS.out,qp (by simp[qt];omega)]
    simp[qeq,qt]
   have HF:=qa hfin
   clear hfin
   go_wp2_with fail
   go_ret2
   exact⟨A',c',by rw[←HF.out];rfl,by rw[←HF.out];exact HO.out,HB.out⟩
end Go.Proofs.YtjfecojdagmacaaGreat
