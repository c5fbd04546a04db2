/-
  Lemmas.
-/
import Derived.Test.YtjfecojdagmacaaGreatE10
import Derived.Great.BuildSlice
import Derived.Maps.AppendAt
import Derived.Maps.OwnOps
import Derived.Maps.Range
import Derived.Shelf.SlSortCmp.NoneTotal
import Derived.Sort.OwnSorted
namespace Go.Proofs.YtjfecojdagmacaaGreat
open Go.RowKit
set_option maxRecDepth 20000
set_option maxHeartbeats 16000000
set_option linter.unusedSimpArgs false
set_option linter.unusedVariables false
section
open Go.Maps
def zi(c:Int):DataW Unit:= .lit (.int .i64 c)
structure Bag (D:DataW Unit) (P:List (List UInt8)):Prop where
 map:IsMap D
 at_:∀x,D.atKey (.string x) (zi 0)=zi (P.count x:Nat)
 has:∀x,Maps.has D (.string x)=decide (x∈P)
theorem Bag.nil:Bag (.map []) []:=⟨isMap_empty,fun _=>rfl,fun _=>rfl⟩
theorem Bag.count{D:DataW Unit}{P:List (List UInt8)}(h:Bag D P){x:List UInt8}{c:Int}(hc:D.atKey (.string x) (.lit (.int .i64 0))= .lit (.int .i64 c)):c=(P.count x:Nat):=by
 have:=(h.at_ x).symm.trans hc
 simp only[zi] at this
 injection this with this
 injection this with _ this
 exact this.symm
theorem Bag.put{D:DataW Unit}{P:List (List UInt8)}(h:Bag D P)(x:List UInt8):Bag (D.put (.string x) (.lit (.int .i64 ((P.count x:Nat)+1)))) (P++[x]):=by
 have hne:∀y,y≠x→(Lit.string y)≠Lit.string x:=fun y hy e=>hy (by injection e)
 refine⟨h.map.put _ _,fun y => ?_,fun y => ?_⟩
 ·
  by_cases hy:y=x
  ·
   subst hy
   rw[atKey_put_same h.map (show WideAt.IsKeyLit (Lit.string y) from trivial)]
   unfold zi
   congr 2
   simp
  ·
   rw[atKey_put_other (hne y hy),h.at_ y]
   unfold zi
   congr 2
   rw[List.count_append,List.count_singleton]
   have:(x==y)=false:=q9.2 (fun e=>hy e.symm)
   rw[this]
   simp
 ·
  by_cases hy:y=x
  ·
   subst hy
   rw[has_put_same h.map (show WideAt.IsKeyLit (Lit.string y) from trivial)]
   simp
  ·
   rw[has_put_other (hne y hy),h.has y]
   simp[hy]
theorem pieces_step(T:List (List UInt8))(l:List UInt8){a l0 e:Nat}(ha:a<l.length)(h0:l0≤a)(hlt:0<a→l0<a)(he:qb3 T (l.drop a)=e) :
  qby T ((l.take a).drop l0) (l.drop a)=(l.take (a+e)).drop a :: ((if 0<a∧a+e-l0≤8 then [(l.take (a+e)).drop l0] else [])++qby T ((l.take (a+e)).drop a) (l.drop (a+e))):=by
 have hne:l.drop a≠[]:=fun h=>by
  have:=congrArg List.length h
  simp at this
  omega
 have hp:(l.drop a).take e=(l.take (a+e)).drop a:=by rw[List.drop_take,show a+e-a=e by omega]
 have hle:=qkq (T:=T) hne
 rw[he,qv] at hle
 rw[qif T _ hne,he,hp,zu]
 have hlast:(l.take a).drop l0++(l.take (a+e)).drop a=(l.take (a+e)).drop l0:=by
  have h1:l.take (a+e)=l.take a++(l.take (a+e)).drop a:=by
   conv=>lhs;rw[←zw a (l.take (a+e))]
   rw[List.take_take,vr (by omega)]
  conv=>rhs;rw[h1]
  rw[List.drop_append_of_le_length (by rw[qy];omega)]
 have hln:((l.take a).drop l0).length=a-l0:=by rw[qv,qy];omega
 have hiff:((l.take a).drop l0≠[]∧((l.take a).drop l0).length+e≤8)↔(0<a∧a+e-l0≤8):=by
  rw[hln]
  constructor
  ·
   rintro⟨h1,h2⟩
   have:0<a-l0:=by
    rw[←hln]
    exact List.length_pos_iff.2 h1
   omega
  ·
   rintro⟨h1,h2⟩
   have:=hlt h1
   exact⟨fun hx=>by rw[hx] at hln;simp at hln;omega,by omega⟩
 rw[hlast]
 simp only[hiff]
end
section
open Go.RowKit Go.Maps Go.WideMaps
theorem Tryz.keyStr:Keyed Tryz.prog 9:=string_keyed Tryz.underlying9
def qkl(w:World)(B n:Nat)(D:DataW Unit):Prop:=w.ownsMap Tryz.prog 9 (plainElem Tryz.prog 3) B n D
theorem qkl.out{w w':World}{B n:Nat}{D:DataW Unit}{X:Nat→Prop}(h:qkl w B n D)(ho:Out w w' X)(hB:¬X B):qkl w' B n D:=by
 have hlt:=h.lt
 obtain⟨es,clock,hb,rest⟩:=h
 exact⟨es,clock,(ho.block B hlt hB).trans hb,rest⟩
theorem extT(s:ByteArray)(i j:Nat):(s.extract i j).data.toList=(s.data.toList.take j).drop i:=by
 rw[ByteArray.data_extract,Array.toList_extract,qci,List.drop_take]
theorem tcount_any{w:World}(T:List ByteArray)(s:ByteArray){lo hi c:Nat}{A:Option Addr}(h:Rd w lo hi A c (sv T))(hr:jz (qt T)=true)(hs:s.size≤100000000){B n:Nat}{D:DataW Unit}{P:List (List UInt8)}
  (hm:qkl w B n D) (hD:Bag D P) (hP:P.length≤1000000000) (hn:n≤1000000000) (hB:hi≤B) (hhi:hi≤w.heap.size) :
  Calls Tryz.prog 239 #[.map (some B),.slice A T.length c,.string s] w fun r w'=>r= .returned (.tuple #[])∧∃n' D',qkl w' B n' D'∧n'≤n+2*s.size∧Bag D' (P++qby (qt T) [] s.data.toList)∧Out w w' (fun k=>k=B):=by
 have H:=qa h
 have HR:=qa hr
 have HM0:=qa hm
 have HD0:=qa hD
 clear h hr hm hD
 obtain⟨R,hR⟩:∃R,P++qby (qt T) [] s.data.toList=R:=⟨_,rfl⟩
 rw[hR]
 have HRR:=qa hR
 clear hR
 have HSL:=qa (qje s)
 go_enter Tryz.func239,Tryz.ntmps239
 go_wp2_with fail
 go_loopw [6,7] (fun x6 x7 wr=>∃(a l0 n':Nat) (D':DataW Unit) (Q:List (List UInt8)),a≤s.size∧l0≤a∧(0<a→l0<a)∧x6= .int .i64 (l0:Int)∧x7= .int .i64 (a:Int)∧qkl wr B n' D'∧n'≤n+2*a∧Bag D' Q∧
  Q++qby (qt T) ((s.data.toList.take a).drop l0) (s.data.toList.drop a)=R∧Q.length≤P.length+2*a∧Out w wr (fun k=>k=B)) (fun _ i _=>s.size-(intOf i).toNat)
 case atStart=>exact⟨0,0,n,D,P,qj _,qj _,fun h=>absurd h (qay _),rfl,rfl,HM0.out,qc _,HD0.out,HRR.out,qc _,Out.refl _ _⟩
 case round =>
  obtain⟨a,l0,n1,D1,Q,ha,hl0,hla,rfl,rfl,hm1,hn1,hd1,hpc,hql,ho1⟩:=hrel
  have HM:=qa hm1
  have HD:=qa hd1
  have HPC:=qa hpc
  have HQ:=qa hql
  have HO:=qa ho1
  have HLA:=qa hla
  have hsz:=ho1.size
  clear hm1 hd1 hpc hql ho1 hla
  by_cases hlt:a<s.size
  ·
   obtain⟨v,hv⟩:∃v,qb4 (qt T) (s.data.toList.drop a)=v:=⟨_,rfl⟩
   have HLG:=qa (fun w2 (hb2:Rd w2 lo hi A c (sv T))=>qkd (w2:=w2) T (s.extract a s.size) hb2 HR.out (by rw[xk];omega) v (by rw[tailS];exact hv))
   obtain⟨e,he⟩:∃e,qb3 (qt T) (s.data.toList.drop a)=e:=⟨_,rfl⟩
   have hmax:max ((v.2:Nat):Int) 1=(e:Int):=by
    rw[←he]
    unfold qb3
    rw[hv]
    split <;> omega
   have hne:s.data.toList.drop a≠[]:=fun e=>by
    have:=congrArg List.length e
    rw[qv,qje] at this
    simp at this
    omega
   have hle:=qkq (T:=qt T) hne
   have he1:=qgw (qt T) (s.data.toList.drop a)
   rw[he] at hle he1
   rw[qv,qje] at hle
   have HPS:=qa (pieces_step (qt T) s.data.toList (by rw[qje];exact hlt) hl0 HLA.out he)
   obtain⟨v1,v2⟩:=v
   clear hv he hne
   simp only[] at *
   generalize ((v2:Nat):Int)=z at *
   obtain⟨x1,hx1⟩:∃x,(s.extract a (a+e)).data.toList=x:=⟨_,rfl⟩
   obtain⟨x2,hx2⟩:∃x,(s.extract l0 (a+e)).data.toList=x:=⟨_,rfl⟩
   have HK1:=qa (keyOf_string_mk (P:=Tryz.prog) Tryz.underlying9 (s:=s.extract a (a+e)) (by unfold maxLen;rw[xk];omega))
   have HK2:=qa (keyOf_string_mk (P:=Tryz.prog) Tryz.underlying9 (s:=s.extract l0 (a+e)) (by unfold maxLen;rw[xk];omega))
   rw[hx1] at HK1
   rw[hx2] at HK2
   rw[extT] at hx1 hx2
   have HX1:=qa hx1
   have HX2:=qa hx2
   clear hx1 hx2
   have HQ1:Hid ((Q++[x1]).length≤P.length+2*a+1):=by
    unfold Hid
    have:=HQ.out
    rw[qd,zx]
    omega
   have hla2:=HLA.out
   by_cases h2:0<a∧a+e-l0≤8
   ·
    obtain⟨h0a,h8⟩:=h2
    have ia:(0:Int)<(a:Int):=by omega
    have i8:(a:Int)+(e:Int)-(l0:Int)≤8:=by omega
    have HPC2:Hid (Q++[x1]++[x2]++qby (qt T) ((s.data.toList.take (a+e)).drop a) (s.data.toList.drop (a+e))=R):=by
     unfold Hid
     rw[←HPC.out,HPS.out,if_pos ⟨h0a,h8⟩,←HX1.out,←HX2.out]
     simp only[qm,z7,xu]
    have HQL:Hid ((Q++[x1]++[x2]).length≤P.length+2*(a+e)):=by
     unfold Hid
     have:=HQ1.out
     rw[qd,zx]
     omega
    clear HPS
    go_wp2_with fail
    refine(HLG.out _ (H.out.out HO.out hhi (fun k _ h2 h3=>by omega))).mono ?_
    rintro r w1 ⟨rfl,m,rfl⟩
    have HM1:Hid (qkl (wr.drewN m) B n1 D1):=HM.out.out (X:=fun _=>False) ((Out.refl _ _).drewN m) (fun h=>h)
    have HO1:=qa (HO.out.drewN m)
    generalize wr.drewN m=w1 at *
    go_wp2_with (at_lookup;refine wpList_lookup_own_int _ rfl _ _ 274 rfl 9 3 .i64 Tryz.keyStr Tryz.underlying274 Tryz.underlying3 (Tryz.zeroValue3 _) B n1 D1 rfl HM1.out _ _ rfl HK1.out ?_;refine qbj ?_)
    refine⟨?_⟩
    intro k1 hat hwc
    have hk:=HD.out.count hat
    clear hat hwc
    have HBk1:=qa (HD.out.put x1)
    have HCk1:Hid ((Q).count x1≤10000000000):=zc qa7 (by have:=HQ.out;omega)
    generalize (Q).count x1=qk1 at *
    subst hk
    have bk1:qk1≤10000000000:=HCk1.out
    go_wp2_with (at_mapUpdate;refine wpList_mapUpdate_own _ rfl _ _ _ 274 rfl 9 3 Tryz.keyStr Tryz.underlying274 _ B n1 D1 rfl HM1.out (by unfold maxLen;omega) _ _ _ rfl rfl HK1.out _ [] (plainElem_int Tryz.underlying3 (by go_wf)) ?_;refine qbj ?_)
    refine⟨?_⟩
    intro w2 hm2 hg2
    have HM2:Hid (qkl w2 B (n1+1) _):=hm2
    have HO2:Hid (Out w w2 (fun k=>k=B)):=HO1.out.trans (Out.of_gb (X:=fun k=>k=B) hg2 (fun k hk=>by cases hk;rfl)) (fun _ _ h=>h)
    clear hm2 hg2
    go_wp2_with (at_lookup;refine wpList_lookup_own_int _ rfl _ _ 274 rfl 9 3 .i64 Tryz.keyStr Tryz.underlying274 Tryz.underlying3 (Tryz.zeroValue3 _) B (n1+1) _ rfl HM2.out _ _ rfl HK2.out ?_;refine qbj ?_)
    refine⟨?_⟩
    intro k2 hat hwc
    have hk:=HBk1.out.count hat
    clear hat hwc
    have HBk2:=qa (HBk1.out.put x2)
    have HCk2:Hid ((Q++[x1]).count x2≤10000000000):=zc qa7 (by have:=HQ1.out;omega)
    generalize (Q++[x1]).count x2=qk2 at *
    subst hk
    have bk2:qk2≤10000000000:=HCk2.out
    go_wp2_with (at_mapUpdate;refine wpList_mapUpdate_own _ rfl _ _ _ 274 rfl 9 3 Tryz.keyStr Tryz.underlying274 _ B (n1+1) _ rfl HM2.out (by unfold maxLen;omega) _ _ _ rfl rfl HK2.out _ [] (plainElem_int Tryz.underlying3 (by go_wf)) ?_;refine qbj ?_)
    refine⟨?_⟩
    intro w3 hm2 hg2
    have HM3:Hid (qkl w3 B ((n1+1)+1) _):=hm2
    have HO3:Hid (Out w w3 (fun k=>k=B)):=HO2.out.trans (Out.of_gb (X:=fun k=>k=B) hg2 (fun k hk=>by cases hk;rfl)) (fun _ _ h=>h)
    clear hm2 hg2
    go_wp2_with fail
    go_roundw
    case rel=>exact⟨a+e,a,(n1+1+1),_,(Q++[x1]++[x2]),by omega,by omega,by omega,by go_num,by go_num,HM3.out,by omega,HBk2.out,HPC2.out,HQL.out,HO3.out⟩
    case measure=>simp[intOf] <;> omega
   ·
    have HPC2:Hid (Q++[x1]++qby (qt T) ((s.data.toList.take (a+e)).drop a) (s.data.toList.drop (a+e))=R):=by
     unfold Hid
     rw[←HPC.out,HPS.out,if_neg h2,←HX1.out]
     simp only[qm,z7,xu]
    have HQL:Hid ((Q++[x1]).length≤P.length+2*(a+e)):=by
     unfold Hid
     have:=HQ1.out
     omega
    clear HPS
    by_cases h0a:0<a
    ·
     have ia:(0:Int)<(a:Int):=by omega
     have i8:¬(a:Int)+(e:Int)-(l0:Int)≤8:=by omega
     clear h2
     go_wp2_with fail
     refine(HLG.out _ (H.out.out HO.out hhi (fun k _ h2 h3=>by omega))).mono ?_
     rintro r w1 ⟨rfl,m,rfl⟩
     have HM1:Hid (qkl (wr.drewN m) B n1 D1):=HM.out.out (X:=fun _=>False) ((Out.refl _ _).drewN m) (fun h=>h)
     have HO1:=qa (HO.out.drewN m)
     generalize wr.drewN m=w1 at *
     go_wp2_with (at_lookup;refine wpList_lookup_own_int _ rfl _ _ 274 rfl 9 3 .i64 Tryz.keyStr Tryz.underlying274 Tryz.underlying3 (Tryz.zeroValue3 _) B n1 D1 rfl HM1.out _ _ rfl HK1.out ?_;refine qbj ?_)
     refine⟨?_⟩
     intro k1 hat hwc
     have hk:=HD.out.count hat
     clear hat hwc
     have HBk1:=qa (HD.out.put x1)
     have HCk1:Hid ((Q).count x1≤10000000000):=zc qa7 (by have:=HQ.out;omega)
     generalize (Q).count x1=qk1 at *
     subst hk
     have bk1:qk1≤10000000000:=HCk1.out
     go_wp2_with (at_mapUpdate;refine wpList_mapUpdate_own _ rfl _ _ _ 274 rfl 9 3 Tryz.keyStr Tryz.underlying274 _ B n1 D1 rfl HM1.out (by unfold maxLen;omega) _ _ _ rfl rfl HK1.out _ [] (plainElem_int Tryz.underlying3 (by go_wf)) ?_;refine qbj ?_)
     refine⟨?_⟩
     intro w2 hm2 hg2
     have HM2:Hid (qkl w2 B (n1+1) _):=hm2
     have HO2:Hid (Out w w2 (fun k=>k=B)):=HO1.out.trans (Out.of_gb (X:=fun k=>k=B) hg2 (fun k hk=>by cases hk;rfl)) (fun _ _ h=>h)
     clear hm2 hg2
     go_wp2_with fail
     go_roundw
     case rel=>exact⟨a+e,a,(n1+1),_,(Q++[x1]),by omega,by omega,by omega,by go_num,by go_num,HM2.out,by omega,HBk1.out,HPC2.out,HQL.out,HO2.out⟩
     case measure=>simp[intOf] <;> omega
    ·
     have ia:¬(0:Int)<(a:Int):=by omega
     clear h2
     go_wp2_with fail
     refine(HLG.out _ (H.out.out HO.out hhi (fun k _ h2 h3=>by omega))).mono ?_
     rintro r w1 ⟨rfl,m,rfl⟩
     have HM1:Hid (qkl (wr.drewN m) B n1 D1):=HM.out.out (X:=fun _=>False) ((Out.refl _ _).drewN m) (fun h=>h)
     have HO1:=qa (HO.out.drewN m)
     generalize wr.drewN m=w1 at *
     go_wp2_with (at_lookup;refine wpList_lookup_own_int _ rfl _ _ 274 rfl 9 3 .i64 Tryz.keyStr Tryz.underlying274 Tryz.underlying3 (Tryz.zeroValue3 _) B n1 D1 rfl HM1.out _ _ rfl HK1.out ?_;refine qbj ?_)
     refine⟨?_⟩
     intro k1 hat hwc
     have hk:=HD.out.count hat
     clear hat hwc
     have HBk1:=qa (HD.out.put x1)
     have HCk1:Hid ((Q).count x1≤10000000000):=zc qa7 (by have:=HQ.out;omega)
     generalize (Q).count x1=qk1 at *
     subst hk
     have bk1:qk1≤10000000000:=HCk1.out
     go_wp2_with (at_mapUpdate;refine wpList_mapUpdate_own _ rfl _ _ _ 274 rfl 9 3 Tryz.keyStr Tryz.underlying274 _ B n1 D1 rfl HM1.out (by unfold maxLen;omega) _ _ _ rfl rfl HK1.out _ [] (plainElem_int Tryz.underlying3 (by go_wf)) ?_;refine qbj ?_)
     refine⟨?_⟩
     intro w2 hm2 hg2
     have HM2:Hid (qkl w2 B (n1+1) _):=hm2
     have HO2:Hid (Out w w2 (fun k=>k=B)):=HO1.out.trans (Out.of_gb (X:=fun k=>k=B) hg2 (fun k hk=>by cases hk;rfl)) (fun _ _ h=>h)
     clear hm2 hg2
     go_wp2_with fail
     go_roundw
     case rel=>exact⟨a+e,a,(n1+1),_,(Q++[x1]),by omega,by omega,by omega,by go_num,by go_num,HM2.out,by omega,HBk1.out,HPC2.out,HQL.out,HO2.out⟩
     case measure=>simp[intOf] <;> omega
  ·
   obtain rfl:a=s.size:=by omega
   have HFIN:Hid (Q=R):=by
    unfold Hid
    rw[←HPC.out,List.drop_of_length_le (l:=s.data.toList) (by rw[qje];exact qc _),pieces_nil,jd]
   go_wp2_with fail
   go_end0
   exact⟨rfl,n1,D1,HM.out,hn1,by rw[←HFIN.out];exact HD.out,HO.out⟩
end
section
set_option maxRecDepth 100000
def gsren:Go.Shelf.Ren:=⟨fun | 6=>248 | 14=>252 | 15=>101 | 20=>256 | 21=>257 | 22=>258 | 23=>259 | 24=>260 | 25=>261 | 26=>262 | 27=>263 | 28=>145 | 29=>146 | 46=>264 | 47=>172 | 48=>173 | 49=>265 | 50=>266 | 57=>267 | n=>n,fun | 0=>0 | 1=>1 | 2=>2 | 3=>3 | 4=>4 | 5=>5 | 6=>6 | 7=>7 | 8=>8 | 9=>9 | 10=>10 | 11=>11 | 12=>12 | 13=>13 | 14=>14 | 15=>15 | 16=>16 | 17=>17 | 18=>18 | 19=>19 | 20=>20 | 21=>21 | 22=>279 | 23=>282 | 24=>281 | 25=>283 | 27=>58 | 29=>215 | 37=>285 | 38=>160 | 39=>119 | 42=>193 | 44=>287 | 45=>196 | 46=>197 | 47=>288 | 48=>289 | 49=>290 | 50=>202 | 51=>291 | 52=>204 | 53=>102 | 54=>205 | 55=>206 | 66=>227 | 67=>228 | 68=>229 | 69=>292 | 70=>231 | 71=>293 | 76=>250 | 77=>154 | 78=>294 | 81=>258 | 82=>295 | 83=>296 | 84=>297 | 85=>298 | 86=>299 | 87=>118 | 88=>300 | 89=>301 | 90=>302 | 91=>273 | 92=>303 | 93=>304 | 94=>305 | 95=>306 | 96=>307 | n=>n,fun n=>n⟩
theorem gslays:Go.Proofs.SlLaysF0.n6 Tryz.prog gsren:={
 mixed:=by kernel_rfl
 f6 := ⟨ "slices.SortFunc[[]hopper/train.gained,hopper/train.gained]", by decide, Tryz.func248.trans (congrArg some (by kernel_rfl))⟩
 f14 := ⟨ "slices.pdqsortCmpFunc[hopper/train.gained]", by decide, Tryz.func252.trans (congrArg some (by kernel_rfl))⟩
 f15:=Tryz.func101.trans (congrArg some (by kernel_rfl))
 f20 := ⟨ "slices.insertionSortCmpFunc[hopper/train.gained]", by decide, Tryz.func256.trans (congrArg some (by kernel_rfl))⟩
 f21 := ⟨ "slices.heapSortCmpFunc[hopper/train.gained]", by decide, Tryz.func257.trans (congrArg some (by kernel_rfl))⟩
 f22 := ⟨ "slices.breakPatternsCmpFunc[hopper/train.gained]", by decide, Tryz.func258.trans (congrArg some (by kernel_rfl))⟩
 f23 := ⟨ "slices.choosePivotCmpFunc[hopper/train.gained]", by decide, Tryz.func259.trans (congrArg some (by kernel_rfl))⟩
 f24 := ⟨ "slices.reverseRangeCmpFunc[hopper/train.gained]", by decide, Tryz.func260.trans (congrArg some (by kernel_rfl))⟩
 f25 := ⟨ "slices.partialInsertionSortCmpFunc[hopper/train.gained]", by decide, Tryz.func261.trans (congrArg some (by kernel_rfl))⟩
 f26 := ⟨ "slices.partitionEqualCmpFunc[hopper/train.gained]", by decide, Tryz.func262.trans (congrArg some (by kernel_rfl))⟩
 f27 := ⟨ "slices.partitionCmpFunc[hopper/train.gained]", by decide, Tryz.func263.trans (congrArg some (by kernel_rfl))⟩
 f28:=Tryz.func145.trans (congrArg some (by kernel_rfl))
 f29:=Tryz.func146.trans (congrArg some (by kernel_rfl))
 f46 := ⟨ "slices.siftDownCmpFunc[hopper/train.gained]", by decide, Tryz.func264.trans (congrArg some (by kernel_rfl))⟩
 f47:=Tryz.func172.trans (congrArg some (by kernel_rfl))
 f48:=Tryz.func173.trans (congrArg some (by kernel_rfl))
 f49 := ⟨ "slices.medianAdjacentCmpFunc[hopper/train.gained]", by decide, Tryz.func265.trans (congrArg some (by kernel_rfl))⟩
 f50 := ⟨ "slices.medianCmpFunc[hopper/train.gained]", by decide, Tryz.func266.trans (congrArg some (by kernel_rfl))⟩
 f57 := ⟨ "slices.order2CmpFunc[hopper/train.gained]", by decide, Tryz.func267.trans (congrArg some (by kernel_rfl))⟩
 t0:=Tryz.underlying0
 a0:=Tryz.isAgg0
 z0:=Tryz.sizeOf0
 v0:=Tryz.zeroValue0
 t3:=Tryz.underlying3
 a3:=Tryz.isAgg3
 z3:=Tryz.sizeOf3
 v3:=Tryz.zeroValue3
 t4:=Tryz.underlying4
 a4:=Tryz.isAgg4
 z4:=Tryz.sizeOf4
 v4:=Tryz.zeroValue4
 t5:=Tryz.underlying5
 a5:=Tryz.isAgg5
 z5:=Tryz.sizeOf5
 v5:=Tryz.zeroValue5
 t9:=Tryz.underlying9
 a9:=Tryz.isAgg9
 z9:=Tryz.sizeOf9
 v9:=Tryz.zeroValue9
 t22:=Tryz.underlying279
 a22:=Tryz.isAgg279
 z22:=Tryz.sizeOf279
 v22:=Tryz.zeroValue279
 t25:=Tryz.underlying283
 a25:=Tryz.isAgg283
 z25:=Tryz.sizeOf283
 v25:=Tryz.zeroValue283
 t39:=Tryz.underlying119
 a39:=Tryz.isAgg119
 z39:=Tryz.sizeOf119
 v39:=Tryz.zeroValue119
 t45:=Tryz.underlying196
 a45:=Tryz.isAgg196
 z45:=Tryz.sizeOf196
 v45:=Tryz.zeroValue196
 t46:=Tryz.underlying197
 a46:=Tryz.isAgg197
 z46:=Tryz.sizeOf197
 v46:=Tryz.zeroValue197
 t50:=Tryz.underlying202
 a50:=Tryz.isAgg202
 z50:=Tryz.sizeOf202
 v50:=Tryz.zeroValue202
 t53:=Tryz.underlying102
 a53:=Tryz.isAgg102
 z53:=Tryz.sizeOf102
 v53:=Tryz.zeroValue102
 t55:=Tryz.underlying206
 a55:=Tryz.isAgg206
 z55:=Tryz.sizeOf206
 v55:=Tryz.zeroValue206
 t66:=Tryz.underlying227
 a66:=Tryz.isAgg227
 z66:=Tryz.sizeOf227
 v66:=Tryz.zeroValue227
 t70:=Tryz.underlying231
 a70:=Tryz.isAgg231
 z70:=Tryz.sizeOf231
 v70:=Tryz.zeroValue231
 t76:=Tryz.underlying250
 a76:=Tryz.isAgg250
 z76:=Tryz.sizeOf250
 v76:=Tryz.zeroValue250
 t77:=Tryz.underlying154
 a77:=Tryz.isAgg154
 z77:=Tryz.sizeOf154
 v77:=Tryz.zeroValue154
 }
end
def cmpIn(x y:Int):Int:=if x<y then -1 else if y<x then 1 else 0
theorem nan_int(x:Int)(w:World):Calls Tryz.prog 247 #[.int .i64 x] w fun e w'=>e= .returned (.bool false)∧w=w':=by
 go_enter Tryz.func247,Tryz.ntmps247
 go_wp2
 go_ret
 exact⟨by simp,rfl⟩
theorem nan_str(x:ByteArray)(w:World):Calls Tryz.prog 176 #[.string x] w fun e w'=>e= .returned (.bool false)∧w=w':=by
 go_enter Tryz.func176,Tryz.ntmps176
 go_wp2
 go_ret
 exact⟨by simp,rfl⟩
theorem cmpint_any(x y:Int)(w:World):Calls Tryz.prog 254 #[.int .i64 x,.int .i64 y] w fun e w'=>e= .returned (.int .i64 (cmpIn x y))∧w=w':=by
 unfold cmpIn
 by_cases h1:x<y
 ·
  rw[if_pos h1]
  go_enter Tryz.func254,Tryz.ntmps254
  go_wp2_with (go_at_call 247;refine(nan_int _ _).mono ?_;rintro e w' ⟨rfl,rfl⟩)
  go_ret
  exact⟨rfl,rfl⟩
 ·
  rw[if_neg h1]
  by_cases h2:y<x
  ·
   rw[if_pos h2]
   go_enter Tryz.func254,Tryz.ntmps254
   go_wp2_with (go_at_call 247;refine(nan_int _ _).mono ?_;rintro e w' ⟨rfl,rfl⟩)
   go_ret
   exact⟨rfl,rfl⟩
  ·
   rw[if_neg h2]
   go_enter Tryz.func254,Tryz.ntmps254
   go_wp2_with (go_at_call 247;refine(nan_int _ _).mono ?_;rintro e w' ⟨rfl,rfl⟩)
   go_ret
   exact⟨rfl,rfl⟩
theorem cmpstr_any(x y:ByteArray)(w:World):Calls Tryz.prog 255 #[.string x,.string y] w fun e w'=>e= .returned (.int .i64 (xd x.data.toList y.data.toList))∧w=w':=by
 have h1:=qg1 x y
 have h2:=qg1 y x
 have h3:=qd2 x.data.toList y.data.toList
 have h4:=cmpL_three x.data.toList y.data.toList
 obtain⟨v,h5⟩:∃v,xd x.data.toList y.data.toList=v:=⟨_,rfl⟩
 rw[h5] at h1 h3 h4 ⊢
 rw[h3] at h2
 clear h3
 rcases h4 with rfl | rfl | rfl
 ·
  have e1:Op.bytesLess x.toList y.toList=true:=by rw[h1];rfl
  clear h1 h2 h5
  go_enter Tryz.func255,Tryz.ntmps255
  go_wp2_with (go_at_call 176;refine(nan_str _ _).mono ?_;rintro e w' ⟨rfl,rfl⟩)
  go_ret
  exact⟨rfl,rfl⟩
 ·
  have e1:Op.bytesLess x.toList y.toList=false:=by rw[h1];rfl
  have e2:Op.bytesLess y.toList x.toList=false:=by rw[h2];rfl
  have e3:(x.toList==y.toList)=true:=by rw[ul,ul,qde h5];exact beq_self_eq_true _
  have e4:x.toList=y.toList:=eq_of_beq e3
  have E4:=qa e4
  clear h1 h2 h5 e4
  go_enter Tryz.func255,Tryz.ntmps255
  go_wp2_with (go_at_call 176;refine(nan_str _ _).mono ?_;rintro e w' ⟨rfl,rfl⟩)
  go_ret
  exact⟨rfl,rfl⟩
 ·
  have e1:Op.bytesLess x.toList y.toList=false:=by rw[h1];rfl
  have e2:Op.bytesLess y.toList x.toList=true:=by rw[h2];rfl
  have e3:(x.toList==y.toList)=false:=by
   rw[q9,ul,ul]
   intro e
   rw[e,qdf] at h5
   cases h5
  have e4:¬x.toList=y.toList:=q9.1 e3
  clear h1 h2 h5
  go_enter Tryz.func255,Tryz.ntmps255
  go_wp2_with (go_at_call 176;refine(nan_str _ _).mono ?_;rintro e w' ⟨rfl,rfl⟩)
  go_ret
  exact⟨rfl,rfl⟩
def or2(x y:Int):Int:=if x=0 then y else x
theorem or2_any{w:World}(x y:Int){b c:Nat}(h0:w.cell? ⟨b,0,none⟩=some (.int .i64 x))(h1:w.cell? ⟨b,1,none⟩=some (.int .i64 y)) :
  Calls Tryz.prog 253 #[.slice (some ⟨b,0,none⟩) 2 c] w fun e w'=>e= .returned (.int .i64 (or2 x y))∧w=w':=by
 unfold or2
 by_cases hx:x=0
 ·
  subst hx
  rw[if_pos rfl]
  by_cases hy:y=0
  ·
   subst hy
   go_enter Tryz.func253,Tryz.ntmps253
   go_wp2
   refine wp_loop_rounds 3 ?_
   rw[rounds_succ]
   go_wp2
   rw[rounds_succ]
   go_wp2
   rw[rounds_succ]
   go_wp2
   go_ret
   exact⟨rfl,rfl⟩
  ·
   go_enter Tryz.func253,Tryz.ntmps253
   go_wp2
   refine wp_loop_rounds 2 ?_
   rw[rounds_succ]
   go_wp2
   rw[rounds_succ]
   go_wp2
   go_ret
   exact⟨rfl,rfl⟩
 ·
  rw[if_neg hx]
  go_enter Tryz.func253,Tryz.ntmps253
  go_wp2
  refine wp_loop_rounds 1 ?_
  rw[rounds_succ]
  go_wp2
  go_ret
  exact⟨rfl,rfl⟩
def gv(x:ByteArray×Int):List Value:=[.string x.1,.int .i64 x.2]
def qc7(x y:ByteArray×Int):Int:=or2 (cmpIn y.2 x.2) (xd x.1.data.toList y.1.data.toList)
open Go.Sort Go.Shelf in
theorem ahead_any(x y:ByteArray×Int)(W:World):Calls Tryz.prog 249 #[.agg #[.string x.1,.int .i64 x.2],.agg #[.string y.1,.int .i64 y.2]] W fun e w'=>e= .returned (.int .i64 (qc7 x y))∧∃q os',w'=grow (W.drewN q) os':=by
 obtain⟨s,g⟩:=x
 obtain⟨u,k⟩:=y
 unfold qc7
 simp only[]
 have h1:=fun w=>cmpint_any k g w
 have h2:=fun w=>cmpstr_any s u w
 generalize cmpIn k g=a at *
 generalize xd s.data.toList u.data.toList=b at *
 have h3:=fun(w:World) (bb c:Nat) (h0:w.cell? ⟨bb,0,none⟩=some (.int .i64 a)) (h1:w.cell? ⟨bb,1,none⟩=some (.int .i64 b))=>or2_any (w:=w) a b (c:=c) h0 h1
 generalize or2 a b=r at *
 have H1:=qa h1
 have H2:=qa h2
 have H3:=qa h3
 clear h1 h2 h3
 go_enter Tryz.func249,Tryz.ntmps249
 go_wp2_with fail
 go_region_held3 (fun w'=>w'.cell? ⟨W.heap.size,0,none⟩=some (.string s)∧w'.cell? ⟨W.heap.size,1,none⟩=some (.int .i64 g)∧w'.cell? ⟨W.heap.size+1,0,none⟩=some (.string u)∧w'.cell? ⟨W.heap.size+1,1,none⟩=some (.int .i64 k)) (go_keep) (first
  | (go_at_call 254;refine(H1.out _).mono ?_;rintro e w' ⟨rfl,rfl⟩)
  | (go_at_call 255;refine(H2.out _).mono ?_;rintro e w' ⟨rfl,rfl⟩)
  | (go_at_call 253;refine(H3.out _ _ _ ?_ ?_).mono ?_;(go_simp);(go_simp);rintro e w' ⟨rfl,rfl⟩))
 go_wp2
 go_ret
 refine⟨rfl,?_⟩
 simp only[alloc_eq_grow,grow_grow]
 exact⟨1,_,rfl⟩
section
open Go.Sort
theorem ltA(x y:ByteArray×Int):ltOf qc7 x y=true↔(y.2<x.2∨(x.2=y.2∧xd x.1.data.toList y.1.data.toList<0)):=by
 unfold ltOf qc7 or2 cmpIn
 rw[decide_eq_true_iff]
 by_cases h1:y.2<x.2
 ·
  rw[if_pos h1,if_neg (by omega)]
  constructor
  ·
   intro _;exact Or.inl h1
  ·
   intro _;omega
 ·
  rw[if_neg h1]
  by_cases h2:x.2<y.2
  ·
   rw[if_pos h2,if_neg (by omega)]
   constructor
   ·
    intro h;omega
   ·
    rintro(h | ⟨h,_⟩) <;> omega
  ·
   rw[if_neg h2,if_pos rfl]
   constructor
   ·
    intro h;exact Or.inr ⟨by omega,h⟩
   ·
    rintro(h | ⟨_,h⟩)
    ·
     omega
    ·
     exact h
theorem ltA_not(x y:ByteArray×Int):ltOf qc7 x y=false↔(x.2<y.2∨(x.2=y.2∧xd y.1.data.toList x.1.data.toList≤0)):=by
 rw[←Bool.not_eq_true,ltA]
 have:=qd2 x.1.data.toList y.1.data.toList
 omega
theorem ltA_swo:SWO (ltOf qc7) where
 irrefl x:=by rw[ltA_not,qdf];omega
 trans x y z h1 h2:=by
  rw[ltA] at *
  rcases h1 with h1 | ⟨h1,k1⟩
  ·
   rcases h2 with h2 | ⟨h2,k2⟩ <;> exact Or.inl (by omega)
  ·
   rcases h2 with h2 | ⟨h2,k2⟩
   ·
    exact Or.inl (by omega)
   ·
    exact Or.inr ⟨by omega,uv k1 k2⟩
 ntrans x y z h1 h2:=by
  rw[ltA_not] at *
  rcases h1 with h1 | ⟨h1,k1⟩
  ·
   rcases h2 with h2 | ⟨h2,k2⟩ <;> exact Or.inl (by omega)
  ·
   rcases h2 with h2 | ⟨h2,k2⟩
   ·
    exact Or.inl (by omega)
   ·
    exact Or.inr ⟨by omega,qey k2 k1⟩
theorem ltA_one(x y:ByteArray×Int)(h1:ltOf qc7 x y=false)(h2:ltOf qc7 y x=false):x=y:=by
 rw[ltA_not] at h1 h2
 have:=qd2 x.1.data.toList y.1.data.toList
 have e1:x.2=y.2:=by omega
 have e2:x.1.data.toList=y.1.data.toList:=qde (by omega)
 rcases x with ⟨⟨⟨a⟩⟩,g⟩
 rcases y with ⟨⟨⟨b⟩⟩,k⟩
 simp only[] at e1 e2
 rw[e1,e2]
def qei(es:List (ByteArray×Int)):List (ByteArray×Int):=es.mergeSort fun x y => !(ltOf qc7) y x
theorem rank_perm(es:List (ByteArray×Int)):(qei es).Perm es:=List.mergeSort_perm _ _
theorem rank_len(es:List (ByteArray×Int)):(qei es).length=es.length:=(rank_perm es).length_eq
theorem rank_sorted(es:List (ByteArray×Int)):(qei es).Pairwise fun x y=>ltOf qc7 y x=false:=by
 have:=qdn (le:=fun x y:ByteArray×Int => !(ltOf qc7) y x) (fun a b c h1 h2=>by
  simp only[Bool.not_eq_true'] at *
  exact ltA_swo.ntrans _ _ _ h2 h1) (fun a b=>by
  cases h:ltOf qc7 b a
  ·
   rfl
  ·
   cases h2:ltOf qc7 a b
   ·
    rfl
   ·
    have:=ltA_swo.trans _ _ _ h h2
    rw[ltA_swo.irrefl] at this
    cases this) es
 exact this.imp fun h=>by simpa using h
def keyA(e:ByteArray×Int):List UInt8:=e.1.data.toList
structure Coll (P:List (List UInt8)) (left:List UInt8→Bool) (es:List (ByteArray×Int)):Prop where
 once:(es.map keyA).Nodup
 mem:∀x,x∈es.map keyA↔(x∈P∧left x=false)
 gain:∀e∈es,e.2=(qmt P (keyA e):Nat)
theorem Coll.few{P:List (List UInt8)}{left:List UInt8→Bool}{es:List (ByteArray×Int)}(h:Coll P left es):es.length≤P.length:=by
 have:=h.once.length_le_of_subset (l₂:=P) fun x hx=>((h.mem x).1 hx).1
 rwa [qz] at this
theorem Coll.nil{P:List (List UInt8)}{left:List UInt8→Bool}(h:∀x∈P,left x=true):Coll P left [] :=
 ⟨List.nodup_nil,fun x=>⟨fun hx=>(by cases hx),fun⟨h1,h2⟩=>(by rw[h x h1] at h2;cases h2)⟩,fun e he=>(by cases he)⟩
theorem Coll.snoc{P:List (List UInt8)}{left:List UInt8→Bool}{es:List (ByteArray×Int)}(h:Coll P left es){e:ByteArray×Int}(hp:keyA e∈P)(hl:left (keyA e)=true)(hg:e.2=(qmt P (keyA e):Nat)){left':List UInt8→Bool}
  (hl':∀x,left' x=(left x && !decide (x=keyA e))):Coll P left' (es++[e]):=by
 have hne:keyA e∉es.map keyA:=fun hx=>by
  have:=((h.mem _).1 hx).2
  rw[hl] at this
  cases this
 refine⟨?_,fun x => ?_,fun f hf => ?_⟩
 ·
  rw[jg,List.nodup_append]
  refine⟨h.once,by simp,fun a ha b hb => ?_⟩
  rw[List.map_singleton,q8] at hb
  subst hb
  exact fun e1=>hne (e1 ▸ ha)
 ·
  rw[jg,zn,h.mem,List.map_singleton,q8,hl']
  by_cases hx:x=keyA e
  ·
   subst hx
   simp[hp]
  ·
   simp[hx]
 ·
  rcases zn.1 hf with hf | hf
  ·
   exact h.gain f hf
  ·
   rw[q8.1 hf]
   exact hg
theorem Coll.top{P:List (List UInt8)}{left:List UInt8→Bool}{es:List (ByteArray×Int)}(h:Coll P left es)(hl:∀x∈P,left x=false):TopOf P (((qei es).take 255).map keyA):=by
 have hperm:=rank_perm es
 have hnd:((qei es).map keyA).Nodup:=(hperm.map keyA).nodup_iff.2 h.once
 have hsplit:(qei es).take 255++(qei es).drop 255=qei es:=zw _ _
 have hmem:∀e,e∈qei es↔e∈es:=fun e=>hperm.mem_iff
 have hin:∀e∈es,keyA e∈P:=fun e he=>((h.mem _).1 (za.2 ⟨e,he,rfl⟩)).1
 refine⟨?_,by rw[qz,qy];omega,fun x hx => ?_,fun y hy hn => ?_⟩
 ·
  rw[←hsplit,jg] at hnd
  exact(List.nodup_append.1 hnd).1
 ·
  obtain⟨e,he,rfl⟩:=za.1 hx
  exact hin e ((hmem e).1 (vg he))
 ·
  obtain⟨e,he,rfl⟩:=za.1 ((h.mem y).2 ⟨hy,hl y hy⟩)
  have he2:e∈(qei es).drop 255:=by
   have h1:=(hmem e).2 he
   rw[←hsplit] at h1
   rcases zn.1 h1 with h1 | h1
   ·
    exact absurd (za.2 ⟨e,h1,rfl⟩) hn
   ·
    exact h1
  have hlen:255<(qei es).length:=by
   have:=List.length_pos_of_mem he2
   rw[qv] at this
   omega
  refine⟨by rw[qz,qy];omega,fun x hx => ?_⟩
  obtain⟨f,hf,rfl⟩:=za.1 hx
  have hs:=rank_sorted es
  rw[←hsplit,List.pairwise_append] at hs
  have h1:=hs.2.2 f hf e he2
  have hfe:f∈es:=(hmem f).1 (vg hf)
  have h2:ltOf qc7 f e=true:=by
   cases h3:ltOf qc7 f e
   ·
    exact absurd (ltA_one f e h3 h1 ▸ hx) hn
   ·
    rfl
  rw[ltA] at h2
  rw[h.gain f hfe,h.gain e he] at h2
  unfold beats
  rcases h2 with h2 | ⟨h2,h4⟩
  ·
   exact Or.inl (by omega)
  ·
   exact Or.inr ⟨by omega,h4⟩
end
section
open Go.RowKit Go.Sort Go.Shelf
def gvs(es:List (ByteArray×Int)):List Value:=es.flatMap gv
theorem gvs_snoc(es:List (ByteArray×Int))(e:ByteArray×Int):gvs (es++[e])=gvs es++gv e:=by simp[gvs]
theorem qf5(es:List (ByteArray×Int)):(gvs es).length=es.length*2:=by
 induction es with
 | nil=>rfl
 | cons e es ih =>
  rw[gvs,qco,qd,qo]
  have:(es.flatMap gv).length=es.length*2:=ih
  rw[this]
  show 2+_=_
  omega
theorem gv_one(e:ByteArray×Int):∀u∈gv e,u.oneCell'=true:=by
 intro u hu
 simp only[gv,zv,vd,or_false] at hu
 rcases hu with rfl | rfl <;> rfl
theorem gvs_get{es:List (ByteArray×Int)}{j i:Nat}(hj:j<es.length)(hi:i<2):(gvs es)[j*2+i]? = (gv es[j])[i]?:=by
 induction es generalizing j with
 | nil=>exact absurd hj (jm _)
 | cons e es ih =>
  have h2:(gv e).length=2:=rfl
  rw[gvs,qco]
  match j with
  | 0 =>
   rw[Nat.zero_mul,yk,ju (by omega)]
   rfl
  | j+1 =>
   rw[yl (by omega),h2,show(j+1)*2+i-2=j*2+i by omega]
   exact ih (by simpa using hj)
theorem flat_gvs(es:List (ByteArray×Int)):flatK gv 2 es.toArray=(gvs es).toArray:=by
 refine Array.ext (by simp[qf5]) fun t h1 h2 => ?_
 have ht:t<es.length*2:=by simpa using h1
 have h3:=get_flatK gv 2 es.toArray t (by simpa using ht)
 rw[getElem!_pos _ t h1] at h3
 rw[h3]
 have hj:t/2<es.length:=by omega
 have hg:=gvs_get (es:=es) (j:=t/2) (i:=t%2) hj (by omega)
 rw[show t/2*2+t%2=t by omega] at hg
 have h4:(gvs es)[t]'(by rw[qf5];exact ht)=(gv es[t/2])[t%2]'(by show _<2;omega):=by
  rw[qe (by rw[qf5];exact ht),qe (by show _<2;omega)] at hg
  exact zy hg
 have h5:(es.toArray[t/2]!)=es[t/2]:=by
  rw[getElem!_pos es.toArray (t/2) (by simpa using hj)]
  simp
 rw[h5,getElem!_pos (gv es[t/2]) (t%2) (by show _<2;omega)]
 simp[h4]
theorem Tryz.infoGain:(Tryz.prog.info? 281).map (fun i=>(i.zero,i.size,i.bytes))=some (some (.agg #[.string ⟨#[]⟩,.int .i64 0]),2,24):=by kernel_rfl
theorem qlf{ops:Array Oper}{rest:List Oper}{o:Oper}{a:Act}{w:World}{Q:Exit→Act→World→Prop}(e:ByteArray×Int)(hg:o.guard=none)(x:Operand)(ho:o.op= .buildSlice 279 1 #[(0,x)])(hx:a.eval x= .agg (gv e).toArray)
  (h:wpList Tryz.prog ops Q rest (a.put o.dst (.slice (some ⟨w.heap.size,0,none⟩) 1 1)) (w.alloc (.cells (gv e).toArray 281))):wpList Tryz.prog ops Q (o :: rest) a w:=by
 obtain⟨i0,hi0,hz0,hz1,hz2⟩:=info_parts Tryz.infoGain
 refine wpList_buildSlice hg _ _ 1 _ ho (gv e).toArray i0 _ Tryz.underlying279 hi0 hz0 (by rw[hz1];omega) (by rw[hz1];omega) ?_ h
 have hf:=Great.fill_whole (s:=2) (by omega) [.agg (gv e).toArray] ((Array.range (1*2)).map ((Value.agg #[.string ⟨#[]⟩,.int .i64 0]).cells[· % (Value.agg #[.string ⟨#[]⟩,.int .i64 0]).cells.size]!)) (fun u hu=>by
  rw[q8.1 hu]
  rfl) (by simp)
 have e1:([Value.agg (gv e).toArray].flatMap fun u=>u.cells.toList).toArray=(gv e).toArray:=by
  show((gv e).toArray.toList++[]).toArray=(gv e).toArray
  rw[jd]
 rw[e1] at hf
 rw[hz1]
 simp only[List.map_toArray,y8,qbu,hx]
 exact hf
theorem qle{ops:Array Oper}{rest:List Oper}{o:Oper}{a:Act}{Q:Exit→Act→World→Prop}{w:World}{v:Value}{g:Nat}(base:Nat)(es:List (ByteArray×Int))(e:ByteArray×Int)(hgd:o.guard=none)(s x:Operand)
  (ho:o.op= .call { callee:= .builtin .append,args:=#[s,x],argTypes:=#[279,279] }) (hty:o.type=279)
  (hs:a.eval s=v) (hx:a.eval x= .slice (some ⟨g,0,none⟩) 1 1) (hcells:∀j u,(gv e)[j]? = some u→w.cell? ⟨g,j,none⟩=some u)
  (hown:w.ownsRow base 281 2 v es.length (gvs es)) (hb:es.length+1≤1000000000) (hbase:base≤w.heap.size)
  (h:∀A' c' w',w'.ownsRow base 281 2 (.slice A' (es++[e]).length c') (es++[e]).length (gvs (es++[e]))→w.grownBy w' v.ownBlock→((Value.slice A' (es++[e]).length c').ownBlock=v.ownBlock∨(Value.slice A' (es++[e]).length c').ownBlock=some w.heap.size)→wpList Tryz.prog ops Q rest (a.put o.dst (.slice A' (es.length+1) c')) w') :
  wpList Tryz.prog ops Q (o :: rest) a w:=by
 obtain⟨i0,hi0,hz0,hz1,hz2⟩:=info_parts Tryz.infoGain
 obtain⟨v',w',hrun,h2,h3,_,h5⟩:=run_append_own_at (P:=Tryz.prog) w base 279 279 281 i0 _ 2 24 Tryz.underlying279 hi0 hz0 hz1 hz2 rfl (by omega) v es.length (gvs es) hown ⟨g,0,none⟩ 1 1 (gv e) rfl
  (fun j u hu=>by
   have:=hcells j u hu
   rwa [show(⟨g,j,none⟩:Addr)=(⟨g,0,none⟩:Addr).add j from by unfold Addr.add;by_cases h0:j=0 <;> simp[h0]] at this) (gv_one e) (by simp only[maxLen];omega) (by omega) hbase
 obtain⟨A',c',rfl,_⟩:=qbp w' h2
 refine wpList_append_run hgd s x _ _ ho hs hx (by rw[hty];exact hrun) (h A' c' w' ?_ h3 (by rw[qd];exact h5))
 rw[gvs_snoc,qd]
 exact h2
theorem holds_row{w:World}{g:Nat}{cur:Array Value}{e:TypeId}{vs:List Value}(hb:w.heap[g]? = some (.cells cur e (0,0)))(ht:cur.toList.take vs.length=vs):Holds id w g 0 vs.toArray:=by
 intro j hj
 have hj':j<vs.length:=by simpa using hj
 refine⟨?_,by simp[World.frozen?,hb]⟩
 have h1:(cur.toList.take vs.length)[j]? = vs[j]?:=by rw[ht]
 rw[qa0 hj'] at h1
 simp only[World.cell?,hb,yk]
 simp only[Option.isSome_none,kr,if_false]
 rw[←Array.getElem?_toList,h1]
 simp[hj']
theorem heap_row{w:World}{g n:Nat}{os:Array Obj}{cur:Array Value}{e:TypeId}{fr:Nat×Nat}(d:Array Value)(hb:w.heap[g]? = some (.cells cur e fr)) :
  (grow (putRow id (Sort.ahead w n) g 0 d) os).heap[g]? = some (.cells (putCells id 0 d cur) e fr):=by
 have hg:g<w.heap.size:=(xc.1 hb).1
 rw[heap_grow_old _ _ (by simpa using hg)]
 simp[putRow,mapBlock,Sort.ahead,Array.getElem?_modify,hb,onCells]
theorem grownBy_row{w:World}{g n:Nat}{os:Array Obj}(d:Array Value):w.grownBy (grow (putRow id (Sort.ahead w n) g 0 d) os) (some g):=by
 refine⟨rfl,rfl,rfl,by simp,fun k hk hne => ?_⟩
 rw[heap_grow_old _ _ (by simpa using hk)]
 have:g≠k:=fun e=>hne (by rw[e])
 simp[putRow,mapBlock,Sort.ahead,Array.getElem?_modify,this]
theorem take_row(cur:Array Value)(vs:List Value)(h:vs.length≤cur.size):(putCells id 0 vs.toArray cur).toList.take vs.length=vs:=by
 apply qcp
 intro j
 by_cases hj:j<vs.length
 ·
  rw[qa0 hj,Array.getElem?_toList]
  simp[putCells,hj,show j<cur.size by omega]
 ·
  rw[List.getElem?_take_eq_none (by omega),jp (by omega)]
theorem sortg_own{w:World}{base:Nat}{v:Value}(es:List (ByteArray×Int))(h:w.ownsRow base 281 2 v es.length (gvs es))(hn:es.length<4611686018427387904) :
  Calls Tryz.prog 248 #[v,.func (.func 249) #[] #[]] w fun r w'=>r= .returned (.tuple #[])∧w'.ownsRow base 281 2 v es.length (gvs (qei es))∧w.grownBy w' v.ownBlock:=by
 rcases h.2 with ⟨rfl,h0⟩ | ⟨g,cap,cur,rfl,hbase,hb,h1,h2,h3,h4⟩
 ·
  have hz:es=[]:=ze h0
  subst hz
  have hc:=AnyF.slices_SortFunc_none gslays none 0 (.func (.func 249) #[] #[]) w
  refine hc.mono ?_
  rintro r w' ⟨rfl,rfl⟩
  have hr:qei []=[]:=ze (rank_len [])
  exact⟨rfl,by rw[hr];exact h,yx _ _⟩
 ·
  have eg:∀args w,(callFunc 249 args).run Tryz.prog w= .ok (.enter 249 args) w:=enters_of Tryz.func249 (by kernel_rfl) rfl
  have ht:cur.toList.take (gvs es).length=gvs es:=by rw[qf5];exact h4
  have hH:HoldsK gv 2 w g 0 es.toArray:=by
   unfold HoldsK
   rw[flat_gvs]
   exact holds_row hb ht
  have hc:=AnyQ.slices_SortFunc_total gslays 2 Tryz.isAgg281 Tryz.sizeOf281 gv (fun _=>rfl) gv_one qc7 ltA_swo 249 #[] g 0 cap es.toArray w eg
   (fun m os dk _ x y=>ahead_any x y _) hH (xc.1 hb).1 (by simpa using hn) ltA_one
  refine Calls.mono hc ?_
  rintro r w' ⟨rfl,n,os,rfl⟩
  have hrk:(es.toArray.toList.mergeSort fun x y => !(ltOf qc7) y x).toArray=(qei es).toArray:=rfl
  have hw:sortWorldK gv 2 w g 0 n (qei es).toArray os=grow (putRow id (Sort.ahead w n) g 0 (gvs (qei es)).toArray) os:=by
   unfold sortWorldK putRowK
   rw[flat_gvs]
  rw[hrk,hw]
  have hl:(gvs (qei es)).length=es.length*2:=by rw[qf5,rank_len]
  refine⟨rfl,⟨hl,.inr ⟨g,cap,_,rfl,hbase,heap_row _ hb,h1,h2,by simp[putCells,h3],?_⟩⟩,grownBy_row _⟩
  rw[←hl]
  exact take_row cur _ (by rw[hl,h3];omega)
end
end Go.Proofs.YtjfecojdagmacaaGreat
