/-
  Lemmas.
-/
import Derived.Test.YtjfecojdagmacaaGreatD15
import Derived.Deep.WholeRow
import Derived.Maps.OwnSet
namespace Go.Proofs.YtjfecojdagmacaaGreat
open Go.RowKit
set_option maxRecDepth 20000
set_option maxHeartbeats 16000000
set_option linter.unusedSimpArgs false
set_option linter.unusedVariables false
section
open Go.RowKit Go.Maps Go.Sort
structure SetN (D:DataW Unit) (P:List Nat):Prop where
 map:IsMap D
 has:∀x:Int,Maps.has D (.int .i64 x)=decide (x∈z8 P)
theorem SetN.nil:SetN (.map []) []:=⟨isMap_empty,fun _=>rfl⟩
theorem SetN.put{D:DataW Unit}{P:List Nat}(h:SetN D P)(g:Nat):SetN (D.put (.int .i64 (g:Int)) (.agg [])) (P++[g]):=by
 refine⟨h.map.put _ _,fun y => ?_⟩
 by_cases hy:y=(g:Int)
 ·
  subst hy
  rw[has_put_same h.map (show WideAt.IsKeyLit (Lit.int .i64 (g:Int)) from trivial)]
  simp[z8]
 ·
  rw[has_put_other (fun e=>hy (by injection e)),h.has y]
  simp[z8,hy]
theorem once_of:∀P:List Nat,∃u:List Nat,u.Nodup∧∀x,x∈u↔x∈P
 | []=>⟨[],List.nodup_nil,fun _=>Iff.rfl⟩
 | a :: P=>by
  obtain⟨u,h1,h2⟩:=once_of P
  by_cases ha:a∈P
  ·
   exact⟨u,h1,fun x=>by
    rw[h2 x,z7]
    exact⟨.inr,fun h=>h.elim (fun e=>e ▸ ha) id⟩⟩
  ·
   exact⟨a :: u,List.nodup_cons.2 ⟨fun h=>ha ((h2 a).1 h),h1⟩,fun x=>by rw[z7,z7,h2 x]⟩
theorem qn4{P:List Nat}{z:Int}:z∈z8 P↔∃g∈P,(g:Int)=z:=zl
theorem qn3{P:List Nat}{g:Nat}:(g:Int)∈z8 P↔g∈P:=by
 rw[qn4]
 constructor
 ·
  rintro⟨x,hx,e⟩
  have:x=g:=by omega
  exact this ▸ hx
 ·
  exact fun h=>⟨g,h,rfl⟩
def MapN(w:World)(B n:Nat)(D:DataW Unit):Prop:=w.ownsMap Tryz.prog 3 (unitElem (H:=Unit)) B n D
theorem MapN.out{w w':World}{B n:Nat}{D:DataW Unit}{X:Nat→Prop}(h:MapN w B n D)(ho:Out w w' X)(hB:¬X B):MapN w' B n D:=by
 have hlt:=h.lt
 obtain⟨es,clock,hb,rest⟩:=h
 exact⟨es,clock,(ho.block B hlt hB).trans hb,rest⟩
theorem SetN.perm{w:World}{B n:Nat}{D:DataW Unit}{P:List Nat}(h:SetN D P)(hown:MapN w B n D):∃u:List Nat,u.Nodup∧(∀x,x∈u↔x∈P)∧(z8 u).Perm (intKeys D):=by
 obtain⟨u,h1,h2⟩:=once_of P
 have hc:CollectedI D (fun _=>false) (z8 u):=by
  refine⟨List.pairwise_map.2 (h1.imp fun {a b} hab e=>hab (by omega)),fun x => ?_⟩
  rw[h.has x,decide_eq_true_iff,qn4,qn4]
  constructor
  ·
   rintro⟨g,hg,e⟩
   exact⟨⟨g,(h2 g).1 hg,e⟩,rfl⟩
  ·
   rintro⟨⟨g,hg,e⟩, -⟩
   exact⟨g,(h2 g).2 hg,e⟩
 exact⟨u,h1,h2,hc.perm hown (int_keyed Tryz.underlying3) Tryz.underlying3 (fun _=>rfl)⟩
theorem size_keys{D:DataW Unit}(h:IsMap D):Maps.size D=(intKeys D).length:=by
 obtain⟨es,rfl⟩:=h
 simp[Maps.size,intKeys]
theorem SetN.size{w:World}{B n:Nat}{D:DataW Unit}{P:List Nat}(h:SetN D P)(hown:MapN w B n D):Maps.size D≤P.length:=by
 obtain⟨u,h1,h2,hp⟩:=h.perm hown
 rw[size_keys h.map,←hp.length_eq,zu]
 exact List.Nodup.length_le_of_subset h1 fun x hx=>(h2 x).1 hx
theorem SetN.keys{w:World}{B n:Nat}{D:DataW Unit}{P:List Nat}(h:SetN D P)(hown:MapN w B n D){ss:List Int}(hp:ss.Perm (intKeys D)) :
  ∃t:List Nat,Rise P t∧(ss.mergeSort (fun x y=>decide (x≤y))).map encZ=iv (z8 t)∧ss.length=t.length:=by
 obtain⟨u,h1,h2,hu⟩:=h.perm hown
 have hsu:ss.Perm (z8 u):=hp.trans hu.symm
 have hz:=List.mergeSort_perm ss (fun x y=>decide (x≤y))
 have hzu:=hz.trans hsu
 have tr:∀a b c:Int,decide (a≤b)=true→decide (b≤c)=true→decide (a≤c)=true:=fun a b c h1 h2=>by simp only[decide_eq_true_eq] at *;omega
 have tot:∀a b:Int,(decide (a≤b)||decide (b≤a))=true:=fun a b=>by simp only[Bool.or_eq_true,decide_eq_true_eq];omega
 have hord:=qff (le:=fun x y:Int=>decide (x≤y)) tr tot ss
 obtain⟨zs,hzs⟩:∃zs,ss.mergeSort (fun x y:Int=>decide (x≤y))=zs:=⟨_,rfl⟩
 rw[hzs] at hord hzu hz ⊢
 have hnd:zs.Nodup:=hzu.nodup_iff.2 (List.pairwise_map.2 (h1.imp fun {a b} hab e=>hab (by omega)))
 have hnat:∀z∈zs,((z.toNat:Nat):Int)=z:=fun z hz=>by
  obtain⟨g,_,rfl⟩:=qn4.1 (hzu.mem_iff.1 hz)
  rfl
 have hit:z8 (zs.map Int.toNat)=zs:=by
  rw[z8,qac]
  conv=>rhs;rw[←List.map_id zs]
  exact qb2 fun z hz=>hnat z hz
 refine⟨zs.map Int.toNat,⟨?_,fun x => ?_⟩,by rw[hit];rfl,by rw[q8];exact hz.length_eq.symm⟩
 ·
  refine List.pairwise_map.2 ((hord.and hnd).imp_of_mem fun {a b} ha hb hab => ?_)
  have e1:=hnat a ha
  have e2:=hnat b hb
  have h3:=hab.1
  have h4:=hab.2
  simp only[decide_eq_true_eq] at h3
  omega
 ·
  rw[←qn3,hit,hzu.mem_iff,qn3,h2 x]
end
section
open Go.RowKit Go.Maps Go.Sort
theorem qpz{w:World}(l:List ByteArray){c:Nat}{A:Option Addr}(h:Rd w 0 w.heap.size A c (sv l))(hsz:∀s∈l,s.size≤100000)(hlen:l.length≤5000) :
  Calls Tryz.prog 107 #[.slice A l.length c] w fun r w'=>∃(t:List Nat) (A':Option Addr) (c':Nat),r= .returned (.slice A' t.length c')∧Rise (qcc (qcu l)) t∧
   w'.ownsRow w.heap.size 3 1 (.slice A' t.length c') t.length (iv (z8 t))∧Below w.heap.size w w':=by
 have hl:=h.len
 have hm:=h.cap
 rw[j7] at hl
 unfold maxLen at hm
 have H:=qa h
 have H1:Hid (∀k (hk:k<l.length),l[k].size≤100000):=fun k hk=>hsz _ (ql hk)
 clear h hsz
 have hmm:=@run_makeMap Tryz.prog
 go_enter Tryz.func107,Tryz.ntmps107
 go_wp2_with fail
 go_loopw [10] (fun x10 wr=>∃(i n:Nat) (D:DataW Unit),i≤l.length∧x10= .int .i64 (i:Int)∧MapN wr w.heap.size n D∧n≤100000*i∧SetN D (qcc (qcu (l.take i)))∧(qcc (qcu (l.take i))).length≤100000*i∧Below w.heap.size w wr∧w.heap.size<wr.heap.size) (fun x10 _=>l.length-(intOf x10).toNat)
 case atStart=>exact⟨0,0,.map [],qi _,rfl,World.ownsMap_made _ _ _ _,qc _,SetN.nil,qc _,(Below.refl _ _).alloc (qc _) _,by simp⟩
 case round =>
  clear hmm
  obtain⟨i,n,D,hi,rfl,hmp,hn,hset,hal,hb,hgt⟩:=hrel
  obtain⟨wy,hwy⟩:∃wy,wy=wr:=⟨_,rfl⟩
  subst hwy
  have HM:=qa hmp
  have HS:=qa hset
  have HA:=qa hal
  have HB:=qa hb
  clear hmp hset hal hb
  by_cases hlt:i<l.length
  ·
   have ik:(i:Int)<(l.length:Int):=by omega
   obtain⟨b1,off1,rfl,_,hb1,hcell0⟩:=H.out.str hlt
   have hss:=H1.out i hlt
   have HTK:=qa (qpa l i hlt)
   obtain⟨s,hs⟩:∃s,l[i]=s:=⟨_,rfl⟩
   rw[hs] at hcell0 hss HTK
   clear hs
   have hcell:wy.cell? ⟨b1,off1+i,none⟩=some (.string s):=(HB.out.cell hb1).trans hcell0
   obtain⟨N,hN⟩:∃N,s.size-2=N:=⟨_,rfl⟩
   have hN1:N≤s.size:=by omega
   have hN2:N=0∨N+2=s.size:=by omega
   have HPL:=qa (gplaces_any (w:=wy) s hss N hN)
   have HGL:Hid ((qdz s.data.toList).take N=qdz s.data.toList):=qo (by rw[qbi,jt];show s.size-2≤N;omega)
   clear hN hcell0
   go_wp2_with fail
   refine HPL.out.mono ?_
   rintro r w' ⟨rfl,rfl⟩
   clear HPL
   go_wp2_with fail
   go_loopw [16] (fun x16 wr=>∃(k n:Nat) (D:DataW Unit),k≤N∧x16= .int .i64 (k:Int)∧MapN wr w.heap.size n D∧n≤100000*i+k∧SetN D (qcc (qcu (l.take i))++(qdz s.data.toList).take k)∧Below w.heap.size w wr∧w.heap.size<wr.heap.size) (fun x16 _=>N-(intOf x16).toNat)
   case atStart=>exact⟨0,n,D,qi _,rfl,HM.out,hn,by rw[y9,jb];exact HS.out,HB.out,hgt⟩
   case round =>
    clear HM HS HB hn hgt hcell
    obtain⟨k,n,D,hk,rfl,hmp,hn,hset,hb,hgt⟩:=hrel
    obtain⟨wz,hwz⟩:∃wz,wz=wr:=⟨_,rfl⟩
    subst hwz
    have HM:=qa hmp
    have HS:=qa hset
    have HB:=qa hb
    clear hmp hset hb
    by_cases hkn:k<N
    ·
     have jk:(k:Int)<(N:Int):=by omega
     have hk2:k+2<s.size:=by omega
     have hk1:k<s.size:=by omega
     have hkle:k≤s.size:=by omega
     obtain⟨g,hg⟩:∃g,qke s[k] s[k+1] s[k+2]=g:=⟨_,rfl⟩
     have HGA:=qa (ggram_at (w:=wz) s k hk2 hss g hg)
     have hgl:g<16777216:=by rw[←hg];exact gramN_lt _ _ _
     have HSN:Hid (SetN (D.put (.int .i64 (g:Int)) (.agg [])) (qcc (qcu (l.take i))++(qdz s.data.toList).take (k+1))):=by
      unfold Hid
      rw[qpy s k hk2,hg,←qp]
      exact HS.out.put g
     have HKY:=qa (keyOf_int_mk (P:=Tryz.prog) Tryz.underlying3 (q:= .i64) (a:=(g:Int)) (by go_wf))
     clear hg
     go_wp2_with fail
     refine HGA.out.mono ?_
     rintro r w' ⟨rfl,m,rfl⟩
     have HM1:Hid (MapN (wz.drewN m) w.heap.size n D):=HM.out.out (X:=fun _=>False) ((Out.refl _ _).drewN m) (fun h=>h)
     have HB1:=qa (zj HB.out m)
     have hgt1:w.heap.size<(wz.drewN m).heap.size:=hgt
     generalize wz.drewN m=w1 at *
     go_wp2_with (at_mapUpdate;refine wpList_mapUpdate_own _ rfl _ _ _ 208 rfl 3 210 (int_keyed Tryz.underlying3) Tryz.underlying208 (unitElem (H:=Unit)) w.heap.size n D rfl HM1.out (by unfold maxLen;omega) _ _ _ rfl rfl HKY.out _ [] unitElem_mk ?_;refine qam ?_)
     refine⟨?_⟩
     intro w2 hm2 hg2
     have HM2:Hid (MapN w2 w.heap.size (n+1) _):=hm2
     have HB2:Hid (Below w.heap.size w w2):=HB1.out.grown hg2 (by omega) (fun j hj=>by cases hj;exact qc _)
     have hgt2:w.heap.size<w2.heap.size:=zn hgt1 hg2.size
     clear hm2 hg2
     go_wp2_with fail
     go_roundw
     case rel=>exact⟨k+1,n+1,_,by omega,by go_num,HM2.out,by omega,HSN.out,HB2.out,hgt2⟩
     case measure=>simp[intOf] <;> omega
    ·
     have jk:¬(k:Int)<(N:Int):=by omega
     obtain rfl:k=N:=by omega
     have HSN:Hid (SetN D (qcc (qcu (l.take (i+1))))):=by
      unfold Hid
      rw[HTK.out,←HGL.out]
      exact HS.out
     have HAL:Hid ((qcc (qcu (l.take (i+1)))).length≤100000*(i+1)):=by
      unfold Hid
      have h1:(qdz s.data.toList).length≤100000:=by
       rw[qbi,jt]
       exact zb (Nat.sub_le _ _) hss
      have h2:=HA.out
      rw[HTK.out,qd]
      omega
     go_wp2_with fail
     go_roundw
     case rel=>exact⟨i+1,n,D,by omega,by go_num,HM.out,by omega,HSN.out,HAL.out,HB.out,hgt⟩
     case measure=>simp[intOf] <;> omega
  ·
   have ik:¬(i:Int)<(l.length:Int):=by omega
   have hkt:l.take i=l:=qo (by omega)
   rw[hkt] at HS HA
   have hsd:=HS.out.size HM.out
   have hal:=HA.out
   have HSO:=qa (gsorted_any w.heap.size n D wy HM.out (by unfold maxLen;omega) (by omega) _ rfl)
   have HKE:=qa (gkeys_any (some w.heap.size) wy)
   obtain⟨w1,hw1⟩:∃w1,wy.alloc (.cells #[.map (some w.heap.size)] 208)=w1:=⟨_,rfl⟩
   have HB1:Hid (Below w.heap.size w w1):=by unfold Hid;rw[←hw1];exact HB.out.alloc (by omega) _
   have hgt1:w.heap.size≤w1.heap.size:=by rw[←hw1];simp;omega
   rw[hw1] at HSO HKE
   clear hkt hw1 hsd hal
   go_wp2_with fail
   refine HKE.out.mono ?_
   rintro r w' ⟨rfl,rfl⟩
   go_wp2_with fail
   refine HSO.out.mono ?_
   rintro r w2 ⟨v,ss,rfl,hp,hown, -,hb2⟩
   obtain⟨t,hri,hiv,htl⟩:=HS.out.keys HM.out hp
   rw[hiv,htl] at hown
   have HRI:=qa hri
   have HO:=qa hown
   have HB2:=qa (zo HB1.out hb2 hgt1)
   clear hri hown hb2 hp hiv htl
   obtain⟨A2,c2,rfl, -, -⟩:=qbx _ HO.out
   go_wp2_with fail
   go_ret
   exact⟨t,A2,c2,rfl,HRI.out,jm HO.out hgt1,HB2.out⟩
end
theorem qg3{fn:Func}{p u:Tmp}(h:fn.results=#[.cell p 110,.tmp u])(tmps:Array Value)(w:World)(g:Nat)(a b c:Value)(hp:tmps.getD p undef= .pointer (some ⟨g,0,none⟩))
  (hb:yy w g 110 #[a,b,c]):(results fn tmps).run Tryz.prog w= .ok (.tuple #[.agg #[a,b,c],tmps.getD u undef]) w:=by
 have h1:=run_loadVar_row (P:=Tryz.prog) w g 110 110 #[a,b,c] (0,0) _ hb Tryz.underlying110 rfl (by kernel_rfl)
 rw[results_cell_tmp h,hp]
 simp only[asAddr,Sem.run_pure,Result.andThen_ok,h1]
theorem qpb(w:World):(Instr.build 110 #[]).run Tryz.prog w= .ok (.agg #[.int .i64 0,.slice none 0 0,.slice none 0 0]) w:=run_build w _ _ _ (by kernel_rfl)
theorem gmake_list{w:World}(l:List ByteArray){c:Nat}{A:Option Addr}(h:Rd w 0 w.heap.size A c (sv l))(hsz:∀s∈l,s.size≤100000)(hlen:l.length≤5000) :
  Calls Tryz.prog 77 #[.slice A l.length c,.int .i64 0] w fun r w'=>∃t:List Nat,Rise (qcc (qcu l)) t∧Below w.heap.size w w'∧((t.length≤65536∧∃(A':Option Addr) (c':Nat),r= .returned (.tuple #[.agg #[.int .i64 0,.slice A' t.length c',.slice none 0 0],.int .i64 0])∧w'.ownsRow w.heap.size 3 1 (.slice A' t.length c') t.length (iv (z8 t)))∨(65536<t.length∧r= .returned (.tuple #[.agg #[.int .i64 0,.slice none 0 0,.slice none 0 0],.int .i64 1]))):=by
 obtain⟨w1,hw1⟩:∃w1,w.alloc (.cells #[.int .i64 0,.slice none 0 0,.slice none 0 0] 110)=w1:=⟨_,rfl⟩
 have B1:Hid (Below w.heap.size w w1):=by unfold Hid;rw[←hw1];exact(Below.refl _ w).alloc (qc _) _
 have hk:yy w1 w.heap.size 110 #[.int .i64 0,.slice none 0 0,.slice none 0 0]:=by rw[←hw1];exact yy.new w _ _
 have hs1:w1.heap.size=w.heap.size+1:=by rw[←hw1];simp
 have HGA:=qa (qpz l ((h.below B1.out (qc _)).wide (qc _) B1.out.size) hsz hlen)
 have HK:=qa hk
 clear h hsz hk
 have hbuild:=qpb
 go_enter Tryz.func77,Tryz.ntmps77
 go_wp2_with fail
 refine HGA.out.mono ?_
 rintro r w2 ⟨t,A2,c2,rfl,hri,hown,b2⟩
 have hk2:=HK.out.below b2 (by omega)
 have HK2:=qa hk2
 have q0:=hk2.cell 0
 have q1:=hk2.cell 1
 have q2:=hk2.cell 2
 have f0:=hk2.frozen 0
 have f1:=hk2.frozen 1
 have f2:=hk2.frozen 2
 have HRI:=qa hri
 have HO:=qa hown
 have B2:=qa (B1.out.trans (b2.mono B1.out.size))
 have s2:=b2.size
 have hg2:w.heap.size<w2.heap.size:=by omega
 clear hk2 hri hown b2 HGA
 by_cases hlen2:65536<t.length
 ·
  have il:(65536:Int)<(t.length:Int):=by omega
  go_wp2_with fail
  have hk3:=((HK2.out.put 0 (.int .i64 0)).put 1 (.slice none 0 0)).put 2 (.slice none 0 0)
  have hb3:=((B2.out.setCell (p:=⟨w.heap.size,0,none⟩) (qc _) (.int .i64 0)).setCell (p:=⟨w.heap.size,1,none⟩) (qc _) (.slice none 0 0)).setCell (p:=⟨w.heap.size,2,none⟩) (qc _) (.slice none 0 0)
  refine bodyPost_ret (v:= .tuple #[.agg #[.int .i64 0,.slice none 0 0,.slice none 0 0],.int .i64 1]) ?_ rfl ⟨t,HRI.out,hb3,.inr ⟨hlen2,rfl⟩⟩
  exact qg3 (p:=4) (u:=5) rfl _ _ w.heap.size _ _ _ rfl hk3
 have hlen3:t.length≤65536:=by omega
 have il:¬(65536:Int)<(t.length:Int):=by omega
 clear hbuild
 go_wp2_with fail
 obtain⟨w3,hw3⟩:∃w3,((w2.setCell ⟨w.heap.size,0,none⟩ (.int .i64 0)).setCell ⟨w.heap.size,1,none⟩ (.slice A2 t.length c2)).setCell ⟨w.heap.size,2,none⟩ (.slice none 0 0)=w3:=⟨_,rfl⟩
 have hk3:yy w3 w.heap.size 110 #[.int .i64 0,.slice A2 t.length c2,.slice none 0 0]:=by rw[←hw3];exact((HK2.out.put 0 _).put 1 _).put 2 _
 have ho3:Out w2 w3 (fun k=>k=w.heap.size):=by rw[←hw3];exact(((Out.refl _ (fun k=>k=w.heap.size)).setCell (p:=⟨w.heap.size,0,none⟩) (.inl rfl) _).setCell (p:=⟨w.heap.size,1,none⟩) (.inl rfl) _).setCell (p:=⟨w.heap.size,2,none⟩) (.inl rfl) _
 have hb3:Below w.heap.size w w3:=B2.out.trans (ho3.below (Nat.le_of_lt hg2) (fun k hk=>by omega))
 have hr3:=qcl HO.out ho3 (fun k hk e=>by have:=zk HO.out hk;omega)
 rw[hw3]
 refine bodyPost_ret (v:= .tuple #[.agg #[.int .i64 0,.slice A2 t.length c2,.slice none 0 0],.int .i64 0]) ?_ rfl ⟨t,HRI.out,hb3,.inl ⟨hlen3,A2,c2,rfl,jm hr3 (by omega)⟩⟩
 exact qg3 (p:=4) (u:=5) rfl _ _ w.heap.size _ _ _ rfl hk3
theorem qnf{w:World}(l:List ByteArray){c:Nat}{A:Option Addr}(h:Rd w 0 w.heap.size A c (sv l))(hsz:∀s∈l,s.size≤100000)(hlen:l.length≤5000)(b:Nat)(hb0:0<b)(hb:b≤65536) :
  Calls Tryz.prog 77 #[.slice A l.length c,.int .i64 (b:Int)] w fun r w'=>∃(t:List Nat) (B:Option Addr) (d:Nat),r= .returned (.tuple #[.agg #[.int .i64 (b:Int),.slice none 0 0,.slice B b d],.int .i64 0])∧Rise (qcc (qcu l)) t∧w'.ownsRow w.heap.size 4 1 (.slice B b d) b (lv (qe4 b t))∧Below w.heap.size w w':=by
 obtain⟨w1,hw1⟩:∃w1,w.alloc (.cells #[.int .i64 0,.slice none 0 0,.slice none 0 0] 110)=w1:=⟨_,rfl⟩
 have B1:Hid (Below w.heap.size w w1):=by unfold Hid;rw[←hw1];exact(Below.refl _ w).alloc (qc _) _
 have hk:yy w1 w.heap.size 110 #[.int .i64 0,.slice none 0 0,.slice none 0 0]:=by rw[←hw1];exact yy.new w _ _
 have hs1:w1.heap.size=w.heap.size+1:=by rw[←hw1];simp
 have HGA:=qa (qpz l ((h.below B1.out (qc _)).wide (qc _) B1.out.size) hsz hlen)
 have HK:=qa hk
 have i0:¬(b:Int)<0:=by omega
 have d0:decide ((b:Int)<0)=false:=qr i0
 have i1:¬(65536:Int)<(b:Int):=by omega
 have d1:decide ((65536:Int)<(b:Int))=false:=qr i1
 have i2:(0:Int)<(b:Int):=by omega
 clear h hsz hk
 go_enter Tryz.func77,Tryz.ntmps77
 go_wp2_with fail
 refine HGA.out.mono ?_
 rintro r w2 ⟨t,A2,c2,rfl,hri,hown,b2⟩
 have HRI:=qa hri
 have HMK:=qa (gmark_any t b hb0 (by omega) (fun g hg=>allL_lt ((hri.mem g).1 hg)) (Rd.own hown) (qc _))
 have HK2:=qa (HK.out.below b2 (by omega))
 have B2:=qa (B1.out.trans (b2.mono B1.out.size))
 have s2:=b2.size
 have hg2:w.heap.size<w2.heap.size:=by omega
 clear hri hown b2 HGA
 go_wp2_with fail
 refine HMK.out.mono ?_
 rintro r w3 ⟨rfl,hown,b3⟩
 have hk3:=HK2.out.below b3 hg2
 have HK3:=qa hk3
 have q0:=hk3.cell 0
 have q1:=hk3.cell 1
 have q2:=hk3.cell 2
 have f0:=hk3.frozen 0
 have f1:=hk3.frozen 1
 have f2:=hk3.frozen 2
 have HO:=qa hown
 have B3:=qa (B2.out.trans (b3.mono B2.out.size))
 have s3:=b3.size
 clear hk3 hown b3 HMK
 go_wp2_with fail
 obtain⟨w4,hw4⟩:∃w4,((w3.setCell ⟨w.heap.size,0,none⟩ (.int .i64 (b:Int))).setCell ⟨w.heap.size,1,none⟩ (.slice none 0 0)).setCell ⟨w.heap.size,2,none⟩ (.slice (some ⟨w2.heap.size,0,none⟩) b b)=w4:=⟨_,rfl⟩
 have hk4:yy w4 w.heap.size 110 #[.int .i64 (b:Int),.slice none 0 0,.slice (some ⟨w2.heap.size,0,none⟩) b b]:=by rw[←hw4];exact((HK3.out.put 0 _).put 1 _).put 2 _
 have ho4:Out w3 w4 (fun k=>k=w.heap.size):=by rw[←hw4];exact(((Out.refl _ (fun k=>k=w.heap.size)).setCell (p:=⟨w.heap.size,0,none⟩) (.inl rfl) _).setCell (p:=⟨w.heap.size,1,none⟩) (.inl rfl) _).setCell (p:=⟨w.heap.size,2,none⟩) (.inl rfl) _
 have hb4:Below w.heap.size w w4:=B3.out.trans (ho4.below (by omega) (fun k hk=>by omega))
 have hr4:=qcl HO.out ho4 (fun k hk e=>by have:=zk HO.out hk;omega)
 rw[hw4]
 refine bodyPost_ret (v:= .tuple #[.agg #[.int .i64 (b:Int),.slice none 0 0,.slice (some ⟨w2.heap.size,0,none⟩) b b],.int .i64 0]) ?_ rfl ⟨t,_,b,rfl,HRI.out,jm hr4 (by omega),hb4⟩
 exact qg3 (p:=4) (u:=5) rfl _ _ w.heap.size _ _ _ rfl hk4
theorem Row.grown{w w':World}{lo hi c:Nat}{A:Option Addr}{r:List Vl}{row:Option Nat}(h:Row w lo hi A c r)(hg:w.grownBy w' row)(hB:hi≤w.heap.size)(hr:∀q,row=some q→q<lo):Row w' lo hi A c r :=
 ⟨h.els.keep fun p h1 h2=>qbj (hg.block p.block (zn h2 hB) fun e=>by have:=hr _ e.symm;omega),h.ok⟩
theorem xor_byte(s:BitVec 32)(x:UInt8):bits .xor .u32 (bn s) (x.toNat:Int)=bn (s ^^^ qfl x):=by
 have hs:=s.isLt
 have hx:=jj x
 unfold bn
 rw[u32_xor_nat _ _ hs (by omega),BitVec.toNat_xor]
 unfold qfl
 rw[kt,vc (by omega)]
theorem xor_cdiv{s:BitVec 32}(h:bn s%2=1):bits .xor .u32 (bn s/2) 3988292384=bn (qhi s):=by
 have hs:=s.isLt
 unfold bn at *
 rw[show((s.toNat:Int)/2)=((s.toNat/2:Nat):Int) from by omega,show(3988292384:Int)=((3988292384:Nat):Int) from rfl,u32_xor_nat _ _ (by omega) (by omega),cstep_odd (by omega)]
theorem refOf_any{w:World}(bs:List UInt8){lo h':Nat}{A:Option Addr}{c:Nat}(h:Rd w lo h' A c (bv bs)) :
  Calls Tryz.prog 52 #[.slice A bs.length c] w fun r w'=>r= .returned (.int .u32 (bn (qcp bs)))∧w=w':=by
 have hl:=h.len
 have hc:=h.cap
 rw[yf] at hl
 unfold maxLen at hc
 have H:=qa h
 clear h
 go_enter Tryz.func52,Tryz.ntmps52
 go_wp2_with fail
 go_loop [3,4] (fun s i=>∃k:Nat,k≤bs.length∧i= .int .i64 (k:Int)∧s= .int .u32 (bn (qbm qci (bs.take k)))) (fun _ i=>bs.length-(intOf i).toNat)
 case atStart=>exact⟨0,qi _,rfl,rfl⟩
 case round =>
  obtain⟨k,hk,rfl,rfl⟩:=hrel
  by_cases hlt:k<bs.length
  ·
   have hsn:Hid (qbm qci (bs.take (k+1))=qo8 (qbm qci (bs.take k)) bs[k]):=by
    unfold Hid
    rw[qj hlt,qj7]
   obtain⟨b,off,rfl,_,_,hcell⟩:=H.out.byte hlt
   have hs:=qof (qbm qci (bs.take k))
   have hx:=jj bs[k]
   have hxor:=xor_byte (qbm qci (bs.take k)) bs[k]
   generalize qbm qci (bs.take k)=s at *
   generalize bs[k]=x at *
   go_wp2
   clear hxor hs hcell
   go_loop [5,3] (fun j q=>∃n:Nat,n≤8∧j= .int .i64 (n:Int)∧q= .int .u32 (bn (qaz n (s ^^^ qfl x)))) (fun j _=>8-(intOf j).toNat)
   case atStart=>exact⟨0,qi _,rfl,rfl⟩
   case round =>
    obtain⟨n,hn,rfl,rfl⟩:=hrel
    by_cases hlt8:n<8
    ·
     have hq:=qof (qaz n (s ^^^ qfl x))
     by_cases hodd:bn (qaz n (s ^^^ qfl x))%2=1
     ·
      have hst:=xor_cdiv hodd
      rw[qis] at hst
      generalize qaz n (s ^^^ qfl x)=q at *
      generalize hq':bn (qaz (n+1) (s ^^^ qfl x))=q' at hst
      have HQ:=qa hq'
      clear hq'
      go_wp2
      go_round
      case rel=>exact⟨n+1,by omega,by go_num,by rw[HQ.out]⟩
      case measure=>simp[intOf];omega
     ·
      have hodd0:bn (qaz n (s ^^^ qfl x))%2=0:=by omega
      have hst:=bn_even hodd0
      rw[qis] at hst
      have HQ:=qa hst
      clear hodd hst
      generalize qaz n (s ^^^ qfl x)=q at *
      go_wp2
      go_round
      case rel=>exact⟨n+1,by omega,by go_num,by rw[HQ.out]⟩
      case measure=>simp[intOf];omega
    ·
     obtain rfl:n=8:=by omega
     go_wp2
     go_round
     case rel=>exact⟨k+1,by omega,by go_num,by rw[hsn.out];rfl⟩
     case measure=>simp[intOf];omega
  ·
   obtain rfl:k=bs.length:=by omega
   have hs:=qof (qbm qci (bs.take bs.length))
   have hnot:=bn_not (qbm qci (bs.take bs.length))
   have HE:Hid (qbm qci (bs.take bs.length) ^^^ qci=qcp bs):=by
    unfold Hid qcp
    rw[yw]
   generalize qbm qci (bs.take bs.length)=s at *
   go_wp2
   go_ret
   exact⟨qai (by rw[HE.out]),rfl⟩
theorem crcB_cells(s:BitVec 32):bv (qhe s)=[.int .u8 (bn s%256),.int .u8 (bn s/256%256),.int .u8 (bn s/65536%256),.int .u8 (bn s/16777216)]:=by
 have h:=congrArg (List.map fun n=>Value.int .u8 n) (crcB_nums s)
 rw[qac] at h
 exact h
theorem qkx{w:World}(bs:List UInt8){lo h':Nat}{A:Option Addr}{c:Nat}(h:Rd w lo h' A c (bv bs))(hh:h'≤w.heap.size)(hb:bs.length≤1000000000) :
  Calls Tryz.prog 30 #[.slice A bs.length c] w fun r w'=>∃A' c',r= .returned (.slice A' (vo bs).length c')∧
   w'.ownsRow w.heap.size 5 1 (.slice A' (vo bs).length c') (vo bs).length (bv (vo bs))∧Below w.heap.size w w':=by
 have hs:=qof (qcp bs)
 have H:=qa h
 obtain⟨A1,c1,w1,hrun,hown,hg1⟩:=qe9 (w.alloc (.cells #[] 5)) w.heap.size (.slice (some ⟨w.heap.size,0,none⟩) 0 0) [] bs (qlw w [] #[] rfl (by simp)) (h.alloc hh _) (by simp;omega) (by simp)
 simp only[j4,yr,yu] at hrun hown
 clear h
 have k1:Below w.heap.size w w1:=((Below.refl _ _).alloc (qc _) _).grown hg1 (by simp) (by simp[Value.ownBlock])
 have HO:=qa hown
 have HK1:=qa k1
 have s1:=k1.size
 clear hown hg1 k1
 have h4:=qlw w1 (qhe (qcp bs)) #[.int .u8 (bn (qcp bs)%256),.int .u8 (bn (qcp bs)/256%256),.int .u8 (bn (qcp bs)/65536%256),.int .u8 (bn (qcp bs)/16777216)] (by rw[crcB_cells]) (by simp[qb7])
 obtain⟨A2,c2,w2,hrun2,hown2,hg2⟩:=j9 (w1.alloc (.cells #[.int .u8 (bn (qcp bs)%256),.int .u8 (bn (qcp bs)/256%256),.int .u8 (bn (qcp bs)/65536%256),.int .u8 (bn (qcp bs)/16777216)] 5)) w.heap.size _ bs (qhe (qcp bs)) (vo bs) rfl (HO.out.alloc _) (Rd.own h4) (by rw[qb7];omega) (by simp;omega)
 have HO2:=qa hown2
 have HG2:=qa hg2
 clear hown2 hg2 h4
 rw[qb7] at hrun2
 go_enter Tryz.func30,Tryz.ntmps30
 go_wp2_with fail
 refine(refOf_any bs H.out).mono ?_
 rintro r w' ⟨rfl,rfl⟩
 go_wp2_with (at_builtin;refine wpList_append_run rfl _ _ _ _ rfl rfl rfl hrun ?_;refine qam ?_)
 refine⟨?_⟩
 clear hrun
 go_wp2_with (at_builtin;refine wpList_append_run rfl _ _ _ _ rfl rfl rfl hrun2 ?_)
 go_ret
 refine⟨A2,c2,rfl,HO2.out,?_⟩
 refine((HK1.out).alloc s1 _).grown HG2.out (by simp;omega) (fun k hk=>qec HO.out k hk)
def zero256:Array Value:=⟨List.replicate 256 (.int .u32 0)⟩
theorem Tryz.infoTab:(Tryz.prog.info? 189).map (fun i=>(i.zero,i.size))=some (some (.agg zero256),256):=by kernel_rfl
def tabV(j:Nat):Value:= .int .u32 (bn (vz (BitVec.ofNat 32 j)))
def qf1(k:Nat):Array Value:=Array.ofFn (n:=256) fun i=>if i.val<k then tabV i.val else .int .u32 0
theorem qbr(k:Nat):(qf1 k).size=256:=Array.size_ofFn
theorem zero256_rep:zero256=Array.replicate 256 (.int .u32 0):=by kernel_rfl
theorem tabTo_zero:qf1 0=zero256:=by
 rw[zero256_rep]
 apply Array.ext
 ·
  rw[qbr,Array.size_replicate]
 ·
  intro i h1 h2
  rw[Array.getElem_replicate]
  simp only[qf1,Array.getElem_ofFn]
  rw[if_neg (by omega)]
theorem tabTo_get{k j:Nat}(hj:j<256):(qf1 k)[j]? = some (if j<k then tabV j else .int .u32 0):=by
 unfold qf1
 rw[Array.getElem?_ofFn,dif_pos hj]
theorem tabTo_put{k:Nat}(hk:k<256):(qf1 k).setIfInBounds k (tabV k)=qf1 (k+1):=by
 apply Array.ext
 ·
  rw[Array.size_setIfInBounds,qbr,qbr]
 ·
  intro i h1 h2
  rw[qbr] at h2
  rw[Array.getElem_setIfInBounds (by rw[qbr];exact h2)]
  simp only[qf1,Array.getElem_ofFn]
  by_cases e:k=i
  ·
   subst e;simp
  ·
   by_cases h:i<k
   ·
    simp[e,h,show i<k+1 from by omega]
   ·
    simp[e,h,show ¬i<k+1 from by omega]
theorem tabTo_one(k:Nat):(qf1 k).all (·.oneCell')=true:=by
 rw[Array.all_eq_true]
 intro i hi
 simp only[qf1,Array.getElem_ofFn]
 split <;> rfl
def qhb:Array Value:=qf1 256
theorem tabAll_get{j:Nat}(hj:j<256):qhb[j]? = some (.int .u32 (bn (vz (BitVec.ofNat 32 j)))):=by
 unfold qhb
 rw[tabTo_get hj,if_pos hj]
 rfl
theorem and_one(s:BitVec 32):bits .and .u32 (bn s) 1=bn s%2:=by
 have hs:=s.isLt
 unfold bn
 rw[show(1:Int)=((1:Nat):Int) from rfl,u32_and_nat _ _ hs (by omega),Nat.and_one_is_mod]
 omega
theorem xor_none{s:BitVec 32}(h:bn s%2=0):bits .xor .u32 (bn s/2) 0=bn (qhi s):=by
 have hs:=s.isLt
 have e:=bn_even h
 rw[←e]
 unfold bn
 rw[show((s.toNat:Int)/2)=((s.toNat/2:Nat):Int) from by omega,show(0:Int)=((0:Nat):Int) from rfl,u32_xor_nat _ _ (by omega) (by omega),Nat.xor_zero]
theorem setRow_blk{w:World}{g:Nat}{t:TypeId}{cs:Array Value}(h:yy w g t cs)(cs':Array Value):yy (w.setRow g cs') g t cs':=setRow_heap w g cs cs' t _ h
theorem setRow_gb{a w:World}{g:Nat}(h:a.grownBy w (some g))(cs:Array Value):a.grownBy (w.setRow g cs) (some g) :=
 ⟨h.os,h.tape,h.output,by simpa using h.size,fun i hi hne=>(setRow_other w g i cs (fun e=>hne (by rw[e]))).trans (h.block i hi hne)⟩
theorem table_any{w:World}:Calls Tryz.prog 132 #[] w fun r w'=>r= .returned (.agg qhb)∧Below w.heap.size w w':=by
 obtain⟨hz,hsz⟩:=zero_of_info Tryz.infoTab
 have HSZ:=qa hsz
 clear hsz
 go_enter Tryz.func132,Tryz.ntmps132
 go_wp2_with fail
 rw[←tabTo_zero]
 go_loopw [5] (fun i wr=>∃k:Nat,k≤256∧i= .int .i64 (k:Int)∧yy wr (w.heap.size+1) 189 (qf1 k)∧yy wr w.heap.size 189 (qf1 0)∧Below w.heap.size w wr) (fun i _=>256-(intOf i).toNat)
 case atStart =>
  refine⟨0,by omega,rfl,?_,?_,((Below.refl _ _).alloc (qc _) _).alloc (by simp) _⟩
  ·
   have:=yy.new (w.alloc (.cells (qf1 0) 189)) 189 (qf1 0)
   simpa using this
  ·
   exact(yy.new w 189 (qf1 0)).alloc _
 case round =>
  obtain⟨k,hk,rfl,hb1,hb0,hbel⟩:=hrel
  have HB1:=qa hb1
  have HB0:=qa hb0
  have HBL:=qa hbel
  by_cases hlt:k<256
  ·
   have hcell:wr.cell? ⟨w.heap.size+1,k,none⟩=some (.int .u32 0):=by
    rw[hb1.cell,tabTo_get hlt,if_neg (by omega)]
   have hfr:=hb1.frozen k
   have hkn:Hid ((k:Int)=bn (BitVec.ofNat 32 k)):=by
    unfold Hid bn
    rw[kt]
    omega
   clear hb1 hb0 hbel
   go_wp2_with fail
   go_loop [10,3] (fun j q=>∃n:Nat,n≤8∧j= .int .i64 (n:Int)∧q= .int .u32 (bn (qaz n (BitVec.ofNat 32 k)))) (fun j _=>8-(intOf j).toNat)
   case atStart=>exact⟨0,by omega,rfl,by rw[hkn.out];rfl⟩
   case round =>
    obtain⟨n,hn,rfl,rfl⟩:=hrel
    by_cases hlt8:n<8
    ·
     have hq:=qof (qaz n (BitVec.ofNat 32 k))
     have hand:=and_one (qaz n (BitVec.ofNat 32 k))
     by_cases hodd:bn (qaz n (BitVec.ofNat 32 k))%2=1
     ·
      have hst:=xor_cdiv hodd
      rw[qis] at hst
      rw[hodd] at hand
      clear hodd
      generalize qaz n (BitVec.ofNat 32 k)=q at *
      generalize hq':bn (qaz (n+1) (BitVec.ofNat 32 k))=q' at hst
      have HQ:=qa hq'
      clear hq'
      go_wp2
      go_round
      case rel=>exact⟨n+1,by omega,by go_num,by rw[HQ.out]⟩
      case measure=>simp[intOf];omega
     ·
      have hodd0:bn (qaz n (BitVec.ofNat 32 k))%2=0:=by omega
      have hst:=xor_none hodd0
      rw[qis] at hst
      rw[hodd0] at hand
      clear hodd hodd0
      generalize qaz n (BitVec.ofNat 32 k)=q at *
      generalize hq':bn (qaz (n+1) (BitVec.ofNat 32 k))=q' at hst
      have HQ:=qa hq'
      clear hq'
      go_wp2
      go_round
      case rel=>exact⟨n+1,by omega,by go_num,by rw[HQ.out]⟩
      case measure=>simp[intOf];omega
    ·
     obtain rfl:n=8:=by omega
     go_wp2
     go_roundw
     case rel =>
      refine⟨k+1,by omega,by go_num,?_,HB0.out.far (by simp) _,HBL.out.setCell (by simp) _⟩
      rw[←tabTo_put hlt]
      exact HB1.out.put k _
     case measure=>simp[intOf];omega
  ·
   obtain rfl:k=256:=by omega
   clear hb1 hb0 hbel
   go_wp2_with (first | (refine wpList_load_row rfl 189 _ rfl (w.heap.size+1) rfl 189 (qf1 256) (0,0) _ HB1.out Tryz.underlying189 rfl (by rw[qbr];exact HSZ.out) ?_;refine qam ?_))
   refine⟨?_⟩
   go_wp2_with (refine wpList_store_row rfl 189 _ _ rfl w.heap.size (qf1 256) rfl rfl 189 (qf1 0) HB0.out (by rw[qbr];exact HSZ.out) (by rw[qbr,qbr]) (tabTo_one _) ?_)
   refine bodyPost_ret (v:= .agg qhb) ?_ rfl ⟨rfl,?_⟩
   ·
    exact results_cell_row rfl _ _ w.heap.size 189 (qf1 256) (0,0) _ rfl (setRow_blk HB0.out _) Tryz.underlying189 rfl (by rw[qbr];exact HSZ.out)
   ·
    exact HBL.out.grown (row:=some w.heap.size) (setRow_gb (vg _ _) _) HBL.out.size (fun g hg=>by injection hg with hg;omega)
theorem tab_index(s:BitVec 32)(x:UInt8):bits .xor .u8 (bn s%256) (x.toNat:Int)=(((s.toNat%256) ^^^ x.toNat:Nat):Int):=by
 have hx:=jj x
 unfold bn
 rw[show((s.toNat:Int)%256)=((s.toNat%256:Nat):Int) from by omega,u8_xor_nat _ _ (by omega) (by omega)]
theorem tab_lt(s:BitVec 32)(x:UInt8):(s.toNat%256) ^^^ x.toNat<256:=by
 have hx:=jj x
 exact Nat.xor_lt_two_pow (n:=8) (by omega) (by omega)
theorem tab_next(s:BitVec 32)(x:UInt8):bits .xor .u32 (bn (vz (BitVec.ofNat 32 ((s.toNat%256) ^^^ x.toNat)))) (bn s/256)=bn (qo8 s x):=by
 have hs:=s.isLt
 rw[cupd_table]
 have h1:=(vz (BitVec.ofNat 32 ((s.toNat%256) ^^^ x.toNat))).isLt
 unfold bn
 rw[show((s.toNat:Int)/256)=((s.toNat/256:Nat):Int) from by omega,u32_xor_nat _ _ h1 (by omega),BitVec.toNat_xor,BitVec.toNat_ushiftRight,Nat.shiftRight_eq_div_pow]
theorem xor_end(s:BitVec 32):bits .xor .u32 (bn s) 4294967295=bn (s ^^^ qci):=by
 have hs:=s.isLt
 unfold bn
 rw[show(4294967295:Int)=((4294967295:Nat):Int) from rfl,u32_xor_nat _ _ hs (by omega),BitVec.toNat_xor]
 rfl
theorem of_any{w:World}(ps:List Part){h':Nat}{A:Option Addr}{c:Nat}(h:Rd w 0 h' A c (ps.map Part.val))(hh:h'≤w.heap.size)(hp:∀p∈ps,p.rd w w.heap.size) :
  Calls Tryz.prog 91 #[.slice A ps.length c] w fun r w'=>r= .returned (.int .u32 (bn (qcp (xo ps))))∧Below w.heap.size w w':=by
 obtain⟨hz,hsz⟩:=zero_of_info Tryz.infoTab
 have HSZ:=qa hsz
 clear hsz
 have hl:=h.len
 have hc:=h.cap
 rw[q8] at hl
 unfold maxLen at hc
 have H:=qa h
 have HP:=qa hp
 clear h hp
 go_enter Tryz.func91,Tryz.ntmps91
 go_wp2_with fail
 refine table_any.mono ?_
 rintro r w1 ⟨rfl,hb1⟩
 have HB1:=qa hb1
 have s1:=hb1.size
 clear hb1
 go_wp2_with (refine wpList_store_row rfl 189 _ _ rfl w1.heap.size qhb rfl rfl 189 zero256 (yy.new w1 _ _) (by rw[show qhb.size=256 from qbr _];exact HSZ.out) (by rw[show qhb.size=256 from qbr _];rfl) (tabTo_one _) ?_;rw[World.setRow_alloc_new];refine qam ?_)
 refine⟨?_⟩
 have HT:=qa (yy.new w1 189 qhb)
 have HW:=qa (HB1.out.alloc s1 (.cells qhb 189))
 have HA:=qa ((H.out.below HB1.out hh).alloc (zb hh s1) (.cells qhb 189))
 have hpa:∀p∈ps,p.rd (w1.alloc (.cells qhb 189)) w.heap.size:=fun p hp=>((HP.out p hp).below HB1.out (qc _)).alloc s1 _
 have HPA:=qa hpa
 clear hpa
 generalize w1.alloc (.cells qhb 189)=w2 at *
 go_wp2_with fail
 go_loop [4,12] (fun q i=>∃k:Nat,k≤ps.length∧i= .int .i64 (k:Int)∧q= .int .u32 (bn (qbm qci (xo (ps.take k))))) (fun _ i=>ps.length-(intOf i).toNat)
 case atStart=>exact⟨0,qi _,rfl,rfl⟩
 case round =>
  obtain⟨k,hk,rfl,rfl⟩:=hrel
  by_cases hlt:k<ps.length
  ·
   have hsn:=qa (qpq ps hlt)
   have HR:=qa (HPA.out ps[k] (ql hlt))
   obtain⟨b,off,rfl,_,_,hcell⟩:=HA.out.get (k:=k) (by rw[q8];exact hlt)
   rw[j6] at hcell
   generalize ps[k]=p at *
   generalize xo (ps.take k)=pre at *
   obtain⟨A1,c1,bs⟩:=p
   unfold Part.rd at HR
   unfold Part.val at hcell
   dsimp only at hcell HR
   have hlb:=HR.out.len
   have hcb:=HR.out.cap
   rw[yf] at hlb
   unfold maxLen at hcb
   go_wp2_with fail
   clear hcell
   go_loop [18,4] (fun i q=>∃j:Nat,j≤bs.length∧i= .int .i64 (j:Int)∧q= .int .u32 (bn (qbm (qbm qci pre) (bs.take j)))) (fun i _=>bs.length-(intOf i).toNat)
   case atStart=>exact⟨0,qi _,rfl,rfl⟩
   case round =>
    obtain⟨j,hj,rfl,rfl⟩:=hrel
    by_cases hlj:j<bs.length
    ·
     have hst:Hid (qbm (qbm qci pre) (bs.take (j+1))=qo8 (qbm (qbm qci pre) (bs.take j)) bs[j]):=by
      unfold Hid
      rw[qj hlj,qj7]
     obtain⟨b2,off2,rfl,_,_,hcell⟩:=HR.out.byte hlj
     have hs:=qof (qbm (qbm qci pre) (bs.take j))
     generalize qbm (qbm qci pre) (bs.take j)=s at *
     generalize bs[j]=x at *
     have hx:=jj x
     have hti:=tab_index s x
     have htl:=tab_lt s x
     have htn:=tab_next s x
     have htc:w2.cell? ⟨w1.heap.size,(s.toNat%256) ^^^ x.toNat,none⟩=some (.int .u32 (bn (vz (BitVec.ofNat 32 ((s.toNat%256) ^^^ x.toNat))))):=by
      rw[HT.out.cell,tabAll_get htl]
     have htb:=qof (vz (BitVec.ofNat 32 ((s.toNat%256) ^^^ x.toNat)))
     generalize bn (vz (BitVec.ofNat 32 ((s.toNat%256) ^^^ x.toNat)))=v at *
     generalize (s.toNat%256) ^^^ x.toNat=d at *
     go_wp2
     go_round
     case rel=>exact⟨j+1,by omega,by go_num,by rw[hst.out]⟩
     case measure=>simp[intOf];omega
    ·
     obtain rfl:j=bs.length:=by omega
     go_wp2
     go_round
     case rel=>exact⟨k+1,by omega,by go_num,by rw[hsn.out,qge,yw]⟩
     case measure=>simp[intOf];omega
  ·
   obtain rfl:k=ps.length:=by omega
   have hs:=qof (qbm qci (xo (ps.take ps.length)))
   have hnot:=xor_end (qbm qci (xo (ps.take ps.length)))
   have HE:Hid (qbm qci (xo (ps.take ps.length)) ^^^ qci=qcp (xo ps)):=by
    unfold Hid qcp
    rw[yw]
   generalize qbm qci (xo (ps.take ps.length))=s at *
   go_wp2
   go_ret
   exact⟨qai (by rw[HE.out]),HW.out⟩
end Go.Proofs.YtjfecojdagmacaaGreat
