/-
  Lemmas.
-/
import Derived.Test.YtnjkipnklpkaoaaGreatA13
import Derived.Maps.OwnOps
import Derived.Maps.OwnSet
import Derived.Shelf.SlIterI.Keys
import Derived.Shelf.SlIterI.Sorted
import Derived.Shelf.Slices.Empties
import Derived.Shelf.Slices.SearchI
import Derived.Shelf.SortM.Plain
import Derived.Shelf.SortM.SortNone
namespace Go.Proofs.YtnjkipnklpkaoaaGreat
open Go.RowKit
set_option maxRecDepth 20000
set_option maxHeartbeats 16000000
set_option linter.unusedSimpArgs false
set_option linter.unusedVariables false
section
set_option maxRecDepth 100000
open Go.RowKit Go.Maps Go.Sort
theorem qae{P : Program}{f : FuncId}{B g : Func}(h : P.funcs[f]? = some g)(hb : g = { B with name := g.name })(hn : (g.name == "runtime.NumGoroutine") = false) : Bears P f B := ⟨g.name, hn, h.trans (congrArg some hb)⟩
def gkren:Go.Shelf.Ren:=⟨fun | 6=>154 | 7=>155 | 8=>192 | 9=>193 | 10=>194 | 11=>219 | 12=>220 | 13=>195 | 14=>239 | 15=>240 | 16=>241 | 17=>242 | 18=>243 | 19=>244 | 20=>205 | 21=>245 | 22=>246 | 23=>221 | 24=>222 | 25=>261 | 26=>262 | 27=>263 | 28=>264 | 29=>265 | 30=>227 | 31=>272 | n=>n,fun | 0=>0 | 1=>1 | 2=>2 | 3=>187 | 4=>4 | 5=>5 | 6=>6 | 7=>7 | 8=>8 | 9=>9 | 10=>10 | 11=>11 | 12=>12 | 13=>13 | 14=>14 | 15=>15 | 16=>16 | 17=>17 | 18=>18 | 19=>19 | 20=>20 | 21=>21 | 23=>186 | 24=>64 | 25=>188 | 26=>3 | 27=>189 | 28=>190 | 29=>191 | 32=>221 | 33=>175 | 34=>240 | 35=>241 | 36=>222 | 37=>124 | 38=>253 | 39=>254 | 40=>255 | 41=>256 | 42=>257 | 43=>232 | 44=>258 | 45=>210 | 46=>259 | 47=>242 | 48=>101 | 49=>243 | 50=>224 | 51=>268 | 52=>247 | 53=>269 | 54=>270 | 55=>271 | 56=>272 | 57=>280 | 58=>132 | 59=>281 | 60=>218 | 61=>293 | 62=>294 | 63=>295 | 64=>296 | 65=>297 | 66=>44 | 67=>298 | 68=>299 | 69=>300 | 70=>233 | 71=>301 | 72=>302 | 73=>303 | 74=>304 | 75=>245 | n=>n,fun n=>n⟩
theorem gklays:Go.Proofs.SlLaysZI.n7 Tryz.prog gkren:={
 mixed:=by kernel_rfl
 f7:=qae Tryz.func155 (by kernel_rfl) (by kernel_rfl)
 f10:=qae Tryz.func194 (by kernel_rfl) (by kernel_rfl)
 t0:=Tryz.underlying0
 a0:=Tryz.isAgg0
 z0:=Tryz.sizeOf0
 v0:=Tryz.zeroValue0
 t4:=Tryz.underlying4
 a4:=Tryz.isAgg4
 z4:=Tryz.sizeOf4
 v4:=Tryz.zeroValue4
 t23:=Tryz.underlying186
 a23:=Tryz.isAgg186
 z23:=Tryz.sizeOf186
 v23:=Tryz.zeroValue186
 t26:=Tryz.underlying3
 a26:=Tryz.isAgg3
 z26:=Tryz.sizeOf3
 v26:=Tryz.zeroValue3
 t27:=Tryz.underlying189
 a27:=Tryz.isAgg189
 z27:=Tryz.sizeOf189
 v27:=Tryz.zeroValue189
 t28:=Tryz.underlying190
 a28:=Tryz.isAgg190
 z28:=Tryz.sizeOf190
 v28:=Tryz.zeroValue190
 t33:=Tryz.underlying175
 a33:=Tryz.isAgg175
 z33:=Tryz.sizeOf175
 v33:=Tryz.zeroValue175
 }
def gdren:Go.Shelf.Ren:=⟨fun | 6=>154 | 7=>155 | 8=>192 | 9=>193 | 10=>194 | 11=>219 | 12=>220 | 13=>195 | 14=>239 | 15=>240 | 16=>241 | 17=>242 | 18=>243 | 19=>244 | 20=>205 | 21=>245 | 22=>246 | 23=>221 | 24=>222 | 25=>261 | 26=>262 | 27=>263 | 28=>264 | 29=>265 | 30=>227 | 31=>272 | n=>n,fun | 0=>0 | 1=>1 | 2=>2 | 3=>3 | 4=>4 | 5=>5 | 6=>6 | 7=>7 | 8=>8 | 9=>9 | 10=>10 | 11=>11 | 12=>12 | 13=>13 | 14=>14 | 15=>15 | 16=>16 | 17=>17 | 18=>18 | 19=>19 | 20=>20 | 21=>21 | 23=>186 | 24=>64 | 25=>188 | 26=>3 | 27=>189 | 28=>190 | 29=>191 | 32=>221 | 33=>175 | 34=>240 | 35=>241 | 36=>222 | 37=>124 | 38=>253 | 39=>254 | 40=>255 | 41=>256 | 42=>257 | 43=>232 | 44=>258 | 45=>210 | 46=>259 | 47=>242 | 48=>101 | 49=>243 | 50=>224 | 51=>268 | 52=>247 | 53=>269 | 54=>270 | 55=>271 | 56=>272 | 57=>280 | 58=>132 | 59=>281 | 60=>218 | 61=>293 | 62=>294 | 63=>295 | 64=>296 | 65=>297 | 66=>44 | 67=>298 | 68=>299 | 69=>300 | 70=>233 | 71=>301 | 72=>302 | 73=>303 | 74=>304 | 75=>245 | n=>n,fun n=>n⟩
theorem gdlays:Go.Proofs.SlLaysZI.n6 Tryz.prog gdren:={
 mixed:=by kernel_rfl
 f6:=qae Tryz.func154 (by kernel_rfl) (by kernel_rfl)
 f8:=qae Tryz.func192 (by kernel_rfl) (by kernel_rfl)
 f11:=qae Tryz.func219 (by kernel_rfl) (by kernel_rfl)
 t0:=Tryz.underlying0
 a0:=Tryz.isAgg0
 z0:=Tryz.sizeOf0
 v0:=Tryz.zeroValue0
 t24:=Tryz.underlying64
 a24:=Tryz.isAgg64
 z24:=Tryz.sizeOf64
 v24:=Tryz.zeroValue64
 t26:=Tryz.underlying3
 a26:=Tryz.isAgg3
 z26:=Tryz.sizeOf3
 v26:=Tryz.zeroValue3
 t28:=Tryz.underlying190
 a28:=Tryz.isAgg190
 z28:=Tryz.sizeOf190
 v28:=Tryz.zeroValue190
 i26:=by kernel_rfl
 }
def gmren:Go.Shelf.Ren:=⟨fun | 5=>193 | 7=>220 | 8=>195 | 10=>239 | 11=>240 | 12=>241 | 13=>242 | 14=>243 | 15=>244 | 16=>205 | 17=>245 | 18=>246 | 19=>221 | 20=>222 | 30=>261 | 31=>262 | 32=>263 | 33=>264 | 34=>265 | 35=>227 | 40=>272 | n=>n,fun | 0=>0 | 1=>1 | 2=>2 | 3=>3 | 4=>4 | 5=>5 | 6=>6 | 7=>7 | 8=>8 | 9=>9 | 10=>10 | 11=>11 | 12=>12 | 13=>13 | 14=>14 | 15=>15 | 16=>16 | 17=>17 | 18=>18 | 19=>19 | 20=>20 | 21=>21 | 22=>64 | 23=>64 | 24=>221 | 25=>3 | 30=>241 | 31=>222 | 32=>124 | 34=>253 | 35=>254 | 36=>255 | 37=>256 | 38=>257 | 39=>232 | 40=>258 | 41=>210 | 42=>259 | 43=>242 | 44=>101 | 45=>243 | 46=>224 | 53=>268 | 54=>247 | 55=>269 | 56=>270 | 57=>271 | 58=>272 | 59=>175 | 63=>280 | 64=>132 | 65=>281 | 67=>218 | 68=>293 | 69=>294 | 70=>295 | 71=>296 | 72=>297 | 73=>44 | 74=>298 | 75=>299 | 76=>300 | 77=>233 | 78=>301 | 79=>302 | 80=>303 | 81=>304 | 82=>245 | n=>n,fun n=>n⟩
theorem gmlays:Go.Proofs.SlLaysM.n5 Tryz.prog gmren:={
 mixed:=by kernel_rfl
 f5:=qae Tryz.func193 (by kernel_rfl) (by kernel_rfl)
 f7:=qae Tryz.func220 (by kernel_rfl) (by kernel_rfl)
 f8:=Tryz.func195.trans (congrArg some (by kernel_rfl))
 f10:=qae Tryz.func239 (by kernel_rfl) (by kernel_rfl)
 f11:=qae Tryz.func240 (by kernel_rfl) (by kernel_rfl)
 f12:=qae Tryz.func241 (by kernel_rfl) (by kernel_rfl)
 f13:=qae Tryz.func242 (by kernel_rfl) (by kernel_rfl)
 f14:=qae Tryz.func243 (by kernel_rfl) (by kernel_rfl)
 f15:=qae Tryz.func244 (by kernel_rfl) (by kernel_rfl)
 f16:=qae Tryz.func205 (by kernel_rfl) (by kernel_rfl)
 f17:=qae Tryz.func245 (by kernel_rfl) (by kernel_rfl)
 f18:=qae Tryz.func246 (by kernel_rfl) (by kernel_rfl)
 f19:=Tryz.func221.trans (congrArg some (by kernel_rfl))
 f20:=Tryz.func222.trans (congrArg some (by kernel_rfl))
 f30:=qae Tryz.func261 (by kernel_rfl) (by kernel_rfl)
 f31:=Tryz.func262.trans (congrArg some (by kernel_rfl))
 f32:=Tryz.func263.trans (congrArg some (by kernel_rfl))
 f33:=qae Tryz.func264 (by kernel_rfl) (by kernel_rfl)
 f34:=qae Tryz.func265 (by kernel_rfl) (by kernel_rfl)
 f35:=qae Tryz.func227 (by kernel_rfl) (by kernel_rfl)
 f40:=qae Tryz.func272 (by kernel_rfl) (by kernel_rfl)
 t0:=Tryz.underlying0
 a0:=Tryz.isAgg0
 z0:=Tryz.sizeOf0
 v0:=Tryz.zeroValue0
 t3:=Tryz.underlying3
 a3:=Tryz.isAgg3
 z3:=Tryz.sizeOf3
 v3:=Tryz.zeroValue3
 t4:=Tryz.underlying4
 a4:=Tryz.isAgg4
 z4:=Tryz.sizeOf4
 v4:=Tryz.zeroValue4
 t5:=Tryz.underlying5
 a5:=Tryz.isAgg5
 z5:=Tryz.sizeOf5
 v5:=Tryz.zeroValue5
 t9:=Tryz.underlying9
 a9:=Tryz.isAgg9
 z9:=Tryz.sizeOf9
 v9:=Tryz.zeroValue9
 t22:=Tryz.underlying64
 a22:=Tryz.isAgg64
 z22:=Tryz.sizeOf64
 v22:=Tryz.zeroValue64
 t23:=Tryz.underlying64
 a23:=Tryz.isAgg64
 z23:=Tryz.sizeOf64
 v23:=Tryz.zeroValue64
 t25:=Tryz.underlying3
 a25:=Tryz.isAgg3
 z25:=Tryz.sizeOf3
 v25:=Tryz.zeroValue3
 t32:=Tryz.underlying124
 a32:=Tryz.isAgg124
 z32:=Tryz.sizeOf124
 v32:=Tryz.zeroValue124
 t35:=Tryz.underlying254
 a35:=Tryz.isAgg254
 z35:=Tryz.sizeOf254
 v35:=Tryz.zeroValue254
 t36:=Tryz.underlying255
 a36:=Tryz.isAgg255
 z36:=Tryz.sizeOf255
 v36:=Tryz.zeroValue255
 t41:=Tryz.underlying210
 a41:=Tryz.isAgg210
 z41:=Tryz.sizeOf210
 v41:=Tryz.zeroValue210
 t44:=Tryz.underlying101
 a44:=Tryz.isAgg101
 z44:=Tryz.sizeOf101
 v44:=Tryz.zeroValue101
 t46:=Tryz.underlying224
 a46:=Tryz.isAgg224
 z46:=Tryz.sizeOf224
 v46:=Tryz.zeroValue224
 t53:=Tryz.underlying268
 a53:=Tryz.isAgg268
 z53:=Tryz.sizeOf268
 v53:=Tryz.zeroValue268
 t57:=Tryz.underlying271
 a57:=Tryz.isAgg271
 z57:=Tryz.sizeOf271
 v57:=Tryz.zeroValue271
 t63:=Tryz.underlying280
 a63:=Tryz.isAgg280
 z63:=Tryz.sizeOf280
 v63:=Tryz.zeroValue280
 t64:=Tryz.underlying132
 a64:=Tryz.isAgg132
 z64:=Tryz.sizeOf132
 v64:=Tryz.zeroValue132
 }
theorem gsorts(m:Nat):AnyZI.SortsIn Tryz.prog gdren Fence.wide m :=
 ⟨fun blk off cap ss W hH hblk hsz=>callsIn_wide.2 (AnyM.slices_Sort_int gmlays blk off cap ss W hH hblk hsz),
  fun p cap W=>callsIn_wide.2 (AnyM.slices_Sort_int_none gmlays p cap W)⟩
theorem gkeys_any(mb:Option Nat)(W:World):Calls Tryz.prog 155 #[.map mb] W fun e w'=>e= .returned (.func (.func 194) #[] #[.pointer (some ⟨W.heap.size,0,none⟩)])∧w'=W.alloc (.cells #[.map mb] 186) :=
 (callsIn_wide (n:=5)).1 (AnyZI.keys_in gklays Fence.wide 5 trivial rfl mb W)
theorem gsorted_any(b nn:Nat)(D0:DataW Unit)(w:World)(hown:w.ownsMap Tryz.prog 3 (unitElem (H:=Unit)) b nn D0)(hmax:Maps.size D0≤maxLen)(hbytes:Maps.size D0*8≤140737488355328)(w1:World)(hw1:w1=w.alloc (.cells #[.map (some b)] 186)) :
  Calls Tryz.prog 154 #[.func (.func 194) #[] #[.pointer (some ⟨w.heap.size,0,none⟩)]] w1 fun e w'=>∃(v:Value) (ss:List Int),e= .returned v∧ss.Perm (intKeys D0)∧
   w'.ownsRow w1.heap.size 3 1 v ss.length ((ss.mergeSort (fun x y=>decide (x≤y))).map encZ)∧(v= .slice none 0 0↔ss=[])∧Below w1.heap.size w1 w':=by
 subst hw1
 have hbl:=hown.lt
 have hseq:SeqGives Fence.wide 2 Tryz.prog 194 #[.pointer (some ⟨w.heap.size,0,none⟩)] encZ (fun ss=>ss.Perm (intKeys D0)) (Maps.size D0) (w.alloc (.cells #[.map (some b)] 186)) :=
  AnyZI.keys_gives (ρ:=gkren) { gklays with } Fence.wide _ trivial rfl (by omega) w.heap.size b nn D0 _ (by simp) (by simp) (by
   obtain⟨es,clock,hb,Ft,hs,hD⟩:=hown
   exact⟨es,clock,(Below.heap_alloc _ _ b hbl).trans hb,Ft,hs,hD⟩)
 exact(callsIn_wide (n:=5)).1 (AnyZI.sorted_in gdlays Fence.wide 5 trivial trivial trivial trivial rfl (by omega) (gsorts _) (enters_of Tryz.func193 (by kernel_rfl) rfl) 194 #[.pointer (some ⟨w.heap.size,0,none⟩)] trivial (enters_of Tryz.func194 (by kernel_rfl) rfl) _ _ hmax hbytes _ hseq)
end
section
open Go.RowKit Go.Maps Go.Sort
structure SetN (D:DataW Unit) (P:List Nat):Prop where
 map:IsMap D
 has:∀x:Int,Maps.has D (.int .i64 x)=decide (x∈zu P)
theorem SetN.nil:SetN (.map []) []:=⟨isMap_empty,fun _=>rfl⟩
theorem SetN.put{D:DataW Unit}{P:List Nat}(h:SetN D P)(g:Nat):SetN (D.put (.int .i64 (g:Int)) (.agg [])) (P++[g]):=by
 refine⟨h.map.put _ _,fun y => ?_⟩
 by_cases hy:y=(g:Int)
 ·
  subst hy
  rw[has_put_same h.map (show WideAt.IsKeyLit (Lit.int .i64 (g:Int)) from trivial)]
  simp[zu]
 ·
  rw[has_put_other (fun e=>hy (by injection e)),h.has y]
  simp[zu,hy]
theorem once_of:∀P:List Nat,∃u:List Nat,u.Nodup∧∀x,x∈u↔x∈P
 | []=>⟨[],List.nodup_nil,fun _=>Iff.rfl⟩
 | a :: P=>by
  obtain⟨u,h1,h2⟩:=once_of P
  by_cases ha:a∈P
  ·
   exact⟨u,h1,fun x=>by
    rw[h2 x,jc]
    exact⟨.inr,fun h=>h.elim (fun e=>e ▸ ha) id⟩⟩
  ·
   exact⟨a :: u,List.nodup_cons.2 ⟨fun h=>ha ((h2 a).1 h),h1⟩,fun x=>by rw[jc,jc,h2 x]⟩
theorem qo7{P:List Nat}{z:Int}:z∈zu P↔∃g∈P,(g:Int)=z:=zn
theorem qo6{P:List Nat}{g:Nat}:(g:Int)∈zu P↔g∈P:=by
 rw[qo7]
 constructor
 ·
  rintro⟨x,hx,e⟩
  have:x=g:=by omega
  exact this ▸ hx
 ·
  exact fun h=>⟨g,h,rfl⟩
def MapN(w:World)(B n:Nat)(D:DataW Unit):Prop:=w.ownsMap Tryz.prog 3 (unitElem (H:=Unit)) B n D
theorem MapN.out{w w':World}{B n:Nat}{D:DataW Unit}{X:Nat→Prop}(h:MapN w B n D)(ho:Out w w' X)(hB:¬X B):MapN w' B n D:=by
 have hlt:=h.lt
 obtain⟨es,clock,hb,rest⟩:=h
 exact⟨es,clock,(ho.block B hlt hB).trans hb,rest⟩
theorem SetN.perm{w:World}{B n:Nat}{D:DataW Unit}{P:List Nat}(h:SetN D P)(hown:MapN w B n D):∃u:List Nat,u.Nodup∧(∀x,x∈u↔x∈P)∧(zu u).Perm (intKeys D):=by
 obtain⟨u,h1,h2⟩:=once_of P
 have hc:CollectedI D (fun _=>false) (zu u):=by
  refine⟨List.pairwise_map.2 (h1.imp fun {a b} hab e=>hab (by omega)),fun x => ?_⟩
  rw[h.has x,decide_eq_true_iff,qo7,qo7]
  constructor
  ·
   rintro⟨g,hg,e⟩
   exact⟨⟨g,(h2 g).1 hg,e⟩,rfl⟩
  ·
   rintro⟨⟨g,hg,e⟩, -⟩
   exact⟨g,(h2 g).2 hg,e⟩
 exact⟨u,h1,h2,hc.perm hown (int_keyed Tryz.underlying3) Tryz.underlying3 (fun _=>rfl)⟩
theorem size_keys{D:DataW Unit}(h:IsMap D):Maps.size D=(intKeys D).length:=by
 obtain⟨es,rfl⟩:=h
 simp[Maps.size,intKeys]
theorem SetN.size{w:World}{B n:Nat}{D:DataW Unit}{P:List Nat}(h:SetN D P)(hown:MapN w B n D):Maps.size D≤P.length:=by
 obtain⟨u,h1,h2,hp⟩:=h.perm hown
 rw[size_keys h.map,←hp.length_eq,zj]
 exact List.Nodup.length_le_of_subset h1 fun x hx=>(h2 x).1 hx
theorem SetN.keys{w:World}{B n:Nat}{D:DataW Unit}{P:List Nat}(h:SetN D P)(hown:MapN w B n D){ss:List Int}(hp:ss.Perm (intKeys D)) :
  ∃t:List Nat,Rise P t∧(ss.mergeSort (fun x y=>decide (x≤y))).map encZ=iv (zu t)∧ss.length=t.length:=by
 obtain⟨u,h1,h2,hu⟩:=h.perm hown
 have hsu:ss.Perm (zu u):=hp.trans hu.symm
 have hz:=List.mergeSort_perm ss (fun x y=>decide (x≤y))
 have hzu:=hz.trans hsu
 have tr:∀a b c:Int,decide (a≤b)=true→decide (b≤c)=true→decide (a≤c)=true:=fun a b c h1 h2=>by simp only[decide_eq_true_eq] at *;omega
 have to:∀a b:Int,(decide (a≤b)||decide (b≤a))=true:=fun a b=>by simp only[Bool.or_eq_true,decide_eq_true_eq];omega
 have hord:=List.pairwise_mergeSort (le:=fun x y:Int=>decide (x≤y)) tr to ss
 obtain⟨zs,hzs⟩:∃zs,ss.mergeSort (fun x y:Int=>decide (x≤y))=zs:=⟨_,rfl⟩
 rw[hzs] at hord hzu hz ⊢
 have hnd:zs.Nodup:=hzu.nodup_iff.2 (List.pairwise_map.2 (h1.imp fun {a b} hab e=>hab (by omega)))
 have hnat:∀z∈zs,((z.toNat:Nat):Int)=z:=fun z hz=>by
  obtain⟨g,_,rfl⟩:=qo7.1 (hzu.mem_iff.1 hz)
  rfl
 have hit:zu (zs.map Int.toNat)=zs:=by
  rw[zu,ut]
  conv=>rhs;rw[←List.map_id zs]
  exact qb7 fun z hz=>hnat z hz
 refine⟨zs.map Int.toNat,⟨?_,fun x => ?_⟩,by rw[hit];rfl,by rw[q8];exact hz.length_eq.symm⟩
 ·
  refine List.pairwise_map.2 ((hord.and hnd).imp_of_mem fun {a b} ha hb hab => ?_)
  have e1:=hnat a ha
  have e2:=hnat b hb
  have h3:=hab.1
  have h4:=hab.2
  simp only[decide_eq_true_eq] at h3
  omega
 ·
  rw[←qo6,hit,hzu.mem_iff,qo6,h2 x]
end
section
open Go.RowKit Go.Maps Go.Sort
theorem qrl{w:World}(l:List ByteArray){c:Nat}{A:Option Addr}(h:Rd w 0 w.heap.size A c (sv l))(hsz:∀s∈l,s.size≤100000)(hlen:l.length≤5000) :
  Calls Tryz.prog 112 #[.slice A l.length c] w fun r w'=>∃(t:List Nat) (A':Option Addr) (c':Nat),r= .returned (.slice A' t.length c')∧Rise (qb6 (qcl l)) t∧
   w'.ownsRow w.heap.size 3 1 (.slice A' t.length c') t.length (iv (zu t))∧Below w.heap.size w w':=by
 have hl:=h.len
 have hm:=h.cap
 rw[yg] at hl
 unfold maxLen at hm
 have H:=qa h
 have H1:Hid (∀k (hk:k<l.length),l[k].size≤100000):=fun k hk=>hsz _ (qj hk)
 clear h hsz
 have hmm:=@run_makeMap Tryz.prog
 go_enter Tryz.func112,Tryz.ntmps112
 go_wp2_with fail
 go_loopw [10] (fun x10 wr=>∃(i n:Nat) (D:DataW Unit),i≤l.length∧x10= .int .i64 (i:Int)∧MapN wr w.heap.size n D∧n≤100000*i∧SetN D (qb6 (qcl (l.take i)))∧(qb6 (qcl (l.take i))).length≤100000*i∧Below w.heap.size w wr∧w.heap.size<wr.heap.size) (fun x10 _=>l.length-(intOf x10).toNat)
 case atStart=>exact⟨0,0,.map [],qi _,rfl,World.ownsMap_made _ _ _ _,qc _,SetN.nil,qc _,(Below.refl _ _).alloc (qc _) _,by simp⟩
 case round =>
  clear hmm
  obtain⟨i,n,D,hi,rfl,hmp,hn,hset,hal,hb,hgt⟩:=hrel
  obtain⟨wy,hwy⟩:∃wy,wy=wr:=⟨_,rfl⟩
  subst hwy
  have HM:=qa hmp
  have HS:=qa hset
  have HA:=qa hal
  have HB:=qa hb
  clear hmp hset hal hb
  by_cases hlt:i<l.length
  ·
   have ik:(i:Int)<(l.length:Int):=by omega
   obtain⟨b1,off1,rfl,_,hb1,hcell0⟩:=H.out.str hlt
   have hss:=H1.out i hlt
   have HTK:=qa (qqq l i hlt)
   obtain⟨s,hs⟩:∃s,l[i]=s:=⟨_,rfl⟩
   rw[hs] at hcell0 hss HTK
   clear hs
   have hcell:wy.cell? ⟨b1,off1+i,none⟩=some (.string s):=(HB.out.cell hb1).trans hcell0
   obtain⟨N,hN⟩:∃N,s.size-2=N:=⟨_,rfl⟩
   have hN1:N≤s.size:=by omega
   have hN2:N=0∨N+2=s.size:=by omega
   have HPL:=qa (qrk (w:=wy) s hss N hN)
   have HGL:Hid ((qad s.data.toList).take N=qad s.data.toList):=qo (by rw[qau,zy];show s.size-2≤N;omega)
   clear hN hcell0
   go_wp2_with fail
   refine HPL.out.mono ?_
   rintro r w' ⟨rfl,rfl⟩
   clear HPL
   go_wp2_with fail
   go_loopw [16] (fun x16 wr=>∃(k n:Nat) (D:DataW Unit),k≤N∧x16= .int .i64 (k:Int)∧MapN wr w.heap.size n D∧n≤100000*i+k∧SetN D (qb6 (qcl (l.take i))++(qad s.data.toList).take k)∧Below w.heap.size w wr∧w.heap.size<wr.heap.size) (fun x16 _=>N-(intOf x16).toNat)
   case atStart=>exact⟨0,n,D,qi _,rfl,HM.out,hn,by rw[y8,jj];exact HS.out,HB.out,hgt⟩
   case round =>
    clear HM HS HB hn hgt hcell
    obtain⟨k,n,D,hk,rfl,hmp,hn,hset,hb,hgt⟩:=hrel
    obtain⟨wz,hwz⟩:∃wz,wz=wr:=⟨_,rfl⟩
    subst hwz
    have HM:=qa hmp
    have HS:=qa hset
    have HB:=qa hb
    clear hmp hset hb
    by_cases hkn:k<N
    ·
     have jk:(k:Int)<(N:Int):=by omega
     have hk2:k+2<s.size:=by omega
     have hk1:k<s.size:=by omega
     have hkle:k≤s.size:=by omega
     obtain⟨g,hg⟩:∃g,qjw s[k] s[k+1] s[k+2]=g:=⟨_,rfl⟩
     have HGA:=qa (ggram_at (w:=wz) s k hk2 hss g hg)
     have hgl:g<16777216:=by rw[←hg];exact gramN_lt _ _ _
     have HSN:Hid (SetN (D.put (.int .i64 (g:Int)) (.agg [])) (qb6 (qcl (l.take i))++(qad s.data.toList).take (k+1))):=by
      unfold Hid
      rw[qrj s k hk2,hg,←qv]
      exact HS.out.put g
     have HKY:=qa (keyOf_int_mk (P:=Tryz.prog) Tryz.underlying3 (q:= .i64) (a:=(g:Int)) (by go_wf))
     clear hg
     go_wp2_with fail
     refine HGA.out.mono ?_
     rintro r w' ⟨rfl,m,rfl⟩
     have HM1:Hid (MapN (wz.drewN m) w.heap.size n D):=HM.out.out (X:=fun _=>False) ((Out.refl _ _).drewN m) (fun h=>h)
     have HB1:=qa (zg HB.out m)
     have hgt1:w.heap.size<(wz.drewN m).heap.size:=hgt
     generalize wz.drewN m=w1 at *
     go_wp2_with (at_mapUpdate;refine wpList_mapUpdate_own _ rfl _ _ _ 186 rfl 3 187 (int_keyed Tryz.underlying3) Tryz.underlying186 (unitElem (H:=Unit)) w.heap.size n D rfl HM1.out (by unfold maxLen;omega) _ _ _ rfl rfl HKY.out _ [] unitElem_mk ?_;refine qaz ?_)
     refine⟨?_⟩
     intro w2 hm2 hg2
     have HM2:Hid (MapN w2 w.heap.size (n+1) _):=hm2
     have HB2:Hid (Below w.heap.size w w2):=HB1.out.grown hg2 (by omega) (fun j hj=>by cases hj;exact qc _)
     have hgt2:w.heap.size<w2.heap.size:=ja hgt1 hg2.size
     clear hm2 hg2
     go_wp2_with fail
     go_roundw
     case rel=>exact⟨k+1,n+1,_,by omega,by go_num,HM2.out,by omega,HSN.out,HB2.out,hgt2⟩
     case measure=>simp[intOf] <;> omega
    ·
     have jk:¬(k:Int)<(N:Int):=by omega
     obtain rfl:k=N:=by omega
     have HSN:Hid (SetN D (qb6 (qcl (l.take (i+1))))):=by
      unfold Hid
      rw[HTK.out,←HGL.out]
      exact HS.out
     have HAL:Hid ((qb6 (qcl (l.take (i+1)))).length≤100000*(i+1)):=by
      unfold Hid
      have h1:(qad s.data.toList).length≤100000:=by
       rw[qau,zy]
       exact ze (Nat.sub_le _ _) hss
      have h2:=HA.out
      rw[HTK.out,qd]
      omega
     go_wp2_with fail
     go_roundw
     case rel=>exact⟨i+1,n,D,by omega,by go_num,HM.out,by omega,HSN.out,HAL.out,HB.out,hgt⟩
     case measure=>simp[intOf] <;> omega
  ·
   have ik:¬(i:Int)<(l.length:Int):=by omega
   have hkt:l.take i=l:=qo (by omega)
   rw[hkt] at HS HA
   have hsd:=HS.out.size HM.out
   have hal:=HA.out
   have HSO:=qa (gsorted_any w.heap.size n D wy HM.out (by unfold maxLen;omega) (by omega) _ rfl)
   have HKE:=qa (gkeys_any (some w.heap.size) wy)
   obtain⟨w1,hw1⟩:∃w1,wy.alloc (.cells #[.map (some w.heap.size)] 186)=w1:=⟨_,rfl⟩
   have HB1:Hid (Below w.heap.size w w1):=by unfold Hid;rw[←hw1];exact HB.out.alloc (by omega) _
   have hgt1:w.heap.size≤w1.heap.size:=by rw[←hw1];simp;omega
   rw[hw1] at HSO HKE
   clear hkt hw1 hsd hal
   go_wp2_with fail
   refine HKE.out.mono ?_
   rintro r w' ⟨rfl,rfl⟩
   go_wp2_with fail
   refine HSO.out.mono ?_
   rintro r w2 ⟨v,ss,rfl,hp,hown, -,hb2⟩
   obtain⟨t,hri,hiv,htl⟩:=HS.out.keys HM.out hp
   rw[hiv,htl] at hown
   have HRI:=qa hri
   have HO:=qa hown
   have HB2:=qa (qz HB1.out hb2 hgt1)
   clear hri hown hb2 hp hiv htl
   obtain⟨A2,c2,rfl, -, -⟩:=qd3 _ HO.out
   go_wp2_with fail
   go_ret
   exact⟨t,A2,c2,rfl,HRI.out,j4 HO.out hgt1,HB2.out⟩
end
theorem qhd{fn:Func}{p u:Tmp}(h:fn.results=#[.cell p 67,.tmp u])(tmps:Array Value)(w:World)(g:Nat)(a b c:Value)(hp:tmps.getD p undef= .pointer (some ⟨g,0,none⟩))
  (hb:j6 w g 67 #[a,b,c]):(results fn tmps).run Tryz.prog w= .ok (.tuple #[.agg #[a,b,c],tmps.getD u undef]) w:=by
 have h1:=run_loadVar_row (P:=Tryz.prog) w g 67 67 #[a,b,c] (0,0) _ hb Tryz.underlying67 rfl (by kernel_rfl)
 rw[results_cell_tmp h,hp]
 simp only[asAddr,Sem.run_pure,Result.andThen_ok,h1]
theorem qqr(w:World):(Instr.build 67 #[]).run Tryz.prog w= .ok (.agg #[.int .i64 0,.slice none 0 0,.slice none 0 0]) w:=run_build w _ _ _ (by kernel_rfl)
theorem gmake_not{w:World}(l:List ByteArray){c:Nat}{A:Option Addr}(h:Rd w 0 w.heap.size A c (sv l))(z:Int)(hz:z<0∨65536<z) :
  Calls Tryz.prog 70 #[.slice A l.length c,.int .i64 z] w fun r w'=>r= .returned (.tuple #[.agg #[.int .i64 0,.slice none 0 0,.slice none 0 0],.int .i64 1])∧Below w.heap.size w w':=by
 have hbuild:=qqr
 by_cases h0:z<0
 ·
  have d0:decide (z<0)=true:=qp h0
  go_enter Tryz.func70,Tryz.ntmps70
  go_wp2_with fail
  refine bodyPost_ret (v:= .tuple #[.agg #[.int .i64 0,.slice none 0 0,.slice none 0 0],.int .i64 1]) ?_ rfl ⟨rfl,(Below.refl _ w).alloc (qc _) _⟩
  exact qhd (p:=4) (u:=5) rfl _ _ w.heap.size _ _ _ rfl (j6.new w _ _)
 ·
  have d0:decide (z<0)=false:=ql h0
  have h1:65536<z:=by omega
  have d1:decide (65536<z)=true:=qp h1
  go_enter Tryz.func70,Tryz.ntmps70
  go_wp2_with fail
  refine bodyPost_ret (v:= .tuple #[.agg #[.int .i64 0,.slice none 0 0,.slice none 0 0],.int .i64 1]) ?_ rfl ⟨rfl,(Below.refl _ w).alloc (qc _) _⟩
  exact qhd (p:=4) (u:=5) rfl _ _ w.heap.size _ _ _ rfl (j6.new w _ _)
theorem gmake_list{w:World}(l:List ByteArray){c:Nat}{A:Option Addr}(h:Rd w 0 w.heap.size A c (sv l))(hsz:∀s∈l,s.size≤100000)(hlen:l.length≤5000) :
  Calls Tryz.prog 70 #[.slice A l.length c,.int .i64 0] w fun r w'=>∃t:List Nat,Rise (qb6 (qcl l)) t∧Below w.heap.size w w'∧((t.length≤65536∧∃(A':Option Addr) (c':Nat),r= .returned (.tuple #[.agg #[.int .i64 0,.slice A' t.length c',.slice none 0 0],.int .i64 0])∧w'.ownsRow w.heap.size 3 1 (.slice A' t.length c') t.length (iv (zu t)))∨(65536<t.length∧r= .returned (.tuple #[.agg #[.int .i64 0,.slice none 0 0,.slice none 0 0],.int .i64 1]))):=by
 obtain⟨w1,hw1⟩:∃w1,w.alloc (.cells #[.int .i64 0,.slice none 0 0,.slice none 0 0] 67)=w1:=⟨_,rfl⟩
 have B1:Hid (Below w.heap.size w w1):=by unfold Hid;rw[←hw1];exact(Below.refl _ w).alloc (qc _) _
 have hk:j6 w1 w.heap.size 67 #[.int .i64 0,.slice none 0 0,.slice none 0 0]:=by rw[←hw1];exact j6.new w _ _
 have hs1:w1.heap.size=w.heap.size+1:=by rw[←hw1];simp
 have HGA:=qa (qrl l ((h.below B1.out (qc _)).wide (qc _) B1.out.size) hsz hlen)
 have HK:=qa hk
 clear h hsz hk
 have hbuild:=qqr
 go_enter Tryz.func70,Tryz.ntmps70
 go_wp2_with fail
 refine HGA.out.mono ?_
 rintro r w2 ⟨t,A2,c2,rfl,hri,hown,b2⟩
 have hk2:=HK.out.below b2 (by omega)
 have HK2:=qa hk2
 have q0:=hk2.cell 0
 have q1:=hk2.cell 1
 have q2:=hk2.cell 2
 have f0:=hk2.frozen 0
 have f1:=hk2.frozen 1
 have f2:=hk2.frozen 2
 have HRI:=qa hri
 have HO:=qa hown
 have B2:=qa (B1.out.trans (b2.mono B1.out.size))
 have s2:=b2.size
 have hg2:w.heap.size<w2.heap.size:=by omega
 clear hk2 hri hown b2 HGA
 by_cases hlen2:65536<t.length
 ·
  have il:(65536:Int)<(t.length:Int):=by omega
  go_wp2_with fail
  have hk3:=((HK2.out.put 0 (.int .i64 0)).put 1 (.slice none 0 0)).put 2 (.slice none 0 0)
  have hb3:=((B2.out.setCell (p:=⟨w.heap.size,0,none⟩) (qc _) (.int .i64 0)).setCell (p:=⟨w.heap.size,1,none⟩) (qc _) (.slice none 0 0)).setCell (p:=⟨w.heap.size,2,none⟩) (qc _) (.slice none 0 0)
  refine bodyPost_ret (v:= .tuple #[.agg #[.int .i64 0,.slice none 0 0,.slice none 0 0],.int .i64 1]) ?_ rfl ⟨t,HRI.out,hb3,.inr ⟨hlen2,rfl⟩⟩
  exact qhd (p:=4) (u:=5) rfl _ _ w.heap.size _ _ _ rfl hk3
 have hlen3:t.length≤65536:=by omega
 have il:¬(65536:Int)<(t.length:Int):=by omega
 clear hbuild
 go_wp2_with fail
 obtain⟨w3,hw3⟩:∃w3,((w2.setCell ⟨w.heap.size,0,none⟩ (.int .i64 0)).setCell ⟨w.heap.size,1,none⟩ (.slice A2 t.length c2)).setCell ⟨w.heap.size,2,none⟩ (.slice none 0 0)=w3:=⟨_,rfl⟩
 have hk3:j6 w3 w.heap.size 67 #[.int .i64 0,.slice A2 t.length c2,.slice none 0 0]:=by rw[←hw3];exact((HK2.out.put 0 _).put 1 _).put 2 _
 have ho3:Out w2 w3 (fun k=>k=w.heap.size):=by rw[←hw3];exact(((Out.refl _ (fun k=>k=w.heap.size)).setCell (p:=⟨w.heap.size,0,none⟩) (.inl rfl) _).setCell (p:=⟨w.heap.size,1,none⟩) (.inl rfl) _).setCell (p:=⟨w.heap.size,2,none⟩) (.inl rfl) _
 have hb3:Below w.heap.size w w3:=B2.out.trans (ho3.below (qdo hg2) (fun k hk=>by omega))
 have hr3:=qfc HO.out ho3 (fun k hk e=>by have:=zk HO.out hk;omega)
 rw[hw3]
 refine bodyPost_ret (v:= .tuple #[.agg #[.int .i64 0,.slice A2 t.length c2,.slice none 0 0],.int .i64 0]) ?_ rfl ⟨t,HRI.out,hb3,.inl ⟨hlen3,A2,c2,rfl,j4 hr3 (by omega)⟩⟩
 exact qhd (p:=4) (u:=5) rfl _ _ w.heap.size _ _ _ rfl hk3
theorem gmake_zero{w:World}(l:List ByteArray){c:Nat}{A:Option Addr}(h:Rd w 0 w.heap.size A c (sv l))(hsz:∀s∈l,s.size≤100000)(hlen:l.length≤5000)(hf:(qb6 (qcl l)).length≤65536) :
  Calls Tryz.prog 70 #[.slice A l.length c,.int .i64 0] w fun r w'=>∃(t:List Nat) (A':Option Addr) (c':Nat),r= .returned (.tuple #[.agg #[.int .i64 0,.slice A' t.length c',.slice none 0 0],.int .i64 0])∧Rise (qb6 (qcl l)) t∧w'.ownsRow w.heap.size 3 1 (.slice A' t.length c') t.length (iv (zu t))∧Below w.heap.size w w':=by
 refine(gmake_list l h hsz hlen).mono ?_
 rintro r w' ⟨t,h1,h2,⟨h3,A',c',rfl,h4⟩ | ⟨h3,rfl⟩⟩
 ·
  exact⟨t,A',c',rfl,h1,h4,h2⟩
 ·
  have:=h1.len
  omega
theorem qn9{w:World}(l:List ByteArray){c:Nat}{A:Option Addr}(h:Rd w 0 w.heap.size A c (sv l))(hsz:∀s∈l,s.size≤100000)(hlen:l.length≤5000)(b:Nat)(hb0:0<b)(hb:b≤65536) :
  Calls Tryz.prog 70 #[.slice A l.length c,.int .i64 (b:Int)] w fun r w'=>∃(t:List Nat) (B:Option Addr) (d:Nat),r= .returned (.tuple #[.agg #[.int .i64 (b:Int),.slice none 0 0,.slice B b d],.int .i64 0])∧Rise (qb6 (qcl l)) t∧w'.ownsRow w.heap.size 4 1 (.slice B b d) b (lv (qdx b t))∧Below w.heap.size w w':=by
 obtain⟨w1,hw1⟩:∃w1,w.alloc (.cells #[.int .i64 0,.slice none 0 0,.slice none 0 0] 67)=w1:=⟨_,rfl⟩
 have B1:Hid (Below w.heap.size w w1):=by unfold Hid;rw[←hw1];exact(Below.refl _ w).alloc (qc _) _
 have hk:j6 w1 w.heap.size 67 #[.int .i64 0,.slice none 0 0,.slice none 0 0]:=by rw[←hw1];exact j6.new w _ _
 have hs1:w1.heap.size=w.heap.size+1:=by rw[←hw1];simp
 have HGA:=qa (qrl l ((h.below B1.out (qc _)).wide (qc _) B1.out.size) hsz hlen)
 have HK:=qa hk
 have i0:¬(b:Int)<0:=by omega
 have d0:decide ((b:Int)<0)=false:=ql i0
 have i1:¬(65536:Int)<(b:Int):=by omega
 have d1:decide ((65536:Int)<(b:Int))=false:=ql i1
 have i2:(0:Int)<(b:Int):=by omega
 clear h hsz hk
 go_enter Tryz.func70,Tryz.ntmps70
 go_wp2_with fail
 refine HGA.out.mono ?_
 rintro r w2 ⟨t,A2,c2,rfl,hri,hown,b2⟩
 have HRI:=qa hri
 have HMK:=qa (gmark_any t b hb0 (by omega) (fun g hg=>allL_lt ((hri.mem g).1 hg)) (Rd.own hown) (qc _))
 have HK2:=qa (HK.out.below b2 (by omega))
 have B2:=qa (B1.out.trans (b2.mono B1.out.size))
 have s2:=b2.size
 have hg2:w.heap.size<w2.heap.size:=by omega
 clear hri hown b2 HGA
 go_wp2_with fail
 refine HMK.out.mono ?_
 rintro r w3 ⟨rfl,hown,b3⟩
 have hk3:=HK2.out.below b3 hg2
 have HK3:=qa hk3
 have q0:=hk3.cell 0
 have q1:=hk3.cell 1
 have q2:=hk3.cell 2
 have f0:=hk3.frozen 0
 have f1:=hk3.frozen 1
 have f2:=hk3.frozen 2
 have HO:=qa hown
 have B3:=qa (B2.out.trans (b3.mono B2.out.size))
 have s3:=b3.size
 clear hk3 hown b3 HMK
 go_wp2_with fail
 obtain⟨w4,hw4⟩:∃w4,((w3.setCell ⟨w.heap.size,0,none⟩ (.int .i64 (b:Int))).setCell ⟨w.heap.size,1,none⟩ (.slice none 0 0)).setCell ⟨w.heap.size,2,none⟩ (.slice (some ⟨w2.heap.size,0,none⟩) b b)=w4:=⟨_,rfl⟩
 have hk4:j6 w4 w.heap.size 67 #[.int .i64 (b:Int),.slice none 0 0,.slice (some ⟨w2.heap.size,0,none⟩) b b]:=by rw[←hw4];exact((HK3.out.put 0 _).put 1 _).put 2 _
 have ho4:Out w3 w4 (fun k=>k=w.heap.size):=by rw[←hw4];exact(((Out.refl _ (fun k=>k=w.heap.size)).setCell (p:=⟨w.heap.size,0,none⟩) (.inl rfl) _).setCell (p:=⟨w.heap.size,1,none⟩) (.inl rfl) _).setCell (p:=⟨w.heap.size,2,none⟩) (.inl rfl) _
 have hb4:Below w.heap.size w w4:=B3.out.trans (ho4.below (by omega) (fun k hk=>by omega))
 have hr4:=qfc HO.out ho4 (fun k hk e=>by have:=zk HO.out hk;omega)
 rw[hw4]
 refine bodyPost_ret (v:= .tuple #[.agg #[.int .i64 (b:Int),.slice none 0 0,.slice (some ⟨w2.heap.size,0,none⟩) b b],.int .i64 0]) ?_ rfl ⟨t,_,b,rfl,HRI.out,j4 hr4 (by omega),hb4⟩
 exact qhd (p:=4) (u:=5) rfl _ _ w.heap.size _ _ _ rfl hk4
theorem ints_inj':∀ {a b:List Nat},zu a=zu b→a=b
 | [],[],_=>rfl
 | [],_ :: _,h=>by cases h
 | _ :: _,[],h=>by cases h
 | x :: a,y :: b,h=>by
  have h1:((x:Nat):Int)=((y:Nat):Int):=(List.cons.inj h).1
  have h2:=ints_inj' (List.cons.inj h).2
  rw[h2,Int.ofNat.inj h1]
theorem eqi_v{w:World}{gs t:List Nat}{n m lo h' lo2 h2 c d:Nat}{A B:Option Addr}(hx:Rd w lo h' A c (iv (zu gs)))(hy:Rd w lo2 h2 B d (iv (zu t)))(hn:gs.length=n)(hm:t.length=m) :
  Calls Tryz.prog 90 #[.slice A n c,.slice B m d] w fun r w'=>r= .returned (.bool (decide (gs=t)))∧∃k,w.drewN k=w':=by
 have h:=eqi_any (zu gs) (zu t) hx hy
 rw[zj,zj,hn,hm,show decide (zu gs=zu t)=decide (gs=t) from decide_eq_decide.2 ⟨ints_inj',fun e=>by rw[e]⟩] at h
 exact h
theorem eqb_v{w:World}{xs ys:List Bool}{n m lo h' lo2 h2 c d:Nat}{A B:Option Addr}(hx:Rd w lo h' A c (lv xs))(hy:Rd w lo2 h2 B d (lv ys))(hn:xs.length=n)(hm:ys.length=m) :
  Calls Tryz.prog 91 #[.slice A n c,.slice B m d] w fun r w'=>r= .returned (.bool (decide (xs=ys)))∧∃k,w.drewN k=w':=by
 subst hn hm
 exact eqb_any xs ys hx hy
theorem isof_v{w:World}{hi b:Nat}{v:Value}{gs:List Nat}{rs:List Bool}(h:qok w 0 hi v b gs rs)(hhi:hi≤w.heap.size)(hf:FilG b gs rs)(S:List ByteArray){A:Option Addr}{c:Nat}(hS:Rd w 0 w.heap.size A c (sv S))(hsz:∀s∈S,s.size≤4096)(hlen:S.length≤4096) :
  Calls Tryz.prog 47 #[v,.slice A S.length c] w fun r w'=>∃x:Bool,r= .returned (.bool x)∧(x=true↔qk5 S b gs rs)∧Below w.heap.size w w':=by
 obtain⟨A1,c1,B1,d1,rfl,h1,h2⟩:=h
 obtain⟨w1,hw1⟩:∃w1,w.alloc (.cells #[.int .i64 (b:Int),.slice A1 gs.length c1,.slice B1 rs.length d1] 67)=w1:=⟨_,rfl⟩
 have BW:Hid (Below w.heap.size w w1):=by unfold Hid;rw[←hw1];exact(Below.refl _ w).alloc (qc _) _
 have hk:j6 w1 w.heap.size 67 #[.int .i64 (b:Int),.slice A1 gs.length c1,.slice B1 rs.length d1]:=by rw[←hw1];exact j6.new w _ _
 have hs1:w1.heap.size=w.heap.size+1:=by rw[←hw1];simp
 have H1:=qa (h1.below BW.out hhi)
 have H2:=qa (h2.below BW.out hhi)
 have HS:=qa ((hS.below BW.out (qc _)).wide (qc _) BW.out.size)
 have hb6:=hf.le
 obtain⟨gl,hgl⟩:∃n,gs.length=n:=⟨_,rfl⟩
 obtain⟨rl,hrl⟩:∃n,rs.length=n:=⟨_,rfl⟩
 have HGL:=qa hgl
 have HRL:=qa hrl
 have HF:=qa hf
 rw[hgl,hrl] at hk
 rw[hgl,hrl] at hw1 ⊢
 have q0:w1.cell? ⟨w.heap.size,0,none⟩=some (.int .i64 (b:Int)):=hk.cell 0
 have HK:=qa hk
 have hz5:∀s∈S,s.size≤100000:=fun s hs=>ze (hsz s hs) (by omega)
 by_cases hb0:b=0
 ·
  subst hb0
  have HM:=qa (gmake_list S HS.out hz5 (by omega))
  have HRN:Hid (rs=[]):=zd HF.out.rows
  clear h1 h2 hS hf hk hgl hrl hz5 hsz hlen
  rw[show((0:Nat):Int)=0 from rfl] at *
  go_enter Tryz.func47,Tryz.ntmps47
  go_wp2_with fail
  try rw[hw1]
  go_wp2_with fail
  refine HM.out.mono ?_
  rintro r w2 ⟨t,hri,hb2,⟨hle,A2,c2,rfl,hown⟩ | ⟨hgt,rfl⟩⟩
  ·
   have BW2:Hid (Below w.heap.size w w2):=BW.out.trans (hb2.mono BW.out.size)
   obtain⟨w3,hw3⟩:∃w3,w2.alloc (.cells #[.int .i64 0,.slice A2 t.length c2,.slice none 0 0] 67)=w3:=⟨_,rfl⟩
   have B3:Below w2.heap.size w2 w3:=by rw[←hw3];exact(Below.refl _ w2).alloc (qc _) _
   have BW3:Hid (Below w.heap.size w w3):=BW2.out.trans (B3.mono BW2.out.size)
   have hk1:=(HK.out.below hb2 (by omega)).below B3 (by have:=hb2.size;omega)
   have hk3:j6 w3 w2.heap.size 67 #[.int .i64 0,.slice A2 t.length c2,.slice none 0 0]:=by rw[←hw3];exact j6.new w2 _ _
   have HE1:=qa (eqi_v ((H1.out.below hb2 (by omega)).below B3 (by have:=hb2.size;omega)) ((Rd.of_own hown).below B3 (qc _)) HGL.out rfl)
   have HE2:Hid (∀k,Calls Tryz.prog 91 #[.slice B1 rl d1,.slice none 0 0] (w3.drewN k) fun r w'=>r= .returned (.bool true)∧∃m,(w3.drewN k).drewN m=w'):=fun k=>by
    have:=eqb_v (((H2.out.below hb2 (by omega)).below B3 (by have:=hb2.size;omega)).drewN k) (Rd.nil (w3.drewN k) 0 0) HRL.out (rfl:([]:List Bool).length=0)
    rw[HRN.out,qp rfl] at this
    exact this
   have p1:w3.cell? ⟨w.heap.size,1,none⟩=some (.slice A1 gl c1):=hk1.cell 1
   have p2:w3.cell? ⟨w.heap.size,2,none⟩=some (.slice B1 rl d1):=hk1.cell 2
   have r1:w3.cell? ⟨w2.heap.size,1,none⟩=some (.slice A2 t.length c2):=hk3.cell 1
   have r2:w3.cell? ⟨w2.heap.size,2,none⟩=some (.slice none 0 0):=hk3.cell 2
   have HRI:=qa hri
   obtain⟨x,hx⟩:∃x,decide (gs=t)=x:=⟨_,rfl⟩
   rw[hx] at HE1
   have HX:Hid (x=true↔qk5 S 0 gs rs):=by
    unfold Hid
    rw[←hx,decide_eq_true_eq]
    constructor
    ·
     intro e
     exact⟨t,hri,by rw[if_pos rfl,e],by rw[if_pos rfl,HRN.out]⟩
    ·
     rintro⟨u,h3,h4,_⟩
     rw[if_pos rfl] at h4
     rw[h4]
     exact h3.one hri
   clear hx hri hown hb2 B3 hk1 hk3 HM
   subst hw3
   go_wp2_with fail
   go_wp2_with fail
   refine HE1.out.mono ?_
   rintro r w4 ⟨rfl,k4,rfl⟩
   cases x with
   | true =>
    have HE3:=qa (HE2.out k4)
    have s1:((w2.alloc (.cells #[.int .i64 0,.slice A2 t.length c2,.slice none 0 0] 67)).drewN k4).cell? ⟨w.heap.size,2,none⟩=some (.slice B1 rl d1):=p2
    have s2:((w2.alloc (.cells #[.int .i64 0,.slice A2 t.length c2,.slice none 0 0] 67)).drewN k4).cell? ⟨w2.heap.size,2,none⟩=some (.slice none 0 0):=r2
    go_wp2_with fail
    refine HE3.out.mono ?_
    rintro r w5 ⟨rfl,k5,rfl⟩
    go_wp2_with fail
    go_ret
    exact⟨true,rfl,by first | exact HX.out | simpa using HX.out,zg BW3.out _⟩
   | false =>
    go_wp2_with fail
    go_ret
    exact⟨false,rfl,HX.out,zg BW3.out _⟩
  ·
   have BW2:Hid (Below w.heap.size w w2):=BW.out.trans (hb2.mono BW.out.size)
   have HX:Hid (false=true↔qk5 S 0 gs rs):=⟨fun h=>(by cases h),fun⟨u,h3,h4,_⟩=>by
    rw[if_pos rfl] at h4
    have h5:=HF.out.few
    have h6:=h3.one hri
    rw[h4,h6] at h5
    omega⟩
   have BW3:=qa (BW2.out.alloc BW2.out.size (.cells #[.int .i64 0,.slice none 0 0,.slice none 0 0] 67))
   clear hb2 hri HM
   go_wp2_with fail
   go_ret
   exact⟨false,rfl,HX.out,BW3.out⟩
 ·
  have HM:=qa (qn9 S HS.out hz5 (by omega) b (by omega) hb6)
  have HGN:Hid (gs=[]):=HF.out.none (by omega)
  clear h1 h2 hS hf hk hgl hrl hz5 hsz hlen
  go_enter Tryz.func47,Tryz.ntmps47
  go_wp2_with fail
  try rw[hw1]
  go_wp2_with fail
  refine HM.out.mono ?_
  rintro r w2 ⟨t,A2,c2,rfl,hri,hown,hb2⟩
  have BW2:Hid (Below w.heap.size w w2):=BW.out.trans (hb2.mono BW.out.size)
  obtain⟨w3,hw3⟩:∃w3,w2.alloc (.cells #[.int .i64 (b:Int),.slice none 0 0,.slice A2 b c2] 67)=w3:=⟨_,rfl⟩
  have B3:Below w2.heap.size w2 w3:=by rw[←hw3];exact(Below.refl _ w2).alloc (qc _) _
  have BW3:Hid (Below w.heap.size w w3):=BW2.out.trans (B3.mono BW2.out.size)
  have hk1:=(HK.out.below hb2 (by omega)).below B3 (by have:=hb2.size;omega)
  have hk3:j6 w3 w2.heap.size 67 #[.int .i64 (b:Int),.slice none 0 0,.slice A2 b c2]:=by rw[←hw3];exact j6.new w2 _ _
  have HE1:Hid (Calls Tryz.prog 90 #[.slice A1 gl c1,.slice none 0 0] w3 fun r w'=>r= .returned (.bool true)∧∃m,w3.drewN m=w'):=by
   have:=eqi_v ((H1.out.below hb2 (by omega)).below B3 (by have:=hb2.size;omega)) (Rd.nil w3 0 0) HGL.out (rfl:([]:List Nat).length=0)
   rw[HGN.out,qp rfl] at this
   exact this
  have HE2:Hid (∀k,Calls Tryz.prog 91 #[.slice B1 rl d1,.slice A2 b c2] (w3.drewN k) fun r w'=>r= .returned (.bool (decide (rs=qdx b t)))∧∃m,(w3.drewN k).drewN m=w'):=fun k =>
   eqb_v (((H2.out.below hb2 (by omega)).below B3 (by have:=hb2.size;omega)).drewN k) (((Rd.of_own hown).below B3 (qc _)).drewN k) HRL.out (qct b t)
  have p1:w3.cell? ⟨w.heap.size,1,none⟩=some (.slice A1 gl c1):=hk1.cell 1
  have p2:w3.cell? ⟨w.heap.size,2,none⟩=some (.slice B1 rl d1):=hk1.cell 2
  have r1:w3.cell? ⟨w2.heap.size,1,none⟩=some (.slice none 0 0):=hk3.cell 1
  have r2:w3.cell? ⟨w2.heap.size,2,none⟩=some (.slice A2 b c2):=hk3.cell 2
  obtain⟨x,hx⟩:∃x,decide (rs=qdx b t)=x:=⟨_,rfl⟩
  rw[hx] at HE2
  have HX:Hid (x=true↔qk5 S b gs rs):=by
   unfold Hid
   rw[←hx,decide_eq_true_eq]
   constructor
   ·
    intro e
    exact⟨t,hri,by rw[if_neg hb0,HGN.out],by rw[if_neg hb0,e]⟩
   ·
    rintro⟨u,h3,_,h4⟩
    rw[if_neg hb0] at h4
    rw[h4,h3.one hri]
  clear hx hri hown hb2 B3 hk1 hk3 HM
  subst hw3
  go_wp2_with fail
  go_wp2_with fail
  refine HE1.out.mono ?_
  rintro r w4 ⟨rfl,k4,rfl⟩
  have HE3:=qa (HE2.out k4)
  have s1:((w2.alloc (.cells #[.int .i64 (b:Int),.slice none 0 0,.slice A2 b c2] 67)).drewN k4).cell? ⟨w.heap.size,2,none⟩=some (.slice B1 rl d1):=p2
  have s2:((w2.alloc (.cells #[.int .i64 (b:Int),.slice none 0 0,.slice A2 b c2] 67)).drewN k4).cell? ⟨w2.heap.size,2,none⟩=some (.slice A2 b c2):=r2
  go_wp2_with fail
  refine HE3.out.mono ?_
  rintro r w5 ⟨rfl,k5,rfl⟩
  go_wp2_with fail
  go_ret
  exact⟨x,rfl,HX.out,zg BW3.out _⟩
end Go.Proofs.YtnjkipnklpkaoaaGreat
