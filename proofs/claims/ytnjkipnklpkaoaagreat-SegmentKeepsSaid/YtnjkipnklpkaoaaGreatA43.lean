/-
  Lemmas.
-/
import Derived.Test.YtnjkipnklpkaoaaGreatA42
namespace Go.Proofs.YtnjkipnklpkaoaaGreat
open Go.RowKit
set_option maxRecDepth 20000
set_option maxHeartbeats 16000000
set_option linter.unusedSimpArgs false
set_option linter.unusedVariables false
section
set_option maxRecDepth 100000
def gsren:Go.Shelf.Ren:=⟨fun | 6=>266 | 14=>273 | 15=>195 | 20=>278 | 21=>279 | 22=>280 | 23=>281 | 24=>282 | 25=>283 | 26=>284 | 27=>285 | 28=>221 | 29=>222 | 46=>286 | 47=>262 | 48=>263 | 49=>287 | 50=>288 | 57=>289 | n=>n,fun | 0=>0 | 1=>1 | 2=>2 | 3=>3 | 4=>4 | 5=>5 | 6=>6 | 7=>7 | 8=>8 | 9=>9 | 10=>10 | 11=>11 | 12=>12 | 13=>13 | 14=>14 | 15=>15 | 16=>16 | 17=>17 | 18=>18 | 19=>19 | 20=>20 | 21=>21 | 22=>273 | 23=>276 | 24=>275 | 25=>277 | 27=>64 | 29=>192 | 37=>282 | 38=>222 | 39=>124 | 42=>175 | 44=>285 | 45=>254 | 46=>255 | 47=>286 | 48=>287 | 49=>288 | 50=>210 | 51=>289 | 52=>242 | 53=>101 | 54=>243 | 55=>224 | 66=>268 | 67=>247 | 68=>269 | 69=>290 | 70=>271 | 71=>291 | 76=>280 | 77=>132 | 78=>292 | 81=>218 | 82=>293 | 83=>294 | 84=>295 | 85=>296 | 86=>297 | 87=>44 | 88=>298 | 89=>299 | 90=>300 | 91=>233 | 92=>301 | 93=>302 | 94=>303 | 95=>304 | 96=>245 | n=>n,fun n=>n⟩
theorem gslays:Go.Proofs.SlLaysF0.n6 Tryz.prog gsren:={
 mixed:=by kernel_rfl
 f6 := ⟨ "slices.SortFunc[[]hopper/train.gained,hopper/train.gained]", by decide, Tryz.func266.trans (congrArg some (by kernel_rfl))⟩
 f14 := ⟨ "slices.pdqsortCmpFunc[hopper/train.gained]", by decide, Tryz.func273.trans (congrArg some (by kernel_rfl))⟩
 f15:=Tryz.func195.trans (congrArg some (by kernel_rfl))
 f20 := ⟨ "slices.insertionSortCmpFunc[hopper/train.gained]", by decide, Tryz.func278.trans (congrArg some (by kernel_rfl))⟩
 f21 := ⟨ "slices.heapSortCmpFunc[hopper/train.gained]", by decide, Tryz.func279.trans (congrArg some (by kernel_rfl))⟩
 f22 := ⟨ "slices.breakPatternsCmpFunc[hopper/train.gained]", by decide, Tryz.func280.trans (congrArg some (by kernel_rfl))⟩
 f23 := ⟨ "slices.choosePivotCmpFunc[hopper/train.gained]", by decide, Tryz.func281.trans (congrArg some (by kernel_rfl))⟩
 f24 := ⟨ "slices.reverseRangeCmpFunc[hopper/train.gained]", by decide, Tryz.func282.trans (congrArg some (by kernel_rfl))⟩
 f25 := ⟨ "slices.partialInsertionSortCmpFunc[hopper/train.gained]", by decide, Tryz.func283.trans (congrArg some (by kernel_rfl))⟩
 f26 := ⟨ "slices.partitionEqualCmpFunc[hopper/train.gained]", by decide, Tryz.func284.trans (congrArg some (by kernel_rfl))⟩
 f27 := ⟨ "slices.partitionCmpFunc[hopper/train.gained]", by decide, Tryz.func285.trans (congrArg some (by kernel_rfl))⟩
 f28:=Tryz.func221.trans (congrArg some (by kernel_rfl))
 f29:=Tryz.func222.trans (congrArg some (by kernel_rfl))
 f46 := ⟨ "slices.siftDownCmpFunc[hopper/train.gained]", by decide, Tryz.func286.trans (congrArg some (by kernel_rfl))⟩
 f47:=Tryz.func262.trans (congrArg some (by kernel_rfl))
 f48:=Tryz.func263.trans (congrArg some (by kernel_rfl))
 f49 := ⟨ "slices.medianAdjacentCmpFunc[hopper/train.gained]", by decide, Tryz.func287.trans (congrArg some (by kernel_rfl))⟩
 f50 := ⟨ "slices.medianCmpFunc[hopper/train.gained]", by decide, Tryz.func288.trans (congrArg some (by kernel_rfl))⟩
 f57 := ⟨ "slices.order2CmpFunc[hopper/train.gained]", by decide, Tryz.func289.trans (congrArg some (by kernel_rfl))⟩
 t0:=Tryz.underlying0
 a0:=Tryz.isAgg0
 z0:=Tryz.sizeOf0
 v0:=Tryz.zeroValue0
 t3:=Tryz.underlying3
 a3:=Tryz.isAgg3
 z3:=Tryz.sizeOf3
 v3:=Tryz.zeroValue3
 t4:=Tryz.underlying4
 a4:=Tryz.isAgg4
 z4:=Tryz.sizeOf4
 v4:=Tryz.zeroValue4
 t5:=Tryz.underlying5
 a5:=Tryz.isAgg5
 z5:=Tryz.sizeOf5
 v5:=Tryz.zeroValue5
 t9:=Tryz.underlying9
 a9:=Tryz.isAgg9
 z9:=Tryz.sizeOf9
 v9:=Tryz.zeroValue9
 t22:=Tryz.underlying273
 a22:=Tryz.isAgg273
 z22:=Tryz.sizeOf273
 v22:=Tryz.zeroValue273
 t25:=Tryz.underlying277
 a25:=Tryz.isAgg277
 z25:=Tryz.sizeOf277
 v25:=Tryz.zeroValue277
 t39:=Tryz.underlying124
 a39:=Tryz.isAgg124
 z39:=Tryz.sizeOf124
 v39:=Tryz.zeroValue124
 t45:=Tryz.underlying254
 a45:=Tryz.isAgg254
 z45:=Tryz.sizeOf254
 v45:=Tryz.zeroValue254
 t46:=Tryz.underlying255
 a46:=Tryz.isAgg255
 z46:=Tryz.sizeOf255
 v46:=Tryz.zeroValue255
 t50:=Tryz.underlying210
 a50:=Tryz.isAgg210
 z50:=Tryz.sizeOf210
 v50:=Tryz.zeroValue210
 t53:=Tryz.underlying101
 a53:=Tryz.isAgg101
 z53:=Tryz.sizeOf101
 v53:=Tryz.zeroValue101
 t55:=Tryz.underlying224
 a55:=Tryz.isAgg224
 z55:=Tryz.sizeOf224
 v55:=Tryz.zeroValue224
 t66:=Tryz.underlying268
 a66:=Tryz.isAgg268
 z66:=Tryz.sizeOf268
 v66:=Tryz.zeroValue268
 t70:=Tryz.underlying271
 a70:=Tryz.isAgg271
 z70:=Tryz.sizeOf271
 v70:=Tryz.zeroValue271
 t76:=Tryz.underlying280
 a76:=Tryz.isAgg280
 z76:=Tryz.sizeOf280
 v76:=Tryz.zeroValue280
 t77:=Tryz.underlying132
 a77:=Tryz.isAgg132
 z77:=Tryz.sizeOf132
 v77:=Tryz.zeroValue132
 }
end
theorem nan_int(x:Int)(w:World):Calls Tryz.prog 227 #[.int .i64 x] w fun e w'=>e= .returned (.bool false)∧w=w':=by
 go_enter Tryz.func227,Tryz.ntmps227
 go_wp2
 go_ret
 exact⟨by simp,rfl⟩
theorem nan_str(x:ByteArray)(w:World):Calls Tryz.prog 260 #[.string x] w fun e w'=>e= .returned (.bool false)∧w=w':=by
 go_enter Tryz.func260,Tryz.ntmps260
 go_wp2
 go_ret
 exact⟨by simp,rfl⟩
theorem cmpint_any(x y:Int)(w:World):Calls Tryz.prog 275 #[.int .i64 x,.int .i64 y] w fun e w'=>e= .returned (.int .i64 (cmpIn x y))∧w=w':=by
 unfold cmpIn
 by_cases h1:x<y
 ·
  rw[if_pos h1]
  go_enter Tryz.func275,Tryz.ntmps275
  go_wp2_with (go_at_call 227;refine(nan_int _ _).mono ?_;rintro e w' ⟨rfl,rfl⟩)
  go_ret
  exact⟨rfl,rfl⟩
 ·
  rw[if_neg h1]
  by_cases h2:y<x
  ·
   rw[if_pos h2]
   go_enter Tryz.func275,Tryz.ntmps275
   go_wp2_with (go_at_call 227;refine(nan_int _ _).mono ?_;rintro e w' ⟨rfl,rfl⟩)
   go_ret
   exact⟨rfl,rfl⟩
  ·
   rw[if_neg h2]
   go_enter Tryz.func275,Tryz.ntmps275
   go_wp2_with (go_at_call 227;refine(nan_int _ _).mono ?_;rintro e w' ⟨rfl,rfl⟩)
   go_ret
   exact⟨rfl,rfl⟩
theorem cmpstr_any(x y:ByteArray)(w:World):Calls Tryz.prog 276 #[.string x,.string y] w fun e w'=>e= .returned (.int .i64 (yr x.data.toList y.data.toList))∧w=w':=by
 have h1:=qjt x y
 have h2:=qjt y x
 have h3:=qdk x.data.toList y.data.toList
 have h4:=cmpL_three x.data.toList y.data.toList
 obtain⟨v,h5⟩:∃v,yr x.data.toList y.data.toList=v:=⟨_,rfl⟩
 rw[h5] at h1 h3 h4 ⊢
 rw[h3] at h2
 clear h3
 rcases h4 with rfl | rfl | rfl
 ·
  have e1:Op.bytesLess x.toList y.toList=true:=by rw[h1];rfl
  clear h1 h2 h5
  go_enter Tryz.func276,Tryz.ntmps276
  go_wp2_with (go_at_call 260;refine(nan_str _ _).mono ?_;rintro e w' ⟨rfl,rfl⟩)
  go_ret
  exact⟨rfl,rfl⟩
 ·
  have e1:Op.bytesLess x.toList y.toList=false:=by rw[h1];rfl
  have e2:Op.bytesLess y.toList x.toList=false:=by rw[h2];rfl
  have e3:(x.toList==y.toList)=true:=by rw[jf,jf,qcr h5];exact beq_self_eq_true _
  have e4:x.toList=y.toList:=eq_of_beq e3
  have E4:=qa e4
  clear h1 h2 h5 e4
  go_enter Tryz.func276,Tryz.ntmps276
  go_wp2_with (go_at_call 260;refine(nan_str _ _).mono ?_;rintro e w' ⟨rfl,rfl⟩)
  go_ret
  exact⟨rfl,rfl⟩
 ·
  have e1:Op.bytesLess x.toList y.toList=false:=by rw[h1];rfl
  have e2:Op.bytesLess y.toList x.toList=true:=by rw[h2];rfl
  have e3:(x.toList==y.toList)=false:=by
   rw[qr,jf,jf]
   intro e
   rw[e,qdl] at h5
   cases h5
  have e4:¬x.toList=y.toList:=qr.1 e3
  clear h1 h2 h5
  go_enter Tryz.func276,Tryz.ntmps276
  go_wp2_with (go_at_call 260;refine(nan_str _ _).mono ?_;rintro e w' ⟨rfl,rfl⟩)
  go_ret
  exact⟨rfl,rfl⟩
theorem or2_any{w:World}(x y:Int){b c:Nat}(h0:w.cell? ⟨b,0,none⟩=some (.int .i64 x))(h1:w.cell? ⟨b,1,none⟩=some (.int .i64 y)) :
  Calls Tryz.prog 274 #[.slice (some ⟨b,0,none⟩) 2 c] w fun e w'=>e= .returned (.int .i64 (or2 x y))∧w=w':=by
 unfold or2
 by_cases hx:x=0
 ·
  subst hx
  rw[if_pos rfl]
  by_cases hy:y=0
  ·
   subst hy
   go_enter Tryz.func274,Tryz.ntmps274
   go_wp2
   refine wp_loop_rounds 3 ?_
   rw[rounds_succ]
   go_wp2
   rw[rounds_succ]
   go_wp2
   rw[rounds_succ]
   go_wp2
   go_ret
   exact⟨rfl,rfl⟩
  ·
   go_enter Tryz.func274,Tryz.ntmps274
   go_wp2
   refine wp_loop_rounds 2 ?_
   rw[rounds_succ]
   go_wp2
   rw[rounds_succ]
   go_wp2
   go_ret
   exact⟨rfl,rfl⟩
 ·
  rw[if_neg hx]
  go_enter Tryz.func274,Tryz.ntmps274
  go_wp2
  refine wp_loop_rounds 1 ?_
  rw[rounds_succ]
  go_wp2
  go_ret
  exact⟨rfl,rfl⟩
open Go.Sort Go.Shelf in
theorem ahead_any(x y:ByteArray×Int)(W:World):Calls Tryz.prog 267 #[.agg #[.string x.1,.int .i64 x.2],.agg #[.string y.1,.int .i64 y.2]] W fun e w'=>e= .returned (.int .i64 (qe7 x y))∧∃q os',w'=grow (W.drewN q) os':=by
 obtain⟨s,g⟩:=x
 obtain⟨u,k⟩:=y
 unfold qe7
 simp only[]
 have h1:=fun w=>cmpint_any k g w
 have h2:=fun w=>cmpstr_any s u w
 generalize cmpIn k g=a at *
 generalize yr s.data.toList u.data.toList=b at *
 have h3:=fun(w:World) (bb c:Nat) (h0:w.cell? ⟨bb,0,none⟩=some (.int .i64 a)) (h1:w.cell? ⟨bb,1,none⟩=some (.int .i64 b))=>or2_any (w:=w) a b (c:=c) h0 h1
 generalize or2 a b=r at *
 have H1:=qa h1
 have H2:=qa h2
 have H3:=qa h3
 clear h1 h2 h3
 go_enter Tryz.func267,Tryz.ntmps267
 go_wp2_with fail
 go_region_held3 (fun w'=>w'.cell? ⟨W.heap.size,0,none⟩=some (.string s)∧w'.cell? ⟨W.heap.size,1,none⟩=some (.int .i64 g)∧w'.cell? ⟨W.heap.size+1,0,none⟩=some (.string u)∧w'.cell? ⟨W.heap.size+1,1,none⟩=some (.int .i64 k)) (go_keep) (first
  | (go_at_call 275;refine(H1.out _).mono ?_;rintro e w' ⟨rfl,rfl⟩)
  | (go_at_call 276;refine(H2.out _).mono ?_;rintro e w' ⟨rfl,rfl⟩)
  | (go_at_call 274;refine(H3.out _ _ _ ?_ ?_).mono ?_;(go_simp);(go_simp);rintro e w' ⟨rfl,rfl⟩))
 go_wp2
 go_ret
 refine⟨rfl,?_⟩
 simp only[alloc_eq_grow,grow_grow]
 exact⟨1,_,rfl⟩
section
open Go.Sort
theorem rank_len(es:List (ByteArray×Int)):(qgr es).length=es.length:=(rank_perm es).length_eq
end
section
open Go.RowKit Go.Sort Go.Shelf
def gvs(es:List (ByteArray×Int)):List Value:=es.flatMap gv
theorem gvs_snoc(es:List (ByteArray×Int))(e:ByteArray×Int):gvs (es++[e])=gvs es++gv e:=by simp[gvs]
theorem qim(es:List (ByteArray×Int)):(gvs es).length=es.length*2:=by
 induction es with
 | nil=>rfl
 | cons e es ih =>
  rw[gvs,qen,qd,qt]
  have:(es.flatMap gv).length=es.length*2:=ih
  rw[this]
  show 2+_=_
  omega
theorem gv_one(e:ByteArray×Int):∀u∈gv e,u.oneCell'=true:=by
 intro u hu
 simp only[gv,jc,ve,or_false] at hu
 rcases hu with rfl | rfl <;> rfl
theorem gvs_get{es:List (ByteArray×Int)}{j i:Nat}(hj:j<es.length)(hi:i<2):(gvs es)[j*2+i]? = (gv es[j])[i]?:=by
 induction es generalizing j with
 | nil=>exact absurd hj (jp _)
 | cons e es ih =>
  have h2:(gv e).length=2:=rfl
  rw[gvs,qen]
  match j with
  | 0 =>
   rw[Nat.zero_mul,xa,vh (by omega)]
   rfl
  | j+1 =>
   rw[ku (by omega),h2,show(j+1)*2+i-2=j*2+i by omega]
   exact ih (by simpa using hj)
theorem flat_gvs(es:List (ByteArray×Int)):flatK gv 2 es.toArray=(gvs es).toArray:=by
 refine Array.ext (by simp[qim]) fun t h1 h2 => ?_
 have ht:t<es.length*2:=by simpa using h1
 have h3:=get_flatK gv 2 es.toArray t (by simpa using ht)
 rw[getElem!_pos _ t h1] at h3
 rw[h3]
 have hj:t/2<es.length:=by omega
 have hg:=gvs_get (es:=es) (j:=t/2) (i:=t%2) hj (by omega)
 rw[show t/2*2+t%2=t by omega] at hg
 have h4:(gvs es)[t]'(by rw[qim];exact ht)=(gv es[t/2])[t%2]'(by show _<2;omega):=by
  rw[qe (by rw[qim];exact ht),qe (by show _<2;omega)] at hg
  exact jh hg
 have h5:(es.toArray[t/2]!)=es[t/2]:=by
  rw[getElem!_pos es.toArray (t/2) (by simpa using hj)]
  simp
 rw[h5,getElem!_pos (gv es[t/2]) (t%2) (by show _<2;omega)]
 simp[h4]
theorem Tryz.infoGain:(Tryz.prog.info? 275).map (fun i=>(i.zero,i.size,i.bytes))=some (some (.agg #[.string ⟨#[]⟩,.int .i64 0]),2,24):=by kernel_rfl
theorem qp0{ops:Array Oper}{rest:List Oper}{o:Oper}{a:Act}{w:World}{Q:Exit→Act→World→Prop}(e:ByteArray×Int)(hg:o.guard=none)(x:Operand)(ho:o.op= .buildSlice 273 1 #[(0,x)])(hx:a.eval x= .agg (gv e).toArray)
  (h:wpList Tryz.prog ops Q rest (a.put o.dst (.slice (some ⟨w.heap.size,0,none⟩) 1 1)) (w.alloc (.cells (gv e).toArray 275))):wpList Tryz.prog ops Q (o :: rest) a w:=by
 obtain⟨i0,hi0,hz0,hz1,hz2⟩:=info_parts Tryz.infoGain
 refine wpList_buildSlice hg _ _ 1 _ ho (gv e).toArray i0 _ Tryz.underlying273 hi0 hz0 (by rw[hz1];omega) (by rw[hz1];omega) ?_ h
 have hf:=Great.fill_whole (s:=2) (by omega) [.agg (gv e).toArray] ((Array.range (1*2)).map ((Value.agg #[.string ⟨#[]⟩,.int .i64 0]).cells[· % (Value.agg #[.string ⟨#[]⟩,.int .i64 0]).cells.size]!)) (fun u hu=>by
  rw[zo.1 hu]
  rfl) (by simp)
 have e1:([Value.agg (gv e).toArray].flatMap fun u=>u.cells.toList).toArray=(gv e).toArray:=by
  show((gv e).toArray.toList++[]).toArray=(gv e).toArray
  rw[jj]
 rw[e1] at hf
 rw[hz1]
 simp only[List.map_toArray,ym,uq,hx]
 exact hf
theorem qpy{ops:Array Oper}{rest:List Oper}{o:Oper}{a:Act}{Q:Exit→Act→World→Prop}{w:World}{v:Value}{g:Nat}(base:Nat)(es:List (ByteArray×Int))(e:ByteArray×Int)(hgd:o.guard=none)(s x:Operand)
  (ho:o.op= .call { callee:= .builtin .append,args:=#[s,x],argTypes:=#[273,273] }) (hty:o.type=273)
  (hs:a.eval s=v) (hx:a.eval x= .slice (some ⟨g,0,none⟩) 1 1) (hcells:∀j u,(gv e)[j]? = some u→w.cell? ⟨g,j,none⟩=some u)
  (hown:w.ownsRow base 275 2 v es.length (gvs es)) (hb:es.length+1≤1000000000) (hbase:base≤w.heap.size)
  (h:∀A' c' w',w'.ownsRow base 275 2 (.slice A' (es++[e]).length c') (es++[e]).length (gvs (es++[e]))→w.grownBy w' v.ownBlock→((Value.slice A' (es++[e]).length c').ownBlock=v.ownBlock∨(Value.slice A' (es++[e]).length c').ownBlock=some w.heap.size)→wpList Tryz.prog ops Q rest (a.put o.dst (.slice A' (es.length+1) c')) w') :
  wpList Tryz.prog ops Q (o :: rest) a w:=by
 obtain⟨i0,hi0,hz0,hz1,hz2⟩:=info_parts Tryz.infoGain
 obtain⟨v',w',hrun,h2,h3,_,h5⟩:=run_append_own_at (P:=Tryz.prog) w base 273 273 275 i0 _ 2 24 Tryz.underlying273 hi0 hz0 hz1 hz2 rfl (by omega) v es.length (gvs es) hown ⟨g,0,none⟩ 1 1 (gv e) rfl
  (fun j u hu=>by
   have:=hcells j u hu
   rwa [show(⟨g,j,none⟩:Addr)=(⟨g,0,none⟩:Addr).add j from by unfold Addr.add;by_cases h0:j=0 <;> simp[h0]] at this) (gv_one e) (by simp only[maxLen];omega) (by omega) hbase
 obtain⟨A',c',rfl,_⟩:=qd3 w' h2
 refine wpList_append_run hgd s x _ _ ho hs hx (by rw[hty];exact hrun) (h A' c' w' ?_ h3 (by rw[qd];exact h5))
 rw[gvs_snoc,qd]
 exact h2
theorem holds_row{w:World}{g:Nat}{cur:Array Value}{e:TypeId}{vs:List Value}(hb:w.heap[g]? = some (.cells cur e (0,0)))(ht:cur.toList.take vs.length=vs):Holds id w g 0 vs.toArray:=by
 intro j hj
 have hj':j<vs.length:=by simpa using hj
 refine⟨?_,by simp[World.frozen?,hb]⟩
 have h1:(cur.toList.take vs.length)[j]? = vs[j]?:=by rw[ht]
 rw[qe8 hj'] at h1
 simp only[World.cell?,hb,xa]
 simp only[Option.isSome_none,qam,if_false]
 rw[←Array.getElem?_toList,h1]
 simp[hj']
theorem heap_row{w:World}{g n:Nat}{os:Array Obj}{cur:Array Value}{e:TypeId}{fr:Nat×Nat}(d:Array Value)(hb:w.heap[g]? = some (.cells cur e fr)) :
  (grow (putRow id (Sort.ahead w n) g 0 d) os).heap[g]? = some (.cells (putCells id 0 d cur) e fr):=by
 have hg:g<w.heap.size:=(vp.1 hb).1
 rw[heap_grow_old _ _ (by simpa using hg)]
 simp[putRow,mapBlock,Sort.ahead,Array.getElem?_modify,hb,onCells]
theorem grownBy_row{w:World}{g n:Nat}{os:Array Obj}(d:Array Value):w.grownBy (grow (putRow id (Sort.ahead w n) g 0 d) os) (some g):=by
 refine⟨rfl,rfl,rfl,by simp,fun k hk hne => ?_⟩
 rw[heap_grow_old _ _ (by simpa using hk)]
 have:g≠k:=fun e=>hne (by rw[e])
 simp[putRow,mapBlock,Sort.ahead,Array.getElem?_modify,this]
theorem take_row(cur:Array Value)(vs:List Value)(h:vs.length≤cur.size):(putCells id 0 vs.toArray cur).toList.take vs.length=vs:=by
 apply qc3
 intro j
 by_cases hj:j<vs.length
 ·
  rw[qe8 hj,Array.getElem?_toList]
  simp[putCells,hj,show j<cur.size by omega]
 ·
  rw[List.getElem?_take_eq_none (by omega),jz (by omega)]
theorem sortg_own{w:World}{base:Nat}{v:Value}(es:List (ByteArray×Int))(h:w.ownsRow base 275 2 v es.length (gvs es))(hn:es.length<4611686018427387904) :
  Calls Tryz.prog 266 #[v,.func (.func 267) #[] #[]] w fun r w'=>r= .returned (.tuple #[])∧w'.ownsRow base 275 2 v es.length (gvs (qgr es))∧w.grownBy w' v.ownBlock:=by
 rcases h.2 with ⟨rfl,h0⟩ | ⟨g,cap,cur,rfl,hbase,hb,h1,h2,h3,h4⟩
 ·
  have hz:es=[]:=zd h0
  subst hz
  have hc:=AnyF.slices_SortFunc_none gslays none 0 (.func (.func 267) #[] #[]) w
  refine hc.mono ?_
  rintro r w' ⟨rfl,rfl⟩
  have hr:qgr []=[]:=zd (rank_len [])
  exact⟨rfl,by rw[hr];exact h,vc _ _⟩
 ·
  have eg:∀args w,(callFunc 267 args).run Tryz.prog w= .ok (.enter 267 args) w:=enters_of Tryz.func267 (by kernel_rfl) rfl
  have ht:cur.toList.take (gvs es).length=gvs es:=by rw[qim];exact h4
  have hH:HoldsK gv 2 w g 0 es.toArray:=by
   unfold HoldsK
   rw[flat_gvs]
   exact holds_row hb ht
  have hc:=AnyQ.slices_SortFunc_total gslays 2 Tryz.isAgg275 Tryz.sizeOf275 gv (fun _=>rfl) gv_one qe7 ltA_swo 267 #[] g 0 cap es.toArray w eg
   (fun m os dk _ x y=>ahead_any x y _) hH (vp.1 hb).1 (by simpa using hn) ltA_one
  refine Calls.mono hc ?_
  rintro r w' ⟨rfl,n,os,rfl⟩
  have hrk:(es.toArray.toList.mergeSort fun x y => !(ltOf qe7) y x).toArray=(qgr es).toArray:=rfl
  have hw:sortWorldK gv 2 w g 0 n (qgr es).toArray os=grow (putRow id (Sort.ahead w n) g 0 (gvs (qgr es)).toArray) os:=by
   unfold sortWorldK putRowK
   rw[flat_gvs]
  rw[hrk,hw]
  have hl:(gvs (qgr es)).length=es.length*2:=by rw[qim,rank_len]
  refine⟨rfl,⟨hl,.inr ⟨g,cap,_,rfl,hbase,heap_row _ hb,h1,h2,by simp[putCells,h3],?_⟩⟩,grownBy_row _⟩
  rw[←hl]
  exact take_row cur _ (by rw[hl,h3];omega)
end
theorem filter_yes{l:List ByteArray}{k:Nat}(h:k<l.length)(ho:qhw l[k].data.toList=true):((qm l).take (k+1)).filter qhw=((qm l).take k).filter qhw++[l[k].data.toList]:=by
 rw[qg (by rw[qx];exact h),yq l k h,List.filter_append,List.filter_cons,if_pos ho,List.filter_nil]
theorem filter_no{l:List ByteArray}{k:Nat}(h:k<l.length)(ho:qhw l[k].data.toList=false):((qm l).take (k+1)).filter qhw=((qm l).take k).filter qhw:=by
 rw[qg (by rw[qx];exact h),yq l k h,List.filter_append,List.filter_cons,if_neg (by rw[ho];decide),List.filter_nil,jj]
theorem own_nil(w:World)(base:Nat)(e:TypeId):w.ownsRow base e 1 (.slice none 0 0) 0 (sv []):=⟨rfl,.inl ⟨rfl,rfl⟩⟩
theorem sorder_any{w:World}(l:List ByteArray){c:Nat}{A:Option Addr}(h:Rd w 0 w.heap.size A c (sv l))(hln:l.length≤1000000)(hsz:∀s∈l,s.size≤9223372036854775807) :
  Calls Tryz.prog 268 #[.slice A l.length c] w fun r w'=>∃A' c',r= .returned (.slice A' (ordL (qm l)).length c')∧w'.ownsRow w.heap.size 9 1 (.slice A' (ordL (qm l)).length c') (ordL (qm l)).length (sv (j7 (ordL (qm l))))∧Below w.heap.size w w':=by
 have hl:=h.len
 have hm:=h.cap
 rw[yg] at hl
 unfold maxLen at hm
 have H:=qa h
 have HSZ:Hid (∀k (hk:k<l.length),l[k].size≤9223372036854775807):=fun k hk=>hsz _ (qj hk)
 clear h hsz
 go_enter Tryz.func268,Tryz.ntmps268
 go_wp2_with fail
 go_loopw [3,11] (fun x3 x11 wr=>∃(k:Nat) (ys:List ByteArray) (A':Option Addr) (c':Nat),k≤l.length∧x11= .int .i64 (k:Int)∧x3= .slice A' ys.length c'∧ys.length≤k∧qm ys=((qm l).take k).filter qhw∧
  wr.ownsRow w.heap.size 9 1 (.slice A' ys.length c') ys.length (sv ys)∧Below w.heap.size w wr) (fun _ i _=>l.length-(intOf i).toNat)
 case atStart=>exact⟨0,[],_,_,qi _,rfl,rfl,by simp,by simp[qm],own_nil _ _ _,Below.refl _ _⟩
 case round =>
  obtain⟨k,ys,A',c',hk,rfl,rfl,hyl,hys,hown,hb⟩:=hrel
  have HYS:=qa hys
  have HO:=qa hown
  have HB:=qa hb
  have hsz:=hb.size
  clear hys hown hb
  by_cases hlt:k<l.length
  ·
   have ik:(k:Int)<(l.length:Int):=by omega
   obtain⟨b,off,rfl,_,hbh,hcell⟩:=(H.out.below HB.out (qc _)).str hlt
   have hs63:=HSZ.out k hlt
   have HFY:=qa (filter_yes hlt)
   have HFN:=qa (filter_no hlt)
   have HFI:=qa (fun w=>fits_any (w:=w) (l[k].size:Int))
   rw[fits_size] at HFI
   generalize l[k]=s at *
   obtain⟨f,hf⟩:∃f,qhw s.data.toList=f:=⟨_,rfl⟩
   rw[hf] at HFI HFY HFN
   clear hf
   cases f with
   | false =>
    replace HFN:=qa (HFN.out rfl)
    clear HFY
    go_wp2_with fail
    refine(HFI.out _).mono ?_
    rintro r w' ⟨rfl,rfl⟩
    go_wp2_with fail
    go_roundw
    case rel=>exact⟨k+1,ys,A',c',by omega,by go_num,rfl,by omega,by rw[HFN.out];exact HYS.out,HO.out,HB.out⟩
    case measure=>simp[intOf] <;> omega
   | true =>
    replace HFY:=qa (HFY.out rfl)
    clear HFN
    go_wp2_with fail
    refine(HFI.out _).mono ?_
    rintro r w' ⟨rfl,rfl⟩
    go_wp2_with (at_builtin;refine xz (v:= .slice A' ys.length c') w.heap.size ys s rfl _ _ rfl rfl rfl rfl (by rw[za _ _ _ _ rfl];rfl) (HO.out.alloc _) (by omega) (by simp;omega) ?_;intro A2 c2 w2 ho2 hg2;refine qaz ?_)
    have hb2w:Below w.heap.size w w2:=(HB.out.alloc hsz _).grown hg2 (by simp;omega) (fun q hq=>(zk HO.out hq).1)
    obtain⟨zs,hzs⟩:∃zs,ys++[s]=zs:=⟨_,rfl⟩
    rw[hzs] at ho2
    have hzl:zs.length=ys.length+1:=by rw[←hzs,qd];rfl
    have HZL:Hid (Value.slice A2 (ys.length+1) c2= .slice A2 zs.length c2):=by unfold Hid;rw[hzl]
    have HZK:Hid (zs.length≤k+1):=by unfold Hid;omega
    have HZ:Hid (qm zs=((qm l).take (k+1)).filter qhw):=by
     unfold Hid
     rw[HFY.out,←HYS.out,←hzs]
     simp[qm]
    have HO2:=qa ho2
    have HB2:=qa hb2w
    clear ho2 hg2 hb2w hzl hzs
    refine⟨?_⟩
    go_wp2_with fail
    go_roundw
    case rel=>exact⟨k+1,zs,A2,c2,by omega,by go_num,HZL.out,HZK.out,HZ.out,HO2.out,HB2.out⟩
    case measure=>simp[intOf] <;> omega
  ·
   have ik:¬(k:Int)<(l.length:Int):=by omega
   have hke:k=l.length:=by omega
   obtain⟨zs,hzs⟩:∃zs,qm ys=zs:=⟨_,rfl⟩
   have hys2:ys=j7 zs:=by rw[←hzs,qdu]
   have hzf:zs=(qm l).filter qhw:=by
    have:=HYS.out
    rw[hke,qo (by rw[qx];exact qc _),hzs] at this
    exact this
   have HZF:=qa hzf
   have hzl:zs.length=ys.length:=by rw[←hzs,qx]
   subst hys2
   clear hzs HYS hzf hke
   obtain⟨n,hn⟩:∃n,(j7 zs).length=n:=⟨_,rfl⟩
   rw[hn] at HO hzl hyl ⊢
   subst hzl
   clear hn
   have HST:=qa (sort_own (v:= .slice A' zs.length c') zs HO.out (by omega))
   go_wp2_with fail
   refine HST.out.mono ?_
   rintro r w2 ⟨rfl,ho2,hg2⟩
   have hb2:Below w.heap.size w w2:=HB.out.grown hg2 hsz (fun q hq=>(zk HO.out hq).1)
   obtain⟨us,hus⟩:∃us,(zs.mergeSort fun x y=>decide (x≤y))=us:=⟨_,rfl⟩
   have hul:us.length=zs.length:=by rw[←hus,List.length_mergeSort]
   have HUS:Hid (us=qhq (qm l)):=by unfold Hid;rw[←hus,HZF.out];rfl
   rw[hus,←hul] at ho2
   have HO2:=qa ho2
   have HB2:=qa hb2
   have hsz2:=hb2.size
   clear ho2 hg2 hb2 hus
   have HCO:=qa (qrp us HO2.out (by omega))
   rw[hul] at HCO
   have HUL:=qa hul
   clear hul
   go_wp2_with fail
   refine HCO.out.mono ?_
   rintro r w3 ⟨rfl,ho3,hg3⟩
   have hb3:Below w.heap.size w w3:=HB2.out.grown hg3 hsz2 (fun q hq=>(zk HO2.out (by rw[HUL.out];exact hq)).1)
   obtain⟨vs,hvs⟩:∃vs,Lib.compact us=vs:=⟨_,rfl⟩
   have HVL:Hid (vs.length≤1000000):=by
    unfold Hid
    have:=Lib.compact_length_le us
    rw[hvs,HUL.out] at this
    omega
   have HVO:Hid (vs.take 255=ordL (qm l)):=by unfold Hid;rw[←hvs,HUS.out];rfl
   rw[hvs] at ho3 ⊢
   have HR3:=qa (Rd.of_own ho3)
   have HB3:=qa hb3
   have hsz3:=hb3.size
   have hvc:=(qd3 _ ho3)
   clear ho3 hg3 hb3 hvs HCO HST HO HB HO2 HB2 HUS
   have hvl:=HVL.out
   have hvc2:vs.length≤c':=by
    obtain⟨_,_,he,h1,_⟩:=hvc
    injection he with _ _ he
    omega
   clear hvc
   obtain⟨M,hM⟩:∃M,min vs.length 255=M:=⟨_,rfl⟩
   have hM1:M≤vs.length:=by omega
   have hM2:M≤255:=by omega
   have hMI:min (vs.length:Int) 255=(M:Int):=by omega
   have HML:Hid ((vs.take 255).length=M):=by unfold Hid;rw[qy];omega
   have HV8:Hid (∀j (hj:j<(j7 vs).length),j<M→(j7 vs)[j].size≤281474976710656):=fun j hj hjM=>by
    have h1:(j7 vs)[j].data.toList=(vs.take 255)[j]'(by rw[HML.out];exact hjM):=by simp[j7]
    have h2:=(ordL_is (qm l)).right
    rw[←HVO.out] at h2
    have h3:=(qfu.1 ((uy.1 h2).2.1 _ (qj (l:=vs.take 255) (n:=j) (by rw[HML.out];exact hjM)))).2
    rw[←h1,zy] at h3
    have h4:(j7 vs)[j].data.size=(j7 vs)[j].size:=rfl
    omega
   have HVL2:Hid ((j7 vs).length=vs.length):=yo vs
   clear hM
   go_wp2_with fail
   go_loopw [6,33] (fun x6 x33 wr=>∃(j:Nat) (ts:List ByteArray) (A2:Option Addr) (c2:Nat),j≤M∧x33= .int .i64 (j:Int)∧x6= .slice A2 j c2∧ts=(j7 vs).take j∧ts.length=j∧
    wr.ownsRow w3.heap.size 9 1 (.slice A2 j c2) j (sv ts)∧Below w3.heap.size w3 wr) (fun _ i _=>M-(intOf i).toNat)
   case atStart=>exact⟨0,[],_,_,qi _,rfl,rfl,by simp,rfl,own_nil _ _ _,Below.refl _ _⟩
   case round =>
    obtain⟨j,ts,A2,c2,hj,rfl,rfl,hts,htl,hown,hb⟩:=hrel
    have HTS:=qa hts
    have HTL:=qa htl
    have HO:=qa hown
    have HB:=qa hb
    have hszr:=hb.size
    clear hts htl hown hb
    by_cases hlt:j<M
    ·
     have ij:(j:Int)<(M:Int):=by omega
     have hjv:j<(j7 vs).length:=by rw[HVL2.out];omega
     obtain⟨b,off,rfl,_,hbh,hcell⟩:=(HR3.out.below HB.out (qc _)).str hjv
     have HCL:=qa (fun w=>sclone_any (w:=w) (j7 vs)[j] (HV8.out j hjv hlt))
     have HTN:Hid (ts++[(j7 vs)[j]]=(j7 vs).take (j+1)):=by
      unfold Hid
      rw[qg hjv,←HTS.out]
     generalize (j7 vs)[j]=s at *
     go_wp2_with fail
     refine(HCL.out _).mono ?_
     rintro r w4 ⟨rfl,hb4⟩
     have HB4:=qa (HB.out.trans (hb4.mono hszr))
     have HO4:=qa (js HO.out hb4 (qc _))
     have hszr4:=HB4.out.size
     clear hb4 HO
     rw[←HTL.out] at HO4
     go_wp2_with (at_builtin;refine xz (v:= .slice A2 j c2) w3.heap.size ts s rfl _ _ rfl rfl rfl rfl (by rw[za _ _ _ _ rfl];rfl) (by have:=HO4.out.alloc (.cells #[.string s] 9);rw[HTL.out] at this ⊢;exact this) (by rw[HTL.out];omega) (by simp;omega) ?_;intro A5 c5 w5 ho5 hg5;refine qaz ?_)
     have hb5:Below w3.heap.size w3 w5:=(HB4.out.alloc (by omega) _).grown hg5 (by simp;omega) (fun q hq=>(zk HO4.out (by rw[HTL.out];exact hq)).1)
     obtain⟨qs,hqs⟩:∃qs,ts++[s]=qs:=⟨_,rfl⟩
     rw[hqs] at ho5
     have hql:qs.length=j+1:=by rw[←hqs,qd,HTL.out];rfl
     have HQS:Hid (qs=(j7 vs).take (j+1)):=by unfold Hid;rw[←hqs];exact HTN.out
     have HQV:Hid (Value.slice A5 (ts.length+1) c5= .slice A5 (j+1) c5):=by unfold Hid;rw[HTL.out]
     rw[hql] at ho5
     have HQL:=qa hql
     have HO5:=qa ho5
     have HB5:=qa hb5
     clear ho5 hg5 hb5 hqs hql
     refine⟨?_⟩
     go_wp2_with fail
     go_roundw
     case rel=>exact⟨j+1,qs,A5,c5,by omega,by go_num,HQV.out,HQS.out,HQL.out,HO5.out,HB5.out⟩
     case measure=>simp[intOf] <;> omega
    ·
     have ij:¬(j:Int)<(M:Int):=by omega
     have hjM:j=M:=by omega
     have HLM:Hid ((ordL (qm l)).length=j):=by unfold Hid;rw[←HVO.out,HML.out,hjM]
     have HTF:Hid (ts=j7 (ordL (qm l))):=by
      unfold Hid
      rw[HTS.out,←HVO.out,j7,←qbx,j7]
      congr 1
      have h1:=HVL.out
      rw[hjM]
      rcases Nat.le_total vs.length 255 with h2 | h2
      ·
       rw[qo (by omega),qo h2]
      ·
       congr 1;omega
     have HOF:=qa (j4 HO.out HB3.out.size)
     have HBF:=qa (qz HB3.out HB.out HB3.out.size)
     go_wp2_with fail
     go_ret
     rw[HLM.out,←HTF.out]
     exact⟨A2,c2,by rw[hjM];rfl,HOF.out,HBF.out⟩
section
open Go.RowKit Go.Maps Go.WideMaps
theorem own2_at{w:World}{base c:Nat}{A:Option Addr}{es:List (ByteArray×Int)}(h:w.ownsRow base 275 2 (.slice A es.length c) es.length (gvs es)){j:Nat}(hj:j<es.length) :
  ∃b,A=some ⟨b,0,none⟩∧base≤b∧b<w.heap.size∧w.cell? ⟨b,j*2,none⟩=some (.string es[j].1)∧w.cell? ⟨b,j*2+1,none⟩=some (.int .i64 es[j].2):=by
 rcases h.2 with ⟨h1,h2⟩ | ⟨g,cap,cur,hv,hb,hg,_⟩
 ·
  omega
 ·
  injection hv with hv1 _ hv3
  subst hv1 hv3
  refine⟨g,rfl,hb,(vp.1 hg).1,?_,?_⟩
  ·
   rw[h.cellAt (j*2) (by omega)]
   have:=gvs_get (es:=es) (i:=0) hj (by omega)
   rw[xx] at this
   rw[this]
   rfl
  ·
   rw[h.cellAt (j*2+1) (by omega),gvs_get (es:=es) (i:=1) hj (by omega)]
   rfl
theorem key_str{key:Value}{kl:Lit}(h:keyOf Tryz.prog 9 key=some kl):∃x:ByteArray,key= .string x:=by
 have hk:=Tryz.underlying9
 cases key <;> simp[keyOf,hk,mapKey] at h
 exact⟨_,rfl⟩
theorem key_lit{x:ByteArray}{kl:Lit}(h:keyOf Tryz.prog 9 (.string x)=some kl):kl= .string x.data.toList:=by
 have hk:=Tryz.underlying9
 simp[keyOf,hk,mapKey] at h
 exact h.2.symm
theorem elem_int{v:Value}{y:DataW Unit×List MemPlace}(h:plainElem Tryz.prog 3 v=some y):∃c:Int,v= .int .i64 c:=by
 obtain⟨c,rfl,_⟩:=plainElem_int_inv Tryz.underlying3 h
 exact⟨c,rfl⟩
theorem best_any{w:World}{B n:Nat}{D:DataW Unit}{P:List (List UInt8)}(hm:qoj w B n D)(hD:Bag D P)(hP:P.length≤100000000)(h8:∀x∈P,x.length≤8) :
  Calls Tryz.prog 248 #[.map (some B)] w fun r w'=>∃t A' c',r= .returned (.slice A' t.length c')∧qfh P t∧w'.ownsRow w.heap.size 9 1 (.slice A' t.length c') t.length (sv (j7 t))∧Below w.heap.size w w':=by
 have hBw:B<w.heap.size:=hm.lt
 have HM:=qa hm
 have HD:=qa hD
 have H8:=qa h8
 clear hm hD h8
 go_enter Tryz.func248,Tryz.ntmps248
 go_wp2_with (at_range;refine wpList_range_own _ rfl _ 260 rfl 9 3 Tryz.keyStr Tryz.underlying260 _ B n D rfl HM.out ?_;refine qaz ?_)
 refine⟨?_⟩
 intro w0 hrg0 hg0 hs0
 have HB0:Hid (Below w.heap.size w w0):=(Below.refl _ w).grown hg0 (qc _) (fun j hj=>by cases hj)
 have HR0:=qa hrg0
 clear hrg0 hg0 hs0
 go_wp2_with fail
 go_loopw [3] (fun x3 wr=>∃(left:Lit→Bool) (cnt:Nat) (es:List (ByteArray×Int)) (A':Option Addr) (c':Nat),x3= .slice A' es.length c'∧wr.ranges Tryz.prog 9 (plainElem Tryz.prog 3) B w.heap.size n D left cnt∧
  Coll P (fun x=>left (.string x)) es∧(∀x,left (.string x)=true→x∈P)∧wr.ownsRow w.heap.size 275 2 (.slice A' es.length c') es.length (gvs es)∧Below w.heap.size w wr) (fun _ wr=>wr.rangeLeft B w.heap.size)
 case atStart =>
  refine⟨_,_,[],none,0,rfl,HR0.out,Coll.nil (fun x hx => ?_),fun x hx => ?_,zh _ _ _ _,HB0.out⟩
  ·
   rw[HD.out.has x]
   exact qp hx
  ·
   rw[HD.out.has x] at hx
   exact of_decide_eq_true hx
 case round =>
  obtain⟨left,cnt,es,A',c',rfl,hrg,hcoll,hlin,hown,hb⟩:=hrel
  have HRG:=qa hrg
  have HCO:=qa hcoll
  have HLI:=qa hlin
  have HO:=qa hown
  have HB:=qa hb
  have hfew:=hcoll.few
  clear hrg hcoll hlin hown hb
  go_wp2_with (at_next;refine wpList_next_ranges (α:=ByteArray) (β:=Int) _ rfl _ rfl 9 Tryz.keyStr _ Value.string (Value.int .i64) (fun _ _ h=>key_str h) (fun _ _ h=>elem_int h) B w.heap.size n D left cnt rfl HRG.out (fun h0 hl0 => ?_) (fun x c kl y w1 cnt1 hkey hl hRv hat hrg1 hlt hg1 hs1 hen => ?_);all_goals (refine qaz ?_))
  ·
   refine⟨?_⟩
   have HTOP:=qa (HCO.out.top (fun x _=>hl0 _))
   have hsz:=HB.out.size
   clear h0 hl0 HRG HCO HLI
   obtain⟨L,hL⟩:∃L,qgr es=L:=⟨_,rfl⟩
   rw[hL] at HTOP
   have hLl:L.length=es.length:=by rw[←hL,rank_len]
   have HSO:=qa (sortg_own es HO.out (by omega))
   rw[hL] at HSO
   have HLL:=qa hLl
   clear hL hLl
   obtain⟨m,hm1⟩:∃m:Nat,m=min es.length 255:=⟨_,rfl⟩
   have hmin:min ((es.length:Nat):Int) 255=(m:Int):=by omega
   have hm2:m≤es.length:=by omega
   have hm3:m≤255:=by omega
   have HTK:Hid ((L.take 255).map keyA=(L.take m).map keyA):=by
    unfold Hid
    have:=HLL.out
    congr 1
    by_cases h:es.length≤255
    ·
     rw[qo (by omega),qo (by omega)]
    ·
     rw[show m=255 by omega]
   clear hm1
   obtain⟨A5,c5,he5,hc5,hc6⟩:=qd3 wr HO.out
   injection he5 with he5 _ he6
   subst he5 he6
   go_wp2_with fail
   refine HSO.out.mono ?_
   rintro r w1 ⟨rfl,ho1,hg1⟩
   have HB1:Hid (Below w.heap.size w w1):=HB.out.grown hg1 hsz (fun q hq=>(zk HO.out hq).1)
   have hz1:=HB1.out.size
   rw[←HLL.out] at ho1
   have HO1:=qa ho1
   clear ho1 hg1
   obtain⟨N,hN⟩:∃N:List ByteArray,(L.take m).map (fun e=>e.1)=N:=⟨_,rfl⟩
   have hNl:N.length=m:=by rw[←hN,q8,qy];have:=HLL.out;omega
   have HNK:Hid (∀k (hk:k<m) (hk2:k<N.length) (hk3:k<L.length),N[k]=L[k].1):=fun k hk hk2 hk3=>by
    subst hN
    simp
   have HNB:Hid (qm N=(L.take m).map keyA):=by
    unfold Hid
    rw[←hN]
    unfold qm
    rw[ut]
    rfl
   have HNL:=qa hNl
   clear hN hNl
   have hm4:(m:Int)≤255:=by omega
   go_wp2_with fail
   go_loopw [6,33] (fun x6 x33 wr=>∃(k:Nat) (A2:Option Addr) (c2:Nat),k≤m∧x33= .int .i64 (k:Int)∧x6= .slice A2 k c2∧wr.ownsRow w1.heap.size 9 1 (.slice A2 k c2) k (sv (N.take k))∧Below w1.heap.size w1 wr) (fun _ x33 _=>m-(intOf x33).toNat)
   case atStart=>exact⟨0,none,0,qi _,rfl,rfl,zh _ _ _ _,Below.refl _ _⟩
   case round =>
    obtain⟨k,A2,c2,hk,rfl,rfl,hown,hb⟩:=hrel
    have HO2:=qa hown
    have HB2:=qa hb
    have hz2:=hb.size
    clear hown hb
    by_cases hlt:k<m
    ·
     have hkL:k<L.length:=by have:=HLL.out;omega
     have hkN:k<N.length:=by have:=HNL.out;omega
     obtain⟨b,rfl,_,_,hcell,hcell2⟩:=own2_at (js HO1.out HB2.out (qc _)) hkL
     have HE:Hid (N[k]=L[k].1):=HNK.out k hlt hkN hkL
     obtain⟨s,hs⟩:∃s,L[k].1=s:=⟨_,rfl⟩
     obtain⟨g,hg⟩:∃g,L[k].2=g:=⟨_,rfl⟩
     rw[hs] at hcell HE
     rw[hg] at hcell2
     clear hs hg
     have HKL:Hid ((N.take k).length=k):=by unfold Hid;rw[qy];omega
     have HTK2:Hid (N.take (k+1)=N.take k++[s]):=by
      unfold Hid
      rw[qg hkN,HE.out]
     go_wp2_with (at_builtin;refine xz (v:= .slice A2 k c2) w1.heap.size (N.take k) s rfl _ _ rfl rfl rfl rfl (by rw[za _ _ _ _ (by simp)];rfl) (by rw[HKL.out];exact(HO2.out.alloc _).alloc _) (by rw[HKL.out];omega) (by simp;omega) ?_;intro A3 c3 w3 ho3 hg3)
     have HO3:=qa ho3
     have HB3:Hid (Below w1.heap.size w1 w3):=((HB2.out.alloc hz2 _).alloc (by simp;omega) _).grown hg3 (by simp;omega) (fun q hq=>(zk HO2.out hq).1)
     clear ho3 hg3
     go_roundw
     case rel =>
      refine⟨k+1,A3,c3,by omega,by go_num,by rw[show min k N.length=k by omega],?_,HB3.out⟩
      have:=HO3.out
      rw[qd,HKL.out] at this
      rw[HTK2.out]
      exact this
     case measure=>simp[intOf];omega
    ·
     obtain rfl:k=m:=by omega
     have HNT:Hid (N.take k=N):=qo (by have:=HNL.out;omega)
     have ho9:=HO2.out
     rw[HNT.out] at ho9
     have hsz9:∀s∈N,s.size≤9223372036854775807:=fun s hs=>by
      have h1:s.data.toList∈qm N:=zn.2 ⟨s,hs,rfl⟩
      rw[HNB.out,←HTK.out] at h1
      have h2:=H8.out _ (HTOP.out.of _ h1)
      rw[qgq] at h2
      omega
     have HOR:=qa (sorder_any (w:=wr) N (A:=A2) (c:=c2) (by rw[HNL.out] at *;exact(Rd.own ho9).wide (qi _) (qc _)) (by rw[HNL.out];omega) hsz9)
     rw[HNL.out] at HOR
     have HIS:Hid (qfh P (ordL (qm N))):=⟨_,HTOP.out,by rw[HTK.out,←HNB.out];exact ordL_is _⟩
     generalize ordL (qm N)=t at *
     clear ho9 hsz9
     go_wp2_with fail
     refine HOR.out.mono ?_
     rintro r w4 ⟨A4,c4,rfl,ho4,hb4⟩
     have HO4:=qa (j4 ho4 (show w.heap.size≤wr.heap.size by omega))
     have HB4:Hid (Below w.heap.size w w4):=HB1.out.trans ((HB2.out.mono hz1).trans (hb4.mono (by omega)))
     clear ho4 hb4
     go_wp2_with fail
     go_ret
     exact⟨t,A4,c4,rfl,HIS.out,HO4.out,HB4.out⟩
  ·
   refine⟨?_⟩
   obtain rfl:=key_lit hkey
   obtain⟨c2,e1,e2,_⟩:=plainElem_int_inv Tryz.underlying3 hRv
   injection e1 with _ e1
   subst e1 e2
   have hc:=HD.out.count (hat (zi 0))
   have hxP:=HLI.out _ hl
   have hx8:x.size≤8:=by rw[←qgq];exact H8.out _ hxP
   have hgain:qnf P x.data.toList=P.count x.data.toList*x.size:=by rw[qnf,qgq]
   have hcl:P.count x.data.toList≤P.length:=qcs
   generalize P.count x.data.toList=q at *
   subst hc
   obtain⟨G,hG⟩:∃G,q*x.size=G:=⟨_,rfl⟩
   rw[hG] at hgain
   have hG8:G≤P.length*8:=by rw[←hG];exact vz hcl hx8
   have hv:Value.int .i64 (wrap64 ((q:Int)*(x.size:Int)))= .int .i64 (G:Int):=by
    rw[←hG]
    push_cast
    rw[ky]
    have:((q*x.size:Nat):Int)=(q:Int)*(x.size:Int):=by push_cast;rfl
    omega
   have HCO2:Hid (Coll P (fun z=>left (.string z) && !(Lit.string z).sameKey (.string x.data.toList)) (es++[(x,(G:Int))])) :=
    HCO.out.snoc (e:=(x,(G:Int))) hxP hl (by show(G:Int)=_;rw[show keyA (x,(G:Int))=x.data.toList from rfl,hgain]) (fun z=>by
     show _=(left (.string z) && !decide (z=x.data.toList))
     congr 2
     by_cases hz:z=x.data.toList
     ·
      subst hz
      rw[WideAt.sameKey_self (show WideAt.IsKeyLit (Lit.string x.data.toList) from trivial)]
      simp
     ·
      rw[Maps.sameKey_ne (fun e=>hz (by injection e)),ql hz])
   have HLI2:Hid (∀z,(left (.string z) && !(Lit.string z).sameKey (.string x.data.toList))=true→z∈P):=fun z hz=>HLI.out z (by rw[jl] at hz;exact hz.1)
   have hne:some w.heap.size≠(Value.slice A' es.length c').ownBlock:=row_ne_iter HO.out HRG.out
   have HO1:Hid (w1.ownsRow w.heap.size 275 2 (.slice A' es.length c') es.length (gvs es)):=ju HO.out (fun k hk=>hg1.block k (zk HO.out hk).2 (fun e=>hne (by rw[←e,hk])))
   have HB1:Hid (Below w.heap.size w w1):=HB.out.grown hg1 HB.out.size (fun j hj=>by cases hj;exact qc _)
   have HRG1:=qa hrg1
   have HLT:=qa hlt
   have HEN:=hen
   have hz1:=HB1.out.size
   have hne2:=qa hne
   clear hkey hl hRv hat hrg1 hlt hg1 hs1 hxP hgain hG hne hen
   go_wp2_with (refine qp0 (x,(G:Int)) rfl _ rfl rfl ?_;refine qaz ?_)
   refine⟨?_⟩
   go_wp2_with (at_builtin;refine qpy (v:= .slice A' es.length c') w.heap.size es (x,(G:Int)) rfl _ _ rfl rfl rfl rfl (fun j u hu => ?_) (HO1.out.alloc _) (by omega) (by simp;omega) (fun A2 c2 w2 ho2 hg2 _ => ?_);all_goals (refine qaz ?_))
   ·
    refine⟨?_⟩
    rw[za _ _ _ _ rfl]
    simpa using hu
   ·
    refine⟨?_⟩
    have HRG2:=qa ((HRG1.out.alloc (.cells (gv (x,(G:Int))).toArray 275)).kept hg2 (row_ne_low (HO1.out.alloc (.cells (gv (x,(G:Int))).toArray 275)) hBw) (row_ne_iter (HO1.out.alloc (.cells (gv (x,(G:Int))).toArray 275)) (HRG1.out.alloc (.cells (gv (x,(G:Int))).toArray 275))))
    have HO2:=qa ho2
    have HB2:Hid (Below w.heap.size w w2):=(HB1.out.alloc hz1 _).grown hg2 (by simp;omega) (fun q hq=>(zk HO1.out hq).1)
    clear ho2 hg2
    go_wp2_with fail
    go_roundw
    case rel=>exact⟨_,_,es++[(x,(G:Int))],A2,c2,by rw[qd];rfl,HRG2.out,HCO2.out,HLI2.out,HO2.out,HB2.out⟩
    case measure =>
     rw[HRG2.out.left_eq,HRG.out.left_eq]
     exact HLT.out
end
end Go.Proofs.YtnjkipnklpkaoaaGreat
