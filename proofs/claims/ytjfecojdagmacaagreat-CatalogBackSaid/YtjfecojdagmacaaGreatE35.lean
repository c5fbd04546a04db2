/-
  Lemmas.
-/
import Derived.Test.YtjfecojdagmacaaGreatE34
import Derived.Lib.Bytealg
namespace Go.Proofs.YtjfecojdagmacaaGreat
open Go.RowKit
set_option maxRecDepth 20000
set_option maxHeartbeats 16000000
set_option linter.unusedSimpArgs false
set_option linter.unusedVariables false
section
open Go.RowKit Go.Maps Go.WideMaps
theorem qkv{w:World}:Calls Tryz.prog 10 #[] w fun r w'=>r= .returned (.pointer (some ⟨w.heap.size,0,none⟩))∧CatE w' w.heap.size (fun k=>k=w.heap.size) w.heap.size []∧Below w.heap.size w w':=by
 have hbuild:∀W,(Instr.build 77 #[]).run Tryz.prog W= .ok (.agg #[.map none]) W:=fun W=>run_build W _ _ _ (by kernel_rfl)
 have HC:=qa (CatE.new w)
 go_enter Tryz.func10,Tryz.ntmps10
 go_wp2_with fail
 go_ret
 exact⟨rfl,HC.out,(Below.refl _ w).alloc (qc _) _⟩
def ptOf(es:List En)(s:ByteArray):Option Addr:=(es.find? fun e=>decide (e.name=s)).map fun e=>⟨e.g,0,none⟩
theorem qlo{es:List En}{s:ByteArray}(h:∀e∈es,e.name≠s):ptOf es s=none:=by
 unfold ptOf
 rw[List.find?_eq_none.2 fun e he=>by simpa using h e he]
 rfl
theorem qer{es:List En}{s:ByteArray}{k:Nat}(hk:k<es.length)(he:es[k].name=s)(hne:∀i j (hi:i<es.length) (hj:j<es.length),i≠j→es[i].name≠es[j].name):ptOf es s=some ⟨es[k].g,0,none⟩:=by
 unfold ptOf
 cases hf:es.find? fun e=>decide (e.name=s) with
 | none =>
  have:=List.find?_eq_none.1 hf es[k] (ql hk)
  simp[he] at this
 | some a =>
  have h1:=List.find?_some hf
  obtain⟨i,hi,rfl⟩:=zl (List.mem_of_find?_eq_some hf)
  have h2:es[i].name=s:=by simpa using h1
  by_cases e:i=k
  ·
   subst e;rfl
  ·
   exact absurd (h2.trans he.symm) (hne i k hi hk e)
theorem CatE.names{w:World}{lo C:Nat}{M:Nat→Prop}{es:List En}(h:CatE w lo M C es):∀i j (hi:i<es.length) (hj:j<es.length),i≠j→es[i].name≠es[j].name:=fun i j hi hj hij=>(h.apart i j hi hj hij).1
theorem find_run{w:World}{lo C:Nat}{M:Nat→Prop}{es:List En}(h:CatE w lo M C es)(s:ByteArray)(hs:s.size≤9223372036854775807) :
  ∃mb,j8 w C 77 #[.map mb]∧MapIs w M C es mb∧(Instr.lookup 75 (.map mb) (.string s) false).run Tryz.prog w= .ok (.pointer (ptOf es s)) w∧∀ty,(Builtin.len_ #[75] ty #[.map mb]).run Tryz.prog w= .ok (.int .i64 (es.length:Int)) w:=by
 obtain⟨mb,hb,hm⟩:=h.map
 have hz:=Tryz.zeroValue80 w
 have hkey:=keyOf_string_mk (P:=Tryz.prog) Tryz.underlying9 (s:=s) (by unfold maxLen;omega)
 refine⟨mb,hb,hm,?_,?_⟩
 ·
  cases mb with
  | none =>
   have:es=[]:=hm
   subst this
   exact look_nil false Tryz.keyS Tryz.underlying75 hz hkey
  | some B =>
   obtain⟨-, -, -,D,hown,hd⟩:=hm
   obtain⟨v,ps,hrun,hv⟩:=hown.lookup Tryz.keyS Tryz.underlying75 hz (zd:= .lit (.int .i64 (-1))) (zp:=[]) rfl hkey
   rw[hrun]
   by_cases hex:∃k,∃hk:k<es.length,es[k].name=s
   ·
    obtain⟨k,hk,he⟩:=hex
    have h2:=hd.at_ es[k] (ql hk) (.lit (.int .i64 (-1)))
    rw[show qeg es[k]=s.data.toList by unfold qeg;rw[he]] at h2
    rw[h2] at hv
    rw[ptE_some hv,qer hk he h.names]
   ·
    have hno:∀e∈es,e.name≠s:=fun e he hn=>by
     obtain⟨k,hk,rfl⟩:=zl he
     exact hex ⟨k,hk,hn⟩
    have hf:Maps.has D (.string s.data.toList)=false:=by
     rw[hd.has,decide_eq_false_iff_not]
     intro hm
     obtain⟨a,ha,hk⟩:=za.1 hm
     exact hno a ha (key_inj hk)
    rw[atKey_of_not_has hf] at hv
    rw[ptE_none hv,qlo hno]
 ·
  intro ty
  cases mb with
  | none =>
   have:es=[]:=hm
   subst this
   exact len_nil Tryz.underlying75 ty
  | some B =>
   obtain⟨-, -, -,D,hown,hd⟩:=hm
   rw[hown.len Tryz.underlying75 ty,hd.size]
theorem qkf{w:World}{lo C:Nat}{M:Nat→Prop}{es:List En}(h:CatE w lo M C es)(s:ByteArray)(hs:s.size≤9223372036854775807) :
  Calls Tryz.prog 37 #[.pointer (some ⟨C,0,none⟩),.string s] w fun r w'=>r= .returned (.pointer (ptOf es s))∧w=w':=by
 obtain⟨mb,hb,hm,hrun, -⟩:=find_run h s hs
 have c0:w.cell? ⟨C,0,none⟩=some (.map mb):=hb.cell 0
 generalize ptOf es s=p at *
 clear h hb hm
 go_enter Tryz.func37,Tryz.ntmps37
 go_wp2_with fail
 go_ret
 exact⟨rfl,rfl⟩
def qfc(es:List En)(s:ByteArray):Int:=if ¬(1≤s.size∧s.size≤32) then 1 else if (ptOf es s).isSome then 7 else if 16≤es.length then 6 else 0
theorem free_v{w:World}{lo C:Nat}{M:Nat→Prop}{es:List En}(h:CatE w lo M C es)(s:ByteArray)(hs:s.size≤9223372036854775807) :
  Calls Tryz.prog 33 #[.pointer (some ⟨C,0,none⟩),.string s] w fun r w'=>r= .returned (.int .i64 (qfc es s))∧w=w':=by
 obtain⟨mb,hb,hm,hrun,hlen⟩:=find_run h s hs
 have c0:w.cell? ⟨C,0,none⟩=some (.map mb):=hb.cell 0
 have HF:=qa (qkf h s hs)
 have hfew:=h.few
 obtain⟨v,hv⟩:∃v,qfc es s=v:=⟨_,rfl⟩
 rw[hv]
 unfold qfc at hv
 generalize ptOf es s=p at *
 have HV:=qa hv
 clear h hb hm hrun hv
 go_enter Tryz.func33,Tryz.ntmps33
 by_cases h1:s.size=0
 ·
  have i1:(s.size:Int)=0:=by omega
  have HV1:Hid (v=1):=by
   unfold Hid
   rw[←HV.out,if_pos (by omega)]
  clear HV hlen
  go_wp2_with fail
  go_ret
  rw[HV1.out]
  exact⟨rfl,rfl⟩
 have i1:¬(s.size:Int)=0:=by omega
 by_cases h2:32<s.size
 ·
  have i2:(32:Int)<(s.size:Int):=by omega
  have HV1:Hid (v=1):=by
   unfold Hid
   rw[←HV.out,if_pos (by omega)]
  clear HV hlen
  go_wp2_with fail
  go_ret
  rw[HV1.out]
  exact⟨rfl,rfl⟩
 have i2:¬(32:Int)<(s.size:Int):=by omega
 have HV2:Hid ((if p.isSome then (7:Int) else if 16≤es.length then 6 else 0)=v):=by
  unfold Hid
  rw[←HV.out]
  rw[if_neg (c:=¬(1≤s.size∧s.size≤32)) (by omega)]
 have HLN:=qa hlen
 clear HV hlen
 go_wp2_with fail
 refine HF.out.mono ?_
 rintro r w1 ⟨rfl,rfl⟩
 clear HF
 cases p with
 | some a =>
  have HV1:Hid (v=7):=HV2.out.symm
  clear HV2
  go_wp2_with fail
  go_ret
  rw[HV1.out]
  exact⟨rfl,rfl⟩
 | none =>
  have hlen:=HLN.out
  clear HLN
  by_cases h3:16≤es.length
  ·
   have i3:(16:Int)≤(es.length:Int):=by omega
   have HV1:Hid (v=6):=by
    unfold Hid
    rw[←HV2.out]
    simp[h3]
   clear HV2
   go_wp2_with fail
   go_ret
   rw[HV1.out]
   exact⟨rfl,rfl⟩
  ·
   have i3:¬(16:Int)≤(es.length:Int):=by omega
   have HV1:Hid (v=0):=by
    unfold Hid
    rw[←HV2.out]
    simp[h3]
   clear HV2
   go_wp2_with fail
   go_ret
   rw[HV1.out]
   exact⟨rfl,rfl⟩
section
variable {w w':World}{lo C:Nat}{M X S:Nat→Prop}{es:List En}
theorem CatE.more(h:CatE w lo M C es)(ho:Out w w' X)(hX:∀e∈es,∀k,e.S k→¬X k){B G n:Nat}{l:List Pt}{s:ByteArray}(hs:1≤s.size∧s.size≤32)(hn:∀e∈es,e.name≠s)(hf:es.length<16)
  (ht:TabM w lo S G n l) (hSX:∀k,S k→¬X k) (hok:TbOk n l) (hS:∀k,S k→¬M k) (hb:j8 w' C 77 #[.map (some B)]) (hB:M B∨w.heap.size≤B) (hBC:B≠C) (hBS:∀e∈es,¬e.S B) {D:DataW Unit}
  (hown:w'.ownsMap Tryz.prog 9 ptE B (es.length+1) D) (hd:Dir D (es++[⟨s,G,S,n,l⟩])):CatE w' lo (fun k=>M k∨S k∨k=B) C (es++[⟨s,G,S,n,l⟩]):=by
 have hlC:=(h.mine C h.own).1
 have hBlo:lo≤B:=hB.elim (fun h2=>(h.mine B h2).1) (fun h2=>by have:=h.lt;omega)
 have hSB:¬S B:=fun hs=>hB.elim (hS B hs) fun h2=>by have:=(ht.mine B hs).2;omega
 refine⟨fun e he => ?_,fun e he => ?_,fun i j hi hj hij => ?_,fun e he k hk => ?_,fun k hk => ?_,.inl h.own,by simp;omega,some B,hb,.inr (.inr rfl),hBC,fun e he => ?_,D,by simpa using hown,hd⟩
 ·
  rcases zn.1 he with he | he
  ·
   exact(h.tabs e he).out ho (hX e he)
  ·
   obtain rfl:=q8.1 he
   exact ht.out ho hSX
 ·
  rcases zn.1 he with he | he
  ·
   exact h.ok e he
  ·
   obtain rfl:=q8.1 he
   exact⟨hok,hs⟩
 ·
  rw[qd,zx] at hi hj
  by_cases hi2:i<es.length
  ·
   rw[j6 hi2]
   by_cases hj2:j<es.length
   ·
    rw[j6 hj2]
    exact h.apart i j hi2 hj2 hij
   ·
    obtain rfl:j=es.length:=by omega
    rw[xh (qc _)]
    simp only[qbt,xj]
    exact⟨hn _ (ql hi2),fun k hk hs=>hS k hs (h.sub _ (ql hi2) k hk).1⟩
  ·
   obtain rfl:i=es.length:=by omega
   have hj2:j<es.length:=by omega
   rw[j6 hj2,xh (qc _)]
   simp only[qbt,xj]
   exact⟨fun e=>hn _ (ql hj2) e.symm,fun k hs hk=>hS k hs (h.sub _ (ql hj2) k hk).1⟩
 ·
  rcases zn.1 he with he | he
  ·
   exact⟨.inl (h.sub e he k hk).1,(h.sub e he k hk).2⟩
  ·
   obtain rfl:=q8.1 he
   exact⟨.inr (.inl hk),fun e=>hS k hk (by rw[e];exact h.own)⟩
 ·
  rcases hk with hk | hk | rfl
  ·
   exact⟨(h.mine k hk).1,zh (h.mine k hk).2 ho.size⟩
  ·
   exact⟨(ht.mine k hk).1,zh (ht.mine k hk).2 ho.size⟩
  ·
   exact⟨hBlo,hown.lt⟩
 ·
  rcases zn.1 he with he | he
  ·
   exact hBS e he
  ·
   obtain rfl:=q8.1 he
   exact hSB
theorem CatE.less(h:CatE w lo M C es)(ho:Out w w' X)(hX:∀e∈es,∀k,e.S k→¬X k){B k:Nat}(hk:k<es.length)(hb:j8 w' C 77 #[.map (some B)])(hB:M B)(hBC:B≠C)(hBS:∀e∈es,¬e.S B){D:DataW Unit}
  (hown:w'.ownsMap Tryz.prog 9 ptE B (es.length-1) D) (hd:Dir D (es.eraseIdx k)):CatE w' lo M C (es.eraseIdx k):=by
 have hm:∀e∈es.eraseIdx k,e∈es:=fun e he=>by
  obtain⟨i,hi,_,rfl⟩:=(qgz hk).1 he
  exact ql hi
 have hl:(es.eraseIdx k).length=es.length-1:=List.length_eraseIdx_of_lt hk
 refine⟨fun e he=>(h.tabs e (hm e he)).out ho (hX e (hm e he)),fun e he=>h.ok e (hm e he),fun i j hi hj hij => ?_,fun e he=>h.sub e (hm e he),fun k hk=>⟨(h.mine k hk).1,zh (h.mine k hk).2 ho.size⟩,h.own,by rw[hl];have:=h.few;omega,some B,hb,hB,hBC,fun e he=>hBS e (hm e he),D,by rw[hl];exact hown,hd⟩
 rw[hl] at hi hj
 rw[List.getElem_eraseIdx,List.getElem_eraseIdx]
 split <;> split <;> exact h.apart _ _ _ _ (by omega)
end
theorem put_v{w:World}{lo C G n:Nat}{M S:Nat→Prop}{es:List En}{l:List Pt}(h:CatE w lo M C es)(s:ByteArray)(hs:1≤s.size∧s.size≤32)(hn:∀e∈es,e.name≠s)(hf:es.length<16)(ht:TabM w lo S G n l)(hok:TbOk n l)(hS:∀k,S k→¬M k) :
  Calls Tryz.prog 34 #[.pointer (some ⟨C,0,none⟩),.string s,.pointer (some ⟨G,0,none⟩)] w fun r w'=>r= .returned (.tuple #[])∧∃M',CatE w' lo M' C (es++[⟨s,G,S,n,l⟩])∧Out w w' M∧∀k,M' k→M k∨S k∨w.heap.size≤k:=by
 obtain⟨mb,hb,hm⟩:=h.map
 have c0:w.cell? ⟨C,0,none⟩=some (.map mb):=hb.cell 0
 have f0:=hb.frozen 0
 have HH:=qa h
 have HT:=qa ht
 have HOK:=qa hok
 have HS:=qa hS
 have HN:=qa hn
 have HB:=qa hb
 have HM:=qa hm
 have HKEY:=qa (keyOf_string_mk (P:=Tryz.prog) Tryz.underlying9 (s:=s) (by unfold maxLen;omega))
 have hCl:=h.lt
 have qn:∀w:World,(binOp .eql 75 (.map none) (.map none)).run Tryz.prog w= .ok (.bool true) w:=fun w=>run_eql_map_nil w _ _ _ none Tryz.underlying75
 have qs:∀(w:World) (r:Nat),(binOp .eql 75 (.map (some r)) (.map none)).run Tryz.prog w= .ok (.bool false) w:=fun w r=>run_eql_map_nil w _ _ _ (some r) Tryz.underlying75
 clear h ht hok hS hn hb hm
 cases mb with
 | none =>
  obtain rfl:es=[]:=HM.out
  have hmm:=@run_makeMap Tryz.prog
  obtain⟨w1,hw1⟩:∃x,(w.alloc (.map #[] 0)).setCell ⟨C,0,none⟩ (.map (some w.heap.size))=x:=⟨_,rfl⟩
  have HO1:Hid (Out w w1 (fun k=>k=C)):=by unfold Hid;rw[←hw1];exact((Out.refl w (fun k=>k=C)).alloc _).setCell (.inl rfl) _
  have HM1:Hid (w1.ownsMap Tryz.prog 9 ptE w.heap.size 0 (.map [])):=by unfold Hid;rw[←hw1];exact(World.ownsMap_made w Tryz.prog 9 ptE).setCell (by show w.heap.size≠C;omega) _
  have HB1:Hid (j8 w1 C 77 #[.map (some w.heap.size)]):=by unfold Hid;rw[←hw1];exact(HB.out.alloc _).put 0 _
  have c1:w1.cell? ⟨C,0,none⟩=some (.map (some w.heap.size)):=HB1.out.cell 0
  go_enter Tryz.func34,Tryz.ntmps34
  go_wp2_with (at_mapUpdate;refine qbj ?_)
  refine⟨?_⟩
  try rw[hw1]
  clear hmm hw1
  go_wp2_with (at_mapUpdate;refine wpList_mapUpdate_own _ rfl _ _ _ 75 rfl 9 80 Tryz.keyS Tryz.underlying75 ptE w.heap.size 0 _ rfl HM1.out (by unfold maxLen;omega) _ _ _ rfl rfl HKEY.out (.lit (.int .i64 (G:Int))) [] rfl ?_;refine qbj ?_)
  refine⟨?_⟩
  intro w2 hm2 hg2
  have HO2:Hid (Out w w2 (fun k=>k=C∨k=w.heap.size)):=(Out.trans (X:=fun k=>k=C∨k=w.heap.size) ⟨HO1.out.os,HO1.out.tape,HO1.out.output,HO1.out.size,fun k hk hx=>HO1.out.block k hk fun e=>hx (.inl e)⟩ (Out.of_gb (X:=fun k=>k=w.heap.size) hg2 (fun k hk=>(zy hk).symm)) fun k _ hk=> .inr hk)
  have HD:=qa (Dir.nil.put tidy_empty ⟨s,G,S,n,l⟩ (fun a ha=>by cases ha))
  have HB2:Hid (j8 w2 C 77 #[.map (some w.heap.size)]):=HB1.out.grown hg2 (fun e=>by injection e with e;omega)
  have HM2:Hid (w2.ownsMap Tryz.prog 9 ptE w.heap.size 1 _):=hm2
  clear hm2 hg2 HM1
  go_wp2_with fail
  go_end0
  refine⟨rfl,_,HH.out.more HO2.out (fun e he=>by cases he) hs HN.out (by simp) HT.out (fun k hk hx => ?_) HOK.out HS.out HB2.out (.inr (qc _)) (by omega) (fun e he=>by cases he) HM2.out HD.out,⟨HO2.out.os,HO2.out.tape,HO2.out.output,HO2.out.size,fun k hk hx=>HO2.out.block k hk fun e=>e.elim (fun e=>hx (by rw[e];exact HH.out.own)) (fun e=>by omega)⟩,fun k hk => ?_⟩
  ·
   rcases hx with rfl | rfl
   ·
    exact HS.out _ hk HH.out.own
   ·
    have:=(HT.out.mine _ hk).2;omega
  ·
   rcases hk with hk | hk | hk
   ·
    exact .inl hk
   ·
    exact .inr (.inl hk)
   ·
    exact .inr (.inr (by omega))
 | some B =>
  obtain⟨hB1,hB2,hB3,D,hown,hd⟩:=HM.out
  have HO:=qa hown
  have HD:=qa (hd.put (hown.tidy Tryz.keyS) ⟨s,G,S,n,l⟩ HN.out)
  have HB3:=qa hB3
  have HB1:=qa hB1
  have HB2:=qa hB2
  have hlt:=HH.out.few
  clear hown hd hB1 hB2 hB3 HM
  go_enter Tryz.func34,Tryz.ntmps34
  go_wp2_with (at_mapUpdate;refine wpList_mapUpdate_own _ rfl _ _ _ 75 rfl 9 80 Tryz.keyS Tryz.underlying75 ptE B _ _ rfl HO.out (by unfold maxLen;omega) _ _ _ rfl rfl HKEY.out (.lit (.int .i64 (G:Int))) [] rfl ?_;refine qbj ?_)
  refine⟨?_⟩
  intro w2 hm2 hg2
  have HO2:Hid (Out w w2 (fun k=>k=B)):=Out.of_gb (X:=fun k=>k=B) hg2 (fun k hk=>(zy hk).symm)
  have HBK:Hid (j8 w2 C 77 #[.map (some B)]):=HB.out.grown hg2 (fun e=>HB2.out (zy e).symm)
  have HM2:=qa hm2
  clear hm2 hg2
  go_wp2_with fail
  go_end0
  refine⟨rfl,_,HH.out.more HO2.out (fun e he k hk hx=>HB3.out e he (by rw[←hx];exact hk)) hs HN.out hf HT.out (fun k hk hx=>HS.out k hk (by rw[hx];exact HB1.out)) HOK.out HS.out HBK.out (.inl HB1.out) HB2.out HB3.out HM2.out HD.out,⟨HO2.out.os,HO2.out.tape,HO2.out.output,HO2.out.size,fun k hk hx=>HO2.out.block k hk fun e=>hx (by rw[e];exact HB1.out)⟩,fun k hk => ?_⟩
  rcases hk with hk | hk | hk
  ·
   exact .inl hk
  ·
   exact .inr (.inl hk)
  ·
   exact .inl (by rw[hk];exact HB1.out)
def qex(es:List En)(s:ByteArray)(cols:Int):Int:=if cols<1∨8<cols then 1 else qfc es s
theorem free_zero{es:List En}{s:ByteArray}(h:qfc es s=0):(1≤s.size∧s.size≤32)∧(∀e∈es,e.name≠s)∧es.length<16:=by
 unfold qfc at h
 split at h
 ·
  exact absurd h (by decide)
 ·
  rename_i h1
  split at h
  ·
   exact absurd h (by decide)
  ·
   rename_i h2
   split at h
   ·
    exact absurd h (by decide)
   ·
    rename_i h3
    refine⟨Decidable.not_not.1 h1,fun e he hn=>h2 ?_,by omega⟩
    unfold ptOf
    rw[Option.isSome_map,List.find?_isSome]
    exact⟨e,he,by simpa using hn⟩
theorem TabM.new(w:World)(n:Nat):TabM (w.alloc (.cells #[.int .i64 (n:Int),.int .i64 0,.slice none 0 0] 82)) w.heap.size (fun k=>k=w.heap.size) w.heap.size n [] :=
 ⟨⟨none,0,[],j8.new w _ _,zj _ _ _ _,⟨rfl,fun j hj=>absurd hj (jm j)⟩,fun k hk=>by cases hk⟩,rfl,fun k hk=>by subst hk;simp⟩
theorem TabM.lower{w:World}{lo lo' G n:Nat}{S:Nat→Prop}{l:List Pt}(h:TabM w lo S G n l)(hl:lo'≤lo):TabM w lo' S G n l:=by
 obtain⟨A,c,xs,h1,h2,h3,h4⟩:=h.at_
 exact⟨⟨A,c,xs,h1,j9 h2 hl,h3,h4⟩,h.own,fun k hk=>⟨zc hl (h.mine k hk).1,(h.mine k hk).2⟩⟩
theorem TbOk.nil{n:Nat}(h:1≤n∧n≤8):TbOk n []:=⟨h,fun p hp=>(by cases hp),fun p hp=>(by cases hp),by simp[ui]⟩
def CreR(w w':World)(lo C:Nat)(M:Nat→Prop)(es:List En)(s:ByteArray)(cols v:Int):Prop:=(v≠0∧w=w')∨(v=0∧∃M' g S,CatE w' lo M' C (es++[⟨s,g,S,cols.toNat,[]⟩])∧Step w w' M M')
theorem qhl{w:World}{lo C:Nat}{M:Nat→Prop}{es:List En}(h:CatE w lo M C es)(s:ByteArray)(hs:s.size≤9223372036854775807)(cols:Int) :
  Calls Tryz.prog 13 #[.pointer (some ⟨C,0,none⟩),.string s,.int .i64 cols] w fun r w'=>r= .returned (.int .i64 (qex es s cols))∧CreR w w' lo C M es s cols (qex es s cols):=by
 have HF:=qa (free_v h s hs)
 have HH:=qa h
 obtain⟨v,hv⟩:∃v,qex es s cols=v:=⟨_,rfl⟩
 rw[hv]
 unfold qex at hv
 have HV:=qa hv
 clear h hv
 go_enter Tryz.func13,Tryz.ntmps13
 by_cases h1:cols<1
 ·
  have HV1:Hid (v=1):=by
   unfold Hid
   rw[←HV.out,if_pos (.inl h1)]
  clear HV
  go_wp2_with fail
  go_ret
  rw[HV1.out]
  exact⟨rfl,.inl ⟨by decide,rfl⟩⟩
 by_cases h2:8<cols
 ·
  have HV1:Hid (v=1):=by
   unfold Hid
   rw[←HV.out,if_pos (.inr h2)]
  clear HV
  go_wp2_with fail
  go_ret
  rw[HV1.out]
  exact⟨rfl,.inl ⟨by decide,rfl⟩⟩
 have HV2:Hid (qfc es s=v):=by
  unfold Hid
  rw[←HV.out,if_neg (by omega)]
 clear HV
 rw[HV2.out] at HF
 go_wp2_with fail
 refine HF.out.mono ?_
 rintro r w1 ⟨rfl,rfl⟩
 clear HF
 by_cases h3:v=0
 case neg =>
  go_wp2_with fail
  go_ret
  exact⟨rfl,.inl ⟨h3,rfl⟩⟩
 subst h3
 obtain⟨a1,a2,a3⟩:=free_zero HV2.out
 obtain⟨n,rfl⟩:∃n:Nat,cols=(n:Int):=⟨cols.toNat,by omega⟩
 have hbuild:∀W,(Instr.build 82 #[(0,.int .i64 (n:Int))]).run Tryz.prog W= .ok (.agg #[.int .i64 (n:Int),.int .i64 0,.slice none 0 0]) W:=fun W=>run_build W _ _ _ (by kernel_rfl)
 have hlo:lo≤w.heap.size:=by have:=(HH.out.mine C HH.out.own).1;have:=HH.out.lt;omega
 obtain⟨w2,hw2⟩:∃x,w.alloc (.cells #[.int .i64 (n:Int),.int .i64 0,.slice none 0 0] 82)=x:=⟨_,rfl⟩
 have b2:Below w.heap.size w w2:=by rw[←hw2];exact(Below.refl _ w).alloc (qc _) _
 have ht:TabM w2 lo (fun k=>k=w.heap.size) w.heap.size n []:=by rw[←hw2];exact(TabM.new w n).lower hlo
 have HP:=qa (put_v (HH.out.below b2) s a1 a2 a3 ht (TbOk.nil (by omega)) (fun k hk hm=>by have:=(HH.out.mine k hm).2;omega))
 have HB2:=qa b2
 clear b2 ht a1 a2 a3
 go_wp2_with fail
 try rw[hw2]
 clear hw2 hbuild
 refine HP.out.mono ?_
 rintro r w3 ⟨rfl,M',hc,ho,hm⟩
 have HC:=qa hc
 have HO:=qa ho
 have HM:=qa hm
 clear hc ho hm HP
 go_wp2_with fail
 go_ret
 refine⟨rfl,.inr ⟨rfl,M',_,_,by rw[kf];exact HC.out,⟨(Out.of_below HB2.out).trans HO.out (fun _ _ h=>h),fun k hk => ?_⟩⟩⟩
 rcases HM.out k hk with h | h | h
 ·
  exact .inl h
 ·
  exact .inr (by omega)
 ·
  exact .inr (zc HB2.out.size h)
theorem drop_yes{w:World}{lo C:Nat}{M:Nat→Prop}{es:List En}(h:CatE w lo M C es)(s:ByteArray){k:Nat}(hk:k<es.length)(he:es[k].name=s) :
  Calls Tryz.prog 16 #[.pointer (some ⟨C,0,none⟩),.string s] w fun r w'=>r= .returned (.int .i64 0)∧CatE w' lo M C (es.eraseIdx k)∧Out w w' M:=by
 have hsz:=(h.ok _ (ql hk)).2
 rw[he] at hsz
 have hf:=qkf h s (by omega)
 rw[qer hk he h.names] at hf
 have HF:=qa hf
 have HH:=qa h
 have HKEY:=qa (keyOf_string_mk (P:=Tryz.prog) Tryz.underlying9 (s:=s) (by unfold maxLen;omega))
 obtain⟨mb,hb,hm⟩:=h.map
 have c0:w.cell? ⟨C,0,none⟩=some (.map mb):=hb.cell 0
 have HB:=qa hb
 cases mb with
 | none =>
  have:es=[]:=hm
  subst this
  exact absurd hk (jm _)
 | some B =>
  obtain⟨hB1,hB2,hB3,D,hown,hd⟩:=hm
  have HO:=qa hown
  have hd2:=hd.del (hown.tidy Tryz.keyS) hk h.names
  rw[show qeg es[k]=s.data.toList by unfold qeg;rw[he]] at hd2
  have HD:=qa hd2
  have HB3:=qa hB3
  have HB1:=qa hB1
  have HB2:=qa hB2
  obtain⟨g,hg⟩:∃g,es[k].g=g:=⟨_,rfl⟩
  rw[hg] at HF
  have HK:=qa hk
  clear hown hd hd2 hB1 hB2 hB3 hb hf h hk he hg hsz
  go_enter Tryz.func16,Tryz.ntmps16
  go_wp2_with fail
  refine HF.out.mono ?_
  rintro r w1 ⟨rfl,rfl⟩
  clear HF
  go_wp2_with (at_delete;refine wpList_delete_own _ rfl _ _ 75 9 rfl 80 Tryz.keyS Tryz.underlying75 ptE B _ _ rfl HO.out _ _ rfl HKEY.out ?_;refine qbj ?_)
  refine⟨?_⟩
  intro w2 hm2 ht2
  have hg2:=ht2.grown
  have HO2:Hid (Out w w2 (fun k=>k=B)):=Out.of_gb (X:=fun k=>k=B) hg2 (fun k hk=>(zy hk).symm)
  have HBK:Hid (j8 w2 C 77 #[.map (some B)]):=HB.out.grown hg2 (fun e=>HB2.out (zy e).symm)
  have hm3:=own_tight hm2
  rw[HD.out.size,List.length_eraseIdx_of_lt HK.out] at hm3
  have HM2:=qa hm3
  clear hm2 hm3 hg2 ht2
  go_wp2_with fail
  go_ret
  exact⟨rfl,HH.out.less HO2.out (fun e he k hk hx=>HB3.out e he (by rw[←hx];exact hk)) HK.out HBK.out HB1.out HB2.out HB3.out HM2.out HD.out,⟨HO2.out.os,HO2.out.tape,HO2.out.output,HO2.out.size,fun k hk hx=>HO2.out.block k hk fun e=>hx (by rw[e];exact HB1.out)⟩⟩
end
def uy(w:World)(base:Nat)(o:Option Nat)(xs:List Value)(rs:List (List Vl)):Prop:=xs.length=rs.length∧∀j (hj:j<rs.length),∃A c,xs[j]? = some (.slice A rs[j].length c)∧w.ownsRow base 72 2 (.slice A rs[j].length c) rs[j].length (vv rs[j])∧∀q,(Value.slice A rs[j].length c).ownBlock=some q→o≠some q
theorem uy.nil(w:World)(base:Nat)(o:Option Nat):uy w base o [] []:=⟨rfl,fun j hj=>absurd hj (jm j)⟩
theorem uy.step{w w':World}{base:Nat}{o o':Option Nat}{xs:List Value}{rs:List (List Vl)}(h:uy w base o xs rs)(hg:w.grownBy w' o)(ho:o'=o∨o'=some w.heap.size):uy w' base o' xs rs:=by
 refine⟨h.1,fun j hj => ?_⟩
 obtain⟨A,c,h1,h2,h3⟩:=h.2 j hj
 refine⟨A,c,h1,jw h2 fun k hk=>hg.block k (zk h2 hk).2 (fun e=>h3 k hk e.symm),fun q hq => ?_⟩
 have:=(zk h2 hq).2
 rcases ho with ho | ho
 ·
  rw[ho];exact h3 q hq
 ·
  rw[ho];intro e;injection e with e;omega
theorem uy.below{w w':World}{base:Nat}{o:Option Nat}{xs:List Value}{rs:List (List Vl)}(h:uy w base o xs rs)(hb:Below w.heap.size w w'):uy w' base o xs rs:=by
 refine⟨h.1,fun j hj => ?_⟩
 obtain⟨A,c,h1,h2,h3⟩:=h.2 j hj
 exact⟨A,c,h1,ji h2 hb (qc _),h3⟩
theorem uy.snoc{w:World}{base:Nat}{o:Option Nat}{xs:List Value}{rs:List (List Vl)}(h:uy w base o xs rs){A:Option Addr}{c:Nat}{r:List Vl}(hr:w.ownsRow base 72 2 (.slice A r.length c) r.length (vv r))(hq:∀q,(Value.slice A r.length c).ownBlock=some q→o≠some q) :
  uy w base o (xs++[.slice A r.length c]) (rs++[r]):=by
 refine⟨by rw[qd,qd,h.1];rfl,fun j hj => ?_⟩
 by_cases hlt:j<rs.length
 ·
  rw[ju (by rw[h.1];exact hlt)]
  simp only[j6 hlt]
  exact h.2 j hlt
 ·
  rw[qd,zx] at hj
  obtain rfl:j=rs.length:=by omega
  refine⟨A,c,?_,?_,?_⟩
  ·
   rw[yl (by rw[h.1];exact qc _),h.1]
   simp
  ·
   simpa using hr
  ·
   simpa using hq
theorem uy.rows{w:World}{base n c:Nat}{A:Option Addr}{xs:List Value}{rs:List (List Vl)}{o:Option Nat}(h:uy w base o xs rs)(hx:w.ownsRow base 73 1 (.slice A n c) n xs)(hs:∀r∈rs,∀v∈r,v.s.size≤9223372036854775807):ka w base w.heap.size A c rs :=
 qek.rows ⟨h.1,fun j hj=>by
  obtain⟨A',c',h1,h2,_⟩:=h.2 j hj
  exact⟨A',c',h1,row_own h2 rfl (hs _ (ql hj))⟩⟩ (Rd.of_own hx)
theorem append_row1{w:World}{base n:Nat}{v:Value}{xs:List Value}(hown:w.ownsRow base 73 1 v n xs){g:Nat}{u:Value}(hc:w.cell? ⟨g,0,none⟩=some u)(hg:g<w.heap.size)(h1:u.oneCell'=true)(hb:n+1≤1000000)(hbase:base≤w.heap.size) :
  ∃A' c' w',(Builtin.append_ #[28,28] 28 #[v,.slice (some ⟨g,0,none⟩) 1 1]).run Tryz.prog w= .ok (.slice A' (n+1) c') w'∧w'.ownsRow base 73 1 (.slice A' (n+1) c') (n+1) (xs++[u])∧w.grownBy w' v.ownBlock∧
   ((Value.slice A' (n+1) c').ownBlock=v.ownBlock∨(Value.slice A' (n+1) c').ownBlock=some w.heap.size):=by
 obtain⟨i0,hi0,hz0,hz1,hz2⟩:=info_parts Tryz.infoRow
 have hr:Rd w 0 w.heap.size (some ⟨g,0,none⟩) 1 [u]:=⟨by simp,by simp[maxLen],fun _=>⟨g,0,rfl,qj _,hg,fun j y hj=>by
  match j,hj with
  | 0,hj=>simp at hj;subst hj;exact hc
  | j+1,hj=>simp at hj⟩⟩
 exact ky (P:=Tryz.prog) w base 28 28 73 i0 _ 24 Tryz.underlying28 hi0 hz0 hz1 hz2 rfl v n xs hown 0 _ _ 1 [u] hr (fun y hy=>by rw[q8.1 hy];exact h1) (by simp only[maxLen,zx];omega) (by simp;omega) hbase
theorem rowS_size{g:GrpS}{n:Nat}(h:g.Ok n){i:Nat}:∀v∈qjd g.cols i,v.s.size≤4096:=fun v hv=>by
 obtain⟨c,hc,rfl⟩:=za.1 hv
 have h1:=vals_fits (h.cols c hc).ck
 rw[List.getD]
 cases h2:(qaj c.ck)[i]? with
 | none=>exact qj _
 | some u=>exact(h1.2 u (List.mem_of_getElem? h2)).1
theorem rowsS_size{n:Nat}{gs:List GrpS}(h:SegOk n gs):∀r∈qd7 gs,∀v∈r,v.s.size≤4096:=fun r hr v hv=>by
 obtain⟨l,hl,hr⟩:=List.mem_flatten.1 hr
 obtain⟨g,hg,rfl⟩:=za.1 hl
 obtain⟨i,_,rfl⟩:=za.1 hr
 exact rowS_size (h.grp g hg) v hv
theorem rowsS_width{n:Nat}{gs:List GrpS}(h:SegOk n gs):∀r∈qd7 gs,r.length=n:=fun r hr=>by
 obtain⟨l,hl,hr⟩:=List.mem_flatten.1 hr
 obtain⟨g,hg,rfl⟩:=za.1 hl
 obtain⟨i,_,rfl⟩:=za.1 hr
 rw[qe3]
 exact(h.grp g hg).len
def qia(g:GrpS)(i:Nat):List (List Vl):=(List.range i).map (qjd g.cols)
theorem rowsK_succ(g:GrpS)(i:Nat):qia g (i+1)=qia g i++[qjd g.cols i]:=by simp[qia,List.range_succ]
theorem sgrows_v{w:World}{lo G n:Nat}{gs:List GrpS}(h:qla w lo G n gs)(ho:SegOk n gs){T:Nat}(hT:vi gs=T) :
  Calls Tryz.prog 44 #[.pointer (some ⟨G,0,none⟩)] w fun r w'=>∃A' c' xs,r= .returned (.slice A' T c')∧w'.ownsRow w.heap.size 73 1 (.slice A' T c') T xs∧uy w' w.heap.size (Value.slice A' T c').ownBlock xs (qd7 gs)∧Below w.heap.size w w':=by
 obtain⟨rs,A,c,rfl,hb,hlo,hels,hgr⟩:=h
 have hr4:=ho.rows
 have q1:w.cell? ⟨G,1,none⟩=some (.slice A rs.length c):=by have:=hb.cell 1;simpa using this
 have hl:=hels.len
 have hc:=hels.cap
 unfold maxLen at hc
 have HE:Hid (∀W,Below w.heap.size w W→∀j (hj:j<rs.length),∃b off,A=some ⟨b,off,none⟩∧b<w.heap.size∧W.cell? ⟨b,off+j*3,none⟩=some (.int .i64 (rs[j].rows:Int))∧W.cell? ⟨b,off+j*3+1,none⟩=some (.slice rs[j].fA rs[j].its.length rs[j].fc)∧W.cell? ⟨b,off+j*3+2,none⟩=some (.slice rs[j].kA rs[j].its.length rs[j].kc)):=fun W hW j hj=>by
  obtain⟨b,off,e,h1,h2,h3,h4,h5⟩:=hels.grp hj
  exact⟨b,off,e,h2,(hW.cell h2).trans h3,(hW.cell h2).trans h4,(hW.cell h2).trans h5⟩
 have HG:Hid (∀W,Below w.heap.size w W→∀j (hj:j<rs.length),GrM W lo rs[j]):=fun W hW j hj=>(hgr _ (ql hj)).below hW
 have HOK:Hid (∀j (hj:j<rs.length),(rs[j].toS).Ok n):=fun j hj=>ho.grp _ (vx (ql hj))
 have hn8:=ho.eight
 obtain⟨N,hN⟩:∃N:Nat→Nat,∀i,vi ((rs.map Gr.toS).take i)=N i:=⟨_,fun _=>rfl⟩
 obtain⟨R,hR⟩:∃R:Nat→List (List Vl),∀i,qd7 ((rs.map Gr.toS).take i)=R i:=⟨_,fun _=>rfl⟩
 have HN:Hid (∀i (hi:i<rs.length),N (i+1)=N i+rs[i].rows):=fun i hi=>by
  rw[←hN,←hN,rowsT_take (by simpa using hi)]
  simp[Gr.toS]
 have HR:Hid (∀i (hi:i<rs.length),R (i+1)=R i++qia rs[i].toS rs[i].rows):=fun i hi=>by
  rw[←hR,←hR,qi (by simpa using hi),rowsS_snoc]
  simp[qia,rowsG,Gr.toS]
 have HM:Hid (∀i,N i≤vi (rs.map Gr.toS)):=fun i=>by rw[←hN];exact rowsT_le _ _
 have HZ:Hid (N 0=0∧R 0=[]):=⟨by rw[←hN];rfl,by rw[←hR];rfl⟩
 have HF:Hid (N rs.length=vi (rs.map Gr.toS)∧R rs.length=qd7 (rs.map Gr.toS)):=⟨by rw[←hN,qp (by simp)],by rw[←hR,qp (by simp)]⟩
 rw[hT] at HM HF hr4
 generalize qd7 (rs.map Gr.toS)=RR at *
 clear hb hels hgr ho hN hR hT
 go_enter Tryz.func44,Tryz.ntmps44
 go_wp2_with fail
 go_loopw [3,14] (fun x3 x14 wr=>∃(k p:Nat) (A':Option Addr) (c':Nat) (xs:List Value),k≤rs.length∧x14= .int .i64 (k:Int)∧x3= .slice A' p c'∧Hid (N k=p)∧Hid (wr.ownsRow w.heap.size 73 1 (.slice A' p c') p xs)∧Hid (uy wr w.heap.size (Value.slice A' p c').ownBlock xs (R k))∧Below w.heap.size w wr) (fun _ x14 _=>rs.length-(intOf x14).toNat)
 case atStart=>exact⟨0,0,none,0,[],qj _,rfl,rfl,HZ.out.1,zj _ _ _ _,by unfold Hid;rw[HZ.out.2];exact uy.nil _ _ _,Below.refl _ _⟩
 case round =>
  obtain⟨k,p,A',c',xs,hkl,rfl,rfl,HP,HO,HX,hb⟩:=hrel
  obtain⟨wk,hwk⟩:∃wk,wk=wr:=⟨_,rfl⟩
  subst hwk
  have HB:=qa hb
  have hsz:=hb.size
  clear hb
  by_cases hlt:k<rs.length
  ·
   have ik:(k:Int)<(rs.length:Int):=by omega
   obtain⟨b,off,rfl,hbl,e0,e1,e2⟩:=HE.out wk HB.out k hlt
   have HN1:=qa (HN.out k hlt)
   have hn2:=HM.out (k+1)
   have hT:T≤4096:=hr4
   have HGK:=qa (fun W hW=>HG.out W hW k hlt)
   have HKO:=qa (HOK.out k hlt)
   have HRK:=qa (HR.out k hlt)
   obtain⟨r,hr⟩:∃r,rs[k]=r:=⟨_,rfl⟩
   rw[hr] at e0 e1 e2 HN1 HGK HKO HRK
   have hil:r.its.length=n:=by have:=HKO.out.len;simpa[Gr.toS] using this
   rw[hil] at e1 e2
   have HIT:Hid (∀t∈r.its,t.c.Ok r.rows):=fun t ht=>HKO.out.cols t.c (vx ht)
   obtain⟨w2,hw2⟩:∃w2,wk.alloc (.cells #[.int .i64 (r.rows:Int),.slice r.fA n r.fc,.slice r.kA n r.kc] 128)=w2:=⟨_,rfl⟩
   have HB2:Hid (Below w.heap.size w w2):=by unfold Hid;rw[←hw2];exact HB.out.alloc hsz _
   have hgb:j8 w2 wk.heap.size 128 #[.int .i64 (r.rows:Int),.slice r.fA n r.fc,.slice r.kA n r.kc]:=by rw[←hw2];exact j8.new wk _ _
   have B2:Below wk.heap.size wk w2:=by rw[←hw2];exact(Below.refl _ wk).alloc (qc _) _
   have hs2:w2.heap.size=wk.heap.size+1:=by rw[←hw2];simp
   have hm4:r.rows≤4096:=by have:=HN1.out;omega
   have HO2:Hid (w2.ownsRow w.heap.size 73 1 (.slice A' p c') p xs):=ji HO.out B2 (qc _)
   have HX2:Hid (uy w2 w.heap.size (Value.slice A' p c').ownBlock xs (R k++qia r.toS 0)):=by
    unfold Hid
    rw[show qia r.toS 0=[] from rfl,jd]
    exact HX.out.below B2
   have hob:∀q,(Value.slice A' p c').ownBlock=some q→q≠wk.heap.size:=fun q hq=>by have:=(zk HO.out hq).2;omega
   have HS:=qa (sgsize_v (w:=w2) r.rows hm4 r.fA r.kA n r.fc n r.kc)
   have p0:w2.cell? ⟨wk.heap.size,0,none⟩=some (.int .i64 (r.rows:Int)):=hgb.cell 0
   have p1:w2.cell? ⟨wk.heap.size,1,none⟩=some (.slice r.fA n r.fc):=hgb.cell 1
   have p2:w2.cell? ⟨wk.heap.size,2,none⟩=some (.slice r.kA n r.kc):=hgb.cell 2
   obtain⟨gB,hgB⟩:∃gB,wk.heap.size=gB:=⟨_,rfl⟩
   rw[hgB] at p0 p1 p2 hgb hob
   have HGB:=qa hgb
   have hszw2:=HB2.out.size
   clear hr HO HX
   go_wp2_with fail
   try rw[hw2]
   clear hw2 hgb B2
   go_wp2_with fail
   refine HS.out.mono ?_
   rintro res w3 ⟨rfl,hb3⟩
   have HB3:=qa (zz HB2.out hb3 hszw2)
   have HO3:=qa (ji HO2.out hb3 (qc _))
   have HX3:=qa (HX2.out.below hb3)
   have HGB3:=qa (HGB.out.below hb3 (by omega))
   have hszw3:=hb3.size
   have hgB3:gB<w3.heap.size:=by omega
   have hgBw:w.heap.size≤gB:=by omega
   clear hb3 HS HO2 HX2 HGB p0 p1 p2
   go_wp2_with fail
   go_loopw [3,20] (fun x3 x20 wr=>∃(i p2:Nat) (A':Option Addr) (c':Nat) (xs:List Value),i≤r.rows∧x20= .int .i64 (i:Int)∧x3= .slice A' p2 c'∧Hid (p+i=p2)∧Hid (wr.ownsRow w.heap.size 73 1 (.slice A' p2 c') p2 xs)∧Hid (uy wr w.heap.size (Value.slice A' p2 c').ownBlock xs (R k++qia r.toS i))∧Hid (j8 wr gB 128 #[.int .i64 (r.rows:Int),.slice r.fA n r.fc,.slice r.kA n r.kc])∧Hid (∀q,(Value.slice A' p2 c').ownBlock=some q→q≠gB)∧gB<wr.heap.size∧Below w.heap.size w wr) (fun _ x20 _=>r.rows-(intOf x20).toNat)
   case atStart=>exact⟨0,p,A',c',xs,qj _,rfl,rfl,rfl,HO3.out,HX3.out,HGB3.out,hob,hgB3,HB3.out⟩
   case round =>
    clear HO3 HX3 HGB3 HB3 hob hgB3 hszw3 HB2 hszw2 hs2
    obtain⟨i,p2,A',c',xs,hil2,rfl,rfl,HPI,HO,HX,HGB,HQ,hgl,hb⟩:=hrel
    obtain⟨wi,hwi⟩:∃wi,wi=wr:=⟨_,rfl⟩
    subst hwi
    have HBI:=qa hb
    have hszi:=hb.size
    clear hb
    by_cases hlti:i<r.rows
    ·
     have ii:(i:Int)<(r.rows:Int):=by omega
     have hgb:=HGB.out
     have p0:wi.cell? ⟨gB,0,none⟩=some (.int .i64 (r.rows:Int)):=hgb.cell 0
     have p1:wi.cell? ⟨gB,1,none⟩=some (.slice r.fA n r.fc):=hgb.cell 1
     have p2c:wi.cell? ⟨gB,2,none⟩=some (.slice r.kA n r.kc):=hgb.cell 2
     have HRW:=qa (sgrow_v (w:=wi) (HGK.out wi HBI.out) HIT.out i hlti (by rw[hil];omega))
     rw[hil] at HRW
     have HRE:Hid (R k++qia r.toS (i+1)=(R k++qia r.toS i)++[qjd (r.its.map It.c) i]):=by unfold Hid;rw[rowsK_succ,←qm];rfl
     have HRN:Hid ((qjd (r.its.map It.c) i).length=n):=by unfold Hid;rw[qe3,qz,hil]
     have hpn:p2+1≤4096:=by have:=HPI.out;have:=HP.out;have:=HN1.out;omega
     generalize qjd (r.its.map It.c) i=L at *
     clear hgb
     go_wp2_with fail
     refine HRW.out.mono ?_
     rintro res w4 ⟨A4,c4,rfl,ho4,hb4⟩
     have HB4:=qa (zz HBI.out hb4 hszi)
     have HO4:=qa (ji HO.out hb4 (qc _))
     have HX4:=qa (HX.out.below hb4)
     have HGB4:=qa (HGB.out.below hb4 hgl)
     have hs4:=hb4.size
     have hrb:∀q,(Value.slice A4 n c4).ownBlock=some q→wi.heap.size≤q:=fun q hq=>(zk ho4 hq).1
     have hrb2:∀q,(Value.slice A' p2 c').ownBlock=some q→q<wi.heap.size:=fun q hq=>(zk HO.out hq).2
     have HR4:Hid (w4.ownsRow w.heap.size 72 2 (.slice A4 L.length c4) L.length (vv L)):=by unfold Hid;rw[HRN.out];exact j9 ho4 hszi
     have HS4:Hid (uy w4 w.heap.size (Value.slice A' p2 c').ownBlock (xs++[.slice A4 L.length c4]) ((R k++qia r.toS i)++[L])):=HX4.out.snoc HR4.out (fun q hq e=>by
      rw[HRN.out] at hq
      have h1:=hrb q hq
      have h2:=hrb2 q e
      omega)
     rw[HRN.out,←HRE.out] at HS4
     obtain⟨w5,hw5⟩:∃w5,w4.alloc (.cells #[.slice A4 n c4] 73)=w5:=⟨_,rfl⟩
     have B5:Below w4.heap.size w4 w5:=by rw[←hw5];exact(Below.refl _ w4).alloc (qc _) _
     have hs5:w5.heap.size=w4.heap.size+1:=by rw[←hw5];simp
     have hc5:w5.cell? ⟨w4.heap.size,0,none⟩=some (.slice A4 n c4):=by rw[←hw5,zm _ _ _ _ rfl];rfl
     obtain⟨A6,c6,w6,hrun,ho6,hg6,hq6⟩:=append_row1 (ji HO4.out B5 (qc _)) hc5 (by omega) rfl (by omega) (by have:=HB4.out.size;omega)
     have HS6:=qa ((HS4.out.below B5).step hg6 hq6)
     have HO6:=qa ho6
     have hbs6:=hg6.size
     have HB6:Hid (Below w.heap.size w w6):=(zz HB4.out B5 (by have:=HB4.out.size;omega)).grown hg6 (by have:=HB4.out.size;omega) (fun q hq=>(zk HO4.out hq).1)
     have HGB6:Hid (j8 w6 gB 128 #[.int .i64 (r.rows:Int),.slice r.fA n r.fc,.slice r.kA n r.kc]):=(HGB4.out.below B5 (by omega)).grown hg6 (fun e=>HQ.out gB e.symm rfl)
     have HQ6:Hid (∀q,(Value.slice A6 (p2+1) c6).ownBlock=some q→q≠gB):=fun q hq=>by
      rcases hq6 with e | e
      ·
       rw[e] at hq;exact HQ.out q hq
      ·
       rw[e] at hq;injection hq with hq;omega
     clear ho4 hb4 HRW HO HX HGB HQ HO4 HX4 HGB4 HR4 HS4 hc5 B5 ho6 hg6 hq6 hrb hrb2 HRE HRN
     go_wp2_with (at_builtin;refine wpList_append_run rfl _ _ _ _ rfl rfl rfl hrun ?_)
     go_roundw
     case rel=>exact⟨i+1,p2+1,A6,c6,_,by omega,by go_num,rfl,by unfold Hid;have:=HPI.out;omega,HO6.out,HS6.out,HGB6.out,HQ6.out,by omega,HB6.out⟩
     case measure=>simp[intOf];omega
    ·
     have ii:¬(i:Int)<(r.rows:Int):=by omega
     obtain rfl:i=r.rows:=by omega
     rw[←HRK.out] at HX
     go_wp2_with fail
     go_roundw
     case rel=>exact⟨k+1,p2,A',c',xs,by omega,by go_num,rfl,by unfold Hid;have:=HPI.out;have:=HP.out;have:=HN1.out;omega,HO,HX,HBI.out⟩
     case measure=>simp[intOf];omega
  ·
   have ik:¬(k:Int)<(rs.length:Int):=by omega
   obtain rfl:k=rs.length:=by omega
   obtain rfl:T=p:=HF.out.1.symm.trans HP.out
   rw[HF.out.2] at HX
   go_wp2_with fail
   go_ret
   exact⟨_,_,rfl,xs,HO.out,HX.out,HB.out⟩
end Go.Proofs.YtjfecojdagmacaaGreat
