/-
  Lemmas.
-/
import Derived.Test.YtnjkipnklpkaoaaGreatA41
namespace Go.Proofs.YtnjkipnklpkaoaaGreat
open Go.RowKit
set_option maxRecDepth 20000
set_option maxHeartbeats 16000000
set_option linter.unusedSimpArgs false
set_option linter.unusedVariables false
section
set_option maxRecDepth 100000
def ren1:Go.Shelf.Ren:=⟨fun | 125=>195 | 128=>221 | 129=>222 | 190=>214 | 194=>215 | 258=>233 | 302=>250 | 303=>251 | 304=>252 | 305=>253 | 306=>254 | 307=>255 | 308=>237 | 309=>256 | 310=>257 | 316=>226 | 329=>262 | 330=>263 | 333=>269 | 334=>270 | 335=>271 | 336=>260 | 344=>277 | n=>n,fun | 0=>0 | 3=>3 | 4=>4 | 5=>5 | 9=>9 | 31=>58 | 37=>26 | 46=>124 | 51=>101 | 53=>224 | 127=>233 | 131=>210 | 182=>254 | 183=>255 | 218=>268 | 222=>271 | 228=>280 | 229=>132 | n=>n,fun n=>n⟩
theorem lays190:Go.Proofs.Lays.n190 Tryz.prog ren1:={
 mixed:=by kernel_rfl
 f125:=Tryz.func195.trans (congrArg some (by kernel_rfl))
 f128:=Tryz.func221.trans (congrArg some (by kernel_rfl))
 f129:=Tryz.func222.trans (congrArg some (by kernel_rfl))
 f190:=Tryz.func214.trans (congrArg some (by kernel_rfl))
 f258:=Tryz.func233.trans (congrArg some (by kernel_rfl))
 f302:=Tryz.func250.trans (congrArg some (by kernel_rfl))
 f303:=Tryz.func251.trans (congrArg some (by kernel_rfl))
 f304:=Tryz.func252.trans (congrArg some (by kernel_rfl))
 f305:=Tryz.func253.trans (congrArg some (by kernel_rfl))
 f306:=Tryz.func254.trans (congrArg some (by kernel_rfl))
 f307:=Tryz.func255.trans (congrArg some (by kernel_rfl))
 f308:=Tryz.func237.trans (congrArg some (by kernel_rfl))
 f309:=Tryz.func256.trans (congrArg some (by kernel_rfl))
 f310:=Tryz.func257.trans (congrArg some (by kernel_rfl))
 f329:=Tryz.func262.trans (congrArg some (by kernel_rfl))
 f330:=Tryz.func263.trans (congrArg some (by kernel_rfl))
 f333:=Tryz.func269.trans (congrArg some (by kernel_rfl))
 f334:=Tryz.func270.trans (congrArg some (by kernel_rfl))
 f335:=Tryz.func271.trans (congrArg some (by kernel_rfl))
 f336:=Tryz.func260.trans (congrArg some (by kernel_rfl))
 f344:=Tryz.func277.trans (congrArg some (by kernel_rfl))
 t0:=Tryz.underlying0
 a0:=Tryz.isAgg0
 z0:=Tryz.sizeOf0
 v0:=Tryz.zeroValue0
 t3:=Tryz.underlying3
 a3:=Tryz.isAgg3
 z3:=Tryz.sizeOf3
 v3:=Tryz.zeroValue3
 t4:=Tryz.underlying4
 a4:=Tryz.isAgg4
 z4:=Tryz.sizeOf4
 v4:=Tryz.zeroValue4
 t5:=Tryz.underlying5
 a5:=Tryz.isAgg5
 z5:=Tryz.sizeOf5
 v5:=Tryz.zeroValue5
 t9:=Tryz.underlying9
 a9:=Tryz.isAgg9
 z9:=Tryz.sizeOf9
 v9:=Tryz.zeroValue9
 t31:=Tryz.underlying58
 a31:=Tryz.isAgg58
 z31:=Tryz.sizeOf58
 v31:=Tryz.zeroValue58
 t46:=Tryz.underlying124
 a46:=Tryz.isAgg124
 z46:=Tryz.sizeOf124
 v46:=Tryz.zeroValue124
 t51:=Tryz.underlying101
 a51:=Tryz.isAgg101
 z51:=Tryz.sizeOf101
 v51:=Tryz.zeroValue101
 t53:=Tryz.underlying224
 a53:=Tryz.isAgg224
 z53:=Tryz.sizeOf224
 v53:=Tryz.zeroValue224
 t131:=Tryz.underlying210
 a131:=Tryz.isAgg210
 z131:=Tryz.sizeOf210
 v131:=Tryz.zeroValue210
 t182:=Tryz.underlying254
 a182:=Tryz.isAgg254
 z182:=Tryz.sizeOf254
 v182:=Tryz.zeroValue254
 t183:=Tryz.underlying255
 a183:=Tryz.isAgg255
 z183:=Tryz.sizeOf255
 v183:=Tryz.zeroValue255
 t218:=Tryz.underlying268
 a218:=Tryz.isAgg268
 z218:=Tryz.sizeOf268
 v218:=Tryz.zeroValue268
 t222:=Tryz.underlying271
 a222:=Tryz.isAgg271
 z222:=Tryz.sizeOf271
 v222:=Tryz.zeroValue271
 t228:=Tryz.underlying280
 a228:=Tryz.isAgg280
 z228:=Tryz.sizeOf280
 v228:=Tryz.zeroValue280
 t229:=Tryz.underlying132
 a229:=Tryz.isAgg132
 z229:=Tryz.sizeOf132
 v229:=Tryz.zeroValue132 }
theorem lays194:Go.Proofs.Lays.n194 Tryz.prog ren1:={
 mixed:=by kernel_rfl
 f194:=Tryz.func215.trans (congrArg some (by kernel_rfl))
 t0:=Tryz.underlying0
 a0:=Tryz.isAgg0
 z0:=Tryz.sizeOf0
 v0:=Tryz.zeroValue0
 t3:=Tryz.underlying3
 a3:=Tryz.isAgg3
 z3:=Tryz.sizeOf3
 v3:=Tryz.zeroValue3
 t4:=Tryz.underlying4
 a4:=Tryz.isAgg4
 z4:=Tryz.sizeOf4
 v4:=Tryz.zeroValue4
 t9:=Tryz.underlying9
 a9:=Tryz.isAgg9
 z9:=Tryz.sizeOf9
 v9:=Tryz.zeroValue9
 t31:=Tryz.underlying58
 a31:=Tryz.isAgg58
 z31:=Tryz.sizeOf58
 v31:=Tryz.zeroValue58 }
theorem lays316:Go.Proofs.LaysM.n316 Tryz.prog ren1:={
 mixed:=by kernel_rfl
 f316:=Tryz.func226.trans (congrArg some (by kernel_rfl))
 t0:=Tryz.underlying0
 a0:=Tryz.isAgg0
 z0:=Tryz.sizeOf0
 v0:=Tryz.zeroValue0
 t3:=Tryz.underlying3
 a3:=Tryz.isAgg3
 z3:=Tryz.sizeOf3
 v3:=Tryz.zeroValue3
 t4:=Tryz.underlying4
 a4:=Tryz.isAgg4
 z4:=Tryz.sizeOf4
 v4:=Tryz.zeroValue4
 t9:=Tryz.underlying9
 a9:=Tryz.isAgg9
 z9:=Tryz.sizeOf9
 v9:=Tryz.zeroValue9
 t37:=Tryz.underlying26
 a37:=Tryz.isAgg26
 z37:=Tryz.sizeOf26
 v37:=Tryz.zeroValue26
 t127:=Tryz.underlying233
 a127:=Tryz.isAgg233
 z127:=Tryz.sizeOf233
 v127:=Tryz.zeroValue233
 t5:=Tryz.underlying5
 a5:=Tryz.isAgg5
 z5:=Tryz.sizeOf5
 v5:=Tryz.zeroValue5
 i0:=by kernel_rfl
 i3:=by kernel_rfl
 i4:=by kernel_rfl
 i5:=by kernel_rfl
 i9:=by kernel_rfl
 i37:=by kernel_rfl
 i127:=by kernel_rfl }
end
section
open Go.RowKit Go.Sort Go.Shelf
theorem sv_enc(zs:List (List UInt8)):sv (j7 zs)=zs.map encStr:=by
 unfold sv j7
 rw[ut]
 rfl
theorem sort_own{w:World}{base:Nat}{v:Value}(zs:List (List UInt8))(h:w.ownsRow base 9 1 v zs.length (sv (j7 zs)))(hn:zs.length<4611686018427387904) :
  Calls Tryz.prog 214 #[v] w fun r w'=>r= .returned (.tuple #[])∧w'.ownsRow base 9 1 v zs.length (sv (j7 (zs.mergeSort fun x y=>decide (x≤y))))∧w.grownBy w' v.ownBlock:=by
 rw[sv_enc] at h
 rw[sv_enc]
 rcases h.2 with ⟨rfl,h0⟩ | ⟨g,cap,cur,rfl,hbase,hb,h1,h2,h3,h4⟩
 ·
  have hz:zs=[]:=zd h0
  subst hz
  refine(Any.slices_Sort_string_none lays190 none 0 w).mono ?_
  rintro r w' ⟨rfl,rfl⟩
  exact⟨rfl,by simpa using h,vc _ _⟩
 ·
  refine(Any.slices_Sort_string lays190 g 0 cap zs w (holds_of_block hb (by simpa using h4)) (vp.1 hb).1 hn).mono ?_
  rintro r w' ⟨rfl,n,os,rfl⟩
  exact⟨rfl,ownsRow_sorted (List.length_mergeSort zs) hbase hb h1 h2 h3,grownBy_sorted _⟩
theorem qrp{w:World}{base:Nat}{A:Option Addr}{c:Nat}(zs:List (List UInt8))(h:w.ownsRow base 9 1 (.slice A zs.length c) zs.length (sv (j7 zs)))(hn:zs.length<4611686018427387904) :
  Calls Tryz.prog 215 #[.slice A zs.length c] w fun r w'=>r= .returned (.slice A (Lib.compact zs).length c)∧w'.ownsRow base 9 1 (.slice A (Lib.compact zs).length c) (Lib.compact zs).length (sv (j7 (Lib.compact zs)))∧w.grownBy w' (Value.slice A zs.length c).ownBlock:=by
 rw[sv_enc] at h
 rw[sv_enc]
 rcases h.2 with ⟨he,h0⟩ | ⟨g,cap,cur,he,hbase,hb,h1,h2,h3,h4⟩
 ·
  have hz:zs=[]:=zd h0
  subst hz
  refine(Any.slices_Compact_string_empty lays194 A c w).mono ?_
  rintro r w' ⟨rfl,rfl⟩
  exact⟨rfl,h,vc _ _⟩
 ·
  injection he with he1 _ he3
  subst he1 he3
  refine(Any.slices_Compact_string lays194 g 0 c zs w (holds_of_block hb (by simpa using h4)) (by omega) h1).mono ?_
  rintro r w' ⟨rfl,q,rfl⟩
  have hle:=Lib.compact_length_le zs
  have hc:=Lib.ownsRow_putRow (q:=q) (k:=(Lib.compact zs).length) (ys:=Lib.compact zs++List.replicate (zs.length-(Lib.compact zs).length) []) h (by simp;omega) (by omega)
  rw[List.take_left] at hc
  refine⟨rfl,hc,?_⟩
  have:=grownBy_sorted (w:=w) (g:=g) (n:=q) (os:=#[]) (Lib.compact zs++List.replicate (zs.length-(Lib.compact zs).length) []).toArray
  rw[grow_empty] at this
  exact this
theorem sclone_any{w:World}(s:ByteArray)(hs:s.size≤281474976710656) :
  Calls Tryz.prog 204 #[.string s] w fun e w'=>e= .returned (.string s)∧Below w.heap.size w w':=by
 have h:=fun w=>Any.stringslite_Clone lays316 s w hs
 have H:=qa h
 clear h
 go_enter Tryz.func204,Tryz.ntmps204
 go_wp2_with fail
 refine(H.out _).mono ?_
 rintro r w1 ⟨rfl,hb⟩
 go_wp2
 go_ret
 exact⟨rfl,hb⟩
end
theorem place_is{t:List (List UInt8)}{x:List UInt8}{k:Nat}(h:xd t=true)(hx:x∈t)(hk:∀j (hj:j<t.length),j<k↔yr t[j] x<0):t.idxOf x=k:=by
 obtain⟨i,hi,rfl⟩:=zq hx
 rw[(qix h).idxOf_getElem]
 have h1:¬i<k:=fun hik=>qe4 ((hk i hi).1 hik)
 rcases xc k i with h2 | h2
 ·
  have h3:=(hk k (by omega)).2 (qie h h2 hi)
  omega
 ·
  omega
theorem sumL_le{m:Nat}:∀ {l:List (List UInt8)},(∀x∈l,x.length≤m)→qkc l≤m*l.length
 | [],_=>by simp[qkc]
 | x :: l,h=>by
  have h1:=sumL_le (l:=l) fun y hy=>h y (jm _ hy)
  have h2:=h x jb
  rw[qkc,qt,qds]
  omega
theorem dictionary_v{w:World}(l:List ByteArray)(kd ro:Int)(K:Nat)(ds:List Int){c d:Nat}{A B:Option Addr}(h:Rd w 0 w.heap.size A c (sv l))(hK:1≤K)(hK2:K≤64)
  (hn:l.length≤4096) (h4:∀s∈l,s.size≤4096) :
  Calls Tryz.prog 190 #[.slice A l.length c,.agg #[.int .i64 kd,.int .i64 (K:Int),.int .i64 ro,.slice B ds.length d]] w fun r w'=>∃A' c',r= .returned (.slice A' (yj l ⟨kd,K,ro,ds⟩ 3).length c')∧
   w'.ownsRow w.heap.size 5 1 (.slice A' (yj l ⟨kd,K,ro,ds⟩ 3).length c') (yj l ⟨kd,K,ro,ds⟩ 3).length (bv (yj l ⟨kd,K,ro,ds⟩ 3))∧Below w.heap.size w w'∧qb9 (qm l) (qko (qm l)):=by
 have hl:=h.len
 have hm:=h.cap
 rw[yg] at hl
 unfold maxLen at hm
 obtain⟨w1,hw1⟩:∃w1,w.alloc (.cells #[.int .i64 kd,.int .i64 (K:Int),.int .i64 ro,.slice B ds.length d] 76)=w1:=⟨_,rfl⟩
 have B1:Hid (Below w.heap.size w w1):=by unfold Hid;rw[←hw1];exact(Below.refl _ w).alloc (qc _) _
 have hs1:w1.heap.size=w.heap.size+1:=by rw[←hw1];simp
 have hs1':w.heap.size≤w1.heap.size:=by omega
 have hbx:j6 w1 w.heap.size 76 #[.int .i64 kd,.int .i64 (K:Int),.int .i64 ro,.slice B ds.length d]:=by rw[←hw1];exact j6.new w _ _
 have HCF:Hid (∀W,Below w1.heap.size w1 W→W.cell? ⟨w.heap.size,1,none⟩=some (.int .i64 (K:Int))):=fun W hW=>(hbx.below hW (by omega)).cell 1
 have H:Hid (∀W,Below w.heap.size w W→Rd W 0 W.heap.size A c (sv l)):=fun W hW=>(h.below hW (qc _)).wide (qc _) hW.size
 have HSO:=qkn (qm l)
 have hdl:=HSO.len
 rw[qx] at hdl
 have hdic:=HSO.dic (by rw[qx];exact hn) fun x hx=>by obtain⟨s,hs,rfl⟩:=zn.1 hx;exact h4 s hs
 have hde:=dicS_is HSO
 have HPY:Hid (yj l ⟨kd,K,ro,ds⟩ 3=kn K (qko (qm l))++jq (zu (qc2 (qko (qm l)) (qm l)))):=by unfold Hid;rw[yj,if_neg (by decide),if_pos rfl];rfl
 rw[hde] at HPY ⊢
 have HCL:=qa (clone_strs (w:=w1) l (H.out w1 B1.out) (qc _) (by omega))
 clear hbx h hde
 generalize yj l ⟨kd,K,ro,ds⟩ 3=PY at *
 have HSR:Hid (∀W A2 c2,W.ownsRow w1.heap.size 9 1 (.slice A2 l.length c2) l.length (sv l)→Calls Tryz.prog 214 #[.slice A2 l.length c2] W fun r w'=>r= .returned (.tuple #[])∧w'.ownsRow w1.heap.size 9 1 (.slice A2 l.length c2) l.length (sv (j7 (qit (qm l))))∧W.grownBy w' (Value.slice A2 l.length c2).ownBlock):=fun W A2 c2 ho=>by
  have:=sort_own (w:=W) (base:=w1.heap.size) (v:= .slice A2 l.length c2) (qm l) (by rw[qx,qdu];exact ho) (by rw[qx];omega)
  rw[qx] at this
  exact this
 have hsl:(qit (qm l)).length=l.length:=by rw[qit,List.length_mergeSort,qx]
 have HCO:Hid (∀W A2 c2,W.ownsRow w1.heap.size 9 1 (.slice A2 l.length c2) l.length (sv (j7 (qit (qm l))))→Calls Tryz.prog 215 #[.slice A2 l.length c2] W fun r w'=>r= .returned (.slice A2 (Lib.compact (qit (qm l))).length c2)∧
   w'.ownsRow w1.heap.size 9 1 (.slice A2 (Lib.compact (qit (qm l))).length c2) (Lib.compact (qit (qm l))).length (sv (j7 (Lib.compact (qit (qm l)))))∧W.grownBy w' (Value.slice A2 l.length c2).ownBlock):=fun W A2 c2 ho=>by
  have:=qrp (w:=W) (base:=w1.heap.size) (A:=A2) (c:=c2) (qit (qm l)) (by rw[hsl];exact ho) (by rw[hsl];omega)
  rw[hsl] at this
  exact this
 have HMEM:Hid (∀k (hk:k<l.length),l[k].data.toList∈Lib.compact (qit (qm l))):=fun k hk=>(HSO.2 _).2 (xq (qj hk))
 have hris:=HSO.1
 generalize qit (qm l)=SL at *
 generalize Lib.compact SL=D at *
 have HSOF:=qa HSO
 have HDIC:=qa hdic
 have HRIS:=qa hris
 obtain⟨zs,hzs⟩:∃zs,zu (qc2 D (qm l))=zs:=⟨_,rfl⟩
 have hzl:zs.length=l.length:=by rw[←hzs,zj,qc2,q8,qx]
 have HZL:=qa hzl
 have HZ:Hid (∀k (hk:k<l.length),zs[k]? = some ((D.idxOf l[k].data.toList:Nat):Int)):=fun k hk=>by
  rw[←hzs]
  simp[zu,qc2,qm,qe hk]
 have HMY:Hid (qpw zs):=by
  unfold Hid
  rw[←hzs]
  refine qm3 (D:=D) (by omega) fun x hx => ?_
  obtain⟨s,hs,rfl⟩:=zn.1 hx
  obtain⟨a,ha,rfl⟩:=zn.1 hs
  obtain⟨k,hk,rfl⟩:=zq ha
  exact jaf (HMEM.out k hk)
 rw[hzs] at HPY
 clear HSO hdic hris hzs hzl h4 hsl
 go_enter Tryz.func190,Tryz.ntmps190
 go_wp2_with fail
 refine HCL.out.mono ?_
 rintro r w2 ⟨A2,c2,rfl,ho2,hb2⟩
 have HO2:=qa ho2
 have K2:=qa hb2
 clear ho2 hb2 HCL hw1
 go_wp2_with fail
 refine(HSR.out _ _ _ HO2.out).mono ?_
 rintro r w3 ⟨rfl,ho3,hg3⟩
 have HO3:=qa ho3
 have K3:Hid (Below w1.heap.size w1 w3):=K2.out.grown hg3 K2.out.size (fun q hq=>(zk HO2.out hq).1)
 clear ho3 hg3 HO2 K2 HSR
 go_wp2_with fail
 refine(HCO.out _ _ _ HO3.out).mono ?_
 rintro r w4 ⟨rfl,ho4,hg4⟩
 have HO4:=qa ho4
 have K4:Hid (Below w1.heap.size w1 w4):=K3.out.grown hg4 K3.out.size (fun q hq=>(zk HO3.out hq).1)
 clear ho4 hg4 HO3 K3 HCO
 have hsz4:=K4.out.size
 have KW4:Hid (Below w.heap.size w w4):=B1.out.trans (K4.out.mono hs1')
 have hS4:=HCF.out _ K4.out
 have HRD4:=qa ((Rd.of_own HO4.out).wide (qi w1.heap.size) (qc w4.heap.size))
 have HBU:=qa (fbuild_yes (w:=w4) (A:=A2) (c:=c2) (j7 D) K hK hK2 (by rw[ue];exact HDIC.out) (by exact HRD4.out))
 rw[yo,ue] at HBU
 clear HCF
 go_wp2_with fail
 refine HBU.out.mono ?_
 rintro r w5 ⟨A5,c5,rfl,ho5,hb5⟩
 have HO5:=qa ho5
 have K5:Hid (Below w.heap.size w w5):=qz KW4.out hb5 (by omega)
 have HRD5:Hid (Rd w5 0 w5.heap.size A2 c2 (sv (j7 D))):=(HRD4.out.below hb5 (qc _)).wide (qc _) hb5.size
 have hsz5:=K5.out.size
 obtain⟨w6,hmake,ho6,hg6⟩:=qjs w5 l.length (by omega)
 have HO6:=qa ho6
 have K56:Hid (Below w5.heap.size w5 w6):=qcd (qc _) hg6 (fun g hg=>by cases hg)
 have hszw4:=KW4.out.size
 clear ho5 hb5 ho6 hg6 HBU HO4 K4 KW4 hS4 HRD4
 go_wp2_with fail
 clear hmake
 go_loopw [29] (fun i wr=>∃(k:Nat) (xs:List Value),k≤l.length∧i= .int .i64 (k:Int)∧wr.ownsRow w5.heap.size 3 1 (.slice (some ⟨w5.heap.size,0,none⟩) l.length l.length) l.length xs∧qk0 (iv zs) k xs∧Below w5.heap.size w5 wr) (fun i _=>l.length-(intOf i).toNat)
 case atStart=>exact⟨0,_,qi _,rfl,HO6.out,qd9 (by rw[ji,HZL.out];simp),K56.out⟩
 case round =>
  clear HO6 K56
  obtain⟨k,xs,hk,rfl,ho,hup,hb⟩:=hrel
  have HO:=qa ho
  have HUP:=qa hup
  have HB:=qa hb
  have hsz:=hb.size
  clear ho hup hb
  by_cases hlt:k<l.length
  ·
   have ik:(k:Int)<(l.length:Int):=by omega
   obtain⟨b,off,rfl,_,hbl,hc0⟩:=(H.out wr (K5.out.trans (HB.out.mono hsz5))).str hlt
   have HZ1:=qa (HZ.out k hlt)
   have HM1:=qa (HMEM.out k hlt)
   generalize l[k]=s at *
   have HSE:=qa (search_any (w:=wr) (A:=A2) (c:=c2) (n:=D.length) (j7 D) s (HRD5.out.below HB.out (qc _)) (by rw[ue];exact HRIS.out) (by rw[yo];omega) (yo D))
   go_wp2_with fail
   refine HSE.out.mono ?_
   rintro r w7 ⟨q,hq,hlo,rfl,m,rfl⟩
   have hqe:D.idxOf s.data.toList=q:=place_is HRIS.out HM1.out fun j hj=>by
    have:=hlo j (by rw[yo];exact hj)
    have e:(j7 D)[j]'(by rw[yo];exact hj)=⟨D[j].toArray⟩:=by simp[j7]
    rw[e] at this
    simpa using this
   have HZ2:Hid ((iv zs)[k]? = some (.int .i64 (q:Int))):=by
    have:=HZ1.out
    rw[hqe] at this
    simp[Hid,iv,this]
   obtain⟨bb,hbb⟩:∃bb,decide ((j7 D)[q]? = some s)=bb:=⟨_,rfl⟩
   rw[hbb]
   have HO7:Hid ((wr.drewN m).ownsRow w5.heap.size 3 1 (.slice (some ⟨w5.heap.size,0,none⟩) l.length l.length) l.length xs):=ju HO.out fun _ _=>rfl
   have HB7:Hid (Below w5.heap.size w5 (wr.drewN m)):=zg HB.out m
   clear HSE hlo hbb HO HB hqe HZ1 HM1
   generalize wr.drewN m=w7 at *
   have hfr:=HO7.out.frozenAt k
   have hxk:k<xs.length:=by rw[HUP.out.1,ji,HZL.out];exact hlt
   have hcell:w7.cell? ⟨w5.heap.size,k,none⟩=some xs[k]:=by
    rw[HO7.out.cellAt k (by omega),qe hxk]
   have HST:=qa (World.ownsRow.stored HO7.out k (.int .i64 (q:Int)))
   have HBS:=qa (HB7.out.setCell (p:=⟨w5.heap.size,k,none⟩) (qc _) (.int .i64 (q:Int)))
   have HUS:=qa (qay HUP.out (.int .i64 (q:Int)) HZ2.out)
   generalize xs[k]=x0 at *
   go_wp2_with fail
   go_roundw
   case rel=>exact⟨k+1,_,by omega,by go_num,HST.out.1,HUS.out,HBS.out⟩
   case measure=>simp[intOf];omega
  ·
   have ik:¬(k:Int)<(l.length:Int):=by omega
   have hx:xs=iv zs:=qe1 HUP.out (by rw[ji,HZL.out];omega)
   subst hx
   have HN:=qa (numbers_v (w:=wr) (A:=some ⟨w5.heap.size,0,none⟩) (c:=l.length) zs HMY.out ((Rd.of_own HO.out).wide (qi _) (qc _)) (qc _) (by rw[HZL.out];omega))
   rw[HZL.out] at HN
   have HFL:Hid ((kn K D).length≤1000000000∧(jq zs).length≤100000000000):=by
    refine⟨?_,ze (qab HMY.out (by rw[HZL.out];omega)) (by omega)⟩
    have h1:=qmz hK2 HDIC.out
    have h2:=sumL_le (m:=4096) (fun s hs=>(qdi.1 HDIC.out).2.1 s hs)
    omega
   generalize jq zs=WL at *
   generalize kn K D=FL at *
   go_wp2_with fail
   refine HN.out.mono ?_
   rintro r w8 ⟨A8,c8,rfl,ho8,hb8⟩
   have hsz8:=hb8.size
   have hb58:Below w5.heap.size w5 w8:=qz HB.out hb8 hsz
   have hf:=HFL.out
   obtain⟨A9,c9,w9,hrun9,hown9,hg9⟩:=j9 w8 w.heap.size (.slice A5 FL.length c5) FL WL PY HPY.out.symm (j4 (js HO5.out hb58 (qc _)) hszw4) (Rd.of_own ho8) (by omega) (by omega)
   have hb9:Below w.heap.size w w9:=(K5.out.trans (hb58.mono hsz5)).grown hg9 (by omega) (fun q hq=>by have:=(zk HO5.out hq).1;omega)
   have HO9:=qa hown9
   have HB9:=qa hb9
   clear ho8 hb8 hb58 hown9 hg9 hb9 HN
   go_wp2_with (at_builtin;refine wpList_append_run rfl _ _ _ _ rfl rfl rfl hrun9 ?_)
   go_ret
   exact⟨_,_,rfl,HO9.out,HB9.out,HSOF.out⟩
theorem dist_any(z:Int)(w:World)(h1 : -9223372036854775808≤z)(h2:z≤9223372036854775807) :
  Calls Tryz.prog 230 #[.int .i64 z] w fun e w'=>e= .returned (.int .u64 (z.natAbs:Int))∧w=w':=by
 by_cases hz:z<0
 ·
  have e1:IntKind.u64.wrap (-IntKind.u64.wrap z)=(z.natAbs:Int):=by rw[IntKind.wrap_u64,IntKind.wrap_u64];omega
  have E1:=qa e1
  clear e1
  go_enter Tryz.func230,Tryz.ntmps230
  go_wp2
  go_ret
  exact⟨kf E1.out,rfl⟩
 ·
  have e1:z=(z.natAbs:Int):=by omega
  have E1:=qa e1
  clear e1
  go_enter Tryz.func230,Tryz.ntmps230
  go_wp2
  go_ret
  exact⟨kf E1.out,rfl⟩
theorem tsample_any{w:World}(l:List ByteArray)(ds:List Int){c d:Nat}{A B:Option Addr}(h:Rd w 0 w.heap.size A c (sv l))(hd:Rd w 0 w.heap.size B d (iv ds))(hln:l.length≤1000000)(hdn:ds.length≤1000000)(hsz:∀s∈l,s.size≤281474976710656)
  (hdw:∀z∈ds, -9223372036854775808≤z∧z≤9223372036854775807) :
  Calls Tryz.prog 210 #[.slice A l.length c,.slice B ds.length d] w fun r w'=>∃A' c',r= .returned (.slice A' (jw l ds).length c')∧
   w'.ownsRow w.heap.size 9 1 (.slice A' (jw l ds).length c') (jw l ds).length (sv (jw l ds))∧Below w.heap.size w w':=by
 have hl:=h.len
 have hc:=h.cap
 have hl2:=hd.len
 have hc2:=hd.cap
 rw[yg] at hl
 rw[ji] at hl2
 unfold maxLen at hc hc2
 have H:=qa h
 have HD:=qa hd
 have HZ:Hid (∀k (hk:k<l.length),l[k].size≤281474976710656):=fun k hk=>hsz _ (qj hk)
 have HW:Hid (∀k (hk:k<ds.length), -9223372036854775808≤ds[k]∧ds[k]≤9223372036854775807):=fun k hk=>hdw _ (qj hk)
 clear h hd hsz hdw
 by_cases h0:l=[]
 ·
  have hl0:l.length=0:=by rw[h0];rfl
  have HS:Hid (jw l ds=[]):=if_pos h0
  have i0:(l.length:Int)=0:=by omega
  have HI:=qa i0
  have d0:decide ((l.length:Int)=0)=true:=qp i0
  clear h0 i0
  go_enter Tryz.func210,Tryz.ntmps210
  go_wp2_with fail
  go_ret
  exact⟨none,0,by rw[HS.out];rfl,by rw[HS.out];exact zh _ _ _ _,Below.refl _ _⟩
 ·
  have hln0:l.length≠0:=fun e=>h0 (zd e)
  have i0:¬(l.length:Int)=0:=by omega
  have d0:((l.length:Int)==0)=false:=qr.2 i0
  have HLN:=qa (qna h0 ds)
  have HGET:Hid (∀k (hk:k<ds.length),(jw l ds)[k]'(by rw[HLN.out];exact hk)=l.getD (ds[k].natAbs%l.length) ⟨#[]⟩):=fun k hk=>by simp[jw,if_neg h0]
  clear h0
  go_enter Tryz.func210,Tryz.ntmps210
  go_wp2_with fail
  go_loopw [5,14] (fun x5 x6 wr=>∃(k:Nat) (A':Option Addr) (c':Nat),k≤ds.length∧x6= .int .i64 (k:Int)∧x5= .slice A' k c'∧wr.ownsRow w.heap.size 9 1 (.slice A' k c') k (sv ((jw l ds).take k))∧Below w.heap.size w wr) (fun _ i _=>ds.length-(intOf i).toNat)
  case atStart=>exact⟨0,none,0,qi _,rfl,rfl,zh _ _ _ _,Below.refl _ _⟩
  case round =>
   obtain⟨k,A',c',hk,rfl,rfl,hown,hb⟩:=hrel
   have HO:=qa hown
   have HB:=qa hb
   have hsz:=hb.size
   clear hown hb
   by_cases hlt:k<ds.length
   ·
    obtain⟨b1,off1,rfl, -, -,hc1⟩:=(HD.out.below HB.out (qc _)).num hlt
    have hq:ds[k].natAbs%l.length<l.length:=qak _ (by omega)
    obtain⟨b2,off2,rfl, -, -,hc3⟩:=(H.out.below HB.out (qc _)).str hq
    have hz2:=HZ.out _ hq
    have HKL:Hid (((jw l ds).take k).length=k):=by unfold Hid;rw[qy,HLN.out];omega
    have HTK:Hid ((jw l ds).take (k+1)=(jw l ds).take k++[l[ds[k].natAbs%l.length]]):=by
     unfold Hid
     rw[qg (by rw[HLN.out];exact hlt),HGET.out k hlt,ql2 hq]
    have hw:=HW.out k hlt
    have hmod:((ds[k].natAbs:Nat):Int)%(l.length:Int)=((ds[k].natAbs%l.length:Nat):Int):=by push_cast;rfl
    have hab:((ds[k].natAbs:Nat):Int)≤9223372036854775808:=by omega
    have HDI:=qa (fun w=>dist_any ds[k] w hw.1 hw.2)
    generalize ds[k].natAbs=a at *
    generalize ds[k]=z at *
    have hlu:IntKind.u64.wrap (l.length:Int)=(l.length:Int):=by rw[IntKind.wrap_u64];omega
    have HSC:=qa (fun w2=>sclone_any (w:=w2) l[a%l.length] hz2)
    generalize l[a%l.length]=s at *
    generalize a%l.length=q at *
    clear hw
    go_wp2_with fail
    refine(HDI.out _).mono ?_
    rintro r w2 ⟨rfl,rfl⟩
    go_wp2_with fail
    refine(HSC.out _).mono ?_
    rintro r w2 ⟨rfl,hb2⟩
    have HO2:=qa (js HO.out hb2 (qc _))
    have HB2:=qa (qz HB.out hb2 hsz)
    have hz3:=HB2.out.size
    clear hb2
    go_wp2_with (at_builtin;refine xz (v:= .slice A' k c') w.heap.size ((jw l ds).take k) s rfl _ _ rfl rfl rfl rfl (by rw[za _ _ _ _ rfl];rfl) (by rw[HKL.out];exact HO2.out.alloc _) (by rw[HKL.out];omega) (by simp;omega) ?_;intro A2 c2 w3 ho3 hg3)
    go_roundw
    case rel =>
     have hl3:((jw l ds).take k++[s]).length=k+1:=by rw[qd,HKL.out];rfl
     refine⟨k+1,A2,c2,by omega,by go_num,by rw[show min k (jw l ds).length=k by rw[HLN.out];omega],?_,(HB2.out.alloc hz3 _).grown hg3 (by simp;omega) (fun q hq=>(zk HO2.out hq).1)⟩
     rw[hl3] at ho3
     rw[HTK.out]
     exact ho3
    case measure=>simp[intOf] <;> omega
   ·
    have hke:k=(jw l ds).length:=by rw[HLN.out];omega
    have HKE:=qa hke
    have HT:Hid ((jw l ds).take k=jw l ds):=qo (by omega)
    clear hke
    go_wp2_with fail
    go_ret
    exact⟨A',c',by rw[←HKE.out];rfl,by rw[←HKE.out];have:=HO.out;rw[HT.out] at this;exact this,HB.out⟩
section
open Go.Maps
theorem pieces_step(T:List (List UInt8))(l:List UInt8){a l0 e:Nat}(ha:a<l.length)(h0:l0≤a)(hlt:0<a→l0<a)(he:qc4 T (l.drop a)=e) :
  qaf T ((l.take a).drop l0) (l.drop a)=(l.take (a+e)).drop a :: ((if 0<a∧a+e-l0≤8 then [(l.take (a+e)).drop l0] else [])++qaf T ((l.take (a+e)).drop a) (l.drop (a+e))):=by
 have hne:l.drop a≠[]:=fun h=>by
  have:=congrArg List.length h
  simp at this
  omega
 have hp:(l.drop a).take e=(l.take (a+e)).drop a:=by rw[List.drop_take,show a+e-a=e by omega]
 have hle:=qlj (T:=T) hne
 rw[he,qu] at hle
 rw[qi1 T _ hne,he,hp,z7]
 have hlast:(l.take a).drop l0++(l.take (a+e)).drop a=(l.take (a+e)).drop l0:=by
  have h1:l.take (a+e)=l.take a++(l.take (a+e)).drop a:=by
   conv=>lhs;rw[←zx a (l.take (a+e))]
   rw[List.take_take,yx (by omega)]
  conv=>rhs;rw[h1]
  rw[List.drop_append_of_le_length (by rw[qy];omega)]
 have hln:((l.take a).drop l0).length=a-l0:=by rw[qu,qy];omega
 have hiff:((l.take a).drop l0≠[]∧((l.take a).drop l0).length+e≤8)↔(0<a∧a+e-l0≤8):=by
  rw[hln]
  constructor
  ·
   rintro⟨h1,h2⟩
   have:0<a-l0:=by
    rw[←hln]
    exact qda.2 h1
   omega
  ·
   rintro⟨h1,h2⟩
   have:=hlt h1
   exact⟨fun hx=>by rw[hx] at hln;simp at hln;omega,by omega⟩
 rw[hlast]
 simp only[hiff]
end
section
open Go.RowKit Go.Maps Go.WideMaps
theorem Tryz.keyStr:Keyed Tryz.prog 9:=string_keyed Tryz.underlying9
theorem extT(s:ByteArray)(i j:Nat):(s.extract i j).data.toList=(s.data.toList.take j).drop i:=by
 rw[qb1,qep,qcf,List.drop_take]
theorem tcount_any{w:World}(T:List ByteArray)(s:ByteArray){lo hi c:Nat}{A:Option Addr}(h:Rd w lo hi A c (sv T))(hr:yy (qm T)=true)(hs:s.size≤100000000){B n:Nat}{D:DataW Unit}{P:List (List UInt8)}
  (hm:qoj w B n D) (hD:Bag D P) (hP:P.length≤1000000000) (hn:n≤1000000000) (hB:hi≤B) (hhi:hi≤w.heap.size) :
  Calls Tryz.prog 247 #[.map (some B),.slice A T.length c,.string s] w fun r w'=>r= .returned (.tuple #[])∧∃n' D',qoj w' B n' D'∧n'≤n+2*s.size∧Bag D' (P++qaf (qm T) [] s.data.toList)∧Out w w' (fun k=>k=B):=by
 have H:=qa h
 have HR:=qa hr
 have HM0:=qa hm
 have HD0:=qa hD
 clear h hr hm hD
 obtain⟨R,hR⟩:∃R,P++qaf (qm T) [] s.data.toList=R:=⟨_,rfl⟩
 rw[hR]
 have HRR:=qa hR
 clear hR
 have HSL:=qa (qgq s)
 go_enter Tryz.func247,Tryz.ntmps247
 go_wp2_with fail
 go_loopw [6,7] (fun x6 x7 wr=>∃(a l0 n':Nat) (D':DataW Unit) (Q:List (List UInt8)),a≤s.size∧l0≤a∧(0<a→l0<a)∧x6= .int .i64 (l0:Int)∧x7= .int .i64 (a:Int)∧qoj wr B n' D'∧n'≤n+2*a∧Bag D' Q∧
  Q++qaf (qm T) ((s.data.toList.take a).drop l0) (s.data.toList.drop a)=R∧Q.length≤P.length+2*a∧Out w wr (fun k=>k=B)) (fun _ i _=>s.size-(intOf i).toNat)
 case atStart=>exact⟨0,0,n,D,P,qi _,qi _,fun h=>absurd h (qaq _),rfl,rfl,HM0.out,qc _,HD0.out,HRR.out,qc _,Out.refl _ _⟩
 case round =>
  obtain⟨a,l0,n1,D1,Q,ha,hl0,hla,rfl,rfl,hm1,hn1,hd1,hpc,hql,ho1⟩:=hrel
  have HM:=qa hm1
  have HD:=qa hd1
  have HPC:=qa hpc
  have HQ:=qa hql
  have HO:=qa ho1
  have HLA:=qa hla
  have hsz:=ho1.size
  clear hm1 hd1 hpc hql ho1 hla
  by_cases hlt:a<s.size
  ·
   obtain⟨v,hv⟩:∃v,qdv (qm T) (s.data.toList.drop a)=v:=⟨_,rfl⟩
   have HLG:=qa (fun w2 (hb2:Rd w2 lo hi A c (sv T))=>qob (w2:=w2) T (s.extract a s.size) hb2 HR.out (by rw[yt];omega) v (by rw[tailS];exact hv))
   obtain⟨e,he⟩:∃e,qc4 (qm T) (s.data.toList.drop a)=e:=⟨_,rfl⟩
   have hmax:max ((v.2:Nat):Int) 1=(e:Int):=by
    rw[←he]
    unfold qc4
    rw[hv]
    split <;> omega
   have hne:s.data.toList.drop a≠[]:=fun e=>by
    have:=congrArg List.length e
    rw[qu,qgq] at this
    simp at this
    omega
   have hle:=qlj (T:=qm T) hne
   have he1:=qh6 (qm T) (s.data.toList.drop a)
   rw[he] at hle he1
   rw[qu,qgq] at hle
   have HPS:=qa (pieces_step (qm T) s.data.toList (by rw[qgq];exact hlt) hl0 HLA.out he)
   obtain⟨v1,v2⟩:=v
   clear hv he hne
   simp only[] at *
   generalize ((v2:Nat):Int)=z at *
   obtain⟨x1,hx1⟩:∃x,(s.extract a (a+e)).data.toList=x:=⟨_,rfl⟩
   obtain⟨x2,hx2⟩:∃x,(s.extract l0 (a+e)).data.toList=x:=⟨_,rfl⟩
   have HK1:=qa (keyOf_string_mk (P:=Tryz.prog) Tryz.underlying9 (s:=s.extract a (a+e)) (by unfold maxLen;rw[yt];omega))
   have HK2:=qa (keyOf_string_mk (P:=Tryz.prog) Tryz.underlying9 (s:=s.extract l0 (a+e)) (by unfold maxLen;rw[yt];omega))
   rw[hx1] at HK1
   rw[hx2] at HK2
   rw[extT] at hx1 hx2
   have HX1:=qa hx1
   have HX2:=qa hx2
   clear hx1 hx2
   have HQ1:Hid ((Q++[x1]).length≤P.length+2*a+1):=by
    unfold Hid
    have:=HQ.out
    rw[qd,jd]
    omega
   have hla2:=HLA.out
   by_cases h2:0<a∧a+e-l0≤8
   ·
    obtain⟨h0a,h8⟩:=h2
    have ia:(0:Int)<(a:Int):=by omega
    have i8:(a:Int)+(e:Int)-(l0:Int)≤8:=by omega
    have HPC2:Hid (Q++[x1]++[x2]++qaf (qm T) ((s.data.toList.take (a+e)).drop a) (s.data.toList.drop (a+e))=R):=by
     unfold Hid
     rw[←HPC.out,HPS.out,if_pos ⟨h0a,h8⟩,←HX1.out,←HX2.out]
     simp only[qv,z6,yk]
    have HQL:Hid ((Q++[x1]++[x2]).length≤P.length+2*(a+e)):=by
     unfold Hid
     have:=HQ1.out
     rw[qd,jd]
     omega
    clear HPS
    go_wp2_with fail
    refine(HLG.out _ (H.out.out HO.out hhi (fun k _ h2 h3=>by omega))).mono ?_
    rintro r w1 ⟨rfl,m,rfl⟩
    have HM1:Hid (qoj (wr.drewN m) B n1 D1):=HM.out.out (X:=fun _=>False) ((Out.refl _ _).drewN m) (fun h=>h)
    have HO1:=qa (HO.out.drewN m)
    generalize wr.drewN m=w1 at *
    go_wp2_with (at_lookup;refine wpList_lookup_own_int _ rfl _ _ 260 rfl 9 3 .i64 Tryz.keyStr Tryz.underlying260 Tryz.underlying3 (Tryz.zeroValue3 _) B n1 D1 rfl HM1.out _ _ rfl HK1.out ?_;refine qaz ?_)
    refine⟨?_⟩
    intro k1 hat hwc
    have hk:=HD.out.count hat
    clear hat hwc
    have HBk1:=qa (HD.out.put x1)
    have HCk1:Hid ((Q).count x1≤10000000000):=ze qcs (by have:=HQ.out;omega)
    generalize (Q).count x1=qk1 at *
    subst hk
    have bk1:qk1≤10000000000:=HCk1.out
    go_wp2_with (at_mapUpdate;refine wpList_mapUpdate_own _ rfl _ _ _ 260 rfl 9 3 Tryz.keyStr Tryz.underlying260 _ B n1 D1 rfl HM1.out (by unfold maxLen;omega) _ _ _ rfl rfl HK1.out _ [] (plainElem_int Tryz.underlying3 (by go_wf)) ?_;refine qaz ?_)
    refine⟨?_⟩
    intro w2 hm2 hg2
    have HM2:Hid (qoj w2 B (n1+1) _):=hm2
    have HO2:Hid (Out w w2 (fun k=>k=B)):=HO1.out.trans (Out.of_gb (X:=fun k=>k=B) hg2 (fun k hk=>by cases hk;rfl)) (fun _ _ h=>h)
    clear hm2 hg2
    go_wp2_with (at_lookup;refine wpList_lookup_own_int _ rfl _ _ 260 rfl 9 3 .i64 Tryz.keyStr Tryz.underlying260 Tryz.underlying3 (Tryz.zeroValue3 _) B (n1+1) _ rfl HM2.out _ _ rfl HK2.out ?_;refine qaz ?_)
    refine⟨?_⟩
    intro k2 hat hwc
    have hk:=HBk1.out.count hat
    clear hat hwc
    have HBk2:=qa (HBk1.out.put x2)
    have HCk2:Hid ((Q++[x1]).count x2≤10000000000):=ze qcs (by have:=HQ1.out;omega)
    generalize (Q++[x1]).count x2=qk2 at *
    subst hk
    have bk2:qk2≤10000000000:=HCk2.out
    go_wp2_with (at_mapUpdate;refine wpList_mapUpdate_own _ rfl _ _ _ 260 rfl 9 3 Tryz.keyStr Tryz.underlying260 _ B (n1+1) _ rfl HM2.out (by unfold maxLen;omega) _ _ _ rfl rfl HK2.out _ [] (plainElem_int Tryz.underlying3 (by go_wf)) ?_;refine qaz ?_)
    refine⟨?_⟩
    intro w3 hm2 hg2
    have HM3:Hid (qoj w3 B ((n1+1)+1) _):=hm2
    have HO3:Hid (Out w w3 (fun k=>k=B)):=HO2.out.trans (Out.of_gb (X:=fun k=>k=B) hg2 (fun k hk=>by cases hk;rfl)) (fun _ _ h=>h)
    clear hm2 hg2
    go_wp2_with fail
    go_roundw
    case rel=>exact⟨a+e,a,(n1+1+1),_,(Q++[x1]++[x2]),by omega,by omega,by omega,by go_num,by go_num,HM3.out,by omega,HBk2.out,HPC2.out,HQL.out,HO3.out⟩
    case measure=>simp[intOf] <;> omega
   ·
    have HPC2:Hid (Q++[x1]++qaf (qm T) ((s.data.toList.take (a+e)).drop a) (s.data.toList.drop (a+e))=R):=by
     unfold Hid
     rw[←HPC.out,HPS.out,if_neg h2,←HX1.out]
     simp only[qv,z6,yk]
    have HQL:Hid ((Q++[x1]).length≤P.length+2*(a+e)):=by
     unfold Hid
     have:=HQ1.out
     omega
    clear HPS
    by_cases h0a:0<a
    ·
     have ia:(0:Int)<(a:Int):=by omega
     have i8:¬(a:Int)+(e:Int)-(l0:Int)≤8:=by omega
     clear h2
     go_wp2_with fail
     refine(HLG.out _ (H.out.out HO.out hhi (fun k _ h2 h3=>by omega))).mono ?_
     rintro r w1 ⟨rfl,m,rfl⟩
     have HM1:Hid (qoj (wr.drewN m) B n1 D1):=HM.out.out (X:=fun _=>False) ((Out.refl _ _).drewN m) (fun h=>h)
     have HO1:=qa (HO.out.drewN m)
     generalize wr.drewN m=w1 at *
     go_wp2_with (at_lookup;refine wpList_lookup_own_int _ rfl _ _ 260 rfl 9 3 .i64 Tryz.keyStr Tryz.underlying260 Tryz.underlying3 (Tryz.zeroValue3 _) B n1 D1 rfl HM1.out _ _ rfl HK1.out ?_;refine qaz ?_)
     refine⟨?_⟩
     intro k1 hat hwc
     have hk:=HD.out.count hat
     clear hat hwc
     have HBk1:=qa (HD.out.put x1)
     have HCk1:Hid ((Q).count x1≤10000000000):=ze qcs (by have:=HQ.out;omega)
     generalize (Q).count x1=qk1 at *
     subst hk
     have bk1:qk1≤10000000000:=HCk1.out
     go_wp2_with (at_mapUpdate;refine wpList_mapUpdate_own _ rfl _ _ _ 260 rfl 9 3 Tryz.keyStr Tryz.underlying260 _ B n1 D1 rfl HM1.out (by unfold maxLen;omega) _ _ _ rfl rfl HK1.out _ [] (plainElem_int Tryz.underlying3 (by go_wf)) ?_;refine qaz ?_)
     refine⟨?_⟩
     intro w2 hm2 hg2
     have HM2:Hid (qoj w2 B (n1+1) _):=hm2
     have HO2:Hid (Out w w2 (fun k=>k=B)):=HO1.out.trans (Out.of_gb (X:=fun k=>k=B) hg2 (fun k hk=>by cases hk;rfl)) (fun _ _ h=>h)
     clear hm2 hg2
     go_wp2_with fail
     go_roundw
     case rel=>exact⟨a+e,a,(n1+1),_,(Q++[x1]),by omega,by omega,by omega,by go_num,by go_num,HM2.out,by omega,HBk1.out,HPC2.out,HQL.out,HO2.out⟩
     case measure=>simp[intOf] <;> omega
    ·
     have ia:¬(0:Int)<(a:Int):=by omega
     clear h2
     go_wp2_with fail
     refine(HLG.out _ (H.out.out HO.out hhi (fun k _ h2 h3=>by omega))).mono ?_
     rintro r w1 ⟨rfl,m,rfl⟩
     have HM1:Hid (qoj (wr.drewN m) B n1 D1):=HM.out.out (X:=fun _=>False) ((Out.refl _ _).drewN m) (fun h=>h)
     have HO1:=qa (HO.out.drewN m)
     generalize wr.drewN m=w1 at *
     go_wp2_with (at_lookup;refine wpList_lookup_own_int _ rfl _ _ 260 rfl 9 3 .i64 Tryz.keyStr Tryz.underlying260 Tryz.underlying3 (Tryz.zeroValue3 _) B n1 D1 rfl HM1.out _ _ rfl HK1.out ?_;refine qaz ?_)
     refine⟨?_⟩
     intro k1 hat hwc
     have hk:=HD.out.count hat
     clear hat hwc
     have HBk1:=qa (HD.out.put x1)
     have HCk1:Hid ((Q).count x1≤10000000000):=ze qcs (by have:=HQ.out;omega)
     generalize (Q).count x1=qk1 at *
     subst hk
     have bk1:qk1≤10000000000:=HCk1.out
     go_wp2_with (at_mapUpdate;refine wpList_mapUpdate_own _ rfl _ _ _ 260 rfl 9 3 Tryz.keyStr Tryz.underlying260 _ B n1 D1 rfl HM1.out (by unfold maxLen;omega) _ _ _ rfl rfl HK1.out _ [] (plainElem_int Tryz.underlying3 (by go_wf)) ?_;refine qaz ?_)
     refine⟨?_⟩
     intro w2 hm2 hg2
     have HM2:Hid (qoj w2 B (n1+1) _):=hm2
     have HO2:Hid (Out w w2 (fun k=>k=B)):=HO1.out.trans (Out.of_gb (X:=fun k=>k=B) hg2 (fun k hk=>by cases hk;rfl)) (fun _ _ h=>h)
     clear hm2 hg2
     go_wp2_with fail
     go_roundw
     case rel=>exact⟨a+e,a,(n1+1),_,(Q++[x1]),by omega,by omega,by omega,by go_num,by go_num,HM2.out,by omega,HBk1.out,HPC2.out,HQL.out,HO2.out⟩
     case measure=>simp[intOf] <;> omega
  ·
   obtain rfl:a=s.size:=by omega
   have HFIN:Hid (Q=R):=by
    unfold Hid
    rw[←HPC.out,vj (l:=s.data.toList) (by rw[qgq];exact qc _),qnx,jj]
   go_wp2_with fail
   go_end0
   exact⟨rfl,n1,D1,HM.out,hn1,by rw[←HFIN.out];exact HD.out,HO.out⟩
end
end Go.Proofs.YtnjkipnklpkaoaaGreat
