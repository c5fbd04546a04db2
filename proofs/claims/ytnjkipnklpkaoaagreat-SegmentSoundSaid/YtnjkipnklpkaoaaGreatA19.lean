/-
  Lemmas.
-/
import Derived.Test.YtnjkipnklpkaoaaGreatA18
import Derived.Carry
import Derived.Laws.ComplexArith
import Derived.Maps.RangeWalk
namespace Go.Proofs.YtnjkipnklpkaoaaGreat
open Go.RowKit
set_option maxRecDepth 20000
set_option maxHeartbeats 16000000
set_option linter.unusedSimpArgs false
set_option linter.unusedVariables false
section
open Go.Sort
theorem ltA(x y:ByteArray×Int):ltOf qe7 x y=true↔(y.2<x.2∨(x.2=y.2∧yr x.1.data.toList y.1.data.toList<0)):=by
 unfold ltOf qe7 or2 cmpIn
 rw[decide_eq_true_iff]
 by_cases h1:y.2<x.2
 ·
  rw[if_pos h1,if_neg (by omega)]
  constructor
  ·
   intro _;exact Or.inl h1
  ·
   intro _;omega
 ·
  rw[if_neg h1]
  by_cases h2:x.2<y.2
  ·
   rw[if_pos h2,if_neg (by omega)]
   constructor
   ·
    intro h;omega
   ·
    rintro(h | ⟨h,_⟩) <;> omega
  ·
   rw[if_neg h2,if_pos rfl]
   constructor
   ·
    intro h;exact Or.inr ⟨by omega,h⟩
   ·
    rintro(h | ⟨_,h⟩)
    ·
     omega
    ·
     exact h
theorem ltA_not(x y:ByteArray×Int):ltOf qe7 x y=false↔(x.2<y.2∨(x.2=y.2∧yr y.1.data.toList x.1.data.toList≤0)):=by
 rw[←Bool.not_eq_true,ltA]
 have:=qdk x.1.data.toList y.1.data.toList
 omega
theorem ltA_swo:SWO (ltOf qe7) where
 irrefl x:=by rw[ltA_not,qdl];omega
 trans x y z h1 h2:=by
  rw[ltA] at *
  rcases h1 with h1 | ⟨h1,k1⟩
  ·
   rcases h2 with h2 | ⟨h2,k2⟩ <;> exact Or.inl (by omega)
  ·
   rcases h2 with h2 | ⟨h2,k2⟩
   ·
    exact Or.inl (by omega)
   ·
    exact Or.inr ⟨by omega,uj k1 k2⟩
 ntrans x y z h1 h2:=by
  rw[ltA_not] at *
  rcases h1 with h1 | ⟨h1,k1⟩
  ·
   rcases h2 with h2 | ⟨h2,k2⟩ <;> exact Or.inl (by omega)
  ·
   rcases h2 with h2 | ⟨h2,k2⟩
   ·
    exact Or.inl (by omega)
   ·
    exact Or.inr ⟨by omega,qjg k2 k1⟩
theorem ltA_one(x y:ByteArray×Int)(h1:ltOf qe7 x y=false)(h2:ltOf qe7 y x=false):x=y:=by
 rw[ltA_not] at h1 h2
 have:=qdk x.1.data.toList y.1.data.toList
 have e1:x.2=y.2:=by omega
 have e2:x.1.data.toList=y.1.data.toList:=qcr (by omega)
 rcases x with ⟨⟨⟨a⟩⟩,g⟩
 rcases y with ⟨⟨⟨b⟩⟩,k⟩
 simp only[] at e1 e2
 rw[e1,e2]
def qgr(es:List (ByteArray×Int)):List (ByteArray×Int):=es.mergeSort fun x y => !(ltOf qe7) y x
theorem rank_perm(es:List (ByteArray×Int)):(qgr es).Perm es:=List.mergeSort_perm _ _
theorem rank_sorted(es:List (ByteArray×Int)):(qgr es).Pairwise fun x y=>ltOf qe7 y x=false:=by
 have:=List.pairwise_mergeSort (le:=fun x y:ByteArray×Int => !(ltOf qe7) y x) (fun a b c h1 h2=>by
  simp only[Bool.not_eq_true'] at *
  exact ltA_swo.ntrans _ _ _ h2 h1) (fun a b=>by
  cases h:ltOf qe7 b a
  ·
   rfl
  ·
   cases h2:ltOf qe7 a b
   ·
    rfl
   ·
    have:=ltA_swo.trans _ _ _ h h2
    rw[ltA_swo.irrefl] at this
    cases this) es
 exact this.imp fun h=>by simpa using h
def keyA(e:ByteArray×Int):List UInt8:=e.1.data.toList
structure Coll (P:List (List UInt8)) (left:List UInt8→Bool) (es:List (ByteArray×Int)):Prop where
 once:(es.map keyA).Nodup
 mem:∀x,x∈es.map keyA↔(x∈P∧left x=false)
 gain:∀e∈es,e.2=(qnf P (keyA e):Nat)
theorem Coll.few{P:List (List UInt8)}{left:List UInt8→Bool}{es:List (ByteArray×Int)}(h:Coll P left es):es.length≤P.length:=by
 have:=h.once.length_le_of_subset (l₂:=P) fun x hx=>((h.mem x).1 hx).1
 rwa [q8] at this
theorem Coll.nil{P:List (List UInt8)}{left:List UInt8→Bool}(h:∀x∈P,left x=true):Coll P left [] :=
 ⟨List.nodup_nil,fun x=>⟨fun hx=>(by cases hx),fun⟨h1,h2⟩=>(by rw[h x h1] at h2;cases h2)⟩,fun e he=>(by cases he)⟩
theorem Coll.snoc{P:List (List UInt8)}{left:List UInt8→Bool}{es:List (ByteArray×Int)}(h:Coll P left es){e:ByteArray×Int}(hp:keyA e∈P)(hl:left (keyA e)=true)(hg:e.2=(qnf P (keyA e):Nat)){left':List UInt8→Bool}
  (hl':∀x,left' x=(left x && !decide (x=keyA e))):Coll P left' (es++[e]):=by
 have hne:keyA e∉es.map keyA:=fun hx=>by
  have:=((h.mem _).1 hx).2
  rw[hl] at this
  cases this
 refine⟨?_,fun x => ?_,fun f hf => ?_⟩
 ·
  rw[jg,List.nodup_append]
  refine⟨h.once,by simp,fun a ha b hb => ?_⟩
  rw[List.map_singleton,zo] at hb
  subst hb
  exact fun e1=>hne (e1 ▸ ha)
 ·
  rw[jg,zt,h.mem,List.map_singleton,zo,hl']
  by_cases hx:x=keyA e
  ·
   subst hx
   simp[hp]
  ·
   simp[hx]
 ·
  rcases zt.1 hf with hf | hf
  ·
   exact h.gain f hf
  ·
   rw[zo.1 hf]
   exact hg
theorem Coll.top{P:List (List UInt8)}{left:List UInt8→Bool}{es:List (ByteArray×Int)}(h:Coll P left es)(hl:∀x∈P,left x=false):TopOf P (((qgr es).take 255).map keyA):=by
 have hperm:=rank_perm es
 have hnd:((qgr es).map keyA).Nodup:=(hperm.map keyA).nodup_iff.2 h.once
 have hsplit:(qgr es).take 255++(qgr es).drop 255=qgr es:=zx _ _
 have hmem:∀e,e∈qgr es↔e∈es:=fun e=>hperm.mem_iff
 have hin:∀e∈es,keyA e∈P:=fun e he=>((h.mem _).1 (zn.2 ⟨e,he,rfl⟩)).1
 refine⟨?_,by rw[q8,qy];omega,fun x hx => ?_,fun y hy hn => ?_⟩
 ·
  rw[←hsplit,jg] at hnd
  exact(List.nodup_append.1 hnd).1
 ·
  obtain⟨e,he,rfl⟩:=zn.1 hx
  exact hin e ((hmem e).1 (xk he))
 ·
  obtain⟨e,he,rfl⟩:=zn.1 ((h.mem y).2 ⟨hy,hl y hy⟩)
  have he2:e∈(qgr es).drop 255:=by
   have h1:=(hmem e).2 he
   rw[←hsplit] at h1
   rcases zt.1 h1 with h1 | h1
   ·
    exact absurd (zn.2 ⟨e,h1,rfl⟩) hn
   ·
    exact h1
  have hlen:255<(qgr es).length:=by
   have:=List.length_pos_of_mem he2
   rw[qu] at this
   omega
  refine⟨by rw[q8,qy];omega,fun x hx => ?_⟩
  obtain⟨f,hf,rfl⟩:=zn.1 hx
  have hs:=rank_sorted es
  rw[←hsplit,List.pairwise_append] at hs
  have h1:=hs.2.2 f hf e he2
  have hfe:f∈es:=(hmem f).1 (xk hf)
  have h2:ltOf qe7 f e=true:=by
   cases h3:ltOf qe7 f e
   ·
    exact absurd (ltA_one f e h3 h1 ▸ hx) hn
   ·
    rfl
  rw[ltA] at h2
  rw[h.gain f hfe,h.gain e he] at h2
  unfold qgt
  rcases h2 with h2 | ⟨h2,h4⟩
  ·
   exact Or.inl (by omega)
  ·
   exact Or.inr ⟨by omega,h4⟩
end
theorem qmj{t:List (List UInt8)}(h:yy t=true):t.length≤255∧∀s∈j7 t,s.size≤8:=by
 obtain⟨h1,h2, -⟩:=uy.1 h
 refine⟨h1,fun s hs => ?_⟩
 obtain⟨x,hx,rfl⟩:=zn.1 hs
 have:=(qfu.1 (h2 x hx)).2
 show x.toArray.size≤8
 simpa using this
theorem dic_of(S:List (List UInt8)):qb9 S (qko S):=by
 have h:=qkn S
 rw[dicS_is h]
 exact h
theorem dec_all{T:List (List UInt8)}(hT:T.length≤255){l:List UInt8}(hl:l.length≤4096):(qe3 T 4096 (kh T l) [] 0).1=l∧(qe3 T 4096 (kh T l) [] 0).2.1=0:=by
 obtain⟨k,hk⟩:=dec_enc hT l
 have h:=hk 4096 [] [] 0 (by simp;omega)
 rw[jj] at h
 rw[h,qe3]
 exact⟨yk _,rfl⟩
noncomputable def qbs (l:List Vl)(o:Co):Chk :=
 if yu (qw l) o=2 then ⟨2,xf l,(qm (qw l)).map (kh (uc (qw l) o)),uc (qw l) o,[],[]⟩
 else if yu (qw l) o=3 then ⟨3,xf l,[],[],qko (qm (qw l)),qc2 (qko (qm (qw l))) (qm (qw l))⟩
 else ⟨1,xf l,qm (qw l),[],[],[]⟩
theorem ql7(l:List Vl)(o:Co):(qbs l o).there=xf l:=by
 unfold qbs
 repeat' split
 all_goals rfl
theorem chkOf_kind{l:List Vl}{o:Co}(h:qa3 o):((qbs l o).kind:Int)=yu (qw l) o:=by
 have h1:=qhl (qw l) h
 unfold qbs
 split
 ·
  rename_i h2;rw[h2];rfl
 ·
  split
  ·
   rename_i h2;rw[h2];rfl
  ·
   show(1:Int)=_
   omega
theorem codeL_chk{l:List Vl}{o:Co}(h:qa3 o):qeh l o=qh1 o.block.toNat (qbs l o):=by
 have hk:=chkOf_kind (l:=l) h
 have h1:=qhl (qw l) h
 unfold qeh qh1
 rw[←hk,ql7,vf]
 refine congrArg _ (congrArg _ ?_)
 rcases h1 with h1 | h1 | h1
 ·
  have e:qbs l o=⟨1,xf l,qm (qw l),[],[],[]⟩:=by rw[qbs,if_neg (by omega),if_neg (by omega)]
  rw[e,yj,if_neg (by simp),if_neg (by simp)]
  rfl
 ·
  have e:qbs l o=⟨2,xf l,(qm (qw l)).map (kh (uc (qw l) o)),uc (qw l) o,[],[]⟩:=by rw[qbs,if_pos h1]
  rw[e,yj,if_pos (by simp)]
  rfl
 ·
  have e:qbs l o=⟨3,xf l,[],[],qko (qm (qw l)),qc2 (qko (qm (qw l))) (qm (qw l))⟩:=by rw[qbs,if_neg (by omega),if_pos h1]
  rw[e,yj,if_neg (by simp),if_pos (by simp)]
  rfl
theorem qj2(s:ByteArray):s.data.toList.length=s.size:=by simp
theorem chkOf_ok{l:List Vl}{o:Co}(hf:kj l)(hc:qa3 o)(ht:yu (qw l) o=2→yy (uc (qw l) o)=true):ChkOk (qbs l o):=by
 have hts:∀s∈qw l,s.size≤4096:=fun s hs=>by obtain⟨v,hv,rfl⟩:=qgv hs;exact(hf.2 v hv).1
 have hbs:∀x∈qm (qw l),x.length≤4096:=fun x hx=>by
  obtain⟨s,hs,rfl⟩:=zn.1 hx
  rw[qj2]
  exact hts s hs
 have hln:(qm (qw l)).length=cnt (xf l):=by rw[qx,texts_cnt]
 have h4:(xf l).length≤4096:=by rw[uh];exact hf.1
 have h1:=qhl (qw l) hc
 rcases h1 with h1 | h1 | h1
 ·
  have e:qbs l o=⟨1,xf l,qm (qw l),[],[],[]⟩:=by rw[qbs,if_neg (by omega),if_neg (by omega)]
  rw[e]
  exact⟨h4,.inl ⟨rfl,hln,hbs,rfl,rfl,rfl⟩⟩
 ·
  have e:qbs l o=⟨2,xf l,(qm (qw l)).map (kh (uc (qw l) o)),uc (qw l) o,[],[]⟩:=by rw[qbs,if_pos h1]
  rw[e]
  have hr:=ht h1
  have h255:=(qmj hr).1
  refine⟨h4,.inr (.inl ⟨rfl,by rw[q8];exact hln,hr,fun x hx => ?_,rfl,rfl⟩)⟩
  obtain⟨y,hy,rfl⟩:=zn.1 hx
  obtain⟨d1,d2⟩:=dec_all h255 (hbs y hy)
  refine⟨?_,ze (qm1 _ y) (by have:=hbs y hy;omega)⟩
  rw[qfq,d1,d2]
  simp
 ·
  have e:qbs l o=⟨3,xf l,[],[],qko (qm (qw l)),qc2 (qko (qm (qw l))) (qm (qw l))⟩:=by rw[qbs,if_neg (by omega),if_pos h1]
  rw[e]
  have hd:=dic_of (qm (qw l))
  have hlt:(qm (qw l)).length≤4096:=by rw[qx];exact ze (qf8 l) hf.1
  refine⟨h4,.inr (.inr ⟨rfl,rfl,rfl,hd.dic hlt hbs,by rw[←hln];simp[qc2],fun x hx => ?_⟩)⟩
  obtain⟨y,hy,rfl⟩:=zn.1 hx
  exact jaf ((hd.2 y).2 hy)
theorem chkOf_str{l:List Vl}{o:Co}(hf:kj l)(hc:qa3 o)(ht:yu (qw l) o=2→yy (uc (qw l) o)=true):qfx (qbs l o)=qw l:=by
 have hts:∀s∈qw l,s.size≤4096:=fun s hs=>by obtain⟨v,hv,rfl⟩:=qgv hs;exact(hf.2 v hv).1
 have h1:=qhl (qw l) hc
 rcases h1 with h1 | h1 | h1
 ·
  have e:qbs l o=⟨1,xf l,qm (qw l),[],[],[]⟩:=by rw[qbs,if_neg (by omega),if_neg (by omega)]
  rw[e,qfx,if_neg (by simp),if_neg (by simp)]
  exact qdu _
 ·
  have e:qbs l o=⟨2,xf l,(qm (qw l)).map (kh (uc (qw l) o)),uc (qw l) o,[],[]⟩:=by rw[qbs,if_pos h1]
  rw[e,qfx,if_pos (by simp)]
  have h255:=(qmj (ht h1)).1
  show((qm (qw l)).map (kh (uc (qw l) o))).map (fun b=>(⟨(qe3 (uc (qw l) o) 4096 b [] 0).1.toArray⟩:ByteArray))=qw l
  generalize uc (qw l) o=T at *
  generalize qw l=S at *
  clear e h1 ht hf
  induction S with
  | nil=>rfl
  | cons a S ih =>
   have h2:=(dec_all h255 (l:=a.data.toList) (by rw[qj2];exact hts a jb)).1
   have h3:=ih (fun s hs=>hts s (jm _ hs))
   show(⟨(qe3 T 4096 (kh T a.data.toList) [] 0).1.toArray⟩:ByteArray) :: _=a :: S
   rw[h2]
   exact congrArg _ h3
 ·
  have e:qbs l o=⟨3,xf l,[],[],qko (qm (qw l)),qc2 (qko (qm (qw l))) (qm (qw l))⟩:=by rw[qbs,if_neg (by omega),if_pos h1]
  rw[e,qfx,if_neg (by simp),if_pos (by simp)]
  have hd:=(dic_of (qm (qw l))).2
  show(qc2 (qko (qm (qw l))) (qm (qw l))).map (fun n=>(j7 (qko (qm (qw l)))).getD n ⟨#[]⟩)=qw l
  generalize qko (qm (qw l))=D at *
  generalize qw l=S at *
  have hm:∀s∈S,s.data.toList∈D:=fun s hs=>(hd _).2 (xq hs)
  clear hd e h1 hts ht hf
  induction S with
  | nil=>rfl
  | cons a S ih =>
   have h2:=hm a jb
   have hlt:=jaf h2
   have h3:=ih (fun s hs=>hm s (jm _ hs))
   show(j7 D).getD (D.idxOf a.data.toList) ⟨#[]⟩ :: _=a :: S
   rw[yw,qe (by rw[yo];exact hlt)]
   have e:(j7 D)[D.idxOf a.data.toList]'(by rw[yo];exact hlt)=⟨(D[D.idxOf a.data.toList]).toArray⟩:=by simp[j7]
   show(j7 D)[D.idxOf a.data.toList]'(by rw[yo];exact hlt) :: _=a :: S
   rw[e,List.getElem_idxOf hlt]
   exact congrArg _ h3
theorem chkOf_vals{l:List Vl}{o:Co}(hf:kj l)(hc:qa3 o)(ht:yu (qw l) o=2→yy (uc (qw l) o)=true):qbn (qbs l o)=l:=by
 rw[qbn,chkOf_str hf hc ht,ql7]
 exact qqz hf.2
section
set_option maxRecDepth 20000
set_option exponentiation.threshold 2000
open Ieee
theorem qbp{P:Program}{w:World}(a:Addr)(m:Mode)(k:FloatKind)(x y:Nat):(store a (.complex k x y) m).run P w=stored P w a (.complex k x y) m:=run_store P w a _ m rfl
def fl(n:Nat):Nat:=floatOfInt .f64 (n:Int)
end
section
attribute [local go_sem] qbp
structure PayIn (w:World) (l:List ByteArray) (kd bl ro:Int) (ds:List Int) (A B:Option Addr) (c d:Nat):Prop where
 rd:Rd w 0 w.heap.size A c (sv l)
 dr:Rd w 0 w.heap.size B d (iv ds)
 word:qj8 ds
 ok:qa3 ⟨kd,bl,ro,ds⟩
 few:l.length≤4096
 draws:ds.length≤400
 size:∀s∈l,s.size≤4096
theorem PayIn.on{w w':World}{l:List ByteArray}{kd bl ro:Int}{ds:List Int}{A B:Option Addr}{c d:Nat}(h:PayIn w l kd bl ro ds A B c d)(hb:Below w.heap.size w w'):PayIn w' l kd bl ro ds A B c d :=
 ⟨(h.rd.below hb (qc _)).wide (qc _) hb.size,(h.dr.below hb (qc _)).wide (qc _) hb.size,h.word,h.ok,h.few,h.draws,h.size⟩
theorem PayIn.kind{w:World}{l:List ByteArray}{kd bl ro:Int}{ds:List Int}{A B:Option Addr}{c d:Nat}(h:PayIn w l kd bl ro ds A B c d){k:Int}(h0:0≤k)(h3:k≤3):PayIn w l k bl ro ds A B c d :=
 ⟨h.rd,h.dr,h.word,⟨h0,h3,h.ok.2.2⟩,h.few,h.draws,h.size⟩
theorem qqf{r:List (List UInt8)}{m n:Nat}(h:∀x∈r,x.length≤m)(hm:m≤10000)(hn:r.length≤n)(hn2:n≤10000:=by omega):(uu r).length≤21574836475:=by
 have h1:=ql3 h
 have h2:=qab (zs:=zu (r.map List.length)) (qju (m:=10000) (by omega) fun x hx=>by have:=h x hx;omega) (by rw[zj,q8];omega)
 have h3:m*r.length≤10000*10000:=vz hm (by omega)
 rw[uu,qd]
 omega
def PayC(l:List ByteArray)(kd bl ro:Int)(ds:List Int)(A B:Option Addr)(c d:Nat):Prop:=∀ {w:World},PayIn w l kd bl ro ds A B c d→
  Calls Tryz.prog 153 #[.slice A l.length c,.agg #[.int .i64 kd,.int .i64 bl,.int .i64 ro,.slice B ds.length d]] w fun r w'=>∃A' c',r= .returned (.slice A' (yj l ⟨kd,bl,ro,ds⟩ kd).length c')∧
   w'.ownsRow w.heap.size 5 1 (.slice A' (yj l ⟨kd,bl,ro,ds⟩ kd).length c') (yj l ⟨kd,bl,ro,ds⟩ kd).length (bv (yj l ⟨kd,bl,ro,ds⟩ kd))∧Below w.heap.size w w'∧(yj l ⟨kd,bl,ro,ds⟩ kd).length≤1000000000000∧(kd=2→yy (uc l ⟨kd,bl,ro,ds⟩)=true)
theorem payload_one{l:List ByteArray}{bl ro:Int}{ds:List Int}{A B:Option Addr}{c d:Nat}:PayC l 1 bl ro ds A B c d:=by
 intro w h
 obtain⟨w1,hw1⟩:∃w1,w.alloc (.cells #[.int .i64 1,.int .i64 bl,.int .i64 ro,.slice B ds.length d] 76)=w1:=⟨_,rfl⟩
 have B1:Hid (Below w.heap.size w w1):=by unfold Hid;rw[←hw1];exact(Below.refl _ w).alloc (qc _) _
 have hs1:=B1.out.size
 have hbx:j6 w1 w.heap.size 76 #[.int .i64 1,.int .i64 bl,.int .i64 ro,.slice B ds.length d]:=by rw[←hw1];exact j6.new w _ _
 have b0:w1.cell? ⟨w.heap.size,0,none⟩=some (.int .i64 1):=hbx.cell 0
 have b1:w1.cell? ⟨w.heap.size,1,none⟩=some (.int .i64 bl):=hbx.cell 1
 have b2:w1.cell? ⟨w.heap.size,2,none⟩=some (.int .i64 ro):=hbx.cell 2
 have b3:w1.cell? ⟨w.heap.size,3,none⟩=some (.slice B ds.length d):=hbx.cell 3
 have h1:=h.on B1.out
 have hn:=h.few
 have hsz:=h.size
 have HP:=qa (plain_v (w:=w1) l h1.rd (by omega) (fun s hs=>ze (h1.size s hs) (by omega)))
 clear h h1 hbx
 have hsz1:∀x∈qm l,x.length≤4096:=fun x hx=>by obtain⟨s,hs,rfl⟩:=zn.1 hx;exact hsz s hs
 have hnl:(qm l).length≤4096:=by rw[qx];exact hn
 have HL1:=qa (qqf hsz1 (by omega) hnl)
 clear hsz1 hnl hsz
 go_enter Tryz.func153,Tryz.ntmps153
 have e:yj l ⟨1,bl,ro,ds⟩ 1=uu (qm l):=by rw[yj,if_neg (by decide),if_neg (by decide)]
 rw[e]
 go_wp2_with fail
 refine HP.out.mono ?_
 rintro r w2 ⟨A2,c2,rfl,ho,hb⟩
 go_wp2_with fail
 go_ret
 exact⟨_,_,rfl,j4 ho hs1,qz B1.out hb hs1,by have:=HL1.out;omega,fun h=>absurd h (by decide)⟩
theorem code_kW{w:World}{l:List ByteArray}{kd bl ro:Int}{ds:List Int}{A B:Option Addr}{c d:Nat}(h:PayIn w l kd bl ro ds A B c d)(hk:1≤kd)(hpay:PayC l kd bl ro ds A B c d) :
  Calls Tryz.prog 110 #[.slice A l.length c,.agg #[.int .i64 kd,.int .i64 bl,.int .i64 ro,.slice B ds.length d]] w fun r w'=>∃A' c',r= .returned (.agg #[.int .i64 kd,.slice A' (yj l ⟨kd,bl,ro,ds⟩ kd).length c',.complex .f64 (fl (yj l ⟨kd,bl,ro,ds⟩ kd).length) (fl l.length)])∧
   Rd w' w.heap.size w'.heap.size A' c' (bv (yj l ⟨kd,bl,ro,ds⟩ kd))∧Below w.heap.size w w'∧(yj l ⟨kd,bl,ro,ds⟩ kd).length≤1000000000000∧(kd=2→yy (uc l ⟨kd,bl,ro,ds⟩)=true):=by
 obtain⟨w1,hw1⟩:∃w1,(w.alloc (.cells #[.int .i64 kd,.int .i64 bl,.int .i64 ro,.slice B ds.length d] 76)).alloc (.cells #[.int .i64 0,.slice none 0 0,.complex .f64 0 0] 152)=w1:=⟨_,rfl⟩
 have B1:Hid (Below w.heap.size w w1):=by unfold Hid;rw[←hw1];exact((Below.refl _ w).alloc (qc _) _).alloc (by simp) _
 have hs1:=B1.out.size
 have hs2:w1.heap.size=w.heap.size+1+1:=by rw[←hw1];simp
 have hs3:w.heap.size+1<w1.heap.size:=by omega
 have hbx:j6 w1 w.heap.size 76 #[.int .i64 kd,.int .i64 bl,.int .i64 ro,.slice B ds.length d]:=by rw[←hw1];exact(j6.new w _ _).alloc _
 have hrx:j6 w1 (w.heap.size+1) 152 #[.int .i64 0,.slice none 0 0,.complex .f64 0 0]:=by
  rw[←hw1]
  have:=j6.new (w.alloc (.cells #[.int .i64 kd,.int .i64 bl,.int .i64 ro,.slice B ds.length d] 76)) 152 #[.int .i64 0,.slice none 0 0,.complex .f64 0 0]
  simpa using this
 have b0:w1.cell? ⟨w.heap.size,0,none⟩=some (.int .i64 kd):=hbx.cell 0
 have b1:w1.cell? ⟨w.heap.size,1,none⟩=some (.int .i64 bl):=hbx.cell 1
 have b2:w1.cell? ⟨w.heap.size,2,none⟩=some (.int .i64 ro):=hbx.cell 2
 have b3:w1.cell? ⟨w.heap.size,3,none⟩=some (.slice B ds.length d):=hbx.cell 3
 have HBX:=qa hbx
 have HRX:=qa hrx
 have HP:=qa (hpay (w:=w1) (h.on B1.out))
 have hne:¬kd=0:=by omega
 clear hpay
 clear h hbx hrx hs2
 generalize yj l ⟨kd,bl,ro,ds⟩ kd=P at *
 generalize uc l ⟨kd,bl,ro,ds⟩=T at *
 go_enter Tryz.func110,Tryz.ntmps110
 go_wp2_with fail
 refine HP.out.mono ?_
 rintro r w2 ⟨A2,c2,rfl,ho,hb,hpl,hrt⟩
 have hb0:w2.cell? ⟨w.heap.size,0,none⟩=some (.int .i64 kd):=(HBX.out.below hb (by omega)).cell 0
 have hr2:=HRX.out.below hb hs3
 have r0:w2.cell? ⟨w.heap.size+1,0,none⟩=some (.int .i64 0):=hr2.cell 0
 have r1:w2.cell? ⟨w.heap.size+1,1,none⟩=some (.slice none 0 0):=hr2.cell 1
 have r2:w2.cell? ⟨w.heap.size+1,2,none⟩=some (.complex .f64 0 0):=hr2.cell 2
 have f0:=hr2.frozen 0
 have f1:=hr2.frozen 1
 have f2:=hr2.frozen 2
 have HO:=qa ho
 have HB:=qa hb
 have HPL:=qa hpl
 have HRT:=qa hrt
 have HR2:=qa hr2
 have hsz2:=hb.size
 clear ho hb hr2 hpl hrt HP HBX HRX b0 b1 b2 b3 hw1
 go_wp2_with fail
 have hr3:=((HR2.out.put 0 (.int .i64 kd)).put 1 (.slice A2 P.length c2)).put 2 (.complex .f64 (fl P.length) (fl l.length))
 refine bodyPost_ret (v:= .agg #[.int .i64 kd,.slice A2 P.length c2,.complex .f64 (fl P.length) (fl l.length)]) ?_ rfl ⟨A2,c2,rfl,?_,?_,HPL.out,HRT.out⟩
 ·
  exact results_cell_row rfl _ _ (w.heap.size+1) 152 #[.int .i64 kd,.slice A2 P.length c2,.complex .f64 (fl P.length) (fl l.length)] (0,0) _ rfl hr3 Tryz.underlying152 rfl (by kernel_rfl)
 ·
  refine((((Rd.of_own HO.out).setCell (p:=⟨w.heap.size+1,0,none⟩) (.inl ?_) _).setCell (p:=⟨w.heap.size+1,1,none⟩) (.inl ?_) _).setCell (p:=⟨w.heap.size+1,2,none⟩) (.inl ?_) _).wide (by omega) (by simp)
  all_goals (show w.heap.size+1<w1.heap.size;omega)
 ·
  exact((((B1.out.trans (HB.out.mono hs1)).setCell (p:=⟨w.heap.size+1,0,none⟩) (by show w.heap.size≤w.heap.size+1;omega) _).setCell (p:=⟨w.heap.size+1,1,none⟩) (by show w.heap.size≤w.heap.size+1;omega) _).setCell (p:=⟨w.heap.size+1,2,none⟩) (by show w.heap.size≤w.heap.size+1;omega) _)
end
section
attribute [local go_sem] qbp
structure CIn (w:World) (L:List Vl) (kd bl ro:Int) (ds:List Int) (A B:Option Addr) (c d:Nat):Prop where
 row:Row w 0 w.heap.size A c L
 dr:Rd w 0 w.heap.size B d (iv ds)
 word:qj8 ds
 draws:ds.length≤400
theorem CIn.on{w w':World}{L:List Vl}{kd bl ro:Int}{ds:List Int}{A B:Option Addr}{c d:Nat}(h:CIn w L kd bl ro ds A B c d)(hb:Below w.heap.size w w'):CIn w' L kd bl ro ds A B c d :=
 ⟨(h.row.below hb (qc _)).wide (qc _) hb.size,(h.dr.below hb (qc _)).wide (qc _) hb.size,h.word,h.draws⟩
theorem CIn.kind{w:World}{L:List Vl}{kd bl ro:Int}{ds:List Int}{A B:Option Addr}{c d:Nat}(h:CIn w L kd bl ro ds A B c d)(k:Int):CIn w L k bl ro ds A B c d:=⟨h.row,h.dr,h.word,h.draws⟩
def qmd(L:List Vl)(o:Co):Prop:=kj L∧qa3 o
instance (L:List Vl) (o:Co):Decidable (qmd L o):=by unfold qmd;infer_instance
theorem qmd.few{L:List Vl}{o:Co}(h:qmd L o):(qw L).length≤4096∧∀s∈qw L,s.size≤4096 :=
 ⟨ze (qf8 L) h.1.1,fun s hs=>by obtain⟨v,hv,rfl⟩:=qgv hs;exact(h.1.2 v hv).1⟩
theorem measure_no{w:World}{L:List Vl}{kd bl ro:Int}{ds:List Int}{A B:Option Addr}{c d:Nat}(h:CIn w L kd bl ro ds A B c d)(hm:¬qmd L ⟨kd,bl,ro,ds⟩) :
  Calls Tryz.prog 69 #[.slice A L.length c,.agg #[.int .i64 kd,.int .i64 bl,.int .i64 ro,.slice B ds.length d]] w fun r w'=>r= .returned (.tuple #[.complex .f64 0 0,.int .i64 1])∧Below w.heap.size w w':=by
 obtain⟨w1,hw1⟩:∃w1,w.alloc (.cells #[.int .i64 kd,.int .i64 bl,.int .i64 ro,.slice B ds.length d] 76)=w1:=⟨_,rfl⟩
 have B1:Hid (Below w.heap.size w w1):=by unfold Hid;rw[←hw1];exact(Below.refl _ w).alloc (qc _) _
 have hs1:w.heap.size<w1.heap.size:=by rw[←hw1];simp
 have hbx:j6 w1 w.heap.size 76 #[.int .i64 kd,.int .i64 bl,.int .i64 ro,.slice B ds.length d]:=by rw[←hw1];exact j6.new w _ _
 have h1:=h.on B1.out
 have HF:=qa (fits_v (w:=w1) L h1.row)
 obtain⟨f,hf⟩:∃f,decide (kj L)=f:=⟨_,rfl⟩
 rw[hf] at HF
 have HR:Hid (∀W,Below w1.heap.size w1 W→Calls Tryz.prog 109 #[.agg #[.int .i64 kd,.int .i64 bl,.int .i64 ro,.slice B ds.length d]] W fun r w'=>r= .returned (.bool (decide (qa3 ⟨kd,bl,ro,ds⟩)))∧Below W.heap.size W w'):=fun W hW=>right_v ⟨kd,bl,ro,ds⟩ (h1.on hW).dr
 obtain⟨g,hg⟩:∃g,decide (qa3 ⟨kd,bl,ro,ds⟩)=g:=⟨_,rfl⟩
 rw[hg] at HR
 have hfg:f=false∨g=false:=by
  by_cases h2:kj L
  ·
   exact .inr (by rw[←hg];exact ql fun h3=>hm ⟨h2,h3⟩)
  ·
   exact .inl (by rw[←hf];exact ql h2)
 have HBX:=qa hbx
 clear h h1 hm hbx hf hg
 go_enter Tryz.func69,Tryz.ntmps69
 go_wp2_with fail
 refine HF.out.mono ?_
 rintro r w2 ⟨rfl,hb2⟩
 have hb:=HBX.out.below hb2 hs1
 have b0:w2.cell? ⟨w.heap.size,0,none⟩=some (.int .i64 kd):=hb.cell 0
 have b1:w2.cell? ⟨w.heap.size,1,none⟩=some (.int .i64 bl):=hb.cell 1
 have b2:w2.cell? ⟨w.heap.size,2,none⟩=some (.int .i64 ro):=hb.cell 2
 have b3:w2.cell? ⟨w.heap.size,3,none⟩=some (.slice B ds.length d):=hb.cell 3
 have HB2:=qa hb2
 have K2:Hid (Below w.heap.size w w2):=B1.out.trans (hb2.mono (by omega))
 have hs2:=K2.out.size
 clear hb2 hb hw1 HF
 cases f with
 | false =>
  go_wp2_with fail
  go_ret2
  exact⟨rfl,K2.out⟩
 | true =>
  obtain rfl:g=false:=by simpa using hfg
  go_wp2_with fail
  refine(HR.out _ HB2.out).mono ?_
  rintro r w3 ⟨rfl,hb3⟩
  go_wp2_with fail
  go_ret2
  exact⟨rfl,qz K2.out hb3 hs2⟩
-- CODE
theorem code_no{w:World}{L:List Vl}{kd bl ro:Int}{ds:List Int}{A B:Option Addr}{c d:Nat}(h:CIn w L kd bl ro ds A B c d)(hm:¬qmd L ⟨kd,bl,ro,ds⟩) :
  Calls Tryz.prog 71 #[.slice A L.length c,.agg #[.int .i64 kd,.int .i64 bl,.int .i64 ro,.slice B ds.length d]] w fun r w'=>r= .returned (.tuple #[.slice none 0 0,.int .i64 1])∧Below w.heap.size w w':=by
 obtain⟨w1,hw1⟩:∃w1,w.alloc (.cells #[.int .i64 kd,.int .i64 bl,.int .i64 ro,.slice B ds.length d] 76)=w1:=⟨_,rfl⟩
 have B1:Hid (Below w.heap.size w w1):=by unfold Hid;rw[←hw1];exact(Below.refl _ w).alloc (qc _) _
 have hs1:w.heap.size<w1.heap.size:=by rw[←hw1];simp
 have hbx:j6 w1 w.heap.size 76 #[.int .i64 kd,.int .i64 bl,.int .i64 ro,.slice B ds.length d]:=by rw[←hw1];exact j6.new w _ _
 have h1:=h.on B1.out
 have HF:=qa (fits_v (w:=w1) L h1.row)
 obtain⟨f,hf⟩:∃f,decide (kj L)=f:=⟨_,rfl⟩
 rw[hf] at HF
 have HR:Hid (∀W,Below w1.heap.size w1 W→Calls Tryz.prog 109 #[.agg #[.int .i64 kd,.int .i64 bl,.int .i64 ro,.slice B ds.length d]] W fun r w'=>r= .returned (.bool (decide (qa3 ⟨kd,bl,ro,ds⟩)))∧Below W.heap.size W w'):=fun W hW=>right_v ⟨kd,bl,ro,ds⟩ (h1.on hW).dr
 obtain⟨g,hg⟩:∃g,decide (qa3 ⟨kd,bl,ro,ds⟩)=g:=⟨_,rfl⟩
 rw[hg] at HR
 have hfg:f=false∨g=false:=by
  by_cases h2:kj L
  ·
   exact .inr (by rw[←hg];exact ql fun h3=>hm ⟨h2,h3⟩)
  ·
   exact .inl (by rw[←hf];exact ql h2)
 have HBX:=qa hbx
 clear h h1 hm hbx hf hg
 go_enter Tryz.func71,Tryz.ntmps71
 go_wp2_with fail
 refine HF.out.mono ?_
 rintro r w2 ⟨rfl,hb2⟩
 have hb:=HBX.out.below hb2 hs1
 have b0:w2.cell? ⟨w.heap.size,0,none⟩=some (.int .i64 kd):=hb.cell 0
 have b1:w2.cell? ⟨w.heap.size,1,none⟩=some (.int .i64 bl):=hb.cell 1
 have b2:w2.cell? ⟨w.heap.size,2,none⟩=some (.int .i64 ro):=hb.cell 2
 have b3:w2.cell? ⟨w.heap.size,3,none⟩=some (.slice B ds.length d):=hb.cell 3
 have HB2:=qa hb2
 have K2:Hid (Below w.heap.size w w2):=B1.out.trans (hb2.mono (by omega))
 have hs2:=K2.out.size
 clear hb2 hb hw1 HF
 cases f with
 | false =>
  go_wp2_with fail
  go_ret2
  exact⟨rfl,K2.out⟩
 | true =>
  obtain rfl:g=false:=by simpa using hfg
  go_wp2_with fail
  refine(HR.out _ HB2.out).mono ?_
  rintro r w3 ⟨rfl,hb3⟩
  go_wp2_with fail
  go_ret2
  exact⟨rfl,qz K2.out hb3 hs2⟩
theorem field_measure(W:World)(x y:Value)(a b:Nat):(Instr.field 152 (.agg #[x,y,.complex .f64 a b]) 2).run Tryz.prog W= .ok (.complex .f64 a b) W:=by kernel_rfl
def CodeC(l:List ByteArray)(kd bl ro:Int)(ds:List Int)(B:Option Addr)(d:Nat)(o:Co):Prop:=∀ {w:World} {A:Option Addr} {c:Nat},PayIn w l kd bl ro ds A B c d→
  Calls Tryz.prog 110 #[.slice A l.length c,.agg #[.int .i64 kd,.int .i64 bl,.int .i64 ro,.slice B ds.length d]] w fun r w'=>∃A' c',r= .returned (.agg #[.int .i64 (yu l o),.slice A' (yj l o (yu l o)).length c',.complex .f64 (fl (yj l o (yu l o)).length) (fl l.length)])∧
   Rd w' w.heap.size w'.heap.size A' c' (bv (yj l o (yu l o)))∧Below w.heap.size w w'∧(yj l o (yu l o)).length≤1000000000000∧(yu l o=2→yy (uc l o)=true)
theorem measure_yesW{w:World}{L:List Vl}{kd bl ro:Int}{ds:List Int}{A B:Option Addr}{c d:Nat}(h:CIn w L kd bl ro ds A B c d){o:Co}(ho:o=⟨kd,bl,ro,ds⟩)(hm:qmd L o)(hcode:CodeC (qw L) kd bl ro ds B d o) :
  Calls Tryz.prog 69 #[.slice A L.length c,.agg #[.int .i64 kd,.int .i64 bl,.int .i64 ro,.slice B ds.length d]] w fun r w'=>r= .returned (.tuple #[.complex .f64 (fl (yj (qw L) o (yu (qw L) o)).length) (fl (qw L).length),.int .i64 0])∧Below w.heap.size w w'∧
   (yj (qw L) o (yu (qw L) o)).length≤1000000000000∧(yu (qw L) o=2→yy (uc (qw L) o)=true):=by
 rw[ho] at hcode
 subst ho
 obtain⟨w1,hw1⟩:∃w1,w.alloc (.cells #[.int .i64 kd,.int .i64 bl,.int .i64 ro,.slice B ds.length d] 76)=w1:=⟨_,rfl⟩
 have B1:Hid (Below w.heap.size w w1):=by unfold Hid;rw[←hw1];exact(Below.refl _ w).alloc (qc _) _
 have hs1:w.heap.size<w1.heap.size:=by rw[←hw1];simp
 have hbx:j6 w1 w.heap.size 76 #[.int .i64 kd,.int .i64 bl,.int .i64 ro,.slice B ds.length d]:=by rw[←hw1];exact j6.new w _ _
 have h1:=h.on B1.out
 have HF:=qa (fits_v (w:=w1) L h1.row)
 rw[qp hm.1] at HF
 have HR:Hid (∀W,Below w1.heap.size w1 W→Calls Tryz.prog 109 #[.agg #[.int .i64 kd,.int .i64 bl,.int .i64 ro,.slice B ds.length d]] W fun r w'=>r= .returned (.bool true)∧Below W.heap.size W w'):=fun W hW=>by
  have:=right_v (w:=W) ⟨kd,bl,ro,ds⟩ (h1.on hW).dr
  rw[qp hm.2] at this
  exact this
 obtain⟨o,ho⟩:∃o:Co,o=⟨kd,bl,ro,ds⟩:=⟨_,rfl⟩
 have hL4:=hm.1.1
 have HT:Hid (∀W,Below w1.heap.size w1 W→Calls Tryz.prog 111 #[.slice A L.length c] W fun r w'=>∃A' c',r= .returned (.slice A' (qw L).length c')∧w'.ownsRow W.heap.size 9 1 (.slice A' (qw L).length c') (qw L).length (sv (qw L))∧Below W.heap.size W w'):=fun W hW=>texts_v L (h1.on hW).row (by omega)
 have HC:Hid (∀W A' c',Below w1.heap.size w1 W→Rd W 0 W.heap.size A' c' (sv (qw L))→Calls Tryz.prog 110 #[.slice A' (qw L).length c',.agg #[.int .i64 kd,.int .i64 bl,.int .i64 ro,.slice B ds.length d]] W fun r w'=>∃A'' c'',r= .returned (.agg #[.int .i64 (yu (qw L) o),.slice A'' (yj (qw L) o (yu (qw L) o)).length c'',.complex .f64 (fl (yj (qw L) o (yu (qw L) o)).length) (fl (qw L).length)])∧
   Rd w' W.heap.size w'.heap.size A'' c'' (bv (yj (qw L) o (yu (qw L) o)))∧Below W.heap.size W w'∧(yj (qw L) o (yu (qw L) o)).length≤1000000000000∧(yu (qw L) o=2→yy (uc (qw L) o)=true)):=fun W A' c' hW hr =>
  by rw[ho];exact hcode ⟨hr,(h1.on hW).dr,h.word,hm.2,hm.few.1,h.draws,hm.few.2⟩
 have HBX:=qa hbx
 rw[←ho]
 clear h h1 hm hbx ho
 generalize yu (qw L) o=j at *
 generalize yj (qw L) o j=P at *
 generalize uc (qw L) o=T at *
 generalize qw L=S at *
 have hfd:∀(W:World) (x y:Value),(Instr.field 152 (.agg #[x,y,.complex .f64 (fl P.length) (fl S.length)]) 2).run Tryz.prog W= .ok (.complex .f64 (fl P.length) (fl S.length)) W:=fun W x y=>field_measure W x y _ _
 go_enter Tryz.func69,Tryz.ntmps69
 go_wp2_with fail
 refine HF.out.mono ?_
 rintro r w2 ⟨rfl,hb2⟩
 have hb:=HBX.out.below hb2 hs1
 have b0:w2.cell? ⟨w.heap.size,0,none⟩=some (.int .i64 kd):=hb.cell 0
 have b1:w2.cell? ⟨w.heap.size,1,none⟩=some (.int .i64 bl):=hb.cell 1
 have b2:w2.cell? ⟨w.heap.size,2,none⟩=some (.int .i64 ro):=hb.cell 2
 have b3:w2.cell? ⟨w.heap.size,3,none⟩=some (.slice B ds.length d):=hb.cell 3
 have HB2:=qa hb2
 clear hb2 hb hw1 HF
 go_wp2_with fail
 refine(HR.out _ HB2.out).mono ?_
 rintro r w3 ⟨rfl,hb3⟩
 have K3:Hid (Below w1.heap.size w1 w3):=HB2.out.trans (hb3.mono HB2.out.size)
 have HCF:Hid (∀W,Below w3.heap.size w3 W→W.cell? ⟨w.heap.size,0,none⟩=some (.int .i64 kd)∧W.cell? ⟨w.heap.size,1,none⟩=some (.int .i64 bl)∧W.cell? ⟨w.heap.size,2,none⟩=some (.int .i64 ro)∧W.cell? ⟨w.heap.size,3,none⟩=some (.slice B ds.length d)):=fun W hW=>by
  have hk:=HBX.out.below (K3.out.trans (hW.mono K3.out.size)) hs1
  exact⟨hk.cell 0,hk.cell 1,hk.cell 2,hk.cell 3⟩
 have hS0:=HCF.out _ (Below.refl _ _)
 have hS1:=HCF.out _ ((Below.refl _ _).drew)
 have KD:Hid (Below w3.heap.size w3 w3.drew):=(Below.refl _ _).drew
 have hsz3:=K3.out.size
 clear hb3 HB2 b0 b1 b2 b3 HR HBX
 go_wp2_with fail
 go_region_held3 (fun w'=>w'.cell? ⟨w.heap.size,0,none⟩=some (.int .i64 kd)∧w'.cell? ⟨w.heap.size,1,none⟩=some (.int .i64 bl)∧w'.cell? ⟨w.heap.size,2,none⟩=some (.int .i64 ro)∧w'.cell? ⟨w.heap.size,3,none⟩=some (.slice B ds.length d)) (first | assumption | go_keep) (first
  | (go_at_call 110;have ht2:=HT2.out;refine(HC.out _ _ _ (K3.out.trans (KY.out.mono K3.out.size)) ht2).mono ?_;rintro r wz ⟨A3,c3,rfl,hr3,hbz,hpl,hrt⟩;have HR3:=qa hr3;have HPL:=qa hpl;have HRT:=qa hrt;have KZ:Hid (Below w3.heap.size w3 wz):=KY.out.trans (hbz.mono KY.out.size);have hSz:=HCF.out _ KZ.out;clear hbz hr3 hpl hrt)
  | (go_at_call 111;refine(HT.out _ (K3.out.trans (KD.out.mono K3.out.size))).mono ?_;rintro r wy ⟨A2,c2,rfl,ho2,hby⟩;have HT2:=qa ((Rd.of_own ho2).wide (qi _) (qc _));have KY:Hid (Below w3.heap.size w3 wy):=KD.out.trans (hby.mono KD.out.size);have hSy:=HCF.out _ KY.out;clear hby ho2))
 go_wp2_with fail
 go_ret2
 exact⟨rfl,B1.out.trans ((K3.out.trans (KZ.out.mono K3.out.size)).mono (by omega)),HPL.out,HRT.out⟩
end
end Go.Proofs.YtnjkipnklpkaoaaGreat
