/-
  Lemmas.
-/
import Derived.Test.YtnjkipnklpkaoaaGreatA35
import Derived.Test.YtnjkipnklpkaoaaGreatA44
namespace Go.Proofs.YtnjkipnklpkaoaaGreat
open Go.RowKit
set_option maxRecDepth 20000
set_option maxHeartbeats 16000000
set_option linter.unusedSimpArgs false
set_option linter.unusedVariables false
theorem qlw{ops:Array Oper}{rest:List Oper}{o:Oper}{a:Act}{Q:Exit→Act→World→Prop}{w:World}{v:Value}{g:Nat}(base:Nat)(ys:List Int)(z:Int)(hgd:o.guard=none)(s x:Operand)
  (ho:o.op= .call { callee:= .builtin .append,args:=#[s,x],argTypes:=#[64,64] }) (hty:o.type=64)
  (hs:a.eval s=v) (hx:a.eval x= .slice (some ⟨g,0,none⟩) 1 1) (hcell:w.cell? ⟨g,0,none⟩=some (.int .i64 z))
  (hown:w.ownsRow base 3 1 v ys.length (iv ys)) (hb:ys.length+1≤17592186044416) (hbase:base≤w.heap.size)
  (h:∀A' c' w',w'.ownsRow base 3 1 (.slice A' (ys.length+1) c') (ys.length+1) (iv (ys++[z]))→w.grownBy w' v.ownBlock→((Value.slice A' (ys.length+1) c').ownBlock=v.ownBlock∨(Value.slice A' (ys.length+1) c').ownBlock=some w.heap.size)→wpList Tryz.prog ops Q rest (a.put o.dst (.slice A' (ys.length+1) c')) w') :
  wpList Tryz.prog ops Q (o :: rest) a w:=by
 have hr:Rd w 0 w.heap.size (some ⟨g,0,none⟩) 1 (iv [z]):=⟨by simp[iv],by simp[maxLen],fun _=>⟨g,0,rfl,qi _,yv w _ hcell,fun j u hu=>by
  match j,hu with
  | 0,hu =>
   simp[iv] at hu
   subst hu
   exact hcell
  | j+1,hu=>simp[iv] at hu⟩⟩
 obtain⟨A',c',w',hrun,h2,h3,h4⟩:=qis w base v ys [z] (ys++[z]) rfl hown hr (by simpa using hb) hbase
 have hl:(ys++[z]).length=ys.length+1:=by simp
 rw[hl] at hrun h2 h4
 exact wpList_append_run hgd s x _ _ ho hs hx (by rw[hty];exact hrun) (h A' c' w' h2 h3 h4)
theorem bag_few(T:List (List UInt8)){S:List ByteArray}(hl:S.length≤60)(h:∀s∈S,s.size≤4096):(qfl T (qm S)).length≤1000000:=by
 have h1:=bag_len T (qm S)
 have h2:∀l:List ByteArray,(∀s∈l,s.size≤4096)→((qm l).map List.length).sum≤4096*l.length:=by
  intro l
  induction l with
  | nil=>intro _;simp[qm]
  | cons a t ih =>
   intro hh
   have h3:=ih fun s hs=>hh s (jm _ hs)
   have h4:=hh a jb
   have h5:a.data.toList.length=a.size:=by simp
   show((qm (a :: t)).map List.length).sum≤_
   have h6:((qm (a :: t)).map List.length).sum=a.data.toList.length+((qm t).map List.length).sum:=by simp[qm]
   rw[h6,qt]
   omega
 have h3:=h2 S h
 omega
theorem refPay1{w:World}(l:List ByteArray)(bl ro:Int)(ds:List Int){c d:Nat}{A B:Option Addr}(h:Rd w 0 w.heap.size A c (sv l))(hd:Rd w 0 w.heap.size B d (iv ds))(hn:l.length≤100)(hdn:ds.length≤60)(h4:∀s∈l,s.size≤4096) :
  Calls Tryz.prog 77 #[.slice A l.length c,.agg #[.int .i64 1,.int .i64 bl,.int .i64 ro,.slice B ds.length d]] w fun r w'=>∃A' c',r= .returned (.slice A' (yj l ⟨1,bl,ro,ds⟩ 1).length c')∧
   w'.ownsRow w.heap.size 5 1 (.slice A' (yj l ⟨1,bl,ro,ds⟩ 1).length c') (yj l ⟨1,bl,ro,ds⟩ 1).length (bv (yj l ⟨1,bl,ro,ds⟩ 1))∧Below w.heap.size w w':=by
 have hl:=h.len
 have hm:=h.cap
 have hdl:=hd.len
 have hdm:=hd.cap
 rw[yg] at hl
 rw[ji] at hdl
 unfold maxLen at hm hdm
 obtain⟨w1,hw1⟩:∃w1,w.alloc (.cells #[.int .i64 1,.int .i64 bl,.int .i64 ro,.slice B ds.length d] 76)=w1:=⟨_,rfl⟩
 have B1:Hid (Below w.heap.size w w1):=by unfold Hid;rw[←hw1];exact(Below.refl _ w).alloc (qc _) _
 have hs1:w1.heap.size=w.heap.size+1:=by rw[←hw1];simp
 have hb:j6 w1 w.heap.size 76 #[.int .i64 1,.int .i64 bl,.int .i64 ro,.slice B ds.length d]:=by rw[←hw1];exact j6.new w _ _
 have HCF:Hid (∀W,Below w1.heap.size w1 W→W.cell? ⟨w.heap.size,0,none⟩=some (.int .i64 1)∧W.cell? ⟨w.heap.size,2,none⟩=some (.int .i64 ro)∧W.cell? ⟨w.heap.size,3,none⟩=some (.slice B ds.length d)):=fun W hW=>⟨(hb.below hW (by omega)).cell 0,(hb.below hW (by omega)).cell 2,(hb.below hW (by omega)).cell 3⟩
 have hS0:=HCF.out _ (Below.refl _ _)
 have H:Hid (∀W,Below w.heap.size w W→Rd W 0 W.heap.size A c (sv l)):=fun W hW=>(h.below hW (qc _)).wide (qc _) hW.size
 have HH4:=qa h4
 have HPY:Hid (yj l ⟨1,bl,ro,ds⟩ 1=[]++uu (qm l)):=by unfold Hid;rw[yj,if_neg (by decide),if_neg (by decide)];rfl
 generalize yj l ⟨1,bl,ro,ds⟩ 1=PY at *
 clear h hd hb h4
 go_enter Tryz.func77,Tryz.ntmps77
 go_wp2_with fail
 clear hw1
 obtain⟨w3,hw3⟩:∃w3,w1=w3:=⟨_,rfl⟩
 have K3:Hid (Below w1.heap.size w1 w1):=Below.refl _ _
 subst hw3
 obtain⟨RR,hRR⟩:∃RR,qm l=RR:=⟨_,rfl⟩
 have HRL:Hid (RR.length=l.length):=by unfold Hid;rw[←hRR,qx]
 have HRG:Hid (∀k (hk:k<l.length),RR[k]? = some l[k].data.toList):=fun k hk=>by rw[←hRR];simp[qm,qe hk]
 rw[hRR] at HPY
 clear hRR hS0
 go_loopw [6,7,12] (fun x y i wr=>∃(k n:Nat) (rs:List (List UInt8)) (A1 A2:Option Addr) (c1 c2:Nat),k≤l.length∧i= .int .i64 (k:Int)∧Hid (RR.take k=rs)∧Hid (rs.flatten.length=n)∧n≤8192*k∧x= .slice A1 k c1∧y= .slice A2 n c2∧
  Tw wr w1.heap.size 3 5 (.slice A1 k c1) (.slice A2 n c2) k n (iv (zu (rs.map List.length))) (bv rs.flatten)∧Below w1.heap.size w1 wr) (fun _ _ i _=>l.length-(intOf i).toNat)
 case atStart=>exact⟨0,0,[],none,none,0,0,qi _,rfl,rfl,rfl,qi _,rfl,rfl,Tw.nil _ _ _ _,Below.refl _ _⟩
 case round =>
  obtain⟨k,n,rs,A1,A2,c1,c2,hk,rfl,HRS,HN,hn8,rfl,rfl,ho,hb⟩:=hrel
  have HO:=qa ho
  have HB:=qa hb
  have hsz:=hb.size
  have HBW:Hid (Below w1.heap.size w1 wr):=K3.out.trans (hb.mono K3.out.size)
  have HBWW:Hid (Below w.heap.size w wr):=B1.out.trans (HBW.out.mono (by omega))
  clear ho hb
  have hrl:rs.length=k:=by rw[←HRS.out,qy,HRL.out];omega
  have HRSL:=qa hrl
  clear hrl
  by_cases hlt:k<l.length
  ·
   have ik:(k:Int)<(l.length:Int):=by omega
   obtain⟨b,off,rfl,_,hbl,hc0⟩:=(H.out wr HBWW.out).str hlt
   have HS4:=qa (HH4.out _ (qj hlt))
   have HR1:=qa (HRG.out k hlt)
   generalize l[k]=s at *
   have hcv:=qc6 (P:=Tryz.prog) wr 9 26 5 s Tryz.underlying9 Tryz.underlying26 Tryz.underlying5
   have hcap:=grownCap_le_maxLen wr s.size 0 5 (by have:=HS4.out;simp only[maxLen];omega)
   have hrd:=qfr wr 5 s hcap
   have hb2:=qdm wr 5 s (qc _)
   have hs2:wr.heap.size+1≤(Lib.bytesWorld wr 5 s).heap.size:=by rw[Lib.bytesWorld_size];exact qc _
   clear hcap
   generalize grownCap wr s.size 0 5=gc at *
   generalize Lib.bytesWorld wr 5 s=w2 at *
   have HB2:=qa (qz HB.out hb2 hsz)
   have HO2:=qa (HO.out.below hb2)
   have HLT:Hid (∀q,(Value.slice A1 k c1).ownBlock=some q→q<wr.heap.size):=fun q hq=>(zk HO.out.o1 hq).2
   have hsz2:w1.heap.size≤w2.heap.size:=HB2.out.size
   have hkd:=(HCF.out w2 (K3.out.trans (HB2.out.mono K3.out.size))).1
   have HRD2:=qa hrd
   have hc02:w2.cell? ⟨b,off+k,none⟩=some (.string s):=(hb2.cell (p:=⟨b,off+k,none⟩) hbl).trans hc0
   clear hrd hb2 HB HO HBW HBWW
   obtain⟨e,he⟩:∃e,s.data.toList=e:=⟨_,rfl⟩
   have hen:e.length=s.size:=by rw[←he];simp
   have HEN:=qa hen
   have HEL2:e.length≤8192:=by have:=HS4.out;omega
   rw[hen] at HEL2
   rw[he] at HR1
   have HRD4:Hid (Rd w2 wr.heap.size w2.heap.size (some ⟨wr.heap.size,0,none⟩) gc (bv e)):=by unfold Hid;rw[←he];exact HRD2.out.wide (qc _) (by omega)
   clear he hen
   generalize hen:s.size=en at *
   clear hen
   have HRS2:Hid (RR.take (k+1)=rs++[e]):=by
    unfold Hid
    have h1:k<RR.length:=by rw[HRL.out];exact hlt
    rw[qg h1,HRS.out]
    have h2:=HR1.out
    rw[qe h1] at h2
    rw[jh h2]
   have HML:Hid ((zu (rs.map List.length)).length=k):=by unfold Hid;rw[zj,q8,HRSL.out]
   have HMS:Hid (zu (rs.map List.length)++[(en:Int)]=zu ((rs++[e]).map List.length)):=by unfold Hid;rw[jg,ym,uq,HEN.out];simp[zu]
   go_wp2_with (at_builtin;refine qlw (v:= .slice A1 k c1) w1.heap.size (zu (rs.map List.length)) (en:Int) rfl _ _ rfl rfl rfl rfl (by rw[za _ _ _ _ rfl];rfl) (by have:=HO2.out.o1.alloc (.cells #[.int .i64 (en:Int)] 3);rw[HML.out];exact this) (by rw[HML.out];omega) (by simp;omega) ?_;intro A5 c5 w5 ho5 hg5 hb5;refine qaz ?_)
   have hbB:Below w1.heap.size w1 w5:=(HB2.out.alloc (by omega) _).grown hg5 (by simp;omega) (fun q hq=>(zk HO2.out.o1 hq).1)
   rw[HMS.out,HML.out] at ho5
   rw[HML.out] at hb5
   have HO5:=qa ((HO2.out.alloc (.cells #[.int .i64 (en:Int)] 3)).left ho5 hg5 hb5)
   have HZ5:Hid (Value.slice A5 ((zu (rs.map List.length)).length+1) c5= .slice A5 (k+1) c5):=by unfold Hid;rw[HML.out]
   have HRD5:Hid (Rd w5 wr.heap.size w5.heap.size (some ⟨wr.heap.size,0,none⟩) gc (bv e)):=((HRD4.out.alloc (qc _) _).grown hg5 (by simp) (fun q hq=> .inl (HLT.out q hq))).wide (qc _) (by have:=hg5.size;simp at this;omega)
   have HB5:=qa hbB
   have hsz5:=hbB.size
   clear ho5 hg5 hb5 hbB HO2 HB2 HRD4 HLT
   have hal:(rs++[e]).flatten.length=n+en:=by rw[qdb,qd,HN.out];simp[HEN.out]
   obtain⟨A8,c8,w8,hrun8,ho8,hg8,hb8⟩:=vl w5 w1.heap.size (.slice A2 n c2) rs.flatten e (rs++[e]).flatten (by simp) (by rw[HN.out];exact HO5.out.o2) HRD5.out (by rw[HN.out,HEN.out];omega) hsz5
   rw[hal] at hrun8 ho8 hb8
   rw[HEN.out] at hrun8
   have HAL:=qa hal
   have HO8:=qa (HO5.out.right ho8 hg8 hb8)
   have HB8:Hid (Below w1.heap.size w1 w8):=HB5.out.grown hg8 hsz5 (fun q hq=>(zk HO5.out.o2 hq).1)
   clear hal ho8 hg8 hb8 HO5 HB5 HRD5 HMS
   refine⟨?_⟩
   go_wp2_with (at_builtin;refine wpList_append_run rfl _ _ _ _ rfl rfl rfl hrun8 ?_)
   go_roundw
   case rel=>exact⟨k+1,n+en,rs++[e],A5,A8,c5,c8,by omega,by go_num,HRS2,HAL,by omega,HZ5.out,rfl,HO8.out,HB8.out⟩
   case measure=>simp[intOf] <;> omega
  ·
   have ik:¬(k:Int)<(l.length:Int):=by omega
   have hrs:rs=RR:=by rw[←HRS.out,qo (by rw[HRL.out];omega)]
   subst hrs
   obtain⟨zs,hzs⟩:∃zs,zu (rs.map List.length)=zs:=⟨_,rfl⟩
   have hzl:zs.length=k:=by rw[←hzs,zj,q8,HRSL.out]
   have HMY:qpw zs:=by
    rw[←hzs]
    refine qju (m:=8192) (by omega) fun x hx => ?_
    obtain⟨j,hj,rfl⟩:=zq hx
    have h1:=HRG.out j (by rw[←HRL.out];exact hj)
    rw[qe hj] at h1
    rw[jh h1]
    have:=HH4.out _ (qj (l:=l) (n:=j) (by rw[←HRL.out];exact hj))
    have e:(l[j]'(by rw[←HRL.out];exact hj)).data.toList.length=(l[j]'(by rw[←HRL.out];exact hj)).size:=by simp
    omega
   rw[hzs] at HO
   have HW:=qa (qid (w:=wr) (c:=c1) (A:=A1) zs HMY ((Rd.of_own HO.out.o1).wide (qi _) (qc _)) (qc _) (by omega))
   rw[hzl] at HW
   have hwl:(jq zs).length≤1000000000000:=ze (qab HMY (by omega)) (by omega)
   have HPY2:Hid (PY=([]++jq zs)++rs.flatten):=by unfold Hid;rw[HPY.out,uu,hzs,qv]
   clear hzs hzl HMY HPY
   generalize hwz:jq zs=wz at *
   clear hwz
   generalize hwn:wz.length=wn at *
   have HWN:=qa hwn
   clear hwn
   go_wp2_with fail
   refine HW.out.mono ?_
   rintro r w6 ⟨A6,c6,rfl,ho6,hb6⟩
   have HO6:=qa ho6
   have HT6:=qa (HO.out.below hb6)
   have hsz6:=hb6.size
   have HB6:Hid (Below w1.heap.size w1 w6):=qz HB.out hb6 hsz
   have HU6:Hid (∀q,(Value.slice A2 n c2).ownBlock=some q→w1.heap.size≤q∧q<w6.heap.size):=fun q hq=>zk HT6.out.o2 hq
   clear ho6 hb6 HW HO HB
   have hoo:w6.ownsRow w.heap.size 5 1 (.slice none 0 0) 0 (bv []):=zh ..
   obtain⟨A7,c7,w7,hrun7,ho7,hg7,hb7⟩:=vl w6 w.heap.size (.slice none 0 0) [] wz ([]++wz) rfl hoo (Rd.of_own HO6.out) (by rw[HWN.out];simp only[je];omega) (by omega)
   have hal7:([]++wz).length=wn:=by rw[yk,HWN.out]
   rw[HWN.out,hal7] at hrun7
   rw[hal7] at ho7
   have hap:(Value.slice A2 n c2).ownBlock=none∨(Value.slice A2 n c2).ownBlock≠((.slice none 0 0):Value).ownBlock:=by
    cases hx:(Value.slice A2 n c2).ownBlock with
    | none=>exact Or.inl rfl
    | some q=>exact Or.inr fun e=>by have h1:=(HU6.out q hx).1;exact absurd (show(none:Option Nat)=some q from e.symm) (by simp)
   have hAll7:=HT6.out.o2.kept hg7 hap
   obtain⟨A8,c8,w8,hrun8,ho8,hg8,hb8⟩:=vl w7 w.heap.size (.slice A7 (wn) c7) ([]++wz) rs.flatten (([]++wz)++rs.flatten) rfl (by rw[hal7];exact ho7) (Rd.of_own hAll7) (by rw[hal7,HN.out];omega) (by have:=hg7.size;omega)
   rw[←HPY2.out,HN.out] at hrun8
   rw[←HPY2.out] at ho8
   have HO8:=qa ho8
   have HB7:Hid (Below w.heap.size w w7):=(B1.out.trans ((K3.out.trans (HB6.out.mono K3.out.size)).mono (by omega))).grown hg7 (by omega) (fun q hq=>(zk hoo hq).1)
   have HB8:Hid (Below w.heap.size w w8):=HB7.out.grown hg8 HB7.out.size (fun q hq=>(zk ho7 hq).1)
   clear ho7 hg7 hb7 hal7 hap hAll7 ho8 hg8 hb8 hoo HPY2
   go_wp2_with (at_builtin;refine wpList_append_run rfl _ _ _ _ rfl rfl rfl hrun7 ?_;refine qaz ?_)
   clear hrun7
   refine⟨?_⟩
   go_wp2_with (at_builtin;refine wpList_append_run rfl _ _ _ _ rfl rfl rfl hrun8 ?_)
   go_ret
   exact⟨_,_,rfl,HO8.out,HB8.out⟩
theorem refPay2{w:World}(l:List ByteArray)(bl ro:Int)(ds:List Int){c d:Nat}{A B:Option Addr}(h:Rd w 0 w.heap.size A c (sv l))(hd:Rd w 0 w.heap.size B d (iv ds))(hn:l.length≤100)(hdn:ds.length≤60)(h4:∀s∈l,s.size≤4096) :
  Calls Tryz.prog 77 #[.slice A l.length c,.agg #[.int .i64 2,.int .i64 bl,.int .i64 ro,.slice B ds.length d]] w fun r w'=>∃A' c',r= .returned (.slice A' (yj l ⟨2,bl,ro,ds⟩ 2).length c')∧
   w'.ownsRow w.heap.size 5 1 (.slice A' (yj l ⟨2,bl,ro,ds⟩ 2).length c') (yj l ⟨2,bl,ro,ds⟩ 2).length (bv (yj l ⟨2,bl,ro,ds⟩ 2))∧Below w.heap.size w w':=by
 have hl:=h.len
 have hm:=h.cap
 have hdl:=hd.len
 have hdm:=hd.cap
 rw[yg] at hl
 rw[ji] at hdl
 unfold maxLen at hm hdm
 obtain⟨w1,hw1⟩:∃w1,w.alloc (.cells #[.int .i64 2,.int .i64 bl,.int .i64 ro,.slice B ds.length d] 76)=w1:=⟨_,rfl⟩
 have B1:Hid (Below w.heap.size w w1):=by unfold Hid;rw[←hw1];exact(Below.refl _ w).alloc (qc _) _
 have hs1:w1.heap.size=w.heap.size+1:=by rw[←hw1];simp
 have hb:j6 w1 w.heap.size 76 #[.int .i64 2,.int .i64 bl,.int .i64 ro,.slice B ds.length d]:=by rw[←hw1];exact j6.new w _ _
 have HCF:Hid (∀W,Below w1.heap.size w1 W→W.cell? ⟨w.heap.size,0,none⟩=some (.int .i64 2)∧W.cell? ⟨w.heap.size,2,none⟩=some (.int .i64 ro)∧W.cell? ⟨w.heap.size,3,none⟩=some (.slice B ds.length d)):=fun W hW=>⟨(hb.below hW (by omega)).cell 0,(hb.below hW (by omega)).cell 2,(hb.below hW (by omega)).cell 3⟩
 have hS0:=HCF.out _ (Below.refl _ _)
 have H:Hid (∀W,Below w.heap.size w W→Rd W 0 W.heap.size A c (sv l)):=fun W hW=>(h.below hW (qc _)).wide (qc _) hW.size
 have HH4:=qa h4
 have hS1:=HCF.out _ ((Below.refl _ _).drew)
 have KD:Hid (Below w1.heap.size w1 w1.drew):=(Below.refl _ _).drew
 have HS:Hid (∀W,Below w1.heap.size w1 W→Calls Tryz.prog 126 #[.slice A l.length c,.slice B ds.length d] W fun r w'=>∃A' c',r= .returned (.slice A' (jw l ds).length c')∧
   w'.ownsRow W.heap.size 9 1 (.slice A' (jw l ds).length c') (jw l ds).length (sv (jw l ds))∧Below W.heap.size W w'):=fun W hW =>
  refSample_any l ds ((h.below (B1.out.trans (hW.mono (by omega))) (qc _)).wide (qc _) (by have:=hW.size;omega)) ((hd.below (B1.out.trans (hW.mono (by omega))) (qc _)).wide (qc _) (by have:=hW.size;omega)) (by omega) (by omega)
 have HT:Hid (∀W A2 c2,W.ownsRow w1.heap.size 9 1 (.slice A2 (jw l ds).length c2) (jw l ds).length (sv (jw l ds))→Calls Tryz.prog 125 #[.slice A2 (jw l ds).length c2,.int .i64 ro] W fun r w'=>∃t A' c',r= .returned (.slice A' t.length c')∧qa8 (qm (jw l ds)) (qb8 ro) t∧
   w'.ownsRow W.heap.size 9 1 (.slice A' t.length c') t.length (sv (j7 t))∧Below W.heap.size W w'):=fun W A2 c2 ho =>
  refTrain_any (jw l ds) ro ((Rd.of_own ho).wide (qi _) (qc _)) (ze (qnq l ds) (by omega)) (fun s hs=>ze (qnp h4 s hs) (by omega)) (fun T=>bag_few T (ze (qnq l ds) hdn) (qnp h4))
 obtain⟨o,ho⟩:∃o:Co,o=⟨2,bl,ro,ds⟩:=⟨_,rfl⟩
 have HTS:Hid (∀t,qa8 (qm (jw l ds)) (qb8 ro) t→uc l o=t):=fun t ht=>by rw[ho];exact tabS_is ht
 have HPY:Hid (yj l o 2=qei (uc l o)++uu ((qm l).map (kh (uc l o)))):=by unfold Hid;rw[yj,if_pos rfl]
 rw[←ho]
 generalize jw l ds=S at *
 generalize yj l o 2=PY at *
 generalize uc l o=T at *
 clear h hd hb ho h4
 go_enter Tryz.func77,Tryz.ntmps77
 go_wp2_with fail
 clear hw1
 go_region_held3 (fun w'=>w'.cell? ⟨w.heap.size,2,none⟩=some (.int .i64 ro)∧w'.cell? ⟨w.heap.size,3,none⟩=some (.slice B ds.length d)) (first | assumption | (constructor <;> assumption) | go_keep) (first
  | (go_at_call 125;have ho2:=HO2.out;refine(HT.out _ _ _ ho2).mono ?_;rintro r wz ⟨t,A3,c3,rfl,htr,ho3,hbz⟩;have hte:=HTS.out t htr;subst hte;have HTR:=qa htr;have HO3:=qa ho3;have KZ:Hid (Below w1.heap.size w1 wz):=KY.out.trans (hbz.mono KY.out.size);have hSz:=(HCF.out _ KZ.out).2;clear hbz htr ho3)
  | (go_at_call 126;refine(HS.out _ KD.out).mono ?_;rintro r wy ⟨A2,c2,rfl,ho2,hby⟩;have HO2:=qa (j4 ho2 KD.out.size);have KY:Hid (Below w1.heap.size w1 wy):=KD.out.trans (hby.mono KD.out.size);have hSy:=(HCF.out _ KY.out).2;clear hby ho2))
 clear HS HT KD hS0 hS1 hSy hSz HO2
 have hR:yy T=true:=HTR.out.right
 have HR:=qa hR
 obtain⟨ht5,ht8⟩:=qmj hR
 have hT8:=qa ht8
 have hsz1:=KZ.out.size
 have HP:=qa (refPutT_any (w:=wz) (c:=c3) (A:=A3) (j7 T) (by exact(Rd.of_own HO3.out).wide (qi _) (qc _)) (by rw[yo];exact ht5) ht8)
 rw[yo,ue] at HP
 clear hR KY HTS ht8
 go_wp2_with fail
 refine HP.out.mono ?_
 rintro r w3 ⟨A4,c4,rfl,ho4,hb4⟩
 have HO4:=qa (j4 (base':=w.heap.size) ho4 (by omega))
 have K3:Hid (Below w1.heap.size w1 w3):=qz KZ.out hb4 (by omega)
 have hsz3:=K3.out.size
 have HRT:Hid (Rd w3 0 w3.heap.size A3 c3 (sv (j7 T))):=((Rd.of_own HO3.out).wide (qi _) (qc _)).below hb4 (qc _) |>.wide (qc _) hb4.size
 have HE:Hid (∀W,Below w3.heap.size w3 W→∀s:ByteArray,s.size≤4096→Calls Tryz.prog 128 #[.slice A3 T.length c3,.string s] W fun r w'=>∃A' c',r= .returned (.slice A' (kh T s.data.toList).length c')∧
   w'.ownsRow W.heap.size 5 1 (.slice A' (kh T s.data.toList).length c') (kh T s.data.toList).length (bv (kh T s.data.toList))∧Below W.heap.size W w'):=fun W hW s hs=>by
  have:=refEncode_any (w:=W) (c:=c3) (A:=A3) (j7 T) s ((HRT.out.below hW (qc _)).wide (qc _) hW.size) hT8.out (by rw[yo];exact ht5) (by omega)
  rw[yo,ue] at this
  exact this
 have HEL:Hid (∀s:ByteArray,s.size≤4096→(kh T s.data.toList).length≤8192):=fun s hs=>ze (qm1 T s.data.toList) (by rw[show s.data.toList.length=s.size by simp];omega)
 have HPL:Hid ((qei T).length≤3000):=putT_few HR.out
 obtain⟨RR,hRR⟩:∃RR,(qm l).map (kh T)=RR:=⟨_,rfl⟩
 have HRL:Hid (RR.length=l.length):=by unfold Hid;rw[←hRR,q8,qx]
 have HRG:Hid (∀k (hk:k<l.length),RR[k]? = some (kh T l[k].data.toList)):=fun k hk=>by rw[←hRR];simp[qm,qe hk]
 rw[hRR] at HPY
 clear hb4 ho4 HP HO3 HRT KZ HTR hRR
 generalize qei T=O at *
 go_wp2_with fail
 go_loopw [6,7,12] (fun x y i wr=>∃(k n:Nat) (rs:List (List UInt8)) (A1 A2:Option Addr) (c1 c2:Nat),k≤l.length∧i= .int .i64 (k:Int)∧Hid (RR.take k=rs)∧Hid (rs.flatten.length=n)∧n≤8192*k∧x= .slice A1 k c1∧y= .slice A2 n c2∧
  Tw wr w3.heap.size 3 5 (.slice A1 k c1) (.slice A2 n c2) k n (iv (zu (rs.map List.length))) (bv rs.flatten)∧Below w3.heap.size w3 wr) (fun _ _ i _=>l.length-(intOf i).toNat)
 case atStart=>exact⟨0,0,[],none,none,0,0,qi _,rfl,rfl,rfl,qi _,rfl,rfl,Tw.nil _ _ _ _,Below.refl _ _⟩
 case round =>
  obtain⟨k,n,rs,A1,A2,c1,c2,hk,rfl,HRS,HN,hn8,rfl,rfl,ho,hb⟩:=hrel
  have HO:=qa ho
  have HB:=qa hb
  have hsz:=hb.size
  have HBW:Hid (Below w1.heap.size w1 wr):=K3.out.trans (hb.mono K3.out.size)
  have HBWW:Hid (Below w.heap.size w wr):=B1.out.trans (HBW.out.mono (by omega))
  clear ho hb
  have hrl:rs.length=k:=by rw[←HRS.out,qy,HRL.out];omega
  have HRSL:=qa hrl
  clear hrl
  by_cases hlt:k<l.length
  ·
   have ik:(k:Int)<(l.length:Int):=by omega
   obtain⟨b,off,rfl,_,hbl,hc0⟩:=(H.out wr HBWW.out).str hlt
   have HS4:=qa (HH4.out _ (qj hlt))
   have HR1:=qa (HRG.out k hlt)
   generalize l[k]=s at *
   have hcv:=qc6 (P:=Tryz.prog) wr 9 26 5 s Tryz.underlying9 Tryz.underlying26 Tryz.underlying5
   have hcap:=grownCap_le_maxLen wr s.size 0 5 (by have:=HS4.out;simp only[maxLen];omega)
   have hrd:=qfr wr 5 s hcap
   have hb2:=qdm wr 5 s (qc _)
   have hs2:wr.heap.size+1≤(Lib.bytesWorld wr 5 s).heap.size:=by rw[Lib.bytesWorld_size];exact qc _
   clear hcap
   generalize grownCap wr s.size 0 5=gc at *
   generalize Lib.bytesWorld wr 5 s=w2 at *
   have HB2:=qa (qz HB.out hb2 hsz)
   have HO2:=qa (HO.out.below hb2)
   have HLT:Hid (∀q,(Value.slice A1 k c1).ownBlock=some q→q<wr.heap.size):=fun q hq=>(zk HO.out.o1 hq).2
   have hsz2:w3.heap.size≤w2.heap.size:=HB2.out.size
   have hkd:=(HCF.out w2 (K3.out.trans (HB2.out.mono K3.out.size))).1
   have HRD2:=qa hrd
   have hc02:w2.cell? ⟨b,off+k,none⟩=some (.string s):=(hb2.cell (p:=⟨b,off+k,none⟩) hbl).trans hc0
   clear hrd hb2 HB HO HBW HBWW
   have HE2:=qa (HE.out w2 HB2.out s HS4.out)
   have HEL2:=HEL.out s HS4.out
   generalize kh T s.data.toList=e at *
   generalize hen:e.length=en at *
   have HEN:=qa hen
   clear hen
   go_wp2_with fail
   refine HE2.out.mono ?_
   rintro r w4 ⟨A3',c3',rfl,ho3,hb3⟩
   have HB4:=qa (qz HB2.out hb3 hsz2)
   have HO4':=qa (HO2.out.below hb3)
   have hsz4:w3.heap.size≤w4.heap.size:=HB4.out.size
   have HRD4:Hid (Rd w4 wr.heap.size w4.heap.size A3' c3' (bv e)):=(Rd.of_own ho3).wide (by omega) (qc _)
   clear ho3 hb3 HB2 HO2 HRD2 HE2
   have HRS2:Hid (RR.take (k+1)=rs++[e]):=by
    unfold Hid
    have h1:k<RR.length:=by rw[HRL.out];exact hlt
    rw[qg h1,HRS.out]
    have h2:=HR1.out
    rw[qe h1] at h2
    rw[jh h2]
   have HML:Hid ((zu (rs.map List.length)).length=k):=by unfold Hid;rw[zj,q8,HRSL.out]
   have HMS:Hid (zu (rs.map List.length)++[(en:Int)]=zu ((rs++[e]).map List.length)):=by unfold Hid;rw[jg,ym,uq,HEN.out];simp[zu]
   go_wp2_with (at_builtin;refine qlw (v:= .slice A1 k c1) w3.heap.size (zu (rs.map List.length)) (en:Int) rfl _ _ rfl rfl rfl rfl (by rw[za _ _ _ _ rfl];rfl) (by have:=HO4'.out.o1.alloc (.cells #[.int .i64 (en:Int)] 3);rw[HML.out];exact this) (by rw[HML.out];omega) (by simp;omega) ?_;intro A5 c5 w5 ho5 hg5 hb5;refine qaz ?_)
   have hbB:Below w3.heap.size w3 w5:=(HB4.out.alloc (by omega) _).grown hg5 (by simp;omega) (fun q hq=>(zk HO4'.out.o1 hq).1)
   rw[HMS.out,HML.out] at ho5
   rw[HML.out] at hb5
   have HO5:=qa ((HO4'.out.alloc (.cells #[.int .i64 (en:Int)] 3)).left ho5 hg5 hb5)
   have HZ5:Hid (Value.slice A5 ((zu (rs.map List.length)).length+1) c5= .slice A5 (k+1) c5):=by unfold Hid;rw[HML.out]
   have HRD5:Hid (Rd w5 wr.heap.size w5.heap.size A3' c3' (bv e)):=((HRD4.out.alloc (qc _) _).grown hg5 (by simp) (fun q hq=> .inl (HLT.out q hq))).wide (qc _) (by have:=hg5.size;simp at this;omega)
   have HB5:=qa hbB
   have hsz5:=hbB.size
   clear ho5 hg5 hb5 hbB HO4' HB4 HRD4 HLT
   have hal:(rs++[e]).flatten.length=n+en:=by rw[qdb,qd,HN.out];simp[HEN.out]
   obtain⟨A8,c8,w8,hrun8,ho8,hg8,hb8⟩:=vl w5 w3.heap.size (.slice A2 n c2) rs.flatten e (rs++[e]).flatten (by simp) (by rw[HN.out];exact HO5.out.o2) HRD5.out (by rw[HN.out,HEN.out];omega) hsz5
   rw[hal] at hrun8 ho8 hb8
   rw[HEN.out] at hrun8
   have HAL:=qa hal
   have HO8:=qa (HO5.out.right ho8 hg8 hb8)
   have HB8:Hid (Below w3.heap.size w3 w8):=HB5.out.grown hg8 hsz5 (fun q hq=>(zk HO5.out.o2 hq).1)
   clear hal ho8 hg8 hb8 HO5 HB5 HRD5 HMS
   refine⟨?_⟩
   go_wp2_with (at_builtin;refine wpList_append_run rfl _ _ _ _ rfl rfl rfl hrun8 ?_)
   go_roundw
   case rel=>exact⟨k+1,n+en,rs++[e],A5,A8,c5,c8,by omega,by go_num,HRS2,HAL,by omega,HZ5.out,rfl,HO8.out,HB8.out⟩
   case measure=>simp[intOf] <;> omega
  ·
   have ik:¬(k:Int)<(l.length:Int):=by omega
   have hrs:rs=RR:=by rw[←HRS.out,qo (by rw[HRL.out];omega)]
   subst hrs
   obtain⟨zs,hzs⟩:∃zs,zu (rs.map List.length)=zs:=⟨_,rfl⟩
   have hzl:zs.length=k:=by rw[←hzs,zj,q8,HRSL.out]
   have HMY:qpw zs:=by
    rw[←hzs]
    refine qju (m:=8192) (by omega) fun x hx => ?_
    obtain⟨j,hj,rfl⟩:=zq hx
    have h1:=HRG.out j (by rw[←HRL.out];exact hj)
    rw[qe hj] at h1
    rw[jh h1]
    refine Int.le_trans (Int.ofNat_le.2 (HEL.out _ (HH4.out _ (qj _)))) (by omega)
   rw[hzs] at HO
   have HW:=qa (qid (w:=wr) (c:=c1) (A:=A1) zs HMY ((Rd.of_own HO.out.o1).wide (qi _) (qc _)) (qc _) (by omega))
   rw[hzl] at HW
   have hwl:(jq zs).length≤1000000000000:=ze (qab HMY (by omega)) (by omega)
   have HPY2:Hid (PY=(O++jq zs)++rs.flatten):=by unfold Hid;rw[HPY.out,uu,hzs,qv]
   clear hzs hzl HMY HPY
   generalize hwz:jq zs=wz at *
   clear hwz
   generalize hwn:wz.length=wn at *
   have HWN:=qa hwn
   clear hwn
   go_wp2_with fail
   refine HW.out.mono ?_
   rintro r w6 ⟨A6,c6,rfl,ho6,hb6⟩
   have HO6:=qa ho6
   have HT6:=qa (HO.out.below hb6)
   have hsz6:=hb6.size
   have HB6:Hid (Below w3.heap.size w3 w6):=qz HB.out hb6 hsz
   have HU6:Hid (∀q,(Value.slice A2 n c2).ownBlock=some q→w3.heap.size≤q∧q<w6.heap.size):=fun q hq=>zk HT6.out.o2 hq
   clear ho6 hb6 HW HO HB
   have hoo:w6.ownsRow w.heap.size 5 1 (.slice A4 O.length c4) O.length (bv O):=js HO4.out HB6.out (qc _)
   obtain⟨A7,c7,w7,hrun7,ho7,hg7,hb7⟩:=vl w6 w.heap.size (.slice A4 O.length c4) O wz (O++wz) rfl hoo (Rd.of_own HO6.out) (by rw[HWN.out];have:=HPL.out;omega) (by omega)
   have hal7:(O++wz).length=O.length+wn:=by rw[qd,HWN.out]
   rw[HWN.out,hal7] at hrun7
   rw[hal7] at ho7
   have hap:(Value.slice A2 n c2).ownBlock=none∨(Value.slice A2 n c2).ownBlock≠((.slice A4 O.length c4):Value).ownBlock:=by
    cases hx:(Value.slice A2 n c2).ownBlock with
    | none=>exact Or.inl rfl
    | some q=>exact Or.inr fun e=>by have h1:=(HU6.out q hx).1;have h2:=(zk HO4.out (e.symm)).2;omega
   have hAll7:=HT6.out.o2.kept hg7 hap
   obtain⟨A8,c8,w8,hrun8,ho8,hg8,hb8⟩:=vl w7 w.heap.size (.slice A7 (O.length+wn) c7) (O++wz) rs.flatten ((O++wz)++rs.flatten) rfl (by rw[hal7];exact ho7) (Rd.of_own hAll7) (by rw[hal7,HN.out];have:=HPL.out;omega) (by have:=hg7.size;omega)
   rw[←HPY2.out,HN.out] at hrun8
   rw[←HPY2.out] at ho8
   have HO8:=qa ho8
   have HB7:Hid (Below w.heap.size w w7):=(B1.out.trans ((K3.out.trans (HB6.out.mono K3.out.size)).mono (by omega))).grown hg7 (by omega) (fun q hq=>(zk hoo hq).1)
   have HB8:Hid (Below w.heap.size w w8):=HB7.out.grown hg8 HB7.out.size (fun q hq=>(zk ho7 hq).1)
   clear ho7 hg7 hb7 hal7 hap hAll7 ho8 hg8 hb8 hoo HPY2
   go_wp2_with (at_builtin;refine wpList_append_run rfl _ _ _ _ rfl rfl rfl hrun7 ?_;refine qaz ?_)
   clear hrun7
   refine⟨?_⟩
   go_wp2_with (at_builtin;refine wpList_append_run rfl _ _ _ _ rfl rfl rfl hrun8 ?_)
   go_ret
   exact⟨_,_,rfl,HO8.out,HB8.out⟩
theorem str_ne{a b:ByteArray}(h:¬a=b):(a.toList==b.toList)=false:=qr.2 fun e=>h (ByteArray.ext (Array.toList_inj.1 (by rw[←jf,←jf,e])))
theorem refPay3{w:World}(l:List ByteArray)(K:Nat)(ro:Int)(ds:List Int){c d:Nat}{A B:Option Addr}(h:Rd w 0 w.heap.size A c (sv l))(hn:l.length≤100)(hK:1≤K)(hK2:K≤64)(h4:∀s∈l,s.size≤4096) :
  Calls Tryz.prog 77 #[.slice A l.length c,.agg #[.int .i64 3,.int .i64 (K:Int),.int .i64 ro,.slice B ds.length d]] w fun r w'=>∃A' c',r= .returned (.slice A' (yj l ⟨3,K,ro,ds⟩ 3).length c')∧
   w'.ownsRow w.heap.size 5 1 (.slice A' (yj l ⟨3,K,ro,ds⟩ 3).length c') (yj l ⟨3,K,ro,ds⟩ 3).length (bv (yj l ⟨3,K,ro,ds⟩ 3))∧Below w.heap.size w w':=by
 have hl:=h.len
 have hm:=h.cap
 rw[yg] at hl
 unfold maxLen at hm
 obtain⟨w1,hw1⟩:∃w1,w.alloc (.cells #[.int .i64 3,.int .i64 (K:Int),.int .i64 ro,.slice B ds.length d] 76)=w1:=⟨_,rfl⟩
 have B1:Hid (Below w.heap.size w w1):=by unfold Hid;rw[←hw1];exact(Below.refl _ w).alloc (qc _) _
 have hs1:w1.heap.size=w.heap.size+1:=by rw[←hw1];simp
 have hb:j6 w1 w.heap.size 76 #[.int .i64 3,.int .i64 (K:Int),.int .i64 ro,.slice B ds.length d]:=by rw[←hw1];exact j6.new w _ _
 have HCF:Hid (∀W,Below w1.heap.size w1 W→W.cell? ⟨w.heap.size,0,none⟩=some (.int .i64 3)∧W.cell? ⟨w.heap.size,1,none⟩=some (.int .i64 (K:Int))):=fun W hW=>⟨(hb.below hW (by omega)).cell 0,(hb.below hW (by omega)).cell 1⟩
 obtain⟨hS0,hS1⟩:=HCF.out _ (Below.refl _ _)
 have H:Hid (∀W,Below w.heap.size w W→Rd W 0 W.heap.size A c (sv l)):=fun W hW=>(h.below hW (qc _)).wide (qc _) hW.size
 have HH4:=qa h4
 have HPY:Hid (∀t:List ByteArray,qb9 (qm l) (qm t)→yj l ⟨3,K,ro,ds⟩ 3=kn K (qm t)++jq (zu (qc2 (qm t) (qm l)))):=fun t ht=>by rw[yj,if_neg (by decide),if_pos rfl,dicS_is ht];rfl
 generalize yj l ⟨3,K,ro,ds⟩ 3=PY at *
 have HSO:=qa (refSorted_any (w:=w1) (A:=A) (c:=c) l (H.out w1 B1.out) (fun s hs=>ze (h4 s hs) (by omega)) (by omega))
 clear h hb h4
 go_enter Tryz.func77,Tryz.ntmps77
 go_wp2_with fail
 clear hw1
 refine HSO.out.mono ?_
 rintro r w2 ⟨t,At,ct,rfl,hso,htl,hot,hbt⟩
 have HPY2:=qa (HPY.out t hso)
 have hdic:=hso.dic (by rw[qx];omega) (fun x hx=>by obtain⟨s,hs,rfl⟩:=zn.1 hx;exact HH4.out s hs)
 have HDIC:=qa hdic
 have hris:xd (qm t)=true:=hso.1
 have hnd:=qix hris
 obtain⟨ALL,hALL⟩:∃ALL,zu (qc2 (qm t) (qm l))=ALL:=⟨_,rfl⟩
 have HAL:Hid (ALL.length=l.length):=by unfold Hid;rw[←hALL,zj,qc2,q8,qx]
 have HQ:Hid (∀k (hk:k<l.length),∃q:Nat,q<t.length∧t[q]? = some l[k]∧(∀j,t[j]? = some l[k]→j=q)∧ALL[k]? = some (q:Int)):=fun k hk=>by
  have hmem:l[k].data.toList∈qm t:=(hso.2 _).2 (xq (qj hk))
  have hlt:(qm t).idxOf l[k].data.toList<(qm t).length:=jaf hmem
  have hlt2:(qm t).idxOf l[k].data.toList<t.length:=by rw[←qx];exact hlt
  have hinj:∀a b:ByteArray,a.data.toList=b.data.toList→a=b:=fun a b e=>ByteArray.ext (Array.toList_inj.1 e)
  have hg:∀j (hj:j<t.length),(qm t)[j]? = some t[j].data.toList:=fun j hj=>by simp[qm,qe hj]
  refine⟨_,hlt2,?_,fun j hj => ?_,by rw[←hALL];simp[zu,qc2,qm,qe hk]⟩
  ·
   have h1:=List.getElem_idxOf hlt
   have h2:=hg _ hlt2
   rw[qe hlt,h1] at h2
   rw[qe hlt2]
   exact congrArg some (hinj _ _ (jh h2)).symm
  ·
   obtain⟨hj2,e⟩:=zw.1 hj
   have h1:=hg j hj2
   rw[e] at h1
   have hj3:j<(qm t).length:=by rw[qx];exact hj2
   rw[qe hj3] at h1
   have h2:(qm t)[j]=l[k].data.toList:=jh h1
   rw[←h2]
   exact(hnd.idxOf_getElem j hj3).symm
 have HMY:Hid (qpw ALL):=by
  unfold Hid
  rw[←hALL]
  refine qm3 (D:=qm t) (by rw[qx];omega) fun x hx => ?_
  obtain⟨s,hs,rfl⟩:=zn.1 hx
  exact jaf ((hso.2 s).2 hs)
 rw[hALL] at HPY2
 have HFL:Hid ((kn K (qm t)).length≤1000000000):=by
  have h1:=qmz hK2 hdic
  have h2:=sumL_le (m:=4096) (fun s hs=>(qdi.1 hdic).2.1 s hs)
  have h3:(qm t).length≤100:=by rw[qx];omega
  unfold Hid
  omega
 have HOT:=qa hot
 have HBT:Hid (Below w.heap.size w w2):=B1.out.trans (hbt.mono (by omega))
 have hs2:=hbt.size
 have hc2:=HCF.out w2 hbt
 have HD:Hid (∀W,Below w2.heap.size w2 W→Rd W 0 W.heap.size At ct (sv t)):=fun W hW=>((Rd.of_own HOT.out).below hW (qc _)).wide (qi _) hW.size
 have HCG:Hid (∀W,Below w2.heap.size w2 W→W.cell? ⟨w.heap.size,1,none⟩=some (.int .i64 (K:Int))):=fun W hW=>(HCF.out W (hbt.trans (hW.mono hs2))).2
 have hctt:t.length≤ct:=(by have:=(HD.out w2 (Below.refl _ _)).len;rwa [yg] at this)
 clear hso hdic hris hnd hALL hot hbt HSO HPY HCF hS0 hS1 hc2
 go_wp2_with fail
 go_loopw [6,9] (fun x i wr=>∃(k:Nat) (zs:List Int) (A1:Option Addr) (c1:Nat),k≤l.length∧i= .int .i64 (k:Int)∧Hid (ALL.take k=zs)∧x= .slice A1 k c1∧Hid (wr.ownsRow w2.heap.size 3 1 (.slice A1 k c1) k (iv zs))∧Below w2.heap.size w2 wr) (fun _ i _=>l.length-(intOf i).toNat)
 case atStart=>exact⟨0,[],none,0,qi _,rfl,rfl,rfl,zh ..,Below.refl _ _⟩
 case round =>
  obtain⟨k,zs,A1,c1,hk,rfl,HZ,rfl,HO,hb⟩:=hrel
  have HB:=qa hb
  have hsz:=hb.size
  clear hb
  have HZL:Hid (zs.length=k):=by unfold Hid;rw[←HZ.out,qy,HAL.out];omega
  by_cases hlt:k<l.length
  ·
   have ik:(k:Int)<(l.length:Int):=by omega
   obtain⟨q,hq1,hq2,hq3,hq4⟩:=HQ.out k hlt
   have HQ2:=qa hq2
   have HQ3:=qa hq3
   have HZ2:Hid (ALL.take (k+1)=zs++[(q:Int)]):=by
    have h1:k<ALL.length:=by rw[HAL.out];exact hlt
    unfold Hid
    rw[qg h1,HZ.out]
    rw[qe h1] at hq4
    rw[jh hq4]
   have HSX:Hid (∀W,Below w2.heap.size w2 W→∃b off,A=some ⟨b,off,none⟩∧W.cell? ⟨b,off+k,none⟩=some (.string l[k])):=fun W hW=>by
    obtain⟨b,off,e,_,_,hc⟩:=(H.out W (HBT.out.trans (hW.mono (by omega)))).str hlt
    exact⟨b,off,e,hc⟩
   clear hq2 hq3 hq4
   generalize l[k]=s at *
   go_wp2_with fail
   go_loopw [6,10] (fun x i wv=>∃(j n:Nat) (ys:List Int) (A2:Option Addr) (c2:Nat),j≤t.length∧i= .int .i64 (j:Int)∧Hid (ys=if q<j then zs++[(q:Int)] else zs)∧Hid (ys.length=n)∧n≤k+1∧x= .slice A2 n c2∧Hid (wv.ownsRow w2.heap.size 3 1 (.slice A2 n c2) n (iv ys))∧Below w2.heap.size w2 wv) (fun _ i _=>t.length-(intOf i).toNat)
   case atStart=>exact⟨0,k,zs,A1,c1,qi _,rfl,by unfold Hid;rw[if_neg (jp _)],HZL,by omega,rfl,HO,HB.out⟩
   case round =>
    clear HO HB
    obtain⟨j,n,ys,A2,c2,hj,rfl,HY,HYN,hnk,rfl,HO,hb⟩:=hrel
    have HB:=qa hb
    have hsz3:=hb.size
    clear hb
    by_cases hjt:j<t.length
    ·
     have ij:(j:Int)<(t.length:Int):=by omega
     obtain⟨b,off,rfl,hcs⟩:=HSX.out _ HB.out
     obtain⟨b2,off2,rfl,_,_,hct⟩:=(HD.out _ HB.out).str hjt
     have hs3:Hid (t[j]=s→j=q):=fun e=>HQ3.out j (by rw[qe hjt,e])
     have hs4:Hid (j=q→t[j]=s):=fun e=>by
      have:=HQ2.out
      subst e
      rw[qe hjt] at this
      exact jh this
     generalize t[j]=u at *
     have i0:(0:Int)≤(j:Int):=by omega
     have i1:(0:Int)≤(k:Int):=by omega
     by_cases hus:u=s
     ·
      subst hus
      obtain rfl:=hs3.out rfl
      have HYE:Hid (ys=zs):=by unfold Hid;rw[HY.out,if_neg (qaq _)]
      have HYE2:Hid (ys++[(j:Int)]=if j<j+1 then zs++[(j:Int)] else zs):=by unfold Hid;rw[HYE.out,if_pos (Nat.lt_succ_self _)]
      have HNK2:Hid (n=k):=by unfold Hid;rw[←HYN.out,HYE.out,HZL.out]
      go_wp2_with fail
      go_quiet (fail)
      have HO4:Hid ((wr.drewN nq).ownsRow w2.heap.size 3 1 (.slice A2 n c2) n (iv ys)):=ju HO.out (fun _ _=>rfl)
      have HB4:Hid (Below w2.heap.size w2 (wr.drewN nq)):=zg HB.out _
      clear HO HB hcs hct
      generalize wr.drewN nq=w4 at *
      have hsz4:=HB4.out.size
      go_wp2_with (at_builtin;refine qlw (v:= .slice A2 n c2) w2.heap.size ys (j:Int) rfl _ _ rfl rfl rfl rfl (by rw[za _ _ _ _ rfl];rfl) (by rw[HYN.out];exact HO4.out.alloc _) (by rw[HYN.out];omega) (by simp;omega) ?_;intro A5 c5 w5 ho5 hg5 hb5;refine qaz ?_)
      have hbB:Below w2.heap.size w2 w5:=(HB4.out.alloc hsz4 _).grown hg5 (by simp;omega) (fun q hq=>(zk HO4.out hq).1)
      rw[HYN.out] at ho5
      have HO5:=qa ho5
      have HB5:=qa hbB
      have HYL:Hid ((ys++[(j:Int)]).length=n+1):=by unfold Hid;rw[qd,HYN.out];rfl
      have HZV:Hid (Value.slice A5 (ys.length+1) c5= .slice A5 (n+1) c5):=by unfold Hid;rw[HYN.out]
      clear ho5 hg5 hb5 hbB HO4 HB4
      refine⟨?_⟩
      go_wp2_with fail
      go_roundw
      case rel=>exact⟨j+1,n+1,ys++[(j:Int)],A5,c5,by omega,by go_num,HYE2,HYL,by have:=HNK2.out;omega,HZV.out,HO5,HB5.out⟩
      case measure=>simp[intOf] <;> omega
     ·
      have hne:=str_ne hus
      have hjq:¬j=q:=fun e=>hus (hs4.out e)
      have HY2:Hid (ys=if q<j+1 then zs++[(q:Int)] else zs):=by
       unfold Hid
       rw[HY.out]
       by_cases h5:q<j
       ·
        rw[if_pos h5,if_pos (by omega)]
       ·
        rw[if_neg h5,if_neg (by omega)]
      go_wp2_with fail
      go_quiet (fail)
      go_wp2_with fail
      go_roundw
      case rel=>exact⟨j+1,n,ys,A2,c2,by omega,by go_num,HY2,HYN,hnk,rfl,ju HO.out (fun _ _=>rfl),zg HB.out _⟩
      case measure=>simp[intOf];omega
    ·
     have ij:¬(j:Int)<(t.length:Int):=by omega
     have HY3:Hid (ALL.take (k+1)=ys):=by
      unfold Hid
      rw[HY.out,if_pos (by omega),HZ2.out]
     have hn1:n=k+1:=by
      rw[←HYN.out,HY.out,if_pos (by omega),qd,HZL.out]
      rfl
     subst hn1
     go_wp2_with fail
     go_roundw
     case rel=>exact⟨k+1,ys,A2,c2,by omega,by go_num,HY3,rfl,HO,HB.out⟩
     case measure=>simp[intOf];omega
  ·
   have ik:¬(k:Int)<(l.length:Int):=by omega
   have hzs:zs=ALL:=by rw[←HZ.out,qo (by rw[HAL.out];omega)]
   subst hzs
   have hK1:=HCG.out wr HB.out
   have HBU:=qa (refBuild_any (w:=wr) (A:=At) (c:=ct) t K HDIC.out hK hK2 (HD.out wr HB.out))
   have hwl:Hid ((jq zs).length≤1000000000000):=ze (qab HMY.out (by rw[HZL.out];omega)) (by omega)
   generalize kn K (qm t)=FL at *
   have HWR:Hid (∀W,Below wr.heap.size wr W→Calls Tryz.prog 75 #[.slice A1 k c1] W fun r w'=>∃A' c',r= .returned (.slice A' (jq zs).length c')∧w'.ownsRow W.heap.size 5 1 (.slice A' (jq zs).length c') (jq zs).length (bv (jq zs))∧Below W.heap.size W w'):=fun W hW=>by
    have:=qid (w:=W) (A:=A1) (c:=c1) zs HMY.out (((Rd.of_own HO.out).below hW (qc _)).wide (qi _) hW.size) (qc _) (by rw[HZL.out];omega)
    rw[HZL.out] at this
    exact this
   generalize jq zs=WL at *
   generalize hfn:FL.length=fn at *
   generalize hwn:WL.length=wn at *
   have HFN:=qa hfn
   have HWN:=qa hwn
   clear hfn hwn
   go_wp2_with fail
   refine HBU.out.mono ?_
   rintro r w5 ⟨A5,c5,rfl,ho5,hb5⟩
   have HO5:=qa ho5
   have HB5:=qa hb5
   have hsz5:=hb5.size
   have HW5:=qa (HWR.out w5 hb5)
   clear ho5 hb5 HBU HWR
   go_wp2_with fail
   refine HW5.out.mono ?_
   rintro r w6 ⟨A6,c6,rfl,ho6,hb6⟩
   have HO6:=qa ho6
   have HB6:=qa hb6
   have hsz6:=hb6.size
   have hoo:w6.ownsRow w.heap.size 5 1 (.slice A5 fn c5) fn (bv FL):=j4 (js HO5.out hb6 (qc _)) (by omega)
   clear ho6 hb6 HW5
   obtain⟨A7,c7,w7,hrun7,ho7,hg7,hb7⟩:=vl w6 w.heap.size (.slice A5 fn c5) FL WL PY HPY2.out.symm (by rw[HFN.out];exact hoo) (Rd.of_own HO6.out) (by rw[HFN.out,HWN.out];have:=HFL.out;have:=hwl.out;omega) (by omega)
   rw[HWN.out] at hrun7
   have HO7:=qa ho7
   have HB7:Hid (Below w.heap.size w w7):=((HBT.out.trans (HB.out.mono (by omega))).trans ((HB5.out.mono (by omega)).trans (HB6.out.mono (by omega)))).grown hg7 (by omega) (fun q hq=>(zk hoo hq).1)
   clear ho7 hg7 hb7 hoo
   go_wp2_with (at_builtin;refine wpList_append_run rfl _ _ _ _ rfl rfl rfl hrun7 ?_)
   go_ret
   exact⟨_,_,rfl,HO7.out,HB7.out⟩
end Go.Proofs.YtnjkipnklpkaoaaGreat
