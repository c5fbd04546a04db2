/-
  Lemmas.
-/
import Derived.Test.YtjfecojdagmacaaGreatE10
namespace Go.Proofs.YtjfecojdagmacaaGreat
open Go.RowKit
set_option maxRecDepth 20000
set_option maxHeartbeats 16000000
set_option linter.unusedSimpArgs false
set_option linter.unusedVariables false
theorem dec_le{T:List (List UInt8)}{most:Int}(h0:0≤most):∀(m:Nat) (bs o:List UInt8) (n:Nat),bs.length≤m→(o.length:Int)≤most→((qc2 T most bs o n).1.length:Int)≤most
 | _,[],o,n,_,ho=>by rw[dec_nil];exact ho
 | 0,x :: l,o,n,hm,_=>by simp at hm
 | m+1,x :: l,o,n,hm,ho=>by
  rw[qo] at hm
  by_cases hx:x=255
  ·
   subst hx
   cases l with
   | nil=>rw[dec_end];exact h0
   | cons y l =>
    rw[dec_lit]
    split
    ·
     exact h0
    ·
     rename_i hlt
     exact dec_le h0 m l _ _ (by rw[qo] at hm;omega) (by omega)
  ·
   cases ht:T[x.toNat]? with
   | none=>rw[dec_wrong l o n hx (List.getElem?_eq_none_iff.1 ht)];exact h0
   | some s =>
    rw[dec_sym l o n hx ht]
    split
    ·
     exact h0
    ·
     rename_i hlt
     exact dec_le h0 m l _ _ (by omega) (by omega)
theorem numsR_le(bs:List UInt8)(k:Nat)(e:Int)(n:Nat)(m:Int):∀x∈(vt bs k e n m).1,(x:Int)≤m:=by
 unfold vt
 simp only
 generalize ue bs k e (n:Int)=R
 generalize (if R.1.length=n then R.2.2 else jx R.2.2)=e1
 intro x hx
 by_cases h3:(R.1.all fun x=>decide ((x:Int)≤m))=true
 ·
  have hx2:x∈R.1:=by
   by_cases h4:(if (R.1.all fun x=>decide ((x:Int)≤m))=true then e1 else jx e1)=0
   ·
    rw[if_pos h4] at hx;exact hx
   ·
    rw[if_neg h4] at hx;cases hx
  exact of_decide_eq_true (List.all_eq_true.1 h3 x hx2)
 ·
  rw[if_neg h3,if_neg (yp _)] at hx
  cases hx
theorem takeR_le2(bs:List UInt8)(k:Nat)(e:Int)(skip n:Nat):(z6 bs k e skip (n:Int)).1.length≤n:=by
 unfold z6
 repeat' split
 all_goals simp
 all_goals omega
theorem numsR_len(bs:List UInt8)(k:Nat)(e:Int)(n:Nat)(m:Int):(vt bs k e n m).1.length≤n:=by
 unfold vt
 simp only
 generalize ue bs k e (n:Int)=R
 by_cases h1:R.1.length=n
 ·
  by_cases h2:(if (R.1.all fun x=>decide ((x:Int)≤m))=true then (if R.1.length=n then R.2.2 else jx R.2.2) else jx (if R.1.length=n then R.2.2 else jx R.2.2))=0
  ·
   rw[if_pos h2];omega
  ·
   rw[if_neg h2];exact qj _
 ·
  rw[if_neg (c:=(if (R.1.all fun x=>decide ((x:Int)≤m))=true then (if R.1.length=n then R.2.2 else jx R.2.2) else jx (if R.1.length=n then R.2.2 else jx R.2.2))=0)]
  ·
   exact qj _
  ·
   rw[if_neg h1]
   split <;> exact yp _
theorem strs_small{t:List (List UInt8)}(h:jz t=true):(j4 t).length≤255∧∀s∈j4 t,s.size≤8:=by
 obtain⟨h1,h2, -⟩:=vu.1 h
 refine⟨by rw[yf];exact h1,fun s hs => ?_⟩
 obtain⟨x,hx,rfl⟩:=za.1 hs
 have:=(qeb.1 (h2 x hx)).2
 show x.toArray.size≤8
 simpa using this
theorem encoded_v{w:World}{T:List (List UInt8)}(hr:jz T=true)(bs:List UInt8){n m c d:Nat}{A B:Option Addr}(h:Rd w 0 w.heap.size A c (sv (j4 T)))(hb:Rd w 0 w.heap.size B d (bv bs))(hn:T.length=n)(hm:bs.length=m)(hl:bs.length≤1000000) :
  Calls Tryz.prog 192 #[.slice A n c,.slice B m d] w fun r w'=>r= .returned (.bool (qdp T bs))∧Below w.heap.size w w':=by
 subst hn hm
 obtain⟨h5,h8⟩:=strs_small hr
 have HD:=qa (qmw (w:=w) (j4 T) h8 h5 bs hl 4096 (by omega) (by omega) h hb)
 rw[yf,kv] at HD
 obtain⟨k,hk⟩:∃k,qdp T bs=k:=⟨_,rfl⟩
 rw[hk]
 have hle:=dec_le (T:=T) (most:=4096) (by omega) bs.length bs [] 0 (qc _) (by simp)
 unfold qdp at hk
 generalize qc2 T 4096 bs [] 0=D at *
 obtain⟨s,e,q⟩:=D
 simp only at HD hk hle
 obtain⟨x,hx⟩:∃x:ByteArray,x=⟨s.toArray⟩:=⟨_,rfl⟩
 have hxl:x.data.toList=s:=by rw[hx]
 have hxs:x.size≤4096:=by
  have h1:x.data.size=x.size:=rfl
  rw[←hxl,jo] at hle
  omega
 have HE:Hid (∀W,Below w.heap.size w W→Calls Tryz.prog 206 #[.slice A T.length c,.string x] W fun r w'=>∃A' c',r= .returned (.slice A' (kx T s).length c')∧w'.ownsRow W.heap.size 5 1 (.slice A' (kx T s).length c') (kx T s).length (bv (kx T s))∧Below W.heap.size W w'):=fun W hW=>by
  have:=qmv (w:=W) (c:=c) (A:=A) (j4 T) x ((h.below hW (qc _)).wide (qc _) hW.size) (by rw[kv];exact hr) (by omega)
  rw[yf,kv,hxl] at this
  exact this
 rw[←hx] at HD
 have HB:Hid (∀W,Below w.heap.size w W→Rd W 0 W.heap.size B d (bv bs)):=fun W hW=>(hb.below hW (qc _)).wide (qc _) hW.size
 have HK:=qa hk
 clear h hb hx hxl hle hk h8
 generalize kx T s=E at *
 go_enter Tryz.func192,Tryz.ntmps192
 go_wp2_with fail
 refine HD.out.mono ?_
 rintro r w1 ⟨rfl,hb1⟩
 have HB1:=qa hb1
 have hs1:=hb1.size
 clear hb1 HD
 by_cases he:e=0
 ·
  subst he
  have HE1:=qa (HE.out w1 HB1.out)
  go_wp2_with fail
  refine HE1.out.mono ?_
  rintro r w2 ⟨A2,c2,rfl,ho2,hb2⟩
  have HB2:=qa (zz HB1.out hb2 hs1)
  have HQ:=qa (equal_any (w:=w2) E bs (Rd.of_own ho2) (HB.out w2 HB2.out))
  have hk:decide (E=bs)=k:=by rw[←HK.out];simp
  rw[hk] at HQ
  clear ho2 hb2 HE1 hk HK
  go_wp2_with fail
  refine HQ.out.mono ?_
  rintro r w' ⟨rfl,rfl⟩
  go_wp2_with fail
  go_ret
  exact⟨rfl,HB2.out⟩
 ·
  have ie:¬(e:Int)=0:=by omega
  have be:((e:Int)==0)=false:=by rw[q9];exact ie
  have hk:k=false:=by rw[←HK.out];simp[he]
  subst hk
  go_wp2_with fail
  go_ret
  exact⟨rfl,HB1.out⟩
def EncC(T:List (List UInt8)):Prop:=∀ {w:World},jz T=true→∀(bs:List UInt8) {n m c d:Nat} {A B:Option Addr},Rd w 0 w.heap.size A c (sv (j4 T))→Rd w 0 w.heap.size B d (bv bs)→T.length=n→bs.length=m→bs.length≤1000000→
  Calls Tryz.prog 192 #[.slice A n c,.slice B m d] w fun r w'=>r= .returned (.bool (qdp T bs))∧Below w.heap.size w w'
theorem qmb{w:World}{lo g G k n0 n3 c0 c3:Nat}{bs:List UInt8}{e:Int}(kd:Nat)(there:List Bool)(T:List (List UInt8))(most:Int)(ok:List UInt8→Bool){A0 A3:Option Addr}{v2 v4 v5:Value}(h:xq w lo g bs k e)(hb:bs.length≤1000000000)(hgG:g<G)
  (hG:j8 w G 184 #[.int .i64 (kd:Int),.slice A0 n0 c0,v2,.slice A3 n3 c3,v4,v5]) (ht:Rd w (g+1) w.heap.size A0 c0 (lv there)) (hn0:there.length=n0) (ht4:n0≤4096)
  (hk:(kd=1∧ok=fun _=>true)∨(kd=2∧ok=qdp T∧jz T=true∧T.length=n3∧Rd w (g+1) w.heap.size A3 c3 (sv (j4 T))))
  (henc:kd=2→EncC T) (hmost:most≤1000000) :
  Calls Tryz.prog 165 #[.pointer (some ⟨G,0,none⟩),cp g,.int .i64 most] w fun r w'=>∃A n c,r= .returned (.slice A n c)∧xq w' lo g bs (uz bs k e (cnt there) most ok).2.1 (uz bs k e (cnt there) most ok).2.2∧w.grownBy w' (some g)∧
   ((uz bs k e (cnt there) most ok).1.length=cnt there→n=there.length∧∃ps,qi6 ps=(uz bs k e (cnt there) most ok).1∧Rd w' w.heap.size w'.heap.size A c (yt there (pv ps) (.slice none 0 0))∧qm3 w' w.heap.size w'.heap.size ps):=by
 have henc:Hid (kd=2→EncC T):=henc
 have hgl:=h.lt
 have hGl:=hG.lt
 have b1:=hG.cell 1
 have HBX:Hid (∀W,w.grownBy W (some g)→j8 W G 184 #[.int .i64 (kd:Int),.slice A0 n0 c0,v2,.slice A3 n3 c3,v4,v5]):=fun W hW=>hG.grown hW (by intro e;injection e with e;omega)
 have HTH:Hid (∀W,w.grownBy W (some g)→Rd W 0 W.heap.size A0 c0 (lv there)):=fun W hW=>(ht.grown hW (qc _) (fun q hq=>by cases hq;exact .inl (by omega))).wide (qj _) hW.size
 have HTB:Hid (∀W,w.grownBy W (some g)→kd=2→Rd W 0 W.heap.size A3 c3 (sv (j4 T))∧jz T=true∧T.length=n3∧ok=qdp T):=fun W hW h2=>by
  rcases hk with ⟨h1,_⟩ | ⟨_,h3,h4,h5,h6⟩
  ·
   omega
  ·
   exact⟨(h6.grown hW (qc _) (fun q hq=>by cases hq;exact .inl (by omega))).wide (qj _) hW.size,h4,h5,h3⟩
 have HK1:Hid (¬kd=2→ok=fun _=>true):=fun h2=>by
  rcases hk with ⟨_,h1⟩ | ⟨h1,_⟩
  ·
   exact h1
  ·
   exact absurd h1 h2
 have HC0:=qa (qg8 (w:=w) there (ht.wide (qj _) (qc _)))
 rw[hn0] at HC0
 have hcl:=qgs there
 have HTN:=qa (qjh (cnt there) most h (by omega))
 unfold uz
 obtain⟨⟨ns,p,e1⟩,hS⟩:∃S,vt bs k e (cnt there) most=S:=⟨_,rfl⟩
 rw[hS] at HTN ⊢
 simp only at HTN ⊢
 have HNS:Hid (∀i (hi:i<ns.length),(ns[i]:Int)≤1000000):=fun i hi=>by
  have h1:=congrArg (fun q=>q.1) hS
  simp only at h1
  have h2:=numsR_le bs k e (cnt there) most ns[i] (by rw[h1];exact ql hi)
  omega
 obtain⟨F,hF⟩:∃F,qce bs ok ns p e1=F:=⟨_,rfl⟩
 rw[hF]
 have HF:=qa hF
 have HN0:=qa hn0
 have hnl:ns.length≤4096:=by
  have h1:=congrArg (fun q=>q.1) hS
  simp only at h1
  rw[←h1]
  exact zc (numsR_len ..) (by omega)
 clear h hG ht hk hS hF hn0
 unfold cp at *
 go_enter Tryz.func165,Tryz.ntmps165
 go_wp2_with fail
 refine HC0.out.mono ?_
 rintro r w' ⟨rfl,rfl⟩
 go_wp2_with fail
 refine HTN.out.mono ?_
 rintro r w1 ⟨A1,c1,rfl,ho1,hc1,hg1⟩
 have HR1:=qa (Rd.of_own ho1)
 have HC1:=qa hc1
 have HG1:=qa hg1
 have hs1:=hg1.size
 clear ho1 hc1 hg1 HTN HC0 b1
 go_wp2_with fail
 go_loopw [7,20] (fun y x wr=>∃(i q:Nat) (e2:Int) (ps:List Part) (A':Option Addr) (c':Nat),i≤ns.length∧x= .int .i64 (i:Int)∧y= .slice A' i c'∧F=(qi6 ps++(qce bs ok (ns.drop i) q e2).1,(qce bs ok (ns.drop i) q e2).2)∧
  PR wr w1.heap.size (.slice A' i c') i ps∧Rd wr w.heap.size w1.heap.size A1 c1 (iv (jf ns))∧xq wr lo g bs q e2∧w.grownBy wr (some g)∧w1.heap.size≤wr.heap.size) (fun _ x _=>ns.length-(intOf x).toNat)
 case atStart=>exact⟨0,p,e1,[],none,0,qj _,rfl,rfl,by rw[jv,HF.out];rfl,PR.nil _ _,HR1.out,HC1.out,HG1.out,qc _⟩
 case round =>
  clear HR1 HC1 HG1 HF
  obtain⟨i,q,e2,ps,A',c',hi,rfl,rfl,hFe,hp,hr,hc,hg,hsw⟩:=hrel
  have HFE:=qa hFe
  have HP:=qa hp
  have HR:=qa hr
  have HC:=qa hc
  have HG:=qa hg
  have hsg:=hg.size
  clear hFe hp hc
  by_cases hlt:i<ns.length
  ·
   have ik:(i:Int)<(ns.length:Int):=by omega
   obtain⟨b,off,rfl,_,hbl,hcell⟩:=hr.num (k:=i) (by rw[zq];exact hlt)
   have hxi:(jf ns)[i]'(by rw[zq];exact hlt)=(ns[i]:Int):=by simp[jf]
   rw[hxi] at hcell
   have hdr:ns.drop i=ns[i] :: ns.drop (i+1):=ja hlt
   rw[hdr] at HFE
   clear hxi hdr hr
   have HZM:=qa (HNS.out i hlt)
   generalize ns[i]=z at *
   have HB:=qa (qdg (z:Int) HC.out (by omega))
   have HTL:Hid ((z6 bs q e2 0 (z:Int)).1.length≤1000000):=zc (takeR_le2 bs q e2 0 z) (by have:=HZM.out;omega)
   have HFE2:Hid (F=(qi6 ps++((z6 bs q e2 0 (z:Int)).1 :: (qce bs ok (ns.drop (i+1)) (z6 bs q e2 0 (z:Int)).2.1 (if ok (z6 bs q e2 0 (z:Int)).1=true then (z6 bs q e2 0 (z:Int)).2.2 else jx (z6 bs q e2 0 (z:Int)).2.2)).1),(qce bs ok (ns.drop (i+1)) (z6 bs q e2 0 (z:Int)).2.1 (if ok (z6 bs q e2 0 (z:Int)).1=true then (z6 bs q e2 0 (z:Int)).2.2 else jx (z6 bs q e2 0 (z:Int)).2.2)).2)):=HFE.out
   obtain⟨⟨t,q3,e3⟩,hT⟩:∃t,z6 bs q e2 0 (z:Int)=t:=⟨_,rfl⟩
   rw[hT] at HB HTL HFE2
   simp only at HB HTL HFE2
   obtain⟨e4,he4⟩:∃e4,(if ok t=true then e3 else jx e3)=e4:=⟨_,rfl⟩
   rw[he4] at HFE2
   have HE4:=qa he4
   clear hT he4 HFE
   unfold cp at HB
   go_wp2_with fail
   refine HB.out.mono ?_
   rintro r w5 ⟨A5,c5,rfl,ho5,hc5,hg5⟩
   have HO5:=qa ho5
   have HC5:=qa hc5
   have HP5:=qa (HP.out.cur hg5 (by omega))
   have HR5:=qa (HR.out.grown hg5 (by omega) (fun r hr=>by cases hr;exact .inl hgl))
   have HG5:=qa (HG.out.trans hg5)
   have hs5:=hg5.size
   have hrd5:=Rd.of_own ho5
   have HZ5:Hid (0<t.length→∀b off,A5=some ⟨b,off,none⟩→(Value.slice A' i c').ownBlock≠some b):=HP.out.fresh hrd5
   have HD5:=qa (hrd5.wide (show w1.heap.size≤wr.heap.size from hsw) (qc w5.heap.size))
   have HB5:=qa (HBX.out w5 HG5.out)
   have hb0:=HB5.out.cell 0
   have hb3:=HB5.out.cell 3
   simp only[zo,zf,zg] at hb0 hb3
   clear ho5 hc5 hg5 HB HP HR HC hrd5
   by_cases h2:kd=2
   ·
    have h2':(kd:Int)=2:=by omega
    rw[h2'] at hb0
    obtain⟨htr,htt,htl,hok⟩:=HTB.out w5 HG5.out h2
    have HEN:=qa (henc.out h2 (w:=w5) htt t (n:=n3) (m:=t.length) htr ((HD5.out).wide (qj _) (qc _)) htl rfl (by have:=HTL.out;omega))
    have HOK:Hid (ok t=qdp T t):=by unfold Hid;rw[hok]
    obtain⟨f,hf⟩:∃f,qdp T t=f:=⟨_,rfl⟩
    rw[hf] at HEN HOK
    clear htr htt htl hok hf
    go_wp2_with fail
    refine HEN.out.mono ?_
    rintro r w6 ⟨rfl,hb6⟩
    have HC6':=qa (HC5.out.behind hb6 HC5.out.lt)
    have HP6:=qa (HP5.out.below hb6 (qc _))
    have HR6:=qa (HR5.out.below hb6 (by omega))
    have HG6:Hid (w.grownBy w6 (some g)):=HG5.out.trans (qin hb6)
    have HD6:=qa ((HD5.out.below hb6 (qc _)).wide (qc _) hb6.size)
    have hs6:=hb6.size
    clear hb6 HC5 HP5 HR5 HG5 HD5 HB5 HEN
    cases f with
    | true =>
     have HC6:Hid (xq w6 lo g bs q3 e4):=by unfold Hid;rw[←HE4.out,if_pos HOK.out];exact HC6'.out
     clear HC6'
     obtain⟨qq,hqq⟩:∃p:Part,p=⟨A5,c5,t⟩:=⟨_,rfl⟩
     have HQ:=qa hqq
     have HRQ:Hid (Rd (w6.alloc (.cells #[.slice A5 t.length c5] 36)) w1.heap.size (w6.alloc (.cells #[.slice A5 t.length c5] 36)).heap.size qq.A qq.c (bv qq.bs)):=by
      unfold Hid
      rw[hqq]
      exact(HD6.out.alloc (qc _) _).wide (qc _) (by simp)
     have HZA:Hid (0<qq.bs.length→∀b off,qq.A=some ⟨b,off,none⟩→(Value.slice A' i c').ownBlock≠some b):=by
      unfold Hid
      rw[hqq]
      exact HZ5.out
     have HPA:=qa (HP6.out.alloc (.cells #[.slice A5 t.length c5] 36))
     have HRA:=qa (HR6.out.alloc (by omega) (.cells #[.slice A5 t.length c5] 36))
     have HGA:=qa (va HG6.out (.cells #[.slice A5 t.length c5] 36))
     have HCA:Hid (xq (w6.alloc (.cells #[.slice A5 t.length c5] 36)) lo g bs q3 e4):=HC6.out.grown (row:=none) (by exact va (yx _ _) _) (by simp)
     clear hqq HP6 HR6 HG6 HC6 HD6 HZ5
     go_wp2_with (at_builtin;refine qbn (v:= .slice A' i c') w1.heap.size ps qq rfl _ _ rfl rfl rfl rfl (by rw[HQ.out,zm _ _ _ _ rfl];rfl) HPA.out HRQ.out HZA.out (by omega) (by simp;omega) ?_;intro A7 c7 w7 hp7 hg7;refine qbj ?_)
     have hq7:∀b,(Value.slice A' i c').ownBlock=some b→w1.heap.size≤b:=fun b hb=>(zk HPA.out.own hb).1
     have HG7:Hid (w.grownBy w7 (some g)):=qkc HGA.out hg7 (fun b hb=>zc hs1 (hq7 b hb))
     have HC7:=qa (HCA.out.grown hg7 (fun b hb=> .inr (zh (zh hgl hs1) (hq7 b hb))))
     have HR7:=qa (HRA.out.grown hg7 (by simp;omega) (fun b hb=> .inr (hq7 b hb)))
     have HP7:=qa hp7
     have hs7:=hg7.size
     have HF7:Hid (F=(qi6 (ps++[qq])++(qce bs ok (ns.drop (i+1)) q3 e4).1,(qce bs ok (ns.drop (i+1)) q3 e4).2)):=by
      unfold Hid
      rw[HFE2.out,HQ.out]
      simp[qi6]
     have hs67:w1.heap.size≤w7.heap.size:=zc (by simp;omega) hs7
     clear hp7 hg7 hs7 HPA HRQ HZA HGA HCA HRA hq7
     refine⟨?_⟩
     go_wp2_with fail
     go_roundw
     case rel=>exact⟨i+1,q3,e4,ps++[qq],A7,c7,by omega,by go_num,rfl,HF7.out,HP7.out,HR7.out,HC7.out,HG7.out,hs67⟩
     case measure=>simp[intOf] <;> omega
    | false =>
     have hen:ok t=false:=HOK.out
     have HF6:=qa (ve 3 HC6'.out)
     unfold cp at HF6
     go_wp2_with fail
     refine HF6.out.mono ?_
     rintro r w8 ⟨rfl,hc8,hg8⟩
     have HC8:Hid (xq w8 lo g bs q3 e4):=by unfold Hid;rw[←HE4.out,if_neg (by rw[hen];decide)];exact hc8
     have HP8:=qa (HP6.out.cur hg8 (by omega))
     have HR8:=qa (HR6.out.grown hg8 (by omega) (fun r hr=>by cases hr;exact .inl hgl))
     have HG8:=qa (HG6.out.trans hg8)
     have HD8:=qa ((HD6.out.grown hg8 (qc _) (fun r hr=>by cases hr;exact .inl (by omega))).wide (qc _) hg8.size)
     have hs8:=hg8.size
     clear hc8 hg8 HP6 HR6 HG6 HD6 HC6' HF6
     obtain⟨qq,hqq⟩:∃p:Part,p=⟨A5,c5,t⟩:=⟨_,rfl⟩
     have HQ:=qa hqq
     have HRQ:Hid (Rd (w8.alloc (.cells #[.slice A5 t.length c5] 36)) w1.heap.size (w8.alloc (.cells #[.slice A5 t.length c5] 36)).heap.size qq.A qq.c (bv qq.bs)):=by
      unfold Hid
      rw[hqq]
      exact(HD8.out.alloc (qc _) _).wide (qc _) (by simp)
     have HZA:Hid (0<qq.bs.length→∀b off,qq.A=some ⟨b,off,none⟩→(Value.slice A' i c').ownBlock≠some b):=by
      unfold Hid
      rw[hqq]
      exact HZ5.out
     have HPA:=qa (HP8.out.alloc (.cells #[.slice A5 t.length c5] 36))
     have HRA:=qa (HR8.out.alloc (by omega) (.cells #[.slice A5 t.length c5] 36))
     have HGA:=qa (va HG8.out (.cells #[.slice A5 t.length c5] 36))
     have HCA:Hid (xq (w8.alloc (.cells #[.slice A5 t.length c5] 36)) lo g bs q3 e4):=HC8.out.grown (row:=none) (by exact va (yx _ _) _) (by simp)
     clear hqq HP8 HR8 HG8 HC8 HD8 HZ5
     go_wp2_with (at_builtin;refine qbn (v:= .slice A' i c') w1.heap.size ps qq rfl _ _ rfl rfl rfl rfl (by rw[HQ.out,zm _ _ _ _ rfl];rfl) HPA.out HRQ.out HZA.out (by omega) (by simp;omega) ?_;intro A7 c7 w7 hp7 hg7;refine qbj ?_)
     have hq7:∀b,(Value.slice A' i c').ownBlock=some b→w1.heap.size≤b:=fun b hb=>(zk HPA.out.own hb).1
     have HG7:Hid (w.grownBy w7 (some g)):=qkc HGA.out hg7 (fun b hb=>zc hs1 (hq7 b hb))
     have HC7:=qa (HCA.out.grown hg7 (fun b hb=> .inr (zh (zh hgl hs1) (hq7 b hb))))
     have HR7:=qa (HRA.out.grown hg7 (by simp;omega) (fun b hb=> .inr (hq7 b hb)))
     have HP7:=qa hp7
     have hs7:=hg7.size
     have HF7:Hid (F=(qi6 (ps++[qq])++(qce bs ok (ns.drop (i+1)) q3 e4).1,(qce bs ok (ns.drop (i+1)) q3 e4).2)):=by
      unfold Hid
      rw[HFE2.out,HQ.out]
      simp[qi6]
     have hs67:w1.heap.size≤w7.heap.size:=zc (by simp;omega) hs7
     clear hp7 hg7 hs7 HPA HRQ HZA HGA HCA HRA hq7
     refine⟨?_⟩
     go_wp2_with fail
     go_roundw
     case rel=>exact⟨i+1,q3,e4,ps++[qq],A7,c7,by omega,by go_num,rfl,HF7.out,HP7.out,HR7.out,HC7.out,HG7.out,hs67⟩
     case measure=>simp[intOf] <;> omega
   ·
    have h2':¬(kd:Int)=2:=by omega
    have h2b:((kd:Int)==2)=false:=by rw[q9];exact h2'
    have HC6:Hid (xq w5 lo g bs q3 e4):=by unfold Hid;rw[←HE4.out,if_pos (by rw[HK1.out h2])];exact HC5.out
    have HP6:=qa HP5.out
    have HR6:=qa HR5.out
    have HG6:=qa HG5.out
    have HD6:=qa HD5.out
    clear HC5 HP5 HR5 HG5 HD5 HB5
    obtain⟨qq,hqq⟩:∃p:Part,p=⟨A5,c5,t⟩:=⟨_,rfl⟩
    have HQ:=qa hqq
    have HRQ:Hid (Rd (w5.alloc (.cells #[.slice A5 t.length c5] 36)) w1.heap.size (w5.alloc (.cells #[.slice A5 t.length c5] 36)).heap.size qq.A qq.c (bv qq.bs)):=by
     unfold Hid
     rw[hqq]
     exact(HD6.out.alloc (qc _) _).wide (qc _) (by simp)
    have HZA:Hid (0<qq.bs.length→∀b off,qq.A=some ⟨b,off,none⟩→(Value.slice A' i c').ownBlock≠some b):=by
     unfold Hid
     rw[hqq]
     exact HZ5.out
    have HPA:=qa (HP6.out.alloc (.cells #[.slice A5 t.length c5] 36))
    have HRA:=qa (HR6.out.alloc (by omega) (.cells #[.slice A5 t.length c5] 36))
    have HGA:=qa (va HG6.out (.cells #[.slice A5 t.length c5] 36))
    have HCA:Hid (xq (w5.alloc (.cells #[.slice A5 t.length c5] 36)) lo g bs q3 e4):=HC6.out.grown (row:=none) (by exact va (yx _ _) _) (by simp)
    clear hqq HP6 HR6 HG6 HC6 HD6 HZ5
    go_wp2_with (at_builtin;refine qbn (v:= .slice A' i c') w1.heap.size ps qq rfl _ _ rfl rfl rfl rfl (by rw[HQ.out,zm _ _ _ _ rfl];rfl) HPA.out HRQ.out HZA.out (by omega) (by simp;omega) ?_;intro A7 c7 w7 hp7 hg7;refine qbj ?_)
    have hq7:∀b,(Value.slice A' i c').ownBlock=some b→w1.heap.size≤b:=fun b hb=>(zk HPA.out.own hb).1
    have HG7:Hid (w.grownBy w7 (some g)):=qkc HGA.out hg7 (fun b hb=>zc hs1 (hq7 b hb))
    have HC7:=qa (HCA.out.grown hg7 (fun b hb=> .inr (zh (zh hgl hs1) (hq7 b hb))))
    have HR7:=qa (HRA.out.grown hg7 (by simp;omega) (fun b hb=> .inr (hq7 b hb)))
    have HP7:=qa hp7
    have hs7:=hg7.size
    have HF7:Hid (F=(qi6 (ps++[qq])++(qce bs ok (ns.drop (i+1)) q3 e4).1,(qce bs ok (ns.drop (i+1)) q3 e4).2)):=by
     unfold Hid
     rw[HFE2.out,HQ.out]
     simp[qi6]
    have hs67:w1.heap.size≤w7.heap.size:=zc (by simp;omega) hs7
    clear hp7 hg7 hs7 HPA HRQ HZA HGA HCA HRA hq7
    refine⟨?_⟩
    go_wp2_with fail
    go_roundw
    case rel=>exact⟨i+1,q3,e4,ps++[qq],A7,c7,by omega,by go_num,rfl,HF7.out,HP7.out,HR7.out,HC7.out,HG7.out,hs67⟩
    case measure=>simp[intOf] <;> omega
  ·
   have ik:¬(i:Int)<(ns.length:Int):=by omega
   have hie:i=ns.length:=by omega
   subst hie
   rw[List.drop_length] at HFE
   have hfe:=HFE.out
   simp only[qce,jd] at hfe
   subst hfe
   have HB5:=HBX.out wr HG.out
   have hb1:=HB5.cell 1
   simp only[zo,zf,zg] at hb1
   have hpl:=HP.out.len
   clear HB5
   by_cases hcn:ns.length=cnt there
   ·
    have HS:=qa (spreadB_yes (w:=wr) there (pv ps) (n:=n0) (m:=ns.length) (HTH.out wr HG.out) (HP.out.read.wide (qj _) (qc _)) HN0.out (by rw[qdc,hpl]) hcn (by omega) (fun v hv=>by
     obtain⟨p,_,rfl⟩:=za.1 hv
     exact⟨_,_,_,rfl⟩))
    clear hpl hr hg hcn
    go_wp2_with fail
    refine HS.out.mono ?_
    rintro r w6 ⟨A6,c6,rfl,ho6,hb6⟩
    have HO6:=qa ho6
    have HB6:=qa hb6
    clear ho6 hb6 HS
    go_wp2_with fail
    go_ret
    exact⟨_,_,_,rfl,HC.out.behind HB6.out HC.out.lt,HG.out.trans (qin HB6.out),fun _=>⟨HN0.out.symm,ps,rfl,(Rd.of_own HO6.out).wide (by omega) (qc _),(HP.out.rd.below HB6.out (qc _)).wide (by omega) HB6.out.size⟩⟩
   ·
    have HS:=qa (spreadB_no (w:=wr) there (n:=n0) (m:=ns.length) (B:=A') (d:=c') (v:= .slice none 0 0) (HTH.out wr HG.out) HN0.out hcn)
    have HCN:=qa hcn
    have HPL:=qa hpl
    clear hr hg hcn hpl
    go_wp2_with fail
    refine HS.out.mono ?_
    rintro r w' ⟨rfl,rfl⟩
    go_wp2_with fail
    go_ret
    exact⟨_,_,_,rfl,HC.out,HG.out,fun h=>absurd (by rw[qho,HPL.out] at h;exact h) HCN.out⟩
theorem takeRaws_v{w:World}{lo g G k n0 n3 c0 c3:Nat}{bs:List UInt8}{e:Int}(kd:Nat)(there:List Bool)(T:List (List UInt8))(most:Int)(ok:List UInt8→Bool){A0 A3:Option Addr}{v2 v4 v5:Value}(h:xq w lo g bs k e)(hb:bs.length≤1000000000)(hgG:g<G)
  (hG:j8 w G 184 #[.int .i64 (kd:Int),.slice A0 n0 c0,v2,.slice A3 n3 c3,v4,v5]) (ht:Rd w (g+1) w.heap.size A0 c0 (lv there)) (hn0:there.length=n0) (ht4:n0≤4096)
  (hk:(kd=1∧ok=fun _=>true)∨(kd=2∧ok=qdp T∧jz T=true∧T.length=n3∧Rd w (g+1) w.heap.size A3 c3 (sv (j4 T)))) (hmost:most≤1000000) :
  Calls Tryz.prog 165 #[.pointer (some ⟨G,0,none⟩),cp g,.int .i64 most] w fun r w'=>∃A n c,r= .returned (.slice A n c)∧xq w' lo g bs (uz bs k e (cnt there) most ok).2.1 (uz bs k e (cnt there) most ok).2.2∧w.grownBy w' (some g)∧
   ((uz bs k e (cnt there) most ok).1.length=cnt there→n=there.length∧∃ps,qi6 ps=(uz bs k e (cnt there) most ok).1∧Rd w' w.heap.size w'.heap.size A c (yt there (pv ps) (.slice none 0 0))∧qm3 w' w.heap.size w'.heap.size ps) :=
 qmb kd there T most ok h hb hgG hG ht hn0 ht4 hk (fun _=>fun {w} hr bs {n m c d A B} h1 h2 h3 h4 h5=>encoded_v hr bs h1 h2 h3 h4 h5) hmost
theorem ffits_any{w:World}(z:Int):Calls Tryz.prog 196 #[.int .i64 z] w fun r w'=>r= .returned (.bool (decide (1≤z∧z≤64)))∧w=w':=by
 by_cases h0:z<1
 ·
  have hf:decide (1≤z∧z≤64)=false:=qw (by omega)
  have h1:decide (1≤z)=false:=qw (by omega)
  rw[hf]
  go_enter Tryz.func196,Tryz.ntmps196
  go_wp2
  go_ret
  exact⟨rfl,rfl⟩
 ·
  have h1:decide (1≤z)=true:=qx (by omega)
  by_cases h2:z≤64
  ·
   have hf:decide (1≤z∧z≤64)=true:=qx (by omega)
   have h2:decide (z≤64)=true:=qx h2
   rw[hf]
   go_enter Tryz.func196,Tryz.ntmps196
   go_wp2
   go_ret
   exact⟨rfl,rfl⟩
  ·
   have hf:decide (1≤z∧z≤64)=false:=qw (by omega)
   have h2:decide (z≤64)=false:=qw h2
   rw[hf]
   go_enter Tryz.func196,Tryz.ntmps196
   go_wp2
   go_ret
   exact⟨rfl,rfl⟩
theorem alike_any{w:World}(a b:ByteArray)(ha:a.size≤1000000000)(hb:b.size≤1000000000) :
  Calls Tryz.prog 238 #[.string a,.string b] w fun r w'=>r= .returned (.int .i64 (yv a.data.toList b.data.toList:Int))∧∃m,w'=w.drewN m:=by
 obtain⟨v,hv⟩:∃v,yv a.data.toList b.data.toList=v:=⟨_,rfl⟩
 rw[hv]
 have hsa:=qgp a
 have hsb:=qgp b
 have HAT:Hid (∀k (h1:k<a.size) (h2:k<b.size),a.data.toList.take k=b.data.toList.take k→a[k]≠b[k]→(k:Int)=(v:Int)):=fun k h1 h2 ht hne=>by
  rw[←hv,share_is (n:=k) (by omega) (by omega) ht (fun _ _=>hne)]
 have HNX:Hid (∀k (h1:k<a.size) (h2:k<b.size),a.data.toList.take k=b.data.toList.take k→a[k]=b[k]→a.data.toList.take (k+1)=b.data.toList.take (k+1)):=fun k h1 h2 ht he=>by
  rw[qi (by omega),qi (by omega),ht]
  have he':a.data.toList[k]'(by omega)=b.data.toList[k]'(by omega):=he
  rw[he']
 obtain⟨n,hn⟩:∃n,min a.size b.size=n:=⟨_,rfl⟩
 have HEND:Hid (a.data.toList.take n=b.data.toList.take n→(n:Int)=(v:Int)):=fun ht=>by
  rw[←hv,share_is (n:=n) (by omega) (by omega) ht (fun _ _=>by omega)]
 have hna:n≤a.size:=by omega
 have hnb:n≤b.size:=by omega
 have hmin:min (a.size:Int) (b.size:Int)=(n:Int):=by omega
 clear hv hsa hsb hn
 go_enter Tryz.func238,Tryz.ntmps238
 go_wp2_with fail
 clear hmin
 go_loopw [13] (fun i wr=>∃k m:Nat,k≤n∧i= .int .i64 (k:Int)∧a.data.toList.take k=b.data.toList.take k∧wr=w.drewN m) (fun i _=>n-(intOf i).toNat)
 case atStart=>exact⟨0,0,by omega,rfl,by simp,rfl⟩
 case round =>
  obtain⟨k,m,hkn,rfl,ht,rfl⟩:=hrel
  have HT:=qa ht
  clear ht
  by_cases hl:k<n
  ·
   have i0:(k:Int)<(n:Int):=by omega
   have h1:k<a.size:=by omega
   have h2:k<b.size:=by omega
   have i1:(k:Int)<(a.size:Int):=by omega
   have i2:(k:Int)<(b.size:Int):=by omega
   have HA:=qa (HAT.out k h1 h2 HT.out)
   have HN:=qa (HNX.out k h1 h2 HT.out)
   clear HAT HNX
   by_cases h3:a[k].toNat=b[k].toNat
   ·
    have he:=UInt8.toNat_inj.1 h3
    go_wp2_with fail
    go_quiet (fail)
    go_wp2_with fail
    go_roundw
    case rel=>exact⟨k+1,_,by omega,by go_num,HN.out he,by first | rfl | (rw[qcl])⟩
    case measure=>simp[intOf];omega
   ·
    have h4:¬(a[k].toNat:Int)=(b[k].toNat:Int):=by omega
    have h5:((a[k].toNat:Int)==(b[k].toNat:Int))=false:=by rw[q9];exact h4
    go_wp2_with fail
    go_quiet (fail)
    go_wp2_with fail
    go_ret
    exact⟨qar (HA.out (fun e=>h3 (by rw[e]))),m+nq,qcl _ _ _⟩
  ·
   obtain rfl:k=n:=by omega
   go_wp2_with fail
   go_ret
   exact⟨qar (HEND.out HT.out),_,rfl⟩
theorem foll_nil(s:List UInt8):qcz [] s=decide (s.length≤4096):=by simp[qcz]
theorem foll_at{l:List ByteArray}{j:Nat}(hj:l.length=j+1)(s:ByteArray):qcz (qt l) s.data.toList=(decide (s.size≤4096)&&decide (xd (l[j]'(by omega)).data.toList s.data.toList<0)):=by
 unfold qcz
 rw[qgp,zb,qw (p:=l.length=0) (by omega),Bool.false_or]
 have h1:(qt l).getLastD []=(l[j]'(by omega)).data.toList:=by
  rw[List.getLastD_eq_getLast?,List.getLast?_eq_getElem?,zb,show l.length-1=j by omega,qe (by rw[zb];omega),vq l j (by omega)]
  rfl
 rw[h1]
theorem qhi{w:World}(l:List ByteArray)(s:ByteArray){n:Nat}(hn:l.length=n){lo hi c:Nat}{A:Option Addr}(h:Rd w lo hi A c (sv l))(hs:s.size≤9223372036854775807) :
  Calls Tryz.prog 217 #[.slice A n c,.string s] w fun r w'=>r= .returned (.bool (qcz (qt l) s.data.toList))∧w=w':=by
 have hl:=h.len
 have hm:=h.cap
 rw[xr] at hl
 unfold maxLen at hm
 by_cases h4:s.size≤4096
 ·
  have i4:(s.size:Int)≤4096:=by omega
  have d4:decide ((s.size:Int)≤4096)=true:=qx i4
  rcases jh n with rfl | hp
  ·
   obtain rfl:l=[]:=ze hn
   have hv:qcz (qt []) s.data.toList=true:=by
    rw[show qt []=[] from rfl,foll_nil,qgp]
    exact qx h4
   rw[hv]
   clear hn
   go_enter Tryz.func217,Tryz.ntmps217
   go_wp2
   go_ret
   exact⟨rfl,rfl⟩
  ·
   obtain⟨j,rfl⟩:∃j,n=j+1:=⟨n-1,by omega⟩
   obtain⟨b,off,rfl,_,_,hcell⟩:=h.str (k:=j) (by omega)
   rw[foll_at hn s,qx h4,qda]
   have hless:=qg1 (l[j]'(by omega)) s
   generalize decide (xd (l[j]'(by omega)).data.toList s.data.toList<0)=v at *
   generalize l[j]'(by omega)=x at *
   have hw1:IntKind.i64.wrap (j:Int)=(j:Int):=xa _ (by omega)
   have b0:(((j:Int)+1)==0)=false:=by rw[q9];omega
   have n0:¬((j:Int)+1)=0:=by omega
   clear h hn
   go_enter Tryz.func217,Tryz.ntmps217
   go_wp2
   go_ret
   exact⟨rfl,rfl⟩
 ·
  have hv:qcz (qt l) s.data.toList=false:=by
   unfold qcz
   rw[qgp,qw h4,Bool.false_and]
  rw[hv]
  have i4:¬(s.size:Int)≤4096:=by omega
  have d4:decide ((s.size:Int)≤4096)=false:=qw i4
  clear hn
  go_enter Tryz.func217,Tryz.ntmps217
  go_wp2
  go_ret
  exact⟨rfl,rfl⟩
theorem qlj(bs:List UInt8)(k:Nat)(e:Int):(qd5 bs k e).1.length≤4096:=by
 have h:=qbb bs k e 4096
 rw[show(z8 bs k e 4096).1=(vy bs k e 4096).1 from rfl] at h
 unfold qd5 z6
 repeat' split
 all_goals simp only[jy,qy,kf]
 all_goals omega
theorem orForm_fail(e:Int):(if e=0 then (3:Int) else e)=jx e:=rfl
theorem next_le(bs:List UInt8)(k:Nat)(e:Int)(last:List UInt8):(z8 bs k e last.length).1≤last.length:=by
 have h:=qbb bs k e (last.length:Int)
 omega
theorem fnext_any{w:World}{lo g k:Nat}{bs:List UInt8}{e:Int}(h:xq w lo g bs k e)(last:ByteArray)(hl:last.size≤100000000) :
  Calls Tryz.prog 216 #[cp g,.string last] w fun r w'=>∃x:ByteArray,r= .returned (.string x)∧x.data.toList=(qfa bs k e last.data.toList).1∧
   xq w' lo g bs (qfa bs k e last.data.toList).2.1 (qfa bs k e last.data.toList).2.2∧w.grownBy w' (some g):=by
 have HM:=qa (qcv (last.size:Int) h)
 have hn:=next_le bs k e last.data.toList
 have HX:Hid (qfa bs k e last.data.toList=qfa bs k e last.data.toList):=rfl
 obtain⟨N,hN⟩:∃N,qfa bs k e last.data.toList=N:=⟨_,rfl⟩
 rw[hN]
 unfold qfa at hN
 simp only[qgp] at hN hn
 generalize z8 bs k e (last.size:Int)=R at *
 obtain⟨n,k1,e1⟩:=R
 dsimp only at HM hn hN
 have HT:=qa (fun w (h:xq w lo g bs k1 e1)=>text_any h)
 have htl:=qlj bs k1 e1
 generalize qd5 bs k1 e1=T at *
 obtain⟨t,k2,e2⟩:=T
 dsimp only at HT htl hN
 obtain⟨x,hx⟩:∃x:ByteArray,(⟨t.toArray⟩:ByteArray)=x:=⟨_,rfl⟩
 have hxs:x.size≤4096:=by
  have h1:x.data.toList=t:=by rw[←hx]
  rw[←qgp,h1]
  exact htl
 obtain⟨s,hs⟩:∃s:ByteArray,last.extract 0 n++x=s:=⟨_,rfl⟩
 have hsd:s.data.toList=last.data.toList.take n++t:=by
  rw[←hs,←hx,ByteArray.data_append,Array.toList_append,ByteArray.data_extract,Array.toList_extract]
  simp[qci]
 rw[hx] at HT
 have hmin:min n last.size=n:=by omega
 have hcat:¬9223372036854775807<n+x.size:=by omega
 clear hx
 have hss:s.size≤1000000000:=by
  have:=congrArg List.length hsd
  rw[qgp,qd,qy] at this
  omega
 rw[←hsd] at hN
 have HAL:=qa (fun w=>alike_any (w:=w) last s (by omega) hss)
 have HSD:=qa hsd
 obtain⟨q,hq⟩:∃q,yv last.data.toList s.data.toList=q:=⟨_,rfl⟩
 rw[hq] at HAL hN
 have HNN:=qa hN
 clear hsd hq hN htl h HX
 unfold cp at *
 go_enter Tryz.func216,Tryz.ntmps216
 go_wp2_with fail
 refine HM.out.mono ?_
 rintro r w1 ⟨rfl,hc1,hg1⟩
 have HC1:=qa hc1
 have HG1:=qa hg1
 clear hc1 hg1 HM
 go_wp2_with fail
 go_region_held3 (fun _=>True) (trivial) (first
  | (go_at_call 215;refine(HT.out _ (HC1.out.drewN 1)).mono ?_;rintro r w2 ⟨rfl,hc2,hg2⟩;have HC2:=qa hc2;have HG2:Hid (w.grownBy w2 (some g)):=(qak HG1.out 1).trans hg2;clear hc2 hg2))
 go_wp2_with fail
 refine(HAL.out _).mono ?_
 rintro r w3 ⟨rfl,m,rfl⟩
 have HC3:=qa (HC2.out.drewN m)
 have HG3:=qa (qak HG2.out m)
 clear HC2 HG2 HC1 HG1 HAL hcat hmin
 by_cases hqn:q=n
 ·
  subst hqn
  have hfin:(s.data.toList,k2,e2)=N:=by have:=HNN.out;rw[if_pos rfl] at this;exact this
  subst hfin
  go_wp2_with fail
  go_ret
  exact⟨s,rfl,rfl,HC3.out,HG3.out⟩
 ·
  have hfin:(s.data.toList,k2,jx e2)=N:=by have:=HNN.out;rw[if_neg hqn] at this;exact this
  subst hfin
  have b1:((q:Int)==(n:Int))=false:=by rw[q9];omega
  have i1:¬(q:Int)=(n:Int):=by omega
  go_wp2_with fail
  refine(ve 3 HC3.out).mono ?_
  rintro r w4 ⟨rfl,hc4,hg4⟩
  have HC4:=qa hc4
  have HG4:=qa (HG3.out.trans hg4)
  clear hc4 hg4
  go_wp2_with fail
  go_ret
  exact⟨s,rfl,rfl,HC4.out,HG4.out⟩
end Go.Proofs.YtjfecojdagmacaaGreat
