/-
  Lemmas.
-/
import Derived.Test.YtnjkipnklpkaoaaGreatA10
import Derived.Shelf.LaysM
import Derived.Shelf.Strconv.Clone
namespace Go.Proofs.YtnjkipnklpkaoaaGreat
open Go.RowKit
set_option maxRecDepth 20000
set_option maxHeartbeats 16000000
set_option linter.unusedSimpArgs false
set_option linter.unusedVariables false
theorem vw.behind{w w':World}{lo g k B:Nat}{bs:List UInt8}{e:Int}(h:vw w lo g bs k e)(hb:Below B w w')(hg:g<B):vw w' lo g bs k e:=by
 obtain⟨A,c,hbk,hrd,hk,hl⟩:=h
 exact⟨A,c,hbk.below hb hg,hrd.below hb (by omega),hk,hl⟩
theorem dec_le{T:List (List UInt8)}{most:Int}(h0:0≤most):∀(m:Nat) (bs o:List UInt8) (n:Nat),bs.length≤m→(o.length:Int)≤most→((qe3 T most bs o n).1.length:Int)≤most
 | _,[],o,n,_,ho=>by rw[dec_nil];exact ho
 | 0,x :: l,o,n,hm,_=>by simp at hm
 | m+1,x :: l,o,n,hm,ho=>by
  rw[qt] at hm
  by_cases hx:x=255
  ·
   subst hx
   cases l with
   | nil=>rw[dec_end];exact h0
   | cons y l =>
    rw[dec_lit]
    split
    ·
     exact h0
    ·
     rename_i hlt
     exact dec_le h0 m l _ _ (by rw[qt] at hm;omega) (by omega)
  ·
   cases ht:T[x.toNat]? with
   | none=>rw[dec_wrong l o n hx (List.getElem?_eq_none_iff.1 ht)];exact h0
   | some s =>
    rw[dec_sym l o n hx ht]
    split
    ·
     exact h0
    ·
     rename_i hlt
     exact dec_le h0 m l _ _ (by omega) (by omega)
theorem numsR_le(bs:List UInt8)(k:Nat)(e:Int)(n:Nat)(m:Int):∀x∈(uw bs k e n m).1,(x:Int)≤m:=by
 unfold uw
 simp only
 generalize qa5 bs k e (n:Int)=R
 generalize (if R.1.length=n then R.2.2 else y9 R.2.2)=e1
 intro x hx
 by_cases h3:(R.1.all fun x=>decide ((x:Int)≤m))=true
 ·
  have hx2:x∈R.1:=by
   by_cases h4:(if (R.1.all fun x=>decide ((x:Int)≤m))=true then e1 else y9 e1)=0
   ·
    rw[if_pos h4] at hx;exact hx
   ·
    rw[if_neg h4] at hx;cases hx
  exact of_decide_eq_true (jt.1 h3 x hx2)
 ·
  rw[if_neg h3,if_neg (xr _)] at hx
  cases hx
theorem takeR_le2(bs:List UInt8)(k:Nat)(e:Int)(skip n:Nat):(jy bs k e skip (n:Int)).1.length≤n:=by
 unfold jy
 repeat' split
 all_goals simp
 all_goals omega
theorem numsR_len(bs:List UInt8)(k:Nat)(e:Int)(n:Nat)(m:Int):(uw bs k e n m).1.length≤n:=by
 unfold uw
 simp only
 generalize qa5 bs k e (n:Int)=R
 by_cases h1:R.1.length=n
 ·
  by_cases h2:(if (R.1.all fun x=>decide ((x:Int)≤m))=true then (if R.1.length=n then R.2.2 else y9 R.2.2) else y9 (if R.1.length=n then R.2.2 else y9 R.2.2))=0
  ·
   rw[if_pos h2];omega
  ·
   rw[if_neg h2];exact qi _
 ·
  rw[if_neg (c:=(if (R.1.all fun x=>decide ((x:Int)≤m))=true then (if R.1.length=n then R.2.2 else y9 R.2.2) else y9 (if R.1.length=n then R.2.2 else y9 R.2.2))=0)]
  ·
   exact qi _
  ·
   rw[if_neg h1]
   split <;> exact xr _
theorem strs_small{t:List (List UInt8)}(h:yy t=true):(j7 t).length≤255∧∀s∈j7 t,s.size≤8:=by
 obtain⟨h1,h2, -⟩:=uy.1 h
 refine⟨by rw[yo];exact h1,fun s hs => ?_⟩
 obtain⟨x,hx,rfl⟩:=zn.1 hs
 have:=(qfu.1 (h2 x hx)).2
 show x.toArray.size≤8
 simpa using this
def EncC(T:List (List UInt8)):Prop:=∀ {w:World},yy T=true→∀(bs:List UInt8) {n m c d:Nat} {A B:Option Addr},Rd w 0 w.heap.size A c (sv (j7 T))→Rd w 0 w.heap.size B d (bv bs)→T.length=n→bs.length=m→bs.length≤1000000→
  Calls Tryz.prog 172 #[.slice A n c,.slice B m d] w fun r w'=>r= .returned (.bool (qfq T bs))∧Below w.heap.size w w'
theorem qqx{w:World}{lo g G k n0 n3 c0 c3:Nat}{bs:List UInt8}{e:Int}(kd:Nat)(there:List Bool)(T:List (List UInt8))(most:Int)(ok:List UInt8→Bool){A0 A3:Option Addr}{v2 v4 v5:Value}(h:vw w lo g bs k e)(hb:bs.length≤1000000000)(hgG:g<G)
  (hG:j6 w G 106 #[.int .i64 (kd:Int),.slice A0 n0 c0,v2,.slice A3 n3 c3,v4,v5]) (ht:Rd w (g+1) w.heap.size A0 c0 (lv there)) (hn0:there.length=n0) (ht4:n0≤4096)
  (hk:(kd=1∧ok=fun _=>true)∨(kd=2∧ok=qfq T∧yy T=true∧T.length=n3∧Rd w (g+1) w.heap.size A3 c3 (sv (j7 T))))
  (henc:kd=2→EncC T) (hmost:most≤1000000) :
  Calls Tryz.prog 134 #[.pointer (some ⟨G,0,none⟩),cp g,.int .i64 most] w fun r w'=>∃A n c,r= .returned (.slice A n c)∧vw w' lo g bs (qbq bs k e (cnt there) most ok).2.1 (qbq bs k e (cnt there) most ok).2.2∧w.grownBy w' (some g)∧
   ((qbq bs k e (cnt there) most ok).1.length=cnt there→n=there.length∧∃ps,qm4 ps=(qbq bs k e (cnt there) most ok).1∧Rd w' w.heap.size w'.heap.size A c (xw there (pv ps) (.slice none 0 0))∧qrw w' w.heap.size w'.heap.size ps):=by
 have henc:Hid (kd=2→EncC T):=henc
 have hgl:=h.lt
 have hGl:=hG.lt
 have b1:=hG.cell 1
 have HBX:Hid (∀W,w.grownBy W (some g)→j6 W G 106 #[.int .i64 (kd:Int),.slice A0 n0 c0,v2,.slice A3 n3 c3,v4,v5]):=fun W hW=>hG.grown hW (by intro e;injection e with e;omega)
 have HTH:Hid (∀W,w.grownBy W (some g)→Rd W 0 W.heap.size A0 c0 (lv there)):=fun W hW=>(ht.grown hW (qc _) (fun q hq=>by cases hq;exact .inl (by omega))).wide (qi _) hW.size
 have HTB:Hid (∀W,w.grownBy W (some g)→kd=2→Rd W 0 W.heap.size A3 c3 (sv (j7 T))∧yy T=true∧T.length=n3∧ok=qfq T):=fun W hW h2=>by
  rcases hk with ⟨h1,_⟩ | ⟨_,h3,h4,h5,h6⟩
  ·
   omega
  ·
   exact⟨(h6.grown hW (qc _) (fun q hq=>by cases hq;exact .inl (by omega))).wide (qi _) hW.size,h4,h5,h3⟩
 have HK1:Hid (¬kd=2→ok=fun _=>true):=fun h2=>by
  rcases hk with ⟨_,h1⟩ | ⟨h1,_⟩
  ·
   exact h1
  ·
   exact absurd h1 h2
 have HC0:=qa (qj7 (w:=w) there (ht.wide (qi _) (qc _)))
 rw[hn0] at HC0
 have hcl:=qjf there
 have HTN:=qa (qm9 (cnt there) most h (by omega))
 unfold qbq
 obtain⟨⟨ns,p,e1⟩,hS⟩:∃S,uw bs k e (cnt there) most=S:=⟨_,rfl⟩
 rw[hS] at HTN ⊢
 simp only at HTN ⊢
 have HNS:Hid (∀i (hi:i<ns.length),(ns[i]:Int)≤1000000):=fun i hi=>by
  have h1:=congrArg (fun q=>q.1) hS
  simp only at h1
  have h2:=numsR_le bs k e (cnt there) most ns[i] (by rw[h1];exact qj hi)
  omega
 obtain⟨F,hF⟩:∃F,qee bs ok ns p e1=F:=⟨_,rfl⟩
 rw[hF]
 have HF:=qa hF
 have HN0:=qa hn0
 have hnl:ns.length≤4096:=by
  have h1:=congrArg (fun q=>q.1) hS
  simp only at h1
  rw[←h1]
  exact ze (numsR_len ..) (by omega)
 clear h hG ht hk hS hF hn0
 unfold cp at *
 go_enter Tryz.func134,Tryz.ntmps134
 go_wp2_with fail
 refine HC0.out.mono ?_
 rintro r w' ⟨rfl,rfl⟩
 go_wp2_with fail
 refine HTN.out.mono ?_
 rintro r w1 ⟨A1,c1,rfl,ho1,hc1,hg1⟩
 have HR1:=qa (Rd.of_own ho1)
 have HC1:=qa hc1
 have HG1:=qa hg1
 have hs1:=hg1.size
 clear ho1 hc1 hg1 HTN HC0 b1
 go_wp2_with fail
 go_loopw [7,20] (fun y x wr=>∃(i q:Nat) (e2:Int) (ps:List Part) (A':Option Addr) (c':Nat),i≤ns.length∧x= .int .i64 (i:Int)∧y= .slice A' i c'∧F=(qm4 ps++(qee bs ok (ns.drop i) q e2).1,(qee bs ok (ns.drop i) q e2).2)∧
  PR wr w1.heap.size (.slice A' i c') i ps∧Rd wr w.heap.size w1.heap.size A1 c1 (iv (zu ns))∧vw wr lo g bs q e2∧w.grownBy wr (some g)∧w1.heap.size≤wr.heap.size) (fun _ x _=>ns.length-(intOf x).toNat)
 case atStart=>exact⟨0,p,e1,[],none,0,qi _,rfl,rfl,by rw[jx,HF.out];rfl,PR.nil _ _,HR1.out,HC1.out,HG1.out,qc _⟩
 case round =>
  clear HR1 HC1 HG1 HF
  obtain⟨i,q,e2,ps,A',c',hi,rfl,rfl,hFe,hp,hr,hc,hg,hsw⟩:=hrel
  have HFE:=qa hFe
  have HP:=qa hp
  have HR:=qa hr
  have HC:=qa hc
  have HG:=qa hg
  have hsg:=hg.size
  clear hFe hp hc
  by_cases hlt:i<ns.length
  ·
   have ik:(i:Int)<(ns.length:Int):=by omega
   obtain⟨b,off,rfl,_,hbl,hcell⟩:=hr.num (k:=i) (by rw[zj];exact hlt)
   have hxi:(zu ns)[i]'(by rw[zj];exact hlt)=(ns[i]:Int):=by simp[zu]
   rw[hxi] at hcell
   have hdr:ns.drop i=ns[i] :: ns.drop (i+1):=zv hlt
   rw[hdr] at HFE
   clear hxi hdr hr
   have HZM:=qa (HNS.out i hlt)
   generalize ns[i]=z at *
   have HB:=qa (qgf (z:Int) HC.out (by omega))
   have HTL:Hid ((jy bs q e2 0 (z:Int)).1.length≤1000000):=ze (takeR_le2 bs q e2 0 z) (by have:=HZM.out;omega)
   have HFE2:Hid (F=(qm4 ps++((jy bs q e2 0 (z:Int)).1 :: (qee bs ok (ns.drop (i+1)) (jy bs q e2 0 (z:Int)).2.1 (if ok (jy bs q e2 0 (z:Int)).1=true then (jy bs q e2 0 (z:Int)).2.2 else y9 (jy bs q e2 0 (z:Int)).2.2)).1),(qee bs ok (ns.drop (i+1)) (jy bs q e2 0 (z:Int)).2.1 (if ok (jy bs q e2 0 (z:Int)).1=true then (jy bs q e2 0 (z:Int)).2.2 else y9 (jy bs q e2 0 (z:Int)).2.2)).2)):=HFE.out
   obtain⟨⟨t,q3,e3⟩,hT⟩:∃t,jy bs q e2 0 (z:Int)=t:=⟨_,rfl⟩
   rw[hT] at HB HTL HFE2
   simp only at HB HTL HFE2
   obtain⟨e4,he4⟩:∃e4,(if ok t=true then e3 else y9 e3)=e4:=⟨_,rfl⟩
   rw[he4] at HFE2
   have HE4:=qa he4
   clear hT he4 HFE
   unfold cp at HB
   go_wp2_with fail
   refine HB.out.mono ?_
   rintro r w5 ⟨A5,c5,rfl,ho5,hc5,hg5⟩
   have HO5:=qa ho5
   have HC5:=qa hc5
   have HP5:=qa (HP.out.cur hg5 (by omega))
   have HR5:=qa (HR.out.grown hg5 (by omega) (fun r hr=>by cases hr;exact .inl hgl))
   have HG5:=qa (HG.out.trans hg5)
   have hs5:=hg5.size
   have hrd5:=Rd.of_own ho5
   have HZ5:Hid (0<t.length→∀b off,A5=some ⟨b,off,none⟩→(Value.slice A' i c').ownBlock≠some b):=HP.out.fresh hrd5
   have HD5:=qa (hrd5.wide (show w1.heap.size≤wr.heap.size from hsw) (qc w5.heap.size))
   have HB5:=qa (HBX.out w5 HG5.out)
   have hb0:=HB5.out.cell 0
   have hb3:=HB5.out.cell 3
   simp only[zl,q9,zb] at hb0 hb3
   clear ho5 hc5 hg5 HB HP HR HC hrd5
   by_cases h2:kd=2
   ·
    have h2':(kd:Int)=2:=by omega
    rw[h2'] at hb0
    obtain⟨htr,htt,htl,hok⟩:=HTB.out w5 HG5.out h2
    have HEN:=qa (henc.out h2 (w:=w5) htt t (n:=n3) (m:=t.length) htr ((HD5.out).wide (qi _) (qc _)) htl rfl (by have:=HTL.out;omega))
    have HOK:Hid (ok t=qfq T t):=by unfold Hid;rw[hok]
    obtain⟨f,hf⟩:∃f,qfq T t=f:=⟨_,rfl⟩
    rw[hf] at HEN HOK
    clear htr htt htl hok hf
    go_wp2_with fail
    refine HEN.out.mono ?_
    rintro r w6 ⟨rfl,hb6⟩
    have HC6':=qa (HC5.out.behind hb6 HC5.out.lt)
    have HP6:=qa (HP5.out.below hb6 (qc _))
    have HR6:=qa (HR5.out.below hb6 (by omega))
    have HG6:Hid (w.grownBy w6 (some g)):=HG5.out.trans (qpi hb6)
    have HD6:=qa ((HD5.out.below hb6 (qc _)).wide (qc _) hb6.size)
    have hs6:=hb6.size
    clear hb6 HC5 HP5 HR5 HG5 HD5 HB5 HEN
    cases f with
    | true =>
     have HC6:Hid (vw w6 lo g bs q3 e4):=by unfold Hid;rw[←HE4.out,if_pos HOK.out];exact HC6'.out
     clear HC6'
     obtain⟨qq,hqq⟩:∃p:Part,p=⟨A5,c5,t⟩:=⟨_,rfl⟩
     have HQ:=qa hqq
     have HRQ:Hid (Rd (w6.alloc (.cells #[.slice A5 t.length c5] 26)) w1.heap.size (w6.alloc (.cells #[.slice A5 t.length c5] 26)).heap.size qq.A qq.c (bv qq.bs)):=by
      unfold Hid
      rw[hqq]
      exact(HD6.out.alloc (qc _) _).wide (qc _) (by simp)
     have HZA:Hid (0<qq.bs.length→∀b off,qq.A=some ⟨b,off,none⟩→(Value.slice A' i c').ownBlock≠some b):=by
      unfold Hid
      rw[hqq]
      exact HZ5.out
     have HPA:=qa (HP6.out.alloc (.cells #[.slice A5 t.length c5] 26))
     have HRA:=qa (HR6.out.alloc (by omega) (.cells #[.slice A5 t.length c5] 26))
     have HGA:=qa (km HG6.out (.cells #[.slice A5 t.length c5] 26))
     have HCA:Hid (vw (w6.alloc (.cells #[.slice A5 t.length c5] 26)) lo g bs q3 e4):=HC6.out.grown (row:=none) (by exact km (vc _ _) _) (by simp)
     clear hqq HP6 HR6 HG6 HC6 HD6 HZ5
     go_wp2_with (at_builtin;refine qdc (v:= .slice A' i c') w1.heap.size ps qq rfl _ _ rfl rfl rfl rfl (by rw[HQ.out,za _ _ _ _ rfl];rfl) HPA.out HRQ.out HZA.out (by omega) (by simp;omega) ?_;intro A7 c7 w7 hp7 hg7;refine qaz ?_)
     have hq7:∀b,(Value.slice A' i c').ownBlock=some b→w1.heap.size≤b:=fun b hb=>(zk HPA.out.own hb).1
     have HG7:Hid (w.grownBy w7 (some g)):=qoa HGA.out hg7 (fun b hb=>ze hs1 (hq7 b hb))
     have HC7:=qa (HCA.out.grown hg7 (fun b hb=> .inr (ja (ja hgl hs1) (hq7 b hb))))
     have HR7:=qa (HRA.out.grown hg7 (by simp;omega) (fun b hb=> .inr (hq7 b hb)))
     have HP7:=qa hp7
     have hs7:=hg7.size
     have HF7:Hid (F=(qm4 (ps++[qq])++(qee bs ok (ns.drop (i+1)) q3 e4).1,(qee bs ok (ns.drop (i+1)) q3 e4).2)):=by
      unfold Hid
      rw[HFE2.out,HQ.out]
      simp[qm4]
     have hs67:w1.heap.size≤w7.heap.size:=ze (by simp;omega) hs7
     clear hp7 hg7 hs7 HPA HRQ HZA HGA HCA HRA hq7
     refine⟨?_⟩
     go_wp2_with fail
     go_roundw
     case rel=>exact⟨i+1,q3,e4,ps++[qq],A7,c7,by omega,by go_num,rfl,HF7.out,HP7.out,HR7.out,HC7.out,HG7.out,hs67⟩
     case measure=>simp[intOf] <;> omega
    | false =>
     have hen:ok t=false:=HOK.out
     have HF6:=qa (kx 3 HC6'.out)
     unfold cp at HF6
     go_wp2_with fail
     refine HF6.out.mono ?_
     rintro r w8 ⟨rfl,hc8,hg8⟩
     have HC8:Hid (vw w8 lo g bs q3 e4):=by unfold Hid;rw[←HE4.out,if_neg (by rw[hen];decide)];exact hc8
     have HP8:=qa (HP6.out.cur hg8 (by omega))
     have HR8:=qa (HR6.out.grown hg8 (by omega) (fun r hr=>by cases hr;exact .inl hgl))
     have HG8:=qa (HG6.out.trans hg8)
     have HD8:=qa ((HD6.out.grown hg8 (qc _) (fun r hr=>by cases hr;exact .inl (by omega))).wide (qc _) hg8.size)
     have hs8:=hg8.size
     clear hc8 hg8 HP6 HR6 HG6 HD6 HC6' HF6
     obtain⟨qq,hqq⟩:∃p:Part,p=⟨A5,c5,t⟩:=⟨_,rfl⟩
     have HQ:=qa hqq
     have HRQ:Hid (Rd (w8.alloc (.cells #[.slice A5 t.length c5] 26)) w1.heap.size (w8.alloc (.cells #[.slice A5 t.length c5] 26)).heap.size qq.A qq.c (bv qq.bs)):=by
      unfold Hid
      rw[hqq]
      exact(HD8.out.alloc (qc _) _).wide (qc _) (by simp)
     have HZA:Hid (0<qq.bs.length→∀b off,qq.A=some ⟨b,off,none⟩→(Value.slice A' i c').ownBlock≠some b):=by
      unfold Hid
      rw[hqq]
      exact HZ5.out
     have HPA:=qa (HP8.out.alloc (.cells #[.slice A5 t.length c5] 26))
     have HRA:=qa (HR8.out.alloc (by omega) (.cells #[.slice A5 t.length c5] 26))
     have HGA:=qa (km HG8.out (.cells #[.slice A5 t.length c5] 26))
     have HCA:Hid (vw (w8.alloc (.cells #[.slice A5 t.length c5] 26)) lo g bs q3 e4):=HC8.out.grown (row:=none) (by exact km (vc _ _) _) (by simp)
     clear hqq HP8 HR8 HG8 HC8 HD8 HZ5
     go_wp2_with (at_builtin;refine qdc (v:= .slice A' i c') w1.heap.size ps qq rfl _ _ rfl rfl rfl rfl (by rw[HQ.out,za _ _ _ _ rfl];rfl) HPA.out HRQ.out HZA.out (by omega) (by simp;omega) ?_;intro A7 c7 w7 hp7 hg7;refine qaz ?_)
     have hq7:∀b,(Value.slice A' i c').ownBlock=some b→w1.heap.size≤b:=fun b hb=>(zk HPA.out.own hb).1
     have HG7:Hid (w.grownBy w7 (some g)):=qoa HGA.out hg7 (fun b hb=>ze hs1 (hq7 b hb))
     have HC7:=qa (HCA.out.grown hg7 (fun b hb=> .inr (ja (ja hgl hs1) (hq7 b hb))))
     have HR7:=qa (HRA.out.grown hg7 (by simp;omega) (fun b hb=> .inr (hq7 b hb)))
     have HP7:=qa hp7
     have hs7:=hg7.size
     have HF7:Hid (F=(qm4 (ps++[qq])++(qee bs ok (ns.drop (i+1)) q3 e4).1,(qee bs ok (ns.drop (i+1)) q3 e4).2)):=by
      unfold Hid
      rw[HFE2.out,HQ.out]
      simp[qm4]
     have hs67:w1.heap.size≤w7.heap.size:=ze (by simp;omega) hs7
     clear hp7 hg7 hs7 HPA HRQ HZA HGA HCA HRA hq7
     refine⟨?_⟩
     go_wp2_with fail
     go_roundw
     case rel=>exact⟨i+1,q3,e4,ps++[qq],A7,c7,by omega,by go_num,rfl,HF7.out,HP7.out,HR7.out,HC7.out,HG7.out,hs67⟩
     case measure=>simp[intOf] <;> omega
   ·
    have h2':¬(kd:Int)=2:=by omega
    have h2b:((kd:Int)==2)=false:=by rw[qr];exact h2'
    have HC6:Hid (vw w5 lo g bs q3 e4):=by unfold Hid;rw[←HE4.out,if_pos (by rw[HK1.out h2])];exact HC5.out
    have HP6:=qa HP5.out
    have HR6:=qa HR5.out
    have HG6:=qa HG5.out
    have HD6:=qa HD5.out
    clear HC5 HP5 HR5 HG5 HD5 HB5
    obtain⟨qq,hqq⟩:∃p:Part,p=⟨A5,c5,t⟩:=⟨_,rfl⟩
    have HQ:=qa hqq
    have HRQ:Hid (Rd (w5.alloc (.cells #[.slice A5 t.length c5] 26)) w1.heap.size (w5.alloc (.cells #[.slice A5 t.length c5] 26)).heap.size qq.A qq.c (bv qq.bs)):=by
     unfold Hid
     rw[hqq]
     exact(HD6.out.alloc (qc _) _).wide (qc _) (by simp)
    have HZA:Hid (0<qq.bs.length→∀b off,qq.A=some ⟨b,off,none⟩→(Value.slice A' i c').ownBlock≠some b):=by
     unfold Hid
     rw[hqq]
     exact HZ5.out
    have HPA:=qa (HP6.out.alloc (.cells #[.slice A5 t.length c5] 26))
    have HRA:=qa (HR6.out.alloc (by omega) (.cells #[.slice A5 t.length c5] 26))
    have HGA:=qa (km HG6.out (.cells #[.slice A5 t.length c5] 26))
    have HCA:Hid (vw (w5.alloc (.cells #[.slice A5 t.length c5] 26)) lo g bs q3 e4):=HC6.out.grown (row:=none) (by exact km (vc _ _) _) (by simp)
    clear hqq HP6 HR6 HG6 HC6 HD6 HZ5
    go_wp2_with (at_builtin;refine qdc (v:= .slice A' i c') w1.heap.size ps qq rfl _ _ rfl rfl rfl rfl (by rw[HQ.out,za _ _ _ _ rfl];rfl) HPA.out HRQ.out HZA.out (by omega) (by simp;omega) ?_;intro A7 c7 w7 hp7 hg7;refine qaz ?_)
    have hq7:∀b,(Value.slice A' i c').ownBlock=some b→w1.heap.size≤b:=fun b hb=>(zk HPA.out.own hb).1
    have HG7:Hid (w.grownBy w7 (some g)):=qoa HGA.out hg7 (fun b hb=>ze hs1 (hq7 b hb))
    have HC7:=qa (HCA.out.grown hg7 (fun b hb=> .inr (ja (ja hgl hs1) (hq7 b hb))))
    have HR7:=qa (HRA.out.grown hg7 (by simp;omega) (fun b hb=> .inr (hq7 b hb)))
    have HP7:=qa hp7
    have hs7:=hg7.size
    have HF7:Hid (F=(qm4 (ps++[qq])++(qee bs ok (ns.drop (i+1)) q3 e4).1,(qee bs ok (ns.drop (i+1)) q3 e4).2)):=by
     unfold Hid
     rw[HFE2.out,HQ.out]
     simp[qm4]
    have hs67:w1.heap.size≤w7.heap.size:=ze (by simp;omega) hs7
    clear hp7 hg7 hs7 HPA HRQ HZA HGA HCA HRA hq7
    refine⟨?_⟩
    go_wp2_with fail
    go_roundw
    case rel=>exact⟨i+1,q3,e4,ps++[qq],A7,c7,by omega,by go_num,rfl,HF7.out,HP7.out,HR7.out,HC7.out,HG7.out,hs67⟩
    case measure=>simp[intOf] <;> omega
  ·
   have ik:¬(i:Int)<(ns.length:Int):=by omega
   have hie:i=ns.length:=by omega
   subst hie
   rw[qat] at HFE
   have hfe:=HFE.out
   simp only[qee,jj] at hfe
   subst hfe
   have HB5:=HBX.out wr HG.out
   have hb1:=HB5.cell 1
   simp only[zl,q9,zb] at hb1
   have hpl:=HP.out.len
   clear HB5
   by_cases hcn:ns.length=cnt there
   ·
    have HS:=qa (spreadB_yes (w:=wr) there (pv ps) (n:=n0) (m:=ns.length) (HTH.out wr HG.out) (HP.out.read.wide (qi _) (qc _)) HN0.out (by rw[qfa,hpl]) hcn (by omega) (fun v hv=>by
     obtain⟨p,_,rfl⟩:=zn.1 hv
     exact⟨_,_,_,rfl⟩))
    clear hpl hr hg hcn
    go_wp2_with fail
    refine HS.out.mono ?_
    rintro r w6 ⟨A6,c6,rfl,ho6,hb6⟩
    have HO6:=qa ho6
    have HB6:=qa hb6
    clear ho6 hb6 HS
    go_wp2_with fail
    go_ret
    exact⟨_,_,_,rfl,HC.out.behind HB6.out HC.out.lt,HG.out.trans (qpi HB6.out),fun _=>⟨HN0.out.symm,ps,rfl,(Rd.of_own HO6.out).wide (by omega) (qc _),(HP.out.rd.below HB6.out (qc _)).wide (by omega) HB6.out.size⟩⟩
   ·
    have HS:=qa (spreadB_no (w:=wr) there (n:=n0) (m:=ns.length) (B:=A') (d:=c') (v:= .slice none 0 0) (HTH.out wr HG.out) HN0.out hcn)
    have HCN:=qa hcn
    have HPL:=qa hpl
    clear hr hg hcn hpl
    go_wp2_with fail
    refine HS.out.mono ?_
    rintro r w' ⟨rfl,rfl⟩
    go_wp2_with fail
    go_ret
    exact⟨_,_,_,rfl,HC.out,HG.out,fun h=>absurd (by rw[qkt,HPL.out] at h;exact h) HCN.out⟩
theorem ffits_any{w:World}(z:Int):Calls Tryz.prog 176 #[.int .i64 z] w fun r w'=>r= .returned (.bool (decide (1≤z∧z≤64)))∧w=w':=by
 by_cases h0:z<1
 ·
  have hf:decide (1≤z∧z≤64)=false:=ql (by omega)
  have h1:decide (1≤z)=false:=ql (by omega)
  rw[hf]
  go_enter Tryz.func176,Tryz.ntmps176
  go_wp2
  go_ret
  exact⟨rfl,rfl⟩
 ·
  have h1:decide (1≤z)=true:=qp (by omega)
  by_cases h2:z≤64
  ·
   have hf:decide (1≤z∧z≤64)=true:=qp (by omega)
   have h2:decide (z≤64)=true:=qp h2
   rw[hf]
   go_enter Tryz.func176,Tryz.ntmps176
   go_wp2
   go_ret
   exact⟨rfl,rfl⟩
  ·
   have hf:decide (1≤z∧z≤64)=false:=ql (by omega)
   have h2:decide (z≤64)=false:=ql h2
   rw[hf]
   go_enter Tryz.func176,Tryz.ntmps176
   go_wp2
   go_ret
   exact⟨rfl,rfl⟩
theorem alike_any{w:World}(a b:ByteArray)(ha:a.size≤1000000000)(hb:b.size≤1000000000) :
  Calls Tryz.prog 224 #[.string a,.string b] w fun r w'=>r= .returned (.int .i64 (xg a.data.toList b.data.toList:Int))∧∃m,w'=w.drewN m:=by
 obtain⟨v,hv⟩:∃v,xg a.data.toList b.data.toList=v:=⟨_,rfl⟩
 rw[hv]
 have hsa:=qhy a
 have hsb:=qhy b
 have HAT:Hid (∀k (h1:k<a.size) (h2:k<b.size),a.data.toList.take k=b.data.toList.take k→a[k]≠b[k]→(k:Int)=(v:Int)):=fun k h1 h2 ht hne=>by
  rw[←hv,qjn (n:=k) (by omega) (by omega) ht (fun _ _=>hne)]
 have HNX:Hid (∀k (h1:k<a.size) (h2:k<b.size),a.data.toList.take k=b.data.toList.take k→a[k]=b[k]→a.data.toList.take (k+1)=b.data.toList.take (k+1)):=fun k h1 h2 ht he=>by
  rw[qg (by omega),qg (by omega),ht]
  have he':a.data.toList[k]'(by omega)=b.data.toList[k]'(by omega):=he
  rw[he']
 obtain⟨n,hn⟩:∃n,min a.size b.size=n:=⟨_,rfl⟩
 have HEND:Hid (a.data.toList.take n=b.data.toList.take n→(n:Int)=(v:Int)):=fun ht=>by
  rw[←hv,qjn (n:=n) (by omega) (by omega) ht (fun _ _=>by omega)]
 have hna:n≤a.size:=by omega
 have hnb:n≤b.size:=by omega
 have hmin:min (a.size:Int) (b.size:Int)=(n:Int):=by omega
 clear hv hsa hsb hn
 go_enter Tryz.func224,Tryz.ntmps224
 go_wp2_with fail
 clear hmin
 go_loopw [13] (fun i wr=>∃k m:Nat,k≤n∧i= .int .i64 (k:Int)∧a.data.toList.take k=b.data.toList.take k∧wr=w.drewN m) (fun i _=>n-(intOf i).toNat)
 case atStart=>exact⟨0,0,by omega,rfl,by simp,rfl⟩
 case round =>
  obtain⟨k,m,hkn,rfl,ht,rfl⟩:=hrel
  have HT:=qa ht
  clear ht
  by_cases hl:k<n
  ·
   have i0:(k:Int)<(n:Int):=by omega
   have h1:k<a.size:=by omega
   have h2:k<b.size:=by omega
   have i1:(k:Int)<(a.size:Int):=by omega
   have i2:(k:Int)<(b.size:Int):=by omega
   have HA:=qa (HAT.out k h1 h2 HT.out)
   have HN:=qa (HNX.out k h1 h2 HT.out)
   clear HAT HNX
   by_cases h3:a[k].toNat=b[k].toNat
   ·
    have he:=qbd.1 h3
    go_wp2_with fail
    go_quiet (fail)
    go_wp2_with fail
    go_roundw
    case rel=>exact⟨k+1,_,by omega,by go_num,HN.out he,by first | rfl | (rw[zr])⟩
    case measure=>simp[intOf];omega
   ·
    have h4:¬(a[k].toNat:Int)=(b[k].toNat:Int):=by omega
    have h5:((a[k].toNat:Int)==(b[k].toNat:Int))=false:=by rw[qr];exact h4
    go_wp2_with fail
    go_quiet (fail)
    go_wp2_with fail
    go_ret
    exact⟨kf (HA.out (fun e=>h3 (by rw[e]))),m+nq,zr _ _ _⟩
  ·
   obtain rfl:k=n:=by omega
   go_wp2_with fail
   go_ret
   exact⟨kf (HEND.out HT.out),_,rfl⟩
theorem foll_nil(s:List UInt8):qe0 [] s=decide (s.length≤4096):=by simp[qe0]
theorem foll_at{l:List ByteArray}{j:Nat}(hj:l.length=j+1)(s:ByteArray):qe0 (qm l) s.data.toList=(decide (s.size≤4096)&&decide (yr (l[j]'(by omega)).data.toList s.data.toList<0)):=by
 unfold qe0
 rw[qhy,qx,ql (p:=l.length=0) (by omega),Bool.false_or]
 have h1:(qm l).getLastD []=(l[j]'(by omega)).data.toList:=by
  rw[List.getLastD_eq_getLast?,List.getLast?_eq_getElem?,qx,show l.length-1=j by omega,qe (by rw[qx];omega),yq l j (by omega)]
  rfl
 rw[h1]
theorem qkm{w:World}(l:List ByteArray)(s:ByteArray){n:Nat}(hn:l.length=n){lo hi c:Nat}{A:Option Addr}(h:Rd w lo hi A c (sv l))(hs:s.size≤9223372036854775807) :
  Calls Tryz.prog 202 #[.slice A n c,.string s] w fun r w'=>r= .returned (.bool (qe0 (qm l) s.data.toList))∧w=w':=by
 have hl:=h.len
 have hm:=h.cap
 rw[yg] at hl
 unfold maxLen at hm
 by_cases h4:s.size≤4096
 ·
  have i4:(s.size:Int)≤4096:=by omega
  have d4:decide ((s.size:Int)≤4096)=true:=qp i4
  rcases jr n with rfl | hp
  ·
   obtain rfl:l=[]:=zd hn
   have hv:qe0 (qm []) s.data.toList=true:=by
    rw[show qm []=[] from rfl,foll_nil,qhy]
    exact qp h4
   rw[hv]
   clear hn
   go_enter Tryz.func202,Tryz.ntmps202
   go_wp2
   go_ret
   exact⟨rfl,rfl⟩
  ·
   obtain⟨j,rfl⟩:∃j,n=j+1:=⟨n-1,by omega⟩
   obtain⟨b,off,rfl,_,_,hcell⟩:=h.str (k:=j) (by omega)
   rw[foll_at hn s,qp h4,qbb]
   have hless:=qjt (l[j]'(by omega)) s
   generalize decide (yr (l[j]'(by omega)).data.toList s.data.toList<0)=v at *
   generalize l[j]'(by omega)=x at *
   have hw1:IntKind.i64.wrap (j:Int)=(j:Int):=z8 _ (by omega)
   have b0:(((j:Int)+1)==0)=false:=by rw[qr];omega
   have n0:¬((j:Int)+1)=0:=by omega
   clear h hn
   go_enter Tryz.func202,Tryz.ntmps202
   go_wp2
   go_ret
   exact⟨rfl,rfl⟩
 ·
  have hv:qe0 (qm l) s.data.toList=false:=by
   unfold qe0
   rw[qhy,ql h4,kw]
  rw[hv]
  have i4:¬(s.size:Int)≤4096:=by omega
  have d4:decide ((s.size:Int)≤4096)=false:=ql i4
  clear hn
  go_enter Tryz.func202,Tryz.ntmps202
  go_wp2
  go_ret
  exact⟨rfl,rfl⟩
def Dc(w:World)(d:Nat)(ys:List ByteArray):Prop :=
 ∃A c,j6 w d 205 #[.slice A ys.length c]∧w.ownsRow (d+1) 9 1 (.slice A ys.length c) ys.length (sv ys)
section
variable {w w':World}{d g:Nat}{ys:List ByteArray}
theorem Dc.lt(h:Dc w d ys):d<w.heap.size:=by obtain⟨A,c,hb,_⟩:=h;exact hb.lt
theorem Dc.cur(h:Dc w d ys)(hg:w.grownBy w' (some g))(hgd:g<d):Dc w' d ys:=by
 obtain⟨A,c,hb,ho⟩:=h
 exact⟨A,c,hb.grown hg (fun e=>by injection e with e;omega),ju ho (fun k hk=>hg.block k (zk ho hk).2 (fun e=>by injection e with e;have:=(zk ho hk).1;omega))⟩
theorem Dc.drewN(h:Dc w d ys)(m:Nat):Dc (w.drewN m) d ys:=by
 obtain⟨A,c,hb,ho⟩:=h
 exact⟨A,c,hb,ju ho (fun _ _=>rfl)⟩
theorem Dc.below{B:Nat}(h:Dc w d ys)(hb:Below B w w')(hB:w.heap.size≤B):Dc w' d ys:=by
 obtain⟨A,c,hbk,ho⟩:=h
 exact⟨A,c,hbk.below hb (by have:=hbk.lt;omega),js ho hb hB⟩
theorem Dc.open_(h:Dc w d ys):∃A c,w.cell? ⟨d,0,none⟩=some (.slice A ys.length c)∧w.frozen? ⟨d,0,none⟩=false∧Rd w (d+1) w.heap.size A c (sv ys):=by
 obtain⟨A,c,hb,ho⟩:=h
 refine⟨A,c,?_,hb.frozen 0,Rd.of_own ho⟩
 have:=hb.cell 0
 simpa using this
theorem Dc.push{A:Option Addr}{c:Nat}(h:Dc w d ys)(hc:w.cell? ⟨d,0,none⟩=some (.slice A ys.length c))(s:ByteArray)(hl:ys.length≤10000000) :
  ∃A' c' w2,(Builtin.append_ #[58,58] 58 #[.slice A ys.length c,.slice (some ⟨w.heap.size,0,none⟩) 1 1]).run Tryz.prog (w.alloc (.cells #[.string s] 9))= .ok (.slice A' (ys.length+1) c') w2∧
   w2.cell? ⟨d,0,none⟩=some (.slice A ys.length c)∧w2.frozen? ⟨d,0,none⟩=false∧Dc (w2.setCell ⟨d,0,none⟩ (.slice A' (ys.length+1) c')) d (ys++[s])∧Below d w (w2.setCell ⟨d,0,none⟩ (.slice A' (ys.length+1) c')):=by
 obtain⟨A0,c0,hb,ho⟩:=h
 have h0:=hb.cell 0
 simp only[hc] at h0
 have hA:A0=A∧c0=c:=by
  have:Value.slice A ys.length c=Value.slice A0 ys.length c0:=by simpa using h0
  injection this with h1 h2 h3
  exact⟨h1.symm,h3.symm⟩
 obtain⟨rfl,rfl⟩:=hA
 have hsz:=hb.lt
 have hr:Rd (w.alloc (.cells #[.string s] 9)) 0 (w.alloc (.cells #[.string s] 9)).heap.size (some ⟨w.heap.size,0,none⟩) 1 (sv [s]):=by
  have hcell:(w.alloc (.cells #[.string s] 9)).cell? ⟨w.heap.size,0,none⟩=some (.string s):=by rw[za _ _ _ _ rfl];rfl
  refine⟨by simp[sv],by simp[maxLen],fun _=>⟨w.heap.size,0,rfl,qi _,by simp,fun j u hu => ?_⟩⟩
  match j,hu with
  | 0,hu =>
   simp[sv] at hu
   subst hu
   exact hcell
  | j+1,hu=>simp[sv] at hu
 obtain⟨A',c',w2,hrun,hown,hg⟩:=qi9 (w.alloc (.cells #[.string s] 9)) (d+1) _ ys [s] (ys++[s]) rfl (ho.alloc (.cells #[.string s] 9)) hr (by simp;omega) (by simp;omega)
 have hlen:(ys++[s]).length=ys.length+1:=by simp
 rw[hlen] at hrun hown
 have hrow:∀q,(Value.slice A0 ys.length c0).ownBlock=some q→d+1≤q:=fun q hq=>(zk ho hq).1
 have hbd:j6 w2 d 205 #[.slice A0 ys.length c0]:=(hb.alloc _).grown hg (fun e=>by have:=hrow d e.symm;omega)
 have hbe:Below d w w2:=((Below.refl d w).alloc (by omega) _).grown hg (by simp;omega) (fun q hq=>by have:=hrow q hq;omega)
 refine⟨A',c',w2,hrun,by have:=hbd.cell 0;simpa using this,hbd.frozen 0,⟨A',c',?_,?_⟩,hbe.setCell (p:=⟨d,0,none⟩) (qc _) _⟩
 ·
  rw[hlen]
  exact hbd.put 0 _
 ·
  rw[hlen]
  exact ju hown (fun k hk=>Below.heap_setCell _ _ _ _ (by have:=(zk hown hk).1;show k≠d;omega))
end
theorem Dc.nil(w:World):Dc (w.alloc (.cells #[.slice none 0 0] 205)) w.heap.size []:=⟨none,0,j6.new _ _ _,zh _ _ _ _⟩
section
set_option maxRecDepth 100000
def renC:Go.Shelf.Ren:=⟨fun | 316=>226 | n=>n,fun | 0=>0 | 3=>3 | 4=>4 | 5=>5 | 9=>9 | 37=>26 | 127=>233 | n=>n,fun n=>n⟩
theorem laysC316:Go.Proofs.LaysM.n316 Tryz.prog renC:={
 mixed:=by kernel_rfl
 f316:=Tryz.func226.trans (congrArg some (by kernel_rfl))
 t0:=Tryz.underlying0
 a0:=Tryz.isAgg0
 z0:=Tryz.sizeOf0
 v0:=Tryz.zeroValue0
 t3:=Tryz.underlying3
 a3:=Tryz.isAgg3
 z3:=Tryz.sizeOf3
 v3:=Tryz.zeroValue3
 t4:=Tryz.underlying4
 a4:=Tryz.isAgg4
 z4:=Tryz.sizeOf4
 v4:=Tryz.zeroValue4
 t9:=Tryz.underlying9
 a9:=Tryz.isAgg9
 z9:=Tryz.sizeOf9
 v9:=Tryz.zeroValue9
 t37:=Tryz.underlying26
 a37:=Tryz.isAgg26
 z37:=Tryz.sizeOf26
 v37:=Tryz.zeroValue26
 t127:=Tryz.underlying233
 a127:=Tryz.isAgg233
 z127:=Tryz.sizeOf233
 v127:=Tryz.zeroValue233
 t5:=Tryz.underlying5
 a5:=Tryz.isAgg5
 z5:=Tryz.sizeOf5
 v5:=Tryz.zeroValue5
 i0:=by kernel_rfl
 i3:=by kernel_rfl
 i4:=by kernel_rfl
 i5:=by kernel_rfl
 i9:=by kernel_rfl
 i37:=by kernel_rfl
 i127:=by kernel_rfl }
theorem cloneS_any{w:World}(s:ByteArray)(hs:s.size≤281474976710656) :
  Calls Tryz.prog 204 #[.string s] w fun e w'=>e= .returned (.string s)∧Below w.heap.size w w':=by
 have h:=fun w=>Any.stringslite_Clone laysC316 s w hs
 have H:=qa h
 clear h
 go_enter Tryz.func204,Tryz.ntmps204
 go_wp2_with fail
 refine(H.out _).mono ?_
 rintro r w1 ⟨rfl,hb⟩
 go_wp2
 go_ret
 exact⟨rfl,hb⟩
end
def DcR(w:World)(d:Nat)(ys:List ByteArray):Prop:=∃A c,w.cell? ⟨d,0,none⟩=some (.slice A ys.length c)∧w.frozen? ⟨d,0,none⟩=false∧Rd w 0 w.heap.size A c (sv ys)
theorem Dc.reads{w:World}{d:Nat}{ys:List ByteArray}(h:Dc w d ys):DcR w d ys:=by
 obtain⟨A,c,h1,h2,h3⟩:=h.open_
 exact⟨A,c,h1,h2,h3.wide (qi _) (qc _)⟩
theorem flen_r{w:World}{d:Nat}{ys:List ByteArray}(h:DcR w d ys) :
  Calls Tryz.prog 178 #[.pointer (some ⟨d,0,none⟩)] w fun r w'=>r= .returned (.int .i64 (ys.length:Int))∧w=w':=by
 obtain⟨A,c,hcell,hfr,hrd⟩:=h
 clear hrd
 go_enter Tryz.func178,Tryz.ntmps178
 go_wp2
 go_ret
 exact⟨rfl,rfl⟩
theorem fat_in_r{w:World}{d:Nat}{ys:List ByteArray}(h:DcR w d ys)(k:Nat)(hk:k<ys.length)(h4:ys[k].size≤281474976710656) :
  Calls Tryz.prog 181 #[.pointer (some ⟨d,0,none⟩),.int .i64 (k:Int)] w fun r w'=>r= .returned (.string ys[k])∧Below w.heap.size w w':=by
 have HL:=qa (flen_r h)
 obtain⟨A,c,hcell,hfr,hrd⟩:=h
 have hl:=hrd.len
 have hm:=hrd.cap
 rw[yg] at hl
 unfold maxLen at hm
 obtain⟨b,off,rfl,_,_,hcell2⟩:=hrd.str hk
 have HC:=qa (fun w=>cloneS_any (w:=w) ys[k] h4)
 have i0:¬(k:Int)<0:=by omega
 have d0:decide ((k:Int)<0)=false:=ql i0
 have i1:¬(ys.length:Int)≤(k:Int):=by omega
 have d1:decide ((ys.length:Int)≤(k:Int))=false:=ql i1
 have i2:(k:Int)<(ys.length:Int):=by omega
 generalize ys[k]=s at *
 clear hrd
 go_enter Tryz.func181,Tryz.ntmps181
 go_wp2_with fail
 refine HL.out.mono ?_
 rintro r w' ⟨rfl,rfl⟩
 go_wp2_with fail
 refine(HC.out _).mono ?_
 rintro r w1 ⟨rfl,hb⟩
 go_wp2_with fail
 go_ret
 exact⟨rfl,hb⟩
theorem fat_in{w:World}{d:Nat}{ys:List ByteArray}(h:Dc w d ys)(k:Nat)(hk:k<ys.length)(h4:ys[k].size≤281474976710656) :
  Calls Tryz.prog 181 #[.pointer (some ⟨d,0,none⟩),.int .i64 (k:Int)] w fun r w'=>r= .returned (.string ys[k])∧Below w.heap.size w w':=fat_in_r h.reads k hk h4
def qcp(w:World)(lo G:Nat)(c:Chk):Prop :=
 ∃(A0:Option Addr) (c0:Nat) (A2:Option Addr) (n2 c2:Nat) (A3:Option Addr) (n3 c3:Nat) (d:Option Addr) (A5:Option Addr) (n5 c5:Nat),
  j6 w G 106 #[.int .i64 (c.kind:Int),.slice A0 c.there.length c0,.slice A2 n2 c2,.slice A3 n3 c3,.pointer d,.slice A5 n5 c5]∧lo≤G∧Rd w lo w.heap.size A0 c0 (lv c.there)∧
  (c.kind=1∨c.kind=2→n2=c.there.length∧∃ps,qm4 ps=c.raws∧Rd w lo w.heap.size A2 c2 (xw c.there (pv ps) (.slice none 0 0))∧qrw w lo w.heap.size ps)∧
  (c.kind=2→n3=c.tab.length∧Rd w lo w.heap.size A3 c3 (sv (j7 c.tab)))∧
  (c.kind=3→∃(dg:Nat) (ys:List ByteArray),d=some ⟨dg,0,none⟩∧Dc w dg ys∧qm ys=c.dic∧n5=c.there.length∧Rd w lo w.heap.size A5 c5 (xw c.there (iv (zu c.codes)) (.int .i64 (-1)))∧lo≤dg)
theorem qcp.below{w w':World}{lo G:Nat}{c:Chk}(h:qcp w lo G c)(hb:Below w.heap.size w w'):qcp w' lo G c:=by
 obtain⟨A0,c0,A2,n2,c2,A3,n3,c3,d,A5,n5,c5,h1,h2,h3,h4,h5,h6⟩:=h
 have up:∀ {A:Option Addr} {c:Nat} {xs:List Value},Rd w lo w.heap.size A c xs→Rd w' lo w'.heap.size A c xs:=fun hr=>(hr.below hb (qc _)).wide (qc _) hb.size
 refine⟨A0,c0,A2,n2,c2,A3,n3,c3,d,A5,n5,c5,h1.below hb h1.lt,h2,up h3,fun hk => ?_,fun hk => ?_,fun hk => ?_⟩
 ·
  obtain⟨e1,ps,e2,e3,e4⟩:=h4 hk
  exact⟨e1,ps,e2,up e3,fun p hp=>up (e4 p hp)⟩
 ·
  obtain⟨e1,e2⟩:=h5 hk
  exact⟨e1,up e2⟩
 ·
  obtain⟨dg,ys,e1,e2,e3,e4,e5⟩:=h6 hk
  exact⟨dg,ys,e1,e2.below hb (qc _),e3,e4,up e5.1,e5.2⟩
theorem qi4{w:World}{lo g k G i:Nat}{bs:List UInt8}{e:Int}{u:Value}(h:vw w lo g bs k e)(hg:g<G):vw (w.setCell ⟨G,i,none⟩ u) lo g bs k e :=
 h.grown (row:=some G) (xv (vc _ _) (.inl rfl) u) (fun x hx=>by cases hx;exact .inr hg)
theorem qgk{w:World}{lo hi c G i:Nat}{A:Option Addr}{xs:List Value}{u:Value}(h:Rd w lo hi A c xs)(hg:G<lo∨hi≤G):Rd (w.setCell ⟨G,i,none⟩ u) lo hi A c xs:=h.setCell (p:=⟨G,i,none⟩) hg u
theorem prt_set{w:World}{lo hi G i:Nat}{ps:List Part}{u:Value}(h:qrw w lo hi ps)(hg:G<lo∨hi≤G):qrw (w.setCell ⟨G,i,none⟩ u) lo hi ps:=fun p hp=>qgk (h p hp) hg
theorem out_gG{w w':World}{g G:Nat}(h:w.grownBy w' (some g)):Out w w' (fun i=>i=g∨i=G):=Out.of_gb h (fun k hk=>by cases hk;exact .inl rfl)
theorem raws_full{bs:List UInt8}{k:Nat}{e m:Int}{there:List Bool}{ok:List UInt8→Bool}(hk:k≤bs.length)(hn:there.length≤2147483647):(qbq bs k e (cnt there) m ok).2.2=0→(qbq bs k e (cnt there) m ok).1.length=cnt there:=fun h0=>by
 by_cases he:e=0
 ·
  subst he
  obtain⟨⟨l,q,z⟩,hR⟩:∃R,qbq bs k 0 (cnt there) m ok=R:=⟨_,rfl⟩
  rw[hR] at h0 ⊢
  simp only at h0
  subst h0
  exact(qnu hk (by have:=qjf there;omega) hR).1
 ·
  rw[qp8 bs k _ _ _ he] at h0
  exact absurd h0 he
theorem take_one{w:World}{lo g G k c0 B:Nat}{bs:List UInt8}{e:Int}(there:List Bool){A0:Option Addr}(h:vw w lo g bs k e)(hb:bs.length≤1000000000)(hgB:g<B)(hBG:B≤G)
  (hG:j6 w G 106 #[.int .i64 1,.slice A0 there.length c0,.slice none 0 0,.slice none 0 0,.pointer none,.slice none 0 0]) (ht:Rd w (G+1) w.heap.size A0 c0 (lv there)) (ht4:there.length≤4096) :
  Calls Tryz.prog 89 #[.pointer (some ⟨G,0,none⟩),cp g] w fun r w'=>r= .returned (.tuple #[])∧vw w' lo g bs (qac bs k e 1 there).2.1 (qac bs k e 1 there).2.2∧Out w w' (fun i=>i=g∨i=G)∧
   ((qac bs k e 1 there).2.2=0→qcp w' B G (qac bs k e 1 there).1):=by
 have hgl:=h.lt
 have hGl:=hG.lt
 have hk:=h.le
 have hgG:g<G:=by omega
 have b0:=hG.cell 0
 simp only[zl,q9,zb] at b0
 have HTR:=qa (qqx 1 there [] 4096 (fun _=>true) h hb hgG hG (ht.wide (by omega) (qc _)) rfl ht4 (.inl ⟨rfl,rfl⟩) (fun h=>absurd h (by decide)) (by decide))
 have HTC:Hid (qac bs k e 1 there=(⟨1,there,(qbq bs k e (cnt there) 4096 fun _=>true).1,[],[],[]⟩,(qbq bs k e (cnt there) 4096 fun _=>true).2)):=by unfold Hid;rw[qac,if_pos rfl]
 have HLN:Hid ((qbq bs k e (cnt there) 4096 fun _=>true).2.2=0→(qbq bs k e (cnt there) 4096 fun _=>true).1.length=cnt there):=raws_full hk (by omega)
 rw[HTC.out]
 generalize qbq bs k e (cnt there) 4096 (fun _=>true)=R at *
 obtain⟨l,q,z⟩:=R
 simp only at *
 have HG0:=qa hG
 have HTH:=qa ht
 clear h hG ht HTC
 unfold cp at *
 go_enter Tryz.func89,Tryz.ntmps89
 go_wp2_with fail
 refine HTR.out.mono ?_
 rintro r w1 ⟨A1,n1,c1,rfl,hc1,hg1,hp1⟩
 have hs1:=hg1.size
 have HC1:=qa hc1
 have HG1:=qa hg1
 have HP1:=qa hp1
 have hx:=HG0.out.grown hg1 (by intro e;injection e with e;omega)
 have HX:=qa (hx.put 2 (.slice A1 n1 c1))
 have x2:=hx.cell 2
 have f2:=hx.frozen 2
 simp only[zl,q9,zb] at x2
 have HTH1:=qa (HTH.out.grown hg1 (qc _) (fun r hr=>by cases hr;exact .inl (by omega)))
 clear hc1 hg1 hp1 hx b0 HTR
 go_wp2_with fail
 refine bodyPost_end (results_none rfl _ _ _) rfl ?_
 refine⟨rfl,qi4 HC1.out hgG,(out_gG HG1.out).setCell (p:=⟨G,2,none⟩) (.inl (.inr rfl)) _,fun hz => ?_⟩
 obtain⟨hn1,ps,hps,hr,hpp⟩:=HP1.out (HLN.out hz)
 have hsz:(w1.setCell ⟨G,2,none⟩ (.slice A1 n1 c1)).heap.size=w1.heap.size:=by simp[World.setCell]
 refine⟨A0,c0,A1,n1,c1,none,0,0,none,none,0,0,by simpa using HX.out,hBG,?_,fun _=>⟨hn1,ps,hps,?_,?_⟩,fun h=>absurd h (show ¬(1:Nat)=2 by decide),fun h=>absurd h (show ¬(1:Nat)=3 by decide)⟩
 ·
  rw[hsz];exact(qgk HTH1.out (.inl (by omega))).wide (by omega) hs1
 ·
  rw[hsz];exact(qgk hr (.inl hGl)).wide (by omega) (qc _)
 ·
  rw[hsz];exact(prt_set hpp (.inl hGl)).wide (by omega) (qc _)
theorem take_other{w:World}{lo g G k c0 B:Nat}{bs:List UInt8}{e:Int}(kd:Nat)(h1:kd≠1)(h2:kd≠2)(h3:kd≠3)(there:List Bool){A0:Option Addr}(h:vw w lo g bs k e)(hb:bs.length≤1000000000)(hgB:g<B)(hBG:B≤G)
  (hG:j6 w G 106 #[.int .i64 (kd:Int),.slice A0 there.length c0,.slice none 0 0,.slice none 0 0,.pointer none,.slice none 0 0]) (ht:Rd w (G+1) w.heap.size A0 c0 (lv there)) (ht4:there.length≤4096) :
  Calls Tryz.prog 89 #[.pointer (some ⟨G,0,none⟩),cp g] w fun r w'=>r= .returned (.tuple #[])∧vw w' lo g bs (qac bs k e kd there).2.1 (qac bs k e kd there).2.2∧Out w w' (fun i=>i=g∨i=G):=by
 have hgl:=h.lt
 have hGl:=hG.lt
 have hk:=h.le
 have hgG:g<G:=by omega
 have b0:=hG.cell 0
 simp only[zl,q9,zb] at b0
 have e1:qac bs k e kd there=(⟨kd,there,[],[],[],[]⟩,k,e):=by rw[qac,if_neg h1,if_neg h2,if_neg h3]
 rw[e1]
 have i1:((kd:Int)==1)=false:=by rw[qr];omega
 have i2:((kd:Int)==2)=false:=by rw[qr];omega
 have i3:((kd:Int)==3)=false:=by rw[qr];omega
 have j1:¬(kd:Int)=1:=by omega
 have j2:¬(kd:Int)=2:=by omega
 have j3:¬(kd:Int)=3:=by omega
 have HC:=qa h
 clear h hG ht e1 h1 h2 h3
 unfold cp at *
 go_enter Tryz.func89,Tryz.ntmps89
 go_wp2_with fail
 refine bodyPost_end (results_none rfl _ _ _) rfl ?_
 exact⟨rfl,HC.out,Out.refl _ _⟩
end Go.Proofs.YtnjkipnklpkaoaaGreat
