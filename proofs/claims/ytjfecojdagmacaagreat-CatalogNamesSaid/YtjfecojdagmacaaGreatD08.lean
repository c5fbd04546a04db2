/-
  Lemmas.
-/
import Derived.Test.YtjfecojdagmacaaGreatD06
import Derived.LoopIn
import Derived.LoopNIn
import Derived.OwnWalk
import Derived.OwnWalkIn
import Derived.RangeFuncBound
import Derived.RangeFuncBox
import Derived.RangeFuncCalls
import Derived.RangeFuncLeaves
import Derived.RangeFuncNested
import Derived.Shelf.Abstract
import Derived.Shelf.RegionOpen
import Derived.TacticsInMore
namespace Go.Proofs.YtjfecojdagmacaaGreat
open Go.RowKit
set_option maxRecDepth 20000
set_option maxHeartbeats 16000000
set_option linter.unusedSimpArgs false
set_option linter.unusedVariables false
theorem qng{a w w':World}{g:Nat}{v:Value}(h:a.grownBy w (some g))(h2:w.grownBy w' v.ownBlock)(hx:∀q,v.ownBlock=some q→a.heap.size≤q):a.grownBy w' (some g):=by
 cases ho:v.ownBlock with
 | none=>rw[ho] at h2;exact h.trans (qgw h2)
 | some q=>rw[ho] at h2;exact gb_more h h2 (hx q ho)
theorem qfw{w w':World}{base n g:Nat}{e:TypeId}{size:Nat}{v:Value}{xs:List Value}(h:w.ownsRow base e size v n xs)(hg:w.grownBy w' (some g))(hb:g<base):w'.ownsRow base e size v n xs :=
 jv h fun k hk=>hg.block k (zk h hk).2 (fun e=>by injection e with e;have:=(zk h hk).1;omega)
theorem fits_nat{w:World}(n:Nat):Calls Tryz.prog 194 #[.int .i64 (n:Int)] w fun r w'=>r= .returned (.bool (qh1 n))∧w=w':=fits_any (n:Int)
theorem sget_at{w:World}{lo g k0:Nat}{e0:Int}{bs:List UInt8}(h:vx w lo g bs k0 e0)(hb:bs.length≤1000000000) :
  Calls Tryz.prog 166 #[cp g] w fun r w'=>∃A c,r= .returned (.slice A (qe7 bs k0 e0).1.length c)∧w'.ownsRow w.heap.size 9 1 (.slice A (qe7 bs k0 e0).1.length c) (qe7 bs k0 e0).1.length (sv (yj (qe7 bs k0 e0).1))∧
   vx w' lo g bs (qe7 bs k0 e0).2.1 (qe7 bs k0 e0).2.2∧w.grownBy w' (some g):=by
 have hlt:=h.lt
 have HBY:=qa (qoc h)
 have HLL:Hid (qe7 bs k0 e0=if (qjh bs k0 e0).2.2=0 then qjh bs k0 e0 else ([],(qjh bs k0 e0).2)):=rfl
 have HAA:Hid (qjh bs k0 e0=qfy bs (qqk bs k0 e0) (jo bs k0 e0 0 1).2.1 (jo bs k0 e0 0 1).2.2 []):=rfl
 have hN:((jo bs k0 e0 0 1).1.headD 0).toNat=qqk bs k0 e0:=rfl
 have hN5:qqk bs k0 e0≤255:=by have:=jj ((jo bs k0 e0 0 1).1.headD 0);rw[←hN];omega
 rw[hN] at HBY
 clear hN h
 generalize qe7 bs k0 e0=L at *
 generalize jo bs k0 e0 0 1=T at *
 generalize qqk bs k0 e0=N at *
 generalize qjh bs k0 e0=G at *
 unfold cp at *
 go_enter Tryz.func166,Tryz.ntmps166
 go_wp2_with fail
 refine HBY.out.mono ?_
 rintro r w1 ⟨rfl,hc1,hg1⟩
 have HC1:=qa hc1
 have HG1:=qa hg1
 clear hc1 hg1 HBY
 go_wp2_with fail
 go_loopw [3,4,9] (fun x3 x4 x9 wr=>∃(i p:Nat) (e:Int) (last:ByteArray) (ys:List ByteArray) (A:Option Addr) (c:Nat),i≤N∧x9= .int .i64 (i:Int)∧x4= .string last∧x3= .slice A i c∧ys.length=i∧
  G=(qm ys++(qfy bs (N-i) p e last.data.toList).1,(qfy bs (N-i) p e last.data.toList).2)∧last.size≤1000000000∧
  wr.ownsRow w.heap.size 9 1 (.slice A i c) i (sv ys)∧vx wr lo g bs p e∧w.grownBy wr (some g)) (fun _ _ i _=>N-(intOf i).toNat)
 case atStart=>exact⟨0,T.2.1,T.2.2,⟨#[]⟩,[],none,0,qi _,rfl,rfl,rfl,rfl,by rw[HAA.out];rfl,by decide,⟨rfl,.inl ⟨rfl,rfl⟩⟩,HC1.out,HG1.out⟩
 case round =>
  clear HC1 HG1
  obtain⟨i,p,e,last,ys,A,c,hi,rfl,rfl,rfl,hyl,hGe,hls,hown,hcur,hgb⟩:=hrel
  have HYL:=qa hyl
  have HGE:=qa hGe
  have HO:=qa hown
  have HC:=qa hcur
  have HG:=qa hgb
  have hsz:=hgb.size
  clear hyl hGe hown hcur hgb
  by_cases hiN:i<N
  ·
   have ik:(i:Int)<(N:Int):=by omega
   obtain⟨d,hd⟩:∃d,N-i=d+1:=⟨N-i-1,by omega⟩
   have HD:Hid (N-(i+1)=d):=by unfold Hid;omega
   have HBY:=qa (qoc HC.out)
   obtain⟨S,hS⟩:∃S,qf4 bs p e last.data.toList=S:=⟨_,rfl⟩
   have HGN:Hid (G=(qm ys++(S.1 :: (qfy bs d S.2.1 S.2.2 S.1).1),(qfy bs d S.2.1 S.2.2 S.1).2)):=by
    unfold Hid
    rw[HGE.out,hd,qfy,hS]
   clear hd HGE
   unfold qf4 at hS
   simp only at hS
   generalize jo bs p e 0 1=R at *
   obtain⟨n,hn⟩:∃n,(R.1.headD 0).toNat=n:=⟨_,rfl⟩
   have hn5:n≤255:=by have:=jj (R.1.headD 0);rw[←hn];omega
   rw[hn] at HBY hS
   clear hn
   obtain⟨e2,he2⟩:∃e2,(if qh1 n=true then R.2.2 else xd R.2.2)=e2:=⟨_,rfl⟩
   rw[he2] at hS
   have HE2:=qa he2
   clear he2
   have HTL:Hid ((jo bs R.2.1 e2 0 n).1.length≤bs.length):=by
    unfold Hid jo
    repeat' split
    all_goals simp
    all_goals omega
   obtain⟨Q,hQ⟩:∃Q,jo bs R.2.1 e2 0 n=Q:=⟨_,rfl⟩
   rw[hQ] at hS HTL
   have HQ:=qa hQ
   have HS:=qa hS
   clear hQ hS
   have HFI:=qa (fun w=>fits_nat (w:=w) n)
   obtain⟨f1,hf1⟩:∃f1,qh1 n=f1:=⟨_,rfl⟩
   rw[hf1] at HFI HE2
   clear hf1
   obtain⟨x,hx⟩:∃x:ByteArray,x=⟨Q.1.toArray⟩:=⟨_,rfl⟩
   have hxl:x.data.toList=Q.1:=by rw[hx]
   have hxs:x.size≤1000000000:=by
    have h1:=HTL.out
    rw[←hxl,jt] at h1
    have h2:x.data.size=x.size:=rfl
    omega
   have HXL:=qa hxl
   have HFO:=qa (fun w=>qp0 (w:=w) last x (by omega))
   rw[hxl] at HFO
   obtain⟨f2,hf2⟩:∃f2,qni last.data.toList Q.1=f2:=⟨_,rfl⟩
   rw[hf2] at HFO HS
   have HX:=qa hx
   clear hf2 hx hxl
   -- ARMS
   cases f1 with
   | true =>
    cases f2 with
    | true =>
     go_wp2_with fail
     refine HBY.out.mono ?_
     rintro r w2 ⟨rfl,hc2,hg2⟩
     have HC2:=qa hc2
     have HO2:=qa (qfw HO.out hg2 hlt)
     have HG2:=qa (HG.out.trans hg2)
     clear hc2 hg2 HBY HO
     go_wp2_with fail
     refine(HFI.out _).mono ?_
     rintro r w' ⟨rfl,rfl⟩
     have HE3:Hid (R.2.2=e2):=HE2.out
     have HC3:Hid (vx w2 lo g bs R.2.1 e2):=by unfold Hid;rw[←HE3.out];exact HC2.out
     have HO3:=qa HO2.out
     have HG3:=qa HG2.out
     have hsz3:=HG3.out.size
     have HB:=qa (qe8 (n:Int) HC3.out (by omega))
     rw[HQ.out] at HB
     clear HC2 HO2 HG2
     go_wp2_with fail
     refine HB.out.mono ?_
     rintro r w4 ⟨A4,c4,rfl,hrd4,hc4,hg4⟩
     have hst:=ul (P:=Tryz.prog) w4 36 9 5 Tryz.underlying36 Tryz.underlying5 Tryz.underlying9 _ _ A4 c4 Q.1 (Rd.of_own hrd4)
     rw[←HX.out] at hst
     have HC4:=qa hc4
     have HO4:=qa (qfw HO3.out hg4 hlt)
     have HG4:=qa (HG3.out.trans hg4)
     have hsz4:=HG4.out.size
     clear hc4 hg4 hrd4 HB HC3 HO3 HG3
     go_wp2_with fail
     refine(HFO.out _).mono ?_
     rintro r w5 ⟨rfl,m,rfl⟩
     clear hst
     have HC6:Hid (vx (w4.drewN m) lo g bs S.2.1 S.2.2):=by unfold Hid;rw[←HS.out];exact HC4.out.drewN m
     obtain⟨w6,hw6⟩:∃w6,w4.drewN m=w6:=⟨_,rfl⟩
     have HO6:Hid (w6.ownsRow w.heap.size 9 1 (.slice A i c) i (sv ys)):=by unfold Hid;rw[←hw6];exact jv HO4.out fun k hk=>rfl
     have HG6:Hid (w.grownBy w6 (some g)):=by unfold Hid;rw[←hw6];exact qb0 HG4.out m
     rw[hw6] at HC6 ⊢
     clear hw6
     have hsz6:=HG6.out.size
     clear HC4 HO4 HG4
     rw[←HYL.out] at HO6
     go_wp2_with (at_builtin;refine vh (v:= .slice A i c) w.heap.size ys x rfl _ _ rfl rfl rfl rfl (by rw[zg _ _ _ _ rfl];rfl) (by have:=HO6.out.alloc (.cells #[.string x] 9);rw[HYL.out] at this ⊢;exact this) (by rw[HYL.out];omega) (by simp;omega) ?_;intro A7 c7 w7 ho7 hg7;refine qam ?_)
     have hgb7:w.grownBy w7 (some g):=qng (ku HG6.out _) hg7 (fun q hq=>(zk HO6.out (by rw[HYL.out];exact hq)).1)
     have hcu7:vx w7 lo g bs S.2.1 S.2.2:=(HC6.out.grown (row:=none) (by exact ku (vg _ _) _) (by simp)).grown hg7 (fun q hq=> .inr (zn hlt (zk HO6.out (by rw[HYL.out];exact hq)).1))
     obtain⟨zs,hzs⟩:∃zs,ys++[x]=zs:=⟨_,rfl⟩
     rw[hzs] at ho7
     have hzl:zs.length=i+1:=by rw[←hzs,qd,HYL.out];rfl
     rw[hzl] at ho7
     have HZV:Hid (Value.slice A7 (ys.length+1) c7= .slice A7 (i+1) c7):=by unfold Hid;rw[HYL.out]
     have HGF:Hid (G=(qm zs++(qfy bs (N-(i+1)) S.2.1 S.2.2 x.data.toList).1,(qfy bs (N-(i+1)) S.2.1 S.2.2 x.data.toList).2)):=by
      unfold Hid
      have h1:S.1=x.data.toList:=by rw[←HS.out,HXL.out]
      rw[HGN.out,HD.out,←hzs,h1]
      simp[qm]
     have HZL:=qa hzl
     have HO7:=qa ho7
     have HC7:=qa hcu7
     have HG7:=qa hgb7
     clear ho7 hg7 hgb7 hcu7 hzs hzl HO6 HC6 HG6
     refine⟨?_⟩
     go_wp2_with fail
     go_roundw
     case rel=>exact⟨i+1,S.2.1,S.2.2,x,zs,A7,c7,by omega,by go_num,rfl,HZV.out,HZL.out,HGF.out,hxs,HO7.out,HC7.out,HG7.out⟩
     case measure=>simp[intOf] <;> omega
    | false =>
     go_wp2_with fail
     refine HBY.out.mono ?_
     rintro r w2 ⟨rfl,hc2,hg2⟩
     have HC2:=qa hc2
     have HO2:=qa (qfw HO.out hg2 hlt)
     have HG2:=qa (HG.out.trans hg2)
     clear hc2 hg2 HBY HO
     go_wp2_with fail
     refine(HFI.out _).mono ?_
     rintro r w' ⟨rfl,rfl⟩
     have HE3:Hid (R.2.2=e2):=HE2.out
     have HC3:Hid (vx w2 lo g bs R.2.1 e2):=by unfold Hid;rw[←HE3.out];exact HC2.out
     have HO3:=qa HO2.out
     have HG3:=qa HG2.out
     have hsz3:=HG3.out.size
     have HB:=qa (qe8 (n:Int) HC3.out (by omega))
     rw[HQ.out] at HB
     clear HC2 HO2 HG2
     go_wp2_with fail
     refine HB.out.mono ?_
     rintro r w4 ⟨A4,c4,rfl,hrd4,hc4,hg4⟩
     have hst:=ul (P:=Tryz.prog) w4 36 9 5 Tryz.underlying36 Tryz.underlying5 Tryz.underlying9 _ _ A4 c4 Q.1 (Rd.of_own hrd4)
     rw[←HX.out] at hst
     have HC4:=qa hc4
     have HO4:=qa (qfw HO3.out hg4 hlt)
     have HG4:=qa (HG3.out.trans hg4)
     have hsz4:=HG4.out.size
     clear hc4 hg4 hrd4 HB HC3 HO3 HG3
     go_wp2_with fail
     refine(HFO.out _).mono ?_
     rintro r w5 ⟨rfl,m,rfl⟩
     clear hst
     go_wp2_with fail
     refine(ua 3 (HC4.out.drewN m)).mono ?_
     rintro r w6 ⟨rfl,hc6,hg6⟩
     have HC6:Hid (vx w6 lo g bs S.2.1 S.2.2):=by unfold Hid;rw[←HS.out];exact hc6
     have HO6:Hid (w6.ownsRow w.heap.size 9 1 (.slice A i c) i (sv ys)):=qfw (w:=w4.drewN m) (jv HO4.out fun k hk=>rfl) hg6 hlt
     have HG6:Hid (w.grownBy w6 (some g)):=(qb0 HG4.out m).trans hg6
     clear hc6 hg6
     have hsz6:=HG6.out.size
     clear HC4 HO4 HG4
     rw[←HYL.out] at HO6
     go_wp2_with (at_builtin;refine vh (v:= .slice A i c) w.heap.size ys x rfl _ _ rfl rfl rfl rfl (by rw[zg _ _ _ _ rfl];rfl) (by have:=HO6.out.alloc (.cells #[.string x] 9);rw[HYL.out] at this ⊢;exact this) (by rw[HYL.out];omega) (by simp;omega) ?_;intro A7 c7 w7 ho7 hg7;refine qam ?_)
     have hgb7:w.grownBy w7 (some g):=qng (ku HG6.out _) hg7 (fun q hq=>(zk HO6.out (by rw[HYL.out];exact hq)).1)
     have hcu7:vx w7 lo g bs S.2.1 S.2.2:=(HC6.out.grown (row:=none) (by exact ku (vg _ _) _) (by simp)).grown hg7 (fun q hq=> .inr (zn hlt (zk HO6.out (by rw[HYL.out];exact hq)).1))
     obtain⟨zs,hzs⟩:∃zs,ys++[x]=zs:=⟨_,rfl⟩
     rw[hzs] at ho7
     have hzl:zs.length=i+1:=by rw[←hzs,qd,HYL.out];rfl
     rw[hzl] at ho7
     have HZV:Hid (Value.slice A7 (ys.length+1) c7= .slice A7 (i+1) c7):=by unfold Hid;rw[HYL.out]
     have HGF:Hid (G=(qm zs++(qfy bs (N-(i+1)) S.2.1 S.2.2 x.data.toList).1,(qfy bs (N-(i+1)) S.2.1 S.2.2 x.data.toList).2)):=by
      unfold Hid
      have h1:S.1=x.data.toList:=by rw[←HS.out,HXL.out]
      rw[HGN.out,HD.out,←hzs,h1]
      simp[qm]
     have HZL:=qa hzl
     have HO7:=qa ho7
     have HC7:=qa hcu7
     have HG7:=qa hgb7
     clear ho7 hg7 hgb7 hcu7 hzs hzl HO6 HC6 HG6
     refine⟨?_⟩
     go_wp2_with fail
     go_roundw
     case rel=>exact⟨i+1,S.2.1,S.2.2,x,zs,A7,c7,by omega,by go_num,rfl,HZV.out,HZL.out,HGF.out,hxs,HO7.out,HC7.out,HG7.out⟩
     case measure=>simp[intOf] <;> omega
   | false =>
    cases f2 with
    | true =>
     go_wp2_with fail
     refine HBY.out.mono ?_
     rintro r w2 ⟨rfl,hc2,hg2⟩
     have HC2:=qa hc2
     have HO2:=qa (qfw HO.out hg2 hlt)
     have HG2:=qa (HG.out.trans hg2)
     clear hc2 hg2 HBY HO
     go_wp2_with fail
     refine(HFI.out _).mono ?_
     rintro r w' ⟨rfl,rfl⟩
     go_wp2_with fail
     refine(ua 3 HC2.out).mono ?_
     rintro r w3 ⟨rfl,hc3,hg3⟩
     have HE3:Hid (xd R.2.2=e2):=HE2.out
     have HC3:Hid (vx w3 lo g bs R.2.1 e2):=by unfold Hid;rw[←HE3.out];exact hc3
     have HO3:=qa (qfw HO2.out hg3 hlt)
     have HG3:=qa (HG2.out.trans hg3)
     clear hc3 hg3
     have hsz3:=HG3.out.size
     have HB:=qa (qe8 (n:Int) HC3.out (by omega))
     rw[HQ.out] at HB
     clear HC2 HO2 HG2
     go_wp2_with fail
     refine HB.out.mono ?_
     rintro r w4 ⟨A4,c4,rfl,hrd4,hc4,hg4⟩
     have hst:=ul (P:=Tryz.prog) w4 36 9 5 Tryz.underlying36 Tryz.underlying5 Tryz.underlying9 _ _ A4 c4 Q.1 (Rd.of_own hrd4)
     rw[←HX.out] at hst
     have HC4:=qa hc4
     have HO4:=qa (qfw HO3.out hg4 hlt)
     have HG4:=qa (HG3.out.trans hg4)
     have hsz4:=HG4.out.size
     clear hc4 hg4 hrd4 HB HC3 HO3 HG3
     go_wp2_with fail
     refine(HFO.out _).mono ?_
     rintro r w5 ⟨rfl,m,rfl⟩
     clear hst
     have HC6:Hid (vx (w4.drewN m) lo g bs S.2.1 S.2.2):=by unfold Hid;rw[←HS.out];exact HC4.out.drewN m
     obtain⟨w6,hw6⟩:∃w6,w4.drewN m=w6:=⟨_,rfl⟩
     have HO6:Hid (w6.ownsRow w.heap.size 9 1 (.slice A i c) i (sv ys)):=by unfold Hid;rw[←hw6];exact jv HO4.out fun k hk=>rfl
     have HG6:Hid (w.grownBy w6 (some g)):=by unfold Hid;rw[←hw6];exact qb0 HG4.out m
     rw[hw6] at HC6 ⊢
     clear hw6
     have hsz6:=HG6.out.size
     clear HC4 HO4 HG4
     rw[←HYL.out] at HO6
     go_wp2_with (at_builtin;refine vh (v:= .slice A i c) w.heap.size ys x rfl _ _ rfl rfl rfl rfl (by rw[zg _ _ _ _ rfl];rfl) (by have:=HO6.out.alloc (.cells #[.string x] 9);rw[HYL.out] at this ⊢;exact this) (by rw[HYL.out];omega) (by simp;omega) ?_;intro A7 c7 w7 ho7 hg7;refine qam ?_)
     have hgb7:w.grownBy w7 (some g):=qng (ku HG6.out _) hg7 (fun q hq=>(zk HO6.out (by rw[HYL.out];exact hq)).1)
     have hcu7:vx w7 lo g bs S.2.1 S.2.2:=(HC6.out.grown (row:=none) (by exact ku (vg _ _) _) (by simp)).grown hg7 (fun q hq=> .inr (zn hlt (zk HO6.out (by rw[HYL.out];exact hq)).1))
     obtain⟨zs,hzs⟩:∃zs,ys++[x]=zs:=⟨_,rfl⟩
     rw[hzs] at ho7
     have hzl:zs.length=i+1:=by rw[←hzs,qd,HYL.out];rfl
     rw[hzl] at ho7
     have HZV:Hid (Value.slice A7 (ys.length+1) c7= .slice A7 (i+1) c7):=by unfold Hid;rw[HYL.out]
     have HGF:Hid (G=(qm zs++(qfy bs (N-(i+1)) S.2.1 S.2.2 x.data.toList).1,(qfy bs (N-(i+1)) S.2.1 S.2.2 x.data.toList).2)):=by
      unfold Hid
      have h1:S.1=x.data.toList:=by rw[←HS.out,HXL.out]
      rw[HGN.out,HD.out,←hzs,h1]
      simp[qm]
     have HZL:=qa hzl
     have HO7:=qa ho7
     have HC7:=qa hcu7
     have HG7:=qa hgb7
     clear ho7 hg7 hgb7 hcu7 hzs hzl HO6 HC6 HG6
     refine⟨?_⟩
     go_wp2_with fail
     go_roundw
     case rel=>exact⟨i+1,S.2.1,S.2.2,x,zs,A7,c7,by omega,by go_num,rfl,HZV.out,HZL.out,HGF.out,hxs,HO7.out,HC7.out,HG7.out⟩
     case measure=>simp[intOf] <;> omega
    | false =>
     go_wp2_with fail
     refine HBY.out.mono ?_
     rintro r w2 ⟨rfl,hc2,hg2⟩
     have HC2:=qa hc2
     have HO2:=qa (qfw HO.out hg2 hlt)
     have HG2:=qa (HG.out.trans hg2)
     clear hc2 hg2 HBY HO
     go_wp2_with fail
     refine(HFI.out _).mono ?_
     rintro r w' ⟨rfl,rfl⟩
     go_wp2_with fail
     refine(ua 3 HC2.out).mono ?_
     rintro r w3 ⟨rfl,hc3,hg3⟩
     have HE3:Hid (xd R.2.2=e2):=HE2.out
     have HC3:Hid (vx w3 lo g bs R.2.1 e2):=by unfold Hid;rw[←HE3.out];exact hc3
     have HO3:=qa (qfw HO2.out hg3 hlt)
     have HG3:=qa (HG2.out.trans hg3)
     clear hc3 hg3
     have hsz3:=HG3.out.size
     have HB:=qa (qe8 (n:Int) HC3.out (by omega))
     rw[HQ.out] at HB
     clear HC2 HO2 HG2
     go_wp2_with fail
     refine HB.out.mono ?_
     rintro r w4 ⟨A4,c4,rfl,hrd4,hc4,hg4⟩
     have hst:=ul (P:=Tryz.prog) w4 36 9 5 Tryz.underlying36 Tryz.underlying5 Tryz.underlying9 _ _ A4 c4 Q.1 (Rd.of_own hrd4)
     rw[←HX.out] at hst
     have HC4:=qa hc4
     have HO4:=qa (qfw HO3.out hg4 hlt)
     have HG4:=qa (HG3.out.trans hg4)
     have hsz4:=HG4.out.size
     clear hc4 hg4 hrd4 HB HC3 HO3 HG3
     go_wp2_with fail
     refine(HFO.out _).mono ?_
     rintro r w5 ⟨rfl,m,rfl⟩
     clear hst
     go_wp2_with fail
     refine(ua 3 (HC4.out.drewN m)).mono ?_
     rintro r w6 ⟨rfl,hc6,hg6⟩
     have HC6:Hid (vx w6 lo g bs S.2.1 S.2.2):=by unfold Hid;rw[←HS.out];exact hc6
     have HO6:Hid (w6.ownsRow w.heap.size 9 1 (.slice A i c) i (sv ys)):=qfw (w:=w4.drewN m) (jv HO4.out fun k hk=>rfl) hg6 hlt
     have HG6:Hid (w.grownBy w6 (some g)):=(qb0 HG4.out m).trans hg6
     clear hc6 hg6
     have hsz6:=HG6.out.size
     clear HC4 HO4 HG4
     rw[←HYL.out] at HO6
     go_wp2_with (at_builtin;refine vh (v:= .slice A i c) w.heap.size ys x rfl _ _ rfl rfl rfl rfl (by rw[zg _ _ _ _ rfl];rfl) (by have:=HO6.out.alloc (.cells #[.string x] 9);rw[HYL.out] at this ⊢;exact this) (by rw[HYL.out];omega) (by simp;omega) ?_;intro A7 c7 w7 ho7 hg7;refine qam ?_)
     have hgb7:w.grownBy w7 (some g):=qng (ku HG6.out _) hg7 (fun q hq=>(zk HO6.out (by rw[HYL.out];exact hq)).1)
     have hcu7:vx w7 lo g bs S.2.1 S.2.2:=(HC6.out.grown (row:=none) (by exact ku (vg _ _) _) (by simp)).grown hg7 (fun q hq=> .inr (zn hlt (zk HO6.out (by rw[HYL.out];exact hq)).1))
     obtain⟨zs,hzs⟩:∃zs,ys++[x]=zs:=⟨_,rfl⟩
     rw[hzs] at ho7
     have hzl:zs.length=i+1:=by rw[←hzs,qd,HYL.out];rfl
     rw[hzl] at ho7
     have HZV:Hid (Value.slice A7 (ys.length+1) c7= .slice A7 (i+1) c7):=by unfold Hid;rw[HYL.out]
     have HGF:Hid (G=(qm zs++(qfy bs (N-(i+1)) S.2.1 S.2.2 x.data.toList).1,(qfy bs (N-(i+1)) S.2.1 S.2.2 x.data.toList).2)):=by
      unfold Hid
      have h1:S.1=x.data.toList:=by rw[←HS.out,HXL.out]
      rw[HGN.out,HD.out,←hzs,h1]
      simp[qm]
     have HZL:=qa hzl
     have HO7:=qa ho7
     have HC7:=qa hcu7
     have HG7:=qa hgb7
     clear ho7 hg7 hgb7 hcu7 hzs hzl HO6 HC6 HG6
     refine⟨?_⟩
     go_wp2_with fail
     go_roundw
     case rel=>exact⟨i+1,S.2.1,S.2.2,x,zs,A7,c7,by omega,by go_num,rfl,HZV.out,HZL.out,HGF.out,hxs,HO7.out,HC7.out,HG7.out⟩
     case measure=>simp[intOf] <;> omega
   -- END ARMS
  ·
   have ik:¬(i:Int)<(N:Int):=by omega
   have hiN2:i=N:=by omega
   have hG2:G=(qm ys,p,e):=by
    rw[HGE.out,show N-i=0 by omega,qfy,jb]
   have hLL:=HLL.out
   rw[hG2] at hLL
   simp only at hLL
   have HGO:=qa (xx HC.out)
   clear hG2 HLL HGE HAA
   by_cases he:e=0
   ·
    rw[if_pos he] at hLL
    have HLV:=qa hLL
    have hg1:(e==0)=true:=by simpa using he
    rw[hg1] at HGO
    clear hLL he hg1
    unfold cp at *
    go_wp2_with fail
    refine HGO.out.mono ?_
    rintro r w' ⟨rfl,rfl⟩
    go_wp2_with fail
    go_ret
    rw[HLV.out]
    simp only[qv,HYL.out,qdt]
    exact⟨A,c,by rw[hiN2];rfl,HO.out,HC.out,HG.out⟩
   ·
    rw[if_neg he] at hLL
    have HLV:=qa hLL
    have hg1:(e==0)=false:=by simpa using he
    rw[hg1] at HGO
    clear hLL he hg1
    unfold cp at *
    go_wp2_with fail
    refine HGO.out.mono ?_
    rintro r w' ⟨rfl,rfl⟩
    go_wp2_with fail
    go_ret
    rw[HLV.out]
    exact⟨none,0,rfl,⟨rfl,.inl ⟨rfl,rfl⟩⟩,HC.out,HG.out⟩
theorem count_any{w:World}(l:List Bool){lo h':Nat}{A:Option Addr}{c:Nat}(h:Rd w lo h' A c (lv l)) :
  Calls Tryz.prog 191 #[.slice A l.length c] w fun r w'=>r= .returned (.int .i64 (cnt l:Int))∧w=w':=by
 have hl:=h.len
 have hc:=h.cap
 rw[qau] at hl
 unfold maxLen at hc
 have H:=qa h
 clear h
 go_enter Tryz.func191,Tryz.ntmps191
 go_wp2_with fail
 go_loop [3,8] (fun n i=>∃k:Nat,k≤l.length∧i= .int .i64 (k:Int)∧n= .int .i64 (cnt (l.take k):Int)) (fun _ i=>l.length-(intOf i).toNat)
 case atStart=>exact⟨0,qi _,rfl,rfl⟩
 case round =>
  obtain⟨k,hk,rfl,rfl⟩:=hrel
  by_cases hlt:k<l.length
  ·
   obtain⟨b,off,rfl,_,_,hcell⟩:=H.out.row hlt
   have hts:=qa (cnt_take l k hlt)
   have hle:=cnt_take_le l k
   generalize cnt (l.take k)=m at *
   cases hx:l[k]
   ·
    rw[hx] at hcell hts
    go_wp2
    go_round
    case rel=>exact⟨k+1,by omega,by go_num,by rw[hts.out];rfl⟩
    case measure=>simp[intOf];omega
   ·
    rw[hx] at hcell hts
    go_wp2
    go_round
    case rel=>exact⟨k+1,by omega,by go_num,by rw[hts.out];go_num⟩
    case measure=>simp[intOf];omega
  ·
   obtain rfl:k=l.length:=by omega
   rw[yw]
   go_wp2
   go_ret
   exact⟨rfl,rfl⟩
theorem tailS(s:ByteArray)(k:Nat):(s.extract k s.size).data.toList=s.data.toList.drop k:=by
 rw[qdq,qen]
 rw[qcd,qo (by rw[qy,qgi];omega)]
theorem dropS{s:ByteArray}{k:Nat}(h:k<s.size):s.data.toList.drop k=s[k] :: s.data.toList.drop (k+1):=by
 rw[jc (by rw[qgi];exact h)]
 rfl
theorem str_etaU(u:ByteArray):(⟨u.data.toList.toArray⟩:ByteArray)=u:=by
 rcases u with ⟨d⟩
 rfl
structure Pc where
 s:ByteArray
 e:Nat
 h:s.size≤8
def Pc.lit(y:UInt8):Pc:=⟨⟨#[y]⟩,0,by show 1≤8;decide⟩
def Pc.err(k:Nat):Pc:=⟨⟨#[]⟩,k,by show 0≤8;decide⟩
section
variable (l:List ByteArray)(h8:∀t∈l,t.size≤8)
def qip:Bool→List UInt8→List Pc
 | true,[]=>[Pc.err 2]
 | false,[]=>[]
 | true,y :: r=>Pc.lit y :: qip false r
 | false,x :: r=>if x.toNat=255 then qip true r else if hx:x.toNat<l.length then ⟨l[x.toNat],0,h8 _ (ql hx)⟩ :: qip false r else [Pc.err 3]
end
section
variable {l:List ByteArray}{h8:∀t∈l,t.size≤8}{bs:List UInt8}{k:Nat}
theorem pc_cut:qip l h8 true (bs.drop bs.length)=[Pc.err 2]:=by rw[List.drop_length,qip]
theorem pc_end:qip l h8 false (bs.drop bs.length)=[]:=by rw[List.drop_length,qip]
theorem pc_esc(h:k<bs.length)(hx:bs[k].toNat=255):qip l h8 false (bs.drop k)=qip l h8 true (bs.drop (k+1)):=by
 rw[jc h,qip,if_pos hx]
theorem pc_lit(h:k<bs.length):qip l h8 true (bs.drop k)=Pc.lit bs[k] :: qip l h8 false (bs.drop (k+1)):=by
 rw[jc h,qip]
theorem pc_sym(h:k<bs.length)(hx:¬bs[k].toNat=255)(hl:bs[k].toNat<l.length):qip l h8 false (bs.drop k)=⟨l[bs[k].toNat],0,h8 _ (ql hl)⟩ :: qip l h8 false (bs.drop (k+1)):=by
 rw[jc h,qip,if_neg hx,dif_pos hl]
theorem pc_bad(h:k<bs.length)(hx:¬bs[k].toNat=255)(hl:¬bs[k].toNat<l.length):qip l h8 false (bs.drop k)=[Pc.err 3]:=by
 rw[jc h,qip,if_neg hx,dif_neg hl]
theorem pc_len:∀(bs:List UInt8) (f:Bool),(qip l h8 f bs).length≤bs.length+(if f then 1 else 0)
 | [],true=>by rw[qip];simp
 | [],false=>by rw[qip];simp
 | y :: r,true=>by
  rw[qip,qw,qw]
  have:=pc_len r false
  simp at this ⊢
  omega
 | x :: r,false=>by
  rw[qip]
  have h1:=pc_len r true
  have h2:=pc_len r false
  simp only[if_true,qar,if_false,qw] at h1 h2 ⊢
  split
  ·
   omega
  ·
   split
   ·
    rw[qw];omega
   ·
    simp
end
def dP(most:Int):List Pc→List UInt8→List UInt8×Nat
 | [],o=>(o,0)
 | x :: r,o=>if x.e≠0 then ([],x.e) else if most<((o.length+x.s.size:Nat):Int) then ([],6) else dP most r (o++x.s.data.toList)
section
variable {l:List ByteArray}{h8:∀t∈l,t.size≤8}{most:Int}
theorem dP_dec:∀(m:Nat) (bs o:List UInt8) (n:Nat),bs.length≤m→(qey (qm l) most bs o n).1=(dP most (qip l h8 false bs) o).1∧(qey (qm l) most bs o n).2.1=(dP most (qip l h8 false bs) o).2:=by
 intro m
 induction m with
 | zero =>
  intro bs o n h
  obtain rfl:bs=[]:=zh (by omega)
  rw[dec_nil,qip,dP]
  exact⟨rfl,rfl⟩
 | succ m ih =>
  intro bs o n h
  rcases bs with _ | ⟨x,r⟩
  ·
   rw[dec_nil,qip,dP]
   exact⟨rfl,rfl⟩
  ·
   rw[qw] at h
   by_cases hx:x.toNat=255
   ·
    obtain rfl:x=255:=qbd.1 hx
    rw[qip,if_pos hx]
    rcases r with _ | ⟨y,r⟩
    ·
     rw[dec_end,qip,dP,if_pos (by decide)]
     exact⟨rfl,rfl⟩
    ·
     rw[qw] at h
     rw[dec_lit,qip,dP,if_neg (show ¬(Pc.lit y).e≠0 from fun h=>h rfl)]
     have e1:((o++[y]).length:Int)=((o.length+(Pc.lit y).s.size:Nat):Int):=by rw[qd];rfl
     rw[e1]
     split
     ·
      exact⟨rfl,rfl⟩
     ·
      exact ih r (o++[y]) (n+1) (by omega)
   ·
    rw[qip,if_neg hx]
    have hx2:x≠255:=fun e=>hx (by rw[e];rfl)
    by_cases hl:x.toNat<l.length
    ·
     rw[dif_pos hl,dP,if_neg (by simp)]
     have hg:(qm l)[x.toNat]? = some l[x.toNat].data.toList:=by
      rw[qe (by rw[qv];exact hl),yq]
     rw[dec_sym _ _ _ hx2 hg]
     have e1:((o++l[x.toNat].data.toList).length:Int)=((o.length+l[x.toNat].size:Nat):Int):=by rw[qd,qgi]
     rw[e1]
     split
     ·
      exact⟨rfl,rfl⟩
     ·
      exact ih r _ (n+1) (by omega)
    ·
     rw[dif_neg hl,dP,if_pos (by decide),dec_wrong _ _ _ hx2 (by rw[qv];omega)]
     exact⟨rfl,rfl⟩
end
section
open Go.RowKit Go.Shelf
attribute [local go_sem] Oper.semAt_some
structure Kp2 (n₀ Bb Bt:Nat) (W W':World):Prop where
 below:Below n₀ W W'
 b:W'.heap[Bb]? = W.heap[Bb]?
 t:W'.heap[Bt]? = W.heap[Bt]?
theorem Kp2.trans{n₀ Bb Bt:Nat}{A B C:World}(h:Kp2 n₀ Bb Bt A B)(k:Kp2 n₀ Bb Bt B C):Kp2 n₀ Bb Bt A C:=⟨h.below.trans k.below,k.b.trans h.b,k.t.trans h.t⟩
theorem Kp2.refl(n₀ Bb Bt:Nat)(W:World):Kp2 n₀ Bb Bt W W:=⟨Below.refl _ _,rfl,rfl⟩
theorem Kp2.cellb{n₀ Bb Bt:Nat}{A B:World}(h:Kp2 n₀ Bb Bt A B):B.cell? ⟨Bb,0,none⟩=A.cell? ⟨Bb,0,none⟩:=qbj h.b
theorem Kp2.cellt{n₀ Bb Bt:Nat}{A B:World}(h:Kp2 n₀ Bb Bt A B):B.cell? ⟨Bt,0,none⟩=A.cell? ⟨Bt,0,none⟩:=qbj h.t
theorem qck{X Y:World}{row:Option Nat}{B:Nat}{t:TypeId}{v:Value}(h:Boxed X B t v)(hg:X.grownBy Y row)(hr:∀r,row=some r→∃o:Obj,X.heap[r]? = some o∧o.isCells=false):Boxed Y B t v :=
 h.kept hg fun e=>by
  obtain⟨o,ho,hc⟩:=hr B e.symm
  rw[show X.heap[B]? = _ from h] at ho
  cases ho
  cases hc
theorem row_keep{X Y:World}{row:Option Nat}{base:Nat}{e:TypeId}{size n:Nat}{v:Value}{xs:List Value}(h:X.ownsRow base e size v n xs)(hg:X.grownBy Y row)(hr:∀r,row=some r→∃o:Obj,X.heap[r]? = some o∧o.isCells=false):Y.ownsRow base e size v n xs:=by
 refine h.kept hg ?_
 rcases h.2 with ⟨rfl,_⟩ | ⟨g,cap,cur,rfl,_,hgb,_⟩
 ·
  exact .inl rfl
 ·
  refine .inr fun e' => ?_
  obtain⟨o,ho,hc⟩:=hr g (by simpa[Value.ownBlock] using e'.symm)
  rw[hgb] at ho
  cases ho
  cases hc
theorem qc8{X:World}{B B2:Nat}{t:TypeId}{v u:Value}(h:Boxed X B t v)(hne:B≠B2):Boxed (X.setCell ⟨B2,0,none⟩ u) B t v:=h.kept (grownBy_setCell' X B2 u) (fun e=>hne (by injection e))
theorem qmc{X:World}{D B:Nat}{t:TypeId}{v:Value}{o:Obj}(h:Boxed X B t v)(o':Obj)(hD:X.heap[D]? = some o)(ho:o.isCells=false):Boxed (X.putObj D o') B t v:=qck h (grownBy_putObj' X D o') fun r e=>by cases e;exact⟨o,hD,ho⟩
theorem qfb{F:Fence}{n:Nat}{P:Program}{w:World}{ops:Array Oper}{rest:List Oper}{o:Oper}{a:Act}{Q:Exit→Act→World→Prop}
  (hg:o.guard=none) (s x:Operand) (tys:Array TypeId) (hop:o.op=Op.call { callee:=Callee.builtin Builtin.append,args:=#[s,x],argTypes:=tys }) (v y:Value) (hs:a.eval s=v) (hx:a.eval x=y) {r:Value} {w':World}
  (hrun:(Builtin.append_ tys o.type #[v,y]).run P w= .ok r w') (hK:wpListIn F n P ops Q rest (a.put o.dst r) w') :
  wpListIn F n P ops Q (o :: rest) a w:=by
 refine wpListIn_plain hg fun K hK' => ?_
 unfold Oper.wpIn
 refine⟨?_,?_⟩
 ·
  simp[Oper.about,hop,resolve,Target.leads,Sem.run_pure]
 ·
  rw[Oper.semAt_plain F _ _ (by rw[hop];intro c hc';cases hc')]
  simp[execOp,hop,resolve,invoke,builtin,hs,hx,hrun,Result.andThen]
  exact hK' _ _ hK
theorem appendedS{W w1:World}{n₀ B m:Nat}{t e:TypeId}{v v':Value}{k:Nat}{xs ys:List Value}(hv:Boxed W B t v)(hte:t≠e)(hrow:W.ownsRow n₀ e 1 v k xs)(hB:n₀≤B)(hn₀:n₀≤W.heap.size)(hown:w1.ownsRow n₀ e 1 v' m ys)(hg:W.grownBy w1 v.ownBlock) :
  Boxed w1 B t v∧Boxed (w1.setCell ⟨B,0,none⟩ v') B t v'∧(w1.setCell ⟨B,0,none⟩ v').ownsRow n₀ e 1 v' m ys∧KeepsOthers W (w1.setCell ⟨B,0,none⟩ v')∧Below n₀ W (w1.setCell ⟨B,0,none⟩ v')∧
   ∀(B2:Nat) (t2:TypeId) (u:Value),B2≠B→t2≠e→Boxed W B2 t2 u→Boxed (w1.setCell ⟨B,0,none⟩ v') B2 t2 u:=by
 have hv1:Boxed w1 B t v:=hv.kept hg (hv.not_row hte hrow)
 refine⟨hv1,hv1.set v',hown.kept (grownBy_setCell' w1 B v') (.inr (hv1.not_row hte hown).symm),?_,?_,fun B2 t2 u hne h2 hu=>qc8 (hu.kept hg (hu.not_row h2 hrow)) hne⟩
 ·
  refine(KeepsOthers.of_grownBy hg fun j o ej hj => ?_).trans (KeepsOthers.setCell _ _ _)
  rcases hrow.2 with ⟨rfl,_⟩ | ⟨g,cap,cur,rfl,_,hgb,_⟩
  ·
   simp[Value.ownBlock] at ej
  ·
   obtain rfl:g=j:=by simpa[Value.ownBlock] using ej
   rw[hgb] at hj
   cases hj
   rfl
 ·
  exact((Below.refl n₀ W).grown hg hn₀ (fun j ej=>(zk hrow ej).1)).setCell (p:=⟨B,0,none⟩) hB v'
end
section
open Go.RowKit Go.Shelf
attribute [local go_sem] Oper.semAt_some
def piecesV(Bb Bt:Nat):Array Value:=#[.pointer (some ⟨Bb,0,none⟩),.pointer (some ⟨Bt,0,none⟩)]
def encPc(x:Pc):Array Value:=#[.string x.s,.int .i64 (x.e:Int)]
set_option maxRecDepth 100000 in
set_option maxHeartbeats 4000000 in
theorem pieces1_in(F:Fence)(n:Nat)(hf:F.fn 218)(hro:F.round=none)(hn:1≤n)(lp Bb Bt n₀:Nat)(l:List ByteArray)(h8:∀t∈l,t.size≤8)(hln:l.length≤255)(bs:List UInt8)(hbl:bs.length≤1000000){c c2:Nat}{A B:Option Addr}(J Jx:List Pc→World→Prop)
  (hY:∀pre x W,J pre W→pre.length<(qip l h8 false bs).length→YieldAt F (n-1) Tryz.prog lp (encPc x) W fun e W' =>
   (e= .returned (.bool true)∧J (pre++[x]) W'∧Kp2 n₀ Bb Bt W W')∨(e= .returned (.bool false)∧Jx (pre++[x]) W'))
  (W:World) (hBb:W.cell? ⟨Bb,0,none⟩=some (.slice B bs.length c2)) (hBt:W.cell? ⟨Bt,0,none⟩=some (.slice A l.length c)) (hb:Rd W 0 n₀ B c2 (bv bs)) (ht:Rd W 0 n₀ A c (sv l)) (h0:J [] W) :
  CallsIn F n Tryz.prog 218 #[.func (.yield lp) #[] #[],.pointer (some ⟨Bb,0,none⟩),.pointer (some ⟨Bt,0,none⟩)] W fun e W'=>(∃v,e= .returned v)∧
   ((∃ys,ys=qip l h8 false bs∧J ys W')∨(∃pre,pre <+: qip l h8 false bs∧Jx pre W')):=by
 have hl:=hb.len
 have hm:=hb.cap
 have hl1:=ht.len
 have hm1:=ht.cap
 rw[j7] at hl1
 rw[yf] at hl
 unfold maxLen at hm hm1
 have HB:=qa hb
 have HT:=qa ht
 have HY:=qa hY
 obtain⟨ps,hps⟩:∃ps,qip l h8 false bs=ps:=⟨_,rfl⟩
 rw[hps] at HY ⊢
 have HPS:=qa hps
 clear hb ht hY hps
 refine callsIn_of_wp Tryz.func218 rfl hf ?_ hro
 simp only[Tryz.ntmps218,qel,qw,j4,Nat.reduceAdd,Nat.reduceSub,qep,qeo,List.push_toArray,qfe,yu,jd]
 gi_wp2
 gi_loopw [4,11] (fun x4 x11 wr=>∃(k:Nat) (f:Bool) (pre:List Pc),k≤bs.length∧x4= .bool f∧x11= .int .i64 (k:Int)∧pre++qip l h8 f (bs.drop k)=ps∧J pre wr∧Kp2 n₀ Bb Bt W wr) (fun _ i _=>bs.length-(intOf i).toNat)
 case atStart=>exact⟨0,false,[],qi _,rfl,rfl,by rw[jy,HPS.out];rfl,h0,Kp2.refl _ _ _ _⟩
 case round =>
  obtain⟨k,f,pre,hk,rfl,rfl,hpre,hJs,hkp⟩:=hrel
  have HPRE:=qa hpre
  have HKP:=qa hkp
  have hcb:wr.cell? ⟨Bb,0,none⟩=some (.slice B bs.length c2):=hkp.cellb.trans hBb
  have hct:wr.cell? ⟨Bt,0,none⟩=some (.slice A l.length c):=hkp.cellt.trans hBt
  clear hpre hkp
  by_cases hlt:k<bs.length
  ·
   have ik:(k:Int)<(bs.length:Int):=by omega
   obtain⟨b,off,rfl,hb1,hb2,hcell⟩:=(HB.out.below HKP.out.below (qc _)).byte hlt
   have lx:bs[k].toNat<256:=jj _
   cases f with
   | true =>
    have hpc:=HPRE.out
    rw[pc_lit hlt] at hpc
    obtain⟨fn,tmps,assign,body,hy,hR⟩:=HY.out pre (Pc.lit bs[k]) wr hJs (by rw[←hpc];simp)
    dsimp only[encPc,Pc.lit] at hy
    rw[show((0:Nat):Int)=0 from rfl] at hy
    have HPC:=qa hpc
    clear hpc
    have hcv:(convert 36 9 (.slice (some ⟨b,off+k,none⟩) 1 (c2-k))).run Tryz.prog wr= .ok (.string ⟨#[bs[k]]⟩) wr:=by
     refine ul (P:=Tryz.prog) wr 36 9 5 Tryz.underlying36 Tryz.underlying5 Tryz.underlying9 0 (b+1) _ _ [bs[k]] ⟨by simp[bv];omega,by simp only[maxLen];omega,fun _=>⟨b,off+k,rfl,qi _,by omega,fun j u hu => ?_⟩⟩
     match j,hu with
     | 0,hu =>
      simp[bv] at hu
      subst hu
      exact hcell
     | j+1,hu=>simp[bv] at hu
    by_cases hx:bs[k].toNat=255
    ·
     rw[hx] at hcell
     gi_wp2
     refine hR.mono ?_
     rintro e W3 (⟨rfl,hJ3,hk3⟩ | ⟨rfl,hJx3⟩)
     ·
      gi_wp2
      go_roundw
      case rel=>exact⟨k+1,false,pre++[Pc.lit bs[k]],by omega,rfl,by go_num,by rw[qp,va];exact HPC.out,hJ3,HKP.out.trans hk3⟩
      case measure=>simp[intOf];omega
     ·
      gi_wp2
      refine bodyPost_ret (results_none rfl _ _ _) rfl ?_
      exact⟨⟨_,rfl⟩,.inr ⟨_,⟨qip l h8 false (bs.drop (k+1)),by rw[qp,va];exact HPC.out⟩,hJx3⟩⟩
    ·
     have ix:¬(bs[k].toNat:Int)=255:=by omega
     have bx:((bs[k].toNat:Int)==255)=false:=by rw[q9];exact ix
     gi_wp2
     refine hR.mono ?_
     rintro e W3 (⟨rfl,hJ3,hk3⟩ | ⟨rfl,hJx3⟩)
     ·
      gi_wp2
      go_roundw
      case rel=>exact⟨k+1,false,pre++[Pc.lit bs[k]],by omega,rfl,by go_num,by rw[qp,va];exact HPC.out,hJ3,HKP.out.trans hk3⟩
      case measure=>simp[intOf];omega
     ·
      gi_wp2
      refine bodyPost_ret (results_none rfl _ _ _) rfl ?_
      exact⟨⟨_,rfl⟩,.inr ⟨_,⟨qip l h8 false (bs.drop (k+1)),by rw[qp,va];exact HPC.out⟩,hJx3⟩⟩
   | false =>
    by_cases hx:bs[k].toNat=255
    ·
     have hpc:=HPRE.out
     rw[pc_esc hlt hx] at hpc
     have HPC:=qa hpc
     clear hpc
     rw[hx] at hcell
     gi_wp2
     go_roundw
     case rel=>exact⟨k+1,true,pre,by omega,rfl,by go_num,HPC.out,hJs,HKP.out⟩
     case measure=>simp[intOf];omega
    ·
     have ix:¬(bs[k].toNat:Int)=255:=by omega
     have bx:((bs[k].toNat:Int)==255)=false:=by rw[q9];exact ix
     by_cases hxl:bs[k].toNat<l.length
     ·
      have i1:(bs[k].toNat:Int)<(l.length:Int):=by omega
      have d1:decide ((bs[k].toNat:Int)<(l.length:Int))=true:=qx (by omega)
      obtain⟨b1,off1,rfl,_,_,hcell1⟩:=(HT.out.below HKP.out.below (qc _)).str hxl
      have hpc:=HPRE.out
      rw[pc_sym hlt hx hxl] at hpc
      obtain⟨fn,tmps,assign,body,hy,hR⟩:=HY.out pre ⟨l[bs[k].toNat],0,h8 _ (ql hxl)⟩ wr hJs (by rw[←hpc];simp)
      dsimp only[encPc] at hy
      rw[show((0:Nat):Int)=0 from rfl] at hy
      have HPC:=qa hpc
      clear hpc
      gi_wp2
      refine hR.mono ?_
      rintro e W3 (⟨rfl,hJ3,hk3⟩ | ⟨rfl,hJx3⟩)
      ·
       gi_wp2
       go_roundw
       case rel=>exact⟨k+1,false,pre++[⟨l[bs[k].toNat],0,h8 _ (ql hxl)⟩],by omega,rfl,by go_num,by rw[qp,va];exact HPC.out,hJ3,HKP.out.trans hk3⟩
       case measure=>simp[intOf];omega
      ·
       gi_wp2
       refine bodyPost_ret (results_none rfl _ _ _) rfl ?_
       exact⟨⟨_,rfl⟩,.inr ⟨_,⟨qip l h8 false (bs.drop (k+1)),by rw[qp,va];exact HPC.out⟩,hJx3⟩⟩
     ·
      have i1:¬(bs[k].toNat:Int)<(l.length:Int):=by omega
      have d1:decide ((bs[k].toNat:Int)<(l.length:Int))=false:=qr (by omega)
      have hpc:=HPRE.out
      rw[pc_bad hlt hx hxl] at hpc
      obtain⟨fn,tmps,assign,body,hy,hR⟩:=HY.out pre (Pc.err 3) wr hJs (by rw[←hpc];simp)
      dsimp only[encPc,Pc.err] at hy
      rw[show((3:Nat):Int)=3 from rfl] at hy
      have HPC:=qa hpc
      clear hpc
      gi_wp2
      refine hR.mono ?_
      rintro e W3 (⟨rfl,hJ3,hk3⟩ | ⟨rfl,hJx3⟩)
      ·
       gi_wp2
       refine bodyPost_ret (results_none rfl _ _ _) rfl ?_
       exact⟨⟨_,rfl⟩,.inl ⟨_,HPC.out,hJ3⟩⟩
      ·
       gi_wp2
       refine bodyPost_ret (results_none rfl _ _ _) rfl ?_
       exact⟨⟨_,rfl⟩,.inr ⟨_,⟨[],by rw[jb];exact HPC.out⟩,hJx3⟩⟩
  ·
   have ik:¬(k:Int)<(bs.length:Int):=by omega
   obtain rfl:k=bs.length:=by omega
   cases f with
   | true =>
    have hpc:=HPRE.out
    rw[pc_cut] at hpc
    obtain⟨fn,tmps,assign,body,hy,hR⟩:=HY.out pre (Pc.err 2) wr hJs (by rw[←hpc];simp)
    dsimp only[encPc,Pc.err] at hy
    rw[show((2:Nat):Int)=2 from rfl] at hy
    have HPC:=qa hpc
    clear hpc
    gi_wp2
    refine hR.mono ?_
    rintro e W3 (⟨rfl,hJ3,hk3⟩ | ⟨rfl,hJx3⟩)
    ·
     gi_wp2
     go_end0
     exact⟨⟨_,rfl⟩,.inl ⟨_,HPC.out,hJ3⟩⟩
    ·
     gi_wp2
     go_end0
     exact⟨⟨_,rfl⟩,.inr ⟨_,⟨[],by rw[jb];exact HPC.out⟩,hJx3⟩⟩
   | false =>
    have hpc:=HPRE.out
    rw[pc_end,jb] at hpc
    gi_wp2
    go_end0
    exact⟨⟨_,rfl⟩,.inl (hpc ▸ hJs)⟩
end
end Go.Proofs.YtjfecojdagmacaaGreat
