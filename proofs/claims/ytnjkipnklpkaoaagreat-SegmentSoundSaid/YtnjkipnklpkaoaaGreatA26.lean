/-
  Lemmas.
-/
import Derived.Test.YtnjkipnklpkaoaaGreatA11
namespace Go.Proofs.YtnjkipnklpkaoaaGreat
open Go.RowKit
set_option maxRecDepth 20000
set_option maxHeartbeats 16000000
set_option linter.unusedSimpArgs false
set_option linter.unusedVariables false
section
variable {a w w':World}{row:Option Nat}
theorem gb_drew(h:a.grownBy w row):a.grownBy w.drew row:=⟨h.os,h.tape,h.output,h.size,h.block⟩
end
theorem text_any{w:World}{lo g k:Nat}{bs:List UInt8}{e:Int}(h:vw w lo g bs k e) :
  Calls Tryz.prog 200 #[cp g] w fun r w'=>r= .returned (.string ⟨(qgi bs k e).1.toArray⟩)∧
   vw w' lo g bs (qgi bs k e).2.1 (qgi bs k e).2.2∧w.grownBy w' (some g):=by
 have hk:=h.le
 have HP:=qa (peek_any 4096 h)
 have hs:=qny bs k e 4096 hk
 have HE0:qgi bs k e=jy bs k (jac bs k e 4096).2.2 (jac bs k e 4096).2.1 ((jac bs k e 4096).1:Int):=rfl
 have HE:=qa HE0
 clear h HE0
 generalize qgi bs k e=M at *
 generalize jac bs k e 4096=R at *
 go_enter Tryz.func200,Tryz.ntmps200
 go_wp2_with fail
 refine HP.out.mono ?_
 rintro r w1 ⟨rfl,hc1,hg1⟩
 have HC:=qa hc1
 clear hc1
 go_wp2_with fail
 refine(qom _ _ HC.out hs).mono ?_
 rintro r w2 ⟨A,c,rfl,hrd,hc2,hg2⟩
 rw[←HE.out] at hc2 hrd ⊢
 have HC2:=qa hc2
 have hstr:=ko (P:=Tryz.prog) w2 26 9 5 Tryz.underlying26 Tryz.underlying5 Tryz.underlying9 lo g A c M.1 hrd
 clear hc2 hrd
 go_wp2
 go_ret
 exact⟨rfl,HC2.out,hg1.trans hg2⟩
theorem fits_nat{w:World}(n:Nat):Calls Tryz.prog 174 #[.int .i64 (n:Int)] w fun r w'=>r= .returned (.bool (qic n))∧w=w':=fits_any (n:Int)
theorem sget_at{w:World}{lo g k0:Nat}{e0:Int}{bs:List UInt8}(h:vw w lo g bs k0 e0)(hb:bs.length≤1000000000) :
  Calls Tryz.prog 135 #[cp g] w fun r w'=>∃A c,r= .returned (.slice A (qff bs k0 e0).1.length c)∧w'.ownsRow w.heap.size 9 1 (.slice A (qff bs k0 e0).1.length c) (qff bs k0 e0).1.length (sv (j7 (qff bs k0 e0).1))∧
   vw w' lo g bs (qff bs k0 e0).2.1 (qff bs k0 e0).2.2∧w.grownBy w' (some g):=by
 have hlt:=h.lt
 have HBY:=qa (qpp h)
 have HLL:Hid (qff bs k0 e0=if (qjx bs k0 e0).2.2=0 then qjx bs k0 e0 else ([],(qjx bs k0 e0).2)):=rfl
 have HAA:Hid (qjx bs k0 e0=qf5 bs (qr1 bs k0 e0) (jy bs k0 e0 0 1).2.1 (jy bs k0 e0 0 1).2.2 []):=rfl
 have hN:((jy bs k0 e0 0 1).1.headD 0).toNat=qr1 bs k0 e0:=rfl
 have hN5:qr1 bs k0 e0≤255:=by have:=zp ((jy bs k0 e0 0 1).1.headD 0);rw[←hN];omega
 rw[hN] at HBY
 clear hN h
 generalize qff bs k0 e0=L at *
 generalize jy bs k0 e0 0 1=T at *
 generalize qr1 bs k0 e0=N at *
 generalize qjx bs k0 e0=G at *
 unfold cp at *
 go_enter Tryz.func135,Tryz.ntmps135
 go_wp2_with fail
 refine HBY.out.mono ?_
 rintro r w1 ⟨rfl,hc1,hg1⟩
 have HC1:=qa hc1
 have HG1:=qa hg1
 clear hc1 hg1 HBY
 go_wp2_with fail
 go_loopw [3,4,9] (fun x3 x4 x9 wr=>∃(i p:Nat) (e:Int) (last:ByteArray) (ys:List ByteArray) (A:Option Addr) (c:Nat),i≤N∧x9= .int .i64 (i:Int)∧x4= .string last∧x3= .slice A i c∧ys.length=i∧
  G=(qm ys++(qf5 bs (N-i) p e last.data.toList).1,(qf5 bs (N-i) p e last.data.toList).2)∧last.size≤1000000000∧
  wr.ownsRow w.heap.size 9 1 (.slice A i c) i (sv ys)∧vw wr lo g bs p e∧w.grownBy wr (some g)) (fun _ _ i _=>N-(intOf i).toNat)
 case atStart=>exact⟨0,T.2.1,T.2.2,⟨#[]⟩,[],none,0,qi _,rfl,rfl,rfl,rfl,by rw[HAA.out];rfl,by decide,⟨rfl,.inl ⟨rfl,rfl⟩⟩,HC1.out,HG1.out⟩
 case round =>
  clear HC1 HG1
  obtain⟨i,p,e,last,ys,A,c,hi,rfl,rfl,rfl,hyl,hGe,hls,hown,hcur,hgb⟩:=hrel
  have HYL:=qa hyl
  have HGE:=qa hGe
  have HO:=qa hown
  have HC:=qa hcur
  have HG:=qa hgb
  have hsz:=hgb.size
  clear hyl hGe hown hcur hgb
  by_cases hiN:i<N
  ·
   have ik:(i:Int)<(N:Int):=by omega
   obtain⟨d,hd⟩:∃d,N-i=d+1:=⟨N-i-1,by omega⟩
   have HD:Hid (N-(i+1)=d):=by unfold Hid;omega
   have HBY:=qa (qpp HC.out)
   obtain⟨S,hS⟩:∃S,qge bs p e last.data.toList=S:=⟨_,rfl⟩
   have HGN:Hid (G=(qm ys++(S.1 :: (qf5 bs d S.2.1 S.2.2 S.1).1),(qf5 bs d S.2.1 S.2.2 S.1).2)):=by
    unfold Hid
    rw[HGE.out,hd,qf5,hS]
   clear hd HGE
   unfold qge at hS
   simp only at hS
   generalize jy bs p e 0 1=R at *
   obtain⟨n,hn⟩:∃n,(R.1.headD 0).toNat=n:=⟨_,rfl⟩
   have hn5:n≤255:=by have:=zp (R.1.headD 0);rw[←hn];omega
   rw[hn] at HBY hS
   clear hn
   obtain⟨e2,he2⟩:∃e2,(if qic n=true then R.2.2 else y9 R.2.2)=e2:=⟨_,rfl⟩
   rw[he2] at hS
   have HE2:=qa he2
   clear he2
   have HTL:Hid ((jy bs R.2.1 e2 0 n).1.length≤bs.length):=by
    unfold Hid jy
    repeat' split
    all_goals simp
    all_goals omega
   obtain⟨Q,hQ⟩:∃Q,jy bs R.2.1 e2 0 n=Q:=⟨_,rfl⟩
   rw[hQ] at hS HTL
   have HQ:=qa hQ
   have HS:=qa hS
   clear hQ hS
   have HFI:=qa (fun w=>fits_nat (w:=w) n)
   obtain⟨f1,hf1⟩:∃f1,qic n=f1:=⟨_,rfl⟩
   rw[hf1] at HFI HE2
   clear hf1
   obtain⟨x,hx⟩:∃x:ByteArray,x=⟨Q.1.toArray⟩:=⟨_,rfl⟩
   have hxl:x.data.toList=Q.1:=by rw[hx]
   have hxs:x.size≤1000000000:=by
    have h1:=HTL.out
    rw[←hxl,zy] at h1
    have h2:x.data.size=x.size:=rfl
    omega
   have HXL:=qa hxl
   have HFO:=qa (fun w=>qrm (w:=w) last x (by omega))
   rw[hxl] at HFO
   obtain⟨f2,hf2⟩:∃f2,qoc last.data.toList Q.1=f2:=⟨_,rfl⟩
   rw[hf2] at HFO HS
   have HX:=qa hx
   clear hf2 hx hxl
   -- ARMS
   cases f1 with
   | true =>
    cases f2 with
    | true =>
     go_wp2_with fail
     refine HBY.out.mono ?_
     rintro r w2 ⟨rfl,hc2,hg2⟩
     have HC2:=qa hc2
     have HO2:=qa (qf1 HO.out hg2 hlt)
     have HG2:=qa (HG.out.trans hg2)
     clear hc2 hg2 HBY HO
     go_wp2_with fail
     refine(HFI.out _).mono ?_
     rintro r w' ⟨rfl,rfl⟩
     have HE3:Hid (R.2.2=e2):=HE2.out
     have HC3:Hid (vw w2 lo g bs R.2.1 e2):=by unfold Hid;rw[←HE3.out];exact HC2.out
     have HO3:=qa HO2.out
     have HG3:=qa HG2.out
     have hsz3:=HG3.out.size
     have HB:=qa (qgf (n:Int) HC3.out (by omega))
     rw[HQ.out] at HB
     clear HC2 HO2 HG2
     go_wp2_with fail
     refine HB.out.mono ?_
     rintro r w4 ⟨A4,c4,rfl,hrd4,hc4,hg4⟩
     have hst:=ko (P:=Tryz.prog) w4 26 9 5 Tryz.underlying26 Tryz.underlying5 Tryz.underlying9 _ _ A4 c4 Q.1 (Rd.of_own hrd4)
     rw[←HX.out] at hst
     have HC4:=qa hc4
     have HO4:=qa (qf1 HO3.out hg4 hlt)
     have HG4:=qa (HG3.out.trans hg4)
     have hsz4:=HG4.out.size
     clear hc4 hg4 hrd4 HB HC3 HO3 HG3
     go_wp2_with fail
     refine(HFO.out _).mono ?_
     rintro r w5 ⟨rfl,m,rfl⟩
     clear hst
     have HC6:Hid (vw (w4.drewN m) lo g bs S.2.1 S.2.2):=by unfold Hid;rw[←HS.out];exact HC4.out.drewN m
     obtain⟨w6,hw6⟩:∃w6,w4.drewN m=w6:=⟨_,rfl⟩
     have HO6:Hid (w6.ownsRow w.heap.size 9 1 (.slice A i c) i (sv ys)):=by unfold Hid;rw[←hw6];exact ju HO4.out fun k hk=>rfl
     have HG6:Hid (w.grownBy w6 (some g)):=by unfold Hid;rw[←hw6];exact qb5 HG4.out m
     rw[hw6] at HC6 ⊢
     clear hw6
     have hsz6:=HG6.out.size
     clear HC4 HO4 HG4
     rw[←HYL.out] at HO6
     go_wp2_with (at_builtin;refine xz (v:= .slice A i c) w.heap.size ys x rfl _ _ rfl rfl rfl rfl (by rw[za _ _ _ _ rfl];rfl) (by have:=HO6.out.alloc (.cells #[.string x] 9);rw[HYL.out] at this ⊢;exact this) (by rw[HYL.out];omega) (by simp;omega) ?_;intro A7 c7 w7 ho7 hg7;refine qaz ?_)
     have hgb7:w.grownBy w7 (some g):=qoa (km HG6.out _) hg7 (fun q hq=>(zk HO6.out (by rw[HYL.out];exact hq)).1)
     have hcu7:vw w7 lo g bs S.2.1 S.2.2:=(HC6.out.grown (row:=none) (by exact km (vc _ _) _) (by simp)).grown hg7 (fun q hq=> .inr (ja hlt (zk HO6.out (by rw[HYL.out];exact hq)).1))
     obtain⟨zs,hzs⟩:∃zs,ys++[x]=zs:=⟨_,rfl⟩
     rw[hzs] at ho7
     have hzl:zs.length=i+1:=by rw[←hzs,qd,HYL.out];rfl
     rw[hzl] at ho7
     have HZV:Hid (Value.slice A7 (ys.length+1) c7= .slice A7 (i+1) c7):=by unfold Hid;rw[HYL.out]
     have HGF:Hid (G=(qm zs++(qf5 bs (N-(i+1)) S.2.1 S.2.2 x.data.toList).1,(qf5 bs (N-(i+1)) S.2.1 S.2.2 x.data.toList).2)):=by
      unfold Hid
      have h1:S.1=x.data.toList:=by rw[←HS.out,HXL.out]
      rw[HGN.out,HD.out,←hzs,h1]
      simp[qm]
     have HZL:=qa hzl
     have HO7:=qa ho7
     have HC7:=qa hcu7
     have HG7:=qa hgb7
     clear ho7 hg7 hgb7 hcu7 hzs hzl HO6 HC6 HG6
     refine⟨?_⟩
     go_wp2_with fail
     go_roundw
     case rel=>exact⟨i+1,S.2.1,S.2.2,x,zs,A7,c7,by omega,by go_num,rfl,HZV.out,HZL.out,HGF.out,hxs,HO7.out,HC7.out,HG7.out⟩
     case measure=>simp[intOf] <;> omega
    | false =>
     go_wp2_with fail
     refine HBY.out.mono ?_
     rintro r w2 ⟨rfl,hc2,hg2⟩
     have HC2:=qa hc2
     have HO2:=qa (qf1 HO.out hg2 hlt)
     have HG2:=qa (HG.out.trans hg2)
     clear hc2 hg2 HBY HO
     go_wp2_with fail
     refine(HFI.out _).mono ?_
     rintro r w' ⟨rfl,rfl⟩
     have HE3:Hid (R.2.2=e2):=HE2.out
     have HC3:Hid (vw w2 lo g bs R.2.1 e2):=by unfold Hid;rw[←HE3.out];exact HC2.out
     have HO3:=qa HO2.out
     have HG3:=qa HG2.out
     have hsz3:=HG3.out.size
     have HB:=qa (qgf (n:Int) HC3.out (by omega))
     rw[HQ.out] at HB
     clear HC2 HO2 HG2
     go_wp2_with fail
     refine HB.out.mono ?_
     rintro r w4 ⟨A4,c4,rfl,hrd4,hc4,hg4⟩
     have hst:=ko (P:=Tryz.prog) w4 26 9 5 Tryz.underlying26 Tryz.underlying5 Tryz.underlying9 _ _ A4 c4 Q.1 (Rd.of_own hrd4)
     rw[←HX.out] at hst
     have HC4:=qa hc4
     have HO4:=qa (qf1 HO3.out hg4 hlt)
     have HG4:=qa (HG3.out.trans hg4)
     have hsz4:=HG4.out.size
     clear hc4 hg4 hrd4 HB HC3 HO3 HG3
     go_wp2_with fail
     refine(HFO.out _).mono ?_
     rintro r w5 ⟨rfl,m,rfl⟩
     clear hst
     go_wp2_with fail
     refine(kx 3 (HC4.out.drewN m)).mono ?_
     rintro r w6 ⟨rfl,hc6,hg6⟩
     have HC6:Hid (vw w6 lo g bs S.2.1 S.2.2):=by unfold Hid;rw[←HS.out];exact hc6
     have HO6:Hid (w6.ownsRow w.heap.size 9 1 (.slice A i c) i (sv ys)):=qf1 (w:=w4.drewN m) (ju HO4.out fun k hk=>rfl) hg6 hlt
     have HG6:Hid (w.grownBy w6 (some g)):=(qb5 HG4.out m).trans hg6
     clear hc6 hg6
     have hsz6:=HG6.out.size
     clear HC4 HO4 HG4
     rw[←HYL.out] at HO6
     go_wp2_with (at_builtin;refine xz (v:= .slice A i c) w.heap.size ys x rfl _ _ rfl rfl rfl rfl (by rw[za _ _ _ _ rfl];rfl) (by have:=HO6.out.alloc (.cells #[.string x] 9);rw[HYL.out] at this ⊢;exact this) (by rw[HYL.out];omega) (by simp;omega) ?_;intro A7 c7 w7 ho7 hg7;refine qaz ?_)
     have hgb7:w.grownBy w7 (some g):=qoa (km HG6.out _) hg7 (fun q hq=>(zk HO6.out (by rw[HYL.out];exact hq)).1)
     have hcu7:vw w7 lo g bs S.2.1 S.2.2:=(HC6.out.grown (row:=none) (by exact km (vc _ _) _) (by simp)).grown hg7 (fun q hq=> .inr (ja hlt (zk HO6.out (by rw[HYL.out];exact hq)).1))
     obtain⟨zs,hzs⟩:∃zs,ys++[x]=zs:=⟨_,rfl⟩
     rw[hzs] at ho7
     have hzl:zs.length=i+1:=by rw[←hzs,qd,HYL.out];rfl
     rw[hzl] at ho7
     have HZV:Hid (Value.slice A7 (ys.length+1) c7= .slice A7 (i+1) c7):=by unfold Hid;rw[HYL.out]
     have HGF:Hid (G=(qm zs++(qf5 bs (N-(i+1)) S.2.1 S.2.2 x.data.toList).1,(qf5 bs (N-(i+1)) S.2.1 S.2.2 x.data.toList).2)):=by
      unfold Hid
      have h1:S.1=x.data.toList:=by rw[←HS.out,HXL.out]
      rw[HGN.out,HD.out,←hzs,h1]
      simp[qm]
     have HZL:=qa hzl
     have HO7:=qa ho7
     have HC7:=qa hcu7
     have HG7:=qa hgb7
     clear ho7 hg7 hgb7 hcu7 hzs hzl HO6 HC6 HG6
     refine⟨?_⟩
     go_wp2_with fail
     go_roundw
     case rel=>exact⟨i+1,S.2.1,S.2.2,x,zs,A7,c7,by omega,by go_num,rfl,HZV.out,HZL.out,HGF.out,hxs,HO7.out,HC7.out,HG7.out⟩
     case measure=>simp[intOf] <;> omega
   | false =>
    cases f2 with
    | true =>
     go_wp2_with fail
     refine HBY.out.mono ?_
     rintro r w2 ⟨rfl,hc2,hg2⟩
     have HC2:=qa hc2
     have HO2:=qa (qf1 HO.out hg2 hlt)
     have HG2:=qa (HG.out.trans hg2)
     clear hc2 hg2 HBY HO
     go_wp2_with fail
     refine(HFI.out _).mono ?_
     rintro r w' ⟨rfl,rfl⟩
     go_wp2_with fail
     refine(kx 3 HC2.out).mono ?_
     rintro r w3 ⟨rfl,hc3,hg3⟩
     have HE3:Hid (y9 R.2.2=e2):=HE2.out
     have HC3:Hid (vw w3 lo g bs R.2.1 e2):=by unfold Hid;rw[←HE3.out];exact hc3
     have HO3:=qa (qf1 HO2.out hg3 hlt)
     have HG3:=qa (HG2.out.trans hg3)
     clear hc3 hg3
     have hsz3:=HG3.out.size
     have HB:=qa (qgf (n:Int) HC3.out (by omega))
     rw[HQ.out] at HB
     clear HC2 HO2 HG2
     go_wp2_with fail
     refine HB.out.mono ?_
     rintro r w4 ⟨A4,c4,rfl,hrd4,hc4,hg4⟩
     have hst:=ko (P:=Tryz.prog) w4 26 9 5 Tryz.underlying26 Tryz.underlying5 Tryz.underlying9 _ _ A4 c4 Q.1 (Rd.of_own hrd4)
     rw[←HX.out] at hst
     have HC4:=qa hc4
     have HO4:=qa (qf1 HO3.out hg4 hlt)
     have HG4:=qa (HG3.out.trans hg4)
     have hsz4:=HG4.out.size
     clear hc4 hg4 hrd4 HB HC3 HO3 HG3
     go_wp2_with fail
     refine(HFO.out _).mono ?_
     rintro r w5 ⟨rfl,m,rfl⟩
     clear hst
     have HC6:Hid (vw (w4.drewN m) lo g bs S.2.1 S.2.2):=by unfold Hid;rw[←HS.out];exact HC4.out.drewN m
     obtain⟨w6,hw6⟩:∃w6,w4.drewN m=w6:=⟨_,rfl⟩
     have HO6:Hid (w6.ownsRow w.heap.size 9 1 (.slice A i c) i (sv ys)):=by unfold Hid;rw[←hw6];exact ju HO4.out fun k hk=>rfl
     have HG6:Hid (w.grownBy w6 (some g)):=by unfold Hid;rw[←hw6];exact qb5 HG4.out m
     rw[hw6] at HC6 ⊢
     clear hw6
     have hsz6:=HG6.out.size
     clear HC4 HO4 HG4
     rw[←HYL.out] at HO6
     go_wp2_with (at_builtin;refine xz (v:= .slice A i c) w.heap.size ys x rfl _ _ rfl rfl rfl rfl (by rw[za _ _ _ _ rfl];rfl) (by have:=HO6.out.alloc (.cells #[.string x] 9);rw[HYL.out] at this ⊢;exact this) (by rw[HYL.out];omega) (by simp;omega) ?_;intro A7 c7 w7 ho7 hg7;refine qaz ?_)
     have hgb7:w.grownBy w7 (some g):=qoa (km HG6.out _) hg7 (fun q hq=>(zk HO6.out (by rw[HYL.out];exact hq)).1)
     have hcu7:vw w7 lo g bs S.2.1 S.2.2:=(HC6.out.grown (row:=none) (by exact km (vc _ _) _) (by simp)).grown hg7 (fun q hq=> .inr (ja hlt (zk HO6.out (by rw[HYL.out];exact hq)).1))
     obtain⟨zs,hzs⟩:∃zs,ys++[x]=zs:=⟨_,rfl⟩
     rw[hzs] at ho7
     have hzl:zs.length=i+1:=by rw[←hzs,qd,HYL.out];rfl
     rw[hzl] at ho7
     have HZV:Hid (Value.slice A7 (ys.length+1) c7= .slice A7 (i+1) c7):=by unfold Hid;rw[HYL.out]
     have HGF:Hid (G=(qm zs++(qf5 bs (N-(i+1)) S.2.1 S.2.2 x.data.toList).1,(qf5 bs (N-(i+1)) S.2.1 S.2.2 x.data.toList).2)):=by
      unfold Hid
      have h1:S.1=x.data.toList:=by rw[←HS.out,HXL.out]
      rw[HGN.out,HD.out,←hzs,h1]
      simp[qm]
     have HZL:=qa hzl
     have HO7:=qa ho7
     have HC7:=qa hcu7
     have HG7:=qa hgb7
     clear ho7 hg7 hgb7 hcu7 hzs hzl HO6 HC6 HG6
     refine⟨?_⟩
     go_wp2_with fail
     go_roundw
     case rel=>exact⟨i+1,S.2.1,S.2.2,x,zs,A7,c7,by omega,by go_num,rfl,HZV.out,HZL.out,HGF.out,hxs,HO7.out,HC7.out,HG7.out⟩
     case measure=>simp[intOf] <;> omega
    | false =>
     go_wp2_with fail
     refine HBY.out.mono ?_
     rintro r w2 ⟨rfl,hc2,hg2⟩
     have HC2:=qa hc2
     have HO2:=qa (qf1 HO.out hg2 hlt)
     have HG2:=qa (HG.out.trans hg2)
     clear hc2 hg2 HBY HO
     go_wp2_with fail
     refine(HFI.out _).mono ?_
     rintro r w' ⟨rfl,rfl⟩
     go_wp2_with fail
     refine(kx 3 HC2.out).mono ?_
     rintro r w3 ⟨rfl,hc3,hg3⟩
     have HE3:Hid (y9 R.2.2=e2):=HE2.out
     have HC3:Hid (vw w3 lo g bs R.2.1 e2):=by unfold Hid;rw[←HE3.out];exact hc3
     have HO3:=qa (qf1 HO2.out hg3 hlt)
     have HG3:=qa (HG2.out.trans hg3)
     clear hc3 hg3
     have hsz3:=HG3.out.size
     have HB:=qa (qgf (n:Int) HC3.out (by omega))
     rw[HQ.out] at HB
     clear HC2 HO2 HG2
     go_wp2_with fail
     refine HB.out.mono ?_
     rintro r w4 ⟨A4,c4,rfl,hrd4,hc4,hg4⟩
     have hst:=ko (P:=Tryz.prog) w4 26 9 5 Tryz.underlying26 Tryz.underlying5 Tryz.underlying9 _ _ A4 c4 Q.1 (Rd.of_own hrd4)
     rw[←HX.out] at hst
     have HC4:=qa hc4
     have HO4:=qa (qf1 HO3.out hg4 hlt)
     have HG4:=qa (HG3.out.trans hg4)
     have hsz4:=HG4.out.size
     clear hc4 hg4 hrd4 HB HC3 HO3 HG3
     go_wp2_with fail
     refine(HFO.out _).mono ?_
     rintro r w5 ⟨rfl,m,rfl⟩
     clear hst
     go_wp2_with fail
     refine(kx 3 (HC4.out.drewN m)).mono ?_
     rintro r w6 ⟨rfl,hc6,hg6⟩
     have HC6:Hid (vw w6 lo g bs S.2.1 S.2.2):=by unfold Hid;rw[←HS.out];exact hc6
     have HO6:Hid (w6.ownsRow w.heap.size 9 1 (.slice A i c) i (sv ys)):=qf1 (w:=w4.drewN m) (ju HO4.out fun k hk=>rfl) hg6 hlt
     have HG6:Hid (w.grownBy w6 (some g)):=(qb5 HG4.out m).trans hg6
     clear hc6 hg6
     have hsz6:=HG6.out.size
     clear HC4 HO4 HG4
     rw[←HYL.out] at HO6
     go_wp2_with (at_builtin;refine xz (v:= .slice A i c) w.heap.size ys x rfl _ _ rfl rfl rfl rfl (by rw[za _ _ _ _ rfl];rfl) (by have:=HO6.out.alloc (.cells #[.string x] 9);rw[HYL.out] at this ⊢;exact this) (by rw[HYL.out];omega) (by simp;omega) ?_;intro A7 c7 w7 ho7 hg7;refine qaz ?_)
     have hgb7:w.grownBy w7 (some g):=qoa (km HG6.out _) hg7 (fun q hq=>(zk HO6.out (by rw[HYL.out];exact hq)).1)
     have hcu7:vw w7 lo g bs S.2.1 S.2.2:=(HC6.out.grown (row:=none) (by exact km (vc _ _) _) (by simp)).grown hg7 (fun q hq=> .inr (ja hlt (zk HO6.out (by rw[HYL.out];exact hq)).1))
     obtain⟨zs,hzs⟩:∃zs,ys++[x]=zs:=⟨_,rfl⟩
     rw[hzs] at ho7
     have hzl:zs.length=i+1:=by rw[←hzs,qd,HYL.out];rfl
     rw[hzl] at ho7
     have HZV:Hid (Value.slice A7 (ys.length+1) c7= .slice A7 (i+1) c7):=by unfold Hid;rw[HYL.out]
     have HGF:Hid (G=(qm zs++(qf5 bs (N-(i+1)) S.2.1 S.2.2 x.data.toList).1,(qf5 bs (N-(i+1)) S.2.1 S.2.2 x.data.toList).2)):=by
      unfold Hid
      have h1:S.1=x.data.toList:=by rw[←HS.out,HXL.out]
      rw[HGN.out,HD.out,←hzs,h1]
      simp[qm]
     have HZL:=qa hzl
     have HO7:=qa ho7
     have HC7:=qa hcu7
     have HG7:=qa hgb7
     clear ho7 hg7 hgb7 hcu7 hzs hzl HO6 HC6 HG6
     refine⟨?_⟩
     go_wp2_with fail
     go_roundw
     case rel=>exact⟨i+1,S.2.1,S.2.2,x,zs,A7,c7,by omega,by go_num,rfl,HZV.out,HZL.out,HGF.out,hxs,HO7.out,HC7.out,HG7.out⟩
     case measure=>simp[intOf] <;> omega
   -- END ARMS
  ·
   have ik:¬(i:Int)<(N:Int):=by omega
   have hiN2:i=N:=by omega
   have hG2:G=(qm ys,p,e):=by
    rw[HGE.out,show N-i=0 by omega,qf5,jj]
   have hLL:=HLL.out
   rw[hG2] at hLL
   simp only at hLL
   have HGO:=qa (xu HC.out)
   clear hG2 HLL HGE HAA
   by_cases he:e=0
   ·
    rw[if_pos he] at hLL
    have HLV:=qa hLL
    have hg1:(e==0)=true:=by simpa using he
    rw[hg1] at HGO
    clear hLL he hg1
    unfold cp at *
    go_wp2_with fail
    refine HGO.out.mono ?_
    rintro r w' ⟨rfl,rfl⟩
    go_wp2_with fail
    go_ret
    rw[HLV.out]
    simp only[qx,HYL.out,qdu]
    exact⟨A,c,by rw[hiN2];rfl,HO.out,HC.out,HG.out⟩
   ·
    rw[if_neg he] at hLL
    have HLV:=qa hLL
    have hg1:(e==0)=false:=by simpa using he
    rw[hg1] at HGO
    clear hLL he hg1
    unfold cp at *
    go_wp2_with fail
    refine HGO.out.mono ?_
    rintro r w' ⟨rfl,rfl⟩
    go_wp2_with fail
    go_ret
    rw[HLV.out]
    exact⟨none,0,rfl,⟨rfl,.inl ⟨rfl,rfl⟩⟩,HC.out,HG.out⟩
theorem spreadI_no{w:World}(there:List Bool){n m lo hi c d:Nat}{A B:Option Addr}(h:Rd w lo hi A c (lv there))(hn:there.length=n)(hm:m≠cnt there){v:Value} :
  Calls Tryz.prog 179 #[.slice A n c,.slice B m d,v] w fun r w'=>r= .returned (.slice none 0 0)∧w=w':=by
 subst hn
 have HC:=qa (qj7 (w:=w) there h)
 have hq:¬(m:Int)=(cnt there:Int):=by omega
 have bq:((m:Int) != (cnt there:Int))=true:=by simpa using hq
 clear h
 go_enter Tryz.func179,Tryz.ntmps179
 go_wp2_with fail
 refine HC.out.mono ?_
 rintro r w' ⟨rfl,rfl⟩
 go_wp2_with fail
 go_ret
 exact⟨rfl,rfl⟩
theorem spreadI_yes{w:World}(there:List Bool)(xs:List Value){n m c d:Nat}{A B:Option Addr}(h:Rd w 0 w.heap.size A c (lv there))(hx:Rd w 0 w.heap.size B d xs)(hn:there.length=n)(hm:xs.length=m)(hmc:m=cnt there)(hk:n≤1000000)(h1:∀v∈xs,∃pz:Int,v= .int .i64 pz) :
  Calls Tryz.prog 179 #[.slice A n c,.slice B m d,Value.int .i64 (-1)] w fun r w'=>∃A' c',r= .returned (.slice A' n c')∧w'.ownsRow w.heap.size 3 1 (.slice A' n c') n (xw there xs (Value.int .i64 (-1)))∧Below w.heap.size w w':=by
 subst hn
 have HC:=qa (qj7 (w:=w) there h)
 have bq:((m:Int) != (cnt there:Int))=false:=by rw[hmc];simp
 have HMC:=qa hmc
 have hcn:=qjf there
 obtain⟨w1,hmake,ho1,hg1⟩:=qjs w there.length (by omega)
 have HO1:=qa ho1
 have HB1:=qa (qcd (qc _) hg1 (fun g hg=>by cases hg))
 obtain⟨T,hT⟩:∃T,xw there xs (Value.int .i64 (-1))=T:=⟨_,rfl⟩
 have HTL:Hid (T.length=there.length):=by unfold Hid;rw[←hT,qcb]
 have HT0:Hid (∀k,there[k]? = some false→T[k]? = some (Value.int .i64 (-1))):=fun k hk=>by rw[←hT];exact qgx _ _ _ hk
 have HT1:Hid (∀k,there[k]? = some true→cnt (there.take k)<xs.length∧T[k]? = xs[cnt (there.take k)]?):=fun k hk=>by
  obtain⟨j,e1,e2,e3⟩:=qh7 there xs (Value.int .i64 (-1)) hk (by omega)
  rw[←hT,e1]
  exact⟨e2,e3⟩
 rw[hT]
 have H:=qa h
 have HX:=qa hx
 have H1:=qa h1
 have hl:=h.len
 have hcp:=h.cap
 rw[vk] at hl
 unfold maxLen at hcp
 clear h hx ho1 hg1 hT h1 hmc
 go_enter Tryz.func179,Tryz.ntmps179
 go_wp2_with fail
 refine HC.out.mono ?_
 rintro r w' ⟨rfl,rfl⟩
 go_wp2_with fail
 clear hmake HC bq
 go_loopw [1,20] (fun y x wr=>∃(k j:Nat) (zs:List Value) (B':Option Addr) (d':Nat),k≤there.length∧x= .int .i64 (k:Int)∧j=cnt (there.take k)∧j≤m∧y= .slice B' (m-j) d'∧Rd wr 0 w.heap.size B' d' (xs.drop j)∧
  wr.ownsRow w.heap.size 3 1 (.slice (some ⟨w.heap.size,0,none⟩) there.length there.length) there.length zs∧qk0 T k zs∧Below w.heap.size w wr) (fun _ x _=>there.length-(intOf x).toNat)
 case atStart=>exact⟨0,0,_,B,d,qi _,rfl,by simp[cnt],qi _,rfl,by rw[jx];exact HX.out.below HB1.out (qc _),HO1.out,qd9 (by rw[HTL.out];simp),HB1.out⟩
 case round =>
  clear HO1 HB1 HX
  obtain⟨k,j,zs,B',d',hkk,rfl,hj,hjm,rfl,hrx,ho,hf,hb⟩:=hrel
  have HRX:=qa hrx
  have HO:=qa ho
  have HF:=qa hf
  have HB:=qa hb
  have HJ:=qa hj
  have hsz:=hb.size
  clear hrx ho hf hb hj
  by_cases hlt:k<there.length
  ·
   have ik:(k:Int)<(there.length:Int):=by omega
   obtain⟨b,off,rfl,_,hbl,hcell⟩:=(H.out.below HB.out (qc _)).row hlt
   have hct:=cnt_take there k hlt
   have htk:there[k]? = some there[k]:=qe hlt
   have HT0k:=qa (fun h:there[k]=false=>HT0.out k (by rw[htk,h]))
   have HT1k:=qa (fun h:there[k]=true=>HT1.out k (by rw[htk,h]))
   have hfr:=HO.out.frozenAt k
   have hzk:k<zs.length:=by rw[HF.out.1,HTL.out];exact hlt
   have hzc:wr.cell? ⟨w.heap.size,k,none⟩=some zs[k]:=by
    rw[HO.out.cellAt k (by omega),qe hzk]
   have HST:=qa (World.ownsRow.stored HO.out k (Value.int .i64 (-1)))
   have HBS:=qa (HB.out.setCell (p:=⟨w.heap.size,k,none⟩) (qc _) (Value.int .i64 (-1)))
   have HRXS:=qa (HRX.out.setCell (p:=⟨w.heap.size,k,none⟩) (.inr (qc _)) (Value.int .i64 (-1)))
   clear htk
   generalize there[k]=q at *
   generalize zs[k]=z0 at *
   cases q with
   | false =>
    have HUS:=qa (qay HF.out (Value.int .i64 (-1)) (HT0k.out rfl))
    go_wp2_with fail
    go_roundw
    case rel=>exact⟨k+1,j,_,B',d',by omega,by go_num,by rw[hct,←HJ.out];rfl,hjm,rfl,HRXS.out,HST.out.1,HUS.out,HBS.out⟩
    case measure=>simp[intOf];omega
   | true =>
    obtain⟨hjx,hTk⟩:=HT1k.out rfl
    rw[←HJ.out] at hjx hTk
    obtain⟨bx,ox,rfl,_,hbx,hcx⟩:=HRX.out.get (k:=0) (by rw[qu];omega)
    rw[List.getElem_drop,xx] at hcx
    simp only[xx] at hcx
    rw[qe hjx] at hTk
    obtain⟨pz,he⟩:=H1.out xs[j] (qj hjx)
    obtain⟨w4,hw4⟩:∃w4,wr.setCell ⟨w.heap.size,k,none⟩ (Value.int .i64 (-1))=w4:=⟨_,rfl⟩
    rw[hw4] at HST HBS HRXS
    have hdl:=HRXS.out.len
    have hdc:=HRXS.out.cap
    rw[qu] at hdl
    unfold maxLen at hdc
    have HCUT:Hid (Rd w4 0 w.heap.size (if d'=1 then some ⟨bx,ox,none⟩ else some ⟨bx,ox+1,none⟩) (d'-1) (xs.drop (j+1))):=by
     have:=HRXS.out.cut (k:=1) (n:=m-j) (by omega) (by rw[qu];omega)
     rw[z7,qo (by rw[qu];omega)] at this
     exact this
    have hcx4:w4.cell? ⟨bx,ox,none⟩=some xs[j]:=by
     rw[←hw4,World.cell?_setCell_other _ _ _ _ (by intro e;injection e with e1;omega)]
     exact hcx
    have hfr4:=HST.out.1.frozenAt k
    have hz4:w4.cell? ⟨w.heap.size,k,none⟩=some (Value.int .i64 (-1)):=by
     rw[HST.out.1.cellAt k (by omega),qdq hzk]
    have HST4:=qa (World.ownsRow.stored HST.out.1 k xs[j])
    have HBS4:=qa (HBS.out.setCell (p:=⟨w.heap.size,k,none⟩) (qc _) xs[j])
    have HRX4:=qa (HCUT.out.setCell (p:=⟨w.heap.size,k,none⟩) (.inr (qc _)) xs[j])
    have HUS:=qa (qay (fill_same HF.out k (qc _) (Value.int .i64 (-1))) xs[j] hTk)
    have HMJ:Hid (m-j-1=m-(j+1)):=by unfold Hid;omega
    rw[he] at hcx4 HST4 HBS4 HRX4 HUS
    clear HST HBS HRXS HCUT hcx hTk he HRX HO HF HB
    go_wp2_with fail
    go_region
    go_wp2_with fail
    go_roundw
    case rel=>exact⟨k+1,j+1,_,_,d'-1,by omega,by go_num,by rw[hct,←HJ.out];rfl,by omega,by rw[←HMJ.out],HRX4.out.drew,ju HST4.out.1 fun _ _=>rfl,HUS.out,HBS4.out.drew⟩
    case measure=>simp[intOf];omega
  ·
   have ik:¬(k:Int)<(there.length:Int):=by omega
   have hx:zs=T:=qe1 HF.out (by rw[HTL.out];omega)
   subst hx
   go_wp2_with fail
   go_ret
   exact⟨_,_,rfl,HO.out,HB.out⟩
theorem encoded_v{w:World}{T:List (List UInt8)}(hr:yy T=true)(bs:List UInt8){n m c d:Nat}{A B:Option Addr}(h:Rd w 0 w.heap.size A c (sv (j7 T)))(hb:Rd w 0 w.heap.size B d (bv bs))(hn:T.length=n)(hm:bs.length=m)(hl:bs.length≤1000000) :
  Calls Tryz.prog 172 #[.slice A n c,.slice B m d] w fun r w'=>r= .returned (.bool (qfq T bs))∧Below w.heap.size w w':=by
 subst hn hm
 obtain⟨h5,h8⟩:=strs_small hr
 have HD:=qa (qro (w:=w) (j7 T) h8 h5 bs hl 4096 (by omega) (by omega) h hb)
 rw[yo,ue] at HD
 obtain⟨k,hk⟩:∃k,qfq T bs=k:=⟨_,rfl⟩
 rw[hk]
 have hle:=dec_le (T:=T) (most:=4096) (by omega) bs.length bs [] 0 (qc _) (by simp)
 unfold qfq at hk
 generalize qe3 T 4096 bs [] 0=D at *
 obtain⟨s,e,q⟩:=D
 simp only at HD hk hle
 obtain⟨x,hx⟩:∃x:ByteArray,x=⟨s.toArray⟩:=⟨_,rfl⟩
 have hxl:x.data.toList=s:=by rw[hx]
 have hxs:x.size≤4096:=by
  have h1:x.data.size=x.size:=rfl
  rw[←hxl,zy] at hle
  omega
 have HE:Hid (∀W,Below w.heap.size w W→Calls Tryz.prog 199 #[.slice A T.length c,.string x] W fun r w'=>∃A' c',r= .returned (.slice A' (kh T s).length c')∧w'.ownsRow W.heap.size 5 1 (.slice A' (kh T s).length c') (kh T s).length (bv (kh T s))∧Below W.heap.size W w'):=fun W hW=>by
  have:=qrn (w:=W) (c:=c) (A:=A) (j7 T) x ((h.below hW (qc _)).wide (qc _) hW.size) (by rw[ue];exact hr) (by omega)
  rw[yo,ue,hxl] at this
  exact this
 rw[←hx] at HD
 have HB:Hid (∀W,Below w.heap.size w W→Rd W 0 W.heap.size B d (bv bs)):=fun W hW=>(hb.below hW (qc _)).wide (qc _) hW.size
 have HK:=qa hk
 clear h hb hx hxl hle hk h8
 generalize kh T s=E at *
 go_enter Tryz.func172,Tryz.ntmps172
 go_wp2_with fail
 refine HD.out.mono ?_
 rintro r w1 ⟨rfl,hb1⟩
 have HB1:=qa hb1
 have hs1:=hb1.size
 clear hb1 HD
 by_cases he:e=0
 ·
  subst he
  have HE1:=qa (HE.out w1 HB1.out)
  go_wp2_with fail
  refine HE1.out.mono ?_
  rintro r w2 ⟨A2,c2,rfl,ho2,hb2⟩
  have HB2:=qa (qz HB1.out hb2 hs1)
  have HQ:=qa (equal_any (w:=w2) E bs (Rd.of_own ho2) (HB.out w2 HB2.out))
  have hk:decide (E=bs)=k:=by rw[←HK.out];simp
  rw[hk] at HQ
  clear ho2 hb2 HE1 hk HK
  go_wp2_with fail
  refine HQ.out.mono ?_
  rintro r w' ⟨rfl,rfl⟩
  go_wp2_with fail
  go_ret
  exact⟨rfl,HB2.out⟩
 ·
  have ie:¬(e:Int)=0:=by omega
  have be:((e:Int)==0)=false:=by rw[qr];exact ie
  have hk:k=false:=by rw[←HK.out];simp[he]
  subst hk
  go_wp2_with fail
  go_ret
  exact⟨rfl,HB1.out⟩
theorem takeRaws_v{w:World}{lo g G k n0 n3 c0 c3:Nat}{bs:List UInt8}{e:Int}(kd:Nat)(there:List Bool)(T:List (List UInt8))(most:Int)(ok:List UInt8→Bool){A0 A3:Option Addr}{v2 v4 v5:Value}(h:vw w lo g bs k e)(hb:bs.length≤1000000000)(hgG:g<G)
  (hG:j6 w G 106 #[.int .i64 (kd:Int),.slice A0 n0 c0,v2,.slice A3 n3 c3,v4,v5]) (ht:Rd w (g+1) w.heap.size A0 c0 (lv there)) (hn0:there.length=n0) (ht4:n0≤4096)
  (hk:(kd=1∧ok=fun _=>true)∨(kd=2∧ok=qfq T∧yy T=true∧T.length=n3∧Rd w (g+1) w.heap.size A3 c3 (sv (j7 T)))) (hmost:most≤1000000) :
  Calls Tryz.prog 134 #[.pointer (some ⟨G,0,none⟩),cp g,.int .i64 most] w fun r w'=>∃A n c,r= .returned (.slice A n c)∧vw w' lo g bs (qbq bs k e (cnt there) most ok).2.1 (qbq bs k e (cnt there) most ok).2.2∧w.grownBy w' (some g)∧
   ((qbq bs k e (cnt there) most ok).1.length=cnt there→n=there.length∧∃ps,qm4 ps=(qbq bs k e (cnt there) most ok).1∧Rd w' w.heap.size w'.heap.size A c (xw there (pv ps) (.slice none 0 0))∧qrw w' w.heap.size w'.heap.size ps) :=
 qqx kd there T most ok h hb hgG hG ht hn0 ht4 hk (fun _=>fun {w} hr bs {n m c d A B} h1 h2 h3 h4 h5=>encoded_v hr bs h1 h2 h3 h4 h5) hmost
theorem qp2(bs:List UInt8)(k:Nat)(e:Int):(qgi bs k e).1.length≤4096:=by
 have h:=qd4 bs k e 4096
 rw[show(j8 bs k e 4096).1=(jac bs k e 4096).1 from rfl] at h
 unfold qgi jy
 repeat' split
 all_goals simp only[je,qy,vf]
 all_goals omega
theorem orForm_fail(e:Int):(if e=0 then (3:Int) else e)=y9 e:=rfl
theorem next_le(bs:List UInt8)(k:Nat)(e:Int)(last:List UInt8):(j8 bs k e last.length).1≤last.length:=by
 have h:=qd4 bs k e (last.length:Int)
 omega
theorem fnext_any{w:World}{lo g k:Nat}{bs:List UInt8}{e:Int}(h:vw w lo g bs k e)(last:ByteArray)(hl:last.size≤100000000) :
  Calls Tryz.prog 201 #[cp g,.string last] w fun r w'=>∃x:ByteArray,r= .returned (.string x)∧x.data.toList=(qhi bs k e last.data.toList).1∧
   vw w' lo g bs (qhi bs k e last.data.toList).2.1 (qhi bs k e last.data.toList).2.2∧w.grownBy w' (some g):=by
 have HM:=qa (qgm (last.size:Int) h)
 have hn:=next_le bs k e last.data.toList
 have HX:Hid (qhi bs k e last.data.toList=qhi bs k e last.data.toList):=rfl
 obtain⟨N,hN⟩:∃N,qhi bs k e last.data.toList=N:=⟨_,rfl⟩
 rw[hN]
 unfold qhi at hN
 simp only[qhy] at hN hn
 generalize j8 bs k e (last.size:Int)=R at *
 obtain⟨n,k1,e1⟩:=R
 dsimp only at HM hn hN
 have HT:=qa (fun w (h:vw w lo g bs k1 e1)=>text_any h)
 have htl:=qp2 bs k1 e1
 generalize qgi bs k1 e1=T at *
 obtain⟨t,k2,e2⟩:=T
 dsimp only at HT htl hN
 obtain⟨x,hx⟩:∃x:ByteArray,(⟨t.toArray⟩:ByteArray)=x:=⟨_,rfl⟩
 have hxs:x.size≤4096:=by
  have h1:x.data.toList=t:=by rw[←hx]
  rw[←qhy,h1]
  exact htl
 obtain⟨s,hs⟩:∃s:ByteArray,last.extract 0 n++x=s:=⟨_,rfl⟩
 have hsd:s.data.toList=last.data.toList.take n++t:=by
  rw[←hs,←hx,ByteArray.data_append,Array.toList_append,qb1,qep]
  simp[qcf]
 rw[hx] at HT
 have hmin:min n last.size=n:=by omega
 have hcat:¬9223372036854775807<n+x.size:=by omega
 clear hx
 have hss:s.size≤1000000000:=by
  have:=congrArg List.length hsd
  rw[qhy,qd,qy] at this
  omega
 rw[←hsd] at hN
 have HAL:=qa (fun w=>alike_any (w:=w) last s (by omega) hss)
 have HSD:=qa hsd
 obtain⟨q,hq⟩:∃q,xg last.data.toList s.data.toList=q:=⟨_,rfl⟩
 rw[hq] at HAL hN
 have HNN:=qa hN
 clear hsd hq hN htl h HX
 unfold cp at *
 go_enter Tryz.func201,Tryz.ntmps201
 go_wp2_with fail
 refine HM.out.mono ?_
 rintro r w1 ⟨rfl,hc1,hg1⟩
 have HC1:=qa hc1
 have HG1:=qa hg1
 clear hc1 hg1 HM
 go_wp2_with fail
 go_region_held3 (fun _=>True) (trivial) (first
  | (go_at_call 200;refine(HT.out _ (HC1.out.drewN 1)).mono ?_;rintro r w2 ⟨rfl,hc2,hg2⟩;have HC2:=qa hc2;have HG2:Hid (w.grownBy w2 (some g)):=(qb5 HG1.out 1).trans hg2;clear hc2 hg2))
 go_wp2_with fail
 refine(HAL.out _).mono ?_
 rintro r w3 ⟨rfl,m,rfl⟩
 have HC3:=qa (HC2.out.drewN m)
 have HG3:=qa (qb5 HG2.out m)
 clear HC2 HG2 HC1 HG1 HAL hcat hmin
 by_cases hqn:q=n
 ·
  subst hqn
  have hfin:(s.data.toList,k2,e2)=N:=by have:=HNN.out;rw[if_pos rfl] at this;exact this
  subst hfin
  go_wp2_with fail
  go_ret
  exact⟨s,rfl,rfl,HC3.out,HG3.out⟩
 ·
  have hfin:(s.data.toList,k2,y9 e2)=N:=by have:=HNN.out;rw[if_neg hqn] at this;exact this
  subst hfin
  have b1:((q:Int)==(n:Int))=false:=by rw[qr];omega
  have i1:¬(q:Int)=(n:Int):=by omega
  go_wp2_with fail
  refine(kx 3 HC3.out).mono ?_
  rintro r w4 ⟨rfl,hc4,hg4⟩
  have HC4:=qa hc4
  have HG4:=qa (HG3.out.trans hg4)
  clear hc4 hg4
  go_wp2_with fail
  go_ret
  exact⟨s,rfl,rfl,HC4.out,HG4.out⟩
theorem entR_len(f:Bool)(bs:List UInt8)(k:Nat)(e:Int)(last:List UInt8):(qqm f bs k e last).1.length≤last.length+4096:=by
 unfold qqm
 split
 ·
  have:=qp2 bs k e;omega
 ·
  unfold qhi
  simp only[qd,qy]
  have:=qp2 bs (j8 bs k e last.length).2.1 (j8 bs k e last.length).2.2
  omega
theorem good_le{l:List (List UInt8)}{s:List UInt8}(h:qe0 l s=true):s.length≤4096:=by
 unfold qe0 at h
 rw[jl,decide_eq_true_eq] at h
 exact h.1
theorem ftake_any{w:World}{lo g d k:Nat}{bs:List UInt8}{e:Int}{ys:List ByteArray}(hc:vw w lo g bs k e)(hd:Dc w d ys)(hgd:g<d)(n size:Nat)(hn:n≤64)(hsz:size≤4294967295)(hyl:ys.length+n≤1000000)(hbs:bs.length≤1000000000000) :
  Calls Tryz.prog 177 #[.pointer (some ⟨d,0,none⟩),cp g,.int .i64 (n:Int),.int .i64 (size:Int)] w fun r w'=>r= .returned (.tuple #[])∧∃ys':List ByteArray,qm ys'=(qg9 bs (qm ys) k e n size).1∧ys'.length≤ys.length+n∧
   Dc w' d ys'∧vw w' lo g bs (qg9 bs (qm ys) k e n size).2.1 (qg9 bs (qm ys) k e n size).2.2∧Out w w' (fun i=>i=g∨d≤i):=by
 have hk:=hc.le
 obtain⟨TT,hTT⟩:∃TT,qg9 bs (qm ys) k e n size=TT:=⟨_,rfl⟩
 rw[hTT]
 unfold qg9 at hTT
 simp only at hTT
 obtain⟨E,hE⟩:∃E,((bs.length-k:Nat):Int)-(size:Int)=E:=⟨_,rfl⟩
 rw[hE] at hTT
 obtain⟨F,hF⟩:∃F,qgj bs E n true (qm ys) [] k e=F:=⟨_,rfl⟩
 rw[hF] at hTT
 have HL:=qa (qey hc)
 have HE:Hid (((bs.length-k:Nat):Int)-(size:Int)=E):=hE
 have hEb : -4294967296≤E∧E≤1000000000000:=by omega
 have HC:=qa hc
 have HD:=qa hd
 have HF:=qa hF
 have HTT:=qa hTT
 obtain⟨y0,hy0⟩:∃y0,ys.length=y0:=⟨_,rfl⟩
 have HY0:=qa hy0
 rw[hy0] at hyl
 obtain⟨lf,hlf⟩:∃lf:Nat,bs.length-k=lf:=⟨_,rfl⟩
 rw[hlf] at HE HL
 have hlfb:lf≤1000000000000:=by omega
 have hwE:IntKind.i64.wrap ((lf:Int)-(size:Int))=E:=by rw[HE.out];exact z8 _ (by omega)
 have hsub:(lf:Int)-(size:Int)=E:=HE.out
 clear hc hd hE hF hTT hy0 hlf
 unfold cp at *
 go_enter Tryz.func177,Tryz.ntmps177
 go_wp2_with fail
 refine HL.out.mono ?_
 rintro r w1 ⟨rfl,m0,rfl⟩
 go_wp2_with fail
 clear hwE hsub
 go_loopw [9,17] (fun x9 x17 wr=>∃(i k':Nat) (e':Int) (last:ByteArray) (zs:List ByteArray),i≤n∧x17= .int .i64 (i:Int)∧x9= .string last∧last.size≤4096∧zs.length=y0+i∧qgj bs E (n-i) (decide (i=0)) (qm zs) last.data.toList k' e'=F∧
  Dc wr d zs∧vw wr lo g bs k' e'∧Out w wr (fun i=>i=g∨d≤i)) (fun _ i _=>n-(intOf i).toNat)
 case atStart=>exact⟨0,k,e,⟨#[]⟩,ys,qi _,rfl,rfl,by decide,HY0.out,HF.out,HD.out.drewN _,HC.out.drewN _,(Out.refl _ _).drewN _⟩
 case round =>
  clear HC HD HL HF HE
  obtain⟨i,k',e',last,zs,hi,rfl,rfl,hls,hzl,htf,hdc,hcur,hout⟩:=hrel
  have HZL:=qa hzl
  have HTF:=qa htf
  have HD:=qa hdc
  have HC:=qa hcur
  have HO:=qa hout
  have hk':=hcur.le
  clear hzl htf hdc hcur hout
  by_cases hlt:i<n
  ·
   have ik:(i:Int)<(n:Int):=by omega
   obtain⟨m,hm⟩:∃m,n-i=m+1:=⟨n-i-1,by omega⟩
   have HM:Hid (n-(i+1)=m):=by unfold Hid;omega
   have htf:=HTF.out
   rw[hm,qgj] at htf
   clear HTF hm
   by_cases hi0:i=0
   ·
    have b0:((i:Int)==0)=true:=by rw[beq_iff_eq];omega
    rw[qp hi0] at htf
    have HI0:=qa hi0
    clear hi0
    have hel:=entR_len true bs k' e' last.data.toList
    have HT:=qa (text_any HC.out)
    rw[show qgi bs k' e'=qqm true bs k' e' last.data.toList from rfl] at HT
    unfold qhb at htf
    simp only at htf
    generalize qqm true bs k' e' last.data.toList=R at *
    obtain⟨s0,k1,e1⟩:=R
    dsimp only at HT hel htf
    obtain⟨s,hs⟩:∃s:ByteArray,(⟨s0.toArray⟩:ByteArray)=s:=⟨_,rfl⟩
    have hsd:s0=s.data.toList:=by rw[←hs]
    rw[hs] at HT
    rw[hsd] at htf hel
    rw[qhy,qhy] at hel
    clear hs hsd
    go_wp2_with fail
    refine HT.out.mono ?_
    rintro r w2 ⟨rfl,hc2,hg2⟩
    have HC2:=qa hc2
    have HD2:=qa (HD.out.cur hg2 hgd)
    have HO2:Hid (Out w w2 (fun i=>i=g∨d≤i)):=HO.out.trans (Out.of_gb (X:=fun i=>i=g∨d≤i) hg2 (fun q hq=>by injection hq with hq;exact Or.inl hq.symm)) (fun _ _ h=>h)
    clear hc2 hg2 HT HC HD HO
    obtain⟨Aq,cq,hcq,hfq,hrq⟩:=HD2.out.open_
    have hzl:=HZL.out
    have HFO:=qa (qkm zs s hzl hrq (by omega))
    rw[hzl] at hcq
    clear hrq hzl
    have HL2:=qa (qey HC2.out)
    have hgl:=@good_le (qm zs) s.data.toList
    rw[qhy] at hgl
    obtain⟨f1,hf1⟩:∃f1,qe0 (qm zs) s.data.toList=f1:=⟨_,rfl⟩
    rw[hf1] at HFO htf hgl
    clear hf1
    obtain⟨l1,hl1⟩:∃l1:Nat,bs.length-k1=l1:=⟨_,rfl⟩
    rw[hl1] at HL2 htf
    clear hl1
    have HTF:=qa htf
    clear htf
    cases f1 with
    | false =>
     have htf:=HTF.out
     rw[if_neg (show ¬((false:Bool)=true∧E≤(l1:Int)) from fun h=>by cases h.1),if_neg (xr e1)] at htf
     subst htf
     go_wp2_with fail
     refine HFO.out.mono ?_
     rintro r w' ⟨rfl,rfl⟩
     go_wp2_with fail
     refine(kx 3 HC2.out).mono ?_
     rintro r w3 ⟨rfl,hc3,hg3⟩
     have HC3:Hid (vw w3 lo g bs k1 (y9 e1)):=hc3
     have HD3:=qa (HD2.out.cur hg3 hgd)
     have HO3:Hid (Out w w3 (fun i=>i=g∨d≤i)):=HO2.out.trans (Out.of_gb (X:=fun i=>i=g∨d≤i) hg3 (fun q hq=>by injection hq with hq;exact Or.inl hq.symm)) (fun _ _ h=>h)
     have HGD:=qa (xu HC3.out)
     rw[show(y9 e1==0)=false from qr.2 (xr e1)] at HGD
     clear hc3 hg3
     go_wp2_with fail
     refine HGD.out.mono ?_
     rintro r w' ⟨rfl,rfl⟩
     go_wp2_with fail
     refine bodyPost_ret (results_none rfl _ _ _) rfl ?_
     have hT:=HTT.out
     simp only[uz (xr e1),ite_self] at hT
     subst hT
     exact⟨rfl,zs,rfl,by rw[HZL.out,HY0.out];omega,HD3.out,HC3.out,HO3.out⟩
    | true =>
     have hs4:=hgl rfl
     clear hgl
     by_cases hE1:E≤(l1:Int)
     ·
      have iE:¬(l1:Int)<E:=by omega
      have dE:decide ((l1:Int)<E)=false:=ql iE
      have htf:=HTF.out
      rw[if_pos (show(true:Bool)=true∧E≤(l1:Int) from ⟨rfl,hE1⟩)] at htf
      by_cases he1:e1=0
      ·
       subst he1
       rw[if_pos rfl] at htf
       have HTF2:=qa htf
       have HGD:=qa (fun m=>xu (HC2.out.drewN m))
       rw[show((0:Int)==0)=true from rfl] at HGD
       clear htf HTF
       go_wp2_with fail
       refine HFO.out.mono ?_
       rintro r w' ⟨rfl,rfl⟩
       go_wp2_with fail
       refine HL2.out.mono ?_
       rintro r w' ⟨rfl,m3,rfl⟩
       go_wp2_with fail
       refine(HGD.out m3).mono ?_
       rintro r w' ⟨rfl,rfl⟩
       have hcq3:(w2.drewN m3).cell? ⟨d,0,none⟩=some (.slice Aq zs.length cq):=by rw[HZL.out];exact hcq
       obtain⟨A5,c5,w5,hrun5,hc5,hf5,hd5,hb5⟩:=(HD2.out.drewN m3).push hcq3 s (by rw[HZL.out];omega)
       rw[HZL.out] at hrun5 hc5 hd5 hb5
       have HD5:=qa hd5
       have HC5:=qa ((HC2.out.drewN m3).behind hb5 hgd)
       have HO5:Hid (Out w (w5.setCell ⟨d,0,none⟩ (.slice A5 (y0+i+1) c5)) (fun i=>i=g∨d≤i)):=(HO2.out.drewN m3).trans (Y:=fun i=>d≤i) ⟨hb5.os,hb5.tape,hb5.output,hb5.size,fun q _ hq2=>hb5.block q (by omega)⟩ (fun _ _ h=>Or.inr h)
       clear hd5 hb5 hcq3 HGD HL2 HFO
       go_wp2_with (at_builtin;refine wpList_append_run rfl _ _ _ _ rfl rfl rfl hrun5 ?_;refine qaz ?_)
       refine⟨?_⟩
       clear hrun5
       go_wp2_with fail
       go_roundw
       case rel=>exact⟨i+1,k1,0,s,zs++[s],by omega,by go_num,rfl,hs4,by rw[qd,HZL.out,jd];omega,by rw[HM.out,ql (p:=i+1=0) (by omega),qiq];exact HTF2.out,HD5.out,HC5.out,HO5.out⟩
       case measure=>simp[intOf];omega
      ·
       rw[if_neg he1] at htf
       subst htf
       have HGD:=qa (fun m=>xu (HC2.out.drewN m))
       rw[show(e1==0)=false from qr.2 he1] at HGD
       go_wp2_with fail
       refine HFO.out.mono ?_
       rintro r w' ⟨rfl,rfl⟩
       go_wp2_with fail
       refine HL2.out.mono ?_
       rintro r w' ⟨rfl,m3,rfl⟩
       go_wp2_with fail
       refine(HGD.out m3).mono ?_
       rintro r w' ⟨rfl,rfl⟩
       go_wp2_with fail
       refine bodyPost_ret (results_none rfl _ _ _) rfl ?_
       have hT:=HTT.out
       simp only[uz he1,ite_self] at hT
       subst hT
       exact⟨rfl,zs,rfl,by rw[HZL.out,HY0.out];omega,HD2.out.drewN _,HC2.out.drewN _,HO2.out.drewN _⟩
     ·
      have iE:(l1:Int)<E:=by omega
      have dE:decide ((l1:Int)<E)=true:=qp iE
      have htf:=HTF.out
      rw[if_neg (show ¬((true:Bool)=true∧E≤(l1:Int)) from fun h=>hE1 h.2),if_neg (xr e1)] at htf
      subst htf
      go_wp2_with fail
      refine HFO.out.mono ?_
      rintro r w' ⟨rfl,rfl⟩
      go_wp2_with fail
      refine HL2.out.mono ?_
      rintro r w' ⟨rfl,m3,rfl⟩
      go_wp2_with fail
      refine(kx 3 (HC2.out.drewN m3)).mono ?_
      rintro r w3 ⟨rfl,hc3,hg3⟩
      have HC3:Hid (vw w3 lo g bs k1 (y9 e1)):=hc3
      have HD3:=qa ((HD2.out.drewN m3).cur hg3 hgd)
      have HO3:Hid (Out w w3 (fun i=>i=g∨d≤i)):=(HO2.out.drewN m3).trans (Out.of_gb (X:=fun i=>i=g∨d≤i) hg3 (fun q hq=>by injection hq with hq;exact Or.inl hq.symm)) (fun _ _ h=>h)
      have HGD:=qa (xu HC3.out)
      rw[show(y9 e1==0)=false from qr.2 (xr e1)] at HGD
      clear hc3 hg3
      go_wp2_with fail
      refine HGD.out.mono ?_
      rintro r w' ⟨rfl,rfl⟩
      go_wp2_with fail
      refine bodyPost_ret (results_none rfl _ _ _) rfl ?_
      have hT:=HTT.out
      simp only[uz (xr e1),ite_self] at hT
      subst hT
      exact⟨rfl,zs,rfl,by rw[HZL.out,HY0.out];omega,HD3.out,HC3.out,HO3.out⟩
   ·
    have i0:¬(i:Int)=0:=by omega
    have b0:((i:Int)==0)=false:=by rw[qr];exact i0
    rw[ql hi0] at htf
    have hel:=entR_len false bs k' e' last.data.toList
    have HT:=qa (fnext_any HC.out last (by omega))
    rw[show qhi bs k' e' last.data.toList=qqm false bs k' e' last.data.toList from rfl] at HT
    unfold qhb at htf
    simp only at htf
    generalize qqm false bs k' e' last.data.toList=R at *
    obtain⟨s0,k1,e1⟩:=R
    dsimp only at HT hel htf
    go_wp2_with fail
    refine HT.out.mono ?_
    rintro r w2 ⟨s,rfl,hsd,hc2,hg2⟩
    rw[←hsd] at htf hel
    rw[qhy,qhy] at hel
    clear hsd
    have HC2:=qa hc2
    have HD2:=qa (HD.out.cur hg2 hgd)
    have HO2:Hid (Out w w2 (fun i=>i=g∨d≤i)):=HO.out.trans (Out.of_gb (X:=fun i=>i=g∨d≤i) hg2 (fun q hq=>by injection hq with hq;exact Or.inl hq.symm)) (fun _ _ h=>h)
    clear hc2 hg2 HT HC HD HO
    obtain⟨Aq,cq,hcq,hfq,hrq⟩:=HD2.out.open_
    have hzl:=HZL.out
    have HFO:=qa (qkm zs s hzl hrq (by omega))
    rw[hzl] at hcq
    clear hrq hzl
    have HL2:=qa (qey HC2.out)
    have hgl:=@good_le (qm zs) s.data.toList
    rw[qhy] at hgl
    obtain⟨f1,hf1⟩:∃f1,qe0 (qm zs) s.data.toList=f1:=⟨_,rfl⟩
    rw[hf1] at HFO htf hgl
    clear hf1
    obtain⟨l1,hl1⟩:∃l1:Nat,bs.length-k1=l1:=⟨_,rfl⟩
    rw[hl1] at HL2 htf
    clear hl1
    have HTF:=qa htf
    clear htf
    cases f1 with
    | false =>
     have htf:=HTF.out
     rw[if_neg (show ¬((false:Bool)=true∧E≤(l1:Int)) from fun h=>by cases h.1),if_neg (xr e1)] at htf
     subst htf
     go_wp2_with fail
     refine HFO.out.mono ?_
     rintro r w' ⟨rfl,rfl⟩
     go_wp2_with fail
     refine(kx 3 HC2.out).mono ?_
     rintro r w3 ⟨rfl,hc3,hg3⟩
     have HC3:Hid (vw w3 lo g bs k1 (y9 e1)):=hc3
     have HD3:=qa (HD2.out.cur hg3 hgd)
     have HO3:Hid (Out w w3 (fun i=>i=g∨d≤i)):=HO2.out.trans (Out.of_gb (X:=fun i=>i=g∨d≤i) hg3 (fun q hq=>by injection hq with hq;exact Or.inl hq.symm)) (fun _ _ h=>h)
     have HGD:=qa (xu HC3.out)
     rw[show(y9 e1==0)=false from qr.2 (xr e1)] at HGD
     clear hc3 hg3
     go_wp2_with fail
     refine HGD.out.mono ?_
     rintro r w' ⟨rfl,rfl⟩
     go_wp2_with fail
     refine bodyPost_ret (results_none rfl _ _ _) rfl ?_
     have hT:=HTT.out
     simp only[uz (xr e1),ite_self] at hT
     subst hT
     exact⟨rfl,zs,rfl,by rw[HZL.out,HY0.out];omega,HD3.out,HC3.out,HO3.out⟩
    | true =>
     have hs4:=hgl rfl
     clear hgl
     by_cases hE1:E≤(l1:Int)
     ·
      have iE:¬(l1:Int)<E:=by omega
      have dE:decide ((l1:Int)<E)=false:=ql iE
      have htf:=HTF.out
      rw[if_pos (show(true:Bool)=true∧E≤(l1:Int) from ⟨rfl,hE1⟩)] at htf
      by_cases he1:e1=0
      ·
       subst he1
       rw[if_pos rfl] at htf
       have HTF2:=qa htf
       have HGD:=qa (fun m=>xu (HC2.out.drewN m))
       rw[show((0:Int)==0)=true from rfl] at HGD
       clear htf HTF
       go_wp2_with fail
       refine HFO.out.mono ?_
       rintro r w' ⟨rfl,rfl⟩
       go_wp2_with fail
       refine HL2.out.mono ?_
       rintro r w' ⟨rfl,m3,rfl⟩
       go_wp2_with fail
       refine(HGD.out m3).mono ?_
       rintro r w' ⟨rfl,rfl⟩
       have hcq3:(w2.drewN m3).cell? ⟨d,0,none⟩=some (.slice Aq zs.length cq):=by rw[HZL.out];exact hcq
       obtain⟨A5,c5,w5,hrun5,hc5,hf5,hd5,hb5⟩:=(HD2.out.drewN m3).push hcq3 s (by rw[HZL.out];omega)
       rw[HZL.out] at hrun5 hc5 hd5 hb5
       have HD5:=qa hd5
       have HC5:=qa ((HC2.out.drewN m3).behind hb5 hgd)
       have HO5:Hid (Out w (w5.setCell ⟨d,0,none⟩ (.slice A5 (y0+i+1) c5)) (fun i=>i=g∨d≤i)):=(HO2.out.drewN m3).trans (Y:=fun i=>d≤i) ⟨hb5.os,hb5.tape,hb5.output,hb5.size,fun q _ hq2=>hb5.block q (by omega)⟩ (fun _ _ h=>Or.inr h)
       clear hd5 hb5 hcq3 HGD HL2 HFO
       go_wp2_with (at_builtin;refine wpList_append_run rfl _ _ _ _ rfl rfl rfl hrun5 ?_;refine qaz ?_)
       refine⟨?_⟩
       clear hrun5
       go_wp2_with fail
       go_roundw
       case rel=>exact⟨i+1,k1,0,s,zs++[s],by omega,by go_num,rfl,hs4,by rw[qd,HZL.out,jd];omega,by rw[HM.out,ql (p:=i+1=0) (by omega),qiq];exact HTF2.out,HD5.out,HC5.out,HO5.out⟩
       case measure=>simp[intOf];omega
      ·
       rw[if_neg he1] at htf
       subst htf
       have HGD:=qa (fun m=>xu (HC2.out.drewN m))
       rw[show(e1==0)=false from qr.2 he1] at HGD
       go_wp2_with fail
       refine HFO.out.mono ?_
       rintro r w' ⟨rfl,rfl⟩
       go_wp2_with fail
       refine HL2.out.mono ?_
       rintro r w' ⟨rfl,m3,rfl⟩
       go_wp2_with fail
       refine(HGD.out m3).mono ?_
       rintro r w' ⟨rfl,rfl⟩
       go_wp2_with fail
       refine bodyPost_ret (results_none rfl _ _ _) rfl ?_
       have hT:=HTT.out
       simp only[uz he1,ite_self] at hT
       subst hT
       exact⟨rfl,zs,rfl,by rw[HZL.out,HY0.out];omega,HD2.out.drewN _,HC2.out.drewN _,HO2.out.drewN _⟩
     ·
      have iE:(l1:Int)<E:=by omega
      have dE:decide ((l1:Int)<E)=true:=qp iE
      have htf:=HTF.out
      rw[if_neg (show ¬((true:Bool)=true∧E≤(l1:Int)) from fun h=>hE1 h.2),if_neg (xr e1)] at htf
      subst htf
      go_wp2_with fail
      refine HFO.out.mono ?_
      rintro r w' ⟨rfl,rfl⟩
      go_wp2_with fail
      refine HL2.out.mono ?_
      rintro r w' ⟨rfl,m3,rfl⟩
      go_wp2_with fail
      refine(kx 3 (HC2.out.drewN m3)).mono ?_
      rintro r w3 ⟨rfl,hc3,hg3⟩
      have HC3:Hid (vw w3 lo g bs k1 (y9 e1)):=hc3
      have HD3:=qa ((HD2.out.drewN m3).cur hg3 hgd)
      have HO3:Hid (Out w w3 (fun i=>i=g∨d≤i)):=(HO2.out.drewN m3).trans (Out.of_gb (X:=fun i=>i=g∨d≤i) hg3 (fun q hq=>by injection hq with hq;exact Or.inl hq.symm)) (fun _ _ h=>h)
      have HGD:=qa (xu HC3.out)
      rw[show(y9 e1==0)=false from qr.2 (xr e1)] at HGD
      clear hc3 hg3
      go_wp2_with fail
      refine HGD.out.mono ?_
      rintro r w' ⟨rfl,rfl⟩
      go_wp2_with fail
      refine bodyPost_ret (results_none rfl _ _ _) rfl ?_
      have hT:=HTT.out
      simp only[uz (xr e1),ite_self] at hT
      subst hT
      exact⟨rfl,zs,rfl,by rw[HZL.out,HY0.out];omega,HD3.out,HC3.out,HO3.out⟩
  ·
   have ik:¬(i:Int)<(n:Int):=by omega
   have hin:n-i=0:=by omega
   have htf:=HTF.out
   rw[hin,qgj] at htf
   subst htf
   have HLF:=qa (qey HC.out)
   obtain⟨l1,hl1⟩:∃l1:Nat,bs.length-k'=l1:=⟨_,rfl⟩
   have hT:=HTT.out
   dsimp only at hT
   rw[hl1] at HLF hT
   clear hl1 hin HTF
   by_cases hle:(l1:Int)=E
   ·
    rw[if_pos hle] at hT
    subst hT
    have bl:((l1:Int)==E)=true:=by rw[beq_iff_eq];exact hle
    go_wp2_with fail
    refine HLF.out.mono ?_
    rintro r w' ⟨rfl,m3,rfl⟩
    go_wp2_with fail
    go_end0
    exact⟨rfl,zs,rfl,by rw[HZL.out,HY0.out];omega,HD.out.drewN _,HC.out.drewN _,HO.out.drewN _⟩
   ·
    rw[if_neg hle] at hT
    subst hT
    have bl:((l1:Int)==E)=false:=by rw[qr];exact hle
    go_wp2_with fail
    refine HLF.out.mono ?_
    rintro r w' ⟨rfl,m3,rfl⟩
    go_wp2_with fail
    refine(kx 3 (HC.out.drewN m3)).mono ?_
    rintro r w3 ⟨rfl,hc3,hg3⟩
    have HC3:=qa hc3
    have HD3:=qa ((HD.out.drewN m3).cur hg3 hgd)
    have HO3:Hid (Out w w3 (fun i=>i=g∨d≤i)):=(HO.out.drewN m3).trans (Out.of_gb (X:=fun i=>i=g∨d≤i) hg3 (fun q hq=>by injection hq with hq;exact Or.inl hq.symm)) (fun _ _ h=>h)
    clear hc3 hg3
    go_wp2_with fail
    go_end0
    exact⟨rfl,zs,rfl,by rw[HZL.out,HY0.out];omega,HD3.out,HC3.out,HO3.out⟩
end Go.Proofs.YtnjkipnklpkaoaaGreat
