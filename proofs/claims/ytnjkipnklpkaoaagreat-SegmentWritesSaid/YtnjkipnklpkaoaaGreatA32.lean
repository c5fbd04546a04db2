/-
  Lemmas.
-/
import Derived.Test.YtnjkipnklpkaoaaGreatA31
namespace Go.Proofs.YtnjkipnklpkaoaaGreat
open Go.RowKit
set_option maxRecDepth 20000
set_option maxHeartbeats 16000000
set_option linter.unusedSimpArgs false
set_option linter.unusedVariables false
theorem qqc(cs:List Nat):(nz cs).length=cs.length:=by simp[nz,iv]
theorem nz_append(cs ds:List Nat):nz (cs++ds)=nz cs++nz ds:=by simp[nz,iv]
theorem qnj(w:World)(base:Nat)(v:Value)(ys:List ByteArray)(z:ByteArray)(hown:w.ownsRow base 9 1 v ys.length (sv ys))(hb:ys.length+1≤1000000000)(hbase:base≤w.heap.size) :
  ∃A' c' w',(Builtin.append_ #[58,58] 58 #[v,.slice (some ⟨w.heap.size,0,none⟩) 1 1]).run Tryz.prog (w.alloc (.cells #[.string z] 9))= .ok (.slice A' (ys.length+1) c') w'∧
   w'.ownsRow base 9 1 (.slice A' (ys.length+1) c') (ys.length+1) (sv (ys++[z]))∧(w.alloc (.cells #[.string z] 9)).grownBy w' v.ownBlock∧
   ((Value.slice A' (ys.length+1) c').ownBlock=v.ownBlock∨(Value.slice A' (ys.length+1) c').ownBlock=some (w.heap.size+1)):=by
 obtain⟨i0,hi0,hz0,hz1,hz2⟩:=info_parts Tryz.infoStr
 have hr:Rd (w.alloc (.cells #[.string z] 9)) 0 (w.heap.size+1) (some ⟨w.heap.size,0,none⟩) 1 (sv [z]):=by
  refine⟨by simp[sv],by simp[maxLen],fun _=>⟨w.heap.size,0,rfl,qi _,by omega,fun j u hu => ?_⟩⟩
  rw[xa,(j6.new w 9 #[.string z]).cell]
  simpa[sv] using hu
 obtain⟨A',c',w',hrun,h2,h3,h4⟩:=ui (P:=Tryz.prog) (w.alloc (.cells #[.string z] 9)) base 58 58 9 i0 _ 16 Tryz.underlying58 hi0 hz0 hz1 hz2 rfl v ys.length (sv ys) (hown.alloc _) _ _ _ _ (sv [z]) hr (sv_one _)
  (by simp only[sv,q8,jd,maxLen];omega) (by simp only[sv,q8,jd];omega) (by simp;omega)
 rw[show(sv [z]).length=1 from rfl] at hrun h2 h4
 exact⟨A',c',w',hrun,by rw[qp3];exact h2,h3,by rwa [show(w.alloc (.cells #[.string z] 9)).heap.size=w.heap.size+1 by simp] at h4⟩
theorem append_one_at(w:World)(base:Nat)(v:Value)(cs:List Nat)(hown:w.ownsRow base 3 1 v cs.length (nz cs))(hb:cs.length+1≤1000000000)(hbase:base≤w.heap.size) :
  ∃A' c' w',(Builtin.append_ #[64,64] 64 #[v,.slice (some ⟨w.heap.size,0,none⟩) 1 1]).run Tryz.prog (w.alloc (.cells #[.int .i64 1] 3))= .ok (.slice A' (cs.length+1) c') w'∧
   w'.ownsRow base 3 1 (.slice A' (cs.length+1) c') (cs.length+1) (nz (cs++[1]))∧(w.alloc (.cells #[.int .i64 1] 3)).grownBy w' v.ownBlock∧
   ((Value.slice A' (cs.length+1) c').ownBlock=v.ownBlock∨(Value.slice A' (cs.length+1) c').ownBlock=some (w.heap.size+1)):=by
 obtain⟨i0,hi0,hz0,hz1,hz2⟩:=info_parts Tryz.infoI64
 have hr:Rd (w.alloc (.cells #[.int .i64 1] 3)) 0 (w.heap.size+1) (some ⟨w.heap.size,0,none⟩) 1 (nz [1]):=by
  refine⟨by simp[nz,iv],by simp[maxLen],fun _=>⟨w.heap.size,0,rfl,qi _,by omega,fun j u hu => ?_⟩⟩
  rw[xa,(j6.new w 3 #[.int .i64 1]).cell]
  simpa[nz,iv] using hu
 obtain⟨A',c',w',hrun,h2,h3,h4⟩:=ui (P:=Tryz.prog) (w.alloc (.cells #[.int .i64 1] 3)) base 64 64 3 i0 _ 8 Tryz.underlying64 hi0 hz0 hz1 hz2 rfl v cs.length (nz cs) (hown.alloc _) _ _ _ _ (nz [1]) hr (iv_one _)
  (by rw[qqc];simp only[jd,maxLen];omega) (by rw[qqc];simp only[jd];omega) (by simp;omega)
 rw[show(nz [1]).length=1 from rfl] at hrun h2 h4
 exact⟨A',c',w',hrun,by rw[nz_append];exact h2,h3,by rwa [show(w.alloc (.cells #[.int .i64 1] 3)).heap.size=w.heap.size+1 by simp] at h4⟩
theorem mem_bytL2{ns:List ByteArray}{s:ByteArray}(h:s.data.toList∈qm ns):∃j,∃hj:j<ns.length,ns[j]=s:=by
 obtain⟨j,hj,he⟩:=zq h
 rw[qx] at hj
 rw[yq ns j hj] at he
 refine⟨j,hj,?_⟩
 have h2:(⟨ns[j].data.toList.toArray⟩:ByteArray)=⟨s.data.toList.toArray⟩:=by rw[he]
 exact ByteArray.ext (by simpa using h2)
theorem add_any{w:World}(base:Nat)(ns:List ByteArray)(cs:List Nat)(s:ByteArray){A B:Option Addr}{c d n:Nat}(hn:n=ns.length)(h:Two w base (.slice A n c) (.slice B n d) ns cs)(P:List (List UInt8))(hP:Cnt P (qm ns) cs)(hPl:P.length≤100000000)(hbase:base≤w.heap.size) :
  Calls Tryz.prog 197 #[.slice A n c,.slice B n d,.string s] w fun r w'=>∃(ns':List ByteArray) (cs':List Nat) (A' B':Option Addr) (c' d' n':Nat),r= .returned (.tuple #[.slice A' n' c',.slice B' n' d'])∧n'=ns'.length∧
   Two w' base (.slice A' n' c') (.slice B' n' d') ns' cs'∧Cnt (P++[s.data.toList]) (qm ns') cs'∧Below base w w':=by
 subst hn
 have hln:ns.length=cs.length:=by have:=hP.len;rwa [qx] at this
 have hlp:ns.length≤100000000:=by have:=hP.few;rw[qx] at this;omega
 have HR1:=qa (Rd.own h.o1)
 have H:=qa h
 have HC:=qa hP
 have HLN:=qa hln
 have hlc:cs.length≤100000000:=by omega
 clear h hP hln
 go_enter Tryz.func197,Tryz.ntmps197
 go_wp2_with fail
 go_loopw [8] (fun x8 wr=>∃k m:Nat,k≤ns.length∧x8= .int .i64 (k:Int)∧(∀j (hj:j<ns.length),j<k→ns[j]≠s)∧wr=w.drewN m) (fun i _=>ns.length-(intOf i).toNat)
 case atStart=>exact⟨0,0,qi _,rfl,fun j _ h=>absurd h (jp j),rfl⟩
 case round =>
  obtain⟨k,m,hk,rfl,hno,rfl⟩:=hrel
  have HNO:=qa hno
  clear hno
  by_cases hlt:k<ns.length
  ·
   have ik:(k:Int)<(ns.length:Int):=by omega
   obtain⟨b,off,rfl,_,_,hcell⟩:=HR1.out.str hlt
   by_cases he:ns[k]=s
   ·
    have e1:(ns[k].toList==s.toList)=true:=by rw[he];exact beq_self_eq_true _
    have e2:ns[k].toList=s.toList:=by rw[he]
    have hkc:k<cs.length:=by have:=HLN.out;omega
    have HCN:Hid (Cnt (P++[s.data.toList]) (qm ns) (cs.set k (cs[k]+1))):=by
     have h2:=HC.out.old (i:=k) (by rw[qx];exact hlt) hkc
     rw[yq ns k hlt,he] at h2
     exact h2
    have hlow:cs[k]≤100000000:=ze (HC.out.low hkc) hPl
    obtain⟨g,rfl⟩:∃g,B=some ⟨g,0,none⟩:=by
     rcases H.out.o2.2 with ⟨hv,h0⟩ | ⟨g,cap,cur,hv,_⟩
     ·
      have h1:=qqc cs
      have h2:=H.out.o2.1
      omega
     ·
      injection hv with h1 h2 h3
      exact⟨g,h1⟩
    have hcell2:w.cell? ⟨g,0+k,none⟩=some (.int .i64 (cs[k]:Int)):=by
     rw[xa]
     have hc9:=H.out.o2.cells (g:=g) (by simp[Value.ownBlock]) k (.int .i64 (cs[k]:Int)) (by simp[nz,iv,hkc])
     have ha9:(⟨g,0,none⟩:Addr).add k=⟨g,k,none⟩:=by unfold Addr.add;by_cases h0:k=0 <;> simp[h0]
     rw[ha9] at hc9
     exact hc9
    have hcell3:w.cell? ⟨g,k,none⟩=some (.int .i64 (cs[k]:Int)):=by
     rw[xa] at hcell2
     exact hcell2
    have hfr:w.frozen? ⟨g,k,none⟩=false:=by
     have h1:=H.out.o2
     rw[HLN.out] at h1
     exact h1.frozenAt k
    have hbg:base≤g:=(zk H.out.o2 (k:=g) (by simp[Value.ownBlock])).1
    have HT:Hid (Two ((w.drewN m).setCell ⟨g,k,none⟩ (.int .i64 ((cs[k]:Int)+1))) base (.slice (some ⟨b,off,none⟩) ns.length c) (.slice (some ⟨g,0,none⟩) ns.length d) ns (cs.set k (cs[k]+1))∧Below base w ((w.drewN m).setCell ⟨g,k,none⟩ (.int .i64 ((cs[k]:Int)+1)))):=by
     have hT:=(H.out.drewN m).set HLN.out k (cs[k]+1)
     rw[show((cs[k]+1:Nat):Int)=(cs[k]:Int)+1 by omega] at hT
     exact⟨hT,(zg (Below.refl _ _) m).setCell hbg _⟩
    clear he
    generalize cs[k]=z at *
    generalize ns[k]=t at *
    go_wp2_with fail
    go_ret2
    exact⟨ns,_,_,_,c,d,ns.length,rfl,rfl,HT.out.1,HCN.out,HT.out.2⟩
   ·
    have e1:(ns[k].toList==s.toList)=false:=by
     rw[qr,ne_eq,jf,jf]
     exact fun e=>he (ByteArray.ext (Array.toList_inj.1 e))
    have e2:¬ns[k].toList=s.toList:=by
     rw[jf,jf]
     exact fun e=>he (ByteArray.ext (Array.toList_inj.1 e))
    have HNO2:Hid (∀j (hj:j<ns.length),j<k+1→ns[j]≠s):=fun j hj hjk=>by
     rcases xc j k with h2 | h2
     ·
      exact HNO.out j hj h2
     ·
      have:j=k:=by omega
      subst this
      exact he
    clear he
    generalize ns[k]=t at *
    go_wp2_with fail
    go_roundw
    case rel=>exact⟨k+1,m,by omega,by go_num,HNO2.out,rfl⟩
    case measure=>simp[intOf] <;> omega
  ·
   have ik:¬(k:Int)<(ns.length:Int):=by omega
   have HCN:Hid (Cnt (P++[s.data.toList]) (qm (ns++[s])) (cs++[1])):=by
    have h2:=HC.out.new (s:=s.data.toList) (fun hx=>by
     obtain⟨j,hj,e⟩:=mem_bytL2 hx
     exact HNO.out j hj (by omega) e)
    have h3:qm (ns++[s])=qm ns++[s.data.toList]:=by simp[qm]
    rw[h3]
    exact h2
   have HT:=qa (H.out.drewN m)
   have hb0:Below base w (w.drewN m):=zg (Below.refl _ _) m
   have hz0:base≤(w.drewN m).heap.size:=hbase
   generalize w.drewN m=w0 at *
   obtain⟨A2,c2,w2,hrun2,ho2,hg2,hB2⟩:=qnj w0 base _ ns s HT.out.o1 (by omega) hz0
   have hz2:base≤w2.heap.size:=by have:=hg2.size;simp at this;omega
   have hob:w2.ownsRow base 3 1 (.slice B ns.length d) cs.length (nz cs):=(HT.out.o2.alloc _).kept hg2 (by
    cases hB:(Value.slice B ns.length d).ownBlock with
    | none=>exact .inl rfl
    | some g=>exact .inr fun e=>HT.out.ap g e.symm hB)
   obtain⟨A3,c3,w3,hrun3,ho3,hg3,hB3⟩:=append_one_at w2 base _ cs hob (by omega) hz2
   have HR2:=qa hrun2
   have HFIN:Hid (Two w3 base (.slice A2 (ns.length+1) c2) (.slice A3 (ns.length+1) c3) (ns++[s]) (cs++[1])∧Below base w w3):=by
    have hs2:(w0.alloc (.cells #[.string s] 9)).heap.size=w0.heap.size+1:=by simp
    have hs3:(w2.alloc (.cells #[.int .i64 1] 3)).heap.size=w2.heap.size+1:=by simp
    have hb2:Below base w w2:=(hb0.alloc hz0 _).grown hg2 (by omega) (fun q hq=>(zk HT.out.o1 hq).1)
    have hg2s:=hg2.size
    refine⟨⟨?_,by rw[HLN.out,qd];exact ho3,?_⟩,(hb2.alloc hz2 _).grown hg3 (by omega) (fun q hq=>(zk hob hq).1)⟩
    ·
     rw[qd]
     refine(ho2.alloc _).kept hg3 ?_
     cases hA:(Value.slice A2 (ns.length+1) c2).ownBlock with
     | none=>exact .inl rfl
     | some q =>
      right
      intro e
      rcases hB2 with h1 | h1
      ·
       exact HT.out.ap q (h1 ▸ hA) e.symm
      ·
       rw[h1] at hA
       injection hA with hA
       have:=(zk HT.out.o2 e.symm).2
       omega
    ·
     intro q h1 h2
     have hq:=(zk ho2 h1).2
     rcases hB3 with h3 | h3
     ·
      have h2':(Value.slice B ns.length d).ownBlock=some q:=by
       rw[←h3]
       cases A3 <;> exact h2
      rcases hB2 with h4 | h4
      ·
       exact HT.out.ap q (h4 ▸ h1) h2'
      ·
       rw[h4] at h1
       injection h1 with h1
       have:=(zk HT.out.o2 h2').2
       omega
     ·
      have h2':(Value.slice A3 (cs.length+1) c3).ownBlock=some q:=by cases A3 <;> exact h2
      rw[h3] at h2'
      injection h2' with h2'
      omega
   have hl3:=HLN.out
   rw[←hl3] at hrun3
   have HR3:=qa hrun3
   clear hl3
   clear hrun2 hrun3 ho2 hg2 hB2 hob ho3 hg3 hB3
   go_wp2_with (at_builtin;refine wpList_append_run rfl _ _ _ _ rfl rfl rfl HR2.out ?_;refine qaz ?_)
   refine⟨?_⟩
   go_wp2_with (at_builtin;refine wpList_append_run rfl _ _ _ _ rfl rfl rfl HR3.out ?_)
   go_ret2
   exact⟨ns++[s],cs++[1],A2,A3,c2,c3,ns.length+1,rfl,by simp,HFIN.out.1,HCN.out,HFIN.out.2⟩
theorem gain_at{bag:List (List UInt8)}{ns:List ByteArray}{cs:List Nat}(hc:Cnt bag (qm ns) cs){i:Nat}(hi:i<ns.length)(hic:i<cs.length):qnf bag ns[i].data.toList=cs[i]*ns[i].size:=by
 have:=hc.cnt i (by rw[qx];exact hi)
 rw[yq ns i hi] at this
 rw[qnf,←this,qgq]
theorem wrap_gain{z s:Nat}(hz:z≤1000000)(hs:s≤8):IntKind.i64.wrap ((z:Int)*(s:Int))=((z*s:Nat):Int)∧wrap64 ((z:Int)*(s:Int))=((z*s:Nat):Int):=by
 have h1:z*s≤1000000*8:=vz hz hs
 rw[←qar]
 exact⟨z8 _ (by omega),ky _ (by omega)⟩
theorem spot_of{w:World}{lo hi:Nat}{b1 o1 b2 o2 c1 d1:Nat}{ns:List ByteArray}{cs:List Nat}{i:Nat}(h1:Rd w lo hi (some ⟨b1,o1,none⟩) c1 (sv ns))(h2:Rd w lo hi (some ⟨b2,o2,none⟩) d1 (nz cs))(hi1:i<ns.length)(hi2:i<cs.length)
  (hs:ns[i].size≤8) (hz:cs[i]≤1000000):Spot w b1 o1 b2 o2 i ns[i] cs[i] (cs[i]*ns[i].size):=by
 obtain⟨b,off,he,_,_,hc1⟩:=h1.str hi1
 injection he with he
 injection he with e1 e2
 subst e1 e2
 obtain⟨b,off,he,_,_,hc2⟩:=Rd.num (zs:=cs.map fun(n:Nat)=>(n:Int)) h2 (k:=i) (by rw[q8];exact hi2)
 injection he with he
 injection he with e1 e2
 subst e1 e2
 rw[yz] at hc2
 obtain⟨hw1,hw2⟩:=wrap_gain hz hs
 exact⟨hc1,hc2,hs,hz,by rw[hw1],by rw[hw2],ze (vz hz hs) (by decide)⟩
theorem rival{bag:List (List UInt8)}{ns:List ByteArray}{cs ks:List Nat}{i k:Nat}(hc:Cnt bag (qm ns) cs)(hi:i<ns.length)(hic:i<cs.length)(hk:k<ns.length)(hkc:k<cs.length)(hki:k<i)(hkn:k∉ks)(hin:i∉ks)
  (hbt:∀j (hj:j<(qm ns).length),j<i→j∉ks→j≠k→qgt bag ((qm ns)[k]'(by rw[qx];exact hk)) (qm ns)[j]) :
  (cs[k]*ns[k].size<cs[i]*ns[i].size→qme bag (qm ns) ks (i+1) (i:Int))∧
  (cs[i]*ns[i].size=cs[k]*ns[k].size→yr ns[i].data.toList ns[k].data.toList<0→qme bag (qm ns) ks (i+1) (i:Int))∧
  (cs[i]*ns[i].size=cs[k]*ns[k].size→¬yr ns[i].data.toList ns[k].data.toList<0→qme bag (qm ns) ks (i+1) (k:Int))∧
  (cs[i]*ns[i].size<cs[k]*ns[k].size→qme bag (qm ns) ks (i+1) (k:Int)):=by
 have hk2:k<(qm ns).length:=by rw[qx];exact hk
 have hi2:i<(qm ns).length:=by rw[qx];exact hi
 have hwin:qgt bag ns[i].data.toList ns[k].data.toList→qme bag (qm ns) ks (i+1) (i:Int):=fun h=>lead_win hk2 hbt hi2 hin (by rw[yq ns i hi,yq ns k hk];exact h)
 have hlose:qgt bag ns[k].data.toList ns[i].data.toList→qme bag (qm ns) ks (i+1) (k:Int):=fun h=>lead_lose hk2 hki hkn hbt hi2 (by rw[yq ns i hi,yq ns k hk];exact h)
 have hne:yr ns[i].data.toList ns[k].data.toList≠0:=fun e=>by
  have e2:=qcr e
  rw[←yq ns i hi,←yq ns k hk] at e2
  have:=(List.getElem_inj hc.once).1 e2
  omega
 have htn:=qdk ns[i].data.toList ns[k].data.toList
 unfold qgt at hwin hlose
 rw[gain_at hc hi hic,gain_at hc hk hkc] at hwin hlose
 rw[htn] at hlose
 exact⟨fun h=>hwin (Or.inl h),fun h1 h2=>hwin (Or.inr ⟨h1,h2⟩),fun h1 h2=>hlose (Or.inr ⟨h1.symm,by omega⟩),fun h=>hlose (Or.inl h)⟩
theorem lit_add(g k:Nat):(⟨g,0,none⟩:Addr).add k=⟨g,k,none⟩:=by unfold Addr.add;by_cases h0:k=0 <;> simp[h0]
theorem chosen{wv:World}{u k n m c5:Nat}{A5:Option Addr}{ks:List Nat}{bs:List ByteArray}(t:ByteArray)(hO:wv.ownsRow u 4 1 (.slice (some ⟨u,0,none⟩) n n) n (lv (usL n ks)))(hB:wv.ownsRow (u+1) 9 1 (.slice A5 m c5) m (sv bs))(hm:m=bs.length)
  (hk:k<n) (hn:k∉ks) (h254:m≤254) (hz:u+1≤wv.heap.size) :
  wv.frozen? ⟨u,k,none⟩=false∧wv.cell? ⟨u,k,none⟩=some (.bool false)∧∃A6 c6 w6,(Builtin.append_ #[58,58] 58 #[.slice A5 m c5,.slice (some ⟨wv.heap.size,0,none⟩) 1 1]).run Tryz.prog ((wv.setCell ⟨u,k,none⟩ (.bool true)).alloc (.cells #[.string t] 9))= .ok (.slice A6 (m+1) c6) w6∧
   w6.ownsRow u 4 1 (.slice (some ⟨u,0,none⟩) n n) n (lv (usL n (ks++[k])))∧w6.ownsRow (u+1) 9 1 (.slice A6 (m+1) c6) (m+1) (sv (bs++[t]))∧Below u wv w6∧u+1≤w6.heap.size:=by
 subst hm
 have hz3:(wv.setCell ⟨u,k,none⟩ (.bool true)).heap.size=wv.heap.size:=by simp[World.setCell]
 have hcx:=hO.cells (g:=u) (by simp[Value.ownBlock]) k (.bool (decide (k∈ks))) (by rw[lv_get _ _ (by rw[qka];exact hk),usL_get _ hk])
 rw[lit_add,ql hn] at hcx
 obtain⟨hO3,hg3⟩:=hO.stored k (.bool true)
 rw[←lv_set,usL_set ks hk] at hO3
 have hB3:=ownsRow_setCell_other hB (a:=⟨u,k,none⟩) (fun e=>by have:=(zk hB e).1;simp only at this;omega) (.bool true)
 obtain⟨A6,c6,w6,hrun,ho6,hg6,_⟩:=qnj (wv.setCell ⟨u,k,none⟩ (.bool true)) (u+1) (.slice A5 bs.length c5) bs t hB3 (by omega) (by rw[hz3];exact hz)
 rw[hz3] at hrun
 have hb3:Below u wv (wv.setCell ⟨u,k,none⟩ (.bool true)):=(Below.refl u wv).grown hg3 (by omega) (fun g hg=>by simp[Value.ownBlock] at hg;omega)
 have hb6:Below u wv w6:=(hb3.alloc (by rw[hz3];omega) _).grown hg6 (by simp;omega) (fun g hg=>by have:=(zk hB3 hg).1;omega)
 refine⟨hO.frozenAt k,hcx,A6,c6,w6,hrun,(hO3.alloc _).kept hg6 (Or.inr fun e => ?_),ho6,hb6,?_⟩
 ·
  have h2:(Value.slice A5 bs.length c5).ownBlock=some u:=e.symm
  have:=(zk hB3 h2).1
  omega
 ·
  have:=hg6.size
  rw[yl,hz3] at this
  omega
theorem refOrder_any{w:World}(l:List ByteArray){c:Nat}{A:Option Addr}(h:Rd w 0 w.heap.size A c (sv l))(h1k:∀s∈l,s.size≤100000)(hln:l.length≤100000) :
  Calls Tryz.prog 198 #[.slice A l.length c] w fun r w'=>∃t A' c',r= .returned (.slice A' t.length c')∧IsOrder (qm l) t∧w'.ownsRow w.heap.size 9 1 (.slice A' t.length c') t.length (sv (j7 t))∧Below w.heap.size w w':=by
 have hl:=h.len
 have hm:=h.cap
 rw[yg] at hl
 unfold maxLen at hm
 have H:=qa h
 have H1:Hid (∀k (hk:k<l.length),l[k].size≤100000):=fun k hk=>h1k _ (qj hk)
 have HBL:=qa (qx l)
 clear h h1k
 go_enter Tryz.func198,Tryz.ntmps198
 go_wp2_with fail
 go_loopw [3] (fun x3 wr=>∃(os:List ByteArray) (n:Nat) (A':Option Addr) (c':Nat),x3= .slice A' n c'∧os.length=n∧n≤255∧(∀s∈os,s.size≤100000)∧Ord (qm l) (qm os)∧wr.ownsRow w.heap.size 9 1 (.slice A' n c') n (sv os)∧Below w.heap.size w wr) (fun x3 _=>(match x3 with | .slice _ n _=>255-n | _=>0))
 case atStart=>exact⟨[],0,none,0,rfl,rfl,by omega,fun s hs=>(by cases hs),Ord.nil _,zh _ _ _ _,Below.refl _ _⟩
 case round =>
  obtain⟨os,n,A',c',rfl,hon,hn5,hos,hord,hown,hb⟩:=hrel
  obtain⟨wo,hwo⟩:∃wo,wo=wr:=⟨_,rfl⟩
  subst hwo
  have HON:=qa hon
  have HOS:=qa hos
  have HOR:=qa hord
  have HO:=qa hown
  have HB:=qa hb
  have hsz:=hb.size
  clear hon hos hord hown hb
  by_cases hn0:n=0
  ·
   subst hn0
   go_wp2_with fail
   go_loopw [4,5] (fun x4 x5 wr=>∃(k m:Nat) (b:ByteArray),k≤l.length∧x5= .int .i64 (k:Int)∧x4= .string b∧b.size≤100000∧Inn (qm l) (qm os) k b.data.toList∧wr=wo.drewN m) (fun _ x5 _=>l.length-(intOf x5).toNat)
   case atStart=>exact⟨0,0,⟨#[]⟩,qi _,rfl,rfl,qi _,inn_zero _ _,rfl⟩
   case round =>
    obtain⟨k,m,b,hk,rfl,rfl,hbs,hinn,rfl⟩:=hrel
    have HI:=qa hinn
    clear hinn
    by_cases hkl:k<l.length
    ·
     have ik:(k:Int)<(l.length:Int):=by omega
     obtain⟨bb,off,rfl,_,hbh,hcell0⟩:=H.out.str hkl
     have hcell:(wo.drewN m).cell? ⟨bb,off+k,none⟩=some (.string l[k]):=(HB.out.cell (p:=⟨bb,off+k,none⟩) hbh).trans hcell0
     clear hcell0
     have hs1:=H1.out k hkl
     have hgk:(qm l)[k]'(by rw[HBL.out];exact hkl)=l[k].data.toList:=yq l k hkl
     have hkl2:k<(qm l).length:=by rw[HBL.out];exact hkl
     have hos:=ok_size l[k]
     have HSKIP:Hid (¬qji (qm os) l[k].data.toList→Inn (qm l) (qm os) (k+1) b.data.toList):=fun hc=>inn_skip HI.out hkl2 (by rw[hgk];exact hc)
     have HFIRST:Hid (b.data.toList=[]→qji (qm os) l[k].data.toList→Inn (qm l) (qm os) (k+1) l[k].data.toList):=fun he hc=>by
      have:=inn_first (by rw[←he];exact HI.out) hkl2 (by rw[hgk];exact hc)
      rw[hgk] at this
      exact this
     have HLESS:Hid (b.data.toList≠[]→qji (qm os) l[k].data.toList→yr l[k].data.toList b.data.toList<0→Inn (qm l) (qm os) (k+1) l[k].data.toList):=fun he hc hl=>by
      have:=inn_less HI.out he hkl2 (by rw[hgk];exact hc) (by rw[hgk];exact hl)
      rw[hgk] at this
      exact this
     have HKEEP:Hid (b.data.toList≠[]→¬yr l[k].data.toList b.data.toList<0→Inn (qm l) (qm os) (k+1) b.data.toList):=fun he hl=>inn_keep HI.out he hkl2 (by rw[hgk];exact hl)
     clear hgk hkl2
     generalize l[k]=s at *
     by_cases h1:s.size<1
     ·
      have i1:¬(1:Int)≤(s.size:Int):=by omega
      have HIN:=qa (HSKIP.out (fun hc=>by have:=hc.1;rw[hos,ql (p:=1≤s.size) (by omega)] at this;cases this))
      clear hos
      go_wp2_with fail
      go_roundw
      case rel=>exact⟨k+1,m,b,by omega,by go_num,rfl,hbs,HIN.out,rfl⟩
      case measure=>simp[intOf] <;> omega
     ·
      have i1:(1:Int)≤(s.size:Int):=by omega
      by_cases h8:8<s.size
      ·
       have i8:¬(s.size:Int)≤8:=by omega
       have HIN:=qa (HSKIP.out (fun hc=>by have:=hc.1;rw[hos,ql (p:=s.size≤8) (by omega),Bool.and_false] at this;cases this))
       clear hos
       go_wp2_with fail
       go_roundw
       case rel=>exact⟨k+1,m,b,by omega,by go_num,rfl,hbs,HIN.out,rfl⟩
       case measure=>simp[intOf] <;> omega
      ·
       have i8:(s.size:Int)≤8:=by omega
       have HOKS:Hid (qhw s.data.toList=true):=by unfold Hid;rw[hos,qp (by omega),qp (by omega)];rfl
       clear hos
       have HCB:=qa (fun w=>qch (w:=w) s b hs1 hbs)
       have hose:os=[]:=zd HON.out
       have HC:Hid (qji (qm os) s.data.toList):=by unfold Hid;rw[hose];exact cand_nil.2 HOKS.out
       clear hose
       by_cases hb0:b.data.toList=[]
       ·
        have hbe:b.toList.isEmpty=true:=by rw[jf,hb0];rfl
        have HIN:=qa (HFIRST.out hb0 HC.out)
        clear hb0
        go_wp2_with fail
        go_roundw
        case rel=>exact⟨k+1,_,s,by omega,by go_num,rfl,hs1,HIN.out,rfl⟩
        case measure=>simp[intOf] <;> omega
       ·
        have hbe:b.toList.isEmpty=false:=by rw[jf];exact xi.2 hb0
        have HL2:=qa (HLESS.out hb0 HC.out)
        have HK2:=qa (HKEEP.out hb0)
        clear hb0
        generalize yr s.data.toList b.data.toList=y at *
        by_cases hy:y<0
        ·
         have HIN:=qa (HL2.out hy)
         go_wp2_with fail
         refine(HCB.out _).mono ?_
         rintro r wz ⟨rfl,my,rfl⟩
         go_wp2_with fail
         go_roundw
         case rel=>exact⟨k+1,_,s,by omega,by go_num,rfl,hs1,HIN.out,by first | rfl | (rw[zr])⟩
         case measure=>simp[intOf] <;> omega
        ·
         have HIN:Hid (Inn (qm l) (qm os) (k+1) b.data.toList):=HK2.out (by omega)
         go_wp2_with fail
         refine(HCB.out _).mono ?_
         rintro r wz ⟨rfl,my,rfl⟩
         go_wp2_with fail
         go_roundw
         case rel=>exact⟨k+1,_,b,by omega,by go_num,rfl,hbs,HIN.out,by first | rfl | (rw[zr])⟩
         case measure=>simp[intOf] <;> omega
    ·
     have ik:¬(k:Int)<(l.length:Int):=by omega
     have hke:k=l.length:=by omega
     by_cases hb0:b.data.toList=[]
     ·
      have hbe:b.toList.isEmpty=true:=by rw[jf,hb0];rfl
      have HDN:Hid (IsOrder (qm l) (qm os)):=by
       refine HOR.out.done (fun s hs => ?_) (by rw[qx,HON.out];exact hn5)
       rcases HI.out with ⟨_,h2⟩ | ⟨h1,_,_⟩
       ·
        obtain⟨j,hj,rfl⟩:=zq hs
        exact h2 j hj (by rw[HBL.out] at hj;omega)
       ·
        exact absurd hb0 (cand_ne h1)
      have HLN:Hid ((qm os).length=0):=by unfold Hid;rw[qx,HON.out]
      have HST:Hid (j7 (qm os)=os):=qdu os
      clear hb0
      go_wp2_with fail
      go_ret
      exact⟨qm os,A',c',by rw[HLN.out];first | rfl | simp,HDN.out,by rw[HLN.out,HST.out];exact ju HO.out (fun _ _=>rfl),zg HB.out m⟩
     ·
      have hbe:b.toList.isEmpty=false:=by rw[jf];exact xi.2 hb0
      have HNX:Hid (Ord (qm l) (qm (os++[b]))):=by
       rcases HI.out with ⟨h1,_⟩ | ⟨h1,h2,h3⟩
       ·
        exact absurd h1 hb0
       ·
        unfold Hid
        rw[qiq]
        refine HOR.out.push h2 h1 fun s hs hcs => ?_
        obtain⟨j,hj,rfl⟩:=zq hs
        exact h3 j hj (by rw[HBL.out] at hj;omega) hcs
      have hod:(wo.drewN m).ownsRow w.heap.size 9 1 (.slice A' os.length c') os.length (sv os):=by rw[HON.out];exact ju HO.out (fun _ _=>rfl)
      have HOD:=qa hod
      have HBD:=qa (zg HB.out m)
      have hszd:w.heap.size≤(wo.drewN m).heap.size:=hsz
      have honl:os.length≤255:=by rw[HON.out];exact hn5
      clear hb0 hod
      generalize wo.drewN m=w5 at *
      go_wp2_with (at_builtin;refine xz (v:= .slice A' 0 c') w.heap.size os b rfl _ _ rfl rfl rfl rfl (by rw[za _ _ _ _ rfl];rfl) (by have:=HOD.out.alloc (.cells #[.string b] 9);rw[HON.out] at this ⊢;exact this) (by omega) (by simp;omega) ?_;intro A2 c2 w2 ho2 hg2)
      go_roundw
      case rel =>
       refine⟨os++[b],0+1,A2,c2,by rw[HON.out],by rw[qd,HON.out];rfl,by omega,?_,HNX.out,by rw[qd,HON.out] at ho2;exact ho2,(HBD.out.alloc hszd _).grown hg2 (by simp;omega) (fun q hq=>(zk HOD.out (by rw[HON.out];exact hq)).1)⟩
       intro s hs
       rcases zt.1 hs with hs | hs
       ·
        exact HOS.out s hs
       ·
        rw[zo.1 hs];exact hbs
      case measure=>simp[HON.out] <;> omega
  ·
   obtain⟨j,rfl⟩:∃j,n=j+1:=⟨n-1,by omega⟩
   have hjl:j<os.length:=by rw[HON.out];omega
   by_cases hlt:j+1<255
   ·
    have i255:((j:Int)+1)<255:=by omega
    go_wp2_with fail
    go_loopw [4,5] (fun x4 x5 wr=>∃(k m:Nat) (b:ByteArray),k≤l.length∧x5= .int .i64 (k:Int)∧x4= .string b∧b.size≤100000∧Inn (qm l) (qm os) k b.data.toList∧wr=wo.drewN m) (fun _ x5 _=>l.length-(intOf x5).toNat)
    case atStart=>exact⟨0,0,⟨#[]⟩,qi _,rfl,rfl,qi _,inn_zero _ _,rfl⟩
    case round =>
     obtain⟨k,m,b,hk,rfl,rfl,hbs,hinn,rfl⟩:=hrel
     have HI:=qa hinn
     clear hinn
     by_cases hkl:k<l.length
     ·
      have ik:(k:Int)<(l.length:Int):=by omega
      obtain⟨bb,off,rfl,_,hbh,hcell0⟩:=H.out.str hkl
      have hcell:(wo.drewN m).cell? ⟨bb,off+k,none⟩=some (.string l[k]):=(HB.out.cell (p:=⟨bb,off+k,none⟩) hbh).trans hcell0
      clear hcell0
      have hs1:=H1.out k hkl
      have hgk:(qm l)[k]'(by rw[HBL.out];exact hkl)=l[k].data.toList:=yq l k hkl
      have hkl2:k<(qm l).length:=by rw[HBL.out];exact hkl
      have hos:=ok_size l[k]
      have HSKIP:Hid (¬qji (qm os) l[k].data.toList→Inn (qm l) (qm os) (k+1) b.data.toList):=fun hc=>inn_skip HI.out hkl2 (by rw[hgk];exact hc)
      have HFIRST:Hid (b.data.toList=[]→qji (qm os) l[k].data.toList→Inn (qm l) (qm os) (k+1) l[k].data.toList):=fun he hc=>by
       have:=inn_first (by rw[←he];exact HI.out) hkl2 (by rw[hgk];exact hc)
       rw[hgk] at this
       exact this
      have HLESS:Hid (b.data.toList≠[]→qji (qm os) l[k].data.toList→yr l[k].data.toList b.data.toList<0→Inn (qm l) (qm os) (k+1) l[k].data.toList):=fun he hc hl=>by
       have:=inn_less HI.out he hkl2 (by rw[hgk];exact hc) (by rw[hgk];exact hl)
       rw[hgk] at this
       exact this
      have HKEEP:Hid (b.data.toList≠[]→¬yr l[k].data.toList b.data.toList<0→Inn (qm l) (qm os) (k+1) b.data.toList):=fun he hl=>inn_keep HI.out he hkl2 (by rw[hgk];exact hl)
      clear hgk hkl2
      generalize l[k]=s at *
      by_cases h1:s.size<1
      ·
       have i1:¬(1:Int)≤(s.size:Int):=by omega
       have HIN:=qa (HSKIP.out (fun hc=>by have:=hc.1;rw[hos,ql (p:=1≤s.size) (by omega)] at this;cases this))
       clear hos
       go_wp2_with fail
       go_roundw
       case rel=>exact⟨k+1,m,b,by omega,by go_num,rfl,hbs,HIN.out,rfl⟩
       case measure=>simp[intOf] <;> omega
      ·
       have i1:(1:Int)≤(s.size:Int):=by omega
       by_cases h8:8<s.size
       ·
        have i8:¬(s.size:Int)≤8:=by omega
        have HIN:=qa (HSKIP.out (fun hc=>by have:=hc.1;rw[hos,ql (p:=s.size≤8) (by omega),Bool.and_false] at this;cases this))
        clear hos
        go_wp2_with fail
        go_roundw
        case rel=>exact⟨k+1,m,b,by omega,by go_num,rfl,hbs,HIN.out,rfl⟩
        case measure=>simp[intOf] <;> omega
       ·
        have i8:(s.size:Int)≤8:=by omega
        have HOKS:Hid (qhw s.data.toList=true):=by unfold Hid;rw[hos,qp (by omega),qp (by omega)];rfl
        clear hos
        have HCB:=qa (fun w=>qch (w:=w) s b hs1 hbs)
        obtain⟨g,off2,hA,_,_,hcl⟩:=((Rd.of_own HO.out).drewN m).str hjl
        have hsz2:=HOS.out _ (qj hjl)
        have hob:qm os=qm (os.take j)++[os[j].data.toList]:=by
         rw[←qiq,←qg hjl,qo (by rw[HON.out];exact qc _)]
        have HCD:Hid (qji (qm os) s.data.toList↔0<yr s.data.toList os[j].data.toList):=by
         unfold Hid
         have h2:=HOR.out.rises
         rw[hob] at h2 ⊢
         exact cand_last h2 HOKS.out
        clear hob
        have HCA:=qa (fun w=>qch (w:=w) s os[j] hs1 hsz2)
        generalize os[j]=a at *
        generalize yr s.data.toList a.data.toList=z at *
        subst hA
        have hj0:¬((j:Int)+1=0):=by omega
        by_cases hz:0<z
        ·
         have HC:Hid (qji (qm os) s.data.toList):=HCD.out.2 hz
         go_wp2_with fail
         refine(HCA.out _).mono ?_
         rintro r wz ⟨rfl,mz,rfl⟩
         rw[zr]
         generalize m+mz=m at *
         by_cases hb0:b.data.toList=[]
         ·
          have hbe:b.toList.isEmpty=true:=by rw[jf,hb0];rfl
          have HIN:=qa (HFIRST.out hb0 HC.out)
          clear hb0
          go_wp2_with fail
          go_roundw
          case rel=>exact⟨k+1,_,s,by omega,by go_num,rfl,hs1,HIN.out,rfl⟩
          case measure=>simp[intOf] <;> omega
         ·
          have hbe:b.toList.isEmpty=false:=by rw[jf];exact xi.2 hb0
          have HL2:=qa (HLESS.out hb0 HC.out)
          have HK2:=qa (HKEEP.out hb0)
          clear hb0
          generalize yr s.data.toList b.data.toList=y at *
          by_cases hy:y<0
          ·
           have HIN:=qa (HL2.out hy)
           go_wp2_with fail
           refine(HCB.out _).mono ?_
           rintro r wz ⟨rfl,my,rfl⟩
           go_wp2_with fail
           go_roundw
           case rel=>exact⟨k+1,_,s,by omega,by go_num,rfl,hs1,HIN.out,by first | rfl | (rw[zr])⟩
           case measure=>simp[intOf] <;> omega
          ·
           have HIN:Hid (Inn (qm l) (qm os) (k+1) b.data.toList):=HK2.out (by omega)
           go_wp2_with fail
           refine(HCB.out _).mono ?_
           rintro r wz ⟨rfl,my,rfl⟩
           go_wp2_with fail
           go_roundw
           case rel=>exact⟨k+1,_,b,by omega,by go_num,rfl,hbs,HIN.out,by first | rfl | (rw[zr])⟩
           case measure=>simp[intOf] <;> omega
        ·
         have HIN:=qa (HSKIP.out (fun hc=>hz (HCD.out.1 hc)))
         have hz2:¬(0<z):=hz
         go_wp2_with fail
         refine(HCA.out _).mono ?_
         rintro r wz ⟨rfl,mz,rfl⟩
         go_wp2_with fail
         go_roundw
         case rel=>exact⟨k+1,_,b,by omega,by go_num,rfl,hbs,HIN.out,by first | rfl | (rw[zr])⟩
         case measure=>simp[intOf] <;> omega
     ·
      have ik:¬(k:Int)<(l.length:Int):=by omega
      have hke:k=l.length:=by omega
      by_cases hb0:b.data.toList=[]
      ·
       have hbe:b.toList.isEmpty=true:=by rw[jf,hb0];rfl
       have HDN:Hid (IsOrder (qm l) (qm os)):=by
        refine HOR.out.done (fun s hs => ?_) (by rw[qx,HON.out];exact hn5)
        rcases HI.out with ⟨_,h2⟩ | ⟨h1,_,_⟩
        ·
         obtain⟨j,hj,rfl⟩:=zq hs
         exact h2 j hj (by rw[HBL.out] at hj;omega)
        ·
         exact absurd hb0 (cand_ne h1)
       have HLN:Hid ((qm os).length=(j+1)):=by unfold Hid;rw[qx,HON.out]
       have HST:Hid (j7 (qm os)=os):=qdu os
       clear hb0
       go_wp2_with fail
       go_ret
       exact⟨qm os,A',c',by rw[HLN.out];first | rfl | simp,HDN.out,by rw[HLN.out,HST.out];exact ju HO.out (fun _ _=>rfl),zg HB.out m⟩
      ·
       have hbe:b.toList.isEmpty=false:=by rw[jf];exact xi.2 hb0
       have HNX:Hid (Ord (qm l) (qm (os++[b]))):=by
        rcases HI.out with ⟨h1,_⟩ | ⟨h1,h2,h3⟩
        ·
         exact absurd h1 hb0
        ·
         unfold Hid
         rw[qiq]
         refine HOR.out.push h2 h1 fun s hs hcs => ?_
         obtain⟨j,hj,rfl⟩:=zq hs
         exact h3 j hj (by rw[HBL.out] at hj;omega) hcs
       have hod:(wo.drewN m).ownsRow w.heap.size 9 1 (.slice A' os.length c') os.length (sv os):=by rw[HON.out];exact ju HO.out (fun _ _=>rfl)
       have HOD:=qa hod
       have HBD:=qa (zg HB.out m)
       have hszd:w.heap.size≤(wo.drewN m).heap.size:=hsz
       have honl:os.length≤255:=by rw[HON.out];exact hn5
       clear hb0 hod
       generalize wo.drewN m=w5 at *
       go_wp2_with (at_builtin;refine xz (v:= .slice A' (j+1) c') w.heap.size os b rfl _ _ rfl rfl rfl rfl (by rw[za _ _ _ _ rfl];rfl) (by have:=HOD.out.alloc (.cells #[.string b] 9);rw[HON.out] at this ⊢;exact this) (by omega) (by simp;omega) ?_;intro A2 c2 w2 ho2 hg2)
       go_roundw
       case rel =>
        refine⟨os++[b],(j+1)+1,A2,c2,by rw[HON.out],by rw[qd,HON.out];rfl,by omega,?_,HNX.out,by rw[qd,HON.out] at ho2;exact ho2,(HBD.out.alloc hszd _).grown hg2 (by simp;omega) (fun q hq=>(zk HOD.out (by rw[HON.out];exact hq)).1)⟩
        intro s hs
        rcases zt.1 hs with hs | hs
        ·
         exact HOS.out s hs
        ·
         rw[zo.1 hs];exact hbs
       case measure=>simp[HON.out] <;> omega
   ·
    have i255:¬((j:Int)+1)<255:=by omega
    have hj5:j+1=255:=by omega
    have HDN:Hid (IsOrder (qm l) (qm os)):=HOR.out.full (by rw[qx,HON.out];exact hj5)
    have HLN:Hid ((qm os).length=j+1):=by unfold Hid;rw[qx,HON.out]
    have HST:Hid (j7 (qm os)=os):=qdu os
    clear hj5
    go_wp2_with fail
    go_ret
    exact⟨qm os,A',c',by rw[HLN.out];first | rfl | simp,HDN.out,by rw[HLN.out,HST.out];exact HO.out,HB.out⟩
end Go.Proofs.YtnjkipnklpkaoaaGreat
