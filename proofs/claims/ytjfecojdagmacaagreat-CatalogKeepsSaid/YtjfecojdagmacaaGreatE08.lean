/-
  Lemmas.
-/
import Derived.Test.YtjfecojdagmacaaGreatE07
import Derived.LoopIn
import Derived.LoopNIn
import Derived.OwnWalk
import Derived.OwnWalkIn
import Derived.RangeFuncBound
import Derived.RangeFuncBox
import Derived.RangeFuncCalls
import Derived.RangeFuncLeaves
import Derived.RangeFuncNested
import Derived.Shelf.Abstract
import Derived.Shelf.RegionOpen
import Derived.TacticsInMore
namespace Go.Proofs.YtjfecojdagmacaaGreat
open Go.RowKit
set_option maxRecDepth 20000
set_option maxHeartbeats 16000000
set_option linter.unusedSimpArgs false
set_option linter.unusedVariables false
structure Part where
 A:Option Addr
 c:Nat
 bs:List UInt8
def Part.val(p:Part):Value:= .slice p.A p.bs.length p.c
def Part.rd(p:Part)(w:World)(hi:Nat):Prop:=Rd w 0 hi p.A p.c (bv p.bs)
def yg(ps:List Part):List UInt8:=ps.flatMap (·.bs)
theorem qml(ps:List Part){k:Nat}(hk:k<ps.length):yg (ps.take (k+1))=yg (ps.take k)++ps[k].bs:=by
 unfold yg
 rw[qi hk,qbm]
 simp
theorem Tryz.infoBs:(Tryz.prog.info? 36).map (fun i=>(i.zero,i.size,i.bytes))=some (some (.slice none 0 0),1,24):=by kernel_rfl
def pv(ps:List Part):List Value:=ps.map Part.val
theorem qdc(ps:List Part):(pv ps).length=ps.length:=by simp[pv]
theorem pv_append(a b:List Part):pv (a++b)=pv a++pv b:=by simp[pv]
theorem pv_get(ps:List Part)(k:Nat)(h:k<ps.length):(pv ps)[k]? = some (.slice ps[k].A ps[k].bs.length ps[k].c):=by
 simp[pv,qe h,Part.val]
theorem pv_one(ps:List Part):∀u∈pv ps,u.oneCell'=true:=by
 intro u hu
 obtain⟨p,_,rfl⟩:=za.1 hu
 rfl
def qi6(ps:List Part):List (List UInt8):=ps.map (·.bs)
theorem qho(ps:List Part):(qi6 ps).length=ps.length:=by simp[qi6]
def qm3(w:World)(lo hi:Nat)(ps:List Part):Prop:=∀p∈ps,Rd w lo hi p.A p.c (bv p.bs)
section
variable {w w':World}{lo hi lo' hi' B:Nat}{ps:List Part}
theorem qm3.nil(w:World)(lo hi:Nat):qm3 w lo hi []:=fun p hp=>(by cases hp)
theorem qm3.below(h:qm3 w lo hi ps)(hb:Below B w w')(hB:hi≤B):qm3 w' lo hi ps:=fun p hp=>(h p hp).below hb hB
theorem qm3.wide(h:qm3 w lo hi ps)(h1:lo'≤lo)(h2:hi≤hi'):qm3 w lo' hi' ps:=fun p hp=>(h p hp).wide h1 h2
theorem qm3.grown{row:Option Nat}(h:qm3 w lo hi ps)(hg:w.grownBy w' row)(hB:hi≤w.heap.size)(hr:∀g,row=some g→g<lo∨hi≤g):qm3 w' lo hi ps:=fun p hp=>(h p hp).grown hg hB hr
theorem qm3.push(h:qm3 w lo hi ps){p:Part}(hp:Rd w lo hi p.A p.c (bv p.bs)):qm3 w lo hi (ps++[p]):=fun q hq=>by
 rcases zn.1 hq with hq | hq
 ·
  exact h q hq
 ·
  rw[q8.1 hq];exact hp
theorem qm3.keep(h:qm3 w lo hi ps)(hk:∀p:Addr,lo≤p.block→p.block<hi→w'.cell? p=w.cell? p):qm3 w' lo hi ps:=fun p hp=>(h p hp).keep hk
end
structure PR (w:World) (base:Nat) (v:Value) (n:Nat) (ps:List Part):Prop where
 len:ps.length=n
 own:w.ownsRow base 36 1 v n (pv ps)
 rd:qm3 w base w.heap.size ps
 apart:∀p∈ps,0<p.bs.length→∀b off,p.A=some ⟨b,off,none⟩→v.ownBlock≠some b
section
variable {w w':World}{base n:Nat}{v:Value}{ps:List Part}
theorem PR.nil(w:World)(base:Nat):PR w base (.slice none 0 0) 0 []:=⟨rfl,⟨rfl,.inl ⟨rfl,rfl⟩⟩,qm3.nil _ _ _,fun p hp=>(by cases hp)⟩
theorem PR.below{B:Nat}(h:PR w base v n ps)(hb:Below B w w')(hB:w.heap.size≤B):PR w' base v n ps :=
 ⟨h.len,ji h.own hb hB,(h.rd.below hb hB).wide (qc _) hb.size,h.apart⟩
theorem PR.alloc(h:PR w base v n ps)(o:Obj):PR (w.alloc o) base v n ps:=h.below ((Below.refl _ _).alloc (qc _) o) (qc _)
theorem PR.drewN(h:PR w base v n ps)(m:Nat):PR (w.drewN m) base v n ps:=h.below (js (Below.refl _ _) m) (qc _)
theorem PR.cur{g:Nat}(h:PR w base v n ps)(hg:w.grownBy w' (some g))(hgb:g<base):PR w' base v n ps :=
 ⟨h.len,jw h.own fun k hk=>hg.block k (zk h.own hk).2 (fun e=>by injection e with e;have:=(zk h.own hk).1;omega),
  (h.rd.grown hg (qc _) fun k hk=>by cases hk;exact .inl hgb).wide (qc _) hg.size,h.apart⟩
end
theorem PR.read{w:World}{base n c:Nat}{A:Option Addr}{ps:List Part}(h:PR w base (.slice A n c) n ps):Rd w base w.heap.size A c (pv ps):=Rd.of_own h.own
theorem PR.fresh{w w5:World}{base n hi c:Nat}{v:Value}{A:Option Addr}{ps:List Part}{bs:List UInt8}(h:PR w base v n ps)(hr:Rd w5 w.heap.size hi A c (bv bs)) :
  0<bs.length→∀b off,A=some ⟨b,off,none⟩→v.ownBlock≠some b:=fun h0 b off e e2=>by
 obtain⟨b',off',e',h1,_⟩:=hr.at_ (by rw[jj];exact h0)
 rw[e] at e'
 cases e'
 have:=(zk h.own e2).2
 omega
theorem qbn{ops:Array Oper}{rest:List Oper}{o:Oper}{a:Act}{Q:Exit→Act→World→Prop}{w:World}{v:Value}{g n:Nat}(base:Nat)(ys:List Part)(z:Part)(hgd:o.guard=none)(s x:Operand)
  (ho:o.op= .call { callee:= .builtin .append,args:=#[s,x],argTypes:=#[39,39] }) (hty:o.type=39)
  (hs:a.eval s=v) (hx:a.eval x= .slice (some ⟨g,0,none⟩) 1 1) (hcell:w.cell? ⟨g,0,none⟩=some (.slice z.A z.bs.length z.c))
  (hown:PR w base v n ys) (hz:Rd w base w.heap.size z.A z.c (bv z.bs)) (hza:0<z.bs.length→∀b off,z.A=some ⟨b,off,none⟩→v.ownBlock≠some b) (hb:n+1≤1099511627776) (hbase:base≤w.heap.size)
  (h:∀A' c' w',PR w' base (.slice A' (n+1) c') (n+1) (ys++[z])→w.grownBy w' v.ownBlock→wpList Tryz.prog ops Q rest (a.put o.dst (.slice A' (n+1) c')) w') :
  wpList Tryz.prog ops Q (o :: rest) a w:=by
 obtain⟨hlen,hw,hrd,hap⟩:=hown
 subst hlen
 have hr:Rd w 0 w.heap.size (some ⟨g,0,none⟩) 1 (pv [z]):=⟨by simp[pv],by simp[maxLen],fun _=>⟨g,0,rfl,qj _,km w _ hcell,fun j u hu=>by
  match j,hu with
  | 0,hu =>
   simp[pv,Part.val] at hu
   subst hu
   exact hcell
  | j+1,hu=>simp[pv] at hu⟩⟩
 obtain⟨i0,hi0,hz0,hz1,hz2⟩:=info_parts Tryz.infoBs
 obtain⟨A',c',w',hrun,h2,h3,h4⟩:=ky (P:=Tryz.prog) w base 39 39 36 i0 _ 24 Tryz.underlying39 hi0 hz0 hz1 hz2 rfl v ys.length (pv ys) hw 0 w.heap.size _ 1 (pv [z]) hr (pv_one _)
  (by simp[pv,maxLen];omega) (by simp[pv];omega) hbase
 have hl:(pv [z]).length=1:=rfl
 rw[hl] at hrun h2 h4
 have hkeep:∀p∈ys++[z],Rd w' base w.heap.size p.A p.c (bv p.bs)∧(0<p.bs.length→∀b off,p.A=some ⟨b,off,none⟩→v.ownBlock≠some b)∧(0<p.bs.length→∀b off,p.A=some ⟨b,off,none⟩→b<w.heap.size):=fun p hp=>by
  have hpr:Rd w base w.heap.size p.A p.c (bv p.bs)∧(0<p.bs.length→∀b off,p.A=some ⟨b,off,none⟩→v.ownBlock≠some b):=by
   rcases zn.1 hp with hp | hp
   ·
    exact⟨hrd p hp,hap p hp⟩
   ·
    rw[q8.1 hp];exact⟨hz,hza⟩
  refine⟨⟨hpr.1.len,hpr.1.cap,fun h0 => ?_⟩,hpr.2,fun h0 b off e => ?_⟩
  ·
   obtain⟨b,off,e,h5,h6,h7⟩:=hpr.1.at_ h0
   rw[jj] at h0
   exact⟨b,off,e,h5,h6,fun j u hu=>(qa4 (h3.block b h6 (fun e2=>hpr.2 h0 b off e e2.symm))).trans (h7 j u hu)⟩
  ·
   obtain⟨b',off',e',h5,h6,h7⟩:=hpr.1.at_ (by rw[jj];exact h0)
   rw[e] at e'
   cases e'
   exact h6
 refine wpList_append_run hgd s x _ _ ho hs hx (by rw[hty];exact hrun) (h A' c' w' ⟨by simp,by rw[pv_append];exact h2,fun p hp=>(hkeep p hp).1.wide (qc _) h3.size,fun p hp h0 b off e => ?_⟩ h3)
 rcases h4 with h4 | h4
 ·
  rw[h4];exact(hkeep p hp).2.1 h0 b off e
 ·
  rw[h4]
  intro e2
  injection e2 with e2
  have:=(hkeep p hp).2.2 h0 b off e
  omega
theorem make_parts(w:World)(n:Nat)(h:n≤4294967295):∃w1,(Instr.makeSlice 39 (.int .i64 (n:Int)) (.int .i64 (n:Int))).run Tryz.prog w= .ok (.slice (some ⟨w.heap.size,0,none⟩) n n) w1∧
  w1.ownsRow w.heap.size 36 1 (.slice (some ⟨w.heap.size,0,none⟩) n n) n (List.replicate n (.slice none 0 0))∧w.grownBy w1 none:=by
 obtain⟨i0,hi0,hz0,hz1,hz2⟩:=info_parts Tryz.infoBs
 have:=run_make_full (P:=Tryz.prog) w w.heap.size 39 36 i0 _ 1 Tryz.underlying39 hi0 hz0 hz1 .i64 .i64 n (by rw[hz2];omega) (by simp only[maxLen];omega) (qc _)
 rw[xl,show(Value.slice none 0 0).cells=#[.slice none 0 0] from rfl,toList_madeCells_one] at this
 exact this
theorem Rd.part{w:World}{lo hi c:Nat}{A:Option Addr}{ps:List Part}(h:Rd w lo hi A c (pv ps)){k:Nat}(hk:k<ps.length) :
  ∃b off,A=some ⟨b,off,none⟩∧lo≤b∧b<hi∧w.cell? ⟨b,off+k,none⟩=some (.slice ps[k].A ps[k].bs.length ps[k].c):=by
 obtain⟨b,off,e,h1,h2,h3⟩:=h.at_ (by rw[qdc];omega)
 exact⟨b,off,e,h1,h2,h3 k _ (pv_get ps k hk)⟩
theorem qkc{a w w':World}{g:Nat}{v:Value}(h:a.grownBy w (some g))(h2:w.grownBy w' v.ownBlock)(hx:∀q,v.ownBlock=some q→a.heap.size≤q):a.grownBy w' (some g):=by
 cases ho:v.ownBlock with
 | none=>rw[ho] at h2;exact h.trans (qev h2)
 | some q=>rw[ho] at h2;exact gb_more h h2 (hx q ho)
theorem qdu{w w':World}{base n g:Nat}{e:TypeId}{size:Nat}{v:Value}{xs:List Value}(h:w.ownsRow base e size v n xs)(hg:w.grownBy w' (some g))(hb:g<base):w'.ownsRow base e size v n xs :=
 jw h fun k hk=>hg.block k (zk h hk).2 (fun e=>by injection e with e;have:=(zk h hk).1;omega)
theorem fits_nat{w:World}(n:Nat):Calls Tryz.prog 194 #[.int .i64 (n:Int)] w fun r w'=>r= .returned (.bool (qft n))∧w=w':=fits_any (n:Int)
theorem sget_at{w:World}{lo g k0:Nat}{e0:Int}{bs:List UInt8}(h:xq w lo g bs k0 e0)(hb:bs.length≤1000000000) :
  Calls Tryz.prog 166 #[cp g] w fun r w'=>∃A c,r= .returned (.slice A (qdd bs k0 e0).1.length c)∧w'.ownsRow w.heap.size 9 1 (.slice A (qdd bs k0 e0).1.length c) (qdd bs k0 e0).1.length (sv (j4 (qdd bs k0 e0).1))∧
   xq w' lo g bs (qdd bs k0 e0).2.1 (qdd bs k0 e0).2.2∧w.grownBy w' (some g):=by
 have hlt:=h.lt
 have HBY:=qa (qk6 h)
 have HLL:Hid (qdd bs k0 e0=if (qg2 bs k0 e0).2.2=0 then qg2 bs k0 e0 else ([],(qg2 bs k0 e0).2)):=rfl
 have HAA:Hid (qg2 bs k0 e0=qdv bs (qm8 bs k0 e0) (z6 bs k0 e0 0 1).2.1 (z6 bs k0 e0 0 1).2.2 []):=rfl
 have hN:((z6 bs k0 e0 0 1).1.headD 0).toNat=qm8 bs k0 e0:=rfl
 have hN5:qm8 bs k0 e0≤255:=by have:=je ((z6 bs k0 e0 0 1).1.headD 0);rw[←hN];omega
 rw[hN] at HBY
 clear hN h
 generalize qdd bs k0 e0=L at *
 generalize z6 bs k0 e0 0 1=T at *
 generalize qm8 bs k0 e0=N at *
 generalize qg2 bs k0 e0=G at *
 unfold cp at *
 go_enter Tryz.func166,Tryz.ntmps166
 go_wp2_with fail
 refine HBY.out.mono ?_
 rintro r w1 ⟨rfl,hc1,hg1⟩
 have HC1:=qa hc1
 have HG1:=qa hg1
 clear hc1 hg1 HBY
 go_wp2_with fail
 go_loopw [3,4,9] (fun x3 x4 x9 wr=>∃(i p:Nat) (e:Int) (last:ByteArray) (ys:List ByteArray) (A:Option Addr) (c:Nat),i≤N∧x9= .int .i64 (i:Int)∧x4= .string last∧x3= .slice A i c∧ys.length=i∧
  G=(qt ys++(qdv bs (N-i) p e last.data.toList).1,(qdv bs (N-i) p e last.data.toList).2)∧last.size≤1000000000∧
  wr.ownsRow w.heap.size 9 1 (.slice A i c) i (sv ys)∧xq wr lo g bs p e∧w.grownBy wr (some g)) (fun _ _ i _=>N-(intOf i).toNat)
 case atStart=>exact⟨0,T.2.1,T.2.2,⟨#[]⟩,[],none,0,qj _,rfl,rfl,rfl,rfl,by rw[HAA.out];rfl,by decide,⟨rfl,.inl ⟨rfl,rfl⟩⟩,HC1.out,HG1.out⟩
 case round =>
  clear HC1 HG1
  obtain⟨i,p,e,last,ys,A,c,hi,rfl,rfl,rfl,hyl,hGe,hls,hown,hcur,hgb⟩:=hrel
  have HYL:=qa hyl
  have HGE:=qa hGe
  have HO:=qa hown
  have HC:=qa hcur
  have HG:=qa hgb
  have hsz:=hgb.size
  clear hyl hGe hown hcur hgb
  by_cases hiN:i<N
  ·
   have ik:(i:Int)<(N:Int):=by omega
   obtain⟨d,hd⟩:∃d,N-i=d+1:=⟨N-i-1,by omega⟩
   have HD:Hid (N-(i+1)=d):=by unfold Hid;omega
   have HBY:=qa (qk6 HC.out)
   obtain⟨S,hS⟩:∃S,qd0 bs p e last.data.toList=S:=⟨_,rfl⟩
   have HGN:Hid (G=(qt ys++(S.1 :: (qdv bs d S.2.1 S.2.2 S.1).1),(qdv bs d S.2.1 S.2.2 S.1).2)):=by
    unfold Hid
    rw[HGE.out,hd,qdv,hS]
   clear hd HGE
   unfold qd0 at hS
   simp only at hS
   generalize z6 bs p e 0 1=R at *
   obtain⟨n,hn⟩:∃n,(R.1.headD 0).toNat=n:=⟨_,rfl⟩
   have hn5:n≤255:=by have:=je (R.1.headD 0);rw[←hn];omega
   rw[hn] at HBY hS
   clear hn
   obtain⟨e2,he2⟩:∃e2,(if qft n=true then R.2.2 else jx R.2.2)=e2:=⟨_,rfl⟩
   rw[he2] at hS
   have HE2:=qa he2
   clear he2
   have HTL:Hid ((z6 bs R.2.1 e2 0 n).1.length≤bs.length):=by
    unfold Hid z6
    repeat' split
    all_goals simp
    all_goals omega
   obtain⟨Q,hQ⟩:∃Q,z6 bs R.2.1 e2 0 n=Q:=⟨_,rfl⟩
   rw[hQ] at hS HTL
   have HQ:=qa hQ
   have HS:=qa hS
   clear hQ hS
   have HFI:=qa (fun w=>fits_nat (w:=w) n)
   obtain⟨f1,hf1⟩:∃f1,qft n=f1:=⟨_,rfl⟩
   rw[hf1] at HFI HE2
   clear hf1
   obtain⟨x,hx⟩:∃x:ByteArray,x=⟨Q.1.toArray⟩:=⟨_,rfl⟩
   have hxl:x.data.toList=Q.1:=by rw[hx]
   have hxs:x.size≤1000000000:=by
    have h1:=HTL.out
    rw[←hxl,jo] at h1
    have h2:x.data.size=x.size:=rfl
    omega
   have HXL:=qa hxl
   have HFO:=qa (fun w=>qmu (w:=w) last x (by omega))
   rw[hxl] at HFO
   obtain⟨f2,hf2⟩:∃f2,qke last.data.toList Q.1=f2:=⟨_,rfl⟩
   rw[hf2] at HFO HS
   have HX:=qa hx
   clear hf2 hx hxl
   -- ARMS
   cases f1 with
   | true =>
    cases f2 with
    | true =>
     go_wp2_with fail
     refine HBY.out.mono ?_
     rintro r w2 ⟨rfl,hc2,hg2⟩
     have HC2:=qa hc2
     have HO2:=qa (qdu HO.out hg2 hlt)
     have HG2:=qa (HG.out.trans hg2)
     clear hc2 hg2 HBY HO
     go_wp2_with fail
     refine(HFI.out _).mono ?_
     rintro r w' ⟨rfl,rfl⟩
     have HE3:Hid (R.2.2=e2):=HE2.out
     have HC3:Hid (xq w2 lo g bs R.2.1 e2):=by unfold Hid;rw[←HE3.out];exact HC2.out
     have HO3:=qa HO2.out
     have HG3:=qa HG2.out
     have hsz3:=HG3.out.size
     have HB:=qa (qdg (n:Int) HC3.out (by omega))
     rw[HQ.out] at HB
     clear HC2 HO2 HG2
     go_wp2_with fail
     refine HB.out.mono ?_
     rintro r w4 ⟨A4,c4,rfl,hrd4,hc4,hg4⟩
     have hst:=vk (P:=Tryz.prog) w4 36 9 5 Tryz.underlying36 Tryz.underlying5 Tryz.underlying9 _ _ A4 c4 Q.1 (Rd.of_own hrd4)
     rw[←HX.out] at hst
     have HC4:=qa hc4
     have HO4:=qa (qdu HO3.out hg4 hlt)
     have HG4:=qa (HG3.out.trans hg4)
     have hsz4:=HG4.out.size
     clear hc4 hg4 hrd4 HB HC3 HO3 HG3
     go_wp2_with fail
     refine(HFO.out _).mono ?_
     rintro r w5 ⟨rfl,m,rfl⟩
     clear hst
     have HC6:Hid (xq (w4.drewN m) lo g bs S.2.1 S.2.2):=by unfold Hid;rw[←HS.out];exact HC4.out.drewN m
     obtain⟨w6,hw6⟩:∃w6,w4.drewN m=w6:=⟨_,rfl⟩
     have HO6:Hid (w6.ownsRow w.heap.size 9 1 (.slice A i c) i (sv ys)):=by unfold Hid;rw[←hw6];exact jw HO4.out fun k hk=>rfl
     have HG6:Hid (w.grownBy w6 (some g)):=by unfold Hid;rw[←hw6];exact qak HG4.out m
     rw[hw6] at HC6 ⊢
     clear hw6
     have hsz6:=HG6.out.size
     clear HC4 HO4 HG4
     rw[←HYL.out] at HO6
     go_wp2_with (at_builtin;refine vj (v:= .slice A i c) w.heap.size ys x rfl _ _ rfl rfl rfl rfl (by rw[zm _ _ _ _ rfl];rfl) (by have:=HO6.out.alloc (.cells #[.string x] 9);rw[HYL.out] at this ⊢;exact this) (by rw[HYL.out];omega) (by simp;omega) ?_;intro A7 c7 w7 ho7 hg7;refine qbj ?_)
     have hgb7:w.grownBy w7 (some g):=qkc (va HG6.out _) hg7 (fun q hq=>(zk HO6.out (by rw[HYL.out];exact hq)).1)
     have hcu7:xq w7 lo g bs S.2.1 S.2.2:=(HC6.out.grown (row:=none) (by exact va (yx _ _) _) (by simp)).grown hg7 (fun q hq=> .inr (zh hlt (zk HO6.out (by rw[HYL.out];exact hq)).1))
     obtain⟨zs,hzs⟩:∃zs,ys++[x]=zs:=⟨_,rfl⟩
     rw[hzs] at ho7
     have hzl:zs.length=i+1:=by rw[←hzs,qd,HYL.out];rfl
     rw[hzl] at ho7
     have HZV:Hid (Value.slice A7 (ys.length+1) c7= .slice A7 (i+1) c7):=by unfold Hid;rw[HYL.out]
     have HGF:Hid (G=(qt zs++(qdv bs (N-(i+1)) S.2.1 S.2.2 x.data.toList).1,(qdv bs (N-(i+1)) S.2.1 S.2.2 x.data.toList).2)):=by
      unfold Hid
      have h1:S.1=x.data.toList:=by rw[←HS.out,HXL.out]
      rw[HGN.out,HD.out,←hzs,h1]
      simp[qt]
     have HZL:=qa hzl
     have HO7:=qa ho7
     have HC7:=qa hcu7
     have HG7:=qa hgb7
     clear ho7 hg7 hgb7 hcu7 hzs hzl HO6 HC6 HG6
     refine⟨?_⟩
     go_wp2_with fail
     go_roundw
     case rel=>exact⟨i+1,S.2.1,S.2.2,x,zs,A7,c7,by omega,by go_num,rfl,HZV.out,HZL.out,HGF.out,hxs,HO7.out,HC7.out,HG7.out⟩
     case measure=>simp[intOf] <;> omega
    | false =>
     go_wp2_with fail
     refine HBY.out.mono ?_
     rintro r w2 ⟨rfl,hc2,hg2⟩
     have HC2:=qa hc2
     have HO2:=qa (qdu HO.out hg2 hlt)
     have HG2:=qa (HG.out.trans hg2)
     clear hc2 hg2 HBY HO
     go_wp2_with fail
     refine(HFI.out _).mono ?_
     rintro r w' ⟨rfl,rfl⟩
     have HE3:Hid (R.2.2=e2):=HE2.out
     have HC3:Hid (xq w2 lo g bs R.2.1 e2):=by unfold Hid;rw[←HE3.out];exact HC2.out
     have HO3:=qa HO2.out
     have HG3:=qa HG2.out
     have hsz3:=HG3.out.size
     have HB:=qa (qdg (n:Int) HC3.out (by omega))
     rw[HQ.out] at HB
     clear HC2 HO2 HG2
     go_wp2_with fail
     refine HB.out.mono ?_
     rintro r w4 ⟨A4,c4,rfl,hrd4,hc4,hg4⟩
     have hst:=vk (P:=Tryz.prog) w4 36 9 5 Tryz.underlying36 Tryz.underlying5 Tryz.underlying9 _ _ A4 c4 Q.1 (Rd.of_own hrd4)
     rw[←HX.out] at hst
     have HC4:=qa hc4
     have HO4:=qa (qdu HO3.out hg4 hlt)
     have HG4:=qa (HG3.out.trans hg4)
     have hsz4:=HG4.out.size
     clear hc4 hg4 hrd4 HB HC3 HO3 HG3
     go_wp2_with fail
     refine(HFO.out _).mono ?_
     rintro r w5 ⟨rfl,m,rfl⟩
     clear hst
     go_wp2_with fail
     refine(ve 3 (HC4.out.drewN m)).mono ?_
     rintro r w6 ⟨rfl,hc6,hg6⟩
     have HC6:Hid (xq w6 lo g bs S.2.1 S.2.2):=by unfold Hid;rw[←HS.out];exact hc6
     have HO6:Hid (w6.ownsRow w.heap.size 9 1 (.slice A i c) i (sv ys)):=qdu (w:=w4.drewN m) (jw HO4.out fun k hk=>rfl) hg6 hlt
     have HG6:Hid (w.grownBy w6 (some g)):=(qak HG4.out m).trans hg6
     clear hc6 hg6
     have hsz6:=HG6.out.size
     clear HC4 HO4 HG4
     rw[←HYL.out] at HO6
     go_wp2_with (at_builtin;refine vj (v:= .slice A i c) w.heap.size ys x rfl _ _ rfl rfl rfl rfl (by rw[zm _ _ _ _ rfl];rfl) (by have:=HO6.out.alloc (.cells #[.string x] 9);rw[HYL.out] at this ⊢;exact this) (by rw[HYL.out];omega) (by simp;omega) ?_;intro A7 c7 w7 ho7 hg7;refine qbj ?_)
     have hgb7:w.grownBy w7 (some g):=qkc (va HG6.out _) hg7 (fun q hq=>(zk HO6.out (by rw[HYL.out];exact hq)).1)
     have hcu7:xq w7 lo g bs S.2.1 S.2.2:=(HC6.out.grown (row:=none) (by exact va (yx _ _) _) (by simp)).grown hg7 (fun q hq=> .inr (zh hlt (zk HO6.out (by rw[HYL.out];exact hq)).1))
     obtain⟨zs,hzs⟩:∃zs,ys++[x]=zs:=⟨_,rfl⟩
     rw[hzs] at ho7
     have hzl:zs.length=i+1:=by rw[←hzs,qd,HYL.out];rfl
     rw[hzl] at ho7
     have HZV:Hid (Value.slice A7 (ys.length+1) c7= .slice A7 (i+1) c7):=by unfold Hid;rw[HYL.out]
     have HGF:Hid (G=(qt zs++(qdv bs (N-(i+1)) S.2.1 S.2.2 x.data.toList).1,(qdv bs (N-(i+1)) S.2.1 S.2.2 x.data.toList).2)):=by
      unfold Hid
      have h1:S.1=x.data.toList:=by rw[←HS.out,HXL.out]
      rw[HGN.out,HD.out,←hzs,h1]
      simp[qt]
     have HZL:=qa hzl
     have HO7:=qa ho7
     have HC7:=qa hcu7
     have HG7:=qa hgb7
     clear ho7 hg7 hgb7 hcu7 hzs hzl HO6 HC6 HG6
     refine⟨?_⟩
     go_wp2_with fail
     go_roundw
     case rel=>exact⟨i+1,S.2.1,S.2.2,x,zs,A7,c7,by omega,by go_num,rfl,HZV.out,HZL.out,HGF.out,hxs,HO7.out,HC7.out,HG7.out⟩
     case measure=>simp[intOf] <;> omega
   | false =>
    cases f2 with
    | true =>
     go_wp2_with fail
     refine HBY.out.mono ?_
     rintro r w2 ⟨rfl,hc2,hg2⟩
     have HC2:=qa hc2
     have HO2:=qa (qdu HO.out hg2 hlt)
     have HG2:=qa (HG.out.trans hg2)
     clear hc2 hg2 HBY HO
     go_wp2_with fail
     refine(HFI.out _).mono ?_
     rintro r w' ⟨rfl,rfl⟩
     go_wp2_with fail
     refine(ve 3 HC2.out).mono ?_
     rintro r w3 ⟨rfl,hc3,hg3⟩
     have HE3:Hid (jx R.2.2=e2):=HE2.out
     have HC3:Hid (xq w3 lo g bs R.2.1 e2):=by unfold Hid;rw[←HE3.out];exact hc3
     have HO3:=qa (qdu HO2.out hg3 hlt)
     have HG3:=qa (HG2.out.trans hg3)
     clear hc3 hg3
     have hsz3:=HG3.out.size
     have HB:=qa (qdg (n:Int) HC3.out (by omega))
     rw[HQ.out] at HB
     clear HC2 HO2 HG2
     go_wp2_with fail
     refine HB.out.mono ?_
     rintro r w4 ⟨A4,c4,rfl,hrd4,hc4,hg4⟩
     have hst:=vk (P:=Tryz.prog) w4 36 9 5 Tryz.underlying36 Tryz.underlying5 Tryz.underlying9 _ _ A4 c4 Q.1 (Rd.of_own hrd4)
     rw[←HX.out] at hst
     have HC4:=qa hc4
     have HO4:=qa (qdu HO3.out hg4 hlt)
     have HG4:=qa (HG3.out.trans hg4)
     have hsz4:=HG4.out.size
     clear hc4 hg4 hrd4 HB HC3 HO3 HG3
     go_wp2_with fail
     refine(HFO.out _).mono ?_
     rintro r w5 ⟨rfl,m,rfl⟩
     clear hst
     have HC6:Hid (xq (w4.drewN m) lo g bs S.2.1 S.2.2):=by unfold Hid;rw[←HS.out];exact HC4.out.drewN m
     obtain⟨w6,hw6⟩:∃w6,w4.drewN m=w6:=⟨_,rfl⟩
     have HO6:Hid (w6.ownsRow w.heap.size 9 1 (.slice A i c) i (sv ys)):=by unfold Hid;rw[←hw6];exact jw HO4.out fun k hk=>rfl
     have HG6:Hid (w.grownBy w6 (some g)):=by unfold Hid;rw[←hw6];exact qak HG4.out m
     rw[hw6] at HC6 ⊢
     clear hw6
     have hsz6:=HG6.out.size
     clear HC4 HO4 HG4
     rw[←HYL.out] at HO6
     go_wp2_with (at_builtin;refine vj (v:= .slice A i c) w.heap.size ys x rfl _ _ rfl rfl rfl rfl (by rw[zm _ _ _ _ rfl];rfl) (by have:=HO6.out.alloc (.cells #[.string x] 9);rw[HYL.out] at this ⊢;exact this) (by rw[HYL.out];omega) (by simp;omega) ?_;intro A7 c7 w7 ho7 hg7;refine qbj ?_)
     have hgb7:w.grownBy w7 (some g):=qkc (va HG6.out _) hg7 (fun q hq=>(zk HO6.out (by rw[HYL.out];exact hq)).1)
     have hcu7:xq w7 lo g bs S.2.1 S.2.2:=(HC6.out.grown (row:=none) (by exact va (yx _ _) _) (by simp)).grown hg7 (fun q hq=> .inr (zh hlt (zk HO6.out (by rw[HYL.out];exact hq)).1))
     obtain⟨zs,hzs⟩:∃zs,ys++[x]=zs:=⟨_,rfl⟩
     rw[hzs] at ho7
     have hzl:zs.length=i+1:=by rw[←hzs,qd,HYL.out];rfl
     rw[hzl] at ho7
     have HZV:Hid (Value.slice A7 (ys.length+1) c7= .slice A7 (i+1) c7):=by unfold Hid;rw[HYL.out]
     have HGF:Hid (G=(qt zs++(qdv bs (N-(i+1)) S.2.1 S.2.2 x.data.toList).1,(qdv bs (N-(i+1)) S.2.1 S.2.2 x.data.toList).2)):=by
      unfold Hid
      have h1:S.1=x.data.toList:=by rw[←HS.out,HXL.out]
      rw[HGN.out,HD.out,←hzs,h1]
      simp[qt]
     have HZL:=qa hzl
     have HO7:=qa ho7
     have HC7:=qa hcu7
     have HG7:=qa hgb7
     clear ho7 hg7 hgb7 hcu7 hzs hzl HO6 HC6 HG6
     refine⟨?_⟩
     go_wp2_with fail
     go_roundw
     case rel=>exact⟨i+1,S.2.1,S.2.2,x,zs,A7,c7,by omega,by go_num,rfl,HZV.out,HZL.out,HGF.out,hxs,HO7.out,HC7.out,HG7.out⟩
     case measure=>simp[intOf] <;> omega
    | false =>
     go_wp2_with fail
     refine HBY.out.mono ?_
     rintro r w2 ⟨rfl,hc2,hg2⟩
     have HC2:=qa hc2
     have HO2:=qa (qdu HO.out hg2 hlt)
     have HG2:=qa (HG.out.trans hg2)
     clear hc2 hg2 HBY HO
     go_wp2_with fail
     refine(HFI.out _).mono ?_
     rintro r w' ⟨rfl,rfl⟩
     go_wp2_with fail
     refine(ve 3 HC2.out).mono ?_
     rintro r w3 ⟨rfl,hc3,hg3⟩
     have HE3:Hid (jx R.2.2=e2):=HE2.out
     have HC3:Hid (xq w3 lo g bs R.2.1 e2):=by unfold Hid;rw[←HE3.out];exact hc3
     have HO3:=qa (qdu HO2.out hg3 hlt)
     have HG3:=qa (HG2.out.trans hg3)
     clear hc3 hg3
     have hsz3:=HG3.out.size
     have HB:=qa (qdg (n:Int) HC3.out (by omega))
     rw[HQ.out] at HB
     clear HC2 HO2 HG2
     go_wp2_with fail
     refine HB.out.mono ?_
     rintro r w4 ⟨A4,c4,rfl,hrd4,hc4,hg4⟩
     have hst:=vk (P:=Tryz.prog) w4 36 9 5 Tryz.underlying36 Tryz.underlying5 Tryz.underlying9 _ _ A4 c4 Q.1 (Rd.of_own hrd4)
     rw[←HX.out] at hst
     have HC4:=qa hc4
     have HO4:=qa (qdu HO3.out hg4 hlt)
     have HG4:=qa (HG3.out.trans hg4)
     have hsz4:=HG4.out.size
     clear hc4 hg4 hrd4 HB HC3 HO3 HG3
     go_wp2_with fail
     refine(HFO.out _).mono ?_
     rintro r w5 ⟨rfl,m,rfl⟩
     clear hst
     go_wp2_with fail
     refine(ve 3 (HC4.out.drewN m)).mono ?_
     rintro r w6 ⟨rfl,hc6,hg6⟩
     have HC6:Hid (xq w6 lo g bs S.2.1 S.2.2):=by unfold Hid;rw[←HS.out];exact hc6
     have HO6:Hid (w6.ownsRow w.heap.size 9 1 (.slice A i c) i (sv ys)):=qdu (w:=w4.drewN m) (jw HO4.out fun k hk=>rfl) hg6 hlt
     have HG6:Hid (w.grownBy w6 (some g)):=(qak HG4.out m).trans hg6
     clear hc6 hg6
     have hsz6:=HG6.out.size
     clear HC4 HO4 HG4
     rw[←HYL.out] at HO6
     go_wp2_with (at_builtin;refine vj (v:= .slice A i c) w.heap.size ys x rfl _ _ rfl rfl rfl rfl (by rw[zm _ _ _ _ rfl];rfl) (by have:=HO6.out.alloc (.cells #[.string x] 9);rw[HYL.out] at this ⊢;exact this) (by rw[HYL.out];omega) (by simp;omega) ?_;intro A7 c7 w7 ho7 hg7;refine qbj ?_)
     have hgb7:w.grownBy w7 (some g):=qkc (va HG6.out _) hg7 (fun q hq=>(zk HO6.out (by rw[HYL.out];exact hq)).1)
     have hcu7:xq w7 lo g bs S.2.1 S.2.2:=(HC6.out.grown (row:=none) (by exact va (yx _ _) _) (by simp)).grown hg7 (fun q hq=> .inr (zh hlt (zk HO6.out (by rw[HYL.out];exact hq)).1))
     obtain⟨zs,hzs⟩:∃zs,ys++[x]=zs:=⟨_,rfl⟩
     rw[hzs] at ho7
     have hzl:zs.length=i+1:=by rw[←hzs,qd,HYL.out];rfl
     rw[hzl] at ho7
     have HZV:Hid (Value.slice A7 (ys.length+1) c7= .slice A7 (i+1) c7):=by unfold Hid;rw[HYL.out]
     have HGF:Hid (G=(qt zs++(qdv bs (N-(i+1)) S.2.1 S.2.2 x.data.toList).1,(qdv bs (N-(i+1)) S.2.1 S.2.2 x.data.toList).2)):=by
      unfold Hid
      have h1:S.1=x.data.toList:=by rw[←HS.out,HXL.out]
      rw[HGN.out,HD.out,←hzs,h1]
      simp[qt]
     have HZL:=qa hzl
     have HO7:=qa ho7
     have HC7:=qa hcu7
     have HG7:=qa hgb7
     clear ho7 hg7 hgb7 hcu7 hzs hzl HO6 HC6 HG6
     refine⟨?_⟩
     go_wp2_with fail
     go_roundw
     case rel=>exact⟨i+1,S.2.1,S.2.2,x,zs,A7,c7,by omega,by go_num,rfl,HZV.out,HZL.out,HGF.out,hxs,HO7.out,HC7.out,HG7.out⟩
     case measure=>simp[intOf] <;> omega
   -- END ARMS
  ·
   have ik:¬(i:Int)<(N:Int):=by omega
   have hiN2:i=N:=by omega
   have hG2:G=(qt ys,p,e):=by
    rw[HGE.out,show N-i=0 by omega,qdv,jd]
   have hLL:=HLL.out
   rw[hG2] at hLL
   simp only at hLL
   have HGO:=qa (yq HC.out)
   clear hG2 HLL HGE HAA
   by_cases he:e=0
   ·
    rw[if_pos he] at hLL
    have HLV:=qa hLL
    have hg1:(e==0)=true:=by simpa using he
    rw[hg1] at HGO
    clear hLL he hg1
    unfold cp at *
    go_wp2_with fail
    refine HGO.out.mono ?_
    rintro r w' ⟨rfl,rfl⟩
    go_wp2_with fail
    go_ret
    rw[HLV.out]
    simp only[zb,HYL.out,qe0]
    exact⟨A,c,by rw[hiN2];rfl,HO.out,HC.out,HG.out⟩
   ·
    rw[if_neg he] at hLL
    have HLV:=qa hLL
    have hg1:(e==0)=false:=by simpa using he
    rw[hg1] at HGO
    clear hLL he hg1
    unfold cp at *
    go_wp2_with fail
    refine HGO.out.mono ?_
    rintro r w' ⟨rfl,rfl⟩
    go_wp2_with fail
    go_ret
    rw[HLV.out]
    exact⟨none,0,rfl,⟨rfl,.inl ⟨rfl,rfl⟩⟩,HC.out,HG.out⟩
theorem count_any{w:World}(l:List Bool){lo h':Nat}{A:Option Addr}{c:Nat}(h:Rd w lo h' A c (lv l)) :
  Calls Tryz.prog 191 #[.slice A l.length c] w fun r w'=>r= .returned (.int .i64 (cnt l:Int))∧w=w':=by
 have hl:=h.len
 have hc:=h.cap
 rw[qac] at hl
 unfold maxLen at hc
 have H:=qa h
 clear h
 go_enter Tryz.func191,Tryz.ntmps191
 go_wp2_with fail
 go_loop [3,8] (fun n i=>∃k:Nat,k≤l.length∧i= .int .i64 (k:Int)∧n= .int .i64 (cnt (l.take k):Int)) (fun _ i=>l.length-(intOf i).toNat)
 case atStart=>exact⟨0,qj _,rfl,rfl⟩
 case round =>
  obtain⟨k,hk,rfl,rfl⟩:=hrel
  by_cases hlt:k<l.length
  ·
   obtain⟨b,off,rfl,_,_,hcell⟩:=H.out.row hlt
   have hts:=qa (cnt_take l k hlt)
   have hle:=cnt_take_le l k
   generalize cnt (l.take k)=m at *
   cases hx:l[k]
   ·
    rw[hx] at hcell hts
    go_wp2
    go_round
    case rel=>exact⟨k+1,by omega,by go_num,by rw[hts.out];rfl⟩
    case measure=>simp[intOf];omega
   ·
    rw[hx] at hcell hts
    go_wp2
    go_round
    case rel=>exact⟨k+1,by omega,by go_num,by rw[hts.out];go_num⟩
    case measure=>simp[intOf];omega
  ·
   obtain rfl:k=l.length:=by omega
   rw[yo]
   go_wp2
   go_ret
   exact⟨rfl,rfl⟩
theorem tailS(s:ByteArray)(k:Nat):(s.extract k s.size).data.toList=s.data.toList.drop k:=by
 rw[ByteArray.data_extract,Array.toList_extract]
 rw[qci,qp (by rw[qv,qje];omega)]
theorem dropS{s:ByteArray}{k:Nat}(h:k<s.size):s.data.toList.drop k=s[k] :: s.data.toList.drop (k+1):=by
 rw[ja (by rw[qje];exact h)]
 rfl
theorem str_etaU(u:ByteArray):(⟨u.data.toList.toArray⟩:ByteArray)=u:=by
 rcases u with ⟨d⟩
 rfl
structure Pc where
 s:ByteArray
 e:Nat
 h:s.size≤8
def Pc.lit(y:UInt8):Pc:=⟨⟨#[y]⟩,0,by show 1≤8;decide⟩
def Pc.err(k:Nat):Pc:=⟨⟨#[]⟩,k,by show 0≤8;decide⟩
section
variable (l:List ByteArray)(h8:∀t∈l,t.size≤8)
def qgf:Bool→List UInt8→List Pc
 | true,[]=>[Pc.err 2]
 | false,[]=>[]
 | true,y :: r=>Pc.lit y :: qgf false r
 | false,x :: r=>if x.toNat=255 then qgf true r else if hx:x.toNat<l.length then ⟨l[x.toNat],0,h8 _ (ql hx)⟩ :: qgf false r else [Pc.err 3]
end
section
variable {l:List ByteArray}{h8:∀t∈l,t.size≤8}{bs:List UInt8}{k:Nat}
theorem pc_cut:qgf l h8 true (bs.drop bs.length)=[Pc.err 2]:=by rw[List.drop_length,qgf]
theorem pc_end:qgf l h8 false (bs.drop bs.length)=[]:=by rw[List.drop_length,qgf]
theorem pc_esc(h:k<bs.length)(hx:bs[k].toNat=255):qgf l h8 false (bs.drop k)=qgf l h8 true (bs.drop (k+1)):=by
 rw[ja h,qgf,if_pos hx]
theorem pc_lit(h:k<bs.length):qgf l h8 true (bs.drop k)=Pc.lit bs[k] :: qgf l h8 false (bs.drop (k+1)):=by
 rw[ja h,qgf]
theorem pc_sym(h:k<bs.length)(hx:¬bs[k].toNat=255)(hl:bs[k].toNat<l.length):qgf l h8 false (bs.drop k)=⟨l[bs[k].toNat],0,h8 _ (ql hl)⟩ :: qgf l h8 false (bs.drop (k+1)):=by
 rw[ja h,qgf,if_neg hx,dif_pos hl]
theorem pc_bad(h:k<bs.length)(hx:¬bs[k].toNat=255)(hl:¬bs[k].toNat<l.length):qgf l h8 false (bs.drop k)=[Pc.err 3]:=by
 rw[ja h,qgf,if_neg hx,dif_neg hl]
theorem pc_len:∀(bs:List UInt8) (f:Bool),(qgf l h8 f bs).length≤bs.length+(if f then 1 else 0)
 | [],true=>by rw[qgf];simp
 | [],false=>by rw[qgf];simp
 | y :: r,true=>by
  rw[qgf,qo,qo]
  have:=pc_len r false
  simp at this ⊢
  omega
 | x :: r,false=>by
  rw[qgf]
  have h1:=pc_len r true
  have h2:=pc_len r false
  simp only[if_true,kr,if_false,qo] at h1 h2 ⊢
  split
  ·
   omega
  ·
   split
   ·
    rw[qo];omega
   ·
    simp
end
def dP(most:Int):List Pc→List UInt8→List UInt8×Nat
 | [],o=>(o,0)
 | x :: r,o=>if x.e≠0 then ([],x.e) else if most<((o.length+x.s.size:Nat):Int) then ([],6) else dP most r (o++x.s.data.toList)
section
variable {l:List ByteArray}{h8:∀t∈l,t.size≤8}{most:Int}
theorem dP_dec:∀(m:Nat) (bs o:List UInt8) (n:Nat),bs.length≤m→(qc2 (qt l) most bs o n).1=(dP most (qgf l h8 false bs) o).1∧(qc2 (qt l) most bs o n).2.1=(dP most (qgf l h8 false bs) o).2:=by
 intro m
 induction m with
 | zero =>
  intro bs o n h
  obtain rfl:bs=[]:=ze (by omega)
  rw[dec_nil,qgf,dP]
  exact⟨rfl,rfl⟩
 | succ m ih =>
  intro bs o n h
  rcases bs with _ | ⟨x,r⟩
  ·
   rw[dec_nil,qgf,dP]
   exact⟨rfl,rfl⟩
  ·
   rw[qo] at h
   by_cases hx:x.toNat=255
   ·
    obtain rfl:x=255:=UInt8.toNat_inj.1 hx
    rw[qgf,if_pos hx]
    rcases r with _ | ⟨y,r⟩
    ·
     rw[dec_end,qgf,dP,if_pos (by decide)]
     exact⟨rfl,rfl⟩
    ·
     rw[qo] at h
     rw[dec_lit,qgf,dP,if_neg (show ¬(Pc.lit y).e≠0 from fun h=>h rfl)]
     have e1:((o++[y]).length:Int)=((o.length+(Pc.lit y).s.size:Nat):Int):=by rw[qd];rfl
     rw[e1]
     split
     ·
      exact⟨rfl,rfl⟩
     ·
      exact ih r (o++[y]) (n+1) (by omega)
   ·
    rw[qgf,if_neg hx]
    have hx2:x≠255:=fun e=>hx (by rw[e];rfl)
    by_cases hl:x.toNat<l.length
    ·
     rw[dif_pos hl,dP,if_neg (by simp)]
     have hg:(qt l)[x.toNat]? = some l[x.toNat].data.toList:=by
      rw[qe (by rw[zb];exact hl),vq]
     rw[dec_sym _ _ _ hx2 hg]
     have e1:((o++l[x.toNat].data.toList).length:Int)=((o.length+l[x.toNat].size:Nat):Int):=by rw[qd,qje]
     rw[e1]
     split
     ·
      exact⟨rfl,rfl⟩
     ·
      exact ih r _ (n+1) (by omega)
    ·
     rw[dif_neg hl,dP,if_pos (by decide),dec_wrong _ _ _ hx2 (by rw[zb];omega)]
     exact⟨rfl,rfl⟩
end
section
open Go.RowKit Go.Shelf
attribute [local go_sem] Oper.semAt_some
structure Kp2 (n₀ Bb Bt:Nat) (W W':World):Prop where
 below:Below n₀ W W'
 b:W'.heap[Bb]? = W.heap[Bb]?
 t:W'.heap[Bt]? = W.heap[Bt]?
theorem Kp2.trans{n₀ Bb Bt:Nat}{A B C:World}(h:Kp2 n₀ Bb Bt A B)(k:Kp2 n₀ Bb Bt B C):Kp2 n₀ Bb Bt A C:=⟨h.below.trans k.below,k.b.trans h.b,k.t.trans h.t⟩
theorem Kp2.refl(n₀ Bb Bt:Nat)(W:World):Kp2 n₀ Bb Bt W W:=⟨Below.refl _ _,rfl,rfl⟩
theorem Kp2.cellb{n₀ Bb Bt:Nat}{A B:World}(h:Kp2 n₀ Bb Bt A B):B.cell? ⟨Bb,0,none⟩=A.cell? ⟨Bb,0,none⟩:=qa4 h.b
theorem Kp2.cellt{n₀ Bb Bt:Nat}{A B:World}(h:Kp2 n₀ Bb Bt A B):B.cell? ⟨Bt,0,none⟩=A.cell? ⟨Bt,0,none⟩:=qa4 h.t
theorem qau{X Y:World}{row:Option Nat}{B:Nat}{t:TypeId}{v:Value}(h:Boxed X B t v)(hg:X.grownBy Y row)(hr:∀r,row=some r→∃o:Obj,X.heap[r]? = some o∧o.isCells=false):Boxed Y B t v :=
 h.kept hg fun e=>by
  obtain⟨o,ho,hc⟩:=hr B e.symm
  rw[show X.heap[B]? = _ from h] at ho
  cases ho
  cases hc
theorem row_keep{X Y:World}{row:Option Nat}{base:Nat}{e:TypeId}{size n:Nat}{v:Value}{xs:List Value}(h:X.ownsRow base e size v n xs)(hg:X.grownBy Y row)(hr:∀r,row=some r→∃o:Obj,X.heap[r]? = some o∧o.isCells=false):Y.ownsRow base e size v n xs:=by
 refine h.kept hg ?_
 rcases h.2 with ⟨rfl,_⟩ | ⟨g,cap,cur,rfl,_,hgb,_⟩
 ·
  exact .inl rfl
 ·
  refine .inr fun e' => ?_
  obtain⟨o,ho,hc⟩:=hr g (by simpa[Value.ownBlock] using e'.symm)
  rw[hgb] at ho
  cases ho
  cases hc
theorem qbe{X:World}{B B2:Nat}{t:TypeId}{v u:Value}(h:Boxed X B t v)(hne:B≠B2):Boxed (X.setCell ⟨B2,0,none⟩ u) B t v:=h.kept (grownBy_setCell' X B2 u) (fun e=>hne (by injection e))
theorem qi8{X:World}{D B:Nat}{t:TypeId}{v:Value}{o:Obj}(h:Boxed X B t v)(o':Obj)(hD:X.heap[D]? = some o)(ho:o.isCells=false):Boxed (X.putObj D o') B t v:=qau h (grownBy_putObj' X D o') fun r e=>by cases e;exact⟨o,hD,ho⟩
theorem qdk{F:Fence}{n:Nat}{P:Program}{w:World}{ops:Array Oper}{rest:List Oper}{o:Oper}{a:Act}{Q:Exit→Act→World→Prop}
  (hg:o.guard=none) (s x:Operand) (tys:Array TypeId) (hop:o.op=Op.call { callee:=Callee.builtin Builtin.append,args:=#[s,x],argTypes:=tys }) (v y:Value) (hs:a.eval s=v) (hx:a.eval x=y) {r:Value} {w':World}
  (hrun:(Builtin.append_ tys o.type #[v,y]).run P w= .ok r w') (hK:wpListIn F n P ops Q rest (a.put o.dst r) w') :
  wpListIn F n P ops Q (o :: rest) a w:=by
 refine wpListIn_plain hg fun K hK' => ?_
 unfold Oper.wpIn
 refine⟨?_,?_⟩
 ·
  simp[Oper.about,hop,resolve,Target.leads,Sem.run_pure]
 ·
  rw[Oper.semAt_plain F _ _ (by rw[hop];intro c hc';cases hc')]
  simp[execOp,hop,resolve,invoke,builtin,hs,hx,hrun,Result.andThen]
  exact hK' _ _ hK
theorem appendedS{W w1:World}{n₀ B m:Nat}{t e:TypeId}{v v':Value}{k:Nat}{xs ys:List Value}(hv:Boxed W B t v)(hte:t≠e)(hrow:W.ownsRow n₀ e 1 v k xs)(hB:n₀≤B)(hn₀:n₀≤W.heap.size)(hown:w1.ownsRow n₀ e 1 v' m ys)(hg:W.grownBy w1 v.ownBlock) :
  Boxed w1 B t v∧Boxed (w1.setCell ⟨B,0,none⟩ v') B t v'∧(w1.setCell ⟨B,0,none⟩ v').ownsRow n₀ e 1 v' m ys∧KeepsOthers W (w1.setCell ⟨B,0,none⟩ v')∧Below n₀ W (w1.setCell ⟨B,0,none⟩ v')∧
   ∀(B2:Nat) (t2:TypeId) (u:Value),B2≠B→t2≠e→Boxed W B2 t2 u→Boxed (w1.setCell ⟨B,0,none⟩ v') B2 t2 u:=by
 have hv1:Boxed w1 B t v:=hv.kept hg (hv.not_row hte hrow)
 refine⟨hv1,hv1.set v',hown.kept (grownBy_setCell' w1 B v') (.inr (hv1.not_row hte hown).symm),?_,?_,fun B2 t2 u hne h2 hu=>qbe (hu.kept hg (hu.not_row h2 hrow)) hne⟩
 ·
  refine(KeepsOthers.of_grownBy hg fun j o ej hj => ?_).trans (KeepsOthers.setCell _ _ _)
  rcases hrow.2 with ⟨rfl,_⟩ | ⟨g,cap,cur,rfl,_,hgb,_⟩
  ·
   simp[Value.ownBlock] at ej
  ·
   obtain rfl:g=j:=by simpa[Value.ownBlock] using ej
   rw[hgb] at hj
   cases hj
   rfl
 ·
  exact((Below.refl n₀ W).grown hg hn₀ (fun j ej=>(zk hrow ej).1)).setCell (p:=⟨B,0,none⟩) hB v'
end
end Go.Proofs.YtjfecojdagmacaaGreat
