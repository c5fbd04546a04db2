/-
  Lemmas.
-/
import Derived.Test.YtnjkipnklpkaoaaGreatA08
import Derived.LoopIn
import Derived.LoopNIn
import Derived.OwnWalk
import Derived.OwnWalkIn
import Derived.RangeFuncBound
import Derived.RangeFuncBox
import Derived.RangeFuncCalls
import Derived.RangeFuncLeaves
import Derived.RangeFuncNested
import Derived.Shelf.Abstract
import Derived.Shelf.RegionOpen
import Derived.TacticsInMore
namespace Go.Proofs.YtnjkipnklpkaoaaGreat
open Go.RowKit
set_option maxRecDepth 20000
set_option maxHeartbeats 16000000
set_option linter.unusedSimpArgs false
set_option linter.unusedVariables false
structure Part where
 A:Option Addr
 c:Nat
 bs:List UInt8
def Part.val(p:Part):Value:= .slice p.A p.bs.length p.c
def Part.rd(p:Part)(w:World)(hi:Nat):Prop:=Rd w 0 hi p.A p.c (bv p.bs)
def xl(ps:List Part):List UInt8:=ps.flatMap (·.bs)
theorem qq8(ps:List Part){k:Nat}(hk:k<ps.length):xl (ps.take (k+1))=xl (ps.take k)++ps[k].bs:=by
 unfold xl
 rw[qg hk,List.flatMap_append]
 simp
theorem Tryz.infoBs:(Tryz.prog.info? 26).map (fun i=>(i.zero,i.size,i.bytes))=some (some (.slice none 0 0),1,24):=by kernel_rfl
def pv(ps:List Part):List Value:=ps.map Part.val
theorem qfa(ps:List Part):(pv ps).length=ps.length:=by simp[pv]
theorem pv_append(a b:List Part):pv (a++b)=pv a++pv b:=by simp[pv]
theorem pv_get(ps:List Part)(k:Nat)(h:k<ps.length):(pv ps)[k]? = some (.slice ps[k].A ps[k].bs.length ps[k].c):=by
 simp[pv,qe h,Part.val]
theorem pv_one(ps:List Part):∀u∈pv ps,u.oneCell'=true:=by
 intro u hu
 obtain⟨p,_,rfl⟩:=zn.1 hu
 rfl
def qm4(ps:List Part):List (List UInt8):=ps.map (·.bs)
theorem qkt(ps:List Part):(qm4 ps).length=ps.length:=by simp[qm4]
def qrw(w:World)(lo hi:Nat)(ps:List Part):Prop:=∀p∈ps,Rd w lo hi p.A p.c (bv p.bs)
section
variable {w w':World}{lo hi lo' hi' B:Nat}{ps:List Part}
theorem qrw.nil(w:World)(lo hi:Nat):qrw w lo hi []:=fun p hp=>(by cases hp)
theorem qrw.below(h:qrw w lo hi ps)(hb:Below B w w')(hB:hi≤B):qrw w' lo hi ps:=fun p hp=>(h p hp).below hb hB
theorem qrw.wide(h:qrw w lo hi ps)(h1:lo'≤lo)(h2:hi≤hi'):qrw w lo' hi' ps:=fun p hp=>(h p hp).wide h1 h2
theorem qrw.grown{row:Option Nat}(h:qrw w lo hi ps)(hg:w.grownBy w' row)(hB:hi≤w.heap.size)(hr:∀g,row=some g→g<lo∨hi≤g):qrw w' lo hi ps:=fun p hp=>(h p hp).grown hg hB hr
theorem qrw.push(h:qrw w lo hi ps){p:Part}(hp:Rd w lo hi p.A p.c (bv p.bs)):qrw w lo hi (ps++[p]):=fun q hq=>by
 rcases zt.1 hq with hq | hq
 ·
  exact h q hq
 ·
  rw[zo.1 hq];exact hp
theorem qrw.keep(h:qrw w lo hi ps)(hk:∀p:Addr,lo≤p.block→p.block<hi→w'.cell? p=w.cell? p):qrw w' lo hi ps:=fun p hp=>(h p hp).keep hk
end
structure PR (w:World) (base:Nat) (v:Value) (n:Nat) (ps:List Part):Prop where
 len:ps.length=n
 own:w.ownsRow base 26 1 v n (pv ps)
 rd:qrw w base w.heap.size ps
 apart:∀p∈ps,0<p.bs.length→∀b off,p.A=some ⟨b,off,none⟩→v.ownBlock≠some b
section
variable {w w':World}{base n:Nat}{v:Value}{ps:List Part}
theorem PR.nil(w:World)(base:Nat):PR w base (.slice none 0 0) 0 []:=⟨rfl,⟨rfl,.inl ⟨rfl,rfl⟩⟩,qrw.nil _ _ _,fun p hp=>(by cases hp)⟩
theorem PR.below{B:Nat}(h:PR w base v n ps)(hb:Below B w w')(hB:w.heap.size≤B):PR w' base v n ps :=
 ⟨h.len,js h.own hb hB,(h.rd.below hb hB).wide (qc _) hb.size,h.apart⟩
theorem PR.alloc(h:PR w base v n ps)(o:Obj):PR (w.alloc o) base v n ps:=h.below ((Below.refl _ _).alloc (qc _) o) (qc _)
theorem PR.drewN(h:PR w base v n ps)(m:Nat):PR (w.drewN m) base v n ps:=h.below (zg (Below.refl _ _) m) (qc _)
theorem PR.cur{g:Nat}(h:PR w base v n ps)(hg:w.grownBy w' (some g))(hgb:g<base):PR w' base v n ps :=
 ⟨h.len,ju h.own fun k hk=>hg.block k (zk h.own hk).2 (fun e=>by injection e with e;have:=(zk h.own hk).1;omega),
  (h.rd.grown hg (qc _) fun k hk=>by cases hk;exact .inl hgb).wide (qc _) hg.size,h.apart⟩
end
theorem PR.read{w:World}{base n c:Nat}{A:Option Addr}{ps:List Part}(h:PR w base (.slice A n c) n ps):Rd w base w.heap.size A c (pv ps):=Rd.of_own h.own
theorem PR.fresh{w w5:World}{base n hi c:Nat}{v:Value}{A:Option Addr}{ps:List Part}{bs:List UInt8}(h:PR w base v n ps)(hr:Rd w5 w.heap.size hi A c (bv bs)) :
  0<bs.length→∀b off,A=some ⟨b,off,none⟩→v.ownBlock≠some b:=fun h0 b off e e2=>by
 obtain⟨b',off',e',h1,_⟩:=hr.at_ (by rw[yh];exact h0)
 rw[e] at e'
 cases e'
 have:=(zk h.own e2).2
 omega
theorem qdc{ops:Array Oper}{rest:List Oper}{o:Oper}{a:Act}{Q:Exit→Act→World→Prop}{w:World}{v:Value}{g n:Nat}(base:Nat)(ys:List Part)(z:Part)(hgd:o.guard=none)(s x:Operand)
  (ho:o.op= .call { callee:= .builtin .append,args:=#[s,x],argTypes:=#[103,103] }) (hty:o.type=103)
  (hs:a.eval s=v) (hx:a.eval x= .slice (some ⟨g,0,none⟩) 1 1) (hcell:w.cell? ⟨g,0,none⟩=some (.slice z.A z.bs.length z.c))
  (hown:PR w base v n ys) (hz:Rd w base w.heap.size z.A z.c (bv z.bs)) (hza:0<z.bs.length→∀b off,z.A=some ⟨b,off,none⟩→v.ownBlock≠some b) (hb:n+1≤1099511627776) (hbase:base≤w.heap.size)
  (h:∀A' c' w',PR w' base (.slice A' (n+1) c') (n+1) (ys++[z])→w.grownBy w' v.ownBlock→wpList Tryz.prog ops Q rest (a.put o.dst (.slice A' (n+1) c')) w') :
  wpList Tryz.prog ops Q (o :: rest) a w:=by
 obtain⟨hlen,hw,hrd,hap⟩:=hown
 subst hlen
 have hr:Rd w 0 w.heap.size (some ⟨g,0,none⟩) 1 (pv [z]):=⟨by simp[pv],by simp[maxLen],fun _=>⟨g,0,rfl,qi _,yv w _ hcell,fun j u hu=>by
  match j,hu with
  | 0,hu =>
   simp[pv,Part.val] at hu
   subst hu
   exact hcell
  | j+1,hu=>simp[pv] at hu⟩⟩
 obtain⟨i0,hi0,hz0,hz1,hz2⟩:=info_parts Tryz.infoBs
 obtain⟨A',c',w',hrun,h2,h3,h4⟩:=ui (P:=Tryz.prog) w base 103 103 26 i0 _ 24 Tryz.underlying103 hi0 hz0 hz1 hz2 rfl v ys.length (pv ys) hw 0 w.heap.size _ 1 (pv [z]) hr (pv_one _)
  (by simp[pv,maxLen];omega) (by simp[pv];omega) hbase
 have hl:(pv [z]).length=1:=rfl
 rw[hl] at hrun h2 h4
 have hkeep:∀p∈ys++[z],Rd w' base w.heap.size p.A p.c (bv p.bs)∧(0<p.bs.length→∀b off,p.A=some ⟨b,off,none⟩→v.ownBlock≠some b)∧(0<p.bs.length→∀b off,p.A=some ⟨b,off,none⟩→b<w.heap.size):=fun p hp=>by
  have hpr:Rd w base w.heap.size p.A p.c (bv p.bs)∧(0<p.bs.length→∀b off,p.A=some ⟨b,off,none⟩→v.ownBlock≠some b):=by
   rcases zt.1 hp with hp | hp
   ·
    exact⟨hrd p hp,hap p hp⟩
   ·
    rw[zo.1 hp];exact⟨hz,hza⟩
  refine⟨⟨hpr.1.len,hpr.1.cap,fun h0 => ?_⟩,hpr.2,fun h0 b off e => ?_⟩
  ·
   obtain⟨b,off,e,h5,h6,h7⟩:=hpr.1.at_ h0
   rw[yh] at h0
   exact⟨b,off,e,h5,h6,fun j u hu=>(qbk (h3.block b h6 (fun e2=>hpr.2 h0 b off e e2.symm))).trans (h7 j u hu)⟩
  ·
   obtain⟨b',off',e',h5,h6,h7⟩:=hpr.1.at_ (by rw[yh];exact h0)
   rw[e] at e'
   cases e'
   exact h6
 refine wpList_append_run hgd s x _ _ ho hs hx (by rw[hty];exact hrun) (h A' c' w' ⟨by simp,by rw[pv_append];exact h2,fun p hp=>(hkeep p hp).1.wide (qc _) h3.size,fun p hp h0 b off e => ?_⟩ h3)
 rcases h4 with h4 | h4
 ·
  rw[h4];exact(hkeep p hp).2.1 h0 b off e
 ·
  rw[h4]
  intro e2
  injection e2 with e2
  have:=(hkeep p hp).2.2 h0 b off e
  omega
theorem make_parts(w:World)(n:Nat)(h:n≤4294967295):∃w1,(Instr.makeSlice 103 (.int .i64 (n:Int)) (.int .i64 (n:Int))).run Tryz.prog w= .ok (.slice (some ⟨w.heap.size,0,none⟩) n n) w1∧
  w1.ownsRow w.heap.size 26 1 (.slice (some ⟨w.heap.size,0,none⟩) n n) n (List.replicate n (.slice none 0 0))∧w.grownBy w1 none:=by
 obtain⟨i0,hi0,hz0,hz1,hz2⟩:=info_parts Tryz.infoBs
 have:=run_make_full (P:=Tryz.prog) w w.heap.size 103 26 i0 _ 1 Tryz.underlying103 hi0 hz0 hz1 .i64 .i64 n (by rw[hz2];omega) (by simp only[maxLen];omega) (qc _)
 rw[va,show(Value.slice none 0 0).cells=#[.slice none 0 0] from rfl,toList_madeCells_one] at this
 exact this
theorem Rd.part{w:World}{lo hi c:Nat}{A:Option Addr}{ps:List Part}(h:Rd w lo hi A c (pv ps)){k:Nat}(hk:k<ps.length) :
  ∃b off,A=some ⟨b,off,none⟩∧lo≤b∧b<hi∧w.cell? ⟨b,off+k,none⟩=some (.slice ps[k].A ps[k].bs.length ps[k].c):=by
 obtain⟨b,off,e,h1,h2,h3⟩:=h.at_ (by rw[qfa];omega)
 exact⟨b,off,e,h1,h2,h3 k _ (pv_get ps k hk)⟩
theorem qoa{a w w':World}{g:Nat}{v:Value}(h:a.grownBy w (some g))(h2:w.grownBy w' v.ownBlock)(hx:∀q,v.ownBlock=some q→a.heap.size≤q):a.grownBy w' (some g):=by
 cases ho:v.ownBlock with
 | none=>rw[ho] at h2;exact h.trans (qg6 h2)
 | some q=>rw[ho] at h2;exact gb_more h h2 (hx q ho)
theorem qf1{w w':World}{base n g:Nat}{e:TypeId}{size:Nat}{v:Value}{xs:List Value}(h:w.ownsRow base e size v n xs)(hg:w.grownBy w' (some g))(hb:g<base):w'.ownsRow base e size v n xs :=
 ju h fun k hk=>hg.block k (zk h hk).2 (fun e=>by injection e with e;have:=(zk h hk).1;omega)
theorem count_any{w:World}(l:List Bool){lo h':Nat}{A:Option Addr}{c:Nat}(h:Rd w lo h' A c (lv l)) :
  Calls Tryz.prog 171 #[.slice A l.length c] w fun r w'=>r= .returned (.int .i64 (cnt l:Int))∧w=w':=by
 have hl:=h.len
 have hc:=h.cap
 rw[vk] at hl
 unfold maxLen at hc
 have H:=qa h
 clear h
 go_enter Tryz.func171,Tryz.ntmps171
 go_wp2_with fail
 go_loop [3,8] (fun n i=>∃k:Nat,k≤l.length∧i= .int .i64 (k:Int)∧n= .int .i64 (cnt (l.take k):Int)) (fun _ i=>l.length-(intOf i).toNat)
 case atStart=>exact⟨0,qi _,rfl,rfl⟩
 case round =>
  obtain⟨k,hk,rfl,rfl⟩:=hrel
  by_cases hlt:k<l.length
  ·
   obtain⟨b,off,rfl,_,_,hcell⟩:=H.out.row hlt
   have hts:=qa (cnt_take l k hlt)
   have hle:=cnt_take_le l k
   generalize cnt (l.take k)=m at *
   cases hx:l[k]
   ·
    rw[hx] at hcell hts
    go_wp2
    go_round
    case rel=>exact⟨k+1,by omega,by go_num,by rw[hts.out];rfl⟩
    case measure=>simp[intOf];omega
   ·
    rw[hx] at hcell hts
    go_wp2
    go_round
    case rel=>exact⟨k+1,by omega,by go_num,by rw[hts.out];go_num⟩
    case measure=>simp[intOf];omega
  ·
   obtain rfl:k=l.length:=by omega
   rw[yf]
   go_wp2
   go_ret
   exact⟨rfl,rfl⟩
theorem tailS(s:ByteArray)(k:Nat):(s.extract k s.size).data.toList=s.data.toList.drop k:=by
 rw[qb1,qep]
 rw[qcf,qo (by rw[qu,qgq];omega)]
theorem dropS{s:ByteArray}{k:Nat}(h:k<s.size):s.data.toList.drop k=s[k] :: s.data.toList.drop (k+1):=by
 rw[zv (by rw[qgq];exact h)]
 rfl
theorem str_etaU(u:ByteArray):(⟨u.data.toList.toArray⟩:ByteArray)=u:=by
 rcases u with ⟨d⟩
 rfl
structure Pc where
 s:ByteArray
 e:Nat
 h:s.size≤8
def Pc.lit(y:UInt8):Pc:=⟨⟨#[y]⟩,0,by show 1≤8;decide⟩
def Pc.err(k:Nat):Pc:=⟨⟨#[]⟩,k,by show 0≤8;decide⟩
section
variable (l:List ByteArray)(h8:∀t∈l,t.size≤8)
def qi2:Bool→List UInt8→List Pc
 | true,[]=>[Pc.err 2]
 | false,[]=>[]
 | true,y :: r=>Pc.lit y :: qi2 false r
 | false,x :: r=>if x.toNat=255 then qi2 true r else if hx:x.toNat<l.length then ⟨l[x.toNat],0,h8 _ (qj hx)⟩ :: qi2 false r else [Pc.err 3]
end
section
variable {l:List ByteArray}{h8:∀t∈l,t.size≤8}{bs:List UInt8}{k:Nat}
theorem pc_cut:qi2 l h8 true (bs.drop bs.length)=[Pc.err 2]:=by rw[qat,qi2]
theorem pc_end:qi2 l h8 false (bs.drop bs.length)=[]:=by rw[qat,qi2]
theorem pc_esc(h:k<bs.length)(hx:bs[k].toNat=255):qi2 l h8 false (bs.drop k)=qi2 l h8 true (bs.drop (k+1)):=by
 rw[zv h,qi2,if_pos hx]
theorem pc_lit(h:k<bs.length):qi2 l h8 true (bs.drop k)=Pc.lit bs[k] :: qi2 l h8 false (bs.drop (k+1)):=by
 rw[zv h,qi2]
theorem pc_sym(h:k<bs.length)(hx:¬bs[k].toNat=255)(hl:bs[k].toNat<l.length):qi2 l h8 false (bs.drop k)=⟨l[bs[k].toNat],0,h8 _ (qj hl)⟩ :: qi2 l h8 false (bs.drop (k+1)):=by
 rw[zv h,qi2,if_neg hx,dif_pos hl]
theorem pc_bad(h:k<bs.length)(hx:¬bs[k].toNat=255)(hl:¬bs[k].toNat<l.length):qi2 l h8 false (bs.drop k)=[Pc.err 3]:=by
 rw[zv h,qi2,if_neg hx,dif_neg hl]
theorem pc_len:∀(bs:List UInt8) (f:Bool),(qi2 l h8 f bs).length≤bs.length+(if f then 1 else 0)
 | [],true=>by rw[qi2];simp
 | [],false=>by rw[qi2];simp
 | y :: r,true=>by
  rw[qi2,qt,qt]
  have:=pc_len r false
  simp at this ⊢
  omega
 | x :: r,false=>by
  rw[qi2]
  have h1:=pc_len r true
  have h2:=pc_len r false
  simp only[if_true,qam,if_false,qt] at h1 h2 ⊢
  split
  ·
   omega
  ·
   split
   ·
    rw[qt];omega
   ·
    simp
end
def dP(most:Int):List Pc→List UInt8→List UInt8×Nat
 | [],o=>(o,0)
 | x :: r,o=>if x.e≠0 then ([],x.e) else if most<((o.length+x.s.size:Nat):Int) then ([],6) else dP most r (o++x.s.data.toList)
section
variable {l:List ByteArray}{h8:∀t∈l,t.size≤8}{most:Int}
theorem dP_dec:∀(m:Nat) (bs o:List UInt8) (n:Nat),bs.length≤m→(qe3 (qm l) most bs o n).1=(dP most (qi2 l h8 false bs) o).1∧(qe3 (qm l) most bs o n).2.1=(dP most (qi2 l h8 false bs) o).2:=by
 intro m
 induction m with
 | zero =>
  intro bs o n h
  obtain rfl:bs=[]:=zd (by omega)
  rw[dec_nil,qi2,dP]
  exact⟨rfl,rfl⟩
 | succ m ih =>
  intro bs o n h
  rcases bs with _ | ⟨x,r⟩
  ·
   rw[dec_nil,qi2,dP]
   exact⟨rfl,rfl⟩
  ·
   rw[qt] at h
   by_cases hx:x.toNat=255
   ·
    obtain rfl:x=255:=qbd.1 hx
    rw[qi2,if_pos hx]
    rcases r with _ | ⟨y,r⟩
    ·
     rw[dec_end,qi2,dP,if_pos (by decide)]
     exact⟨rfl,rfl⟩
    ·
     rw[qt] at h
     rw[dec_lit,qi2,dP,if_neg (show ¬(Pc.lit y).e≠0 from fun h=>h rfl)]
     have e1:((o++[y]).length:Int)=((o.length+(Pc.lit y).s.size:Nat):Int):=by rw[qd];rfl
     rw[e1]
     split
     ·
      exact⟨rfl,rfl⟩
     ·
      exact ih r (o++[y]) (n+1) (by omega)
   ·
    rw[qi2,if_neg hx]
    have hx2:x≠255:=fun e=>hx (by rw[e];rfl)
    by_cases hl:x.toNat<l.length
    ·
     rw[dif_pos hl,dP,if_neg (by simp)]
     have hg:(qm l)[x.toNat]? = some l[x.toNat].data.toList:=by
      rw[qe (by rw[qx];exact hl),yq]
     rw[dec_sym _ _ _ hx2 hg]
     have e1:((o++l[x.toNat].data.toList).length:Int)=((o.length+l[x.toNat].size:Nat):Int):=by rw[qd,qgq]
     rw[e1]
     split
     ·
      exact⟨rfl,rfl⟩
     ·
      exact ih r _ (n+1) (by omega)
    ·
     rw[dif_neg hl,dP,if_pos (by decide),dec_wrong _ _ _ hx2 (by rw[qx];omega)]
     exact⟨rfl,rfl⟩
end
section
open Go.RowKit Go.Shelf
attribute [local go_sem] Oper.semAt_some
structure Kp2 (n₀ Bb Bt:Nat) (W W':World):Prop where
 below:Below n₀ W W'
 b:W'.heap[Bb]? = W.heap[Bb]?
 t:W'.heap[Bt]? = W.heap[Bt]?
theorem Kp2.trans{n₀ Bb Bt:Nat}{A B C:World}(h:Kp2 n₀ Bb Bt A B)(k:Kp2 n₀ Bb Bt B C):Kp2 n₀ Bb Bt A C:=⟨h.below.trans k.below,k.b.trans h.b,k.t.trans h.t⟩
theorem Kp2.refl(n₀ Bb Bt:Nat)(W:World):Kp2 n₀ Bb Bt W W:=⟨Below.refl _ _,rfl,rfl⟩
theorem Kp2.cellb{n₀ Bb Bt:Nat}{A B:World}(h:Kp2 n₀ Bb Bt A B):B.cell? ⟨Bb,0,none⟩=A.cell? ⟨Bb,0,none⟩:=qbk h.b
theorem Kp2.cellt{n₀ Bb Bt:Nat}{A B:World}(h:Kp2 n₀ Bb Bt A B):B.cell? ⟨Bt,0,none⟩=A.cell? ⟨Bt,0,none⟩:=qbk h.t
theorem qck{X Y:World}{row:Option Nat}{B:Nat}{t:TypeId}{v:Value}(h:Boxed X B t v)(hg:X.grownBy Y row)(hr:∀r,row=some r→∃o:Obj,X.heap[r]? = some o∧o.isCells=false):Boxed Y B t v :=
 h.kept hg fun e=>by
  obtain⟨o,ho,hc⟩:=hr B e.symm
  rw[show X.heap[B]? = _ from h] at ho
  cases ho
  cases hc
theorem row_keep{X Y:World}{row:Option Nat}{base:Nat}{e:TypeId}{size n:Nat}{v:Value}{xs:List Value}(h:X.ownsRow base e size v n xs)(hg:X.grownBy Y row)(hr:∀r,row=some r→∃o:Obj,X.heap[r]? = some o∧o.isCells=false):Y.ownsRow base e size v n xs:=by
 refine h.kept hg ?_
 rcases h.2 with ⟨rfl,_⟩ | ⟨g,cap,cur,rfl,_,hgb,_⟩
 ·
  exact .inl rfl
 ·
  refine .inr fun e' => ?_
  obtain⟨o,ho,hc⟩:=hr g (by simpa[Value.ownBlock] using e'.symm)
  rw[hgb] at ho
  cases ho
  cases hc
theorem qcz{X:World}{B B2:Nat}{t:TypeId}{v u:Value}(h:Boxed X B t v)(hne:B≠B2):Boxed (X.setCell ⟨B2,0,none⟩ u) B t v:=h.kept (grownBy_setCell' X B2 u) (fun e=>hne (by injection e))
theorem qm6{X:World}{D B:Nat}{t:TypeId}{v:Value}{o:Obj}(h:Boxed X B t v)(o':Obj)(hD:X.heap[D]? = some o)(ho:o.isCells=false):Boxed (X.putObj D o') B t v:=qck h (grownBy_putObj' X D o') fun r e=>by cases e;exact⟨o,hD,ho⟩
theorem qfi{F:Fence}{n:Nat}{P:Program}{w:World}{ops:Array Oper}{rest:List Oper}{o:Oper}{a:Act}{Q:Exit→Act→World→Prop}
  (hg:o.guard=none) (s x:Operand) (tys:Array TypeId) (hop:o.op=Op.call { callee:=Callee.builtin Builtin.append,args:=#[s,x],argTypes:=tys }) (v y:Value) (hs:a.eval s=v) (hx:a.eval x=y) {r:Value} {w':World}
  (hrun:(Builtin.append_ tys o.type #[v,y]).run P w= .ok r w') (hK:wpListIn F n P ops Q rest (a.put o.dst r) w') :
  wpListIn F n P ops Q (o :: rest) a w:=by
 refine wpListIn_plain hg fun K hK' => ?_
 unfold Oper.wpIn
 refine⟨?_,?_⟩
 ·
  simp[Oper.about,hop,resolve,Target.leads,Sem.run_pure]
 ·
  rw[Oper.semAt_plain F _ _ (by rw[hop];intro c hc';cases hc')]
  simp[execOp,hop,resolve,invoke,builtin,hs,hx,hrun,Result.andThen]
  exact hK' _ _ hK
theorem appendedS{W w1:World}{n₀ B m:Nat}{t e:TypeId}{v v':Value}{k:Nat}{xs ys:List Value}(hv:Boxed W B t v)(hte:t≠e)(hrow:W.ownsRow n₀ e 1 v k xs)(hB:n₀≤B)(hn₀:n₀≤W.heap.size)(hown:w1.ownsRow n₀ e 1 v' m ys)(hg:W.grownBy w1 v.ownBlock) :
  Boxed w1 B t v∧Boxed (w1.setCell ⟨B,0,none⟩ v') B t v'∧(w1.setCell ⟨B,0,none⟩ v').ownsRow n₀ e 1 v' m ys∧KeepsOthers W (w1.setCell ⟨B,0,none⟩ v')∧Below n₀ W (w1.setCell ⟨B,0,none⟩ v')∧
   ∀(B2:Nat) (t2:TypeId) (u:Value),B2≠B→t2≠e→Boxed W B2 t2 u→Boxed (w1.setCell ⟨B,0,none⟩ v') B2 t2 u:=by
 have hv1:Boxed w1 B t v:=hv.kept hg (hv.not_row hte hrow)
 refine⟨hv1,hv1.set v',hown.kept (grownBy_setCell' w1 B v') (.inr (hv1.not_row hte hown).symm),?_,?_,fun B2 t2 u hne h2 hu=>qcz (hu.kept hg (hu.not_row h2 hrow)) hne⟩
 ·
  refine(KeepsOthers.of_grownBy hg fun j o ej hj => ?_).trans (KeepsOthers.setCell _ _ _)
  rcases hrow.2 with ⟨rfl,_⟩ | ⟨g,cap,cur,rfl,_,hgb,_⟩
  ·
   simp[Value.ownBlock] at ej
  ·
   obtain rfl:g=j:=by simpa[Value.ownBlock] using ej
   rw[hgb] at hj
   cases hj
   rfl
 ·
  exact((Below.refl n₀ W).grown hg hn₀ (fun j ej=>(zk hrow ej).1)).setCell (p:=⟨B,0,none⟩) hB v'
end
section
open Go.RowKit Go.Shelf
attribute [local go_sem] Oper.semAt_some
def piecesV(Bb Bt:Nat):Array Value:=#[.pointer (some ⟨Bb,0,none⟩),.pointer (some ⟨Bt,0,none⟩)]
def encPc(x:Pc):Array Value:=#[.string x.s,.int .i64 (x.e:Int)]
set_option maxRecDepth 100000 in
set_option maxHeartbeats 4000000 in
theorem pieces1_in(F:Fence)(n:Nat)(hf:F.fn 225)(hro:F.round=none)(hn:1≤n)(lp Bb Bt n₀:Nat)(l:List ByteArray)(h8:∀t∈l,t.size≤8)(hln:l.length≤255)(bs:List UInt8)(hbl:bs.length≤1000000){c c2:Nat}{A B:Option Addr}(J Jx:List Pc→World→Prop)
  (hY:∀pre x W,J pre W→pre.length<(qi2 l h8 false bs).length→YieldAt F (n-1) Tryz.prog lp (encPc x) W fun e W' =>
   (e= .returned (.bool true)∧J (pre++[x]) W'∧Kp2 n₀ Bb Bt W W')∨(e= .returned (.bool false)∧Jx (pre++[x]) W'))
  (W:World) (hBb:W.cell? ⟨Bb,0,none⟩=some (.slice B bs.length c2)) (hBt:W.cell? ⟨Bt,0,none⟩=some (.slice A l.length c)) (hb:Rd W 0 n₀ B c2 (bv bs)) (ht:Rd W 0 n₀ A c (sv l)) (h0:J [] W) :
  CallsIn F n Tryz.prog 225 #[.func (.yield lp) #[] #[],.pointer (some ⟨Bb,0,none⟩),.pointer (some ⟨Bt,0,none⟩)] W fun e W'=>(∃v,e= .returned v)∧
   ((∃ys,ys=qi2 l h8 false bs∧J ys W')∨(∃pre,pre <+: qi2 l h8 false bs∧Jx pre W')):=by
 have hl:=hb.len
 have hm:=hb.cap
 have hl1:=ht.len
 have hm1:=ht.cap
 rw[yg] at hl1
 rw[yh] at hl
 unfold maxLen at hm hm1
 have HB:=qa hb
 have HT:=qa ht
 have HY:=qa hY
 obtain⟨ps,hps⟩:∃ps,qi2 l h8 false bs=ps:=⟨_,rfl⟩
 rw[hps] at HY ⊢
 have HPS:=qa hps
 clear hb ht hY hps
 refine callsIn_of_wp Tryz.func225 rfl hf ?_ hro
 simp only[Tryz.ntmps225,qby,qt,je,Nat.reduceAdd,Nat.reduceSub,qer,qeq,List.push_toArray,qfm,yk,z6]
 gi_wp2
 gi_loopw [4,11] (fun x4 x11 wr=>∃(k:Nat) (f:Bool) (pre:List Pc),k≤bs.length∧x4= .bool f∧x11= .int .i64 (k:Int)∧pre++qi2 l h8 f (bs.drop k)=ps∧J pre wr∧Kp2 n₀ Bb Bt W wr) (fun _ i _=>bs.length-(intOf i).toNat)
 case atStart=>exact⟨0,false,[],qi _,rfl,rfl,by rw[jx,HPS.out];rfl,h0,Kp2.refl _ _ _ _⟩
 case round =>
  obtain⟨k,f,pre,hk,rfl,rfl,hpre,hJs,hkp⟩:=hrel
  have HPRE:=qa hpre
  have HKP:=qa hkp
  have hcb:wr.cell? ⟨Bb,0,none⟩=some (.slice B bs.length c2):=hkp.cellb.trans hBb
  have hct:wr.cell? ⟨Bt,0,none⟩=some (.slice A l.length c):=hkp.cellt.trans hBt
  clear hpre hkp
  by_cases hlt:k<bs.length
  ·
   have ik:(k:Int)<(bs.length:Int):=by omega
   obtain⟨b,off,rfl,hb1,hb2,hcell⟩:=(HB.out.below HKP.out.below (qc _)).byte hlt
   have lx:bs[k].toNat<256:=zp _
   cases f with
   | true =>
    have hpc:=HPRE.out
    rw[pc_lit hlt] at hpc
    obtain⟨fn,tmps,assign,body,hy,hR⟩:=HY.out pre (Pc.lit bs[k]) wr hJs (by rw[←hpc];simp)
    dsimp only[encPc,Pc.lit] at hy
    rw[show((0:Nat):Int)=0 from rfl] at hy
    have HPC:=qa hpc
    clear hpc
    have hcv:(convert 26 9 (.slice (some ⟨b,off+k,none⟩) 1 (c2-k))).run Tryz.prog wr= .ok (.string ⟨#[bs[k]]⟩) wr:=by
     refine ko (P:=Tryz.prog) wr 26 9 5 Tryz.underlying26 Tryz.underlying5 Tryz.underlying9 0 (b+1) _ _ [bs[k]] ⟨by simp[bv];omega,by simp only[maxLen];omega,fun _=>⟨b,off+k,rfl,qi _,by omega,fun j u hu => ?_⟩⟩
     match j,hu with
     | 0,hu =>
      simp[bv] at hu
      subst hu
      exact hcell
     | j+1,hu=>simp[bv] at hu
    by_cases hx:bs[k].toNat=255
    ·
     rw[hx] at hcell
     gi_wp2
     refine hR.mono ?_
     rintro e W3 (⟨rfl,hJ3,hk3⟩ | ⟨rfl,hJx3⟩)
     ·
      gi_wp2
      go_roundw
      case rel=>exact⟨k+1,false,pre++[Pc.lit bs[k]],by omega,rfl,by go_num,by rw[qv,xy];exact HPC.out,hJ3,HKP.out.trans hk3⟩
      case measure=>simp[intOf];omega
     ·
      gi_wp2
      refine bodyPost_ret (results_none rfl _ _ _) rfl ?_
      exact⟨⟨_,rfl⟩,.inr ⟨_,⟨qi2 l h8 false (bs.drop (k+1)),by rw[qv,xy];exact HPC.out⟩,hJx3⟩⟩
    ·
     have ix:¬(bs[k].toNat:Int)=255:=by omega
     have bx:((bs[k].toNat:Int)==255)=false:=by rw[qr];exact ix
     gi_wp2
     refine hR.mono ?_
     rintro e W3 (⟨rfl,hJ3,hk3⟩ | ⟨rfl,hJx3⟩)
     ·
      gi_wp2
      go_roundw
      case rel=>exact⟨k+1,false,pre++[Pc.lit bs[k]],by omega,rfl,by go_num,by rw[qv,xy];exact HPC.out,hJ3,HKP.out.trans hk3⟩
      case measure=>simp[intOf];omega
     ·
      gi_wp2
      refine bodyPost_ret (results_none rfl _ _ _) rfl ?_
      exact⟨⟨_,rfl⟩,.inr ⟨_,⟨qi2 l h8 false (bs.drop (k+1)),by rw[qv,xy];exact HPC.out⟩,hJx3⟩⟩
   | false =>
    by_cases hx:bs[k].toNat=255
    ·
     have hpc:=HPRE.out
     rw[pc_esc hlt hx] at hpc
     have HPC:=qa hpc
     clear hpc
     rw[hx] at hcell
     gi_wp2
     go_roundw
     case rel=>exact⟨k+1,true,pre,by omega,rfl,by go_num,HPC.out,hJs,HKP.out⟩
     case measure=>simp[intOf];omega
    ·
     have ix:¬(bs[k].toNat:Int)=255:=by omega
     have bx:((bs[k].toNat:Int)==255)=false:=by rw[qr];exact ix
     by_cases hxl:bs[k].toNat<l.length
     ·
      have i1:(bs[k].toNat:Int)<(l.length:Int):=by omega
      have d1:decide ((bs[k].toNat:Int)<(l.length:Int))=true:=qp (by omega)
      obtain⟨b1,off1,rfl,_,_,hcell1⟩:=(HT.out.below HKP.out.below (qc _)).str hxl
      have hpc:=HPRE.out
      rw[pc_sym hlt hx hxl] at hpc
      obtain⟨fn,tmps,assign,body,hy,hR⟩:=HY.out pre ⟨l[bs[k].toNat],0,h8 _ (qj hxl)⟩ wr hJs (by rw[←hpc];simp)
      dsimp only[encPc] at hy
      rw[show((0:Nat):Int)=0 from rfl] at hy
      have HPC:=qa hpc
      clear hpc
      gi_wp2
      refine hR.mono ?_
      rintro e W3 (⟨rfl,hJ3,hk3⟩ | ⟨rfl,hJx3⟩)
      ·
       gi_wp2
       go_roundw
       case rel=>exact⟨k+1,false,pre++[⟨l[bs[k].toNat],0,h8 _ (qj hxl)⟩],by omega,rfl,by go_num,by rw[qv,xy];exact HPC.out,hJ3,HKP.out.trans hk3⟩
       case measure=>simp[intOf];omega
      ·
       gi_wp2
       refine bodyPost_ret (results_none rfl _ _ _) rfl ?_
       exact⟨⟨_,rfl⟩,.inr ⟨_,⟨qi2 l h8 false (bs.drop (k+1)),by rw[qv,xy];exact HPC.out⟩,hJx3⟩⟩
     ·
      have i1:¬(bs[k].toNat:Int)<(l.length:Int):=by omega
      have d1:decide ((bs[k].toNat:Int)<(l.length:Int))=false:=ql (by omega)
      have hpc:=HPRE.out
      rw[pc_bad hlt hx hxl] at hpc
      obtain⟨fn,tmps,assign,body,hy,hR⟩:=HY.out pre (Pc.err 3) wr hJs (by rw[←hpc];simp)
      dsimp only[encPc,Pc.err] at hy
      rw[show((3:Nat):Int)=3 from rfl] at hy
      have HPC:=qa hpc
      clear hpc
      gi_wp2
      refine hR.mono ?_
      rintro e W3 (⟨rfl,hJ3,hk3⟩ | ⟨rfl,hJx3⟩)
      ·
       gi_wp2
       refine bodyPost_ret (results_none rfl _ _ _) rfl ?_
       exact⟨⟨_,rfl⟩,.inl ⟨_,HPC.out,hJ3⟩⟩
      ·
       gi_wp2
       refine bodyPost_ret (results_none rfl _ _ _) rfl ?_
       exact⟨⟨_,rfl⟩,.inr ⟨_,⟨[],by rw[jj];exact HPC.out⟩,hJx3⟩⟩
  ·
   have ik:¬(k:Int)<(bs.length:Int):=by omega
   obtain rfl:k=bs.length:=by omega
   cases f with
   | true =>
    have hpc:=HPRE.out
    rw[pc_cut] at hpc
    obtain⟨fn,tmps,assign,body,hy,hR⟩:=HY.out pre (Pc.err 2) wr hJs (by rw[←hpc];simp)
    dsimp only[encPc,Pc.err] at hy
    rw[show((2:Nat):Int)=2 from rfl] at hy
    have HPC:=qa hpc
    clear hpc
    gi_wp2
    refine hR.mono ?_
    rintro e W3 (⟨rfl,hJ3,hk3⟩ | ⟨rfl,hJx3⟩)
    ·
     gi_wp2
     go_end0
     exact⟨⟨_,rfl⟩,.inl ⟨_,HPC.out,hJ3⟩⟩
    ·
     gi_wp2
     go_end0
     exact⟨⟨_,rfl⟩,.inr ⟨_,⟨[],by rw[jj];exact HPC.out⟩,hJx3⟩⟩
   | false =>
    have hpc:=HPRE.out
    rw[pc_end,jj] at hpc
    gi_wp2
    go_end0
    exact⟨⟨_,rfl⟩,.inl (hpc ▸ hJs)⟩
end
section
open Go.RowKit Go.Shelf
attribute [local go_sem] Oper.semAt_some
set_option maxRecDepth 100000 in
set_option maxHeartbeats 1000000 in
theorem pieces_in(F:Fence)(n:Nat)(hf:F.fn 203)(hro:F.round=none)(A B:Option Addr)(k c k2 c2:Nat)(w:World) :
  CallsIn F n Tryz.prog 203 #[.slice A k c,.slice B k2 c2] w fun e w'=>e= .returned (.func (.func 225) #[] (piecesV (w.heap.size+1) w.heap.size))∧w'=(w.alloc (.cells #[.slice A k c] 58)).alloc (.cells #[.slice B k2 c2] 26):=by
 refine callsIn_of_wp Tryz.func203 rfl hf ?_ hro
 simp only[Tryz.ntmps203,qby,qt,je,Nat.reduceAdd,Nat.reduceSub,qer,qeq,List.push_toArray,qfm,yk,z6]
 gi_wp2
 go_ret
 exact⟨rfl,rfl⟩
theorem pieces_stops(F:Fence)(n:Nat)(hf:F.fn 225)(hro:F.round=none)(hn:1≤n)(Bb Bt n₀:Nat)(l:List ByteArray)(h8:∀t∈l,t.size≤8)(hln:l.length≤255)(bs:List UInt8)(hbl:bs.length≤1000000){c c2:Nat}{A B:Option Addr}(w:World)
  (hBb:Boxed w Bb 26 (.slice B bs.length c2)) (hBt:Boxed w Bt 58 (.slice A l.length c)) (hn₀:n₀≤w.heap.size) (hb:Rd w 0 n₀ B c2 (bv bs)) (ht:Rd w 0 n₀ A c (sv l)) :
  SeqStopsK F n Tryz.prog 225 (piecesV Bb Bt) encPc (Kp2 n₀ Bb Bt) (fun ys=>ys=qi2 l h8 false bs) (fun pre=>pre <+: qi2 l h8 false bs) (qi2 l h8 false bs).length w:=fun lp J Jx W hW _ _ hY h0 =>
 pieces1_in F n hf hro hn lp Bb Bt n₀ l h8 hln bs hbl J Jx hY W ((hW.cell (p:=⟨Bb,0,none⟩) hBb.lt).trans hBb.cell) ((hW.cell (p:=⟨Bt,0,none⟩) hBt.lt).trans hBt.cell) (hb.below hW hn₀) (ht.below hW hn₀) h0
end
section
open Go.RowKit Go.Shelf
attribute [local go_sem] Oper.semAt_some
structure DB (most:Int) (A B:Option Addr) (k c k2 c2 b0 b4 b5:Nat) (W:World):Prop where
 m:Boxed W b0 3 (.int .i64 most)
 t:Boxed W b4 58 (.slice A k c)
 b:Boxed W b5 26 (.slice B k2 c2)
theorem DB.keep{most:Int}{A B:Option Addr}{k c k2 c2 b0 b4 b5:Nat}{X Y:World}{row:Option Nat}(h:DB most A B k c k2 c2 b0 b4 b5 X)(hg:X.grownBy Y row)(hr:∀r,row=some r→∃o:Obj,X.heap[r]? = some o∧o.isCells=false):DB most A B k c k2 c2 b0 b4 b5 Y :=
 ⟨qck h.m hg hr,qck h.t hg hr,qck h.b hg hr⟩
structure DI (most:Int) (A B:Option Addr) (k c k2 c2 b0 b1 b2 b3 b4 b5:Nat) (pre:List Pc) (W:World):Prop where
 db:DB most A B k c k2 c2 b0 b4 b5 W
 s:Boxed W b1 9 (.string ⟨#[]⟩)
 e:Boxed W b2 27 (.int .i64 0)
 row:∃(A':Option Addr) (c':Nat) (o:List UInt8),Boxed W b3 26 (.slice A' o.length c')∧W.ownsRow b0 5 1 (.slice A' o.length c') o.length (bv o)∧o.length≤8*pre.length∧(o.length:Int)≤most∧∀r,dP most (pre++r) []=dP most r o
structure DX (most:Int) (b1 b2:Nat) (pre:List Pc) (W:World):Prop where
 s:Boxed W b1 9 (.string ⟨#[]⟩)
 e:∃k:Nat,Boxed W b2 27 (.int .i64 (k:Int))∧∀r,dP most (pre++r) []=([],k)
theorem DI.own(most:Int)(A B:Option Addr)(k c k2 c2 b0 b1 b2 b3 b4 b5:Nat):Own (DI most A B k c k2 c2 b0 b1 b2 b3 b4 b5):=fun s X Y row h hg hr=>by
 obtain⟨A',c',o,h1,h2,h3⟩:=h.row
 exact⟨h.db.keep hg hr,qck h.s hg hr,qck h.e hg hr,A',c',o,qck h1 hg hr,row_keep h2 hg hr,h3⟩
theorem DX.own(most:Int)(b1 b2:Nat):Own (DX most b1 b2):=fun s X Y row h hg hr=>by
 obtain⟨k,h1,h2⟩:=h.e
 exact⟨qck h.s hg hr,k,qck h1 hg hr,h2⟩
theorem six_boxes(w:World)(t0 t1 t2 t3 t4 t5:TypeId)(v0 v1 v2 v3 v4 v5:Value):∃W,(((((w.alloc (.cells #[v0] t0)).alloc (.cells #[v1] t1)).alloc (.cells #[v2] t2)).alloc (.cells #[v3] t3)).alloc (.cells #[v4] t4)).alloc (.cells #[v5] t5)=W∧
  Boxed W w.heap.size t0 v0∧Boxed W (w.heap.size+1) t1 v1∧Boxed W (w.heap.size+1+1) t2 v2∧Boxed W (w.heap.size+1+1+1) t3 v3∧Boxed W (w.heap.size+1+1+1+1) t4 v4∧Boxed W (w.heap.size+1+1+1+1+1) t5 v5∧Below w.heap.size w W∧W.heap.size=w.heap.size+1+1+1+1+1+1:=by
 refine⟨_,rfl,?_,?_,?_,?_,?_,?_,?_,?_⟩
 ·
  exact(((((Boxed.new w t0 v0).alloc _).alloc _).alloc _).alloc _).alloc _
 ·
  have:=((((Boxed.new (w.alloc (.cells #[v0] t0)) t1 v1).alloc (.cells #[v2] t2)).alloc (.cells #[v3] t3)).alloc (.cells #[v4] t4)).alloc (.cells #[v5] t5)
  simpa only[yl] using this
 ·
  have:=(((Boxed.new ((w.alloc (.cells #[v0] t0)).alloc (.cells #[v1] t1)) t2 v2).alloc (.cells #[v3] t3)).alloc (.cells #[v4] t4)).alloc (.cells #[v5] t5)
  simpa only[yl] using this
 ·
  have:=((Boxed.new (((w.alloc (.cells #[v0] t0)).alloc (.cells #[v1] t1)).alloc (.cells #[v2] t2)) t3 v3).alloc (.cells #[v4] t4)).alloc (.cells #[v5] t5)
  simpa only[yl] using this
 ·
  have:=(Boxed.new ((((w.alloc (.cells #[v0] t0)).alloc (.cells #[v1] t1)).alloc (.cells #[v2] t2)).alloc (.cells #[v3] t3)) t4 v4).alloc (.cells #[v5] t5)
  simpa only[yl] using this
 ·
  have:=Boxed.new (((((w.alloc (.cells #[v0] t0)).alloc (.cells #[v1] t1)).alloc (.cells #[v2] t2)).alloc (.cells #[v3] t3)).alloc (.cells #[v4] t4)) t5 v5
  simpa only[yl] using this
 ·
  exact((((((Below.refl _ w).alloc (qc _) _).alloc (by simp only[yl];omega) _).alloc (by simp only[yl];omega) _).alloc (by simp only[yl];omega) _).alloc (by simp only[yl];omega) _).alloc (by simp only[yl];omega) _
 ·
  simp only[yl]
set_option maxRecDepth 100000 in
set_option maxHeartbeats 4000000 in
theorem fdecode_in(F:Fence)(n:Nat)(hf:F.fn 180)(hf1:F.fn 203)(hf2:F.fn 225)(hro:F.round=none)(hn:4≤n){w:World}(l:List ByteArray)(h8:∀t∈l,t.size≤8)(hln:l.length≤255)(bs:List UInt8)(hbl:bs.length≤1000000)(most:Int)(hm0:0≤most)(hm1:most≤9223372036854775807){c c2:Nat}{A B:Option Addr}(ht:Rd w 0 w.heap.size A c (sv l))(hb:Rd w 0 w.heap.size B c2 (bv bs)) :
  CallsIn F n Tryz.prog 180 #[.slice A l.length c,.slice B bs.length c2,.int .i64 most] w fun r w'=>r= .returned (.tuple #[.string ⟨(dP most (qi2 l h8 false bs) []).1.toArray⟩,.int .i64 ((dP most (qi2 l h8 false bs) []).2:Int)])∧Below w.heap.size w w':=by
 have h1:1≤n:=by omega
 refine callsIn_of_wp_marks Tryz.func180 rfl hf ?_ hro
 simp only[Tryz.ntmps180,qby,qt,je,Nat.reduceAdd,Nat.reduceSub,qer,qeq,List.push_toArray,qfm,yk,z6]
 gi_wp2_with (gi_at_call 203;refine(pieces_in F (n-1) hf1 hro _ _ _ _ _ _ _).mono ?_;rintro e w' ⟨rfl,rfl⟩)
 obtain⟨W6,hW6,x0,x1,x2,x3,x4,x5,hB0,hs6⟩:=six_boxes w 3 9 27 26 58 26 (.int .i64 most) (.string ⟨#[]⟩) (.int .i64 0) (.slice none 0 0) (.slice A l.length c) (.slice B bs.length c2)
 rw[hW6]
 clear hW6
 obtain⟨b1,e1⟩:∃b,w.heap.size+1=b:=⟨_,rfl⟩
 rw[e1] at x1 x2 x3 x4 x5 hs6 ⊢
 obtain⟨b2,e2⟩:∃b,b1+1=b:=⟨_,rfl⟩
 rw[e2] at x2 x3 x4 x5 hs6 ⊢
 obtain⟨b3,e3⟩:∃b,b2+1=b:=⟨_,rfl⟩
 rw[e3] at x3 x4 x5 hs6 ⊢
 obtain⟨b4,e4⟩:∃b,b3+1=b:=⟨_,rfl⟩
 rw[e4] at x4 x5 hs6 ⊢
 obtain⟨b5,e5⟩:∃b,b4+1=b:=⟨_,rfl⟩
 rw[e5] at x5 hs6 ⊢
 obtain⟨b0,e0⟩:∃b,w.heap.size=b:=⟨_,rfl⟩
 rw[e0] at x0 e1 hB0 ht hb ⊢
 refine wpIn_rangeFunc_ownG hro h1 (gf:=225) (lb:=piecesV b5 b4) rfl hf2 (enters_of Tryz.func225 (by kernel_rfl) rfl)
  (pieces_stops F (n-1) hf2 hro (by omega) b5 b4 b0 l h8 hln bs hbl W6 x5 x4 (by omega) (hb.below hB0 (qc _)) (ht.below hB0 (qc _)))
  Kp2.trans (fun W lk o o' hlk hk ho hwk=>⟨belowK_b (w:=W6) (by omega) W lk o o' hlk hk ho hwk,World.putObj_heap_other (by omega),World.putObj_heap_other (by omega)⟩) (Below.refl _ _) (fun _=>rfl)
  (fun pre W=>DI most A B l.length c bs.length c2 b0 b1 b2 b3 b4 b5 pre W∧Below b0 w W)
  (fun c pre W=>(c= .ret∧DX most b1 b2 pre W)∧Below b0 w W)
  (OwnFrom.and (Own.from (DI.own _ _ _ _ _ _ _ _ _ _ _ _ _) _) (ownFrom_below (by omega) (by omega)))
  (fun c=>OwnFrom.and (Own.from (fun s X Y row hs hg hr=>⟨hs.1,DX.own _ _ _ s X Y row hs.2 hg hr⟩) _) (ownFrom_below (by omega) (by omega)))
  ⟨⟨⟨x0,x4,x5⟩,x1,x2,none,0,[],x3,zh _ _ _ _,qi _,hm0,fun r=>rfl⟩,hB0⟩
  (fun x=>{ tmps:=#[.slice A l.length c,.slice B bs.length c2,.int .i64 most,undef,undef,.pointer (some ⟨b0,0,none⟩),.pointer (some ⟨b1,0,none⟩),.pointer (some ⟨b2,0,none⟩),.pointer (some ⟨b3,0,none⟩),.string x.s,.int .i64 (x.e:Int),.int .i64 most,.bool (decide (most<0)),.slice A l.length c,.slice B bs.length c2,.func (.func 225) #[] (piecesV b5 b4),.string x.s,.int .i64 (x.e:Int),undef,undef,undef,undef,undef,undef,undef,undef,undef,undef,undef,undef,undef,undef,undef],defers:=[] }) ?assign ?body ?done ?stop
 case assign =>
  intro lp x W K hK
  dsimp only[encPc]
  gi_wp2
  exact hK
 case body =>
  rintro lp pre x W ⟨hI,hB⟩ hlt
  obtain⟨⟨hm,hT,hBb⟩,hs,he,A',c',o,hv,hown,hol,hom,hdp⟩:=hI
  have cm:=hm.cell
  have cs:=hs.cell
  have fs:=hs.frozen
  have ce:=he.cell
  have fe:=he.frozen
  have cv:=hv.cell
  have hpl:=pc_len (l:=l) (h8:=h8) bs false
  simp only[qam,if_false] at hpl
  have hz:=hB.size
  have hx8:=x.h
  have HDP:=qa hdp
  have HOWN:=qa hown
  clear hdp hown
  have n12:b1≠b2:=by omega
  by_cases hx:x.e=0
  ·
   have ix:(x.e:Int)=0:=by omega
   have bx:((x.e:Int)==0)=true:=by rw[ix];rfl
   have wm:IntKind.i64.wrap (most-(o.length:Int))=most-(o.length:Int):=z8 _ (by omega)
   by_cases hmo:most<((o.length+x.s.size:Nat):Int)
   ·
    have d1:most-(o.length:Int)<(x.s.size:Int):=by omega
    have d2:decide (most-(o.length:Int)<(x.s.size:Int))=true:=qp d1
    have HE:Hid (∀r,dP most (pre++[x]++r) []=([],6)):=fun r=>by rw[qv,xy,HDP.out,dP,if_neg (by omega),if_pos hmo]
    clear hmo
    gi_wp2
    exact⟨((KeepsOthers.setCell _ _ _).trans (KeepsOthers.setCell _ _ _)).from _,⟨rfl,qcz (hs.set _) n12,6,(qcz he n12.symm).set _,HE.out⟩,(hB.setCell (p:=⟨b1,0,none⟩) (by show b0≤b1;omega) _).setCell (p:=⟨b2,0,none⟩) (by show b0≤b2;omega) _⟩
   ·
    have d1:¬most-(o.length:Int)<(x.s.size:Int):=by omega
    have d2:decide (most-(o.length:Int)<(x.s.size:Int))=false:=ql d1
    have HE:Hid (∀r,dP most (pre++[x]++r) []=dP most r (o++x.s.data.toList)):=fun r=>by rw[qv,xy,HDP.out,dP,if_neg (by omega),if_neg hmo]
    obtain⟨i0,hi0,hz0,hz1,hz2⟩:=info_parts Tryz.infoU8
    obtain⟨A2,c3,w1,hrun,ho2,hg2, -⟩:=qll (P:=Tryz.prog) W b0 26 9 26 5 i0 Tryz.underlying26 Tryz.underlying9 hi0 hz0 hz1 hz2 (.slice A' o.length c') o.length (bv o) HOWN.out x.s (by omega) (by omega)
    rw[←qj3] at ho2
    obtain⟨o2,he2⟩:∃o2,o++x.s.data.toList=o2:=⟨_,rfl⟩
    have hl2:o.length+x.s.size=o2.length:=by rw[←he2,qd,qgq]
    rw[he2] at ho2 HE
    rw[hl2] at ho2 hrun
    obtain⟨y1,y2,y3,y4,y5,y6⟩:=appendedS hv (by decide) HOWN.out (by omega) (by omega) ho2 hg2
    have cy:=y1.cell
    have fy:=y1.frozen
    have HRUN:=qa hrun
    have HL2:=qa hl2
    have HP:=qa (⟨y6 b0 _ _ (by omega) (by decide) hm,y6 b4 _ _ (by omega) (by decide) hT,y6 b5 _ _ (by omega) (by decide) hBb,y6 b1 _ _ (by omega) (by decide) hs,y6 b2 _ _ (by omega) (by decide) he⟩:_∧_∧_∧_∧_)
    have H2:=qa y2
    have H3:=qa y3
    clear hrun hl2 he2 y2 y3 y6 hg2
    gi_wp2_with (gi_at_builtin;refine qfi rfl _ _ _ rfl _ _ rfl rfl HRUN.out ?_)
    obtain⟨z0,z4,z5,z1,z2⟩:=HP.out
    have hl2:=HL2.out
    exact⟨y4.from _,⟨y5,z5.trans hBb.symm,z4.trans hT.symm⟩,⟨⟨z0,z4,z5⟩,z1,z2,A2,c3,o2,H2.out,H3.out,by rw[qd,jd];omega,by omega,HE.out⟩,hB.trans y5⟩
  ·
   have ix:¬(x.e:Int)=0:=by omega
   have bx:((x.e:Int)==0)=false:=by rw[qr];exact ix
   have HE:Hid (∀r,dP most (pre++[x]++r) []=([],x.e)):=fun r=>by rw[qv,xy,HDP.out,dP,if_pos hx]
   gi_wp2
   exact⟨((KeepsOthers.setCell _ _ _).trans (KeepsOthers.setCell _ _ _)).from _,⟨rfl,qcz (hs.set _) n12,x.e,(qcz he n12.symm).set _,HE.out⟩,(hB.setCell (p:=⟨b1,0,none⟩) (by show b0≤b1;omega) _).setCell (p:=⟨b2,0,none⟩) (by show b0≤b2;omega) _⟩
 case done =>
  rintro D ys W hD rfl ⟨hI,hB⟩ hK
  obtain⟨⟨hm,hT,hBb⟩,hs,he,A',c',o,hv,hown,hol,hom,hdp⟩:=hI
  have hpl:=pc_len (l:=l) (h8:=h8) bs false
  simp only[qam,if_false] at hpl
  have n12:b1≠b2:=by omega
  have cs:=hs.cell
  have fs:=hs.frozen
  have ce:=he.cell
  have fe:=he.frozen
  have cv:=hv.cell
  have hfin:=hdp []
  rw[jj,dP] at hfin
  have hcv:(convert 26 9 (.slice A' o.length c')).run Tryz.prog W= .ok (.string ⟨o.toArray⟩) W:=ko (P:=Tryz.prog) W 26 9 5 Tryz.underlying26 Tryz.underlying5 Tryz.underlying9 _ _ A' c' o (Rd.of_own hown)
  have HF:=qa hfin
  clear hdp hown hfin
  gi_wp2
  have hK':=((KeepsOthers.setCell W ⟨b1,0,none⟩ (.string ⟨o.toArray⟩)).trans (KeepsOthers.setCell _ ⟨b2,0,none⟩ (.int .i64 0))).same D _ hK rfl
  refine⟨by simp,.inl ⟨_,_,rfl,run_takeDeferred hK',?_⟩⟩
  have cs2:=(qm6 (qcz (hs.set (.string ⟨o.toArray⟩)) n12) (.deferred none) hK' rfl).cell
  have ce2:=(qm6 ((qcz he n12.symm).set (.int .i64 0)) (.deferred none) hK' rfl).cell
  subst e0
  refine⟨.tuple #[.string ⟨o.toArray⟩,.int .i64 0],?_,by rw[HF.out];rfl,((hB.setCell (p:=⟨b1,0,none⟩) (by show w.heap.size≤b1;omega) _).setCell (p:=⟨b2,0,none⟩) (by show w.heap.size≤b2;omega) _).trans (belowK_b (w:=w) (qc _) _ D _ _ (by omega) hK' rfl rfl)⟩
  simp[results,Tryz.f180,go_sem,cs2,ce2]
 case stop =>
  rintro D c' pre W hD ⟨r,hr⟩ ⟨⟨rfl,hX⟩,hB⟩ hK
  obtain⟨hs,k,he,hdp⟩:=hX
  have hfin:=hdp r
  rw[hr] at hfin
  gi_wp2
  refine⟨by simp,.inl ⟨_,_,rfl,run_takeDeferred hK,?_⟩⟩
  have cs:=(qm6 hs (.deferred none) hK rfl).cell
  have ce:=(qm6 he (.deferred none) hK rfl).cell
  subst e0
  refine⟨.tuple #[.string ⟨#[]⟩,.int .i64 (k:Int)],?_,by rw[hfin],hB.trans (belowK_b (w:=w) (qc _) W D _ _ (by omega) hK rfl rfl)⟩
  simp[results,Tryz.f180,go_sem,cs,ce]
theorem qro{w:World}(l:List ByteArray)(h8:∀t∈l,t.size≤8)(hln:l.length≤255)(bs:List UInt8)(hbl:bs.length≤1000000)(most:Int)(hm0:0≤most)(hm1:most≤9223372036854775807){c c2:Nat}{A B:Option Addr}(ht:Rd w 0 w.heap.size A c (sv l))(hb:Rd w 0 w.heap.size B c2 (bv bs)) :
  Calls Tryz.prog 180 #[.slice A l.length c,.slice B bs.length c2,.int .i64 most] w fun r w'=>r= .returned (.tuple #[.string ⟨(qe3 (qm l) most bs [] 0).1.toArray⟩,.int .i64 ((qe3 (qm l) most bs [] 0).2.1:Int)])∧Below w.heap.size w w':=by
 obtain⟨e1,e2⟩:=dP_dec (l:=l) (h8:=h8) (most:=most) bs.length bs [] 0 (qc _)
 rw[e1,e2]
 exact(callsIn_wide (n:=4)).1 (fdecode_in Fence.wide 4 trivial trivial trivial rfl (qc _) l h8 hln bs hbl most hm0 hm1 ht hb)
end
end Go.Proofs.YtnjkipnklpkaoaaGreat
