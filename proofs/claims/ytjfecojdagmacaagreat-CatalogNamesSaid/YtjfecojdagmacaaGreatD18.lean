/-
  Lemmas.
-/
import Derived.Test.YtjfecojdagmacaaGreatD17
namespace Go.Proofs.YtjfecojdagmacaaGreat
open Go.RowKit
set_option maxRecDepth 20000
set_option maxHeartbeats 16000000
set_option linter.unusedSimpArgs false
set_option linter.unusedVariables false
structure TabAt (w:World) (lo:Nat) (S:Nat→Prop) (G n T:Nat) (l:List Pt) (A:Option Addr) (c:Nat) (xs:List Value):Prop where
 blk:yy w G 82 #[.int .i64 (n:Int),.int .i64 (T:Int),.slice A l.length c]
 row:w.ownsRow lo 36 1 (.slice A l.length c) l.length xs
 pts:PtsM w S G (Value.slice A l.length c).ownBlock xs l
 ob:∀k,(Value.slice A l.length c).ownBlock=some k→S k∧k≠G
 own:S G
 mine:∀k,S k→lo≤k∧k<w.heap.size
section
variable {w w':World}{lo G n T:Nat}{S X:Nat→Prop}{l:List Pt}{A:Option Addr}{c:Nat}{xs:List Value}
theorem TabM.parts(h:TabM w lo S G n l):∃A c xs,TabAt w lo S G n (qcf l) l A c xs:=by
 obtain⟨A,c,xs,h1,h2,h3,h4⟩:=h.at_
 exact⟨A,c,xs,h1,h2,h3,h4,h.own,h.mine⟩
theorem TabAt.whole(h:TabAt w lo S G n T l A c xs)(hT:T=qcf l):TabM w lo S G n l:=by
 subst hT
 exact⟨⟨A,c,xs,h.blk,h.row,h.pts,h.ob⟩,h.own,h.mine⟩
theorem TabAt.out(h:TabAt w lo S G n T l A c xs)(ho:Out w w' X)(hX:∀k,S k→¬X k):TabAt w' lo S G n T l A c xs :=
 ⟨h.blk.out ho (hX G h.own),qcl h.row ho (fun k hk=>hX k (h.ob k hk).1),h.pts.out ho hX,h.ob,h.own,fun k hk=>⟨(h.mine k hk).1,zn (h.mine k hk).2 ho.size⟩⟩
theorem TabAt.below(h:TabAt w lo S G n T l A c xs)(hb:Below w.heap.size w w'):TabAt w' lo S G n T l A c xs:=h.out (X:=fun _=>False) (Out.of_below hb) fun _ _ h=>h
theorem TabAt.put(h:TabAt w lo S G n T l A c xs)(T':Nat):TabAt (w.setCell ⟨G,1,none⟩ (.int .i64 (T':Int))) lo S G n T' l A c xs:=by
 have ho:Out w (w.setCell ⟨G,1,none⟩ (.int .i64 (T':Int))) (fun k=>k=G):=(Out.refl w (fun k=>k=G)).setCell (.inl rfl) _
 refine⟨h.blk.put 1 _,qcl h.row ho (fun k hk=>(h.ob k hk).2),⟨h.pts.1,fun j hj => ?_⟩,h.ob,h.own,fun k hk=>⟨(h.mine k hk).1,zn (h.mine k hk).2 ho.size⟩⟩
 obtain⟨A',c',g,h1,h2,h3,h4,h5,h6⟩:=h.pts.2 j hj
 exact⟨A',c',g,h1,h2,h3,h4,zn h5 ho.size,h6.out ho (by omega) fun k h7 h8=>by omega⟩
theorem Rd.block{lo hi c:Nat}{A:Option Addr}{xs:List Value}(h:Rd w lo hi A c xs)(hp:0<xs.length):∃g,lo≤g∧g<hi∧Rd w g (g+1) A c xs:=by
 obtain⟨b,off,e,h1,h2,h3⟩:=h.at_ hp
 exact⟨b,h1,h2,h.len,h.cap,fun _=>⟨b,off,e,qc _,qbk _,h3⟩⟩
theorem TabAt.far{lo' hi' d:Nat}{B:Option Addr}{bs:List UInt8}(h:TabAt w lo S G n T l A c xs)(hr:Rd w lo' hi' B d (bv bs))(hp:0<bs.length):∃g,lo'≤g∧g<hi'∧g≠G∧Rd w g (g+1) B d (bv bs):=by
 have hp2:0<(bv bs).length:=by rw[yf];exact hp
 obtain⟨g,h1,h2,h3⟩:=hr.block hp2
 refine⟨g,h1,h2,fun e => ?_,h3⟩
 subst e
 obtain⟨b,off,e,h4,h5,h6⟩:=h3.at_ hp2
 obtain rfl:b=g:=by omega
 have h7:=h6 0 _ (qi3 bs 0 hp)
 rw[xj,h.blk.cell off] at h7
 match off,h7 with
 | 0,h7=>simp at h7
 | 1,h7=>simp at h7
 | 2,h7=>simp at h7
 | k+3,h7=>simp at h7
theorem Tryz.infoByts:(Tryz.prog.info? 36).map (fun i=>(i.zero,i.size,i.bytes))=some (some (.slice none 0 0),1,24):=by kernel_rfl
theorem append_byts1{base n:Nat}{v:Value}{xs:List Value}(hown:w.ownsRow base 36 1 v n xs){g:Nat}{u:Value}(hc:w.cell? ⟨g,0,none⟩=some u)(h1:u.oneCell'=true)(hb:n+1≤2000000000)(hbase:base≤w.heap.size) :
  ∃A' c' w',(Builtin.append_ #[39,39] 39 #[v,.slice (some ⟨g,0,none⟩) 1 1]).run Tryz.prog w= .ok (.slice A' (n+1) c') w'∧w'.ownsRow base 36 1 (.slice A' (n+1) c') (n+1) (xs++[u])∧w.grownBy w' v.ownBlock∧
   ((Value.slice A' (n+1) c').ownBlock=v.ownBlock∨(Value.slice A' (n+1) c').ownBlock=some w.heap.size):=by
 obtain⟨i0,hi0,hz0,hz1,hz2⟩:=info_parts Tryz.infoByts
 have hr:Rd w 0 w.heap.size (some ⟨g,0,none⟩) 1 [u]:=⟨by simp,by simp[maxLen],fun _=>⟨g,0,rfl,qi _,ya w _ hc,fun j y hj=>by
  match j,hj with
  | 0,hj=>simp at hj;subst hj;exact hc
  | j+1,hj=>simp at hj⟩⟩
 exact vt (P:=Tryz.prog) w base 39 39 36 i0 _ 24 Tryz.underlying39 hi0 hz0 hz1 hz2 rfl v n xs hown 0 _ _ 1 [u] hr (fun y hy=>by rw[ze.1 hy];exact h1) (by simp only[maxLen,zy];omega) (by simp;omega) hbase
theorem tab_add(h:TabAt w lo S G n T l A c xs)(hlo:lo≤w.heap.size)(hcnt:l.length≤1000000000){b:List UInt8}{gs:List GrpS}{wa:World}{A4:Option Addr}{c4:Nat}(hb:Below w.heap.size w wa)(ho:wa.ownsRow w.heap.size 5 1 (.slice A4 b.length c4) b.length (bv b))(hp:0<b.length){wb:World}(hwb:wa.alloc (.cells #[.slice A4 b.length c4] 36)=wb) :
  ∃A' c' we,(Builtin.append_ #[39,39] 39 #[.slice A l.length c,.slice (some ⟨wa.heap.size,0,none⟩) 1 1]).run Tryz.prog wb= .ok (.slice A' (l.length+1) c') we∧we.cell? ⟨G,2,none⟩=some (.slice A l.length c)∧we.frozen? ⟨G,2,none⟩=false∧
   ∃S' xs',TabAt (we.setCell ⟨G,2,none⟩ (.slice A' (l.length+1) c')) lo S' G n T (l++[⟨b,gs⟩]) A' c' xs'∧(∀k,S' k→S k∨w.heap.size≤k)∧Out w (we.setCell ⟨G,2,none⟩ (.slice A' (l.length+1) c')) S:=by
 obtain⟨g4,rfl,hg4,hg4b⟩:=qcg ho hp
 have hGl:=(h.mine G h.own).2
 have b2:Below wa.heap.size wa wb:=by rw[←hwb];exact(Below.refl _ wa).alloc (qc _) _
 have hz:wb.heap.size=wa.heap.size+1:=by rw[←hwb];simp
 have bb:Below w.heap.size w wb:=hb.trans (b2.mono hb.size)
 have hab:=h.below bb
 have hcb:wb.cell? ⟨wa.heap.size,0,none⟩=some (.slice (some ⟨g4,0,none⟩) b.length c4):=by rw[←hwb,zg _ _ _ _ rfl];rfl
 have ho4:wb.ownsRow w.heap.size 5 1 (.slice (some ⟨g4,0,none⟩) b.length c4) b.length (bv b):=jp ho b2 (qc _)
 obtain⟨A',c',we,hrun,hro,hgr,hq⟩:=append_byts1 hab.row hcb rfl (by omega) (by have:=bb.size;omega)
 have hnG:∀k,(Value.slice A l.length c).ownBlock=some k→k≠G:=fun k hk=>(h.ob k hk).2
 have hblk:yy we G 82 #[.int .i64 (n:Int),.int .i64 (T:Int),.slice A l.length c]:=hab.blk.grown hgr fun e=>hnG G e.symm rfl
 refine⟨A',c',we,hrun,hblk.cell 2,hblk.frozen 2,?_⟩
 have hsz:=bb.size
 have hsz2:=hgr.size
 have hq2:∀k,(Value.slice A' (l.length+1) c').ownBlock=some k→(Value.slice A l.length c).ownBlock=some k∨k=wb.heap.size:=fun k hk=>by
  rcases hq with e | e
  ·
   exact .inl (e ▸ hk)
  ·
   rw[e] at hk;exact .inr (zr hk).symm
 have og:Out wb we (fun k=>(Value.slice A l.length c).ownBlock=some k):=Out.of_gb hgr fun k hk=>hk
 have oc:Out we (we.setCell ⟨G,2,none⟩ (.slice A' (l.length+1) c')) (fun k=>k=G):=(Out.refl we (fun k=>k=G)).setCell (.inl rfl) _
 have hzc:(we.setCell ⟨G,2,none⟩ (.slice A' (l.length+1) c')).heap.size=we.heap.size:=by simp[World.setCell]
 have os:Out w (we.setCell ⟨G,2,none⟩ (.slice A' (l.length+1) c')) S:=(((Out.of_below (X:=S) bb).trans og fun k _ hk=>(h.ob k hk).1)).trans oc fun k _ hk=>by subst hk;exact h.own
 have hn1:(l++[(⟨b,gs⟩:Pt)]).length=l.length+1:=by simp
 refine⟨fun k=>S k∨k=g4∨(Value.slice A' (l.length+1) c').ownBlock=some k,xs++[.slice (some ⟨g4,0,none⟩) b.length c4],⟨?_,?_,⟨?_,fun j hj => ?_⟩,?_,.inl h.own,fun k hk => ?_⟩,fun k hk => ?_,os⟩
 ·
  rw[hn1]
  exact hblk.put 2 _
 ·
  rw[hn1]
  exact qcl hro oc fun k hk e=>by
   rcases hq2 k hk with h2 | h2
   ·
    exact hnG k h2 e
   ·
    omega
 ·
  rw[hn1,qd,h.pts.1];rfl
 ·
  rw[hn1] at hj ⊢
  by_cases hjl:j<l.length
  ·
   obtain⟨Aj,cj,gj,h1,h2,h3,h4,h5,h6⟩:=h.pts.2 j hjl
   have hne:(Value.slice A' (l.length+1) c').ownBlock≠some gj:=fun e=>by
    rcases hq2 gj e with h7 | h7
    ·
     exact h4 h7
    ·
     omega
   refine⟨Aj,cj,gj,?_,.inl h2,h3,hne,by omega,?_⟩
   ·
    rw[xa (by rw[h.pts.1];exact hjl),xh hjl]
    exact h1
   ·
    rw[xh hjl]
    refine((h6.below bb (by omega)).out og (by omega) fun k h7 h8 h9 => ?_).out oc (by omega) fun k h7 h8=>by omega
    obtain rfl:k=gj:=by omega
    exact h4 h9
  ·
   obtain rfl:j=l.length:=by omega
   have hne:(Value.slice A' (l.length+1) c').ownBlock≠some g4:=fun e=>by
    rcases hq2 g4 e with h7 | h7
    ·
     have:=(h.mine g4 (h.ob g4 h7).1).2;omega
    ·
     omega
   refine⟨some ⟨g4,0,none⟩,c4,g4,?_,.inr (.inl rfl),by omega,hne,by omega,?_⟩
   ·
    rw[xr (by rw[h.pts.1];exact qc _),h.pts.1,qdn]
    simp
   ·
    have hg3:Rd wb g4 (g4+1) (some ⟨g4,0,none⟩) c4 (bv b):=by
     have hr4:=Rd.of_own ho4
     refine⟨hr4.len,hr4.cap,fun hq => ?_⟩
     obtain⟨b',off,e,h7,h8,h9⟩:=hr4.at_ hq
     injection e with e
     injection e with e e2
     subst e e2
     exact⟨_,_,rfl,qc _,qbk _,h9⟩
    simp only[vl (qc _),qdn,kj]
    refine(hg3.out og (by omega) fun k h7 h8 h9 => ?_).out oc (by omega) fun k h7 h8=>by omega
    have:=(h.mine k (h.ob k h9).1).2
    omega
 ·
  rw[hn1]
  intro k hk
  refine⟨.inr (.inr hk),?_⟩
  rcases hq2 k hk with h2 | h2
  ·
   exact(h.ob k h2).2
  ·
   omega
 ·
  rw[hzc]
  rcases hk with hk | rfl | hk
  ·
   have:=h.mine k hk;omega
  ·
   omega
  ·
   exact zk hro hk
 ·
  rcases hk with hk | rfl | hk
  ·
   exact .inl hk
  ·
   exact .inr hg4
  ·
   rcases hq2 k hk with h2 | h2
   ·
    exact .inl (h.ob k h2).1
   ·
    exact .inr (by omega)
end
theorem eqb_any{w:World}(xs ys:List Bool){lo h' lo2 h2:Nat}{A B:Option Addr}{c d:Nat}(hx:Rd w lo h' A c (lv xs))(hy:Rd w lo2 h2 B d (lv ys)) :
  Calls Tryz.prog 131 #[.slice A xs.length c,.slice B ys.length d] w fun r w'=>r= .returned (.bool (decide (xs=ys)))∧∃n,w.drewN n=w':=by
 have hl:=hx.len
 have hc:=hx.cap
 have hl2:=hy.len
 have hc2:=hy.cap
 rw[qau] at hl hl2
 unfold maxLen at hc hc2
 have HX:=qa hx
 have HY:=qa hy
 clear hx hy
 by_cases hlen:xs.length=ys.length
 ·
  have hne:((xs.length:Int) != (ys.length:Int))=false:=by rw[hlen];simp
  have HL:=qa hlen
  have hlen1:xs.length≤ys.length:=by omega
  have hlen2:ys.length≤xs.length:=by omega
  clear hlen
  go_enter Tryz.func131,Tryz.ntmps131
  go_wp2_with fail
  go_loopw [13] (fun i wr=>∃(k n:Nat),k≤xs.length∧i= .int .i64 (k:Int)∧xs.take k=ys.take k∧w.drewN n=wr) (fun i _=>xs.length-(intOf i).toNat)
  case atStart=>exact⟨0,0,qi _,rfl,rfl,rfl⟩
  case round =>
   obtain⟨k,n,hk,rfl,heq,rfl⟩:=hrel
   have HE:=qa heq
   clear heq
   by_cases hlt:k<xs.length
   ·
    have hlt2:k<ys.length:=by omega
    obtain⟨b1,o1,rfl,_,_,hcell1⟩:=HX.out.row hlt
    obtain⟨b2,o2,rfl,_,_,hcell2⟩:=HY.out.row hlt2
    have ht1:Hid (xs.take (k+1)=xs.take k++[xs[k]]):=by unfold Hid;exact qj hlt
    have ht2:Hid (ys.take (k+1)=ys.take k++[ys[k]]):=by unfold Hid;exact qj hlt2
    have hq:Hid (xs=ys→xs[k]=ys[k]):=fun h=>by subst h;rfl
    generalize xs[k]=x at *
    generalize ys[k]=y at *
    by_cases hxy:x=y
    ·
     subst hxy
     go_wp2_with fail
     go_quiet (fail)
     go_wp2
     go_roundw
     case rel=>exact⟨k+1,_,by omega,by go_num,by rw[ht1.out,ht2.out,HE.out],rfl⟩
     case measure=>simp[intOf];omega
    ·
     have hb:(!x==y)=true:=by simpa using hxy
     go_wp2_with fail
     go_quiet (fail)
     go_wp2
     go_ret
     exact⟨xg (qr fun h=>hxy (hq.out h)).symm,_,(zt _ _ _).symm⟩
   ·
    obtain rfl:k=xs.length:=by omega
    have hall:Hid (xs=ys):=by
     have h:=HE.out
     rw[yw,HL.out,yw] at h
     exact h
    go_wp2
    go_ret
    exact⟨xg (qx hall.out).symm,_,rfl⟩
 ·
  have hne:((xs.length:Int) != (ys.length:Int))=true:=by rw[bne_iff_ne];omega
  have HN:Hid (decide (xs=ys)=false):=qr fun h=>hlen (by rw[h])
  go_enter Tryz.func131,Tryz.ntmps131
  go_wp2
  go_ret
  exact⟨xg HN.out.symm,0,rfl⟩
theorem eqi_any{w:World}(xs ys:List Int){lo h' lo2 h2:Nat}{A B:Option Addr}{c d:Nat}(hx:Rd w lo h' A c (iv xs))(hy:Rd w lo2 h2 B d (iv ys)) :
  Calls Tryz.prog 130 #[.slice A xs.length c,.slice B ys.length d] w fun r w'=>r= .returned (.bool (decide (xs=ys)))∧∃n,w.drewN n=w':=by
 have hl:=hx.len
 have hc:=hx.cap
 have hl2:=hy.len
 have hc2:=hy.cap
 rw[jz] at hl hl2
 unfold maxLen at hc hc2
 have HX:=qa hx
 have HY:=qa hy
 clear hx hy
 by_cases hlen:xs.length=ys.length
 ·
  go_enter Tryz.func130,Tryz.ntmps130
  have HLEN:=qa hlen
  have hle:ys.length≤xs.length:=by omega
  have hge:xs.length≤ys.length:=by omega
  have hne:((xs.length:Int) != (ys.length:Int))=false:=by simp;omega
  clear hlen
  go_wp2_with fail
  go_loopw [13] (fun i wr=>∃k n:Nat,k≤xs.length∧i= .int .i64 (k:Int)∧xs.take k=ys.take k∧w.drewN n=wr) (fun i _=>xs.length-(intOf i).toNat)
  case atStart=>exact⟨0,0,qi _,rfl,rfl,rfl⟩
  case round =>
   obtain⟨k,n,hk,rfl,hf,rfl⟩:=hrel
   have HF:=qa hf
   clear hf
   by_cases hlt:k<xs.length
   ·
    obtain⟨b,off,rfl,_,_,hcell⟩:=HX.out.num hlt
    obtain⟨b2,off2,rfl,_,_,hcell2⟩:=HY.out.num (k:=k) (by omega)
    have hlt2:k<ys.length:=by omega
    have h1:Hid (xs.take (k+1)=xs.take k++[xs[k]]):=by unfold Hid;exact qj hlt
    have h2:Hid (ys.take (k+1)=ys.take k++[ys[k]]):=by unfold Hid;exact qj hlt2
    have h3:Hid (xs=ys→xs[k]=ys[k]):=by unfold Hid;rintro rfl;rfl
    generalize xs[k]=x at *
    generalize ys[k]=y at *
    by_cases hxy:x=y
    ·
     subst hxy
     go_wp2_with fail
     go_quiet (fail)
     go_wp2
     go_roundw
     case rel=>exact⟨k+1,_,by omega,by go_num,by rw[h1.out,h2.out,HF.out],rfl⟩
     case measure=>simp[intOf];omega
    ·
     have hb:(x != y)=true:=by simpa using hxy
     go_wp2_with fail
     go_quiet (fail)
     go_wp2
     go_ret
     exact⟨xg (qr fun h=>hxy (h3.out h)).symm,_,(zt ..).symm⟩
   ·
    obtain rfl:k=xs.length:=by omega
    go_wp2
    go_ret
    have e:xs=ys:=by
     have:=HF.out
     rw[yw,qo (by omega)] at this
     exact this
    exact⟨xg (qx e).symm,_,rfl⟩
 ·
  have hne:((xs.length:Int) != (ys.length:Int))=true:=by simp;omega
  have hx:Hid (xs≠ys):=by unfold Hid;rintro rfl;exact hlen rfl
  clear hlen
  go_enter Tryz.func130,Tryz.ntmps130
  go_wp2
  go_ret
  exact⟨xg (qr hx).symm,0,rfl⟩
theorem ints_inj':∀ {a b:List Nat},z8 a=z8 b→a=b
 | [],[],_=>rfl
 | [],_ :: _,h=>by cases h
 | _ :: _,[],h=>by cases h
 | x :: a,y :: b,h=>by
  have h1:((x:Nat):Int)=((y:Nat):Int):=(List.cons.inj h).1
  have h2:=ints_inj' (List.cons.inj h).2
  rw[h2,Int.ofNat.inj h1]
theorem eqi_v{w:World}{gs t:List Nat}{n m lo h' lo2 h2 c d:Nat}{A B:Option Addr}(hx:Rd w lo h' A c (iv (z8 gs)))(hy:Rd w lo2 h2 B d (iv (z8 t)))(hn:gs.length=n)(hm:t.length=m) :
  Calls Tryz.prog 130 #[.slice A n c,.slice B m d] w fun r w'=>r= .returned (.bool (decide (gs=t)))∧∃k,w.drewN k=w':=by
 have h:=eqi_any (z8 gs) (z8 t) hx hy
 rw[zu,zu,hn,hm,show decide (z8 gs=z8 t)=decide (gs=t) from decide_eq_decide.2 ⟨ints_inj',fun e=>by rw[e]⟩] at h
 exact h
theorem eqb_v{w:World}{xs ys:List Bool}{n m lo h' lo2 h2 c d:Nat}{A B:Option Addr}(hx:Rd w lo h' A c (lv xs))(hy:Rd w lo2 h2 B d (lv ys))(hn:xs.length=n)(hm:ys.length=m) :
  Calls Tryz.prog 131 #[.slice A n c,.slice B m d] w fun r w'=>r= .returned (.bool (decide (xs=ys)))∧∃k,w.drewN k=w':=by
 subst hn hm
 exact eqb_any xs ys hx hy
theorem isof_v{w:World}{hi b:Nat}{v:Value}{gs:List Nat}{rs:List Bool}(h:Flt w 0 hi v b gs rs)(hhi:hi≤w.heap.size)(hf:FilG b gs rs)(S:List ByteArray){A:Option Addr}{c:Nat}(hS:Rd w 0 w.heap.size A c (sv S))(hsz:∀s∈S,s.size≤4096)(hlen:S.length≤4096) :
  Calls Tryz.prog 89 #[v,.slice A S.length c] w fun r w'=>∃x:Bool,r= .returned (.bool x)∧(x=true↔qkg S b gs rs)∧Below w.heap.size w w':=by
 obtain⟨A1,c1,B1,d1,rfl,h1,h2⟩:=h
 obtain⟨w1,hw1⟩:∃w1,w.alloc (.cells #[.int .i64 (b:Int),.slice A1 gs.length c1,.slice B1 rs.length d1] 110)=w1:=⟨_,rfl⟩
 have BW:Hid (Below w.heap.size w w1):=by unfold Hid;rw[←hw1];exact(Below.refl _ w).alloc (qc _) _
 have hk:yy w1 w.heap.size 110 #[.int .i64 (b:Int),.slice A1 gs.length c1,.slice B1 rs.length d1]:=by rw[←hw1];exact yy.new w _ _
 have hs1:w1.heap.size=w.heap.size+1:=by rw[←hw1];simp
 have H1:=qa (h1.below BW.out hhi)
 have H2:=qa (h2.below BW.out hhi)
 have HS:=qa ((hS.below BW.out (qc _)).wide (qc _) BW.out.size)
 have hb6:=hf.le
 obtain⟨gl,hgl⟩:∃n,gs.length=n:=⟨_,rfl⟩
 obtain⟨rl,hrl⟩:∃n,rs.length=n:=⟨_,rfl⟩
 have HGL:=qa hgl
 have HRL:=qa hrl
 have HF:=qa hf
 rw[hgl,hrl] at hk
 rw[hgl,hrl] at hw1 ⊢
 have q0:w1.cell? ⟨w.heap.size,0,none⟩=some (.int .i64 (b:Int)):=hk.cell 0
 have HK:=qa hk
 have hz5:∀s∈S,s.size≤100000:=fun s hs=>zb (hsz s hs) (by omega)
 by_cases hb0:b=0
 ·
  subst hb0
  have HM:=qa (gmake_list S HS.out hz5 (by omega))
  have HRN:Hid (rs=[]):=zh HF.out.rows
  clear h1 h2 hS hf hk hgl hrl hz5 hsz hlen
  rw[show((0:Nat):Int)=0 from rfl] at *
  go_enter Tryz.func89,Tryz.ntmps89
  go_wp2_with fail
  try rw[hw1]
  go_wp2_with fail
  refine HM.out.mono ?_
  rintro r w2 ⟨t,hri,hb2,⟨hle,A2,c2,rfl,hown⟩ | ⟨hgt,rfl⟩⟩
  ·
   have BW2:Hid (Below w.heap.size w w2):=BW.out.trans (hb2.mono BW.out.size)
   obtain⟨w3,hw3⟩:∃w3,w2.alloc (.cells #[.int .i64 0,.slice A2 t.length c2,.slice none 0 0] 110)=w3:=⟨_,rfl⟩
   have B3:Below w2.heap.size w2 w3:=by rw[←hw3];exact(Below.refl _ w2).alloc (qc _) _
   have BW3:Hid (Below w.heap.size w w3):=BW2.out.trans (B3.mono BW2.out.size)
   have hk1:=(HK.out.below hb2 (by omega)).below B3 (by have:=hb2.size;omega)
   have hk3:yy w3 w2.heap.size 110 #[.int .i64 0,.slice A2 t.length c2,.slice none 0 0]:=by rw[←hw3];exact yy.new w2 _ _
   have HE1:=qa (eqi_v ((H1.out.below hb2 (by omega)).below B3 (by have:=hb2.size;omega)) ((Rd.of_own hown).below B3 (qc _)) HGL.out rfl)
   have HE2:Hid (∀k,Calls Tryz.prog 131 #[.slice B1 rl d1,.slice none 0 0] (w3.drewN k) fun r w'=>r= .returned (.bool true)∧∃m,(w3.drewN k).drewN m=w'):=fun k=>by
    have:=eqb_v (((H2.out.below hb2 (by omega)).below B3 (by have:=hb2.size;omega)).drewN k) (Rd.nil (w3.drewN k) 0 0) HRL.out (rfl:([]:List Bool).length=0)
    rw[HRN.out,qx rfl] at this
    exact this
   have p1:w3.cell? ⟨w.heap.size,1,none⟩=some (.slice A1 gl c1):=hk1.cell 1
   have p2:w3.cell? ⟨w.heap.size,2,none⟩=some (.slice B1 rl d1):=hk1.cell 2
   have r1:w3.cell? ⟨w2.heap.size,1,none⟩=some (.slice A2 t.length c2):=hk3.cell 1
   have r2:w3.cell? ⟨w2.heap.size,2,none⟩=some (.slice none 0 0):=hk3.cell 2
   have HRI:=qa hri
   obtain⟨x,hx⟩:∃x,decide (gs=t)=x:=⟨_,rfl⟩
   rw[hx] at HE1
   have HX:Hid (x=true↔qkg S 0 gs rs):=by
    unfold Hid
    rw[←hx,decide_eq_true_eq]
    constructor
    ·
     intro e
     exact⟨t,hri,by rw[if_pos rfl,e],by rw[if_pos rfl,HRN.out]⟩
    ·
     rintro⟨u,h3,h4,_⟩
     rw[if_pos rfl] at h4
     rw[h4]
     exact h3.one hri
   clear hx hri hown hb2 B3 hk1 hk3 HM
   subst hw3
   go_wp2_with fail
   go_wp2_with fail
   refine HE1.out.mono ?_
   rintro r w4 ⟨rfl,k4,rfl⟩
   cases x with
   | true =>
    have HE3:=qa (HE2.out k4)
    have s1:((w2.alloc (.cells #[.int .i64 0,.slice A2 t.length c2,.slice none 0 0] 110)).drewN k4).cell? ⟨w.heap.size,2,none⟩=some (.slice B1 rl d1):=p2
    have s2:((w2.alloc (.cells #[.int .i64 0,.slice A2 t.length c2,.slice none 0 0] 110)).drewN k4).cell? ⟨w2.heap.size,2,none⟩=some (.slice none 0 0):=r2
    go_wp2_with fail
    refine HE3.out.mono ?_
    rintro r w5 ⟨rfl,k5,rfl⟩
    go_wp2_with fail
    go_ret
    exact⟨true,rfl,by first | exact HX.out | simpa using HX.out,zj BW3.out _⟩
   | false =>
    go_wp2_with fail
    go_ret
    exact⟨false,rfl,HX.out,zj BW3.out _⟩
  ·
   have BW2:Hid (Below w.heap.size w w2):=BW.out.trans (hb2.mono BW.out.size)
   have HX:Hid (false=true↔qkg S 0 gs rs):=⟨fun h=>(by cases h),fun⟨u,h3,h4,_⟩=>by
    rw[if_pos rfl] at h4
    have h5:=HF.out.few
    have h6:=h3.one hri
    rw[h4,h6] at h5
    omega⟩
   have BW3:=qa (BW2.out.alloc BW2.out.size (.cells #[.int .i64 0,.slice none 0 0,.slice none 0 0] 110))
   clear hb2 hri HM
   go_wp2_with fail
   go_ret
   exact⟨false,rfl,HX.out,BW3.out⟩
 ·
  have HM:=qa (qnf S HS.out hz5 (by omega) b (by omega) hb6)
  have HGN:Hid (gs=[]):=HF.out.none (by omega)
  clear h1 h2 hS hf hk hgl hrl hz5 hsz hlen
  go_enter Tryz.func89,Tryz.ntmps89
  go_wp2_with fail
  try rw[hw1]
  go_wp2_with fail
  refine HM.out.mono ?_
  rintro r w2 ⟨t,A2,c2,rfl,hri,hown,hb2⟩
  have BW2:Hid (Below w.heap.size w w2):=BW.out.trans (hb2.mono BW.out.size)
  obtain⟨w3,hw3⟩:∃w3,w2.alloc (.cells #[.int .i64 (b:Int),.slice none 0 0,.slice A2 b c2] 110)=w3:=⟨_,rfl⟩
  have B3:Below w2.heap.size w2 w3:=by rw[←hw3];exact(Below.refl _ w2).alloc (qc _) _
  have BW3:Hid (Below w.heap.size w w3):=BW2.out.trans (B3.mono BW2.out.size)
  have hk1:=(HK.out.below hb2 (by omega)).below B3 (by have:=hb2.size;omega)
  have hk3:yy w3 w2.heap.size 110 #[.int .i64 (b:Int),.slice none 0 0,.slice A2 b c2]:=by rw[←hw3];exact yy.new w2 _ _
  have HE1:Hid (Calls Tryz.prog 130 #[.slice A1 gl c1,.slice none 0 0] w3 fun r w'=>r= .returned (.bool true)∧∃m,w3.drewN m=w'):=by
   have:=eqi_v ((H1.out.below hb2 (by omega)).below B3 (by have:=hb2.size;omega)) (Rd.nil w3 0 0) HGL.out (rfl:([]:List Nat).length=0)
   rw[HGN.out,qx rfl] at this
   exact this
  have HE2:Hid (∀k,Calls Tryz.prog 131 #[.slice B1 rl d1,.slice A2 b c2] (w3.drewN k) fun r w'=>r= .returned (.bool (decide (rs=qe4 b t)))∧∃m,(w3.drewN k).drewN m=w'):=fun k =>
   eqb_v (((H2.out.below hb2 (by omega)).below B3 (by have:=hb2.size;omega)).drewN k) (((Rd.of_own hown).below B3 (qc _)).drewN k) HRL.out (qc1 b t)
  have p1:w3.cell? ⟨w.heap.size,1,none⟩=some (.slice A1 gl c1):=hk1.cell 1
  have p2:w3.cell? ⟨w.heap.size,2,none⟩=some (.slice B1 rl d1):=hk1.cell 2
  have r1:w3.cell? ⟨w2.heap.size,1,none⟩=some (.slice none 0 0):=hk3.cell 1
  have r2:w3.cell? ⟨w2.heap.size,2,none⟩=some (.slice A2 b c2):=hk3.cell 2
  obtain⟨x,hx⟩:∃x,decide (rs=qe4 b t)=x:=⟨_,rfl⟩
  rw[hx] at HE2
  have HX:Hid (x=true↔qkg S b gs rs):=by
   unfold Hid
   rw[←hx,decide_eq_true_eq]
   constructor
   ·
    intro e
    exact⟨t,hri,by rw[if_neg hb0,HGN.out],by rw[if_neg hb0,e]⟩
   ·
    rintro⟨u,h3,_,h4⟩
    rw[if_neg hb0] at h4
    rw[h4,h3.one hri]
  clear hx hri hown hb2 B3 hk1 hk3 HM
  subst hw3
  go_wp2_with fail
  go_wp2_with fail
  refine HE1.out.mono ?_
  rintro r w4 ⟨rfl,k4,rfl⟩
  have HE3:=qa (HE2.out k4)
  have s1:((w2.alloc (.cells #[.int .i64 (b:Int),.slice none 0 0,.slice A2 b c2] 110)).drewN k4).cell? ⟨w.heap.size,2,none⟩=some (.slice B1 rl d1):=p2
  have s2:((w2.alloc (.cells #[.int .i64 (b:Int),.slice none 0 0,.slice A2 b c2] 110)).drewN k4).cell? ⟨w2.heap.size,2,none⟩=some (.slice A2 b c2):=r2
  go_wp2_with fail
  refine HE3.out.mono ?_
  rintro r w5 ⟨rfl,k5,rfl⟩
  go_wp2_with fail
  go_ret
  exact⟨x,rfl,HX.out,zj BW3.out _⟩
theorem readEnd_nil(bs:List UInt8)(n wd k:Nat)(e:Int):(qde bs n wd k e).2.2≠0→(qde bs n wd k e).1=[]:=by
 unfold qde
 split
 ·
  exact fun _=>rfl
 ·
  split
  ·
   exact fun h=>absurd rfl h
  ·
   exact fun _=>rfl
theorem readR_nil(bs:List UInt8)(k:Nat)(e m:Int):(qa4 bs k e m).2.2≠0→(qa4 bs k e m).1=[]:=readEnd_nil _ _ _ _ _
theorem readR_small{bs:List UInt8}{k:Nat}{e:Int}{m:Nat}(hm:m≤2147483647)(hk:k≤bs.length){ns:List Nat}{k2:Nat}{e2:Int}(h:qa4 bs k e (m:Int)=(ns,k2,e2)):(∀x∈ns,x<4294967296)∧ns.length≤2147483647:=by
 by_cases h2:e2=0
 ·
  subst h2
  by_cases h1:e=0
  ·
   subst h1
   obtain⟨a1,a2, -⟩:=qjb hk hm h
   refine⟨fun x hx => ?_,by omega⟩
   have:=a2 (x:Int) (zl.2 ⟨x,hx,rfl⟩)
   omega
  ·
   rw[qkz _ _ _ h1] at h
   simp only[Prod.mk.injEq] at h
   exact absurd h.2.2 h1
 ·
  have:=readR_nil bs k e m
  rw[h] at this
  have e3:=this h2
  dsimp only at e3
  subst e3
  exact⟨fun x hx=>absurd hx xv,by simp⟩
theorem take_list{bs:List UInt8}{k k1 k2:Nat}{e e1 e2 e':Int}{ns gs:List Nat}(hk:k≤bs.length)(hM:jw bs k e 65536=(0,k1,e1))(hR:qa4 bs k1 e1 65536=(ns,k2,e2))(hL:ListG ns e2 gs e') :
  TakeG bs k e 0 (if e'=0 then gs else []) [] k2 e':=by
 refine⟨fun h=>⟨rfl,if_neg h,rfl⟩,fun h => ?_,fun b0 gs0 rs0 rest he hf hd => ?_⟩
 ·
  subst h
  rw[if_pos rfl]
  obtain⟨h1,h2,h3⟩:=hL.ok rfl
  subst h1
  by_cases h4:e1=0
  ·
   subst h4
   by_cases h5:e=0
   ·
    subst h5
    obtain⟨-, -,m3,m4,m5⟩:=qbp hk hM
    obtain⟨r1, -,r3,r4,r5⟩:=qjb (m:=65536) m5 (by omega) hR
    have hlen:gs.length=ns.length:=by rw[←yd,h2,zu]
    have hw:xf 0 gs []=ji 0++js (z8 ns):=by rw[←h2];exact if_neg (qbb 0)
    refine⟨rfl,⟨by omega,rfl,fun h=>absurd h (qbb 0),h3.up,h3.lt,by omega⟩,?_,?_,r5⟩
    ·
     rw[hw,m3,r3,qp]
    ·
     rw[hw,qd];omega
   ·
    rw[qib _ _ _ h5] at hM
    simp only[Prod.mk.injEq] at hM
    exact absurd hM.2.2 h5
  ·
   rw[qkz _ _ _ h4] at hR
   simp only[Prod.mk.injEq] at hR
   exact absurd hR.2.2 h4
 ·
  subst he
  have hle:=hf.le
  rcases jr b0 with h0 | h0
  ·
   subst h0
   have hw:xf 0 gs0 rs0=ji 0++js (yp gs0):=if_neg (qbb 0)
   rw[hw,qp] at hd
   have hmay:=qft hf.up hf.lt
   have hM2:=ut (m:=65536) hd (by omega) (by omega)
   rw[hM] at hM2
   simp only[Prod.mk.injEq,true_and] at hM2
   obtain⟨hk1,he1⟩:=hM2
   subst he1
   have hd1:bs.drop k1=js (yp gs0)++rest:=by rw[hk1,←jh,hd,ym]
   obtain⟨-, -, -, -,m5⟩:=qbp hk hM
   have hR2:=qh7 (yp gs0) hmay 65536 m5 hd1 (by rw[yd];exact hf.few) (by omega)
   rw[show((65536:Nat):Int)=65536 from rfl,hR] at hR2
   simp only[Prod.mk.injEq] at hR2
   obtain⟨hn, -,he2⟩:=hR2
   have hi:yp gs0=z8 ns:=by rw[hn,ql1 (fun z h=>(hmay z h).1)]
   have he':=hL.there he2 gs0 ⟨hf.up,hf.lt⟩ hi
   subst he'
   refine⟨rfl,rfl,?_,?_⟩
   ·
    rw[if_pos rfl]
    exact qmv ((hL.ok rfl).2.1.trans hi.symm)
   ·
    exact(zh hf.rows).symm
  ·
   have hw:xf b0 gs0 rs0=ji b0++xi rs0:=if_pos h0
   rw[hw,qp] at hd
   have hM2:=ut (m:=65536) hd (by omega) (by omega)
   rw[hM] at hM2
   simp only[Prod.mk.injEq] at hM2
   omega
theorem take_set{bs:List UInt8}{k k1 k2 b:Nat}{e e1 e2:Int}{rs:List Bool}(hk:k≤bs.length)(hb0:0<b)(hM:jw bs k e 65536=(b,k1,e1))(hR:qcj bs k1 e1 (b:Int)=(rs,k2,e2))(e':Int)(he':e'=if rs.length=b then e2 else if e2=0 then 3 else e2) :
  TakeG bs k e (if e'=0 then b else 0) [] (if e'=0 then rs else []) k2 e':=by
 refine⟨fun h=>⟨if_neg h,rfl,if_neg h⟩,fun h => ?_,fun b0 gs0 rs0 rest he hf hd => ?_⟩
 ·
  rw[h] at he' ⊢
  rw[if_pos rfl,if_pos rfl]
  by_cases hl:rs.length=b
  ·
   rw[if_pos hl] at he'
   subst he'
   by_cases h4:e1=0
   ·
    subst h4
    by_cases h5:e=0
    ·
     subst h5
     obtain⟨m1, -,m3,m4,m5⟩:=qbp hk hM
     obtain⟨-,r3,r4,r5⟩:=bread_good m5 hR
     have hw:xf b [] rs=ji b++xi rs:=if_pos hb0
     refine⟨rfl,⟨by omega,hl,fun _=>rfl,List.Pairwise.nil,fun g hg=>absurd hg xv,by simp⟩,?_,?_,r5⟩
     ·
      rw[hw,m3,r3,qp]
     ·
      rw[hw,qd];omega
    ·
     rw[qib _ _ _ h5] at hM
     simp only[Prod.mk.injEq] at hM
     exact absurd hM.2.2 h5
   ·
    rw[qjn _ _ _ h4] at hR
    simp only[Prod.mk.injEq] at hR
    exact absurd hR.2.2 h4
  ·
   rw[if_neg hl] at he'
   split at he'
   ·
    exact absurd he'.symm (by decide)
   ·
    rename_i h6;exact absurd he'.symm h6
 ·
  subst he
  have hle:=hf.le
  have hrl:=hf.rows
  rcases jr b0 with h0 | h0
  ·
   subst h0
   have hw:xf 0 gs0 rs0=ji 0++js (yp gs0):=if_neg (qbb 0)
   rw[hw,qp] at hd
   have hM2:=ut (m:=65536) hd (by omega) (by omega)
   rw[hM] at hM2
   simp only[Prod.mk.injEq] at hM2
   omega
  ·
   have hw:xf b0 gs0 rs0=ji b0++xi rs0:=if_pos h0
   rw[hw,qp] at hd
   have hM2:=ut (m:=65536) hd (by omega) (by omega)
   rw[hM] at hM2
   simp only[Prod.mk.injEq] at hM2
   obtain⟨hb,hk1,he1⟩:=hM2
   subst hb he1
   have hd1:bs.drop k1=xi rs0++rest:=by rw[hk1,←jh,hd,ym]
   obtain⟨-, -, -, -,m5⟩:=qbp hk hM
   have hR2:=qit rs0 (b:Int) m5 hd1 (by omega) (by omega)
   rw[hR] at hR2
   simp only[Prod.mk.injEq] at hR2
   obtain⟨hr, -,he2⟩:=hR2
   subst hr he2
   rw[if_pos hrl] at he'
   subst he'
   exact⟨rfl,if_pos rfl,(hf.none hb0).symm,if_pos rfl⟩
theorem gtakeSet_any{w:World}{lo g k:Nat}{bs:List UInt8}{e:Int}(hc:vx w lo g bs k e)(hbs:bs.length≤1000000000)(b:Nat)(hb:b≤65536)(rs:List Bool)(k1:Nat)(e1:Int)(hR:qcj bs k e (b:Int)=(rs,k1,e1))(e':Int)(he':e'=if rs.length=b then e1 else if e1=0 then 3 else e1) :
  Calls Tryz.prog 125 #[cp g,.int .i64 (b:Int)] w fun r w'=>∃(A:Option Addr) (c:Nat),r= .returned (.slice A rs.length c)∧w'.ownsRow w.heap.size 4 1 (.slice A rs.length c) rs.length (lv rs)∧
   vx w' lo g bs k1 e'∧w.grownBy w' (some g):=by
 have hgl:=hc.lt
 have HPR:=qa (qmb (b:Int) (by omega) hc (by omega))
 rw[hR] at HPR
 dsimp only at HPR
 clear hc hR
 unfold cp
 go_enter Tryz.func125,Tryz.ntmps125
 go_wp2_with fail
 refine HPR.out.mono ?_
 rintro r w1 ⟨A1,c1,rfl,ho1,hc1,hg1⟩
 have HO1:=qa ho1
 have HC1:=qa hc1
 have HG1:=qa hg1
 have s1:=hg1.size
 have hlc:=(Rd.of_own ho1).len
 have hmc:=(Rd.of_own ho1).cap
 rw[qau] at hlc
 unfold maxLen at hmc
 clear ho1 hc1 hg1 HPR
 by_cases hl:rs.length=b
 ·
  rw[if_pos hl] at he'
  subst hl he'
  go_wp2_with fail
  go_ret
  exact⟨A1,c1,rfl,HO1.out,HC1.out,HG1.out⟩
 ·
  rw[if_neg hl] at he'
  have i1:¬(rs.length:Int)=(b:Int):=by omega
  have i2:(((rs.length:Int))==(b:Int))=false:=q9.2 i1
  have i3:(((rs.length:Int)) != (b:Int))=true:=by rw[bne,i2];rfl
  have HFA:=qa (ua 3 HC1.out)
  rw[←he'] at HFA
  unfold cp at HFA
  clear hl he'
  go_wp2_with fail
  refine HFA.out.mono ?_
  rintro r w5 ⟨rfl,hc5,hg5⟩
  have HC5:=qa hc5
  have HG5:=qa (HG1.out.trans hg5)
  have HO5:=qa (jv HO1.out (fun q hq=>hg5.block q (zk HO1.out hq).2 (fun e=>by have:=(zk HO1.out hq).1;injection e with e;omega)))
  clear hc5 hg5 HFA
  go_wp2_with fail
  go_ret
  exact⟨A1,c1,rfl,HO5.out,HC5.out,HG5.out⟩
theorem gread_any{w:World}{lo g k:Nat}{bs:List UInt8}{e:Int}(hc:vx w lo g bs k e)(hbs:bs.length≤1000000000) :
  Calls Tryz.prog 86 #[cp g] w fun r w'=>∃(v:Value) (b:Nat) (gs:List Nat) (rs:List Bool) (k':Nat) (e':Int),r= .returned v∧TakeG bs k e b gs rs k' e'∧Flt w' w.heap.size w'.heap.size v b gs rs∧vx w' lo g bs k' e'∧Out w w' (fun i=>i=g):=by
 have hgl:=hc.lt
 have hkl:=hc.le
 obtain⟨w1,hw1⟩:∃w1,w.alloc (.cells #[.int .i64 0,.slice none 0 0,.slice none 0 0] 110)=w1:=⟨_,rfl⟩
 have B1:Hid (Below w.heap.size w w1):=by unfold Hid;rw[←hw1];exact(Below.refl _ w).alloc (qc _) _
 have HK1:Hid (yy w1 w.heap.size 110 #[.int .i64 0,.slice none 0 0,.slice none 0 0]):=by unfold Hid;rw[←hw1];exact yy.new w _ _
 have hs1:w.heap.size<w1.heap.size:=by rw[←hw1];simp
 have HC1:=qa (hc.behind B1.out hgl)
 have HM:=qa (qeu 65536 HC1.out)
 have hml:=qc5 bs k e 65536
 obtain⟨M,hM⟩:∃M,jw bs k e 65536=M:=⟨_,rfl⟩
 rw[hM] at HM hml
 obtain⟨b,k1,e1⟩:=M
 dsimp only at HM hml
 have hb:b≤65536:=by omega
 have HMR:=qa hM
 have hbuild:=qpb
 clear hc hM hml
 unfold cp at HM ⊢
 go_enter Tryz.func86,Tryz.ntmps86
 go_wp2_with fail
 refine HM.out.mono ?_
 rintro r w2 ⟨rfl,hc2,hg2⟩
 have HC2:=qa hc2
 have HG2:=qa hg2
 have s2:=hg2.size
 have HK2:=qa (HK1.out.grown hg2 (fun e=>by injection e with e;omega))
 clear hc2 hg2 HM hw1
 by_cases hb0:b=0
 ·
  subst hb0
  rw[show((0:Nat):Int)=0 from rfl]
  go_wp2_with fail
  obtain⟨w3,hw3⟩:∃w3,w2.alloc (.cells #[.int .i64 0,.slice none 0 0,.slice none 0 0] 110)=w3:=⟨_,rfl⟩
  rw[hw3]
  have B23:Below w2.heap.size w2 w3:=by rw[←hw3];exact(Below.refl _ w2).alloc (qc _) _
  have HK3:=qa (HK2.out.below B23 (by omega))
  have HF3:Hid (yy w3 w2.heap.size 110 #[.int .i64 0,.slice none 0 0,.slice none 0 0]):=by unfold Hid;rw[←hw3];exact yy.new w2 _ _
  have HC3:=qa (HC2.out.behind B23 (by omega))
  have HO3:Hid (Out w w3 (fun i=>i=g)):=by
   unfold Hid
   rw[←hw3]
   exact((Out.of_below (X:=fun i=>i=g) B1.out).trans (Out.of_gb (X:=fun i=>i=g) HG2.out (fun q hq=>by injection hq with hq;exact hq.symm)) (fun _ _ h=>h)).alloc _
  have s3:w2.heap.size<w3.heap.size:=by rw[←hw3];simp
  obtain⟨R,hR⟩:∃R,qa4 bs k1 e1 65536=R:=⟨_,rfl⟩
  obtain⟨ns,k2,e2⟩:=R
  obtain⟨hn1,hn2⟩:=readR_small (m:=65536) (by omega) HC2.out.le hR
  have HTK:=qa (gtakeList_any HC3.out hbs ns k2 e2 hR hn1 hn2)
  unfold cp at HTK
  have HRR:=qa hR
  clear hw3 B23 hR hn1
  refine HTK.out.mono ?_
  rintro r w4 ⟨gs,A4,c4,e4,rfl,ho4,hc4,hL,hg4⟩
  have HTG:=qa (take_list hkl HMR.out HRR.out hL)
  clear hL
  have hF4:=HF3.out.grown hg4 (fun e=>by injection e with e;omega)
  have HF4:=qa hF4
  have HK4:=qa (HK3.out.grown hg4 (fun e=>by injection e with e;omega))
  have q1:=hF4.cell 1
  have f1:=hF4.frozen 1
  have HR4:=qa ho4
  have HC4:=qa hc4
  have HO4:=qa (HO3.out.trans (Out.of_gb (X:=fun i=>i=g) hg4 (fun q hq=>by injection hq with hq;exact hq.symm)) (fun _ _ h=>h))
  have s4:=hg4.size
  clear hF4 ho4 hc4 hg4 HTK
  go_wp2_with fail
  obtain⟨w5,hw5⟩:∃w5,w4.setCell ⟨w2.heap.size,1,none⟩ (.slice A4 gs.length c4)=w5:=⟨_,rfl⟩
  rw[hw5]
  have g45:w4.grownBy w5 (some w2.heap.size):=by rw[←hw5];exact xy (vg w4 (some w2.heap.size)) (.inl rfl) _
  have hF5:yy w5 w2.heap.size 110 #[.int .i64 0,.slice A4 gs.length c4,.slice none 0 0]:=by rw[←hw5];exact HF4.out.put 1 _
  have HF5:=qa hF5
  have hK5:=HK4.out.grown g45 (fun e=>by injection e with e;omega)
  have HK5:=qa hK5
  have HC5:=qa (HC4.out.grown g45 (fun x hx=> .inr (by injection hx with hx;omega)))
  have HO5:Hid (Out w w5 (fun i=>i=g)):=by unfold Hid;rw[←hw5];exact HO4.out.setCell (.inr (by show w.heap.size≤w2.heap.size;omega)) _
  have HR5:Hid (w5.ownsRow w3.heap.size 3 1 (.slice A4 gs.length c4) gs.length (iv (z8 gs))):=by
   unfold Hid
   rw[←hw5]
   exact qcl HR4.out ((Out.refl w4 (fun q=>q=w2.heap.size)).setCell (p:=⟨w2.heap.size,1,none⟩) (.inl rfl) _) (fun q hq e=>by have:=zk HR4.out hq;omega)
  have s5:=g45.size
  have HGD:=qa (xx HC5.out)
  unfold cp at HGD
  have u0:=hF5.cell 0
  have u1:=hF5.cell 1
  have u2:=hF5.cell 2
  have v0:=hK5.cell 0
  have v1:=hK5.cell 1
  have v2:=hK5.cell 2
  have y0:=hK5.frozen 0
  have y1:=hK5.frozen 1
  have y2:=hK5.frozen 2
  clear hw5 g45 hF5 hK5 q1 f1
  by_cases he:e4=0
  ·
   subst he
   go_wp2_with fail
   refine HGD.out.mono ?_
   rintro r w' ⟨rfl,rfl⟩
   clear HGD
   go_wp2_with fail
   obtain⟨w6,hw6⟩:∃w6,((w5.setCell ⟨w.heap.size,0,none⟩ (.int .i64 0)).setCell ⟨w.heap.size,1,none⟩ (.slice A4 gs.length c4)).setCell ⟨w.heap.size,2,none⟩ (.slice none 0 0)=w6:=⟨_,rfl⟩
   try rw[hw6]
   have hk6:yy w6 w.heap.size 110 #[.int .i64 0,.slice A4 gs.length c4,.slice none 0 0]:=by rw[←hw6];exact((HK5.out.put 0 _).put 1 _).put 2 _
   have g56:w5.grownBy w6 (some w.heap.size):=by rw[←hw6];exact xy (xy (xy (vg w5 (some w.heap.size)) (p:=⟨w.heap.size,0,none⟩) (.inl rfl) _) (p:=⟨w.heap.size,1,none⟩) (.inl rfl) _) (p:=⟨w.heap.size,2,none⟩) (.inl rfl) _
   have ho6:=HO5.out.trans (Out.of_gb (X:=fun q=>q=w.heap.size) g56 (fun q hq=>by injection hq with hq;exact hq.symm)) (fun q hq e=>by omega)
   have hc6:=HC5.out.grown g56 (fun x hx=> .inr (by injection hx with hx;omega))
   have hr6:=jv HR5.out (fun q hq=>g56.block q (zk HR5.out hq).2 (fun e=>by have:=(zk HR5.out hq).1;injection e with e;omega))
   have htg:TakeG bs k e 0 gs [] k2 0:=by simpa only[if_true] using HTG.out
   refine bodyPost_ret (v:= .agg #[.int .i64 0,.slice A4 gs.length c4,.slice none 0 0]) ?_ rfl ⟨_,0,gs,[],k2,0,rfl,htg,⟨A4,c4,none,0,rfl,(Rd.of_own hr6).wide (by omega) (qc _),Rd.nil _ _ _⟩,hc6,ho6⟩
   exact results_cell_row rfl _ _ w.heap.size 110 _ (0,0) _ rfl hk6 Tryz.underlying110 rfl (by kernel_rfl)
  ·
   have hbe:(e4==0)=false:=q9.2 he
   rw[hbe] at HGD
   have HE:=qa he
   clear hbe he
   go_wp2_with fail
   refine HGD.out.mono ?_
   rintro r w' ⟨rfl,rfl⟩
   clear HGD
   go_wp2_with fail
   obtain⟨w6,hw6⟩:∃w6,((w5.setCell ⟨w.heap.size,0,none⟩ (.int .i64 0)).setCell ⟨w.heap.size,1,none⟩ (.slice none 0 0)).setCell ⟨w.heap.size,2,none⟩ (.slice none 0 0)=w6:=⟨_,rfl⟩
   try rw[hw6]
   have hk6:yy w6 w.heap.size 110 #[.int .i64 0,.slice none 0 0,.slice none 0 0]:=by rw[←hw6];exact((HK5.out.put 0 _).put 1 _).put 2 _
   have g56:w5.grownBy w6 (some w.heap.size):=by rw[←hw6];exact xy (xy (xy (vg w5 (some w.heap.size)) (p:=⟨w.heap.size,0,none⟩) (.inl rfl) _) (p:=⟨w.heap.size,1,none⟩) (.inl rfl) _) (p:=⟨w.heap.size,2,none⟩) (.inl rfl) _
   have ho6:=HO5.out.trans (Out.of_gb (X:=fun q=>q=w.heap.size) g56 (fun q hq=>by injection hq with hq;exact hq.symm)) (fun q hq e=>by omega)
   have hc6:=HC5.out.grown g56 (fun x hx=> .inr (by injection hx with hx;omega))
   have htg:=HTG.out
   rw[if_neg HE.out] at htg
   refine bodyPost_ret (v:= .agg #[.int .i64 0,.slice none 0 0,.slice none 0 0]) ?_ rfl ⟨_,0,[],[],k2,e4,rfl,htg,⟨none,0,none,0,rfl,Rd.nil _ _ _,Rd.nil _ _ _⟩,hc6,ho6⟩
   exact results_cell_row rfl _ _ w.heap.size 110 _ (0,0) _ rfl hk6 Tryz.underlying110 rfl (by kernel_rfl)
 ·
  have ib0:¬(b:Int)=0:=by omega
  have ib1:((b:Int)==0)=false:=q9.2 ib0
  go_wp2_with fail
  obtain⟨w3,hw3⟩:∃w3,w2.alloc (.cells #[.int .i64 (b:Int),.slice none 0 0,.slice none 0 0] 110)=w3:=⟨_,rfl⟩
  rw[hw3]
  have B23:Below w2.heap.size w2 w3:=by rw[←hw3];exact(Below.refl _ w2).alloc (qc _) _
  have HK3:=qa (HK2.out.below B23 (by omega))
  have HF3:Hid (yy w3 w2.heap.size 110 #[.int .i64 (b:Int),.slice none 0 0,.slice none 0 0]):=by unfold Hid;rw[←hw3];exact yy.new w2 _ _
  have HC3:=qa (HC2.out.behind B23 (by omega))
  have HO3:Hid (Out w w3 (fun i=>i=g)):=by
   unfold Hid
   rw[←hw3]
   exact((Out.of_below (X:=fun i=>i=g) B1.out).trans (Out.of_gb (X:=fun i=>i=g) HG2.out (fun q hq=>by injection hq with hq;exact hq.symm)) (fun _ _ h=>h)).alloc _
  have s3:w2.heap.size<w3.heap.size:=by rw[←hw3];simp
  obtain⟨R,hR⟩:∃R,qcj bs k1 e1 (b:Int)=R:=⟨_,rfl⟩
  obtain⟨rs,k2,e2⟩:=R
  obtain⟨e4,he4⟩:∃e4,e4=if rs.length=b then e2 else if e2=0 then 3 else e2:=⟨_,rfl⟩
  have HTG:=qa (take_set hkl (by omega) HMR.out hR e4 he4)
  have HLB:Hid (e4=0→rs.length=b):=fun h=>by
   rw[h] at he4
   split at he4
   ·
    assumption
   ·
    split at he4
    ·
     exact absurd he4 (by decide)
    ·
     rename_i h6;exact absurd he4.symm h6
  have HTK:=qa (gtakeSet_any HC3.out hbs b hb rs k2 e2 hR e4 he4)
  unfold cp at HTK
  clear hw3 B23 hR he4
  refine HTK.out.mono ?_
  rintro r w4 ⟨A4,c4,rfl,ho4,hc4,hg4⟩
  have hF4:=HF3.out.grown hg4 (fun e=>by injection e with e;omega)
  have HF4:=qa hF4
  have HK4:=qa (HK3.out.grown hg4 (fun e=>by injection e with e;omega))
  have q1:=hF4.cell 2
  have f1:=hF4.frozen 2
  have HR4:=qa ho4
  have HC4:=qa hc4
  have HO4:=qa (HO3.out.trans (Out.of_gb (X:=fun i=>i=g) hg4 (fun q hq=>by injection hq with hq;exact hq.symm)) (fun _ _ h=>h))
  have s4:=hg4.size
  clear hF4 ho4 hc4 hg4 HTK
  go_wp2_with fail
  obtain⟨w5,hw5⟩:∃w5,w4.setCell ⟨w2.heap.size,2,none⟩ (.slice A4 rs.length c4)=w5:=⟨_,rfl⟩
  rw[hw5]
  have g45:w4.grownBy w5 (some w2.heap.size):=by rw[←hw5];exact xy (vg w4 (some w2.heap.size)) (.inl rfl) _
  have hF5:yy w5 w2.heap.size 110 #[.int .i64 (b:Int),.slice none 0 0,.slice A4 rs.length c4]:=by rw[←hw5];exact HF4.out.put 2 _
  have HF5:=qa hF5
  have hK5:=HK4.out.grown g45 (fun e=>by injection e with e;omega)
  have HK5:=qa hK5
  have HC5:=qa (HC4.out.grown g45 (fun x hx=> .inr (by injection hx with hx;omega)))
  have HO5:Hid (Out w w5 (fun i=>i=g)):=by unfold Hid;rw[←hw5];exact HO4.out.setCell (.inr (by show w.heap.size≤w2.heap.size;omega)) _
  have HR5:Hid (w5.ownsRow w3.heap.size 4 1 (.slice A4 rs.length c4) rs.length (lv rs)):=by
   unfold Hid
   rw[←hw5]
   exact qcl HR4.out ((Out.refl w4 (fun q=>q=w2.heap.size)).setCell (p:=⟨w2.heap.size,2,none⟩) (.inl rfl) _) (fun q hq e=>by have:=zk HR4.out hq;omega)
  have s5:=g45.size
  have HGD:=qa (xx HC5.out)
  unfold cp at HGD
  have u0:=hF5.cell 0
  have u1:=hF5.cell 1
  have u2:=hF5.cell 2
  have v0:=hK5.cell 0
  have v1:=hK5.cell 1
  have v2:=hK5.cell 2
  have y0:=hK5.frozen 0
  have y1:=hK5.frozen 1
  have y2:=hK5.frozen 2
  clear hw5 g45 hF5 hK5 q1 f1
  by_cases he:e4=0
  ·
   subst he
   go_wp2_with fail
   refine HGD.out.mono ?_
   rintro r w' ⟨rfl,rfl⟩
   clear HGD
   go_wp2_with fail
   obtain⟨w6,hw6⟩:∃w6,((w5.setCell ⟨w.heap.size,0,none⟩ (.int .i64 (b:Int))).setCell ⟨w.heap.size,1,none⟩ (.slice none 0 0)).setCell ⟨w.heap.size,2,none⟩ (.slice A4 rs.length c4)=w6:=⟨_,rfl⟩
   try rw[hw6]
   have hk6:yy w6 w.heap.size 110 #[.int .i64 (b:Int),.slice none 0 0,.slice A4 rs.length c4]:=by rw[←hw6];exact((HK5.out.put 0 _).put 1 _).put 2 _
   have g56:w5.grownBy w6 (some w.heap.size):=by rw[←hw6];exact xy (xy (xy (vg w5 (some w.heap.size)) (p:=⟨w.heap.size,0,none⟩) (.inl rfl) _) (p:=⟨w.heap.size,1,none⟩) (.inl rfl) _) (p:=⟨w.heap.size,2,none⟩) (.inl rfl) _
   have ho6:=HO5.out.trans (Out.of_gb (X:=fun q=>q=w.heap.size) g56 (fun q hq=>by injection hq with hq;exact hq.symm)) (fun q hq e=>by omega)
   have hc6:=HC5.out.grown g56 (fun x hx=> .inr (by injection hx with hx;omega))
   have hr6:=jv HR5.out (fun q hq=>g56.block q (zk HR5.out hq).2 (fun e=>by have:=(zk HR5.out hq).1;injection e with e;omega))
   have htg:TakeG bs k e b [] rs k2 0:=by simpa only[if_true] using HTG.out
   refine bodyPost_ret (v:= .agg #[.int .i64 (b:Int),.slice none 0 0,.slice A4 rs.length c4]) ?_ rfl ⟨_,b,[],rs,k2,0,rfl,htg,⟨none,0,A4,c4,rfl,Rd.nil _ _ _,(Rd.of_own hr6).wide (by omega) (qc _)⟩,hc6,ho6⟩
   exact results_cell_row rfl _ _ w.heap.size 110 _ (0,0) _ rfl hk6 Tryz.underlying110 rfl (by kernel_rfl)
  ·
   have hbe:(e4==0)=false:=q9.2 he
   rw[hbe] at HGD
   have HE:=qa he
   clear hbe he
   go_wp2_with fail
   refine HGD.out.mono ?_
   rintro r w' ⟨rfl,rfl⟩
   clear HGD
   go_wp2_with fail
   obtain⟨w6,hw6⟩:∃w6,((w5.setCell ⟨w.heap.size,0,none⟩ (.int .i64 0)).setCell ⟨w.heap.size,1,none⟩ (.slice none 0 0)).setCell ⟨w.heap.size,2,none⟩ (.slice none 0 0)=w6:=⟨_,rfl⟩
   try rw[hw6]
   have hk6:yy w6 w.heap.size 110 #[.int .i64 0,.slice none 0 0,.slice none 0 0]:=by rw[←hw6];exact((HK5.out.put 0 _).put 1 _).put 2 _
   have g56:w5.grownBy w6 (some w.heap.size):=by rw[←hw6];exact xy (xy (xy (vg w5 (some w.heap.size)) (p:=⟨w.heap.size,0,none⟩) (.inl rfl) _) (p:=⟨w.heap.size,1,none⟩) (.inl rfl) _) (p:=⟨w.heap.size,2,none⟩) (.inl rfl) _
   have ho6:=HO5.out.trans (Out.of_gb (X:=fun q=>q=w.heap.size) g56 (fun q hq=>by injection hq with hq;exact hq.symm)) (fun q hq e=>by omega)
   have hc6:=HC5.out.grown g56 (fun x hx=> .inr (by injection hx with hx;omega))
   have htg:=HTG.out
   rw[if_neg HE.out,if_neg HE.out] at htg
   refine bodyPost_ret (v:= .agg #[.int .i64 0,.slice none 0 0,.slice none 0 0]) ?_ rfl ⟨_,0,[],[],k2,e4,rfl,htg,⟨none,0,none,0,rfl,Rd.nil _ _ _,Rd.nil _ _ _⟩,hc6,ho6⟩
   exact results_cell_row rfl _ _ w.heap.size 110 _ (0,0) _ rfl hk6 Tryz.underlying110 rfl (by kernel_rfl)
end Go.Proofs.YtjfecojdagmacaaGreat
