/-
  Lemmas.
-/
import Derived.Test.YtjfecojdagmacaaGreatE29
namespace Go.Proofs.YtjfecojdagmacaaGreat
open Go.RowKit
set_option maxRecDepth 20000
set_option maxHeartbeats 16000000
set_option linter.unusedSimpArgs false
set_option linter.unusedVariables false
def vb(l:List Pt):List (List UInt8):=l.map Pt.b
theorem qam(l:List Pt):(vb l).length=l.length:=by simp[vb]
theorem rawPt_snoc(l:List Pt)(p:Pt):vb (l++[p])=vb l++[p.b]:=by simp[vb]
def qc8(b:List UInt8)(n:Nat)(l:List Pt):Prop:=TbOk n l∧l.length≤9223372036854775807∧b=vn (xf n (vb l))
theorem flatB_snoc(raw:List (List UInt8))(b:List UInt8):kh (raw++[b])=kh raw++(jc b.length++b):=by simp[kh]
theorem qhh(raw:List (List UInt8))(b:List UInt8):kh (b :: raw)=jc b.length++(b++kh raw):=by simp[kh]
structure RdAt (bs:List UInt8) (n cnt i k:Nat) (l:List Pt):Prop where
 le:k≤bs.length
 len:l.length=i
 /-- what stands ahead -/
 lies:bs=jc n++jc cnt++kh (vb l)++bs.drop k
 /-- whatever table these bytes are begins so -/
 one:∀n' l',TbOk n' l'→l'.length≤9223372036854775807→bs=xf n' (vb l')→n'=n∧l'.length=cnt∧l'.take i=l∧bs.drop k=kh (vb (l'.drop i))
theorem RdAt.start{bs:List UInt8}{n cnt k0 k1:Nat}(h0:z8 bs 0 0 8=(n,k0,0))(h1:z8 bs k0 0 9223372036854775807=(cnt,k1,0)):RdAt bs n cnt 0 k1 []:=by
 obtain⟨a1,a2,a3,a4,a5⟩:=qab (qj _) h0
 obtain⟨b1,b2,b3,b4,b5⟩:=qab a5 h1
 rw[jv] at a3
 refine⟨b5,rfl,?_,fun n' l' hok hl he => ?_⟩
 ·
  rw[show kh (vb [])=[] from rfl,jd,qm,←b3,←a3]
 ·
  unfold xf at he
  rw[a3,b3,qm] at he
  obtain⟨e1,e2⟩:=qgy _ he
  obtain⟨e3,e4⟩:=qgy _ e2
  refine⟨e1.symm,by rw[e3,qam],rfl,by rw[e4,jv]⟩
theorem xo.len4{b:List UInt8}{n:Nat}{gs:List GrpS}(h:xo b n gs):4≤b.length:=by
 have:=h.1
 unfold kj at this
 rw[jq,decide_eq_true_iff] at this
 exact this.1
theorem xo.same{b:List UInt8}{n:Nat}{gs gs':List GrpS}(h:xo b n gs)(h':xo b n gs'):gs=gs':=by
 have:=h.2.symm.trans h'.2
 injection this with this
 injection this
section
variable {bs:List UInt8}{n cnt i k:Nat}{l:List Pt}
theorem RdAt.next(h:RdAt bs n cnt i k l)(hi:i<cnt){n':Nat}{l':List Pt}(hok:TbOk n' l')(hl:l'.length≤9223372036854775807)(he:bs=xf n' (vb l')) :
  ∃p,n'=n∧l'.length=cnt∧l'.take (i+1)=l++[p]∧bs.drop k=jc p.b.length++(p.b++kh (vb (l'.drop (i+1))))∧p.b.length≤1000000000∧xo p.b n p.gs∧ui l+vi p.gs≤4096:=by
 obtain⟨e1,e2,e3,e4⟩:=h.one n' l' hok hl he
 subst e1
 have hil:i<l'.length:=by omega
 have hm:=ql hil
 have ht:l'.take (i+1)=l++[l'[i]]:=by rw[qi hil,e3]
 refine⟨l'[i],rfl,e2,ht,?_,hok.size _ hm,hok.read _ hm,?_⟩
 ·
  rw[e4,ja hil,show vb (l'[i] :: l'.drop (i+1))=l'[i].b :: vb (l'.drop (i+1)) from rfl,qhh]
 ·
  have:=totPt_take l' (i+1)
  rw[ht,qct] at this
  exact zc this hok.tot
theorem RdAt.no_num(h:RdAt bs n cnt i k l)(hi:i<cnt)(hm:(z8 bs k 0 9223372036854775807).2.2≠0):∀n' l',TbOk n' l'→l'.length≤9223372036854775807→bs≠xf n' (vb l'):=fun n' l' hok hl he=>by
 obtain⟨p,_,_,_,hd,hs,_,_⟩:=h.next hi hok hl he
 rw[vp hd (by omega) (by omega)] at hm
 exact hm rfl
theorem RdAt.no_bytes{s k1:Nat}(h:RdAt bs n cnt i k l)(hi:i<cnt)(hm:z8 bs k 0 9223372036854775807=(s,k1,0))(ht:(z6 bs k1 0 0 (s:Int)).2.2≠0):∀n' l',TbOk n' l'→l'.length≤9223372036854775807→bs≠xf n' (vb l'):=fun n' l' hok hl he=>by
 obtain⟨p,_,_,_,hd,hs,_,_⟩:=h.next hi hok hl he
 have h2:=vp hd (m:=9223372036854775807) (by omega) (by omega)
 rw[hm] at h2
 injection h2 with h3 h4
 injection h4 with h4 _
 obtain⟨a1,a2,a3,a4,a5⟩:=qab h.le hm
 rw[hd,h3] at a3
 have a6:=xp a3
 have h7:k1+s≤bs.length:=by
  have:=congrArg List.length a6
  rw[qd,qv] at this
  omega
 rw[qa2 bs k1 s h7] at ht
 exact ht rfl
theorem RdAt.took{s k1:Nat}(h:RdAt bs n cnt i k l)(hi:i<cnt)(hm:z8 bs k 0 9223372036854775807=(s,k1,0)){x:List UInt8}{k2:Nat}(ht:z6 bs k1 0 0 (s:Int)=(x,k2,0)) :
  x.length=s∧k2≤bs.length∧bs.drop k=jc x.length++(x++bs.drop k2)∧∀n' l',TbOk n' l'→l'.length≤9223372036854775807→bs=xf n' (vb l')→∃p,p.b=x∧l'.take (i+1)=l++[p]∧bs.drop k2=kh (vb (l'.drop (i+1)))∧xo x n p.gs∧ui l+vi p.gs≤4096∧x.length≤1000000000:=by
 obtain⟨a1,a2,a3,a4,a5⟩:=qab h.le hm
 have hfit:k1+s≤bs.length:=by
  rcases Nat.lt_or_ge bs.length (k1+s) with h1 | h1
  ·
   rw[qa8 bs k1 s h1] at ht
   injection ht with _ h2
   injection h2 with _ h3
   cases h3
  ·
   exact h1
 rw[qa2 bs k1 s hfit] at ht
 injection ht with e1 e2
 injection e2 with e2 _
 have hxl:x.length=s:=by rw[←e1,qy,qv];omega
 have hd1:bs.drop k1=x++bs.drop k2:=by rw[←e1,←e2,←zu,zw]
 refine⟨hxl,by omega,by rw[a3,hxl,hd1],fun n' l' hok hl he => ?_⟩
 obtain⟨p,en,_,h2,h3,h4,h5,h6⟩:=h.next hi hok hl he
 rw[a3,hd1,←hxl] at h3
 obtain⟨g1,g2⟩:=qgy _ h3
 obtain⟨g3,g4⟩:=List.append_inj g2 g1
 exact⟨p,g3.symm,h2,g4,g3 ▸ h5,h6,by rw[g3];exact h4⟩
theorem RdAt.step{s k1:Nat}(h:RdAt bs n cnt i k l)(hi:i<cnt)(hm:z8 bs k 0 9223372036854775807=(s,k1,0)){x:List UInt8}{k2:Nat}(ht:z6 bs k1 0 0 (s:Int)=(x,k2,0)){gs:List GrpS}(hr:xo x n gs):RdAt bs n cnt (i+1) k2 (l++[⟨x,gs⟩]):=by
 obtain⟨h1,h2,h3,h4⟩:=h.took hi hm ht
 refine⟨h2,by rw[qd,h.len];rfl,?_,fun n' l' hok hl he => ?_⟩
 ·
  rw[rawPt_snoc,flatB_snoc]
  conv=>lhs;rw[h.lies,h3]
  simp only[qm]
 ·
  obtain⟨p,e1,e2,e3,e4,_,_⟩:=h4 n' l' hok hl he
  obtain⟨f1,f2,_,_⟩:=h.one n' l' hok hl he
  refine⟨f1,f2,?_,e3⟩
  rw[e2]
  obtain⟨pb,pg⟩:=p
  simp only at e1 e4
  rw[←e1,hr.same e4]
theorem RdAt.no_part{s k1:Nat}(h:RdAt bs n cnt i k l)(hi:i<cnt)(hm:z8 bs k 0 9223372036854775807=(s,k1,0)){x:List UInt8}{k2:Nat}(ht:z6 bs k1 0 0 (s:Int)=(x,k2,0))(hn:∀gs,xo x n gs→4096<ui l+vi gs):∀n' l',TbOk n' l'→l'.length≤9223372036854775807→bs≠xf n' (vb l'):=fun n' l' hok hl he=>by
 obtain⟨_,_,_,h4⟩:=h.took hi hm ht
 obtain⟨p,e1,e2,e3,e4,e5,_⟩:=h4 n' l' hok hl he
 have:=hn _ e4
 omega
theorem RdAt.no_end(h:RdAt bs n cnt cnt k l)(hk:k<bs.length):∀n' l',TbOk n' l'→l'.length≤9223372036854775807→bs≠xf n' (vb l'):=fun n' l' hok hl he=>by
 obtain⟨e1,e2,e3,e4⟩:=h.one n' l' hok hl he
 rw[List.drop_of_length_le (l:=l') (by omega)] at e4
 have:=congrArg List.length e4
 rw[qv] at this
 simp[vb,kh] at this
 omega
theorem RdAt.all(h:RdAt bs n cnt cnt k l)(hk:¬k<bs.length):bs=xf n (vb l):=by
 have h1:=h.lies
 rw[List.drop_of_length_le (by omega),jd] at h1
 rw[h1,xf,qam,h.len]
end
theorem qiw{b:List UInt8}(h:kj b=true){n:Nat}{l:List Pt}:qc8 b n l↔TbOk n l∧l.length≤9223372036854775807∧b.take (b.length-4)=xf n (vb l):=by
 have h4:4≤b.length:=by
  unfold kj at h
  rw[jq,decide_eq_true_iff] at h
  exact h.1
 have hs:vn (b.take (b.length-4))=b:=by
  have:=sealedB_iff h4
  rw[h] at this
  exact of_decide_eq_true this.symm
 constructor
 ·
  rintro⟨h1,h2,h3⟩
  refine⟨h1,h2,?_⟩
  rw[h3,ut,Nat.add_sub_cancel,qfv]
 ·
  rintro⟨h1,h2,h3⟩
  exact⟨h1,h2,by rw[←h3,hs]⟩
theorem not_tab{b:List UInt8}(h:kj b=false)(n:Nat)(l:List Pt):¬qc8 b n l:=fun⟨_,_,h3⟩=>by
 rw[h3,qhb] at h
 cases h
theorem qc8.one{b:List UInt8}{n n':Nat}{l l':List Pt}(h:qc8 b n l)(h':qc8 b n' l'):n=n'∧l=l':=by
 have hs:kj b=true:=by rw[h.2.2];exact qhb _
 obtain⟨a1,a2,a3⟩:=(qiw hs).1 h
 obtain⟨b1,b2,b3⟩:=(qiw hs).1 h'
 obtain⟨e1,e2⟩:=export_one (a3.symm.trans b3)
 subst e1
 refine⟨rfl,?_⟩
 have hl:l.length=l'.length:=by rw[←qam,e2,qam]
 refine List.ext_getElem hl fun i h1 h2 => ?_
 have hb:l[i].b=l'[i].b:=by
  have:=List.getElem_of_eq e2 (show i<(vb l).length by rw[qam];exact h1)
  simpa[vb] using this
 have r1:=a1.read _ (ql h1)
 have r2:=b1.read _ (ql h2)
 rw[hb] at r1
 have:=r1.same r2
 generalize l[i]=p at *
 generalize l'[i]=q at *
 obtain⟨pb,pg⟩:=p
 obtain⟨qb,qg⟩:=q
 simp only at hb this
 rw[hb,this]
structure TabAt (w:World) (lo:Nat) (S:Nat→Prop) (G n T:Nat) (l:List Pt) (A:Option Addr) (c:Nat) (xs:List Value):Prop where
 blk:j8 w G 82 #[.int .i64 (n:Int),.int .i64 (T:Int),.slice A l.length c]
 row:w.ownsRow lo 36 1 (.slice A l.length c) l.length xs
 pts:PtsM w S G (Value.slice A l.length c).ownBlock xs l
 ob:∀k,(Value.slice A l.length c).ownBlock=some k→S k∧k≠G
 own:S G
 mine:∀k,S k→lo≤k∧k<w.heap.size
section
variable {w w':World}{lo G n T:Nat}{S X:Nat→Prop}{l:List Pt}{A:Option Addr}{c:Nat}{xs:List Value}
theorem TabM.parts(h:TabM w lo S G n l):∃A c xs,TabAt w lo S G n (ui l) l A c xs:=by
 obtain⟨A,c,xs,h1,h2,h3,h4⟩:=h.at_
 exact⟨A,c,xs,h1,h2,h3,h4,h.own,h.mine⟩
theorem TabAt.whole(h:TabAt w lo S G n T l A c xs)(hT:T=ui l):TabM w lo S G n l:=by
 subst hT
 exact⟨⟨A,c,xs,h.blk,h.row,h.pts,h.ob⟩,h.own,h.mine⟩
theorem TabAt.out(h:TabAt w lo S G n T l A c xs)(ho:Out w w' X)(hX:∀k,S k→¬X k):TabAt w' lo S G n T l A c xs :=
 ⟨h.blk.out ho (hX G h.own),qaa h.row ho (fun k hk=>hX k (h.ob k hk).1),h.pts.out ho hX,h.ob,h.own,fun k hk=>⟨(h.mine k hk).1,zh (h.mine k hk).2 ho.size⟩⟩
theorem TabAt.below(h:TabAt w lo S G n T l A c xs)(hb:Below w.heap.size w w'):TabAt w' lo S G n T l A c xs:=h.out (X:=fun _=>False) (Out.of_below hb) fun _ _ h=>h
theorem TabAt.put(h:TabAt w lo S G n T l A c xs)(T':Nat):TabAt (w.setCell ⟨G,1,none⟩ (.int .i64 (T':Int))) lo S G n T' l A c xs:=by
 have ho:Out w (w.setCell ⟨G,1,none⟩ (.int .i64 (T':Int))) (fun k=>k=G):=(Out.refl w (fun k=>k=G)).setCell (.inl rfl) _
 refine⟨h.blk.put 1 _,qaa h.row ho (fun k hk=>(h.ob k hk).2),⟨h.pts.1,fun j hj => ?_⟩,h.ob,h.own,fun k hk=>⟨(h.mine k hk).1,zh (h.mine k hk).2 ho.size⟩⟩
 obtain⟨A',c',g,h1,h2,h3,h4,h5,h6⟩:=h.pts.2 j hj
 exact⟨A',c',g,h1,h2,h3,h4,zh h5 ho.size,h6.out ho (by omega) fun k h7 h8=>by omega⟩
theorem Rd.block{lo hi c:Nat}{A:Option Addr}{xs:List Value}(h:Rd w lo hi A c xs)(hp:0<xs.length):∃g,lo≤g∧g<hi∧Rd w g (g+1) A c xs:=by
 obtain⟨b,off,e,h1,h2,h3⟩:=h.at_ hp
 exact⟨b,h1,h2,h.len,h.cap,fun _=>⟨b,off,e,qc _,Nat.lt_succ_self _,h3⟩⟩
theorem TabAt.far{lo' hi' d:Nat}{B:Option Addr}{bs:List UInt8}(h:TabAt w lo S G n T l A c xs)(hr:Rd w lo' hi' B d (bv bs))(hp:0<bs.length):∃g,lo'≤g∧g<hi'∧g≠G∧Rd w g (g+1) B d (bv bs):=by
 have hp2:0<(bv bs).length:=by rw[jj];exact hp
 obtain⟨g,h1,h2,h3⟩:=hr.block hp2
 refine⟨g,h1,h2,fun e => ?_,h3⟩
 subst e
 obtain⟨b,off,e,h4,h5,h6⟩:=h3.at_ hp2
 obtain rfl:b=g:=by omega
 have h7:=h6 0 _ (qgt bs 0 hp)
 rw[y7,h.blk.cell off] at h7
 match off,h7 with
 | 0,h7=>simp at h7
 | 1,h7=>simp at h7
 | 2,h7=>simp at h7
 | k+3,h7=>simp at h7
theorem Tryz.infoByts:(Tryz.prog.info? 36).map (fun i=>(i.zero,i.size,i.bytes))=some (some (.slice none 0 0),1,24):=by kernel_rfl
theorem append_byts1{base n:Nat}{v:Value}{xs:List Value}(hown:w.ownsRow base 36 1 v n xs){g:Nat}{u:Value}(hc:w.cell? ⟨g,0,none⟩=some u)(h1:u.oneCell'=true)(hb:n+1≤2000000000)(hbase:base≤w.heap.size) :
  ∃A' c' w',(Builtin.append_ #[39,39] 39 #[v,.slice (some ⟨g,0,none⟩) 1 1]).run Tryz.prog w= .ok (.slice A' (n+1) c') w'∧w'.ownsRow base 36 1 (.slice A' (n+1) c') (n+1) (xs++[u])∧w.grownBy w' v.ownBlock∧
   ((Value.slice A' (n+1) c').ownBlock=v.ownBlock∨(Value.slice A' (n+1) c').ownBlock=some w.heap.size):=by
 obtain⟨i0,hi0,hz0,hz1,hz2⟩:=info_parts Tryz.infoByts
 have hr:Rd w 0 w.heap.size (some ⟨g,0,none⟩) 1 [u]:=⟨by simp,by simp[maxLen],fun _=>⟨g,0,rfl,qj _,km w _ hc,fun j y hj=>by
  match j,hj with
  | 0,hj=>simp at hj;subst hj;exact hc
  | j+1,hj=>simp at hj⟩⟩
 exact ky (P:=Tryz.prog) w base 39 39 36 i0 _ 24 Tryz.underlying39 hi0 hz0 hz1 hz2 rfl v n xs hown 0 _ _ 1 [u] hr (fun y hy=>by rw[q8.1 hy];exact h1) (by simp only[maxLen,zx];omega) (by simp;omega) hbase
theorem tab_add(h:TabAt w lo S G n T l A c xs)(hlo:lo≤w.heap.size)(hcnt:l.length≤1000000000){b:List UInt8}{gs:List GrpS}{wa:World}{A4:Option Addr}{c4:Nat}(hb:Below w.heap.size w wa)(ho:wa.ownsRow w.heap.size 5 1 (.slice A4 b.length c4) b.length (bv b))(hp:0<b.length){wb:World}(hwb:wa.alloc (.cells #[.slice A4 b.length c4] 36)=wb) :
  ∃A' c' we,(Builtin.append_ #[39,39] 39 #[.slice A l.length c,.slice (some ⟨wa.heap.size,0,none⟩) 1 1]).run Tryz.prog wb= .ok (.slice A' (l.length+1) c') we∧we.cell? ⟨G,2,none⟩=some (.slice A l.length c)∧we.frozen? ⟨G,2,none⟩=false∧
   ∃S' xs',TabAt (we.setCell ⟨G,2,none⟩ (.slice A' (l.length+1) c')) lo S' G n T (l++[⟨b,gs⟩]) A' c' xs'∧(∀k,S' k→S k∨w.heap.size≤k)∧Out w (we.setCell ⟨G,2,none⟩ (.slice A' (l.length+1) c')) S:=by
 obtain⟨g4,rfl,hg4,hg4b⟩:=qe8 ho hp
 have hGl:=(h.mine G h.own).2
 have b2:Below wa.heap.size wa wb:=by rw[←hwb];exact(Below.refl _ wa).alloc (qc _) _
 have hz:wb.heap.size=wa.heap.size+1:=by rw[←hwb];simp
 have bb:Below w.heap.size w wb:=hb.trans (b2.mono hb.size)
 have hab:=h.below bb
 have hcb:wb.cell? ⟨wa.heap.size,0,none⟩=some (.slice (some ⟨g4,0,none⟩) b.length c4):=by rw[←hwb,zm _ _ _ _ rfl];rfl
 have ho4:wb.ownsRow w.heap.size 5 1 (.slice (some ⟨g4,0,none⟩) b.length c4) b.length (bv b):=ji ho b2 (qc _)
 obtain⟨A',c',we,hrun,hro,hgr,hq⟩:=append_byts1 hab.row hcb rfl (by omega) (by have:=bb.size;omega)
 have hnG:∀k,(Value.slice A l.length c).ownBlock=some k→k≠G:=fun k hk=>(h.ob k hk).2
 have hblk:j8 we G 82 #[.int .i64 (n:Int),.int .i64 (T:Int),.slice A l.length c]:=hab.blk.grown hgr fun e=>hnG G e.symm rfl
 refine⟨A',c',we,hrun,hblk.cell 2,hblk.frozen 2,?_⟩
 have hsz:=bb.size
 have hsz2:=hgr.size
 have hq2:∀k,(Value.slice A' (l.length+1) c').ownBlock=some k→(Value.slice A l.length c).ownBlock=some k∨k=wb.heap.size:=fun k hk=>by
  rcases hq with e | e
  ·
   exact .inl (e ▸ hk)
  ·
   rw[e] at hk;exact .inr (zy hk).symm
 have og:Out wb we (fun k=>(Value.slice A l.length c).ownBlock=some k):=Out.of_gb hgr fun k hk=>hk
 have oc:Out we (we.setCell ⟨G,2,none⟩ (.slice A' (l.length+1) c')) (fun k=>k=G):=(Out.refl we (fun k=>k=G)).setCell (.inl rfl) _
 have hzc:(we.setCell ⟨G,2,none⟩ (.slice A' (l.length+1) c')).heap.size=we.heap.size:=by simp[World.setCell]
 have os:Out w (we.setCell ⟨G,2,none⟩ (.slice A' (l.length+1) c')) S:=(((Out.of_below (X:=S) bb).trans og fun k _ hk=>(h.ob k hk).1)).trans oc fun k _ hk=>by subst hk;exact h.own
 have hn1:(l++[(⟨b,gs⟩:Pt)]).length=l.length+1:=by simp
 refine⟨fun k=>S k∨k=g4∨(Value.slice A' (l.length+1) c').ownBlock=some k,xs++[.slice (some ⟨g4,0,none⟩) b.length c4],⟨?_,?_,⟨?_,fun j hj => ?_⟩,?_,.inl h.own,fun k hk => ?_⟩,fun k hk => ?_,os⟩
 ·
  rw[hn1]
  exact hblk.put 2 _
 ·
  rw[hn1]
  exact qaa hro oc fun k hk e=>by
   rcases hq2 k hk with h2 | h2
   ·
    exact hnG k h2 e
   ·
    omega
 ·
  rw[hn1,qd,h.pts.1];rfl
 ·
  rw[hn1] at hj ⊢
  by_cases hjl:j<l.length
  ·
   obtain⟨Aj,cj,gj,h1,h2,h3,h4,h5,h6⟩:=h.pts.2 j hjl
   have hne:(Value.slice A' (l.length+1) c').ownBlock≠some gj:=fun e=>by
    rcases hq2 gj e with h7 | h7
    ·
     exact h4 h7
    ·
     omega
   refine⟨Aj,cj,gj,?_,.inl h2,h3,hne,by omega,?_⟩
   ·
    rw[ju (by rw[h.pts.1];exact hjl),j6 hjl]
    exact h1
   ·
    rw[j6 hjl]
    refine((h6.below bb (by omega)).out og (by omega) fun k h7 h8 h9 => ?_).out oc (by omega) fun k h7 h8=>by omega
    obtain rfl:k=gj:=by omega
    exact h4 h9
  ·
   obtain rfl:j=l.length:=by omega
   have hne:(Value.slice A' (l.length+1) c').ownBlock≠some g4:=fun e=>by
    rcases hq2 g4 e with h7 | h7
    ·
     have:=(h.mine g4 (h.ob g4 h7).1).2;omega
    ·
     omega
   refine⟨some ⟨g4,0,none⟩,c4,g4,?_,.inr (.inl rfl),by omega,hne,by omega,?_⟩
   ·
    rw[yl (by rw[h.pts.1];exact qc _),h.pts.1,qbt]
    simp
   ·
    have hg3:Rd wb g4 (g4+1) (some ⟨g4,0,none⟩) c4 (bv b):=by
     have hr4:=Rd.of_own ho4
     refine⟨hr4.len,hr4.cap,fun hq => ?_⟩
     obtain⟨b',off,e,h7,h8,h9⟩:=hr4.at_ hq
     injection e with e
     injection e with e e2
     subst e e2
     exact⟨_,_,rfl,qc _,Nat.lt_succ_self _,h9⟩
    simp only[xh (qc _),qbt,xj]
    refine(hg3.out og (by omega) fun k h7 h8 h9 => ?_).out oc (by omega) fun k h7 h8=>by omega
    have:=(h.mine k (h.ob k h9).1).2
    omega
 ·
  rw[hn1]
  intro k hk
  refine⟨.inr (.inr hk),?_⟩
  rcases hq2 k hk with h2 | h2
  ·
   exact(h.ob k h2).2
  ·
   omega
 ·
  rw[hzc]
  rcases hk with hk | rfl | hk
  ·
   have:=h.mine k hk;omega
  ·
   omega
  ·
   exact zk hro hk
 ·
  rcases hk with hk | rfl | hk
  ·
   exact .inl hk
  ·
   exact .inr hg4
  ·
   rcases hq2 k hk with h2 | h2
   ·
    exact .inl (h.ob k h2).1
   ·
    exact .inr (by omega)
end
theorem eqb_any{w:World}(xs ys:List Bool){lo h' lo2 h2:Nat}{A B:Option Addr}{c d:Nat}(hx:Rd w lo h' A c (lv xs))(hy:Rd w lo2 h2 B d (lv ys)) :
  Calls Tryz.prog 131 #[.slice A xs.length c,.slice B ys.length d] w fun r w'=>r= .returned (.bool (decide (xs=ys)))∧∃n,w.drewN n=w':=by
 have hl:=hx.len
 have hc:=hx.cap
 have hl2:=hy.len
 have hc2:=hy.cap
 rw[qac] at hl hl2
 unfold maxLen at hc hc2
 have HX:=qa hx
 have HY:=qa hy
 clear hx hy
 by_cases hlen:xs.length=ys.length
 ·
  have hne:((xs.length:Int) != (ys.length:Int))=false:=by rw[hlen];simp
  have HL:=qa hlen
  have hlen1:xs.length≤ys.length:=by omega
  have hlen2:ys.length≤xs.length:=by omega
  clear hlen
  go_enter Tryz.func131,Tryz.ntmps131
  go_wp2_with fail
  go_loopw [13] (fun i wr=>∃(k n:Nat),k≤xs.length∧i= .int .i64 (k:Int)∧xs.take k=ys.take k∧w.drewN n=wr) (fun i _=>xs.length-(intOf i).toNat)
  case atStart=>exact⟨0,0,qj _,rfl,rfl,rfl⟩
  case round =>
   obtain⟨k,n,hk,rfl,heq,rfl⟩:=hrel
   have HE:=qa heq
   clear heq
   by_cases hlt:k<xs.length
   ·
    have hlt2:k<ys.length:=by omega
    obtain⟨b1,o1,rfl,_,_,hcell1⟩:=HX.out.row hlt
    obtain⟨b2,o2,rfl,_,_,hcell2⟩:=HY.out.row hlt2
    have ht1:Hid (xs.take (k+1)=xs.take k++[xs[k]]):=by unfold Hid;exact qi hlt
    have ht2:Hid (ys.take (k+1)=ys.take k++[ys[k]]):=by unfold Hid;exact qi hlt2
    have hq:Hid (xs=ys→xs[k]=ys[k]):=fun h=>by subst h;rfl
    generalize xs[k]=x at *
    generalize ys[k]=y at *
    by_cases hxy:x=y
    ·
     subst hxy
     go_wp2_with fail
     go_quiet (fail)
     go_wp2
     go_roundw
     case rel=>exact⟨k+1,_,by omega,by go_num,by rw[ht1.out,ht2.out,HE.out],rfl⟩
     case measure=>simp[intOf];omega
    ·
     have hb:(!x==y)=true:=by simpa using hxy
     go_wp2_with fail
     go_quiet (fail)
     go_wp2
     go_ret
     exact⟨yc (qw fun h=>hxy (hq.out h)).symm,_,(qcl _ _ _).symm⟩
   ·
    obtain rfl:k=xs.length:=by omega
    have hall:Hid (xs=ys):=by
     have h:=HE.out
     rw[yo,HL.out,yo] at h
     exact h
    go_wp2
    go_ret
    exact⟨yc (qx hall.out).symm,_,rfl⟩
 ·
  have hne:((xs.length:Int) != (ys.length:Int))=true:=by rw[bne_iff_ne];omega
  have HN:Hid (decide (xs=ys)=false):=qw fun h=>hlen (by rw[h])
  go_enter Tryz.func131,Tryz.ntmps131
  go_wp2
  go_ret
  exact⟨yc HN.out.symm,0,rfl⟩
theorem eqi_any{w:World}(xs ys:List Int){lo h' lo2 h2:Nat}{A B:Option Addr}{c d:Nat}(hx:Rd w lo h' A c (iv xs))(hy:Rd w lo2 h2 B d (iv ys)) :
  Calls Tryz.prog 130 #[.slice A xs.length c,.slice B ys.length d] w fun r w'=>r= .returned (.bool (decide (xs=ys)))∧∃n,w.drewN n=w':=by
 have hl:=hx.len
 have hc:=hx.cap
 have hl2:=hy.len
 have hc2:=hy.cap
 rw[yd] at hl hl2
 unfold maxLen at hc hc2
 have HX:=qa hx
 have HY:=qa hy
 clear hx hy
 by_cases hlen:xs.length=ys.length
 ·
  go_enter Tryz.func130,Tryz.ntmps130
  have HLEN:=qa hlen
  have hle:ys.length≤xs.length:=by omega
  have hge:xs.length≤ys.length:=by omega
  have hne:((xs.length:Int) != (ys.length:Int))=false:=by simp;omega
  clear hlen
  go_wp2_with fail
  go_loopw [13] (fun i wr=>∃k n:Nat,k≤xs.length∧i= .int .i64 (k:Int)∧xs.take k=ys.take k∧w.drewN n=wr) (fun i _=>xs.length-(intOf i).toNat)
  case atStart=>exact⟨0,0,qj _,rfl,rfl,rfl⟩
  case round =>
   obtain⟨k,n,hk,rfl,hf,rfl⟩:=hrel
   have HF:=qa hf
   clear hf
   by_cases hlt:k<xs.length
   ·
    obtain⟨b,off,rfl,_,_,hcell⟩:=HX.out.num hlt
    obtain⟨b2,off2,rfl,_,_,hcell2⟩:=HY.out.num (k:=k) (by omega)
    have hlt2:k<ys.length:=by omega
    have h1:Hid (xs.take (k+1)=xs.take k++[xs[k]]):=by unfold Hid;exact qi hlt
    have h2:Hid (ys.take (k+1)=ys.take k++[ys[k]]):=by unfold Hid;exact qi hlt2
    have h3:Hid (xs=ys→xs[k]=ys[k]):=by unfold Hid;rintro rfl;rfl
    generalize xs[k]=x at *
    generalize ys[k]=y at *
    by_cases hxy:x=y
    ·
     subst hxy
     go_wp2_with fail
     go_quiet (fail)
     go_wp2
     go_roundw
     case rel=>exact⟨k+1,_,by omega,by go_num,by rw[h1.out,h2.out,HF.out],rfl⟩
     case measure=>simp[intOf];omega
    ·
     have hb:(x != y)=true:=by simpa using hxy
     go_wp2_with fail
     go_quiet (fail)
     go_wp2
     go_ret
     exact⟨yc (qw fun h=>hxy (h3.out h)).symm,_,(qcl ..).symm⟩
   ·
    obtain rfl:k=xs.length:=by omega
    go_wp2
    go_ret
    have e:xs=ys:=by
     have:=HF.out
     rw[yo,qp (by omega)] at this
     exact this
    exact⟨yc (qx e).symm,_,rfl⟩
 ·
  have hne:((xs.length:Int) != (ys.length:Int))=true:=by simp;omega
  have hx:Hid (xs≠ys):=by unfold Hid;rintro rfl;exact hlen rfl
  clear hlen
  go_enter Tryz.func130,Tryz.ntmps130
  go_wp2
  go_ret
  exact⟨yc (qw hx).symm,0,rfl⟩
theorem ints_inj':∀ {a b:List Nat},jf a=jf b→a=b
 | [],[],_=>rfl
 | [],_ :: _,h=>by cases h
 | _ :: _,[],h=>by cases h
 | x :: a,y :: b,h=>by
  have h1:((x:Nat):Int)=((y:Nat):Int):=(List.cons.inj h).1
  have h2:=ints_inj' (List.cons.inj h).2
  rw[h2,Int.ofNat.inj h1]
theorem eqi_v{w:World}{gs t:List Nat}{n m lo h' lo2 h2 c d:Nat}{A B:Option Addr}(hx:Rd w lo h' A c (iv (jf gs)))(hy:Rd w lo2 h2 B d (iv (jf t)))(hn:gs.length=n)(hm:t.length=m) :
  Calls Tryz.prog 130 #[.slice A n c,.slice B m d] w fun r w'=>r= .returned (.bool (decide (gs=t)))∧∃k,w.drewN k=w':=by
 have h:=eqi_any (jf gs) (jf t) hx hy
 rw[zq,zq,hn,hm,show decide (jf gs=jf t)=decide (gs=t) from decide_eq_decide.2 ⟨ints_inj',fun e=>by rw[e]⟩] at h
 exact h
theorem eqb_v{w:World}{xs ys:List Bool}{n m lo h' lo2 h2 c d:Nat}{A B:Option Addr}(hx:Rd w lo h' A c (lv xs))(hy:Rd w lo2 h2 B d (lv ys))(hn:xs.length=n)(hm:ys.length=m) :
  Calls Tryz.prog 131 #[.slice A n c,.slice B m d] w fun r w'=>r= .returned (.bool (decide (xs=ys)))∧∃k,w.drewN k=w':=by
 subst hn hm
 exact eqb_any xs ys hx hy
theorem isof_v{w:World}{hi b:Nat}{v:Value}{gs:List Nat}{rs:List Bool}(h:Flt w 0 hi v b gs rs)(hhi:hi≤w.heap.size)(hf:FilG b gs rs)(S:List ByteArray){A:Option Addr}{c:Nat}(hS:Rd w 0 w.heap.size A c (sv S))(hsz:∀s∈S,s.size≤4096)(hlen:S.length≤4096) :
  Calls Tryz.prog 89 #[v,.slice A S.length c] w fun r w'=>∃x:Bool,r= .returned (.bool x)∧(x=true↔qhw S b gs rs)∧Below w.heap.size w w':=by
 obtain⟨A1,c1,B1,d1,rfl,h1,h2⟩:=h
 obtain⟨w1,hw1⟩:∃w1,w.alloc (.cells #[.int .i64 (b:Int),.slice A1 gs.length c1,.slice B1 rs.length d1] 110)=w1:=⟨_,rfl⟩
 have BW:Hid (Below w.heap.size w w1):=by unfold Hid;rw[←hw1];exact(Below.refl _ w).alloc (qc _) _
 have hk:j8 w1 w.heap.size 110 #[.int .i64 (b:Int),.slice A1 gs.length c1,.slice B1 rs.length d1]:=by rw[←hw1];exact j8.new w _ _
 have hs1:w1.heap.size=w.heap.size+1:=by rw[←hw1];simp
 have H1:=qa (h1.below BW.out hhi)
 have H2:=qa (h2.below BW.out hhi)
 have HS:=qa ((hS.below BW.out (qc _)).wide (qc _) BW.out.size)
 have hb6:=hf.le
 obtain⟨gl,hgl⟩:∃n,gs.length=n:=⟨_,rfl⟩
 obtain⟨rl,hrl⟩:∃n,rs.length=n:=⟨_,rfl⟩
 have HGL:=qa hgl
 have HRL:=qa hrl
 have HF:=qa hf
 rw[hgl,hrl] at hk
 rw[hgl,hrl] at hw1 ⊢
 have q0:w1.cell? ⟨w.heap.size,0,none⟩=some (.int .i64 (b:Int)):=hk.cell 0
 have HK:=qa hk
 have hz5:∀s∈S,s.size≤100000:=fun s hs=>zc (hsz s hs) (by omega)
 by_cases hb0:b=0
 ·
  subst hb0
  have HM:=qa (gmake_list S HS.out hz5 (by omega))
  have HRN:Hid (rs=[]):=ze HF.out.rows
  clear h1 h2 hS hf hk hgl hrl hz5 hsz hlen
  rw[show((0:Nat):Int)=0 from rfl] at *
  go_enter Tryz.func89,Tryz.ntmps89
  go_wp2_with fail
  try rw[hw1]
  go_wp2_with fail
  refine HM.out.mono ?_
  rintro r w2 ⟨t,hri,hb2,⟨hle,A2,c2,rfl,hown⟩ | ⟨hgt,rfl⟩⟩
  ·
   have BW2:Hid (Below w.heap.size w w2):=BW.out.trans (hb2.mono BW.out.size)
   obtain⟨w3,hw3⟩:∃w3,w2.alloc (.cells #[.int .i64 0,.slice A2 t.length c2,.slice none 0 0] 110)=w3:=⟨_,rfl⟩
   have B3:Below w2.heap.size w2 w3:=by rw[←hw3];exact(Below.refl _ w2).alloc (qc _) _
   have BW3:Hid (Below w.heap.size w w3):=BW2.out.trans (B3.mono BW2.out.size)
   have hk1:=(HK.out.below hb2 (by omega)).below B3 (by have:=hb2.size;omega)
   have hk3:j8 w3 w2.heap.size 110 #[.int .i64 0,.slice A2 t.length c2,.slice none 0 0]:=by rw[←hw3];exact j8.new w2 _ _
   have HE1:=qa (eqi_v ((H1.out.below hb2 (by omega)).below B3 (by have:=hb2.size;omega)) ((Rd.of_own hown).below B3 (qc _)) HGL.out rfl)
   have HE2:Hid (∀k,Calls Tryz.prog 131 #[.slice B1 rl d1,.slice none 0 0] (w3.drewN k) fun r w'=>r= .returned (.bool true)∧∃m,(w3.drewN k).drewN m=w'):=fun k=>by
    have:=eqb_v (((H2.out.below hb2 (by omega)).below B3 (by have:=hb2.size;omega)).drewN k) (Rd.nil (w3.drewN k) 0 0) HRL.out (rfl:([]:List Bool).length=0)
    rw[HRN.out,qx rfl] at this
    exact this
   have p1:w3.cell? ⟨w.heap.size,1,none⟩=some (.slice A1 gl c1):=hk1.cell 1
   have p2:w3.cell? ⟨w.heap.size,2,none⟩=some (.slice B1 rl d1):=hk1.cell 2
   have r1:w3.cell? ⟨w2.heap.size,1,none⟩=some (.slice A2 t.length c2):=hk3.cell 1
   have r2:w3.cell? ⟨w2.heap.size,2,none⟩=some (.slice none 0 0):=hk3.cell 2
   have HRI:=qa hri
   obtain⟨x,hx⟩:∃x,decide (gs=t)=x:=⟨_,rfl⟩
   rw[hx] at HE1
   have HX:Hid (x=true↔qhw S 0 gs rs):=by
    unfold Hid
    rw[←hx,decide_eq_true_eq]
    constructor
    ·
     intro e
     exact⟨t,hri,by rw[if_pos rfl,e],by rw[if_pos rfl,HRN.out]⟩
    ·
     rintro⟨u,h3,h4,_⟩
     rw[if_pos rfl] at h4
     rw[h4]
     exact h3.one hri
   clear hx hri hown hb2 B3 hk1 hk3 HM
   subst hw3
   go_wp2_with fail
   go_wp2_with fail
   refine HE1.out.mono ?_
   rintro r w4 ⟨rfl,k4,rfl⟩
   cases x with
   | true =>
    have HE3:=qa (HE2.out k4)
    have s1:((w2.alloc (.cells #[.int .i64 0,.slice A2 t.length c2,.slice none 0 0] 110)).drewN k4).cell? ⟨w.heap.size,2,none⟩=some (.slice B1 rl d1):=p2
    have s2:((w2.alloc (.cells #[.int .i64 0,.slice A2 t.length c2,.slice none 0 0] 110)).drewN k4).cell? ⟨w2.heap.size,2,none⟩=some (.slice none 0 0):=r2
    go_wp2_with fail
    refine HE3.out.mono ?_
    rintro r w5 ⟨rfl,k5,rfl⟩
    go_wp2_with fail
    go_ret
    exact⟨true,rfl,by first | exact HX.out | simpa using HX.out,js BW3.out _⟩
   | false =>
    go_wp2_with fail
    go_ret
    exact⟨false,rfl,HX.out,js BW3.out _⟩
  ·
   have BW2:Hid (Below w.heap.size w w2):=BW.out.trans (hb2.mono BW.out.size)
   have HX:Hid (false=true↔qhw S 0 gs rs):=⟨fun h=>(by cases h),fun⟨u,h3,h4,_⟩=>by
    rw[if_pos rfl] at h4
    have h5:=HF.out.few
    have h6:=h3.one hri
    rw[h4,h6] at h5
    omega⟩
   have BW3:=qa (BW2.out.alloc BW2.out.size (.cells #[.int .i64 0,.slice none 0 0,.slice none 0 0] 110))
   clear hb2 hri HM
   go_wp2_with fail
   go_ret
   exact⟨false,rfl,HX.out,BW3.out⟩
 ·
  have HM:=qa (qkb S HS.out hz5 (by omega) b (by omega) hb6)
  have HGN:Hid (gs=[]):=HF.out.none (by omega)
  clear h1 h2 hS hf hk hgl hrl hz5 hsz hlen
  go_enter Tryz.func89,Tryz.ntmps89
  go_wp2_with fail
  try rw[hw1]
  go_wp2_with fail
  refine HM.out.mono ?_
  rintro r w2 ⟨t,A2,c2,rfl,hri,hown,hb2⟩
  have BW2:Hid (Below w.heap.size w w2):=BW.out.trans (hb2.mono BW.out.size)
  obtain⟨w3,hw3⟩:∃w3,w2.alloc (.cells #[.int .i64 (b:Int),.slice none 0 0,.slice A2 b c2] 110)=w3:=⟨_,rfl⟩
  have B3:Below w2.heap.size w2 w3:=by rw[←hw3];exact(Below.refl _ w2).alloc (qc _) _
  have BW3:Hid (Below w.heap.size w w3):=BW2.out.trans (B3.mono BW2.out.size)
  have hk1:=(HK.out.below hb2 (by omega)).below B3 (by have:=hb2.size;omega)
  have hk3:j8 w3 w2.heap.size 110 #[.int .i64 (b:Int),.slice none 0 0,.slice A2 b c2]:=by rw[←hw3];exact j8.new w2 _ _
  have HE1:Hid (Calls Tryz.prog 130 #[.slice A1 gl c1,.slice none 0 0] w3 fun r w'=>r= .returned (.bool true)∧∃m,w3.drewN m=w'):=by
   have:=eqi_v ((H1.out.below hb2 (by omega)).below B3 (by have:=hb2.size;omega)) (Rd.nil w3 0 0) HGL.out (rfl:([]:List Nat).length=0)
   rw[HGN.out,qx rfl] at this
   exact this
  have HE2:Hid (∀k,Calls Tryz.prog 131 #[.slice B1 rl d1,.slice A2 b c2] (w3.drewN k) fun r w'=>r= .returned (.bool (decide (rs=qfu b t)))∧∃m,(w3.drewN k).drewN m=w'):=fun k =>
   eqb_v (((H2.out.below hb2 (by omega)).below B3 (by have:=hb2.size;omega)).drewN k) (((Rd.of_own hown).below B3 (qc _)).drewN k) HRL.out (qdy b t)
  have p1:w3.cell? ⟨w.heap.size,1,none⟩=some (.slice A1 gl c1):=hk1.cell 1
  have p2:w3.cell? ⟨w.heap.size,2,none⟩=some (.slice B1 rl d1):=hk1.cell 2
  have r1:w3.cell? ⟨w2.heap.size,1,none⟩=some (.slice none 0 0):=hk3.cell 1
  have r2:w3.cell? ⟨w2.heap.size,2,none⟩=some (.slice A2 b c2):=hk3.cell 2
  obtain⟨x,hx⟩:∃x,decide (rs=qfu b t)=x:=⟨_,rfl⟩
  rw[hx] at HE2
  have HX:Hid (x=true↔qhw S b gs rs):=by
   unfold Hid
   rw[←hx,decide_eq_true_eq]
   constructor
   ·
    intro e
    exact⟨t,hri,by rw[if_neg hb0,HGN.out],by rw[if_neg hb0,e]⟩
   ·
    rintro⟨u,h3,_,h4⟩
    rw[if_neg hb0] at h4
    rw[h4,h3.one hri]
  clear hx hri hown hb2 B3 hk1 hk3 HM
  subst hw3
  go_wp2_with fail
  go_wp2_with fail
  refine HE1.out.mono ?_
  rintro r w4 ⟨rfl,k4,rfl⟩
  have HE3:=qa (HE2.out k4)
  have s1:((w2.alloc (.cells #[.int .i64 (b:Int),.slice none 0 0,.slice A2 b c2] 110)).drewN k4).cell? ⟨w.heap.size,2,none⟩=some (.slice B1 rl d1):=p2
  have s2:((w2.alloc (.cells #[.int .i64 (b:Int),.slice none 0 0,.slice A2 b c2] 110)).drewN k4).cell? ⟨w2.heap.size,2,none⟩=some (.slice A2 b c2):=r2
  go_wp2_with fail
  refine HE3.out.mono ?_
  rintro r w5 ⟨rfl,k5,rfl⟩
  go_wp2_with fail
  go_ret
  exact⟨x,rfl,HX.out,js BW3.out _⟩
end Go.Proofs.YtjfecojdagmacaaGreat
