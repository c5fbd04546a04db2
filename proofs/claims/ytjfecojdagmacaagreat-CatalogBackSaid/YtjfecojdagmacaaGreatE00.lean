/-
  Lemmas.
-/
import Derived.Test.YtjfecojdagmacaaGreatEA
import Derived.Below
import Derived.BigQuiet
import Derived.Deep.AppendLies
import Derived.Deep.Draws
import Derived.Deep.QuietTactic
import Derived.Deep.RegionHeld3
import Derived.Deep.RegionLaw
import Derived.KernelRfl
import Derived.Laws.BytesArg
import Derived.Laws.MakeOwn
import Derived.Laws.OwnMore
import Derived.Lib.AppendStr
import Derived.Lib.ConvBytes
import Derived.Lib.Hide
import Derived.Lib.Index
import Derived.Lib.IndexMore
import Derived.Lib.Strings
import Derived.OrdersHeld
import Derived.Outline
import Derived.ProofKit
import Derived.Test.YtjfecojdagmacaaGreatRows
import Derived.WalkKit
import Derived.WalkLawsBesides
import Derived.WalkSpells
namespace Go.Proofs.YtjfecojdagmacaaGreat
open Go.RowKit
set_option maxRecDepth 20000
set_option maxHeartbeats 16000000
set_option linter.unusedSimpArgs false
set_option linter.unusedVariables false
section
variable {P:Program}{ops:Array Oper}{Q:Exit→Act→World→Prop}{md:Region.Mode}{S:World→Prop}{fuel:Nat}{listed:Array Bool}{a:Act}{w:World}{oi:Oper}
theorem tk(i:Nat)(v:Value)(hi:ops[i]? = some oi)(hS:S w)(hy:∀w,S w→(execOp a.eval oi).run P w= .ok (.value v) w)(h:wpAnyH P md ops Q S fuel (listed.setIfInBounds i true) (a.put oi.dst v) w)
  (hw:Region.wanted oi (yielded ops a.tmps)=true:=by rfl) (hs:Region.noSelect ops=true:=by kernel_rfl) (hf:Region.free md ops listed i=true:=by kernel_rfl) (hr:(Region.ready md ops listed).contains i=true:=by kernel_rfl)
  (hQ:∀c a w,Q (.panic c) (a.put oi.dst v) w→Q (.panic c) a w:=by exact fun _ _ _ h=>h):wpAnyH P md ops Q S (fuel+1) listed a w :=
 wpAnyH_take hi hs hf hr hQ (Or.inl ⟨hw,hy⟩) hS h
theorem ts(i:Nat)(hi:ops[i]? = some oi)(hS:S w)(h:wpAnyH P md ops Q S fuel (listed.setIfInBounds i true) (a.put oi.dst undef) w)
  (hw:Region.wanted oi (yielded ops a.tmps)=false:=by rfl) (hs:Region.noSelect ops=true:=by kernel_rfl) (hf:Region.free md ops listed i=true:=by kernel_rfl) (hr:(Region.ready md ops listed).contains i=true:=by kernel_rfl)
  (hQ:∀c a w,Q (.panic c) (a.put oi.dst undef) w→Q (.panic c) a w:=by exact fun _ _ _ h=>h):wpAnyH P md ops Q S (fuel+1) listed a w :=
 wpAnyH_take hi hs hf hr hQ (Or.inr ⟨hw,rfl⟩) hS h
end
theorem jt:(∀ {α:Type} {l:List α} {i:Nat} (h:i<l.toArray.size),l.toArray[i]=l[i]'(by simpa using h))∧(∀ {α:Type} {x:α} {l:List α} (h:0<(x :: l).length),(x :: l)[0]=x)∧(∀ {α:Type} {x:α} {l:List α} {i:Nat} (h:i+1<(x :: l).length),(x :: l)[i+1]=l[i]'(Nat.lt_of_succ_lt_succ h))∧(∀ {α:Type} {l:List α} {i:Nat} {x:α},l.toArray.setIfInBounds i x=(l.set i x).toArray)∧(∀ {α:Type} {x y:α} {l:List α},(x :: l).set 0 y=y :: l)∧(∀ {α:Type} {x y:α} {l:List α} {i:Nat},(x :: l).set (i+1) y=x :: l.set i y):=⟨fun h=>List.getElem_toArray h,fun h=>xj _ _ h,fun h=>List.getElem_cons_succ _ _ _ h,List.setIfInBounds_toArray _ _ _,List.set_cons_zero,List.set_cons_succ⟩
structure Held (p:Prop):Prop where
 out:p
theorem qbj{p:Prop}(h:Held p):p:=h.out
theorem yc{a b:Bool}(h:a=b):Ending.returned (.bool a)= .returned (.bool b):=by rw[h]
theorem qar{k:IntKind}{a b:Int}(h:a=b):Ending.returned (.int k a)= .returned (.int k b):=by rw[h]
def bv(l:List UInt8):List Value:=l.map fun c=> .int .u8 (c.toNat:Int)
theorem jj(l:List UInt8):(bv l).length=l.length:=by simp[bv]
theorem qg5(a b:List UInt8):bv (a++b)=bv a++bv b:=by simp[bv]
theorem qk7(l:List UInt8)(k:Nat):bv (l.drop k)=(bv l).drop k:=by simp[bv,List.map_drop]
theorem bv_take(l:List UInt8)(k:Nat):bv (l.take k)=(bv l).take k:=by simp[bv,List.map_take]
theorem qgt(l:List UInt8)(k:Nat)(h:k<l.length):(bv l)[k]? = some (.int .u8 (l[k].toNat:Int)):=by
 simp[bv,qe h]
theorem bv_one(l:List UInt8):∀u∈bv l,u.oneCell'=true:=by
 intro u hu
 obtain⟨c,_,rfl⟩:=za.1 hu
 rfl
structure Rd (w:World) (lo hi:Nat) (A:Option Addr) (c:Nat) (xs:List Value):Prop where
 len:xs.length≤c
 cap:c≤maxLen
 at_:0<xs.length→∃b off,A=some ⟨b,off,none⟩∧lo≤b∧b<hi∧∀j u,xs[j]? = some u→w.cell? ⟨b,off+j,none⟩=some u
section
variable {w w':World}{lo hi lo' hi' c:Nat}{A:Option Addr}{xs:List Value}
theorem Rd.nil(w:World)(lo hi:Nat):Rd w lo hi none 0 []:=⟨by simp,by simp[maxLen],fun h=>by simp at h⟩
theorem Rd.empty(w:World)(lo hi:Nat)(A:Option Addr)(c:Nat)(hc:c≤maxLen):Rd w lo hi A c []:=⟨by simp,hc,fun h=>by simp at h⟩
theorem Rd.keep(h:Rd w lo hi A c xs)(hk:∀p:Addr,lo≤p.block→p.block<hi→w'.cell? p=w.cell? p):Rd w' lo hi A c xs :=
 ⟨h.len,h.cap,fun hn=>by
  obtain⟨b,off,e,h1,h2,h3⟩:=h.at_ hn
  exact⟨b,off,e,h1,h2,fun j u hu=>(hk ⟨b,off+j,none⟩ h1 h2).trans (h3 j u hu)⟩⟩
theorem Rd.wide(h:Rd w lo hi A c xs)(h1:lo'≤lo)(h2:hi≤hi'):Rd w lo' hi' A c xs :=
 ⟨h.len,h.cap,fun hn=>by
  obtain⟨b,off,e,g1,g2,h3⟩:=h.at_ hn
  exact⟨b,off,e,by omega,by omega,h3⟩⟩
theorem Rd.below{B:Nat}(h:Rd w lo hi A c xs)(hb:Below B w w')(hB:hi≤B):Rd w' lo hi A c xs:=h.keep fun _ _ hp=>hb.cell (by omega)
theorem Rd.grown{row:Option Nat}(h:Rd w lo hi A c xs)(hg:w.grownBy w' row)(hB:hi≤w.heap.size)(hr:∀g,row=some g→g<lo∨hi≤g):Rd w' lo hi A c xs :=
 h.keep fun p h1 h2=>qa4 (hg.block p.block (by omega) (fun e=>by have:=hr _ e.symm;omega))
theorem Rd.drew(h:Rd w lo hi A c xs):Rd w.drew lo hi A c xs:=h.keep fun _ _ _=>rfl
theorem Rd.drewN(h:Rd w lo hi A c xs)(k:Nat):Rd (w.drewN k) lo hi A c xs:=h.keep fun _ _ _=>rfl
theorem Rd.alloc(h:Rd w lo hi A c xs)(hB:hi≤w.heap.size)(o:Obj):Rd (w.alloc o) lo hi A c xs:=h.keep fun p _ hp=>World.cell?_alloc_lt w o p (by omega)
theorem Rd.setCell(h:Rd w lo hi A c xs){p:Addr}(hB:p.block<lo∨hi≤p.block)(u:Value):Rd (w.setCell p u) lo hi A c xs :=
 h.keep fun q h1 h2=>World.cell?_setCell_other w p q u (fun e=>by subst e;omega)
theorem Rd.get(h:Rd w lo hi A c xs){k:Nat}(hk:k<xs.length):∃b off,A=some ⟨b,off,none⟩∧lo≤b∧b<hi∧w.cell? ⟨b,off+k,none⟩=some xs[k]:=by
 obtain⟨b,off,e,h1,h2,h3⟩:=h.at_ (by omega)
 exact⟨b,off,e,h1,h2,h3 k _ (qe hk)⟩
theorem Rd.cut(h:Rd w lo hi A c xs){k n:Nat}(hk:k≤n)(hn:n≤xs.length) :
  Rd w lo hi (if c=k then A else A.map (·.add k)) (c-k) ((xs.drop k).take (n-k)):=by
 have hl:=h.len
 refine⟨by simp;omega,by have:=h.cap;omega,fun hp => ?_⟩
 have hp':k<n:=by simp at hp;omega
 obtain⟨b,off,rfl,h1,h2,h3⟩:=h.at_ (by omega)
 rw[if_neg (by omega)]
 refine⟨b,off+k,by unfold Addr.add;by_cases h0:k=0 <;> simp[h0],h1,h2,fun j u hu => ?_⟩
 rw[qaz]
 refine h3 _ u ?_
 rw[uo] at hu
 split at hu
 ·
  rw[←hu,List.getElem?_drop]
 ·
  cases hu
theorem Rd.take_(h:Rd w lo hi A c xs)(k:Nat):Rd w lo hi A c (xs.take k) :=
 ⟨by have:=h.len;rw[qy];omega,h.cap,fun hn=>by
  obtain⟨b,off,e,h1,h2,h3⟩:=h.at_ (by rw[qy] at hn;omega)
  refine⟨b,off,e,h1,h2,fun j u hu=>h3 j u ?_⟩
  rw[uo] at hu
  split at hu
  ·
   exact hu
  ·
   cases hu⟩
theorem Rd.of_own{base n:Nat}{e:TypeId}(h:w.ownsRow base e 1 (.slice A n c) n xs):Rd w base w.heap.size A c xs:=by
 rcases h.2 with ⟨hv,hn⟩ | ⟨g,cap,cur,hv,hb,hg,hnc,hcm,hcs,htake⟩
 ·
  injection hv with h1 h2 h3
  subst h1 h2 h3
  have:xs=[]:=ze (by simpa using h.1)
  subst this
  exact Rd.nil _ _ _
 ·
  injection hv with h1 h2 h3
  subst h1 h3
  refine⟨by have:=h.1;omega,hcm,fun _=>⟨g,0,rfl,hb,(xc.1 hg).1,fun j u hu => ?_⟩⟩
  have:=h.cells (g:=g) (by simp[Value.ownBlock]) j u hu
  rw[yk]
  have e:(⟨g,0,none⟩:Addr).add j=⟨g,j,none⟩:=by unfold Addr.add;by_cases h0:j=0 <;> simp[h0]
  rwa [e] at this
end
def j8(w:World)(g:Nat)(t:TypeId)(cs:Array Value):Prop:=w.heap[g]? = some (.cells cs t (0,0))
section
variable {w w':World}{g:Nat}{t:TypeId}{cs:Array Value}
theorem j8.lt(h:j8 w g t cs):g<w.heap.size:=by
 rcases Nat.lt_or_ge g w.heap.size with hlt | hge
 ·
  exact hlt
 ·
  unfold j8 at h;rw[Array.getElem?_eq_none hge] at h;cases h
theorem j8.cell(h:j8 w g t cs)(i:Nat):w.cell? ⟨g,i,none⟩=cs[i]?:=cell_of_row w g i cs t (0,0) h
theorem j8.frozen(h:j8 w g t cs)(i:Nat):w.frozen? ⟨g,i,none⟩=false:=by
 unfold j8 at h
 simp[World.frozen?,h]
theorem j8.new(w:World)(t:TypeId)(cs:Array Value):j8 (w.alloc (.cells cs t)) w.heap.size t cs:=heap_alloc_new w _
theorem j8.drew(h:j8 w g t cs):j8 w.drew g t cs:=h
theorem j8.drewN(h:j8 w g t cs)(n:Nat):j8 (w.drewN n) g t cs:=h
theorem j8.alloc(h:j8 w g t cs)(o:Obj):j8 (w.alloc o) g t cs:=(Below.heap_alloc w o g h.lt).trans h
theorem j8.put(h:j8 w g t cs)(i:Nat)(u:Value):j8 (w.setCell ⟨g,i,none⟩ u) g t (cs.setIfInBounds i u):=by
 unfold j8 at h ⊢
 simp[World.setCell,Array.getElem?_modify,h]
theorem j8.far(h:j8 w g t cs){p:Addr}(hp:g≠p.block)(u:Value):j8 (w.setCell p u) g t cs:=(Below.heap_setCell w p u g hp).trans h
theorem j8.below{B:Nat}(h:j8 w g t cs)(hb:Below B w w')(hg:g<B):j8 w' g t cs:=(hb.block g hg).trans h
theorem j8.grown{row:Option Nat}(h:j8 w g t cs)(hb:w.grownBy w' row)(hg:some g≠row):j8 w' g t cs:=(hb.block g h.lt hg).trans h
end
section
variable {a w w':World}{row:Option Nat}
theorem qak(h:a.grownBy w row)(n:Nat):a.grownBy (w.drewN n) row:=⟨h.os,h.tape,h.output,h.size,h.block⟩
theorem gb_drew(h:a.grownBy w row):a.grownBy w.drew row:=⟨h.os,h.tape,h.output,h.size,h.block⟩
theorem va(h:a.grownBy w row)(o:Obj):a.grownBy (w.alloc o) row :=
 ⟨h.os,h.tape,h.output,zc h.size (by simp),fun i hi hne=>(Below.heap_alloc w o i (zh hi h.size)).trans (h.block i hi hne)⟩
theorem yr{g:Nat}(h:a.grownBy w (some g)){p:Addr}(hp:p.block=g∨a.heap.size≤p.block)(u:Value):a.grownBy (w.setCell p u) (some g) :=
 ⟨h.os,h.tape,h.output,by simpa[World.setCell] using h.size,fun i hi hne=>(Below.heap_setCell w p u i (by
  rintro rfl
  rcases hp with hp | hp
  ·
   exact hne (by rw[hp])
  ·
   omega)).trans (h.block i hi hne)⟩
theorem qin(h:Below a.heap.size a w):a.grownBy w row:=⟨h.os,h.tape,h.output,h.size,fun i hi _=>h.block i hi⟩
theorem yx(w:World)(row:Option Nat):w.grownBy w row:=⟨rfl,rfl,rfl,qc _,fun _ _ _=>rfl⟩
theorem qaq{B:Nat}(hB:B≤w.heap.size)(hg:w.grownBy w' row)(hr:∀g,row=some g→B≤g):Below B w w' :=
 (Below.refl B w).grown hg hB hr
theorem qev(h:a.grownBy w none):a.grownBy w row:=⟨h.os,h.tape,h.output,h.size,fun i hi _=>h.block i hi (by simp)⟩
theorem qgu{B:Nat}(hB:a.heap.size≤B)(h:Below B a w):a.grownBy w none:=⟨h.os,h.tape,h.output,h.size,fun i hi _=>h.block i (by omega)⟩
end
section
variable {P:Program}(w:World)
theorem qbp{base n:Nat}{e:TypeId}{size:Nat}{v:Value}{xs:List Value}(h:w.ownsRow base e size v n xs):∃A c,v= .slice A n c∧n≤c∧c≤maxLen:=by
 rcases h.2 with ⟨rfl,rfl⟩ | ⟨g,cap,cur,rfl,_,_,h1,h2,_⟩
 ·
  exact⟨_,_,rfl,qc _,by simp[maxLen]⟩
 ·
  exact⟨_,_,rfl,h1,h2⟩
theorem ky(base:Nat)(t ty e:TypeId)(i:TypeInfo)(z:Value)(bytes:Nat)(ht:P.underlying t=some (.slice e))(hi:P.info? e=some i)(hz:i.zero=some z)
  (hsize:i.size=1) (hby:i.bytes=bytes) (hzs:z.cells.size=1)
  (v:Value) (n:Nat) (xs:List Value) (hown:w.ownsRow base e 1 v n xs)
  (lo h':Nat) (A:Option Addr) (c:Nat) (news:List Value) (hr:Rd w lo h' A c news) (h1:∀u∈news,u.oneCell'=true)
  (h63:n+news.length≤maxLen) (hbytes:(n+news.length)*bytes≤140737488355328) (hbase:base≤w.heap.size) :
  ∃A' c' w',(Builtin.append_ #[t,t] ty #[v,.slice A news.length c]).run P w= .ok (.slice A' (n+news.length) c') w'∧
   w'.ownsRow base e 1 (.slice A' (n+news.length) c') (n+news.length) (xs++news)∧w.grownBy w' v.ownBlock∧
   ((Value.slice A' (n+news.length) c').ownBlock=v.ownBlock∨(Value.slice A' (n+news.length) c').ownBlock=some w.heap.size):=by
 rcases A with _ | ad
 ·
  have hm:news=[]:=by
   rcases jh news.length with h0 | h0
   ·
    exact ze h0
   ·
    obtain⟨_,_,h,_⟩:=hr.at_ h0
    cases h
  subst hm
  obtain⟨A',c',rfl,_⟩:=qbp w hown
  refine⟨A',c',w,?_,by simpa using hown,yx _ _,.inl rfl⟩
  rcases hown.2 with ⟨hv,rfl⟩ | ⟨g,cap,cur,hv,_,_,hnc,_⟩
  ·
   simp[hv,Builtin.append_,run_underlying ht,sizeOf,typeInfo,hi,Builtin.lenOf,Builtin.firstCells]
  ·
   injection hv with h1 h2 h3
   subst h1 h3
   simp[Builtin.append_,run_underlying ht,sizeOf,typeInfo,hi,Builtin.lenOf,Builtin.firstCells,hnc,storeCells]
 ·
  have hcells:∀j u,news[j]? = some u→w.cell? (ad.add j)=some u:=by
   intro j u hu
   have hp:0<news.length:=by
    rcases jh news.length with h0 | h0
    ·
     have hn:=ze h0
     subst hn
     simp at hu
    ·
     exact h0
   obtain⟨b,off,h,_,_,hc⟩:=hr.at_ hp
   injection h with h
   subst h
   have e:(⟨b,off,none⟩:Addr).add j=⟨b,off+j,none⟩:=by unfold Addr.add;by_cases h0:j=0 <;> simp[h0]
   rw[e]
   exact hc j u hu
  obtain⟨v',w',hrun,h2,h3,_,h5⟩:=run_append_own_at (P:=P) w base t ty e i z 1 bytes ht hi hz hsize hby hzs (by omega) v n xs hown ad news.length c news (by simp) hcells h1 h63 hbytes hbase
  obtain⟨A',c',rfl,_⟩:=qbp w' h2
  exact⟨A',c',w',hrun,h2,h3,h5⟩
theorem wpList_append_run{ops:Array Oper}{rest:List Oper}{o:Oper}{a:Act}{Q:Exit→Act→World→Prop}{w w':World}{v1 v2 v':Value}(hgd:o.guard=none)(s x:Operand)(t t':TypeId)
  (ho:o.op= .call { callee:= .builtin .append,args:=#[s,x],argTypes:=#[t,t'] }) (hs:a.eval s=v1) (hx:a.eval x=v2)
  (hr:(Builtin.append_ #[t,t'] o.type #[v1,v2]).run P w= .ok v' w') (h:wpList P ops Q rest (a.put o.dst v') w'):wpList P ops Q (o :: rest) a w:=by
 refine wpList_plain hgd fun K hK => ?_
 unfold Oper.wp execOp
 simp only[ho,resolve,invoke,builtin,Sem.run_bind,Sem.run_pure,Result.andThen_ok,List.map_toArray,y8,qbu,hs,hx,hr]
 exact hK _ _ h
theorem nums_bytes(bs:List UInt8):(bs.map fun c=>(c.toNat:Int)).map (fun n=>UInt8.ofNat n.toNat)=bs:=by
 rw[uk]
 conv=>rhs;rw[←List.map_id bs]
 apply qal
 intro c _
 simp
theorem vk(src dst e:TypeId)(hs:P.underlying src=some (.slice e))(he:P.underlying e=some (.int .u8))(hd:P.underlying dst=some .string)
  (lo hi:Nat) (A:Option Addr) (c:Nat) (bs:List UInt8) (hr:Rd w lo hi A c (bv bs)) :
  (convert src dst (.slice A bs.length c)).run P w= .ok (.string ⟨bs.toArray⟩) w:=by
 rcases A with _ | ad
 ·
  have hm:bs=[]:=by
   rcases jh (bv bs).length with h0 | h0
   ·
    exact ze (by simpa[bv] using h0)
   ·
    obtain⟨_,_,h,_⟩:=hr.at_ h0
    cases h
  subst hm
  rw[run_convert_bytes_string w src dst e _ _ c hs he hd]
  rfl
 ·
  rcases bs with _ | ⟨x,r⟩
  ·
   rw[run_convert_bytes_string w src dst e _ _ c hs he hd]
   have:=run_bytesToString (P:=P) w ad 0 c [] (by simp[loadCells,loadCellsFrom,Sem.run_pure])
   exact this
  ·
   obtain⟨b,off,h,_,_,hc⟩:=hr.at_ (by simp[bv])
   injection h with h
   subst h
   have:=run_convert_bytes_arg (P:=P) w src e hs he b off (x :: r).length c ((x :: r).map fun c=>(c.toNat:Int)) (by simp) (fun i hi=>by
    refine hc i _ ?_
    rw[qgt _ _ hi]
    have e:((x :: r).map fun c:UInt8=>(c.toNat:Int))[i]? = some ((x :: r)[i].toNat:Int):=by rw[qah,qe hi];rfl
    unfold List.getD
    rw[e]
    rfl) dst hd
   rw[this]
   unfold strOfNums
   rw[nums_bytes]
end
section
variable {P:Program}{f:FuncId}{args:Array Value}{w:World}{v:Value}
theorem qjy{n:Nat}(h:Calls P f args (w.drewN n) fun e w'=>e= .returned v∧w.drewN n=w'):Calls P f args (w.drewN n) fun e w''=>e= .returned v∧∃m,w''=w.drewN m :=
 h.mono fun _ _ ⟨he,hm⟩=>⟨he,n,hm.symm⟩
end
section
variable (w:World)(e:TypeId)(s:ByteArray)
theorem ql3{B:Nat}(hB:B≤w.heap.size):Below B w (Lib.bytesWorld w e s) :=
 ⟨rfl,rfl,rfl,by rw[Lib.bytesWorld_size];omega,fun k hk=>Lib.bytesWorld_at_old w e s k (by omega)⟩
theorem bytesWorld_rd(h:grownCap w s.size 0 e≤maxLen):Rd (Lib.bytesWorld w e s) w.heap.size (w.heap.size+1) (some ⟨w.heap.size,0,none⟩) (grownCap w s.size 0 e) (bv s.data.toList):=by
 have hg:=grownCap_ge w s.size 0 e
 refine⟨by rw[jj];exact hg,h,fun _=>⟨w.heap.size,0,rfl,qc _,by omega,fun j u hu => ?_⟩⟩
 have hj:j<s.size:=by
  rcases Nat.lt_or_ge j s.size with h1 | h1
  ·
   exact h1
  ·
   rw[jp (by rw[jj];exact h1)] at hu;cases hu
 rw[yk,Lib.bytesWorld_cell w e s j hj]
 have hjl:j<s.data.toList.length:=hj
 rw[qgt _ _ hjl] at hu
 injection hu with hu
 rw[←hu,List.getD,qe hjl,Option.getD_some]
end
theorem Rd.own{w:World}{base n c:Nat}{A:Option Addr}{e:TypeId}{xs:List Value}(h:w.ownsRow base e 1 (.slice A n c) n xs):Rd w base w.heap.size A c xs:=Rd.of_own h
theorem j9{w:World}{base base' n:Nat}{e:TypeId}{size:Nat}{v:Value}{xs:List Value}(h:w.ownsRow base e size v n xs)(hb:base'≤base):w.ownsRow base' e size v n xs:=by
 obtain⟨hl,hr⟩:=h
 refine⟨hl,?_⟩
 rcases hr with h0 | ⟨g,cap,cur,hv,hg,hrest⟩
 ·
  exact .inl h0
 ·
  exact .inr ⟨g,cap,cur,hv,by omega,hrest⟩
theorem ji{w w':World}{base n B:Nat}{e:TypeId}{size:Nat}{v:Value}{xs:List Value}(h:w.ownsRow base e size v n xs)(hb:Below B w w')(hB:w.heap.size≤B):w'.ownsRow base e size v n xs :=
 h.kept (qgu hB hb) (by cases hv:v.ownBlock <;> simp)
theorem below_some{B g:Nat}{a w w':World}(h:Below B a w)(hg:w.grownBy w' (some g))(hB:B≤w.heap.size)(hl:B≤g):Below B a w' :=
 h.grown hg hB (fun k hk=>by injection hk with hk;omega)
theorem js{B:Nat}{a w:World}(h:Below B a w)(n:Nat):Below B a (w.drewN n):=⟨h.os,h.tape,h.output,h.size,h.block⟩
theorem zz{B B':Nat}{a w w':World}(h:Below B a w)(h':Below B' w w')(hB:B≤B'):Below B a w':=h.trans (h'.mono hB)
theorem qe8{w:World}{base n c:Nat}{A:Option Addr}{e:TypeId}{xs:List Value}(h:w.ownsRow base e 1 (.slice A n c) n xs)(hn:0<n):∃g,A=some ⟨g,0,none⟩∧base≤g∧g<w.heap.size:=by
 rcases h.2 with ⟨h1,h2⟩ | ⟨g,cap,cur,hv,hb,hg,_⟩
 ·
  omega
 ·
  injection hv with hv
  exact⟨g,hv,hb,(xc.1 hg).1⟩
theorem qhe{w:World}{base n:Nat}{e:TypeId}{size:Nat}{v:Value}{xs:List Value}(h:w.ownsRow base e size v n xs):∀k,v.ownBlock=some k→base≤k:=fun k hk=>(h.lt k hk).1
theorem str_eta(s:ByteArray):(⟨s.data.toList.toArray⟩:ByteArray)=s:=by cases s;simp
def iv(l:List Int):List Value:=l.map fun z=> .int .i64 z
theorem yd(l:List Int):(iv l).length=l.length:=by simp[iv]
theorem iv_append(a b:List Int):iv (a++b)=iv a++iv b:=by simp[iv]
theorem iv_get(l:List Int)(k:Nat)(h:k<l.length):(iv l)[k]? = some (.int .i64 l[k]):=by
 simp[iv,qe h]
theorem iv_one(l:List Int):∀u∈iv l,u.oneCell'=true:=by
 intro u hu
 obtain⟨c,_,rfl⟩:=za.1 hu
 rfl
theorem Rd.num{w:World}{lo hi c:Nat}{A:Option Addr}{zs:List Int}(h:Rd w lo hi A c (iv zs)){k:Nat}(hk:k<zs.length) :
  ∃b off,A=some ⟨b,off,none⟩∧lo≤b∧b<hi∧w.cell? ⟨b,off+k,none⟩=some (.int .i64 zs[k]):=by
 obtain⟨b,off,e,h1,h2,h3⟩:=h.at_ (by rw[yd];omega)
 exact⟨b,off,e,h1,h2,h3 k _ (iv_get zs k hk)⟩
def qjg(zs:List Int):Prop:=∀z∈zs, -9223372036854775808≤z∧z≤9223372036854775807
theorem qjg.take{zs:List Int}(h:qjg zs)(k:Nat):qjg (zs.take k):=fun z hz=>h z (vg hz)
def jf(ns:List Nat):List Int:=ns.map fun n:Nat=>(n:Int)
theorem zq(ns:List Nat):(jf ns).length=ns.length:=by simp[jf]
theorem rd_ints(w:World)(t:TypeId)(zs:List Int)(cs:Array Value)(h:cs.toList=iv zs)(hm:zs.length≤1000) :
  Rd (w.alloc (.cells cs t)) 0 (w.heap.size+1) (some ⟨w.heap.size,0,none⟩) zs.length (iv zs):=by
 refine⟨by rw[yd];exact qc _,by simp only[maxLen];omega,fun _=>⟨w.heap.size,0,rfl,qj _,by omega,fun j u hu => ?_⟩⟩
 rw[yk,(j8.new w t cs).cell]
 rw[←h] at hu
 simpa using hu
def qjm(a b c:UInt8):Nat:=65536*a.toNat+256*b.toNat+c.toNat
theorem gramN_lt(a b c:UInt8):qjm a b c<16777216:=by
 have h1:=je a
 have h2:=je b
 have h3:=je c
 unfold qjm
 omega
def qcy(s:List UInt8):List Nat:=(List.range (s.length-2)).map fun k=>qjm (s.getD k 0) (s.getD (k+1) 0) (s.getD (k+2) 0)
theorem qbi(s:List UInt8):(qcy s).length=s.length-2:=by simp[qcy]
theorem qka(s:List UInt8)(k:Nat)(h:k<s.length-2):(qcy s)[k]'(by rw[qbi];exact h)=qjm (s[k]'(by omega)) (s[k+1]'(by omega)) (s[k+2]'(by omega)):=by
 simp[qcy,List.getD,qe (show k<s.length by omega),qe (show k+1<s.length by omega),qe (show k+2<s.length by omega)]
theorem mem_gramsL{s:List UInt8}{g:Nat}:g∈qcy s↔∃k,∃(h:k+2<s.length),g=qjm s[k] s[k+1] s[k+2]:=by
 constructor
 ·
  intro h
  obtain⟨k,hk,rfl⟩:=zl h
  rw[qbi] at hk
  exact⟨k,by omega,qka s k hk⟩
 ·
  rintro⟨k,h,rfl⟩
  rw[←qka s k (by omega)]
  exact ql _
theorem gramsL_lt{s:List UInt8}{g:Nat}(h:g∈qcy s):g<16777216:=by
 obtain⟨k,hk,rfl⟩:=mem_gramsL.1 h
 exact gramN_lt _ _ _
def qcc(l:List (List UInt8)):List Nat:=l.flatMap qcy
structure Rise (L t:List Nat):Prop where
 up:t.Pairwise (· < ·)
 mem:∀x,x∈t↔x∈L
theorem Rise.nil:Rise [] []:=⟨List.Pairwise.nil,fun _=>Iff.rfl⟩
theorem up_one:∀ {t u:List Nat},t.Pairwise (· < ·)→u.Pairwise (· < ·)→(∀x,x∈t↔x∈u)→t=u
 | [],[],_,_,_=>rfl
 | [],b :: u,_,_,h=>absurd ((h b).2 zr) vd
 | a :: t,[],_,_,h=>absurd ((h a).1 zr) vd
 | a :: t,b :: u,h1,h2,h=>by
  have ha:=List.pairwise_cons.1 h1
  have hb:=List.pairwise_cons.1 h2
  have hab:a=b:=by
   rcases zv.1 ((h a).1 zr) with e | e
   ·
    exact e
   ·
    rcases zv.1 ((h b).2 zr) with e2 | e2
    ·
     exact e2.symm
    ·
     have:=ha.1 b e2
     have:=hb.1 a e
     omega
  subst hab
  rw[up_one ha.2 hb.2 fun x=>⟨fun hx => ?_,fun hx => ?_⟩]
  ·
   rcases zv.1 ((h x).1 (jb _ hx)) with e | e
   ·
    have:=ha.1 x hx;omega
   ·
    exact e
  ·
   rcases zv.1 ((h x).2 (jb _ hx)) with e | e
   ·
    have:=hb.1 x hx;omega
   ·
    exact e
theorem Rise.one{L t u:List Nat}(h:Rise L t)(k:Rise L u):t=u:=up_one h.up k.up fun x=>(h.mem x).trans (k.mem x).symm
theorem Rise.same{L M t:List Nat}(h:Rise L t)(hm:∀x,x∈L↔x∈M):Rise M t:=⟨h.up,fun x=>(h.mem x).trans (hm x)⟩
theorem Rise.there{L t:List Nat}{g:Nat}(h:Rise L t)(hg:g∈t):Rise (L++[g]) t:=⟨h.up,fun x=>by
 rw[zn,q8]
 exact⟨fun hx=> .inl ((h.mem x).1 hx),fun hx=>hx.elim (h.mem x).2 fun e=>e ▸ hg⟩⟩
theorem Rise.put{L t:List Nat}{g k:Nat}(h:Rise L t)(h1:∀j (hj:j<t.length),j<k→t[j]<g)(h2:∀hk:k<t.length,g<t[k]):Rise (L++[g]) (t.take k++g :: t.drop k):=by
 have hup:=h.up
 rw[←zw k t] at hup
 obtain⟨p1,p2,p3⟩:=List.pairwise_append.1 hup
 have hl:∀x∈t.take k,x<g:=fun x hx=>by
  obtain⟨j,hj,rfl⟩:=zl hx
  rw[qy] at hj
  rw[qag]
  exact h1 j (by omega) (by omega)
 have hr:∀x∈t.drop k,g<x:=fun x hx=>by
  obtain⟨j,hj,rfl⟩:=zl hx
  rw[qv] at hj
  rw[List.getElem_drop]
  have hk:k<t.length:=by omega
  have h3:=h2 hk
  rcases jh j with e | e
  ·
   subst e;exact h3
  ·
   have:=kz.1 h.up k (k+j) hk (by omega) (by omega)
   omega
 refine⟨List.pairwise_append.2 ⟨p1,List.pairwise_cons.2 ⟨hr,p2⟩,fun a ha b hb => ?_⟩,fun x => ?_⟩
 ·
  rcases zv.1 hb with rfl | hb
  ·
   exact hl a ha
  ·
   exact p3 a ha b hb
 ·
  rw[zn,zv,zn,q8,←h.mem x]
  conv=>rhs;rw[←zw k t,zn]
  constructor
  ·
   rintro(h | h | h)
   ·
    exact .inl (.inl h)
   ·
    exact .inr h
   ·
    exact .inl (.inr h)
  ·
   rintro((h | h) | h)
   ·
    exact .inl h
   ·
    exact .inr (.inr h)
   ·
    exact .inr (.inl h)
theorem Rise.len{L t:List Nat}(h:Rise L t):t.length≤L.length:=by
 have hn:t.Nodup:=h.up.imp fun {a b} hab=>by omega
 exact List.Nodup.length_le_of_subset hn fun x hx=>(h.mem x).1 hx
def bitG(g bits:Nat):Nat:=g*40503%65521%bits
theorem Tryz.infoI64:(Tryz.prog.info? 3).map (fun i=>(i.zero,i.size,i.bytes))=some (some (.int .i64 0),1,8):=by kernel_rfl
theorem qg0(w:World)(n:Nat)(h:n≤4294967295):∃w1,(Instr.makeSlice 58 (.int .i64 (n:Int)) (.int .i64 (n:Int))).run Tryz.prog w= .ok (.slice (some ⟨w.heap.size,0,none⟩) n n) w1∧
  w1.ownsRow w.heap.size 3 1 (.slice (some ⟨w.heap.size,0,none⟩) n n) n (List.replicate n (.int .i64 0))∧w.grownBy w1 none:=by
 obtain⟨i0,hi0,hz0,hz1,hz2⟩:=info_parts Tryz.infoI64
 have:=run_make_full (P:=Tryz.prog) w w.heap.size 58 3 i0 _ 1 Tryz.underlying58 hi0 hz0 hz1 .i64 .i64 n (by rw[hz2];omega) (by simp only[maxLen];omega) (qc _)
 rw[xl,show(Value.int .i64 0).cells=#[.int .i64 0] from rfl,toList_madeCells_one] at this
 exact this
structure Out (w w':World) (X:Nat→Prop):Prop where
 os:w'.os=w.os
 tape:w'.tape=w.tape
 output:w'.output=w.output
 size:w.heap.size≤w'.heap.size
 block:∀k,k<w.heap.size→¬X k→w'.heap[k]? = w.heap[k]?
section
variable {w w' w2:World}{X Y:Nat→Prop}{B:Nat}
theorem Out.refl(w:World)(X:Nat→Prop):Out w w X:=⟨rfl,rfl,rfl,qc _,fun _ _ _=>rfl⟩
theorem Out.trans(h:Out w w' X)(k:Out w' w2 Y)(hY:∀i,i<w.heap.size→Y i→X i):Out w w2 X :=
 ⟨k.os.trans h.os,k.tape.trans h.tape,k.output.trans h.output,zc h.size k.size,fun i hi hx=>(k.block i (zh hi h.size) (fun hy=>hx (hY i hi hy))).trans (h.block i hi hx)⟩
theorem Out.of_gb{row:Option Nat}(h:w.grownBy w' row)(hr:∀k,row=some k→X k):Out w w' X :=
 ⟨h.os,h.tape,h.output,h.size,fun i hi hx=>h.block i hi (fun e=>hx (hr i e.symm))⟩
theorem Out.of_below(h:Below w.heap.size w w'):Out w w' X:=⟨h.os,h.tape,h.output,h.size,fun i hi _=>h.block i hi⟩
theorem Out.below(h:Out w w' X)(hB:B≤w.heap.size)(hX:∀k,X k→B≤k):Below B w w' :=
 ⟨h.os,h.tape,h.output,h.size,fun i hi=>h.block i (by omega) (fun hx=>by have:=hX i hx;omega)⟩
theorem Out.drewN(h:Out w w' X)(n:Nat):Out w (w'.drewN n) X:=⟨h.os,h.tape,h.output,h.size,h.block⟩
theorem Out.drew(h:Out w w' X):Out w w'.drew X:=⟨h.os,h.tape,h.output,h.size,h.block⟩
theorem Out.alloc(h:Out w w' X)(o:Obj):Out w (w'.alloc o) X:=h.trans (Y:=fun _=>False) (Out.of_below ((Below.refl _ _).alloc (qc _) o)) (fun _ _ h=>h.elim)
theorem Out.setCell(h:Out w w' X){p:Addr}(hp:X p.block∨w.heap.size≤p.block)(u:Value):Out w (w'.setCell p u) X :=
 ⟨h.os,h.tape,h.output,by simpa[World.setCell] using h.size,fun i hi hx=>(Below.heap_setCell w' p u i (by
  rintro rfl
  rcases hp with hp | hp
  ·
   exact hx hp
  ·
   omega)).trans (h.block i hi hx)⟩
theorem Out.setRow(h:Out w w' X){g:Nat}(hp:X g∨w.heap.size≤g)(cs:Array Value):Out w (w'.setRow g cs) X :=
 ⟨h.os,h.tape,h.output,by simpa using h.size,fun i hi hx=>(setRow_other w' g i cs (fun e=>by
  subst e
  rcases hp with hp | hp
  ·
   exact hx hp
  ·
   omega)).trans (h.block i hi hx)⟩
theorem j8.out{g:Nat}{t:TypeId}{cs:Array Value}(h:j8 w g t cs)(ho:Out w w' X)(hg:¬X g):j8 w' g t cs:=(ho.block g h.lt hg).trans h
theorem Rd.out{lo hi c:Nat}{A:Option Addr}{xs:List Value}(h:Rd w lo hi A c xs)(ho:Out w w' X)(hh:hi≤w.heap.size)(hX:∀k,lo≤k→k<hi→¬X k):Rd w' lo hi A c xs :=
 h.keep fun p h1 h2=>qa4 (ho.block p.block (by omega) (hX _ h1 h2))
variable {base n:Nat}{e:TypeId}{size:Nat}{v:Value}{xs:List Value}
theorem jw(h:w.ownsRow base e size v n xs)(hk:∀k,v.ownBlock=some k→w'.heap[k]? = w.heap[k]?):w'.ownsRow base e size v n xs:=by
 obtain⟨hl,hr⟩:=h
 refine⟨hl,?_⟩
 rcases hr with h0 | ⟨g,cap,cur,hv,hg,hb,hrest⟩
 ·
  exact .inl h0
 ·
  exact .inr ⟨g,cap,cur,hv,hg,(hk g (by rw[hv];rfl)).trans hb,hrest⟩
theorem zk(h:w.ownsRow base e size v n xs){k:Nat}(hk:v.ownBlock=some k):base≤k∧k<w.heap.size:=h.lt k hk
theorem qaa(h:w.ownsRow base e size v n xs)(ho:Out w w' X)(hX:∀k,v.ownBlock=some k→¬X k):w'.ownsRow base e size v n xs :=
 jw h fun k hk=>ho.block k (zk h hk).2 (hX k hk)
end
section
variable {P:Program}(w:World)
theorem qh7(base:Nat)(t u ty e:TypeId)(i:TypeInfo)(ht:P.underlying t=some (.slice e))(hu:P.underlying u=some .string)(hi:P.info? e=some i)(hz:i.zero=some (.int .u8 0))
  (hsize:i.size=1) (hby:i.bytes=1)
  (v:Value) (n:Nat) (xs:List Value) (hown:w.ownsRow base e 1 v n xs) (s:ByteArray)
  (hbytes:n+s.size≤140737488355328) (hbase:base≤w.heap.size) :
  ∃A' c' w',(Builtin.append_ #[t,u] ty #[v,.string s]).run P w= .ok (.slice A' (n+s.size) c') w'∧w'.ownsRow base e 1 (.slice A' (n+s.size) c') (n+s.size) (xs++bv s.data.toList)∧w.grownBy w' v.ownBlock∧
   (∀k,(Value.slice A' (n+s.size) c').ownBlock=some k→v.ownBlock=some k∨w.heap.size≤k):=by
 obtain⟨v',w',hrun,ho,hg,_⟩:=Lib.run_append_own_string (P:=P) w base t u ty e i ht hu hi hz hsize hby v n xs hown s (by simp only[maxLen];omega) hbytes hbase
 obtain⟨A',c',rfl,_⟩:=qbp w' ho
 refine⟨A',c',w',hrun,by rw[←Lib.strCells_length] at *;exact ho,hg,fun k hk => ?_⟩
 have hxl:xs.length=n:=by simpa using hown.1
 rcases hown.2 with ⟨rfl,rfl⟩ | ⟨g,cap,cur,rfl,hb,hgb,hnc,hcm,hcs,htk⟩
 ·
  obtain⟨v2,w2,hrun2,ho2,_,_⟩:=Lib.run_append_own_string (P:=P) w w.heap.size t u ty e i ht hu hi hz hsize hby (.slice none 0 0) 0 xs (by
   have:xs=[]:=ze hxl
   subst this
   exact zj _ _ _ _) s (by simp only[maxLen];omega) hbytes (qc _)
  rw[hrun] at hrun2
  injection hrun2 with h1 h2
  subst h1 h2
  exact .inr (zk ho2 hk).1
 ·
  by_cases hroom:n+s.size≤cap
  ·
   have hr:=Lib.run_append_room_string (P:=P) w t u ty e i ht hu hi hsize g n cap cur hgb s hroom (by omega)
   rw[hrun] at hr
   injection hr with h1 h2
   injection h1 with h3 h4 h5
   subst h3
   exact .inl hk
  ·
   have hr:=Lib.run_append_grow_string (P:=P) w t u ty e i _ ht hu hi hz ⟨g,0,none⟩ n cap xs (by rw[hsize,xl];exact hxl) (by
    intro j y hj
    have:=hown.cells (g:=g) (by simp[Value.ownBlock]) j y hj
    exact this) s (by omega) (by simp only[maxLen] at hcm;omega) (by
    rw[hby]
    exact growslice_fits (by omega) (by omega))
   rw[hrun] at hr
   injection hr with h1 h2
   injection h1 with h3 h4 h5
   subst h3
   injection hk with hk
   right
   rw[←hk]
   exact qc _
end
theorem ints_get(l:List Nat)(k:Nat)(h:k<l.length):(jf l)[k]'(by rw[zq];exact h)=((l[k]:Nat):Int):=by simp[jf]
theorem Rd.nat{w:World}{lo hi c:Nat}{A:Option Addr}{l:List Nat}(h:Rd w lo hi A c (iv (jf l))){k:Nat}(hk:k<l.length) :
  ∃b off,A=some ⟨b,off,none⟩∧lo≤b∧b<hi∧w.cell? ⟨b,off+k,none⟩=some (.int .i64 ((l[k]:Nat):Int)):=by
 obtain⟨b,off,h1,h2,h3,h4⟩:=h.num (k:=k) (by rw[zq];exact hk)
 rw[ints_get l k hk] at h4
 exact⟨b,off,h1,h2,h3,h4⟩
def sv(l:List ByteArray):List Value:=l.map .string
theorem xr(l:List ByteArray):(sv l).length=l.length:=by simp[sv]
theorem sv_append(a b:List ByteArray):sv (a++b)=sv a++sv b:=by simp[sv]
theorem sv_drop(l:List ByteArray)(k:Nat):sv (l.drop k)=(sv l).drop k:=by simp[sv,List.map_drop]
theorem sv_take(l:List ByteArray)(k:Nat):sv (l.take k)=(sv l).take k:=by simp[sv,List.map_take]
theorem sv_get(l:List ByteArray)(k:Nat)(h:k<l.length):(sv l)[k]? = some (.string l[k]):=by simp[sv,qe h]
theorem sv_one(l:List ByteArray):∀u∈sv l,u.oneCell'=true:=by
 intro u hu
 obtain⟨c,_,rfl⟩:=za.1 hu
 rfl
theorem Rd.str{w:World}{lo hi c:Nat}{A:Option Addr}{l:List ByteArray}(h:Rd w lo hi A c (sv l)){k:Nat}(hk:k<l.length) :
  ∃b off,A=some ⟨b,off,none⟩∧lo≤b∧b<hi∧w.cell? ⟨b,off+k,none⟩=some (.string l[k]):=by
 obtain⟨b,off,e,h1,h2,h3⟩:=h.at_ (by rw[xr];omega)
 exact⟨b,off,e,h1,h2,h3 k _ (sv_get l k hk)⟩
def j4(ls:List (List UInt8)):List ByteArray:=ls.map fun l=>⟨l.toArray⟩
theorem yf(ls:List (List UInt8)):(j4 ls).length=ls.length:=by simp[j4]
def qdh(l:List ByteArray):List (List UInt8):=l.map fun s=>s.data.toList
theorem bytG_take(l:List ByteArray)(i:Nat)(h:i<l.length):qcc (qdh (l.take (i+1)))=qcc (qdh (l.take i))++qcy l[i].data.toList:=by
 rw[qi h,qdh,jg,qcc,qbm,qdh,qcc]
 congr 1
 simp
theorem gramS(s:ByteArray)(k:Nat)(h:k+2<s.size):(qcy s.data.toList)[k]'(by rw[qbi,jo];show k<s.size-2;omega)=qjm s[k] s[k+1] s[k+2]:=by
 have hl:s.data.toList.length=s.size:=by rw[jo];rfl
 rw[qka s.data.toList k (by omega)]
 rfl
theorem gramsS_take(s:ByteArray)(k:Nat)(h:k+2<s.size):(qcy s.data.toList).take (k+1)=(qcy s.data.toList).take k++[qjm s[k] s[k+1] s[k+2]]:=by
 have hl:s.data.toList.length=s.size:=by rw[jo];rfl
 rw[qi (by rw[qbi];omega),gramS s k h]
def lv(l:List Bool):List Value:=l.map fun b=> .bool b
theorem qac(l:List Bool):(lv l).length=l.length:=by simp[lv]
theorem lv_set(l:List Bool)(j:Nat)(x:Bool):lv (l.set j x)=(lv l).set j (.bool x):=by simp[lv,List.map_set]
theorem lv_get(l:List Bool)(k:Nat)(h:k<l.length):(lv l)[k]? = some (.bool l[k]):=by
 simp[lv,qe h]
theorem Rd.row{w:World}{lo hi c:Nat}{A:Option Addr}{l:List Bool}(h:Rd w lo hi A c (lv l)){k:Nat}(hk:k<l.length) :
  ∃b off,A=some ⟨b,off,none⟩∧lo≤b∧b<hi∧w.cell? ⟨b,off+k,none⟩=some (.bool l[k]):=by
 obtain⟨b,off,e,h1,h2,h3⟩:=h.at_ (by rw[qac];omega)
 exact⟨b,off,e,h1,h2,h3 k _ (lv_get l k hk)⟩
def cnt(l:List Bool):Nat:=l.count true
theorem cnt_take(l:List Bool)(k:Nat)(h:k<l.length):cnt (l.take (k+1))=cnt (l.take k)+(l[k]).toNat:=by
 unfold cnt
 rw[qi h,List.count_append]
 cases l[k] <;> rfl
theorem qgs(l:List Bool):cnt l≤l.length:=qa7
theorem cnt_take_le(l:List Bool)(k:Nat):cnt (l.take k)≤k:=zc (qgs _) (by rw[qy];omega)
def Flt(w:World)(lo hi:Nat)(v:Value)(b:Nat)(gs:List Nat)(rs:List Bool):Prop :=
 ∃A c B d,v= .agg #[.int .i64 (b:Int),.slice A gs.length c,.slice B rs.length d]∧Rd w lo hi A c (iv (jf gs))∧Rd w lo hi B d (lv rs)
theorem Flt.below{w w':World}{lo hi B b:Nat}{v:Value}{gs:List Nat}{rs:List Bool}(h:Flt w lo hi v b gs rs)(hb:Below B w w')(hB:hi≤B):Flt w' lo hi v b gs rs:=by
 obtain⟨A,c,B',d,rfl,h1,h2⟩:=h
 exact⟨A,c,B',d,rfl,h1.below hb hB,h2.below hb hB⟩
theorem Flt.wide{w:World}{lo hi lo' hi' b:Nat}{v:Value}{gs:List Nat}{rs:List Bool}(h:Flt w lo hi v b gs rs)(h1:lo'≤lo)(h2:hi≤hi'):Flt w lo' hi' v b gs rs:=by
 obtain⟨A,c,B',d,rfl,h3,h4⟩:=h
 exact⟨A,c,B',d,rfl,h3.wide h1 h2,h4.wide h1 h2⟩
theorem Flt.drewN{w:World}{lo hi b:Nat}{v:Value}{gs:List Nat}{rs:List Bool}(h:Flt w lo hi v b gs rs)(m:Nat):Flt (w.drewN m) lo hi v b gs rs:=by
 obtain⟨A,c,B',d,rfl,h1,h2⟩:=h
 exact⟨A,c,B',d,rfl,h1.drewN m,h2.drewN m⟩
theorem Tryz.infoBool:(Tryz.prog.info? 4).map (fun i=>(i.zero,i.size,i.bytes))=some (some (.bool false),1,1):=by kernel_rfl
theorem qj3(w:World)(n:Nat)(h:n≤281474976710656):∃w1,(Instr.makeSlice 105 (.int .i64 (n:Int)) (.int .i64 (n:Int))).run Tryz.prog w= .ok (.slice (some ⟨w.heap.size,0,none⟩) n n) w1∧
  w1.ownsRow w.heap.size 4 1 (.slice (some ⟨w.heap.size,0,none⟩) n n) n (List.replicate n (.bool false))∧w.grownBy w1 none:=by
 obtain⟨i0,hi0,hz0,hz1,hz2⟩:=info_parts Tryz.infoBool
 have:=run_make_full (P:=Tryz.prog) w w.heap.size 105 4 i0 _ 1 Tryz.underlying105 hi0 hz0 hz1 .i64 .i64 n (by rw[hz2];omega) (by simp only[maxLen];omega) (qc _)
 rw[xl,show(Value.bool false).cells=#[.bool false] from rfl,toList_madeCells_one] at this
 exact this
def qhs(ys:List Value)(k:Nat)(xs:List Value):Prop:=xs.length=ys.length∧∀j,j<k→xs[j]? = ys[j]?
theorem qcb{ys xs:List Value}(h:xs.length=ys.length):qhs ys 0 xs:=⟨h,fun j hj=>absurd hj (jm j)⟩
theorem qdo{ys xs:List Value}{k:Nat}(h:qhs ys k xs)(hk:ys.length≤k):xs=ys:=by
 apply qcp
 intro j
 by_cases hj:j<k
 ·
  exact h.2 j hj
 ·
  rw[jp (by rw[h.1];omega),jp (by omega)]
theorem um{ys xs:List Value}{k:Nat}(h:qhs ys k xs)(u:Value)(hu:ys[k]? = some u):qhs ys (k+1) (xs.set k u):=by
 have hk:k<ys.length:=(zt.1 hu).1
 refine⟨by rw[xv];exact h.1,fun j hj => ?_⟩
 by_cases e:j=k
 ·
  subst e
  rw[qbw (by rw[h.1];exact hk),hu]
 ·
  rw[qa6 (by omega)]
  exact h.2 j (by omega)
def qfu(b:Nat)(ts:List Nat):List Bool:=ts.foldl (fun r g=>r.set (bitG g b) true) (List.replicate b false)
theorem qdy(b:Nat)(ts:List Nat):(qfu b ts).length=b:=by
 unfold qfu
 have:∀(ts:List Nat) (r:List Bool),(ts.foldl (fun r g=>r.set (bitG g b) true) r).length=r.length:=by
  intro ts
  induction ts with
  | nil=>intro r;rfl
  | cons g ts ih=>intro r;rw[List.foldl_cons,ih];simp
 rw[this,List.length_replicate]
theorem setB_snoc(b:Nat)(ts:List Nat)(g:Nat):qfu b (ts++[g])=(qfu b ts).set (bitG g b) true:=by
 unfold qfu
 rw[List.foldl_append]
 rfl
def one(c:Nat)(x:UInt8):Bool:=c==256||c==x.toNat
structure FilG (b:Nat) (gs:List Nat) (rs:List Bool):Prop where
 le:b≤65536
 rows:rs.length=b
 none:0<b→gs=[]
 up:gs.Pairwise (· < ·)
 lt:∀g∈gs,g<16777216
 few:gs.length≤65536
theorem allL_lt{l:List (List UInt8)}{g:Nat}(h:g∈qcc l):g<16777216:=by
 obtain⟨s,_,hs⟩:=List.mem_flatMap.1 h
 exact gramsL_lt hs
theorem FilG.list{l:List (List UInt8)}{t:List Nat}(h:Rise (qcc l) t)(hn:(qcc l).length≤65536):FilG 0 t [] :=
 ⟨by omega,rfl,fun h=>absurd h (qay 0),h.up,fun g hg=>allL_lt ((h.mem g).1 hg),zc h.len hn⟩
theorem FilG.set{b:Nat}(t:List Nat)(hb:b≤65536):FilG b [] (qfu b t) :=
 ⟨hb,qdy b t,fun _=>rfl,List.Pairwise.nil,fun g hg=>absurd hg vd,by simp⟩
end Go.Proofs.YtjfecojdagmacaaGreat
