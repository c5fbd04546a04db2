/-
  Lemmas.
-/
import Derived.Test.YtjfecojdagmacaaGreatE11
import Derived.Lib.AppendZeros
namespace Go.Proofs.YtjfecojdagmacaaGreat
open Go.RowKit
set_option maxRecDepth 20000
set_option maxHeartbeats 16000000
set_option linter.unusedSimpArgs false
set_option linter.unusedVariables false
theorem qit(w:World)(base:Nat)(v:Value)(ys zs us:List Int)(hus:ys++zs=us)(hown:w.ownsRow base 3 1 v ys.length (iv ys)){lo h':Nat}{A:Option Addr}{c:Nat}(hr:Rd w lo h' A c (iv zs))
  (hb:ys.length+zs.length≤17592186044416) (hbase:base≤w.heap.size) :
  ∃A' c' w',(Builtin.append_ #[58,58] 58 #[v,.slice A zs.length c]).run Tryz.prog w= .ok (.slice A' us.length c') w'∧
   w'.ownsRow base 3 1 (.slice A' us.length c') us.length (iv us)∧w.grownBy w' v.ownBlock∧((Value.slice A' us.length c').ownBlock=v.ownBlock∨(Value.slice A' us.length c').ownBlock=some w.heap.size):=by
 subst hus
 obtain⟨i0,hi0,hz0,hz1,hz2⟩:=info_parts Tryz.infoI64
 have hl:=yd zs
 obtain⟨A',c',w',hrun,h2,h3,h4⟩:=ky (P:=Tryz.prog) w base 58 58 3 i0 _ 8 Tryz.underlying58 hi0 hz0 hz1 hz2 rfl v ys.length (iv ys) hown lo h' A c (iv zs) hr (iv_one _)
  (by rw[hl];simp only[maxLen];omega) (by rw[hl];omega) hbase
 rw[hl] at hrun h2 h4
 rw[qd]
 exact⟨A',c',w',hrun,by rw[iv_append];exact h2,h3,h4⟩
theorem qhv(w:World)(base:Nat)(v:Value)(ys zs us:List UInt8)(hus:ys++zs=us)(hown:w.ownsRow base 5 1 v ys.length (bv ys)){lo h':Nat}{A:Option Addr}{c:Nat}(hr:Rd w lo h' A c (bv zs))
  (hb:ys.length+zs.length≤140737488355328) (hbase:base≤w.heap.size) :
  ∃A' c' w',(Builtin.append_ #[36,36] 36 #[v,.slice A zs.length c]).run Tryz.prog w= .ok (.slice A' us.length c') w'∧
   w'.ownsRow base 5 1 (.slice A' us.length c') us.length (bv us)∧w.grownBy w' v.ownBlock∧((Value.slice A' us.length c').ownBlock=v.ownBlock∨(Value.slice A' us.length c').ownBlock=some w.heap.size):=by
 subst hus
 obtain⟨i0,hi0,hz0,hz1,hz2⟩:=info_parts Tryz.infoU8
 have hl:=jj zs
 obtain⟨A',c',w',hrun,h2,h3,h4⟩:=ky (P:=Tryz.prog) w base 36 36 5 i0 _ 1 Tryz.underlying36 hi0 hz0 hz1 hz2 rfl v ys.length (bv ys) hown lo h' A c (bv zs) hr (bv_one _)
  (by rw[hl];simp only[maxLen];omega) (by rw[hl];omega) hbase
 rw[hl] at hrun h2 h4
 rw[qd]
 exact⟨A',c',w',hrun,by rw[qg5];exact h2,h3,h4⟩
structure SB (w:World) (lo hi:Nat) (u v:Value) (ss:List Nat) (bs:List UInt8):Prop where
 o1:w.ownsRow lo 3 1 u ss.length (iv (jf ss))
 o2:w.ownsRow lo 5 1 v bs.length (bv bs)
 h1:∀g,u.ownBlock=some g→g<hi
 h2:∀g,v.ownBlock=some g→g<hi
 ap:∀g,u.ownBlock=some g→v.ownBlock=some g→False
section
variable {w w':World}{lo hi:Nat}{u v:Value}{ss:List Nat}{bs:List UInt8}
theorem SB.nil(w:World)(lo hi:Nat):SB w lo hi (.slice none 0 0) (.slice none 0 0) [] []:=⟨zj ..,zj ..,fun _ h=>(by cases h),fun _ h=>(by cases h),fun _ h=>(by cases h)⟩
theorem SB.top(h:SB w lo hi u v ss bs):SB w lo w.heap.size u v ss bs:=⟨h.o1,h.o2,fun g hg=>(zk h.o1 hg).2,fun g hg=>(zk h.o2 hg).2,h.ap⟩
theorem SB.drewN(h:SB w lo hi u v ss bs)(m:Nat):SB (w.drewN m) lo hi u v ss bs:=⟨jw h.o1 (fun _ _=>rfl),jw h.o2 (fun _ _=>rfl),h.h1,h.h2,h.ap⟩
theorem SB.below{B:Nat}(h:SB w lo hi u v ss bs)(hb:Below B w w')(hB:hi≤B):SB w' lo hi u v ss bs :=
 ⟨jw h.o1 (fun k hk=>hb.block k (by have:=h.h1 k hk;omega)),jw h.o2 (fun k hk=>hb.block k (by have:=h.h2 k hk;omega)),h.h1,h.h2,h.ap⟩
theorem SB.grown{row:Option Nat}(h:SB w lo hi u v ss bs)(hg:w.grownBy w' row)(hr:∀g,row=some g→hi≤g):SB w' lo hi u v ss bs :=
 ⟨jw h.o1 (fun k hk=>hg.block k (zk h.o1 hk).2 (fun e=>by have:=h.h1 k hk;have:=hr k e.symm;omega)),jw h.o2 (fun k hk=>hg.block k (zk h.o2 hk).2 (fun e=>by have:=h.h2 k hk;have:=hr k e.symm;omega)),h.h1,h.h2,h.ap⟩
theorem SB.push{A:Option Addr}{n c:Nat}(h:SB w lo hi (.slice A n c) v ss bs)(hn:n=ss.length)(hl:n≤1000000000)(hlo:lo≤w.heap.size) :
  ∃A' c' w',(Builtin.append_ #[58,58] 58 #[.slice A n c,.slice (some ⟨w.heap.size,0,none⟩) 1 1]).run Tryz.prog (w.alloc (.cells #[.int .i64 0] 3))= .ok (.slice A' (n+1) c') w'∧
   SB w' lo w'.heap.size (.slice A' (n+1) c') v (ss++[0]) bs∧Below lo w w':=by
 subst hn
 have hil:=zq ss
 have h1:(w.alloc (.cells #[.int .i64 0] 3)).ownsRow lo 3 1 (.slice A ss.length c) (jf ss).length (iv (jf ss)):=by rw[hil];exact h.o1.alloc _
 obtain⟨A',c',w',hrun,ho,hg,hb⟩:=qit (w.alloc (.cells #[.int .i64 0] 3)) lo (.slice A ss.length c) (jf ss) [0] (jf (ss++[0])) (by simp[jf]) h1 (rd_ints w 3 [0] #[.int .i64 0] rfl (by simp)) (by rw[hil];simp;omega) (by simp;omega)
 rw[zq,qd] at hrun ho hb
 have hv:v.ownBlock=none∨v.ownBlock≠(Value.slice A ss.length c).ownBlock:=by
  cases hx:v.ownBlock with
  | none=>exact Or.inl rfl
  | some g=>exact Or.inr fun e=>h.ap g e.symm hx
 have ho2:=(h.o2.alloc (.cells #[.int .i64 0] 3)).kept hg hv
 refine⟨A',c',w',hrun,⟨by rw[qd];exact ho,ho2,fun g hg2=>(zk ho hg2).2,fun g hg2=>(zk ho2 hg2).2,fun g hg2 hg3 => ?_⟩,((Below.refl lo w).alloc hlo _).grown hg (by simp;omega) (fun g hg2=>(zk h.o1 hg2).1)⟩
 rcases hb with e | e
 ·
  exact h.ap g (e.symm.trans hg2) hg3
 ·
  have h3:=(zk h.o2 hg3).2
  have h4:(Value.slice A' (ss.length+1) c').ownBlock=some g:=hg2
  have h5:some g=some (w.alloc (.cells #[.int .i64 0] 3)).heap.size:=h4.symm.trans e
  injection h5 with h5
  simp at h5
  omega
theorem SB.set{g n c:Nat}(h:SB w lo hi (.slice (some ⟨g,0,none⟩) n c) v ss bs)(hn:n=ss.length)(i x:Nat):SB (w.setCell ⟨g,i,none⟩ (.int .i64 (x:Int))) lo hi (.slice (some ⟨g,0,none⟩) n c) v (ss.set i x) bs:=by
 subst hn
 refine⟨?_,ownsRow_setCell_other h.o2 (fun e=>h.ap g rfl e) _,h.h1,h.h2,h.ap⟩
 have:=(h.o1.stored i (.int .i64 (x:Int))).1
 rw[xv]
 have e:iv (jf (ss.set i x))=(iv (jf ss)).set i (.int .i64 (x:Int)):=by simp[iv,jf,List.map_set]
 rw[e]
 exact this
theorem SB.more{A B:Option Addr}{n c k d lo2 hi2:Nat}{news all:List UInt8}(h:SB w lo hi u (.slice A n c) ss bs)(hn:n=bs.length)(hk:k=news.length)(ha:bs++news=all)(hr:Rd w lo2 hi2 B d (bv news))(hl:n+k≤140737488355328)(hlo:lo≤w.heap.size) :
  ∃A' c' w',(Builtin.append_ #[36,36] 36 #[.slice A n c,.slice B k d]).run Tryz.prog w= .ok (.slice A' (n+k) c') w'∧SB w' lo w'.heap.size u (.slice A' (n+k) c') ss all∧Below lo w w':=by
 subst hn hk
 obtain⟨A',c',w',hrun,ho,hg,hb⟩:=qhv w lo (.slice A bs.length c) bs news all ha h.o2 hr hl hlo
 have hal:all.length=bs.length+news.length:=by rw[←ha,qd]
 rw[hal] at hrun ho hb
 have hu:u.ownBlock=none∨u.ownBlock≠(Value.slice A bs.length c).ownBlock:=by
  cases hx:u.ownBlock with
  | none=>exact Or.inl rfl
  | some g=>exact Or.inr fun e=>h.ap g hx e.symm
 have ho1:=h.o1.kept hg hu
 refine⟨A',c',w',hrun,⟨ho1,by rw[hal];exact ho,fun g hg2=>(zk ho1 hg2).2,fun g hg2=>(zk ho hg2).2,fun g hg2 hg3 => ?_⟩,(Below.refl lo w).grown hg hlo (fun g hg2=>(zk h.o2 hg2).1)⟩
 rcases hb with e | e
 ·
  exact h.ap g hg2 (e.symm.trans hg3)
 ·
  have h3:=(zk h.o1 hg2).2
  have h5:some g=some w.heap.size:=hg3.symm.trans e
  injection h5 with h5
  omega
end
theorem tailD(s:ByteArray)(k:Nat):(s.extract k s.size).data.toList=s.data.toList.drop k:=by
 rw[ByteArray.data_extract,Array.toList_extract]
 rw[qci,qp (by rw[qv,qgp];omega)]
theorem tailD_size(s:ByteArray)(k:Nat):(s.extract k s.size).size=s.size-k:=by rw[xk];omega
theorem qge{w:World}(s:ByteArray)(hs:s.size≤100000) :
  Calls Tryz.prog 243 #[.string s] w fun r w'=>∃A c,r= .returned (.slice A (vh s.data.toList).length c)∧w'.ownsRow w.heap.size 5 1 (.slice A (vh s.data.toList).length c) (vh s.data.toList).length (bv (vh s.data.toList))∧Below w.heap.size w w':=by
 have h9:=kt s.size (by omega)
 go_enter Tryz.func243,Tryz.ntmps243
 go_wp2_with fail
 refine(qcf s.size (by omega)).mono ?_
 rintro r w1 ⟨A,c,rfl,hown,hbel⟩
 obtain⟨A',c',w2,hrun,hown2,hg2⟩:=append_string w1 w.heap.size _ _ s hown (by omega) hbel.size
 have HO:=qa hown
 have HO2:=qa hown2
 have HG2:=qa hg2
 have HB:=qa hbel
 clear hown hown2 hg2 hbel
 go_wp2_with (at_builtin;refine wpList_append_run rfl _ _ _ _ rfl rfl rfl hrun ?_)
 go_ret
 have e:(vh s.data.toList).length=(jc s.size).length+s.size:=by simp[vh]
 refine⟨A',c',by rw[e];rfl,by rw[e];exact HO2.out,?_⟩
 exact HB.out.grown HG2.out HB.out.size (fun k hk=>(HO.out.lt k hk).1)
theorem bytL2_tk(l:List ByteArray)(k:Nat):qt (l.take k)=(qt l).take k:=by simp[qt,List.map_take]
theorem qdq{l:List ByteArray}{k:Nat}(hk:k<l.length):(qt l).take (k+1)=(qt l).take k++[l[k].data.toList]:=by
 rw[qi (by rw[zb];exact hk),vq l k hk]
theorem fright_any{w:World}(l:List ByteArray){lo hi c:Nat}{A:Option Addr}(h:Rd w lo hi A c (sv l))(h1k:∀s∈l,s.size≤9223372036854775807) :
  Calls Tryz.prog 225 #[.slice A l.length c] w fun r w'=>r= .returned (.bool (qjf (qt l)))∧w=w':=by
 have hl:=h.len
 have hm:=h.cap
 rw[xr] at hl
 unfold maxLen at hm
 by_cases h4:4096<l.length
 ·
  have hv:qjf (qt l)=false:=by
   unfold qjf
   rw[zb,qw (p:=l.length≤4096) (by omega),Bool.false_and,Bool.false_and]
  rw[hv]
  have i4:(4096:Int)<(l.length:Int):=by omega
  have d4:decide ((4096:Int)<(l.length:Int))=true:=qx i4
  go_enter Tryz.func225,Tryz.ntmps225
  go_wp2_with fail
  go_ret
  exact⟨rfl,rfl⟩
 ·
  have d4:decide ((4096:Int)<(l.length:Int))=false:=qw (by omega)
  have H:=qa h
  have H1:Hid (∀k (hk:k<l.length),l[k].size≤9223372036854775807):=fun k hk=>h1k _ (ql hk)
  obtain⟨v,hv⟩:∃v,qjf (qt l)=v:=⟨_,rfl⟩
  rw[hv]
  rw[dic_good,zb,qx (p:=l.length≤4096) (by omega),qda] at hv
  have HNO:Hid (∀k (hk:k<l.length),qcz (qt (l.take k)) l[k].data.toList=false→v=false):=fun k hk hf=>by
   cases hvv:v with
   | false=>rfl
   | true =>
    rw[hvv] at hv
    have h2:=qil (l:=(qt l).take (k+1)) (t:=(qt l).drop (k+1)) (by rw[zw];exact hv)
    rw[qdq hk,qes,←bytL2_tk,hf,Bool.and_false] at h2
    cases h2
  have HYES:Hid (∀k (hk:k<l.length),qcg ((qt l).take k)=true→qcz (qt (l.take k)) l[k].data.toList=true→qcg ((qt l).take (k+1))=true):=fun k hk hg hf=>by
   rw[qdq hk,qes,←bytL2_tk,hf,bytL2_tk,hg]
   rfl
  have HEND:Hid (qcg ((qt l).take l.length)=true→v=true):=fun hg=>by
   rw[qp (by rw[zb];exact qc _)] at hg
   rw[←hv,hg]
  clear h h1k hv
  go_enter Tryz.func225,Tryz.ntmps225
  go_wp2_with fail
  go_loop [10] (fun i=>∃k:Nat,k≤l.length∧i= .int .i64 (k:Int)∧qcg ((qt l).take k)=true) (fun i=>l.length-(intOf i).toNat)
  case atStart=>exact⟨0,qj _,rfl,rfl⟩
  case round =>
   obtain⟨k,hk,rfl,hg⟩:=hrel
   have HG:=qa hg
   clear hg
   by_cases hlt:k<l.length
   ·
    have ik:(k:Int)<(l.length:Int):=by omega
    have hkc:(k:Int)≤(c:Int):=by omega
    have HFO:=qa (qhi (l.take k) l[k] (n:=k) (by rw[qy];omega) (by rw[sv_take];exact H.out.take_ k) (H1.out k hlt))
    have HN:=qa (HNO.out k hlt)
    have HY:=qa (HYES.out k hlt HG.out)
    obtain⟨b,off,rfl,_,_,hcell⟩:=H.out.str hlt
    generalize l[k]=s at *
    obtain⟨f,hf⟩:∃f,qcz (qt (l.take k)) s.data.toList=f:=⟨_,rfl⟩
    rw[hf] at HFO HN HY
    clear hf HNO HYES HEND
    cases f with
    | true =>
     have HGG:=qa (HY.out rfl)
     go_wp2_with fail
     refine HFO.out.mono ?_
     rintro r w' ⟨rfl,rfl⟩
     go_wp2_with fail
     go_round
     case rel=>exact⟨k+1,by omega,by go_num,HGG.out⟩
     case measure=>simp[intOf];omega
    | false =>
     have HVV:=qa (HN.out rfl)
     go_wp2_with fail
     refine HFO.out.mono ?_
     rintro r w' ⟨rfl,rfl⟩
     go_wp2_with fail
     go_ret
     exact⟨yc HVV.out.symm,rfl⟩
   ·
    have hke:k=l.length:=by omega
    have ik:¬(k:Int)<(l.length:Int):=by omega
    have HV:Hid (v=true):=HEND.out (by rw[←hke];exact HG.out)
    go_wp2_with fail
    go_ret
    exact⟨yc HV.out.symm,rfl⟩
theorem blk_len{t:List (List UInt8)}(h:∀s∈t,s.length≤4096):(kb t).length≤4200*t.length:=by
 have h1:=qk3 (K:=t.length) (i:=0) (l:=t) (j:=t.length) (qc _) (by omega)
 have h2:=qk0 t.length h (0*t.length+t.length)
 rw[h1,qd,Nat.zero_mul,jv,qp (qc _)] at h2
 omega
theorem fcode_one{w:World}(x:ByteArray)(hx:x.size≤4096){c:Nat}{A:Option Addr}(h:Rd w 0 w.heap.size A c (sv [x])) :
  Calls Tryz.prog 227 #[.slice A 1 c] w fun r w'=>∃A' c',r= .returned (.slice A' (vh x.data.toList).length c')∧
   w'.ownsRow w.heap.size 5 1 (.slice A' (vh x.data.toList).length c') (vh x.data.toList).length (bv (vh x.data.toList))∧Below w.heap.size w w':=by
 have hl:1≤c:=h.len
 have hm:=h.cap
 unfold maxLen at hm
 obtain⟨b,off,rfl,_,hbh,hcell0⟩:=h.str (k:=0) (l:=[x]) (by simp)
 rw[y7] at hcell0
 rw[xj] at hcell0
 clear h
 by_cases hc1:c=1
 ·
  subst hc1
  go_enter Tryz.func227,Tryz.ntmps227
  go_wp2_with fail
  refine(qge x (by omega)).mono ?_
  rintro r w1 ⟨A1,c1,rfl,hown1,hbel1⟩
  have HO1:=qa hown1
  have HB1:=qa hbel1
  clear hown1 hbel1 hcell0
  go_wp2_with fail
  go_loop [3,14] (fun x3 x14=>x3= .slice A1 (vh x.data.toList).length c1∧x14= .int .i64 0) (fun _ _=>0)
  case atStart=>exact⟨rfl,rfl⟩
  case round =>
   obtain⟨rfl,rfl⟩:=hrel
   go_wp2_with fail
   go_ret
   exact⟨A1,c1,rfl,HO1.out,HB1.out⟩
 ·
  go_enter Tryz.func227,Tryz.ntmps227
  go_wp2_with fail
  refine(qge x (by omega)).mono ?_
  rintro r w1 ⟨A1,c1,rfl,hown1,hbel1⟩
  have HO1:=qa hown1
  have HB1:=qa hbel1
  clear hown1 hbel1 hcell0
  go_wp2_with fail
  go_loop [3,14] (fun x3 x14=>x3= .slice A1 (vh x.data.toList).length c1∧x14= .int .i64 0) (fun _ _=>0)
  case atStart=>exact⟨rfl,rfl⟩
  case round =>
   obtain⟨rfl,rfl⟩:=hrel
   go_wp2_with fail
   go_ret
   exact⟨A1,c1,rfl,HO1.out,HB1.out⟩
theorem fcode_more{w:World}(l:List ByteArray){m:Nat}(hn:l.length=m+1)(h0m:0<m)(hm4:m+1≤4096){c:Nat}{A:Option Addr}(h:Rd w 0 w.heap.size A c (sv l))(h4:∀s∈l,s.size≤4096) :
  Calls Tryz.prog 227 #[.slice A (m+1) c] w fun r w'=>∃A' c',r= .returned (.slice A' (kb (qt l)).length c')∧
   w'.ownsRow w.heap.size 5 1 (.slice A' (kb (qt l)).length c') (kb (qt l)).length (bv (kb (qt l)))∧Below w.heap.size w w':=by
 have hl:=h.len
 have hm:=h.cap
 rw[xr,hn] at hl
 unfold maxLen at hm
 have hc1:¬c=1:=by omega
 have H:=qa h
 have HN:=qa hn
 have H1:Hid (∀k (hk:k<l.length),l[k].size≤4096):=fun k hk=>h4 _ (ql hk)
 have HBL:Hid (∀k,k≤m+1→(kb ((qt l).take k)).length≤4200*k):=fun k hk=>by
  have:=blk_len (t:=(qt l).take k) fun s hs=>by
   obtain⟨x,hx,rfl⟩:=za.1 (vg hs)
   rw[qgp]
   exact h4 x hx
  rw[qy,zb] at this
  omega
 have HST:Hid (∀k (hj:k<l.length) (hk:k+1<l.length),kb ((qt l).take (k+2))=kb ((qt l).take (k+1))++(jc (yv l[k].data.toList l[k+1].data.toList)++vh (l[k+1].data.toList.drop (yv l[k].data.toList l[k+1].data.toList)))):=fun k hj hk=>by
  have hne:(qt l).take (k+1)≠[]:=fun e=>by
   have:=congrArg List.length e
   rw[qy,zb,jy] at this
   omega
  rw[qdq (k:=k+1) hk,blkL_snoc hne,lastD_take (by rw[zb];omega),vq l k (by omega)]
 have hp0:0<l.length:=by omega
 have HS1:Hid (kb ((qt l).take 1)=vh l[0].data.toList):=by
  unfold Hid
  rw[qdq (k:=0) hp0]
  simp[kb,qb5]
 have HEND:Hid ((qt l).take (m+1)=qt l):=qp (by rw[zb];omega)
 have h0:=H1.out 0 hp0
 obtain⟨b,off,rfl,_,hbh,hcell0⟩:=h.str (k:=0) hp0
 rw[y7] at hcell0
 clear h hn h4
 generalize l[0]=x0 at *
 clear hp0
 go_enter Tryz.func227,Tryz.ntmps227
 go_wp2_with fail
 refine(qge x0 (by omega)).mono ?_
 rintro r w1 ⟨A1,c1,rfl,hown1,hbel1⟩
 rw[←HS1.out] at hown1 ⊢
 have HO1:=qa hown1
 have HB1:=qa hbel1
 clear hown1 hbel1 hcell0
 go_wp2_with fail
 go_loopw [3,14] (fun x3 x14 wr=>∃(k n:Nat) (A':Option Addr) (c':Nat),k≤m∧x14= .int .i64 (k:Int)∧x3= .slice A' n c'∧n=(kb ((qt l).take (k+1))).length∧
  wr.ownsRow w.heap.size 5 1 (.slice A' n c') n (bv (kb ((qt l).take (k+1))))∧Below w.heap.size w wr) (fun _ i _=>m-(intOf i).toNat)
 case atStart=>exact⟨0,_,A1,c1,qj _,rfl,rfl,rfl,HO1.out,HB1.out⟩
 case round =>
  clear HO1 HB1
  obtain⟨k,n,A',c',hk,rfl,rfl,hnl,hown,hb⟩:=hrel
  have HNL:=qa hnl
  have HO:=qa hown
  have HB:=qa hb
  have hsz:=hb.size
  have hnb:n≤4200*4096:=by have:=HBL.out (k+1) (by omega);omega
  clear hnl hown hb
  by_cases hlt:k<m
  ·
   have ik:(k:Int)<(m:Int):=by omega
   have HN2:=HN.out
   have hk1:k<l.length:=by omega
   have hk2:k+1<l.length:=by omega
   clear HN2
   have hr1:=(H.out.below HB.out (qc _)).str hk1
   have hr2:=(H.out.below HB.out (qc _)).str hk2
   obtain⟨b',off',e1,_,_,hcell1⟩:=hr1
   injection e1 with e1
   injection e1 with e1 e2
   subst e1 e2
   obtain⟨b',off',e1,_,_,hcell2⟩:=hr2
   injection e1 with e1
   injection e1 with e1 e2
   subst e1 e2
   have z1:=H1.out k hk1
   have z2:=H1.out (k+1) hk2
   have HSS:=qa (HST.out k hk1 hk2)
   generalize l[k]=x at *
   generalize l[k+1]=y at *
   have hcell3:wr.cell? ⟨b,off+1+k,none⟩=some (.string y):=by rw[show off+1+k=off+(k+1) by omega];exact hcell2
   have HAL:=qa (fun w=>alike_any (w:=w) x y (by omega) (by omega))
   have hsh:=(qh5 x.data.toList y.data.toList).2
   rw[qgp] at hsh
   generalize yv x.data.toList y.data.toList=q at *
   have hte:=tailD y q
   have htz:=tailD_size y q
   go_wp2_with fail
   refine(HAL.out _).mono ?_
   rintro r w2 ⟨rfl,mq,rfl⟩
   have HO2:=qa (jw (w':=wr.drewN mq) HO.out (fun _ _=>rfl))
   have HB2:Hid (Below w.heap.size w (wr.drewN mq)):=js HB.out mq
   clear HO HB hcell1 hcell2 hcell3
   go_wp2_with fail
   refine(qcf q (by omega)).mono ?_
   rintro r w3 ⟨A3,c3,rfl,hown3,hb3⟩
   have hp9:=kt q (by omega)
   obtain⟨us,hus⟩:∃us,kb ((qt l).take (k+1))++jc q=us:=⟨_,rfl⟩
   have hul:us.length=n+(jc q).length:=by rw[←hus,qd,←HNL.out]
   have ho3:=ji HO2.out hb3 (qc _)
   rw[HNL.out] at ho3
   have hsz3:w.heap.size≤w3.heap.size:=zc hsz hb3.size
   obtain⟨A4,c4,w4,hrun4,hown4,hg4⟩:=xm w3 w.heap.size _ _ (jc q) us hus ho3 (Rd.of_own hown3) (by rw[←HNL.out];omega) hsz3
   rw[←HNL.out] at hrun4
   have hb4:Below w.heap.size w w4:=(zz HB2.out hb3 hsz).grown hg4 hsz3 (fun g hg=>(zk ho3 hg).1)
   have HO4:=qa hown4
   have HB4:=qa hb4
   have hub:us.length≤4200*4096+9:=by omega
   have HUS:=qa hus
   have hsz4:=hb4.size
   clear hown3 hb3 ho3 hown4 hg4 hb4 HO2 HB2 hul hus
   go_wp2_with (at_builtin;refine wpList_append_run rfl _ _ _ _ rfl rfl rfl hrun4 ?_;refine qbj ?_)
   refine⟨?_⟩
   clear hrun4
   go_wp2_with fail
   refine(qge (y.extract q y.size) (by omega)).mono ?_
   rintro r w5 ⟨A5,c5,rfl,hown5,hb5⟩
   have htl:(vh (y.extract q y.size).data.toList).length≤4200:=by
    rw[vh,qd,qgp]
    have:=kt (y.extract q y.size).size (by omega)
    omega
   obtain⟨T,hT⟩:∃T,vh (y.extract q y.size).data.toList=T:=⟨_,rfl⟩
   rw[hT] at hown5 htl ⊢
   rw[hte] at hT
   obtain⟨vs,hvs⟩:∃vs,us++T=vs:=⟨_,rfl⟩
   have ho5:=ji HO4.out hb5 (qc _)
   have hsz5:w.heap.size≤w5.heap.size:=zc hsz4 hb5.size
   obtain⟨A6,c6,w6,hrun6,hown6,hg6⟩:=xm w5 w.heap.size _ _ _ vs hvs ho5 (Rd.of_own hown5) (by omega) hsz5
   have hb6:Below w.heap.size w w6:=(zz HB4.out hb5 hsz4).grown hg6 hsz5 (fun g hg=>(zk ho5 hg).1)
   have hfin:kb ((qt l).take (k+1+1))=vs:=by
    rw[←hvs,←hT,←HUS.out,qm]
    exact HSS.out
   have HO6:=qa hown6
   have HB6:=qa hb6
   have HF:=qa hfin
   clear hown5 hb5 ho5 hown6 hg6 hb6 HO4 HB4 hvs htl hfin hte htz hT
   generalize y.extract q y.size=ye at *
   go_wp2_with (at_builtin;refine wpList_append_run rfl _ _ _ _ rfl rfl rfl hrun6 ?_;refine qbj ?_)
   refine⟨?_⟩
   clear hrun6
   go_wp2_with fail
   go_roundw
   case rel=>exact⟨k+1,vs.length,A6,c6,by omega,by go_num,rfl,by rw[HF.out],by rw[HF.out];exact HO6.out,HB6.out⟩
   case measure=>simp[intOf];omega
  ·
   obtain rfl:k=m:=by omega
   have HO2:=HO.out
   have HNL2:=HNL.out
   rw[HEND.out] at HO2 HNL2
   have HO3:=qa HO2
   have HN3:=qa HNL2
   clear HO2 HNL2
   go_wp2_with fail
   go_ret
   exact⟨A',c',by rw[←HN3.out];rfl,by rw[←HN3.out];exact HO3.out,HB.out⟩
theorem fcode_any{w:World}(l:List ByteArray){m:Nat}(hn:l.length=m+1)(hm4:m+1≤4096){c:Nat}{A:Option Addr}(h:Rd w 0 w.heap.size A c (sv l))(h4:∀s∈l,s.size≤4096) :
  Calls Tryz.prog 227 #[.slice A (m+1) c] w fun r w'=>∃A' c',r= .returned (.slice A' (kb (qt l)).length c')∧
   w'.ownsRow w.heap.size 5 1 (.slice A' (kb (qt l)).length c') (kb (qt l)).length (bv (kb (qt l)))∧Below w.heap.size w w':=by
 rcases jh m with rfl | hp
 ·
  match l,hn with
  | [x],_ =>
   have e:kb (qt [x])=vh x.data.toList:=by simp[qt,kb,qb5]
   rw[e]
   exact fcode_one x (h4 x zr) h
 ·
  exact fcode_more l hn hp hm4 h h4
theorem zero_size(z:Value)(n:Nat)(h:z.cells.size=1):(Builtin.zeroCells z.cells n).size=n:=by simp[Builtin.zeroCells,h]
theorem sgrow_any{w:World}(n:Nat)(h0:0<n)(h1:n≤100000000000000) :
  Calls Tryz.prog 154 #[.slice none 0 0,.int .i64 (n:Int)] w fun r w'=>∃A c,r= .returned (.slice A 0 c)∧w'.ownsRow w.heap.size 5 1 (.slice A 0 c) 0 []∧Below w.heap.size w w':=by
 obtain⟨i0,hi0,hz0,hz1,hz2⟩:=info_parts Tryz.infoU8
 have hc1:=grownCap_le_maxLen w n 0 5 (by unfold maxLen;omega)
 have hc2:=grownCap_ge w n 0 5
 have hrun:=fun ty=>Lib.run_append_nil_zeros (P:=Tryz.prog) w 36 3 ty 5 i0 (.int .u8 0) .i64 .i64 Tryz.underlying36 Tryz.underlying3 hi0 hz0 n h0 (by omega) (by omega) (by rw[hz2];omega)
 have hown:(w.drew.alloc (.cells (Builtin.zeroCells (Value.int .u8 0).cells n++Builtin.zeroCells (Value.int .u8 0).cells (grownCap w n 0 5-n)) 5)).ownsRow w.heap.size 5 1 (.slice (some ⟨w.heap.size,0,none⟩) 0 (grownCap w n 0 5)) 0 []:=by
  have:=World.ownsRow_made (e:=5) (size:=1) (base:=w.heap.size) w.drew (Builtin.zeroCells (Value.int .u8 0).cells n++Builtin.zeroCells (Value.int .u8 0).cells (grownCap w n 0 5-n)) (grownCap w n 0 5) (qc _) hc1 (by rw[Array.size_append,zero_size _ _ rfl,zero_size _ _ rfl];omega)
  exact this
 have hbel:Below w.heap.size w (w.drew.alloc (.cells (Builtin.zeroCells (Value.int .u8 0).cells n++Builtin.zeroCells (Value.int .u8 0).cells (grownCap w n 0 5-n)) 5)):=(js (Below.refl _ w) 1).alloc (qc _) _
 unfold maxLen at hc1
 generalize grownCap w n 0 5=G at *
 generalize w.drew.alloc (.cells (Builtin.zeroCells (Value.int .u8 0).cells n++Builtin.zeroCells (Value.int .u8 0).cells (G-n)) 5)=w1 at *
 have HO:=qa hown
 have HB:=qa hbel
 have HRUN:=qa hrun
 have i1:¬(n:Int)<0:=by omega
 have i2:(0:Int)<(n:Int):=by omega
 clear hown hbel hrun
 go_enter Tryz.func154,Tryz.ntmps154
 go_wp2_with (at_builtin;refine Lib.wpList_append_run _ rfl _ _ _ _ rfl _ _ rfl rfl _ _ (HRUN.out _) ?_)
 go_ret
 exact⟨_,_,rfl,HO.out,HB.out⟩
theorem partsL_len(ps:List Part){k:Nat}(hk:k≤ps.length):(yg (ps.take k)).length≤(yg ps).length:=by
 have:yg ps=yg (ps.take k)++yg (ps.drop k):=by unfold yg;rw[←qbm,zw]
 rw[this,qd]
 omega
theorem qmg{w:World}(ps:List Part){A:Option Addr}{c:Nat}(h:Rd w 0 w.heap.size A c (ps.map Part.val))(hp:∀p∈ps,p.rd w w.heap.size)(h0:0<(yg ps).length)(h1:(yg ps).length≤100000000000000) :
  Calls Tryz.prog 109 #[.slice A ps.length c] w fun r w'=>∃A' c',r= .returned (.slice A' (yg ps).length c')∧w'.ownsRow w.heap.size 5 1 (.slice A' (yg ps).length c') (yg ps).length (bv (yg ps))∧Below w.heap.size w w':=by
 have hl:=h.len
 have hm:=h.cap
 rw[qz] at hl
 unfold maxLen at hm
 have H:=qa h
 have HP:=qa hp
 have HTK:Hid (∀k (hk:k<ps.length),yg (ps.take (k+1))=yg (ps.take k)++ps[k].bs):=fun k hk=>qml ps hk
 have HLE:Hid (∀k,k≤ps.length→(yg (ps.take k)).length≤(yg ps).length):=fun k hk=>partsL_len ps hk
 have HALL:Hid (yg (ps.take ps.length)=yg ps):=by unfold Hid;rw[yo]
 generalize (yg ps)=T at *
 obtain⟨N,hN⟩:∃N,T.length=N:=⟨_,rfl⟩
 have HN:=qa hN
 rw[hN] at h0 h1 HLE
 clear h hp hN
 go_enter Tryz.func109,Tryz.ntmps109
 go_wp2_with fail
 go_loop [3,11] (fun x3 x11=>∃k q:Nat,k≤ps.length∧x11= .int .i64 (k:Int)∧x3= .int .i64 (q:Int)∧q=(yg (ps.take k)).length) (fun _ i=>ps.length-(intOf i).toNat)
 case atStart=>exact⟨0,0,qj _,rfl,rfl,rfl⟩
 case round =>
  obtain⟨k,q,hk,rfl,rfl,hq⟩:=hrel
  have HQ:=qa hq
  clear hq
  by_cases hlt:k<ps.length
  ·
   have ik:(k:Int)<(ps.length:Int):=by omega
   obtain⟨b,off,rfl,_,_,hcell⟩:=H.out.get (k:=k) (by rw[qz];exact hlt)
   rw[j5] at hcell
   have hle:=HLE.out (k+1) (by omega)
   have HT:=qa (HTK.out k hlt)
   have e:=HT.out
   rw[e,qd,←HQ.out] at hle
   have hql:Hid ((yg (ps.take (k+1))).length=q+ps[k].bs.length):=by unfold Hid;rw[e,qd,←HQ.out]
   clear e HT HTK HLE
   generalize ps[k]=p at *
   obtain⟨A1,c1,bs⟩:=p
   unfold Part.val at hcell
   dsimp only at hcell hle hql
   have w1:IntKind.i64.wrap ((q:Int)+(bs.length:Int))=((q+bs.length:Nat):Int):=(xa _ (by omega)).trans (by omega)
   have n1:¬((q+bs.length:Nat):Int)<0:=by omega
   go_wp2_with fail
   go_round
   case rel=>exact⟨k+1,q+bs.length,by omega,by go_num,by go_num,hql.out.symm⟩
   case measure=>simp[intOf];omega
  ·
   obtain rfl:k=ps.length:=by omega
   have hqN:q=N:=by rw[HQ.out,HALL.out,HN.out]
   subst hqN
   go_wp2_with fail
   refine(sgrow_any q h0 h1).mono ?_
   rintro r w1 ⟨A1,c1,rfl,hown1,hb1⟩
   have HO1:=qa hown1
   have HB1:=qa hb1
   clear hown1 hb1
   go_wp2_with fail
   go_loopw [6,27] (fun x6 x27 wr=>∃(k n:Nat) (A':Option Addr) (c':Nat),k≤ps.length∧x27= .int .i64 (k:Int)∧x6= .slice A' n c'∧n=(yg (ps.take k)).length∧
    wr.ownsRow w.heap.size 5 1 (.slice A' n c') n (bv (yg (ps.take k)))∧Below w.heap.size w wr) (fun _ i _=>ps.length-(intOf i).toNat)
   case atStart=>exact⟨0,0,A1,c1,qj _,rfl,rfl,rfl,HO1.out,HB1.out⟩
   case round =>
    clear HO1 HB1 HQ
    obtain⟨k,n,A',c',hk2,rfl,rfl,hn,hown,hb⟩:=hrel
    have HNN:=qa hn
    have HO:=qa hown
    have HB:=qa hb
    have hsz:=hb.size
    clear hn hown hb
    by_cases hlt:k<ps.length
    ·
     have ik:(k:Int)<(ps.length:Int):=by omega
     obtain⟨b,off,rfl,_,_,hcell⟩:=(H.out.below HB.out (qc _)).get (k:=k) (by rw[qz];exact hlt)
     rw[j5] at hcell
     have hle:=HLE.out (k+1) (by omega)
     have hr:=(HP.out ps[k] (ql hlt)).below HB.out (qc _)
     have e:=HTK.out k hlt
     rw[e,qd,←HNN.out] at hle
     have ho:=HO.out
     rw[HNN.out] at ho
     obtain⟨A2,c2,w2,hrun2,hown2,hg2⟩:=xm wr w.heap.size _ _ ps[k].bs (yg (ps.take (k+1))) e.symm ho hr (by rw[←HNN.out];omega) hsz
     rw[←HNN.out] at hrun2
     obtain⟨us,hus⟩:∃us,yg (ps.take (k+1))=us:=⟨_,rfl⟩
     rw[hus] at hrun2 hown2 e
     have HUS:=qa hus
     have HO2:=qa hown2
     have HB2:=qa (HB.out.grown hg2 hsz (fun g hg=>(zk ho hg).1))
     clear hown2 hg2 ho hr e hus HO HB HLE HTK
     generalize ps[k]=p at *
     obtain⟨A1,c1,bs⟩:=p
     unfold Part.val at hcell
     dsimp only at hcell hle hrun2
     go_wp2_with (at_builtin;refine wpList_append_run rfl _ _ _ _ rfl rfl rfl hrun2 ?_;refine qbj ?_)
     refine⟨?_⟩
     clear hrun2
     go_wp2_with fail
     go_roundw
     case rel=>exact⟨k+1,us.length,A2,c2,by omega,by go_num,rfl,by rw[HUS.out],by rw[HUS.out];exact HO2.out,HB2.out⟩
     case measure=>simp[intOf];omega
    ·
     obtain rfl:k=ps.length:=by omega
     have hnn:=HNN.out
     have ho:=HO.out
     rw[HALL.out] at hnn ho
     have HNF:=qa hnn
     have HOF:=qa ho
     clear hnn ho
     go_wp2_with fail
     go_ret
     exact⟨A',c',by rw[←HNF.out];rfl,by rw[←HNF.out];exact HOF.out,HB.out⟩
section
open Go.RowKit Go.Shelf
attribute [local go_sem] Oper.semAt_some
structure Ck (K n:Nat) where
 i:Nat
 h:i*K<n
def ckF(K n:Nat):Nat→Nat→List (Ck K n)
 | 0,_=>[]
 | f+1,i=>if h:i*K<n then ⟨i,h⟩ :: ckF K n f (i+1) else []
def cks(K n i:Nat):List (Ck K n):=ckF K n (n-i) i
theorem cks_in{K n i:Nat}(hK:1≤K)(h:i*K<n):cks K n i=⟨i,h⟩ :: cks K n (i+1):=by
 have h1:i≤i*K:=Nat.le_mul_of_pos_right _ (by omega)
 unfold cks
 rw[show n-i=(n-(i+1))+1 by omega,ckF,dif_pos h]
theorem ckF_out{K n:Nat}:∀(f i:Nat),¬i*K<n→ckF K n f i=[]
 | 0,_,_=>rfl
 | f+1,i,h=>by rw[ckF,dif_neg h]
theorem cks_out{K n i:Nat}(h:¬i*K<n):cks K n i=[]:=ckF_out _ _ h
theorem ckF_len{K n:Nat}:∀(f i:Nat),(ckF K n f i).length≤f
 | 0,_=>qc _
 | f+1,i=>by
  rw[ckF]
  split
  ·
   rw[qo];have:=ckF_len (K:=K) (n:=n) f (i+1);omega
  ·
   simp
theorem cks_len(K n:Nat):(cks K n 0).length≤n:=ckF_len _ _
theorem cks_map{K:Nat}(hK:1≤K)(L:List (List UInt8)):∀(m i:Nat),(∀q,q<i+m→q*K<L.length)→L.length≤(i+m)*K→(cks K L.length i).map (fun x=>(L.drop (x.i*K)).take K)=qhq K L i m
 | 0,i,_,h=>by
  rw[cks_out (by rw[y7] at h;omega)]
  rfl
 | m+1,i,h,h2=>by
  have hi:=h i (by omega)
  rw[cks_in hK hi,y8,cks_map hK L m (i+1) (fun q hq=>h q (by omega)) (by rw[show i+1+m=i+(m+1) by omega];exact h2),ql6]
theorem cks_all{K:Nat}(hK:1≤K)(L:List (List UInt8)):(cks K L.length 0).map (fun x=>(L.drop (x.i*K)).take K)=qhq K L 0 (vz L.length K) :=
 cks_map hK L _ _ (fun q hq=>qg7 hK (by omega)) (by rw[yk];exact qi9 hK)
def chunkV(Bs Bn:Nat):Array Value:=#[.pointer (some ⟨Bs,0,none⟩),.pointer (some ⟨Bn,0,none⟩)]
def ckN(K n i:Nat):Nat:=min K (n-i*K)
def encCk(b off:Nat){K n:Nat}(x:Ck K n):Array Value:=#[.slice (some ⟨b,off+x.i*K,none⟩) (ckN K n x.i) (ckN K n x.i)]
set_option maxRecDepth 100000 in
set_option maxHeartbeats 4000000 in
theorem chunk1_in(n:Nat)(hn:1≤n)(lp Bs Bn n₀:Nat)(N K:Nat)(hK:1≤K)(hK2:K≤64)(hN:N≤1000000){c b off:Nat}{A:Option Addr}(J Jx:List (Ck K N)→World→Prop)(hc:N≤c)(hc2:c≤9223372036854775807)
  (hA:0<N→A=some ⟨b,off,none⟩) (W:World) (hJ:∀pre W0 m,J pre W0→J pre (W0.drewN m))
  (hY:∀pre x W,J pre W→pre.length<N→YieldAt Fence.wide (n-1) Tryz.prog lp (encCk b off x) W fun e W' =>
   (e= .returned (.bool true)∧J (pre++[x]) W'∧Kp2 n₀ Bs Bn W W')∨(e= .returned (.bool false)∧Jx (pre++[x]) W'))
  (hBs:W.cell? ⟨Bs,0,none⟩=some (.slice A N c)) (hBn:W.cell? ⟨Bn,0,none⟩=some (.int .i64 (K:Int))) (h0:J [] W) :
  CallsIn Fence.wide n Tryz.prog 242 #[.func (.yield lp) #[] #[],.pointer (some ⟨Bs,0,none⟩),.pointer (some ⟨Bn,0,none⟩)] W fun e W'=>(∃v,e= .returned v)∧
   ((∃ys,ys=cks K N 0∧J ys W')∨(∃pre,pre <+: cks K N 0∧Jx pre W')):=by
 have hro:Fence.wide.round=none:=rfl
 have HY:=qa hY
 have HJ:=qa hJ
 obtain⟨all,hall⟩:∃all,cks K N 0=all:=⟨_,rfl⟩
 have HLEN:Hid (all.length≤N):=by unfold Hid;rw[←hall];exact cks_len K N
 rw[hall]
 have HALL:=qa hall
 clear hY hJ hall
 refine callsIn_of_wp Tryz.func242 rfl trivial ?_ hro
 simp only[Tryz.ntmps242,qcn,qo,jy,Nat.reduceAdd,Nat.reduceSub,qcr,qcq,List.push_toArray,qdm,xu,z7]
 gi_wp2
 gi_loopw [4] (fun x4 wr=>∃(i p:Nat) (pre:List (Ck K N)),p=i*K∧x4= .int .i64 (p:Int)∧p<N+64∧pre++cks K N i=all∧J pre wr∧Kp2 n₀ Bs Bn W wr) (fun x4 _=>N+64-(intOf x4).toNat)
 case atStart=>exact⟨0,0,[],by rw[Nat.zero_mul],rfl,by omega,HALL.out,h0,Kp2.refl _ _ _ _⟩
 case round =>
  obtain⟨i,p,pre,hp,rfl,hpN,hpre,hJs,hkp⟩:=hrel
  have HPRE:=qa hpre
  have HKP:=qa hkp
  have HP:=qa hp
  have hcs:wr.cell? ⟨Bs,0,none⟩=some (.slice A N c):=hkp.cellb.trans hBs
  have hcn:wr.cell? ⟨Bn,0,none⟩=some (.int .i64 (K:Int)):=hkp.cellt.trans hBn
  clear hpre hkp hp
  by_cases hlt:p<N
  ·
   have ip:(p:Int)<(N:Int):=by omega
   have hAA:=hA (by omega)
   have hiK:i*K<N:=by rw[←HP.out];exact hlt
   have hpc:=HPRE.out
   rw[cks_in hK hiK] at hpc
   have hpl:pre.length<N:=by
    have:=HLEN.out
    rw[←hpc,qd,qo] at this
    omega
   obtain⟨e,he⟩:∃e,min K (N-p)=e:=⟨_,rfl⟩
   have hck:ckN K N i=e:=by rw[ckN,←HP.out,he]
   have he1:e≤K:=by omega
   have he2:p+e≤N:=by omega
   have hmin:min (K:Int) ((N-p:Nat):Int)=(e:Int):=by omega
   have hmin2:min (K:Int) ((N:Int)-(p:Int))=(e:Int):=by omega
   have hYY:=fun W1 hJ1=>HY.out pre ⟨i,hiK⟩ W1 hJ1 hpl
   unfold encCk at hYY
   dsimp only at hYY
   rw[hck,←HP.out] at hYY
   have HYY:=qa hYY
   have HPC:=qa hpc
   have hpn:Hid ((i+1)*K=p+K):=by unfold Hid;rw[Nat.add_mul,qa5,HP.out]
   have hcp:¬c-p=0:=by omega
   have hcp2:¬c≤p:=by omega
   have hcp3:¬c=p:=by omega
   have hw1:IntKind.i64.wrap ((p:Int)+(e:Int))=((p+e:Nat):Int):=(xa _ (by omega)).trans (by omega)
   have hw2:IntKind.i64.wrap ((p:Int)+(K:Int))=((p+K:Nat):Int):=(xa _ (by omega)).trans (by omega)
   clear hpc hYY hck he HY
   subst hAA
   gi_wp2
   refine wpIn_wide.2 ?_
   go_quiet (fail)
   obtain⟨fn,tmps,assign,body,hy,hR⟩:=HYY.out (wr.drewN nq) (HJ.out _ _ _ hJs)
   gi_wp2
   refine hR.mono ?_
   rintro e3 W3 (⟨rfl,hJ3,hk3⟩ | ⟨rfl,hJx3⟩)
   ·
    have hcn3:W3.cell? ⟨Bn,0,none⟩=some (.int .i64 (K:Int)):=hk3.cellt.trans hcn
    gi_wp2
    go_roundw
    case rel=>exact⟨i+1,p+K,pre++[⟨i,hiK⟩],hpn.out.symm,by go_num,by omega,by rw[qm,yw];exact HPC.out,hJ3,(HKP.out.trans ⟨js (Below.refl _ _) nq,rfl,rfl⟩).trans hk3⟩
    case measure=>simp[intOf];omega
   ·
    gi_wp2
    refine bodyPost_ret (results_none rfl _ _ _) rfl ?_
    exact⟨⟨_,rfl⟩,.inr ⟨_,⟨cks K N (i+1),by rw[qm,yw];exact HPC.out⟩,hJx3⟩⟩
  ·
   have ip:¬(p:Int)<(N:Int):=by omega
   have hpc:=HPRE.out
   rw[cks_out (by rw[←HP.out];exact hlt),jd] at hpc
   gi_wp2
   go_end0
   exact⟨⟨_,rfl⟩,.inl (hpc ▸ hJs)⟩
set_option maxRecDepth 100000 in
set_option maxHeartbeats 1000000 in
theorem chunk_in(n:Nat)(A:Option Addr)(k c K:Nat)(hK:1≤K)(w:World) :
  CallsIn Fence.wide n Tryz.prog 226 #[.slice A k c,.int .i64 (K:Int)] w fun e w'=>e= .returned (.func (.func 242) #[] (chunkV w.heap.size (w.heap.size+1)))∧w'=(w.alloc (.cells #[.slice A k c] 52)).alloc (.cells #[.int .i64 (K:Int)] 3):=by
 refine callsIn_of_wp Tryz.func226 rfl trivial ?_ rfl
 simp only[Tryz.ntmps226,qcn,qo,jy,Nat.reduceAdd,Nat.reduceSub,qcr,qcq,List.push_toArray,qdm,xu,z7]
 have i1:¬(K:Int)<1:=by omega
 gi_wp2
 go_ret
 exact⟨rfl,rfl⟩
theorem chunk_stops(n:Nat)(hn:1≤n)(Bs Bn n₀:Nat)(N K:Nat)(hK:1≤K)(hK2:K≤64)(hN:N≤1000000){c b off:Nat}{A:Option Addr}(hc:N≤c)(hc2:c≤9223372036854775807)
  (hA:0<N→A=some ⟨b,off,none⟩) (w:World) (hBs:Boxed w Bs 52 (.slice A N c)) (hBn:Boxed w Bn 3 (.int .i64 (K:Int))) :
  SeqStopsK Fence.wide n Tryz.prog 242 (chunkV Bs Bn) (encCk (K:=K) (n:=N) b off) (Kp2 n₀ Bs Bn) (fun ys=>ys=cks K N 0) (fun pre=>pre <+: cks K N 0) N w:=fun lp J Jx W hW hJ _ hY h0 =>
 chunk1_in n hn lp Bs Bn n₀ N K hK hK2 hN J Jx hc hc2 hA W (fun pre W0 m h=>hJ pre W0 _ none h (qak (yx _ _) m) (fun r e=>by cases e)) hY ((hW.cell (p:=⟨Bs,0,none⟩) hBs.lt).trans hBs.cell) ((hW.cell (p:=⟨Bn,0,none⟩) hBn.lt).trans hBn.cell) h0
end
end Go.Proofs.YtjfecojdagmacaaGreat
