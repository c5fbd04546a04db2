/-
  Lemmas.
-/
import Derived.Test.YtnjkipnklpkaoaaGreatA43
namespace Go.Proofs.YtnjkipnklpkaoaaGreat
open Go.RowKit
set_option maxRecDepth 20000
set_option maxHeartbeats 16000000
set_option linter.unusedSimpArgs false
set_option linter.unusedVariables false
section
open Go.RowKit Go.Maps Go.WideMaps
theorem bag_snoc(T:List (List UInt8)){S:List (List UInt8)}{k:Nat}(hk:k<S.length):qfl T (S.take (k+1))=qfl T (S.take k)++qaf T [] S[k]:=by
 unfold qfl
 rw[qg hk,List.flatMap_append,List.flatMap_singleton]
theorem bag_take(T:List (List UInt8)){S:List (List UInt8)}(h:∀s∈S,s.length≤100000):∀k,k≤S.length→(qfl T (S.take k)).length≤200000*k
 | 0,_=>by simp[qfl]
 | k+1,hk=>by
  have:=bag_take T h k (by omega)
  have h2:=pieces_len T S[k] []
  have h3:=h _ (qj (show k<S.length by omega))
  rw[bag_snoc T (by omega),qd]
  omega
theorem round_any{w:World}(T S:List ByteArray){c d:Nat}{A B:Option Addr}(h:Rd w 0 w.heap.size A c (sv T))(hr:yy (qm T)=true)(hS:Rd w 0 w.heap.size B d (sv S))(hSl:S.length≤400)(hSb:∀s∈S,s.size≤100000) :
  Calls Tryz.prog 229 #[.slice A T.length c,.slice B S.length d] w fun r w'=>∃t A' c',r= .returned (.slice A' t.length c')∧qfh (qfl (qm T) (qm S)) t∧w'.ownsRow w.heap.size 9 1 (.slice A' t.length c') t.length (sv (j7 t))∧Below w.heap.size w w':=by
 have H:=qa h
 have HR:=qa hr
 have HS:=qa hS
 have hl2:=hS.len
 have hm2:=hS.cap
 rw[yg] at hl2
 unfold maxLen at hm2
 have HSB:Hid (∀k (hk:k<S.length),S[k].size≤100000):=fun k hk=>hSb _ (qj hk)
 have HBL:Hid ((qm S).length=S.length):=qx S
 have HBG:Hid (∀k,k≤S.length→(qfl (qm T) ((qm S).take k)).length≤200000*k):=fun k hk=>bag_take _ (fun s hs=>by
  obtain⟨u,hu,rfl⟩:=zn.1 hs
  rw[qgq]
  exact hSb u hu) k (by rw[HBL.out];exact hk)
 have HOK:Hid (∀x∈qfl (qm T) (qm S),x.length≤8):=fun x hx=>bag_ok (uy.1 hr).2.1 hx
 clear h hr hS hSb
 have hmm:=@run_makeMap Tryz.prog
 go_enter Tryz.func229,Tryz.ntmps229
 go_wp2_with fail
 go_loopw [11] (fun x11 wr=>∃(k n1:Nat) (D1:DataW Unit),k≤S.length∧x11= .int .i64 (k:Int)∧qoj wr w.heap.size n1 D1∧n1≤200000*k∧Bag D1 (qfl (qm T) ((qm S).take k))∧Below w.heap.size w wr) (fun i _=>S.length-(intOf i).toNat)
 case atStart=>exact⟨0,0,.map [],qi _,rfl,World.ownsMap_made _ _ _ _,qi _,Bag.nil,(Below.refl _ _).alloc (qc _) _⟩
 case round =>
  obtain⟨k,n1,D1,hk,rfl,hm1,hn1,hd1,hb⟩:=hrel
  have HM:=qa hm1
  have HD:=qa hd1
  have HB:=qa hb
  have hsz:=hb.size
  clear hm1 hd1 hb hmm
  by_cases hlt:k<S.length
  ·
   obtain⟨b,off,rfl, -, -,hcell⟩:=(HS.out.below HB.out (qc _)).str hlt
   have hs1:=HSB.out k hlt
   have HPC:Hid (qfl (qm T) ((qm S).take (k+1))=qfl (qm T) ((qm S).take k)++qaf (qm T) [] S[k].data.toList):=by
    unfold Hid
    rw[bag_snoc _ (by rw[HBL.out];exact hlt)]
    unfold qm
    rw[yz]
   have hq:=HBG.out k hk
   have HCN:=qa (tcount_any (w:=wr) T S[k] (H.out.below HB.out (qc _)) HR.out (by omega) HM.out HD.out (by omega) (by omega) (qc _) hsz)
   rw[←HPC.out] at HCN
   generalize S[k]=s at *
   go_wp2_with fail
   refine HCN.out.mono ?_
   rintro r w2 ⟨rfl,n2,D2,hm2,hn2,hd2,ho2⟩
   have HM2:=qa hm2
   have HD2:=qa hd2
   have HB2:Hid (Below w.heap.size w w2):=HB.out.trans (ho2.below hsz (fun k hk=>by rw[hk];exact qc _))
   clear hm2 hd2 ho2
   go_wp2_with fail
   go_roundw
   case rel=>exact⟨k+1,n2,D2,by omega,by go_num,HM2.out,by omega,HD2.out,HB2.out⟩
   case measure=>simp[intOf];omega
  ·
   obtain rfl:k=S.length:=by omega
   have HT:Hid ((qm S).take S.length=qm S):=qo (by rw[HBL.out];exact qc _)
   have hq:=HBG.out _ hk
   have HBS:=qa (best_any (w:=wr) HM.out HD.out (by omega) (by rw[HT.out];exact HOK.out))
   rw[HT.out] at HBS
   go_wp2_with fail
   refine HBS.out.mono ?_
   rintro r w2 ⟨t,A2,c2,rfl,hrd,ho2,hb2⟩
   have HRD:=qa hrd
   have HO2:=qa (j4 ho2 hsz)
   have HB2:=qa (qz HB.out hb2 hsz)
   clear hrd ho2 hb2
   go_wp2_with fail
   go_ret
   exact⟨t,A2,c2,rfl,HRD.out,HO2.out,HB2.out⟩
theorem qa8.right{S:List (List UInt8)}:∀ {k:Nat} {t:List (List UInt8)},qa8 S k t→yy t=true
 | 0,t,h=>by
  obtain rfl:t=[]:=h
  rfl
 | k+1,t,⟨u,_,b,_,h⟩=>h.right
theorem train_any{w:World}(S:List ByteArray)(N:Int){d:Nat}{B:Option Addr}(hS:Rd w 0 w.heap.size B d (sv S))(hSl:S.length≤400)(hSb:∀s∈S,s.size≤100000)(hN : -9223372036854775808≤N∧N≤9223372036854775807) :
  Calls Tryz.prog 209 #[.slice B S.length d,.int .i64 N] w fun r w'=>∃t A' c',r= .returned (.slice A' t.length c')∧qa8 (qm S) (qb8 N) t∧w'.ownsRow w.heap.size 9 1 (.slice A' t.length c') t.length (sv (j7 t))∧Below w.heap.size w w':=by
 have HS:=qa hS
 have HSB:=qa hSb
 clear hS hSb
 obtain⟨R,hR⟩:∃R,qb8 N=R:=⟨_,rfl⟩
 rw[hR]
 obtain⟨M,hM⟩:∃M:Int,min N 8=M:=⟨_,rfl⟩
 have hMR:M≤0∧R=0∨M=(R:Int)∧R≤8:=by
  rw[←hR]
  unfold qb8
  split <;> omega
 have hM2:M≤8:=by omega
 clear hR
 go_enter Tryz.func209,Tryz.ntmps209
 go_wp2_with fail
 go_loopw [5,8] (fun x5 x8 wr=>∃(i:Nat) (t:List (List UInt8)) (A':Option Addr) (c':Nat),i≤R∧x8= .int .i64 (i:Int)∧x5= .slice A' t.length c'∧qa8 (qm S) i t∧wr.ownsRow w.heap.size 9 1 (.slice A' t.length c') t.length (sv (j7 t))∧Below w.heap.size w wr) (fun _ x8 _=>8-(intOf x8).toNat)
 case atStart=>exact⟨0,[],none,0,qi _,rfl,rfl,rfl,zh _ _ _ _,Below.refl _ _⟩
 case round =>
  obtain⟨i,t,A',c',hi,rfl,rfl,htr,hown,hb⟩:=hrel
  have HT:=qa htr
  have HO:=qa hown
  have HB:=qa hb
  have hsz:=hb.size
  clear htr hown hb
  by_cases hiM:(i:Int)<M
  ·
   have hgo:i+1≤R:=by omega
   have hi8:i<8:=by omega
   have hr1:=(Rd.own HO.out).wide (qi _) (qc _)
   have hbt:=ue t
   have hsl:=yo t
   have HRN:=qa (round_any (w:=wr) (j7 t) S (c:=c') (d:=d) (A:=A') (B:=B) hr1 (by rw[hbt];exact HT.out.right) ((HS.out.below HB.out (qc _)).wide (qc _) hsz) hSl HSB.out)
   rw[hbt,hsl] at HRN
   clear hr1 hbt hsl hi
   go_wp2_with fail
   refine HRN.out.mono ?_
   rintro r w2 ⟨u,A2,c2,rfl,hrd,ho2,hb2⟩
   have HT2:Hid (qa8 (qm S) (i+1) u):=⟨t,HT.out,hrd⟩
   have HO2:=qa (j4 ho2 hsz)
   have HB2:Hid (Below w.heap.size w w2):=HB.out.trans (hb2.mono hsz)
   clear hrd ho2 hb2
   go_wp2_with fail
   go_roundw
   case rel=>exact⟨i+1,u,A2,c2,hgo,by go_num,rfl,HT2.out,HO2.out,HB2.out⟩
   case measure=>simp[intOf] <;> omega
  ·
   have hfin:Hid (i=R):=by unfold Hid;omega
   go_wp2_with fail
   go_ret
   exact⟨t,A',c',rfl,by rw[←hfin.out];exact HT.out,HO.out,HB.out⟩
end
theorem qqu(w:World)(base:Nat)(v:Value)(ys cs:List UInt8)(s:ByteArray)(hcs:ys++s.data.toList=cs)(hown:w.ownsRow base 5 1 v ys.length (bv ys))
  (hb:ys.length+s.size≤140737488355328) (hbase:base≤w.heap.size) :
  ∃A' c' w',(Builtin.append_ #[26,9] 26 #[v,.string s]).run Tryz.prog w= .ok (.slice A' cs.length c') w'∧
   w'.ownsRow base 5 1 (.slice A' cs.length c') cs.length (bv cs)∧w.grownBy w' v.ownBlock:=by
 subst hcs
 obtain⟨i0,hi0,hi1⟩:=uk.1 Tryz.infoU8
 injection hi1 with hz0 hz1
 injection hz1 with hz1 hz2
 obtain⟨A1,c1,w1,hrun,ho1,hg1, -⟩:=qll (P:=Tryz.prog) w base 26 9 26 5 i0 Tryz.underlying26 Tryz.underlying9 hi0 hz0 hz1 hz2 _ ys.length (bv ys) hown s hb hbase
 have hl:(ys++s.data.toList).length=ys.length+s.size:=by rw[qd,zy];rfl
 rw[hl,qj3]
 exact⟨A1,c1,w1,hrun,ho1,hg1⟩
theorem sput_yes{w:World}(l:List ByteArray){c:Nat}{A:Option Addr}(h:Rd w 0 w.heap.size A c (sv l))(hr:yy (qm l)=true) :
  Calls Tryz.prog 211 #[.slice A l.length c] w fun r w'=>∃A' c',r= .returned (.tuple #[.slice A' (qei (qm l)).length c',.int .i64 0])∧w'.ownsRow w.heap.size 5 1 (.slice A' (qei (qm l)).length c') (qei (qm l)).length (bv (qei (qm l)))∧Below w.heap.size w w':=by
 have hl:=h.len
 have hm:=h.cap
 rw[yg] at hl
 unfold maxLen at hm
 have hl5:l.length≤255:=by have:=(uy.1 hr).1;rw[qx] at this;exact this
 have h8:∀s∈l,s.size≤8:=fun s hs=>by
  have:=(uy.1 hr).2.1 s.data.toList (xq hs)
  have:=(qfu.1 this).2
  rw[zy] at this
  exact this
 have HR:=qa (sright_any l h fun s hs=>by have:=h8 s hs;omega)
 rw[hr] at HR
 have H:=qa h
 have H8:Hid (∀k (hk:k<l.length),l[k].size≤8):=fun k hk=>h8 _ (qj hk)
 have hb0:(UInt8.ofNat l.length).toNat=l.length:=by simp;omega
 have hlit:∀w:World,(w.alloc (.cells #[.int .u8 (l.length:Int)] 5)).ownsRow w.heap.size 5 1 (.slice (some ⟨w.heap.size,0,none⟩) 1 1) 1 (bv [UInt8.ofNat l.length]):=fun w=>by
  have:=vm (e:=5) (size:=1) (base:=w.heap.size) w #[.int .u8 (l.length:Int)] 1 (qc _) (by simp[maxLen]) (by simp)
  simpa[bv,hb0] using this
 have HL:=qa hlit
 clear h h8 hlit hb0 hr
 go_enter Tryz.func211,Tryz.ntmps211
 go_wp2_with fail
 refine HR.out.mono ?_
 rintro r w' ⟨rfl,m,rfl⟩
 have HB0:Hid (Below w.heap.size w ((w.drewN m).alloc (.cells #[.int .u8 (l.length:Int)] 5))):=(zg (Below.refl _ w) m).alloc (qc _) _
 clear HR
 go_wp2_with fail
 go_loopw [4,16] (fun x3 x4 wr=>∃(k:Nat) (ys:List UInt8) (A':Option Addr) (c':Nat),k≤l.length∧x4= .int .i64 (k:Int)∧x3= .slice A' ys.length c'∧ys.length≤1+9*k∧ys=UInt8.ofNat l.length :: ((qm l).take k).flatMap (fun s=>UInt8.ofNat s.length :: s)∧
  wr.ownsRow w.heap.size 5 1 (.slice A' ys.length c') ys.length (bv ys)∧Below w.heap.size w wr) (fun _ i _=>l.length-(intOf i).toNat)
 case atStart=>exact⟨0,[UInt8.ofNat l.length],_,_,qi _,rfl,rfl,by simp,by simp,HL.out _,HB0.out⟩
 case round =>
  clear HL HB0
  obtain⟨k,ys,A',c',hk,rfl,rfl,hyl,hys,hown,hb⟩:=hrel
  have HYS:=qa hys
  have HO:=qa hown
  have HB:=qa hb
  have hsz:=hb.size
  clear hys hown hb
  by_cases hlt:k<l.length
  ·
   have ik:(k:Int)<(l.length:Int):=by omega
   obtain⟨b,off,rfl,_,hbh,hcell⟩:=(H.out.below HB.out (qc _)).str hlt
   have hs8:=H8.out k hlt
   have HPT:=qa (put_take hlt)
   generalize l[k]=s at *
   have hbs:(UInt8.ofNat s.size).toNat=s.size:=by simp;omega
   have hsl:s.data.toList.length=s.size:=by rw[zy];rfl
   go_wp2_with (at_builtin;refine jab (v:= .slice A' ys.length c') w.heap.size ys (UInt8.ofNat s.size) rfl _ _ rfl rfl rfl rfl (by rw[hbs,za _ _ _ _ rfl];rfl) (HO.out.alloc _) (by omega) (by simp;omega) ?_;intro A2 c2 w2 ho2 hg2;refine qaz ?_)
   have hb2w:Below w.heap.size w w2:=(HB.out.alloc hsz _).grown hg2 (by simp;omega) (fun q hq=>(zk HO.out hq).1)
   have hsz2:=hb2w.size
   have hyl2:(ys++[UInt8.ofNat s.size]).length=ys.length+1:=by simp
   obtain⟨zs,hzs⟩:∃zs,ys++UInt8.ofNat s.size :: s.data.toList=zs:=⟨_,rfl⟩
   have hzl:zs.length=ys.length+(s.size+1):=by rw[←hzs,qd,qt,hsl]
   obtain⟨A3,c3,w3,hrun,hown3,hg3⟩:=qqu w2 w.heap.size _ (ys++[UInt8.ofNat s.size]) zs s (by rw[←hzs];simp) ho2 (by omega) hsz2
   have hb3w:Below w.heap.size w w3:=hb2w.grown hg3 (by omega) (fun q hq=>(zk ho2 hq).1)
   rw[hyl2] at hrun
   have HZL:Hid (zs.length≤1+9*(k+1)):=by unfold Hid;omega
   have HZS:=qa hzs
   have HO3:=qa hown3
   have HB3:=qa hb3w
   clear hown3 hg3 hb3w ho2 hg2 hb2w hzl hzs hyl2 hsl hbs
   refine⟨?_⟩
   go_wp2_with (at_builtin;refine wpList_append_run rfl _ _ _ _ rfl rfl rfl hrun ?_)
   go_roundw
   case rel =>
    refine⟨k+1,zs,A3,c3,by omega,by go_num,rfl,HZL.out,?_,HO3.out,HB3.out⟩
    rw[HPT.out,←HZS.out,HYS.out];rfl
   case measure=>simp[intOf] <;> omega
  ·
   have ik:¬(k:Int)<(l.length:Int):=by omega
   have hfin:ys=qei (qm l):=by
    rw[HYS.out,qo (by simp[qm];omega)]
    simp[qei,qm]
   have HF:=qa hfin
   clear hfin
   go_wp2_with fail
   go_ret2
   exact⟨A',c',by rw[←HF.out];rfl,by rw[←HF.out];exact HO.out,HB.out⟩
theorem qnp{l:List ByteArray}{ds:List Int}{m:Nat}(h:∀s∈l,s.size≤m):∀s∈jw l ds,s.size≤m:=fun s hs=>by
 unfold jw at hs
 split at hs
 ·
  cases hs
 ·
  rename_i hne
  obtain⟨d,_,rfl⟩:=zn.1 hs
  have hp:0<l.length:=qda.2 hne
  have hm:d.natAbs%l.length<l.length:=qak _ hp
  rw[yw,qe hm]
  exact h _ (qj hm)
theorem qnq(l:List ByteArray)(ds:List Int):(jw l ds).length≤ds.length:=by
 unfold jw
 split
 ·
  exact qi _
 ·
  rw[q8];exact qc _
theorem putT_few{t:List (List UInt8)}(h:yy t=true):(qei t).length≤3000:=by
 obtain⟨h1,h2, -⟩:=uy.1 h
 have h3:∀ {u:List (List UInt8)},(∀s∈u,qhw s=true)→(qk6 u).length≤9*u.length:=by
  intro u
  induction u with
  | nil=>intro _;simp[qk6]
  | cons a u ih =>
   intro hu
   have h4:=ih fun s hs=>hu s (jm _ hs)
   have h5:=(qfu.1 (hu a jb)).2
   rw[qh5,qt,qd,qt]
   omega
 have h4:=h3 h2
 rw[qh8,qt]
 omega
theorem symbols_v{w:World}(l:List ByteArray)(kd bl ro:Int)(ds:List Int){c d:Nat}{A B:Option Addr}(h:Rd w 0 w.heap.size A c (sv l))(hd:Rd w 0 w.heap.size B d (iv ds))(hw:qj8 ds)(hro : -9223372036854775808≤ro∧ro≤9223372036854775807)
  (hn:l.length≤10000) (hdn:ds.length≤400) (h4:∀s∈l,s.size≤10000) :
  Calls Tryz.prog 189 #[.slice A l.length c,.agg #[.int .i64 kd,.int .i64 bl,.int .i64 ro,.slice B ds.length d]] w fun r w'=>∃A' c',r= .returned (.slice A' (yj l ⟨kd,bl,ro,ds⟩ 2).length c')∧
   w'.ownsRow w.heap.size 5 1 (.slice A' (yj l ⟨kd,bl,ro,ds⟩ 2).length c') (yj l ⟨kd,bl,ro,ds⟩ 2).length (bv (yj l ⟨kd,bl,ro,ds⟩ 2))∧Below w.heap.size w w'∧yy (uc l ⟨kd,bl,ro,ds⟩)=true:=by
 have hl:=h.len
 have hm:=h.cap
 have hdl:=hd.len
 have hdm:=hd.cap
 rw[yg] at hl
 rw[ji] at hdl
 unfold maxLen at hm hdm
 obtain⟨w1,hw1⟩:∃w1,w.alloc (.cells #[.int .i64 kd,.int .i64 bl,.int .i64 ro,.slice B ds.length d] 76)=w1:=⟨_,rfl⟩
 have B1:Hid (Below w.heap.size w w1):=by unfold Hid;rw[←hw1];exact(Below.refl _ w).alloc (qc _) _
 have hs1:w1.heap.size=w.heap.size+1:=by rw[←hw1];simp
 have hb:j6 w1 w.heap.size 76 #[.int .i64 kd,.int .i64 bl,.int .i64 ro,.slice B ds.length d]:=by rw[←hw1];exact j6.new w _ _
 have HCF:Hid (∀W,Below w1.heap.size w1 W→W.cell? ⟨w.heap.size,2,none⟩=some (.int .i64 ro)∧W.cell? ⟨w.heap.size,3,none⟩=some (.slice B ds.length d)):=fun W hW=>⟨(hb.below hW (by omega)).cell 2,(hb.below hW (by omega)).cell 3⟩
 have hS0:=HCF.out _ (Below.refl _ _)
 have hS1:=HCF.out _ ((Below.refl _ _).drew)
 have KD:Hid (Below w1.heap.size w1 w1.drew):=(Below.refl _ _).drew
 have HS:Hid (∀W,Below w1.heap.size w1 W→Calls Tryz.prog 210 #[.slice A l.length c,.slice B ds.length d] W fun r w'=>∃A' c',r= .returned (.slice A' (jw l ds).length c')∧
   w'.ownsRow W.heap.size 9 1 (.slice A' (jw l ds).length c') (jw l ds).length (sv (jw l ds))∧Below W.heap.size W w'):=fun W hW =>
  tsample_any l ds ((h.below (B1.out.trans (hW.mono (by omega))) (qc _)).wide (qc _) (by have:=hW.size;omega)) ((hd.below (B1.out.trans (hW.mono (by omega))) (qc _)).wide (qc _) (by have:=hW.size;omega)) (by omega) (by omega) (fun s hs=>ze (h4 s hs) (by omega)) hw
 have HT:Hid (∀W A2 c2,W.ownsRow w1.heap.size 9 1 (.slice A2 (jw l ds).length c2) (jw l ds).length (sv (jw l ds))→Calls Tryz.prog 209 #[.slice A2 (jw l ds).length c2,.int .i64 ro] W fun r w'=>∃t A' c',r= .returned (.slice A' t.length c')∧qa8 (qm (jw l ds)) (qb8 ro) t∧
   w'.ownsRow W.heap.size 9 1 (.slice A' t.length c') t.length (sv (j7 t))∧Below W.heap.size W w'):=fun W A2 c2 ho =>
  train_any (jw l ds) ro ((Rd.of_own ho).wide (qi _) (qc _)) (ze (qnq l ds) hdn) (fun s hs=>ze (qnp h4 s hs) (by omega)) hro
 have H:Hid (∀W,Below w.heap.size w W→Rd W 0 W.heap.size A c (sv l)):=fun W hW=>(h.below hW (qc _)).wide (qc _) hW.size
 have HH4:=qa h4
 obtain⟨o,ho⟩:∃o:Co,o=⟨kd,bl,ro,ds⟩:=⟨_,rfl⟩
 have HTS:Hid (∀t,qa8 (qm (jw l ds)) (qb8 ro) t→uc l o=t):=fun t ht=>by rw[ho];exact tabS_is ht
 have HPY:Hid (yj l o 2=qei (uc l o)++uu ((qm l).map (kh (uc l o)))):=by unfold Hid;rw[yj,if_pos rfl]
 rw[←ho]
 generalize jw l ds=S at *
 generalize yj l o 2=PY at *
 generalize uc l o=T at *
 clear h hd hb ho h4
 go_enter Tryz.func189,Tryz.ntmps189
 go_wp2_with fail
 clear hw1
 go_region_held3 (fun w'=>w'.cell? ⟨w.heap.size,2,none⟩=some (.int .i64 ro)∧w'.cell? ⟨w.heap.size,3,none⟩=some (.slice B ds.length d)) (first | assumption | go_keep) (first
  | (go_at_call 209;have ho2:=HO2.out;refine(HT.out _ _ _ ho2).mono ?_;rintro r wz ⟨t,A3,c3,rfl,htr,ho3,hbz⟩;have hte:=HTS.out t htr;subst hte;have HTR:=qa htr;have HO3:=qa ho3;have KZ:Hid (Below w1.heap.size w1 wz):=KY.out.trans (hbz.mono KY.out.size);have hSz:=HCF.out _ KZ.out;clear hbz htr ho3)
  | (go_at_call 210;refine(HS.out _ KD.out).mono ?_;rintro r wy ⟨A2,c2,rfl,ho2,hby⟩;have HO2:=qa (j4 ho2 KD.out.size);have KY:Hid (Below w1.heap.size w1 wy):=KD.out.trans (hby.mono KD.out.size);have hSy:=HCF.out _ KY.out;clear hby ho2))
 clear HS HT HCF KD hS0 hS1 hSy hSz HO2
 have hR:yy T=true:=HTR.out.right
 have HR:=qa hR
 obtain⟨ht5,ht8⟩:=qmj hR
 have hsz1:=KZ.out.size
 have KW:Hid (Below w.heap.size w wz):=B1.out.trans (KZ.out.mono (by omega))
 have HP:=qa (sput_yes (w:=wz) (c:=c3) (A:=A3) (j7 T) (by exact(Rd.of_own HO3.out).wide (qi _) (qc _)) (by rw[ue];exact hR))
 rw[yo,ue] at HP
 clear hR KY HTS
 go_wp2_with fail
 refine HP.out.mono ?_
 rintro r w3 ⟨A4,c4,rfl,ho4,hb4⟩
 have HO4:=qa ho4
 have K3:Hid (Below w.heap.size w w3):=qz KW.out hb4 (by omega)
 have hsz3:=K3.out.size
 have hszz:=KW.out.size
 have HRT:Hid (Rd w3 0 w3.heap.size A3 c3 (sv (j7 T))):=((Rd.of_own HO3.out).wide (qi _) (qc _)).below hb4 (qc _) |>.wide (qc _) hb4.size
 have HE:Hid (∀W,Below w3.heap.size w3 W→∀s:ByteArray,s.size≤10000→Calls Tryz.prog 199 #[.slice A3 T.length c3,.string s] W fun r w'=>∃A' c',r= .returned (.slice A' (kh T s.data.toList).length c')∧
   w'.ownsRow W.heap.size 5 1 (.slice A' (kh T s.data.toList).length c') (kh T s.data.toList).length (bv (kh T s.data.toList))∧Below W.heap.size W w'):=fun W hW s hs=>by
  have:=qrn (w:=W) (c:=c3) (A:=A3) (j7 T) s ((HRT.out.below hW (qc _)).wide (qc _) hW.size) (by rw[ue];exact HR.out) (by omega)
  rw[yo,ue] at this
  exact this
 clear hb4 ho4 HP HO3 HRT KZ KW HTR
 go_wp2_with fail
 go_loopw [8,25] (fun x i wr=>∃(k:Nat) (ps:List Part) (A':Option Addr) (c':Nat),k≤l.length∧i= .int .i64 (k:Int)∧qm4 ps=((qm l).map (kh T)).take k∧x= .slice A' k c'∧PR wr w3.heap.size (.slice A' k c') k ps∧Below w3.heap.size w3 wr) (fun _ i _=>l.length-(intOf i).toNat)
 case atStart=>exact⟨0,[],none,0,qi _,rfl,rfl,rfl,PR.nil _ _,Below.refl _ _⟩
 case round =>
  obtain⟨k,ps,A',c',hk,rfl,hys,rfl,hp,hb⟩:=hrel
  have HY:=qa hys
  have HP:=qa hp
  have HB:=qa hb
  have hsz:=hb.size
  clear hb hys hp
  by_cases hlt:k<l.length
  ·
   have ik:(k:Int)<(l.length:Int):=by omega
   obtain⟨b,off,rfl,_,hbl,hc0⟩:=(H.out wr (K3.out.trans (HB.out.mono hsz3))).str hlt
   have HE1:=qa (HE.out wr HB.out l[k] (HH4.out _ (qj hlt)))
   have HT:Hid (((qm l).map (kh T)).take (k+1)=((qm l).map (kh T)).take k++[kh T l[k].data.toList]):=by
    unfold Hid
    rw[qg (by rw[q8,qx];exact hlt),yz,yq l k hlt]
   generalize l[k]=s at *
   generalize kh T s.data.toList=e at *
   go_wp2_with fail
   refine HE1.out.mono ?_
   rintro r w5 ⟨A5,c5,rfl,ho5,hb5⟩
   have hsz5:=hb5.size
   have HB5:=qa (qz HB.out hb5 hsz)
   obtain⟨q,hq⟩:∃p:Part,p=⟨A5,c5,e⟩:=⟨_,rfl⟩
   have HQ:=qa hq
   have hrd5:=Rd.of_own ho5
   have HRQ:Hid (Rd (w5.alloc (.cells #[.slice A5 e.length c5] 26)) w3.heap.size (w5.alloc (.cells #[.slice A5 e.length c5] 26)).heap.size q.A q.c (bv q.bs)):=by
    unfold Hid
    rw[hq]
    exact(hrd5.alloc (qc _) _).wide hsz (by simp)
   have HZA:Hid (0<q.bs.length→∀b off,q.A=some ⟨b,off,none⟩→(Value.slice A' k c').ownBlock≠some b):=by
    unfold Hid
    rw[hq]
    exact HP.out.fresh hrd5
   have HPA:=qa ((HP.out.below hb5 (qc _)).alloc (.cells #[.slice A5 e.length c5] 26))
   have HBA:=qa (HB5.out.alloc (by omega) (.cells #[.slice A5 e.length c5] 26))
   clear hrd5 hb5 ho5 HP HB hq HE1 HB5
   go_wp2_with (at_builtin;refine qdc (v:= .slice A' k c') w3.heap.size ps q rfl _ _ rfl rfl rfl rfl (by rw[HQ.out,za _ _ _ _ rfl];rfl) HPA.out HRQ.out HZA.out (by omega) (by simp;omega) ?_;intro A7 c7 w7 hp7 hg7;refine qaz ?_)
   have HB7:=qa (HBA.out.grown hg7 (by simp;omega) (fun q hq=>(zk HPA.out.own hq).1))
   have HP7:=qa hp7
   have HY7:Hid (qm4 (ps++[q])=((qm l).map (kh T)).take (k+1)):=by
    unfold Hid
    rw[HT.out,←HY.out,HQ.out]
    simp[qm4]
   clear hp7 hg7 HPA HRQ HZA HBA
   refine⟨?_⟩
   go_wp2_with fail
   go_roundw
   case rel=>exact⟨k+1,ps++[q],A7,c7,by omega,by go_num,HY7.out,rfl,HP7.out,HB7.out⟩
   case measure=>simp[intOf] <;> omega
  ·
   have ik:¬(k:Int)<(l.length:Int):=by omega
   have hke:((qm l).map (kh T)).take k=(qm l).map (kh T):=qo (by rw[q8,qx];omega)
   rw[hke] at HY
   have hpl:=HP.out.len
   have hen:∀x∈(qm l).map (kh T),x.length≤20000:=fun x hx=>by
    obtain⟨y,hy,rfl⟩:=zn.1 hx
    obtain⟨s,hs,rfl⟩:=zn.1 hy
    have h1:=qm1 T s.data.toList
    have h2:=HH4.out s hs
    have h3:s.data.toList.length=s.size:=rfl
    omega
   have hsum:(xl ps).length≤20000*l.length:=by
    rw[←qij,HY.out]
    have:=ql3 hen
    rwa [q8,qx] at this
   have HJ:=qa (joined_v (w:=wr) (A:=A') (c:=c') ps (HP.out.read.wide (qi _) (qc _)) (HP.out.rd.wide (qi _) (qc _)) (by omega) (by omega) (fun p hp=>ze (hen p.bs (by rw[←HY.out];exact xq hp)) (by omega)))
   rw[HY.out,hpl] at HJ
   have HJL:Hid ((uu ((qm l).map (kh T))).length≤1000000000000):=by
    unfold Hid
    have h1:=ql3 hen
    rw[q8,qx] at h1
    have h2:=qab (zs:=zu (((qm l).map (kh T)).map List.length)) (qju (m:=20000) (by omega) fun x hx=>by have:=hen x hx;omega) (by rw[zj,q8,q8,qx];omega)
    rw[uu,qd]
    omega
   have hpt:(qei T).length≤3000:=putT_few HR.out
   clear hsum hpl hen
   generalize uu ((qm l).map (kh T))=J at *
   generalize qei T=pt at *
   go_wp2_with fail
   refine HJ.out.mono ?_
   rintro r w6 ⟨A6,c6,rfl,ho6,hb6⟩
   have hsz6:=hb6.size
   have hb36:Below w3.heap.size w3 w6:=qz HB.out hb6 hsz
   obtain⟨A8,c8,w8,hrun8,hown8,hg8⟩:=j9 w6 w.heap.size (.slice A4 pt.length c4) pt J PY HPY.out.symm (j4 (js HO4.out hb36 (qc _)) hszz) (Rd.of_own ho6) (by have:=HJL.out;omega) (by omega)
   have hb8:Below w.heap.size w w8:=(K3.out.trans (hb36.mono hsz3)).grown hg8 (by omega) (fun q hq=>by have:=(zk HO4.out hq).1;omega)
   have HO8:=qa hown8
   have HB8:=qa hb8
   clear ho6 hb6 hb36 hown8 hg8 hb8 HJ
   go_wp2_with (at_builtin;refine wpList_append_run rfl _ _ _ _ rfl rfl rfl hrun8 ?_)
   go_ret
   exact⟨_,_,rfl,HO8.out,HB8.out,HR.out⟩
section
set_option maxRecDepth 20000
set_option exponentiation.threshold 2000
open Ieee
theorem cut_zero(neg:Bool)(n:Nat):Toward.even.cut neg n 0=n:=by
 unfold Toward.cut
 simp
 omega
theorem cut_even{neg:Bool}{n d:Nat}(h:d≤n.log2+2)(hd:2 ^ d ∣ n):Toward.even.cut neg n d=n/2 ^ d:=by
 obtain⟨q,rfl⟩:=hd
 have hp:0<2 ^ d:=Nat.pow_pos (by omega)
 unfold Toward.cut
 rw[yx h]
 simp only[Nat.one_shiftLeft,Nat.mul_mod_right,Nat.mul_zero,Nat.mul_div_cancel_left _ hp]
 have h1:decide (2 ^ d<0)=false:=by simp
 have h2:(2 ^ d==0)=false:=by simp[Nat.ne_of_gt hp]
 simp[h1,h2]
def sig(m:Nat):Nat:=m*2 ^ (52-m.log2)
theorem sig_bd{m:Nat}(h0:m≠0)(h:m<2 ^ 53):2 ^ 52≤sig m∧sig m<2 ^ 53:=by
 have hl:m.log2≤52:=by have:=(Nat.log2_lt h0).2 h;omega
 have h1:=Nat.log2_self_le h0
 have h2:=@Nat.lt_log2_self m
 unfold sig
 constructor
 ·
  calc 2 ^ 52=2 ^ m.log2*2 ^ (52-m.log2):=by rw[←vq];congr 1;omega
   _≤_:=vy _ h1
 ·
  calc m*2 ^ (52-m.log2)<2 ^ (m.log2+1)*2 ^ (52-m.log2):=Nat.mul_lt_mul_of_pos_right h2 (Nat.pow_pos (by omega))
   _=2 ^ 53:=by rw[←vq];congr 1;omega
theorem nearest_is{m:Nat}(k:Nat)(h0:m≠0)(h:m<2 ^ 53):double.nearest false (m*2 ^ k) (-(k:Int))=(m.log2+1022)*2 ^ 52+sig m:=by
 have hl:m.log2≤52:=by have:=(Nat.log2_lt h0).2 h;omega
 have hp:0<2 ^ k:=Nat.pow_pos (by omega)
 have hlog:(m*2 ^ k).log2=m.log2+k:=by
  have hmk:m*2 ^ k≠0:=Nat.mul_ne_zero h0 (by omega)
  have a1:=Nat.log2_self_le h0
  have a2:=@Nat.lt_log2_self m
  refine(Nat.log2_eq_iff hmk).2 ⟨?_,?_⟩
  ·
   rw[vq];exact vy _ a1
  ·
   rw[show m.log2+k+1=(m.log2+1)+k by omega,vq];exact Nat.mul_lt_mul_of_pos_right a2 hp
 unfold Format.nearest
 rw[if_neg (Nat.mul_ne_zero h0 (by omega)),hlog]
 have hlp:double.leastPlace = -1074:=by decide
 have hfb:double.fractionBits=52:=rfl
 have hlast:max (-(k:Int)+((m.log2+k:Nat):Int)-(double.fractionBits:Int)) double.leastPlace=(m.log2:Int)-52:=by rw[hlp,hfb];omega
 rw[hfb,hlp] at hlast
 rw[hfb,hlp,hlast]
 have hk1:Toward.even.cut false ((m*2 ^ k) <<< (-(k:Int)-((m.log2:Int)-52)).toNat) ((m.log2:Int)-52 - -(k:Int)).toNat=sig m:=by
  by_cases hc:k+m.log2≤52
  ·
   rw[show((m.log2:Int)-52 - -(k:Int)).toNat=0 by omega,cut_zero,show(-(k:Int)-((m.log2:Int)-52)).toNat=52-m.log2-k by omega,qbl,qdr,←vq,sig]
   congr 2
   omega
  ·
   rw[show(-(k:Int)-((m.log2:Int)-52)).toNat=0 by omega,Nat.shiftLeft_zero,show((m.log2:Int)-52 - -(k:Int)).toNat=k+m.log2-52 by omega]
   have e:m*2 ^ k=sig m*2 ^ (k+m.log2-52):=by
    rw[sig,qdr,←vq];congr 2;omega
   rw[cut_even (by rw[hlog];omega) (by rw[e];exact Nat.dvd_mul_left _ _),e,Nat.mul_div_cancel _ (Nat.pow_pos (by omega))]
 show double.word false (min (((m.log2:Int)-52 - -1074).toNat*double.binade+Toward.even.cut false ((m*2 ^ k) <<< (-(k:Int)-((m.log2:Int)-52)).toNat) ((m.log2:Int)-52 - -(k:Int)).toNat) double.infRung)=_
 rw[hk1]
 obtain⟨s1,s2⟩:=sig_bd h0 h
 have hbin:double.binade=2 ^ 52:=rfl
 have hinf:double.infRung=2047*2 ^ 52:=rfl
 rw[show((m.log2:Int)-52 - -1074).toNat=m.log2+1022 by omega,hbin,hinf]
 have hb:(m.log2+1022)*2 ^ 52≤1074*2 ^ 52:=vy _ (by omega)
 clear hk1 hlast hlog hp h0 h hbin hinf hlp hfb
 generalize sig m=S at *
 generalize m.log2=L at *
 have hle:(L+1022)*2 ^ 52+S≤2047*2 ^ 52:=ze (Nat.add_le_add hb (qdo s2)) (by decide)
 rw[yx hle]
 exact if_neg Bool.false_ne_true
theorem read_fl{n:Nat}(h:n<2 ^ 53):∃k:Nat,double.read (fl n)= .number false (n*2 ^ k) (-(k:Int)):=by
 rcases jr n with rfl | hp
 ·
  exact⟨1074,by rw[Nat.zero_mul];rfl⟩
 ·
  have h0:n≠0:=by omega
  have hl:n.log2≤52:=by have:=(Nat.log2_lt h0).2 h;omega
  have e:fl n=(n.log2+1022)*2 ^ 52+sig n:=by
   have:=nearest_is 0 h0 h
   rw[←this]
   unfold fl floatOfInt FloatKind.nearest FloatKind.encode FloatKind.format Format.write
   have d:decide ((n:Int)<0)=false:=by simp
   simp[d]
  obtain⟨s1,s2⟩:=sig_bd h0 h
  have eS:sig n=n*2 ^ (52-n.log2):=rfl
  refine⟨52-n.log2,?_⟩
  rw[←eS]
  clear eS
  generalize sig n=S at *
  generalize fl n=F at *
  have hbin:double.binade=2 ^ 52:=rfl
  have hinf:double.infRung=2047*2 ^ 52:=rfl
  have hsw:double.signWeight=2 ^ 63:=rfl
  have hlp:double.leastPlace = -1074:=by decide
  have hle:F<1076*2 ^ 52:=by
   have:(n.log2+1022)*2 ^ 52≤1074*2 ^ 52:=vy _ (by omega)
   omega
  have hge:(n.log2+1023)*2 ^ 52≤F:=by omega
  have hmul:(n.log2+1023)*2 ^ 52≥1023*2 ^ 52:=vy _ (by omega)
  have hdiv:F/2 ^ 52=n.log2+1023:=by omega
  have hmod:F%2 ^ 52=S-2 ^ 52:=by omega
  have hsign:(F/2 ^ 63%2==1)=false:=by
   rw[Nat.div_eq_of_lt (by omega)];rfl
  unfold Format.read
  simp only[hsw,hbin,hinf,hlp,hsign,vd (show F<2 ^ 63 by omega)]
  rw[if_neg (by omega),if_pos (by omega),hdiv,hmod]
  have ek:2 ^ 52+(S-2 ^ 52)=S:=by omega
  rw[ek,show(-1074:Int)+((n.log2+1023-1:Nat):Int) = -((52-n.log2:Nat):Int) by omega]
theorem cmp_mul{a b:Nat}(k:Nat):compare ((a*2 ^ k:Nat):Int) ((b*2 ^ k:Nat):Int)=compare a b:=by
 have hp:0<2 ^ k:=Nat.pow_pos (by omega)
 show compareOfLessAndEq _ _=compareOfLessAndEq a b
 unfold compareOfLessAndEq
 have h1:((a*2 ^ k:Nat):Int)<((b*2 ^ k:Nat):Int)↔a<b:=by
  rw[Int.ofNat_lt]
  exact Nat.mul_lt_mul_right hp
 have h2:((a*2 ^ k:Nat):Int)=((b*2 ^ k:Nat):Int)↔a=b:=by
  rw[Int.ofNat_inj]
  exact Nat.mul_left_inj (by omega)
 simp only[h1,h2]
theorem order_fl{a b:Nat}(ha:a<2 ^ 53)(hb:b<2 ^ 53):double.order (fl a) (fl b)=some (compare a b):=by
 obtain⟨i,hi⟩:=read_fl ha
 obtain⟨j,hj⟩:=read_fl hb
 unfold Format.order
 rw[hi,hj]
 simp only[Datum.order,signed]
 congr 1
 have hm:∀x p,p≤max i j→(x*2 ^ p) <<< (-(p:Int)-min (-(i:Int)) (-(j:Int))).toNat=x*2 ^ max i j:=fun x p hp=>by
  rw[show(-(p:Int)-min (-(i:Int)) (-(j:Int))).toNat=max i j-p by omega,qbl,qdr,←vq]
  congr 2
  omega
 simp only[qam,if_false]
 rw[hm a i (by omega),hm b j (by omega),cmp_mul]
theorem lt_fl{a b:Nat}(ha:a<2 ^ 53)(hb:b<2 ^ 53):(FloatKind.f64.format.order (fl a) (fl b)==some .lt)=decide (a<b):=by
 show(double.order (fl a) (fl b)==some .lt)=_
 rw[order_fl ha hb]
 rcases qa1 a b with h | h | h
 ·
  rw[(Nat.compare_eq_lt).2 h,qp (by omega)];rfl
 ·
  subst h;simp
 ·
  rw[(Nat.compare_eq_gt).2 h,ql (by omega)];rfl
end
section
attribute [local go_sem] qbp
theorem qqa(l:List ByteArray)(k k2 bl ro:Int)(ds:List Int)(q:Int):yj l ⟨k,bl,ro,ds⟩ q=yj l ⟨k2,bl,ro,ds⟩ q:=rfl
theorem payload_v{w:World}{l:List ByteArray}{kd bl ro:Int}{ds:List Int}{A B:Option Addr}{c d:Nat}(h:PayIn w l kd bl ro ds A B c d)(hk:1≤kd) :
  Calls Tryz.prog 153 #[.slice A l.length c,.agg #[.int .i64 kd,.int .i64 bl,.int .i64 ro,.slice B ds.length d]] w fun r w'=>∃A' c',r= .returned (.slice A' (yj l ⟨kd,bl,ro,ds⟩ kd).length c')∧
   w'.ownsRow w.heap.size 5 1 (.slice A' (yj l ⟨kd,bl,ro,ds⟩ kd).length c') (yj l ⟨kd,bl,ro,ds⟩ kd).length (bv (yj l ⟨kd,bl,ro,ds⟩ kd))∧Below w.heap.size w w'∧(yj l ⟨kd,bl,ro,ds⟩ kd).length≤1000000000000∧(kd=2→yy (uc l ⟨kd,bl,ro,ds⟩)=true):=by
 obtain⟨o1,o2,o3,o4,o5,o6,o7⟩:=h.ok
 simp only at o1 o2 o3 o4 o5 o6 o7
 obtain⟨K,hK⟩:∃K:Nat,bl=(K:Int):=⟨bl.toNat,by omega⟩
 subst hK
 obtain⟨w1,hw1⟩:∃w1,w.alloc (.cells #[.int .i64 kd,.int .i64 (K:Int),.int .i64 ro,.slice B ds.length d] 76)=w1:=⟨_,rfl⟩
 have B1:Hid (Below w.heap.size w w1):=by unfold Hid;rw[←hw1];exact(Below.refl _ w).alloc (qc _) _
 have hs1:=B1.out.size
 have hbx:j6 w1 w.heap.size 76 #[.int .i64 kd,.int .i64 (K:Int),.int .i64 ro,.slice B ds.length d]:=by rw[←hw1];exact j6.new w _ _
 have b0:w1.cell? ⟨w.heap.size,0,none⟩=some (.int .i64 kd):=hbx.cell 0
 have b1:w1.cell? ⟨w.heap.size,1,none⟩=some (.int .i64 (K:Int)):=hbx.cell 1
 have b2:w1.cell? ⟨w.heap.size,2,none⟩=some (.int .i64 ro):=hbx.cell 2
 have b3:w1.cell? ⟨w.heap.size,3,none⟩=some (.slice B ds.length d):=hbx.cell 3
 have h1:=h.on B1.out
 have hn:=h.few
 have hsz:=h.size
 have hdn:=h.draws
 have HS:=qa (symbols_v (w:=w1) l kd K ro ds h1.rd h1.dr h1.word ⟨by omega,by omega⟩ (by omega) (by omega) (fun s hs=>ze (h1.size s hs) (by omega)))
 have HD:=qa (dictionary_v (w:=w1) (B:=B) (d:=d) l kd ro K ds h1.rd (by omega) (by omega) h1.few h1.size)
 have HP:=qa (plain_v (w:=w1) l h1.rd (by omega) (fun s hs=>ze (h1.size s hs) (by omega)))
 clear h h1 hbx
 have hsz1:∀x∈qm l,x.length≤4096:=fun x hx=>by obtain⟨s,hs,rfl⟩:=zn.1 hx;exact hsz s hs
 have hnl:(qm l).length≤4096:=by rw[qx];exact hn
 have HL1:=qa (qqf hsz1 (by omega) hnl)
 have HL2:Hid (∀o:Co,yy (uc l o)=true→(yj l o 2).length≤1000000000000):=fun o ho=>by
  have h1:=putT_few ho
  have h2:=qqf (r:=(qm l).map (kh (uc l o))) (m:=8192) (n:=4096) (fun x hx=>by
   obtain⟨y,hy,rfl⟩:=zn.1 hx
   have:=qm1 (uc l o) y
   have:=hsz1 y hy
   omega) (by omega) (by rw[q8];exact hnl)
  rw[yj,if_pos rfl,qd]
  omega
 have HL3:Hid ((yj l ⟨3,(K:Int),ro,ds⟩ 3).length≤1000000000000):=by
  unfold Hid
  have hso:=qkn (qm l)
  rw[yj,if_neg (by decide),if_pos rfl,qd,dicS_is hso]
  have hdc:=hso.dic hnl hsz1
  have h1:=qmz (K:=(Co.block ⟨3,(K:Int),ro,ds⟩).toNat) (by show(K:Int).toNat≤64;omega) hdc
  have h2:=sumL_le (m:=4096) (fun s hs=>(qdi.1 hdc).2.1 s hs)
  have h3:=(qdi.1 hdc).1
  have h4:=qab (zs:=zu (qc2 (Lib.compact (qit (qm l))) (qm l))) (qm3 (D:=Lib.compact (qit (qm l))) h3 fun x hx=>by
   obtain⟨s,hs,rfl⟩:=zn.1 hx
   exact jaf ((hso.2 s).2 hs)) (by rw[zj,qc2,q8];omega)
  omega
 clear hsz1 hnl hsz
 have hkk:kd=1∨kd=2∨kd=3:=by omega
 go_enter Tryz.func153,Tryz.ntmps153
 rcases hkk with rfl | rfl | rfl
 ·
  have e:yj l ⟨1,(K:Int),ro,ds⟩ 1=uu (qm l):=by rw[yj,if_neg (by decide),if_neg (by decide)]
  rw[e]
  go_wp2_with fail
  refine HP.out.mono ?_
  rintro r w2 ⟨A2,c2,rfl,ho,hb⟩
  go_wp2_with fail
  go_ret
  exact⟨_,_,rfl,j4 ho hs1,qz B1.out hb hs1,by have:=HL1.out;omega,fun h=>absurd h (by decide)⟩
 ·
  have HL2':=qa (HL2.out ⟨2,(K:Int),ro,ds⟩)
  generalize yj l ⟨2,(K:Int),ro,ds⟩ 2=P at *
  go_wp2_with fail
  refine HS.out.mono ?_
  rintro r w2 ⟨A2,c2,rfl,ho,hb,hrt⟩
  go_wp2_with fail
  go_ret
  refine⟨_,_,rfl,j4 ho hs1,qz B1.out hb hs1,?_⟩
  first | exact⟨HL2'.out hrt,fun _=>hrt⟩ | exact HL2'.out hrt
 ·
  generalize yj l ⟨3,(K:Int),ro,ds⟩ 3=P at *
  go_wp2_with fail
  refine HD.out.mono ?_
  rintro r w2 ⟨A2,c2,rfl,ho,hb,_⟩
  go_wp2_with fail
  go_ret
  exact⟨_,_,rfl,j4 ho hs1,qz B1.out hb hs1,HL3.out,fun h=>absurd h (by decide)⟩
theorem code_k{w:World}{l:List ByteArray}{kd bl ro:Int}{ds:List Int}{A B:Option Addr}{c d:Nat}(h:PayIn w l kd bl ro ds A B c d)(hk:1≤kd) :
  Calls Tryz.prog 110 #[.slice A l.length c,.agg #[.int .i64 kd,.int .i64 bl,.int .i64 ro,.slice B ds.length d]] w fun r w'=>∃A' c',r= .returned (.agg #[.int .i64 kd,.slice A' (yj l ⟨kd,bl,ro,ds⟩ kd).length c',.complex .f64 (fl (yj l ⟨kd,bl,ro,ds⟩ kd).length) (fl l.length)])∧
   Rd w' w.heap.size w'.heap.size A' c' (bv (yj l ⟨kd,bl,ro,ds⟩ kd))∧Below w.heap.size w w'∧(yj l ⟨kd,bl,ro,ds⟩ kd).length≤1000000000000∧(kd=2→yy (uc l ⟨kd,bl,ro,ds⟩)=true):=code_kW h hk fun {w} h2=>payload_v h2 hk
end
end Go.Proofs.YtnjkipnklpkaoaaGreat
