/-
  Lemmas.
-/
import Derived.Test.YtjfecojdagmacaaGreatE18
import Derived.Lib.OwnBridge
import Derived.Shelf.Slices.CompactS
import Derived.Shelf.Slices.In.SortNone
import Derived.Shelf.Sort.Plain
import Derived.Sort.OwnSorted
namespace Go.Proofs.YtjfecojdagmacaaGreat
open Go.RowKit
set_option maxRecDepth 20000
set_option maxHeartbeats 16000000
set_option linter.unusedSimpArgs false
set_option linter.unusedVariables false
theorem qio{m:Nat}:∀ {l:List (List UInt8)},(∀x∈l,x.length≤m)→l.flatten.length≤m*l.length
 | [],_=>by simp
 | x :: l,h=>by
  have h1:=qio (l:=l) fun y hy=>h y (jb _ hy)
  have h2:=h x zr
  rw[ke,qd,qo,qcm]
  omega
theorem numbers_v{w:World}(zs:List Int)(hm:May zs){h':Nat}{A:Option Addr}{c:Nat}(h:Rd w 0 h' A c (iv zs))(hh:h'≤w.heap.size)(hlen:zs.length≤4294967295) :
  Calls Tryz.prog 212 #[.slice A zs.length c] w fun r w'=>∃A' c',r= .returned (.slice A' (jr zs).length c')∧
   w'.ownsRow w.heap.size 5 1 (.slice A' (jr zs).length c') (jr zs).length (bv (jr zs))∧Below w.heap.size w w':=by
 have HP:=qa (qjz (w:=w) zs hm h hh hlen)
 clear h
 go_enter Tryz.func212,Tryz.ntmps212
 go_wp2_with fail
 refine HP.out.mono ?_
 rintro r w1 ⟨A1,c1,rfl,ho,hb⟩
 go_wp2_with fail
 go_ret
 exact⟨_,_,rfl,ho,hb⟩
theorem joined_v{w:World}(ps:List Part){c:Nat}{A:Option Addr}(h:Rd w 0 w.heap.size A c (pv ps))(hp:qm3 w 0 w.heap.size ps)(hn:ps.length≤1000000)(hb:(yg ps).length≤1000000000)(h4:∀p∈ps,p.bs.length≤1000000000) :
  Calls Tryz.prog 207 #[.slice A ps.length c] w fun r w'=>∃A' c',r= .returned (.slice A' (ku (qi6 ps)).length c')∧
   w'.ownsRow w.heap.size 5 1 (.slice A' (ku (qi6 ps)).length c') (ku (qi6 ps)).length (bv (ku (qi6 ps)))∧Below w.heap.size w w':=by
 have hl:=h.len
 have hm:=h.cap
 rw[qdc] at hl
 unfold maxLen at hm
 obtain⟨w1,hmake,ho1,hg1⟩:=qg0 w ps.length (by omega)
 have HO1:=qa ho1
 have HB1:=qa (qaq (qc _) hg1 (fun g hg=>by cases hg))
 have H:=qa h
 have HP:=qa hp
 obtain⟨zs,hzs⟩:∃zs,jf ((qi6 ps).map List.length)=zs:=⟨_,rfl⟩
 have HZ:Hid (∀i (hi:i<ps.length),(iv zs)[i]? = some (.int .i64 (ps[i].bs.length:Int))):=fun i hi=>by
  rw[←hzs];simp[iv,jf,qi6,qe hi]
 have hzl:zs.length=ps.length:=by rw[←hzs];simp[jf,qi6]
 have HZL:Hid (zs.length=ps.length):=hzl
 have HMay:Hid (May zs):=by
  unfold Hid
  rw[←hzs]
  exact qky (m:=1000000000) (by omega) fun x hx=>by obtain⟨p,hp,rfl⟩:=za.1 hx;have:=h4 p hp;omega
 obtain⟨J,hJ⟩:∃J,ku (qi6 ps)=J:=⟨_,rfl⟩
 have HJ:Hid (jr zs++yg ps=J):=by unfold Hid;rw[←hJ,ku,hzs,qf2]
 have HH4:=qa h4
 rw[hJ]
 clear h ho1 hg1 hp hzs hzl hJ h4
 go_enter Tryz.func207,Tryz.ntmps207
 go_wp2_with fail
 clear hmake
 go_loopw [11] (fun i wr=>∃(k:Nat) (xs:List Value),k≤ps.length∧i= .int .i64 (k:Int)∧wr.ownsRow w.heap.size 3 1 (.slice (some ⟨w.heap.size,0,none⟩) ps.length ps.length) ps.length xs∧qhs (iv zs) k xs∧Below w.heap.size w wr) (fun i _=>ps.length-(intOf i).toNat)
 case atStart=>exact⟨0,_,qj _,rfl,HO1.out,qcb (by rw[yd,HZL.out];simp),HB1.out⟩
 case round =>
  clear HO1 HB1
  obtain⟨k,xs,hk,rfl,ho,hup,hbl⟩:=hrel
  have HO:=qa ho
  have HUP:=qa hup
  have HB:=qa hbl
  have hsz:=hbl.size
  clear ho hup hbl
  by_cases hlt:k<ps.length
  ·
   have ik:(k:Int)<(ps.length:Int):=by omega
   obtain⟨b,off,rfl,_,hbw,hc0⟩:=(H.out.below HB.out (qc _)).part hlt
   have HZ1:=qa (HZ.out k hlt)
   generalize ps[k].A=pA at *
   generalize ps[k].bs.length=pn at *
   generalize ps[k].c=pc at *
   have hfr:=HO.out.frozenAt k
   have hxk:k<xs.length:=by rw[HUP.out.1,yd,HZL.out];exact hlt
   have hcell:wr.cell? ⟨w.heap.size,k,none⟩=some xs[k]:=by
    rw[HO.out.cellAt k (by omega),qe hxk]
   have HST:=qa (World.ownsRow.stored HO.out k (.int .i64 (pn:Int)))
   have HBS:=qa (HB.out.setCell (p:=⟨w.heap.size,k,none⟩) (qc _) (.int .i64 (pn:Int)))
   have HUS:=qa (um HUP.out (.int .i64 (pn:Int)) HZ1.out)
   generalize xs[k]=x0 at *
   go_wp2_with fail
   go_roundw
   case rel=>exact⟨k+1,_,by omega,by go_num,HST.out.1,HUS.out,HBS.out⟩
   case measure=>simp[intOf];omega
  ·
   have ik:¬(k:Int)<(ps.length:Int):=by omega
   have hx:xs=iv zs:=qdo HUP.out (by rw[yd,HZL.out];omega)
   subst hx
   have HN:=qa (numbers_v (w:=wr) zs HMay.out ((Rd.of_own HO.out).wide (qj _) (qc _)) (qc _) (by rw[HZL.out];omega))
   rw[HZL.out] at HN
   go_wp2_with fail
   refine HN.out.mono ?_
   rintro r w2 ⟨A2,c2,rfl,ho2,hb2⟩
   have HO2:=qa ho2
   have HB2:=qa (zz HB.out hb2 hsz)
   have hsz2:=HB2.out.size
   have hs2:=hb2.size
   have HJN:=qa (bjoin_any (w:=w2) ps (H.out.below HB2.out (qc _)) (HP.out.below HB2.out (qc _)) hn (by omega))
   clear ho2 hb2 HN
   go_wp2_with fail
   refine HJN.out.mono ?_
   rintro r w3 ⟨A3,c3,rfl,hr3,hb3⟩
   have hsz3:=hb3.size
   have hwl:=qb9 HMay.out (by rw[HZL.out];omega)
   obtain⟨A4,c4,w4,hrun4,hown4,hg4⟩:=xm w3 w.heap.size (.slice A2 (jr zs).length c2) (jr zs) (yg ps) J HJ.out (j9 (ji HO2.out hb3 (qc _)) hsz) hr3 (by omega) (by omega)
   have hb4:Below w.heap.size w w4:=(zz HB2.out hb3 hsz2).grown hg4 (by omega) (fun q hq=>by have:=(zk HO2.out hq).1;omega)
   have HO4:=qa hown4
   have HB4:=qa hb4
   clear hr3 hb3 hown4 hg4 hb4 HJN
   go_wp2_with (at_builtin;refine wpList_append_run rfl _ _ _ _ rfl rfl rfl hrun4 ?_)
   go_ret
   exact⟨_,_,rfl,HO4.out,HB4.out⟩
theorem plain_v{w:World}(l:List ByteArray){c:Nat}{A:Option Addr}(h:Rd w 0 w.heap.size A c (sv l))(hn:l.length≤100000)(h4:∀s∈l,s.size≤10000) :
  Calls Tryz.prog 179 #[.slice A l.length c] w fun r w'=>∃A' c',r= .returned (.slice A' (ku (qt l)).length c')∧
   w'.ownsRow w.heap.size 5 1 (.slice A' (ku (qt l)).length c') (ku (qt l)).length (bv (ku (qt l)))∧Below w.heap.size w w':=by
 have hl:=h.len
 have hm:=h.cap
 rw[xr] at hl
 unfold maxLen at hm
 have H:=qa h
 have HH4:=qa h4
 clear h h4
 go_enter Tryz.func179,Tryz.ntmps179
 go_wp2_with fail
 go_loopw [3,8] (fun x i wr=>∃(k:Nat) (ps:List Part) (A':Option Addr) (c':Nat),k≤l.length∧i= .int .i64 (k:Int)∧qi6 ps=(qt l).take k∧x= .slice A' k c'∧PR wr w.heap.size (.slice A' k c') k ps∧Below w.heap.size w wr) (fun _ i _=>l.length-(intOf i).toNat)
 case atStart=>exact⟨0,[],none,0,qj _,rfl,rfl,rfl,PR.nil _ _,Below.refl _ _⟩
 case round =>
  obtain⟨k,ps,A',c',hk,rfl,hys,rfl,hp,hb⟩:=hrel
  have HY:=qa hys
  have HP:=qa hp
  have HB:=qa hb
  have hsz:=hb.size
  clear hb hys hp
  by_cases hlt:k<l.length
  ·
   have ik:(k:Int)<(l.length:Int):=by omega
   obtain⟨b,off,rfl,_,hbl,hc0⟩:=(H.out.below HB.out (qc _)).str hlt
   have HS4:=qa (HH4.out _ (ql hlt))
   have HT:Hid ((qt l).take (k+1)=(qt l).take k++[l[k].data.toList]):=by
    unfold Hid
    rw[qi (by rw[zb];exact hlt),vq l k hlt]
   generalize l[k]=s at *
   have hcv:=Lib.run_convert_string_bytes (P:=Tryz.prog) wr 9 36 5 s Tryz.underlying9 Tryz.underlying36 Tryz.underlying5
   have hcap:=grownCap_le_maxLen wr s.size 0 5 (by have:=HS4.out;simp only[maxLen];omega)
   have hrd:=bytesWorld_rd wr 5 s hcap
   have hb2:=ql3 wr 5 s (qc _)
   have hs2:wr.heap.size+1≤(Lib.bytesWorld wr 5 s).heap.size:=by rw[Lib.bytesWorld_size];exact qc _
   clear hcap
   generalize grownCap wr s.size 0 5=gc at *
   generalize Lib.bytesWorld wr 5 s=w2 at *
   have HB2:=qa (zz HB.out hb2 hsz)
   have hsz2:w.heap.size≤w2.heap.size:=HB2.out.size
   obtain⟨q,hq⟩:∃p:Part,p=⟨some ⟨wr.heap.size,0,none⟩,gc,s.data.toList⟩:=⟨_,rfl⟩
   have HQ:=qa hq
   have HQB:Hid (q.bs=s.data.toList):=by unfold Hid;rw[hq]
   have HRQ:Hid (Rd (w2.alloc (.cells #[.slice (some ⟨wr.heap.size,0,none⟩) s.size gc] 36)) w.heap.size (w2.alloc (.cells #[.slice (some ⟨wr.heap.size,0,none⟩) s.size gc] 36)).heap.size q.A q.c (bv q.bs)):=by
    unfold Hid
    rw[hq]
    exact(hrd.alloc hs2 _).wide hsz (by simp;omega)
   have HPA:=qa ((HP.out.below hb2 (qc _)).alloc (.cells #[.slice (some ⟨wr.heap.size,0,none⟩) s.size gc] 36))
   have HZA:Hid (∀b off,q.A=some ⟨b,off,none⟩→(Value.slice A' k c').ownBlock≠some b):=fun b off e e2=>by
    rw[hq] at e
    simp only[Option.some.injEq,Addr.mk.injEq] at e
    have:=(zk HP.out.own e2).2
    omega
   have HBA:=qa (HB2.out.alloc hsz2 (.cells #[.slice (some ⟨wr.heap.size,0,none⟩) s.size gc] 36))
   clear hrd hb2 HP HB hq
   go_wp2_with (at_builtin;refine qbn (v:= .slice A' k c') w.heap.size ps q rfl _ _ rfl rfl rfl rfl (by rw[HQ.out,zm _ _ _ _ rfl];rfl) HPA.out HRQ.out (fun _=>HZA.out) (by omega) (by simp;omega) ?_;intro A7 c7 w7 hp7 hg7;refine qbj ?_)
   have HB7:=qa (HBA.out.grown hg7 (by simp;omega) (fun q hq=>(zk HPA.out.own hq).1))
   have HP7:=qa hp7
   have HY7:Hid (qi6 (ps++[q])=(qt l).take (k+1)):=by
    unfold Hid
    rw[HT.out,←HY.out,←HQB.out]
    simp[qi6]
   clear hp7 hg7 HPA HRQ HZA HBA
   refine⟨?_⟩
   go_wp2_with fail
   go_roundw
   case rel=>exact⟨k+1,ps++[q],A7,c7,by omega,by go_num,HY7.out,rfl,HP7.out,HB7.out⟩
   case measure=>simp[intOf] <;> omega
  ·
   have ik:¬(k:Int)<(l.length:Int):=by omega
   have hke:(qt l).take k=qt l:=qp (by rw[zb];omega)
   rw[hke] at HY
   have hpl:=HP.out.len
   have hsum:(yg ps).length≤10000*l.length:=by
    rw[←qf2,HY.out]
    have:=qio (m:=10000) (l:=qt l) fun x hx=>by obtain⟨s,hs,rfl⟩:=za.1 hx;exact HH4.out s hs
    rwa [zb] at this
   have HJ:=qa (joined_v (w:=wr) (A:=A') (c:=c') ps (HP.out.read.wide (qj _) (qc _)) (HP.out.rd.wide (qj _) (qc _)) (by omega) (by omega) (fun p hp=>by
    have:p.bs∈qt l:=by rw[←HY.out];exact vx hp
    obtain⟨s,hs,e⟩:=za.1 this
    have h1:=HH4.out s hs
    rw[←e]
    show s.size≤_
    omega))
   rw[HY.out,hpl] at HJ
   clear hsum hpl
   go_wp2_with fail
   refine HJ.out.mono ?_
   rintro r w2 ⟨A2,c2,rfl,ho2,hb2⟩
   go_wp2_with fail
   go_ret
   exact⟨_,_,rfl,j9 ho2 hsz,zz HB.out hb2 hsz⟩
theorem qmn(w:World)(t:TypeId):(w.alloc (.cells #[] t)).ownsRow w.heap.size t 1 (.slice (some ⟨w.heap.size,0,none⟩) 0 0) 0 []:=by
 have:=World.ownsRow_lit (e:=t) (size:=1) (base:=w.heap.size) w #[] 0 (qc _) (by simp[maxLen]) (by simp)
 exact this
theorem clone_strs{w:World}(l:List ByteArray){lo h':Nat}{A:Option Addr}{c:Nat}(h:Rd w lo h' A c (sv l))(hh:h'≤w.heap.size)(hb:l.length≤1000000000) :
  Calls Tryz.prog 208 #[.slice A l.length c] w fun r w'=>∃A' c',r= .returned (.slice A' l.length c')∧
   w'.ownsRow w.heap.size 9 1 (.slice A' l.length c') l.length (sv l)∧Below w.heap.size w w':=by
 rcases A with _ | ad
 ·
  obtain rfl:l=[]:=by
   rcases jh (sv l).length with h0 | h0
   ·
    exact ze (by simpa[sv] using h0)
   ·
    obtain⟨_,_,h,_⟩:=h.at_ h0
    cases h
  clear h
  have hnil:=Lib.run_eql_slice_nil (P:=Tryz.prog) w 52 9 none 0 c 0 0 Tryz.underlying52
  go_enter Tryz.func208,Tryz.ntmps208
  go_wp2
  go_ret
  exact⟨_,_,rfl,zj ..,Below.refl _ _⟩
 ·
  obtain⟨A1,c1,w1,hrun,hown,hg1⟩:=qis (w.alloc (.cells #[] 9)) w.heap.size (.slice (some ⟨w.heap.size,0,none⟩) 0 0) [] l l (by simp) (qmn w _) (h.alloc hh _) (by simp;omega) (by simp)
  have HO:=qa hown
  have HG:=qa hg1
  clear h hown hg1
  have hnil:=Lib.run_eql_slice_nil (P:=Tryz.prog) w 52 9 (some ad) l.length c 0 0 Tryz.underlying52
  go_enter Tryz.func208,Tryz.ntmps208
  go_wp2_with (at_builtin;refine wpList_append_run rfl _ _ _ _ rfl rfl rfl hrun ?_)
  go_ret
  exact⟨_,_,rfl,HO.out,((Below.refl _ _).alloc (qc _) _).grown HG.out (by simp) (by simp[Value.ownBlock])⟩
section
set_option maxRecDepth 100000
def ren1:Go.Shelf.Ren:=⟨fun | 125=>101 | 128=>145 | 129=>146 | 190=>72 | 194=>209 | 258=>100 | 302=>136 | 303=>137 | 304=>138 | 305=>139 | 306=>140 | 307=>141 | 308=>142 | 309=>143 | 310=>144 | 316=>219 | 329=>172 | 330=>173 | 333=>171 | 334=>174 | 335=>175 | 336=>176 | 344=>202 | n=>n,fun | 0=>0 | 3=>3 | 4=>4 | 5=>5 | 9=>9 | 31=>52 | 37=>36 | 46=>119 | 51=>102 | 53=>206 | 127=>273 | 131=>202 | 182=>196 | 183=>197 | 218=>227 | 222=>231 | 228=>250 | 229=>154 | n=>n,fun n=>n⟩
theorem lays190:Go.Proofs.Lays.n190 Tryz.prog ren1:={
 mixed:=by kernel_rfl
 f125:=Tryz.func101.trans (congrArg some (by kernel_rfl))
 f128:=Tryz.func145.trans (congrArg some (by kernel_rfl))
 f129:=Tryz.func146.trans (congrArg some (by kernel_rfl))
 f190:=Tryz.func72.trans (congrArg some (by kernel_rfl))
 f258:=Tryz.func100.trans (congrArg some (by kernel_rfl))
 f302:=Tryz.func136.trans (congrArg some (by kernel_rfl))
 f303:=Tryz.func137.trans (congrArg some (by kernel_rfl))
 f304:=Tryz.func138.trans (congrArg some (by kernel_rfl))
 f305:=Tryz.func139.trans (congrArg some (by kernel_rfl))
 f306:=Tryz.func140.trans (congrArg some (by kernel_rfl))
 f307:=Tryz.func141.trans (congrArg some (by kernel_rfl))
 f308:=Tryz.func142.trans (congrArg some (by kernel_rfl))
 f309:=Tryz.func143.trans (congrArg some (by kernel_rfl))
 f310:=Tryz.func144.trans (congrArg some (by kernel_rfl))
 f329:=Tryz.func172.trans (congrArg some (by kernel_rfl))
 f330:=Tryz.func173.trans (congrArg some (by kernel_rfl))
 f333:=Tryz.func171.trans (congrArg some (by kernel_rfl))
 f334:=Tryz.func174.trans (congrArg some (by kernel_rfl))
 f335:=Tryz.func175.trans (congrArg some (by kernel_rfl))
 f336:=Tryz.func176.trans (congrArg some (by kernel_rfl))
 f344:=Tryz.func202.trans (congrArg some (by kernel_rfl))
 t0:=Tryz.underlying0
 a0:=Tryz.isAgg0
 z0:=Tryz.sizeOf0
 v0:=Tryz.zeroValue0
 t3:=Tryz.underlying3
 a3:=Tryz.isAgg3
 z3:=Tryz.sizeOf3
 v3:=Tryz.zeroValue3
 t4:=Tryz.underlying4
 a4:=Tryz.isAgg4
 z4:=Tryz.sizeOf4
 v4:=Tryz.zeroValue4
 t5:=Tryz.underlying5
 a5:=Tryz.isAgg5
 z5:=Tryz.sizeOf5
 v5:=Tryz.zeroValue5
 t9:=Tryz.underlying9
 a9:=Tryz.isAgg9
 z9:=Tryz.sizeOf9
 v9:=Tryz.zeroValue9
 t31:=Tryz.underlying52
 a31:=Tryz.isAgg52
 z31:=Tryz.sizeOf52
 v31:=Tryz.zeroValue52
 t46:=Tryz.underlying119
 a46:=Tryz.isAgg119
 z46:=Tryz.sizeOf119
 v46:=Tryz.zeroValue119
 t51:=Tryz.underlying102
 a51:=Tryz.isAgg102
 z51:=Tryz.sizeOf102
 v51:=Tryz.zeroValue102
 t53:=Tryz.underlying206
 a53:=Tryz.isAgg206
 z53:=Tryz.sizeOf206
 v53:=Tryz.zeroValue206
 t131:=Tryz.underlying202
 a131:=Tryz.isAgg202
 z131:=Tryz.sizeOf202
 v131:=Tryz.zeroValue202
 t182:=Tryz.underlying196
 a182:=Tryz.isAgg196
 z182:=Tryz.sizeOf196
 v182:=Tryz.zeroValue196
 t183:=Tryz.underlying197
 a183:=Tryz.isAgg197
 z183:=Tryz.sizeOf197
 v183:=Tryz.zeroValue197
 t218:=Tryz.underlying227
 a218:=Tryz.isAgg227
 z218:=Tryz.sizeOf227
 v218:=Tryz.zeroValue227
 t222:=Tryz.underlying231
 a222:=Tryz.isAgg231
 z222:=Tryz.sizeOf231
 v222:=Tryz.zeroValue231
 t228:=Tryz.underlying250
 a228:=Tryz.isAgg250
 z228:=Tryz.sizeOf250
 v228:=Tryz.zeroValue250
 t229:=Tryz.underlying154
 a229:=Tryz.isAgg154
 z229:=Tryz.sizeOf154
 v229:=Tryz.zeroValue154 }
theorem lays194:Go.Proofs.Lays.n194 Tryz.prog ren1:={
 mixed:=by kernel_rfl
 f194:=Tryz.func209.trans (congrArg some (by kernel_rfl))
 t0:=Tryz.underlying0
 a0:=Tryz.isAgg0
 z0:=Tryz.sizeOf0
 v0:=Tryz.zeroValue0
 t3:=Tryz.underlying3
 a3:=Tryz.isAgg3
 z3:=Tryz.sizeOf3
 v3:=Tryz.zeroValue3
 t4:=Tryz.underlying4
 a4:=Tryz.isAgg4
 z4:=Tryz.sizeOf4
 v4:=Tryz.zeroValue4
 t9:=Tryz.underlying9
 a9:=Tryz.isAgg9
 z9:=Tryz.sizeOf9
 v9:=Tryz.zeroValue9
 t31:=Tryz.underlying52
 a31:=Tryz.isAgg52
 z31:=Tryz.sizeOf52
 v31:=Tryz.zeroValue52 }
theorem lays316:Go.Proofs.LaysM.n316 Tryz.prog ren1:={
 mixed:=by kernel_rfl
 f316:=Tryz.func219.trans (congrArg some (by kernel_rfl))
 t0:=Tryz.underlying0
 a0:=Tryz.isAgg0
 z0:=Tryz.sizeOf0
 v0:=Tryz.zeroValue0
 t3:=Tryz.underlying3
 a3:=Tryz.isAgg3
 z3:=Tryz.sizeOf3
 v3:=Tryz.zeroValue3
 t4:=Tryz.underlying4
 a4:=Tryz.isAgg4
 z4:=Tryz.sizeOf4
 v4:=Tryz.zeroValue4
 t9:=Tryz.underlying9
 a9:=Tryz.isAgg9
 z9:=Tryz.sizeOf9
 v9:=Tryz.zeroValue9
 t37:=Tryz.underlying36
 a37:=Tryz.isAgg36
 z37:=Tryz.sizeOf36
 v37:=Tryz.zeroValue36
 t127:=Tryz.underlying273
 a127:=Tryz.isAgg273
 z127:=Tryz.sizeOf273
 v127:=Tryz.zeroValue273
 t5:=Tryz.underlying5
 a5:=Tryz.isAgg5
 z5:=Tryz.sizeOf5
 v5:=Tryz.zeroValue5
 i0:=by kernel_rfl
 i3:=by kernel_rfl
 i4:=by kernel_rfl
 i5:=by kernel_rfl
 i9:=by kernel_rfl
 i37:=by kernel_rfl
 i127:=by kernel_rfl }
end
section
open Go.RowKit Go.Sort Go.Shelf
theorem sv_enc(zs:List (List UInt8)):sv (j4 zs)=zs.map encStr:=by
 unfold sv j4
 rw[uk]
 rfl
theorem sort_own{w:World}{base:Nat}{v:Value}(zs:List (List UInt8))(h:w.ownsRow base 9 1 v zs.length (sv (j4 zs)))(hn:zs.length<4611686018427387904) :
  Calls Tryz.prog 72 #[v] w fun r w'=>r= .returned (.tuple #[])∧w'.ownsRow base 9 1 v zs.length (sv (j4 (zs.mergeSort fun x y=>decide (x≤y))))∧w.grownBy w' v.ownBlock:=by
 rw[sv_enc] at h
 rw[sv_enc]
 rcases h.2 with ⟨rfl,h0⟩ | ⟨g,cap,cur,rfl,hbase,hb,h1,h2,h3,h4⟩
 ·
  have hz:zs=[]:=ze h0
  subst hz
  refine(Any.slices_Sort_string_none lays190 none 0 w).mono ?_
  rintro r w' ⟨rfl,rfl⟩
  exact⟨rfl,by simpa using h,yx _ _⟩
 ·
  refine(Any.slices_Sort_string lays190 g 0 cap zs w (holds_of_block hb (by simpa using h4)) (xc.1 hb).1 hn).mono ?_
  rintro r w' ⟨rfl,n,os,rfl⟩
  exact⟨rfl,ownsRow_sorted (List.length_mergeSort zs) hbase hb h1 h2 h3,grownBy_sorted _⟩
theorem qmy{w:World}{base:Nat}{A:Option Addr}{c:Nat}(zs:List (List UInt8))(h:w.ownsRow base 9 1 (.slice A zs.length c) zs.length (sv (j4 zs)))(hn:zs.length<4611686018427387904) :
  Calls Tryz.prog 209 #[.slice A zs.length c] w fun r w'=>r= .returned (.slice A (Lib.compact zs).length c)∧w'.ownsRow base 9 1 (.slice A (Lib.compact zs).length c) (Lib.compact zs).length (sv (j4 (Lib.compact zs)))∧w.grownBy w' (Value.slice A zs.length c).ownBlock:=by
 rw[sv_enc] at h
 rw[sv_enc]
 rcases h.2 with ⟨he,h0⟩ | ⟨g,cap,cur,he,hbase,hb,h1,h2,h3,h4⟩
 ·
  have hz:zs=[]:=ze h0
  subst hz
  refine(Any.slices_Compact_string_empty lays194 A c w).mono ?_
  rintro r w' ⟨rfl,rfl⟩
  exact⟨rfl,h,yx _ _⟩
 ·
  injection he with he1 _ he3
  subst he1 he3
  refine(Any.slices_Compact_string lays194 g 0 c zs w (holds_of_block hb (by simpa using h4)) (by omega) h1).mono ?_
  rintro r w' ⟨rfl,q,rfl⟩
  have hle:=Lib.compact_length_le zs
  have hc:=Lib.ownsRow_putRow (q:=q) (k:=(Lib.compact zs).length) (ys:=Lib.compact zs++List.replicate (zs.length-(Lib.compact zs).length) []) h (by simp;omega) (by omega)
  rw[List.take_left] at hc
  refine⟨rfl,hc,?_⟩
  have:=grownBy_sorted (w:=w) (g:=g) (n:=q) (os:=#[]) (Lib.compact zs++List.replicate (zs.length-(Lib.compact zs).length) []).toArray
  rw[grow_empty] at this
  exact this
theorem sclone_any{w:World}(s:ByteArray)(hs:s.size≤281474976710656) :
  Calls Tryz.prog 201 #[.string s] w fun e w'=>e= .returned (.string s)∧Below w.heap.size w w':=by
 have h:=fun w=>Any.stringslite_Clone lays316 s w hs
 have H:=qa h
 clear h
 go_enter Tryz.func201,Tryz.ntmps201
 go_wp2_with fail
 refine(H.out _).mono ?_
 rintro r w1 ⟨rfl,hb⟩
 go_wp2
 go_ret
 exact⟨rfl,hb⟩
end
def qf8(l:List (List UInt8)):List (List UInt8):=l.mergeSort fun x y=>decide (x≤y)
theorem sorL_rises(l:List (List UInt8)):∀i j,i<j→j<(qf8 l).toArray.size→xd (qf8 l).toArray[i]! (qf8 l).toArray[j]! ≤0:=by
 have h:=qdn (le:=fun x y:List UInt8=>decide (x≤y)) (fun a b c h1 h2=>by
  rw[decide_eq_true_eq,qfe] at *
  exact qey h1 h2) (fun a b=>by
  rw[Bool.or_eq_true,decide_eq_true_eq,decide_eq_true_eq,qfe,qfe,qd2 a b]
  omega) l
 intro i j hij hj
 rw[kz] at h
 have hj':j<(qf8 l).length:=by simpa using hj
 have:=h i j (by show i<(qf8 l).length;omega) hj' hij
 rw[decide_eq_true_eq,qfe] at this
 rw[getElem!_pos _ i (by simpa using Nat.lt_trans hij hj'),getElem!_pos _ j hj]
 exact this
theorem qhj(l:List (List UInt8)):qdl l (Lib.compact (qf8 l)):=by
 obtain⟨h1,h2,h3⟩:=qip (qf8 l).toArray (sorL_rises l) (qf8 l).length (by simp)
 refine⟨h1,fun s => ?_⟩
 have hmem:s∈qf8 l↔s∈l:=List.mem_mergeSort
 rw[←hmem]
 constructor
 ·
  intro h
  obtain⟨j,hj,rfl⟩:=h2 s h
  rw[getElem!_pos _ j (by simpa using hj)]
  simp
 ·
  intro h
  obtain⟨j,hj,rfl⟩:=zl h
  have:=h3 j hj
  rw[getElem!_pos _ j (by simpa using hj),List.getElem_toArray] at this
  exact this
theorem qib{t:List (List UInt8)}(h:yh t=true):t.Nodup:=by
 rw[List.Nodup,kz]
 intro i j hi hj hij e
 have:=qfy h hij hj
 rw[e] at this
 exact qc6 this
theorem qdl.len{l t:List (List UInt8)}(h:qdl l t):t.length≤l.length:=(qib h.1).length_le_of_subset fun x hx=>(h.2 x).1 hx
theorem qdl.dic{l t:List (List UInt8)}(h:qdl l t)(hl:l.length≤4096)(h4:∀x∈l,x.length≤4096):qjf t=true :=
 qc1.2 ⟨zc h.len hl,fun x hx=>h4 x ((h.2 x).1 hx),h.1⟩
theorem place_is{t:List (List UInt8)}{x:List UInt8}{k:Nat}(h:yh t=true)(hx:x∈t)(hk:∀j (hj:j<t.length),j<k↔xd t[j] x<0):t.idxOf x=k:=by
 obtain⟨i,hi,rfl⟩:=zl hx
 rw[(qib h).idxOf_getElem]
 have h1:¬i<k:=fun hik=>qc6 ((hk i hi).1 hik)
 rcases Nat.lt_or_ge k i with h2 | h2
 ·
  have h3:=(hk k (by omega)).2 (qfy h h2 hi)
  omega
 ·
  omega
theorem sumL_le{m:Nat}:∀ {l:List (List UInt8)},(∀x∈l,x.length≤m)→qg9 l≤m*l.length
 | [],_=>by simp[qg9]
 | x :: l,h=>by
  have h1:=sumL_le (l:=l) fun y hy=>h y (jb _ hy)
  have h2:=h x zr
  rw[qg9,qo,qcm]
  omega
theorem dictionary_v{w:World}(l:List ByteArray)(kd ro:Int)(K:Nat)(ds:List Int){c d:Nat}{A B:Option Addr}(h:Rd w 0 w.heap.size A c (sv l))(hK:1≤K)(hK2:K≤64)
  (hn:l.length≤4096) (h4:∀s∈l,s.size≤4096) :
  Calls Tryz.prog 178 #[.slice A l.length c,.agg #[.int .i64 kd,.int .i64 (K:Int),.int .i64 ro,.slice B ds.length d]] w fun r w'=>∃A' c',r= .returned (.slice A' (yu l ⟨kd,K,ro,ds⟩ 3).length c')∧
   w'.ownsRow w.heap.size 5 1 (.slice A' (yu l ⟨kd,K,ro,ds⟩ 3).length c') (yu l ⟨kd,K,ro,ds⟩ 3).length (bv (yu l ⟨kd,K,ro,ds⟩ 3))∧Below w.heap.size w w'∧qdl (qt l) (qhk (qt l)):=by
 have hl:=h.len
 have hm:=h.cap
 rw[xr] at hl
 unfold maxLen at hm
 obtain⟨w1,hw1⟩:∃w1,w.alloc (.cells #[.int .i64 kd,.int .i64 (K:Int),.int .i64 ro,.slice B ds.length d] 60)=w1:=⟨_,rfl⟩
 have B1:Hid (Below w.heap.size w w1):=by unfold Hid;rw[←hw1];exact(Below.refl _ w).alloc (qc _) _
 have hs1:w1.heap.size=w.heap.size+1:=by rw[←hw1];simp
 have hs1':w.heap.size≤w1.heap.size:=by omega
 have hbx:j8 w1 w.heap.size 60 #[.int .i64 kd,.int .i64 (K:Int),.int .i64 ro,.slice B ds.length d]:=by rw[←hw1];exact j8.new w _ _
 have HCF:Hid (∀W,Below w1.heap.size w1 W→W.cell? ⟨w.heap.size,1,none⟩=some (.int .i64 (K:Int))):=fun W hW=>(hbx.below hW (by omega)).cell 1
 have H:Hid (∀W,Below w.heap.size w W→Rd W 0 W.heap.size A c (sv l)):=fun W hW=>(h.below hW (qc _)).wide (qc _) hW.size
 have HSO:=qhj (qt l)
 have hdl:=HSO.len
 rw[zb] at hdl
 have hdic:=HSO.dic (by rw[zb];exact hn) fun x hx=>by obtain⟨s,hs,rfl⟩:=za.1 hx;exact h4 s hs
 have hde:=dicS_is HSO
 have HPY:Hid (yu l ⟨kd,K,ro,ds⟩ 3=k9 K (qhk (qt l))++jr (jf (qc4 (qhk (qt l)) (qt l)))):=by unfold Hid;rw[yu,if_neg (by decide),if_pos rfl];rfl
 rw[hde] at HPY ⊢
 have HCL:=qa (clone_strs (w:=w1) l (H.out w1 B1.out) (qc _) (by omega))
 clear hbx h hde
 generalize yu l ⟨kd,K,ro,ds⟩ 3=PY at *
 have HSR:Hid (∀W A2 c2,W.ownsRow w1.heap.size 9 1 (.slice A2 l.length c2) l.length (sv l)→Calls Tryz.prog 72 #[.slice A2 l.length c2] W fun r w'=>r= .returned (.tuple #[])∧w'.ownsRow w1.heap.size 9 1 (.slice A2 l.length c2) l.length (sv (j4 (qf8 (qt l))))∧W.grownBy w' (Value.slice A2 l.length c2).ownBlock):=fun W A2 c2 ho=>by
  have:=sort_own (w:=W) (base:=w1.heap.size) (v:= .slice A2 l.length c2) (qt l) (by rw[zb,qe0];exact ho) (by rw[zb];omega)
  rw[zb] at this
  exact this
 have hsl:(qf8 (qt l)).length=l.length:=by rw[qf8,List.length_mergeSort,zb]
 have HCO:Hid (∀W A2 c2,W.ownsRow w1.heap.size 9 1 (.slice A2 l.length c2) l.length (sv (j4 (qf8 (qt l))))→Calls Tryz.prog 209 #[.slice A2 l.length c2] W fun r w'=>r= .returned (.slice A2 (Lib.compact (qf8 (qt l))).length c2)∧
   w'.ownsRow w1.heap.size 9 1 (.slice A2 (Lib.compact (qf8 (qt l))).length c2) (Lib.compact (qf8 (qt l))).length (sv (j4 (Lib.compact (qf8 (qt l)))))∧W.grownBy w' (Value.slice A2 l.length c2).ownBlock):=fun W A2 c2 ho=>by
  have:=qmy (w:=W) (base:=w1.heap.size) (A:=A2) (c:=c2) (qf8 (qt l)) (by rw[hsl];exact ho) (by rw[hsl];omega)
  rw[hsl] at this
  exact this
 have HMEM:Hid (∀k (hk:k<l.length),l[k].data.toList∈Lib.compact (qf8 (qt l))):=fun k hk=>(HSO.2 _).2 (vx (ql hk))
 have hris:=HSO.1
 generalize qf8 (qt l)=SL at *
 generalize Lib.compact SL=D at *
 have HSOF:=qa HSO
 have HDIC:=qa hdic
 have HRIS:=qa hris
 obtain⟨zs,hzs⟩:∃zs,jf (qc4 D (qt l))=zs:=⟨_,rfl⟩
 have hzl:zs.length=l.length:=by rw[←hzs,zq,qc4,qz,zb]
 have HZL:=qa hzl
 have HZ:Hid (∀k (hk:k<l.length),zs[k]? = some ((D.idxOf l[k].data.toList:Nat):Int)):=fun k hk=>by
  rw[←hzs]
  simp[jf,qc4,qt,qe hk]
 have HMY:Hid (May zs):=by
  unfold Hid
  rw[←hzs]
  refine ql2 (D:=D) (by omega) fun x hx => ?_
  obtain⟨s,hs,rfl⟩:=za.1 hx
  obtain⟨a,ha,rfl⟩:=za.1 hs
  obtain⟨k,hk,rfl⟩:=zl ha
  exact qbv (HMEM.out k hk)
 rw[hzs] at HPY
 clear HSO hdic hris hzs hzl h4 hsl
 go_enter Tryz.func178,Tryz.ntmps178
 go_wp2_with fail
 refine HCL.out.mono ?_
 rintro r w2 ⟨A2,c2,rfl,ho2,hb2⟩
 have HO2:=qa ho2
 have K2:=qa hb2
 clear ho2 hb2 HCL hw1
 go_wp2_with fail
 refine(HSR.out _ _ _ HO2.out).mono ?_
 rintro r w3 ⟨rfl,ho3,hg3⟩
 have HO3:=qa ho3
 have K3:Hid (Below w1.heap.size w1 w3):=K2.out.grown hg3 K2.out.size (fun q hq=>(zk HO2.out hq).1)
 clear ho3 hg3 HO2 K2 HSR
 go_wp2_with fail
 refine(HCO.out _ _ _ HO3.out).mono ?_
 rintro r w4 ⟨rfl,ho4,hg4⟩
 have HO4:=qa ho4
 have K4:Hid (Below w1.heap.size w1 w4):=K3.out.grown hg4 K3.out.size (fun q hq=>(zk HO3.out hq).1)
 clear ho4 hg4 HO3 K3 HCO
 have hsz4:=K4.out.size
 have KW4:Hid (Below w.heap.size w w4):=B1.out.trans (K4.out.mono hs1')
 have hS4:=HCF.out _ K4.out
 have HRD4:=qa ((Rd.of_own HO4.out).wide (qj w1.heap.size) (qc w4.heap.size))
 have HBU:=qa (fbuild_yes (w:=w4) (A:=A2) (c:=c2) (j4 D) K hK hK2 (by rw[kv];exact HDIC.out) (by exact HRD4.out))
 rw[yf,kv] at HBU
 clear HCF
 go_wp2_with fail
 refine HBU.out.mono ?_
 rintro r w5 ⟨A5,c5,rfl,ho5,hb5⟩
 have HO5:=qa ho5
 have K5:Hid (Below w.heap.size w w5):=zz KW4.out hb5 (by omega)
 have HRD5:Hid (Rd w5 0 w5.heap.size A2 c2 (sv (j4 D))):=(HRD4.out.below hb5 (qc _)).wide (qc _) hb5.size
 have hsz5:=K5.out.size
 obtain⟨w6,hmake,ho6,hg6⟩:=qg0 w5 l.length (by omega)
 have HO6:=qa ho6
 have K56:Hid (Below w5.heap.size w5 w6):=qaq (qc _) hg6 (fun g hg=>by cases hg)
 have hszw4:=KW4.out.size
 clear ho5 hb5 ho6 hg6 HBU HO4 K4 KW4 hS4 HRD4
 go_wp2_with fail
 clear hmake
 go_loopw [29] (fun i wr=>∃(k:Nat) (xs:List Value),k≤l.length∧i= .int .i64 (k:Int)∧wr.ownsRow w5.heap.size 3 1 (.slice (some ⟨w5.heap.size,0,none⟩) l.length l.length) l.length xs∧qhs (iv zs) k xs∧Below w5.heap.size w5 wr) (fun i _=>l.length-(intOf i).toNat)
 case atStart=>exact⟨0,_,qj _,rfl,HO6.out,qcb (by rw[yd,HZL.out];simp),K56.out⟩
 case round =>
  clear HO6 K56
  obtain⟨k,xs,hk,rfl,ho,hup,hb⟩:=hrel
  have HO:=qa ho
  have HUP:=qa hup
  have HB:=qa hb
  have hsz:=hb.size
  clear ho hup hb
  by_cases hlt:k<l.length
  ·
   have ik:(k:Int)<(l.length:Int):=by omega
   obtain⟨b,off,rfl,_,hbl,hc0⟩:=(H.out wr (K5.out.trans (HB.out.mono hsz5))).str hlt
   have HZ1:=qa (HZ.out k hlt)
   have HM1:=qa (HMEM.out k hlt)
   generalize l[k]=s at *
   have HSE:=qa (search_any (w:=wr) (A:=A2) (c:=c2) (n:=D.length) (j4 D) s (HRD5.out.below HB.out (qc _)) (by rw[kv];exact HRIS.out) (by rw[yf];omega) (yf D))
   go_wp2_with fail
   refine HSE.out.mono ?_
   rintro r w7 ⟨q,hq,hlo,rfl,m,rfl⟩
   have hqe:D.idxOf s.data.toList=q:=place_is HRIS.out HM1.out fun j hj=>by
    have:=hlo j (by rw[yf];exact hj)
    have e:(j4 D)[j]'(by rw[yf];exact hj)=⟨D[j].toArray⟩:=by simp[j4]
    rw[e] at this
    simpa using this
   have HZ2:Hid ((iv zs)[k]? = some (.int .i64 (q:Int))):=by
    have:=HZ1.out
    rw[hqe] at this
    simp[Hid,iv,this]
   obtain⟨bb,hbb⟩:∃bb,decide ((j4 D)[q]? = some s)=bb:=⟨_,rfl⟩
   rw[hbb]
   have HO7:Hid ((wr.drewN m).ownsRow w5.heap.size 3 1 (.slice (some ⟨w5.heap.size,0,none⟩) l.length l.length) l.length xs):=jw HO.out fun _ _=>rfl
   have HB7:Hid (Below w5.heap.size w5 (wr.drewN m)):=js HB.out m
   clear HSE hlo hbb HO HB hqe HZ1 HM1
   generalize wr.drewN m=w7 at *
   have hfr:=HO7.out.frozenAt k
   have hxk:k<xs.length:=by rw[HUP.out.1,yd,HZL.out];exact hlt
   have hcell:w7.cell? ⟨w5.heap.size,k,none⟩=some xs[k]:=by
    rw[HO7.out.cellAt k (by omega),qe hxk]
   have HST:=qa (World.ownsRow.stored HO7.out k (.int .i64 (q:Int)))
   have HBS:=qa (HB7.out.setCell (p:=⟨w5.heap.size,k,none⟩) (qc _) (.int .i64 (q:Int)))
   have HUS:=qa (um HUP.out (.int .i64 (q:Int)) HZ2.out)
   generalize xs[k]=x0 at *
   go_wp2_with fail
   go_roundw
   case rel=>exact⟨k+1,_,by omega,by go_num,HST.out.1,HUS.out,HBS.out⟩
   case measure=>simp[intOf];omega
  ·
   have ik:¬(k:Int)<(l.length:Int):=by omega
   have hx:xs=iv zs:=qdo HUP.out (by rw[yd,HZL.out];omega)
   subst hx
   have HN:=qa (numbers_v (w:=wr) (A:=some ⟨w5.heap.size,0,none⟩) (c:=l.length) zs HMY.out ((Rd.of_own HO.out).wide (qj _) (qc _)) (qc _) (by rw[HZL.out];omega))
   rw[HZL.out] at HN
   have HFL:Hid ((k9 K D).length≤1000000000∧(jr zs).length≤100000000000):=by
    refine⟨?_,zc (qb9 HMY.out (by rw[HZL.out];omega)) (by omega)⟩
    have h1:=qlx hK2 HDIC.out
    have h2:=sumL_le (m:=4096) (fun s hs=>(qc1.1 HDIC.out).2.1 s hs)
    omega
   generalize jr zs=WL at *
   generalize k9 K D=FL at *
   go_wp2_with fail
   refine HN.out.mono ?_
   rintro r w8 ⟨A8,c8,rfl,ho8,hb8⟩
   have hsz8:=hb8.size
   have hb58:Below w5.heap.size w5 w8:=zz HB.out hb8 hsz
   have hf:=HFL.out
   obtain⟨A9,c9,w9,hrun9,hown9,hg9⟩:=xm w8 w.heap.size (.slice A5 FL.length c5) FL WL PY HPY.out.symm (j9 (ji HO5.out hb58 (qc _)) hszw4) (Rd.of_own ho8) (by omega) (by omega)
   have hb9:Below w.heap.size w w9:=(K5.out.trans (hb58.mono hsz5)).grown hg9 (by omega) (fun q hq=>by have:=(zk HO5.out hq).1;omega)
   have HO9:=qa hown9
   have HB9:=qa hb9
   clear ho8 hb8 hb58 hown9 hg9 hb9 HN
   go_wp2_with (at_builtin;refine wpList_append_run rfl _ _ _ _ rfl rfl rfl hrun9 ?_)
   go_ret
   exact⟨_,_,rfl,HO9.out,HB9.out,HSOF.out⟩
theorem dist_any(z:Int)(w:World)(h1 : -9223372036854775808≤z)(h2:z≤9223372036854775807) :
  Calls Tryz.prog 221 #[.int .i64 z] w fun e w'=>e= .returned (.int .u64 (z.natAbs:Int))∧w=w':=by
 by_cases hz:z<0
 ·
  have e1:IntKind.u64.wrap (-IntKind.u64.wrap z)=(z.natAbs:Int):=by rw[IntKind.wrap_u64,IntKind.wrap_u64];omega
  have E1:=qa e1
  clear e1
  go_enter Tryz.func221,Tryz.ntmps221
  go_wp2
  go_ret
  exact⟨qar E1.out,rfl⟩
 ·
  have e1:z=(z.natAbs:Int):=by omega
  have E1:=qa e1
  clear e1
  go_enter Tryz.func221,Tryz.ntmps221
  go_wp2
  go_ret
  exact⟨qar E1.out,rfl⟩
theorem tsample_any{w:World}(l:List ByteArray)(ds:List Int){c d:Nat}{A B:Option Addr}(h:Rd w 0 w.heap.size A c (sv l))(hd:Rd w 0 w.heap.size B d (iv ds))(hln:l.length≤1000000)(hdn:ds.length≤1000000)(hsz:∀s∈l,s.size≤281474976710656)
  (hdw:∀z∈ds, -9223372036854775808≤z∧z≤9223372036854775807) :
  Calls Tryz.prog 204 #[.slice A l.length c,.slice B ds.length d] w fun r w'=>∃A' c',r= .returned (.slice A' (xe l ds).length c')∧
   w'.ownsRow w.heap.size 9 1 (.slice A' (xe l ds).length c') (xe l ds).length (sv (xe l ds))∧Below w.heap.size w w':=by
 have hl:=h.len
 have hc:=h.cap
 have hl2:=hd.len
 have hc2:=hd.cap
 rw[xr] at hl
 rw[yd] at hl2
 unfold maxLen at hc hc2
 have H:=qa h
 have HD:=qa hd
 have HZ:Hid (∀k (hk:k<l.length),l[k].size≤281474976710656):=fun k hk=>hsz _ (ql hk)
 have HW:Hid (∀k (hk:k<ds.length), -9223372036854775808≤ds[k]∧ds[k]≤9223372036854775807):=fun k hk=>hdw _ (ql hk)
 clear h hd hsz hdw
 by_cases h0:l=[]
 ·
  have hl0:l.length=0:=by rw[h0];rfl
  have HS:Hid (xe l ds=[]):=if_pos h0
  have i0:(l.length:Int)=0:=by omega
  have HI:=qa i0
  have d0:decide ((l.length:Int)=0)=true:=qx i0
  clear h0 i0
  go_enter Tryz.func204,Tryz.ntmps204
  go_wp2_with fail
  go_ret
  exact⟨none,0,by rw[HS.out];rfl,by rw[HS.out];exact zj _ _ _ _,Below.refl _ _⟩
 ·
  have hln0:l.length≠0:=fun e=>h0 (ze e)
  have i0:¬(l.length:Int)=0:=by omega
  have d0:((l.length:Int)==0)=false:=q9.2 i0
  have HLN:=qa (sample_length h0 ds)
  have HGET:Hid (∀k (hk:k<ds.length),(xe l ds)[k]'(by rw[HLN.out];exact hk)=l.getD (ds[k].natAbs%l.length) ⟨#[]⟩):=fun k hk=>by simp[xe,if_neg h0]
  clear h0
  go_enter Tryz.func204,Tryz.ntmps204
  go_wp2_with fail
  go_loopw [5,14] (fun x5 x6 wr=>∃(k:Nat) (A':Option Addr) (c':Nat),k≤ds.length∧x6= .int .i64 (k:Int)∧x5= .slice A' k c'∧wr.ownsRow w.heap.size 9 1 (.slice A' k c') k (sv ((xe l ds).take k))∧Below w.heap.size w wr) (fun _ i _=>ds.length-(intOf i).toNat)
  case atStart=>exact⟨0,none,0,qj _,rfl,rfl,zj _ _ _ _,Below.refl _ _⟩
  case round =>
   obtain⟨k,A',c',hk,rfl,rfl,hown,hb⟩:=hrel
   have HO:=qa hown
   have HB:=qa hb
   have hsz:=hb.size
   clear hown hb
   by_cases hlt:k<ds.length
   ·
    obtain⟨b1,off1,rfl, -, -,hc1⟩:=(HD.out.below HB.out (qc _)).num hlt
    have hq:ds[k].natAbs%l.length<l.length:=qb1 _ (by omega)
    obtain⟨b2,off2,rfl, -, -,hc3⟩:=(H.out.below HB.out (qc _)).str hq
    have hz2:=HZ.out _ hq
    have HKL:Hid (((xe l ds).take k).length=k):=by unfold Hid;rw[qy,HLN.out];omega
    have HTK:Hid ((xe l ds).take (k+1)=(xe l ds).take k++[l[ds[k].natAbs%l.length]]):=by
     unfold Hid
     rw[qi (by rw[HLN.out];exact hlt),HGET.out k hlt,getD_atS hq]
    have hw:=HW.out k hlt
    have hmod:((ds[k].natAbs:Nat):Int)%(l.length:Int)=((ds[k].natAbs%l.length:Nat):Int):=by push_cast;rfl
    have hab:((ds[k].natAbs:Nat):Int)≤9223372036854775808:=by omega
    have HDI:=qa (fun w=>dist_any ds[k] w hw.1 hw.2)
    generalize ds[k].natAbs=a at *
    generalize ds[k]=z at *
    have hlu:IntKind.u64.wrap (l.length:Int)=(l.length:Int):=by rw[IntKind.wrap_u64];omega
    have HSC:=qa (fun w2=>sclone_any (w:=w2) l[a%l.length] hz2)
    generalize l[a%l.length]=s at *
    generalize a%l.length=q at *
    clear hw
    go_wp2_with fail
    refine(HDI.out _).mono ?_
    rintro r w2 ⟨rfl,rfl⟩
    go_wp2_with fail
    refine(HSC.out _).mono ?_
    rintro r w2 ⟨rfl,hb2⟩
    have HO2:=qa (ji HO.out hb2 (qc _))
    have HB2:=qa (zz HB.out hb2 hsz)
    have hz3:=HB2.out.size
    clear hb2
    go_wp2_with (at_builtin;refine vj (v:= .slice A' k c') w.heap.size ((xe l ds).take k) s rfl _ _ rfl rfl rfl rfl (by rw[zm _ _ _ _ rfl];rfl) (by rw[HKL.out];exact HO2.out.alloc _) (by rw[HKL.out];omega) (by simp;omega) ?_;intro A2 c2 w3 ho3 hg3)
    go_roundw
    case rel =>
     have hl3:((xe l ds).take k++[s]).length=k+1:=by rw[qd,HKL.out];rfl
     refine⟨k+1,A2,c2,by omega,by go_num,by rw[show min k (xe l ds).length=k by rw[HLN.out];omega],?_,(HB2.out.alloc hz3 _).grown hg3 (by simp;omega) (fun q hq=>(zk HO2.out hq).1)⟩
     rw[hl3] at ho3
     rw[HTK.out]
     exact ho3
    case measure=>simp[intOf] <;> omega
   ·
    have hke:k=(xe l ds).length:=by rw[HLN.out];omega
    have HKE:=qa hke
    have HT:Hid ((xe l ds).take k=xe l ds):=qp (by omega)
    clear hke
    go_wp2_with fail
    go_ret
    exact⟨A',c',by rw[←HKE.out];rfl,by rw[←HKE.out];have:=HO.out;rw[HT.out] at this;exact this,HB.out⟩
end Go.Proofs.YtjfecojdagmacaaGreat
