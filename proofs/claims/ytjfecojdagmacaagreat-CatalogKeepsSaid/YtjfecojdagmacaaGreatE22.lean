/-
  Lemmas.
-/
import Derived.Test.YtjfecojdagmacaaGreatE21
import Derived.Laws.ComplexArith
namespace Go.Proofs.YtjfecojdagmacaaGreat
open Go.RowKit
set_option maxRecDepth 20000
set_option maxHeartbeats 16000000
set_option linter.unusedSimpArgs false
set_option linter.unusedVariables false
theorem qlk{t:List (List UInt8)}(h:jz t=true):t.length≤255∧∀s∈j4 t,s.size≤8:=by
 obtain⟨h1,h2, -⟩:=vu.1 h
 refine⟨h1,fun s hs => ?_⟩
 obtain⟨x,hx,rfl⟩:=za.1 hs
 have:=(qeb.1 (h2 x hx)).2
 show x.toArray.size≤8
 simpa using this
theorem sample_mem{l:List ByteArray}{ds:List Int}{m:Nat}(h:∀s∈l,s.size≤m):∀s∈xe l ds,s.size≤m:=fun s hs=>by
 unfold xe at hs
 split at hs
 ·
  cases hs
 ·
  rename_i hne
  obtain⟨d,_,rfl⟩:=za.1 hs
  have hp:0<l.length:=List.length_pos_iff.2 hne
  have hm:d.natAbs%l.length<l.length:=qb1 _ hp
  rw[j7,qe hm]
  exact h _ (ql hm)
theorem sample_few(l:List ByteArray)(ds:List Int):(xe l ds).length≤ds.length:=by
 unfold xe
 split
 ·
  exact qj _
 ·
  rw[qz];exact qc _
theorem putT_few{t:List (List UInt8)}(h:jz t=true):(qeq t).length≤3000:=by
 obtain⟨h1,h2, -⟩:=vu.1 h
 have h3:∀ {u:List (List UInt8)},(∀s∈u,qgo s=true)→(qhx u).length≤9*u.length:=by
  intro u
  induction u with
  | nil=>intro _;simp[qhx]
  | cons a u ih =>
   intro hu
   have h4:=ih fun s hs=>hu s (jb _ hs)
   have h5:=(qeb.1 (hu a zr)).2
   rw[qfn,qo,qd,qo]
   omega
 have h4:=h3 h2
 rw[qfq,qo]
 omega
theorem symbols_v{w:World}(l:List ByteArray)(kd bl ro:Int)(ds:List Int){c d:Nat}{A B:Option Addr}(h:Rd w 0 w.heap.size A c (sv l))(hd:Rd w 0 w.heap.size B d (iv ds))(hw:qjg ds)(hro : -9223372036854775808≤ro∧ro≤9223372036854775807)
  (hn:l.length≤10000) (hdn:ds.length≤400) (h4:∀s∈l,s.size≤10000) :
  Calls Tryz.prog 177 #[.slice A l.length c,.agg #[.int .i64 kd,.int .i64 bl,.int .i64 ro,.slice B ds.length d]] w fun r w'=>∃A' c',r= .returned (.slice A' (yu l ⟨kd,bl,ro,ds⟩ 2).length c')∧
   w'.ownsRow w.heap.size 5 1 (.slice A' (yu l ⟨kd,bl,ro,ds⟩ 2).length c') (yu l ⟨kd,bl,ro,ds⟩ 2).length (bv (yu l ⟨kd,bl,ro,ds⟩ 2))∧Below w.heap.size w w'∧jz (ki l ⟨kd,bl,ro,ds⟩)=true:=by
 have hl:=h.len
 have hm:=h.cap
 have hdl:=hd.len
 have hdm:=hd.cap
 rw[xr] at hl
 rw[yd] at hdl
 unfold maxLen at hm hdm
 obtain⟨w1,hw1⟩:∃w1,w.alloc (.cells #[.int .i64 kd,.int .i64 bl,.int .i64 ro,.slice B ds.length d] 60)=w1:=⟨_,rfl⟩
 have B1:Hid (Below w.heap.size w w1):=by unfold Hid;rw[←hw1];exact(Below.refl _ w).alloc (qc _) _
 have hs1:w1.heap.size=w.heap.size+1:=by rw[←hw1];simp
 have hb:j8 w1 w.heap.size 60 #[.int .i64 kd,.int .i64 bl,.int .i64 ro,.slice B ds.length d]:=by rw[←hw1];exact j8.new w _ _
 have HCF:Hid (∀W,Below w1.heap.size w1 W→W.cell? ⟨w.heap.size,2,none⟩=some (.int .i64 ro)∧W.cell? ⟨w.heap.size,3,none⟩=some (.slice B ds.length d)):=fun W hW=>⟨(hb.below hW (by omega)).cell 2,(hb.below hW (by omega)).cell 3⟩
 have hS0:=HCF.out _ (Below.refl _ _)
 have hS1:=HCF.out _ ((Below.refl _ _).drew)
 have KD:Hid (Below w1.heap.size w1 w1.drew):=(Below.refl _ _).drew
 have HS:Hid (∀W,Below w1.heap.size w1 W→Calls Tryz.prog 204 #[.slice A l.length c,.slice B ds.length d] W fun r w'=>∃A' c',r= .returned (.slice A' (xe l ds).length c')∧
   w'.ownsRow W.heap.size 9 1 (.slice A' (xe l ds).length c') (xe l ds).length (sv (xe l ds))∧Below W.heap.size W w'):=fun W hW =>
  tsample_any l ds ((h.below (B1.out.trans (hW.mono (by omega))) (qc _)).wide (qc _) (by have:=hW.size;omega)) ((hd.below (B1.out.trans (hW.mono (by omega))) (qc _)).wide (qc _) (by have:=hW.size;omega)) (by omega) (by omega) (fun s hs=>zc (h4 s hs) (by omega)) hw
 have HT:Hid (∀W A2 c2,W.ownsRow w1.heap.size 9 1 (.slice A2 (xe l ds).length c2) (xe l ds).length (sv (xe l ds))→Calls Tryz.prog 203 #[.slice A2 (xe l ds).length c2,.int .i64 ro] W fun r w'=>∃t A' c',r= .returned (.slice A' t.length c')∧qbf (qt (xe l ds)) (qgd ro) t∧
   w'.ownsRow W.heap.size 9 1 (.slice A' t.length c') t.length (sv (j4 t))∧Below W.heap.size W w'):=fun W A2 c2 ho =>
  train_any (xe l ds) ro ((Rd.of_own ho).wide (qj _) (qc _)) (zc (sample_few l ds) hdn) (fun s hs=>zc (sample_mem h4 s hs) (by omega)) hro
 have H:Hid (∀W,Below w.heap.size w W→Rd W 0 W.heap.size A c (sv l)):=fun W hW=>(h.below hW (qc _)).wide (qc _) hW.size
 have HH4:=qa h4
 obtain⟨o,ho⟩:∃o:Co,o=⟨kd,bl,ro,ds⟩:=⟨_,rfl⟩
 have HTS:Hid (∀t,qbf (qt (xe l ds)) (qgd ro) t→ki l o=t):=fun t ht=>by rw[ho];exact tabS_is ht
 have HPY:Hid (yu l o 2=qeq (ki l o)++ku ((qt l).map (kx (ki l o)))):=by unfold Hid;rw[yu,if_pos rfl]
 rw[←ho]
 generalize xe l ds=S at *
 generalize yu l o 2=PY at *
 generalize ki l o=T at *
 clear h hd hb ho h4
 go_enter Tryz.func177,Tryz.ntmps177
 go_wp2_with fail
 clear hw1
 go_region_held3 (fun w'=>w'.cell? ⟨w.heap.size,2,none⟩=some (.int .i64 ro)∧w'.cell? ⟨w.heap.size,3,none⟩=some (.slice B ds.length d)) (first | assumption | go_keep) (first
  | (go_at_call 203;have ho2:=HO2.out;refine(HT.out _ _ _ ho2).mono ?_;rintro r wz ⟨t,A3,c3,rfl,htr,ho3,hbz⟩;have hte:=HTS.out t htr;subst hte;have HTR:=qa htr;have HO3:=qa ho3;have KZ:Hid (Below w1.heap.size w1 wz):=KY.out.trans (hbz.mono KY.out.size);have hSz:=HCF.out _ KZ.out;clear hbz htr ho3)
  | (go_at_call 204;refine(HS.out _ KD.out).mono ?_;rintro r wy ⟨A2,c2,rfl,ho2,hby⟩;have HO2:=qa (j9 ho2 KD.out.size);have KY:Hid (Below w1.heap.size w1 wy):=KD.out.trans (hby.mono KD.out.size);have hSy:=HCF.out _ KY.out;clear hby ho2))
 clear HS HT HCF KD hS0 hS1 hSy hSz HO2
 have hR:jz T=true:=HTR.out.right
 have HR:=qa hR
 obtain⟨ht5,ht8⟩:=qlk hR
 have hsz1:=KZ.out.size
 have KW:Hid (Below w.heap.size w wz):=B1.out.trans (KZ.out.mono (by omega))
 have HP:=qa (sput_yes (w:=wz) (c:=c3) (A:=A3) (j4 T) (by exact(Rd.of_own HO3.out).wide (qj _) (qc _)) (by rw[kv];exact hR))
 rw[yf,kv] at HP
 clear hR KY HTS
 go_wp2_with fail
 refine HP.out.mono ?_
 rintro r w3 ⟨A4,c4,rfl,ho4,hb4⟩
 have HO4:=qa ho4
 have K3:Hid (Below w.heap.size w w3):=zz KW.out hb4 (by omega)
 have hsz3:=K3.out.size
 have hszz:=KW.out.size
 have HRT:Hid (Rd w3 0 w3.heap.size A3 c3 (sv (j4 T))):=((Rd.of_own HO3.out).wide (qj _) (qc _)).below hb4 (qc _) |>.wide (qc _) hb4.size
 have HE:Hid (∀W,Below w3.heap.size w3 W→∀s:ByteArray,s.size≤10000→Calls Tryz.prog 206 #[.slice A3 T.length c3,.string s] W fun r w'=>∃A' c',r= .returned (.slice A' (kx T s.data.toList).length c')∧
   w'.ownsRow W.heap.size 5 1 (.slice A' (kx T s.data.toList).length c') (kx T s.data.toList).length (bv (kx T s.data.toList))∧Below W.heap.size W w'):=fun W hW s hs=>by
  have:=qmv (w:=W) (c:=c3) (A:=A3) (j4 T) s ((HRT.out.below hW (qc _)).wide (qc _) hW.size) (by rw[kv];exact HR.out) (by omega)
  rw[yf,kv] at this
  exact this
 clear hb4 ho4 HP HO3 HRT KZ KW HTR
 go_wp2_with fail
 go_loopw [8,25] (fun x i wr=>∃(k:Nat) (ps:List Part) (A':Option Addr) (c':Nat),k≤l.length∧i= .int .i64 (k:Int)∧qi6 ps=((qt l).map (kx T)).take k∧x= .slice A' k c'∧PR wr w3.heap.size (.slice A' k c') k ps∧Below w3.heap.size w3 wr) (fun _ i _=>l.length-(intOf i).toNat)
 case atStart=>exact⟨0,[],none,0,qj _,rfl,rfl,rfl,PR.nil _ _,Below.refl _ _⟩
 case round =>
  obtain⟨k,ps,A',c',hk,rfl,hys,rfl,hp,hb⟩:=hrel
  have HY:=qa hys
  have HP:=qa hp
  have HB:=qa hb
  have hsz:=hb.size
  clear hb hys hp
  by_cases hlt:k<l.length
  ·
   have ik:(k:Int)<(l.length:Int):=by omega
   obtain⟨b,off,rfl,_,hbl,hc0⟩:=(H.out wr (K3.out.trans (HB.out.mono hsz3))).str hlt
   have HE1:=qa (HE.out wr HB.out l[k] (HH4.out _ (ql hlt)))
   have HT:Hid (((qt l).map (kx T)).take (k+1)=((qt l).map (kx T)).take k++[kx T l[k].data.toList]):=by
    unfold Hid
    rw[qi (by rw[qz,zb];exact hlt),j5,vq l k hlt]
   generalize l[k]=s at *
   generalize kx T s.data.toList=e at *
   go_wp2_with fail
   refine HE1.out.mono ?_
   rintro r w5 ⟨A5,c5,rfl,ho5,hb5⟩
   have hsz5:=hb5.size
   have HB5:=qa (zz HB.out hb5 hsz)
   obtain⟨q,hq⟩:∃p:Part,p=⟨A5,c5,e⟩:=⟨_,rfl⟩
   have HQ:=qa hq
   have hrd5:=Rd.of_own ho5
   have HRQ:Hid (Rd (w5.alloc (.cells #[.slice A5 e.length c5] 36)) w3.heap.size (w5.alloc (.cells #[.slice A5 e.length c5] 36)).heap.size q.A q.c (bv q.bs)):=by
    unfold Hid
    rw[hq]
    exact(hrd5.alloc (qc _) _).wide hsz (by simp)
   have HZA:Hid (0<q.bs.length→∀b off,q.A=some ⟨b,off,none⟩→(Value.slice A' k c').ownBlock≠some b):=by
    unfold Hid
    rw[hq]
    exact HP.out.fresh hrd5
   have HPA:=qa ((HP.out.below hb5 (qc _)).alloc (.cells #[.slice A5 e.length c5] 36))
   have HBA:=qa (HB5.out.alloc (by omega) (.cells #[.slice A5 e.length c5] 36))
   clear hrd5 hb5 ho5 HP HB hq HE1 HB5
   go_wp2_with (at_builtin;refine qbn (v:= .slice A' k c') w3.heap.size ps q rfl _ _ rfl rfl rfl rfl (by rw[HQ.out,zm _ _ _ _ rfl];rfl) HPA.out HRQ.out HZA.out (by omega) (by simp;omega) ?_;intro A7 c7 w7 hp7 hg7;refine qbj ?_)
   have HB7:=qa (HBA.out.grown hg7 (by simp;omega) (fun q hq=>(zk HPA.out.own hq).1))
   have HP7:=qa hp7
   have HY7:Hid (qi6 (ps++[q])=((qt l).map (kx T)).take (k+1)):=by
    unfold Hid
    rw[HT.out,←HY.out,HQ.out]
    simp[qi6]
   clear hp7 hg7 HPA HRQ HZA HBA
   refine⟨?_⟩
   go_wp2_with fail
   go_roundw
   case rel=>exact⟨k+1,ps++[q],A7,c7,by omega,by go_num,HY7.out,rfl,HP7.out,HB7.out⟩
   case measure=>simp[intOf] <;> omega
  ·
   have ik:¬(k:Int)<(l.length:Int):=by omega
   have hke:((qt l).map (kx T)).take k=(qt l).map (kx T):=qp (by rw[qz,zb];omega)
   rw[hke] at HY
   have hpl:=HP.out.len
   have hen:∀x∈(qt l).map (kx T),x.length≤20000:=fun x hx=>by
    obtain⟨y,hy,rfl⟩:=za.1 hx
    obtain⟨s,hs,rfl⟩:=za.1 hy
    have h1:=qk4 T s.data.toList
    have h2:=HH4.out s hs
    have h3:s.data.toList.length=s.size:=rfl
    omega
   have hsum:(yg ps).length≤20000*l.length:=by
    rw[←qf2,HY.out]
    have:=qio hen
    rwa [qz,zb] at this
   have HJ:=qa (joined_v (w:=wr) (A:=A') (c:=c') ps (HP.out.read.wide (qj _) (qc _)) (HP.out.rd.wide (qj _) (qc _)) (by omega) (by omega) (fun p hp=>zc (hen p.bs (by rw[←HY.out];exact vx hp)) (by omega)))
   rw[HY.out,hpl] at HJ
   have HJL:Hid ((ku ((qt l).map (kx T))).length≤1000000000000):=by
    unfold Hid
    have h1:=qio hen
    rw[qz,zb] at h1
    have h2:=qb9 (zs:=jf (((qt l).map (kx T)).map List.length)) (qky (m:=20000) (by omega) fun x hx=>by have:=hen x hx;omega) (by rw[zq,qz,qz,zb];omega)
    rw[ku,qd]
    omega
   have hpt:(qeq T).length≤3000:=putT_few HR.out
   clear hsum hpl hen
   generalize ku ((qt l).map (kx T))=J at *
   generalize qeq T=pt at *
   go_wp2_with fail
   refine HJ.out.mono ?_
   rintro r w6 ⟨A6,c6,rfl,ho6,hb6⟩
   have hsz6:=hb6.size
   have hb36:Below w3.heap.size w3 w6:=zz HB.out hb6 hsz
   obtain⟨A8,c8,w8,hrun8,hown8,hg8⟩:=xm w6 w.heap.size (.slice A4 pt.length c4) pt J PY HPY.out.symm (j9 (ji HO4.out hb36 (qc _)) hszz) (Rd.of_own ho6) (by have:=HJL.out;omega) (by omega)
   have hb8:Below w.heap.size w w8:=(K3.out.trans (hb36.mono hsz3)).grown hg8 (by omega) (fun q hq=>by have:=(zk HO4.out hq).1;omega)
   have HO8:=qa hown8
   have HB8:=qa hb8
   clear ho6 hb6 hb36 hown8 hg8 hb8 HJ
   go_wp2_with (at_builtin;refine wpList_append_run rfl _ _ _ _ rfl rfl rfl hrun8 ?_)
   go_ret
   exact⟨_,_,rfl,HO8.out,HB8.out,HR.out⟩
theorem dic_of(S:List (List UInt8)):qdl S (qhk S):=by
 have h:=qhj S
 rw[dicS_is h]
 exact h
theorem dec_all{T:List (List UInt8)}(hT:T.length≤255){l:List UInt8}(hl:l.length≤4096):(qc2 T 4096 (kx T l) [] 0).1=l∧(qc2 T 4096 (kx T l) [] 0).2.1=0:=by
 obtain⟨k,hk⟩:=dec_enc hT l
 have h:=hk 4096 [] [] 0 (by simp;omega)
 rw[jd] at h
 rw[h,qc2]
 exact⟨xu _,rfl⟩
noncomputable def qap (l:List Vl)(o:Co):Chk :=
 if y9 (qr l) o=2 then ⟨2,xi l,(qt (qr l)).map (kx (ki (qr l) o)),ki (qr l) o,[],[]⟩
 else if y9 (qr l) o=3 then ⟨3,xi l,[],[],qhk (qt (qr l)),qc4 (qhk (qt (qr l))) (qt (qr l))⟩
 else ⟨1,xi l,qt (qr l),[],[],[]⟩
theorem qiq(l:List Vl)(o:Co):(qap l o).there=xi l:=by
 unfold qap
 repeat' split
 all_goals rfl
theorem chkOf_kind{l:List Vl}{o:Co}(h:qbs o):((qap l o).kind:Int)=y9 (qr l) o:=by
 have h1:=qf4 (qr l) h
 unfold qap
 split
 ·
  rename_i h2;rw[h2];rfl
 ·
  split
  ·
   rename_i h2;rw[h2];rfl
  ·
   show(1:Int)=_
   omega
theorem codeL_chk{l:List Vl}{o:Co}(h:qbs o):qf6 l o=qgb o.block.toNat (qap l o):=by
 have hk:=chkOf_kind (l:=l) h
 have h1:=qf4 (qr l) h
 unfold qf6 qgb
 rw[←hk,qiq,kf]
 refine congrArg _ (congrArg _ ?_)
 rcases h1 with h1 | h1 | h1
 ·
  have e:qap l o=⟨1,xi l,qt (qr l),[],[],[]⟩:=by rw[qap,if_neg (by omega),if_neg (by omega)]
  rw[e,yu,if_neg (by simp),if_neg (by simp)]
  rfl
 ·
  have e:qap l o=⟨2,xi l,(qt (qr l)).map (kx (ki (qr l) o)),ki (qr l) o,[],[]⟩:=by rw[qap,if_pos h1]
  rw[e,yu,if_pos (by simp)]
  rfl
 ·
  have e:qap l o=⟨3,xi l,[],[],qhk (qt (qr l)),qc4 (qhk (qt (qr l))) (qt (qr l))⟩:=by rw[qap,if_neg (by omega),if_pos h1]
  rw[e,yu,if_neg (by simp),if_pos (by simp)]
  rfl
theorem qg4(s:ByteArray):s.data.toList.length=s.size:=by simp
theorem chkOf_ok{l:List Vl}{o:Co}(hf:uj l)(hc:qbs o)(ht:y9 (qr l) o=2→jz (ki (qr l) o)=true):ChkOk (qap l o):=by
 have hts:∀s∈qr l,s.size≤4096:=fun s hs=>by obtain⟨v,hv,rfl⟩:=qfs hs;exact(hf.2 v hv).1
 have hbs:∀x∈qt (qr l),x.length≤4096:=fun x hx=>by
  obtain⟨s,hs,rfl⟩:=za.1 hx
  rw[qg4]
  exact hts s hs
 have hln:(qt (qr l)).length=cnt (xi l):=by rw[zb,texts_cnt]
 have h4:(xi l).length≤4096:=by rw[uq];exact hf.1
 have h1:=qf4 (qr l) hc
 rcases h1 with h1 | h1 | h1
 ·
  have e:qap l o=⟨1,xi l,qt (qr l),[],[],[]⟩:=by rw[qap,if_neg (by omega),if_neg (by omega)]
  rw[e]
  exact⟨h4,.inl ⟨rfl,hln,hbs,rfl,rfl,rfl⟩⟩
 ·
  have e:qap l o=⟨2,xi l,(qt (qr l)).map (kx (ki (qr l) o)),ki (qr l) o,[],[]⟩:=by rw[qap,if_pos h1]
  rw[e]
  have hr:=ht h1
  have h255:=(qlk hr).1
  refine⟨h4,.inr (.inl ⟨rfl,by rw[qz];exact hln,hr,fun x hx => ?_,rfl,rfl⟩)⟩
  obtain⟨y,hy,rfl⟩:=za.1 hx
  obtain⟨d1,d2⟩:=dec_all h255 (hbs y hy)
  refine⟨?_,zc (qk4 _ y) (by have:=hbs y hy;omega)⟩
  rw[qdp,d1,d2]
  simp
 ·
  have e:qap l o=⟨3,xi l,[],[],qhk (qt (qr l)),qc4 (qhk (qt (qr l))) (qt (qr l))⟩:=by rw[qap,if_neg (by omega),if_pos h1]
  rw[e]
  have hd:=dic_of (qt (qr l))
  have hlt:(qt (qr l)).length≤4096:=by rw[zb];exact zc (qfl l) hf.1
  refine⟨h4,.inr (.inr ⟨rfl,rfl,rfl,hd.dic hlt hbs,by rw[←hln];simp[qc4],fun x hx => ?_⟩)⟩
  obtain⟨y,hy,rfl⟩:=za.1 hx
  exact qbv ((hd.2 y).2 hy)
theorem chkOf_str{l:List Vl}{o:Co}(hf:uj l)(hc:qbs o)(ht:y9 (qr l) o=2→jz (ki (qr l) o)=true):qd4 (qap l o)=qr l:=by
 have hts:∀s∈qr l,s.size≤4096:=fun s hs=>by obtain⟨v,hv,rfl⟩:=qfs hs;exact(hf.2 v hv).1
 have h1:=qf4 (qr l) hc
 rcases h1 with h1 | h1 | h1
 ·
  have e:qap l o=⟨1,xi l,qt (qr l),[],[],[]⟩:=by rw[qap,if_neg (by omega),if_neg (by omega)]
  rw[e,qd4,if_neg (by simp),if_neg (by simp)]
  exact qe0 _
 ·
  have e:qap l o=⟨2,xi l,(qt (qr l)).map (kx (ki (qr l) o)),ki (qr l) o,[],[]⟩:=by rw[qap,if_pos h1]
  rw[e,qd4,if_pos (by simp)]
  have h255:=(qlk (ht h1)).1
  show((qt (qr l)).map (kx (ki (qr l) o))).map (fun b=>(⟨(qc2 (ki (qr l) o) 4096 b [] 0).1.toArray⟩:ByteArray))=qr l
  generalize ki (qr l) o=T at *
  generalize qr l=S at *
  clear e h1 ht hf
  induction S with
  | nil=>rfl
  | cons a S ih =>
   have h2:=(dec_all h255 (l:=a.data.toList) (by rw[qg4];exact hts a zr)).1
   have h3:=ih (fun s hs=>hts s (jb _ hs))
   show(⟨(qc2 T 4096 (kx T a.data.toList) [] 0).1.toArray⟩:ByteArray) :: _=a :: S
   rw[h2]
   exact congrArg _ h3
 ·
  have e:qap l o=⟨3,xi l,[],[],qhk (qt (qr l)),qc4 (qhk (qt (qr l))) (qt (qr l))⟩:=by rw[qap,if_neg (by omega),if_pos h1]
  rw[e,qd4,if_neg (by simp),if_pos (by simp)]
  have hd:=(dic_of (qt (qr l))).2
  show(qc4 (qhk (qt (qr l))) (qt (qr l))).map (fun n=>(j4 (qhk (qt (qr l)))).getD n ⟨#[]⟩)=qr l
  generalize qhk (qt (qr l))=D at *
  generalize qr l=S at *
  have hm:∀s∈S,s.data.toList∈D:=fun s hs=>(hd _).2 (vx hs)
  clear hd e h1 hts ht hf
  induction S with
  | nil=>rfl
  | cons a S ih =>
   have h2:=hm a zr
   have hlt:=qbv h2
   have h3:=ih (fun s hs=>hm s (jb _ hs))
   show(j4 D).getD (D.idxOf a.data.toList) ⟨#[]⟩ :: _=a :: S
   rw[j7,qe (by rw[yf];exact hlt)]
   have e:(j4 D)[D.idxOf a.data.toList]'(by rw[yf];exact hlt)=⟨(D[D.idxOf a.data.toList]).toArray⟩:=by simp[j4]
   show(j4 D)[D.idxOf a.data.toList]'(by rw[yf];exact hlt) :: _=a :: S
   rw[e,List.getElem_idxOf hlt]
   exact congrArg _ h3
theorem chkOf_vals{l:List Vl}{o:Co}(hf:uj l)(hc:qbs o)(ht:y9 (qr l) o=2→jz (ki (qr l) o)=true):qaj (qap l o)=l:=by
 rw[qaj,chkOf_str hf hc ht,qiq]
 exact qmf hf.2
section
set_option maxRecDepth 20000
set_option exponentiation.threshold 2000
open Ieee
theorem qa9{P:Program}{w:World}(a:Addr)(m:Mode)(k:FloatKind)(x y:Nat):(store a (.complex k x y) m).run P w=stored P w a (.complex k x y) m:=run_store P w a _ m rfl
def fl(n:Nat):Nat:=floatOfInt .f64 (n:Int)
theorem cut_zero(neg:Bool)(n:Nat):Toward.even.cut neg n 0=n:=by
 unfold Toward.cut
 simp
 omega
theorem cut_even{neg:Bool}{n d:Nat}(h:d≤n.log2+2)(hd:2 ^ d ∣ n):Toward.even.cut neg n d=n/2 ^ d:=by
 obtain⟨q,rfl⟩:=hd
 have hp:0<2 ^ d:=Nat.pow_pos (by omega)
 unfold Toward.cut
 rw[vr h]
 simp only[Nat.one_shiftLeft,Nat.mul_mod_right,Nat.mul_zero,Nat.mul_div_cancel_left _ hp]
 have h1:decide (2 ^ d<0)=false:=by simp
 have h2:(2 ^ d==0)=false:=by simp[Nat.ne_of_gt hp]
 simp[h1,h2]
def sig(m:Nat):Nat:=m*2 ^ (52-m.log2)
theorem sig_bd{m:Nat}(h0:m≠0)(h:m<2 ^ 53):2 ^ 52≤sig m∧sig m<2 ^ 53:=by
 have hl:m.log2≤52:=by have:=(Nat.log2_lt h0).2 h;omega
 have h1:=Nat.log2_self_le h0
 have h2:=@Nat.lt_log2_self m
 unfold sig
 constructor
 ·
  calc 2 ^ 52=2 ^ m.log2*2 ^ (52-m.log2):=by rw[←xx];congr 1;omega
   _≤_:=vf _ h1
 ·
  calc m*2 ^ (52-m.log2)<2 ^ (m.log2+1)*2 ^ (52-m.log2):=Nat.mul_lt_mul_of_pos_right h2 (Nat.pow_pos (by omega))
   _=2 ^ 53:=by rw[←xx];congr 1;omega
theorem nearest_is{m:Nat}(k:Nat)(h0:m≠0)(h:m<2 ^ 53):double.nearest false (m*2 ^ k) (-(k:Int))=(m.log2+1022)*2 ^ 52+sig m:=by
 have hl:m.log2≤52:=by have:=(Nat.log2_lt h0).2 h;omega
 have hp:0<2 ^ k:=Nat.pow_pos (by omega)
 have hlog:(m*2 ^ k).log2=m.log2+k:=by
  have hmk:m*2 ^ k≠0:=Nat.mul_ne_zero h0 (by omega)
  have a1:=Nat.log2_self_le h0
  have a2:=@Nat.lt_log2_self m
  refine(Nat.log2_eq_iff hmk).2 ⟨?_,?_⟩
  ·
   rw[xx];exact vf _ a1
  ·
   rw[show m.log2+k+1=(m.log2+1)+k by omega,xx];exact Nat.mul_lt_mul_of_pos_right a2 hp
 unfold Format.nearest
 rw[if_neg (Nat.mul_ne_zero h0 (by omega)),hlog]
 have hlp:double.leastPlace = -1074:=by decide
 have hfb:double.fractionBits=52:=rfl
 have hlast:max (-(k:Int)+((m.log2+k:Nat):Int)-(double.fractionBits:Int)) double.leastPlace=(m.log2:Int)-52:=by rw[hlp,hfb];omega
 rw[hfb,hlp] at hlast
 rw[hfb,hlp,hlast]
 have hk1:Toward.even.cut false ((m*2 ^ k) <<< (-(k:Int)-((m.log2:Int)-52)).toNat) ((m.log2:Int)-52 - -(k:Int)).toNat=sig m:=by
  by_cases hc:k+m.log2≤52
  ·
   rw[show((m.log2:Int)-52 - -(k:Int)).toNat=0 by omega,cut_zero,show(-(k:Int)-((m.log2:Int)-52)).toNat=52-m.log2-k by omega,uw,qc9,←xx,sig]
   congr 2
   omega
  ·
   rw[show(-(k:Int)-((m.log2:Int)-52)).toNat=0 by omega,Nat.shiftLeft_zero,show((m.log2:Int)-52 - -(k:Int)).toNat=k+m.log2-52 by omega]
   have e:m*2 ^ k=sig m*2 ^ (k+m.log2-52):=by
    rw[sig,qc9,←xx];congr 2;omega
   rw[cut_even (by rw[hlog];omega) (by rw[e];exact Nat.dvd_mul_left _ _),e,Nat.mul_div_cancel _ (Nat.pow_pos (by omega))]
 show double.word false (min (((m.log2:Int)-52 - -1074).toNat*double.binade+Toward.even.cut false ((m*2 ^ k) <<< (-(k:Int)-((m.log2:Int)-52)).toNat) ((m.log2:Int)-52 - -(k:Int)).toNat) double.infRung)=_
 rw[hk1]
 obtain⟨s1,s2⟩:=sig_bd h0 h
 have hbin:double.binade=2 ^ 52:=rfl
 have hinf:double.infRung=2047*2 ^ 52:=rfl
 rw[show((m.log2:Int)-52 - -1074).toNat=m.log2+1022 by omega,hbin,hinf]
 have hb:(m.log2+1022)*2 ^ 52≤1074*2 ^ 52:=vf _ (by omega)
 clear hk1 hlast hlog hp h0 h hbin hinf hlp hfb
 generalize sig m=S at *
 generalize m.log2=L at *
 have hle:(L+1022)*2 ^ 52+S≤2047*2 ^ 52:=zc (Nat.add_le_add hb (Nat.le_of_lt s2)) (by decide)
 rw[vr hle]
 exact if_neg Bool.false_ne_true
theorem read_fl{n:Nat}(h:n<2 ^ 53):∃k:Nat,double.read (fl n)= .number false (n*2 ^ k) (-(k:Int)):=by
 rcases jh n with rfl | hp
 ·
  exact⟨1074,by rw[Nat.zero_mul];rfl⟩
 ·
  have h0:n≠0:=by omega
  have hl:n.log2≤52:=by have:=(Nat.log2_lt h0).2 h;omega
  have e:fl n=(n.log2+1022)*2 ^ 52+sig n:=by
   have:=nearest_is 0 h0 h
   rw[←this]
   unfold fl floatOfInt FloatKind.nearest FloatKind.encode FloatKind.format Format.write
   have d:decide ((n:Int)<0)=false:=by simp
   simp[d]
  obtain⟨s1,s2⟩:=sig_bd h0 h
  have eS:sig n=n*2 ^ (52-n.log2):=rfl
  refine⟨52-n.log2,?_⟩
  rw[←eS]
  clear eS
  generalize sig n=S at *
  generalize fl n=F at *
  have hbin:double.binade=2 ^ 52:=rfl
  have hinf:double.infRung=2047*2 ^ 52:=rfl
  have hsw:double.signWeight=2 ^ 63:=rfl
  have hlp:double.leastPlace = -1074:=by decide
  have hle:F<1076*2 ^ 52:=by
   have:(n.log2+1022)*2 ^ 52≤1074*2 ^ 52:=vf _ (by omega)
   omega
  have hge:(n.log2+1023)*2 ^ 52≤F:=by omega
  have hmul:(n.log2+1023)*2 ^ 52≥1023*2 ^ 52:=vf _ (by omega)
  have hdiv:F/2 ^ 52=n.log2+1023:=by omega
  have hmod:F%2 ^ 52=S-2 ^ 52:=by omega
  have hsign:(F/2 ^ 63%2==1)=false:=by
   rw[Nat.div_eq_of_lt (by omega)];rfl
  unfold Format.read
  simp only[hsw,hbin,hinf,hlp,hsign,xt (show F<2 ^ 63 by omega)]
  rw[if_neg (by omega),if_pos (by omega),hdiv,hmod]
  have ek:2 ^ 52+(S-2 ^ 52)=S:=by omega
  rw[ek,show(-1074:Int)+((n.log2+1023-1:Nat):Int) = -((52-n.log2:Nat):Int) by omega]
theorem cmp_mul{a b:Nat}(k:Nat):compare ((a*2 ^ k:Nat):Int) ((b*2 ^ k:Nat):Int)=compare a b:=by
 have hp:0<2 ^ k:=Nat.pow_pos (by omega)
 show compareOfLessAndEq _ _=compareOfLessAndEq a b
 unfold compareOfLessAndEq
 have h1:((a*2 ^ k:Nat):Int)<((b*2 ^ k:Nat):Int)↔a<b:=by
  rw[Int.ofNat_lt]
  exact Nat.mul_lt_mul_right hp
 have h2:((a*2 ^ k:Nat):Int)=((b*2 ^ k:Nat):Int)↔a=b:=by
  rw[Int.ofNat_inj]
  exact Nat.mul_left_inj (by omega)
 simp only[h1,h2]
theorem order_fl{a b:Nat}(ha:a<2 ^ 53)(hb:b<2 ^ 53):double.order (fl a) (fl b)=some (compare a b):=by
 obtain⟨i,hi⟩:=read_fl ha
 obtain⟨j,hj⟩:=read_fl hb
 unfold Format.order
 rw[hi,hj]
 simp only[Datum.order,signed]
 congr 1
 have hm:∀x p,p≤max i j→(x*2 ^ p) <<< (-(p:Int)-min (-(i:Int)) (-(j:Int))).toNat=x*2 ^ max i j:=fun x p hp=>by
  rw[show(-(p:Int)-min (-(i:Int)) (-(j:Int))).toNat=max i j-p by omega,uw,qc9,←xx]
  congr 2
  omega
 simp only[kr,if_false]
 rw[hm a i (by omega),hm b j (by omega),cmp_mul]
theorem lt_fl{a b:Nat}(ha:a<2 ^ 53)(hb:b<2 ^ 53):(FloatKind.f64.format.order (fl a) (fl b)==some .lt)=decide (a<b):=by
 show(double.order (fl a) (fl b)==some .lt)=_
 rw[order_fl ha hb]
 rcases Nat.lt_trichotomy a b with h | h | h
 ·
  rw[(Nat.compare_eq_lt).2 h,qx (by omega)];rfl
 ·
  subst h;simp
 ·
  rw[(Nat.compare_eq_gt).2 h,qw (by omega)];rfl
end
section
attribute [local go_sem] qa9
structure PayIn (w:World) (l:List ByteArray) (kd bl ro:Int) (ds:List Int) (A B:Option Addr) (c d:Nat):Prop where
 rd:Rd w 0 w.heap.size A c (sv l)
 dr:Rd w 0 w.heap.size B d (iv ds)
 word:qjg ds
 ok:qbs ⟨kd,bl,ro,ds⟩
 few:l.length≤4096
 draws:ds.length≤400
 size:∀s∈l,s.size≤4096
theorem PayIn.on{w w':World}{l:List ByteArray}{kd bl ro:Int}{ds:List Int}{A B:Option Addr}{c d:Nat}(h:PayIn w l kd bl ro ds A B c d)(hb:Below w.heap.size w w'):PayIn w' l kd bl ro ds A B c d :=
 ⟨(h.rd.below hb (qc _)).wide (qc _) hb.size,(h.dr.below hb (qc _)).wide (qc _) hb.size,h.word,h.ok,h.few,h.draws,h.size⟩
theorem PayIn.kind{w:World}{l:List ByteArray}{kd bl ro:Int}{ds:List Int}{A B:Option Addr}{c d:Nat}(h:PayIn w l kd bl ro ds A B c d){k:Int}(h0:0≤k)(h3:k≤3):PayIn w l k bl ro ds A B c d :=
 ⟨h.rd,h.dr,h.word,⟨h0,h3,h.ok.2.2⟩,h.few,h.draws,h.size⟩
theorem payK_kind(l:List ByteArray)(k k2 bl ro:Int)(ds:List Int)(q:Int):yu l ⟨k,bl,ro,ds⟩ q=yu l ⟨k2,bl,ro,ds⟩ q:=rfl
theorem joinB_len{r:List (List UInt8)}{m n:Nat}(h:∀x∈r,x.length≤m)(hm:m≤10000)(hn:r.length≤n)(hn2:n≤10000:=by omega):(ku r).length≤21574836475:=by
 have h1:=qio h
 have h2:=qb9 (zs:=jf (r.map List.length)) (qky (m:=10000) (by omega) fun x hx=>by have:=h x hx;omega) (by rw[zq,qz];omega)
 have h3:m*r.length≤10000*10000:=ug hm (by omega)
 rw[ku,qd]
 omega
def PayC(l:List ByteArray)(kd bl ro:Int)(ds:List Int)(A B:Option Addr)(c d:Nat):Prop:=∀ {w:World},PayIn w l kd bl ro ds A B c d→
  Calls Tryz.prog 148 #[.slice A l.length c,.agg #[.int .i64 kd,.int .i64 bl,.int .i64 ro,.slice B ds.length d]] w fun r w'=>∃A' c',r= .returned (.slice A' (yu l ⟨kd,bl,ro,ds⟩ kd).length c')∧
   w'.ownsRow w.heap.size 5 1 (.slice A' (yu l ⟨kd,bl,ro,ds⟩ kd).length c') (yu l ⟨kd,bl,ro,ds⟩ kd).length (bv (yu l ⟨kd,bl,ro,ds⟩ kd))∧Below w.heap.size w w'∧(yu l ⟨kd,bl,ro,ds⟩ kd).length≤1000000000000∧(kd=2→jz (ki l ⟨kd,bl,ro,ds⟩)=true)
theorem payload_v{w:World}{l:List ByteArray}{kd bl ro:Int}{ds:List Int}{A B:Option Addr}{c d:Nat}(h:PayIn w l kd bl ro ds A B c d)(hk:1≤kd) :
  Calls Tryz.prog 148 #[.slice A l.length c,.agg #[.int .i64 kd,.int .i64 bl,.int .i64 ro,.slice B ds.length d]] w fun r w'=>∃A' c',r= .returned (.slice A' (yu l ⟨kd,bl,ro,ds⟩ kd).length c')∧
   w'.ownsRow w.heap.size 5 1 (.slice A' (yu l ⟨kd,bl,ro,ds⟩ kd).length c') (yu l ⟨kd,bl,ro,ds⟩ kd).length (bv (yu l ⟨kd,bl,ro,ds⟩ kd))∧Below w.heap.size w w'∧(yu l ⟨kd,bl,ro,ds⟩ kd).length≤1000000000000∧(kd=2→jz (ki l ⟨kd,bl,ro,ds⟩)=true):=by
 obtain⟨o1,o2,o3,o4,o5,o6,o7⟩:=h.ok
 simp only at o1 o2 o3 o4 o5 o6 o7
 obtain⟨K,hK⟩:∃K:Nat,bl=(K:Int):=⟨bl.toNat,by omega⟩
 subst hK
 obtain⟨w1,hw1⟩:∃w1,w.alloc (.cells #[.int .i64 kd,.int .i64 (K:Int),.int .i64 ro,.slice B ds.length d] 60)=w1:=⟨_,rfl⟩
 have B1:Hid (Below w.heap.size w w1):=by unfold Hid;rw[←hw1];exact(Below.refl _ w).alloc (qc _) _
 have hs1:=B1.out.size
 have hbx:j8 w1 w.heap.size 60 #[.int .i64 kd,.int .i64 (K:Int),.int .i64 ro,.slice B ds.length d]:=by rw[←hw1];exact j8.new w _ _
 have b0:w1.cell? ⟨w.heap.size,0,none⟩=some (.int .i64 kd):=hbx.cell 0
 have b1:w1.cell? ⟨w.heap.size,1,none⟩=some (.int .i64 (K:Int)):=hbx.cell 1
 have b2:w1.cell? ⟨w.heap.size,2,none⟩=some (.int .i64 ro):=hbx.cell 2
 have b3:w1.cell? ⟨w.heap.size,3,none⟩=some (.slice B ds.length d):=hbx.cell 3
 have h1:=h.on B1.out
 have hn:=h.few
 have hsz:=h.size
 have hdn:=h.draws
 have HS:=qa (symbols_v (w:=w1) l kd K ro ds h1.rd h1.dr h1.word ⟨by omega,by omega⟩ (by omega) (by omega) (fun s hs=>zc (h1.size s hs) (by omega)))
 have HD:=qa (dictionary_v (w:=w1) (B:=B) (d:=d) l kd ro K ds h1.rd (by omega) (by omega) h1.few h1.size)
 have HP:=qa (plain_v (w:=w1) l h1.rd (by omega) (fun s hs=>zc (h1.size s hs) (by omega)))
 clear h h1 hbx
 have hsz1:∀x∈qt l,x.length≤4096:=fun x hx=>by obtain⟨s,hs,rfl⟩:=za.1 hx;exact hsz s hs
 have hnl:(qt l).length≤4096:=by rw[zb];exact hn
 have HL1:=qa (joinB_len hsz1 (by omega) hnl)
 have HL2:Hid (∀o:Co,jz (ki l o)=true→(yu l o 2).length≤1000000000000):=fun o ho=>by
  have h1:=putT_few ho
  have h2:=joinB_len (r:=(qt l).map (kx (ki l o))) (m:=8192) (n:=4096) (fun x hx=>by
   obtain⟨y,hy,rfl⟩:=za.1 hx
   have:=qk4 (ki l o) y
   have:=hsz1 y hy
   omega) (by omega) (by rw[qz];exact hnl)
  rw[yu,if_pos rfl,qd]
  omega
 have HL3:Hid ((yu l ⟨3,(K:Int),ro,ds⟩ 3).length≤1000000000000):=by
  unfold Hid
  have hso:=qhj (qt l)
  rw[yu,if_neg (by decide),if_pos rfl,qd,dicS_is hso]
  have hdc:=hso.dic hnl hsz1
  have h1:=qlx (K:=(Co.block ⟨3,(K:Int),ro,ds⟩).toNat) (by show(K:Int).toNat≤64;omega) hdc
  have h2:=sumL_le (m:=4096) (fun s hs=>(qc1.1 hdc).2.1 s hs)
  have h3:=(qc1.1 hdc).1
  have h4:=qb9 (zs:=jf (qc4 (Lib.compact (qf8 (qt l))) (qt l))) (ql2 (D:=Lib.compact (qf8 (qt l))) h3 fun x hx=>by
   obtain⟨s,hs,rfl⟩:=za.1 hx
   exact qbv ((hso.2 s).2 hs)) (by rw[zq,qc4,qz];omega)
  omega
 clear hsz1 hnl hsz
 have hkk:kd=1∨kd=2∨kd=3:=by omega
 go_enter Tryz.func148,Tryz.ntmps148
 rcases hkk with rfl | rfl | rfl
 ·
  have e:yu l ⟨1,(K:Int),ro,ds⟩ 1=ku (qt l):=by rw[yu,if_neg (by decide),if_neg (by decide)]
  rw[e]
  go_wp2_with fail
  refine HP.out.mono ?_
  rintro r w2 ⟨A2,c2,rfl,ho,hb⟩
  go_wp2_with fail
  go_ret
  exact⟨_,_,rfl,j9 ho hs1,zz B1.out hb hs1,by have:=HL1.out;omega,fun h=>absurd h (by decide)⟩
 ·
  have HL2':=qa (HL2.out ⟨2,(K:Int),ro,ds⟩)
  generalize yu l ⟨2,(K:Int),ro,ds⟩ 2=P at *
  go_wp2_with fail
  refine HS.out.mono ?_
  rintro r w2 ⟨A2,c2,rfl,ho,hb,hrt⟩
  go_wp2_with fail
  go_ret
  refine⟨_,_,rfl,j9 ho hs1,zz B1.out hb hs1,?_⟩
  first | exact⟨HL2'.out hrt,fun _=>hrt⟩ | exact HL2'.out hrt
 ·
  generalize yu l ⟨3,(K:Int),ro,ds⟩ 3=P at *
  go_wp2_with fail
  refine HD.out.mono ?_
  rintro r w2 ⟨A2,c2,rfl,ho,hb,_⟩
  go_wp2_with fail
  go_ret
  exact⟨_,_,rfl,j9 ho hs1,zz B1.out hb hs1,HL3.out,fun h=>absurd h (by decide)⟩
theorem code_kW{w:World}{l:List ByteArray}{kd bl ro:Int}{ds:List Int}{A B:Option Addr}{c d:Nat}(h:PayIn w l kd bl ro ds A B c d)(hk:1≤kd)(hpay:PayC l kd bl ro ds A B c d) :
  Calls Tryz.prog 105 #[.slice A l.length c,.agg #[.int .i64 kd,.int .i64 bl,.int .i64 ro,.slice B ds.length d]] w fun r w'=>∃A' c',r= .returned (.agg #[.int .i64 kd,.slice A' (yu l ⟨kd,bl,ro,ds⟩ kd).length c',.complex .f64 (fl (yu l ⟨kd,bl,ro,ds⟩ kd).length) (fl l.length)])∧
   Rd w' w.heap.size w'.heap.size A' c' (bv (yu l ⟨kd,bl,ro,ds⟩ kd))∧Below w.heap.size w w'∧(yu l ⟨kd,bl,ro,ds⟩ kd).length≤1000000000000∧(kd=2→jz (ki l ⟨kd,bl,ro,ds⟩)=true):=by
 obtain⟨w1,hw1⟩:∃w1,(w.alloc (.cells #[.int .i64 kd,.int .i64 bl,.int .i64 ro,.slice B ds.length d] 60)).alloc (.cells #[.int .i64 0,.slice none 0 0,.complex .f64 0 0] 164)=w1:=⟨_,rfl⟩
 have B1:Hid (Below w.heap.size w w1):=by unfold Hid;rw[←hw1];exact((Below.refl _ w).alloc (qc _) _).alloc (by simp) _
 have hs1:=B1.out.size
 have hs2:w1.heap.size=w.heap.size+1+1:=by rw[←hw1];simp
 have hs3:w.heap.size+1<w1.heap.size:=by omega
 have hbx:j8 w1 w.heap.size 60 #[.int .i64 kd,.int .i64 bl,.int .i64 ro,.slice B ds.length d]:=by rw[←hw1];exact(j8.new w _ _).alloc _
 have hrx:j8 w1 (w.heap.size+1) 164 #[.int .i64 0,.slice none 0 0,.complex .f64 0 0]:=by
  rw[←hw1]
  have:=j8.new (w.alloc (.cells #[.int .i64 kd,.int .i64 bl,.int .i64 ro,.slice B ds.length d] 60)) 164 #[.int .i64 0,.slice none 0 0,.complex .f64 0 0]
  simpa using this
 have b0:w1.cell? ⟨w.heap.size,0,none⟩=some (.int .i64 kd):=hbx.cell 0
 have b1:w1.cell? ⟨w.heap.size,1,none⟩=some (.int .i64 bl):=hbx.cell 1
 have b2:w1.cell? ⟨w.heap.size,2,none⟩=some (.int .i64 ro):=hbx.cell 2
 have b3:w1.cell? ⟨w.heap.size,3,none⟩=some (.slice B ds.length d):=hbx.cell 3
 have HBX:=qa hbx
 have HRX:=qa hrx
 have HP:=qa (hpay (w:=w1) (h.on B1.out))
 have hne:¬kd=0:=by omega
 clear hpay
 clear h hbx hrx hs2
 generalize yu l ⟨kd,bl,ro,ds⟩ kd=P at *
 generalize ki l ⟨kd,bl,ro,ds⟩=T at *
 go_enter Tryz.func105,Tryz.ntmps105
 go_wp2_with fail
 refine HP.out.mono ?_
 rintro r w2 ⟨A2,c2,rfl,ho,hb,hpl,hrt⟩
 have hb0:w2.cell? ⟨w.heap.size,0,none⟩=some (.int .i64 kd):=(HBX.out.below hb (by omega)).cell 0
 have hr2:=HRX.out.below hb hs3
 have r0:w2.cell? ⟨w.heap.size+1,0,none⟩=some (.int .i64 0):=hr2.cell 0
 have r1:w2.cell? ⟨w.heap.size+1,1,none⟩=some (.slice none 0 0):=hr2.cell 1
 have r2:w2.cell? ⟨w.heap.size+1,2,none⟩=some (.complex .f64 0 0):=hr2.cell 2
 have f0:=hr2.frozen 0
 have f1:=hr2.frozen 1
 have f2:=hr2.frozen 2
 have HO:=qa ho
 have HB:=qa hb
 have HPL:=qa hpl
 have HRT:=qa hrt
 have HR2:=qa hr2
 have hsz2:=hb.size
 clear ho hb hr2 hpl hrt HP HBX HRX b0 b1 b2 b3 hw1
 go_wp2_with fail
 have hr3:=((HR2.out.put 0 (.int .i64 kd)).put 1 (.slice A2 P.length c2)).put 2 (.complex .f64 (fl P.length) (fl l.length))
 refine bodyPost_ret (v:= .agg #[.int .i64 kd,.slice A2 P.length c2,.complex .f64 (fl P.length) (fl l.length)]) ?_ rfl ⟨A2,c2,rfl,?_,?_,HPL.out,HRT.out⟩
 ·
  exact results_cell_row rfl _ _ (w.heap.size+1) 164 #[.int .i64 kd,.slice A2 P.length c2,.complex .f64 (fl P.length) (fl l.length)] (0,0) _ rfl hr3 Tryz.underlying164 rfl (by kernel_rfl)
 ·
  refine((((Rd.of_own HO.out).setCell (p:=⟨w.heap.size+1,0,none⟩) (.inl ?_) _).setCell (p:=⟨w.heap.size+1,1,none⟩) (.inl ?_) _).setCell (p:=⟨w.heap.size+1,2,none⟩) (.inl ?_) _).wide (by omega) (by simp)
  all_goals (show w.heap.size+1<w1.heap.size;omega)
 ·
  exact((((B1.out.trans (HB.out.mono hs1)).setCell (p:=⟨w.heap.size+1,0,none⟩) (by show w.heap.size≤w.heap.size+1;omega) _).setCell (p:=⟨w.heap.size+1,1,none⟩) (by show w.heap.size≤w.heap.size+1;omega) _).setCell (p:=⟨w.heap.size+1,2,none⟩) (by show w.heap.size≤w.heap.size+1;omega) _)
theorem code_k{w:World}{l:List ByteArray}{kd bl ro:Int}{ds:List Int}{A B:Option Addr}{c d:Nat}(h:PayIn w l kd bl ro ds A B c d)(hk:1≤kd) :
  Calls Tryz.prog 105 #[.slice A l.length c,.agg #[.int .i64 kd,.int .i64 bl,.int .i64 ro,.slice B ds.length d]] w fun r w'=>∃A' c',r= .returned (.agg #[.int .i64 kd,.slice A' (yu l ⟨kd,bl,ro,ds⟩ kd).length c',.complex .f64 (fl (yu l ⟨kd,bl,ro,ds⟩ kd).length) (fl l.length)])∧
   Rd w' w.heap.size w'.heap.size A' c' (bv (yu l ⟨kd,bl,ro,ds⟩ kd))∧Below w.heap.size w w'∧(yu l ⟨kd,bl,ro,ds⟩ kd).length≤1000000000000∧(kd=2→jz (ki l ⟨kd,bl,ro,ds⟩)=true):=code_kW h hk fun {w} h2=>payload_v h2 hk
end
end Go.Proofs.YtjfecojdagmacaaGreat
