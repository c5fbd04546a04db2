/-
  Lemmas.
-/
import Derived.Test.YtjfecojdagmacaaGreatD31
namespace Go.Proofs.YtjfecojdagmacaaGreat
open Go.RowKit
set_option maxRecDepth 20000
set_option maxHeartbeats 16000000
set_option linter.unusedSimpArgs false
set_option linter.unusedVariables false
theorem tailD(s:ByteArray)(k:Nat):(s.extract k s.size).data.toList=s.data.toList.drop k:=by
 rw[qdq,qen]
 rw[qcd,qo (by rw[qy,qhn];omega)]
theorem qjv(s:ByteArray)(k:Nat):(s.extract k s.size).size=s.size-k:=by rw[yt];omega
theorem getD_bytL2{l:List ByteArray}{i:Nat}(h:i<l.length):(qm l).getD i []=l[i].data.toList:=by
 rw[yb,qe (by rw[qv];exact h),yq l i h]
 rfl
theorem qoe{ss:List Nat}{m n:Nat}(h:ss.length=m+1):qmr ss n=ss.set m (ss[m]'(by omega)+n):=by
 have h1:ss.getLastD 0=ss[m]'(by omega):=by
  rw[List.getLastD_eq_getLast?,List.getLast?_eq_getElem?]
  simp only[h,Nat.add_sub_cancel]
  rw[qe (by omega)]
  rfl
 unfold qmr
 rw[h1,show ss.length-1=m by omega]
theorem refBuild_any{w:World}(l:List ByteArray)(K:Nat)(hR:qle (qm l)=true)(hK:1≤K)(hK2:K≤64){c:Nat}{A:Option Addr}(h:Rd w 0 w.heap.size A c (sv l)) :
  Calls Tryz.prog 119 #[.slice A l.length c,.int .i64 (K:Int)] w fun r w'=>∃A' c',r= .returned (.slice A' (kv K (qm l)).length c')∧
   w'.ownsRow w.heap.size 5 1 (.slice A' (kv K (qm l)).length c') (kv K (qm l)).length (bv (kv K (qm l)))∧Below w.heap.size w w':=by
 have hl:=h.len
 have hm:=h.cap
 rw[j7] at hl
 unfold maxLen at hm
 obtain⟨hD1,hD2,_⟩:=qdl.1 hR
 rw[qv] at hD1
 have H:=qa h
 have H1:Hid (∀k (hk:k<l.length),l[k].size≤4096):=fun k hk=>by
  have:=hD2 _ (ql (l:=qm l) (n:=k) (by rw[qv];exact hk))
  rw[yq l k hk,qhn] at this
  exact this
 have HEL:Hid (∀k,(qao K (qm l) k).length≤4200*k):=qld K hD2
 have HE1:Hid (∀k,(qha K (qm l) k).length≤4200):=entI_len K hD2
 have HSL:Hid (∀k,(yk K (qm l) k).length≤k):=qlu K (qm l)
 have HSP:Hid (∀k,0<k→0<(yk K (qm l) k).length):=sizes_pos K (qm l)
 have HSX:Hid (∀k,∀x∈yk K (qm l) k,x≤(qao K (qm l) k).length):=sizes_le K (qm l)
 have HBL:=qa (qv l)
 obtain⟨fr,hfr⟩:∃fr,kv K (qm l)=fr:=⟨_,rfl⟩
 rw[hfr]
 have HFD:=qa hfr
 clear h hR hD2 hfr
 go_enter Tryz.func119,Tryz.ntmps119
 go_wp2_with fail
 go_loopw [5,6,7] (fun x5 x6 x7 wr=>∃(i n m:Nat) (As Aa:Option Addr) (cs ca:Nat),i≤l.length∧x7= .int .i64 (i:Int)∧x5= .slice As n cs∧x6= .slice Aa m ca∧n=(yk K (qm l) i).length∧m=(qao K (qm l) i).length∧
  SB wr w.heap.size wr.heap.size (.slice As n cs) (.slice Aa m ca) (yk K (qm l) i) (qao K (qm l) i)∧Below w.heap.size w wr) (fun _ _ x7 _=>l.length-(intOf x7).toNat)
 case atStart=>exact⟨0,0,0,none,none,0,0,qi _,rfl,rfl,rfl,rfl,rfl,SB.nil _ _ _,Below.refl _ _⟩
 case round =>
  obtain⟨i,n,m,As,Aa,cs,ca,hi,rfl,rfl,rfl,hn,hm2,hsb,hb⟩:=hrel
  obtain⟨wy,hwy⟩:∃wy,wy=wr:=⟨_,rfl⟩
  subst hwy
  have HN:=qa hn
  have HM2:=qa hm2
  have HS:=qa hsb
  have HB:=qa hb
  have hsz:=hb.size
  have hnb:n≤4096:=by have:=HSL.out i;omega
  have hmb:m≤4200*4096:=by have:=HEL.out i;omega
  clear hn hm2 hsb hb
  by_cases hlt:i<l.length
  ·
   have ik:(i:Int)<(l.length:Int):=by omega
   obtain⟨b1,off1,rfl,_,hb1,hcell0⟩:=H.out.str hlt
   have HCELL:Hid (∀w',Below w.heap.size w w'→w'.cell? ⟨b1,off1+i,none⟩=some (.string l[i])):=fun w' hb=>(hb.cell hb1).trans hcell0
   clear hcell0
   have hts:=H1.out i hlt
   have HGT:=qa (getD_bytL2 hlt)
   have hKi:¬(K:Int)=0:=by omega
   by_cases hmod:i%K=0
   ·
    have hmi:((i:Int).tmod (K:Int))=0:=by
     have:=Int.ofNat_tmod i K
     omega
    have HEI:Hid (qha K (qm l) i=[]++vm l[i].data.toList):=by
     unfold Hid qha entL
     rw[if_pos hmod,HGT.out]
     rfl
    have HSI:Hid (yk K (qm l) (i+1)=qmr (yk K (qm l) i++[0]) (qha K (qm l) i).length):=by
     unfold Hid
     rw[yk,if_pos hmod]
    clear hmod HGT
    obtain⟨t,ht⟩:∃t,l[i]=t:=⟨_,rfl⟩
    rw[ht] at HCELL HEI hts
    obtain⟨As2,cs2,w2,hrun2,hsb2,hb2⟩:=HS.out.push HN.out (by omega) hsz
    have HS2:=qa hsb2
    have HB2:Hid (Below w.heap.size w w2):=HB.out.trans hb2
    have hlen2:n+1=(yk K (qm l) i++[0]).length:=by rw[qd,HN.out];rfl
    have hlb2:∀x∈yk K (qm l) i++[0],x≤4200*4096:=fun x hx=>by
     rcases zm.1 hx with h | h
     ·
      have:=HSX.out i x h;have:=HEL.out i;omega
     ·
      rw[ze.1 h];omega
    have HL2:=qa hlen2
    have HX2:=qa hlb2
    clear hsb2 hb2 HS HB HN hlen2 hlb2
    go_wp2_with (at_builtin;refine wpList_append_run rfl _ _ _ _ rfl rfl rfl hrun2 ?_;refine qam ?_)
    refine⟨?_⟩
    clear hrun2
    generalize yk K (qm l) i++[0]=ss at *
    have hz2:=HB2.out.size
    have hcell:=HCELL.out _ HB2.out
    have HO2:Hid (w2.ownsRow w2.heap.size 5 1 (.slice none 0 0) ([]:List UInt8).length (bv [])):=zf _ _ _ _
    have htx:=qil (w:=w2) t (by omega)
    obtain⟨tx,htxe⟩:∃tx,vm t.data.toList=tx:=⟨_,rfl⟩
    rw[htxe] at htx HEI
    have HTX:=qa htx
    have hel:=HE1.out i
    have HES:=qa (qd7 K (qm l) i)
    generalize qha K (qm l) i=en at *
    clear htx htxe
    have hpl:([]:List UInt8).length+tx.length≤4200:=by
     have:=congrArg List.length HEI.out
     rw[qd] at this
     omega
    go_wp2_with fail
    refine HTX.out.mono ?_
    rintro r w3 ⟨At,ct,rfl,hot,hbt⟩
    obtain⟨A4,c4,w4,hrun4,ho4,hg4⟩:=j9 w3 w2.heap.size (.slice none 0 0) (([]:List UInt8)) tx en HEI.out.symm (jp HO2.out hbt (qc _)) (Rd.own hot) (by omega) (by have:=hbt.size;omega)
    have hr4:∀q,(.slice none 0 0:Value).ownBlock=some q→w2.heap.size≤q:=fun q hq=>(zk HO2.out hq).1
    have HS4:=qa ((HS2.out.below hbt (qc _)).grown hg4 hr4)
    have HB4:Hid (Below w.heap.size w w4):=(zo HB2.out hbt (by omega)).grown hg4 (by have:=hbt.size;omega) (fun q hq=>by have:=hr4 q hq;omega)
    have HO4:=qa ho4
    have hz4:=HB4.out.size
    clear hot hbt ho4 hg4 HS2 HB2 hr4
    go_wp2_with (at_builtin;refine wpList_append_run rfl _ _ _ _ rfl rfl rfl hrun4 ?_;refine qam ?_)
    refine⟨?_⟩
    clear hrun4
    have hlq:=HL2.out
    obtain⟨g,rfl,hg1,hg2⟩:=qcg (by have:=HS4.out.o1;rw[←HL2.out] at this;exact this) (Nat.succ_pos _)
    have hqs:n<ss.length:=by omega
    have hcl:w4.cell? ⟨g,n,none⟩=some (.int .i64 (ss[n]:Int)):=by
     have h9:=HS4.out.o1
     rw[←HL2.out] at h9
     rw[h9.cellAt n (by omega)]
     simp[iv,z8,hqs]
    have hfr:w4.frozen? ⟨g,n,none⟩=false:=by
     have h9:=HS4.out.o1
     rw[←HL2.out] at h9
     exact h9.frozenAt n
    have hlast:=HX2.out _ (ql hqs)
    have HS5:=qa (HS4.out.set HL2.out n (ss[n]+en.length))
    have HSI2:Hid (yk K (qm l) (i+1)=ss.set n (ss[n]+en.length)):=by unfold Hid;rw[HSI.out,qoe HL2.out.symm]
    have hgz:g<w2.heap.size:=HS4.out.h1 g (by rfl)
    have HR5:=qa ((Rd.own HO4.out).setCell (p:=⟨g,n,none⟩) (Or.inl hgz) (.int .i64 ((ss[n]+en.length:Nat):Int)))
    have HB5:Hid (Below w.heap.size w (w4.setCell ⟨g,n,none⟩ (.int .i64 ((ss[n]+en.length:Nat):Int)))):=HB4.out.setCell hg1 _
    obtain⟨A6,c6,w6,hrun6,hsb6,hb6⟩:=HS5.out.more HM2.out rfl (all:=qao K (qm l) (i+1)) HES.out.symm HR5.out (by omega) HB5.out.size
    have hcs:((ss[n]+en.length:Nat):Int)=(ss[n]:Int)+(en.length:Int):=by omega
    rw[hcs] at hrun6
    have HS6:=qa hsb6
    have HB6:Hid (Below w.heap.size w w6):=HB5.out.trans hb6
    clear hcs hsb6 hb6 HS5 HR5 HB5 HS4 HO4
    generalize ss[n]=la at *
    have i1:(0:Int)≤(n:Int):=by omega
    have HM6:Hid (m+en.length=(qao K (qm l) (i+1)).length):=by unfold Hid;rw[HES.out,qd,HM2.out]
    have HN6:Hid (n+1=(yk K (qm l) (i+1)).length):=by unfold Hid;rw[HSI2.out,jn];exact HL2.out
    rw[←HSI2.out] at HS6
    clear HL2 HX2 HES hlq hqs HSI HSI2 HEI
    go_wp2_with (at_builtin;refine wpList_append_run rfl _ _ _ _ rfl rfl rfl hrun6 ?_)
    go_roundw
    case rel=>exact⟨i+1,n+1,m+en.length,some ⟨g,0,none⟩,A6,cs2,c6,by omega,by go_num,rfl,rfl,HN6.out,HM6.out,HS6.out,HB6.out⟩
    case measure=>simp[intOf] <;> omega
   ·
    have hi0:0<i:=Nat.pos_of_ne_zero fun e=>hmod (by rw[e];exact Nat.zero_mod _)
    obtain⟨j,hij⟩:∃j,i=j+1:=⟨i-1,by omega⟩
    have hmi0:¬((i:Int)%(K:Int))=0:=by
     intro e
     have:=Int.natCast_emod i K
     omega
    have hmi:(((i:Int)%(K:Int))==0)=false:=by rw[q9];exact hmi0
    have hjl:j<l.length:=by omega
    obtain⟨b2,off2,he,_,_,hcellp⟩:=H.out.str hjl
    injection he with he
    injection he with he1 he2
    subst he1 he2
    have HCELP:Hid (∀w',Below w.heap.size w w'→w'.cell? ⟨b1,off1+j,none⟩=some (.string l[j])):=fun w' hb=>(hb.cell hb1).trans hcellp
    clear hcellp
    have hps:=H1.out j hjl
    have HSH:Hid (xl l[j].data.toList l[i].data.toList=xl ((qm l).getD (i-1) []) ((qm l).getD i [])):=by
     unfold Hid
     rw[HGT.out,show i-1=j by omega,getD_bytL2 hjl]
    have HEJ:Hid (qha K (qm l) i=ji (xl l[j].data.toList l[i].data.toList)++vm (l[i].data.toList.drop (xl l[j].data.toList l[i].data.toList))):=by
     have h9:=HSH.out
     unfold Hid qha entL
     rw[if_neg hmod,←h9,HGT.out]
    have HSI:Hid (yk K (qm l) (i+1)=qmr (yk K (qm l) i) (qha K (qm l) i).length):=by
     unfold Hid
     rw[yk,if_neg hmod]
    have hnp:=HSP.out i hi0
    obtain⟨q,hq⟩:∃q,n=q+1:=⟨n-1,by have:=HN.out;omega⟩
    subst hq
    have HX2:Hid (∀x∈yk K (qm l) i,x≤4200*4096):=fun x hx=>by have:=HSX.out i x hx;have:=HEL.out i;omega
    have hij2:(i:Int)-1=(j:Int):=by omega
    have ijl:(j:Int)<(l.length:Int):=by omega
    have ij0:(0:Int)≤(j:Int):=by omega
    clear hmod HGT HSH hnp hi0 hij
    obtain⟨t,ht⟩:∃t,l[i]=t:=⟨_,rfl⟩
    obtain⟨p,hp⟩:∃p,l[j]=p:=⟨_,rfl⟩
    rw[ht] at HCELL HEJ hts
    rw[hp] at HCELP HEJ hps
    clear ht hp
    have HL2:Hid (q+1=(yk K (qm l) i).length):=HN.out
    generalize yk K (qm l) i=ss at *
    clear HN
    go_wp2_with fail
    go_loopw [9] (fun x9 wr=>∃(n2 m2:Nat),x9= .int .i64 (n2:Int)∧n2≤p.size∧n2≤t.size∧p.data.toList.take n2=t.data.toList.take n2∧wr=wy.drewN m2) (fun x9 _=>p.size-(intOf x9).toNat)
    case atStart=>exact⟨0,0,rfl,qi _,qi _,rfl,rfl⟩
    case round =>
     obtain⟨n2,m2,rfl,hnp,hnt,htk,rfl⟩:=hrel
     have hcell0:=HCELL.out _ HB.out
     have hcell0':(wy.drewN m2).cell? ⟨b1,off1+i,none⟩=some (.string t):=hcell0
     have hcelp0:=HCELP.out _ HB.out
     have hcelp0':(wy.drewN m2).cell? ⟨b1,off1+j,none⟩=some (.string p):=hcelp0
     have in2:(0:Int)≤(n2:Int):=by omega
     have hll:p.data.toList.length=p.size:=qhn p
     have hlt2:t.data.toList.length=t.size:=qhn t
     have hcase:(∃(h1:n2<p.size) (h2:n2<t.size),p[n2]=t[n2]∧Hid (p.data.toList.take (n2+1)=t.data.toList.take (n2+1)))∨
       (¬n2<p.size∧Hid (xl p.data.toList t.data.toList=n2))∨(n2<p.size∧¬n2<t.size∧Hid (xl p.data.toList t.data.toList=n2))∨
       (∃(h1:n2<p.size) (h2:n2<t.size),¬p[n2]=t[n2]∧Hid (xl p.data.toList t.data.toList=n2)):=by
      by_cases h1:n2<p.size
      ·
       by_cases h2:n2<t.size
       ·
        by_cases h3:p[n2]=t[n2]
        ·
         refine Or.inl ⟨h1,h2,h3,?_⟩
         unfold Hid
         rw[qj (by rw[hll];exact h1),qj (by rw[hlt2];exact h2),htk]
         congr 2
        ·
         exact Or.inr (Or.inr (Or.inr ⟨h1,h2,h3,qi9 (by omega) (by omega) htk (fun _ _=>h3)⟩))
       ·
        exact Or.inr (Or.inr (Or.inl ⟨h1,h2,qi9 (by omega) (by omega) htk (fun _ h=>absurd h (by omega))⟩))
      ·
       exact Or.inr (Or.inl ⟨h1,qi9 (by omega) (by omega) htk (fun h _=>absurd h (by omega))⟩)
     clear htk hll hlt2
     rcases hcase with ⟨h1,h2,h3,HTK⟩ | ⟨h1,HSN⟩ | ⟨h1,h2,HSN⟩ | ⟨h1,h2,h3,HSN⟩
     ·
      have d1:decide (n2<p.size)=true:=qx h1
      have d2:decide (n2<t.size)=true:=qx h2
      have i1:(n2:Int)<(p.size:Int):=by omega
      have i2:(n2:Int)<(t.size:Int):=by omega
      have e1:((p[n2].toNat:Int)==(t[n2].toNat:Int))=true:=by rw[h3];exact beq_self_eq_true _
      have e2:(p[n2].toNat==t[n2].toNat)=true:=by rw[h3];exact beq_self_eq_true _
      clear h3
      go_wp2_with fail
      go_quiet (fail)
      go_wp2_with fail
      go_roundw
      case rel=>exact⟨n2+1,_,by go_num,by omega,by omega,HTK.out,by first | rfl | (rw[zt])⟩
      case measure=>simp[intOf] <;> omega
     ·
      have d1:decide (n2<p.size)=false:=qr h1
      obtain⟨pl,hpl⟩:∃pl,ji n2=pl:=⟨_,rfl⟩
      have HEI:Hid (qha K (qm l) i=pl++vm (t.data.toList.drop n2)):=by
       unfold Hid
       rw[HEJ.out,HSN.out,hpl]
      have HPU:=qa (fun w=>ux n2 (w:=w) (by omega))
      rw[hpl] at HPU
      have int2:(n2:Int)≤(t.size:Int):=by omega
      clear HEJ HSN hpl
      go_wp2_with fail
      go_quiet (fail)
      go_wp2_with fail
      refine(HPU.out _).mono ?_
      rintro r w2 ⟨Ap,cp,rfl,hop,hbp⟩
      have hbw:Below wy.heap.size wy w2:=by first | exact zo (zj (Below.refl _ wy) _) hbp (qc _) | exact zo (zj (zj (Below.refl _ wy) _) _) hbp (qc _)
      have HO2:Hid (w2.ownsRow wy.heap.size 5 1 (.slice Ap pl.length cp) pl.length (bv pl)):=hop
      have HS2:=qa (HS.out.below hbw (qc _))
      have HB2:Hid (Below w.heap.size w w2):=zo HB.out hbw hsz
      have hz2:=HB2.out.size
      have hwz:=hbw.size
      have hcell:=HCELL.out _ HB2.out
      clear hop hbp hbw HS HB HPU hcell0 hcell0' hcelp0 hcelp0'
      have htx:=qil (w:=w2) (t.extract n2 t.size) (by rw[qjv];omega)
      rw[tailD] at htx
      obtain⟨tx,htxe⟩:∃tx,vm (t.data.toList.drop n2)=tx:=⟨_,rfl⟩
      rw[htxe] at htx HEI
      have HTX:=qa htx
      have hel:=HE1.out i
      have HES:=qa (qd7 K (qm l) i)
      generalize qha K (qm l) i=en at *
      clear htx htxe
      have hpl:pl.length+tx.length≤4200:=by
       have:=congrArg List.length HEI.out
       rw[qd] at this
       omega
      go_wp2_with fail
      refine HTX.out.mono ?_
      rintro r w3 ⟨At,ct,rfl,hot,hbt⟩
      obtain⟨A4,c4,w4,hrun4,ho4,hg4⟩:=j9 w3 wy.heap.size (.slice Ap pl.length cp) (pl) tx en HEI.out.symm (jp HO2.out hbt (qc _)) (Rd.own hot) (by omega) (by have:=hbt.size;omega)
      have hr4:∀q,(.slice Ap pl.length cp:Value).ownBlock=some q→wy.heap.size≤q:=fun q hq=>(zk HO2.out hq).1
      have HS4:=qa ((HS2.out.below hbt hwz).grown hg4 hr4)
      have HB4:Hid (Below w.heap.size w w4):=(zo HB2.out hbt (by omega)).grown hg4 (by have:=hbt.size;omega) (fun q hq=>by have:=hr4 q hq;omega)
      have HO4:=qa ho4
      have hz4:=HB4.out.size
      clear hot hbt ho4 hg4 HS2 HB2 hr4
      go_wp2_with (at_builtin;refine wpList_append_run rfl _ _ _ _ rfl rfl rfl hrun4 ?_;refine qam ?_)
      refine⟨?_⟩
      clear hrun4
      have hlq:=HL2.out
      obtain⟨g,rfl,hg1,hg2⟩:=qcg (by have:=HS4.out.o1;rw[←HL2.out] at this;exact this) (Nat.succ_pos _)
      have hqs:q<ss.length:=by omega
      have hcl:w4.cell? ⟨g,q,none⟩=some (.int .i64 (ss[q]:Int)):=by
       have h9:=HS4.out.o1
       rw[←HL2.out] at h9
       rw[h9.cellAt q (by omega)]
       simp[iv,z8,hqs]
      have hfr:w4.frozen? ⟨g,q,none⟩=false:=by
       have h9:=HS4.out.o1
       rw[←HL2.out] at h9
       exact h9.frozenAt q
      have hlast:=HX2.out _ (ql hqs)
      have HS5:=qa (HS4.out.set HL2.out q (ss[q]+en.length))
      have HSI2:Hid (yk K (qm l) (i+1)=ss.set q (ss[q]+en.length)):=by unfold Hid;rw[HSI.out,qoe HL2.out.symm]
      have hgz:g<wy.heap.size:=HS4.out.h1 g (by rfl)
      have HR5:=qa ((Rd.own HO4.out).setCell (p:=⟨g,q,none⟩) (Or.inl hgz) (.int .i64 ((ss[q]+en.length:Nat):Int)))
      have HB5:Hid (Below w.heap.size w (w4.setCell ⟨g,q,none⟩ (.int .i64 ((ss[q]+en.length:Nat):Int)))):=HB4.out.setCell hg1 _
      obtain⟨A6,c6,w6,hrun6,hsb6,hb6⟩:=HS5.out.more HM2.out rfl (all:=qao K (qm l) (i+1)) HES.out.symm HR5.out (by omega) HB5.out.size
      have hcs:((ss[q]+en.length:Nat):Int)=(ss[q]:Int)+(en.length:Int):=by omega
      rw[hcs] at hrun6
      have HS6:=qa hsb6
      have HB6:Hid (Below w.heap.size w w6):=HB5.out.trans hb6
      clear hcs hsb6 hb6 HS5 HR5 HB5 HS4 HO4
      generalize ss[q]=la at *
      have i1:(0:Int)≤(q:Int):=by omega
      have HM6:Hid (m+en.length=(qao K (qm l) (i+1)).length):=by unfold Hid;rw[HES.out,qd,HM2.out]
      have HN6:Hid (q+1=(yk K (qm l) (i+1)).length):=by unfold Hid;rw[HSI2.out,jn];exact HL2.out
      rw[←HSI2.out] at HS6
      clear HL2 HX2 HES hlq hqs HSI HSI2 HEI
      go_wp2_with (at_builtin;refine wpList_append_run rfl _ _ _ _ rfl rfl rfl hrun6 ?_)
      go_roundw
      case rel=>exact⟨i+1,q+1,m+en.length,some ⟨g,0,none⟩,A6,cs,c6,by omega,by go_num,rfl,rfl,HN6.out,HM6.out,HS6.out,HB6.out⟩
      case measure=>simp[intOf] <;> omega
     ·
      have d1:decide (n2<p.size)=true:=qx h1
      have d2:decide (n2<t.size)=false:=qr h2
      obtain⟨pl,hpl⟩:∃pl,ji n2=pl:=⟨_,rfl⟩
      have HEI:Hid (qha K (qm l) i=pl++vm (t.data.toList.drop n2)):=by
       unfold Hid
       rw[HEJ.out,HSN.out,hpl]
      have HPU:=qa (fun w=>ux n2 (w:=w) (by omega))
      rw[hpl] at HPU
      have int2:(n2:Int)≤(t.size:Int):=by omega
      clear HEJ HSN hpl
      go_wp2_with fail
      go_quiet (fail)
      go_wp2_with fail
      refine(HPU.out _).mono ?_
      rintro r w2 ⟨Ap,cp,rfl,hop,hbp⟩
      have hbw:Below wy.heap.size wy w2:=by first | exact zo (zj (Below.refl _ wy) _) hbp (qc _) | exact zo (zj (zj (Below.refl _ wy) _) _) hbp (qc _)
      have HO2:Hid (w2.ownsRow wy.heap.size 5 1 (.slice Ap pl.length cp) pl.length (bv pl)):=hop
      have HS2:=qa (HS.out.below hbw (qc _))
      have HB2:Hid (Below w.heap.size w w2):=zo HB.out hbw hsz
      have hz2:=HB2.out.size
      have hwz:=hbw.size
      have hcell:=HCELL.out _ HB2.out
      clear hop hbp hbw HS HB HPU hcell0 hcell0' hcelp0 hcelp0'
      have htx:=qil (w:=w2) (t.extract n2 t.size) (by rw[qjv];omega)
      rw[tailD] at htx
      obtain⟨tx,htxe⟩:∃tx,vm (t.data.toList.drop n2)=tx:=⟨_,rfl⟩
      rw[htxe] at htx HEI
      have HTX:=qa htx
      have hel:=HE1.out i
      have HES:=qa (qd7 K (qm l) i)
      generalize qha K (qm l) i=en at *
      clear htx htxe
      have hpl:pl.length+tx.length≤4200:=by
       have:=congrArg List.length HEI.out
       rw[qd] at this
       omega
      go_wp2_with fail
      refine HTX.out.mono ?_
      rintro r w3 ⟨At,ct,rfl,hot,hbt⟩
      obtain⟨A4,c4,w4,hrun4,ho4,hg4⟩:=j9 w3 wy.heap.size (.slice Ap pl.length cp) (pl) tx en HEI.out.symm (jp HO2.out hbt (qc _)) (Rd.own hot) (by omega) (by have:=hbt.size;omega)
      have hr4:∀q,(.slice Ap pl.length cp:Value).ownBlock=some q→wy.heap.size≤q:=fun q hq=>(zk HO2.out hq).1
      have HS4:=qa ((HS2.out.below hbt hwz).grown hg4 hr4)
      have HB4:Hid (Below w.heap.size w w4):=(zo HB2.out hbt (by omega)).grown hg4 (by have:=hbt.size;omega) (fun q hq=>by have:=hr4 q hq;omega)
      have HO4:=qa ho4
      have hz4:=HB4.out.size
      clear hot hbt ho4 hg4 HS2 HB2 hr4
      go_wp2_with (at_builtin;refine wpList_append_run rfl _ _ _ _ rfl rfl rfl hrun4 ?_;refine qam ?_)
      refine⟨?_⟩
      clear hrun4
      have hlq:=HL2.out
      obtain⟨g,rfl,hg1,hg2⟩:=qcg (by have:=HS4.out.o1;rw[←HL2.out] at this;exact this) (Nat.succ_pos _)
      have hqs:q<ss.length:=by omega
      have hcl:w4.cell? ⟨g,q,none⟩=some (.int .i64 (ss[q]:Int)):=by
       have h9:=HS4.out.o1
       rw[←HL2.out] at h9
       rw[h9.cellAt q (by omega)]
       simp[iv,z8,hqs]
      have hfr:w4.frozen? ⟨g,q,none⟩=false:=by
       have h9:=HS4.out.o1
       rw[←HL2.out] at h9
       exact h9.frozenAt q
      have hlast:=HX2.out _ (ql hqs)
      have HS5:=qa (HS4.out.set HL2.out q (ss[q]+en.length))
      have HSI2:Hid (yk K (qm l) (i+1)=ss.set q (ss[q]+en.length)):=by unfold Hid;rw[HSI.out,qoe HL2.out.symm]
      have hgz:g<wy.heap.size:=HS4.out.h1 g (by rfl)
      have HR5:=qa ((Rd.own HO4.out).setCell (p:=⟨g,q,none⟩) (Or.inl hgz) (.int .i64 ((ss[q]+en.length:Nat):Int)))
      have HB5:Hid (Below w.heap.size w (w4.setCell ⟨g,q,none⟩ (.int .i64 ((ss[q]+en.length:Nat):Int)))):=HB4.out.setCell hg1 _
      obtain⟨A6,c6,w6,hrun6,hsb6,hb6⟩:=HS5.out.more HM2.out rfl (all:=qao K (qm l) (i+1)) HES.out.symm HR5.out (by omega) HB5.out.size
      have hcs:((ss[q]+en.length:Nat):Int)=(ss[q]:Int)+(en.length:Int):=by omega
      rw[hcs] at hrun6
      have HS6:=qa hsb6
      have HB6:Hid (Below w.heap.size w w6):=HB5.out.trans hb6
      clear hcs hsb6 hb6 HS5 HR5 HB5 HS4 HO4
      generalize ss[q]=la at *
      have i1:(0:Int)≤(q:Int):=by omega
      have HM6:Hid (m+en.length=(qao K (qm l) (i+1)).length):=by unfold Hid;rw[HES.out,qd,HM2.out]
      have HN6:Hid (q+1=(yk K (qm l) (i+1)).length):=by unfold Hid;rw[HSI2.out,jn];exact HL2.out
      rw[←HSI2.out] at HS6
      clear HL2 HX2 HES hlq hqs HSI HSI2 HEI
      go_wp2_with (at_builtin;refine wpList_append_run rfl _ _ _ _ rfl rfl rfl hrun6 ?_)
      go_roundw
      case rel=>exact⟨i+1,q+1,m+en.length,some ⟨g,0,none⟩,A6,cs,c6,by omega,by go_num,rfl,rfl,HN6.out,HM6.out,HS6.out,HB6.out⟩
      case measure=>simp[intOf] <;> omega
     ·
      have d1:decide (n2<p.size)=true:=qx h1
      have d2:decide (n2<t.size)=true:=qx h2
      have i1:(n2:Int)<(p.size:Int):=by omega
      have i2:(n2:Int)<(t.size:Int):=by omega
      have e2:(p[n2].toNat==t[n2].toNat)=false:=by rw[q9];exact fun e=>h3 (qbd.1 e)
      have e1:((p[n2].toNat:Int)==(t[n2].toNat:Int))=false:=by rw[q9];exact fun e=>h3 (qbd.1 (by omega))
      clear h3
      obtain⟨pl,hpl⟩:∃pl,ji n2=pl:=⟨_,rfl⟩
      have HEI:Hid (qha K (qm l) i=pl++vm (t.data.toList.drop n2)):=by
       unfold Hid
       rw[HEJ.out,HSN.out,hpl]
      have HPU:=qa (fun w=>ux n2 (w:=w) (by omega))
      rw[hpl] at HPU
      have int2:(n2:Int)≤(t.size:Int):=by omega
      clear HEJ HSN hpl
      go_wp2_with fail
      go_quiet (fail)
      go_wp2_with fail
      refine(HPU.out _).mono ?_
      rintro r w2 ⟨Ap,cp,rfl,hop,hbp⟩
      have hbw:Below wy.heap.size wy w2:=by first | exact zo (zj (Below.refl _ wy) _) hbp (qc _) | exact zo (zj (zj (Below.refl _ wy) _) _) hbp (qc _)
      have HO2:Hid (w2.ownsRow wy.heap.size 5 1 (.slice Ap pl.length cp) pl.length (bv pl)):=hop
      have HS2:=qa (HS.out.below hbw (qc _))
      have HB2:Hid (Below w.heap.size w w2):=zo HB.out hbw hsz
      have hz2:=HB2.out.size
      have hwz:=hbw.size
      have hcell:=HCELL.out _ HB2.out
      clear hop hbp hbw HS HB HPU hcell0 hcell0' hcelp0 hcelp0'
      have htx:=qil (w:=w2) (t.extract n2 t.size) (by rw[qjv];omega)
      rw[tailD] at htx
      obtain⟨tx,htxe⟩:∃tx,vm (t.data.toList.drop n2)=tx:=⟨_,rfl⟩
      rw[htxe] at htx HEI
      have HTX:=qa htx
      have hel:=HE1.out i
      have HES:=qa (qd7 K (qm l) i)
      generalize qha K (qm l) i=en at *
      clear htx htxe
      have hpl:pl.length+tx.length≤4200:=by
       have:=congrArg List.length HEI.out
       rw[qd] at this
       omega
      go_wp2_with fail
      refine HTX.out.mono ?_
      rintro r w3 ⟨At,ct,rfl,hot,hbt⟩
      obtain⟨A4,c4,w4,hrun4,ho4,hg4⟩:=j9 w3 wy.heap.size (.slice Ap pl.length cp) (pl) tx en HEI.out.symm (jp HO2.out hbt (qc _)) (Rd.own hot) (by omega) (by have:=hbt.size;omega)
      have hr4:∀q,(.slice Ap pl.length cp:Value).ownBlock=some q→wy.heap.size≤q:=fun q hq=>(zk HO2.out hq).1
      have HS4:=qa ((HS2.out.below hbt hwz).grown hg4 hr4)
      have HB4:Hid (Below w.heap.size w w4):=(zo HB2.out hbt (by omega)).grown hg4 (by have:=hbt.size;omega) (fun q hq=>by have:=hr4 q hq;omega)
      have HO4:=qa ho4
      have hz4:=HB4.out.size
      clear hot hbt ho4 hg4 HS2 HB2 hr4
      go_wp2_with (at_builtin;refine wpList_append_run rfl _ _ _ _ rfl rfl rfl hrun4 ?_;refine qam ?_)
      refine⟨?_⟩
      clear hrun4
      have hlq:=HL2.out
      obtain⟨g,rfl,hg1,hg2⟩:=qcg (by have:=HS4.out.o1;rw[←HL2.out] at this;exact this) (Nat.succ_pos _)
      have hqs:q<ss.length:=by omega
      have hcl:w4.cell? ⟨g,q,none⟩=some (.int .i64 (ss[q]:Int)):=by
       have h9:=HS4.out.o1
       rw[←HL2.out] at h9
       rw[h9.cellAt q (by omega)]
       simp[iv,z8,hqs]
      have hfr:w4.frozen? ⟨g,q,none⟩=false:=by
       have h9:=HS4.out.o1
       rw[←HL2.out] at h9
       exact h9.frozenAt q
      have hlast:=HX2.out _ (ql hqs)
      have HS5:=qa (HS4.out.set HL2.out q (ss[q]+en.length))
      have HSI2:Hid (yk K (qm l) (i+1)=ss.set q (ss[q]+en.length)):=by unfold Hid;rw[HSI.out,qoe HL2.out.symm]
      have hgz:g<wy.heap.size:=HS4.out.h1 g (by rfl)
      have HR5:=qa ((Rd.own HO4.out).setCell (p:=⟨g,q,none⟩) (Or.inl hgz) (.int .i64 ((ss[q]+en.length:Nat):Int)))
      have HB5:Hid (Below w.heap.size w (w4.setCell ⟨g,q,none⟩ (.int .i64 ((ss[q]+en.length:Nat):Int)))):=HB4.out.setCell hg1 _
      obtain⟨A6,c6,w6,hrun6,hsb6,hb6⟩:=HS5.out.more HM2.out rfl (all:=qao K (qm l) (i+1)) HES.out.symm HR5.out (by omega) HB5.out.size
      have hcs:((ss[q]+en.length:Nat):Int)=(ss[q]:Int)+(en.length:Int):=by omega
      rw[hcs] at hrun6
      have HS6:=qa hsb6
      have HB6:Hid (Below w.heap.size w w6):=HB5.out.trans hb6
      clear hcs hsb6 hb6 HS5 HR5 HB5 HS4 HO4
      generalize ss[q]=la at *
      have i1:(0:Int)≤(q:Int):=by omega
      have HM6:Hid (m+en.length=(qao K (qm l) (i+1)).length):=by unfold Hid;rw[HES.out,qd,HM2.out]
      have HN6:Hid (q+1=(yk K (qm l) (i+1)).length):=by unfold Hid;rw[HSI2.out,jn];exact HL2.out
      rw[←HSI2.out] at HS6
      clear HL2 HX2 HES hlq hqs HSI HSI2 HEI
      go_wp2_with (at_builtin;refine wpList_append_run rfl _ _ _ _ rfl rfl rfl hrun6 ?_)
      go_roundw
      case rel=>exact⟨i+1,q+1,m+en.length,some ⟨g,0,none⟩,A6,cs,c6,by omega,by go_num,rfl,rfl,HN6.out,HM6.out,HS6.out,HB6.out⟩
      case measure=>simp[intOf] <;> omega
  ·
   have ik:¬(i:Int)<(l.length:Int):=by omega
   have hil:i=l.length:=by omega
   have hss:Rd wy 0 wy.heap.size As cs (iv (z8 (yk K (qm l) i))):=by
    have h9:=HS.out.o1
    rw[←HN.out] at h9
    exact(Rd.own h9).wide (qi _) (qc _)
   have hal:Rd wy 0 wy.heap.size Aa ca (bv (qao K (qm l) i)):=by
    have h9:=HS.out.o2
    rw[←HM2.out] at h9
    exact(Rd.own h9).wide (qi _) (qc _)
   have hmay:qok (z8 (yk K (qm l) i)):=fun z hz=>by
    obtain⟨x,hx,rfl⟩:=zl.1 hz
    have:=HSX.out i x hx
    have:=HEL.out i
    omega
   have HFR:Hid (fr=ji l.length++ji K++js (z8 (yk K (qm l) i))++qao K (qm l) i):=by
    unfold Hid
    rw[←HFD.out,kv,HBL.out,hil]
   have hp1:=ve l.length (by omega)
   have hp2:=ve K (by omega)
   have hil2:=zu (yk K (qm l) i)
   have hsl2:=HSL.out i
   have hwl:=qag hmay (by omega)
   have hnl:n=(z8 (yk K (qm l) i)).length:=by rw[hil2];exact HN.out
   have HWR:=qa (fun w' (h':Below wy.heap.size wy w')=>qh4 (w:=w') (z8 (yk K (qm l) i)) hmay (hss.below h' (qc _)) h'.size (by omega))
   rw[←hnl] at HWR
   have HAL:=qa hal
   have HPL:=qa (fun w=>ux l.length (w:=w) (by omega))
   have HPK:=qa (fun w=>ux K (w:=w) (by omega))
   generalize js (z8 (yk K (qm l) i))=wl at *
   generalize qao K (qm l) i=al at *
   generalize ji l.length=p1 at *
   generalize ji K=p2 at *
   obtain⟨pa,hpa⟩:∃pa,p1++p2=pa:=⟨_,rfl⟩
   obtain⟨pb,hpb⟩:∃pb,pa++wl=pb:=⟨_,rfl⟩
   rw[hpa,hpb] at HFR
   have hpal:pa.length≤18:=by rw[←hpa,qd];omega
   have hpbl:pb.length≤18+wl.length:=by rw[←hpb,qd];omega
   have HPA:=qa hpa
   have HPB:=qa hpb
   clear hpa hpb
   clear hss hal hmay HS HN hil hnl hil2 hsl2
   go_wp2_with fail
   refine(HPL.out _).mono ?_
   rintro r w1 ⟨A1,c1,rfl,ho1,hb1⟩
   have HO1:=qa ho1
   have HB1:=qa hb1
   have hz1:=hb1.size
   clear ho1 hb1
   go_wp2_with fail
   refine(HPK.out _).mono ?_
   rintro r w2 ⟨A2,c2,rfl,ho2,hb2⟩
   obtain⟨A3,c3,w3,hrun3,ho3,hg3⟩:=j9 w2 wy.heap.size (.slice A1 p1.length c1) p1 p2 pa HPA.out (jp HO1.out hb2 (qc _)) (Rd.own ho2) (by omega) (by have:=hb2.size;omega)
   have hb3:Below wy.heap.size wy w3:=(HB1.out.trans (hb2.mono hz1)).grown hg3 (by have:=hb2.size;omega) (fun q hq=>(zk HO1.out hq).1)
   have HO3:=qa ho3
   have HB3:=qa hb3
   have hz3:=hb3.size
   clear ho2 hb2 ho3 hg3 hb3
   go_wp2_with (at_builtin;refine wpList_append_run rfl _ _ _ _ rfl rfl rfl hrun3 ?_;refine qam ?_)
   refine⟨?_⟩
   clear hrun3
   go_wp2_with fail
   refine(HWR.out _ HB3.out).mono ?_
   rintro r w4 ⟨A4,c4,rfl,ho4,hb4⟩
   obtain⟨A5,c5,w5,hrun5,ho5,hg5⟩:=j9 w4 wy.heap.size (.slice A3 pa.length c3) pa wl pb HPB.out (jp HO3.out hb4 (qc _)) (Rd.own ho4) (by omega) (by have:=hb4.size;omega)
   have hb5:Below wy.heap.size wy w5:=(HB3.out.trans (hb4.mono hz3)).grown hg5 (by have:=hb4.size;omega) (fun q hq=>(zk HO3.out hq).1)
   have HO5:=qa ho5
   have HB5:=qa hb5
   have hz5:=hb5.size
   clear ho4 hb4 ho5 hg5 hb5
   go_wp2_with (at_builtin;refine wpList_append_run rfl _ _ _ _ rfl rfl rfl hrun5 ?_;refine qam ?_)
   refine⟨?_⟩
   clear hrun5
   have har:=HAL.out.below HB5.out (qc _)
   obtain⟨A6,c6,w6,hrun6,ho6,hg6⟩:=j9 w5 wy.heap.size (.slice A5 pb.length c5) pb al fr HFR.out.symm HO5.out har (by have:=HM2.out;omega) hz5
   rw[←HM2.out] at hrun6
   have hb6:Below w.heap.size w w6:=HB.out.trans ((HB5.out.grown hg6 hz5 (fun q hq=>(zk HO5.out hq).1)).mono hsz)
   have HO6:=qa (jm ho6 hsz)
   have HB6:=qa hb6
   clear ho6 hg6 hb6 har
   go_wp2_with (at_builtin;refine wpList_append_run rfl _ _ _ _ rfl rfl rfl hrun6 ?_;refine qam ?_)
   refine⟨?_⟩
   clear hrun6
   go_wp2_with fail
   go_ret
   exact⟨A6,c6,rfl,HO6.out,HB6.out⟩
end Go.Proofs.YtjfecojdagmacaaGreat
