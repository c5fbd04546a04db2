/-
  Lemmas.
-/
import Derived.Test.YtjfecojdagmacaaGreatD29
namespace Go.Proofs.YtjfecojdagmacaaGreat
open Go.RowKit
set_option maxRecDepth 20000
set_option maxHeartbeats 16000000
set_option linter.unusedSimpArgs false
set_option linter.unusedVariables false
theorem refOrder_any{w:World}(l:List ByteArray){c:Nat}{A:Option Addr}(h:Rd w 0 w.heap.size A c (sv l))(h1k:∀s∈l,s.size≤100000)(hln:l.length≤100000) :
  Calls Tryz.prog 186 #[.slice A l.length c] w fun r w'=>∃t A' c',r= .returned (.slice A' t.length c')∧IsOrder (qm l) t∧w'.ownsRow w.heap.size 9 1 (.slice A' t.length c') t.length (sv (yj t))∧Below w.heap.size w w':=by
 have hl:=h.len
 have hm:=h.cap
 rw[j7] at hl
 unfold maxLen at hm
 have H:=qa h
 have H1:Hid (∀k (hk:k<l.length),l[k].size≤100000):=fun k hk=>h1k _ (ql hk)
 have HBL:=qa (qv l)
 clear h h1k
 go_enter Tryz.func186,Tryz.ntmps186
 go_wp2_with fail
 go_loopw [3] (fun x3 wr=>∃(os:List ByteArray) (n:Nat) (A':Option Addr) (c':Nat),x3= .slice A' n c'∧os.length=n∧n≤255∧(∀s∈os,s.size≤100000)∧Ord (qm l) (qm os)∧wr.ownsRow w.heap.size 9 1 (.slice A' n c') n (sv os)∧Below w.heap.size w wr) (fun x3 _=>(match x3 with | .slice _ n _=>255-n | _=>0))
 case atStart=>exact⟨[],0,none,0,rfl,rfl,by omega,fun s hs=>(by cases hs),Ord.nil _,zf _ _ _ _,Below.refl _ _⟩
 case round =>
  obtain⟨os,n,A',c',rfl,hon,hn5,hos,hord,hown,hb⟩:=hrel
  obtain⟨wo,hwo⟩:∃wo,wo=wr:=⟨_,rfl⟩
  subst hwo
  have HON:=qa hon
  have HOS:=qa hos
  have HOR:=qa hord
  have HO:=qa hown
  have HB:=qa hb
  have hsz:=hb.size
  clear hon hos hord hown hb
  by_cases hn0:n=0
  ·
   subst hn0
   go_wp2_with fail
   go_loopw [4,5] (fun x4 x5 wr=>∃(k m:Nat) (b:ByteArray),k≤l.length∧x5= .int .i64 (k:Int)∧x4= .string b∧b.size≤100000∧Inn (qm l) (qm os) k b.data.toList∧wr=wo.drewN m) (fun _ x5 _=>l.length-(intOf x5).toNat)
   case atStart=>exact⟨0,0,⟨#[]⟩,qi _,rfl,rfl,qi _,inn_zero _ _,rfl⟩
   case round =>
    obtain⟨k,m,b,hk,rfl,rfl,hbs,hinn,rfl⟩:=hrel
    have HI:=qa hinn
    clear hinn
    by_cases hkl:k<l.length
    ·
     have ik:(k:Int)<(l.length:Int):=by omega
     obtain⟨bb,off,rfl,_,hbh,hcell0⟩:=H.out.str hkl
     have hcell:(wo.drewN m).cell? ⟨bb,off+k,none⟩=some (.string l[k]):=(HB.out.cell (p:=⟨bb,off+k,none⟩) hbh).trans hcell0
     clear hcell0
     have hs1:=H1.out k hkl
     have hgk:(qm l)[k]'(by rw[HBL.out];exact hkl)=l[k].data.toList:=yq l k hkl
     have hkl2:k<(qm l).length:=by rw[HBL.out];exact hkl
     have hos:=ok_size l[k]
     have HSKIP:Hid (¬qi5 (qm os) l[k].data.toList→Inn (qm l) (qm os) (k+1) b.data.toList):=fun hc=>inn_skip HI.out hkl2 (by rw[hgk];exact hc)
     have HFIRST:Hid (b.data.toList=[]→qi5 (qm os) l[k].data.toList→Inn (qm l) (qm os) (k+1) l[k].data.toList):=fun he hc=>by
      have:=inn_first (by rw[←he];exact HI.out) hkl2 (by rw[hgk];exact hc)
      rw[hgk] at this
      exact this
     have HLESS:Hid (b.data.toList≠[]→qi5 (qm os) l[k].data.toList→yl l[k].data.toList b.data.toList<0→Inn (qm l) (qm os) (k+1) l[k].data.toList):=fun he hc hl=>by
      have:=inn_less HI.out he hkl2 (by rw[hgk];exact hc) (by rw[hgk];exact hl)
      rw[hgk] at this
      exact this
     have HKEEP:Hid (b.data.toList≠[]→¬yl l[k].data.toList b.data.toList<0→Inn (qm l) (qm os) (k+1) b.data.toList):=fun he hl=>inn_keep HI.out he hkl2 (by rw[hgk];exact hl)
     clear hgk hkl2
     generalize l[k]=s at *
     by_cases h1:s.size<1
     ·
      have i1:¬(1:Int)≤(s.size:Int):=by omega
      have HIN:=qa (HSKIP.out (fun hc=>by have:=hc.1;rw[hos,qr (p:=1≤s.size) (by omega)] at this;cases this))
      clear hos
      go_wp2_with fail
      go_roundw
      case rel=>exact⟨k+1,m,b,by omega,by go_num,rfl,hbs,HIN.out,rfl⟩
      case measure=>simp[intOf] <;> omega
     ·
      have i1:(1:Int)≤(s.size:Int):=by omega
      by_cases h8:8<s.size
      ·
       have i8:¬(s.size:Int)≤8:=by omega
       have HIN:=qa (HSKIP.out (fun hc=>by have:=hc.1;rw[hos,qr (p:=s.size≤8) (by omega),Bool.and_false] at this;cases this))
       clear hos
       go_wp2_with fail
       go_roundw
       case rel=>exact⟨k+1,m,b,by omega,by go_num,rfl,hbs,HIN.out,rfl⟩
       case measure=>simp[intOf] <;> omega
      ·
       have i8:(s.size:Int)≤8:=by omega
       have HOKS:Hid (qhm s.data.toList=true):=by unfold Hid;rw[hos,qx (by omega),qx (by omega)];rfl
       clear hos
       have HCB:=qa (fun w=>qer (w:=w) s b hs1 hbs)
       have hose:os=[]:=zh HON.out
       have HC:Hid (qi5 (qm os) s.data.toList):=by unfold Hid;rw[hose];exact cand_nil.2 HOKS.out
       clear hose
       by_cases hb0:b.data.toList=[]
       ·
        have hbe:b.toList.isEmpty=true:=by rw[z6,hb0];rfl
        have HIN:=qa (HFIRST.out hb0 HC.out)
        clear hb0
        go_wp2_with fail
        go_roundw
        case rel=>exact⟨k+1,_,s,by omega,by go_num,rfl,hs1,HIN.out,rfl⟩
        case measure=>simp[intOf] <;> omega
       ·
        have hbe:b.toList.isEmpty=false:=by rw[z6];exact uj.2 hb0
        have HL2:=qa (HLESS.out hb0 HC.out)
        have HK2:=qa (HKEEP.out hb0)
        clear hb0
        generalize yl s.data.toList b.data.toList=y at *
        by_cases hy:y<0
        ·
         have HIN:=qa (HL2.out hy)
         go_wp2_with fail
         refine(HCB.out _).mono ?_
         rintro r wz ⟨rfl,my,rfl⟩
         go_wp2_with fail
         go_roundw
         case rel=>exact⟨k+1,_,s,by omega,by go_num,rfl,hs1,HIN.out,by first | rfl | (rw[zt])⟩
         case measure=>simp[intOf] <;> omega
        ·
         have HIN:Hid (Inn (qm l) (qm os) (k+1) b.data.toList):=HK2.out (by omega)
         go_wp2_with fail
         refine(HCB.out _).mono ?_
         rintro r wz ⟨rfl,my,rfl⟩
         go_wp2_with fail
         go_roundw
         case rel=>exact⟨k+1,_,b,by omega,by go_num,rfl,hbs,HIN.out,by first | rfl | (rw[zt])⟩
         case measure=>simp[intOf] <;> omega
    ·
     have ik:¬(k:Int)<(l.length:Int):=by omega
     have hke:k=l.length:=by omega
     by_cases hb0:b.data.toList=[]
     ·
      have hbe:b.toList.isEmpty=true:=by rw[z6,hb0];rfl
      have HDN:Hid (IsOrder (qm l) (qm os)):=by
       refine HOR.out.done (fun s hs => ?_) (by rw[qv,HON.out];exact hn5)
       rcases HI.out with ⟨_,h2⟩ | ⟨h1,_,_⟩
       ·
        obtain⟨j,hj,rfl⟩:=zc hs
        exact h2 j hj (by rw[HBL.out] at hj;omega)
       ·
        exact absurd hb0 (cand_ne h1)
      have HLN:Hid ((qm os).length=0):=by unfold Hid;rw[qv,HON.out]
      have HST:Hid (yj (qm os)=os):=qdt os
      clear hb0
      go_wp2_with fail
      go_ret
      exact⟨qm os,A',c',by rw[HLN.out];first | rfl | simp,HDN.out,by rw[HLN.out,HST.out];exact jv HO.out (fun _ _=>rfl),zj HB.out m⟩
     ·
      have hbe:b.toList.isEmpty=false:=by rw[z6];exact uj.2 hb0
      have HNX:Hid (Ord (qm l) (qm (os++[b]))):=by
       rcases HI.out with ⟨h1,_⟩ | ⟨h1,h2,h3⟩
       ·
        exact absurd h1 hb0
       ·
        unfold Hid
        rw[qif]
        refine HOR.out.push h2 h1 fun s hs hcs => ?_
        obtain⟨j,hj,rfl⟩:=zc hs
        exact h3 j hj (by rw[HBL.out] at hj;omega) hcs
      have hod:(wo.drewN m).ownsRow w.heap.size 9 1 (.slice A' os.length c') os.length (sv os):=by rw[HON.out];exact jv HO.out (fun _ _=>rfl)
      have HOD:=qa hod
      have HBD:=qa (zj HB.out m)
      have hszd:w.heap.size≤(wo.drewN m).heap.size:=hsz
      have honl:os.length≤255:=by rw[HON.out];exact hn5
      clear hb0 hod
      generalize wo.drewN m=w5 at *
      go_wp2_with (at_builtin;refine vh (v:= .slice A' 0 c') w.heap.size os b rfl _ _ rfl rfl rfl rfl (by rw[zg _ _ _ _ rfl];rfl) (by have:=HOD.out.alloc (.cells #[.string b] 9);rw[HON.out] at this ⊢;exact this) (by omega) (by simp;omega) ?_;intro A2 c2 w2 ho2 hg2)
      go_roundw
      case rel =>
       refine⟨os++[b],0+1,A2,c2,by rw[HON.out],by rw[qd,HON.out];rfl,by omega,?_,HNX.out,by rw[qd,HON.out] at ho2;exact ho2,(HBD.out.alloc hszd _).grown hg2 (by simp;omega) (fun q hq=>(zk HOD.out (by rw[HON.out];exact hq)).1)⟩
       intro s hs
       rcases zm.1 hs with hs | hs
       ·
        exact HOS.out s hs
       ·
        rw[ze.1 hs];exact hbs
      case measure=>simp[HON.out] <;> omega
  ·
   obtain⟨j,rfl⟩:∃j,n=j+1:=⟨n-1,by omega⟩
   have hjl:j<os.length:=by rw[HON.out];omega
   by_cases hlt:j+1<255
   ·
    have i255:((j:Int)+1)<255:=by omega
    go_wp2_with fail
    go_loopw [4,5] (fun x4 x5 wr=>∃(k m:Nat) (b:ByteArray),k≤l.length∧x5= .int .i64 (k:Int)∧x4= .string b∧b.size≤100000∧Inn (qm l) (qm os) k b.data.toList∧wr=wo.drewN m) (fun _ x5 _=>l.length-(intOf x5).toNat)
    case atStart=>exact⟨0,0,⟨#[]⟩,qi _,rfl,rfl,qi _,inn_zero _ _,rfl⟩
    case round =>
     obtain⟨k,m,b,hk,rfl,rfl,hbs,hinn,rfl⟩:=hrel
     have HI:=qa hinn
     clear hinn
     by_cases hkl:k<l.length
     ·
      have ik:(k:Int)<(l.length:Int):=by omega
      obtain⟨bb,off,rfl,_,hbh,hcell0⟩:=H.out.str hkl
      have hcell:(wo.drewN m).cell? ⟨bb,off+k,none⟩=some (.string l[k]):=(HB.out.cell (p:=⟨bb,off+k,none⟩) hbh).trans hcell0
      clear hcell0
      have hs1:=H1.out k hkl
      have hgk:(qm l)[k]'(by rw[HBL.out];exact hkl)=l[k].data.toList:=yq l k hkl
      have hkl2:k<(qm l).length:=by rw[HBL.out];exact hkl
      have hos:=ok_size l[k]
      have HSKIP:Hid (¬qi5 (qm os) l[k].data.toList→Inn (qm l) (qm os) (k+1) b.data.toList):=fun hc=>inn_skip HI.out hkl2 (by rw[hgk];exact hc)
      have HFIRST:Hid (b.data.toList=[]→qi5 (qm os) l[k].data.toList→Inn (qm l) (qm os) (k+1) l[k].data.toList):=fun he hc=>by
       have:=inn_first (by rw[←he];exact HI.out) hkl2 (by rw[hgk];exact hc)
       rw[hgk] at this
       exact this
      have HLESS:Hid (b.data.toList≠[]→qi5 (qm os) l[k].data.toList→yl l[k].data.toList b.data.toList<0→Inn (qm l) (qm os) (k+1) l[k].data.toList):=fun he hc hl=>by
       have:=inn_less HI.out he hkl2 (by rw[hgk];exact hc) (by rw[hgk];exact hl)
       rw[hgk] at this
       exact this
      have HKEEP:Hid (b.data.toList≠[]→¬yl l[k].data.toList b.data.toList<0→Inn (qm l) (qm os) (k+1) b.data.toList):=fun he hl=>inn_keep HI.out he hkl2 (by rw[hgk];exact hl)
      clear hgk hkl2
      generalize l[k]=s at *
      by_cases h1:s.size<1
      ·
       have i1:¬(1:Int)≤(s.size:Int):=by omega
       have HIN:=qa (HSKIP.out (fun hc=>by have:=hc.1;rw[hos,qr (p:=1≤s.size) (by omega)] at this;cases this))
       clear hos
       go_wp2_with fail
       go_roundw
       case rel=>exact⟨k+1,m,b,by omega,by go_num,rfl,hbs,HIN.out,rfl⟩
       case measure=>simp[intOf] <;> omega
      ·
       have i1:(1:Int)≤(s.size:Int):=by omega
       by_cases h8:8<s.size
       ·
        have i8:¬(s.size:Int)≤8:=by omega
        have HIN:=qa (HSKIP.out (fun hc=>by have:=hc.1;rw[hos,qr (p:=s.size≤8) (by omega),Bool.and_false] at this;cases this))
        clear hos
        go_wp2_with fail
        go_roundw
        case rel=>exact⟨k+1,m,b,by omega,by go_num,rfl,hbs,HIN.out,rfl⟩
        case measure=>simp[intOf] <;> omega
       ·
        have i8:(s.size:Int)≤8:=by omega
        have HOKS:Hid (qhm s.data.toList=true):=by unfold Hid;rw[hos,qx (by omega),qx (by omega)];rfl
        clear hos
        have HCB:=qa (fun w=>qer (w:=w) s b hs1 hbs)
        obtain⟨g,off2,hA,_,_,hcl⟩:=((Rd.of_own HO.out).drewN m).str hjl
        have hsz2:=HOS.out _ (ql hjl)
        have hob:qm os=qm (os.take j)++[os[j].data.toList]:=by
         rw[←qif,←qj hjl,qo (by rw[HON.out];exact qc _)]
        have HCD:Hid (qi5 (qm os) s.data.toList↔0<yl s.data.toList os[j].data.toList):=by
         unfold Hid
         have h2:=HOR.out.rises
         rw[hob] at h2 ⊢
         exact cand_last h2 HOKS.out
        clear hob
        have HCA:=qa (fun w=>qer (w:=w) s os[j] hs1 hsz2)
        generalize os[j]=a at *
        generalize yl s.data.toList a.data.toList=z at *
        subst hA
        have hj0:¬((j:Int)+1=0):=by omega
        by_cases hz:0<z
        ·
         have HC:Hid (qi5 (qm os) s.data.toList):=HCD.out.2 hz
         go_wp2_with fail
         refine(HCA.out _).mono ?_
         rintro r wz ⟨rfl,mz,rfl⟩
         rw[zt]
         generalize m+mz=m at *
         by_cases hb0:b.data.toList=[]
         ·
          have hbe:b.toList.isEmpty=true:=by rw[z6,hb0];rfl
          have HIN:=qa (HFIRST.out hb0 HC.out)
          clear hb0
          go_wp2_with fail
          go_roundw
          case rel=>exact⟨k+1,_,s,by omega,by go_num,rfl,hs1,HIN.out,rfl⟩
          case measure=>simp[intOf] <;> omega
         ·
          have hbe:b.toList.isEmpty=false:=by rw[z6];exact uj.2 hb0
          have HL2:=qa (HLESS.out hb0 HC.out)
          have HK2:=qa (HKEEP.out hb0)
          clear hb0
          generalize yl s.data.toList b.data.toList=y at *
          by_cases hy:y<0
          ·
           have HIN:=qa (HL2.out hy)
           go_wp2_with fail
           refine(HCB.out _).mono ?_
           rintro r wz ⟨rfl,my,rfl⟩
           go_wp2_with fail
           go_roundw
           case rel=>exact⟨k+1,_,s,by omega,by go_num,rfl,hs1,HIN.out,by first | rfl | (rw[zt])⟩
           case measure=>simp[intOf] <;> omega
          ·
           have HIN:Hid (Inn (qm l) (qm os) (k+1) b.data.toList):=HK2.out (by omega)
           go_wp2_with fail
           refine(HCB.out _).mono ?_
           rintro r wz ⟨rfl,my,rfl⟩
           go_wp2_with fail
           go_roundw
           case rel=>exact⟨k+1,_,b,by omega,by go_num,rfl,hbs,HIN.out,by first | rfl | (rw[zt])⟩
           case measure=>simp[intOf] <;> omega
        ·
         have HIN:=qa (HSKIP.out (fun hc=>hz (HCD.out.1 hc)))
         have hz2:¬(0<z):=hz
         go_wp2_with fail
         refine(HCA.out _).mono ?_
         rintro r wz ⟨rfl,mz,rfl⟩
         go_wp2_with fail
         go_roundw
         case rel=>exact⟨k+1,_,b,by omega,by go_num,rfl,hbs,HIN.out,by first | rfl | (rw[zt])⟩
         case measure=>simp[intOf] <;> omega
     ·
      have ik:¬(k:Int)<(l.length:Int):=by omega
      have hke:k=l.length:=by omega
      by_cases hb0:b.data.toList=[]
      ·
       have hbe:b.toList.isEmpty=true:=by rw[z6,hb0];rfl
       have HDN:Hid (IsOrder (qm l) (qm os)):=by
        refine HOR.out.done (fun s hs => ?_) (by rw[qv,HON.out];exact hn5)
        rcases HI.out with ⟨_,h2⟩ | ⟨h1,_,_⟩
        ·
         obtain⟨j,hj,rfl⟩:=zc hs
         exact h2 j hj (by rw[HBL.out] at hj;omega)
        ·
         exact absurd hb0 (cand_ne h1)
       have HLN:Hid ((qm os).length=(j+1)):=by unfold Hid;rw[qv,HON.out]
       have HST:Hid (yj (qm os)=os):=qdt os
       clear hb0
       go_wp2_with fail
       go_ret
       exact⟨qm os,A',c',by rw[HLN.out];first | rfl | simp,HDN.out,by rw[HLN.out,HST.out];exact jv HO.out (fun _ _=>rfl),zj HB.out m⟩
      ·
       have hbe:b.toList.isEmpty=false:=by rw[z6];exact uj.2 hb0
       have HNX:Hid (Ord (qm l) (qm (os++[b]))):=by
        rcases HI.out with ⟨h1,_⟩ | ⟨h1,h2,h3⟩
        ·
         exact absurd h1 hb0
        ·
         unfold Hid
         rw[qif]
         refine HOR.out.push h2 h1 fun s hs hcs => ?_
         obtain⟨j,hj,rfl⟩:=zc hs
         exact h3 j hj (by rw[HBL.out] at hj;omega) hcs
       have hod:(wo.drewN m).ownsRow w.heap.size 9 1 (.slice A' os.length c') os.length (sv os):=by rw[HON.out];exact jv HO.out (fun _ _=>rfl)
       have HOD:=qa hod
       have HBD:=qa (zj HB.out m)
       have hszd:w.heap.size≤(wo.drewN m).heap.size:=hsz
       have honl:os.length≤255:=by rw[HON.out];exact hn5
       clear hb0 hod
       generalize wo.drewN m=w5 at *
       go_wp2_with (at_builtin;refine vh (v:= .slice A' (j+1) c') w.heap.size os b rfl _ _ rfl rfl rfl rfl (by rw[zg _ _ _ _ rfl];rfl) (by have:=HOD.out.alloc (.cells #[.string b] 9);rw[HON.out] at this ⊢;exact this) (by omega) (by simp;omega) ?_;intro A2 c2 w2 ho2 hg2)
       go_roundw
       case rel =>
        refine⟨os++[b],(j+1)+1,A2,c2,by rw[HON.out],by rw[qd,HON.out];rfl,by omega,?_,HNX.out,by rw[qd,HON.out] at ho2;exact ho2,(HBD.out.alloc hszd _).grown hg2 (by simp;omega) (fun q hq=>(zk HOD.out (by rw[HON.out];exact hq)).1)⟩
        intro s hs
        rcases zm.1 hs with hs | hs
        ·
         exact HOS.out s hs
        ·
         rw[ze.1 hs];exact hbs
       case measure=>simp[HON.out] <;> omega
   ·
    have i255:¬((j:Int)+1)<255:=by omega
    have hj5:j+1=255:=by omega
    have HDN:Hid (IsOrder (qm l) (qm os)):=HOR.out.full (by rw[qv,HON.out];exact hj5)
    have HLN:Hid ((qm os).length=j+1):=by unfold Hid;rw[qv,HON.out]
    have HST:Hid (yj (qm os)=os):=qdt os
    clear hj5
    go_wp2_with fail
    go_ret
    exact⟨qm os,A',c',by rw[HLN.out];first | rfl | simp,HDN.out,by rw[HLN.out,HST.out];exact HO.out,HB.out⟩
theorem headT(s:ByteArray)(k:Nat):(s.extract 0 k).data.toList=s.data.toList.take k:=headS s k
theorem tailT(s:ByteArray)(k:Nat):(s.extract k s.size).data.toList=s.data.toList.drop k:=by
 rw[qdq,qen]
 rw[qcd,qo (by rw[qy,qgi];omega)]
theorem app_strT(o t:ByteArray):(o++t).data.toList=o.data.toList++t.data.toList:=by rw[ByteArray.data_append,Array.toList_append]
theorem usL_nil(n:Nat):lv (usL n [])=List.replicate n (.bool false):=by
 unfold usL lv
 rw[qac]
 apply qco
 ·
  simp
 ·
  intro i h1 h2
  simp
theorem round_end{w wv:World}{z:Nat}{bag:List (List UInt8)}{ns:List ByteArray}{cs ks:List Nat}(hcnt:Cnt bag (qm ns) cs)(hsel:Sel bag (qm ns) ks)(hk:ks.length≤255)(hd:ks.length=255∨∀j,j<ns.length→j∈ks)(hns:∀j (hj:j<ns.length),ns[j].size≤8)
  {A5:Option Addr} {c5:Nat} (ho:wv.ownsRow z 9 1 (.slice A5 ks.length c5) ks.length (sv (ks.map fun j=>ns.getD j ⟨#[]⟩))) (hb:Below w.heap.size w wv) :
  Calls Tryz.prog 186 #[.slice A5 ks.length c5] wv fun r w'=>∃t A' c',r= .returned (.slice A' t.length c')∧qfa bag t∧w'.ownsRow w.heap.size 9 1 (.slice A' t.length c') t.length (sv (yj t))∧Below w.heap.size w w':=by
 have hlt:∀i (hi:i<ks.length),ks[i]<ns.length:=fun i hi=>by
  have:=hsel.lt _ (ql hi)
  rwa [qv] at this
 have h1:=refOrder_any (w:=wv) (ks.map fun j=>ns.getD j ⟨#[]⟩) (A:=A5) (c:=c5) (rd_own ho) (fun s hs=>by
  obtain⟨j,hj,rfl⟩:=zl.1 hs
  have hj2:=hsel.lt j hj
  rw[qv] at hj2
  rw[qla hj2]
  have:=hns j hj2
  omega) (by rw[q8];omega)
 rw[q8] at h1
 refine h1.mono ?_
 rintro r w' ⟨t,A',c',rfl,ht,hot,hbt⟩
 refine⟨t,A',c',rfl,⟨_,hsel.done hcnt hk (by rw[qv];exact hd) (best:=qm (ks.map fun j=>ns.getD j ⟨#[]⟩)) (by rw[qv,q8]) (fun i hi => ?_),ht⟩,jm hot hb.size,hb.trans (hbt.mono hb.size)⟩
 rw[yq _ i (by rw[q8];exact hi),yq ns _ (hlt i hi),j6,qla (hlt i hi)]
theorem refRound_any{w:World}(T S:List ByteArray){c d:Nat}{A B:Option Addr}(h:Rd w 0 w.heap.size A c (sv T))(hS:Rd w 0 w.heap.size B d (sv S))(h8:∀t∈qm T,qhm t=true)(hTl:T.length≤255)(hSl:S.length≤100)(hSb:∀s∈S,s.size≤100000)(hbag:(qfc (qm T) (qm S)).length≤1000000) :
  Calls Tryz.prog 160 #[.slice A T.length c,.slice B S.length d] w fun r w'=>∃t A' c',r= .returned (.slice A' t.length c')∧qfa (qfc (qm T) (qm S)) t∧w'.ownsRow w.heap.size 9 1 (.slice A' t.length c') t.length (sv (yj t))∧Below w.heap.size w w':=by
 have hl:=h.len
 have hm:=h.cap
 have hl2:=hS.len
 have hm2:=hS.cap
 rw[j7] at hl hl2
 unfold maxLen at hm hm2
 have H:=qa h
 have HS:=qa hS
 have H8:=qa h8
 have HSB:Hid (∀k (hk:k<S.length),S[k].size≤100000):=fun k hk=>hSb _ (ql hk)
 have HT8:Hid (∀t∈T,t.size≤100000):=fun t ht=>by
  have:=(qfo.1 (h8 _ (vn ht))).2
  rw[qgi] at this
  omega
 obtain⟨bag,hbg⟩:∃bag,qfc (qm T) (qm S)=bag:=⟨_,rfl⟩
 rw[hbg] at hbag
 rw[hbg]
 have HBG:=qa hbg
 have HBL:=qa hbag
 clear h hS h8 hSb hbg hbag
 go_enter Tryz.func160,Tryz.ntmps160
 go_wp2_with fail
 go_loopw [5,6,7] (fun x5 x6 x7 wr=>∃(k n:Nat) (P:List (List UInt8)) (ns:List ByteArray) (cs:List Nat) (A1 B1:Option Addr) (c1 d1:Nat),k≤S.length∧x7= .int .i64 (k:Int)∧x5= .slice A1 n c1∧x6= .slice B1 n d1∧n=ns.length∧
  Two wr w.heap.size (.slice A1 n c1) (.slice B1 n d1) ns cs∧Cnt P (qm ns) cs∧P++qfc (qm T) ((qm S).drop k)=bag∧Below w.heap.size w wr) (fun _ _ i _=>S.length-(intOf i).toNat)
 case atStart=>exact⟨0,0,[],[],[],none,none,0,0,qi _,rfl,rfl,rfl,rfl,Two.nil _ _,Cnt.nil,by rw[jy,HBG.out];rfl,Below.refl _ _⟩
 case round =>
  obtain⟨k,n,P,ns,cs,A1,B1,c1,d1,hk,rfl,rfl,rfl,hn,htwo,hcnt,hinv,hb⟩:=hrel
  have HN:=qa hn
  have HTW:=qa htwo
  have HC:=qa hcnt
  have HI:=qa hinv
  have HB:=qa hb
  clear hn htwo hcnt hinv hb
  by_cases hlt:k<S.length
  ·
   have ik:(k:Int)<(S.length:Int):=by omega
   obtain⟨b,off,rfl,_,hbh,hcell⟩:=(HS.out.below HB.out (qc _)).str hlt
   have hsz:=HSB.out k hlt
   have HP1:Hid (P++qal (qm T) [] S[k].data.toList++qfc (qm T) ((qm S).drop (k+1))=bag):=by
    unfold Hid
    rw[qp,←HI.out,bag_drop (k:=k) (S:=qm S) (by rw[qv];exact hlt),yq S k hlt]
   clear HI
   generalize S[k]=s0 at *
   go_wp2_with fail
   go_loopw [5,6,8,9] (fun x5 x6 x8 x9 wv=>∃(n:Nat) (t q:ByteArray) (P:List (List UInt8)) (ns:List ByteArray) (cs:List Nat) (A1 B1:Option Addr) (c1 d1:Nat),t.size≤s0.size∧q.size≤8∧x8= .string t∧x9= .string q∧x5= .slice A1 n c1∧x6= .slice B1 n d1∧n=ns.length∧
    Two wv w.heap.size (.slice A1 n c1) (.slice B1 n d1) ns cs∧Cnt P (qm ns) cs∧P++qal (qm T) q.data.toList t.data.toList++qfc (qm T) ((qm S).drop (k+1))=bag∧Below w.heap.size w wv) (fun _ _ x8 _ _=>(match x8 with | .string t=>t.size | _=>0))
   case atStart=>exact⟨n,s0,⟨#[]⟩,P,ns,cs,A1,B1,c1,d1,qc _,qi _,rfl,rfl,rfl,rfl,HN.out,HTW.out,HC.out,HP1.out,HB.out⟩
   case round =>
    clear HN HTW HC HP1 HB hcell
    obtain⟨n,t,q,P,ns,cs,A1,B1,c1,d1,ht,hq,rfl,rfl,rfl,rfl,hn,htwo,hcnt,hinv,hb⟩:=hrel
    have HN:=qa hn
    have HTW:=qa htwo
    have HC:=qa hcnt
    have HI:=qa hinv
    have HB:=qa hb
    clear hn htwo hcnt hinv hb
    by_cases h0:0<t.size
    ·
     have i0:(0:Int)<(t.size:Int):=by omega
     have htn:t.data.toList≠[]:=fun e=>by have h9:=qgi t;rw[e,j4] at h9;omega
     have hst1:=qhu (qm T) t.data.toList
     have hst2:=qks (T:=qm T) htn
     have hst3:=stepP_ok H8.out t.data.toList
     rw[qgi] at hst2
     have HPC:=qa (qio (qm T) q.data.toList htn)
     have HLG:=qa (fun w2 (hb2:Below w.heap.size w w2)=>qky (w:=w2) T t (H.out.below hb2 (qc _)) HT8.out (by omega) (by omega))
     have HSP:Hid (qdb (qm T) t.data.toList=if (qfi (qm T) 0 (-1) 0 t.data.toList).2=0 then 1 else (qfi (qm T) 0 (-1) 0 t.data.toList).2):=rfl
     generalize qfi (qm T) 0 (-1) 0 t.data.toList=v at *
     obtain⟨v1,v2⟩:=v
     have HSP2:Hid (qdb (qm T) t.data.toList=if v2=0 then 1 else v2):=HSP.out
     clear HSP htn
     generalize qdb (qm T) t.data.toList=st at *
     have hql:=qgi q
     by_cases hv0:v2=0
     ·
      obtain rfl:st=1:=by have:=HSP2.out;rw[if_pos hv0] at this;exact this
      subst hv0
      clear HSP2
      go_wp2_with fail
      refine(HLG.out _ HB.out).mono ?_
      rintro r w1 ⟨rfl,m,rfl⟩
      have hb1:Below w.heap.size w (wr.drewN m):=zj HB.out m
      have HT1:=qa (HTW.out.drewN m)
      generalize wr.drewN m=w1 at *
      have HB1:=qa hb1
      have hz1:=hb1.size
      clear hb1 HLG HTW HB
      have i8:(1:Int)≤(t.size:Int):=by omega
      have HPE:Hid (P.length+3≤100000000):=by
       have h1:=HBL.out
       rw[←HI.out,qd,qd] at h1
       unfold Hid
       omega
      have hps:(t.extract 0 1).size=1:=by rw[yt];omega
      have hts:(t.extract 1 t.size).size=t.size-1:=by rw[yt];omega
      have HHD:=qa (headT t 1)
      have HTL:=qa (tailT t 1)
      have HPS:=qa hps
      have HTS:=qa hts
      clear hps hts
      go_wp2_with fail
      refine(add_any (w:=w1) w.heap.size ns cs (t.extract 0 1) HN.out HT1.out P HC.out (by have:=HPE.out;omega) hz1).mono ?_
      rintro r w2 ⟨ns2,cs2,A2,B2,c2,d2,n2,rfl,hn2,htw2,hc2,hb2⟩
      have HN2:=qa hn2
      have HT2:=qa htw2
      have HC2:=qa hc2
      have HB2:Hid (Below w.heap.size w w2):=HB1.out.trans hb2
      have hz2:=HB2.out.size
      clear hn2 htw2 hc2 hb2 HN HT1 HC HB1
      by_cases hq0:q.size=0
      ·
       have hq1:q.toList.isEmpty=true:=by rw[z6,zh (hql.trans hq0)];rfl
       have HR:Hid ((P++[(t.extract 0 1).data.toList])++qal (qm T) (t.extract 0 1).data.toList (t.extract 1 t.size).data.toList++qfc (qm T) ((qm S).drop (k+1))=bag):=by
        unfold Hid
        rw[←HI.out,HPC.out,HHD.out,HTL.out,if_neg (fun e=>e.1 (zh (hql.trans hq0)))]
        simp only[qp,jd,yu]
       clear hq0 hql
       go_wp2_with fail
       go_roundw
       case rel=>exact⟨n2,t.extract 1 t.size,t.extract 0 1,_,ns2,cs2,A2,B2,c2,d2,by rw[HTS.out];omega,by rw[HPS.out];omega,rfl,rfl,rfl,rfl,HN2.out,HT2.out,HC2.out,HR.out,HB2.out⟩
       case measure =>
        show(t.extract 1 t.size).size<t.size
        rw[HTS.out];omega
      ·
       have hq1:q.toList.isEmpty=false:=by
        rw[z6]
        exact uj.2 (fun e=>hq0 (by rw[←hql,e];rfl))
       have hqn:q.data.toList≠[]:=fun e=>hq0 (by rw[←hql,e];rfl)
       by_cases hq8:q.size+1≤8
       ·
        have iq8:(q.size:Int)+1≤8:=by omega
        have HR:Hid ((P++[(t.extract 0 1).data.toList]++[(q++t.extract 0 1).data.toList])++qal (qm T) (t.extract 0 1).data.toList (t.extract 1 t.size).data.toList++qfc (qm T) ((qm S).drop (k+1))=bag):=by
         unfold Hid
         rw[app_strT,←HI.out,HPC.out,HHD.out,HTL.out,if_pos ⟨hqn,by rw[hql];exact hq8⟩]
         simp only[qp,jd,yu]
        clear hq0 hql hqn
        go_wp2_with fail
        refine(add_any (w:=w2) w.heap.size ns2 cs2 (q++t.extract 0 1) HN2.out HT2.out _ HC2.out (by rw[qd];have:=HPE.out;simp only[zy];omega) hz2).mono ?_
        rintro r w3 ⟨ns3,cs3,A3,B3,c3,d3,n3,rfl,hn3,htw3,hc3,hb3⟩
        have HN3:=qa hn3
        have HT3:=qa htw3
        have HC3:=qa hc3
        have HB3:Hid (Below w.heap.size w w3):=HB2.out.trans hb3
        clear hn3 htw3 hc3 hb3
        go_wp2_with fail
        go_roundw
        case rel=>exact⟨n3,t.extract 1 t.size,t.extract 0 1,_,ns3,cs3,A3,B3,c3,d3,by rw[HTS.out];omega,by rw[HPS.out];omega,rfl,rfl,rfl,rfl,HN3.out,HT3.out,HC3.out,HR.out,HB3.out⟩
        case measure =>
         show(t.extract 1 t.size).size<t.size
         rw[HTS.out];omega
       ·
        have iq8:¬(q.size:Int)+1≤8:=by omega
        have HR:Hid ((P++[(t.extract 0 1).data.toList])++qal (qm T) (t.extract 0 1).data.toList (t.extract 1 t.size).data.toList++qfc (qm T) ((qm S).drop (k+1))=bag):=by
         unfold Hid
         rw[←HI.out,HPC.out,HHD.out,HTL.out,if_neg (fun e=>hq8 (by have:=e.2;rw[hql] at this;exact this))]
         simp only[qp,jd,yu]
        clear hq0 hql hqn
        go_wp2_with fail
        go_roundw
        case rel=>exact⟨n2,t.extract 1 t.size,t.extract 0 1,_,ns2,cs2,A2,B2,c2,d2,by rw[HTS.out];omega,by rw[HPS.out];omega,rfl,rfl,rfl,rfl,HN2.out,HT2.out,HC2.out,HR.out,HB2.out⟩
        case measure =>
         show(t.extract 1 t.size).size<t.size
         rw[HTS.out];omega
     ·
      obtain rfl:st=v2:=by have:=HSP2.out;rw[if_neg hv0] at this;exact this
      clear HSP2
      have iv0:¬(st:Int)=0:=by omega
      have bv0:((st:Int)==0)=false:=by rw[q9];exact iv0
      go_wp2_with fail
      refine(HLG.out _ HB.out).mono ?_
      rintro r w1 ⟨rfl,m,rfl⟩
      have hb1:Below w.heap.size w (wr.drewN m):=zj HB.out m
      have HT1:=qa (HTW.out.drewN m)
      generalize wr.drewN m=w1 at *
      have HB1:=qa hb1
      have hz1:=hb1.size
      clear hb1 HLG HTW HB
      have i8:(st:Int)≤(t.size:Int):=by omega
      have HPE:Hid (P.length+3≤100000000):=by
       have h1:=HBL.out
       rw[←HI.out,qd,qd] at h1
       unfold Hid
       omega
      have hps:(t.extract 0 st).size=st:=by rw[yt];omega
      have hts:(t.extract st t.size).size=t.size-st:=by rw[yt];omega
      have HHD:=qa (headT t st)
      have HTL:=qa (tailT t st)
      have HPS:=qa hps
      have HTS:=qa hts
      clear hps hts
      go_wp2_with fail
      refine(add_any (w:=w1) w.heap.size ns cs (t.extract 0 st) HN.out HT1.out P HC.out (by have:=HPE.out;omega) hz1).mono ?_
      rintro r w2 ⟨ns2,cs2,A2,B2,c2,d2,n2,rfl,hn2,htw2,hc2,hb2⟩
      have HN2:=qa hn2
      have HT2:=qa htw2
      have HC2:=qa hc2
      have HB2:Hid (Below w.heap.size w w2):=HB1.out.trans hb2
      have hz2:=HB2.out.size
      clear hn2 htw2 hc2 hb2 HN HT1 HC HB1
      by_cases hq0:q.size=0
      ·
       have hq1:q.toList.isEmpty=true:=by rw[z6,zh (hql.trans hq0)];rfl
       have HR:Hid ((P++[(t.extract 0 st).data.toList])++qal (qm T) (t.extract 0 st).data.toList (t.extract st t.size).data.toList++qfc (qm T) ((qm S).drop (k+1))=bag):=by
        unfold Hid
        rw[←HI.out,HPC.out,HHD.out,HTL.out,if_neg (fun e=>e.1 (zh (hql.trans hq0)))]
        simp only[qp,jd,yu]
       clear hq0 hql
       go_wp2_with fail
       go_roundw
       case rel=>exact⟨n2,t.extract st t.size,t.extract 0 st,_,ns2,cs2,A2,B2,c2,d2,by rw[HTS.out];omega,by rw[HPS.out];omega,rfl,rfl,rfl,rfl,HN2.out,HT2.out,HC2.out,HR.out,HB2.out⟩
       case measure =>
        show(t.extract st t.size).size<t.size
        rw[HTS.out];omega
      ·
       have hq1:q.toList.isEmpty=false:=by
        rw[z6]
        exact uj.2 (fun e=>hq0 (by rw[←hql,e];rfl))
       have hqn:q.data.toList≠[]:=fun e=>hq0 (by rw[←hql,e];rfl)
       by_cases hq8:q.size+st≤8
       ·
        have iq8:(q.size:Int)+(st:Int)≤8:=by omega
        have HR:Hid ((P++[(t.extract 0 st).data.toList]++[(q++t.extract 0 st).data.toList])++qal (qm T) (t.extract 0 st).data.toList (t.extract st t.size).data.toList++qfc (qm T) ((qm S).drop (k+1))=bag):=by
         unfold Hid
         rw[app_strT,←HI.out,HPC.out,HHD.out,HTL.out,if_pos ⟨hqn,by rw[hql];exact hq8⟩]
         simp only[qp,jd,yu]
        clear hq0 hql hqn
        go_wp2_with fail
        refine(add_any (w:=w2) w.heap.size ns2 cs2 (q++t.extract 0 st) HN2.out HT2.out _ HC2.out (by rw[qd];have:=HPE.out;simp only[zy];omega) hz2).mono ?_
        rintro r w3 ⟨ns3,cs3,A3,B3,c3,d3,n3,rfl,hn3,htw3,hc3,hb3⟩
        have HN3:=qa hn3
        have HT3:=qa htw3
        have HC3:=qa hc3
        have HB3:Hid (Below w.heap.size w w3):=HB2.out.trans hb3
        clear hn3 htw3 hc3 hb3
        go_wp2_with fail
        go_roundw
        case rel=>exact⟨n3,t.extract st t.size,t.extract 0 st,_,ns3,cs3,A3,B3,c3,d3,by rw[HTS.out];omega,by rw[HPS.out];omega,rfl,rfl,rfl,rfl,HN3.out,HT3.out,HC3.out,HR.out,HB3.out⟩
        case measure =>
         show(t.extract st t.size).size<t.size
         rw[HTS.out];omega
       ·
        have iq8:¬(q.size:Int)+(st:Int)≤8:=by omega
        have HR:Hid ((P++[(t.extract 0 st).data.toList])++qal (qm T) (t.extract 0 st).data.toList (t.extract st t.size).data.toList++qfc (qm T) ((qm S).drop (k+1))=bag):=by
         unfold Hid
         rw[←HI.out,HPC.out,HHD.out,HTL.out,if_neg (fun e=>hq8 (by have:=e.2;rw[hql] at this;exact this))]
         simp only[qp,jd,yu]
        clear hq0 hql hqn
        go_wp2_with fail
        go_roundw
        case rel=>exact⟨n2,t.extract st t.size,t.extract 0 st,_,ns2,cs2,A2,B2,c2,d2,by rw[HTS.out];omega,by rw[HPS.out];omega,rfl,rfl,rfl,rfl,HN2.out,HT2.out,HC2.out,HR.out,HB2.out⟩
        case measure =>
         show(t.extract st t.size).size<t.size
         rw[HTS.out];omega
    ·
     have i0:¬(0:Int)<(t.size:Int):=by omega
     have ht0:t.data.toList=[]:=zh (by rw[qgi];omega)
     have HP2:Hid (P++qfc (qm T) ((qm S).drop (k+1))=bag):=by
      have:=HI.out
      rw[ht0,qm7,jb] at this
      exact this
     clear ht0 HI
     go_wp2_with fail
     go_roundw
     case rel=>exact⟨k+1,n,P,ns,cs,A1,B1,c1,d1,by omega,by go_num,rfl,rfl,HN.out,HTW.out,HC.out,HP2.out,HB.out⟩
     case measure=>simp[intOf] <;> omega
  ·
   have ik:¬(k:Int)<(S.length:Int):=by omega
   have hP:P=bag:=by
    rw[←HI.out,qdp (by rw[qv];omega)]
    simp[qfc]
   have HC2:Hid (Cnt bag (qm ns) cs):=by unfold Hid;rw[←hP];exact HC.out
   obtain⟨wy,hwy⟩:∃wy,wy=wr:=⟨_,rfl⟩
   subst hwy
   have hfew:=HC2.out.few
   rw[qv] at hfew
   have hnl:n≤1000000:=by have:=HBL.out;have:=HN.out;omega
   have HNS:Hid (∀j (hj:j<ns.length),ns[j].size≤8):=fun j hj=>by
    have h1:(qm ns)[j]'(by rw[qv];exact hj)∈bag:=(HC2.out.mem _).1 (ql _)
    rw[yq ns j hj,←HBG.out] at h1
    have:=bag_ok H8.out h1
    rwa [qgi] at this
   have HNC:Hid (n=cs.length):=by have h1:=HC2.out.len;rw[qv] at h1;exact HN.out.trans h1
   have hr1:Rd wy 0 wy.heap.size A1 c1 (sv ns):=by
    have h1:=HTW.out.o1
    rw[←HN.out] at h1
    exact rd_own h1
   have hr2:Rd wy 0 wy.heap.size B1 d1 (nz cs):=by
    have h1:=HTW.out.o2
    rw[←HNC.out] at h1
    exact rd_own h1
   obtain⟨w6,hmake,ho6,hg6⟩:=qic wy n (by omega)
   have hb6:Below wy.heap.size wy w6:=(Below.refl _ wy).grown hg6 (qc _) (fun q hq=>by cases hq)
   have hu:=(zk ho6 (k:=wy.heap.size) (by simp[Value.ownBlock])).2
   have hwz:=HB.out.size
   have HR1:=qa hr1
   have HR2:=qa hr2
   have HU6:=qa ho6
   have HB6:=qa hb6
   have HCN:=qa HC2.out.cnt
   clear hr1 hr2 ho6 hg6 hb6 HI HC hP hfew HTW
   go_wp2_with fail
   go_loopw [13] (fun x13 wv=>∃(ks:List Nat) (bs:List ByteArray) (A5:Option Addr) (c5:Nat),x13= .slice A5 ks.length c5∧bs=ks.map (fun j=>ns.getD j ⟨#[]⟩)∧ks.length≤255∧Sel bag (qm ns) ks∧
    wv.ownsRow wy.heap.size 4 1 (.slice (some ⟨wy.heap.size,0,none⟩) n n) n (lv (usL n ks))∧wv.ownsRow (wy.heap.size+1) 9 1 (.slice A5 ks.length c5) ks.length (sv bs)∧Below wy.heap.size wy wv∧wy.heap.size+1≤wv.heap.size) (fun x13 _=>(match x13 with | .slice _ m _=>255-m | _=>0))
   case atStart=>exact⟨[],[],none,0,rfl,rfl,qi _,Sel.nil _ _,by rw[usL_nil];exact HU6.out,zf _ _ _ _,HB6.out,hu⟩
   case round =>
    clear HU6 HB6
    obtain⟨ks,bs,A5,c5,rfl,hbs,hk5,hsel,hus,hbo,hbv,hzv⟩:=hrel
    obtain⟨wv,hwv⟩:∃wv,wv=wr:=⟨_,rfl⟩
    subst hwv
    have HBS:=qa hbs
    have HSL:=qa hsel
    have HUS:=qa hus
    have HBO:=qa hbo
    have HBV:=qa hbv
    clear hbs hsel hus hbo hbv
    by_cases h255:ks.length<255
    ·
     have i255:(ks.length:Int)<255:=by omega
     go_wp2_with fail
     go_loopw [15,16] (fun x15 x16 wi=>∃(i m:Nat) (kk:Int),i≤n∧x16= .int .i64 (i:Int)∧x15= .int .i64 kk∧qlm bag (qm ns) ks i kk∧wi=wv.drewN m) (fun _ x16 _=>n-(intOf x16).toNat)
     case atStart=>exact⟨0,0, -1,qi _,rfl,rfl,Or.inl ⟨rfl,fun j _ h=>absurd h (ja j)⟩,rfl⟩
     case round =>
      obtain⟨i,m,kk,hi,rfl,rfl,hlead,rfl⟩:=hrel
      have HLD:=qa hlead
      clear hlead
      by_cases hin:i<n
      ·
       have ii:(i:Int)<(n:Int):=by omega
       have hil:i<ns.length:=by have:=HN.out;omega
       have hic:i<cs.length:=by have:=HNC.out;omega
       have hcu0:=HUS.out.cells (g:=wy.heap.size) (by simp[Value.ownBlock]) i (.bool (decide (i∈ks))) (by rw[lv_get _ _ (by rw[qju];exact hin),usL_get _ hin])
       rw[lit_add] at hcu0
       by_cases hmem:i∈ks
       ·
        have hcu:wv.cell? ⟨wy.heap.size,i,none⟩=some (.bool true):=by rw[hcu0,qx hmem]
        have HL2:=qa (lead_used HLD.out hmem)
        clear hcu0 hmem
        go_wp2_with fail
        go_roundw
        case rel=>exact⟨i+1,m,kk,by omega,by go_num,rfl,HL2.out,rfl⟩
        case measure=>simp[intOf] <;> omega
       ·
        have hcu:wv.cell? ⟨wy.heap.size,i,none⟩=some (.bool false):=by rw[hcu0,qr hmem]
        clear hcu0
        obtain⟨b1,off1,rfl, -, -, -⟩:=(HR1.out.below HBV.out (qc _)).str hil
        obtain⟨b2,off2,rfl, -, -, -⟩:=Rd.num (zs:=cs.map fun(n:Nat)=>(n:Int)) (HR2.out.below HBV.out (qc _)) (k:=i) (by rw[q8];exact hic)
        have hsp:=spot_of (HR1.out.below HBV.out (qc _)) (HR2.out.below HBV.out (qc _)) hil hic (HNS.out i hil) (zb (HC2.out.low hic) HBL.out)
        rcases HLD.out with ⟨hk1,hall⟩ | ⟨k2,hk2,hkk,hki,hkn,hbt⟩
        ·
         subst hk1
         have HL2:Hid (qlm bag (qm ns) ks (i+1) (i:Int)):=lead_first hall (by rw[qv];exact hil) hmem
         clear hall hmem HLD
         obtain⟨t,z,G,hcn,hcc,lt,lz,hw1,hw2,lg⟩:∃t z G,Spot wv b1 off1 b2 off2 i t z G:=⟨_,_,_,hsp⟩
         clear hsp
         go_wp2_with fail
         go_quiet (fail)
         go_wp2_with fail
         go_quiet (fail)
         go_wp2_with fail
         go_roundw
         case rel=>exact⟨i+1,_,(i:Int),by omega,by go_num,rfl,HL2.out,by first | rfl | (rw[zt];rfl) | (rw[zt,zt])⟩
         case measure=>simp[intOf] <;> omega
        ·
         subst hkk
         have hkl:k2<ns.length:=by rw[qv] at hk2;exact hk2
         have hkc:k2<cs.length:=by have:=HN.out;have:=HNC.out;omega
         have hsq:=spot_of (HR1.out.below HBV.out (qc _)) (HR2.out.below HBV.out (qc _)) hkl hkc (HNS.out k2 hkl) (zb (HC2.out.low hkc) HBL.out)
         obtain⟨g1,g2,g3,g4⟩:=rival HC2.out hil hic hkl hkc hki hkn hmem hbt
         have hcmp:=fun w=>qer (w:=w) ns[i] ns[k2] (by have:=HNS.out i hil;omega) (by have:=HNS.out k2 hkl;omega)
         obtain⟨t,t2,z,z2,G,G2,zz,hs1,hs2,HCM,G1,G2',G3,G4⟩:∃(t t2:ByteArray) (z z2 G G2:Nat) (zz:Int),Spot wv b1 off1 b2 off2 i t z G∧Spot wv b1 off1 b2 off2 k2 t2 z2 G2∧
           Hid (∀w,Calls Tryz.prog 31 #[.string t,.string t2] w fun r w'=>r= .returned (.int .i64 zz)∧∃m,w'=w.drewN m)∧Hid (G2<G→qlm bag (qm ns) ks (i+1) (i:Int))∧Hid (G=G2→zz<0→qlm bag (qm ns) ks (i+1) (i:Int))∧
           Hid (G=G2→¬zz<0→qlm bag (qm ns) ks (i+1) (k2:Int))∧Hid (G<G2→qlm bag (qm ns) ks (i+1) (k2:Int)):=⟨_,_,_,_,_,_,_,hsp,hsq,hcmp,g1,g2,g3,g4⟩
         obtain⟨hcn,hcc,lt,lz,hw1,hw2,lg⟩:=hs1
         obtain⟨hcn2,hcc2,lt2,lz2,hw3,hw4,lg2⟩:=hs2
         have dk:decide ((k2:Int)<0)=false:=qr (by omega)
         have ik2:(k2:Int)<(n:Int):=by have:=HN.out;omega
         have nk2:k2<n:=by omega
         clear hbt hmem HLD hk2 hsp hsq g1 g2 g3 g4 hcmp
         by_cases hgt:G2<G
         ·
          have d1:decide (G2<G)=true:=qx hgt
          have HL2:=qa (G1.out hgt)
          clear hgt G1 G2' G3 G4 HCM
          go_wp2_with fail
          go_quiet (fail)
          go_wp2_with fail
          go_quiet (fail)
          go_wp2_with fail
          go_roundw
          case rel=>exact⟨i+1,_,(i:Int),by omega,by go_num,rfl,HL2.out,by first | rfl | (rw[zt];rfl) | (rw[zt,zt])⟩
          case measure=>simp[intOf] <;> omega
         ·
          have d1:decide (G2<G)=false:=qr hgt
          by_cases heq:G=G2
          ·
           have e1:((G:Int)==(G2:Int))=true:=by rw[heq];exact beq_self_eq_true _
           by_cases hz:zz<0
           ·
            have dz:decide (zz<0)=true:=qx hz
            have HL2:=qa (G2'.out heq hz)
            clear hgt heq G1 G2' G3 G4
            go_wp2_with fail
            go_quiet (fail)
            go_wp2_with fail
            go_quiet ((go_at_call 31;exact qes (HCM.out _)))
            go_wp2_with fail
            go_roundw
            case rel=>exact⟨i+1,_,(i:Int),by omega,by go_num,rfl,HL2.out,by first | rfl | (rw[zt];rfl) | (rw[zt,zt])⟩
            case measure=>simp[intOf] <;> omega
           ·
            have dz:decide (zz<0)=false:=qr hz
            have HL2:=qa (G3.out heq hz)
            clear hgt heq G1 G2' G3 G4
            go_wp2_with fail
            go_quiet (fail)
            go_wp2_with fail
            go_quiet ((go_at_call 31;exact qes (HCM.out _)))
            go_wp2_with fail
            go_roundw
            case rel=>exact⟨i+1,_,(k2:Int),by omega,by go_num,rfl,HL2.out,by first | rfl | (rw[zt];rfl) | (rw[zt,zt])⟩
            case measure=>simp[intOf] <;> omega
          ·
           have e1:((G:Int)==(G2:Int))=false:=by rw[q9];omega
           have HL2:=qa (G4.out (by omega))
           clear hgt heq G1 G2' G3 G4 HCM
           go_wp2_with fail
           go_quiet (fail)
           go_wp2_with fail
           go_quiet (fail)
           go_wp2_with fail
           go_roundw
           case rel=>exact⟨i+1,_,(k2:Int),by omega,by go_num,rfl,HL2.out,by first | rfl | (rw[zt];rfl) | (rw[zt,zt])⟩
           case measure=>simp[intOf] <;> omega
      ·
       have ii:¬(i:Int)<(n:Int):=by omega
       rcases HLD.out with ⟨hk1,hall⟩ | ⟨k2,hk2,hkk,hki,hkn,hbt⟩
       ·
        subst hk1
        have HALL:Hid (∀j,j<ns.length→j∈ks):=fun j hj=>hall j (by rw[qv];exact hj) (by have:=HN.out;omega)
        have hbl:Below w.heap.size w (wv.drewN m):=zj (HB.out.trans (HBV.out.mono hwz)) m
        have HBL2:=qa hbl
        have HO2:=qa (show(wv.drewN m).ownsRow (wy.heap.size+1) 9 1 (.slice A5 ks.length c5) ks.length (sv bs) from jv HBO.out (fun _ _=>rfl))
        have hbs:=HBS.out
        subst hbs
        clear hall hbl HLD
        go_wp2_with fail
        refine(round_end HC2.out HSL.out hk5 (Or.inr HALL.out) HNS.out HO2.out HBL2.out).mono ?_
        rintro r w' ⟨t,A',c',rfl,h1,h2,h3⟩
        go_wp2_with fail
        go_ret
        exact⟨t,A',c',rfl,h1,h2,h3⟩
       ·
        subst hkk
        have hk3:=hk2
        rw[qv] at hk3
        have hkn2:k2<n:=by omega
        have HSN:Hid (Sel bag (qm ns) (ks++[k2])):=HSL.out.snoc hk2 hkn (fun j hj hjn hne=>hbt j hj (by rw[qv] at hj;have:=HN.out;omega) hjn hne)
        obtain⟨b1,off1,rfl,_,hb1,hcn⟩:=(HR1.out.below HBV.out (qc _)).str hk3
        have HNK:Hid (ns.getD k2 ⟨#[]⟩=ns[k2]):=qla hk3 _
        obtain⟨t,hcn0,HNT⟩:∃t,wv.cell? ⟨b1,off1+k2,none⟩=some (.string t)∧Hid (ns.getD k2 ⟨#[]⟩=t):=⟨_,hcn,HNK.out⟩
        have hbsl:ks.length=bs.length:=by rw[HBS.out,q8]
        obtain⟨hfr,hcx,A6,c6,w6,hrun,ho6,hbo6,hb6,hz6⟩:=chosen (wv:=wv.drewN m) t (jv HUS.out (fun _ _=>rfl)) (jv HBO.out (fun _ _=>rfl)) hbsl hkn2 hkn (by omega) hzv
        have hcn3:((wv.drewN m).setCell ⟨wy.heap.size,k2,none⟩ (.bool true)).cell? ⟨b1,off1+k2,none⟩=some (.string t):=by
         rw[World.cell?_setCell_other]
         ·
          exact hcn0
         ·
          intro e
          injection e with e1 e2
          omega
        have hcn4:(wv.drewN m).cell? ⟨b1,off1+k2,none⟩=some (.string t):=hcn0
        have HU6:=qa ho6
        have HB6:=qa hbo6
        have HV6:Hid (Below wy.heap.size wy w6):=HBV.out.trans (zo (zj (Below.refl _ wv) m) hb6 (qc _))
        have HBSN:Hid (bs++[t]=(ks++[k2]).map fun j=>ns.getD j ⟨#[]⟩):=by
         unfold Hid
         rw[jl,←HBS.out,yc,vu,HNT.out]
        have ik2:(k2:Int)<(n:Int):=by omega
        have nk2:¬(k2:Int)<0:=by omega
        clear hbt hkn hk2 hcn hcn0 ho6 hbo6 hb6 HLD hbsl
        go_wp2_with (at_builtin;refine wpList_append_run rfl _ _ _ _ rfl rfl rfl hrun ?_)
        go_roundw
        case rel=>exact⟨ks++[k2],bs++[t],A6,c6,by rw[qd];rfl,HBSN.out,by rw[qd,qw,j4];omega,HSN.out,HU6.out,by rw[qd,qw,j4];exact HB6.out,HV6.out,hz6⟩
        case measure=>simp only[qd] <;> omega
    ·
     have i255:¬(ks.length:Int)<255:=by omega
     have hbl:Below w.heap.size w wv:=HB.out.trans (HBV.out.mono hwz)
     have HBL2:=qa hbl
     have hbs:=HBS.out
     subst hbs
     clear hbl
     go_wp2_with fail
     refine(round_end HC2.out HSL.out hk5 (Or.inl (by omega)) HNS.out HBO.out HBL2.out).mono ?_
     rintro r w' ⟨t,A',c',rfl,h1,h2,h3⟩
     go_wp2_with fail
     go_ret
     exact⟨t,A',c',rfl,h1,h2,h3⟩
end Go.Proofs.YtjfecojdagmacaaGreat
