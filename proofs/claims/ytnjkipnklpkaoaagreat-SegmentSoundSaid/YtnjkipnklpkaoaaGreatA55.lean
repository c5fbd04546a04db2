/-
  Lemmas.
-/
import Derived.Test.YtnjkipnklpkaoaaGreatA46
namespace Go.Proofs.YtnjkipnklpkaoaaGreat
open Go.RowKit
set_option maxRecDepth 20000
set_option maxHeartbeats 16000000
set_option linter.unusedSimpArgs false
set_option linter.unusedVariables false
theorem bsame_any{w:World}(xs ys:List Bool){lo h' lo2 h2:Nat}{A B:Option Addr}{c d:Nat}(hx:Rd w lo h' A c (lv xs))(hy:Rd w lo2 h2 B d (lv ys)) :
  Calls Tryz.prog 58 #[.slice A xs.length c,.slice B ys.length d] w fun r w'=>r= .returned (.bool (decide (xs=ys)))∧∃n,w.drewN n=w':=by
 have hl:=hx.len
 have hc:=hx.cap
 have hl2:=hy.len
 have hc2:=hy.cap
 rw[vk] at hl hl2
 unfold maxLen at hc hc2
 have HX:=qa hx
 have HY:=qa hy
 clear hx hy
 by_cases hlen:xs.length=ys.length
 ·
  have hne:((xs.length:Int) != (ys.length:Int))=false:=by rw[hlen];simp
  have HL:=qa hlen
  have hlen1:xs.length≤ys.length:=by omega
  have hlen2:ys.length≤xs.length:=by omega
  clear hlen
  go_enter Tryz.func58,Tryz.ntmps58
  go_wp2_with fail
  go_loopw [5] (fun i wr=>∃(k n:Nat),k≤xs.length∧i= .int .i64 (k:Int)∧xs.take k=ys.take k∧w.drewN n=wr) (fun i _=>xs.length-(intOf i).toNat)
  case atStart=>exact⟨0,0,qi _,rfl,rfl,rfl⟩
  case round =>
   obtain⟨k,n,hk,rfl,heq,rfl⟩:=hrel
   have HE:=qa heq
   clear heq
   by_cases hlt:k<xs.length
   ·
    have hlt2:k<ys.length:=by omega
    obtain⟨b1,o1,rfl,_,_,hcell1⟩:=HX.out.row hlt
    obtain⟨b2,o2,rfl,_,_,hcell2⟩:=HY.out.row hlt2
    have ht1:Hid (xs.take (k+1)=xs.take k++[xs[k]]):=by unfold Hid;exact qg hlt
    have ht2:Hid (ys.take (k+1)=ys.take k++[ys[k]]):=by unfold Hid;exact qg hlt2
    have hq:Hid (xs=ys→xs[k]=ys[k]):=fun h=>by subst h;rfl
    generalize xs[k]=x at *
    generalize ys[k]=y at *
    by_cases hxy:x=y
    ·
     subst hxy
     go_wp2_with fail
     go_quiet (fail)
     go_wp2
     go_roundw
     case rel=>exact⟨k+1,_,by omega,by go_num,by rw[ht1.out,ht2.out,HE.out],rfl⟩
     case measure=>simp[intOf];omega
    ·
     have hb:(!x==y)=true:=by simpa using hxy
     go_wp2_with fail
     go_quiet (fail)
     go_wp2
     go_ret
     exact⟨zf (ql fun h=>hxy (hq.out h)).symm,_,(zr _ _ _).symm⟩
   ·
    obtain rfl:k=xs.length:=by omega
    have hall:Hid (xs=ys):=by
     have h:=HE.out
     rw[yf,HL.out,yf] at h
     exact h
    go_wp2
    go_ret
    exact⟨zf (qp hall.out).symm,_,rfl⟩
 ·
  have hne:((xs.length:Int) != (ys.length:Int))=true:=by rw[bne_iff_ne];omega
  have HN:Hid (decide (xs=ys)=false):=ql fun h=>hlen (by rw[h])
  go_enter Tryz.func58,Tryz.ntmps58
  go_wp2
  go_ret
  exact⟨zf HN.out.symm,0,rfl⟩
theorem bsame_len{w:World}{lo h' lo2 h2 n m:Nat}{A B:Option Addr}{c d:Nat}(xs ys:List Bool)(b:Bool)(hx:Rd w lo h' A c (lv xs))(hy:Rd w lo2 h2 B d (lv ys))(hn:xs.length=n)(hm:ys.length=m)(he:decide (xs=ys)=b) :
  Calls Tryz.prog 58 #[.slice A n c,.slice B m d] w fun r w'=>r= .returned (.bool b)∧∃k,w.drewN k=w':=by
 subst hn hm he
 exact bsame_any xs ys hx hy
theorem ints_any{w:World}(xs ys:List Int){lo h' lo2 h2:Nat}{A B:Option Addr}{c d:Nat}(hx:Rd w lo h' A c (iv xs))(hy:Rd w lo2 h2 B d (iv ys)) :
  Calls Tryz.prog 57 #[.slice A xs.length c,.slice B ys.length d] w fun r w'=>r= .returned (.bool (decide (xs=ys)))∧∃n,w.drewN n=w':=by
 have hl:=hx.len
 have hc:=hx.cap
 have hl2:=hy.len
 have hc2:=hy.cap
 rw[ji] at hl hl2
 unfold maxLen at hc hc2
 have HX:=qa hx
 have HY:=qa hy
 clear hx hy
 by_cases hlen:xs.length=ys.length
 ·
  go_enter Tryz.func57,Tryz.ntmps57
  have HLEN:=qa hlen
  have hle:ys.length≤xs.length:=by omega
  have hge:xs.length≤ys.length:=by omega
  have hne:((xs.length:Int) != (ys.length:Int))=false:=by simp;omega
  clear hlen
  go_wp2_with fail
  go_loopw [5] (fun i wr=>∃k n:Nat,k≤xs.length∧i= .int .i64 (k:Int)∧xs.take k=ys.take k∧w.drewN n=wr) (fun i _=>xs.length-(intOf i).toNat)
  case atStart=>exact⟨0,0,qi _,rfl,rfl,rfl⟩
  case round =>
   obtain⟨k,n,hk,rfl,hf,rfl⟩:=hrel
   have HF:=qa hf
   clear hf
   by_cases hlt:k<xs.length
   ·
    obtain⟨b,off,rfl,_,_,hcell⟩:=HX.out.num hlt
    obtain⟨b2,off2,rfl,_,_,hcell2⟩:=HY.out.num (k:=k) (by omega)
    have hlt2:k<ys.length:=by omega
    have h1:Hid (xs.take (k+1)=xs.take k++[xs[k]]):=by unfold Hid;exact qg hlt
    have h2:Hid (ys.take (k+1)=ys.take k++[ys[k]]):=by unfold Hid;exact qg hlt2
    have h3:Hid (xs=ys→xs[k]=ys[k]):=by unfold Hid;rintro rfl;rfl
    generalize xs[k]=x at *
    generalize ys[k]=y at *
    by_cases hxy:x=y
    ·
     subst hxy
     go_wp2_with fail
     go_quiet (fail)
     go_wp2
     go_roundw
     case rel=>exact⟨k+1,_,by omega,by go_num,by rw[h1.out,h2.out,HF.out],rfl⟩
     case measure=>simp[intOf];omega
    ·
     have hb:(x != y)=true:=by simpa using hxy
     go_wp2_with fail
     go_quiet (fail)
     go_wp2
     go_ret
     exact⟨zf (ql fun h=>hxy (h3.out h)).symm,_,(zr ..).symm⟩
   ·
    obtain rfl:k=xs.length:=by omega
    go_wp2
    go_ret
    have e:xs=ys:=by
     have:=HF.out
     rw[yf,qo (by omega)] at this
     exact this
    exact⟨zf (qp e).symm,_,rfl⟩
 ·
  have hne:((xs.length:Int) != (ys.length:Int))=true:=by simp;omega
  have hx:Hid (xs≠ys):=by unfold Hid;rintro rfl;exact hlen rfl
  clear hlen
  go_enter Tryz.func57,Tryz.ntmps57
  go_wp2
  go_ret
  exact⟨zf (ql hx).symm,0,rfl⟩
theorem ints_len{w:World}{lo h' lo2 h2 n m:Nat}{A B:Option Addr}{c d:Nat}(xs ys:List Int)(b:Bool)(hx:Rd w lo h' A c (iv xs))(hy:Rd w lo2 h2 B d (iv ys))(hn:xs.length=n)(hm:ys.length=m)(he:decide (xs=ys)=b) :
  Calls Tryz.prog 57 #[.slice A n c,.slice B m d] w fun r w'=>r= .returned (.bool b)∧∃k,w.drewN k=w':=by
 subst hn hm he
 exact ints_any xs ys hx hy
theorem ints_inj{a b:List Nat}(h:zu a=zu b):a=b:=by
 have:=congrArg (List.map Int.toNat) h
 simpa[zu,ut,Function.comp_def] using this
theorem sameg_any{w:World}{lo hi lo' hi' b b':Nat}{v v':Value}{gs gs':List Nat}{rs rs':List Bool}(h:qok w lo hi v b gs rs)(h':qok w lo' hi' v' b' gs' rs')(hhi:hi≤w.heap.size)(hhi':hi'≤w.heap.size) :
  Calls Tryz.prog 25 #[v,v'] w fun r w'=>r= .returned (.bool (decide (b=b'∧gs=gs'∧rs=rs')))∧Below w.heap.size w w':=by
 obtain⟨A,c,B,d,rfl,h1,h2⟩:=h
 obtain⟨A',c',B',d',rfl,h1',h2'⟩:=h'
 obtain⟨w1,hw1⟩:∃w1,w.alloc (.cells #[.int .i64 (b:Int),.slice A gs.length c,.slice B rs.length d] 67)=w1:=⟨_,rfl⟩
 have B1:Hid (Below w.heap.size w w1):=by unfold Hid;rw[←hw1];exact(Below.refl _ w).alloc (qc _) _
 have hk:j6 w1 w.heap.size 67 #[.int .i64 (b:Int),.slice A gs.length c,.slice B rs.length d]:=by rw[←hw1];exact j6.new w _ _
 have hs1:w1.heap.size=w.heap.size+1:=by rw[←hw1];simp
 obtain⟨w2,hw2⟩:∃w2,w1.alloc (.cells #[.int .i64 (b':Int),.slice A' gs'.length c',.slice B' rs'.length d'] 67)=w2:=⟨_,rfl⟩
 have B2:Hid (Below w.heap.size w w2):=by unfold Hid;rw[←hw2];exact B1.out.alloc (by omega) _
 have hk':j6 w2 (w.heap.size+1) 67 #[.int .i64 (b':Int),.slice A' gs'.length c',.slice B' rs'.length d']:=by rw[←hw2,←hs1];exact j6.new w1 _ _
 have hk2:j6 w2 w.heap.size 67 #[.int .i64 (b:Int),.slice A gs.length c,.slice B rs.length d]:=by rw[←hw2];exact hk.alloc _
 have hc0:w2.cell? ⟨w.heap.size,0,none⟩=some (.int .i64 (b:Int)):=hk2.cell 0
 have hc1:w2.cell? ⟨w.heap.size,1,none⟩=some (.slice A gs.length c):=hk2.cell 1
 have hc2:w2.cell? ⟨w.heap.size,2,none⟩=some (.slice B rs.length d):=hk2.cell 2
 have hd0:w2.cell? ⟨w.heap.size+1,0,none⟩=some (.int .i64 (b':Int)):=hk'.cell 0
 have hd1:w2.cell? ⟨w.heap.size+1,1,none⟩=some (.slice A' gs'.length c'):=hk'.cell 1
 have hd2:w2.cell? ⟨w.heap.size+1,2,none⟩=some (.slice B' rs'.length d'):=hk'.cell 2
 have R1:=qa (h1.below B2.out hhi)
 have R2:=qa (h2.below B2.out hhi)
 have R1':=qa (h1'.below B2.out hhi')
 have R2':=qa (h2'.below B2.out hhi')
 clear h1 h2 h1' h2' hk hk' hk2
 by_cases hb:b=b'
 ·
  subst hb
  by_cases hg:gs=gs'
  ·
   have hg2:decide (zu gs=zu gs')=true:=qp (by rw[hg])
   by_cases hr:rs=rs'
   ·
    have hr2:decide (rs=rs')=true:=qp hr
    rw[qp (show b=b∧gs=gs'∧rs=rs' from ⟨rfl,hg,hr⟩)]
    have I:=qa (ints_len (zu gs) (zu gs') true R1.out R1'.out (zj _) (zj _) hg2)
    have J:=qa (fun m=>bsame_len rs rs' true (R2.out.drewN m) (R2'.out.drewN m) rfl rfl hr2)
    clear hg hr hg2 hr2
    go_enter Tryz.func25,Tryz.ntmps25
    go_wp2_with fail
    refine I.out.mono ?_
    rintro r w3 ⟨rfl,m,rfl⟩
    go_wp2_with fail
    refine(J.out m).mono ?_
    rintro r w4 ⟨rfl,m2,rfl⟩
    go_wp2_with fail
    go_ret
    exact⟨rfl,zg B2.out _⟩
   ·
    have hr2:decide (rs=rs')=false:=ql hr
    rw[ql (show ¬(b=b∧gs=gs'∧rs=rs') from fun h=>hr h.2.2)]
    have I:=qa (ints_len (zu gs) (zu gs') true R1.out R1'.out (zj _) (zj _) hg2)
    have J:=qa (fun m=>bsame_len rs rs' false (R2.out.drewN m) (R2'.out.drewN m) rfl rfl hr2)
    clear hg hr hg2 hr2
    go_enter Tryz.func25,Tryz.ntmps25
    go_wp2_with fail
    refine I.out.mono ?_
    rintro r w3 ⟨rfl,m,rfl⟩
    go_wp2_with fail
    refine(J.out m).mono ?_
    rintro r w4 ⟨rfl,m2,rfl⟩
    go_wp2_with fail
    go_ret
    exact⟨rfl,zg B2.out _⟩
  ·
   have hg2:decide (zu gs=zu gs')=false:=ql fun h=>hg (ints_inj h)
   rw[ql (show ¬(b=b∧gs=gs'∧rs=rs') from fun h=>hg h.2.1)]
   have I:=qa (ints_len (zu gs) (zu gs') false R1.out R1'.out (zj _) (zj _) hg2)
   clear hg hg2
   go_enter Tryz.func25,Tryz.ntmps25
   go_wp2_with fail
   refine I.out.mono ?_
   rintro r w3 ⟨rfl,m,rfl⟩
   go_wp2_with fail
   go_ret
   exact⟨rfl,zg B2.out m⟩
 ·
  have e1:((b:Int)==(b':Int))=false:=by rw[qr];omega
  have e2:¬(b:Int)=(b':Int):=by omega
  rw[ql (show ¬(b=b'∧gs=gs'∧rs=rs') from fun h=>hb h.1)]
  go_enter Tryz.func25,Tryz.ntmps25
  go_wp2_with fail
  go_ret
  exact⟨rfl,B2.out⟩
def qoo(l:List ByteArray):Nat:=(l.map fun s=>s.size).sum
def FewG(l:List ByteArray):Prop:=l.length≤150∧qoo l≤2000
instance (l:List ByteArray):Decidable (FewG l):=inferInstanceAs (Decidable (_∧_))
theorem sumG_take{l:List ByteArray}{k:Nat}(h:k<l.length):qoo (l.take (k+1))=qoo (l.take k)+l[k].size:=by
 unfold qoo
 rw[qg h,jg,qbe]
 simp
theorem sumG_le(l:List ByteArray)(k:Nat):qoo (l.take k)≤qoo l:=by
 have:qoo l=qoo (l.take k)+qoo (l.drop k):=by
  unfold qoo
  rw[←qbe,←jg,zx]
 omega
theorem FewG.size{l:List ByteArray}(h:FewG l):∀s∈l,s.size≤2000:=fun s hs=>by
 obtain⟨k,hk,rfl⟩:=zq hs
 have h1:=sumG_take hk
 have h2:=sumG_le l (k+1)
 have:=h.2
 omega
theorem refFewG_any{w:World}(l:List ByteArray){lo hi c:Nat}{A:Option Addr}(h:Rd w lo hi A c (sv l))(hs:∀s∈l,s.size≤4611686018427387904) :
  Calls Tryz.prog 24 #[.slice A l.length c] w fun r w'=>r= .returned (.bool (decide (FewG l)))∧∃m,w'=w.drewN m:=by
 have hl:=h.len
 have hc:=h.cap
 rw[yg] at hl
 unfold maxLen at hc
 have H:=qa h
 have HS:Hid (∀k (hk:k<l.length),l[k].size≤4611686018427387904):=fun k hk=>hs _ (qj hk)
 clear h hs
 obtain⟨v,hv⟩:∃v,decide (FewG l)=v:=⟨_,rfl⟩
 rw[hv]
 have HNO:Hid (∀k,2000<qoo (l.take k)→v=false):=fun k hk=>by
  rw[←hv]
  exact ql fun e=>by have:=sumG_le l k;have:=e.2;omega
 have HBIG:Hid (150<l.length→v=false):=fun hk=>by
  rw[←hv]
  exact ql fun e=>by have:=e.1;omega
 have HYES:Hid (l.length≤150→qoo (l.take l.length)≤2000→v=true):=fun h1 h2=>by
  rw[←hv]
  exact qp ⟨h1,by rwa [yf] at h2⟩
 clear hv
 go_enter Tryz.func24,Tryz.ntmps24
 go_wp2_with fail
 go_loopw [3,4] (fun x3 x4 wr=>∃k n m:Nat,k≤l.length∧k≤200∧x4= .int .i64 (k:Int)∧x3= .int .i64 (n:Int)∧n≤2000∧qoo (l.take k)=n∧wr=w.drewN m) (fun _ i _=>l.length-(intOf i).toNat)
 case atStart=>exact⟨0,0,0,qi _,qi _,rfl,rfl,qi _,rfl,rfl⟩
 case round =>
  obtain⟨k,n,m,hk,hk1,rfl,rfl,hn,hsum,rfl⟩:=hrel
  have HSM:=qa hsum
  clear hsum
  by_cases hlt:k<l.length
  ·
   have ik:(k:Int)<(l.length:Int):=by omega
   by_cases h100:k<200
   ·
    have i1:(k:Int)<200:=by omega
    obtain⟨b,off,rfl,_,_,hcell⟩:=H.out.str hlt
    have hsz:=HS.out k hlt
    have HST:Hid (qoo (l.take (k+1))=n+l[k].size):=by
     unfold Hid
     rw[sumG_take hlt,HSM.out]
    generalize l[k]=s at *
    by_cases hbig:2000<n+s.size
    ·
     have i2:(2000:Int)<(n:Int)+(s.size:Int):=by omega
     have HV:=qa (HNO.out (k+1) (by rw[HST.out];exact hbig))
     go_wp2_with fail
     go_ret
     exact⟨by rw[HV.out];rfl,m,rfl⟩
    ·
     have i2:¬(2000:Int)<(n:Int)+(s.size:Int):=by omega
     go_wp2_with fail
     go_roundw
     case rel=>exact⟨k+1,n+s.size,m,by omega,by omega,by go_num,by go_num,by omega,HST.out,rfl⟩
     case measure=>simp[intOf] <;> omega
   ·
    have i1:¬(k:Int)<200:=by omega
    have i3:¬(l.length:Int)≤150:=by omega
    have d3:decide ((l.length:Int)≤150)=false:=ql i3
    have HV:=qa (HBIG.out (by omega))
    go_wp2_with fail
    go_ret
    exact⟨by rw[HV.out];first | rfl | simp[i3],m,rfl⟩
  ·
   have ik:¬(k:Int)<(l.length:Int):=by omega
   have hke:k=l.length:=by omega
   have hvv:v=decide ((l.length:Int)≤150):=by
    by_cases h60:l.length≤150
    ·
     rw[qp (by omega:(l.length:Int)≤150)]
     exact HYES.out h60 (by rw[←hke,HSM.out];exact hn)
    ·
     rw[ql (by omega:¬(l.length:Int)≤150)]
     exact HBIG.out (by omega)
   have HV:=qa hvv
   clear hvv hke
   go_wp2_with fail
   go_ret
   exact⟨by rw[HV.out];rfl,m,rfl⟩
end Go.Proofs.YtnjkipnklpkaoaaGreat
